/- The model's l8Put: an entry put into a row of entries, where its key belongs. -/
import Derived.Test.YtljmfdcilnbjaabPutO
import Derived.Test.YtljmfdcilnbjaabSortW
import Derived.Test.YtljmfdcilnbjaabReg
import Derived.Test.YtljmfdcilnbjaabBox
namespace Go.Proofs.Ytljmfdcilnbjaab
set_option maxRecDepth 100000
open Go.RowKit Go.Deep Go.Sort

theorem ents_one (O : Ops) (q : Int) (l : List Nat) (k : Nat) : l.map (opEn O q) ++ [⟨O.U k, q + (k : Int), O.K k, O.X k⟩] = (l ++ [k]).map (opEn O q) := by rw [List.map_append]; rfl

theorem cfB_val (O : Ops) (q : Int) {x k : Nat} (h : x ≠ k) : cfB O q x k = if ltB O q x k then -1 else 1 := by
  have hl : ltB O q x k = decide (cfB O q x k < 0) := rfl
  have hv : cfB O q x k = -1 ∨ cfB O q x k = 1 := by
    unfold cfB keyLess orI
    rcases cmpS_cases (O.U x) (O.U k) with ⟨a, _, _⟩ | ⟨a, _, _⟩ | ⟨a, _, _⟩
    · simp [a]
    · rw [a]
      rcases cmpI_cases (q + (k : Int)) (q + (x : Int)) with ⟨b, _, l⟩ | ⟨b, _, l⟩ | ⟨b, _, l⟩
      · simp [b]
      · exact absurd (by omega) h
      · simp [b]
    · simp [a]
  rcases hv with e | e <;> rw [hl, e] <;> simp

/-- Row number i of a row of one's own. -/
theorem OwnE.ent {w : World} {B g cap : Nat} {O : Ops} {q : Int} {m : List Nat} (h : OwnE w B g cap (m.map (opEn O q))) {i x : Nat} (hi : m[i]? = some x) :
    w.cell? ⟨g, i * 4, none⟩ = some (.string (O.U x)) ∧ w.cell? ⟨g, i * 4 + 1, none⟩ = some (.int .i64 (q + (x : Int))) ∧ w.cell? ⟨g, i * 4 + 2, none⟩ = some (.int .i64 (O.K x)) ∧ w.cell? ⟨g, i * 4 + 3, none⟩ = some (.string (O.X x)) := by
  obtain ⟨a, b, c, d⟩ := cellsE_get (m.map (opEn O q)) i (opEn O q x) (by rw [List.getElem?_map, hi]; rfl)
  exact ⟨h.cell a, h.cell b, h.cell c, h.cell d⟩

/-- How far the world at hand is from the first. -/
def Far (w : World) (g : Nat) (x : World) : Prop := Below w.heap.size w x ∧ w.heap.size + 1 ≤ x.heap.size ∧ g < x.heap.size
theorem Far.step {w x y : World} {g : Nat} (h : Far w g x) (hb : Below x.heap.size x y) : Far w g y :=
  ⟨h.1.trans (hb.mono h.1.size), Nat.le_trans h.2.1 hb.size, Nat.lt_of_lt_of_le h.2.2 hb.size⟩
theorem Far.stepB {w x y : World} {g : Nat} (h : Far w g x) (hb : Below (w.heap.size + 1) x y) : Far w g y :=
  ⟨h.1.trans (hb.mono (Nat.le_succ _)), Nat.le_trans h.2.1 hb.size, Nat.lt_of_lt_of_le h.2.2 hb.size⟩

end Go.Proofs.Ytljmfdcilnbjaab
