/- The law FnSought, walked. -/
import Derived.Test.YtljmfdcilnbjaacDrawEs
import Derived.Test.YtljmfdcilnbjaacSeekI
import Derived.Test.YtljmfdcilnbjaacSeek
import Derived.Test.YtljmfdcilnbjaacKOrd
namespace Go.Proofs.Ytljmfdcilnbjaac
set_option maxRecDepth 100000
open Go.RowKit Go.Deep

def entsOf (es : List En) : Ents := ⟨fun i => (es.getD i ⟨⟨#[]⟩, 0, 0, ⟨#[]⟩⟩).u, fun i => (es.getD i ⟨⟨#[]⟩, 0, 0, ⟨#[]⟩⟩).q, fun i => (es.getD i ⟨⟨#[]⟩, 0, 0, ⟨#[]⟩⟩).k, fun i => (es.getD i ⟨⟨#[]⟩, 0, 0, ⟨#[]⟩⟩).x⟩

theorem OwnE.entAt {w : World} {B g cap : Nat} {es : List En} (h : OwnE w B g cap es) : EntAt w w.heap.size (some ⟨g, 0, none⟩) es.length (entsOf es) := by
  refine .inr ⟨g, 0, rfl, h.lt.2, fun i hi => ?_⟩
  have hg : es[i]? = some (es.getD i ⟨⟨#[]⟩, 0, 0, ⟨#[]⟩⟩) := by rw [List.getD, List.getElem?_eq_getElem hi]; rfl
  obtain ⟨c0, c1, c2, c3⟩ := cellsE_get es i _ hg
  rw [Nat.zero_add]
  exact ⟨h.cell c0, h.cell c1, h.cell c2, h.cell c3⟩

/-- Where the key belongs, what is ahead of it is ahead in the row, and nothing else. -/
theorem sought {E : Ents} {len n : Nat} {u : ByteArray} {q k : Int} (h : rowOkB E len = true) (hk : keyOkB u q k = true) (hp : PlaceAt E len u q k n) (j : Nat) (hj : j < len) : keyCmpI (E.U j) (E.Q j) (E.K j) u q k < 0 ↔ j < n := by
  rw [keyCmp_ok (keyOk_of_ent ((rowOk_out h).2 j hj).1) hk]
  show ordK E u q k j < 0 ↔ j < n
  refine ⟨fun ho => ?_, fun hn => hp.2.1 j hn⟩
  refine Classical.byContradiction fun hn => ?_
  exact hp.2.2 (by omega) (row_mono h hk n j (by omega) hj ho)

theorem laws_bigK (a : Option Addr) (len cap : Nat) (hl : len ≤ maxLen) (w : World) :
    Calls Try.prog 5 #[.slice a len cap] w fun e w' => e = .returned (.bool (decide (1048576 < len))) ∧ w = w' := by
  unfold maxLen at hl
  by_cases h : 1048576 < len
  · have h' : (1048576 : Int) < (len : Int) := by omega
    go_enter Try.func5, Try.ntmps5
    go_wp2
    go_ret
    exact ⟨congrArg (fun b => Ending.returned (.bool b)) (decide_eq_true h).symm, rfl⟩
  · have h' : ¬ ((1048576 : Int) < (len : Int)) := by omega
    go_enter Try.func5, Try.ntmps5
    go_wp2
    go_ret
    exact ⟨rfl, rfl⟩

theorem open_rdK (W : World) (a : Option Addr) (len cap : Nat) (W0 : World) (h0 : Below W0.heap.size W0 W) :
    Calls Try.prog 18 #[.slice a len cap] W fun e w' => e = .returned (.pointer (some ⟨W.heap.size, 0, none⟩)) ∧ Rd W0 w' W.heap.size a len cap ∧ Below W.heap.size W w' := by
  go_enter Try.func18, Try.ntmps18
  go_wp2
  go_ret
  refine ⟨rfl, ⟨h0.size, by simp, h0.trans ((Below.refl _ _).alloc h0.size _), ?_, ⟨0, Nat.zero_le _, ?_⟩, ?_⟩, (Below.refl _ _).alloc (Nat.le_refl _) _⟩
  · simp
  · simp
  · simp

def KBox (w : World) (F : Nat) (u : ByteArray) (q k : Int) : Prop := w.heap[F]? = some (.cells #[.string u, .int .i64 q, .int .i64 k] 34)
theorem KBox.below {w w' : World} {F : Nat} {u : ByteArray} {q k : Int} (h : KBox w F u q k) (hb : Below w.heap.size w w') : KBox w' F u q k := (hb.block F (Array.getElem?_eq_some_iff.1 h).1).trans h
theorem KBox.cells {w : World} {F : Nat} {u : ByteArray} {q k : Int} (h : KBox w F u q k) : w.cell? ⟨F, 0, none⟩ = some (.string u) ∧ w.cell? ⟨F, 1, none⟩ = some (.int .i64 q) ∧ w.cell? ⟨F, 2, none⟩ = some (.int .i64 k) :=
  ⟨cell_of_row _ _ _ _ _ _ h, cell_of_row _ _ _ _ _ _ h, cell_of_row _ _ _ _ _ _ h⟩
theorem EntAt.keep {w w' : World} {a : Option Addr} {n : Nat} {E : Ents} (h : EntAt w w.heap.size a n E) (hb : Below w.heap.size w w') : EntAt w' w'.heap.size a n E := (h.below hb).mono hb.size

end Go.Proofs.Ytljmfdcilnbjaac
