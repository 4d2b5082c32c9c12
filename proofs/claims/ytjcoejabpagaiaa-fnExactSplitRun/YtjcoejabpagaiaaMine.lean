/- Rows that an answer owns: a whole block that was laid behind block B. No program in sight. -/
import Derived.Test.YtjcoejabpagaiaaMark
import Derived.Test.YtjcoejabpagaiaaBox
import Derived.Laws.AppendOwn
namespace Go.Proofs.Ytjcoejabpagaiaa
set_option maxRecDepth 100000
open Go.RowKit Go.Deep

/-- n elements of k cells each in a block of one's own, or none at all. -/
def Mine (w : World) (B : Nat) (ty : TypeId) (k : Nat) (a : Option Addr) (p n : Nat) (f : Nat → Value) : Prop :=
  (a = none ∧ p = 0 ∧ n = 0) ∨ ∃ g cur, a = some ⟨g, 0, none⟩ ∧ B ≤ g ∧ w.heap[g]? = some (.cells cur ty) ∧ n * k ≤ cur.size ∧ ∀ j, j < n * k → cur[j]? = some (f j)

theorem Mine.block {w w' : World} {B : Nat} {ty : TypeId} {k : Nat} {a : Option Addr} {p n : Nat} {f : Nat → Value} (h : Mine w B ty k a p n f) (hb : ∀ g, B ≤ g → g < w.heap.size → w'.heap[g]? = w.heap[g]?) : Mine w' B ty k a p n f := by
  rcases h with h | ⟨g, cur, ha, hB, hh, hn, hc⟩
  · exact .inl h
  · exact .inr ⟨g, cur, ha, hB, (hb g hB (Array.getElem?_eq_some_iff.1 hh).1).trans hh, hn, hc⟩
theorem Mine.next {w w' : World} {B : Nat} {ty : TypeId} {k : Nat} {a : Option Addr} {p n : Nat} {f : Nat → Value} (h : Mine w B ty k a p n f) (hb : Below w.heap.size w w') : Mine w' B ty k a p n f := h.block fun g _ hg => hb.block g hg
theorem Mine.mv {w w' : World} {B x : Nat} {ty : TypeId} {k : Nat} {a : Option Addr} {p n : Nat} {f : Nat → Value} (h : Mine w B ty k a p n f) (hm : Mv x w w') (hx : x < B) : Mine w' B ty k a p n f := h.block fun g hB hg => hm.block g hg (by omega)
theorem Mine.base {w : World} {B B' : Nat} {ty : TypeId} {k : Nat} {a : Option Addr} {p n : Nat} {f : Nat → Value} (h : Mine w B ty k a p n f) (hB : B' ≤ B) : Mine w B' ty k a p n f := by
  rcases h with h | ⟨g, cur, ha, hg, r⟩
  · exact .inl h
  · exact .inr ⟨g, cur, ha, Nat.le_trans hB hg, r⟩
theorem Mine.hid {w : World} {B : Nat} {ty : TypeId} {k : Nat} {a : Option Addr} {p n : Nat} {f : Nat → Value} (h : Mine w B ty k a p n f) : Hid (Mine w B ty k a p n f) := h
theorem Mine.congr {w : World} {B : Nat} {ty : TypeId} {k : Nat} {a : Option Addr} {p n : Nat} {f f' : Nat → Value} (h : Mine w B ty k a p n f) (e : ∀ j, j < n * k → f j = f' j) : Mine w B ty k a p n f' := by
  rcases h with h | ⟨g, cur, ha, hg, hh, hn, hc⟩
  · exact .inl h
  · exact .inr ⟨g, cur, ha, hg, hh, hn, fun j hj => (hc j hj).trans (congrArg some (e j hj))⟩

/-- What it holds, by its places. -/
theorem Mine.at {w : World} {B : Nat} {ty : TypeId} {k : Nat} {a : Option Addr} {p n : Nat} {f : Nat → Value} (h : Mine w B ty k a p n f) : n = 0 ∨ ∃ g, a = some ⟨g, 0, none⟩ ∧ B ≤ g ∧ g < w.heap.size ∧ ∀ j, j < n * k → w.cell? ⟨g, j, none⟩ = some (f j) := by
  rcases h with h | ⟨g, cur, ha, hg, hh, hn, hc⟩
  · exact .inl h.2.2
  · exact .inr ⟨g, ha, hg, (Array.getElem?_eq_some_iff.1 hh).1, fun j hj => (BoxIs.cell (show BoxIs w g cur ty from hh) j).trans (hc j hj)⟩
/-- What it gives those who write into it (x: a block's number where there is none). -/
theorem Mine.mark {w : World} {B : Nat} {ty : TypeId} {k : Nat} {a : Option Addr} {p n : Nat} {f : Nat → Value} (h : Mine w B ty k a p n f) (x : Nat) : ∃ g, (n = 0 ∨ a = some ⟨g, 0, none⟩) ∧ (g = x ∨ a = some ⟨g, 0, none⟩ ∧ B ≤ g ∧ g < w.heap.size) ∧ ∀ j, j < n * k → (∃ v, w.cell? ⟨g, j, none⟩ = some v) ∧ w.frozen? ⟨g, j, none⟩ = false := by
  rcases h with h | ⟨g, cur, ha, hg, hh, hn, hc⟩
  · exact ⟨x, .inl h.2.2, .inl rfl, fun j hj => by rw [h.2.2, Nat.zero_mul] at hj; omega⟩
  · have hb : BoxIs w g cur ty := hh
    exact ⟨g, .inr ha, .inr ⟨ha, hg, (Array.getElem?_eq_some_iff.1 hh).1⟩, fun j hj => ⟨⟨_, (hb.cell j).trans (hc j hj)⟩, hb.free j⟩⟩
theorem Mine.lt {w : World} {B : Nat} {ty : TypeId} {k : Nat} {a : Option Addr} {p n : Nat} {f : Nat → Value} (h : Mine w B ty k a p n f) : ∀ g, a = some ⟨g, 0, none⟩ → g < w.heap.size := by
  intro g e
  rcases h with h | ⟨g', cur, ha, hg, hh, hn, hc⟩
  · rw [h.1] at e; cases e
  · rw [ha] at e
    simp only [Option.some.injEq, Addr.mk.injEq, and_true] at e
    subst e
    exact (Array.getElem?_eq_some_iff.1 hh).1
theorem rowIs_mark {w : World} {g n : Nat} {t : TypeId} {f : Nat → Value} (h : w.rowIs g t n f) : ∀ j, j < n → (∃ v, w.cell? ⟨g, j, none⟩ = some v) ∧ w.frozen? ⟨g, j, none⟩ = false := fun j hj => ⟨⟨_, h.cell hj⟩, h.frozen j⟩
theorem rowIs_mv {w w' : World} {g x n : Nat} {t : TypeId} {f : Nat → Value} (h : w.rowIs g t n f) (hm : Mv x w w') (hx : g ≠ x) : w'.rowIs g t n f := h.of_block (hm.block g h.lt hx)
/-- A row that a call built by appending. -/
theorem mine_of {w : World} {B : Nat} {ty : TypeId} {k : Nat} {v : Value} {n : Nat} {xs : List Value} (h : w.ownsRow B ty k v n xs) : ∃ a p, v = .slice a n p ∧ Mine w B ty k a p n (fun j => xs.getD j (.bool false)) := by
  obtain ⟨hl, h⟩ := h
  rcases h with ⟨rfl, h0⟩ | ⟨g, cap, cur, rfl, hg, hh, hle, hcap, hsz, htake⟩
  · subst h0
    exact ⟨none, 0, rfl, .inl ⟨rfl, rfl, rfl⟩⟩
  · have hnk : n * k ≤ cur.size := by rw [hsz]; exact Nat.mul_le_mul_right k hle
    refine ⟨some ⟨g, 0, none⟩, cap, rfl, .inr ⟨g, cur, rfl, hg, hh, hnk, fun j hj => ?_⟩⟩
    have h1 : (cur.toList.take (n * k))[j]? = cur[j]? := by rw [List.getElem?_take, if_pos hj]; simp
    rw [← h1, htake]
    simp [List.getD, List.getElem?_eq_getElem (show j < xs.length by omega)]
/-- A row that a call laid. -/
theorem mine_row {w : World} {B g : Nat} {ty : TypeId} {k n : Nat} {f : Nat → Value} (h : w.rowIs g ty (n * k) f) (hB : B ≤ g) : Mine w B ty k (some ⟨g, 0, none⟩) n n f := by
  obtain ⟨cur, hc, hs, hf⟩ := h
  exact .inr ⟨g, cur, rfl, hB, hc, by omega, hf⟩

end Go.Proofs.Ytjcoejabpagaiaa
