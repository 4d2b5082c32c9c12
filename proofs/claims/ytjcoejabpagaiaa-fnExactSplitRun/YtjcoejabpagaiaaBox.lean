/- A block that holds just these cells. No program in sight. -/
import Derived.Test.YtjcoejabpagaiaaMv
import Derived.Test.YtjcoejabpagaiaaEntRow
namespace Go.Proofs.Ytjcoejabpagaiaa
set_option maxRecDepth 100000
open Go.RowKit

def BoxIs (w : World) (F : Nat) (cs : Array Value) (t : TypeId) : Prop := w.heap[F]? = some (.cells cs t)

theorem BoxIs.new (w : World) (cs : Array Value) (t : TypeId) {g : Nat} (hg : g = w.heap.size) : BoxIs (w.alloc (.cells cs t)) g cs t := by subst hg; exact heap_alloc_new w _
theorem BoxIs.lt {w : World} {F : Nat} {cs : Array Value} {t : TypeId} (h : BoxIs w F cs t) : F < w.heap.size := (Array.getElem?_eq_some_iff.1 h).1
theorem BoxIs.below {w w' : World} {F B : Nat} {cs : Array Value} {t : TypeId} (h : BoxIs w F cs t) (hb : Below B w w') (hF : F < B) : BoxIs w' F cs t := (hb.block F hF).trans h
theorem BoxIs.next {w w' : World} {F : Nat} {cs : Array Value} {t : TypeId} (h : BoxIs w F cs t) (hb : Below w.heap.size w w') : BoxIs w' F cs t := h.below hb h.lt
theorem BoxIs.mv {w w' : World} {F g : Nat} {cs : Array Value} {t : TypeId} (h : BoxIs w F cs t) (hm : Mv g w w') (hg : F ≠ g) : BoxIs w' F cs t := (hm.block F h.lt hg).trans h
theorem BoxIs.cell {w : World} {F : Nat} {cs : Array Value} {t : TypeId} (h : BoxIs w F cs t) (j : Nat) : w.cell? ⟨F, j, none⟩ = cs[j]? := by
  have h' : w.heap[F]? = some (.cells cs t) := h
  simp [World.cell?, h']
theorem BoxIs.free {w : World} {F : Nat} {cs : Array Value} {t : TypeId} (h : BoxIs w F cs t) (j : Nat) : w.frozen? ⟨F, j, none⟩ = false := by
  have h' : w.heap[F]? = some (.cells cs t) := h
  simp [World.frozen?, h']
theorem BoxIs.hid {w : World} {F : Nat} {cs : Array Value} {t : TypeId} (h : BoxIs w F cs t) : Hid (BoxIs w F cs t) := h

theorem BoxIs.set {w : World} {F : Nat} {cs : Array Value} {t : TypeId} (h : BoxIs w F cs t) (j : Nat) (v : Value) : BoxIs (w.setCell ⟨F, j, none⟩ v) F (cs.setIfInBounds j v) t := by
  have h' : w.heap[F]? = some (.cells cs t) := h
  unfold BoxIs World.setCell
  simp only [Array.getElem?_modify, if_true, h']
  rfl
theorem BoxIs.set_other {w : World} {F : Nat} {cs : Array Value} {t : TypeId} (h : BoxIs w F cs t) {p : Addr} (hp : p.block ≠ F) (v : Value) : BoxIs (w.setCell p v) F cs t := by
  unfold BoxIs
  rw [Below.heap_setCell _ _ _ _ (fun e => hp e.symm)]
  exact h
theorem rowIs_set {w : World} {g n : Nat} {t : TypeId} {f : Nat → Value} (h : w.rowIs g t n f) {p : Addr} (hp : p.block ≠ g) (v : Value) : (w.setCell p v).rowIs g t n f :=
  h.of_block (Below.heap_setCell _ _ _ _ (fun e => hp e.symm))

end Go.Proofs.Ytjcoejabpagaiaa
