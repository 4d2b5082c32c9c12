/- A block that holds just these cells. No program in sight. -/
import Derived.Test.YtljmfdcilnbjaabDraw
namespace Go.Proofs.Ytljmfdcilnbjaab
set_option maxRecDepth 100000
open Go.RowKit

def BoxIs (w : World) (F : Nat) (cs : Array Value) (t : TypeId) : Prop := w.heap[F]? = some (.cells cs t)

theorem BoxIs.new (w : World) (cs : Array Value) (t : TypeId) {g : Nat} (hg : g = w.heap.size) : BoxIs (w.alloc (.cells cs t)) g cs t := by subst hg; exact heap_alloc_new w _
theorem BoxIs.lt {w : World} {F : Nat} {cs : Array Value} {t : TypeId} (h : BoxIs w F cs t) : F < w.heap.size := (Array.getElem?_eq_some_iff.1 h).1
theorem BoxIs.below {w w' : World} {F B : Nat} {cs : Array Value} {t : TypeId} (h : BoxIs w F cs t) (hb : Below B w w') (hF : F < B) : BoxIs w' F cs t := (hb.block F hF).trans h
theorem BoxIs.next {w w' : World} {F : Nat} {cs : Array Value} {t : TypeId} (h : BoxIs w F cs t) (hb : Below w.heap.size w w') : BoxIs w' F cs t := h.below hb h.lt
theorem BoxIs.mv {w w' : World} {F g : Nat} {cs : Array Value} {t : TypeId} (h : BoxIs w F cs t) (hm : Mv g w w') (hg : F ≠ g) : BoxIs w' F cs t := (hm.block F h.lt hg).trans h
theorem BoxIs.cell {w : World} {F : Nat} {cs : Array Value} {t : TypeId} (h : BoxIs w F cs t) (j : Nat) : w.cell? ⟨F, j, none⟩ = cs[j]? := by
  have h' : w.heap[F]? = some (.cells cs t) := h
  simp [World.cell?, h']
theorem BoxIs.free {w : World} {F : Nat} {cs : Array Value} {t : TypeId} (h : BoxIs w F cs t) (j : Nat) : w.frozen? ⟨F, j, none⟩ = false := by
  have h' : w.heap[F]? = some (.cells cs t) := h
  simp [World.frozen?, h']
theorem BoxIs.hid {w : World} {F : Nat} {cs : Array Value} {t : TypeId} (h : BoxIs w F cs t) : Hid (BoxIs w F cs t) := h

end Go.Proofs.Ytljmfdcilnbjaab
