/- Small facts that all rows share. No program in sight. -/
import Derived.Test.YtjcoejabpagaiaaBase
import Derived.Test.YtjcoejabpagaiaaOwn
import Derived.Deep.OwnRows
namespace Go.Proofs.Ytjcoejabpagaiaa
set_option maxRecDepth 100000
open Go.RowKit Go.Deep

theorem entRow_below {w w' : World} {B g n : Nat} {t : TypeId} {f : Nat → Value} (h : w.rowIs g t n f) (hb : Below B w w') (hg : g < B) : w'.rowIs g t n f := h.of_block (hb.block g hg)

theorem ret_boolE {a b : Bool} (h : a = b) : Ending.returned (.bool a) = .returned (.bool b) := by rw [h]

theorem below1 (w : World) (o : Obj) : Below w.heap.size w (w.alloc o) := (Below.refl _ _).alloc (Nat.le_refl _) _

theorem hidRowB {w : World} {g n : Nat} {t : TypeId} {f : Nat → Value} (h : w.rowIs g t n f) : Hid (w.rowIs g t n f) := h

theorem held_callE {P : Program} {f : FuncId} {args : Array Value} {w2 : World} {v : Value} {S : World → Prop} (hk : ∀ a b, S a → Below a.heap.size a b → S b) (hS : S w2)
    (h : Calls P f args w2 fun e w' => e = .returned v ∧ Below w2.heap.size w2 w') : Calls P f args w2 fun e w' => e = .returned v ∧ S w' :=
  h.mono fun _ _ h => ⟨h.1, hk _ _ hS h.2⟩

end Go.Proofs.Ytjcoejabpagaiaa
