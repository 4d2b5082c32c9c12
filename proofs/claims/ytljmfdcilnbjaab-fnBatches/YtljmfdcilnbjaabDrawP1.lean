/- What the laws of chapter 1 draw. -/
import Derived.Test.YtljmfdcilnbjaabDraw
import Derived.Test.YtljmfdcilnbjaabText
import Derived.Test.YtljmfdcilnbjaabFixed
namespace Go.Proofs.Ytljmfdcilnbjaab
set_option maxRecDepth 100000
open Go.RowKit

/-- The reader that is opened over what came in. -/
theorem open_rd (W : World) (a : Option Addr) (len cap : Nat) (W0 : World) (h0 : Below W0.heap.size W0 W) :
    Calls Try.prog 31 #[.slice a len cap] W fun e w' => e = .returned (.pointer (some ⟨W.heap.size, 0, none⟩)) ∧ Rd W0 w' W.heap.size a len cap ∧ Below W.heap.size W w' := by
  go_enter Try.func31, Try.ntmps31
  go_wp2
  go_ret
  refine ⟨rfl, ⟨h0.size, by simp, h0.trans ((Below.refl _ _).alloc h0.size _), ?_, ⟨0, Nat.zero_le _, ?_⟩, ?_⟩, (Below.refl _ _).alloc (Nat.le_refl _) _⟩
  · simp
  · simp
  · simp

end Go.Proofs.Ytljmfdcilnbjaab
