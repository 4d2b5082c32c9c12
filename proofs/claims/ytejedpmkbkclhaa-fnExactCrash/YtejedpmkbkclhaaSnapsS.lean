/- SnapsOk of the model. (By gen_snaps.py.) -/
import Derived.Test.YtejedpmkbkclhaaSnaps
import Derived.Deep.RegionHeld3
namespace Go.Proofs.Ytejedpmkbkclhaa
set_option maxRecDepth 100000
open Go.RowKit Go.Deep

theorem idx_back (j len : Nat) (h : j + 1 < len) (hl : len ≤ 1048576) : IntKind.i64.wrap (((j + 1 : Nat) : Int) - 1) = (j : Int) ∧ IntKind.i64.wrap ((j : Int) + 1 - 1) = (j : Int) ∧ wrap64 ((j : Int) + 1 - 1) = (j : Int) ∧ IntKind.i64.wrap (j : Int) = (j : Int) ∧ wrap64 (j : Int) = (j : Int) ∧ (j : Int) < (len : Int) ∧ (0 : Int) ≤ (j : Int) ∧ (0 : Int) < (j : Int) + 1 ∧ (0 : Int) < ((j + 1 : Nat) : Int) ∧ ¬ ((j : Int) + 1 < 0) :=
  ⟨by rw [IntKind.wrap_i64]; omega, by rw [IntKind.wrap_i64]; omega, by unfold wrap64; omega, by rw [IntKind.wrap_i64]; omega, by unfold wrap64; omega, by omega, by omega, by omega, by omega, by omega⟩

theorem l1In_below (x lo hi : Int) (w : World) : Calls Try.prog 63 #[.int .i64 x, .int .i64 lo, .int .i64 hi] w fun e w' => e = .returned (.bool (decide (lo ≤ x ∧ x ≤ hi))) ∧ Below w.heap.size w w' :=
  (spec_l1In x lo hi w).mono fun _ w' h => ⟨h.1, by rw [← h.2]; exact Below.refl _ _⟩

end Go.Proofs.Ytejedpmkbkclhaa
