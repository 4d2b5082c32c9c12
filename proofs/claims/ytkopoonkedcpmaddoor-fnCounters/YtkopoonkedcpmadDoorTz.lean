/- math/bits.TrailingZeros64, over its table; how often 2 divides. -/
import Derived.Test.YtkopoonkedcpmadDoorRows
import Derived.Test.YtkopoonkedcpmadDoorBase
import Derived.Laws.Bits64b
import Derived.Lib.TrailingZeros
namespace Go.Proofs.YtkopoonkedcpmadDoor
open Go.RowKit

/-- The library's table in its variable, the only one of the program. -/
def TabAt (w : World) : Prop := ∀ j, j < 64 → w.cell? ⟨0, j, none⟩ = some (.int .u8 ((Lib.deBruijn64tab.getD j 0 : Nat) : Int))

theorem TabAt.below {w w' : World} {B : Nat} (h : TabAt w) (hb : Below B w w') (hB : 0 < B) : TabAt w' := fun j hj => (hb.cell (p := ⟨0, j, none⟩) hB).trans (h j hj)
theorem TabAt.pos {w : World} (h : TabAt w) : 0 < w.heap.size := block_lt_of_cell (h 0 (by omega))

set_option maxHeartbeats 1000000 in
theorem tz64_core (x k idx : Nat) (w : World) (hx0 : ((x : Int) == 0) = false)
    (key : IntKind.u64.wrap (bits BinOp.and IntKind.u64 (x : Int) (IntKind.u64.wrap (-(x : Int))) * 285870213051353865) / 288230376151711744 = (idx : Int))
    (hi : idx < 64) (hk : k < 64) (hcell : w.cell? ⟨0, idx, none⟩ = some (.int .u8 (k : Int))) :
    Calls Tryd.prog 26 #[.int .u64 x] w fun e w' => e = .returned (.int .i64 k) ∧ w = w' := by
  go_enter Tryd.func26, Tryd.ntmps26
  go_wp2_with (simp only [key])
  go_ret
  exact ⟨rfl, rfl⟩

theorem tz64_zero (w : World) :
    Calls Tryd.prog 26 #[.int .u64 0] w fun e w' => e = .returned (.int .i64 64) ∧ w = w' := by
  go_enter Tryd.func26, Tryd.ntmps26
  go_wp2
  go_ret
  exact ⟨rfl, rfl⟩

theorem tz64_key (x a : Nat) (hx : x < 18446744073709551616) (hx0 : x ≠ 0) (hlow : x &&& (18446744073709551616 - x) = a) :
    IntKind.u64.wrap (bits BinOp.and IntKind.u64 (x : Int) (IntKind.u64.wrap (-(x : Int))) * 285870213051353865) / 288230376151711744 = ((a * 285870213051353865 % 18446744073709551616 / 288230376151711744 : Nat) : Int) := by
  have e1 : IntKind.u64.wrap (-(x : Int)) = ((18446744073709551616 - x : Nat) : Int) := by rw [IntKind.wrap_u64]; omega
  rw [e1, bits_and_u64_nat x _ hx (by omega), hlow, IntKind.wrap_u64]
  omega

theorem lib_tz64 (x : Nat) (hx : x < 18446744073709551616) (w : World) (hT : TabAt w) :
    Calls Tryd.prog 26 #[.int .u64 x] w fun e w' => e = .returned (.int .i64 (Lib.ctz 64 x : Nat)) ∧ w = w' := by
  by_cases hx0 : x = 0
  · subst hx0
    exact tz64_zero w
  · obtain ⟨hlow, hk⟩ := Lib.lowest_bit 64 x hx0 hx
    obtain ⟨hi, htab⟩ := Lib.deBruijn64_at _ hk
    have hcell := hT _ hi
    rw [htab] at hcell
    exact tz64_core x _ _ w (by simp; omega) (tz64_key x _ hx hx0 hlow) hi hk hcell

theorem ctzFrom_skip : ∀ (k f y : Nat), (∀ i, i < k → y / 2 ^ i % 2 = 0) → Lib.ctzFrom (f + k) y = k + Lib.ctzFrom f (y / 2 ^ k)
  | 0, f, y, _ => by simp
  | k + 1, f, y, h => by
    have h0 : y % 2 = 0 := by have := h 0 (by omega); simpa using this
    have ih := ctzFrom_skip k f (y / 2) (fun i hi => by
      have := h (i + 1) (by omega)
      rw [Nat.pow_succ, Nat.mul_comm, ← Nat.div_div_eq_div_mul] at this
      exact this)
    rw [show f + (k + 1) = (f + k) + 1 by omega, Lib.ctzFrom, if_neg (by omega), ih, Nat.div_div_eq_div_mul, Nat.pow_succ, Nat.mul_comm (2 ^ k)]
    omega

theorem ctz_at (k y : Nat) (hk : k < 64) (h : ∀ i, i < k → y / 2 ^ i % 2 = 0) (h1 : y / 2 ^ k % 2 = 1) : Lib.ctz 64 y = k := by
  have hy : y ≠ 0 := fun e => by subst e; simp at h1
  obtain ⟨f, hf⟩ : ∃ f, 64 = (f + 1) + k := ⟨64 - k - 1, by omega⟩
  unfold Lib.ctz
  rw [if_neg hy, hf, ctzFrom_skip k (f + 1) y h, Lib.ctzFrom, if_pos h1]
  omega

theorem ctz_ge (k y : Nat) (hk : k ≤ 64) (h : ∀ i, i < k → y / 2 ^ i % 2 = 0) : k ≤ Lib.ctz 64 y := by
  unfold Lib.ctz
  split
  · exact hk
  · obtain ⟨f, hf⟩ : ∃ f, 64 = f + k := ⟨64 - k, by omega⟩
    rw [hf, ctzFrom_skip k f y h]
    omega

theorem ctzFrom_le : ∀ (f y : Nat), Lib.ctzFrom f y ≤ f
  | 0, y => by simp [Lib.ctzFrom]
  | f + 1, y => by
    have := ctzFrom_le f (y / 2)
    unfold Lib.ctzFrom
    split <;> omega
theorem ctz_le (y : Nat) : Lib.ctz 64 y ≤ 64 := by
  unfold Lib.ctz
  split
  · omega
  · exact ctzFrom_le 64 y

/-- The rank of what stands above the place. -/
def rankOf (y : Nat) : Nat := min (1 + Lib.ctz 64 y) 58

theorem rankOf_bd (y : Nat) : 1 ≤ rankOf y ∧ rankOf y ≤ 58 := by unfold rankOf; omega
theorem rank_at {k y : Nat} (hk : k < 57) (h : ∀ i, i < k → y / 2 ^ i % 2 = 0) (h1 : y / 2 ^ k % 2 = 1) : rankOf y = 1 + k := by
  unfold rankOf
  rw [ctz_at k y (by omega) h h1]
  omega
theorem rank_full {y : Nat} (h : ∀ i, i < 57 → y / 2 ^ i % 2 = 0) : rankOf y = 58 := by
  have := ctz_ge 57 y (by omega) h
  unfold rankOf
  omega

end Go.Proofs.YtkopoonkedcpmadDoor
