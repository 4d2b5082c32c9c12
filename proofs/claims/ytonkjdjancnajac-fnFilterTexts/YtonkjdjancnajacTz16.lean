/- math/bits.TrailingZeros16, over its table; the lowest bit of a row, and the row without it. -/
import Derived.Test.YtonkjdjancnajacRows
import Derived.Test.YtonkjdjancnajacBase
import Derived.Lib.TrailingZeros
namespace Go.Proofs.Ytonkjdjancnajac
set_option maxRecDepth 100000
open Go.RowKit

/-- The library's table in its variable, the only one of the program. -/
def TabAt (w : World) : Prop := ∀ j, j < 32 → w.cell? ⟨0, j, none⟩ = some (.int .u8 ((Lib.deBruijn32tab.getD j 0 : Nat) : Int))

theorem TabAt.below {w w' : World} {B : Nat} (h : TabAt w) (hb : Below B w w') (hB : 0 < B) : TabAt w' := fun j hj => (hb.cell (p := ⟨0, j, none⟩) hB).trans (h j hj)
theorem TabAt.pos {w : World} (h : TabAt w) : 0 < w.heap.size := block_lt_of_cell (h 0 (by omega))

theorem tz16_key (x a : Nat) (hx : x < 65536) (hx0 : x ≠ 0) (hlow : x &&& (65536 - x) = a) :
    (bits BinOp.and IntKind.u16 (x : Int) (IntKind.u16.wrap (-(x : Int)))) % 4294967296 * 125613361 % 4294967296 / 134217728 = ((a * 125613361 % 4294967296 / 134217728 : Nat) : Int) := by
  have e1 : IntKind.u16.wrap (-(x : Int)) = ((65536 - x : Nat) : Int) := by
    have : IntKind.u16.wrap (-(x : Int)) = -(x : Int) % 65536 := by simp [IntKind.wrap, IntKind.signed, IntKind.bits]
    omega
  rw [e1, u16_and_nat x _ hx (by omega), hlow]
  omega

/-- A row without its lowest bit. -/
theorem and_pred (z m : Nat) : (2 ^ z * (2 * m + 1)) &&& (2 ^ z * (2 * m + 1) - 1) = 2 ^ (z + 1) * m := by
  have hp : 0 < (2 : Nat) ^ z := Nat.pow_pos (by omega)
  have e : 2 ^ z * (2 * m + 1) - 1 = 2 ^ z * (2 * m) + (2 ^ z - 1) := by
    rw [Nat.mul_add, Nat.mul_one]; omega
  rw [e]
  apply Nat.eq_of_testBit_eq
  intro i
  rw [Nat.testBit_and, Nat.testBit_two_pow_mul_add _ (by omega), Nat.mul_comm (2 ^ z), Nat.testBit_mul_two_pow, Nat.mul_comm (2 ^ (z + 1)), Nat.testBit_mul_two_pow]
  by_cases h : i < z
  · simp [h, show ¬ z ≤ i by omega, show ¬ z + 1 ≤ i by omega]
  · obtain ⟨j, rfl⟩ : ∃ j, i = z + j := ⟨i - z, by omega⟩
    simp only [show z ≤ z + j by omega, decide_true, Bool.true_and, show ¬ z + j < z by omega, if_false, show z + j - z = j by omega]
    rcases j with _ | j
    · simp [show ¬ z + 1 ≤ z by omega]
    · have e1 : (2 * m + 1) / 2 = m := by omega
      have e2 : 2 * m / 2 = m := by omega
      rw [Nat.testBit_succ, Nat.testBit_succ, e1, e2]
      simp [show z + 1 ≤ z + (j + 1) by omega, show z + (j + 1) - (z + 1) = j by omega]

/-- What row of the bytes B from pl on comes to, its first k bits. -/
def xb (B : Nat → Nat) (pl row : Nat) : Nat → Nat
  | 0 => 0
  | k + 1 => if row / 2 ^ k % 2 = 1 then xb B pl row k ^^^ B (pl + k) else xb B pl row k

theorem xb_lt {B : Nat → Nat} {pl row : Nat} (hB : ∀ i, B i < 256) : ∀ k, xb B pl row k < 256
  | 0 => by simp [xb]
  | k + 1 => by
    have := xb_lt (pl := pl) (row := row) hB k
    unfold xb
    split
    · exact Nat.xor_lt_two_pow (n := 8) this (hB _)
    · exact this

theorem xb_skip {B : Nat → Nat} {pl row k : Nat} : ∀ d, (∀ j, k ≤ j → j < k + d → row / 2 ^ j % 2 = 0) → xb B pl row (k + d) = xb B pl row k
  | 0, _ => rfl
  | d + 1, h => by
    have h1 := h (k + d) (by omega) (by omega)
    rw [← Nat.add_assoc, xb, if_neg (by omega)]
    exact xb_skip d fun j a b => h j a (by omega)

/-- The lowest bit of what is left of a row behind k bits. -/
theorem left_low {row k : Nat} (h0 : row / 2 ^ k ≠ 0) (hr : row < 65536) : ∃ z m, k ≤ z ∧ z < 16 ∧ row / 2 ^ k * 2 ^ k = 2 ^ z * (2 * m + 1) ∧ Lib.ctz 16 (row / 2 ^ k * 2 ^ k) = z ∧
    (∀ j, k ≤ j → j < z → row / 2 ^ j % 2 = 0) ∧ row / 2 ^ z % 2 = 1 ∧ row / 2 ^ (z + 1) * 2 ^ (z + 1) = 2 ^ (z + 1) * m := by
  have hle : row / 2 ^ k * 2 ^ k ≤ row := Nat.div_mul_le_self _ _
  have hp : 0 < (2 : Nat) ^ k := Nat.pow_pos (by omega)
  have hx0 : 0 < row / 2 ^ k * 2 ^ k := Nat.mul_pos (Nat.pos_of_ne_zero h0) hp
  obtain ⟨m, hm, hz⟩ := Lib.ctzFrom_spec 16 (row / 2 ^ k * 2 ^ k) hx0 (by omega)
  generalize hze : Lib.ctzFrom 16 (row / 2 ^ k * 2 ^ k) = z at hm hz
  have hctz : Lib.ctz 16 (row / 2 ^ k * 2 ^ k) = z := by unfold Lib.ctz; rw [if_neg (by omega), hze]
  -- bits of the rest
  have hbit : ∀ j, k ≤ j → row / 2 ^ j = row / 2 ^ k * 2 ^ k / 2 ^ j := by
    intro j hj
    obtain ⟨d, rfl⟩ : ∃ d, j = k + d := ⟨j - k, by omega⟩
    rw [Nat.pow_add, ← Nat.div_div_eq_div_mul, ← Nat.div_div_eq_div_mul, Nat.mul_div_cancel _ hp]
  have hkz : k ≤ z := by
    apply Nat.le_of_not_lt
    intro hlt
    obtain ⟨d, rfl⟩ : ∃ d, k = z + 1 + d := ⟨k - z - 1, by omega⟩
    have hpz : 0 < (2 : Nat) ^ z := Nat.pow_pos (by omega)
    have h2 : row / 2 ^ (z + 1 + d) * 2 ^ (z + 1 + d) / 2 ^ z = 2 * m + 1 := by rw [hm, Nat.mul_div_cancel_left _ hpz]
    have h3 : row / 2 ^ (z + 1 + d) * 2 ^ (z + 1 + d) / 2 ^ z = row / 2 ^ (z + 1 + d) * 2 ^ (d + 1) := by
      rw [show z + 1 + d = z + (d + 1) by omega, Nat.pow_add 2 z (d + 1), Nat.mul_comm (2 ^ z), ← Nat.mul_assoc, Nat.mul_div_cancel _ hpz]
    have h4 : row / 2 ^ (z + 1 + d) * 2 ^ (d + 1) = 2 * (row / 2 ^ (z + 1 + d) * 2 ^ d) := by rw [Nat.pow_succ, ← Nat.mul_assoc, Nat.mul_comm]
    omega
  refine ⟨z, m, hkz, hz, hm, hctz, fun j hkj hjz => ?_, ?_, ?_⟩
  · rw [hbit j hkj, hm]
    obtain ⟨d, rfl⟩ : ∃ d, z = j + (d + 1) := ⟨z - j - 1, by omega⟩
    have hpj : 0 < (2 : Nat) ^ j := Nat.pow_pos (by omega)
    rw [Nat.pow_add 2 j, Nat.mul_assoc, Nat.mul_div_cancel_left _ hpj, Nat.pow_succ, Nat.mul_assoc, Nat.mul_left_comm, Nat.mul_mod_right]
  · have hpz : 0 < (2 : Nat) ^ z := Nat.pow_pos (by omega)
    rw [hbit z hkz, hm, Nat.mul_div_cancel_left _ hpz]; omega
  · have hpz : 0 < (2 : Nat) ^ (z + 1) := Nat.pow_pos (by omega)
    have e : row / 2 ^ (z + 1) = m := by
      rw [hbit (z + 1) (by omega), hm, Nat.pow_succ, ← Nat.div_div_eq_div_mul, Nat.mul_div_cancel_left _ (Nat.pow_pos (by omega))]
      omega
    rw [e, Nat.mul_comm]

end Go.Proofs.Ytonkjdjancnajac
