/- TakeVar, of the program and of the model. -/
import Derived.Test.YtplbhgcibfajaaaRows
import Derived.Test.YtplbhgcibfajaaaBase
import Derived.Test.YtplbhgcibfajaaaClone
namespace Go.Proofs.Ytplbhgcibfajaaa
set_option maxRecDepth 100000
open Go.RowKit

/-- The number that s has from byte i on (n: what stands ahead of it), and behind which byte it ends. -/
def tva (s : ByteArray) : Nat → Nat → Int → Option (Int × Nat)
  | 0, _, _ => none
  | f + 1, i, n =>
    if i < s.size then
      if i = 9 ∧ 1 < bt s i then none
      else if bt s i < 128 then (if 0 < i ∧ bt s i = 0 then none else some (n + 128 ^ i * bt s i, i + 1))
      else tva s f (i + 1) (n + 128 ^ i * (bt s i - 128))
    else none

def takeVar (s : ByteArray) : Value :=
  match tva s 10 0 0 with
  | none => .tuple #[.int .u64 0, .string ⟨#[]⟩, .bool false]
  | some (n, k) => .tuple #[.int .u64 n, .string (s.extract k s.size), .bool true]

theorem ret_take_none {s : ByteArray} (h : tva s 10 0 0 = none) : Ending.returned (.tuple #[.int .u64 0, .string ⟨#[]⟩, .bool false]) = .returned (takeVar s) := by
  rw [takeVar, h]
theorem ret_take_some {s : ByteArray} {n : Int} {k : Nat} (h : tva s 10 0 0 = some (n, k)) {m : Int} (hm : m = n) : Ending.returned (.tuple #[.int .u64 m, .string (s.extract k s.size), .bool true]) = .returned (takeVar s) := by
  rw [takeVar, h, hm]

theorem tva_step (s : ByteArray) (k : Nat) (n : Int) (h : k < 10) : tva s (10 - k) k n =
    if k < s.size then
      if k = 9 ∧ 1 < bt s k then none
      else if bt s k < 128 then (if 0 < k ∧ bt s k = 0 then none else some (n + 128 ^ k * bt s k, k + 1))
      else tva s (10 - (k + 1)) (k + 1) (n + 128 ^ k * (bt s k - 128))
    else none := by
  have e : 10 - k = (10 - (k + 1)) + 1 := by omega
  rw [e]
  rfl

theorem tva_end (s : ByteArray) (k : Nat) (n : Int) (h : s.size ≤ k ∨ 10 ≤ k) : tva s (10 - k) k n = none := by
  rcases Nat.lt_or_ge k 10 with h1 | h1
  · rw [tva_step s k n h1, if_neg (by omega)]
  · rw [show 10 - k = 0 by omega]; rfl

/-- 'n | x << (7 k)', where n has k groups. -/
theorem or_group (n x : Int) (k : Nat) (hk : k ≤ 9) (h0 : 0 ≤ n) (h1 : n < 128 ^ k) (hx0 : 0 ≤ x) (hx1 : x < 128) (h9 : k = 9 → x ≤ 1) : bits .or .u64 n (IntKind.u64.wrap (x * 2 ^ (7 * k))) = n + 128 ^ k * x := by
  have e : (128 : Int) ^ k = 2 ^ (7 * k) := by rw [Int.pow_mul]; rfl
  have hb : n + 2 ^ (7 * k) * x < 18446744073709551616 := by
    rw [e] at h1
    rcases Nat.lt_or_ge k 9 with h | h
    · have : k = 0 ∨ k = 1 ∨ k = 2 ∨ k = 3 ∨ k = 4 ∨ k = 5 ∨ k = 6 ∨ k = 7 ∨ k = 8 := by omega
      rcases this with rfl | rfl | rfl | rfl | rfl | rfl | rfl | rfl | rfl <;> omega
    · obtain rfl : k = 9 := by omega
      have := h9 rfl
      omega
  have hp : 0 ≤ (2 : Int) ^ (7 * k) * x := Int.mul_nonneg (Int.pow_nonneg (by omega)) hx0
  rw [Int.mul_comm x, IntKind.wrap_u64, Int.emod_eq_of_lt hp (by omega), or_u64 n x (7 * k) h0 (by rw [← e]; exact h1) hx0 hb, e]

theorem group_lt (n x : Int) (k : Nat) (h1 : n < 128 ^ k) (hx1 : x ≤ 127) : n + 128 ^ k * x < 128 ^ (k + 1) := by
  have hp : (0 : Int) < 128 ^ k := Int.pow_pos (by omega)
  have : (128 : Int) ^ k * x ≤ 128 ^ k * 127 := Int.mul_le_mul_of_nonneg_left hx1 (by omega)
  rw [Int.pow_succ]
  omega
theorem group_nonneg (n x : Int) (k : Nat) (h0 : 0 ≤ n) (hx0 : 0 ≤ x) : 0 ≤ n + 128 ^ k * x := by
  have hp : (0 : Int) ≤ 128 ^ k * x := Int.mul_nonneg (Int.pow_nonneg (by omega)) hx0
  omega

def varAt (s : ByteArray) : Value :=
  match tva s 10 0 0 with
  | none => .tuple #[.int .u64 0, .int .i64 0]
  | some (n, k) => .tuple #[.int .u64 n, .int .i64 k]

theorem ret_var_none {s : ByteArray} (h : tva s 10 0 0 = none) : Ending.returned (.tuple #[.int .u64 0, .int .i64 0]) = .returned (varAt s) := by
  rw [varAt, h]
theorem ret_var_some {s : ByteArray} {n : Int} {k : Nat} (h : tva s 10 0 0 = some (n, k)) {m i : Int} (hm : m = n) (hi : i = k) : Ending.returned (.tuple #[.int .u64 m, .int .i64 i]) = .returned (varAt s) := by
  rw [varAt, h, hm, hi]

theorem and127_fin : ∀ a : Fin 256, (a.val &&& 127) = a.val % 128 := by decide +kernel
theorem and127 (b : Int) (h0 : 0 ≤ b) (h1 : b ≤ 255) : bits .and .u8 b 127 = b % 128 := by
  rw [u8_and b 127 (by omega) (by omega) (by omega) (by omega)]
  have := and127_fin ⟨b.toNat, by omega⟩
  simp only at this
  rw [show (127 : Int).toNat = 127 from rfl, this]
  omega

theorem tva_le (s : ByteArray) : ∀ (f i : Nat) (n : Int) {m : Int} {k : Nat}, tva s f i n = some (m, k) → 0 < k ∧ k ≤ s.size
  | 0, _, _, _, _, h => by simp [tva] at h
  | f + 1, i, n, m, k, h => by
    unfold tva at h
    split at h
    · split at h
      · cases h
      · split at h
        · split at h
          · cases h
          · simp only [Option.some.injEq, Prod.mk.injEq] at h
            omega
        · exact tva_le s f _ _ h
    · cases h

end Go.Proofs.Ytplbhgcibfajaaa
