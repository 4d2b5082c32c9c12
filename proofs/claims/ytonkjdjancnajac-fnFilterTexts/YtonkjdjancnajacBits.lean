/- Numbers put together of bits. No program in sight. -/
import Derived.Test.YtonkjdjancnajacBase
namespace Go.Proofs.Ytonkjdjancnajac
set_option maxRecDepth 100000
open Go.RowKit

/-- The number whose bits are f 0, f 1, .., f (n - 1). -/
def packN (f : Nat → Bool) : Nat → Nat
  | 0 => 0
  | k + 1 => packN f k + if f k then 2 ^ k else 0

theorem packN_lt (f : Nat → Bool) : ∀ n, packN f n < 2 ^ n
  | 0 => by simp [packN]
  | k + 1 => by
    have := packN_lt f k
    unfold packN
    rw [Nat.pow_succ]
    split <;> omega

theorem packN_bit (f : Nat → Bool) : ∀ n i, (packN f n).testBit i = (decide (i < n) && f i)
  | 0, i => by simp [packN]
  | k + 1, i => by
    have ih := packN_bit f k
    have hlt := packN_lt f k
    unfold packN
    by_cases hf : f k = true
    · rw [if_pos hf]
      have e : packN f k + 2 ^ k = 2 ^ k * 1 + packN f k := by omega
      rw [e, Nat.testBit_two_pow_mul_add _ hlt]
      by_cases h : i < k
      · rw [if_pos h, ih]; simp [h, show i < k + 1 by omega]
      · rw [if_neg h]
        by_cases h2 : i = k
        · subst h2; simp [hf]
        · have h3 : ¬ i < k + 1 := by omega
          obtain ⟨j, hj⟩ : ∃ j, i - k = j + 1 := ⟨i - k - 1, by omega⟩
          rw [hj, Nat.testBit_succ]
          simp [h3]
    · rw [if_neg hf, Nat.add_zero, ih]
      by_cases h : i < k
      · simp [h, show i < k + 1 by omega]
      · by_cases h2 : i = k
        · subst h2; simp [hf]
        · simp [h, show ¬ i < k + 1 by omega]

theorem packN_congr {f g : Nat → Bool} : ∀ n, (∀ i, i < n → f i = g i) → packN f n = packN g n
  | 0, _ => rfl
  | k + 1, h => by
    unfold packN
    rw [packN_congr k fun i hi => h i (by omega), h k (by omega)]

theorem packN_none : ∀ n, packN (fun _ => false) n = 0
  | 0 => rfl
  | k + 1 => by
    unfold packN
    rw [packN_none k]; simp

/-- One bit more. -/
theorem packN_or (f : Nat → Bool) (n r : Nat) (hr : r < n) : packN f n ||| 2 ^ r = packN (fun i => f i || i == r) n := by
  apply Nat.eq_of_testBit_eq
  intro i
  rw [Nat.testBit_or, packN_bit, packN_bit, Nat.testBit_two_pow]
  by_cases h : i < n
  · by_cases e : r = i
    · subst e; simp [h]
    · have e2 : (i == r) = false := by simp; omega
      simp [h, e, e2]
  · have e : ¬ r = i := by omega
    simp [h, e]

/-- The byte i of a row of words. -/
theorem packN_byte (B : Nat → Bool) (i : Nat) : packN (fun r => B (64 * (i / 8) + r)) 64 / 2 ^ (8 * (i % 8)) % 256 = packN (fun r => B (8 * i + r)) 8 := by
  apply Nat.eq_of_testBit_eq
  intro j
  rw [show (256 : Nat) = 2 ^ 8 from rfl, Nat.testBit_mod_two_pow, Nat.testBit_div_two_pow, packN_bit, packN_bit]
  by_cases h : j < 8
  · have h1 : 8 * (i % 8) + j < 64 := by omega
    have h1' : j + 8 * (i % 8) < 64 := by omega
    have e : 64 * (i / 8) + (8 * (i % 8) + j) = 8 * i + j := by omega
    have e' : 64 * (i / 8) + (j + 8 * (i % 8)) = 8 * i + j := by omega
    first | (rw [e]; simp [h, h1]; done) | (rw [e']; simp [h, h1'])
  · simp [h]

/-- Bit b besides. -/
def bset (B : Nat → Bool) (b : Nat) : Nat → Bool := fun i => B i || i == b

theorem bset_block (B : Nat → Bool) (n b q : Nat) (hn : 0 < n) :
    packN (fun r => bset B b (n * q + r)) n = if q = b / n then packN (fun r => B (n * q + r)) n ||| 2 ^ (b % n) else packN (fun r => B (n * q + r)) n := by
  by_cases h : q = b / n
  · rw [if_pos h, packN_or _ _ _ (Nat.mod_lt _ hn)]
    refine packN_congr n fun i hi => ?_
    have hb : n * q + b % n = b := by rw [h]; exact Nat.div_add_mod b n
    have e : (n * q + i == b) = (i == b % n) := by
      rw [Bool.eq_iff_iff]
      simp only [beq_iff_eq]
      omega
    simp only [bset, e]
  · rw [if_neg h]
    refine packN_congr n fun i hi => ?_
    have e : (n * q + i == b) = false := by
      rw [beq_eq_false_iff_ne]
      intro e
      apply h
      rw [← e, Nat.mul_add_div hn, Nat.div_eq_of_lt hi, Nat.add_zero]
    simp only [bset, e, Bool.or_false]

end Go.Proofs.Ytonkjdjancnajac
