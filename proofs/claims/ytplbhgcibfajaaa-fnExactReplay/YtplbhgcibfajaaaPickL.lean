/- PickLevel, of the program and of the model. (By gen_pick.py.) -/
import Derived.Test.YtplbhgcibfajaaaVersS
namespace Go.Proofs.Ytplbhgcibfajaaa
set_option maxRecDepth 100000
open Go.RowKit Go.Deep

/-- How many of the first k files are of this level, and their entries together. -/
def cntF (O : Metas) (lv : Int) : Nat → Int
  | 0 => 0
  | k + 1 => if O.L k = lv then cntF O lv k + 1 else cntF O lv k
def sumC (O : Metas) (lv : Int) : Nat → Int
  | 0 => 0
  | k + 1 => if O.L k = lv then sumC O lv k + O.C k else sumC O lv k

theorem cntF_bd (O : Metas) (lv : Int) : ∀ k, 0 ≤ cntF O lv k ∧ cntF O lv k ≤ (k : Int)
  | 0 => ⟨Int.le_refl _, Int.le_refl _⟩
  | k + 1 => by
    have := cntF_bd O lv k
    unfold cntF
    split <;> omega
theorem sumC_bd (O : Metas) (lv : Int) : ∀ k, (∀ i, i < k → 1 ≤ O.C i ∧ O.C i ≤ 400) → 0 ≤ sumC O lv k ∧ sumC O lv k ≤ 400 * (k : Int)
  | 0, _ => ⟨Int.le_refl _, Int.le_refl _⟩
  | k + 1, h => by
    have := sumC_bd O lv k fun i hi => h i (by omega)
    have := h k (by omega)
    unfold sumC
    split <;> omega
theorem cntF_hit {O : Metas} {lv : Int} {k : Nat} (h : O.L k = lv) : cntF O lv (k + 1) = cntF O lv k + 1 := by rw [cntF, if_pos h]
theorem cntF_miss {O : Metas} {lv : Int} {k : Nat} (h : ¬ O.L k = lv) : cntF O lv (k + 1) = cntF O lv k := by rw [cntF, if_neg h]
theorem sumC_hit {O : Metas} {lv : Int} {k : Nat} (h : O.L k = lv) : sumC O lv (k + 1) = sumC O lv k + O.C k := by rw [sumC, if_pos h]
theorem sumC_miss {O : Metas} {lv : Int} {k : Nat} (h : ¬ O.L k = lv) : sumC O lv (k + 1) = sumC O lv k := by rw [sumC, if_neg h]
theorem fileB_count {x0 x1 : Int} {x2 x3 : ByteArray} {x4 nx : Int} (h : fileB x0 x1 x2 x3 x4 nx = true) : 1 ≤ x4 ∧ x4 ≤ 400 := by
  unfold fileB at h
  simp only [Bool.and_eq_true, decide_eq_true_eq] at h
  exact ⟨h.1.2, h.2⟩

/-- The level that is picked, and whether one is. -/
def pickV (c : VersionC) : Int := if versB c then (if 4 ≤ cntF c.r0 0 c.n0 then 0 else if 20 < sumC c.r0 1 c.n0 then 1 else if 200 < sumC c.r0 2 c.n0 then 2 else 0) else 0
def pickB (c : VersionC) : Bool := versB c && (decide (4 ≤ cntF c.r0 0 c.n0) || decide (20 < sumC c.r0 1 c.n0) || decide (200 < sumC c.r0 2 c.n0))

theorem ret_pair {a a' : Int} {b b' : Bool} (h : a = a') (k : b = b') : Ending.returned (.tuple #[.int .i64 a, .bool b]) = .returned (.tuple #[.int .i64 a', .bool b']) := by rw [h, k]

end Go.Proofs.Ytplbhgcibfajaaa
