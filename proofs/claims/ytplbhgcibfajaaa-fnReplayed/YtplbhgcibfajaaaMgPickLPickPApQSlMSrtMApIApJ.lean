/- PickLevel, of the program and of the model. (By gen_pick.py.) -/
import Derived.Test.YtplbhgcibfajaaaVersS
import Derived.Test.YtplbhgcibfajaaaOver
import Derived.Test.YtplbhgcibfajaaaApP
import Derived.Test.YtplbhgcibfajaaaFOrd
import Derived.Shelf.SlSortCmp.NoneTotal
import Derived.Shelf.SlLaysF0
import Derived.Test.YtplbhgcibfajaaaRows
import Derived.Test.YtplbhgcibfajaaaEntRow
import Derived.Test.YtplbhgcibfajaaaSorted
import Derived.Shelf.SlSortCmp.InsertionK
import Derived.Test.YtplbhgcibfajaaaVersI
import Derived.Test.YtplbhgcibfajaaaRowG
import Derived.Test.YtplbhgcibfajaaaClone
import Derived.Laws.OwnMore
import Derived.Deep.DeepCutAuto
import Derived.Deep.LoopGhost
import Derived.Test.YtplbhgcibfajaaaApplyS
namespace Go.Proofs.Ytplbhgcibfajaaa
set_option maxRecDepth 100000
open Go.RowKit Go.Deep

/-- How many of the first k files are of this level, and their entries together. -/
def cntF (O : Metas) (lv : Int) : Nat → Int
  | 0 => 0
  | k + 1 => if O.L k = lv then cntF O lv k + 1 else cntF O lv k
def sumC (O : Metas) (lv : Int) : Nat → Int
  | 0 => 0
  | k + 1 => if O.L k = lv then sumC O lv k + O.C k else sumC O lv k

theorem cntF_bd (O : Metas) (lv : Int) : ∀ k, 0 ≤ cntF O lv k ∧ cntF O lv k ≤ (k : Int)
  | 0 => ⟨Int.le_refl _, Int.le_refl _⟩
  | k + 1 => by
    have := cntF_bd O lv k
    unfold cntF
    split <;> omega
theorem sumC_bd (O : Metas) (lv : Int) : ∀ k, (∀ i, i < k → 1 ≤ O.C i ∧ O.C i ≤ 400) → 0 ≤ sumC O lv k ∧ sumC O lv k ≤ 400 * (k : Int)
  | 0, _ => ⟨Int.le_refl _, Int.le_refl _⟩
  | k + 1, h => by
    have := sumC_bd O lv k fun i hi => h i (by omega)
    have := h k (by omega)
    unfold sumC
    split <;> omega
theorem cntF_hit {O : Metas} {lv : Int} {k : Nat} (h : O.L k = lv) : cntF O lv (k + 1) = cntF O lv k + 1 := by rw [cntF, if_pos h]
theorem cntF_miss {O : Metas} {lv : Int} {k : Nat} (h : ¬ O.L k = lv) : cntF O lv (k + 1) = cntF O lv k := by rw [cntF, if_neg h]
theorem sumC_hit {O : Metas} {lv : Int} {k : Nat} (h : O.L k = lv) : sumC O lv (k + 1) = sumC O lv k + O.C k := by rw [sumC, if_pos h]
theorem sumC_miss {O : Metas} {lv : Int} {k : Nat} (h : ¬ O.L k = lv) : sumC O lv (k + 1) = sumC O lv k := by rw [sumC, if_neg h]
theorem fileB_count {x0 x1 : Int} {x2 x3 : ByteArray} {x4 nx : Int} (h : fileB x0 x1 x2 x3 x4 nx = true) : 1 ≤ x4 ∧ x4 ≤ 400 := by
  unfold fileB at h
  simp only [Bool.and_eq_true, decide_eq_true_eq] at h
  exact ⟨h.1.2, h.2⟩

/-- The level that is picked, and whether one is. -/
def pickV (c : VersionC) : Int := if versB c then (if 4 ≤ cntF c.r0 0 c.n0 then 0 else if 20 < sumC c.r0 1 c.n0 then 1 else if 200 < sumC c.r0 2 c.n0 then 2 else 0) else 0
def pickB (c : VersionC) : Bool := versB c && (decide (4 ≤ cntF c.r0 0 c.n0) || decide (20 < sumC c.r0 1 c.n0) || decide (200 < sumC c.r0 2 c.n0))

theorem ret_pair {a a' : Int} {b b' : Bool} (h : a = a') (k : b = b') : Ending.returned (.tuple #[.int .i64 a, .bool b]) = .returned (.tuple #[.int .i64 a', .bool b']) := by rw [h, k]

end Go.Proofs.Ytplbhgcibfajaaa

/- What is picked has a table; of a level but the first at most one table has a user. No walk. -/
namespace Go.Proofs.Ytplbhgcibfajaaa
set_option maxRecDepth 100000
open Go.RowKit

theorem cntF_ex {O : Metas} {lv : Int} : ∀ {k : Nat}, 0 < cntF O lv k → ∃ i, i < k ∧ O.L i = lv
  | 0, h => by simp [cntF] at h
  | k + 1, h => by
    by_cases h1 : O.L k = lv
    · exact ⟨k, by omega, h1⟩
    · rw [cntF_miss h1] at h
      obtain ⟨i, hi, e⟩ := cntF_ex h
      exact ⟨i, by omega, e⟩
theorem sumC_ex {O : Metas} {lv : Int} : ∀ {k : Nat}, 0 < sumC O lv k → ∃ i, i < k ∧ O.L i = lv
  | 0, h => by simp [sumC] at h
  | k + 1, h => by
    by_cases h1 : O.L k = lv
    · exact ⟨k, by omega, h1⟩
    · rw [sumC_miss h1] at h
      obtain ⟨i, hi, e⟩ := sumC_ex h
      exact ⟨i, by omega, e⟩
/-- A level that is picked has a table. -/
theorem pick_has {c : VersionC} (h : pickB c = true) : ∃ i, i < c.n0 ∧ c.r0.L i = pickV c := by
  unfold pickB at h
  rw [Bool.and_eq_true] at h
  obtain ⟨hv, h⟩ := h
  unfold pickV
  rw [if_pos hv]
  by_cases h1 : 4 ≤ cntF c.r0 0 c.n0
  · rw [if_pos h1]
    exact cntF_ex (by omega)
  · rw [if_neg h1]
    by_cases h2 : 20 < sumC c.r0 1 c.n0
    · rw [if_pos h2]
      exact sumC_ex (by omega)
    · rw [if_neg h2]
      by_cases h3 : 200 < sumC c.r0 2 c.n0
      · rw [if_pos h3]
        exact sumC_ex (by omega)
      · simp [h1, h2, h3] at h

theorem sLt_le {x y : ByteArray} : sLe x y = true ↔ sLt y x = false := by
  rw [sLe_not]; unfold sLt
  cases Op.bytesLess y.toList x.toList <;> simp
theorem sLt_trans {x y z : ByteArray} (h : sLt x y = true) (k : sLt y z = true) : sLt x z = true := less_trans _ _ _ h k
theorem sLt_le_lt {x y z : ByteArray} (h : sLt x y = true) (k : sLe y z = true) : sLt x z = true := by
  unfold sLe at k
  rw [Bool.or_eq_true] at k
  rcases k with k | k
  · exact sLt_trans h k
  · have e : y.toList = z.toList := by simpa using k
    unfold sLt at h ⊢
    rw [← e]; exact h
theorem sLe_trans {x y z : ByteArray} (h : sLe x y = true) (k : sLe y z = true) : sLe x z = true := by
  unfold sLe at h
  rw [Bool.or_eq_true] at h
  rcases h with h | h
  · have := sLt_le_lt (x := x) (y := y) (z := z) h k
    unfold sLe; unfold sLt at this; rw [this]; rfl
  · have e : x.toList = y.toList := by simpa using h
    unfold sLe at k ⊢
    rw [e]; exact k

/-- Two files of a right version: the former's level is lower, or it is the same one, and not the first, and all of the former lies ahead. -/
theorem chain_far {O : Metas} {nx : Int} {n : Nat} (h : ∀ i, i < n → stepB O nx i = true) {i : Nat} : ∀ (t : Nat), i + t + 1 < n → O.L i < O.L (i + t + 1) ∨ (O.L i = O.L (i + t + 1) ∧ (0 < O.L i → sLt (O.Z i) (O.F (i + t + 1)) = true))
  | 0, hj => by
    have h1 := h (i + 1) hj
    unfold stepB at h1
    simp only [Bool.and_eq_true, Bool.or_eq_true] at h1
    have h2 := h1.2
    rcases h2 with h2 | h2
    · simp at h2
    · simp only [Nat.add_sub_cancel] at h2
      unfold aheadB at h2
      by_cases e : O.L i = O.L (i + 1)
      · rw [if_pos e] at h2
        refine .inr ⟨e, fun hp => ?_⟩
        rw [if_neg (by omega)] at h2
        exact h2
      · rw [if_neg e] at h2
        exact .inl (of_decide_eq_true h2)
  | t + 1, hj => by
    have h0 := chain_far h (i := i) t (by omega)
    have h1 := chain_far h (i := i + t + 1) 0 (by omega)
    have hm := stepB_file (h (i + t + 1) (by omega))
    have hz : sLe (O.F (i + t + 1)) (O.Z (i + t + 1)) = true := by
      unfold fileB at hm
      simp only [Bool.and_eq_true] at hm
      exact hm.1.1.2
    have e : i + (t + 1) + 1 = i + t + 1 + 0 + 1 := by omega
    rw [e]
    rcases h0 with h0 | ⟨h0, k0⟩
    · rcases h1 with h1 | ⟨h1, k1⟩
      · exact .inl (by omega)
      · exact .inl (by omega)
    · rcases h1 with h1 | ⟨h1, k1⟩
      · exact .inl (by omega)
      · refine .inr ⟨by omega, fun hp => ?_⟩
        exact sLt_trans (sLt_le_lt (k0 hp) hz) (k1 (by omega))
theorem over_two {O : Metas} {nx : Int} {n : Nat} (h : ∀ i, i < n → stepB O nx i = true) {lv : Int} {tq : ByteArray} (hlv : lv ≠ 0) {i j : Nat} (hi : i < j) (hj : j < n) (oi : overB O lv tq tq i = true) (oj : overB O lv tq tq j = true) : False := by
  unfold overB at oi oj
  simp only [Bool.and_eq_true, decide_eq_true_eq] at oi oj
  obtain ⟨⟨li, fi⟩, zi⟩ := oi
  obtain ⟨⟨lj, fj⟩, zj⟩ := oj
  obtain ⟨t, rfl⟩ : ∃ t, j = i + t + 1 := ⟨j - i - 1, by omega⟩
  have hl := fileB_level (stepB_file (h i (by omega)))
  rcases chain_far h t hj with h1 | ⟨h1, h2⟩
  · omega
  · have h3 := h2 (by omega)
    have h4 := sLt_le_lt h3 fj
    have h5 := sLt_le.1 zi
    rw [h4] at h5; cases h5
theorem over_one {O : Metas} {nx : Int} {n : Nat} (h : ∀ i, i < n → stepB O nx i = true) {lv : Int} {tq : ByteArray} (hlv : lv ≠ 0) : ∀ k, k ≤ n → (overN O lv tq tq k).length ≤ 1 ∧ ((overN O lv tq tq k).length = 1 → ∃ i, i < k ∧ overB O lv tq tq i = true)
  | 0, _ => ⟨by simp [overN], fun e => by simp [overN] at e⟩
  | k + 1, hk => by
    obtain ⟨h1, h2⟩ := over_one h hlv k (by omega)
    rw [overN]
    by_cases ho : overB O lv tq tq k = true
    · rw [if_pos ho]
      have h3 : (overN O lv tq tq k).length = 0 := by
        by_cases e : (overN O lv tq tq k).length = 1
        · obtain ⟨i, hi, oi⟩ := h2 e
          exact (over_two h hlv hi (by omega) oi ho).elim
        · omega
      exact ⟨by rw [List.length_append, h3]; exact Nat.le_refl 1, fun _ => ⟨k, by omega, ho⟩⟩
    · rw [if_neg ho]
      exact ⟨h1, fun e => by obtain ⟨i, hi, oi⟩ := h2 e; exact ⟨i, by omega, oi⟩⟩
theorem over_more {O : Metas} {lv : Int} {fr tq : ByteArray} (hft : sLe fr tq = true) : ∀ k, (overN O lv tq tq k).length ≤ (overN O lv fr tq k).length
  | 0 => Nat.le_refl _
  | k + 1 => by
    have h1 := over_more hft k (O := O) (lv := lv)
    rw [overN, overN]
    by_cases ho : overB O lv tq tq k = true
    · have ho2 : overB O lv fr tq k = true := by
        unfold overB at ho ⊢
        simp only [Bool.and_eq_true] at ho ⊢
        exact ⟨ho.1, sLe_trans hft ho.2⟩
      rw [if_pos ho, if_pos ho2]
      simp; omega
    · rw [if_neg ho]
      split
      · simp; omega
      · exact h1
/-- What the law on Overlapping tells. -/
theorem over_law (c : VersionC) (lv : Int) (fr tq : ByteArray) : (lv = 0 ∨ (overL c lv tq tq).length ≤ 1) ∧ (sLt tq fr = true ∨ (overL c lv tq tq).length ≤ (overL c lv fr tq).length) := by
  constructor
  · by_cases h0 : lv = 0
    · exact .inl h0
    · refine .inr ?_
      unfold overL
      split
      · next hv => exact (over_one (versB_out hv).2.1 h0 _ (Nat.le_refl _)).1
      · simp
  · by_cases h0 : sLt tq fr = true
    · exact .inl h0
    · refine .inr ?_
      have h1 : sLe fr tq = true := sLt_le.2 (by simpa using h0)
      unfold overL
      split
      · exact over_more h1 _
      · exact Nat.le_refl _

end Go.Proofs.Ytplbhgcibfajaaa

/- Edits: however the files are put together, a right version's are in one order only; which cuts are right. No walk. -/
namespace Go.Proofs.Ytplbhgcibfajaaa
set_option maxRecDepth 100000
open Go.RowKit Go.Deep Go.Sort

def fOrdM (a b : Meta1) : Int := fOrd a.n a.l a.f b.n b.l b.f

theorem cmpS_neg (x y : ByteArray) : cmpS x y < 0 ↔ sLt x y = true := by
  unfold cmpS sLt
  constructor
  · intro h
    split at h
    · assumption
    · split at h <;> omega
  · intro h
    rw [if_pos h]; omega
theorem cmpS_zero (x y : ByteArray) : cmpS x y = 0 ↔ x = y := by
  rcases cmpS_cases x y with ⟨a, _, l⟩ | ⟨a, _, l⟩ | ⟨a, _, l⟩ <;> rw [a] <;> simp [l]
theorem fOrdM_neg (a b : Meta1) : fOrdM a b < 0 ↔ if a.l = 0 ∧ b.l = 0 then b.n < a.n else a.l < b.l ∨ (a.l = b.l ∧ sLt a.f b.f = true) := by
  unfold fOrdM fOrd
  split
  · exact cmpI_neg _ _
  · unfold or2
    rcases cmpI_cases a.l b.l with ⟨e, _, l⟩ | ⟨e, _, l⟩ | ⟨e, _, l⟩
    · rw [e]; simp; omega
    · rw [e]
      simp only [l, Int.lt_irrefl, true_and, false_or]
      rw [← cmpS_neg]
      simp
    · rw [e]; simp; omega

theorem sLt_irr (x : ByteArray) : sLt x x = false := by
  cases h : sLt x x with
  | false => rfl
  | true => have := less_asymm _ _ h; unfold sLt at h; rw [this] at h; cases h
theorem sLt_asymm {x y : ByteArray} (h : sLt x y = true) : sLt y x = false := less_asymm _ _ h
/-- Of three texts: what is not ahead of what is not ahead is not ahead. -/
theorem sLt_neg {x y z : ByteArray} (h : sLt x y = false) (k : sLt y z = false) : sLt x z = false := by
  have h' := sLt_le.2 h
  have k' := sLt_le.2 k
  exact sLt_le.1 (sLe_trans k' h')

def cfM (a b : Meta1) : Int := fOrdM a b
theorem ltM (a b : Meta1) : ltOf cfM a b = decide (fOrdM a b < 0) := rfl
theorem ltM_iff (a b : Meta1) : ltOf cfM a b = true ↔ fOrdM a b < 0 := by rw [ltM]; simp
theorem ltM_no (a b : Meta1) : ltOf cfM a b = false ↔ ¬ fOrdM a b < 0 := by rw [ltM]; simp
theorem cfM_swo : SWO (ltOf cfM) := by
  refine ⟨fun x => ?_, fun x y z hx hy => ?_, fun x y z hx hy => ?_⟩
  · rw [ltM_no, fOrdM_neg]
    split
    · omega
    · rw [sLt_irr]; simp
  · rw [ltM_iff, fOrdM_neg] at *
    by_cases e1 : x.l = 0 ∧ y.l = 0
    · rw [if_pos e1] at hx
      by_cases e2 : y.l = 0 ∧ z.l = 0
      · rw [if_pos e2] at hy
        rw [if_pos ⟨e1.1, e2.2⟩]; omega
      · rw [if_neg e2] at hy
        have : z.l ≠ 0 := fun e => e2 ⟨e1.2, e⟩
        rw [if_neg (fun e => this e.2)]
        rcases hy with hy | hy
        · left; omega
        · omega
    · rw [if_neg e1] at hx
      by_cases e2 : y.l = 0 ∧ z.l = 0
      · rw [if_pos e2] at hy
        have : x.l ≠ 0 := fun e => e1 ⟨e, e2.1⟩
        rw [if_neg (fun e => this e.1)]
        rcases hx with hx | hx
        · left; omega
        · omega
      · rw [if_neg e2] at hy
        by_cases e3 : x.l = 0 ∧ z.l = 0
        · rcases hx with hx | hx <;> rcases hy with hy | hy <;> omega
        · rw [if_neg e3]
          rcases hx with hx | ⟨hx, hx2⟩
          · rcases hy with hy | ⟨hy, _⟩
            · left; omega
            · left; omega
          · rcases hy with hy | ⟨hy, hy2⟩
            · left; omega
            · exact .inr ⟨by omega, sLt_trans hx2 hy2⟩
  · rw [ltM_no, fOrdM_neg] at *
    by_cases e1 : x.l = 0 ∧ y.l = 0
    · rw [if_pos e1] at hx
      by_cases e2 : y.l = 0 ∧ z.l = 0
      · rw [if_pos e2] at hy
        rw [if_pos ⟨e1.1, e2.2⟩]; omega
      · rw [if_neg e2] at hy
        have : z.l ≠ 0 := fun e => e2 ⟨e1.2, e⟩
        rw [if_neg (fun e => this e.2)]
        rw [not_or] at hy ⊢
        exact ⟨by omega, fun h => by omega⟩
    · rw [if_neg e1, not_or] at hx
      by_cases e2 : y.l = 0 ∧ z.l = 0
      · have : x.l ≠ 0 := fun e => e1 ⟨e, e2.1⟩
        rw [if_neg (fun e => this e.1), not_or]
        exact ⟨by omega, fun h => by omega⟩
      · rw [if_neg e2, not_or] at hy
        by_cases e3 : x.l = 0 ∧ z.l = 0
        · have : y.l ≠ 0 := fun e => e1 ⟨e3.1, e⟩
          omega
        · rw [if_neg e3, not_or]
          refine ⟨by omega, fun h => ?_⟩
          have hxy : x.l = y.l := by omega
          have hyz : y.l = z.l := by omega
          have k1 : sLt x.f y.f = false := by
            cases hq : sLt x.f y.f with
            | false => rfl
            | true => exact (hx.2 ⟨hxy, hq⟩).elim
          have k2 : sLt y.f z.f = false := by
            cases hq : sLt y.f z.f with
            | false => rfl
            | true => exact (hy.2 ⟨hyz, hq⟩).elim
          rw [sLt_neg k1 k2] at h
          cases h.2

/-- A file whose level and users are right. -/
def goodM (a : Meta1) : Prop := 0 ≤ a.l ∧ sLe a.f a.z = true
/-- One right file stands ahead of another one. -/
def OrdM (a b : Meta1) : Prop := a.l < b.l ∨ (a.l = b.l ∧ ((a.l = 0 ∧ b.n < a.n) ∨ (0 < a.l ∧ sLt a.z b.f = true)))
theorem OrdM.trans {a b c : Meta1} (gb : goodM b) (h : OrdM a b) (k : OrdM b c) : OrdM a c := by
  unfold OrdM at *
  rcases h with h | ⟨h, h2⟩
  · rcases k with k | ⟨k, _⟩ <;> (left; omega)
  · rcases k with k | ⟨k, k2⟩
    · left; omega
    · refine .inr ⟨by omega, ?_⟩
      rcases h2 with ⟨h2, h3⟩ | ⟨h2, h3⟩
      · rcases k2 with ⟨k2, k3⟩ | ⟨k2, k3⟩
        · exact .inl ⟨h2, by omega⟩
        · omega
      · rcases k2 with ⟨k2, k3⟩ | ⟨k2, k3⟩
        · omega
        · exact .inr ⟨h2, sLt_trans (sLt_le_lt h3 gb.2) k3⟩
theorem OrdM.ah {a b : Meta1} (h : OrdM a b) : ahM a b = true := by
  unfold ahM aheadB
  rcases h with h | ⟨h, h2⟩
  · rw [if_neg (by omega)]; exact decide_eq_true h
  · rw [if_pos h]
    rcases h2 with ⟨h2, h3⟩ | ⟨h2, h3⟩
    · rw [if_pos h2]; exact decide_eq_true h3
    · rw [if_neg (by omega)]; exact h3
theorem OrdM.lt {a b : Meta1} (ga : goodM a) (h : OrdM a b) : fOrdM a b < 0 := by
  rw [fOrdM_neg]
  rcases h with h | ⟨h, h2⟩
  · split
    · omega
    · exact .inl h
  · rcases h2 with ⟨h2, h3⟩ | ⟨h2, h3⟩
    · rw [if_pos ⟨h2, by omega⟩]; exact h3
    · rw [if_neg (by omega)]
      refine .inr ⟨h, ?_⟩
      have := ga.2
      unfold sLe at this
      rw [Bool.or_eq_true] at this
      rcases this with k | k
      · exact sLt_trans k h3
      · have e : a.f.toList = a.z.toList := by simpa using k
        unfold sLt at h3 ⊢
        rw [e]; exact h3
theorem OrdM.le {a b : Meta1} (ga : goodM a) (h : OrdM a b) : ¬ fOrdM b a < 0 := fun k => by
  have h1 := (ltM_iff a b).2 (h.lt ga)
  have h2 := (ltM_iff b a).2 k
  have h3 := cfM_swo.trans a b a h1 h2
  rw [cfM_swo.irrefl a] at h3
  cases h3
theorem OrdM.irr {a : Meta1} (ga : goodM a) : ¬ OrdM a a := fun h => (h.le ga) (h.lt ga)
theorem OrdM.not_ah {a b : Meta1} (ga : goodM a) (gb : goodM b) (h : OrdM a b) : ahM b a = false := by
  unfold ahM aheadB
  rcases h with h | ⟨h, h2⟩
  · rw [if_neg (by omega)]; exact decide_eq_false (by omega)
  · rw [if_pos h.symm]
    rcases h2 with ⟨h2, h3⟩ | ⟨h2, h3⟩
    · rw [if_pos (by omega)]; exact decide_eq_false (by omega)
    · rw [if_neg (by omega)]
      have h4 := sLt_le_lt h3 gb.2
      cases hq : sLt b.z a.f with
      | false => rfl
      | true =>
        have h5 := sLt_le_lt hq ga.2
        rw [sLt_asymm h5] at h4
        cases h4

/-- The files of a right version. -/
theorem right_ord {R : List Meta1} {x y z : Int} (h : versB (vc R x y z) = true) : R.Pairwise OrdM ∧ ∀ a ∈ R, goodM a := by
  obtain ⟨_, hst, _⟩ := versB_out h
  have hst' : ∀ i, i < R.length → stepB (fnMeta R) x i = true := hst
  have good : ∀ i, i < R.length → goodM (metaAt1 (fnMeta R) i) := fun i hi => by
    have hm := stepB_file (hst' i hi)
    have hl := fileB_level hm
    unfold fileB at hm
    simp only [Bool.and_eq_true] at hm
    exact ⟨hl.1, hm.1.1.2⟩
  have one : ∀ i, i + 1 < R.length → OrdM (metaAt1 (fnMeta R) i) (metaAt1 (fnMeta R) (i + 1)) := fun i hi => by
    have h1 := hst' (i + 1) hi
    unfold stepB at h1
    simp only [Bool.and_eq_true, Bool.or_eq_true] at h1
    rcases h1.2 with h2 | h2
    · simp at h2
    · simp only [Nat.add_sub_cancel] at h2
      unfold aheadB at h2
      have g := (good i (by omega)).1
      by_cases e : (fnMeta R).L i = (fnMeta R).L (i + 1)
      · rw [if_pos e] at h2
        by_cases e0 : (fnMeta R).L i = 0
        · rw [if_pos e0] at h2
          exact .inr ⟨e, .inl ⟨e0, of_decide_eq_true h2⟩⟩
        · rw [if_neg e0] at h2
          have g' : 0 ≤ (fnMeta R).L i := g
          exact .inr ⟨e, .inr ⟨by show 0 < (fnMeta R).L i; omega, h2⟩⟩
      · rw [if_neg e] at h2
        exact .inl (of_decide_eq_true h2)
  have far : ∀ t i, i + t + 1 < R.length → OrdM (metaAt1 (fnMeta R) i) (metaAt1 (fnMeta R) (i + t + 1)) := fun t => by
    induction t with
    | zero => exact fun i hi => one i hi
    | succ t ih => exact fun i hi => (ih i (by omega)).trans (good (i + t + 1) (by omega)) (one (i + t + 1) (by omega))
  constructor
  · rw [List.pairwise_iff_getElem]
    intro i j hi hj hij
    have := far (j - i - 1) i (by omega)
    rw [show i + (j - i - 1) + 1 = j by omega, fnMeta_at R i hi, fnMeta_at R j hj] at this
    exact this
  · intro a ha
    obtain ⟨i, hi, rfl⟩ := List.getElem_of_mem ha
    rw [← fnMeta_at R i hi]
    exact good i hi

/-- The model's insertion, element by element. -/
def insR : List Meta1 → Meta1 → List Meta1
  | [], m => [m]
  | a :: l, m => if ahM a m then a :: insR l m else m :: a :: l
theorem insM_eq : ∀ (l : List Meta1) (m : Meta1), insM l m = insR l m
  | [], m => rfl
  | a :: l, m => by
    have ih := insM_eq l m
    unfold insM at ih ⊢
    rw [posM, insR]
    split
    · simp only [List.take_succ_cons, List.drop_succ_cons, List.cons_append]
      rw [ih]
    · rfl
theorem insR_perm : ∀ (l : List Meta1) (m : Meta1), (insR l m).Perm (m :: l)
  | [], _ => List.Perm.refl _
  | a :: l, m => by
    rw [insR]
    split
    · exact (List.Perm.cons a (insR_perm l m)).trans (List.Perm.swap m a l)
    · exact List.Perm.refl _
theorem insR_ord : ∀ (l : List Meta1) (m : Meta1), l.Pairwise OrdM → (∀ a ∈ l, goodM a) → (∀ a ∈ l, OrdM a m ∨ OrdM m a) → goodM m → (insR l m).Pairwise OrdM
  | [], m, _, _, _, _ => by simp [insR]
  | a :: l, m, h, g, k, gm => by
    rw [insR]
    rw [List.pairwise_cons] at h
    have ga := g a (List.mem_cons_self ..)
    have ka := k a (List.mem_cons_self ..)
    split
    · next ha =>
      have o : OrdM a m := by
        rcases ka with ka | ka
        · exact ka
        · rw [ka.not_ah gm ga] at ha; cases ha
      rw [List.pairwise_cons]
      refine ⟨fun b hb => ?_, insR_ord l m h.2 (fun b hb => g b (List.mem_cons_of_mem _ hb)) (fun b hb => k b (List.mem_cons_of_mem _ hb)) gm⟩
      rcases List.mem_cons.1 ((insR_perm l m).mem_iff.1 hb) with rfl | hb
      · exact o
      · exact h.1 b hb
    · next ha =>
      have o : OrdM m a := by
        rcases ka with ka | ka
        · rw [ka.ah] at ha; exact (ha rfl).elim
        · exact ka
      rw [List.pairwise_cons]
      refine ⟨fun b hb => ?_, by rw [List.pairwise_cons]; exact h⟩
      rcases List.mem_cons.1 hb with rfl | hb
      · exact o
      · exact o.trans ga (h.1 b hb)
theorem addsL_perm (l : List Meta1) (A : Metas) : ∀ k, (addsL l A k).Perm (l ++ metasL A k)
  | 0 => by simp [addsL, metasL]
  | k + 1 => by
    rw [addsL, insM_eq, metasL_succ]
    refine (insR_perm _ _).trans ?_
    refine (List.Perm.cons _ (addsL_perm l A k)).trans ?_
    rw [← List.append_assoc]
    exact (List.perm_append_singleton _ _).symm
theorem addsL_ord (l : List Meta1) (A : Metas) (h : l.Pairwise OrdM) : ∀ k, (∀ a ∈ l ++ metasL A k, goodM a) → (l ++ metasL A k).Pairwise (fun a b => OrdM a b ∨ OrdM b a) → (addsL l A k).Pairwise OrdM
  | 0, _, _ => h
  | k + 1, g, p => by
    rw [metasL_succ, ← List.append_assoc] at g p
    rw [List.pairwise_append] at p
    rw [addsL, insM_eq]
    refine insR_ord _ _ (addsL_ord l A h k (fun a ha => g a (List.mem_append_left _ ha)) p.1) (fun a ha => g a (List.mem_append_left _ ((addsL_perm l A k).mem_iff.1 ha))) (fun a ha => p.2.2 a ((addsL_perm l A k).mem_iff.1 ha) _ (List.mem_singleton.2 rfl)) (g _ (List.mem_append_right _ (List.mem_singleton.2 rfl)))
theorem leftL_sub (O : Metas) (S : Nat → Int) (n : Nat) : ∀ k, List.Sublist (leftL O S n k) (metasL O k)
  | 0 => List.Sublist.refl _
  | k + 1 => by
    rw [leftL, metasL_succ]
    split
    · exact (leftL_sub O S n k).trans (List.sublist_append_left _ _)
    · exact (leftL_sub O S n k).append_right _
theorem vc_self (c : VersionC) : versB c = true → versB (vc (metasL c.r0 c.n0) c.x1 c.x2 c.x3) = true := by
  intro h
  obtain ⟨h1, h2, h3⟩ := versB_out h
  unfold versB nodupB
  rw [Bool.and_eq_true, Bool.and_eq_true, List.all_eq_true]
  have e : ∀ i, i < c.n0 → metaAt1 (fnMeta (metasL c.r0 c.n0)) i = metaAt1 c.r0 i := fun i hi => by
    rw [fnMeta_at _ i (by rw [metasL_len]; exact hi)]
    simp [metasL]
  have eN : ∀ i, i < c.n0 → (fnMeta (metasL c.r0 c.n0)).N i = c.r0.N i := fun i hi => congrArg Meta1.n (e i hi)
  have eL : ∀ i, i < c.n0 → (fnMeta (metasL c.r0 c.n0)).L i = c.r0.L i := fun i hi => congrArg Meta1.l (e i hi)
  have eF : ∀ i, i < c.n0 → (fnMeta (metasL c.r0 c.n0)).F i = c.r0.F i := fun i hi => congrArg Meta1.f (e i hi)
  have eZ : ∀ i, i < c.n0 → (fnMeta (metasL c.r0 c.n0)).Z i = c.r0.Z i := fun i hi => congrArg Meta1.z (e i hi)
  have eC : ∀ i, i < c.n0 → (fnMeta (metasL c.r0 c.n0)).C i = c.r0.C i := fun i hi => congrArg Meta1.c (e i hi)
  refine ⟨⟨decide_eq_true (by show (metasL c.r0 c.n0).length ≤ 30 ∧ _; rw [metasL_len]; exact h1), fun i hi => ?_⟩, decide_eq_true ?_⟩
  · have hi' : i < c.n0 := by have := List.mem_range.1 hi; rwa [show (vc (metasL c.r0 c.n0) c.x1 c.x2 c.x3).n0 = c.n0 from metasL_len _ _] at this
    have h4 := h2 i hi'
    unfold stepB at h4 ⊢
    show (fileB ((fnMeta (metasL c.r0 c.n0)).N i) _ _ _ _ _ && _) = true
    rcases i with _ | i
    · rw [show (vc (metasL c.r0 c.n0) c.x1 c.x2 c.x3).r0 = fnMeta (metasL c.r0 c.n0) from rfl, eN _ hi', eL _ hi', eF _ hi', eZ _ hi', eC _ hi', show (vc (metasL c.r0 c.n0) c.x1 c.x2 c.x3).x1 = c.x1 from rfl]
      simpa using h4
    · rw [show (vc (metasL c.r0 c.n0) c.x1 c.x2 c.x3).r0 = fnMeta (metasL c.r0 c.n0) from rfl, eN _ hi', eL _ hi', eF _ hi', eZ _ hi', eC _ hi', eN (i + 1 - 1) (by omega), eL (i + 1 - 1) (by omega), eZ (i + 1 - 1) (by omega)]
      exact h4
  · have : numsL (vc (metasL c.r0 c.n0) c.x1 c.x2 c.x3).r0 (vc (metasL c.r0 c.n0) c.x1 c.x2 c.x3).n0 = numsL c.r0 c.n0 := by
      rw [show (vc (metasL c.r0 c.n0) c.x1 c.x2 c.x3).n0 = c.n0 from metasL_len _ _]
      unfold numsL
      exact List.map_congr_left fun i hi => eN i (List.mem_range.1 hi)
    rw [this]; exact h3

/-- However the files are put together and sorted: where what comes out is a right version, it is the model's. -/
theorem apply_same {c : VersionC} {d : EditC} (hc : versB c = true) {M : List Meta1} (hp : M.Perm (leftL c.r0 d.r1 d.n1 c.n0 ++ metasL d.r0 d.n0)) (hs : M.Pairwise (fun a b => ¬ fOrdM b a < 0)) {x y z : Int}
    (h : versB (vc M x y z) = true ∨ versB (vc (apL c d) x y z) = true) : M = apL c d := by
  have hLp : (apL c d).Perm (leftL c.r0 d.r1 d.n1 c.n0 ++ metasL d.r0 d.n0) := addsL_perm _ _ _
  have hML : M.Perm (apL c d) := hp.trans hLp.symm
  have hK : (leftL c.r0 d.r1 d.n1 c.n0).Pairwise OrdM := (right_ord (vc_self c hc)).1.sublist (leftL_sub _ _ _ _)
  rcases h with h | h
  · obtain ⟨ho, hg⟩ := right_ord h
    have hcmp : (leftL c.r0 d.r1 d.n1 c.n0 ++ metasL d.r0 d.n0).Pairwise (fun a b => OrdM a b ∨ OrdM b a) :=
      hp.pairwise (ho.imp fun hh => .inl hh) (fun hh => hh.symm)
    have hgL : ∀ a ∈ leftL c.r0 d.r1 d.n1 c.n0 ++ metasL d.r0 d.n0, goodM a := fun a ha => hg a (hp.mem_iff.2 ha)
    have hLo : (apL c d).Pairwise OrdM := addsL_ord _ _ hK _ hgL hcmp
    exact List.Perm.eq_of_pairwise (le := OrdM) (fun a b ha _ h1 h2 => ((OrdM.irr (hg a ha)) (h1.trans (hg b (by rename_i hb; exact hML.mem_iff.2 hb)) h2)).elim) ho hLo hML
  · obtain ⟨ho, hg⟩ := right_ord h
    have hle : (apL c d).Pairwise (fun a b => ¬ fOrdM b a < 0) := ho.imp_of_mem fun {a b} ha hb hh => hh.le (hg a ha)
    refine List.Perm.eq_of_pairwise (le := fun a b => ¬ fOrdM b a < 0) (fun a b ha hb h1 h2 => ?_) hs hle hML
    have ha' := hML.mem_iff.1 ha
    obtain ⟨i, hi, rfl⟩ := List.getElem_of_mem ha'
    obtain ⟨j, hj, rfl⟩ := List.getElem_of_mem hb
    rcases Nat.lt_trichotomy i j with hij | rfl | hij
    · exact (h2 ((List.pairwise_iff_getElem.1 ho i j hi hj hij).lt (hg _ ha'))).elim
    · rfl
    · exact (h1 ((List.pairwise_iff_getElem.1 ho j i hj hi hij).lt (hg _ hb))).elim

/-- Numbers none of which stands twice, in another row: how many there are; where there are as many, it is the same row in some order. -/
theorem nodup_sub_perm : ∀ {a b : List Int}, a.Nodup → (∀ x ∈ a, x ∈ b) → a.length ≤ b.length ∧ (b.length ≤ a.length → a.Perm b)
  | [], b, _, _ => ⟨Nat.zero_le _, fun h => by have : b = [] := List.length_eq_zero_iff.1 (by simpa using h); rw [this]⟩
  | x :: a, b, hn, hs => by
    rw [List.nodup_cons] at hn
    have hx : x ∈ b := hs x (List.mem_cons_self ..)
    have hl := List.length_erase_of_mem hx
    have hpos : 0 < b.length := List.length_pos_of_mem hx
    have hs' : ∀ y ∈ a, y ∈ b.erase x := fun y hy => (List.mem_erase_of_ne (fun e => hn.1 (by rw [← e]; exact hy))).2 (hs y (List.mem_cons_of_mem _ hy))
    obtain ⟨h1, h2⟩ := nodup_sub_perm hn.2 hs'
    refine ⟨by simp only [List.length_cons]; omega, fun hle => ?_⟩
    simp only [List.length_cons] at hle
    exact (List.Perm.cons x (h2 (by omega))).trans (List.perm_cons_erase hx).symm

/-- The cuts of an edit. -/
def cutsL (d : EditC) : List Int := (List.range d.n1).map d.r1
theorem cutsL_len (d : EditC) : (cutsL d).length = d.n1 := by simp [cutsL]
theorem cutB_mem (S : Nat → Int) (x : Int) : ∀ n, cutB S x n = true ↔ x ∈ (List.range n).map S
  | 0 => by simp [cutB]
  | n + 1 => by
    rw [cutB, Bool.or_eq_true, cutB_mem S x n, List.range_succ, List.map_append, List.mem_append]
    simp [eq_comm]
theorem cutN_filter (O : Metas) (S : Nat → Int) (n : Nat) : ∀ k, cutN O S n k = ((numsL O k).filter fun x => cutB S x n).length
  | 0 => rfl
  | k + 1 => by
    rw [cutN, numsL_succ, List.filter_append, List.length_append, ← cutN_filter O S n k]
    cases h : cutB S (O.N k) n <;> simp [h]
/-- What the program asks of the cuts. -/
def cutsB (c : VersionC) (d : EditC) : Bool := decide (d.n1 ≤ c.n0) && nodupB (cutsL d) && (cutsL d).all fun x => (numsL c.r0 c.n0).contains x
theorem cuts_same {c : VersionC} {d : EditC} (hc : versB c = true) : cutsB c d = decide (cutN c.r0 d.r1 d.n1 c.n0 = d.n1) := by
  have hnd := (versB_out hc).2.2
  rw [Bool.eq_iff_iff, decide_eq_true_iff, cutN_filter]
  unfold cutsB nodupB
  rw [Bool.and_eq_true, Bool.and_eq_true, List.all_eq_true]
  have hF : ((numsL c.r0 c.n0).filter fun x => cutB d.r1 x d.n1).Nodup := hnd.sublist List.filter_sublist
  have hFm : ∀ x, x ∈ ((numsL c.r0 c.n0).filter fun x => cutB d.r1 x d.n1) ↔ x ∈ numsL c.r0 c.n0 ∧ x ∈ cutsL d := fun x => by
    rw [List.mem_filter]
    exact and_congr_right fun _ => cutB_mem _ _ _
  obtain ⟨h1, h2⟩ := nodup_sub_perm hF (fun x hx => ((hFm x).1 hx).2)
  rw [cutsL_len] at h1 h2
  constructor
  · rintro ⟨⟨_, hn⟩, hall⟩
    have hn' : (cutsL d).Nodup := of_decide_eq_true hn
    obtain ⟨h3, _⟩ := nodup_sub_perm hn' (b := (numsL c.r0 c.n0).filter fun x => cutB d.r1 x d.n1) (fun x hx => (hFm x).2 ⟨by simpa using hall x hx, hx⟩)
    rw [cutsL_len] at h3
    omega
  · intro h
    have hp := h2 (by omega)
    refine ⟨⟨decide_eq_true ?_, decide_eq_true (hp.nodup_iff.1 hF)⟩, fun x hx => ?_⟩
    · have := List.length_filter_le (fun x => cutB d.r1 x d.n1) (numsL c.r0 c.n0)
      rw [numsL_len] at this
      omega
    · have := ((hFm x).1 (hp.mem_iff.2 hx)).1
      simpa using this

end Go.Proofs.Ytplbhgcibfajaaa

/- slices.SortFunc of files, laid by the kit's shelf (lay-plain.mjs, lay2src.py). -/
namespace Go.Proofs.Ytplbhgcibfajaaa
set_option maxRecDepth 100000
open Go.RowKit

def lsortM_ren : Go.Shelf.Ren := ⟨fun | 6 => 73 | 15 => 83 | 14 => 82 | 28 => 94 | 29 => 95 | 20 => 86 | 21 => 87 | 22 => 88 | 23 => 89 | 24 => 90 | 25 => 91 | 26 => 92 | 27 => 93 | 46 => 104 | 47 => 105 | 48 => 106 | 49 => 107 | 50 => 108 | 57 => 112 | n => n, fun | 22 => 30 | 24 => 59 | 25 => 89 | 3 => 3 | 39 => 107 | 0 => 0 | 53 => 126 | 55 => 105 | 4 => 4 | 46 => 119 | 45 => 118 | 50 => 123 | 5 => 5 | 9 => 9 | 66 => 133 | 70 => 136 | 76 => 140 | 77 => 141 | n => n, fun | n => n⟩
theorem lsortM : Go.Proofs.SlLaysF0.n6 Try.prog lsortM_ren := {
  mixed := by kernel_rfl
  f6 := ⟨Try.f73.name, by decide, Try.func73.trans (congrArg some (by kernel_rfl))⟩
  f14 := ⟨Try.f82.name, by decide, Try.func82.trans (congrArg some (by kernel_rfl))⟩
  f15 := Try.func83.trans (congrArg some (by kernel_rfl))
  f20 := ⟨Try.f86.name, by decide, Try.func86.trans (congrArg some (by kernel_rfl))⟩
  f21 := ⟨Try.f87.name, by decide, Try.func87.trans (congrArg some (by kernel_rfl))⟩
  f22 := ⟨Try.f88.name, by decide, Try.func88.trans (congrArg some (by kernel_rfl))⟩
  f23 := ⟨Try.f89.name, by decide, Try.func89.trans (congrArg some (by kernel_rfl))⟩
  f24 := ⟨Try.f90.name, by decide, Try.func90.trans (congrArg some (by kernel_rfl))⟩
  f25 := ⟨Try.f91.name, by decide, Try.func91.trans (congrArg some (by kernel_rfl))⟩
  f26 := ⟨Try.f92.name, by decide, Try.func92.trans (congrArg some (by kernel_rfl))⟩
  f27 := ⟨Try.f93.name, by decide, Try.func93.trans (congrArg some (by kernel_rfl))⟩
  f28 := Try.func94.trans (congrArg some (by kernel_rfl))
  f29 := Try.func95.trans (congrArg some (by kernel_rfl))
  f46 := ⟨Try.f104.name, by decide, Try.func104.trans (congrArg some (by kernel_rfl))⟩
  f47 := Try.func105.trans (congrArg some (by kernel_rfl))
  f48 := Try.func106.trans (congrArg some (by kernel_rfl))
  f49 := ⟨Try.f107.name, by decide, Try.func107.trans (congrArg some (by kernel_rfl))⟩
  f50 := ⟨Try.f108.name, by decide, Try.func108.trans (congrArg some (by kernel_rfl))⟩
  f57 := ⟨Try.f112.name, by decide, Try.func112.trans (congrArg some (by kernel_rfl))⟩
  t0 := Try.underlying0
  a0 := Try.isAgg0
  z0 := Try.sizeOf0
  v0 := Try.zeroValue0
  t3 := Try.underlying3
  a3 := Try.isAgg3
  z3 := Try.sizeOf3
  v3 := Try.zeroValue3
  t4 := Try.underlying4
  a4 := Try.isAgg4
  z4 := Try.sizeOf4
  v4 := Try.zeroValue4
  t5 := Try.underlying5
  a5 := Try.isAgg5
  z5 := Try.sizeOf5
  v5 := Try.zeroValue5
  t9 := Try.underlying9
  a9 := Try.isAgg9
  z9 := Try.sizeOf9
  v9 := Try.zeroValue9
  t22 := Try.underlying30
  a22 := Try.isAgg30
  z22 := Try.sizeOf30
  v22 := Try.zeroValue30
  t25 := Try.underlying89
  a25 := Try.isAgg89
  z25 := Try.sizeOf89
  v25 := Try.zeroValue89
  t39 := Try.underlying107
  a39 := Try.isAgg107
  z39 := Try.sizeOf107
  v39 := Try.zeroValue107
  t45 := Try.underlying118
  a45 := Try.isAgg118
  z45 := Try.sizeOf118
  v45 := Try.zeroValue118
  t46 := Try.underlying119
  a46 := Try.isAgg119
  z46 := Try.sizeOf119
  v46 := Try.zeroValue119
  t50 := Try.underlying123
  a50 := Try.isAgg123
  z50 := Try.sizeOf123
  v50 := Try.zeroValue123
  t53 := Try.underlying126
  a53 := Try.isAgg126
  z53 := Try.sizeOf126
  v53 := Try.zeroValue126
  t55 := Try.underlying105
  a55 := Try.isAgg105
  z55 := Try.sizeOf105
  v55 := Try.zeroValue105
  t66 := Try.underlying133
  a66 := Try.isAgg133
  z66 := Try.sizeOf133
  v66 := Try.zeroValue133
  t70 := Try.underlying136
  a70 := Try.isAgg136
  z70 := Try.sizeOf136
  v70 := Try.zeroValue136
  t76 := Try.underlying140
  a76 := Try.isAgg140
  z76 := Try.sizeOf140
  v76 := Try.zeroValue140
  t77 := Try.underlying141
  a77 := Try.isAgg141
  z77 := Try.sizeOf141
  v77 := Try.zeroValue141 }

end Go.Proofs.Ytplbhgcibfajaaa

/- Rows of files of one's own: cloned, and sorted by the library. -/
namespace Go.Proofs.Ytplbhgcibfajaaa
set_option maxRecDepth 100000
open Go.RowKit Go.Deep Go.Sort

def zM : Meta1 := ⟨0, 0, ⟨#[]⟩, ⟨#[]⟩, 0⟩
/-- The file at a place. -/
def gM (l : List Meta1) (i : Nat) : Meta1 := l.getD i zM
def encN (l : List Meta1) (i : Nat) : List Value := [.int .i64 (gM l i).n, .int .i64 (gM l i).l, .string (gM l i).f, .string (gM l i).z, .int .i64 (gM l i).c]
def cfN (l : List Meta1) (i j : Nat) : Int := fOrdM (gM l i) (gM l j)
theorem cfN_swo (l : List Meta1) : SWO (ltOf (cfN l)) :=
  ⟨fun x => cfM_swo.irrefl (gM l x), fun x y z h k => cfM_swo.trans (gM l x) (gM l y) (gM l z) h k, fun x y z h k => cfM_swo.ntrans (gM l x) (gM l y) (gM l z) h k⟩
theorem gM_range (l : List Meta1) : (List.range l.length).map (gM l) = l := by
  apply List.ext_getElem
  · simp
  · intro i h1 h2
    simp [gM, List.getD, h2]

theorem cellsM_flat (l : List Meta1) (p : List Nat) (t : Nat) (ht : t < p.length * 5) : (cellsMeta (p.map (gM l)))[t]? = some (flatK (encN l) 5 p.toArray)[t]! := by
  rw [get_flatK _ _ _ t (by simpa using ht)]
  obtain ⟨i, c, hc, rfl⟩ : ∃ i c, c < 5 ∧ t = i * 5 + c := ⟨t / 5, t % 5, by omega, by omega⟩
  have hi : i < p.length := by omega
  have hg : (p.map (gM l))[i]? = some (gM l p[i]) := by simp [hi]
  obtain ⟨a, b, d, e, f⟩ := cellsMeta_get _ _ _ hg
  rw [show (i * 5 + c) / 5 = i by omega, show (i * 5 + c) % 5 = c by omega, show p.toArray[i]! = p[i] by simp [hi]]
  rcases c with _ | _ | _ | _ | _ | c
  · exact a
  · exact b
  · exact d
  · exact e
  · exact f
  · omega

theorem OwnMeta.blk {w : World} {B g n cap : Nat} {es : List Meta1} (h : OwnMeta w B (.slice (Option.some ⟨g, 0, none⟩) n cap) es) : n = es.length ∧ ∃ cur, w.heap[g]? = Option.some (.cells cur 59 (0, 0)) ∧ cur.size = cap * 5 ∧ es.length ≤ cap ∧ cap ≤ maxLen ∧ cur.toList.take (es.length * 5) = cellsMeta es ∧ B ≤ g := by
  obtain ⟨_, h⟩ := h
  rcases h with ⟨hn, _⟩ | ⟨g', cap', cur, hv, hB, hcur, h1, h2, h3, h4⟩
  · cases hn
  · simp only [Value.slice.injEq, Option.some.injEq, Addr.mk.injEq, and_true] at hv
    obtain ⟨rfl, rfl, rfl⟩ := hv
    exact ⟨rfl, cur, hcur, h3, h1, h2, h4, hB⟩

theorem sortM_below {w : World} {B g n : Nat} (enc : Nat → List Value) (d : Array Nat) (os : Array Obj) (hB : B ≤ g) (hg : g < w.heap.size) : Below B w (Go.Proofs.sortWorldK enc 5 w g 0 n d os) := by
  refine ⟨rfl, rfl, rfl, ?_, fun k hk => ?_⟩
  · simp [Go.Proofs.sortWorldK, grow, putRowK, putRow, mapBlock]
  · have h1 : k < w.heap.size := by omega
    have h2 : ¬ g = k := by omega
    simp [Go.Proofs.sortWorldK, grow, putRowK, putRow, mapBlock, Array.getElem?_append, Array.getElem_modify, h1, h2]

theorem OwnMeta.sorted {w : World} {B g n cap k : Nat} {l : List Meta1} {p : List Nat} (h : OwnMeta w B (.slice (Option.some ⟨g, 0, none⟩) n cap) l) (hm : p.length = l.length) (os : Array Obj) :
    OwnMeta (Go.Proofs.sortWorldK (encN l) 5 w g 0 k p.toArray os) B (.slice (Option.some ⟨g, 0, none⟩) n cap) (p.map (gM l)) := by
  obtain ⟨rfl, cur, hc, hs, h1, h2, h3, hB⟩ := h.blk
  have hlt : g < w.heap.size := (Array.getElem?_eq_some_iff.1 hc).1
  have hh : (Go.Proofs.sortWorldK (encN l) 5 w g 0 k p.toArray os).heap[g]? = Option.some (.cells (putCells id 0 (flatK (encN l) 5 p.toArray) cur) 59 (0, 0)) := by
    simp only [Go.Proofs.sortWorldK, grow, putRowK, putRow, mapBlock]
    rw [Array.getElem?_append_left (by simpa using hlt), Array.getElem?_modify, if_pos rfl]
    show Option.map _ w.heap[g]? = _
    rw [hc]
    rfl
  refine ⟨by rw [cellsMeta_len], .inr ⟨g, cap, _, by rw [List.length_map, hm], hB, hh, by rw [List.length_map, hm]; exact h1, h2, by simp [putCells, hs], ?_⟩⟩
  apply List.ext_getElem?
  intro t
  rw [List.length_map, hm, List.getElem?_take]
  by_cases ht : t < l.length * 5
  · rw [if_pos ht, cellsM_flat l p t (by omega)]
    have hz : t < cur.size := by rw [hs]; omega
    have hz2 : t < p.toArray.size * 5 := by simpa [hm] using ht
    simp [putCells, hz, hm, ht]
  · rw [if_neg ht, List.getElem?_eq_none (by rw [cellsMeta_len]; simp [hm]; omega)]

set_option maxHeartbeats 1000000 in
theorem sort_metas (v : Value) (l : List Meta1) (B : Nat) (w : World) (hown : OwnMeta w B v l) (hz : l.length ≤ 1000000) :
    Calls Try.prog 73 #[v, .func (.func 59) #[] #[]] w fun e w' => e = .returned (.tuple #[]) ∧ (∃ M, M.Perm l ∧ M.Pairwise (fun a b => ¬ fOrdM b a < 0) ∧ OwnMeta w' B v M) ∧ Below B w w' := by
  by_cases h0 : l.length = 0
  · have hl : l = [] := List.length_eq_zero_iff.1 h0
    subst hl
    rcases hown.2 with ⟨rfl, _⟩ | ⟨g, cap, cur, rfl, r⟩
    · refine Calls.mono (Go.Proofs.AnyF.slices_SortFunc_none { lsortM with } none 0 _ w) ?_
      rintro e w' ⟨rfl, rfl⟩
      exact ⟨rfl, ⟨[], List.Perm.refl _, by simp, hown⟩, Below.refl _ _⟩
    · refine Calls.mono (Go.Proofs.AnyF.slices_SortFunc_none { lsortM with } _ _ _ w) ?_
      rintro e w' ⟨rfl, rfl⟩
      exact ⟨rfl, ⟨[], List.Perm.refl _, by simp, hown⟩, Below.refl _ _⟩
  · obtain ⟨g, cap, rfl⟩ := OwnMeta.some hown h0
    obtain ⟨_, cur, hc, hs, h1, h2, h3, hB⟩ := hown.blk
    have hg : g < w.heap.size := (Array.getElem?_eq_some_iff.1 hc).1
    have eg : ∀ args w, (callFunc 59 args).run Try.prog w = .ok (.enter 59 args) w := enters_of Try.func59 (by kernel_rfl) rfl
    have hcmp : Go.Proofs.CmpLays Try.prog 59 #[] (encN l) 5 (cfN l) g 0 (List.range l.length).toArray.size w := fun m os dk _ x y => impl_fileOrder _ _ _ _ _ _ _ _ _ _ _
    have he : ∀ x, ∀ v ∈ encN l x, v.oneCell' = true := fun x v hv => by
      simp only [encN, List.mem_cons, List.not_mem_nil, or_false] at hv
      rcases hv with rfl | rfl | rfl | rfl | rfl <;> rfl
    have hH : HoldsK (encN l) 5 w g 0 (List.range l.length).toArray := by
      intro j hj
      rw [size_flatK, List.size_toArray, List.length_range] at hj
      refine ⟨?_, by simp [World.frozen?, hc]⟩
      rw [Nat.zero_add]
      have := cellsM_flat l (List.range l.length) j (by rw [List.length_range]; exact hj)
      rw [gM_range] at this
      exact hown.cellsAt _ _ this
    have hcon := Go.Proofs.AnyQ.slices_SortFunc lsortM 5 Try.isAgg59 Try.sizeOf59 (encN l) (fun _ => rfl) he (cfN l) (cfN_swo l) 59 #[] g 0 cap (List.range l.length).toArray w eg hcmp hH hg (by simp; omega)
    rw [List.size_toArray, List.length_range] at hcon
    refine Calls.mono hcon ?_
    rintro e w' ⟨rfl, d', k, os, ⟨hp1, _, hp3⟩, hsrt, rfl⟩
    have hlen : d'.toList.length = l.length := by simpa using hp1
    have hfull : (d'.extract 0 l.length).toList = d'.toList := by
      have : d'.size = l.length := by simpa using hp1
      rw [← this]; simp
    have hrange : ((List.range l.length).toArray.extract 0 l.length).toList = List.range l.length := by simp
    rw [hfull, hrange] at hp3
    refine ⟨rfl, ⟨d'.toList.map (gM l), ?_, ?_, ?_⟩, sortM_below _ _ _ hB hg⟩
    · have := hp3.map (gM l)
      rw [gM_range] at this
      exact this
    · rw [List.pairwise_map, List.pairwise_iff_getElem]
      intro i j hi hj hij
      have h4 := hsrt i j (Nat.zero_le _) hij (by rw [← hlen]; exact hj)
      have ei : d'[i]! = d'.toList[i] := by simp [show i < d'.size by simpa using hi]
      have ej : d'[j]! = d'.toList[j] := by simp [show j < d'.size by simpa using hj]
      rw [ei, ej] at h4
      exact (ltM_no _ _).1 h4
    · have := hown.sorted (p := d'.toList) (k := k) hlen os
      simpa using this

set_option maxHeartbeats 1000000 in
theorem lib_CloneM (v : Value) (l : List Meta1) (B : Nat) (w : World) (hs : OwnMeta w B v l) (hz : l.length ≤ 900000) :
    Calls Try.prog 72 #[v] w fun e w' => (∃ v', e = .returned v' ∧ OwnMeta w' w.heap.size v' l) ∧ Below w.heap.size w w' := by
  rcases hs.2 with ⟨rfl, h0⟩ | ⟨g, cap, cur, rfl, hB, hh, r⟩
  · have hl : l = [] := List.length_eq_zero_iff.1 h0
    subst hl
    have he : ∀ wx : World, (binOp .eql 30 (.slice none 0 0) (.slice none 0 0)).run Try.prog wx = .ok (.bool true) wx := fun wx => by first | exact Lib.run_eql_slice_nil wx _ _ _ _ _ Try.underlying30 | exact Lib.run_eql_slice_nil wx _ _ _ _ _ _ _ Try.underlying30
    go_enter Try.func72, Try.ntmps72
    go_wp2
    go_ret
    exact ⟨⟨_, rfl, OwnMeta.nil _ _⟩, Below.refl _ _⟩
  · have he : ∀ wx : World, (binOp .eql 30 (.slice (some ⟨g, 0, none⟩) l.length cap) (.slice none 0 0)).run Try.prog wx = .ok (.bool false) wx := fun wx => by first | exact Lib.run_eql_slice_nil wx _ _ _ _ _ Try.underlying30 | exact Lib.run_eql_slice_nil wx _ _ _ _ _ _ _ Try.underlying30
    have hown := OwnMeta.lit w w.heap.size (Nat.le_refl _)
    have hs1 := hs.next (below_one w (.cells #[] 59))
    have hcell : ∀ j u, (cellsMeta l)[j]? = some u → (w.alloc (.cells #[] 59)).cell? ((⟨g, 0, none⟩ : Addr).add j) = some u := fun j u hu => by
      rw [Addr.add_lit]
      show (w.alloc (.cells #[] 59)).cell? ⟨g, 0 + j, none⟩ = some u
      rw [Nat.zero_add]
      exact hs1.cellsAt j u hu
    go_enter Try.func72, Try.ntmps72
    go_wp2_with (first
      | (at_builtin; refine wpList_append_meta rfl _ _ 30 rfl Try.underlying30 w.heap.size _ [] l (by rfl) hown ⟨g, 0, none⟩ l.length cap (by rfl) rfl hcell (by simp) (by simp; omega) ?_; intro v' w' h1 h2))
    have hb : Below w.heap.size w w' := (below_one w _).trans h2
    have h1' : OwnMeta w' w.heap.size v' l := by simpa using h1
    clear h1 h2
    go_wp2
    go_ret
    exact ⟨⟨_, rfl, h1'⟩, hb⟩

set_option maxHeartbeats 1000000 in
theorem impl_sortedM (v : Value) (l : List Meta1) (B : Nat) (w : World) (hs : OwnMeta w B v l) (hz : l.length ≤ 900000) :
    Calls Try.prog 58 #[v, .func (.func 59) #[] #[]] w fun e w' => (∃ v' M, e = .returned v' ∧ M.Perm l ∧ M.Pairwise (fun a b => ¬ fOrdM b a < 0) ∧ OwnMeta w' w.heap.size v' M) ∧ Below w.heap.size w w' := by
  go_enter Try.func58, Try.ntmps58
  go_wp2_with fail
  refine (lib_CloneM v l B w hs hz).mono ?_
  rintro e w1 ⟨⟨v1, rfl, ho⟩, hb⟩
  have HO := hide ho
  have HB := hide hb
  clear ho hb hs
  go_wp2_with fail
  refine (sort_metas v1 l _ w1 HO.out (by omega)).mono ?_
  rintro e w2 ⟨rfl, ⟨M, hp, hso, ho2⟩, hb2⟩
  have HO2 := hide ho2
  have HP := hide hp
  have HS := hide hso
  have HB2 := hide (HB.out.trans hb2)
  clear ho2 hb2 HO HB hp hso
  go_wp2
  go_ret
  first | exact ⟨⟨_, M, rfl, HP.out, HS.out, HO2.out⟩, HB2.out⟩ | exact ⟨⟨_, rfl, M, HP.out, HS.out, HO2.out⟩, HB2.out⟩ | exact ⟨⟨M, HP.out, HS.out, HO2.out⟩, HB2.out⟩

end Go.Proofs.Ytplbhgcibfajaaa

/- Apply of the program. (By gen_api.py.) -/
namespace Go.Proofs.Ytplbhgcibfajaaa
set_option maxRecDepth 100000
open Go.RowKit Go.Deep Go.Sort

set_option maxHeartbeats 1000000 in
theorem lib_ContainsI (a : Option Addr) (len cap : Nat) (S : Nat → Int) (x : Int) (w : World) (hl : len ≤ 1048576) (hS : IntAt w w.heap.size a len S) :
    Calls Try.prog 57 #[.slice a len cap, .int .i64 x] w fun e w' => e = .returned (.bool (cutB S x len)) ∧ Below w.heap.size w w' := by
  have hI : Calls Try.prog 71 #[.slice a len cap, .int .i64 x] w fun e w' => (∃ r : Int, e = .returned (.int .i64 r) ∧ (0 ≤ r ↔ cutB S x len = true)) ∧ Below w.heap.size w w' := by
    have HS := hS.hid
    have HB0 := hide (Below.refl w.heap.size w)
    clear hS
    go_enter Try.func71, Try.ntmps71
    go_wp2
    go_loopg [8] len (fun g v wr => ∃ k : Nat, v = .int .i64 (k : Int) ∧ k + g = len ∧ Hid (cutB S x k = false) ∧ Hid (Below w.heap.size w wr))
    case atStart => exact ⟨0, rfl, by omega, rfl, HB0⟩
    case round =>
      obtain ⟨k, rfl, hk, HC, HW⟩ := hrel
      clear HB0
      by_cases hlt : k < len
      · obtain ⟨b, off, rfl, hb, c0⟩ := (HS.out.below HW.out).at hlt
        have hki : (k : Int) < (len : Int) := by omega
        by_cases he : x = S k
        · have hr : cutB S x len = true := (cutB_mem S x len).2 (by rw [he]; exact List.mem_map.2 ⟨k, List.mem_range.2 hlt, rfl⟩)
          have HR := hide hr
          rw [← he] at c0
          clear hr he HC
          go_wp2
          go_ret
          exact ⟨⟨(k : Int), rfl, by simp [HR.out]⟩, HW.out⟩
        · have he1 : (x == S k) = false := by simpa using he
          have HC2 : Hid (cutB S x (k + 1) = false) := by show cutB S x (k + 1) = false; rw [cutB, HC.out, Bool.false_or]; exact decide_eq_false (fun e => he e.symm)
          clear HC
          go_wp2
          go_roundg (gk - 1)
          case measure => omega
          case rel => exact ⟨k + 1, by go_num, by omega, HC2, HW⟩
      · obtain rfl : k = len := by omega
        have hki : ¬ ((k : Int) < (k : Int)) := by omega
        go_wp2
        go_ret
        exact ⟨⟨-1, rfl, by rw [HC.out]; simp⟩, HW.out⟩
  go_enter Try.func57, Try.ntmps57
  go_wp2_with fail
  refine hI.mono ?_
  rintro e w1 ⟨⟨r, rfl, hr⟩, hb⟩
  have HB := hide hb
  have HR := hide hr
  clear hI hS hb hr
  by_cases h0 : 0 ≤ r
  · have hv := HR.out.1 h0
    go_wp2
    go_ret
    exact ⟨by show Ending.returned (.bool true) = _; rw [hv], HB.out⟩
  · have hv : cutB S x len = false := by
      cases hq : cutB S x len with
      | false => rfl
      | true => exact (h0 (HR.out.2 hq)).elim
    have hd : decide (0 ≤ r) = false := decide_eq_false h0
    go_wp2
    go_ret
    exact ⟨by show Ending.returned (.bool false) = _; rw [hv], HB.out⟩

theorem cutB_numsL (c : VersionC) (x : Int) : cutB c.r0.N x c.n0 = (numsL c.r0 c.n0).contains x := by
  rw [Bool.eq_iff_iff, cutB_mem]
  simp [numsL]
theorem intAt_list {w : World} {B : Nat} {v : Value} {c : VersionC} (h : OwnI w B v (numsL c.r0 c.n0)) : ∃ a cap, v = .slice a c.n0 cap ∧ IntAt w w.heap.size a c.n0 c.r0.N := by
  obtain ⟨a, cap, hv, hI⟩ := h.at
  rw [numsL_len] at hv hI
  refine ⟨a, cap, hv, ?_⟩
  rcases hI with hI | ⟨b, off, e, hb, hc⟩
  · exact .inl hI
  · exact .inr ⟨b, off, e, hb, fun i hi => by rw [hc i hi]; simp [numsL, List.getD, hi]⟩

set_option maxHeartbeats 2000000 in
theorem impl_cutsOk (b1 : Option Addr) (q1 : Nat) (a0 : Option Addr) (p0 : Nat) (c : VersionC) (d : EditC) (w : World) (hf : c.n0 ≤ 1000) (hg : d.n1 ≤ 1048576) (hU : IntAt w w.heap.size b1 d.n1 d.r1) (hSrc : IntSrc w (.slice b1 d.n1 q1) (cutsL d)) (hS : MetaAt w w.heap.size a0 c.n0 c.r0) :
    Calls Try.prog 35 #[.slice b1 d.n1 q1, .slice a0 c.n0 p0] w fun e w' => e = .returned (.bool (cutsB c d)) ∧ Below w.heap.size w w' := by
  have hfn : c.n0 ≤ 1048576 := by omega
  by_cases h1 : d.n1 ≤ c.n0
  · have h1' : ¬ ((c.n0 : Int) < (d.n1 : Int)) := by omega
    have hv : cutsB c d = (nodupB (cutsL d) && (cutsL d).all fun x => (numsL c.r0 c.n0).contains x) := by unfold cutsB; rw [decide_eq_true h1, Bool.true_and]
    rw [hv]
    obtain ⟨al, hal⟩ : ∃ al, ((cutsL d).all fun x => (numsL c.r0 c.n0).contains x) = al := ⟨_, rfl⟩
    rw [hal]
    have HAL := hide hal
    obtain ⟨nd, hnd⟩ : ∃ nd, nodupB (cutsL d) = nd := ⟨_, rfl⟩
    have cD := impl_differI (.slice b1 d.n1 q1) (cutsL d) w hSrc (by rw [cutsL_len]; omega)
    rw [hnd] at cD ⊢
    have HU := hU.hid
    have HS := hS.hid
    clear hU hS hv hnd hSrc hal
    go_enter Try.func35, Try.ntmps35
    go_wp2_with fail
    refine cD.mono ?_
    rintro e w1 ⟨rfl, hb1⟩
    have HU1 := (HU.out.next hb1).hid
    have HS1 := (HS.out.next hb1).hid
    have HB1 := hide hb1
    clear HU HS hb1 cD
    cases nd with
    | false =>
      go_wp2
      go_ret
      exact ⟨rfl, HB1.out⟩
    | true =>
      go_wp2_with fail
      refine (impl_numsOf a0 c.n0 p0 c.r0 w1 hfn HS1.out).mono ?_
      rintro e w2 ⟨⟨v, rfl, hN⟩, hb2⟩
      obtain ⟨na, nc, rfl, hNI⟩ := intAt_list hN
      have HU2 := (HU1.out.next hb2).hid
      have HN2 := hNI.hid
      have HB2 := hide (HB1.out.trans (hb2.mono HB1.out.size))
      clear HU1 HS1 hb2 HB1 hN hNI
      go_wp2
      go_loopg [22] d.n1 (fun g v wr => ∃ k : Nat, v = .int .i64 (k : Int) ∧ k + g = d.n1 ∧ Hid (∀ j, j < k → (numsL c.r0 c.n0).contains (d.r1 j) = true) ∧ Hid (IntAt wr wr.heap.size na c.n0 c.r0.N) ∧ Hid (IntAt wr wr.heap.size b1 d.n1 d.r1) ∧ Hid (Below w.heap.size w wr))
      case atStart => exact ⟨0, rfl, by omega, fun j hj => by omega, HN2, HU2, HB2⟩
      case round =>
        obtain ⟨k, rfl, hk, HC, HN, HU, HW⟩ := hrel
        clear HN2 HU2 HB2
        by_cases hlt : k < d.n1
        · obtain ⟨b, off, rfl, hb, c0⟩ := HU.out.at hlt
          have hki : (k : Int) < (d.n1 : Int) := by omega
          have cC := lib_ContainsI na c.n0 nc c.r0.N (d.r1 k) wr hfn HN.out
          rw [cutB_numsL] at cC
          obtain ⟨t, ht⟩ : ∃ t, (numsL c.r0 c.n0).contains (d.r1 k) = t := ⟨_, rfl⟩
          rw [ht] at cC
          have HT := hide ht
          clear ht
          go_wp2_with fail
          refine cC.mono ?_
          rintro e w3 ⟨rfl, hb3⟩
          have HN3 := (HN.out.next hb3).hid
          have HU3 := (HU.out.next hb3).hid
          have HB3 := hide (HW.out.trans (hb3.mono HW.out.size))
          clear HN HU HW hb3 cC c0
          cases t with
          | false =>
            have hr : ((cutsL d).all fun x => (numsL c.r0 c.n0).contains x) = false := by
              rw [List.all_eq_false]
              exact ⟨d.r1 k, List.mem_map.2 ⟨k, List.mem_range.2 hlt, rfl⟩, by rw [HT.out]; simp⟩
            obtain rfl : al = false := by rw [← HAL.out]; exact hr
            clear hr
            go_wp2
            go_ret
            exact ⟨rfl, HB3.out⟩
          | true =>
            have HC2 : Hid (∀ j, j < k + 1 → (numsL c.r0 c.n0).contains (d.r1 j) = true) := fun j hj => by
              rcases Nat.lt_or_eq_of_le (Nat.le_of_lt_succ hj) with hj | rfl
              · exact HC.out j hj
              · exact HT.out
            clear HC HT
            go_wp2
            go_roundg (gk - 1)
            case measure => omega
            case rel => exact ⟨k + 1, by go_num, by omega, HC2, HN3, HU3, HB3⟩
        · obtain rfl : k = d.n1 := by omega
          have hr : ((cutsL d).all fun x => (numsL c.r0 c.n0).contains x) = true := by
            rw [List.all_eq_true]
            intro x hx
            obtain ⟨j, hj, rfl⟩ := List.mem_map.1 hx
            exact HC.out j (List.mem_range.1 hj)
          obtain rfl : al = true := by rw [← HAL.out]; exact hr
          have hki : ¬ ((d.n1 : Int) < (d.n1 : Int)) := by omega
          clear hr
          go_wp2
          go_ret
          exact ⟨rfl, HW.out⟩
  · have h1' : (c.n0 : Int) < (d.n1 : Int) := by omega
    have hv : cutsB c d = false := by unfold cutsB; rw [decide_eq_false h1]; rfl
    rw [hv]
    clear hU hS hSrc
    go_enter Try.func35, Try.ntmps35
    go_wp2
    go_ret
    exact ⟨rfl, Below.refl _ _⟩

/-- 'append(v, nil...)', whatever the nil slice's room. -/
theorem run_append_none_any {P : Program} {w : World} (base : Nat) (t ty e : TypeId) (i : TypeInfo) (size : Nat) (ht : P.underlying t = some (.slice e)) (hi : P.info? e = some i)
    (v : Value) (n : Nat) (xs : List Value) (hown : w.ownsRow base e size v n xs) (c : Nat) :
    (Builtin.append_ #[t, t] ty #[v, .slice none 0 c]).run P w = .ok v w := by
  rcases hown.2 with ⟨rfl, rfl⟩ | ⟨g, cap, cur, rfl, _, _, hnc, _⟩
  · simp [Builtin.append_, run_underlying ht, sizeOf, typeInfo, hi, Builtin.lenOf, Builtin.firstCells]
  · simp [Builtin.append_, run_underlying ht, sizeOf, typeInfo, hi, Builtin.lenOf, Builtin.firstCells, hnc, storeCells]

theorem metaAt_news {w : World} {B b off n : Nat} {O : Metas} (h : ∀ i, i < n → w.cell? ⟨b, off + i * 5, none⟩ = some (.int .i64 (O.N i)) ∧ w.cell? ⟨b, off + i * 5 + 1, none⟩ = some (.int .i64 (O.L i)) ∧ w.cell? ⟨b, off + i * 5 + 2, none⟩ = some (.string (O.F i)) ∧ w.cell? ⟨b, off + i * 5 + 3, none⟩ = some (.string (O.Z i)) ∧ w.cell? ⟨b, off + i * 5 + 4, none⟩ = some (.int .i64 (O.C i))) (_hB : B = B) :
    ∀ j u, (cellsMeta (metasL O n))[j]? = some u → w.cell? ((⟨b, off, none⟩ : Addr).add j) = some u := fun j u hu => by
  have hj : j < n * 5 := by have := (List.getElem?_eq_some_iff.1 hu).1; rwa [cellsMeta_len, metasL_len] at this
  have hi : j / 5 < n := by omega
  obtain ⟨c0, c1, c2, c3, c4⟩ := h (j / 5) hi
  have hg : (metasL O n)[j / 5]? = some (metaAt1 O (j / 5)) := by simp [metasL, hi]
  obtain ⟨d0, d1, d2, d3, d4⟩ := cellsMeta_get _ _ _ hg
  rw [Addr.add_lit]
  show w.cell? ⟨b, off + j, none⟩ = some u
  have hm : j = j / 5 * 5 + j % 5 := by omega
  have hlt : j % 5 < 5 := Nat.mod_lt _ (by decide)
  have hcase : j % 5 = 0 ∨ j % 5 = 1 ∨ j % 5 = 2 ∨ j % 5 = 3 ∨ j % 5 = 4 := by omega
  rcases hcase with e | e | e | e | e
  · rw [show j = j / 5 * 5 by omega, d0] at hu
    rw [show off + j = off + j / 5 * 5 by omega, c0]; exact hu
  · rw [show j = j / 5 * 5 + 1 by omega, d1] at hu
    rw [show off + j = off + j / 5 * 5 + 1 by omega, c1]; exact hu
  · rw [show j = j / 5 * 5 + 2 by omega, d2] at hu
    rw [show off + j = off + j / 5 * 5 + 2 by omega, c2]; exact hu
  · rw [show j = j / 5 * 5 + 3 by omega, d3] at hu
    rw [show off + j = off + j / 5 * 5 + 3 by omega, c3]; exact hu
  · rw [show j = j / 5 * 5 + 4 by omega, d4] at hu
    rw [show off + j = off + j / 5 * 5 + 4 by omega, c4]; exact hu

/-- 'append(v, u...)', u a row of files that lies anywhere (or nil). -/
theorem wpList_append_metaAt {w : World} {ops : Array Oper} {rest : List Oper} {o : Oper} {a : Act} {Q : Exit → Act → World → Prop} (hgd : o.guard = none) (s x : Operand) (t : TypeId)
    (ho : o.op = .call { callee := .builtin .append, args := #[s, x], argTypes := #[t, t] }) (ht : Try.prog.underlying t = some (.slice 59))
    (B : Nat) (v : Value) (es : List Meta1) (hs : a.eval s = v) (hown : OwnMeta w B v es) (ba : Option Addr) (n c : Nat) (O : Metas) (hx : a.eval x = .slice ba n c) (hsrc : MetaAt w w.heap.size ba n O) (hB : B ≤ w.heap.size) (hlen : es.length + n ≤ 1000000)
    (h : ∀ v' w', OwnMeta w' B v' (es ++ metasL O n) → Below B w w' → wpList Try.prog ops Q rest (a.put o.dst v') w') : wpList Try.prog ops Q (o :: rest) a w := by
  obtain ⟨i0, hi', hz0, hs0, hb0⟩ := info_parts meta_info
  by_cases hn : n = 0
  · subst hn
    have e0 : metasL O 0 = [] := rfl
    rw [e0, List.append_nil] at h
    cases ba with
    | none =>
      refine wpList_plain hgd fun _ hK => ?_
      have hr := run_append_none_any (P := Try.prog) (w := w) B t o.type 59 i0 _ ht hi' v es.length (cellsMeta es) hown c
      unfold Oper.wp execOp
      simp only [ho, resolve, invoke, builtin, Sem.run_bind, Sem.run_pure, Result.andThen_ok, List.map_toArray, List.map_cons, List.map_nil, hs, hx, hr]
      exact hK _ _ (h v w hown (Below.refl _ _))
    | some ad =>
      exact wpList_append_meta hgd s x t ho ht B v es [] hs hown ad 0 c hx rfl (fun j u hu => by simp [cellsMeta] at hu) hB hlen (by rw [List.append_nil]; exact h)
  · rcases hsrc with hz | ⟨b, off, rfl, hb, hc⟩
    · exact absurd hz hn
    · exact wpList_append_meta hgd s x t ho ht B v es (metasL O n) hs hown ⟨b, off, none⟩ n c hx (metasL_len O n) (metaAt_news hc (rfl : 0 = 0)) hB hlen h

/-- An edit as an argument whose cuts can be sorted. -/
def EditSrc (w : World) (e : Value) (d : EditC) : Prop := ∃ b0 q0 b1 q1, e = .agg #[.slice b0 d.n0 q0, .slice b1 d.n1 q1, .int .i64 d.x2, .int .i64 d.x3, .int .i64 d.x4] ∧ MetaAt w w.heap.size b0 d.n0 d.r0 ∧ IntAt w w.heap.size b1 d.n1 d.r1 ∧ IntSrc w (.slice b1 d.n1 q1) (cutsL d)
theorem EditSrc.next {w w' : World} {e : Value} {d : EditC} (h : EditSrc w e d) (hb : Below w.heap.size w w') : EditSrc w' e d := by
  obtain ⟨b0, q0, b1, q1, he, h0, h1, h2⟩ := h
  exact ⟨b0, q0, b1, q1, he, h0.next hb, h1.next hb, h2.next hb⟩

set_option linter.unusedSimpArgs false in
set_option maxHeartbeats 4000000 in
theorem impl_edited (a0 : Option Addr) (p0 : Nat) (c : VersionC) (b0 : Option Addr) (q0 : Nat) (b1 : Option Addr) (q1 : Nat) (d : EditC) (w : World) (hg : d.n0 ≤ 1000) (hg1 : d.n1 ≤ 1048576) (hc0 : c.n0 ≤ 1000)
    (hS : MetaAt w w.heap.size a0 c.n0 c.r0) (hA : MetaAt w w.heap.size b0 d.n0 d.r0) (hU : IntAt w w.heap.size b1 d.n1 d.r1) :
    Calls Try.prog 36 #[.slice a0 c.n0 p0, .agg #[.slice b0 d.n0 q0, .slice b1 d.n1 q1, .int .i64 d.x2, .int .i64 d.x3, .int .i64 d.x4]] w fun e w' => (∃ v M, e = .returned v ∧ (M : List Meta1).Perm (leftL c.r0 d.r1 d.n1 c.n0 ++ metasL d.r0 d.n0) ∧ M.Pairwise (fun a b => ¬ fOrdM b a < 0) ∧ OwnMeta w' w.heap.size v M) ∧ Below w.heap.size w w' := by
  have hX0 := (BoxIs.new w #[.slice b0 d.n0 q0, .slice b1 d.n1 q1, .int .i64 d.x2, .int .i64 d.x3, .int .i64 d.x4] 37 rfl).hid
  have hb0 := below_one w (.cells #[.slice b0 d.n0 q0, .slice b1 d.n1 q1, .int .i64 d.x2, .int .i64 d.x3, .int .i64 d.x4] 37)
  have HS0 := (hS.next hb0).hid
  have HA0 := (hA.next hb0).hid
  have HU0 := (hU.next hb0).hid
  have HB0 := hide hb0
  have HO0 : Hid (OwnMeta (w.alloc (.cells #[.slice b0 d.n0 q0, .slice b1 d.n1 q1, .int .i64 d.x2, .int .i64 d.x3, .int .i64 d.x4] 37)) (w.alloc (.cells #[.slice b0 d.n0 q0, .slice b1 d.n1 q1, .int .i64 d.x2, .int .i64 d.x3, .int .i64 d.x4] 37)).heap.size (.slice none 0 0) (leftL c.r0 d.r1 d.n1 0)) := OwnMeta.nil _ _
  have hlt := BoxIs.lt hX0.out
  clear hS hA hU hb0
  go_enter Try.func36, Try.ntmps36
  go_wp2_with fail
  generalize w.alloc (.cells #[.slice b0 d.n0 q0, .slice b1 d.n1 q1, .int .i64 d.x2, .int .i64 d.x3, .int .i64 d.x4] 37) = W at hX0 HS0 HA0 HU0 HB0 HO0 hlt ⊢
  go_loopg [5, 10] c.n0 (fun g lv iv wr => ∃ k : Nat, iv = .int .i64 (k : Int) ∧ k + g = c.n0 ∧ Hid (OwnMeta wr W.heap.size lv (leftL c.r0 d.r1 d.n1 k)) ∧ Hid (Below W.heap.size W wr))
  case atStart => exact ⟨0, rfl, by omega, HO0, Below.refl _ _⟩
  case round =>
    obtain ⟨k, rfl, hk, HO, HW⟩ := hrel
    clear HO0
    have hX := hX0.out.next HW.out
    by_cases hlt2 : k < c.n0
    · obtain ⟨b, off, rfl, hb, c0, c1, c2, c3, c4⟩ := (HS0.out.below HW.out).at hlt2
      have hki : (k : Int) < (c.n0 : Int) := by omega
      have x1 := (hX.next (below_one wr (.cells #[.int .i64 (c.r0.N k), .int .i64 (c.r0.L k), .string (c.r0.F k), .string (c.r0.Z k), .int .i64 (c.r0.C k)] 59))).cell 1
      have hN := (BoxIs.new wr #[.int .i64 (c.r0.N k), .int .i64 (c.r0.L k), .string (c.r0.F k), .string (c.r0.Z k), .int .i64 (c.r0.C k)] 59 rfl).hid
      have hbm := below_one wr (.cells #[.int .i64 (c.r0.N k), .int .i64 (c.r0.L k), .string (c.r0.F k), .string (c.r0.Z k), .int .i64 (c.r0.C k)] 59)
      have HO1 := (HO.out.next hbm).hid
      have HW1 := hide (HW.out.trans (hbm.mono HW.out.size))
      have cC := lib_ContainsI b1 d.n1 q1 d.r1 (c.r0.N k) (wr.alloc (.cells #[.int .i64 (c.r0.N k), .int .i64 (c.r0.L k), .string (c.r0.F k), .string (c.r0.Z k), .int .i64 (c.r0.C k)] 59)) hg1 (HU0.out.below HW1.out |>.mono HW1.out.size)
      simp only [List.getElem?_toArray, List.getElem?_cons_succ, List.getElem?_cons_zero] at x1
      obtain ⟨t, ht⟩ : ∃ t, cutB d.r1 (c.r0.N k) d.n1 = t := ⟨_, rfl⟩
      rw [ht] at cC
      have HT := hide ht
      clear ht hX hbm HO HW
      go_wp2_with fail
      refine cC.mono ?_
      rintro e w3 ⟨rfl, hb3⟩
      have HO3 := (HO1.out.next hb3).hid
      have HW3 := hide (HW1.out.trans (hb3.mono HW1.out.size))
      have hN3 := (hN.out.next hb3).hid
      clear HO1 HW1 hN hb3 cC x1 c0 c1 c2 c3 c4
      cases t with
      | true =>
        have HLL : Hid (leftL c.r0 d.r1 d.n1 (k + 1) = leftL c.r0 d.r1 d.n1 k) := by show _ = _; rw [leftL, if_pos HT.out]
        have HO4 : Hid (OwnMeta w3 W.heap.size u5 (leftL c.r0 d.r1 d.n1 (k + 1))) := by show OwnMeta _ _ _ _; rw [HLL.out]; exact HO3.out
        clear HT HO3 HLL hN3
        go_wp2
        go_roundg (gk - 1)
        case measure => omega
        case rel => exact ⟨k + 1, by go_num, by omega, HO4, HW3⟩
      | false =>
        have HLL : Hid (leftL c.r0 d.r1 d.n1 (k + 1) = leftL c.r0 d.r1 d.n1 k ++ [metaAt1 c.r0 k]) := by show _ = _; rw [leftL, if_neg (by rw [HT.out]; simp)]
        have hll := leftL_len c.r0 d.r1 d.n1 k
        have z0 := hN3.out.cell 0
        have z1 := hN3.out.cell 1
        have z2 := hN3.out.cell 2
        have z3 := hN3.out.cell 3
        have z4 := hN3.out.cell 4
        simp only [List.getElem?_toArray, List.getElem?_cons_succ, List.getElem?_cons_zero] at z0 z1 z2 z3 z4
        have hbn := below_one w3 (.cells #[.int .i64 (c.r0.N k), .int .i64 (c.r0.L k), .string (c.r0.F k), .string (c.r0.Z k), .int .i64 (c.r0.C k)] 59)
        have HO5 := (HO3.out.next hbn).hid
        have HW5 := hide (HW3.out.trans (hbn.mono HW3.out.size))
        have hM5 := (BoxIs.new w3 #[.int .i64 (c.r0.N k), .int .i64 (c.r0.L k), .string (c.r0.F k), .string (c.r0.Z k), .int .i64 (c.r0.C k)] 59 rfl).hid
        clear HT HO3 HW3 hN3 hbn
        go_wp2_with (first
          | (at_builtin; refine wpList_append_meta rfl _ _ 30 rfl Try.underlying30 W.heap.size _ (leftL c.r0 d.r1 d.n1 k) [metaAt1 c.r0 k] (by rfl) HO5.out ⟨w3.heap.size, 0, none⟩ 1 1 (by rfl) rfl (meta_news (e := metaAt1 c.r0 k) hM5.out) HW5.out.size (by omega) ?_))
        intro v6 w6 ho6 hb6
        have HO6 : Hid (OwnMeta w6 W.heap.size v6 (leftL c.r0 d.r1 d.n1 (k + 1))) := by show OwnMeta _ _ _ _; rw [HLL.out]; exact ho6
        have HW6 := hide (HW5.out.trans hb6)
        clear ho6 hb6 HO5 HW5 hM5 HLL z0 z1 z2 z3 z4
        go_wp2
        go_roundg (gk - 1)
        case measure => omega
        case rel => exact ⟨k + 1, by go_num, by omega, HO6, HW6⟩
    · obtain rfl : k = c.n0 := by omega
      have hki : ¬ ((c.n0 : Int) < (c.n0 : Int)) := by omega
      have x0 := hX.cell 0
      simp only [List.getElem?_toArray, List.getElem?_cons_succ, List.getElem?_cons_zero] at x0
      have HA1 := ((HA0.out.below HW.out).mono HW.out.size).hid
      have hll := leftL_len c.r0 d.r1 d.n1 c.n0
      clear hX
      go_wp2_with (first
        | (at_builtin; refine wpList_append_metaAt rfl _ _ 30 rfl Try.underlying30 W.heap.size _ (leftL c.r0 d.r1 d.n1 c.n0) (by rfl) HO.out b0 d.n0 q0 d.r0 (by rfl) HA1.out HW.out.size (by omega) ?_))
      intro v6 w6 ho6 hb6
      have HO6 := ho6.hid
      have HL6 := hide (HB0.out.trans ((HW.out.trans hb6).mono HB0.out.size))
      clear ho6 hb6 HO HW HA1 x0
      go_wp2_with fail
      refine (impl_sortedM v6 (leftL c.r0 d.r1 d.n1 c.n0 ++ metasL d.r0 d.n0) W.heap.size w6 HO6.out (by rw [List.length_append, metasL_len]; omega)).mono ?_
      rintro e w7 ⟨⟨v7, M, rfl, hp, hso, ho7⟩, hb7⟩
      have HP := hide hp
      have HSO := hide hso
      have HO7 := (ho7.base HL6.out.size).hid
      have HL7 := hide (HL6.out.trans (hb7.mono HL6.out.size))
      clear hp hso ho7 hb7 HO6 HL6
      go_wp2
      go_ret
      exact ⟨⟨_, rfl, M, HP.out, HSO.out, HO7.out⟩, HL7.out⟩

end Go.Proofs.Ytplbhgcibfajaaa

/- Apply of the program: the copy of a version, and the whole. (By gen_api.py.) -/
namespace Go.Proofs.Ytplbhgcibfajaaa
set_option maxRecDepth 100000
open Go.RowKit Go.Deep Go.Sort

/-- While a version is copied: the fresh one in block F, its row above it. -/
structure CvS (W : World) (F : Nat) (x1 x2 x3 : Int) (vo : Value) (l : List Meta1) (x : World) : Prop where
  lo : Below F W x
  bx : BoxIs x F #[vo, .int .i64 x1, .int .i64 x2, .int .i64 x3] 32
  ow : OwnMeta x (F + 1) vo l
section
variable {W : World} {F : Nat} {x1 x2 x3 : Int} {vo : Value} {l : List Meta1} {x y : World}
theorem CvS.next (h : CvS W F x1 x2 x3 vo l x) (hF : F ≤ W.heap.size) (b : Below x.heap.size x y) : CvS W F x1 x2 x3 vo l y :=
  ⟨h.lo.trans (b.mono (Nat.le_trans hF h.lo.size)), h.bx.next b, h.ow.next b⟩
theorem CvS.low (h : CvS W F x1 x2 x3 vo l x) : ∀ q, vo.ownBlock = some q → q < x.heap.size := fun q hq => by
  obtain ⟨cur, hc⟩ := rg_type h.ow hq
  exact (Array.getElem?_eq_some_iff.1 hc).1
theorem CvS.setM (h : CvS W F x1 x2 x3 vo l x) {M : Nat} (hM : F < M) (hq : ∀ q, vo.ownBlock = some q → q < M) (j : Nat) (v : Value) : CvS W F x1 x2 x3 vo l (x.setCell ⟨M, j, none⟩ v) :=
  ⟨h.lo.setCell (p := ⟨M, j, none⟩) (by show F ≤ M; omega) _, h.bx.set_other (by show M ≠ F; omega) _, rg_block h.ow (fun q _ _ hv => Below.heap_setCell _ _ _ _ (by have := hq q hv; show q ≠ M; omega))⟩
theorem CvS.added (h : CvS W F x1 x2 x3 vo l x) (hF : F < W.heap.size) {v' : Value} {m : Meta1} (ho : OwnMeta y (F + 1) v' (l ++ [m])) (hg : x.grownBy y vo.ownBlock) : CvS W F x1 x2 x3 v' (l ++ [m]) (y.setCell ⟨F, 0, none⟩ v') := by
  have hB : F + 1 ≤ x.heap.size := Nat.le_trans hF h.lo.size
  have b := rg_low h.ow hB hg
  have bx1 := rg_box h.ow hg h.bx (by decide)
  exact ⟨(h.lo.trans (b.mono (Nat.le_succ F))).setCell (p := ⟨F, 0, none⟩) (Nat.le_refl _) _, bx1.set 0 _, rg_set ho bx1 (by decide) _⟩
end

set_option linter.unusedVariables false in
set_option linter.unusedSimpArgs false in
set_option maxHeartbeats 4000000 in
theorem impl_copyVersion (v : Value) (c : VersionC) (w : World) (hn : c.n0 ≤ 1000) (hz : ∀ i, i < c.n0 → (c.r0.F i).size ≤ 1000 ∧ (c.r0.Z i).size ≤ 1000) (hv : VersionIs w v c) :
    Calls Try.prog 37 #[v] w fun e w' => (∃ u, e = .returned u ∧ VersionOwnM w' w.heap.size u (vc (metasL c.r0 c.n0) c.x1 c.x2 c.x3)) ∧ Below w.heap.size w w' := by
  obtain ⟨a0, p0, rfl, hS⟩ := hv
  have hB0 : Below w.heap.size w (((w.alloc (.cells #[.slice a0 c.n0 p0, .int .i64 c.x1, .int .i64 c.x2, .int .i64 c.x3] 32)).alloc (.cells #[.slice none 0 0, .int .i64 0, .int .i64 0, .int .i64 0] 32)).alloc (.cells #[.slice none 0 0, .int .i64 c.x1, .int .i64 c.x2, .int .i64 c.x3] 32)) := (((Below.refl _ _).alloc (Nat.le_refl _) _).alloc (by simp) _).alloc (by simp <;> omega) _
  have hV := (((BoxIs.new w #[.slice a0 c.n0 p0, .int .i64 c.x1, .int .i64 c.x2, .int .i64 c.x3] 32 rfl).next (below_one _ (.cells #[.slice none 0 0, .int .i64 0, .int .i64 0, .int .i64 0] 32))).next (below_one _ (.cells #[.slice none 0 0, .int .i64 c.x1, .int .i64 c.x2, .int .i64 c.x3] 32)))
  have hR := ((BoxIs.new (w.alloc (.cells #[.slice a0 c.n0 p0, .int .i64 c.x1, .int .i64 c.x2, .int .i64 c.x3] 32)) #[.slice none 0 0, .int .i64 0, .int .i64 0, .int .i64 0] 32 (g := w.heap.size + 1) (by simp)).next (below_one _ (.cells #[.slice none 0 0, .int .i64 c.x1, .int .i64 c.x2, .int .i64 c.x3] 32)))
  have hX := BoxIs.new ((w.alloc (.cells #[.slice a0 c.n0 p0, .int .i64 c.x1, .int .i64 c.x2, .int .i64 c.x3] 32)).alloc (.cells #[.slice none 0 0, .int .i64 0, .int .i64 0, .int .i64 0] 32)) #[.slice none 0 0, .int .i64 c.x1, .int .i64 c.x2, .int .i64 c.x3] 32 (g := w.heap.size + 1 + 1) (by simp)
  have HS0 := (hS.on hB0 (Nat.le_refl _)).hid
  clear hS
  go_enter Try.func37, Try.ntmps37
  go_wp2_with fail
  generalize ((w.alloc (.cells #[.slice a0 c.n0 p0, .int .i64 c.x1, .int .i64 c.x2, .int .i64 c.x3] 32)).alloc (.cells #[.slice none 0 0, .int .i64 0, .int .i64 0, .int .i64 0] 32)).alloc (.cells #[.slice none 0 0, .int .i64 c.x1, .int .i64 c.x2, .int .i64 c.x3] 32) = W at hB0 hV hR hX HS0 ⊢
  have hF : w.heap.size + 1 + 1 < W.heap.size := hX.lt
  have HB0 := hide hB0
  have HC0 : Hid (CvS W (w.heap.size + 1 + 1) c.x1 c.x2 c.x3 (.slice none 0 0) (metasL c.r0 0) W) := ⟨Below.refl _ _, hX, OwnMeta.nil _ _⟩
  have y0 := hV.cell 0
  simp only [List.getElem?_toArray, List.getElem?_cons_zero] at y0
  have HR := hR.hid
  clear hB0 hX hV hR
  go_wp2
  go_loopg [16] c.n0 (fun g iv wr => ∃ (k : Nat) (vo : Value), iv = .int .i64 (k : Int) ∧ k + g = c.n0 ∧ Hid (CvS W (w.heap.size + 1 + 1) c.x1 c.x2 c.x3 vo (metasL c.r0 k) wr))
  case atStart => exact ⟨0, _, rfl, by omega, HC0⟩
  case round =>
    obtain ⟨k, vo, rfl, hk, HC⟩ := hrel
    clear HC0 y0
    by_cases hlt : k < c.n0
    · obtain ⟨b, off, rfl, hb, c0, c1, c2, c3, c4⟩ := (HS0.out.on HC.out.lo (by omega)).at hlt
      obtain ⟨hz2, hz3⟩ := hz k hlt
      have hki : (k : Int) < (c.n0 : Int) := by omega
      have hM := BoxIs.new wr #[.int .i64 (c.r0.N k), .int .i64 (c.r0.L k), .string (c.r0.F k), .string (c.r0.Z k), .int .i64 (c.r0.C k)] 59 rfl
      have hC1 := HC.out.next (by omega) (below_one wr (.cells #[.int .i64 (c.r0.N k), .int .i64 (c.r0.L k), .string (c.r0.F k), .string (c.r0.Z k), .int .i64 (c.r0.C k)] 59))
      have hlow := HC.out.low
      have hFM := HC.out.bx.lt
      clear HC
      go_upto_region 5 with fail
      generalize wr.alloc (.cells #[.int .i64 (c.r0.N k), .int .i64 (c.r0.L k), .string (c.r0.F k), .string (c.r0.Z k), .int .i64 (c.r0.C k)] 59) = W1 at hM hC1 ⊢
      generalize wr.heap.size = M at hM hlow hFM ⊢
      have HLOW := hide hlow
      clear hlow c0 c1 c2 c3 c4
      go_cut [] (fun wx => Hid (CvS W (w.heap.size + 1 + 1) c.x1 c.x2 c.x3 vo (metasL c.r0 k) wx) ∧ Hid (BoxIs wx M #[.int .i64 (c.r0.N k), .int .i64 (c.r0.L k), .string (c.r0.F k), .string (c.r0.Z k), .int .i64 (c.r0.C k)] 59))
      case first =>
        refine wp_region_noPanic ?_
        have hb0 : Below W1.heap.size W1 W1.drew := (Below.refl _ _).drew
        have HC_0 := hC1.next (by omega) hb0
        have HM_0 := hM.next hb0
        refine wp_region_held_drew (S := fun _ => True) (by kernel_rfl) trivial (fun hSz => ?_)
        clear hSz hC1 hM
        generalize W1.drew = wq0 at hb0 HC_0 HM_0 ⊢
        clear hb0
        refine wpAnyH_take (i := 0) (v := .pointer (some ⟨M, 2, none⟩)) nat0 (by kernel_rfl) (by kernel_rfl) (by kernel_rfl) (fun _ _ _ h => False.elim h) (Or.inl ⟨by rfl, ?_⟩) trivial ?_
        · intro wx hSw
          go_simp
        simp only [Act.put, List.setIfInBounds_toArray, List.set_cons_zero, List.set_cons_succ]
        refine wpAnyH_take (i := 3) (v := .pointer (some ⟨M, 3, none⟩)) nat3 (by kernel_rfl) (by kernel_rfl) (by kernel_rfl) (fun _ _ _ h => False.elim h) (Or.inl ⟨by rfl, ?_⟩) trivial ?_
        · intro wx hSw
          go_simp
        simp only [Act.put, List.setIfInBounds_toArray, List.set_cons_zero, List.set_cons_succ]
        refine wpAnyH_ready (rs := [1, 4]) (by kernel_rfl) (by simp) ?_
        refine AllReadyH.cons nat1 (fun K hK => ?_) (AllReadyH.cons nat4 (fun K hK => ?_) AllReadyH.nil)
        · have y0 := HM_0.cell 2
          simp only [List.getElem?_toArray, List.getElem?_cons_succ, List.getElem?_cons_zero] at y0
          go_simp
          refine hK.out _ _ trivial (fun hSz => ?_)
          clear hK K hSz y0
          try simp only [Act.put, List.setIfInBounds_toArray, List.set_cons_zero, List.set_cons_succ]
          refine wpAnyH_ready (rs := [2, 4]) (by kernel_rfl) (by simp) ?_
          refine AllReadyH.cons nat2 (fun K hK => ?_) (AllReadyH.cons nat4 (fun K hK => ?_) AllReadyH.nil)
          · go_simp
            go_at_call 60
            refine (strings_Clone (c.r0.F k) _ (by omega)).mono ?_
            rintro e wq2 ⟨rfl, hb2⟩
            have HC_2 := HC_0.next (by omega) hb2
            have HM_2 := HM_0.next hb2
            refine hK.out _ _ trivial (fun hSz => ?_)
            clear hK K hSz HC_0 HM_0 hb2
            refine wpAnyH_ready (rs := [4]) (by kernel_rfl) (by simp) ?_
            refine AllReadyH.cons nat4 (fun K hK => ?_) AllReadyH.nil
            have y0 := HM_2.cell 3
            simp only [List.getElem?_toArray, List.getElem?_cons_succ, List.getElem?_cons_zero] at y0
            go_simp
            refine hK.out _ _ trivial (fun hSz => ?_)
            clear hK K hSz y0
            try simp only [Act.put, List.setIfInBounds_toArray, List.set_cons_zero, List.set_cons_succ]
            refine wpAnyH_take (i := 6) (v := .pointer (some ⟨M, 2, none⟩)) nat6 (by kernel_rfl) (by kernel_rfl) (by kernel_rfl) (fun _ _ _ h => False.elim h) (Or.inl ⟨by rfl, ?_⟩) trivial ?_
            · intro wx hSw
              go_simp
            simp only [Act.put, List.setIfInBounds_toArray, List.set_cons_zero, List.set_cons_succ]
            refine wpAnyH_ready (rs := [5]) (by kernel_rfl) (by simp) ?_
            refine AllReadyH.cons nat5 (fun K hK => ?_) AllReadyH.nil
            go_simp
            go_at_call 60
            refine (strings_Clone (c.r0.Z k) _ (by omega)).mono ?_
            rintro e wq4 ⟨rfl, hb4⟩
            have HC_4 := HC_2.next (by omega) hb4
            have HM_4 := HM_2.next hb4
            refine hK.out _ _ trivial (fun hSz => ?_)
            clear hK K hSz HC_2 HM_2 hb4
            refine wpAnyH_ready (rs := [7]) (by kernel_rfl) (by simp) ?_
            refine AllReadyH.cons nat7 (fun K hK => ?_) AllReadyH.nil
            have y0 := HM_4.cell 2
            simp only [List.getElem?_toArray, List.getElem?_cons_succ, List.getElem?_cons_zero] at y0
            have yf := HM_4.free
            go_simp
            clear yf y0
            have HC_5s0 := HC_4.setM hFM HLOW.out 2 (.string ((c.r0.F k)))
            have HM_5s0 := HM_4.set 2 (.string ((c.r0.F k)))
            have HC_5 := HC_5s0
            have HM_5 : BoxIs (wq4.setCell ⟨M, 2, none⟩ (.string ((c.r0.F k)))) M #[.int .i64 ((c.r0.N k)), .int .i64 ((c.r0.L k)), .string ((c.r0.F k)), .string ((c.r0.Z k)), .int .i64 ((c.r0.C k))] 59 := HM_5s0
            refine hK.out _ _ trivial (fun hSz => ?_)
            clear hK K hSz HC_4 HM_4 HC_5s0 HM_5s0
            generalize wq4.setCell ⟨M, 2, none⟩ (.string ((c.r0.F k))) = wq5 at HC_5 HM_5 ⊢
            refine wpAnyH_take (i := 8) (v := .pointer (some ⟨M, 3, none⟩)) nat8 (by kernel_rfl) (by kernel_rfl) (by kernel_rfl) (fun _ _ _ h => False.elim h) (Or.inl ⟨by rfl, ?_⟩) trivial ?_
            · intro wx hSw
              go_simp
            simp only [Act.put, List.setIfInBounds_toArray, List.set_cons_zero, List.set_cons_succ]
            refine wpAnyH_ready (rs := [9]) (by kernel_rfl) (by simp) ?_
            refine AllReadyH.cons nat9 (fun K hK => ?_) AllReadyH.nil
            have y0 := HM_5.cell 3
            simp only [List.getElem?_toArray, List.getElem?_cons_succ, List.getElem?_cons_zero] at y0
            have yf := HM_5.free
            go_simp
            clear yf y0
            have HC_6s0 := HC_5.setM hFM HLOW.out 3 (.string ((c.r0.Z k)))
            have HM_6s0 := HM_5.set 3 (.string ((c.r0.Z k)))
            have HC_6 := HC_6s0
            have HM_6 : BoxIs (wq5.setCell ⟨M, 3, none⟩ (.string ((c.r0.Z k)))) M #[.int .i64 ((c.r0.N k)), .int .i64 ((c.r0.L k)), .string ((c.r0.F k)), .string ((c.r0.Z k)), .int .i64 ((c.r0.C k))] 59 := HM_6s0
            refine hK.out _ _ trivial (fun hSz => ?_)
            clear hK K hSz HC_5 HM_5 HC_6s0 HM_6s0
            generalize wq5.setCell ⟨M, 3, none⟩ (.string ((c.r0.Z k))) = wq6 at HC_6 HM_6 ⊢
            refine wpAnyH_done (by kernel_rfl) ?_ _
            refine NoPanic.normal ?_
            go_wp2_with fail
            go_meet
            exact ⟨hide HC_6, hide HM_6⟩
          · have y0 := HM_0.cell 3
            simp only [List.getElem?_toArray, List.getElem?_cons_succ, List.getElem?_cons_zero] at y0
            go_simp
            refine hK.out _ _ trivial (fun hSz => ?_)
            clear hK K hSz y0
            try simp only [Act.put, List.setIfInBounds_toArray, List.set_cons_zero, List.set_cons_succ]
            refine wpAnyH_ready (rs := [2]) (by kernel_rfl) (by simp) ?_
            refine AllReadyH.cons nat2 (fun K hK => ?_) AllReadyH.nil
            go_simp
            go_at_call 60
            refine (strings_Clone (c.r0.F k) _ (by omega)).mono ?_
            rintro e wq8 ⟨rfl, hb8⟩
            have HC_8 := HC_0.next (by omega) hb8
            have HM_8 := HM_0.next hb8
            refine hK.out _ _ trivial (fun hSz => ?_)
            clear hK K hSz HC_0 HM_0 hb8
            refine wpAnyH_take (i := 6) (v := .pointer (some ⟨M, 2, none⟩)) nat6 (by kernel_rfl) (by kernel_rfl) (by kernel_rfl) (fun _ _ _ h => False.elim h) (Or.inl ⟨by rfl, ?_⟩) trivial ?_
            · intro wx hSw
              go_simp
            simp only [Act.put, List.setIfInBounds_toArray, List.set_cons_zero, List.set_cons_succ]
            refine wpAnyH_ready (rs := [5]) (by kernel_rfl) (by simp) ?_
            refine AllReadyH.cons nat5 (fun K hK => ?_) AllReadyH.nil
            go_simp
            go_at_call 60
            refine (strings_Clone (c.r0.Z k) _ (by omega)).mono ?_
            rintro e wq9 ⟨rfl, hb9⟩
            have HC_9 := HC_8.next (by omega) hb9
            have HM_9 := HM_8.next hb9
            refine hK.out _ _ trivial (fun hSz => ?_)
            clear hK K hSz HC_8 HM_8 hb9
            refine wpAnyH_ready (rs := [7]) (by kernel_rfl) (by simp) ?_
            refine AllReadyH.cons nat7 (fun K hK => ?_) AllReadyH.nil
            have y0 := HM_9.cell 2
            simp only [List.getElem?_toArray, List.getElem?_cons_succ, List.getElem?_cons_zero] at y0
            have yf := HM_9.free
            go_simp
            clear yf y0
            have HC_10s0 := HC_9.setM hFM HLOW.out 2 (.string ((c.r0.F k)))
            have HM_10s0 := HM_9.set 2 (.string ((c.r0.F k)))
            have HC_10 := HC_10s0
            have HM_10 : BoxIs (wq9.setCell ⟨M, 2, none⟩ (.string ((c.r0.F k)))) M #[.int .i64 ((c.r0.N k)), .int .i64 ((c.r0.L k)), .string ((c.r0.F k)), .string ((c.r0.Z k)), .int .i64 ((c.r0.C k))] 59 := HM_10s0
            refine hK.out _ _ trivial (fun hSz => ?_)
            clear hK K hSz HC_9 HM_9 HC_10s0 HM_10s0
            generalize wq9.setCell ⟨M, 2, none⟩ (.string ((c.r0.F k))) = wq10 at HC_10 HM_10 ⊢
            refine wpAnyH_take (i := 8) (v := .pointer (some ⟨M, 3, none⟩)) nat8 (by kernel_rfl) (by kernel_rfl) (by kernel_rfl) (fun _ _ _ h => False.elim h) (Or.inl ⟨by rfl, ?_⟩) trivial ?_
            · intro wx hSw
              go_simp
            simp only [Act.put, List.setIfInBounds_toArray, List.set_cons_zero, List.set_cons_succ]
            refine wpAnyH_ready (rs := [9]) (by kernel_rfl) (by simp) ?_
            refine AllReadyH.cons nat9 (fun K hK => ?_) AllReadyH.nil
            have y0 := HM_10.cell 3
            simp only [List.getElem?_toArray, List.getElem?_cons_succ, List.getElem?_cons_zero] at y0
            have yf := HM_10.free
            go_simp
            clear yf y0
            have HC_11s0 := HC_10.setM hFM HLOW.out 3 (.string ((c.r0.Z k)))
            have HM_11s0 := HM_10.set 3 (.string ((c.r0.Z k)))
            have HC_11 := HC_11s0
            have HM_11 : BoxIs (wq10.setCell ⟨M, 3, none⟩ (.string ((c.r0.Z k)))) M #[.int .i64 ((c.r0.N k)), .int .i64 ((c.r0.L k)), .string ((c.r0.F k)), .string ((c.r0.Z k)), .int .i64 ((c.r0.C k))] 59 := HM_11s0
            refine hK.out _ _ trivial (fun hSz => ?_)
            clear hK K hSz HC_10 HM_10 HC_11s0 HM_11s0
            generalize wq10.setCell ⟨M, 3, none⟩ (.string ((c.r0.Z k))) = wq11 at HC_11 HM_11 ⊢
            refine wpAnyH_done (by kernel_rfl) ?_ _
            refine NoPanic.normal ?_
            go_wp2_with fail
            go_meet
            exact ⟨hide HC_11, hide HM_11⟩
        · have y0 := HM_0.cell 3
          simp only [List.getElem?_toArray, List.getElem?_cons_succ, List.getElem?_cons_zero] at y0
          go_simp
          refine hK.out _ _ trivial (fun hSz => ?_)
          clear hK K hSz y0
          try simp only [Act.put, List.setIfInBounds_toArray, List.set_cons_zero, List.set_cons_succ]
          refine wpAnyH_ready (rs := [1]) (by kernel_rfl) (by simp) ?_
          refine AllReadyH.cons nat1 (fun K hK => ?_) AllReadyH.nil
          have y0 := HM_0.cell 2
          simp only [List.getElem?_toArray, List.getElem?_cons_succ, List.getElem?_cons_zero] at y0
          go_simp
          refine hK.out _ _ trivial (fun hSz => ?_)
          clear hK K hSz y0
          try simp only [Act.put, List.setIfInBounds_toArray, List.set_cons_zero, List.set_cons_succ]
          refine wpAnyH_ready (rs := [2]) (by kernel_rfl) (by simp) ?_
          refine AllReadyH.cons nat2 (fun K hK => ?_) AllReadyH.nil
          go_simp
          go_at_call 60
          refine (strings_Clone (c.r0.F k) _ (by omega)).mono ?_
          rintro e wq14 ⟨rfl, hb14⟩
          have HC_14 := HC_0.next (by omega) hb14
          have HM_14 := HM_0.next hb14
          refine hK.out _ _ trivial (fun hSz => ?_)
          clear hK K hSz HC_0 HM_0 hb14
          refine wpAnyH_take (i := 6) (v := .pointer (some ⟨M, 2, none⟩)) nat6 (by kernel_rfl) (by kernel_rfl) (by kernel_rfl) (fun _ _ _ h => False.elim h) (Or.inl ⟨by rfl, ?_⟩) trivial ?_
          · intro wx hSw
            go_simp
          simp only [Act.put, List.setIfInBounds_toArray, List.set_cons_zero, List.set_cons_succ]
          refine wpAnyH_ready (rs := [5]) (by kernel_rfl) (by simp) ?_
          refine AllReadyH.cons nat5 (fun K hK => ?_) AllReadyH.nil
          go_simp
          go_at_call 60
          refine (strings_Clone (c.r0.Z k) _ (by omega)).mono ?_
          rintro e wq15 ⟨rfl, hb15⟩
          have HC_15 := HC_14.next (by omega) hb15
          have HM_15 := HM_14.next hb15
          refine hK.out _ _ trivial (fun hSz => ?_)
          clear hK K hSz HC_14 HM_14 hb15
          refine wpAnyH_ready (rs := [7]) (by kernel_rfl) (by simp) ?_
          refine AllReadyH.cons nat7 (fun K hK => ?_) AllReadyH.nil
          have y0 := HM_15.cell 2
          simp only [List.getElem?_toArray, List.getElem?_cons_succ, List.getElem?_cons_zero] at y0
          have yf := HM_15.free
          go_simp
          clear yf y0
          have HC_16s0 := HC_15.setM hFM HLOW.out 2 (.string ((c.r0.F k)))
          have HM_16s0 := HM_15.set 2 (.string ((c.r0.F k)))
          have HC_16 := HC_16s0
          have HM_16 : BoxIs (wq15.setCell ⟨M, 2, none⟩ (.string ((c.r0.F k)))) M #[.int .i64 ((c.r0.N k)), .int .i64 ((c.r0.L k)), .string ((c.r0.F k)), .string ((c.r0.Z k)), .int .i64 ((c.r0.C k))] 59 := HM_16s0
          refine hK.out _ _ trivial (fun hSz => ?_)
          clear hK K hSz HC_15 HM_15 HC_16s0 HM_16s0
          generalize wq15.setCell ⟨M, 2, none⟩ (.string ((c.r0.F k))) = wq16 at HC_16 HM_16 ⊢
          refine wpAnyH_take (i := 8) (v := .pointer (some ⟨M, 3, none⟩)) nat8 (by kernel_rfl) (by kernel_rfl) (by kernel_rfl) (fun _ _ _ h => False.elim h) (Or.inl ⟨by rfl, ?_⟩) trivial ?_
          · intro wx hSw
            go_simp
          simp only [Act.put, List.setIfInBounds_toArray, List.set_cons_zero, List.set_cons_succ]
          refine wpAnyH_ready (rs := [9]) (by kernel_rfl) (by simp) ?_
          refine AllReadyH.cons nat9 (fun K hK => ?_) AllReadyH.nil
          have y0 := HM_16.cell 3
          simp only [List.getElem?_toArray, List.getElem?_cons_succ, List.getElem?_cons_zero] at y0
          have yf := HM_16.free
          go_simp
          clear yf y0
          have HC_17s0 := HC_16.setM hFM HLOW.out 3 (.string ((c.r0.Z k)))
          have HM_17s0 := HM_16.set 3 (.string ((c.r0.Z k)))
          have HC_17 := HC_17s0
          have HM_17 : BoxIs (wq16.setCell ⟨M, 3, none⟩ (.string ((c.r0.Z k)))) M #[.int .i64 ((c.r0.N k)), .int .i64 ((c.r0.L k)), .string ((c.r0.F k)), .string ((c.r0.Z k)), .int .i64 ((c.r0.C k))] 59 := HM_17s0
          refine hK.out _ _ trivial (fun hSz => ?_)
          clear hK K hSz HC_16 HM_16 HC_17s0 HM_17s0
          generalize wq16.setCell ⟨M, 3, none⟩ (.string ((c.r0.Z k))) = wq17 at HC_17 HM_17 ⊢
          refine wpAnyH_done (by kernel_rfl) ?_ _
          refine NoPanic.normal ?_
          go_wp2_with fail
          go_meet
          exact ⟨hide HC_17, hide HM_17⟩
      case rest =>
      obtain ⟨HC2, HM2⟩ := hcut
      clear hC1 hM HLOW
      obtain ⟨voA, voN, voP, rfl⟩ : ∃ a n p, vo = .slice a n p := by obtain ⟨a, p, e⟩ := rg_shape (show World.ownsRow _ _ _ _ _ _ _ from HC2.out.ow); exact ⟨_, _, _, e⟩
      have y0 := HC2.out.bx.cell 0
      have z0 := HM2.out.cell 0
      have z1 := HM2.out.cell 1
      have z2 := HM2.out.cell 2
      have z3 := HM2.out.cell 3
      have z4 := HM2.out.cell 4
      simp only [List.getElem?_toArray, List.getElem?_cons_succ, List.getElem?_cons_zero] at y0 z0 z1 z2 z3 z4
      have HC3 := hide (HC2.out.next (by omega) (below_one wc (.cells #[.int .i64 (c.r0.N k), .int .i64 (c.r0.L k), .string (c.r0.F k), .string (c.r0.Z k), .int .i64 (c.r0.C k)] 59)))
      have hN := (BoxIs.new wc #[.int .i64 (c.r0.N k), .int .i64 (c.r0.L k), .string (c.r0.F k), .string (c.r0.Z k), .int .i64 (c.r0.C k)] 59 rfl).hid
      have hml := metasL_len c.r0 k
      clear HC2 HM2
      go_wp2_with (first
        | (at_builtin; refine wpList_append_row rfl _ _ 30 rfl 59 Try.underlying30 5 56 meta_info rfl (by decide) (by decide) (w.heap.size + 1 + 1 + 1) _ (metasL c.r0 k).length (cellsMeta (metasL c.r0 k)) (by rfl) HC3.out.ow ⟨wc.heap.size, 0, none⟩ 1 1 (cellsMeta [metaAt1 c.r0 k]) (by rfl) rfl (cellsMeta_one _) (rg_news (us := cellsMeta [metaAt1 c.r0 k]) hN.out) (Nat.le_trans hF HC3.out.lo.size) (by omega) ?_))
      intro v3 w12 h1 h2
      have ho : OwnMeta w12 (w.heap.size + 1 + 1 + 1) v3 (metasL c.r0 k ++ [metaAt1 c.r0 k]) := by show World.ownsRow _ _ _ _ _ _ _; rw [cellsMeta_append, List.length_append, hml]; exact h1
      have hA := HC3.out.added hF ho h2
      rw [← metasL_succ] at hA
      have HA := hide hA
      have bE1 := rg_box HC3.out.ow h2 HC3.out.bx (by decide)
      obtain ⟨vA, vN, vP, rfl⟩ : ∃ a n p, v3 = .slice a n p := by obtain ⟨a, p, e⟩ := rg_shape h1; exact ⟨_, _, _, e⟩
      have q0 := bE1.cell 0
      simp only [List.getElem?_toArray, List.getElem?_cons_zero] at q0
      have qf := bE1.free
      clear h1 h2 ho HC3 hN y0 z0 z1 z2 z3 z4 bE1 hA
      go_wp2
      go_roundg (gk - 1)
      case measure => omega
      case rel => exact ⟨k + 1, _, by go_num, by omega, HA⟩
    · obtain rfl : k = c.n0 := by omega
      have hki : ¬ ((c.n0 : Int) < (c.n0 : Int)) := by omega
      obtain ⟨voA, voP, rfl⟩ := HC.out.ow.shape
      rw [metasL_len] at HC
      have y0 := HC.out.bx.cell 0
      have y1 := HC.out.bx.cell 1
      have y2 := HC.out.bx.cell 2
      have y3 := HC.out.bx.cell 3
      have bR := HR.out.below HC.out.lo (by omega)
      have z0 := bR.cell 0
      have z1 := bR.cell 1
      have z2 := bR.cell 2
      have z3 := bR.cell 3
      have zf := bR.free
      simp only [List.getElem?_toArray, List.getElem?_cons_succ, List.getElem?_cons_zero] at y0 y1 y2 y3 z0 z1 z2 z3
      have hne : w.heap.size + 1 + 1 ≠ w.heap.size + 1 := by omega
      have b1 := bR.set 0 (.slice voA c.n0 voP)
      have b2 := b1.set 1 (.int .i64 c.x1)
      have b3 := b2.set 2 (.int .i64 c.x2)
      have HO := hide (show OwnMeta _ _ _ _ from rg_set (o := 3) (rg_set (rg_set (rg_set HC.out.ow bR (by decide) (.slice voA c.n0 voP)) b1 (by decide) (.int .i64 c.x1)) b2 (by decide) (.int .i64 c.x2)) b3 (by decide) (.int .i64 c.x3))
      have HL := hide ((HB0.out.trans (HC.out.lo.mono (by omega))).trans (((((Below.refl w.heap.size wr).setCell (p := ⟨w.heap.size + 1, 0, none⟩) (Nat.le_succ _) (.slice voA c.n0 voP)).setCell (p := ⟨w.heap.size + 1, 1, none⟩) (Nat.le_succ _) (.int .i64 c.x1)).setCell (p := ⟨w.heap.size + 1, 2, none⟩) (Nat.le_succ _) (.int .i64 c.x2)).setCell (p := ⟨w.heap.size + 1, 3, none⟩) (Nat.le_succ _) (.int .i64 c.x3)))
      clear HC bR b1 b2 b3
      go_wp2
      exact bodyPost_ret (v := .agg #[.slice voA c.n0 voP, .int .i64 c.x1, .int .i64 c.x2, .int .i64 c.x3]) (by simp [results, Try.results37, go_sem, z0, z1, z2, z3]) rfl ⟨⟨_, rfl, _, metasL c.r0 c.n0, rfl, HO.out.base (by omega), rfl⟩, HL.out⟩

/-- What comes of files put in the right order: the model's answer. -/
theorem apply_end {c : VersionC} {d : EditC} (hG : apG c d = true) (hC : cutsB c d = true) {M : List Meta1} (hp : M.Perm (leftL c.r0 d.r1 d.n1 c.n0 ++ metasL d.r0 d.n0)) (hs : M.Pairwise (fun a b => ¬ fOrdM b a < 0)) :
    apB c d = versB (vc M d.x2 d.x3 d.x4) ∧ (versB (vc M d.x2 d.x3 d.x4) = true → apC c d = vc M d.x2 d.x3 d.x4) := by
  have hG' := hG
  unfold apG at hG
  simp only [Bool.and_eq_true] at hG
  have hc : versB c = true := hG.1.1.1.1
  rw [cuts_same hc] at hC
  have hcut := of_decide_eq_true hC
  cases hM : versB (vc M d.x2 d.x3 d.x4) with
  | true =>
    have e := apply_same hc hp hs (.inl hM)
    have hb : apB c d = true := apB_yes hG' hcut (by rw [e] at hM; exact hM)
    exact ⟨hb, fun _ => by rw [apC_yes hb, e]; rfl⟩
  | false =>
    refine ⟨apB_end ?_, fun e => by cases e⟩
    cases hL : versB (apV c d) with
    | false => rfl
    | true =>
      have e := apply_same hc hp hs (.inr hL)
      rw [e] at hM
      rw [show vc (apL c d) d.x2 d.x3 d.x4 = apV c d from rfl, hL] at hM
      cases hM
theorem versB_sizes {c : VersionC} (h : versB c = true) : c.n0 ≤ 30 ∧ ∀ i, i < c.n0 → (c.r0.F i).size ≤ 1000 ∧ (c.r0.Z i).size ≤ 1000 := by
  obtain ⟨h1, h2, _⟩ := versB_out h
  refine ⟨h1.1, fun i hi => ?_⟩
  have h3 := stepB_file (h2 i hi)
  unfold fileB userB at h3
  simp only [Bool.and_eq_true, decide_eq_true_eq] at h3
  omega

set_option linter.unusedVariables false in
set_option linter.unusedSimpArgs false in
set_option maxHeartbeats 8000000 in
theorem impl_Apply (v e : Value) (c : VersionC) (d : EditC) (w : World) (hf : c.Fit) (hg : d.Fit) (hv : VersionIs w v c) (he : EditSrc w e d) :
    Calls Try.prog 12 #[v, e] w fun x w' => (∃ u, x = .returned (.tuple #[u, .bool (apB c d)]) ∧ VersionOwnM w' w.heap.size u (apC c d)) ∧ Below w.heap.size w w' := by
  obtain ⟨a0, p0, rfl, hS⟩ := hv
  obtain ⟨b0, q0, b1, q1, rfl, hA, hU, hI⟩ := he
  have hfn : c.n0 ≤ 1048576 := hf
  obtain ⟨hgn, hgm⟩ : d.n0 ≤ 1048576 ∧ d.n1 ≤ 1048576 := hg
  have hB0 : Below w.heap.size w (((w.alloc (.cells #[.slice a0 c.n0 p0, .int .i64 c.x1, .int .i64 c.x2, .int .i64 c.x3] 32)).alloc (.cells #[.slice b0 d.n0 q0, .slice b1 d.n1 q1, .int .i64 d.x2, .int .i64 d.x3, .int .i64 d.x4] 37)).alloc (.cells #[.slice none 0 0, .int .i64 0, .int .i64 0, .int .i64 0] 32)) := (((Below.refl _ _).alloc (Nat.le_refl _) _).alloc (by simp) _).alloc (by simp <;> omega) _
  have hV := (((BoxIs.new w #[.slice a0 c.n0 p0, .int .i64 c.x1, .int .i64 c.x2, .int .i64 c.x3] 32 rfl).next (below_one _ (.cells #[.slice b0 d.n0 q0, .slice b1 d.n1 q1, .int .i64 d.x2, .int .i64 d.x3, .int .i64 d.x4] 37))).next (below_one _ (.cells #[.slice none 0 0, .int .i64 0, .int .i64 0, .int .i64 0] 32)))
  have hE := ((BoxIs.new (w.alloc (.cells #[.slice a0 c.n0 p0, .int .i64 c.x1, .int .i64 c.x2, .int .i64 c.x3] 32)) #[.slice b0 d.n0 q0, .slice b1 d.n1 q1, .int .i64 d.x2, .int .i64 d.x3, .int .i64 d.x4] 37 (g := w.heap.size + 1) (by simp)).next (below_one _ (.cells #[.slice none 0 0, .int .i64 0, .int .i64 0, .int .i64 0] 32)))
  have hR := BoxIs.new ((w.alloc (.cells #[.slice a0 c.n0 p0, .int .i64 c.x1, .int .i64 c.x2, .int .i64 c.x3] 32)).alloc (.cells #[.slice b0 d.n0 q0, .slice b1 d.n1 q1, .int .i64 d.x2, .int .i64 d.x3, .int .i64 d.x4] 37)) #[.slice none 0 0, .int .i64 0, .int .i64 0, .int .i64 0] 32 (g := w.heap.size + 1 + 1) (by simp)
  have HS0 := ((hS.below hB0).mono hB0.size).hid
  have HA0 := ((hA.below hB0).mono hB0.size).hid
  have HU0 := ((hU.below hB0).mono hB0.size).hid
  have HI0 := hide (hI.next hB0)
  clear hS hA hU hI
  go_enter Try.func12, Try.ntmps12
  go_upto_region 1 with fail
  generalize ((w.alloc (.cells #[.slice a0 c.n0 p0, .int .i64 c.x1, .int .i64 c.x2, .int .i64 c.x3] 32)).alloc (.cells #[.slice b0 d.n0 q0, .slice b1 d.n1 q1, .int .i64 d.x2, .int .i64 d.x3, .int .i64 d.x4] 37)).alloc (.cells #[.slice none 0 0, .int .i64 0, .int .i64 0, .int .i64 0] 32) = W at hB0 hV hE hR HS0 HA0 HU0 HI0 ⊢
  have HV := hV.hid
  have HE := hE.hid
  have HR := hR.hid
  have HB0 := hide hB0
  clear hB0
  have v0 := hV.cell 0
  have v1 := hV.cell 1
  have v2 := hV.cell 2
  have v3 := hV.cell 3
  have e0 := hE.cell 0
  have e1 := hE.cell 1
  have e2 := hE.cell 2
  have e3 := hE.cell 3
  have e4 := hE.cell 4
  simp only [List.getElem?_toArray, List.getElem?_cons_succ, List.getElem?_cons_zero] at v0 v1 v2 v3 e0 e1 e2 e3 e4
  have hRlt := hR.lt
  clear hV hE hR
  go_cut [6] (fun t wx => wx = W ∧ ∃ b : Bool, t = .bool b ∧ (b = true ↔ (d.x2 < c.x1 ∨ d.x3 < c.x2 ∨ d.x4 < c.x3)))
  case first =>
    by_cases f1 : d.x2 < c.x1
    · go_wp2
      go_meet
      exact ⟨rfl, true, rfl, by simp; omega⟩
    · by_cases f2 : d.x3 < c.x2
      · go_wp2
        go_meet
        exact ⟨rfl, true, rfl, by simp; omega⟩
      · by_cases f3 : d.x4 < c.x3
        · go_wp2
          go_meet
          exact ⟨rfl, true, rfl, by simp; omega⟩
        · go_wp2
          go_meet
          exact ⟨rfl, false, rfl, by simp; omega⟩
  case rest =>
  obtain ⟨hWW, b6, rfl, hb6⟩ := hcut
  have hWW2 := hWW.symm
  clear hWW
  subst hWW2
  have HF6 := hide hb6
  clear hb6
  go_upto_region 2 with fail
  go_cut [46] (fun t wx => ∃ b : Bool, t = .bool b ∧ (b = false → apG c d = true ∧ cutsB c d = true) ∧ (b = true → apB c d = false) ∧ Hid (Below W.heap.size W wx))
  case first =>
    obtain ⟨vb, hvb⟩ : ∃ vb, versB c = vb := ⟨_, rfl⟩
    have cV := impl_VersionOk (.agg #[.slice a0 c.n0 p0, .int .i64 c.x1, .int .i64 c.x2, .int .i64 c.x3]) c W hf ⟨a0, p0, rfl, HS0.out⟩
    rw [hvb] at cV
    have HVB := hide hvb
    clear hvb
    go_wp2_with fail
    refine cV.mono ?_
    rintro e w1 ⟨rfl, hb1⟩
    have HW := hide hb1
    have x0 := (HV.out.next hb1).cell 0
    have z0 := (HE.out.next hb1).cell 0
    have z1 := (HE.out.next hb1).cell 1
    simp only [List.getElem?_toArray, List.getElem?_cons_succ, List.getElem?_cons_zero] at x0 z0 z1
    clear hb1 cV v0 v1 v2 v3 e0 e1 e2 e3 e4
    cases vb with
    | false =>
      have HN : Hid (apG c d = false) := by show apG c d = false; unfold apG; rw [HVB.out]; rfl
      go_wp2
      go_meet
      exact ⟨true, rfl, (fun e => by cases e), (fun _ => apB_g HN.out), HW⟩
    | true =>
      cases b6 with
      | true =>
        have HN : Hid (apG c d = false) := by
          show apG c d = false
          have h := HF6.out.1 (by trivial)
          unfold apG
          rcases h with h | h | h
          · rw [decide_eq_false (show ¬ ¬ d.x2 < c.x1 by omega)]; simp
          · rw [decide_eq_false (show ¬ ¬ d.x3 < c.x2 by omega)]; simp
          · rw [decide_eq_false (show ¬ ¬ d.x4 < c.x3 by omega)]; simp
        go_wp2
        go_meet
        exact ⟨true, rfl, (fun e => by cases e), (fun _ => apB_g HN.out), HW⟩
      | false =>
        by_cases hn30 : d.n0 ≤ 30
        · have h30 : ¬ ((30 : Int) < (d.n0 : Int)) := by omega
          have h30b : decide ((30 : Int) < (d.n0 : Int)) = false := decide_eq_false h30
          have HG : Hid (apG c d = true) := by
            show apG c d = true
            have h : ¬ (d.x2 < c.x1 ∨ d.x3 < c.x2 ∨ d.x4 < c.x3) := fun h => by have := HF6.out.2 h; cases this
            unfold apG
            rw [HVB.out, decide_eq_true (show ¬ d.x2 < c.x1 by omega), decide_eq_true (show ¬ d.x3 < c.x2 by omega), decide_eq_true (show ¬ d.x4 < c.x3 by omega), decide_eq_true hn30]; rfl
          have hc30 := (versB_sizes HVB.out).1
          have cC := impl_cutsOk b1 q1 a0 p0 c d w1 (by omega) hgm (HU0.out.next HW.out) (HI0.out.next HW.out) (HS0.out.next HW.out)
          obtain ⟨cb, hcb⟩ : ∃ cb, cutsB c d = cb := ⟨_, rfl⟩
          rw [hcb] at cC
          have HCB := hide hcb
          clear hcb
          go_wp2_with fail
          refine cC.mono ?_
          rintro e w2 ⟨rfl, hb2⟩
          have HW2 := hide (HW.out.trans (hb2.mono HW.out.size))
          clear hb2 HW cC x0 z0 z1
          cases cb with
          | true =>
            go_wp2
            go_meet
            exact ⟨false, rfl, (fun _ => ⟨HG.out, HCB.out⟩), (fun e => by cases e), HW2⟩
          | false =>
            have HN : Hid (apB c d = false) := by
              refine apB_cut fun h => ?_
              have := cuts_same (d := d) HVB.out
              rw [HCB.out, decide_eq_true h] at this
              cases this
            go_wp2
            go_meet
            exact ⟨true, rfl, (fun e => by cases e), (fun _ => HN.out), HW2⟩
        · have h30 : (30 : Int) < (d.n0 : Int) := by omega
          have h30b : decide ((30 : Int) < (d.n0 : Int)) = true := decide_eq_true h30
          have HN : Hid (apG c d = false) := by show apG c d = false; unfold apG; rw [decide_eq_false hn30]; simp
          go_wp2
          go_meet
          exact ⟨true, rfl, (fun e => by cases e), (fun _ => apB_g HN.out), HW⟩
  case rest =>
  obtain ⟨b46, rfl, hok, hbad, HW⟩ := hcut
  clear HF6 v0 v1 v2 v3 e0 e1 e2 e3 e4
  have hRW := HR.out.next HW.out
  have r0 := hRW.cell 0
  have r1 := hRW.cell 1
  have r2 := hRW.cell 2
  have r3 := hRW.cell 3
  have rf := hRW.free
  simp only [List.getElem?_toArray, List.getElem?_cons_succ, List.getElem?_cons_zero] at r0 r1 r2 r3
  cases b46 with
  | true =>
    have HN := hide (hbad rfl)
    have HLOW := hide (HB0.out.trans (HW.out.mono HB0.out.size))
    have hle2 : w.heap.size ≤ w.heap.size + 1 + 1 := by omega
    clear hok hbad hRW HW
    go_wp2
    refine bodyPost_ret (v := .tuple #[.agg #[.slice none 0 0, .int .i64 0, .int .i64 0, .int .i64 0], .bool false]) (by simp [results, Try.results12, go_sem, r0, r1, r2, r3]) rfl (bad_endA HN.out ?_)
    exact (((HLOW.out.setCell hle2 _).setCell hle2 _).setCell hle2 _).setCell hle2 _
  | false =>
    have HG := hide (hok rfl)
    have hV := HV.out.next HW.out
    have hE := HE.out.next HW.out
    have HS1 := (HS0.out.next HW.out).hid
    have HA1 := (HA0.out.next HW.out).hid
    have HU1 := (HU0.out.next HW.out).hid
    have hc30 := (versB_sizes (show versB c = true by have := HG.out.1; unfold apG at this; simp only [Bool.and_eq_true] at this; exact this.1.1.1.1)).1
    have hn30 : d.n0 ≤ 30 := by have := HG.out.1; unfold apG at this; simp only [Bool.and_eq_true, decide_eq_true_eq] at this; exact this.2
    clear hok hbad r0 r1 r2 r3 rf HS0 HA0 HU0 HI0
    go_upto_region 4 with fail
    go_cut [7] (fun t wx => ∃ (N : Nat) (va : Option Addr) (vp : Nat) (M : List Meta1), t = .pointer (some ⟨N, 0, none⟩) ∧ Hid (M.Perm (leftL c.r0 d.r1 d.n1 c.n0 ++ metasL d.r0 d.n0)) ∧ Hid (M.Pairwise (fun a b => ¬ fOrdM b a < 0)) ∧ Hid (Below W.heap.size W wx) ∧ Hid (OwnMeta wx W.heap.size (.slice va M.length vp) M) ∧ Hid (BoxIs wx N #[.slice va M.length vp, .int .i64 d.x2, .int .i64 d.x3, .int .i64 d.x4] 32))
    case first =>
      have HL := HW.out
      have hS1 := HS1.out
      have hA1 := HA1.out
      have hU1 := HU1.out
      clear HW HS1 HA1 HU1
      refine wp_region_noPanic ?_
      have hb0 : Below wc.heap.size wc wc.drew := (Below.refl _ _).drew
      have HL_0 := HL.trans (hb0.mono HL.size)
      have hV_0 := hV.next hb0
      have hE_0 := hE.next hb0
      have hS1_0 := hS1.next hb0
      have hA1_0 := hA1.next hb0
      have hU1_0 := hU1.next hb0
      refine wp_region_held_drew (S := fun x => BoxIs x w.heap.size #[.slice a0 c.n0 p0, .int .i64 c.x1, .int .i64 c.x2, .int .i64 c.x3] 32 ∧ BoxIs x (w.heap.size + 1) #[.slice b0 d.n0 q0, .slice b1 d.n1 q1, .int .i64 d.x2, .int .i64 d.x3, .int .i64 d.x4] 37) (by kernel_rfl) ⟨hV_0, hE_0⟩ (fun hSz => ?_)
      clear hSz HL hA1 hE hS1 hU1 hV
      generalize wc.drew = wq0 at hb0 HL_0 hV_0 hE_0 hS1_0 hA1_0 hU1_0 ⊢
      clear hb0
      refine wpAnyH_take (i := 0) (v := .pointer (some ⟨w.heap.size, 0, none⟩)) nat0 (by kernel_rfl) (by kernel_rfl) (by kernel_rfl) (fun _ _ _ h => False.elim h) (Or.inl ⟨by rfl, ?_⟩) ⟨hV_0, hE_0⟩ ?_
      · intro wx hSw
        go_simp
      simp only [Act.put, List.setIfInBounds_toArray, List.set_cons_zero, List.set_cons_succ]
      refine wpAnyH_take (i := 1) (v := .slice a0 c.n0 p0) nat1 (by kernel_rfl) (by kernel_rfl) (by kernel_rfl) (fun _ _ _ h => False.elim h) (Or.inl ⟨by rfl, ?_⟩) ⟨hV_0, hE_0⟩ ?_
      · intro wx hSw
        have y0 := hSw.1.cell 0
        simp only [List.getElem?_toArray, List.getElem?_cons_succ, List.getElem?_cons_zero] at y0
        go_simp
      simp only [Act.put, List.setIfInBounds_toArray, List.set_cons_zero, List.set_cons_succ]
      refine wpAnyH_take (i := 2) (v := .agg #[.slice b0 d.n0 q0, .slice b1 d.n1 q1, .int .i64 d.x2, .int .i64 d.x3, .int .i64 d.x4]) nat2 (by kernel_rfl) (by kernel_rfl) (by kernel_rfl) (fun _ _ _ h => False.elim h) (Or.inl ⟨by rfl, ?_⟩) ⟨hV_0, hE_0⟩ ?_
      · intro wx hSw
        have y0 := hSw.2.cell 0
        have y1 := hSw.2.cell 1
        have y2 := hSw.2.cell 2
        have y3 := hSw.2.cell 3
        have y4 := hSw.2.cell 4
        simp only [List.getElem?_toArray, List.getElem?_cons_succ, List.getElem?_cons_zero] at y0 y1 y2 y3 y4
        go_simp
      simp only [Act.put, List.setIfInBounds_toArray, List.set_cons_zero, List.set_cons_succ]
      refine wpAnyH_take (i := 4) (v := .pointer (some ⟨w.heap.size + 1, 2, none⟩)) nat4 (by kernel_rfl) (by kernel_rfl) (by kernel_rfl) (fun _ _ _ h => False.elim h) (Or.inl ⟨by rfl, ?_⟩) ⟨hV_0, hE_0⟩ ?_
      · intro wx hSw
        go_simp
      simp only [Act.put, List.setIfInBounds_toArray, List.set_cons_zero, List.set_cons_succ]
      refine wpAnyH_take (i := 5) (v := .int .i64 d.x2) nat5 (by kernel_rfl) (by kernel_rfl) (by kernel_rfl) (fun _ _ _ h => False.elim h) (Or.inl ⟨by rfl, ?_⟩) ⟨hV_0, hE_0⟩ ?_
      · intro wx hSw
        have y0 := hSw.2.cell 2
        simp only [List.getElem?_toArray, List.getElem?_cons_succ, List.getElem?_cons_zero] at y0
        go_simp
      simp only [Act.put, List.setIfInBounds_toArray, List.set_cons_zero, List.set_cons_succ]
      refine wpAnyH_take (i := 6) (v := .pointer (some ⟨w.heap.size + 1, 3, none⟩)) nat6 (by kernel_rfl) (by kernel_rfl) (by kernel_rfl) (fun _ _ _ h => False.elim h) (Or.inl ⟨by rfl, ?_⟩) ⟨hV_0, hE_0⟩ ?_
      · intro wx hSw
        go_simp
      simp only [Act.put, List.setIfInBounds_toArray, List.set_cons_zero, List.set_cons_succ]
      refine wpAnyH_take (i := 7) (v := .int .i64 d.x3) nat7 (by kernel_rfl) (by kernel_rfl) (by kernel_rfl) (fun _ _ _ h => False.elim h) (Or.inl ⟨by rfl, ?_⟩) ⟨hV_0, hE_0⟩ ?_
      · intro wx hSw
        have y0 := hSw.2.cell 3
        simp only [List.getElem?_toArray, List.getElem?_cons_succ, List.getElem?_cons_zero] at y0
        go_simp
      simp only [Act.put, List.setIfInBounds_toArray, List.set_cons_zero, List.set_cons_succ]
      refine wpAnyH_take (i := 8) (v := .pointer (some ⟨w.heap.size + 1, 4, none⟩)) nat8 (by kernel_rfl) (by kernel_rfl) (by kernel_rfl) (fun _ _ _ h => False.elim h) (Or.inl ⟨by rfl, ?_⟩) ⟨hV_0, hE_0⟩ ?_
      · intro wx hSw
        go_simp
      simp only [Act.put, List.setIfInBounds_toArray, List.set_cons_zero, List.set_cons_succ]
      refine wpAnyH_take (i := 9) (v := .int .i64 d.x4) nat9 (by kernel_rfl) (by kernel_rfl) (by kernel_rfl) (fun _ _ _ h => False.elim h) (Or.inl ⟨by rfl, ?_⟩) ⟨hV_0, hE_0⟩ ?_
      · intro wx hSw
        have y0 := hSw.2.cell 4
        simp only [List.getElem?_toArray, List.getElem?_cons_succ, List.getElem?_cons_zero] at y0
        go_simp
      simp only [Act.put, List.setIfInBounds_toArray, List.set_cons_zero, List.set_cons_succ]
      refine wpAnyH_ready (rs := [3, 11]) (by kernel_rfl) (by simp) ?_
      refine AllReadyH.cons nat3 (fun K hK => ?_) (AllReadyH.cons nat11 (fun K hK => ?_) AllReadyH.nil)
      · go_simp
        go_at_call 36
        refine (impl_edited a0 p0 c b0 q0 b1 q1 d _ (by omega) hgm (by omega) hS1_0 hA1_0 hU1_0).mono ?_
        rintro e wq1 ⟨⟨v1, M1, rfl, hp1, hs1, ho1⟩, hb1⟩
        obtain ⟨va1, vp1, rfl⟩ := ho1.shape
        have HL_1 := HL_0.trans (hb1.mono HL_0.size)
        have hV_1 := hV_0.next hb1
        have hE_1 := hE_0.next hb1
        have OW_1 := (show OwnMeta _ W.heap.size _ _ from ho1.base HL_0.size)
        refine hK.out _ _ ⟨hV_1, hE_1⟩ (fun hSz => ?_)
        clear hK K hSz HL_0 hA1_0 hE_0 hS1_0 hU1_0 hV_0 hb1 ho1
        refine wpAnyH_take (i := 10) (v := .agg #[.slice va1 M1.length vp1, .int .i64 d.x2, .int .i64 d.x3, .int .i64 d.x4]) nat10 (by kernel_rfl) (by kernel_rfl) (by kernel_rfl) (fun _ _ _ h => False.elim h) (Or.inl ⟨by rfl, ?_⟩) ⟨hV_1, hE_1⟩ ?_
        · intro wx hSw
          go_simp
        simp only [Act.put, List.setIfInBounds_toArray, List.set_cons_zero, List.set_cons_succ]
        refine wpAnyH_ready (rs := [11]) (by kernel_rfl) (by simp) ?_
        refine AllReadyH.cons nat11 (fun K hK => ?_) AllReadyH.nil
        go_simp
        have hlt2 : W.heap.size ≤ wq1.heap.size := HL_1.size
        have hb2 := below_one wq1 (.cells #[.slice none 0 0, .int .i64 0, .int .i64 0, .int .i64 0] 32)
        have HL_2 := HL_1.trans (hb2.mono HL_1.size)
        have hV_2 := hV_1.next hb2
        have hE_2 := hE_1.next hb2
        have OW_2 := OW_1.next hb2
        have NB7_2 := BoxIs.new wq1 #[.slice none 0 0, .int .i64 0, .int .i64 0, .int .i64 0] 32 rfl
        refine hK.out _ _ ⟨hV_2, hE_2⟩ (fun hSz => ?_)
        clear hK K hSz HL_1 OW_1 hE_1 hV_1
        obtain ⟨G2, hG2⟩ : ∃ G, G = wq1.heap.size := ⟨_, rfl⟩
        rw [← hG2] at NB7_2 ⊢
        generalize wq1.alloc (.cells #[.slice none 0 0, .int .i64 0, .int .i64 0, .int .i64 0] 32) = wq2 at hb2 HL_2 hV_2 hE_2 OW_2 NB7_2 ⊢
        rw [← hG2] at hlt2
        clear hG2 hb2
        refine wpAnyH_ready (rs := [12]) (by kernel_rfl) (by simp) ?_
        refine AllReadyH.cons nat12 (fun K hK => ?_) AllReadyH.nil
        have y0 := NB7_2.cell 0
        have y1 := NB7_2.cell 1
        have y2 := NB7_2.cell 2
        have y3 := NB7_2.cell 3
        simp only [List.getElem?_toArray, List.getElem?_cons_succ, List.getElem?_cons_zero] at y0 y1 y2 y3
        have yf := NB7_2.free
        go_simp
        clear yf y0 y1 y2 y3
        have HL_3s0 := HL_2.setCell (p := ⟨G2, 0, none⟩) (by show W.heap.size ≤ G2; omega) (.slice va1 M1.length vp1)
        have hV_3s0 := hV_2.set_other (p := ⟨G2, 0, none⟩) (by show G2 ≠ _; omega) (.slice va1 M1.length vp1)
        have hE_3s0 := hE_2.set_other (p := ⟨G2, 0, none⟩) (by show G2 ≠ _; omega) (.slice va1 M1.length vp1)
        have OW_3s0 := (show OwnMeta _ _ _ _ from rg_set (o := 0) OW_2 NB7_2 (by decide) (.slice va1 M1.length vp1))
        have NB7_3s0 := NB7_2.set 0 (.slice va1 M1.length vp1)
        have HL_3s1 := HL_3s0.setCell (p := ⟨G2, 1, none⟩) (by show W.heap.size ≤ G2; omega) (.int .i64 d.x2)
        have hV_3s1 := hV_3s0.set_other (p := ⟨G2, 1, none⟩) (by show G2 ≠ _; omega) (.int .i64 d.x2)
        have hE_3s1 := hE_3s0.set_other (p := ⟨G2, 1, none⟩) (by show G2 ≠ _; omega) (.int .i64 d.x2)
        have OW_3s1 := (show OwnMeta _ _ _ _ from rg_set (o := 1) OW_3s0 NB7_3s0 (by decide) (.int .i64 d.x2))
        have NB7_3s1 := NB7_3s0.set 1 (.int .i64 d.x2)
        have HL_3s2 := HL_3s1.setCell (p := ⟨G2, 2, none⟩) (by show W.heap.size ≤ G2; omega) (.int .i64 d.x3)
        have hV_3s2 := hV_3s1.set_other (p := ⟨G2, 2, none⟩) (by show G2 ≠ _; omega) (.int .i64 d.x3)
        have hE_3s2 := hE_3s1.set_other (p := ⟨G2, 2, none⟩) (by show G2 ≠ _; omega) (.int .i64 d.x3)
        have OW_3s2 := (show OwnMeta _ _ _ _ from rg_set (o := 2) OW_3s1 NB7_3s1 (by decide) (.int .i64 d.x3))
        have NB7_3s2 := NB7_3s1.set 2 (.int .i64 d.x3)
        have HL_3s3 := HL_3s2.setCell (p := ⟨G2, 3, none⟩) (by show W.heap.size ≤ G2; omega) (.int .i64 d.x4)
        have hV_3s3 := hV_3s2.set_other (p := ⟨G2, 3, none⟩) (by show G2 ≠ _; omega) (.int .i64 d.x4)
        have hE_3s3 := hE_3s2.set_other (p := ⟨G2, 3, none⟩) (by show G2 ≠ _; omega) (.int .i64 d.x4)
        have OW_3s3 := (show OwnMeta _ _ _ _ from rg_set (o := 3) OW_3s2 NB7_3s2 (by decide) (.int .i64 d.x4))
        have NB7_3s3 := NB7_3s2.set 3 (.int .i64 d.x4)
        have HL_3 := HL_3s3
        have hV_3 := hV_3s3
        have hE_3 := hE_3s3
        have OW_3 := OW_3s3
        have NB7_3 : BoxIs ((((wq2.setCell ⟨G2, 0, none⟩ (.slice va1 M1.length vp1)).setCell ⟨G2, 1, none⟩ (.int .i64 d.x2)).setCell ⟨G2, 2, none⟩ (.int .i64 d.x3)).setCell ⟨G2, 3, none⟩ (.int .i64 d.x4)) G2 #[.slice va1 M1.length vp1, .int .i64 d.x2, .int .i64 d.x3, .int .i64 d.x4] 32 := NB7_3s3
        refine hK.out _ _ ⟨hV_3, hE_3⟩ (fun hSz => ?_)
        clear hK K hSz HL_2 NB7_2 OW_2 hE_2 hV_2 HL_3s0 HL_3s1 HL_3s2 HL_3s3 hV_3s0 hV_3s1 hV_3s2 hV_3s3 hE_3s0 hE_3s1 hE_3s2 hE_3s3 OW_3s0 OW_3s1 OW_3s2 OW_3s3 NB7_3s0 NB7_3s1 NB7_3s2 NB7_3s3
        generalize (((wq2.setCell ⟨G2, 0, none⟩ (.slice va1 M1.length vp1)).setCell ⟨G2, 1, none⟩ (.int .i64 d.x2)).setCell ⟨G2, 2, none⟩ (.int .i64 d.x3)).setCell ⟨G2, 3, none⟩ (.int .i64 d.x4) = wq3 at HL_3 hV_3 hE_3 OW_3 NB7_3 ⊢
        refine wpAnyH_done (by kernel_rfl) ?_ _
        refine NoPanic.normal ?_
        go_wp2_with fail
        go_meet
        exact ⟨G2, _, _, M1, rfl, hide hp1, hide hs1, hide HL_3, hide OW_3, hide NB7_3⟩
      · go_simp
        have hlt4 : W.heap.size ≤ wq0.heap.size := HL_0.size
        have hb4 := below_one wq0 (.cells #[.slice none 0 0, .int .i64 0, .int .i64 0, .int .i64 0] 32)
        have HL_4 := HL_0.trans (hb4.mono HL_0.size)
        have hV_4 := hV_0.next hb4
        have hE_4 := hE_0.next hb4
        have hS1_4 := hS1_0.next hb4
        have hA1_4 := hA1_0.next hb4
        have hU1_4 := hU1_0.next hb4
        have NB7_4 := BoxIs.new wq0 #[.slice none 0 0, .int .i64 0, .int .i64 0, .int .i64 0] 32 rfl
        refine hK.out _ _ ⟨hV_4, hE_4⟩ (fun hSz => ?_)
        clear hK K hSz HL_0 hA1_0 hE_0 hS1_0 hU1_0 hV_0
        obtain ⟨G4, hG4⟩ : ∃ G, G = wq0.heap.size := ⟨_, rfl⟩
        rw [← hG4] at NB7_4 ⊢
        generalize wq0.alloc (.cells #[.slice none 0 0, .int .i64 0, .int .i64 0, .int .i64 0] 32) = wq4 at hb4 HL_4 hV_4 hE_4 hS1_4 hA1_4 hU1_4 NB7_4 ⊢
        rw [← hG4] at hlt4
        clear hG4 hb4
        refine wpAnyH_ready (rs := [3]) (by kernel_rfl) (by simp) ?_
        refine AllReadyH.cons nat3 (fun K hK => ?_) AllReadyH.nil
        go_simp
        go_at_call 36
        refine (impl_edited a0 p0 c b0 q0 b1 q1 d _ (by omega) hgm (by omega) hS1_4 hA1_4 hU1_4).mono ?_
        rintro e wq5 ⟨⟨v5, M5, rfl, hp5, hs5, ho5⟩, hb5⟩
        obtain ⟨va5, vp5, rfl⟩ := ho5.shape
        have HL_5 := HL_4.trans (hb5.mono HL_4.size)
        have hV_5 := hV_4.next hb5
        have hE_5 := hE_4.next hb5
        have NB7_5 := NB7_4.next hb5
        have OW_5 := (show OwnMeta _ W.heap.size _ _ from ho5.base HL_4.size)
        refine hK.out _ _ ⟨hV_5, hE_5⟩ (fun hSz => ?_)
        clear hK K hSz HL_4 NB7_4 hA1_4 hE_4 hS1_4 hU1_4 hV_4 hb5 ho5
        refine wpAnyH_take (i := 10) (v := .agg #[.slice va5 M5.length vp5, .int .i64 d.x2, .int .i64 d.x3, .int .i64 d.x4]) nat10 (by kernel_rfl) (by kernel_rfl) (by kernel_rfl) (fun _ _ _ h => False.elim h) (Or.inl ⟨by rfl, ?_⟩) ⟨hV_5, hE_5⟩ ?_
        · intro wx hSw
          go_simp
        simp only [Act.put, List.setIfInBounds_toArray, List.set_cons_zero, List.set_cons_succ]
        refine wpAnyH_ready (rs := [12]) (by kernel_rfl) (by simp) ?_
        refine AllReadyH.cons nat12 (fun K hK => ?_) AllReadyH.nil
        have y0 := NB7_5.cell 0
        have y1 := NB7_5.cell 1
        have y2 := NB7_5.cell 2
        have y3 := NB7_5.cell 3
        simp only [List.getElem?_toArray, List.getElem?_cons_succ, List.getElem?_cons_zero] at y0 y1 y2 y3
        have yf := NB7_5.free
        go_simp
        clear yf y0 y1 y2 y3
        have HL_6s0 := HL_5.setCell (p := ⟨G4, 0, none⟩) (by show W.heap.size ≤ G4; omega) (.slice va5 M5.length vp5)
        have hV_6s0 := hV_5.set_other (p := ⟨G4, 0, none⟩) (by show G4 ≠ _; omega) (.slice va5 M5.length vp5)
        have hE_6s0 := hE_5.set_other (p := ⟨G4, 0, none⟩) (by show G4 ≠ _; omega) (.slice va5 M5.length vp5)
        have NB7_6s0 := NB7_5.set 0 (.slice va5 M5.length vp5)
        have OW_6s0 := (show OwnMeta _ _ _ _ from rg_set (o := 0) OW_5 NB7_5 (by decide) (.slice va5 M5.length vp5))
        have HL_6s1 := HL_6s0.setCell (p := ⟨G4, 1, none⟩) (by show W.heap.size ≤ G4; omega) (.int .i64 d.x2)
        have hV_6s1 := hV_6s0.set_other (p := ⟨G4, 1, none⟩) (by show G4 ≠ _; omega) (.int .i64 d.x2)
        have hE_6s1 := hE_6s0.set_other (p := ⟨G4, 1, none⟩) (by show G4 ≠ _; omega) (.int .i64 d.x2)
        have NB7_6s1 := NB7_6s0.set 1 (.int .i64 d.x2)
        have OW_6s1 := (show OwnMeta _ _ _ _ from rg_set (o := 1) OW_6s0 NB7_6s0 (by decide) (.int .i64 d.x2))
        have HL_6s2 := HL_6s1.setCell (p := ⟨G4, 2, none⟩) (by show W.heap.size ≤ G4; omega) (.int .i64 d.x3)
        have hV_6s2 := hV_6s1.set_other (p := ⟨G4, 2, none⟩) (by show G4 ≠ _; omega) (.int .i64 d.x3)
        have hE_6s2 := hE_6s1.set_other (p := ⟨G4, 2, none⟩) (by show G4 ≠ _; omega) (.int .i64 d.x3)
        have NB7_6s2 := NB7_6s1.set 2 (.int .i64 d.x3)
        have OW_6s2 := (show OwnMeta _ _ _ _ from rg_set (o := 2) OW_6s1 NB7_6s1 (by decide) (.int .i64 d.x3))
        have HL_6s3 := HL_6s2.setCell (p := ⟨G4, 3, none⟩) (by show W.heap.size ≤ G4; omega) (.int .i64 d.x4)
        have hV_6s3 := hV_6s2.set_other (p := ⟨G4, 3, none⟩) (by show G4 ≠ _; omega) (.int .i64 d.x4)
        have hE_6s3 := hE_6s2.set_other (p := ⟨G4, 3, none⟩) (by show G4 ≠ _; omega) (.int .i64 d.x4)
        have NB7_6s3 := NB7_6s2.set 3 (.int .i64 d.x4)
        have OW_6s3 := (show OwnMeta _ _ _ _ from rg_set (o := 3) OW_6s2 NB7_6s2 (by decide) (.int .i64 d.x4))
        have HL_6 := HL_6s3
        have hV_6 := hV_6s3
        have hE_6 := hE_6s3
        have NB7_6 : BoxIs ((((wq5.setCell ⟨G4, 0, none⟩ (.slice va5 M5.length vp5)).setCell ⟨G4, 1, none⟩ (.int .i64 d.x2)).setCell ⟨G4, 2, none⟩ (.int .i64 d.x3)).setCell ⟨G4, 3, none⟩ (.int .i64 d.x4)) G4 #[.slice va5 M5.length vp5, .int .i64 d.x2, .int .i64 d.x3, .int .i64 d.x4] 32 := NB7_6s3
        have OW_6 := OW_6s3
        refine hK.out _ _ ⟨hV_6, hE_6⟩ (fun hSz => ?_)
        clear hK K hSz HL_5 NB7_5 OW_5 hE_5 hV_5 HL_6s0 HL_6s1 HL_6s2 HL_6s3 hV_6s0 hV_6s1 hV_6s2 hV_6s3 hE_6s0 hE_6s1 hE_6s2 hE_6s3 NB7_6s0 NB7_6s1 NB7_6s2 NB7_6s3 OW_6s0 OW_6s1 OW_6s2 OW_6s3
        generalize (((wq5.setCell ⟨G4, 0, none⟩ (.slice va5 M5.length vp5)).setCell ⟨G4, 1, none⟩ (.int .i64 d.x2)).setCell ⟨G4, 2, none⟩ (.int .i64 d.x3)).setCell ⟨G4, 3, none⟩ (.int .i64 d.x4) = wq6 at HL_6 hV_6 hE_6 NB7_6 OW_6 ⊢
        refine wpAnyH_done (by kernel_rfl) ?_ _
        refine NoPanic.normal ?_
        go_wp2_with fail
        go_meet
        exact ⟨G4, _, _, M5, rfl, hide hp5, hide hs5, hide HL_6, hide OW_6, hide NB7_6⟩
    case rest =>
    obtain ⟨N, va, vp, M, rfl, HP, HSO, HL, HO, HN⟩ := hcut
    clear HW HS1 HA1 HU1 hV hE hRW
    have hpl : M.length ≤ 100 := by
      have h1 := HP.out.length_eq
      have h2 := leftL_len c.r0 d.r1 d.n1 c.n0
      rw [List.length_append, metasL_len] at h1
      omega
    obtain ⟨hab, hac⟩ := apply_end HG.out.1 HG.out.2 HP.out HSO.out
    obtain ⟨a1, p1, hva, hM1⟩ := HO.out.arg
    simp only [Value.slice.injEq, true_and] at hva
    obtain ⟨rfl, rfl⟩ := hva
    have hIs : ∀ wx, Below wc.heap.size wc wx → VersionIs wx (.agg #[.slice va M.length vp, .int .i64 d.x2, .int .i64 d.x3, .int .i64 d.x4]) (vc M d.x2 d.x3 d.x4) := fun wx hb => ⟨va, vp, rfl, hM1.next hb⟩
    have HIS := hide hIs
    have cV := impl_VersionOk (.agg #[.slice va M.length vp, .int .i64 d.x2, .int .i64 d.x3, .int .i64 d.x4]) (vc M d.x2 d.x3 d.x4) wc (by show M.length ≤ 1048576; omega) (hIs _ (Below.refl _ _))
    have HAC := hide hac
    have HSZ := hide (@versB_sizes (vc M d.x2 d.x3 d.x4))
    obtain ⟨mb, hmb⟩ : ∃ mb, versB (vc M d.x2 d.x3 d.x4) = mb := ⟨_, rfl⟩
    rw [hmb] at cV hab
    have HMB := hide hmb
    have HAB := hide hab
    have n0 := HN.out.cell 0
    have n1 := HN.out.cell 1
    have n2 := HN.out.cell 2
    have n3 := HN.out.cell 3
    simp only [List.getElem?_toArray, List.getElem?_cons_succ, List.getElem?_cons_zero] at n0 n1 n2 n3
    clear hmb hab hac hM1 hIs HG
    go_wp2_with fail
    refine cV.mono ?_
    rintro e w5 ⟨rfl, hb5⟩
    have HL5 := hide (HL.out.trans (hb5.mono HL.out.size))
    have hR5 := HR.out.next HL5.out
    have r0 := hR5.cell 0
    have r1 := hR5.cell 1
    have r2 := hR5.cell 2
    have r3 := hR5.cell 3
    have rf := hR5.free
    simp only [List.getElem?_toArray, List.getElem?_cons_succ, List.getElem?_cons_zero] at r0 r1 r2 r3
    have hN5 := (HN.out.next hb5).hid
    have HB5 := hide hb5
    clear hb5 cV n0 n1 n2 n3 hR5
    cases mb with
    | false =>
      have HLOW := hide (HB0.out.trans (HL5.out.mono HB0.out.size))
      have hle2 : w.heap.size ≤ w.heap.size + 1 + 1 := by omega
      have HC : Hid (apC c d = zeroV) := apC_no HAB.out
      clear HL HN HL5 hN5
      go_wp2
      refine bodyPost_ret (v := .tuple #[.agg #[.slice none 0 0, .int .i64 0, .int .i64 0, .int .i64 0], .bool false]) (by simp [results, Try.results12, go_sem, r0, r1, r2, r3]) rfl ⟨⟨_, by rw [HAB.out], by rw [HC.out]; exact zeroV_ownM _ _⟩, ?_⟩
      exact (((HLOW.out.setCell hle2 _).setCell hle2 _).setCell hle2 _).setCell hle2 _
    | true =>
      have cC := impl_copyVersion (.agg #[.slice va M.length vp, .int .i64 d.x2, .int .i64 d.x3, .int .i64 d.x4]) (vc M d.x2 d.x3 d.x4) w5 (by show M.length ≤ 1000; omega) (HSZ.out HMB.out).2 (HIS.out _ HB5.out)
      have n0 := hN5.out.cell 0
      have n1 := hN5.out.cell 1
      have n2 := hN5.out.cell 2
      have n3 := hN5.out.cell 3
      simp only [List.getElem?_toArray, List.getElem?_cons_succ, List.getElem?_cons_zero] at n0 n1 n2 n3
      clear r0 r1 r2 r3 rf
      go_wp2_with fail
      refine cC.mono ?_
      rintro e w6 ⟨⟨u, rfl, uv, ul, rfl, huo, huc⟩, hb6⟩
      obtain ⟨ua, up, rfl⟩ := huo.shape
      have HL6 := hide (HL5.out.trans (hb6.mono HL5.out.size))
      have hR6 := HR.out.next HL6.out
      have r0 := hR6.cell 0
      have r1 := hR6.cell 1
      have r2 := hR6.cell 2
      have r3 := hR6.cell 3
      have rf := hR6.free
      simp only [List.getElem?_toArray, List.getElem?_cons_succ, List.getElem?_cons_zero] at r0 r1 r2 r3
      have huc2 : vc M d.x2 d.x3 d.x4 = vc ul d.x2 d.x3 d.x4 := by
        have h := huc
        rw [show metasL (vc M d.x2 d.x3 d.x4).r0 (vc M d.x2 d.x3 d.x4).n0 = M from fnMeta_list M] at h
        exact h
      have HCC := hide ((HAC.out HMB.out).trans huc2)
      have HOU := huo.hid
      have b1 := hR6.set 0 (.slice ua ul.length up)
      have b2 := b1.set 1 (.int .i64 d.x2)
      have b3 := b2.set 2 (.int .i64 d.x3)
      have HOW := hide (show OwnMeta _ _ _ _ from rg_set (o := 3) (rg_set (rg_set (rg_set HOU.out hR6 (by decide) (.slice ua ul.length up)) b1 (by decide) (.int .i64 d.x2)) b2 (by decide) (.int .i64 d.x3)) b3 (by decide) (.int .i64 d.x4))
      have HLOW := hide (HB0.out.trans (HL6.out.mono HB0.out.size))
      have hle2 : w.heap.size ≤ w.heap.size + 1 + 1 := by omega
      have hbase : w.heap.size ≤ w5.heap.size := Nat.le_trans HB0.out.size HL5.out.size
      have x1 : (vc M d.x2 d.x3 d.x4).x1 = d.x2 := rfl
      have x2 : (vc M d.x2 d.x3 d.x4).x2 = d.x3 := rfl
      have x3 : (vc M d.x2 d.x3 d.x4).x3 = d.x4 := rfl
      have y1 : (vc (metasL (vc M d.x2 d.x3 d.x4).r0 (vc M d.x2 d.x3 d.x4).n0) (vc M d.x2 d.x3 d.x4).x1 (vc M d.x2 d.x3 d.x4).x2 (vc M d.x2 d.x3 d.x4).x3).x1 = d.x2 := rfl
      have y2 : (vc (metasL (vc M d.x2 d.x3 d.x4).r0 (vc M d.x2 d.x3 d.x4).n0) (vc M d.x2 d.x3 d.x4).x1 (vc M d.x2 d.x3 d.x4).x2 (vc M d.x2 d.x3 d.x4).x3).x2 = d.x3 := rfl
      have y3 : (vc (metasL (vc M d.x2 d.x3 d.x4).r0 (vc M d.x2 d.x3 d.x4).n0) (vc M d.x2 d.x3 d.x4).x1 (vc M d.x2 d.x3 d.x4).x2 (vc M d.x2 d.x3 d.x4).x3).x3 = d.x4 := rfl
      simp only [y1, y2, y3]
      clear hR6 huo huc huc2 b1 b2 b3 x1 x2 x3 y1 y2 y3 n0 n1 n2 n3 hN5 HN HL HL5 hb6 cC
      go_wp2
      refine bodyPost_ret (v := .tuple #[.agg #[.slice ua ul.length up, .int .i64 d.x2, .int .i64 d.x3, .int .i64 d.x4], .bool true]) (by simp [results, Try.results12, go_sem, r0, r1, r2, r3]) rfl ⟨⟨_, by rw [HAB.out], by rw [HCC.out]; exact ⟨_, ul, rfl, HOW.out.base hbase, rfl⟩⟩, ?_⟩
      exact (((HLOW.out.setCell hle2 _).setCell hle2 _).setCell hle2 _).setCell hle2 _

end Go.Proofs.Ytplbhgcibfajaaa
