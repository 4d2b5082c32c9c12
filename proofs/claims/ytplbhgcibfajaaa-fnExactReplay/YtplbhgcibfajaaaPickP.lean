/- What is picked has a table; of a level but the first at most one table has a user. No walk. -/
import Derived.Test.YtplbhgcibfajaaaPickL
import Derived.Test.YtplbhgcibfajaaaOver
namespace Go.Proofs.Ytplbhgcibfajaaa
set_option maxRecDepth 100000
open Go.RowKit

theorem cntF_ex {O : Metas} {lv : Int} : ∀ {k : Nat}, 0 < cntF O lv k → ∃ i, i < k ∧ O.L i = lv
  | 0, h => by simp [cntF] at h
  | k + 1, h => by
    by_cases h1 : O.L k = lv
    · exact ⟨k, by omega, h1⟩
    · rw [cntF_miss h1] at h
      obtain ⟨i, hi, e⟩ := cntF_ex h
      exact ⟨i, by omega, e⟩
theorem sumC_ex {O : Metas} {lv : Int} : ∀ {k : Nat}, 0 < sumC O lv k → ∃ i, i < k ∧ O.L i = lv
  | 0, h => by simp [sumC] at h
  | k + 1, h => by
    by_cases h1 : O.L k = lv
    · exact ⟨k, by omega, h1⟩
    · rw [sumC_miss h1] at h
      obtain ⟨i, hi, e⟩ := sumC_ex h
      exact ⟨i, by omega, e⟩
/-- A level that is picked has a table. -/
theorem pick_has {c : VersionC} (h : pickB c = true) : ∃ i, i < c.n0 ∧ c.r0.L i = pickV c := by
  unfold pickB at h
  rw [Bool.and_eq_true] at h
  obtain ⟨hv, h⟩ := h
  unfold pickV
  rw [if_pos hv]
  by_cases h1 : 4 ≤ cntF c.r0 0 c.n0
  · rw [if_pos h1]
    exact cntF_ex (by omega)
  · rw [if_neg h1]
    by_cases h2 : 20 < sumC c.r0 1 c.n0
    · rw [if_pos h2]
      exact sumC_ex (by omega)
    · rw [if_neg h2]
      by_cases h3 : 200 < sumC c.r0 2 c.n0
      · rw [if_pos h3]
        exact sumC_ex (by omega)
      · simp [h1, h2, h3] at h

theorem sLt_le {x y : ByteArray} : sLe x y = true ↔ sLt y x = false := by
  rw [sLe_not]; unfold sLt
  cases Op.bytesLess y.toList x.toList <;> simp
theorem sLt_trans {x y z : ByteArray} (h : sLt x y = true) (k : sLt y z = true) : sLt x z = true := less_trans _ _ _ h k
theorem sLt_le_lt {x y z : ByteArray} (h : sLt x y = true) (k : sLe y z = true) : sLt x z = true := by
  unfold sLe at k
  rw [Bool.or_eq_true] at k
  rcases k with k | k
  · exact sLt_trans h k
  · have e : y.toList = z.toList := by simpa using k
    unfold sLt at h ⊢
    rw [← e]; exact h
theorem sLe_trans {x y z : ByteArray} (h : sLe x y = true) (k : sLe y z = true) : sLe x z = true := by
  unfold sLe at h
  rw [Bool.or_eq_true] at h
  rcases h with h | h
  · have := sLt_le_lt (x := x) (y := y) (z := z) h k
    unfold sLe; unfold sLt at this; rw [this]; rfl
  · have e : x.toList = y.toList := by simpa using h
    unfold sLe at k ⊢
    rw [e]; exact k

/-- Two files of a right version: the former's level is lower, or it is the same one, and not the first, and all of the former lies ahead. -/
theorem chain_far {O : Metas} {nx : Int} {n : Nat} (h : ∀ i, i < n → stepB O nx i = true) {i : Nat} : ∀ (t : Nat), i + t + 1 < n → O.L i < O.L (i + t + 1) ∨ (O.L i = O.L (i + t + 1) ∧ (0 < O.L i → sLt (O.Z i) (O.F (i + t + 1)) = true))
  | 0, hj => by
    have h1 := h (i + 1) hj
    unfold stepB at h1
    simp only [Bool.and_eq_true, Bool.or_eq_true] at h1
    have h2 := h1.2
    rcases h2 with h2 | h2
    · simp at h2
    · simp only [Nat.add_sub_cancel] at h2
      unfold aheadB at h2
      by_cases e : O.L i = O.L (i + 1)
      · rw [if_pos e] at h2
        refine .inr ⟨e, fun hp => ?_⟩
        rw [if_neg (by omega)] at h2
        exact h2
      · rw [if_neg e] at h2
        exact .inl (of_decide_eq_true h2)
  | t + 1, hj => by
    have h0 := chain_far h (i := i) t (by omega)
    have h1 := chain_far h (i := i + t + 1) 0 (by omega)
    have hm := stepB_file (h (i + t + 1) (by omega))
    have hz : sLe (O.F (i + t + 1)) (O.Z (i + t + 1)) = true := by
      unfold fileB at hm
      simp only [Bool.and_eq_true] at hm
      exact hm.1.1.2
    have e : i + (t + 1) + 1 = i + t + 1 + 0 + 1 := by omega
    rw [e]
    rcases h0 with h0 | ⟨h0, k0⟩
    · rcases h1 with h1 | ⟨h1, k1⟩
      · exact .inl (by omega)
      · exact .inl (by omega)
    · rcases h1 with h1 | ⟨h1, k1⟩
      · exact .inl (by omega)
      · refine .inr ⟨by omega, fun hp => ?_⟩
        exact sLt_trans (sLt_le_lt (k0 hp) hz) (k1 (by omega))
theorem over_two {O : Metas} {nx : Int} {n : Nat} (h : ∀ i, i < n → stepB O nx i = true) {lv : Int} {tq : ByteArray} (hlv : lv ≠ 0) {i j : Nat} (hi : i < j) (hj : j < n) (oi : overB O lv tq tq i = true) (oj : overB O lv tq tq j = true) : False := by
  unfold overB at oi oj
  simp only [Bool.and_eq_true, decide_eq_true_eq] at oi oj
  obtain ⟨⟨li, fi⟩, zi⟩ := oi
  obtain ⟨⟨lj, fj⟩, zj⟩ := oj
  obtain ⟨t, rfl⟩ : ∃ t, j = i + t + 1 := ⟨j - i - 1, by omega⟩
  have hl := fileB_level (stepB_file (h i (by omega)))
  rcases chain_far h t hj with h1 | ⟨h1, h2⟩
  · omega
  · have h3 := h2 (by omega)
    have h4 := sLt_le_lt h3 fj
    have h5 := sLt_le.1 zi
    rw [h4] at h5; cases h5
theorem over_one {O : Metas} {nx : Int} {n : Nat} (h : ∀ i, i < n → stepB O nx i = true) {lv : Int} {tq : ByteArray} (hlv : lv ≠ 0) : ∀ k, k ≤ n → (overN O lv tq tq k).length ≤ 1 ∧ ((overN O lv tq tq k).length = 1 → ∃ i, i < k ∧ overB O lv tq tq i = true)
  | 0, _ => ⟨by simp [overN], fun e => by simp [overN] at e⟩
  | k + 1, hk => by
    obtain ⟨h1, h2⟩ := over_one h hlv k (by omega)
    rw [overN]
    by_cases ho : overB O lv tq tq k = true
    · rw [if_pos ho]
      have h3 : (overN O lv tq tq k).length = 0 := by
        by_cases e : (overN O lv tq tq k).length = 1
        · obtain ⟨i, hi, oi⟩ := h2 e
          exact (over_two h hlv hi (by omega) oi ho).elim
        · omega
      exact ⟨by rw [List.length_append, h3]; exact Nat.le_refl 1, fun _ => ⟨k, by omega, ho⟩⟩
    · rw [if_neg ho]
      exact ⟨h1, fun e => by obtain ⟨i, hi, oi⟩ := h2 e; exact ⟨i, by omega, oi⟩⟩
theorem over_more {O : Metas} {lv : Int} {fr tq : ByteArray} (hft : sLe fr tq = true) : ∀ k, (overN O lv tq tq k).length ≤ (overN O lv fr tq k).length
  | 0 => Nat.le_refl _
  | k + 1 => by
    have h1 := over_more hft k (O := O) (lv := lv)
    rw [overN, overN]
    by_cases ho : overB O lv tq tq k = true
    · have ho2 : overB O lv fr tq k = true := by
        unfold overB at ho ⊢
        simp only [Bool.and_eq_true] at ho ⊢
        exact ⟨ho.1, sLe_trans hft ho.2⟩
      rw [if_pos ho, if_pos ho2]
      simp; omega
    · rw [if_neg ho]
      split
      · simp; omega
      · exact h1
/-- What the law on Overlapping tells. -/
theorem over_law (c : VersionC) (lv : Int) (fr tq : ByteArray) : (lv = 0 ∨ (overL c lv tq tq).length ≤ 1) ∧ (sLt tq fr = true ∨ (overL c lv tq tq).length ≤ (overL c lv fr tq).length) := by
  constructor
  · by_cases h0 : lv = 0
    · exact .inl h0
    · refine .inr ?_
      unfold overL
      split
      · next hv => exact (over_one (versB_out hv).2.1 h0 _ (Nat.le_refl _)).1
      · simp
  · by_cases h0 : sLt tq fr = true
    · exact .inl h0
    · refine .inr ?_
      have h1 : sLe fr tq = true := sLt_le.2 (by simpa using h0)
      unfold overL
      split
      · exact over_more h1 _
      · exact Nat.le_refl _

end Go.Proofs.Ytplbhgcibfajaaa
