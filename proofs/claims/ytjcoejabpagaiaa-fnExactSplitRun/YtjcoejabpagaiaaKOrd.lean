/- The order of keys: it goes one way, it ties only what is alike, what is ahead of what is ahead is ahead. -/
import Derived.Test.YtjcoejabpagaiaaCmp
namespace Go.Proofs.Ytjcoejabpagaiaa
set_option maxRecDepth 100000
open Go.RowKit

theorem less_asymm : ∀ x y : List UInt8, Op.bytesLess x y = true → Op.bytesLess y x = false
  | [], [], h => by simp [Op.bytesLess] at h
  | [], _ :: _, _ => by simp [Op.bytesLess]
  | _ :: _, [], h => by simp [Op.bytesLess] at h
  | a :: x, b :: y, h => by
    simp only [Op.bytesLess] at h ⊢
    have := less_asymm x y
    by_cases h1 : a < b
    · have h2 : ¬ b < a := fun h2 => by rw [UInt8.lt_iff_toNat_lt] at h1 h2; omega
      have h3 : ¬ b = a := fun h3 => by subst h3; rw [UInt8.lt_iff_toNat_lt] at h1; omega
      simp [h2, h3]
    · simp [h1] at h
      obtain ⟨rfl, h⟩ := h
      simp [h1, this h]

theorem less_tri : ∀ x y : List UInt8, Op.bytesLess x y = false → Op.bytesLess y x = false → x = y
  | [], [], _, _ => rfl
  | [], _ :: _, h, _ => by simp [Op.bytesLess] at h
  | _ :: _, [], _, h => by simp [Op.bytesLess] at h
  | a :: x, b :: y, h, k => by
    simp only [Op.bytesLess] at h k
    have := less_tri x y
    have e : a = b := by
      apply UInt8.toNat_inj.1
      simp [UInt8.lt_iff_toNat_lt] at h k
      omega
    subst e
    simp at h k
    rw [this h k]

theorem less_trans : ∀ x y z : List UInt8, Op.bytesLess x y = true → Op.bytesLess y z = true → Op.bytesLess x z = true
  | [], _, [], h, k => by cases ‹List UInt8› <;> simp [Op.bytesLess] at h k
  | [], _, _ :: _, _, _ => by simp [Op.bytesLess]
  | _ :: _, [], _, h, _ => by simp [Op.bytesLess] at h
  | _ :: _, _ :: _, [], _, k => by simp [Op.bytesLess] at k
  | a :: x, b :: y, c :: z, h, k => by
    simp only [Op.bytesLess] at h k ⊢
    have := less_trans x y z
    by_cases h1 : a < b <;> by_cases h2 : b < c
    · have : a < c := by rw [UInt8.lt_iff_toNat_lt] at *; omega
      simp [this]
    · simp [h2] at k
      obtain ⟨rfl, k⟩ := k
      simp [h1]
    · simp [h1] at h
      obtain ⟨rfl, h⟩ := h
      simp [h2]
    · simp [h1] at h
      simp [h2] at k
      obtain ⟨rfl, h⟩ := h
      obtain ⟨rfl, k⟩ := k
      simp [this h k]

theorem toList_inj_ba {x y : ByteArray} (h : x.toList = y.toList) : x = y := by
  rw [ByteArray.toList_eq, ByteArray.toList_eq] at h
  exact ByteArray.ext (Array.toList_inj.1 h)

/-- What two texts, two numbers come to. -/
theorem cmpS_cases (x y : ByteArray) : (cmpS x y = -1 ∧ cmpS y x = 1 ∧ ¬ x = y) ∨ (cmpS x y = 0 ∧ cmpS y x = 0 ∧ x = y) ∨ (cmpS x y = 1 ∧ cmpS y x = -1 ∧ ¬ x = y) := by
  unfold cmpS
  cases h : Op.bytesLess x.toList y.toList with
  | true =>
    have h2 := less_asymm _ _ h
    have ne : ¬ x = y := fun e => by subst e; rw [bytesLess_irrefl] at h; cases h
    have ne2 : (y.toList == x.toList) = false := beq_eq_false_iff_ne.2 fun e => ne (toList_inj_ba e).symm
    left
    simp [h2, ne2, ne]
  | false =>
    cases h2 : Op.bytesLess y.toList x.toList with
    | true =>
      have ne : ¬ x = y := fun e => by subst e; rw [bytesLess_irrefl] at h2; cases h2
      have ne2 : (x.toList == y.toList) = false := beq_eq_false_iff_ne.2 fun e => ne (toList_inj_ba e)
      right; right
      simp [ne2, ne]
    | false =>
      have e := toList_inj_ba (less_tri _ _ h h2)
      subst e
      right; left
      simp

theorem cmpS_trans {x y z : ByteArray} (h : cmpS x y = -1) (k : cmpS y z = -1) : cmpS x z = -1 := by
  have f : ∀ a b : ByteArray, cmpS a b = -1 → Op.bytesLess a.toList b.toList = true := fun a b h => by
    unfold cmpS at h
    split at h
    · assumption
    · split at h <;> simp at h
  unfold cmpS
  rw [if_pos (less_trans _ _ _ (f _ _ h) (f _ _ k))]

theorem cmpI_cases (x y : Int) : (cmpI x y = -1 ∧ cmpI y x = 1 ∧ x < y) ∨ (cmpI x y = 0 ∧ cmpI y x = 0 ∧ x = y) ∨ (cmpI x y = 1 ∧ cmpI y x = -1 ∧ y < x) := by
  unfold cmpI
  rcases Int.lt_trichotomy x y with h | h | h
  · left; rw [if_pos h, if_neg (by omega), if_neg (by omega)]; exact ⟨rfl, rfl, h⟩
  · right; left; subst h; simp
  · right; right; rw [if_neg (by omega), if_neg (by omega), if_pos h]; exact ⟨rfl, rfl, h⟩

theorem keyCmp_ok {ua ub : ByteArray} {qa ka qb kb : Int} (h : keyOkB ua qa ka = true) (k : keyOkB ub qb kb = true) : keyCmpI ua qa ka ub qb kb = orI (cmpS ua ub) (cmpI qb qa) (cmpI kb ka) := by
  unfold keyCmpI; rw [h, k]; rfl

theorem keyCmp_neg (ua ub : ByteArray) (qa ka qb kb : Int) : keyCmpI ua qa ka ub qb kb = -(keyCmpI ub qb kb ua qa ka) := by
  unfold keyCmpI
  cases keyOkB ua qa ka <;> cases keyOkB ub qb kb <;> simp
  unfold orI
  rcases cmpS_cases ua ub with ⟨h1, h2, _⟩ | ⟨h1, h2, _⟩ | ⟨h1, h2, _⟩ <;> rcases cmpI_cases qb qa with ⟨i1, i2, _⟩ | ⟨i1, i2, _⟩ | ⟨i1, i2, _⟩ <;> rcases cmpI_cases kb ka with ⟨j1, j2, _⟩ | ⟨j1, j2, _⟩ | ⟨j1, j2, _⟩ <;> simp [h1, h2, i1, i2, j1, j2]

theorem keyCmp_three (ua ub : ByteArray) (qa ka qb kb : Int) : keyCmpI ua qa ka ub qb kb = -1 ∨ keyCmpI ua qa ka ub qb kb = 0 ∨ keyCmpI ua qa ka ub qb kb = 1 := by
  unfold keyCmpI
  cases keyOkB ua qa ka <;> cases keyOkB ub qb kb <;> simp
  unfold orI
  rcases cmpS_cases ua ub with ⟨h1, h2, _⟩ | ⟨h1, h2, _⟩ | ⟨h1, h2, _⟩ <;> rcases cmpI_cases qb qa with ⟨i1, i2, _⟩ | ⟨i1, i2, _⟩ | ⟨i1, i2, _⟩ <;> rcases cmpI_cases kb ka with ⟨j1, j2, _⟩ | ⟨j1, j2, _⟩ | ⟨j1, j2, _⟩ <;> simp [h1, i1, j1]

/-- How two right keys stand to each other. -/
inductive KCase : ByteArray → Int → Int → ByteArray → Int → Int → Int → Prop
  | same (u : ByteArray) (q k : Int) : KCase u q k u q k 0
  | user (u : ByteArray) (q k : Int) (u2 : ByteArray) (q2 k2 : Int) (n : Int) (a : ¬ u.toList = u2.toList) (b : (u.toList == u2.toList) = false) (c : n = -1 ∨ n = 1) : KCase u q k u2 q2 k2 n
  | newer (u : ByteArray) (q k q2 k2 : Int) (a : q2 < q) (b : (q == q2) = false) (c : ¬ q = q2) : KCase u q k u q2 k2 (-1)
  | older (u : ByteArray) (q k q2 k2 : Int) (a : q < q2) (b : (q == q2) = false) (c : ¬ q = q2) (d : ¬ q2 < q) : KCase u q k u q2 k2 1
  | kind (u : ByteArray) (q k k2 : Int) (n : Int) (b : (k == k2) = false) (c : ¬ k = k2) (d : n = -1 ∨ n = 1) : KCase u q k u q k2 n

theorem kcase {ua ub : ByteArray} {qa ka qb kb : Int} (h : keyOkB ua qa ka = true) (k : keyOkB ub qb kb = true) : KCase ua qa ka ub qb kb (keyCmpI ua qa ka ub qb kb) := by
  rw [keyCmp_ok h k]
  unfold orI
  rcases cmpS_cases ua ub with ⟨h1, _, hn⟩ | ⟨h1, _, rfl⟩ | ⟨h1, _, hn⟩
  · rw [h1]; exact .user _ _ _ _ _ _ _ (fun e => hn (toList_inj_ba e)) (beq_eq_false_iff_ne.2 fun e => hn (toList_inj_ba e)) (.inl rfl)
  · rcases cmpI_cases qb qa with ⟨i1, _, hq⟩ | ⟨i1, _, rfl⟩ | ⟨i1, _, hq⟩
    · rw [h1, i1]; exact .newer _ _ _ _ _ hq (by simp; omega) (by omega)
    · rcases cmpI_cases kb ka with ⟨j1, _, hk⟩ | ⟨j1, _, rfl⟩ | ⟨j1, _, hk⟩
      · rw [h1, i1, j1]; exact .kind _ _ _ _ _ (by simp; omega) (by omega) (.inl rfl)
      · rw [h1, i1, j1]; exact .same _ _ _
      · rw [h1, i1, j1]; exact .kind _ _ _ _ _ (by simp; omega) (by omega) (.inr rfl)
    · rw [h1, i1]; exact .older _ _ _ _ _ hq (by simp; omega) (by omega) (by omega)
  · rw [h1]; exact .user _ _ _ _ _ _ _ (fun e => hn (toList_inj_ba e)) (beq_eq_false_iff_ne.2 fun e => hn (toList_inj_ba e)) (.inr rfl)

theorem keyCmp_trans {ua ub uc : ByteArray} {qa ka qb kb qc kc : Int} (ha : keyOkB ua qa ka = true) (hb : keyOkB ub qb kb = true) (hc : keyOkB uc qc kc = true)
    (h : keyCmpI ua qa ka ub qb kb ≤ 0) (k : keyCmpI ub qb kb uc qc kc ≤ 0) : keyCmpI ua qa ka uc qc kc ≤ 0 := by
  rw [keyCmp_ok ha hb] at h
  rw [keyCmp_ok hb hc] at k
  rw [keyCmp_ok ha hc]
  unfold orI at *
  rcases cmpS_cases ua ub with ⟨h1, _, _⟩ | ⟨h1, _, rfl⟩ | ⟨h1, _, _⟩
  · rcases cmpS_cases ub uc with ⟨h2, _, _⟩ | ⟨h2, _, rfl⟩ | ⟨h2, _, _⟩
    · rw [cmpS_trans h1 h2]; simp
    · rw [h1]; simp
    · rw [h2] at k; simp at k
  · rcases cmpS_cases ua uc with ⟨h2, _, _⟩ | ⟨h2, _, rfl⟩ | ⟨h2, _, _⟩
    · rw [h2]; simp
    · rw [h1] at h k
      rw [h2]
      simp only [if_true] at h k ⊢
      rcases cmpI_cases qb qa with ⟨i1, _, e1⟩ | ⟨i1, _, e1⟩ | ⟨i1, _, e1⟩ <;> rcases cmpI_cases qc qb with ⟨i2, _, e2⟩ | ⟨i2, _, e2⟩ | ⟨i2, _, e2⟩ <;> rcases cmpI_cases qc qa with ⟨i3, _, e3⟩ | ⟨i3, _, e3⟩ | ⟨i3, _, e3⟩ <;>
      rcases cmpI_cases kb ka with ⟨j1, _, f1⟩ | ⟨j1, _, f1⟩ | ⟨j1, _, f1⟩ <;> rcases cmpI_cases kc kb with ⟨j2, _, f2⟩ | ⟨j2, _, f2⟩ | ⟨j2, _, f2⟩ <;> rcases cmpI_cases kc ka with ⟨j3, _, f3⟩ | ⟨j3, _, f3⟩ | ⟨j3, _, f3⟩ <;>
      simp only [i1, i2, i3, j1, j2, j3] at h k ⊢ <;> first | omega | (simp at h k ⊢; done) | (simp at h; done) | (simp at k; done)
    · rw [h2] at k; simp at k
  · rw [h1] at h; simp at h

theorem keyCmp_badA {ua ub : ByteArray} {qa ka qb kb : Int} (h : keyOkB ua qa ka = false) : keyCmpI ua qa ka ub qb kb = 0 := by unfold keyCmpI; rw [h]; rfl
theorem keyCmp_badB {ua ub : ByteArray} {qa ka qb kb : Int} (h : keyOkB ub qb kb = false) : keyCmpI ua qa ka ub qb kb = 0 := by unfold keyCmpI; rw [h, Bool.and_false]; rfl

end Go.Proofs.Ytjcoejabpagaiaa
