/- Numbers and their bytes: what PutVar gives comes back, and what TakeVar takes has just these bytes. -/
import Derived.Test.YtplbhgcibfajaaaText
namespace Go.Proofs.Ytplbhgcibfajaaa
set_option maxRecDepth 100000
open Go.RowKit

/-- The bytes of s from place i on begin with xs. -/
def Begins (s : ByteArray) (i : Nat) (xs : List Int) : Prop := i + xs.length ≤ s.size ∧ ∀ j x, xs[j]? = some x → bt s (i + j) = x

theorem Begins.head {s : ByteArray} {i : Nat} {x : Int} {xs : List Int} (h : Begins s i (x :: xs)) : i < s.size ∧ bt s i = x ∧ Begins s (i + 1) xs := by
  obtain ⟨h1, h2⟩ := h
  simp only [List.length_cons] at h1
  refine ⟨by omega, by simpa using h2 0 x rfl, by omega, fun j y hy => ?_⟩
  have := h2 (j + 1) y (by simpa using hy)
  rw [show i + 1 + j = i + (j + 1) by omega]
  exact this

theorem Begins.cons {s : ByteArray} {i : Nat} {x : Int} {xs : List Int} (_h0 : i < s.size) (h1 : bt s i = x) (h : Begins s (i + 1) xs) : Begins s i (x :: xs) := by
  refine ⟨by have := h.1; simp; omega, fun j y hy => ?_⟩
  cases j with
  | zero => simp at hy; subst hy; exact h1
  | succ j =>
    have := h.2 j y (by simpa using hy)
    rw [show i + (j + 1) = i + 1 + j by omega]
    exact this

theorem p128_9 : (128 : Int) ^ 9 = 9223372036854775808 := by decide

theorem tva_of_begins (s : ByteArray) : ∀ (g i : Nat) (m n : Int), i + g = 9 → 0 ≤ m → m < 128 ^ (g + 1) → 128 ^ i * m < 18446744073709551616 → (0 < i → m ≠ 0) → Begins s i (pvs g m) →
    tva s (10 - i) i n = some (n + 128 ^ i * m, i + (pvs g m).length)
  | g, i, m, n, hi, h0, h1, hB, hz, hb => by
    rw [tva_step s i n (by omega)]
    by_cases hm : m < 128
    · rw [pvs_lt g m hm] at hb ⊢
      obtain ⟨p1, p2, _⟩ := hb.head
      have h9 : ¬ (i = 9 ∧ 1 < m) := by
        rintro ⟨rfl, h⟩
        rw [p128_9] at hB
        omega
      rw [p2, if_pos p1, if_neg h9, if_pos hm, if_neg (by omega)]
      simp
    · cases g with
      | zero => exact absurd h1 (by omega)
      | succ g =>
        rw [pvs_ge g m hm] at hb ⊢
        obtain ⟨p1, p2, p3⟩ := hb.head
        have hpow : (128 : Int) ^ (g + 1 + 1) = 128 * 128 ^ (g + 1) := by rw [Int.pow_succ, Int.mul_comm]
        have e : (128 : Int) ^ (i + 1) = 128 ^ i * 128 := Int.pow_succ _ _
        have hd : m = m % 128 + 128 * (m / 128) := by omega
        have hle : (128 : Int) ^ i * (128 * (m / 128)) ≤ 128 ^ i * m := Int.mul_le_mul_of_nonneg_left (by omega) (Int.pow_nonneg (by omega))
        rw [p2, if_pos p1, if_neg (by omega), if_neg (by omega)]
        rw [tva_of_begins s g (i + 1) (m / 128) _ (by omega) (by omega) (by rw [hpow] at h1; omega) (by rw [e, Int.mul_assoc]; omega) (fun _ => by omega) p3]
        congr 2
        · rw [e, Int.add_sub_cancel, Int.add_assoc, Int.mul_assoc, ← Int.mul_add, ← hd]
        · simp; omega

theorem group_bd (i : Nat) (x : Int) (hi : i ≤ 9) (h0 : 0 ≤ x) (h1 : x < 128) (h9 : i = 9 → x ≤ 1) : (128 : Int) ^ i * x < 18446744073709551616 := by
  have : i = 0 ∨ i = 1 ∨ i = 2 ∨ i = 3 ∨ i = 4 ∨ i = 5 ∨ i = 6 ∨ i = 7 ∨ i = 8 ∨ i = 9 := by omega
  rcases this with rfl | rfl | rfl | rfl | rfl | rfl | rfl | rfl | rfl | rfl <;> omega

theorem group_bd2 (i : Nat) (x m : Int) (hi : i ≤ 8) (h0 : 0 ≤ x) (h1 : x < 128) (hm : 0 ≤ m) (h : (128 : Int) ^ (i + 1) * m < 18446744073709551616) : (128 : Int) ^ i * (x + 128 * m) < 18446744073709551616 := by
  have : i = 0 ∨ i = 1 ∨ i = 2 ∨ i = 3 ∨ i = 4 ∨ i = 5 ∨ i = 6 ∨ i = 7 ∨ i = 8 := by omega
  rcases this with rfl | rfl | rfl | rfl | rfl | rfl | rfl | rfl | rfl <;> omega

theorem begins_of_tva (s : ByteArray) : ∀ (f i : Nat) (n : Int) {N : Int} {k : Nat}, i + f = 10 → tva s f i n = some (N, k) →
    ∃ m, 0 ≤ m ∧ N = n + 128 ^ i * m ∧ k = i + (pvs (9 - i) m).length ∧ Begins s i (pvs (9 - i) m) ∧ (0 < i → m ≠ 0) ∧ m < 128 ^ f ∧ 128 ^ i * m < 18446744073709551616
  | 0, _, _, _, _, _, h => by simp [tva] at h
  | f + 1, i, n, N, k, hi, h => by
    have hbd := bt_bd s i
    unfold tva at h
    split at h
    · rename_i hin
      split at h
      · cases h
      · rename_i h9
        split at h
        · rename_i hlt
          split at h
          · cases h
          · rename_i hz
            simp only [Option.some.injEq, Prod.mk.injEq] at h
            obtain ⟨rfl, rfl⟩ := h
            have hp : (1 : Int) ≤ 128 ^ f := Int.pow_pos (by omega)
            refine ⟨bt s i, hbd.1, rfl, ?_, ?_, by omega, ?_, group_bd i (bt s i) (by omega) hbd.1 hlt (by omega)⟩
            · rw [pvs_lt _ _ hlt]; simp
            · rw [pvs_lt _ _ hlt]
              exact Begins.cons hin rfl ⟨by simp; omega, fun j x hx => by simp at hx⟩
            · rw [Int.pow_succ]; omega
        · rename_i hge
          cases f with
          | zero => simp [tva] at h
          | succ f =>
            obtain ⟨m, hm0, hN, hk, hB, hz, hm1, hbd2⟩ := begins_of_tva s (f + 1) (i + 1) _ (by omega) h
            have hmz := hz (by omega)
            have hM : ¬ (bt s i - 128 + 128 * m < 128) := by omega
            have hs : 9 - i = (9 - (i + 1)) + 1 := by omega
            have e1 : (bt s i - 128 + 128 * m) % 128 + 128 = bt s i := by omega
            have e2 : (bt s i - 128 + 128 * m) / 128 = m := by omega
            have e : (128 : Int) ^ (i + 1) = 128 ^ i * 128 := Int.pow_succ _ _
            refine ⟨bt s i - 128 + 128 * m, by omega, ?_, ?_, ?_, by omega, ?_, group_bd2 i (bt s i - 128) m (by omega) (by omega) (by omega) hm0 hbd2⟩
            · rw [hN, e, Int.add_assoc, Int.mul_assoc, ← Int.mul_add]
            · rw [hs, pvs_ge _ _ hM, e2, hk]; simp; omega
            · rw [hs, pvs_ge _ _ hM, e1, e2]
              exact Begins.cons hin rfl hB
            · rw [Int.pow_succ, Int.mul_comm]; omega
    · cases h

theorem pvs_rng : ∀ (f : Nat) (n : Int), 0 ≤ n → n < 128 ^ (f + 1) → ∀ x ∈ pvs f n, 0 ≤ x ∧ x ≤ 255
  | 0, n, h0, h1, x, hx => by
    simp [pvs] at hx
    omega
  | f + 1, n, h0, h1, x, hx => by
    by_cases hm : n < 128
    · rw [pvs_lt _ _ hm] at hx
      simp at hx
      omega
    · rw [pvs_ge _ _ hm, List.mem_cons] at hx
      rcases hx with rfl | hx
      · omega
      · have hpow : (128 : Int) ^ (f + 1 + 1) = 128 * 128 ^ (f + 1) := by rw [Int.pow_succ, Int.mul_comm]
        exact pvs_rng f (n / 128) (by omega) (by rw [hpow] at h1; omega) x hx

theorem bt_nums (xs : List Int) (r : ByteArray) (j : Nat) (x : Int) (hj : xs[j]? = some x) (h0 : 0 ≤ x) (h1 : x ≤ 255) : bt (strOfNums xs ++ r) j = x := by
  have hl : j < xs.length := (List.getElem?_eq_some_iff.1 hj).1
  have e : (strOfNums xs ++ r).data.toList = (xs.map fun n => UInt8.ofNat n.toNat) ++ r.data.toList := by
    rw [ByteArray.data_append, Array.toList_append, strOfNums_data]
  unfold bt
  rw [e, List.getD, List.getElem?_append_left (by simpa using hl), List.getElem?_map, hj]
  simp
  omega

theorem begins_put (n : Int) (h0 : 0 ≤ n) (h1 : n < 18446744073709551616) (r : ByteArray) : Begins (pv n ++ r) 0 (pvs 9 n) := by
  refine ⟨?_, fun j x hj => ?_⟩
  · rw [ByteArray.size_append, pv, strOfNums_size]; omega
  · have hr := pvs_rng 9 n h0 (by omega) x (List.mem_of_getElem? hj)
    rw [Nat.zero_add]
    exact bt_nums _ r j x hj hr.1 hr.2

theorem take_put (n : Int) (h0 : 0 ≤ n) (h1 : n < 18446744073709551616) (r : ByteArray) : tva (pv n ++ r) 10 0 0 = some (n, (pv n).size) := by
  have h := tva_of_begins (pv n ++ r) 9 0 n 0 (by omega) h0 (by omega) (by omega) (by omega) (begins_put n h0 h1 r)
  rw [h, pv, strOfNums_size]
  congr 2
  · omega
  · omega

theorem put_take (s : ByteArray) {N : Int} {k : Nat} (h : tva s 10 0 0 = some (N, k)) : 0 ≤ N ∧ N < 18446744073709551616 ∧ pv N = s.extract 0 k := by
  obtain ⟨m, hm0, hN, hk, hB, _, hm1, hbd⟩ := begins_of_tva s 10 0 0 (by omega) h
  have e : N = m := by omega
  subst e
  rw [Nat.sub_zero] at hk hB
  refine ⟨hm0, by omega, ?_⟩
  apply ByteArray.ext
  apply Array.toList_inj.1
  rw [pv, strOfNums_data, Lib.extract_data]
  apply List.ext_getElem?
  intro j
  rw [List.getElem?_map]
  rcases Nat.lt_or_ge j (pvs 9 N).length with hj | hj
  · have hx : (pvs 9 N)[j]? = some (pvs 9 N)[j] := List.getElem?_eq_getElem hj
    have hb := hB.2 j _ hx
    have hl : j < s.data.toList.length := by
      have := hB.1
      rw [Array.length_toList]
      show j < s.size
      omega
    rw [hx, List.drop_zero, List.getElem?_take_of_lt (by omega), List.getElem?_eq_getElem hl]
    rw [← hb, Nat.zero_add]
    unfold bt
    rw [List.getD, List.getElem?_eq_getElem hl]
    simp
  · rw [List.getElem?_eq_none hj, List.getElem?_eq_none]
    · rfl
    · rw [List.length_take]; exact Nat.le_trans (Nat.min_le_left _ _) (by omega)

theorem tf4_fx4 (x : Int) (h0 : 0 ≤ x) (h1 : x < 4294967296) (r : ByteArray) : tf4 (fx4 x ++ r) = x := by
  unfold tf4 fx4
  rw [bt_nums _ r 0 _ rfl (by omega) (by omega), bt_nums _ r 1 _ rfl (by omega) (by omega), bt_nums _ r 2 _ rfl (by omega) (by omega), bt_nums _ r 3 _ rfl (by omega) (by omega)]
  omega

theorem extract_behind (a r : ByteArray) : (a ++ r).extract a.size (a ++ r).size = r := by
  apply ByteArray.ext
  apply Array.toList_inj.1
  have hz : a.size = a.data.toList.length := by rw [Array.length_toList]; rfl
  rw [Lib.extract_data, ByteArray.data_append, Array.toList_append, hz, List.drop_left, ByteArray.size_append, List.take_of_length_le]
  rw [Array.length_toList]
  show r.size ≤ _
  omega

theorem extract_front (a r : ByteArray) : (a ++ r).extract 0 a.size = a := by
  apply ByteArray.ext
  apply Array.toList_inj.1
  have hz : a.size = a.data.toList.length := by rw [Array.length_toList]; rfl
  rw [Lib.extract_data, ByteArray.data_append, Array.toList_append, List.drop_zero, Nat.sub_zero, hz, List.take_left]

theorem extract_join (s : ByteArray) (k : Nat) : s.extract 0 k ++ s.extract k s.size = s := by
  apply ByteArray.ext
  apply Array.toList_inj.1
  rw [ByteArray.data_append, Array.toList_append, Lib.extract_data, Lib.extract_data, List.drop_zero, Nat.sub_zero]
  have hz : s.size = s.data.toList.length := by rw [Array.length_toList]; rfl
  rw [hz, List.take_of_length_le (l := s.data.toList.drop k) (by rw [List.length_drop]; omega)]
  exact List.take_append_drop k s.data.toList

set_option maxRecDepth 100000 in
/-- A text comes back from its bytes, whatever stands behind. -/
theorem takeText_put (t r : ByteArray) (ht : t.size ≤ 60000) : takeText (putText t ++ r) = .tuple #[.string t, .string r, .bool true] := by
  have e : putText t ++ r = pv t.size ++ (t ++ r) := by rw [putText, ByteArray.append_assoc]
  have h := take_put t.size (by omega) (by omega) (t ++ r)
  rw [← e] at h
  have hsz : (putText t ++ r).size = (pv t.size).size + (t.size + r.size) := by rw [e, ByteArray.size_append, ByteArray.size_append]
  have hno : ¬ (60000 < ((t.size : Nat) : Int) ∨ ((putText t ++ r).size : Int) < ((pv t.size).size : Int) + (t.size : Int)) := by rw [hsz]; omega
  have h1 : (putText t ++ r).extract (pv t.size).size ((pv t.size).size + t.size) = t := by
    have hx : (putText t ++ r).extract (pv t.size).size ((pv t.size).size + t.size) = ((putText t ++ r).extract 0 ((pv t.size).size + t.size)).extract (pv t.size).size ((pv t.size).size + t.size) := by
      rw [ByteArray.extract_extract]; congr 1 <;> omega
    have hf : (putText t ++ r).extract 0 ((pv t.size).size + t.size) = putText t := by
      have := extract_front (putText t) r
      rwa [putText, ByteArray.size_append] at this
    rw [hx, hf]
    have := extract_behind (pv t.size) t
    rwa [ByteArray.size_append] at this
  have h2 : (putText t ++ r).extract ((pv t.size).size + t.size) (putText t ++ r).size = r := by
    have := extract_behind (putText t) r
    rwa [show (putText t).size = (pv t.size).size + t.size by rw [putText, ByteArray.size_append]] at this
  rw [takeText, h]
  show (if 60000 < ((t.size : Nat) : Int) ∨ ((putText t ++ r).size : Int) < ((pv t.size).size : Int) + (t.size : Int) then _ else _) = _
  rw [if_neg hno, Int.toNat_natCast, h1, h2]

/-- What is taken has just the bytes that it was taken from. -/
theorem put_takeText {b v more : ByteArray} (h : takeText b = .tuple #[.string v, .string more, .bool true]) : putText v ++ more = b ∧ v.size ≤ 60000 := by
  unfold takeText at h
  split at h
  · simp at h
  · rename_i n k hv
    split at h
    · simp at h
    · rename_i hno
      simp only [Value.tuple.injEq, Array.mk.injEq, List.cons.injEq, Value.string.injEq, and_true] at h
      obtain ⟨rfl, rfl⟩ := h
      obtain ⟨n0, n1, hpv⟩ := put_take b hv
      obtain ⟨k0, k1⟩ := tva_le b 10 0 0 hv
      have hsz : (b.extract k (k + n.toNat)).size = n.toNat := by simp; omega
      refine ⟨?_, by rw [hsz]; omega⟩
      rw [putText, hsz, show ((n.toNat : Nat) : Int) = n by omega, hpv]
      have e1 : b.extract 0 k ++ b.extract k (k + n.toNat) = b.extract 0 (k + n.toNat) := by
        have hj := extract_join (b.extract 0 (k + n.toNat)) k
        have hs1 : (b.extract 0 (k + n.toNat)).size = k + n.toNat := by simp; omega
        rw [hs1, ByteArray.extract_extract, ByteArray.extract_extract] at hj
        simp only [Nat.zero_add, Nat.add_zero, Nat.min_self, Nat.min_eq_left (Nat.le_add_right k _)] at hj
        exact hj
      rw [e1]
      exact extract_join b _

end Go.Proofs.Ytplbhgcibfajaaa
