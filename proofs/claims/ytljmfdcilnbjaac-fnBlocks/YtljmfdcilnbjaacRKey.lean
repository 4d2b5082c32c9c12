/- ReadKey, of the program and of the model. -/
import Derived.Test.YtljmfdcilnbjaacKeys
import Derived.Test.YtljmfdcilnbjaacFixed
namespace Go.Proofs.Ytljmfdcilnbjaac
set_option maxRecDepth 100000
open Go.RowKit

def loOf (s : ByteArray) : Int := tf4 (s.extract (s.size - 8) s.size)
def hiOf (s : ByteArray) : Int := tf4 (s.extract (s.size - 4) s.size)
def numOf (s : ByteArray) : Int := 4294967296 * hiOf s + loOf s

def readKey (s : ByteArray) : Value :=
  if 9 ≤ s.size ∧ keyOkB (s.extract 0 (s.size - 8)) (numOf s / 2) (numOf s % 2) = true then .tuple #[.agg #[.string (s.extract 0 (s.size - 8)), .int .i64 (numOf s / 2), .int .i64 (numOf s % 2)], .bool true]
  else .tuple #[.agg #[.string ⟨#[]⟩, .int .i64 0, .int .i64 0], .bool false]

theorem readKey_no {s : ByteArray} (h : ¬ (9 ≤ s.size ∧ keyOkB (s.extract 0 (s.size - 8)) (numOf s / 2) (numOf s % 2) = true)) : readKey s = .tuple #[.agg #[.string ⟨#[]⟩, .int .i64 0, .int .i64 0], .bool false] := by rw [readKey, if_neg h]
theorem readKey_yes {s : ByteArray} (h : 9 ≤ s.size ∧ keyOkB (s.extract 0 (s.size - 8)) (numOf s / 2) (numOf s % 2) = true) : readKey s = .tuple #[.agg #[.string (s.extract 0 (s.size - 8)), .int .i64 (numOf s / 2), .int .i64 (numOf s % 2)], .bool true] := by rw [readKey, if_pos h]

theorem hi_bd (s : ByteArray) : 0 ≤ hiOf s ∧ hiOf s ≤ 4294967295 := tf4_bd _
theorem lo_bd (s : ByteArray) : 0 ≤ loOf s ∧ loOf s ≤ 4294967295 := tf4_bd _

theorem keyOk_user {u : ByteArray} {q k : Int} (h : 40 < u.size) : keyOkB u q k = false := keyOk_no (by omega)

/-- int64(high)<<32 | int64(low). -/
theorem or_i64 (h l : Int) (h0 : 0 ≤ h) (h1 : h < 1073741824) (l0 : 0 ≤ l) (l1 : l ≤ 4294967295) : bits .or .i64 (h * 4294967296) l = 4294967296 * h + l := by
  obtain ⟨H, rfl⟩ := Int.eq_ofNat_of_zero_le h0
  obtain ⟨L, rfl⟩ := Int.eq_ofNat_of_zero_le l0
  have e : ((H : Int) * 4294967296) = ((2 ^ 32 * H : Nat) : Int) := by omega
  have ho : L ||| 2 ^ 32 * H = L + 2 ^ 32 * H := or_nat L H 32 (by omega)
  rw [e]
  show IntKind.i64.wrap ((BitVec.ofInt 64 ((2 ^ 32 * H : Nat) : Int) ||| BitVec.ofInt 64 ((L : Nat) : Int)).toNat : Int) = _
  rw [BitVec.toNat_or, BitVec.ofInt_natCast, BitVec.ofInt_natCast, BitVec.toNat_ofNat, BitVec.toNat_ofNat, Nat.mod_eq_of_lt (by omega), Nat.mod_eq_of_lt (by omega), Nat.or_comm, ho, IntKind.wrap_i64]
  omega

set_option maxHeartbeats 1000000 in
theorem spec_ReadKey (s : ByteArray) (hs : s.size ≤ 1048576) (w : World) :
    Calls Try.prog 39 #[.string s] w fun e w' => e = .returned (readKey s) ∧ Below w.heap.size w w' := by
  by_cases h9 : s.size < 9
  · have HF : Hid (readKey s = _) := readKey_no (fun h => by omega)
    have h9' : (s.size : Int) < 9 := by omega
    go_enter Try.func39, Try.ntmps39
    go_wp2
    refine bodyPost_ret (v := .tuple #[.agg #[.string ⟨#[]⟩, .int .i64 0, .int .i64 0], .bool false]) (by simp [results, Try.results39, go_sem]) rfl ⟨by rw [HF.out], ?_⟩
    go_grown
  · have h9' : ¬ ((s.size : Int) < 9) := by omega
    obtain ⟨a, ha⟩ : ∃ a, s.size - 8 = a := ⟨_, rfl⟩
    have hsz : s.size = a + 8 := by omega
    have e1 : takeFixed (s.extract a s.size) = .tuple #[.int .u32 (loOf s), .string (s.extract (s.size - 4) s.size), .bool true] := by
      have hz : (s.extract a s.size).size = 8 := by simp; omega
      have hx : (s.extract a s.size).extract 4 8 = s.extract (s.size - 4) s.size := by
        rw [ByteArray.extract_extract, show a + 4 = s.size - 4 by omega, show min (a + 8) s.size = s.size by omega]
      rw [takeFixed, if_neg (by omega), loOf, ha, hz, hx]
    have e2 : takeFixed (s.extract (s.size - 4) s.size) = .tuple #[.int .u32 (hiOf s), .string ((s.extract (s.size - 4) s.size).extract 4 (s.extract (s.size - 4) s.size).size), .bool true] := by
      have hz : (s.extract (s.size - 4) s.size).size = 4 := by simp; omega
      rw [takeFixed, if_neg (by omega), hiOf]
    have hsx : (s.size : Int) - 8 = (a : Int) := by omega
    have hsl : (a : Int) ≤ (s.size : Int) := by omega
    obtain ⟨p0, p1⟩ := hi_bd s
    obtain ⟨q0, q1⟩ := lo_bd s
    generalize (s.extract (s.size - 4) s.size).extract 4 (s.extract (s.size - 4) s.size).size = r2 at e2
    have HB0 := Below.refl (w.alloc (.cells #[.string ⟨#[]⟩, .int .i64 0, .int .i64 0] 34)).heap.size (w.alloc (.cells #[.string ⟨#[]⟩, .int .i64 0, .int .i64 0] 34))
    have hB := HB0
    have HZ : Hid (s.size = a + 8) := hsz
    have HA : Hid (s.size - 8 = a) := ha
    clear HB0 hsz ha h9
    by_cases hbig : 1073741824 ≤ hiOf s
    · have HF : Hid (readKey s = _) := readKey_no (fun h => by
        have := keyOk_iff.1 h.2
        unfold numOf at this
        omega)
      go_enter Try.func39, Try.ntmps39
      go_wp2_with fail
      refine (calls_from hB (spec_TakeFixed (s.extract a s.size) _)).mono ?_
      try clear hC hF hZ
      clear hB
      rintro e w1 ⟨rfl, hB⟩
      obtain ⟨hC, hF, hZ⟩ := bfacts hB
      go_wp2_with fail
      refine (calls_from hB (spec_TakeFixed (s.extract (s.size - 4) s.size) _)).mono ?_
      try clear hC hF hZ
      clear hB
      rintro e w1 ⟨rfl, hB⟩
      obtain ⟨hC, hF, hZ⟩ := bfacts hB
      go_wp2
      refine bodyPost_ret (v := .tuple #[.agg #[.string ⟨#[]⟩, .int .i64 0, .int .i64 0], .bool false]) (by simp [results, Try.results39, go_sem, hC]) rfl ⟨by rw [HF.out], ?_⟩
      exact (((below_of_alloc hB).setCell (Nat.le_refl _) _).setCell (Nat.le_refl _) _).setCell (Nat.le_refl _) _
    · have hor := or_i64 (hiOf s) (loOf s) p0 (by omega) q0 q1
      have hn0 : 0 ≤ numOf s ∧ numOf s ≤ 4611686018427387903 := by unfold numOf; omega
      have hnum : 4294967296 * hiOf s + loOf s = numOf s := rfl
      rw [hnum] at hor
      obtain ⟨m0, m1⟩ := hn0
      have hbig' : hiOf s < 1073741824 := by omega
      clear hbig hnum p1
      cases hk : keyOkB (s.extract 0 a) (numOf s / 2) (numOf s % 2) with
      | false =>
        have HF : Hid (readKey s = .tuple #[.agg #[.string ⟨#[]⟩, .int .i64 0, .int .i64 0], .bool false]) := readKey_no (fun h => by rw [HA.out, hk] at h; exact absurd h.2 (by simp))
        generalize numOf s = n at hor hk m0 m1
        generalize hiOf s = hi at hor e2 p0 hbig'
        generalize loOf s = lo at hor e1 q0 q1
        go_enter Try.func39, Try.ntmps39
        go_wp2_with fail
        refine (calls_from hB (spec_TakeFixed (s.extract a s.size) _)).mono ?_
        try clear hC hF hZ
        clear hB
        rintro e w1 ⟨rfl, hB⟩
        obtain ⟨hC, hF, hZ⟩ := bfacts hB
        go_wp2_with fail
        refine (calls_from hB (spec_TakeFixed (s.extract (s.size - 4) s.size) _)).mono ?_
        try clear hC hF hZ
        clear hB
        rintro e w1 ⟨rfl, hB⟩
        obtain ⟨hC, hF, hZ⟩ := bfacts hB
        have hz1 : w.heap.size < w1.heap.size := by simp at hZ; omega
        go_wp2_with fail
        refine (spec_KeyOk _ _ _ _).mono ?_
        rintro e w2 ⟨rfl, hK⟩
        have hB2 := below_of_alloc ((hB.alloc hZ _).trans (hK.mono (by simp at hZ ⊢; omega)))
        obtain ⟨hC2, hF2, hZ2⟩ := bfacts hK
        have d0 : w2.cell? ⟨w.heap.size, 0, none⟩ = some (.string ⟨#[]⟩) := by rw [hC2 _ _ (by simp; omega), World.cell?_alloc_past _ _ _ hz1, hC _ _ (by simp)]; simp
        have d1 : w2.cell? ⟨w.heap.size, 1, none⟩ = some (.int .i64 0) := by rw [hC2 _ _ (by simp; omega), World.cell?_alloc_past _ _ _ hz1, hC _ _ (by simp)]; simp
        have d2 : w2.cell? ⟨w.heap.size, 2, none⟩ = some (.int .i64 0) := by rw [hC2 _ _ (by simp; omega), World.cell?_alloc_past _ _ _ hz1, hC _ _ (by simp)]; simp
        go_wp2
        refine bodyPost_ret (v := .tuple #[.agg #[.string ⟨#[]⟩, .int .i64 0, .int .i64 0], .bool false]) (by simp [results, Try.results39, go_sem, d0, d1, d2]) rfl ⟨by rw [HF.out], ?_⟩
        exact ((hB2.setCell (Nat.le_refl _) _).setCell (Nat.le_refl _) _).setCell (Nat.le_refl _) _
      | true =>
        have HF : Hid (readKey s = .tuple #[.agg #[.string (s.extract 0 a), .int .i64 (numOf s / 2), .int .i64 (numOf s % 2)], .bool true]) := by
          have := readKey_yes (s := s) ⟨by have := HZ.out; omega, by rw [HA.out]; exact hk⟩
          rw [HA.out] at this
          exact this
        generalize numOf s = n at hor hk m0 m1 HF
        generalize hiOf s = hi at hor e2 p0 hbig'
        generalize loOf s = lo at hor e1 q0 q1
        go_enter Try.func39, Try.ntmps39
        go_wp2_with fail
        refine (calls_from hB (spec_TakeFixed (s.extract a s.size) _)).mono ?_
        try clear hC hF hZ
        clear hB
        rintro e w1 ⟨rfl, hB⟩
        obtain ⟨hC, hF, hZ⟩ := bfacts hB
        go_wp2_with fail
        refine (calls_from hB (spec_TakeFixed (s.extract (s.size - 4) s.size) _)).mono ?_
        try clear hC hF hZ
        clear hB
        rintro e w1 ⟨rfl, hB⟩
        obtain ⟨hC, hF, hZ⟩ := bfacts hB
        have hz1 : w.heap.size < w1.heap.size := by simp at hZ; omega
        go_wp2_with fail
        refine (spec_KeyOk _ _ _ _).mono ?_
        rintro e w2 ⟨rfl, hK⟩
        have hB2 := below_of_alloc ((hB.alloc hZ _).trans (hK.mono (by simp at hZ ⊢; omega)))
        obtain ⟨hC2, hF2, hZ2⟩ := bfacts hK
        have d0 : w2.cell? ⟨w.heap.size, 0, none⟩ = some (.string ⟨#[]⟩) := by rw [hC2 _ _ (by simp; omega), World.cell?_alloc_past _ _ _ hz1, hC _ _ (by simp)]; simp
        have d1 : w2.cell? ⟨w.heap.size, 1, none⟩ = some (.int .i64 0) := by rw [hC2 _ _ (by simp; omega), World.cell?_alloc_past _ _ _ hz1, hC _ _ (by simp)]; simp
        have d2 : w2.cell? ⟨w.heap.size, 2, none⟩ = some (.int .i64 0) := by rw [hC2 _ _ (by simp; omega), World.cell?_alloc_past _ _ _ hz1, hC _ _ (by simp)]; simp
        go_wp2
        refine bodyPost_ret (v := .tuple #[.agg #[.string (s.extract 0 a), .int .i64 (n / 2), .int .i64 (n % 2)], .bool true]) (by simp [results, Try.results39, go_sem, d0, d1, d2]) rfl ⟨by rw [HF.out], ?_⟩
        exact ((hB2.setCell (Nat.le_refl _) _).setCell (Nat.le_refl _) _).setCell (Nat.le_refl _) _

/-- uint64(high)<<32 | uint64(low). -/
theorem or_u64_hi (h l : Int) (h0 : 0 ≤ h) (h1 : h ≤ 4294967295) (l0 : 0 ≤ l) (l1 : l ≤ 4294967295) : bits .or .u64 (h * 4294967296) l = 4294967296 * h + l := by
  obtain ⟨H, rfl⟩ := Int.eq_ofNat_of_zero_le h0
  obtain ⟨L, rfl⟩ := Int.eq_ofNat_of_zero_le l0
  have e : ((H : Int) * 4294967296) = ((2 ^ 32 * H : Nat) : Int) := by omega
  have ho : L ||| 2 ^ 32 * H = L + 2 ^ 32 * H := or_nat L H 32 (by omega)
  rw [e, u64_or_nat (2 ^ 32 * H) L (by omega) (by omega), Nat.or_comm, ho]
  omega

set_option maxHeartbeats 1000000 in
theorem impl_ReadKey (s : ByteArray) (hs : s.size ≤ 1048576) (w : World) :
    Calls Try.prog 65 #[.string s] w fun e w' => e = .returned (readKey s) ∧ Below w.heap.size w w' := by
  by_cases h9 : s.size < 9 ∨ 48 < s.size
  · have HF : Hid (readKey s = .tuple #[.agg #[.string ⟨#[]⟩, .int .i64 0, .int .i64 0], .bool false]) := readKey_no (fun h => by
      have := keyOk_iff.1 h.2
      simp at this
      omega)
    rcases h9 with h9 | h9
    · have h9' : (s.size : Int) - 8 < 1 := by omega
      clear h9
      go_enter Try.func65, Try.ntmps65
      go_wp2
      refine bodyPost_ret (v := .tuple #[.agg #[.string ⟨#[]⟩, .int .i64 0, .int .i64 0], .bool false]) (by simp [results, Try.results65, go_sem]) rfl ⟨by rw [HF.out], ?_⟩
      go_grown
    · have h9' : ¬ ((s.size : Int) - 8 < 1) := by omega
      have h10 : 40 < (s.size : Int) - 8 := by omega
      clear h9
      go_enter Try.func65, Try.ntmps65
      go_wp2
      refine bodyPost_ret (v := .tuple #[.agg #[.string ⟨#[]⟩, .int .i64 0, .int .i64 0], .bool false]) (by simp [results, Try.results65, go_sem]) rfl ⟨by rw [HF.out], ?_⟩
      go_grown
  · obtain ⟨a, ha⟩ : ∃ a, s.size - 8 = a := ⟨_, rfl⟩
    have hsz : s.size = a + 8 := by omega
    have ha1 : ¬ ((a : Int) < 1) := by omega
    have ha2 : ¬ (40 < (a : Int)) := by omega
    have z1 : 4 ≤ (s.extract a s.size).size := by simp; omega
    have z2 : 4 ≤ (s.extract (a + 4) s.size).size := by simp; omega
    have e1 : tf4 (s.extract a s.size) = loOf s := by rw [loOf, ha]
    have e2 : tf4 (s.extract (a + 4) s.size) = hiOf s := by rw [hiOf, show s.size - 4 = a + 4 by omega]
    have hsx : (s.size : Int) - 8 = (a : Int) := by omega
    have hsl : (a : Int) ≤ (s.size : Int) := by omega
    have hsl4 : (a : Int) + 4 ≤ (s.size : Int) := by omega
    obtain ⟨p0, p1⟩ := hi_bd s
    obtain ⟨q0, q1⟩ := lo_bd s
    have HB0 := Below.refl (w.alloc (.cells #[.string ⟨#[]⟩, .int .i64 0, .int .i64 0] 34)).heap.size (w.alloc (.cells #[.string ⟨#[]⟩, .int .i64 0, .int .i64 0] 34))
    have hB := HB0
    have HZ : Hid (s.size = a + 8) := hsz
    have HA : Hid (s.size - 8 = a) := ha
    have hor := or_u64_hi (hiOf s) (loOf s) p0 p1 q0 q1
    have hn0 : 0 ≤ numOf s ∧ numOf s ≤ 18446744073709551615 := by unfold numOf; omega
    have hnum : 4294967296 * hiOf s + loOf s = numOf s := rfl
    rw [hnum] at hor
    have hand := and_one_u64 (numOf s) hn0.1 hn0.2
    obtain ⟨m0, m1⟩ := hn0
    have m2 : numOf s / 2 ≤ 9223372036854775807 := by omega
    clear HB0 hsz ha h9 hnum m1
    cases hk : keyOkB (s.extract 0 a) (numOf s / 2) (numOf s % 2) with
    | false =>
      have HF : Hid (readKey s = .tuple #[.agg #[.string ⟨#[]⟩, .int .i64 0, .int .i64 0], .bool false]) := readKey_no (fun h => by rw [HA.out, hk] at h; exact absurd h.2 (by simp))
      generalize numOf s = n at hor hk m0 m2 hand
      generalize hiOf s = hi at hor e2 p0 p1
      generalize loOf s = lo at hor e1 q0 q1
      go_enter Try.func65, Try.ntmps65
      go_wp2_with fail
      refine (calls_from hB (impl_fixedAt_yes (s.extract a s.size) z1 _)).mono ?_
      try clear hC hF hZ
      clear hB
      rintro e w1 ⟨rfl, hB⟩
      obtain ⟨hC, hF, hZ⟩ := bfacts hB
      go_wp2_with fail
      refine (calls_from hB (impl_fixedAt_yes (s.extract (a + 4) s.size) z2 _)).mono ?_
      try clear hC hF hZ
      clear hB
      rintro e w1 ⟨rfl, hB⟩
      obtain ⟨hC, hF, hZ⟩ := bfacts hB
      go_wp2_with fail
      refine (calls_from hB (strings_Clone _ _ (by simp; omega))).mono ?_
      clear hC hF hZ hB
      rintro e w1 ⟨rfl, hB⟩
      obtain ⟨hC, hF, hZ⟩ := bfacts hB
      have hz1 : w.heap.size < w1.heap.size := by simp at hZ; omega
      go_wp2_with fail
      refine (impl_KeyOk _ _ _ _).mono ?_
      rintro e w2 ⟨rfl, hK⟩
      have hB2 := below_of_alloc ((hB.alloc hZ _).trans (hK.mono (by simp at hZ ⊢; omega)))
      obtain ⟨hC2, hF2, hZ2⟩ := bfacts hK
      have d0 : w2.cell? ⟨w.heap.size, 0, none⟩ = some (.string ⟨#[]⟩) := by rw [hC2 _ _ (by simp; omega), World.cell?_alloc_past _ _ _ hz1, hC _ _ (by simp)]; simp
      have d1 : w2.cell? ⟨w.heap.size, 1, none⟩ = some (.int .i64 0) := by rw [hC2 _ _ (by simp; omega), World.cell?_alloc_past _ _ _ hz1, hC _ _ (by simp)]; simp
      have d2 : w2.cell? ⟨w.heap.size, 2, none⟩ = some (.int .i64 0) := by rw [hC2 _ _ (by simp; omega), World.cell?_alloc_past _ _ _ hz1, hC _ _ (by simp)]; simp
      go_wp2
      refine bodyPost_ret (v := .tuple #[.agg #[.string ⟨#[]⟩, .int .i64 0, .int .i64 0], .bool false]) (by simp [results, Try.results65, go_sem, d0, d1, d2]) rfl ⟨by rw [HF.out], ?_⟩
      exact ((hB2.setCell (Nat.le_refl _) _).setCell (Nat.le_refl _) _).setCell (Nat.le_refl _) _
    | true =>
      have HF : Hid (readKey s = .tuple #[.agg #[.string (s.extract 0 a), .int .i64 (numOf s / 2), .int .i64 (numOf s % 2)], .bool true]) := by
        have := readKey_yes (s := s) ⟨by have := HZ.out; omega, by rw [HA.out]; exact hk⟩
        rw [HA.out] at this
        exact this
      generalize numOf s = n at hor hk m0 m2 hand HF
      generalize hiOf s = hi at hor e2 p0 p1
      generalize loOf s = lo at hor e1 q0 q1
      go_enter Try.func65, Try.ntmps65
      go_wp2_with fail
      refine (calls_from hB (impl_fixedAt_yes (s.extract a s.size) z1 _)).mono ?_
      try clear hC hF hZ
      clear hB
      rintro e w1 ⟨rfl, hB⟩
      obtain ⟨hC, hF, hZ⟩ := bfacts hB
      go_wp2_with fail
      refine (calls_from hB (impl_fixedAt_yes (s.extract (a + 4) s.size) z2 _)).mono ?_
      try clear hC hF hZ
      clear hB
      rintro e w1 ⟨rfl, hB⟩
      obtain ⟨hC, hF, hZ⟩ := bfacts hB
      go_wp2_with fail
      refine (calls_from hB (strings_Clone _ _ (by simp; omega))).mono ?_
      clear hC hF hZ hB
      rintro e w1 ⟨rfl, hB⟩
      obtain ⟨hC, hF, hZ⟩ := bfacts hB
      have hz1 : w.heap.size < w1.heap.size := by simp at hZ; omega
      go_wp2_with fail
      refine (impl_KeyOk _ _ _ _).mono ?_
      rintro e w2 ⟨rfl, hK⟩
      have hB2 := below_of_alloc ((hB.alloc hZ _).trans (hK.mono (by simp at hZ ⊢; omega)))
      obtain ⟨hC2, hF2, hZ2⟩ := bfacts hK
      have d0 : w2.cell? ⟨w.heap.size, 0, none⟩ = some (.string ⟨#[]⟩) := by rw [hC2 _ _ (by simp; omega), World.cell?_alloc_past _ _ _ hz1, hC _ _ (by simp)]; simp
      have d1 : w2.cell? ⟨w.heap.size, 1, none⟩ = some (.int .i64 0) := by rw [hC2 _ _ (by simp; omega), World.cell?_alloc_past _ _ _ hz1, hC _ _ (by simp)]; simp
      have d2 : w2.cell? ⟨w.heap.size, 2, none⟩ = some (.int .i64 0) := by rw [hC2 _ _ (by simp; omega), World.cell?_alloc_past _ _ _ hz1, hC _ _ (by simp)]; simp
      go_wp2
      refine bodyPost_ret (v := .tuple #[.agg #[.string (s.extract 0 a), .int .i64 (n / 2), .int .i64 (n % 2)], .bool true]) (by simp [results, Try.results65, go_sem, d0, d1, d2]) rfl ⟨by rw [HF.out], ?_⟩
      exact ((hB2.setCell (Nat.le_refl _) _).setCell (Nat.le_refl _) _).setCell (Nat.le_refl _) _

end Go.Proofs.Ytljmfdcilnbjaac
