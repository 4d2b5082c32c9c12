/- BloomMay, of the program and of the model. -/
import Derived.Test.YtkopoonkedcpmacProbe
namespace Go.Proofs.Ytkopoonkedcpmac
open Go.RowKit

/-- Bit r of a byte. -/
def bitB (x : Int) (r : Nat) : Bool := x / 2 ^ r % 2 == 1
/-- Bit b of a text. -/
def bitAt (bs : ByteArray) (b : Int) : Bool := bitB (bt bs (b / 8).toNat) (b % 8).toNat

def mayB (bs user : ByteArray) (pr : Int) : Bool := (List.range pr.toNat).all fun k => bitAt bs (probeAt user k % (8 * bs.size))

theorem mayB_yes {bs user : ByteArray} {pr : Int} (h : ∀ k, k < pr.toNat → bitAt bs (probeAt user k % (8 * bs.size)) = true) : mayB bs user pr = true := by
  unfold mayB
  rw [List.all_eq_true]
  exact fun k hk => h k (List.mem_range.1 hk)
theorem mayB_no {bs user : ByteArray} {pr : Int} (k : Nat) (hk : k < pr.toNat) (h : bitAt bs (probeAt user k % (8 * bs.size)) = false) : mayB bs user pr = false := by
  rw [Bool.eq_false_iff]
  intro e
  unfold mayB at e
  rw [List.all_eq_true] at e
  rw [e k (List.mem_range.2 hk)] at h
  cases h

def bloomMayB (kd sd pr : Int) (bs user : ByteArray) : Bool := if kd = 1 ∧ filterOkB kd sd pr bs = true then mayB bs user pr else true

theorem and_one_u8 (x : Int) (h0 : 0 ≤ x) (h1 : x ≤ 255) : bits .and .u8 x 1 = x % 2 := by
  rw [u8_and x 1 h0 (by omega) (by omega) (by omega)]
  rw [show (1 : Int).toNat = 1 from rfl, Nat.and_one_is_mod]
  omega

theorem ret_boolB {a b : Bool} (h : a = b) : Ending.returned (.bool a) = .returned (.bool b) := by rw [h]

/-- What the walk needs of one probe: its byte, its bit. -/
theorem probe_parts (bs : ByteArray) (p : Int) (hs : 1 ≤ bs.size) : ∃ q r : Nat, p % (8 * bs.size) / 8 = q ∧ p % (8 * bs.size) % 8 = r ∧ q < bs.size ∧ r < 8 := by
  have h0 : 0 ≤ p % (8 * bs.size) := Int.emod_nonneg _ (by omega)
  have h1 : p % (8 * bs.size) < 8 * bs.size := Int.emod_lt_of_pos _ (by omega)
  generalize p % (8 * bs.size) = b at h0 h1
  obtain ⟨B, rfl⟩ := Int.eq_ofNat_of_zero_le h0
  exact ⟨B / 8, B % 8, by omega, by omega, by omega, by omega⟩

theorem impl_BloomMay1 (bs : ByteArray) (b : Int) (q r : Nat) (hq : b / 8 = q) (hr : b % 8 = r) (hlt : q < bs.size) (h0 : 0 ≤ b) (w : World) (g : Nat) (hc : w.cell? ⟨g, 3, none⟩ = some (.string bs)) (hs : bs.size ≤ 1000) :
    Calls Try.prog 34 #[.int .u64 b, .pointer (some ⟨g, 0, none⟩)] w fun e w' => e = .returned (.bool (bitAt bs b)) ∧ w = w' := by
  have hv : Hid (bitAt bs b = bitB (bt bs q) r) := by unfold Hid bitAt; rw [hq, hr]; rfl
  obtain ⟨x, hx⟩ : ∃ x, (((bs[q]'hlt).toNat : Nat) : Int) = x := ⟨_, rfl⟩
  have hxb := bt_bd bs q
  rw [← bt_of bs q hlt, hx] at hxb
  have hv2 : Hid (bitAt bs b = (x / 2 ^ r % 2 == 1)) := by unfold Hid; rw [hv.out, ← bt_of bs q hlt, hx]; rfl
  have hy0 : 0 ≤ x / 2 ^ r := Int.ediv_nonneg hxb.1 (Int.pow_nonneg (by omega))
  have hy1 : x / 2 ^ r ≤ 255 := Int.le_trans (Int.ediv_le_self _ hxb.1) hxb.2
  have ha := and_one_u8 (x / 2 ^ r) hy0 hy1
  have hqi : (q : Int) < (bs.size : Int) := by omega
  clear hv
  go_enter Try.func34, Try.ntmps34
  go_wp2
  go_ret
  exact ⟨ret_boolB hv2.out.symm, rfl⟩

set_option maxHeartbeats 1000000 in
theorem impl_everyProbe_may (bs user : ByteArray) (pr : Int) (hu : user.size ≤ maxLen) (hp0 : 0 ≤ pr) (hp1 : pr ≤ 30) (h1 : 1 ≤ bs.size) (h2 : bs.size ≤ 1000) (w : World) (g : Nat) (hc : w.cell? ⟨g, 3, none⟩ = some (.string bs)) :
    Calls Try.prog 29 #[.string user, .int .i64 pr, .int .i64 bs.size, .func (.func 34) #[] #[.pointer (some ⟨g, 0, none⟩)]] w fun e w' => e = .returned (.bool (mayB bs user pr)) ∧ w = w' := by
  obtain ⟨P, rfl⟩ := Int.eq_ofNat_of_zero_le hp0
  have hz := probe_zero user
  have hn3 : ((8 * (bs.size : Int)) == 0) = false := beq_eq_false_iff_ne.2 (by omega)
  have h1' : (1 : Int) ≤ (bs.size : Int) := by omega
  have h2' : (bs.size : Int) ≤ 1000 := by omega
  go_enter Try.func29, Try.ntmps29
  go_wp2_with (first
    | (go_at_call 57; refine (impl_Hash 0 user hu (by omega) (by omega) _).mono ?_; rintro e w' ⟨rfl, rfl⟩)
    | (go_at_call 58; refine (lib_RotateLeft64 _ _).mono ?_; rintro e w' ⟨rfl, rfl⟩))
  have HS := fun k => probe_succ user k
  obtain ⟨g1, hg1⟩ : ∃ g1, rot31 (hash 0 user) = g1 := ⟨_, rfl⟩
  have HS : Hid (∀ k, IntKind.u64.wrap (probeAt user k + g1) = probeAt user (k + 1)) := by rw [← hg1]; exact HS
  have HZ : Hid (probeAt user 0 = hash 0 user) := hz
  rw [hg1]
  clear hz hg1
  go_loop [9, 16] (fun h i => ∃ (k : Nat) (x : Int), h = .int .u64 x ∧ i = .int .i64 k ∧ k ≤ P ∧ Hid (x = probeAt user k) ∧ Hid (∀ i, i < k → bitAt bs (probeAt user i % (8 * bs.size)) = true)) (fun _ i => P - (intOf i).toNat)
  case atStart => exact ⟨0, _, rfl, rfl, by omega, HZ.out.symm, fun _ h => absurd h (by omega)⟩
  case round =>
    obtain ⟨k, x, rfl, rfl, hk, HX, HK⟩ := hrel
    by_cases hlt : k < P
    · obtain ⟨q, r, e1, e2, e3, e4⟩ := probe_parts bs x h1
      have hb0 : 0 ≤ x % (8 * (bs.size : Int)) := Int.emod_nonneg _ (by omega)
      have hxb := probe_bd user k
      rw [← HX.out] at hxb
      obtain ⟨hxb0, hxb1⟩ := hxb
      have HE : Hid (Calls Try.prog 34 #[.int .u64 (x % (8 * (bs.size : Int))), .pointer (some ⟨g, 0, none⟩)] w fun e w' => e = .returned (.bool (bitAt bs (x % (8 * (bs.size : Int))))) ∧ w = w') := impl_BloomMay1 bs (x % (8 * (bs.size : Int))) q r e1 e2 e3 hb0 w g hc h2
      have HX2 : Hid (IntKind.u64.wrap (x + g1) = probeAt user (k + 1)) := by rw [HX.out]; exact HS.out k
      cases hu : bitAt bs (x % (8 * bs.size)) with
      | true =>
        have HK2 : Hid (∀ i, i < k + 1 → bitAt bs (probeAt user i % (8 * bs.size)) = true) := fun i hi => by
          rcases Nat.lt_or_eq_of_le (Nat.le_of_lt_succ hi) with h | h
          · exact HK.out i h
          · subst h; rw [← HX.out]; exact hu
        clear e1 e2 hc
        go_wp2_with (go_at_call 34; refine Calls.mono (Hid.out HE) ?_; rintro e w' ⟨rfl, rfl⟩)
        go_round
        case rel => exact ⟨k + 1, _, rfl, by go_num, by omega, HX2, HK2⟩
        case measure => simp [intOf]; omega
      | false =>
        have HV : Hid (false = mayB bs user P) := (mayB_no k (by omega) (by rw [← HX.out]; exact hu)).symm
        clear e1 e2 hc
        go_wp2_with (go_at_call 34; refine Calls.mono (Hid.out HE) ?_; rintro e w' ⟨rfl, rfl⟩)
        go_ret
        exact ⟨ret_boolB HV.out, rfl⟩
    · obtain rfl : k = P := by omega
      have HV : Hid (true = mayB bs user k) := (mayB_yes fun i hi => HK.out i (by omega)).symm
      go_wp2
      go_ret
      exact ⟨ret_boolB HV.out, rfl⟩

theorem bloom_no {kd sd pr : Int} {bs user : ByteArray} (h : ¬ kd = 1) : bloomMayB kd sd pr bs user = true := by unfold bloomMayB; rw [if_neg (fun e => h e.1)]
theorem bloom_bad {kd sd pr : Int} {bs user : ByteArray} (h : filterOkB kd sd pr bs = false) : bloomMayB kd sd pr bs user = true := by unfold bloomMayB; rw [if_neg (fun e => by rw [h] at e; exact absurd e.2 (by simp))]
theorem bloom_yes {sd pr : Int} {bs user : ByteArray} (h : filterOkB 1 sd pr bs = true) : bloomMayB 1 sd pr bs user = mayB bs user pr := by unfold bloomMayB; rw [if_pos ⟨rfl, h⟩]

theorem bloomOk_bd {sd pr : Int} {bs : ByteArray} (h : filterOkB 1 sd pr bs = true) : sd = 0 ∧ 1 ≤ pr ∧ pr ≤ 30 ∧ 1 ≤ bs.size ∧ bs.size ≤ 1000 := of_decide_eq_true (p := sd = 0 ∧ 1 ≤ pr ∧ pr ≤ 30 ∧ 1 ≤ bs.size ∧ bs.size ≤ 1000) h

set_option maxHeartbeats 1000000 in
theorem impl_BloomMay (kd sd pr : Int) (bs user : ByteArray) (hb : bs.size ≤ maxLen) (hu : user.size ≤ maxLen) (w : World) :
    Calls Try.prog 15 #[.agg #[.int .i64 kd, .int .i64 sd, .int .i64 pr, .string bs], .string user] w fun e w' => e = .returned (.bool (bloomMayB kd sd pr bs user)) ∧ Below w.heap.size w w' := by
  have hB := Below.refl (w.alloc (.cells #[.int .i64 kd, .int .i64 sd, .int .i64 pr, .string bs] 25)).heap.size (w.alloc (.cells #[.int .i64 kd, .int .i64 sd, .int .i64 pr, .string bs] 25))
  by_cases k1 : kd = 1
  · subst k1
    cases ho : filterOkB 1 sd pr bs with
    | false =>
      have HV : Hid (true = bloomMayB 1 sd pr bs user) := (bloom_bad ho).symm
      go_enter Try.func15, Try.ntmps15
      go_wp2_with fail
      refine (calls_from hB (impl_FilterOk 1 sd pr bs hb _)).mono ?_
      try clear hC hF hZ
      clear hB
      rintro e w1 ⟨rfl, hB⟩
      obtain ⟨hC, hF, hZ⟩ := bfacts hB
      go_wp2
      go_ret
      exact ⟨ret_boolB HV.out, below_of_alloc hB⟩
    | true =>
      obtain ⟨rfl, p1, p2, z1, z2⟩ := bloomOk_bd ho
      have HV : Hid (mayB bs user pr = bloomMayB 1 0 pr bs user) := (bloom_yes ho).symm
      have hmf : ∀ (fn : Fn) (first cap : Array Value) (w : World), (Instr.makeFunc fn first cap).run Try.prog w = .ok (.func fn first cap) w := fun _ _ _ _ => rfl
      go_enter Try.func15, Try.ntmps15
      go_wp2_with fail
      refine (calls_from hB (impl_FilterOk 1 0 pr bs hb _)).mono ?_
      try clear hC hF hZ
      clear hB
      rintro e w1 ⟨rfl, hB⟩
      obtain ⟨hC, hF, hZ⟩ := bfacts hB
      have hc : w1.cell? ⟨w.heap.size, 3, none⟩ = some (.string bs) := by rw [hC _ _ (by simp)]; simp
      have HE : Hid (Calls Try.prog 29 #[.string user, .int .i64 pr, .int .i64 bs.size, .func (.func 34) #[] #[.pointer (some ⟨w.heap.size, 0, none⟩)]] w1 fun e w' => e = .returned (.bool (mayB bs user pr)) ∧ w1 = w') := impl_everyProbe_may bs user pr hu (by omega) p2 z1 z2 w1 w.heap.size hc
      go_wp2_with fail
      refine Calls.mono (Hid.out HE) ?_
      rintro e w' ⟨rfl, rfl⟩
      go_wp2
      go_ret
      exact ⟨ret_boolB HV.out, below_of_alloc hB⟩
  · have k2 : (kd == 1) = false := by simp [k1]
    have HV : Hid (true = bloomMayB kd sd pr bs user) := (bloom_no k1).symm
    go_enter Try.func15, Try.ntmps15
    go_wp2
    go_ret
    exact ⟨ret_boolB HV.out, below_of_alloc hB⟩

end Go.Proofs.Ytkopoonkedcpmac
