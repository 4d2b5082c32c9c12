/- The law FnVars. -/
import Derived.Test.YtmaajplngppkeacLFnFixed
namespace Go.Proofs.Ytmaajplngppkeac
open Go.RowKit

/-- The texts that are drawn besides. -/
def texts6 : Array Value := #[.string ⟨#[]⟩, .string ⟨#[128]⟩, .string ⟨#[128, 0]⟩, .string ⟨#[255, 255, 255, 255, 255, 255, 255, 255, 255, 2]⟩, .string ⟨#[255, 255, 255, 255, 255, 255, 255, 255, 255, 1]⟩, .string ⟨#[129, 128, 0]⟩]

theorem texts6_at (k : Nat) (h : k < 6) : ∃ s : ByteArray, texts6[k]? = some (.string s) ∧ s.size ≤ 10 := by
  have : k = 0 ∨ k = 1 ∨ k = 2 ∨ k = 3 ∨ k = 4 ∨ k = 5 := by omega
  rcases this with rfl | rfl | rfl | rfl | rfl | rfl <;> exact ⟨_, rfl, by decide⟩

set_option maxHeartbeats 1000000 in
theorem draw_TakeVar (W w : World) (a : Option Addr) (len cap : Nat) (hc : IsCode W a len) (hl : len ≤ 1048576) (hb : Below W.heap.size W w) :
    Calls Try.prog 14 #[.slice a len cap] w fun e w' => ∃ s : ByteArray, e = .returned (.string s) ∧ s.size ≤ 1000 ∧ Below w.heap.size w w' := by
  go_enter Try.func14, Try.ntmps14
  go_wp2_with fail
  refine (open_rd _ a len cap W hb).mono ?_
  rintro e w1 ⟨rfl, hr, hb1⟩
  go_wp2_with fail
  refine (rd_number W _ _ a len cap hc hl hr).mono ?_
  rintro e w3 ⟨n, rfl, hn0, hn1, hr3, hm3⟩
  have hb3 := hb1.trans (hm3.below hb1.size (Nat.le_refl _))
  have hp := pv_size n
  go_wp2_with fail
  refine (spec_PutVar n hn0 (by omega) _).mono ?_
  rintro e w4 ⟨rfl, hb4⟩
  have hr4 := hr3.mv hb4
  have hb4' := hb3.trans (hb4.mono hb3.size)
  go_wp2_with fail
  refine (rd_bytes W _ _ a len cap 2 (by omega) (by omega) hc hl hr4).mono ?_
  rintro e w5 ⟨t, rfl, ht, hr5, hm5⟩
  have hb5 := hb4'.trans (hm5.below hb4'.size (Nat.le_refl _))
  go_wp2_with fail
  refine (rd_below W _ _ a len cap 5 (by omega) (by omega) hc hl hr5).mono ?_
  rintro e w6 ⟨x, rfl, hx0, hx1, hr6, hm6⟩
  have hb6 := hb5.trans (hm6.below hb5.size (Nat.le_refl _))
  have hz6 := hb6.size
  clear hr hb1 hr3 hm3 hb3 hb4 hr4 hb4' hr5 hm5 hb5 hm6
  have : x = 0 ∨ x = 1 ∨ x = 2 ∨ x = 3 ∨ x = 4 := by omega
  rcases this with rfl | rfl | h3
  · go_wp2_with fail
    refine (rd_bytes W _ _ a len cap 12 (by omega) (by omega) hc hl hr6).mono ?_
    rintro e w7 ⟨s, rfl, hs, hr7, hm7⟩
    have hb7 := hb6.trans (hm7.below hz6 (Nat.le_refl _))
    clear hr6 hr7 hm7 hb6 hc
    go_wp2
    go_ret
    exact ⟨s, rfl, by omega, hb7⟩
  · go_wp2_with fail
    have hg := hr6.lt
    refine (rd_below W _ _ a len cap 6 (by omega) (by omega) hc hl (hr6.keep ((Below.refl _ _).alloc (Nat.le_refl _) _) hr6.lt)).mono ?_
    rintro e w7 ⟨y, rfl, hy0, hy1, hr7, hm7⟩
    obtain ⟨k, rfl⟩ := Int.eq_ofNat_of_zero_le hy0
    obtain ⟨s, hs, hs6⟩ := texts6_at k (by omega)
    have hcell := pick_cell hm7 hg k hs
    have HM : Hid _ := hb6.trans ((mv_alloc hm7).below hz6 (Nat.le_refl _))
    clear hr6 hr7 hm7 hs hb6 hc
    go_wp2
    go_ret
    exact ⟨s, rfl, by omega, HM⟩
  · have g0 : (x == 0) = false := by simp; omega
    have g1 : (x == 1) = false := by simp; omega
    clear h3 hr6 hc
    go_wp2
    go_ret
    exact ⟨_, rfl, by rw [ByteArray.size_append]; omega, hb6⟩

theorem pvs_half : ∀ (f : Nat) (n : Int), 0 ≤ n → (pvs f (n / 2)).length ≤ (pvs f n).length
  | 0, _, _ => by simp [pvs]
  | f + 1, n, h0 => by
    by_cases h : n / 2 < 128
    · rw [pvs_lt _ _ h]
      exact (pvs_len _ _).1
    · rw [pvs_ge _ _ h, pvs_ge _ _ (by omega)]
      have e : n / 2 / 128 = n / 128 / 2 := by omega
      rw [e]
      have := pvs_half f (n / 128) (by omega)
      simpa using this

theorem takeVar_put (n : Int) (h0 : 0 ≤ n) (h1 : n < 18446744073709551616) (r : ByteArray) : takeVar (pv n ++ r) = .tuple #[.int .u64 n, .string r, .bool true] := by
  rw [takeVar, take_put n h0 h1 r]
  show Value.tuple #[.int .u64 n, .string ((pv n ++ r).extract (pv n).size (pv n ++ r).size), .bool true] = _
  rw [extract_behind]

theorem put_takeVar {b left : ByteArray} {x : Int} (h : takeVar b = .tuple #[.int .u64 x, .string left, .bool true]) : 0 ≤ x ∧ x < 18446744073709551616 ∧ pv x ++ left = b := by
  unfold takeVar at h
  split at h
  · simp at h
  · rename_i n k hv
    simp only [Value.tuple.injEq, Array.mk.injEq, List.cons.injEq, Value.int.injEq, Value.string.injEq, and_true, true_and] at h
    obtain ⟨rfl, rfl⟩ := h
    obtain ⟨n0, n1, hpv⟩ := put_take b hv
    exact ⟨n0, n1, by rw [hpv]; exact extract_join b k⟩

theorem takeVar_parts (s : ByteArray) : ∃ n r b, takeVar s = .tuple #[.int .u64 n, .string r, .bool b] := by
  unfold takeVar
  split <;> exact ⟨_, _, _, rfl⟩

set_option maxHeartbeats 2000000 in
set_option maxRecDepth 100000 in
theorem walk_FnVars (v : Value) {w : World} (hv : IsBytes w v) (_w : World) :
    Calls Try.prog 3 #[v] w fun e w' => e = .returned (.bool true) ∧ Below w.heap.size w w' := by
  obtain ⟨a, len, cap, rfl, hc, hm⟩ := hv
  by_cases hbig : 1048576 < len
  · have hd : decide (1048576 < len) = true := by simp [hbig]
    go_enter Try.func3, Try.ntmps3
    go_wp2_with fail
    refine (laws_big a len cap hm _).mono ?_
    rintro e w1 ⟨rfl, rfl⟩
    go_wp2
    go_ret
    exact ⟨rfl, Below.refl _ _⟩
  · have hd : decide (1048576 < len) = false := by simp [hbig]
    have hl : len ≤ 1048576 := by omega
    go_enter Try.func3, Try.ntmps3
    go_wp2_with fail
    refine (laws_big a len cap hm _).mono ?_
    rintro e w1 ⟨rfl, rfl⟩
    go_wp2_with fail
    refine (draw_PutVar w _ a len cap hc hl (Below.refl _ _)).mono ?_
    rintro e w1 ⟨x, rfl, hx0, hx1, hB⟩
    have e1 := takeVar_put x hx0 (by omega)
    have hp := pv_size x
    go_wp2_with fail
    refine (calls_from hB (impl_PutVar x hx0 (by omega) _)).mono ?_
    clear hB
    rintro e w2 ⟨rfl, hB⟩
    go_wp2_with fail
    refine (calls_from hB (impl_TakeVar _ ?hs5 _)).mono ?_
    case hs5 =>
      rw [ByteArray.size_append]
      show (pv x).size + 3 ≤ 1048576
      omega
    clear hB
    rintro e w3 ⟨rfl, hB⟩
    go_wp2_with fail
    refine (calls_from hB (spec_PutVar x hx0 (by omega) _)).mono ?_
    clear hB
    rintro e w4 ⟨rfl, hB⟩
    clear e1
    have hlen : (pv (x / 2)).size ≤ (pv x).size := by
      unfold pv
      rw [strOfNums_size, strOfNums_size]
      exact pvs_half 9 x hx0
    have hlen' : ¬ (((pv x).size : Int) < ((pv (x / 2)).size : Int)) := by omega
    go_wp2_with fail
    refine (calls_from hB (impl_PutVar (x / 2) (by omega) (by omega) _)).mono ?_
    clear hB
    rintro e w5 ⟨rfl, hB⟩
    go_wp2_with fail
    refine (draw_TakeVar w _ a len cap hc hl hB).mono ?_
    rintro e w8 ⟨b, rfl, hb, hB8⟩
    have hB := hB.trans (hB8.mono hB.size)
    clear hB8 hlen hlen' hp
    obtain ⟨n, more, good, hv'⟩ := takeVar_parts b
    go_wp2_with fail
    refine (calls_from hB (impl_TakeVar b (by omega) _)).mono ?_
    clear hB
    rintro e w9 ⟨rfl, hB⟩
    go_wp2_with fail
    refine (calls_from hB (spec_TakeVar b (by unfold maxLen; omega) _)).mono ?_
    clear hB
    rintro e w10 ⟨rfl, hB⟩
    cases good
    · go_wp2
      go_ret
      exact ⟨rfl, hB⟩
    · obtain ⟨n0, n1, hj⟩ := put_takeVar hv'
      have hp2 := pv_size n
      go_wp2_with fail
      refine (calls_from hB (impl_PutVar n n0 n1 _)).mono ?_
      clear hB
      rintro e w11 ⟨rfl, hB⟩
      have hms : more.size ≤ 1000 := by have := congrArg ByteArray.size hj; rw [ByteArray.size_append] at this; omega
      clear hv'
      go_wp2
      go_ret
      exact ⟨rfl, hB⟩

end Go.Proofs.Ytmaajplngppkeac
