/- What the laws of chapter 2 draw: users, numbers near a range. -/
import Derived.Test.YtjcoejabpagaiaaDraw
namespace Go.Proofs.Ytjcoejabpagaiaa
set_option maxRecDepth 100000
open Go.RowKit

/-- The users that one is drawn from. -/
def users10 : Array Value := #[.string ⟨#[97]⟩, .string ⟨#[98]⟩, .string ⟨#[97, 98]⟩, .string ⟨#[97, 98, 99]⟩, .string ⟨#[97, 98, 100]⟩, .string ⟨#[107, 101, 121]⟩, .string ⟨#[107, 101, 121, 49]⟩, .string ⟨#[107, 101, 121, 50]⟩, .string ⟨#[122, 122]⟩, .string ⟨#[97, 0]⟩]

theorem users10_at (k : Nat) (h : k < 10) : ∃ s : ByteArray, users10[k]? = some (.string s) ∧ s.size ≤ 4 := by
  have : k = 0 ∨ k = 1 ∨ k = 2 ∨ k = 3 ∨ k = 4 ∨ k = 5 ∨ k = 6 ∨ k = 7 ∨ k = 8 ∨ k = 9 := by omega
  rcases this with rfl | rfl | rfl | rfl | rfl | rfl | rfl | rfl | rfl | rfl <;> exact ⟨_, rfl, by decide⟩

theorem rd_user (W w : World) (g : Nat) (a : Option Addr) (len cap : Nat) (hc : IsCode W a len) (hl : len ≤ 1048576) (h : Rd W w g a len cap) :
    Calls Try.prog 56 #[.pointer (some ⟨g, 0, none⟩)] w fun e w' => ∃ s : ByteArray, e = .returned (.string s) ∧ s.size ≤ 4 ∧ Rd W w' g a len cap ∧ Mv g w w' := by
  have hg := h.lt
  go_enter Try.func56, Try.ntmps56
  go_wp2_with fail
  refine (rd_below W _ g a len cap 10 (by omega) (by omega) hc hl (h.keep ((Below.refl _ _).alloc (Nat.le_refl _) _) h.lt)).mono ?_
  rintro e w1 ⟨x, rfl, hx0, hx1, hr, hm⟩
  obtain ⟨k, rfl⟩ := Int.eq_ofNat_of_zero_le hx0
  obtain ⟨s, hs, hs4⟩ := users10_at k (by omega)
  have hcell := pick_cell hm hg k hs
  have HM := mv_alloc hm
  have H1 : Hid _ := hr
  have H2 : Hid _ := HM
  clear hr HM hm hs h hc
  go_wp2
  go_ret
  exact ⟨s, rfl, hs4, H1, H2⟩

set_option maxHeartbeats 1000000 in
theorem rd_near (W w : World) (g : Nat) (a : Option Addr) (len cap : Nat) (low high : Int) (hlo : -1000000 ≤ low) (hlh : low ≤ high) (hhi : high ≤ 1000000000000) (hc : IsCode W a len) (hl : len ≤ 1048576) (h : Rd W w g a len cap) :
    Calls Try.prog 40 #[.pointer (some ⟨g, 0, none⟩), .int .i64 low, .int .i64 high] w fun e w' => ∃ x : Int, e = .returned (.int .i64 x) ∧ low ≤ x ∧ x ≤ high ∧ Rd W w' g a len cap ∧ Mv g w w' := by
  go_enter Try.func40, Try.ntmps40
  go_wp2_with fail
  refine (rd_below W _ g a len cap 8 (by omega) (by omega) hc hl h).mono ?_
  rintro e w1 ⟨x, rfl, hx0, hx1, hr, hm⟩
  clear h
  have : x = 0 ∨ x = 1 ∨ 2 ≤ x := by omega
  rcases this with rfl | rfl | h3
  · have HR : Hid _ := hr
    have HM : Hid _ := hm
    clear hr hm hc
    go_wp2
    go_ret
    exact ⟨low, rfl, by omega, by omega, HR, HM⟩
  · have HR : Hid _ := hr
    have HM : Hid _ := hm
    clear hr hm hc
    go_wp2
    go_ret
    exact ⟨high, rfl, by omega, by omega, HR, HM⟩
  · have g0 : (x == 0) = false := by simp; omega
    have g1 : (x == 1) = false := by simp; omega
    have g2 : ¬ (high < low) := by omega
    clear h3
    go_wp2_with fail
    refine (rd_word W _ g a len cap hc hl hr).mono ?_
    rintro e w2 ⟨y, rfl, hy0, hy1, hr2, hm2⟩
    have HM : Hid _ := hm.trans hm2
    have HR : Hid _ := hr2
    have hb0 : 0 ≤ y / 2 % (high - low + 1) := Int.emod_nonneg _ (by omega)
    have hb1 : y / 2 % (high - low + 1) < high - low + 1 := Int.emod_lt_of_pos _ (by omega)
    clear hr hm hr2 hm2 hc
    go_wp2
    go_ret
    exact ⟨_, rfl, by omega, by omega, HR, HM⟩

set_option maxHeartbeats 1000000 in
theorem rd_off (W w : World) (g : Nat) (a : Option Addr) (len cap : Nat) (low high : Int) (hlo : -1000 ≤ low) (hlh : low ≤ high) (hhi : high ≤ 1000000000000) (hc : IsCode W a len) (hl : len ≤ 1048576) (h : Rd W w g a len cap) :
    Calls Try.prog 28 #[.pointer (some ⟨g, 0, none⟩), .int .i64 low, .int .i64 high] w fun e w' => ∃ x : Int, e = .returned (.int .i64 x) ∧ -9223372036854775808 ≤ x ∧ x ≤ 9223372036854775807 ∧ Rd W w' g a len cap ∧ Mv g w w' := by
  go_enter Try.func28, Try.ntmps28
  go_wp2_with fail
  refine (rd_once W _ g a len cap 24 (by omega) (by omega) hc hl h).mono ?_
  rintro e w1 ⟨o, rfl, hr, hm⟩
  clear h
  cases o
  · go_wp2_with fail
    refine (rd_near W _ g a len cap low high (by omega) hlh hhi hc hl hr).mono ?_
    rintro e w2 ⟨y, rfl, hy0, hy1, hr2, hm2⟩
    have HM : Hid _ := hm.trans hm2
    have HR : Hid _ := hr2
    clear hr hm hr2 hm2 hc
    go_wp2
    go_ret
    exact ⟨y, rfl, by omega, by omega, HR, HM⟩
  · go_wp2_with fail
    have hg := hr.lt
    refine (rd_below W _ g a len cap 4 (by omega) (by omega) hc hl (hr.keep ((Below.refl _ _).alloc (Nat.le_refl _) _) hr.lt)).mono ?_
    rintro e w2 ⟨y, rfl, hy0, hy1, hr2, hm2⟩
    obtain ⟨k, rfl⟩ := Int.eq_ofNat_of_zero_le hy0
    have hk : k = 0 ∨ k = 1 ∨ k = 2 ∨ k = 3 := by omega
    have HM : Hid _ := hm.trans (mv_alloc hm2)
    have HR : Hid _ := hr2
    rcases hk with rfl | rfl | rfl | rfl
    · have hcell := pick_cell hm2 hg 0 rfl
      clear hr hm hr2 hm2 hc
      go_wp2
      go_ret
      exact ⟨_, rfl, by omega, by omega, HR, HM⟩
    · have hcell := pick_cell hm2 hg 1 rfl
      clear hr hm hr2 hm2 hc
      go_wp2
      go_ret
      exact ⟨_, rfl, by omega, by omega, HR, HM⟩
    · have hcell := pick_cell hm2 hg 2 rfl
      clear hr hm hr2 hm2 hc
      go_wp2
      go_ret
      exact ⟨_, rfl, by omega, by omega, HR, HM⟩
    · have hcell := pick_cell hm2 hg 3 rfl
      clear hr hm hr2 hm2 hc
      go_wp2
      go_ret
      exact ⟨_, rfl, by omega, by omega, HR, HM⟩

theorem Mv.of_mv {g : Nat} {w w1 w2 : World} {o : Obj} (_h : Mv g (w.alloc o) w1) (k : Mv g w1 w2) : Mv g w1 w2 := k

theorem key_boxes {g : Nat} {w w3 w4 : World} {S T : TypeId} {x0 x1 x2 y0 y1 y2 : Value} (hm3 : Mv g (w.alloc (.cells #[x0, x1, x2] S)) w3) (hm4 : Mv g (w3.alloc (.cells #[y0, y1, y2] T)) w4) (hg : g < w.heap.size) :
    w4.cell? ⟨w.heap.size, 0, none⟩ = some x0 ∧ w4.cell? ⟨w.heap.size, 1, none⟩ = some x1 ∧ w4.cell? ⟨w.heap.size, 2, none⟩ = some x2 ∧
    w4.cell? ⟨w3.heap.size, 0, none⟩ = some y0 ∧ w4.cell? ⟨w3.heap.size, 1, none⟩ = some y1 ∧ w4.cell? ⟨w3.heap.size, 2, none⟩ = some y2 ∧
    (∀ o, w4.frozen? ⟨w.heap.size, o, none⟩ = false) ∧ (∀ o, w4.frozen? ⟨w3.heap.size, o, none⟩ = false) ∧ w.heap.size < w3.heap.size := by
  have hz : w.heap.size < w3.heap.size := by have := hm3.size; simp at this; omega
  have hc : ∀ o, w4.cell? ⟨w.heap.size, o, none⟩ = (w.alloc (.cells #[x0, x1, x2] S)).cell? ⟨w.heap.size, o, none⟩ := fun o => by
    rw [hm4.cell (by simp; omega) (by simp; omega), World.cell?_alloc_past _ _ _ hz, hm3.cell (by simp) (by simp; omega)]
  have hk : ∀ o, w4.cell? ⟨w3.heap.size, o, none⟩ = (w3.alloc (.cells #[y0, y1, y2] T)).cell? ⟨w3.heap.size, o, none⟩ := fun o => by
    rw [hm4.cell (by simp) (by simp; omega)]
  refine ⟨by rw [hc]; simp, by rw [hc]; simp, by rw [hc]; simp, by rw [hk]; simp, by rw [hk]; simp, by rw [hk]; simp, fun o => ?_, fun o => ?_, hz⟩
  · rw [hm4.frozen (by simp; omega) (by simp; omega), World.frozen?_alloc_past _ _ _ hz, hm3.frozen (by simp) (by simp; omega)]
    exact World.frozen?_alloc_at _ _ _ _ rfl
  · rw [hm4.frozen (by simp) (by simp; omega)]
    exact World.frozen?_alloc_at _ _ _ _ rfl

set_option maxHeartbeats 1000000 in
theorem rd_key (W w : World) (g : Nat) (a : Option Addr) (len cap : Nat) (hc : IsCode W a len) (hl : len ≤ 1048576) (h : Rd W w g a len cap) :
    Calls Try.prog 48 #[.pointer (some ⟨g, 0, none⟩)] w fun e w' => ∃ (u : ByteArray) (q k : Int), e = .returned (.agg #[.string u, .int .i64 q, .int .i64 k]) ∧ u.size ≤ 45 ∧ -9223372036854775808 ≤ q ∧ q ≤ 9223372036854775807 ∧ -9223372036854775808 ≤ k ∧ k ≤ 9223372036854775807 ∧ Rd W w' g a len cap ∧ Mv g w w' := by
  have hg := h.lt
  have h0 := h.mv ((Below.refl w.heap.size w).alloc (Nat.le_refl _) (.cells #[.string ⟨#[]⟩, .int .i64 0, .int .i64 0] 41))
  go_enter Try.func48, Try.ntmps48
  go_wp2_with fail
  refine (rd_user W _ g a len cap hc hl h0).mono ?_
  rintro e w1 ⟨u, rfl, hu, hr1, hm1⟩
  go_wp2_with fail
  refine (rd_near W _ g a len cap 0 12 (by omega) (by omega) (by omega) hc hl hr1).mono ?_
  rintro e w2 ⟨q, rfl, hq0, hq1, hr2, hm2⟩
  go_wp2_with fail
  refine (rd_below W _ g a len cap 2 (by omega) (by omega) hc hl hr2).mono ?_
  rintro e w3 ⟨k, rfl, hk0, hk1, hr3, hm3⟩
  have hM3 := hm1.trans (hm2.trans hm3)
  have hr3' := hr3.mv ((Below.refl w3.heap.size w3).alloc (Nat.le_refl _) (.cells #[.string u, .int .i64 q, .int .i64 k] 41))
  clear h h0 hr1 hm1 hr2 hm2 hr3 hm3
  go_wp2_with fail
  refine (rd_below W _ g a len cap 24 (by omega) (by omega) hc hl hr3').mono ?_
  rintro e w4 ⟨x, rfl, hx0, hx1, hr4, hm4⟩
  clear hr3'
  have : x = 0 ∨ x = 1 ∨ x = 2 ∨ 3 ≤ x := by omega
  rcases this with rfl | rfl | rfl | h3
  · go_wp2_with fail
    refine (rd_off W _ g a len cap 0 1000000000000 (by omega) (by omega) (by omega) hc hl hr4).mono ?_
    rintro e w5 ⟨y, rfl, hy0, hy1, hr5, hm⟩
    have hm5 := hm4.trans hm
    clear hm4 hm hr4
    obtain ⟨c0, c1, c2, d0, d1, d2, f0, f1, hz⟩ := key_boxes hM3 hm5 hg
    have HM : Hid (Mv g w w5) := (mv_alloc hM3).trans (Mv.of_mv hM3 (mv_alloc hm5))
    have HR : Hid (Rd W w5 g a len cap) := hr5
    have hz3 : w.heap.size ≤ w3.heap.size := by omega
    have hle : w.heap.size ≤ w.heap.size := Nat.le_refl _
    clear hM3 hm5 hr5 hc
    go_wp2
    refine bodyPost_ret (v := .agg #[.string u, .int .i64 y, .int .i64 k]) (by simp [results, Try.results48, go_sem, c0, c1, c2]) rfl ⟨u, y, k, rfl, by omega, by omega, by omega, by omega, by omega, HR.out.keep (((((Below.refl _ _).setCell hz3 _).setCell hle _).setCell hle _).setCell hle _) hg, mv_below HM.out (((((Below.refl _ _).setCell hz3 _).setCell hle _).setCell hle _).setCell hle _)⟩
  · go_wp2_with fail
    refine (rd_off W _ g a len cap 0 1 (by omega) (by omega) (by omega) hc hl hr4).mono ?_
    rintro e w5 ⟨y, rfl, hy0, hy1, hr5, hm⟩
    have hm5 := hm4.trans hm
    clear hm4 hm hr4
    obtain ⟨c0, c1, c2, d0, d1, d2, f0, f1, hz⟩ := key_boxes hM3 hm5 hg
    have HM : Hid (Mv g w w5) := (mv_alloc hM3).trans (Mv.of_mv hM3 (mv_alloc hm5))
    have HR : Hid (Rd W w5 g a len cap) := hr5
    have hz3 : w.heap.size ≤ w3.heap.size := by omega
    have hle : w.heap.size ≤ w.heap.size := Nat.le_refl _
    clear hM3 hm5 hr5 hc
    go_wp2
    refine bodyPost_ret (v := .agg #[.string u, .int .i64 q, .int .i64 y]) (by simp [results, Try.results48, go_sem, c0, c1, c2]) rfl ⟨u, q, y, rfl, by omega, by omega, by omega, by omega, by omega, HR.out.keep (((((Below.refl _ _).setCell hz3 _).setCell hle _).setCell hle _).setCell hle _) hg, mv_below HM.out (((((Below.refl _ _).setCell hz3 _).setCell hle _).setCell hle _).setCell hle _)⟩
  · go_wp2_with fail
    refine (rd_bytes W _ g a len cap 45 (by omega) (by omega) hc hl hr4).mono ?_
    rintro e w5 ⟨y, rfl, hy0, hr5, hm⟩
    have hm5 := hm4.trans hm
    clear hm4 hm hr4
    obtain ⟨c0, c1, c2, d0, d1, d2, f0, f1, hz⟩ := key_boxes hM3 hm5 hg
    have HM : Hid (Mv g w w5) := (mv_alloc hM3).trans (Mv.of_mv hM3 (mv_alloc hm5))
    have HR : Hid (Rd W w5 g a len cap) := hr5
    have hz3 : w.heap.size ≤ w3.heap.size := by omega
    have hle : w.heap.size ≤ w.heap.size := Nat.le_refl _
    clear hM3 hm5 hr5 hc
    go_wp2
    refine bodyPost_ret (v := .agg #[.string y, .int .i64 q, .int .i64 k]) (by simp [results, Try.results48, go_sem, c0, c1, c2]) rfl ⟨y, q, k, rfl, by omega, by omega, by omega, by omega, by omega, HR.out.keep (((((Below.refl _ _).setCell hz3 _).setCell hle _).setCell hle _).setCell hle _) hg, mv_below HM.out (((((Below.refl _ _).setCell hz3 _).setCell hle _).setCell hle _).setCell hle _)⟩
  · have g0 : (x == 0) = false := by simp; omega
    have g1 : (x == 1) = false := by simp; omega
    have g2 : (x == 2) = false := by simp; omega
    clear h3
    have hr5 := hr4
    have hm := Mv.refl g w4
    obtain ⟨w5, hw5⟩ : ∃ w5, w5 = w4 := ⟨w4, rfl⟩
    subst hw5
    have hm5 := hm4.trans hm
    clear hm4 hm hr4
    obtain ⟨c0, c1, c2, d0, d1, d2, f0, f1, hz⟩ := key_boxes hM3 hm5 hg
    have HM : Hid (Mv g w w5) := (mv_alloc hM3).trans (Mv.of_mv hM3 (mv_alloc hm5))
    have HR : Hid (Rd W w5 g a len cap) := hr5
    have hz3 : w.heap.size ≤ w3.heap.size := by omega
    have hle : w.heap.size ≤ w.heap.size := Nat.le_refl _
    clear hM3 hm5 hr5 hc
    go_wp2
    refine bodyPost_ret (v := .agg #[.string u, .int .i64 q, .int .i64 k]) (by simp [results, Try.results48, go_sem, c0, c1, c2]) rfl ⟨u, q, k, rfl, by omega, by omega, by omega, by omega, by omega, HR.out.keep ((((Below.refl _ _).setCell hle _).setCell hle _).setCell hle _) hg, mv_below HM.out ((((Below.refl _ _).setCell hle _).setCell hle _).setCell hle _)⟩

end Go.Proofs.Ytjcoejabpagaiaa
