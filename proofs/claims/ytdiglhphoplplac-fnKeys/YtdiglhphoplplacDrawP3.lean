/- What the laws of chapter 2 draw: keys, two keys, texts of keys. -/
import Derived.Test.YtdiglhphoplplacDrawP1
import Derived.Test.YtdiglhphoplplacDrawP2
import Derived.Test.YtdiglhphoplplacKText
namespace Go.Proofs.Ytdiglhphoplplac
open Go.RowKit

set_option maxHeartbeats 1000000 in
theorem draw_KeyText (W w : World) (a : Option Addr) (len cap : Nat) (hc : IsCode W a len) (hl : len ≤ 1048576) (hb : Below W.heap.size W w) :
    Calls Try.prog 14 #[.slice a len cap] w fun e w' => ∃ (u : ByteArray) (q k : Int), e = .returned (.agg #[.string u, .int .i64 q, .int .i64 k]) ∧ u.size ≤ 45 ∧ -9223372036854775808 ≤ q ∧ q ≤ 9223372036854775807 ∧ -9223372036854775808 ≤ k ∧ k ≤ 9223372036854775807 ∧ Below w.heap.size w w' := by
  have hz0 : (w.alloc (.cells #[.string ⟨#[]⟩, .int .i64 0, .int .i64 0] 25)).heap.size = w.heap.size + 1 := by simp
  go_enter Try.func14, Try.ntmps14
  go_wp2_with fail
  refine (open_rd _ a len cap W (hb.alloc hb.size _)).mono ?_
  rintro e w1 ⟨rfl, hr, hb1⟩
  rw [hz0] at hr
  go_wp2_with fail
  refine (rd_key W _ _ a len cap hc hl hr).mono ?_
  rintro e w2 ⟨u, q, k, rfl, hu, q0, q1, k0, k1, hr2, hm⟩
  have hb2 := hb1.trans (hm.below hb1.size (Nat.le_of_eq hz0))
  obtain ⟨hC, hF, hZ⟩ := bfacts hb2
  clear hr hr2 hm hb1 hc hz0
  go_wp2
  refine bodyPost_ret (v := .agg #[.string u, .int .i64 q, .int .i64 k]) (by simp [results, Try.results14, go_sem, hC]) rfl ⟨u, q, k, rfl, hu, q0, q1, k0, k1, ?_⟩
  exact (((below_of_alloc hb2).setCell (Nat.le_refl _) _).setCell (Nat.le_refl _) _).setCell (Nat.le_refl _) _

set_option maxHeartbeats 1000000 in
theorem draw_KeyOk (W w : World) (a : Option Addr) (len cap : Nat) (hc : IsCode W a len) (hl : len ≤ 1048576) (hb : Below W.heap.size W w) :
    Calls Try.prog 10 #[.slice a len cap] w fun e w' => ∃ (u : ByteArray) (q k : Int), e = .returned (.agg #[.string u, .int .i64 q, .int .i64 k]) ∧ u.size ≤ 45 ∧ -9223372036854775808 ≤ q ∧ q ≤ 9223372036854775807 ∧ -9223372036854775808 ≤ k ∧ k ≤ 9223372036854775807 ∧ Below w.heap.size w w' := by
  have hz0 : (w.alloc (.cells #[.string ⟨#[]⟩, .int .i64 0, .int .i64 0] 25)).heap.size = w.heap.size + 1 := by simp
  go_enter Try.func10, Try.ntmps10
  go_wp2_with fail
  refine (open_rd _ a len cap W (hb.alloc hb.size _)).mono ?_
  rintro e w1 ⟨rfl, hr, hb1⟩
  rw [hz0] at hr
  go_wp2_with fail
  refine (rd_key W _ _ a len cap hc hl hr).mono ?_
  rintro e w2 ⟨u, q, k, rfl, hu, q0, q1, k0, k1, hr2, hm⟩
  have hb2 := hb1.trans (hm.below hb1.size (Nat.le_of_eq hz0))
  obtain ⟨hC, hF, hZ⟩ := bfacts hb2
  clear hr hr2 hm hb1 hc hz0
  go_wp2
  refine bodyPost_ret (v := .agg #[.string u, .int .i64 q, .int .i64 k]) (by simp [results, Try.results10, go_sem, hC]) rfl ⟨u, q, k, rfl, hu, q0, q1, k0, k1, ?_⟩
  exact (((below_of_alloc hb2).setCell (Nat.le_refl _) _).setCell (Nat.le_refl _) _).setCell (Nat.le_refl _) _

theorem keyText_size (u : ByteArray) (q k : Int) : (keyText u q k).size ≤ 48 := by
  unfold keyText
  split
  · rename_i h
    obtain ⟨_, k2, _⟩ := keyOk_iff.1 h
    rw [ByteArray.size_append, ByteArray.size_append, fx4_size, fx4_size]
    omega
  · show 0 ≤ 48; omega

set_option maxHeartbeats 1000000 in
theorem draw_ReadKey (W w : World) (a : Option Addr) (len cap : Nat) (hc : IsCode W a len) (hl : len ≤ 1048576) (hb : Below W.heap.size W w) :
    Calls Try.prog 18 #[.slice a len cap] w fun e w' => ∃ s : ByteArray, e = .returned (.string s) ∧ s.size ≤ 100 ∧ Below w.heap.size w w' := by
  go_enter Try.func18, Try.ntmps18
  go_wp2_with fail
  refine (open_rd _ a len cap W hb).mono ?_
  rintro e w1 ⟨rfl, hr, hb1⟩
  go_wp2_with fail
  refine (rd_key W _ _ a len cap hc hl hr).mono ?_
  rintro e w2 ⟨u, q, k, rfl, hu, q0, q1, k0, k1, hr2, hm⟩
  have hb2 := hb1.trans (hm.below hb1.size (Nat.le_refl _))
  have hs := keyText_size u q k
  go_wp2_with fail
  refine (spec_KeyText u q k _).mono ?_
  rintro e w3 ⟨rfl, hb3⟩
  have hr3 := hr2.mv hb3
  have hb3' := hb2.trans (hb3.mono hb2.size)
  go_wp2_with fail
  refine (rd_below W _ _ a len cap 6 (by omega) (by omega) hc hl hr3).mono ?_
  rintro e w4 ⟨x, rfl, hx0, hx1, hr4, hm4⟩
  have hb4 := hb3'.trans (hm4.below hb3'.size (Nat.le_refl _))
  have hz4 := hb4.size
  clear hr hb1 hr2 hm hb2 hb3 hr3 hb3' hm4
  generalize keyText u q k = s at hs
  have : x = 0 ∨ x = 1 ∨ 2 ≤ x := by omega
  rcases this with rfl | rfl | h2
  · go_wp2_with fail
    refine (rd_bytes W _ _ a len cap 12 (by omega) (by omega) hc hl hr4).mono ?_
    rintro e w7 ⟨t, rfl, ht, hr7, hm7⟩
    have hb7 := hb4.trans (hm7.below hz4 (Nat.le_refl _))
    clear hr4 hr7 hm7 hb4 hc
    go_wp2
    go_ret
    exact ⟨t, rfl, by omega, hb7⟩
  · go_wp2_with fail
    refine (rd_bytes W _ _ a len cap 2 (by omega) (by omega) hc hl hr4).mono ?_
    rintro e w7 ⟨t, rfl, ht, hr7, hm7⟩
    have hb7 := hb4.trans (hm7.below hz4 (Nat.le_refl _))
    clear hr4 hr7 hm7 hb4 hc
    go_wp2
    go_ret
    exact ⟨_, rfl, by rw [ByteArray.size_append]; omega, hb7⟩
  · have g0 : (x == 0) = false := by simp; omega
    have g1 : (x == 1) = false := by simp; omega
    clear h2 hr4 hc
    go_wp2
    go_ret
    exact ⟨_, rfl, by omega, hb4⟩

end Go.Proofs.Ytdiglhphoplplac
