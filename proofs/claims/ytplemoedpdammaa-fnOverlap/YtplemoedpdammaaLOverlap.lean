/- The law FnOverlap, walked. -/
import Derived.Test.YtplemoedpdammaaLPicked
namespace Go.Proofs.Ytplemoedpdammaa
set_option maxRecDepth 100000
open Go.RowKit Go.Deep

set_option maxHeartbeats 4000000 in
theorem walk_FnOverlap (v : Value) {w : World} (hv : IsBytes w v) (_w : World) :
    Calls Try.prog 6 #[v] w fun e w' => e = .returned (.bool true) ∧ Below w.heap.size w w' := by
  obtain ⟨a, len, cap, rfl, hc, hm⟩ := hv
  by_cases hbig : 1048576 < len
  · have hd : decide (1048576 < len) = true := by simp [hbig]
    go_enter Try.func6, Try.ntmps6
    go_wp2_with fail
    refine (laws_bigO a len cap hm _).mono ?_
    rintro e w1 ⟨rfl, rfl⟩
    go_wp2
    go_ret
    exact ⟨rfl, Below.refl _ _⟩
  · have hd : decide (1048576 < len) = false := by simp [hbig]
    have hl : len ≤ 1048576 := by omega
    go_enter Try.func6, Try.ntmps6
    go_wp2_with fail
    refine (laws_bigO a len cap hm _).mono ?_
    rintro e w1 ⟨rfl, rfl⟩
    go_wp2_with fail
    refine (draw_Overlapping w _ a len cap hc hl (Below.refl _ _)).mono ?_
    rintro e w1 ⟨a1, c1, l, nx, sq, lg, lv, fr, tz, rfl, ho, hll, hb1⟩
    have hX := (BoxIs.new w1 #[.slice a1 l.length c1, .int .i64 nx, .int .i64 sq, .int .i64 lg] 46 rfl).hid
    have HB := hide (hb1.trans ((below_one w1 (.cells #[.slice a1 l.length c1, .int .i64 nx, .int .i64 sq, .int .i64 lg] 46)).mono hb1.size))
    have HO := (ho.next (below_one w1 (.cells #[.slice a1 l.length c1, .int .i64 nx, .int .i64 sq, .int .i64 lg] 46))).hid
    have HLAW := hide (over_law (vc l nx sq lg) lv fr tz)
    have hfit : (vc l nx sq lg).Fit := by show l.length ≤ 1048576; omega
    have HF := hide hfit
    obtain ⟨A, hA⟩ : ∃ A, overL (vc l nx sq lg) lv fr tz = A := ⟨_, rfl⟩
    obtain ⟨D, hD⟩ : ∃ D, overL (vc l nx sq lg) lv tz tz = D := ⟨_, rfl⟩
    have HA := hide hA
    have HD := hide hD
    rw [hA, hD] at HLAW
    have hAl : A.length ≤ 1048576 := by rw [← hA]; unfold overL; split <;> first | exact Nat.le_trans (overN_len _ _ _ _ _) (by show l.length ≤ _; omega) | simp
    have hDl : D.length ≤ 1048576 := by rw [← hD]; unfold overL; split <;> first | exact Nat.le_trans (overN_len _ _ _ _ _) (by show l.length ≤ _; omega) | simp
    clear ho hb1 hd hA hD hfit
    go_wp2_with fail
    generalize w1.alloc (.cells #[.slice a1 l.length c1, .int .i64 nx, .int .i64 sq, .int .i64 lg] 46) = W1 at hX HB HO ⊢
    generalize w1.heap.size = E at hX ⊢
    have y0 := hX.out.cell 0
    have y1 := hX.out.cell 1
    have y2 := hX.out.cell 2
    have y3 := hX.out.cell 3
    simp only [List.getElem?_toArray, List.getElem?_cons_succ, List.getElem?_cons_zero] at y0 y1 y2 y3
    go_wp2_with fail
    refine (impl_Overlapping (.agg #[.slice a1 l.length c1, .int .i64 nx, .int .i64 sq, .int .i64 lg]) (vc l nx sq lg) lv fr tz W1 HF.out (versionIs_own HO.out)).mono ?_
    rintro e w2 ⟨⟨u1, rfl, hu1⟩, hb2⟩
    rw [HA.out] at hu1
    have hX2 := (hX.out.next hb2).hid
    have HB2 := hide (HB.out.trans (hb2.mono HB.out.size))
    have HO2 := (HO.out.next hb2).hid
    obtain ⟨b1, q1, rfl, hI1⟩ := hu1.at
    have HI1 := hI1.hid
    clear hX HB HO hb2 y0 y1 y2 y3 hu1 hI1
    have y0 := hX2.out.cell 0
    have y1 := hX2.out.cell 1
    have y2 := hX2.out.cell 2
    have y3 := hX2.out.cell 3
    simp only [List.getElem?_toArray, List.getElem?_cons_succ, List.getElem?_cons_zero] at y0 y1 y2 y3
    go_wp2_with fail
    refine (impl_Overlapping (.agg #[.slice a1 l.length c1, .int .i64 nx, .int .i64 sq, .int .i64 lg]) (vc l nx sq lg) lv tz tz w2 HF.out (versionIs_own HO2.out)).mono ?_
    rintro e w3 ⟨⟨u2, rfl, hu2⟩, hb3⟩
    rw [HD.out] at hu2
    have hX3 := (hX2.out.next hb3).hid
    have HB3 := hide (HB2.out.trans (hb3.mono HB2.out.size))
    have HO3 := (HO2.out.next hb3).hid
    have HI2 := (HI1.out.next hb3).hid
    obtain ⟨b2, q2, rfl, hJ2⟩ := hu2.at
    have HJ2 := hJ2.hid
    clear hX2 HB2 HO2 HI1 hb3 y0 y1 y2 y3 hu2 hJ2
    have y0 := hX3.out.cell 0
    have y1 := hX3.out.cell 1
    have y2 := hX3.out.cell 2
    have y3 := hX3.out.cell 3
    simp only [List.getElem?_toArray, List.getElem?_cons_succ, List.getElem?_cons_zero] at y0 y1 y2 y3
    go_wp2_with fail
    refine (spec_Overlapping (.agg #[.slice a1 l.length c1, .int .i64 nx, .int .i64 sq, .int .i64 lg]) (vc l nx sq lg) lv fr tz w3 HF.out (versionIs_own HO3.out)).mono ?_
    rintro e w4 ⟨⟨u3, rfl, hu3⟩, hb4⟩
    rw [HA.out] at hu3
    have hX4 := (hX3.out.next hb4).hid
    have HB4 := hide (HB3.out.trans (hb4.mono HB3.out.size))
    have HO4 := (HO3.out.next hb4).hid
    have HI3 := HI2.out.next hb4
    have HJ3 := (HJ2.out.next hb4).hid
    obtain ⟨b3, q3, rfl, hK3⟩ := hu3.at
    clear hX3 HB3 HO3 HI2 HJ2 hb4 y0 y1 y2 y3 hu3
    go_wp2_with fail
    refine (laws_sameIntsV b1 b3 A.length q1 q3 (fun i => A.getD i 0) w4 hAl HI3 hK3).mono ?_
    rintro e w5 ⟨rfl, hb5⟩
    have hX5 := (hX4.out.next hb5).hid
    have HB5 := hide (HB4.out.trans (hb5.mono HB4.out.size))
    have HO5 := (HO4.out.next hb5).hid
    have HJ5 := (HJ3.out.next hb5).hid
    clear hX4 HB4 HO4 HI3 HJ3 hb5 hK3
    have y0 := hX5.out.cell 0
    have y1 := hX5.out.cell 1
    have y2 := hX5.out.cell 2
    have y3 := hX5.out.cell 3
    simp only [List.getElem?_toArray, List.getElem?_cons_succ, List.getElem?_cons_zero] at y0 y1 y2 y3
    go_wp2_with fail
    refine (spec_Overlapping (.agg #[.slice a1 l.length c1, .int .i64 nx, .int .i64 sq, .int .i64 lg]) (vc l nx sq lg) lv tz tz w5 HF.out (versionIs_own HO5.out)).mono ?_
    rintro e w6 ⟨⟨u4, rfl, hu4⟩, hb6⟩
    rw [HD.out] at hu4
    have HB6 := hide (HB5.out.trans (hb6.mono HB5.out.size))
    have HJ6 := HJ5.out.next hb6
    obtain ⟨b4, q4, rfl, hL4⟩ := hu4.at
    clear hX5 HB5 HO5 HJ5 hb6 y0 y1 y2 y3 hu4
    go_wp2_with fail
    refine (laws_sameIntsV b2 b4 D.length q2 q4 (fun i => D.getD i 0) w6 hDl HJ6 hL4).mono ?_
    rintro e w7 ⟨rfl, hb7⟩
    have HB7 := hide (HB6.out.trans (hb7.mono HB6.out.size))
    clear HB6 HJ6 hL4 hb7
    obtain ⟨h1, h2⟩ := HLAW.out
    generalize A.length = NA at h2 ⊢
    generalize D.length = ND at h1 h2 ⊢
    have h3 : (Op.bytesLess fr.toList tz.toList = false ∧ ¬ fr.toList = tz.toList) ∨ ((Op.bytesLess fr.toList tz.toList = true ∨ (Op.bytesLess fr.toList tz.toList = false ∧ fr.toList = tz.toList)) ∧ (ND : Int) ≤ (NA : Int)) := by
      rcases h2 with h2 | h2
      · left
        have hq : ¬ sLe fr tz = true := fun h => by rw [sLt_le.1 h] at h2; cases h2
        unfold sLe at hq
        rw [Bool.or_eq_true, not_or] at hq
        exact ⟨by simpa using hq.1, by simpa using hq.2⟩
      · cases hl : Op.bytesLess fr.toList tz.toList with
        | true => exact .inr ⟨.inl rfl, by omega⟩
        | false =>
          by_cases he : fr.toList = tz.toList
          · exact .inr ⟨.inr ⟨rfl, he⟩, by omega⟩
          · exact .inl ⟨rfl, he⟩
    clear h2
    rcases h1 with h1 | h1
    · subst h1
      rcases h3 with ⟨h4, h5⟩ | ⟨h4 | ⟨h4, h5⟩, h6⟩
      · go_wp2
        go_ret
        exact ⟨rfl, HB7.out⟩
      · go_wp2
        go_ret
        exact ⟨rfl, HB7.out⟩
      · go_wp2
        go_ret
        exact ⟨rfl, HB7.out⟩
    · have h1' : (ND : Int) ≤ 1 := by omega
      by_cases h0 : lv = 0
      · subst h0
        rcases h3 with ⟨h4, h5⟩ | ⟨h4 | ⟨h4, h5⟩, h6⟩
        · go_wp2
          go_ret
          exact ⟨rfl, HB7.out⟩
        · go_wp2
          go_ret
          exact ⟨rfl, HB7.out⟩
        · go_wp2
          go_ret
          exact ⟨rfl, HB7.out⟩
      · have h0' : (lv == 0) = false := by simpa using h0
        rcases h3 with ⟨h4, h5⟩ | ⟨h4 | ⟨h4, h5⟩, h6⟩
        · go_wp2
          go_ret
          exact ⟨rfl, HB7.out⟩
        · go_wp2
          go_ret
          exact ⟨rfl, HB7.out⟩
        · go_wp2
          go_ret
          exact ⟨rfl, HB7.out⟩

end Go.Proofs.Ytplemoedpdammaa
