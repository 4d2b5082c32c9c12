/- The law FnVersionTexts, walked. -/
import Derived.Test.YtplemoedpdammaaDrawR
import Derived.Test.YtplemoedpdammaaReadV
import Derived.Test.YtplemoedpdammaaReadVS
namespace Go.Proofs.Ytplemoedpdammaa
set_option maxRecDepth 100000
open Go.RowKit Go.Deep

theorem laws_sameMetasV (a b : Option Addr) (len ca cb : Nat) (O : Metas) (w : World) (hl : len ≤ 1048576) (ha : MetaAt w w.heap.size a len O) (hb : MetaAt w w.heap.size b len O) :
    Calls Try.prog 26 #[.slice a len ca, .slice b len cb] w fun e w' => e = .returned (.bool true) ∧ Below w.heap.size w w' := by
  have HA := hide ha
  have HB := hide hb
  have HW0 := hide (Below.refl w.heap.size w)
  clear ha hb
  go_enter Try.func26, Try.ntmps26
  go_wp2
  go_loopw [5] (fun i wr => ∃ k : Nat, i = .int .i64 k ∧ k ≤ len ∧ Hid (Below w.heap.size w wr)) (fun i _ => len - (intOf i).toNat)
  case atStart => exact ⟨0, rfl, by omega, HW0⟩
  case round =>
    obtain ⟨k, rfl, hk, HW⟩ := hrel
    by_cases hlt : k < len
    · obtain ⟨g1, o1, rfl, _, c0, c1, c2, c3, c4⟩ := (HA.out.below HW.out).at hlt
      obtain ⟨g2, o2, rfl, _, d0, d1, d2, d3, d4⟩ := (HB.out.below HW.out).at hlt
      have hki : (k : Int) < (len : Int) := by omega
      go_wp2
      go_quiet (fail)
      go_wp2
      exact ⟨⟨k + 1, by go_num, by omega, below_drewN HW.out _⟩, by simp [intOf]; omega⟩
    · obtain rfl : k = len := by omega
      go_wp2
      go_ret
      exact ⟨rfl, HW.out⟩

theorem vOk_empty : vOk ⟨#[]⟩ = false := by
  cases h : vOk ⟨#[]⟩ with
  | false => rfl
  | true =>
    unfold vOk at h
    rw [Bool.and_eq_true] at h
    have h1 := of_decide_eq_true h.2
    unfold versT at h1
    rw [if_pos h.1] at h1
    have h2 := congrArg ByteArray.size h1
    have h3 := putTextV_size (rowsT (vC ⟨#[]⟩).r0 (headT (vC ⟨#[]⟩)) (vC ⟨#[]⟩).n0)
    unfold sect at h2
    rw [ByteArray.size_append, fx4_size] at h2
    have h4 : (⟨#[]⟩ : ByteArray).size = 0 := rfl
    omega
/-- A version comes back from its text. -/
theorem ver_round (l : List Meta1) (x y z : Int) : vOk (versT (vc l x y z)) = versB (vc l x y z) ∧ (versB (vc l x y z) = true → readV (versT (vc l x y z)) = vc l x y z) := by
  cases h : versB (vc l x y z) with
  | true =>
    obtain ⟨_, _, h3, h4, _⟩ := ver_put h rfl
    refine ⟨h4, fun _ => ?_⟩
    unfold readV
    rw [if_pos h4, h3]
  | false =>
    refine ⟨?_, fun e => by cases e⟩
    have e : versT (vc l x y z) = ⟨#[]⟩ := by unfold versT; rw [h]; rfl
    rw [e]; exact vOk_empty
/-- What is read has just the bytes that it was read from. -/
theorem ver_read (s : ByteArray) (h : vOk s = true) : versT (readV s) = s := by
  have h' := h
  unfold vOk at h'
  rw [Bool.and_eq_true] at h'
  unfold readV
  rw [if_pos h]
  exact of_decide_eq_true h'.2
theorem readV_fitN (s : ByteArray) : (readV s).n0 ≤ 1048576 := readV_fit s

set_option linter.unusedSimpArgs false in
set_option maxHeartbeats 4000000 in
theorem walk_FnVersionTexts (v : Value) {w : World} (hv : IsBytes w v) (_w : World) :
    Calls Try.prog 5 #[v] w fun e w' => e = .returned (.bool true) ∧ Below w.heap.size w w' := by
  obtain ⟨a, len, cap, rfl, hc, hm⟩ := hv
  by_cases hbig : 1048576 < len
  · have hd : decide (1048576 < len) = true := by simp [hbig]
    go_enter Try.func5, Try.ntmps5
    go_wp2_with fail
    refine (laws_bigO a len cap hm _).mono ?_
    rintro e w1 ⟨rfl, rfl⟩
    go_wp2
    go_ret
    exact ⟨rfl, Below.refl _ _⟩
  · have hd : decide (1048576 < len) = false := by simp [hbig]
    have hl : len ≤ 1048576 := by omega
    go_enter Try.func5, Try.ntmps5
    go_wp2_with fail
    refine (laws_bigO a len cap hm _).mono ?_
    rintro e w1 ⟨rfl, rfl⟩
    go_wp2_with fail
    refine (draw_VersionText w _ a len cap hc hl (Below.refl _ _)).mono ?_
    rintro e w1 ⟨a1, c1, l, nx, sq, lg, rfl, ho, hll, hb1⟩
    have hX := (BoxIs.new w1 #[.slice a1 l.length c1, .int .i64 nx, .int .i64 sq, .int .i64 lg] 46 rfl).hid
    have HB := hide (hb1.trans ((below_one w1 (.cells #[.slice a1 l.length c1, .int .i64 nx, .int .i64 sq, .int .i64 lg] 46)).mono hb1.size))
    have HO := (ho.next (below_one w1 (.cells #[.slice a1 l.length c1, .int .i64 nx, .int .i64 sq, .int .i64 lg] 46))).hid
    have hfit : (vc l nx sq lg).Fit := by show l.length ≤ 1048576; omega
    have HF := hide hfit
    have hsz := versT_le l nx sq lg
    have HRN := hide (ver_round l nx sq lg)
    obtain ⟨S, hS⟩ : ∃ S, versT (vc l nx sq lg) = S := ⟨_, rfl⟩
    obtain ⟨ok, hok⟩ : ∃ ok, versB (vc l nx sq lg) = ok := ⟨_, rfl⟩
    rw [hS] at hsz
    rw [hS, hok] at HRN
    have HS := hide hS
    have HOK := hide hok
    clear ho hb1 hd hS hok hfit
    go_wp2_with fail
    generalize w1.alloc (.cells #[.slice a1 l.length c1, .int .i64 nx, .int .i64 sq, .int .i64 lg] 46) = W1 at hX HB HO ⊢
    generalize w1.heap.size = E at hX ⊢
    have y0 := hX.out.cell 0
    have y1 := hX.out.cell 1
    have y2 := hX.out.cell 2
    have y3 := hX.out.cell 3
    simp only [List.getElem?_toArray, List.getElem?_cons_succ, List.getElem?_cons_zero] at y0 y1 y2 y3
    go_wp2_with fail
    refine (HS.out ▸ impl_VersionText (.agg #[.slice a1 l.length c1, .int .i64 nx, .int .i64 sq, .int .i64 lg]) (vc l nx sq lg) W1 HF.out (versionIs_own HO.out)).mono ?_
    rintro e w2 ⟨rfl, hb2⟩
    have hX2 := (hX.out.next hb2).hid
    have HB2 := hide (HB.out.trans (hb2.mono HB.out.size))
    have HO2 := (HO.out.next hb2).hid
    clear hX HB HO hb2 y0 y1 y2 y3
    go_wp2_with fail
    refine (HRN.out.1 ▸ impl_ReadVersion S (by omega) w2).mono ?_
    rintro e w3 ⟨⟨u, rfl, hu⟩, hb3⟩
    obtain ⟨ua, up, rfl, hum⟩ := hu
    have hX3 := hX2.out.next hb3
    have HB3 := HB2.out.trans (hb3.mono HB2.out.size)
    have HO3 := HO2.out.next hb3
    obtain ⟨R, hR⟩ : ∃ R, readV S = R := ⟨_, rfl⟩
    have HRN2 := hide (HRN.out.2)
    rw [hR] at hum HRN2 ⊢
    have hfitR : R.n0 ≤ 1048576 := by rw [← hR]; exact readV_fitN S
    have hY := (BoxIs.new w3 #[.slice ua R.n0 up, .int .i64 R.x1, .int .i64 R.x2, .int .i64 R.x3] 46 rfl).hid
    have hX4 := (hX3.next (below_one w3 (.cells #[.slice ua R.n0 up, .int .i64 R.x1, .int .i64 R.x2, .int .i64 R.x3] 46))).hid
    have HB4 := hide (HB3.trans ((below_one w3 (.cells #[.slice ua R.n0 up, .int .i64 R.x1, .int .i64 R.x2, .int .i64 R.x3] 46)).mono HB3.size))
    have HO4 := (HO3.next (below_one w3 (.cells #[.slice ua R.n0 up, .int .i64 R.x1, .int .i64 R.x2, .int .i64 R.x3] 46))).hid
    have HU4 := (hum.next (below_one w3 (.cells #[.slice ua R.n0 up, .int .i64 R.x1, .int .i64 R.x2, .int .i64 R.x3] 46))).hid
    clear hX2 HB2 HO2 hb3 hX3 HB3 HO3 hum hR HRN
    go_upto_region 6 with fail
    generalize w3.alloc (.cells #[.slice ua R.n0 up, .int .i64 R.x1, .int .i64 R.x2, .int .i64 R.x3] 46) = W4 at hY hX4 HB4 HO4 HU4 ⊢
    generalize w3.heap.size = Y at hY ⊢
    have y0 := hX4.out.cell 0
    have y1 := hX4.out.cell 1
    have y2 := hX4.out.cell 2
    have y3 := hX4.out.cell 3
    simp only [List.getElem?_toArray, List.getElem?_cons_succ, List.getElem?_cons_zero] at y0 y1 y2 y3
    go_wp2_with fail
    refine (HS.out ▸ spec_VersionText (.agg #[.slice a1 l.length c1, .int .i64 nx, .int .i64 sq, .int .i64 lg]) (vc l nx sq lg) W4 HF.out (versionIs_own HO4.out)).mono ?_
    rintro e w5 ⟨rfl, hb5⟩
    have hX5 := (hX4.out.next hb5).hid
    have hY5 := (hY.out.next hb5).hid
    have HB5 := hide (HB4.out.trans (hb5.mono HB4.out.size))
    have HO5 := (HO4.out.next hb5).hid
    have HU5 := (HU4.out.next hb5).hid
    clear hX4 hY HB4 HO4 HU4 hb5 y0 y1 y2 y3
    have y0 := hX5.out.cell 0
    have y1 := hX5.out.cell 1
    have y2 := hX5.out.cell 2
    have y3 := hX5.out.cell 3
    simp only [List.getElem?_toArray, List.getElem?_cons_succ, List.getElem?_cons_zero] at y0 y1 y2 y3
    go_wp2_with fail
    refine (HOK.out ▸ impl_VersionOk (.agg #[.slice a1 l.length c1, .int .i64 nx, .int .i64 sq, .int .i64 lg]) (vc l nx sq lg) w5 HF.out (versionIs_own HO5.out)).mono ?_
    rintro e w6 ⟨rfl, hb6⟩
    have hX6 := (hX5.out.next hb6).hid
    have hY6 := (hY5.out.next hb6).hid
    have HB6 := hide (HB5.out.trans (hb6.mono HB5.out.size))
    have HO6 := (HO5.out.next hb6).hid
    have HU6 := (HU5.out.next hb6).hid
    clear hX5 hY5 HB5 HO5 HU5 hb6 y0 y1 y2 y3
    cases ok with
    | false =>
      clear HRN2 hX6 hY6 HO6 HU6
      go_upto_region 8 with fail
      go_wp2_with fail
      refine (draw_ReadVersion w _ a len cap hc hl HB6.out).mono ?_
      rintro e w8 ⟨⟨t, rfl, ht⟩, hb8⟩
      have HB8 := hide (HB6.out.trans (hb8.mono HB6.out.size))
      obtain ⟨f, hf⟩ : ∃ f, vOk t = f := ⟨_, rfl⟩
      have HFK := hide hf
      have HVR := hide (ver_read t)
      rw [hf] at HVR
      clear HB6 hb8 hf
      go_wp2_with fail
      refine (HFK.out ▸ impl_ReadVersion t ht w8).mono ?_
      rintro e w9 ⟨⟨u2, rfl, hu2⟩, hb9⟩
      obtain ⟨ta, tp, rfl, htm⟩ := hu2
      have HB9 := HB8.out.trans (hb9.mono HB8.out.size)
      have hfitT := readV_fitN t
      generalize readV t = T at htm hfitT HVR ⊢
      have hZ := (BoxIs.new w9 #[.slice ta T.n0 tp, .int .i64 T.x1, .int .i64 T.x2, .int .i64 T.x3] 46 rfl).hid
      have HB10 := hide (HB9.trans ((below_one w9 (.cells #[.slice ta T.n0 tp, .int .i64 T.x1, .int .i64 T.x2, .int .i64 T.x3] 46)).mono HB9.size))
      have HT10 := (htm.next (below_one w9 (.cells #[.slice ta T.n0 tp, .int .i64 T.x1, .int .i64 T.x2, .int .i64 T.x3] 46))).hid
      clear HB8 hb9 HB9 htm
      go_upto_region 10 with fail
      generalize w9.alloc (.cells #[.slice ta T.n0 tp, .int .i64 T.x1, .int .i64 T.x2, .int .i64 T.x3] 46) = W10 at hZ HB10 HT10 ⊢
      generalize w9.heap.size = Z at hZ ⊢
      go_wp2_with fail
      refine (HFK.out ▸ spec_ReadVersion t ht W10).mono ?_
      rintro e w11 ⟨⟨u3, rfl, hu3⟩, hb11⟩
      obtain ⟨sa, sp, rfl, hsm⟩ := hu3
      have hZ11 := hZ.out.next hb11
      have HB11 := HB10.out.trans (hb11.mono HB10.out.size)
      have HT11 := HT10.out.next hb11
      generalize readV t = T2 at hsm ⊢
      have hZ12 := (hZ11.next (below_one w11 (.cells #[.slice sa T2.n0 sp, .int .i64 T2.x1, .int .i64 T2.x2, .int .i64 T2.x3] 46))).hid
      have HB12 := hide (HB11.trans ((below_one w11 (.cells #[.slice sa T2.n0 sp, .int .i64 T2.x1, .int .i64 T2.x2, .int .i64 T2.x3] 46)).mono HB11.size))
      have HT12 := (HT11.next (below_one w11 (.cells #[.slice sa T2.n0 sp, .int .i64 T2.x1, .int .i64 T2.x2, .int .i64 T2.x3] 46))).hid
      clear hZ HB10 HT10 hb11 hZ11 HB11 HT11 hsm
      go_upto_region 11 with fail
      generalize w11.alloc (.cells #[.slice sa T2.n0 sp, .int .i64 T2.x1, .int .i64 T2.x2, .int .i64 T2.x3] 46) = W12 at hZ12 HB12 HT12 ⊢
      cases f with
      | false =>
        go_wp2
        go_ret
        exact ⟨rfl, HB12.out⟩
      | true =>
        have z0 := hZ12.out.cell 0
        have z1 := hZ12.out.cell 1
        have z2 := hZ12.out.cell 2
        have z3 := hZ12.out.cell 3
        simp only [List.getElem?_toArray, List.getElem?_cons_succ, List.getElem?_cons_zero] at z0 z1 z2 z3
        go_wp2_with fail
        refine ((HVR.out (by trivial)) ▸ impl_VersionText (.agg #[.slice ta T.n0 tp, .int .i64 T.x1, .int .i64 T.x2, .int .i64 T.x3]) T W12 hfitT (VersionIs.of_mine HT12.out)).mono ?_
        rintro e w13 ⟨rfl, hb13⟩
        have HB13 := hide (HB12.out.trans (hb13.mono HB12.out.size))
        clear HB12 hb13 z0 z1 z2 z3
        go_wp2
        go_ret
        exact ⟨rfl, HB13.out⟩
    | true =>
      obtain rfl := HRN2.out rfl
      have y0 := hX6.out.cell 0
      have y1 := hX6.out.cell 1
      have y2 := hX6.out.cell 2
      have y3 := hX6.out.cell 3
      have z0 := hY6.out.cell 0
      have z1 := hY6.out.cell 1
      have z2 := hY6.out.cell 2
      have z3 := hY6.out.cell 3
      simp only [List.getElem?_toArray, List.getElem?_cons_succ, List.getElem?_cons_zero] at y0 y1 y2 y3 z0 z1 z2 z3
      go_wp2_with fail
      obtain ⟨a0, p0, hva, hM⟩ := HO6.out.arg
      simp only [Value.slice.injEq, true_and] at hva
      obtain ⟨rfl, rfl⟩ := hva
      refine (laws_sameMetasV ua a1 l.length up c1 (fnMeta l) w6 (by omega) (metaAt_mine HU6.out) hM).mono ?_
      rintro e w7 ⟨rfl, hb7⟩
      have hX7 := (hX6.out.next hb7).hid
      have hY7 := (hY6.out.next hb7).hid
      have HB7 := hide (HB6.out.trans (hb7.mono HB6.out.size))
      clear hX6 hY6 HB6 HO6 HU6 hb7 hM HRN2 y0 y1 y2 y3 z0 z1 z2 z3
      have y1 := hX7.out.cell 1
      have y2 := hX7.out.cell 2
      have y3 := hX7.out.cell 3
      have z1 := hY7.out.cell 1
      have z2 := hY7.out.cell 2
      have z3 := hY7.out.cell 3
      simp only [List.getElem?_toArray, List.getElem?_cons_succ, List.getElem?_cons_zero] at y1 y2 y3 z1 z2 z3
      have e1 : (vc l nx sq lg).x1 = nx := rfl
      have e2 : (vc l nx sq lg).x2 = sq := rfl
      have e3 : (vc l nx sq lg).x3 = lg := rfl
      rw [e1] at z1
      rw [e2] at z2
      rw [e3] at z3
      go_upto_region 8 with fail
      have HB6 := HB7
      clear hX7 hY7 y1 y2 y3 z1 z2 z3 HB7
      go_wp2_with fail
      refine (draw_ReadVersion w _ a len cap hc hl HB6.out).mono ?_
      rintro e w8 ⟨⟨t, rfl, ht⟩, hb8⟩
      have HB8 := hide (HB6.out.trans (hb8.mono HB6.out.size))
      obtain ⟨f, hf⟩ : ∃ f, vOk t = f := ⟨_, rfl⟩
      have HFK := hide hf
      have HVR := hide (ver_read t)
      rw [hf] at HVR
      clear HB6 hb8 hf
      go_wp2_with fail
      refine (HFK.out ▸ impl_ReadVersion t ht w8).mono ?_
      rintro e w9 ⟨⟨u2, rfl, hu2⟩, hb9⟩
      obtain ⟨ta, tp, rfl, htm⟩ := hu2
      have HB9 := HB8.out.trans (hb9.mono HB8.out.size)
      have hfitT := readV_fitN t
      generalize readV t = T at htm hfitT HVR ⊢
      have hZ := (BoxIs.new w9 #[.slice ta T.n0 tp, .int .i64 T.x1, .int .i64 T.x2, .int .i64 T.x3] 46 rfl).hid
      have HB10 := hide (HB9.trans ((below_one w9 (.cells #[.slice ta T.n0 tp, .int .i64 T.x1, .int .i64 T.x2, .int .i64 T.x3] 46)).mono HB9.size))
      have HT10 := (htm.next (below_one w9 (.cells #[.slice ta T.n0 tp, .int .i64 T.x1, .int .i64 T.x2, .int .i64 T.x3] 46))).hid
      clear HB8 hb9 HB9 htm
      go_upto_region 10 with fail
      generalize w9.alloc (.cells #[.slice ta T.n0 tp, .int .i64 T.x1, .int .i64 T.x2, .int .i64 T.x3] 46) = W10 at hZ HB10 HT10 ⊢
      generalize w9.heap.size = Z at hZ ⊢
      go_wp2_with fail
      refine (HFK.out ▸ spec_ReadVersion t ht W10).mono ?_
      rintro e w11 ⟨⟨u3, rfl, hu3⟩, hb11⟩
      obtain ⟨sa, sp, rfl, hsm⟩ := hu3
      have hZ11 := hZ.out.next hb11
      have HB11 := HB10.out.trans (hb11.mono HB10.out.size)
      have HT11 := HT10.out.next hb11
      generalize readV t = T2 at hsm ⊢
      have hZ12 := (hZ11.next (below_one w11 (.cells #[.slice sa T2.n0 sp, .int .i64 T2.x1, .int .i64 T2.x2, .int .i64 T2.x3] 46))).hid
      have HB12 := hide (HB11.trans ((below_one w11 (.cells #[.slice sa T2.n0 sp, .int .i64 T2.x1, .int .i64 T2.x2, .int .i64 T2.x3] 46)).mono HB11.size))
      have HT12 := (HT11.next (below_one w11 (.cells #[.slice sa T2.n0 sp, .int .i64 T2.x1, .int .i64 T2.x2, .int .i64 T2.x3] 46))).hid
      clear hZ HB10 HT10 hb11 hZ11 HB11 HT11 hsm
      go_upto_region 11 with fail
      generalize w11.alloc (.cells #[.slice sa T2.n0 sp, .int .i64 T2.x1, .int .i64 T2.x2, .int .i64 T2.x3] 46) = W12 at hZ12 HB12 HT12 ⊢
      cases f with
      | false =>
        go_wp2
        go_ret
        exact ⟨rfl, HB12.out⟩
      | true =>
        have z0 := hZ12.out.cell 0
        have z1 := hZ12.out.cell 1
        have z2 := hZ12.out.cell 2
        have z3 := hZ12.out.cell 3
        simp only [List.getElem?_toArray, List.getElem?_cons_succ, List.getElem?_cons_zero] at z0 z1 z2 z3
        go_wp2_with fail
        refine ((HVR.out (by trivial)) ▸ impl_VersionText (.agg #[.slice ta T.n0 tp, .int .i64 T.x1, .int .i64 T.x2, .int .i64 T.x3]) T W12 hfitT (VersionIs.of_mine HT12.out)).mono ?_
        rintro e w13 ⟨rfl, hb13⟩
        have HB13 := hide (HB12.out.trans (hb13.mono HB12.out.size))
        clear HB12 hb13 z0 z1 z2 z3
        go_wp2
        go_ret
        exact ⟨rfl, HB13.out⟩

end Go.Proofs.Ytplemoedpdammaa
