/- The law on Overlapping. (By gen_law2.py.) -/
import Derived.Test.YtmmnlkagenbofaaOver
import Derived.Test.YtmmnlkagenbofaaInts
import Derived.Test.YtmmnlkagenbofaaMkBoxVersion
import Derived.Test.YtmmnlkagenbofaaMkInt
import Derived.Test.YtmmnlkagenbofaaBox
import Derived.Test.YtmmnlkagenbofaaNth
import Derived.Test.YtmmnlkagenbofaaReg
import Derived.Test.YtmmnlkagenbofaaMine
import Derived.Deep.RegionHeld3
namespace Go.Proofs.Ytmmnlkagenbofaa
set_option maxRecDepth 100000
open Go.RowKit Go.Deep

set_option linter.unusedSimpArgs false in
set_option linter.unusedVariables false in
set_option maxHeartbeats 4000000 in
theorem walk_Overlapping {w : World} (v0 : Value) (hv0 : ArgVersion w v0) (i1 : Int) (hi1 : (Lit.int .i64 i1).wf = true) (s2 : ByteArray) (hs2 : s2.size ≤ maxLen) (s3 : ByteArray) (hs3 : s3.size ≤ maxLen) (_w : World) :
    Calls Try.prog 4 #[v0, .int .i64 i1, .string s2, .string s3] w fun e w' => e = .returned (.bool true) ∧ Below w.heap.size w w' := by
  obtain ⟨c0, hI0, hsm0⟩ := hv0
  obtain ⟨a0_0, p0_0, rfl, hr0_0⟩ := hI0
  have hB0 : Below w.heap.size w (w.alloc (.cells #[.slice a0_0 c0.n0 p0_0, .int .i64 c0.x1, .int .i64 c0.x2, .int .i64 c0.x3] 24)) := (Below.refl _ _).alloc (Nat.le_refl _) _
  have hK0 : BoxIs (w.alloc (.cells #[.slice a0_0 c0.n0 p0_0, .int .i64 c0.x1, .int .i64 c0.x2, .int .i64 c0.x3] 24)) (w.heap.size) #[.slice a0_0 c0.n0 p0_0, .int .i64 c0.x1, .int .i64 c0.x2, .int .i64 c0.x3] 24 := BoxIs.new _ _ _ rfl
  have hV0 : VersionIs (w.alloc (.cells #[.slice a0_0 c0.n0 p0_0, .int .i64 c0.x1, .int .i64 c0.x2, .int .i64 c0.x3] 24)) (.agg #[.slice a0_0 c0.n0 p0_0, .int .i64 c0.x1, .int .i64 c0.x2, .int .i64 c0.x3]) c0 := (VersionIs.at_old ⟨_, _, rfl, hr0_0⟩ hB0)
  clear hr0_0
  by_cases hbig2 : (1048576 : Int) < (s2.size : Int)
  · go_enter Try.func4, Try.ntmps4
    go_wp2
    go_ret
    exact ⟨rfl, hB0⟩
  · skip
    by_cases hbig3 : (1048576 : Int) < (s3.size : Int)
    · go_enter Try.func4, Try.ntmps4
      go_wp2
      go_ret
      exact ⟨rfl, hB0⟩
    · skip
      go_enter Try.func4, Try.ntmps4
      go_wp2_with fail
      generalize hWW : w.alloc (.cells #[.slice a0_0 c0.n0 p0_0, .int .i64 c0.x1, .int .i64 c0.x2, .int .i64 c0.x3] 24) = W at hB0 hK0 hV0 ⊢
      clear hWW
      have HB0 : Hid (Below w.heap.size w W) := hB0
      have HK0 : Hid _ := hK0.hid
      have HV0 : Hid _ := hV0.hid
      have hKl0 := hK0.lt
      clear hB0 hK0 hV0
      have HB : Hid (Below W.heap.size W W) := Below.refl _ _
      refine (laws_szVersion (.agg #[.slice a0_0 c0.n0 p0_0, .int .i64 c0.x1, .int .i64 c0.x2, .int .i64 c0.x3]) c0 1048576 W hsm0 (by omega) (by omega) (HV0.out.next HB.out)).mono ?_
      rintro e w0 ⟨⟨l0, rfl, hr0⟩, hb0⟩
      have HB := hide (HB.out.trans (hb0.mono HB.out.size))
      have hsz0 := hb0.size
      clear hb0
      rcases hr0 with hr0 | ⟨hl00, hl10, hf0⟩
      · go_wp2
        go_ret
        exact ⟨rfl, HB0.out.trans (HB.out.mono HB0.out.size)⟩
      · have hln0 : ¬ (l0 < 0) := by omega
        have cs := fun (x0 : Value) (wx : World) (y0 : VersionIs wx x0 c0) => spec_Overlapping x0 c0 i1 s2 s3 wx hf0 y0
        have ci := fun (x0 : Value) (wx : World) (y0 : VersionIs wx x0 c0) => impl_Overlapping x0 c0 i1 s2 s3 wx hf0 y0
        have hrf : (overL c0 i1 s2 s3).length ≤ 1048576 := overL_len hf0
        generalize overL c0 i1 s2 s3 = rl at cs ci hrf
        have k0_0 := (HK0.out.next HB.out).cell 0
        have k0_1 := (HK0.out.next HB.out).cell 1
        have k0_2 := (HK0.out.next HB.out).cell 2
        have k0_3 := (HK0.out.next HB.out).cell 3
        go_wp2_with fail
        refine (laws_toVersion (.agg #[.slice a0_0 c0.n0 p0_0, .int .i64 c0.x1, .int .i64 c0.x2, .int .i64 c0.x3]) c0 w0 hf0 (HV0.out.next HB.out)).mono ?_
        rintro e w1 ⟨gs0_0, rfl, _, hrows0_0, hb1⟩
        have HB := hide (HB.out.trans (hb1.mono HB.out.size))
        have hsz1 := hb1.size
        clear hb1
        have HIs0 := (VersionIs.of_rows hrows0_0).hid
        have HCs0 : Hid (Below w1.heap.size w1 w1) := Below.refl _ _
        clear hrows0_0
        go_wp2_with fail
        clear k0_0 k0_1 k0_2 k0_3
        refine (cs (.agg #[.slice (some ⟨gs0_0, 0, none⟩) c0.n0 c0.n0, .int .i64 c0.x1, .int .i64 c0.x2, .int .i64 c0.x3]) w1 (HIs0.out.next HCs0.out)).mono ?_
        rintro e w2 ⟨⟨uw, rfl, how⟩, hb2⟩
        have HB := hide (HB.out.trans (hb2.mono HB.out.size))
        have HCs0 := hide (HCs0.out.trans (hb2.mono HCs0.out.size))
        have hsz2 := hb2.size
        clear hb2
        obtain ⟨wa, wp, rfl, hMw⟩ := how.mine
        have hBw := hsz2
        have HMw := hMw.hid
        clear hMw how
        clear HIs0 HCs0
        have k0_0 := (HK0.out.next HB.out).cell 0
        have k0_1 := (HK0.out.next HB.out).cell 1
        have k0_2 := (HK0.out.next HB.out).cell 2
        have k0_3 := (HK0.out.next HB.out).cell 3
        go_wp2_with fail
        clear k0_0 k0_1 k0_2 k0_3
        have HCw : Hid (Below w2.heap.size w2 w2) := Below.refl _ _
        refine (laws_toVersion (.agg #[.slice a0_0 c0.n0 p0_0, .int .i64 c0.x1, .int .i64 c0.x2, .int .i64 c0.x3]) c0 w2 hf0 (HV0.out.next HB.out)).mono ?_
        rintro e w3 ⟨gx0_0, rfl, hgx0_0, hrowx0_0, hb3⟩
        have HB := hide (HB.out.trans (hb3.mono HB.out.size))
        have HCw := hide (HCw.out.trans (hb3.mono HCw.out.size))
        have hsz3 := hb3.size
        clear hb3
        have hgl0_0 := hrowx0_0.lt
        have hbx0 := below_one w3 (.cells #[.slice (some ⟨gx0_0, 0, none⟩) c0.n0 c0.n0, .int .i64 c0.x1, .int .i64 c0.x2, .int .i64 c0.x3] 29)
        have HIx0 := ((VersionIs.of_rows hrowx0_0).next hbx0).hid
        have HRx0_0 := hidRowB (entRow_below hrowx0_0 hbx0 hgl0_0)
        have HKx0 := (BoxIs.new w3 #[.slice (some ⟨gx0_0, 0, none⟩) c0.n0 c0.n0, .int .i64 c0.x1, .int .i64 c0.x2, .int .i64 c0.x3] 29 rfl).hid
        have HB := hide (HB.out.trans (hbx0.mono HB.out.size))
        have HCw := hide (HCw.out.trans (hbx0.mono HCw.out.size))
        clear hbx0 hrowx0_0
        go_wp2_with fail
        generalize hWX : w3.alloc (.cells #[.slice (some ⟨gx0_0, 0, none⟩) c0.n0 c0.n0, .int .i64 c0.x1, .int .i64 c0.x2, .int .i64 c0.x3] 29) = X0 at HIx0 HKx0 HRx0_0 HB HCw ⊢
        clear hWX
        obtain ⟨Fx0, hFx0⟩ : ∃ F, w3.heap.size = F := ⟨_, rfl⟩
        rw [hFx0] at HKx0 hgl0_0 ⊢
        clear hFx0
        have hFxl0 := HKx0.out.lt
        have HCx0 : Hid (Below X0.heap.size X0 X0) := Below.refl _ _
        refine (ci (.agg #[.slice (some ⟨gx0_0, 0, none⟩) c0.n0 c0.n0, .int .i64 c0.x1, .int .i64 c0.x2, .int .i64 c0.x3]) X0 (HIx0.out.next HCx0.out)).mono ?_
        rintro e w4 ⟨⟨ug, rfl, hog⟩, hb4⟩
        have HB := hide (HB.out.trans (hb4.mono HB.out.size))
        have HCw := hide (HCw.out.trans (hb4.mono HCw.out.size))
        have HCx0 := hide (HCx0.out.trans (hb4.mono HCx0.out.size))
        have hsz4 := hb4.size
        clear hb4
        obtain ⟨ga, gp, rfl, hMg⟩ := hog.mine
        have hBg := hsz4
        have HMg := hMg.hid
        clear hMg hog
        have HCg : Hid (Below w4.heap.size w4 w4) := Below.refl _ _
        go_wp2_with fail
        refine (laws_eqInt64S _ _ rl.length _ _ _ w4 hrf (intAt_mine (HMg.out.next HCg.out)) (intAt_mine (HMw.out.next HCw.out))).mono ?_
        rintro e w5 ⟨rfl, hb5⟩
        have HB := hide (HB.out.trans (hb5.mono HB.out.size))
        have HCw := hide (HCw.out.trans (hb5.mono HCw.out.size))
        have HCx0 := hide (HCx0.out.trans (hb5.mono HCx0.out.size))
        have HCg := hide (HCg.out.trans (hb5.mono HCg.out.size))
        have hsz5 := hb5.size
        clear hb5
        go_wp2_with fail
        refine wp_region_noPanic ?_
        refine wp_region_held_drew (S := fun w' => BoxIs w' (w.heap.size) #[.slice a0_0 c0.n0 p0_0, .int .i64 c0.x1, .int .i64 c0.x2, .int .i64 c0.x3] 24 ∧ BoxIs w' Fx0 #[.slice (some ⟨gx0_0, 0, none⟩) c0.n0 c0.n0, .int .i64 c0.x1, .int .i64 c0.x2, .int .i64 c0.x3] 29 ∧ Below w5.heap.size w5 w') (by kernel_rfl) ⟨(HK0.out.next HB.out).next (Below.refl _ _).drew, (HKx0.out.next HCx0.out).next (Below.refl _ _).drew, (Below.refl _ _).drew⟩ (fun hHeld => ?_)
        refine wpAnyH_take (i := 0) (v := .agg #[.slice (some ⟨gx0_0, 0, none⟩) c0.n0 c0.n0, .int .i64 c0.x1, .int .i64 c0.x2, .int .i64 c0.x3]) nat0 (by kernel_rfl) (by kernel_rfl) (by kernel_rfl) (fun _ _ _ h => False.elim h) (Or.inl ⟨by rfl, ?_⟩) hHeld ?_
        · intro wx hSw
          have y0 := hSw.2.1.cell 0
          have y1 := hSw.2.1.cell 1
          have y2 := hSw.2.1.cell 2
          have y3 := hSw.2.1.cell 3
          go_simp
        simp only [Act.put, List.setIfInBounds_toArray, List.set_cons_zero, List.set_cons_succ]
        refine wpAnyH_take (i := 1) (v := .agg #[.slice a0_0 c0.n0 p0_0, .int .i64 c0.x1, .int .i64 c0.x2, .int .i64 c0.x3]) nat1 (by kernel_rfl) (by kernel_rfl) (by kernel_rfl) (fun _ _ _ h => False.elim h) (Or.inl ⟨by rfl, ?_⟩) hHeld ?_
        · intro wx hSw
          have y0 := hSw.1.cell 0
          have y1 := hSw.1.cell 1
          have y2 := hSw.1.cell 2
          have y3 := hSw.1.cell 3
          go_simp
        simp only [Act.put, List.setIfInBounds_toArray, List.set_cons_zero, List.set_cons_succ]
        refine wpAnyH_ready (rs := [2]) (by kernel_rfl) (by simp) ?_
        refine AllReadyH.cons nat2 (fun K hK => ?_) AllReadyH.nil
        go_simp
        go_at_call 11
        have hH0 := HB.out.trans (hHeld.2.2.mono HB.out.size)
        have hX0 := HCx0.out.trans (hHeld.2.2.mono HCx0.out.size)
        refine (laws_toVersion (.agg #[.slice a0_0 c0.n0 p0_0, .int .i64 c0.x1, .int .i64 c0.x2, .int .i64 c0.x3]) c0 _ hf0 (HV0.out.next hH0)).mono ?_
        rintro e wa0 ⟨gy0_0, rfl, _, hrowy0_0, hba0⟩
        have HIy0 := (VersionIs.of_rows hrowy0_0).hid
        have HIz0 := ((HIx0.out.next hX0).next hba0).hid
        refine hK.out _ _ ⟨hHeld.1.next hba0, hHeld.2.1.next hba0, hHeld.2.2.trans (hba0.mono hHeld.2.2.size)⟩ (fun hHeld2 => ?_)
        clear hK K hHeld hH0 hX0 hba0 hrowy0_0
        refine wpAnyH_ready (rs := [3]) (by kernel_rfl) (by simp) ?_
        refine AllReadyH.cons nat3 (fun K hK => ?_) AllReadyH.nil
        go_simp
        go_at_call 13
        refine (laws_eqVersion _ _ c0 _ hf0 HIz0.out HIy0.out).mono ?_
        rintro e wb0 ⟨rfl, hbb0⟩
        refine hK.out _ _ ⟨hHeld2.1.next hbb0, hHeld2.2.1.next hbb0, hHeld2.2.2.trans (hbb0.mono hHeld2.2.2.size)⟩ (fun hHeld3 => ?_)
        clear hK K hHeld2 hbb0 HIz0 HIy0
        refine wpAnyH_take (i := 4) (v := .bool false) nat4 (by kernel_rfl) (by kernel_rfl) (by kernel_rfl) (fun _ _ _ h => False.elim h) (Or.inl ⟨by rfl, ?_⟩) hHeld3 ?_
        · intro wx hSw
          go_simp
        simp only [Act.put, List.setIfInBounds_toArray, List.set_cons_zero, List.set_cons_succ]
        refine wpAnyH_done (by kernel_rfl) ?_ _
        refine NoPanic.normal ?_
        have HB := hide (HB.out.trans (hHeld3.2.2.mono HB.out.size))
        have HCw := hide (HCw.out.trans (hHeld3.2.2.mono HCw.out.size))
        have HCx0 := hide (HCx0.out.trans (hHeld3.2.2.mono HCx0.out.size))
        have HCg := hide (HCg.out.trans (hHeld3.2.2.mono HCg.out.size))
        clear hHeld3
        have ka0 := (HKx0.out.next HCx0.out).cell 0
        have ka1 := (HKx0.out.next HCx0.out).cell 1
        have ka2 := (HKx0.out.next HCx0.out).cell 2
        have ka3 := (HKx0.out.next HCx0.out).cell 3
        go_wp2_with fail
        clear ka0 ka1 ka2 ka3
        have HRn := hidRowB (entRow_below HRx0_0.out HCx0.out HRx0_0.out.lt)
        refine (laws_markVersion (1) _ (by first | rfl | (push_cast; omega)) (by have := hf0; unfold VersionC.Fit at this; omega) (some ⟨gx0_0, 0, none⟩) c0.n0 gx0_0 c0 wb0 hf0 (.inr rfl) (rowIs_mark HRn.out)).mono ?_
        rintro e w6 ⟨rfl, hm, _⟩
        have HB := hide (HB.out.trans (hm.below HB.out.size (by omega)))
        have HCw := hide (HCw.out.trans (hm.below HCw.out.size (by omega)))
        have HMg := ((HMg.out.next HCg.out).mv hm (by omega)).hid
        have HCg : Hid (Below w6.heap.size w6 w6) := Below.refl _ _
        have hszm0 := hm.size
        clear HRn hm HCx0 HRx0_0 HKx0 HIx0
        have hfn0 : c0.n0 ≤ 1048576 := hf0
        have hposx : ¬ (((1 + c0.n0 * 5 : Nat) : Int) < 0) := by omega
        go_wp2_with fail
        refine (laws_eqInt64S _ _ rl.length _ _ _ w6 hrf (intAt_mine (HMg.out.next HCg.out)) (intAt_mine (HMw.out.next HCw.out))).mono ?_
        rintro e w7 ⟨rfl, hb7⟩
        have HB := hide (HB.out.trans (hb7.mono HB.out.size))
        have HCw := hide (HCw.out.trans (hb7.mono HCw.out.size))
        have HCg := hide (HCg.out.trans (hb7.mono HCg.out.size))
        have hsz7 := hb7.size
        clear hb7
        go_wp2_with fail
        obtain ⟨g, hga, hgl, hgw⟩ := (HMg.out.next HCg.out).mark w7.heap.size
        have hCgs := HCg.out.size
        have hCws := HCw.out.size
        have hBs := HB.out.size
        refine (laws_markInt64S 1 1 rfl ⟨by omega, by omega⟩ ga rl.length gp g w7 hrf hga (fun j hj => hgw j (by omega))).mono ?_
        rintro e w8 ⟨rfl, hM⟩
        have hm := hM.mv
        have hok := hM.ok
        clear hM
        have HB := hide (HB.out.trans (hm.below HB.out.size (by omega)))
        have HCw := hide (HCw.out.trans (hm.below HCw.out.size (by omega)))
        have HOK := hide hok
        have HCg : Hid (Below w8.heap.size w8 w8) := Below.refl _ _
        clear hm hok hgw hgl hCgs hCws hBs HMg
        go_wp2_with fail
        have hkc := fun j hj => keepc HCg.out (HOK.out j hj)
        refine (laws_heldInt64S 1 1 rfl ⟨by omega, by omega⟩ ga rl.length gp g w8 hrf hga hkc).mono ?_
        rintro e w9 ⟨rfl, hb9⟩
        have HB := hide (HB.out.trans (hb9.mono HB.out.size))
        have HCw := hide (HCw.out.trans (hb9.mono HCw.out.size))
        have HCg := hide (HCg.out.trans (hb9.mono HCg.out.size))
        have hsz9 := hb9.size
        clear hb9
        clear hkc
        have hpos : ¬ (((1 + rl.length : Nat) : Int) < 0) := by omega
        have k0_0 := (HK0.out.next HB.out).cell 0
        have k0_1 := (HK0.out.next HB.out).cell 1
        have k0_2 := (HK0.out.next HB.out).cell 2
        have k0_3 := (HK0.out.next HB.out).cell 3
        go_wp2_with fail
        refine (laws_toVersion (.agg #[.slice a0_0 c0.n0 p0_0, .int .i64 c0.x1, .int .i64 c0.x2, .int .i64 c0.x3]) c0 w9 hf0 (HV0.out.next HB.out)).mono ?_
        rintro e w10 ⟨gh0_0, rfl, _, hrowh0_0, hb10⟩
        have HB := hide (HB.out.trans (hb10.mono HB.out.size))
        have HCw := hide (HCw.out.trans (hb10.mono HCw.out.size))
        have HCg := hide (HCg.out.trans (hb10.mono HCg.out.size))
        have hsz10 := hb10.size
        clear hb10
        have HIh0 := (VersionIs.of_rows hrowh0_0).hid
        have HCh0 : Hid (Below w10.heap.size w10 w10) := Below.refl _ _
        clear hrowh0_0
        go_wp2_with fail
        clear k0_0 k0_1 k0_2 k0_3
        refine (ci (.agg #[.slice (some ⟨gh0_0, 0, none⟩) c0.n0 c0.n0, .int .i64 c0.x1, .int .i64 c0.x2, .int .i64 c0.x3]) w10 (HIh0.out.next HCh0.out)).mono ?_
        rintro e w11 ⟨⟨uh, rfl, hoh⟩, hb11⟩
        have HB := hide (HB.out.trans (hb11.mono HB.out.size))
        have HCw := hide (HCw.out.trans (hb11.mono HCw.out.size))
        have HCg := hide (HCg.out.trans (hb11.mono HCg.out.size))
        have HCh0 := hide (HCh0.out.trans (hb11.mono HCh0.out.size))
        have hsz11 := hb11.size
        clear hb11
        obtain ⟨ha, hp, rfl, hMh⟩ := hoh.mine
        have hBh := hsz11
        have HMh := hMh.hid
        clear hMh hoh
        clear HIh0 HCh0
        have HCh : Hid (Below w11.heap.size w11 w11) := Below.refl _ _
        go_wp2_with fail
        refine (laws_eqInt64S _ _ rl.length _ _ _ w11 hrf (intAt_mine (HMh.out.next HCh.out)) (intAt_mine (HMw.out.next HCw.out))).mono ?_
        rintro e w12 ⟨rfl, hb12⟩
        have HB := hide (HB.out.trans (hb12.mono HB.out.size))
        have HCw := hide (HCw.out.trans (hb12.mono HCw.out.size))
        have HCg := hide (HCg.out.trans (hb12.mono HCg.out.size))
        have HCh := hide (HCh.out.trans (hb12.mono HCh.out.size))
        have hsz12 := hb12.size
        clear hb12
        go_wp2_with fail
        have hkc := fun j hj => keepc HCg.out (HOK.out j hj)
        refine (laws_heldInt64S 1 1 rfl ⟨by omega, by omega⟩ ga rl.length gp g w12 hrf hga hkc).mono ?_
        rintro e w13 ⟨rfl, hb13⟩
        have HB := hide (HB.out.trans (hb13.mono HB.out.size))
        have HCw := hide (HCw.out.trans (hb13.mono HCw.out.size))
        have HCg := hide (HCg.out.trans (hb13.mono HCg.out.size))
        have HCh := hide (HCh.out.trans (hb13.mono HCh.out.size))
        have hsz13 := hb13.size
        clear hb13
        clear hkc
        go_wp2
        go_ret
        exact ⟨rfl, HB0.out.trans (HB.out.mono HB0.out.size)⟩

end Go.Proofs.Ytmmnlkagenbofaa
