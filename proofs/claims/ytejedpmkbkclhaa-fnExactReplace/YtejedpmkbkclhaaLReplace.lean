/- The law on Replace. (By gen_law4.py.) -/
import Derived.Test.YtejedpmkbkclhaaRpO
import Derived.Test.YtejedpmkbkclhaaMkDisk
import Derived.Test.YtejedpmkbkclhaaNth
import Derived.Test.YtejedpmkbkclhaaReg
import Derived.Deep.RegionHeld3
namespace Go.Proofs.Ytejedpmkbkclhaa
set_option maxRecDepth 100000
open Go.RowKit Go.Deep

set_option linter.unusedSimpArgs false in
set_option linter.unusedVariables false in
set_option maxHeartbeats 8000000 in
theorem walk_Replace {w : World} (v0 : Value) (hv0 : ArgDisk w v0) (s1 : ByteArray) (hs1 : s1.size ≤ maxLen) (s2 : ByteArray) (hs2 : s2.size ≤ maxLen) (_w : World) :
    Calls Try.prog 8 #[v0, .string s1, .string s2] w fun e w' => e = .returned (.bool true) ∧ Below w.heap.size w w' := by
  obtain ⟨c0, hI0, hsm0⟩ := hv0
  obtain ⟨a0, p0, a1, p1, a2, p2, rfl, hr0, hr1, hr2⟩ := hI0
  have hB0 : Below w.heap.size w (w.alloc (.cells #[.slice a0 c0.n0 p0, .slice a1 c0.n1 p1, .slice a2 c0.n2 p2] 25)) := (Below.refl _ _).alloc (Nat.le_refl _) _
  have hK0 : BoxIs (w.alloc (.cells #[.slice a0 c0.n0 p0, .slice a1 c0.n1 p1, .slice a2 c0.n2 p2] 25)) w.heap.size #[.slice a0 c0.n0 p0, .slice a1 c0.n1 p1, .slice a2 c0.n2 p2] 25 := BoxIs.new _ _ _ rfl
  have hV0 : DiskIs (w.alloc (.cells #[.slice a0 c0.n0 p0, .slice a1 c0.n1 p1, .slice a2 c0.n2 p2] 25)) (.agg #[.slice a0 c0.n0 p0, .slice a1 c0.n1 p1, .slice a2 c0.n2 p2]) c0 := DiskIs.at_old ⟨_, _, _, _, _, _, rfl, hr0, hr1, hr2⟩ hB0
  clear hr0 hr1 hr2
  by_cases hbig1 : (1048576 : Int) < (s1.size : Int)
  · go_enter Try.func8, Try.ntmps8
    go_wp2
    go_ret
    exact ⟨rfl, hB0⟩
  · skip
    by_cases hbig2 : (1048576 : Int) < (s2.size : Int)
    · go_enter Try.func8, Try.ntmps8
      go_wp2
      go_ret
      exact ⟨rfl, hB0⟩
    · skip
      go_enter Try.func8, Try.ntmps8
      go_wp2_with fail
      generalize hWW : w.alloc (.cells #[.slice a0 c0.n0 p0, .slice a1 c0.n1 p1, .slice a2 c0.n2 p2] 25) = W at hB0 hK0 hV0  ⊢
      clear hWW
      have HB0 : Hid (Below w.heap.size w W) := hB0
      have HK0 := hK0.hid
      have HV0 := hV0.hid
      have hKl0 := hK0.lt
      clear hB0 hK0 hV0 
      have HB : Hid (Below W.heap.size W W) := Below.refl _ _
      refine (laws_szDisk (.agg #[.slice a0 c0.n0 p0, .slice a1 c0.n1 p1, .slice a2 c0.n2 p2]) c0 1048576 W hsm0 (by omega) (by omega) (HV0.out.next HB.out)).mono ?_
      rintro e w0 ⟨⟨l0, rfl, hr0⟩, hb0⟩
      have HB := hide (HB.out.trans (hb0.mono HB.out.size))
      have hsz0 := hb0.size
      clear hb0
      rcases hr0 with hr0 | ⟨hl00, hl10, hf0⟩
      · go_wp2
        go_ret
        exact ⟨rfl, HB0.out.trans (HB.out.mono HB0.out.size)⟩
      · have hln0 : ¬ (l0 < 0) := by omega
        have cs := fun (x0 : Value) (wx : World) (y0 : DiskIs wx x0 c0) => spec_ReplaceO x0 c0 s1 s2 wx hf0 (by omega : s1.size ≤ 1048576) (by omega : s2.size ≤ 1048576) y0
        have ci := fun (x0 : Value) (wx : World) (y0 : DiskIs wx x0 c0) => impl_ReplaceO x0 c0 s1 s2 wx hf0 (by omega : s1.size ≤ 1048576) (by omega : s2.size ≤ 1048576) y0
        have hrf : (rpC c0 s1 s2).Fit := rpC_fit hf0 s1 s2 (by omega) (by omega)
        generalize rpC c0 s1 s2 = rc at cs ci hrf
        generalize rpK c0 s1 s2 = rb at cs ci hrf
        have k0 := (HK0.out.next HB.out).cell 0
        have k1 := (HK0.out.next HB.out).cell 1
        have k2 := (HK0.out.next HB.out).cell 2
        go_wp2_with fail
        refine (laws_toDisk (.agg #[.slice a0 c0.n0 p0, .slice a1 c0.n1 p1, .slice a2 c0.n2 p2]) c0 w0 hf0 (HV0.out.next HB.out)).mono ?_
        rintro e w1 ⟨gs0, gs1, gs2, rfl, hgs0, hrows0, hgs1, hrows1, hgs2, hrows2, hgos1, hgos2, hb1⟩
        have HB := hide (HB.out.trans (hb1.mono HB.out.size))
        have hsz1 := hb1.size
        clear hb1
        have HIs := (DiskIs.of_rows hrows0 hrows1 hrows2).hid
        have HCs : Hid (Below w1.heap.size w1 w1) := Below.refl _ _
        clear hrows0 hrows1 hrows2
        go_wp2_with fail
        clear k0 k1 k2
        refine (cs (.agg #[.slice (some ⟨gs0, 0, none⟩) c0.n0 c0.n0, .slice (some ⟨gs1, 0, none⟩) c0.n1 c0.n1, .slice (some ⟨gs2, 0, none⟩) c0.n2 c0.n2]) w1 (HIs.out.next HCs.out)).mono ?_
        rintro e w2 ⟨⟨uw, rfl, how⟩, hb2⟩
        have HB := hide (HB.out.trans (hb2.mono HB.out.size))
        have HCs := hide (HCs.out.trans (hb2.mono HCs.out.size))
        have hsz2 := hb2.size
        clear hb2
        obtain ⟨wa0, wp0, wa1, wp1, wa2, wp2, rfl, hMw⟩ := how.mine
        have HLw0 := hide hMw.m0.lt
        have HLw1 := hide hMw.m1.lt
        have HLw2 := hide hMw.m2.lt
        have hbb := below_one w2 (.cells #[.slice wa0 rc.n0 wp0, .slice wa1 rc.n1 wp1, .slice wa2 rc.n2 wp2] 31)
        have HMw := (hMw.next hbb).hid
        have HXw := (BoxIs.new w2 #[.slice wa0 rc.n0 wp0, .slice wa1 rc.n1 wp1, .slice wa2 rc.n2 wp2] 31 rfl).hid
        have HB := hide (HB.out.trans (hbb.mono HB.out.size))
        have HCs := hide (HCs.out.trans (hbb.mono HCs.out.size))
        clear hbb hMw how
        clear HIs HCs 
        have k0 := (HK0.out.next HB.out).cell 0
        have k1 := (HK0.out.next HB.out).cell 1
        have k2 := (HK0.out.next HB.out).cell 2
        go_wp2_with fail
        clear k0 k1 k2
        generalize hWX : w2.alloc (.cells #[.slice wa0 rc.n0 wp0, .slice wa1 rc.n1 wp1, .slice wa2 rc.n2 wp2] 31) = Vw at HMw HXw HB ⊢
        clear hWX
        obtain ⟨Fw, hFw⟩ : ∃ F, w2.heap.size = F := ⟨_, rfl⟩
        have hszw : w1.heap.size ≤ Fw := by omega
        rw [hFw] at HXw HLw0 HLw1 HLw2 ⊢
        clear hFw
        have hXwl := HXw.out.lt
        have HCw : Hid (Below Vw.heap.size Vw Vw) := Below.refl _ _
        have hBw : w1.heap.size ≤ w1.heap.size := Nat.le_refl _
        refine (laws_toDisk (.agg #[.slice a0 c0.n0 p0, .slice a1 c0.n1 p1, .slice a2 c0.n2 p2]) c0 Vw hf0 (HV0.out.next HB.out)).mono ?_
        rintro e w3 ⟨gx0, gx1, gx2, rfl, hgx0, hrowx0, hgx1, hrowx1, hgx2, hrowx2, hgox1, hgox2, hb3⟩
        have HB := hide (HB.out.trans (hb3.mono HB.out.size))
        have HCw := hide (HCw.out.trans (hb3.mono HCw.out.size))
        have hsz3 := hb3.size
        clear hb3
        have hgl2 := hrowx2.lt
        have hbx := below_one w3 (.cells #[.slice (some ⟨gx0, 0, none⟩) c0.n0 c0.n0, .slice (some ⟨gx1, 0, none⟩) c0.n1 c0.n1, .slice (some ⟨gx2, 0, none⟩) c0.n2 c0.n2] 31)
        have HIx := ((DiskIs.of_rows hrowx0 hrowx1 hrowx2).next hbx).hid
        have HAx := ((at3_rows hrowx0 hrowx1 hrowx2 hgox1 hgox2).next hbx).hid
        have HKx := (BoxIs.new w3 #[.slice (some ⟨gx0, 0, none⟩) c0.n0 c0.n0, .slice (some ⟨gx1, 0, none⟩) c0.n1 c0.n1, .slice (some ⟨gx2, 0, none⟩) c0.n2 c0.n2] 31 rfl).hid
        have HB := hide (HB.out.trans (hbx.mono HB.out.size))
        have HCw := hide (HCw.out.trans (hbx.mono HCw.out.size))
        clear hbx hrowx0 hrowx1 hrowx2
        go_wp2_with fail
        generalize hWX : w3.alloc (.cells #[.slice (some ⟨gx0, 0, none⟩) c0.n0 c0.n0, .slice (some ⟨gx1, 0, none⟩) c0.n1 c0.n1, .slice (some ⟨gx2, 0, none⟩) c0.n2 c0.n2] 31) = X0 at HIx HAx HKx HB HCw ⊢
        clear hWX
        obtain ⟨Fx, hFx⟩ : ∃ F, w3.heap.size = F := ⟨_, rfl⟩
        rw [hFx] at HKx hgl2 ⊢
        have hszFx : w3.heap.size = Fx := hFx
        have hFxl := HKx.out.lt
        have HCx : Hid (Below X0.heap.size X0 X0) := Below.refl _ _
        refine (ci (.agg #[.slice (some ⟨gx0, 0, none⟩) c0.n0 c0.n0, .slice (some ⟨gx1, 0, none⟩) c0.n1 c0.n1, .slice (some ⟨gx2, 0, none⟩) c0.n2 c0.n2]) X0 (HIx.out.next HCx.out)).mono ?_
        rintro e w4 ⟨⟨ug, rfl, hog⟩, hb4⟩
        have HB := hide (HB.out.trans (hb4.mono HB.out.size))
        have HCw := hide (HCw.out.trans (hb4.mono HCw.out.size))
        have HCx := hide (HCx.out.trans (hb4.mono HCx.out.size))
        have hsz4 := hb4.size
        clear hb4
        obtain ⟨ga0, gp0, ga1, gp1, ga2, gp2, rfl, hMg⟩ := hog.mine
        have HLg0 := hide hMg.m0.lt
        have HLg1 := hide hMg.m1.lt
        have HLg2 := hide hMg.m2.lt
        have hbb := below_one w4 (.cells #[.slice ga0 rc.n0 gp0, .slice ga1 rc.n1 gp1, .slice ga2 rc.n2 gp2] 31)
        have HMg := (hMg.next hbb).hid
        have HXg := (BoxIs.new w4 #[.slice ga0 rc.n0 gp0, .slice ga1 rc.n1 gp1, .slice ga2 rc.n2 gp2] 31 rfl).hid
        have HB := hide (HB.out.trans (hbb.mono HB.out.size))
        have HCw := hide (HCw.out.trans (hbb.mono HCw.out.size))
        have HCx := hide (HCx.out.trans (hbb.mono HCx.out.size))
        clear hbb hMg hog
        have kb0 := (HXw.out.next HCw.out).cell 0
        have kb1 := (HXw.out.next HCw.out).cell 1
        have kb2 := (HXw.out.next HCw.out).cell 2
        go_wp2_with fail
        clear kb0 kb1 kb2
        generalize hWX : w4.alloc (.cells #[.slice ga0 rc.n0 gp0, .slice ga1 rc.n1 gp1, .slice ga2 rc.n2 gp2] 31) = Vg at HMg HXg HB HCw HCx ⊢
        clear hWX
        obtain ⟨Fg, hFg⟩ : ∃ F, w4.heap.size = F := ⟨_, rfl⟩
        have hszg : X0.heap.size ≤ Fg := by omega
        rw [hFg] at HXg HLg0 HLg1 HLg2 ⊢
        clear hFg
        have hXgl := HXg.out.lt
        have HCg : Hid (Below Vg.heap.size Vg Vg) := Below.refl _ _
        have hBg : X0.heap.size ≤ X0.heap.size := Nat.le_refl _
        refine (laws_eqDisk _ _ rc Vg hrf (HMg.out.next HCg.out).is (HMw.out.next HCw.out).is).mono ?_
        rintro e w5 ⟨rfl, hb5⟩
        have HB := hide (HB.out.trans (hb5.mono HB.out.size))
        have HCw := hide (HCw.out.trans (hb5.mono HCw.out.size))
        have HCx := hide (HCx.out.trans (hb5.mono HCx.out.size))
        have HCg := hide (HCg.out.trans (hb5.mono HCg.out.size))
        have hsz5 := hb5.size
        clear hb5
        go_wp2_with fail
        refine wp_region_noPanic ?_
        refine wp_region_held_drew (S := fun w' => BoxIs w' w.heap.size #[.slice a0 c0.n0 p0, .slice a1 c0.n1 p1, .slice a2 c0.n2 p2] 25 ∧ BoxIs w' Fx #[.slice (some ⟨gx0, 0, none⟩) c0.n0 c0.n0, .slice (some ⟨gx1, 0, none⟩) c0.n1 c0.n1, .slice (some ⟨gx2, 0, none⟩) c0.n2 c0.n2] 31 ∧ Below w5.heap.size w5 w') (by kernel_rfl) ⟨(HK0.out.next HB.out).next (Below.refl _ _).drew, (HKx.out.next HCx.out).next (Below.refl _ _).drew, (Below.refl _ _).drew⟩ (fun hHeld => ?_)
        refine wpAnyH_take (i := 0) (v := .agg #[.slice (some ⟨gx0, 0, none⟩) c0.n0 c0.n0, .slice (some ⟨gx1, 0, none⟩) c0.n1 c0.n1, .slice (some ⟨gx2, 0, none⟩) c0.n2 c0.n2]) nat0 (by kernel_rfl) (by kernel_rfl) (by kernel_rfl) (fun _ _ _ h => False.elim h) (Or.inl ⟨by rfl, ?_⟩) hHeld ?_
        · intro wx hSw
          have y0 := hSw.2.1.cell 0
          have y1 := hSw.2.1.cell 1
          have y2 := hSw.2.1.cell 2
          go_simp
        simp only [Act.put, List.setIfInBounds_toArray, List.set_cons_zero, List.set_cons_succ]
        refine wpAnyH_take (i := 1) (v := .agg #[.slice a0 c0.n0 p0, .slice a1 c0.n1 p1, .slice a2 c0.n2 p2]) nat1 (by kernel_rfl) (by kernel_rfl) (by kernel_rfl) (fun _ _ _ h => False.elim h) (Or.inl ⟨by rfl, ?_⟩) hHeld ?_
        · intro wx hSw
          have y0 := hSw.1.cell 0
          have y1 := hSw.1.cell 1
          have y2 := hSw.1.cell 2
          go_simp
        simp only [Act.put, List.setIfInBounds_toArray, List.set_cons_zero, List.set_cons_succ]
        refine wpAnyH_ready (rs := [2]) (by kernel_rfl) (by simp) ?_
        refine AllReadyH.cons nat2 (fun K hK => ?_) AllReadyH.nil
        go_simp
        go_at_call 14
        have hH0 := HB.out.trans (hHeld.2.2.mono HB.out.size)
        have hX0 := HCx.out.trans (hHeld.2.2.mono HCx.out.size)
        refine (laws_toDisk (.agg #[.slice a0 c0.n0 p0, .slice a1 c0.n1 p1, .slice a2 c0.n2 p2]) c0 _ hf0 (HV0.out.next hH0)).mono ?_
        rintro e wa0 ⟨gy0, gy1, gy2, rfl, _, hrowy0, _, hrowy1, _, hrowy2, _, _, hba0⟩
        have HIy0 := (DiskIs.of_rows hrowy0 hrowy1 hrowy2).hid
        have HIz0 := ((HIx.out.next hX0).next hba0).hid
        refine hK.out _ _ ⟨hHeld.1.next hba0, hHeld.2.1.next hba0, hHeld.2.2.trans (hba0.mono hHeld.2.2.size)⟩ (fun hHeld2 => ?_)
        clear hK K hHeld hH0 hX0 hba0 hrowy0 hrowy1 hrowy2
        refine wpAnyH_ready (rs := [3]) (by kernel_rfl) (by simp) ?_
        refine AllReadyH.cons nat3 (fun K hK => ?_) AllReadyH.nil
        go_simp
        go_at_call 16
        refine (laws_eqDisk _ _ c0 _ hf0 HIz0.out HIy0.out).mono ?_
        rintro e wb0 ⟨rfl, hbb0⟩
        refine hK.out _ _ ⟨hHeld2.1.next hbb0, hHeld2.2.1.next hbb0, hHeld2.2.2.trans (hbb0.mono hHeld2.2.2.size)⟩ (fun hHeld3 => ?_)
        clear hK K hHeld2 hbb0 HIz0 HIy0
        refine wpAnyH_take (i := 4) (v := .bool false) nat4 (by kernel_rfl) (by kernel_rfl) (by kernel_rfl) (fun _ _ _ h => False.elim h) (Or.inl ⟨by rfl, ?_⟩) hHeld3 ?_
        · intro wx hSw
          go_simp
        simp only [Act.put, List.setIfInBounds_toArray, List.set_cons_zero, List.set_cons_succ]
        refine wpAnyH_done (by kernel_rfl) ?_ _
        refine NoPanic.normal ?_
        have HB := hide (HB.out.trans (hHeld3.2.2.mono HB.out.size))
        have HCw := hide (HCw.out.trans (hHeld3.2.2.mono HCw.out.size))
        have HCx := hide (HCx.out.trans (hHeld3.2.2.mono HCx.out.size))
        have HCg := hide (HCg.out.trans (hHeld3.2.2.mono HCg.out.size))
        have hszwb := hHeld3.2.2.size
        clear hHeld3
        have ka0 := (HKx.out.next HCx.out).cell 0
        have ka1 := (HKx.out.next HCx.out).cell 1
        have ka2 := (HKx.out.next HCx.out).cell 2
        go_wp2_with fail
        clear ka0 ka1 ka2
        have hfit0 := hf0.1
        refine (laws_markDisk 1 1 rfl ⟨by omega, by omega⟩ (some ⟨gx0, 0, none⟩) c0.n0 gx0 (some ⟨gx1, 0, none⟩) c0.n1 gx1 (some ⟨gx2, 0, none⟩) c0.n2 gx2 c0 wb0 hf0 (HAx.out.next HCx.out)).mono ?_
        rintro e w6 ⟨rfl, hm, _⟩
        have HMg := ((HMg.out.next HCg.out).m3 hm (.inr (by omega)) (.inr (by omega)) (.inr (by omega))).hid
        have HXg := (hm.box (HXg.out.next HCg.out) (.inr (by omega)) (.inr (by omega)) (.inr (by omega))).hid
        have HB := hide (HB.out.trans (hm.below HB.out.size (.inr (by omega)) (.inr (by omega)) (.inr (by omega))))
        have HCw := hide (HCw.out.trans (hm.below HCw.out.size (.inr (by omega)) (.inr (by omega)) (.inr (by omega))))
        have HCg : Hid (Below w6.heap.size w6 w6) := Below.refl _ _
        have hszmw6 := hm.size
        clear hm HCx HKx HIx HAx 
        have hposx : ¬ (((1 + c0.n0 * 2 + c0.n1 * 2 + c0.n2 * 4 : Nat) : Int) < 0) := by omega
        have ka0 := (HXg.out.next HCg.out).cell 0
        have ka1 := (HXg.out.next HCg.out).cell 1
        have ka2 := (HXg.out.next HCg.out).cell 2
        have kb0 := (HXw.out.next HCw.out).cell 0
        have kb1 := (HXw.out.next HCw.out).cell 1
        have kb2 := (HXw.out.next HCw.out).cell 2
        go_wp2_with fail
        clear ka0 ka1 ka2 kb0 kb1 kb2
        refine (laws_eqDisk _ _ rc w6 hrf (HMg.out.next HCg.out).is (HMw.out.next HCw.out).is).mono ?_
        rintro e w7 ⟨rfl, hb7⟩
        have HB := hide (HB.out.trans (hb7.mono HB.out.size))
        have HCw := hide (HCw.out.trans (hb7.mono HCw.out.size))
        have HCg := hide (HCg.out.trans (hb7.mono HCg.out.size))
        have hsz7 := hb7.size
        clear hb7
        have ka0 := (HXg.out.next HCg.out).cell 0
        have ka1 := (HXg.out.next HCg.out).cell 1
        have ka2 := (HXg.out.next HCg.out).cell 2
        go_wp2_with fail
        clear ka0 ka1 ka2
        obtain ⟨g0, g1, g2, hA, hq0, hq1, hq2⟩ := (HMg.out.next HCg.out).at3
        have hfr := hrf.1
        have hA0 := hA.a0
        have hF0 : rc.n0 = 0 ∨ Fg ≠ g0 := hA0.imp id (fun e => by have := HLg0.out g0 e; omega)
        have hA1 := hA.a1
        have hF1 : rc.n1 = 0 ∨ Fg ≠ g1 := hA1.imp id (fun e => by have := HLg1.out g1 e; omega)
        have hA2 := hA.a2
        have hF2 : rc.n2 = 0 ∨ Fg ≠ g2 := hA2.imp id (fun e => by have := HLg2.out g2 e; omega)
        refine (laws_markDisk 1 1 rfl ⟨by omega, by omega⟩ ga0 gp0 g0 ga1 gp1 g1 ga2 gp2 g2 rc w7 hrf hA).mono ?_
        rintro e w8 ⟨rfl, hm, hok⟩
        have HB := hide (HB.out.trans (hm.below HB.out.size (by omega) (by omega) (by omega)))
        have HCw := hide (HCw.out.trans (hm.below HCw.out.size (by omega) (by omega) (by omega)))
        have HXg := (hm.box (HXg.out.next HCg.out) hF0 hF1 hF2).hid
        have HOK := hok.hid
        have HCg : Hid (Below w8.heap.size w8 w8) := Below.refl _ _
        have hszmg := hm.size
        clear hm hok hA HMg
        have ka0 := (HXg.out.next HCg.out).cell 0
        have ka1 := (HXg.out.next HCg.out).cell 1
        have ka2 := (HXg.out.next HCg.out).cell 2
        go_wp2_with fail
        clear ka0 ka1 ka2
        refine (laws_heldDisk 1 1 rfl ⟨by omega, by omega⟩ ga0 gp0 g0 ga1 gp1 g1 ga2 gp2 g2 rc w8 hrf hA0 hA1 hA2 (HOK.out.next HCg.out)).mono ?_
        rintro e w9 ⟨rfl, hb9⟩
        have HB := hide (HB.out.trans (hb9.mono HB.out.size))
        have HCw := hide (HCw.out.trans (hb9.mono HCw.out.size))
        have HCg := hide (HCg.out.trans (hb9.mono HCg.out.size))
        have hsz9 := hb9.size
        clear hb9
        have hpos : ¬ (((1 + rc.n0 * 2 + rc.n1 * 2 + rc.n2 * 4 : Nat) : Int) < 0) := by omega
        have k0 := (HK0.out.next HB.out).cell 0
        have k1 := (HK0.out.next HB.out).cell 1
        have k2 := (HK0.out.next HB.out).cell 2
        go_wp2_with fail
        refine (laws_toDisk (.agg #[.slice a0 c0.n0 p0, .slice a1 c0.n1 p1, .slice a2 c0.n2 p2]) c0 w9 hf0 (HV0.out.next HB.out)).mono ?_
        rintro e w10 ⟨gh0, gh1, gh2, rfl, hgh0, hrowh0, hgh1, hrowh1, hgh2, hrowh2, hgoh1, hgoh2, hb10⟩
        have HB := hide (HB.out.trans (hb10.mono HB.out.size))
        have HCw := hide (HCw.out.trans (hb10.mono HCw.out.size))
        have HCg := hide (HCg.out.trans (hb10.mono HCg.out.size))
        have hsz10 := hb10.size
        clear hb10
        have HIh := (DiskIs.of_rows hrowh0 hrowh1 hrowh2).hid
        have HCh : Hid (Below w10.heap.size w10 w10) := Below.refl _ _
        clear hrowh0 hrowh1 hrowh2
        go_wp2_with fail
        clear k0 k1 k2
        refine (ci (.agg #[.slice (some ⟨gh0, 0, none⟩) c0.n0 c0.n0, .slice (some ⟨gh1, 0, none⟩) c0.n1 c0.n1, .slice (some ⟨gh2, 0, none⟩) c0.n2 c0.n2]) w10 (HIh.out.next HCh.out)).mono ?_
        rintro e w11 ⟨⟨uh, rfl, hoh⟩, hb11⟩
        have HB := hide (HB.out.trans (hb11.mono HB.out.size))
        have HCw := hide (HCw.out.trans (hb11.mono HCw.out.size))
        have HCg := hide (HCg.out.trans (hb11.mono HCg.out.size))
        have HCh := hide (HCh.out.trans (hb11.mono HCh.out.size))
        have hsz11 := hb11.size
        clear hb11
        obtain ⟨ha0, hp0, ha1, hp1, ha2, hp2, rfl, hMh⟩ := hoh.mine
        have HLh0 := hide hMh.m0.lt
        have HLh1 := hide hMh.m1.lt
        have HLh2 := hide hMh.m2.lt
        have hbb := below_one w11 (.cells #[.slice ha0 rc.n0 hp0, .slice ha1 rc.n1 hp1, .slice ha2 rc.n2 hp2] 31)
        have HMh := (hMh.next hbb).hid
        have HXh := (BoxIs.new w11 #[.slice ha0 rc.n0 hp0, .slice ha1 rc.n1 hp1, .slice ha2 rc.n2 hp2] 31 rfl).hid
        have HB := hide (HB.out.trans (hbb.mono HB.out.size))
        have HCw := hide (HCw.out.trans (hbb.mono HCw.out.size))
        have HCg := hide (HCg.out.trans (hbb.mono HCg.out.size))
        have HCh := hide (HCh.out.trans (hbb.mono HCh.out.size))
        clear hbb hMh hoh
        clear HIh HCh 
        have kb0 := (HXw.out.next HCw.out).cell 0
        have kb1 := (HXw.out.next HCw.out).cell 1
        have kb2 := (HXw.out.next HCw.out).cell 2
        go_wp2_with fail
        clear kb0 kb1 kb2
        generalize hWX : w11.alloc (.cells #[.slice ha0 rc.n0 hp0, .slice ha1 rc.n1 hp1, .slice ha2 rc.n2 hp2] 31) = Vh at HMh HXh HB HCw HCg ⊢
        clear hWX
        obtain ⟨Fh, hFh⟩ : ∃ F, w11.heap.size = F := ⟨_, rfl⟩
        have hszh : w10.heap.size ≤ Fh := by omega
        rw [hFh] at HXh HLh0 HLh1 HLh2 ⊢
        clear hFh
        have hXhl := HXh.out.lt
        have HCh : Hid (Below Vh.heap.size Vh Vh) := Below.refl _ _
        have hBh : w10.heap.size ≤ w10.heap.size := Nat.le_refl _
        refine (laws_eqDisk _ _ rc Vh hrf (HMh.out.next HCh.out).is (HMw.out.next HCw.out).is).mono ?_
        rintro e w12 ⟨rfl, hb12⟩
        have HB := hide (HB.out.trans (hb12.mono HB.out.size))
        have HCw := hide (HCw.out.trans (hb12.mono HCw.out.size))
        have HCg := hide (HCg.out.trans (hb12.mono HCg.out.size))
        have HCh := hide (HCh.out.trans (hb12.mono HCh.out.size))
        have hsz12 := hb12.size
        clear hb12
        have ka0 := (HXg.out.next HCg.out).cell 0
        have ka1 := (HXg.out.next HCg.out).cell 1
        have ka2 := (HXg.out.next HCg.out).cell 2
        go_wp2_with fail
        clear ka0 ka1 ka2
        refine (laws_heldDisk 1 1 rfl ⟨by omega, by omega⟩ ga0 gp0 g0 ga1 gp1 g1 ga2 gp2 g2 rc w12 hrf hA0 hA1 hA2 (HOK.out.next HCg.out)).mono ?_
        rintro e w13 ⟨rfl, hb13⟩
        have HB := hide (HB.out.trans (hb13.mono HB.out.size))
        have HCw := hide (HCw.out.trans (hb13.mono HCw.out.size))
        have HCg := hide (HCg.out.trans (hb13.mono HCg.out.size))
        have HCh := hide (HCh.out.trans (hb13.mono HCh.out.size))
        have hsz13 := hb13.size
        clear hb13
        go_wp2
        go_ret
        exact ⟨rfl, HB0.out.trans (HB.out.mono HB0.out.size)⟩

end Go.Proofs.Ytejedpmkbkclhaa
