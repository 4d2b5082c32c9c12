/- The law on ReadFile. (By gen_law.py.) -/
import Derived.Test.YtkfhagibaejlnaaDskF
import Derived.Test.YtkfhagibaejlnaaBox
import Derived.Test.YtkfhagibaejlnaaNth
import Derived.Test.YtkfhagibaejlnaaReg
import Derived.Deep.RegionHeld3
namespace Go.Proofs.Ytkfhagibaejlnaa
set_option maxRecDepth 100000
open Go.RowKit Go.Deep

set_option linter.unusedSimpArgs false in
set_option linter.unusedVariables false in
set_option maxHeartbeats 4000000 in
theorem walk_ReadFile {w : World} (v0 : Value) (hv0 : ArgDisk w v0) (s1 : ByteArray) (hs1 : s1.size ≤ maxLen) (_w : World) :
    Calls Try.prog 7 #[v0, .string s1] w fun e w' => e = .returned (.bool true) ∧ Below w.heap.size w w' := by
  obtain ⟨c0, hI0, hsm0⟩ := hv0
  obtain ⟨a0_0, p0_0, a0_1, p0_1, a0_2, p0_2, rfl, hr0_0, hr0_1, hr0_2⟩ := hI0
  have hB0 : Below w.heap.size w (w.alloc (.cells #[.slice a0_0 c0.n0 p0_0, .slice a0_1 c0.n1 p0_1, .slice a0_2 c0.n2 p0_2] 25)) := (Below.refl _ _).alloc (Nat.le_refl _) _
  have hK0 : BoxIs (w.alloc (.cells #[.slice a0_0 c0.n0 p0_0, .slice a0_1 c0.n1 p0_1, .slice a0_2 c0.n2 p0_2] 25)) (w.heap.size) #[.slice a0_0 c0.n0 p0_0, .slice a0_1 c0.n1 p0_1, .slice a0_2 c0.n2 p0_2] 25 := BoxIs.new _ _ _ rfl
  have hV0 : DiskIs (w.alloc (.cells #[.slice a0_0 c0.n0 p0_0, .slice a0_1 c0.n1 p0_1, .slice a0_2 c0.n2 p0_2] 25)) (.agg #[.slice a0_0 c0.n0 p0_0, .slice a0_1 c0.n1 p0_1, .slice a0_2 c0.n2 p0_2]) c0 := (DiskIs.at_old ⟨_, _, _, _, _, _, rfl, hr0_0, hr0_1, hr0_2⟩ hB0)
  clear hr0_0 hr0_1 hr0_2
  by_cases hbig1 : (1048576 : Int) < (s1.size : Int)
  · go_enter Try.func7, Try.ntmps7
    go_wp2
    go_ret
    exact ⟨rfl, hB0⟩
  · skip
    go_enter Try.func7, Try.ntmps7
    go_wp2_with fail
    generalize hWW : w.alloc (.cells #[.slice a0_0 c0.n0 p0_0, .slice a0_1 c0.n1 p0_1, .slice a0_2 c0.n2 p0_2] 25) = W at hB0 hK0 hV0 ⊢
    clear hWW
    have HB0 : Hid (Below w.heap.size w W) := hB0
    have HK0 : Hid _ := hK0.hid
    have HV0 : Hid _ := hV0.hid
    have hKl0 := hK0.lt
    clear hB0 hK0 hV0
    have HB : Hid (Below W.heap.size W W) := Below.refl _ _
    refine (laws_szDisk (.agg #[.slice a0_0 c0.n0 p0_0, .slice a0_1 c0.n1 p0_1, .slice a0_2 c0.n2 p0_2]) c0 1048576 W hsm0 (by omega) (by omega) (HV0.out.next HB.out)).mono ?_
    rintro e w0 ⟨⟨l0, rfl, hr0⟩, hb0⟩
    have HB := hide (HB.out.trans (hb0.mono HB.out.size))
    clear hb0
    rcases hr0 with hr0 | ⟨hl00, hl10, hf0⟩
    · go_wp2
      go_ret
      exact ⟨rfl, HB0.out.trans (HB.out.mono HB0.out.size)⟩
    · have hln0 : ¬ (l0 < 0) := by omega
      have k0_0 := (HK0.out.next HB.out).cell 0
      have k0_1 := (HK0.out.next HB.out).cell 1
      have k0_2 := (HK0.out.next HB.out).cell 2
      go_wp2_with fail
      refine (laws_toDisk (.agg #[.slice a0_0 c0.n0 p0_0, .slice a0_1 c0.n1 p0_1, .slice a0_2 c0.n2 p0_2]) c0 w0 hf0 (HV0.out.next HB.out)).mono ?_
      rintro e w1 ⟨gs0_0, gs0_1, gs0_2, rfl, hgs0_0, hrows0_0, hgs0_1, hrows0_1, hgs0_2, hrows0_2, _, _, hb1⟩
      have HB := hide (HB.out.trans (hb1.mono HB.out.size))
      clear hb1
      have HIs0 := (DiskIs.of_rows hrows0_0 hrows0_1 hrows0_2).hid
      have HCs0 : Hid (Below w1.heap.size w1 w1) := Below.refl _ _
      clear hrows0_0 hrows0_1 hrows0_2
      go_wp2_with fail
      clear k0_0 k0_1 k0_2
      refine (spec_ReadFile (.agg #[.slice (some ⟨gs0_0, 0, none⟩) c0.n0 c0.n0, .slice (some ⟨gs0_1, 0, none⟩) c0.n1 c0.n1, .slice (some ⟨gs0_2, 0, none⟩) c0.n2 c0.n2]) c0 s1 w1 (by omega : s1.size ≤ 1048576) hf0 (HIs0.out.next HCs0.out)).mono ?_
      rintro e w2 ⟨rfl, hb2⟩
      have HB := hide (HB.out.trans (hb2.mono HB.out.size))
      have HCs0 := hide (HCs0.out.trans (hb2.mono HCs0.out.size))
      clear hb2
      clear HIs0 HCs0
      have k0_0 := (HK0.out.next HB.out).cell 0
      have k0_1 := (HK0.out.next HB.out).cell 1
      have k0_2 := (HK0.out.next HB.out).cell 2
      go_wp2_with fail
      clear k0_0 k0_1 k0_2
      refine (laws_toDisk (.agg #[.slice a0_0 c0.n0 p0_0, .slice a0_1 c0.n1 p0_1, .slice a0_2 c0.n2 p0_2]) c0 w2 hf0 (HV0.out.next HB.out)).mono ?_
      rintro e w3 ⟨gx0_0, gx0_1, gx0_2, rfl, hgx0_0, hrowx0_0, hgx0_1, hrowx0_1, hgx0_2, hrowx0_2, _, _, hb3⟩
      have HB := hide (HB.out.trans (hb3.mono HB.out.size))
      clear hb3
      have hbx0 := below_one w3 (.cells #[.slice (some ⟨gx0_0, 0, none⟩) c0.n0 c0.n0, .slice (some ⟨gx0_1, 0, none⟩) c0.n1 c0.n1, .slice (some ⟨gx0_2, 0, none⟩) c0.n2 c0.n2] 31)
      have HIx0 := ((DiskIs.of_rows hrowx0_0 hrowx0_1 hrowx0_2).next hbx0).hid
      have HKx0 := (BoxIs.new w3 #[.slice (some ⟨gx0_0, 0, none⟩) c0.n0 c0.n0, .slice (some ⟨gx0_1, 0, none⟩) c0.n1 c0.n1, .slice (some ⟨gx0_2, 0, none⟩) c0.n2 c0.n2] 31 rfl).hid
      have HB := hide (HB.out.trans (hbx0.mono HB.out.size))
      clear hbx0 hrowx0_0 hgx0_0 hrowx0_1 hgx0_1 hrowx0_2 hgx0_2
      go_wp2_with fail
      generalize hWX : w3.alloc (.cells #[.slice (some ⟨gx0_0, 0, none⟩) c0.n0 c0.n0, .slice (some ⟨gx0_1, 0, none⟩) c0.n1 c0.n1, .slice (some ⟨gx0_2, 0, none⟩) c0.n2 c0.n2] 31) = X0 at HIx0 HKx0 HB ⊢
      clear hWX
      obtain ⟨Fx0, hFx0⟩ : ∃ F, w3.heap.size = F := ⟨_, rfl⟩
      rw [hFx0] at HKx0 ⊢
      clear hFx0
      have HCx0 : Hid (Below X0.heap.size X0 X0) := Below.refl _ _
      refine (impl_ReadFile (.agg #[.slice (some ⟨gx0_0, 0, none⟩) c0.n0 c0.n0, .slice (some ⟨gx0_1, 0, none⟩) c0.n1 c0.n1, .slice (some ⟨gx0_2, 0, none⟩) c0.n2 c0.n2]) c0 s1 X0 (by omega : s1.size ≤ 1048576) hf0 (HIx0.out.next HCx0.out)).mono ?_
      rintro e w4 ⟨rfl, hb4⟩
      have HB := hide (HB.out.trans (hb4.mono HB.out.size))
      have HCx0 := hide (HCx0.out.trans (hb4.mono HCx0.out.size))
      clear hb4
      go_wp2_with fail
      refine wp_region_noPanic ?_
      refine wp_region_held_drew (S := fun w' => BoxIs w' (w.heap.size) #[.slice a0_0 c0.n0 p0_0, .slice a0_1 c0.n1 p0_1, .slice a0_2 c0.n2 p0_2] 25 ∧ BoxIs w' Fx0 #[.slice (some ⟨gx0_0, 0, none⟩) c0.n0 c0.n0, .slice (some ⟨gx0_1, 0, none⟩) c0.n1 c0.n1, .slice (some ⟨gx0_2, 0, none⟩) c0.n2 c0.n2] 31 ∧ Below w4.heap.size w4 w') (by kernel_rfl) ⟨(HK0.out.next HB.out).next (Below.refl _ _).drew, (HKx0.out.next HCx0.out).next (Below.refl _ _).drew, (Below.refl _ _).drew⟩ (fun hHeld => ?_)
      refine wpAnyH_take (i := 0) (v := .agg #[.slice (some ⟨gx0_0, 0, none⟩) c0.n0 c0.n0, .slice (some ⟨gx0_1, 0, none⟩) c0.n1 c0.n1, .slice (some ⟨gx0_2, 0, none⟩) c0.n2 c0.n2]) nat0 (by kernel_rfl) (by kernel_rfl) (by kernel_rfl) (fun _ _ _ h => False.elim h) (Or.inl ⟨by rfl, ?_⟩) hHeld ?_
      · intro wx hSw
        have y0 := hSw.2.1.cell 0
        have y1 := hSw.2.1.cell 1
        have y2 := hSw.2.1.cell 2
        go_simp
      simp only [Act.put, List.setIfInBounds_toArray, List.set_cons_zero, List.set_cons_succ]
      refine wpAnyH_take (i := 1) (v := .agg #[.slice a0_0 c0.n0 p0_0, .slice a0_1 c0.n1 p0_1, .slice a0_2 c0.n2 p0_2]) nat1 (by kernel_rfl) (by kernel_rfl) (by kernel_rfl) (fun _ _ _ h => False.elim h) (Or.inl ⟨by rfl, ?_⟩) hHeld ?_
      · intro wx hSw
        have y0 := hSw.1.cell 0
        have y1 := hSw.1.cell 1
        have y2 := hSw.1.cell 2
        go_simp
      simp only [Act.put, List.setIfInBounds_toArray, List.set_cons_zero, List.set_cons_succ]
      refine wpAnyH_ready (rs := [2]) (by kernel_rfl) (by simp) ?_
      refine AllReadyH.cons nat2 (fun K hK => ?_) AllReadyH.nil
      go_simp
      go_at_call 14
      have hH0 := HB.out.trans (hHeld.2.2.mono HB.out.size)
      have hX0 := HCx0.out.trans (hHeld.2.2.mono HCx0.out.size)
      refine (laws_toDisk (.agg #[.slice a0_0 c0.n0 p0_0, .slice a0_1 c0.n1 p0_1, .slice a0_2 c0.n2 p0_2]) c0 _ hf0 (HV0.out.next hH0)).mono ?_
      rintro e wa0 ⟨gy0_0, gy0_1, gy0_2, rfl, _, hrowy0_0, _, hrowy0_1, _, hrowy0_2, _, _, hba0⟩
      have HIy0 := (DiskIs.of_rows hrowy0_0 hrowy0_1 hrowy0_2).hid
      have HIz0 := ((HIx0.out.next hX0).next hba0).hid
      refine hK.out _ _ ⟨hHeld.1.next hba0, hHeld.2.1.next hba0, hHeld.2.2.trans (hba0.mono hHeld.2.2.size)⟩ (fun hHeld2 => ?_)
      clear hK K hHeld hH0 hX0 hba0 hrowy0_0 hrowy0_1 hrowy0_2
      refine wpAnyH_ready (rs := [3]) (by kernel_rfl) (by simp) ?_
      refine AllReadyH.cons nat3 (fun K hK => ?_) AllReadyH.nil
      go_simp
      go_at_call 16
      refine (laws_eqDisk _ _ c0 _ hf0 HIz0.out HIy0.out).mono ?_
      rintro e wb0 ⟨rfl, hbb0⟩
      refine hK.out _ _ ⟨hHeld2.1.next hbb0, hHeld2.2.1.next hbb0, hHeld2.2.2.trans (hbb0.mono hHeld2.2.2.size)⟩ (fun hHeld3 => ?_)
      clear hK K hHeld2 hbb0 HIz0 HIy0
      refine wpAnyH_take (i := 4) (v := .bool false) nat4 (by kernel_rfl) (by kernel_rfl) (by kernel_rfl) (fun _ _ _ h => False.elim h) (Or.inl ⟨by rfl, ?_⟩) hHeld3 ?_
      · intro wx hSw
        go_simp
      simp only [Act.put, List.setIfInBounds_toArray, List.set_cons_zero, List.set_cons_succ]
      refine wpAnyH_done (by kernel_rfl) ?_ _
      refine NoPanic.normal ?_
      have HB := hide (HB.out.trans (hHeld3.2.2.mono HB.out.size))
      have HCx0 := hide (HCx0.out.trans (hHeld3.2.2.mono HCx0.out.size))
      clear hHeld3
      go_wp2
      go_ret
      exact ⟨rfl, HB0.out.trans (HB.out.mono HB0.out.size)⟩

end Go.Proofs.Ytkfhagibaejlnaa
