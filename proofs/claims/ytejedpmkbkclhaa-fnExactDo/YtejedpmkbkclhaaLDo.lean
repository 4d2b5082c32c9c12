/- The law on Do. (By gen_law5.py.) -/
import Derived.Test.YtejedpmkbkclhaaDoO
import Derived.Test.YtejedpmkbkclhaaMkDisk
import Derived.Test.YtejedpmkbkclhaaNth
import Derived.Test.YtejedpmkbkclhaaReg
import Derived.Deep.RegionHeld3
namespace Go.Proofs.Ytejedpmkbkclhaa
set_option maxRecDepth 100000
open Go.RowKit Go.Deep

set_option linter.unusedSimpArgs false in
set_option linter.unusedVariables false in
set_option maxHeartbeats 8000000 in
theorem walk_Do {w : World} (v0 : Value) (hv0 : ArgDisk w v0) (v1 : Value) (hv1 : IsDOp v1) (_w : World) :
    Calls Try.prog 4 #[v0, v1] w fun e w' => e = .returned (.bool true) ∧ Below w.heap.size w w' := by
  obtain ⟨c0, hI0, hsm0⟩ := hv0
  obtain ⟨a0, p0, a1, p1, a2, p2, rfl, hr0, hr1, hr2⟩ := hI0
  obtain ⟨ok, om, os, od, rfl, hm1, hs1, hd1⟩ := hv1
  have hB0 : Below w.heap.size w ((w.alloc (.cells #[.slice a0 c0.n0 p0, .slice a1 c0.n1 p1, .slice a2 c0.n2 p2] 25)).alloc (.cells #[.int .i64 ok, .string om, .string os, .string od] 36)) := ((Below.refl _ _).alloc (Nat.le_refl _) _).alloc (by simp) _
  have hK0 : BoxIs ((w.alloc (.cells #[.slice a0 c0.n0 p0, .slice a1 c0.n1 p1, .slice a2 c0.n2 p2] 25)).alloc (.cells #[.int .i64 ok, .string om, .string os, .string od] 36)) w.heap.size #[.slice a0 c0.n0 p0, .slice a1 c0.n1 p1, .slice a2 c0.n2 p2] 25 := (BoxIs.new _ _ _ rfl).next (below_one _ _)
  have hK1 : BoxIs ((w.alloc (.cells #[.slice a0 c0.n0 p0, .slice a1 c0.n1 p1, .slice a2 c0.n2 p2] 25)).alloc (.cells #[.int .i64 ok, .string om, .string os, .string od] 36)) (w.heap.size + 1) #[.int .i64 ok, .string om, .string os, .string od] 36 := BoxIs.new _ _ _ (by simp)
  have hV0 : DiskIs ((w.alloc (.cells #[.slice a0 c0.n0 p0, .slice a1 c0.n1 p1, .slice a2 c0.n2 p2] 25)).alloc (.cells #[.int .i64 ok, .string om, .string os, .string od] 36)) (.agg #[.slice a0 c0.n0 p0, .slice a1 c0.n1 p1, .slice a2 c0.n2 p2]) c0 := DiskIs.at_old ⟨_, _, _, _, _, _, rfl, hr0, hr1, hr2⟩ hB0
  clear hr0 hr1 hr2
  go_enter Try.func4, Try.ntmps4
  go_wp2_with fail
  generalize hWW : (w.alloc (.cells #[.slice a0 c0.n0 p0, .slice a1 c0.n1 p1, .slice a2 c0.n2 p2] 25)).alloc (.cells #[.int .i64 ok, .string om, .string os, .string od] 36) = W at hB0 hK0 hK1 hV0  ⊢
  clear hWW
  have HB0 : Hid (Below w.heap.size w W) := hB0
  have HK0 := hK0.hid
  have HK1 := hK1.hid
  have HV0 := hV0.hid
  have hKl0 := hK1.lt
  clear hB0 hK0 hK1 hV0 
  have HB : Hid (Below W.heap.size W W) := Below.refl _ _
  refine (laws_szDisk (.agg #[.slice a0 c0.n0 p0, .slice a1 c0.n1 p1, .slice a2 c0.n2 p2]) c0 1048576 W hsm0 (by omega) (by omega) (HV0.out.next HB.out)).mono ?_
  rintro e w0 ⟨⟨l0, rfl, hr0⟩, hb0⟩
  have HB := hide (HB.out.trans (hb0.mono HB.out.size))
  have hsz0 := hb0.size
  clear hb0
  rcases hr0 with hr0 | ⟨hl00, hl10, hf0⟩
  · go_wp2
    go_ret
    exact ⟨rfl, HB0.out.trans (HB.out.mono HB0.out.size)⟩
  · have hln0 : ¬ (l0 < 0) := by omega
    have o0 := (HK1.out.next HB.out).cell 0
    have o1 := (HK1.out.next HB.out).cell 1
    have o2 := (HK1.out.next HB.out).cell 2
    have o3 := (HK1.out.next HB.out).cell 3
    go_wp2_with fail
    clear o0 o1 o2 o3
    refine (laws_szDOp ok om os od l0 hm1 hs1 hd1 ⟨by omega, by omega⟩ w0).mono ?_
    rintro e w1 ⟨rfl, hb1⟩
    have HB := hide (HB.out.trans (hb1.mono HB.out.size))
    have hsz1 := hb1.size
    clear hb1
    by_cases hlo : l0 < (om.size : Int) + (os.size : Int) + (od.size : Int)
    · rw [if_pos hlo]
      go_wp2
      go_ret
      exact ⟨rfl, HB0.out.trans (HB.out.mono HB0.out.size)⟩
    · rw [if_neg hlo]
      have hm2 : om.size ≤ 1048576 := by omega
      have hs2 : os.size ≤ 1048576 := by omega
      have hd2 : od.size ≤ 1048576 := by omega
      have hlp : ¬ (l0 - (om.size : Int) - (os.size : Int) - (od.size : Int) < 0) := by omega
      have cs := fun (x0 : Value) (wx : World) (y0 : DiskIs wx x0 c0) => spec_DoO x0 c0 ok om os od wx hf0 hm2 hs2 hd2 y0
      have ci := fun (x0 : Value) (wx : World) (y0 : DiskIs wx x0 c0) => impl_DoO x0 c0 ok om os od wx hf0 hm2 hs2 hd2 y0
      have hrf : (doC c0 ⟨ok, om, os, od⟩).Fit := doC_fit hf0 hm2 hs2 hd2
      generalize doC c0 ⟨ok, om, os, od⟩ = rc at cs ci hrf
      generalize doK c0 ⟨ok, om, os, od⟩ = rb at cs ci hrf
      go_upto_region 8 with fail
      go_cut [6, 7] (fun tp tq wx => ∃ (N : Nat) (q0 : Option Addr) (r0 : Nat) (q1 : Option Addr) (r1 : Nat) (q2 : Option Addr) (r2 : Nat), tp = .pointer (some ⟨N, 0, none⟩) ∧ tq = .int .i64 rb ∧ w1.heap.size ≤ N ∧ Hid (Below w1.heap.size w1 wx) ∧ Hid (BoxIs wx N #[.slice q0 rc.n0 r0, .slice q1 rc.n1 r1, .slice q2 rc.n2 r2] 31) ∧ Hid (Mine3 wx w1.heap.size q0 r0 q1 r1 q2 r2 rc))
      case first =>
        have LO : Below w1.heap.size w1 w1 := Below.refl _ _
        have hWs := HB.out.size
        have K0 := HK0.out.next HB.out
        have K1 := HK1.out.next HB.out
        refine wp_region_noPanic ?_
        have hb0 : Below w1.heap.size w1 w1.drew := (Below.refl _ _).drew
        have LO_0 := LO.trans (hb0.mono LO.size)
        have K1_0 := K1.next hb0
        have K0_0 := K0.next hb0
        refine wp_region_held_drew (S := fun x => BoxIs x w.heap.size #[.slice a0 c0.n0 p0, .slice a1 c0.n1 p1, .slice a2 c0.n2 p2] 25 ∧ BoxIs x (w.heap.size + 1) #[.int .i64 ok, .string om, .string os, .string od] 36) (by kernel_rfl) ⟨K0_0, K1_0⟩ (fun hSz => ?_)
        clear hSz K0 K1 LO
        generalize w1.drew = wq0 at hb0 LO_0 K1_0 K0_0 ⊢
        clear hb0
        refine wpAnyH_take (i := 0) (v := .agg #[.slice a0 c0.n0 p0, .slice a1 c0.n1 p1, .slice a2 c0.n2 p2]) nat0 (by kernel_rfl) (by kernel_rfl) (by kernel_rfl) (fun _ _ _ h => False.elim h) (Or.inl ⟨by rfl, ?_⟩) ⟨K0_0, K1_0⟩ ?_
        · intro wx hSw
          have y0 := hSw.1.cell 0
          have y1 := hSw.1.cell 1
          have y2 := hSw.1.cell 2
          simp only [List.getElem?_toArray, List.getElem?_cons_succ, List.getElem?_cons_zero] at y0 y1 y2
          go_simp
        simp only [Act.put, List.setIfInBounds_toArray, List.set_cons_zero, List.set_cons_succ]
        refine wpAnyH_take (i := 2) (v := .agg #[.int .i64 ok, .string om, .string os, .string od]) nat2 (by kernel_rfl) (by kernel_rfl) (by kernel_rfl) (fun _ _ _ h => False.elim h) (Or.inl ⟨by rfl, ?_⟩) ⟨K0_0, K1_0⟩ ?_
        · intro wx hSw
          have y0 := hSw.2.cell 0
          have y1 := hSw.2.cell 1
          have y2 := hSw.2.cell 2
          have y3 := hSw.2.cell 3
          simp only [List.getElem?_toArray, List.getElem?_cons_succ, List.getElem?_cons_zero] at y0 y1 y2 y3
          go_simp
        simp only [Act.put, List.setIfInBounds_toArray, List.set_cons_zero, List.set_cons_succ]
        refine wpAnyH_ready (rs := [1, 8]) (by kernel_rfl) (by simp) ?_
        refine AllReadyH.cons nat1 (fun K hK => ?_) (AllReadyH.cons nat8 (fun K hK => ?_) AllReadyH.nil)
        · go_simp
          go_at_call 14
          refine (laws_toDisk (.agg #[.slice a0 c0.n0 p0, .slice a1 c0.n1 p1, .slice a2 c0.n2 p2]) c0 wq0 hf0 (HV0.out.next (HB.out.trans (LO_0.mono HB.out.size)))).mono ?_
          rintro e wq1 ⟨gy1_0, gy1_1, gy1_2, rfl, _, hy1_0, _, hy1_1, _, hy1_2, _, _, hb1⟩
          have LO_1 := LO_0.trans (hb1.mono LO_0.size)
          have K1_1 := K1_0.next hb1
          have K0_1 := K0_0.next hb1
          have IV_1 := DiskIs.of_rows hy1_0 hy1_1 hy1_2
          refine hK.out _ _ ⟨K0_1, K1_1⟩ (fun hSz => ?_)
          clear hK K hSz K0_0 K1_0 LO_0 hb1 hy1_0 hy1_1 hy1_2
          refine wpAnyH_ready (rs := [3, 8]) (by kernel_rfl) (by simp) ?_
          refine AllReadyH.cons nat3 (fun K hK => ?_) (AllReadyH.cons nat8 (fun K hK => ?_) AllReadyH.nil)
          · go_simp
            go_at_call 19
            refine (laws_toDOp ok om os od wq1).mono ?_
            rintro e wq2 ⟨rfl, hb2⟩
            have LO_2 := LO_1.trans (hb2.mono LO_1.size)
            have K1_2 := K1_1.next hb2
            have K0_2 := K0_1.next hb2
            have IV_2 := IV_1.next hb2
            refine hK.out _ _ ⟨K0_2, K1_2⟩ (fun hSz => ?_)
            clear hK K hSz IV_1 K0_1 K1_1 LO_1 hb2
            refine wpAnyH_ready (rs := [4, 8]) (by kernel_rfl) (by simp) ?_
            refine AllReadyH.cons nat4 (fun K hK => ?_) (AllReadyH.cons nat8 (fun K hK => ?_) AllReadyH.nil)
            · go_simp
              go_at_call 18
              refine (cs (.agg #[.slice (some ⟨gy1_0, 0, none⟩) c0.n0 c0.n0, .slice (some ⟨gy1_1, 0, none⟩) c0.n1 c0.n1, .slice (some ⟨gy1_2, 0, none⟩) c0.n2 c0.n2]) wq2 IV_2).mono ?_
              rintro e wq3 ⟨⟨u3, rfl, ho3⟩, hb3⟩
              obtain ⟨ya3_0, yp3_0, ya3_1, yp3_1, ya3_2, yp3_2, rfl, hM3⟩ := ho3.mine
              have LO_3 := LO_2.trans (hb3.mono LO_2.size)
              have K1_3 := K1_2.next hb3
              have K0_3 := K0_2.next hb3
              have IV_3 := IV_2.next hb3
              have HM_3 := hM3.base LO_2.size
              refine hK.out _ _ ⟨K0_3, K1_3⟩ (fun hSz => ?_)
              clear hK K hSz IV_2 K0_2 K1_2 LO_2 hb3 hM3
              refine wpAnyH_take (i := 5) (v := .tuple #[.agg #[.slice ya3_0 rc.n0 yp3_0, .slice ya3_1 rc.n1 yp3_1, .slice ya3_2 rc.n2 yp3_2], .int .i64 rb]) nat5 (by kernel_rfl) (by kernel_rfl) (by kernel_rfl) (fun _ _ _ h => False.elim h) (Or.inl ⟨by rfl, ?_⟩) ⟨K0_3, K1_3⟩ ?_
              · intro wx hSw
                go_simp
              simp only [Act.put, List.setIfInBounds_toArray, List.set_cons_zero, List.set_cons_succ]
              refine wpAnyH_take (i := 6) (v := .agg #[.slice ya3_0 rc.n0 yp3_0, .slice ya3_1 rc.n1 yp3_1, .slice ya3_2 rc.n2 yp3_2]) nat6 (by kernel_rfl) (by kernel_rfl) (by kernel_rfl) (fun _ _ _ h => False.elim h) (Or.inl ⟨by rfl, ?_⟩) ⟨K0_3, K1_3⟩ ?_
              · intro wx hSw
                go_simp
              simp only [Act.put, List.setIfInBounds_toArray, List.set_cons_zero, List.set_cons_succ]
              refine wpAnyH_take (i := 7) (v := .int .i64 rb) nat7 (by kernel_rfl) (by kernel_rfl) (by kernel_rfl) (fun _ _ _ h => False.elim h) (Or.inl ⟨by rfl, ?_⟩) ⟨K0_3, K1_3⟩ ?_
              · intro wx hSw
                go_simp
              simp only [Act.put, List.setIfInBounds_toArray, List.set_cons_zero, List.set_cons_succ]
              refine wpAnyH_ready (rs := [8]) (by kernel_rfl) (by simp) ?_
              refine AllReadyH.cons nat8 (fun K hK => ?_) AllReadyH.nil
              go_simp
              have hlt4 : w1.heap.size ≤ wq3.heap.size := LO_3.size
              have hb4 := below_one wq3 (.cells #[.slice none 0 0, .slice none 0 0, .slice none 0 0] 31)
              have LO_4 := LO_3.trans (hb4.mono LO_3.size)
              have K1_4 := K1_3.next hb4
              have K0_4 := K0_3.next hb4
              have IV_4 := IV_3.next hb4
              have HM_4 := HM_3.next hb4
              have NB6_4 := BoxIs.new wq3 #[.slice none 0 0, .slice none 0 0, .slice none 0 0] 31 rfl
              refine hK.out _ _ ⟨K0_4, K1_4⟩ (fun hSz => ?_)
              clear hK K hSz HM_3 IV_3 K0_3 K1_3 LO_3
              obtain ⟨G4, hG4⟩ : ∃ G, G = wq3.heap.size := ⟨_, rfl⟩
              rw [← hG4] at NB6_4 ⊢
              generalize wq3.alloc (.cells #[.slice none 0 0, .slice none 0 0, .slice none 0 0] 31) = wq4 at hb4 LO_4 K1_4 K0_4 IV_4 HM_4 NB6_4 ⊢
              rw [← hG4] at hlt4
              clear hG4 hb4
              refine wpAnyH_ready (rs := [9]) (by kernel_rfl) (by simp) ?_
              refine AllReadyH.cons nat9 (fun K hK => ?_) AllReadyH.nil
              have y0 := NB6_4.cell 0
              have y1 := NB6_4.cell 1
              have y2 := NB6_4.cell 2
              simp only [List.getElem?_toArray, List.getElem?_cons_succ, List.getElem?_cons_zero] at y0 y1 y2
              have yf := NB6_4.free
              go_simp
              clear yf y0 y1 y2
              have LO_5s0 := LO_4.setCell (p := ⟨G4, 0, none⟩) hlt4 (.slice ya3_0 rc.n0 yp3_0)
              have K1_5s0 := K1_4.set_other (p := ⟨G4, 0, none⟩) (by show G4 ≠ w.heap.size + 1; omega) (.slice ya3_0 rc.n0 yp3_0)
              have K0_5s0 := K0_4.set_other (p := ⟨G4, 0, none⟩) (by show G4 ≠ w.heap.size; omega) (.slice ya3_0 rc.n0 yp3_0)
              have HM_5s0 := HM_4.setBox NB6_4 0 (.slice ya3_0 rc.n0 yp3_0)
              have NB6_5s0 := NB6_4.set 0 (.slice ya3_0 rc.n0 yp3_0)
              have LO_5s1 := LO_5s0.setCell (p := ⟨G4, 1, none⟩) hlt4 (.slice ya3_1 rc.n1 yp3_1)
              have K1_5s1 := K1_5s0.set_other (p := ⟨G4, 1, none⟩) (by show G4 ≠ w.heap.size + 1; omega) (.slice ya3_1 rc.n1 yp3_1)
              have K0_5s1 := K0_5s0.set_other (p := ⟨G4, 1, none⟩) (by show G4 ≠ w.heap.size; omega) (.slice ya3_1 rc.n1 yp3_1)
              have HM_5s1 := HM_5s0.setBox NB6_5s0 1 (.slice ya3_1 rc.n1 yp3_1)
              have NB6_5s1 := NB6_5s0.set 1 (.slice ya3_1 rc.n1 yp3_1)
              have LO_5s2 := LO_5s1.setCell (p := ⟨G4, 2, none⟩) hlt4 (.slice ya3_2 rc.n2 yp3_2)
              have K1_5s2 := K1_5s1.set_other (p := ⟨G4, 2, none⟩) (by show G4 ≠ w.heap.size + 1; omega) (.slice ya3_2 rc.n2 yp3_2)
              have K0_5s2 := K0_5s1.set_other (p := ⟨G4, 2, none⟩) (by show G4 ≠ w.heap.size; omega) (.slice ya3_2 rc.n2 yp3_2)
              have HM_5s2 := HM_5s1.setBox NB6_5s1 2 (.slice ya3_2 rc.n2 yp3_2)
              have NB6_5s2 := NB6_5s1.set 2 (.slice ya3_2 rc.n2 yp3_2)
              have LO_5 := LO_5s2
              have K1_5 := K1_5s2
              have K0_5 := K0_5s2
              have HM_5 := HM_5s2
              have NB6_5 : BoxIs (((wq4.setCell ⟨G4, 0, none⟩ (.slice ya3_0 rc.n0 yp3_0)).setCell ⟨G4, 1, none⟩ (.slice ya3_1 rc.n1 yp3_1)).setCell ⟨G4, 2, none⟩ (.slice ya3_2 rc.n2 yp3_2)) G4 #[.slice ya3_0 rc.n0 yp3_0, .slice ya3_1 rc.n1 yp3_1, .slice ya3_2 rc.n2 yp3_2] 31 := NB6_5s2
              refine hK.out _ _ ⟨K0_5, K1_5⟩ (fun hSz => ?_)
              clear hK K hSz HM_4 IV_4 K0_4 K1_4 LO_4 NB6_4 LO_5s0 LO_5s1 LO_5s2 K1_5s0 K1_5s1 K1_5s2 K0_5s0 K0_5s1 K0_5s2 HM_5s0 HM_5s1 HM_5s2 NB6_5s0 NB6_5s1 NB6_5s2
              generalize ((wq4.setCell ⟨G4, 0, none⟩ (.slice ya3_0 rc.n0 yp3_0)).setCell ⟨G4, 1, none⟩ (.slice ya3_1 rc.n1 yp3_1)).setCell ⟨G4, 2, none⟩ (.slice ya3_2 rc.n2 yp3_2) = wq5 at LO_5 K1_5 K0_5 HM_5 NB6_5 ⊢
              refine wpAnyH_take (i := 10) (v := .int .i64 rb) nat10 (by kernel_rfl) (by kernel_rfl) (by kernel_rfl) (fun _ _ _ h => False.elim h) (Or.inl ⟨by rfl, ?_⟩) ⟨K0_5, K1_5⟩ ?_
              · intro wx hSw
                go_simp
              simp only [Act.put, List.setIfInBounds_toArray, List.set_cons_zero, List.set_cons_succ]
              refine wpAnyH_done (by kernel_rfl) ?_ _
              refine NoPanic.normal ?_
              go_wp2_with fail
              go_meet
              exact ⟨G4, ya3_0, yp3_0, ya3_1, yp3_1, ya3_2, yp3_2, rfl, rfl, hlt4, hide LO_5, hide NB6_5, hide HM_5⟩
            · go_simp
              have hlt6 : w1.heap.size ≤ wq2.heap.size := LO_2.size
              have hb6 := below_one wq2 (.cells #[.slice none 0 0, .slice none 0 0, .slice none 0 0] 31)
              have LO_6 := LO_2.trans (hb6.mono LO_2.size)
              have K1_6 := K1_2.next hb6
              have K0_6 := K0_2.next hb6
              have IV_6 := IV_2.next hb6
              have NB6_6 := BoxIs.new wq2 #[.slice none 0 0, .slice none 0 0, .slice none 0 0] 31 rfl
              refine hK.out _ _ ⟨K0_6, K1_6⟩ (fun hSz => ?_)
              clear hK K hSz IV_2 K0_2 K1_2 LO_2
              obtain ⟨G6, hG6⟩ : ∃ G, G = wq2.heap.size := ⟨_, rfl⟩
              rw [← hG6] at NB6_6 ⊢
              generalize wq2.alloc (.cells #[.slice none 0 0, .slice none 0 0, .slice none 0 0] 31) = wq6 at hb6 LO_6 K1_6 K0_6 IV_6 NB6_6 ⊢
              rw [← hG6] at hlt6
              clear hG6 hb6
              refine wpAnyH_ready (rs := [4]) (by kernel_rfl) (by simp) ?_
              refine AllReadyH.cons nat4 (fun K hK => ?_) AllReadyH.nil
              go_simp
              go_at_call 18
              refine (cs (.agg #[.slice (some ⟨gy1_0, 0, none⟩) c0.n0 c0.n0, .slice (some ⟨gy1_1, 0, none⟩) c0.n1 c0.n1, .slice (some ⟨gy1_2, 0, none⟩) c0.n2 c0.n2]) wq6 IV_6).mono ?_
              rintro e wq7 ⟨⟨u7, rfl, ho7⟩, hb7⟩
              obtain ⟨ya7_0, yp7_0, ya7_1, yp7_1, ya7_2, yp7_2, rfl, hM7⟩ := ho7.mine
              have LO_7 := LO_6.trans (hb7.mono LO_6.size)
              have K1_7 := K1_6.next hb7
              have K0_7 := K0_6.next hb7
              have IV_7 := IV_6.next hb7
              have NB6_7 := NB6_6.next hb7
              have HM_7 := hM7.base LO_6.size
              refine hK.out _ _ ⟨K0_7, K1_7⟩ (fun hSz => ?_)
              clear hK K hSz IV_6 K0_6 K1_6 LO_6 NB6_6 hb7 hM7
              refine wpAnyH_take (i := 5) (v := .tuple #[.agg #[.slice ya7_0 rc.n0 yp7_0, .slice ya7_1 rc.n1 yp7_1, .slice ya7_2 rc.n2 yp7_2], .int .i64 rb]) nat5 (by kernel_rfl) (by kernel_rfl) (by kernel_rfl) (fun _ _ _ h => False.elim h) (Or.inl ⟨by rfl, ?_⟩) ⟨K0_7, K1_7⟩ ?_
              · intro wx hSw
                go_simp
              simp only [Act.put, List.setIfInBounds_toArray, List.set_cons_zero, List.set_cons_succ]
              refine wpAnyH_take (i := 6) (v := .agg #[.slice ya7_0 rc.n0 yp7_0, .slice ya7_1 rc.n1 yp7_1, .slice ya7_2 rc.n2 yp7_2]) nat6 (by kernel_rfl) (by kernel_rfl) (by kernel_rfl) (fun _ _ _ h => False.elim h) (Or.inl ⟨by rfl, ?_⟩) ⟨K0_7, K1_7⟩ ?_
              · intro wx hSw
                go_simp
              simp only [Act.put, List.setIfInBounds_toArray, List.set_cons_zero, List.set_cons_succ]
              refine wpAnyH_take (i := 7) (v := .int .i64 rb) nat7 (by kernel_rfl) (by kernel_rfl) (by kernel_rfl) (fun _ _ _ h => False.elim h) (Or.inl ⟨by rfl, ?_⟩) ⟨K0_7, K1_7⟩ ?_
              · intro wx hSw
                go_simp
              simp only [Act.put, List.setIfInBounds_toArray, List.set_cons_zero, List.set_cons_succ]
              refine wpAnyH_ready (rs := [9]) (by kernel_rfl) (by simp) ?_
              refine AllReadyH.cons nat9 (fun K hK => ?_) AllReadyH.nil
              have y0 := NB6_7.cell 0
              have y1 := NB6_7.cell 1
              have y2 := NB6_7.cell 2
              simp only [List.getElem?_toArray, List.getElem?_cons_succ, List.getElem?_cons_zero] at y0 y1 y2
              have yf := NB6_7.free
              go_simp
              clear yf y0 y1 y2
              have LO_8s0 := LO_7.setCell (p := ⟨G6, 0, none⟩) hlt6 (.slice ya7_0 rc.n0 yp7_0)
              have K1_8s0 := K1_7.set_other (p := ⟨G6, 0, none⟩) (by show G6 ≠ w.heap.size + 1; omega) (.slice ya7_0 rc.n0 yp7_0)
              have K0_8s0 := K0_7.set_other (p := ⟨G6, 0, none⟩) (by show G6 ≠ w.heap.size; omega) (.slice ya7_0 rc.n0 yp7_0)
              have NB6_8s0 := NB6_7.set 0 (.slice ya7_0 rc.n0 yp7_0)
              have HM_8s0 := HM_7.setBox NB6_7 0 (.slice ya7_0 rc.n0 yp7_0)
              have LO_8s1 := LO_8s0.setCell (p := ⟨G6, 1, none⟩) hlt6 (.slice ya7_1 rc.n1 yp7_1)
              have K1_8s1 := K1_8s0.set_other (p := ⟨G6, 1, none⟩) (by show G6 ≠ w.heap.size + 1; omega) (.slice ya7_1 rc.n1 yp7_1)
              have K0_8s1 := K0_8s0.set_other (p := ⟨G6, 1, none⟩) (by show G6 ≠ w.heap.size; omega) (.slice ya7_1 rc.n1 yp7_1)
              have NB6_8s1 := NB6_8s0.set 1 (.slice ya7_1 rc.n1 yp7_1)
              have HM_8s1 := HM_8s0.setBox NB6_8s0 1 (.slice ya7_1 rc.n1 yp7_1)
              have LO_8s2 := LO_8s1.setCell (p := ⟨G6, 2, none⟩) hlt6 (.slice ya7_2 rc.n2 yp7_2)
              have K1_8s2 := K1_8s1.set_other (p := ⟨G6, 2, none⟩) (by show G6 ≠ w.heap.size + 1; omega) (.slice ya7_2 rc.n2 yp7_2)
              have K0_8s2 := K0_8s1.set_other (p := ⟨G6, 2, none⟩) (by show G6 ≠ w.heap.size; omega) (.slice ya7_2 rc.n2 yp7_2)
              have NB6_8s2 := NB6_8s1.set 2 (.slice ya7_2 rc.n2 yp7_2)
              have HM_8s2 := HM_8s1.setBox NB6_8s1 2 (.slice ya7_2 rc.n2 yp7_2)
              have LO_8 := LO_8s2
              have K1_8 := K1_8s2
              have K0_8 := K0_8s2
              have NB6_8 : BoxIs (((wq7.setCell ⟨G6, 0, none⟩ (.slice ya7_0 rc.n0 yp7_0)).setCell ⟨G6, 1, none⟩ (.slice ya7_1 rc.n1 yp7_1)).setCell ⟨G6, 2, none⟩ (.slice ya7_2 rc.n2 yp7_2)) G6 #[.slice ya7_0 rc.n0 yp7_0, .slice ya7_1 rc.n1 yp7_1, .slice ya7_2 rc.n2 yp7_2] 31 := NB6_8s2
              have HM_8 := HM_8s2
              refine hK.out _ _ ⟨K0_8, K1_8⟩ (fun hSz => ?_)
              clear hK K hSz HM_7 IV_7 K0_7 K1_7 LO_7 NB6_7 LO_8s0 LO_8s1 LO_8s2 K1_8s0 K1_8s1 K1_8s2 K0_8s0 K0_8s1 K0_8s2 NB6_8s0 NB6_8s1 NB6_8s2 HM_8s0 HM_8s1 HM_8s2
              generalize ((wq7.setCell ⟨G6, 0, none⟩ (.slice ya7_0 rc.n0 yp7_0)).setCell ⟨G6, 1, none⟩ (.slice ya7_1 rc.n1 yp7_1)).setCell ⟨G6, 2, none⟩ (.slice ya7_2 rc.n2 yp7_2) = wq8 at LO_8 K1_8 K0_8 NB6_8 HM_8 ⊢
              refine wpAnyH_take (i := 10) (v := .int .i64 rb) nat10 (by kernel_rfl) (by kernel_rfl) (by kernel_rfl) (fun _ _ _ h => False.elim h) (Or.inl ⟨by rfl, ?_⟩) ⟨K0_8, K1_8⟩ ?_
              · intro wx hSw
                go_simp
              simp only [Act.put, List.setIfInBounds_toArray, List.set_cons_zero, List.set_cons_succ]
              refine wpAnyH_done (by kernel_rfl) ?_ _
              refine NoPanic.normal ?_
              go_wp2_with fail
              go_meet
              exact ⟨G6, ya7_0, yp7_0, ya7_1, yp7_1, ya7_2, yp7_2, rfl, rfl, hlt6, hide LO_8, hide NB6_8, hide HM_8⟩
          · go_simp
            have hlt9 : w1.heap.size ≤ wq1.heap.size := LO_1.size
            have hb9 := below_one wq1 (.cells #[.slice none 0 0, .slice none 0 0, .slice none 0 0] 31)
            have LO_9 := LO_1.trans (hb9.mono LO_1.size)
            have K1_9 := K1_1.next hb9
            have K0_9 := K0_1.next hb9
            have IV_9 := IV_1.next hb9
            have NB6_9 := BoxIs.new wq1 #[.slice none 0 0, .slice none 0 0, .slice none 0 0] 31 rfl
            refine hK.out _ _ ⟨K0_9, K1_9⟩ (fun hSz => ?_)
            clear hK K hSz IV_1 K0_1 K1_1 LO_1
            obtain ⟨G9, hG9⟩ : ∃ G, G = wq1.heap.size := ⟨_, rfl⟩
            rw [← hG9] at NB6_9 ⊢
            generalize wq1.alloc (.cells #[.slice none 0 0, .slice none 0 0, .slice none 0 0] 31) = wq9 at hb9 LO_9 K1_9 K0_9 IV_9 NB6_9 ⊢
            rw [← hG9] at hlt9
            clear hG9 hb9
            refine wpAnyH_ready (rs := [3]) (by kernel_rfl) (by simp) ?_
            refine AllReadyH.cons nat3 (fun K hK => ?_) AllReadyH.nil
            go_simp
            go_at_call 19
            refine (laws_toDOp ok om os od wq9).mono ?_
            rintro e wq10 ⟨rfl, hb10⟩
            have LO_10 := LO_9.trans (hb10.mono LO_9.size)
            have K1_10 := K1_9.next hb10
            have K0_10 := K0_9.next hb10
            have IV_10 := IV_9.next hb10
            have NB6_10 := NB6_9.next hb10
            refine hK.out _ _ ⟨K0_10, K1_10⟩ (fun hSz => ?_)
            clear hK K hSz IV_9 K0_9 K1_9 LO_9 NB6_9 hb10
            refine wpAnyH_ready (rs := [4]) (by kernel_rfl) (by simp) ?_
            refine AllReadyH.cons nat4 (fun K hK => ?_) AllReadyH.nil
            go_simp
            go_at_call 18
            refine (cs (.agg #[.slice (some ⟨gy1_0, 0, none⟩) c0.n0 c0.n0, .slice (some ⟨gy1_1, 0, none⟩) c0.n1 c0.n1, .slice (some ⟨gy1_2, 0, none⟩) c0.n2 c0.n2]) wq10 IV_10).mono ?_
            rintro e wq11 ⟨⟨u11, rfl, ho11⟩, hb11⟩
            obtain ⟨ya11_0, yp11_0, ya11_1, yp11_1, ya11_2, yp11_2, rfl, hM11⟩ := ho11.mine
            have LO_11 := LO_10.trans (hb11.mono LO_10.size)
            have K1_11 := K1_10.next hb11
            have K0_11 := K0_10.next hb11
            have IV_11 := IV_10.next hb11
            have NB6_11 := NB6_10.next hb11
            have HM_11 := hM11.base LO_10.size
            refine hK.out _ _ ⟨K0_11, K1_11⟩ (fun hSz => ?_)
            clear hK K hSz IV_10 K0_10 K1_10 LO_10 NB6_10 hb11 hM11
            refine wpAnyH_take (i := 5) (v := .tuple #[.agg #[.slice ya11_0 rc.n0 yp11_0, .slice ya11_1 rc.n1 yp11_1, .slice ya11_2 rc.n2 yp11_2], .int .i64 rb]) nat5 (by kernel_rfl) (by kernel_rfl) (by kernel_rfl) (fun _ _ _ h => False.elim h) (Or.inl ⟨by rfl, ?_⟩) ⟨K0_11, K1_11⟩ ?_
            · intro wx hSw
              go_simp
            simp only [Act.put, List.setIfInBounds_toArray, List.set_cons_zero, List.set_cons_succ]
            refine wpAnyH_take (i := 6) (v := .agg #[.slice ya11_0 rc.n0 yp11_0, .slice ya11_1 rc.n1 yp11_1, .slice ya11_2 rc.n2 yp11_2]) nat6 (by kernel_rfl) (by kernel_rfl) (by kernel_rfl) (fun _ _ _ h => False.elim h) (Or.inl ⟨by rfl, ?_⟩) ⟨K0_11, K1_11⟩ ?_
            · intro wx hSw
              go_simp
            simp only [Act.put, List.setIfInBounds_toArray, List.set_cons_zero, List.set_cons_succ]
            refine wpAnyH_take (i := 7) (v := .int .i64 rb) nat7 (by kernel_rfl) (by kernel_rfl) (by kernel_rfl) (fun _ _ _ h => False.elim h) (Or.inl ⟨by rfl, ?_⟩) ⟨K0_11, K1_11⟩ ?_
            · intro wx hSw
              go_simp
            simp only [Act.put, List.setIfInBounds_toArray, List.set_cons_zero, List.set_cons_succ]
            refine wpAnyH_ready (rs := [9]) (by kernel_rfl) (by simp) ?_
            refine AllReadyH.cons nat9 (fun K hK => ?_) AllReadyH.nil
            have y0 := NB6_11.cell 0
            have y1 := NB6_11.cell 1
            have y2 := NB6_11.cell 2
            simp only [List.getElem?_toArray, List.getElem?_cons_succ, List.getElem?_cons_zero] at y0 y1 y2
            have yf := NB6_11.free
            go_simp
            clear yf y0 y1 y2
            have LO_12s0 := LO_11.setCell (p := ⟨G9, 0, none⟩) hlt9 (.slice ya11_0 rc.n0 yp11_0)
            have K1_12s0 := K1_11.set_other (p := ⟨G9, 0, none⟩) (by show G9 ≠ w.heap.size + 1; omega) (.slice ya11_0 rc.n0 yp11_0)
            have K0_12s0 := K0_11.set_other (p := ⟨G9, 0, none⟩) (by show G9 ≠ w.heap.size; omega) (.slice ya11_0 rc.n0 yp11_0)
            have NB6_12s0 := NB6_11.set 0 (.slice ya11_0 rc.n0 yp11_0)
            have HM_12s0 := HM_11.setBox NB6_11 0 (.slice ya11_0 rc.n0 yp11_0)
            have LO_12s1 := LO_12s0.setCell (p := ⟨G9, 1, none⟩) hlt9 (.slice ya11_1 rc.n1 yp11_1)
            have K1_12s1 := K1_12s0.set_other (p := ⟨G9, 1, none⟩) (by show G9 ≠ w.heap.size + 1; omega) (.slice ya11_1 rc.n1 yp11_1)
            have K0_12s1 := K0_12s0.set_other (p := ⟨G9, 1, none⟩) (by show G9 ≠ w.heap.size; omega) (.slice ya11_1 rc.n1 yp11_1)
            have NB6_12s1 := NB6_12s0.set 1 (.slice ya11_1 rc.n1 yp11_1)
            have HM_12s1 := HM_12s0.setBox NB6_12s0 1 (.slice ya11_1 rc.n1 yp11_1)
            have LO_12s2 := LO_12s1.setCell (p := ⟨G9, 2, none⟩) hlt9 (.slice ya11_2 rc.n2 yp11_2)
            have K1_12s2 := K1_12s1.set_other (p := ⟨G9, 2, none⟩) (by show G9 ≠ w.heap.size + 1; omega) (.slice ya11_2 rc.n2 yp11_2)
            have K0_12s2 := K0_12s1.set_other (p := ⟨G9, 2, none⟩) (by show G9 ≠ w.heap.size; omega) (.slice ya11_2 rc.n2 yp11_2)
            have NB6_12s2 := NB6_12s1.set 2 (.slice ya11_2 rc.n2 yp11_2)
            have HM_12s2 := HM_12s1.setBox NB6_12s1 2 (.slice ya11_2 rc.n2 yp11_2)
            have LO_12 := LO_12s2
            have K1_12 := K1_12s2
            have K0_12 := K0_12s2
            have NB6_12 : BoxIs (((wq11.setCell ⟨G9, 0, none⟩ (.slice ya11_0 rc.n0 yp11_0)).setCell ⟨G9, 1, none⟩ (.slice ya11_1 rc.n1 yp11_1)).setCell ⟨G9, 2, none⟩ (.slice ya11_2 rc.n2 yp11_2)) G9 #[.slice ya11_0 rc.n0 yp11_0, .slice ya11_1 rc.n1 yp11_1, .slice ya11_2 rc.n2 yp11_2] 31 := NB6_12s2
            have HM_12 := HM_12s2
            refine hK.out _ _ ⟨K0_12, K1_12⟩ (fun hSz => ?_)
            clear hK K hSz HM_11 IV_11 K0_11 K1_11 LO_11 NB6_11 LO_12s0 LO_12s1 LO_12s2 K1_12s0 K1_12s1 K1_12s2 K0_12s0 K0_12s1 K0_12s2 NB6_12s0 NB6_12s1 NB6_12s2 HM_12s0 HM_12s1 HM_12s2
            generalize ((wq11.setCell ⟨G9, 0, none⟩ (.slice ya11_0 rc.n0 yp11_0)).setCell ⟨G9, 1, none⟩ (.slice ya11_1 rc.n1 yp11_1)).setCell ⟨G9, 2, none⟩ (.slice ya11_2 rc.n2 yp11_2) = wq12 at LO_12 K1_12 K0_12 NB6_12 HM_12 ⊢
            refine wpAnyH_take (i := 10) (v := .int .i64 rb) nat10 (by kernel_rfl) (by kernel_rfl) (by kernel_rfl) (fun _ _ _ h => False.elim h) (Or.inl ⟨by rfl, ?_⟩) ⟨K0_12, K1_12⟩ ?_
            · intro wx hSw
              go_simp
            simp only [Act.put, List.setIfInBounds_toArray, List.set_cons_zero, List.set_cons_succ]
            refine wpAnyH_done (by kernel_rfl) ?_ _
            refine NoPanic.normal ?_
            go_wp2_with fail
            go_meet
            exact ⟨G9, ya11_0, yp11_0, ya11_1, yp11_1, ya11_2, yp11_2, rfl, rfl, hlt9, hide LO_12, hide NB6_12, hide HM_12⟩
        · go_simp
          have hlt13 : w1.heap.size ≤ wq0.heap.size := LO_0.size
          have hb13 := below_one wq0 (.cells #[.slice none 0 0, .slice none 0 0, .slice none 0 0] 31)
          have LO_13 := LO_0.trans (hb13.mono LO_0.size)
          have K1_13 := K1_0.next hb13
          have K0_13 := K0_0.next hb13
          have NB6_13 := BoxIs.new wq0 #[.slice none 0 0, .slice none 0 0, .slice none 0 0] 31 rfl
          refine hK.out _ _ ⟨K0_13, K1_13⟩ (fun hSz => ?_)
          clear hK K hSz K0_0 K1_0 LO_0
          obtain ⟨G13, hG13⟩ : ∃ G, G = wq0.heap.size := ⟨_, rfl⟩
          rw [← hG13] at NB6_13 ⊢
          generalize wq0.alloc (.cells #[.slice none 0 0, .slice none 0 0, .slice none 0 0] 31) = wq13 at hb13 LO_13 K1_13 K0_13 NB6_13 ⊢
          rw [← hG13] at hlt13
          clear hG13 hb13
          refine wpAnyH_ready (rs := [1]) (by kernel_rfl) (by simp) ?_
          refine AllReadyH.cons nat1 (fun K hK => ?_) AllReadyH.nil
          go_simp
          go_at_call 14
          refine (laws_toDisk (.agg #[.slice a0 c0.n0 p0, .slice a1 c0.n1 p1, .slice a2 c0.n2 p2]) c0 wq13 hf0 (HV0.out.next (HB.out.trans (LO_13.mono HB.out.size)))).mono ?_
          rintro e wq14 ⟨gy14_0, gy14_1, gy14_2, rfl, _, hy14_0, _, hy14_1, _, hy14_2, _, _, hb14⟩
          have LO_14 := LO_13.trans (hb14.mono LO_13.size)
          have K1_14 := K1_13.next hb14
          have K0_14 := K0_13.next hb14
          have NB6_14 := NB6_13.next hb14
          have IV_14 := DiskIs.of_rows hy14_0 hy14_1 hy14_2
          refine hK.out _ _ ⟨K0_14, K1_14⟩ (fun hSz => ?_)
          clear hK K hSz K0_13 K1_13 LO_13 NB6_13 hb14 hy14_0 hy14_1 hy14_2
          refine wpAnyH_ready (rs := [3]) (by kernel_rfl) (by simp) ?_
          refine AllReadyH.cons nat3 (fun K hK => ?_) AllReadyH.nil
          go_simp
          go_at_call 19
          refine (laws_toDOp ok om os od wq14).mono ?_
          rintro e wq15 ⟨rfl, hb15⟩
          have LO_15 := LO_14.trans (hb15.mono LO_14.size)
          have K1_15 := K1_14.next hb15
          have K0_15 := K0_14.next hb15
          have NB6_15 := NB6_14.next hb15
          have IV_15 := IV_14.next hb15
          refine hK.out _ _ ⟨K0_15, K1_15⟩ (fun hSz => ?_)
          clear hK K hSz IV_14 K0_14 K1_14 LO_14 NB6_14 hb15
          refine wpAnyH_ready (rs := [4]) (by kernel_rfl) (by simp) ?_
          refine AllReadyH.cons nat4 (fun K hK => ?_) AllReadyH.nil
          go_simp
          go_at_call 18
          refine (cs (.agg #[.slice (some ⟨gy14_0, 0, none⟩) c0.n0 c0.n0, .slice (some ⟨gy14_1, 0, none⟩) c0.n1 c0.n1, .slice (some ⟨gy14_2, 0, none⟩) c0.n2 c0.n2]) wq15 IV_15).mono ?_
          rintro e wq16 ⟨⟨u16, rfl, ho16⟩, hb16⟩
          obtain ⟨ya16_0, yp16_0, ya16_1, yp16_1, ya16_2, yp16_2, rfl, hM16⟩ := ho16.mine
          have LO_16 := LO_15.trans (hb16.mono LO_15.size)
          have K1_16 := K1_15.next hb16
          have K0_16 := K0_15.next hb16
          have NB6_16 := NB6_15.next hb16
          have IV_16 := IV_15.next hb16
          have HM_16 := hM16.base LO_15.size
          refine hK.out _ _ ⟨K0_16, K1_16⟩ (fun hSz => ?_)
          clear hK K hSz IV_15 K0_15 K1_15 LO_15 NB6_15 hb16 hM16
          refine wpAnyH_take (i := 5) (v := .tuple #[.agg #[.slice ya16_0 rc.n0 yp16_0, .slice ya16_1 rc.n1 yp16_1, .slice ya16_2 rc.n2 yp16_2], .int .i64 rb]) nat5 (by kernel_rfl) (by kernel_rfl) (by kernel_rfl) (fun _ _ _ h => False.elim h) (Or.inl ⟨by rfl, ?_⟩) ⟨K0_16, K1_16⟩ ?_
          · intro wx hSw
            go_simp
          simp only [Act.put, List.setIfInBounds_toArray, List.set_cons_zero, List.set_cons_succ]
          refine wpAnyH_take (i := 6) (v := .agg #[.slice ya16_0 rc.n0 yp16_0, .slice ya16_1 rc.n1 yp16_1, .slice ya16_2 rc.n2 yp16_2]) nat6 (by kernel_rfl) (by kernel_rfl) (by kernel_rfl) (fun _ _ _ h => False.elim h) (Or.inl ⟨by rfl, ?_⟩) ⟨K0_16, K1_16⟩ ?_
          · intro wx hSw
            go_simp
          simp only [Act.put, List.setIfInBounds_toArray, List.set_cons_zero, List.set_cons_succ]
          refine wpAnyH_take (i := 7) (v := .int .i64 rb) nat7 (by kernel_rfl) (by kernel_rfl) (by kernel_rfl) (fun _ _ _ h => False.elim h) (Or.inl ⟨by rfl, ?_⟩) ⟨K0_16, K1_16⟩ ?_
          · intro wx hSw
            go_simp
          simp only [Act.put, List.setIfInBounds_toArray, List.set_cons_zero, List.set_cons_succ]
          refine wpAnyH_ready (rs := [9]) (by kernel_rfl) (by simp) ?_
          refine AllReadyH.cons nat9 (fun K hK => ?_) AllReadyH.nil
          have y0 := NB6_16.cell 0
          have y1 := NB6_16.cell 1
          have y2 := NB6_16.cell 2
          simp only [List.getElem?_toArray, List.getElem?_cons_succ, List.getElem?_cons_zero] at y0 y1 y2
          have yf := NB6_16.free
          go_simp
          clear yf y0 y1 y2
          have LO_17s0 := LO_16.setCell (p := ⟨G13, 0, none⟩) hlt13 (.slice ya16_0 rc.n0 yp16_0)
          have K1_17s0 := K1_16.set_other (p := ⟨G13, 0, none⟩) (by show G13 ≠ w.heap.size + 1; omega) (.slice ya16_0 rc.n0 yp16_0)
          have K0_17s0 := K0_16.set_other (p := ⟨G13, 0, none⟩) (by show G13 ≠ w.heap.size; omega) (.slice ya16_0 rc.n0 yp16_0)
          have NB6_17s0 := NB6_16.set 0 (.slice ya16_0 rc.n0 yp16_0)
          have HM_17s0 := HM_16.setBox NB6_16 0 (.slice ya16_0 rc.n0 yp16_0)
          have LO_17s1 := LO_17s0.setCell (p := ⟨G13, 1, none⟩) hlt13 (.slice ya16_1 rc.n1 yp16_1)
          have K1_17s1 := K1_17s0.set_other (p := ⟨G13, 1, none⟩) (by show G13 ≠ w.heap.size + 1; omega) (.slice ya16_1 rc.n1 yp16_1)
          have K0_17s1 := K0_17s0.set_other (p := ⟨G13, 1, none⟩) (by show G13 ≠ w.heap.size; omega) (.slice ya16_1 rc.n1 yp16_1)
          have NB6_17s1 := NB6_17s0.set 1 (.slice ya16_1 rc.n1 yp16_1)
          have HM_17s1 := HM_17s0.setBox NB6_17s0 1 (.slice ya16_1 rc.n1 yp16_1)
          have LO_17s2 := LO_17s1.setCell (p := ⟨G13, 2, none⟩) hlt13 (.slice ya16_2 rc.n2 yp16_2)
          have K1_17s2 := K1_17s1.set_other (p := ⟨G13, 2, none⟩) (by show G13 ≠ w.heap.size + 1; omega) (.slice ya16_2 rc.n2 yp16_2)
          have K0_17s2 := K0_17s1.set_other (p := ⟨G13, 2, none⟩) (by show G13 ≠ w.heap.size; omega) (.slice ya16_2 rc.n2 yp16_2)
          have NB6_17s2 := NB6_17s1.set 2 (.slice ya16_2 rc.n2 yp16_2)
          have HM_17s2 := HM_17s1.setBox NB6_17s1 2 (.slice ya16_2 rc.n2 yp16_2)
          have LO_17 := LO_17s2
          have K1_17 := K1_17s2
          have K0_17 := K0_17s2
          have NB6_17 : BoxIs (((wq16.setCell ⟨G13, 0, none⟩ (.slice ya16_0 rc.n0 yp16_0)).setCell ⟨G13, 1, none⟩ (.slice ya16_1 rc.n1 yp16_1)).setCell ⟨G13, 2, none⟩ (.slice ya16_2 rc.n2 yp16_2)) G13 #[.slice ya16_0 rc.n0 yp16_0, .slice ya16_1 rc.n1 yp16_1, .slice ya16_2 rc.n2 yp16_2] 31 := NB6_17s2
          have HM_17 := HM_17s2
          refine hK.out _ _ ⟨K0_17, K1_17⟩ (fun hSz => ?_)
          clear hK K hSz HM_16 IV_16 K0_16 K1_16 LO_16 NB6_16 LO_17s0 LO_17s1 LO_17s2 K1_17s0 K1_17s1 K1_17s2 K0_17s0 K0_17s1 K0_17s2 NB6_17s0 NB6_17s1 NB6_17s2 HM_17s0 HM_17s1 HM_17s2
          generalize ((wq16.setCell ⟨G13, 0, none⟩ (.slice ya16_0 rc.n0 yp16_0)).setCell ⟨G13, 1, none⟩ (.slice ya16_1 rc.n1 yp16_1)).setCell ⟨G13, 2, none⟩ (.slice ya16_2 rc.n2 yp16_2) = wq17 at LO_17 K1_17 K0_17 NB6_17 HM_17 ⊢
          refine wpAnyH_take (i := 10) (v := .int .i64 rb) nat10 (by kernel_rfl) (by kernel_rfl) (by kernel_rfl) (fun _ _ _ h => False.elim h) (Or.inl ⟨by rfl, ?_⟩) ⟨K0_17, K1_17⟩ ?_
          · intro wx hSw
            go_simp
          simp only [Act.put, List.setIfInBounds_toArray, List.set_cons_zero, List.set_cons_succ]
          refine wpAnyH_done (by kernel_rfl) ?_ _
          refine NoPanic.normal ?_
          go_wp2_with fail
          go_meet
          exact ⟨G13, ya16_0, yp16_0, ya16_1, yp16_1, ya16_2, yp16_2, rfl, rfl, hlt13, hide LO_17, hide NB6_17, hide HM_17⟩
      case rest =>
      obtain ⟨Fw, wa0, wp0, wa1, wp1, wa2, wp2, rfl, rfl, hszw, HBc, HXw, HMw⟩ := hcut
      obtain ⟨Vw, rfl⟩ : ∃ V, V = wc := ⟨_, rfl⟩
      have HB := hide (HB.out.trans (HBc.out.mono HB.out.size))
      have hXwl := HXw.out.lt
      have hczw := HBc.out.size
      clear HBc
      have HCw : Hid (Below Vw.heap.size Vw Vw) := Below.refl _ _
      have k0 := (HK0.out.next HB.out).cell 0
      have k1 := (HK0.out.next HB.out).cell 1
      have k2 := (HK0.out.next HB.out).cell 2
      go_wp2_with fail
      clear k0 k1 k2
      refine (laws_toDisk (.agg #[.slice a0 c0.n0 p0, .slice a1 c0.n1 p1, .slice a2 c0.n2 p2]) c0 Vw hf0 (HV0.out.next HB.out)).mono ?_
      rintro e w2 ⟨gx0, gx1, gx2, rfl, hgx0, hrowx0, hgx1, hrowx1, hgx2, hrowx2, hgox1, hgox2, hb2⟩
      have HB := hide (HB.out.trans (hb2.mono HB.out.size))
      have HCw := hide (HCw.out.trans (hb2.mono HCw.out.size))
      have hsz2 := hb2.size
      clear hb2
      have hgl2 := hrowx2.lt
      have hbx := below_one w2 (.cells #[.slice (some ⟨gx0, 0, none⟩) c0.n0 c0.n0, .slice (some ⟨gx1, 0, none⟩) c0.n1 c0.n1, .slice (some ⟨gx2, 0, none⟩) c0.n2 c0.n2] 31)
      have HIx := ((DiskIs.of_rows hrowx0 hrowx1 hrowx2).next hbx).hid
      have HAx := ((at3_rows hrowx0 hrowx1 hrowx2 hgox1 hgox2).next hbx).hid
      have HKx := (BoxIs.new w2 #[.slice (some ⟨gx0, 0, none⟩) c0.n0 c0.n0, .slice (some ⟨gx1, 0, none⟩) c0.n1 c0.n1, .slice (some ⟨gx2, 0, none⟩) c0.n2 c0.n2] 31 rfl).hid
      have HB := hide (HB.out.trans (hbx.mono HB.out.size))
      have HCw := hide (HCw.out.trans (hbx.mono HCw.out.size))
      clear hbx hrowx0 hrowx1 hrowx2
      go_upto_region 10 with fail
      generalize hWX : w2.alloc (.cells #[.slice (some ⟨gx0, 0, none⟩) c0.n0 c0.n0, .slice (some ⟨gx1, 0, none⟩) c0.n1 c0.n1, .slice (some ⟨gx2, 0, none⟩) c0.n2 c0.n2] 31) = X0 at HIx HAx HKx HB HCw ⊢
      clear hWX
      obtain ⟨Fx, hFx⟩ : ∃ F, w2.heap.size = F := ⟨_, rfl⟩
      rw [hFx] at HKx hgl2 ⊢
      have hszFx : w2.heap.size = Fx := hFx
      have hFxl := HKx.out.lt
      have HCx : Hid (Below X0.heap.size X0 X0) := Below.refl _ _
      clear hFx
      go_upto_region 10 with fail
      go_cut [9, 10] (fun tp tq wx => ∃ (N : Nat) (q0 : Option Addr) (r0 : Nat) (q1 : Option Addr) (r1 : Nat) (q2 : Option Addr) (r2 : Nat), tp = .pointer (some ⟨N, 0, none⟩) ∧ tq = .int .i64 rb ∧ X0.heap.size ≤ N ∧ Hid (Below X0.heap.size X0 wx) ∧ Hid (BoxIs wx N #[.slice q0 rc.n0 r0, .slice q1 rc.n1 r1, .slice q2 rc.n2 r2] 31) ∧ Hid (Mine3 wx X0.heap.size q0 r0 q1 r1 q2 r2 rc))
      case first =>
        have LO : Below X0.heap.size X0 X0 := Below.refl _ _
        have hWs := HB.out.size
        have K0 := HK0.out.next HB.out
        have K1 := HK1.out.next HB.out
        have KX := HKx.out.next HCx.out
        refine wp_region_noPanic ?_
        have hb0 : Below X0.heap.size X0 X0.drew := (Below.refl _ _).drew
        have LO_0 := LO.trans (hb0.mono LO.size)
        have K1_0 := K1.next hb0
        have KX_0 := KX.next hb0
        refine wp_region_held_drew (S := fun x => BoxIs x Fx #[.slice (some ⟨gx0, 0, none⟩) c0.n0 c0.n0, .slice (some ⟨gx1, 0, none⟩) c0.n1 c0.n1, .slice (some ⟨gx2, 0, none⟩) c0.n2 c0.n2] 31 ∧ BoxIs x (w.heap.size + 1) #[.int .i64 ok, .string om, .string os, .string od] 36) (by kernel_rfl) ⟨KX_0, K1_0⟩ (fun hSz => ?_)
        clear hSz K1 KX LO
        generalize X0.drew = wq0 at hb0 LO_0 K1_0 KX_0 ⊢
        clear hb0
        refine wpAnyH_take (i := 0) (v := .agg #[.slice (some ⟨gx0, 0, none⟩) c0.n0 c0.n0, .slice (some ⟨gx1, 0, none⟩) c0.n1 c0.n1, .slice (some ⟨gx2, 0, none⟩) c0.n2 c0.n2]) nat0 (by kernel_rfl) (by kernel_rfl) (by kernel_rfl) (fun _ _ _ h => False.elim h) (Or.inl ⟨by rfl, ?_⟩) ⟨KX_0, K1_0⟩ ?_
        · intro wx hSw
          have y0 := hSw.1.cell 0
          have y1 := hSw.1.cell 1
          have y2 := hSw.1.cell 2
          simp only [List.getElem?_toArray, List.getElem?_cons_succ, List.getElem?_cons_zero] at y0 y1 y2
          go_simp
        simp only [Act.put, List.setIfInBounds_toArray, List.set_cons_zero, List.set_cons_succ]
        refine wpAnyH_take (i := 1) (v := .agg #[.int .i64 ok, .string om, .string os, .string od]) nat1 (by kernel_rfl) (by kernel_rfl) (by kernel_rfl) (fun _ _ _ h => False.elim h) (Or.inl ⟨by rfl, ?_⟩) ⟨KX_0, K1_0⟩ ?_
        · intro wx hSw
          have y0 := hSw.2.cell 0
          have y1 := hSw.2.cell 1
          have y2 := hSw.2.cell 2
          have y3 := hSw.2.cell 3
          simp only [List.getElem?_toArray, List.getElem?_cons_succ, List.getElem?_cons_zero] at y0 y1 y2 y3
          go_simp
        simp only [Act.put, List.setIfInBounds_toArray, List.set_cons_zero, List.set_cons_succ]
        refine wpAnyH_ready (rs := [2, 7]) (by kernel_rfl) (by simp) ?_
        refine AllReadyH.cons nat2 (fun K hK => ?_) (AllReadyH.cons nat7 (fun K hK => ?_) AllReadyH.nil)
        · go_simp
          go_at_call 19
          refine (laws_toDOp ok om os od wq0).mono ?_
          rintro e wq1 ⟨rfl, hb1⟩
          have LO_1 := LO_0.trans (hb1.mono LO_0.size)
          have K1_1 := K1_0.next hb1
          have KX_1 := KX_0.next hb1
          refine hK.out _ _ ⟨KX_1, K1_1⟩ (fun hSz => ?_)
          clear hK K hSz K1_0 KX_0 LO_0 hb1
          refine wpAnyH_ready (rs := [3, 7]) (by kernel_rfl) (by simp) ?_
          refine AllReadyH.cons nat3 (fun K hK => ?_) (AllReadyH.cons nat7 (fun K hK => ?_) AllReadyH.nil)
          · go_simp
            go_at_call 20
            refine (ci (.agg #[.slice (some ⟨gx0, 0, none⟩) c0.n0 c0.n0, .slice (some ⟨gx1, 0, none⟩) c0.n1 c0.n1, .slice (some ⟨gx2, 0, none⟩) c0.n2 c0.n2]) wq1 (HIx.out.next (HCx.out.trans (LO_1.mono HCx.out.size)))).mono ?_
            rintro e wq2 ⟨⟨u2, rfl, ho2⟩, hb2⟩
            obtain ⟨ya2_0, yp2_0, ya2_1, yp2_1, ya2_2, yp2_2, rfl, hM2⟩ := ho2.mine
            have LO_2 := LO_1.trans (hb2.mono LO_1.size)
            have K1_2 := K1_1.next hb2
            have KX_2 := KX_1.next hb2
            have HM_2 := hM2.base LO_1.size
            refine hK.out _ _ ⟨KX_2, K1_2⟩ (fun hSz => ?_)
            clear hK K hSz K1_1 KX_1 LO_1 hb2 hM2
            refine wpAnyH_take (i := 4) (v := .tuple #[.agg #[.slice ya2_0 rc.n0 yp2_0, .slice ya2_1 rc.n1 yp2_1, .slice ya2_2 rc.n2 yp2_2], .int .i64 rb]) nat4 (by kernel_rfl) (by kernel_rfl) (by kernel_rfl) (fun _ _ _ h => False.elim h) (Or.inl ⟨by rfl, ?_⟩) ⟨KX_2, K1_2⟩ ?_
            · intro wx hSw
              go_simp
            simp only [Act.put, List.setIfInBounds_toArray, List.set_cons_zero, List.set_cons_succ]
            refine wpAnyH_take (i := 5) (v := .agg #[.slice ya2_0 rc.n0 yp2_0, .slice ya2_1 rc.n1 yp2_1, .slice ya2_2 rc.n2 yp2_2]) nat5 (by kernel_rfl) (by kernel_rfl) (by kernel_rfl) (fun _ _ _ h => False.elim h) (Or.inl ⟨by rfl, ?_⟩) ⟨KX_2, K1_2⟩ ?_
            · intro wx hSw
              go_simp
            simp only [Act.put, List.setIfInBounds_toArray, List.set_cons_zero, List.set_cons_succ]
            refine wpAnyH_take (i := 6) (v := .int .i64 rb) nat6 (by kernel_rfl) (by kernel_rfl) (by kernel_rfl) (fun _ _ _ h => False.elim h) (Or.inl ⟨by rfl, ?_⟩) ⟨KX_2, K1_2⟩ ?_
            · intro wx hSw
              go_simp
            simp only [Act.put, List.setIfInBounds_toArray, List.set_cons_zero, List.set_cons_succ]
            refine wpAnyH_ready (rs := [7]) (by kernel_rfl) (by simp) ?_
            refine AllReadyH.cons nat7 (fun K hK => ?_) AllReadyH.nil
            go_simp
            have hlt3 : X0.heap.size ≤ wq2.heap.size := LO_2.size
            have hb3 := below_one wq2 (.cells #[.slice none 0 0, .slice none 0 0, .slice none 0 0] 31)
            have LO_3 := LO_2.trans (hb3.mono LO_2.size)
            have K1_3 := K1_2.next hb3
            have KX_3 := KX_2.next hb3
            have HM_3 := HM_2.next hb3
            have NB9_3 := BoxIs.new wq2 #[.slice none 0 0, .slice none 0 0, .slice none 0 0] 31 rfl
            refine hK.out _ _ ⟨KX_3, K1_3⟩ (fun hSz => ?_)
            clear hK K hSz HM_2 K1_2 KX_2 LO_2
            obtain ⟨G3, hG3⟩ : ∃ G, G = wq2.heap.size := ⟨_, rfl⟩
            rw [← hG3] at NB9_3 ⊢
            generalize wq2.alloc (.cells #[.slice none 0 0, .slice none 0 0, .slice none 0 0] 31) = wq3 at hb3 LO_3 K1_3 KX_3 HM_3 NB9_3 ⊢
            rw [← hG3] at hlt3
            clear hG3 hb3
            refine wpAnyH_ready (rs := [8]) (by kernel_rfl) (by simp) ?_
            refine AllReadyH.cons nat8 (fun K hK => ?_) AllReadyH.nil
            have y0 := NB9_3.cell 0
            have y1 := NB9_3.cell 1
            have y2 := NB9_3.cell 2
            simp only [List.getElem?_toArray, List.getElem?_cons_succ, List.getElem?_cons_zero] at y0 y1 y2
            have yf := NB9_3.free
            go_simp
            clear yf y0 y1 y2
            have LO_4s0 := LO_3.setCell (p := ⟨G3, 0, none⟩) hlt3 (.slice ya2_0 rc.n0 yp2_0)
            have K1_4s0 := K1_3.set_other (p := ⟨G3, 0, none⟩) (by show G3 ≠ w.heap.size + 1; omega) (.slice ya2_0 rc.n0 yp2_0)
            have KX_4s0 := KX_3.set_other (p := ⟨G3, 0, none⟩) (by show G3 ≠ Fx; omega) (.slice ya2_0 rc.n0 yp2_0)
            have HM_4s0 := HM_3.setBox NB9_3 0 (.slice ya2_0 rc.n0 yp2_0)
            have NB9_4s0 := NB9_3.set 0 (.slice ya2_0 rc.n0 yp2_0)
            have LO_4s1 := LO_4s0.setCell (p := ⟨G3, 1, none⟩) hlt3 (.slice ya2_1 rc.n1 yp2_1)
            have K1_4s1 := K1_4s0.set_other (p := ⟨G3, 1, none⟩) (by show G3 ≠ w.heap.size + 1; omega) (.slice ya2_1 rc.n1 yp2_1)
            have KX_4s1 := KX_4s0.set_other (p := ⟨G3, 1, none⟩) (by show G3 ≠ Fx; omega) (.slice ya2_1 rc.n1 yp2_1)
            have HM_4s1 := HM_4s0.setBox NB9_4s0 1 (.slice ya2_1 rc.n1 yp2_1)
            have NB9_4s1 := NB9_4s0.set 1 (.slice ya2_1 rc.n1 yp2_1)
            have LO_4s2 := LO_4s1.setCell (p := ⟨G3, 2, none⟩) hlt3 (.slice ya2_2 rc.n2 yp2_2)
            have K1_4s2 := K1_4s1.set_other (p := ⟨G3, 2, none⟩) (by show G3 ≠ w.heap.size + 1; omega) (.slice ya2_2 rc.n2 yp2_2)
            have KX_4s2 := KX_4s1.set_other (p := ⟨G3, 2, none⟩) (by show G3 ≠ Fx; omega) (.slice ya2_2 rc.n2 yp2_2)
            have HM_4s2 := HM_4s1.setBox NB9_4s1 2 (.slice ya2_2 rc.n2 yp2_2)
            have NB9_4s2 := NB9_4s1.set 2 (.slice ya2_2 rc.n2 yp2_2)
            have LO_4 := LO_4s2
            have K1_4 := K1_4s2
            have KX_4 := KX_4s2
            have HM_4 := HM_4s2
            have NB9_4 : BoxIs (((wq3.setCell ⟨G3, 0, none⟩ (.slice ya2_0 rc.n0 yp2_0)).setCell ⟨G3, 1, none⟩ (.slice ya2_1 rc.n1 yp2_1)).setCell ⟨G3, 2, none⟩ (.slice ya2_2 rc.n2 yp2_2)) G3 #[.slice ya2_0 rc.n0 yp2_0, .slice ya2_1 rc.n1 yp2_1, .slice ya2_2 rc.n2 yp2_2] 31 := NB9_4s2
            refine hK.out _ _ ⟨KX_4, K1_4⟩ (fun hSz => ?_)
            clear hK K hSz HM_3 K1_3 KX_3 LO_3 NB9_3 LO_4s0 LO_4s1 LO_4s2 K1_4s0 K1_4s1 K1_4s2 KX_4s0 KX_4s1 KX_4s2 HM_4s0 HM_4s1 HM_4s2 NB9_4s0 NB9_4s1 NB9_4s2
            generalize ((wq3.setCell ⟨G3, 0, none⟩ (.slice ya2_0 rc.n0 yp2_0)).setCell ⟨G3, 1, none⟩ (.slice ya2_1 rc.n1 yp2_1)).setCell ⟨G3, 2, none⟩ (.slice ya2_2 rc.n2 yp2_2) = wq4 at LO_4 K1_4 KX_4 HM_4 NB9_4 ⊢
            refine wpAnyH_take (i := 9) (v := .int .i64 rb) nat9 (by kernel_rfl) (by kernel_rfl) (by kernel_rfl) (fun _ _ _ h => False.elim h) (Or.inl ⟨by rfl, ?_⟩) ⟨KX_4, K1_4⟩ ?_
            · intro wx hSw
              go_simp
            simp only [Act.put, List.setIfInBounds_toArray, List.set_cons_zero, List.set_cons_succ]
            refine wpAnyH_done (by kernel_rfl) ?_ _
            refine NoPanic.normal ?_
            go_wp2_with fail
            go_meet
            exact ⟨G3, ya2_0, yp2_0, ya2_1, yp2_1, ya2_2, yp2_2, rfl, rfl, hlt3, hide LO_4, hide NB9_4, hide HM_4⟩
          · go_simp
            have hlt5 : X0.heap.size ≤ wq1.heap.size := LO_1.size
            have hb5 := below_one wq1 (.cells #[.slice none 0 0, .slice none 0 0, .slice none 0 0] 31)
            have LO_5 := LO_1.trans (hb5.mono LO_1.size)
            have K1_5 := K1_1.next hb5
            have KX_5 := KX_1.next hb5
            have NB9_5 := BoxIs.new wq1 #[.slice none 0 0, .slice none 0 0, .slice none 0 0] 31 rfl
            refine hK.out _ _ ⟨KX_5, K1_5⟩ (fun hSz => ?_)
            clear hK K hSz K1_1 KX_1 LO_1
            obtain ⟨G5, hG5⟩ : ∃ G, G = wq1.heap.size := ⟨_, rfl⟩
            rw [← hG5] at NB9_5 ⊢
            generalize wq1.alloc (.cells #[.slice none 0 0, .slice none 0 0, .slice none 0 0] 31) = wq5 at hb5 LO_5 K1_5 KX_5 NB9_5 ⊢
            rw [← hG5] at hlt5
            clear hG5 hb5
            refine wpAnyH_ready (rs := [3]) (by kernel_rfl) (by simp) ?_
            refine AllReadyH.cons nat3 (fun K hK => ?_) AllReadyH.nil
            go_simp
            go_at_call 20
            refine (ci (.agg #[.slice (some ⟨gx0, 0, none⟩) c0.n0 c0.n0, .slice (some ⟨gx1, 0, none⟩) c0.n1 c0.n1, .slice (some ⟨gx2, 0, none⟩) c0.n2 c0.n2]) wq5 (HIx.out.next (HCx.out.trans (LO_5.mono HCx.out.size)))).mono ?_
            rintro e wq6 ⟨⟨u6, rfl, ho6⟩, hb6⟩
            obtain ⟨ya6_0, yp6_0, ya6_1, yp6_1, ya6_2, yp6_2, rfl, hM6⟩ := ho6.mine
            have LO_6 := LO_5.trans (hb6.mono LO_5.size)
            have K1_6 := K1_5.next hb6
            have KX_6 := KX_5.next hb6
            have NB9_6 := NB9_5.next hb6
            have HM_6 := hM6.base LO_5.size
            refine hK.out _ _ ⟨KX_6, K1_6⟩ (fun hSz => ?_)
            clear hK K hSz K1_5 KX_5 LO_5 NB9_5 hb6 hM6
            refine wpAnyH_take (i := 4) (v := .tuple #[.agg #[.slice ya6_0 rc.n0 yp6_0, .slice ya6_1 rc.n1 yp6_1, .slice ya6_2 rc.n2 yp6_2], .int .i64 rb]) nat4 (by kernel_rfl) (by kernel_rfl) (by kernel_rfl) (fun _ _ _ h => False.elim h) (Or.inl ⟨by rfl, ?_⟩) ⟨KX_6, K1_6⟩ ?_
            · intro wx hSw
              go_simp
            simp only [Act.put, List.setIfInBounds_toArray, List.set_cons_zero, List.set_cons_succ]
            refine wpAnyH_take (i := 5) (v := .agg #[.slice ya6_0 rc.n0 yp6_0, .slice ya6_1 rc.n1 yp6_1, .slice ya6_2 rc.n2 yp6_2]) nat5 (by kernel_rfl) (by kernel_rfl) (by kernel_rfl) (fun _ _ _ h => False.elim h) (Or.inl ⟨by rfl, ?_⟩) ⟨KX_6, K1_6⟩ ?_
            · intro wx hSw
              go_simp
            simp only [Act.put, List.setIfInBounds_toArray, List.set_cons_zero, List.set_cons_succ]
            refine wpAnyH_take (i := 6) (v := .int .i64 rb) nat6 (by kernel_rfl) (by kernel_rfl) (by kernel_rfl) (fun _ _ _ h => False.elim h) (Or.inl ⟨by rfl, ?_⟩) ⟨KX_6, K1_6⟩ ?_
            · intro wx hSw
              go_simp
            simp only [Act.put, List.setIfInBounds_toArray, List.set_cons_zero, List.set_cons_succ]
            refine wpAnyH_ready (rs := [8]) (by kernel_rfl) (by simp) ?_
            refine AllReadyH.cons nat8 (fun K hK => ?_) AllReadyH.nil
            have y0 := NB9_6.cell 0
            have y1 := NB9_6.cell 1
            have y2 := NB9_6.cell 2
            simp only [List.getElem?_toArray, List.getElem?_cons_succ, List.getElem?_cons_zero] at y0 y1 y2
            have yf := NB9_6.free
            go_simp
            clear yf y0 y1 y2
            have LO_7s0 := LO_6.setCell (p := ⟨G5, 0, none⟩) hlt5 (.slice ya6_0 rc.n0 yp6_0)
            have K1_7s0 := K1_6.set_other (p := ⟨G5, 0, none⟩) (by show G5 ≠ w.heap.size + 1; omega) (.slice ya6_0 rc.n0 yp6_0)
            have KX_7s0 := KX_6.set_other (p := ⟨G5, 0, none⟩) (by show G5 ≠ Fx; omega) (.slice ya6_0 rc.n0 yp6_0)
            have NB9_7s0 := NB9_6.set 0 (.slice ya6_0 rc.n0 yp6_0)
            have HM_7s0 := HM_6.setBox NB9_6 0 (.slice ya6_0 rc.n0 yp6_0)
            have LO_7s1 := LO_7s0.setCell (p := ⟨G5, 1, none⟩) hlt5 (.slice ya6_1 rc.n1 yp6_1)
            have K1_7s1 := K1_7s0.set_other (p := ⟨G5, 1, none⟩) (by show G5 ≠ w.heap.size + 1; omega) (.slice ya6_1 rc.n1 yp6_1)
            have KX_7s1 := KX_7s0.set_other (p := ⟨G5, 1, none⟩) (by show G5 ≠ Fx; omega) (.slice ya6_1 rc.n1 yp6_1)
            have NB9_7s1 := NB9_7s0.set 1 (.slice ya6_1 rc.n1 yp6_1)
            have HM_7s1 := HM_7s0.setBox NB9_7s0 1 (.slice ya6_1 rc.n1 yp6_1)
            have LO_7s2 := LO_7s1.setCell (p := ⟨G5, 2, none⟩) hlt5 (.slice ya6_2 rc.n2 yp6_2)
            have K1_7s2 := K1_7s1.set_other (p := ⟨G5, 2, none⟩) (by show G5 ≠ w.heap.size + 1; omega) (.slice ya6_2 rc.n2 yp6_2)
            have KX_7s2 := KX_7s1.set_other (p := ⟨G5, 2, none⟩) (by show G5 ≠ Fx; omega) (.slice ya6_2 rc.n2 yp6_2)
            have NB9_7s2 := NB9_7s1.set 2 (.slice ya6_2 rc.n2 yp6_2)
            have HM_7s2 := HM_7s1.setBox NB9_7s1 2 (.slice ya6_2 rc.n2 yp6_2)
            have LO_7 := LO_7s2
            have K1_7 := K1_7s2
            have KX_7 := KX_7s2
            have NB9_7 : BoxIs (((wq6.setCell ⟨G5, 0, none⟩ (.slice ya6_0 rc.n0 yp6_0)).setCell ⟨G5, 1, none⟩ (.slice ya6_1 rc.n1 yp6_1)).setCell ⟨G5, 2, none⟩ (.slice ya6_2 rc.n2 yp6_2)) G5 #[.slice ya6_0 rc.n0 yp6_0, .slice ya6_1 rc.n1 yp6_1, .slice ya6_2 rc.n2 yp6_2] 31 := NB9_7s2
            have HM_7 := HM_7s2
            refine hK.out _ _ ⟨KX_7, K1_7⟩ (fun hSz => ?_)
            clear hK K hSz HM_6 K1_6 KX_6 LO_6 NB9_6 LO_7s0 LO_7s1 LO_7s2 K1_7s0 K1_7s1 K1_7s2 KX_7s0 KX_7s1 KX_7s2 NB9_7s0 NB9_7s1 NB9_7s2 HM_7s0 HM_7s1 HM_7s2
            generalize ((wq6.setCell ⟨G5, 0, none⟩ (.slice ya6_0 rc.n0 yp6_0)).setCell ⟨G5, 1, none⟩ (.slice ya6_1 rc.n1 yp6_1)).setCell ⟨G5, 2, none⟩ (.slice ya6_2 rc.n2 yp6_2) = wq7 at LO_7 K1_7 KX_7 NB9_7 HM_7 ⊢
            refine wpAnyH_take (i := 9) (v := .int .i64 rb) nat9 (by kernel_rfl) (by kernel_rfl) (by kernel_rfl) (fun _ _ _ h => False.elim h) (Or.inl ⟨by rfl, ?_⟩) ⟨KX_7, K1_7⟩ ?_
            · intro wx hSw
              go_simp
            simp only [Act.put, List.setIfInBounds_toArray, List.set_cons_zero, List.set_cons_succ]
            refine wpAnyH_done (by kernel_rfl) ?_ _
            refine NoPanic.normal ?_
            go_wp2_with fail
            go_meet
            exact ⟨G5, ya6_0, yp6_0, ya6_1, yp6_1, ya6_2, yp6_2, rfl, rfl, hlt5, hide LO_7, hide NB9_7, hide HM_7⟩
        · go_simp
          have hlt8 : X0.heap.size ≤ wq0.heap.size := LO_0.size
          have hb8 := below_one wq0 (.cells #[.slice none 0 0, .slice none 0 0, .slice none 0 0] 31)
          have LO_8 := LO_0.trans (hb8.mono LO_0.size)
          have K1_8 := K1_0.next hb8
          have KX_8 := KX_0.next hb8
          have NB9_8 := BoxIs.new wq0 #[.slice none 0 0, .slice none 0 0, .slice none 0 0] 31 rfl
          refine hK.out _ _ ⟨KX_8, K1_8⟩ (fun hSz => ?_)
          clear hK K hSz K1_0 KX_0 LO_0
          obtain ⟨G8, hG8⟩ : ∃ G, G = wq0.heap.size := ⟨_, rfl⟩
          rw [← hG8] at NB9_8 ⊢
          generalize wq0.alloc (.cells #[.slice none 0 0, .slice none 0 0, .slice none 0 0] 31) = wq8 at hb8 LO_8 K1_8 KX_8 NB9_8 ⊢
          rw [← hG8] at hlt8
          clear hG8 hb8
          refine wpAnyH_ready (rs := [2]) (by kernel_rfl) (by simp) ?_
          refine AllReadyH.cons nat2 (fun K hK => ?_) AllReadyH.nil
          go_simp
          go_at_call 19
          refine (laws_toDOp ok om os od wq8).mono ?_
          rintro e wq9 ⟨rfl, hb9⟩
          have LO_9 := LO_8.trans (hb9.mono LO_8.size)
          have K1_9 := K1_8.next hb9
          have KX_9 := KX_8.next hb9
          have NB9_9 := NB9_8.next hb9
          refine hK.out _ _ ⟨KX_9, K1_9⟩ (fun hSz => ?_)
          clear hK K hSz K1_8 KX_8 LO_8 NB9_8 hb9
          refine wpAnyH_ready (rs := [3]) (by kernel_rfl) (by simp) ?_
          refine AllReadyH.cons nat3 (fun K hK => ?_) AllReadyH.nil
          go_simp
          go_at_call 20
          refine (ci (.agg #[.slice (some ⟨gx0, 0, none⟩) c0.n0 c0.n0, .slice (some ⟨gx1, 0, none⟩) c0.n1 c0.n1, .slice (some ⟨gx2, 0, none⟩) c0.n2 c0.n2]) wq9 (HIx.out.next (HCx.out.trans (LO_9.mono HCx.out.size)))).mono ?_
          rintro e wq10 ⟨⟨u10, rfl, ho10⟩, hb10⟩
          obtain ⟨ya10_0, yp10_0, ya10_1, yp10_1, ya10_2, yp10_2, rfl, hM10⟩ := ho10.mine
          have LO_10 := LO_9.trans (hb10.mono LO_9.size)
          have K1_10 := K1_9.next hb10
          have KX_10 := KX_9.next hb10
          have NB9_10 := NB9_9.next hb10
          have HM_10 := hM10.base LO_9.size
          refine hK.out _ _ ⟨KX_10, K1_10⟩ (fun hSz => ?_)
          clear hK K hSz K1_9 KX_9 LO_9 NB9_9 hb10 hM10
          refine wpAnyH_take (i := 4) (v := .tuple #[.agg #[.slice ya10_0 rc.n0 yp10_0, .slice ya10_1 rc.n1 yp10_1, .slice ya10_2 rc.n2 yp10_2], .int .i64 rb]) nat4 (by kernel_rfl) (by kernel_rfl) (by kernel_rfl) (fun _ _ _ h => False.elim h) (Or.inl ⟨by rfl, ?_⟩) ⟨KX_10, K1_10⟩ ?_
          · intro wx hSw
            go_simp
          simp only [Act.put, List.setIfInBounds_toArray, List.set_cons_zero, List.set_cons_succ]
          refine wpAnyH_take (i := 5) (v := .agg #[.slice ya10_0 rc.n0 yp10_0, .slice ya10_1 rc.n1 yp10_1, .slice ya10_2 rc.n2 yp10_2]) nat5 (by kernel_rfl) (by kernel_rfl) (by kernel_rfl) (fun _ _ _ h => False.elim h) (Or.inl ⟨by rfl, ?_⟩) ⟨KX_10, K1_10⟩ ?_
          · intro wx hSw
            go_simp
          simp only [Act.put, List.setIfInBounds_toArray, List.set_cons_zero, List.set_cons_succ]
          refine wpAnyH_take (i := 6) (v := .int .i64 rb) nat6 (by kernel_rfl) (by kernel_rfl) (by kernel_rfl) (fun _ _ _ h => False.elim h) (Or.inl ⟨by rfl, ?_⟩) ⟨KX_10, K1_10⟩ ?_
          · intro wx hSw
            go_simp
          simp only [Act.put, List.setIfInBounds_toArray, List.set_cons_zero, List.set_cons_succ]
          refine wpAnyH_ready (rs := [8]) (by kernel_rfl) (by simp) ?_
          refine AllReadyH.cons nat8 (fun K hK => ?_) AllReadyH.nil
          have y0 := NB9_10.cell 0
          have y1 := NB9_10.cell 1
          have y2 := NB9_10.cell 2
          simp only [List.getElem?_toArray, List.getElem?_cons_succ, List.getElem?_cons_zero] at y0 y1 y2
          have yf := NB9_10.free
          go_simp
          clear yf y0 y1 y2
          have LO_11s0 := LO_10.setCell (p := ⟨G8, 0, none⟩) hlt8 (.slice ya10_0 rc.n0 yp10_0)
          have K1_11s0 := K1_10.set_other (p := ⟨G8, 0, none⟩) (by show G8 ≠ w.heap.size + 1; omega) (.slice ya10_0 rc.n0 yp10_0)
          have KX_11s0 := KX_10.set_other (p := ⟨G8, 0, none⟩) (by show G8 ≠ Fx; omega) (.slice ya10_0 rc.n0 yp10_0)
          have NB9_11s0 := NB9_10.set 0 (.slice ya10_0 rc.n0 yp10_0)
          have HM_11s0 := HM_10.setBox NB9_10 0 (.slice ya10_0 rc.n0 yp10_0)
          have LO_11s1 := LO_11s0.setCell (p := ⟨G8, 1, none⟩) hlt8 (.slice ya10_1 rc.n1 yp10_1)
          have K1_11s1 := K1_11s0.set_other (p := ⟨G8, 1, none⟩) (by show G8 ≠ w.heap.size + 1; omega) (.slice ya10_1 rc.n1 yp10_1)
          have KX_11s1 := KX_11s0.set_other (p := ⟨G8, 1, none⟩) (by show G8 ≠ Fx; omega) (.slice ya10_1 rc.n1 yp10_1)
          have NB9_11s1 := NB9_11s0.set 1 (.slice ya10_1 rc.n1 yp10_1)
          have HM_11s1 := HM_11s0.setBox NB9_11s0 1 (.slice ya10_1 rc.n1 yp10_1)
          have LO_11s2 := LO_11s1.setCell (p := ⟨G8, 2, none⟩) hlt8 (.slice ya10_2 rc.n2 yp10_2)
          have K1_11s2 := K1_11s1.set_other (p := ⟨G8, 2, none⟩) (by show G8 ≠ w.heap.size + 1; omega) (.slice ya10_2 rc.n2 yp10_2)
          have KX_11s2 := KX_11s1.set_other (p := ⟨G8, 2, none⟩) (by show G8 ≠ Fx; omega) (.slice ya10_2 rc.n2 yp10_2)
          have NB9_11s2 := NB9_11s1.set 2 (.slice ya10_2 rc.n2 yp10_2)
          have HM_11s2 := HM_11s1.setBox NB9_11s1 2 (.slice ya10_2 rc.n2 yp10_2)
          have LO_11 := LO_11s2
          have K1_11 := K1_11s2
          have KX_11 := KX_11s2
          have NB9_11 : BoxIs (((wq10.setCell ⟨G8, 0, none⟩ (.slice ya10_0 rc.n0 yp10_0)).setCell ⟨G8, 1, none⟩ (.slice ya10_1 rc.n1 yp10_1)).setCell ⟨G8, 2, none⟩ (.slice ya10_2 rc.n2 yp10_2)) G8 #[.slice ya10_0 rc.n0 yp10_0, .slice ya10_1 rc.n1 yp10_1, .slice ya10_2 rc.n2 yp10_2] 31 := NB9_11s2
          have HM_11 := HM_11s2
          refine hK.out _ _ ⟨KX_11, K1_11⟩ (fun hSz => ?_)
          clear hK K hSz HM_10 K1_10 KX_10 LO_10 NB9_10 LO_11s0 LO_11s1 LO_11s2 K1_11s0 K1_11s1 K1_11s2 KX_11s0 KX_11s1 KX_11s2 NB9_11s0 NB9_11s1 NB9_11s2 HM_11s0 HM_11s1 HM_11s2
          generalize ((wq10.setCell ⟨G8, 0, none⟩ (.slice ya10_0 rc.n0 yp10_0)).setCell ⟨G8, 1, none⟩ (.slice ya10_1 rc.n1 yp10_1)).setCell ⟨G8, 2, none⟩ (.slice ya10_2 rc.n2 yp10_2) = wq11 at LO_11 K1_11 KX_11 NB9_11 HM_11 ⊢
          refine wpAnyH_take (i := 9) (v := .int .i64 rb) nat9 (by kernel_rfl) (by kernel_rfl) (by kernel_rfl) (fun _ _ _ h => False.elim h) (Or.inl ⟨by rfl, ?_⟩) ⟨KX_11, K1_11⟩ ?_
          · intro wx hSw
            go_simp
          simp only [Act.put, List.setIfInBounds_toArray, List.set_cons_zero, List.set_cons_succ]
          refine wpAnyH_done (by kernel_rfl) ?_ _
          refine NoPanic.normal ?_
          go_wp2_with fail
          go_meet
          exact ⟨G8, ya10_0, yp10_0, ya10_1, yp10_1, ya10_2, yp10_2, rfl, rfl, hlt8, hide LO_11, hide NB9_11, hide HM_11⟩
      case rest =>
      obtain ⟨Fg, ga0, gp0, ga1, gp1, ga2, gp2, rfl, rfl, hszg, HBc, HXg, HMg⟩ := hcut
      obtain ⟨Vg, rfl⟩ : ∃ V, V = wc := ⟨_, rfl⟩
      have HB := hide (HB.out.trans (HBc.out.mono HB.out.size))
      have HCw := hide (HCw.out.trans (HBc.out.mono HCw.out.size))
      have HCx := hide (HCx.out.trans (HBc.out.mono HCx.out.size))
      have hXgl := HXg.out.lt
      have hczg := HBc.out.size
      clear HBc
      have HCg : Hid (Below Vg.heap.size Vg Vg) := Below.refl _ _
      have ka0 := (HXg.out.next HCg.out).cell 0
      have kb0 := (HXw.out.next HCw.out).cell 0
      have ka1 := (HXg.out.next HCg.out).cell 1
      have kb1 := (HXw.out.next HCw.out).cell 1
      have ka2 := (HXg.out.next HCg.out).cell 2
      have kb2 := (HXw.out.next HCw.out).cell 2
      go_wp2_with fail
      clear ka0 ka1 ka2 kb0 kb1 kb2
      refine (laws_eqDisk _ _ rc Vg hrf (HMg.out.next HCg.out).is (HMw.out.next HCw.out).is).mono ?_
      rintro e w3 ⟨rfl, hb3⟩
      have HB := hide (HB.out.trans (hb3.mono HB.out.size))
      have HCw := hide (HCw.out.trans (hb3.mono HCw.out.size))
      have HCx := hide (HCx.out.trans (hb3.mono HCx.out.size))
      have HCg := hide (HCg.out.trans (hb3.mono HCg.out.size))
      have hsz3 := hb3.size
      clear hb3
      go_wp2_with fail
      refine wp_region_noPanic ?_
      refine wp_region_held_drew (S := fun w' => BoxIs w' w.heap.size #[.slice a0 c0.n0 p0, .slice a1 c0.n1 p1, .slice a2 c0.n2 p2] 25 ∧ BoxIs w' Fx #[.slice (some ⟨gx0, 0, none⟩) c0.n0 c0.n0, .slice (some ⟨gx1, 0, none⟩) c0.n1 c0.n1, .slice (some ⟨gx2, 0, none⟩) c0.n2 c0.n2] 31 ∧ Below w3.heap.size w3 w') (by kernel_rfl) ⟨(HK0.out.next HB.out).next (Below.refl _ _).drew, (HKx.out.next HCx.out).next (Below.refl _ _).drew, (Below.refl _ _).drew⟩ (fun hHeld => ?_)
      refine wpAnyH_take (i := 0) (v := .agg #[.slice (some ⟨gx0, 0, none⟩) c0.n0 c0.n0, .slice (some ⟨gx1, 0, none⟩) c0.n1 c0.n1, .slice (some ⟨gx2, 0, none⟩) c0.n2 c0.n2]) nat0 (by kernel_rfl) (by kernel_rfl) (by kernel_rfl) (fun _ _ _ h => False.elim h) (Or.inl ⟨by rfl, ?_⟩) hHeld ?_
      · intro wx hSw
        have y0 := hSw.2.1.cell 0
        have y1 := hSw.2.1.cell 1
        have y2 := hSw.2.1.cell 2
        go_simp
      simp only [Act.put, List.setIfInBounds_toArray, List.set_cons_zero, List.set_cons_succ]
      refine wpAnyH_take (i := 1) (v := .agg #[.slice a0 c0.n0 p0, .slice a1 c0.n1 p1, .slice a2 c0.n2 p2]) nat1 (by kernel_rfl) (by kernel_rfl) (by kernel_rfl) (fun _ _ _ h => False.elim h) (Or.inl ⟨by rfl, ?_⟩) hHeld ?_
      · intro wx hSw
        have y0 := hSw.1.cell 0
        have y1 := hSw.1.cell 1
        have y2 := hSw.1.cell 2
        go_simp
      simp only [Act.put, List.setIfInBounds_toArray, List.set_cons_zero, List.set_cons_succ]
      refine wpAnyH_ready (rs := [2]) (by kernel_rfl) (by simp) ?_
      refine AllReadyH.cons nat2 (fun K hK => ?_) AllReadyH.nil
      go_simp
      go_at_call 14
      have hH0 := HB.out.trans (hHeld.2.2.mono HB.out.size)
      have hX0 := HCx.out.trans (hHeld.2.2.mono HCx.out.size)
      refine (laws_toDisk (.agg #[.slice a0 c0.n0 p0, .slice a1 c0.n1 p1, .slice a2 c0.n2 p2]) c0 _ hf0 (HV0.out.next hH0)).mono ?_
      rintro e wa0 ⟨gy0, gy1, gy2, rfl, _, hrowy0, _, hrowy1, _, hrowy2, _, _, hba0⟩
      have HIy0 := (DiskIs.of_rows hrowy0 hrowy1 hrowy2).hid
      have HIz0 := ((HIx.out.next hX0).next hba0).hid
      refine hK.out _ _ ⟨hHeld.1.next hba0, hHeld.2.1.next hba0, hHeld.2.2.trans (hba0.mono hHeld.2.2.size)⟩ (fun hHeld2 => ?_)
      clear hK K hHeld hH0 hX0 hba0 hrowy0 hrowy1 hrowy2
      refine wpAnyH_ready (rs := [3]) (by kernel_rfl) (by simp) ?_
      refine AllReadyH.cons nat3 (fun K hK => ?_) AllReadyH.nil
      go_simp
      go_at_call 16
      refine (laws_eqDisk _ _ c0 _ hf0 HIz0.out HIy0.out).mono ?_
      rintro e wb0 ⟨rfl, hbb0⟩
      refine hK.out _ _ ⟨hHeld2.1.next hbb0, hHeld2.2.1.next hbb0, hHeld2.2.2.trans (hbb0.mono hHeld2.2.2.size)⟩ (fun hHeld3 => ?_)
      clear hK K hHeld2 hbb0 HIz0 HIy0
      refine wpAnyH_take (i := 4) (v := .bool false) nat4 (by kernel_rfl) (by kernel_rfl) (by kernel_rfl) (fun _ _ _ h => False.elim h) (Or.inl ⟨by rfl, ?_⟩) hHeld3 ?_
      · intro wx hSw
        go_simp
      simp only [Act.put, List.setIfInBounds_toArray, List.set_cons_zero, List.set_cons_succ]
      refine wpAnyH_done (by kernel_rfl) ?_ _
      refine NoPanic.normal ?_
      have HB := hide (HB.out.trans (hHeld3.2.2.mono HB.out.size))
      have HCw := hide (HCw.out.trans (hHeld3.2.2.mono HCw.out.size))
      have HCx := hide (HCx.out.trans (hHeld3.2.2.mono HCx.out.size))
      have HCg := hide (HCg.out.trans (hHeld3.2.2.mono HCg.out.size))
      have hszwb := hHeld3.2.2.size
      clear hHeld3
      have ka0 := (HKx.out.next HCx.out).cell 0
      have ka1 := (HKx.out.next HCx.out).cell 1
      have ka2 := (HKx.out.next HCx.out).cell 2
      go_wp2_with fail
      clear ka0 ka1 ka2
      have hfit0 := hf0.1
      refine (laws_markDisk 1 1 rfl ⟨by omega, by omega⟩ (some ⟨gx0, 0, none⟩) c0.n0 gx0 (some ⟨gx1, 0, none⟩) c0.n1 gx1 (some ⟨gx2, 0, none⟩) c0.n2 gx2 c0 wb0 hf0 (HAx.out.next HCx.out)).mono ?_
      rintro e w4 ⟨rfl, hm, _⟩
      have HMg := ((HMg.out.next HCg.out).m3 hm (.inr (by omega)) (.inr (by omega)) (.inr (by omega))).hid
      have HXg := (hm.box (HXg.out.next HCg.out) (.inr (by omega)) (.inr (by omega)) (.inr (by omega))).hid
      have HB := hide (HB.out.trans (hm.below HB.out.size (.inr (by omega)) (.inr (by omega)) (.inr (by omega))))
      have HCw := hide (HCw.out.trans (hm.below HCw.out.size (.inr (by omega)) (.inr (by omega)) (.inr (by omega))))
      have HCg : Hid (Below w4.heap.size w4 w4) := Below.refl _ _
      have hszmw4 := hm.size
      clear hm HCx HKx HIx HAx 
      have hposx : ¬ (((1 + c0.n0 * 2 + c0.n1 * 2 + c0.n2 * 4 : Nat) : Int) < 0) := by omega
      have ka0 := (HXg.out.next HCg.out).cell 0
      have ka1 := (HXg.out.next HCg.out).cell 1
      have ka2 := (HXg.out.next HCg.out).cell 2
      have kb0 := (HXw.out.next HCw.out).cell 0
      have kb1 := (HXw.out.next HCw.out).cell 1
      have kb2 := (HXw.out.next HCw.out).cell 2
      go_wp2_with fail
      clear ka0 ka1 ka2 kb0 kb1 kb2
      refine (laws_eqDisk _ _ rc w4 hrf (HMg.out.next HCg.out).is (HMw.out.next HCw.out).is).mono ?_
      rintro e w5 ⟨rfl, hb5⟩
      have HB := hide (HB.out.trans (hb5.mono HB.out.size))
      have HCw := hide (HCw.out.trans (hb5.mono HCw.out.size))
      have HCg := hide (HCg.out.trans (hb5.mono HCg.out.size))
      have hsz5 := hb5.size
      clear hb5
      have ka0 := (HXg.out.next HCg.out).cell 0
      have ka1 := (HXg.out.next HCg.out).cell 1
      have ka2 := (HXg.out.next HCg.out).cell 2
      go_wp2_with fail
      clear ka0 ka1 ka2
      obtain ⟨g0, g1, g2, hA, hq0, hq1, hq2⟩ := (HMg.out.next HCg.out).at3
      have hfr := hrf.1
      have hA0 := hA.a0
      have hF0 : rc.n0 = 0 ∨ Fg ≠ g0 := (HMg.out.next HCg.out).m0.ne_box (HXg.out.next HCg.out) (by decide) hA0
      have hA1 := hA.a1
      have hF1 : rc.n1 = 0 ∨ Fg ≠ g1 := (HMg.out.next HCg.out).m1.ne_box (HXg.out.next HCg.out) (by decide) hA1
      have hA2 := hA.a2
      have hF2 : rc.n2 = 0 ∨ Fg ≠ g2 := (HMg.out.next HCg.out).m2.ne_box (HXg.out.next HCg.out) (by decide) hA2
      refine (laws_markDisk 1 1 rfl ⟨by omega, by omega⟩ ga0 gp0 g0 ga1 gp1 g1 ga2 gp2 g2 rc w5 hrf hA).mono ?_
      rintro e w6 ⟨rfl, hm, hok⟩
      have HB := hide (HB.out.trans (hm.below HB.out.size (by omega) (by omega) (by omega)))
      have HCw := hide (HCw.out.trans (hm.below HCw.out.size (by omega) (by omega) (by omega)))
      have HXg := (hm.box (HXg.out.next HCg.out) hF0 hF1 hF2).hid
      have HOK := hok.hid
      have HCg : Hid (Below w6.heap.size w6 w6) := Below.refl _ _
      have hszmg := hm.size
      clear hm hok hA HMg
      have ka0 := (HXg.out.next HCg.out).cell 0
      have ka1 := (HXg.out.next HCg.out).cell 1
      have ka2 := (HXg.out.next HCg.out).cell 2
      go_wp2_with fail
      clear ka0 ka1 ka2
      refine (laws_heldDisk 1 1 rfl ⟨by omega, by omega⟩ ga0 gp0 g0 ga1 gp1 g1 ga2 gp2 g2 rc w6 hrf hA0 hA1 hA2 (HOK.out.next HCg.out)).mono ?_
      rintro e w7 ⟨rfl, hb7⟩
      have HB := hide (HB.out.trans (hb7.mono HB.out.size))
      have HCw := hide (HCw.out.trans (hb7.mono HCw.out.size))
      have HCg := hide (HCg.out.trans (hb7.mono HCg.out.size))
      have hsz7 := hb7.size
      clear hb7
      have hpos : ¬ (((1 + rc.n0 * 2 + rc.n1 * 2 + rc.n2 * 4 : Nat) : Int) < 0) := by omega
      go_upto_region 27 with fail
      go_cut [14, 15] (fun tp tq wx => ∃ (N : Nat) (q0 : Option Addr) (r0 : Nat) (q1 : Option Addr) (r1 : Nat) (q2 : Option Addr) (r2 : Nat), tp = .pointer (some ⟨N, 0, none⟩) ∧ tq = .int .i64 rb ∧ w7.heap.size ≤ N ∧ Hid (Below w7.heap.size w7 wx) ∧ Hid (BoxIs wx N #[.slice q0 rc.n0 r0, .slice q1 rc.n1 r1, .slice q2 rc.n2 r2] 31) ∧ Hid (Mine3 wx w7.heap.size q0 r0 q1 r1 q2 r2 rc))
      case first =>
        have LO : Below w7.heap.size w7 w7 := Below.refl _ _
        have hWs := HB.out.size
        have K0 := HK0.out.next HB.out
        have K1 := HK1.out.next HB.out
        refine wp_region_noPanic ?_
        have hb0 : Below w7.heap.size w7 w7.drew := (Below.refl _ _).drew
        have LO_0 := LO.trans (hb0.mono LO.size)
        have K1_0 := K1.next hb0
        have K0_0 := K0.next hb0
        refine wp_region_held_drew (S := fun x => BoxIs x w.heap.size #[.slice a0 c0.n0 p0, .slice a1 c0.n1 p1, .slice a2 c0.n2 p2] 25 ∧ BoxIs x (w.heap.size + 1) #[.int .i64 ok, .string om, .string os, .string od] 36) (by kernel_rfl) ⟨K0_0, K1_0⟩ (fun hSz => ?_)
        clear hSz K0 K1 LO
        generalize w7.drew = wq0 at hb0 LO_0 K1_0 K0_0 ⊢
        clear hb0
        refine wpAnyH_take (i := 0) (v := .agg #[.slice a0 c0.n0 p0, .slice a1 c0.n1 p1, .slice a2 c0.n2 p2]) nat0 (by kernel_rfl) (by kernel_rfl) (by kernel_rfl) (fun _ _ _ h => False.elim h) (Or.inl ⟨by rfl, ?_⟩) ⟨K0_0, K1_0⟩ ?_
        · intro wx hSw
          have y0 := hSw.1.cell 0
          have y1 := hSw.1.cell 1
          have y2 := hSw.1.cell 2
          simp only [List.getElem?_toArray, List.getElem?_cons_succ, List.getElem?_cons_zero] at y0 y1 y2
          go_simp
        simp only [Act.put, List.setIfInBounds_toArray, List.set_cons_zero, List.set_cons_succ]
        refine wpAnyH_take (i := 2) (v := .agg #[.int .i64 ok, .string om, .string os, .string od]) nat2 (by kernel_rfl) (by kernel_rfl) (by kernel_rfl) (fun _ _ _ h => False.elim h) (Or.inl ⟨by rfl, ?_⟩) ⟨K0_0, K1_0⟩ ?_
        · intro wx hSw
          have y0 := hSw.2.cell 0
          have y1 := hSw.2.cell 1
          have y2 := hSw.2.cell 2
          have y3 := hSw.2.cell 3
          simp only [List.getElem?_toArray, List.getElem?_cons_succ, List.getElem?_cons_zero] at y0 y1 y2 y3
          go_simp
        simp only [Act.put, List.setIfInBounds_toArray, List.set_cons_zero, List.set_cons_succ]
        refine wpAnyH_ready (rs := [1, 8]) (by kernel_rfl) (by simp) ?_
        refine AllReadyH.cons nat1 (fun K hK => ?_) (AllReadyH.cons nat8 (fun K hK => ?_) AllReadyH.nil)
        · go_simp
          go_at_call 14
          refine (laws_toDisk (.agg #[.slice a0 c0.n0 p0, .slice a1 c0.n1 p1, .slice a2 c0.n2 p2]) c0 wq0 hf0 (HV0.out.next (HB.out.trans (LO_0.mono HB.out.size)))).mono ?_
          rintro e wq1 ⟨gy1_0, gy1_1, gy1_2, rfl, _, hy1_0, _, hy1_1, _, hy1_2, _, _, hb1⟩
          have LO_1 := LO_0.trans (hb1.mono LO_0.size)
          have K1_1 := K1_0.next hb1
          have K0_1 := K0_0.next hb1
          have IV_1 := DiskIs.of_rows hy1_0 hy1_1 hy1_2
          refine hK.out _ _ ⟨K0_1, K1_1⟩ (fun hSz => ?_)
          clear hK K hSz K0_0 K1_0 LO_0 hb1 hy1_0 hy1_1 hy1_2
          refine wpAnyH_ready (rs := [3, 8]) (by kernel_rfl) (by simp) ?_
          refine AllReadyH.cons nat3 (fun K hK => ?_) (AllReadyH.cons nat8 (fun K hK => ?_) AllReadyH.nil)
          · go_simp
            go_at_call 19
            refine (laws_toDOp ok om os od wq1).mono ?_
            rintro e wq2 ⟨rfl, hb2⟩
            have LO_2 := LO_1.trans (hb2.mono LO_1.size)
            have K1_2 := K1_1.next hb2
            have K0_2 := K0_1.next hb2
            have IV_2 := IV_1.next hb2
            refine hK.out _ _ ⟨K0_2, K1_2⟩ (fun hSz => ?_)
            clear hK K hSz IV_1 K0_1 K1_1 LO_1 hb2
            refine wpAnyH_ready (rs := [4, 8]) (by kernel_rfl) (by simp) ?_
            refine AllReadyH.cons nat4 (fun K hK => ?_) (AllReadyH.cons nat8 (fun K hK => ?_) AllReadyH.nil)
            · go_simp
              go_at_call 20
              refine (ci (.agg #[.slice (some ⟨gy1_0, 0, none⟩) c0.n0 c0.n0, .slice (some ⟨gy1_1, 0, none⟩) c0.n1 c0.n1, .slice (some ⟨gy1_2, 0, none⟩) c0.n2 c0.n2]) wq2 IV_2).mono ?_
              rintro e wq3 ⟨⟨u3, rfl, ho3⟩, hb3⟩
              obtain ⟨ya3_0, yp3_0, ya3_1, yp3_1, ya3_2, yp3_2, rfl, hM3⟩ := ho3.mine
              have LO_3 := LO_2.trans (hb3.mono LO_2.size)
              have K1_3 := K1_2.next hb3
              have K0_3 := K0_2.next hb3
              have IV_3 := IV_2.next hb3
              have HM_3 := hM3.base LO_2.size
              refine hK.out _ _ ⟨K0_3, K1_3⟩ (fun hSz => ?_)
              clear hK K hSz IV_2 K0_2 K1_2 LO_2 hb3 hM3
              refine wpAnyH_take (i := 5) (v := .tuple #[.agg #[.slice ya3_0 rc.n0 yp3_0, .slice ya3_1 rc.n1 yp3_1, .slice ya3_2 rc.n2 yp3_2], .int .i64 rb]) nat5 (by kernel_rfl) (by kernel_rfl) (by kernel_rfl) (fun _ _ _ h => False.elim h) (Or.inl ⟨by rfl, ?_⟩) ⟨K0_3, K1_3⟩ ?_
              · intro wx hSw
                go_simp
              simp only [Act.put, List.setIfInBounds_toArray, List.set_cons_zero, List.set_cons_succ]
              refine wpAnyH_take (i := 6) (v := .agg #[.slice ya3_0 rc.n0 yp3_0, .slice ya3_1 rc.n1 yp3_1, .slice ya3_2 rc.n2 yp3_2]) nat6 (by kernel_rfl) (by kernel_rfl) (by kernel_rfl) (fun _ _ _ h => False.elim h) (Or.inl ⟨by rfl, ?_⟩) ⟨K0_3, K1_3⟩ ?_
              · intro wx hSw
                go_simp
              simp only [Act.put, List.setIfInBounds_toArray, List.set_cons_zero, List.set_cons_succ]
              refine wpAnyH_take (i := 7) (v := .int .i64 rb) nat7 (by kernel_rfl) (by kernel_rfl) (by kernel_rfl) (fun _ _ _ h => False.elim h) (Or.inl ⟨by rfl, ?_⟩) ⟨K0_3, K1_3⟩ ?_
              · intro wx hSw
                go_simp
              simp only [Act.put, List.setIfInBounds_toArray, List.set_cons_zero, List.set_cons_succ]
              refine wpAnyH_ready (rs := [8]) (by kernel_rfl) (by simp) ?_
              refine AllReadyH.cons nat8 (fun K hK => ?_) AllReadyH.nil
              go_simp
              have hlt4 : w7.heap.size ≤ wq3.heap.size := LO_3.size
              have hb4 := below_one wq3 (.cells #[.slice none 0 0, .slice none 0 0, .slice none 0 0] 31)
              have LO_4 := LO_3.trans (hb4.mono LO_3.size)
              have K1_4 := K1_3.next hb4
              have K0_4 := K0_3.next hb4
              have IV_4 := IV_3.next hb4
              have HM_4 := HM_3.next hb4
              have NB14_4 := BoxIs.new wq3 #[.slice none 0 0, .slice none 0 0, .slice none 0 0] 31 rfl
              refine hK.out _ _ ⟨K0_4, K1_4⟩ (fun hSz => ?_)
              clear hK K hSz HM_3 IV_3 K0_3 K1_3 LO_3
              obtain ⟨G4, hG4⟩ : ∃ G, G = wq3.heap.size := ⟨_, rfl⟩
              rw [← hG4] at NB14_4 ⊢
              generalize wq3.alloc (.cells #[.slice none 0 0, .slice none 0 0, .slice none 0 0] 31) = wq4 at hb4 LO_4 K1_4 K0_4 IV_4 HM_4 NB14_4 ⊢
              rw [← hG4] at hlt4
              clear hG4 hb4
              refine wpAnyH_ready (rs := [9]) (by kernel_rfl) (by simp) ?_
              refine AllReadyH.cons nat9 (fun K hK => ?_) AllReadyH.nil
              have y0 := NB14_4.cell 0
              have y1 := NB14_4.cell 1
              have y2 := NB14_4.cell 2
              simp only [List.getElem?_toArray, List.getElem?_cons_succ, List.getElem?_cons_zero] at y0 y1 y2
              have yf := NB14_4.free
              go_simp
              clear yf y0 y1 y2
              have LO_5s0 := LO_4.setCell (p := ⟨G4, 0, none⟩) hlt4 (.slice ya3_0 rc.n0 yp3_0)
              have K1_5s0 := K1_4.set_other (p := ⟨G4, 0, none⟩) (by show G4 ≠ w.heap.size + 1; omega) (.slice ya3_0 rc.n0 yp3_0)
              have K0_5s0 := K0_4.set_other (p := ⟨G4, 0, none⟩) (by show G4 ≠ w.heap.size; omega) (.slice ya3_0 rc.n0 yp3_0)
              have HM_5s0 := HM_4.setBox NB14_4 0 (.slice ya3_0 rc.n0 yp3_0)
              have NB14_5s0 := NB14_4.set 0 (.slice ya3_0 rc.n0 yp3_0)
              have LO_5s1 := LO_5s0.setCell (p := ⟨G4, 1, none⟩) hlt4 (.slice ya3_1 rc.n1 yp3_1)
              have K1_5s1 := K1_5s0.set_other (p := ⟨G4, 1, none⟩) (by show G4 ≠ w.heap.size + 1; omega) (.slice ya3_1 rc.n1 yp3_1)
              have K0_5s1 := K0_5s0.set_other (p := ⟨G4, 1, none⟩) (by show G4 ≠ w.heap.size; omega) (.slice ya3_1 rc.n1 yp3_1)
              have HM_5s1 := HM_5s0.setBox NB14_5s0 1 (.slice ya3_1 rc.n1 yp3_1)
              have NB14_5s1 := NB14_5s0.set 1 (.slice ya3_1 rc.n1 yp3_1)
              have LO_5s2 := LO_5s1.setCell (p := ⟨G4, 2, none⟩) hlt4 (.slice ya3_2 rc.n2 yp3_2)
              have K1_5s2 := K1_5s1.set_other (p := ⟨G4, 2, none⟩) (by show G4 ≠ w.heap.size + 1; omega) (.slice ya3_2 rc.n2 yp3_2)
              have K0_5s2 := K0_5s1.set_other (p := ⟨G4, 2, none⟩) (by show G4 ≠ w.heap.size; omega) (.slice ya3_2 rc.n2 yp3_2)
              have HM_5s2 := HM_5s1.setBox NB14_5s1 2 (.slice ya3_2 rc.n2 yp3_2)
              have NB14_5s2 := NB14_5s1.set 2 (.slice ya3_2 rc.n2 yp3_2)
              have LO_5 := LO_5s2
              have K1_5 := K1_5s2
              have K0_5 := K0_5s2
              have HM_5 := HM_5s2
              have NB14_5 : BoxIs (((wq4.setCell ⟨G4, 0, none⟩ (.slice ya3_0 rc.n0 yp3_0)).setCell ⟨G4, 1, none⟩ (.slice ya3_1 rc.n1 yp3_1)).setCell ⟨G4, 2, none⟩ (.slice ya3_2 rc.n2 yp3_2)) G4 #[.slice ya3_0 rc.n0 yp3_0, .slice ya3_1 rc.n1 yp3_1, .slice ya3_2 rc.n2 yp3_2] 31 := NB14_5s2
              refine hK.out _ _ ⟨K0_5, K1_5⟩ (fun hSz => ?_)
              clear hK K hSz HM_4 IV_4 K0_4 K1_4 LO_4 NB14_4 LO_5s0 LO_5s1 LO_5s2 K1_5s0 K1_5s1 K1_5s2 K0_5s0 K0_5s1 K0_5s2 HM_5s0 HM_5s1 HM_5s2 NB14_5s0 NB14_5s1 NB14_5s2
              generalize ((wq4.setCell ⟨G4, 0, none⟩ (.slice ya3_0 rc.n0 yp3_0)).setCell ⟨G4, 1, none⟩ (.slice ya3_1 rc.n1 yp3_1)).setCell ⟨G4, 2, none⟩ (.slice ya3_2 rc.n2 yp3_2) = wq5 at LO_5 K1_5 K0_5 HM_5 NB14_5 ⊢
              refine wpAnyH_take (i := 10) (v := .int .i64 rb) nat10 (by kernel_rfl) (by kernel_rfl) (by kernel_rfl) (fun _ _ _ h => False.elim h) (Or.inl ⟨by rfl, ?_⟩) ⟨K0_5, K1_5⟩ ?_
              · intro wx hSw
                go_simp
              simp only [Act.put, List.setIfInBounds_toArray, List.set_cons_zero, List.set_cons_succ]
              refine wpAnyH_done (by kernel_rfl) ?_ _
              refine NoPanic.normal ?_
              go_wp2_with fail
              go_meet
              exact ⟨G4, ya3_0, yp3_0, ya3_1, yp3_1, ya3_2, yp3_2, rfl, rfl, hlt4, hide LO_5, hide NB14_5, hide HM_5⟩
            · go_simp
              have hlt6 : w7.heap.size ≤ wq2.heap.size := LO_2.size
              have hb6 := below_one wq2 (.cells #[.slice none 0 0, .slice none 0 0, .slice none 0 0] 31)
              have LO_6 := LO_2.trans (hb6.mono LO_2.size)
              have K1_6 := K1_2.next hb6
              have K0_6 := K0_2.next hb6
              have IV_6 := IV_2.next hb6
              have NB14_6 := BoxIs.new wq2 #[.slice none 0 0, .slice none 0 0, .slice none 0 0] 31 rfl
              refine hK.out _ _ ⟨K0_6, K1_6⟩ (fun hSz => ?_)
              clear hK K hSz IV_2 K0_2 K1_2 LO_2
              obtain ⟨G6, hG6⟩ : ∃ G, G = wq2.heap.size := ⟨_, rfl⟩
              rw [← hG6] at NB14_6 ⊢
              generalize wq2.alloc (.cells #[.slice none 0 0, .slice none 0 0, .slice none 0 0] 31) = wq6 at hb6 LO_6 K1_6 K0_6 IV_6 NB14_6 ⊢
              rw [← hG6] at hlt6
              clear hG6 hb6
              refine wpAnyH_ready (rs := [4]) (by kernel_rfl) (by simp) ?_
              refine AllReadyH.cons nat4 (fun K hK => ?_) AllReadyH.nil
              go_simp
              go_at_call 20
              refine (ci (.agg #[.slice (some ⟨gy1_0, 0, none⟩) c0.n0 c0.n0, .slice (some ⟨gy1_1, 0, none⟩) c0.n1 c0.n1, .slice (some ⟨gy1_2, 0, none⟩) c0.n2 c0.n2]) wq6 IV_6).mono ?_
              rintro e wq7 ⟨⟨u7, rfl, ho7⟩, hb7⟩
              obtain ⟨ya7_0, yp7_0, ya7_1, yp7_1, ya7_2, yp7_2, rfl, hM7⟩ := ho7.mine
              have LO_7 := LO_6.trans (hb7.mono LO_6.size)
              have K1_7 := K1_6.next hb7
              have K0_7 := K0_6.next hb7
              have IV_7 := IV_6.next hb7
              have NB14_7 := NB14_6.next hb7
              have HM_7 := hM7.base LO_6.size
              refine hK.out _ _ ⟨K0_7, K1_7⟩ (fun hSz => ?_)
              clear hK K hSz IV_6 K0_6 K1_6 LO_6 NB14_6 hb7 hM7
              refine wpAnyH_take (i := 5) (v := .tuple #[.agg #[.slice ya7_0 rc.n0 yp7_0, .slice ya7_1 rc.n1 yp7_1, .slice ya7_2 rc.n2 yp7_2], .int .i64 rb]) nat5 (by kernel_rfl) (by kernel_rfl) (by kernel_rfl) (fun _ _ _ h => False.elim h) (Or.inl ⟨by rfl, ?_⟩) ⟨K0_7, K1_7⟩ ?_
              · intro wx hSw
                go_simp
              simp only [Act.put, List.setIfInBounds_toArray, List.set_cons_zero, List.set_cons_succ]
              refine wpAnyH_take (i := 6) (v := .agg #[.slice ya7_0 rc.n0 yp7_0, .slice ya7_1 rc.n1 yp7_1, .slice ya7_2 rc.n2 yp7_2]) nat6 (by kernel_rfl) (by kernel_rfl) (by kernel_rfl) (fun _ _ _ h => False.elim h) (Or.inl ⟨by rfl, ?_⟩) ⟨K0_7, K1_7⟩ ?_
              · intro wx hSw
                go_simp
              simp only [Act.put, List.setIfInBounds_toArray, List.set_cons_zero, List.set_cons_succ]
              refine wpAnyH_take (i := 7) (v := .int .i64 rb) nat7 (by kernel_rfl) (by kernel_rfl) (by kernel_rfl) (fun _ _ _ h => False.elim h) (Or.inl ⟨by rfl, ?_⟩) ⟨K0_7, K1_7⟩ ?_
              · intro wx hSw
                go_simp
              simp only [Act.put, List.setIfInBounds_toArray, List.set_cons_zero, List.set_cons_succ]
              refine wpAnyH_ready (rs := [9]) (by kernel_rfl) (by simp) ?_
              refine AllReadyH.cons nat9 (fun K hK => ?_) AllReadyH.nil
              have y0 := NB14_7.cell 0
              have y1 := NB14_7.cell 1
              have y2 := NB14_7.cell 2
              simp only [List.getElem?_toArray, List.getElem?_cons_succ, List.getElem?_cons_zero] at y0 y1 y2
              have yf := NB14_7.free
              go_simp
              clear yf y0 y1 y2
              have LO_8s0 := LO_7.setCell (p := ⟨G6, 0, none⟩) hlt6 (.slice ya7_0 rc.n0 yp7_0)
              have K1_8s0 := K1_7.set_other (p := ⟨G6, 0, none⟩) (by show G6 ≠ w.heap.size + 1; omega) (.slice ya7_0 rc.n0 yp7_0)
              have K0_8s0 := K0_7.set_other (p := ⟨G6, 0, none⟩) (by show G6 ≠ w.heap.size; omega) (.slice ya7_0 rc.n0 yp7_0)
              have NB14_8s0 := NB14_7.set 0 (.slice ya7_0 rc.n0 yp7_0)
              have HM_8s0 := HM_7.setBox NB14_7 0 (.slice ya7_0 rc.n0 yp7_0)
              have LO_8s1 := LO_8s0.setCell (p := ⟨G6, 1, none⟩) hlt6 (.slice ya7_1 rc.n1 yp7_1)
              have K1_8s1 := K1_8s0.set_other (p := ⟨G6, 1, none⟩) (by show G6 ≠ w.heap.size + 1; omega) (.slice ya7_1 rc.n1 yp7_1)
              have K0_8s1 := K0_8s0.set_other (p := ⟨G6, 1, none⟩) (by show G6 ≠ w.heap.size; omega) (.slice ya7_1 rc.n1 yp7_1)
              have NB14_8s1 := NB14_8s0.set 1 (.slice ya7_1 rc.n1 yp7_1)
              have HM_8s1 := HM_8s0.setBox NB14_8s0 1 (.slice ya7_1 rc.n1 yp7_1)
              have LO_8s2 := LO_8s1.setCell (p := ⟨G6, 2, none⟩) hlt6 (.slice ya7_2 rc.n2 yp7_2)
              have K1_8s2 := K1_8s1.set_other (p := ⟨G6, 2, none⟩) (by show G6 ≠ w.heap.size + 1; omega) (.slice ya7_2 rc.n2 yp7_2)
              have K0_8s2 := K0_8s1.set_other (p := ⟨G6, 2, none⟩) (by show G6 ≠ w.heap.size; omega) (.slice ya7_2 rc.n2 yp7_2)
              have NB14_8s2 := NB14_8s1.set 2 (.slice ya7_2 rc.n2 yp7_2)
              have HM_8s2 := HM_8s1.setBox NB14_8s1 2 (.slice ya7_2 rc.n2 yp7_2)
              have LO_8 := LO_8s2
              have K1_8 := K1_8s2
              have K0_8 := K0_8s2
              have NB14_8 : BoxIs (((wq7.setCell ⟨G6, 0, none⟩ (.slice ya7_0 rc.n0 yp7_0)).setCell ⟨G6, 1, none⟩ (.slice ya7_1 rc.n1 yp7_1)).setCell ⟨G6, 2, none⟩ (.slice ya7_2 rc.n2 yp7_2)) G6 #[.slice ya7_0 rc.n0 yp7_0, .slice ya7_1 rc.n1 yp7_1, .slice ya7_2 rc.n2 yp7_2] 31 := NB14_8s2
              have HM_8 := HM_8s2
              refine hK.out _ _ ⟨K0_8, K1_8⟩ (fun hSz => ?_)
              clear hK K hSz HM_7 IV_7 K0_7 K1_7 LO_7 NB14_7 LO_8s0 LO_8s1 LO_8s2 K1_8s0 K1_8s1 K1_8s2 K0_8s0 K0_8s1 K0_8s2 NB14_8s0 NB14_8s1 NB14_8s2 HM_8s0 HM_8s1 HM_8s2
              generalize ((wq7.setCell ⟨G6, 0, none⟩ (.slice ya7_0 rc.n0 yp7_0)).setCell ⟨G6, 1, none⟩ (.slice ya7_1 rc.n1 yp7_1)).setCell ⟨G6, 2, none⟩ (.slice ya7_2 rc.n2 yp7_2) = wq8 at LO_8 K1_8 K0_8 NB14_8 HM_8 ⊢
              refine wpAnyH_take (i := 10) (v := .int .i64 rb) nat10 (by kernel_rfl) (by kernel_rfl) (by kernel_rfl) (fun _ _ _ h => False.elim h) (Or.inl ⟨by rfl, ?_⟩) ⟨K0_8, K1_8⟩ ?_
              · intro wx hSw
                go_simp
              simp only [Act.put, List.setIfInBounds_toArray, List.set_cons_zero, List.set_cons_succ]
              refine wpAnyH_done (by kernel_rfl) ?_ _
              refine NoPanic.normal ?_
              go_wp2_with fail
              go_meet
              exact ⟨G6, ya7_0, yp7_0, ya7_1, yp7_1, ya7_2, yp7_2, rfl, rfl, hlt6, hide LO_8, hide NB14_8, hide HM_8⟩
          · go_simp
            have hlt9 : w7.heap.size ≤ wq1.heap.size := LO_1.size
            have hb9 := below_one wq1 (.cells #[.slice none 0 0, .slice none 0 0, .slice none 0 0] 31)
            have LO_9 := LO_1.trans (hb9.mono LO_1.size)
            have K1_9 := K1_1.next hb9
            have K0_9 := K0_1.next hb9
            have IV_9 := IV_1.next hb9
            have NB14_9 := BoxIs.new wq1 #[.slice none 0 0, .slice none 0 0, .slice none 0 0] 31 rfl
            refine hK.out _ _ ⟨K0_9, K1_9⟩ (fun hSz => ?_)
            clear hK K hSz IV_1 K0_1 K1_1 LO_1
            obtain ⟨G9, hG9⟩ : ∃ G, G = wq1.heap.size := ⟨_, rfl⟩
            rw [← hG9] at NB14_9 ⊢
            generalize wq1.alloc (.cells #[.slice none 0 0, .slice none 0 0, .slice none 0 0] 31) = wq9 at hb9 LO_9 K1_9 K0_9 IV_9 NB14_9 ⊢
            rw [← hG9] at hlt9
            clear hG9 hb9
            refine wpAnyH_ready (rs := [3]) (by kernel_rfl) (by simp) ?_
            refine AllReadyH.cons nat3 (fun K hK => ?_) AllReadyH.nil
            go_simp
            go_at_call 19
            refine (laws_toDOp ok om os od wq9).mono ?_
            rintro e wq10 ⟨rfl, hb10⟩
            have LO_10 := LO_9.trans (hb10.mono LO_9.size)
            have K1_10 := K1_9.next hb10
            have K0_10 := K0_9.next hb10
            have IV_10 := IV_9.next hb10
            have NB14_10 := NB14_9.next hb10
            refine hK.out _ _ ⟨K0_10, K1_10⟩ (fun hSz => ?_)
            clear hK K hSz IV_9 K0_9 K1_9 LO_9 NB14_9 hb10
            refine wpAnyH_ready (rs := [4]) (by kernel_rfl) (by simp) ?_
            refine AllReadyH.cons nat4 (fun K hK => ?_) AllReadyH.nil
            go_simp
            go_at_call 20
            refine (ci (.agg #[.slice (some ⟨gy1_0, 0, none⟩) c0.n0 c0.n0, .slice (some ⟨gy1_1, 0, none⟩) c0.n1 c0.n1, .slice (some ⟨gy1_2, 0, none⟩) c0.n2 c0.n2]) wq10 IV_10).mono ?_
            rintro e wq11 ⟨⟨u11, rfl, ho11⟩, hb11⟩
            obtain ⟨ya11_0, yp11_0, ya11_1, yp11_1, ya11_2, yp11_2, rfl, hM11⟩ := ho11.mine
            have LO_11 := LO_10.trans (hb11.mono LO_10.size)
            have K1_11 := K1_10.next hb11
            have K0_11 := K0_10.next hb11
            have IV_11 := IV_10.next hb11
            have NB14_11 := NB14_10.next hb11
            have HM_11 := hM11.base LO_10.size
            refine hK.out _ _ ⟨K0_11, K1_11⟩ (fun hSz => ?_)
            clear hK K hSz IV_10 K0_10 K1_10 LO_10 NB14_10 hb11 hM11
            refine wpAnyH_take (i := 5) (v := .tuple #[.agg #[.slice ya11_0 rc.n0 yp11_0, .slice ya11_1 rc.n1 yp11_1, .slice ya11_2 rc.n2 yp11_2], .int .i64 rb]) nat5 (by kernel_rfl) (by kernel_rfl) (by kernel_rfl) (fun _ _ _ h => False.elim h) (Or.inl ⟨by rfl, ?_⟩) ⟨K0_11, K1_11⟩ ?_
            · intro wx hSw
              go_simp
            simp only [Act.put, List.setIfInBounds_toArray, List.set_cons_zero, List.set_cons_succ]
            refine wpAnyH_take (i := 6) (v := .agg #[.slice ya11_0 rc.n0 yp11_0, .slice ya11_1 rc.n1 yp11_1, .slice ya11_2 rc.n2 yp11_2]) nat6 (by kernel_rfl) (by kernel_rfl) (by kernel_rfl) (fun _ _ _ h => False.elim h) (Or.inl ⟨by rfl, ?_⟩) ⟨K0_11, K1_11⟩ ?_
            · intro wx hSw
              go_simp
            simp only [Act.put, List.setIfInBounds_toArray, List.set_cons_zero, List.set_cons_succ]
            refine wpAnyH_take (i := 7) (v := .int .i64 rb) nat7 (by kernel_rfl) (by kernel_rfl) (by kernel_rfl) (fun _ _ _ h => False.elim h) (Or.inl ⟨by rfl, ?_⟩) ⟨K0_11, K1_11⟩ ?_
            · intro wx hSw
              go_simp
            simp only [Act.put, List.setIfInBounds_toArray, List.set_cons_zero, List.set_cons_succ]
            refine wpAnyH_ready (rs := [9]) (by kernel_rfl) (by simp) ?_
            refine AllReadyH.cons nat9 (fun K hK => ?_) AllReadyH.nil
            have y0 := NB14_11.cell 0
            have y1 := NB14_11.cell 1
            have y2 := NB14_11.cell 2
            simp only [List.getElem?_toArray, List.getElem?_cons_succ, List.getElem?_cons_zero] at y0 y1 y2
            have yf := NB14_11.free
            go_simp
            clear yf y0 y1 y2
            have LO_12s0 := LO_11.setCell (p := ⟨G9, 0, none⟩) hlt9 (.slice ya11_0 rc.n0 yp11_0)
            have K1_12s0 := K1_11.set_other (p := ⟨G9, 0, none⟩) (by show G9 ≠ w.heap.size + 1; omega) (.slice ya11_0 rc.n0 yp11_0)
            have K0_12s0 := K0_11.set_other (p := ⟨G9, 0, none⟩) (by show G9 ≠ w.heap.size; omega) (.slice ya11_0 rc.n0 yp11_0)
            have NB14_12s0 := NB14_11.set 0 (.slice ya11_0 rc.n0 yp11_0)
            have HM_12s0 := HM_11.setBox NB14_11 0 (.slice ya11_0 rc.n0 yp11_0)
            have LO_12s1 := LO_12s0.setCell (p := ⟨G9, 1, none⟩) hlt9 (.slice ya11_1 rc.n1 yp11_1)
            have K1_12s1 := K1_12s0.set_other (p := ⟨G9, 1, none⟩) (by show G9 ≠ w.heap.size + 1; omega) (.slice ya11_1 rc.n1 yp11_1)
            have K0_12s1 := K0_12s0.set_other (p := ⟨G9, 1, none⟩) (by show G9 ≠ w.heap.size; omega) (.slice ya11_1 rc.n1 yp11_1)
            have NB14_12s1 := NB14_12s0.set 1 (.slice ya11_1 rc.n1 yp11_1)
            have HM_12s1 := HM_12s0.setBox NB14_12s0 1 (.slice ya11_1 rc.n1 yp11_1)
            have LO_12s2 := LO_12s1.setCell (p := ⟨G9, 2, none⟩) hlt9 (.slice ya11_2 rc.n2 yp11_2)
            have K1_12s2 := K1_12s1.set_other (p := ⟨G9, 2, none⟩) (by show G9 ≠ w.heap.size + 1; omega) (.slice ya11_2 rc.n2 yp11_2)
            have K0_12s2 := K0_12s1.set_other (p := ⟨G9, 2, none⟩) (by show G9 ≠ w.heap.size; omega) (.slice ya11_2 rc.n2 yp11_2)
            have NB14_12s2 := NB14_12s1.set 2 (.slice ya11_2 rc.n2 yp11_2)
            have HM_12s2 := HM_12s1.setBox NB14_12s1 2 (.slice ya11_2 rc.n2 yp11_2)
            have LO_12 := LO_12s2
            have K1_12 := K1_12s2
            have K0_12 := K0_12s2
            have NB14_12 : BoxIs (((wq11.setCell ⟨G9, 0, none⟩ (.slice ya11_0 rc.n0 yp11_0)).setCell ⟨G9, 1, none⟩ (.slice ya11_1 rc.n1 yp11_1)).setCell ⟨G9, 2, none⟩ (.slice ya11_2 rc.n2 yp11_2)) G9 #[.slice ya11_0 rc.n0 yp11_0, .slice ya11_1 rc.n1 yp11_1, .slice ya11_2 rc.n2 yp11_2] 31 := NB14_12s2
            have HM_12 := HM_12s2
            refine hK.out _ _ ⟨K0_12, K1_12⟩ (fun hSz => ?_)
            clear hK K hSz HM_11 IV_11 K0_11 K1_11 LO_11 NB14_11 LO_12s0 LO_12s1 LO_12s2 K1_12s0 K1_12s1 K1_12s2 K0_12s0 K0_12s1 K0_12s2 NB14_12s0 NB14_12s1 NB14_12s2 HM_12s0 HM_12s1 HM_12s2
            generalize ((wq11.setCell ⟨G9, 0, none⟩ (.slice ya11_0 rc.n0 yp11_0)).setCell ⟨G9, 1, none⟩ (.slice ya11_1 rc.n1 yp11_1)).setCell ⟨G9, 2, none⟩ (.slice ya11_2 rc.n2 yp11_2) = wq12 at LO_12 K1_12 K0_12 NB14_12 HM_12 ⊢
            refine wpAnyH_take (i := 10) (v := .int .i64 rb) nat10 (by kernel_rfl) (by kernel_rfl) (by kernel_rfl) (fun _ _ _ h => False.elim h) (Or.inl ⟨by rfl, ?_⟩) ⟨K0_12, K1_12⟩ ?_
            · intro wx hSw
              go_simp
            simp only [Act.put, List.setIfInBounds_toArray, List.set_cons_zero, List.set_cons_succ]
            refine wpAnyH_done (by kernel_rfl) ?_ _
            refine NoPanic.normal ?_
            go_wp2_with fail
            go_meet
            exact ⟨G9, ya11_0, yp11_0, ya11_1, yp11_1, ya11_2, yp11_2, rfl, rfl, hlt9, hide LO_12, hide NB14_12, hide HM_12⟩
        · go_simp
          have hlt13 : w7.heap.size ≤ wq0.heap.size := LO_0.size
          have hb13 := below_one wq0 (.cells #[.slice none 0 0, .slice none 0 0, .slice none 0 0] 31)
          have LO_13 := LO_0.trans (hb13.mono LO_0.size)
          have K1_13 := K1_0.next hb13
          have K0_13 := K0_0.next hb13
          have NB14_13 := BoxIs.new wq0 #[.slice none 0 0, .slice none 0 0, .slice none 0 0] 31 rfl
          refine hK.out _ _ ⟨K0_13, K1_13⟩ (fun hSz => ?_)
          clear hK K hSz K0_0 K1_0 LO_0
          obtain ⟨G13, hG13⟩ : ∃ G, G = wq0.heap.size := ⟨_, rfl⟩
          rw [← hG13] at NB14_13 ⊢
          generalize wq0.alloc (.cells #[.slice none 0 0, .slice none 0 0, .slice none 0 0] 31) = wq13 at hb13 LO_13 K1_13 K0_13 NB14_13 ⊢
          rw [← hG13] at hlt13
          clear hG13 hb13
          refine wpAnyH_ready (rs := [1]) (by kernel_rfl) (by simp) ?_
          refine AllReadyH.cons nat1 (fun K hK => ?_) AllReadyH.nil
          go_simp
          go_at_call 14
          refine (laws_toDisk (.agg #[.slice a0 c0.n0 p0, .slice a1 c0.n1 p1, .slice a2 c0.n2 p2]) c0 wq13 hf0 (HV0.out.next (HB.out.trans (LO_13.mono HB.out.size)))).mono ?_
          rintro e wq14 ⟨gy14_0, gy14_1, gy14_2, rfl, _, hy14_0, _, hy14_1, _, hy14_2, _, _, hb14⟩
          have LO_14 := LO_13.trans (hb14.mono LO_13.size)
          have K1_14 := K1_13.next hb14
          have K0_14 := K0_13.next hb14
          have NB14_14 := NB14_13.next hb14
          have IV_14 := DiskIs.of_rows hy14_0 hy14_1 hy14_2
          refine hK.out _ _ ⟨K0_14, K1_14⟩ (fun hSz => ?_)
          clear hK K hSz K0_13 K1_13 LO_13 NB14_13 hb14 hy14_0 hy14_1 hy14_2
          refine wpAnyH_ready (rs := [3]) (by kernel_rfl) (by simp) ?_
          refine AllReadyH.cons nat3 (fun K hK => ?_) AllReadyH.nil
          go_simp
          go_at_call 19
          refine (laws_toDOp ok om os od wq14).mono ?_
          rintro e wq15 ⟨rfl, hb15⟩
          have LO_15 := LO_14.trans (hb15.mono LO_14.size)
          have K1_15 := K1_14.next hb15
          have K0_15 := K0_14.next hb15
          have NB14_15 := NB14_14.next hb15
          have IV_15 := IV_14.next hb15
          refine hK.out _ _ ⟨K0_15, K1_15⟩ (fun hSz => ?_)
          clear hK K hSz IV_14 K0_14 K1_14 LO_14 NB14_14 hb15
          refine wpAnyH_ready (rs := [4]) (by kernel_rfl) (by simp) ?_
          refine AllReadyH.cons nat4 (fun K hK => ?_) AllReadyH.nil
          go_simp
          go_at_call 20
          refine (ci (.agg #[.slice (some ⟨gy14_0, 0, none⟩) c0.n0 c0.n0, .slice (some ⟨gy14_1, 0, none⟩) c0.n1 c0.n1, .slice (some ⟨gy14_2, 0, none⟩) c0.n2 c0.n2]) wq15 IV_15).mono ?_
          rintro e wq16 ⟨⟨u16, rfl, ho16⟩, hb16⟩
          obtain ⟨ya16_0, yp16_0, ya16_1, yp16_1, ya16_2, yp16_2, rfl, hM16⟩ := ho16.mine
          have LO_16 := LO_15.trans (hb16.mono LO_15.size)
          have K1_16 := K1_15.next hb16
          have K0_16 := K0_15.next hb16
          have NB14_16 := NB14_15.next hb16
          have IV_16 := IV_15.next hb16
          have HM_16 := hM16.base LO_15.size
          refine hK.out _ _ ⟨K0_16, K1_16⟩ (fun hSz => ?_)
          clear hK K hSz IV_15 K0_15 K1_15 LO_15 NB14_15 hb16 hM16
          refine wpAnyH_take (i := 5) (v := .tuple #[.agg #[.slice ya16_0 rc.n0 yp16_0, .slice ya16_1 rc.n1 yp16_1, .slice ya16_2 rc.n2 yp16_2], .int .i64 rb]) nat5 (by kernel_rfl) (by kernel_rfl) (by kernel_rfl) (fun _ _ _ h => False.elim h) (Or.inl ⟨by rfl, ?_⟩) ⟨K0_16, K1_16⟩ ?_
          · intro wx hSw
            go_simp
          simp only [Act.put, List.setIfInBounds_toArray, List.set_cons_zero, List.set_cons_succ]
          refine wpAnyH_take (i := 6) (v := .agg #[.slice ya16_0 rc.n0 yp16_0, .slice ya16_1 rc.n1 yp16_1, .slice ya16_2 rc.n2 yp16_2]) nat6 (by kernel_rfl) (by kernel_rfl) (by kernel_rfl) (fun _ _ _ h => False.elim h) (Or.inl ⟨by rfl, ?_⟩) ⟨K0_16, K1_16⟩ ?_
          · intro wx hSw
            go_simp
          simp only [Act.put, List.setIfInBounds_toArray, List.set_cons_zero, List.set_cons_succ]
          refine wpAnyH_take (i := 7) (v := .int .i64 rb) nat7 (by kernel_rfl) (by kernel_rfl) (by kernel_rfl) (fun _ _ _ h => False.elim h) (Or.inl ⟨by rfl, ?_⟩) ⟨K0_16, K1_16⟩ ?_
          · intro wx hSw
            go_simp
          simp only [Act.put, List.setIfInBounds_toArray, List.set_cons_zero, List.set_cons_succ]
          refine wpAnyH_ready (rs := [9]) (by kernel_rfl) (by simp) ?_
          refine AllReadyH.cons nat9 (fun K hK => ?_) AllReadyH.nil
          have y0 := NB14_16.cell 0
          have y1 := NB14_16.cell 1
          have y2 := NB14_16.cell 2
          simp only [List.getElem?_toArray, List.getElem?_cons_succ, List.getElem?_cons_zero] at y0 y1 y2
          have yf := NB14_16.free
          go_simp
          clear yf y0 y1 y2
          have LO_17s0 := LO_16.setCell (p := ⟨G13, 0, none⟩) hlt13 (.slice ya16_0 rc.n0 yp16_0)
          have K1_17s0 := K1_16.set_other (p := ⟨G13, 0, none⟩) (by show G13 ≠ w.heap.size + 1; omega) (.slice ya16_0 rc.n0 yp16_0)
          have K0_17s0 := K0_16.set_other (p := ⟨G13, 0, none⟩) (by show G13 ≠ w.heap.size; omega) (.slice ya16_0 rc.n0 yp16_0)
          have NB14_17s0 := NB14_16.set 0 (.slice ya16_0 rc.n0 yp16_0)
          have HM_17s0 := HM_16.setBox NB14_16 0 (.slice ya16_0 rc.n0 yp16_0)
          have LO_17s1 := LO_17s0.setCell (p := ⟨G13, 1, none⟩) hlt13 (.slice ya16_1 rc.n1 yp16_1)
          have K1_17s1 := K1_17s0.set_other (p := ⟨G13, 1, none⟩) (by show G13 ≠ w.heap.size + 1; omega) (.slice ya16_1 rc.n1 yp16_1)
          have K0_17s1 := K0_17s0.set_other (p := ⟨G13, 1, none⟩) (by show G13 ≠ w.heap.size; omega) (.slice ya16_1 rc.n1 yp16_1)
          have NB14_17s1 := NB14_17s0.set 1 (.slice ya16_1 rc.n1 yp16_1)
          have HM_17s1 := HM_17s0.setBox NB14_17s0 1 (.slice ya16_1 rc.n1 yp16_1)
          have LO_17s2 := LO_17s1.setCell (p := ⟨G13, 2, none⟩) hlt13 (.slice ya16_2 rc.n2 yp16_2)
          have K1_17s2 := K1_17s1.set_other (p := ⟨G13, 2, none⟩) (by show G13 ≠ w.heap.size + 1; omega) (.slice ya16_2 rc.n2 yp16_2)
          have K0_17s2 := K0_17s1.set_other (p := ⟨G13, 2, none⟩) (by show G13 ≠ w.heap.size; omega) (.slice ya16_2 rc.n2 yp16_2)
          have NB14_17s2 := NB14_17s1.set 2 (.slice ya16_2 rc.n2 yp16_2)
          have HM_17s2 := HM_17s1.setBox NB14_17s1 2 (.slice ya16_2 rc.n2 yp16_2)
          have LO_17 := LO_17s2
          have K1_17 := K1_17s2
          have K0_17 := K0_17s2
          have NB14_17 : BoxIs (((wq16.setCell ⟨G13, 0, none⟩ (.slice ya16_0 rc.n0 yp16_0)).setCell ⟨G13, 1, none⟩ (.slice ya16_1 rc.n1 yp16_1)).setCell ⟨G13, 2, none⟩ (.slice ya16_2 rc.n2 yp16_2)) G13 #[.slice ya16_0 rc.n0 yp16_0, .slice ya16_1 rc.n1 yp16_1, .slice ya16_2 rc.n2 yp16_2] 31 := NB14_17s2
          have HM_17 := HM_17s2
          refine hK.out _ _ ⟨K0_17, K1_17⟩ (fun hSz => ?_)
          clear hK K hSz HM_16 IV_16 K0_16 K1_16 LO_16 NB14_16 LO_17s0 LO_17s1 LO_17s2 K1_17s0 K1_17s1 K1_17s2 K0_17s0 K0_17s1 K0_17s2 NB14_17s0 NB14_17s1 NB14_17s2 HM_17s0 HM_17s1 HM_17s2
          generalize ((wq16.setCell ⟨G13, 0, none⟩ (.slice ya16_0 rc.n0 yp16_0)).setCell ⟨G13, 1, none⟩ (.slice ya16_1 rc.n1 yp16_1)).setCell ⟨G13, 2, none⟩ (.slice ya16_2 rc.n2 yp16_2) = wq17 at LO_17 K1_17 K0_17 NB14_17 HM_17 ⊢
          refine wpAnyH_take (i := 10) (v := .int .i64 rb) nat10 (by kernel_rfl) (by kernel_rfl) (by kernel_rfl) (fun _ _ _ h => False.elim h) (Or.inl ⟨by rfl, ?_⟩) ⟨K0_17, K1_17⟩ ?_
          · intro wx hSw
            go_simp
          simp only [Act.put, List.setIfInBounds_toArray, List.set_cons_zero, List.set_cons_succ]
          refine wpAnyH_done (by kernel_rfl) ?_ _
          refine NoPanic.normal ?_
          go_wp2_with fail
          go_meet
          exact ⟨G13, ya16_0, yp16_0, ya16_1, yp16_1, ya16_2, yp16_2, rfl, rfl, hlt13, hide LO_17, hide NB14_17, hide HM_17⟩
      case rest =>
      obtain ⟨Fh, ha0, hp0, ha1, hp1, ha2, hp2, rfl, rfl, hszh, HBc, HXh, HMh⟩ := hcut
      obtain ⟨Vh, rfl⟩ : ∃ V, V = wc := ⟨_, rfl⟩
      have HB := hide (HB.out.trans (HBc.out.mono HB.out.size))
      have HCw := hide (HCw.out.trans (HBc.out.mono HCw.out.size))
      have HCg := hide (HCg.out.trans (HBc.out.mono HCg.out.size))
      have hXhl := HXh.out.lt
      have hczh := HBc.out.size
      clear HBc
      have HCh : Hid (Below Vh.heap.size Vh Vh) := Below.refl _ _
      have ka0 := (HXh.out.next HCh.out).cell 0
      have kb0 := (HXw.out.next HCw.out).cell 0
      have ka1 := (HXh.out.next HCh.out).cell 1
      have kb1 := (HXw.out.next HCw.out).cell 1
      have ka2 := (HXh.out.next HCh.out).cell 2
      have kb2 := (HXw.out.next HCw.out).cell 2
      go_wp2_with fail
      clear ka0 ka1 ka2 kb0 kb1 kb2
      refine (laws_eqDisk _ _ rc Vh hrf (HMh.out.next HCh.out).is (HMw.out.next HCw.out).is).mono ?_
      rintro e w8 ⟨rfl, hb8⟩
      have HB := hide (HB.out.trans (hb8.mono HB.out.size))
      have HCw := hide (HCw.out.trans (hb8.mono HCw.out.size))
      have HCg := hide (HCg.out.trans (hb8.mono HCg.out.size))
      have HCh := hide (HCh.out.trans (hb8.mono HCh.out.size))
      have hsz8 := hb8.size
      clear hb8
      have ka0 := (HXg.out.next HCg.out).cell 0
      have ka1 := (HXg.out.next HCg.out).cell 1
      have ka2 := (HXg.out.next HCg.out).cell 2
      go_wp2_with fail
      clear ka0 ka1 ka2
      refine (laws_heldDisk 1 1 rfl ⟨by omega, by omega⟩ ga0 gp0 g0 ga1 gp1 g1 ga2 gp2 g2 rc w8 hrf hA0 hA1 hA2 (HOK.out.next HCg.out)).mono ?_
      rintro e w9 ⟨rfl, hb9⟩
      have HB := hide (HB.out.trans (hb9.mono HB.out.size))
      have HCw := hide (HCw.out.trans (hb9.mono HCw.out.size))
      have HCg := hide (HCg.out.trans (hb9.mono HCg.out.size))
      have HCh := hide (HCh.out.trans (hb9.mono HCh.out.size))
      have hsz9 := hb9.size
      clear hb9
      go_wp2
      go_ret
      exact ⟨rfl, HB0.out.trans (HB.out.mono HB0.out.size)⟩

end Go.Proofs.Ytejedpmkbkclhaa
