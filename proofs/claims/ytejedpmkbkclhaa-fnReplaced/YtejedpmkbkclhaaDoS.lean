/- l6Act and Do of the model. (By gen_dos.py.) -/
import Derived.Test.YtejedpmkbkclhaaMgDoPDoA
import Derived.Test.YtejedpmkbkclhaaDskO
import Derived.Test.YtejedpmkbkclhaaRowG
namespace Go.Proofs.Ytejedpmkbkclhaa
set_option maxRecDepth 100000
open Go.RowKit Go.Deep
set_option linter.unusedVariables false in
set_option linter.unusedSimpArgs false in
set_option maxHeartbeats 8000000 in
theorem spec_l6Act (v : Value) (c : DiskC) (k : Int) (m s d : ByteArray) (w : World) (hf : c.Fit) (hdd : dB c = true) (hm : m.size ≤ 2000000) (hs : s.size ≤ 1048576) (hd : d.size ≤ 1048576) (hv : DiskIs w v c) :
    Calls Try.prog 50 #[v, .agg #[.int .i64 k, .string m, .string s, .string d]] w fun e w' => (∃ u, e = .returned (.tuple #[u, .int .i64 (doK c ⟨k, m, s, d⟩)]) ∧ DiskMade w' w.heap.size u (doL c ⟨k, m, s, d⟩) (doS c ⟨k, m, s, d⟩) (doQ c ⟨k, m, s, d⟩)) ∧ Below w.heap.size w w' := by
  obtain ⟨a0, p0, a1, p1, a2, p2, rfl, hS0, hS1, hS2⟩ := hv
  have hB : Below w.heap.size w (((w.alloc (.cells #[.slice a0 c.n0 p0, .slice a1 c.n1 p1, .slice a2 c.n2 p2] 31)).alloc (.cells #[.int .i64 k, .string m, .string s, .string d] 40)).alloc (.cells #[.slice none 0 0, .slice none 0 0, .slice none 0 0] 31)) := (((Below.refl _ _).alloc (Nat.le_refl _) _).alloc (by simp) _).alloc (by simp <;> omega) _
  have hP := ((BoxIs.new w #[.slice a0 c.n0 p0, .slice a1 c.n1 p1, .slice a2 c.n2 p2] 31 rfl).next (below_one _ (.cells #[.int .i64 k, .string m, .string s, .string d] 40))).next (below_one _ (.cells #[.slice none 0 0, .slice none 0 0, .slice none 0 0] 31))
  have hO := (BoxIs.new (w.alloc (.cells #[.slice a0 c.n0 p0, .slice a1 c.n1 p1, .slice a2 c.n2 p2] 31)) #[.int .i64 k, .string m, .string s, .string d] 40 (g := w.heap.size + 1) (by simp)).next (below_one _ (.cells #[.slice none 0 0, .slice none 0 0, .slice none 0 0] 31))
  have hR := BoxIs.new ((w.alloc (.cells #[.slice a0 c.n0 p0, .slice a1 c.n1 p1, .slice a2 c.n2 p2] 31)).alloc (.cells #[.int .i64 k, .string m, .string s, .string d] 40)) #[.slice none 0 0, .slice none 0 0, .slice none 0 0] 31 (g := w.heap.size + 1 + 1) (by simp)
  have hD : DiskIs (((w.alloc (.cells #[.slice a0 c.n0 p0, .slice a1 c.n1 p1, .slice a2 c.n2 p2] 31)).alloc (.cells #[.int .i64 k, .string m, .string s, .string d] 40)).alloc (.cells #[.slice none 0 0, .slice none 0 0, .slice none 0 0] 31)) (.agg #[.slice a0 c.n0 p0, .slice a1 c.n1 p1, .slice a2 c.n2 p2]) c := DiskIs.at_old ⟨a0, p0, a1, p1, a2, p2, rfl, hS0, hS1, hS2⟩ hB
  have HS0 := ((hS0.below hB).mono hB.size).hid
  have g0 := hP.cell 0
  have g1 := hP.cell 1
  have g2 := hP.cell 2
  have o0 := hO.cell 0
  have o1 := hO.cell 1
  have o2 := hO.cell 2
  have o3 := hO.cell 3
  simp only [List.getElem?_toArray, List.getElem?_cons_succ, List.getElem?_cons_zero] at g0 g1 g2 o0 o1 o2 o3
  have HB := hide hB
  have HP := hP.hid
  have HO := hO.hid
  have HR := hR.hid
  have HD := hD.hid
  obtain ⟨⟨hn0, hn1, hn2⟩, hz0, hz1, hz2⟩ := id hf
  have HZ0 := hide hz0
  clear hS0 hS1 hS2 hB hP hO hR hD hz0 hz1 hz2
  go_enter Try.func50, Try.ntmps50
  go_wp2_with fail
  clear g0 g1 g2 o0 o1 o2 o3
  generalize ((w.alloc (.cells #[.slice a0 c.n0 p0, .slice a1 c.n1 p1, .slice a2 c.n2 p2] 31)).alloc (.cells #[.int .i64 k, .string m, .string s, .string d] 40)).alloc (.cells #[.slice none 0 0, .slice none 0 0, .slice none 0 0] 31) = W at HB HP HO HR HD HS0 ⊢
  have hFW := HR.out.lt
  obtain ⟨hl0, hl1, h200⟩ := dB_parts hdd
  obtain ⟨hri0, hnm0, h60, hsz0⟩ := filesB_ris hl0
  have HDD := hide hdd
  have HSZ := hide hsz0
  have HRI := hide hri0
  have HNM := hide (fun x (hx : x ∈ filesL c.r0 c.n0) => (by obtain ⟨i, hi, rfl⟩ := List.mem_map.1 hx; exact hnm0 i (List.mem_range.1 hi) : nameB x.n = true))
  clear hdd hl0 hl1 hri0 hnm0 hsz0
  refine (spec_l6Form k m s d W).mono ?_
  rintro e w1 ⟨rfl, hb1⟩
  have hW1 := hb1.size
  have HB1 := hide (HB.out.trans (hb1.mono HB.out.size))
  have HP1 := (HP.out.next hb1).hid
  have HO1 := (HO.out.next hb1).hid
  have HR1 := (HR.out.next hb1).hid
  have HD1 := (HD.out.next hb1).hid
  have HS01 := (HS0.out.next hb1).hid
  clear hb1 HB HP HO HR HD HS0
  cases hfo : formB ⟨k, m, s, d⟩ with
  | false =>
    obtain ⟨q1, q2, q3, q4⟩ := do_2 HDD.out hfo
    have HQ1 := hide q1
    have HQ2 := hide q2
    have HQ3 := hide q3
    have HQ4 := hide q4
    clear q1 q2 q3 q4
    have y0 := HP1.out.cell 0
    have y1 := HP1.out.cell 1
    have y2 := HP1.out.cell 2
    simp only [List.getElem?_toArray, List.getElem?_cons_succ, List.getElem?_cons_zero] at y0 y1 y2
    clear hfo HS01
    go_wp2_with fail
    clear y0 y1 y2
    refine (spec_l6Copy (.agg #[.slice a0 c.n0 p0, .slice a1 c.n1 p1, .slice a2 c.n2 p2]) c w1 hf HD1.out).mono ?_
    rintro e w8 ⟨⟨u8, rfl, ho8⟩, hb8⟩
    have hR8 := HR1.out.next hb8
    obtain ⟨x0, x1, x2, rfl, m0, m1, m2, m3⟩ := ho8
    obtain ⟨x0a, x0n, x0p, rfl⟩ := m0.shapeN
    obtain ⟨x1a, x1n, x1p, rfl⟩ := m1.shapeN
    obtain ⟨x2a, x2n, x2p, rfl⟩ := m2.shapeN
    have hMd : DiskMade w8 w1.heap.size (.agg #[.slice x0a x0n x0p, .slice x1a x1n x1p, .slice x2a x2n x2p]) (filesL c.r0 c.n0) (filesL c.r1 c.n1) (dOpsL c.r2 c.n2) := ⟨_, _, _, rfl, m0, m1, m2, m3⟩
    have HM := (hMd.put3 (F := w.heap.size + 1 + 1) (by omega) (.slice x0a x0n x0p) (.slice x1a x1n x1p) (.slice x2a x2n x2p)).hid
    have HL := hide (below_put3 (F := w.heap.size + 1 + 1) (HB1.out.trans (hb8.mono HB1.out.size)) (by omega) (.slice x0a x0n x0p) (.slice x1a x1n x1p) (.slice x2a x2n x2p))
    have hbase : w.heap.size ≤ w1.heap.size := by omega
    have r0 := hR8.cell 0
    have r1 := hR8.cell 1
    have r2 := hR8.cell 2
    have rf := hR8.free
    simp only [List.getElem?_toArray, List.getElem?_cons_succ, List.getElem?_cons_zero] at r0 r1 r2
    clear hMd m0 m1 m2 m3 hR8 hb8 HB1 HP1 HO1 HR1 HD1
    go_wp2
    refine bodyPost_ret (v := .tuple #[.agg #[.slice x0a x0n x0p, .slice x1a x1n x1p, .slice x2a x2n x2p], .int .i64 2]) (by simp [results, Try.results50, go_sem, r0, r1, r2]) rfl ⟨⟨_, ret_tupI rfl HQ1.out.symm, made_eq (HM.out.base hbase) HQ2.out HQ3.out HQ4.out⟩, HL.out⟩
  | true =>
    have HFO := hide hfo
    have y0 := HP1.out.cell 0
    have o0 := HO1.out.cell 0
    have o1 := HO1.out.cell 1
    have o2 := HO1.out.cell 2
    have o3 := HO1.out.cell 3
    simp only [List.getElem?_toArray, List.getElem?_cons_succ, List.getElem?_cons_zero] at y0 o0 o1 o2 o3
    clear hfo
    go_wp2_with fail
    clear y0 o0 o1 o2 o3
    refine (spec_l6Do a0 c.n0 p0 c.r0 k m s d w1 (by omega) HRI.out (fun i hi => by have := HZ0.out i hi; omega) (by omega) HS01.out).mono ?_
    rintro e w2 ⟨⟨vn, rfl, hon⟩, hb2⟩
    have hW2 := hb2.size
    have HON := hon.hid
    have HB2 := hide (HB1.out.trans (hb2.mono HB1.out.size))
    have HP2 := (HP1.out.next hb2).hid
    have HO2 := (HO1.out.next hb2).hid
    have HR2 := (HR1.out.next hb2).hid
    have HD2 := (HD1.out.next hb2).hid
    clear hb2 hon HB1 HP1 HO1 HR1 HD1 HS01
    cases hdo : doB (filesL c.r0 c.n0) ⟨k, m, s, d⟩ with
    | false =>
      obtain ⟨q1, q2, q3, q4⟩ := do_3 HDD.out HFO.out hdo
      have HQ1 := hide q1
      have HQ2 := hide q2
      have HQ3 := hide q3
      have HQ4 := hide q4
      clear q1 q2 q3 q4
      have y0 := HP2.out.cell 0
      have y1 := HP2.out.cell 1
      have y2 := HP2.out.cell 2
      simp only [List.getElem?_toArray, List.getElem?_cons_succ, List.getElem?_cons_zero] at y0 y1 y2
      clear hdo HON
      go_wp2_with fail
      clear y0 y1 y2
      refine (spec_l6Copy (.agg #[.slice a0 c.n0 p0, .slice a1 c.n1 p1, .slice a2 c.n2 p2]) c w2 hf HD2.out).mono ?_
      rintro e w8 ⟨⟨u8, rfl, ho8⟩, hb8⟩
      have hR8 := HR2.out.next hb8
      obtain ⟨x0, x1, x2, rfl, m0, m1, m2, m3⟩ := ho8
      obtain ⟨x0a, x0n, x0p, rfl⟩ := m0.shapeN
      obtain ⟨x1a, x1n, x1p, rfl⟩ := m1.shapeN
      obtain ⟨x2a, x2n, x2p, rfl⟩ := m2.shapeN
      have hMd : DiskMade w8 w2.heap.size (.agg #[.slice x0a x0n x0p, .slice x1a x1n x1p, .slice x2a x2n x2p]) (filesL c.r0 c.n0) (filesL c.r1 c.n1) (dOpsL c.r2 c.n2) := ⟨_, _, _, rfl, m0, m1, m2, m3⟩
      have HM := (hMd.put3 (F := w.heap.size + 1 + 1) (by omega) (.slice x0a x0n x0p) (.slice x1a x1n x1p) (.slice x2a x2n x2p)).hid
      have HL := hide (below_put3 (F := w.heap.size + 1 + 1) (HB2.out.trans (hb8.mono HB2.out.size)) (by omega) (.slice x0a x0n x0p) (.slice x1a x1n x1p) (.slice x2a x2n x2p))
      have hbase : w.heap.size ≤ w2.heap.size := by omega
      have r0 := hR8.cell 0
      have r1 := hR8.cell 1
      have r2 := hR8.cell 2
      have rf := hR8.free
      simp only [List.getElem?_toArray, List.getElem?_cons_succ, List.getElem?_cons_zero] at r0 r1 r2
      clear hMd m0 m1 m2 m3 hR8 hb8 HB2 HP2 HO2 HR2 HD2
      go_wp2
      refine bodyPost_ret (v := .tuple #[.agg #[.slice x0a x0n x0p, .slice x1a x1n x1p, .slice x2a x2n x2p], .int .i64 3]) (by simp [results, Try.results50, go_sem, r0, r1, r2]) rfl ⟨⟨_, ret_tupI rfl HQ1.out.symm, made_eq (HM.out.base hbase) HQ2.out HQ3.out HQ4.out⟩, HL.out⟩
    | true =>
      have HDO := hide hdo
      clear hdo
      by_cases h2 : c.n2 = 200
      · have h2i : ((c.n2 : Int) == 200) = true := by rw [beq_iff_eq]; omega
        have H2 := hide h2
        clear h2
        obtain ⟨q1, q2, q3, q4⟩ := do_4 HDD.out HFO.out HDO.out (.inl H2.out)
        have HQ1 := hide q1
        have HQ2 := hide q2
        have HQ3 := hide q3
        have HQ4 := hide q4
        clear q1 q2 q3 q4
        have y0 := HP2.out.cell 0
        have y1 := HP2.out.cell 1
        have y2 := HP2.out.cell 2
        simp only [List.getElem?_toArray, List.getElem?_cons_succ, List.getElem?_cons_zero] at y0 y1 y2
        clear HON
        go_wp2_with fail
        clear y0 y1 y2
        refine (spec_l6Copy (.agg #[.slice a0 c.n0 p0, .slice a1 c.n1 p1, .slice a2 c.n2 p2]) c w2 hf HD2.out).mono ?_
        rintro e w8 ⟨⟨u8, rfl, ho8⟩, hb8⟩
        have hR8 := HR2.out.next hb8
        obtain ⟨x0, x1, x2, rfl, m0, m1, m2, m3⟩ := ho8
        obtain ⟨x0a, x0n, x0p, rfl⟩ := m0.shapeN
        obtain ⟨x1a, x1n, x1p, rfl⟩ := m1.shapeN
        obtain ⟨x2a, x2n, x2p, rfl⟩ := m2.shapeN
        have hMd : DiskMade w8 w2.heap.size (.agg #[.slice x0a x0n x0p, .slice x1a x1n x1p, .slice x2a x2n x2p]) (filesL c.r0 c.n0) (filesL c.r1 c.n1) (dOpsL c.r2 c.n2) := ⟨_, _, _, rfl, m0, m1, m2, m3⟩
        have HM := (hMd.put3 (F := w.heap.size + 1 + 1) (by omega) (.slice x0a x0n x0p) (.slice x1a x1n x1p) (.slice x2a x2n x2p)).hid
        have HL := hide (below_put3 (F := w.heap.size + 1 + 1) (HB2.out.trans (hb8.mono HB2.out.size)) (by omega) (.slice x0a x0n x0p) (.slice x1a x1n x1p) (.slice x2a x2n x2p))
        have hbase : w.heap.size ≤ w2.heap.size := by omega
        have r0 := hR8.cell 0
        have r1 := hR8.cell 1
        have r2 := hR8.cell 2
        have rf := hR8.free
        simp only [List.getElem?_toArray, List.getElem?_cons_succ, List.getElem?_cons_zero] at r0 r1 r2
        clear hMd m0 m1 m2 m3 hR8 hb8 HB2 HP2 HO2 HR2 HD2
        go_wp2
        refine bodyPost_ret (v := .tuple #[.agg #[.slice x0a x0n x0p, .slice x1a x1n x1p, .slice x2a x2n x2p], .int .i64 4]) (by simp [results, Try.results50, go_sem, r0, r1, r2]) rfl ⟨⟨_, ret_tupI rfl HQ1.out.symm, made_eq (HM.out.base hbase) HQ2.out HQ3.out HQ4.out⟩, HL.out⟩
      · have h2i : ¬ (c.n2 : Int) = 200 := by omega
        obtain ⟨LN, hLN⟩ : ∃ LN, doF (filesL c.r0 c.n0) ⟨k, m, s, d⟩ = LN := ⟨_, rfl⟩
        have HLN := hide hLN
        have hnl := do_len (filesL c.r0 c.n0) ⟨k, m, s, d⟩
        have hns := sizeF_do HRI.out ⟨k, m, s, d⟩
        have hnr : RisF LN := by rw [← hLN]; exact risF_do HRI.out _
        have hnn : ∀ x, x ∈ LN → nameB x.n = true := by rw [← hLN]; exact names_do HFO.out HNM.out
        rw [hLN] at HON hnl hns
        rw [filesL_len] at hnl
        obtain ⟨na, np, rfl, hnA⟩ := HON.out.arg
        obtain ⟨ln, hln⟩ : ∃ ln, LN.length = ln := ⟨_, rfl⟩
        have HFB : Hid (filesB (fnFile LN) ln = fitsB LN) := by show _ = _; rw [← hln]; exact filesB_list hnr hnn
        have hns2 : sizeF LN ≤ 200000 + 1048576 := by have := HSZ.out; have e : ((⟨k, m, s, d⟩ : DOp1)).d.size = d.size := rfl; omega
        have HZN := hide (fun i (hi : i < ln) => (by have h := sizeF_at (O := fnFile LN) (n := ln) hi; rw [← hln, fnFile_list] at h; omega : ((fnFile LN).D i).size ≤ 90000000))
        have hlb : ln ≤ 61 := by omega
        rw [hln] at hnA HON ⊢
        have HNA := hnA.hid
        have y2 := HP2.out.cell 2
        simp only [List.getElem?_toArray, List.getElem?_cons_succ, List.getElem?_cons_zero] at y2
        clear hLN hnl hns hnr hnn hns2 hnA hln
        go_wp2_with fail
        clear y2
        refine (spec_l6Files na ln np (fnFile LN) w2 HZN.out (by omega) HNA.out).mono ?_
        rintro e w3 ⟨rfl, hb3⟩
        rw [HFB.out]
        have hW3 := hb3.size
        have HON3 := (HON.out.next hb3).hid
        have HB3 := hide (HB2.out.trans (hb3.mono HB2.out.size))
        have HP3 := (HP2.out.next hb3).hid
        have HO3 := (HO2.out.next hb3).hid
        have HR3 := (HR2.out.next hb3).hid
        have HD3 := (HD2.out.next hb3).hid
        clear hb3 HON HB2 HP2 HO2 HR2 HD2 HNA
        cases hfi : fitsB LN with
        | false =>
          obtain ⟨q1, q2, q3, q4⟩ := do_4 HDD.out HFO.out HDO.out (.inr (by rw [HLN.out]; exact hfi))
          have HQ1 := hide q1
          have HQ2 := hide q2
          have HQ3 := hide q3
          have HQ4 := hide q4
          clear q1 q2 q3 q4
          have y0 := HP3.out.cell 0
          have y1 := HP3.out.cell 1
          have y2 := HP3.out.cell 2
          simp only [List.getElem?_toArray, List.getElem?_cons_succ, List.getElem?_cons_zero] at y0 y1 y2
          clear hfi HON3
          go_wp2_with fail
          clear y0 y1 y2
          refine (spec_l6Copy (.agg #[.slice a0 c.n0 p0, .slice a1 c.n1 p1, .slice a2 c.n2 p2]) c w3 hf HD3.out).mono ?_
          rintro e w8 ⟨⟨u8, rfl, ho8⟩, hb8⟩
          have hR8 := HR3.out.next hb8
          obtain ⟨x0, x1, x2, rfl, m0, m1, m2, m3⟩ := ho8
          obtain ⟨x0a, x0n, x0p, rfl⟩ := m0.shapeN
          obtain ⟨x1a, x1n, x1p, rfl⟩ := m1.shapeN
          obtain ⟨x2a, x2n, x2p, rfl⟩ := m2.shapeN
          have hMd : DiskMade w8 w3.heap.size (.agg #[.slice x0a x0n x0p, .slice x1a x1n x1p, .slice x2a x2n x2p]) (filesL c.r0 c.n0) (filesL c.r1 c.n1) (dOpsL c.r2 c.n2) := ⟨_, _, _, rfl, m0, m1, m2, m3⟩
          have HM := (hMd.put3 (F := w.heap.size + 1 + 1) (by omega) (.slice x0a x0n x0p) (.slice x1a x1n x1p) (.slice x2a x2n x2p)).hid
          have HL := hide (below_put3 (F := w.heap.size + 1 + 1) (HB3.out.trans (hb8.mono HB3.out.size)) (by omega) (.slice x0a x0n x0p) (.slice x1a x1n x1p) (.slice x2a x2n x2p))
          have hbase : w.heap.size ≤ w3.heap.size := by omega
          have r0 := hR8.cell 0
          have r1 := hR8.cell 1
          have r2 := hR8.cell 2
          have rf := hR8.free
          simp only [List.getElem?_toArray, List.getElem?_cons_succ, List.getElem?_cons_zero] at r0 r1 r2
          clear hMd m0 m1 m2 m3 hR8 hb8 HB3 HP3 HO3 HR3 HD3
          go_wp2
          refine bodyPost_ret (v := .tuple #[.agg #[.slice x0a x0n x0p, .slice x1a x1n x1p, .slice x2a x2n x2p], .int .i64 4]) (by simp [results, Try.results50, go_sem, r0, r1, r2]) rfl ⟨⟨_, ret_tupI rfl HQ1.out.symm, made_eq (HM.out.base hbase) HQ2.out HQ3.out HQ4.out⟩, HL.out⟩
        | true =>
          obtain ⟨q1, q2, q3, q4⟩ := do_0 HDD.out HFO.out HDO.out h2 (by rw [HLN.out]; exact hfi)
          have HQ1 := hide q1
          have HQ2 := hide q2
          have HQ3 := hide q3
          have HQ4 := hide q4
          clear q1 q2 q3 q4
          rw [HLN.out] at HQ2
          have y0 := HP3.out.cell 0
          have y1 := HP3.out.cell 1
          have y2 := HP3.out.cell 2
          simp only [List.getElem?_toArray, List.getElem?_cons_succ, List.getElem?_cons_zero] at y0 y1 y2
          clear hfi
          go_wp2_with fail
          clear y0 y1 y2
          refine (spec_l6Copy (.agg #[.slice a0 c.n0 p0, .slice a1 c.n1 p1, .slice a2 c.n2 p2]) c w3 hf HD3.out).mono ?_
          rintro e w4 ⟨⟨u4, rfl, ho4⟩, hb4⟩
          obtain ⟨x0, x1, x2, rfl, m0, m1, m2, m3⟩ := ho4
          obtain ⟨x0a, x0n, x0p, rfl⟩ := m0.shapeN
          obtain ⟨x1a, x1n, x1p, rfl⟩ := m1.shapeN
          obtain ⟨x2a, x2n, x2p, rfl⟩ := m2.shapeN
          have HAP := hide (apart_later HON3.out m1)
          have HON4 := (HON3.out.next hb4).hid
          have HB4 := hide (HB3.out.trans (hb4.mono HB3.out.size))
          have HO4 := (HO3.out.next hb4).hid
          have HR4 := (HR3.out.next hb4).hid
          have hW4 := hb4.size
          have hbX := below_one w4 (.cells #[.slice x0a x0n x0p, .slice x1a x1n x1p, .slice x2a x2n x2p] 31)
          have hX := BoxIs.new w4 #[.slice x0a x0n x0p, .slice x1a x1n x1p, .slice x2a x2n x2p] 31 rfl
          have M1 := (m1.next hbX).hid
          have M2 := (m2.next hbX).hid
          have HON5 := (HON4.out.next hbX).hid
          have HB5 := hide (HB4.out.trans (hbX.mono HB4.out.size))
          have HO5 := (HO4.out.next hbX).hid
          have HR5 := (HR4.out.next hbX).hid
          have HX := hX.hid
          have hWX := hbX.size
          clear m0 m1 m2 m3 hb4 hbX hX HON3 HON4 HB3 HB4 HO3 HO4 HR3 HR4 HP3 HD3
          go_upto_region 9 with fail
          generalize w4.alloc (.cells #[.slice x0a x0n x0p, .slice x1a x1n x1p, .slice x2a x2n x2p] 31) = w5 at M1 M2 HON5 HB5 HO5 HR5 HX hWX ⊢
          obtain ⟨X, hXe⟩ : ∃ X, w4.heap.size = X := ⟨_, rfl⟩
          have hXl : w.heap.size + 1 + 1 < X := by omega
          have hX3 : w3.heap.size ≤ X := by omega
          rw [hXe] at HX hWX ⊢
          clear hXe
          have z0 := HX.out.cell 0
          have zf := HX.out.free
          simp only [List.getElem?_toArray, List.getElem?_cons_succ, List.getElem?_cons_zero] at z0
          have HX6 := (HX.out.set 0 (.slice na ln np)).hid
          have M16 := (M1.out.setBox (o := 0) HX.out (by decide) (.slice na ln np)).hid
          have M26 := (M2.out.setBox (o := 0) HX.out (by decide) (.slice na ln np)).hid
          have HON6 := (HON5.out.setBox (o := 0) HX.out (by decide) (.slice na ln np)).hid
          have HB6 := hide (HB5.out.setCell (p := ⟨X, 0, none⟩) (by show w.heap.size ≤ X; omega) (.slice na ln np))
          have HO6 := (HO5.out.set_other (p := ⟨X, 0, none⟩) (by show X ≠ w.heap.size + 1; omega) (.slice na ln np)).hid
          have HR6 := (HR5.out.set_other (p := ⟨X, 0, none⟩) (by show X ≠ w.heap.size + 1 + 1; omega) (.slice na ln np)).hid
          have hW6 : X + 1 ≤ (w5.setCell ⟨X, 0, none⟩ (.slice na ln np)).heap.size := by simp; exact HX.out.lt
          clear M1 M2 HON5 HB5 HO5 HR5 HX
          go_upto_region 10 with fail
          clear z0 zf
          generalize w5.setCell ⟨X, 0, none⟩ (.slice na ln np) = w6 at HX6 M16 M26 HON6 HB6 HO6 HR6 hW6 ⊢
          have hbN := below_one w6 (.cells #[.int .i64 k, .string m, .string s, .string d] 40)
          have hN := BoxIs.new w6 #[.int .i64 k, .string m, .string s, .string d] 40 rfl
          have HX7 := (HX6.out.next hbN).hid
          have M17 := (M16.out.next hbN).hid
          have M27 := (M26.out.next hbN).hid
          have HON7 := (HON6.out.next hbN).hid
          have HB7 := hide (HB6.out.trans (hbN.mono HB6.out.size))
          have HR7 := (HR6.out.next hbN).hid
          have HN := hN.hid
          have hW7 := hbN.size
          have z2 := HX6.out.cell 2
          have q0 := HO6.out.cell 0
          have q1 := HO6.out.cell 1
          have q2 := HO6.out.cell 2
          have q3 := HO6.out.cell 3
          simp only [List.getElem?_toArray, List.getElem?_cons_succ, List.getElem?_cons_zero] at z2 q0 q1 q2 q3
          clear hbN hN HX6 M16 M26 HON6 HB6 HO6 HR6
          go_wp2_with (first
            | (at_builtin; refine wpList_append_row rfl _ _ 29 rfl 40 Try.underlying29 4 56 dOp_info rfl (by decide) (by decide) w3.heap.size _ (dOpsL c.r2 c.n2).length (cellsDOp (dOpsL c.r2 c.n2)) (by rfl) M27.out ⟨w6.heap.size, 0, none⟩ 1 1 (cellsDOp [⟨k, m, s, d⟩]) (by rfl) rfl (cellsDOp_one _) (rg_news (us := cellsDOp [⟨k, m, s, d⟩]) HN.out) (by omega) (by rw [dOpsL_len]; omega) ?_))
          intro v9 w9 h1 h2
          have ho9 : OwnDOp w9 w3.heap.size v9 (dOpsL c.r2 c.n2 ++ [⟨k, m, s, d⟩]) := by show World.ownsRow _ _ _ _ _ _ _; rw [cellsDOp_append, List.length_append]; exact h1
          have hX9 := M27.out.grownBox HX7.out (by decide) h2
          have hR9 := M27.out.grownBox HR7.out (by decide) h2
          have hM1 := dop_grow M27.out M17.out h2
          have hON := dop_grow M27.out HON7.out h2
          have hB9 := HB7.out.trans ((M27.out.grownBelow (by omega) h2).mono (by omega : w.heap.size ≤ w3.heap.size))
          obtain ⟨ya, yn, yp, rfl⟩ := ho9.shapeN
          have hMd : DiskMade (w9.setCell ⟨X, 2, none⟩ (.slice ya yn yp)) w1.heap.size (.agg #[.slice na ln np, .slice x1a x1n x1p, .slice ya yn yp]) LN (filesL c.r1 c.n1) (dOpsL c.r2 c.n2 ++ [⟨k, m, s, d⟩]) :=
            ⟨_, _, _, rfl, hON.setBox (o := 2) hX9 (by decide) _, (hM1.setBox (o := 2) hX9 (by decide) _).base (by omega), (ho9.setBox (o := 2) hX9 (by decide) _).base (by omega), .inr HAP.out⟩
          have HM := (hMd.put3 (F := w.heap.size + 1 + 1) (by omega) (.slice na ln np) (.slice x1a x1n x1p) (.slice ya yn yp)).hid
          have HL := hide (below_put3 (F := w.heap.size + 1 + 1) (hB9.setCell (p := ⟨X, 2, none⟩) (by show w.heap.size ≤ X; omega) (.slice ya yn yp)) (by omega) (.slice na ln np) (.slice x1a x1n x1p) (.slice ya yn yp))
          have hX9' := hX9
          have z0 := hX9'.cell 0
          have z1 := hX9'.cell 1
          have z2 := hX9'.cell 2
          have zf := hX9'.free
          have r0 := hR9.cell 0
          have r1 := hR9.cell 1
          have r2 := hR9.cell 2
          have rf := hR9.free
          simp only [List.setIfInBounds_toArray, List.set_cons_zero, List.set_cons_succ, List.getElem?_toArray, List.getElem?_cons_succ, List.getElem?_cons_zero] at z0 z1 z2 r0 r1 r2
          have hne : w.heap.size + 1 + 1 ≠ X := by omega
          have hne2 : X ≠ w.heap.size + 1 + 1 := by omega
          have hbase : w.heap.size ≤ w1.heap.size := by omega
          clear h1 h2 ho9 hX9 hX9' hR9 hM1 hON hB9 hMd HX7 M17 M27 HON7 HB7 HR7 HN q0 q1 q2 q3
          go_wp2
          refine bodyPost_ret (v := .tuple #[.agg #[.slice na ln np, .slice x1a x1n x1p, .slice ya yn yp], .int .i64 0]) (by simp [results, Try.results50, go_sem, r0, r1, r2, hne, hne2]) rfl ⟨⟨_, ret_tupI rfl HQ1.out.symm, made_eq (HM.out.base hbase) HQ2.out HQ3.out HQ4.out⟩, HL.out⟩
set_option linter.unusedVariables false in
set_option linter.unusedSimpArgs false in
set_option maxHeartbeats 8000000 in
theorem spec_Do (v : Value) (c : DiskC) (k : Int) (m s d : ByteArray) (w : World) (hf : c.Fit) (hm : m.size ≤ 2000000) (hs : s.size ≤ 1048576) (hd : d.size ≤ 1048576) (hv : DiskIs w v c) :
    Calls Try.prog 18 #[v, .agg #[.int .i64 k, .string m, .string s, .string d]] w fun e w' => (∃ u, e = .returned (.tuple #[u, .int .i64 (doK c ⟨k, m, s, d⟩)]) ∧ DiskMade w' w.heap.size u (doL c ⟨k, m, s, d⟩) (doS c ⟨k, m, s, d⟩) (doQ c ⟨k, m, s, d⟩)) ∧ Below w.heap.size w w' := by
  obtain ⟨a0, p0, a1, p1, a2, p2, rfl, hS0, hS1, hS2⟩ := hv
  have hB : Below w.heap.size w (((w.alloc (.cells #[.slice a0 c.n0 p0, .slice a1 c.n1 p1, .slice a2 c.n2 p2] 31)).alloc (.cells #[.int .i64 k, .string m, .string s, .string d] 40)).alloc (.cells #[.slice none 0 0, .slice none 0 0, .slice none 0 0] 31)) := (((Below.refl _ _).alloc (Nat.le_refl _) _).alloc (by simp) _).alloc (by simp <;> omega) _
  have hP := ((BoxIs.new w #[.slice a0 c.n0 p0, .slice a1 c.n1 p1, .slice a2 c.n2 p2] 31 rfl).next (below_one _ (.cells #[.int .i64 k, .string m, .string s, .string d] 40))).next (below_one _ (.cells #[.slice none 0 0, .slice none 0 0, .slice none 0 0] 31))
  have hO := (BoxIs.new (w.alloc (.cells #[.slice a0 c.n0 p0, .slice a1 c.n1 p1, .slice a2 c.n2 p2] 31)) #[.int .i64 k, .string m, .string s, .string d] 40 (g := w.heap.size + 1) (by simp)).next (below_one _ (.cells #[.slice none 0 0, .slice none 0 0, .slice none 0 0] 31))
  have hR := BoxIs.new ((w.alloc (.cells #[.slice a0 c.n0 p0, .slice a1 c.n1 p1, .slice a2 c.n2 p2] 31)).alloc (.cells #[.int .i64 k, .string m, .string s, .string d] 40)) #[.slice none 0 0, .slice none 0 0, .slice none 0 0] 31 (g := w.heap.size + 1 + 1) (by simp)
  have hD : DiskIs (((w.alloc (.cells #[.slice a0 c.n0 p0, .slice a1 c.n1 p1, .slice a2 c.n2 p2] 31)).alloc (.cells #[.int .i64 k, .string m, .string s, .string d] 40)).alloc (.cells #[.slice none 0 0, .slice none 0 0, .slice none 0 0] 31)) (.agg #[.slice a0 c.n0 p0, .slice a1 c.n1 p1, .slice a2 c.n2 p2]) c := DiskIs.at_old ⟨a0, p0, a1, p1, a2, p2, rfl, hS0, hS1, hS2⟩ hB
  have HS0 := ((hS0.below hB).mono hB.size).hid
  have g0 := hP.cell 0
  have g1 := hP.cell 1
  have g2 := hP.cell 2
  have o0 := hO.cell 0
  have o1 := hO.cell 1
  have o2 := hO.cell 2
  have o3 := hO.cell 3
  simp only [List.getElem?_toArray, List.getElem?_cons_succ, List.getElem?_cons_zero] at g0 g1 g2 o0 o1 o2 o3
  have HB := hide hB
  have HP := hP.hid
  have HO := hO.hid
  have HR := hR.hid
  have HD := hD.hid
  obtain ⟨⟨hn0, hn1, hn2⟩, hz0, hz1, hz2⟩ := id hf
  have HZ0 := hide hz0
  clear hS0 hS1 hS2 hB hP hO hR hD hz0 hz1 hz2
  go_enter Try.func18, Try.ntmps18
  go_wp2_with fail
  clear g0 g1 g2 o0 o1 o2 o3
  generalize ((w.alloc (.cells #[.slice a0 c.n0 p0, .slice a1 c.n1 p1, .slice a2 c.n2 p2] 31)).alloc (.cells #[.int .i64 k, .string m, .string s, .string d] 40)).alloc (.cells #[.slice none 0 0, .slice none 0 0, .slice none 0 0] 31) = W at HB HP HO HR HD HS0 ⊢
  have hFW := HR.out.lt
  refine (spec_DiskOk _ c W hf HD.out).mono ?_
  rintro e w1 ⟨rfl, hb1⟩
  have hW1 := hb1.size
  have HB1 := hide (HB.out.trans (hb1.mono HB.out.size))
  have HP1 := (HP.out.next hb1).hid
  have HO1 := (HO.out.next hb1).hid
  have HR1 := (HR.out.next hb1).hid
  have HD1 := (HD.out.next hb1).hid
  clear hb1 HB HP HO HR HD HS0
  cases hd0 : dB c with
  | false =>
    obtain ⟨q1, q2, q3, q4⟩ := do_1 hd0 ⟨k, m, s, d⟩
    have HQ1 := hide q1
    have HQ2 := hide q2
    have HQ3 := hide q3
    have HQ4 := hide q4
    clear q1 q2 q3 q4
    have HL := hide (below_put3 (F := w.heap.size + 1 + 1) HB1.out (by omega) (.slice none 0 0) (.slice none 0 0) (.slice none 0 0))
    have r0 := HR1.out.cell 0
    have r1 := HR1.out.cell 1
    have r2 := HR1.out.cell 2
    have rf := HR1.out.free
    simp only [List.getElem?_toArray, List.getElem?_cons_succ, List.getElem?_cons_zero] at r0 r1 r2
    clear hd0 HB1 HR1 HP1 HO1 HD1
    go_wp2
    refine bodyPost_ret (v := .tuple #[.agg #[.slice none 0 0, .slice none 0 0, .slice none 0 0], .int .i64 1]) (by simp [results, Try.results18, go_sem, r0, r1, r2]) rfl ⟨⟨_, ret_tupI rfl HQ1.out.symm, made_eq (made_nil _ _) HQ2.out HQ3.out HQ4.out⟩, HL.out⟩
  | true =>
    have HDD := hide hd0
    have y0 := HP1.out.cell 0
    have y1 := HP1.out.cell 1
    have y2 := HP1.out.cell 2
    have o0 := HO1.out.cell 0
    have o1 := HO1.out.cell 1
    have o2 := HO1.out.cell 2
    have o3 := HO1.out.cell 3
    simp only [List.getElem?_toArray, List.getElem?_cons_succ, List.getElem?_cons_zero] at y0 y1 y2 o0 o1 o2 o3
    clear hd0
    go_wp2_with fail
    clear y0 y1 y2 o0 o1 o2 o3
    refine (spec_l6Act (.agg #[.slice a0 c.n0 p0, .slice a1 c.n1 p1, .slice a2 c.n2 p2]) c k m s d w1 hf HDD.out hm hs hd HD1.out).mono ?_
    rintro e w8 ⟨⟨u8, rfl, ho8⟩, hb8⟩
    have hR8 := HR1.out.next hb8
    obtain ⟨x0, x1, x2, rfl, m0, m1, m2, m3⟩ := ho8
    obtain ⟨x0a, x0n, x0p, rfl⟩ := m0.shapeN
    obtain ⟨x1a, x1n, x1p, rfl⟩ := m1.shapeN
    obtain ⟨x2a, x2n, x2p, rfl⟩ := m2.shapeN
    obtain ⟨dk, hdk⟩ : ∃ dk, doK c ⟨k, m, s, d⟩ = dk := ⟨_, rfl⟩
    have HQ1 := hide hdk
    rw [hdk]
    have hMd : DiskMade w8 w1.heap.size (.agg #[.slice x0a x0n x0p, .slice x1a x1n x1p, .slice x2a x2n x2p]) (doL c ⟨k, m, s, d⟩) (doS c ⟨k, m, s, d⟩) (doQ c ⟨k, m, s, d⟩) := ⟨_, _, _, rfl, m0, m1, m2, m3⟩
    have HM := (hMd.put3 (F := w.heap.size + 1 + 1) (by omega) (.slice x0a x0n x0p) (.slice x1a x1n x1p) (.slice x2a x2n x2p)).hid
    have HL := hide (below_put3 (F := w.heap.size + 1 + 1) (HB1.out.trans (hb8.mono HB1.out.size)) (by omega) (.slice x0a x0n x0p) (.slice x1a x1n x1p) (.slice x2a x2n x2p))
    have hbase : w.heap.size ≤ w1.heap.size := by omega
    have r0 := hR8.cell 0
    have r1 := hR8.cell 1
    have r2 := hR8.cell 2
    have rf := hR8.free
    simp only [List.getElem?_toArray, List.getElem?_cons_succ, List.getElem?_cons_zero] at r0 r1 r2
    clear hdk hMd m0 m1 m2 m3 hR8 hb8 HB1 HP1 HO1 HR1 HD1
    go_wp2
    refine bodyPost_ret (v := .tuple #[.agg #[.slice x0a x0n x0p, .slice x1a x1n x1p, .slice x2a x2n x2p], .int .i64 dk]) (by simp [results, Try.results18, go_sem, r0, r1, r2]) rfl ⟨⟨_, ret_tupI rfl HQ1.out.symm, HM.out.base hbase⟩, HL.out⟩
end Go.Proofs.Ytejedpmkbkclhaa
