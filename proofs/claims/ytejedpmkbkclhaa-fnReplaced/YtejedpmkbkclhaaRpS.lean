/- Replace of the model. (By gen_rps.py.) -/
import Derived.Test.YtejedpmkbkclhaaMgSyODoORpPRpQDskRow
namespace Go.Proofs.Ytejedpmkbkclhaa
set_option maxRecDepth 100000
open Go.RowKit Go.Deep

set_option linter.unusedVariables false in
set_option linter.unusedSimpArgs false in
set_option maxHeartbeats 8000000 in
theorem spec_Replace (v : Value) (c : DiskC) (m d : ByteArray) (w : World) (hf : c.Fit) (hm : m.size ≤ 1048576) (hd : d.size ≤ 1048576) (hv : DiskIs w v c) :
    Calls Try.prog 32 #[v, .string m, .string d] w fun e w' => (∃ u, e = .returned (.tuple #[u, .int .i64 (rpK c m d)]) ∧ DiskOwn w' w.heap.size u (rpC c m d)) ∧ Below w.heap.size w w' := by
  obtain ⟨a0, p0, a1, p1, a2, p2, rfl, hS0, hS1, hS2⟩ := hv
  have hB : Below w.heap.size w ((w.alloc (.cells #[.slice a0 c.n0 p0, .slice a1 c.n1 p1, .slice a2 c.n2 p2] 31)).alloc (.cells #[.slice none 0 0, .slice none 0 0, .slice none 0 0] 31)) := ((Below.refl _ _).alloc (Nat.le_refl _) _).alloc (by simp) _
  have hP := (BoxIs.new w #[.slice a0 c.n0 p0, .slice a1 c.n1 p1, .slice a2 c.n2 p2] 31 rfl).next (below_one _ (.cells #[.slice none 0 0, .slice none 0 0, .slice none 0 0] 31))
  have hR := BoxIs.new (w.alloc (.cells #[.slice a0 c.n0 p0, .slice a1 c.n1 p1, .slice a2 c.n2 p2] 31)) #[.slice none 0 0, .slice none 0 0, .slice none 0 0] 31 (g := w.heap.size + 1) (by simp)
  have hD : DiskIs ((w.alloc (.cells #[.slice a0 c.n0 p0, .slice a1 c.n1 p1, .slice a2 c.n2 p2] 31)).alloc (.cells #[.slice none 0 0, .slice none 0 0, .slice none 0 0] 31)) (.agg #[.slice a0 c.n0 p0, .slice a1 c.n1 p1, .slice a2 c.n2 p2]) c := DiskIs.at_old ⟨a0, p0, a1, p1, a2, p2, rfl, hS0, hS1, hS2⟩ hB
  have HS0 := ((hS0.below hB).mono hB.size).hid
  have g0 := hP.cell 0
  have g1 := hP.cell 1
  have g2 := hP.cell 2
  simp only [List.getElem?_toArray, List.getElem?_cons_succ, List.getElem?_cons_zero] at g0 g1 g2
  have HB := hide hB
  have HP := hP.hid
  have HR := hR.hid
  have HD := hD.hid
  obtain ⟨⟨hn0, hn1, hn2⟩, hz0, hz1, hz2⟩ := id hf
  have HFT := hide hf
  clear hS0 hS1 hS2 hB hP hR hD hz0 hz1 hz2 hf
  go_enter Try.func32, Try.ntmps32
  go_wp2_with fail
  clear g0 g1 g2
  generalize (w.alloc (.cells #[.slice a0 c.n0 p0, .slice a1 c.n1 p1, .slice a2 c.n2 p2] 31)).alloc (.cells #[.slice none 0 0, .slice none 0 0, .slice none 0 0] 31) = W at HB HP HR HD HS0 ⊢
  have hFW := HR.out.lt
  refine (spec_DiskOk _ c W HFT.out HD.out).mono ?_
  rintro e w1 ⟨rfl, hb1⟩
  have HB1 := hide (HB.out.trans (hb1.mono HB.out.size))
  have HP1 := (HP.out.next hb1).hid
  have HR1 := (HR.out.next hb1).hid
  have HD1 := (HD.out.next hb1).hid
  have HS1 := (HS0.out.next hb1).hid
  have hW1 := hb1.size
  clear hb1 HB HP HR HD HS0
  cases hd0 : dB c with
  | false =>
    obtain ⟨q1, q2⟩ := rp_no hd0 m d
    have HQ1 := hide q1
    have HQ2 := hide q2
    have HL := hide (below_put3 (F := w.heap.size + 1) HB1.out (by omega) (.slice none 0 0) (.slice none 0 0) (.slice none 0 0))
    have r0 := HR1.out.cell 0
    have r1 := HR1.out.cell 1
    have r2 := HR1.out.cell 2
    have rf := HR1.out.free
    simp only [List.getElem?_toArray, List.getElem?_cons_succ, List.getElem?_cons_zero] at r0 r1 r2
    clear hd0 q1 q2 HB1 HR1 HP1 HD1 HS1
    go_wp2
    refine bodyPost_ret (v := .tuple #[.agg #[.slice none 0 0, .slice none 0 0, .slice none 0 0], .int .i64 1]) (by simp [results, Try.results32, go_sem, r0, r1, r2]) rfl ⟨⟨_, ret_tupI rfl HQ1.out.symm, own_eq (made_nil _ _).own HQ2.out⟩, HL.out⟩
  | true =>
    have HDD := hide hd0
    obtain ⟨F, hFn⟩ : ∃ F, m ++ (⟨#[46, 110, 101, 119]⟩ : ByteArray) = F := ⟨_, rfl⟩
    have hFs : F.size ≤ 1048580 := by rw [← hFn, ByteArray.size_append]; have : (⟨#[46, 110, 101, 119]⟩ : ByteArray).size = 4 := rfl; omega
    have hbN := below_one w1 (.cells #[.slice a0 c.n0 p0, .slice a1 c.n1 p1, .slice a2 c.n2 p2] 31)
    have hWN : w.heap.size + 1 < w1.heap.size := HR1.out.lt
    have HBN := hide (HB1.out.trans (hbN.mono HB1.out.size))
    have HPN := (HP1.out.next hbN).hid
    have HRN := (HR1.out.next hbN).hid
    have HNB := (BoxIs.new w1 #[.slice a0 c.n0 p0, .slice a1 c.n1 p1, .slice a2 c.n2 p2] 31 rfl).hid
    have HSN := (HS1.out.next hbN).hid
    have HDC := hide (fun (wr : World) (h : Below w1.heap.size (w1.alloc (.cells #[.slice a0 c.n0 p0, .slice a1 c.n1 p1, .slice a2 c.n2 p2] 31)) wr) => (HD1.out.next (hbN.trans h) : DiskIs wr (.agg #[.slice a0 c.n0 p0, .slice a1 c.n1 p1, .slice a2 c.n2 p2]) c))
    have s0 := HP1.out.cell 0
    have s1 := HP1.out.cell 1
    have s2 := HP1.out.cell 2
    have u0 := HPN.out.cell 0
    simp only [List.getElem?_toArray, List.getElem?_cons_succ, List.getElem?_cons_zero] at s0 s1 s2 u0
    clear hd0 hbN HB1 HP1 HR1 HD1 HS1
    go_wp2_with fail
    clear s0 s1 s2 u0
    generalize w1.alloc (.cells #[.slice a0 c.n0 p0, .slice a1 c.n1 p1, .slice a2 c.n2 p2] 31) = WN at HBN HPN HRN HNB HSN HDC ⊢
    generalize hN : w1.heap.size = N at *
    clear hN
    refine (spec_l6At a0 c.n0 p0 c.r0 F WN hn0 HSN.out).mono ?_
    rintro e w2 ⟨⟨i, rfl, hi⟩, hb2⟩
    have HNX0 := (HNB.out.next hb2).hid
    have HC0 := hide (hb2.mono (Nat.le_of_lt HNB.out.lt) : Below N WN w2)
    have HDW2 := (HDC.out _ HC0.out).hid
    clear hb2 HNB HSN
    rcases hi with ⟨rfl, hlk⟩ | ⟨j, hj, rfl, hlk⟩
    · have hge : ¬ (0 : Int) ≤ -1 := by decide
      have HOP : Hid (opsRp c m d = [⟨1, F, ⟨#[]⟩, d⟩, ⟨2, F, m, ⟨#[]⟩⟩]) := by show _ = _; unfold opsRp newB; rw [hFn, hlk]; rfl
      have HRUN0 : Hid (runD c (opsRp c m d) = runD c [⟨1, F, ⟨#[]⟩, d⟩, ⟨2, F, m, ⟨#[]⟩⟩]) := by show _ = _; rw [HOP.out]
      clear HOP
      have HXX0 := HDW2
      have HFX0 := HFT
      have HRX0 := HDD
      have n0 := HNX0.out.cell 0
      have n1 := HNX0.out.cell 1
      have n2 := HNX0.out.cell 2
      simp only [List.getElem?_toArray, List.getElem?_cons_succ, List.getElem?_cons_zero] at n0 n1 n2
      clear hlk HDW2
      go_wp2_with fail
      clear n0 n1 n2

      refine (spec_l6Act (.agg #[.slice a0 c.n0 p0, .slice a1 c.n1 p1, .slice a2 c.n2 p2]) c 1 F ⟨#[]⟩ d w2 HFX0.out HRX0.out (by omega) (by first | omega | (show (⟨#[]⟩ : ByteArray).size ≤ _; decide)) (by first | omega | (show (⟨#[]⟩ : ByteArray).size ≤ _; decide)) HXX0.out).mono ?_
      rintro e w5 ⟨⟨u, rfl, hM⟩, hb5⟩
      have hO5 : DiskOwn w5 _ u (doC c ⟨1, F, ⟨#[]⟩, d⟩) := hM.own
      obtain ⟨x1, hx2, hfx, hst, hcp⟩ := step_pack (x := c) (o := ⟨1, F, ⟨#[]⟩, d⟩) HFX0.out (by first | omega | (show (⟨#[]⟩ : ByteArray).size ≤ _; decide)) (by first | omega | (show (⟨#[]⟩ : ByteArray).size ≤ _; decide))
      rw [← hx2] at hO5
      obtain ⟨b00, r00, b01, r01, b02, r02, rfl⟩ := hO5.shape
      have hN5 := HNX0.out.next hb5
      have hC5 := HC0.out.trans (hb5.mono (Nat.le_of_lt HNX0.out.lt))
      have HC1 := hide (below_put3 (F := N) hC5 (Nat.le_refl _) (.slice b00 x1.n0 r00) (.slice b01 x1.n1 r01) (.slice b02 x1.n2 r02))
      have hN7 : BoxIs (((w5.setCell ⟨N, 0, none⟩ (.slice b00 x1.n0 r00)).setCell ⟨N, 1, none⟩ (.slice b01 x1.n1 r01)).setCell ⟨N, 2, none⟩ (.slice b02 x1.n2 r02)) N #[.slice b00 x1.n0 r00, .slice b01 x1.n1 r01, .slice b02 x1.n2 r02] 31 := ((hN5.set 0 _).set 1 _).set 2 _
      have HNX1 := hN7.hid
      have HOw := (own_put3 (hO5.base2 (B' := w.heap.size) (by have := HNX0.out.lt; omega)) hN5 (.slice b00 x1.n0 r00) (.slice b01 x1.n1 r01) (.slice b02 x1.n2 r02)).hid
      have k0 := hN5.cell 0
      have k1 := hN5.cell 1
      have k2 := hN5.cell 2
      have kf := hN5.free
      have y0 := hN7.cell 0
      have y1 := hN7.cell 1
      have y2 := hN7.cell 2
      simp only [List.getElem?_toArray, List.getElem?_cons_succ, List.getElem?_cons_zero] at k0 k1 k2 y0 y1 y2
      generalize hqe : doK c ⟨1, F, ⟨#[]⟩, d⟩ = q at hst
      have HQE := hide hqe
      have HST := hide hst
      have HFX1 := hide hfx
      have HCP := hide hcp
      clear hqe hst hfx hcp hM hO5 hx2 hb5 hN5 hC5 hN7 HNX0 HC0 HXX0
      by_cases hq : q = 0
      · subst hq
        have HRX1 := hide (HST.out rfl).1
        have HRUN1 := hide (HRUN0.out.trans ((HST.out rfl).2 [⟨2, F, m, ⟨#[]⟩⟩]))
        clear HRUN0 HST HQE HFX0 HRX0
        go_wp2_with fail
        clear k0 k1 k2 kf y0 y1 y2
        have HXX1 := HOw.out.is.hid
        generalize (((w5.setCell ⟨N, 0, none⟩ (.slice b00 x1.n0 r00)).setCell ⟨N, 1, none⟩ (.slice b01 x1.n1 r01)).setCell ⟨N, 2, none⟩ (.slice b02 x1.n2 r02)) = w7 at HC1 HNX1 HXX1 ⊢
        clear HOw
        refine (spec_l6Act (.agg #[.slice b00 x1.n0 r00, .slice b01 x1.n1 r01, .slice b02 x1.n2 r02]) x1 2 F m ⟨#[]⟩ w7 HFX1.out HRX1.out (by omega) (by first | omega | (show (⟨#[]⟩ : ByteArray).size ≤ _; decide)) (by first | omega | (show (⟨#[]⟩ : ByteArray).size ≤ _; decide)) HXX1.out).mono ?_
        rintro e w5 ⟨⟨u, rfl, hM⟩, hb5⟩
        have hO5 : DiskOwn w5 _ u (doC x1 ⟨2, F, m, ⟨#[]⟩⟩) := hM.own
        obtain ⟨x2, hx2, hfx, hst, hcp⟩ := step_pack (x := x1) (o := ⟨2, F, m, ⟨#[]⟩⟩) HFX1.out (by first | omega | (show (⟨#[]⟩ : ByteArray).size ≤ _; decide)) (by first | omega | (show (⟨#[]⟩ : ByteArray).size ≤ _; decide))
        rw [← hx2] at hO5
        obtain ⟨b10, r10, b11, r11, b12, r12, rfl⟩ := hO5.shape
        have hN5 := HNX1.out.next hb5
        have hC5 := HC1.out.trans (hb5.mono (Nat.le_of_lt HNX1.out.lt))
        have HC2 := hide (below_put3 (F := N) hC5 (Nat.le_refl _) (.slice b10 x2.n0 r10) (.slice b11 x2.n1 r11) (.slice b12 x2.n2 r12))
        have hN7 : BoxIs (((w5.setCell ⟨N, 0, none⟩ (.slice b10 x2.n0 r10)).setCell ⟨N, 1, none⟩ (.slice b11 x2.n1 r11)).setCell ⟨N, 2, none⟩ (.slice b12 x2.n2 r12)) N #[.slice b10 x2.n0 r10, .slice b11 x2.n1 r11, .slice b12 x2.n2 r12] 31 := ((hN5.set 0 _).set 1 _).set 2 _
        have HNX2 := hN7.hid
        have HOw := (own_put3 (hO5.base2 (B' := w.heap.size) (by have := HNX1.out.lt; omega)) hN5 (.slice b10 x2.n0 r10) (.slice b11 x2.n1 r11) (.slice b12 x2.n2 r12)).hid
        have k0 := hN5.cell 0
        have k1 := hN5.cell 1
        have k2 := hN5.cell 2
        have kf := hN5.free
        have y0 := hN7.cell 0
        have y1 := hN7.cell 1
        have y2 := hN7.cell 2
        simp only [List.getElem?_toArray, List.getElem?_cons_succ, List.getElem?_cons_zero] at k0 k1 k2 y0 y1 y2
        generalize hqe : doK x1 ⟨2, F, m, ⟨#[]⟩⟩ = q at hst
        have HQE := hide hqe
        have HST := hide hst
        have HFX2 := hide hfx
        have HCP := hide hcp
        clear hqe hst hfx hcp hM hO5 hx2 hb5 hN5 hC5 hN7 HNX1 HC1 HXX1
        by_cases hq : q = 0
        · subst hq
          have HRX2 := hide (HST.out rfl).1
          have HRUN2 := hide (HRUN1.out.trans ((HST.out rfl).2 []))
          clear HRUN1 HST HQE HFX1 HRX1
          go_wp2_with fail
          clear k0 k1 k2 kf y0 y1 y2
          have HXX2 := HOw.out.is.hid
          generalize (((w5.setCell ⟨N, 0, none⟩ (.slice b10 x2.n0 r10)).setCell ⟨N, 1, none⟩ (.slice b11 x2.n1 r11)).setCell ⟨N, 2, none⟩ (.slice b12 x2.n2 r12)) = w7 at HC2 HNX2 HXX2 ⊢
          clear HOw
          obtain ⟨q1, q2⟩ := rp_yes (x := x2) HDD.out (show runD c (opsRp c m d) = (0, x2) by rw [HRUN2.out]; rfl)
          have HQ1 := hide q1
          have HQ2 := hide (HCP.out.symm ▸ q2.symm.symm : rpC c m d = x2)
          have HRr := (HRN.out.below HC2.out hWN).hid
          have HBr := hide (HBN.out.trans (HC2.out.mono (by omega)))
          have hw7 : w.heap.size + 1 < w7.heap.size := HRr.out.lt
          refine (spec_l6Copy (.agg #[.slice b10 x2.n0 r10, .slice b11 x2.n1 r11, .slice b12 x2.n2 r12]) x2 w7 HFX2.out HXX2.out).mono ?_
          clear q1 q2 HXX2 HNX2 HC2
          rintro e w8 ⟨⟨u8, rfl, ho8⟩, hb8⟩
          have hR8 := HRr.out.next hb8
          obtain ⟨v0, v1, v2, rfl, m0, m1, m2, m3⟩ := ho8
          obtain ⟨v0a, v0n, v0p, rfl⟩ := m0.shapeN
          obtain ⟨v1a, v1n, v1p, rfl⟩ := m1.shapeN
          obtain ⟨v2a, v2n, v2p, rfl⟩ := m2.shapeN
          have hMd : DiskMade w8 w7.heap.size (.agg #[.slice v0a v0n v0p, .slice v1a v1n v1p, .slice v2a v2n v2p]) _ _ _ := ⟨_, _, _, rfl, m0, m1, m2, m3⟩
          have HM := (hMd.put3 (F := w.heap.size + 1) (by omega) (.slice v0a v0n v0p) (.slice v1a v1n v1p) (.slice v2a v2n v2p)).hid
          have HL := hide (below_put3 (F := w.heap.size + 1) (HBr.out.trans (hb8.mono HBr.out.size)) (by omega) (.slice v0a v0n v0p) (.slice v1a v1n v1p) (.slice v2a v2n v2p))
          have hbase : w.heap.size ≤ w7.heap.size := by omega
          have t0 := hR8.cell 0
          have t1 := hR8.cell 1
          have t2 := hR8.cell 2
          have tf := hR8.free
          simp only [List.getElem?_toArray, List.getElem?_cons_succ, List.getElem?_cons_zero] at t0 t1 t2
          clear hMd m0 m1 m2 m3 hR8 hb8 HBr HRr
          go_wp2
          refine bodyPost_ret (v := .tuple #[.agg #[.slice v0a v0n v0p, .slice v1a v1n v1p, .slice v2a v2n v2p], .int .i64 0]) (by simp [results, Try.results32, go_sem, t0, t1, t2]) rfl ⟨⟨_, ret_tupI rfl HQ1.out.symm, own_eq (HM.out.base hbase).own (HQ2.out.trans HCP.out.symm)⟩, HL.out⟩
        · obtain ⟨q1, q2⟩ := rp_fail HDD.out (show runD c (opsRp c m d) = (q, x1) by rw [HRUN1.out, runD_fail (by rw [HQE.out]; exact hq), HQE.out]) hq
          have HQ1 := hide q1
          have HQ2 := hide q2
          have s0 := (HPN.out.below HC2.out (by omega)).cell 0
          have s1 := (HPN.out.below HC2.out (by omega)).cell 1
          have s2 := (HPN.out.below HC2.out (by omega)).cell 2
          simp only [List.getElem?_toArray, List.getElem?_cons_succ, List.getElem?_cons_zero] at s0 s1 s2
          have HDW := (HDC.out _ HC2.out).hid
          have HBr := hide (HBN.out.trans (HC2.out.mono (by omega)))
          have HRr := (HRN.out.below HC2.out hWN).hid
          have hw7 : w.heap.size + 1 < (((w5.setCell ⟨N, 0, none⟩ (.slice b10 x2.n0 r10)).setCell ⟨N, 1, none⟩ (.slice b11 x2.n1 r11)).setCell ⟨N, 2, none⟩ (.slice b12 x2.n2 r12)).heap.size := HRr.out.lt
          clear q1 q2 HST HQE HRUN1 HFX1 HRX1 HFX2 HCP HOw HNX2 HC2 y0 y1 y2
          go_wp2_with fail
          clear s0 s1 s2 k0 k1 k2 kf
          generalize (((w5.setCell ⟨N, 0, none⟩ (.slice b10 x2.n0 r10)).setCell ⟨N, 1, none⟩ (.slice b11 x2.n1 r11)).setCell ⟨N, 2, none⟩ (.slice b12 x2.n2 r12)) = w7 at HDW HBr HRr hw7 ⊢
          refine (spec_l6Copy (.agg #[.slice a0 c.n0 p0, .slice a1 c.n1 p1, .slice a2 c.n2 p2]) c w7 HFT.out HDW.out).mono ?_
          clear HDW
          rintro e w8 ⟨⟨u8, rfl, ho8⟩, hb8⟩
          have hR8 := HRr.out.next hb8
          obtain ⟨v0, v1, v2, rfl, m0, m1, m2, m3⟩ := ho8
          obtain ⟨v0a, v0n, v0p, rfl⟩ := m0.shapeN
          obtain ⟨v1a, v1n, v1p, rfl⟩ := m1.shapeN
          obtain ⟨v2a, v2n, v2p, rfl⟩ := m2.shapeN
          have hMd : DiskMade w8 w7.heap.size (.agg #[.slice v0a v0n v0p, .slice v1a v1n v1p, .slice v2a v2n v2p]) _ _ _ := ⟨_, _, _, rfl, m0, m1, m2, m3⟩
          have HM := (hMd.put3 (F := w.heap.size + 1) (by omega) (.slice v0a v0n v0p) (.slice v1a v1n v1p) (.slice v2a v2n v2p)).hid
          have HL := hide (below_put3 (F := w.heap.size + 1) (HBr.out.trans (hb8.mono HBr.out.size)) (by omega) (.slice v0a v0n v0p) (.slice v1a v1n v1p) (.slice v2a v2n v2p))
          have hbase : w.heap.size ≤ w7.heap.size := by omega
          have t0 := hR8.cell 0
          have t1 := hR8.cell 1
          have t2 := hR8.cell 2
          have tf := hR8.free
          simp only [List.getElem?_toArray, List.getElem?_cons_succ, List.getElem?_cons_zero] at t0 t1 t2
          clear hMd m0 m1 m2 m3 hR8 hb8 HBr HRr
          go_wp2
          refine bodyPost_ret (v := .tuple #[.agg #[.slice v0a v0n v0p, .slice v1a v1n v1p, .slice v2a v2n v2p], .int .i64 q]) (by simp [results, Try.results32, go_sem, t0, t1, t2]) rfl ⟨⟨_, ret_tupI rfl HQ1.out.symm, own_eq (HM.out.base hbase).own HQ2.out⟩, HL.out⟩
      · obtain ⟨q1, q2⟩ := rp_fail HDD.out (show runD c (opsRp c m d) = (q, c) by rw [HRUN0.out, runD_fail (by rw [HQE.out]; exact hq), HQE.out]) hq
        have HQ1 := hide q1
        have HQ2 := hide q2
        have s0 := (HPN.out.below HC1.out (by omega)).cell 0
        have s1 := (HPN.out.below HC1.out (by omega)).cell 1
        have s2 := (HPN.out.below HC1.out (by omega)).cell 2
        simp only [List.getElem?_toArray, List.getElem?_cons_succ, List.getElem?_cons_zero] at s0 s1 s2
        have HDW := (HDC.out _ HC1.out).hid
        have HBr := hide (HBN.out.trans (HC1.out.mono (by omega)))
        have HRr := (HRN.out.below HC1.out hWN).hid
        have hw7 : w.heap.size + 1 < (((w5.setCell ⟨N, 0, none⟩ (.slice b00 x1.n0 r00)).setCell ⟨N, 1, none⟩ (.slice b01 x1.n1 r01)).setCell ⟨N, 2, none⟩ (.slice b02 x1.n2 r02)).heap.size := HRr.out.lt
        clear q1 q2 HST HQE HRUN0 HFX0 HRX0 HFX1 HCP HOw HNX1 HC1 y0 y1 y2
        go_wp2_with fail
        clear s0 s1 s2 k0 k1 k2 kf
        generalize (((w5.setCell ⟨N, 0, none⟩ (.slice b00 x1.n0 r00)).setCell ⟨N, 1, none⟩ (.slice b01 x1.n1 r01)).setCell ⟨N, 2, none⟩ (.slice b02 x1.n2 r02)) = w7 at HDW HBr HRr hw7 ⊢
        refine (spec_l6Copy (.agg #[.slice a0 c.n0 p0, .slice a1 c.n1 p1, .slice a2 c.n2 p2]) c w7 HFT.out HDW.out).mono ?_
        clear HDW
        rintro e w8 ⟨⟨u8, rfl, ho8⟩, hb8⟩
        have hR8 := HRr.out.next hb8
        obtain ⟨v0, v1, v2, rfl, m0, m1, m2, m3⟩ := ho8
        obtain ⟨v0a, v0n, v0p, rfl⟩ := m0.shapeN
        obtain ⟨v1a, v1n, v1p, rfl⟩ := m1.shapeN
        obtain ⟨v2a, v2n, v2p, rfl⟩ := m2.shapeN
        have hMd : DiskMade w8 w7.heap.size (.agg #[.slice v0a v0n v0p, .slice v1a v1n v1p, .slice v2a v2n v2p]) _ _ _ := ⟨_, _, _, rfl, m0, m1, m2, m3⟩
        have HM := (hMd.put3 (F := w.heap.size + 1) (by omega) (.slice v0a v0n v0p) (.slice v1a v1n v1p) (.slice v2a v2n v2p)).hid
        have HL := hide (below_put3 (F := w.heap.size + 1) (HBr.out.trans (hb8.mono HBr.out.size)) (by omega) (.slice v0a v0n v0p) (.slice v1a v1n v1p) (.slice v2a v2n v2p))
        have hbase : w.heap.size ≤ w7.heap.size := by omega
        have t0 := hR8.cell 0
        have t1 := hR8.cell 1
        have t2 := hR8.cell 2
        have tf := hR8.free
        simp only [List.getElem?_toArray, List.getElem?_cons_succ, List.getElem?_cons_zero] at t0 t1 t2
        clear hMd m0 m1 m2 m3 hR8 hb8 HBr HRr
        go_wp2
        refine bodyPost_ret (v := .tuple #[.agg #[.slice v0a v0n v0p, .slice v1a v1n v1p, .slice v2a v2n v2p], .int .i64 q]) (by simp [results, Try.results32, go_sem, t0, t1, t2]) rfl ⟨⟨_, ret_tupI rfl HQ1.out.symm, own_eq (HM.out.base hbase).own HQ2.out⟩, HL.out⟩
    · have hge : (0 : Int) ≤ (j : Int) := Int.natCast_nonneg j
      have HOP : Hid (opsRp c m d = [⟨3, F, ⟨#[]⟩, ⟨#[]⟩⟩, ⟨1, F, ⟨#[]⟩, d⟩, ⟨2, F, m, ⟨#[]⟩⟩]) := by show _ = _; unfold opsRp newB; rw [hFn, hlk]; rfl
      have HRUN0 : Hid (runD c (opsRp c m d) = runD c [⟨3, F, ⟨#[]⟩, ⟨#[]⟩⟩, ⟨1, F, ⟨#[]⟩, d⟩, ⟨2, F, m, ⟨#[]⟩⟩]) := by show _ = _; rw [HOP.out]
      clear HOP
      have HXX0 := HDW2
      have HFX0 := HFT
      have HRX0 := HDD
      have n0 := HNX0.out.cell 0
      have n1 := HNX0.out.cell 1
      have n2 := HNX0.out.cell 2
      simp only [List.getElem?_toArray, List.getElem?_cons_succ, List.getElem?_cons_zero] at n0 n1 n2
      clear hlk HDW2
      go_wp2_with fail
      clear n0 n1 n2

      refine (spec_l6Act (.agg #[.slice a0 c.n0 p0, .slice a1 c.n1 p1, .slice a2 c.n2 p2]) c 3 F ⟨#[]⟩ ⟨#[]⟩ w2 HFX0.out HRX0.out (by omega) (by first | omega | (show (⟨#[]⟩ : ByteArray).size ≤ _; decide)) (by first | omega | (show (⟨#[]⟩ : ByteArray).size ≤ _; decide)) HXX0.out).mono ?_
      rintro e w5 ⟨⟨u, rfl, hM⟩, hb5⟩
      have hO5 : DiskOwn w5 _ u (doC c ⟨3, F, ⟨#[]⟩, ⟨#[]⟩⟩) := hM.own
      obtain ⟨x1, hx2, hfx, hst, hcp⟩ := step_pack (x := c) (o := ⟨3, F, ⟨#[]⟩, ⟨#[]⟩⟩) HFX0.out (by first | omega | (show (⟨#[]⟩ : ByteArray).size ≤ _; decide)) (by first | omega | (show (⟨#[]⟩ : ByteArray).size ≤ _; decide))
      rw [← hx2] at hO5
      obtain ⟨b00, r00, b01, r01, b02, r02, rfl⟩ := hO5.shape
      have hN5 := HNX0.out.next hb5
      have hC5 := HC0.out.trans (hb5.mono (Nat.le_of_lt HNX0.out.lt))
      have HC1 := hide (below_put3 (F := N) hC5 (Nat.le_refl _) (.slice b00 x1.n0 r00) (.slice b01 x1.n1 r01) (.slice b02 x1.n2 r02))
      have hN7 : BoxIs (((w5.setCell ⟨N, 0, none⟩ (.slice b00 x1.n0 r00)).setCell ⟨N, 1, none⟩ (.slice b01 x1.n1 r01)).setCell ⟨N, 2, none⟩ (.slice b02 x1.n2 r02)) N #[.slice b00 x1.n0 r00, .slice b01 x1.n1 r01, .slice b02 x1.n2 r02] 31 := ((hN5.set 0 _).set 1 _).set 2 _
      have HNX1 := hN7.hid
      have HOw := (own_put3 (hO5.base2 (B' := w.heap.size) (by have := HNX0.out.lt; omega)) hN5 (.slice b00 x1.n0 r00) (.slice b01 x1.n1 r01) (.slice b02 x1.n2 r02)).hid
      have k0 := hN5.cell 0
      have k1 := hN5.cell 1
      have k2 := hN5.cell 2
      have kf := hN5.free
      have y0 := hN7.cell 0
      have y1 := hN7.cell 1
      have y2 := hN7.cell 2
      simp only [List.getElem?_toArray, List.getElem?_cons_succ, List.getElem?_cons_zero] at k0 k1 k2 y0 y1 y2
      generalize hqe : doK c ⟨3, F, ⟨#[]⟩, ⟨#[]⟩⟩ = q at hst
      have HQE := hide hqe
      have HST := hide hst
      have HFX1 := hide hfx
      have HCP := hide hcp
      clear hqe hst hfx hcp hM hO5 hx2 hb5 hN5 hC5 hN7 HNX0 HC0 HXX0
      by_cases hq : q = 0
      · subst hq
        have HRX1 := hide (HST.out rfl).1
        have HRUN1 := hide (HRUN0.out.trans ((HST.out rfl).2 [⟨1, F, ⟨#[]⟩, d⟩, ⟨2, F, m, ⟨#[]⟩⟩]))
        clear HRUN0 HST HQE HFX0 HRX0
        go_wp2_with fail
        clear k0 k1 k2 kf y0 y1 y2
        have HXX1 := HOw.out.is.hid
        generalize (((w5.setCell ⟨N, 0, none⟩ (.slice b00 x1.n0 r00)).setCell ⟨N, 1, none⟩ (.slice b01 x1.n1 r01)).setCell ⟨N, 2, none⟩ (.slice b02 x1.n2 r02)) = w7 at HC1 HNX1 HXX1 ⊢
        clear HOw
        refine (spec_l6Act (.agg #[.slice b00 x1.n0 r00, .slice b01 x1.n1 r01, .slice b02 x1.n2 r02]) x1 1 F ⟨#[]⟩ d w7 HFX1.out HRX1.out (by omega) (by first | omega | (show (⟨#[]⟩ : ByteArray).size ≤ _; decide)) (by first | omega | (show (⟨#[]⟩ : ByteArray).size ≤ _; decide)) HXX1.out).mono ?_
        rintro e w5 ⟨⟨u, rfl, hM⟩, hb5⟩
        have hO5 : DiskOwn w5 _ u (doC x1 ⟨1, F, ⟨#[]⟩, d⟩) := hM.own
        obtain ⟨x2, hx2, hfx, hst, hcp⟩ := step_pack (x := x1) (o := ⟨1, F, ⟨#[]⟩, d⟩) HFX1.out (by first | omega | (show (⟨#[]⟩ : ByteArray).size ≤ _; decide)) (by first | omega | (show (⟨#[]⟩ : ByteArray).size ≤ _; decide))
        rw [← hx2] at hO5
        obtain ⟨b10, r10, b11, r11, b12, r12, rfl⟩ := hO5.shape
        have hN5 := HNX1.out.next hb5
        have hC5 := HC1.out.trans (hb5.mono (Nat.le_of_lt HNX1.out.lt))
        have HC2 := hide (below_put3 (F := N) hC5 (Nat.le_refl _) (.slice b10 x2.n0 r10) (.slice b11 x2.n1 r11) (.slice b12 x2.n2 r12))
        have hN7 : BoxIs (((w5.setCell ⟨N, 0, none⟩ (.slice b10 x2.n0 r10)).setCell ⟨N, 1, none⟩ (.slice b11 x2.n1 r11)).setCell ⟨N, 2, none⟩ (.slice b12 x2.n2 r12)) N #[.slice b10 x2.n0 r10, .slice b11 x2.n1 r11, .slice b12 x2.n2 r12] 31 := ((hN5.set 0 _).set 1 _).set 2 _
        have HNX2 := hN7.hid
        have HOw := (own_put3 (hO5.base2 (B' := w.heap.size) (by have := HNX1.out.lt; omega)) hN5 (.slice b10 x2.n0 r10) (.slice b11 x2.n1 r11) (.slice b12 x2.n2 r12)).hid
        have k0 := hN5.cell 0
        have k1 := hN5.cell 1
        have k2 := hN5.cell 2
        have kf := hN5.free
        have y0 := hN7.cell 0
        have y1 := hN7.cell 1
        have y2 := hN7.cell 2
        simp only [List.getElem?_toArray, List.getElem?_cons_succ, List.getElem?_cons_zero] at k0 k1 k2 y0 y1 y2
        generalize hqe : doK x1 ⟨1, F, ⟨#[]⟩, d⟩ = q at hst
        have HQE := hide hqe
        have HST := hide hst
        have HFX2 := hide hfx
        have HCP := hide hcp
        clear hqe hst hfx hcp hM hO5 hx2 hb5 hN5 hC5 hN7 HNX1 HC1 HXX1
        by_cases hq : q = 0
        · subst hq
          have HRX2 := hide (HST.out rfl).1
          have HRUN2 := hide (HRUN1.out.trans ((HST.out rfl).2 [⟨2, F, m, ⟨#[]⟩⟩]))
          clear HRUN1 HST HQE HFX1 HRX1
          go_wp2_with fail
          clear k0 k1 k2 kf y0 y1 y2
          have HXX2 := HOw.out.is.hid
          generalize (((w5.setCell ⟨N, 0, none⟩ (.slice b10 x2.n0 r10)).setCell ⟨N, 1, none⟩ (.slice b11 x2.n1 r11)).setCell ⟨N, 2, none⟩ (.slice b12 x2.n2 r12)) = w7 at HC2 HNX2 HXX2 ⊢
          clear HOw
          refine (spec_l6Act (.agg #[.slice b10 x2.n0 r10, .slice b11 x2.n1 r11, .slice b12 x2.n2 r12]) x2 2 F m ⟨#[]⟩ w7 HFX2.out HRX2.out (by omega) (by first | omega | (show (⟨#[]⟩ : ByteArray).size ≤ _; decide)) (by first | omega | (show (⟨#[]⟩ : ByteArray).size ≤ _; decide)) HXX2.out).mono ?_
          rintro e w5 ⟨⟨u, rfl, hM⟩, hb5⟩
          have hO5 : DiskOwn w5 _ u (doC x2 ⟨2, F, m, ⟨#[]⟩⟩) := hM.own
          obtain ⟨x3, hx2, hfx, hst, hcp⟩ := step_pack (x := x2) (o := ⟨2, F, m, ⟨#[]⟩⟩) HFX2.out (by first | omega | (show (⟨#[]⟩ : ByteArray).size ≤ _; decide)) (by first | omega | (show (⟨#[]⟩ : ByteArray).size ≤ _; decide))
          rw [← hx2] at hO5
          obtain ⟨b20, r20, b21, r21, b22, r22, rfl⟩ := hO5.shape
          have hN5 := HNX2.out.next hb5
          have hC5 := HC2.out.trans (hb5.mono (Nat.le_of_lt HNX2.out.lt))
          have HC3 := hide (below_put3 (F := N) hC5 (Nat.le_refl _) (.slice b20 x3.n0 r20) (.slice b21 x3.n1 r21) (.slice b22 x3.n2 r22))
          have hN7 : BoxIs (((w5.setCell ⟨N, 0, none⟩ (.slice b20 x3.n0 r20)).setCell ⟨N, 1, none⟩ (.slice b21 x3.n1 r21)).setCell ⟨N, 2, none⟩ (.slice b22 x3.n2 r22)) N #[.slice b20 x3.n0 r20, .slice b21 x3.n1 r21, .slice b22 x3.n2 r22] 31 := ((hN5.set 0 _).set 1 _).set 2 _
          have HNX3 := hN7.hid
          have HOw := (own_put3 (hO5.base2 (B' := w.heap.size) (by have := HNX2.out.lt; omega)) hN5 (.slice b20 x3.n0 r20) (.slice b21 x3.n1 r21) (.slice b22 x3.n2 r22)).hid
          have k0 := hN5.cell 0
          have k1 := hN5.cell 1
          have k2 := hN5.cell 2
          have kf := hN5.free
          have y0 := hN7.cell 0
          have y1 := hN7.cell 1
          have y2 := hN7.cell 2
          simp only [List.getElem?_toArray, List.getElem?_cons_succ, List.getElem?_cons_zero] at k0 k1 k2 y0 y1 y2
          generalize hqe : doK x2 ⟨2, F, m, ⟨#[]⟩⟩ = q at hst
          have HQE := hide hqe
          have HST := hide hst
          have HFX3 := hide hfx
          have HCP := hide hcp
          clear hqe hst hfx hcp hM hO5 hx2 hb5 hN5 hC5 hN7 HNX2 HC2 HXX2
          by_cases hq : q = 0
          · subst hq
            have HRX3 := hide (HST.out rfl).1
            have HRUN3 := hide (HRUN2.out.trans ((HST.out rfl).2 []))
            clear HRUN2 HST HQE HFX2 HRX2
            go_wp2_with fail
            clear k0 k1 k2 kf y0 y1 y2
            have HXX3 := HOw.out.is.hid
            generalize (((w5.setCell ⟨N, 0, none⟩ (.slice b20 x3.n0 r20)).setCell ⟨N, 1, none⟩ (.slice b21 x3.n1 r21)).setCell ⟨N, 2, none⟩ (.slice b22 x3.n2 r22)) = w7 at HC3 HNX3 HXX3 ⊢
            clear HOw
            obtain ⟨q1, q2⟩ := rp_yes (x := x3) HDD.out (show runD c (opsRp c m d) = (0, x3) by rw [HRUN3.out]; rfl)
            have HQ1 := hide q1
            have HQ2 := hide (HCP.out.symm ▸ q2.symm.symm : rpC c m d = x3)
            have HRr := (HRN.out.below HC3.out hWN).hid
            have HBr := hide (HBN.out.trans (HC3.out.mono (by omega)))
            have hw7 : w.heap.size + 1 < w7.heap.size := HRr.out.lt
            refine (spec_l6Copy (.agg #[.slice b20 x3.n0 r20, .slice b21 x3.n1 r21, .slice b22 x3.n2 r22]) x3 w7 HFX3.out HXX3.out).mono ?_
            clear q1 q2 HXX3 HNX3 HC3
            rintro e w8 ⟨⟨u8, rfl, ho8⟩, hb8⟩
            have hR8 := HRr.out.next hb8
            obtain ⟨v0, v1, v2, rfl, m0, m1, m2, m3⟩ := ho8
            obtain ⟨v0a, v0n, v0p, rfl⟩ := m0.shapeN
            obtain ⟨v1a, v1n, v1p, rfl⟩ := m1.shapeN
            obtain ⟨v2a, v2n, v2p, rfl⟩ := m2.shapeN
            have hMd : DiskMade w8 w7.heap.size (.agg #[.slice v0a v0n v0p, .slice v1a v1n v1p, .slice v2a v2n v2p]) _ _ _ := ⟨_, _, _, rfl, m0, m1, m2, m3⟩
            have HM := (hMd.put3 (F := w.heap.size + 1) (by omega) (.slice v0a v0n v0p) (.slice v1a v1n v1p) (.slice v2a v2n v2p)).hid
            have HL := hide (below_put3 (F := w.heap.size + 1) (HBr.out.trans (hb8.mono HBr.out.size)) (by omega) (.slice v0a v0n v0p) (.slice v1a v1n v1p) (.slice v2a v2n v2p))
            have hbase : w.heap.size ≤ w7.heap.size := by omega
            have t0 := hR8.cell 0
            have t1 := hR8.cell 1
            have t2 := hR8.cell 2
            have tf := hR8.free
            simp only [List.getElem?_toArray, List.getElem?_cons_succ, List.getElem?_cons_zero] at t0 t1 t2
            clear hMd m0 m1 m2 m3 hR8 hb8 HBr HRr
            go_wp2
            refine bodyPost_ret (v := .tuple #[.agg #[.slice v0a v0n v0p, .slice v1a v1n v1p, .slice v2a v2n v2p], .int .i64 0]) (by simp [results, Try.results32, go_sem, t0, t1, t2]) rfl ⟨⟨_, ret_tupI rfl HQ1.out.symm, own_eq (HM.out.base hbase).own (HQ2.out.trans HCP.out.symm)⟩, HL.out⟩
          · obtain ⟨q1, q2⟩ := rp_fail HDD.out (show runD c (opsRp c m d) = (q, x2) by rw [HRUN2.out, runD_fail (by rw [HQE.out]; exact hq), HQE.out]) hq
            have HQ1 := hide q1
            have HQ2 := hide q2
            have s0 := (HPN.out.below HC3.out (by omega)).cell 0
            have s1 := (HPN.out.below HC3.out (by omega)).cell 1
            have s2 := (HPN.out.below HC3.out (by omega)).cell 2
            simp only [List.getElem?_toArray, List.getElem?_cons_succ, List.getElem?_cons_zero] at s0 s1 s2
            have HDW := (HDC.out _ HC3.out).hid
            have HBr := hide (HBN.out.trans (HC3.out.mono (by omega)))
            have HRr := (HRN.out.below HC3.out hWN).hid
            have hw7 : w.heap.size + 1 < (((w5.setCell ⟨N, 0, none⟩ (.slice b20 x3.n0 r20)).setCell ⟨N, 1, none⟩ (.slice b21 x3.n1 r21)).setCell ⟨N, 2, none⟩ (.slice b22 x3.n2 r22)).heap.size := HRr.out.lt
            clear q1 q2 HST HQE HRUN2 HFX2 HRX2 HFX3 HCP HOw HNX3 HC3 y0 y1 y2
            go_wp2_with fail
            clear s0 s1 s2 k0 k1 k2 kf
            generalize (((w5.setCell ⟨N, 0, none⟩ (.slice b20 x3.n0 r20)).setCell ⟨N, 1, none⟩ (.slice b21 x3.n1 r21)).setCell ⟨N, 2, none⟩ (.slice b22 x3.n2 r22)) = w7 at HDW HBr HRr hw7 ⊢
            refine (spec_l6Copy (.agg #[.slice a0 c.n0 p0, .slice a1 c.n1 p1, .slice a2 c.n2 p2]) c w7 HFT.out HDW.out).mono ?_
            clear HDW
            rintro e w8 ⟨⟨u8, rfl, ho8⟩, hb8⟩
            have hR8 := HRr.out.next hb8
            obtain ⟨v0, v1, v2, rfl, m0, m1, m2, m3⟩ := ho8
            obtain ⟨v0a, v0n, v0p, rfl⟩ := m0.shapeN
            obtain ⟨v1a, v1n, v1p, rfl⟩ := m1.shapeN
            obtain ⟨v2a, v2n, v2p, rfl⟩ := m2.shapeN
            have hMd : DiskMade w8 w7.heap.size (.agg #[.slice v0a v0n v0p, .slice v1a v1n v1p, .slice v2a v2n v2p]) _ _ _ := ⟨_, _, _, rfl, m0, m1, m2, m3⟩
            have HM := (hMd.put3 (F := w.heap.size + 1) (by omega) (.slice v0a v0n v0p) (.slice v1a v1n v1p) (.slice v2a v2n v2p)).hid
            have HL := hide (below_put3 (F := w.heap.size + 1) (HBr.out.trans (hb8.mono HBr.out.size)) (by omega) (.slice v0a v0n v0p) (.slice v1a v1n v1p) (.slice v2a v2n v2p))
            have hbase : w.heap.size ≤ w7.heap.size := by omega
            have t0 := hR8.cell 0
            have t1 := hR8.cell 1
            have t2 := hR8.cell 2
            have tf := hR8.free
            simp only [List.getElem?_toArray, List.getElem?_cons_succ, List.getElem?_cons_zero] at t0 t1 t2
            clear hMd m0 m1 m2 m3 hR8 hb8 HBr HRr
            go_wp2
            refine bodyPost_ret (v := .tuple #[.agg #[.slice v0a v0n v0p, .slice v1a v1n v1p, .slice v2a v2n v2p], .int .i64 q]) (by simp [results, Try.results32, go_sem, t0, t1, t2]) rfl ⟨⟨_, ret_tupI rfl HQ1.out.symm, own_eq (HM.out.base hbase).own HQ2.out⟩, HL.out⟩
        · obtain ⟨q1, q2⟩ := rp_fail HDD.out (show runD c (opsRp c m d) = (q, x1) by rw [HRUN1.out, runD_fail (by rw [HQE.out]; exact hq), HQE.out]) hq
          have HQ1 := hide q1
          have HQ2 := hide q2
          have s0 := (HPN.out.below HC2.out (by omega)).cell 0
          have s1 := (HPN.out.below HC2.out (by omega)).cell 1
          have s2 := (HPN.out.below HC2.out (by omega)).cell 2
          simp only [List.getElem?_toArray, List.getElem?_cons_succ, List.getElem?_cons_zero] at s0 s1 s2
          have HDW := (HDC.out _ HC2.out).hid
          have HBr := hide (HBN.out.trans (HC2.out.mono (by omega)))
          have HRr := (HRN.out.below HC2.out hWN).hid
          have hw7 : w.heap.size + 1 < (((w5.setCell ⟨N, 0, none⟩ (.slice b10 x2.n0 r10)).setCell ⟨N, 1, none⟩ (.slice b11 x2.n1 r11)).setCell ⟨N, 2, none⟩ (.slice b12 x2.n2 r12)).heap.size := HRr.out.lt
          clear q1 q2 HST HQE HRUN1 HFX1 HRX1 HFX2 HCP HOw HNX2 HC2 y0 y1 y2
          go_wp2_with fail
          clear s0 s1 s2 k0 k1 k2 kf
          generalize (((w5.setCell ⟨N, 0, none⟩ (.slice b10 x2.n0 r10)).setCell ⟨N, 1, none⟩ (.slice b11 x2.n1 r11)).setCell ⟨N, 2, none⟩ (.slice b12 x2.n2 r12)) = w7 at HDW HBr HRr hw7 ⊢
          refine (spec_l6Copy (.agg #[.slice a0 c.n0 p0, .slice a1 c.n1 p1, .slice a2 c.n2 p2]) c w7 HFT.out HDW.out).mono ?_
          clear HDW
          rintro e w8 ⟨⟨u8, rfl, ho8⟩, hb8⟩
          have hR8 := HRr.out.next hb8
          obtain ⟨v0, v1, v2, rfl, m0, m1, m2, m3⟩ := ho8
          obtain ⟨v0a, v0n, v0p, rfl⟩ := m0.shapeN
          obtain ⟨v1a, v1n, v1p, rfl⟩ := m1.shapeN
          obtain ⟨v2a, v2n, v2p, rfl⟩ := m2.shapeN
          have hMd : DiskMade w8 w7.heap.size (.agg #[.slice v0a v0n v0p, .slice v1a v1n v1p, .slice v2a v2n v2p]) _ _ _ := ⟨_, _, _, rfl, m0, m1, m2, m3⟩
          have HM := (hMd.put3 (F := w.heap.size + 1) (by omega) (.slice v0a v0n v0p) (.slice v1a v1n v1p) (.slice v2a v2n v2p)).hid
          have HL := hide (below_put3 (F := w.heap.size + 1) (HBr.out.trans (hb8.mono HBr.out.size)) (by omega) (.slice v0a v0n v0p) (.slice v1a v1n v1p) (.slice v2a v2n v2p))
          have hbase : w.heap.size ≤ w7.heap.size := by omega
          have t0 := hR8.cell 0
          have t1 := hR8.cell 1
          have t2 := hR8.cell 2
          have tf := hR8.free
          simp only [List.getElem?_toArray, List.getElem?_cons_succ, List.getElem?_cons_zero] at t0 t1 t2
          clear hMd m0 m1 m2 m3 hR8 hb8 HBr HRr
          go_wp2
          refine bodyPost_ret (v := .tuple #[.agg #[.slice v0a v0n v0p, .slice v1a v1n v1p, .slice v2a v2n v2p], .int .i64 q]) (by simp [results, Try.results32, go_sem, t0, t1, t2]) rfl ⟨⟨_, ret_tupI rfl HQ1.out.symm, own_eq (HM.out.base hbase).own HQ2.out⟩, HL.out⟩
      · obtain ⟨q1, q2⟩ := rp_fail HDD.out (show runD c (opsRp c m d) = (q, c) by rw [HRUN0.out, runD_fail (by rw [HQE.out]; exact hq), HQE.out]) hq
        have HQ1 := hide q1
        have HQ2 := hide q2
        have s0 := (HPN.out.below HC1.out (by omega)).cell 0
        have s1 := (HPN.out.below HC1.out (by omega)).cell 1
        have s2 := (HPN.out.below HC1.out (by omega)).cell 2
        simp only [List.getElem?_toArray, List.getElem?_cons_succ, List.getElem?_cons_zero] at s0 s1 s2
        have HDW := (HDC.out _ HC1.out).hid
        have HBr := hide (HBN.out.trans (HC1.out.mono (by omega)))
        have HRr := (HRN.out.below HC1.out hWN).hid
        have hw7 : w.heap.size + 1 < (((w5.setCell ⟨N, 0, none⟩ (.slice b00 x1.n0 r00)).setCell ⟨N, 1, none⟩ (.slice b01 x1.n1 r01)).setCell ⟨N, 2, none⟩ (.slice b02 x1.n2 r02)).heap.size := HRr.out.lt
        clear q1 q2 HST HQE HRUN0 HFX0 HRX0 HFX1 HCP HOw HNX1 HC1 y0 y1 y2
        go_wp2_with fail
        clear s0 s1 s2 k0 k1 k2 kf
        generalize (((w5.setCell ⟨N, 0, none⟩ (.slice b00 x1.n0 r00)).setCell ⟨N, 1, none⟩ (.slice b01 x1.n1 r01)).setCell ⟨N, 2, none⟩ (.slice b02 x1.n2 r02)) = w7 at HDW HBr HRr hw7 ⊢
        refine (spec_l6Copy (.agg #[.slice a0 c.n0 p0, .slice a1 c.n1 p1, .slice a2 c.n2 p2]) c w7 HFT.out HDW.out).mono ?_
        clear HDW
        rintro e w8 ⟨⟨u8, rfl, ho8⟩, hb8⟩
        have hR8 := HRr.out.next hb8
        obtain ⟨v0, v1, v2, rfl, m0, m1, m2, m3⟩ := ho8
        obtain ⟨v0a, v0n, v0p, rfl⟩ := m0.shapeN
        obtain ⟨v1a, v1n, v1p, rfl⟩ := m1.shapeN
        obtain ⟨v2a, v2n, v2p, rfl⟩ := m2.shapeN
        have hMd : DiskMade w8 w7.heap.size (.agg #[.slice v0a v0n v0p, .slice v1a v1n v1p, .slice v2a v2n v2p]) _ _ _ := ⟨_, _, _, rfl, m0, m1, m2, m3⟩
        have HM := (hMd.put3 (F := w.heap.size + 1) (by omega) (.slice v0a v0n v0p) (.slice v1a v1n v1p) (.slice v2a v2n v2p)).hid
        have HL := hide (below_put3 (F := w.heap.size + 1) (HBr.out.trans (hb8.mono HBr.out.size)) (by omega) (.slice v0a v0n v0p) (.slice v1a v1n v1p) (.slice v2a v2n v2p))
        have hbase : w.heap.size ≤ w7.heap.size := by omega
        have t0 := hR8.cell 0
        have t1 := hR8.cell 1
        have t2 := hR8.cell 2
        have tf := hR8.free
        simp only [List.getElem?_toArray, List.getElem?_cons_succ, List.getElem?_cons_zero] at t0 t1 t2
        clear hMd m0 m1 m2 m3 hR8 hb8 HBr HRr
        go_wp2
        refine bodyPost_ret (v := .tuple #[.agg #[.slice v0a v0n v0p, .slice v1a v1n v1p, .slice v2a v2n v2p], .int .i64 q]) (by simp [results, Try.results32, go_sem, t0, t1, t2]) rfl ⟨⟨_, ret_tupI rfl HQ1.out.symm, own_eq (HM.out.base hbase).own HQ2.out⟩, HL.out⟩
end Go.Proofs.Ytejedpmkbkclhaa
