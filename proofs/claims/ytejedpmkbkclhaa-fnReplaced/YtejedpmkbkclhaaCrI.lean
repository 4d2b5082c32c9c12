/- Crash of the program. -/
import Derived.Test.YtejedpmkbkclhaaCrP
import Derived.Test.YtejedpmkbkclhaaMgKeysFLst
import Derived.Test.YtejedpmkbkclhaaDskF
import Derived.Test.YtejedpmkbkclhaaDSy
namespace Go.Proofs.Ytejedpmkbkclhaa
set_option maxRecDepth 100000
open Go.RowKit Go.Deep Go.Maps

theorem opAt_dop (O : DOps) (j : Nat) : opAt O j = ⟨O.K j, O.N j, O.T j, O.D j⟩ := rfl
theorem opC_last {O : DOps} {K : Nat → Int} {n k j : Nat} (t : Int) (h : k + 1 = n) (hj : K k = (j : Int)) : opC O K n t k = tornO ⟨O.K j, O.N j, O.T j, O.D j⟩ t := by
  unfold opC; rw [if_pos h, hj]; rfl
theorem opC_else {O : DOps} {K : Nat → Int} {n k j : Nat} (t : Int) (h : ¬ k + 1 = n) (hj : K k = (j : Int)) : opC O K n t k = ⟨O.K j, O.N j, O.T j, O.D j⟩ := by
  unfold opC; rw [if_neg h, hj]; rfl
theorem ret_tupB {a b : Value} {p q : Bool} (h : a = b) (k : p = q) : Ending.returned (.tuple #[a, .bool p]) = .returned (.tuple #[b, .bool q]) := by rw [h, k]

set_option linter.unusedVariables false in
set_option linter.unusedSimpArgs false in
set_option maxHeartbeats 8000000 in
theorem impl_Crash (v : Value) (c : DiskC) (ka : Option Addr) (n kc : Nat) (K : Nat → Int) (t : Int) (w : World) (hf : c.Fit) (ht2 : t ≤ 9223372036854775807) (hv : DiskIs w v c) (hn : n ≤ 1048576) (hK : IntAt w w.heap.size ka n K) :
    Calls Try.prog 27 #[v, .slice ka n kc, .int .i64 t] w fun e w' => (∃ u, e = .returned (.tuple #[u, .bool (crB c K n t)]) ∧ DiskMade w' w.heap.size u (crL c K n t) (crL c K n t) []) ∧ Below w.heap.size w w' := by
  obtain ⟨a0, p0, a1, p1, a2, p2, rfl, hS0, hS1, hS2⟩ := hv
  have hB : Below w.heap.size w ((w.alloc (.cells #[.slice a0 c.n0 p0, .slice a1 c.n1 p1, .slice a2 c.n2 p2] 31)).alloc (.cells #[.slice none 0 0, .slice none 0 0, .slice none 0 0] 31)) := ((Below.refl _ _).alloc (Nat.le_refl _) _).alloc (by simp) _
  have hP := (BoxIs.new w #[.slice a0 c.n0 p0, .slice a1 c.n1 p1, .slice a2 c.n2 p2] 31 rfl).next (below_one _ (.cells #[.slice none 0 0, .slice none 0 0, .slice none 0 0] 31))
  have hR := BoxIs.new (w.alloc (.cells #[.slice a0 c.n0 p0, .slice a1 c.n1 p1, .slice a2 c.n2 p2] 31)) #[.slice none 0 0, .slice none 0 0, .slice none 0 0] 31 (g := w.heap.size + 1) (by simp)
  have hD : DiskIs ((w.alloc (.cells #[.slice a0 c.n0 p0, .slice a1 c.n1 p1, .slice a2 c.n2 p2] 31)).alloc (.cells #[.slice none 0 0, .slice none 0 0, .slice none 0 0] 31)) (.agg #[.slice a0 c.n0 p0, .slice a1 c.n1 p1, .slice a2 c.n2 p2]) c := DiskIs.at_old ⟨a0, p0, a1, p1, a2, p2, rfl, hS0, hS1, hS2⟩ hB
  have hKW := (hK.below hB).mono hB.size
  have g0 := hP.cell 0
  have g1 := hP.cell 1
  have g2 := hP.cell 2
  simp only [List.getElem?_toArray, List.getElem?_cons_succ, List.getElem?_cons_zero] at g0 g1 g2
  have hS1W := (hS1.below hB).mono hB.size
  have hS2W := (hS2.below hB).mono hB.size
  have HB := hide hB
  have HP := hP.hid
  have HR := hR.hid
  have HD := hD.hid
  have HKW : Hid _ := hide hKW
  have HS1 := hS1W.hid
  have HS2 := hS2W.hid
  obtain ⟨⟨hn0, hn1, hn2⟩, hz0, hz1, hz2⟩ := id hf
  have HZ1 := hide hz1
  have HZ2 := hide hz2
  clear hS0 hS1 hS2 hS1W hS2W hB hP hR hD hz0 hz1 hz2 hK hKW
  go_enter Try.func27, Try.ntmps27
  go_wp2_with fail
  clear g0 g1 g2
  generalize (w.alloc (.cells #[.slice a0 c.n0 p0, .slice a1 c.n1 p1, .slice a2 c.n2 p2] 31)).alloc (.cells #[.slice none 0 0, .slice none 0 0, .slice none 0 0] 31) = W at HB HP HR HD HKW HS1 HS2 ⊢
  have hFW := HR.out.lt
  refine (impl_DiskOk _ c W hf HD.out).mono ?_
  rintro e w1 ⟨rfl, hb1⟩
  have HB1 := hide (HB.out.trans (hb1.mono HB.out.size))
  have HP1 := (HP.out.next hb1).hid
  have HR1 := (HR.out.next hb1).hid
  have HK1 := hide ((HKW.out.below hb1).mono hb1.size)
  have HS11 := ((HS1.out.below hb1).mono hb1.size).hid
  have HS21 := ((HS2.out.below hb1).mono hb1.size).hid
  have hW1 := hb1.size
  clear hb1 HB HP HR HD HKW HS1 HS2
  cases hd : dB c with
  | false =>
    obtain ⟨q1, q2⟩ := crB_disk hd K n t
    have HQ1 := hide q1
    have HQ2 := hide q2
    have r0 := HR1.out.cell 0
    have r1 := HR1.out.cell 1
    have r2 := HR1.out.cell 2
    have rf := HR1.out.free
    simp only [List.getElem?_toArray, List.getElem?_cons_succ, List.getElem?_cons_zero] at r0 r1 r2
    have HL := hide (below_put3 (F := w.heap.size + 1) HB1.out (Nat.le_succ _) (.slice none 0 0) (.slice none 0 0) (.slice none 0 0))
    clear hd q1 q2 HB1 HR1 HP1 HK1 HS11 HS21
    go_wp2
    refine bodyPost_ret (v := .tuple #[.agg #[.slice none 0 0, .slice none 0 0, .slice none 0 0], .bool false]) (by simp [results, Try.results27, go_sem, r0, r1, r2]) rfl ⟨⟨_, ret_tupB rfl HQ1.out.symm, ?_⟩, HL.out⟩
    rw [HQ2.out]; exact made_nil _ _
  | true =>
    have HDD := hide hd
    obtain ⟨_, hl1, h200⟩ := dB_parts hd
    have HL1 := hide hl1
    have HSE := hide (dB_see hd)
    have p2 := HP1.out.cell 2
    simp only [List.getElem?_toArray, List.getElem?_cons_succ, List.getElem?_cons_zero] at p2
    clear hd hl1
    go_wp2_with fail
    clear p2
    refine (impl_risesToM ((c.n2 : Int) - 1) ka n kc K w1 hn HK1.out).mono ?_
    rintro e w2 ⟨rfl, hb2⟩
    have HB2 := hide (HB1.out.trans (hb2.mono HB1.out.size))
    have HP2 := (HP1.out.next hb2).hid
    have HR2 := (HR1.out.next hb2).hid
    have HK2 := hide ((HK1.out.below hb2).mono hb2.size)
    have HS12 := ((HS11.out.below hb2).mono hb2.size).hid
    have HS22 := ((HS21.out.below hb2).mono hb2.size).hid
    have hW2 := hb2.size
    clear hb2 HB1 HP1 HR1 HK1 HS11 HS21
    cases hu : upsB ((c.n2 : Int) - 1) K n with
    | false =>
      obtain ⟨q1, q2⟩ := crB_ups hu t
      have HQ1 := hide q1
      have HQ2 := hide q2
      have r0 := HR2.out.cell 0
      have r1 := HR2.out.cell 1
      have r2 := HR2.out.cell 2
      have rf := HR2.out.free
      simp only [List.getElem?_toArray, List.getElem?_cons_succ, List.getElem?_cons_zero] at r0 r1 r2
      have HL := hide (below_put3 (F := w.heap.size + 1) HB2.out (Nat.le_succ _) (.slice none 0 0) (.slice none 0 0) (.slice none 0 0))
      clear q1 q2 hu HB2 HR2 HP2 HK2 HS12 HS22 HL1
      go_wp2
      refine bodyPost_ret (v := .tuple #[.agg #[.slice none 0 0, .slice none 0 0, .slice none 0 0], .bool false]) (by simp [results, Try.results27, go_sem, r0, r1, r2]) rfl ⟨⟨_, ret_tupB rfl HQ1.out.symm, ?_⟩, HL.out⟩
      rw [HQ2.out]; exact made_nil _ _
    | true =>
      by_cases ht : 0 ≤ t
      · have ht0 : ¬ t < 0 := by omega
        have hnl := ups_len hu (by omega)
        have HU := hide hu
        obtain ⟨hri, hnm, h60, hsz⟩ := filesB_ris HL1.out
        have HRI := hide hri
        have HNM := hide hnm
        have hCR := CrF.start HL1.out
        have p1 := HP2.out.cell 1
        simp only [List.getElem?_toArray, List.getElem?_cons_succ, List.getElem?_cons_zero] at p1
        clear hu hri hnm
        go_wp2_with fail
        clear p1
        refine (impl_folderOf a1 c.n1 p1 c.r1 w2 HRI.out h60 (fun i hi => by have := nameB_size (HNM.out i hi); omega) (fun i hi => by have := (HZ1.out i hi).2; omega) HS12.out).mono ?_
        rintro e w3 ⟨f, b, V0, rfl, hF3, hR3, hBf, hBb, hb3⟩
        have HF0 := hF3.hid
        have HR0 := hR3.hid
        have HC0 := hide hb3
        have hCS := HS22.out
        have HK3 : Hid (IntAt w2 w2.heap.size ka n K) := HK2
        have hsB := HB2.out.size
        obtain ⟨D, hD⟩ : ∃ D, w2.heap.size = D := ⟨_, rfl⟩
        have hFD : w.heap.size + 1 < D := by have := HR2.out.lt; omega
        rw [hD] at HR0 HC0 hBf hBb hCS HK3
        have HS2D := hCS.hid
        have HCR0 : Hid (CrF (crS (filesL c.r1 c.n1) c.r2 K n t 0) 0) := hCR
        clear hF3 hR3 hb3 hCS hCR HS22 HK2
        go_wp2
        go_loopw [35] (fun i wr => ∃ (k : Nat) (V : ByteArray → Value), i = .int .i64 k ∧ k ≤ n ∧ Hid (CrF (crS (filesL c.r1 c.n1) c.r2 K n t k) k) ∧ Hid (FoldM wr f b V (crS (filesL c.r1 c.n1) c.r2 K n t k)) ∧ Hid (RowsM wr D V (crS (filesL c.r1 c.n1) c.r2 K n t k)) ∧ Hid (Below D w2 wr)) (fun i _ => n - (intOf i).toNat)
        case atStart => exact ⟨0, V0, rfl, by omega, HCR0, HF0, HR0, HC0⟩
        case round =>
          obtain ⟨k, V, rfl, hk, HCR, HF, HRo, HC⟩ := hrel
          clear HCR0 HF0 HR0 HC0
          have hDr : D ≤ wr.heap.size := by have := HC.out.size; omega
          by_cases hlt : k < n
          · have hki : (k : Int) < (n : Int) := by omega
            obtain ⟨kb, ko, rfl, hkb, kc0⟩ := (HK3.out.below HC.out).at hlt
            obtain ⟨hk0, hk1⟩ := ups_at HU.out hlt
            obtain ⟨j, hj⟩ : ∃ j : Nat, K k = (j : Int) := ⟨(K k).toNat, by omega⟩
            rw [hj] at kc0 hk0 hk1
            have hjl : j < c.n2 := by omega
            have hji : (j : Int) < (c.n2 : Int) := by omega
            obtain ⟨b2, off, rfl, hb2, c0, c1, c2, c3⟩ := (HS2D.out.below HC.out).at hjl
            have g2 := (HP2.out.below HC.out (by omega)).cell 2
            simp only [List.getElem?_toArray, List.getElem?_cons_succ, List.getElem?_cons_zero] at g2
            have HJ := hide hj
            clear hj hk1
            go_wp2_with fail
            clear g2 kc0 c0 c1 c2 c3
            refine (impl_changeOf (c.r2.K j) (c.r2.N j) (c.r2.T j) (c.r2.D j) wr).mono ?_
            rintro e w4 ⟨⟨cv, rfl, hcv⟩, hb4⟩
            have hfo := (see_at HSE.out hjl).1
            have hdz := see_data HSE.out hjl
            rw [opAt_dop] at hfo hdz
            have hcv2 := hcv hfo
            rw [hfo]
            subst hcv2
            have hOK := opC_ok HSE.out (K := K) (n := n) t (k := k) (by rw [HJ.out]; exact hk0) (by rw [HJ.out]; exact hji)
            have HCRn := hide (HCR.out.step hOK.1 hOK.2)
            have hsz1 := HCR.out.sz
            have hsz2 := HCR.out.len
            have hkf := form_k hfo
            have HF4 := (HF.out.next hb4).hid
            have HR4 := (HRo.out.next hb4).hid
            have HC4 := hide (HC.out.trans (hb4.mono hDr))
            have hD4 : D ≤ w4.heap.size := Nat.le_trans hDr hb4.size
            have HFO := hide hfo
            have hdz2 : (c.r2.D j).size ≤ 200000 := hdz
            have HKF := hide hkf
            have HOK := hide hOK
            clear hb4 hcv hfo hdz HF HRo HC HCR hkf hOK
            by_cases hla : k + 1 = n
            · have hla1 : (k : Int) = (n : Int) - 1 := by omega
              have HE := hide (opC_last (O := c.r2) (K := K) (n := n) (k := k) (j := j) t hla HJ.out)
              have HOK1 := HOK.out
              rw [HE.out] at HOK1
              have hOf := HOK1.1
              have hOd := HOK1.2
              have HOF := hide hOf
              clear HOK1 hOf
              go_wp2_with fail
              refine (impl_tornAt ⟨c.r2.K j, c.r2.N j, c.r2.T j, c.r2.D j⟩ t w4 HKF.out ht ht2 (by show (c.r2.D j).size ≤ _; omega)).mono ?_
              rintro e w5 ⟨rfl, hb5⟩
              have HF5 := (HF4.out.next hb5).hid
              have HR5 := (HR4.out.next hb5).hid
              have HC5 := hide (HC4.out.trans (hb5.mono hD4))
              have hD5 : D ≤ w5.heap.size := Nat.le_trans hD4 hb5.size
              clear hb5 HF4 HR4 HC4
              go_wp2_with fail
              refine (impl_doC D f b V (crS (filesL c.r1 c.n1) c.r2 K n t k) (tornO ⟨c.r2.K j, c.r2.N j, c.r2.T j, c.r2.D j⟩ t) w5 HOF.out (by omega) (by omega) (by omega) HF5.out HR5.out hD5 hBf hBb).mono ?_
              rintro e w6 ⟨rfl, ⟨V6, hF6, hR6⟩, hb6⟩
              have HF6 : Hid (FoldM w6 f b V6 (crS (filesL c.r1 c.n1) c.r2 K n t (k + 1))) := by show FoldM _ _ _ _ _; rw [crS, HE.out]; exact hF6
              have HR6 : Hid (RowsM w6 D V6 (crS (filesL c.r1 c.n1) c.r2 K n t (k + 1))) := by show RowsM _ _ _ _; rw [crS, HE.out]; exact hR6
              have HC6 := hide (HC5.out.trans hb6)
              clear hF6 hR6 hb6 HF5 HR5 HC5 hsz1 hsz2 hOd
              go_wp2
              exact ⟨⟨k + 1, V6, by go_num, by omega, HCRn, HF6, HR6, HC6⟩, by simp [intOf]; omega⟩
            · have hla1 : ¬ (k : Int) = (n : Int) - 1 := by omega
              have HE := hide (opC_else (O := c.r2) (K := K) (n := n) (k := k) (j := j) t hla HJ.out)
              go_wp2_with fail
              refine (impl_doC D f b V (crS (filesL c.r1 c.n1) c.r2 K n t k) ⟨c.r2.K j, c.r2.N j, c.r2.T j, c.r2.D j⟩ w4 HFO.out (by show (c.r2.D j).size ≤ _; omega) (by omega) (by omega) HF4.out HR4.out hD4 hBf hBb).mono ?_
              rintro e w6 ⟨rfl, ⟨V6, hF6, hR6⟩, hb6⟩
              have HF6 : Hid (FoldM w6 f b V6 (crS (filesL c.r1 c.n1) c.r2 K n t (k + 1))) := by show FoldM _ _ _ _ _; rw [crS, HE.out]; exact hF6
              have HR6 : Hid (RowsM w6 D V6 (crS (filesL c.r1 c.n1) c.r2 K n t (k + 1))) := by show RowsM _ _ _ _; rw [crS, HE.out]; exact hR6
              have HC6 := hide (HC4.out.trans hb6)
              clear hF6 hR6 hb6 HF4 HR4 HC4 hsz1 hsz2
              go_wp2
              exact ⟨⟨k + 1, V6, by go_num, by omega, HCRn, HF6, HR6, HC6⟩, by simp [intOf]; omega⟩
          · obtain rfl : k = n := by omega
            go_wp2_with fail
            refine (impl_fits f b V (crS (filesL c.r1 c.n1) c.r2 K k t k) wr HF.out).mono ?_
            rintro e w5 ⟨rfl, rfl⟩
            have HB5 := hide (HB2.out.trans (HC.out.mono (by omega)))
            have HR5 := (HR2.out.below HC.out hFD).hid
            cases hfi : fitsB (crS (filesL c.r1 c.n1) c.r2 K k t k) with
            | false =>
              obtain ⟨q1, q2⟩ := crB_full hfi
              have HQ1 := hide q1
              have HQ2 := hide q2
              have r0 := HR5.out.cell 0
              have r1 := HR5.out.cell 1
              have r2 := HR5.out.cell 2
              have rf := HR5.out.free
              simp only [List.getElem?_toArray, List.getElem?_cons_succ, List.getElem?_cons_zero] at r0 r1 r2
              have HL := hide (below_put3 (F := w.heap.size + 1) HB5.out (Nat.le_succ _) (.slice none 0 0) (.slice none 0 0) (.slice none 0 0))
              clear q1 q2 hfi HB5 HR5 HF HRo HC
              go_wp2
              refine bodyPost_ret (v := .tuple #[.agg #[.slice none 0 0, .slice none 0 0, .slice none 0 0], .bool false]) (by simp [results, Try.results27, go_sem, r0, r1, r2]) rfl ⟨⟨_, ret_tupB rfl HQ1.out.symm, ?_⟩, HL.out⟩
              rw [HQ2.out]; exact made_nil _ _
            | true =>
              obtain ⟨q1, q2⟩ := crB_yes HDD.out HU.out ht hfi
              have HQ1 := hide q1
              have HQ2 := hide q2
              have hlen := HCR.out.len
              have HNN := hide (fun x hx => (nameB_size (HCR.out.nm x hx) : x.n.size ≤ 100))
              clear hfi q1 q2
              go_wp2_with fail
              refine (impl_list D f b V (crS (filesL c.r1 c.n1) c.r2 K k t k) w5 (by omega) (fun x hx => by have := HNN.out x hx; omega) HF.out HRo.out).mono ?_
              rintro e w6 ⟨⟨v0, rfl, ho0⟩, hb6⟩
              have HO0 := ho0.hid
              have HB6 := hide (HB5.out.trans (hb6.mono HB5.out.size))
              have HR6 := (HR5.out.next hb6).hid
              have HF6 := (HF.out.next hb6).hid
              have HRo6 := (HRo.out.next hb6).hid
              have hw6 := hb6.size
              clear ho0 hb6 HB5 HR5 HF HRo
              go_wp2_with fail
              refine (impl_list D f b V (crS (filesL c.r1 c.n1) c.r2 K k t k) w6 (by omega) (fun x hx => by have := HNN.out x hx; omega) HF6.out HRo6.out).mono ?_
              rintro e w7 ⟨⟨v1, rfl, ho1⟩, hb7⟩
              have HAP := hide (apart_later HO0.out ho1)
              have hM : DiskMade w7 w5.heap.size (.agg #[v0, v1, .slice none 0 0]) (crS (filesL c.r1 c.n1) c.r2 K k t k) (crS (filesL c.r1 c.n1) c.r2 K k t k) [] := ⟨_, _, _, rfl, HO0.out.next hb7, ho1.base hw6, OwnDOp.nil _ _, .inr HAP.out⟩
              obtain ⟨xa, xn, xp, rfl⟩ := HO0.out.shapeN
              obtain ⟨ya, yn, yp, rfl⟩ := ho1.shapeN
              have r0 := (HR6.out.next hb7).cell 0
              have r1 := (HR6.out.next hb7).cell 1
              have r2 := (HR6.out.next hb7).cell 2
              have rf := (HR6.out.next hb7).free
              simp only [List.getElem?_toArray, List.getElem?_cons_succ, List.getElem?_cons_zero] at r0 r1 r2
              have HM := (hM.put3 (F := w.heap.size + 1) (by omega) (.slice xa xn xp) (.slice ya yn yp) (.slice none 0 0)).hid
              have HL := hide (below_put3 (F := w.heap.size + 1) (HB6.out.trans (hb7.mono HB6.out.size)) (Nat.le_succ _) (.slice xa xn xp) (.slice ya yn yp) (.slice none 0 0))
              have hbase : w.heap.size ≤ w5.heap.size := by omega
              clear ho1 hb7 hM HO0 HB6 HR6 HF6 HRo6 HAP HC
              go_wp2
              refine bodyPost_ret (v := .tuple #[.agg #[.slice xa xn xp, .slice ya yn yp, .slice none 0 0], .bool true]) (by simp [results, Try.results27, go_sem, r0, r1, r2]) rfl ⟨⟨_, ret_tupB rfl HQ1.out.symm, ?_⟩, HL.out⟩
              rw [HQ2.out]; exact HM.out.base hbase
      · obtain ⟨q1, q2⟩ := crB_torn c K n ht
        have ht0 : t < 0 := by omega
        have HQ1 := hide q1
        have HQ2 := hide q2
        have r0 := HR2.out.cell 0
        have r1 := HR2.out.cell 1
        have r2 := HR2.out.cell 2
        have rf := HR2.out.free
        simp only [List.getElem?_toArray, List.getElem?_cons_succ, List.getElem?_cons_zero] at r0 r1 r2
        have HL := hide (below_put3 (F := w.heap.size + 1) HB2.out (Nat.le_succ _) (.slice none 0 0) (.slice none 0 0) (.slice none 0 0))
        clear q1 q2 hu HB2 HR2 HP2 HK2 HS12 HS22 HL1
        go_wp2
        refine bodyPost_ret (v := .tuple #[.agg #[.slice none 0 0, .slice none 0 0, .slice none 0 0], .bool false]) (by simp [results, Try.results27, go_sem, r0, r1, r2]) rfl ⟨⟨_, ret_tupB rfl HQ1.out.symm, ?_⟩, HL.out⟩
        rw [HQ2.out]; exact made_nil _ _

end Go.Proofs.Ytejedpmkbkclhaa
