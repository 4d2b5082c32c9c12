/- The folder that is seen on a disk, of the program: seenOn, DiskOk. -/
import Derived.Test.YtejedpmkbkclhaaSeeI
namespace Go.Proofs.Ytejedpmkbkclhaa
set_option maxRecDepth 100000
open Go.RowKit Go.Deep Go.Maps

theorem RowsM.base {w : World} {B B' : Nat} {V : ByteArray → Value} {L : List File1} (h : RowsM w B V L) (hB : B' ≤ B) : RowsM w B' V L := ⟨fun x hx => (h.own x hx).base hB, h.apart⟩
theorem nameB_size {s : ByteArray} (h : nameB s = true) : s.size ≤ 100 := by unfold nameB at h; exact (of_decide_eq_true h).2
theorem form_n {o : DOp1} (h : formB o = true) : o.n.size ≤ 100 := by unfold formB at h; rw [Bool.and_eq_true] at h; exact nameB_size h.1
theorem form_k {o : DOp1} (h : formB o = true) : o.k = 1 ∨ o.k = 2 ∨ o.k = 3 := by
  by_cases h1 : o.k = 1
  · exact .inl h1
  by_cases h2 : o.k = 2
  · exact .inr (.inl h2)
  by_cases h3 : o.k = 3
  · exact .inr (.inr h3)
  rw [show o = ⟨o.k, o.n, o.t, o.d⟩ from rfl, form_none h1 h2 h3] at h; cases h
theorem form_t {o : DOp1} (h : formB o = true) (h2 : o.k = 2) : o.t.size ≤ 100 := by
  have h' := h
  unfold formB at h'
  rw [Bool.and_eq_true, if_neg (by omega), if_pos h2, Bool.and_eq_true] at h'
  exact nameB_size h'.2.1

/-- The folder does what a right op asks for. -/
theorem impl_doC (B f b : Nat) (V : ByteArray → Value) (L : List File1) (o : DOp1) (w : World) (hfo : formB o = true) (hd : o.d.size ≤ 10000000) (hz : sizeF L ≤ 90000000) (hl : L.length ≤ 1000000) (hF : FoldM w f b V L) (hR : RowsM w B V L) (hB : B ≤ w.heap.size) (hBf : B ≤ f) (hBb : B ≤ b) :
    Calls Try.prog 53 #[.pointer (some ⟨f, 0, none⟩), chgV o] w fun e w' => e = .returned (.bool (doB L o)) ∧ (∃ V', FoldM w' f b V' (doF L o) ∧ RowsM w' B V' (doF L o)) ∧ Below B w w' := by
  have hn := form_n hfo
  rcases form_k hfo with h1 | h2 | h3
  · have e1 : chgV o = .iface 122 (.agg #[.string o.n, .string o.d]) := by unfold chgV; rw [if_pos h1]
    have e2 : doB L o = true := by unfold doB; rw [decide_eq_true h1]; rfl
    have e3 : doF L o = putF L o.n ((lkF L o.n).getD ⟨#[]⟩ ++ o.d) := by unfold doF; rw [if_pos h1]
    rw [e1, e2, e3]
    exact impl_do_app B f b V L o.n o.d w (by omega) hd hz hl hF hR hB hBf hBb
  · have e1 : chgV o = .iface 124 (.agg #[.string o.n, .string o.t]) := by unfold chgV; rw [if_neg (by omega), if_pos h2]
    have e2 : doB L o = (lkF L o.n).isSome := by unfold doB; rw [decide_eq_false (by omega)]; rfl
    have e3 : doF L o = renF L o.n o.t := by unfold doF renF; rw [if_neg (by omega)]; cases lkF L o.n <;> simp [h2]
    have ht := form_t hfo h2
    rw [e1, e2, e3]
    exact impl_do_ren B f b V L o.n o.t w (by omega) (by omega) hz hl hF hR hB hBf hBb
  · have e1 : chgV o = .iface 126 (.agg #[.string o.n]) := by unfold chgV; rw [if_neg (by omega), if_neg (by omega)]
    have e2 : doB L o = (lkF L o.n).isSome := by unfold doB; rw [decide_eq_false (by omega)]; rfl
    have e3 : doF L o = cutF L o.n := by
      unfold doF; rw [if_neg (by omega)]
      cases e : lkF L o.n with
      | none => exact (cutF_none e).symm
      | some d => simp [h3]
    rw [e1, e2, e3]
    exact impl_do_rem B f b V L o.n w (by omega) hz hl hF hR hB hBf hBb

def dB (c : DiskC) : Bool := diskB c.r0 c.n0 c.r1 c.n1 c.r2 c.n2
theorem dB_live {c : DiskC} (h : filesB c.r0 c.n0 = false) : dB c = false := by unfold dB diskB; rw [h]; rfl
theorem dB_safe {c : DiskC} (h : filesB c.r1 c.n1 = false) : dB c = false := by unfold dB diskB; rw [h]; simp
theorem dB_many {c : DiskC} (h : ¬ c.n2 ≤ 200) : dB c = false := by unfold dB diskB; rw [decide_eq_false h]; simp
theorem dB_stop {c : DiskC} {k : Nat} (h : (formB (opAt c.r2 k) && doB (seeF (filesL c.r1 c.n1) c.r2 k) (opAt c.r2 k) && fitsB (doF (seeF (filesL c.r1 c.n1) c.r2 k) (opAt c.r2 k))) = false) (hk : k < c.n2) : dB c = false := by unfold dB diskB; rw [seeB_stop h hk]; simp
theorem dB_end {c : DiskC} (h1 : filesB c.r0 c.n0 = true) (h2 : filesB c.r1 c.n1 = true) (h3 : c.n2 ≤ 200) (h4 : seeB (filesL c.r1 c.n1) c.r2 c.n2 = true) : dB c = sameB (seeF (filesL c.r1 c.n1) c.r2 c.n2) (filesL c.r0 c.n0) := by unfold dB diskB; rw [h1, h2, decide_eq_true h3, h4]; rfl
theorem fits_sizes {l : List File1} (h : fitsB l = true) : sizeF l ≤ 200000 ∧ l.length ≤ 60 := by
  unfold fitsB at h
  rw [Bool.and_eq_true, decide_eq_true_eq, decide_eq_true_eq] at h
  exact ⟨h.2, h.1⟩
theorem filesB_fits {O : Files} {n : Nat} (h : filesB O n = true) : fitsB (filesL O n) = true := by
  obtain ⟨_, _, h1, h2⟩ := filesB_ris h
  unfold fitsB
  rw [filesL_len, decide_eq_true h1, decide_eq_true h2]; rfl

set_option linter.unusedVariables false in
set_option linter.unusedSimpArgs false in
set_option maxHeartbeats 8000000 in
theorem impl_seenOn (v : Value) (c : DiskC) (w : World) (hf : c.Fit) (hv : DiskIs w v c) :
    Calls Try.prog 47 #[v] w fun e w' => (∃ p, e = .returned (.tuple #[p, .bool (dB c)]) ∧ (dB c = true → ∃ f b V, p = .pointer (some ⟨f, 0, none⟩) ∧ FoldM w' f b V (filesL c.r0 c.n0) ∧ RowsM w' w.heap.size V (filesL c.r0 c.n0) ∧ w.heap.size ≤ f ∧ w.heap.size ≤ b)) ∧ Below w.heap.size w w' := by
  obtain ⟨a0, p0, a1, p1, a2, p2, rfl, hS0, hS1, hS2⟩ := hv
  obtain ⟨⟨hn0, hn1, hn2⟩, hz0, hz1, hz2⟩ := hf
  have hb0 := below_one w (.cells #[.slice a0 c.n0 p0, .slice a1 c.n1 p1, .slice a2 c.n2 p2] 31)
  have HG := (BoxIs.new w #[.slice a0 c.n0 p0, .slice a1 c.n1 p1, .slice a2 c.n2 p2] 31 rfl).hid
  have HS0 := (hS0.next hb0).hid
  have HS1 := (hS1.next hb0).hid
  have HS2 := (hS2.next hb0).hid
  have HB0 := hide hb0
  have HZ0 := hide hz0
  have HZ1 := hide hz1
  have HZ2 := hide hz2
  have g0 := HG.out.cell 0
  have g1 := HG.out.cell 1
  have g2 := HG.out.cell 2
  simp only [List.getElem?_toArray, List.getElem?_cons_succ, List.getElem?_cons_zero] at g0 g1 g2
  clear hS0 hS1 hS2 hb0 hz0 hz1 hz2
  go_enter Try.func47, Try.ntmps47
  go_wp2_with fail
  clear g0 g1 g2
  generalize w.alloc (.cells #[.slice a0 c.n0 p0, .slice a1 c.n1 p1, .slice a2 c.n2 p2] 31) = W at HG HS0 HS1 HS2 HB0 ⊢
  obtain ⟨G, hG⟩ : ∃ G, w.heap.size = G := ⟨_, rfl⟩
  rw [hG] at HG ⊢
  have hGW := HG.out.lt
  refine (impl_filesOk a0 c.n0 p0 c.r0 W (fun i hi => by have := (HZ0.out i hi).2; omega) hn0 HS0.out).mono ?_
  rintro e w1 ⟨rfl, hb1⟩
  have HC1 := hide hb1
  clear hb1
  have g0 := (HG.out.next HC1.out).cell 0
  have g1 := (HG.out.next HC1.out).cell 1
  have g2 := (HG.out.next HC1.out).cell 2
  simp only [List.getElem?_toArray, List.getElem?_cons_succ, List.getElem?_cons_zero] at g0 g1 g2
  cases hl0 : filesB c.r0 c.n0 with
  | false =>
    have HV := hide (dB_live hl0)
    have HLW := hide (HB0.out.trans (HC1.out.mono HB0.out.size))
    clear hl0 g0 g1 g2
    go_wp2
    go_ret2
    refine ⟨⟨.pointer none, (congrArg (fun q => Ending.returned (Value.tuple #[.pointer none, .bool q])) HV.out).symm, fun h => by rw [HV.out] at h; cases h⟩, ?_⟩
    first | exact HLW.out | (rw [← hG]; exact HLW.out)
  | true =>
    have HL0 := hide hl0
    clear hl0
    go_wp2_with fail
    clear g0 g1 g2
    refine (impl_filesOk a1 c.n1 p1 c.r1 w1 (fun i hi => by have := (HZ1.out i hi).2; omega) hn1 (HS1.out.next HC1.out)).mono ?_
    rintro e w2 ⟨rfl, hb2⟩
    have HC2 := hide (HC1.out.trans (hb2.mono HC1.out.size))
    clear hb2 HC1
    have g0 := (HG.out.next HC2.out).cell 0
    have g1 := (HG.out.next HC2.out).cell 1
    have g2 := (HG.out.next HC2.out).cell 2
    simp only [List.getElem?_toArray, List.getElem?_cons_succ, List.getElem?_cons_zero] at g0 g1 g2
    cases hl1 : filesB c.r1 c.n1 with
    | false =>
      have HV := hide (dB_safe hl1)
      have HLW := hide (HB0.out.trans (HC2.out.mono HB0.out.size))
      clear hl1 g0 g1 g2
      go_wp2
      go_ret2
      refine ⟨⟨.pointer none, (congrArg (fun q => Ending.returned (Value.tuple #[.pointer none, .bool q])) HV.out).symm, fun h => by rw [HV.out] at h; cases h⟩, ?_⟩
      first | exact HLW.out | (rw [← hG]; exact HLW.out)
    | true =>
      have HL1 := hide hl1
      clear hl1
      by_cases h200 : c.n2 ≤ 200
      · have k200 : ¬ (200 : Int) < (c.n2 : Int) := by omega
        obtain ⟨hri, hnm, h60, hsz⟩ := filesB_ris HL1.out
        have HRI := hide hri
        have HNM := hide hnm
        clear hri hnm
        go_wp2_with fail
        clear g0 g1 g2
        refine (impl_folderOf a1 c.n1 p1 c.r1 w2 HRI.out h60 (fun i hi => by have := nameB_size (HNM.out i hi); omega) (fun i hi => by have := (HZ1.out i hi).2; omega) (HS1.out.next HC2.out)).mono ?_
        rintro e w3 ⟨f, b, V0, rfl, hF3, hR3, hBf, hBb, hb3⟩
        have HF0 := hF3.hid
        have HR0 := hR3.hid
        have HC3 := hide hb3
        have hsz2 := HC2.out.size
        have hsz1 := HB0.out.size
        obtain ⟨D, hD⟩ : ∃ D, w2.heap.size = D := ⟨_, rfl⟩
        have HG2 := (HG.out.next HC2.out).hid
        have hGD : G < D := by omega
        have HS0' := (HS0.out.next HC2.out).hid
        have HS2' := (HS2.out.next HC2.out).hid
        have HLO := hide (HB0.out.trans (HC2.out.mono HB0.out.size))
        have g2 := (HG2.out.next HC3.out).cell 2
        simp only [List.getElem?_toArray, List.getElem?_cons_succ, List.getElem?_cons_zero] at g2
        rw [hD] at HR0 HC3 hBf hBb HS0' HS2'
        clear hF3 hR3 hb3 HB0 HC2 HG HS0 HS1 HS2
        have hwD : w.heap.size ≤ D := by omega
        go_wp2
        clear g2
        go_loopw [31] (fun i wr => ∃ (k : Nat) (V : ByteArray → Value), i = .int .i64 k ∧ k ≤ c.n2 ∧ seeB (filesL c.r1 c.n1) c.r2 k = true ∧ Hid (FoldM wr f b V (seeF (filesL c.r1 c.n1) c.r2 k)) ∧ Hid (RowsM wr D V (seeF (filesL c.r1 c.n1) c.r2 k)) ∧ Hid (Below D w2 wr)) (fun i _ => c.n2 - (intOf i).toNat)
        case atStart => exact ⟨0, V0, rfl, by omega, rfl, HF0, HR0, HC3⟩
        case round =>
          obtain ⟨k, V, rfl, hk, hsb, HF, HR, HC⟩ := hrel
          have HSB := hide hsb
          clear HF0 HR0 HC3 hsb
          have hDr : D ≤ wr.heap.size := by have := HC.out.size; omega
          by_cases hlt : k < c.n2
          · have hki : (k : Int) < (c.n2 : Int) := by omega
            obtain ⟨b2, off, rfl, hb2, c0, c1, c2, c3⟩ := ((HS2'.out.below HC.out)).at hlt
            obtain ⟨hs1, hs2⟩ := fits_sizes (fits_see (filesB_fits HL1.out) k HSB.out)
            have hbO := below_one wr (.cells #[.int .i64 (c.r2.K k), .string (c.r2.N k), .string (c.r2.T k), .string (c.r2.D k)] 40)
            have hO := BoxIs.new wr #[.int .i64 (c.r2.K k), .string (c.r2.N k), .string (c.r2.T k), .string (c.r2.D k)] 40 rfl
            have HF1 := (HF.out.next hbO).hid
            have HR1 := (HR.out.next hbO).hid
            have HC1 := hide (HC.out.trans (hbO.mono hDr))
            have o0 := hO.cell 0
            have o1 := hO.cell 1
            have o2 := hO.cell 2
            have o3 := hO.cell 3
            simp only [List.getElem?_toArray, List.getElem?_cons_succ, List.getElem?_cons_zero] at o0 o1 o2 o3
            have hDa : D ≤ (wr.alloc (.cells #[.int .i64 (c.r2.K k), .string (c.r2.N k), .string (c.r2.T k), .string (c.r2.D k)] 40)).heap.size := by simp; omega
            clear hbO hO HF HR HC
            go_wp2_with fail
            generalize wr.alloc (.cells #[.int .i64 (c.r2.K k), .string (c.r2.N k), .string (c.r2.T k), .string (c.r2.D k)] 40) = wa at HF1 HR1 HC1 o0 o1 o2 o3 hDa ⊢
            refine (impl_changeOf (c.r2.K k) (c.r2.N k) (c.r2.T k) (c.r2.D k) wa).mono ?_
            rintro e w4 ⟨⟨cv, rfl, hcv⟩, hb4⟩
            have HF4 := (HF1.out.next hb4).hid
            have HR4 := (HR1.out.next hb4).hid
            have HC4 := hide (HC1.out.trans (hb4.mono hDa))
            have hD4 : D ≤ w4.heap.size := Nat.le_trans hDa hb4.size
            have HCV := hide hcv
            have HST := hide (fun h => dB_stop (c := c) (k := k) h hlt)
            have hop : opAt c.r2 k = ⟨c.r2.K k, c.r2.N k, c.r2.T k, c.r2.D k⟩ := rfl
            clear HF1 HR1 HC1 hb4 o0 o1 o2 o3 c0 c1 c2 c3 hcv
            cases hfo : formB ⟨c.r2.K k, c.r2.N k, c.r2.T k, c.r2.D k⟩ with
            | false =>
              have HV : Hid (dB c = false) := HST.out (by rw [hop, hfo]; rfl)
              have HLW := hide (HLO.out.trans (HC4.out.mono hwD))
              clear hfo
              go_wp2
              go_ret2
              refine ⟨⟨.pointer none, (congrArg (fun q => Ending.returned (Value.tuple #[.pointer none, .bool q])) HV.out).symm, fun h => by rw [HV.out] at h; cases h⟩, ?_⟩
              first | exact HLW.out | (rw [← hG]; exact HLW.out)
            | true =>
              have hcv2 := HCV.out hfo
              subst hcv2
              have HFO := hide hfo
              clear hfo
              go_wp2_with fail
              refine (impl_doC D f b V (seeF (filesL c.r1 c.n1) c.r2 k) ⟨c.r2.K k, c.r2.N k, c.r2.T k, c.r2.D k⟩ w4 HFO.out (by have := (HZ2.out k hlt).2.2; show (c.r2.D k).size ≤ _; omega) (by omega) (by omega) HF4.out HR4.out hD4 hBf hBb).mono ?_
              rintro e w5 ⟨rfl, ⟨V5, hF5, hR5⟩, hb5⟩
              have HF5 := hF5.hid
              have HR5 := hR5.hid
              have HC5 := hide (HC4.out.trans hb5)
              clear hF5 hR5 hb5 HF4 HR4 HC4
              cases hdo : doB (seeF (filesL c.r1 c.n1) c.r2 k) ⟨c.r2.K k, c.r2.N k, c.r2.T k, c.r2.D k⟩ with
              | false =>
                have HV : Hid (dB c = false) := HST.out (by rw [hop, HFO.out, hdo]; rfl)
                have HLW := hide (HLO.out.trans (HC5.out.mono hwD))
                clear hdo
                go_wp2
                go_ret2
                refine ⟨⟨.pointer none, (congrArg (fun q => Ending.returned (Value.tuple #[.pointer none, .bool q])) HV.out).symm, fun h => by rw [HV.out] at h; cases h⟩, ?_⟩
                first | exact HLW.out | (rw [← hG]; exact HLW.out)
              | true =>
                have HDO := hide hdo
                clear hdo
                go_wp2_with fail
                refine (impl_fits f b V5 (doF (seeF (filesL c.r1 c.n1) c.r2 k) ⟨c.r2.K k, c.r2.N k, c.r2.T k, c.r2.D k⟩) w5 HF5.out).mono ?_
                rintro e w6 ⟨rfl, rfl⟩
                cases hfi : fitsB (doF (seeF (filesL c.r1 c.n1) c.r2 k) ⟨c.r2.K k, c.r2.N k, c.r2.T k, c.r2.D k⟩) with
                | false =>
                  have HV : Hid (dB c = false) := HST.out (by rw [hop, HFO.out, HDO.out, hfi]; rfl)
                  have HLW := hide (HLO.out.trans (HC5.out.mono hwD))
                  clear hfi
                  go_wp2
                  go_ret2
                  refine ⟨⟨.pointer none, (congrArg (fun q => Ending.returned (Value.tuple #[.pointer none, .bool q])) HV.out).symm, fun h => by rw [HV.out] at h; cases h⟩, ?_⟩
                  first | exact HLW.out | (rw [← hG]; exact HLW.out)
                | true =>
                  have HSB2 : Hid (seeB (filesL c.r1 c.n1) c.r2 (k + 1) = true) := by show _ = _; rw [seeB, HSB.out, hop, HFO.out, HDO.out, hfi]; rfl
                  have HF6 : Hid (FoldM w6 f b V5 (seeF (filesL c.r1 c.n1) c.r2 (k + 1))) := HF5
                  have HR6 : Hid (RowsM w6 D V5 (seeF (filesL c.r1 c.n1) c.r2 (k + 1))) := HR5
                  clear hfi HF5 HR5
                  go_wp2
                  exact ⟨⟨k + 1, V5, by go_num, by omega, HSB2.out, HF6, HR6, HC5⟩, by simp [intOf]; omega⟩
          · obtain rfl : k = c.n2 := by omega
            have HV := hide (dB_end HL0.out HL1.out h200 HSB.out)
            obtain ⟨hri0, hnm0, _, _⟩ := filesB_ris HL0.out
            have HEQ := hide (sameB_iff (risF_see HRI.out c.r2 c.n2) hri0)
            have HN0 := hide hnm0
            have gq0 := (HG2.out.below HC.out hGD).cell 0
            simp only [List.getElem?_toArray, List.getElem?_cons_succ, List.getElem?_cons_zero] at gq0
            clear hri0 hnm0
            go_wp2_with fail
            refine (impl_is D f b V (seeF (filesL c.r1 c.n1) c.r2 c.n2) a0 c.n0 p0 c.r0 wr hn0 (fun i hi => by have := nameB_size (HN0.out i hi); omega) HF.out HR.out ((HS0'.out.below HC.out).mono hDr)).mono ?_
            rintro e w7 ⟨rfl, hb7⟩
            have HF7 := (HF.out.next hb7).hid
            have HR7 := (HR.out.next hb7).hid
            have HLW := hide (HLO.out.trans ((HC.out.trans (hb7.mono hDr)).mono hwD))
            clear hb7 HF HR HC gq0
            go_wp2
            go_ret2
            refine ⟨⟨.pointer (some ⟨f, 0, none⟩), (congrArg (fun q => Ending.returned (Value.tuple #[.pointer (some ⟨f, 0, none⟩), .bool q])) HV.out).symm, fun h => ?_⟩, ?_⟩
            · have he := HEQ.out.1 (by rw [← HV.out]; exact h)
              rw [he] at HF7 HR7
              refine ⟨f, b, V, rfl, HF7.out, ?_, ?_, ?_⟩
              · exact HR7.out.base (by omega)
              · omega
              · omega
            · first | exact HLW.out | (rw [← hG]; exact HLW.out)
      · have k200 : (200 : Int) < (c.n2 : Int) := by omega
        have HV := hide (dB_many (c := c) h200)
        have HLW := hide (HB0.out.trans (HC2.out.mono HB0.out.size))
        clear h200
        go_wp2
        go_ret2
        refine ⟨⟨.pointer none, (congrArg (fun q => Ending.returned (Value.tuple #[.pointer none, .bool q])) HV.out).symm, fun h => by rw [HV.out] at h; cases h⟩, ?_⟩
        first | exact HLW.out | (rw [← hG]; exact HLW.out)

end Go.Proofs.Ytejedpmkbkclhaa
