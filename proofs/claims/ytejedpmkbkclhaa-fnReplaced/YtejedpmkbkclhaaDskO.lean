/- Whether a disk is right, and a file of it, of the model. -/
import Derived.Test.YtejedpmkbkclhaaDskS
namespace Go.Proofs.Ytejedpmkbkclhaa
set_option maxRecDepth 100000
open Go.RowKit Go.Deep

theorem eql_files (x0 x1 y0 y1 : ByteArray) : ∃ q : Bool, (∀ x : World, (binOp .neq 96 (.agg #[.string x0, .string x1]) (.agg #[.string y0, .string y1])).run Try.prog x = .ok (.bool (!q)) x) ∧ (q = true ↔ x0 = y0 ∧ x1 = y1) := by
  have hS : Try.prog.underlying 96 = some (.struct (Try.prog.fieldsOf 96)) := by kernel_rfl
  have hp : Try.prog.stoodInHeld 96 = false := by kernel_rfl
  have h1 : ∀ x : World, (Op.equalIn 10000 96 (.agg #[.string x0, .string x1]) (.agg #[.string y0, .string y1])).run Try.prog x = .ok (decide (x0.toList = y0.toList) && decide (x1.toList = y1.toList)) x := fun x => by
    rw [show (10000 : Nat) = 9999 + 1 from rfl, run_equalIn_agg x 9999 96 _ _ hS hp]
    simp only [Program.fieldsOf, Try.underlying96]
    go_simp
    by_cases a1 : x0.toList = y0.toList <;> by_cases a2 : x1.toList = y1.toList <;> simp [a1, a2]
  refine ⟨decide (x0.toList = y0.toList) && decide (x1.toList = y1.toList), fun x => ?_, ?_⟩
  · rw [run_neq_struct, h1 x]
    rfl
  · rw [Bool.and_eq_true, decide_eq_true_eq, decide_eq_true_eq]
    exact ⟨fun h => ⟨toListF_inj h.1, toListF_inj h.2⟩, fun h => ⟨by rw [h.1], by rw [h.2]⟩⟩

set_option linter.unusedVariables false in
set_option linter.unusedSimpArgs false in
set_option maxHeartbeats 4000000 in
theorem spec_l6Same (a : Option Addr) (n ca : Nat) (O : Files) (a2 : Option Addr) (m cb : Nat) (Q : Files) (w : World) (hn : n ≤ 1048576) (hm : m ≤ 1048576) (hA : FileAt w w.heap.size a n O) (hB : FileAt w w.heap.size a2 m Q) :
    Calls Try.prog 44 #[.slice a n ca, .slice a2 m cb] w fun e w' => (∃ q : Bool, e = .returned (.bool q) ∧ (q = true ↔ filesL O n = filesL Q m)) ∧ Below w.heap.size w w' := by
  have HA := hA.hid
  have HQ := hB.hid
  have HB0 : Hid (Below w.heap.size w w) := Below.refl _ _
  clear hA hB
  by_cases hnm : n = m
  · subst hnm
    go_enter Try.func44, Try.ntmps44
    go_wp2
    go_loopw [5] (fun i wr => ∃ k : Nat, i = .int .i64 k ∧ k ≤ n ∧ Hid (filesL O k = filesL Q k) ∧ Hid (Below w.heap.size w wr)) (fun i _ => n - (intOf i).toNat)
    case atStart => exact ⟨0, rfl, by omega, (rfl : filesL O 0 = filesL Q 0), HB0⟩
    case round =>
      obtain ⟨k, rfl, hk, HE, HB⟩ := hrel
      clear HB0
      by_cases hlt : k < n
      · have hki : (k : Int) < (n : Int) := by omega
        obtain ⟨b1, o1, rfl, hb1, c0, c1⟩ := (HA.out.next HB.out).at hlt
        obtain ⟨b2, o2, rfl, hb2, d0, d1⟩ := (HQ.out.next HB.out).at hlt
        obtain ⟨q, hq, hqi⟩ := eql_files (O.N k) (O.D k) (Q.N k) (Q.D k)
        have HQI := hide hqi
        clear hqi
        cases q with
        | true =>
          have HE2 : Hid (filesL O (k + 1) = filesL Q (k + 1)) := by
            show _ = _
            obtain ⟨e1, e2⟩ := HQI.out.1 rfl
            rw [filesL_succ, filesL_succ, HE.out]; unfold fileAt1; rw [e1, e2]
          go_wp2
          go_quiet (fail)
          go_wp2
          exact ⟨⟨k + 1, by go_num, by omega, HE2, below_drewN HB.out _⟩, by simp [intOf]; omega⟩
        | false =>
          have HNE : Hid (¬ filesL O n = filesL Q n) := fun e => by
            have e1 : (filesL O n)[k]? = (filesL Q n)[k]? := by rw [e]
            simp only [filesL, List.getElem?_map, List.getElem?_range hlt, Option.map_some, Option.some.injEq] at e1
            have := HQI.out.2 ⟨congrArg File1.n e1, congrArg File1.d e1⟩
            cases this
          go_wp2
          go_quiet (fail)
          go_wp2
          go_ret
          exact ⟨⟨false, rfl, ⟨fun h => (by cases h), fun h => absurd h HNE.out⟩⟩, below_drewN HB.out _⟩
      · obtain rfl : k = n := by omega
        go_wp2
        go_ret
        exact ⟨⟨true, rfl, ⟨fun _ => HE.out, fun _ => rfl⟩⟩, HB.out⟩
  · have hne : ¬ (n : Int) = (m : Int) := by omega
    have HNE : Hid (¬ filesL O n = filesL Q m) := fun e => by
      have := congrArg List.length e
      rw [filesL_len, filesL_len] at this
      exact hnm this
    clear hnm
    go_enter Try.func44, Try.ntmps44
    go_wp2
    go_ret
    exact ⟨⟨false, rfl, ⟨fun h => (by cases h), fun h => absurd h HNE.out⟩⟩, HB0.out⟩

theorem sizeF_mem {l : List File1} {f : File1} (h : f ∈ l) : f.d.size ≤ sizeF l := by
  induction l with
  | nil => cases h
  | cons g l ih =>
    rw [sizeF]
    rcases List.mem_cons.1 h with rfl | h
    · omega
    · have := ih h; omega
theorem sizeF_at {O : Files} {n i : Nat} (h : i < n) : (O.D i).size ≤ sizeF (filesL O n) := sizeF_mem (f := fileAt1 O i) (List.mem_map.2 ⟨i, List.mem_range.2 h, rfl⟩)
theorem sizeF_cut_le {L : List File1} (hr : RisF L) (n : ByteArray) : sizeF (cutF L n) ≤ sizeF L := by have := sizeF_cut hr n; omega
theorem sizeF_do {L : List File1} (hr : RisF L) (o : DOp1) : sizeF (doF L o) ≤ sizeF L + o.d.size := by
  unfold doF
  split
  · rw [sizeF_put, ByteArray.size_append]
    have := sizeF_cut hr o.n
    omega
  · split
    · omega
    · rename_i d hd
      have h1 := sizeF_cut hr o.n
      rw [hd] at h1
      split
      · rw [sizeF_put]
        have h2 := sizeF_cut_le (risF_cut hr o.n) o.t
        have h3 : ((some d).getD ⟨#[]⟩).size = d.size := rfl
        omega
      · omega
theorem do_len (L : List File1) (o : DOp1) : (doF L o).length ≤ L.length + 1 := by
  unfold doF
  split
  · exact putF_len_le _ _ _
  · split
    · omega
    · split
      · have h1 := putF_len_le (cutF L o.n) o.t ‹_›
        have h2 := cutF_length L o.n
        omega
      · have h2 := cutF_length L o.n
        omega

set_option linter.unusedVariables false in
set_option linter.unusedSimpArgs false in
set_option maxHeartbeats 8000000 in
theorem spec_DiskOk (v : Value) (c : DiskC) (w : World) (hf : c.Fit) (hv : DiskIs w v c) :
    Calls Try.prog 13 #[v] w fun e w' => e = .returned (.bool (dB c)) ∧ Below w.heap.size w w' := by
  obtain ⟨a0, p0, a1, p1, a2, p2, rfl, hS0, hS1, hS2⟩ := hv
  obtain ⟨⟨hn0, hn1, hn2⟩, hz0, hz1, hz2⟩ := hf
  have hb0 := below_one w (.cells #[.slice a0 c.n0 p0, .slice a1 c.n1 p1, .slice a2 c.n2 p2] 31)
  have HG := (BoxIs.new w #[.slice a0 c.n0 p0, .slice a1 c.n1 p1, .slice a2 c.n2 p2] 31 rfl).hid
  have HS0 := (hS0.next hb0).hid
  have HS1 := (hS1.next hb0).hid
  have HS2 := (hS2.next hb0).hid
  have HB0 := hide hb0
  have HZ0 := hide hz0
  have HZ1 := hide hz1
  have HZ2 := hide hz2
  have g0 := HG.out.cell 0
  simp only [List.getElem?_toArray, List.getElem?_cons_succ, List.getElem?_cons_zero] at g0
  clear hS0 hS1 hS2 hb0 hz0 hz1 hz2
  go_enter Try.func13, Try.ntmps13
  go_wp2_with fail
  clear g0
  generalize w.alloc (.cells #[.slice a0 c.n0 p0, .slice a1 c.n1 p1, .slice a2 c.n2 p2] 31) = W at HG HS0 HS1 HS2 HB0 ⊢
  obtain ⟨G, hG⟩ : ∃ G, w.heap.size = G := ⟨_, rfl⟩
  rw [hG] at HG ⊢
  have hGW := HG.out.lt
  refine (spec_l6Files a0 c.n0 p0 c.r0 W (fun i hi => by have := (HZ0.out i hi).2; omega) hn0 HS0.out).mono ?_
  rintro e w1 ⟨rfl, hb1⟩
  have HC1 := hide hb1
  clear hb1
  have g0 := (HG.out.next HC1.out).cell 0
  have g1 := (HG.out.next HC1.out).cell 1
  have g2 := (HG.out.next HC1.out).cell 2
  simp only [List.getElem?_toArray, List.getElem?_cons_succ, List.getElem?_cons_zero] at g0 g1 g2
  cases hl0 : filesB c.r0 c.n0 with
  | false =>
    have HV := hide (dB_live hl0)
    have HLW := hide (HB0.out.trans (HC1.out.mono HB0.out.size))
    clear hl0 g0 g1 g2
    go_wp2
    go_ret
    exact ⟨(congrArg (fun q => Ending.returned (Value.bool q)) HV.out).symm, by first | exact HLW.out | (rw [← hG]; exact HLW.out)⟩
  | true =>
    have HL0 := hide hl0
    clear hl0
    go_wp2_with fail
    clear g0 g1 g2
    refine (spec_l6Files a1 c.n1 p1 c.r1 w1 (fun i hi => by have := (HZ1.out i hi).2; omega) hn1 (HS1.out.next HC1.out)).mono ?_
    rintro e w2 ⟨rfl, hb2⟩
    have HC2 := hide (HC1.out.trans (hb2.mono HC1.out.size))
    clear hb2 HC1
    have g0 := (HG.out.next HC2.out).cell 0
    have g1 := (HG.out.next HC2.out).cell 1
    have g2 := (HG.out.next HC2.out).cell 2
    simp only [List.getElem?_toArray, List.getElem?_cons_succ, List.getElem?_cons_zero] at g0 g1 g2
    cases hl1 : filesB c.r1 c.n1 with
    | false =>
      have HV := hide (dB_safe hl1)
      have HLW := hide (HB0.out.trans (HC2.out.mono HB0.out.size))
      clear hl1 g0 g1 g2
      go_wp2
      go_ret
      exact ⟨(congrArg (fun q => Ending.returned (Value.bool q)) HV.out).symm, by first | exact HLW.out | (rw [← hG]; exact HLW.out)⟩
    | true =>
      have HL1 := hide hl1
      clear hl1
      by_cases h200 : c.n2 ≤ 200
      · have k200 : ¬ (200 : Int) < (c.n2 : Int) := by omega
        obtain ⟨hri, hnm, h60, hsz⟩ := filesB_ris HL1.out
        have HRI := hide hri
        have HNM := hide (fun f (hf : f ∈ filesL c.r1 c.n1) => (by obtain ⟨i, hi, rfl⟩ := List.mem_map.1 hf; exact hnm i (List.mem_range.1 hi) : nameB f.n = true))
        have HLO := hide (HB0.out.trans (HC2.out.mono HB0.out.size))
        have HA0 := (HS1.out.next HC2.out).hid
        have HBW : Hid (Below w2.heap.size w2 w2) := Below.refl _ _
        have HS0' := (HS0.out.next HC2.out).hid
        have HS2' := (HS2.out.next HC2.out).hid
        have HG2 := (HG.out.next HC2.out).hid
        have hGs := HG2.out.lt
        clear hri hnm HB0 HC2 HG HS0 HS1 HS2
        go_wp2
        clear g0 g1 g2
        go_loopw [3, 4] (fun vn i wr => ∃ (k : Nat) (va : Option Addr) (m vp : Nat) (Q : Files), vn = .slice va m vp ∧ i = .int .i64 k ∧ k ≤ c.n2 ∧ seeB (filesL c.r1 c.n1) c.r2 k = true ∧ Hid (FileAt wr wr.heap.size va m Q) ∧ Hid (filesL Q m = seeF (filesL c.r1 c.n1) c.r2 k) ∧ Hid (Below w2.heap.size w2 wr)) (fun _ i _ => c.n2 - (intOf i).toNat)
        case atStart => exact ⟨0, _, _, _, c.r1, rfl, rfl, by omega, rfl, HA0, (rfl : filesL c.r1 c.n1 = seeF (filesL c.r1 c.n1) c.r2 0), HBW⟩
        case round =>
          obtain ⟨k, va, m, vp, Q, rfl, rfl, hk, hsb, HA, HE, HC⟩ := hrel
          have HSB := hide hsb
          clear HA0 HBW hsb
          have q2 := (HG2.out.next HC.out).cell 2
          have q0 := (HG2.out.next HC.out).cell 0
          simp only [List.getElem?_toArray, List.getElem?_cons_succ, List.getElem?_cons_zero] at q0 q2
          by_cases hlt : k < c.n2
          · have hki : (k : Int) < (c.n2 : Int) := by omega
            obtain ⟨b2, off, rfl, hb2, c0, c1, c2, c3⟩ := ((HS2'.out.next HC.out)).at hlt
            obtain ⟨hs1, hs2⟩ := fits_sizes (fits_see (filesB_fits HL1.out) k HSB.out)
            have hrk := risF_see HRI.out c.r2 k
            have hml : m ≤ 60 := by have := congrArg List.length HE.out; rw [filesL_len] at this; omega
            have HRK := hide hrk
            have hrq : RisF (filesL Q m) := by rw [HE.out]; exact hrk
            have HRQ := hide hrq
            have HZQ := hide (fun i (hi : i < m) => (by have h := sizeF_at (O := Q) hi; rw [HE.out] at h; omega : (Q.D i).size ≤ 90000000))
            have hzd := (HZ2.out k hlt).2.2
            clear hrk hrq
            go_wp2_with fail
            clear q0 q2 c0 c1 c2 c3
            refine (spec_l6Do va m vp Q (c.r2.K k) (c.r2.N k) (c.r2.T k) (c.r2.D k) wr (by omega) HRQ.out HZQ.out (by omega) HA.out).mono ?_
            rintro e w4 ⟨⟨vx, rfl, ho⟩, hb4⟩
            rw [HE.out] at ho ⊢
            have HO := ho.hid
            have HC4 := hide (HC.out.trans (hb4.mono HC.out.size))
            have HST := hide (fun h => dB_stop (c := c) (k := k) h hlt)
            have hop : opAt c.r2 k = ⟨c.r2.K k, c.r2.N k, c.r2.T k, c.r2.D k⟩ := rfl
            have HOP := hide hop
            obtain ⟨b2', off', hbo, hb2', c0, c1, c2, c3⟩ := ((HS2'.out.next HC4.out)).at hlt
            simp only [Option.some.injEq, Addr.mk.injEq, and_true] at hbo
            obtain ⟨rfl, rfl⟩ := hbo
            have q2 := (HG2.out.next HC4.out).cell 2
            simp only [List.getElem?_toArray, List.getElem?_cons_succ, List.getElem?_cons_zero] at q2
            clear ho hb4 HA HC hop
            cases hdo : doB (seeF (filesL c.r1 c.n1) c.r2 k) ⟨c.r2.K k, c.r2.N k, c.r2.T k, c.r2.D k⟩ with
            | false =>
              have HV : Hid (dB c = false) := HST.out (by rw [HOP.out, hdo]; simp)
              have HLW := hide (HLO.out.trans (HC4.out.mono HLO.out.size))
              clear hdo
              go_wp2
              go_ret
              exact ⟨(congrArg (fun q => Ending.returned (Value.bool q)) HV.out).symm, by first | exact HLW.out | (rw [← hG]; exact HLW.out)⟩
            | true =>
              have HDO := hide hdo
              clear hdo
              go_wp2_with fail
              clear q2 c0 c1 c2 c3
              refine (spec_l6Form (c.r2.K k) (c.r2.N k) (c.r2.T k) (c.r2.D k) w4).mono ?_
              rintro e w5 ⟨rfl, hb5⟩
              have HO5 := (HO.out.next hb5).hid
              have HC5 := hide (HC4.out.trans (hb5.mono HC4.out.size))
              clear hb5 HO HC4
              cases hfo : formB ⟨c.r2.K k, c.r2.N k, c.r2.T k, c.r2.D k⟩ with
              | false =>
                have HV : Hid (dB c = false) := HST.out (by rw [HOP.out, hfo]; rfl)
                have HLW := hide (HLO.out.trans (HC5.out.mono HLO.out.size))
                clear hfo
                go_wp2
                go_ret
                exact ⟨(congrArg (fun q => Ending.returned (Value.bool q)) HV.out).symm, by first | exact HLW.out | (rw [← hG]; exact HLW.out)⟩
              | true =>
                have HFO := hide hfo
                clear hfo
                generalize hL : doF (seeF (filesL c.r1 c.n1) c.r2 k) ⟨c.r2.K k, c.r2.N k, c.r2.T k, c.r2.D k⟩ = L at HO5
                have HLL := hide hL
                have hln : L.length ≤ 61 := by have := do_len (seeF (filesL c.r1 c.n1) c.r2 k) ⟨c.r2.K k, c.r2.N k, c.r2.T k, c.r2.D k⟩; rw [hL] at this; omega
                have hls : sizeF L ≤ 10000000 := by have := sizeF_do HRK.out ⟨c.r2.K k, c.r2.N k, c.r2.T k, c.r2.D k⟩; rw [hL] at this; have h2 : (⟨c.r2.K k, c.r2.N k, c.r2.T k, c.r2.D k⟩ : DOp1).d.size = (c.r2.D k).size := rfl; omega
                have hlr : RisF L := by rw [← hL]; exact risF_do HRK.out _
                have hlf : ∀ f, f ∈ L → nameB f.n = true := by rw [← hL]; exact names_do HFO.out (names_see HNM.out k HSB.out)
                have hfl := filesB_list hlr hlf
                have HLZ := hide (fun i (hi : i < L.length) => (by have h := sizeF_at (O := fnFile L) hi; rw [fnFile_list] at h; omega : ((fnFile L).D i).size ≤ 90000000))
                have HFL := hide hfl
                obtain ⟨xa, xp, hxa, hxA⟩ := HO5.out.arg
                subst hxa
                have HXA := hxA.hid
                clear hL hlr hlf hfl hxA
                go_wp2_with fail
                refine (spec_l6Files xa L.length xp (fnFile L) w5 HLZ.out (by omega) HXA.out).mono ?_
                rintro e w6 ⟨rfl, hb6⟩
                have HX6 := (HXA.out.next hb6).hid
                have HC6 := hide (HC5.out.trans (hb6.mono HC5.out.size))
                clear hb6 HC5
                rw [HFL.out]
                cases hfi : fitsB L with
                | false =>
                  have HV : Hid (dB c = false) := HST.out (by rw [HOP.out, HFO.out, HDO.out, HLL.out, hfi]; rfl)
                  have HLW := hide (HLO.out.trans (HC6.out.mono HLO.out.size))
                  clear hfi
                  go_wp2
                  go_ret
                  exact ⟨(congrArg (fun q => Ending.returned (Value.bool q)) HV.out).symm, by first | exact HLW.out | (rw [← hG]; exact HLW.out)⟩
                | true =>
                  have HSB2 : Hid (seeB (filesL c.r1 c.n1) c.r2 (k + 1) = true) := by show _ = _; rw [seeB, HSB.out, HOP.out, HFO.out, HDO.out, HLL.out, hfi]; rfl
                  have HE2 : Hid (filesL (fnFile L) L.length = seeF (filesL c.r1 c.n1) c.r2 (k + 1)) := by show _ = _; rw [fnFile_list, seeF, HOP.out, HLL.out]
                  clear hfi
                  go_wp2
                  exact ⟨⟨k + 1, xa, L.length, xp, fnFile L, rfl, by go_num, by omega, HSB2.out, HX6, HE2, HC6⟩, by simp [intOf]; omega⟩
          · obtain rfl : k = c.n2 := by omega
            have HV := hide (dB_end HL0.out HL1.out h200 HSB.out)
            obtain ⟨hri0, _, _, _⟩ := filesB_ris HL0.out
            have HEQ := hide (sameB_iff (risF_see HRI.out c.r2 c.n2) hri0)
            obtain ⟨hs1, hs2⟩ := fits_sizes (fits_see (filesB_fits HL1.out) c.n2 HSB.out)
            have hml : m ≤ 60 := by have := congrArg List.length HE.out; rw [filesL_len] at this; omega
            clear hri0
            go_wp2_with fail
            clear q0 q2
            refine (spec_l6Same va m vp Q a0 c.n0 p0 c.r0 wr (by omega) hn0 HA.out (HS0'.out.next HC.out)).mono ?_
            rintro e w7 ⟨⟨q, rfl, hq⟩, hb7⟩
            have HQ : Hid (dB c = q) := by
              show _ = _
              rw [HV.out]
              rw [HE.out] at hq
              cases q with
              | true => exact HEQ.out.2 (hq.1 rfl)
              | false =>
                cases h : sameB (seeF (filesL c.r1 c.n1) c.r2 c.n2) (filesL c.r0 c.n0)
                · rfl
                · have := hq.2 (HEQ.out.1 h); cases this
            have HLW := hide (HLO.out.trans ((HC.out.trans (hb7.mono HC.out.size)).mono HLO.out.size))
            clear hq hb7
            go_wp2
            go_ret
            exact ⟨(congrArg (fun q => Ending.returned (Value.bool q)) HQ.out).symm, by first | exact HLW.out | (rw [← hG]; exact HLW.out)⟩
      · have k200 : (200 : Int) < (c.n2 : Int) := by omega
        have HV := hide (dB_many (c := c) h200)
        have HLW := hide (HB0.out.trans (HC2.out.mono HB0.out.size))
        clear h200
        go_wp2
        go_ret
        exact ⟨(congrArg (fun q => Ending.returned (Value.bool q)) HV.out).symm, by first | exact HLW.out | (rw [← hG]; exact HLW.out)⟩

end Go.Proofs.Ytejedpmkbkclhaa
