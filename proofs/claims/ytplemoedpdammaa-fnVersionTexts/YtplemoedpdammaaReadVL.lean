/- ReadVersion of the model: where the head is right. (By gen_readvs2.py.) -/
import Derived.Test.YtplemoedpdammaaRdJ
namespace Go.Proofs.Ytplemoedpdammaa
set_option maxRecDepth 100000
open Go.RowKit Go.Deep

set_option linter.unusedVariables false in
set_option linter.unusedSimpArgs false in
set_option maxHeartbeats 8000000 in
theorem spec_ReadVersion_loop (s : ByteArray) (hs : s.size ≤ 1048576) (hsec : sect (vB s) = s) (h0 : (li (vB s)).2.2 = true) (h1 : (li (v1 s)).2.2 = true) (h2 : (li (v2 s)).2.2 = true) (h3 : (li (v3 s)).2.2 = true) (hn : (rnum (v3 s)).1 ≤ 30) (w : World) :
    Calls Try.prog 28 #[.string s] w fun e w' => (∃ v, e = .returned (.tuple #[v, .bool (vOk s)]) ∧ VersionOwn w' w.heap.size v (readV s)) ∧ Below w.heap.size w w' := by
  obtain ⟨zB, z1, z2, z3, z4⟩ := v_size s
  have hvB := vB_le s
  have hb0 := below_one w (.cells #[.slice none 0 0, .int .i64 0, .int .i64 0, .int .i64 0] 46)
  have hf0 := BoxIs.new w #[.slice none 0 0, .int .i64 0, .int .i64 0, .int .i64 0] 46 rfl
  have cE := fun wx => spec_l12Int ⟨#[]⟩ (by decide) wx
  simp only [li_empty] at cE
  go_enter Try.func28, Try.ntmps28
  go_wp2_with fail
  generalize w.alloc (.cells #[.slice none 0 0, .int .i64 0, .int .i64 0, .int .i64 0] 46) = W at hb0 hf0 ⊢
  refine (spec_l10Take s hs W).mono ?_
  rintro e w1 ⟨⟨b, ok, rfl, hok1, hok2, hbz⟩, hb1⟩
  have hf1 := hf0.next hb1
  have hB1 := hb0.trans (hb1.mono hb0.size)
  clear hb0 hf0 hb1
  obtain rfl := hok2 hsec.symm
  obtain rfl := hok1 rfl
  clear hok1 hok2 hbz
  go_wp2_with fail
  refine (spec_section (vB s) (by omega) _).mono ?_
  rintro e w2 ⟨rfl, hb2⟩
  have hf2 := hf1.next hb2
  have hB2 := hB1.trans (hb2.mono hB1.size)
  clear hb2 hf1 hB1
  rw [hsec]
  have HSEC : Hid (s = sect (vB s)) := hsec.symm
  clear hsec
  have C0 := fun wx => spec_l12Int (vB s) (by omega) wx
  have C1 := fun wx => spec_l12Int (v1 s) (by omega) wx
  have C2 := fun wx => spec_l12Int (v2 s) (by omega) wx
  have C3 := fun wx => spec_l12Int (v3 s) (by omega) wx
  have Z4 : Hid ((v4 s).size ≤ 1048576) := by show _ ≤ _; omega
  have F1 : Hid (vOk s = true → (li (vB s)).2.2 = true ∧ (li (v1 s)).2.2 = true ∧ (li (v2 s)).2.2 = true ∧ (li (v3 s)).2.2 = true ∧ (rnum (v3 s)).1 ≤ 30 ∧ (∀ j, j < vN s → mtS (rdv (v4 s) j).2 = true) ∧ (rdv (v4 s) (vN s)).2.size = 0 ∧ versB (vC s) = true) := fun h => by
    obtain ⟨_, _, a, b, c, d, e, f, g⟩ := ver_ok h
    exact ⟨a, b, c, d, e, f, g, (vOk_out h).1⟩
  have F2 : Hid ((li (vB s)).2.2 = true → (li (v1 s)).2.2 = true → (li (v2 s)).2.2 = true → (li (v3 s)).2.2 = true → (rnum (v3 s)).1 ≤ 30 → (∀ j, j < vN s → mtS (rdv (v4 s) j).2 = true) → (rdv (v4 s) (vN s)).2.size = 0 → versB (vC s) = true → vOk s = true) := fun a b c d e f g h => ver_back HSEC.out a b c d e f g h
  have F3 : Hid (vC s = vc (rdv (v4 s) (vN s)).1 (rnum (vB s)).1 (rnum (v1 s)).1 (rnum (v2 s)).1) := by show _ = _; rw [vC, vL]
  have F5 : Hid ((li (v3 s)).2.2 = true → (rnum (v3 s)).1 ≤ 30 → (rnum (v3 s)).1 = ((vN s : Nat) : Int)) := fun a b => by
    have h0 := (li_rnum a).2.2.1
    unfold vN; rw [if_pos (by omega)]; omega
  have E0 : Hid ((li (vB s)).2.2 = true → li (vB s) = ((rnum (vB s)).1, v1 s, true)) := fun h => by rw [v1_def]; exact (li_rnum h).1
  have E1 : Hid ((li (v1 s)).2.2 = true → li (v1 s) = ((rnum (v1 s)).1, v2 s, true)) := fun h => by rw [v2_def]; exact (li_rnum h).1
  have E2 : Hid ((li (v2 s)).2.2 = true → li (v2 s) = ((rnum (v2 s)).1, v3 s, true)) := fun h => by rw [v3_def]; exact (li_rnum h).1
  have E3 : Hid ((li (v3 s)).2.2 = true → li (v3 s) = ((rnum (v3 s)).1, v4 s, true)) := fun h => by rw [v4_def]; exact (li_rnum h).1
  clear zB z1 z2 z3 z4 hvB
  generalize (rnum (vB s)).1 = x1 at *
  generalize (rnum (v1 s)).1 = x2 at *
  generalize (rnum (v2 s)).1 = x3 at *
  generalize (rnum (v3 s)).1 = nn at *
  generalize v4 s = A4 at *
  generalize v3 s = A3 at *
  generalize v2 s = A2 at *
  generalize v1 s = A1 at *
  generalize vB s = AB at *
  generalize vN s = m at *
  have e0 := E0.out h0
  simp only [e0] at C0
  have e1 := E1.out h1
  simp only [e1] at C1
  have e2 := E2.out h2
  simp only [e2] at C2
  have e3 := E3.out h3
  simp only [e3] at C3
  have hN := F5.out h3 hn
  subst hN
  have hns : ¬ (30 : Int) < (m : Int) := by omega
  have HN30 : Hid (m ≤ 30) := by show _ ≤ _; omega
  have HBACK : Hid ((∀ j, j < m → mtS (rdv A4 j).2 = true) → (rdv A4 m).2.size = 0 → versB (vC s) = true → vOk s = true) := fun a b c => F2.out h0 h1 h2 h3 hn a b c
  have HC := F3
  have HM1 : Hid (vOk s = true → (∀ j, j < m → mtS (rdv A4 j).2 = true) ∧ (rdv A4 m).2.size = 0 ∧ versB (vC s) = true) := fun h => (F1.out h).2.2.2.2.2
  clear e0 e1 e2 e3 h0 h1 h2 h3 E0 E1 E2 E3 F1 F2 F3 F5 hn
  go_wp2_with fail
  refine (C0 _).mono ?_
  rintro e wc0 ⟨rfl, hbc⟩
  have hfc0 := hf2.next hbc
  have hBc0 := hB2.trans (hbc.mono hB2.size)
  clear hbc
  go_wp2_with fail
  refine (C1 _).mono ?_
  rintro e wc1 ⟨rfl, hbc⟩
  have hfc1 := hfc0.next hbc
  have hBc1 := hBc0.trans (hbc.mono hBc0.size)
  clear hbc
  go_wp2_with fail
  refine (C2 _).mono ?_
  rintro e wc2 ⟨rfl, hbc⟩
  have hfc2 := hfc1.next hbc
  have hBc2 := hBc1.trans (hbc.mono hBc1.size)
  clear hbc
  go_wp2_with fail
  refine (C3 _).mono ?_
  rintro e wc3 ⟨rfl, hbc⟩
  have hfc3 := hfc2.next hbc
  have hBc3 := hBc2.trans (hbc.mono hBc2.size)
  clear hbc
  have hltc := hfc3.lt
  have hb5 := below_one wc3 (.cells #[.slice none 0 0, .int .i64 x1, .int .i64 x2, .int .i64 x3] 46)
  have HS5 : Hid (SvS w wc3.heap.size x1 x2 x3 (.slice none 0 0) (.slice none 0 0) (rdv A4 0).1 (wc3.alloc (.cells #[.slice none 0 0, .int .i64 x1, .int .i64 x2, .int .i64 x3] 46))) :=
    ⟨BoxIs.new wc3 _ _ rfl, hfc3.next hb5, OwnMeta.nil _ _, hBc3.trans (hb5.mono hBc3.size), by simp, hltc⟩
  clear hb5 C0 C1 C2 C3 hf2 hB2 hfc0 hBc0 hfc1 hBc1 hfc2 hBc2 hfc3 hBc3 hltc
  go_wp2
  generalize wc3.alloc (.cells #[.slice none 0 0, .int .i64 x1, .int .i64 x2, .int .i64 x3] 46) = W5 at HS5 ⊢
  obtain ⟨F, hFe⟩ : ∃ F, wc3.heap.size = F := ⟨_, rfl⟩
  rw [hFe] at HS5 ⊢
  clear hFe
  go_loopw [16, 19] (fun r i wr => ∃ (k : Nat) (vo : Value), r = .string (rdv A4 k).2 ∧ i = .int .i64 k ∧ k ≤ m ∧ Hid (∀ j, j < k → mtS (rdv A4 j).2 = true) ∧ Hid (SvS w F x1 x2 x3 vo vo (rdv A4 k).1 wr)) (fun _ i _ => m - (intOf i).toNat)
  case atStart => exact ⟨0, _, by rw [rdv_z], rfl, Nat.zero_le _, fun j hj => absurd hj (by omega), HS5⟩
  case round =>
    obtain ⟨k, vo, rfl, rfl, hk, HM, HR⟩ := hrel
    clear HS5
    have hN30 := HN30.out
    by_cases hlt : k < m
    · have hki : (k : Int) < (m : Int) := by omega
      have hrd := rdv_len A4 k
      have hRz := rdv_size A4 k
      have HSTEP1 : Hid ((rdv A4 (k + 1)).1 = (rdv A4 k).1 ++ [mtAt (rdv A4 k).2]) := rdv_s1 _ _
      have HSTEP2 : Hid ((rdv A4 (k + 1)).2 = mtR (rdv A4 k).2) := rdv_s2 _ _
      have HLOST : Hid (mtS (rdv A4 k).2 = false → vOk s = false) := fun h => vOk_lost fun h2 => by
        have := (HM1.out h2).1 k hlt
        rw [this] at h; cases h
      have HM2 : Hid (mtS (rdv A4 k).2 = true → ∀ j, j < k + 1 → mtS (rdv A4 j).2 = true) := fun h j hj => by
        rcases Nat.lt_or_eq_of_le (Nat.le_of_lt_succ hj) with h3 | h3
        · exact HM.out j h3
        · subst h3; exact h
      clear HM
      generalize hRe : (rdv A4 k).2 = R at HSTEP1 HSTEP2 HLOST HM2 hRz ⊢
      clear hRe HC HBACK
      have hR4 : R.size ≤ 1048576 := Nat.le_trans hRz Z4.out
      clear hRz
      obtain ⟨y1, y2, y3, y4, y5⟩ := mt_size R
      have D0 := fun wx => spec_l12Int R (by omega) wx
      have D1 := fun wx => spec_l12Int (mt1 R) (by omega) wx
      have D2 := fun wx => spec_TakeText (mt2 R) (by omega) wx
      have D3 := fun wx => spec_TakeText (mt3 R) (by omega) wx
      have D4 := fun wx => spec_l12Int (mt4 R) (by omega) wx
      have tE := fun wx => spec_TakeText ⟨#[]⟩ (by decide) wx
      simp only [takeText_empty] at tE
      simp only [takeText_rtV] at D2 D3
      simp only [← mt3_def] at D2
      simp only [← mt4_def] at D3
      have L0 : Hid ((li R).2.2 = false → vOk s = false) := fun h => HLOST.out (by unfold mtS; rw [h]; simp)
      have L1 : Hid ((li (mt1 R)).2.2 = false → vOk s = false) := fun h => HLOST.out (by unfold mtS; rw [h]; simp)
      have L2 : Hid ((rtext (mt2 R)).2.2 = true → vOk s = false) := fun h => HLOST.out (by unfold mtS; rw [h]; simp)
      have L3 : Hid ((rtext (mt3 R)).2.2 = true → vOk s = false) := fun h => HLOST.out (by unfold mtS; rw [h]; simp)
      have L4 : Hid ((li (mt4 R)).2.2 = false → vOk s = false) := fun h => HLOST.out (by unfold mtS; rw [h]; simp)
      have HM3 : Hid ((li R).2.2 = true → (li (mt1 R)).2.2 = true → (rtext (mt2 R)).2.2 = false → (rtext (mt3 R)).2.2 = false → (li (mt4 R)).2.2 = true → ∀ j, j < k + 1 → mtS (rdv A4 j).2 = true) := fun a b c d e => HM2.out (by unfold mtS; rw [a, b, c, d, e]; rfl)
      have G0 : Hid ((li R).2.2 = true → li R = ((rnum R).1, mt1 R, true)) := fun h => by rw [mt1_def]; exact (li_rnum h).1
      have G1 : Hid ((li (mt1 R)).2.2 = true → li (mt1 R) = ((rnum (mt1 R)).1, mt2 R, true)) := fun h => by rw [mt2_def]; exact (li_rnum h).1
      have G4 : Hid ((li (mt4 R)).2.2 = true → li (mt4 R) = ((rnum (mt4 R)).1, mtR R, true)) := fun h => by rw [mtR_def]; exact (li_rnum h).1
      have T2 : Hid ((rtext (mt2 R)).2.2 = true → (rtext (mt2 R)).1 = ⟨#[]⟩ ∧ mt3 R = ⟨#[]⟩) := fun h => by rw [mt3_def, rtext_lost h]; exact ⟨rfl, rfl⟩
      have T3 : Hid ((rtext (mt3 R)).2.2 = true → (rtext (mt3 R)).1 = ⟨#[]⟩ ∧ mt4 R = ⟨#[]⟩) := fun h => by rw [mt4_def, rtext_lost h]; exact ⟨rfl, rfl⟩
      have HAT : Hid (mtAt R = ⟨(rnum R).1, (rnum (mt1 R)).1, (rtext (mt2 R)).1, (rtext (mt3 R)).1, (rnum (mt4 R)).1⟩) := by show _ = _; rw [mtAt]
      clear y1 y2 y3 y4 y5 hR4 HLOST HM2
      have HRD := hide hrd
      have HLT := hide hlt
      clear hrd hlt hk hN30 hns
      generalize mtAt R = M at *
      generalize (rnum R).1 = m0 at *
      generalize (rnum (mt1 R)).1 = m1 at *
      generalize (rtext (mt2 R)).1 = m2 at *
      generalize (rtext (mt3 R)).1 = m3 at *
      generalize (rnum (mt4 R)).1 = m4 at *
      generalize mtR R = R5 at *
      generalize mt4 R = R4 at *
      generalize mt3 R = R3 at *
      generalize mt2 R = R2 at *
      generalize mt1 R = R1 at *
      cases d0 : (li R).2.2 with
      | false =>
        have HV : Hid (vOk s = false) := L0.out d0
        have e0 := li_lost d0
        simp only [e0] at D0
        go_wp2_with fail
        refine (D0 _).mono ?_
        rintro e wd0 ⟨rfl, hbd⟩
        have HR0 := hide (HR.out.next hbd)
        clear hbd HR hki
        go_wp2_with fail
        refine (cE _).mono ?_
        rintro e wd1 ⟨rfl, hbd⟩
        have HR1 := hide (HR0.out.next hbd)
        clear hbd HR0
        go_wp2_with fail
        refine (tE _).mono ?_
        rintro e wd2 ⟨rfl, hbd⟩
        have HR2 := hide (HR1.out.next hbd)
        clear hbd HR1
        go_wp2_with fail
        refine (tE _).mono ?_
        rintro e wd3 ⟨rfl, hbd⟩
        have HR3 := hide (HR2.out.next hbd)
        clear hbd HR2
        go_wp2_with fail
        refine (cE _).mono ?_
        rintro e wd4 ⟨rfl, hbd⟩
        have HR4 := hide (HR3.out.next hbd)
        clear hbd HR3
        clear D0 D1 D2 D3 D4 cE tE HSTEP1 HSTEP2 HM3 L0 L1 L2 L3 L4 G0 G1 G4 T2 T3
        have p0 := HR4.out.res
        have q0 := p0.cell 0
        have q1 := p0.cell 1
        have q2 := p0.cell 2
        have q3 := p0.cell 3
        have qf := p0.free
        simp only [List.getElem?_toArray, List.getElem?_cons_succ, List.getElem?_cons_zero] at q0 q1 q2 q3
        clear p0
        go_wp2
        refine bodyPost_ret (v := .tuple #[.agg #[.slice none 0 0, .int .i64 0, .int .i64 0, .int .i64 0], .bool false]) (by simp [results, Try.results28, go_sem, q0, q1, q2, q3]) rfl (bad_endV HV.out ?_)
        exact (((HR4.out.low.setCell (Nat.le_refl _) _).setCell (Nat.le_refl _) _).setCell (Nat.le_refl _) _).setCell (Nat.le_refl _) _
      | true =>
        have e0 := G0.out d0
        simp only [e0] at D0
        cases d1 : (li R1).2.2 with
        | false =>
          have HV : Hid (vOk s = false) := L1.out d1
          have e1 := li_lost d1
          simp only [e1] at D1
          go_wp2_with fail
          refine (D0 _).mono ?_
          rintro e wd0 ⟨rfl, hbd⟩
          have HR0 := hide (HR.out.next hbd)
          clear hbd HR hki
          go_wp2_with fail
          refine (D1 _).mono ?_
          rintro e wd1 ⟨rfl, hbd⟩
          have HR1 := hide (HR0.out.next hbd)
          clear hbd HR0
          go_wp2_with fail
          refine (tE _).mono ?_
          rintro e wd2 ⟨rfl, hbd⟩
          have HR2 := hide (HR1.out.next hbd)
          clear hbd HR1
          go_wp2_with fail
          refine (tE _).mono ?_
          rintro e wd3 ⟨rfl, hbd⟩
          have HR3 := hide (HR2.out.next hbd)
          clear hbd HR2
          go_wp2_with fail
          refine (cE _).mono ?_
          rintro e wd4 ⟨rfl, hbd⟩
          have HR4 := hide (HR3.out.next hbd)
          clear hbd HR3
          clear D0 D1 D2 D3 D4 cE tE HSTEP1 HSTEP2 HM3 L0 L1 L2 L3 L4 G0 G1 G4 T2 T3
          have p0 := HR4.out.res
          have q0 := p0.cell 0
          have q1 := p0.cell 1
          have q2 := p0.cell 2
          have q3 := p0.cell 3
          have qf := p0.free
          simp only [List.getElem?_toArray, List.getElem?_cons_succ, List.getElem?_cons_zero] at q0 q1 q2 q3
          clear p0
          go_wp2
          refine bodyPost_ret (v := .tuple #[.agg #[.slice none 0 0, .int .i64 0, .int .i64 0, .int .i64 0], .bool false]) (by simp [results, Try.results28, go_sem, q0, q1, q2, q3]) rfl (bad_endV HV.out ?_)
          exact (((HR4.out.low.setCell (Nat.le_refl _) _).setCell (Nat.le_refl _) _).setCell (Nat.le_refl _) _).setCell (Nat.le_refl _) _
        | true =>
          have e1 := G1.out d1
          simp only [e1] at D1
          cases d2 : (rtext R2).2.2 with
          | true =>
            have HV : Hid (vOk s = false) := L2.out d2
            obtain ⟨q2, r2⟩ := T2.out d2
            simp only [d2, q2, r2, Bool.not_true] at D2
            clear q2 r2
            go_wp2_with fail
            refine (D0 _).mono ?_
            rintro e wd0 ⟨rfl, hbd⟩
            have HR0 := hide (HR.out.next hbd)
            clear hbd HR hki
            go_wp2_with fail
            refine (D1 _).mono ?_
            rintro e wd1 ⟨rfl, hbd⟩
            have HR1 := hide (HR0.out.next hbd)
            clear hbd HR0
            go_wp2_with fail
            refine (D2 _).mono ?_
            rintro e wd2 ⟨rfl, hbd⟩
            have HR2 := hide (HR1.out.next hbd)
            clear hbd HR1
            go_wp2_with fail
            refine (tE _).mono ?_
            rintro e wd3 ⟨rfl, hbd⟩
            have HR3 := hide (HR2.out.next hbd)
            clear hbd HR2
            go_wp2_with fail
            refine (cE _).mono ?_
            rintro e wd4 ⟨rfl, hbd⟩
            have HR4 := hide (HR3.out.next hbd)
            clear hbd HR3
            clear D0 D1 D2 D3 D4 cE tE HSTEP1 HSTEP2 HM3 L0 L1 L2 L3 L4 G0 G1 G4 T2 T3
            have p0 := HR4.out.res
            have q0 := p0.cell 0
            have q1 := p0.cell 1
            have q2 := p0.cell 2
            have q3 := p0.cell 3
            have qf := p0.free
            simp only [List.getElem?_toArray, List.getElem?_cons_succ, List.getElem?_cons_zero] at q0 q1 q2 q3
            clear p0
            go_wp2
            refine bodyPost_ret (v := .tuple #[.agg #[.slice none 0 0, .int .i64 0, .int .i64 0, .int .i64 0], .bool false]) (by simp [results, Try.results28, go_sem, q0, q1, q2, q3]) rfl (bad_endV HV.out ?_)
            exact (((HR4.out.low.setCell (Nat.le_refl _) _).setCell (Nat.le_refl _) _).setCell (Nat.le_refl _) _).setCell (Nat.le_refl _) _
          | false =>
            simp only [d2, Bool.not_false] at D2
            cases d3 : (rtext R3).2.2 with
            | true =>
              have HV : Hid (vOk s = false) := L3.out d3
              obtain ⟨q3, r3⟩ := T3.out d3
              simp only [d3, q3, r3, Bool.not_true] at D3
              clear q3 r3
              go_wp2_with fail
              refine (D0 _).mono ?_
              rintro e wd0 ⟨rfl, hbd⟩
              have HR0 := hide (HR.out.next hbd)
              clear hbd HR hki
              go_wp2_with fail
              refine (D1 _).mono ?_
              rintro e wd1 ⟨rfl, hbd⟩
              have HR1 := hide (HR0.out.next hbd)
              clear hbd HR0
              go_wp2_with fail
              refine (D2 _).mono ?_
              rintro e wd2 ⟨rfl, hbd⟩
              have HR2 := hide (HR1.out.next hbd)
              clear hbd HR1
              go_wp2_with fail
              refine (D3 _).mono ?_
              rintro e wd3 ⟨rfl, hbd⟩
              have HR3 := hide (HR2.out.next hbd)
              clear hbd HR2
              go_wp2_with fail
              refine (cE _).mono ?_
              rintro e wd4 ⟨rfl, hbd⟩
              have HR4 := hide (HR3.out.next hbd)
              clear hbd HR3
              clear D0 D1 D2 D3 D4 cE tE HSTEP1 HSTEP2 HM3 L0 L1 L2 L3 L4 G0 G1 G4 T2 T3
              have p0 := HR4.out.res
              have q0 := p0.cell 0
              have q1 := p0.cell 1
              have q2 := p0.cell 2
              have q3 := p0.cell 3
              have qf := p0.free
              simp only [List.getElem?_toArray, List.getElem?_cons_succ, List.getElem?_cons_zero] at q0 q1 q2 q3
              clear p0
              go_wp2
              refine bodyPost_ret (v := .tuple #[.agg #[.slice none 0 0, .int .i64 0, .int .i64 0, .int .i64 0], .bool false]) (by simp [results, Try.results28, go_sem, q0, q1, q2, q3]) rfl (bad_endV HV.out ?_)
              exact (((HR4.out.low.setCell (Nat.le_refl _) _).setCell (Nat.le_refl _) _).setCell (Nat.le_refl _) _).setCell (Nat.le_refl _) _
            | false =>
              simp only [d3, Bool.not_false] at D3
              cases d4 : (li R4).2.2 with
              | false =>
                have HV : Hid (vOk s = false) := L4.out d4
                have e4 := li_lost d4
                simp only [e4] at D4
                go_wp2_with fail
                refine (D0 _).mono ?_
                rintro e wd0 ⟨rfl, hbd⟩
                have HR0 := hide (HR.out.next hbd)
                clear hbd HR hki
                go_wp2_with fail
                refine (D1 _).mono ?_
                rintro e wd1 ⟨rfl, hbd⟩
                have HR1 := hide (HR0.out.next hbd)
                clear hbd HR0
                go_wp2_with fail
                refine (D2 _).mono ?_
                rintro e wd2 ⟨rfl, hbd⟩
                have HR2 := hide (HR1.out.next hbd)
                clear hbd HR1
                go_wp2_with fail
                refine (D3 _).mono ?_
                rintro e wd3 ⟨rfl, hbd⟩
                have HR3 := hide (HR2.out.next hbd)
                clear hbd HR2
                go_wp2_with fail
                refine (D4 _).mono ?_
                rintro e wd4 ⟨rfl, hbd⟩
                have HR4 := hide (HR3.out.next hbd)
                clear hbd HR3
                clear D0 D1 D2 D3 D4 cE tE HSTEP1 HSTEP2 HM3 L0 L1 L2 L3 L4 G0 G1 G4 T2 T3
                have p0 := HR4.out.res
                have q0 := p0.cell 0
                have q1 := p0.cell 1
                have q2 := p0.cell 2
                have q3 := p0.cell 3
                have qf := p0.free
                simp only [List.getElem?_toArray, List.getElem?_cons_succ, List.getElem?_cons_zero] at q0 q1 q2 q3
                clear p0
                go_wp2
                refine bodyPost_ret (v := .tuple #[.agg #[.slice none 0 0, .int .i64 0, .int .i64 0, .int .i64 0], .bool false]) (by simp [results, Try.results28, go_sem, q0, q1, q2, q3]) rfl (bad_endV HV.out ?_)
                exact (((HR4.out.low.setCell (Nat.le_refl _) _).setCell (Nat.le_refl _) _).setCell (Nat.le_refl _) _).setCell (Nat.le_refl _) _
              | true =>
                have e4 := G4.out d4
                simp only [e4] at D4
                have HM4 := hide (HM3.out d0 d1 d2 d3 d4)
                clear HM3 cE tE L0 L1 L2 L3 L4 G0 G1 G4 T2 T3 d0 d1 d2 d3 d4 e0 e1 e4
                go_wp2_with fail
                refine (D0 _).mono ?_
                rintro e wd0 ⟨rfl, hbd⟩
                have HR0 := hide (HR.out.next hbd)
                clear hbd HR hki
                go_wp2_with fail
                refine (D1 _).mono ?_
                rintro e wd1 ⟨rfl, hbd⟩
                have HR1 := hide (HR0.out.next hbd)
                clear hbd HR0
                go_wp2_with fail
                refine (D2 _).mono ?_
                rintro e wd2 ⟨rfl, hbd⟩
                have HR2 := hide (HR1.out.next hbd)
                clear hbd HR1
                go_wp2_with fail
                refine (D3 _).mono ?_
                rintro e wd3 ⟨rfl, hbd⟩
                have HR3 := hide (HR2.out.next hbd)
                clear hbd HR2
                go_wp2_with fail
                refine (D4 _).mono ?_
                rintro e wd4 ⟨rfl, hbd⟩
                have HR4 := hide (HR3.out.next hbd)
                clear hbd HR3
                clear D0 D1 D2 D3 D4
                have hx1 := HR4.out.bx.cell 0
                simp only [List.getElem?_toArray, List.getElem?_cons_succ, List.getElem?_cons_zero] at hx1
                go_wp2_with (first
                  | (at_builtin; refine wpList_append_m1 rfl _ _ 44 rfl Try.underlying44 (F + 1) vo (rdv A4 k).1 ⟨m0, m1, m2, m3, m4⟩ (by rfl) (by rfl) HR4.out.own HR4.out.hB ?c1 ?_))
                case c1 => have := HRD.out; have := HLT.out; have := HN30.out; omega
                intro v' w6 hown' hb'
                obtain ⟨ga, ca, hsv⟩ := hown'.some (by simp)
                rw [List.length_append, HRD.out] at hsv
                obtain rfl : v' = .slice (some ⟨ga, 0, none⟩) (k + 1) ca := hsv
                have HR6 := hide (HR4.out.app hown' hb')
                have hx2 := HR6.out.bx.cell 0
                have xf := HR6.out.bx.free
                simp only [List.getElem?_toArray, List.getElem?_cons_succ, List.getElem?_cons_zero] at hx2
                have HR7 : Hid (SvS w F x1 x2 x3 (.slice (some ⟨ga, 0, none⟩) (k + 1) ca) (.slice (some ⟨ga, 0, none⟩) (k + 1) ca) (rdv A4 (k + 1)).1 (w6.setCell ⟨F, 0, none⟩ (.slice (some ⟨ga, 0, none⟩) (k + 1) ca))) := by
                  rw [HSTEP1.out, HAT.out]
                  exact HR6.out.put
                clear hown' hb' HR4 HR6 hx1
                have hlt := HLT.out
                have hN30 := HN30.out
                go_wp2
                exact ⟨⟨k + 1, _, by rw [HSTEP2.out], by go_num, by omega, HM4, HR7⟩, by simp [intOf]; omega⟩
    · obtain rfl : k = m := by omega
      have HCk := HC
      have HBk : Hid ((rdv A4 k).2.size = 0 → versB (vC s) = true → vOk s = true) := fun a b => HBACK.out (fun j hj => HM.out j hj) a b
      have HZK : Hid (vOk s = true → (rdv A4 k).2.size = 0 ∧ versB (vC s) = true) := fun h => (HM1.out h).2
      have hrd := rdv_len A4 k
      clear HC HBACK HM HM1 HSEC
      generalize (rdv A4 k).1 = ms at HR HCk hrd
      generalize (rdv A4 k).2 = R at HBk HZK ⊢
      subst hrd
      rw [HCk.out] at HBk HZK
      obtain ⟨ar, cap, hvo, hO⟩ := HR.out.own.arg
      subst hvo
      have HI : Hid (VersionIs wr (.agg #[.slice ar ms.length cap, .int .i64 x1, .int .i64 x2, .int .i64 x3]) (vc ms x1 x2 x3)) := ⟨ar, cap, rfl, hO⟩
      have hfit : (vc ms x1 x2 x3).Fit := by show ms.length ≤ 1048576; omega
      have cb := spec_VersionOk _ _ wr hfit HI.out
      have y0 := HR.out.bx.cell 0
      have y1 := HR.out.bx.cell 1
      have y2 := HR.out.bx.cell 2
      have y3 := HR.out.bx.cell 3
      simp only [List.getElem?_toArray, List.getElem?_cons_succ, List.getElem?_cons_zero] at y0 y1 y2 y3
      have he := isEmpty_size R
      clear hO
      by_cases hz : R.size = 0
      · cases hok : versB (vc ms x1 x2 x3) with
        | false =>
          have HV : Hid (vOk s = false) := vOk_lost fun h => by have := (HZK.out h).2; rw [hok] at this; cases this
          rw [hok] at cb
          clear hok HBk HZK
          go_wp2_with fail
          refine cb.mono ?_
          rintro e w7 ⟨rfl, hb7⟩
          have HR7 := hide (HR.out.next hb7)
          clear hb7 cb y0 y1 y2 y3 HR
          have p0 := HR7.out.res
          have q0 := p0.cell 0
          have q1 := p0.cell 1
          have q2 := p0.cell 2
          have q3 := p0.cell 3
          have qf := p0.free
          simp only [List.getElem?_toArray, List.getElem?_cons_succ, List.getElem?_cons_zero] at q0 q1 q2 q3
          clear p0
          go_wp2
          refine bodyPost_ret (v := .tuple #[.agg #[.slice none 0 0, .int .i64 0, .int .i64 0, .int .i64 0], .bool false]) (by simp [results, Try.results28, go_sem, q0, q1, q2, q3]) rfl (bad_endV HV.out ?_)
          exact (((HR7.out.low.setCell (Nat.le_refl _) _).setCell (Nat.le_refl _) _).setCell (Nat.le_refl _) _).setCell (Nat.le_refl _) _
        | true =>
          have HV : Hid (vOk s = true) := HBk.out hz hok
          have HCk2 : Hid (readV s = vc ms x1 x2 x3) := by show _ = _; rw [readV_yes HV.out]; exact HCk.out
          rw [hok] at cb
          clear hok HBk HZK
          go_wp2_with fail
          refine cb.mono ?_
          rintro e w8 ⟨rfl, hb8⟩
          have HR8 := hide (HR.out.next hb8)
          have q0 := HR8.out.res.cell 0
          have q1 := HR8.out.res.cell 1
          have q2 := HR8.out.res.cell 2
          have q3 := HR8.out.res.cell 3
          have qf := HR8.out.res.free
          have r0 := HR8.out.bx.cell 0
          have r1 := HR8.out.bx.cell 1
          have r2 := HR8.out.bx.cell 2
          have r3 := HR8.out.bx.cell 3
          simp only [List.getElem?_toArray, List.getElem?_cons_succ, List.getElem?_cons_zero] at q0 q1 q2 q3 r0 r1 r2 r3
          have hn2 := HR8.out.n2
          clear hb8 cb y0 y1 y2 y3 HR
          go_wp2
          refine bodyPost_ret (v := .tuple #[.agg #[.slice ar ms.length cap, .int .i64 x1, .int .i64 x2, .int .i64 x3], .bool true]) (by simp [results, Try.results28, go_sem, q0, q1, q2, q3]) rfl ⟨⟨_, by rw [HV.out], ?_⟩, ?_⟩
          · rw [HCk2.out]
            have how : OwnMeta ((((w8.setCell ⟨w.heap.size, 0, none⟩ (.slice ar ms.length cap)).setCell ⟨w.heap.size, 1, none⟩ (.int .i64 x1)).setCell ⟨w.heap.size, 2, none⟩ (.int .i64 x2)).setCell ⟨w.heap.size, 3, none⟩ (.int .i64 x3)) (F + 1) (.slice ar ms.length cap) ms :=
              ((((HR8.out.own.setOther (p := ⟨w.heap.size, 0, none⟩) (by show w.heap.size < F + 1; omega) _).setOther (p := ⟨w.heap.size, 1, none⟩) (by show w.heap.size < F + 1; omega) _).setOther (p := ⟨w.heap.size, 2, none⟩) (by show w.heap.size < F + 1; omega) _).setOther (p := ⟨w.heap.size, 3, none⟩) (by show w.heap.size < F + 1; omega) _)
            obtain ⟨a2, p2, hv2, hM2⟩ := (how.base (B' := w.heap.size) (by omega)).mine
            exact ⟨a2, p2, by rw [hv2]; rfl, hM2⟩
          · exact (((HR8.out.low.setCell (Nat.le_refl _) _).setCell (Nat.le_refl _) _).setCell (Nat.le_refl _) _).setCell (Nat.le_refl _) _
      · have HV : Hid (vOk s = false) := vOk_lost fun h => hz (HZK.out h).1
        have HR7 := HR
        clear HBk HZK cb y0 y1 y2 y3 HR
        have p0 := HR7.out.res
        have q0 := p0.cell 0
        have q1 := p0.cell 1
        have q2 := p0.cell 2
        have q3 := p0.cell 3
        have qf := p0.free
        simp only [List.getElem?_toArray, List.getElem?_cons_succ, List.getElem?_cons_zero] at q0 q1 q2 q3
        clear p0
        go_wp2
        refine bodyPost_ret (v := .tuple #[.agg #[.slice none 0 0, .int .i64 0, .int .i64 0, .int .i64 0], .bool false]) (by simp [results, Try.results28, go_sem, q0, q1, q2, q3]) rfl (bad_endV HV.out ?_)
        exact (((HR7.out.low.setCell (Nat.le_refl _) _).setCell (Nat.le_refl _) _).setCell (Nat.le_refl _) _).setCell (Nat.le_refl _) _

end Go.Proofs.Ytplemoedpdammaa
