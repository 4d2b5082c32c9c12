/- ReadVersion of the model. (By gen_readvs.py.) -/
import Derived.Test.YtplemoedpdammaaRdJ
namespace Go.Proofs.Ytplemoedpdammaa
set_option maxRecDepth 100000
open Go.RowKit Go.Deep

set_option linter.unusedVariables false in
set_option linter.unusedSimpArgs false in
set_option maxHeartbeats 8000000 in
theorem spec_ReadVersion_sec (s : ByteArray) (hs : s.size ≤ 1048576) (hsec : ¬ sect (vB s) = s) (w : World) :
    Calls Try.prog 28 #[.string s] w fun e w' => (∃ v, e = .returned (.tuple #[v, .bool (vOk s)]) ∧ VersionOwn w' w.heap.size v (readV s)) ∧ Below w.heap.size w w' := by
  obtain ⟨zB, z1, z2, z3, z4⟩ := v_size s
  have hvB := vB_le s
  have hb0 := below_one w (.cells #[.slice none 0 0, .int .i64 0, .int .i64 0, .int .i64 0] 46)
  have hf0 := BoxIs.new w #[.slice none 0 0, .int .i64 0, .int .i64 0, .int .i64 0] 46 rfl
  have cE := fun wx => spec_l12Int ⟨#[]⟩ (by decide) wx
  simp only [li_empty] at cE
  go_enter Try.func28, Try.ntmps28
  go_wp2_with fail
  generalize w.alloc (.cells #[.slice none 0 0, .int .i64 0, .int .i64 0, .int .i64 0] 46) = W at hb0 hf0 ⊢
  refine (spec_l10Take s hs W).mono ?_
  rintro e w1 ⟨⟨b, ok, rfl, hok1, hok2, hbz⟩, hb1⟩
  have hf1 := hf0.next hb1
  have hB1 := hb0.trans (hb1.mono hb0.size)
  clear hb0 hf0 hb1
  have HV : Hid (vOk s = false) := vOk_lost fun h => hsec (ver_ok h).1.symm
  cases ok with
  | false =>
    have HB1 := hide hB1
    have HF1 := hf1.hid
    clear hok1 hok2 hB1 hf1 cE hsec zB z1 z2 z3 z4 hvB
    have p0 := HF1.out
    have q0 := p0.cell 0
    have q1 := p0.cell 1
    have q2 := p0.cell 2
    have q3 := p0.cell 3
    have qf := p0.free
    simp only [List.getElem?_toArray, List.getElem?_cons_succ, List.getElem?_cons_zero] at q0 q1 q2 q3
    clear p0
    go_wp2
    refine bodyPost_ret (v := .tuple #[.agg #[.slice none 0 0, .int .i64 0, .int .i64 0, .int .i64 0], .bool false]) (by simp [results, Try.results28, go_sem, q0, q1, q2, q3]) rfl (bad_endV HV.out ?_)
    exact (((HB1.out.setCell (Nat.le_refl _) _).setCell (Nat.le_refl _) _).setCell (Nat.le_refl _) _).setCell (Nat.le_refl _) _
  | true =>
    obtain rfl := hok1 rfl
    clear hok1 hok2 hbz
    go_wp2_with fail
    refine (spec_section (vB s) (by omega) _).mono ?_
    rintro e w2 ⟨rfl, hb2⟩
    have HFL := (hf1.next hb2).hid
    have HBL := hide (hB1.trans (hb2.mono hB1.size))
    generalize sect (vB s) = T at hsec ⊢
    have hu2 := toList_neV hsec
    have hu1 : (T.toList == s.toList) = false := by simpa using hu2
    clear hb2 hf1 hB1 hsec cE zB z1 z2 z3 z4 hvB
    generalize vB s = AB at *
    have p0 := HFL.out
    have q0 := p0.cell 0
    have q1 := p0.cell 1
    have q2 := p0.cell 2
    have q3 := p0.cell 3
    have qf := p0.free
    simp only [List.getElem?_toArray, List.getElem?_cons_succ, List.getElem?_cons_zero] at q0 q1 q2 q3
    clear p0
    go_wp2
    refine bodyPost_ret (v := .tuple #[.agg #[.slice none 0 0, .int .i64 0, .int .i64 0, .int .i64 0], .bool false]) (by simp [results, Try.results28, go_sem, q0, q1, q2, q3]) rfl (bad_endV HV.out ?_)
    exact (((HBL.out.setCell (Nat.le_refl _) _).setCell (Nat.le_refl _) _).setCell (Nat.le_refl _) _).setCell (Nat.le_refl _) _

set_option linter.unusedVariables false in
set_option linter.unusedSimpArgs false in
set_option maxHeartbeats 8000000 in
theorem spec_ReadVersion_0 (s : ByteArray) (hs : s.size ≤ 1048576) (hsec : sect (vB s) = s)  (h0 : (li (vB s)).2.2 = false) (w : World) :
    Calls Try.prog 28 #[.string s] w fun e w' => (∃ v, e = .returned (.tuple #[v, .bool (vOk s)]) ∧ VersionOwn w' w.heap.size v (readV s)) ∧ Below w.heap.size w w' := by
  obtain ⟨zB, z1, z2, z3, z4⟩ := v_size s
  have hvB := vB_le s
  have hb0 := below_one w (.cells #[.slice none 0 0, .int .i64 0, .int .i64 0, .int .i64 0] 46)
  have hf0 := BoxIs.new w #[.slice none 0 0, .int .i64 0, .int .i64 0, .int .i64 0] 46 rfl
  have cE := fun wx => spec_l12Int ⟨#[]⟩ (by decide) wx
  simp only [li_empty] at cE
  go_enter Try.func28, Try.ntmps28
  go_wp2_with fail
  generalize w.alloc (.cells #[.slice none 0 0, .int .i64 0, .int .i64 0, .int .i64 0] 46) = W at hb0 hf0 ⊢
  refine (spec_l10Take s hs W).mono ?_
  rintro e w1 ⟨⟨b, ok, rfl, hok1, hok2, hbz⟩, hb1⟩
  have hf1 := hf0.next hb1
  have hB1 := hb0.trans (hb1.mono hb0.size)
  clear hb0 hf0 hb1
  obtain rfl := hok2 hsec.symm
  obtain rfl := hok1 rfl
  clear hok1 hok2 hbz
  go_wp2_with fail
  refine (spec_section (vB s) (by omega) _).mono ?_
  rintro e w2 ⟨rfl, hb2⟩
  have hf2 := hf1.next hb2
  have hB2 := hB1.trans (hb2.mono hB1.size)
  clear hb2 hf1 hB1
  rw [hsec]
  have HSEC : Hid (s = sect (vB s)) := hsec.symm
  clear hsec
  have C0 := fun wx => spec_l12Int (vB s) (by omega) wx
  have C1 := fun wx => spec_l12Int (v1 s) (by omega) wx
  have C2 := fun wx => spec_l12Int (v2 s) (by omega) wx
  have C3 := fun wx => spec_l12Int (v3 s) (by omega) wx
  have Z4 : Hid ((v4 s).size ≤ 1048576) := by show _ ≤ _; omega
  have F1 : Hid (vOk s = true → (li (vB s)).2.2 = true ∧ (li (v1 s)).2.2 = true ∧ (li (v2 s)).2.2 = true ∧ (li (v3 s)).2.2 = true ∧ (rnum (v3 s)).1 ≤ 30 ∧ (∀ j, j < vN s → mtS (rdv (v4 s) j).2 = true) ∧ (rdv (v4 s) (vN s)).2.size = 0 ∧ versB (vC s) = true) := fun h => by
    obtain ⟨_, _, a, b, c, d, e, f, g⟩ := ver_ok h
    exact ⟨a, b, c, d, e, f, g, (vOk_out h).1⟩
  have F2 : Hid ((li (vB s)).2.2 = true → (li (v1 s)).2.2 = true → (li (v2 s)).2.2 = true → (li (v3 s)).2.2 = true → (rnum (v3 s)).1 ≤ 30 → (∀ j, j < vN s → mtS (rdv (v4 s) j).2 = true) → (rdv (v4 s) (vN s)).2.size = 0 → versB (vC s) = true → vOk s = true) := fun a b c d e f g h => ver_back HSEC.out a b c d e f g h
  have F3 : Hid (vC s = vc (rdv (v4 s) (vN s)).1 (rnum (vB s)).1 (rnum (v1 s)).1 (rnum (v2 s)).1) := by show _ = _; rw [vC, vL]
  have F5 : Hid ((li (v3 s)).2.2 = true → (rnum (v3 s)).1 ≤ 30 → (rnum (v3 s)).1 = ((vN s : Nat) : Int)) := fun a b => by
    have h0 := (li_rnum a).2.2.1
    unfold vN; rw [if_pos (by omega)]; omega
  have E0 : Hid ((li (vB s)).2.2 = true → li (vB s) = ((rnum (vB s)).1, v1 s, true)) := fun h => by rw [v1_def]; exact (li_rnum h).1
  have E1 : Hid ((li (v1 s)).2.2 = true → li (v1 s) = ((rnum (v1 s)).1, v2 s, true)) := fun h => by rw [v2_def]; exact (li_rnum h).1
  have E2 : Hid ((li (v2 s)).2.2 = true → li (v2 s) = ((rnum (v2 s)).1, v3 s, true)) := fun h => by rw [v3_def]; exact (li_rnum h).1
  have E3 : Hid ((li (v3 s)).2.2 = true → li (v3 s) = ((rnum (v3 s)).1, v4 s, true)) := fun h => by rw [v4_def]; exact (li_rnum h).1
  clear zB z1 z2 z3 z4 hvB
  generalize (rnum (vB s)).1 = x1 at *
  generalize (rnum (v1 s)).1 = x2 at *
  generalize (rnum (v2 s)).1 = x3 at *
  generalize (rnum (v3 s)).1 = nn at *
  generalize v4 s = A4 at *
  generalize v3 s = A3 at *
  generalize v2 s = A2 at *
  generalize v1 s = A1 at *
  generalize vB s = AB at *
  generalize vN s = m at *
  have e0 := li_lost h0
  simp only [e0] at C0
  have HV : Hid (vOk s = false) := vOk_lost fun h => by have := (F1.out h).1; rw [h0] at this; cases this
  go_wp2_with fail
  refine (C0 _).mono ?_
  rintro e wc0 ⟨rfl, hbc⟩
  have hfc0 := hf2.next hbc
  have hBc0 := hB2.trans (hbc.mono hB2.size)
  clear hbc
  go_wp2_with fail
  refine (cE _).mono ?_
  rintro e wc1 ⟨rfl, hbc⟩
  have hfc1 := hfc0.next hbc
  have hBc1 := hBc0.trans (hbc.mono hBc0.size)
  clear hbc
  go_wp2_with fail
  refine (cE _).mono ?_
  rintro e wc2 ⟨rfl, hbc⟩
  have hfc2 := hfc1.next hbc
  have hBc2 := hBc1.trans (hbc.mono hBc1.size)
  clear hbc
  go_wp2_with fail
  refine (cE _).mono ?_
  rintro e wc3 ⟨rfl, hbc⟩
  have hfc3 := hfc2.next hbc
  have hBc3 := hBc2.trans (hbc.mono hBc2.size)
  clear hbc
  have HBL := hide hBc3
  have HFL := hfc3.hid
  clear C0 C1 C2 C3 cE hf2 hB2 E0 E1 E2 E3 F1 F2 F3 F5 Z4 HSEC h0 e0 hfc0 hBc0 hfc1 hBc1 hfc2 hBc2 hfc3 hBc3
  have p0 := HFL.out
  have q0 := p0.cell 0
  have q1 := p0.cell 1
  have q2 := p0.cell 2
  have q3 := p0.cell 3
  have qf := p0.free
  simp only [List.getElem?_toArray, List.getElem?_cons_succ, List.getElem?_cons_zero] at q0 q1 q2 q3
  clear p0
  go_wp2
  refine bodyPost_ret (v := .tuple #[.agg #[.slice none 0 0, .int .i64 0, .int .i64 0, .int .i64 0], .bool false]) (by simp [results, Try.results28, go_sem, q0, q1, q2, q3]) rfl (bad_endV HV.out ?_)
  exact (((HBL.out.setCell (Nat.le_refl _) _).setCell (Nat.le_refl _) _).setCell (Nat.le_refl _) _).setCell (Nat.le_refl _) _

set_option linter.unusedVariables false in
set_option linter.unusedSimpArgs false in
set_option maxHeartbeats 8000000 in
theorem spec_ReadVersion_1 (s : ByteArray) (hs : s.size ≤ 1048576) (hsec : sect (vB s) = s) (h0 : (li (vB s)).2.2 = true) (h1 : (li (v1 s)).2.2 = false) (w : World) :
    Calls Try.prog 28 #[.string s] w fun e w' => (∃ v, e = .returned (.tuple #[v, .bool (vOk s)]) ∧ VersionOwn w' w.heap.size v (readV s)) ∧ Below w.heap.size w w' := by
  obtain ⟨zB, z1, z2, z3, z4⟩ := v_size s
  have hvB := vB_le s
  have hb0 := below_one w (.cells #[.slice none 0 0, .int .i64 0, .int .i64 0, .int .i64 0] 46)
  have hf0 := BoxIs.new w #[.slice none 0 0, .int .i64 0, .int .i64 0, .int .i64 0] 46 rfl
  have cE := fun wx => spec_l12Int ⟨#[]⟩ (by decide) wx
  simp only [li_empty] at cE
  go_enter Try.func28, Try.ntmps28
  go_wp2_with fail
  generalize w.alloc (.cells #[.slice none 0 0, .int .i64 0, .int .i64 0, .int .i64 0] 46) = W at hb0 hf0 ⊢
  refine (spec_l10Take s hs W).mono ?_
  rintro e w1 ⟨⟨b, ok, rfl, hok1, hok2, hbz⟩, hb1⟩
  have hf1 := hf0.next hb1
  have hB1 := hb0.trans (hb1.mono hb0.size)
  clear hb0 hf0 hb1
  obtain rfl := hok2 hsec.symm
  obtain rfl := hok1 rfl
  clear hok1 hok2 hbz
  go_wp2_with fail
  refine (spec_section (vB s) (by omega) _).mono ?_
  rintro e w2 ⟨rfl, hb2⟩
  have hf2 := hf1.next hb2
  have hB2 := hB1.trans (hb2.mono hB1.size)
  clear hb2 hf1 hB1
  rw [hsec]
  have HSEC : Hid (s = sect (vB s)) := hsec.symm
  clear hsec
  have C0 := fun wx => spec_l12Int (vB s) (by omega) wx
  have C1 := fun wx => spec_l12Int (v1 s) (by omega) wx
  have C2 := fun wx => spec_l12Int (v2 s) (by omega) wx
  have C3 := fun wx => spec_l12Int (v3 s) (by omega) wx
  have Z4 : Hid ((v4 s).size ≤ 1048576) := by show _ ≤ _; omega
  have F1 : Hid (vOk s = true → (li (vB s)).2.2 = true ∧ (li (v1 s)).2.2 = true ∧ (li (v2 s)).2.2 = true ∧ (li (v3 s)).2.2 = true ∧ (rnum (v3 s)).1 ≤ 30 ∧ (∀ j, j < vN s → mtS (rdv (v4 s) j).2 = true) ∧ (rdv (v4 s) (vN s)).2.size = 0 ∧ versB (vC s) = true) := fun h => by
    obtain ⟨_, _, a, b, c, d, e, f, g⟩ := ver_ok h
    exact ⟨a, b, c, d, e, f, g, (vOk_out h).1⟩
  have F2 : Hid ((li (vB s)).2.2 = true → (li (v1 s)).2.2 = true → (li (v2 s)).2.2 = true → (li (v3 s)).2.2 = true → (rnum (v3 s)).1 ≤ 30 → (∀ j, j < vN s → mtS (rdv (v4 s) j).2 = true) → (rdv (v4 s) (vN s)).2.size = 0 → versB (vC s) = true → vOk s = true) := fun a b c d e f g h => ver_back HSEC.out a b c d e f g h
  have F3 : Hid (vC s = vc (rdv (v4 s) (vN s)).1 (rnum (vB s)).1 (rnum (v1 s)).1 (rnum (v2 s)).1) := by show _ = _; rw [vC, vL]
  have F5 : Hid ((li (v3 s)).2.2 = true → (rnum (v3 s)).1 ≤ 30 → (rnum (v3 s)).1 = ((vN s : Nat) : Int)) := fun a b => by
    have h0 := (li_rnum a).2.2.1
    unfold vN; rw [if_pos (by omega)]; omega
  have E0 : Hid ((li (vB s)).2.2 = true → li (vB s) = ((rnum (vB s)).1, v1 s, true)) := fun h => by rw [v1_def]; exact (li_rnum h).1
  have E1 : Hid ((li (v1 s)).2.2 = true → li (v1 s) = ((rnum (v1 s)).1, v2 s, true)) := fun h => by rw [v2_def]; exact (li_rnum h).1
  have E2 : Hid ((li (v2 s)).2.2 = true → li (v2 s) = ((rnum (v2 s)).1, v3 s, true)) := fun h => by rw [v3_def]; exact (li_rnum h).1
  have E3 : Hid ((li (v3 s)).2.2 = true → li (v3 s) = ((rnum (v3 s)).1, v4 s, true)) := fun h => by rw [v4_def]; exact (li_rnum h).1
  clear zB z1 z2 z3 z4 hvB
  generalize (rnum (vB s)).1 = x1 at *
  generalize (rnum (v1 s)).1 = x2 at *
  generalize (rnum (v2 s)).1 = x3 at *
  generalize (rnum (v3 s)).1 = nn at *
  generalize v4 s = A4 at *
  generalize v3 s = A3 at *
  generalize v2 s = A2 at *
  generalize v1 s = A1 at *
  generalize vB s = AB at *
  generalize vN s = m at *
  have e0 := E0.out h0
  simp only [e0] at C0
  have e1 := li_lost h1
  simp only [e1] at C1
  have HV : Hid (vOk s = false) := vOk_lost fun h => by have := (F1.out h).2.1; rw [h1] at this; cases this
  go_wp2_with fail
  refine (C0 _).mono ?_
  rintro e wc0 ⟨rfl, hbc⟩
  have hfc0 := hf2.next hbc
  have hBc0 := hB2.trans (hbc.mono hB2.size)
  clear hbc
  go_wp2_with fail
  refine (C1 _).mono ?_
  rintro e wc1 ⟨rfl, hbc⟩
  have hfc1 := hfc0.next hbc
  have hBc1 := hBc0.trans (hbc.mono hBc0.size)
  clear hbc
  go_wp2_with fail
  refine (cE _).mono ?_
  rintro e wc2 ⟨rfl, hbc⟩
  have hfc2 := hfc1.next hbc
  have hBc2 := hBc1.trans (hbc.mono hBc1.size)
  clear hbc
  go_wp2_with fail
  refine (cE _).mono ?_
  rintro e wc3 ⟨rfl, hbc⟩
  have hfc3 := hfc2.next hbc
  have hBc3 := hBc2.trans (hbc.mono hBc2.size)
  clear hbc
  have HBL := hide hBc3
  have HFL := hfc3.hid
  clear C0 C1 C2 C3 cE hf2 hB2 E0 E1 E2 E3 F1 F2 F3 F5 Z4 HSEC h0 e0 h1 e1 hfc0 hBc0 hfc1 hBc1 hfc2 hBc2 hfc3 hBc3
  have p0 := HFL.out
  have q0 := p0.cell 0
  have q1 := p0.cell 1
  have q2 := p0.cell 2
  have q3 := p0.cell 3
  have qf := p0.free
  simp only [List.getElem?_toArray, List.getElem?_cons_succ, List.getElem?_cons_zero] at q0 q1 q2 q3
  clear p0
  go_wp2
  refine bodyPost_ret (v := .tuple #[.agg #[.slice none 0 0, .int .i64 0, .int .i64 0, .int .i64 0], .bool false]) (by simp [results, Try.results28, go_sem, q0, q1, q2, q3]) rfl (bad_endV HV.out ?_)
  exact (((HBL.out.setCell (Nat.le_refl _) _).setCell (Nat.le_refl _) _).setCell (Nat.le_refl _) _).setCell (Nat.le_refl _) _

set_option linter.unusedVariables false in
set_option linter.unusedSimpArgs false in
set_option maxHeartbeats 8000000 in
theorem spec_ReadVersion_2 (s : ByteArray) (hs : s.size ≤ 1048576) (hsec : sect (vB s) = s) (h0 : (li (vB s)).2.2 = true) (h1 : (li (v1 s)).2.2 = true) (h2 : (li (v2 s)).2.2 = false) (w : World) :
    Calls Try.prog 28 #[.string s] w fun e w' => (∃ v, e = .returned (.tuple #[v, .bool (vOk s)]) ∧ VersionOwn w' w.heap.size v (readV s)) ∧ Below w.heap.size w w' := by
  obtain ⟨zB, z1, z2, z3, z4⟩ := v_size s
  have hvB := vB_le s
  have hb0 := below_one w (.cells #[.slice none 0 0, .int .i64 0, .int .i64 0, .int .i64 0] 46)
  have hf0 := BoxIs.new w #[.slice none 0 0, .int .i64 0, .int .i64 0, .int .i64 0] 46 rfl
  have cE := fun wx => spec_l12Int ⟨#[]⟩ (by decide) wx
  simp only [li_empty] at cE
  go_enter Try.func28, Try.ntmps28
  go_wp2_with fail
  generalize w.alloc (.cells #[.slice none 0 0, .int .i64 0, .int .i64 0, .int .i64 0] 46) = W at hb0 hf0 ⊢
  refine (spec_l10Take s hs W).mono ?_
  rintro e w1 ⟨⟨b, ok, rfl, hok1, hok2, hbz⟩, hb1⟩
  have hf1 := hf0.next hb1
  have hB1 := hb0.trans (hb1.mono hb0.size)
  clear hb0 hf0 hb1
  obtain rfl := hok2 hsec.symm
  obtain rfl := hok1 rfl
  clear hok1 hok2 hbz
  go_wp2_with fail
  refine (spec_section (vB s) (by omega) _).mono ?_
  rintro e w2 ⟨rfl, hb2⟩
  have hf2 := hf1.next hb2
  have hB2 := hB1.trans (hb2.mono hB1.size)
  clear hb2 hf1 hB1
  rw [hsec]
  have HSEC : Hid (s = sect (vB s)) := hsec.symm
  clear hsec
  have C0 := fun wx => spec_l12Int (vB s) (by omega) wx
  have C1 := fun wx => spec_l12Int (v1 s) (by omega) wx
  have C2 := fun wx => spec_l12Int (v2 s) (by omega) wx
  have C3 := fun wx => spec_l12Int (v3 s) (by omega) wx
  have Z4 : Hid ((v4 s).size ≤ 1048576) := by show _ ≤ _; omega
  have F1 : Hid (vOk s = true → (li (vB s)).2.2 = true ∧ (li (v1 s)).2.2 = true ∧ (li (v2 s)).2.2 = true ∧ (li (v3 s)).2.2 = true ∧ (rnum (v3 s)).1 ≤ 30 ∧ (∀ j, j < vN s → mtS (rdv (v4 s) j).2 = true) ∧ (rdv (v4 s) (vN s)).2.size = 0 ∧ versB (vC s) = true) := fun h => by
    obtain ⟨_, _, a, b, c, d, e, f, g⟩ := ver_ok h
    exact ⟨a, b, c, d, e, f, g, (vOk_out h).1⟩
  have F2 : Hid ((li (vB s)).2.2 = true → (li (v1 s)).2.2 = true → (li (v2 s)).2.2 = true → (li (v3 s)).2.2 = true → (rnum (v3 s)).1 ≤ 30 → (∀ j, j < vN s → mtS (rdv (v4 s) j).2 = true) → (rdv (v4 s) (vN s)).2.size = 0 → versB (vC s) = true → vOk s = true) := fun a b c d e f g h => ver_back HSEC.out a b c d e f g h
  have F3 : Hid (vC s = vc (rdv (v4 s) (vN s)).1 (rnum (vB s)).1 (rnum (v1 s)).1 (rnum (v2 s)).1) := by show _ = _; rw [vC, vL]
  have F5 : Hid ((li (v3 s)).2.2 = true → (rnum (v3 s)).1 ≤ 30 → (rnum (v3 s)).1 = ((vN s : Nat) : Int)) := fun a b => by
    have h0 := (li_rnum a).2.2.1
    unfold vN; rw [if_pos (by omega)]; omega
  have E0 : Hid ((li (vB s)).2.2 = true → li (vB s) = ((rnum (vB s)).1, v1 s, true)) := fun h => by rw [v1_def]; exact (li_rnum h).1
  have E1 : Hid ((li (v1 s)).2.2 = true → li (v1 s) = ((rnum (v1 s)).1, v2 s, true)) := fun h => by rw [v2_def]; exact (li_rnum h).1
  have E2 : Hid ((li (v2 s)).2.2 = true → li (v2 s) = ((rnum (v2 s)).1, v3 s, true)) := fun h => by rw [v3_def]; exact (li_rnum h).1
  have E3 : Hid ((li (v3 s)).2.2 = true → li (v3 s) = ((rnum (v3 s)).1, v4 s, true)) := fun h => by rw [v4_def]; exact (li_rnum h).1
  clear zB z1 z2 z3 z4 hvB
  generalize (rnum (vB s)).1 = x1 at *
  generalize (rnum (v1 s)).1 = x2 at *
  generalize (rnum (v2 s)).1 = x3 at *
  generalize (rnum (v3 s)).1 = nn at *
  generalize v4 s = A4 at *
  generalize v3 s = A3 at *
  generalize v2 s = A2 at *
  generalize v1 s = A1 at *
  generalize vB s = AB at *
  generalize vN s = m at *
  have e0 := E0.out h0
  simp only [e0] at C0
  have e1 := E1.out h1
  simp only [e1] at C1
  have e2 := li_lost h2
  simp only [e2] at C2
  have HV : Hid (vOk s = false) := vOk_lost fun h => by have := (F1.out h).2.2.1; rw [h2] at this; cases this
  go_wp2_with fail
  refine (C0 _).mono ?_
  rintro e wc0 ⟨rfl, hbc⟩
  have hfc0 := hf2.next hbc
  have hBc0 := hB2.trans (hbc.mono hB2.size)
  clear hbc
  go_wp2_with fail
  refine (C1 _).mono ?_
  rintro e wc1 ⟨rfl, hbc⟩
  have hfc1 := hfc0.next hbc
  have hBc1 := hBc0.trans (hbc.mono hBc0.size)
  clear hbc
  go_wp2_with fail
  refine (C2 _).mono ?_
  rintro e wc2 ⟨rfl, hbc⟩
  have hfc2 := hfc1.next hbc
  have hBc2 := hBc1.trans (hbc.mono hBc1.size)
  clear hbc
  go_wp2_with fail
  refine (cE _).mono ?_
  rintro e wc3 ⟨rfl, hbc⟩
  have hfc3 := hfc2.next hbc
  have hBc3 := hBc2.trans (hbc.mono hBc2.size)
  clear hbc
  have HBL := hide hBc3
  have HFL := hfc3.hid
  clear C0 C1 C2 C3 cE hf2 hB2 E0 E1 E2 E3 F1 F2 F3 F5 Z4 HSEC h0 e0 h1 e1 h2 e2 hfc0 hBc0 hfc1 hBc1 hfc2 hBc2 hfc3 hBc3
  have p0 := HFL.out
  have q0 := p0.cell 0
  have q1 := p0.cell 1
  have q2 := p0.cell 2
  have q3 := p0.cell 3
  have qf := p0.free
  simp only [List.getElem?_toArray, List.getElem?_cons_succ, List.getElem?_cons_zero] at q0 q1 q2 q3
  clear p0
  go_wp2
  refine bodyPost_ret (v := .tuple #[.agg #[.slice none 0 0, .int .i64 0, .int .i64 0, .int .i64 0], .bool false]) (by simp [results, Try.results28, go_sem, q0, q1, q2, q3]) rfl (bad_endV HV.out ?_)
  exact (((HBL.out.setCell (Nat.le_refl _) _).setCell (Nat.le_refl _) _).setCell (Nat.le_refl _) _).setCell (Nat.le_refl _) _

set_option linter.unusedVariables false in
set_option linter.unusedSimpArgs false in
set_option maxHeartbeats 8000000 in
theorem spec_ReadVersion_3 (s : ByteArray) (hs : s.size ≤ 1048576) (hsec : sect (vB s) = s) (h0 : (li (vB s)).2.2 = true) (h1 : (li (v1 s)).2.2 = true) (h2 : (li (v2 s)).2.2 = true) (h3 : (li (v3 s)).2.2 = false) (w : World) :
    Calls Try.prog 28 #[.string s] w fun e w' => (∃ v, e = .returned (.tuple #[v, .bool (vOk s)]) ∧ VersionOwn w' w.heap.size v (readV s)) ∧ Below w.heap.size w w' := by
  obtain ⟨zB, z1, z2, z3, z4⟩ := v_size s
  have hvB := vB_le s
  have hb0 := below_one w (.cells #[.slice none 0 0, .int .i64 0, .int .i64 0, .int .i64 0] 46)
  have hf0 := BoxIs.new w #[.slice none 0 0, .int .i64 0, .int .i64 0, .int .i64 0] 46 rfl
  have cE := fun wx => spec_l12Int ⟨#[]⟩ (by decide) wx
  simp only [li_empty] at cE
  go_enter Try.func28, Try.ntmps28
  go_wp2_with fail
  generalize w.alloc (.cells #[.slice none 0 0, .int .i64 0, .int .i64 0, .int .i64 0] 46) = W at hb0 hf0 ⊢
  refine (spec_l10Take s hs W).mono ?_
  rintro e w1 ⟨⟨b, ok, rfl, hok1, hok2, hbz⟩, hb1⟩
  have hf1 := hf0.next hb1
  have hB1 := hb0.trans (hb1.mono hb0.size)
  clear hb0 hf0 hb1
  obtain rfl := hok2 hsec.symm
  obtain rfl := hok1 rfl
  clear hok1 hok2 hbz
  go_wp2_with fail
  refine (spec_section (vB s) (by omega) _).mono ?_
  rintro e w2 ⟨rfl, hb2⟩
  have hf2 := hf1.next hb2
  have hB2 := hB1.trans (hb2.mono hB1.size)
  clear hb2 hf1 hB1
  rw [hsec]
  have HSEC : Hid (s = sect (vB s)) := hsec.symm
  clear hsec
  have C0 := fun wx => spec_l12Int (vB s) (by omega) wx
  have C1 := fun wx => spec_l12Int (v1 s) (by omega) wx
  have C2 := fun wx => spec_l12Int (v2 s) (by omega) wx
  have C3 := fun wx => spec_l12Int (v3 s) (by omega) wx
  have Z4 : Hid ((v4 s).size ≤ 1048576) := by show _ ≤ _; omega
  have F1 : Hid (vOk s = true → (li (vB s)).2.2 = true ∧ (li (v1 s)).2.2 = true ∧ (li (v2 s)).2.2 = true ∧ (li (v3 s)).2.2 = true ∧ (rnum (v3 s)).1 ≤ 30 ∧ (∀ j, j < vN s → mtS (rdv (v4 s) j).2 = true) ∧ (rdv (v4 s) (vN s)).2.size = 0 ∧ versB (vC s) = true) := fun h => by
    obtain ⟨_, _, a, b, c, d, e, f, g⟩ := ver_ok h
    exact ⟨a, b, c, d, e, f, g, (vOk_out h).1⟩
  have F2 : Hid ((li (vB s)).2.2 = true → (li (v1 s)).2.2 = true → (li (v2 s)).2.2 = true → (li (v3 s)).2.2 = true → (rnum (v3 s)).1 ≤ 30 → (∀ j, j < vN s → mtS (rdv (v4 s) j).2 = true) → (rdv (v4 s) (vN s)).2.size = 0 → versB (vC s) = true → vOk s = true) := fun a b c d e f g h => ver_back HSEC.out a b c d e f g h
  have F3 : Hid (vC s = vc (rdv (v4 s) (vN s)).1 (rnum (vB s)).1 (rnum (v1 s)).1 (rnum (v2 s)).1) := by show _ = _; rw [vC, vL]
  have F5 : Hid ((li (v3 s)).2.2 = true → (rnum (v3 s)).1 ≤ 30 → (rnum (v3 s)).1 = ((vN s : Nat) : Int)) := fun a b => by
    have h0 := (li_rnum a).2.2.1
    unfold vN; rw [if_pos (by omega)]; omega
  have E0 : Hid ((li (vB s)).2.2 = true → li (vB s) = ((rnum (vB s)).1, v1 s, true)) := fun h => by rw [v1_def]; exact (li_rnum h).1
  have E1 : Hid ((li (v1 s)).2.2 = true → li (v1 s) = ((rnum (v1 s)).1, v2 s, true)) := fun h => by rw [v2_def]; exact (li_rnum h).1
  have E2 : Hid ((li (v2 s)).2.2 = true → li (v2 s) = ((rnum (v2 s)).1, v3 s, true)) := fun h => by rw [v3_def]; exact (li_rnum h).1
  have E3 : Hid ((li (v3 s)).2.2 = true → li (v3 s) = ((rnum (v3 s)).1, v4 s, true)) := fun h => by rw [v4_def]; exact (li_rnum h).1
  clear zB z1 z2 z3 z4 hvB
  generalize (rnum (vB s)).1 = x1 at *
  generalize (rnum (v1 s)).1 = x2 at *
  generalize (rnum (v2 s)).1 = x3 at *
  generalize (rnum (v3 s)).1 = nn at *
  generalize v4 s = A4 at *
  generalize v3 s = A3 at *
  generalize v2 s = A2 at *
  generalize v1 s = A1 at *
  generalize vB s = AB at *
  generalize vN s = m at *
  have e0 := E0.out h0
  simp only [e0] at C0
  have e1 := E1.out h1
  simp only [e1] at C1
  have e2 := E2.out h2
  simp only [e2] at C2
  have e3 := li_lost h3
  simp only [e3] at C3
  have HV : Hid (vOk s = false) := vOk_lost fun h => by have := (F1.out h).2.2.2.1; rw [h3] at this; cases this
  go_wp2_with fail
  refine (C0 _).mono ?_
  rintro e wc0 ⟨rfl, hbc⟩
  have hfc0 := hf2.next hbc
  have hBc0 := hB2.trans (hbc.mono hB2.size)
  clear hbc
  go_wp2_with fail
  refine (C1 _).mono ?_
  rintro e wc1 ⟨rfl, hbc⟩
  have hfc1 := hfc0.next hbc
  have hBc1 := hBc0.trans (hbc.mono hBc0.size)
  clear hbc
  go_wp2_with fail
  refine (C2 _).mono ?_
  rintro e wc2 ⟨rfl, hbc⟩
  have hfc2 := hfc1.next hbc
  have hBc2 := hBc1.trans (hbc.mono hBc1.size)
  clear hbc
  go_wp2_with fail
  refine (C3 _).mono ?_
  rintro e wc3 ⟨rfl, hbc⟩
  have hfc3 := hfc2.next hbc
  have hBc3 := hBc2.trans (hbc.mono hBc2.size)
  clear hbc
  have HBL := hide hBc3
  have HFL := hfc3.hid
  clear C0 C1 C2 C3 cE hf2 hB2 E0 E1 E2 E3 F1 F2 F3 F5 Z4 HSEC h0 e0 h1 e1 h2 e2 h3 e3 hfc0 hBc0 hfc1 hBc1 hfc2 hBc2 hfc3 hBc3
  have p0 := HFL.out
  have q0 := p0.cell 0
  have q1 := p0.cell 1
  have q2 := p0.cell 2
  have q3 := p0.cell 3
  have qf := p0.free
  simp only [List.getElem?_toArray, List.getElem?_cons_succ, List.getElem?_cons_zero] at q0 q1 q2 q3
  clear p0
  go_wp2
  refine bodyPost_ret (v := .tuple #[.agg #[.slice none 0 0, .int .i64 0, .int .i64 0, .int .i64 0], .bool false]) (by simp [results, Try.results28, go_sem, q0, q1, q2, q3]) rfl (bad_endV HV.out ?_)
  exact (((HBL.out.setCell (Nat.le_refl _) _).setCell (Nat.le_refl _) _).setCell (Nat.le_refl _) _).setCell (Nat.le_refl _) _

set_option linter.unusedVariables false in
set_option linter.unusedSimpArgs false in
set_option maxHeartbeats 8000000 in
theorem spec_ReadVersion_many (s : ByteArray) (hs : s.size ≤ 1048576) (hsec : sect (vB s) = s) (h0 : (li (vB s)).2.2 = true) (h1 : (li (v1 s)).2.2 = true) (h2 : (li (v2 s)).2.2 = true) (h3 : (li (v3 s)).2.2 = true) (hn : ¬ (rnum (v3 s)).1 ≤ 30) (w : World) :
    Calls Try.prog 28 #[.string s] w fun e w' => (∃ v, e = .returned (.tuple #[v, .bool (vOk s)]) ∧ VersionOwn w' w.heap.size v (readV s)) ∧ Below w.heap.size w w' := by
  obtain ⟨zB, z1, z2, z3, z4⟩ := v_size s
  have hvB := vB_le s
  have hb0 := below_one w (.cells #[.slice none 0 0, .int .i64 0, .int .i64 0, .int .i64 0] 46)
  have hf0 := BoxIs.new w #[.slice none 0 0, .int .i64 0, .int .i64 0, .int .i64 0] 46 rfl
  have cE := fun wx => spec_l12Int ⟨#[]⟩ (by decide) wx
  simp only [li_empty] at cE
  go_enter Try.func28, Try.ntmps28
  go_wp2_with fail
  generalize w.alloc (.cells #[.slice none 0 0, .int .i64 0, .int .i64 0, .int .i64 0] 46) = W at hb0 hf0 ⊢
  refine (spec_l10Take s hs W).mono ?_
  rintro e w1 ⟨⟨b, ok, rfl, hok1, hok2, hbz⟩, hb1⟩
  have hf1 := hf0.next hb1
  have hB1 := hb0.trans (hb1.mono hb0.size)
  clear hb0 hf0 hb1
  obtain rfl := hok2 hsec.symm
  obtain rfl := hok1 rfl
  clear hok1 hok2 hbz
  go_wp2_with fail
  refine (spec_section (vB s) (by omega) _).mono ?_
  rintro e w2 ⟨rfl, hb2⟩
  have hf2 := hf1.next hb2
  have hB2 := hB1.trans (hb2.mono hB1.size)
  clear hb2 hf1 hB1
  rw [hsec]
  have HSEC : Hid (s = sect (vB s)) := hsec.symm
  clear hsec
  have C0 := fun wx => spec_l12Int (vB s) (by omega) wx
  have C1 := fun wx => spec_l12Int (v1 s) (by omega) wx
  have C2 := fun wx => spec_l12Int (v2 s) (by omega) wx
  have C3 := fun wx => spec_l12Int (v3 s) (by omega) wx
  have Z4 : Hid ((v4 s).size ≤ 1048576) := by show _ ≤ _; omega
  have F1 : Hid (vOk s = true → (li (vB s)).2.2 = true ∧ (li (v1 s)).2.2 = true ∧ (li (v2 s)).2.2 = true ∧ (li (v3 s)).2.2 = true ∧ (rnum (v3 s)).1 ≤ 30 ∧ (∀ j, j < vN s → mtS (rdv (v4 s) j).2 = true) ∧ (rdv (v4 s) (vN s)).2.size = 0 ∧ versB (vC s) = true) := fun h => by
    obtain ⟨_, _, a, b, c, d, e, f, g⟩ := ver_ok h
    exact ⟨a, b, c, d, e, f, g, (vOk_out h).1⟩
  have F2 : Hid ((li (vB s)).2.2 = true → (li (v1 s)).2.2 = true → (li (v2 s)).2.2 = true → (li (v3 s)).2.2 = true → (rnum (v3 s)).1 ≤ 30 → (∀ j, j < vN s → mtS (rdv (v4 s) j).2 = true) → (rdv (v4 s) (vN s)).2.size = 0 → versB (vC s) = true → vOk s = true) := fun a b c d e f g h => ver_back HSEC.out a b c d e f g h
  have F3 : Hid (vC s = vc (rdv (v4 s) (vN s)).1 (rnum (vB s)).1 (rnum (v1 s)).1 (rnum (v2 s)).1) := by show _ = _; rw [vC, vL]
  have F5 : Hid ((li (v3 s)).2.2 = true → (rnum (v3 s)).1 ≤ 30 → (rnum (v3 s)).1 = ((vN s : Nat) : Int)) := fun a b => by
    have h0 := (li_rnum a).2.2.1
    unfold vN; rw [if_pos (by omega)]; omega
  have E0 : Hid ((li (vB s)).2.2 = true → li (vB s) = ((rnum (vB s)).1, v1 s, true)) := fun h => by rw [v1_def]; exact (li_rnum h).1
  have E1 : Hid ((li (v1 s)).2.2 = true → li (v1 s) = ((rnum (v1 s)).1, v2 s, true)) := fun h => by rw [v2_def]; exact (li_rnum h).1
  have E2 : Hid ((li (v2 s)).2.2 = true → li (v2 s) = ((rnum (v2 s)).1, v3 s, true)) := fun h => by rw [v3_def]; exact (li_rnum h).1
  have E3 : Hid ((li (v3 s)).2.2 = true → li (v3 s) = ((rnum (v3 s)).1, v4 s, true)) := fun h => by rw [v4_def]; exact (li_rnum h).1
  clear zB z1 z2 z3 z4 hvB
  generalize (rnum (vB s)).1 = x1 at *
  generalize (rnum (v1 s)).1 = x2 at *
  generalize (rnum (v2 s)).1 = x3 at *
  generalize (rnum (v3 s)).1 = nn at *
  generalize v4 s = A4 at *
  generalize v3 s = A3 at *
  generalize v2 s = A2 at *
  generalize v1 s = A1 at *
  generalize vB s = AB at *
  generalize vN s = m at *
  have e0 := E0.out h0
  simp only [e0] at C0
  have e1 := E1.out h1
  simp only [e1] at C1
  have e2 := E2.out h2
  simp only [e2] at C2
  have e3 := E3.out h3
  simp only [e3] at C3
  have hns : (30 : Int) < nn := by omega
  have HV : Hid (vOk s = false) := vOk_lost fun h => by have := (F1.out h).2.2.2.2.1; omega
  clear hn
  go_wp2_with fail
  refine (C0 _).mono ?_
  rintro e wc0 ⟨rfl, hbc⟩
  have hfc0 := hf2.next hbc
  have hBc0 := hB2.trans (hbc.mono hB2.size)
  clear hbc
  go_wp2_with fail
  refine (C1 _).mono ?_
  rintro e wc1 ⟨rfl, hbc⟩
  have hfc1 := hfc0.next hbc
  have hBc1 := hBc0.trans (hbc.mono hBc0.size)
  clear hbc
  go_wp2_with fail
  refine (C2 _).mono ?_
  rintro e wc2 ⟨rfl, hbc⟩
  have hfc2 := hfc1.next hbc
  have hBc2 := hBc1.trans (hbc.mono hBc1.size)
  clear hbc
  go_wp2_with fail
  refine (C3 _).mono ?_
  rintro e wc3 ⟨rfl, hbc⟩
  have hfc3 := hfc2.next hbc
  have hBc3 := hBc2.trans (hbc.mono hBc2.size)
  clear hbc
  have HBL := hide hBc3
  have HFL := hfc3.hid
  clear C0 C1 C2 C3 cE hf2 hB2 E0 E1 E2 E3 F1 F2 F3 F5 Z4 HSEC h0 e0 h1 e1 h2 e2 h3 e3 hfc0 hBc0 hfc1 hBc1 hfc2 hBc2 hfc3 hBc3
  have p0 := HFL.out
  have q0 := p0.cell 0
  have q1 := p0.cell 1
  have q2 := p0.cell 2
  have q3 := p0.cell 3
  have qf := p0.free
  simp only [List.getElem?_toArray, List.getElem?_cons_succ, List.getElem?_cons_zero] at q0 q1 q2 q3
  clear p0
  go_wp2
  refine bodyPost_ret (v := .tuple #[.agg #[.slice none 0 0, .int .i64 0, .int .i64 0, .int .i64 0], .bool false]) (by simp [results, Try.results28, go_sem, q0, q1, q2, q3]) rfl (bad_endV HV.out ?_)
  exact (((HBL.out.setCell (Nat.le_refl _) _).setCell (Nat.le_refl _) _).setCell (Nat.le_refl _) _).setCell (Nat.le_refl _) _

end Go.Proofs.Ytplemoedpdammaa
