/- What an op makes of files, and whether a disk is right, of the model. (By gen_dsks.py.) -/
import Derived.Test.YtejedpmkbkclhaaFsS
import Derived.Test.YtejedpmkbkclhaaSeeO
import Derived.Test.YtejedpmkbkclhaaIn1
import Derived.Laws.StructEq
namespace Go.Proofs.Ytejedpmkbkclhaa
set_option maxRecDepth 100000
open Go.RowKit Go.Deep

/-- 'append(v, nil...)', whatever the nil slice's room. -/
theorem run_append_noneF {P : Program} {w : World} (base : Nat) (t ty e : TypeId) (i : TypeInfo) (size : Nat) (ht : P.underlying t = some (.slice e)) (hi : P.info? e = some i)
    (v : Value) (n : Nat) (xs : List Value) (hown : w.ownsRow base e size v n xs) (c : Nat) :
    (Builtin.append_ #[t, t] ty #[v, .slice none 0 c]).run P w = .ok v w := by
  rcases hown.2 with ⟨rfl, rfl⟩ | ⟨g, cap, cur, rfl, _, _, hnc, _⟩
  · simp [Builtin.append_, run_underlying ht, sizeOf, typeInfo, hi, Builtin.lenOf, Builtin.firstCells]
  · simp [Builtin.append_, run_underlying ht, sizeOf, typeInfo, hi, Builtin.lenOf, Builtin.firstCells, hnc, storeCells]
theorem fileAt_news {w : World} {b off n : Nat} {O : Files} (h : ∀ i, i < n → w.cell? ⟨b, off + i * 2, none⟩ = some (.string (O.N i)) ∧ w.cell? ⟨b, off + i * 2 + 1, none⟩ = some (.string (O.D i))) :
    ∀ j u, (cellsFile (filesL O n))[j]? = some u → w.cell? ((⟨b, off, none⟩ : Addr).add j) = some u := fun j u hu => by
  have hj : j < n * 2 := by have := (List.getElem?_eq_some_iff.1 hu).1; rwa [cellsFile_len, filesL_len] at this
  have hi : j / 2 < n := by omega
  obtain ⟨c0, c1⟩ := h (j / 2) hi
  have hg : (filesL O n)[j / 2]? = some (fileAt1 O (j / 2)) := by simp [filesL, hi]
  obtain ⟨d0, d1⟩ := cellsFile_get _ _ _ hg
  rw [Addr.add_lit]
  show w.cell? ⟨b, off + j, none⟩ = some u
  have hlt : j % 2 < 2 := Nat.mod_lt _ (by decide)
  have hcase : j % 2 = 0 ∨ j % 2 = 1 := by omega
  rcases hcase with e | e
  · rw [show j = j / 2 * 2 by omega, d0] at hu
    rw [show off + j = off + j / 2 * 2 by omega, c0]; exact hu
  · rw [show j = j / 2 * 2 + 1 by omega, d1] at hu
    rw [show off + j = off + j / 2 * 2 + 1 by omega, c1]; exact hu
/-- 'append(v, u...)', u a row of files that lies anywhere (or nil). -/
theorem wpList_append_fileAt {w : World} {ops : Array Oper} {rest : List Oper} {o : Oper} {a : Act} {Q : Exit → Act → World → Prop} (hgd : o.guard = none) (s x : Operand) (t : TypeId)
    (ho : o.op = .call { callee := .builtin .append, args := #[s, x], argTypes := #[t, t] }) (ht : Try.prog.underlying t = some (.slice 96))
    (B : Nat) (v : Value) (es : List File1) (hs : a.eval s = v) (hown : OwnFile w B v es) (ba : Option Addr) (n c : Nat) (O : Files) (hx : a.eval x = .slice ba n c) (hsrc : FileAt w w.heap.size ba n O) (hB : B ≤ w.heap.size) (hlen : es.length + n ≤ 1000000)
    (h : ∀ v' w', OwnFile w' B v' (es ++ filesL O n) → Below B w w' → wpList Try.prog ops Q rest (a.put o.dst v') w') : wpList Try.prog ops Q (o :: rest) a w := by
  obtain ⟨i0, hi', hz0, hs0, hb0⟩ := info_parts file_info
  by_cases hn : n = 0
  · subst hn
    have e0 : filesL O 0 = [] := rfl
    rw [e0, List.append_nil] at h
    cases ba with
    | none =>
      refine wpList_plain hgd fun _ hK => ?_
      have hr := run_append_noneF (P := Try.prog) (w := w) B t o.type 96 i0 _ ht hi' v es.length (cellsFile es) hown c
      unfold Oper.wp execOp
      simp only [ho, resolve, invoke, builtin, Sem.run_bind, Sem.run_pure, Result.andThen_ok, List.map_toArray, List.map_cons, List.map_nil, hs, hx, hr]
      exact hK _ _ (h v w hown (Below.refl _ _))
    | some ad =>
      exact wpList_append_file hgd s x t ho ht B v es [] hs hown ad 0 c hx rfl (fun j u hu => by simp [cellsFile] at hu) hB hlen (by rw [List.append_nil]; exact h)
  · rcases hsrc with hz | ⟨b, off, rfl, hb, hc⟩
    · exact absurd hz hn
    · exact wpList_append_file hgd s x t ho ht B v es (filesL O n) hs hown ⟨b, off, none⟩ n c hx (filesL_len O n) (fileAt_news hc) hB hlen h

set_option linter.unusedVariables false in
set_option linter.unusedSimpArgs false in
set_option maxHeartbeats 8000000 in
theorem spec_l6Form (k : Int) (m t d : ByteArray) (w : World) :
    Calls Try.prog 43 #[.agg #[.int .i64 k, .string m, .string t, .string d]] w fun e w' => e = .returned (.bool (formB ⟨k, m, t, d⟩)) ∧ Below w.heap.size w w' := by
  have hb := below_one w (.cells #[.int .i64 k, .string m, .string t, .string d] 40)
  have HG := (BoxIs.new w #[.int .i64 k, .string m, .string t, .string d] 40 rfl).hid
  have HB := hide hb
  have g0 := HG.out.cell 0
  simp only [List.getElem?_toArray, List.getElem?_cons_succ, List.getElem?_cons_zero] at g0
  clear hb
  go_enter Try.func43, Try.ntmps43
  go_wp2_with fail
  clear g0
  generalize w.alloc (.cells #[.int .i64 k, .string m, .string t, .string d] 40) = W at HB HG ⊢
  obtain ⟨G, hGe⟩ : ∃ G, w.heap.size = G := ⟨_, rfl⟩
  rw [hGe] at HG ⊢
  clear hGe
  refine (spec_l1In k 1 3 W).mono ?_
  rintro e w1 ⟨rfl, rfl⟩
  have g0 := HG.out.cell 0
  have g1 := HG.out.cell 1
  have g2 := HG.out.cell 2
  have g3 := HG.out.cell 3
  simp only [List.getElem?_toArray, List.getElem?_cons_succ, List.getElem?_cons_zero] at g0 g1 g2 g3
  by_cases hin : 1 ≤ k ∧ k ≤ 3
  · have hin2 : decide (1 ≤ k ∧ k ≤ 3) = true := decide_eq_true hin
    rw [hin2]
    clear hin2
    go_wp2_with fail
    clear g0 g1 g2 g3
    refine (spec_l6Name m _).mono ?_
    rintro e w2 ⟨rfl, hb2⟩
    have HB2 := hide (HB.out.trans (hb2.mono HB.out.size))
    have HG2 := (HG.out.next hb2).hid
    clear hb2 HB HG
    have g0 := HG2.out.cell 0
    have g1 := HG2.out.cell 1
    have g2 := HG2.out.cell 2
    have g3 := HG2.out.cell 3
    simp only [List.getElem?_toArray, List.getElem?_cons_succ, List.getElem?_cons_zero] at g0 g1 g2 g3
    cases hnb : nameB m with
    | false =>
      have HV := hide (form_name (x := ⟨k, m, t, d⟩) hnb)
      clear hnb hin
      go_wp2
      go_ret
      exact ⟨(congrArg (fun q => Ending.returned (Value.bool q)) HV.out).symm, HB2.out⟩
    | true =>
      by_cases hk2 : k = 2
      · have HVV := hide (form_ren (t := t) (d := d) hnb hk2)
        clear hnb hin
        subst hk2
        go_wp2_with fail
        clear g0 g1 g2 g3
        refine (spec_l6Name t _).mono ?_
        rintro e w3 ⟨rfl, hb3⟩
        have HB3 := hide (HB2.out.trans (hb3.mono HB2.out.size))
        have HG3 := (HG2.out.next hb3).hid
        clear hb3 HB2 HG2
        have g3 := HG3.out.cell 3
        simp only [List.getElem?_toArray, List.getElem?_cons_succ, List.getElem?_cons_zero] at g3
        cases hnt : nameB t with
        | false =>
          have HV : Hid (formB ⟨2, m, t, d⟩ = false) := by show _ = _; rw [HVV.out, hnt]; rfl
          clear hnt
          go_wp2
          go_ret
          exact ⟨(congrArg (fun q => Ending.returned (Value.bool q)) HV.out).symm, HB3.out⟩
        | true =>
          have HV : Hid (formB ⟨2, m, t, d⟩ = d.toList.isEmpty) := by show _ = _; rw [HVV.out, hnt, emp_eq]; rfl
          clear hnt
          go_wp2
          go_ret
          exact ⟨(congrArg (fun q => Ending.returned (Value.bool q)) HV.out).symm, HB3.out⟩
      · cases hte : t.toList.isEmpty with
        | false =>
          have hts : decide (t.size = 0) = false := by rw [← emp_eq]; exact hte
          have HV : Hid (formB ⟨k, m, t, d⟩ = false) := by
            show _ = _
            by_cases h1 : k = 1
            · rw [form_app hnb h1, hts]
            · rw [form_rem hnb (by omega), hts]; rfl
          clear hnb hin hts
          go_wp2
          go_ret
          exact ⟨(congrArg (fun q => Ending.returned (Value.bool q)) HV.out).symm, HB2.out⟩
        | true =>
          have hts : decide (t.size = 0) = true := by rw [← emp_eq]; exact hte
          by_cases h1 : k = 1
          · have HV : Hid (formB ⟨k, m, t, d⟩ = true) := by show _ = _; rw [form_app hnb h1, hts]
            clear hnb hin hts
            subst h1
            go_wp2
            go_ret
            exact ⟨(congrArg (fun q => Ending.returned (Value.bool q)) HV.out).symm, HB2.out⟩
          · have hk3 : k = 3 := by omega
            have HV : Hid (formB ⟨k, m, t, d⟩ = d.toList.isEmpty) := by show _ = _; rw [form_rem hnb hk3, hts, emp_eq]; rfl
            clear hnb hin hts h1 hk2
            subst hk3
            go_wp2
            go_ret
            exact ⟨(congrArg (fun q => Ending.returned (Value.bool q)) HV.out).symm, HB2.out⟩
  · have hin2 : decide (1 ≤ k ∧ k ≤ 3) = false := decide_eq_false hin
    have HV := hide (form_none (n := m) (t := t) (d := d) (show k ≠ 1 by omega) (show k ≠ 2 by omega) (show k ≠ 3 by omega))
    rw [hin2]
    clear hin2 hin
    go_wp2
    go_ret
    exact ⟨(congrArg (fun q => Ending.returned (Value.bool q)) HV.out).symm, HB.out⟩

theorem do_app {L : List File1} {k : Int} {m t d : ByteArray} (h : k = 1) : doB L ⟨k, m, t, d⟩ = true ∧ doF L ⟨k, m, t, d⟩ = putF L m ((lkF L m).getD ⟨#[]⟩ ++ d) := by
  unfold doB doF; rw [if_pos h, decide_eq_true h]; exact ⟨rfl, rfl⟩
theorem do_no {L : List File1} {k : Int} {m t d : ByteArray} (h : k ≠ 1) (hl : lkF L m = none) : doB L ⟨k, m, t, d⟩ = false ∧ doF L ⟨k, m, t, d⟩ = L := by
  unfold doB doF; rw [if_neg h, decide_eq_false h, hl]; exact ⟨rfl, rfl⟩
theorem do_ren {L : List File1} {k : Int} {m t d x : ByteArray} (h : k = 2) (hl : lkF L m = some x) : doB L ⟨k, m, t, d⟩ = true ∧ doF L ⟨k, m, t, d⟩ = putF (cutF L m) t x := by
  unfold doB doF; rw [if_neg (by show ¬ k = 1; omega), hl]; exact ⟨by simp, by simp [h]⟩
theorem do_rem {L : List File1} {k : Int} {m t d x : ByteArray} (h1 : k ≠ 1) (h : k ≠ 2) (hl : lkF L m = some x) : doB L ⟨k, m, t, d⟩ = true ∧ doF L ⟨k, m, t, d⟩ = cutF L m := by
  unfold doB doF; rw [if_neg (by show ¬ k = 1; omega), hl]; exact ⟨by simp, by simp [h]⟩

set_option linter.unusedVariables false in
set_option linter.unusedSimpArgs false in
set_option maxHeartbeats 8000000 in
theorem spec_l6Do (a : Option Addr) (n cap : Nat) (O : Files) (k : Int) (m t d : ByteArray) (w : World) (hn : n ≤ 1000) (hr : RisF (filesL O n)) (hz : ∀ i, i < n → (O.D i).size ≤ 90000000) (hd : d.size ≤ 10000000) (hS : FileAt w w.heap.size a n O) :
    Calls Try.prog 42 #[.slice a n cap, .agg #[.int .i64 k, .string m, .string t, .string d]] w fun e w' => (∃ v, e = .returned (.tuple #[v, .bool (doB (filesL O n) ⟨k, m, t, d⟩)]) ∧ OwnFile w' w.heap.size v (doF (filesL O n) ⟨k, m, t, d⟩)) ∧ Below w.heap.size w w' := by
  have hb := below_one w (.cells #[.int .i64 k, .string m, .string t, .string d] 40)
  have HG := (BoxIs.new w #[.int .i64 k, .string m, .string t, .string d] 40 rfl).hid
  have HB := hide hb
  have HS := (hS.next hb).hid
  have HRI := hide hr
  have HZ := hide hz
  have g1 := HG.out.cell 1
  simp only [List.getElem?_toArray, List.getElem?_cons_succ, List.getElem?_cons_zero] at g1
  clear hb hS hr hz
  go_enter Try.func42, Try.ntmps42
  go_wp2_with fail
  clear g1
  generalize w.alloc (.cells #[.int .i64 k, .string m, .string t, .string d] 40) = W at HB HG HS ⊢
  obtain ⟨G, hGe⟩ : ∃ G, w.heap.size = G := ⟨_, rfl⟩
  rw [hGe] at HG ⊢
  clear hGe
  refine (spec_l6At a n cap O m W (by omega) HS.out).mono ?_
  rintro e w1 ⟨⟨i, rfl, hi⟩, hb1⟩
  have HB1 := hide (HB.out.trans (hb1.mono HB.out.size))
  have HG1 := (HG.out.next hb1).hid
  have HS1 := (HS.out.next hb1).hid
  clear hb1 HB HG HS
  have g0 := HG1.out.cell 0
  have g1 := HG1.out.cell 1
  have g2 := HG1.out.cell 2
  have g3 := HG1.out.cell 3
  simp only [List.getElem?_toArray, List.getElem?_cons_succ, List.getElem?_cons_zero] at g0 g1 g2 g3
  by_cases hk1 : k = 1
  · obtain ⟨e1, e2⟩ := do_app (L := filesL O n) (m := m) (t := t) (d := d) hk1
    have E1 := hide e1
    have E2 := hide e2
    clear e1 e2
    subst hk1
    rcases hi with ⟨rfl, hl⟩ | ⟨j, hj, rfl, hl⟩
    · have HD : Hid ((lkF (filesL O n) m).getD ⟨#[]⟩ ++ d = d) := by show _ = _; rw [hl]; exact ByteArray.empty_append
      clear hl
      go_wp2_with fail
      refine (spec_l6Put a n cap O m d w1 (by omega) HRI.out HS1.out).mono ?_
      rintro e w2 ⟨⟨v, rfl, ho⟩, hb2⟩
      have HO : Hid (OwnFile w2 w1.heap.size v (doF (filesL O n) ⟨1, m, t, d⟩)) := by show OwnFile _ _ _ _; rw [E2.out, HD.out]; exact ho
      have HB2 := hide (HB1.out.trans (hb2.mono HB1.out.size))
      have hbs := HB1.out.size
      clear ho hb2 g0 g1 g2 g3
      go_wp2
      go_ret2
      exact ⟨⟨v, (congrArg (fun q => Ending.returned (Value.tuple #[v, .bool q])) E1.out).symm, HO.out.base (by omega)⟩, HB2.out⟩
    · obtain ⟨b, off, rfl, hb, c0, c1⟩ := HS1.out.at hj
      have hji : (j : Int) < (n : Int) := by omega
      have hzj := HZ.out j hj
      have HD : Hid ((lkF (filesL O n) m).getD ⟨#[]⟩ ++ d = O.D j ++ d) := by show _ = _; rw [hl]; rfl
      clear hl
      go_wp2_with fail
      refine (spec_l6Put (some ⟨b, off, none⟩) n cap O m (O.D j ++ d) w1 (by omega) HRI.out HS1.out).mono ?_
      rintro e w2 ⟨⟨v, rfl, ho⟩, hb2⟩
      have HO : Hid (OwnFile w2 w1.heap.size v (doF (filesL O n) ⟨1, m, t, d⟩)) := by show OwnFile _ _ _ _; rw [E2.out, HD.out]; exact ho
      have HB2 := hide (HB1.out.trans (hb2.mono HB1.out.size))
      have hbs := HB1.out.size
      clear ho hb2 g0 g1 g2 g3 c0 c1
      go_wp2
      go_ret2
      exact ⟨⟨v, (congrArg (fun q => Ending.returned (Value.tuple #[v, .bool q])) E1.out).symm, HO.out.base (by omega)⟩, HB2.out⟩
  · rcases hi with ⟨rfl, hl⟩ | ⟨j, hj, rfl, hl⟩
    · obtain ⟨e1, e2⟩ := do_no (L := filesL O n) (m := m) (t := t) (d := d) hk1 hl
      have E1 := hide e1
      have E2 := hide e2
      have hbE := below_one w1 (.cells #[] 96)
      have HO1 := (OwnFile.lit w1 w.heap.size HB1.out.size).hid
      have HS2 := (HS1.out.next hbE).hid
      have HB2 := hide (HB1.out.trans (hbE.mono HB1.out.size))
      have hbs := HB2.out.size
      clear e1 e2 hl hbE
      go_wp2_with (first
        | (at_builtin; refine wpList_append_fileAt rfl _ _ 28 rfl Try.underlying28 w.heap.size _ [] (by rfl) HO1.out a n cap O (by rfl) HS2.out hbs (by simp; omega) ?_))
      intro v2 w2 hO2 hB2
      have h2 : OwnFile w2 w.heap.size v2 (doF (filesL O n) ⟨k, m, t, d⟩) := by rw [E2.out]; simpa using hO2
      have HO2 := h2.hid
      have HB3 := hide (HB2.out.trans hB2)
      clear hO2 h2 hB2 HO1 HS2 HB2 g0 g1 g2 g3
      go_wp2
      go_ret2
      exact ⟨⟨v2, (congrArg (fun q => Ending.returned (Value.tuple #[v2, .bool q])) E1.out).symm, HO2.out⟩, HB3.out⟩
    · obtain ⟨b, off, rfl, hb, c0, c1⟩ := HS1.out.at hj
      have hji : (j : Int) < (n : Int) := by omega
      go_wp2_with fail
      clear g0 g1 g2 g3 c0 c1
      refine (spec_l6Cut (some ⟨b, off, none⟩) n cap O m w1 (by omega) HS1.out).mono ?_
      rintro e w2 ⟨⟨v, rfl, ho⟩, hb2⟩
      have HO := ho.hid
      have HB2 := hide (HB1.out.trans (hb2.mono HB1.out.size))
      have HG2 := (HG1.out.next hb2).hid
      have HS2 := (HS1.out.next hb2).hid
      have hbs := HB1.out.size
      clear ho hb2 HG1 HS1 HB1
      have g0 := HG2.out.cell 0
      simp only [List.getElem?_toArray, List.getElem?_cons_succ, List.getElem?_cons_zero] at g0
      by_cases hk2 : k = 2
      · obtain ⟨e1, e2⟩ := do_ren (L := filesL O n) (m := m) (t := t) (d := d) hk2 hl
        have E1 := hide e1
        have E2 := hide e2
        obtain ⟨b', off', hbo, hbq, c0, c1⟩ := HS2.out.at hj
        simp only [Option.some.injEq, Addr.mk.injEq, and_true] at hbo
        obtain ⟨rfl, rfl⟩ := hbo
        clear e1 e2 hl
        subst hk2
        obtain ⟨va, vp, hva, hAt⟩ := HO.out.arg
        subst hva
        have HA := hide hAt
        have hrc : RisF (filesL (fnFile (cutF (filesL O n) m)) (cutF (filesL O n) m).length) := by rw [fnFile_list]; exact risF_cut HRI.out m
        have hlc : (cutF (filesL O n) m).length ≤ 100000 := by have := cutF_length (filesL O n) m; rw [filesL_len] at this; omega
        have HRC := hide hrc
        clear hAt hrc
        go_wp2_with fail
        clear g0
        have hG := HG2.out
        have LO : Below w2.heap.size w2 w2 := Below.refl _ _
        have hB2s := HB2.out.size
        refine wp_region_noPanic ?_
        have hb0 : Below w2.heap.size w2 w2.drew := (Below.refl _ _).drew
        have hG_0 := hG.next hb0
        have LO_0 := LO.trans (hb0.mono LO.size)
        refine wp_region_held_drew (S := fun x => BoxIs x G #[.int .i64 2, .string m, .string t, .string d] 40 ∧ Below w2.heap.size w2 x) (by kernel_rfl) ⟨hG_0, LO_0⟩ (fun hSz => ?_)
        clear hSz LO hG
        generalize w2.drew = wq0 at hb0 hG_0 LO_0 ⊢
        clear hb0
        refine wpAnyH_take (i := 0) (v := .slice va ((cutF (filesL O n) m).length) vp) nat0 (by kernel_rfl) (by kernel_rfl) (by kernel_rfl) (fun _ _ _ h => False.elim h) (Or.inl ⟨by rfl, ?_⟩) ⟨hG_0, LO_0⟩ ?_
        · intro wx hSw
          go_simp
        simp only [Act.put, List.setIfInBounds_toArray, List.set_cons_zero, List.set_cons_succ]
        refine wpAnyH_take (i := 1) (v := .pointer (some ⟨G, 2, none⟩)) nat1 (by kernel_rfl) (by kernel_rfl) (by kernel_rfl) (fun _ _ _ h => False.elim h) (Or.inl ⟨by rfl, ?_⟩) ⟨hG_0, LO_0⟩ ?_
        · intro wx hSw
          go_simp
        simp only [Act.put, List.setIfInBounds_toArray, List.set_cons_zero, List.set_cons_succ]
        refine wpAnyH_take (i := 2) (v := .string t) nat2 (by kernel_rfl) (by kernel_rfl) (by kernel_rfl) (fun _ _ _ h => False.elim h) (Or.inl ⟨by rfl, ?_⟩) ⟨hG_0, LO_0⟩ ?_
        · intro wx hSw
          have y0 := hSw.1.cell 2
          simp only [List.getElem?_toArray, List.getElem?_cons_succ, List.getElem?_cons_zero] at y0
          go_simp
        simp only [Act.put, List.setIfInBounds_toArray, List.set_cons_zero, List.set_cons_succ]
        refine wpAnyH_take (i := 3) (v := .slice (some ⟨b, off, none⟩) n cap) nat3 (by kernel_rfl) (by kernel_rfl) (by kernel_rfl) (fun _ _ _ h => False.elim h) (Or.inl ⟨by rfl, ?_⟩) ⟨hG_0, LO_0⟩ ?_
        · intro wx hSw
          go_simp
        simp only [Act.put, List.setIfInBounds_toArray, List.set_cons_zero, List.set_cons_succ]
        refine wpAnyH_take (i := 4) (v := .int .i64 ((j : Int))) nat4 (by kernel_rfl) (by kernel_rfl) (by kernel_rfl) (fun _ _ _ h => False.elim h) (Or.inl ⟨by rfl, ?_⟩) ⟨hG_0, LO_0⟩ ?_
        · intro wx hSw
          go_simp
        simp only [Act.put, List.setIfInBounds_toArray, List.set_cons_zero, List.set_cons_succ]
        refine wpAnyH_take (i := 5) (v := .pointer (some ⟨b, off + j * 2, none⟩)) nat5 (by kernel_rfl) (by kernel_rfl) (by kernel_rfl) (fun _ _ _ h => False.elim h) (Or.inl ⟨by rfl, ?_⟩) ⟨hG_0, LO_0⟩ ?_
        · intro wx hSw
          go_simp
        simp only [Act.put, List.setIfInBounds_toArray, List.set_cons_zero, List.set_cons_succ]
        refine wpAnyH_take (i := 6) (v := .pointer (some ⟨b, off + j * 2 + 1, none⟩)) nat6 (by kernel_rfl) (by kernel_rfl) (by kernel_rfl) (fun _ _ _ h => False.elim h) (Or.inl ⟨by rfl, ?_⟩) ⟨hG_0, LO_0⟩ ?_
        · intro wx hSw
          go_simp
        simp only [Act.put, List.setIfInBounds_toArray, List.set_cons_zero, List.set_cons_succ]
        refine wpAnyH_take (i := 7) (v := .string (O.D j)) nat7 (by kernel_rfl) (by kernel_rfl) (by kernel_rfl) (fun _ _ _ h => False.elim h) (Or.inl ⟨by rfl, ?_⟩) ⟨hG_0, LO_0⟩ ?_
        · intro wx hSw
          have y0 := (hSw.2.cell (p := ⟨b, _, none⟩) hbq).trans c1
          go_simp
        simp only [Act.put, List.setIfInBounds_toArray, List.set_cons_zero, List.set_cons_succ]
        refine wpAnyH_ready (rs := [8]) (by kernel_rfl) (by simp) ?_
        refine AllReadyH.cons nat8 (fun K hK => ?_) AllReadyH.nil
        go_simp
        go_at_call 79
        refine (spec_l6Put va (cutF (filesL O n) m).length vp (fnFile (cutF (filesL O n) m)) t (O.D j) wq0 hlc HRC.out (HA.out.next LO_0)).mono ?_
        rintro e wq1 ⟨⟨vz1, rfl, hz1⟩, hb1⟩
        rw [fnFile_list] at hz1
        have hLs1 := LO_0.size
        have hG_1 := hG_0.next hb1
        have LO_1 := LO_0.trans (hb1.mono LO_0.size)
        have OZ_1 := hz1
        refine hK.out _ _ ⟨hG_1, LO_1⟩ (fun hSz => ?_)
        clear hK K hSz LO_0 hG_0 hb1 hz1
        refine wpAnyH_take (i := 9) (v := vz1) nat9 (by kernel_rfl) (by kernel_rfl) (by kernel_rfl) (fun _ _ _ h => False.elim h) (Or.inl ⟨by rfl, ?_⟩) ⟨hG_1, LO_1⟩ ?_
        · intro wx hSw
          go_simp
        simp only [Act.put, List.setIfInBounds_toArray, List.set_cons_zero, List.set_cons_succ]
        refine wpAnyH_done (by kernel_rfl) ?_ _
        refine NoPanic.normal ?_
        have HO3 : Hid (OwnFile wq1 w.heap.size vz1 (doF (filesL O n) ⟨2, m, t, d⟩)) := by show OwnFile _ _ _ _; rw [E2.out]; exact OZ_1.base (by omega)
        have HB3 := hide (HB2.out.trans (LO_1.mono HB2.out.size))
        clear OZ_1 LO_1 hG_1
        go_wp2
        go_ret2
        exact ⟨⟨vz1, (congrArg (fun q => Ending.returned (Value.tuple #[vz1, .bool q])) E1.out).symm, HO3.out⟩, HB3.out⟩
      · obtain ⟨e1, e2⟩ := do_rem (L := filesL O n) (m := m) (t := t) (d := d) hk1 hk2 hl
        have E1 := hide e1
        have HO3 : Hid (OwnFile w2 w.heap.size v (doF (filesL O n) ⟨k, m, t, d⟩)) := by show OwnFile _ _ _ _; rw [e2]; exact HO.out.base (by omega)
        clear e1 e2 hl HO
        go_wp2
        go_ret2
        exact ⟨⟨v, (congrArg (fun q => Ending.returned (Value.tuple #[v, .bool q])) E1.out).symm, HO3.out⟩, HB2.out⟩

end Go.Proofs.Ytejedpmkbkclhaa
