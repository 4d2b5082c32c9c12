/- What an op asks for, and the folder that is seen on a disk, of the program. (By gen_see.py.) -/
import Derived.Test.YtejedpmkbkclhaaFsJ
import Derived.Test.YtejedpmkbkclhaaDisk
namespace Go.Proofs.Ytejedpmkbkclhaa
set_option maxRecDepth 100000
open Go.RowKit Go.Deep Go.Maps

/-- The change that an op asks for. -/
def chgV (x : DOp1) : Value := if x.k = 1 then .iface 122 (.agg #[.string x.n, .string x.d]) else if x.k = 2 then .iface 124 (.agg #[.string x.n, .string x.t]) else .iface 126 (.agg #[.string x.n])
theorem emp_eq (s : ByteArray) : s.toList.isEmpty = decide (s.size = 0) := by
  rw [ByteArray.toList_eq]
  by_cases h : s.size = 0
  · have : s.data.toList = [] := by
      apply List.eq_nil_of_length_eq_zero
      simpa using h
    rw [this, decide_eq_true h]; rfl
  · have : s.data.toList ≠ [] := fun e => h (by have := congrArg List.length e; simpa using this)
    rw [decide_eq_false h]
    cases e : s.data.toList with
    | nil => exact absurd e this
    | cons a l => rfl
theorem emp_eq2 (s : ByteArray) [inst : Decidable (s = ByteArray.empty)] : s.toList.isEmpty = decide (s = ByteArray.empty) := by
  rw [emp_eq]
  have h : s.size = 0 ↔ s = ByteArray.empty := ⟨fun h => ByteArray.ext (Array.size_eq_zero_iff.1 h), fun h => by rw [h]; rfl⟩
  by_cases h1 : s = ByteArray.empty
  · rw [decide_eq_true h1, decide_eq_true (h.2 h1)]
  · rw [decide_eq_false h1, decide_eq_false (fun e => h1 (h.1 e))]
theorem form_name {x : DOp1} (h : nameB x.n = false) : formB x = false := by unfold formB; rw [h]; rfl
theorem form_app {k : Int} {n t d : ByteArray} (h : nameB n = true) (hk : k = 1) : formB ⟨k, n, t, d⟩ = decide (t.size = 0) := by unfold formB; rw [h, if_pos hk]; rfl
theorem form_ren {k : Int} {n t d : ByteArray} (h : nameB n = true) (hk : k = 2) : formB ⟨k, n, t, d⟩ = (nameB t && decide (d.size = 0)) := by unfold formB; rw [h, if_neg (by show ¬ k = 1; omega), if_pos hk]; rfl
theorem form_rem {k : Int} {n t d : ByteArray} (h : nameB n = true) (hk : k = 3) : formB ⟨k, n, t, d⟩ = (decide (t.size = 0) && decide (d.size = 0)) := by unfold formB; rw [h, if_neg (by show ¬ k = 1; omega), if_neg (by show ¬ k = 2; omega), if_pos hk]; rfl
theorem form_none {k : Int} {n t d : ByteArray} (h1 : k ≠ 1) (h2 : k ≠ 2) (h3 : k ≠ 3) : formB ⟨k, n, t, d⟩ = false := by unfold formB; rw [if_neg h1, if_neg h2, if_neg h3, Bool.and_false]

set_option linter.unusedVariables false in
set_option linter.unusedSimpArgs false in
set_option maxHeartbeats 8000000 in
theorem impl_changeOf (k : Int) (n t d : ByteArray) (w : World) :
    Calls Try.prog 51 #[.agg #[.int .i64 k, .string n, .string t, .string d]] w fun e w' => (∃ v, e = .returned (.tuple #[v, .bool (formB ⟨k, n, t, d⟩)]) ∧ (formB ⟨k, n, t, d⟩ = true → v = chgV ⟨k, n, t, d⟩)) ∧ Below w.heap.size w w' := by
  have hb := below_one w (.cells #[.int .i64 k, .string n, .string t, .string d] 40)
  have HG := (BoxIs.new w #[.int .i64 k, .string n, .string t, .string d] 40 rfl).hid
  have HB := hide hb
  have g1 := HG.out.cell 1
  simp only [List.getElem?_toArray, List.getElem?_cons_succ, List.getElem?_cons_zero] at g1
  clear hb
  go_enter Try.func51, Try.ntmps51
  go_wp2_with fail
  clear g1
  generalize w.alloc (.cells #[.int .i64 k, .string n, .string t, .string d] 40) = W at HB HG ⊢
  obtain ⟨G, hGe⟩ : ∃ G, w.heap.size = G := ⟨_, rfl⟩
  rw [hGe] at HG ⊢
  clear hGe
  refine (impl_nameOk n W).mono ?_
  rintro e w1 ⟨rfl, hb1⟩
  have HB1 := hide (HB.out.trans (hb1.mono HB.out.size))
  have HG1 := (HG.out.next hb1).hid
  clear HB HG hb1
  have g0 := HG1.out.cell 0
  simp only [List.getElem?_toArray, List.getElem?_cons_succ, List.getElem?_cons_zero] at g0
  cases hnb : nameB n with
  | false =>
    have HV := hide (form_name (x := ⟨k, n, t, d⟩) hnb)
    clear hnb g0
    go_wp2
    go_ret2
    exact ⟨⟨.nilIface, (congrArg (fun q => Ending.returned (Value.tuple #[.nilIface, .bool q])) HV.out).symm, fun h => by rw [HV.out] at h; cases h⟩, HB1.out⟩
  | true =>
    by_cases hk1 : k = 1
    · have HV := hide (form_app (t := t) (d := d) hnb hk1)
      have hc : chgV ⟨k, n, t, d⟩ = .iface 122 (.agg #[.string n, .string d]) := by unfold chgV; rw [if_pos hk1]
      have HC := hide hc
      clear hnb hc
      subst hk1
      go_wp2_with fail
      clear g0
      have hG := HG1.out
      have LO := HB1.out
      refine wp_region_noPanic ?_
      have hb0 : Below w1.heap.size w1 w1.drew := (Below.refl _ _).drew
      have hG_0 := hG.next hb0
      have LO_0 := LO.trans (hb0.mono LO.size)
      refine wp_region_held_drew (S := fun x => BoxIs x G #[.int .i64 1, .string n, .string t, .string d] 40) (by kernel_rfl) hG_0 (fun hSz => ?_)
      clear hSz LO hG
      generalize w1.drew = wq0 at hb0 hG_0 LO_0 ⊢
      clear hb0
      refine wpAnyH_take (i := 0) (v := .pointer (some ⟨G, 1, none⟩)) nat0 (by kernel_rfl) (by kernel_rfl) (by kernel_rfl) (fun _ _ _ h => False.elim h) (Or.inl ⟨by rfl, ?_⟩) hG_0 ?_
      · intro wx hSw
        go_simp
      simp only [Act.put, List.setIfInBounds_toArray, List.set_cons_zero, List.set_cons_succ]
      refine wpAnyH_take (i := 1) (v := .string n) nat1 (by kernel_rfl) (by kernel_rfl) (by kernel_rfl) (fun _ _ _ h => False.elim h) (Or.inl ⟨by rfl, ?_⟩) hG_0 ?_
      · intro wx hSw
        have y0 := hSw.cell 1
        simp only [List.getElem?_toArray, List.getElem?_cons_succ, List.getElem?_cons_zero] at y0
        go_simp
      simp only [Act.put, List.setIfInBounds_toArray, List.set_cons_zero, List.set_cons_succ]
      refine wpAnyH_take (i := 2) (v := .pointer (some ⟨G, 3, none⟩)) nat2 (by kernel_rfl) (by kernel_rfl) (by kernel_rfl) (fun _ _ _ h => False.elim h) (Or.inl ⟨by rfl, ?_⟩) hG_0 ?_
      · intro wx hSw
        go_simp
      simp only [Act.put, List.setIfInBounds_toArray, List.set_cons_zero, List.set_cons_succ]
      refine wpAnyH_take (i := 3) (v := .string d) nat3 (by kernel_rfl) (by kernel_rfl) (by kernel_rfl) (fun _ _ _ h => False.elim h) (Or.inl ⟨by rfl, ?_⟩) hG_0 ?_
      · intro wx hSw
        have y0 := hSw.cell 3
        simp only [List.getElem?_toArray, List.getElem?_cons_succ, List.getElem?_cons_zero] at y0
        go_simp
      simp only [Act.put, List.setIfInBounds_toArray, List.set_cons_zero, List.set_cons_succ]
      refine wpAnyH_take (i := 4) (v := .agg #[.string n, .string d]) nat4 (by kernel_rfl) (by kernel_rfl) (by kernel_rfl) (fun _ _ _ h => False.elim h) (Or.inl ⟨by rfl, ?_⟩) hG_0 ?_
      · intro wx hSw
        go_simp
      simp only [Act.put, List.setIfInBounds_toArray, List.set_cons_zero, List.set_cons_succ]
      refine wpAnyH_take (i := 5) (v := .iface 122 (.agg #[.string n, .string d])) nat5 (by kernel_rfl) (by kernel_rfl) (by kernel_rfl) (fun _ _ _ h => False.elim h) (Or.inl ⟨by rfl, ?_⟩) hG_0 ?_
      · intro wx hSw
        go_simp
      simp only [Act.put, List.setIfInBounds_toArray, List.set_cons_zero, List.set_cons_succ]
      refine wpAnyH_take (i := 6) (v := .pointer (some ⟨G, 2, none⟩)) nat6 (by kernel_rfl) (by kernel_rfl) (by kernel_rfl) (fun _ _ _ h => False.elim h) (Or.inl ⟨by rfl, ?_⟩) hG_0 ?_
      · intro wx hSw
        go_simp
      simp only [Act.put, List.setIfInBounds_toArray, List.set_cons_zero, List.set_cons_succ]
      refine wpAnyH_take (i := 7) (v := .string t) nat7 (by kernel_rfl) (by kernel_rfl) (by kernel_rfl) (fun _ _ _ h => False.elim h) (Or.inl ⟨by rfl, ?_⟩) hG_0 ?_
      · intro wx hSw
        have y0 := hSw.cell 2
        simp only [List.getElem?_toArray, List.getElem?_cons_succ, List.getElem?_cons_zero] at y0
        go_simp
      simp only [Act.put, List.setIfInBounds_toArray, List.set_cons_zero, List.set_cons_succ]
      refine wpAnyH_take (i := 8) (v := .bool (decide (t.size = 0))) nat8 (by kernel_rfl) (by kernel_rfl) (by kernel_rfl) (fun _ _ _ h => False.elim h) (Or.inl ⟨by rfl, ?_⟩) hG_0 ?_
      · intro wx hSw
        go_simp
        first | exact emp_eq _ | exact emp_eq2 _ | (rw [← emp_eq]; rfl) | skip
      simp only [Act.put, List.setIfInBounds_toArray, List.set_cons_zero, List.set_cons_succ]
      refine wpAnyH_take (i := 9) (v := .iface 122 (.agg #[.string n, .string d])) nat9 (by kernel_rfl) (by kernel_rfl) (by kernel_rfl) (fun _ _ _ h => False.elim h) (Or.inl ⟨by rfl, ?_⟩) hG_0 ?_
      · intro wx hSw
        go_simp
      simp only [Act.put, List.setIfInBounds_toArray, List.set_cons_zero, List.set_cons_succ]
      refine wpAnyH_take (i := 10) (v := .bool (decide (t.size = 0))) nat10 (by kernel_rfl) (by kernel_rfl) (by kernel_rfl) (fun _ _ _ h => False.elim h) (Or.inl ⟨by rfl, ?_⟩) hG_0 ?_
      · intro wx hSw
        go_simp
      simp only [Act.put, List.setIfInBounds_toArray, List.set_cons_zero, List.set_cons_succ]
      refine wpAnyH_done (by kernel_rfl) ?_ _
      refine NoPanic.normal ?_
      have HBZ := hide LO_0
      go_wp2
      go_ret2
      exact ⟨⟨.iface 122 (.agg #[.string n, .string d]), (congrArg (fun q => Ending.returned (Value.tuple #[.iface 122 (.agg #[.string n, .string d]), .bool q])) HV.out).symm, fun _ => HC.out.symm⟩, HBZ.out⟩
    by_cases hk2 : k = 2
    · have hc : chgV ⟨k, n, t, d⟩ = .iface 124 (.agg #[.string n, .string t]) := by unfold chgV; rw [if_neg (by show ¬ k = 1; omega), if_pos hk2]
      have HC := hide hc
      have hv := form_ren (t := t) (d := d) hnb hk2
      clear hnb hc hk1
      subst hk2
      cases hnt : nameB t with
      | false =>
        have HV : Hid (formB ⟨2, n, t, d⟩ = false) := by show _ = _; rw [hv, hnt]; rfl
        have HNM : Hid (∀ W, Calls Try.prog 86 #[.string t] W fun e w' => e = .returned (.bool false) ∧ Below W.heap.size W w') := fun W => by have := impl_nameOk t W; rwa [hnt] at this
        clear hv hnt
        go_wp2_with fail
        clear g0
        have hG := HG1.out
        have LO := HB1.out
        refine wp_region_noPanic ?_
        have hb0 : Below w1.heap.size w1 w1.drew := (Below.refl _ _).drew
        have hG_0 := hG.next hb0
        have LO_0 := LO.trans (hb0.mono LO.size)
        refine wp_region_held_drew (S := fun x => BoxIs x G #[.int .i64 2, .string n, .string t, .string d] 40) (by kernel_rfl) hG_0 (fun hSz => ?_)
        clear hSz LO hG
        generalize w1.drew = wq0 at hb0 hG_0 LO_0 ⊢
        clear hb0
        refine wpAnyH_take (i := 0) (v := .pointer (some ⟨G, 1, none⟩)) nat0 (by kernel_rfl) (by kernel_rfl) (by kernel_rfl) (fun _ _ _ h => False.elim h) (Or.inl ⟨by rfl, ?_⟩) hG_0 ?_
        · intro wx hSw
          go_simp
        simp only [Act.put, List.setIfInBounds_toArray, List.set_cons_zero, List.set_cons_succ]
        refine wpAnyH_take (i := 1) (v := .string n) nat1 (by kernel_rfl) (by kernel_rfl) (by kernel_rfl) (fun _ _ _ h => False.elim h) (Or.inl ⟨by rfl, ?_⟩) hG_0 ?_
        · intro wx hSw
          have y0 := hSw.cell 1
          simp only [List.getElem?_toArray, List.getElem?_cons_succ, List.getElem?_cons_zero] at y0
          go_simp
        simp only [Act.put, List.setIfInBounds_toArray, List.set_cons_zero, List.set_cons_succ]
        refine wpAnyH_take (i := 2) (v := .pointer (some ⟨G, 2, none⟩)) nat2 (by kernel_rfl) (by kernel_rfl) (by kernel_rfl) (fun _ _ _ h => False.elim h) (Or.inl ⟨by rfl, ?_⟩) hG_0 ?_
        · intro wx hSw
          go_simp
        simp only [Act.put, List.setIfInBounds_toArray, List.set_cons_zero, List.set_cons_succ]
        refine wpAnyH_take (i := 3) (v := .string t) nat3 (by kernel_rfl) (by kernel_rfl) (by kernel_rfl) (fun _ _ _ h => False.elim h) (Or.inl ⟨by rfl, ?_⟩) hG_0 ?_
        · intro wx hSw
          have y0 := hSw.cell 2
          simp only [List.getElem?_toArray, List.getElem?_cons_succ, List.getElem?_cons_zero] at y0
          go_simp
        simp only [Act.put, List.setIfInBounds_toArray, List.set_cons_zero, List.set_cons_succ]
        refine wpAnyH_take (i := 4) (v := .agg #[.string n, .string t]) nat4 (by kernel_rfl) (by kernel_rfl) (by kernel_rfl) (fun _ _ _ h => False.elim h) (Or.inl ⟨by rfl, ?_⟩) hG_0 ?_
        · intro wx hSw
          go_simp
        simp only [Act.put, List.setIfInBounds_toArray, List.set_cons_zero, List.set_cons_succ]
        refine wpAnyH_take (i := 5) (v := .iface 124 (.agg #[.string n, .string t])) nat5 (by kernel_rfl) (by kernel_rfl) (by kernel_rfl) (fun _ _ _ h => False.elim h) (Or.inl ⟨by rfl, ?_⟩) hG_0 ?_
        · intro wx hSw
          go_simp
        simp only [Act.put, List.setIfInBounds_toArray, List.set_cons_zero, List.set_cons_succ]
        refine wpAnyH_take (i := 6) (v := .pointer (some ⟨G, 2, none⟩)) nat6 (by kernel_rfl) (by kernel_rfl) (by kernel_rfl) (fun _ _ _ h => False.elim h) (Or.inl ⟨by rfl, ?_⟩) hG_0 ?_
        · intro wx hSw
          go_simp
        simp only [Act.put, List.setIfInBounds_toArray, List.set_cons_zero, List.set_cons_succ]
        refine wpAnyH_take (i := 7) (v := .string t) nat7 (by kernel_rfl) (by kernel_rfl) (by kernel_rfl) (fun _ _ _ h => False.elim h) (Or.inl ⟨by rfl, ?_⟩) hG_0 ?_
        · intro wx hSw
          have y0 := hSw.cell 2
          simp only [List.getElem?_toArray, List.getElem?_cons_succ, List.getElem?_cons_zero] at y0
          go_simp
        simp only [Act.put, List.setIfInBounds_toArray, List.set_cons_zero, List.set_cons_succ]
        refine wpAnyH_ready (rs := [8]) (by kernel_rfl) (by simp) ?_
        refine AllReadyH.cons nat8 (fun K hK => ?_) AllReadyH.nil
        go_simp
        go_at_call 86
        refine (HNM.out wq0).mono ?_
        rintro e wq1 ⟨rfl, hb1⟩
        have hG_1 := hG_0.next hb1
        have LO_1 := LO_0.trans (hb1.mono LO_0.size)
        refine hK.out _ _ hG_1 (fun hSz => ?_)
        clear hK K hSz LO_0 hG_0 hb1
        refine wpAnyH_take (i := 9) (v := .bool false) nat9 (by kernel_rfl) (by kernel_rfl) (by kernel_rfl) (fun _ _ _ h => False.elim h) (Or.inl ⟨by rfl, ?_⟩) hG_1 ?_
        · intro wx hSw
          go_simp
        simp only [Act.put, List.setIfInBounds_toArray, List.set_cons_zero, List.set_cons_succ]
        refine wpAnyH_take (i := 10) (v := undef) nat10 (by kernel_rfl) (by kernel_rfl) (by kernel_rfl) (fun _ _ _ h => False.elim h) (Or.inr ⟨by rfl, rfl⟩) hG_1 ?_
        simp only [Act.put, List.setIfInBounds_toArray, List.set_cons_zero, List.set_cons_succ]
        refine wpAnyH_take (i := 11) (v := undef) nat11 (by kernel_rfl) (by kernel_rfl) (by kernel_rfl) (fun _ _ _ h => False.elim h) (Or.inr ⟨by rfl, rfl⟩) hG_1 ?_
        simp only [Act.put, List.setIfInBounds_toArray, List.set_cons_zero, List.set_cons_succ]
        refine wpAnyH_take (i := 12) (v := undef) nat12 (by kernel_rfl) (by kernel_rfl) (by kernel_rfl) (fun _ _ _ h => False.elim h) (Or.inr ⟨by rfl, rfl⟩) hG_1 ?_
        simp only [Act.put, List.setIfInBounds_toArray, List.set_cons_zero, List.set_cons_succ]
        refine wpAnyH_take (i := 13) (v := .bool false) nat13 (by kernel_rfl) (by kernel_rfl) (by kernel_rfl) (fun _ _ _ h => False.elim h) (Or.inl ⟨by rfl, ?_⟩) hG_1 ?_
        · intro wx hSw
          go_simp
        simp only [Act.put, List.setIfInBounds_toArray, List.set_cons_zero, List.set_cons_succ]
        refine wpAnyH_take (i := 14) (v := .iface 124 (.agg #[.string n, .string t])) nat14 (by kernel_rfl) (by kernel_rfl) (by kernel_rfl) (fun _ _ _ h => False.elim h) (Or.inl ⟨by rfl, ?_⟩) hG_1 ?_
        · intro wx hSw
          go_simp
        simp only [Act.put, List.setIfInBounds_toArray, List.set_cons_zero, List.set_cons_succ]
        refine wpAnyH_take (i := 15) (v := .bool false) nat15 (by kernel_rfl) (by kernel_rfl) (by kernel_rfl) (fun _ _ _ h => False.elim h) (Or.inl ⟨by rfl, ?_⟩) hG_1 ?_
        · intro wx hSw
          go_simp
        simp only [Act.put, List.setIfInBounds_toArray, List.set_cons_zero, List.set_cons_succ]
        refine wpAnyH_done (by kernel_rfl) ?_ _
        refine NoPanic.normal ?_
        have HBZ := hide LO_1
        go_wp2
        go_ret2
        exact ⟨⟨.iface 124 (.agg #[.string n, .string t]), (congrArg (fun q => Ending.returned (Value.tuple #[.iface 124 (.agg #[.string n, .string t]), .bool q])) HV.out).symm, fun h => by rw [HV.out] at h; cases h⟩, HBZ.out⟩
      | true =>
        have HV : Hid (formB ⟨2, n, t, d⟩ = decide (d.size = 0)) := by show _ = _; rw [hv, hnt]; rfl
        have HNM : Hid (∀ W, Calls Try.prog 86 #[.string t] W fun e w' => e = .returned (.bool true) ∧ Below W.heap.size W w') := fun W => by have := impl_nameOk t W; rwa [hnt] at this
        clear hv hnt
        go_wp2_with fail
        clear g0
        have hG := HG1.out
        have LO := HB1.out
        refine wp_region_noPanic ?_
        have hb0 : Below w1.heap.size w1 w1.drew := (Below.refl _ _).drew
        have hG_0 := hG.next hb0
        have LO_0 := LO.trans (hb0.mono LO.size)
        refine wp_region_held_drew (S := fun x => BoxIs x G #[.int .i64 2, .string n, .string t, .string d] 40) (by kernel_rfl) hG_0 (fun hSz => ?_)
        clear hSz LO hG
        generalize w1.drew = wq0 at hb0 hG_0 LO_0 ⊢
        clear hb0
        refine wpAnyH_take (i := 0) (v := .pointer (some ⟨G, 1, none⟩)) nat0 (by kernel_rfl) (by kernel_rfl) (by kernel_rfl) (fun _ _ _ h => False.elim h) (Or.inl ⟨by rfl, ?_⟩) hG_0 ?_
        · intro wx hSw
          go_simp
        simp only [Act.put, List.setIfInBounds_toArray, List.set_cons_zero, List.set_cons_succ]
        refine wpAnyH_take (i := 1) (v := .string n) nat1 (by kernel_rfl) (by kernel_rfl) (by kernel_rfl) (fun _ _ _ h => False.elim h) (Or.inl ⟨by rfl, ?_⟩) hG_0 ?_
        · intro wx hSw
          have y0 := hSw.cell 1
          simp only [List.getElem?_toArray, List.getElem?_cons_succ, List.getElem?_cons_zero] at y0
          go_simp
        simp only [Act.put, List.setIfInBounds_toArray, List.set_cons_zero, List.set_cons_succ]
        refine wpAnyH_take (i := 2) (v := .pointer (some ⟨G, 2, none⟩)) nat2 (by kernel_rfl) (by kernel_rfl) (by kernel_rfl) (fun _ _ _ h => False.elim h) (Or.inl ⟨by rfl, ?_⟩) hG_0 ?_
        · intro wx hSw
          go_simp
        simp only [Act.put, List.setIfInBounds_toArray, List.set_cons_zero, List.set_cons_succ]
        refine wpAnyH_take (i := 3) (v := .string t) nat3 (by kernel_rfl) (by kernel_rfl) (by kernel_rfl) (fun _ _ _ h => False.elim h) (Or.inl ⟨by rfl, ?_⟩) hG_0 ?_
        · intro wx hSw
          have y0 := hSw.cell 2
          simp only [List.getElem?_toArray, List.getElem?_cons_succ, List.getElem?_cons_zero] at y0
          go_simp
        simp only [Act.put, List.setIfInBounds_toArray, List.set_cons_zero, List.set_cons_succ]
        refine wpAnyH_take (i := 4) (v := .agg #[.string n, .string t]) nat4 (by kernel_rfl) (by kernel_rfl) (by kernel_rfl) (fun _ _ _ h => False.elim h) (Or.inl ⟨by rfl, ?_⟩) hG_0 ?_
        · intro wx hSw
          go_simp
        simp only [Act.put, List.setIfInBounds_toArray, List.set_cons_zero, List.set_cons_succ]
        refine wpAnyH_take (i := 5) (v := .iface 124 (.agg #[.string n, .string t])) nat5 (by kernel_rfl) (by kernel_rfl) (by kernel_rfl) (fun _ _ _ h => False.elim h) (Or.inl ⟨by rfl, ?_⟩) hG_0 ?_
        · intro wx hSw
          go_simp
        simp only [Act.put, List.setIfInBounds_toArray, List.set_cons_zero, List.set_cons_succ]
        refine wpAnyH_take (i := 6) (v := .pointer (some ⟨G, 2, none⟩)) nat6 (by kernel_rfl) (by kernel_rfl) (by kernel_rfl) (fun _ _ _ h => False.elim h) (Or.inl ⟨by rfl, ?_⟩) hG_0 ?_
        · intro wx hSw
          go_simp
        simp only [Act.put, List.setIfInBounds_toArray, List.set_cons_zero, List.set_cons_succ]
        refine wpAnyH_take (i := 7) (v := .string t) nat7 (by kernel_rfl) (by kernel_rfl) (by kernel_rfl) (fun _ _ _ h => False.elim h) (Or.inl ⟨by rfl, ?_⟩) hG_0 ?_
        · intro wx hSw
          have y0 := hSw.cell 2
          simp only [List.getElem?_toArray, List.getElem?_cons_succ, List.getElem?_cons_zero] at y0
          go_simp
        simp only [Act.put, List.setIfInBounds_toArray, List.set_cons_zero, List.set_cons_succ]
        refine wpAnyH_ready (rs := [8]) (by kernel_rfl) (by simp) ?_
        refine AllReadyH.cons nat8 (fun K hK => ?_) AllReadyH.nil
        go_simp
        go_at_call 86
        refine (HNM.out wq0).mono ?_
        rintro e wq1 ⟨rfl, hb1⟩
        have hG_1 := hG_0.next hb1
        have LO_1 := LO_0.trans (hb1.mono LO_0.size)
        refine hK.out _ _ hG_1 (fun hSz => ?_)
        clear hK K hSz LO_0 hG_0 hb1
        refine wpAnyH_take (i := 9) (v := .bool true) nat9 (by kernel_rfl) (by kernel_rfl) (by kernel_rfl) (fun _ _ _ h => False.elim h) (Or.inl ⟨by rfl, ?_⟩) hG_1 ?_
        · intro wx hSw
          go_simp
        simp only [Act.put, List.setIfInBounds_toArray, List.set_cons_zero, List.set_cons_succ]
        refine wpAnyH_take (i := 10) (v := .pointer (some ⟨G, 3, none⟩)) nat10 (by kernel_rfl) (by kernel_rfl) (by kernel_rfl) (fun _ _ _ h => False.elim h) (Or.inl ⟨by rfl, ?_⟩) hG_1 ?_
        · intro wx hSw
          go_simp
        simp only [Act.put, List.setIfInBounds_toArray, List.set_cons_zero, List.set_cons_succ]
        refine wpAnyH_take (i := 11) (v := .string d) nat11 (by kernel_rfl) (by kernel_rfl) (by kernel_rfl) (fun _ _ _ h => False.elim h) (Or.inl ⟨by rfl, ?_⟩) hG_1 ?_
        · intro wx hSw
          have y0 := hSw.cell 3
          simp only [List.getElem?_toArray, List.getElem?_cons_succ, List.getElem?_cons_zero] at y0
          go_simp
        simp only [Act.put, List.setIfInBounds_toArray, List.set_cons_zero, List.set_cons_succ]
        refine wpAnyH_take (i := 12) (v := .bool (decide (d.size = 0))) nat12 (by kernel_rfl) (by kernel_rfl) (by kernel_rfl) (fun _ _ _ h => False.elim h) (Or.inl ⟨by rfl, ?_⟩) hG_1 ?_
        · intro wx hSw
          go_simp
          first | exact emp_eq _ | exact emp_eq2 _ | (rw [← emp_eq]; rfl) | skip
        simp only [Act.put, List.setIfInBounds_toArray, List.set_cons_zero, List.set_cons_succ]
        refine wpAnyH_take (i := 13) (v := .bool (decide (d.size = 0))) nat13 (by kernel_rfl) (by kernel_rfl) (by kernel_rfl) (fun _ _ _ h => False.elim h) (Or.inl ⟨by rfl, ?_⟩) hG_1 ?_
        · intro wx hSw
          go_simp
        simp only [Act.put, List.setIfInBounds_toArray, List.set_cons_zero, List.set_cons_succ]
        refine wpAnyH_take (i := 14) (v := .iface 124 (.agg #[.string n, .string t])) nat14 (by kernel_rfl) (by kernel_rfl) (by kernel_rfl) (fun _ _ _ h => False.elim h) (Or.inl ⟨by rfl, ?_⟩) hG_1 ?_
        · intro wx hSw
          go_simp
        simp only [Act.put, List.setIfInBounds_toArray, List.set_cons_zero, List.set_cons_succ]
        refine wpAnyH_take (i := 15) (v := .bool (decide (d.size = 0))) nat15 (by kernel_rfl) (by kernel_rfl) (by kernel_rfl) (fun _ _ _ h => False.elim h) (Or.inl ⟨by rfl, ?_⟩) hG_1 ?_
        · intro wx hSw
          go_simp
        simp only [Act.put, List.setIfInBounds_toArray, List.set_cons_zero, List.set_cons_succ]
        refine wpAnyH_done (by kernel_rfl) ?_ _
        refine NoPanic.normal ?_
        have HBZ := hide LO_1
        go_wp2
        go_ret2
        exact ⟨⟨.iface 124 (.agg #[.string n, .string t]), (congrArg (fun q => Ending.returned (Value.tuple #[.iface 124 (.agg #[.string n, .string t]), .bool q])) HV.out).symm, fun _ => HC.out.symm⟩, HBZ.out⟩
    by_cases hk3 : k = 3
    · have hc : chgV ⟨k, n, t, d⟩ = .iface 126 (.agg #[.string n]) := by unfold chgV; rw [if_neg (by show ¬ k = 1; omega), if_neg (by show ¬ k = 2; omega)]
      have HC := hide hc
      have hv := form_rem (t := t) (d := d) hnb hk3
      clear hnb hc hk1 hk2
      subst hk3
      by_cases hte : t.size = 0
      · have HV : Hid (formB ⟨3, n, t, d⟩ = decide (d.size = 0)) := by show _ = _; rw [hv, decide_eq_true hte]; rfl
        have hem : t.toList.isEmpty = true := by rw [emp_eq, decide_eq_true hte]
        have HEM := hide hem
        clear hv hte hem
        go_wp2_with fail
        clear g0
        have hG := HG1.out
        have LO := HB1.out
        refine wp_region_noPanic ?_
        have hb0 : Below w1.heap.size w1 w1.drew := (Below.refl _ _).drew
        have hG_0 := hG.next hb0
        have LO_0 := LO.trans (hb0.mono LO.size)
        refine wp_region_held_drew (S := fun x => BoxIs x G #[.int .i64 3, .string n, .string t, .string d] 40) (by kernel_rfl) hG_0 (fun hSz => ?_)
        clear hSz LO hG
        generalize w1.drew = wq0 at hb0 hG_0 LO_0 ⊢
        clear hb0
        refine wpAnyH_take (i := 0) (v := .pointer (some ⟨G, 1, none⟩)) nat0 (by kernel_rfl) (by kernel_rfl) (by kernel_rfl) (fun _ _ _ h => False.elim h) (Or.inl ⟨by rfl, ?_⟩) hG_0 ?_
        · intro wx hSw
          go_simp
        simp only [Act.put, List.setIfInBounds_toArray, List.set_cons_zero, List.set_cons_succ]
        refine wpAnyH_take (i := 1) (v := .string n) nat1 (by kernel_rfl) (by kernel_rfl) (by kernel_rfl) (fun _ _ _ h => False.elim h) (Or.inl ⟨by rfl, ?_⟩) hG_0 ?_
        · intro wx hSw
          have y0 := hSw.cell 1
          simp only [List.getElem?_toArray, List.getElem?_cons_succ, List.getElem?_cons_zero] at y0
          go_simp
        simp only [Act.put, List.setIfInBounds_toArray, List.set_cons_zero, List.set_cons_succ]
        refine wpAnyH_take (i := 2) (v := .agg #[.string n]) nat2 (by kernel_rfl) (by kernel_rfl) (by kernel_rfl) (fun _ _ _ h => False.elim h) (Or.inl ⟨by rfl, ?_⟩) hG_0 ?_
        · intro wx hSw
          go_simp
        simp only [Act.put, List.setIfInBounds_toArray, List.set_cons_zero, List.set_cons_succ]
        refine wpAnyH_take (i := 3) (v := .iface 126 (.agg #[.string n])) nat3 (by kernel_rfl) (by kernel_rfl) (by kernel_rfl) (fun _ _ _ h => False.elim h) (Or.inl ⟨by rfl, ?_⟩) hG_0 ?_
        · intro wx hSw
          go_simp
        simp only [Act.put, List.setIfInBounds_toArray, List.set_cons_zero, List.set_cons_succ]
        refine wpAnyH_take (i := 4) (v := .pointer (some ⟨G, 2, none⟩)) nat4 (by kernel_rfl) (by kernel_rfl) (by kernel_rfl) (fun _ _ _ h => False.elim h) (Or.inl ⟨by rfl, ?_⟩) hG_0 ?_
        · intro wx hSw
          go_simp
        simp only [Act.put, List.setIfInBounds_toArray, List.set_cons_zero, List.set_cons_succ]
        refine wpAnyH_take (i := 5) (v := .string t) nat5 (by kernel_rfl) (by kernel_rfl) (by kernel_rfl) (fun _ _ _ h => False.elim h) (Or.inl ⟨by rfl, ?_⟩) hG_0 ?_
        · intro wx hSw
          have y0 := hSw.cell 2
          simp only [List.getElem?_toArray, List.getElem?_cons_succ, List.getElem?_cons_zero] at y0
          go_simp
        simp only [Act.put, List.setIfInBounds_toArray, List.set_cons_zero, List.set_cons_succ]
        refine wpAnyH_take (i := 6) (v := .bool true) nat6 (by kernel_rfl) (by kernel_rfl) (by kernel_rfl) (fun _ _ _ h => False.elim h) (Or.inl ⟨by rfl, ?_⟩) hG_0 ?_
        · intro wx hSw
          go_simp
          try exact HEM.out
          try simpa using HEM.out
        simp only [Act.put, List.setIfInBounds_toArray, List.set_cons_zero, List.set_cons_succ]
        refine wpAnyH_take (i := 7) (v := .bool true) nat7 (by kernel_rfl) (by kernel_rfl) (by kernel_rfl) (fun _ _ _ h => False.elim h) (Or.inl ⟨by rfl, ?_⟩) hG_0 ?_
        · intro wx hSw
          go_simp
        simp only [Act.put, List.setIfInBounds_toArray, List.set_cons_zero, List.set_cons_succ]
        refine wpAnyH_take (i := 8) (v := .pointer (some ⟨G, 3, none⟩)) nat8 (by kernel_rfl) (by kernel_rfl) (by kernel_rfl) (fun _ _ _ h => False.elim h) (Or.inl ⟨by rfl, ?_⟩) hG_0 ?_
        · intro wx hSw
          go_simp
        simp only [Act.put, List.setIfInBounds_toArray, List.set_cons_zero, List.set_cons_succ]
        refine wpAnyH_take (i := 9) (v := .string d) nat9 (by kernel_rfl) (by kernel_rfl) (by kernel_rfl) (fun _ _ _ h => False.elim h) (Or.inl ⟨by rfl, ?_⟩) hG_0 ?_
        · intro wx hSw
          have y0 := hSw.cell 3
          simp only [List.getElem?_toArray, List.getElem?_cons_succ, List.getElem?_cons_zero] at y0
          go_simp
        simp only [Act.put, List.setIfInBounds_toArray, List.set_cons_zero, List.set_cons_succ]
        refine wpAnyH_take (i := 10) (v := .bool (decide (d.size = 0))) nat10 (by kernel_rfl) (by kernel_rfl) (by kernel_rfl) (fun _ _ _ h => False.elim h) (Or.inl ⟨by rfl, ?_⟩) hG_0 ?_
        · intro wx hSw
          go_simp
          first | exact emp_eq _ | exact emp_eq2 _ | (rw [← emp_eq]; rfl) | skip
        simp only [Act.put, List.setIfInBounds_toArray, List.set_cons_zero, List.set_cons_succ]
        refine wpAnyH_take (i := 11) (v := .bool (decide (d.size = 0))) nat11 (by kernel_rfl) (by kernel_rfl) (by kernel_rfl) (fun _ _ _ h => False.elim h) (Or.inl ⟨by rfl, ?_⟩) hG_0 ?_
        · intro wx hSw
          go_simp
        simp only [Act.put, List.setIfInBounds_toArray, List.set_cons_zero, List.set_cons_succ]
        refine wpAnyH_take (i := 12) (v := .iface 126 (.agg #[.string n])) nat12 (by kernel_rfl) (by kernel_rfl) (by kernel_rfl) (fun _ _ _ h => False.elim h) (Or.inl ⟨by rfl, ?_⟩) hG_0 ?_
        · intro wx hSw
          go_simp
        simp only [Act.put, List.setIfInBounds_toArray, List.set_cons_zero, List.set_cons_succ]
        refine wpAnyH_take (i := 13) (v := .bool (decide (d.size = 0))) nat13 (by kernel_rfl) (by kernel_rfl) (by kernel_rfl) (fun _ _ _ h => False.elim h) (Or.inl ⟨by rfl, ?_⟩) hG_0 ?_
        · intro wx hSw
          go_simp
        simp only [Act.put, List.setIfInBounds_toArray, List.set_cons_zero, List.set_cons_succ]
        refine wpAnyH_done (by kernel_rfl) ?_ _
        refine NoPanic.normal ?_
        have HBZ := hide LO_0
        go_wp2
        go_ret2
        exact ⟨⟨.iface 126 (.agg #[.string n]), (congrArg (fun q => Ending.returned (Value.tuple #[.iface 126 (.agg #[.string n]), .bool q])) HV.out).symm, fun _ => HC.out.symm⟩, HBZ.out⟩
      · have HV : Hid (formB ⟨3, n, t, d⟩ = false) := by show _ = _; rw [hv, decide_eq_false hte]; rfl
        have hem : t.toList.isEmpty = false := by rw [emp_eq, decide_eq_false hte]
        have HEM := hide hem
        clear hv hte hem
        go_wp2_with fail
        clear g0
        have hG := HG1.out
        have LO := HB1.out
        refine wp_region_noPanic ?_
        have hb0 : Below w1.heap.size w1 w1.drew := (Below.refl _ _).drew
        have hG_0 := hG.next hb0
        have LO_0 := LO.trans (hb0.mono LO.size)
        refine wp_region_held_drew (S := fun x => BoxIs x G #[.int .i64 3, .string n, .string t, .string d] 40) (by kernel_rfl) hG_0 (fun hSz => ?_)
        clear hSz LO hG
        generalize w1.drew = wq0 at hb0 hG_0 LO_0 ⊢
        clear hb0
        refine wpAnyH_take (i := 0) (v := .pointer (some ⟨G, 1, none⟩)) nat0 (by kernel_rfl) (by kernel_rfl) (by kernel_rfl) (fun _ _ _ h => False.elim h) (Or.inl ⟨by rfl, ?_⟩) hG_0 ?_
        · intro wx hSw
          go_simp
        simp only [Act.put, List.setIfInBounds_toArray, List.set_cons_zero, List.set_cons_succ]
        refine wpAnyH_take (i := 1) (v := .string n) nat1 (by kernel_rfl) (by kernel_rfl) (by kernel_rfl) (fun _ _ _ h => False.elim h) (Or.inl ⟨by rfl, ?_⟩) hG_0 ?_
        · intro wx hSw
          have y0 := hSw.cell 1
          simp only [List.getElem?_toArray, List.getElem?_cons_succ, List.getElem?_cons_zero] at y0
          go_simp
        simp only [Act.put, List.setIfInBounds_toArray, List.set_cons_zero, List.set_cons_succ]
        refine wpAnyH_take (i := 2) (v := .agg #[.string n]) nat2 (by kernel_rfl) (by kernel_rfl) (by kernel_rfl) (fun _ _ _ h => False.elim h) (Or.inl ⟨by rfl, ?_⟩) hG_0 ?_
        · intro wx hSw
          go_simp
        simp only [Act.put, List.setIfInBounds_toArray, List.set_cons_zero, List.set_cons_succ]
        refine wpAnyH_take (i := 3) (v := .iface 126 (.agg #[.string n])) nat3 (by kernel_rfl) (by kernel_rfl) (by kernel_rfl) (fun _ _ _ h => False.elim h) (Or.inl ⟨by rfl, ?_⟩) hG_0 ?_
        · intro wx hSw
          go_simp
        simp only [Act.put, List.setIfInBounds_toArray, List.set_cons_zero, List.set_cons_succ]
        refine wpAnyH_take (i := 4) (v := .pointer (some ⟨G, 2, none⟩)) nat4 (by kernel_rfl) (by kernel_rfl) (by kernel_rfl) (fun _ _ _ h => False.elim h) (Or.inl ⟨by rfl, ?_⟩) hG_0 ?_
        · intro wx hSw
          go_simp
        simp only [Act.put, List.setIfInBounds_toArray, List.set_cons_zero, List.set_cons_succ]
        refine wpAnyH_take (i := 5) (v := .string t) nat5 (by kernel_rfl) (by kernel_rfl) (by kernel_rfl) (fun _ _ _ h => False.elim h) (Or.inl ⟨by rfl, ?_⟩) hG_0 ?_
        · intro wx hSw
          have y0 := hSw.cell 2
          simp only [List.getElem?_toArray, List.getElem?_cons_succ, List.getElem?_cons_zero] at y0
          go_simp
        simp only [Act.put, List.setIfInBounds_toArray, List.set_cons_zero, List.set_cons_succ]
        refine wpAnyH_take (i := 6) (v := .bool false) nat6 (by kernel_rfl) (by kernel_rfl) (by kernel_rfl) (fun _ _ _ h => False.elim h) (Or.inl ⟨by rfl, ?_⟩) hG_0 ?_
        · intro wx hSw
          go_simp
          try exact HEM.out
          try simpa using HEM.out
        simp only [Act.put, List.setIfInBounds_toArray, List.set_cons_zero, List.set_cons_succ]
        refine wpAnyH_take (i := 7) (v := .bool false) nat7 (by kernel_rfl) (by kernel_rfl) (by kernel_rfl) (fun _ _ _ h => False.elim h) (Or.inl ⟨by rfl, ?_⟩) hG_0 ?_
        · intro wx hSw
          go_simp
        simp only [Act.put, List.setIfInBounds_toArray, List.set_cons_zero, List.set_cons_succ]
        refine wpAnyH_take (i := 8) (v := undef) nat8 (by kernel_rfl) (by kernel_rfl) (by kernel_rfl) (fun _ _ _ h => False.elim h) (Or.inr ⟨by rfl, rfl⟩) hG_0 ?_
        simp only [Act.put, List.setIfInBounds_toArray, List.set_cons_zero, List.set_cons_succ]
        refine wpAnyH_take (i := 9) (v := undef) nat9 (by kernel_rfl) (by kernel_rfl) (by kernel_rfl) (fun _ _ _ h => False.elim h) (Or.inr ⟨by rfl, rfl⟩) hG_0 ?_
        simp only [Act.put, List.setIfInBounds_toArray, List.set_cons_zero, List.set_cons_succ]
        refine wpAnyH_take (i := 10) (v := undef) nat10 (by kernel_rfl) (by kernel_rfl) (by kernel_rfl) (fun _ _ _ h => False.elim h) (Or.inr ⟨by rfl, rfl⟩) hG_0 ?_
        simp only [Act.put, List.setIfInBounds_toArray, List.set_cons_zero, List.set_cons_succ]
        refine wpAnyH_take (i := 11) (v := .bool false) nat11 (by kernel_rfl) (by kernel_rfl) (by kernel_rfl) (fun _ _ _ h => False.elim h) (Or.inl ⟨by rfl, ?_⟩) hG_0 ?_
        · intro wx hSw
          go_simp
        simp only [Act.put, List.setIfInBounds_toArray, List.set_cons_zero, List.set_cons_succ]
        refine wpAnyH_take (i := 12) (v := .iface 126 (.agg #[.string n])) nat12 (by kernel_rfl) (by kernel_rfl) (by kernel_rfl) (fun _ _ _ h => False.elim h) (Or.inl ⟨by rfl, ?_⟩) hG_0 ?_
        · intro wx hSw
          go_simp
        simp only [Act.put, List.setIfInBounds_toArray, List.set_cons_zero, List.set_cons_succ]
        refine wpAnyH_take (i := 13) (v := .bool false) nat13 (by kernel_rfl) (by kernel_rfl) (by kernel_rfl) (fun _ _ _ h => False.elim h) (Or.inl ⟨by rfl, ?_⟩) hG_0 ?_
        · intro wx hSw
          go_simp
        simp only [Act.put, List.setIfInBounds_toArray, List.set_cons_zero, List.set_cons_succ]
        refine wpAnyH_done (by kernel_rfl) ?_ _
        refine NoPanic.normal ?_
        have HBZ := hide LO_0
        go_wp2
        go_ret2
        exact ⟨⟨.iface 126 (.agg #[.string n]), (congrArg (fun q => Ending.returned (Value.tuple #[.iface 126 (.agg #[.string n]), .bool q])) HV.out).symm, fun h => by rw [HV.out] at h; cases h⟩, HBZ.out⟩
    have HV := hide (form_none (n := n) (t := t) (d := d) hk1 hk2 hk3)
    clear hnb
    go_wp2
    go_ret2
    exact ⟨⟨.nilIface, (congrArg (fun q => Ending.returned (Value.tuple #[.nilIface, .bool q])) HV.out).symm, fun h => by rw [HV.out] at h; cases h⟩, HB1.out⟩

end Go.Proofs.Ytejedpmkbkclhaa
