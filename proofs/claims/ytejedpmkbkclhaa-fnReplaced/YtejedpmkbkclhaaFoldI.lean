/- The folder's methods: drop and put. (By gen_fold.py.) -/
import Derived.Test.YtejedpmkbkclhaaFold
import Derived.Test.YtejedpmkbkclhaaNth
import Derived.Test.YtejedpmkbkclhaaReg
import Derived.BigQuiet
import Derived.Deep.DeepCutAuto
import Derived.Deep.RegionHeld3
namespace Go.Proofs.Ytejedpmkbkclhaa
set_option maxRecDepth 100000
open Go.RowKit Go.Deep Go.Maps

theorem ownsMap_below {w w' : World} {b n : Nat} {D : DataW Value} (h : w.ownsMap Try.prog 9 heldV b n D) (hb : Below w.heap.size w w') : w'.ownsMap Try.prog 9 heldV b n D := by
  obtain ⟨es, clock, hm, r⟩ := h
  exact ⟨es, clock, (hb.block b (Array.getElem?_eq_some_iff.1 hm).1).trans hm, r⟩
theorem ownsMap_set {w : World} {b n F o : Nat} {D : DataW Value} {cs : Array Value} {t : TypeId} (h : w.ownsMap Try.prog 9 heldV b n D) (hb : BoxIs w F cs t) (v : Value) : (w.setCell ⟨F, o, none⟩ v).ownsMap Try.prog 9 heldV b n D := by
  obtain ⟨es, clock, hm, r⟩ := h
  refine ⟨es, clock, ?_, r⟩
  rw [Below.heap_setCell _ _ _ _ (fun e => ?_)]
  · exact hm
  · have e2 : b = F := e
    unfold BoxIs at hb
    rw [← e2, hm] at hb; cases hb
theorem run_field_data (x : Value) (w : World) : (Instr.field 98 (.agg #[x]) 0).run Try.prog w = .ok x w := by
  have hu : Try.prog.underlying 98 = some (.struct (Try.prog.fieldsOf 98)) := by kernel_rfl
  have hf : ((Try.prog.fieldsOf 98)[0]?).map (fun f => (f.type, f.offset)) = some (57, 0) := by kernel_rfl
  obtain ⟨f, hf1, hf2⟩ := Option.map_eq_some_iff.1 hf
  obtain ⟨h1, h2⟩ := Prod.mk.inj hf2
  simp [Instr.field, run_underlying hu, hf1, h1, h2, asAgg, part, isAgg, run_underlying Try.underlying57]

theorem look_own {w : World} {b n : Nat} {V : ByteArray → Value} {L : List File1} (h : w.ownsMap Try.prog 9 heldV b n (dataF L V)) {x : ByteArray} (hx : x.size ≤ maxLen) : (Instr.lookup 100 (.map (some b)) (.string x) false).run Try.prog w = .ok (.agg #[valF L V x]) w := by
  obtain ⟨v, ps, hr, hv⟩ := h.lookup (string_keyed Try.underlying9) Try.underlying100 (zero_content w) (zd := .held (.agg #[.slice none 0 0])) (zp := []) rfl (keyL_of Try.underlying9 hx)
  rw [dataF_at] at hv
  simp only [heldV, Option.some.injEq, Prod.mk.injEq, DataW.held.injEq] at hv
  rw [hr, hv.1]
set_option linter.unusedVariables false in
set_option linter.unusedSimpArgs false in
set_option maxHeartbeats 4000000 in
theorem impl_drop (f b : Nat) (V : ByteArray → Value) (L : List File1) (n : ByteArray) (w : World) (hn : n.size ≤ 100000000) (hz : sizeF L ≤ 1000000000) (hF : FoldM w f b V L) :
    Calls Try.prog 88 #[.pointer (some ⟨f, 0, none⟩), .string n] w fun e w' => e = .returned (.tuple #[]) ∧ FoldM w' f b V (cutF L n) ∧ Turn f b w w' := by
  have hnm : n.size ≤ maxLen := by unfold maxLen; omega
  obtain ⟨va, vc, hva⟩ := hF.valShape n
  have hsc := sizeF_cut hF.ris n
  obtain ⟨dz, hdz⟩ : ∃ dz, ((lkF L n).getD ⟨#[]⟩).size = dz := ⟨_, rfl⟩
  rw [hdz] at hva hsc
  have hBx := hF.bx
  have hMp := hF.mp
  have hris := hF.ris
  have hshp := hide hF.shape
  have hT := Turn.refl f b w
  have hw1 : IntKind.i64.wrap ((sizeF L : Int) - (dz : Int)) = ((sizeF (cutF L n) : Nat) : Int) := by rw [IntKind.wrap_i64]; omega
  clear hF hdz
  go_enter Try.func88, Try.ntmps88
  go_wp2_with fail
  refine wp_region_noPanic ?_
  have hb0 : Below w.heap.size w w.drew := (Below.refl _ _).drew
  have hBx_0 := hBx.next hb0
  have hMp_0 := ownsMap_below hMp hb0
  have hT_0 := hT.trans (Turn.of_below hb0)
  refine wp_region_held_drew (S := fun x => x.ownsMap Try.prog 9 heldV b L.length (dataF L V)) (by kernel_rfl) hMp_0 (fun hSz => ?_)
  clear hSz hBx hMp hT
  generalize w.drew = wq0 at hb0 hBx_0 hMp_0 hT_0 ⊢
  clear hb0
  refine wpAnyH_take (i := 0) (v := .pointer (some ⟨f, 0, none⟩)) nat0 (by kernel_rfl) (by kernel_rfl) (by kernel_rfl) (fun _ _ _ h => False.elim h) (Or.inl ⟨by rfl, ?_⟩) hMp_0 ?_
  · intro wx hSw
    go_simp
  simp only [Act.put, List.setIfInBounds_toArray, List.set_cons_zero, List.set_cons_succ]
  refine wpAnyH_take (i := 1) (v := .pointer (some ⟨f, 0, none⟩)) nat1 (by kernel_rfl) (by kernel_rfl) (by kernel_rfl) (fun _ _ _ h => False.elim h) (Or.inl ⟨by rfl, ?_⟩) hMp_0 ?_
  · intro wx hSw
    go_simp
  simp only [Act.put, List.setIfInBounds_toArray, List.set_cons_zero, List.set_cons_succ]
  refine wpAnyH_take (i := 2) (v := .pointer (some ⟨f, 1, none⟩)) nat2 (by kernel_rfl) (by kernel_rfl) (by kernel_rfl) (fun _ _ _ h => False.elim h) (Or.inl ⟨by rfl, ?_⟩) hMp_0 ?_
  · intro wx hSw
    go_simp
  simp only [Act.put, List.setIfInBounds_toArray, List.set_cons_zero, List.set_cons_succ]
  refine wpAnyH_take (i := 4) (v := .pointer (some ⟨f, 0, none⟩)) nat4 (by kernel_rfl) (by kernel_rfl) (by kernel_rfl) (fun _ _ _ h => False.elim h) (Or.inl ⟨by rfl, ?_⟩) hMp_0 ?_
  · intro wx hSw
    go_simp
  simp only [Act.put, List.setIfInBounds_toArray, List.set_cons_zero, List.set_cons_succ]
  refine wpAnyH_take (i := 5) (v := .pointer (some ⟨f, 0, none⟩)) nat5 (by kernel_rfl) (by kernel_rfl) (by kernel_rfl) (fun _ _ _ h => False.elim h) (Or.inl ⟨by rfl, ?_⟩) hMp_0 ?_
  · intro wx hSw
    go_simp
  simp only [Act.put, List.setIfInBounds_toArray, List.set_cons_zero, List.set_cons_succ]
  refine wpAnyH_take (i := 6) (v := .pointer (some ⟨f, 0, none⟩)) nat6 (by kernel_rfl) (by kernel_rfl) (by kernel_rfl) (fun _ _ _ h => False.elim h) (Or.inl ⟨by rfl, ?_⟩) hMp_0 ?_
  · intro wx hSw
    go_simp
  simp only [Act.put, List.setIfInBounds_toArray, List.set_cons_zero, List.set_cons_succ]
  refine wpAnyH_take (i := 8) (v := .string n) nat8 (by kernel_rfl) (by kernel_rfl) (by kernel_rfl) (fun _ _ _ h => False.elim h) (Or.inl ⟨by rfl, ?_⟩) hMp_0 ?_
  · intro wx hSw
    go_simp
  simp only [Act.put, List.setIfInBounds_toArray, List.set_cons_zero, List.set_cons_succ]
  refine wpAnyH_ready (rs := [3, 7]) (by kernel_rfl) (by simp) ?_
  refine AllReadyH.cons nat3 (fun K hK => ?_) (AllReadyH.cons nat7 (fun K hK => ?_) AllReadyH.nil)
  · have y0 := hBx_0.cell 1
    simp only [List.getElem?_toArray, List.getElem?_cons_succ, List.getElem?_cons_zero] at y0
    go_simp
    refine hK.out _ _ hMp_0 (fun hSz => ?_)
    clear hK K hSz y0
    try simp only [Act.put, List.setIfInBounds_toArray, List.set_cons_zero, List.set_cons_succ]
    refine wpAnyH_ready (rs := [7]) (by kernel_rfl) (by simp) ?_
    refine AllReadyH.cons nat7 (fun K hK => ?_) AllReadyH.nil
    have y0 := hBx_0.cell 0
    simp only [List.getElem?_toArray, List.getElem?_cons_succ, List.getElem?_cons_zero] at y0
    go_simp
    refine hK.out _ _ hMp_0 (fun hSz => ?_)
    clear hK K hSz y0
    try simp only [Act.put, List.setIfInBounds_toArray, List.set_cons_zero, List.set_cons_succ]
    refine wpAnyH_take (i := 9) (v := .agg #[.slice va dz vc]) nat9 (by kernel_rfl) (by kernel_rfl) (by kernel_rfl) (fun _ _ _ h => False.elim h) (Or.inl ⟨by rfl, ?_⟩) hMp_0 ?_
    · intro wx hSw
      have hy := look_own hSw hnm
      rw [hva] at hy
      go_simp
    simp only [Act.put, List.setIfInBounds_toArray, List.set_cons_zero, List.set_cons_succ]
    refine wpAnyH_take (i := 10) (v := .slice va dz vc) nat10 (by kernel_rfl) (by kernel_rfl) (by kernel_rfl) (fun _ _ _ h => False.elim h) (Or.inl ⟨by rfl, ?_⟩) hMp_0 ?_
    · intro wx hSw
      have hy := run_field_data (.slice va dz vc)
      go_simp
    simp only [Act.put, List.setIfInBounds_toArray, List.set_cons_zero, List.set_cons_succ]
    refine wpAnyH_take (i := 11) (v := .int .i64 (((dz : Nat) : Int))) nat11 (by kernel_rfl) (by kernel_rfl) (by kernel_rfl) (fun _ _ _ h => False.elim h) (Or.inl ⟨by rfl, ?_⟩) hMp_0 ?_
    · intro wx hSw
      go_simp
    simp only [Act.put, List.setIfInBounds_toArray, List.set_cons_zero, List.set_cons_succ]
    refine wpAnyH_take (i := 12) (v := .int .i64 (((sizeF (cutF L n) : Nat) : Int))) nat12 (by kernel_rfl) (by kernel_rfl) (by kernel_rfl) (fun _ _ _ h => False.elim h) (Or.inl ⟨by rfl, ?_⟩) hMp_0 ?_
    · intro wx hSw
      go_simp
      first | exact hw1 | (rw [IntKind.wrap_i64]; omega)
    simp only [Act.put, List.setIfInBounds_toArray, List.set_cons_zero, List.set_cons_succ]
    refine wpAnyH_take (i := 13) (v := .pointer (some ⟨f, 0, none⟩)) nat13 (by kernel_rfl) (by kernel_rfl) (by kernel_rfl) (fun _ _ _ h => False.elim h) (Or.inl ⟨by rfl, ?_⟩) hMp_0 ?_
    · intro wx hSw
      go_simp
    simp only [Act.put, List.setIfInBounds_toArray, List.set_cons_zero, List.set_cons_succ]
    refine wpAnyH_take (i := 14) (v := .pointer (some ⟨f, 1, none⟩)) nat14 (by kernel_rfl) (by kernel_rfl) (by kernel_rfl) (fun _ _ _ h => False.elim h) (Or.inl ⟨by rfl, ?_⟩) hMp_0 ?_
    · intro wx hSw
      go_simp
    simp only [Act.put, List.setIfInBounds_toArray, List.set_cons_zero, List.set_cons_succ]
    refine wpAnyH_ready (rs := [15]) (by kernel_rfl) (by simp) ?_
    refine AllReadyH.cons nat15 (fun K hK => ?_) AllReadyH.nil
    have y0 := hBx_0.cell 1
    simp only [List.getElem?_toArray, List.getElem?_cons_succ, List.getElem?_cons_zero] at y0
    have yf := hBx_0.free
    go_simp
    clear yf y0
    have hBx_3s0 := hBx_0.set 1 (.int .i64 (((sizeF (cutF L n) : Nat) : Int)))
    have hMp_3s0 := (ownsMap_set (o := 1) hMp_0 hBx_0 (.int .i64 (((sizeF (cutF L n) : Nat) : Int))))
    have hT_3s0 := hT_0.trans (Turn.set f b _ 1 (.int .i64 (((sizeF (cutF L n) : Nat) : Int))))
    have hBx_3 : BoxIs (wq0.setCell ⟨f, 1, none⟩ (.int .i64 (((sizeF (cutF L n) : Nat) : Int)))) f #[.map (some b), .int .i64 (((sizeF (cutF L n) : Nat) : Int))] 102 := hBx_3s0
    have hMp_3 := hMp_3s0
    have hT_3 := hT_3s0
    refine hK.out _ _ hMp_3 (fun hSz => ?_)
    clear hK K hSz hBx_0 hMp_0 hT_0 hBx_3s0 hMp_3s0 hT_3s0
    generalize wq0.setCell ⟨f, 1, none⟩ (.int .i64 (((sizeF (cutF L n) : Nat) : Int))) = wq3 at hBx_3 hMp_3 hT_3 ⊢
    refine wpAnyH_done (by kernel_rfl) ?_ _
    refine NoPanic.normal ?_
    generalize hQ : wq3 = Wd at hBx_3 hMp_3 hT_3 ⊢
    clear hQ
    obtain ⟨W2, hr, hF2, hT2⟩ := FoldM.delete hBx_3 hMp_3 hris hshp.out hnm 0
    have d0 := hBx_3.cell 0
    simp only [List.getElem?_toArray, List.getElem?_cons_succ, List.getElem?_cons_zero] at d0
    have HF2 := hF2.hid
    have HT2 := hide (hT_3.trans hT2)
    clear hBx_3 hMp_3 hT_3 hF2 hT2 hw1 hsc
    go_wp2
    refine bodyPost_end (results_none rfl _ _ _) rfl ⟨rfl, HF2.out, HT2.out⟩
  · have y0 := hBx_0.cell 0
    simp only [List.getElem?_toArray, List.getElem?_cons_succ, List.getElem?_cons_zero] at y0
    go_simp
    refine hK.out _ _ hMp_0 (fun hSz => ?_)
    clear hK K hSz y0
    try simp only [Act.put, List.setIfInBounds_toArray, List.set_cons_zero, List.set_cons_succ]
    refine wpAnyH_take (i := 9) (v := .agg #[.slice va dz vc]) nat9 (by kernel_rfl) (by kernel_rfl) (by kernel_rfl) (fun _ _ _ h => False.elim h) (Or.inl ⟨by rfl, ?_⟩) hMp_0 ?_
    · intro wx hSw
      have hy := look_own hSw hnm
      rw [hva] at hy
      go_simp
    simp only [Act.put, List.setIfInBounds_toArray, List.set_cons_zero, List.set_cons_succ]
    refine wpAnyH_take (i := 10) (v := .slice va dz vc) nat10 (by kernel_rfl) (by kernel_rfl) (by kernel_rfl) (fun _ _ _ h => False.elim h) (Or.inl ⟨by rfl, ?_⟩) hMp_0 ?_
    · intro wx hSw
      have hy := run_field_data (.slice va dz vc)
      go_simp
    simp only [Act.put, List.setIfInBounds_toArray, List.set_cons_zero, List.set_cons_succ]
    refine wpAnyH_take (i := 11) (v := .int .i64 (((dz : Nat) : Int))) nat11 (by kernel_rfl) (by kernel_rfl) (by kernel_rfl) (fun _ _ _ h => False.elim h) (Or.inl ⟨by rfl, ?_⟩) hMp_0 ?_
    · intro wx hSw
      go_simp
    simp only [Act.put, List.setIfInBounds_toArray, List.set_cons_zero, List.set_cons_succ]
    refine wpAnyH_ready (rs := [3]) (by kernel_rfl) (by simp) ?_
    refine AllReadyH.cons nat3 (fun K hK => ?_) AllReadyH.nil
    have y0 := hBx_0.cell 1
    simp only [List.getElem?_toArray, List.getElem?_cons_succ, List.getElem?_cons_zero] at y0
    go_simp
    refine hK.out _ _ hMp_0 (fun hSz => ?_)
    clear hK K hSz y0
    try simp only [Act.put, List.setIfInBounds_toArray, List.set_cons_zero, List.set_cons_succ]
    refine wpAnyH_take (i := 12) (v := .int .i64 (((sizeF (cutF L n) : Nat) : Int))) nat12 (by kernel_rfl) (by kernel_rfl) (by kernel_rfl) (fun _ _ _ h => False.elim h) (Or.inl ⟨by rfl, ?_⟩) hMp_0 ?_
    · intro wx hSw
      go_simp
      first | exact hw1 | (rw [IntKind.wrap_i64]; omega)
    simp only [Act.put, List.setIfInBounds_toArray, List.set_cons_zero, List.set_cons_succ]
    refine wpAnyH_take (i := 13) (v := .pointer (some ⟨f, 0, none⟩)) nat13 (by kernel_rfl) (by kernel_rfl) (by kernel_rfl) (fun _ _ _ h => False.elim h) (Or.inl ⟨by rfl, ?_⟩) hMp_0 ?_
    · intro wx hSw
      go_simp
    simp only [Act.put, List.setIfInBounds_toArray, List.set_cons_zero, List.set_cons_succ]
    refine wpAnyH_take (i := 14) (v := .pointer (some ⟨f, 1, none⟩)) nat14 (by kernel_rfl) (by kernel_rfl) (by kernel_rfl) (fun _ _ _ h => False.elim h) (Or.inl ⟨by rfl, ?_⟩) hMp_0 ?_
    · intro wx hSw
      go_simp
    simp only [Act.put, List.setIfInBounds_toArray, List.set_cons_zero, List.set_cons_succ]
    refine wpAnyH_ready (rs := [15]) (by kernel_rfl) (by simp) ?_
    refine AllReadyH.cons nat15 (fun K hK => ?_) AllReadyH.nil
    have y0 := hBx_0.cell 1
    simp only [List.getElem?_toArray, List.getElem?_cons_succ, List.getElem?_cons_zero] at y0
    have yf := hBx_0.free
    go_simp
    clear yf y0
    have hBx_6s0 := hBx_0.set 1 (.int .i64 (((sizeF (cutF L n) : Nat) : Int)))
    have hMp_6s0 := (ownsMap_set (o := 1) hMp_0 hBx_0 (.int .i64 (((sizeF (cutF L n) : Nat) : Int))))
    have hT_6s0 := hT_0.trans (Turn.set f b _ 1 (.int .i64 (((sizeF (cutF L n) : Nat) : Int))))
    have hBx_6 : BoxIs (wq0.setCell ⟨f, 1, none⟩ (.int .i64 (((sizeF (cutF L n) : Nat) : Int)))) f #[.map (some b), .int .i64 (((sizeF (cutF L n) : Nat) : Int))] 102 := hBx_6s0
    have hMp_6 := hMp_6s0
    have hT_6 := hT_6s0
    refine hK.out _ _ hMp_6 (fun hSz => ?_)
    clear hK K hSz hBx_0 hMp_0 hT_0 hBx_6s0 hMp_6s0 hT_6s0
    generalize wq0.setCell ⟨f, 1, none⟩ (.int .i64 (((sizeF (cutF L n) : Nat) : Int))) = wq6 at hBx_6 hMp_6 hT_6 ⊢
    refine wpAnyH_done (by kernel_rfl) ?_ _
    refine NoPanic.normal ?_
    generalize hQ : wq6 = Wd at hBx_6 hMp_6 hT_6 ⊢
    clear hQ
    obtain ⟨W2, hr, hF2, hT2⟩ := FoldM.delete hBx_6 hMp_6 hris hshp.out hnm 0
    have d0 := hBx_6.cell 0
    simp only [List.getElem?_toArray, List.getElem?_cons_succ, List.getElem?_cons_zero] at d0
    have HF2 := hF2.hid
    have HT2 := hide (hT_6.trans hT2)
    clear hBx_6 hMp_6 hT_6 hF2 hT2 hw1 hsc
    go_wp2
    refine bodyPost_end (results_none rfl _ _ _) rfl ⟨rfl, HF2.out, HT2.out⟩
set_option linter.unusedVariables false in
set_option linter.unusedSimpArgs false in
set_option maxHeartbeats 4000000 in
theorem impl_put (f b : Nat) (V : ByteArray → Value) (L : List File1) (n d : ByteArray) (va : Option Addr) (vc : Nat) (w : World) (hn : n.size ≤ 100000000) (hz : sizeF L ≤ 1000000000) (hl : L.length ≤ 1000000) (hd : d.size ≤ 100000000) (hF : FoldM w f b V L) :
    Calls Try.prog 87 #[.pointer (some ⟨f, 0, none⟩), .string n, .agg #[.slice va d.size vc]] w fun e w' => e = .returned (.tuple #[]) ∧ FoldM w' f b (setV V n (.slice va d.size vc)) (putF L n d) ∧ Turn f b w w' := by
  have hnm : n.size ≤ maxLen := by unfold maxLen; omega
  have hfl := hF.bx.lt
  have hbl := hF.b_lt
  have hsc := sizeF_cut hF.ris n
  have hcl := cutF_length L n
  have hb0 := below_one w (.cells #[.slice va d.size vc] 98)
  have hG0 := BoxIs.new w #[.slice va d.size vc] 98 rfl
  have hF0 := hF.next hb0
  have hT0 := hide (Turn.of_below (f := f) (b := b) hb0)
  clear hF
  go_enter Try.func87, Try.ntmps87
  go_wp2_with fail
  generalize w.alloc (.cells #[.slice va d.size vc] 98) = W at hb0 hG0 hF0 hT0 ⊢
  obtain ⟨G, hG⟩ : ∃ G, w.heap.size = G := ⟨_, rfl⟩
  rw [hG] at hG0 hfl hbl ⊢
  refine (impl_drop f b V L n W hn hz hF0).mono ?_
  rintro e w1 ⟨rfl, hF1, hT1⟩
  have hBG := hT1.box hG0 (by omega) (by omega)
  have hT := hT0.out.trans hT1
  have hG0l := hG
  clear hT1 hF0 hG0 hT0 hb0 hG
  go_wp2_with fail
  have hBx := hF1.bx
  have hris1 := hF1.ris
  have hshp1 := hide hF1.shape
  refine wp_region_noPanic ?_
  have hb0 : Below w1.heap.size w1 w1.drew := (Below.refl _ _).drew
  have hBx_0 := hBx.next hb0
  have hBG_0 := hBG.next hb0
  have hF1_0 := hF1.next hb0
  have hT_0 := hT.trans (Turn.of_below hb0)
  refine wp_region_held_drew (S := fun x => BoxIs x f #[.map (some b), .int .i64 ((sizeF (cutF L n) : Nat) : Int)] 102 ∧ BoxIs x G #[.slice va d.size vc] 98) (by kernel_rfl) ⟨hBx_0, hBG_0⟩ (fun hSz => ?_)
  clear hSz hBG hBx hF1 hT
  generalize w1.drew = wq0 at hb0 hBx_0 hBG_0 hF1_0 hT_0 ⊢
  clear hb0
  refine wpAnyH_take (i := 0) (v := .pointer (some ⟨f, 0, none⟩)) nat0 (by kernel_rfl) (by kernel_rfl) (by kernel_rfl) (fun _ _ _ h => False.elim h) (Or.inl ⟨by rfl, ?_⟩) ⟨hBx_0, hBG_0⟩ ?_
  · intro wx hSw
    go_simp
  simp only [Act.put, List.setIfInBounds_toArray, List.set_cons_zero, List.set_cons_succ]
  refine wpAnyH_take (i := 1) (v := .pointer (some ⟨f, 0, none⟩)) nat1 (by kernel_rfl) (by kernel_rfl) (by kernel_rfl) (fun _ _ _ h => False.elim h) (Or.inl ⟨by rfl, ?_⟩) ⟨hBx_0, hBG_0⟩ ?_
  · intro wx hSw
    go_simp
  simp only [Act.put, List.setIfInBounds_toArray, List.set_cons_zero, List.set_cons_succ]
  refine wpAnyH_take (i := 2) (v := .pointer (some ⟨f, 0, none⟩)) nat2 (by kernel_rfl) (by kernel_rfl) (by kernel_rfl) (fun _ _ _ h => False.elim h) (Or.inl ⟨by rfl, ?_⟩) ⟨hBx_0, hBG_0⟩ ?_
  · intro wx hSw
    go_simp
  simp only [Act.put, List.setIfInBounds_toArray, List.set_cons_zero, List.set_cons_succ]
  refine wpAnyH_take (i := 3) (v := .map (some b)) nat3 (by kernel_rfl) (by kernel_rfl) (by kernel_rfl) (fun _ _ _ h => False.elim h) (Or.inl ⟨by rfl, ?_⟩) ⟨hBx_0, hBG_0⟩ ?_
  · intro wx hSw
    have y0 := hSw.1.cell 0
    simp only [List.getElem?_toArray, List.getElem?_cons_succ, List.getElem?_cons_zero] at y0
    go_simp
  simp only [Act.put, List.setIfInBounds_toArray, List.set_cons_zero, List.set_cons_succ]
  refine wpAnyH_take (i := 4) (v := .string n) nat4 (by kernel_rfl) (by kernel_rfl) (by kernel_rfl) (fun _ _ _ h => False.elim h) (Or.inl ⟨by rfl, ?_⟩) ⟨hBx_0, hBG_0⟩ ?_
  · intro wx hSw
    go_simp
  simp only [Act.put, List.setIfInBounds_toArray, List.set_cons_zero, List.set_cons_succ]
  refine wpAnyH_take (i := 5) (v := .agg #[.slice va d.size vc]) nat5 (by kernel_rfl) (by kernel_rfl) (by kernel_rfl) (fun _ _ _ h => False.elim h) (Or.inl ⟨by rfl, ?_⟩) ⟨hBx_0, hBG_0⟩ ?_
  · intro wx hSw
    have y0 := hSw.2.cell 0
    simp only [List.getElem?_toArray, List.getElem?_cons_succ, List.getElem?_cons_zero] at y0
    go_simp
  simp only [Act.put, List.setIfInBounds_toArray, List.set_cons_zero, List.set_cons_succ]
  refine wpAnyH_ready (rs := [6]) (by kernel_rfl) (by simp) ?_
  refine AllReadyH.cons nat6 (fun K hK => ?_) AllReadyH.nil
  obtain ⟨wq1, hr1, ho1, hx1, ht1⟩ := FoldM.store hF1_0 hnm (by omega) d (.slice va d.size vc)
  rw [cut_put] at ho1
  have hg1 := ht1.box hBG_0 (by omega) (by omega)
  go_simp
  have hBx_1 := hx1
  have hBG_1 := hg1
  have hMp_1 := ho1
  have hT_1 := hT_0.trans ht1
  refine hK.out _ _ ⟨hBx_1, hBG_1⟩ (fun hSz => ?_)
  clear hK K hSz hBG_0 hBx_0 hF1_0 hT_0
  clear hr1 ho1 hx1 ht1 hg1
  refine wpAnyH_done (by kernel_rfl) ?_ _
  refine NoPanic.normal ?_
  generalize hQ : wq1 = W2 at hBx_1 hMp_1 hT_1 hBG_1 ⊢
  clear hQ
  have hBx := hBx_1
  have hMp := hMp_1
  have hT := hT_1
  have hBG := hBG_1
  clear hBx_1 hMp_1 hT_1 hBG_1
  go_wp2_with fail
  have hw1 : IntKind.i64.wrap ((sizeF (cutF L n) : Int) + (d.size : Int)) = ((sizeF (putF L n d) : Nat) : Int) := by
    have := sizeF_put L n d
    rw [IntKind.wrap_i64]; omega
  have hshp : ∀ x, x ∈ putF L n d → ∃ a c, setV V n (.slice va d.size vc) x.n = .slice a x.d.size c := fun x hx => by
    rcases mem_putF.1 hx with rfl | ⟨h1, h2⟩
    · exact ⟨va, vc, setV_same _ _ _⟩
    · rw [setV_other h2]; exact hshp1.out x (mem_cutF.2 ⟨h1, h2⟩)
  refine wp_region_noPanic ?_
  have hb0 : Below W2.heap.size W2 W2.drew := (Below.refl _ _).drew
  have hBx_0 := hBx.next hb0
  have hMp_0 := ownsMap_below hMp hb0
  have hT_0 := hT.trans (Turn.of_below hb0)
  have hBG_0 := hBG.next hb0
  refine wp_region_held_drew (S := fun x => BoxIs x G #[.slice va d.size vc] 98) (by kernel_rfl) hBG_0 (fun hSz => ?_)
  clear hSz hBG hBx hMp hT
  generalize W2.drew = wq0 at hb0 hBx_0 hMp_0 hT_0 hBG_0 ⊢
  clear hb0
  refine wpAnyH_take (i := 0) (v := .pointer (some ⟨f, 0, none⟩)) nat0 (by kernel_rfl) (by kernel_rfl) (by kernel_rfl) (fun _ _ _ h => False.elim h) (Or.inl ⟨by rfl, ?_⟩) hBG_0 ?_
  · intro wx hSw
    go_simp
  simp only [Act.put, List.setIfInBounds_toArray, List.set_cons_zero, List.set_cons_succ]
  refine wpAnyH_take (i := 1) (v := .pointer (some ⟨f, 0, none⟩)) nat1 (by kernel_rfl) (by kernel_rfl) (by kernel_rfl) (fun _ _ _ h => False.elim h) (Or.inl ⟨by rfl, ?_⟩) hBG_0 ?_
  · intro wx hSw
    go_simp
  simp only [Act.put, List.setIfInBounds_toArray, List.set_cons_zero, List.set_cons_succ]
  refine wpAnyH_take (i := 2) (v := .pointer (some ⟨f, 1, none⟩)) nat2 (by kernel_rfl) (by kernel_rfl) (by kernel_rfl) (fun _ _ _ h => False.elim h) (Or.inl ⟨by rfl, ?_⟩) hBG_0 ?_
  · intro wx hSw
    go_simp
  simp only [Act.put, List.setIfInBounds_toArray, List.set_cons_zero, List.set_cons_succ]
  refine wpAnyH_take (i := 4) (v := .pointer (some ⟨G, 0, none⟩)) nat4 (by kernel_rfl) (by kernel_rfl) (by kernel_rfl) (fun _ _ _ h => False.elim h) (Or.inl ⟨by rfl, ?_⟩) hBG_0 ?_
  · intro wx hSw
    go_simp
  simp only [Act.put, List.setIfInBounds_toArray, List.set_cons_zero, List.set_cons_succ]
  refine wpAnyH_take (i := 5) (v := .slice va d.size vc) nat5 (by kernel_rfl) (by kernel_rfl) (by kernel_rfl) (fun _ _ _ h => False.elim h) (Or.inl ⟨by rfl, ?_⟩) hBG_0 ?_
  · intro wx hSw
    have y0 := hSw.cell 0
    simp only [List.getElem?_toArray, List.getElem?_cons_succ, List.getElem?_cons_zero] at y0
    go_simp
  simp only [Act.put, List.setIfInBounds_toArray, List.set_cons_zero, List.set_cons_succ]
  refine wpAnyH_take (i := 6) (v := .int .i64 (((d.size : Nat) : Int))) nat6 (by kernel_rfl) (by kernel_rfl) (by kernel_rfl) (fun _ _ _ h => False.elim h) (Or.inl ⟨by rfl, ?_⟩) hBG_0 ?_
  · intro wx hSw
    go_simp
  simp only [Act.put, List.setIfInBounds_toArray, List.set_cons_zero, List.set_cons_succ]
  refine wpAnyH_ready (rs := [3]) (by kernel_rfl) (by simp) ?_
  refine AllReadyH.cons nat3 (fun K hK => ?_) AllReadyH.nil
  have y0 := hBx_0.cell 1
  simp only [List.getElem?_toArray, List.getElem?_cons_succ, List.getElem?_cons_zero] at y0
  go_simp
  refine hK.out _ _ hBG_0 (fun hSz => ?_)
  clear hK K hSz y0
  try simp only [Act.put, List.setIfInBounds_toArray, List.set_cons_zero, List.set_cons_succ]
  refine wpAnyH_take (i := 7) (v := .int .i64 (((sizeF (putF L n d) : Nat) : Int))) nat7 (by kernel_rfl) (by kernel_rfl) (by kernel_rfl) (fun _ _ _ h => False.elim h) (Or.inl ⟨by rfl, ?_⟩) hBG_0 ?_
  · intro wx hSw
    go_simp
    try (first | exact hw1 | (have := sizeF_put L n d; rw [IntKind.wrap_i64]; omega))
  simp only [Act.put, List.setIfInBounds_toArray, List.set_cons_zero, List.set_cons_succ]
  refine wpAnyH_take (i := 8) (v := .pointer (some ⟨f, 0, none⟩)) nat8 (by kernel_rfl) (by kernel_rfl) (by kernel_rfl) (fun _ _ _ h => False.elim h) (Or.inl ⟨by rfl, ?_⟩) hBG_0 ?_
  · intro wx hSw
    go_simp
  simp only [Act.put, List.setIfInBounds_toArray, List.set_cons_zero, List.set_cons_succ]
  refine wpAnyH_take (i := 9) (v := .pointer (some ⟨f, 1, none⟩)) nat9 (by kernel_rfl) (by kernel_rfl) (by kernel_rfl) (fun _ _ _ h => False.elim h) (Or.inl ⟨by rfl, ?_⟩) hBG_0 ?_
  · intro wx hSw
    go_simp
  simp only [Act.put, List.setIfInBounds_toArray, List.set_cons_zero, List.set_cons_succ]
  refine wpAnyH_ready (rs := [10]) (by kernel_rfl) (by simp) ?_
  refine AllReadyH.cons nat10 (fun K hK => ?_) AllReadyH.nil
  have y0 := hBx_0.cell 1
  simp only [List.getElem?_toArray, List.getElem?_cons_succ, List.getElem?_cons_zero] at y0
  have yf := hBx_0.free
  go_simp
  clear yf y0
  have hBx_2s0 := hBx_0.set 1 (.int .i64 (((sizeF (putF L n d) : Nat) : Int)))
  have hMp_2s0 := (ownsMap_set (o := 1) hMp_0 hBx_0 (.int .i64 (((sizeF (putF L n d) : Nat) : Int))))
  have hT_2s0 := hT_0.trans (Turn.set f b _ 1 (.int .i64 (((sizeF (putF L n d) : Nat) : Int))))
  have hBG_2s0 := hBG_0.set_other (p := ⟨f, 1, none⟩) (by show f ≠ G; omega) (.int .i64 (((sizeF (putF L n d) : Nat) : Int)))
  have hBx_2 : BoxIs (wq0.setCell ⟨f, 1, none⟩ (.int .i64 (((sizeF (putF L n d) : Nat) : Int)))) f #[.map (some b), .int .i64 (((sizeF (putF L n d) : Nat) : Int))] 102 := hBx_2s0
  have hMp_2 := hMp_2s0
  have hT_2 := hT_2s0
  have hBG_2 := hBG_2s0
  refine hK.out _ _ hBG_2 (fun hSz => ?_)
  clear hK K hSz hBG_0 hBx_0 hMp_0 hT_0 hBx_2s0 hMp_2s0 hT_2s0 hBG_2s0
  generalize wq0.setCell ⟨f, 1, none⟩ (.int .i64 (((sizeF (putF L n d) : Nat) : Int))) = wq2 at hBx_2 hMp_2 hT_2 hBG_2 ⊢
  refine wpAnyH_done (by kernel_rfl) ?_ _
  refine NoPanic.normal ?_
  have HF2 := FoldM.hid ⟨hBx_2, hMp_2, (by have h := risF_put hris1 n d; rwa [cut_put] at h), hshp⟩
  have HT2 := hide hT_2
  clear hBx_2 hMp_2 hT_2 hBG_2 hw1
  go_wp2
  refine bodyPost_end (results_none rfl _ _ _) rfl ⟨rfl, HF2.out, HT2.out⟩

end Go.Proofs.Ytejedpmkbkclhaa
