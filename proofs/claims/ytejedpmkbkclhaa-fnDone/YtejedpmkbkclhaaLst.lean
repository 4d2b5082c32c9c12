/- The folder's files as a row. (By gen_lst.py.) -/
import Derived.Test.YtejedpmkbkclhaaKeysF
import Derived.Test.YtejedpmkbkclhaaClone
namespace Go.Proofs.Ytejedpmkbkclhaa
set_option maxRecDepth 100000
open Go.RowKit Go.Deep Go.Maps

theorem own_at {w : World} {B n c : Nat} {e : TypeId} {a : Option Addr} {xs : List Value} (h : w.ownsRow B e 1 (.slice a n c) n xs) {i : Nat} {x : Value} (hi : xs[i]? = some x) : ∃ g, a = some ⟨g, 0, none⟩ ∧ g < w.heap.size ∧ w.cell? ⟨g, i, none⟩ = some x := by
  have hil := (List.getElem?_eq_some_iff.1 hi).1
  have h' := h
  rcases h.2 with ⟨hv, h0⟩ | ⟨g, cap, cur, hv, hg, hh, _⟩
  · have h1 : xs.length = n * 1 := h.1
    omega
  · obtain ⟨rfl, _, _⟩ : a = some ⟨g, 0, none⟩ ∧ n = n ∧ c = cap := by injection hv with h1 h2 h3; exact ⟨h1, rfl, h3⟩
    refine ⟨g, rfl, (Array.getElem?_eq_some_iff.1 hh).1, ?_⟩
    have hc := World.ownsRow.cells h (g := g) rfl i x hi
    rw [Addr.add_lit] at hc
    have e2 : (0 : Nat) + i = i := by omega
    rw [e2] at hc
    exact hc

set_option linter.unusedVariables false in
set_option linter.unusedSimpArgs false in
set_option maxHeartbeats 4000000 in
theorem impl_list (B f b : Nat) (V : ByteArray → Value) (L : List File1) (w : World) (hl : L.length ≤ 100000) (hn : ∀ x, x ∈ L → x.n.size ≤ 100000000) (hF : FoldM w f b V L) (hR : RowsM w B V L) :
    Calls Try.prog 55 #[.pointer (some ⟨f, 0, none⟩)] w fun e w' => (∃ v, e = .returned v ∧ OwnFile w' w.heap.size v L) ∧ Below w.heap.size w w' := by
  have c0 := hF.bx.cell 0
  simp only [List.getElem?_toArray, List.getElem?_cons_succ, List.getElem?_cons_zero] at c0
  have HF := hF.hid
  have HR := hR.hid
  have HN := hide hn
  clear hF hR hn
  go_enter Try.func55, Try.ntmps55
  go_wp2_with fail
  refine (lib_MapsKeys (some b) w).mono ?_
  rintro e w0 ⟨rfl, rfl⟩
  clear c0
  go_wp2_with fail
  refine (lib_SortedKeys f b V L w hl HF.out).mono ?_
  rintro e w1 ⟨⟨v, rfl, hrow⟩, hb1⟩
  obtain ⟨ka, kc, rfl⟩ : ∃ a c, v = .slice a L.length c := by
    rcases hrow.2 with ⟨rfl, h0⟩ | ⟨g, cap, cur, rfl, _⟩
    · exact ⟨none, 0, by rw [h0]⟩
    · exact ⟨_, _, rfl⟩
  have HROW : Hid (w1.ownsRow w.heap.size 9 1 (.slice ka L.length kc) L.length (L.map fun f => Value.string f.n)) := hrow
  have HB1 := hide hb1
  have HF1 := (HF.out.next hb1).hid
  have HR1 := (HR.out.next hb1).hid
  have HO0 : Hid (OwnFile w1 w1.heap.size (.slice none 0 0) (L.take 0)) := OwnFile.nil _ _
  have HC0 : Hid (Below w1.heap.size w1 w1) := Below.refl _ _
  clear hrow hb1 HF HR
  go_wp2
  go_loopw [3, 13] (fun v i wr => ∃ k : Nat, i = .int .i64 k ∧ k ≤ L.length ∧ Hid (OwnFile wr w1.heap.size v (L.take k)) ∧ Hid (Below w1.heap.size w1 wr)) (fun _ i _ => L.length - (intOf i).toNat)
  case atStart => exact ⟨0, rfl, by omega, HO0, HC0⟩
  case round =>
    obtain ⟨k, rfl, hk, HO, HC⟩ := hrel
    clear HO0 HC0
    by_cases hlt : k < L.length
    · have hki : (k : Int) < ((L.length : Nat) : Int) := by omega
      obtain ⟨x, hx⟩ : ∃ x, L[k]? = some x := ⟨_, List.getElem?_eq_getElem hlt⟩
      have hxm : x ∈ L := List.mem_of_getElem? hx
      obtain ⟨g, rfl, hg, hgc⟩ := own_at HROW.out (i := k) (x := .string x.n) (by rw [List.getElem?_map, hx]; rfl)
      have c0 := keepc HC.out hgc
      have hxn := HN.out x hxm
      have hnm : x.n.size ≤ maxLen := by unfold maxLen; omega
      have hlk := lkF_mem HF1.out.ris hxm
      obtain ⟨va, vc, hva⟩ := HF1.out.valShape x.n
      have hRv := HR1.out.val x.n
      rw [hlk] at hva hRv
      have HVA := hide hva
      have HRV : Hid (OwnB w1 B 5 (valF L V x.n) x.d) := hRv
      have htk : L.take (k + 1) = L.take k ++ [x] := by rw [List.take_add_one, hx]; rfl
      have HTK := hide htk
      have htl : (L.take k).length = k := by rw [List.length_take]; omega
      obtain ⟨oa, on, op, rfl⟩ := HO.out.shapeN
      have hO := HO.out
      have hC := HC.out
      clear hx hlk hva hRv htk HO HC hgc
      go_upto_region 5 with fail
      clear c0
      refine wp_region_noPanic ?_
      have hb0 : Below wr.heap.size wr wr.drew := (Below.refl _ _).drew
      have hO_0 := hO.next hb0
      have hC_0 := hC.trans (hb0.mono hC.size)
      refine wp_region_held_drew (S := fun x => Below w1.heap.size w1 x) (by kernel_rfl) hC_0 (fun hSz => ?_)
      clear hSz hC hO
      generalize wr.drew = wq0 at hb0 hO_0 hC_0 ⊢
      clear hb0
      refine wpAnyH_take (i := 0) (v := .slice oa on op) nat0 (by kernel_rfl) (by kernel_rfl) (by kernel_rfl) (fun _ _ _ h => False.elim h) (Or.inl ⟨by rfl, ?_⟩) hC_0 ?_
      · intro wx hSw
        go_simp
      simp only [Act.put, List.setIfInBounds_toArray, List.set_cons_zero, List.set_cons_succ]
      refine wpAnyH_take (i := 1) (v := .string x.n) nat1 (by kernel_rfl) (by kernel_rfl) (by kernel_rfl) (fun _ _ _ h => False.elim h) (Or.inl ⟨by rfl, ?_⟩) hC_0 ?_
      · intro wx hSw
        go_simp
      simp only [Act.put, List.setIfInBounds_toArray, List.set_cons_zero, List.set_cons_succ]
      refine wpAnyH_take (i := 3) (v := .pointer (some ⟨f, 0, none⟩)) nat3 (by kernel_rfl) (by kernel_rfl) (by kernel_rfl) (fun _ _ _ h => False.elim h) (Or.inl ⟨by rfl, ?_⟩) hC_0 ?_
      · intro wx hSw
        go_simp
      simp only [Act.put, List.setIfInBounds_toArray, List.set_cons_zero, List.set_cons_succ]
      refine wpAnyH_take (i := 4) (v := .pointer (some ⟨f, 0, none⟩)) nat4 (by kernel_rfl) (by kernel_rfl) (by kernel_rfl) (fun _ _ _ h => False.elim h) (Or.inl ⟨by rfl, ?_⟩) hC_0 ?_
      · intro wx hSw
        go_simp
      simp only [Act.put, List.setIfInBounds_toArray, List.set_cons_zero, List.set_cons_succ]
      refine wpAnyH_take (i := 5) (v := .pointer (some ⟨f, 0, none⟩)) nat5 (by kernel_rfl) (by kernel_rfl) (by kernel_rfl) (fun _ _ _ h => False.elim h) (Or.inl ⟨by rfl, ?_⟩) hC_0 ?_
      · intro wx hSw
        go_simp
      simp only [Act.put, List.setIfInBounds_toArray, List.set_cons_zero, List.set_cons_succ]
      refine wpAnyH_take (i := 6) (v := .map (some b)) nat6 (by kernel_rfl) (by kernel_rfl) (by kernel_rfl) (fun _ _ _ h => False.elim h) (Or.inl ⟨by rfl, ?_⟩) hC_0 ?_
      · intro wx hSw
        have y0 := (HF1.out.bx.next hSw).cell 0
        simp only [List.getElem?_toArray, List.getElem?_cons_succ, List.getElem?_cons_zero] at y0
        go_simp
      simp only [Act.put, List.setIfInBounds_toArray, List.set_cons_zero, List.set_cons_succ]
      refine wpAnyH_take (i := 7) (v := .string x.n) nat7 (by kernel_rfl) (by kernel_rfl) (by kernel_rfl) (fun _ _ _ h => False.elim h) (Or.inl ⟨by rfl, ?_⟩) hC_0 ?_
      · intro wx hSw
        go_simp
      simp only [Act.put, List.setIfInBounds_toArray, List.set_cons_zero, List.set_cons_succ]
      refine wpAnyH_take (i := 8) (v := .agg #[.slice va x.d.size vc]) nat8 (by kernel_rfl) (by kernel_rfl) (by kernel_rfl) (fun _ _ _ h => False.elim h) (Or.inl ⟨by rfl, ?_⟩) hC_0 ?_
      · intro wx hSw
        have hy := look_own (ownsMap_below HF1.out.mp hSw) hnm
        rw [HVA.out] at hy
        go_simp
      simp only [Act.put, List.setIfInBounds_toArray, List.set_cons_zero, List.set_cons_succ]
      refine wpAnyH_take (i := 9) (v := .slice va x.d.size vc) nat9 (by kernel_rfl) (by kernel_rfl) (by kernel_rfl) (fun _ _ _ h => False.elim h) (Or.inl ⟨by rfl, ?_⟩) hC_0 ?_
      · intro wx hSw
        have hy := run_field_data (.slice va x.d.size vc) wx
        go_simp
      simp only [Act.put, List.setIfInBounds_toArray, List.set_cons_zero, List.set_cons_succ]
      refine wpAnyH_take (i := 10) (v := .string x.d) nat10 (by kernel_rfl) (by kernel_rfl) (by kernel_rfl) (fun _ _ _ h => False.elim h) (Or.inl ⟨by rfl, ?_⟩) hC_0 ?_
      · intro wx hSw
        have hyo : OwnB wx B 5 (.slice va x.d.size vc) x.d := by have hz := HRV.out.next hSw; rw [HVA.out] at hz; exact hz
        have hy := run_text_own (P := Try.prog) wx B 57 9 5 (.slice va x.d.size vc) x.d hyo Try.underlying57 Try.underlying5 Try.underlying9
        go_simp
      simp only [Act.put, List.setIfInBounds_toArray, List.set_cons_zero, List.set_cons_succ]
      refine wpAnyH_ready (rs := [2]) (by kernel_rfl) (by simp) ?_
      refine AllReadyH.cons nat2 (fun K hK => ?_) AllReadyH.nil
      go_simp
      go_at_call 91
      refine (strings_Clone x.n _ (by omega)).mono ?_
      rintro e wq1 ⟨rfl, hb1⟩
      have hO_1 := hO_0.next hb1
      have hC_1 := hC_0.trans (hb1.mono hC_0.size)
      refine hK.out _ _ hC_1 (fun hSz => ?_)
      clear hK K hSz hC_0 hO_0 hb1
      refine wpAnyH_take (i := 11) (v := .agg #[.string x.n, .string x.d]) nat11 (by kernel_rfl) (by kernel_rfl) (by kernel_rfl) (fun _ _ _ h => False.elim h) (Or.inl ⟨by rfl, ?_⟩) hC_1 ?_
      · intro wx hSw
        go_simp
      simp only [Act.put, List.setIfInBounds_toArray, List.set_cons_zero, List.set_cons_succ]
      refine wpAnyH_ready (rs := [12]) (by kernel_rfl) (by simp) ?_
      refine AllReadyH.cons nat12 (fun K hK => ?_) AllReadyH.nil
      go_simp
      have hb2 := below_one wq1 (.cells #[.string x.n, .string x.d] 96)
      have hO_2 := hO_1.next hb2
      have hC_2 := hC_1.trans (hb2.mono hC_1.size)
      have NB29_2 := BoxIs.new wq1 #[.string x.n, .string x.d] 96 rfl
      refine hK.out _ _ hC_2 (fun hSz => ?_)
      clear hK K hSz hC_1 hO_1
      obtain ⟨G2, hG2⟩ : ∃ G, G = wq1.heap.size := ⟨_, rfl⟩
      rw [← hG2] at NB29_2 ⊢
      generalize wq1.alloc (.cells #[.string x.n, .string x.d] 96) = wq2 at hb2 hO_2 hC_2 NB29_2 ⊢
      clear hG2 hb2
      refine wpAnyH_ready (rs := [13]) (by kernel_rfl) (by simp) ?_
      refine AllReadyH.cons nat13 (fun K hK => ?_) AllReadyH.nil
      refine step_append_file rfl (.tmp 17) (.tmp 29) 28 rfl Try.underlying28 w1.heap.size (.slice oa on op) (L.take k) [x] (by rfl) hO_2 ⟨G2, 0, none⟩ 1 1 (by rfl) rfl (file_news (e := x) NB29_2) hC_2.size (by omega) ?_
      intro v3 wq3 h1 h2
      have ho3 : OwnFile wq3 w1.heap.size v3 (L.take (k + 1)) := by rw [HTK.out]; exact h1
      obtain ⟨va3, vn3, vp3, rfl⟩ := ho3.shapeN
      clear h1
      have hO_3 := ho3
      have hC_3 := hC_2.trans (hO_2.grownBelow hC_2.size h2)
      refine hK.out _ _ hC_3 (fun hSz => ?_)
      clear hK K hSz NB29_2 hC_2 hO_2
      clear h2 ho3
      refine wpAnyH_take (i := 14) (v := .slice va3 vn3 vp3) nat14 (by kernel_rfl) (by kernel_rfl) (by kernel_rfl) (fun _ _ _ h => False.elim h) (Or.inl ⟨by rfl, ?_⟩) hC_3 ?_
      · intro wx hSw
        go_simp
      simp only [Act.put, List.setIfInBounds_toArray, List.set_cons_zero, List.set_cons_succ]
      refine wpAnyH_done (by kernel_rfl) ?_ _
      refine NoPanic.normal ?_
      have HO2 := hO_3.hid
      have HC2 := hide hC_3
      clear hO_3 hC_3
      go_wp2
      exact ⟨⟨k + 1, by go_num, by omega, HO2, HC2⟩, by simp [intOf]; omega⟩
    · obtain rfl : k = L.length := by omega
      have HO2 : Hid (OwnFile wr w1.heap.size u3 L) := by have h := HO.out; rw [List.take_length] at h; exact h
      have HB2 := hide (HB1.out.trans (HC.out.mono HB1.out.size))
      clear HO HC
      go_wp2
      go_ret
      exact ⟨⟨_, rfl, HO2.out.base HB1.out.size⟩, HB2.out⟩

end Go.Proofs.Ytejedpmkbkclhaa
