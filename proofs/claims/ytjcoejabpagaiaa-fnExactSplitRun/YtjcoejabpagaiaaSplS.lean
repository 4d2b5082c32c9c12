/- SplitRun of the model. (By gen_spls.py.) -/
import Derived.Test.YtjcoejabpagaiaaSplQ
import Derived.Test.YtjcoejabpagaiaaEntsOkS
import Derived.Test.YtjcoejabpagaiaaNth
import Derived.BigQuiet
import Derived.Deep.DeepCutAuto
namespace Go.Proofs.Ytjcoejabpagaiaa
set_option maxRecDepth 100000
open Go.RowKit Go.Deep

theorem ent_keep {w x : World} {b o : Nat} {v0 v1 v2 v3 : Value} (h : Below w.heap.size w x) (hb : b < w.heap.size) (hc : w.cell? ⟨b, o, none⟩ = some v0 ∧ w.cell? ⟨b, o + 1, none⟩ = some v1 ∧ w.cell? ⟨b, o + 2, none⟩ = some v2 ∧ w.cell? ⟨b, o + 3, none⟩ = some v3) : x.cell? ⟨b, o, none⟩ = some v0 ∧ x.cell? ⟨b, o + 1, none⟩ = some v1 ∧ x.cell? ⟨b, o + 2, none⟩ = some v2 ∧ x.cell? ⟨b, o + 3, none⟩ = some v3 :=
  ⟨(h.cell (p := ⟨b, o, none⟩) hb).trans hc.1, (h.cell (p := ⟨b, o + 1, none⟩) hb).trans hc.2.1, (h.cell (p := ⟨b, o + 2, none⟩) hb).trans hc.2.2.1, (h.cell (p := ⟨b, o + 3, none⟩) hb).trans hc.2.2.2⟩

set_option linter.unusedVariables false in
set_option linter.unusedSimpArgs false in
set_option maxHeartbeats 8000000 in
theorem spec_SplitRun (a : Option Addr) (len cap : Nat) (E : Ents) (most : Int) (w : World) (hl : len ≤ 1048576) (hm0 : -9223372036854775808 ≤ most) (hm1 : most ≤ 9223372036854775807) (hS : EntAt w w.heap.size a len E) :
    Calls Try.prog 6 #[.slice a len cap, .int .i64 most] w fun e w' => (∃ v L, e = .returned v ∧ OwnRuns w' w.heap.size v L ∧ L.map RunV.es = splitL E len most) ∧ Below w.heap.size w w' := by
  have HS := hide hS
  have hb0 := below_one w (.cells #[] 39)
  have HI0 : Hid (Own (w.alloc (.cells #[] 39)) w.heap.size 39 (.slice (some ⟨w.heap.size, 0, none⟩) 0 0) []) := Own.lit w w.heap.size 39 [] 0 rfl (Nat.le_refl _) (by decide)
  have HB0 := hide hb0
  have HS1 := hide (hS.below hb0)
  clear hS hb0
  go_enter Try.func6, Try.ntmps6
  go_wp2_with fail
  have hsz : (w.alloc (.cells #[] 39)).heap.size = w.heap.size + 1 := by simp
  generalize hW : w.alloc (.cells #[] 39) = W at HI0 HB0 HS1 hsz ⊢
  clear hW
  refine (spec_EntriesOk a len cap E W hl (HS1.out.mono (by omega))).mono ?_
  rintro e w1 ⟨rfl, hb1⟩
  have HB1 := hide (HB0.out.trans (hb1.mono HB0.out.size))
  have HI1 : Hid (Own w1 w.heap.size 39 (.slice (some ⟨w.heap.size, 0, none⟩) 0 0) []) := Own.below HI0.out hb1 (Nat.le_refl _)
  clear HI0 HB0 HS1 hb1 hsz
  cases hr : rowOkB E len with
  | false =>
    have hno := split_no (E := E) (len := len) (most := most) (by rw [hr]; rintro ⟨h, _⟩; cases h)
    have HN := hide hno
    clear hno
    go_wp2
    go_ret
    exact ⟨⟨_, [], rfl, ⟨HI1.out, fun e he => absurd he List.not_mem_nil, List.Pairwise.nil⟩, HN.out.symm⟩, HB1.out⟩
  | true =>
    by_cases hm : most < 1
    · have hno := split_no (E := E) (len := len) (most := most) (by rintro ⟨_, h⟩; omega)
      have HN := hide hno
      clear hno
      go_wp2
      go_ret
      exact ⟨⟨_, [], rfl, ⟨HI1.out, fun e he => absurd he List.not_mem_nil, List.Pairwise.nil⟩, HN.out.symm⟩, HB1.out⟩
    · have hm2 : 1 ≤ most := by omega
      have HY := hide (split_yes hr hm2)
      have h400 := (rowOk_out hr).1
      go_wp2
      go_loopw [5, 6] (fun v5 i wr => ∃ (k n g c : Nat), i = .int .i64 (k : Int) ∧ k ≤ len ∧ v5 = .slice (some ⟨g, 0, none⟩) n c ∧ Hid (Below w.heap.size w wr) ∧ ((k = 0 ∧ n = 0 ∧ Hid (Own wr w.heap.size 39 (.slice (some ⟨g, 0, none⟩) 0 c) [])) ∨ (∃ (D : Nat) (L : List RunV) (r : RunV), n = L.length + 1 ∧ 0 < k ∧ L.length ≤ k ∧ r.es.length ≤ k ∧ Hid (SpcSt w wr D g c L r.v r) ∧ Hid (splO E most k = (L.map RunV.es, r.es))))) (fun _ i _ => len - (intOf i).toNat)
      case atStart => exact ⟨0, 0, w.heap.size, 0, rfl, by omega, rfl, HB1, .inl ⟨rfl, rfl, HI1⟩⟩
      case round =>
        obtain ⟨k, n, g, c, rfl, hk, rfl, HB, hcase⟩ := hrel
        clear HI1 HB1
        by_cases hlt : k < len
        · have hki : (k : Int) < (len : Int) := by omega
          obtain ⟨b, off, rfl, hb, c0, c1, c2, c3⟩ := HS.out.at hlt
          have HCL := hide (And.intro c0 (And.intro c1 (And.intro c2 c3)))
          clear c0 c1 c2 c3
          rcases hcase with ⟨hk0, rfl, HI⟩ | ⟨D, L, r, rfl, hk0, hLk, hrk, HT, HO⟩
          · subst hk0
            have HOo : Hid (splO E most (0 + 1) = (([] : List RunV).map RunV.es, [] ++ [entryAt1 E 0])) := by show _ = _; rw [splO_one hm2]; rfl
            go_upto_region 8 with fail
            go_quiet (fail)
            have HB8 := hide (HB.out.trans ((below_drewN (Below.refl _ _) nq).mono HB.out.size))
            have HI8 := hide (show OwnRuns (wr.drewN nq) w.heap.size (.slice (some ⟨g, 0, none⟩) 0 c) [] from ⟨Own.drewN HI.out _, fun e he => absurd he List.not_mem_nil, List.Pairwise.nil⟩)
            clear HB HI
            generalize wr.drewN nq = w8 at HB8 HI8 ⊢
            have hbR := below_one w8 (.cells #[.slice none 0 0] 39)
            have HRN := hide ((HI8.out).next hbR)
            have HBN := hide (HB8.out.trans (hbR.mono HB8.out.size))
            have HR9 := (BoxIs.new w8 #[.slice none 0 0] 39 rfl).hid
            have r0 := HR9.out.cell 0
            simp only [List.getElem?_toArray, List.getElem?_cons_succ, List.getElem?_cons_zero] at r0
            have hWs := HBN.out.size
            have HJ : Hid ((([] : List RunV)).length = 0) := by show _ = _; simp
            have hMl : ((([] : List RunV)).map RunV.v).length < 1000000 := by rw [List.length_map, HJ.out]; omega
            have hMe : ((([] : List RunV)).map RunV.v ++ [Value.slice none 0 0]).length = 0 + 1 := by rw [List.length_append, List.length_map, HJ.out]; rfl
            have HMe := hide hMe
            clear hbR hMe
            obtain ⟨M, hMM⟩ : ∃ M, ([] : List RunV) = M := ⟨_, rfl⟩
            rw [hMM] at HRN HJ hMl HMe HOo
            clear hMM
            go_wp2_with (first
              | (at_builtin; refine wpList_append_run rfl _ _ 24 rfl Try.underlying24 w.heap.size _ (.slice none 0 0) (M.map RunV.v) (by rfl) ⟨w8.heap.size, 0, none⟩ (by rfl) r0 HRN.out.row rfl hWs hMl ?_))
            intro v10 w10 ho hg
            obtain ⟨g2, cc, hv10⟩ := rg_some (show World.ownsRow _ _ _ _ _ _ _ from ho) (by rw [HMe.out]; omega)
            rw [HMe.out] at hv10
            subst hv10
            have HF1 := (spc_open HRN.out HBN.out hg ho).hid
            obtain ⟨DD, hDD⟩ : ∃ D, w10.heap.size = D := ⟨_, rfl⟩
            rw [hDD] at HF1
            clear ho hg HRN HBN HR9 r0 hWs hMl hDD HMe
            go_upto_region 11 with fail
            have HF := HF1.out
            clear HF1 HB8 HI8
            refine wp_region_noPanic ?_
            have hb0 : Below w10.heap.size w10 w10.drew := (Below.refl _ _).drew
            have H_0 := HF.next hb0
            refine wp_region_held_drew (S := fun x => x.cell? ⟨b, off + 0 * 4, none⟩ = some (.string (E.U 0)) ∧ x.cell? ⟨b, off + 0 * 4 + 1, none⟩ = some (.int .i64 (E.Q 0)) ∧ x.cell? ⟨b, off + 0 * 4 + 2, none⟩ = some (.int .i64 (E.K 0)) ∧ x.cell? ⟨b, off + 0 * 4 + 3, none⟩ = some (.string (E.X 0))) (by kernel_rfl) (ent_keep H_0.low hb HCL.out) (fun hSz => ?_)
            clear hSz HF
            generalize w10.drew = wq0 at hb0 H_0 ⊢
            clear hb0
            refine wpAnyH_take (i := 0) (v := .slice (some ⟨g2, 0, none⟩) ((0 + 1)) cc) nat0 (by kernel_rfl) (by kernel_rfl) (by kernel_rfl) (fun _ _ _ h => False.elim h) (Or.inl ⟨by rfl, ?_⟩) (ent_keep H_0.low hb HCL.out) ?_
            · intro wx hSw
              go_simp
            simp only [Act.put, List.setIfInBounds_toArray, List.set_cons_zero, List.set_cons_succ]
            refine wpAnyH_take (i := 1) (v := .int .i64 0) nat1 (by kernel_rfl) (by kernel_rfl) (by kernel_rfl) (fun _ _ _ h => False.elim h) (Or.inl ⟨by rfl, ?_⟩) (ent_keep H_0.low hb HCL.out) ?_
            · intro wx hSw
              go_simp
            simp only [Act.put, List.setIfInBounds_toArray, List.set_cons_zero, List.set_cons_succ]
            refine wpAnyH_take (i := 2) (v := .slice (some ⟨g2, 0, none⟩) ((0 + 1)) cc) nat2 (by kernel_rfl) (by kernel_rfl) (by kernel_rfl) (fun _ _ _ h => False.elim h) (Or.inl ⟨by rfl, ?_⟩) (ent_keep H_0.low hb HCL.out) ?_
            · intro wx hSw
              go_simp
            simp only [Act.put, List.setIfInBounds_toArray, List.set_cons_zero, List.set_cons_succ]
            refine wpAnyH_take (i := 3) (v := .int .i64 0) nat3 (by kernel_rfl) (by kernel_rfl) (by kernel_rfl) (fun _ _ _ h => False.elim h) (Or.inl ⟨by rfl, ?_⟩) (ent_keep H_0.low hb HCL.out) ?_
            · intro wx hSw
              go_simp
            simp only [Act.put, List.setIfInBounds_toArray, List.set_cons_zero, List.set_cons_succ]
            refine wpAnyH_take (i := 4) (v := .pointer (some ⟨g2, 0, none⟩)) nat4 (by kernel_rfl) (by kernel_rfl) (by kernel_rfl) (fun _ _ _ h => False.elim h) (Or.inl ⟨by rfl, ?_⟩) (ent_keep H_0.low hb HCL.out) ?_
            · intro wx hSw
              go_simp
              try (intro hh; exfalso; first | omega | (have h9 := hh (by omega); omega))
            simp only [Act.put, List.setIfInBounds_toArray, List.set_cons_zero, List.set_cons_succ]
            refine wpAnyH_take (i := 5) (v := .pointer (some ⟨g2, 0, none⟩)) nat5 (by kernel_rfl) (by kernel_rfl) (by kernel_rfl) (fun _ _ _ h => False.elim h) (Or.inl ⟨by rfl, ?_⟩) (ent_keep H_0.low hb HCL.out) ?_
            · intro wx hSw
              go_simp
            simp only [Act.put, List.setIfInBounds_toArray, List.set_cons_zero, List.set_cons_succ]
            refine wpAnyH_take (i := 7) (v := .slice (some ⟨b, off, none⟩) len cap) nat7 (by kernel_rfl) (by kernel_rfl) (by kernel_rfl) (fun _ _ _ h => False.elim h) (Or.inl ⟨by rfl, ?_⟩) (ent_keep H_0.low hb HCL.out) ?_
            · intro wx hSw
              go_simp
            simp only [Act.put, List.setIfInBounds_toArray, List.set_cons_zero, List.set_cons_succ]
            refine wpAnyH_take (i := 8) (v := .int .i64 0) nat8 (by kernel_rfl) (by kernel_rfl) (by kernel_rfl) (fun _ _ _ h => False.elim h) (Or.inl ⟨by rfl, ?_⟩) (ent_keep H_0.low hb HCL.out) ?_
            · intro wx hSw
              go_simp
            simp only [Act.put, List.setIfInBounds_toArray, List.set_cons_zero, List.set_cons_succ]
            refine wpAnyH_take (i := 9) (v := .pointer (some ⟨b, off + 0 * 4, none⟩)) nat9 (by kernel_rfl) (by kernel_rfl) (by kernel_rfl) (fun _ _ _ h => False.elim h) (Or.inl ⟨by rfl, ?_⟩) (ent_keep H_0.low hb HCL.out) ?_
            · intro wx hSw
              go_simp
            simp only [Act.put, List.setIfInBounds_toArray, List.set_cons_zero, List.set_cons_succ]
            refine wpAnyH_take (i := 10) (v := .agg #[.string ((E.U 0)), .int .i64 ((E.Q 0)), .int .i64 ((E.K 0)), .string ((E.X 0))]) nat10 (by kernel_rfl) (by kernel_rfl) (by kernel_rfl) (fun _ _ _ h => False.elim h) (Or.inl ⟨by rfl, ?_⟩) (ent_keep H_0.low hb HCL.out) ?_
            · intro wx hSw
              obtain ⟨y0, y1, y2, y3⟩ := hSw
              simp only [Nat.zero_mul, Nat.add_zero] at y0 y1 y2 y3
              go_simp
            simp only [Act.put, List.setIfInBounds_toArray, List.set_cons_zero, List.set_cons_succ]
            refine wpAnyH_ready (rs := [6, 11]) (by kernel_rfl) (by simp) ?_
            refine AllReadyH.cons nat6 (fun K hK => ?_) (AllReadyH.cons nat11 (fun K hK => ?_) AllReadyH.nil)
            · have y0 := H_0.cell.1
              rw [HJ.out] at y0
              go_simp
              clear y0
              have H_1 := H_0
              refine hK.out _ _ (ent_keep H_1.low hb HCL.out) (fun hSz => ?_)
              clear hK K hSz H_0
              refine wpAnyH_ready (rs := [11]) (by kernel_rfl) (by simp) ?_
              refine AllReadyH.cons nat11 (fun K hK => ?_) AllReadyH.nil
              go_simp
              have hb2 := below_one wq0 (.cells #[.string ((E.U 0)), .int .i64 ((E.Q 0)), .int .i64 ((E.K 0)), .string ((E.X 0))] 43)
              have H_2 := H_1.next hb2
              have NB71_2 := BoxIs.new wq0 #[.string ((E.U 0)), .int .i64 ((E.Q 0)), .int .i64 ((E.K 0)), .string ((E.X 0))] 43 rfl
              refine hK.out _ _ (ent_keep H_2.low hb HCL.out) (fun hSz => ?_)
              clear hK K hSz H_1
              obtain ⟨G2, hG2⟩ : ∃ G, G = wq0.heap.size := ⟨_, rfl⟩
              rw [← hG2] at NB71_2 ⊢
              generalize wq0.alloc (.cells #[.string ((E.U 0)), .int .i64 ((E.Q 0)), .int .i64 ((E.K 0)), .string ((E.X 0))] 43) = wq2 at hb2 H_2 NB71_2 ⊢
              clear hG2 hb2
              refine wpAnyH_ready (rs := [12]) (by kernel_rfl) (by simp) ?_
              refine AllReadyH.cons nat12 (fun K hK => ?_) AllReadyH.nil
              refine step_append_entry rfl (.tmp 66) (.tmp 71) 26 rfl Try.underlying26 DD (.slice none 0 0) ([] : List Entry1) [entryAt1 E 0] (by rfl) H_2.last ⟨G2, 0, none⟩ 1 1 (by rfl) rfl (entry_news (e := entryAt1 E 0) NB71_2) H_2.hX (by first | omega | (simp; done) | (simp; omega)) ?_
              intro v3 wq3 h1 h2
              obtain ⟨va3, vn3, vp3, rfl, hvn3⟩ : ∃ a m p, v3 = .slice a m p ∧ Hid (m = (([] : List Entry1) ++ [entryAt1 E 0]).length) := by obtain ⟨a, p, e⟩ := h1.shape; exact ⟨a, _, p, e, rfl⟩
              have hG3 := H_2.grow (r' := RunV.mk va3 vp3 (([] : List Entry1) ++ [entryAt1 E 0])) h2 (by obtain rfl := hvn3.out; exact h1)
              clear h1 h2
              have H_3 := hG3
              refine hK.out _ _ (ent_keep H_3.low hb HCL.out) (fun hSz => ?_)
              clear hK K hSz H_2 NB71_2
              clear hG3
              refine wpAnyH_take (i := 13) (v := .pointer (some ⟨g2, 0, none⟩)) nat13 (by kernel_rfl) (by kernel_rfl) (by kernel_rfl) (fun _ _ _ h => False.elim h) (Or.inl ⟨by rfl, ?_⟩) (ent_keep H_3.low hb HCL.out) ?_
              · intro wx hSw
                go_simp
                try (intro hh; exfalso; first | omega | (have h9 := hh (by omega); omega))
              simp only [Act.put, List.setIfInBounds_toArray, List.set_cons_zero, List.set_cons_succ]
              refine wpAnyH_take (i := 14) (v := .pointer (some ⟨g2, 0, none⟩)) nat14 (by kernel_rfl) (by kernel_rfl) (by kernel_rfl) (fun _ _ _ h => False.elim h) (Or.inl ⟨by rfl, ?_⟩) (ent_keep H_3.low hb HCL.out) ?_
              · intro wx hSw
                go_simp
                try (intro hh; exfalso; first | omega | (have h9 := hh (by omega); omega))
              simp only [Act.put, List.setIfInBounds_toArray, List.set_cons_zero, List.set_cons_succ]
              refine wpAnyH_ready (rs := [15]) (by kernel_rfl) (by simp) ?_
              refine AllReadyH.cons nat15 (fun K hK => ?_) AllReadyH.nil
              have y0 := H_3.cell.1
              have yf := H_3.cell.2
              rw [HJ.out] at y0 yf
              go_simp
              clear y0 yf
              have hP4 := H_3.put
              rw [HJ.out] at hP4
              rw [show (RunV.mk va3 vp3 (([] : List Entry1) ++ [entryAt1 E 0])).v = .slice va3 vn3 vp3 from by obtain rfl := hvn3.out; rfl] at hP4
              have H_4 := hP4
              refine hK.out _ _ (ent_keep H_4.low hb HCL.out) (fun hSz => ?_)
              clear hK K hSz H_3
              generalize wq3.setCell ⟨g2, 0, none⟩ (.slice va3 vn3 vp3) = wq4 at H_4 ⊢
              clear hP4
              refine wpAnyH_done (by kernel_rfl) ?_ _
              refine NoPanic.normal ?_
              obtain rfl := hvn3.out
              have HFIN := H_4.hid
              have HBF := hide H_4.low
              clear H_4
              go_wp2
              exact ⟨⟨0 + 1, _, g2, _, by go_num, by omega, rfl, HBF, .inr ⟨DD, M, RunV.mk va3 vp3 (([] : List Entry1) ++ [entryAt1 E 0]), by rw [HJ.out], by omega, by have := HJ.out; omega, by first | (simp; done) | (simp; omega), HFIN, HOo⟩⟩, by simp [intOf]; omega⟩
            · go_simp
              have hb5 := below_one wq0 (.cells #[.string ((E.U 0)), .int .i64 ((E.Q 0)), .int .i64 ((E.K 0)), .string ((E.X 0))] 43)
              have H_5 := H_0.next hb5
              have NB71_5 := BoxIs.new wq0 #[.string ((E.U 0)), .int .i64 ((E.Q 0)), .int .i64 ((E.K 0)), .string ((E.X 0))] 43 rfl
              refine hK.out _ _ (ent_keep H_5.low hb HCL.out) (fun hSz => ?_)
              clear hK K hSz H_0
              obtain ⟨G5, hG5⟩ : ∃ G, G = wq0.heap.size := ⟨_, rfl⟩
              rw [← hG5] at NB71_5 ⊢
              generalize wq0.alloc (.cells #[.string ((E.U 0)), .int .i64 ((E.Q 0)), .int .i64 ((E.K 0)), .string ((E.X 0))] 43) = wq5 at hb5 H_5 NB71_5 ⊢
              clear hG5 hb5
              refine wpAnyH_ready (rs := [6]) (by kernel_rfl) (by simp) ?_
              refine AllReadyH.cons nat6 (fun K hK => ?_) AllReadyH.nil
              have y0 := H_5.cell.1
              rw [HJ.out] at y0
              go_simp
              clear y0
              have H_6 := H_5
              have NB71_6 := NB71_5
              refine hK.out _ _ (ent_keep H_6.low hb HCL.out) (fun hSz => ?_)
              clear hK K hSz H_5 NB71_5
              refine wpAnyH_ready (rs := [12]) (by kernel_rfl) (by simp) ?_
              refine AllReadyH.cons nat12 (fun K hK => ?_) AllReadyH.nil
              refine step_append_entry rfl (.tmp 66) (.tmp 71) 26 rfl Try.underlying26 DD (.slice none 0 0) ([] : List Entry1) [entryAt1 E 0] (by rfl) H_6.last ⟨G5, 0, none⟩ 1 1 (by rfl) rfl (entry_news (e := entryAt1 E 0) NB71_6) H_6.hX (by first | omega | (simp; done) | (simp; omega)) ?_
              intro v7 wq7 h1 h2
              obtain ⟨va7, vn7, vp7, rfl, hvn7⟩ : ∃ a m p, v7 = .slice a m p ∧ Hid (m = (([] : List Entry1) ++ [entryAt1 E 0]).length) := by obtain ⟨a, p, e⟩ := h1.shape; exact ⟨a, _, p, e, rfl⟩
              have hG7 := H_6.grow (r' := RunV.mk va7 vp7 (([] : List Entry1) ++ [entryAt1 E 0])) h2 (by obtain rfl := hvn7.out; exact h1)
              clear h1 h2
              have H_7 := hG7
              refine hK.out _ _ (ent_keep H_7.low hb HCL.out) (fun hSz => ?_)
              clear hK K hSz H_6 NB71_6
              clear hG7
              refine wpAnyH_take (i := 13) (v := .pointer (some ⟨g2, 0, none⟩)) nat13 (by kernel_rfl) (by kernel_rfl) (by kernel_rfl) (fun _ _ _ h => False.elim h) (Or.inl ⟨by rfl, ?_⟩) (ent_keep H_7.low hb HCL.out) ?_
              · intro wx hSw
                go_simp
                try (intro hh; exfalso; first | omega | (have h9 := hh (by omega); omega))
              simp only [Act.put, List.setIfInBounds_toArray, List.set_cons_zero, List.set_cons_succ]
              refine wpAnyH_take (i := 14) (v := .pointer (some ⟨g2, 0, none⟩)) nat14 (by kernel_rfl) (by kernel_rfl) (by kernel_rfl) (fun _ _ _ h => False.elim h) (Or.inl ⟨by rfl, ?_⟩) (ent_keep H_7.low hb HCL.out) ?_
              · intro wx hSw
                go_simp
                try (intro hh; exfalso; first | omega | (have h9 := hh (by omega); omega))
              simp only [Act.put, List.setIfInBounds_toArray, List.set_cons_zero, List.set_cons_succ]
              refine wpAnyH_ready (rs := [15]) (by kernel_rfl) (by simp) ?_
              refine AllReadyH.cons nat15 (fun K hK => ?_) AllReadyH.nil
              have y0 := H_7.cell.1
              have yf := H_7.cell.2
              rw [HJ.out] at y0 yf
              go_simp
              clear y0 yf
              have hP8 := H_7.put
              rw [HJ.out] at hP8
              rw [show (RunV.mk va7 vp7 (([] : List Entry1) ++ [entryAt1 E 0])).v = .slice va7 vn7 vp7 from by obtain rfl := hvn7.out; rfl] at hP8
              have H_8 := hP8
              refine hK.out _ _ (ent_keep H_8.low hb HCL.out) (fun hSz => ?_)
              clear hK K hSz H_7
              generalize wq7.setCell ⟨g2, 0, none⟩ (.slice va7 vn7 vp7) = wq8 at H_8 ⊢
              clear hP8
              refine wpAnyH_done (by kernel_rfl) ?_ _
              refine NoPanic.normal ?_
              obtain rfl := hvn7.out
              have HFIN := H_8.hid
              have HBF := hide H_8.low
              clear H_8
              go_wp2
              exact ⟨⟨0 + 1, _, g2, _, by go_num, by omega, rfl, HBF, .inr ⟨DD, M, RunV.mk va7 vp7 (([] : List Entry1) ++ [entryAt1 E 0]), by rw [HJ.out], by omega, by have := HJ.out; omega, by first | (simp; done) | (simp; omega), HFIN, HOo⟩⟩, by simp [intOf]; omega⟩
          · have hkn : ¬ (k : Int) = 0 := by omega
            have hkb : ((k : Int) == 0) = false := by simp; omega
            have hc := HT.out.cell.1
            have hcap := HT.out.cap
            have hk1 : k - 1 < len := by omega
            obtain ⟨b2, off2, he2, hb2, d0, _, _, _⟩ := (HS.out.below HB.out).at hk1
            simp only [Option.some.injEq, Addr.mk.injEq, and_true] at he2
            obtain ⟨rfl, rfl⟩ := he2
            have c0 := (ent_keep HB.out hb HCL.out).1
            have hwk : IntKind.i64.wrap ((k : Int) - 1) = ((k - 1 : Nat) : Int) := by rw [IntKind.wrap_i64]; omega
            have hkl : ((k - 1 : Nat) : Int) < (len : Int) := by omega
            unfold RunV.v at hc
            by_cases hge : most ≤ (r.es.length : Int)
            · cases hq : ((E.U (k - 1)).toList == (E.U k).toList) with
              | false =>
                have hct : cutAt E most r.es k = true := by
                  unfold cutAt
                  have e2 : ((E.U k).toList == (E.U (k - 1)).toList) = false := by rw [← hq]; exact Bool.beq_comm
                  rw [decide_eq_true hge, e2]; rfl
                have HOo : Hid (splO E most (k + 1) = ((L ++ [r]).map RunV.es, [] ++ [entryAt1 E k])) := by show _ = _; rw [splO_succ, HO.out]; simp only [hct, if_true, List.map_append, List.map_cons, List.map_nil, List.nil_append]
                clear hct
                go_upto_region 8 with fail
                go_quiet (fail)
                have HB8 := hide (HB.out.trans ((below_drewN (Below.refl _ _) nq).mono HB.out.size))
                have HI8 := hide ((HT.out.next (below_drewN (Below.refl _ _) nq)).runs)
                clear HB HT hc d0 c0 hwk hkl hge hq hkb hkn
                generalize wr.drewN nq = w8 at HB8 HI8 ⊢
                have hbR := below_one w8 (.cells #[.slice none 0 0] 39)
                have HRN := hide ((HI8.out).next hbR)
                have HBN := hide (HB8.out.trans (hbR.mono HB8.out.size))
                have HR9 := (BoxIs.new w8 #[.slice none 0 0] 39 rfl).hid
                have r0 := HR9.out.cell 0
                simp only [List.getElem?_toArray, List.getElem?_cons_succ, List.getElem?_cons_zero] at r0
                have hWs := HBN.out.size
                have HJ : Hid (((L ++ [r])).length = (L.length + 1)) := by show _ = _; simp
                have hMl : (((L ++ [r])).map RunV.v).length < 1000000 := by rw [List.length_map, HJ.out]; omega
                have hMe : (((L ++ [r])).map RunV.v ++ [Value.slice none 0 0]).length = (L.length + 1) + 1 := by rw [List.length_append, List.length_map, HJ.out]; rfl
                have HMe := hide hMe
                clear hbR hMe
                obtain ⟨M, hMM⟩ : ∃ M, (L ++ [r]) = M := ⟨_, rfl⟩
                rw [hMM] at HRN HJ hMl HMe HOo
                clear hMM
                go_wp2_with (first
                  | (at_builtin; refine wpList_append_run rfl _ _ 24 rfl Try.underlying24 w.heap.size _ (.slice none 0 0) (M.map RunV.v) (by rfl) ⟨w8.heap.size, 0, none⟩ (by rfl) r0 HRN.out.row rfl hWs hMl ?_))
                intro v10 w10 ho hg
                obtain ⟨g2, cc, hv10⟩ := rg_some (show World.ownsRow _ _ _ _ _ _ _ from ho) (by rw [HMe.out]; omega)
                rw [HMe.out] at hv10
                subst hv10
                have HF1 := (spc_open HRN.out HBN.out hg ho).hid
                obtain ⟨DD, hDD⟩ : ∃ D, w10.heap.size = D := ⟨_, rfl⟩
                rw [hDD] at HF1
                clear ho hg HRN HBN HR9 r0 hWs hMl hDD HMe
                go_upto_region 11 with fail
                have HF := HF1.out
                clear HF1 HB8 HI8
                refine wp_region_noPanic ?_
                have hb0 : Below w10.heap.size w10 w10.drew := (Below.refl _ _).drew
                have H_0 := HF.next hb0
                refine wp_region_held_drew (S := fun x => x.cell? ⟨b, off + k * 4, none⟩ = some (.string (E.U k)) ∧ x.cell? ⟨b, off + k * 4 + 1, none⟩ = some (.int .i64 (E.Q k)) ∧ x.cell? ⟨b, off + k * 4 + 2, none⟩ = some (.int .i64 (E.K k)) ∧ x.cell? ⟨b, off + k * 4 + 3, none⟩ = some (.string (E.X k))) (by kernel_rfl) (ent_keep H_0.low hb HCL.out) (fun hSz => ?_)
                clear hSz HF
                generalize w10.drew = wq0 at hb0 H_0 ⊢
                clear hb0
                refine wpAnyH_take (i := 0) (v := .slice (some ⟨g2, 0, none⟩) (((L.length + 1) + 1)) cc) nat0 (by kernel_rfl) (by kernel_rfl) (by kernel_rfl) (fun _ _ _ h => False.elim h) (Or.inl ⟨by rfl, ?_⟩) (ent_keep H_0.low hb HCL.out) ?_
                · intro wx hSw
                  go_simp
                simp only [Act.put, List.setIfInBounds_toArray, List.set_cons_zero, List.set_cons_succ]
                refine wpAnyH_take (i := 1) (v := .int .i64 ((L.length : Int) + 1)) nat1 (by kernel_rfl) (by kernel_rfl) (by kernel_rfl) (fun _ _ _ h => False.elim h) (Or.inl ⟨by rfl, ?_⟩) (ent_keep H_0.low hb HCL.out) ?_
                · intro wx hSw
                  go_simp
                simp only [Act.put, List.setIfInBounds_toArray, List.set_cons_zero, List.set_cons_succ]
                refine wpAnyH_take (i := 2) (v := .slice (some ⟨g2, 0, none⟩) (((L.length + 1) + 1)) cc) nat2 (by kernel_rfl) (by kernel_rfl) (by kernel_rfl) (fun _ _ _ h => False.elim h) (Or.inl ⟨by rfl, ?_⟩) (ent_keep H_0.low hb HCL.out) ?_
                · intro wx hSw
                  go_simp
                simp only [Act.put, List.setIfInBounds_toArray, List.set_cons_zero, List.set_cons_succ]
                refine wpAnyH_take (i := 3) (v := .int .i64 ((L.length : Int) + 1)) nat3 (by kernel_rfl) (by kernel_rfl) (by kernel_rfl) (fun _ _ _ h => False.elim h) (Or.inl ⟨by rfl, ?_⟩) (ent_keep H_0.low hb HCL.out) ?_
                · intro wx hSw
                  go_simp
                simp only [Act.put, List.setIfInBounds_toArray, List.set_cons_zero, List.set_cons_succ]
                refine wpAnyH_take (i := 4) (v := .pointer (some ⟨g2, (L.length + 1), none⟩)) nat4 (by kernel_rfl) (by kernel_rfl) (by kernel_rfl) (fun _ _ _ h => False.elim h) (Or.inl ⟨by rfl, ?_⟩) (ent_keep H_0.low hb HCL.out) ?_
                · intro wx hSw
                  go_simp
                  try (intro hh; exfalso; first | omega | (have h9 := hh (by omega); omega))
                simp only [Act.put, List.setIfInBounds_toArray, List.set_cons_zero, List.set_cons_succ]
                refine wpAnyH_take (i := 5) (v := .pointer (some ⟨g2, (L.length + 1), none⟩)) nat5 (by kernel_rfl) (by kernel_rfl) (by kernel_rfl) (fun _ _ _ h => False.elim h) (Or.inl ⟨by rfl, ?_⟩) (ent_keep H_0.low hb HCL.out) ?_
                · intro wx hSw
                  go_simp
                simp only [Act.put, List.setIfInBounds_toArray, List.set_cons_zero, List.set_cons_succ]
                refine wpAnyH_take (i := 7) (v := .slice (some ⟨b, off, none⟩) len cap) nat7 (by kernel_rfl) (by kernel_rfl) (by kernel_rfl) (fun _ _ _ h => False.elim h) (Or.inl ⟨by rfl, ?_⟩) (ent_keep H_0.low hb HCL.out) ?_
                · intro wx hSw
                  go_simp
                simp only [Act.put, List.setIfInBounds_toArray, List.set_cons_zero, List.set_cons_succ]
                refine wpAnyH_take (i := 8) (v := .int .i64 ((k : Int))) nat8 (by kernel_rfl) (by kernel_rfl) (by kernel_rfl) (fun _ _ _ h => False.elim h) (Or.inl ⟨by rfl, ?_⟩) (ent_keep H_0.low hb HCL.out) ?_
                · intro wx hSw
                  go_simp
                simp only [Act.put, List.setIfInBounds_toArray, List.set_cons_zero, List.set_cons_succ]
                refine wpAnyH_take (i := 9) (v := .pointer (some ⟨b, off + k * 4, none⟩)) nat9 (by kernel_rfl) (by kernel_rfl) (by kernel_rfl) (fun _ _ _ h => False.elim h) (Or.inl ⟨by rfl, ?_⟩) (ent_keep H_0.low hb HCL.out) ?_
                · intro wx hSw
                  go_simp
                simp only [Act.put, List.setIfInBounds_toArray, List.set_cons_zero, List.set_cons_succ]
                refine wpAnyH_take (i := 10) (v := .agg #[.string ((E.U k)), .int .i64 ((E.Q k)), .int .i64 ((E.K k)), .string ((E.X k))]) nat10 (by kernel_rfl) (by kernel_rfl) (by kernel_rfl) (fun _ _ _ h => False.elim h) (Or.inl ⟨by rfl, ?_⟩) (ent_keep H_0.low hb HCL.out) ?_
                · intro wx hSw
                  obtain ⟨y0, y1, y2, y3⟩ := hSw
                  go_simp
                simp only [Act.put, List.setIfInBounds_toArray, List.set_cons_zero, List.set_cons_succ]
                refine wpAnyH_ready (rs := [6, 11]) (by kernel_rfl) (by simp) ?_
                refine AllReadyH.cons nat6 (fun K hK => ?_) (AllReadyH.cons nat11 (fun K hK => ?_) AllReadyH.nil)
                · have y0 := H_0.cell.1
                  rw [HJ.out] at y0
                  go_simp
                  clear y0
                  have H_1 := H_0
                  refine hK.out _ _ (ent_keep H_1.low hb HCL.out) (fun hSz => ?_)
                  clear hK K hSz H_0
                  refine wpAnyH_ready (rs := [11]) (by kernel_rfl) (by simp) ?_
                  refine AllReadyH.cons nat11 (fun K hK => ?_) AllReadyH.nil
                  go_simp
                  have hb2 := below_one wq0 (.cells #[.string ((E.U k)), .int .i64 ((E.Q k)), .int .i64 ((E.K k)), .string ((E.X k))] 43)
                  have H_2 := H_1.next hb2
                  have NB71_2 := BoxIs.new wq0 #[.string ((E.U k)), .int .i64 ((E.Q k)), .int .i64 ((E.K k)), .string ((E.X k))] 43 rfl
                  refine hK.out _ _ (ent_keep H_2.low hb HCL.out) (fun hSz => ?_)
                  clear hK K hSz H_1
                  obtain ⟨G2, hG2⟩ : ∃ G, G = wq0.heap.size := ⟨_, rfl⟩
                  rw [← hG2] at NB71_2 ⊢
                  generalize wq0.alloc (.cells #[.string ((E.U k)), .int .i64 ((E.Q k)), .int .i64 ((E.K k)), .string ((E.X k))] 43) = wq2 at hb2 H_2 NB71_2 ⊢
                  clear hG2 hb2
                  refine wpAnyH_ready (rs := [12]) (by kernel_rfl) (by simp) ?_
                  refine AllReadyH.cons nat12 (fun K hK => ?_) AllReadyH.nil
                  refine step_append_entry rfl (.tmp 66) (.tmp 71) 26 rfl Try.underlying26 DD (.slice none 0 0) ([] : List Entry1) [entryAt1 E k] (by rfl) H_2.last ⟨G2, 0, none⟩ 1 1 (by rfl) rfl (entry_news (e := entryAt1 E k) NB71_2) H_2.hX (by first | omega | (simp; done) | (simp; omega)) ?_
                  intro v3 wq3 h1 h2
                  obtain ⟨va3, vn3, vp3, rfl, hvn3⟩ : ∃ a m p, v3 = .slice a m p ∧ Hid (m = (([] : List Entry1) ++ [entryAt1 E k]).length) := by obtain ⟨a, p, e⟩ := h1.shape; exact ⟨a, _, p, e, rfl⟩
                  have hG3 := H_2.grow (r' := RunV.mk va3 vp3 (([] : List Entry1) ++ [entryAt1 E k])) h2 (by obtain rfl := hvn3.out; exact h1)
                  clear h1 h2
                  have H_3 := hG3
                  refine hK.out _ _ (ent_keep H_3.low hb HCL.out) (fun hSz => ?_)
                  clear hK K hSz H_2 NB71_2
                  clear hG3
                  refine wpAnyH_take (i := 13) (v := .pointer (some ⟨g2, (L.length + 1), none⟩)) nat13 (by kernel_rfl) (by kernel_rfl) (by kernel_rfl) (fun _ _ _ h => False.elim h) (Or.inl ⟨by rfl, ?_⟩) (ent_keep H_3.low hb HCL.out) ?_
                  · intro wx hSw
                    go_simp
                    try (intro hh; exfalso; first | omega | (have h9 := hh (by omega); omega))
                  simp only [Act.put, List.setIfInBounds_toArray, List.set_cons_zero, List.set_cons_succ]
                  refine wpAnyH_take (i := 14) (v := .pointer (some ⟨g2, (L.length + 1), none⟩)) nat14 (by kernel_rfl) (by kernel_rfl) (by kernel_rfl) (fun _ _ _ h => False.elim h) (Or.inl ⟨by rfl, ?_⟩) (ent_keep H_3.low hb HCL.out) ?_
                  · intro wx hSw
                    go_simp
                    try (intro hh; exfalso; first | omega | (have h9 := hh (by omega); omega))
                  simp only [Act.put, List.setIfInBounds_toArray, List.set_cons_zero, List.set_cons_succ]
                  refine wpAnyH_ready (rs := [15]) (by kernel_rfl) (by simp) ?_
                  refine AllReadyH.cons nat15 (fun K hK => ?_) AllReadyH.nil
                  have y0 := H_3.cell.1
                  have yf := H_3.cell.2
                  rw [HJ.out] at y0 yf
                  go_simp
                  clear y0 yf
                  have hP4 := H_3.put
                  rw [HJ.out] at hP4
                  rw [show (RunV.mk va3 vp3 (([] : List Entry1) ++ [entryAt1 E k])).v = .slice va3 vn3 vp3 from by obtain rfl := hvn3.out; rfl] at hP4
                  have H_4 := hP4
                  refine hK.out _ _ (ent_keep H_4.low hb HCL.out) (fun hSz => ?_)
                  clear hK K hSz H_3
                  generalize wq3.setCell ⟨g2, (L.length + 1), none⟩ (.slice va3 vn3 vp3) = wq4 at H_4 ⊢
                  clear hP4
                  refine wpAnyH_done (by kernel_rfl) ?_ _
                  refine NoPanic.normal ?_
                  obtain rfl := hvn3.out
                  have HFIN := H_4.hid
                  have HBF := hide H_4.low
                  clear H_4
                  go_wp2
                  exact ⟨⟨k + 1, _, g2, _, by go_num, by omega, rfl, HBF, .inr ⟨DD, M, RunV.mk va3 vp3 (([] : List Entry1) ++ [entryAt1 E k]), by rw [HJ.out], by omega, by have := HJ.out; omega, by first | (simp; done) | (simp; omega), HFIN, HOo⟩⟩, by simp [intOf]; omega⟩
                · go_simp
                  have hb5 := below_one wq0 (.cells #[.string ((E.U k)), .int .i64 ((E.Q k)), .int .i64 ((E.K k)), .string ((E.X k))] 43)
                  have H_5 := H_0.next hb5
                  have NB71_5 := BoxIs.new wq0 #[.string ((E.U k)), .int .i64 ((E.Q k)), .int .i64 ((E.K k)), .string ((E.X k))] 43 rfl
                  refine hK.out _ _ (ent_keep H_5.low hb HCL.out) (fun hSz => ?_)
                  clear hK K hSz H_0
                  obtain ⟨G5, hG5⟩ : ∃ G, G = wq0.heap.size := ⟨_, rfl⟩
                  rw [← hG5] at NB71_5 ⊢
                  generalize wq0.alloc (.cells #[.string ((E.U k)), .int .i64 ((E.Q k)), .int .i64 ((E.K k)), .string ((E.X k))] 43) = wq5 at hb5 H_5 NB71_5 ⊢
                  clear hG5 hb5
                  refine wpAnyH_ready (rs := [6]) (by kernel_rfl) (by simp) ?_
                  refine AllReadyH.cons nat6 (fun K hK => ?_) AllReadyH.nil
                  have y0 := H_5.cell.1
                  rw [HJ.out] at y0
                  go_simp
                  clear y0
                  have H_6 := H_5
                  have NB71_6 := NB71_5
                  refine hK.out _ _ (ent_keep H_6.low hb HCL.out) (fun hSz => ?_)
                  clear hK K hSz H_5 NB71_5
                  refine wpAnyH_ready (rs := [12]) (by kernel_rfl) (by simp) ?_
                  refine AllReadyH.cons nat12 (fun K hK => ?_) AllReadyH.nil
                  refine step_append_entry rfl (.tmp 66) (.tmp 71) 26 rfl Try.underlying26 DD (.slice none 0 0) ([] : List Entry1) [entryAt1 E k] (by rfl) H_6.last ⟨G5, 0, none⟩ 1 1 (by rfl) rfl (entry_news (e := entryAt1 E k) NB71_6) H_6.hX (by first | omega | (simp; done) | (simp; omega)) ?_
                  intro v7 wq7 h1 h2
                  obtain ⟨va7, vn7, vp7, rfl, hvn7⟩ : ∃ a m p, v7 = .slice a m p ∧ Hid (m = (([] : List Entry1) ++ [entryAt1 E k]).length) := by obtain ⟨a, p, e⟩ := h1.shape; exact ⟨a, _, p, e, rfl⟩
                  have hG7 := H_6.grow (r' := RunV.mk va7 vp7 (([] : List Entry1) ++ [entryAt1 E k])) h2 (by obtain rfl := hvn7.out; exact h1)
                  clear h1 h2
                  have H_7 := hG7
                  refine hK.out _ _ (ent_keep H_7.low hb HCL.out) (fun hSz => ?_)
                  clear hK K hSz H_6 NB71_6
                  clear hG7
                  refine wpAnyH_take (i := 13) (v := .pointer (some ⟨g2, (L.length + 1), none⟩)) nat13 (by kernel_rfl) (by kernel_rfl) (by kernel_rfl) (fun _ _ _ h => False.elim h) (Or.inl ⟨by rfl, ?_⟩) (ent_keep H_7.low hb HCL.out) ?_
                  · intro wx hSw
                    go_simp
                    try (intro hh; exfalso; first | omega | (have h9 := hh (by omega); omega))
                  simp only [Act.put, List.setIfInBounds_toArray, List.set_cons_zero, List.set_cons_succ]
                  refine wpAnyH_take (i := 14) (v := .pointer (some ⟨g2, (L.length + 1), none⟩)) nat14 (by kernel_rfl) (by kernel_rfl) (by kernel_rfl) (fun _ _ _ h => False.elim h) (Or.inl ⟨by rfl, ?_⟩) (ent_keep H_7.low hb HCL.out) ?_
                  · intro wx hSw
                    go_simp
                    try (intro hh; exfalso; first | omega | (have h9 := hh (by omega); omega))
                  simp only [Act.put, List.setIfInBounds_toArray, List.set_cons_zero, List.set_cons_succ]
                  refine wpAnyH_ready (rs := [15]) (by kernel_rfl) (by simp) ?_
                  refine AllReadyH.cons nat15 (fun K hK => ?_) AllReadyH.nil
                  have y0 := H_7.cell.1
                  have yf := H_7.cell.2
                  rw [HJ.out] at y0 yf
                  go_simp
                  clear y0 yf
                  have hP8 := H_7.put
                  rw [HJ.out] at hP8
                  rw [show (RunV.mk va7 vp7 (([] : List Entry1) ++ [entryAt1 E k])).v = .slice va7 vn7 vp7 from by obtain rfl := hvn7.out; rfl] at hP8
                  have H_8 := hP8
                  refine hK.out _ _ (ent_keep H_8.low hb HCL.out) (fun hSz => ?_)
                  clear hK K hSz H_7
                  generalize wq7.setCell ⟨g2, (L.length + 1), none⟩ (.slice va7 vn7 vp7) = wq8 at H_8 ⊢
                  clear hP8
                  refine wpAnyH_done (by kernel_rfl) ?_ _
                  refine NoPanic.normal ?_
                  obtain rfl := hvn7.out
                  have HFIN := H_8.hid
                  have HBF := hide H_8.low
                  clear H_8
                  go_wp2
                  exact ⟨⟨k + 1, _, g2, _, by go_num, by omega, rfl, HBF, .inr ⟨DD, M, RunV.mk va7 vp7 (([] : List Entry1) ++ [entryAt1 E k]), by rw [HJ.out], by omega, by have := HJ.out; omega, by first | (simp; done) | (simp; omega), HFIN, HOo⟩⟩, by simp [intOf]; omega⟩
              | true =>
                have hct : cutAt E most r.es k = false := by
                  unfold cutAt
                  have e2 : ((E.U k).toList == (E.U (k - 1)).toList) = true := by rw [← hq]; exact Bool.beq_comm
                  rw [e2]; simp
                have HOo : Hid (splO E most (k + 1) = (L.map RunV.es, r.es ++ [entryAt1 E k])) := by show _ = _; rw [splO_succ, HO.out]; simp only [hct, Bool.false_eq_true, if_false]
                have HJ : Hid (L.length = L.length) := rfl
                clear hct
                go_upto_region 8 with fail
                go_quiet (fail)
                have HF1 := (HT.out.next (below_drewN (Below.refl _ _) nq)).hid
                clear HB HT hc d0 c0 hwk hkl hge hkb hkn
                generalize wr.drewN nq = w8 at HF1 ⊢
                go_upto_region 11 with fail
                have HF := HF1.out
                clear HF1
                refine wp_region_noPanic ?_
                have hb0 : Below w8.heap.size w8 w8.drew := (Below.refl _ _).drew
                have H_0 := HF.next hb0
                refine wp_region_held_drew (S := fun x => x.cell? ⟨b, off + k * 4, none⟩ = some (.string (E.U k)) ∧ x.cell? ⟨b, off + k * 4 + 1, none⟩ = some (.int .i64 (E.Q k)) ∧ x.cell? ⟨b, off + k * 4 + 2, none⟩ = some (.int .i64 (E.K k)) ∧ x.cell? ⟨b, off + k * 4 + 3, none⟩ = some (.string (E.X k))) (by kernel_rfl) (ent_keep H_0.low hb HCL.out) (fun hSz => ?_)
                clear hSz HF
                generalize w8.drew = wq0 at hb0 H_0 ⊢
                clear hb0
                refine wpAnyH_take (i := 0) (v := .slice (some ⟨g, 0, none⟩) ((L.length + 1)) c) nat0 (by kernel_rfl) (by kernel_rfl) (by kernel_rfl) (fun _ _ _ h => False.elim h) (Or.inl ⟨by rfl, ?_⟩) (ent_keep H_0.low hb HCL.out) ?_
                · intro wx hSw
                  go_simp
                simp only [Act.put, List.setIfInBounds_toArray, List.set_cons_zero, List.set_cons_succ]
                refine wpAnyH_take (i := 1) (v := .int .i64 ((L.length : Int))) nat1 (by kernel_rfl) (by kernel_rfl) (by kernel_rfl) (fun _ _ _ h => False.elim h) (Or.inl ⟨by rfl, ?_⟩) (ent_keep H_0.low hb HCL.out) ?_
                · intro wx hSw
                  go_simp
                simp only [Act.put, List.setIfInBounds_toArray, List.set_cons_zero, List.set_cons_succ]
                refine wpAnyH_take (i := 2) (v := .slice (some ⟨g, 0, none⟩) ((L.length + 1)) c) nat2 (by kernel_rfl) (by kernel_rfl) (by kernel_rfl) (fun _ _ _ h => False.elim h) (Or.inl ⟨by rfl, ?_⟩) (ent_keep H_0.low hb HCL.out) ?_
                · intro wx hSw
                  go_simp
                simp only [Act.put, List.setIfInBounds_toArray, List.set_cons_zero, List.set_cons_succ]
                refine wpAnyH_take (i := 3) (v := .int .i64 ((L.length : Int))) nat3 (by kernel_rfl) (by kernel_rfl) (by kernel_rfl) (fun _ _ _ h => False.elim h) (Or.inl ⟨by rfl, ?_⟩) (ent_keep H_0.low hb HCL.out) ?_
                · intro wx hSw
                  go_simp
                simp only [Act.put, List.setIfInBounds_toArray, List.set_cons_zero, List.set_cons_succ]
                refine wpAnyH_take (i := 4) (v := .pointer (some ⟨g, L.length, none⟩)) nat4 (by kernel_rfl) (by kernel_rfl) (by kernel_rfl) (fun _ _ _ h => False.elim h) (Or.inl ⟨by rfl, ?_⟩) (ent_keep H_0.low hb HCL.out) ?_
                · intro wx hSw
                  go_simp
                  try (intro hh; exfalso; first | omega | (have h9 := hh (by omega); omega))
                simp only [Act.put, List.setIfInBounds_toArray, List.set_cons_zero, List.set_cons_succ]
                refine wpAnyH_take (i := 5) (v := .pointer (some ⟨g, L.length, none⟩)) nat5 (by kernel_rfl) (by kernel_rfl) (by kernel_rfl) (fun _ _ _ h => False.elim h) (Or.inl ⟨by rfl, ?_⟩) (ent_keep H_0.low hb HCL.out) ?_
                · intro wx hSw
                  go_simp
                simp only [Act.put, List.setIfInBounds_toArray, List.set_cons_zero, List.set_cons_succ]
                refine wpAnyH_take (i := 7) (v := .slice (some ⟨b, off, none⟩) len cap) nat7 (by kernel_rfl) (by kernel_rfl) (by kernel_rfl) (fun _ _ _ h => False.elim h) (Or.inl ⟨by rfl, ?_⟩) (ent_keep H_0.low hb HCL.out) ?_
                · intro wx hSw
                  go_simp
                simp only [Act.put, List.setIfInBounds_toArray, List.set_cons_zero, List.set_cons_succ]
                refine wpAnyH_take (i := 8) (v := .int .i64 ((k : Int))) nat8 (by kernel_rfl) (by kernel_rfl) (by kernel_rfl) (fun _ _ _ h => False.elim h) (Or.inl ⟨by rfl, ?_⟩) (ent_keep H_0.low hb HCL.out) ?_
                · intro wx hSw
                  go_simp
                simp only [Act.put, List.setIfInBounds_toArray, List.set_cons_zero, List.set_cons_succ]
                refine wpAnyH_take (i := 9) (v := .pointer (some ⟨b, off + k * 4, none⟩)) nat9 (by kernel_rfl) (by kernel_rfl) (by kernel_rfl) (fun _ _ _ h => False.elim h) (Or.inl ⟨by rfl, ?_⟩) (ent_keep H_0.low hb HCL.out) ?_
                · intro wx hSw
                  go_simp
                simp only [Act.put, List.setIfInBounds_toArray, List.set_cons_zero, List.set_cons_succ]
                refine wpAnyH_take (i := 10) (v := .agg #[.string ((E.U k)), .int .i64 ((E.Q k)), .int .i64 ((E.K k)), .string ((E.X k))]) nat10 (by kernel_rfl) (by kernel_rfl) (by kernel_rfl) (fun _ _ _ h => False.elim h) (Or.inl ⟨by rfl, ?_⟩) (ent_keep H_0.low hb HCL.out) ?_
                · intro wx hSw
                  obtain ⟨y0, y1, y2, y3⟩ := hSw
                  go_simp
                simp only [Act.put, List.setIfInBounds_toArray, List.set_cons_zero, List.set_cons_succ]
                refine wpAnyH_ready (rs := [6, 11]) (by kernel_rfl) (by simp) ?_
                refine AllReadyH.cons nat6 (fun K hK => ?_) (AllReadyH.cons nat11 (fun K hK => ?_) AllReadyH.nil)
                · have y0 := H_0.cell.1
                  rw [HJ.out] at y0
                  unfold RunV.v at y0
                  go_simp
                  clear y0
                  have H_1 := H_0
                  refine hK.out _ _ (ent_keep H_1.low hb HCL.out) (fun hSz => ?_)
                  clear hK K hSz H_0
                  refine wpAnyH_ready (rs := [11]) (by kernel_rfl) (by simp) ?_
                  refine AllReadyH.cons nat11 (fun K hK => ?_) AllReadyH.nil
                  go_simp
                  have hb2 := below_one wq0 (.cells #[.string ((E.U k)), .int .i64 ((E.Q k)), .int .i64 ((E.K k)), .string ((E.X k))] 43)
                  have H_2 := H_1.next hb2
                  have NB71_2 := BoxIs.new wq0 #[.string ((E.U k)), .int .i64 ((E.Q k)), .int .i64 ((E.K k)), .string ((E.X k))] 43 rfl
                  refine hK.out _ _ (ent_keep H_2.low hb HCL.out) (fun hSz => ?_)
                  clear hK K hSz H_1
                  obtain ⟨G2, hG2⟩ : ∃ G, G = wq0.heap.size := ⟨_, rfl⟩
                  rw [← hG2] at NB71_2 ⊢
                  generalize wq0.alloc (.cells #[.string ((E.U k)), .int .i64 ((E.Q k)), .int .i64 ((E.K k)), .string ((E.X k))] 43) = wq2 at hb2 H_2 NB71_2 ⊢
                  clear hG2 hb2
                  refine wpAnyH_ready (rs := [12]) (by kernel_rfl) (by simp) ?_
                  refine AllReadyH.cons nat12 (fun K hK => ?_) AllReadyH.nil
                  refine step_append_entry rfl (.tmp 66) (.tmp 71) 26 rfl Try.underlying26 D (.slice r.a r.es.length r.p) r.es [entryAt1 E k] (by rfl) H_2.last ⟨G2, 0, none⟩ 1 1 (by rfl) rfl (entry_news (e := entryAt1 E k) NB71_2) H_2.hX (by first | omega | (simp; done) | (simp; omega)) ?_
                  intro v3 wq3 h1 h2
                  obtain ⟨va3, vn3, vp3, rfl, hvn3⟩ : ∃ a m p, v3 = .slice a m p ∧ Hid (m = (r.es ++ [entryAt1 E k]).length) := by obtain ⟨a, p, e⟩ := h1.shape; exact ⟨a, _, p, e, rfl⟩
                  have hG3 := H_2.grow (r' := RunV.mk va3 vp3 (r.es ++ [entryAt1 E k])) h2 (by obtain rfl := hvn3.out; exact h1)
                  clear h1 h2
                  have H_3 := hG3
                  refine hK.out _ _ (ent_keep H_3.low hb HCL.out) (fun hSz => ?_)
                  clear hK K hSz H_2 NB71_2
                  clear hG3
                  refine wpAnyH_take (i := 13) (v := .pointer (some ⟨g, L.length, none⟩)) nat13 (by kernel_rfl) (by kernel_rfl) (by kernel_rfl) (fun _ _ _ h => False.elim h) (Or.inl ⟨by rfl, ?_⟩) (ent_keep H_3.low hb HCL.out) ?_
                  · intro wx hSw
                    go_simp
                    try (intro hh; exfalso; first | omega | (have h9 := hh (by omega); omega))
                  simp only [Act.put, List.setIfInBounds_toArray, List.set_cons_zero, List.set_cons_succ]
                  refine wpAnyH_take (i := 14) (v := .pointer (some ⟨g, L.length, none⟩)) nat14 (by kernel_rfl) (by kernel_rfl) (by kernel_rfl) (fun _ _ _ h => False.elim h) (Or.inl ⟨by rfl, ?_⟩) (ent_keep H_3.low hb HCL.out) ?_
                  · intro wx hSw
                    go_simp
                    try (intro hh; exfalso; first | omega | (have h9 := hh (by omega); omega))
                  simp only [Act.put, List.setIfInBounds_toArray, List.set_cons_zero, List.set_cons_succ]
                  refine wpAnyH_ready (rs := [15]) (by kernel_rfl) (by simp) ?_
                  refine AllReadyH.cons nat15 (fun K hK => ?_) AllReadyH.nil
                  have y0 := H_3.cell.1
                  have yf := H_3.cell.2
                  rw [HJ.out] at y0 yf
                  go_simp
                  clear y0 yf
                  have hP4 := H_3.put
                  rw [HJ.out] at hP4
                  rw [show (RunV.mk va3 vp3 (r.es ++ [entryAt1 E k])).v = .slice va3 vn3 vp3 from by obtain rfl := hvn3.out; rfl] at hP4
                  have H_4 := hP4
                  refine hK.out _ _ (ent_keep H_4.low hb HCL.out) (fun hSz => ?_)
                  clear hK K hSz H_3
                  generalize wq3.setCell ⟨g, L.length, none⟩ (.slice va3 vn3 vp3) = wq4 at H_4 ⊢
                  clear hP4
                  refine wpAnyH_done (by kernel_rfl) ?_ _
                  refine NoPanic.normal ?_
                  obtain rfl := hvn3.out
                  have HFIN := H_4.hid
                  have HBF := hide H_4.low
                  clear H_4
                  go_wp2
                  exact ⟨⟨k + 1, _, g, _, by go_num, by omega, rfl, HBF, .inr ⟨D, L, RunV.mk va3 vp3 (r.es ++ [entryAt1 E k]), by rw [HJ.out], by omega, by have := HJ.out; omega, by first | (simp; done) | (simp; omega), HFIN, HOo⟩⟩, by simp [intOf]; omega⟩
                · go_simp
                  have hb5 := below_one wq0 (.cells #[.string ((E.U k)), .int .i64 ((E.Q k)), .int .i64 ((E.K k)), .string ((E.X k))] 43)
                  have H_5 := H_0.next hb5
                  have NB71_5 := BoxIs.new wq0 #[.string ((E.U k)), .int .i64 ((E.Q k)), .int .i64 ((E.K k)), .string ((E.X k))] 43 rfl
                  refine hK.out _ _ (ent_keep H_5.low hb HCL.out) (fun hSz => ?_)
                  clear hK K hSz H_0
                  obtain ⟨G5, hG5⟩ : ∃ G, G = wq0.heap.size := ⟨_, rfl⟩
                  rw [← hG5] at NB71_5 ⊢
                  generalize wq0.alloc (.cells #[.string ((E.U k)), .int .i64 ((E.Q k)), .int .i64 ((E.K k)), .string ((E.X k))] 43) = wq5 at hb5 H_5 NB71_5 ⊢
                  clear hG5 hb5
                  refine wpAnyH_ready (rs := [6]) (by kernel_rfl) (by simp) ?_
                  refine AllReadyH.cons nat6 (fun K hK => ?_) AllReadyH.nil
                  have y0 := H_5.cell.1
                  rw [HJ.out] at y0
                  unfold RunV.v at y0
                  go_simp
                  clear y0
                  have H_6 := H_5
                  have NB71_6 := NB71_5
                  refine hK.out _ _ (ent_keep H_6.low hb HCL.out) (fun hSz => ?_)
                  clear hK K hSz H_5 NB71_5
                  refine wpAnyH_ready (rs := [12]) (by kernel_rfl) (by simp) ?_
                  refine AllReadyH.cons nat12 (fun K hK => ?_) AllReadyH.nil
                  refine step_append_entry rfl (.tmp 66) (.tmp 71) 26 rfl Try.underlying26 D (.slice r.a r.es.length r.p) r.es [entryAt1 E k] (by rfl) H_6.last ⟨G5, 0, none⟩ 1 1 (by rfl) rfl (entry_news (e := entryAt1 E k) NB71_6) H_6.hX (by first | omega | (simp; done) | (simp; omega)) ?_
                  intro v7 wq7 h1 h2
                  obtain ⟨va7, vn7, vp7, rfl, hvn7⟩ : ∃ a m p, v7 = .slice a m p ∧ Hid (m = (r.es ++ [entryAt1 E k]).length) := by obtain ⟨a, p, e⟩ := h1.shape; exact ⟨a, _, p, e, rfl⟩
                  have hG7 := H_6.grow (r' := RunV.mk va7 vp7 (r.es ++ [entryAt1 E k])) h2 (by obtain rfl := hvn7.out; exact h1)
                  clear h1 h2
                  have H_7 := hG7
                  refine hK.out _ _ (ent_keep H_7.low hb HCL.out) (fun hSz => ?_)
                  clear hK K hSz H_6 NB71_6
                  clear hG7
                  refine wpAnyH_take (i := 13) (v := .pointer (some ⟨g, L.length, none⟩)) nat13 (by kernel_rfl) (by kernel_rfl) (by kernel_rfl) (fun _ _ _ h => False.elim h) (Or.inl ⟨by rfl, ?_⟩) (ent_keep H_7.low hb HCL.out) ?_
                  · intro wx hSw
                    go_simp
                    try (intro hh; exfalso; first | omega | (have h9 := hh (by omega); omega))
                  simp only [Act.put, List.setIfInBounds_toArray, List.set_cons_zero, List.set_cons_succ]
                  refine wpAnyH_take (i := 14) (v := .pointer (some ⟨g, L.length, none⟩)) nat14 (by kernel_rfl) (by kernel_rfl) (by kernel_rfl) (fun _ _ _ h => False.elim h) (Or.inl ⟨by rfl, ?_⟩) (ent_keep H_7.low hb HCL.out) ?_
                  · intro wx hSw
                    go_simp
                    try (intro hh; exfalso; first | omega | (have h9 := hh (by omega); omega))
                  simp only [Act.put, List.setIfInBounds_toArray, List.set_cons_zero, List.set_cons_succ]
                  refine wpAnyH_ready (rs := [15]) (by kernel_rfl) (by simp) ?_
                  refine AllReadyH.cons nat15 (fun K hK => ?_) AllReadyH.nil
                  have y0 := H_7.cell.1
                  have yf := H_7.cell.2
                  rw [HJ.out] at y0 yf
                  go_simp
                  clear y0 yf
                  have hP8 := H_7.put
                  rw [HJ.out] at hP8
                  rw [show (RunV.mk va7 vp7 (r.es ++ [entryAt1 E k])).v = .slice va7 vn7 vp7 from by obtain rfl := hvn7.out; rfl] at hP8
                  have H_8 := hP8
                  refine hK.out _ _ (ent_keep H_8.low hb HCL.out) (fun hSz => ?_)
                  clear hK K hSz H_7
                  generalize wq7.setCell ⟨g, L.length, none⟩ (.slice va7 vn7 vp7) = wq8 at H_8 ⊢
                  clear hP8
                  refine wpAnyH_done (by kernel_rfl) ?_ _
                  refine NoPanic.normal ?_
                  obtain rfl := hvn7.out
                  have HFIN := H_8.hid
                  have HBF := hide H_8.low
                  clear H_8
                  go_wp2
                  exact ⟨⟨k + 1, _, g, _, by go_num, by omega, rfl, HBF, .inr ⟨D, L, RunV.mk va7 vp7 (r.es ++ [entryAt1 E k]), by rw [HJ.out], by omega, by have := HJ.out; omega, by first | (simp; done) | (simp; omega), HFIN, HOo⟩⟩, by simp [intOf]; omega⟩
            · skip
              have hct : cutAt E most r.es k = false := by
                unfold cutAt
                rw [decide_eq_false hge]; rfl
              have HOo : Hid (splO E most (k + 1) = (L.map RunV.es, r.es ++ [entryAt1 E k])) := by show _ = _; rw [splO_succ, HO.out]; simp only [hct, Bool.false_eq_true, if_false]
              have HJ : Hid (L.length = L.length) := rfl
              clear hct
              go_upto_region 8 with fail
              go_quiet (fail)
              have HF1 := (HT.out.next (below_drewN (Below.refl _ _) nq)).hid
              clear HB HT hc d0 c0 hwk hkl hge hkb hkn
              generalize wr.drewN nq = w8 at HF1 ⊢
              go_upto_region 11 with fail
              have HF := HF1.out
              clear HF1
              refine wp_region_noPanic ?_
              have hb0 : Below w8.heap.size w8 w8.drew := (Below.refl _ _).drew
              have H_0 := HF.next hb0
              refine wp_region_held_drew (S := fun x => x.cell? ⟨b, off + k * 4, none⟩ = some (.string (E.U k)) ∧ x.cell? ⟨b, off + k * 4 + 1, none⟩ = some (.int .i64 (E.Q k)) ∧ x.cell? ⟨b, off + k * 4 + 2, none⟩ = some (.int .i64 (E.K k)) ∧ x.cell? ⟨b, off + k * 4 + 3, none⟩ = some (.string (E.X k))) (by kernel_rfl) (ent_keep H_0.low hb HCL.out) (fun hSz => ?_)
              clear hSz HF
              generalize w8.drew = wq0 at hb0 H_0 ⊢
              clear hb0
              refine wpAnyH_take (i := 0) (v := .slice (some ⟨g, 0, none⟩) ((L.length + 1)) c) nat0 (by kernel_rfl) (by kernel_rfl) (by kernel_rfl) (fun _ _ _ h => False.elim h) (Or.inl ⟨by rfl, ?_⟩) (ent_keep H_0.low hb HCL.out) ?_
              · intro wx hSw
                go_simp
              simp only [Act.put, List.setIfInBounds_toArray, List.set_cons_zero, List.set_cons_succ]
              refine wpAnyH_take (i := 1) (v := .int .i64 ((L.length : Int))) nat1 (by kernel_rfl) (by kernel_rfl) (by kernel_rfl) (fun _ _ _ h => False.elim h) (Or.inl ⟨by rfl, ?_⟩) (ent_keep H_0.low hb HCL.out) ?_
              · intro wx hSw
                go_simp
              simp only [Act.put, List.setIfInBounds_toArray, List.set_cons_zero, List.set_cons_succ]
              refine wpAnyH_take (i := 2) (v := .slice (some ⟨g, 0, none⟩) ((L.length + 1)) c) nat2 (by kernel_rfl) (by kernel_rfl) (by kernel_rfl) (fun _ _ _ h => False.elim h) (Or.inl ⟨by rfl, ?_⟩) (ent_keep H_0.low hb HCL.out) ?_
              · intro wx hSw
                go_simp
              simp only [Act.put, List.setIfInBounds_toArray, List.set_cons_zero, List.set_cons_succ]
              refine wpAnyH_take (i := 3) (v := .int .i64 ((L.length : Int))) nat3 (by kernel_rfl) (by kernel_rfl) (by kernel_rfl) (fun _ _ _ h => False.elim h) (Or.inl ⟨by rfl, ?_⟩) (ent_keep H_0.low hb HCL.out) ?_
              · intro wx hSw
                go_simp
              simp only [Act.put, List.setIfInBounds_toArray, List.set_cons_zero, List.set_cons_succ]
              refine wpAnyH_take (i := 4) (v := .pointer (some ⟨g, L.length, none⟩)) nat4 (by kernel_rfl) (by kernel_rfl) (by kernel_rfl) (fun _ _ _ h => False.elim h) (Or.inl ⟨by rfl, ?_⟩) (ent_keep H_0.low hb HCL.out) ?_
              · intro wx hSw
                go_simp
                try (intro hh; exfalso; first | omega | (have h9 := hh (by omega); omega))
              simp only [Act.put, List.setIfInBounds_toArray, List.set_cons_zero, List.set_cons_succ]
              refine wpAnyH_take (i := 5) (v := .pointer (some ⟨g, L.length, none⟩)) nat5 (by kernel_rfl) (by kernel_rfl) (by kernel_rfl) (fun _ _ _ h => False.elim h) (Or.inl ⟨by rfl, ?_⟩) (ent_keep H_0.low hb HCL.out) ?_
              · intro wx hSw
                go_simp
              simp only [Act.put, List.setIfInBounds_toArray, List.set_cons_zero, List.set_cons_succ]
              refine wpAnyH_take (i := 7) (v := .slice (some ⟨b, off, none⟩) len cap) nat7 (by kernel_rfl) (by kernel_rfl) (by kernel_rfl) (fun _ _ _ h => False.elim h) (Or.inl ⟨by rfl, ?_⟩) (ent_keep H_0.low hb HCL.out) ?_
              · intro wx hSw
                go_simp
              simp only [Act.put, List.setIfInBounds_toArray, List.set_cons_zero, List.set_cons_succ]
              refine wpAnyH_take (i := 8) (v := .int .i64 ((k : Int))) nat8 (by kernel_rfl) (by kernel_rfl) (by kernel_rfl) (fun _ _ _ h => False.elim h) (Or.inl ⟨by rfl, ?_⟩) (ent_keep H_0.low hb HCL.out) ?_
              · intro wx hSw
                go_simp
              simp only [Act.put, List.setIfInBounds_toArray, List.set_cons_zero, List.set_cons_succ]
              refine wpAnyH_take (i := 9) (v := .pointer (some ⟨b, off + k * 4, none⟩)) nat9 (by kernel_rfl) (by kernel_rfl) (by kernel_rfl) (fun _ _ _ h => False.elim h) (Or.inl ⟨by rfl, ?_⟩) (ent_keep H_0.low hb HCL.out) ?_
              · intro wx hSw
                go_simp
              simp only [Act.put, List.setIfInBounds_toArray, List.set_cons_zero, List.set_cons_succ]
              refine wpAnyH_take (i := 10) (v := .agg #[.string ((E.U k)), .int .i64 ((E.Q k)), .int .i64 ((E.K k)), .string ((E.X k))]) nat10 (by kernel_rfl) (by kernel_rfl) (by kernel_rfl) (fun _ _ _ h => False.elim h) (Or.inl ⟨by rfl, ?_⟩) (ent_keep H_0.low hb HCL.out) ?_
              · intro wx hSw
                obtain ⟨y0, y1, y2, y3⟩ := hSw
                go_simp
              simp only [Act.put, List.setIfInBounds_toArray, List.set_cons_zero, List.set_cons_succ]
              refine wpAnyH_ready (rs := [6, 11]) (by kernel_rfl) (by simp) ?_
              refine AllReadyH.cons nat6 (fun K hK => ?_) (AllReadyH.cons nat11 (fun K hK => ?_) AllReadyH.nil)
              · have y0 := H_0.cell.1
                rw [HJ.out] at y0
                unfold RunV.v at y0
                go_simp
                clear y0
                have H_1 := H_0
                refine hK.out _ _ (ent_keep H_1.low hb HCL.out) (fun hSz => ?_)
                clear hK K hSz H_0
                refine wpAnyH_ready (rs := [11]) (by kernel_rfl) (by simp) ?_
                refine AllReadyH.cons nat11 (fun K hK => ?_) AllReadyH.nil
                go_simp
                have hb2 := below_one wq0 (.cells #[.string ((E.U k)), .int .i64 ((E.Q k)), .int .i64 ((E.K k)), .string ((E.X k))] 43)
                have H_2 := H_1.next hb2
                have NB71_2 := BoxIs.new wq0 #[.string ((E.U k)), .int .i64 ((E.Q k)), .int .i64 ((E.K k)), .string ((E.X k))] 43 rfl
                refine hK.out _ _ (ent_keep H_2.low hb HCL.out) (fun hSz => ?_)
                clear hK K hSz H_1
                obtain ⟨G2, hG2⟩ : ∃ G, G = wq0.heap.size := ⟨_, rfl⟩
                rw [← hG2] at NB71_2 ⊢
                generalize wq0.alloc (.cells #[.string ((E.U k)), .int .i64 ((E.Q k)), .int .i64 ((E.K k)), .string ((E.X k))] 43) = wq2 at hb2 H_2 NB71_2 ⊢
                clear hG2 hb2
                refine wpAnyH_ready (rs := [12]) (by kernel_rfl) (by simp) ?_
                refine AllReadyH.cons nat12 (fun K hK => ?_) AllReadyH.nil
                refine step_append_entry rfl (.tmp 66) (.tmp 71) 26 rfl Try.underlying26 D (.slice r.a r.es.length r.p) r.es [entryAt1 E k] (by rfl) H_2.last ⟨G2, 0, none⟩ 1 1 (by rfl) rfl (entry_news (e := entryAt1 E k) NB71_2) H_2.hX (by first | omega | (simp; done) | (simp; omega)) ?_
                intro v3 wq3 h1 h2
                obtain ⟨va3, vn3, vp3, rfl, hvn3⟩ : ∃ a m p, v3 = .slice a m p ∧ Hid (m = (r.es ++ [entryAt1 E k]).length) := by obtain ⟨a, p, e⟩ := h1.shape; exact ⟨a, _, p, e, rfl⟩
                have hG3 := H_2.grow (r' := RunV.mk va3 vp3 (r.es ++ [entryAt1 E k])) h2 (by obtain rfl := hvn3.out; exact h1)
                clear h1 h2
                have H_3 := hG3
                refine hK.out _ _ (ent_keep H_3.low hb HCL.out) (fun hSz => ?_)
                clear hK K hSz H_2 NB71_2
                clear hG3
                refine wpAnyH_take (i := 13) (v := .pointer (some ⟨g, L.length, none⟩)) nat13 (by kernel_rfl) (by kernel_rfl) (by kernel_rfl) (fun _ _ _ h => False.elim h) (Or.inl ⟨by rfl, ?_⟩) (ent_keep H_3.low hb HCL.out) ?_
                · intro wx hSw
                  go_simp
                  try (intro hh; exfalso; first | omega | (have h9 := hh (by omega); omega))
                simp only [Act.put, List.setIfInBounds_toArray, List.set_cons_zero, List.set_cons_succ]
                refine wpAnyH_take (i := 14) (v := .pointer (some ⟨g, L.length, none⟩)) nat14 (by kernel_rfl) (by kernel_rfl) (by kernel_rfl) (fun _ _ _ h => False.elim h) (Or.inl ⟨by rfl, ?_⟩) (ent_keep H_3.low hb HCL.out) ?_
                · intro wx hSw
                  go_simp
                  try (intro hh; exfalso; first | omega | (have h9 := hh (by omega); omega))
                simp only [Act.put, List.setIfInBounds_toArray, List.set_cons_zero, List.set_cons_succ]
                refine wpAnyH_ready (rs := [15]) (by kernel_rfl) (by simp) ?_
                refine AllReadyH.cons nat15 (fun K hK => ?_) AllReadyH.nil
                have y0 := H_3.cell.1
                have yf := H_3.cell.2
                rw [HJ.out] at y0 yf
                go_simp
                clear y0 yf
                have hP4 := H_3.put
                rw [HJ.out] at hP4
                rw [show (RunV.mk va3 vp3 (r.es ++ [entryAt1 E k])).v = .slice va3 vn3 vp3 from by obtain rfl := hvn3.out; rfl] at hP4
                have H_4 := hP4
                refine hK.out _ _ (ent_keep H_4.low hb HCL.out) (fun hSz => ?_)
                clear hK K hSz H_3
                generalize wq3.setCell ⟨g, L.length, none⟩ (.slice va3 vn3 vp3) = wq4 at H_4 ⊢
                clear hP4
                refine wpAnyH_done (by kernel_rfl) ?_ _
                refine NoPanic.normal ?_
                obtain rfl := hvn3.out
                have HFIN := H_4.hid
                have HBF := hide H_4.low
                clear H_4
                go_wp2
                exact ⟨⟨k + 1, _, g, _, by go_num, by omega, rfl, HBF, .inr ⟨D, L, RunV.mk va3 vp3 (r.es ++ [entryAt1 E k]), by rw [HJ.out], by omega, by have := HJ.out; omega, by first | (simp; done) | (simp; omega), HFIN, HOo⟩⟩, by simp [intOf]; omega⟩
              · go_simp
                have hb5 := below_one wq0 (.cells #[.string ((E.U k)), .int .i64 ((E.Q k)), .int .i64 ((E.K k)), .string ((E.X k))] 43)
                have H_5 := H_0.next hb5
                have NB71_5 := BoxIs.new wq0 #[.string ((E.U k)), .int .i64 ((E.Q k)), .int .i64 ((E.K k)), .string ((E.X k))] 43 rfl
                refine hK.out _ _ (ent_keep H_5.low hb HCL.out) (fun hSz => ?_)
                clear hK K hSz H_0
                obtain ⟨G5, hG5⟩ : ∃ G, G = wq0.heap.size := ⟨_, rfl⟩
                rw [← hG5] at NB71_5 ⊢
                generalize wq0.alloc (.cells #[.string ((E.U k)), .int .i64 ((E.Q k)), .int .i64 ((E.K k)), .string ((E.X k))] 43) = wq5 at hb5 H_5 NB71_5 ⊢
                clear hG5 hb5
                refine wpAnyH_ready (rs := [6]) (by kernel_rfl) (by simp) ?_
                refine AllReadyH.cons nat6 (fun K hK => ?_) AllReadyH.nil
                have y0 := H_5.cell.1
                rw [HJ.out] at y0
                unfold RunV.v at y0
                go_simp
                clear y0
                have H_6 := H_5
                have NB71_6 := NB71_5
                refine hK.out _ _ (ent_keep H_6.low hb HCL.out) (fun hSz => ?_)
                clear hK K hSz H_5 NB71_5
                refine wpAnyH_ready (rs := [12]) (by kernel_rfl) (by simp) ?_
                refine AllReadyH.cons nat12 (fun K hK => ?_) AllReadyH.nil
                refine step_append_entry rfl (.tmp 66) (.tmp 71) 26 rfl Try.underlying26 D (.slice r.a r.es.length r.p) r.es [entryAt1 E k] (by rfl) H_6.last ⟨G5, 0, none⟩ 1 1 (by rfl) rfl (entry_news (e := entryAt1 E k) NB71_6) H_6.hX (by first | omega | (simp; done) | (simp; omega)) ?_
                intro v7 wq7 h1 h2
                obtain ⟨va7, vn7, vp7, rfl, hvn7⟩ : ∃ a m p, v7 = .slice a m p ∧ Hid (m = (r.es ++ [entryAt1 E k]).length) := by obtain ⟨a, p, e⟩ := h1.shape; exact ⟨a, _, p, e, rfl⟩
                have hG7 := H_6.grow (r' := RunV.mk va7 vp7 (r.es ++ [entryAt1 E k])) h2 (by obtain rfl := hvn7.out; exact h1)
                clear h1 h2
                have H_7 := hG7
                refine hK.out _ _ (ent_keep H_7.low hb HCL.out) (fun hSz => ?_)
                clear hK K hSz H_6 NB71_6
                clear hG7
                refine wpAnyH_take (i := 13) (v := .pointer (some ⟨g, L.length, none⟩)) nat13 (by kernel_rfl) (by kernel_rfl) (by kernel_rfl) (fun _ _ _ h => False.elim h) (Or.inl ⟨by rfl, ?_⟩) (ent_keep H_7.low hb HCL.out) ?_
                · intro wx hSw
                  go_simp
                  try (intro hh; exfalso; first | omega | (have h9 := hh (by omega); omega))
                simp only [Act.put, List.setIfInBounds_toArray, List.set_cons_zero, List.set_cons_succ]
                refine wpAnyH_take (i := 14) (v := .pointer (some ⟨g, L.length, none⟩)) nat14 (by kernel_rfl) (by kernel_rfl) (by kernel_rfl) (fun _ _ _ h => False.elim h) (Or.inl ⟨by rfl, ?_⟩) (ent_keep H_7.low hb HCL.out) ?_
                · intro wx hSw
                  go_simp
                  try (intro hh; exfalso; first | omega | (have h9 := hh (by omega); omega))
                simp only [Act.put, List.setIfInBounds_toArray, List.set_cons_zero, List.set_cons_succ]
                refine wpAnyH_ready (rs := [15]) (by kernel_rfl) (by simp) ?_
                refine AllReadyH.cons nat15 (fun K hK => ?_) AllReadyH.nil
                have y0 := H_7.cell.1
                have yf := H_7.cell.2
                rw [HJ.out] at y0 yf
                go_simp
                clear y0 yf
                have hP8 := H_7.put
                rw [HJ.out] at hP8
                rw [show (RunV.mk va7 vp7 (r.es ++ [entryAt1 E k])).v = .slice va7 vn7 vp7 from by obtain rfl := hvn7.out; rfl] at hP8
                have H_8 := hP8
                refine hK.out _ _ (ent_keep H_8.low hb HCL.out) (fun hSz => ?_)
                clear hK K hSz H_7
                generalize wq7.setCell ⟨g, L.length, none⟩ (.slice va7 vn7 vp7) = wq8 at H_8 ⊢
                clear hP8
                refine wpAnyH_done (by kernel_rfl) ?_ _
                refine NoPanic.normal ?_
                obtain rfl := hvn7.out
                have HFIN := H_8.hid
                have HBF := hide H_8.low
                clear H_8
                go_wp2
                exact ⟨⟨k + 1, _, g, _, by go_num, by omega, rfl, HBF, .inr ⟨D, L, RunV.mk va7 vp7 (r.es ++ [entryAt1 E k]), by rw [HJ.out], by omega, by have := HJ.out; omega, by first | (simp; done) | (simp; omega), HFIN, HOo⟩⟩, by simp [intOf]; omega⟩
        · obtain rfl : k = len := by omega
          rcases hcase with ⟨rfl, rfl, HI⟩ | ⟨D, L, r, rfl, hk0, hLk, hrk, HT, HO⟩
          · have HLe := hide (show ([] : List RunV).map RunV.es = splitL E 0 most by rw [HY.out]; rfl)
            go_wp2
            go_ret
            exact ⟨⟨_, [], rfl, ⟨HI.out, fun e he => absurd he List.not_mem_nil, List.Pairwise.nil⟩, HLe.out⟩, HB.out⟩
          · have HLe := hide (show (L ++ [r]).map RunV.es = splitL E k most by rw [HY.out]; unfold splS; rw [if_neg (by omega), HO.out, List.map_append]; rfl)
            have HR := hide HT.out.runs
            clear HT HO
            go_wp2
            go_ret
            exact ⟨⟨_, L ++ [r], rfl, HR.out, HLe.out⟩, HB.out⟩

end Go.Proofs.Ytjcoejabpagaiaa
