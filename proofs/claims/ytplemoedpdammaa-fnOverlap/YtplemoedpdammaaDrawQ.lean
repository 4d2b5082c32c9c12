/- What the laws on overlapping tables and on the texts of versions draw. (By gen_drawo.py.) -/
import Derived.Test.YtplemoedpdammaaDrawO
import Derived.Test.YtplemoedpdammaaVText
namespace Go.Proofs.Ytplemoedpdammaa
set_option maxRecDepth 100000
open Go.RowKit Go.Deep

set_option linter.unusedVariables false in
set_option linter.unusedSimpArgs false in
set_option maxHeartbeats 4000000 in
theorem draw_Overlapping (W w : World) (a : Option Addr) (len cap : Nat) (hc : IsCode W a len) (hl : len ≤ 1048576) (hb : Below W.heap.size W w) :
    Calls Try.prog 29 #[.slice a len cap] w fun e w' => ∃ a1 c1 l nx sq lg lv fr tz, e = .returned (.tuple #[.agg #[.slice a1 (l : List Meta1).length c1, .int .i64 nx, .int .i64 sq, .int .i64 lg], .int .i64 lv, .string fr, .string tz]) ∧ OwnMeta w' w.heap.size (.slice a1 l.length c1) l ∧ l.length ≤ 31 ∧ Below w.heap.size w w' := by
  go_enter Try.func29, Try.ntmps29
  go_wp2_with fail
  have hb0 := below_one w (.cells #[.slice none 0 0, .int .i64 0, .int .i64 0, .int .i64 0] 46)
  have hR0 := BoxIs.new w #[.slice none 0 0, .int .i64 0, .int .i64 0, .int .i64 0] 46 rfl
  have hlt0 := hR0.lt
  generalize w.alloc (.cells #[.slice none 0 0, .int .i64 0, .int .i64 0, .int .i64 0] 46) = W0 at hb0 hR0 hlt0 ⊢
  refine (open_rdO W0 a len cap W (hb.trans (hb0.mono hb.size))).mono ?_
  rintro e w1 ⟨rfl, hr, hb1⟩
  have hlow1 := hb0.trans (hb1.mono hb0.size)
  have hR1 := hR0.next hb1
  generalize W0.heap.size = g at hr hlt0 hb1 ⊢
  have hgl := hr.lt
  clear hb hb0 hb1 hR0
  go_wp2_with fail
  refine (rd_version W _ g a len cap hc hl hr).mono ?_
  rintro e w2 ⟨a1, c1, l, nx, sq, lg, rfl, ho, hll, hn0, hn1, hs0, hs1, hr2, hm2⟩
  have hlow2 := hlow1.trans (hm2.below hlow1.size (by omega))
  have hR2 := hR1.mv hm2 (by omega)
  have hg2 := hr2.lt
  have HS := hide (⟨hr2.mv (below_one _ _), hlow2.trans ((below_one _ _).mono hlow2.size), hR2.next (below_one _ _), BoxIs.new w2 #[.slice a1 l.length c1, .int .i64 nx, .int .i64 sq, .int .i64 lg] 46 rfl, OwnMeta.next (ho.base (by omega)) (below_one _ _), hlt0, hg2⟩ : PkS W w g a len cap w2.heap.size (.slice a1 l.length c1) l nx sq lg (w2.alloc (.cells #[.slice a1 l.length c1, .int .i64 nx, .int .i64 sq, .int .i64 lg] 46)))
  clear hr ho hr2 hm2 hlow1 hlow2 hR1 hR2
  go_wp2_with fail
  generalize w2.alloc (.cells #[.slice a1 l.length c1, .int .i64 nx, .int .i64 sq, .int .i64 lg] 46) = W2 at HS ⊢
  generalize w2.heap.size = E at HS hg2 ⊢
  refine (rd_off W _ g a len cap 0 3 (by omega) (by omega) (by omega) hc hl HS.out.rd).mono ?_
  rintro e w3 ⟨lv, rfl, hv0, hv1, hr3, hm3⟩
  have HS3 := HS.out.call hr3 hm3
  clear HS hr3 hm3 hv0 hv1
  go_wp2_with fail
  refine (rd_once W _ g a len cap 2 (by omega) (by omega) hc hl HS3.rd).mono ?_
  rintro e w4 ⟨b, rfl, hr4, hm4⟩
  have HS4 := HS3.call hr4 hm4
  clear HS3 hr4 hm4
  cases b with
  | true =>
    go_upto_region 5 with fail
    have RD := HS4.rd
    have LO := HS4.low
    have RR := HS4.bR
    have BE := HS4.bE
    have OA := HS4.oa
    have hR := HS4.hR
    have hE := HS4.hE
    clear HS4
    refine wp_region_noPanic ?_
    have hb0 : Below w4.heap.size w4 w4.drew := (Below.refl _ _).drew
    have RD_0 := RD.mv hb0
    have LO_0 := LO.trans (hb0.mono LO.size)
    have RR_0 := RR.next hb0
    have BE_0 := BE.next hb0
    have OA_0 := OA.next hb0
    refine wp_region_held_drew (S := fun x => BoxIs x E #[.slice a1 l.length c1, .int .i64 nx, .int .i64 sq, .int .i64 lg] 46) (by kernel_rfl) BE_0 (fun hSz => ?_)
    clear hSz BE LO OA RD RR
    generalize w4.drew = wq0 at hb0 RD_0 LO_0 RR_0 BE_0 OA_0 ⊢
    clear hb0
    refine wpAnyH_take (i := 0) (v := .agg #[.slice a1 l.length c1, .int .i64 nx, .int .i64 sq, .int .i64 lg]) nat0 (by kernel_rfl) (by kernel_rfl) (by kernel_rfl) (fun _ _ _ h => False.elim h) (Or.inl ⟨by rfl, ?_⟩) BE_0 ?_
    · intro wx hSw
      have y0 := hSw.cell 0
      have y1 := hSw.cell 1
      have y2 := hSw.cell 2
      have y3 := hSw.cell 3
      simp only [List.getElem?_toArray, List.getElem?_cons_succ, List.getElem?_cons_zero] at y0 y1 y2 y3
      go_simp
    simp only [Act.put, List.setIfInBounds_toArray, List.set_cons_zero, List.set_cons_succ]
    refine wpAnyH_take (i := 1) (v := .int .i64 lv) nat1 (by kernel_rfl) (by kernel_rfl) (by kernel_rfl) (fun _ _ _ h => False.elim h) (Or.inl ⟨by rfl, ?_⟩) BE_0 ?_
    · intro wx hSw
      go_simp
    simp only [Act.put, List.setIfInBounds_toArray, List.set_cons_zero, List.set_cons_succ]
    refine wpAnyH_take (i := 2) (v := .pointer (some ⟨g, 0, none⟩)) nat2 (by kernel_rfl) (by kernel_rfl) (by kernel_rfl) (fun _ _ _ h => False.elim h) (Or.inl ⟨by rfl, ?_⟩) BE_0 ?_
    · intro wx hSw
      go_simp
    simp only [Act.put, List.setIfInBounds_toArray, List.set_cons_zero, List.set_cons_succ]
    refine wpAnyH_ready (rs := [3]) (by kernel_rfl) (by simp) ?_
    refine AllReadyH.cons nat3 (fun K hK => ?_) AllReadyH.nil
    go_simp
    go_at_call 69
    refine (rd_user W _ g a len cap hc hl RD_0).mono ?_
    rintro e wq1 ⟨u1, rfl, hu1, hr1, hb1⟩
    have RD_1 := hr1
    have LO_1 := LO_0.trans (hb1.below LO_0.size (by omega))
    have RR_1 := RR_0.mv hb1 (by omega)
    have BE_1 := BE_0.mv hb1 (by omega)
    have OA_1 := OwnMeta.mv OA_0 hb1 (by omega)
    refine hK.out _ _ BE_1 (fun hSz => ?_)
    clear hK K hSz BE_0 LO_0 OA_0 RD_0 RR_0 hb1
    refine wpAnyH_ready (rs := [4]) (by kernel_rfl) (by simp) ?_
    refine AllReadyH.cons nat4 (fun K hK => ?_) AllReadyH.nil
    have y0 := RR_1.cell 0
    have y1 := RR_1.cell 1
    have y2 := RR_1.cell 2
    have y3 := RR_1.cell 3
    simp only [List.getElem?_toArray, List.getElem?_cons_succ, List.getElem?_cons_zero] at y0 y1 y2 y3
    have yf := RR_1.free
    go_simp
    clear yf y0 y1 y2 y3
    have LO_2s0 := LO_1.setCell (p := ⟨w.heap.size, 0, none⟩) (Nat.le_refl _) (.slice a1 l.length c1)
    have RR_2s0 := RR_1.set 0 (.slice a1 l.length c1)
    have BE_2s0 := BE_1.set_other (p := ⟨w.heap.size, 0, none⟩) (by show w.heap.size ≠ _; omega) (.slice a1 l.length c1)
    have OA_2s0 := (show OwnMeta _ _ _ _ from rg_set (o := 0) OA_1 RR_1 (by decide) (.slice a1 l.length c1))
    have LO_2s1 := LO_2s0.setCell (p := ⟨w.heap.size, 1, none⟩) (Nat.le_refl _) (.int .i64 nx)
    have RR_2s1 := RR_2s0.set 1 (.int .i64 nx)
    have BE_2s1 := BE_2s0.set_other (p := ⟨w.heap.size, 1, none⟩) (by show w.heap.size ≠ _; omega) (.int .i64 nx)
    have OA_2s1 := (show OwnMeta _ _ _ _ from rg_set (o := 1) OA_2s0 RR_2s0 (by decide) (.int .i64 nx))
    have LO_2s2 := LO_2s1.setCell (p := ⟨w.heap.size, 2, none⟩) (Nat.le_refl _) (.int .i64 sq)
    have RR_2s2 := RR_2s1.set 2 (.int .i64 sq)
    have BE_2s2 := BE_2s1.set_other (p := ⟨w.heap.size, 2, none⟩) (by show w.heap.size ≠ _; omega) (.int .i64 sq)
    have OA_2s2 := (show OwnMeta _ _ _ _ from rg_set (o := 2) OA_2s1 RR_2s1 (by decide) (.int .i64 sq))
    have LO_2s3 := LO_2s2.setCell (p := ⟨w.heap.size, 3, none⟩) (Nat.le_refl _) (.int .i64 lg)
    have RR_2s3 := RR_2s2.set 3 (.int .i64 lg)
    have BE_2s3 := BE_2s2.set_other (p := ⟨w.heap.size, 3, none⟩) (by show w.heap.size ≠ _; omega) (.int .i64 lg)
    have OA_2s3 := (show OwnMeta _ _ _ _ from rg_set (o := 3) OA_2s2 RR_2s2 (by decide) (.int .i64 lg))
    have LO_2 := LO_2s3
    have RR_2 : BoxIs ((((wq1.setCell ⟨w.heap.size, 0, none⟩ (.slice a1 l.length c1)).setCell ⟨w.heap.size, 1, none⟩ (.int .i64 nx)).setCell ⟨w.heap.size, 2, none⟩ (.int .i64 sq)).setCell ⟨w.heap.size, 3, none⟩ (.int .i64 lg)) w.heap.size #[.slice a1 l.length c1, .int .i64 nx, .int .i64 sq, .int .i64 lg] 46 := RR_2s3
    have BE_2 := BE_2s3
    have OA_2 := OA_2s3
    refine hK.out _ _ BE_2 (fun hSz => ?_)
    clear hK K hSz BE_1 LO_1 OA_1 RD_1 RR_1 LO_2s0 LO_2s1 LO_2s2 LO_2s3 RR_2s0 RR_2s1 RR_2s2 RR_2s3 BE_2s0 BE_2s1 BE_2s2 BE_2s3 OA_2s0 OA_2s1 OA_2s2 OA_2s3
    generalize (((wq1.setCell ⟨w.heap.size, 0, none⟩ (.slice a1 l.length c1)).setCell ⟨w.heap.size, 1, none⟩ (.int .i64 nx)).setCell ⟨w.heap.size, 2, none⟩ (.int .i64 sq)).setCell ⟨w.heap.size, 3, none⟩ (.int .i64 lg) = wq2 at LO_2 RR_2 BE_2 OA_2 ⊢
    refine wpAnyH_take (i := 5) (v := .int .i64 lv) nat5 (by kernel_rfl) (by kernel_rfl) (by kernel_rfl) (fun _ _ _ h => False.elim h) (Or.inl ⟨by rfl, ?_⟩) BE_2 ?_
    · intro wx hSw
      go_simp
    simp only [Act.put, List.setIfInBounds_toArray, List.set_cons_zero, List.set_cons_succ]
    refine wpAnyH_take (i := 6) (v := .string ⟨#[]⟩) nat6 (by kernel_rfl) (by kernel_rfl) (by kernel_rfl) (fun _ _ _ h => False.elim h) (Or.inl ⟨by rfl, ?_⟩) BE_2 ?_
    · intro wx hSw
      go_simp
    simp only [Act.put, List.setIfInBounds_toArray, List.set_cons_zero, List.set_cons_succ]
    refine wpAnyH_take (i := 7) (v := .string u1) nat7 (by kernel_rfl) (by kernel_rfl) (by kernel_rfl) (fun _ _ _ h => False.elim h) (Or.inl ⟨by rfl, ?_⟩) BE_2 ?_
    · intro wx hSw
      go_simp
    simp only [Act.put, List.setIfInBounds_toArray, List.set_cons_zero, List.set_cons_succ]
    refine wpAnyH_done (by kernel_rfl) ?_ _
    refine NoPanic.normal ?_
    have z0 := RR_2.cell 0
    have z1 := RR_2.cell 1
    have z2 := RR_2.cell 2
    have z3 := RR_2.cell 3
    simp only [List.getElem?_toArray, List.getElem?_cons_succ, List.getElem?_cons_zero] at z0 z1 z2 z3
    go_wp2
    exact bodyPost_ret (v := .tuple #[.agg #[.slice a1 l.length c1, .int .i64 nx, .int .i64 sq, .int .i64 lg], .int .i64 lv, .string ⟨#[]⟩, .string u1]) (by simp [results, Try.results29, go_sem, z0, z1, z2, z3]) rfl ⟨_, _, l, nx, sq, lg, lv, _, _, rfl, OA_2.base (by omega), hll, LO_2⟩
  | false =>
    go_upto_region 6 with fail
    have RD := HS4.rd
    have LO := HS4.low
    have RR := HS4.bR
    have BE := HS4.bE
    have OA := HS4.oa
    have hR := HS4.hR
    have hE := HS4.hE
    clear HS4
    refine wp_region_noPanic ?_
    have hb0 : Below w4.heap.size w4 w4.drew := (Below.refl _ _).drew
    have RD_0 := RD.mv hb0
    have LO_0 := LO.trans (hb0.mono LO.size)
    have RR_0 := RR.next hb0
    have BE_0 := BE.next hb0
    have OA_0 := OA.next hb0
    refine wp_region_held_drew (S := fun x => BoxIs x E #[.slice a1 l.length c1, .int .i64 nx, .int .i64 sq, .int .i64 lg] 46) (by kernel_rfl) BE_0 (fun hSz => ?_)
    clear hSz BE LO OA RD RR
    generalize w4.drew = wq0 at hb0 RD_0 LO_0 RR_0 BE_0 OA_0 ⊢
    clear hb0
    refine wpAnyH_take (i := 0) (v := .agg #[.slice a1 l.length c1, .int .i64 nx, .int .i64 sq, .int .i64 lg]) nat0 (by kernel_rfl) (by kernel_rfl) (by kernel_rfl) (fun _ _ _ h => False.elim h) (Or.inl ⟨by rfl, ?_⟩) BE_0 ?_
    · intro wx hSw
      have y0 := hSw.cell 0
      have y1 := hSw.cell 1
      have y2 := hSw.cell 2
      have y3 := hSw.cell 3
      simp only [List.getElem?_toArray, List.getElem?_cons_succ, List.getElem?_cons_zero] at y0 y1 y2 y3
      go_simp
    simp only [Act.put, List.setIfInBounds_toArray, List.set_cons_zero, List.set_cons_succ]
    refine wpAnyH_take (i := 1) (v := .int .i64 lv) nat1 (by kernel_rfl) (by kernel_rfl) (by kernel_rfl) (fun _ _ _ h => False.elim h) (Or.inl ⟨by rfl, ?_⟩) BE_0 ?_
    · intro wx hSw
      go_simp
    simp only [Act.put, List.setIfInBounds_toArray, List.set_cons_zero, List.set_cons_succ]
    refine wpAnyH_take (i := 2) (v := .pointer (some ⟨g, 0, none⟩)) nat2 (by kernel_rfl) (by kernel_rfl) (by kernel_rfl) (fun _ _ _ h => False.elim h) (Or.inl ⟨by rfl, ?_⟩) BE_0 ?_
    · intro wx hSw
      go_simp
    simp only [Act.put, List.setIfInBounds_toArray, List.set_cons_zero, List.set_cons_succ]
    refine wpAnyH_take (i := 4) (v := .pointer (some ⟨g, 0, none⟩)) nat4 (by kernel_rfl) (by kernel_rfl) (by kernel_rfl) (fun _ _ _ h => False.elim h) (Or.inl ⟨by rfl, ?_⟩) BE_0 ?_
    · intro wx hSw
      go_simp
    simp only [Act.put, List.setIfInBounds_toArray, List.set_cons_zero, List.set_cons_succ]
    refine wpAnyH_ready (rs := [3]) (by kernel_rfl) (by simp) ?_
    refine AllReadyH.cons nat3 (fun K hK => ?_) AllReadyH.nil
    go_simp
    go_at_call 70
    refine (rd_text W _ g a len cap hc hl RD_0).mono ?_
    rintro e wq1 ⟨u1, rfl, hu1, hr1, hb1⟩
    have RD_1 := hr1
    have LO_1 := LO_0.trans (hb1.below LO_0.size (by omega))
    have RR_1 := RR_0.mv hb1 (by omega)
    have BE_1 := BE_0.mv hb1 (by omega)
    have OA_1 := OwnMeta.mv OA_0 hb1 (by omega)
    refine hK.out _ _ BE_1 (fun hSz => ?_)
    clear hK K hSz BE_0 LO_0 OA_0 RD_0 RR_0 hb1
    refine wpAnyH_ready (rs := [5]) (by kernel_rfl) (by simp) ?_
    refine AllReadyH.cons nat5 (fun K hK => ?_) AllReadyH.nil
    go_simp
    go_at_call 69
    refine (rd_user W _ g a len cap hc hl RD_1).mono ?_
    rintro e wq2 ⟨u2, rfl, hu2, hr2, hb2⟩
    have RD_2 := hr2
    have LO_2 := LO_1.trans (hb2.below LO_1.size (by omega))
    have RR_2 := RR_1.mv hb2 (by omega)
    have BE_2 := BE_1.mv hb2 (by omega)
    have OA_2 := OwnMeta.mv OA_1 hb2 (by omega)
    refine hK.out _ _ BE_2 (fun hSz => ?_)
    clear hK K hSz BE_1 LO_1 OA_1 RD_1 RR_1 hb2
    refine wpAnyH_ready (rs := [6]) (by kernel_rfl) (by simp) ?_
    refine AllReadyH.cons nat6 (fun K hK => ?_) AllReadyH.nil
    have y0 := RR_2.cell 0
    have y1 := RR_2.cell 1
    have y2 := RR_2.cell 2
    have y3 := RR_2.cell 3
    simp only [List.getElem?_toArray, List.getElem?_cons_succ, List.getElem?_cons_zero] at y0 y1 y2 y3
    have yf := RR_2.free
    go_simp
    clear yf y0 y1 y2 y3
    have LO_3s0 := LO_2.setCell (p := ⟨w.heap.size, 0, none⟩) (Nat.le_refl _) (.slice a1 l.length c1)
    have RR_3s0 := RR_2.set 0 (.slice a1 l.length c1)
    have BE_3s0 := BE_2.set_other (p := ⟨w.heap.size, 0, none⟩) (by show w.heap.size ≠ _; omega) (.slice a1 l.length c1)
    have OA_3s0 := (show OwnMeta _ _ _ _ from rg_set (o := 0) OA_2 RR_2 (by decide) (.slice a1 l.length c1))
    have LO_3s1 := LO_3s0.setCell (p := ⟨w.heap.size, 1, none⟩) (Nat.le_refl _) (.int .i64 nx)
    have RR_3s1 := RR_3s0.set 1 (.int .i64 nx)
    have BE_3s1 := BE_3s0.set_other (p := ⟨w.heap.size, 1, none⟩) (by show w.heap.size ≠ _; omega) (.int .i64 nx)
    have OA_3s1 := (show OwnMeta _ _ _ _ from rg_set (o := 1) OA_3s0 RR_3s0 (by decide) (.int .i64 nx))
    have LO_3s2 := LO_3s1.setCell (p := ⟨w.heap.size, 2, none⟩) (Nat.le_refl _) (.int .i64 sq)
    have RR_3s2 := RR_3s1.set 2 (.int .i64 sq)
    have BE_3s2 := BE_3s1.set_other (p := ⟨w.heap.size, 2, none⟩) (by show w.heap.size ≠ _; omega) (.int .i64 sq)
    have OA_3s2 := (show OwnMeta _ _ _ _ from rg_set (o := 2) OA_3s1 RR_3s1 (by decide) (.int .i64 sq))
    have LO_3s3 := LO_3s2.setCell (p := ⟨w.heap.size, 3, none⟩) (Nat.le_refl _) (.int .i64 lg)
    have RR_3s3 := RR_3s2.set 3 (.int .i64 lg)
    have BE_3s3 := BE_3s2.set_other (p := ⟨w.heap.size, 3, none⟩) (by show w.heap.size ≠ _; omega) (.int .i64 lg)
    have OA_3s3 := (show OwnMeta _ _ _ _ from rg_set (o := 3) OA_3s2 RR_3s2 (by decide) (.int .i64 lg))
    have LO_3 := LO_3s3
    have RR_3 : BoxIs ((((wq2.setCell ⟨w.heap.size, 0, none⟩ (.slice a1 l.length c1)).setCell ⟨w.heap.size, 1, none⟩ (.int .i64 nx)).setCell ⟨w.heap.size, 2, none⟩ (.int .i64 sq)).setCell ⟨w.heap.size, 3, none⟩ (.int .i64 lg)) w.heap.size #[.slice a1 l.length c1, .int .i64 nx, .int .i64 sq, .int .i64 lg] 46 := RR_3s3
    have BE_3 := BE_3s3
    have OA_3 := OA_3s3
    refine hK.out _ _ BE_3 (fun hSz => ?_)
    clear hK K hSz BE_2 LO_2 OA_2 RD_2 RR_2 LO_3s0 LO_3s1 LO_3s2 LO_3s3 RR_3s0 RR_3s1 RR_3s2 RR_3s3 BE_3s0 BE_3s1 BE_3s2 BE_3s3 OA_3s0 OA_3s1 OA_3s2 OA_3s3
    generalize (((wq2.setCell ⟨w.heap.size, 0, none⟩ (.slice a1 l.length c1)).setCell ⟨w.heap.size, 1, none⟩ (.int .i64 nx)).setCell ⟨w.heap.size, 2, none⟩ (.int .i64 sq)).setCell ⟨w.heap.size, 3, none⟩ (.int .i64 lg) = wq3 at LO_3 RR_3 BE_3 OA_3 ⊢
    refine wpAnyH_take (i := 7) (v := .int .i64 lv) nat7 (by kernel_rfl) (by kernel_rfl) (by kernel_rfl) (fun _ _ _ h => False.elim h) (Or.inl ⟨by rfl, ?_⟩) BE_3 ?_
    · intro wx hSw
      go_simp
    simp only [Act.put, List.setIfInBounds_toArray, List.set_cons_zero, List.set_cons_succ]
    refine wpAnyH_take (i := 8) (v := .string u1) nat8 (by kernel_rfl) (by kernel_rfl) (by kernel_rfl) (fun _ _ _ h => False.elim h) (Or.inl ⟨by rfl, ?_⟩) BE_3 ?_
    · intro wx hSw
      go_simp
    simp only [Act.put, List.setIfInBounds_toArray, List.set_cons_zero, List.set_cons_succ]
    refine wpAnyH_take (i := 9) (v := .string u2) nat9 (by kernel_rfl) (by kernel_rfl) (by kernel_rfl) (fun _ _ _ h => False.elim h) (Or.inl ⟨by rfl, ?_⟩) BE_3 ?_
    · intro wx hSw
      go_simp
    simp only [Act.put, List.setIfInBounds_toArray, List.set_cons_zero, List.set_cons_succ]
    refine wpAnyH_done (by kernel_rfl) ?_ _
    refine NoPanic.normal ?_
    have z0 := RR_3.cell 0
    have z1 := RR_3.cell 1
    have z2 := RR_3.cell 2
    have z3 := RR_3.cell 3
    simp only [List.getElem?_toArray, List.getElem?_cons_succ, List.getElem?_cons_zero] at z0 z1 z2 z3
    go_wp2
    exact bodyPost_ret (v := .tuple #[.agg #[.slice a1 l.length c1, .int .i64 nx, .int .i64 sq, .int .i64 lg], .int .i64 lv, .string u1, .string u2]) (by simp [results, Try.results29, go_sem, z0, z1, z2, z3]) rfl ⟨_, _, l, nx, sq, lg, lv, _, _, rfl, OA_3.base (by omega), hll, LO_3⟩

set_option linter.unusedVariables false in
set_option linter.unusedSimpArgs false in
set_option maxHeartbeats 4000000 in
theorem draw_VersionText (W w : World) (a : Option Addr) (len cap : Nat) (hc : IsCode W a len) (hl : len ≤ 1048576) (hb : Below W.heap.size W w) :
    Calls Try.prog 21 #[.slice a len cap] w fun e w' => ∃ a1 c1 l nx sq lg, e = .returned (.agg #[.slice a1 (l : List Meta1).length c1, .int .i64 nx, .int .i64 sq, .int .i64 lg]) ∧ OwnMeta w' w.heap.size (.slice a1 l.length c1) l ∧ l.length ≤ 31 ∧ Below w.heap.size w w' := by
  go_enter Try.func21, Try.ntmps21
  go_wp2_with fail
  have hb0 := below_one w (.cells #[.slice none 0 0, .int .i64 0, .int .i64 0, .int .i64 0] 46)
  have hR0 := BoxIs.new w #[.slice none 0 0, .int .i64 0, .int .i64 0, .int .i64 0] 46 rfl
  have hlt0 := hR0.lt
  generalize w.alloc (.cells #[.slice none 0 0, .int .i64 0, .int .i64 0, .int .i64 0] 46) = W0 at hb0 hR0 hlt0 ⊢
  refine (open_rdO W0 a len cap W (hb.trans (hb0.mono hb.size))).mono ?_
  rintro e w1 ⟨rfl, hr, hb1⟩
  have hlow1 := hb0.trans (hb1.mono hb0.size)
  have hR1 := hR0.next hb1
  generalize W0.heap.size = g at hr hlt0 hb1 ⊢
  have hgl := hr.lt
  clear hb hb0 hb1 hR0
  go_wp2_with fail
  refine (rd_version W _ g a len cap hc hl hr).mono ?_
  rintro e w2 ⟨a1, c1, l, nx, sq, lg, rfl, ho, hll, hn0, hn1, hs0, hs1, hr2, hm2⟩
  have hlow2 := hlow1.trans (hm2.below hlow1.size (by omega))
  have hR2 := hR1.mv hm2 (by omega)
  have hg2 := hr2.lt
  have z0 := hR2.cell 0
  have z1 := hR2.cell 1
  have z2 := hR2.cell 2
  have z3 := hR2.cell 3
  have zf := hR2.free
  simp only [List.getElem?_toArray, List.getElem?_cons_succ, List.getElem?_cons_zero] at z0 z1 z2 z3
  have b1 := hR2.set 0 (.slice a1 l.length c1)
  have b2 := b1.set 1 (.int .i64 nx)
  have b3 := b2.set 2 (.int .i64 sq)
  have HO := hide (OwnMeta.base (rg_set (rg_set (rg_set (rg_set ho hR2 (by decide) (.slice a1 l.length c1)) b1 (by decide) (.int .i64 nx)) b2 (by decide) (.int .i64 sq)) b3 (by decide) (.int .i64 lg)) (show w.heap.size ≤ w1.heap.size from hlow1.size) : OwnMeta ((((w2.setCell ⟨w.heap.size, 0, none⟩ (.slice a1 l.length c1)).setCell ⟨w.heap.size, 1, none⟩ (.int .i64 nx)).setCell ⟨w.heap.size, 2, none⟩ (.int .i64 sq)).setCell ⟨w.heap.size, 3, none⟩ (.int .i64 lg)) w.heap.size (.slice a1 l.length c1) l)
  have HL := hide (hlow2.trans (((((Below.refl w.heap.size w2).setCell (p := ⟨w.heap.size, 0, none⟩) (Nat.le_refl _) (.slice a1 l.length c1)).setCell (p := ⟨w.heap.size, 1, none⟩) (Nat.le_refl _) (.int .i64 nx)).setCell (p := ⟨w.heap.size, 2, none⟩) (Nat.le_refl _) (.int .i64 sq)).setCell (p := ⟨w.heap.size, 3, none⟩) (Nat.le_refl _) (.int .i64 lg)))
  clear hr ho hr2 hm2 hlow1 hlow2 hR1 hR2 b1 b2 b3
  go_wp2
  exact bodyPost_ret (v := .agg #[.slice a1 l.length c1, .int .i64 nx, .int .i64 sq, .int .i64 lg]) (by simp [results, Try.results21, go_sem, z0, z1, z2, z3]) rfl ⟨_, _, l, nx, sq, lg, rfl, HO.out, hll, HL.out⟩

end Go.Proofs.Ytplemoedpdammaa
