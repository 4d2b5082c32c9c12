/- What the law on Apply draws. (By gen_drawa.py.) -/
import Derived.Test.YtplbhgcibfajaaaDrawX
import Derived.Test.YtplbhgcibfajaaaOpen
namespace Go.Proofs.Ytplbhgcibfajaaa
set_option maxRecDepth 100000
open Go.RowKit Go.Deep

set_option linter.unusedVariables false in
set_option linter.unusedSimpArgs false in
set_option maxHeartbeats 4000000 in
theorem draw_Apply (W w : World) (a : Option Addr) (len cap : Nat) (hc : IsCode W a len) (hl : len ≤ 1048576) (hb : Below W.heap.size W w) :
    Calls Try.prog 25 #[.slice a len cap] w fun e w' => ∃ a1 c1 l nx sq lg aa adds ca cuts n s lo, e = .returned (.tuple #[.agg #[.slice a1 (l : List Meta1).length c1, .int .i64 nx, .int .i64 sq, .int .i64 lg], .agg #[aa, ca, .int .i64 n, .int .i64 s, .int .i64 lo]]) ∧ OwnMeta w' w.heap.size (.slice a1 l.length c1) l ∧ OwnMeta w' w.heap.size aa adds ∧ OwnI w' w.heap.size ca cuts ∧ l.length ≤ 31 ∧ adds.length ≤ 2 ∧ cuts.length ≤ 2 ∧ Below w.heap.size w w' := by
  go_enter Try.func25, Try.ntmps25
  go_wp2_with fail
  have hb0 : Below w.heap.size w ((w.alloc (.cells #[.slice none 0 0, .int .i64 0, .int .i64 0, .int .i64 0] 32)).alloc (.cells #[.slice none 0 0, .slice none 0 0, .int .i64 0, .int .i64 0, .int .i64 0] 37)) := ((Below.refl _ _).alloc (Nat.le_refl _) _).alloc (by simp) _
  have hR0 : BoxIs ((w.alloc (.cells #[.slice none 0 0, .int .i64 0, .int .i64 0, .int .i64 0] 32)).alloc (.cells #[.slice none 0 0, .slice none 0 0, .int .i64 0, .int .i64 0, .int .i64 0] 37)) w.heap.size #[.slice none 0 0, .int .i64 0, .int .i64 0, .int .i64 0] 32 := (BoxIs.new w _ _ rfl).next (below_one _ _)
  have hQ0 : BoxIs ((w.alloc (.cells #[.slice none 0 0, .int .i64 0, .int .i64 0, .int .i64 0] 32)).alloc (.cells #[.slice none 0 0, .slice none 0 0, .int .i64 0, .int .i64 0, .int .i64 0] 37)) (w.heap.size + 1) #[.slice none 0 0, .slice none 0 0, .int .i64 0, .int .i64 0, .int .i64 0] 37 := BoxIs.new _ _ _ (by simp)
  generalize (w.alloc (.cells #[.slice none 0 0, .int .i64 0, .int .i64 0, .int .i64 0] 32)).alloc (.cells #[.slice none 0 0, .slice none 0 0, .int .i64 0, .int .i64 0, .int .i64 0] 37) = W0 at hb0 hR0 hQ0 ⊢
  obtain ⟨Q, hQ⟩ : ∃ Q, w.heap.size + 1 = Q := ⟨_, rfl⟩
  rw [hQ] at hQ0 ⊢
  have hlt0 := hQ0.lt
  refine (open_rdO W0 a len cap W (hb.trans (hb0.mono hb.size))).mono ?_
  rintro e w1 ⟨rfl, hr, hb1⟩
  have hlow1 := hb0.trans (hb1.mono hb0.size)
  have hR1 := hR0.next hb1
  have hQ1 := hQ0.next hb1
  generalize W0.heap.size = g at hr hlt0 hb1 ⊢
  have hgl := hr.lt
  clear hb hb0 hb1 hR0 hQ0
  go_wp2_with fail
  refine (rd_version W _ g a len cap hc hl hr).mono ?_
  rintro e w2 ⟨a1, c1, l, nx, sq, lg, rfl, ho, hll, hn0, hn1, hs0, hs1, hr2, hm2⟩
  have hlow2 := hlow1.trans (hm2.below hlow1.size (by omega))
  have hR2 := hR1.mv hm2 (by omega)
  have hQ2 := hQ1.mv hm2 (by omega)
  have hE := hr2.lt
  have RD := hr2.mv (below_one w2 (.cells #[.slice a1 l.length c1, .int .i64 nx, .int .i64 sq, .int .i64 lg] 32))
  have LO := hlow2.trans ((below_one w2 (.cells #[.slice a1 l.length c1, .int .i64 nx, .int .i64 sq, .int .i64 lg] 32)).mono hlow2.size)
  have RR := hR2.next (below_one w2 (.cells #[.slice a1 l.length c1, .int .i64 nx, .int .i64 sq, .int .i64 lg] 32))
  have QQ := hQ2.next (below_one w2 (.cells #[.slice a1 l.length c1, .int .i64 nx, .int .i64 sq, .int .i64 lg] 32))
  have BE := BoxIs.new w2 #[.slice a1 l.length c1, .int .i64 nx, .int .i64 sq, .int .i64 lg] 32 rfl
  have OA : OwnMeta (w2.alloc (.cells #[.slice a1 l.length c1, .int .i64 nx, .int .i64 sq, .int .i64 lg] 32)) (g + 1) (.slice a1 l.length c1) l := OwnMeta.next (ho.base (by omega)) (below_one _ _)
  clear hr ho hr2 hm2 hlow1 hlow2 hR1 hR2 hQ1 hQ2
  go_upto_region 3 with fail
  generalize w2.alloc (.cells #[.slice a1 l.length c1, .int .i64 nx, .int .i64 sq, .int .i64 lg] 32) = W2 at RD LO RR QQ BE OA ⊢
  generalize w2.heap.size = E at BE hE ⊢
  refine wp_region_noPanic ?_
  have hb0 : Below W2.heap.size W2 W2.drew := (Below.refl _ _).drew
  have RD_0 := RD.mv hb0
  have LO_0 := LO.trans (hb0.mono LO.size)
  have RR_0 := RR.next hb0
  have QQ_0 := QQ.next hb0
  have BE_0 := BE.next hb0
  have OA_0 := OA.next hb0
  refine wp_region_held_drew (S := fun x => BoxIs x E #[.slice a1 l.length c1, .int .i64 nx, .int .i64 sq, .int .i64 lg] 32) (by kernel_rfl) BE_0 (fun hSz => ?_)
  clear hSz BE LO OA QQ RD RR
  generalize W2.drew = wq0 at hb0 RD_0 LO_0 RR_0 QQ_0 BE_0 OA_0 ⊢
  clear hb0
  refine wpAnyH_take (i := 0) (v := .agg #[.slice a1 l.length c1, .int .i64 nx, .int .i64 sq, .int .i64 lg]) nat0 (by kernel_rfl) (by kernel_rfl) (by kernel_rfl) (fun _ _ _ h => False.elim h) (Or.inl ⟨by rfl, ?_⟩) BE_0 ?_
  · intro wx hSw
    have y0 := hSw.cell 0
    have y1 := hSw.cell 1
    have y2 := hSw.cell 2
    have y3 := hSw.cell 3
    simp only [List.getElem?_toArray, List.getElem?_cons_succ, List.getElem?_cons_zero] at y0 y1 y2 y3
    go_simp
  simp only [Act.put, List.setIfInBounds_toArray, List.set_cons_zero, List.set_cons_succ]
  refine wpAnyH_take (i := 1) (v := .pointer (some ⟨g, 0, none⟩)) nat1 (by kernel_rfl) (by kernel_rfl) (by kernel_rfl) (fun _ _ _ h => False.elim h) (Or.inl ⟨by rfl, ?_⟩) BE_0 ?_
  · intro wx hSw
    go_simp
  simp only [Act.put, List.setIfInBounds_toArray, List.set_cons_zero, List.set_cons_succ]
  refine wpAnyH_take (i := 2) (v := .agg #[.slice a1 l.length c1, .int .i64 nx, .int .i64 sq, .int .i64 lg]) nat2 (by kernel_rfl) (by kernel_rfl) (by kernel_rfl) (fun _ _ _ h => False.elim h) (Or.inl ⟨by rfl, ?_⟩) BE_0 ?_
  · intro wx hSw
    have y0 := hSw.cell 0
    have y1 := hSw.cell 1
    have y2 := hSw.cell 2
    have y3 := hSw.cell 3
    simp only [List.getElem?_toArray, List.getElem?_cons_succ, List.getElem?_cons_zero] at y0 y1 y2 y3
    go_simp
  simp only [Act.put, List.setIfInBounds_toArray, List.set_cons_zero, List.set_cons_succ]
  refine wpAnyH_ready (rs := [3]) (by kernel_rfl) (by simp) ?_
  refine AllReadyH.cons nat3 (fun K hK => ?_) AllReadyH.nil
  go_simp
  go_at_call 46
  refine (rd_edit W _ g a len cap hc hl RD_0 _ l nx sq lg (by omega) (by omega) (by omega) OA_0).mono ?_
  rintro e wq1 ⟨aa1, adds1, ca1, cuts1, n1, s1, lo1, rfl, od1, oc1, ha1, hu1, _, _, _, _, hr1, hb1⟩
  obtain ⟨aa1, ap1, rfl⟩ := od1.shape
  obtain ⟨ca1, cp1, hcq1⟩ := rg_shape oc1
  rw [List.length_map] at hcq1
  subst hcq1
  have RD_1 := hr1
  have LO_1 := LO_0.trans (hb1.below LO_0.size (by omega))
  have RR_1 := RR_0.mv hb1 (by omega)
  have QQ_1 := QQ_0.mv hb1 (by omega)
  have BE_1 := BE_0.mv hb1 (by omega)
  have OA_1 := OwnMeta.mv OA_0 hb1 (by omega)
  have OD_1 := (show OwnMeta _ w.heap.size (.slice aa1 adds1.length ap1) adds1 from od1.base LO_0.size)
  have OC_1 := (show OwnI _ w.heap.size (.slice ca1 cuts1.length cp1) cuts1 from rg_base oc1 LO_0.size)
  refine hK.out _ _ BE_1 (fun hSz => ?_)
  clear hK K hSz BE_0 LO_0 OA_0 QQ_0 RD_0 RR_0 hb1 od1 oc1
  refine wpAnyH_ready (rs := [4]) (by kernel_rfl) (by simp) ?_
  refine AllReadyH.cons nat4 (fun K hK => ?_) AllReadyH.nil
  have y0 := RR_1.cell 0
  have y1 := RR_1.cell 1
  have y2 := RR_1.cell 2
  have y3 := RR_1.cell 3
  simp only [List.getElem?_toArray, List.getElem?_cons_succ, List.getElem?_cons_zero] at y0 y1 y2 y3
  have yf := RR_1.free
  go_simp
  clear yf y0 y1 y2 y3
  have LO_2s0 := LO_1.setCell (p := ⟨w.heap.size, 0, none⟩) (by show w.heap.size ≤ w.heap.size; omega) (.slice a1 l.length c1)
  have RR_2s0 := RR_1.set 0 (.slice a1 l.length c1)
  have QQ_2s0 := QQ_1.set_other (p := ⟨w.heap.size, 0, none⟩) (by show w.heap.size ≠ _; omega) (.slice a1 l.length c1)
  have BE_2s0 := BE_1.set_other (p := ⟨w.heap.size, 0, none⟩) (by show w.heap.size ≠ _; omega) (.slice a1 l.length c1)
  have OA_2s0 := (show OwnMeta _ _ _ _ from rg_set (o := 0) OA_1 RR_1 (by decide) (.slice a1 l.length c1))
  have OD_2s0 := (show OwnMeta _ _ _ _ from rg_set (o := 0) OD_1 RR_1 (by decide) (.slice a1 l.length c1))
  have OC_2s0 := (show OwnI _ _ _ _ from rg_set (o := 0) OC_1 RR_1 (by decide) (.slice a1 l.length c1))
  have LO_2s1 := LO_2s0.setCell (p := ⟨w.heap.size, 1, none⟩) (by show w.heap.size ≤ w.heap.size; omega) (.int .i64 nx)
  have RR_2s1 := RR_2s0.set 1 (.int .i64 nx)
  have QQ_2s1 := QQ_2s0.set_other (p := ⟨w.heap.size, 1, none⟩) (by show w.heap.size ≠ _; omega) (.int .i64 nx)
  have BE_2s1 := BE_2s0.set_other (p := ⟨w.heap.size, 1, none⟩) (by show w.heap.size ≠ _; omega) (.int .i64 nx)
  have OA_2s1 := (show OwnMeta _ _ _ _ from rg_set (o := 1) OA_2s0 RR_2s0 (by decide) (.int .i64 nx))
  have OD_2s1 := (show OwnMeta _ _ _ _ from rg_set (o := 1) OD_2s0 RR_2s0 (by decide) (.int .i64 nx))
  have OC_2s1 := (show OwnI _ _ _ _ from rg_set (o := 1) OC_2s0 RR_2s0 (by decide) (.int .i64 nx))
  have LO_2s2 := LO_2s1.setCell (p := ⟨w.heap.size, 2, none⟩) (by show w.heap.size ≤ w.heap.size; omega) (.int .i64 sq)
  have RR_2s2 := RR_2s1.set 2 (.int .i64 sq)
  have QQ_2s2 := QQ_2s1.set_other (p := ⟨w.heap.size, 2, none⟩) (by show w.heap.size ≠ _; omega) (.int .i64 sq)
  have BE_2s2 := BE_2s1.set_other (p := ⟨w.heap.size, 2, none⟩) (by show w.heap.size ≠ _; omega) (.int .i64 sq)
  have OA_2s2 := (show OwnMeta _ _ _ _ from rg_set (o := 2) OA_2s1 RR_2s1 (by decide) (.int .i64 sq))
  have OD_2s2 := (show OwnMeta _ _ _ _ from rg_set (o := 2) OD_2s1 RR_2s1 (by decide) (.int .i64 sq))
  have OC_2s2 := (show OwnI _ _ _ _ from rg_set (o := 2) OC_2s1 RR_2s1 (by decide) (.int .i64 sq))
  have LO_2s3 := LO_2s2.setCell (p := ⟨w.heap.size, 3, none⟩) (by show w.heap.size ≤ w.heap.size; omega) (.int .i64 lg)
  have RR_2s3 := RR_2s2.set 3 (.int .i64 lg)
  have QQ_2s3 := QQ_2s2.set_other (p := ⟨w.heap.size, 3, none⟩) (by show w.heap.size ≠ _; omega) (.int .i64 lg)
  have BE_2s3 := BE_2s2.set_other (p := ⟨w.heap.size, 3, none⟩) (by show w.heap.size ≠ _; omega) (.int .i64 lg)
  have OA_2s3 := (show OwnMeta _ _ _ _ from rg_set (o := 3) OA_2s2 RR_2s2 (by decide) (.int .i64 lg))
  have OD_2s3 := (show OwnMeta _ _ _ _ from rg_set (o := 3) OD_2s2 RR_2s2 (by decide) (.int .i64 lg))
  have OC_2s3 := (show OwnI _ _ _ _ from rg_set (o := 3) OC_2s2 RR_2s2 (by decide) (.int .i64 lg))
  have LO_2 := LO_2s3
  have RR_2 : BoxIs ((((wq1.setCell ⟨w.heap.size, 0, none⟩ (.slice a1 l.length c1)).setCell ⟨w.heap.size, 1, none⟩ (.int .i64 nx)).setCell ⟨w.heap.size, 2, none⟩ (.int .i64 sq)).setCell ⟨w.heap.size, 3, none⟩ (.int .i64 lg)) w.heap.size #[.slice a1 l.length c1, .int .i64 nx, .int .i64 sq, .int .i64 lg] 32 := RR_2s3
  have QQ_2 := QQ_2s3
  have BE_2 := BE_2s3
  have OA_2 := OA_2s3
  have OD_2 := OD_2s3
  have OC_2 := OC_2s3
  refine hK.out _ _ BE_2 (fun hSz => ?_)
  clear hK K hSz BE_1 LO_1 OA_1 OC_1 OD_1 QQ_1 RD_1 RR_1 LO_2s0 LO_2s1 LO_2s2 LO_2s3 RR_2s0 RR_2s1 RR_2s2 RR_2s3 QQ_2s0 QQ_2s1 QQ_2s2 QQ_2s3 BE_2s0 BE_2s1 BE_2s2 BE_2s3 OA_2s0 OA_2s1 OA_2s2 OA_2s3 OD_2s0 OD_2s1 OD_2s2 OD_2s3 OC_2s0 OC_2s1 OC_2s2 OC_2s3
  generalize (((wq1.setCell ⟨w.heap.size, 0, none⟩ (.slice a1 l.length c1)).setCell ⟨w.heap.size, 1, none⟩ (.int .i64 nx)).setCell ⟨w.heap.size, 2, none⟩ (.int .i64 sq)).setCell ⟨w.heap.size, 3, none⟩ (.int .i64 lg) = wq2 at LO_2 RR_2 QQ_2 BE_2 OA_2 OD_2 OC_2 ⊢
  refine wpAnyH_ready (rs := [5]) (by kernel_rfl) (by simp) ?_
  refine AllReadyH.cons nat5 (fun K hK => ?_) AllReadyH.nil
  have y0 := QQ_2.cell 0
  have y1 := QQ_2.cell 1
  have y2 := QQ_2.cell 2
  have y3 := QQ_2.cell 3
  have y4 := QQ_2.cell 4
  simp only [List.getElem?_toArray, List.getElem?_cons_succ, List.getElem?_cons_zero] at y0 y1 y2 y3 y4
  have yf := QQ_2.free
  go_simp
  clear yf y0 y1 y2 y3 y4
  have LO_3s0 := LO_2.setCell (p := ⟨Q, 0, none⟩) (by show w.heap.size ≤ Q; omega) (.slice aa1 adds1.length ap1)
  have RR_3s0 := RR_2.set_other (p := ⟨Q, 0, none⟩) (by show Q ≠ _; omega) (.slice aa1 adds1.length ap1)
  have QQ_3s0 := QQ_2.set 0 (.slice aa1 adds1.length ap1)
  have BE_3s0 := BE_2.set_other (p := ⟨Q, 0, none⟩) (by show Q ≠ _; omega) (.slice aa1 adds1.length ap1)
  have OA_3s0 := (show OwnMeta _ _ _ _ from rg_set (o := 0) OA_2 QQ_2 (by decide) (.slice aa1 adds1.length ap1))
  have OD_3s0 := (show OwnMeta _ _ _ _ from rg_set (o := 0) OD_2 QQ_2 (by decide) (.slice aa1 adds1.length ap1))
  have OC_3s0 := (show OwnI _ _ _ _ from rg_set (o := 0) OC_2 QQ_2 (by decide) (.slice aa1 adds1.length ap1))
  have LO_3s1 := LO_3s0.setCell (p := ⟨Q, 1, none⟩) (by show w.heap.size ≤ Q; omega) (.slice ca1 cuts1.length cp1)
  have RR_3s1 := RR_3s0.set_other (p := ⟨Q, 1, none⟩) (by show Q ≠ _; omega) (.slice ca1 cuts1.length cp1)
  have QQ_3s1 := QQ_3s0.set 1 (.slice ca1 cuts1.length cp1)
  have BE_3s1 := BE_3s0.set_other (p := ⟨Q, 1, none⟩) (by show Q ≠ _; omega) (.slice ca1 cuts1.length cp1)
  have OA_3s1 := (show OwnMeta _ _ _ _ from rg_set (o := 1) OA_3s0 QQ_3s0 (by decide) (.slice ca1 cuts1.length cp1))
  have OD_3s1 := (show OwnMeta _ _ _ _ from rg_set (o := 1) OD_3s0 QQ_3s0 (by decide) (.slice ca1 cuts1.length cp1))
  have OC_3s1 := (show OwnI _ _ _ _ from rg_set (o := 1) OC_3s0 QQ_3s0 (by decide) (.slice ca1 cuts1.length cp1))
  have LO_3s2 := LO_3s1.setCell (p := ⟨Q, 2, none⟩) (by show w.heap.size ≤ Q; omega) (.int .i64 n1)
  have RR_3s2 := RR_3s1.set_other (p := ⟨Q, 2, none⟩) (by show Q ≠ _; omega) (.int .i64 n1)
  have QQ_3s2 := QQ_3s1.set 2 (.int .i64 n1)
  have BE_3s2 := BE_3s1.set_other (p := ⟨Q, 2, none⟩) (by show Q ≠ _; omega) (.int .i64 n1)
  have OA_3s2 := (show OwnMeta _ _ _ _ from rg_set (o := 2) OA_3s1 QQ_3s1 (by decide) (.int .i64 n1))
  have OD_3s2 := (show OwnMeta _ _ _ _ from rg_set (o := 2) OD_3s1 QQ_3s1 (by decide) (.int .i64 n1))
  have OC_3s2 := (show OwnI _ _ _ _ from rg_set (o := 2) OC_3s1 QQ_3s1 (by decide) (.int .i64 n1))
  have LO_3s3 := LO_3s2.setCell (p := ⟨Q, 3, none⟩) (by show w.heap.size ≤ Q; omega) (.int .i64 s1)
  have RR_3s3 := RR_3s2.set_other (p := ⟨Q, 3, none⟩) (by show Q ≠ _; omega) (.int .i64 s1)
  have QQ_3s3 := QQ_3s2.set 3 (.int .i64 s1)
  have BE_3s3 := BE_3s2.set_other (p := ⟨Q, 3, none⟩) (by show Q ≠ _; omega) (.int .i64 s1)
  have OA_3s3 := (show OwnMeta _ _ _ _ from rg_set (o := 3) OA_3s2 QQ_3s2 (by decide) (.int .i64 s1))
  have OD_3s3 := (show OwnMeta _ _ _ _ from rg_set (o := 3) OD_3s2 QQ_3s2 (by decide) (.int .i64 s1))
  have OC_3s3 := (show OwnI _ _ _ _ from rg_set (o := 3) OC_3s2 QQ_3s2 (by decide) (.int .i64 s1))
  have LO_3s4 := LO_3s3.setCell (p := ⟨Q, 4, none⟩) (by show w.heap.size ≤ Q; omega) (.int .i64 lo1)
  have RR_3s4 := RR_3s3.set_other (p := ⟨Q, 4, none⟩) (by show Q ≠ _; omega) (.int .i64 lo1)
  have QQ_3s4 := QQ_3s3.set 4 (.int .i64 lo1)
  have BE_3s4 := BE_3s3.set_other (p := ⟨Q, 4, none⟩) (by show Q ≠ _; omega) (.int .i64 lo1)
  have OA_3s4 := (show OwnMeta _ _ _ _ from rg_set (o := 4) OA_3s3 QQ_3s3 (by decide) (.int .i64 lo1))
  have OD_3s4 := (show OwnMeta _ _ _ _ from rg_set (o := 4) OD_3s3 QQ_3s3 (by decide) (.int .i64 lo1))
  have OC_3s4 := (show OwnI _ _ _ _ from rg_set (o := 4) OC_3s3 QQ_3s3 (by decide) (.int .i64 lo1))
  have LO_3 := LO_3s4
  have RR_3 := RR_3s4
  have QQ_3 : BoxIs (((((wq2.setCell ⟨Q, 0, none⟩ (.slice aa1 adds1.length ap1)).setCell ⟨Q, 1, none⟩ (.slice ca1 cuts1.length cp1)).setCell ⟨Q, 2, none⟩ (.int .i64 n1)).setCell ⟨Q, 3, none⟩ (.int .i64 s1)).setCell ⟨Q, 4, none⟩ (.int .i64 lo1)) Q #[.slice aa1 adds1.length ap1, .slice ca1 cuts1.length cp1, .int .i64 n1, .int .i64 s1, .int .i64 lo1] 37 := QQ_3s4
  have BE_3 := BE_3s4
  have OA_3 := OA_3s4
  have OD_3 := OD_3s4
  have OC_3 := OC_3s4
  refine hK.out _ _ BE_3 (fun hSz => ?_)
  clear hK K hSz BE_2 LO_2 OA_2 OC_2 OD_2 QQ_2 RR_2 LO_3s0 LO_3s1 LO_3s2 LO_3s3 LO_3s4 RR_3s0 RR_3s1 RR_3s2 RR_3s3 RR_3s4 QQ_3s0 QQ_3s1 QQ_3s2 QQ_3s3 QQ_3s4 BE_3s0 BE_3s1 BE_3s2 BE_3s3 BE_3s4 OA_3s0 OA_3s1 OA_3s2 OA_3s3 OA_3s4 OD_3s0 OD_3s1 OD_3s2 OD_3s3 OD_3s4 OC_3s0 OC_3s1 OC_3s2 OC_3s3 OC_3s4
  generalize ((((wq2.setCell ⟨Q, 0, none⟩ (.slice aa1 adds1.length ap1)).setCell ⟨Q, 1, none⟩ (.slice ca1 cuts1.length cp1)).setCell ⟨Q, 2, none⟩ (.int .i64 n1)).setCell ⟨Q, 3, none⟩ (.int .i64 s1)).setCell ⟨Q, 4, none⟩ (.int .i64 lo1) = wq3 at LO_3 RR_3 QQ_3 BE_3 OA_3 OD_3 OC_3 ⊢
  refine wpAnyH_done (by kernel_rfl) ?_ _
  refine NoPanic.normal ?_
  have z0 := RR_3.cell 0
  have z1 := RR_3.cell 1
  have z2 := RR_3.cell 2
  have z3 := RR_3.cell 3
  have y0 := QQ_3.cell 0
  have y1 := QQ_3.cell 1
  have y2 := QQ_3.cell 2
  have y3 := QQ_3.cell 3
  have y4 := QQ_3.cell 4
  simp only [List.getElem?_toArray, List.getElem?_cons_succ, List.getElem?_cons_zero] at z0 z1 z2 z3 y0 y1 y2 y3 y4
  go_wp2
  exact bodyPost_ret (v := .tuple #[.agg #[.slice a1 l.length c1, .int .i64 nx, .int .i64 sq, .int .i64 lg], .agg #[.slice aa1 adds1.length ap1, .slice ca1 cuts1.length cp1, .int .i64 n1, .int .i64 s1, .int .i64 lo1]]) (by simp [results, Try.results25, go_sem, z0, z1, z2, z3, y0, y1, y2, y3, y4]) rfl ⟨_, _, l, nx, sq, lg, _, adds1, _, cuts1, _, _, _, rfl, OA_3.base (by omega), OD_3, OC_3, hll, ha1, hu1, LO_3⟩

end Go.Proofs.Ytplbhgcibfajaaa
