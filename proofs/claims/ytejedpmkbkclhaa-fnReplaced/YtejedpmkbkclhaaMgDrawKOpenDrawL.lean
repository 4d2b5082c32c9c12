/- A drawn disk. (By gen_rdisk.py.) -/
import Derived.Test.YtejedpmkbkclhaaDrawD
import Derived.Test.YtejedpmkbkclhaaMgSyODoORpPRpQDskRow
import Derived.Test.YtejedpmkbkclhaaNth
import Derived.Deep.RegionHeld3
import Derived.Test.YtejedpmkbkclhaaDraw
import Derived.BigQuiet
import Derived.Laws.StructEq
namespace Go.Proofs.Ytejedpmkbkclhaa
set_option maxRecDepth 100000
open Go.RowKit Go.Deep

/-- The file that makes a disk wrong. -/
def zz1 : File1 := ⟨⟨#[122, 122]⟩, ⟨#[]⟩⟩
theorem ownsRow_mv {w w' : World} {B g : Nat} {e : TypeId} {z : Nat} {v : Value} {n : Nat} {cs : List Value} (h : w.ownsRow B e z v n cs) (hm : Mv g w w') (hg : g < B) : w'.ownsRow B e z v n cs := by
  refine ⟨h.1, ?_⟩
  rcases h.2 with hn | ⟨b, cap, cur, rfl, hb, hh, r⟩
  · exact .inl hn
  · exact .inr ⟨b, cap, cur, rfl, hb, by rw [hm.block b (Array.getElem?_eq_some_iff.1 hh).1 (by omega)]; exact hh, r⟩
theorem DiskMade.mv {w w' : World} {B g : Nat} {v : Value} {l s : List File1} {q : List DOp1} (h : DiskMade w B v l s q) (hm : Mv g w w') (hg : g < B) : DiskMade w' B v l s q := by
  obtain ⟨v0, v1, v2, e, m0, m1, m2, m3⟩ := h
  exact ⟨v0, v1, v2, e, ownsRow_mv m0 hm hg, ownsRow_mv m1 hm hg, ownsRow_mv m2 hm hg, m3⟩
theorem DiskMade.set {w : World} {B F : Nat} {v : Value} {l s : List File1} {q : List DOp1} {cs : Array Value} (h : DiskMade w B v l s q) (hb : BoxIs w F cs 31) (j : Nat) (x : Value) : DiskMade (w.setCell ⟨F, j, none⟩ x) B v l s q := by
  obtain ⟨v0, v1, v2, e, m0, m1, m2, m3⟩ := h
  exact ⟨v0, v1, v2, e, m0.setBox hb (by decide) x, m1.setBox hb (by decide) x, m2.setBox hb (by decide) x, m3⟩
theorem made_put3 {w : World} {B F : Nat} {v : Value} {l s : List File1} {q : List DOp1} {cs : Array Value} (h : DiskMade w B v l s q) (hb : BoxIs w F cs 31) (x y z : Value) : DiskMade (((w.setCell ⟨F, 0, none⟩ x).setCell ⟨F, 1, none⟩ y).setCell ⟨F, 2, none⟩ z) B v l s q :=
  ((h.set hb 0 x).set (hb.set 0 x) 1 y).set ((hb.set 0 x).set 1 y) 2 z
theorem DiskMade.shape {w : World} {B : Nat} {v : Value} {l s : List File1} {q : List DOp1} (h : DiskMade w B v l s q) : ∃ a0 p0 a1 p1 a2 p2, v = .agg #[.slice a0 l.length p0, .slice a1 s.length p1, .slice a2 q.length p2] := by
  obtain ⟨v0, v1, v2, rfl, m0, m1, m2, _⟩ := h
  obtain ⟨a0, p0, rfl⟩ := m0.shape
  obtain ⟨a1, p1, rfl⟩ := m1.shape
  obtain ⟨a2, p2, rfl⟩ := m2.shape
  exact ⟨a0, p0, a1, p1, a2, p2, rfl⟩
theorem DiskMade.is {w : World} {B : Nat} {v : Value} {l s : List File1} {q : List DOp1} (h : DiskMade w B v l s q) : DiskIs w v (dc l s q) := h.own.is
theorem none_right : dB (dc [] [] []) = true := by rfl
theorem mv_put3 {g F : Nat} {w w' : World} (hm : Mv g w w') (hF : w.heap.size ≤ F) (x y z : Value) : Mv g w (((w'.setCell ⟨F, 0, none⟩ x).setCell ⟨F, 1, none⟩ y).setCell ⟨F, 2, none⟩ z) := mv_then hm (below_put3 (Below.refl w.heap.size w') hF x y z)
theorem rd_put3 {W w : World} {g F : Nat} {a : Option Addr} {len cap : Nat} (h : Rd W w g a len cap) (hF : g < F) (x y z : Value) : Rd W (((w.setCell ⟨F, 0, none⟩ x).setCell ⟨F, 1, none⟩ y).setCell ⟨F, 2, none⟩ z) g a len cap := h.keep (below_put3 (Below.refl F w) (Nat.le_refl _) x y z) hF

set_option linter.unusedVariables false in
set_option linter.unusedSimpArgs false in
set_option maxHeartbeats 8000000 in
theorem rd_disk (W w : World) (g : Nat) (a : Option Addr) (len cap : Nat) (hc : IsCode W a len) (hl : len ≤ 1048576) (h : Rd W w g a len cap) :
    Calls Try.prog 71 #[.pointer (some ⟨g, 0, none⟩)] w fun e w' => ∃ (v : Value) (c : DiskC), e = .returned v ∧ c.Fit ∧ DiskRow w' (g + 1) v c ∧ Rd W w' g a len cap ∧ Mv g w w' := by
  have hg := h.lt
  have hB := ((Below.refl w.heap.size w).alloc (Nat.le_refl _) (.cells #[.slice none 0 0, .slice none 0 0, .slice none 0 0] 31)).alloc (by simp) (.cells #[.slice none 0 0, .slice none 0 0, .slice none 0 0] 31)
  have hR := (BoxIs.new w #[.slice none 0 0, .slice none 0 0, .slice none 0 0] 31 rfl).next (below_one _ (.cells #[.slice none 0 0, .slice none 0 0, .slice none 0 0] 31))
  have hN := BoxIs.new (w.alloc (.cells #[.slice none 0 0, .slice none 0 0, .slice none 0 0] 31)) #[.slice none 0 0, .slice none 0 0, .slice none 0 0] 31 (g := w.heap.size + 1) (by simp)
  have HR := hR.hid
  have HN := hN.hid
  have HRD : Hid _ := h.keep hB hg
  have HMV := hide (Mv.of_below (g := g) hB)
  have HCODE := hide hc
  clear hB hR hN h hc
  go_enter Try.func71, Try.ntmps71
  go_wp2_with fail
  generalize (w.alloc (.cells #[.slice none 0 0, .slice none 0 0, .slice none 0 0] 31)).alloc (.cells #[.slice none 0 0, .slice none 0 0, .slice none 0 0] 31) = w0 at HR HN HRD HMV ⊢
  refine (rd_size W w0 g a len cap 3 10 (by omega) (by omega) (by omega) (by omega) HCODE.out hl HRD.out).mono ?_
  rintro e w1 ⟨n, rfl, hn1, hn2, hr, hm⟩
  have HR1 := (HR.out.mv hm (by omega)).hid
  have HN1 := (HN.out.mv hm (by omega)).hid
  have HRD1 : Hid _ := hr
  have HMV1 := hide (HMV.out.trans hm)
  obtain ⟨N, hNe⟩ : ∃ N, w.heap.size + 1 = N := ⟨_, rfl⟩
  have hgN : g < N := by omega
  have hwN : w.heap.size ≤ N := by omega
  have hwN2 : w.heap.size ≠ N := by omega
  rw [hNe] at HN1 ⊢
  clear HR HN HRD HMV hr hm hNe
  go_wp2
  go_loopw [4] (fun i wr => ∃ (k : Int) (l s : List File1) (q : List DOp1) (x0 : Option Addr) (y0 : Nat) (x1 : Option Addr) (y1 : Nat) (x2 : Option Addr) (y2 : Nat), i = .int .i64 k ∧ 0 ≤ k ∧ k ≤ 10 ∧ Hid (dc l s q).Fit ∧ Hid (dB (dc l s q) = true) ∧ Hid (BoxIs wr w.heap.size #[.slice none 0 0, .slice none 0 0, .slice none 0 0] 31) ∧ Hid (BoxIs wr N #[.slice x0 l.length y0, .slice x1 s.length y1, .slice x2 q.length y2] 31) ∧ Hid (DiskMade wr w.heap.size (.agg #[.slice x0 l.length y0, .slice x1 s.length y1, .slice x2 q.length y2]) l s q) ∧ Hid (Rd W wr g a len cap) ∧ Hid (Mv g w wr)) (fun i _ => (intOf i).toNat)
  case atStart => exact ⟨n, [], [], [], none, 0, none, 0, none, 0, rfl, by omega, hn2, dc_fit fitL_nil fitL_nil fitQ_nil, none_right, HR1, HN1, made_nil _ _, HRD1, HMV1⟩
  case round =>
    obtain ⟨k, l, s, q, x0, y0, x1, y1, x2, y2, rfl, hk0, hk1, HFX, HDX, HRX, HNX, HOX, HRDX, HMX⟩ := hrel
    clear HR1 HN1 HRD1 HMV1
    by_cases hk : 0 < k
    · go_wp2_with fail
      refine (rd_once W wr g a len cap 5 (by omega) (by omega) HCODE.out hl HRDX.out).mono ?_
      rintro e w1 ⟨b, rfl, hr, hm⟩
      have HR1 := (HRX.out.mv hm (by omega)).hid
      have HN1 := (HNX.out.mv hm (by omega)).hid
      have HO1 := (HOX.out.mv hm hg).hid
      have HD1 := HO1.out.is.hid
      have HRD1 : Hid _ := hr
      have HM1 := hide (HMX.out.trans hm)
      have n0 := HN1.out.cell 0
      have n1 := HN1.out.cell 1
      have n2 := HN1.out.cell 2
      simp only [List.getElem?_toArray, List.getElem?_cons_succ, List.getElem?_cons_zero] at n0 n1 n2
      clear HRX HNX HOX HRDX HMX hr hm
      cases b with
      | true =>
        go_wp2_with fail
        clear n0 n1 n2
        refine (spec_Sync (.agg #[.slice x0 l.length y0, .slice x1 s.length y1, .slice x2 q.length y2]) (dc l s q) w1 HFX.out HD1.out).mono ?_
        rintro e w2 ⟨⟨u, rfl, hO⟩, hb⟩
        obtain ⟨b0, r0, b1, r1, b2, r2, rfl⟩ := hO.shape
        have hN2 := HN1.out.next hb
        have hw1 := HR1.out.lt
        have HR2 := hide (((HR1.out.next hb).set_other (p := ⟨N, 0, none⟩) (by show N ≠ _; omega) (.slice b0 (syL (dc l s q)).length r0)).set_other (p := ⟨N, 1, none⟩) (by show N ≠ _; omega) (.slice b1 (syL (dc l s q)).length r1) |>.set_other (p := ⟨N, 2, none⟩) (by show N ≠ _; omega) (.slice b2 0 r2))
        have HN2 : Hid (BoxIs (((w2.setCell ⟨N, 0, none⟩ (.slice b0 (syL (dc l s q)).length r0)).setCell ⟨N, 1, none⟩ (.slice b1 (syL (dc l s q)).length r1)).setCell ⟨N, 2, none⟩ (.slice b2 0 r2)) N #[.slice b0 (syL (dc l s q)).length r0, .slice b1 (syL (dc l s q)).length r1, .slice b2 0 r2] 31) := ((hN2.set 0 _).set 1 _).set 2 _
        have HO2 := (made_put3 (hO.base (B' := w.heap.size) (by omega)) hN2 (.slice b0 (syL (dc l s q)).length r0) (.slice b1 (syL (dc l s q)).length r1) (.slice b2 0 r2)).hid
        have HRD2 := hide (rd_put3 (HRD1.out.mv hb) hgN (.slice b0 (syL (dc l s q)).length r0) (.slice b1 (syL (dc l s q)).length r1) (.slice b2 0 r2))
        have HM2 := hide (mv_put3 (HM1.out.trans (Mv.of_below hb)) hwN (.slice b0 (syL (dc l s q)).length r0) (.slice b1 (syL (dc l s q)).length r1) (.slice b2 0 r2))
        have HF2 := hide (syC_fit HFX.out)
        have HD2 := hide (sync_right HDX.out)
        have k0 := hN2.cell 0
        have k1 := hN2.cell 1
        have k2 := hN2.cell 2
        have kf := hN2.free
        simp only [List.getElem?_toArray, List.getElem?_cons_succ, List.getElem?_cons_zero] at k0 k1 k2
        have hsub : wrap64 (k - 1) = k - 1 := by unfold wrap64; omega
        clear hN2 hO hb HR1 HN1 HO1 HD1 HRD1 HM1 HFX HDX
        go_wp2
        exact ⟨⟨k - 1, (syL (dc l s q)), (syL (dc l s q)), [], b0, r0, b1, r1, b2, r2, by go_num, by omega, by omega, HF2, HD2, HR2, HN2, HO2, HRD2, HM2⟩, by simp [intOf]; omega⟩
      | false =>
        have RD := HRD1.out
        have MV := HM1.out
        have HR := HR1.out
        have HN := HN1.out
        have HO := HO1.out
        clear n0 n1 n2 HRD1 HM1 HR1 HN1 HO1 HD1
        go_upto_region 7 with fail
        refine wp_region_noPanic ?_
        have hb0 : Below w1.heap.size w1 w1.drew := (Below.refl _ _).drew
        have RD_0 := RD.mv hb0
        have MV_0 := MV.trans (Mv.of_below hb0)
        have HR_0 := HR.next hb0
        have HN_0 := HN.next hb0
        have HO_0 := HO.next hb0
        refine wp_region_held_drew (S := fun x => BoxIs x N #[.slice x0 l.length y0, .slice x1 s.length y1, .slice x2 q.length y2] 31) (by kernel_rfl) HN_0 (fun hSz => ?_)
        clear hSz HN HO HR MV RD
        generalize w1.drew = wq0 at hb0 RD_0 MV_0 HR_0 HN_0 HO_0 ⊢
        clear hb0
        refine wpAnyH_take (i := 0) (v := .agg #[.slice x0 l.length y0, .slice x1 s.length y1, .slice x2 q.length y2]) nat0 (by kernel_rfl) (by kernel_rfl) (by kernel_rfl) (fun _ _ _ h => False.elim h) (Or.inl ⟨by rfl, ?_⟩) HN_0 ?_
        · intro wx hSw
          have y0 := hSw.cell 0
          have y1 := hSw.cell 1
          have y2 := hSw.cell 2
          simp only [List.getElem?_toArray, List.getElem?_cons_succ, List.getElem?_cons_zero] at y0 y1 y2
          go_simp
        simp only [Act.put, List.setIfInBounds_toArray, List.set_cons_zero, List.set_cons_succ]
        refine wpAnyH_take (i := 1) (v := .pointer (some ⟨g, 0, none⟩)) nat1 (by kernel_rfl) (by kernel_rfl) (by kernel_rfl) (fun _ _ _ h => False.elim h) (Or.inl ⟨by rfl, ?_⟩) HN_0 ?_
        · intro wx hSw
          go_simp
        simp only [Act.put, List.setIfInBounds_toArray, List.set_cons_zero, List.set_cons_succ]
        refine wpAnyH_ready (rs := [2, 7]) (by kernel_rfl) (by simp) ?_
        refine AllReadyH.cons nat2 (fun K hK => ?_) (AllReadyH.cons nat7 (fun K hK => ?_) AllReadyH.nil)
        · go_simp
          go_at_call 72
          refine (rd_dop W wq0 g a len cap HCODE.out hl RD_0).mono ?_
          rintro e wq1 ⟨ok1, om1, ot1, od1, rfl, oz11, oz21, oz31, hr1, hb1⟩
          have RD_1 := hr1
          have MV_1 := MV_0.trans hb1
          have HR_1 := HR_0.mv hb1 (by omega)
          have HN_1 := HN_0.mv hb1 (by omega)
          have HO_1 := HO_0.mv hb1 hg
          refine hK.out _ _ HN_1 (fun hSz => ?_)
          clear hK K hSz HN_0 HO_0 HR_0 MV_0 RD_0 hb1
          refine wpAnyH_ready (rs := [3, 7]) (by kernel_rfl) (by simp) ?_
          refine AllReadyH.cons nat3 (fun K hK => ?_) (AllReadyH.cons nat7 (fun K hK => ?_) AllReadyH.nil)
          · go_simp
            go_at_call 18
            refine (spec_Do (.agg #[.slice x0 l.length y0, .slice x1 s.length y1, .slice x2 q.length y2]) (dc l s q) ok1 om1 ot1 od1 wq1 HFX.out (by omega) (by omega) (by omega) HO_1.is).mono ?_
            rintro e wq2 ⟨⟨u2, rfl, no2⟩, hb2⟩
            obtain ⟨b20, r20, b21, r21, b22, r22, rfl⟩ := no2.shape
            have RD_2 := RD_1.mv hb2
            have MV_2 := MV_1.trans (Mv.of_below hb2)
            have HR_2 := HR_1.next hb2
            have HN_2 := HN_1.next hb2
            have HO_2 := HO_1.next hb2
            have NO_2 := no2.base (B' := w.heap.size) (by have := HN_1.lt; omega)
            refine hK.out _ _ HN_2 (fun hSz => ?_)
            clear hK K hSz HN_1 HO_1 HR_1 MV_1 RD_1 hb2 no2
            refine wpAnyH_take (i := 4) (v := .tuple #[.agg #[.slice b20 ((doL (dc l s q) ⟨ok1, om1, ot1, od1⟩).length) r20, .slice b21 ((doS (dc l s q) ⟨ok1, om1, ot1, od1⟩).length) r21, .slice b22 ((doQ (dc l s q) ⟨ok1, om1, ot1, od1⟩).length) r22], .int .i64 ((doK (dc l s q) ⟨ok1, om1, ot1, od1⟩))]) nat4 (by kernel_rfl) (by kernel_rfl) (by kernel_rfl) (fun _ _ _ h => False.elim h) (Or.inl ⟨by rfl, ?_⟩) HN_2 ?_
            · intro wx hSw
              go_simp
            simp only [Act.put, List.setIfInBounds_toArray, List.set_cons_zero, List.set_cons_succ]
            refine wpAnyH_take (i := 5) (v := .agg #[.slice b20 ((doL (dc l s q) ⟨ok1, om1, ot1, od1⟩).length) r20, .slice b21 ((doS (dc l s q) ⟨ok1, om1, ot1, od1⟩).length) r21, .slice b22 ((doQ (dc l s q) ⟨ok1, om1, ot1, od1⟩).length) r22]) nat5 (by kernel_rfl) (by kernel_rfl) (by kernel_rfl) (fun _ _ _ h => False.elim h) (Or.inl ⟨by rfl, ?_⟩) HN_2 ?_
            · intro wx hSw
              go_simp
            simp only [Act.put, List.setIfInBounds_toArray, List.set_cons_zero, List.set_cons_succ]
            refine wpAnyH_take (i := 6) (v := .int .i64 ((doK (dc l s q) ⟨ok1, om1, ot1, od1⟩))) nat6 (by kernel_rfl) (by kernel_rfl) (by kernel_rfl) (fun _ _ _ h => False.elim h) (Or.inl ⟨by rfl, ?_⟩) HN_2 ?_
            · intro wx hSw
              go_simp
            simp only [Act.put, List.setIfInBounds_toArray, List.set_cons_zero, List.set_cons_succ]
            refine wpAnyH_ready (rs := [7]) (by kernel_rfl) (by simp) ?_
            refine AllReadyH.cons nat7 (fun K hK => ?_) AllReadyH.nil
            go_simp
            have hlt3 := HN_2.lt
            have hb3 := below_one wq2 (.cells #[.slice none 0 0, .slice none 0 0, .slice none 0 0] 31)
            have RD_3 := RD_2.mv hb3
            have MV_3 := MV_2.trans (Mv.of_below hb3)
            have HR_3 := HR_2.next hb3
            have HN_3 := HN_2.next hb3
            have HO_3 := HO_2.next hb3
            have NO_3 := NO_2.next hb3
            have NB5_3 := BoxIs.new wq2 #[.slice none 0 0, .slice none 0 0, .slice none 0 0] 31 rfl
            refine hK.out _ _ HN_3 (fun hSz => ?_)
            clear hK K hSz HN_2 HO_2 HR_2 MV_2 NO_2 RD_2
            obtain ⟨G3, hG3⟩ : ∃ G, G = wq2.heap.size := ⟨_, rfl⟩
            rw [← hG3] at NB5_3 ⊢
            generalize wq2.alloc (.cells #[.slice none 0 0, .slice none 0 0, .slice none 0 0] 31) = wq3 at hb3 RD_3 MV_3 HR_3 HN_3 HO_3 NO_3 NB5_3 ⊢
            rw [← hG3] at hlt3
            clear hG3 hb3
            refine wpAnyH_ready (rs := [8]) (by kernel_rfl) (by simp) ?_
            refine AllReadyH.cons nat8 (fun K hK => ?_) AllReadyH.nil
            have y0 := NB5_3.cell 0
            have y1 := NB5_3.cell 1
            have y2 := NB5_3.cell 2
            simp only [List.getElem?_toArray, List.getElem?_cons_succ, List.getElem?_cons_zero] at y0 y1 y2
            have yf := NB5_3.free
            go_simp
            clear yf y0 y1 y2
            have RD_4s0 := RD_3.keep (below_set (Below.refl G3 _) (Nat.le_refl _) 0 (.slice b20 ((doL (dc l s q) ⟨ok1, om1, ot1, od1⟩).length) r20)) (by omega)
            have MV_4s0 := mv_then MV_3 (below_set (Below.refl w.heap.size _) (by show _ ≤ G3; omega) 0 (.slice b20 ((doL (dc l s q) ⟨ok1, om1, ot1, od1⟩).length) r20))
            have HR_4s0 := HR_3.set_other (p := ⟨G3, 0, none⟩) (by show G3 ≠ _; omega) (.slice b20 ((doL (dc l s q) ⟨ok1, om1, ot1, od1⟩).length) r20)
            have HN_4s0 := HN_3.set_other (p := ⟨G3, 0, none⟩) (by show G3 ≠ _; omega) (.slice b20 ((doL (dc l s q) ⟨ok1, om1, ot1, od1⟩).length) r20)
            have HO_4s0 := HO_3.set NB5_3 0 (.slice b20 ((doL (dc l s q) ⟨ok1, om1, ot1, od1⟩).length) r20)
            have NO_4s0 := NO_3.set NB5_3 0 (.slice b20 ((doL (dc l s q) ⟨ok1, om1, ot1, od1⟩).length) r20)
            have NB5_4s0 := NB5_3.set 0 (.slice b20 ((doL (dc l s q) ⟨ok1, om1, ot1, od1⟩).length) r20)
            have RD_4s1 := RD_4s0.keep (below_set (Below.refl G3 _) (Nat.le_refl _) 1 (.slice b21 ((doS (dc l s q) ⟨ok1, om1, ot1, od1⟩).length) r21)) (by omega)
            have MV_4s1 := mv_then MV_4s0 (below_set (Below.refl w.heap.size _) (by show _ ≤ G3; omega) 1 (.slice b21 ((doS (dc l s q) ⟨ok1, om1, ot1, od1⟩).length) r21))
            have HR_4s1 := HR_4s0.set_other (p := ⟨G3, 1, none⟩) (by show G3 ≠ _; omega) (.slice b21 ((doS (dc l s q) ⟨ok1, om1, ot1, od1⟩).length) r21)
            have HN_4s1 := HN_4s0.set_other (p := ⟨G3, 1, none⟩) (by show G3 ≠ _; omega) (.slice b21 ((doS (dc l s q) ⟨ok1, om1, ot1, od1⟩).length) r21)
            have HO_4s1 := HO_4s0.set NB5_4s0 1 (.slice b21 ((doS (dc l s q) ⟨ok1, om1, ot1, od1⟩).length) r21)
            have NO_4s1 := NO_4s0.set NB5_4s0 1 (.slice b21 ((doS (dc l s q) ⟨ok1, om1, ot1, od1⟩).length) r21)
            have NB5_4s1 := NB5_4s0.set 1 (.slice b21 ((doS (dc l s q) ⟨ok1, om1, ot1, od1⟩).length) r21)
            have RD_4s2 := RD_4s1.keep (below_set (Below.refl G3 _) (Nat.le_refl _) 2 (.slice b22 ((doQ (dc l s q) ⟨ok1, om1, ot1, od1⟩).length) r22)) (by omega)
            have MV_4s2 := mv_then MV_4s1 (below_set (Below.refl w.heap.size _) (by show _ ≤ G3; omega) 2 (.slice b22 ((doQ (dc l s q) ⟨ok1, om1, ot1, od1⟩).length) r22))
            have HR_4s2 := HR_4s1.set_other (p := ⟨G3, 2, none⟩) (by show G3 ≠ _; omega) (.slice b22 ((doQ (dc l s q) ⟨ok1, om1, ot1, od1⟩).length) r22)
            have HN_4s2 := HN_4s1.set_other (p := ⟨G3, 2, none⟩) (by show G3 ≠ _; omega) (.slice b22 ((doQ (dc l s q) ⟨ok1, om1, ot1, od1⟩).length) r22)
            have HO_4s2 := HO_4s1.set NB5_4s1 2 (.slice b22 ((doQ (dc l s q) ⟨ok1, om1, ot1, od1⟩).length) r22)
            have NO_4s2 := NO_4s1.set NB5_4s1 2 (.slice b22 ((doQ (dc l s q) ⟨ok1, om1, ot1, od1⟩).length) r22)
            have NB5_4s2 := NB5_4s1.set 2 (.slice b22 ((doQ (dc l s q) ⟨ok1, om1, ot1, od1⟩).length) r22)
            have RD_4 := RD_4s2
            have MV_4 := MV_4s2
            have HR_4 := HR_4s2
            have HN_4 := HN_4s2
            have HO_4 := HO_4s2
            have NO_4 := NO_4s2
            have NB5_4 : BoxIs (((wq3.setCell ⟨G3, 0, none⟩ (.slice b20 ((doL (dc l s q) ⟨ok1, om1, ot1, od1⟩).length) r20)).setCell ⟨G3, 1, none⟩ (.slice b21 ((doS (dc l s q) ⟨ok1, om1, ot1, od1⟩).length) r21)).setCell ⟨G3, 2, none⟩ (.slice b22 ((doQ (dc l s q) ⟨ok1, om1, ot1, od1⟩).length) r22)) G3 #[.slice b20 ((doL (dc l s q) ⟨ok1, om1, ot1, od1⟩).length) r20, .slice b21 ((doS (dc l s q) ⟨ok1, om1, ot1, od1⟩).length) r21, .slice b22 ((doQ (dc l s q) ⟨ok1, om1, ot1, od1⟩).length) r22] 31 := NB5_4s2
            refine hK.out _ _ HN_4 (fun hSz => ?_)
            clear hK K hSz HN_3 HO_3 HR_3 MV_3 NB5_3 NO_3 RD_3 RD_4s0 RD_4s1 RD_4s2 MV_4s0 MV_4s1 MV_4s2 HR_4s0 HR_4s1 HR_4s2 HN_4s0 HN_4s1 HN_4s2 HO_4s0 HO_4s1 HO_4s2 NO_4s0 NO_4s1 NO_4s2 NB5_4s0 NB5_4s1 NB5_4s2
            generalize ((wq3.setCell ⟨G3, 0, none⟩ (.slice b20 ((doL (dc l s q) ⟨ok1, om1, ot1, od1⟩).length) r20)).setCell ⟨G3, 1, none⟩ (.slice b21 ((doS (dc l s q) ⟨ok1, om1, ot1, od1⟩).length) r21)).setCell ⟨G3, 2, none⟩ (.slice b22 ((doQ (dc l s q) ⟨ok1, om1, ot1, od1⟩).length) r22) = wq4 at RD_4 MV_4 HR_4 HN_4 HO_4 NO_4 NB5_4 ⊢
            refine wpAnyH_take (i := 9) (v := .int .i64 ((doK (dc l s q) ⟨ok1, om1, ot1, od1⟩))) nat9 (by kernel_rfl) (by kernel_rfl) (by kernel_rfl) (fun _ _ _ h => False.elim h) (Or.inl ⟨by rfl, ?_⟩) HN_4 ?_
            · intro wx hSw
              go_simp
            simp only [Act.put, List.setIfInBounds_toArray, List.set_cons_zero, List.set_cons_succ]
            refine wpAnyH_done (by kernel_rfl) ?_ _
            refine NoPanic.normal ?_
            have hsub : wrap64 (k - 1) = k - 1 := by unfold wrap64; omega
            by_cases hq : doK (dc l s q) ⟨ok1, om1, ot1, od1⟩ = 0
            · have HF2 := hide (doC_fit (c := dc l s q) (o := ⟨ok1, om1, ot1, od1⟩) HFX.out (by show ot1.size ≤ _; omega) (by show od1.size ≤ _; omega))
              have HD2 := hide (do_right hq)
              have HR2 := hide (((HR_4.set_other (p := ⟨N, 0, none⟩) (by show N ≠ _; omega) (.slice b20 ((doL (dc l s q) ⟨ok1, om1, ot1, od1⟩).length) r20)).set_other (p := ⟨N, 1, none⟩) (by show N ≠ _; omega) (.slice b21 ((doS (dc l s q) ⟨ok1, om1, ot1, od1⟩).length) r21)).set_other (p := ⟨N, 2, none⟩) (by show N ≠ _; omega) (.slice b22 ((doQ (dc l s q) ⟨ok1, om1, ot1, od1⟩).length) r22))
              have HN2 : Hid (BoxIs (((wq4.setCell ⟨N, 0, none⟩ (.slice b20 ((doL (dc l s q) ⟨ok1, om1, ot1, od1⟩).length) r20)).setCell ⟨N, 1, none⟩ (.slice b21 ((doS (dc l s q) ⟨ok1, om1, ot1, od1⟩).length) r21)).setCell ⟨N, 2, none⟩ (.slice b22 ((doQ (dc l s q) ⟨ok1, om1, ot1, od1⟩).length) r22)) N #[.slice b20 ((doL (dc l s q) ⟨ok1, om1, ot1, od1⟩).length) r20, .slice b21 ((doS (dc l s q) ⟨ok1, om1, ot1, od1⟩).length) r21, .slice b22 ((doQ (dc l s q) ⟨ok1, om1, ot1, od1⟩).length) r22] 31) := ((HN_4.set 0 _).set 1 _).set 2 _
              have HO2 := (made_put3 NO_4 HN_4 (.slice b20 ((doL (dc l s q) ⟨ok1, om1, ot1, od1⟩).length) r20) (.slice b21 ((doS (dc l s q) ⟨ok1, om1, ot1, od1⟩).length) r21) (.slice b22 ((doQ (dc l s q) ⟨ok1, om1, ot1, od1⟩).length) r22)).hid
              have HRD2 := hide (rd_put3 RD_4 hgN (.slice b20 ((doL (dc l s q) ⟨ok1, om1, ot1, od1⟩).length) r20) (.slice b21 ((doS (dc l s q) ⟨ok1, om1, ot1, od1⟩).length) r21) (.slice b22 ((doQ (dc l s q) ⟨ok1, om1, ot1, od1⟩).length) r22))
              have HM2 := hide (mv_put3 MV_4 hwN (.slice b20 ((doL (dc l s q) ⟨ok1, om1, ot1, od1⟩).length) r20) (.slice b21 ((doS (dc l s q) ⟨ok1, om1, ot1, od1⟩).length) r21) (.slice b22 ((doQ (dc l s q) ⟨ok1, om1, ot1, od1⟩).length) r22))
              have k0 := HN_4.cell 0
              have k1 := HN_4.cell 1
              have k2 := HN_4.cell 2
              have kf := HN_4.free
              have e0 := NB5_4.cell 0
              have e1 := NB5_4.cell 1
              have e2 := NB5_4.cell 2
              simp only [List.getElem?_toArray, List.getElem?_cons_succ, List.getElem?_cons_zero] at k0 k1 k2 e0 e1 e2
              clear HFX HDX HN_4 HO_4 HR_4 MV_4 NB5_4 NO_4 RD_4
              go_wp2
              exact ⟨⟨k - 1, doL (dc l s q) ⟨ok1, om1, ot1, od1⟩, doS (dc l s q) ⟨ok1, om1, ot1, od1⟩, doQ (dc l s q) ⟨ok1, om1, ot1, od1⟩, b20, r20, b21, r21, b22, r22, by go_num, by omega, by omega, HF2, HD2, HR2, HN2, HO2, HRD2, HM2⟩, by simp [intOf]; omega⟩
            · have HR2 := HR_4.hid
              have HN2 := HN_4.hid
              have HO2 := HO_4.hid
              have HRD2 : Hid _ := RD_4
              have HM2 := hide MV_4
              clear HN_4 HO_4 HR_4 MV_4 NB5_4 NO_4 RD_4
              go_wp2
              exact ⟨⟨k - 1, l, s, q, x0, y0, x1, y1, x2, y2, by go_num, by omega, by omega, HFX, HDX, HR2, HN2, HO2, HRD2, HM2⟩, by simp [intOf]; omega⟩
          · go_simp
            have hlt5 := HN_1.lt
            have hb5 := below_one wq1 (.cells #[.slice none 0 0, .slice none 0 0, .slice none 0 0] 31)
            have RD_5 := RD_1.mv hb5
            have MV_5 := MV_1.trans (Mv.of_below hb5)
            have HR_5 := HR_1.next hb5
            have HN_5 := HN_1.next hb5
            have HO_5 := HO_1.next hb5
            have NB5_5 := BoxIs.new wq1 #[.slice none 0 0, .slice none 0 0, .slice none 0 0] 31 rfl
            refine hK.out _ _ HN_5 (fun hSz => ?_)
            clear hK K hSz HN_1 HO_1 HR_1 MV_1 RD_1
            obtain ⟨G5, hG5⟩ : ∃ G, G = wq1.heap.size := ⟨_, rfl⟩
            rw [← hG5] at NB5_5 ⊢
            generalize wq1.alloc (.cells #[.slice none 0 0, .slice none 0 0, .slice none 0 0] 31) = wq5 at hb5 RD_5 MV_5 HR_5 HN_5 HO_5 NB5_5 ⊢
            rw [← hG5] at hlt5
            clear hG5 hb5
            refine wpAnyH_ready (rs := [3]) (by kernel_rfl) (by simp) ?_
            refine AllReadyH.cons nat3 (fun K hK => ?_) AllReadyH.nil
            go_simp
            go_at_call 18
            refine (spec_Do (.agg #[.slice x0 l.length y0, .slice x1 s.length y1, .slice x2 q.length y2]) (dc l s q) ok1 om1 ot1 od1 wq5 HFX.out (by omega) (by omega) (by omega) HO_5.is).mono ?_
            rintro e wq6 ⟨⟨u6, rfl, no6⟩, hb6⟩
            obtain ⟨b60, r60, b61, r61, b62, r62, rfl⟩ := no6.shape
            have RD_6 := RD_5.mv hb6
            have MV_6 := MV_5.trans (Mv.of_below hb6)
            have HR_6 := HR_5.next hb6
            have HN_6 := HN_5.next hb6
            have HO_6 := HO_5.next hb6
            have NB5_6 := NB5_5.next hb6
            have NO_6 := no6.base (B' := w.heap.size) (by have := HN_5.lt; omega)
            refine hK.out _ _ HN_6 (fun hSz => ?_)
            clear hK K hSz HN_5 HO_5 HR_5 MV_5 NB5_5 RD_5 hb6 no6
            refine wpAnyH_take (i := 4) (v := .tuple #[.agg #[.slice b60 ((doL (dc l s q) ⟨ok1, om1, ot1, od1⟩).length) r60, .slice b61 ((doS (dc l s q) ⟨ok1, om1, ot1, od1⟩).length) r61, .slice b62 ((doQ (dc l s q) ⟨ok1, om1, ot1, od1⟩).length) r62], .int .i64 ((doK (dc l s q) ⟨ok1, om1, ot1, od1⟩))]) nat4 (by kernel_rfl) (by kernel_rfl) (by kernel_rfl) (fun _ _ _ h => False.elim h) (Or.inl ⟨by rfl, ?_⟩) HN_6 ?_
            · intro wx hSw
              go_simp
            simp only [Act.put, List.setIfInBounds_toArray, List.set_cons_zero, List.set_cons_succ]
            refine wpAnyH_take (i := 5) (v := .agg #[.slice b60 ((doL (dc l s q) ⟨ok1, om1, ot1, od1⟩).length) r60, .slice b61 ((doS (dc l s q) ⟨ok1, om1, ot1, od1⟩).length) r61, .slice b62 ((doQ (dc l s q) ⟨ok1, om1, ot1, od1⟩).length) r62]) nat5 (by kernel_rfl) (by kernel_rfl) (by kernel_rfl) (fun _ _ _ h => False.elim h) (Or.inl ⟨by rfl, ?_⟩) HN_6 ?_
            · intro wx hSw
              go_simp
            simp only [Act.put, List.setIfInBounds_toArray, List.set_cons_zero, List.set_cons_succ]
            refine wpAnyH_take (i := 6) (v := .int .i64 ((doK (dc l s q) ⟨ok1, om1, ot1, od1⟩))) nat6 (by kernel_rfl) (by kernel_rfl) (by kernel_rfl) (fun _ _ _ h => False.elim h) (Or.inl ⟨by rfl, ?_⟩) HN_6 ?_
            · intro wx hSw
              go_simp
            simp only [Act.put, List.setIfInBounds_toArray, List.set_cons_zero, List.set_cons_succ]
            refine wpAnyH_ready (rs := [8]) (by kernel_rfl) (by simp) ?_
            refine AllReadyH.cons nat8 (fun K hK => ?_) AllReadyH.nil
            have y0 := NB5_6.cell 0
            have y1 := NB5_6.cell 1
            have y2 := NB5_6.cell 2
            simp only [List.getElem?_toArray, List.getElem?_cons_succ, List.getElem?_cons_zero] at y0 y1 y2
            have yf := NB5_6.free
            go_simp
            clear yf y0 y1 y2
            have RD_7s0 := RD_6.keep (below_set (Below.refl G5 _) (Nat.le_refl _) 0 (.slice b60 ((doL (dc l s q) ⟨ok1, om1, ot1, od1⟩).length) r60)) (by omega)
            have MV_7s0 := mv_then MV_6 (below_set (Below.refl w.heap.size _) (by show _ ≤ G5; omega) 0 (.slice b60 ((doL (dc l s q) ⟨ok1, om1, ot1, od1⟩).length) r60))
            have HR_7s0 := HR_6.set_other (p := ⟨G5, 0, none⟩) (by show G5 ≠ _; omega) (.slice b60 ((doL (dc l s q) ⟨ok1, om1, ot1, od1⟩).length) r60)
            have HN_7s0 := HN_6.set_other (p := ⟨G5, 0, none⟩) (by show G5 ≠ _; omega) (.slice b60 ((doL (dc l s q) ⟨ok1, om1, ot1, od1⟩).length) r60)
            have HO_7s0 := HO_6.set NB5_6 0 (.slice b60 ((doL (dc l s q) ⟨ok1, om1, ot1, od1⟩).length) r60)
            have NB5_7s0 := NB5_6.set 0 (.slice b60 ((doL (dc l s q) ⟨ok1, om1, ot1, od1⟩).length) r60)
            have NO_7s0 := NO_6.set NB5_6 0 (.slice b60 ((doL (dc l s q) ⟨ok1, om1, ot1, od1⟩).length) r60)
            have RD_7s1 := RD_7s0.keep (below_set (Below.refl G5 _) (Nat.le_refl _) 1 (.slice b61 ((doS (dc l s q) ⟨ok1, om1, ot1, od1⟩).length) r61)) (by omega)
            have MV_7s1 := mv_then MV_7s0 (below_set (Below.refl w.heap.size _) (by show _ ≤ G5; omega) 1 (.slice b61 ((doS (dc l s q) ⟨ok1, om1, ot1, od1⟩).length) r61))
            have HR_7s1 := HR_7s0.set_other (p := ⟨G5, 1, none⟩) (by show G5 ≠ _; omega) (.slice b61 ((doS (dc l s q) ⟨ok1, om1, ot1, od1⟩).length) r61)
            have HN_7s1 := HN_7s0.set_other (p := ⟨G5, 1, none⟩) (by show G5 ≠ _; omega) (.slice b61 ((doS (dc l s q) ⟨ok1, om1, ot1, od1⟩).length) r61)
            have HO_7s1 := HO_7s0.set NB5_7s0 1 (.slice b61 ((doS (dc l s q) ⟨ok1, om1, ot1, od1⟩).length) r61)
            have NB5_7s1 := NB5_7s0.set 1 (.slice b61 ((doS (dc l s q) ⟨ok1, om1, ot1, od1⟩).length) r61)
            have NO_7s1 := NO_7s0.set NB5_7s0 1 (.slice b61 ((doS (dc l s q) ⟨ok1, om1, ot1, od1⟩).length) r61)
            have RD_7s2 := RD_7s1.keep (below_set (Below.refl G5 _) (Nat.le_refl _) 2 (.slice b62 ((doQ (dc l s q) ⟨ok1, om1, ot1, od1⟩).length) r62)) (by omega)
            have MV_7s2 := mv_then MV_7s1 (below_set (Below.refl w.heap.size _) (by show _ ≤ G5; omega) 2 (.slice b62 ((doQ (dc l s q) ⟨ok1, om1, ot1, od1⟩).length) r62))
            have HR_7s2 := HR_7s1.set_other (p := ⟨G5, 2, none⟩) (by show G5 ≠ _; omega) (.slice b62 ((doQ (dc l s q) ⟨ok1, om1, ot1, od1⟩).length) r62)
            have HN_7s2 := HN_7s1.set_other (p := ⟨G5, 2, none⟩) (by show G5 ≠ _; omega) (.slice b62 ((doQ (dc l s q) ⟨ok1, om1, ot1, od1⟩).length) r62)
            have HO_7s2 := HO_7s1.set NB5_7s1 2 (.slice b62 ((doQ (dc l s q) ⟨ok1, om1, ot1, od1⟩).length) r62)
            have NB5_7s2 := NB5_7s1.set 2 (.slice b62 ((doQ (dc l s q) ⟨ok1, om1, ot1, od1⟩).length) r62)
            have NO_7s2 := NO_7s1.set NB5_7s1 2 (.slice b62 ((doQ (dc l s q) ⟨ok1, om1, ot1, od1⟩).length) r62)
            have RD_7 := RD_7s2
            have MV_7 := MV_7s2
            have HR_7 := HR_7s2
            have HN_7 := HN_7s2
            have HO_7 := HO_7s2
            have NB5_7 : BoxIs (((wq6.setCell ⟨G5, 0, none⟩ (.slice b60 ((doL (dc l s q) ⟨ok1, om1, ot1, od1⟩).length) r60)).setCell ⟨G5, 1, none⟩ (.slice b61 ((doS (dc l s q) ⟨ok1, om1, ot1, od1⟩).length) r61)).setCell ⟨G5, 2, none⟩ (.slice b62 ((doQ (dc l s q) ⟨ok1, om1, ot1, od1⟩).length) r62)) G5 #[.slice b60 ((doL (dc l s q) ⟨ok1, om1, ot1, od1⟩).length) r60, .slice b61 ((doS (dc l s q) ⟨ok1, om1, ot1, od1⟩).length) r61, .slice b62 ((doQ (dc l s q) ⟨ok1, om1, ot1, od1⟩).length) r62] 31 := NB5_7s2
            have NO_7 := NO_7s2
            refine hK.out _ _ HN_7 (fun hSz => ?_)
            clear hK K hSz HN_6 HO_6 HR_6 MV_6 NB5_6 NO_6 RD_6 RD_7s0 RD_7s1 RD_7s2 MV_7s0 MV_7s1 MV_7s2 HR_7s0 HR_7s1 HR_7s2 HN_7s0 HN_7s1 HN_7s2 HO_7s0 HO_7s1 HO_7s2 NB5_7s0 NB5_7s1 NB5_7s2 NO_7s0 NO_7s1 NO_7s2
            generalize ((wq6.setCell ⟨G5, 0, none⟩ (.slice b60 ((doL (dc l s q) ⟨ok1, om1, ot1, od1⟩).length) r60)).setCell ⟨G5, 1, none⟩ (.slice b61 ((doS (dc l s q) ⟨ok1, om1, ot1, od1⟩).length) r61)).setCell ⟨G5, 2, none⟩ (.slice b62 ((doQ (dc l s q) ⟨ok1, om1, ot1, od1⟩).length) r62) = wq7 at RD_7 MV_7 HR_7 HN_7 HO_7 NB5_7 NO_7 ⊢
            refine wpAnyH_take (i := 9) (v := .int .i64 ((doK (dc l s q) ⟨ok1, om1, ot1, od1⟩))) nat9 (by kernel_rfl) (by kernel_rfl) (by kernel_rfl) (fun _ _ _ h => False.elim h) (Or.inl ⟨by rfl, ?_⟩) HN_7 ?_
            · intro wx hSw
              go_simp
            simp only [Act.put, List.setIfInBounds_toArray, List.set_cons_zero, List.set_cons_succ]
            refine wpAnyH_done (by kernel_rfl) ?_ _
            refine NoPanic.normal ?_
            have hsub : wrap64 (k - 1) = k - 1 := by unfold wrap64; omega
            by_cases hq : doK (dc l s q) ⟨ok1, om1, ot1, od1⟩ = 0
            · have HF2 := hide (doC_fit (c := dc l s q) (o := ⟨ok1, om1, ot1, od1⟩) HFX.out (by show ot1.size ≤ _; omega) (by show od1.size ≤ _; omega))
              have HD2 := hide (do_right hq)
              have HR2 := hide (((HR_7.set_other (p := ⟨N, 0, none⟩) (by show N ≠ _; omega) (.slice b60 ((doL (dc l s q) ⟨ok1, om1, ot1, od1⟩).length) r60)).set_other (p := ⟨N, 1, none⟩) (by show N ≠ _; omega) (.slice b61 ((doS (dc l s q) ⟨ok1, om1, ot1, od1⟩).length) r61)).set_other (p := ⟨N, 2, none⟩) (by show N ≠ _; omega) (.slice b62 ((doQ (dc l s q) ⟨ok1, om1, ot1, od1⟩).length) r62))
              have HN2 : Hid (BoxIs (((wq7.setCell ⟨N, 0, none⟩ (.slice b60 ((doL (dc l s q) ⟨ok1, om1, ot1, od1⟩).length) r60)).setCell ⟨N, 1, none⟩ (.slice b61 ((doS (dc l s q) ⟨ok1, om1, ot1, od1⟩).length) r61)).setCell ⟨N, 2, none⟩ (.slice b62 ((doQ (dc l s q) ⟨ok1, om1, ot1, od1⟩).length) r62)) N #[.slice b60 ((doL (dc l s q) ⟨ok1, om1, ot1, od1⟩).length) r60, .slice b61 ((doS (dc l s q) ⟨ok1, om1, ot1, od1⟩).length) r61, .slice b62 ((doQ (dc l s q) ⟨ok1, om1, ot1, od1⟩).length) r62] 31) := ((HN_7.set 0 _).set 1 _).set 2 _
              have HO2 := (made_put3 NO_7 HN_7 (.slice b60 ((doL (dc l s q) ⟨ok1, om1, ot1, od1⟩).length) r60) (.slice b61 ((doS (dc l s q) ⟨ok1, om1, ot1, od1⟩).length) r61) (.slice b62 ((doQ (dc l s q) ⟨ok1, om1, ot1, od1⟩).length) r62)).hid
              have HRD2 := hide (rd_put3 RD_7 hgN (.slice b60 ((doL (dc l s q) ⟨ok1, om1, ot1, od1⟩).length) r60) (.slice b61 ((doS (dc l s q) ⟨ok1, om1, ot1, od1⟩).length) r61) (.slice b62 ((doQ (dc l s q) ⟨ok1, om1, ot1, od1⟩).length) r62))
              have HM2 := hide (mv_put3 MV_7 hwN (.slice b60 ((doL (dc l s q) ⟨ok1, om1, ot1, od1⟩).length) r60) (.slice b61 ((doS (dc l s q) ⟨ok1, om1, ot1, od1⟩).length) r61) (.slice b62 ((doQ (dc l s q) ⟨ok1, om1, ot1, od1⟩).length) r62))
              have k0 := HN_7.cell 0
              have k1 := HN_7.cell 1
              have k2 := HN_7.cell 2
              have kf := HN_7.free
              have e0 := NB5_7.cell 0
              have e1 := NB5_7.cell 1
              have e2 := NB5_7.cell 2
              simp only [List.getElem?_toArray, List.getElem?_cons_succ, List.getElem?_cons_zero] at k0 k1 k2 e0 e1 e2
              clear HFX HDX HN_7 HO_7 HR_7 MV_7 NB5_7 NO_7 RD_7
              go_wp2
              exact ⟨⟨k - 1, doL (dc l s q) ⟨ok1, om1, ot1, od1⟩, doS (dc l s q) ⟨ok1, om1, ot1, od1⟩, doQ (dc l s q) ⟨ok1, om1, ot1, od1⟩, b60, r60, b61, r61, b62, r62, by go_num, by omega, by omega, HF2, HD2, HR2, HN2, HO2, HRD2, HM2⟩, by simp [intOf]; omega⟩
            · have HR2 := HR_7.hid
              have HN2 := HN_7.hid
              have HO2 := HO_7.hid
              have HRD2 : Hid _ := RD_7
              have HM2 := hide MV_7
              clear HN_7 HO_7 HR_7 MV_7 NB5_7 NO_7 RD_7
              go_wp2
              exact ⟨⟨k - 1, l, s, q, x0, y0, x1, y1, x2, y2, by go_num, by omega, by omega, HFX, HDX, HR2, HN2, HO2, HRD2, HM2⟩, by simp [intOf]; omega⟩
        · go_simp
          have hlt8 := HN_0.lt
          have hb8 := below_one wq0 (.cells #[.slice none 0 0, .slice none 0 0, .slice none 0 0] 31)
          have RD_8 := RD_0.mv hb8
          have MV_8 := MV_0.trans (Mv.of_below hb8)
          have HR_8 := HR_0.next hb8
          have HN_8 := HN_0.next hb8
          have HO_8 := HO_0.next hb8
          have NB5_8 := BoxIs.new wq0 #[.slice none 0 0, .slice none 0 0, .slice none 0 0] 31 rfl
          refine hK.out _ _ HN_8 (fun hSz => ?_)
          clear hK K hSz HN_0 HO_0 HR_0 MV_0 RD_0
          obtain ⟨G8, hG8⟩ : ∃ G, G = wq0.heap.size := ⟨_, rfl⟩
          rw [← hG8] at NB5_8 ⊢
          generalize wq0.alloc (.cells #[.slice none 0 0, .slice none 0 0, .slice none 0 0] 31) = wq8 at hb8 RD_8 MV_8 HR_8 HN_8 HO_8 NB5_8 ⊢
          rw [← hG8] at hlt8
          clear hG8 hb8
          refine wpAnyH_ready (rs := [2]) (by kernel_rfl) (by simp) ?_
          refine AllReadyH.cons nat2 (fun K hK => ?_) AllReadyH.nil
          go_simp
          go_at_call 72
          refine (rd_dop W wq8 g a len cap HCODE.out hl RD_8).mono ?_
          rintro e wq9 ⟨ok9, om9, ot9, od9, rfl, oz19, oz29, oz39, hr9, hb9⟩
          have RD_9 := hr9
          have MV_9 := MV_8.trans hb9
          have HR_9 := HR_8.mv hb9 (by omega)
          have HN_9 := HN_8.mv hb9 (by omega)
          have HO_9 := HO_8.mv hb9 hg
          have NB5_9 := NB5_8.mv hb9 (by omega)
          refine hK.out _ _ HN_9 (fun hSz => ?_)
          clear hK K hSz HN_8 HO_8 HR_8 MV_8 NB5_8 RD_8 hb9
          refine wpAnyH_ready (rs := [3]) (by kernel_rfl) (by simp) ?_
          refine AllReadyH.cons nat3 (fun K hK => ?_) AllReadyH.nil
          go_simp
          go_at_call 18
          refine (spec_Do (.agg #[.slice x0 l.length y0, .slice x1 s.length y1, .slice x2 q.length y2]) (dc l s q) ok9 om9 ot9 od9 wq9 HFX.out (by omega) (by omega) (by omega) HO_9.is).mono ?_
          rintro e wq10 ⟨⟨u10, rfl, no10⟩, hb10⟩
          obtain ⟨b100, r100, b101, r101, b102, r102, rfl⟩ := no10.shape
          have RD_10 := RD_9.mv hb10
          have MV_10 := MV_9.trans (Mv.of_below hb10)
          have HR_10 := HR_9.next hb10
          have HN_10 := HN_9.next hb10
          have HO_10 := HO_9.next hb10
          have NB5_10 := NB5_9.next hb10
          have NO_10 := no10.base (B' := w.heap.size) (by have := HN_9.lt; omega)
          refine hK.out _ _ HN_10 (fun hSz => ?_)
          clear hK K hSz HN_9 HO_9 HR_9 MV_9 NB5_9 RD_9 hb10 no10
          refine wpAnyH_take (i := 4) (v := .tuple #[.agg #[.slice b100 ((doL (dc l s q) ⟨ok9, om9, ot9, od9⟩).length) r100, .slice b101 ((doS (dc l s q) ⟨ok9, om9, ot9, od9⟩).length) r101, .slice b102 ((doQ (dc l s q) ⟨ok9, om9, ot9, od9⟩).length) r102], .int .i64 ((doK (dc l s q) ⟨ok9, om9, ot9, od9⟩))]) nat4 (by kernel_rfl) (by kernel_rfl) (by kernel_rfl) (fun _ _ _ h => False.elim h) (Or.inl ⟨by rfl, ?_⟩) HN_10 ?_
          · intro wx hSw
            go_simp
          simp only [Act.put, List.setIfInBounds_toArray, List.set_cons_zero, List.set_cons_succ]
          refine wpAnyH_take (i := 5) (v := .agg #[.slice b100 ((doL (dc l s q) ⟨ok9, om9, ot9, od9⟩).length) r100, .slice b101 ((doS (dc l s q) ⟨ok9, om9, ot9, od9⟩).length) r101, .slice b102 ((doQ (dc l s q) ⟨ok9, om9, ot9, od9⟩).length) r102]) nat5 (by kernel_rfl) (by kernel_rfl) (by kernel_rfl) (fun _ _ _ h => False.elim h) (Or.inl ⟨by rfl, ?_⟩) HN_10 ?_
          · intro wx hSw
            go_simp
          simp only [Act.put, List.setIfInBounds_toArray, List.set_cons_zero, List.set_cons_succ]
          refine wpAnyH_take (i := 6) (v := .int .i64 ((doK (dc l s q) ⟨ok9, om9, ot9, od9⟩))) nat6 (by kernel_rfl) (by kernel_rfl) (by kernel_rfl) (fun _ _ _ h => False.elim h) (Or.inl ⟨by rfl, ?_⟩) HN_10 ?_
          · intro wx hSw
            go_simp
          simp only [Act.put, List.setIfInBounds_toArray, List.set_cons_zero, List.set_cons_succ]
          refine wpAnyH_ready (rs := [8]) (by kernel_rfl) (by simp) ?_
          refine AllReadyH.cons nat8 (fun K hK => ?_) AllReadyH.nil
          have y0 := NB5_10.cell 0
          have y1 := NB5_10.cell 1
          have y2 := NB5_10.cell 2
          simp only [List.getElem?_toArray, List.getElem?_cons_succ, List.getElem?_cons_zero] at y0 y1 y2
          have yf := NB5_10.free
          go_simp
          clear yf y0 y1 y2
          have RD_11s0 := RD_10.keep (below_set (Below.refl G8 _) (Nat.le_refl _) 0 (.slice b100 ((doL (dc l s q) ⟨ok9, om9, ot9, od9⟩).length) r100)) (by omega)
          have MV_11s0 := mv_then MV_10 (below_set (Below.refl w.heap.size _) (by show _ ≤ G8; omega) 0 (.slice b100 ((doL (dc l s q) ⟨ok9, om9, ot9, od9⟩).length) r100))
          have HR_11s0 := HR_10.set_other (p := ⟨G8, 0, none⟩) (by show G8 ≠ _; omega) (.slice b100 ((doL (dc l s q) ⟨ok9, om9, ot9, od9⟩).length) r100)
          have HN_11s0 := HN_10.set_other (p := ⟨G8, 0, none⟩) (by show G8 ≠ _; omega) (.slice b100 ((doL (dc l s q) ⟨ok9, om9, ot9, od9⟩).length) r100)
          have HO_11s0 := HO_10.set NB5_10 0 (.slice b100 ((doL (dc l s q) ⟨ok9, om9, ot9, od9⟩).length) r100)
          have NB5_11s0 := NB5_10.set 0 (.slice b100 ((doL (dc l s q) ⟨ok9, om9, ot9, od9⟩).length) r100)
          have NO_11s0 := NO_10.set NB5_10 0 (.slice b100 ((doL (dc l s q) ⟨ok9, om9, ot9, od9⟩).length) r100)
          have RD_11s1 := RD_11s0.keep (below_set (Below.refl G8 _) (Nat.le_refl _) 1 (.slice b101 ((doS (dc l s q) ⟨ok9, om9, ot9, od9⟩).length) r101)) (by omega)
          have MV_11s1 := mv_then MV_11s0 (below_set (Below.refl w.heap.size _) (by show _ ≤ G8; omega) 1 (.slice b101 ((doS (dc l s q) ⟨ok9, om9, ot9, od9⟩).length) r101))
          have HR_11s1 := HR_11s0.set_other (p := ⟨G8, 1, none⟩) (by show G8 ≠ _; omega) (.slice b101 ((doS (dc l s q) ⟨ok9, om9, ot9, od9⟩).length) r101)
          have HN_11s1 := HN_11s0.set_other (p := ⟨G8, 1, none⟩) (by show G8 ≠ _; omega) (.slice b101 ((doS (dc l s q) ⟨ok9, om9, ot9, od9⟩).length) r101)
          have HO_11s1 := HO_11s0.set NB5_11s0 1 (.slice b101 ((doS (dc l s q) ⟨ok9, om9, ot9, od9⟩).length) r101)
          have NB5_11s1 := NB5_11s0.set 1 (.slice b101 ((doS (dc l s q) ⟨ok9, om9, ot9, od9⟩).length) r101)
          have NO_11s1 := NO_11s0.set NB5_11s0 1 (.slice b101 ((doS (dc l s q) ⟨ok9, om9, ot9, od9⟩).length) r101)
          have RD_11s2 := RD_11s1.keep (below_set (Below.refl G8 _) (Nat.le_refl _) 2 (.slice b102 ((doQ (dc l s q) ⟨ok9, om9, ot9, od9⟩).length) r102)) (by omega)
          have MV_11s2 := mv_then MV_11s1 (below_set (Below.refl w.heap.size _) (by show _ ≤ G8; omega) 2 (.slice b102 ((doQ (dc l s q) ⟨ok9, om9, ot9, od9⟩).length) r102))
          have HR_11s2 := HR_11s1.set_other (p := ⟨G8, 2, none⟩) (by show G8 ≠ _; omega) (.slice b102 ((doQ (dc l s q) ⟨ok9, om9, ot9, od9⟩).length) r102)
          have HN_11s2 := HN_11s1.set_other (p := ⟨G8, 2, none⟩) (by show G8 ≠ _; omega) (.slice b102 ((doQ (dc l s q) ⟨ok9, om9, ot9, od9⟩).length) r102)
          have HO_11s2 := HO_11s1.set NB5_11s1 2 (.slice b102 ((doQ (dc l s q) ⟨ok9, om9, ot9, od9⟩).length) r102)
          have NB5_11s2 := NB5_11s1.set 2 (.slice b102 ((doQ (dc l s q) ⟨ok9, om9, ot9, od9⟩).length) r102)
          have NO_11s2 := NO_11s1.set NB5_11s1 2 (.slice b102 ((doQ (dc l s q) ⟨ok9, om9, ot9, od9⟩).length) r102)
          have RD_11 := RD_11s2
          have MV_11 := MV_11s2
          have HR_11 := HR_11s2
          have HN_11 := HN_11s2
          have HO_11 := HO_11s2
          have NB5_11 : BoxIs (((wq10.setCell ⟨G8, 0, none⟩ (.slice b100 ((doL (dc l s q) ⟨ok9, om9, ot9, od9⟩).length) r100)).setCell ⟨G8, 1, none⟩ (.slice b101 ((doS (dc l s q) ⟨ok9, om9, ot9, od9⟩).length) r101)).setCell ⟨G8, 2, none⟩ (.slice b102 ((doQ (dc l s q) ⟨ok9, om9, ot9, od9⟩).length) r102)) G8 #[.slice b100 ((doL (dc l s q) ⟨ok9, om9, ot9, od9⟩).length) r100, .slice b101 ((doS (dc l s q) ⟨ok9, om9, ot9, od9⟩).length) r101, .slice b102 ((doQ (dc l s q) ⟨ok9, om9, ot9, od9⟩).length) r102] 31 := NB5_11s2
          have NO_11 := NO_11s2
          refine hK.out _ _ HN_11 (fun hSz => ?_)
          clear hK K hSz HN_10 HO_10 HR_10 MV_10 NB5_10 NO_10 RD_10 RD_11s0 RD_11s1 RD_11s2 MV_11s0 MV_11s1 MV_11s2 HR_11s0 HR_11s1 HR_11s2 HN_11s0 HN_11s1 HN_11s2 HO_11s0 HO_11s1 HO_11s2 NB5_11s0 NB5_11s1 NB5_11s2 NO_11s0 NO_11s1 NO_11s2
          generalize ((wq10.setCell ⟨G8, 0, none⟩ (.slice b100 ((doL (dc l s q) ⟨ok9, om9, ot9, od9⟩).length) r100)).setCell ⟨G8, 1, none⟩ (.slice b101 ((doS (dc l s q) ⟨ok9, om9, ot9, od9⟩).length) r101)).setCell ⟨G8, 2, none⟩ (.slice b102 ((doQ (dc l s q) ⟨ok9, om9, ot9, od9⟩).length) r102) = wq11 at RD_11 MV_11 HR_11 HN_11 HO_11 NB5_11 NO_11 ⊢
          refine wpAnyH_take (i := 9) (v := .int .i64 ((doK (dc l s q) ⟨ok9, om9, ot9, od9⟩))) nat9 (by kernel_rfl) (by kernel_rfl) (by kernel_rfl) (fun _ _ _ h => False.elim h) (Or.inl ⟨by rfl, ?_⟩) HN_11 ?_
          · intro wx hSw
            go_simp
          simp only [Act.put, List.setIfInBounds_toArray, List.set_cons_zero, List.set_cons_succ]
          refine wpAnyH_done (by kernel_rfl) ?_ _
          refine NoPanic.normal ?_
          have hsub : wrap64 (k - 1) = k - 1 := by unfold wrap64; omega
          by_cases hq : doK (dc l s q) ⟨ok9, om9, ot9, od9⟩ = 0
          · have HF2 := hide (doC_fit (c := dc l s q) (o := ⟨ok9, om9, ot9, od9⟩) HFX.out (by show ot9.size ≤ _; omega) (by show od9.size ≤ _; omega))
            have HD2 := hide (do_right hq)
            have HR2 := hide (((HR_11.set_other (p := ⟨N, 0, none⟩) (by show N ≠ _; omega) (.slice b100 ((doL (dc l s q) ⟨ok9, om9, ot9, od9⟩).length) r100)).set_other (p := ⟨N, 1, none⟩) (by show N ≠ _; omega) (.slice b101 ((doS (dc l s q) ⟨ok9, om9, ot9, od9⟩).length) r101)).set_other (p := ⟨N, 2, none⟩) (by show N ≠ _; omega) (.slice b102 ((doQ (dc l s q) ⟨ok9, om9, ot9, od9⟩).length) r102))
            have HN2 : Hid (BoxIs (((wq11.setCell ⟨N, 0, none⟩ (.slice b100 ((doL (dc l s q) ⟨ok9, om9, ot9, od9⟩).length) r100)).setCell ⟨N, 1, none⟩ (.slice b101 ((doS (dc l s q) ⟨ok9, om9, ot9, od9⟩).length) r101)).setCell ⟨N, 2, none⟩ (.slice b102 ((doQ (dc l s q) ⟨ok9, om9, ot9, od9⟩).length) r102)) N #[.slice b100 ((doL (dc l s q) ⟨ok9, om9, ot9, od9⟩).length) r100, .slice b101 ((doS (dc l s q) ⟨ok9, om9, ot9, od9⟩).length) r101, .slice b102 ((doQ (dc l s q) ⟨ok9, om9, ot9, od9⟩).length) r102] 31) := ((HN_11.set 0 _).set 1 _).set 2 _
            have HO2 := (made_put3 NO_11 HN_11 (.slice b100 ((doL (dc l s q) ⟨ok9, om9, ot9, od9⟩).length) r100) (.slice b101 ((doS (dc l s q) ⟨ok9, om9, ot9, od9⟩).length) r101) (.slice b102 ((doQ (dc l s q) ⟨ok9, om9, ot9, od9⟩).length) r102)).hid
            have HRD2 := hide (rd_put3 RD_11 hgN (.slice b100 ((doL (dc l s q) ⟨ok9, om9, ot9, od9⟩).length) r100) (.slice b101 ((doS (dc l s q) ⟨ok9, om9, ot9, od9⟩).length) r101) (.slice b102 ((doQ (dc l s q) ⟨ok9, om9, ot9, od9⟩).length) r102))
            have HM2 := hide (mv_put3 MV_11 hwN (.slice b100 ((doL (dc l s q) ⟨ok9, om9, ot9, od9⟩).length) r100) (.slice b101 ((doS (dc l s q) ⟨ok9, om9, ot9, od9⟩).length) r101) (.slice b102 ((doQ (dc l s q) ⟨ok9, om9, ot9, od9⟩).length) r102))
            have k0 := HN_11.cell 0
            have k1 := HN_11.cell 1
            have k2 := HN_11.cell 2
            have kf := HN_11.free
            have e0 := NB5_11.cell 0
            have e1 := NB5_11.cell 1
            have e2 := NB5_11.cell 2
            simp only [List.getElem?_toArray, List.getElem?_cons_succ, List.getElem?_cons_zero] at k0 k1 k2 e0 e1 e2
            clear HFX HDX HN_11 HO_11 HR_11 MV_11 NB5_11 NO_11 RD_11
            go_wp2
            exact ⟨⟨k - 1, doL (dc l s q) ⟨ok9, om9, ot9, od9⟩, doS (dc l s q) ⟨ok9, om9, ot9, od9⟩, doQ (dc l s q) ⟨ok9, om9, ot9, od9⟩, b100, r100, b101, r101, b102, r102, by go_num, by omega, by omega, HF2, HD2, HR2, HN2, HO2, HRD2, HM2⟩, by simp [intOf]; omega⟩
          · have HR2 := HR_11.hid
            have HN2 := HN_11.hid
            have HO2 := HO_11.hid
            have HRD2 : Hid _ := RD_11
            have HM2 := hide MV_11
            clear HN_11 HO_11 HR_11 MV_11 NB5_11 NO_11 RD_11
            go_wp2
            exact ⟨⟨k - 1, l, s, q, x0, y0, x1, y1, x2, y2, by go_num, by omega, by omega, HFX, HDX, HR2, HN2, HO2, HRD2, HM2⟩, by simp [intOf]; omega⟩
    · have hk' : ¬ 0 < k := hk
      go_wp2_with fail
      refine (rd_below W wr g a len cap 40 (by omega) (by omega) HCODE.out hl HRDX.out).mono ?_
      rintro e w1 ⟨z, rfl, hz0, hz1, hr, hm⟩
      have hR := HRX.out.mv hm (by omega)
      have hN := HNX.out.mv hm (by omega)
      have hO := HOX.out.mv hm hg
      have hM := HMX.out.trans hm
      clear HRX HNX HOX HRDX HMX hm
      have n0 := hN.cell 0
      have n1 := hN.cell 1
      have n2 := hN.cell 2
      have t0 := hR.cell 0
      have t1 := hR.cell 1
      have t2 := hR.cell 2
      have tf := hR.free
      simp only [List.getElem?_toArray, List.getElem?_cons_succ, List.getElem?_cons_zero] at n0 n1 n2 t0 t1 t2
      have hmany := many_right HDX.out
      by_cases h0 : z = 0
      · subst h0
        have hL60 := hmany.1
        have hbM := below_one w1 (.cells #[.string ⟨#[122, 122]⟩, .string ⟨#[]⟩] 96)
        have HNB := (BoxIs.new w1 #[.string ⟨#[122, 122]⟩, .string ⟨#[]⟩] 96 rfl).hid
        have HO0 := (hO.own0.next hbM).hid
        have HOA := (hO.next hbM).hid
        have HRW := (hR.next hbM).hid
        have HNW := (hN.next hbM).hid
        have HRDW : Hid _ := hr.mv hbM
        have HMW := hide (hM.trans (Mv.of_below hbM))
        have HB0 := hide (show w.heap.size ≤ (w1.alloc (.cells #[.string ⟨#[122, 122]⟩, .string ⟨#[]⟩] 96)).heap.size from HMW.out.size)
        clear hbM hR hN hO hM hr n1 n2 t0 t1 t2 tf
        go_wp2_with (at_builtin; refine wpList_append_fileG rfl _ _ 28 rfl Try.underlying28 w.heap.size _ l [zz1] (by rfl) HO0.out ⟨w1.heap.size, 0, none⟩ 1 1 (by rfl) rfl (file_news (e := zz1) HNB.out) HB0.out (by omega) ?_)
        intro v2 w2 hO2 hg2
        have hN2 := HO0.out.grownBox HNW.out (by decide) hg2
        have hR2 := HO0.out.grownBox HRW.out (by decide) hg2
        have hbl := HO0.out.grownBelow HB0.out hg2
        have hrow := HOA.out.more hg2 hO2
        have hrd := HRDW.out.keep hbl hg
        have hm2 := mv_then HMW.out hbl
        obtain ⟨a2, p2, rfl⟩ := hO2.shape
        have hlen : (l ++ [zz1]).length = l.length + 1 := by simp
        rw [hlen] at hrow
        clear hO2 hg2 hbl HO0 HOA HRW HNW HRDW HMW HB0 HNB n0
        have HN3 : BoxIs (w2.setCell ⟨N, 0, none⟩ (.slice a2 (l.length + 1) p2)) N #[.slice a2 (l.length + 1) p2, .slice x1 s.length y1, .slice x2 q.length y2] 31 := hN2.set 0 _
        have HR3 := hR2.set_other (p := ⟨N, 0, none⟩) (by show N ≠ _; omega) (.slice a2 (l.length + 1) p2)
        have HOE := ((hrow.set hN2 0 (.slice a2 (l.length + 1) p2)).put3 HR3 (.slice a2 (l.length + 1) p2) (.slice x1 s.length y1) (.slice x2 q.length y2)).hid
        have HRE := hide (rd_put3 (hrd.keep (below_set (Below.refl N _) (Nat.le_refl _) 0 (.slice a2 (l.length + 1) p2)) hgN) hg (.slice a2 (l.length + 1) p2) (.slice x1 s.length y1) (.slice x2 q.length y2))
        have HME := hide (mv_put3 (mv_then hm2 (below_set (Below.refl w.heap.size _) hwN 0 (.slice a2 (l.length + 1) p2))) (Nat.le_refl _) (.slice a2 (l.length + 1) p2) (.slice x1 s.length y1) (.slice x2 q.length y2))
        have HFE := hide (more_fit (f := zz1) HFX.out (by omega) (by show (⟨#[122, 122]⟩ : ByteArray).size ≤ _; decide) (by show (⟨#[]⟩ : ByteArray).size ≤ _; decide))
        have k0 := hN2.cell 0
        have k1 := hN2.cell 1
        have k2 := hN2.cell 2
        have kf := hN2.free
        have t0 := hR2.cell 0
        have t1 := hR2.cell 1
        have t2 := hR2.cell 2
        have tf := hR2.free
        simp only [List.getElem?_toArray, List.getElem?_cons_succ, List.getElem?_cons_zero] at k0 k1 k2 t0 t1 t2
        clear hN2 hR2 hrow hrd hm2 HN3 HR3 HDX HFX
        go_wp2
        exact bodyPost_ret (v := .agg #[.slice a2 (l.length + 1) p2, .slice x1 s.length y1, .slice x2 q.length y2]) (by simp [results, Try.results71, go_sem, t0, t1, t2]) rfl ⟨_, _, rfl, HFE.out, HOE.out.base (by omega), HRE.out, HME.out⟩
      · by_cases h1 : z = 1
        · subst h1
          cases q with
          | nil =>
            have HOE := (made_put3 hO hR (.slice x0 l.length y0) (.slice x1 s.length y1) (.slice x2 0 y2)).hid
            have HRE := hide (rd_put3 hr hg (.slice x0 l.length y0) (.slice x1 s.length y1) (.slice x2 0 y2))
            have HME := hide (mv_put3 hM (Nat.le_refl _) (.slice x0 l.length y0) (.slice x1 s.length y1) (.slice x2 0 y2))
            simp only [List.length_nil] at n2
            clear hR hN hO hM hr HDX
            go_wp2
            exact bodyPost_ret (v := .agg #[.slice x0 l.length y0, .slice x1 s.length y1, .slice x2 0 y2]) (by simp [results, Try.results71, go_sem, t0, t1, t2]) rfl ⟨_, dc l s [], rfl, HFX.out, HOE.out.row.base (by omega), HRE.out, HME.out⟩
          | cons o q =>
            simp only [List.length_cons] at n2 hO hN hmany
            obtain ⟨hcap, hx2⟩ := hO.ops
            simp only [List.length_cons] at hcap hx2
            obtain ⟨b, rfl⟩ := hx2 (by omega)
            have hpos : (0 : Int) < ((q.length + 1 : Nat) : Int) := by omega
            have hone : (1 : Int) ≤ ((q.length + 1 : Nat) : Int) := by omega
            obtain ⟨a2, p2, hsl, hrow⟩ : ∃ a2 p2, sliced (some ⟨b, 0, none⟩) 1 (q.length + 1) y2 4 = .slice a2 q.length p2 ∧ DiskRow w1 w.heap.size (.agg #[.slice x0 l.length y0, .slice x1 s.length y1, .slice a2 q.length p2]) (dc l s q) := by
              by_cases hy : y2 = 1
              · subst hy
                have hq0 : q = [] := List.eq_nil_of_length_eq_zero (by omega)
                subst hq0
                exact ⟨some ⟨b, 0, none⟩, 0, by simp [sliced], hO.row.drop0⟩
              · exact ⟨some ⟨b, 0 + 4, none⟩, y2 - 1, by simp [sliced, hy, Addr.add_lit], hO.row.drop⟩
            have hrun : ∀ W : World, (Instr.slice 29 (.slice (some ⟨b, 0, none⟩) (q.length + 1) y2) (some (.int .i64 1)) none none).run Try.prog W = .ok (.slice a2 q.length p2) W := fun W => by
              have h1 := run_slice_l (P := Try.prog) W 29 (some ⟨b, 0, none⟩) (q.length + 1) y2 (by kernel_rfl) .i64 1 (by omega) hone
              rw [h1, ← hsl]
              rfl
            have HN3 : BoxIs (w1.setCell ⟨N, 2, none⟩ (.slice a2 q.length p2)) N #[.slice x0 l.length y0, .slice x1 s.length y1, .slice a2 q.length p2] 31 := hN.set 2 _
            have HR3 := hR.set_other (p := ⟨N, 2, none⟩) (by show N ≠ _; omega) (.slice a2 q.length p2)
            have HOE := ((hrow.set hN 2 (.slice a2 q.length p2)).put3 HR3 (.slice x0 l.length y0) (.slice x1 s.length y1) (.slice a2 q.length p2)).hid
            have HRE := hide (rd_put3 (hr.keep (below_set (Below.refl N _) (Nat.le_refl _) 2 (.slice a2 q.length p2)) hgN) hg (.slice x0 l.length y0) (.slice x1 s.length y1) (.slice a2 q.length p2))
            have HME := hide (mv_put3 (mv_then hM (below_set (Below.refl w.heap.size _) hwN 2 (.slice a2 q.length p2))) (Nat.le_refl _) (.slice x0 l.length y0) (.slice x1 s.length y1) (.slice a2 q.length p2))
            have HFE := hide (drop_fit HFX.out)
            have kf := hN.free
            clear hN hR hrow hr hM HN3 HR3 HDX HFX hsl hO
            go_wp2
            exact bodyPost_ret (v := .agg #[.slice x0 l.length y0, .slice x1 s.length y1, .slice a2 q.length p2]) (by simp [results, Try.results71, go_sem, t0, t1, t2]) rfl ⟨_, _, rfl, HFE.out, HOE.out.base (by omega), HRE.out, HME.out⟩
        · by_cases h2 : z = 2
          · subst h2
            have HRX := hR.hid
            have HNX := hN.hid
            have HRDX : Hid _ := hr
            have HMX := hide hM
            clear hR hN hO hM hr n0 n1 n2 t0 t1 t2 tf HDX HFX hmany h0 h1
            go_wp2_with fail
            refine (rd_below W w1 g a len cap 9 (by omega) (by omega) HCODE.out hl HRDX.out).mono ?_
            rintro e w2 ⟨y, rfl, hy0, hy1, hr, hm⟩
            obtain ⟨m, hmw, hm200⟩ : ∃ m : Nat, 200000 - y = (m : Int) ∧ m ≤ 200000 := ⟨(200000 - y).toNat, by omega, by omega⟩
            have hmk := mk_zeros m (by omega) w2
            have hcv := run_text_own (P := Try.prog) (w2.alloc (.cells (madeCells #[.int .u8 0] m) 5)) w2.heap.size 57 9 5 (.slice (some ⟨w2.heap.size, 0, none⟩) m m) (zerB m) (zerB_own w2 m (by omega)) Try.underlying57 Try.underlying5 Try.underlying9
            have hbA := below_one w2 (.cells (madeCells #[.int .u8 0] m) 5)
            have hsz : (w2.alloc (.cells (madeCells #[.int .u8 0] m) 5)).heap.size = w2.heap.size + 1 := by simp
            generalize w2.alloc (.cells (madeCells #[.int .u8 0] m) 5) = wA at hmk hcv hbA hsz
            have hbC := below_one wA (.cells #[.string ⟨#[98, 105, 103]⟩, .string (zerB m)] 96)
            have hX := BoxIs.new wA #[.string ⟨#[98, 105, 103]⟩, .string (zerB m)] 96 rfl
            have hN2 := ((HNX.out.mv hm (by omega)).next hbA).next hbC
            have hR2 := ((HRX.out.mv hm (by omega)).next hbA).next hbC
            have hrd := (hr.mv hbA).mv hbC
            have hm2 := (HMX.out.trans hm).trans ((Mv.of_below hbA).trans (Mv.of_below hbC))
            have hge : w.heap.size ≤ w2.heap.size := (HMX.out.trans hm).size
            rw [hsz] at hX
            have hrow := one_row (B := w.heap.size) hX (by omega)
            obtain ⟨w3, hE⟩ : ∃ w3, wA.alloc (.cells #[.string ⟨#[98, 105, 103]⟩, .string (zerB m)] 96) = w3 := ⟨_, rfl⟩
            rw [hE] at hN2 hR2 hrow hrd hm2
            obtain ⟨bb, hbb⟩ : ∃ bb, zerB m = bb := ⟨_, rfl⟩
            have hbs : bb.size ≤ 1048576 := by rw [← hbb, zerB_size]; omega
            rw [hbb] at hcv hrow hE
            have HFE := hide (one_fit (n := ⟨#[98, 105, 103]⟩) (d := bb) (by show (⟨#[98, 105, 103]⟩ : ByteArray).size ≤ _; decide) hbs)
            have k0 := hN2.cell 0
            have k1 := hN2.cell 1
            have k2 := hN2.cell 2
            have kf := hN2.free
            simp only [List.getElem?_toArray, List.getElem?_cons_succ, List.getElem?_cons_zero] at k0 k1 k2
            have HN3 : Hid (BoxIs (((w3.setCell ⟨N, 0, none⟩ (.slice (some ⟨w2.heap.size + 1, 0, none⟩) 1 1)).setCell ⟨N, 1, none⟩ (.slice none 0 0)).setCell ⟨N, 2, none⟩ (.slice none 0 0)) N #[.slice (some ⟨w2.heap.size + 1, 0, none⟩) 1 1, .slice none 0 0, .slice none 0 0] 31) := ((hN2.set 0 (.slice (some ⟨w2.heap.size + 1, 0, none⟩) 1 1)).set 1 (.slice none 0 0)).set 2 (.slice none 0 0)
            have HR3 := (((hR2.set_other (p := ⟨N, 0, none⟩) (by show N ≠ _; omega) (.slice (some ⟨w2.heap.size + 1, 0, none⟩) 1 1)).set_other (p := ⟨N, 1, none⟩) (by show N ≠ _; omega) (.slice none 0 0)).set_other (p := ⟨N, 2, none⟩) (by show N ≠ _; omega) (.slice none 0 0)).hid
            have HW3 := (hrow.put3 hN2 (.slice (some ⟨w2.heap.size + 1, 0, none⟩) 1 1) (.slice none 0 0) (.slice none 0 0)).hid
            have HRD3 := hide (rd_put3 hrd hgN (.slice (some ⟨w2.heap.size + 1, 0, none⟩) 1 1) (.slice none 0 0) (.slice none 0 0))
            have HM3 := hide (mv_put3 hm2 hwN (.slice (some ⟨w2.heap.size + 1, 0, none⟩) 1 1) (.slice none 0 0) (.slice none 0 0))
            clear hbA hbC hX hr hm HRX HNX HRDX HMX hN2 hR2 hrow hrd hm2 hbb hbs
            go_upto_region 18 with fail
            clear k0 k1 k2 kf hE hcv hmk hmw
            generalize (((w3.setCell ⟨N, 0, none⟩ (.slice (some ⟨w2.heap.size + 1, 0, none⟩) 1 1)).setCell ⟨N, 1, none⟩ (.slice none 0 0)).setCell ⟨N, 2, none⟩ (.slice none 0 0)) = w4 at HN3 HR3 HW3 HRD3 HM3 ⊢
            have hN3 := HN3.out
            have hR3 := HR3.out
            have k0 := hN3.cell 0
            have k1 := hN3.cell 1
            have k2 := hN3.cell 2
            have kf := hN3.free
            have t0 := hR3.cell 0
            have t1 := hR3.cell 1
            have t2 := hR3.cell 2
            have tf := hR3.free
            simp only [List.getElem?_toArray, List.getElem?_cons_succ, List.getElem?_cons_zero] at k0 k1 k2 t0 t1 t2
            have HOE := ((HW3.out.set hN3 1 (.slice (some ⟨w2.heap.size + 1, 0, none⟩) 1 1)).put3 (hR3.set_other (p := ⟨N, 1, none⟩) (by show N ≠ _; omega) (.slice (some ⟨w2.heap.size + 1, 0, none⟩) 1 1)) (.slice (some ⟨w2.heap.size + 1, 0, none⟩) 1 1) (.slice (some ⟨w2.heap.size + 1, 0, none⟩) 1 1) (.slice none 0 0)).hid
            have HRE := hide (rd_put3 (HRD3.out.keep (below_set (Below.refl N _) (Nat.le_refl _) 1 (.slice (some ⟨w2.heap.size + 1, 0, none⟩) 1 1)) hgN) hg (.slice (some ⟨w2.heap.size + 1, 0, none⟩) 1 1) (.slice (some ⟨w2.heap.size + 1, 0, none⟩) 1 1) (.slice none 0 0))
            have HME := hide (mv_put3 (mv_then HM3.out (below_set (Below.refl w.heap.size _) hwN 1 (.slice (some ⟨w2.heap.size + 1, 0, none⟩) 1 1))) (Nat.le_refl _) (.slice (some ⟨w2.heap.size + 1, 0, none⟩) 1 1) (.slice (some ⟨w2.heap.size + 1, 0, none⟩) 1 1) (.slice none 0 0))
            clear hN3 hR3 HN3 HR3 HW3 HRD3 HM3
            go_wp2
            exact bodyPost_ret (v := .agg #[.slice (some ⟨w2.heap.size + 1, 0, none⟩) 1 1, .slice (some ⟨w2.heap.size + 1, 0, none⟩) 1 1, .slice none 0 0]) (by simp [results, Try.results71, go_sem, t0, t1, t2]) rfl ⟨_, _, rfl, HFE.out, HOE.out.base (by omega), HRE.out, HME.out⟩
          · have HOE := (made_put3 hO hR (.slice x0 l.length y0) (.slice x1 s.length y1) (.slice x2 q.length y2)).hid
            have HRE := hide (rd_put3 hr hg (.slice x0 l.length y0) (.slice x1 s.length y1) (.slice x2 q.length y2))
            have HME := hide (mv_put3 hM (Nat.le_refl _) (.slice x0 l.length y0) (.slice x1 s.length y1) (.slice x2 q.length y2))
            clear hR hN hO hM hr HDX
            go_wp2
            exact bodyPost_ret (v := .agg #[.slice x0 l.length y0, .slice x1 s.length y1, .slice x2 q.length y2]) (by simp [results, Try.results71, go_sem, t0, t1, t2]) rfl ⟨_, dc l s q, rfl, HFX.out, HOE.out.row.base (by omega), HRE.out, HME.out⟩

end Go.Proofs.Ytejedpmkbkclhaa

/- A law's bound on its bytes, and the reader opened. (The same as in DrawB, DrawSc, under other names.) -/
namespace Go.Proofs.Ytejedpmkbkclhaa
set_option maxRecDepth 100000
open Go.RowKit

theorem laws_bigO (a : Option Addr) (len cap : Nat) (hl : len ≤ maxLen) (w : World) :
    Calls Try.prog 34 #[.slice a len cap] w fun e w' => e = .returned (.bool (decide (1048576 < len))) ∧ w = w' := by
  unfold maxLen at hl
  by_cases h : 1048576 < len
  · have h' : (1048576 : Int) < (len : Int) := by omega
    go_enter Try.func34, Try.ntmps34
    go_wp2
    go_ret
    exact ⟨congrArg (fun b => Ending.returned (.bool b)) (decide_eq_true h).symm, rfl⟩
  · have h' : ¬ ((1048576 : Int) < (len : Int)) := by omega
    go_enter Try.func34, Try.ntmps34
    go_wp2
    go_ret
    exact ⟨rfl, rfl⟩

theorem open_rdO (W : World) (a : Option Addr) (len cap : Nat) (W0 : World) (h0 : Below W0.heap.size W0 W) :
    Calls Try.prog 70 #[.slice a len cap] W fun e w' => e = .returned (.pointer (some ⟨W.heap.size, 0, none⟩)) ∧ Rd W0 w' W.heap.size a len cap ∧ Below W.heap.size W w' := by
  go_enter Try.func70, Try.ntmps70
  go_wp2
  go_ret
  refine ⟨rfl, ⟨h0.size, by simp, h0.trans ((Below.refl _ _).alloc h0.size _), ?_, ⟨0, Nat.zero_le _, ?_⟩, ?_⟩, (Below.refl _ _).alloc (Nat.le_refl _) _⟩
  · simp
  · simp
  · simp

end Go.Proofs.Ytejedpmkbkclhaa

/- A drawn disk as the laws hold it: lists; files held against each other; what DrawDiskOk draws. -/
namespace Go.Proofs.Ytejedpmkbkclhaa
set_option maxRecDepth 100000
open Go.RowKit Go.Deep

theorem FileAt.congr {w : World} {B : Nat} {a : Option Addr} {n : Nat} {O P : Files} (h : FileAt w B a n O) (e : ∀ i, i < n → O.N i = P.N i ∧ O.D i = P.D i) : FileAt w B a n P := by
  rcases h with h | ⟨b, off, ea, hB, hc⟩
  · exact .inl h
  · exact .inr ⟨b, off, ea, hB, fun i hi => by rw [← (e i hi).1, ← (e i hi).2]; exact hc i hi⟩
theorem FileAt.list {w : World} {B : Nat} {a : Option Addr} {n : Nat} {O : Files} (h : FileAt w B a n O) : FileAt w B a (filesL O n).length (fnFile (filesL O n)) := by
  rw [filesL_len]
  refine h.congr fun i hi => ?_
  have := fnFile_at (filesL O n) i (by rw [filesL_len]; exact hi)
  simp only [filesL, List.getElem_map, List.getElem_range, fileAt1, File1.mk.injEq] at this
  exact ⟨this.1.symm, this.2.symm⟩
theorem DOpAt.list {w : World} {B : Nat} {a : Option Addr} {n : Nat} {O : DOps} (h : DOpAt w B a n O) : DOpAt w B a (dOpsL O n).length (fnDOp (dOpsL O n)) := by
  rw [dOpsL_len]
  rcases h with h | ⟨b, off, ea, hB, hc⟩
  · exact .inl h
  · refine .inr ⟨b, off, ea, hB, fun i hi => ?_⟩
    have := fnDOp_at (dOpsL O n) i (by rw [dOpsL_len]; exact hi)
    simp only [dOpsL, List.getElem_map, List.getElem_range, dOpAt1, DOp1.mk.injEq] at this
    obtain ⟨e0, e1, e2, e3⟩ := this
    have f0 : (fnDOp (dOpsL O n)).K i = O.K i := e0
    have f1 : (fnDOp (dOpsL O n)).N i = O.N i := e1
    have f2 : (fnDOp (dOpsL O n)).T i = O.T i := e2
    have f3 : (fnDOp (dOpsL O n)).D i = O.D i := e3
    rw [f0, f1, f2, f3]
    exact hc i hi

/-- A disk in a box, as lists: its rows lie anywhere. -/
structure DskAt (x : World) (a0 : Option Addr) (p0 : Nat) (a1 : Option Addr) (p1 : Nat) (a2 : Option Addr) (p2 : Nat) (l s : List File1) (q : List DOp1) : Prop where
  h0 : FileAt x x.heap.size a0 l.length (fnFile l)
  h1 : FileAt x x.heap.size a1 s.length (fnFile s)
  h2 : DOpAt x x.heap.size a2 q.length (fnDOp q)
theorem DskAt.next {x y : World} {a0 a1 a2 : Option Addr} {p0 p1 p2 : Nat} {l s : List File1} {q : List DOp1} (h : DskAt x a0 p0 a1 p1 a2 p2 l s q) (b : Below x.heap.size x y) : DskAt y a0 p0 a1 p1 a2 p2 l s q := ⟨h.h0.next b, h.h1.next b, h.h2.next b⟩
theorem DskAt.is {x : World} {a0 a1 a2 : Option Addr} {p0 p1 p2 : Nat} {l s : List File1} {q : List DOp1} (h : DskAt x a0 p0 a1 p1 a2 p2 l s q) : DiskIs x (.agg #[.slice a0 l.length p0, .slice a1 s.length p1, .slice a2 q.length p2]) (dc l s q) := ⟨a0, p0, a1, p1, a2, p2, rfl, h.h0, h.h1, h.h2⟩
theorem DskAt.hid {x : World} {a0 a1 a2 : Option Addr} {p0 p1 p2 : Nat} {l s : List File1} {q : List DOp1} (h : DskAt x a0 p0 a1 p1 a2 p2 l s q) : Hid (DskAt x a0 p0 a1 p1 a2 p2 l s q) := h
theorem DiskIs.lists {x : World} {v : Value} {c : DiskC} (h : DiskIs x v c) : ∃ a0 p0 a1 p1 a2 p2, v = .agg #[.slice a0 (filesL c.r0 c.n0).length p0, .slice a1 (filesL c.r1 c.n1).length p1, .slice a2 (dOpsL c.r2 c.n2).length p2] ∧ DskAt x a0 p0 a1 p1 a2 p2 (filesL c.r0 c.n0) (filesL c.r1 c.n1) (dOpsL c.r2 c.n2) := by
  obtain ⟨a0, p0, a1, p1, a2, p2, rfl, h0, h1, h2⟩ := h
  exact ⟨a0, p0, a1, p1, a2, p2, by rw [filesL_len, filesL_len, dOpsL_len], h0.list, h1.list, h2.list⟩
theorem DskAt.made {x : World} {B : Nat} {v : Value} {l s : List File1} {q : List DOp1} (h : DiskMade x B v l s q) : ∃ a0 p0 a1 p1 a2 p2, v = .agg #[.slice a0 l.length p0, .slice a1 s.length p1, .slice a2 q.length p2] ∧ DskAt x a0 p0 a1 p1 a2 p2 l s q := by
  obtain ⟨a0, p0, a1, p1, a2, p2, e, h0, h1, h2⟩ := h.is
  exact ⟨a0, p0, a1, p1, a2, p2, e, h0, h1, h2⟩

theorem laws_sameFilesR (a b : Option Addr) (len ca cb : Nat) (O : Files) (w : World) (hl : len ≤ 1048576) (ha : FileAt w w.heap.size a len O) (hb : FileAt w w.heap.size b len O) :
    Calls Try.prog 36 #[.slice a len ca, .slice b len cb] w fun e w' => e = .returned (.bool true) ∧ Below w.heap.size w w' := by
  have HA := hide ha
  have HB := hide hb
  have HW0 := hide (Below.refl w.heap.size w)
  clear ha hb
  go_enter Try.func36, Try.ntmps36
  go_wp2
  go_loopw [5] (fun i wr => ∃ k : Nat, i = .int .i64 k ∧ k ≤ len ∧ Hid (Below w.heap.size w wr)) (fun i _ => len - (intOf i).toNat)
  case atStart => exact ⟨0, rfl, by omega, HW0⟩
  case round =>
    obtain ⟨k, rfl, hk, HW⟩ := hrel
    by_cases hlt : k < len
    · obtain ⟨g1, o1, rfl, _, c0, c1⟩ := (HA.out.below HW.out).at hlt
      obtain ⟨g2, o2, rfl, _, d0, d1⟩ := (HB.out.below HW.out).at hlt
      have hki : (k : Int) < (len : Int) := by omega
      go_wp2
      go_quiet (fail)
      go_wp2
      exact ⟨⟨k + 1, by go_num, by omega, below_drewN HW.out _⟩, by simp [intOf]; omega⟩
    · obtain rfl : k = len := by omega
      go_wp2
      go_ret
      exact ⟨rfl, HW.out⟩
/-- Files of one list twice. -/
theorem laws_sameFilesL {a b : Option Addr} {ca cb : Nat} {l m : List File1} {n k : Nat} {w : World} (hn : n = l.length) (hk : k = m.length) (h : m = l) (hl : l.length ≤ 1048576) (ha : FileAt w w.heap.size a l.length (fnFile l)) (hb : FileAt w w.heap.size b m.length (fnFile m)) :
    Calls Try.prog 36 #[.slice a n ca, .slice b k cb] w fun e w' => e = .returned (.bool true) ∧ Below w.heap.size w w' := by
  subst h
  subst hn
  subst hk
  exact laws_sameFilesR _ _ _ _ _ _ w hl ha hb

set_option linter.unusedVariables false in
set_option maxHeartbeats 2000000 in
theorem draw_DiskOk (W w : World) (a : Option Addr) (len cap : Nat) (hc : IsCode W a len) (hl : len ≤ 1048576) (hb : Below W.heap.size W w) :
    Calls Try.prog 35 #[.slice a len cap] w fun e w' => ∃ a0 p0 a1 p1 a2 p2 l s q, e = .returned (.agg #[.slice a0 (l : List File1).length p0, .slice a1 (s : List File1).length p1, .slice a2 (q : List DOp1).length p2]) ∧ (dc l s q).Fit ∧ DskAt w' a0 p0 a1 p1 a2 p2 l s q ∧ Below w.heap.size w w' := by
  go_enter Try.func35, Try.ntmps35
  go_wp2_with fail
  have hb0 : Below w.heap.size w (w.alloc (.cells #[.slice none 0 0, .slice none 0 0, .slice none 0 0] 31)) := below_one _ _
  have hR0 : BoxIs (w.alloc (.cells #[.slice none 0 0, .slice none 0 0, .slice none 0 0] 31)) w.heap.size #[.slice none 0 0, .slice none 0 0, .slice none 0 0] 31 := BoxIs.new w _ _ rfl
  generalize w.alloc (.cells #[.slice none 0 0, .slice none 0 0, .slice none 0 0] 31) = W0 at hb0 hR0 ⊢
  have hlt0 := hR0.lt
  refine (open_rdO W0 a len cap W (hb.trans (hb0.mono hb.size))).mono ?_
  rintro e w1 ⟨rfl, hr, hb1⟩
  have hlow1 := hb0.trans (hb1.mono hb0.size)
  have hR1 := hR0.next hb1
  generalize W0.heap.size = g at hr hlt0 hb1 ⊢
  clear hb hb0 hb1 hR0
  go_wp2_with fail
  refine (rd_disk W _ g a len cap hc hl hr).mono ?_
  rintro e w2 ⟨v, c, rfl, hf, ho, hr2, hm2⟩
  have hlow2 := hlow1.trans (hm2.below hlow1.size (by omega))
  have hR2 := hR1.mv hm2 (by omega)
  obtain ⟨a0, p0, a1, p1, a2, p2, rfl, hD⟩ := ho.is.lists
  have hD3 := ho.put3 hR2 (.slice a0 (filesL c.r0 c.n0).length p0) (.slice a1 (filesL c.r1 c.n1).length p1) (.slice a2 (dOpsL c.r2 c.n2).length p2)
  obtain ⟨b0, q0, b1, q1, b2, q2, e, hE⟩ := hD3.is.lists
  simp only [Value.agg.injEq, Array.mk.injEq, List.cons.injEq, and_true, Value.slice.injEq, true_and] at e
  obtain ⟨⟨rfl, rfl⟩, ⟨rfl, rfl⟩, rfl, rfl⟩ := e
  have HD := hE.hid
  have HB := hide (hlow2.trans ((below_put3 (Below.refl w.heap.size w2) (Nat.le_refl _) (.slice a0 (filesL c.r0 c.n0).length p0) (.slice a1 (filesL c.r1 c.n1).length p1) (.slice a2 (dOpsL c.r2 c.n2).length p2))))
  have HF := hide (copyC_fit hf)
  have t0 := hR2.cell 0
  have t1 := hR2.cell 1
  have t2 := hR2.cell 2
  have tf := hR2.free
  simp only [List.getElem?_toArray, List.getElem?_cons_succ, List.getElem?_cons_zero] at t0 t1 t2
  clear hE hD hD3 hlow2 hR2 hr2 hm2 ho hf hr hlow1 hR1
  generalize filesL c.r0 c.n0 = l at HD HB HF ⊢
  generalize filesL c.r1 c.n1 = s at HD HB HF ⊢
  generalize dOpsL c.r2 c.n2 = q at HD HB HF ⊢
  go_wp2
  exact bodyPost_ret (v := .agg #[.slice a0 l.length p0, .slice a1 s.length p1, .slice a2 q.length p2]) (by simp [results, Try.results35, go_sem, t0, t1, t2]) rfl ⟨a0, p0, a1, p1, a2, p2, l, s, q, rfl, HF.out, HD.out, HB.out⟩

end Go.Proofs.Ytejedpmkbkclhaa
