/- What the law on Do draws. (By gen_drawm.py.) -/
import Derived.Test.YtejedpmkbkclhaaMgDrawKOpenDrawL
import Derived.Test.YtejedpmkbkclhaaDrawP2
import Derived.Deep.DeepCutAuto
import Derived.Deep.LoopGhost
namespace Go.Proofs.Ytejedpmkbkclhaa
set_option maxRecDepth 100000
open Go.RowKit Go.Deep

theorem RowF.list {w : World} {B : Nat} {a : Option Addr} {n : Nat} {O : Files} (h : RowF w B a n O) : RowF w B a (filesL O n).length (fnFile (filesL O n)) := by
  rw [filesL_len]
  rcases h with h | ⟨b, off, cs, ea, hB, hb, hc⟩
  · exact .inl h
  · refine .inr ⟨b, off, cs, ea, hB, hb, fun i hi => ?_⟩
    have := fnFile_at (filesL O n) i (by rw [filesL_len]; exact hi)
    simp only [filesL, List.getElem_map, List.getElem_range, fileAt1, File1.mk.injEq] at this
    have e0 : (fnFile (filesL O n)).N i = O.N i := this.1
    have e1 : (fnFile (filesL O n)).D i = O.D i := this.2
    rw [e0, e1]
    exact hc i hi
theorem RowQ.list {w : World} {B : Nat} {a : Option Addr} {n : Nat} {O : DOps} (h : RowQ w B a n O) : RowQ w B a (dOpsL O n).length (fnDOp (dOpsL O n)) := by
  rw [dOpsL_len]
  rcases h with h | ⟨b, off, cs, ea, hB, hb, hc⟩
  · exact .inl h
  · refine .inr ⟨b, off, cs, ea, hB, hb, fun i hi => ?_⟩
    have := fnDOp_at (dOpsL O n) i (by rw [dOpsL_len]; exact hi)
    simp only [dOpsL, List.getElem_map, List.getElem_range, dOpAt1, DOp1.mk.injEq] at this
    obtain ⟨e0, e1, e2, e3⟩ := this
    have f0 : (fnDOp (dOpsL O n)).K i = O.K i := e0
    have f1 : (fnDOp (dOpsL O n)).N i = O.N i := e1
    have f2 : (fnDOp (dOpsL O n)).T i = O.T i := e2
    have f3 : (fnDOp (dOpsL O n)).D i = O.D i := e3
    rw [f0, f1, f2, f3]
    exact hc i hi
theorem DiskRow.lists {w : World} {B : Nat} {v : Value} {c : DiskC} (h : DiskRow w B v c) : ∃ a0 p0 a1 p1 a2 p2, v = .agg #[.slice a0 (filesL c.r0 c.n0).length p0, .slice a1 (filesL c.r1 c.n1).length p1, .slice a2 (dOpsL c.r2 c.n2).length p2] ∧ DiskRow w B v (dc (filesL c.r0 c.n0) (filesL c.r1 c.n1) (dOpsL c.r2 c.n2)) := by
  obtain ⟨a0, p0, a1, p1, a2, p2, rfl, h0, h1, h2⟩ := h
  have e : (Value.agg #[.slice a0 c.n0 p0, .slice a1 c.n1 p1, .slice a2 c.n2 p2]) = .agg #[.slice a0 (filesL c.r0 c.n0).length p0, .slice a1 (filesL c.r1 c.n1).length p1, .slice a2 (dOpsL c.r2 c.n2).length p2] := by rw [filesL_len, filesL_len, dOpsL_len]
  exact ⟨a0, p0, a1, p1, a2, p2, e, a0, p0, a1, p1, a2, p2, e, h0.list, h1.list, h2.list⟩
/-- A block below is written. -/
theorem DiskRow.low {w : World} {B F : Nat} {v : Value} {c : DiskC} (h : DiskRow w B v c) (hF : F < B) (o : Nat) (x : Value) : DiskRow (w.setCell ⟨F, o, none⟩ x) B v c := by
  obtain ⟨a0, p0, a1, p1, a2, p2, e, h0, h1, h2⟩ := h
  have f : ∀ {a n O}, RowF w B a n O → RowF (w.setCell ⟨F, o, none⟩ x) B a n O := fun h => by
    rcases h with h | ⟨b, off, cs, e, hb, k, r⟩
    · exact .inl h
    · exact .inr ⟨b, off, cs, e, hb, k.set_other (p := ⟨F, o, none⟩) (by show F ≠ b; omega) x, r⟩
  have f2 : ∀ {a n O}, RowQ w B a n O → RowQ (w.setCell ⟨F, o, none⟩ x) B a n O := fun h => by
    rcases h with h | ⟨b, off, cs, e, hb, k, r⟩
    · exact .inl h
    · exact .inr ⟨b, off, cs, e, hb, k.set_other (p := ⟨F, o, none⟩) (by show F ≠ b; omega) x, r⟩
  exact ⟨a0, p0, a1, p1, a2, p2, e, f h0, f h1, f2 h2⟩
theorem rd_set {W w : World} {g F : Nat} {a : Option Addr} {len cap : Nat} (h : Rd W w g a len cap) (hF : g < F) (j : Nat) (x : Value) : Rd W (w.setCell ⟨F, j, none⟩ x) g a len cap := h.keep (below_set (Below.refl F w) (Nat.le_refl _) j x) hF

/-- While a disk and an op are drawn. -/
structure DM (W w : World) (g : Nat) (a : Option Addr) (len cap D O : Nat) (a0 : Option Addr) (p0 : Nat) (a1 : Option Addr) (p1 : Nat) (a2 : Option Addr) (p2 : Nat) (l s : List File1) (q : List DOp1) (k : Int) (m t d : ByteArray) (x : World) : Prop where
  rd : Rd W x g a len cap
  low : Below w.heap.size w x
  bR : BoxIs x w.heap.size #[.slice none 0 0, .slice none 0 0, .slice none 0 0] 31
  bS : BoxIs x (w.heap.size + 1) #[.int .i64 0, .string ⟨#[]⟩, .string ⟨#[]⟩, .string ⟨#[]⟩] 40
  bD : BoxIs x D #[.slice a0 l.length p0, .slice a1 s.length p1, .slice a2 q.length p2] 31
  bO : BoxIs x O #[.int .i64 k, .string m, .string t, .string d] 40
  row : DiskRow x (g + 1) (.agg #[.slice a0 l.length p0, .slice a1 s.length p1, .slice a2 q.length p2]) (dc l s q)
  ord : w.heap.size + 1 < g ∧ g < D ∧ D < O
section
variable {W w : World} {g : Nat} {a : Option Addr} {len cap D O : Nat} {a0 a1 a2 : Option Addr} {p0 p1 p2 : Nat} {l s : List File1} {q : List DOp1} {k : Int} {m t d : ByteArray} {x y : World}
theorem DM.call (h : DM W w g a len cap D O a0 p0 a1 p1 a2 p2 l s q k m t d x) (r : Rd W y g a len cap) (b : Mv g x y) : DM W w g a len cap D O a0 p0 a1 p1 a2 p2 l s q k m t d y := by
  obtain ⟨o1, o2, o3⟩ := h.ord
  exact ⟨r, h.low.trans (b.below h.low.size (by omega)), h.bR.mv b (by omega), h.bS.mv b (by omega), h.bD.mv b (by omega), h.bO.mv b (by omega), h.row.mv b (by omega), h.ord⟩
theorem DM.next (h : DM W w g a len cap D O a0 p0 a1 p1 a2 p2 l s q k m t d x) (b : Below x.heap.size x y) : DM W w g a len cap D O a0 p0 a1 p1 a2 p2 l s q k m t d y :=
  ⟨h.rd.mv b, h.low.trans (b.mono h.low.size), h.bR.next b, h.bS.next b, h.bD.next b, h.bO.next b, h.row.next b, h.ord⟩
/-- Another disk lies in its box. -/
theorem DM.put (h : DM W w g a len cap D O a0 p0 a1 p1 a2 p2 l s q k m t d x) {b0 b1 b2 : Option Addr} {r0 r1 r2 : Nat} {L S : List File1} {Q : List DOp1} (ho : DiskRow x (g + 1) (.agg #[.slice b0 L.length r0, .slice b1 S.length r1, .slice b2 Q.length r2]) (dc L S Q)) :
    DM W w g a len cap D O b0 r0 b1 r1 b2 r2 L S Q k m t d (((x.setCell ⟨D, 0, none⟩ (.slice b0 L.length r0)).setCell ⟨D, 1, none⟩ (.slice b1 S.length r1)).setCell ⟨D, 2, none⟩ (.slice b2 Q.length r2)) := by
  obtain ⟨o1, o2, o3⟩ := h.ord
  have f : ∀ {F : Nat} {cs : Array Value} {ty : TypeId}, D ≠ F → BoxIs x F cs ty → BoxIs (((x.setCell ⟨D, 0, none⟩ (.slice b0 L.length r0)).setCell ⟨D, 1, none⟩ (.slice b1 S.length r1)).setCell ⟨D, 2, none⟩ (.slice b2 Q.length r2)) F cs ty := fun hF k =>
    ((k.set_other (p := ⟨D, 0, none⟩) hF _).set_other (p := ⟨D, 1, none⟩) hF _).set_other (p := ⟨D, 2, none⟩) hF _
  exact ⟨rd_put3 h.rd (by omega) _ _ _, h.low.trans (below_put3 (Below.refl w.heap.size x) (by omega) _ _ _), f (by omega) h.bR, f (by omega) h.bS, ((h.bD.set 0 _).set 1 _).set 2 _, f (by omega) h.bO, ho.put3 h.bD _ _ _, h.ord⟩
/-- Another op lies in its box. -/
theorem DM.op (h : DM W w g a len cap D O a0 p0 a1 p1 a2 p2 l s q k m t d x) {y : World} (hy : DiskRow y (g + 1) (.agg #[.slice a0 l.length p0, .slice a1 s.length p1, .slice a2 q.length p2]) (dc l s q)) (hO : y.heap.size ≤ O) (hm : Mv g y x) (j : Nat) (v : Value) {k' : Int} {m' t' d' : ByteArray} (e : (#[.int .i64 k, .string m, .string t, .string d] : Array Value).setIfInBounds j v = #[.int .i64 k', .string m', .string t', .string d']) : DM W w g a len cap D O a0 p0 a1 p1 a2 p2 l s q k' m' t' d' (x.setCell ⟨O, j, none⟩ v) := by
  obtain ⟨o1, o2, o3⟩ := h.ord
  have hb := h.bO.set j v
  rw [e] at hb
  exact ⟨rd_set h.rd (by omega) _ _, h.low.trans (below_set (Below.refl w.heap.size x) (by omega) _ _), h.bR.set_other (by show O ≠ _; omega) _, h.bS.set_other (by show O ≠ _; omega) _, h.bD.set_other (by show O ≠ _; omega) _, hb, hy.mv (mv_then hm (below_set (Below.refl y.heap.size x) hO j v)) (by omega), h.ord⟩
end

set_option linter.unusedSimpArgs false in
set_option linter.unusedVariables false in
set_option maxHeartbeats 8000000 in
theorem draw_Do (W w : World) (a : Option Addr) (len cap : Nat) (hc : IsCode W a len) (hl : len ≤ 1048576) (hb : Below W.heap.size W w) :
    Calls Try.prog 37 #[.slice a len cap] w fun e w' => ∃ a0 p0 a1 p1 a2 p2 l s q k m t d, e = .returned (.tuple #[.agg #[.slice a0 (l : List File1).length p0, .slice a1 (s : List File1).length p1, .slice a2 (q : List DOp1).length p2], .agg #[.int .i64 k, .string m, .string t, .string d]]) ∧ (dc l s q).Fit ∧ m.size ≤ 20 ∧ t.size ≤ 20 ∧ d.size ≤ 20 ∧ DskAt w' a0 p0 a1 p1 a2 p2 l s q ∧ Below w.heap.size w w' := by
  have HC := hide hc
  clear hc
  go_enter Try.func37, Try.ntmps37
  go_wp2_with fail
  have hb0 : Below w.heap.size w ((w.alloc (.cells #[.slice none 0 0, .slice none 0 0, .slice none 0 0] 31)).alloc (.cells #[.int .i64 0, .string ⟨#[]⟩, .string ⟨#[]⟩, .string ⟨#[]⟩] 40)) := (below_one _ _).trans ((below_one _ _).mono (by simp))
  have hR0 : BoxIs ((w.alloc (.cells #[.slice none 0 0, .slice none 0 0, .slice none 0 0] 31)).alloc (.cells #[.int .i64 0, .string ⟨#[]⟩, .string ⟨#[]⟩, .string ⟨#[]⟩] 40)) w.heap.size #[.slice none 0 0, .slice none 0 0, .slice none 0 0] 31 := (BoxIs.new w _ _ rfl).next (below_one _ _)
  have hS0 : BoxIs ((w.alloc (.cells #[.slice none 0 0, .slice none 0 0, .slice none 0 0] 31)).alloc (.cells #[.int .i64 0, .string ⟨#[]⟩, .string ⟨#[]⟩, .string ⟨#[]⟩] 40)) (w.heap.size + 1) #[.int .i64 0, .string ⟨#[]⟩, .string ⟨#[]⟩, .string ⟨#[]⟩] 40 := BoxIs.new _ _ _ (by simp)
  generalize (w.alloc (.cells #[.slice none 0 0, .slice none 0 0, .slice none 0 0] 31)).alloc (.cells #[.int .i64 0, .string ⟨#[]⟩, .string ⟨#[]⟩, .string ⟨#[]⟩] 40) = W0 at hb0 hR0 hS0 ⊢
  have hlt0 := hS0.lt
  refine (open_rdO W0 a len cap W (hb.trans (hb0.mono hb.size))).mono ?_
  rintro e w1 ⟨rfl, hr, hb1⟩
  have hlow1 := hb0.trans (hb1.mono hb0.size)
  have hR1 := hR0.next hb1
  have hS1 := hS0.next hb1
  generalize W0.heap.size = g at hr hlt0 hb1 ⊢
  clear hb hb0 hb1 hR0 hS0
  go_wp2_with fail
  refine (rd_disk W _ g a len cap HC.out hl hr).mono ?_
  rintro e w2 ⟨v, c, rfl, hf, ho, hr2, hm2⟩
  have hlow2 := hlow1.trans (hm2.below hlow1.size (by omega))
  have hR2 := hR1.mv hm2 (by omega)
  have hS2 := hS1.mv hm2 (by omega)
  have hgD := hr2.lt
  obtain ⟨a0, p0, a1, p1, a2, p2, rfl, hD⟩ := ho.lists
  have hF := copyC_fit hf
  generalize filesL c.r0 c.n0 = l at hD hF ⊢
  generalize filesL c.r1 c.n1 = s at hD hF ⊢
  generalize dOpsL c.r2 c.n2 = q at hD hF ⊢
  clear ho hf hr hlow1 hR1 hS1 hm2
  have hbD := below_one w2 (.cells #[.slice a0 l.length p0, .slice a1 s.length p1, .slice a2 q.length p2] 31)
  have hR3 := (hR2.next hbD).hid
  have hS3 := (hS2.next hbD).hid
  have hL3 := hide (hlow2.trans (hbD.mono hlow2.size))
  have hD3 := (hD.next hbD).hid
  have hX3 := (BoxIs.new w2 #[.slice a0 l.length p0, .slice a1 s.length p1, .slice a2 q.length p2] 31 rfl).hid
  have hr3 : Hid _ := hr2.mv hbD
  have HF := hide hF
  clear hr2 hbD hR2 hS2 hlow2 hD hF
  go_upto_region 3 with fail
  generalize w2.alloc (.cells #[.slice a0 l.length p0, .slice a1 s.length p1, .slice a2 q.length p2] 31) = W2 at hR3 hS3 hL3 hD3 hX3 hr3 ⊢
  generalize w2.heap.size = D at hX3 hgD ⊢
  go_wp2_with fail
  refine (rd_dop W W2 g a len cap HC.out hl hr3.out).mono ?_
  rintro e w3 ⟨k, m, t, d, rfl, hms, hts, hds, hr4, hm4⟩
  have hDO := (hX3.out.mv hm4 (by omega)).lt
  have hbO := below_one w3 (.cells #[.int .i64 k, .string m, .string t, .string d] 40)
  have hrow := hD3.out.mv hm4 (by omega)
  have H3 : DM W w g a len cap D w3.heap.size a0 p0 a1 p1 a2 p2 l s q k m t d (w3.alloc (.cells #[.int .i64 k, .string m, .string t, .string d] 40)) :=
    ⟨hr4.mv hbO, (hL3.out.trans (hm4.below hL3.out.size (by omega))).trans (hbO.mono (hL3.out.trans (hm4.below hL3.out.size (by omega))).size), (hR3.out.mv hm4 (by omega)).next hbO, (hS3.out.mv hm4 (by omega)).next hbO, (hX3.out.mv hm4 (by omega)).next hbO, BoxIs.new w3 #[.int .i64 k, .string m, .string t, .string d] 40 rfl, hrow.next hbO, ⟨hlt0, hgD, hDO⟩⟩
  have hy := hide (Mv.of_below (g := g) hbO)
  have HY := hrow.hid
  have HM := hide H3
  clear hR3 hS3 hL3 hD3 hX3 hr3 hr4 hm4 hbO hrow H3
  go_upto_region 4 with fail
  generalize w3.alloc (.cells #[.int .i64 k, .string m, .string t, .string d] 40) = W3 at HM hy ⊢
  obtain ⟨O, hOe⟩ : ∃ O, w3.heap.size = O := ⟨_, rfl⟩
  have hOle : w3.heap.size ≤ O := by omega
  rw [hOe] at HM hDO ⊢
  clear hOe
  go_wp2_with fail
  refine (rd_below W W3 g a len cap 20 (by omega) (by omega) HC.out hl HM.out.rd).mono ?_
  rintro e w4 ⟨z, rfl, hz0, hz1, hr, hm⟩
  have HM4 := hide (HM.out.call hr hm)
  have hy4 := hide (hy.out.trans hm)
  clear HM hy hr hm
  have HF4 := HF
  clear HF
  by_cases h0 : z = 0
  · subst h0
    go_wp2_with fail
    refine (rd_off W w4 g a len cap 1 3 (by omega) (by omega) (by omega) HC.out hl HM4.out.rd).mono ?_
    rintro e w5 ⟨y, rfl, hy0, hy1, hr, hm⟩
    have HM5 := hide (HM4.out.call hr hm)
    have hy5 := hide (hy4.out.trans hm)
    have HE := hide (HM5.out.op (k' := y) (m' := m) (t' := t) (d' := d) HY.out hOle hy5.out 0 (.int .i64 y) rfl)
    have o0 := HM5.out.bO.cell 0
    have o1 := HM5.out.bO.cell 1
    have o2 := HM5.out.bO.cell 2
    have of := HM5.out.bO.free
    simp only [List.getElem?_toArray, List.getElem?_cons_succ, List.getElem?_cons_zero] at o0 o1 o2
    have hms1 := hms
    have hts1 := hts
    have hds1 := hds
    clear HM4 hy4 hr hm HM5 hy5 HY
    obtain ⟨o1, o2, o3⟩ := HE.out.ord
    have LO := HE.out.low
    have RB := HE.out.bR
    have SB := HE.out.bS
    have DB := HE.out.bD
    have OB := HE.out.bO
    have RW := HE.out.row
    go_upto_region 18 with fail
    clear HE
    refine wp_region_noPanic ?_
    have hb0 : Below (w5.setCell ⟨O, 0, none⟩ (.int .i64 y)).heap.size (w5.setCell ⟨O, 0, none⟩ (.int .i64 y)) (w5.setCell ⟨O, 0, none⟩ (.int .i64 y)).drew := (Below.refl _ _).drew
    have LO_0 := LO.trans (hb0.mono LO.size)
    have RB_0 := RB.next hb0
    have SB_0 := SB.next hb0
    have DB_0 := DB.next hb0
    have OB_0 := OB.next hb0
    have RW_0 := RW.next hb0
    refine wp_region_held_drew (S := fun x => BoxIs x D #[.slice a0 l.length p0, .slice a1 s.length p1, .slice a2 q.length p2] 31 ∧ BoxIs x O #[.int .i64 y, .string m, .string t, .string d] 40) (by kernel_rfl) ⟨DB_0, OB_0⟩ (fun hSz => ?_)
    clear hSz DB LO OB RB RW SB
    generalize (w5.setCell ⟨O, 0, none⟩ (.int .i64 y)).drew = wq0 at hb0 LO_0 RB_0 SB_0 DB_0 OB_0 RW_0 ⊢
    clear hb0
    refine wpAnyH_take (i := 0) (v := .agg #[.slice a0 l.length p0, .slice a1 s.length p1, .slice a2 q.length p2]) nat0 (by kernel_rfl) (by kernel_rfl) (by kernel_rfl) (fun _ _ _ h => False.elim h) (Or.inl ⟨by rfl, ?_⟩) ⟨DB_0, OB_0⟩ ?_
    · intro wx hSw
      have y0 := hSw.1.cell 0
      have y1 := hSw.1.cell 1
      have y2 := hSw.1.cell 2
      simp only [List.getElem?_toArray, List.getElem?_cons_succ, List.getElem?_cons_zero] at y0 y1 y2
      go_simp
    simp only [Act.put, List.setIfInBounds_toArray, List.set_cons_zero, List.set_cons_succ]
    refine wpAnyH_take (i := 1) (v := .agg #[.int .i64 y, .string m, .string t, .string d]) nat1 (by kernel_rfl) (by kernel_rfl) (by kernel_rfl) (fun _ _ _ h => False.elim h) (Or.inl ⟨by rfl, ?_⟩) ⟨DB_0, OB_0⟩ ?_
    · intro wx hSw
      have y0 := hSw.2.cell 0
      have y1 := hSw.2.cell 1
      have y2 := hSw.2.cell 2
      have y3 := hSw.2.cell 3
      simp only [List.getElem?_toArray, List.getElem?_cons_succ, List.getElem?_cons_zero] at y0 y1 y2 y3
      go_simp
    simp only [Act.put, List.setIfInBounds_toArray, List.set_cons_zero, List.set_cons_succ]
    refine wpAnyH_ready (rs := [2]) (by kernel_rfl) (by simp) ?_
    refine AllReadyH.cons nat2 (fun K hK => ?_) AllReadyH.nil
    have y0 := RB_0.cell 0
    have y1 := RB_0.cell 1
    have y2 := RB_0.cell 2
    simp only [List.getElem?_toArray, List.getElem?_cons_succ, List.getElem?_cons_zero] at y0 y1 y2
    have yf := RB_0.free
    go_simp
    clear yf y0 y1 y2
    have LO_1s0 := below_set (F := w.heap.size) LO_0 (by omega) 0 (.slice a0 l.length p0)
    have RB_1s0 := RB_0.set 0 (.slice a0 l.length p0)
    have SB_1s0 := SB_0.set_other (p := ⟨w.heap.size, 0, none⟩) (by show w.heap.size ≠ _; omega) (.slice a0 l.length p0)
    have DB_1s0 := DB_0.set_other (p := ⟨w.heap.size, 0, none⟩) (by show w.heap.size ≠ _; omega) (.slice a0 l.length p0)
    have OB_1s0 := OB_0.set_other (p := ⟨w.heap.size, 0, none⟩) (by show w.heap.size ≠ _; omega) (.slice a0 l.length p0)
    have RW_1s0 := RW_0.low (F := w.heap.size) (by omega) 0 (.slice a0 l.length p0)
    have LO_1s1 := below_set (F := w.heap.size) LO_1s0 (by omega) 1 (.slice a1 s.length p1)
    have RB_1s1 := RB_1s0.set 1 (.slice a1 s.length p1)
    have SB_1s1 := SB_1s0.set_other (p := ⟨w.heap.size, 1, none⟩) (by show w.heap.size ≠ _; omega) (.slice a1 s.length p1)
    have DB_1s1 := DB_1s0.set_other (p := ⟨w.heap.size, 1, none⟩) (by show w.heap.size ≠ _; omega) (.slice a1 s.length p1)
    have OB_1s1 := OB_1s0.set_other (p := ⟨w.heap.size, 1, none⟩) (by show w.heap.size ≠ _; omega) (.slice a1 s.length p1)
    have RW_1s1 := RW_1s0.low (F := w.heap.size) (by omega) 1 (.slice a1 s.length p1)
    have LO_1s2 := below_set (F := w.heap.size) LO_1s1 (by omega) 2 (.slice a2 q.length p2)
    have RB_1s2 := RB_1s1.set 2 (.slice a2 q.length p2)
    have SB_1s2 := SB_1s1.set_other (p := ⟨w.heap.size, 2, none⟩) (by show w.heap.size ≠ _; omega) (.slice a2 q.length p2)
    have DB_1s2 := DB_1s1.set_other (p := ⟨w.heap.size, 2, none⟩) (by show w.heap.size ≠ _; omega) (.slice a2 q.length p2)
    have OB_1s2 := OB_1s1.set_other (p := ⟨w.heap.size, 2, none⟩) (by show w.heap.size ≠ _; omega) (.slice a2 q.length p2)
    have RW_1s2 := RW_1s1.low (F := w.heap.size) (by omega) 2 (.slice a2 q.length p2)
    have LO_1 := LO_1s2
    have RB_1 : BoxIs (((wq0.setCell ⟨w.heap.size, 0, none⟩ (.slice a0 l.length p0)).setCell ⟨w.heap.size, 1, none⟩ (.slice a1 s.length p1)).setCell ⟨w.heap.size, 2, none⟩ (.slice a2 q.length p2)) w.heap.size #[.slice a0 l.length p0, .slice a1 s.length p1, .slice a2 q.length p2] 31 := RB_1s2
    have SB_1 := SB_1s2
    have DB_1 := DB_1s2
    have OB_1 := OB_1s2
    have RW_1 := RW_1s2
    refine hK.out _ _ ⟨DB_1, OB_1⟩ (fun hSz => ?_)
    clear hK K hSz DB_0 LO_0 OB_0 RB_0 RW_0 SB_0 LO_1s0 LO_1s1 LO_1s2 RB_1s0 RB_1s1 RB_1s2 SB_1s0 SB_1s1 SB_1s2 DB_1s0 DB_1s1 DB_1s2 OB_1s0 OB_1s1 OB_1s2 RW_1s0 RW_1s1 RW_1s2
    generalize ((wq0.setCell ⟨w.heap.size, 0, none⟩ (.slice a0 l.length p0)).setCell ⟨w.heap.size, 1, none⟩ (.slice a1 s.length p1)).setCell ⟨w.heap.size, 2, none⟩ (.slice a2 q.length p2) = wq1 at LO_1 RB_1 SB_1 DB_1 OB_1 RW_1 ⊢
    refine wpAnyH_ready (rs := [3]) (by kernel_rfl) (by simp) ?_
    refine AllReadyH.cons nat3 (fun K hK => ?_) AllReadyH.nil
    have y0 := SB_1.cell 0
    have y1 := SB_1.cell 1
    have y2 := SB_1.cell 2
    have y3 := SB_1.cell 3
    simp only [List.getElem?_toArray, List.getElem?_cons_succ, List.getElem?_cons_zero] at y0 y1 y2 y3
    have yf := SB_1.free
    go_simp
    clear yf y0 y1 y2 y3
    have LO_2s0 := below_set (F := (w.heap.size + 1)) LO_1 (by omega) 0 (.int .i64 y)
    have RB_2s0 := RB_1.set_other (p := ⟨(w.heap.size + 1), 0, none⟩) (by show (w.heap.size + 1) ≠ _; omega) (.int .i64 y)
    have SB_2s0 := SB_1.set 0 (.int .i64 y)
    have DB_2s0 := DB_1.set_other (p := ⟨(w.heap.size + 1), 0, none⟩) (by show (w.heap.size + 1) ≠ _; omega) (.int .i64 y)
    have OB_2s0 := OB_1.set_other (p := ⟨(w.heap.size + 1), 0, none⟩) (by show (w.heap.size + 1) ≠ _; omega) (.int .i64 y)
    have RW_2s0 := RW_1.low (F := (w.heap.size + 1)) (by omega) 0 (.int .i64 y)
    have LO_2s1 := below_set (F := (w.heap.size + 1)) LO_2s0 (by omega) 1 (.string m)
    have RB_2s1 := RB_2s0.set_other (p := ⟨(w.heap.size + 1), 1, none⟩) (by show (w.heap.size + 1) ≠ _; omega) (.string m)
    have SB_2s1 := SB_2s0.set 1 (.string m)
    have DB_2s1 := DB_2s0.set_other (p := ⟨(w.heap.size + 1), 1, none⟩) (by show (w.heap.size + 1) ≠ _; omega) (.string m)
    have OB_2s1 := OB_2s0.set_other (p := ⟨(w.heap.size + 1), 1, none⟩) (by show (w.heap.size + 1) ≠ _; omega) (.string m)
    have RW_2s1 := RW_2s0.low (F := (w.heap.size + 1)) (by omega) 1 (.string m)
    have LO_2s2 := below_set (F := (w.heap.size + 1)) LO_2s1 (by omega) 2 (.string t)
    have RB_2s2 := RB_2s1.set_other (p := ⟨(w.heap.size + 1), 2, none⟩) (by show (w.heap.size + 1) ≠ _; omega) (.string t)
    have SB_2s2 := SB_2s1.set 2 (.string t)
    have DB_2s2 := DB_2s1.set_other (p := ⟨(w.heap.size + 1), 2, none⟩) (by show (w.heap.size + 1) ≠ _; omega) (.string t)
    have OB_2s2 := OB_2s1.set_other (p := ⟨(w.heap.size + 1), 2, none⟩) (by show (w.heap.size + 1) ≠ _; omega) (.string t)
    have RW_2s2 := RW_2s1.low (F := (w.heap.size + 1)) (by omega) 2 (.string t)
    have LO_2s3 := below_set (F := (w.heap.size + 1)) LO_2s2 (by omega) 3 (.string d)
    have RB_2s3 := RB_2s2.set_other (p := ⟨(w.heap.size + 1), 3, none⟩) (by show (w.heap.size + 1) ≠ _; omega) (.string d)
    have SB_2s3 := SB_2s2.set 3 (.string d)
    have DB_2s3 := DB_2s2.set_other (p := ⟨(w.heap.size + 1), 3, none⟩) (by show (w.heap.size + 1) ≠ _; omega) (.string d)
    have OB_2s3 := OB_2s2.set_other (p := ⟨(w.heap.size + 1), 3, none⟩) (by show (w.heap.size + 1) ≠ _; omega) (.string d)
    have RW_2s3 := RW_2s2.low (F := (w.heap.size + 1)) (by omega) 3 (.string d)
    have LO_2 := LO_2s3
    have RB_2 := RB_2s3
    have SB_2 : BoxIs ((((wq1.setCell ⟨(w.heap.size + 1), 0, none⟩ (.int .i64 y)).setCell ⟨(w.heap.size + 1), 1, none⟩ (.string m)).setCell ⟨(w.heap.size + 1), 2, none⟩ (.string t)).setCell ⟨(w.heap.size + 1), 3, none⟩ (.string d)) (w.heap.size + 1) #[.int .i64 y, .string m, .string t, .string d] 40 := SB_2s3
    have DB_2 := DB_2s3
    have OB_2 := OB_2s3
    have RW_2 := RW_2s3
    refine hK.out _ _ ⟨DB_2, OB_2⟩ (fun hSz => ?_)
    clear hK K hSz DB_1 LO_1 OB_1 RB_1 RW_1 SB_1 LO_2s0 LO_2s1 LO_2s2 LO_2s3 RB_2s0 RB_2s1 RB_2s2 RB_2s3 SB_2s0 SB_2s1 SB_2s2 SB_2s3 DB_2s0 DB_2s1 DB_2s2 DB_2s3 OB_2s0 OB_2s1 OB_2s2 OB_2s3 RW_2s0 RW_2s1 RW_2s2 RW_2s3
    generalize (((wq1.setCell ⟨(w.heap.size + 1), 0, none⟩ (.int .i64 y)).setCell ⟨(w.heap.size + 1), 1, none⟩ (.string m)).setCell ⟨(w.heap.size + 1), 2, none⟩ (.string t)).setCell ⟨(w.heap.size + 1), 3, none⟩ (.string d) = wq2 at LO_2 RB_2 SB_2 DB_2 OB_2 RW_2 ⊢
    refine wpAnyH_done (by kernel_rfl) ?_ _
    refine NoPanic.normal ?_
    have r0 := RB_2.cell 0
    have r1 := RB_2.cell 1
    have r2 := RB_2.cell 2
    have s0 := SB_2.cell 0
    have s1 := SB_2.cell 1
    have s2 := SB_2.cell 2
    have s3 := SB_2.cell 3
    simp only [List.getElem?_toArray, List.getElem?_cons_succ, List.getElem?_cons_zero] at r0 r1 r2 s0 s1 s2 s3
    obtain ⟨_, _, _, _, _, _, e, hZ⟩ := RW_2.is.lists
    rw [dc_live, dc_safe, dc_ops] at e hZ
    simp only [Value.agg.injEq, Array.mk.injEq, List.cons.injEq, and_true, Value.slice.injEq, true_and] at e
    obtain ⟨⟨rfl, rfl⟩, ⟨rfl, rfl⟩, rfl, rfl⟩ := e
    have hL := LO_2
    clear DB_2 LO_2 OB_2 RB_2 RW_2 SB_2
    go_wp2
    exact bodyPost_ret (v := .tuple #[.agg #[.slice a0 l.length p0, .slice a1 s.length p1, .slice a2 q.length p2], .agg #[.int .i64 y, .string m, .string t, .string d]]) (by simp [results, Try.results37, go_sem, r0, r1, r2, s0, s1, s2, s3]) rfl ⟨a0, p0, a1, p1, a2, p2, l, s, q, y, m, t, d, rfl, HF4.out, hms1, hts1, hds1, hZ, hL⟩
  · by_cases h1 : z = 1
    · subst h1
      have HE := hide (HM4.out.op (k' := k) (m' := ⟨#[]⟩) (t' := t) (d' := d) HY.out hOle hy4.out 1 (.string ⟨#[]⟩) rfl)
      have o0 := HM4.out.bO.cell 0
      have o1 := HM4.out.bO.cell 1
      have o2 := HM4.out.bO.cell 2
      have of := HM4.out.bO.free
      simp only [List.getElem?_toArray, List.getElem?_cons_succ, List.getElem?_cons_zero] at o0 o1 o2
      have hms1 : (⟨#[]⟩ : ByteArray).size ≤ 20 := by decide
      have hts1 : (t : ByteArray).size ≤ 20 := hts
      have hds1 := hds
      clear HM4 hy4 HY
      obtain ⟨o1, o2, o3⟩ := HE.out.ord
      have LO := HE.out.low
      have RB := HE.out.bR
      have SB := HE.out.bS
      have DB := HE.out.bD
      have OB := HE.out.bO
      have RW := HE.out.row
      go_upto_region 18 with fail
      clear HE
      refine wp_region_noPanic ?_
      have hb0 : Below (w4.setCell ⟨O, 1, none⟩ (.string ⟨#[]⟩)).heap.size (w4.setCell ⟨O, 1, none⟩ (.string ⟨#[]⟩)) (w4.setCell ⟨O, 1, none⟩ (.string ⟨#[]⟩)).drew := (Below.refl _ _).drew
      have LO_0 := LO.trans (hb0.mono LO.size)
      have RB_0 := RB.next hb0
      have SB_0 := SB.next hb0
      have DB_0 := DB.next hb0
      have OB_0 := OB.next hb0
      have RW_0 := RW.next hb0
      refine wp_region_held_drew (S := fun x => BoxIs x D #[.slice a0 l.length p0, .slice a1 s.length p1, .slice a2 q.length p2] 31 ∧ BoxIs x O #[.int .i64 k, .string ⟨#[]⟩, .string t, .string d] 40) (by kernel_rfl) ⟨DB_0, OB_0⟩ (fun hSz => ?_)
      clear hSz DB LO OB RB RW SB
      generalize (w4.setCell ⟨O, 1, none⟩ (.string ⟨#[]⟩)).drew = wq0 at hb0 LO_0 RB_0 SB_0 DB_0 OB_0 RW_0 ⊢
      clear hb0
      refine wpAnyH_take (i := 0) (v := .agg #[.slice a0 l.length p0, .slice a1 s.length p1, .slice a2 q.length p2]) nat0 (by kernel_rfl) (by kernel_rfl) (by kernel_rfl) (fun _ _ _ h => False.elim h) (Or.inl ⟨by rfl, ?_⟩) ⟨DB_0, OB_0⟩ ?_
      · intro wx hSw
        have y0 := hSw.1.cell 0
        have y1 := hSw.1.cell 1
        have y2 := hSw.1.cell 2
        simp only [List.getElem?_toArray, List.getElem?_cons_succ, List.getElem?_cons_zero] at y0 y1 y2
        go_simp
      simp only [Act.put, List.setIfInBounds_toArray, List.set_cons_zero, List.set_cons_succ]
      refine wpAnyH_take (i := 1) (v := .agg #[.int .i64 k, .string ⟨#[]⟩, .string t, .string d]) nat1 (by kernel_rfl) (by kernel_rfl) (by kernel_rfl) (fun _ _ _ h => False.elim h) (Or.inl ⟨by rfl, ?_⟩) ⟨DB_0, OB_0⟩ ?_
      · intro wx hSw
        have y0 := hSw.2.cell 0
        have y1 := hSw.2.cell 1
        have y2 := hSw.2.cell 2
        have y3 := hSw.2.cell 3
        simp only [List.getElem?_toArray, List.getElem?_cons_succ, List.getElem?_cons_zero] at y0 y1 y2 y3
        go_simp
      simp only [Act.put, List.setIfInBounds_toArray, List.set_cons_zero, List.set_cons_succ]
      refine wpAnyH_ready (rs := [2]) (by kernel_rfl) (by simp) ?_
      refine AllReadyH.cons nat2 (fun K hK => ?_) AllReadyH.nil
      have y0 := RB_0.cell 0
      have y1 := RB_0.cell 1
      have y2 := RB_0.cell 2
      simp only [List.getElem?_toArray, List.getElem?_cons_succ, List.getElem?_cons_zero] at y0 y1 y2
      have yf := RB_0.free
      go_simp
      clear yf y0 y1 y2
      have LO_1s0 := below_set (F := w.heap.size) LO_0 (by omega) 0 (.slice a0 l.length p0)
      have RB_1s0 := RB_0.set 0 (.slice a0 l.length p0)
      have SB_1s0 := SB_0.set_other (p := ⟨w.heap.size, 0, none⟩) (by show w.heap.size ≠ _; omega) (.slice a0 l.length p0)
      have DB_1s0 := DB_0.set_other (p := ⟨w.heap.size, 0, none⟩) (by show w.heap.size ≠ _; omega) (.slice a0 l.length p0)
      have OB_1s0 := OB_0.set_other (p := ⟨w.heap.size, 0, none⟩) (by show w.heap.size ≠ _; omega) (.slice a0 l.length p0)
      have RW_1s0 := RW_0.low (F := w.heap.size) (by omega) 0 (.slice a0 l.length p0)
      have LO_1s1 := below_set (F := w.heap.size) LO_1s0 (by omega) 1 (.slice a1 s.length p1)
      have RB_1s1 := RB_1s0.set 1 (.slice a1 s.length p1)
      have SB_1s1 := SB_1s0.set_other (p := ⟨w.heap.size, 1, none⟩) (by show w.heap.size ≠ _; omega) (.slice a1 s.length p1)
      have DB_1s1 := DB_1s0.set_other (p := ⟨w.heap.size, 1, none⟩) (by show w.heap.size ≠ _; omega) (.slice a1 s.length p1)
      have OB_1s1 := OB_1s0.set_other (p := ⟨w.heap.size, 1, none⟩) (by show w.heap.size ≠ _; omega) (.slice a1 s.length p1)
      have RW_1s1 := RW_1s0.low (F := w.heap.size) (by omega) 1 (.slice a1 s.length p1)
      have LO_1s2 := below_set (F := w.heap.size) LO_1s1 (by omega) 2 (.slice a2 q.length p2)
      have RB_1s2 := RB_1s1.set 2 (.slice a2 q.length p2)
      have SB_1s2 := SB_1s1.set_other (p := ⟨w.heap.size, 2, none⟩) (by show w.heap.size ≠ _; omega) (.slice a2 q.length p2)
      have DB_1s2 := DB_1s1.set_other (p := ⟨w.heap.size, 2, none⟩) (by show w.heap.size ≠ _; omega) (.slice a2 q.length p2)
      have OB_1s2 := OB_1s1.set_other (p := ⟨w.heap.size, 2, none⟩) (by show w.heap.size ≠ _; omega) (.slice a2 q.length p2)
      have RW_1s2 := RW_1s1.low (F := w.heap.size) (by omega) 2 (.slice a2 q.length p2)
      have LO_1 := LO_1s2
      have RB_1 : BoxIs (((wq0.setCell ⟨w.heap.size, 0, none⟩ (.slice a0 l.length p0)).setCell ⟨w.heap.size, 1, none⟩ (.slice a1 s.length p1)).setCell ⟨w.heap.size, 2, none⟩ (.slice a2 q.length p2)) w.heap.size #[.slice a0 l.length p0, .slice a1 s.length p1, .slice a2 q.length p2] 31 := RB_1s2
      have SB_1 := SB_1s2
      have DB_1 := DB_1s2
      have OB_1 := OB_1s2
      have RW_1 := RW_1s2
      refine hK.out _ _ ⟨DB_1, OB_1⟩ (fun hSz => ?_)
      clear hK K hSz DB_0 LO_0 OB_0 RB_0 RW_0 SB_0 LO_1s0 LO_1s1 LO_1s2 RB_1s0 RB_1s1 RB_1s2 SB_1s0 SB_1s1 SB_1s2 DB_1s0 DB_1s1 DB_1s2 OB_1s0 OB_1s1 OB_1s2 RW_1s0 RW_1s1 RW_1s2
      generalize ((wq0.setCell ⟨w.heap.size, 0, none⟩ (.slice a0 l.length p0)).setCell ⟨w.heap.size, 1, none⟩ (.slice a1 s.length p1)).setCell ⟨w.heap.size, 2, none⟩ (.slice a2 q.length p2) = wq1 at LO_1 RB_1 SB_1 DB_1 OB_1 RW_1 ⊢
      refine wpAnyH_ready (rs := [3]) (by kernel_rfl) (by simp) ?_
      refine AllReadyH.cons nat3 (fun K hK => ?_) AllReadyH.nil
      have y0 := SB_1.cell 0
      have y1 := SB_1.cell 1
      have y2 := SB_1.cell 2
      have y3 := SB_1.cell 3
      simp only [List.getElem?_toArray, List.getElem?_cons_succ, List.getElem?_cons_zero] at y0 y1 y2 y3
      have yf := SB_1.free
      go_simp
      clear yf y0 y1 y2 y3
      have LO_2s0 := below_set (F := (w.heap.size + 1)) LO_1 (by omega) 0 (.int .i64 k)
      have RB_2s0 := RB_1.set_other (p := ⟨(w.heap.size + 1), 0, none⟩) (by show (w.heap.size + 1) ≠ _; omega) (.int .i64 k)
      have SB_2s0 := SB_1.set 0 (.int .i64 k)
      have DB_2s0 := DB_1.set_other (p := ⟨(w.heap.size + 1), 0, none⟩) (by show (w.heap.size + 1) ≠ _; omega) (.int .i64 k)
      have OB_2s0 := OB_1.set_other (p := ⟨(w.heap.size + 1), 0, none⟩) (by show (w.heap.size + 1) ≠ _; omega) (.int .i64 k)
      have RW_2s0 := RW_1.low (F := (w.heap.size + 1)) (by omega) 0 (.int .i64 k)
      have LO_2s1 := below_set (F := (w.heap.size + 1)) LO_2s0 (by omega) 1 (.string ⟨#[]⟩)
      have RB_2s1 := RB_2s0.set_other (p := ⟨(w.heap.size + 1), 1, none⟩) (by show (w.heap.size + 1) ≠ _; omega) (.string ⟨#[]⟩)
      have SB_2s1 := SB_2s0.set 1 (.string ⟨#[]⟩)
      have DB_2s1 := DB_2s0.set_other (p := ⟨(w.heap.size + 1), 1, none⟩) (by show (w.heap.size + 1) ≠ _; omega) (.string ⟨#[]⟩)
      have OB_2s1 := OB_2s0.set_other (p := ⟨(w.heap.size + 1), 1, none⟩) (by show (w.heap.size + 1) ≠ _; omega) (.string ⟨#[]⟩)
      have RW_2s1 := RW_2s0.low (F := (w.heap.size + 1)) (by omega) 1 (.string ⟨#[]⟩)
      have LO_2s2 := below_set (F := (w.heap.size + 1)) LO_2s1 (by omega) 2 (.string t)
      have RB_2s2 := RB_2s1.set_other (p := ⟨(w.heap.size + 1), 2, none⟩) (by show (w.heap.size + 1) ≠ _; omega) (.string t)
      have SB_2s2 := SB_2s1.set 2 (.string t)
      have DB_2s2 := DB_2s1.set_other (p := ⟨(w.heap.size + 1), 2, none⟩) (by show (w.heap.size + 1) ≠ _; omega) (.string t)
      have OB_2s2 := OB_2s1.set_other (p := ⟨(w.heap.size + 1), 2, none⟩) (by show (w.heap.size + 1) ≠ _; omega) (.string t)
      have RW_2s2 := RW_2s1.low (F := (w.heap.size + 1)) (by omega) 2 (.string t)
      have LO_2s3 := below_set (F := (w.heap.size + 1)) LO_2s2 (by omega) 3 (.string d)
      have RB_2s3 := RB_2s2.set_other (p := ⟨(w.heap.size + 1), 3, none⟩) (by show (w.heap.size + 1) ≠ _; omega) (.string d)
      have SB_2s3 := SB_2s2.set 3 (.string d)
      have DB_2s3 := DB_2s2.set_other (p := ⟨(w.heap.size + 1), 3, none⟩) (by show (w.heap.size + 1) ≠ _; omega) (.string d)
      have OB_2s3 := OB_2s2.set_other (p := ⟨(w.heap.size + 1), 3, none⟩) (by show (w.heap.size + 1) ≠ _; omega) (.string d)
      have RW_2s3 := RW_2s2.low (F := (w.heap.size + 1)) (by omega) 3 (.string d)
      have LO_2 := LO_2s3
      have RB_2 := RB_2s3
      have SB_2 : BoxIs ((((wq1.setCell ⟨(w.heap.size + 1), 0, none⟩ (.int .i64 k)).setCell ⟨(w.heap.size + 1), 1, none⟩ (.string ⟨#[]⟩)).setCell ⟨(w.heap.size + 1), 2, none⟩ (.string t)).setCell ⟨(w.heap.size + 1), 3, none⟩ (.string d)) (w.heap.size + 1) #[.int .i64 k, .string ⟨#[]⟩, .string t, .string d] 40 := SB_2s3
      have DB_2 := DB_2s3
      have OB_2 := OB_2s3
      have RW_2 := RW_2s3
      refine hK.out _ _ ⟨DB_2, OB_2⟩ (fun hSz => ?_)
      clear hK K hSz DB_1 LO_1 OB_1 RB_1 RW_1 SB_1 LO_2s0 LO_2s1 LO_2s2 LO_2s3 RB_2s0 RB_2s1 RB_2s2 RB_2s3 SB_2s0 SB_2s1 SB_2s2 SB_2s3 DB_2s0 DB_2s1 DB_2s2 DB_2s3 OB_2s0 OB_2s1 OB_2s2 OB_2s3 RW_2s0 RW_2s1 RW_2s2 RW_2s3
      generalize (((wq1.setCell ⟨(w.heap.size + 1), 0, none⟩ (.int .i64 k)).setCell ⟨(w.heap.size + 1), 1, none⟩ (.string ⟨#[]⟩)).setCell ⟨(w.heap.size + 1), 2, none⟩ (.string t)).setCell ⟨(w.heap.size + 1), 3, none⟩ (.string d) = wq2 at LO_2 RB_2 SB_2 DB_2 OB_2 RW_2 ⊢
      refine wpAnyH_done (by kernel_rfl) ?_ _
      refine NoPanic.normal ?_
      have r0 := RB_2.cell 0
      have r1 := RB_2.cell 1
      have r2 := RB_2.cell 2
      have s0 := SB_2.cell 0
      have s1 := SB_2.cell 1
      have s2 := SB_2.cell 2
      have s3 := SB_2.cell 3
      simp only [List.getElem?_toArray, List.getElem?_cons_succ, List.getElem?_cons_zero] at r0 r1 r2 s0 s1 s2 s3
      obtain ⟨_, _, _, _, _, _, e, hZ⟩ := RW_2.is.lists
      rw [dc_live, dc_safe, dc_ops] at e hZ
      simp only [Value.agg.injEq, Array.mk.injEq, List.cons.injEq, and_true, Value.slice.injEq, true_and] at e
      obtain ⟨⟨rfl, rfl⟩, ⟨rfl, rfl⟩, rfl, rfl⟩ := e
      have hL := LO_2
      clear DB_2 LO_2 OB_2 RB_2 RW_2 SB_2
      go_wp2
      exact bodyPost_ret (v := .tuple #[.agg #[.slice a0 l.length p0, .slice a1 s.length p1, .slice a2 q.length p2], .agg #[.int .i64 k, .string ⟨#[]⟩, .string t, .string d]]) (by simp [results, Try.results37, go_sem, r0, r1, r2, s0, s1, s2, s3]) rfl ⟨a0, p0, a1, p1, a2, p2, l, s, q, k, ⟨#[]⟩, t, d, rfl, HF4.out, hms1, hts1, hds1, hZ, hL⟩
    · by_cases h2 : z = 2
      · subst h2
        have HE := hide (HM4.out.op (k' := k) (m' := m) (t' := ⟨#[120]⟩) (d' := d) HY.out hOle hy4.out 2 (.string ⟨#[120]⟩) rfl)
        have o0 := HM4.out.bO.cell 0
        have o1 := HM4.out.bO.cell 1
        have o2 := HM4.out.bO.cell 2
        have of := HM4.out.bO.free
        simp only [List.getElem?_toArray, List.getElem?_cons_succ, List.getElem?_cons_zero] at o0 o1 o2
        have hms1 : (m : ByteArray).size ≤ 20 := hms
        have hts1 : (⟨#[120]⟩ : ByteArray).size ≤ 20 := by decide
        have hds1 := hds
        clear HM4 hy4 HY
        obtain ⟨o1, o2, o3⟩ := HE.out.ord
        have LO := HE.out.low
        have RB := HE.out.bR
        have SB := HE.out.bS
        have DB := HE.out.bD
        have OB := HE.out.bO
        have RW := HE.out.row
        go_upto_region 18 with fail
        clear HE
        refine wp_region_noPanic ?_
        have hb0 : Below (w4.setCell ⟨O, 2, none⟩ (.string ⟨#[120]⟩)).heap.size (w4.setCell ⟨O, 2, none⟩ (.string ⟨#[120]⟩)) (w4.setCell ⟨O, 2, none⟩ (.string ⟨#[120]⟩)).drew := (Below.refl _ _).drew
        have LO_0 := LO.trans (hb0.mono LO.size)
        have RB_0 := RB.next hb0
        have SB_0 := SB.next hb0
        have DB_0 := DB.next hb0
        have OB_0 := OB.next hb0
        have RW_0 := RW.next hb0
        refine wp_region_held_drew (S := fun x => BoxIs x D #[.slice a0 l.length p0, .slice a1 s.length p1, .slice a2 q.length p2] 31 ∧ BoxIs x O #[.int .i64 k, .string m, .string ⟨#[120]⟩, .string d] 40) (by kernel_rfl) ⟨DB_0, OB_0⟩ (fun hSz => ?_)
        clear hSz DB LO OB RB RW SB
        generalize (w4.setCell ⟨O, 2, none⟩ (.string ⟨#[120]⟩)).drew = wq0 at hb0 LO_0 RB_0 SB_0 DB_0 OB_0 RW_0 ⊢
        clear hb0
        refine wpAnyH_take (i := 0) (v := .agg #[.slice a0 l.length p0, .slice a1 s.length p1, .slice a2 q.length p2]) nat0 (by kernel_rfl) (by kernel_rfl) (by kernel_rfl) (fun _ _ _ h => False.elim h) (Or.inl ⟨by rfl, ?_⟩) ⟨DB_0, OB_0⟩ ?_
        · intro wx hSw
          have y0 := hSw.1.cell 0
          have y1 := hSw.1.cell 1
          have y2 := hSw.1.cell 2
          simp only [List.getElem?_toArray, List.getElem?_cons_succ, List.getElem?_cons_zero] at y0 y1 y2
          go_simp
        simp only [Act.put, List.setIfInBounds_toArray, List.set_cons_zero, List.set_cons_succ]
        refine wpAnyH_take (i := 1) (v := .agg #[.int .i64 k, .string m, .string ⟨#[120]⟩, .string d]) nat1 (by kernel_rfl) (by kernel_rfl) (by kernel_rfl) (fun _ _ _ h => False.elim h) (Or.inl ⟨by rfl, ?_⟩) ⟨DB_0, OB_0⟩ ?_
        · intro wx hSw
          have y0 := hSw.2.cell 0
          have y1 := hSw.2.cell 1
          have y2 := hSw.2.cell 2
          have y3 := hSw.2.cell 3
          simp only [List.getElem?_toArray, List.getElem?_cons_succ, List.getElem?_cons_zero] at y0 y1 y2 y3
          go_simp
        simp only [Act.put, List.setIfInBounds_toArray, List.set_cons_zero, List.set_cons_succ]
        refine wpAnyH_ready (rs := [2]) (by kernel_rfl) (by simp) ?_
        refine AllReadyH.cons nat2 (fun K hK => ?_) AllReadyH.nil
        have y0 := RB_0.cell 0
        have y1 := RB_0.cell 1
        have y2 := RB_0.cell 2
        simp only [List.getElem?_toArray, List.getElem?_cons_succ, List.getElem?_cons_zero] at y0 y1 y2
        have yf := RB_0.free
        go_simp
        clear yf y0 y1 y2
        have LO_1s0 := below_set (F := w.heap.size) LO_0 (by omega) 0 (.slice a0 l.length p0)
        have RB_1s0 := RB_0.set 0 (.slice a0 l.length p0)
        have SB_1s0 := SB_0.set_other (p := ⟨w.heap.size, 0, none⟩) (by show w.heap.size ≠ _; omega) (.slice a0 l.length p0)
        have DB_1s0 := DB_0.set_other (p := ⟨w.heap.size, 0, none⟩) (by show w.heap.size ≠ _; omega) (.slice a0 l.length p0)
        have OB_1s0 := OB_0.set_other (p := ⟨w.heap.size, 0, none⟩) (by show w.heap.size ≠ _; omega) (.slice a0 l.length p0)
        have RW_1s0 := RW_0.low (F := w.heap.size) (by omega) 0 (.slice a0 l.length p0)
        have LO_1s1 := below_set (F := w.heap.size) LO_1s0 (by omega) 1 (.slice a1 s.length p1)
        have RB_1s1 := RB_1s0.set 1 (.slice a1 s.length p1)
        have SB_1s1 := SB_1s0.set_other (p := ⟨w.heap.size, 1, none⟩) (by show w.heap.size ≠ _; omega) (.slice a1 s.length p1)
        have DB_1s1 := DB_1s0.set_other (p := ⟨w.heap.size, 1, none⟩) (by show w.heap.size ≠ _; omega) (.slice a1 s.length p1)
        have OB_1s1 := OB_1s0.set_other (p := ⟨w.heap.size, 1, none⟩) (by show w.heap.size ≠ _; omega) (.slice a1 s.length p1)
        have RW_1s1 := RW_1s0.low (F := w.heap.size) (by omega) 1 (.slice a1 s.length p1)
        have LO_1s2 := below_set (F := w.heap.size) LO_1s1 (by omega) 2 (.slice a2 q.length p2)
        have RB_1s2 := RB_1s1.set 2 (.slice a2 q.length p2)
        have SB_1s2 := SB_1s1.set_other (p := ⟨w.heap.size, 2, none⟩) (by show w.heap.size ≠ _; omega) (.slice a2 q.length p2)
        have DB_1s2 := DB_1s1.set_other (p := ⟨w.heap.size, 2, none⟩) (by show w.heap.size ≠ _; omega) (.slice a2 q.length p2)
        have OB_1s2 := OB_1s1.set_other (p := ⟨w.heap.size, 2, none⟩) (by show w.heap.size ≠ _; omega) (.slice a2 q.length p2)
        have RW_1s2 := RW_1s1.low (F := w.heap.size) (by omega) 2 (.slice a2 q.length p2)
        have LO_1 := LO_1s2
        have RB_1 : BoxIs (((wq0.setCell ⟨w.heap.size, 0, none⟩ (.slice a0 l.length p0)).setCell ⟨w.heap.size, 1, none⟩ (.slice a1 s.length p1)).setCell ⟨w.heap.size, 2, none⟩ (.slice a2 q.length p2)) w.heap.size #[.slice a0 l.length p0, .slice a1 s.length p1, .slice a2 q.length p2] 31 := RB_1s2
        have SB_1 := SB_1s2
        have DB_1 := DB_1s2
        have OB_1 := OB_1s2
        have RW_1 := RW_1s2
        refine hK.out _ _ ⟨DB_1, OB_1⟩ (fun hSz => ?_)
        clear hK K hSz DB_0 LO_0 OB_0 RB_0 RW_0 SB_0 LO_1s0 LO_1s1 LO_1s2 RB_1s0 RB_1s1 RB_1s2 SB_1s0 SB_1s1 SB_1s2 DB_1s0 DB_1s1 DB_1s2 OB_1s0 OB_1s1 OB_1s2 RW_1s0 RW_1s1 RW_1s2
        generalize ((wq0.setCell ⟨w.heap.size, 0, none⟩ (.slice a0 l.length p0)).setCell ⟨w.heap.size, 1, none⟩ (.slice a1 s.length p1)).setCell ⟨w.heap.size, 2, none⟩ (.slice a2 q.length p2) = wq1 at LO_1 RB_1 SB_1 DB_1 OB_1 RW_1 ⊢
        refine wpAnyH_ready (rs := [3]) (by kernel_rfl) (by simp) ?_
        refine AllReadyH.cons nat3 (fun K hK => ?_) AllReadyH.nil
        have y0 := SB_1.cell 0
        have y1 := SB_1.cell 1
        have y2 := SB_1.cell 2
        have y3 := SB_1.cell 3
        simp only [List.getElem?_toArray, List.getElem?_cons_succ, List.getElem?_cons_zero] at y0 y1 y2 y3
        have yf := SB_1.free
        go_simp
        clear yf y0 y1 y2 y3
        have LO_2s0 := below_set (F := (w.heap.size + 1)) LO_1 (by omega) 0 (.int .i64 k)
        have RB_2s0 := RB_1.set_other (p := ⟨(w.heap.size + 1), 0, none⟩) (by show (w.heap.size + 1) ≠ _; omega) (.int .i64 k)
        have SB_2s0 := SB_1.set 0 (.int .i64 k)
        have DB_2s0 := DB_1.set_other (p := ⟨(w.heap.size + 1), 0, none⟩) (by show (w.heap.size + 1) ≠ _; omega) (.int .i64 k)
        have OB_2s0 := OB_1.set_other (p := ⟨(w.heap.size + 1), 0, none⟩) (by show (w.heap.size + 1) ≠ _; omega) (.int .i64 k)
        have RW_2s0 := RW_1.low (F := (w.heap.size + 1)) (by omega) 0 (.int .i64 k)
        have LO_2s1 := below_set (F := (w.heap.size + 1)) LO_2s0 (by omega) 1 (.string m)
        have RB_2s1 := RB_2s0.set_other (p := ⟨(w.heap.size + 1), 1, none⟩) (by show (w.heap.size + 1) ≠ _; omega) (.string m)
        have SB_2s1 := SB_2s0.set 1 (.string m)
        have DB_2s1 := DB_2s0.set_other (p := ⟨(w.heap.size + 1), 1, none⟩) (by show (w.heap.size + 1) ≠ _; omega) (.string m)
        have OB_2s1 := OB_2s0.set_other (p := ⟨(w.heap.size + 1), 1, none⟩) (by show (w.heap.size + 1) ≠ _; omega) (.string m)
        have RW_2s1 := RW_2s0.low (F := (w.heap.size + 1)) (by omega) 1 (.string m)
        have LO_2s2 := below_set (F := (w.heap.size + 1)) LO_2s1 (by omega) 2 (.string ⟨#[120]⟩)
        have RB_2s2 := RB_2s1.set_other (p := ⟨(w.heap.size + 1), 2, none⟩) (by show (w.heap.size + 1) ≠ _; omega) (.string ⟨#[120]⟩)
        have SB_2s2 := SB_2s1.set 2 (.string ⟨#[120]⟩)
        have DB_2s2 := DB_2s1.set_other (p := ⟨(w.heap.size + 1), 2, none⟩) (by show (w.heap.size + 1) ≠ _; omega) (.string ⟨#[120]⟩)
        have OB_2s2 := OB_2s1.set_other (p := ⟨(w.heap.size + 1), 2, none⟩) (by show (w.heap.size + 1) ≠ _; omega) (.string ⟨#[120]⟩)
        have RW_2s2 := RW_2s1.low (F := (w.heap.size + 1)) (by omega) 2 (.string ⟨#[120]⟩)
        have LO_2s3 := below_set (F := (w.heap.size + 1)) LO_2s2 (by omega) 3 (.string d)
        have RB_2s3 := RB_2s2.set_other (p := ⟨(w.heap.size + 1), 3, none⟩) (by show (w.heap.size + 1) ≠ _; omega) (.string d)
        have SB_2s3 := SB_2s2.set 3 (.string d)
        have DB_2s3 := DB_2s2.set_other (p := ⟨(w.heap.size + 1), 3, none⟩) (by show (w.heap.size + 1) ≠ _; omega) (.string d)
        have OB_2s3 := OB_2s2.set_other (p := ⟨(w.heap.size + 1), 3, none⟩) (by show (w.heap.size + 1) ≠ _; omega) (.string d)
        have RW_2s3 := RW_2s2.low (F := (w.heap.size + 1)) (by omega) 3 (.string d)
        have LO_2 := LO_2s3
        have RB_2 := RB_2s3
        have SB_2 : BoxIs ((((wq1.setCell ⟨(w.heap.size + 1), 0, none⟩ (.int .i64 k)).setCell ⟨(w.heap.size + 1), 1, none⟩ (.string m)).setCell ⟨(w.heap.size + 1), 2, none⟩ (.string ⟨#[120]⟩)).setCell ⟨(w.heap.size + 1), 3, none⟩ (.string d)) (w.heap.size + 1) #[.int .i64 k, .string m, .string ⟨#[120]⟩, .string d] 40 := SB_2s3
        have DB_2 := DB_2s3
        have OB_2 := OB_2s3
        have RW_2 := RW_2s3
        refine hK.out _ _ ⟨DB_2, OB_2⟩ (fun hSz => ?_)
        clear hK K hSz DB_1 LO_1 OB_1 RB_1 RW_1 SB_1 LO_2s0 LO_2s1 LO_2s2 LO_2s3 RB_2s0 RB_2s1 RB_2s2 RB_2s3 SB_2s0 SB_2s1 SB_2s2 SB_2s3 DB_2s0 DB_2s1 DB_2s2 DB_2s3 OB_2s0 OB_2s1 OB_2s2 OB_2s3 RW_2s0 RW_2s1 RW_2s2 RW_2s3
        generalize (((wq1.setCell ⟨(w.heap.size + 1), 0, none⟩ (.int .i64 k)).setCell ⟨(w.heap.size + 1), 1, none⟩ (.string m)).setCell ⟨(w.heap.size + 1), 2, none⟩ (.string ⟨#[120]⟩)).setCell ⟨(w.heap.size + 1), 3, none⟩ (.string d) = wq2 at LO_2 RB_2 SB_2 DB_2 OB_2 RW_2 ⊢
        refine wpAnyH_done (by kernel_rfl) ?_ _
        refine NoPanic.normal ?_
        have r0 := RB_2.cell 0
        have r1 := RB_2.cell 1
        have r2 := RB_2.cell 2
        have s0 := SB_2.cell 0
        have s1 := SB_2.cell 1
        have s2 := SB_2.cell 2
        have s3 := SB_2.cell 3
        simp only [List.getElem?_toArray, List.getElem?_cons_succ, List.getElem?_cons_zero] at r0 r1 r2 s0 s1 s2 s3
        obtain ⟨_, _, _, _, _, _, e, hZ⟩ := RW_2.is.lists
        rw [dc_live, dc_safe, dc_ops] at e hZ
        simp only [Value.agg.injEq, Array.mk.injEq, List.cons.injEq, and_true, Value.slice.injEq, true_and] at e
        obtain ⟨⟨rfl, rfl⟩, ⟨rfl, rfl⟩, rfl, rfl⟩ := e
        have hL := LO_2
        clear DB_2 LO_2 OB_2 RB_2 RW_2 SB_2
        go_wp2
        exact bodyPost_ret (v := .tuple #[.agg #[.slice a0 l.length p0, .slice a1 s.length p1, .slice a2 q.length p2], .agg #[.int .i64 k, .string m, .string ⟨#[120]⟩, .string d]]) (by simp [results, Try.results37, go_sem, r0, r1, r2, s0, s1, s2, s3]) rfl ⟨a0, p0, a1, p1, a2, p2, l, s, q, k, m, ⟨#[120]⟩, d, rfl, HF4.out, hms1, hts1, hds1, hZ, hL⟩
      · by_cases h3 : z = 3
        · subst h3
          have hms1 := hms
          have hts1 := hts
          have hds1 := hds
          clear hy4 HY hms hts hds
          go_wp2
          go_loopw [7] (fun i wr => ∃ (n : Nat) (a0 : Option Addr) (p0 : Nat) (a1 : Option Addr) (p1 : Nat) (a2 : Option Addr) (p2 : Nat) (l s : List File1) (q : List DOp1), i = .int .i64 (n : Int) ∧ n ≤ 200 ∧ Hid (dc l s q).Fit ∧ Hid (DM W w g a len cap D O a0 p0 a1 p1 a2 p2 l s q k m t d wr)) (fun i _ => 200 - (intOf i).toNat)
          case atStart => exact ⟨0, a0, p0, a1, p1, a2, p2, l, s, q, rfl, by omega, HF4, HM4⟩
          case round =>
            clear HM4 HF4
            obtain ⟨n, a0, p0, a1, p1, a2, p2, l, s, q, rfl, hn, HF4, HM⟩ := hrel
            by_cases hi : n < 200
            · have hni : (n : Int) < 200 := by omega
              go_upto_region 13 with fail
              go_cut [41] (fun t41 wx => ∃ b : Bool, t41 = .bool b ∧ Hid (DM W w g a len cap D O a0 p0 a1 p1 a2 p2 l s q k m t d wx))
              case first =>
                have H0 := HM.out
                clear HM
                refine wp_region_noPanic ?_
                have hb0 : Below wr.heap.size wr wr.drew := (Below.refl _ _).drew
                have H_0 := H0.next hb0
                refine wp_region_held_drew (S := fun x => BoxIs x D #[.slice a0 l.length p0, .slice a1 s.length p1, .slice a2 q.length p2] 31) (by kernel_rfl) H_0.bD (fun hSz => ?_)
                clear hSz H0
                generalize wr.drew = wq0 at hb0 H_0 ⊢
                clear hb0
                refine wpAnyH_take (i := 0) (v := .int .i64 ((n : Int))) nat0 (by kernel_rfl) (by kernel_rfl) (by kernel_rfl) (fun _ _ _ h => False.elim h) (Or.inl ⟨by rfl, ?_⟩) H_0.bD ?_
                · intro wx hSw
                  go_simp
                simp only [Act.put, List.setIfInBounds_toArray, List.set_cons_zero, List.set_cons_succ]
                refine wpAnyH_take (i := 1) (v := .bool true) nat1 (by kernel_rfl) (by kernel_rfl) (by kernel_rfl) (fun _ _ _ h => False.elim h) (Or.inl ⟨by rfl, ?_⟩) H_0.bD ?_
                · intro wx hSw
                  go_simp
                  try simp [hni]
                simp only [Act.put, List.setIfInBounds_toArray, List.set_cons_zero, List.set_cons_succ]
                refine wpAnyH_take (i := 2) (v := .bool true) nat2 (by kernel_rfl) (by kernel_rfl) (by kernel_rfl) (fun _ _ _ h => False.elim h) (Or.inl ⟨by rfl, ?_⟩) H_0.bD ?_
                · intro wx hSw
                  go_simp
                simp only [Act.put, List.setIfInBounds_toArray, List.set_cons_zero, List.set_cons_succ]
                refine wpAnyH_take (i := 3) (v := .pointer (some ⟨D, 2, none⟩)) nat3 (by kernel_rfl) (by kernel_rfl) (by kernel_rfl) (fun _ _ _ h => False.elim h) (Or.inl ⟨by rfl, ?_⟩) H_0.bD ?_
                · intro wx hSw
                  go_simp
                simp only [Act.put, List.setIfInBounds_toArray, List.set_cons_zero, List.set_cons_succ]
                refine wpAnyH_take (i := 4) (v := .slice a2 q.length p2) nat4 (by kernel_rfl) (by kernel_rfl) (by kernel_rfl) (fun _ _ _ h => False.elim h) (Or.inl ⟨by rfl, ?_⟩) H_0.bD ?_
                · intro wx hSw
                  have y0 := hSw.cell 2
                  simp only [List.getElem?_toArray, List.getElem?_cons_succ, List.getElem?_cons_zero] at y0
                  go_simp
                simp only [Act.put, List.setIfInBounds_toArray, List.set_cons_zero, List.set_cons_succ]
                refine wpAnyH_take (i := 5) (v := .int .i64 (((q.length : Nat) : Int))) nat5 (by kernel_rfl) (by kernel_rfl) (by kernel_rfl) (fun _ _ _ h => False.elim h) (Or.inl ⟨by rfl, ?_⟩) H_0.bD ?_
                · intro wx hSw
                  go_simp
                simp only [Act.put, List.setIfInBounds_toArray, List.set_cons_zero, List.set_cons_succ]
                refine wpAnyH_take (i := 6) (v := .pointer (some ⟨g, 0, none⟩)) nat6 (by kernel_rfl) (by kernel_rfl) (by kernel_rfl) (fun _ _ _ h => False.elim h) (Or.inl ⟨by rfl, ?_⟩) H_0.bD ?_
                · intro wx hSw
                  go_simp
                simp only [Act.put, List.setIfInBounds_toArray, List.set_cons_zero, List.set_cons_succ]
                refine wpAnyH_ready (rs := [7]) (by kernel_rfl) (by simp) ?_
                refine AllReadyH.cons nat7 (fun K hK => ?_) AllReadyH.nil
                go_simp
                go_at_call 73
                refine (rd_below W wq0 g a len cap 2 (by omega) (by omega) HC.out hl H_0.rd).mono ?_
                rintro e wq1 ⟨y1, rfl, hy01, hy11, hr1, hb1⟩
                have H_1 := H_0.call hr1 hb1
                refine hK.out _ _ H_1.bD (fun hSz => ?_)
                clear hK K hSz H_0 hb1
                refine wpAnyH_take (i := 8) (v := .int .i64 (199 + y1)) nat8 (by kernel_rfl) (by kernel_rfl) (by kernel_rfl) (fun _ _ _ h => False.elim h) (Or.inl ⟨by rfl, ?_⟩) H_1.bD ?_
                · intro wx hSw
                  go_simp
                  try (try rw [Int.tdiv_eq_ediv_of_nonneg (by omega)]); try (rw [IntKind.wrap_i64]; omega)
                simp only [Act.put, List.setIfInBounds_toArray, List.set_cons_zero, List.set_cons_succ]
                refine wpAnyH_take (i := 9) (v := .bool (decide ((q.length : Int) < 199 + y1))) nat9 (by kernel_rfl) (by kernel_rfl) (by kernel_rfl) (fun _ _ _ h => False.elim h) (Or.inl ⟨by rfl, ?_⟩) H_1.bD ?_
                · intro wx hSw
                  go_simp
                  try (simp <;> omega)
                simp only [Act.put, List.setIfInBounds_toArray, List.set_cons_zero, List.set_cons_succ]
                refine wpAnyH_take (i := 10) (v := .bool (decide ((q.length : Int) < 199 + y1))) nat10 (by kernel_rfl) (by kernel_rfl) (by kernel_rfl) (fun _ _ _ h => False.elim h) (Or.inl ⟨by rfl, ?_⟩) H_1.bD ?_
                · intro wx hSw
                  go_simp
                  try simp
                simp only [Act.put, List.setIfInBounds_toArray, List.set_cons_zero, List.set_cons_succ]
                refine wpAnyH_done (by kernel_rfl) ?_ _
                refine NoPanic.normal ?_
                go_wp2_with fail
                go_meet
                exact ⟨_, rfl, hide H_1⟩
              case rest =>
              obtain ⟨b, rfl, HM1⟩ := hcut
              clear HM
              cases b with
              | false =>
                have HE := HM1
                clear HM1
                obtain ⟨o1, o2, o3⟩ := HE.out.ord
                have LO := HE.out.low
                have RB := HE.out.bR
                have SB := HE.out.bS
                have DB := HE.out.bD
                have OB := HE.out.bO
                have RW := HE.out.row
                go_upto_region 18 with fail
                clear HE
                refine wp_region_noPanic ?_
                have hb0 : Below wc.heap.size wc wc.drew := (Below.refl _ _).drew
                have LO_0 := LO.trans (hb0.mono LO.size)
                have RB_0 := RB.next hb0
                have SB_0 := SB.next hb0
                have DB_0 := DB.next hb0
                have OB_0 := OB.next hb0
                have RW_0 := RW.next hb0
                refine wp_region_held_drew (S := fun x => BoxIs x D #[.slice a0 l.length p0, .slice a1 s.length p1, .slice a2 q.length p2] 31 ∧ BoxIs x O #[.int .i64 k, .string m, .string t, .string d] 40) (by kernel_rfl) ⟨DB_0, OB_0⟩ (fun hSz => ?_)
                clear hSz DB LO OB RB RW SB
                generalize wc.drew = wq0 at hb0 LO_0 RB_0 SB_0 DB_0 OB_0 RW_0 ⊢
                clear hb0
                refine wpAnyH_take (i := 0) (v := .agg #[.slice a0 l.length p0, .slice a1 s.length p1, .slice a2 q.length p2]) nat0 (by kernel_rfl) (by kernel_rfl) (by kernel_rfl) (fun _ _ _ h => False.elim h) (Or.inl ⟨by rfl, ?_⟩) ⟨DB_0, OB_0⟩ ?_
                · intro wx hSw
                  have y0 := hSw.1.cell 0
                  have y1 := hSw.1.cell 1
                  have y2 := hSw.1.cell 2
                  simp only [List.getElem?_toArray, List.getElem?_cons_succ, List.getElem?_cons_zero] at y0 y1 y2
                  go_simp
                simp only [Act.put, List.setIfInBounds_toArray, List.set_cons_zero, List.set_cons_succ]
                refine wpAnyH_take (i := 1) (v := .agg #[.int .i64 k, .string m, .string t, .string d]) nat1 (by kernel_rfl) (by kernel_rfl) (by kernel_rfl) (fun _ _ _ h => False.elim h) (Or.inl ⟨by rfl, ?_⟩) ⟨DB_0, OB_0⟩ ?_
                · intro wx hSw
                  have y0 := hSw.2.cell 0
                  have y1 := hSw.2.cell 1
                  have y2 := hSw.2.cell 2
                  have y3 := hSw.2.cell 3
                  simp only [List.getElem?_toArray, List.getElem?_cons_succ, List.getElem?_cons_zero] at y0 y1 y2 y3
                  go_simp
                simp only [Act.put, List.setIfInBounds_toArray, List.set_cons_zero, List.set_cons_succ]
                refine wpAnyH_ready (rs := [2]) (by kernel_rfl) (by simp) ?_
                refine AllReadyH.cons nat2 (fun K hK => ?_) AllReadyH.nil
                have y0 := RB_0.cell 0
                have y1 := RB_0.cell 1
                have y2 := RB_0.cell 2
                simp only [List.getElem?_toArray, List.getElem?_cons_succ, List.getElem?_cons_zero] at y0 y1 y2
                have yf := RB_0.free
                go_simp
                clear yf y0 y1 y2
                have LO_1s0 := below_set (F := w.heap.size) LO_0 (by omega) 0 (.slice a0 l.length p0)
                have RB_1s0 := RB_0.set 0 (.slice a0 l.length p0)
                have SB_1s0 := SB_0.set_other (p := ⟨w.heap.size, 0, none⟩) (by show w.heap.size ≠ _; omega) (.slice a0 l.length p0)
                have DB_1s0 := DB_0.set_other (p := ⟨w.heap.size, 0, none⟩) (by show w.heap.size ≠ _; omega) (.slice a0 l.length p0)
                have OB_1s0 := OB_0.set_other (p := ⟨w.heap.size, 0, none⟩) (by show w.heap.size ≠ _; omega) (.slice a0 l.length p0)
                have RW_1s0 := RW_0.low (F := w.heap.size) (by omega) 0 (.slice a0 l.length p0)
                have LO_1s1 := below_set (F := w.heap.size) LO_1s0 (by omega) 1 (.slice a1 s.length p1)
                have RB_1s1 := RB_1s0.set 1 (.slice a1 s.length p1)
                have SB_1s1 := SB_1s0.set_other (p := ⟨w.heap.size, 1, none⟩) (by show w.heap.size ≠ _; omega) (.slice a1 s.length p1)
                have DB_1s1 := DB_1s0.set_other (p := ⟨w.heap.size, 1, none⟩) (by show w.heap.size ≠ _; omega) (.slice a1 s.length p1)
                have OB_1s1 := OB_1s0.set_other (p := ⟨w.heap.size, 1, none⟩) (by show w.heap.size ≠ _; omega) (.slice a1 s.length p1)
                have RW_1s1 := RW_1s0.low (F := w.heap.size) (by omega) 1 (.slice a1 s.length p1)
                have LO_1s2 := below_set (F := w.heap.size) LO_1s1 (by omega) 2 (.slice a2 q.length p2)
                have RB_1s2 := RB_1s1.set 2 (.slice a2 q.length p2)
                have SB_1s2 := SB_1s1.set_other (p := ⟨w.heap.size, 2, none⟩) (by show w.heap.size ≠ _; omega) (.slice a2 q.length p2)
                have DB_1s2 := DB_1s1.set_other (p := ⟨w.heap.size, 2, none⟩) (by show w.heap.size ≠ _; omega) (.slice a2 q.length p2)
                have OB_1s2 := OB_1s1.set_other (p := ⟨w.heap.size, 2, none⟩) (by show w.heap.size ≠ _; omega) (.slice a2 q.length p2)
                have RW_1s2 := RW_1s1.low (F := w.heap.size) (by omega) 2 (.slice a2 q.length p2)
                have LO_1 := LO_1s2
                have RB_1 : BoxIs (((wq0.setCell ⟨w.heap.size, 0, none⟩ (.slice a0 l.length p0)).setCell ⟨w.heap.size, 1, none⟩ (.slice a1 s.length p1)).setCell ⟨w.heap.size, 2, none⟩ (.slice a2 q.length p2)) w.heap.size #[.slice a0 l.length p0, .slice a1 s.length p1, .slice a2 q.length p2] 31 := RB_1s2
                have SB_1 := SB_1s2
                have DB_1 := DB_1s2
                have OB_1 := OB_1s2
                have RW_1 := RW_1s2
                refine hK.out _ _ ⟨DB_1, OB_1⟩ (fun hSz => ?_)
                clear hK K hSz DB_0 LO_0 OB_0 RB_0 RW_0 SB_0 LO_1s0 LO_1s1 LO_1s2 RB_1s0 RB_1s1 RB_1s2 SB_1s0 SB_1s1 SB_1s2 DB_1s0 DB_1s1 DB_1s2 OB_1s0 OB_1s1 OB_1s2 RW_1s0 RW_1s1 RW_1s2
                generalize ((wq0.setCell ⟨w.heap.size, 0, none⟩ (.slice a0 l.length p0)).setCell ⟨w.heap.size, 1, none⟩ (.slice a1 s.length p1)).setCell ⟨w.heap.size, 2, none⟩ (.slice a2 q.length p2) = wq1 at LO_1 RB_1 SB_1 DB_1 OB_1 RW_1 ⊢
                refine wpAnyH_ready (rs := [3]) (by kernel_rfl) (by simp) ?_
                refine AllReadyH.cons nat3 (fun K hK => ?_) AllReadyH.nil
                have y0 := SB_1.cell 0
                have y1 := SB_1.cell 1
                have y2 := SB_1.cell 2
                have y3 := SB_1.cell 3
                simp only [List.getElem?_toArray, List.getElem?_cons_succ, List.getElem?_cons_zero] at y0 y1 y2 y3
                have yf := SB_1.free
                go_simp
                clear yf y0 y1 y2 y3
                have LO_2s0 := below_set (F := (w.heap.size + 1)) LO_1 (by omega) 0 (.int .i64 k)
                have RB_2s0 := RB_1.set_other (p := ⟨(w.heap.size + 1), 0, none⟩) (by show (w.heap.size + 1) ≠ _; omega) (.int .i64 k)
                have SB_2s0 := SB_1.set 0 (.int .i64 k)
                have DB_2s0 := DB_1.set_other (p := ⟨(w.heap.size + 1), 0, none⟩) (by show (w.heap.size + 1) ≠ _; omega) (.int .i64 k)
                have OB_2s0 := OB_1.set_other (p := ⟨(w.heap.size + 1), 0, none⟩) (by show (w.heap.size + 1) ≠ _; omega) (.int .i64 k)
                have RW_2s0 := RW_1.low (F := (w.heap.size + 1)) (by omega) 0 (.int .i64 k)
                have LO_2s1 := below_set (F := (w.heap.size + 1)) LO_2s0 (by omega) 1 (.string m)
                have RB_2s1 := RB_2s0.set_other (p := ⟨(w.heap.size + 1), 1, none⟩) (by show (w.heap.size + 1) ≠ _; omega) (.string m)
                have SB_2s1 := SB_2s0.set 1 (.string m)
                have DB_2s1 := DB_2s0.set_other (p := ⟨(w.heap.size + 1), 1, none⟩) (by show (w.heap.size + 1) ≠ _; omega) (.string m)
                have OB_2s1 := OB_2s0.set_other (p := ⟨(w.heap.size + 1), 1, none⟩) (by show (w.heap.size + 1) ≠ _; omega) (.string m)
                have RW_2s1 := RW_2s0.low (F := (w.heap.size + 1)) (by omega) 1 (.string m)
                have LO_2s2 := below_set (F := (w.heap.size + 1)) LO_2s1 (by omega) 2 (.string t)
                have RB_2s2 := RB_2s1.set_other (p := ⟨(w.heap.size + 1), 2, none⟩) (by show (w.heap.size + 1) ≠ _; omega) (.string t)
                have SB_2s2 := SB_2s1.set 2 (.string t)
                have DB_2s2 := DB_2s1.set_other (p := ⟨(w.heap.size + 1), 2, none⟩) (by show (w.heap.size + 1) ≠ _; omega) (.string t)
                have OB_2s2 := OB_2s1.set_other (p := ⟨(w.heap.size + 1), 2, none⟩) (by show (w.heap.size + 1) ≠ _; omega) (.string t)
                have RW_2s2 := RW_2s1.low (F := (w.heap.size + 1)) (by omega) 2 (.string t)
                have LO_2s3 := below_set (F := (w.heap.size + 1)) LO_2s2 (by omega) 3 (.string d)
                have RB_2s3 := RB_2s2.set_other (p := ⟨(w.heap.size + 1), 3, none⟩) (by show (w.heap.size + 1) ≠ _; omega) (.string d)
                have SB_2s3 := SB_2s2.set 3 (.string d)
                have DB_2s3 := DB_2s2.set_other (p := ⟨(w.heap.size + 1), 3, none⟩) (by show (w.heap.size + 1) ≠ _; omega) (.string d)
                have OB_2s3 := OB_2s2.set_other (p := ⟨(w.heap.size + 1), 3, none⟩) (by show (w.heap.size + 1) ≠ _; omega) (.string d)
                have RW_2s3 := RW_2s2.low (F := (w.heap.size + 1)) (by omega) 3 (.string d)
                have LO_2 := LO_2s3
                have RB_2 := RB_2s3
                have SB_2 : BoxIs ((((wq1.setCell ⟨(w.heap.size + 1), 0, none⟩ (.int .i64 k)).setCell ⟨(w.heap.size + 1), 1, none⟩ (.string m)).setCell ⟨(w.heap.size + 1), 2, none⟩ (.string t)).setCell ⟨(w.heap.size + 1), 3, none⟩ (.string d)) (w.heap.size + 1) #[.int .i64 k, .string m, .string t, .string d] 40 := SB_2s3
                have DB_2 := DB_2s3
                have OB_2 := OB_2s3
                have RW_2 := RW_2s3
                refine hK.out _ _ ⟨DB_2, OB_2⟩ (fun hSz => ?_)
                clear hK K hSz DB_1 LO_1 OB_1 RB_1 RW_1 SB_1 LO_2s0 LO_2s1 LO_2s2 LO_2s3 RB_2s0 RB_2s1 RB_2s2 RB_2s3 SB_2s0 SB_2s1 SB_2s2 SB_2s3 DB_2s0 DB_2s1 DB_2s2 DB_2s3 OB_2s0 OB_2s1 OB_2s2 OB_2s3 RW_2s0 RW_2s1 RW_2s2 RW_2s3
                generalize (((wq1.setCell ⟨(w.heap.size + 1), 0, none⟩ (.int .i64 k)).setCell ⟨(w.heap.size + 1), 1, none⟩ (.string m)).setCell ⟨(w.heap.size + 1), 2, none⟩ (.string t)).setCell ⟨(w.heap.size + 1), 3, none⟩ (.string d) = wq2 at LO_2 RB_2 SB_2 DB_2 OB_2 RW_2 ⊢
                refine wpAnyH_done (by kernel_rfl) ?_ _
                refine NoPanic.normal ?_
                have r0 := RB_2.cell 0
                have r1 := RB_2.cell 1
                have r2 := RB_2.cell 2
                have s0 := SB_2.cell 0
                have s1 := SB_2.cell 1
                have s2 := SB_2.cell 2
                have s3 := SB_2.cell 3
                simp only [List.getElem?_toArray, List.getElem?_cons_succ, List.getElem?_cons_zero] at r0 r1 r2 s0 s1 s2 s3
                obtain ⟨_, _, _, _, _, _, e, hZ⟩ := RW_2.is.lists
                rw [dc_live, dc_safe, dc_ops] at e hZ
                simp only [Value.agg.injEq, Array.mk.injEq, List.cons.injEq, and_true, Value.slice.injEq, true_and] at e
                obtain ⟨⟨rfl, rfl⟩, ⟨rfl, rfl⟩, rfl, rfl⟩ := e
                have hL := LO_2
                clear DB_2 LO_2 OB_2 RB_2 RW_2 SB_2
                go_wp2
                exact bodyPost_ret (v := .tuple #[.agg #[.slice a0 l.length p0, .slice a1 s.length p1, .slice a2 q.length p2], .agg #[.int .i64 k, .string m, .string t, .string d]]) (by simp [results, Try.results37, go_sem, r0, r1, r2, s0, s1, s2, s3]) rfl ⟨a0, p0, a1, p1, a2, p2, l, s, q, k, m, t, d, rfl, HF4.out, hms1, hts1, hds1, hZ, hL⟩
              | true =>
                have y0 := HM1.out.bD.cell 0
                have y1 := HM1.out.bD.cell 1
                have y2 := HM1.out.bD.cell 2
                simp only [List.getElem?_toArray, List.getElem?_cons_succ, List.getElem?_cons_zero] at y0 y1 y2
                go_wp2_with fail
                refine (spec_Do _ (dc l s q) 1 ⟨#[98]⟩ ⟨#[]⟩ ⟨#[]⟩ wc HF4.out (by decide) (by decide) (by decide) HM1.out.row.is).mono ?_
                rintro e w6 ⟨⟨u, rfl, hM⟩, hb6⟩
                have HFN := hide (doC_fit (o := ⟨1, ⟨#[98]⟩, ⟨#[]⟩, ⟨#[]⟩⟩) HF4.out (by decide) (by decide))
                unfold doC at HFN
                generalize doL (dc l s q) ⟨1, ⟨#[98]⟩, ⟨#[]⟩, ⟨#[]⟩⟩ = LL at hM HFN
                generalize doS (dc l s q) ⟨1, ⟨#[98]⟩, ⟨#[]⟩, ⟨#[]⟩⟩ = SS at hM HFN
                generalize doQ (dc l s q) ⟨1, ⟨#[98]⟩, ⟨#[]⟩, ⟨#[]⟩⟩ = QQ at hM HFN
                generalize doK (dc l s q) ⟨1, ⟨#[98]⟩, ⟨#[]⟩, ⟨#[]⟩⟩ = kk
                have hlow : g < wc.heap.size := HM1.out.rd.lt
                obtain ⟨b0, r0, b1, r1, b2, r2, rfl⟩ := hM.shape
                have hrow := (hM.row.base (B' := g + 1) (by omega)).next (below_one w6 (.cells #[.slice b0 LL.length r0, .slice b1 SS.length r1, .slice b2 QQ.length r2] 31))
                have HM6 := hide ((HM1.out.next hb6).next (below_one w6 (.cells #[.slice b0 LL.length r0, .slice b1 SS.length r1, .slice b2 QQ.length r2] 31)))
                have HR6 := hrow.hid
                have HN6 := (BoxIs.new w6 #[.slice b0 LL.length r0, .slice b1 SS.length r1, .slice b2 QQ.length r2] 31 rfl).hid
                have hND := (HM1.out.next hb6).bD.lt
                clear hM hrow hb6 HM1 y0 y1 y2
                go_upto_region 16 with fail
                generalize w6.alloc (.cells #[.slice b0 LL.length r0, .slice b1 SS.length r1, .slice b2 QQ.length r2] 31) = W6 at HM6 HR6 HN6 ⊢
                generalize w6.heap.size = N at HN6 hND ⊢
                by_cases hk0 : kk = 0
                · subst hk0
                  have HM7 := hide (HM6.out.put HR6.out)
                  have z0 := HN6.out.cell 0
                  have z1 := HN6.out.cell 1
                  have z2 := HN6.out.cell 2
                  have y0 := HM6.out.bD.cell 0
                  have y1 := HM6.out.bD.cell 1
                  have y2 := HM6.out.bD.cell 2
                  have yf := HM6.out.bD.free
                  simp only [List.getElem?_toArray, List.getElem?_cons_succ, List.getElem?_cons_zero] at z0 z1 z2 y0 y1 y2
                  clear HM6 HR6 HN6 HF4
                  go_wp2
                  exact ⟨⟨n + 1, b0, r0, b1, r1, b2, r2, LL, SS, QQ, by go_num, by omega, HFN, HM7⟩, by simp [intOf]; omega⟩
                · clear HR6 HN6 HFN
                  go_wp2
                  exact ⟨⟨n + 1, a0, p0, a1, p1, a2, p2, l, s, q, by go_num, by omega, HF4, HM6⟩, by simp [intOf]; omega⟩
            · obtain rfl : n = 200 := by omega
              go_upto_region 13 with fail
              go_cut [41] (fun t41 wx => t41 = .bool false ∧ Hid (DM W w g a len cap D O a0 p0 a1 p1 a2 p2 l s q k m t d wx))
              case first =>
                have H0 := HM.out
                clear HM
                refine wp_region_noPanic ?_
                have hb0 : Below wr.heap.size wr wr.drew := (Below.refl _ _).drew
                have H_0 := H0.next hb0
                refine wp_region_held_drew (S := fun x => BoxIs x D #[.slice a0 l.length p0, .slice a1 s.length p1, .slice a2 q.length p2] 31) (by kernel_rfl) H_0.bD (fun hSz => ?_)
                clear hSz H0
                generalize wr.drew = wq0 at hb0 H_0 ⊢
                clear hb0
                refine wpAnyH_take (i := 0) (v := .int .i64 (((200 : Nat) : Int))) nat0 (by kernel_rfl) (by kernel_rfl) (by kernel_rfl) (fun _ _ _ h => False.elim h) (Or.inl ⟨by rfl, ?_⟩) H_0.bD ?_
                · intro wx hSw
                  go_simp
                simp only [Act.put, List.setIfInBounds_toArray, List.set_cons_zero, List.set_cons_succ]
                refine wpAnyH_take (i := 1) (v := .bool false) nat1 (by kernel_rfl) (by kernel_rfl) (by kernel_rfl) (fun _ _ _ h => False.elim h) (Or.inl ⟨by rfl, ?_⟩) H_0.bD ?_
                · intro wx hSw
                  go_simp
                  try simp
                simp only [Act.put, List.setIfInBounds_toArray, List.set_cons_zero, List.set_cons_succ]
                refine wpAnyH_take (i := 2) (v := .bool false) nat2 (by kernel_rfl) (by kernel_rfl) (by kernel_rfl) (fun _ _ _ h => False.elim h) (Or.inl ⟨by rfl, ?_⟩) H_0.bD ?_
                · intro wx hSw
                  go_simp
                simp only [Act.put, List.setIfInBounds_toArray, List.set_cons_zero, List.set_cons_succ]
                refine wpAnyH_take (i := 3) (v := undef) nat3 (by kernel_rfl) (by kernel_rfl) (by kernel_rfl) (fun _ _ _ h => False.elim h) (Or.inr ⟨by rfl, rfl⟩) H_0.bD ?_
                simp only [Act.put, List.setIfInBounds_toArray, List.set_cons_zero, List.set_cons_succ]
                refine wpAnyH_take (i := 4) (v := undef) nat4 (by kernel_rfl) (by kernel_rfl) (by kernel_rfl) (fun _ _ _ h => False.elim h) (Or.inr ⟨by rfl, rfl⟩) H_0.bD ?_
                simp only [Act.put, List.setIfInBounds_toArray, List.set_cons_zero, List.set_cons_succ]
                refine wpAnyH_take (i := 5) (v := undef) nat5 (by kernel_rfl) (by kernel_rfl) (by kernel_rfl) (fun _ _ _ h => False.elim h) (Or.inr ⟨by rfl, rfl⟩) H_0.bD ?_
                simp only [Act.put, List.setIfInBounds_toArray, List.set_cons_zero, List.set_cons_succ]
                refine wpAnyH_take (i := 6) (v := undef) nat6 (by kernel_rfl) (by kernel_rfl) (by kernel_rfl) (fun _ _ _ h => False.elim h) (Or.inr ⟨by rfl, rfl⟩) H_0.bD ?_
                simp only [Act.put, List.setIfInBounds_toArray, List.set_cons_zero, List.set_cons_succ]
                refine wpAnyH_take (i := 7) (v := undef) nat7 (by kernel_rfl) (by kernel_rfl) (by kernel_rfl) (fun _ _ _ h => False.elim h) (Or.inr ⟨by rfl, rfl⟩) H_0.bD ?_
                simp only [Act.put, List.setIfInBounds_toArray, List.set_cons_zero, List.set_cons_succ]
                refine wpAnyH_take (i := 8) (v := undef) nat8 (by kernel_rfl) (by kernel_rfl) (by kernel_rfl) (fun _ _ _ h => False.elim h) (Or.inr ⟨by rfl, rfl⟩) H_0.bD ?_
                simp only [Act.put, List.setIfInBounds_toArray, List.set_cons_zero, List.set_cons_succ]
                refine wpAnyH_take (i := 9) (v := undef) nat9 (by kernel_rfl) (by kernel_rfl) (by kernel_rfl) (fun _ _ _ h => False.elim h) (Or.inr ⟨by rfl, rfl⟩) H_0.bD ?_
                simp only [Act.put, List.setIfInBounds_toArray, List.set_cons_zero, List.set_cons_succ]
                refine wpAnyH_take (i := 10) (v := .bool false) nat10 (by kernel_rfl) (by kernel_rfl) (by kernel_rfl) (fun _ _ _ h => False.elim h) (Or.inl ⟨by rfl, ?_⟩) H_0.bD ?_
                · intro wx hSw
                  go_simp
                  try simp
                simp only [Act.put, List.setIfInBounds_toArray, List.set_cons_zero, List.set_cons_succ]
                refine wpAnyH_done (by kernel_rfl) ?_ _
                refine NoPanic.normal ?_
                go_wp2_with fail
                go_meet
                exact ⟨rfl, hide H_0⟩
              case rest =>
              obtain ⟨rfl, HM1⟩ := hcut
              have HE := HM1
              clear HM HM1
              obtain ⟨o1, o2, o3⟩ := HE.out.ord
              have LO := HE.out.low
              have RB := HE.out.bR
              have SB := HE.out.bS
              have DB := HE.out.bD
              have OB := HE.out.bO
              have RW := HE.out.row
              go_upto_region 18 with fail
              clear HE
              refine wp_region_noPanic ?_
              have hb0 : Below wc.heap.size wc wc.drew := (Below.refl _ _).drew
              have LO_0 := LO.trans (hb0.mono LO.size)
              have RB_0 := RB.next hb0
              have SB_0 := SB.next hb0
              have DB_0 := DB.next hb0
              have OB_0 := OB.next hb0
              have RW_0 := RW.next hb0
              refine wp_region_held_drew (S := fun x => BoxIs x D #[.slice a0 l.length p0, .slice a1 s.length p1, .slice a2 q.length p2] 31 ∧ BoxIs x O #[.int .i64 k, .string m, .string t, .string d] 40) (by kernel_rfl) ⟨DB_0, OB_0⟩ (fun hSz => ?_)
              clear hSz DB LO OB RB RW SB
              generalize wc.drew = wq0 at hb0 LO_0 RB_0 SB_0 DB_0 OB_0 RW_0 ⊢
              clear hb0
              refine wpAnyH_take (i := 0) (v := .agg #[.slice a0 l.length p0, .slice a1 s.length p1, .slice a2 q.length p2]) nat0 (by kernel_rfl) (by kernel_rfl) (by kernel_rfl) (fun _ _ _ h => False.elim h) (Or.inl ⟨by rfl, ?_⟩) ⟨DB_0, OB_0⟩ ?_
              · intro wx hSw
                have y0 := hSw.1.cell 0
                have y1 := hSw.1.cell 1
                have y2 := hSw.1.cell 2
                simp only [List.getElem?_toArray, List.getElem?_cons_succ, List.getElem?_cons_zero] at y0 y1 y2
                go_simp
              simp only [Act.put, List.setIfInBounds_toArray, List.set_cons_zero, List.set_cons_succ]
              refine wpAnyH_take (i := 1) (v := .agg #[.int .i64 k, .string m, .string t, .string d]) nat1 (by kernel_rfl) (by kernel_rfl) (by kernel_rfl) (fun _ _ _ h => False.elim h) (Or.inl ⟨by rfl, ?_⟩) ⟨DB_0, OB_0⟩ ?_
              · intro wx hSw
                have y0 := hSw.2.cell 0
                have y1 := hSw.2.cell 1
                have y2 := hSw.2.cell 2
                have y3 := hSw.2.cell 3
                simp only [List.getElem?_toArray, List.getElem?_cons_succ, List.getElem?_cons_zero] at y0 y1 y2 y3
                go_simp
              simp only [Act.put, List.setIfInBounds_toArray, List.set_cons_zero, List.set_cons_succ]
              refine wpAnyH_ready (rs := [2]) (by kernel_rfl) (by simp) ?_
              refine AllReadyH.cons nat2 (fun K hK => ?_) AllReadyH.nil
              have y0 := RB_0.cell 0
              have y1 := RB_0.cell 1
              have y2 := RB_0.cell 2
              simp only [List.getElem?_toArray, List.getElem?_cons_succ, List.getElem?_cons_zero] at y0 y1 y2
              have yf := RB_0.free
              go_simp
              clear yf y0 y1 y2
              have LO_1s0 := below_set (F := w.heap.size) LO_0 (by omega) 0 (.slice a0 l.length p0)
              have RB_1s0 := RB_0.set 0 (.slice a0 l.length p0)
              have SB_1s0 := SB_0.set_other (p := ⟨w.heap.size, 0, none⟩) (by show w.heap.size ≠ _; omega) (.slice a0 l.length p0)
              have DB_1s0 := DB_0.set_other (p := ⟨w.heap.size, 0, none⟩) (by show w.heap.size ≠ _; omega) (.slice a0 l.length p0)
              have OB_1s0 := OB_0.set_other (p := ⟨w.heap.size, 0, none⟩) (by show w.heap.size ≠ _; omega) (.slice a0 l.length p0)
              have RW_1s0 := RW_0.low (F := w.heap.size) (by omega) 0 (.slice a0 l.length p0)
              have LO_1s1 := below_set (F := w.heap.size) LO_1s0 (by omega) 1 (.slice a1 s.length p1)
              have RB_1s1 := RB_1s0.set 1 (.slice a1 s.length p1)
              have SB_1s1 := SB_1s0.set_other (p := ⟨w.heap.size, 1, none⟩) (by show w.heap.size ≠ _; omega) (.slice a1 s.length p1)
              have DB_1s1 := DB_1s0.set_other (p := ⟨w.heap.size, 1, none⟩) (by show w.heap.size ≠ _; omega) (.slice a1 s.length p1)
              have OB_1s1 := OB_1s0.set_other (p := ⟨w.heap.size, 1, none⟩) (by show w.heap.size ≠ _; omega) (.slice a1 s.length p1)
              have RW_1s1 := RW_1s0.low (F := w.heap.size) (by omega) 1 (.slice a1 s.length p1)
              have LO_1s2 := below_set (F := w.heap.size) LO_1s1 (by omega) 2 (.slice a2 q.length p2)
              have RB_1s2 := RB_1s1.set 2 (.slice a2 q.length p2)
              have SB_1s2 := SB_1s1.set_other (p := ⟨w.heap.size, 2, none⟩) (by show w.heap.size ≠ _; omega) (.slice a2 q.length p2)
              have DB_1s2 := DB_1s1.set_other (p := ⟨w.heap.size, 2, none⟩) (by show w.heap.size ≠ _; omega) (.slice a2 q.length p2)
              have OB_1s2 := OB_1s1.set_other (p := ⟨w.heap.size, 2, none⟩) (by show w.heap.size ≠ _; omega) (.slice a2 q.length p2)
              have RW_1s2 := RW_1s1.low (F := w.heap.size) (by omega) 2 (.slice a2 q.length p2)
              have LO_1 := LO_1s2
              have RB_1 : BoxIs (((wq0.setCell ⟨w.heap.size, 0, none⟩ (.slice a0 l.length p0)).setCell ⟨w.heap.size, 1, none⟩ (.slice a1 s.length p1)).setCell ⟨w.heap.size, 2, none⟩ (.slice a2 q.length p2)) w.heap.size #[.slice a0 l.length p0, .slice a1 s.length p1, .slice a2 q.length p2] 31 := RB_1s2
              have SB_1 := SB_1s2
              have DB_1 := DB_1s2
              have OB_1 := OB_1s2
              have RW_1 := RW_1s2
              refine hK.out _ _ ⟨DB_1, OB_1⟩ (fun hSz => ?_)
              clear hK K hSz DB_0 LO_0 OB_0 RB_0 RW_0 SB_0 LO_1s0 LO_1s1 LO_1s2 RB_1s0 RB_1s1 RB_1s2 SB_1s0 SB_1s1 SB_1s2 DB_1s0 DB_1s1 DB_1s2 OB_1s0 OB_1s1 OB_1s2 RW_1s0 RW_1s1 RW_1s2
              generalize ((wq0.setCell ⟨w.heap.size, 0, none⟩ (.slice a0 l.length p0)).setCell ⟨w.heap.size, 1, none⟩ (.slice a1 s.length p1)).setCell ⟨w.heap.size, 2, none⟩ (.slice a2 q.length p2) = wq1 at LO_1 RB_1 SB_1 DB_1 OB_1 RW_1 ⊢
              refine wpAnyH_ready (rs := [3]) (by kernel_rfl) (by simp) ?_
              refine AllReadyH.cons nat3 (fun K hK => ?_) AllReadyH.nil
              have y0 := SB_1.cell 0
              have y1 := SB_1.cell 1
              have y2 := SB_1.cell 2
              have y3 := SB_1.cell 3
              simp only [List.getElem?_toArray, List.getElem?_cons_succ, List.getElem?_cons_zero] at y0 y1 y2 y3
              have yf := SB_1.free
              go_simp
              clear yf y0 y1 y2 y3
              have LO_2s0 := below_set (F := (w.heap.size + 1)) LO_1 (by omega) 0 (.int .i64 k)
              have RB_2s0 := RB_1.set_other (p := ⟨(w.heap.size + 1), 0, none⟩) (by show (w.heap.size + 1) ≠ _; omega) (.int .i64 k)
              have SB_2s0 := SB_1.set 0 (.int .i64 k)
              have DB_2s0 := DB_1.set_other (p := ⟨(w.heap.size + 1), 0, none⟩) (by show (w.heap.size + 1) ≠ _; omega) (.int .i64 k)
              have OB_2s0 := OB_1.set_other (p := ⟨(w.heap.size + 1), 0, none⟩) (by show (w.heap.size + 1) ≠ _; omega) (.int .i64 k)
              have RW_2s0 := RW_1.low (F := (w.heap.size + 1)) (by omega) 0 (.int .i64 k)
              have LO_2s1 := below_set (F := (w.heap.size + 1)) LO_2s0 (by omega) 1 (.string m)
              have RB_2s1 := RB_2s0.set_other (p := ⟨(w.heap.size + 1), 1, none⟩) (by show (w.heap.size + 1) ≠ _; omega) (.string m)
              have SB_2s1 := SB_2s0.set 1 (.string m)
              have DB_2s1 := DB_2s0.set_other (p := ⟨(w.heap.size + 1), 1, none⟩) (by show (w.heap.size + 1) ≠ _; omega) (.string m)
              have OB_2s1 := OB_2s0.set_other (p := ⟨(w.heap.size + 1), 1, none⟩) (by show (w.heap.size + 1) ≠ _; omega) (.string m)
              have RW_2s1 := RW_2s0.low (F := (w.heap.size + 1)) (by omega) 1 (.string m)
              have LO_2s2 := below_set (F := (w.heap.size + 1)) LO_2s1 (by omega) 2 (.string t)
              have RB_2s2 := RB_2s1.set_other (p := ⟨(w.heap.size + 1), 2, none⟩) (by show (w.heap.size + 1) ≠ _; omega) (.string t)
              have SB_2s2 := SB_2s1.set 2 (.string t)
              have DB_2s2 := DB_2s1.set_other (p := ⟨(w.heap.size + 1), 2, none⟩) (by show (w.heap.size + 1) ≠ _; omega) (.string t)
              have OB_2s2 := OB_2s1.set_other (p := ⟨(w.heap.size + 1), 2, none⟩) (by show (w.heap.size + 1) ≠ _; omega) (.string t)
              have RW_2s2 := RW_2s1.low (F := (w.heap.size + 1)) (by omega) 2 (.string t)
              have LO_2s3 := below_set (F := (w.heap.size + 1)) LO_2s2 (by omega) 3 (.string d)
              have RB_2s3 := RB_2s2.set_other (p := ⟨(w.heap.size + 1), 3, none⟩) (by show (w.heap.size + 1) ≠ _; omega) (.string d)
              have SB_2s3 := SB_2s2.set 3 (.string d)
              have DB_2s3 := DB_2s2.set_other (p := ⟨(w.heap.size + 1), 3, none⟩) (by show (w.heap.size + 1) ≠ _; omega) (.string d)
              have OB_2s3 := OB_2s2.set_other (p := ⟨(w.heap.size + 1), 3, none⟩) (by show (w.heap.size + 1) ≠ _; omega) (.string d)
              have RW_2s3 := RW_2s2.low (F := (w.heap.size + 1)) (by omega) 3 (.string d)
              have LO_2 := LO_2s3
              have RB_2 := RB_2s3
              have SB_2 : BoxIs ((((wq1.setCell ⟨(w.heap.size + 1), 0, none⟩ (.int .i64 k)).setCell ⟨(w.heap.size + 1), 1, none⟩ (.string m)).setCell ⟨(w.heap.size + 1), 2, none⟩ (.string t)).setCell ⟨(w.heap.size + 1), 3, none⟩ (.string d)) (w.heap.size + 1) #[.int .i64 k, .string m, .string t, .string d] 40 := SB_2s3
              have DB_2 := DB_2s3
              have OB_2 := OB_2s3
              have RW_2 := RW_2s3
              refine hK.out _ _ ⟨DB_2, OB_2⟩ (fun hSz => ?_)
              clear hK K hSz DB_1 LO_1 OB_1 RB_1 RW_1 SB_1 LO_2s0 LO_2s1 LO_2s2 LO_2s3 RB_2s0 RB_2s1 RB_2s2 RB_2s3 SB_2s0 SB_2s1 SB_2s2 SB_2s3 DB_2s0 DB_2s1 DB_2s2 DB_2s3 OB_2s0 OB_2s1 OB_2s2 OB_2s3 RW_2s0 RW_2s1 RW_2s2 RW_2s3
              generalize (((wq1.setCell ⟨(w.heap.size + 1), 0, none⟩ (.int .i64 k)).setCell ⟨(w.heap.size + 1), 1, none⟩ (.string m)).setCell ⟨(w.heap.size + 1), 2, none⟩ (.string t)).setCell ⟨(w.heap.size + 1), 3, none⟩ (.string d) = wq2 at LO_2 RB_2 SB_2 DB_2 OB_2 RW_2 ⊢
              refine wpAnyH_done (by kernel_rfl) ?_ _
              refine NoPanic.normal ?_
              have r0 := RB_2.cell 0
              have r1 := RB_2.cell 1
              have r2 := RB_2.cell 2
              have s0 := SB_2.cell 0
              have s1 := SB_2.cell 1
              have s2 := SB_2.cell 2
              have s3 := SB_2.cell 3
              simp only [List.getElem?_toArray, List.getElem?_cons_succ, List.getElem?_cons_zero] at r0 r1 r2 s0 s1 s2 s3
              obtain ⟨_, _, _, _, _, _, e, hZ⟩ := RW_2.is.lists
              rw [dc_live, dc_safe, dc_ops] at e hZ
              simp only [Value.agg.injEq, Array.mk.injEq, List.cons.injEq, and_true, Value.slice.injEq, true_and] at e
              obtain ⟨⟨rfl, rfl⟩, ⟨rfl, rfl⟩, rfl, rfl⟩ := e
              have hL := LO_2
              clear DB_2 LO_2 OB_2 RB_2 RW_2 SB_2
              go_wp2
              exact bodyPost_ret (v := .tuple #[.agg #[.slice a0 l.length p0, .slice a1 s.length p1, .slice a2 q.length p2], .agg #[.int .i64 k, .string m, .string t, .string d]]) (by simp [results, Try.results37, go_sem, r0, r1, r2, s0, s1, s2, s3]) rfl ⟨a0, p0, a1, p1, a2, p2, l, s, q, k, m, t, d, rfl, HF4.out, hms1, hts1, hds1, hZ, hL⟩
        · have HE := HM4
          have hms1 := hms
          have hts1 := hts
          have hds1 := hds
          clear HM4 hy4 HY
          obtain ⟨o1, o2, o3⟩ := HE.out.ord
          have LO := HE.out.low
          have RB := HE.out.bR
          have SB := HE.out.bS
          have DB := HE.out.bD
          have OB := HE.out.bO
          have RW := HE.out.row
          go_upto_region 18 with fail
          clear HE
          refine wp_region_noPanic ?_
          have hb0 : Below w4.heap.size w4 w4.drew := (Below.refl _ _).drew
          have LO_0 := LO.trans (hb0.mono LO.size)
          have RB_0 := RB.next hb0
          have SB_0 := SB.next hb0
          have DB_0 := DB.next hb0
          have OB_0 := OB.next hb0
          have RW_0 := RW.next hb0
          refine wp_region_held_drew (S := fun x => BoxIs x D #[.slice a0 l.length p0, .slice a1 s.length p1, .slice a2 q.length p2] 31 ∧ BoxIs x O #[.int .i64 k, .string m, .string t, .string d] 40) (by kernel_rfl) ⟨DB_0, OB_0⟩ (fun hSz => ?_)
          clear hSz DB LO OB RB RW SB
          generalize w4.drew = wq0 at hb0 LO_0 RB_0 SB_0 DB_0 OB_0 RW_0 ⊢
          clear hb0
          refine wpAnyH_take (i := 0) (v := .agg #[.slice a0 l.length p0, .slice a1 s.length p1, .slice a2 q.length p2]) nat0 (by kernel_rfl) (by kernel_rfl) (by kernel_rfl) (fun _ _ _ h => False.elim h) (Or.inl ⟨by rfl, ?_⟩) ⟨DB_0, OB_0⟩ ?_
          · intro wx hSw
            have y0 := hSw.1.cell 0
            have y1 := hSw.1.cell 1
            have y2 := hSw.1.cell 2
            simp only [List.getElem?_toArray, List.getElem?_cons_succ, List.getElem?_cons_zero] at y0 y1 y2
            go_simp
          simp only [Act.put, List.setIfInBounds_toArray, List.set_cons_zero, List.set_cons_succ]
          refine wpAnyH_take (i := 1) (v := .agg #[.int .i64 k, .string m, .string t, .string d]) nat1 (by kernel_rfl) (by kernel_rfl) (by kernel_rfl) (fun _ _ _ h => False.elim h) (Or.inl ⟨by rfl, ?_⟩) ⟨DB_0, OB_0⟩ ?_
          · intro wx hSw
            have y0 := hSw.2.cell 0
            have y1 := hSw.2.cell 1
            have y2 := hSw.2.cell 2
            have y3 := hSw.2.cell 3
            simp only [List.getElem?_toArray, List.getElem?_cons_succ, List.getElem?_cons_zero] at y0 y1 y2 y3
            go_simp
          simp only [Act.put, List.setIfInBounds_toArray, List.set_cons_zero, List.set_cons_succ]
          refine wpAnyH_ready (rs := [2]) (by kernel_rfl) (by simp) ?_
          refine AllReadyH.cons nat2 (fun K hK => ?_) AllReadyH.nil
          have y0 := RB_0.cell 0
          have y1 := RB_0.cell 1
          have y2 := RB_0.cell 2
          simp only [List.getElem?_toArray, List.getElem?_cons_succ, List.getElem?_cons_zero] at y0 y1 y2
          have yf := RB_0.free
          go_simp
          clear yf y0 y1 y2
          have LO_1s0 := below_set (F := w.heap.size) LO_0 (by omega) 0 (.slice a0 l.length p0)
          have RB_1s0 := RB_0.set 0 (.slice a0 l.length p0)
          have SB_1s0 := SB_0.set_other (p := ⟨w.heap.size, 0, none⟩) (by show w.heap.size ≠ _; omega) (.slice a0 l.length p0)
          have DB_1s0 := DB_0.set_other (p := ⟨w.heap.size, 0, none⟩) (by show w.heap.size ≠ _; omega) (.slice a0 l.length p0)
          have OB_1s0 := OB_0.set_other (p := ⟨w.heap.size, 0, none⟩) (by show w.heap.size ≠ _; omega) (.slice a0 l.length p0)
          have RW_1s0 := RW_0.low (F := w.heap.size) (by omega) 0 (.slice a0 l.length p0)
          have LO_1s1 := below_set (F := w.heap.size) LO_1s0 (by omega) 1 (.slice a1 s.length p1)
          have RB_1s1 := RB_1s0.set 1 (.slice a1 s.length p1)
          have SB_1s1 := SB_1s0.set_other (p := ⟨w.heap.size, 1, none⟩) (by show w.heap.size ≠ _; omega) (.slice a1 s.length p1)
          have DB_1s1 := DB_1s0.set_other (p := ⟨w.heap.size, 1, none⟩) (by show w.heap.size ≠ _; omega) (.slice a1 s.length p1)
          have OB_1s1 := OB_1s0.set_other (p := ⟨w.heap.size, 1, none⟩) (by show w.heap.size ≠ _; omega) (.slice a1 s.length p1)
          have RW_1s1 := RW_1s0.low (F := w.heap.size) (by omega) 1 (.slice a1 s.length p1)
          have LO_1s2 := below_set (F := w.heap.size) LO_1s1 (by omega) 2 (.slice a2 q.length p2)
          have RB_1s2 := RB_1s1.set 2 (.slice a2 q.length p2)
          have SB_1s2 := SB_1s1.set_other (p := ⟨w.heap.size, 2, none⟩) (by show w.heap.size ≠ _; omega) (.slice a2 q.length p2)
          have DB_1s2 := DB_1s1.set_other (p := ⟨w.heap.size, 2, none⟩) (by show w.heap.size ≠ _; omega) (.slice a2 q.length p2)
          have OB_1s2 := OB_1s1.set_other (p := ⟨w.heap.size, 2, none⟩) (by show w.heap.size ≠ _; omega) (.slice a2 q.length p2)
          have RW_1s2 := RW_1s1.low (F := w.heap.size) (by omega) 2 (.slice a2 q.length p2)
          have LO_1 := LO_1s2
          have RB_1 : BoxIs (((wq0.setCell ⟨w.heap.size, 0, none⟩ (.slice a0 l.length p0)).setCell ⟨w.heap.size, 1, none⟩ (.slice a1 s.length p1)).setCell ⟨w.heap.size, 2, none⟩ (.slice a2 q.length p2)) w.heap.size #[.slice a0 l.length p0, .slice a1 s.length p1, .slice a2 q.length p2] 31 := RB_1s2
          have SB_1 := SB_1s2
          have DB_1 := DB_1s2
          have OB_1 := OB_1s2
          have RW_1 := RW_1s2
          refine hK.out _ _ ⟨DB_1, OB_1⟩ (fun hSz => ?_)
          clear hK K hSz DB_0 LO_0 OB_0 RB_0 RW_0 SB_0 LO_1s0 LO_1s1 LO_1s2 RB_1s0 RB_1s1 RB_1s2 SB_1s0 SB_1s1 SB_1s2 DB_1s0 DB_1s1 DB_1s2 OB_1s0 OB_1s1 OB_1s2 RW_1s0 RW_1s1 RW_1s2
          generalize ((wq0.setCell ⟨w.heap.size, 0, none⟩ (.slice a0 l.length p0)).setCell ⟨w.heap.size, 1, none⟩ (.slice a1 s.length p1)).setCell ⟨w.heap.size, 2, none⟩ (.slice a2 q.length p2) = wq1 at LO_1 RB_1 SB_1 DB_1 OB_1 RW_1 ⊢
          refine wpAnyH_ready (rs := [3]) (by kernel_rfl) (by simp) ?_
          refine AllReadyH.cons nat3 (fun K hK => ?_) AllReadyH.nil
          have y0 := SB_1.cell 0
          have y1 := SB_1.cell 1
          have y2 := SB_1.cell 2
          have y3 := SB_1.cell 3
          simp only [List.getElem?_toArray, List.getElem?_cons_succ, List.getElem?_cons_zero] at y0 y1 y2 y3
          have yf := SB_1.free
          go_simp
          clear yf y0 y1 y2 y3
          have LO_2s0 := below_set (F := (w.heap.size + 1)) LO_1 (by omega) 0 (.int .i64 k)
          have RB_2s0 := RB_1.set_other (p := ⟨(w.heap.size + 1), 0, none⟩) (by show (w.heap.size + 1) ≠ _; omega) (.int .i64 k)
          have SB_2s0 := SB_1.set 0 (.int .i64 k)
          have DB_2s0 := DB_1.set_other (p := ⟨(w.heap.size + 1), 0, none⟩) (by show (w.heap.size + 1) ≠ _; omega) (.int .i64 k)
          have OB_2s0 := OB_1.set_other (p := ⟨(w.heap.size + 1), 0, none⟩) (by show (w.heap.size + 1) ≠ _; omega) (.int .i64 k)
          have RW_2s0 := RW_1.low (F := (w.heap.size + 1)) (by omega) 0 (.int .i64 k)
          have LO_2s1 := below_set (F := (w.heap.size + 1)) LO_2s0 (by omega) 1 (.string m)
          have RB_2s1 := RB_2s0.set_other (p := ⟨(w.heap.size + 1), 1, none⟩) (by show (w.heap.size + 1) ≠ _; omega) (.string m)
          have SB_2s1 := SB_2s0.set 1 (.string m)
          have DB_2s1 := DB_2s0.set_other (p := ⟨(w.heap.size + 1), 1, none⟩) (by show (w.heap.size + 1) ≠ _; omega) (.string m)
          have OB_2s1 := OB_2s0.set_other (p := ⟨(w.heap.size + 1), 1, none⟩) (by show (w.heap.size + 1) ≠ _; omega) (.string m)
          have RW_2s1 := RW_2s0.low (F := (w.heap.size + 1)) (by omega) 1 (.string m)
          have LO_2s2 := below_set (F := (w.heap.size + 1)) LO_2s1 (by omega) 2 (.string t)
          have RB_2s2 := RB_2s1.set_other (p := ⟨(w.heap.size + 1), 2, none⟩) (by show (w.heap.size + 1) ≠ _; omega) (.string t)
          have SB_2s2 := SB_2s1.set 2 (.string t)
          have DB_2s2 := DB_2s1.set_other (p := ⟨(w.heap.size + 1), 2, none⟩) (by show (w.heap.size + 1) ≠ _; omega) (.string t)
          have OB_2s2 := OB_2s1.set_other (p := ⟨(w.heap.size + 1), 2, none⟩) (by show (w.heap.size + 1) ≠ _; omega) (.string t)
          have RW_2s2 := RW_2s1.low (F := (w.heap.size + 1)) (by omega) 2 (.string t)
          have LO_2s3 := below_set (F := (w.heap.size + 1)) LO_2s2 (by omega) 3 (.string d)
          have RB_2s3 := RB_2s2.set_other (p := ⟨(w.heap.size + 1), 3, none⟩) (by show (w.heap.size + 1) ≠ _; omega) (.string d)
          have SB_2s3 := SB_2s2.set 3 (.string d)
          have DB_2s3 := DB_2s2.set_other (p := ⟨(w.heap.size + 1), 3, none⟩) (by show (w.heap.size + 1) ≠ _; omega) (.string d)
          have OB_2s3 := OB_2s2.set_other (p := ⟨(w.heap.size + 1), 3, none⟩) (by show (w.heap.size + 1) ≠ _; omega) (.string d)
          have RW_2s3 := RW_2s2.low (F := (w.heap.size + 1)) (by omega) 3 (.string d)
          have LO_2 := LO_2s3
          have RB_2 := RB_2s3
          have SB_2 : BoxIs ((((wq1.setCell ⟨(w.heap.size + 1), 0, none⟩ (.int .i64 k)).setCell ⟨(w.heap.size + 1), 1, none⟩ (.string m)).setCell ⟨(w.heap.size + 1), 2, none⟩ (.string t)).setCell ⟨(w.heap.size + 1), 3, none⟩ (.string d)) (w.heap.size + 1) #[.int .i64 k, .string m, .string t, .string d] 40 := SB_2s3
          have DB_2 := DB_2s3
          have OB_2 := OB_2s3
          have RW_2 := RW_2s3
          refine hK.out _ _ ⟨DB_2, OB_2⟩ (fun hSz => ?_)
          clear hK K hSz DB_1 LO_1 OB_1 RB_1 RW_1 SB_1 LO_2s0 LO_2s1 LO_2s2 LO_2s3 RB_2s0 RB_2s1 RB_2s2 RB_2s3 SB_2s0 SB_2s1 SB_2s2 SB_2s3 DB_2s0 DB_2s1 DB_2s2 DB_2s3 OB_2s0 OB_2s1 OB_2s2 OB_2s3 RW_2s0 RW_2s1 RW_2s2 RW_2s3
          generalize (((wq1.setCell ⟨(w.heap.size + 1), 0, none⟩ (.int .i64 k)).setCell ⟨(w.heap.size + 1), 1, none⟩ (.string m)).setCell ⟨(w.heap.size + 1), 2, none⟩ (.string t)).setCell ⟨(w.heap.size + 1), 3, none⟩ (.string d) = wq2 at LO_2 RB_2 SB_2 DB_2 OB_2 RW_2 ⊢
          refine wpAnyH_done (by kernel_rfl) ?_ _
          refine NoPanic.normal ?_
          have r0 := RB_2.cell 0
          have r1 := RB_2.cell 1
          have r2 := RB_2.cell 2
          have s0 := SB_2.cell 0
          have s1 := SB_2.cell 1
          have s2 := SB_2.cell 2
          have s3 := SB_2.cell 3
          simp only [List.getElem?_toArray, List.getElem?_cons_succ, List.getElem?_cons_zero] at r0 r1 r2 s0 s1 s2 s3
          obtain ⟨_, _, _, _, _, _, e, hZ⟩ := RW_2.is.lists
          rw [dc_live, dc_safe, dc_ops] at e hZ
          simp only [Value.agg.injEq, Array.mk.injEq, List.cons.injEq, and_true, Value.slice.injEq, true_and] at e
          obtain ⟨⟨rfl, rfl⟩, ⟨rfl, rfl⟩, rfl, rfl⟩ := e
          have hL := LO_2
          clear DB_2 LO_2 OB_2 RB_2 RW_2 SB_2
          go_wp2
          exact bodyPost_ret (v := .tuple #[.agg #[.slice a0 l.length p0, .slice a1 s.length p1, .slice a2 q.length p2], .agg #[.int .i64 k, .string m, .string t, .string d]]) (by simp [results, Try.results37, go_sem, r0, r1, r2, s0, s1, s2, s3]) rfl ⟨a0, p0, a1, p1, a2, p2, l, s, q, k, m, t, d, rfl, HF4.out, hms1, hts1, hds1, hZ, hL⟩

end Go.Proofs.Ytejedpmkbkclhaa
