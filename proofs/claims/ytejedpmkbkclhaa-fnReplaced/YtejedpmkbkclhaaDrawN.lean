/- What the law on Replace draws. (By gen_drawn.py.) -/
import Derived.Test.YtejedpmkbkclhaaDrawM
namespace Go.Proofs.Ytejedpmkbkclhaa
set_option maxRecDepth 100000
open Go.RowKit Go.Deep Go.Lib

def names5 : Array Value := #[.string ⟨#[109, 97, 110, 105, 102, 101, 115, 116]⟩, .string ⟨#[108, 111, 103]⟩, .string ⟨#[109, 97, 110, 105, 102, 101, 115, 116]⟩, .string ⟨#[]⟩]
theorem names5_at (k : Nat) (h : k < 4) : ∃ s : ByteArray, names5[k]? = some (.string s) ∧ s.size ≤ 20 := by
  have : k = 0 ∨ k = 1 ∨ k = 2 ∨ k = 3 := by omega
  rcases this with rfl | rfl | rfl | rfl <;> exact ⟨_, rfl, by decide⟩

theorem rd_far {W w : World} {g F : Nat} {a : Option Addr} {len cap : Nat} (h : Rd W w g a len cap) (hF : F ≠ g) (hW : W.heap.size ≤ F) (j : Nat) (x : Value) : Rd W (w.setCell ⟨F, j, none⟩ x) g a len cap := by
  obtain ⟨n, l, b, c, ⟨p, hp, hq⟩, f⟩ := h
  have hb : (w.setCell ⟨F, j, none⟩ x).heap[g]? = w.heap[g]? := Below.heap_setCell _ _ _ _ (by show g ≠ F; omega)
  exact ⟨n, by simp [World.setCell]; exact l, b.setCell (p := ⟨F, j, none⟩) hW x, (World.cell?_of_block (a := ⟨g, 0, none⟩) hb).trans c, ⟨p, hp, (World.cell?_of_block (a := ⟨g, 1, none⟩) hb).trans hq⟩, (World.frozen?_of_block (a := ⟨g, 1, none⟩) hb).trans f⟩
/-- While a disk, a name and a text are drawn. -/
structure RM (W w : World) (g : Nat) (a : Option Addr) (len cap D : Nat) (a0 : Option Addr) (p0 : Nat) (a1 : Option Addr) (p1 : Nat) (a2 : Option Addr) (p2 : Nat) (l s : List File1) (q : List DOp1) (x : World) : Prop where
  rd : Rd W x g a len cap
  low : Below w.heap.size w x
  bR : BoxIs x w.heap.size #[.slice none 0 0, .slice none 0 0, .slice none 0 0] 31
  bD : BoxIs x D #[.slice a0 l.length p0, .slice a1 s.length p1, .slice a2 q.length p2] 31
  row : DiskRow x (g + 1) (.agg #[.slice a0 l.length p0, .slice a1 s.length p1, .slice a2 q.length p2]) (dc l s q)
  ord : w.heap.size < g ∧ g < D
section
variable {W w : World} {g : Nat} {a : Option Addr} {len cap D : Nat} {a0 a1 a2 : Option Addr} {p0 p1 p2 : Nat} {l s : List File1} {q : List DOp1} {x y : World}
theorem RM.call (h : RM W w g a len cap D a0 p0 a1 p1 a2 p2 l s q x) (r : Rd W y g a len cap) (b : Mv g x y) : RM W w g a len cap D a0 p0 a1 p1 a2 p2 l s q y := by
  obtain ⟨o1, o2⟩ := h.ord
  exact ⟨r, h.low.trans (b.below h.low.size (by omega)), h.bR.mv b (by omega), h.bD.mv b (by omega), h.row.mv b (by omega), h.ord⟩
theorem RM.next (h : RM W w g a len cap D a0 p0 a1 p1 a2 p2 l s q x) (b : Below x.heap.size x y) : RM W w g a len cap D a0 p0 a1 p1 a2 p2 l s q y :=
  ⟨h.rd.mv b, h.low.trans (b.mono h.low.size), h.bR.next b, h.bD.next b, h.row.next b, h.ord⟩
end

set_option linter.unusedSimpArgs false in
set_option linter.unusedVariables false in
set_option maxHeartbeats 8000000 in
theorem draw_Replace (W w : World) (a : Option Addr) (len cap : Nat) (hc : IsCode W a len) (hl : len ≤ 1048576) (hb : Below W.heap.size W w) :
    Calls Try.prog 38 #[.slice a len cap] w fun e w' => ∃ a0 p0 a1 p1 a2 p2 l s q m d, e = .returned (.tuple #[.agg #[.slice a0 (l : List File1).length p0, .slice a1 (s : List File1).length p1, .slice a2 (q : List DOp1).length p2], .string m, .string d]) ∧ (dc l s q).Fit ∧ m.size ≤ 200 ∧ d.size ≤ 20 ∧ DskAt w' a0 p0 a1 p1 a2 p2 l s q ∧ Below w.heap.size w w' := by
  have HC := hide hc
  have hWw : W.heap.size ≤ w.heap.size := hb.size
  clear hc
  go_enter Try.func38, Try.ntmps38
  go_wp2_with fail
  have hb0 : Below w.heap.size w (w.alloc (.cells #[.slice none 0 0, .slice none 0 0, .slice none 0 0] 31)) := below_one _ _
  have hR0 : BoxIs (w.alloc (.cells #[.slice none 0 0, .slice none 0 0, .slice none 0 0] 31)) w.heap.size #[.slice none 0 0, .slice none 0 0, .slice none 0 0] 31 := BoxIs.new w _ _ rfl
  generalize w.alloc (.cells #[.slice none 0 0, .slice none 0 0, .slice none 0 0] 31) = W0 at hb0 hR0 ⊢
  have hlt0 := hR0.lt
  refine (open_rdO W0 a len cap W (hb.trans (hb0.mono hb.size))).mono ?_
  rintro e w1 ⟨rfl, hr, hb1⟩
  have hlow1 := hb0.trans (hb1.mono hb0.size)
  have hR1 := hR0.next hb1
  generalize W0.heap.size = g at hr hlt0 hb1 ⊢
  clear hb hb0 hb1 hR0
  go_wp2_with fail
  refine (rd_disk W _ g a len cap HC.out hl hr).mono ?_
  rintro e w2 ⟨v, c, rfl, hf, ho, hr2, hm2⟩
  have hlow2 := hlow1.trans (hm2.below hlow1.size (by omega))
  have hR2 := hR1.mv hm2 (by omega)
  have hgD := hr2.lt
  obtain ⟨a0, p0, a1, p1, a2, p2, rfl, hD⟩ := ho.lists
  have hF := copyC_fit hf
  generalize filesL c.r0 c.n0 = l at hD hF ⊢
  generalize filesL c.r1 c.n1 = s at hD hF ⊢
  generalize dOpsL c.r2 c.n2 = q at hD hF ⊢
  clear ho hf hr hlow1 hR1 hm2
  have hbD := below_one w2 (.cells #[.slice a0 l.length p0, .slice a1 s.length p1, .slice a2 q.length p2] 31)
  have HM := hide (⟨hr2.mv hbD, hlow2.trans (hbD.mono hlow2.size), hR2.next hbD, BoxIs.new w2 #[.slice a0 l.length p0, .slice a1 s.length p1, .slice a2 q.length p2] 31 rfl, hD.next hbD, ⟨hlt0, hgD⟩⟩ : RM W w g a len cap w2.heap.size a0 p0 a1 p1 a2 p2 l s q (w2.alloc (.cells #[.slice a0 l.length p0, .slice a1 s.length p1, .slice a2 q.length p2] 31)))
  have HF := hide hF
  clear hr2 hbD hR2 hlow2 hD hF
  go_upto_region 3 with fail
  generalize w2.alloc (.cells #[.slice a0 l.length p0, .slice a1 s.length p1, .slice a2 q.length p2] 31) = W2 at HM ⊢
  generalize w2.heap.size = D at HM hgD ⊢
  have HM3 := hide (HM.out.next (below_one W2 (.cells names5 9)))
  go_wp2_with fail
  refine (rd_below W _ g a len cap 4 (by omega) (by omega) HC.out hl HM3.out.rd).mono ?_
  rintro e w3 ⟨x, rfl, hx0, hx1, hr, hm⟩
  obtain ⟨j, rfl⟩ := Int.eq_ofNat_of_zero_le hx0
  obtain ⟨m0, hs, hms⟩ := names5_at j (by omega)
  have hcell := pick_cell hm HM.out.rd.lt j hs
  have HM4 := hide (HM3.out.call hr hm)
  have hj4 : (j : Int) < 4 := hx1
  clear hs hr hm HM HM3 hx0 hx1
  go_wp2_with fail
  clear hcell
  refine (rd_once W w3 g a len cap 12 (by omega) (by omega) HC.out hl HM4.out.rd).mono ?_
  rintro e w4 ⟨b, rfl, hr, hm⟩
  have HM5 := hide (HM4.out.call hr hm)
  clear HM4 hr hm
  cases b with
  | false =>
    have HMe := HM5
    have hme : m0.size ≤ 200 := by omega
    clear HM5
    obtain ⟨o1, o2⟩ := HMe.out.ord
    have RD := HMe.out.rd
    have LO := HMe.out.low
    have RB := HMe.out.bR
    have DB := HMe.out.bD
    have RW := HMe.out.row
    go_upto_region 6 with fail
    clear HMe
    refine wp_region_noPanic ?_
    have hb0 : Below w4.heap.size w4 w4.drew := (Below.refl _ _).drew
    have RD_0 := RD.mv hb0
    have LO_0 := LO.trans (hb0.mono LO.size)
    have RB_0 := RB.next hb0
    have DB_0 := DB.next hb0
    have RW_0 := RW.next hb0
    refine wp_region_held_drew (S := fun x => BoxIs x D #[.slice a0 l.length p0, .slice a1 s.length p1, .slice a2 q.length p2] 31) (by kernel_rfl) DB_0 (fun hSz => ?_)
    clear hSz DB LO RB RD RW
    generalize w4.drew = wq0 at hb0 RD_0 LO_0 RB_0 DB_0 RW_0 ⊢
    clear hb0
    refine wpAnyH_take (i := 0) (v := .agg #[.slice a0 l.length p0, .slice a1 s.length p1, .slice a2 q.length p2]) nat0 (by kernel_rfl) (by kernel_rfl) (by kernel_rfl) (fun _ _ _ h => False.elim h) (Or.inl ⟨by rfl, ?_⟩) DB_0 ?_
    · intro wx hSw
      have y0 := hSw.cell 0
      have y1 := hSw.cell 1
      have y2 := hSw.cell 2
      simp only [List.getElem?_toArray, List.getElem?_cons_succ, List.getElem?_cons_zero] at y0 y1 y2
      go_simp
    simp only [Act.put, List.setIfInBounds_toArray, List.set_cons_zero, List.set_cons_succ]
    refine wpAnyH_take (i := 1) (v := .string m0) nat1 (by kernel_rfl) (by kernel_rfl) (by kernel_rfl) (fun _ _ _ h => False.elim h) (Or.inl ⟨by rfl, ?_⟩) DB_0 ?_
    · intro wx hSw
      go_simp
    simp only [Act.put, List.setIfInBounds_toArray, List.set_cons_zero, List.set_cons_succ]
    refine wpAnyH_take (i := 2) (v := .pointer (some ⟨g, 0, none⟩)) nat2 (by kernel_rfl) (by kernel_rfl) (by kernel_rfl) (fun _ _ _ h => False.elim h) (Or.inl ⟨by rfl, ?_⟩) DB_0 ?_
    · intro wx hSw
      go_simp
    simp only [Act.put, List.setIfInBounds_toArray, List.set_cons_zero, List.set_cons_succ]
    refine wpAnyH_ready (rs := [3]) (by kernel_rfl) (by simp) ?_
    refine AllReadyH.cons nat3 (fun K hK => ?_) AllReadyH.nil
    go_simp
    go_at_call 76
    refine (rd_text W wq0 g a len cap HC.out hl RD_0).mono ?_
    rintro e wq1 ⟨d1, rfl, hd1, hr1, hb1⟩
    have HDS1 := hd1
    have RD_1 := hr1
    have LO_1 := LO_0.trans (hb1.below LO_0.size (by omega))
    have RB_1 := RB_0.mv hb1 (by omega)
    have DB_1 := DB_0.mv hb1 (by omega)
    have RW_1 := RW_0.mv hb1 (by omega)
    refine hK.out _ _ DB_1 (fun hSz => ?_)
    clear hK K hSz DB_0 LO_0 RB_0 RD_0 RW_0 hb1
    refine wpAnyH_ready (rs := [4]) (by kernel_rfl) (by simp) ?_
    refine AllReadyH.cons nat4 (fun K hK => ?_) AllReadyH.nil
    have y0 := RB_1.cell 0
    have y1 := RB_1.cell 1
    have y2 := RB_1.cell 2
    simp only [List.getElem?_toArray, List.getElem?_cons_succ, List.getElem?_cons_zero] at y0 y1 y2
    have yf := RB_1.free
    go_simp
    clear yf y0 y1 y2
    have RD_2s0 := rd_far RD_1 (by omega) hWw 0 (.slice a0 l.length p0)
    have LO_2s0 := below_set (F := w.heap.size) LO_1 (by omega) 0 (.slice a0 l.length p0)
    have RB_2s0 := RB_1.set 0 (.slice a0 l.length p0)
    have DB_2s0 := DB_1.set_other (p := ⟨w.heap.size, 0, none⟩) (by show w.heap.size ≠ _; omega) (.slice a0 l.length p0)
    have RW_2s0 := RW_1.low (F := w.heap.size) (by omega) 0 (.slice a0 l.length p0)
    have RD_2s1 := rd_far RD_2s0 (by omega) hWw 1 (.slice a1 s.length p1)
    have LO_2s1 := below_set (F := w.heap.size) LO_2s0 (by omega) 1 (.slice a1 s.length p1)
    have RB_2s1 := RB_2s0.set 1 (.slice a1 s.length p1)
    have DB_2s1 := DB_2s0.set_other (p := ⟨w.heap.size, 1, none⟩) (by show w.heap.size ≠ _; omega) (.slice a1 s.length p1)
    have RW_2s1 := RW_2s0.low (F := w.heap.size) (by omega) 1 (.slice a1 s.length p1)
    have RD_2s2 := rd_far RD_2s1 (by omega) hWw 2 (.slice a2 q.length p2)
    have LO_2s2 := below_set (F := w.heap.size) LO_2s1 (by omega) 2 (.slice a2 q.length p2)
    have RB_2s2 := RB_2s1.set 2 (.slice a2 q.length p2)
    have DB_2s2 := DB_2s1.set_other (p := ⟨w.heap.size, 2, none⟩) (by show w.heap.size ≠ _; omega) (.slice a2 q.length p2)
    have RW_2s2 := RW_2s1.low (F := w.heap.size) (by omega) 2 (.slice a2 q.length p2)
    have RD_2 := RD_2s2
    have LO_2 := LO_2s2
    have RB_2 : BoxIs (((wq1.setCell ⟨w.heap.size, 0, none⟩ (.slice a0 l.length p0)).setCell ⟨w.heap.size, 1, none⟩ (.slice a1 s.length p1)).setCell ⟨w.heap.size, 2, none⟩ (.slice a2 q.length p2)) w.heap.size #[.slice a0 l.length p0, .slice a1 s.length p1, .slice a2 q.length p2] 31 := RB_2s2
    have DB_2 := DB_2s2
    have RW_2 := RW_2s2
    refine hK.out _ _ DB_2 (fun hSz => ?_)
    clear hK K hSz DB_1 LO_1 RB_1 RD_1 RW_1 RD_2s0 RD_2s1 RD_2s2 LO_2s0 LO_2s1 LO_2s2 RB_2s0 RB_2s1 RB_2s2 DB_2s0 DB_2s1 DB_2s2 RW_2s0 RW_2s1 RW_2s2
    generalize ((wq1.setCell ⟨w.heap.size, 0, none⟩ (.slice a0 l.length p0)).setCell ⟨w.heap.size, 1, none⟩ (.slice a1 s.length p1)).setCell ⟨w.heap.size, 2, none⟩ (.slice a2 q.length p2) = wq2 at RD_2 LO_2 RB_2 DB_2 RW_2 ⊢
    refine wpAnyH_take (i := 5) (v := .string m0) nat5 (by kernel_rfl) (by kernel_rfl) (by kernel_rfl) (fun _ _ _ h => False.elim h) (Or.inl ⟨by rfl, ?_⟩) DB_2 ?_
    · intro wx hSw
      go_simp
    simp only [Act.put, List.setIfInBounds_toArray, List.set_cons_zero, List.set_cons_succ]
    refine wpAnyH_take (i := 6) (v := .string d1) nat6 (by kernel_rfl) (by kernel_rfl) (by kernel_rfl) (fun _ _ _ h => False.elim h) (Or.inl ⟨by rfl, ?_⟩) DB_2 ?_
    · intro wx hSw
      go_simp
    simp only [Act.put, List.setIfInBounds_toArray, List.set_cons_zero, List.set_cons_succ]
    refine wpAnyH_done (by kernel_rfl) ?_ _
    refine NoPanic.normal ?_
    have r0 := RB_2.cell 0
    have r1 := RB_2.cell 1
    have r2 := RB_2.cell 2
    simp only [List.getElem?_toArray, List.getElem?_cons_succ, List.getElem?_cons_zero] at r0 r1 r2
    obtain ⟨_, _, _, _, _, _, e, hZ⟩ := RW_2.is.lists
    rw [dc_live, dc_safe, dc_ops] at e hZ
    simp only [Value.agg.injEq, Array.mk.injEq, List.cons.injEq, and_true, Value.slice.injEq, true_and] at e
    obtain ⟨⟨rfl, rfl⟩, ⟨rfl, rfl⟩, rfl, rfl⟩ := e
    have hL := LO_2
    have hds : d1.size ≤ 20 := by omega
    clear DB_2 LO_2 RB_2 RD_2 RW_2
    go_wp2
    exact bodyPost_ret (v := .tuple #[.agg #[.slice a0 l.length p0, .slice a1 s.length p1, .slice a2 q.length p2], .string m0, .string d1]) (by simp [results, Try.results38, go_sem, r0, r1, r2]) rfl ⟨a0, p0, a1, p1, a2, p2, l, s, q, m0, d1, rfl, HF.out, hme, hds, hZ, hL⟩
  | true =>
    go_wp2_with fail
    refine (rd_below W w4 g a len cap 4 (by omega) (by omega) HC.out hl HM5.out.rd).mono ?_
    rintro e w5 ⟨y, rfl, hy0, hy1, hr, hm⟩
    obtain ⟨n, hnw, hn200⟩ : ∃ n : Nat, 95 + y = (n : Int) ∧ n ≤ 200 := ⟨(95 + y).toNat, by omega, by omega⟩
    have HM6 := hide (HM5.out.call hr hm)
    have hmk := mk_zeros n (by omega) w5
    have hcv := run_text_own (P := Try.prog) (w5.alloc (.cells (madeCells #[.int .u8 0] n) 5)) w5.heap.size 57 9 5 (.slice (some ⟨w5.heap.size, 0, none⟩) n n) (zerB n) (zerB_own w5 n (by omega)) Try.underlying57 Try.underlying5 Try.underlying9
    have hbA := below_one w5 (.cells (madeCells #[.int .u8 0] n) 5)
    generalize w5.alloc (.cells (madeCells #[.int .u8 0] n) 5) = w6 at hmk hcv hbA
    have HMe := hide (HM6.out.next hbA)
    obtain ⟨bb, hbb⟩ : ∃ bb, zerB n = bb := ⟨_, rfl⟩
    have hme : bb.size ≤ 200 := by rw [← hbb, zerB_size]; omega
    rw [hbb] at hcv
    clear HM5 HM6 hr hm hbA hbb
    obtain ⟨o1, o2⟩ := HMe.out.ord
    have RD := HMe.out.rd
    have LO := HMe.out.low
    have RB := HMe.out.bR
    have DB := HMe.out.bD
    have RW := HMe.out.row
    go_upto_region 6 with fail
    clear HMe
    refine wp_region_noPanic ?_
    have hb0 : Below w6.heap.size w6 w6.drew := (Below.refl _ _).drew
    have RD_0 := RD.mv hb0
    have LO_0 := LO.trans (hb0.mono LO.size)
    have RB_0 := RB.next hb0
    have DB_0 := DB.next hb0
    have RW_0 := RW.next hb0
    refine wp_region_held_drew (S := fun x => BoxIs x D #[.slice a0 l.length p0, .slice a1 s.length p1, .slice a2 q.length p2] 31) (by kernel_rfl) DB_0 (fun hSz => ?_)
    clear hSz DB LO RB RD RW
    generalize w6.drew = wq0 at hb0 RD_0 LO_0 RB_0 DB_0 RW_0 ⊢
    clear hb0
    refine wpAnyH_take (i := 0) (v := .agg #[.slice a0 l.length p0, .slice a1 s.length p1, .slice a2 q.length p2]) nat0 (by kernel_rfl) (by kernel_rfl) (by kernel_rfl) (fun _ _ _ h => False.elim h) (Or.inl ⟨by rfl, ?_⟩) DB_0 ?_
    · intro wx hSw
      have y0 := hSw.cell 0
      have y1 := hSw.cell 1
      have y2 := hSw.cell 2
      simp only [List.getElem?_toArray, List.getElem?_cons_succ, List.getElem?_cons_zero] at y0 y1 y2
      go_simp
    simp only [Act.put, List.setIfInBounds_toArray, List.set_cons_zero, List.set_cons_succ]
    refine wpAnyH_take (i := 1) (v := .string bb) nat1 (by kernel_rfl) (by kernel_rfl) (by kernel_rfl) (fun _ _ _ h => False.elim h) (Or.inl ⟨by rfl, ?_⟩) DB_0 ?_
    · intro wx hSw
      go_simp
    simp only [Act.put, List.setIfInBounds_toArray, List.set_cons_zero, List.set_cons_succ]
    refine wpAnyH_take (i := 2) (v := .pointer (some ⟨g, 0, none⟩)) nat2 (by kernel_rfl) (by kernel_rfl) (by kernel_rfl) (fun _ _ _ h => False.elim h) (Or.inl ⟨by rfl, ?_⟩) DB_0 ?_
    · intro wx hSw
      go_simp
    simp only [Act.put, List.setIfInBounds_toArray, List.set_cons_zero, List.set_cons_succ]
    refine wpAnyH_ready (rs := [3]) (by kernel_rfl) (by simp) ?_
    refine AllReadyH.cons nat3 (fun K hK => ?_) AllReadyH.nil
    go_simp
    go_at_call 76
    refine (rd_text W wq0 g a len cap HC.out hl RD_0).mono ?_
    rintro e wq1 ⟨d1, rfl, hd1, hr1, hb1⟩
    have HDS1 := hd1
    have RD_1 := hr1
    have LO_1 := LO_0.trans (hb1.below LO_0.size (by omega))
    have RB_1 := RB_0.mv hb1 (by omega)
    have DB_1 := DB_0.mv hb1 (by omega)
    have RW_1 := RW_0.mv hb1 (by omega)
    refine hK.out _ _ DB_1 (fun hSz => ?_)
    clear hK K hSz DB_0 LO_0 RB_0 RD_0 RW_0 hb1
    refine wpAnyH_ready (rs := [4]) (by kernel_rfl) (by simp) ?_
    refine AllReadyH.cons nat4 (fun K hK => ?_) AllReadyH.nil
    have y0 := RB_1.cell 0
    have y1 := RB_1.cell 1
    have y2 := RB_1.cell 2
    simp only [List.getElem?_toArray, List.getElem?_cons_succ, List.getElem?_cons_zero] at y0 y1 y2
    have yf := RB_1.free
    go_simp
    clear yf y0 y1 y2
    have RD_2s0 := rd_far RD_1 (by omega) hWw 0 (.slice a0 l.length p0)
    have LO_2s0 := below_set (F := w.heap.size) LO_1 (by omega) 0 (.slice a0 l.length p0)
    have RB_2s0 := RB_1.set 0 (.slice a0 l.length p0)
    have DB_2s0 := DB_1.set_other (p := ⟨w.heap.size, 0, none⟩) (by show w.heap.size ≠ _; omega) (.slice a0 l.length p0)
    have RW_2s0 := RW_1.low (F := w.heap.size) (by omega) 0 (.slice a0 l.length p0)
    have RD_2s1 := rd_far RD_2s0 (by omega) hWw 1 (.slice a1 s.length p1)
    have LO_2s1 := below_set (F := w.heap.size) LO_2s0 (by omega) 1 (.slice a1 s.length p1)
    have RB_2s1 := RB_2s0.set 1 (.slice a1 s.length p1)
    have DB_2s1 := DB_2s0.set_other (p := ⟨w.heap.size, 1, none⟩) (by show w.heap.size ≠ _; omega) (.slice a1 s.length p1)
    have RW_2s1 := RW_2s0.low (F := w.heap.size) (by omega) 1 (.slice a1 s.length p1)
    have RD_2s2 := rd_far RD_2s1 (by omega) hWw 2 (.slice a2 q.length p2)
    have LO_2s2 := below_set (F := w.heap.size) LO_2s1 (by omega) 2 (.slice a2 q.length p2)
    have RB_2s2 := RB_2s1.set 2 (.slice a2 q.length p2)
    have DB_2s2 := DB_2s1.set_other (p := ⟨w.heap.size, 2, none⟩) (by show w.heap.size ≠ _; omega) (.slice a2 q.length p2)
    have RW_2s2 := RW_2s1.low (F := w.heap.size) (by omega) 2 (.slice a2 q.length p2)
    have RD_2 := RD_2s2
    have LO_2 := LO_2s2
    have RB_2 : BoxIs (((wq1.setCell ⟨w.heap.size, 0, none⟩ (.slice a0 l.length p0)).setCell ⟨w.heap.size, 1, none⟩ (.slice a1 s.length p1)).setCell ⟨w.heap.size, 2, none⟩ (.slice a2 q.length p2)) w.heap.size #[.slice a0 l.length p0, .slice a1 s.length p1, .slice a2 q.length p2] 31 := RB_2s2
    have DB_2 := DB_2s2
    have RW_2 := RW_2s2
    refine hK.out _ _ DB_2 (fun hSz => ?_)
    clear hK K hSz DB_1 LO_1 RB_1 RD_1 RW_1 RD_2s0 RD_2s1 RD_2s2 LO_2s0 LO_2s1 LO_2s2 RB_2s0 RB_2s1 RB_2s2 DB_2s0 DB_2s1 DB_2s2 RW_2s0 RW_2s1 RW_2s2
    generalize ((wq1.setCell ⟨w.heap.size, 0, none⟩ (.slice a0 l.length p0)).setCell ⟨w.heap.size, 1, none⟩ (.slice a1 s.length p1)).setCell ⟨w.heap.size, 2, none⟩ (.slice a2 q.length p2) = wq2 at RD_2 LO_2 RB_2 DB_2 RW_2 ⊢
    refine wpAnyH_take (i := 5) (v := .string bb) nat5 (by kernel_rfl) (by kernel_rfl) (by kernel_rfl) (fun _ _ _ h => False.elim h) (Or.inl ⟨by rfl, ?_⟩) DB_2 ?_
    · intro wx hSw
      go_simp
    simp only [Act.put, List.setIfInBounds_toArray, List.set_cons_zero, List.set_cons_succ]
    refine wpAnyH_take (i := 6) (v := .string d1) nat6 (by kernel_rfl) (by kernel_rfl) (by kernel_rfl) (fun _ _ _ h => False.elim h) (Or.inl ⟨by rfl, ?_⟩) DB_2 ?_
    · intro wx hSw
      go_simp
    simp only [Act.put, List.setIfInBounds_toArray, List.set_cons_zero, List.set_cons_succ]
    refine wpAnyH_done (by kernel_rfl) ?_ _
    refine NoPanic.normal ?_
    have r0 := RB_2.cell 0
    have r1 := RB_2.cell 1
    have r2 := RB_2.cell 2
    simp only [List.getElem?_toArray, List.getElem?_cons_succ, List.getElem?_cons_zero] at r0 r1 r2
    obtain ⟨_, _, _, _, _, _, e, hZ⟩ := RW_2.is.lists
    rw [dc_live, dc_safe, dc_ops] at e hZ
    simp only [Value.agg.injEq, Array.mk.injEq, List.cons.injEq, and_true, Value.slice.injEq, true_and] at e
    obtain ⟨⟨rfl, rfl⟩, ⟨rfl, rfl⟩, rfl, rfl⟩ := e
    have hL := LO_2
    have hds : d1.size ≤ 20 := by omega
    clear DB_2 LO_2 RB_2 RD_2 RW_2
    go_wp2
    exact bodyPost_ret (v := .tuple #[.agg #[.slice a0 l.length p0, .slice a1 s.length p1, .slice a2 q.length p2], .string bb, .string d1]) (by simp [results, Try.results38, go_sem, r0, r1, r2]) rfl ⟨a0, p0, a1, p1, a2, p2, l, s, q, bb, d1, rfl, HF.out, hme, hds, hZ, hL⟩

end Go.Proofs.Ytejedpmkbkclhaa
