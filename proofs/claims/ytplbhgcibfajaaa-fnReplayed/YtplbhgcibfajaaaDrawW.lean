/- Edits, as they are drawn. (By gen_draww.py.) -/
import Derived.Test.YtplbhgcibfajaaaDrawV
import Derived.Test.YtplbhgcibfajaaaApP
import Derived.Test.YtplbhgcibfajaaaRowG
import Derived.Test.YtplbhgcibfajaaaInts
import Derived.Deep.DeepCutAuto
import Derived.Deep.LoopGhost
namespace Go.Proofs.Ytplbhgcibfajaaa
set_option maxRecDepth 100000
open Go.RowKit Go.Deep

/-- While an edit is drawn: the reader, the version that it is drawn for. -/
structure EdV (W w : World) (g : Nat) (a : Option Addr) (len cap : Nat) (va : Value) (l : List Meta1) (nx sq lg : Int) (x : World) : Prop where
  rd : Rd W x g a len cap
  mv : Mv g w x
  bF : BoxIs x w.heap.size #[va, .int .i64 nx, .int .i64 sq, .int .i64 lg] 32
  bR : BoxIs x (w.heap.size + 1) #[.slice none 0 0, .slice none 0 0, .int .i64 0, .int .i64 0, .int .i64 0] 37
  o0 : OwnMeta w (g + 1) va l
  hg : g < w.heap.size
section
variable {W w : World} {g : Nat} {a : Option Addr} {len cap : Nat} {va : Value} {l : List Meta1} {nx sq lg : Int} {x y : World}
theorem EdV.ov (h : EdV W w g a len cap va l nx sq lg x) : OwnMeta x (g + 1) va l := OwnMeta.mv h.o0 h.mv (by omega)
theorem EdV.call (h : EdV W w g a len cap va l nx sq lg x) (r : Rd W y g a len cap) (m : Mv g x y) : EdV W w g a len cap va l nx sq lg y :=
  ⟨r, h.mv.trans m, h.bF.mv m (by have := h.hg; omega), h.bR.mv m (by have := h.hg; omega), h.o0, h.hg⟩
theorem EdV.next (h : EdV W w g a len cap va l nx sq lg x) (b : Below x.heap.size x y) : EdV W w g a len cap va l nx sq lg y :=
  ⟨h.rd.mv b, mv_below h.mv (b.mono h.mv.size), h.bF.next b, h.bR.next b, h.o0, h.hg⟩
theorem EdV.setE (h : EdV W w g a len cap va l nx sq lg x) {E : Nat} {cs : Array Value} {t : TypeId} (hE : w.heap.size + 1 < E) (_hb : BoxIs x E cs t) (j : Nat) (v : Value) : EdV W w g a len cap va l nx sq lg (x.setCell ⟨E, j, none⟩ v) := by
  have hw := h.hg
  have b : Below (w.heap.size + 2) x (x.setCell ⟨E, j, none⟩ v) := (Below.refl _ _).setCell (p := ⟨E, j, none⟩) (by show w.heap.size + 2 ≤ E; omega) _
  exact ⟨h.rd.keep b (by omega), mv_below h.mv (b.mono (by omega)), h.bF.set_other (by show E ≠ _; omega) _, h.bR.set_other (by show E ≠ _; omega) _, h.o0, h.hg⟩
theorem EdV.grow (h : EdV W w g a len cap va l nx sq lg x) {B n size : Nat} {e : TypeId} {v : Value} {xs : List Value} (ho : x.ownsRow B e size v n xs) (hB : w.heap.size ≤ B) (hB2 : B ≤ x.heap.size) (hg : x.grownBy y v.ownBlock) (h1 : e ≠ 32) (h2 : e ≠ 37) : EdV W w g a len cap va l nx sq lg y := by
  have hw := h.hg
  have b := rg_low ho hB2 hg
  exact ⟨h.rd.keep b (by omega), mv_below h.mv (b.mono hB), rg_box ho hg h.bF h1, rg_box ho hg h.bR h2, h.o0, h.hg⟩
end

/-- .. and the edit itself, in block E. -/
structure EdE (W w : World) (g : Nat) (a : Option Addr) (len cap : Nat) (va : Value) (l : List Meta1) (nx sq lg : Int) (E : Nat) (aa : Value) (adds : List Meta1) (ca : Value) (cuts : List Int) (n s lo : Int) (x : World) : Prop where
  V : EdV W w g a len cap va l nx sq lg x
  bE : BoxIs x E #[aa, ca, .int .i64 n, .int .i64 s, .int .i64 lo] 37
  oa : OwnMeta x w.heap.size aa adds
  oc : OwnI x w.heap.size ca cuts
  hE : w.heap.size + 1 < E
section
variable {W w : World} {g : Nat} {a : Option Addr} {len cap : Nat} {va : Value} {l : List Meta1} {nx sq lg : Int} {E : Nat} {aa : Value} {adds : List Meta1} {ca : Value} {cuts : List Int} {n s lo : Int} {x y : World}
theorem EdE.rd (h : EdE W w g a len cap va l nx sq lg E aa adds ca cuts n s lo x) : Rd W x g a len cap := h.V.rd
theorem EdE.call (h : EdE W w g a len cap va l nx sq lg E aa adds ca cuts n s lo x) (r : Rd W y g a len cap) (m : Mv g x y) : EdE W w g a len cap va l nx sq lg E aa adds ca cuts n s lo y :=
  ⟨h.V.call r m, h.bE.mv m (by have := h.V.hg; have := h.hE; omega), h.oa.mv m h.V.hg, own_mv h.oc m h.V.hg, h.hE⟩
theorem EdE.next (h : EdE W w g a len cap va l nx sq lg E aa adds ca cuts n s lo x) (b : Below x.heap.size x y) : EdE W w g a len cap va l nx sq lg E aa adds ca cuts n s lo y :=
  ⟨h.V.next b, h.bE.next b, h.oa.next b, h.oc.next b, h.hE⟩
theorem EdE.set4 (h : EdE W w g a len cap va l nx sq lg E aa adds ca cuts n s lo x) (lo' : Int) : EdE W w g a len cap va l nx sq lg E aa adds ca cuts n s lo' (x.setCell ⟨E, 4, none⟩ (.int .i64 lo')) :=
  ⟨h.V.setE h.hE h.bE _ _, h.bE.set 4 _, rg_set h.oa h.bE (by decide) _, rg_set h.oc h.bE (by decide) _, h.hE⟩
/-- Another box of the call's own is written, of a file, that was laid behind the row of added files. -/
theorem EdE.setM (h : EdE W w g a len cap va l nx sq lg E aa adds ca cuts n s lo x) {M : Nat} {cs : Array Value} (hM : w.heap.size + 1 < M) (hne : M ≠ E) (hb : BoxIs x M cs 59) (hq : ∀ q, aa.ownBlock = some q → q < M) (j : Nat) (v : Value) : EdE W w g a len cap va l nx sq lg E aa adds ca cuts n s lo (x.setCell ⟨M, j, none⟩ v) :=
  ⟨h.V.setE hM hb _ _, h.bE.set_other (by show M ≠ _; exact hne) _, rg_block h.oa (fun q _ _ hv => Below.heap_setCell _ _ _ _ (by have := hq q hv; show q ≠ M; omega)), rg_set h.oc hb (by decide) _, h.hE⟩
theorem EdE.low (h : EdE W w g a len cap va l nx sq lg E aa adds ca cuts n s lo x) : ∀ q, aa.ownBlock = some q → q < x.heap.size := fun q hq => by
  obtain ⟨cur, hc⟩ := rg_type h.oa hq
  exact (Array.getElem?_eq_some_iff.1 hc).1
/-- What is answered lies in the result's box. -/
theorem EdE.ret (h : EdE W w g a len cap va l nx sq lg E aa adds ca cuts n s lo x) (v0 v1 v2 v3 v4 : Value) : OwnMeta (((((x.setCell ⟨w.heap.size + 1, 0, none⟩ v0).setCell ⟨w.heap.size + 1, 1, none⟩ v1).setCell ⟨w.heap.size + 1, 2, none⟩ v2).setCell ⟨w.heap.size + 1, 3, none⟩ v3).setCell ⟨w.heap.size + 1, 4, none⟩ v4) w.heap.size aa adds ∧ OwnI (((((x.setCell ⟨w.heap.size + 1, 0, none⟩ v0).setCell ⟨w.heap.size + 1, 1, none⟩ v1).setCell ⟨w.heap.size + 1, 2, none⟩ v2).setCell ⟨w.heap.size + 1, 3, none⟩ v3).setCell ⟨w.heap.size + 1, 4, none⟩ v4) w.heap.size ca cuts ∧ Rd W (((((x.setCell ⟨w.heap.size + 1, 0, none⟩ v0).setCell ⟨w.heap.size + 1, 1, none⟩ v1).setCell ⟨w.heap.size + 1, 2, none⟩ v2).setCell ⟨w.heap.size + 1, 3, none⟩ v3).setCell ⟨w.heap.size + 1, 4, none⟩ v4) g a len cap ∧ Mv g w (((((x.setCell ⟨w.heap.size + 1, 0, none⟩ v0).setCell ⟨w.heap.size + 1, 1, none⟩ v1).setCell ⟨w.heap.size + 1, 2, none⟩ v2).setCell ⟨w.heap.size + 1, 3, none⟩ v3).setCell ⟨w.heap.size + 1, 4, none⟩ v4) := by
  have b0 := h.V.bR
  have b1 := b0.set 0 v0
  have b2 := b1.set 1 v1
  have b3 := b2.set 2 v2
  have b4 := b3.set 3 v3
  have hB : Below w.heap.size x (((((x.setCell ⟨w.heap.size + 1, 0, none⟩ v0).setCell ⟨w.heap.size + 1, 1, none⟩ v1).setCell ⟨w.heap.size + 1, 2, none⟩ v2).setCell ⟨w.heap.size + 1, 3, none⟩ v3).setCell ⟨w.heap.size + 1, 4, none⟩ v4) :=
    (((((Below.refl _ _).setCell (p := ⟨w.heap.size + 1, 0, none⟩) (Nat.le_succ _) _).setCell (p := ⟨w.heap.size + 1, 1, none⟩) (Nat.le_succ _) _).setCell (p := ⟨w.heap.size + 1, 2, none⟩) (Nat.le_succ _) _).setCell (p := ⟨w.heap.size + 1, 3, none⟩) (Nat.le_succ _) _).setCell (p := ⟨w.heap.size + 1, 4, none⟩) (Nat.le_succ _) _
  exact ⟨rg_set (rg_set (rg_set (rg_set (rg_set h.oa b0 (by decide) _) b1 (by decide) _) b2 (by decide) _) b3 (by decide) _) b4 (by decide) _,
    rg_set (rg_set (rg_set (rg_set (rg_set h.oc b0 (by decide) _) b1 (by decide) _) b2 (by decide) _) b3 (by decide) _) b4 (by decide) _,
    h.rd.keep hB h.V.hg, mv_below h.V.mv hB⟩
/-- The row of added files has grown, and lies in the box. -/
theorem EdE.added (h : EdE W w g a len cap va l nx sq lg E aa adds ca cuts n s lo x) {v' : Value} {m : Meta1} (ho : OwnMeta y w.heap.size v' (adds ++ [m])) (hg : x.grownBy y aa.ownBlock) : EdE W w g a len cap va l nx sq lg E v' (adds ++ [m]) ca cuts n s lo (y.setCell ⟨E, 0, none⟩ v') := by
  have hB : w.heap.size ≤ x.heap.size := h.V.mv.size
  have V1 := h.V.grow h.oa (Nat.le_refl _) hB hg (by decide) (by decide)
  have bE1 := rg_box h.oa hg h.bE (by decide)
  have oc1 := rg_row h.oa hg h.oc (by decide)
  exact ⟨V1.setE h.hE bE1 _ _, bE1.set 0 _, rg_set ho bE1 (by decide) _, rg_set oc1 bE1 (by decide) _, h.hE⟩
/-- .. and the row of cuts. -/
theorem EdE.cut (h : EdE W w g a len cap va l nx sq lg E aa adds ca cuts n s lo x) {v' : Value} {q : Int} (ho : OwnI y w.heap.size v' (cuts ++ [q])) (hg : x.grownBy y ca.ownBlock) : EdE W w g a len cap va l nx sq lg E aa adds v' (cuts ++ [q]) n s lo (y.setCell ⟨E, 1, none⟩ v') := by
  have hB : w.heap.size ≤ x.heap.size := h.V.mv.size
  have V1 := h.V.grow h.oc (Nat.le_refl _) hB hg (by decide) (by decide)
  have bE1 := rg_box h.oc hg h.bE (by decide)
  have oa1 := rg_row h.oc hg h.oa (by decide)
  exact ⟨V1.setE h.hE bE1 _ _, bE1.set 1 _, rg_set oa1 bE1 (by decide) _, rg_set ho bE1 (by decide) _, h.hE⟩
end

set_option linter.unusedVariables false in
set_option linter.unusedSimpArgs false in
set_option maxHeartbeats 4000000 in
theorem rd_edit (W w : World) (g : Nat) (a : Option Addr) (len cap : Nat) (hc : IsCode W a len) (hl : len ≤ 1048576) (h : Rd W w g a len cap) (va : Value) (l : List Meta1) (nx sq lg : Int) (hln : l.length ≤ 100000)
    (hnx : -1000000 ≤ nx ∧ nx ≤ 1000000) (hsq : -1000000 ≤ sq ∧ sq ≤ 1000000) (hv : OwnMeta w (g + 1) va l) :
    Calls Try.prog 46 #[.pointer (some ⟨g, 0, none⟩), .agg #[va, .int .i64 nx, .int .i64 sq, .int .i64 lg]] w fun e w' => ∃ aa adds ca cuts n s lo, e = .returned (.agg #[aa, ca, .int .i64 n, .int .i64 s, .int .i64 lo]) ∧ OwnMeta w' w.heap.size aa adds ∧ OwnI w' w.heap.size ca cuts ∧ adds.length ≤ 2 ∧ cuts.length ≤ 2 ∧ nx ≤ n ∧ n ≤ nx + 3 ∧ sq ≤ s ∧ s ≤ sq + 8 ∧ Rd W w' g a len cap ∧ Mv g w w' := by
  have hg := h.lt
  obtain ⟨vaA, vaP, rfl⟩ := hv.shape
  have H0 : EdV W w g a len cap (.slice vaA l.length vaP) l nx sq lg ((w.alloc (.cells #[.slice vaA l.length vaP, .int .i64 nx, .int .i64 sq, .int .i64 lg] 32)).alloc (.cells #[.slice none 0 0, .slice none 0 0, .int .i64 0, .int .i64 0, .int .i64 0] 37)) :=
    ⟨(h.mv (below_one _ _)).mv (below_one _ _), mv_below (Mv.of_below (below_one _ _)) ((below_one _ _).mono (by simp)), (BoxIs.new _ _ _ rfl).next (below_one _ _), BoxIs.new _ _ _ (by simp), hv, hg⟩
  clear h
  go_enter Try.func46, Try.ntmps46
  go_wp2_with fail
  generalize (w.alloc (.cells #[.slice vaA l.length vaP, .int .i64 nx, .int .i64 sq, .int .i64 lg] 32)).alloc (.cells #[.slice none 0 0, .slice none 0 0, .int .i64 0, .int .i64 0, .int .i64 0] 37) = W0 at H0 ⊢
  have HNX := hide hnx
  have HSQ := hide hsq
  obtain ⟨hnx0, hnx1⟩ := hnx
  obtain ⟨hsq0, hsq1⟩ := hsq
  go_upto_region 1 with fail
  go_cut [5] (fun t wx => ∃ (E : Nat) (n s lo : Int), t = .pointer (some ⟨E, 0, none⟩) ∧ nx ≤ n ∧ n ≤ nx + 3 ∧ sq ≤ s ∧ s ≤ sq + 8 ∧ Hid (EdE W w g a len cap (.slice vaA l.length vaP) l nx sq lg E (.slice none 0 0) [] (.slice none 0 0) [] n s lo wx))
  case first =>
    refine wp_region_noPanic ?_
    have hb0 : Below W0.heap.size W0 W0.drew := (Below.refl _ _).drew
    have H_0 := H0.next hb0
    refine wp_region_held_drew (S := fun x => BoxIs x w.heap.size #[.slice vaA l.length vaP, .int .i64 nx, .int .i64 sq, .int .i64 lg] 32) (by kernel_rfl) H_0.bF (fun hSz => ?_)
    clear hSz H0
    generalize W0.drew = wq0 at hb0 H_0 ⊢
    clear hb0
    refine wpAnyH_take (i := 0) (v := .pointer (some ⟨w.heap.size, 1, none⟩)) nat0 (by kernel_rfl) (by kernel_rfl) (by kernel_rfl) (fun _ _ _ h => False.elim h) (Or.inl ⟨by rfl, ?_⟩) H_0.bF ?_
    · intro wx hSw
      go_simp
    simp only [Act.put, List.setIfInBounds_toArray, List.set_cons_zero, List.set_cons_succ]
    refine wpAnyH_take (i := 1) (v := .int .i64 nx) nat1 (by kernel_rfl) (by kernel_rfl) (by kernel_rfl) (fun _ _ _ h => False.elim h) (Or.inl ⟨by rfl, ?_⟩) H_0.bF ?_
    · intro wx hSw
      have y0 := hSw.cell 1
      simp only [List.getElem?_toArray, List.getElem?_cons_succ, List.getElem?_cons_zero] at y0
      go_simp
    simp only [Act.put, List.setIfInBounds_toArray, List.set_cons_zero, List.set_cons_succ]
    refine wpAnyH_take (i := 2) (v := .pointer (some ⟨g, 0, none⟩)) nat2 (by kernel_rfl) (by kernel_rfl) (by kernel_rfl) (fun _ _ _ h => False.elim h) (Or.inl ⟨by rfl, ?_⟩) H_0.bF ?_
    · intro wx hSw
      go_simp
    simp only [Act.put, List.setIfInBounds_toArray, List.set_cons_zero, List.set_cons_succ]
    refine wpAnyH_take (i := 5) (v := .pointer (some ⟨w.heap.size, 2, none⟩)) nat5 (by kernel_rfl) (by kernel_rfl) (by kernel_rfl) (fun _ _ _ h => False.elim h) (Or.inl ⟨by rfl, ?_⟩) H_0.bF ?_
    · intro wx hSw
      go_simp
    simp only [Act.put, List.setIfInBounds_toArray, List.set_cons_zero, List.set_cons_succ]
    refine wpAnyH_take (i := 6) (v := .int .i64 sq) nat6 (by kernel_rfl) (by kernel_rfl) (by kernel_rfl) (fun _ _ _ h => False.elim h) (Or.inl ⟨by rfl, ?_⟩) H_0.bF ?_
    · intro wx hSw
      have y0 := hSw.cell 2
      simp only [List.getElem?_toArray, List.getElem?_cons_succ, List.getElem?_cons_zero] at y0
      go_simp
    simp only [Act.put, List.setIfInBounds_toArray, List.set_cons_zero, List.set_cons_succ]
    refine wpAnyH_take (i := 7) (v := .pointer (some ⟨g, 0, none⟩)) nat7 (by kernel_rfl) (by kernel_rfl) (by kernel_rfl) (fun _ _ _ h => False.elim h) (Or.inl ⟨by rfl, ?_⟩) H_0.bF ?_
    · intro wx hSw
      go_simp
    simp only [Act.put, List.setIfInBounds_toArray, List.set_cons_zero, List.set_cons_succ]
    refine wpAnyH_take (i := 10) (v := .pointer (some ⟨w.heap.size, 3, none⟩)) nat10 (by kernel_rfl) (by kernel_rfl) (by kernel_rfl) (fun _ _ _ h => False.elim h) (Or.inl ⟨by rfl, ?_⟩) H_0.bF ?_
    · intro wx hSw
      go_simp
    simp only [Act.put, List.setIfInBounds_toArray, List.set_cons_zero, List.set_cons_succ]
    refine wpAnyH_take (i := 11) (v := .int .i64 lg) nat11 (by kernel_rfl) (by kernel_rfl) (by kernel_rfl) (fun _ _ _ h => False.elim h) (Or.inl ⟨by rfl, ?_⟩) H_0.bF ?_
    · intro wx hSw
      have y0 := hSw.cell 3
      simp only [List.getElem?_toArray, List.getElem?_cons_succ, List.getElem?_cons_zero] at y0
      go_simp
    simp only [Act.put, List.setIfInBounds_toArray, List.set_cons_zero, List.set_cons_succ]
    refine wpAnyH_ready (rs := [3, 13]) (by kernel_rfl) (by simp) ?_
    refine AllReadyH.cons nat3 (fun K hK => ?_) (AllReadyH.cons nat13 (fun K hK => ?_) AllReadyH.nil)
    · go_simp
      go_at_call 51
      refine (rd_below W _ g a len cap (4) (by omega) (by omega) hc hl H_0.rd).mono ?_
      rintro e wq1 ⟨x1, rfl, hx1, hy1, hr1, hb1⟩
      have H_1 := H_0.call hr1 hb1
      refine hK.out _ _ H_1.bF (fun hSz => ?_)
      clear hK K hSz H_0 hb1
      refine wpAnyH_take (i := 4) (v := .int .i64 (nx + x1)) nat4 (by kernel_rfl) (by kernel_rfl) (by kernel_rfl) (fun _ _ _ h => False.elim h) (Or.inl ⟨by rfl, ?_⟩) H_1.bF ?_
      · intro wx hSw
        go_simp
        try (rw [IntKind.wrap_i64]; omega)
      simp only [Act.put, List.setIfInBounds_toArray, List.set_cons_zero, List.set_cons_succ]
      refine wpAnyH_ready (rs := [8, 13]) (by kernel_rfl) (by simp) ?_
      refine AllReadyH.cons nat8 (fun K hK => ?_) (AllReadyH.cons nat13 (fun K hK => ?_) AllReadyH.nil)
      · go_simp
        go_at_call 51
        refine (rd_below W _ g a len cap (9) (by omega) (by omega) hc hl H_1.rd).mono ?_
        rintro e wq2 ⟨x2, rfl, hx2, hy2, hr2, hb2⟩
        have H_2 := H_1.call hr2 hb2
        refine hK.out _ _ H_2.bF (fun hSz => ?_)
        clear hK K hSz H_1 hb2
        refine wpAnyH_take (i := 9) (v := .int .i64 (sq + x2)) nat9 (by kernel_rfl) (by kernel_rfl) (by kernel_rfl) (fun _ _ _ h => False.elim h) (Or.inl ⟨by rfl, ?_⟩) H_2.bF ?_
        · intro wx hSw
          go_simp
          try (rw [IntKind.wrap_i64]; omega)
        simp only [Act.put, List.setIfInBounds_toArray, List.set_cons_zero, List.set_cons_succ]
        refine wpAnyH_take (i := 12) (v := .agg #[.slice none 0 0, .slice none 0 0, .int .i64 (nx + x1), .int .i64 (sq + x2), .int .i64 lg]) nat12 (by kernel_rfl) (by kernel_rfl) (by kernel_rfl) (fun _ _ _ h => False.elim h) (Or.inl ⟨by rfl, ?_⟩) H_2.bF ?_
        · intro wx hSw
          go_simp
        simp only [Act.put, List.setIfInBounds_toArray, List.set_cons_zero, List.set_cons_succ]
        refine wpAnyH_ready (rs := [13]) (by kernel_rfl) (by simp) ?_
        refine AllReadyH.cons nat13 (fun K hK => ?_) AllReadyH.nil
        go_simp
        have hlt3 := H_2.bR.lt
        have hb3 := below_one wq2 (.cells #[.slice none 0 0, .slice none 0 0, .int .i64 0, .int .i64 0, .int .i64 0] 37)
        have H_3 := H_2.next hb3
        have NB5_3 := BoxIs.new wq2 #[.slice none 0 0, .slice none 0 0, .int .i64 0, .int .i64 0, .int .i64 0] 37 rfl
        refine hK.out _ _ H_3.bF (fun hSz => ?_)
        clear hK K hSz H_2
        obtain ⟨G3, hG3⟩ : ∃ G, G = wq2.heap.size := ⟨_, rfl⟩
        rw [← hG3] at NB5_3 ⊢
        generalize wq2.alloc (.cells #[.slice none 0 0, .slice none 0 0, .int .i64 0, .int .i64 0, .int .i64 0] 37) = wq3 at hb3 H_3 NB5_3 ⊢
        rw [← hG3] at hlt3
        clear hG3 hb3
        refine wpAnyH_ready (rs := [14]) (by kernel_rfl) (by simp) ?_
        refine AllReadyH.cons nat14 (fun K hK => ?_) AllReadyH.nil
        have y0 := NB5_3.cell 0
        have y1 := NB5_3.cell 1
        have y2 := NB5_3.cell 2
        have y3 := NB5_3.cell 3
        have y4 := NB5_3.cell 4
        simp only [List.getElem?_toArray, List.getElem?_cons_succ, List.getElem?_cons_zero] at y0 y1 y2 y3 y4
        have yf := NB5_3.free
        go_simp
        clear yf y0 y1 y2 y3 y4
        have H_4s0 := H_3.setE (by omega) NB5_3 0 (.slice none 0 0)
        have NB5_4s0 := NB5_3.set 0 (.slice none 0 0)
        have H_4s1 := H_4s0.setE (by omega) NB5_4s0 1 (.slice none 0 0)
        have NB5_4s1 := NB5_4s0.set 1 (.slice none 0 0)
        have H_4s2 := H_4s1.setE (by omega) NB5_4s1 2 (.int .i64 (nx + x1))
        have NB5_4s2 := NB5_4s1.set 2 (.int .i64 (nx + x1))
        have H_4s3 := H_4s2.setE (by omega) NB5_4s2 3 (.int .i64 (sq + x2))
        have NB5_4s3 := NB5_4s2.set 3 (.int .i64 (sq + x2))
        have H_4s4 := H_4s3.setE (by omega) NB5_4s3 4 (.int .i64 lg)
        have NB5_4s4 := NB5_4s3.set 4 (.int .i64 lg)
        have H_4 := H_4s4
        have NB5_4 : BoxIs (((((wq3.setCell ⟨G3, 0, none⟩ (.slice none 0 0)).setCell ⟨G3, 1, none⟩ (.slice none 0 0)).setCell ⟨G3, 2, none⟩ (.int .i64 (nx + x1))).setCell ⟨G3, 3, none⟩ (.int .i64 (sq + x2))).setCell ⟨G3, 4, none⟩ (.int .i64 lg)) G3 #[.slice none 0 0, .slice none 0 0, .int .i64 (nx + x1), .int .i64 (sq + x2), .int .i64 lg] 37 := NB5_4s4
        refine hK.out _ _ H_4.bF (fun hSz => ?_)
        clear hK K hSz H_3 NB5_3 H_4s0 H_4s1 H_4s2 H_4s3 H_4s4 NB5_4s0 NB5_4s1 NB5_4s2 NB5_4s3 NB5_4s4
        generalize ((((wq3.setCell ⟨G3, 0, none⟩ (.slice none 0 0)).setCell ⟨G3, 1, none⟩ (.slice none 0 0)).setCell ⟨G3, 2, none⟩ (.int .i64 (nx + x1))).setCell ⟨G3, 3, none⟩ (.int .i64 (sq + x2))).setCell ⟨G3, 4, none⟩ (.int .i64 lg) = wq4 at H_4 NB5_4 ⊢
        refine wpAnyH_done (by kernel_rfl) ?_ _
        refine NoPanic.normal ?_
        go_wp2_with fail
        go_meet
        exact ⟨G3, _, _, _, rfl, by omega, by omega, by omega, by omega, hide ⟨H_4, NB5_4, OwnMeta.nil _ _, OwnI.nil _ _, by omega⟩⟩
      · go_simp
        have hlt5 := H_1.bR.lt
        have hb5 := below_one wq1 (.cells #[.slice none 0 0, .slice none 0 0, .int .i64 0, .int .i64 0, .int .i64 0] 37)
        have H_5 := H_1.next hb5
        have NB5_5 := BoxIs.new wq1 #[.slice none 0 0, .slice none 0 0, .int .i64 0, .int .i64 0, .int .i64 0] 37 rfl
        refine hK.out _ _ H_5.bF (fun hSz => ?_)
        clear hK K hSz H_1
        obtain ⟨G5, hG5⟩ : ∃ G, G = wq1.heap.size := ⟨_, rfl⟩
        rw [← hG5] at NB5_5 ⊢
        generalize wq1.alloc (.cells #[.slice none 0 0, .slice none 0 0, .int .i64 0, .int .i64 0, .int .i64 0] 37) = wq5 at hb5 H_5 NB5_5 ⊢
        rw [← hG5] at hlt5
        clear hG5 hb5
        refine wpAnyH_ready (rs := [8]) (by kernel_rfl) (by simp) ?_
        refine AllReadyH.cons nat8 (fun K hK => ?_) AllReadyH.nil
        go_simp
        go_at_call 51
        refine (rd_below W _ g a len cap (9) (by omega) (by omega) hc hl H_5.rd).mono ?_
        rintro e wq6 ⟨x6, rfl, hx6, hy6, hr6, hb6⟩
        have H_6 := H_5.call hr6 hb6
        have NB5_6 := NB5_5.mv hb6 (by omega)
        refine hK.out _ _ H_6.bF (fun hSz => ?_)
        clear hK K hSz H_5 NB5_5 hb6
        refine wpAnyH_take (i := 9) (v := .int .i64 (sq + x6)) nat9 (by kernel_rfl) (by kernel_rfl) (by kernel_rfl) (fun _ _ _ h => False.elim h) (Or.inl ⟨by rfl, ?_⟩) H_6.bF ?_
        · intro wx hSw
          go_simp
          try (rw [IntKind.wrap_i64]; omega)
        simp only [Act.put, List.setIfInBounds_toArray, List.set_cons_zero, List.set_cons_succ]
        refine wpAnyH_take (i := 12) (v := .agg #[.slice none 0 0, .slice none 0 0, .int .i64 (nx + x1), .int .i64 (sq + x6), .int .i64 lg]) nat12 (by kernel_rfl) (by kernel_rfl) (by kernel_rfl) (fun _ _ _ h => False.elim h) (Or.inl ⟨by rfl, ?_⟩) H_6.bF ?_
        · intro wx hSw
          go_simp
        simp only [Act.put, List.setIfInBounds_toArray, List.set_cons_zero, List.set_cons_succ]
        refine wpAnyH_ready (rs := [14]) (by kernel_rfl) (by simp) ?_
        refine AllReadyH.cons nat14 (fun K hK => ?_) AllReadyH.nil
        have y0 := NB5_6.cell 0
        have y1 := NB5_6.cell 1
        have y2 := NB5_6.cell 2
        have y3 := NB5_6.cell 3
        have y4 := NB5_6.cell 4
        simp only [List.getElem?_toArray, List.getElem?_cons_succ, List.getElem?_cons_zero] at y0 y1 y2 y3 y4
        have yf := NB5_6.free
        go_simp
        clear yf y0 y1 y2 y3 y4
        have H_7s0 := H_6.setE (by omega) NB5_6 0 (.slice none 0 0)
        have NB5_7s0 := NB5_6.set 0 (.slice none 0 0)
        have H_7s1 := H_7s0.setE (by omega) NB5_7s0 1 (.slice none 0 0)
        have NB5_7s1 := NB5_7s0.set 1 (.slice none 0 0)
        have H_7s2 := H_7s1.setE (by omega) NB5_7s1 2 (.int .i64 (nx + x1))
        have NB5_7s2 := NB5_7s1.set 2 (.int .i64 (nx + x1))
        have H_7s3 := H_7s2.setE (by omega) NB5_7s2 3 (.int .i64 (sq + x6))
        have NB5_7s3 := NB5_7s2.set 3 (.int .i64 (sq + x6))
        have H_7s4 := H_7s3.setE (by omega) NB5_7s3 4 (.int .i64 lg)
        have NB5_7s4 := NB5_7s3.set 4 (.int .i64 lg)
        have H_7 := H_7s4
        have NB5_7 : BoxIs (((((wq6.setCell ⟨G5, 0, none⟩ (.slice none 0 0)).setCell ⟨G5, 1, none⟩ (.slice none 0 0)).setCell ⟨G5, 2, none⟩ (.int .i64 (nx + x1))).setCell ⟨G5, 3, none⟩ (.int .i64 (sq + x6))).setCell ⟨G5, 4, none⟩ (.int .i64 lg)) G5 #[.slice none 0 0, .slice none 0 0, .int .i64 (nx + x1), .int .i64 (sq + x6), .int .i64 lg] 37 := NB5_7s4
        refine hK.out _ _ H_7.bF (fun hSz => ?_)
        clear hK K hSz H_6 NB5_6 H_7s0 H_7s1 H_7s2 H_7s3 H_7s4 NB5_7s0 NB5_7s1 NB5_7s2 NB5_7s3 NB5_7s4
        generalize ((((wq6.setCell ⟨G5, 0, none⟩ (.slice none 0 0)).setCell ⟨G5, 1, none⟩ (.slice none 0 0)).setCell ⟨G5, 2, none⟩ (.int .i64 (nx + x1))).setCell ⟨G5, 3, none⟩ (.int .i64 (sq + x6))).setCell ⟨G5, 4, none⟩ (.int .i64 lg) = wq7 at H_7 NB5_7 ⊢
        refine wpAnyH_done (by kernel_rfl) ?_ _
        refine NoPanic.normal ?_
        go_wp2_with fail
        go_meet
        exact ⟨G5, _, _, _, rfl, by omega, by omega, by omega, by omega, hide ⟨H_7, NB5_7, OwnMeta.nil _ _, OwnI.nil _ _, by omega⟩⟩
    · go_simp
      have hlt8 := H_0.bR.lt
      have hb8 := below_one wq0 (.cells #[.slice none 0 0, .slice none 0 0, .int .i64 0, .int .i64 0, .int .i64 0] 37)
      have H_8 := H_0.next hb8
      have NB5_8 := BoxIs.new wq0 #[.slice none 0 0, .slice none 0 0, .int .i64 0, .int .i64 0, .int .i64 0] 37 rfl
      refine hK.out _ _ H_8.bF (fun hSz => ?_)
      clear hK K hSz H_0
      obtain ⟨G8, hG8⟩ : ∃ G, G = wq0.heap.size := ⟨_, rfl⟩
      rw [← hG8] at NB5_8 ⊢
      generalize wq0.alloc (.cells #[.slice none 0 0, .slice none 0 0, .int .i64 0, .int .i64 0, .int .i64 0] 37) = wq8 at hb8 H_8 NB5_8 ⊢
      rw [← hG8] at hlt8
      clear hG8 hb8
      refine wpAnyH_ready (rs := [3]) (by kernel_rfl) (by simp) ?_
      refine AllReadyH.cons nat3 (fun K hK => ?_) AllReadyH.nil
      go_simp
      go_at_call 51
      refine (rd_below W _ g a len cap (4) (by omega) (by omega) hc hl H_8.rd).mono ?_
      rintro e wq9 ⟨x9, rfl, hx9, hy9, hr9, hb9⟩
      have H_9 := H_8.call hr9 hb9
      have NB5_9 := NB5_8.mv hb9 (by omega)
      refine hK.out _ _ H_9.bF (fun hSz => ?_)
      clear hK K hSz H_8 NB5_8 hb9
      refine wpAnyH_take (i := 4) (v := .int .i64 (nx + x9)) nat4 (by kernel_rfl) (by kernel_rfl) (by kernel_rfl) (fun _ _ _ h => False.elim h) (Or.inl ⟨by rfl, ?_⟩) H_9.bF ?_
      · intro wx hSw
        go_simp
        try (rw [IntKind.wrap_i64]; omega)
      simp only [Act.put, List.setIfInBounds_toArray, List.set_cons_zero, List.set_cons_succ]
      refine wpAnyH_ready (rs := [8]) (by kernel_rfl) (by simp) ?_
      refine AllReadyH.cons nat8 (fun K hK => ?_) AllReadyH.nil
      go_simp
      go_at_call 51
      refine (rd_below W _ g a len cap (9) (by omega) (by omega) hc hl H_9.rd).mono ?_
      rintro e wq10 ⟨x10, rfl, hx10, hy10, hr10, hb10⟩
      have H_10 := H_9.call hr10 hb10
      have NB5_10 := NB5_9.mv hb10 (by omega)
      refine hK.out _ _ H_10.bF (fun hSz => ?_)
      clear hK K hSz H_9 NB5_9 hb10
      refine wpAnyH_take (i := 9) (v := .int .i64 (sq + x10)) nat9 (by kernel_rfl) (by kernel_rfl) (by kernel_rfl) (fun _ _ _ h => False.elim h) (Or.inl ⟨by rfl, ?_⟩) H_10.bF ?_
      · intro wx hSw
        go_simp
        try (rw [IntKind.wrap_i64]; omega)
      simp only [Act.put, List.setIfInBounds_toArray, List.set_cons_zero, List.set_cons_succ]
      refine wpAnyH_take (i := 12) (v := .agg #[.slice none 0 0, .slice none 0 0, .int .i64 (nx + x9), .int .i64 (sq + x10), .int .i64 lg]) nat12 (by kernel_rfl) (by kernel_rfl) (by kernel_rfl) (fun _ _ _ h => False.elim h) (Or.inl ⟨by rfl, ?_⟩) H_10.bF ?_
      · intro wx hSw
        go_simp
      simp only [Act.put, List.setIfInBounds_toArray, List.set_cons_zero, List.set_cons_succ]
      refine wpAnyH_ready (rs := [14]) (by kernel_rfl) (by simp) ?_
      refine AllReadyH.cons nat14 (fun K hK => ?_) AllReadyH.nil
      have y0 := NB5_10.cell 0
      have y1 := NB5_10.cell 1
      have y2 := NB5_10.cell 2
      have y3 := NB5_10.cell 3
      have y4 := NB5_10.cell 4
      simp only [List.getElem?_toArray, List.getElem?_cons_succ, List.getElem?_cons_zero] at y0 y1 y2 y3 y4
      have yf := NB5_10.free
      go_simp
      clear yf y0 y1 y2 y3 y4
      have H_11s0 := H_10.setE (by omega) NB5_10 0 (.slice none 0 0)
      have NB5_11s0 := NB5_10.set 0 (.slice none 0 0)
      have H_11s1 := H_11s0.setE (by omega) NB5_11s0 1 (.slice none 0 0)
      have NB5_11s1 := NB5_11s0.set 1 (.slice none 0 0)
      have H_11s2 := H_11s1.setE (by omega) NB5_11s1 2 (.int .i64 (nx + x9))
      have NB5_11s2 := NB5_11s1.set 2 (.int .i64 (nx + x9))
      have H_11s3 := H_11s2.setE (by omega) NB5_11s2 3 (.int .i64 (sq + x10))
      have NB5_11s3 := NB5_11s2.set 3 (.int .i64 (sq + x10))
      have H_11s4 := H_11s3.setE (by omega) NB5_11s3 4 (.int .i64 lg)
      have NB5_11s4 := NB5_11s3.set 4 (.int .i64 lg)
      have H_11 := H_11s4
      have NB5_11 : BoxIs (((((wq10.setCell ⟨G8, 0, none⟩ (.slice none 0 0)).setCell ⟨G8, 1, none⟩ (.slice none 0 0)).setCell ⟨G8, 2, none⟩ (.int .i64 (nx + x9))).setCell ⟨G8, 3, none⟩ (.int .i64 (sq + x10))).setCell ⟨G8, 4, none⟩ (.int .i64 lg)) G8 #[.slice none 0 0, .slice none 0 0, .int .i64 (nx + x9), .int .i64 (sq + x10), .int .i64 lg] 37 := NB5_11s4
      refine hK.out _ _ H_11.bF (fun hSz => ?_)
      clear hK K hSz H_10 NB5_10 H_11s0 H_11s1 H_11s2 H_11s3 H_11s4 NB5_11s0 NB5_11s1 NB5_11s2 NB5_11s3 NB5_11s4
      generalize ((((wq10.setCell ⟨G8, 0, none⟩ (.slice none 0 0)).setCell ⟨G8, 1, none⟩ (.slice none 0 0)).setCell ⟨G8, 2, none⟩ (.int .i64 (nx + x9))).setCell ⟨G8, 3, none⟩ (.int .i64 (sq + x10))).setCell ⟨G8, 4, none⟩ (.int .i64 lg) = wq11 at H_11 NB5_11 ⊢
      refine wpAnyH_done (by kernel_rfl) ?_ _
      refine NoPanic.normal ?_
      go_wp2_with fail
      go_meet
      exact ⟨G8, _, _, _, rfl, by omega, by omega, by omega, by omega, hide ⟨H_11, NB5_11, OwnMeta.nil _ _, OwnI.nil _ _, by omega⟩⟩
  case rest =>
  obtain ⟨E, n, s, lo, rfl, hn0, hn1, hs0, hs1, HE⟩ := hcut
  clear H0
  go_wp2_with fail
  refine (rd_once W _ g a len cap 3 (by omega) (by omega) hc hl HE.out.rd).mono ?_
  rintro e w2 ⟨b, rfl, hr2, hm2⟩
  have HE2 := hide (HE.out.call hr2 hm2)
  clear HE hr2 hm2
  go_upto_if 22 with fail
  go_cut [] (fun wx => ∃ lo, Hid (EdE W w g a len cap (.slice vaA l.length vaP) l nx sq lg E (.slice none 0 0) [] (.slice none 0 0) [] n s lo wx))
  case first =>
    cases b with
    | true =>
      have y0 := HE2.out.bE.cell 2
      have y1 := HE2.out.bE.cell 4
      simp only [List.getElem?_toArray, List.getElem?_cons_succ, List.getElem?_cons_zero] at y0 y1
      have yf := HE2.out.bE.free
      have hw1 : IntKind.i64.wrap (n - 1) = n - 1 := by rw [IntKind.wrap_i64]; omega
      go_wp2
      go_meet
      exact ⟨n - 1, hide (HE2.out.set4 _)⟩
    | false =>
      go_wp2
      go_meet
      exact ⟨lo, HE2⟩
  case rest =>
  obtain ⟨lo2, HE⟩ := hcut
  clear HE2
  go_upto_region 4 with fail
  go_cut [34] (fun t wx => ∃ b : Bool, t = .bool b ∧ (b = true → l.length ≠ 0) ∧ Hid (EdE W w g a len cap (.slice vaA l.length vaP) l nx sq lg E (.slice none 0 0) [] (.slice none 0 0) [] n s lo2 wx))
  case first =>
    have y0 := HE.out.V.bF.cell 0
    simp only [List.getElem?_toArray, List.getElem?_cons_succ, List.getElem?_cons_zero] at y0
    by_cases hl0 : l.length = 0
    · have hz : ¬ (0 < (l.length : Int)) := by omega
      clear hl0
      go_wp2
      go_meet
      exact ⟨false, rfl, (fun e => by cases e), HE⟩
    · have hz : 0 < (l.length : Int) := by omega
      go_wp2_with fail
      have HL0 := hide hl0
      clear hl0
      refine (rd_once W _ g a len cap 2 (by omega) (by omega) hc hl HE.out.rd).mono ?_
      rintro e w3 ⟨b2, rfl, hr2, hm2⟩
      have HE2 := hide (HE.out.call hr2 hm2)
      clear HE hr2 hm2
      go_wp2
      go_meet
      exact ⟨b2, rfl, fun _ => HL0.out, HE2⟩
  case rest =>
  obtain ⟨b4, rfl, hb4, HE4⟩ := hcut
  clear HE
  go_upto_if 34 with fail
  go_cut [] (fun wx => ∃ ca cuts, cuts.length ≤ 1 ∧ Hid (EdE W w g a len cap (.slice vaA l.length vaP) l nx sq lg E (.slice none 0 0) [] ca cuts n s lo2 wx))
  case first =>
    cases b4 with
    | false =>
      go_wp2
      go_meet
      exact ⟨_, [], by simp, HE4⟩
    | true =>
      have hl0 := hb4 rfl
      obtain ⟨gs, cp, hvs⟩ := rg_some (show World.ownsRow _ _ _ _ _ _ _ from HE4.out.V.ov) hl0
      obtain ⟨rfl, rfl⟩ : vaA = some ⟨gs, 0, none⟩ ∧ vaP = cp := by simpa using hvs
      clear hvs hb4
      go_upto_region 5 with fail
      have HV := HE4.out.V
      have BE := HE4.out.bE
      have OA := HE4.out.oa
      have OC := HE4.out.oc
      have hE := HE4.out.hE
      have hi5 : (Try.prog.info? 2).map (fun i => (i.zero, i.size, i.bytes)) = some (some (.int .i64 0), 1, 8) := by kernel_rfl
      clear HE4
      refine wp_region_noPanic ?_
      have hb0 : Below wc.heap.size wc wc.drew := (Below.refl _ _).drew
      have HV_0 := HV.next hb0
      have BE_0 := BE.next hb0
      have OA_0 := OA.next hb0
      have OC_0 := OC.next hb0
      refine wp_region_held_drew (S := fun x => BoxIs x w.heap.size #[.slice (some ⟨gs, 0, none⟩) l.length vaP, .int .i64 nx, .int .i64 sq, .int .i64 lg] 32 ∧ OwnMeta x (g + 1) (.slice (some ⟨gs, 0, none⟩) l.length vaP) l) (by kernel_rfl) ⟨HV_0.bF, HV_0.ov⟩ (fun hSz => ?_)
      clear hSz BE HV OA OC
      generalize wc.drew = wq0 at hb0 HV_0 BE_0 OA_0 OC_0 ⊢
      clear hb0
      refine wpAnyH_take (i := 0) (v := .pointer (some ⟨E, 1, none⟩)) nat0 (by kernel_rfl) (by kernel_rfl) (by kernel_rfl) (fun _ _ _ h => False.elim h) (Or.inl ⟨by rfl, ?_⟩) ⟨HV_0.bF, HV_0.ov⟩ ?_
      · intro wx hSw
        go_simp
      simp only [Act.put, List.setIfInBounds_toArray, List.set_cons_zero, List.set_cons_succ]
      refine wpAnyH_take (i := 2) (v := .pointer (some ⟨w.heap.size, 0, none⟩)) nat2 (by kernel_rfl) (by kernel_rfl) (by kernel_rfl) (fun _ _ _ h => False.elim h) (Or.inl ⟨by rfl, ?_⟩) ⟨HV_0.bF, HV_0.ov⟩ ?_
      · intro wx hSw
        go_simp
      simp only [Act.put, List.setIfInBounds_toArray, List.set_cons_zero, List.set_cons_succ]
      refine wpAnyH_take (i := 3) (v := .slice (some ⟨gs, 0, none⟩) l.length vaP) nat3 (by kernel_rfl) (by kernel_rfl) (by kernel_rfl) (fun _ _ _ h => False.elim h) (Or.inl ⟨by rfl, ?_⟩) ⟨HV_0.bF, HV_0.ov⟩ ?_
      · intro wx hSw
        have y0 := hSw.1.cell 0
        simp only [List.getElem?_toArray, List.getElem?_cons_succ, List.getElem?_cons_zero] at y0
        go_simp
      simp only [Act.put, List.setIfInBounds_toArray, List.set_cons_zero, List.set_cons_succ]
      refine wpAnyH_take (i := 4) (v := .pointer (some ⟨g, 0, none⟩)) nat4 (by kernel_rfl) (by kernel_rfl) (by kernel_rfl) (fun _ _ _ h => False.elim h) (Or.inl ⟨by rfl, ?_⟩) ⟨HV_0.bF, HV_0.ov⟩ ?_
      · intro wx hSw
        go_simp
      simp only [Act.put, List.setIfInBounds_toArray, List.set_cons_zero, List.set_cons_succ]
      refine wpAnyH_take (i := 5) (v := .pointer (some ⟨w.heap.size, 0, none⟩)) nat5 (by kernel_rfl) (by kernel_rfl) (by kernel_rfl) (fun _ _ _ h => False.elim h) (Or.inl ⟨by rfl, ?_⟩) ⟨HV_0.bF, HV_0.ov⟩ ?_
      · intro wx hSw
        go_simp
      simp only [Act.put, List.setIfInBounds_toArray, List.set_cons_zero, List.set_cons_succ]
      refine wpAnyH_take (i := 6) (v := .slice (some ⟨gs, 0, none⟩) l.length vaP) nat6 (by kernel_rfl) (by kernel_rfl) (by kernel_rfl) (fun _ _ _ h => False.elim h) (Or.inl ⟨by rfl, ?_⟩) ⟨HV_0.bF, HV_0.ov⟩ ?_
      · intro wx hSw
        have y0 := hSw.1.cell 0
        simp only [List.getElem?_toArray, List.getElem?_cons_succ, List.getElem?_cons_zero] at y0
        go_simp
      simp only [Act.put, List.setIfInBounds_toArray, List.set_cons_zero, List.set_cons_succ]
      refine wpAnyH_take (i := 7) (v := .int .i64 (((l.length : Nat) : Int))) nat7 (by kernel_rfl) (by kernel_rfl) (by kernel_rfl) (fun _ _ _ h => False.elim h) (Or.inl ⟨by rfl, ?_⟩) ⟨HV_0.bF, HV_0.ov⟩ ?_
      · intro wx hSw
        go_simp
      simp only [Act.put, List.setIfInBounds_toArray, List.set_cons_zero, List.set_cons_succ]
      refine wpAnyH_ready (rs := [1, 8]) (by kernel_rfl) (by simp) ?_
      refine AllReadyH.cons nat1 (fun K hK => ?_) (AllReadyH.cons nat8 (fun K hK => ?_) AllReadyH.nil)
      · have y0 := BE_0.cell 1
        simp only [List.getElem?_toArray, List.getElem?_cons_succ, List.getElem?_cons_zero] at y0
        go_simp
        refine hK.out _ _ ⟨HV_0.bF, HV_0.ov⟩ (fun hSz => ?_)
        clear hK K hSz y0
        try simp only [Act.put, List.setIfInBounds_toArray, List.set_cons_zero, List.set_cons_succ]
        refine wpAnyH_ready (rs := [8]) (by kernel_rfl) (by simp) ?_
        refine AllReadyH.cons nat8 (fun K hK => ?_) AllReadyH.nil
        go_simp
        go_at_call 51
        refine (rd_below W _ g a len cap (((l.length : Nat) : Int)) (by omega) (by omega) hc hl HV_0.rd).mono ?_
        rintro e wq2 ⟨x2, rfl, hx2, hy2, hr2, hb2⟩
        obtain ⟨k2, rfl⟩ := Int.eq_ofNat_of_zero_le hx2
        have hkl2 : k2 < l.length := by omega
        obtain ⟨m2, hm2⟩ : ∃ m, l[k2]? = some m := ⟨_, List.getElem?_eq_getElem hkl2⟩
        have HV_2 := HV_0.call hr2 hb2
        have BE_2 := BE_0.mv hb2 (by omega)
        have OA_2 := OwnMeta.mv OA_0 hb2 hg
        have OC_2 := (show OwnI _ _ _ _ from own_mv OC_0 hb2 hg)
        refine hK.out _ _ ⟨HV_2.bF, HV_2.ov⟩ (fun hSz => ?_)
        clear hK K hSz BE_0 HV_0 OA_0 OC_0 hb2
        refine wpAnyH_take (i := 9) (v := .pointer (some ⟨gs, k2 * 5, none⟩)) nat9 (by kernel_rfl) (by kernel_rfl) (by kernel_rfl) (fun _ _ _ h => False.elim h) (Or.inl ⟨by rfl, ?_⟩) ⟨HV_2.bF, HV_2.ov⟩ ?_
        · intro wx hSw
          go_simp
        simp only [Act.put, List.setIfInBounds_toArray, List.set_cons_zero, List.set_cons_succ]
        refine wpAnyH_take (i := 10) (v := .pointer (some ⟨gs, k2 * 5, none⟩)) nat10 (by kernel_rfl) (by kernel_rfl) (by kernel_rfl) (fun _ _ _ h => False.elim h) (Or.inl ⟨by rfl, ?_⟩) ⟨HV_2.bF, HV_2.ov⟩ ?_
        · intro wx hSw
          go_simp
        simp only [Act.put, List.setIfInBounds_toArray, List.set_cons_zero, List.set_cons_succ]
        refine wpAnyH_take (i := 11) (v := .int .i64 m2.n) nat11 (by kernel_rfl) (by kernel_rfl) (by kernel_rfl) (fun _ _ _ h => False.elim h) (Or.inl ⟨by rfl, ?_⟩) ⟨HV_2.bF, HV_2.ov⟩ ?_
        · intro wx hSw
          have y0 := (hSw.2.five hm2).1
          go_simp
        simp only [Act.put, List.setIfInBounds_toArray, List.set_cons_zero, List.set_cons_succ]
        refine wpAnyH_ready (rs := [12]) (by kernel_rfl) (by simp) ?_
        refine AllReadyH.cons nat12 (fun K hK => ?_) AllReadyH.nil
        go_simp
        have hb3 := below_one wq2 (.cells #[.int .i64 m2.n] 2)
        have HV_3 := HV_2.next hb3
        have BE_3 := BE_2.next hb3
        have OA_3 := OA_2.next hb3
        have OC_3 := OC_2.next hb3
        have NB47_3 := BoxIs.new wq2 #[.int .i64 m2.n] 2 rfl
        refine hK.out _ _ ⟨HV_3.bF, HV_3.ov⟩ (fun hSz => ?_)
        clear hK K hSz BE_2 HV_2 OA_2 OC_2
        obtain ⟨G3, hG3⟩ : ∃ G, G = wq2.heap.size := ⟨_, rfl⟩
        rw [← hG3] at NB47_3 ⊢
        generalize wq2.alloc (.cells #[.int .i64 m2.n] 2) = wq3 at hb3 HV_3 BE_3 OA_3 OC_3 NB47_3 ⊢
        clear hG3 hb3
        refine wpAnyH_ready (rs := [13]) (by kernel_rfl) (by simp) ?_
        refine AllReadyH.cons nat13 (fun K hK => ?_) AllReadyH.nil
        refine step_append_row rfl (.tmp 36) (.tmp 47) 25 rfl 2 Try.underlying25 1 8 hi5 rfl (by decide) (by decide) w.heap.size (.slice none 0 0) _ _ (by rfl) OC_3 ⟨G3, 0, none⟩ 1 1 [.int .i64 m2.n] (by rfl) rfl (by simp [Value.oneCell']) (rg_news (us := [.int .i64 m2.n]) NB47_3) HV_3.mv.size (by simp <;> omega) ?_
        intro v4 wq4 h1 h2
        have hC4 : OwnI wq4 w.heap.size v4 ([] ++ [m2.n]) := by show World.ownsRow _ _ _ _ _ _ _; rw [List.map_append, List.length_append]; exact h1
        obtain ⟨va4, vn4, vp4, rfl⟩ : ∃ a n p, v4 = .slice a n p := by obtain ⟨a, p, e⟩ := rg_shape h1; exact ⟨_, _, _, e⟩
        clear h1
        have HV_4 := HV_3.grow OC_3 (Nat.le_refl _) HV_3.mv.size h2 (by decide) (by decide)
        have BE_4 := rg_box OC_3 h2 BE_3 (by decide)
        have OA_4 := (show OwnMeta _ _ _ _ from rg_row OC_3 h2 OA_3 (by decide))
        have OC_4 := hC4
        refine hK.out _ _ ⟨HV_4.bF, HV_4.ov⟩ (fun hSz => ?_)
        clear hK K hSz BE_3 HV_3 NB47_3 OA_3 OC_3
        clear hC4 h2
        refine wpAnyH_take (i := 14) (v := .pointer (some ⟨E, 1, none⟩)) nat14 (by kernel_rfl) (by kernel_rfl) (by kernel_rfl) (fun _ _ _ h => False.elim h) (Or.inl ⟨by rfl, ?_⟩) ⟨HV_4.bF, HV_4.ov⟩ ?_
        · intro wx hSw
          go_simp
        simp only [Act.put, List.setIfInBounds_toArray, List.set_cons_zero, List.set_cons_succ]
        refine wpAnyH_ready (rs := [15]) (by kernel_rfl) (by simp) ?_
        refine AllReadyH.cons nat15 (fun K hK => ?_) AllReadyH.nil
        have y0 := BE_4.cell 1
        simp only [List.getElem?_toArray, List.getElem?_cons_succ, List.getElem?_cons_zero] at y0
        have yf := BE_4.free
        go_simp
        clear yf y0
        have HV_5s0 := HV_4.setE hE BE_4 1 (.slice va4 vn4 vp4)
        have BE_5s0 := BE_4.set 1 (.slice va4 vn4 vp4)
        have OA_5s0 := (show OwnMeta _ _ _ _ from rg_set (o := 1) OA_4 BE_4 (by decide) (.slice va4 vn4 vp4))
        have OC_5s0 := (show OwnI _ _ _ _ from rg_set (o := 1) OC_4 BE_4 (by decide) (.slice va4 vn4 vp4))
        have HV_5 := HV_5s0
        have BE_5 : BoxIs (wq4.setCell ⟨E, 1, none⟩ (.slice va4 vn4 vp4)) E #[.slice none 0 0, .slice va4 vn4 vp4, .int .i64 n, .int .i64 s, .int .i64 lo2] 37 := BE_5s0
        have OA_5 := OA_5s0
        have OC_5 := OC_5s0
        refine hK.out _ _ ⟨HV_5.bF, HV_5.ov⟩ (fun hSz => ?_)
        clear hK K hSz BE_4 HV_4 OA_4 OC_4 HV_5s0 BE_5s0 OA_5s0 OC_5s0
        generalize wq4.setCell ⟨E, 1, none⟩ (.slice va4 vn4 vp4) = wq5 at HV_5 BE_5 OA_5 OC_5 ⊢
        refine wpAnyH_done (by kernel_rfl) ?_ _
        refine NoPanic.normal ?_
        go_wp2_with fail
        go_meet
        exact ⟨_, _, by simp, hide ⟨HV_5, BE_5, OA_5, OC_5, hE⟩⟩
      · go_simp
        go_at_call 51
        refine (rd_below W _ g a len cap (((l.length : Nat) : Int)) (by omega) (by omega) hc hl HV_0.rd).mono ?_
        rintro e wq6 ⟨x6, rfl, hx6, hy6, hr6, hb6⟩
        obtain ⟨k6, rfl⟩ := Int.eq_ofNat_of_zero_le hx6
        have hkl6 : k6 < l.length := by omega
        obtain ⟨m6, hm6⟩ : ∃ m, l[k6]? = some m := ⟨_, List.getElem?_eq_getElem hkl6⟩
        have HV_6 := HV_0.call hr6 hb6
        have BE_6 := BE_0.mv hb6 (by omega)
        have OA_6 := OwnMeta.mv OA_0 hb6 hg
        have OC_6 := (show OwnI _ _ _ _ from own_mv OC_0 hb6 hg)
        refine hK.out _ _ ⟨HV_6.bF, HV_6.ov⟩ (fun hSz => ?_)
        clear hK K hSz BE_0 HV_0 OA_0 OC_0 hb6
        refine wpAnyH_take (i := 9) (v := .pointer (some ⟨gs, k6 * 5, none⟩)) nat9 (by kernel_rfl) (by kernel_rfl) (by kernel_rfl) (fun _ _ _ h => False.elim h) (Or.inl ⟨by rfl, ?_⟩) ⟨HV_6.bF, HV_6.ov⟩ ?_
        · intro wx hSw
          go_simp
        simp only [Act.put, List.setIfInBounds_toArray, List.set_cons_zero, List.set_cons_succ]
        refine wpAnyH_take (i := 10) (v := .pointer (some ⟨gs, k6 * 5, none⟩)) nat10 (by kernel_rfl) (by kernel_rfl) (by kernel_rfl) (fun _ _ _ h => False.elim h) (Or.inl ⟨by rfl, ?_⟩) ⟨HV_6.bF, HV_6.ov⟩ ?_
        · intro wx hSw
          go_simp
        simp only [Act.put, List.setIfInBounds_toArray, List.set_cons_zero, List.set_cons_succ]
        refine wpAnyH_take (i := 11) (v := .int .i64 m6.n) nat11 (by kernel_rfl) (by kernel_rfl) (by kernel_rfl) (fun _ _ _ h => False.elim h) (Or.inl ⟨by rfl, ?_⟩) ⟨HV_6.bF, HV_6.ov⟩ ?_
        · intro wx hSw
          have y0 := (hSw.2.five hm6).1
          go_simp
        simp only [Act.put, List.setIfInBounds_toArray, List.set_cons_zero, List.set_cons_succ]
        refine wpAnyH_ready (rs := [1, 12]) (by kernel_rfl) (by simp) ?_
        refine AllReadyH.cons nat1 (fun K hK => ?_) (AllReadyH.cons nat12 (fun K hK => ?_) AllReadyH.nil)
        · have y0 := BE_6.cell 1
          simp only [List.getElem?_toArray, List.getElem?_cons_succ, List.getElem?_cons_zero] at y0
          go_simp
          refine hK.out _ _ ⟨HV_6.bF, HV_6.ov⟩ (fun hSz => ?_)
          clear hK K hSz y0
          try simp only [Act.put, List.setIfInBounds_toArray, List.set_cons_zero, List.set_cons_succ]
          refine wpAnyH_ready (rs := [12]) (by kernel_rfl) (by simp) ?_
          refine AllReadyH.cons nat12 (fun K hK => ?_) AllReadyH.nil
          go_simp
          have hb8 := below_one wq6 (.cells #[.int .i64 m6.n] 2)
          have HV_8 := HV_6.next hb8
          have BE_8 := BE_6.next hb8
          have OA_8 := OA_6.next hb8
          have OC_8 := OC_6.next hb8
          have NB47_8 := BoxIs.new wq6 #[.int .i64 m6.n] 2 rfl
          refine hK.out _ _ ⟨HV_8.bF, HV_8.ov⟩ (fun hSz => ?_)
          clear hK K hSz BE_6 HV_6 OA_6 OC_6
          obtain ⟨G8, hG8⟩ : ∃ G, G = wq6.heap.size := ⟨_, rfl⟩
          rw [← hG8] at NB47_8 ⊢
          generalize wq6.alloc (.cells #[.int .i64 m6.n] 2) = wq8 at hb8 HV_8 BE_8 OA_8 OC_8 NB47_8 ⊢
          clear hG8 hb8
          refine wpAnyH_ready (rs := [13]) (by kernel_rfl) (by simp) ?_
          refine AllReadyH.cons nat13 (fun K hK => ?_) AllReadyH.nil
          refine step_append_row rfl (.tmp 36) (.tmp 47) 25 rfl 2 Try.underlying25 1 8 hi5 rfl (by decide) (by decide) w.heap.size (.slice none 0 0) _ _ (by rfl) OC_8 ⟨G8, 0, none⟩ 1 1 [.int .i64 m6.n] (by rfl) rfl (by simp [Value.oneCell']) (rg_news (us := [.int .i64 m6.n]) NB47_8) HV_8.mv.size (by simp <;> omega) ?_
          intro v9 wq9 h1 h2
          have hC9 : OwnI wq9 w.heap.size v9 ([] ++ [m6.n]) := by show World.ownsRow _ _ _ _ _ _ _; rw [List.map_append, List.length_append]; exact h1
          obtain ⟨va9, vn9, vp9, rfl⟩ : ∃ a n p, v9 = .slice a n p := by obtain ⟨a, p, e⟩ := rg_shape h1; exact ⟨_, _, _, e⟩
          clear h1
          have HV_9 := HV_8.grow OC_8 (Nat.le_refl _) HV_8.mv.size h2 (by decide) (by decide)
          have BE_9 := rg_box OC_8 h2 BE_8 (by decide)
          have OA_9 := (show OwnMeta _ _ _ _ from rg_row OC_8 h2 OA_8 (by decide))
          have OC_9 := hC9
          refine hK.out _ _ ⟨HV_9.bF, HV_9.ov⟩ (fun hSz => ?_)
          clear hK K hSz BE_8 HV_8 NB47_8 OA_8 OC_8
          clear hC9 h2
          refine wpAnyH_take (i := 14) (v := .pointer (some ⟨E, 1, none⟩)) nat14 (by kernel_rfl) (by kernel_rfl) (by kernel_rfl) (fun _ _ _ h => False.elim h) (Or.inl ⟨by rfl, ?_⟩) ⟨HV_9.bF, HV_9.ov⟩ ?_
          · intro wx hSw
            go_simp
          simp only [Act.put, List.setIfInBounds_toArray, List.set_cons_zero, List.set_cons_succ]
          refine wpAnyH_ready (rs := [15]) (by kernel_rfl) (by simp) ?_
          refine AllReadyH.cons nat15 (fun K hK => ?_) AllReadyH.nil
          have y0 := BE_9.cell 1
          simp only [List.getElem?_toArray, List.getElem?_cons_succ, List.getElem?_cons_zero] at y0
          have yf := BE_9.free
          go_simp
          clear yf y0
          have HV_10s0 := HV_9.setE hE BE_9 1 (.slice va9 vn9 vp9)
          have BE_10s0 := BE_9.set 1 (.slice va9 vn9 vp9)
          have OA_10s0 := (show OwnMeta _ _ _ _ from rg_set (o := 1) OA_9 BE_9 (by decide) (.slice va9 vn9 vp9))
          have OC_10s0 := (show OwnI _ _ _ _ from rg_set (o := 1) OC_9 BE_9 (by decide) (.slice va9 vn9 vp9))
          have HV_10 := HV_10s0
          have BE_10 : BoxIs (wq9.setCell ⟨E, 1, none⟩ (.slice va9 vn9 vp9)) E #[.slice none 0 0, .slice va9 vn9 vp9, .int .i64 n, .int .i64 s, .int .i64 lo2] 37 := BE_10s0
          have OA_10 := OA_10s0
          have OC_10 := OC_10s0
          refine hK.out _ _ ⟨HV_10.bF, HV_10.ov⟩ (fun hSz => ?_)
          clear hK K hSz BE_9 HV_9 OA_9 OC_9 HV_10s0 BE_10s0 OA_10s0 OC_10s0
          generalize wq9.setCell ⟨E, 1, none⟩ (.slice va9 vn9 vp9) = wq10 at HV_10 BE_10 OA_10 OC_10 ⊢
          refine wpAnyH_done (by kernel_rfl) ?_ _
          refine NoPanic.normal ?_
          go_wp2_with fail
          go_meet
          exact ⟨_, _, by simp, hide ⟨HV_10, BE_10, OA_10, OC_10, hE⟩⟩
        · go_simp
          have hb11 := below_one wq6 (.cells #[.int .i64 m6.n] 2)
          have HV_11 := HV_6.next hb11
          have BE_11 := BE_6.next hb11
          have OA_11 := OA_6.next hb11
          have OC_11 := OC_6.next hb11
          have NB47_11 := BoxIs.new wq6 #[.int .i64 m6.n] 2 rfl
          refine hK.out _ _ ⟨HV_11.bF, HV_11.ov⟩ (fun hSz => ?_)
          clear hK K hSz BE_6 HV_6 OA_6 OC_6
          obtain ⟨G11, hG11⟩ : ∃ G, G = wq6.heap.size := ⟨_, rfl⟩
          rw [← hG11] at NB47_11 ⊢
          generalize wq6.alloc (.cells #[.int .i64 m6.n] 2) = wq11 at hb11 HV_11 BE_11 OA_11 OC_11 NB47_11 ⊢
          clear hG11 hb11
          refine wpAnyH_ready (rs := [1]) (by kernel_rfl) (by simp) ?_
          refine AllReadyH.cons nat1 (fun K hK => ?_) AllReadyH.nil
          have y0 := BE_11.cell 1
          simp only [List.getElem?_toArray, List.getElem?_cons_succ, List.getElem?_cons_zero] at y0
          go_simp
          refine hK.out _ _ ⟨HV_11.bF, HV_11.ov⟩ (fun hSz => ?_)
          clear hK K hSz y0
          try simp only [Act.put, List.setIfInBounds_toArray, List.set_cons_zero, List.set_cons_succ]
          refine wpAnyH_ready (rs := [13]) (by kernel_rfl) (by simp) ?_
          refine AllReadyH.cons nat13 (fun K hK => ?_) AllReadyH.nil
          refine step_append_row rfl (.tmp 36) (.tmp 47) 25 rfl 2 Try.underlying25 1 8 hi5 rfl (by decide) (by decide) w.heap.size (.slice none 0 0) _ _ (by rfl) OC_11 ⟨G11, 0, none⟩ 1 1 [.int .i64 m6.n] (by rfl) rfl (by simp [Value.oneCell']) (rg_news (us := [.int .i64 m6.n]) NB47_11) HV_11.mv.size (by simp <;> omega) ?_
          intro v13 wq13 h1 h2
          have hC13 : OwnI wq13 w.heap.size v13 ([] ++ [m6.n]) := by show World.ownsRow _ _ _ _ _ _ _; rw [List.map_append, List.length_append]; exact h1
          obtain ⟨va13, vn13, vp13, rfl⟩ : ∃ a n p, v13 = .slice a n p := by obtain ⟨a, p, e⟩ := rg_shape h1; exact ⟨_, _, _, e⟩
          clear h1
          have HV_13 := HV_11.grow OC_11 (Nat.le_refl _) HV_11.mv.size h2 (by decide) (by decide)
          have BE_13 := rg_box OC_11 h2 BE_11 (by decide)
          have OA_13 := (show OwnMeta _ _ _ _ from rg_row OC_11 h2 OA_11 (by decide))
          have OC_13 := hC13
          refine hK.out _ _ ⟨HV_13.bF, HV_13.ov⟩ (fun hSz => ?_)
          clear hK K hSz BE_11 HV_11 NB47_11 OA_11 OC_11
          clear hC13 h2
          refine wpAnyH_take (i := 14) (v := .pointer (some ⟨E, 1, none⟩)) nat14 (by kernel_rfl) (by kernel_rfl) (by kernel_rfl) (fun _ _ _ h => False.elim h) (Or.inl ⟨by rfl, ?_⟩) ⟨HV_13.bF, HV_13.ov⟩ ?_
          · intro wx hSw
            go_simp
          simp only [Act.put, List.setIfInBounds_toArray, List.set_cons_zero, List.set_cons_succ]
          refine wpAnyH_ready (rs := [15]) (by kernel_rfl) (by simp) ?_
          refine AllReadyH.cons nat15 (fun K hK => ?_) AllReadyH.nil
          have y0 := BE_13.cell 1
          simp only [List.getElem?_toArray, List.getElem?_cons_succ, List.getElem?_cons_zero] at y0
          have yf := BE_13.free
          go_simp
          clear yf y0
          have HV_14s0 := HV_13.setE hE BE_13 1 (.slice va13 vn13 vp13)
          have BE_14s0 := BE_13.set 1 (.slice va13 vn13 vp13)
          have OA_14s0 := (show OwnMeta _ _ _ _ from rg_set (o := 1) OA_13 BE_13 (by decide) (.slice va13 vn13 vp13))
          have OC_14s0 := (show OwnI _ _ _ _ from rg_set (o := 1) OC_13 BE_13 (by decide) (.slice va13 vn13 vp13))
          have HV_14 := HV_14s0
          have BE_14 : BoxIs (wq13.setCell ⟨E, 1, none⟩ (.slice va13 vn13 vp13)) E #[.slice none 0 0, .slice va13 vn13 vp13, .int .i64 n, .int .i64 s, .int .i64 lo2] 37 := BE_14s0
          have OA_14 := OA_14s0
          have OC_14 := OC_14s0
          refine hK.out _ _ ⟨HV_14.bF, HV_14.ov⟩ (fun hSz => ?_)
          clear hK K hSz BE_13 HV_13 OA_13 OC_13 HV_14s0 BE_14s0 OA_14s0 OC_14s0
          generalize wq13.setCell ⟨E, 1, none⟩ (.slice va13 vn13 vp13) = wq14 at HV_14 BE_14 OA_14 OC_14 ⊢
          refine wpAnyH_done (by kernel_rfl) ?_ _
          refine NoPanic.normal ?_
          go_wp2_with fail
          go_meet
          exact ⟨_, _, by simp, hide ⟨HV_14, BE_14, OA_14, OC_14, hE⟩⟩
  case rest =>
  obtain ⟨ca, cuts, hcl, HE⟩ := hcut
  clear hb4 HE4
  go_wp2_with fail
  refine (rd_below W _ g a len cap 3 (by omega) (by omega) hc hl HE.out.rd).mono ?_
  rintro e w6 ⟨i0, rfl, hi0, hi1, hr6, hm6⟩
  have HE6 := hide (HE.out.call hr6 hm6)
  clear HE hr6 hm6
  obtain ⟨j0, rfl⟩ := Int.eq_ofNat_of_zero_le hi0
  go_wp2
  go_loopg [6] j0 (fun k v wr => v = .int .i64 (k : Int) ∧ ∃ aa adds, adds.length + k ≤ 2 ∧ Hid (EdE W w g a len cap (.slice vaA l.length vaP) l nx sq lg E aa adds ca cuts n s lo2 wr))
  case atStart => exact ⟨rfl, _, [], by simp; omega, HE6⟩
  case round =>
    obtain ⟨rfl, aa, adds, hal, HE⟩ := hrel
    clear HE6 hi0 hi1
    by_cases hk : gk = 0
    · subst hk
      go_wp2_with fail
      refine (rd_once W _ g a len cap 20 (by omega) (by omega) hc hl HE.out.rd).mono ?_
      rintro e w9 ⟨b9, rfl, hr9, hm9⟩
      have HE9 := hide (HE.out.call hr9 hm9)
      clear HE hr9 hm9
      go_upto_if 78 with fail
      go_cut [] (fun wx => ∃ ca cuts, cuts.length ≤ 2 ∧ Hid (EdE W w g a len cap (.slice vaA l.length vaP) l nx sq lg E aa adds ca cuts n s lo2 wx))
      case first =>
        cases b9 with
        | false =>
          go_wp2
          go_meet
          exact ⟨_, cuts, by omega, HE9⟩
        | true =>
          go_upto_region 14 with fail
          obtain ⟨caA, caN, caP, rfl⟩ : ∃ a n p, ca = .slice a n p := by obtain ⟨a, p, e⟩ := rg_shape (show World.ownsRow _ _ _ _ _ _ _ from HE9.out.oc); exact ⟨_, _, _, e⟩
          obtain ⟨aaA, aaN, aaP, rfl⟩ : ∃ a n p, aa = .slice a n p := by obtain ⟨a, p, e⟩ := rg_shape (show World.ownsRow _ _ _ _ _ _ _ from HE9.out.oa); exact ⟨_, _, _, e⟩
          have HV := HE9.out.V
          have BE := HE9.out.bE
          have OA := HE9.out.oa
          have OC := HE9.out.oc
          have hE := HE9.out.hE
          have hi5 : (Try.prog.info? 2).map (fun i => (i.zero, i.size, i.bytes)) = some (some (.int .i64 0), 1, 8) := by kernel_rfl
          clear HE9
          refine wp_region_noPanic ?_
          have hb0 : Below w9.heap.size w9 w9.drew := (Below.refl _ _).drew
          have HV_0 := HV.next hb0
          have BE_0 := BE.next hb0
          have OA_0 := OA.next hb0
          have OC_0 := OC.next hb0
          refine wp_region_held_drew (S := fun _ => True) (by kernel_rfl) trivial (fun hSz => ?_)
          clear hSz BE HV OA OC
          generalize w9.drew = wq0 at hb0 HV_0 BE_0 OA_0 OC_0 ⊢
          clear hb0
          refine wpAnyH_take (i := 0) (v := .pointer (some ⟨E, 1, none⟩)) nat0 (by kernel_rfl) (by kernel_rfl) (by kernel_rfl) (fun _ _ _ h => False.elim h) (Or.inl ⟨by rfl, ?_⟩) trivial ?_
          · intro wx hSw
            go_simp
          simp only [Act.put, List.setIfInBounds_toArray, List.set_cons_zero, List.set_cons_succ]
          refine wpAnyH_take (i := 2) (v := .pointer (some ⟨g, 0, none⟩)) nat2 (by kernel_rfl) (by kernel_rfl) (by kernel_rfl) (fun _ _ _ h => False.elim h) (Or.inl ⟨by rfl, ?_⟩) trivial ?_
          · intro wx hSw
            go_simp
          simp only [Act.put, List.setIfInBounds_toArray, List.set_cons_zero, List.set_cons_succ]
          refine wpAnyH_ready (rs := [1, 3]) (by kernel_rfl) (by simp) ?_
          refine AllReadyH.cons nat1 (fun K hK => ?_) (AllReadyH.cons nat3 (fun K hK => ?_) AllReadyH.nil)
          · have y0 := BE_0.cell 1
            simp only [List.getElem?_toArray, List.getElem?_cons_succ, List.getElem?_cons_zero] at y0
            go_simp
            refine hK.out _ _ trivial (fun hSz => ?_)
            clear hK K hSz y0
            try simp only [Act.put, List.setIfInBounds_toArray, List.set_cons_zero, List.set_cons_succ]
            refine wpAnyH_ready (rs := [3]) (by kernel_rfl) (by simp) ?_
            refine AllReadyH.cons nat3 (fun K hK => ?_) AllReadyH.nil
            go_simp
            go_at_call 65
            refine (rd_off W _ g a len cap (1) (9) (by omega) (by omega) (by omega) hc hl HV_0.rd).mono ?_
            rintro e wq2 ⟨x2, rfl, hx2, hy2, hr2, hb2⟩
            have HV_2 := HV_0.call hr2 hb2
            have BE_2 := BE_0.mv hb2 (by omega)
            have OA_2 := OwnMeta.mv OA_0 hb2 hg
            have OC_2 := (show OwnI _ _ _ _ from own_mv OC_0 hb2 hg)
            refine hK.out _ _ trivial (fun hSz => ?_)
            clear hK K hSz BE_0 HV_0 OA_0 OC_0 hb2
            refine wpAnyH_ready (rs := [4]) (by kernel_rfl) (by simp) ?_
            refine AllReadyH.cons nat4 (fun K hK => ?_) AllReadyH.nil
            go_simp
            have hb3 := below_one wq2 (.cells #[.int .i64 x2] 2)
            have HV_3 := HV_2.next hb3
            have BE_3 := BE_2.next hb3
            have OA_3 := OA_2.next hb3
            have OC_3 := OC_2.next hb3
            have NB83_3 := BoxIs.new wq2 #[.int .i64 x2] 2 rfl
            refine hK.out _ _ trivial (fun hSz => ?_)
            clear hK K hSz BE_2 HV_2 OA_2 OC_2
            obtain ⟨G3, hG3⟩ : ∃ G, G = wq2.heap.size := ⟨_, rfl⟩
            rw [← hG3] at NB83_3 ⊢
            generalize wq2.alloc (.cells #[.int .i64 x2] 2) = wq3 at hb3 HV_3 BE_3 OA_3 OC_3 NB83_3 ⊢
            clear hG3 hb3
            refine wpAnyH_ready (rs := [5]) (by kernel_rfl) (by simp) ?_
            refine AllReadyH.cons nat5 (fun K hK => ?_) AllReadyH.nil
            refine step_append_row rfl (.tmp 80) (.tmp 83) 25 rfl 2 Try.underlying25 1 8 hi5 rfl (by decide) (by decide) w.heap.size (.slice caA caN caP) _ _ (by rfl) OC_3 ⟨G3, 0, none⟩ 1 1 [.int .i64 x2] (by rfl) rfl (by simp [Value.oneCell']) (rg_news (us := [.int .i64 x2]) NB83_3) HV_3.mv.size (by simp <;> omega) ?_
            intro v4 wq4 h1 h2
            have hC4 : OwnI wq4 w.heap.size v4 (cuts ++ [x2]) := by show World.ownsRow _ _ _ _ _ _ _; rw [List.map_append, List.length_append]; exact h1
            obtain ⟨va4, vn4, vp4, rfl⟩ : ∃ a n p, v4 = .slice a n p := by obtain ⟨a, p, e⟩ := rg_shape h1; exact ⟨_, _, _, e⟩
            clear h1
            have HV_4 := HV_3.grow OC_3 (Nat.le_refl _) HV_3.mv.size h2 (by decide) (by decide)
            have BE_4 := rg_box OC_3 h2 BE_3 (by decide)
            have OA_4 := (show OwnMeta _ _ _ _ from rg_row OC_3 h2 OA_3 (by decide))
            have OC_4 := hC4
            refine hK.out _ _ trivial (fun hSz => ?_)
            clear hK K hSz BE_3 HV_3 NB83_3 OA_3 OC_3
            clear hC4 h2
            refine wpAnyH_take (i := 6) (v := .pointer (some ⟨E, 1, none⟩)) nat6 (by kernel_rfl) (by kernel_rfl) (by kernel_rfl) (fun _ _ _ h => False.elim h) (Or.inl ⟨by rfl, ?_⟩) trivial ?_
            · intro wx hSw
              go_simp
            simp only [Act.put, List.setIfInBounds_toArray, List.set_cons_zero, List.set_cons_succ]
            refine wpAnyH_ready (rs := [7]) (by kernel_rfl) (by simp) ?_
            refine AllReadyH.cons nat7 (fun K hK => ?_) AllReadyH.nil
            have y0 := BE_4.cell 1
            simp only [List.getElem?_toArray, List.getElem?_cons_succ, List.getElem?_cons_zero] at y0
            have yf := BE_4.free
            go_simp
            clear yf y0
            have HV_5s0 := HV_4.setE hE BE_4 1 (.slice va4 vn4 vp4)
            have BE_5s0 := BE_4.set 1 (.slice va4 vn4 vp4)
            have OA_5s0 := (show OwnMeta _ _ _ _ from rg_set (o := 1) OA_4 BE_4 (by decide) (.slice va4 vn4 vp4))
            have OC_5s0 := (show OwnI _ _ _ _ from rg_set (o := 1) OC_4 BE_4 (by decide) (.slice va4 vn4 vp4))
            have HV_5 := HV_5s0
            have BE_5 : BoxIs (wq4.setCell ⟨E, 1, none⟩ (.slice va4 vn4 vp4)) E #[.slice aaA aaN aaP, .slice va4 vn4 vp4, .int .i64 n, .int .i64 s, .int .i64 lo2] 37 := BE_5s0
            have OA_5 := OA_5s0
            have OC_5 := OC_5s0
            refine hK.out _ _ trivial (fun hSz => ?_)
            clear hK K hSz BE_4 HV_4 OA_4 OC_4 HV_5s0 BE_5s0 OA_5s0 OC_5s0
            generalize wq4.setCell ⟨E, 1, none⟩ (.slice va4 vn4 vp4) = wq5 at HV_5 BE_5 OA_5 OC_5 ⊢
            refine wpAnyH_done (by kernel_rfl) ?_ _
            refine NoPanic.normal ?_
            go_wp2_with fail
            go_meet
            exact ⟨_, _, by simp <;> omega, hide ⟨HV_5, BE_5, OA_5, OC_5, hE⟩⟩
          · go_simp
            go_at_call 65
            refine (rd_off W _ g a len cap (1) (9) (by omega) (by omega) (by omega) hc hl HV_0.rd).mono ?_
            rintro e wq6 ⟨x6, rfl, hx6, hy6, hr6, hb6⟩
            have HV_6 := HV_0.call hr6 hb6
            have BE_6 := BE_0.mv hb6 (by omega)
            have OA_6 := OwnMeta.mv OA_0 hb6 hg
            have OC_6 := (show OwnI _ _ _ _ from own_mv OC_0 hb6 hg)
            refine hK.out _ _ trivial (fun hSz => ?_)
            clear hK K hSz BE_0 HV_0 OA_0 OC_0 hb6
            refine wpAnyH_ready (rs := [1, 4]) (by kernel_rfl) (by simp) ?_
            refine AllReadyH.cons nat1 (fun K hK => ?_) (AllReadyH.cons nat4 (fun K hK => ?_) AllReadyH.nil)
            · have y0 := BE_6.cell 1
              simp only [List.getElem?_toArray, List.getElem?_cons_succ, List.getElem?_cons_zero] at y0
              go_simp
              refine hK.out _ _ trivial (fun hSz => ?_)
              clear hK K hSz y0
              try simp only [Act.put, List.setIfInBounds_toArray, List.set_cons_zero, List.set_cons_succ]
              refine wpAnyH_ready (rs := [4]) (by kernel_rfl) (by simp) ?_
              refine AllReadyH.cons nat4 (fun K hK => ?_) AllReadyH.nil
              go_simp
              have hb8 := below_one wq6 (.cells #[.int .i64 x6] 2)
              have HV_8 := HV_6.next hb8
              have BE_8 := BE_6.next hb8
              have OA_8 := OA_6.next hb8
              have OC_8 := OC_6.next hb8
              have NB83_8 := BoxIs.new wq6 #[.int .i64 x6] 2 rfl
              refine hK.out _ _ trivial (fun hSz => ?_)
              clear hK K hSz BE_6 HV_6 OA_6 OC_6
              obtain ⟨G8, hG8⟩ : ∃ G, G = wq6.heap.size := ⟨_, rfl⟩
              rw [← hG8] at NB83_8 ⊢
              generalize wq6.alloc (.cells #[.int .i64 x6] 2) = wq8 at hb8 HV_8 BE_8 OA_8 OC_8 NB83_8 ⊢
              clear hG8 hb8
              refine wpAnyH_ready (rs := [5]) (by kernel_rfl) (by simp) ?_
              refine AllReadyH.cons nat5 (fun K hK => ?_) AllReadyH.nil
              refine step_append_row rfl (.tmp 80) (.tmp 83) 25 rfl 2 Try.underlying25 1 8 hi5 rfl (by decide) (by decide) w.heap.size (.slice caA caN caP) _ _ (by rfl) OC_8 ⟨G8, 0, none⟩ 1 1 [.int .i64 x6] (by rfl) rfl (by simp [Value.oneCell']) (rg_news (us := [.int .i64 x6]) NB83_8) HV_8.mv.size (by simp <;> omega) ?_
              intro v9 wq9 h1 h2
              have hC9 : OwnI wq9 w.heap.size v9 (cuts ++ [x6]) := by show World.ownsRow _ _ _ _ _ _ _; rw [List.map_append, List.length_append]; exact h1
              obtain ⟨va9, vn9, vp9, rfl⟩ : ∃ a n p, v9 = .slice a n p := by obtain ⟨a, p, e⟩ := rg_shape h1; exact ⟨_, _, _, e⟩
              clear h1
              have HV_9 := HV_8.grow OC_8 (Nat.le_refl _) HV_8.mv.size h2 (by decide) (by decide)
              have BE_9 := rg_box OC_8 h2 BE_8 (by decide)
              have OA_9 := (show OwnMeta _ _ _ _ from rg_row OC_8 h2 OA_8 (by decide))
              have OC_9 := hC9
              refine hK.out _ _ trivial (fun hSz => ?_)
              clear hK K hSz BE_8 HV_8 NB83_8 OA_8 OC_8
              clear hC9 h2
              refine wpAnyH_take (i := 6) (v := .pointer (some ⟨E, 1, none⟩)) nat6 (by kernel_rfl) (by kernel_rfl) (by kernel_rfl) (fun _ _ _ h => False.elim h) (Or.inl ⟨by rfl, ?_⟩) trivial ?_
              · intro wx hSw
                go_simp
              simp only [Act.put, List.setIfInBounds_toArray, List.set_cons_zero, List.set_cons_succ]
              refine wpAnyH_ready (rs := [7]) (by kernel_rfl) (by simp) ?_
              refine AllReadyH.cons nat7 (fun K hK => ?_) AllReadyH.nil
              have y0 := BE_9.cell 1
              simp only [List.getElem?_toArray, List.getElem?_cons_succ, List.getElem?_cons_zero] at y0
              have yf := BE_9.free
              go_simp
              clear yf y0
              have HV_10s0 := HV_9.setE hE BE_9 1 (.slice va9 vn9 vp9)
              have BE_10s0 := BE_9.set 1 (.slice va9 vn9 vp9)
              have OA_10s0 := (show OwnMeta _ _ _ _ from rg_set (o := 1) OA_9 BE_9 (by decide) (.slice va9 vn9 vp9))
              have OC_10s0 := (show OwnI _ _ _ _ from rg_set (o := 1) OC_9 BE_9 (by decide) (.slice va9 vn9 vp9))
              have HV_10 := HV_10s0
              have BE_10 : BoxIs (wq9.setCell ⟨E, 1, none⟩ (.slice va9 vn9 vp9)) E #[.slice aaA aaN aaP, .slice va9 vn9 vp9, .int .i64 n, .int .i64 s, .int .i64 lo2] 37 := BE_10s0
              have OA_10 := OA_10s0
              have OC_10 := OC_10s0
              refine hK.out _ _ trivial (fun hSz => ?_)
              clear hK K hSz BE_9 HV_9 OA_9 OC_9 HV_10s0 BE_10s0 OA_10s0 OC_10s0
              generalize wq9.setCell ⟨E, 1, none⟩ (.slice va9 vn9 vp9) = wq10 at HV_10 BE_10 OA_10 OC_10 ⊢
              refine wpAnyH_done (by kernel_rfl) ?_ _
              refine NoPanic.normal ?_
              go_wp2_with fail
              go_meet
              exact ⟨_, _, by simp <;> omega, hide ⟨HV_10, BE_10, OA_10, OC_10, hE⟩⟩
            · go_simp
              have hb11 := below_one wq6 (.cells #[.int .i64 x6] 2)
              have HV_11 := HV_6.next hb11
              have BE_11 := BE_6.next hb11
              have OA_11 := OA_6.next hb11
              have OC_11 := OC_6.next hb11
              have NB83_11 := BoxIs.new wq6 #[.int .i64 x6] 2 rfl
              refine hK.out _ _ trivial (fun hSz => ?_)
              clear hK K hSz BE_6 HV_6 OA_6 OC_6
              obtain ⟨G11, hG11⟩ : ∃ G, G = wq6.heap.size := ⟨_, rfl⟩
              rw [← hG11] at NB83_11 ⊢
              generalize wq6.alloc (.cells #[.int .i64 x6] 2) = wq11 at hb11 HV_11 BE_11 OA_11 OC_11 NB83_11 ⊢
              clear hG11 hb11
              refine wpAnyH_ready (rs := [1]) (by kernel_rfl) (by simp) ?_
              refine AllReadyH.cons nat1 (fun K hK => ?_) AllReadyH.nil
              have y0 := BE_11.cell 1
              simp only [List.getElem?_toArray, List.getElem?_cons_succ, List.getElem?_cons_zero] at y0
              go_simp
              refine hK.out _ _ trivial (fun hSz => ?_)
              clear hK K hSz y0
              try simp only [Act.put, List.setIfInBounds_toArray, List.set_cons_zero, List.set_cons_succ]
              refine wpAnyH_ready (rs := [5]) (by kernel_rfl) (by simp) ?_
              refine AllReadyH.cons nat5 (fun K hK => ?_) AllReadyH.nil
              refine step_append_row rfl (.tmp 80) (.tmp 83) 25 rfl 2 Try.underlying25 1 8 hi5 rfl (by decide) (by decide) w.heap.size (.slice caA caN caP) _ _ (by rfl) OC_11 ⟨G11, 0, none⟩ 1 1 [.int .i64 x6] (by rfl) rfl (by simp [Value.oneCell']) (rg_news (us := [.int .i64 x6]) NB83_11) HV_11.mv.size (by simp <;> omega) ?_
              intro v13 wq13 h1 h2
              have hC13 : OwnI wq13 w.heap.size v13 (cuts ++ [x6]) := by show World.ownsRow _ _ _ _ _ _ _; rw [List.map_append, List.length_append]; exact h1
              obtain ⟨va13, vn13, vp13, rfl⟩ : ∃ a n p, v13 = .slice a n p := by obtain ⟨a, p, e⟩ := rg_shape h1; exact ⟨_, _, _, e⟩
              clear h1
              have HV_13 := HV_11.grow OC_11 (Nat.le_refl _) HV_11.mv.size h2 (by decide) (by decide)
              have BE_13 := rg_box OC_11 h2 BE_11 (by decide)
              have OA_13 := (show OwnMeta _ _ _ _ from rg_row OC_11 h2 OA_11 (by decide))
              have OC_13 := hC13
              refine hK.out _ _ trivial (fun hSz => ?_)
              clear hK K hSz BE_11 HV_11 NB83_11 OA_11 OC_11
              clear hC13 h2
              refine wpAnyH_take (i := 6) (v := .pointer (some ⟨E, 1, none⟩)) nat6 (by kernel_rfl) (by kernel_rfl) (by kernel_rfl) (fun _ _ _ h => False.elim h) (Or.inl ⟨by rfl, ?_⟩) trivial ?_
              · intro wx hSw
                go_simp
              simp only [Act.put, List.setIfInBounds_toArray, List.set_cons_zero, List.set_cons_succ]
              refine wpAnyH_ready (rs := [7]) (by kernel_rfl) (by simp) ?_
              refine AllReadyH.cons nat7 (fun K hK => ?_) AllReadyH.nil
              have y0 := BE_13.cell 1
              simp only [List.getElem?_toArray, List.getElem?_cons_succ, List.getElem?_cons_zero] at y0
              have yf := BE_13.free
              go_simp
              clear yf y0
              have HV_14s0 := HV_13.setE hE BE_13 1 (.slice va13 vn13 vp13)
              have BE_14s0 := BE_13.set 1 (.slice va13 vn13 vp13)
              have OA_14s0 := (show OwnMeta _ _ _ _ from rg_set (o := 1) OA_13 BE_13 (by decide) (.slice va13 vn13 vp13))
              have OC_14s0 := (show OwnI _ _ _ _ from rg_set (o := 1) OC_13 BE_13 (by decide) (.slice va13 vn13 vp13))
              have HV_14 := HV_14s0
              have BE_14 : BoxIs (wq13.setCell ⟨E, 1, none⟩ (.slice va13 vn13 vp13)) E #[.slice aaA aaN aaP, .slice va13 vn13 vp13, .int .i64 n, .int .i64 s, .int .i64 lo2] 37 := BE_14s0
              have OA_14 := OA_14s0
              have OC_14 := OC_14s0
              refine hK.out _ _ trivial (fun hSz => ?_)
              clear hK K hSz BE_13 HV_13 OA_13 OC_13 HV_14s0 BE_14s0 OA_14s0 OC_14s0
              generalize wq13.setCell ⟨E, 1, none⟩ (.slice va13 vn13 vp13) = wq14 at HV_14 BE_14 OA_14 OC_14 ⊢
              refine wpAnyH_done (by kernel_rfl) ?_ _
              refine NoPanic.normal ?_
              go_wp2_with fail
              go_meet
              exact ⟨_, _, by simp <;> omega, hide ⟨HV_14, BE_14, OA_14, OC_14, hE⟩⟩
      case rest =>
      obtain ⟨ca2, cuts2, hcl2, HE⟩ := hcut
      clear HE9
      obtain ⟨caA, caN, caP, rfl⟩ : ∃ a n p, ca2 = .slice a n p := by obtain ⟨a, p, e⟩ := rg_shape (show World.ownsRow _ _ _ _ _ _ _ from HE.out.oc); exact ⟨_, _, _, e⟩
      obtain ⟨aaA, aaN, aaP, rfl⟩ : ∃ a n p, aa = .slice a n p := by obtain ⟨a, p, e⟩ := rg_shape (show World.ownsRow _ _ _ _ _ _ _ from HE.out.oa); exact ⟨_, _, _, e⟩
      have y0 := HE.out.bE.cell 0
      have y1 := HE.out.bE.cell 1
      have y2 := HE.out.bE.cell 2
      have y3 := HE.out.bE.cell 3
      have y4 := HE.out.bE.cell 4
      have z0 := HE.out.V.bR.cell 0
      have z1 := HE.out.V.bR.cell 1
      have z2 := HE.out.V.bR.cell 2
      have z3 := HE.out.V.bR.cell 3
      have z4 := HE.out.V.bR.cell 4
      have zf := HE.out.V.bR.free
      simp only [List.getElem?_toArray, List.getElem?_cons_succ, List.getElem?_cons_zero] at y0 y1 y2 y3 y4 z0 z1 z2 z3 z4
      have hE0 := HE.out.hE
      have hE1 : E ≠ w.heap.size + 1 := by omega
      go_wp2
      obtain ⟨r1, r2, r3, r4⟩ := HE.out.ret (.slice aaA aaN aaP) (.slice caA caN caP) (.int .i64 n) (.int .i64 s) (.int .i64 lo2)
      exact bodyPost_ret (v := .agg #[.slice aaA aaN aaP, .slice caA caN caP, .int .i64 n, .int .i64 s, .int .i64 lo2]) (by simp [results, Try.results46, go_sem, z0, z1, z2, z3, z4]) rfl ⟨_, adds, _, cuts2, n, s, lo2, rfl, r1, r2, by omega, by omega, hn0, hn1, hs0, hs1, r3, r4⟩
    · obtain ⟨k, rfl⟩ : ∃ k, gk = k + 1 := ⟨gk - 1, by omega⟩
      clear hk
      have hkp : (0 : Int) < ((k + 1 : Nat) : Int) := by omega
      go_wp2_with fail
      refine (rd_meta W _ g a len cap hc hl HE.out.rd).mono ?_
      rintro e w7 ⟨m, rfl, hmf, hmz, hr7, hm7⟩
      have HE7 := HE.out.call hr7 hm7
      have hXm := (BoxIs.new w7 #[.int .i64 m.n, .int .i64 m.l, .string m.f, .string m.z, .int .i64 m.c] 59 rfl).hid
      have HE8 := hide (HE7.next (below_one w7 (.cells #[.int .i64 m.n, .int .i64 m.l, .string m.f, .string m.z, .int .i64 m.c] 59)))
      have hlow := HE7.low
      have hM := HE7.V.bR.lt
      have hEM := HE7.bE.lt
      clear HE HE7 hr7 hm7
      go_upto_region 10 with fail
      generalize w7.alloc (.cells #[.int .i64 m.n, .int .i64 m.l, .string m.f, .string m.z, .int .i64 m.c] 59) = W8 at hXm HE8 ⊢
      generalize w7.heap.size = M at hXm hlow hM hEM ⊢
      have HLOW := hide hlow
      clear hlow
      go_cut [65] (fun t wx => ∃ b : Bool, t = .bool b ∧ Hid (BoxIs wx M #[.int .i64 m.n, .int .i64 m.l, .string m.f, .string m.z, .int .i64 m.c] 59) ∧ Hid (EdE W w g a len cap (.slice vaA l.length vaP) l nx sq lg E aa adds ca cuts n s lo2 wx))
      case first =>
        have y0 := HE8.out.bE.cell 2
        simp only [List.getElem?_toArray, List.getElem?_cons_succ, List.getElem?_cons_zero] at y0
        by_cases h1n : 1 < n
        · go_wp2_with fail
          refine (rd_once W _ g a len cap 4 (by omega) (by omega) hc hl HE8.out.rd).mono ?_
          rintro e w9 ⟨b, rfl, hr9, hm9⟩
          have HE9 := hide (HE8.out.call hr9 hm9)
          have hX9 := (hXm.out.mv hm9 (by omega)).hid
          clear HE8 hXm hr9 hm9 y0
          go_wp2
          go_meet
          exact ⟨!b, rfl, hX9, HE9⟩
        · go_wp2
          go_meet
          exact ⟨false, rfl, hXm, HE8⟩
      case rest =>
      obtain ⟨b10, rfl, hX, HE⟩ := hcut
      clear hXm HE8
      go_upto_if 65 with fail
      go_cut [] (fun wx => ∃ m2 : Meta1, Hid (BoxIs wx M #[.int .i64 m2.n, .int .i64 m2.l, .string m2.f, .string m2.z, .int .i64 m2.c] 59) ∧ Hid (EdE W w g a len cap (.slice vaA l.length vaP) l nx sq lg E aa adds ca cuts n s lo2 wx))
      case first =>
        cases b10 with
        | false =>
          go_wp2
          go_meet
          exact ⟨m, hX, HE⟩
        | true =>
          have y0 := HE.out.bE.cell 2
          have x0 := hX.out.cell 0
          simp only [List.getElem?_toArray, List.getElem?_cons_succ, List.getElem?_cons_zero] at y0 x0
          have xf := hX.out.free
          have hw1 : IntKind.i64.wrap (n - ((k + 1 : Nat) : Int)) = n - ((k + 1 : Nat) : Int) := by rw [IntKind.wrap_i64]; omega
          go_wp2
          go_meet
          exact ⟨⟨n - ((k + 1 : Nat) : Int), m.l, m.f, m.z, m.c⟩, hide (hX.out.set 0 _), hide (HE.out.setM hM (by omega) hX.out HLOW.out 0 _)⟩
      case rest =>
      obtain ⟨m2, hX2, HE2⟩ := hcut
      clear hX HE
      obtain ⟨aaA, aaN, aaP, rfl⟩ : ∃ a n p, aa = .slice a n p := by obtain ⟨a, p, e⟩ := rg_shape (show World.ownsRow _ _ _ _ _ _ _ from HE2.out.oa); exact ⟨_, _, _, e⟩
      have y0 := HE2.out.bE.cell 0
      have x0 := hX2.out.cell 0
      have x1 := hX2.out.cell 1
      have x2 := hX2.out.cell 2
      have x3 := hX2.out.cell 3
      have x4 := hX2.out.cell 4
      simp only [List.getElem?_toArray, List.getElem?_cons_succ, List.getElem?_cons_zero] at y0 x0 x1 x2 x3 x4
      have HE9 := hide (HE2.out.next (below_one wc (.cells #[.int .i64 m2.n, .int .i64 m2.l, .string m2.f, .string m2.z, .int .i64 m2.c] 59)))
      have hN := (BoxIs.new wc #[.int .i64 m2.n, .int .i64 m2.l, .string m2.f, .string m2.z, .int .i64 m2.c] 59 rfl).hid
      clear HE2 hX2 HLOW
      go_wp2_with (first
        | (at_builtin; refine wpList_append_row rfl _ _ 30 rfl 59 Try.underlying30 5 56 meta_info rfl (by decide) (by decide) w.heap.size _ adds.length (cellsMeta adds) (by rfl) HE9.out.oa ⟨wc.heap.size, 0, none⟩ 1 1 (cellsMeta [m2]) (by rfl) rfl (cellsMeta_one _) (rg_news (us := cellsMeta [m2]) hN.out) HE9.out.V.mv.size (by omega) ?_))
      intro v3 w12 h1 h2
      have ho : OwnMeta w12 w.heap.size v3 (adds ++ [m2]) := by show World.ownsRow _ _ _ _ _ _ _; rw [cellsMeta_append, List.length_append]; exact h1
      have HA := hide (HE9.out.added ho h2)
      have bE1 := rg_box HE9.out.oa h2 HE9.out.bE (by decide)
      obtain ⟨vA, vN, vP, rfl⟩ : ∃ a n p, v3 = .slice a n p := by obtain ⟨a, p, e⟩ := rg_shape h1; exact ⟨_, _, _, e⟩
      have z0 := bE1.cell 0
      simp only [List.getElem?_toArray, List.getElem?_cons_succ, List.getElem?_cons_zero] at z0
      have zf := bE1.free
      have hw2 : IntKind.i64.wrap (((k + 1 : Nat) : Int) - 1) = (k : Int) := by rw [IntKind.wrap_i64]; omega
      clear h1 h2 ho HE9 hN y0 x0 x1 x2 x3 x4 bE1
      go_wp2
      go_roundg k
      case measure => omega
      case rel => exact ⟨rfl, _, _, by simp; omega, HA⟩

end Go.Proofs.Ytplbhgcibfajaaa
