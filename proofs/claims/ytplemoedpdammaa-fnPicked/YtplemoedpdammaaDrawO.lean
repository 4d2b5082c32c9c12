/- What the laws on versions draw. (By gen_drawo.py.) -/
import Derived.Test.YtplemoedpdammaaDrawX
import Derived.Test.YtplemoedpdammaaOpen
namespace Go.Proofs.Ytplemoedpdammaa
set_option maxRecDepth 100000
open Go.RowKit Go.Deep

/-- While a law's version is drawn: the reader behind the answer's box, the version in block E. -/
structure PkS (W w : World) (g : Nat) (a : Option Addr) (len cap : Nat) (E : Nat) (va : Value) (l : List Meta1) (nx sq lg : Int) (x : World) : Prop where
  rd : Rd W x g a len cap
  low : Below w.heap.size w x
  bR : BoxIs x w.heap.size #[.slice none 0 0, .int .i64 0, .int .i64 0, .int .i64 0] 46
  bE : BoxIs x E #[va, .int .i64 nx, .int .i64 sq, .int .i64 lg] 46
  oa : OwnMeta x (g + 1) va l
  hR : w.heap.size < g
  hE : g < E
section
variable {W w : World} {g : Nat} {a : Option Addr} {len cap : Nat} {E : Nat} {va : Value} {l : List Meta1} {nx sq lg : Int} {x y : World}
theorem PkS.call (h : PkS W w g a len cap E va l nx sq lg x) (r : Rd W y g a len cap) (m : Mv g x y) : PkS W w g a len cap E va l nx sq lg y :=
  ⟨r, h.low.trans (m.below h.low.size (by have := h.hR; omega)), h.bR.mv m (by have := h.hR; omega), h.bE.mv m (by have := h.hE; omega), h.oa.mv m (by omega), h.hR, h.hE⟩
theorem PkS.next (h : PkS W w g a len cap E va l nx sq lg x) (b : Below x.heap.size x y) : PkS W w g a len cap E va l nx sq lg y :=
  ⟨h.rd.mv b, h.low.trans (b.mono h.low.size), h.bR.next b, h.bE.next b, h.oa.next b, h.hR, h.hE⟩
theorem PkS.setN (h : PkS W w g a len cap E va l nx sq lg x) {N : Nat} {cs : Array Value} (hN : E < N) (hb : BoxIs x N cs 46) (j : Nat) (v : Value) : PkS W w g a len cap E va l nx sq lg (x.setCell ⟨N, j, none⟩ v) := by
  have hw := h.hR
  have hE := h.hE
  have b : Below (g + 1) x (x.setCell ⟨N, j, none⟩ v) := (Below.refl _ _).setCell (p := ⟨N, j, none⟩) (by show g + 1 ≤ N; omega) _
  exact ⟨h.rd.keep b (by omega), h.low.trans (b.mono (by omega)), h.bR.set_other (by show N ≠ _; omega) _, h.bE.set_other (by show N ≠ _; omega) _, rg_set h.oa hb (by decide) _, h.hR, h.hE⟩
/-- Another version lies in its place. -/
theorem PkS.put (h : PkS W w g a len cap E va l nx sq lg x) {v1 : Value} {l1 : List Meta1} {n1 s1 g1 : Int} (ho : OwnMeta x (g + 1) v1 l1) : PkS W w g a len cap E v1 l1 n1 s1 g1 ((((x.setCell ⟨E, 0, none⟩ v1).setCell ⟨E, 1, none⟩ (.int .i64 n1)).setCell ⟨E, 2, none⟩ (.int .i64 s1)).setCell ⟨E, 3, none⟩ (.int .i64 g1)) := by
  have hw := h.hR
  have hE := h.hE
  have b0 := h.bE
  have b1 := b0.set 0 v1
  have b2 := b1.set 1 (.int .i64 n1)
  have b3 := b2.set 2 (.int .i64 s1)
  have b4 := b3.set 3 (.int .i64 g1)
  have b : Below (g + 1) x ((((x.setCell ⟨E, 0, none⟩ v1).setCell ⟨E, 1, none⟩ (.int .i64 n1)).setCell ⟨E, 2, none⟩ (.int .i64 s1)).setCell ⟨E, 3, none⟩ (.int .i64 g1)) :=
    ((((Below.refl _ _).setCell (p := ⟨E, 0, none⟩) (by show g + 1 ≤ E; omega) _).setCell (p := ⟨E, 1, none⟩) (by show g + 1 ≤ E; omega) _).setCell (p := ⟨E, 2, none⟩) (by show g + 1 ≤ E; omega) _).setCell (p := ⟨E, 3, none⟩) (by show g + 1 ≤ E; omega) _
  exact ⟨h.rd.keep b (by omega), h.low.trans (b.mono (by omega)), h.bR.below b (by omega), b4, rg_set (rg_set (rg_set (rg_set ho b0 (by decide) _) b1 (by decide) _) b2 (by decide) _) b3 (by decide) _, h.hR, h.hE⟩
/-- What is answered lies in the result's box. -/
theorem PkS.ret (h : PkS W w g a len cap E va l nx sq lg x) (v0 v1 v2 v3 : Value) : OwnMeta ((((x.setCell ⟨w.heap.size, 0, none⟩ v0).setCell ⟨w.heap.size, 1, none⟩ v1).setCell ⟨w.heap.size, 2, none⟩ v2).setCell ⟨w.heap.size, 3, none⟩ v3) w.heap.size va l ∧ Below w.heap.size w ((((x.setCell ⟨w.heap.size, 0, none⟩ v0).setCell ⟨w.heap.size, 1, none⟩ v1).setCell ⟨w.heap.size, 2, none⟩ v2).setCell ⟨w.heap.size, 3, none⟩ v3) := by
  have b0 := h.bR
  have b1 := b0.set 0 v0
  have b2 := b1.set 1 v1
  have b3 := b2.set 2 v2
  have hB : Below w.heap.size x ((((x.setCell ⟨w.heap.size, 0, none⟩ v0).setCell ⟨w.heap.size, 1, none⟩ v1).setCell ⟨w.heap.size, 2, none⟩ v2).setCell ⟨w.heap.size, 3, none⟩ v3) :=
    ((((Below.refl _ _).setCell (p := ⟨w.heap.size, 0, none⟩) (Nat.le_refl _) _).setCell (p := ⟨w.heap.size, 1, none⟩) (Nat.le_refl _) _).setCell (p := ⟨w.heap.size, 2, none⟩) (Nat.le_refl _) _).setCell (p := ⟨w.heap.size, 3, none⟩) (Nat.le_refl _) _
  exact ⟨OwnMeta.base (rg_set (rg_set (rg_set (rg_set h.oa b0 (by decide) _) b1 (by decide) _) b2 (by decide) _) b3 (by decide) _) (by have := h.hR; omega), h.low.trans hB⟩
end

/-- One file that was just laid, as a row of one's own. -/
theorem ownMeta_one {w : World} {G : Nat} {m : Meta1} (h : BoxIs w G #[.int .i64 m.n, .int .i64 m.l, .string m.f, .string m.z, .int .i64 m.c] 62) : OwnMeta w G (.slice (some ⟨G, 0, none⟩) 1 1) [m] :=
  ⟨by simp [cellsMeta], .inr ⟨G, 1, _, rfl, Nat.le_refl _, h, Nat.le_refl _, by decide, by simp, by simp [cellsMeta]⟩⟩

set_option linter.unusedVariables false in
set_option linter.unusedSimpArgs false in
set_option maxHeartbeats 4000000 in
theorem draw_PickLevel (W w : World) (a : Option Addr) (len cap : Nat) (hc : IsCode W a len) (hl : len ≤ 1048576) (hb : Below W.heap.size W w) :
    Calls Try.prog 33 #[.slice a len cap] w fun e w' => ∃ a1 c1 l nx sq lg, e = .returned (.agg #[.slice a1 (l : List Meta1).length c1, .int .i64 nx, .int .i64 sq, .int .i64 lg]) ∧ OwnMeta w' w.heap.size (.slice a1 l.length c1) l ∧ l.length ≤ 31 ∧ Below w.heap.size w w' := by
  go_enter Try.func33, Try.ntmps33
  go_wp2_with fail
  have hb0 := below_one w (.cells #[.slice none 0 0, .int .i64 0, .int .i64 0, .int .i64 0] 46)
  have hR0 := BoxIs.new w #[.slice none 0 0, .int .i64 0, .int .i64 0, .int .i64 0] 46 rfl
  have hlt0 := hR0.lt
  generalize w.alloc (.cells #[.slice none 0 0, .int .i64 0, .int .i64 0, .int .i64 0] 46) = W0 at hb0 hR0 hlt0 ⊢
  refine (open_rdO W0 a len cap W (hb.trans (hb0.mono hb.size))).mono ?_
  rintro e w1 ⟨rfl, hr, hb1⟩
  have hlow1 := hb0.trans (hb1.mono hb0.size)
  have hR1 := hR0.next hb1
  generalize W0.heap.size = g at hr hlt0 hb1 ⊢
  have hgl := hr.lt
  clear hb hb0 hb1 hR0
  go_wp2_with fail
  refine (rd_version W _ g a len cap hc hl hr).mono ?_
  rintro e w2 ⟨a1, c1, l, nx, sq, lg, rfl, ho, hll, hn0, hn1, hs0, hs1, hr2, hm2⟩
  have hlow2 := hlow1.trans (hm2.below hlow1.size (by omega))
  have hR2 := hR1.mv hm2 (by omega)
  have hg2 := hr2.lt
  have HS := hide (⟨hr2.mv (below_one _ _), hlow2.trans ((below_one _ _).mono hlow2.size), hR2.next (below_one _ _), BoxIs.new w2 #[.slice a1 l.length c1, .int .i64 nx, .int .i64 sq, .int .i64 lg] 46 rfl, OwnMeta.next (ho.base (by omega)) (below_one _ _), hlt0, hg2⟩ : PkS W w g a len cap w2.heap.size (.slice a1 l.length c1) l nx sq lg (w2.alloc (.cells #[.slice a1 l.length c1, .int .i64 nx, .int .i64 sq, .int .i64 lg] 46)))
  clear hr ho hr2 hm2 hlow1 hlow2 hR1 hR2
  go_wp2_with fail
  generalize w2.alloc (.cells #[.slice a1 l.length c1, .int .i64 nx, .int .i64 sq, .int .i64 lg] 46) = W2 at HS ⊢
  generalize w2.heap.size = E at HS hg2 ⊢
  refine (rd_below W _ g a len cap 8 (by omega) (by omega) hc hl HS.out.rd).mono ?_
  rintro e w3 ⟨i0, rfl, hi0, hi1, hr3, hm3⟩
  have HS3 := hide (HS.out.call hr3 hm3)
  clear HS hr3 hm3
  obtain ⟨j0, rfl⟩ := Int.eq_ofNat_of_zero_le hi0
  go_wp2
  go_loopg [5] j0 (fun k v wr => v = .int .i64 (k : Int) ∧ ∃ (a1 : Option Addr) (c1 : Nat) (l : List Meta1) (nx sq lg : Int), -1000 ≤ nx ∧ nx ≤ 1000001 ∧ l.length ≤ 31 ∧ k ≤ 7 ∧ Hid (PkS W w g a len cap E (.slice a1 l.length c1) l nx sq lg wr))
  case atStart => exact ⟨rfl, _, _, l, _, _, _, by omega, by omega, hll, by omega, HS3⟩
  case round =>
    obtain ⟨rfl, a1, c1, l, nx, sq, lg, hn0, hn1, hll, hk7, HS⟩ := hrel
    clear HS3 hi0 hi1
    by_cases hk : gk = 0
    · subst hk
      have y0 := HS.out.bE.cell 0
      have y1 := HS.out.bE.cell 1
      have y2 := HS.out.bE.cell 2
      have y3 := HS.out.bE.cell 3
      have z0 := HS.out.bR.cell 0
      have z1 := HS.out.bR.cell 1
      have z2 := HS.out.bR.cell 2
      have z3 := HS.out.bR.cell 3
      have zf := HS.out.bR.free
      simp only [List.getElem?_toArray, List.getElem?_cons_succ, List.getElem?_cons_zero] at y0 y1 y2 y3 z0 z1 z2 z3
      have hE1 : E ≠ w.heap.size := by omega
      go_wp2
      obtain ⟨r1, r3⟩ := HS.out.ret (.slice a1 l.length c1) (.int .i64 nx) (.int .i64 sq) (.int .i64 lg)
      exact bodyPost_ret (v := .agg #[.slice a1 l.length c1, .int .i64 nx, .int .i64 sq, .int .i64 lg]) (by simp [results, Try.results33, go_sem, z0, z1, z2, z3]) rfl ⟨_, _, l, nx, sq, lg, rfl, r1, hll, r3⟩
    · obtain ⟨k, rfl⟩ : ∃ k, gk = k + 1 := ⟨gk - 1, by omega⟩
      clear hk
      have hkp : (0 : Int) < ((k + 1 : Nat) : Int) := by omega
      go_upto_region 6 with fail
      go_cut [6, 7] (fun p t wx => ∃ (N : Nat) (b : Bool) (a2 : Option Addr) (c2 : Nat) (l2 : List Meta1) (n2 s2 g2 : Int), p = .pointer (some ⟨N, 0, none⟩) ∧ t = .bool b ∧ (b = true → 1 ≤ n2 ∧ n2 ≤ 1000000 ∧ l2.length ≤ 30) ∧ N ≠ E ∧ Hid (PkS W w g a len cap E (.slice a1 l.length c1) l nx sq lg wx) ∧ Hid (BoxIs wx N #[.slice a2 l2.length c2, .int .i64 n2, .int .i64 s2, .int .i64 g2] 46) ∧ Hid (OwnMeta wx (g + 1) (.slice a2 l2.length c2) l2))
      case first =>
        have H0 := HS.out
        clear HS
        refine wp_region_noPanic ?_
        have hb0 : Below wr.heap.size wr wr.drew := (Below.refl _ _).drew
        have H_0 := H0.next hb0
        refine wp_region_held_drew (S := fun x => BoxIs x E #[.slice a1 l.length c1, .int .i64 nx, .int .i64 sq, .int .i64 lg] 46) (by kernel_rfl) H_0.bE (fun hSz => ?_)
        clear hSz H0
        generalize wr.drew = wq0 at hb0 H_0 ⊢
        clear hb0
        refine wpAnyH_take (i := 0) (v := .agg #[.slice a1 l.length c1, .int .i64 nx, .int .i64 sq, .int .i64 lg]) nat0 (by kernel_rfl) (by kernel_rfl) (by kernel_rfl) (fun _ _ _ h => False.elim h) (Or.inl ⟨by rfl, ?_⟩) H_0.bE ?_
        · intro wx hSw
          have y0 := hSw.cell 0
          have y1 := hSw.cell 1
          have y2 := hSw.cell 2
          have y3 := hSw.cell 3
          simp only [List.getElem?_toArray, List.getElem?_cons_succ, List.getElem?_cons_zero] at y0 y1 y2 y3
          go_simp
        simp only [Act.put, List.setIfInBounds_toArray, List.set_cons_zero, List.set_cons_succ]
        refine wpAnyH_take (i := 1) (v := .pointer (some ⟨E, 1, none⟩)) nat1 (by kernel_rfl) (by kernel_rfl) (by kernel_rfl) (fun _ _ _ h => False.elim h) (Or.inl ⟨by rfl, ?_⟩) H_0.bE ?_
        · intro wx hSw
          go_simp
        simp only [Act.put, List.setIfInBounds_toArray, List.set_cons_zero, List.set_cons_succ]
        refine wpAnyH_take (i := 2) (v := .int .i64 nx) nat2 (by kernel_rfl) (by kernel_rfl) (by kernel_rfl) (fun _ _ _ h => False.elim h) (Or.inl ⟨by rfl, ?_⟩) H_0.bE ?_
        · intro wx hSw
          have y0 := hSw.cell 1
          simp only [List.getElem?_toArray, List.getElem?_cons_succ, List.getElem?_cons_zero] at y0
          go_simp
        simp only [Act.put, List.setIfInBounds_toArray, List.set_cons_zero, List.set_cons_succ]
        refine wpAnyH_take (i := 3) (v := .int .i64 (nx + 1)) nat3 (by kernel_rfl) (by kernel_rfl) (by kernel_rfl) (fun _ _ _ h => False.elim h) (Or.inl ⟨by rfl, ?_⟩) H_0.bE ?_
        · intro wx hSw
          go_simp
          try (try rw [Int.tdiv_eq_ediv_of_nonneg (by omega)]); try (rw [IntKind.wrap_i64]; omega)
        simp only [Act.put, List.setIfInBounds_toArray, List.set_cons_zero, List.set_cons_succ]
        refine wpAnyH_take (i := 4) (v := .pointer (some ⟨E, 2, none⟩)) nat4 (by kernel_rfl) (by kernel_rfl) (by kernel_rfl) (fun _ _ _ h => False.elim h) (Or.inl ⟨by rfl, ?_⟩) H_0.bE ?_
        · intro wx hSw
          go_simp
        simp only [Act.put, List.setIfInBounds_toArray, List.set_cons_zero, List.set_cons_succ]
        refine wpAnyH_take (i := 5) (v := .int .i64 sq) nat5 (by kernel_rfl) (by kernel_rfl) (by kernel_rfl) (fun _ _ _ h => False.elim h) (Or.inl ⟨by rfl, ?_⟩) H_0.bE ?_
        · intro wx hSw
          have y0 := hSw.cell 2
          simp only [List.getElem?_toArray, List.getElem?_cons_succ, List.getElem?_cons_zero] at y0
          go_simp
        simp only [Act.put, List.setIfInBounds_toArray, List.set_cons_zero, List.set_cons_succ]
        refine wpAnyH_take (i := 6) (v := .pointer (some ⟨E, 3, none⟩)) nat6 (by kernel_rfl) (by kernel_rfl) (by kernel_rfl) (fun _ _ _ h => False.elim h) (Or.inl ⟨by rfl, ?_⟩) H_0.bE ?_
        · intro wx hSw
          go_simp
        simp only [Act.put, List.setIfInBounds_toArray, List.set_cons_zero, List.set_cons_succ]
        refine wpAnyH_take (i := 7) (v := .int .i64 lg) nat7 (by kernel_rfl) (by kernel_rfl) (by kernel_rfl) (fun _ _ _ h => False.elim h) (Or.inl ⟨by rfl, ?_⟩) H_0.bE ?_
        · intro wx hSw
          have y0 := hSw.cell 3
          simp only [List.getElem?_toArray, List.getElem?_cons_succ, List.getElem?_cons_zero] at y0
          go_simp
        simp only [Act.put, List.setIfInBounds_toArray, List.set_cons_zero, List.set_cons_succ]
        refine wpAnyH_take (i := 8) (v := .pointer (some ⟨E, 1, none⟩)) nat8 (by kernel_rfl) (by kernel_rfl) (by kernel_rfl) (fun _ _ _ h => False.elim h) (Or.inl ⟨by rfl, ?_⟩) H_0.bE ?_
        · intro wx hSw
          go_simp
        simp only [Act.put, List.setIfInBounds_toArray, List.set_cons_zero, List.set_cons_succ]
        refine wpAnyH_take (i := 9) (v := .int .i64 nx) nat9 (by kernel_rfl) (by kernel_rfl) (by kernel_rfl) (fun _ _ _ h => False.elim h) (Or.inl ⟨by rfl, ?_⟩) H_0.bE ?_
        · intro wx hSw
          have y0 := hSw.cell 1
          simp only [List.getElem?_toArray, List.getElem?_cons_succ, List.getElem?_cons_zero] at y0
          go_simp
        simp only [Act.put, List.setIfInBounds_toArray, List.set_cons_zero, List.set_cons_succ]
        refine wpAnyH_take (i := 10) (v := .pointer (some ⟨g, 0, none⟩)) nat10 (by kernel_rfl) (by kernel_rfl) (by kernel_rfl) (fun _ _ _ h => False.elim h) (Or.inl ⟨by rfl, ?_⟩) H_0.bE ?_
        · intro wx hSw
          go_simp
        simp only [Act.put, List.setIfInBounds_toArray, List.set_cons_zero, List.set_cons_succ]
        refine wpAnyH_take (i := 13) (v := .pointer (some ⟨g, 0, none⟩)) nat13 (by kernel_rfl) (by kernel_rfl) (by kernel_rfl) (fun _ _ _ h => False.elim h) (Or.inl ⟨by rfl, ?_⟩) H_0.bE ?_
        · intro wx hSw
          go_simp
        simp only [Act.put, List.setIfInBounds_toArray, List.set_cons_zero, List.set_cons_succ]
        refine wpAnyH_ready (rs := [11, 23]) (by kernel_rfl) (by simp) ?_
        refine AllReadyH.cons nat11 (fun K hK => ?_) (AllReadyH.cons nat23 (fun K hK => ?_) AllReadyH.nil)
        · go_simp
          go_at_call 63
          refine (rd_below W _ g a len cap (5) (by omega) (by omega) hc hl H_0.rd).mono ?_
          rintro e wq1 ⟨x1, rfl, hx1, hy1, hr1, hb1⟩
          have H_1 := H_0.call hr1 hb1
          refine hK.out _ _ H_1.bE (fun hSz => ?_)
          clear hK K hSz H_0 hb1
          refine wpAnyH_take (i := 12) (v := .int .i64 (x1 / 4)) nat12 (by kernel_rfl) (by kernel_rfl) (by kernel_rfl) (fun _ _ _ h => False.elim h) (Or.inl ⟨by rfl, ?_⟩) H_1.bE ?_
          · intro wx hSw
            go_simp
            try (try rw [Int.tdiv_eq_ediv_of_nonneg (by omega)]); try (rw [IntKind.wrap_i64]; omega)
          simp only [Act.put, List.setIfInBounds_toArray, List.set_cons_zero, List.set_cons_succ]
          refine wpAnyH_ready (rs := [14, 23]) (by kernel_rfl) (by simp) ?_
          refine AllReadyH.cons nat14 (fun K hK => ?_) (AllReadyH.cons nat23 (fun K hK => ?_) AllReadyH.nil)
          · go_simp
            go_at_call 63
            refine (rd_below W _ g a len cap (40) (by omega) (by omega) hc hl H_1.rd).mono ?_
            rintro e wq2 ⟨x2, rfl, hx2, hy2, hr2, hb2⟩
            have H_2 := H_1.call hr2 hb2
            refine hK.out _ _ H_2.bE (fun hSz => ?_)
            clear hK K hSz H_1 hb2
            refine wpAnyH_take (i := 15) (v := .int .i64 (1 + x2)) nat15 (by kernel_rfl) (by kernel_rfl) (by kernel_rfl) (fun _ _ _ h => False.elim h) (Or.inl ⟨by rfl, ?_⟩) H_2.bE ?_
            · intro wx hSw
              go_simp
              try (try rw [Int.tdiv_eq_ediv_of_nonneg (by omega)]); try (rw [IntKind.wrap_i64]; omega)
            simp only [Act.put, List.setIfInBounds_toArray, List.set_cons_zero, List.set_cons_succ]
            refine wpAnyH_take (i := 16) (v := .agg #[.int .i64 nx, .int .i64 (x1 / 4), .string ⟨#[97]⟩, .string ⟨#[98]⟩, .int .i64 (1 + x2)]) nat16 (by kernel_rfl) (by kernel_rfl) (by kernel_rfl) (fun _ _ _ h => False.elim h) (Or.inl ⟨by rfl, ?_⟩) H_2.bE ?_
            · intro wx hSw
              go_simp
            simp only [Act.put, List.setIfInBounds_toArray, List.set_cons_zero, List.set_cons_succ]
            refine wpAnyH_ready (rs := [17, 23]) (by kernel_rfl) (by simp) ?_
            refine AllReadyH.cons nat17 (fun K hK => ?_) (AllReadyH.cons nat23 (fun K hK => ?_) AllReadyH.nil)
            · go_simp
              have hlt3 := H_2.bE.lt
              have hb3 := below_one wq2 (.cells #[.int .i64 nx, .int .i64 (x1 / 4), .string ⟨#[97]⟩, .string ⟨#[98]⟩, .int .i64 (1 + x2)] 62)
              have H_3 := H_2.next hb3
              have NB36_3 := BoxIs.new wq2 #[.int .i64 nx, .int .i64 (x1 / 4), .string ⟨#[97]⟩, .string ⟨#[98]⟩, .int .i64 (1 + x2)] 62 rfl
              refine hK.out _ _ H_3.bE (fun hSz => ?_)
              clear hK K hSz H_2
              obtain ⟨G3, hG3⟩ : ∃ G, G = wq2.heap.size := ⟨_, rfl⟩
              rw [← hG3] at NB36_3 ⊢
              generalize wq2.alloc (.cells #[.int .i64 nx, .int .i64 (x1 / 4), .string ⟨#[97]⟩, .string ⟨#[98]⟩, .int .i64 (1 + x2)] 62) = wq3 at hb3 H_3 NB36_3 ⊢
              rw [← hG3] at hlt3
              clear hG3 hb3
              refine wpAnyH_take (i := 18) (v := .agg #[.slice (some ⟨G3, 0, none⟩) 1 1, .slice none 0 0, .int .i64 (nx + 1), .int .i64 sq, .int .i64 lg]) nat18 (by kernel_rfl) (by kernel_rfl) (by kernel_rfl) (fun _ _ _ h => False.elim h) (Or.inl ⟨by rfl, ?_⟩) H_3.bE ?_
              · intro wx hSw
                go_simp
              simp only [Act.put, List.setIfInBounds_toArray, List.set_cons_zero, List.set_cons_succ]
              refine wpAnyH_ready (rs := [19, 23]) (by kernel_rfl) (by simp) ?_
              refine AllReadyH.cons nat19 (fun K hK => ?_) (AllReadyH.cons nat23 (fun K hK => ?_) AllReadyH.nil)
              · go_simp
                go_at_call 71
                refine (apply_own _ l _ _ _ _ [⟨nx, x1 / 4, ⟨#[97]⟩, ⟨#[98]⟩, 1 + x2⟩] _ [] _ _ _ _ _ 0 _ (by omega) (by simp) (by simp) H_3.oa (ownMeta_one (m := ⟨nx, x1 / 4, ⟨#[97]⟩, ⟨#[98]⟩, 1 + x2⟩) NB36_3) (OwnI.nil _ 0)).mono ?_
                rintro e wq4 ⟨⟨b4, na4, nc4, nl4, nn4, ns4, ng4, rfl, no4, nh4⟩, hb4⟩
                have H_4 := H_3.next hb4
                have NO_4 := (show OwnMeta _ (g + 1) _ _ from no4.base (by have := H_3.rd.lt; omega))
                refine hK.out _ _ H_4.bE (fun hSz => ?_)
                clear hK K hSz H_3 NB36_3 hb4 no4
                refine wpAnyH_take (i := 20) (v := .tuple #[.agg #[.slice na4 nl4.length nc4, .int .i64 nn4, .int .i64 ns4, .int .i64 ng4], .bool b4]) nat20 (by kernel_rfl) (by kernel_rfl) (by kernel_rfl) (fun _ _ _ h => False.elim h) (Or.inl ⟨by rfl, ?_⟩) H_4.bE ?_
                · intro wx hSw
                  go_simp
                simp only [Act.put, List.setIfInBounds_toArray, List.set_cons_zero, List.set_cons_succ]
                refine wpAnyH_take (i := 21) (v := .agg #[.slice na4 nl4.length nc4, .int .i64 nn4, .int .i64 ns4, .int .i64 ng4]) nat21 (by kernel_rfl) (by kernel_rfl) (by kernel_rfl) (fun _ _ _ h => False.elim h) (Or.inl ⟨by rfl, ?_⟩) H_4.bE ?_
                · intro wx hSw
                  go_simp
                simp only [Act.put, List.setIfInBounds_toArray, List.set_cons_zero, List.set_cons_succ]
                refine wpAnyH_take (i := 22) (v := .bool b4) nat22 (by kernel_rfl) (by kernel_rfl) (by kernel_rfl) (fun _ _ _ h => False.elim h) (Or.inl ⟨by rfl, ?_⟩) H_4.bE ?_
                · intro wx hSw
                  go_simp
                simp only [Act.put, List.setIfInBounds_toArray, List.set_cons_zero, List.set_cons_succ]
                refine wpAnyH_ready (rs := [23]) (by kernel_rfl) (by simp) ?_
                refine AllReadyH.cons nat23 (fun K hK => ?_) AllReadyH.nil
                go_simp
                have hlt5 := H_4.bE.lt
                have hb5 := below_one wq4 (.cells #[.slice none 0 0, .int .i64 0, .int .i64 0, .int .i64 0] 46)
                have H_5 := H_4.next hb5
                have NO_5 := NO_4.next hb5
                have NB6_5 := BoxIs.new wq4 #[.slice none 0 0, .int .i64 0, .int .i64 0, .int .i64 0] 46 rfl
                refine hK.out _ _ H_5.bE (fun hSz => ?_)
                clear hK K hSz H_4 NO_4
                obtain ⟨G5, hG5⟩ : ∃ G, G = wq4.heap.size := ⟨_, rfl⟩
                rw [← hG5] at NB6_5 ⊢
                generalize wq4.alloc (.cells #[.slice none 0 0, .int .i64 0, .int .i64 0, .int .i64 0] 46) = wq5 at hb5 H_5 NO_5 NB6_5 ⊢
                rw [← hG5] at hlt5
                clear hG5 hb5
                refine wpAnyH_ready (rs := [24]) (by kernel_rfl) (by simp) ?_
                refine AllReadyH.cons nat24 (fun K hK => ?_) AllReadyH.nil
                have y0 := NB6_5.cell 0
                have y1 := NB6_5.cell 1
                have y2 := NB6_5.cell 2
                have y3 := NB6_5.cell 3
                simp only [List.getElem?_toArray, List.getElem?_cons_succ, List.getElem?_cons_zero] at y0 y1 y2 y3
                have yf := NB6_5.free
                go_simp
                clear yf y0 y1 y2 y3
                have H_6s0 := H_5.setN hlt5 NB6_5 0 (.slice na4 nl4.length nc4)
                have NO_6s0 := (show OwnMeta _ _ _ _ from rg_set (o := 0) NO_5 NB6_5 (by decide) (.slice na4 nl4.length nc4))
                have NB6_6s0 := NB6_5.set 0 (.slice na4 nl4.length nc4)
                have H_6s1 := H_6s0.setN hlt5 NB6_6s0 1 (.int .i64 nn4)
                have NO_6s1 := (show OwnMeta _ _ _ _ from rg_set (o := 1) NO_6s0 NB6_6s0 (by decide) (.int .i64 nn4))
                have NB6_6s1 := NB6_6s0.set 1 (.int .i64 nn4)
                have H_6s2 := H_6s1.setN hlt5 NB6_6s1 2 (.int .i64 ns4)
                have NO_6s2 := (show OwnMeta _ _ _ _ from rg_set (o := 2) NO_6s1 NB6_6s1 (by decide) (.int .i64 ns4))
                have NB6_6s2 := NB6_6s1.set 2 (.int .i64 ns4)
                have H_6s3 := H_6s2.setN hlt5 NB6_6s2 3 (.int .i64 ng4)
                have NO_6s3 := (show OwnMeta _ _ _ _ from rg_set (o := 3) NO_6s2 NB6_6s2 (by decide) (.int .i64 ng4))
                have NB6_6s3 := NB6_6s2.set 3 (.int .i64 ng4)
                have H_6 := H_6s3
                have NO_6 := NO_6s3
                have NB6_6 : BoxIs ((((wq5.setCell ⟨G5, 0, none⟩ (.slice na4 nl4.length nc4)).setCell ⟨G5, 1, none⟩ (.int .i64 nn4)).setCell ⟨G5, 2, none⟩ (.int .i64 ns4)).setCell ⟨G5, 3, none⟩ (.int .i64 ng4)) G5 #[.slice na4 nl4.length nc4, .int .i64 nn4, .int .i64 ns4, .int .i64 ng4] 46 := NB6_6s3
                refine hK.out _ _ H_6.bE (fun hSz => ?_)
                clear hK K hSz H_5 NB6_5 NO_5 H_6s0 H_6s1 H_6s2 H_6s3 NO_6s0 NO_6s1 NO_6s2 NO_6s3 NB6_6s0 NB6_6s1 NB6_6s2 NB6_6s3
                generalize (((wq5.setCell ⟨G5, 0, none⟩ (.slice na4 nl4.length nc4)).setCell ⟨G5, 1, none⟩ (.int .i64 nn4)).setCell ⟨G5, 2, none⟩ (.int .i64 ns4)).setCell ⟨G5, 3, none⟩ (.int .i64 ng4) = wq6 at H_6 NO_6 NB6_6 ⊢
                refine wpAnyH_take (i := 25) (v := .bool b4) nat25 (by kernel_rfl) (by kernel_rfl) (by kernel_rfl) (fun _ _ _ h => False.elim h) (Or.inl ⟨by rfl, ?_⟩) H_6.bE ?_
                · intro wx hSw
                  go_simp
                simp only [Act.put, List.setIfInBounds_toArray, List.set_cons_zero, List.set_cons_succ]
                refine wpAnyH_done (by kernel_rfl) ?_ _
                refine NoPanic.normal ?_
                go_wp2_with fail
                go_meet
                exact ⟨G5, b4, _, _, nl4, _, _, _, rfl, rfl, (fun hb => by obtain ⟨z1, z2, z3, z4, z5, z6, z7⟩ := nh4 hb; omega), by omega, hide H_6, hide NB6_6, hide NO_6⟩
              · go_simp
                have hlt7 := H_3.bE.lt
                have hb7 := below_one wq3 (.cells #[.slice none 0 0, .int .i64 0, .int .i64 0, .int .i64 0] 46)
                have H_7 := H_3.next hb7
                have NB36_7 := NB36_3.next hb7
                have NB6_7 := BoxIs.new wq3 #[.slice none 0 0, .int .i64 0, .int .i64 0, .int .i64 0] 46 rfl
                refine hK.out _ _ H_7.bE (fun hSz => ?_)
                clear hK K hSz H_3 NB36_3
                obtain ⟨G7, hG7⟩ : ∃ G, G = wq3.heap.size := ⟨_, rfl⟩
                rw [← hG7] at NB6_7 ⊢
                generalize wq3.alloc (.cells #[.slice none 0 0, .int .i64 0, .int .i64 0, .int .i64 0] 46) = wq7 at hb7 H_7 NB36_7 NB6_7 ⊢
                rw [← hG7] at hlt7
                clear hG7 hb7
                refine wpAnyH_ready (rs := [19]) (by kernel_rfl) (by simp) ?_
                refine AllReadyH.cons nat19 (fun K hK => ?_) AllReadyH.nil
                go_simp
                go_at_call 71
                refine (apply_own _ l _ _ _ _ [⟨nx, x1 / 4, ⟨#[97]⟩, ⟨#[98]⟩, 1 + x2⟩] _ [] _ _ _ _ _ 0 _ (by omega) (by simp) (by simp) H_7.oa (ownMeta_one (m := ⟨nx, x1 / 4, ⟨#[97]⟩, ⟨#[98]⟩, 1 + x2⟩) NB36_7) (OwnI.nil _ 0)).mono ?_
                rintro e wq8 ⟨⟨b8, na8, nc8, nl8, nn8, ns8, ng8, rfl, no8, nh8⟩, hb8⟩
                have H_8 := H_7.next hb8
                have NB6_8 := NB6_7.next hb8
                have NO_8 := (show OwnMeta _ (g + 1) _ _ from no8.base (by have := H_7.rd.lt; omega))
                refine hK.out _ _ H_8.bE (fun hSz => ?_)
                clear hK K hSz H_7 NB36_7 NB6_7 hb8 no8
                refine wpAnyH_take (i := 20) (v := .tuple #[.agg #[.slice na8 nl8.length nc8, .int .i64 nn8, .int .i64 ns8, .int .i64 ng8], .bool b8]) nat20 (by kernel_rfl) (by kernel_rfl) (by kernel_rfl) (fun _ _ _ h => False.elim h) (Or.inl ⟨by rfl, ?_⟩) H_8.bE ?_
                · intro wx hSw
                  go_simp
                simp only [Act.put, List.setIfInBounds_toArray, List.set_cons_zero, List.set_cons_succ]
                refine wpAnyH_take (i := 21) (v := .agg #[.slice na8 nl8.length nc8, .int .i64 nn8, .int .i64 ns8, .int .i64 ng8]) nat21 (by kernel_rfl) (by kernel_rfl) (by kernel_rfl) (fun _ _ _ h => False.elim h) (Or.inl ⟨by rfl, ?_⟩) H_8.bE ?_
                · intro wx hSw
                  go_simp
                simp only [Act.put, List.setIfInBounds_toArray, List.set_cons_zero, List.set_cons_succ]
                refine wpAnyH_take (i := 22) (v := .bool b8) nat22 (by kernel_rfl) (by kernel_rfl) (by kernel_rfl) (fun _ _ _ h => False.elim h) (Or.inl ⟨by rfl, ?_⟩) H_8.bE ?_
                · intro wx hSw
                  go_simp
                simp only [Act.put, List.setIfInBounds_toArray, List.set_cons_zero, List.set_cons_succ]
                refine wpAnyH_ready (rs := [24]) (by kernel_rfl) (by simp) ?_
                refine AllReadyH.cons nat24 (fun K hK => ?_) AllReadyH.nil
                have y0 := NB6_8.cell 0
                have y1 := NB6_8.cell 1
                have y2 := NB6_8.cell 2
                have y3 := NB6_8.cell 3
                simp only [List.getElem?_toArray, List.getElem?_cons_succ, List.getElem?_cons_zero] at y0 y1 y2 y3
                have yf := NB6_8.free
                go_simp
                clear yf y0 y1 y2 y3
                have H_9s0 := H_8.setN hlt7 NB6_8 0 (.slice na8 nl8.length nc8)
                have NB6_9s0 := NB6_8.set 0 (.slice na8 nl8.length nc8)
                have NO_9s0 := (show OwnMeta _ _ _ _ from rg_set (o := 0) NO_8 NB6_8 (by decide) (.slice na8 nl8.length nc8))
                have H_9s1 := H_9s0.setN hlt7 NB6_9s0 1 (.int .i64 nn8)
                have NB6_9s1 := NB6_9s0.set 1 (.int .i64 nn8)
                have NO_9s1 := (show OwnMeta _ _ _ _ from rg_set (o := 1) NO_9s0 NB6_9s0 (by decide) (.int .i64 nn8))
                have H_9s2 := H_9s1.setN hlt7 NB6_9s1 2 (.int .i64 ns8)
                have NB6_9s2 := NB6_9s1.set 2 (.int .i64 ns8)
                have NO_9s2 := (show OwnMeta _ _ _ _ from rg_set (o := 2) NO_9s1 NB6_9s1 (by decide) (.int .i64 ns8))
                have H_9s3 := H_9s2.setN hlt7 NB6_9s2 3 (.int .i64 ng8)
                have NB6_9s3 := NB6_9s2.set 3 (.int .i64 ng8)
                have NO_9s3 := (show OwnMeta _ _ _ _ from rg_set (o := 3) NO_9s2 NB6_9s2 (by decide) (.int .i64 ng8))
                have H_9 := H_9s3
                have NB6_9 : BoxIs ((((wq8.setCell ⟨G7, 0, none⟩ (.slice na8 nl8.length nc8)).setCell ⟨G7, 1, none⟩ (.int .i64 nn8)).setCell ⟨G7, 2, none⟩ (.int .i64 ns8)).setCell ⟨G7, 3, none⟩ (.int .i64 ng8)) G7 #[.slice na8 nl8.length nc8, .int .i64 nn8, .int .i64 ns8, .int .i64 ng8] 46 := NB6_9s3
                have NO_9 := NO_9s3
                refine hK.out _ _ H_9.bE (fun hSz => ?_)
                clear hK K hSz H_8 NB6_8 NO_8 H_9s0 H_9s1 H_9s2 H_9s3 NB6_9s0 NB6_9s1 NB6_9s2 NB6_9s3 NO_9s0 NO_9s1 NO_9s2 NO_9s3
                generalize (((wq8.setCell ⟨G7, 0, none⟩ (.slice na8 nl8.length nc8)).setCell ⟨G7, 1, none⟩ (.int .i64 nn8)).setCell ⟨G7, 2, none⟩ (.int .i64 ns8)).setCell ⟨G7, 3, none⟩ (.int .i64 ng8) = wq9 at H_9 NB6_9 NO_9 ⊢
                refine wpAnyH_take (i := 25) (v := .bool b8) nat25 (by kernel_rfl) (by kernel_rfl) (by kernel_rfl) (fun _ _ _ h => False.elim h) (Or.inl ⟨by rfl, ?_⟩) H_9.bE ?_
                · intro wx hSw
                  go_simp
                simp only [Act.put, List.setIfInBounds_toArray, List.set_cons_zero, List.set_cons_succ]
                refine wpAnyH_done (by kernel_rfl) ?_ _
                refine NoPanic.normal ?_
                go_wp2_with fail
                go_meet
                exact ⟨G7, b8, _, _, nl8, _, _, _, rfl, rfl, (fun hb => by obtain ⟨z1, z2, z3, z4, z5, z6, z7⟩ := nh8 hb; omega), by omega, hide H_9, hide NB6_9, hide NO_9⟩
            · go_simp
              have hlt10 := H_2.bE.lt
              have hb10 := below_one wq2 (.cells #[.slice none 0 0, .int .i64 0, .int .i64 0, .int .i64 0] 46)
              have H_10 := H_2.next hb10
              have NB6_10 := BoxIs.new wq2 #[.slice none 0 0, .int .i64 0, .int .i64 0, .int .i64 0] 46 rfl
              refine hK.out _ _ H_10.bE (fun hSz => ?_)
              clear hK K hSz H_2
              obtain ⟨G10, hG10⟩ : ∃ G, G = wq2.heap.size := ⟨_, rfl⟩
              rw [← hG10] at NB6_10 ⊢
              generalize wq2.alloc (.cells #[.slice none 0 0, .int .i64 0, .int .i64 0, .int .i64 0] 46) = wq10 at hb10 H_10 NB6_10 ⊢
              rw [← hG10] at hlt10
              clear hG10 hb10
              refine wpAnyH_ready (rs := [17]) (by kernel_rfl) (by simp) ?_
              refine AllReadyH.cons nat17 (fun K hK => ?_) AllReadyH.nil
              go_simp
              have hlt11 := H_10.bE.lt
              have hb11 := below_one wq10 (.cells #[.int .i64 nx, .int .i64 (x1 / 4), .string ⟨#[97]⟩, .string ⟨#[98]⟩, .int .i64 (1 + x2)] 62)
              have H_11 := H_10.next hb11
              have NB6_11 := NB6_10.next hb11
              have NB36_11 := BoxIs.new wq10 #[.int .i64 nx, .int .i64 (x1 / 4), .string ⟨#[97]⟩, .string ⟨#[98]⟩, .int .i64 (1 + x2)] 62 rfl
              refine hK.out _ _ H_11.bE (fun hSz => ?_)
              clear hK K hSz H_10 NB6_10
              obtain ⟨G11, hG11⟩ : ∃ G, G = wq10.heap.size := ⟨_, rfl⟩
              rw [← hG11] at NB36_11 ⊢
              generalize wq10.alloc (.cells #[.int .i64 nx, .int .i64 (x1 / 4), .string ⟨#[97]⟩, .string ⟨#[98]⟩, .int .i64 (1 + x2)] 62) = wq11 at hb11 H_11 NB6_11 NB36_11 ⊢
              rw [← hG11] at hlt11
              clear hG11 hb11
              refine wpAnyH_take (i := 18) (v := .agg #[.slice (some ⟨G11, 0, none⟩) 1 1, .slice none 0 0, .int .i64 (nx + 1), .int .i64 sq, .int .i64 lg]) nat18 (by kernel_rfl) (by kernel_rfl) (by kernel_rfl) (fun _ _ _ h => False.elim h) (Or.inl ⟨by rfl, ?_⟩) H_11.bE ?_
              · intro wx hSw
                go_simp
              simp only [Act.put, List.setIfInBounds_toArray, List.set_cons_zero, List.set_cons_succ]
              refine wpAnyH_ready (rs := [19]) (by kernel_rfl) (by simp) ?_
              refine AllReadyH.cons nat19 (fun K hK => ?_) AllReadyH.nil
              go_simp
              go_at_call 71
              refine (apply_own _ l _ _ _ _ [⟨nx, x1 / 4, ⟨#[97]⟩, ⟨#[98]⟩, 1 + x2⟩] _ [] _ _ _ _ _ 0 _ (by omega) (by simp) (by simp) H_11.oa (ownMeta_one (m := ⟨nx, x1 / 4, ⟨#[97]⟩, ⟨#[98]⟩, 1 + x2⟩) NB36_11) (OwnI.nil _ 0)).mono ?_
              rintro e wq12 ⟨⟨b12, na12, nc12, nl12, nn12, ns12, ng12, rfl, no12, nh12⟩, hb12⟩
              have H_12 := H_11.next hb12
              have NB6_12 := NB6_11.next hb12
              have NO_12 := (show OwnMeta _ (g + 1) _ _ from no12.base (by have := H_11.rd.lt; omega))
              refine hK.out _ _ H_12.bE (fun hSz => ?_)
              clear hK K hSz H_11 NB36_11 NB6_11 hb12 no12
              refine wpAnyH_take (i := 20) (v := .tuple #[.agg #[.slice na12 nl12.length nc12, .int .i64 nn12, .int .i64 ns12, .int .i64 ng12], .bool b12]) nat20 (by kernel_rfl) (by kernel_rfl) (by kernel_rfl) (fun _ _ _ h => False.elim h) (Or.inl ⟨by rfl, ?_⟩) H_12.bE ?_
              · intro wx hSw
                go_simp
              simp only [Act.put, List.setIfInBounds_toArray, List.set_cons_zero, List.set_cons_succ]
              refine wpAnyH_take (i := 21) (v := .agg #[.slice na12 nl12.length nc12, .int .i64 nn12, .int .i64 ns12, .int .i64 ng12]) nat21 (by kernel_rfl) (by kernel_rfl) (by kernel_rfl) (fun _ _ _ h => False.elim h) (Or.inl ⟨by rfl, ?_⟩) H_12.bE ?_
              · intro wx hSw
                go_simp
              simp only [Act.put, List.setIfInBounds_toArray, List.set_cons_zero, List.set_cons_succ]
              refine wpAnyH_take (i := 22) (v := .bool b12) nat22 (by kernel_rfl) (by kernel_rfl) (by kernel_rfl) (fun _ _ _ h => False.elim h) (Or.inl ⟨by rfl, ?_⟩) H_12.bE ?_
              · intro wx hSw
                go_simp
              simp only [Act.put, List.setIfInBounds_toArray, List.set_cons_zero, List.set_cons_succ]
              refine wpAnyH_ready (rs := [24]) (by kernel_rfl) (by simp) ?_
              refine AllReadyH.cons nat24 (fun K hK => ?_) AllReadyH.nil
              have y0 := NB6_12.cell 0
              have y1 := NB6_12.cell 1
              have y2 := NB6_12.cell 2
              have y3 := NB6_12.cell 3
              simp only [List.getElem?_toArray, List.getElem?_cons_succ, List.getElem?_cons_zero] at y0 y1 y2 y3
              have yf := NB6_12.free
              go_simp
              clear yf y0 y1 y2 y3
              have H_13s0 := H_12.setN hlt10 NB6_12 0 (.slice na12 nl12.length nc12)
              have NB6_13s0 := NB6_12.set 0 (.slice na12 nl12.length nc12)
              have NO_13s0 := (show OwnMeta _ _ _ _ from rg_set (o := 0) NO_12 NB6_12 (by decide) (.slice na12 nl12.length nc12))
              have H_13s1 := H_13s0.setN hlt10 NB6_13s0 1 (.int .i64 nn12)
              have NB6_13s1 := NB6_13s0.set 1 (.int .i64 nn12)
              have NO_13s1 := (show OwnMeta _ _ _ _ from rg_set (o := 1) NO_13s0 NB6_13s0 (by decide) (.int .i64 nn12))
              have H_13s2 := H_13s1.setN hlt10 NB6_13s1 2 (.int .i64 ns12)
              have NB6_13s2 := NB6_13s1.set 2 (.int .i64 ns12)
              have NO_13s2 := (show OwnMeta _ _ _ _ from rg_set (o := 2) NO_13s1 NB6_13s1 (by decide) (.int .i64 ns12))
              have H_13s3 := H_13s2.setN hlt10 NB6_13s2 3 (.int .i64 ng12)
              have NB6_13s3 := NB6_13s2.set 3 (.int .i64 ng12)
              have NO_13s3 := (show OwnMeta _ _ _ _ from rg_set (o := 3) NO_13s2 NB6_13s2 (by decide) (.int .i64 ng12))
              have H_13 := H_13s3
              have NB6_13 : BoxIs ((((wq12.setCell ⟨G10, 0, none⟩ (.slice na12 nl12.length nc12)).setCell ⟨G10, 1, none⟩ (.int .i64 nn12)).setCell ⟨G10, 2, none⟩ (.int .i64 ns12)).setCell ⟨G10, 3, none⟩ (.int .i64 ng12)) G10 #[.slice na12 nl12.length nc12, .int .i64 nn12, .int .i64 ns12, .int .i64 ng12] 46 := NB6_13s3
              have NO_13 := NO_13s3
              refine hK.out _ _ H_13.bE (fun hSz => ?_)
              clear hK K hSz H_12 NB6_12 NO_12 H_13s0 H_13s1 H_13s2 H_13s3 NB6_13s0 NB6_13s1 NB6_13s2 NB6_13s3 NO_13s0 NO_13s1 NO_13s2 NO_13s3
              generalize (((wq12.setCell ⟨G10, 0, none⟩ (.slice na12 nl12.length nc12)).setCell ⟨G10, 1, none⟩ (.int .i64 nn12)).setCell ⟨G10, 2, none⟩ (.int .i64 ns12)).setCell ⟨G10, 3, none⟩ (.int .i64 ng12) = wq13 at H_13 NB6_13 NO_13 ⊢
              refine wpAnyH_take (i := 25) (v := .bool b12) nat25 (by kernel_rfl) (by kernel_rfl) (by kernel_rfl) (fun _ _ _ h => False.elim h) (Or.inl ⟨by rfl, ?_⟩) H_13.bE ?_
              · intro wx hSw
                go_simp
              simp only [Act.put, List.setIfInBounds_toArray, List.set_cons_zero, List.set_cons_succ]
              refine wpAnyH_done (by kernel_rfl) ?_ _
              refine NoPanic.normal ?_
              go_wp2_with fail
              go_meet
              exact ⟨G10, b12, _, _, nl12, _, _, _, rfl, rfl, (fun hb => by obtain ⟨z1, z2, z3, z4, z5, z6, z7⟩ := nh12 hb; omega), by omega, hide H_13, hide NB6_13, hide NO_13⟩
          · go_simp
            have hlt14 := H_1.bE.lt
            have hb14 := below_one wq1 (.cells #[.slice none 0 0, .int .i64 0, .int .i64 0, .int .i64 0] 46)
            have H_14 := H_1.next hb14
            have NB6_14 := BoxIs.new wq1 #[.slice none 0 0, .int .i64 0, .int .i64 0, .int .i64 0] 46 rfl
            refine hK.out _ _ H_14.bE (fun hSz => ?_)
            clear hK K hSz H_1
            obtain ⟨G14, hG14⟩ : ∃ G, G = wq1.heap.size := ⟨_, rfl⟩
            rw [← hG14] at NB6_14 ⊢
            generalize wq1.alloc (.cells #[.slice none 0 0, .int .i64 0, .int .i64 0, .int .i64 0] 46) = wq14 at hb14 H_14 NB6_14 ⊢
            rw [← hG14] at hlt14
            clear hG14 hb14
            refine wpAnyH_ready (rs := [14]) (by kernel_rfl) (by simp) ?_
            refine AllReadyH.cons nat14 (fun K hK => ?_) AllReadyH.nil
            go_simp
            go_at_call 63
            refine (rd_below W _ g a len cap (40) (by omega) (by omega) hc hl H_14.rd).mono ?_
            rintro e wq15 ⟨x15, rfl, hx15, hy15, hr15, hb15⟩
            have H_15 := H_14.call hr15 hb15
            have NB6_15 := NB6_14.mv hb15 (by omega)
            refine hK.out _ _ H_15.bE (fun hSz => ?_)
            clear hK K hSz H_14 NB6_14 hb15
            refine wpAnyH_take (i := 15) (v := .int .i64 (1 + x15)) nat15 (by kernel_rfl) (by kernel_rfl) (by kernel_rfl) (fun _ _ _ h => False.elim h) (Or.inl ⟨by rfl, ?_⟩) H_15.bE ?_
            · intro wx hSw
              go_simp
              try (try rw [Int.tdiv_eq_ediv_of_nonneg (by omega)]); try (rw [IntKind.wrap_i64]; omega)
            simp only [Act.put, List.setIfInBounds_toArray, List.set_cons_zero, List.set_cons_succ]
            refine wpAnyH_take (i := 16) (v := .agg #[.int .i64 nx, .int .i64 (x1 / 4), .string ⟨#[97]⟩, .string ⟨#[98]⟩, .int .i64 (1 + x15)]) nat16 (by kernel_rfl) (by kernel_rfl) (by kernel_rfl) (fun _ _ _ h => False.elim h) (Or.inl ⟨by rfl, ?_⟩) H_15.bE ?_
            · intro wx hSw
              go_simp
            simp only [Act.put, List.setIfInBounds_toArray, List.set_cons_zero, List.set_cons_succ]
            refine wpAnyH_ready (rs := [17]) (by kernel_rfl) (by simp) ?_
            refine AllReadyH.cons nat17 (fun K hK => ?_) AllReadyH.nil
            go_simp
            have hlt16 := H_15.bE.lt
            have hb16 := below_one wq15 (.cells #[.int .i64 nx, .int .i64 (x1 / 4), .string ⟨#[97]⟩, .string ⟨#[98]⟩, .int .i64 (1 + x15)] 62)
            have H_16 := H_15.next hb16
            have NB6_16 := NB6_15.next hb16
            have NB36_16 := BoxIs.new wq15 #[.int .i64 nx, .int .i64 (x1 / 4), .string ⟨#[97]⟩, .string ⟨#[98]⟩, .int .i64 (1 + x15)] 62 rfl
            refine hK.out _ _ H_16.bE (fun hSz => ?_)
            clear hK K hSz H_15 NB6_15
            obtain ⟨G16, hG16⟩ : ∃ G, G = wq15.heap.size := ⟨_, rfl⟩
            rw [← hG16] at NB36_16 ⊢
            generalize wq15.alloc (.cells #[.int .i64 nx, .int .i64 (x1 / 4), .string ⟨#[97]⟩, .string ⟨#[98]⟩, .int .i64 (1 + x15)] 62) = wq16 at hb16 H_16 NB6_16 NB36_16 ⊢
            rw [← hG16] at hlt16
            clear hG16 hb16
            refine wpAnyH_take (i := 18) (v := .agg #[.slice (some ⟨G16, 0, none⟩) 1 1, .slice none 0 0, .int .i64 (nx + 1), .int .i64 sq, .int .i64 lg]) nat18 (by kernel_rfl) (by kernel_rfl) (by kernel_rfl) (fun _ _ _ h => False.elim h) (Or.inl ⟨by rfl, ?_⟩) H_16.bE ?_
            · intro wx hSw
              go_simp
            simp only [Act.put, List.setIfInBounds_toArray, List.set_cons_zero, List.set_cons_succ]
            refine wpAnyH_ready (rs := [19]) (by kernel_rfl) (by simp) ?_
            refine AllReadyH.cons nat19 (fun K hK => ?_) AllReadyH.nil
            go_simp
            go_at_call 71
            refine (apply_own _ l _ _ _ _ [⟨nx, x1 / 4, ⟨#[97]⟩, ⟨#[98]⟩, 1 + x15⟩] _ [] _ _ _ _ _ 0 _ (by omega) (by simp) (by simp) H_16.oa (ownMeta_one (m := ⟨nx, x1 / 4, ⟨#[97]⟩, ⟨#[98]⟩, 1 + x15⟩) NB36_16) (OwnI.nil _ 0)).mono ?_
            rintro e wq17 ⟨⟨b17, na17, nc17, nl17, nn17, ns17, ng17, rfl, no17, nh17⟩, hb17⟩
            have H_17 := H_16.next hb17
            have NB6_17 := NB6_16.next hb17
            have NO_17 := (show OwnMeta _ (g + 1) _ _ from no17.base (by have := H_16.rd.lt; omega))
            refine hK.out _ _ H_17.bE (fun hSz => ?_)
            clear hK K hSz H_16 NB36_16 NB6_16 hb17 no17
            refine wpAnyH_take (i := 20) (v := .tuple #[.agg #[.slice na17 nl17.length nc17, .int .i64 nn17, .int .i64 ns17, .int .i64 ng17], .bool b17]) nat20 (by kernel_rfl) (by kernel_rfl) (by kernel_rfl) (fun _ _ _ h => False.elim h) (Or.inl ⟨by rfl, ?_⟩) H_17.bE ?_
            · intro wx hSw
              go_simp
            simp only [Act.put, List.setIfInBounds_toArray, List.set_cons_zero, List.set_cons_succ]
            refine wpAnyH_take (i := 21) (v := .agg #[.slice na17 nl17.length nc17, .int .i64 nn17, .int .i64 ns17, .int .i64 ng17]) nat21 (by kernel_rfl) (by kernel_rfl) (by kernel_rfl) (fun _ _ _ h => False.elim h) (Or.inl ⟨by rfl, ?_⟩) H_17.bE ?_
            · intro wx hSw
              go_simp
            simp only [Act.put, List.setIfInBounds_toArray, List.set_cons_zero, List.set_cons_succ]
            refine wpAnyH_take (i := 22) (v := .bool b17) nat22 (by kernel_rfl) (by kernel_rfl) (by kernel_rfl) (fun _ _ _ h => False.elim h) (Or.inl ⟨by rfl, ?_⟩) H_17.bE ?_
            · intro wx hSw
              go_simp
            simp only [Act.put, List.setIfInBounds_toArray, List.set_cons_zero, List.set_cons_succ]
            refine wpAnyH_ready (rs := [24]) (by kernel_rfl) (by simp) ?_
            refine AllReadyH.cons nat24 (fun K hK => ?_) AllReadyH.nil
            have y0 := NB6_17.cell 0
            have y1 := NB6_17.cell 1
            have y2 := NB6_17.cell 2
            have y3 := NB6_17.cell 3
            simp only [List.getElem?_toArray, List.getElem?_cons_succ, List.getElem?_cons_zero] at y0 y1 y2 y3
            have yf := NB6_17.free
            go_simp
            clear yf y0 y1 y2 y3
            have H_18s0 := H_17.setN hlt14 NB6_17 0 (.slice na17 nl17.length nc17)
            have NB6_18s0 := NB6_17.set 0 (.slice na17 nl17.length nc17)
            have NO_18s0 := (show OwnMeta _ _ _ _ from rg_set (o := 0) NO_17 NB6_17 (by decide) (.slice na17 nl17.length nc17))
            have H_18s1 := H_18s0.setN hlt14 NB6_18s0 1 (.int .i64 nn17)
            have NB6_18s1 := NB6_18s0.set 1 (.int .i64 nn17)
            have NO_18s1 := (show OwnMeta _ _ _ _ from rg_set (o := 1) NO_18s0 NB6_18s0 (by decide) (.int .i64 nn17))
            have H_18s2 := H_18s1.setN hlt14 NB6_18s1 2 (.int .i64 ns17)
            have NB6_18s2 := NB6_18s1.set 2 (.int .i64 ns17)
            have NO_18s2 := (show OwnMeta _ _ _ _ from rg_set (o := 2) NO_18s1 NB6_18s1 (by decide) (.int .i64 ns17))
            have H_18s3 := H_18s2.setN hlt14 NB6_18s2 3 (.int .i64 ng17)
            have NB6_18s3 := NB6_18s2.set 3 (.int .i64 ng17)
            have NO_18s3 := (show OwnMeta _ _ _ _ from rg_set (o := 3) NO_18s2 NB6_18s2 (by decide) (.int .i64 ng17))
            have H_18 := H_18s3
            have NB6_18 : BoxIs ((((wq17.setCell ⟨G14, 0, none⟩ (.slice na17 nl17.length nc17)).setCell ⟨G14, 1, none⟩ (.int .i64 nn17)).setCell ⟨G14, 2, none⟩ (.int .i64 ns17)).setCell ⟨G14, 3, none⟩ (.int .i64 ng17)) G14 #[.slice na17 nl17.length nc17, .int .i64 nn17, .int .i64 ns17, .int .i64 ng17] 46 := NB6_18s3
            have NO_18 := NO_18s3
            refine hK.out _ _ H_18.bE (fun hSz => ?_)
            clear hK K hSz H_17 NB6_17 NO_17 H_18s0 H_18s1 H_18s2 H_18s3 NB6_18s0 NB6_18s1 NB6_18s2 NB6_18s3 NO_18s0 NO_18s1 NO_18s2 NO_18s3
            generalize (((wq17.setCell ⟨G14, 0, none⟩ (.slice na17 nl17.length nc17)).setCell ⟨G14, 1, none⟩ (.int .i64 nn17)).setCell ⟨G14, 2, none⟩ (.int .i64 ns17)).setCell ⟨G14, 3, none⟩ (.int .i64 ng17) = wq18 at H_18 NB6_18 NO_18 ⊢
            refine wpAnyH_take (i := 25) (v := .bool b17) nat25 (by kernel_rfl) (by kernel_rfl) (by kernel_rfl) (fun _ _ _ h => False.elim h) (Or.inl ⟨by rfl, ?_⟩) H_18.bE ?_
            · intro wx hSw
              go_simp
            simp only [Act.put, List.setIfInBounds_toArray, List.set_cons_zero, List.set_cons_succ]
            refine wpAnyH_done (by kernel_rfl) ?_ _
            refine NoPanic.normal ?_
            go_wp2_with fail
            go_meet
            exact ⟨G14, b17, _, _, nl17, _, _, _, rfl, rfl, (fun hb => by obtain ⟨z1, z2, z3, z4, z5, z6, z7⟩ := nh17 hb; omega), by omega, hide H_18, hide NB6_18, hide NO_18⟩
        · go_simp
          have hlt19 := H_0.bE.lt
          have hb19 := below_one wq0 (.cells #[.slice none 0 0, .int .i64 0, .int .i64 0, .int .i64 0] 46)
          have H_19 := H_0.next hb19
          have NB6_19 := BoxIs.new wq0 #[.slice none 0 0, .int .i64 0, .int .i64 0, .int .i64 0] 46 rfl
          refine hK.out _ _ H_19.bE (fun hSz => ?_)
          clear hK K hSz H_0
          obtain ⟨G19, hG19⟩ : ∃ G, G = wq0.heap.size := ⟨_, rfl⟩
          rw [← hG19] at NB6_19 ⊢
          generalize wq0.alloc (.cells #[.slice none 0 0, .int .i64 0, .int .i64 0, .int .i64 0] 46) = wq19 at hb19 H_19 NB6_19 ⊢
          rw [← hG19] at hlt19
          clear hG19 hb19
          refine wpAnyH_ready (rs := [11]) (by kernel_rfl) (by simp) ?_
          refine AllReadyH.cons nat11 (fun K hK => ?_) AllReadyH.nil
          go_simp
          go_at_call 63
          refine (rd_below W _ g a len cap (5) (by omega) (by omega) hc hl H_19.rd).mono ?_
          rintro e wq20 ⟨x20, rfl, hx20, hy20, hr20, hb20⟩
          have H_20 := H_19.call hr20 hb20
          have NB6_20 := NB6_19.mv hb20 (by omega)
          refine hK.out _ _ H_20.bE (fun hSz => ?_)
          clear hK K hSz H_19 NB6_19 hb20
          refine wpAnyH_take (i := 12) (v := .int .i64 (x20 / 4)) nat12 (by kernel_rfl) (by kernel_rfl) (by kernel_rfl) (fun _ _ _ h => False.elim h) (Or.inl ⟨by rfl, ?_⟩) H_20.bE ?_
          · intro wx hSw
            go_simp
            try (try rw [Int.tdiv_eq_ediv_of_nonneg (by omega)]); try (rw [IntKind.wrap_i64]; omega)
          simp only [Act.put, List.setIfInBounds_toArray, List.set_cons_zero, List.set_cons_succ]
          refine wpAnyH_ready (rs := [14]) (by kernel_rfl) (by simp) ?_
          refine AllReadyH.cons nat14 (fun K hK => ?_) AllReadyH.nil
          go_simp
          go_at_call 63
          refine (rd_below W _ g a len cap (40) (by omega) (by omega) hc hl H_20.rd).mono ?_
          rintro e wq21 ⟨x21, rfl, hx21, hy21, hr21, hb21⟩
          have H_21 := H_20.call hr21 hb21
          have NB6_21 := NB6_20.mv hb21 (by omega)
          refine hK.out _ _ H_21.bE (fun hSz => ?_)
          clear hK K hSz H_20 NB6_20 hb21
          refine wpAnyH_take (i := 15) (v := .int .i64 (1 + x21)) nat15 (by kernel_rfl) (by kernel_rfl) (by kernel_rfl) (fun _ _ _ h => False.elim h) (Or.inl ⟨by rfl, ?_⟩) H_21.bE ?_
          · intro wx hSw
            go_simp
            try (try rw [Int.tdiv_eq_ediv_of_nonneg (by omega)]); try (rw [IntKind.wrap_i64]; omega)
          simp only [Act.put, List.setIfInBounds_toArray, List.set_cons_zero, List.set_cons_succ]
          refine wpAnyH_take (i := 16) (v := .agg #[.int .i64 nx, .int .i64 (x20 / 4), .string ⟨#[97]⟩, .string ⟨#[98]⟩, .int .i64 (1 + x21)]) nat16 (by kernel_rfl) (by kernel_rfl) (by kernel_rfl) (fun _ _ _ h => False.elim h) (Or.inl ⟨by rfl, ?_⟩) H_21.bE ?_
          · intro wx hSw
            go_simp
          simp only [Act.put, List.setIfInBounds_toArray, List.set_cons_zero, List.set_cons_succ]
          refine wpAnyH_ready (rs := [17]) (by kernel_rfl) (by simp) ?_
          refine AllReadyH.cons nat17 (fun K hK => ?_) AllReadyH.nil
          go_simp
          have hlt22 := H_21.bE.lt
          have hb22 := below_one wq21 (.cells #[.int .i64 nx, .int .i64 (x20 / 4), .string ⟨#[97]⟩, .string ⟨#[98]⟩, .int .i64 (1 + x21)] 62)
          have H_22 := H_21.next hb22
          have NB6_22 := NB6_21.next hb22
          have NB36_22 := BoxIs.new wq21 #[.int .i64 nx, .int .i64 (x20 / 4), .string ⟨#[97]⟩, .string ⟨#[98]⟩, .int .i64 (1 + x21)] 62 rfl
          refine hK.out _ _ H_22.bE (fun hSz => ?_)
          clear hK K hSz H_21 NB6_21
          obtain ⟨G22, hG22⟩ : ∃ G, G = wq21.heap.size := ⟨_, rfl⟩
          rw [← hG22] at NB36_22 ⊢
          generalize wq21.alloc (.cells #[.int .i64 nx, .int .i64 (x20 / 4), .string ⟨#[97]⟩, .string ⟨#[98]⟩, .int .i64 (1 + x21)] 62) = wq22 at hb22 H_22 NB6_22 NB36_22 ⊢
          rw [← hG22] at hlt22
          clear hG22 hb22
          refine wpAnyH_take (i := 18) (v := .agg #[.slice (some ⟨G22, 0, none⟩) 1 1, .slice none 0 0, .int .i64 (nx + 1), .int .i64 sq, .int .i64 lg]) nat18 (by kernel_rfl) (by kernel_rfl) (by kernel_rfl) (fun _ _ _ h => False.elim h) (Or.inl ⟨by rfl, ?_⟩) H_22.bE ?_
          · intro wx hSw
            go_simp
          simp only [Act.put, List.setIfInBounds_toArray, List.set_cons_zero, List.set_cons_succ]
          refine wpAnyH_ready (rs := [19]) (by kernel_rfl) (by simp) ?_
          refine AllReadyH.cons nat19 (fun K hK => ?_) AllReadyH.nil
          go_simp
          go_at_call 71
          refine (apply_own _ l _ _ _ _ [⟨nx, x20 / 4, ⟨#[97]⟩, ⟨#[98]⟩, 1 + x21⟩] _ [] _ _ _ _ _ 0 _ (by omega) (by simp) (by simp) H_22.oa (ownMeta_one (m := ⟨nx, x20 / 4, ⟨#[97]⟩, ⟨#[98]⟩, 1 + x21⟩) NB36_22) (OwnI.nil _ 0)).mono ?_
          rintro e wq23 ⟨⟨b23, na23, nc23, nl23, nn23, ns23, ng23, rfl, no23, nh23⟩, hb23⟩
          have H_23 := H_22.next hb23
          have NB6_23 := NB6_22.next hb23
          have NO_23 := (show OwnMeta _ (g + 1) _ _ from no23.base (by have := H_22.rd.lt; omega))
          refine hK.out _ _ H_23.bE (fun hSz => ?_)
          clear hK K hSz H_22 NB36_22 NB6_22 hb23 no23
          refine wpAnyH_take (i := 20) (v := .tuple #[.agg #[.slice na23 nl23.length nc23, .int .i64 nn23, .int .i64 ns23, .int .i64 ng23], .bool b23]) nat20 (by kernel_rfl) (by kernel_rfl) (by kernel_rfl) (fun _ _ _ h => False.elim h) (Or.inl ⟨by rfl, ?_⟩) H_23.bE ?_
          · intro wx hSw
            go_simp
          simp only [Act.put, List.setIfInBounds_toArray, List.set_cons_zero, List.set_cons_succ]
          refine wpAnyH_take (i := 21) (v := .agg #[.slice na23 nl23.length nc23, .int .i64 nn23, .int .i64 ns23, .int .i64 ng23]) nat21 (by kernel_rfl) (by kernel_rfl) (by kernel_rfl) (fun _ _ _ h => False.elim h) (Or.inl ⟨by rfl, ?_⟩) H_23.bE ?_
          · intro wx hSw
            go_simp
          simp only [Act.put, List.setIfInBounds_toArray, List.set_cons_zero, List.set_cons_succ]
          refine wpAnyH_take (i := 22) (v := .bool b23) nat22 (by kernel_rfl) (by kernel_rfl) (by kernel_rfl) (fun _ _ _ h => False.elim h) (Or.inl ⟨by rfl, ?_⟩) H_23.bE ?_
          · intro wx hSw
            go_simp
          simp only [Act.put, List.setIfInBounds_toArray, List.set_cons_zero, List.set_cons_succ]
          refine wpAnyH_ready (rs := [24]) (by kernel_rfl) (by simp) ?_
          refine AllReadyH.cons nat24 (fun K hK => ?_) AllReadyH.nil
          have y0 := NB6_23.cell 0
          have y1 := NB6_23.cell 1
          have y2 := NB6_23.cell 2
          have y3 := NB6_23.cell 3
          simp only [List.getElem?_toArray, List.getElem?_cons_succ, List.getElem?_cons_zero] at y0 y1 y2 y3
          have yf := NB6_23.free
          go_simp
          clear yf y0 y1 y2 y3
          have H_24s0 := H_23.setN hlt19 NB6_23 0 (.slice na23 nl23.length nc23)
          have NB6_24s0 := NB6_23.set 0 (.slice na23 nl23.length nc23)
          have NO_24s0 := (show OwnMeta _ _ _ _ from rg_set (o := 0) NO_23 NB6_23 (by decide) (.slice na23 nl23.length nc23))
          have H_24s1 := H_24s0.setN hlt19 NB6_24s0 1 (.int .i64 nn23)
          have NB6_24s1 := NB6_24s0.set 1 (.int .i64 nn23)
          have NO_24s1 := (show OwnMeta _ _ _ _ from rg_set (o := 1) NO_24s0 NB6_24s0 (by decide) (.int .i64 nn23))
          have H_24s2 := H_24s1.setN hlt19 NB6_24s1 2 (.int .i64 ns23)
          have NB6_24s2 := NB6_24s1.set 2 (.int .i64 ns23)
          have NO_24s2 := (show OwnMeta _ _ _ _ from rg_set (o := 2) NO_24s1 NB6_24s1 (by decide) (.int .i64 ns23))
          have H_24s3 := H_24s2.setN hlt19 NB6_24s2 3 (.int .i64 ng23)
          have NB6_24s3 := NB6_24s2.set 3 (.int .i64 ng23)
          have NO_24s3 := (show OwnMeta _ _ _ _ from rg_set (o := 3) NO_24s2 NB6_24s2 (by decide) (.int .i64 ng23))
          have H_24 := H_24s3
          have NB6_24 : BoxIs ((((wq23.setCell ⟨G19, 0, none⟩ (.slice na23 nl23.length nc23)).setCell ⟨G19, 1, none⟩ (.int .i64 nn23)).setCell ⟨G19, 2, none⟩ (.int .i64 ns23)).setCell ⟨G19, 3, none⟩ (.int .i64 ng23)) G19 #[.slice na23 nl23.length nc23, .int .i64 nn23, .int .i64 ns23, .int .i64 ng23] 46 := NB6_24s3
          have NO_24 := NO_24s3
          refine hK.out _ _ H_24.bE (fun hSz => ?_)
          clear hK K hSz H_23 NB6_23 NO_23 H_24s0 H_24s1 H_24s2 H_24s3 NB6_24s0 NB6_24s1 NB6_24s2 NB6_24s3 NO_24s0 NO_24s1 NO_24s2 NO_24s3
          generalize (((wq23.setCell ⟨G19, 0, none⟩ (.slice na23 nl23.length nc23)).setCell ⟨G19, 1, none⟩ (.int .i64 nn23)).setCell ⟨G19, 2, none⟩ (.int .i64 ns23)).setCell ⟨G19, 3, none⟩ (.int .i64 ng23) = wq24 at H_24 NB6_24 NO_24 ⊢
          refine wpAnyH_take (i := 25) (v := .bool b23) nat25 (by kernel_rfl) (by kernel_rfl) (by kernel_rfl) (fun _ _ _ h => False.elim h) (Or.inl ⟨by rfl, ?_⟩) H_24.bE ?_
          · intro wx hSw
            go_simp
          simp only [Act.put, List.setIfInBounds_toArray, List.set_cons_zero, List.set_cons_succ]
          refine wpAnyH_done (by kernel_rfl) ?_ _
          refine NoPanic.normal ?_
          go_wp2_with fail
          go_meet
          exact ⟨G19, b23, _, _, nl23, _, _, _, rfl, rfl, (fun hb => by obtain ⟨z1, z2, z3, z4, z5, z6, z7⟩ := nh23 hb; omega), by omega, hide H_24, hide NB6_24, hide NO_24⟩
      case rest =>
      obtain ⟨N, b, a2, c2, l2, n2, s2, g2, rfl, rfl, hb, hNE, HS5, HN, HO⟩ := hcut
      clear HS
      have hw2 : IntKind.i64.wrap (((k + 1 : Nat) : Int) - 1) = (k : Int) := by rw [IntKind.wrap_i64]; omega
      cases b with
      | false =>
        clear hb HN HO
        go_wp2
        go_roundg k
        case measure => omega
        case rel => exact ⟨rfl, _, _, l, nx, sq, lg, by omega, by omega, by omega, by omega, HS5⟩
      | true =>
        obtain ⟨q1, q2, q5⟩ := hb rfl
        have y0 := HS5.out.bE.cell 0
        have y1 := HS5.out.bE.cell 1
        have y2 := HS5.out.bE.cell 2
        have y3 := HS5.out.bE.cell 3
        have yf := HS5.out.bE.free
        have z0 := HN.out.cell 0
        have z1 := HN.out.cell 1
        have z2 := HN.out.cell 2
        have z3 := HN.out.cell 3
        simp only [List.getElem?_toArray, List.getElem?_cons_succ, List.getElem?_cons_zero] at y0 y1 y2 y3 z0 z1 z2 z3
        have HP := hide (HS5.out.put (n1 := n2) (s1 := s2) (g1 := g2) HO.out)
        clear hb HS5 HN HO
        go_wp2
        go_roundg k
        case measure => omega
        case rel => exact ⟨rfl, _, _, l2, n2, s2, g2, by omega, by omega, by omega, by omega, HP⟩

end Go.Proofs.Ytplemoedpdammaa
