/- Apply of the program: the copy of a version, and the whole. (By gen_api.py.) -/
import Derived.Test.YtplbhgcibfajaaaApI
import Derived.Test.YtplbhgcibfajaaaApplyS
namespace Go.Proofs.Ytplbhgcibfajaaa
set_option maxRecDepth 100000
open Go.RowKit Go.Deep Go.Sort

/-- While a version is copied: the fresh one in block F, its row above it. -/
structure CvS (W : World) (F : Nat) (x1 x2 x3 : Int) (vo : Value) (l : List Meta1) (x : World) : Prop where
  lo : Below F W x
  bx : BoxIs x F #[vo, .int .i64 x1, .int .i64 x2, .int .i64 x3] 32
  ow : OwnMeta x (F + 1) vo l
section
variable {W : World} {F : Nat} {x1 x2 x3 : Int} {vo : Value} {l : List Meta1} {x y : World}
theorem CvS.next (h : CvS W F x1 x2 x3 vo l x) (hF : F ≤ W.heap.size) (b : Below x.heap.size x y) : CvS W F x1 x2 x3 vo l y :=
  ⟨h.lo.trans (b.mono (Nat.le_trans hF h.lo.size)), h.bx.next b, h.ow.next b⟩
theorem CvS.low (h : CvS W F x1 x2 x3 vo l x) : ∀ q, vo.ownBlock = some q → q < x.heap.size := fun q hq => by
  obtain ⟨cur, hc⟩ := rg_type h.ow hq
  exact (Array.getElem?_eq_some_iff.1 hc).1
theorem CvS.setM (h : CvS W F x1 x2 x3 vo l x) {M : Nat} (hM : F < M) (hq : ∀ q, vo.ownBlock = some q → q < M) (j : Nat) (v : Value) : CvS W F x1 x2 x3 vo l (x.setCell ⟨M, j, none⟩ v) :=
  ⟨h.lo.setCell (p := ⟨M, j, none⟩) (by show F ≤ M; omega) _, h.bx.set_other (by show M ≠ F; omega) _, rg_block h.ow (fun q _ _ hv => Below.heap_setCell _ _ _ _ (by have := hq q hv; show q ≠ M; omega))⟩
theorem CvS.added (h : CvS W F x1 x2 x3 vo l x) (hF : F < W.heap.size) {v' : Value} {m : Meta1} (ho : OwnMeta y (F + 1) v' (l ++ [m])) (hg : x.grownBy y vo.ownBlock) : CvS W F x1 x2 x3 v' (l ++ [m]) (y.setCell ⟨F, 0, none⟩ v') := by
  have hB : F + 1 ≤ x.heap.size := Nat.le_trans hF h.lo.size
  have b := rg_low h.ow hB hg
  have bx1 := rg_box h.ow hg h.bx (by decide)
  exact ⟨(h.lo.trans (b.mono (Nat.le_succ F))).setCell (p := ⟨F, 0, none⟩) (Nat.le_refl _) _, bx1.set 0 _, rg_set ho bx1 (by decide) _⟩
end

set_option linter.unusedVariables false in
set_option linter.unusedSimpArgs false in
set_option maxHeartbeats 4000000 in
theorem impl_copyVersion (v : Value) (c : VersionC) (w : World) (hn : c.n0 ≤ 1000) (hz : ∀ i, i < c.n0 → (c.r0.F i).size ≤ 1000 ∧ (c.r0.Z i).size ≤ 1000) (hv : VersionIs w v c) :
    Calls Try.prog 37 #[v] w fun e w' => (∃ u, e = .returned u ∧ VersionOwnM w' w.heap.size u (vc (metasL c.r0 c.n0) c.x1 c.x2 c.x3)) ∧ Below w.heap.size w w' := by
  obtain ⟨a0, p0, rfl, hS⟩ := hv
  have hB0 : Below w.heap.size w (((w.alloc (.cells #[.slice a0 c.n0 p0, .int .i64 c.x1, .int .i64 c.x2, .int .i64 c.x3] 32)).alloc (.cells #[.slice none 0 0, .int .i64 0, .int .i64 0, .int .i64 0] 32)).alloc (.cells #[.slice none 0 0, .int .i64 c.x1, .int .i64 c.x2, .int .i64 c.x3] 32)) := (((Below.refl _ _).alloc (Nat.le_refl _) _).alloc (by simp) _).alloc (by simp <;> omega) _
  have hV := (((BoxIs.new w #[.slice a0 c.n0 p0, .int .i64 c.x1, .int .i64 c.x2, .int .i64 c.x3] 32 rfl).next (below_one _ (.cells #[.slice none 0 0, .int .i64 0, .int .i64 0, .int .i64 0] 32))).next (below_one _ (.cells #[.slice none 0 0, .int .i64 c.x1, .int .i64 c.x2, .int .i64 c.x3] 32)))
  have hR := ((BoxIs.new (w.alloc (.cells #[.slice a0 c.n0 p0, .int .i64 c.x1, .int .i64 c.x2, .int .i64 c.x3] 32)) #[.slice none 0 0, .int .i64 0, .int .i64 0, .int .i64 0] 32 (g := w.heap.size + 1) (by simp)).next (below_one _ (.cells #[.slice none 0 0, .int .i64 c.x1, .int .i64 c.x2, .int .i64 c.x3] 32)))
  have hX := BoxIs.new ((w.alloc (.cells #[.slice a0 c.n0 p0, .int .i64 c.x1, .int .i64 c.x2, .int .i64 c.x3] 32)).alloc (.cells #[.slice none 0 0, .int .i64 0, .int .i64 0, .int .i64 0] 32)) #[.slice none 0 0, .int .i64 c.x1, .int .i64 c.x2, .int .i64 c.x3] 32 (g := w.heap.size + 1 + 1) (by simp)
  have HS0 := (hS.on hB0 (Nat.le_refl _)).hid
  clear hS
  go_enter Try.func37, Try.ntmps37
  go_wp2_with fail
  generalize ((w.alloc (.cells #[.slice a0 c.n0 p0, .int .i64 c.x1, .int .i64 c.x2, .int .i64 c.x3] 32)).alloc (.cells #[.slice none 0 0, .int .i64 0, .int .i64 0, .int .i64 0] 32)).alloc (.cells #[.slice none 0 0, .int .i64 c.x1, .int .i64 c.x2, .int .i64 c.x3] 32) = W at hB0 hV hR hX HS0 ⊢
  have hF : w.heap.size + 1 + 1 < W.heap.size := hX.lt
  have HB0 := hide hB0
  have HC0 : Hid (CvS W (w.heap.size + 1 + 1) c.x1 c.x2 c.x3 (.slice none 0 0) (metasL c.r0 0) W) := ⟨Below.refl _ _, hX, OwnMeta.nil _ _⟩
  have y0 := hV.cell 0
  simp only [List.getElem?_toArray, List.getElem?_cons_zero] at y0
  have HR := hR.hid
  clear hB0 hX hV hR
  go_wp2
  go_loopg [16] c.n0 (fun g iv wr => ∃ (k : Nat) (vo : Value), iv = .int .i64 (k : Int) ∧ k + g = c.n0 ∧ Hid (CvS W (w.heap.size + 1 + 1) c.x1 c.x2 c.x3 vo (metasL c.r0 k) wr))
  case atStart => exact ⟨0, _, rfl, by omega, HC0⟩
  case round =>
    obtain ⟨k, vo, rfl, hk, HC⟩ := hrel
    clear HC0 y0
    by_cases hlt : k < c.n0
    · obtain ⟨b, off, rfl, hb, c0, c1, c2, c3, c4⟩ := (HS0.out.on HC.out.lo (by omega)).at hlt
      obtain ⟨hz2, hz3⟩ := hz k hlt
      have hki : (k : Int) < (c.n0 : Int) := by omega
      have hM := BoxIs.new wr #[.int .i64 (c.r0.N k), .int .i64 (c.r0.L k), .string (c.r0.F k), .string (c.r0.Z k), .int .i64 (c.r0.C k)] 59 rfl
      have hC1 := HC.out.next (by omega) (below_one wr (.cells #[.int .i64 (c.r0.N k), .int .i64 (c.r0.L k), .string (c.r0.F k), .string (c.r0.Z k), .int .i64 (c.r0.C k)] 59))
      have hlow := HC.out.low
      have hFM := HC.out.bx.lt
      clear HC
      go_upto_region 5 with fail
      generalize wr.alloc (.cells #[.int .i64 (c.r0.N k), .int .i64 (c.r0.L k), .string (c.r0.F k), .string (c.r0.Z k), .int .i64 (c.r0.C k)] 59) = W1 at hM hC1 ⊢
      generalize wr.heap.size = M at hM hlow hFM ⊢
      have HLOW := hide hlow
      clear hlow c0 c1 c2 c3 c4
      go_cut [] (fun wx => Hid (CvS W (w.heap.size + 1 + 1) c.x1 c.x2 c.x3 vo (metasL c.r0 k) wx) ∧ Hid (BoxIs wx M #[.int .i64 (c.r0.N k), .int .i64 (c.r0.L k), .string (c.r0.F k), .string (c.r0.Z k), .int .i64 (c.r0.C k)] 59))
      case first =>
        refine wp_region_noPanic ?_
        have hb0 : Below W1.heap.size W1 W1.drew := (Below.refl _ _).drew
        have HC_0 := hC1.next (by omega) hb0
        have HM_0 := hM.next hb0
        refine wp_region_held_drew (S := fun _ => True) (by kernel_rfl) trivial (fun hSz => ?_)
        clear hSz hC1 hM
        generalize W1.drew = wq0 at hb0 HC_0 HM_0 ⊢
        clear hb0
        refine wpAnyH_take (i := 0) (v := .pointer (some ⟨M, 2, none⟩)) nat0 (by kernel_rfl) (by kernel_rfl) (by kernel_rfl) (fun _ _ _ h => False.elim h) (Or.inl ⟨by rfl, ?_⟩) trivial ?_
        · intro wx hSw
          go_simp
        simp only [Act.put, List.setIfInBounds_toArray, List.set_cons_zero, List.set_cons_succ]
        refine wpAnyH_take (i := 3) (v := .pointer (some ⟨M, 3, none⟩)) nat3 (by kernel_rfl) (by kernel_rfl) (by kernel_rfl) (fun _ _ _ h => False.elim h) (Or.inl ⟨by rfl, ?_⟩) trivial ?_
        · intro wx hSw
          go_simp
        simp only [Act.put, List.setIfInBounds_toArray, List.set_cons_zero, List.set_cons_succ]
        refine wpAnyH_ready (rs := [1, 4]) (by kernel_rfl) (by simp) ?_
        refine AllReadyH.cons nat1 (fun K hK => ?_) (AllReadyH.cons nat4 (fun K hK => ?_) AllReadyH.nil)
        · have y0 := HM_0.cell 2
          simp only [List.getElem?_toArray, List.getElem?_cons_succ, List.getElem?_cons_zero] at y0
          go_simp
          refine hK.out _ _ trivial (fun hSz => ?_)
          clear hK K hSz y0
          try simp only [Act.put, List.setIfInBounds_toArray, List.set_cons_zero, List.set_cons_succ]
          refine wpAnyH_ready (rs := [2, 4]) (by kernel_rfl) (by simp) ?_
          refine AllReadyH.cons nat2 (fun K hK => ?_) (AllReadyH.cons nat4 (fun K hK => ?_) AllReadyH.nil)
          · go_simp
            go_at_call 60
            refine (strings_Clone (c.r0.F k) _ (by omega)).mono ?_
            rintro e wq2 ⟨rfl, hb2⟩
            have HC_2 := HC_0.next (by omega) hb2
            have HM_2 := HM_0.next hb2
            refine hK.out _ _ trivial (fun hSz => ?_)
            clear hK K hSz HC_0 HM_0 hb2
            refine wpAnyH_ready (rs := [4]) (by kernel_rfl) (by simp) ?_
            refine AllReadyH.cons nat4 (fun K hK => ?_) AllReadyH.nil
            have y0 := HM_2.cell 3
            simp only [List.getElem?_toArray, List.getElem?_cons_succ, List.getElem?_cons_zero] at y0
            go_simp
            refine hK.out _ _ trivial (fun hSz => ?_)
            clear hK K hSz y0
            try simp only [Act.put, List.setIfInBounds_toArray, List.set_cons_zero, List.set_cons_succ]
            refine wpAnyH_take (i := 6) (v := .pointer (some ⟨M, 2, none⟩)) nat6 (by kernel_rfl) (by kernel_rfl) (by kernel_rfl) (fun _ _ _ h => False.elim h) (Or.inl ⟨by rfl, ?_⟩) trivial ?_
            · intro wx hSw
              go_simp
            simp only [Act.put, List.setIfInBounds_toArray, List.set_cons_zero, List.set_cons_succ]
            refine wpAnyH_ready (rs := [5]) (by kernel_rfl) (by simp) ?_
            refine AllReadyH.cons nat5 (fun K hK => ?_) AllReadyH.nil
            go_simp
            go_at_call 60
            refine (strings_Clone (c.r0.Z k) _ (by omega)).mono ?_
            rintro e wq4 ⟨rfl, hb4⟩
            have HC_4 := HC_2.next (by omega) hb4
            have HM_4 := HM_2.next hb4
            refine hK.out _ _ trivial (fun hSz => ?_)
            clear hK K hSz HC_2 HM_2 hb4
            refine wpAnyH_ready (rs := [7]) (by kernel_rfl) (by simp) ?_
            refine AllReadyH.cons nat7 (fun K hK => ?_) AllReadyH.nil
            have y0 := HM_4.cell 2
            simp only [List.getElem?_toArray, List.getElem?_cons_succ, List.getElem?_cons_zero] at y0
            have yf := HM_4.free
            go_simp
            clear yf y0
            have HC_5s0 := HC_4.setM hFM HLOW.out 2 (.string ((c.r0.F k)))
            have HM_5s0 := HM_4.set 2 (.string ((c.r0.F k)))
            have HC_5 := HC_5s0
            have HM_5 : BoxIs (wq4.setCell ⟨M, 2, none⟩ (.string ((c.r0.F k)))) M #[.int .i64 ((c.r0.N k)), .int .i64 ((c.r0.L k)), .string ((c.r0.F k)), .string ((c.r0.Z k)), .int .i64 ((c.r0.C k))] 59 := HM_5s0
            refine hK.out _ _ trivial (fun hSz => ?_)
            clear hK K hSz HC_4 HM_4 HC_5s0 HM_5s0
            generalize wq4.setCell ⟨M, 2, none⟩ (.string ((c.r0.F k))) = wq5 at HC_5 HM_5 ⊢
            refine wpAnyH_take (i := 8) (v := .pointer (some ⟨M, 3, none⟩)) nat8 (by kernel_rfl) (by kernel_rfl) (by kernel_rfl) (fun _ _ _ h => False.elim h) (Or.inl ⟨by rfl, ?_⟩) trivial ?_
            · intro wx hSw
              go_simp
            simp only [Act.put, List.setIfInBounds_toArray, List.set_cons_zero, List.set_cons_succ]
            refine wpAnyH_ready (rs := [9]) (by kernel_rfl) (by simp) ?_
            refine AllReadyH.cons nat9 (fun K hK => ?_) AllReadyH.nil
            have y0 := HM_5.cell 3
            simp only [List.getElem?_toArray, List.getElem?_cons_succ, List.getElem?_cons_zero] at y0
            have yf := HM_5.free
            go_simp
            clear yf y0
            have HC_6s0 := HC_5.setM hFM HLOW.out 3 (.string ((c.r0.Z k)))
            have HM_6s0 := HM_5.set 3 (.string ((c.r0.Z k)))
            have HC_6 := HC_6s0
            have HM_6 : BoxIs (wq5.setCell ⟨M, 3, none⟩ (.string ((c.r0.Z k)))) M #[.int .i64 ((c.r0.N k)), .int .i64 ((c.r0.L k)), .string ((c.r0.F k)), .string ((c.r0.Z k)), .int .i64 ((c.r0.C k))] 59 := HM_6s0
            refine hK.out _ _ trivial (fun hSz => ?_)
            clear hK K hSz HC_5 HM_5 HC_6s0 HM_6s0
            generalize wq5.setCell ⟨M, 3, none⟩ (.string ((c.r0.Z k))) = wq6 at HC_6 HM_6 ⊢
            refine wpAnyH_done (by kernel_rfl) ?_ _
            refine NoPanic.normal ?_
            go_wp2_with fail
            go_meet
            exact ⟨hide HC_6, hide HM_6⟩
          · have y0 := HM_0.cell 3
            simp only [List.getElem?_toArray, List.getElem?_cons_succ, List.getElem?_cons_zero] at y0
            go_simp
            refine hK.out _ _ trivial (fun hSz => ?_)
            clear hK K hSz y0
            try simp only [Act.put, List.setIfInBounds_toArray, List.set_cons_zero, List.set_cons_succ]
            refine wpAnyH_ready (rs := [2]) (by kernel_rfl) (by simp) ?_
            refine AllReadyH.cons nat2 (fun K hK => ?_) AllReadyH.nil
            go_simp
            go_at_call 60
            refine (strings_Clone (c.r0.F k) _ (by omega)).mono ?_
            rintro e wq8 ⟨rfl, hb8⟩
            have HC_8 := HC_0.next (by omega) hb8
            have HM_8 := HM_0.next hb8
            refine hK.out _ _ trivial (fun hSz => ?_)
            clear hK K hSz HC_0 HM_0 hb8
            refine wpAnyH_take (i := 6) (v := .pointer (some ⟨M, 2, none⟩)) nat6 (by kernel_rfl) (by kernel_rfl) (by kernel_rfl) (fun _ _ _ h => False.elim h) (Or.inl ⟨by rfl, ?_⟩) trivial ?_
            · intro wx hSw
              go_simp
            simp only [Act.put, List.setIfInBounds_toArray, List.set_cons_zero, List.set_cons_succ]
            refine wpAnyH_ready (rs := [5]) (by kernel_rfl) (by simp) ?_
            refine AllReadyH.cons nat5 (fun K hK => ?_) AllReadyH.nil
            go_simp
            go_at_call 60
            refine (strings_Clone (c.r0.Z k) _ (by omega)).mono ?_
            rintro e wq9 ⟨rfl, hb9⟩
            have HC_9 := HC_8.next (by omega) hb9
            have HM_9 := HM_8.next hb9
            refine hK.out _ _ trivial (fun hSz => ?_)
            clear hK K hSz HC_8 HM_8 hb9
            refine wpAnyH_ready (rs := [7]) (by kernel_rfl) (by simp) ?_
            refine AllReadyH.cons nat7 (fun K hK => ?_) AllReadyH.nil
            have y0 := HM_9.cell 2
            simp only [List.getElem?_toArray, List.getElem?_cons_succ, List.getElem?_cons_zero] at y0
            have yf := HM_9.free
            go_simp
            clear yf y0
            have HC_10s0 := HC_9.setM hFM HLOW.out 2 (.string ((c.r0.F k)))
            have HM_10s0 := HM_9.set 2 (.string ((c.r0.F k)))
            have HC_10 := HC_10s0
            have HM_10 : BoxIs (wq9.setCell ⟨M, 2, none⟩ (.string ((c.r0.F k)))) M #[.int .i64 ((c.r0.N k)), .int .i64 ((c.r0.L k)), .string ((c.r0.F k)), .string ((c.r0.Z k)), .int .i64 ((c.r0.C k))] 59 := HM_10s0
            refine hK.out _ _ trivial (fun hSz => ?_)
            clear hK K hSz HC_9 HM_9 HC_10s0 HM_10s0
            generalize wq9.setCell ⟨M, 2, none⟩ (.string ((c.r0.F k))) = wq10 at HC_10 HM_10 ⊢
            refine wpAnyH_take (i := 8) (v := .pointer (some ⟨M, 3, none⟩)) nat8 (by kernel_rfl) (by kernel_rfl) (by kernel_rfl) (fun _ _ _ h => False.elim h) (Or.inl ⟨by rfl, ?_⟩) trivial ?_
            · intro wx hSw
              go_simp
            simp only [Act.put, List.setIfInBounds_toArray, List.set_cons_zero, List.set_cons_succ]
            refine wpAnyH_ready (rs := [9]) (by kernel_rfl) (by simp) ?_
            refine AllReadyH.cons nat9 (fun K hK => ?_) AllReadyH.nil
            have y0 := HM_10.cell 3
            simp only [List.getElem?_toArray, List.getElem?_cons_succ, List.getElem?_cons_zero] at y0
            have yf := HM_10.free
            go_simp
            clear yf y0
            have HC_11s0 := HC_10.setM hFM HLOW.out 3 (.string ((c.r0.Z k)))
            have HM_11s0 := HM_10.set 3 (.string ((c.r0.Z k)))
            have HC_11 := HC_11s0
            have HM_11 : BoxIs (wq10.setCell ⟨M, 3, none⟩ (.string ((c.r0.Z k)))) M #[.int .i64 ((c.r0.N k)), .int .i64 ((c.r0.L k)), .string ((c.r0.F k)), .string ((c.r0.Z k)), .int .i64 ((c.r0.C k))] 59 := HM_11s0
            refine hK.out _ _ trivial (fun hSz => ?_)
            clear hK K hSz HC_10 HM_10 HC_11s0 HM_11s0
            generalize wq10.setCell ⟨M, 3, none⟩ (.string ((c.r0.Z k))) = wq11 at HC_11 HM_11 ⊢
            refine wpAnyH_done (by kernel_rfl) ?_ _
            refine NoPanic.normal ?_
            go_wp2_with fail
            go_meet
            exact ⟨hide HC_11, hide HM_11⟩
        · have y0 := HM_0.cell 3
          simp only [List.getElem?_toArray, List.getElem?_cons_succ, List.getElem?_cons_zero] at y0
          go_simp
          refine hK.out _ _ trivial (fun hSz => ?_)
          clear hK K hSz y0
          try simp only [Act.put, List.setIfInBounds_toArray, List.set_cons_zero, List.set_cons_succ]
          refine wpAnyH_ready (rs := [1]) (by kernel_rfl) (by simp) ?_
          refine AllReadyH.cons nat1 (fun K hK => ?_) AllReadyH.nil
          have y0 := HM_0.cell 2
          simp only [List.getElem?_toArray, List.getElem?_cons_succ, List.getElem?_cons_zero] at y0
          go_simp
          refine hK.out _ _ trivial (fun hSz => ?_)
          clear hK K hSz y0
          try simp only [Act.put, List.setIfInBounds_toArray, List.set_cons_zero, List.set_cons_succ]
          refine wpAnyH_ready (rs := [2]) (by kernel_rfl) (by simp) ?_
          refine AllReadyH.cons nat2 (fun K hK => ?_) AllReadyH.nil
          go_simp
          go_at_call 60
          refine (strings_Clone (c.r0.F k) _ (by omega)).mono ?_
          rintro e wq14 ⟨rfl, hb14⟩
          have HC_14 := HC_0.next (by omega) hb14
          have HM_14 := HM_0.next hb14
          refine hK.out _ _ trivial (fun hSz => ?_)
          clear hK K hSz HC_0 HM_0 hb14
          refine wpAnyH_take (i := 6) (v := .pointer (some ⟨M, 2, none⟩)) nat6 (by kernel_rfl) (by kernel_rfl) (by kernel_rfl) (fun _ _ _ h => False.elim h) (Or.inl ⟨by rfl, ?_⟩) trivial ?_
          · intro wx hSw
            go_simp
          simp only [Act.put, List.setIfInBounds_toArray, List.set_cons_zero, List.set_cons_succ]
          refine wpAnyH_ready (rs := [5]) (by kernel_rfl) (by simp) ?_
          refine AllReadyH.cons nat5 (fun K hK => ?_) AllReadyH.nil
          go_simp
          go_at_call 60
          refine (strings_Clone (c.r0.Z k) _ (by omega)).mono ?_
          rintro e wq15 ⟨rfl, hb15⟩
          have HC_15 := HC_14.next (by omega) hb15
          have HM_15 := HM_14.next hb15
          refine hK.out _ _ trivial (fun hSz => ?_)
          clear hK K hSz HC_14 HM_14 hb15
          refine wpAnyH_ready (rs := [7]) (by kernel_rfl) (by simp) ?_
          refine AllReadyH.cons nat7 (fun K hK => ?_) AllReadyH.nil
          have y0 := HM_15.cell 2
          simp only [List.getElem?_toArray, List.getElem?_cons_succ, List.getElem?_cons_zero] at y0
          have yf := HM_15.free
          go_simp
          clear yf y0
          have HC_16s0 := HC_15.setM hFM HLOW.out 2 (.string ((c.r0.F k)))
          have HM_16s0 := HM_15.set 2 (.string ((c.r0.F k)))
          have HC_16 := HC_16s0
          have HM_16 : BoxIs (wq15.setCell ⟨M, 2, none⟩ (.string ((c.r0.F k)))) M #[.int .i64 ((c.r0.N k)), .int .i64 ((c.r0.L k)), .string ((c.r0.F k)), .string ((c.r0.Z k)), .int .i64 ((c.r0.C k))] 59 := HM_16s0
          refine hK.out _ _ trivial (fun hSz => ?_)
          clear hK K hSz HC_15 HM_15 HC_16s0 HM_16s0
          generalize wq15.setCell ⟨M, 2, none⟩ (.string ((c.r0.F k))) = wq16 at HC_16 HM_16 ⊢
          refine wpAnyH_take (i := 8) (v := .pointer (some ⟨M, 3, none⟩)) nat8 (by kernel_rfl) (by kernel_rfl) (by kernel_rfl) (fun _ _ _ h => False.elim h) (Or.inl ⟨by rfl, ?_⟩) trivial ?_
          · intro wx hSw
            go_simp
          simp only [Act.put, List.setIfInBounds_toArray, List.set_cons_zero, List.set_cons_succ]
          refine wpAnyH_ready (rs := [9]) (by kernel_rfl) (by simp) ?_
          refine AllReadyH.cons nat9 (fun K hK => ?_) AllReadyH.nil
          have y0 := HM_16.cell 3
          simp only [List.getElem?_toArray, List.getElem?_cons_succ, List.getElem?_cons_zero] at y0
          have yf := HM_16.free
          go_simp
          clear yf y0
          have HC_17s0 := HC_16.setM hFM HLOW.out 3 (.string ((c.r0.Z k)))
          have HM_17s0 := HM_16.set 3 (.string ((c.r0.Z k)))
          have HC_17 := HC_17s0
          have HM_17 : BoxIs (wq16.setCell ⟨M, 3, none⟩ (.string ((c.r0.Z k)))) M #[.int .i64 ((c.r0.N k)), .int .i64 ((c.r0.L k)), .string ((c.r0.F k)), .string ((c.r0.Z k)), .int .i64 ((c.r0.C k))] 59 := HM_17s0
          refine hK.out _ _ trivial (fun hSz => ?_)
          clear hK K hSz HC_16 HM_16 HC_17s0 HM_17s0
          generalize wq16.setCell ⟨M, 3, none⟩ (.string ((c.r0.Z k))) = wq17 at HC_17 HM_17 ⊢
          refine wpAnyH_done (by kernel_rfl) ?_ _
          refine NoPanic.normal ?_
          go_wp2_with fail
          go_meet
          exact ⟨hide HC_17, hide HM_17⟩
      case rest =>
      obtain ⟨HC2, HM2⟩ := hcut
      clear hC1 hM HLOW
      obtain ⟨voA, voN, voP, rfl⟩ : ∃ a n p, vo = .slice a n p := by obtain ⟨a, p, e⟩ := rg_shape (show World.ownsRow _ _ _ _ _ _ _ from HC2.out.ow); exact ⟨_, _, _, e⟩
      have y0 := HC2.out.bx.cell 0
      have z0 := HM2.out.cell 0
      have z1 := HM2.out.cell 1
      have z2 := HM2.out.cell 2
      have z3 := HM2.out.cell 3
      have z4 := HM2.out.cell 4
      simp only [List.getElem?_toArray, List.getElem?_cons_succ, List.getElem?_cons_zero] at y0 z0 z1 z2 z3 z4
      have HC3 := hide (HC2.out.next (by omega) (below_one wc (.cells #[.int .i64 (c.r0.N k), .int .i64 (c.r0.L k), .string (c.r0.F k), .string (c.r0.Z k), .int .i64 (c.r0.C k)] 59)))
      have hN := (BoxIs.new wc #[.int .i64 (c.r0.N k), .int .i64 (c.r0.L k), .string (c.r0.F k), .string (c.r0.Z k), .int .i64 (c.r0.C k)] 59 rfl).hid
      have hml := metasL_len c.r0 k
      clear HC2 HM2
      go_wp2_with (first
        | (at_builtin; refine wpList_append_row rfl _ _ 30 rfl 59 Try.underlying30 5 56 meta_info rfl (by decide) (by decide) (w.heap.size + 1 + 1 + 1) _ (metasL c.r0 k).length (cellsMeta (metasL c.r0 k)) (by rfl) HC3.out.ow ⟨wc.heap.size, 0, none⟩ 1 1 (cellsMeta [metaAt1 c.r0 k]) (by rfl) rfl (cellsMeta_one _) (rg_news (us := cellsMeta [metaAt1 c.r0 k]) hN.out) (Nat.le_trans hF HC3.out.lo.size) (by omega) ?_))
      intro v3 w12 h1 h2
      have ho : OwnMeta w12 (w.heap.size + 1 + 1 + 1) v3 (metasL c.r0 k ++ [metaAt1 c.r0 k]) := by show World.ownsRow _ _ _ _ _ _ _; rw [cellsMeta_append, List.length_append, hml]; exact h1
      have hA := HC3.out.added hF ho h2
      rw [← metasL_succ] at hA
      have HA := hide hA
      have bE1 := rg_box HC3.out.ow h2 HC3.out.bx (by decide)
      obtain ⟨vA, vN, vP, rfl⟩ : ∃ a n p, v3 = .slice a n p := by obtain ⟨a, p, e⟩ := rg_shape h1; exact ⟨_, _, _, e⟩
      have q0 := bE1.cell 0
      simp only [List.getElem?_toArray, List.getElem?_cons_zero] at q0
      have qf := bE1.free
      clear h1 h2 ho HC3 hN y0 z0 z1 z2 z3 z4 bE1 hA
      go_wp2
      go_roundg (gk - 1)
      case measure => omega
      case rel => exact ⟨k + 1, _, by go_num, by omega, HA⟩
    · obtain rfl : k = c.n0 := by omega
      have hki : ¬ ((c.n0 : Int) < (c.n0 : Int)) := by omega
      obtain ⟨voA, voP, rfl⟩ := HC.out.ow.shape
      rw [metasL_len] at HC
      have y0 := HC.out.bx.cell 0
      have y1 := HC.out.bx.cell 1
      have y2 := HC.out.bx.cell 2
      have y3 := HC.out.bx.cell 3
      have bR := HR.out.below HC.out.lo (by omega)
      have z0 := bR.cell 0
      have z1 := bR.cell 1
      have z2 := bR.cell 2
      have z3 := bR.cell 3
      have zf := bR.free
      simp only [List.getElem?_toArray, List.getElem?_cons_succ, List.getElem?_cons_zero] at y0 y1 y2 y3 z0 z1 z2 z3
      have hne : w.heap.size + 1 + 1 ≠ w.heap.size + 1 := by omega
      have b1 := bR.set 0 (.slice voA c.n0 voP)
      have b2 := b1.set 1 (.int .i64 c.x1)
      have b3 := b2.set 2 (.int .i64 c.x2)
      have HO := hide (show OwnMeta _ _ _ _ from rg_set (o := 3) (rg_set (rg_set (rg_set HC.out.ow bR (by decide) (.slice voA c.n0 voP)) b1 (by decide) (.int .i64 c.x1)) b2 (by decide) (.int .i64 c.x2)) b3 (by decide) (.int .i64 c.x3))
      have HL := hide ((HB0.out.trans (HC.out.lo.mono (by omega))).trans (((((Below.refl w.heap.size wr).setCell (p := ⟨w.heap.size + 1, 0, none⟩) (Nat.le_succ _) (.slice voA c.n0 voP)).setCell (p := ⟨w.heap.size + 1, 1, none⟩) (Nat.le_succ _) (.int .i64 c.x1)).setCell (p := ⟨w.heap.size + 1, 2, none⟩) (Nat.le_succ _) (.int .i64 c.x2)).setCell (p := ⟨w.heap.size + 1, 3, none⟩) (Nat.le_succ _) (.int .i64 c.x3)))
      clear HC bR b1 b2 b3
      go_wp2
      exact bodyPost_ret (v := .agg #[.slice voA c.n0 voP, .int .i64 c.x1, .int .i64 c.x2, .int .i64 c.x3]) (by simp [results, Try.results37, go_sem, z0, z1, z2, z3]) rfl ⟨⟨_, rfl, _, metasL c.r0 c.n0, rfl, HO.out.base (by omega), rfl⟩, HL.out⟩

/-- What comes of files put in the right order: the model's answer. -/
theorem apply_end {c : VersionC} {d : EditC} (hG : apG c d = true) (hC : cutsB c d = true) {M : List Meta1} (hp : M.Perm (leftL c.r0 d.r1 d.n1 c.n0 ++ metasL d.r0 d.n0)) (hs : M.Pairwise (fun a b => ¬ fOrdM b a < 0)) :
    apB c d = versB (vc M d.x2 d.x3 d.x4) ∧ (versB (vc M d.x2 d.x3 d.x4) = true → apC c d = vc M d.x2 d.x3 d.x4) := by
  have hG' := hG
  unfold apG at hG
  simp only [Bool.and_eq_true] at hG
  have hc : versB c = true := hG.1.1.1.1
  rw [cuts_same hc] at hC
  have hcut := of_decide_eq_true hC
  cases hM : versB (vc M d.x2 d.x3 d.x4) with
  | true =>
    have e := apply_same hc hp hs (.inl hM)
    have hb : apB c d = true := apB_yes hG' hcut (by rw [e] at hM; exact hM)
    exact ⟨hb, fun _ => by rw [apC_yes hb, e]; rfl⟩
  | false =>
    refine ⟨apB_end ?_, fun e => by cases e⟩
    cases hL : versB (apV c d) with
    | false => rfl
    | true =>
      have e := apply_same hc hp hs (.inr hL)
      rw [e] at hM
      rw [show vc (apL c d) d.x2 d.x3 d.x4 = apV c d from rfl, hL] at hM
      cases hM
theorem versB_sizes {c : VersionC} (h : versB c = true) : c.n0 ≤ 30 ∧ ∀ i, i < c.n0 → (c.r0.F i).size ≤ 1000 ∧ (c.r0.Z i).size ≤ 1000 := by
  obtain ⟨h1, h2, _⟩ := versB_out h
  refine ⟨h1.1, fun i hi => ?_⟩
  have h3 := stepB_file (h2 i hi)
  unfold fileB userB at h3
  simp only [Bool.and_eq_true, decide_eq_true_eq] at h3
  omega

set_option linter.unusedVariables false in
set_option linter.unusedSimpArgs false in
set_option maxHeartbeats 8000000 in
theorem impl_Apply (v e : Value) (c : VersionC) (d : EditC) (w : World) (hf : c.Fit) (hg : d.Fit) (hv : VersionIs w v c) (he : EditSrc w e d) :
    Calls Try.prog 12 #[v, e] w fun x w' => (∃ u, x = .returned (.tuple #[u, .bool (apB c d)]) ∧ VersionOwnM w' w.heap.size u (apC c d)) ∧ Below w.heap.size w w' := by
  obtain ⟨a0, p0, rfl, hS⟩ := hv
  obtain ⟨b0, q0, b1, q1, rfl, hA, hU, hI⟩ := he
  have hfn : c.n0 ≤ 1048576 := hf
  obtain ⟨hgn, hgm⟩ : d.n0 ≤ 1048576 ∧ d.n1 ≤ 1048576 := hg
  have hB0 : Below w.heap.size w (((w.alloc (.cells #[.slice a0 c.n0 p0, .int .i64 c.x1, .int .i64 c.x2, .int .i64 c.x3] 32)).alloc (.cells #[.slice b0 d.n0 q0, .slice b1 d.n1 q1, .int .i64 d.x2, .int .i64 d.x3, .int .i64 d.x4] 37)).alloc (.cells #[.slice none 0 0, .int .i64 0, .int .i64 0, .int .i64 0] 32)) := (((Below.refl _ _).alloc (Nat.le_refl _) _).alloc (by simp) _).alloc (by simp <;> omega) _
  have hV := (((BoxIs.new w #[.slice a0 c.n0 p0, .int .i64 c.x1, .int .i64 c.x2, .int .i64 c.x3] 32 rfl).next (below_one _ (.cells #[.slice b0 d.n0 q0, .slice b1 d.n1 q1, .int .i64 d.x2, .int .i64 d.x3, .int .i64 d.x4] 37))).next (below_one _ (.cells #[.slice none 0 0, .int .i64 0, .int .i64 0, .int .i64 0] 32)))
  have hE := ((BoxIs.new (w.alloc (.cells #[.slice a0 c.n0 p0, .int .i64 c.x1, .int .i64 c.x2, .int .i64 c.x3] 32)) #[.slice b0 d.n0 q0, .slice b1 d.n1 q1, .int .i64 d.x2, .int .i64 d.x3, .int .i64 d.x4] 37 (g := w.heap.size + 1) (by simp)).next (below_one _ (.cells #[.slice none 0 0, .int .i64 0, .int .i64 0, .int .i64 0] 32)))
  have hR := BoxIs.new ((w.alloc (.cells #[.slice a0 c.n0 p0, .int .i64 c.x1, .int .i64 c.x2, .int .i64 c.x3] 32)).alloc (.cells #[.slice b0 d.n0 q0, .slice b1 d.n1 q1, .int .i64 d.x2, .int .i64 d.x3, .int .i64 d.x4] 37)) #[.slice none 0 0, .int .i64 0, .int .i64 0, .int .i64 0] 32 (g := w.heap.size + 1 + 1) (by simp)
  have HS0 := ((hS.below hB0).mono hB0.size).hid
  have HA0 := ((hA.below hB0).mono hB0.size).hid
  have HU0 := ((hU.below hB0).mono hB0.size).hid
  have HI0 := hide (hI.next hB0)
  clear hS hA hU hI
  go_enter Try.func12, Try.ntmps12
  go_upto_region 1 with fail
  generalize ((w.alloc (.cells #[.slice a0 c.n0 p0, .int .i64 c.x1, .int .i64 c.x2, .int .i64 c.x3] 32)).alloc (.cells #[.slice b0 d.n0 q0, .slice b1 d.n1 q1, .int .i64 d.x2, .int .i64 d.x3, .int .i64 d.x4] 37)).alloc (.cells #[.slice none 0 0, .int .i64 0, .int .i64 0, .int .i64 0] 32) = W at hB0 hV hE hR HS0 HA0 HU0 HI0 ⊢
  have HV := hV.hid
  have HE := hE.hid
  have HR := hR.hid
  have HB0 := hide hB0
  clear hB0
  have v0 := hV.cell 0
  have v1 := hV.cell 1
  have v2 := hV.cell 2
  have v3 := hV.cell 3
  have e0 := hE.cell 0
  have e1 := hE.cell 1
  have e2 := hE.cell 2
  have e3 := hE.cell 3
  have e4 := hE.cell 4
  simp only [List.getElem?_toArray, List.getElem?_cons_succ, List.getElem?_cons_zero] at v0 v1 v2 v3 e0 e1 e2 e3 e4
  have hRlt := hR.lt
  clear hV hE hR
  go_cut [6] (fun t wx => wx = W ∧ ∃ b : Bool, t = .bool b ∧ (b = true ↔ (d.x2 < c.x1 ∨ d.x3 < c.x2 ∨ d.x4 < c.x3)))
  case first =>
    by_cases f1 : d.x2 < c.x1
    · go_wp2
      go_meet
      exact ⟨rfl, true, rfl, by simp; omega⟩
    · by_cases f2 : d.x3 < c.x2
      · go_wp2
        go_meet
        exact ⟨rfl, true, rfl, by simp; omega⟩
      · by_cases f3 : d.x4 < c.x3
        · go_wp2
          go_meet
          exact ⟨rfl, true, rfl, by simp; omega⟩
        · go_wp2
          go_meet
          exact ⟨rfl, false, rfl, by simp; omega⟩
  case rest =>
  obtain ⟨hWW, b6, rfl, hb6⟩ := hcut
  have hWW2 := hWW.symm
  clear hWW
  subst hWW2
  have HF6 := hide hb6
  clear hb6
  go_upto_region 2 with fail
  go_cut [46] (fun t wx => ∃ b : Bool, t = .bool b ∧ (b = false → apG c d = true ∧ cutsB c d = true) ∧ (b = true → apB c d = false) ∧ Hid (Below W.heap.size W wx))
  case first =>
    obtain ⟨vb, hvb⟩ : ∃ vb, versB c = vb := ⟨_, rfl⟩
    have cV := impl_VersionOk (.agg #[.slice a0 c.n0 p0, .int .i64 c.x1, .int .i64 c.x2, .int .i64 c.x3]) c W hf ⟨a0, p0, rfl, HS0.out⟩
    rw [hvb] at cV
    have HVB := hide hvb
    clear hvb
    go_wp2_with fail
    refine cV.mono ?_
    rintro e w1 ⟨rfl, hb1⟩
    have HW := hide hb1
    have x0 := (HV.out.next hb1).cell 0
    have z0 := (HE.out.next hb1).cell 0
    have z1 := (HE.out.next hb1).cell 1
    simp only [List.getElem?_toArray, List.getElem?_cons_succ, List.getElem?_cons_zero] at x0 z0 z1
    clear hb1 cV v0 v1 v2 v3 e0 e1 e2 e3 e4
    cases vb with
    | false =>
      have HN : Hid (apG c d = false) := by show apG c d = false; unfold apG; rw [HVB.out]; rfl
      go_wp2
      go_meet
      exact ⟨true, rfl, (fun e => by cases e), (fun _ => apB_g HN.out), HW⟩
    | true =>
      cases b6 with
      | true =>
        have HN : Hid (apG c d = false) := by
          show apG c d = false
          have h := HF6.out.1 (by trivial)
          unfold apG
          rcases h with h | h | h
          · rw [decide_eq_false (show ¬ ¬ d.x2 < c.x1 by omega)]; simp
          · rw [decide_eq_false (show ¬ ¬ d.x3 < c.x2 by omega)]; simp
          · rw [decide_eq_false (show ¬ ¬ d.x4 < c.x3 by omega)]; simp
        go_wp2
        go_meet
        exact ⟨true, rfl, (fun e => by cases e), (fun _ => apB_g HN.out), HW⟩
      | false =>
        by_cases hn30 : d.n0 ≤ 30
        · have h30 : ¬ ((30 : Int) < (d.n0 : Int)) := by omega
          have h30b : decide ((30 : Int) < (d.n0 : Int)) = false := decide_eq_false h30
          have HG : Hid (apG c d = true) := by
            show apG c d = true
            have h : ¬ (d.x2 < c.x1 ∨ d.x3 < c.x2 ∨ d.x4 < c.x3) := fun h => by have := HF6.out.2 h; cases this
            unfold apG
            rw [HVB.out, decide_eq_true (show ¬ d.x2 < c.x1 by omega), decide_eq_true (show ¬ d.x3 < c.x2 by omega), decide_eq_true (show ¬ d.x4 < c.x3 by omega), decide_eq_true hn30]; rfl
          have hc30 := (versB_sizes HVB.out).1
          have cC := impl_cutsOk b1 q1 a0 p0 c d w1 (by omega) hgm (HU0.out.next HW.out) (HI0.out.next HW.out) (HS0.out.next HW.out)
          obtain ⟨cb, hcb⟩ : ∃ cb, cutsB c d = cb := ⟨_, rfl⟩
          rw [hcb] at cC
          have HCB := hide hcb
          clear hcb
          go_wp2_with fail
          refine cC.mono ?_
          rintro e w2 ⟨rfl, hb2⟩
          have HW2 := hide (HW.out.trans (hb2.mono HW.out.size))
          clear hb2 HW cC x0 z0 z1
          cases cb with
          | true =>
            go_wp2
            go_meet
            exact ⟨false, rfl, (fun _ => ⟨HG.out, HCB.out⟩), (fun e => by cases e), HW2⟩
          | false =>
            have HN : Hid (apB c d = false) := by
              refine apB_cut fun h => ?_
              have := cuts_same (d := d) HVB.out
              rw [HCB.out, decide_eq_true h] at this
              cases this
            go_wp2
            go_meet
            exact ⟨true, rfl, (fun e => by cases e), (fun _ => HN.out), HW2⟩
        · have h30 : (30 : Int) < (d.n0 : Int) := by omega
          have h30b : decide ((30 : Int) < (d.n0 : Int)) = true := decide_eq_true h30
          have HN : Hid (apG c d = false) := by show apG c d = false; unfold apG; rw [decide_eq_false hn30]; simp
          go_wp2
          go_meet
          exact ⟨true, rfl, (fun e => by cases e), (fun _ => apB_g HN.out), HW⟩
  case rest =>
  obtain ⟨b46, rfl, hok, hbad, HW⟩ := hcut
  clear HF6 v0 v1 v2 v3 e0 e1 e2 e3 e4
  have hRW := HR.out.next HW.out
  have r0 := hRW.cell 0
  have r1 := hRW.cell 1
  have r2 := hRW.cell 2
  have r3 := hRW.cell 3
  have rf := hRW.free
  simp only [List.getElem?_toArray, List.getElem?_cons_succ, List.getElem?_cons_zero] at r0 r1 r2 r3
  cases b46 with
  | true =>
    have HN := hide (hbad rfl)
    have HLOW := hide (HB0.out.trans (HW.out.mono HB0.out.size))
    have hle2 : w.heap.size ≤ w.heap.size + 1 + 1 := by omega
    clear hok hbad hRW HW
    go_wp2
    refine bodyPost_ret (v := .tuple #[.agg #[.slice none 0 0, .int .i64 0, .int .i64 0, .int .i64 0], .bool false]) (by simp [results, Try.results12, go_sem, r0, r1, r2, r3]) rfl (bad_endA HN.out ?_)
    exact (((HLOW.out.setCell hle2 _).setCell hle2 _).setCell hle2 _).setCell hle2 _
  | false =>
    have HG := hide (hok rfl)
    have hV := HV.out.next HW.out
    have hE := HE.out.next HW.out
    have HS1 := (HS0.out.next HW.out).hid
    have HA1 := (HA0.out.next HW.out).hid
    have HU1 := (HU0.out.next HW.out).hid
    have hc30 := (versB_sizes (show versB c = true by have := HG.out.1; unfold apG at this; simp only [Bool.and_eq_true] at this; exact this.1.1.1.1)).1
    have hn30 : d.n0 ≤ 30 := by have := HG.out.1; unfold apG at this; simp only [Bool.and_eq_true, decide_eq_true_eq] at this; exact this.2
    clear hok hbad r0 r1 r2 r3 rf HS0 HA0 HU0 HI0
    go_upto_region 4 with fail
    go_cut [7] (fun t wx => ∃ (N : Nat) (va : Option Addr) (vp : Nat) (M : List Meta1), t = .pointer (some ⟨N, 0, none⟩) ∧ Hid (M.Perm (leftL c.r0 d.r1 d.n1 c.n0 ++ metasL d.r0 d.n0)) ∧ Hid (M.Pairwise (fun a b => ¬ fOrdM b a < 0)) ∧ Hid (Below W.heap.size W wx) ∧ Hid (OwnMeta wx W.heap.size (.slice va M.length vp) M) ∧ Hid (BoxIs wx N #[.slice va M.length vp, .int .i64 d.x2, .int .i64 d.x3, .int .i64 d.x4] 32))
    case first =>
      have HL := HW.out
      have hS1 := HS1.out
      have hA1 := HA1.out
      have hU1 := HU1.out
      clear HW HS1 HA1 HU1
      refine wp_region_noPanic ?_
      have hb0 : Below wc.heap.size wc wc.drew := (Below.refl _ _).drew
      have HL_0 := HL.trans (hb0.mono HL.size)
      have hV_0 := hV.next hb0
      have hE_0 := hE.next hb0
      have hS1_0 := hS1.next hb0
      have hA1_0 := hA1.next hb0
      have hU1_0 := hU1.next hb0
      refine wp_region_held_drew (S := fun x => BoxIs x w.heap.size #[.slice a0 c.n0 p0, .int .i64 c.x1, .int .i64 c.x2, .int .i64 c.x3] 32 ∧ BoxIs x (w.heap.size + 1) #[.slice b0 d.n0 q0, .slice b1 d.n1 q1, .int .i64 d.x2, .int .i64 d.x3, .int .i64 d.x4] 37) (by kernel_rfl) ⟨hV_0, hE_0⟩ (fun hSz => ?_)
      clear hSz HL hA1 hE hS1 hU1 hV
      generalize wc.drew = wq0 at hb0 HL_0 hV_0 hE_0 hS1_0 hA1_0 hU1_0 ⊢
      clear hb0
      refine wpAnyH_take (i := 0) (v := .pointer (some ⟨w.heap.size, 0, none⟩)) nat0 (by kernel_rfl) (by kernel_rfl) (by kernel_rfl) (fun _ _ _ h => False.elim h) (Or.inl ⟨by rfl, ?_⟩) ⟨hV_0, hE_0⟩ ?_
      · intro wx hSw
        go_simp
      simp only [Act.put, List.setIfInBounds_toArray, List.set_cons_zero, List.set_cons_succ]
      refine wpAnyH_take (i := 1) (v := .slice a0 c.n0 p0) nat1 (by kernel_rfl) (by kernel_rfl) (by kernel_rfl) (fun _ _ _ h => False.elim h) (Or.inl ⟨by rfl, ?_⟩) ⟨hV_0, hE_0⟩ ?_
      · intro wx hSw
        have y0 := hSw.1.cell 0
        simp only [List.getElem?_toArray, List.getElem?_cons_succ, List.getElem?_cons_zero] at y0
        go_simp
      simp only [Act.put, List.setIfInBounds_toArray, List.set_cons_zero, List.set_cons_succ]
      refine wpAnyH_take (i := 2) (v := .agg #[.slice b0 d.n0 q0, .slice b1 d.n1 q1, .int .i64 d.x2, .int .i64 d.x3, .int .i64 d.x4]) nat2 (by kernel_rfl) (by kernel_rfl) (by kernel_rfl) (fun _ _ _ h => False.elim h) (Or.inl ⟨by rfl, ?_⟩) ⟨hV_0, hE_0⟩ ?_
      · intro wx hSw
        have y0 := hSw.2.cell 0
        have y1 := hSw.2.cell 1
        have y2 := hSw.2.cell 2
        have y3 := hSw.2.cell 3
        have y4 := hSw.2.cell 4
        simp only [List.getElem?_toArray, List.getElem?_cons_succ, List.getElem?_cons_zero] at y0 y1 y2 y3 y4
        go_simp
      simp only [Act.put, List.setIfInBounds_toArray, List.set_cons_zero, List.set_cons_succ]
      refine wpAnyH_take (i := 4) (v := .pointer (some ⟨w.heap.size + 1, 2, none⟩)) nat4 (by kernel_rfl) (by kernel_rfl) (by kernel_rfl) (fun _ _ _ h => False.elim h) (Or.inl ⟨by rfl, ?_⟩) ⟨hV_0, hE_0⟩ ?_
      · intro wx hSw
        go_simp
      simp only [Act.put, List.setIfInBounds_toArray, List.set_cons_zero, List.set_cons_succ]
      refine wpAnyH_take (i := 5) (v := .int .i64 d.x2) nat5 (by kernel_rfl) (by kernel_rfl) (by kernel_rfl) (fun _ _ _ h => False.elim h) (Or.inl ⟨by rfl, ?_⟩) ⟨hV_0, hE_0⟩ ?_
      · intro wx hSw
        have y0 := hSw.2.cell 2
        simp only [List.getElem?_toArray, List.getElem?_cons_succ, List.getElem?_cons_zero] at y0
        go_simp
      simp only [Act.put, List.setIfInBounds_toArray, List.set_cons_zero, List.set_cons_succ]
      refine wpAnyH_take (i := 6) (v := .pointer (some ⟨w.heap.size + 1, 3, none⟩)) nat6 (by kernel_rfl) (by kernel_rfl) (by kernel_rfl) (fun _ _ _ h => False.elim h) (Or.inl ⟨by rfl, ?_⟩) ⟨hV_0, hE_0⟩ ?_
      · intro wx hSw
        go_simp
      simp only [Act.put, List.setIfInBounds_toArray, List.set_cons_zero, List.set_cons_succ]
      refine wpAnyH_take (i := 7) (v := .int .i64 d.x3) nat7 (by kernel_rfl) (by kernel_rfl) (by kernel_rfl) (fun _ _ _ h => False.elim h) (Or.inl ⟨by rfl, ?_⟩) ⟨hV_0, hE_0⟩ ?_
      · intro wx hSw
        have y0 := hSw.2.cell 3
        simp only [List.getElem?_toArray, List.getElem?_cons_succ, List.getElem?_cons_zero] at y0
        go_simp
      simp only [Act.put, List.setIfInBounds_toArray, List.set_cons_zero, List.set_cons_succ]
      refine wpAnyH_take (i := 8) (v := .pointer (some ⟨w.heap.size + 1, 4, none⟩)) nat8 (by kernel_rfl) (by kernel_rfl) (by kernel_rfl) (fun _ _ _ h => False.elim h) (Or.inl ⟨by rfl, ?_⟩) ⟨hV_0, hE_0⟩ ?_
      · intro wx hSw
        go_simp
      simp only [Act.put, List.setIfInBounds_toArray, List.set_cons_zero, List.set_cons_succ]
      refine wpAnyH_take (i := 9) (v := .int .i64 d.x4) nat9 (by kernel_rfl) (by kernel_rfl) (by kernel_rfl) (fun _ _ _ h => False.elim h) (Or.inl ⟨by rfl, ?_⟩) ⟨hV_0, hE_0⟩ ?_
      · intro wx hSw
        have y0 := hSw.2.cell 4
        simp only [List.getElem?_toArray, List.getElem?_cons_succ, List.getElem?_cons_zero] at y0
        go_simp
      simp only [Act.put, List.setIfInBounds_toArray, List.set_cons_zero, List.set_cons_succ]
      refine wpAnyH_ready (rs := [3, 11]) (by kernel_rfl) (by simp) ?_
      refine AllReadyH.cons nat3 (fun K hK => ?_) (AllReadyH.cons nat11 (fun K hK => ?_) AllReadyH.nil)
      · go_simp
        go_at_call 36
        refine (impl_edited a0 p0 c b0 q0 b1 q1 d _ (by omega) hgm (by omega) hS1_0 hA1_0 hU1_0).mono ?_
        rintro e wq1 ⟨⟨v1, M1, rfl, hp1, hs1, ho1⟩, hb1⟩
        obtain ⟨va1, vp1, rfl⟩ := ho1.shape
        have HL_1 := HL_0.trans (hb1.mono HL_0.size)
        have hV_1 := hV_0.next hb1
        have hE_1 := hE_0.next hb1
        have OW_1 := (show OwnMeta _ W.heap.size _ _ from ho1.base HL_0.size)
        refine hK.out _ _ ⟨hV_1, hE_1⟩ (fun hSz => ?_)
        clear hK K hSz HL_0 hA1_0 hE_0 hS1_0 hU1_0 hV_0 hb1 ho1
        refine wpAnyH_take (i := 10) (v := .agg #[.slice va1 M1.length vp1, .int .i64 d.x2, .int .i64 d.x3, .int .i64 d.x4]) nat10 (by kernel_rfl) (by kernel_rfl) (by kernel_rfl) (fun _ _ _ h => False.elim h) (Or.inl ⟨by rfl, ?_⟩) ⟨hV_1, hE_1⟩ ?_
        · intro wx hSw
          go_simp
        simp only [Act.put, List.setIfInBounds_toArray, List.set_cons_zero, List.set_cons_succ]
        refine wpAnyH_ready (rs := [11]) (by kernel_rfl) (by simp) ?_
        refine AllReadyH.cons nat11 (fun K hK => ?_) AllReadyH.nil
        go_simp
        have hlt2 : W.heap.size ≤ wq1.heap.size := HL_1.size
        have hb2 := below_one wq1 (.cells #[.slice none 0 0, .int .i64 0, .int .i64 0, .int .i64 0] 32)
        have HL_2 := HL_1.trans (hb2.mono HL_1.size)
        have hV_2 := hV_1.next hb2
        have hE_2 := hE_1.next hb2
        have OW_2 := OW_1.next hb2
        have NB7_2 := BoxIs.new wq1 #[.slice none 0 0, .int .i64 0, .int .i64 0, .int .i64 0] 32 rfl
        refine hK.out _ _ ⟨hV_2, hE_2⟩ (fun hSz => ?_)
        clear hK K hSz HL_1 OW_1 hE_1 hV_1
        obtain ⟨G2, hG2⟩ : ∃ G, G = wq1.heap.size := ⟨_, rfl⟩
        rw [← hG2] at NB7_2 ⊢
        generalize wq1.alloc (.cells #[.slice none 0 0, .int .i64 0, .int .i64 0, .int .i64 0] 32) = wq2 at hb2 HL_2 hV_2 hE_2 OW_2 NB7_2 ⊢
        rw [← hG2] at hlt2
        clear hG2 hb2
        refine wpAnyH_ready (rs := [12]) (by kernel_rfl) (by simp) ?_
        refine AllReadyH.cons nat12 (fun K hK => ?_) AllReadyH.nil
        have y0 := NB7_2.cell 0
        have y1 := NB7_2.cell 1
        have y2 := NB7_2.cell 2
        have y3 := NB7_2.cell 3
        simp only [List.getElem?_toArray, List.getElem?_cons_succ, List.getElem?_cons_zero] at y0 y1 y2 y3
        have yf := NB7_2.free
        go_simp
        clear yf y0 y1 y2 y3
        have HL_3s0 := HL_2.setCell (p := ⟨G2, 0, none⟩) (by show W.heap.size ≤ G2; omega) (.slice va1 M1.length vp1)
        have hV_3s0 := hV_2.set_other (p := ⟨G2, 0, none⟩) (by show G2 ≠ _; omega) (.slice va1 M1.length vp1)
        have hE_3s0 := hE_2.set_other (p := ⟨G2, 0, none⟩) (by show G2 ≠ _; omega) (.slice va1 M1.length vp1)
        have OW_3s0 := (show OwnMeta _ _ _ _ from rg_set (o := 0) OW_2 NB7_2 (by decide) (.slice va1 M1.length vp1))
        have NB7_3s0 := NB7_2.set 0 (.slice va1 M1.length vp1)
        have HL_3s1 := HL_3s0.setCell (p := ⟨G2, 1, none⟩) (by show W.heap.size ≤ G2; omega) (.int .i64 d.x2)
        have hV_3s1 := hV_3s0.set_other (p := ⟨G2, 1, none⟩) (by show G2 ≠ _; omega) (.int .i64 d.x2)
        have hE_3s1 := hE_3s0.set_other (p := ⟨G2, 1, none⟩) (by show G2 ≠ _; omega) (.int .i64 d.x2)
        have OW_3s1 := (show OwnMeta _ _ _ _ from rg_set (o := 1) OW_3s0 NB7_3s0 (by decide) (.int .i64 d.x2))
        have NB7_3s1 := NB7_3s0.set 1 (.int .i64 d.x2)
        have HL_3s2 := HL_3s1.setCell (p := ⟨G2, 2, none⟩) (by show W.heap.size ≤ G2; omega) (.int .i64 d.x3)
        have hV_3s2 := hV_3s1.set_other (p := ⟨G2, 2, none⟩) (by show G2 ≠ _; omega) (.int .i64 d.x3)
        have hE_3s2 := hE_3s1.set_other (p := ⟨G2, 2, none⟩) (by show G2 ≠ _; omega) (.int .i64 d.x3)
        have OW_3s2 := (show OwnMeta _ _ _ _ from rg_set (o := 2) OW_3s1 NB7_3s1 (by decide) (.int .i64 d.x3))
        have NB7_3s2 := NB7_3s1.set 2 (.int .i64 d.x3)
        have HL_3s3 := HL_3s2.setCell (p := ⟨G2, 3, none⟩) (by show W.heap.size ≤ G2; omega) (.int .i64 d.x4)
        have hV_3s3 := hV_3s2.set_other (p := ⟨G2, 3, none⟩) (by show G2 ≠ _; omega) (.int .i64 d.x4)
        have hE_3s3 := hE_3s2.set_other (p := ⟨G2, 3, none⟩) (by show G2 ≠ _; omega) (.int .i64 d.x4)
        have OW_3s3 := (show OwnMeta _ _ _ _ from rg_set (o := 3) OW_3s2 NB7_3s2 (by decide) (.int .i64 d.x4))
        have NB7_3s3 := NB7_3s2.set 3 (.int .i64 d.x4)
        have HL_3 := HL_3s3
        have hV_3 := hV_3s3
        have hE_3 := hE_3s3
        have OW_3 := OW_3s3
        have NB7_3 : BoxIs ((((wq2.setCell ⟨G2, 0, none⟩ (.slice va1 M1.length vp1)).setCell ⟨G2, 1, none⟩ (.int .i64 d.x2)).setCell ⟨G2, 2, none⟩ (.int .i64 d.x3)).setCell ⟨G2, 3, none⟩ (.int .i64 d.x4)) G2 #[.slice va1 M1.length vp1, .int .i64 d.x2, .int .i64 d.x3, .int .i64 d.x4] 32 := NB7_3s3
        refine hK.out _ _ ⟨hV_3, hE_3⟩ (fun hSz => ?_)
        clear hK K hSz HL_2 NB7_2 OW_2 hE_2 hV_2 HL_3s0 HL_3s1 HL_3s2 HL_3s3 hV_3s0 hV_3s1 hV_3s2 hV_3s3 hE_3s0 hE_3s1 hE_3s2 hE_3s3 OW_3s0 OW_3s1 OW_3s2 OW_3s3 NB7_3s0 NB7_3s1 NB7_3s2 NB7_3s3
        generalize (((wq2.setCell ⟨G2, 0, none⟩ (.slice va1 M1.length vp1)).setCell ⟨G2, 1, none⟩ (.int .i64 d.x2)).setCell ⟨G2, 2, none⟩ (.int .i64 d.x3)).setCell ⟨G2, 3, none⟩ (.int .i64 d.x4) = wq3 at HL_3 hV_3 hE_3 OW_3 NB7_3 ⊢
        refine wpAnyH_done (by kernel_rfl) ?_ _
        refine NoPanic.normal ?_
        go_wp2_with fail
        go_meet
        exact ⟨G2, _, _, M1, rfl, hide hp1, hide hs1, hide HL_3, hide OW_3, hide NB7_3⟩
      · go_simp
        have hlt4 : W.heap.size ≤ wq0.heap.size := HL_0.size
        have hb4 := below_one wq0 (.cells #[.slice none 0 0, .int .i64 0, .int .i64 0, .int .i64 0] 32)
        have HL_4 := HL_0.trans (hb4.mono HL_0.size)
        have hV_4 := hV_0.next hb4
        have hE_4 := hE_0.next hb4
        have hS1_4 := hS1_0.next hb4
        have hA1_4 := hA1_0.next hb4
        have hU1_4 := hU1_0.next hb4
        have NB7_4 := BoxIs.new wq0 #[.slice none 0 0, .int .i64 0, .int .i64 0, .int .i64 0] 32 rfl
        refine hK.out _ _ ⟨hV_4, hE_4⟩ (fun hSz => ?_)
        clear hK K hSz HL_0 hA1_0 hE_0 hS1_0 hU1_0 hV_0
        obtain ⟨G4, hG4⟩ : ∃ G, G = wq0.heap.size := ⟨_, rfl⟩
        rw [← hG4] at NB7_4 ⊢
        generalize wq0.alloc (.cells #[.slice none 0 0, .int .i64 0, .int .i64 0, .int .i64 0] 32) = wq4 at hb4 HL_4 hV_4 hE_4 hS1_4 hA1_4 hU1_4 NB7_4 ⊢
        rw [← hG4] at hlt4
        clear hG4 hb4
        refine wpAnyH_ready (rs := [3]) (by kernel_rfl) (by simp) ?_
        refine AllReadyH.cons nat3 (fun K hK => ?_) AllReadyH.nil
        go_simp
        go_at_call 36
        refine (impl_edited a0 p0 c b0 q0 b1 q1 d _ (by omega) hgm (by omega) hS1_4 hA1_4 hU1_4).mono ?_
        rintro e wq5 ⟨⟨v5, M5, rfl, hp5, hs5, ho5⟩, hb5⟩
        obtain ⟨va5, vp5, rfl⟩ := ho5.shape
        have HL_5 := HL_4.trans (hb5.mono HL_4.size)
        have hV_5 := hV_4.next hb5
        have hE_5 := hE_4.next hb5
        have NB7_5 := NB7_4.next hb5
        have OW_5 := (show OwnMeta _ W.heap.size _ _ from ho5.base HL_4.size)
        refine hK.out _ _ ⟨hV_5, hE_5⟩ (fun hSz => ?_)
        clear hK K hSz HL_4 NB7_4 hA1_4 hE_4 hS1_4 hU1_4 hV_4 hb5 ho5
        refine wpAnyH_take (i := 10) (v := .agg #[.slice va5 M5.length vp5, .int .i64 d.x2, .int .i64 d.x3, .int .i64 d.x4]) nat10 (by kernel_rfl) (by kernel_rfl) (by kernel_rfl) (fun _ _ _ h => False.elim h) (Or.inl ⟨by rfl, ?_⟩) ⟨hV_5, hE_5⟩ ?_
        · intro wx hSw
          go_simp
        simp only [Act.put, List.setIfInBounds_toArray, List.set_cons_zero, List.set_cons_succ]
        refine wpAnyH_ready (rs := [12]) (by kernel_rfl) (by simp) ?_
        refine AllReadyH.cons nat12 (fun K hK => ?_) AllReadyH.nil
        have y0 := NB7_5.cell 0
        have y1 := NB7_5.cell 1
        have y2 := NB7_5.cell 2
        have y3 := NB7_5.cell 3
        simp only [List.getElem?_toArray, List.getElem?_cons_succ, List.getElem?_cons_zero] at y0 y1 y2 y3
        have yf := NB7_5.free
        go_simp
        clear yf y0 y1 y2 y3
        have HL_6s0 := HL_5.setCell (p := ⟨G4, 0, none⟩) (by show W.heap.size ≤ G4; omega) (.slice va5 M5.length vp5)
        have hV_6s0 := hV_5.set_other (p := ⟨G4, 0, none⟩) (by show G4 ≠ _; omega) (.slice va5 M5.length vp5)
        have hE_6s0 := hE_5.set_other (p := ⟨G4, 0, none⟩) (by show G4 ≠ _; omega) (.slice va5 M5.length vp5)
        have NB7_6s0 := NB7_5.set 0 (.slice va5 M5.length vp5)
        have OW_6s0 := (show OwnMeta _ _ _ _ from rg_set (o := 0) OW_5 NB7_5 (by decide) (.slice va5 M5.length vp5))
        have HL_6s1 := HL_6s0.setCell (p := ⟨G4, 1, none⟩) (by show W.heap.size ≤ G4; omega) (.int .i64 d.x2)
        have hV_6s1 := hV_6s0.set_other (p := ⟨G4, 1, none⟩) (by show G4 ≠ _; omega) (.int .i64 d.x2)
        have hE_6s1 := hE_6s0.set_other (p := ⟨G4, 1, none⟩) (by show G4 ≠ _; omega) (.int .i64 d.x2)
        have NB7_6s1 := NB7_6s0.set 1 (.int .i64 d.x2)
        have OW_6s1 := (show OwnMeta _ _ _ _ from rg_set (o := 1) OW_6s0 NB7_6s0 (by decide) (.int .i64 d.x2))
        have HL_6s2 := HL_6s1.setCell (p := ⟨G4, 2, none⟩) (by show W.heap.size ≤ G4; omega) (.int .i64 d.x3)
        have hV_6s2 := hV_6s1.set_other (p := ⟨G4, 2, none⟩) (by show G4 ≠ _; omega) (.int .i64 d.x3)
        have hE_6s2 := hE_6s1.set_other (p := ⟨G4, 2, none⟩) (by show G4 ≠ _; omega) (.int .i64 d.x3)
        have NB7_6s2 := NB7_6s1.set 2 (.int .i64 d.x3)
        have OW_6s2 := (show OwnMeta _ _ _ _ from rg_set (o := 2) OW_6s1 NB7_6s1 (by decide) (.int .i64 d.x3))
        have HL_6s3 := HL_6s2.setCell (p := ⟨G4, 3, none⟩) (by show W.heap.size ≤ G4; omega) (.int .i64 d.x4)
        have hV_6s3 := hV_6s2.set_other (p := ⟨G4, 3, none⟩) (by show G4 ≠ _; omega) (.int .i64 d.x4)
        have hE_6s3 := hE_6s2.set_other (p := ⟨G4, 3, none⟩) (by show G4 ≠ _; omega) (.int .i64 d.x4)
        have NB7_6s3 := NB7_6s2.set 3 (.int .i64 d.x4)
        have OW_6s3 := (show OwnMeta _ _ _ _ from rg_set (o := 3) OW_6s2 NB7_6s2 (by decide) (.int .i64 d.x4))
        have HL_6 := HL_6s3
        have hV_6 := hV_6s3
        have hE_6 := hE_6s3
        have NB7_6 : BoxIs ((((wq5.setCell ⟨G4, 0, none⟩ (.slice va5 M5.length vp5)).setCell ⟨G4, 1, none⟩ (.int .i64 d.x2)).setCell ⟨G4, 2, none⟩ (.int .i64 d.x3)).setCell ⟨G4, 3, none⟩ (.int .i64 d.x4)) G4 #[.slice va5 M5.length vp5, .int .i64 d.x2, .int .i64 d.x3, .int .i64 d.x4] 32 := NB7_6s3
        have OW_6 := OW_6s3
        refine hK.out _ _ ⟨hV_6, hE_6⟩ (fun hSz => ?_)
        clear hK K hSz HL_5 NB7_5 OW_5 hE_5 hV_5 HL_6s0 HL_6s1 HL_6s2 HL_6s3 hV_6s0 hV_6s1 hV_6s2 hV_6s3 hE_6s0 hE_6s1 hE_6s2 hE_6s3 NB7_6s0 NB7_6s1 NB7_6s2 NB7_6s3 OW_6s0 OW_6s1 OW_6s2 OW_6s3
        generalize (((wq5.setCell ⟨G4, 0, none⟩ (.slice va5 M5.length vp5)).setCell ⟨G4, 1, none⟩ (.int .i64 d.x2)).setCell ⟨G4, 2, none⟩ (.int .i64 d.x3)).setCell ⟨G4, 3, none⟩ (.int .i64 d.x4) = wq6 at HL_6 hV_6 hE_6 NB7_6 OW_6 ⊢
        refine wpAnyH_done (by kernel_rfl) ?_ _
        refine NoPanic.normal ?_
        go_wp2_with fail
        go_meet
        exact ⟨G4, _, _, M5, rfl, hide hp5, hide hs5, hide HL_6, hide OW_6, hide NB7_6⟩
    case rest =>
    obtain ⟨N, va, vp, M, rfl, HP, HSO, HL, HO, HN⟩ := hcut
    clear HW HS1 HA1 HU1 hV hE hRW
    have hpl : M.length ≤ 100 := by
      have h1 := HP.out.length_eq
      have h2 := leftL_len c.r0 d.r1 d.n1 c.n0
      rw [List.length_append, metasL_len] at h1
      omega
    obtain ⟨hab, hac⟩ := apply_end HG.out.1 HG.out.2 HP.out HSO.out
    obtain ⟨a1, p1, hva, hM1⟩ := HO.out.arg
    simp only [Value.slice.injEq, true_and] at hva
    obtain ⟨rfl, rfl⟩ := hva
    have hIs : ∀ wx, Below wc.heap.size wc wx → VersionIs wx (.agg #[.slice va M.length vp, .int .i64 d.x2, .int .i64 d.x3, .int .i64 d.x4]) (vc M d.x2 d.x3 d.x4) := fun wx hb => ⟨va, vp, rfl, hM1.next hb⟩
    have HIS := hide hIs
    have cV := impl_VersionOk (.agg #[.slice va M.length vp, .int .i64 d.x2, .int .i64 d.x3, .int .i64 d.x4]) (vc M d.x2 d.x3 d.x4) wc (by show M.length ≤ 1048576; omega) (hIs _ (Below.refl _ _))
    have HAC := hide hac
    have HSZ := hide (@versB_sizes (vc M d.x2 d.x3 d.x4))
    obtain ⟨mb, hmb⟩ : ∃ mb, versB (vc M d.x2 d.x3 d.x4) = mb := ⟨_, rfl⟩
    rw [hmb] at cV hab
    have HMB := hide hmb
    have HAB := hide hab
    have n0 := HN.out.cell 0
    have n1 := HN.out.cell 1
    have n2 := HN.out.cell 2
    have n3 := HN.out.cell 3
    simp only [List.getElem?_toArray, List.getElem?_cons_succ, List.getElem?_cons_zero] at n0 n1 n2 n3
    clear hmb hab hac hM1 hIs HG
    go_wp2_with fail
    refine cV.mono ?_
    rintro e w5 ⟨rfl, hb5⟩
    have HL5 := hide (HL.out.trans (hb5.mono HL.out.size))
    have hR5 := HR.out.next HL5.out
    have r0 := hR5.cell 0
    have r1 := hR5.cell 1
    have r2 := hR5.cell 2
    have r3 := hR5.cell 3
    have rf := hR5.free
    simp only [List.getElem?_toArray, List.getElem?_cons_succ, List.getElem?_cons_zero] at r0 r1 r2 r3
    have hN5 := (HN.out.next hb5).hid
    have HB5 := hide hb5
    clear hb5 cV n0 n1 n2 n3 hR5
    cases mb with
    | false =>
      have HLOW := hide (HB0.out.trans (HL5.out.mono HB0.out.size))
      have hle2 : w.heap.size ≤ w.heap.size + 1 + 1 := by omega
      have HC : Hid (apC c d = zeroV) := apC_no HAB.out
      clear HL HN HL5 hN5
      go_wp2
      refine bodyPost_ret (v := .tuple #[.agg #[.slice none 0 0, .int .i64 0, .int .i64 0, .int .i64 0], .bool false]) (by simp [results, Try.results12, go_sem, r0, r1, r2, r3]) rfl ⟨⟨_, by rw [HAB.out], by rw [HC.out]; exact zeroV_ownM _ _⟩, ?_⟩
      exact (((HLOW.out.setCell hle2 _).setCell hle2 _).setCell hle2 _).setCell hle2 _
    | true =>
      have cC := impl_copyVersion (.agg #[.slice va M.length vp, .int .i64 d.x2, .int .i64 d.x3, .int .i64 d.x4]) (vc M d.x2 d.x3 d.x4) w5 (by show M.length ≤ 1000; omega) (HSZ.out HMB.out).2 (HIS.out _ HB5.out)
      have n0 := hN5.out.cell 0
      have n1 := hN5.out.cell 1
      have n2 := hN5.out.cell 2
      have n3 := hN5.out.cell 3
      simp only [List.getElem?_toArray, List.getElem?_cons_succ, List.getElem?_cons_zero] at n0 n1 n2 n3
      clear r0 r1 r2 r3 rf
      go_wp2_with fail
      refine cC.mono ?_
      rintro e w6 ⟨⟨u, rfl, uv, ul, rfl, huo, huc⟩, hb6⟩
      obtain ⟨ua, up, rfl⟩ := huo.shape
      have HL6 := hide (HL5.out.trans (hb6.mono HL5.out.size))
      have hR6 := HR.out.next HL6.out
      have r0 := hR6.cell 0
      have r1 := hR6.cell 1
      have r2 := hR6.cell 2
      have r3 := hR6.cell 3
      have rf := hR6.free
      simp only [List.getElem?_toArray, List.getElem?_cons_succ, List.getElem?_cons_zero] at r0 r1 r2 r3
      have huc2 : vc M d.x2 d.x3 d.x4 = vc ul d.x2 d.x3 d.x4 := by
        have h := huc
        rw [show metasL (vc M d.x2 d.x3 d.x4).r0 (vc M d.x2 d.x3 d.x4).n0 = M from fnMeta_list M] at h
        exact h
      have HCC := hide ((HAC.out HMB.out).trans huc2)
      have HOU := huo.hid
      have b1 := hR6.set 0 (.slice ua ul.length up)
      have b2 := b1.set 1 (.int .i64 d.x2)
      have b3 := b2.set 2 (.int .i64 d.x3)
      have HOW := hide (show OwnMeta _ _ _ _ from rg_set (o := 3) (rg_set (rg_set (rg_set HOU.out hR6 (by decide) (.slice ua ul.length up)) b1 (by decide) (.int .i64 d.x2)) b2 (by decide) (.int .i64 d.x3)) b3 (by decide) (.int .i64 d.x4))
      have HLOW := hide (HB0.out.trans (HL6.out.mono HB0.out.size))
      have hle2 : w.heap.size ≤ w.heap.size + 1 + 1 := by omega
      have hbase : w.heap.size ≤ w5.heap.size := Nat.le_trans HB0.out.size HL5.out.size
      have x1 : (vc M d.x2 d.x3 d.x4).x1 = d.x2 := rfl
      have x2 : (vc M d.x2 d.x3 d.x4).x2 = d.x3 := rfl
      have x3 : (vc M d.x2 d.x3 d.x4).x3 = d.x4 := rfl
      have y1 : (vc (metasL (vc M d.x2 d.x3 d.x4).r0 (vc M d.x2 d.x3 d.x4).n0) (vc M d.x2 d.x3 d.x4).x1 (vc M d.x2 d.x3 d.x4).x2 (vc M d.x2 d.x3 d.x4).x3).x1 = d.x2 := rfl
      have y2 : (vc (metasL (vc M d.x2 d.x3 d.x4).r0 (vc M d.x2 d.x3 d.x4).n0) (vc M d.x2 d.x3 d.x4).x1 (vc M d.x2 d.x3 d.x4).x2 (vc M d.x2 d.x3 d.x4).x3).x2 = d.x3 := rfl
      have y3 : (vc (metasL (vc M d.x2 d.x3 d.x4).r0 (vc M d.x2 d.x3 d.x4).n0) (vc M d.x2 d.x3 d.x4).x1 (vc M d.x2 d.x3 d.x4).x2 (vc M d.x2 d.x3 d.x4).x3).x3 = d.x4 := rfl
      simp only [y1, y2, y3]
      clear hR6 huo huc huc2 b1 b2 b3 x1 x2 x3 y1 y2 y3 n0 n1 n2 n3 hN5 HN HL HL5 hb6 cC
      go_wp2
      refine bodyPost_ret (v := .tuple #[.agg #[.slice ua ul.length up, .int .i64 d.x2, .int .i64 d.x3, .int .i64 d.x4], .bool true]) (by simp [results, Try.results12, go_sem, r0, r1, r2, r3]) rfl ⟨⟨_, by rw [HAB.out], by rw [HCC.out]; exact ⟨_, ul, rfl, HOW.out.base hbase, rfl⟩⟩, ?_⟩
      exact (((HLOW.out.setCell hle2 _).setCell hle2 _).setCell hle2 _).setCell hle2 _

end Go.Proofs.Ytplbhgcibfajaaa
