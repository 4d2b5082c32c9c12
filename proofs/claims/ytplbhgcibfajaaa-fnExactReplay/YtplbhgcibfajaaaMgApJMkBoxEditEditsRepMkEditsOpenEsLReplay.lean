/- Apply of the program: the copy of a version, and the whole. (By gen_api.py.) -/
import Derived.Test.YtplbhgcibfajaaaApI
import Derived.Test.YtplbhgcibfajaaaApplyS
import Derived.Test.YtplbhgcibfajaaaEdit
import Derived.Test.YtplbhgcibfajaaaMkMeta
import Derived.Test.YtplbhgcibfajaaaMkInt
import Derived.Test.YtplbhgcibfajaaaMine
import Derived.Deep.RegionHeld3
import Derived.Test.YtplbhgcibfajaaaRowG
import Derived.Test.YtplbhgcibfajaaaNth
import Derived.Test.YtplbhgcibfajaaaReg
import Derived.BigQuiet
import Derived.Deep.DeepCutAuto
import Derived.Test.YtplbhgcibfajaaaMkBoxVersion
namespace Go.Proofs.Ytplbhgcibfajaaa
set_option maxRecDepth 100000
open Go.RowKit Go.Deep Go.Sort

/-- While a version is copied: the fresh one in block F, its row above it. -/
structure CvS (W : World) (F : Nat) (x1 x2 x3 : Int) (vo : Value) (l : List Meta1) (x : World) : Prop where
  lo : Below F W x
  bx : BoxIs x F #[vo, .int .i64 x1, .int .i64 x2, .int .i64 x3] 32
  ow : OwnMeta x (F + 1) vo l
section
variable {W : World} {F : Nat} {x1 x2 x3 : Int} {vo : Value} {l : List Meta1} {x y : World}
theorem CvS.next (h : CvS W F x1 x2 x3 vo l x) (hF : F ≤ W.heap.size) (b : Below x.heap.size x y) : CvS W F x1 x2 x3 vo l y :=
  ⟨h.lo.trans (b.mono (Nat.le_trans hF h.lo.size)), h.bx.next b, h.ow.next b⟩
theorem CvS.low (h : CvS W F x1 x2 x3 vo l x) : ∀ q, vo.ownBlock = some q → q < x.heap.size := fun q hq => by
  obtain ⟨cur, hc⟩ := rg_type h.ow hq
  exact (Array.getElem?_eq_some_iff.1 hc).1
theorem CvS.setM (h : CvS W F x1 x2 x3 vo l x) {M : Nat} (hM : F < M) (hq : ∀ q, vo.ownBlock = some q → q < M) (j : Nat) (v : Value) : CvS W F x1 x2 x3 vo l (x.setCell ⟨M, j, none⟩ v) :=
  ⟨h.lo.setCell (p := ⟨M, j, none⟩) (by show F ≤ M; omega) _, h.bx.set_other (by show M ≠ F; omega) _, rg_block h.ow (fun q _ _ hv => Below.heap_setCell _ _ _ _ (by have := hq q hv; show q ≠ M; omega))⟩
theorem CvS.added (h : CvS W F x1 x2 x3 vo l x) (hF : F < W.heap.size) {v' : Value} {m : Meta1} (ho : OwnMeta y (F + 1) v' (l ++ [m])) (hg : x.grownBy y vo.ownBlock) : CvS W F x1 x2 x3 v' (l ++ [m]) (y.setCell ⟨F, 0, none⟩ v') := by
  have hB : F + 1 ≤ x.heap.size := Nat.le_trans hF h.lo.size
  have b := rg_low h.ow hB hg
  have bx1 := rg_box h.ow hg h.bx (by decide)
  exact ⟨(h.lo.trans (b.mono (Nat.le_succ F))).setCell (p := ⟨F, 0, none⟩) (Nat.le_refl _) _, bx1.set 0 _, rg_set ho bx1 (by decide) _⟩
end

set_option linter.unusedVariables false in
set_option linter.unusedSimpArgs false in
set_option maxHeartbeats 4000000 in
theorem impl_copyVersion (v : Value) (c : VersionC) (w : World) (hn : c.n0 ≤ 1000) (hz : ∀ i, i < c.n0 → (c.r0.F i).size ≤ 1000 ∧ (c.r0.Z i).size ≤ 1000) (hv : VersionIs w v c) :
    Calls Try.prog 37 #[v] w fun e w' => (∃ u, e = .returned u ∧ VersionOwnM w' w.heap.size u (vc (metasL c.r0 c.n0) c.x1 c.x2 c.x3)) ∧ Below w.heap.size w w' := by
  obtain ⟨a0, p0, rfl, hS⟩ := hv
  have hB0 : Below w.heap.size w (((w.alloc (.cells #[.slice a0 c.n0 p0, .int .i64 c.x1, .int .i64 c.x2, .int .i64 c.x3] 32)).alloc (.cells #[.slice none 0 0, .int .i64 0, .int .i64 0, .int .i64 0] 32)).alloc (.cells #[.slice none 0 0, .int .i64 c.x1, .int .i64 c.x2, .int .i64 c.x3] 32)) := (((Below.refl _ _).alloc (Nat.le_refl _) _).alloc (by simp) _).alloc (by simp <;> omega) _
  have hV := (((BoxIs.new w #[.slice a0 c.n0 p0, .int .i64 c.x1, .int .i64 c.x2, .int .i64 c.x3] 32 rfl).next (below_one _ (.cells #[.slice none 0 0, .int .i64 0, .int .i64 0, .int .i64 0] 32))).next (below_one _ (.cells #[.slice none 0 0, .int .i64 c.x1, .int .i64 c.x2, .int .i64 c.x3] 32)))
  have hR := ((BoxIs.new (w.alloc (.cells #[.slice a0 c.n0 p0, .int .i64 c.x1, .int .i64 c.x2, .int .i64 c.x3] 32)) #[.slice none 0 0, .int .i64 0, .int .i64 0, .int .i64 0] 32 (g := w.heap.size + 1) (by simp)).next (below_one _ (.cells #[.slice none 0 0, .int .i64 c.x1, .int .i64 c.x2, .int .i64 c.x3] 32)))
  have hX := BoxIs.new ((w.alloc (.cells #[.slice a0 c.n0 p0, .int .i64 c.x1, .int .i64 c.x2, .int .i64 c.x3] 32)).alloc (.cells #[.slice none 0 0, .int .i64 0, .int .i64 0, .int .i64 0] 32)) #[.slice none 0 0, .int .i64 c.x1, .int .i64 c.x2, .int .i64 c.x3] 32 (g := w.heap.size + 1 + 1) (by simp)
  have HS0 := (hS.on hB0 (Nat.le_refl _)).hid
  clear hS
  go_enter Try.func37, Try.ntmps37
  go_wp2_with fail
  generalize ((w.alloc (.cells #[.slice a0 c.n0 p0, .int .i64 c.x1, .int .i64 c.x2, .int .i64 c.x3] 32)).alloc (.cells #[.slice none 0 0, .int .i64 0, .int .i64 0, .int .i64 0] 32)).alloc (.cells #[.slice none 0 0, .int .i64 c.x1, .int .i64 c.x2, .int .i64 c.x3] 32) = W at hB0 hV hR hX HS0 ⊢
  have hF : w.heap.size + 1 + 1 < W.heap.size := hX.lt
  have HB0 := hide hB0
  have HC0 : Hid (CvS W (w.heap.size + 1 + 1) c.x1 c.x2 c.x3 (.slice none 0 0) (metasL c.r0 0) W) := ⟨Below.refl _ _, hX, OwnMeta.nil _ _⟩
  have y0 := hV.cell 0
  simp only [List.getElem?_toArray, List.getElem?_cons_zero] at y0
  have HR := hR.hid
  clear hB0 hX hV hR
  go_wp2
  go_loopg [16] c.n0 (fun g iv wr => ∃ (k : Nat) (vo : Value), iv = .int .i64 (k : Int) ∧ k + g = c.n0 ∧ Hid (CvS W (w.heap.size + 1 + 1) c.x1 c.x2 c.x3 vo (metasL c.r0 k) wr))
  case atStart => exact ⟨0, _, rfl, by omega, HC0⟩
  case round =>
    obtain ⟨k, vo, rfl, hk, HC⟩ := hrel
    clear HC0 y0
    by_cases hlt : k < c.n0
    · obtain ⟨b, off, rfl, hb, c0, c1, c2, c3, c4⟩ := (HS0.out.on HC.out.lo (by omega)).at hlt
      obtain ⟨hz2, hz3⟩ := hz k hlt
      have hki : (k : Int) < (c.n0 : Int) := by omega
      have hM := BoxIs.new wr #[.int .i64 (c.r0.N k), .int .i64 (c.r0.L k), .string (c.r0.F k), .string (c.r0.Z k), .int .i64 (c.r0.C k)] 59 rfl
      have hC1 := HC.out.next (by omega) (below_one wr (.cells #[.int .i64 (c.r0.N k), .int .i64 (c.r0.L k), .string (c.r0.F k), .string (c.r0.Z k), .int .i64 (c.r0.C k)] 59))
      have hlow := HC.out.low
      have hFM := HC.out.bx.lt
      clear HC
      go_upto_region 5 with fail
      generalize wr.alloc (.cells #[.int .i64 (c.r0.N k), .int .i64 (c.r0.L k), .string (c.r0.F k), .string (c.r0.Z k), .int .i64 (c.r0.C k)] 59) = W1 at hM hC1 ⊢
      generalize wr.heap.size = M at hM hlow hFM ⊢
      have HLOW := hide hlow
      clear hlow c0 c1 c2 c3 c4
      go_cut [] (fun wx => Hid (CvS W (w.heap.size + 1 + 1) c.x1 c.x2 c.x3 vo (metasL c.r0 k) wx) ∧ Hid (BoxIs wx M #[.int .i64 (c.r0.N k), .int .i64 (c.r0.L k), .string (c.r0.F k), .string (c.r0.Z k), .int .i64 (c.r0.C k)] 59))
      case first =>
        refine wp_region_noPanic ?_
        have hb0 : Below W1.heap.size W1 W1.drew := (Below.refl _ _).drew
        have HC_0 := hC1.next (by omega) hb0
        have HM_0 := hM.next hb0
        refine wp_region_held_drew (S := fun _ => True) (by kernel_rfl) trivial (fun hSz => ?_)
        clear hSz hC1 hM
        generalize W1.drew = wq0 at hb0 HC_0 HM_0 ⊢
        clear hb0
        refine wpAnyH_take (i := 0) (v := .pointer (some ⟨M, 2, none⟩)) nat0 (by kernel_rfl) (by kernel_rfl) (by kernel_rfl) (fun _ _ _ h => False.elim h) (Or.inl ⟨by rfl, ?_⟩) trivial ?_
        · intro wx hSw
          go_simp
        simp only [Act.put, List.setIfInBounds_toArray, List.set_cons_zero, List.set_cons_succ]
        refine wpAnyH_take (i := 3) (v := .pointer (some ⟨M, 3, none⟩)) nat3 (by kernel_rfl) (by kernel_rfl) (by kernel_rfl) (fun _ _ _ h => False.elim h) (Or.inl ⟨by rfl, ?_⟩) trivial ?_
        · intro wx hSw
          go_simp
        simp only [Act.put, List.setIfInBounds_toArray, List.set_cons_zero, List.set_cons_succ]
        refine wpAnyH_ready (rs := [1, 4]) (by kernel_rfl) (by simp) ?_
        refine AllReadyH.cons nat1 (fun K hK => ?_) (AllReadyH.cons nat4 (fun K hK => ?_) AllReadyH.nil)
        · have y0 := HM_0.cell 2
          simp only [List.getElem?_toArray, List.getElem?_cons_succ, List.getElem?_cons_zero] at y0
          go_simp
          refine hK.out _ _ trivial (fun hSz => ?_)
          clear hK K hSz y0
          try simp only [Act.put, List.setIfInBounds_toArray, List.set_cons_zero, List.set_cons_succ]
          refine wpAnyH_ready (rs := [2, 4]) (by kernel_rfl) (by simp) ?_
          refine AllReadyH.cons nat2 (fun K hK => ?_) (AllReadyH.cons nat4 (fun K hK => ?_) AllReadyH.nil)
          · go_simp
            go_at_call 60
            refine (strings_Clone (c.r0.F k) _ (by omega)).mono ?_
            rintro e wq2 ⟨rfl, hb2⟩
            have HC_2 := HC_0.next (by omega) hb2
            have HM_2 := HM_0.next hb2
            refine hK.out _ _ trivial (fun hSz => ?_)
            clear hK K hSz HC_0 HM_0 hb2
            refine wpAnyH_ready (rs := [4]) (by kernel_rfl) (by simp) ?_
            refine AllReadyH.cons nat4 (fun K hK => ?_) AllReadyH.nil
            have y0 := HM_2.cell 3
            simp only [List.getElem?_toArray, List.getElem?_cons_succ, List.getElem?_cons_zero] at y0
            go_simp
            refine hK.out _ _ trivial (fun hSz => ?_)
            clear hK K hSz y0
            try simp only [Act.put, List.setIfInBounds_toArray, List.set_cons_zero, List.set_cons_succ]
            refine wpAnyH_take (i := 6) (v := .pointer (some ⟨M, 2, none⟩)) nat6 (by kernel_rfl) (by kernel_rfl) (by kernel_rfl) (fun _ _ _ h => False.elim h) (Or.inl ⟨by rfl, ?_⟩) trivial ?_
            · intro wx hSw
              go_simp
            simp only [Act.put, List.setIfInBounds_toArray, List.set_cons_zero, List.set_cons_succ]
            refine wpAnyH_ready (rs := [5]) (by kernel_rfl) (by simp) ?_
            refine AllReadyH.cons nat5 (fun K hK => ?_) AllReadyH.nil
            go_simp
            go_at_call 60
            refine (strings_Clone (c.r0.Z k) _ (by omega)).mono ?_
            rintro e wq4 ⟨rfl, hb4⟩
            have HC_4 := HC_2.next (by omega) hb4
            have HM_4 := HM_2.next hb4
            refine hK.out _ _ trivial (fun hSz => ?_)
            clear hK K hSz HC_2 HM_2 hb4
            refine wpAnyH_ready (rs := [7]) (by kernel_rfl) (by simp) ?_
            refine AllReadyH.cons nat7 (fun K hK => ?_) AllReadyH.nil
            have y0 := HM_4.cell 2
            simp only [List.getElem?_toArray, List.getElem?_cons_succ, List.getElem?_cons_zero] at y0
            have yf := HM_4.free
            go_simp
            clear yf y0
            have HC_5s0 := HC_4.setM hFM HLOW.out 2 (.string ((c.r0.F k)))
            have HM_5s0 := HM_4.set 2 (.string ((c.r0.F k)))
            have HC_5 := HC_5s0
            have HM_5 : BoxIs (wq4.setCell ⟨M, 2, none⟩ (.string ((c.r0.F k)))) M #[.int .i64 ((c.r0.N k)), .int .i64 ((c.r0.L k)), .string ((c.r0.F k)), .string ((c.r0.Z k)), .int .i64 ((c.r0.C k))] 59 := HM_5s0
            refine hK.out _ _ trivial (fun hSz => ?_)
            clear hK K hSz HC_4 HM_4 HC_5s0 HM_5s0
            generalize wq4.setCell ⟨M, 2, none⟩ (.string ((c.r0.F k))) = wq5 at HC_5 HM_5 ⊢
            refine wpAnyH_take (i := 8) (v := .pointer (some ⟨M, 3, none⟩)) nat8 (by kernel_rfl) (by kernel_rfl) (by kernel_rfl) (fun _ _ _ h => False.elim h) (Or.inl ⟨by rfl, ?_⟩) trivial ?_
            · intro wx hSw
              go_simp
            simp only [Act.put, List.setIfInBounds_toArray, List.set_cons_zero, List.set_cons_succ]
            refine wpAnyH_ready (rs := [9]) (by kernel_rfl) (by simp) ?_
            refine AllReadyH.cons nat9 (fun K hK => ?_) AllReadyH.nil
            have y0 := HM_5.cell 3
            simp only [List.getElem?_toArray, List.getElem?_cons_succ, List.getElem?_cons_zero] at y0
            have yf := HM_5.free
            go_simp
            clear yf y0
            have HC_6s0 := HC_5.setM hFM HLOW.out 3 (.string ((c.r0.Z k)))
            have HM_6s0 := HM_5.set 3 (.string ((c.r0.Z k)))
            have HC_6 := HC_6s0
            have HM_6 : BoxIs (wq5.setCell ⟨M, 3, none⟩ (.string ((c.r0.Z k)))) M #[.int .i64 ((c.r0.N k)), .int .i64 ((c.r0.L k)), .string ((c.r0.F k)), .string ((c.r0.Z k)), .int .i64 ((c.r0.C k))] 59 := HM_6s0
            refine hK.out _ _ trivial (fun hSz => ?_)
            clear hK K hSz HC_5 HM_5 HC_6s0 HM_6s0
            generalize wq5.setCell ⟨M, 3, none⟩ (.string ((c.r0.Z k))) = wq6 at HC_6 HM_6 ⊢
            refine wpAnyH_done (by kernel_rfl) ?_ _
            refine NoPanic.normal ?_
            go_wp2_with fail
            go_meet
            exact ⟨hide HC_6, hide HM_6⟩
          · have y0 := HM_0.cell 3
            simp only [List.getElem?_toArray, List.getElem?_cons_succ, List.getElem?_cons_zero] at y0
            go_simp
            refine hK.out _ _ trivial (fun hSz => ?_)
            clear hK K hSz y0
            try simp only [Act.put, List.setIfInBounds_toArray, List.set_cons_zero, List.set_cons_succ]
            refine wpAnyH_ready (rs := [2]) (by kernel_rfl) (by simp) ?_
            refine AllReadyH.cons nat2 (fun K hK => ?_) AllReadyH.nil
            go_simp
            go_at_call 60
            refine (strings_Clone (c.r0.F k) _ (by omega)).mono ?_
            rintro e wq8 ⟨rfl, hb8⟩
            have HC_8 := HC_0.next (by omega) hb8
            have HM_8 := HM_0.next hb8
            refine hK.out _ _ trivial (fun hSz => ?_)
            clear hK K hSz HC_0 HM_0 hb8
            refine wpAnyH_take (i := 6) (v := .pointer (some ⟨M, 2, none⟩)) nat6 (by kernel_rfl) (by kernel_rfl) (by kernel_rfl) (fun _ _ _ h => False.elim h) (Or.inl ⟨by rfl, ?_⟩) trivial ?_
            · intro wx hSw
              go_simp
            simp only [Act.put, List.setIfInBounds_toArray, List.set_cons_zero, List.set_cons_succ]
            refine wpAnyH_ready (rs := [5]) (by kernel_rfl) (by simp) ?_
            refine AllReadyH.cons nat5 (fun K hK => ?_) AllReadyH.nil
            go_simp
            go_at_call 60
            refine (strings_Clone (c.r0.Z k) _ (by omega)).mono ?_
            rintro e wq9 ⟨rfl, hb9⟩
            have HC_9 := HC_8.next (by omega) hb9
            have HM_9 := HM_8.next hb9
            refine hK.out _ _ trivial (fun hSz => ?_)
            clear hK K hSz HC_8 HM_8 hb9
            refine wpAnyH_ready (rs := [7]) (by kernel_rfl) (by simp) ?_
            refine AllReadyH.cons nat7 (fun K hK => ?_) AllReadyH.nil
            have y0 := HM_9.cell 2
            simp only [List.getElem?_toArray, List.getElem?_cons_succ, List.getElem?_cons_zero] at y0
            have yf := HM_9.free
            go_simp
            clear yf y0
            have HC_10s0 := HC_9.setM hFM HLOW.out 2 (.string ((c.r0.F k)))
            have HM_10s0 := HM_9.set 2 (.string ((c.r0.F k)))
            have HC_10 := HC_10s0
            have HM_10 : BoxIs (wq9.setCell ⟨M, 2, none⟩ (.string ((c.r0.F k)))) M #[.int .i64 ((c.r0.N k)), .int .i64 ((c.r0.L k)), .string ((c.r0.F k)), .string ((c.r0.Z k)), .int .i64 ((c.r0.C k))] 59 := HM_10s0
            refine hK.out _ _ trivial (fun hSz => ?_)
            clear hK K hSz HC_9 HM_9 HC_10s0 HM_10s0
            generalize wq9.setCell ⟨M, 2, none⟩ (.string ((c.r0.F k))) = wq10 at HC_10 HM_10 ⊢
            refine wpAnyH_take (i := 8) (v := .pointer (some ⟨M, 3, none⟩)) nat8 (by kernel_rfl) (by kernel_rfl) (by kernel_rfl) (fun _ _ _ h => False.elim h) (Or.inl ⟨by rfl, ?_⟩) trivial ?_
            · intro wx hSw
              go_simp
            simp only [Act.put, List.setIfInBounds_toArray, List.set_cons_zero, List.set_cons_succ]
            refine wpAnyH_ready (rs := [9]) (by kernel_rfl) (by simp) ?_
            refine AllReadyH.cons nat9 (fun K hK => ?_) AllReadyH.nil
            have y0 := HM_10.cell 3
            simp only [List.getElem?_toArray, List.getElem?_cons_succ, List.getElem?_cons_zero] at y0
            have yf := HM_10.free
            go_simp
            clear yf y0
            have HC_11s0 := HC_10.setM hFM HLOW.out 3 (.string ((c.r0.Z k)))
            have HM_11s0 := HM_10.set 3 (.string ((c.r0.Z k)))
            have HC_11 := HC_11s0
            have HM_11 : BoxIs (wq10.setCell ⟨M, 3, none⟩ (.string ((c.r0.Z k)))) M #[.int .i64 ((c.r0.N k)), .int .i64 ((c.r0.L k)), .string ((c.r0.F k)), .string ((c.r0.Z k)), .int .i64 ((c.r0.C k))] 59 := HM_11s0
            refine hK.out _ _ trivial (fun hSz => ?_)
            clear hK K hSz HC_10 HM_10 HC_11s0 HM_11s0
            generalize wq10.setCell ⟨M, 3, none⟩ (.string ((c.r0.Z k))) = wq11 at HC_11 HM_11 ⊢
            refine wpAnyH_done (by kernel_rfl) ?_ _
            refine NoPanic.normal ?_
            go_wp2_with fail
            go_meet
            exact ⟨hide HC_11, hide HM_11⟩
        · have y0 := HM_0.cell 3
          simp only [List.getElem?_toArray, List.getElem?_cons_succ, List.getElem?_cons_zero] at y0
          go_simp
          refine hK.out _ _ trivial (fun hSz => ?_)
          clear hK K hSz y0
          try simp only [Act.put, List.setIfInBounds_toArray, List.set_cons_zero, List.set_cons_succ]
          refine wpAnyH_ready (rs := [1]) (by kernel_rfl) (by simp) ?_
          refine AllReadyH.cons nat1 (fun K hK => ?_) AllReadyH.nil
          have y0 := HM_0.cell 2
          simp only [List.getElem?_toArray, List.getElem?_cons_succ, List.getElem?_cons_zero] at y0
          go_simp
          refine hK.out _ _ trivial (fun hSz => ?_)
          clear hK K hSz y0
          try simp only [Act.put, List.setIfInBounds_toArray, List.set_cons_zero, List.set_cons_succ]
          refine wpAnyH_ready (rs := [2]) (by kernel_rfl) (by simp) ?_
          refine AllReadyH.cons nat2 (fun K hK => ?_) AllReadyH.nil
          go_simp
          go_at_call 60
          refine (strings_Clone (c.r0.F k) _ (by omega)).mono ?_
          rintro e wq14 ⟨rfl, hb14⟩
          have HC_14 := HC_0.next (by omega) hb14
          have HM_14 := HM_0.next hb14
          refine hK.out _ _ trivial (fun hSz => ?_)
          clear hK K hSz HC_0 HM_0 hb14
          refine wpAnyH_take (i := 6) (v := .pointer (some ⟨M, 2, none⟩)) nat6 (by kernel_rfl) (by kernel_rfl) (by kernel_rfl) (fun _ _ _ h => False.elim h) (Or.inl ⟨by rfl, ?_⟩) trivial ?_
          · intro wx hSw
            go_simp
          simp only [Act.put, List.setIfInBounds_toArray, List.set_cons_zero, List.set_cons_succ]
          refine wpAnyH_ready (rs := [5]) (by kernel_rfl) (by simp) ?_
          refine AllReadyH.cons nat5 (fun K hK => ?_) AllReadyH.nil
          go_simp
          go_at_call 60
          refine (strings_Clone (c.r0.Z k) _ (by omega)).mono ?_
          rintro e wq15 ⟨rfl, hb15⟩
          have HC_15 := HC_14.next (by omega) hb15
          have HM_15 := HM_14.next hb15
          refine hK.out _ _ trivial (fun hSz => ?_)
          clear hK K hSz HC_14 HM_14 hb15
          refine wpAnyH_ready (rs := [7]) (by kernel_rfl) (by simp) ?_
          refine AllReadyH.cons nat7 (fun K hK => ?_) AllReadyH.nil
          have y0 := HM_15.cell 2
          simp only [List.getElem?_toArray, List.getElem?_cons_succ, List.getElem?_cons_zero] at y0
          have yf := HM_15.free
          go_simp
          clear yf y0
          have HC_16s0 := HC_15.setM hFM HLOW.out 2 (.string ((c.r0.F k)))
          have HM_16s0 := HM_15.set 2 (.string ((c.r0.F k)))
          have HC_16 := HC_16s0
          have HM_16 : BoxIs (wq15.setCell ⟨M, 2, none⟩ (.string ((c.r0.F k)))) M #[.int .i64 ((c.r0.N k)), .int .i64 ((c.r0.L k)), .string ((c.r0.F k)), .string ((c.r0.Z k)), .int .i64 ((c.r0.C k))] 59 := HM_16s0
          refine hK.out _ _ trivial (fun hSz => ?_)
          clear hK K hSz HC_15 HM_15 HC_16s0 HM_16s0
          generalize wq15.setCell ⟨M, 2, none⟩ (.string ((c.r0.F k))) = wq16 at HC_16 HM_16 ⊢
          refine wpAnyH_take (i := 8) (v := .pointer (some ⟨M, 3, none⟩)) nat8 (by kernel_rfl) (by kernel_rfl) (by kernel_rfl) (fun _ _ _ h => False.elim h) (Or.inl ⟨by rfl, ?_⟩) trivial ?_
          · intro wx hSw
            go_simp
          simp only [Act.put, List.setIfInBounds_toArray, List.set_cons_zero, List.set_cons_succ]
          refine wpAnyH_ready (rs := [9]) (by kernel_rfl) (by simp) ?_
          refine AllReadyH.cons nat9 (fun K hK => ?_) AllReadyH.nil
          have y0 := HM_16.cell 3
          simp only [List.getElem?_toArray, List.getElem?_cons_succ, List.getElem?_cons_zero] at y0
          have yf := HM_16.free
          go_simp
          clear yf y0
          have HC_17s0 := HC_16.setM hFM HLOW.out 3 (.string ((c.r0.Z k)))
          have HM_17s0 := HM_16.set 3 (.string ((c.r0.Z k)))
          have HC_17 := HC_17s0
          have HM_17 : BoxIs (wq16.setCell ⟨M, 3, none⟩ (.string ((c.r0.Z k)))) M #[.int .i64 ((c.r0.N k)), .int .i64 ((c.r0.L k)), .string ((c.r0.F k)), .string ((c.r0.Z k)), .int .i64 ((c.r0.C k))] 59 := HM_17s0
          refine hK.out _ _ trivial (fun hSz => ?_)
          clear hK K hSz HC_16 HM_16 HC_17s0 HM_17s0
          generalize wq16.setCell ⟨M, 3, none⟩ (.string ((c.r0.Z k))) = wq17 at HC_17 HM_17 ⊢
          refine wpAnyH_done (by kernel_rfl) ?_ _
          refine NoPanic.normal ?_
          go_wp2_with fail
          go_meet
          exact ⟨hide HC_17, hide HM_17⟩
      case rest =>
      obtain ⟨HC2, HM2⟩ := hcut
      clear hC1 hM HLOW
      obtain ⟨voA, voN, voP, rfl⟩ : ∃ a n p, vo = .slice a n p := by obtain ⟨a, p, e⟩ := rg_shape (show World.ownsRow _ _ _ _ _ _ _ from HC2.out.ow); exact ⟨_, _, _, e⟩
      have y0 := HC2.out.bx.cell 0
      have z0 := HM2.out.cell 0
      have z1 := HM2.out.cell 1
      have z2 := HM2.out.cell 2
      have z3 := HM2.out.cell 3
      have z4 := HM2.out.cell 4
      simp only [List.getElem?_toArray, List.getElem?_cons_succ, List.getElem?_cons_zero] at y0 z0 z1 z2 z3 z4
      have HC3 := hide (HC2.out.next (by omega) (below_one wc (.cells #[.int .i64 (c.r0.N k), .int .i64 (c.r0.L k), .string (c.r0.F k), .string (c.r0.Z k), .int .i64 (c.r0.C k)] 59)))
      have hN := (BoxIs.new wc #[.int .i64 (c.r0.N k), .int .i64 (c.r0.L k), .string (c.r0.F k), .string (c.r0.Z k), .int .i64 (c.r0.C k)] 59 rfl).hid
      have hml := metasL_len c.r0 k
      clear HC2 HM2
      go_wp2_with (first
        | (at_builtin; refine wpList_append_row rfl _ _ 30 rfl 59 Try.underlying30 5 56 meta_info rfl (by decide) (by decide) (w.heap.size + 1 + 1 + 1) _ (metasL c.r0 k).length (cellsMeta (metasL c.r0 k)) (by rfl) HC3.out.ow ⟨wc.heap.size, 0, none⟩ 1 1 (cellsMeta [metaAt1 c.r0 k]) (by rfl) rfl (cellsMeta_one _) (rg_news (us := cellsMeta [metaAt1 c.r0 k]) hN.out) (Nat.le_trans hF HC3.out.lo.size) (by omega) ?_))
      intro v3 w12 h1 h2
      have ho : OwnMeta w12 (w.heap.size + 1 + 1 + 1) v3 (metasL c.r0 k ++ [metaAt1 c.r0 k]) := by show World.ownsRow _ _ _ _ _ _ _; rw [cellsMeta_append, List.length_append, hml]; exact h1
      have hA := HC3.out.added hF ho h2
      rw [← metasL_succ] at hA
      have HA := hide hA
      have bE1 := rg_box HC3.out.ow h2 HC3.out.bx (by decide)
      obtain ⟨vA, vN, vP, rfl⟩ : ∃ a n p, v3 = .slice a n p := by obtain ⟨a, p, e⟩ := rg_shape h1; exact ⟨_, _, _, e⟩
      have q0 := bE1.cell 0
      simp only [List.getElem?_toArray, List.getElem?_cons_zero] at q0
      have qf := bE1.free
      clear h1 h2 ho HC3 hN y0 z0 z1 z2 z3 z4 bE1 hA
      go_wp2
      go_roundg (gk - 1)
      case measure => omega
      case rel => exact ⟨k + 1, _, by go_num, by omega, HA⟩
    · obtain rfl : k = c.n0 := by omega
      have hki : ¬ ((c.n0 : Int) < (c.n0 : Int)) := by omega
      obtain ⟨voA, voP, rfl⟩ := HC.out.ow.shape
      rw [metasL_len] at HC
      have y0 := HC.out.bx.cell 0
      have y1 := HC.out.bx.cell 1
      have y2 := HC.out.bx.cell 2
      have y3 := HC.out.bx.cell 3
      have bR := HR.out.below HC.out.lo (by omega)
      have z0 := bR.cell 0
      have z1 := bR.cell 1
      have z2 := bR.cell 2
      have z3 := bR.cell 3
      have zf := bR.free
      simp only [List.getElem?_toArray, List.getElem?_cons_succ, List.getElem?_cons_zero] at y0 y1 y2 y3 z0 z1 z2 z3
      have hne : w.heap.size + 1 + 1 ≠ w.heap.size + 1 := by omega
      have b1 := bR.set 0 (.slice voA c.n0 voP)
      have b2 := b1.set 1 (.int .i64 c.x1)
      have b3 := b2.set 2 (.int .i64 c.x2)
      have HO := hide (show OwnMeta _ _ _ _ from rg_set (o := 3) (rg_set (rg_set (rg_set HC.out.ow bR (by decide) (.slice voA c.n0 voP)) b1 (by decide) (.int .i64 c.x1)) b2 (by decide) (.int .i64 c.x2)) b3 (by decide) (.int .i64 c.x3))
      have HL := hide ((HB0.out.trans (HC.out.lo.mono (by omega))).trans (((((Below.refl w.heap.size wr).setCell (p := ⟨w.heap.size + 1, 0, none⟩) (Nat.le_succ _) (.slice voA c.n0 voP)).setCell (p := ⟨w.heap.size + 1, 1, none⟩) (Nat.le_succ _) (.int .i64 c.x1)).setCell (p := ⟨w.heap.size + 1, 2, none⟩) (Nat.le_succ _) (.int .i64 c.x2)).setCell (p := ⟨w.heap.size + 1, 3, none⟩) (Nat.le_succ _) (.int .i64 c.x3)))
      clear HC bR b1 b2 b3
      go_wp2
      exact bodyPost_ret (v := .agg #[.slice voA c.n0 voP, .int .i64 c.x1, .int .i64 c.x2, .int .i64 c.x3]) (by simp [results, Try.results37, go_sem, z0, z1, z2, z3]) rfl ⟨⟨_, rfl, _, metasL c.r0 c.n0, rfl, HO.out.base (by omega), rfl⟩, HL.out⟩

/-- What comes of files put in the right order: the model's answer. -/
theorem apply_end {c : VersionC} {d : EditC} (hG : apG c d = true) (hC : cutsB c d = true) {M : List Meta1} (hp : M.Perm (leftL c.r0 d.r1 d.n1 c.n0 ++ metasL d.r0 d.n0)) (hs : M.Pairwise (fun a b => ¬ fOrdM b a < 0)) :
    apB c d = versB (vc M d.x2 d.x3 d.x4) ∧ (versB (vc M d.x2 d.x3 d.x4) = true → apC c d = vc M d.x2 d.x3 d.x4) := by
  have hG' := hG
  unfold apG at hG
  simp only [Bool.and_eq_true] at hG
  have hc : versB c = true := hG.1.1.1.1
  rw [cuts_same hc] at hC
  have hcut := of_decide_eq_true hC
  cases hM : versB (vc M d.x2 d.x3 d.x4) with
  | true =>
    have e := apply_same hc hp hs (.inl hM)
    have hb : apB c d = true := apB_yes hG' hcut (by rw [e] at hM; exact hM)
    exact ⟨hb, fun _ => by rw [apC_yes hb, e]; rfl⟩
  | false =>
    refine ⟨apB_end ?_, fun e => by cases e⟩
    cases hL : versB (apV c d) with
    | false => rfl
    | true =>
      have e := apply_same hc hp hs (.inr hL)
      rw [e] at hM
      rw [show vc (apL c d) d.x2 d.x3 d.x4 = apV c d from rfl, hL] at hM
      cases hM
theorem versB_sizes {c : VersionC} (h : versB c = true) : c.n0 ≤ 30 ∧ ∀ i, i < c.n0 → (c.r0.F i).size ≤ 1000 ∧ (c.r0.Z i).size ≤ 1000 := by
  obtain ⟨h1, h2, _⟩ := versB_out h
  refine ⟨h1.1, fun i hi => ?_⟩
  have h3 := stepB_file (h2 i hi)
  unfold fileB userB at h3
  simp only [Bool.and_eq_true, decide_eq_true_eq] at h3
  omega

set_option linter.unusedVariables false in
set_option linter.unusedSimpArgs false in
set_option maxHeartbeats 8000000 in
theorem impl_Apply (v e : Value) (c : VersionC) (d : EditC) (w : World) (hf : c.Fit) (hg : d.Fit) (hv : VersionIs w v c) (he : EditSrc w e d) :
    Calls Try.prog 12 #[v, e] w fun x w' => (∃ u, x = .returned (.tuple #[u, .bool (apB c d)]) ∧ VersionOwnM w' w.heap.size u (apC c d)) ∧ Below w.heap.size w w' := by
  obtain ⟨a0, p0, rfl, hS⟩ := hv
  obtain ⟨b0, q0, b1, q1, rfl, hA, hU, hI⟩ := he
  have hfn : c.n0 ≤ 1048576 := hf
  obtain ⟨hgn, hgm⟩ : d.n0 ≤ 1048576 ∧ d.n1 ≤ 1048576 := hg
  have hB0 : Below w.heap.size w (((w.alloc (.cells #[.slice a0 c.n0 p0, .int .i64 c.x1, .int .i64 c.x2, .int .i64 c.x3] 32)).alloc (.cells #[.slice b0 d.n0 q0, .slice b1 d.n1 q1, .int .i64 d.x2, .int .i64 d.x3, .int .i64 d.x4] 37)).alloc (.cells #[.slice none 0 0, .int .i64 0, .int .i64 0, .int .i64 0] 32)) := (((Below.refl _ _).alloc (Nat.le_refl _) _).alloc (by simp) _).alloc (by simp <;> omega) _
  have hV := (((BoxIs.new w #[.slice a0 c.n0 p0, .int .i64 c.x1, .int .i64 c.x2, .int .i64 c.x3] 32 rfl).next (below_one _ (.cells #[.slice b0 d.n0 q0, .slice b1 d.n1 q1, .int .i64 d.x2, .int .i64 d.x3, .int .i64 d.x4] 37))).next (below_one _ (.cells #[.slice none 0 0, .int .i64 0, .int .i64 0, .int .i64 0] 32)))
  have hE := ((BoxIs.new (w.alloc (.cells #[.slice a0 c.n0 p0, .int .i64 c.x1, .int .i64 c.x2, .int .i64 c.x3] 32)) #[.slice b0 d.n0 q0, .slice b1 d.n1 q1, .int .i64 d.x2, .int .i64 d.x3, .int .i64 d.x4] 37 (g := w.heap.size + 1) (by simp)).next (below_one _ (.cells #[.slice none 0 0, .int .i64 0, .int .i64 0, .int .i64 0] 32)))
  have hR := BoxIs.new ((w.alloc (.cells #[.slice a0 c.n0 p0, .int .i64 c.x1, .int .i64 c.x2, .int .i64 c.x3] 32)).alloc (.cells #[.slice b0 d.n0 q0, .slice b1 d.n1 q1, .int .i64 d.x2, .int .i64 d.x3, .int .i64 d.x4] 37)) #[.slice none 0 0, .int .i64 0, .int .i64 0, .int .i64 0] 32 (g := w.heap.size + 1 + 1) (by simp)
  have HS0 := ((hS.below hB0).mono hB0.size).hid
  have HA0 := ((hA.below hB0).mono hB0.size).hid
  have HU0 := ((hU.below hB0).mono hB0.size).hid
  have HI0 := hide (hI.next hB0)
  clear hS hA hU hI
  go_enter Try.func12, Try.ntmps12
  go_upto_region 1 with fail
  generalize ((w.alloc (.cells #[.slice a0 c.n0 p0, .int .i64 c.x1, .int .i64 c.x2, .int .i64 c.x3] 32)).alloc (.cells #[.slice b0 d.n0 q0, .slice b1 d.n1 q1, .int .i64 d.x2, .int .i64 d.x3, .int .i64 d.x4] 37)).alloc (.cells #[.slice none 0 0, .int .i64 0, .int .i64 0, .int .i64 0] 32) = W at hB0 hV hE hR HS0 HA0 HU0 HI0 ⊢
  have HV := hV.hid
  have HE := hE.hid
  have HR := hR.hid
  have HB0 := hide hB0
  clear hB0
  have v0 := hV.cell 0
  have v1 := hV.cell 1
  have v2 := hV.cell 2
  have v3 := hV.cell 3
  have e0 := hE.cell 0
  have e1 := hE.cell 1
  have e2 := hE.cell 2
  have e3 := hE.cell 3
  have e4 := hE.cell 4
  simp only [List.getElem?_toArray, List.getElem?_cons_succ, List.getElem?_cons_zero] at v0 v1 v2 v3 e0 e1 e2 e3 e4
  have hRlt := hR.lt
  clear hV hE hR
  go_cut [6] (fun t wx => wx = W ∧ ∃ b : Bool, t = .bool b ∧ (b = true ↔ (d.x2 < c.x1 ∨ d.x3 < c.x2 ∨ d.x4 < c.x3)))
  case first =>
    by_cases f1 : d.x2 < c.x1
    · go_wp2
      go_meet
      exact ⟨rfl, true, rfl, by simp; omega⟩
    · by_cases f2 : d.x3 < c.x2
      · go_wp2
        go_meet
        exact ⟨rfl, true, rfl, by simp; omega⟩
      · by_cases f3 : d.x4 < c.x3
        · go_wp2
          go_meet
          exact ⟨rfl, true, rfl, by simp; omega⟩
        · go_wp2
          go_meet
          exact ⟨rfl, false, rfl, by simp; omega⟩
  case rest =>
  obtain ⟨hWW, b6, rfl, hb6⟩ := hcut
  have hWW2 := hWW.symm
  clear hWW
  subst hWW2
  have HF6 := hide hb6
  clear hb6
  go_upto_region 2 with fail
  go_cut [46] (fun t wx => ∃ b : Bool, t = .bool b ∧ (b = false → apG c d = true ∧ cutsB c d = true) ∧ (b = true → apB c d = false) ∧ Hid (Below W.heap.size W wx))
  case first =>
    obtain ⟨vb, hvb⟩ : ∃ vb, versB c = vb := ⟨_, rfl⟩
    have cV := impl_VersionOk (.agg #[.slice a0 c.n0 p0, .int .i64 c.x1, .int .i64 c.x2, .int .i64 c.x3]) c W hf ⟨a0, p0, rfl, HS0.out⟩
    rw [hvb] at cV
    have HVB := hide hvb
    clear hvb
    go_wp2_with fail
    refine cV.mono ?_
    rintro e w1 ⟨rfl, hb1⟩
    have HW := hide hb1
    have x0 := (HV.out.next hb1).cell 0
    have z0 := (HE.out.next hb1).cell 0
    have z1 := (HE.out.next hb1).cell 1
    simp only [List.getElem?_toArray, List.getElem?_cons_succ, List.getElem?_cons_zero] at x0 z0 z1
    clear hb1 cV v0 v1 v2 v3 e0 e1 e2 e3 e4
    cases vb with
    | false =>
      have HN : Hid (apG c d = false) := by show apG c d = false; unfold apG; rw [HVB.out]; rfl
      go_wp2
      go_meet
      exact ⟨true, rfl, (fun e => by cases e), (fun _ => apB_g HN.out), HW⟩
    | true =>
      cases b6 with
      | true =>
        have HN : Hid (apG c d = false) := by
          show apG c d = false
          have h := HF6.out.1 (by trivial)
          unfold apG
          rcases h with h | h | h
          · rw [decide_eq_false (show ¬ ¬ d.x2 < c.x1 by omega)]; simp
          · rw [decide_eq_false (show ¬ ¬ d.x3 < c.x2 by omega)]; simp
          · rw [decide_eq_false (show ¬ ¬ d.x4 < c.x3 by omega)]; simp
        go_wp2
        go_meet
        exact ⟨true, rfl, (fun e => by cases e), (fun _ => apB_g HN.out), HW⟩
      | false =>
        by_cases hn30 : d.n0 ≤ 30
        · have h30 : ¬ ((30 : Int) < (d.n0 : Int)) := by omega
          have h30b : decide ((30 : Int) < (d.n0 : Int)) = false := decide_eq_false h30
          have HG : Hid (apG c d = true) := by
            show apG c d = true
            have h : ¬ (d.x2 < c.x1 ∨ d.x3 < c.x2 ∨ d.x4 < c.x3) := fun h => by have := HF6.out.2 h; cases this
            unfold apG
            rw [HVB.out, decide_eq_true (show ¬ d.x2 < c.x1 by omega), decide_eq_true (show ¬ d.x3 < c.x2 by omega), decide_eq_true (show ¬ d.x4 < c.x3 by omega), decide_eq_true hn30]; rfl
          have hc30 := (versB_sizes HVB.out).1
          have cC := impl_cutsOk b1 q1 a0 p0 c d w1 (by omega) hgm (HU0.out.next HW.out) (HI0.out.next HW.out) (HS0.out.next HW.out)
          obtain ⟨cb, hcb⟩ : ∃ cb, cutsB c d = cb := ⟨_, rfl⟩
          rw [hcb] at cC
          have HCB := hide hcb
          clear hcb
          go_wp2_with fail
          refine cC.mono ?_
          rintro e w2 ⟨rfl, hb2⟩
          have HW2 := hide (HW.out.trans (hb2.mono HW.out.size))
          clear hb2 HW cC x0 z0 z1
          cases cb with
          | true =>
            go_wp2
            go_meet
            exact ⟨false, rfl, (fun _ => ⟨HG.out, HCB.out⟩), (fun e => by cases e), HW2⟩
          | false =>
            have HN : Hid (apB c d = false) := by
              refine apB_cut fun h => ?_
              have := cuts_same (d := d) HVB.out
              rw [HCB.out, decide_eq_true h] at this
              cases this
            go_wp2
            go_meet
            exact ⟨true, rfl, (fun e => by cases e), (fun _ => HN.out), HW2⟩
        · have h30 : (30 : Int) < (d.n0 : Int) := by omega
          have h30b : decide ((30 : Int) < (d.n0 : Int)) = true := decide_eq_true h30
          have HN : Hid (apG c d = false) := by show apG c d = false; unfold apG; rw [decide_eq_false hn30]; simp
          go_wp2
          go_meet
          exact ⟨true, rfl, (fun e => by cases e), (fun _ => apB_g HN.out), HW⟩
  case rest =>
  obtain ⟨b46, rfl, hok, hbad, HW⟩ := hcut
  clear HF6 v0 v1 v2 v3 e0 e1 e2 e3 e4
  have hRW := HR.out.next HW.out
  have r0 := hRW.cell 0
  have r1 := hRW.cell 1
  have r2 := hRW.cell 2
  have r3 := hRW.cell 3
  have rf := hRW.free
  simp only [List.getElem?_toArray, List.getElem?_cons_succ, List.getElem?_cons_zero] at r0 r1 r2 r3
  cases b46 with
  | true =>
    have HN := hide (hbad rfl)
    have HLOW := hide (HB0.out.trans (HW.out.mono HB0.out.size))
    have hle2 : w.heap.size ≤ w.heap.size + 1 + 1 := by omega
    clear hok hbad hRW HW
    go_wp2
    refine bodyPost_ret (v := .tuple #[.agg #[.slice none 0 0, .int .i64 0, .int .i64 0, .int .i64 0], .bool false]) (by simp [results, Try.results12, go_sem, r0, r1, r2, r3]) rfl (bad_endA HN.out ?_)
    exact (((HLOW.out.setCell hle2 _).setCell hle2 _).setCell hle2 _).setCell hle2 _
  | false =>
    have HG := hide (hok rfl)
    have hV := HV.out.next HW.out
    have hE := HE.out.next HW.out
    have HS1 := (HS0.out.next HW.out).hid
    have HA1 := (HA0.out.next HW.out).hid
    have HU1 := (HU0.out.next HW.out).hid
    have hc30 := (versB_sizes (show versB c = true by have := HG.out.1; unfold apG at this; simp only [Bool.and_eq_true] at this; exact this.1.1.1.1)).1
    have hn30 : d.n0 ≤ 30 := by have := HG.out.1; unfold apG at this; simp only [Bool.and_eq_true, decide_eq_true_eq] at this; exact this.2
    clear hok hbad r0 r1 r2 r3 rf HS0 HA0 HU0 HI0
    go_upto_region 4 with fail
    go_cut [7] (fun t wx => ∃ (N : Nat) (va : Option Addr) (vp : Nat) (M : List Meta1), t = .pointer (some ⟨N, 0, none⟩) ∧ Hid (M.Perm (leftL c.r0 d.r1 d.n1 c.n0 ++ metasL d.r0 d.n0)) ∧ Hid (M.Pairwise (fun a b => ¬ fOrdM b a < 0)) ∧ Hid (Below W.heap.size W wx) ∧ Hid (OwnMeta wx W.heap.size (.slice va M.length vp) M) ∧ Hid (BoxIs wx N #[.slice va M.length vp, .int .i64 d.x2, .int .i64 d.x3, .int .i64 d.x4] 32))
    case first =>
      have HL := HW.out
      have hS1 := HS1.out
      have hA1 := HA1.out
      have hU1 := HU1.out
      clear HW HS1 HA1 HU1
      refine wp_region_noPanic ?_
      have hb0 : Below wc.heap.size wc wc.drew := (Below.refl _ _).drew
      have HL_0 := HL.trans (hb0.mono HL.size)
      have hV_0 := hV.next hb0
      have hE_0 := hE.next hb0
      have hS1_0 := hS1.next hb0
      have hA1_0 := hA1.next hb0
      have hU1_0 := hU1.next hb0
      refine wp_region_held_drew (S := fun x => BoxIs x w.heap.size #[.slice a0 c.n0 p0, .int .i64 c.x1, .int .i64 c.x2, .int .i64 c.x3] 32 ∧ BoxIs x (w.heap.size + 1) #[.slice b0 d.n0 q0, .slice b1 d.n1 q1, .int .i64 d.x2, .int .i64 d.x3, .int .i64 d.x4] 37) (by kernel_rfl) ⟨hV_0, hE_0⟩ (fun hSz => ?_)
      clear hSz HL hA1 hE hS1 hU1 hV
      generalize wc.drew = wq0 at hb0 HL_0 hV_0 hE_0 hS1_0 hA1_0 hU1_0 ⊢
      clear hb0
      refine wpAnyH_take (i := 0) (v := .pointer (some ⟨w.heap.size, 0, none⟩)) nat0 (by kernel_rfl) (by kernel_rfl) (by kernel_rfl) (fun _ _ _ h => False.elim h) (Or.inl ⟨by rfl, ?_⟩) ⟨hV_0, hE_0⟩ ?_
      · intro wx hSw
        go_simp
      simp only [Act.put, List.setIfInBounds_toArray, List.set_cons_zero, List.set_cons_succ]
      refine wpAnyH_take (i := 1) (v := .slice a0 c.n0 p0) nat1 (by kernel_rfl) (by kernel_rfl) (by kernel_rfl) (fun _ _ _ h => False.elim h) (Or.inl ⟨by rfl, ?_⟩) ⟨hV_0, hE_0⟩ ?_
      · intro wx hSw
        have y0 := hSw.1.cell 0
        simp only [List.getElem?_toArray, List.getElem?_cons_succ, List.getElem?_cons_zero] at y0
        go_simp
      simp only [Act.put, List.setIfInBounds_toArray, List.set_cons_zero, List.set_cons_succ]
      refine wpAnyH_take (i := 2) (v := .agg #[.slice b0 d.n0 q0, .slice b1 d.n1 q1, .int .i64 d.x2, .int .i64 d.x3, .int .i64 d.x4]) nat2 (by kernel_rfl) (by kernel_rfl) (by kernel_rfl) (fun _ _ _ h => False.elim h) (Or.inl ⟨by rfl, ?_⟩) ⟨hV_0, hE_0⟩ ?_
      · intro wx hSw
        have y0 := hSw.2.cell 0
        have y1 := hSw.2.cell 1
        have y2 := hSw.2.cell 2
        have y3 := hSw.2.cell 3
        have y4 := hSw.2.cell 4
        simp only [List.getElem?_toArray, List.getElem?_cons_succ, List.getElem?_cons_zero] at y0 y1 y2 y3 y4
        go_simp
      simp only [Act.put, List.setIfInBounds_toArray, List.set_cons_zero, List.set_cons_succ]
      refine wpAnyH_take (i := 4) (v := .pointer (some ⟨w.heap.size + 1, 2, none⟩)) nat4 (by kernel_rfl) (by kernel_rfl) (by kernel_rfl) (fun _ _ _ h => False.elim h) (Or.inl ⟨by rfl, ?_⟩) ⟨hV_0, hE_0⟩ ?_
      · intro wx hSw
        go_simp
      simp only [Act.put, List.setIfInBounds_toArray, List.set_cons_zero, List.set_cons_succ]
      refine wpAnyH_take (i := 5) (v := .int .i64 d.x2) nat5 (by kernel_rfl) (by kernel_rfl) (by kernel_rfl) (fun _ _ _ h => False.elim h) (Or.inl ⟨by rfl, ?_⟩) ⟨hV_0, hE_0⟩ ?_
      · intro wx hSw
        have y0 := hSw.2.cell 2
        simp only [List.getElem?_toArray, List.getElem?_cons_succ, List.getElem?_cons_zero] at y0
        go_simp
      simp only [Act.put, List.setIfInBounds_toArray, List.set_cons_zero, List.set_cons_succ]
      refine wpAnyH_take (i := 6) (v := .pointer (some ⟨w.heap.size + 1, 3, none⟩)) nat6 (by kernel_rfl) (by kernel_rfl) (by kernel_rfl) (fun _ _ _ h => False.elim h) (Or.inl ⟨by rfl, ?_⟩) ⟨hV_0, hE_0⟩ ?_
      · intro wx hSw
        go_simp
      simp only [Act.put, List.setIfInBounds_toArray, List.set_cons_zero, List.set_cons_succ]
      refine wpAnyH_take (i := 7) (v := .int .i64 d.x3) nat7 (by kernel_rfl) (by kernel_rfl) (by kernel_rfl) (fun _ _ _ h => False.elim h) (Or.inl ⟨by rfl, ?_⟩) ⟨hV_0, hE_0⟩ ?_
      · intro wx hSw
        have y0 := hSw.2.cell 3
        simp only [List.getElem?_toArray, List.getElem?_cons_succ, List.getElem?_cons_zero] at y0
        go_simp
      simp only [Act.put, List.setIfInBounds_toArray, List.set_cons_zero, List.set_cons_succ]
      refine wpAnyH_take (i := 8) (v := .pointer (some ⟨w.heap.size + 1, 4, none⟩)) nat8 (by kernel_rfl) (by kernel_rfl) (by kernel_rfl) (fun _ _ _ h => False.elim h) (Or.inl ⟨by rfl, ?_⟩) ⟨hV_0, hE_0⟩ ?_
      · intro wx hSw
        go_simp
      simp only [Act.put, List.setIfInBounds_toArray, List.set_cons_zero, List.set_cons_succ]
      refine wpAnyH_take (i := 9) (v := .int .i64 d.x4) nat9 (by kernel_rfl) (by kernel_rfl) (by kernel_rfl) (fun _ _ _ h => False.elim h) (Or.inl ⟨by rfl, ?_⟩) ⟨hV_0, hE_0⟩ ?_
      · intro wx hSw
        have y0 := hSw.2.cell 4
        simp only [List.getElem?_toArray, List.getElem?_cons_succ, List.getElem?_cons_zero] at y0
        go_simp
      simp only [Act.put, List.setIfInBounds_toArray, List.set_cons_zero, List.set_cons_succ]
      refine wpAnyH_ready (rs := [3, 11]) (by kernel_rfl) (by simp) ?_
      refine AllReadyH.cons nat3 (fun K hK => ?_) (AllReadyH.cons nat11 (fun K hK => ?_) AllReadyH.nil)
      · go_simp
        go_at_call 36
        refine (impl_edited a0 p0 c b0 q0 b1 q1 d _ (by omega) hgm (by omega) hS1_0 hA1_0 hU1_0).mono ?_
        rintro e wq1 ⟨⟨v1, M1, rfl, hp1, hs1, ho1⟩, hb1⟩
        obtain ⟨va1, vp1, rfl⟩ := ho1.shape
        have HL_1 := HL_0.trans (hb1.mono HL_0.size)
        have hV_1 := hV_0.next hb1
        have hE_1 := hE_0.next hb1
        have OW_1 := (show OwnMeta _ W.heap.size _ _ from ho1.base HL_0.size)
        refine hK.out _ _ ⟨hV_1, hE_1⟩ (fun hSz => ?_)
        clear hK K hSz HL_0 hA1_0 hE_0 hS1_0 hU1_0 hV_0 hb1 ho1
        refine wpAnyH_take (i := 10) (v := .agg #[.slice va1 M1.length vp1, .int .i64 d.x2, .int .i64 d.x3, .int .i64 d.x4]) nat10 (by kernel_rfl) (by kernel_rfl) (by kernel_rfl) (fun _ _ _ h => False.elim h) (Or.inl ⟨by rfl, ?_⟩) ⟨hV_1, hE_1⟩ ?_
        · intro wx hSw
          go_simp
        simp only [Act.put, List.setIfInBounds_toArray, List.set_cons_zero, List.set_cons_succ]
        refine wpAnyH_ready (rs := [11]) (by kernel_rfl) (by simp) ?_
        refine AllReadyH.cons nat11 (fun K hK => ?_) AllReadyH.nil
        go_simp
        have hlt2 : W.heap.size ≤ wq1.heap.size := HL_1.size
        have hb2 := below_one wq1 (.cells #[.slice none 0 0, .int .i64 0, .int .i64 0, .int .i64 0] 32)
        have HL_2 := HL_1.trans (hb2.mono HL_1.size)
        have hV_2 := hV_1.next hb2
        have hE_2 := hE_1.next hb2
        have OW_2 := OW_1.next hb2
        have NB7_2 := BoxIs.new wq1 #[.slice none 0 0, .int .i64 0, .int .i64 0, .int .i64 0] 32 rfl
        refine hK.out _ _ ⟨hV_2, hE_2⟩ (fun hSz => ?_)
        clear hK K hSz HL_1 OW_1 hE_1 hV_1
        obtain ⟨G2, hG2⟩ : ∃ G, G = wq1.heap.size := ⟨_, rfl⟩
        rw [← hG2] at NB7_2 ⊢
        generalize wq1.alloc (.cells #[.slice none 0 0, .int .i64 0, .int .i64 0, .int .i64 0] 32) = wq2 at hb2 HL_2 hV_2 hE_2 OW_2 NB7_2 ⊢
        rw [← hG2] at hlt2
        clear hG2 hb2
        refine wpAnyH_ready (rs := [12]) (by kernel_rfl) (by simp) ?_
        refine AllReadyH.cons nat12 (fun K hK => ?_) AllReadyH.nil
        have y0 := NB7_2.cell 0
        have y1 := NB7_2.cell 1
        have y2 := NB7_2.cell 2
        have y3 := NB7_2.cell 3
        simp only [List.getElem?_toArray, List.getElem?_cons_succ, List.getElem?_cons_zero] at y0 y1 y2 y3
        have yf := NB7_2.free
        go_simp
        clear yf y0 y1 y2 y3
        have HL_3s0 := HL_2.setCell (p := ⟨G2, 0, none⟩) (by show W.heap.size ≤ G2; omega) (.slice va1 M1.length vp1)
        have hV_3s0 := hV_2.set_other (p := ⟨G2, 0, none⟩) (by show G2 ≠ _; omega) (.slice va1 M1.length vp1)
        have hE_3s0 := hE_2.set_other (p := ⟨G2, 0, none⟩) (by show G2 ≠ _; omega) (.slice va1 M1.length vp1)
        have OW_3s0 := (show OwnMeta _ _ _ _ from rg_set (o := 0) OW_2 NB7_2 (by decide) (.slice va1 M1.length vp1))
        have NB7_3s0 := NB7_2.set 0 (.slice va1 M1.length vp1)
        have HL_3s1 := HL_3s0.setCell (p := ⟨G2, 1, none⟩) (by show W.heap.size ≤ G2; omega) (.int .i64 d.x2)
        have hV_3s1 := hV_3s0.set_other (p := ⟨G2, 1, none⟩) (by show G2 ≠ _; omega) (.int .i64 d.x2)
        have hE_3s1 := hE_3s0.set_other (p := ⟨G2, 1, none⟩) (by show G2 ≠ _; omega) (.int .i64 d.x2)
        have OW_3s1 := (show OwnMeta _ _ _ _ from rg_set (o := 1) OW_3s0 NB7_3s0 (by decide) (.int .i64 d.x2))
        have NB7_3s1 := NB7_3s0.set 1 (.int .i64 d.x2)
        have HL_3s2 := HL_3s1.setCell (p := ⟨G2, 2, none⟩) (by show W.heap.size ≤ G2; omega) (.int .i64 d.x3)
        have hV_3s2 := hV_3s1.set_other (p := ⟨G2, 2, none⟩) (by show G2 ≠ _; omega) (.int .i64 d.x3)
        have hE_3s2 := hE_3s1.set_other (p := ⟨G2, 2, none⟩) (by show G2 ≠ _; omega) (.int .i64 d.x3)
        have OW_3s2 := (show OwnMeta _ _ _ _ from rg_set (o := 2) OW_3s1 NB7_3s1 (by decide) (.int .i64 d.x3))
        have NB7_3s2 := NB7_3s1.set 2 (.int .i64 d.x3)
        have HL_3s3 := HL_3s2.setCell (p := ⟨G2, 3, none⟩) (by show W.heap.size ≤ G2; omega) (.int .i64 d.x4)
        have hV_3s3 := hV_3s2.set_other (p := ⟨G2, 3, none⟩) (by show G2 ≠ _; omega) (.int .i64 d.x4)
        have hE_3s3 := hE_3s2.set_other (p := ⟨G2, 3, none⟩) (by show G2 ≠ _; omega) (.int .i64 d.x4)
        have OW_3s3 := (show OwnMeta _ _ _ _ from rg_set (o := 3) OW_3s2 NB7_3s2 (by decide) (.int .i64 d.x4))
        have NB7_3s3 := NB7_3s2.set 3 (.int .i64 d.x4)
        have HL_3 := HL_3s3
        have hV_3 := hV_3s3
        have hE_3 := hE_3s3
        have OW_3 := OW_3s3
        have NB7_3 : BoxIs ((((wq2.setCell ⟨G2, 0, none⟩ (.slice va1 M1.length vp1)).setCell ⟨G2, 1, none⟩ (.int .i64 d.x2)).setCell ⟨G2, 2, none⟩ (.int .i64 d.x3)).setCell ⟨G2, 3, none⟩ (.int .i64 d.x4)) G2 #[.slice va1 M1.length vp1, .int .i64 d.x2, .int .i64 d.x3, .int .i64 d.x4] 32 := NB7_3s3
        refine hK.out _ _ ⟨hV_3, hE_3⟩ (fun hSz => ?_)
        clear hK K hSz HL_2 NB7_2 OW_2 hE_2 hV_2 HL_3s0 HL_3s1 HL_3s2 HL_3s3 hV_3s0 hV_3s1 hV_3s2 hV_3s3 hE_3s0 hE_3s1 hE_3s2 hE_3s3 OW_3s0 OW_3s1 OW_3s2 OW_3s3 NB7_3s0 NB7_3s1 NB7_3s2 NB7_3s3
        generalize (((wq2.setCell ⟨G2, 0, none⟩ (.slice va1 M1.length vp1)).setCell ⟨G2, 1, none⟩ (.int .i64 d.x2)).setCell ⟨G2, 2, none⟩ (.int .i64 d.x3)).setCell ⟨G2, 3, none⟩ (.int .i64 d.x4) = wq3 at HL_3 hV_3 hE_3 OW_3 NB7_3 ⊢
        refine wpAnyH_done (by kernel_rfl) ?_ _
        refine NoPanic.normal ?_
        go_wp2_with fail
        go_meet
        exact ⟨G2, _, _, M1, rfl, hide hp1, hide hs1, hide HL_3, hide OW_3, hide NB7_3⟩
      · go_simp
        have hlt4 : W.heap.size ≤ wq0.heap.size := HL_0.size
        have hb4 := below_one wq0 (.cells #[.slice none 0 0, .int .i64 0, .int .i64 0, .int .i64 0] 32)
        have HL_4 := HL_0.trans (hb4.mono HL_0.size)
        have hV_4 := hV_0.next hb4
        have hE_4 := hE_0.next hb4
        have hS1_4 := hS1_0.next hb4
        have hA1_4 := hA1_0.next hb4
        have hU1_4 := hU1_0.next hb4
        have NB7_4 := BoxIs.new wq0 #[.slice none 0 0, .int .i64 0, .int .i64 0, .int .i64 0] 32 rfl
        refine hK.out _ _ ⟨hV_4, hE_4⟩ (fun hSz => ?_)
        clear hK K hSz HL_0 hA1_0 hE_0 hS1_0 hU1_0 hV_0
        obtain ⟨G4, hG4⟩ : ∃ G, G = wq0.heap.size := ⟨_, rfl⟩
        rw [← hG4] at NB7_4 ⊢
        generalize wq0.alloc (.cells #[.slice none 0 0, .int .i64 0, .int .i64 0, .int .i64 0] 32) = wq4 at hb4 HL_4 hV_4 hE_4 hS1_4 hA1_4 hU1_4 NB7_4 ⊢
        rw [← hG4] at hlt4
        clear hG4 hb4
        refine wpAnyH_ready (rs := [3]) (by kernel_rfl) (by simp) ?_
        refine AllReadyH.cons nat3 (fun K hK => ?_) AllReadyH.nil
        go_simp
        go_at_call 36
        refine (impl_edited a0 p0 c b0 q0 b1 q1 d _ (by omega) hgm (by omega) hS1_4 hA1_4 hU1_4).mono ?_
        rintro e wq5 ⟨⟨v5, M5, rfl, hp5, hs5, ho5⟩, hb5⟩
        obtain ⟨va5, vp5, rfl⟩ := ho5.shape
        have HL_5 := HL_4.trans (hb5.mono HL_4.size)
        have hV_5 := hV_4.next hb5
        have hE_5 := hE_4.next hb5
        have NB7_5 := NB7_4.next hb5
        have OW_5 := (show OwnMeta _ W.heap.size _ _ from ho5.base HL_4.size)
        refine hK.out _ _ ⟨hV_5, hE_5⟩ (fun hSz => ?_)
        clear hK K hSz HL_4 NB7_4 hA1_4 hE_4 hS1_4 hU1_4 hV_4 hb5 ho5
        refine wpAnyH_take (i := 10) (v := .agg #[.slice va5 M5.length vp5, .int .i64 d.x2, .int .i64 d.x3, .int .i64 d.x4]) nat10 (by kernel_rfl) (by kernel_rfl) (by kernel_rfl) (fun _ _ _ h => False.elim h) (Or.inl ⟨by rfl, ?_⟩) ⟨hV_5, hE_5⟩ ?_
        · intro wx hSw
          go_simp
        simp only [Act.put, List.setIfInBounds_toArray, List.set_cons_zero, List.set_cons_succ]
        refine wpAnyH_ready (rs := [12]) (by kernel_rfl) (by simp) ?_
        refine AllReadyH.cons nat12 (fun K hK => ?_) AllReadyH.nil
        have y0 := NB7_5.cell 0
        have y1 := NB7_5.cell 1
        have y2 := NB7_5.cell 2
        have y3 := NB7_5.cell 3
        simp only [List.getElem?_toArray, List.getElem?_cons_succ, List.getElem?_cons_zero] at y0 y1 y2 y3
        have yf := NB7_5.free
        go_simp
        clear yf y0 y1 y2 y3
        have HL_6s0 := HL_5.setCell (p := ⟨G4, 0, none⟩) (by show W.heap.size ≤ G4; omega) (.slice va5 M5.length vp5)
        have hV_6s0 := hV_5.set_other (p := ⟨G4, 0, none⟩) (by show G4 ≠ _; omega) (.slice va5 M5.length vp5)
        have hE_6s0 := hE_5.set_other (p := ⟨G4, 0, none⟩) (by show G4 ≠ _; omega) (.slice va5 M5.length vp5)
        have NB7_6s0 := NB7_5.set 0 (.slice va5 M5.length vp5)
        have OW_6s0 := (show OwnMeta _ _ _ _ from rg_set (o := 0) OW_5 NB7_5 (by decide) (.slice va5 M5.length vp5))
        have HL_6s1 := HL_6s0.setCell (p := ⟨G4, 1, none⟩) (by show W.heap.size ≤ G4; omega) (.int .i64 d.x2)
        have hV_6s1 := hV_6s0.set_other (p := ⟨G4, 1, none⟩) (by show G4 ≠ _; omega) (.int .i64 d.x2)
        have hE_6s1 := hE_6s0.set_other (p := ⟨G4, 1, none⟩) (by show G4 ≠ _; omega) (.int .i64 d.x2)
        have NB7_6s1 := NB7_6s0.set 1 (.int .i64 d.x2)
        have OW_6s1 := (show OwnMeta _ _ _ _ from rg_set (o := 1) OW_6s0 NB7_6s0 (by decide) (.int .i64 d.x2))
        have HL_6s2 := HL_6s1.setCell (p := ⟨G4, 2, none⟩) (by show W.heap.size ≤ G4; omega) (.int .i64 d.x3)
        have hV_6s2 := hV_6s1.set_other (p := ⟨G4, 2, none⟩) (by show G4 ≠ _; omega) (.int .i64 d.x3)
        have hE_6s2 := hE_6s1.set_other (p := ⟨G4, 2, none⟩) (by show G4 ≠ _; omega) (.int .i64 d.x3)
        have NB7_6s2 := NB7_6s1.set 2 (.int .i64 d.x3)
        have OW_6s2 := (show OwnMeta _ _ _ _ from rg_set (o := 2) OW_6s1 NB7_6s1 (by decide) (.int .i64 d.x3))
        have HL_6s3 := HL_6s2.setCell (p := ⟨G4, 3, none⟩) (by show W.heap.size ≤ G4; omega) (.int .i64 d.x4)
        have hV_6s3 := hV_6s2.set_other (p := ⟨G4, 3, none⟩) (by show G4 ≠ _; omega) (.int .i64 d.x4)
        have hE_6s3 := hE_6s2.set_other (p := ⟨G4, 3, none⟩) (by show G4 ≠ _; omega) (.int .i64 d.x4)
        have NB7_6s3 := NB7_6s2.set 3 (.int .i64 d.x4)
        have OW_6s3 := (show OwnMeta _ _ _ _ from rg_set (o := 3) OW_6s2 NB7_6s2 (by decide) (.int .i64 d.x4))
        have HL_6 := HL_6s3
        have hV_6 := hV_6s3
        have hE_6 := hE_6s3
        have NB7_6 : BoxIs ((((wq5.setCell ⟨G4, 0, none⟩ (.slice va5 M5.length vp5)).setCell ⟨G4, 1, none⟩ (.int .i64 d.x2)).setCell ⟨G4, 2, none⟩ (.int .i64 d.x3)).setCell ⟨G4, 3, none⟩ (.int .i64 d.x4)) G4 #[.slice va5 M5.length vp5, .int .i64 d.x2, .int .i64 d.x3, .int .i64 d.x4] 32 := NB7_6s3
        have OW_6 := OW_6s3
        refine hK.out _ _ ⟨hV_6, hE_6⟩ (fun hSz => ?_)
        clear hK K hSz HL_5 NB7_5 OW_5 hE_5 hV_5 HL_6s0 HL_6s1 HL_6s2 HL_6s3 hV_6s0 hV_6s1 hV_6s2 hV_6s3 hE_6s0 hE_6s1 hE_6s2 hE_6s3 NB7_6s0 NB7_6s1 NB7_6s2 NB7_6s3 OW_6s0 OW_6s1 OW_6s2 OW_6s3
        generalize (((wq5.setCell ⟨G4, 0, none⟩ (.slice va5 M5.length vp5)).setCell ⟨G4, 1, none⟩ (.int .i64 d.x2)).setCell ⟨G4, 2, none⟩ (.int .i64 d.x3)).setCell ⟨G4, 3, none⟩ (.int .i64 d.x4) = wq6 at HL_6 hV_6 hE_6 NB7_6 OW_6 ⊢
        refine wpAnyH_done (by kernel_rfl) ?_ _
        refine NoPanic.normal ?_
        go_wp2_with fail
        go_meet
        exact ⟨G4, _, _, M5, rfl, hide hp5, hide hs5, hide HL_6, hide OW_6, hide NB7_6⟩
    case rest =>
    obtain ⟨N, va, vp, M, rfl, HP, HSO, HL, HO, HN⟩ := hcut
    clear HW HS1 HA1 HU1 hV hE hRW
    have hpl : M.length ≤ 100 := by
      have h1 := HP.out.length_eq
      have h2 := leftL_len c.r0 d.r1 d.n1 c.n0
      rw [List.length_append, metasL_len] at h1
      omega
    obtain ⟨hab, hac⟩ := apply_end HG.out.1 HG.out.2 HP.out HSO.out
    obtain ⟨a1, p1, hva, hM1⟩ := HO.out.arg
    simp only [Value.slice.injEq, true_and] at hva
    obtain ⟨rfl, rfl⟩ := hva
    have hIs : ∀ wx, Below wc.heap.size wc wx → VersionIs wx (.agg #[.slice va M.length vp, .int .i64 d.x2, .int .i64 d.x3, .int .i64 d.x4]) (vc M d.x2 d.x3 d.x4) := fun wx hb => ⟨va, vp, rfl, hM1.next hb⟩
    have HIS := hide hIs
    have cV := impl_VersionOk (.agg #[.slice va M.length vp, .int .i64 d.x2, .int .i64 d.x3, .int .i64 d.x4]) (vc M d.x2 d.x3 d.x4) wc (by show M.length ≤ 1048576; omega) (hIs _ (Below.refl _ _))
    have HAC := hide hac
    have HSZ := hide (@versB_sizes (vc M d.x2 d.x3 d.x4))
    obtain ⟨mb, hmb⟩ : ∃ mb, versB (vc M d.x2 d.x3 d.x4) = mb := ⟨_, rfl⟩
    rw [hmb] at cV hab
    have HMB := hide hmb
    have HAB := hide hab
    have n0 := HN.out.cell 0
    have n1 := HN.out.cell 1
    have n2 := HN.out.cell 2
    have n3 := HN.out.cell 3
    simp only [List.getElem?_toArray, List.getElem?_cons_succ, List.getElem?_cons_zero] at n0 n1 n2 n3
    clear hmb hab hac hM1 hIs HG
    go_wp2_with fail
    refine cV.mono ?_
    rintro e w5 ⟨rfl, hb5⟩
    have HL5 := hide (HL.out.trans (hb5.mono HL.out.size))
    have hR5 := HR.out.next HL5.out
    have r0 := hR5.cell 0
    have r1 := hR5.cell 1
    have r2 := hR5.cell 2
    have r3 := hR5.cell 3
    have rf := hR5.free
    simp only [List.getElem?_toArray, List.getElem?_cons_succ, List.getElem?_cons_zero] at r0 r1 r2 r3
    have hN5 := (HN.out.next hb5).hid
    have HB5 := hide hb5
    clear hb5 cV n0 n1 n2 n3 hR5
    cases mb with
    | false =>
      have HLOW := hide (HB0.out.trans (HL5.out.mono HB0.out.size))
      have hle2 : w.heap.size ≤ w.heap.size + 1 + 1 := by omega
      have HC : Hid (apC c d = zeroV) := apC_no HAB.out
      clear HL HN HL5 hN5
      go_wp2
      refine bodyPost_ret (v := .tuple #[.agg #[.slice none 0 0, .int .i64 0, .int .i64 0, .int .i64 0], .bool false]) (by simp [results, Try.results12, go_sem, r0, r1, r2, r3]) rfl ⟨⟨_, by rw [HAB.out], by rw [HC.out]; exact zeroV_ownM _ _⟩, ?_⟩
      exact (((HLOW.out.setCell hle2 _).setCell hle2 _).setCell hle2 _).setCell hle2 _
    | true =>
      have cC := impl_copyVersion (.agg #[.slice va M.length vp, .int .i64 d.x2, .int .i64 d.x3, .int .i64 d.x4]) (vc M d.x2 d.x3 d.x4) w5 (by show M.length ≤ 1000; omega) (HSZ.out HMB.out).2 (HIS.out _ HB5.out)
      have n0 := hN5.out.cell 0
      have n1 := hN5.out.cell 1
      have n2 := hN5.out.cell 2
      have n3 := hN5.out.cell 3
      simp only [List.getElem?_toArray, List.getElem?_cons_succ, List.getElem?_cons_zero] at n0 n1 n2 n3
      clear r0 r1 r2 r3 rf
      go_wp2_with fail
      refine cC.mono ?_
      rintro e w6 ⟨⟨u, rfl, uv, ul, rfl, huo, huc⟩, hb6⟩
      obtain ⟨ua, up, rfl⟩ := huo.shape
      have HL6 := hide (HL5.out.trans (hb6.mono HL5.out.size))
      have hR6 := HR.out.next HL6.out
      have r0 := hR6.cell 0
      have r1 := hR6.cell 1
      have r2 := hR6.cell 2
      have r3 := hR6.cell 3
      have rf := hR6.free
      simp only [List.getElem?_toArray, List.getElem?_cons_succ, List.getElem?_cons_zero] at r0 r1 r2 r3
      have huc2 : vc M d.x2 d.x3 d.x4 = vc ul d.x2 d.x3 d.x4 := by
        have h := huc
        rw [show metasL (vc M d.x2 d.x3 d.x4).r0 (vc M d.x2 d.x3 d.x4).n0 = M from fnMeta_list M] at h
        exact h
      have HCC := hide ((HAC.out HMB.out).trans huc2)
      have HOU := huo.hid
      have b1 := hR6.set 0 (.slice ua ul.length up)
      have b2 := b1.set 1 (.int .i64 d.x2)
      have b3 := b2.set 2 (.int .i64 d.x3)
      have HOW := hide (show OwnMeta _ _ _ _ from rg_set (o := 3) (rg_set (rg_set (rg_set HOU.out hR6 (by decide) (.slice ua ul.length up)) b1 (by decide) (.int .i64 d.x2)) b2 (by decide) (.int .i64 d.x3)) b3 (by decide) (.int .i64 d.x4))
      have HLOW := hide (HB0.out.trans (HL6.out.mono HB0.out.size))
      have hle2 : w.heap.size ≤ w.heap.size + 1 + 1 := by omega
      have hbase : w.heap.size ≤ w5.heap.size := Nat.le_trans HB0.out.size HL5.out.size
      have x1 : (vc M d.x2 d.x3 d.x4).x1 = d.x2 := rfl
      have x2 : (vc M d.x2 d.x3 d.x4).x2 = d.x3 := rfl
      have x3 : (vc M d.x2 d.x3 d.x4).x3 = d.x4 := rfl
      have y1 : (vc (metasL (vc M d.x2 d.x3 d.x4).r0 (vc M d.x2 d.x3 d.x4).n0) (vc M d.x2 d.x3 d.x4).x1 (vc M d.x2 d.x3 d.x4).x2 (vc M d.x2 d.x3 d.x4).x3).x1 = d.x2 := rfl
      have y2 : (vc (metasL (vc M d.x2 d.x3 d.x4).r0 (vc M d.x2 d.x3 d.x4).n0) (vc M d.x2 d.x3 d.x4).x1 (vc M d.x2 d.x3 d.x4).x2 (vc M d.x2 d.x3 d.x4).x3).x2 = d.x3 := rfl
      have y3 : (vc (metasL (vc M d.x2 d.x3 d.x4).r0 (vc M d.x2 d.x3 d.x4).n0) (vc M d.x2 d.x3 d.x4).x1 (vc M d.x2 d.x3 d.x4).x2 (vc M d.x2 d.x3 d.x4).x3).x3 = d.x4 := rfl
      simp only [y1, y2, y3]
      clear hR6 huo huc huc2 b1 b2 b3 x1 x2 x3 y1 y2 y3 n0 n1 n2 n3 hN5 HN HL HL5 hb6 cC
      go_wp2
      refine bodyPost_ret (v := .tuple #[.agg #[.slice ua ul.length up, .int .i64 d.x2, .int .i64 d.x3, .int .i64 d.x4], .bool true]) (by simp [results, Try.results12, go_sem, r0, r1, r2, r3]) rfl ⟨⟨_, by rw [HAB.out], by rw [HCC.out]; exact ⟨_, ul, rfl, HOW.out.base hbase, rfl⟩⟩, ?_⟩
      exact (((HLOW.out.setCell hle2 _).setCell hle2 _).setCell hle2 _).setCell hle2 _

end Go.Proofs.Ytplbhgcibfajaaa

/- The marks that the laws lay into an edit: two rows, the marks going on; an edit as Apply of the program reads it. -/
namespace Go.Proofs.Ytplbhgcibfajaaa
set_option maxRecDepth 100000
open Go.RowKit Go.Deep

set_option linter.unusedVariables false in
theorem laws_markEdit (K0 : Nat) (kv : Int) (hkv : kv = (K0 : Int)) (hK : 1 ≤ K0 ∧ K0 ≤ 30000000) (a0 : Option Addr) (p0 g0 : Nat) (a1 : Option Addr) (p1 g1 : Nat) (c : EditC) (w : World) (hl : c.Fit) (hg0 : c.n0 = 0 ∨ a0 = some ⟨g0, 0, none⟩) (hw0 : ∀ j, j < c.n0 * 5 → (∃ v, w.cell? ⟨g0, j, none⟩ = some v) ∧ w.frozen? ⟨g0, j, none⟩ = false)
    (hg1 : c.n1 = 0 ∨ a1 = some ⟨g1, 0, none⟩) (hw1 : ∀ j, j < c.n1 → (∃ v, w.cell? ⟨g1, j, none⟩ = some v) ∧ w.frozen? ⟨g1, j, none⟩ = false) (hne : g1 ≠ g0) (h0l : g0 < w.heap.size) (h1l : g1 < w.heap.size) :
    Calls Try.prog 16 #[.agg #[.slice a0 c.n0 p0, .slice a1 c.n1 p1, .int .i64 c.x2, .int .i64 c.x3, .int .i64 c.x4], .int .i64 kv] w fun e w' => e = .returned (.int .i64 ((K0 + c.n0 * 5 + c.n1 : Nat) : Int)) ∧ ∃ wm, Mv g0 w wm ∧ Mv g1 wm w' := by
  obtain ⟨hl0, hl1⟩ := hl
  have hb := below_one w (.cells #[.slice a0 c.n0 p0, .slice a1 c.n1 p1, .int .i64 c.x2, .int .i64 c.x3, .int .i64 c.x4] 37)
  have hB : BoxIs (w.alloc (.cells #[.slice a0 c.n0 p0, .slice a1 c.n1 p1, .int .i64 c.x2, .int .i64 c.x3, .int .i64 c.x4] 37)) w.heap.size #[.slice a0 c.n0 p0, .slice a1 c.n1 p1, .int .i64 c.x2, .int .i64 c.x3, .int .i64 c.x4] 37 := BoxIs.new _ _ _ rfl
  have up : ∀ g n, g < w.heap.size → (∀ j, j < n → (∃ v, w.cell? ⟨g, j, none⟩ = some v) ∧ w.frozen? ⟨g, j, none⟩ = false) → ∀ j, j < n → (∃ v, (w.alloc (.cells #[.slice a0 c.n0 p0, .slice a1 c.n1 p1, .int .i64 c.x2, .int .i64 c.x3, .int .i64 c.x4] 37)).cell? ⟨g, j, none⟩ = some v) ∧ (w.alloc (.cells #[.slice a0 c.n0 p0, .slice a1 c.n1 p1, .int .i64 c.x2, .int .i64 c.x3, .int .i64 c.x4] 37)).frozen? ⟨g, j, none⟩ = false := fun g n hg h j hj => by
    obtain ⟨⟨v, hv⟩, hf⟩ := h j hj
    exact ⟨⟨v, keepc hb hv⟩, (hb.frozen (p := ⟨g, j, none⟩) hg).trans hf⟩
  have hv0 := up g0 _ h0l hw0
  have hv1 := up g1 _ h1l hw1
  have HM := hide (Mv.of_below (g := g0) hb)
  have HB := hB.hid
  have hWl : w.heap.size < (w.alloc (.cells #[.slice a0 c.n0 p0, .slice a1 c.n1 p1, .int .i64 c.x2, .int .i64 c.x3, .int .i64 c.x4] 37)).heap.size := hB.lt
  subst hkv
  clear hw0 hw1 hb hB up
  go_enter Try.func16, Try.ntmps16
  go_wp2_with fail
  generalize w.alloc (.cells #[.slice a0 c.n0 p0, .slice a1 c.n1 p1, .int .i64 c.x2, .int .i64 c.x3, .int .i64 c.x4] 37) = W at hv0 hv1 HM HB hWl ⊢
  refine (laws_markMetaS K0 _ rfl ⟨hK.1, by omega⟩ a0 c.n0 p0 g0 W hl0 hg0 hv0).mono ?_
  rintro e w1 ⟨rfl, hM⟩
  have hmv := hM.mv
  have HM1 := hide (HM.out.trans hmv)
  have HB1 := (HB.out.mv hmv (by omega)).hid
  have hx1 : ∀ j, j < c.n1 → (∃ v, w1.cell? ⟨g1, j, none⟩ = some v) ∧ w1.frozen? ⟨g1, j, none⟩ = false := fun j hj => by
    obtain ⟨⟨v, hv⟩, hf⟩ := hv1 j hj
    exact ⟨⟨v, (hmv.cell (p := ⟨g1, j, none⟩) (Nat.lt_trans h1l hWl) hne).trans hv⟩, (hmv.frozen (p := ⟨g1, j, none⟩) (Nat.lt_trans h1l hWl) hne).trans hf⟩
  have hs1 := hmv.size
  clear hM hmv hv0 hv1 HM HB
  have k0 := HB1.out.cell 0
  have k1 := HB1.out.cell 1
  have k2 := HB1.out.cell 2
  have k3 := HB1.out.cell 3
  have k4 := HB1.out.cell 4
  go_wp2_with fail
  clear k0 k1 k2 k3 k4
  refine (laws_markInt64S (K0 + c.n0 * 5) _ rfl ⟨by omega, by omega⟩ a1 c.n1 p1 g1 w1 hl1 hg1 hx1).mono ?_
  rintro e w2 ⟨rfl, hM⟩
  have HM2 := hide hM.mv
  clear hM hx1
  go_wp2
  go_ret
  exact ⟨rfl, _, HM1.out, HM2.out⟩

/-- A row that an answer owns stays where a box of another type is written. -/
theorem Mine.setBox {w : World} {B : Nat} {ty t : TypeId} {k N : Nat} {a : Option Addr} {p n : Nat} {f : Nat → Value} {cs : Array Value} (h : Mine w B ty k a p n f) (hb : BoxIs w N cs t) (hne : t ≠ ty) (j : Nat) (v : Value) : Mine (w.setCell ⟨N, j, none⟩ v) B ty k a p n f := by
  rcases h with h | ⟨g, cur, ha, hB, hh, hn, hc⟩
  · exact .inl h
  · have hg : N ≠ g := fun e => by
      subst e
      have h1 : w.heap[N]? = some (.cells cs t) := hb
      rw [h1] at hh
      simp only [Option.some.injEq, Obj.cells.injEq] at hh
      exact hne hh.2.1
    exact .inr ⟨g, cur, ha, hB, (show BoxIs w g cur ty from hh).set_other (p := ⟨N, j, none⟩) hg v, hn, hc⟩

theorem EditSrc.is {w : World} {v : Value} {d : EditC} (h : EditSrc w v d) : EditIs w v d := by
  obtain ⟨b0, q0, b1, q1, rfl, h0, h1, _⟩ := h
  exact ⟨b0, q0, b1, q1, rfl, h0, h1⟩
theorem EditSrc.hid {w : World} {v : Value} {d : EditC} (h : EditSrc w v d) : Hid (EditSrc w v d) := h
theorem EditSrc.of_rows {w : World} {c : EditC} {g0 g1 : Nat} (h0 : w.rowIs g0 59 (c.n0 * 5) (metaCell c.r0)) (h1 : w.rowIs g1 2 c.n1 (fun i => .int .i64 (c.r1 i))) : EditSrc w (.agg #[.slice (some ⟨g0, 0, none⟩) c.n0 c.n0, .slice (some ⟨g1, 0, none⟩) c.n1 c.n1, .int .i64 c.x2, .int .i64 c.x3, .int .i64 c.x4]) c :=
  ⟨_, _, _, _, rfl, metaAt_row h0 h0.lt, intAt_row h1 h1.lt, .inr ⟨g1, c.n1, by rw [cutsL_len], h1.lt, fun i hi => by
    rw [cutsL_len] at hi
    have hc := h1.cell hi
    simpa [cutsL, List.getD, hi] using hc⟩⟩

theorem spec_ApplyO (v e : Value) (c : VersionC) (d : EditC) (w : World) (hf : c.Fit) (hg : d.Fit) (hv : VersionIs w v c) (he : EditIs w e d) :
    Calls Try.prog 9 #[v, e] w fun x w' => (∃ u, x = .returned (.tuple #[u, .bool (apB c d)]) ∧ VersionOwn w' w.heap.size u (apC c d)) ∧ Below w.heap.size w w' :=
  (spec_Apply v e c d w hf hg hv he).mono (by rintro x w' ⟨⟨u, hu, ho⟩, hb⟩; exact ⟨⟨u, hu, ho.own⟩, hb⟩)
theorem impl_ApplyO (v e : Value) (c : VersionC) (d : EditC) (w : World) (hf : c.Fit) (hg : d.Fit) (hv : VersionIs w v c) (he : EditSrc w e d) :
    Calls Try.prog 12 #[v, e] w fun x w' => (∃ u, x = .returned (.tuple #[u, .bool (apB c d)]) ∧ VersionOwn w' w.heap.size u (apC c d)) ∧ Below w.heap.size w w' :=
  (impl_Apply v e c d w hf hg hv he).mono (by rintro x w' ⟨⟨u, hu, ho⟩, hb⟩; exact ⟨⟨u, hu, ho.own⟩, hb⟩)

theorem apC_fit (c : VersionC) (d : EditC) : (apC c d).Fit := by
  unfold apC
  by_cases h : apB c d = true
  · rw [if_pos h]
    have hv : versB (apV c d) = true := by unfold apB at h; simp only [Bool.and_eq_true] at h; exact h.2
    have := (versB_sizes hv).1
    unfold VersionC.Fit
    omega
  · rw [if_neg h]
    show (0 : Nat) ≤ 1048576
    omega

end Go.Proofs.Ytplbhgcibfajaaa

/- Rows of edits: those that came in, the copies that the laws make, their size, that two are alike; the marks that the laws lay into them. (By gen_edits.py.) -/
namespace Go.Proofs.Ytplbhgcibfajaaa
set_option maxRecDepth 100000
open Go.RowKit Go.Deep

theorem laws_szMetaT (a : Option Addr) (len cap : Nat) (O : Metas) (l : Int) (w : World) (hl : len ≤ maxLen) (hs : ∀ i, i < len → (O.F i).size ≤ maxLen ∧ (O.Z i).size ≤ maxLen) (h0 : 0 ≤ l) (h1 : l ≤ 1048576) (hS : MetaAt w w.heap.size a len O) :
    Calls Try.prog 29 #[.slice a len cap, .int .i64 l] w fun e w' => (∃ r : Int, e = .returned (.int .i64 r) ∧ (r < 0 ∨ (0 ≤ r ∧ r + len ≤ l))) ∧ Below w.heap.size w w' := by
  unfold maxLen at hl
  have HSz : Hid (∀ i, i < len → (O.F i).size ≤ maxLen ∧ (O.Z i).size ≤ maxLen) := hs
  clear hs
  by_cases hbig : l < (len : Int)
  · have hx : l - (len : Int) < 0 := by omega
    go_enter Try.func29, Try.ntmps29
    go_wp2
    go_ret
    exact ⟨⟨-1, rfl, .inl (by omega)⟩, Below.refl _ _⟩
  · have hx : ¬ (l - (len : Int) < 0) := by omega
    have HS : Hid (MetaAt w w.heap.size a len O) := hS
    have HB0 : Hid (Below w.heap.size w w) := Below.refl _ _
    clear hS
    go_enter Try.func29, Try.ntmps29
    go_wp2
    go_loopw [1, 5] (fun r i wr => ∃ (k : Nat) (x : Int), r = .int .i64 x ∧ i = .int .i64 k ∧ k ≤ len ∧ 0 ≤ x ∧ x + len ≤ l ∧ Hid (Below w.heap.size w wr)) (fun _ i _ => len - (intOf i).toNat)
    case atStart => exact ⟨0, l - len, rfl, rfl, by omega, by omega, by omega, HB0⟩
    case round =>
      obtain ⟨k, x, rfl, rfl, hk, hx0, hx1, HB⟩ := hrel
      clear HB0
      by_cases hlt : k < len
      · obtain ⟨b, off, rfl, hb, c0, c1, c2, c3, c4⟩ := (HS.out.below HB.out).at hlt
        obtain ⟨z0, z1⟩ := HSz.out k hlt
        unfold maxLen at z0 z1
        by_cases hneg : x < (O.F k).size + (O.Z k).size
        · go_wp2_with fail
          refine (calls_from HB.out (laws_szMeta (O.N k) (O.L k) (O.F k) (O.Z k) (O.C k) x (by unfold maxLen; omega) (by unfold maxLen; omega) ⟨hx0, by omega⟩ _)).mono ?_
          rintro e w1 ⟨rfl, hB1⟩
          have HB1 : Hid _ := hB1
          clear hB1 c0 c1 c2 c3 c4
          go_wp2
          go_ret
          exact ⟨⟨-1, rfl, .inl (by omega)⟩, HB1⟩
        · have hneg' : ¬ (x - ((O.F k).size : Int) - ((O.Z k).size : Int) < 0) := by omega
          go_wp2_with fail
          refine (calls_from HB.out (laws_szMeta (O.N k) (O.L k) (O.F k) (O.Z k) (O.C k) x (by unfold maxLen; omega) (by unfold maxLen; omega) ⟨hx0, by omega⟩ _)).mono ?_
          rintro e w1 ⟨rfl, hB1⟩
          have HB1 : Hid (Below w.heap.size w w1) := hB1
          clear hB1 c0 c1 c2 c3 c4
          go_wp2
          exact ⟨⟨k + 1, x - (O.F k).size - (O.Z k).size, by rw [if_neg (by omega)], by go_num, by omega, by omega, by omega, HB1⟩, by simp [intOf]; omega⟩
      · obtain rfl : k = len := by omega
        go_wp2
        go_ret
        exact ⟨⟨x, rfl, Or.inr ⟨by omega, by omega⟩⟩, HB.out⟩

theorem laws_szInt64T (a : Option Addr) (len cap : Nat) (S : Nat → Int) (l : Int) (w : World) (hl : len ≤ maxLen) (h0 : 0 ≤ l) (h1 : l ≤ 1048576) (_hS : IntAt w w.heap.size a len S) :
    Calls Try.prog 30 #[.slice a len cap, .int .i64 l] w fun e w' => (∃ r : Int, e = .returned (.int .i64 r) ∧ (r < 0 ∨ (0 ≤ r ∧ r + len ≤ l))) ∧ Below w.heap.size w w' := by
  unfold maxLen at hl
  by_cases hbig : l < (len : Int)
  · have hx : l - (len : Int) < 0 := by omega
    go_enter Try.func30, Try.ntmps30
    go_wp2
    go_ret
    exact ⟨⟨-1, rfl, Or.inl (by omega)⟩, Below.refl _ _⟩
  · have hx : ¬ (l - (len : Int) < 0) := by omega
    go_enter Try.func30, Try.ntmps30
    go_wp2
    go_ret
    exact ⟨⟨l - len, rfl, by omega⟩, Below.refl _ _⟩

set_option linter.unusedVariables false in
set_option maxHeartbeats 1000000 in
theorem laws_szEditT (v : Value) (c : EditC) (l : Int) (w : World) (hs : c.Small) (h0 : 0 ≤ l) (h1 : l ≤ 1048576) (hv : EditIs w v c) :
    Calls Try.prog 8 #[v, .int .i64 l] w fun e w' => (∃ r : Int, e = .returned (.int .i64 r) ∧ (r < 0 ∨ (0 ≤ r ∧ r + c.n0 + c.n1 ≤ l))) ∧ Below w.heap.size w w' := by
  obtain ⟨a0, p0, a1, p1, rfl, hS0, hS1⟩ := hv
  obtain ⟨hn0, hz0, hn1⟩ := hs
  have hb0 := (Below.refl w.heap.size w).alloc (Nat.le_refl _) (.cells #[.slice a0 c.n0 p0, .slice a1 c.n1 p1, .int .i64 c.x2, .int .i64 c.x3, .int .i64 c.x4] 27)
  have hK : BoxIs (w.alloc (.cells #[.slice a0 c.n0 p0, .slice a1 c.n1 p1, .int .i64 c.x2, .int .i64 c.x3, .int .i64 c.x4] 27)) w.heap.size #[.slice a0 c.n0 p0, .slice a1 c.n1 p1, .int .i64 c.x2, .int .i64 c.x3, .int .i64 c.x4] 27 := BoxIs.new w _ _ rfl
  have HS0 : Hid (MetaAt (w.alloc (.cells #[.slice a0 c.n0 p0, .slice a1 c.n1 p1, .int .i64 c.x2, .int .i64 c.x3, .int .i64 c.x4] 27)) (w.alloc (.cells #[.slice a0 c.n0 p0, .slice a1 c.n1 p1, .int .i64 c.x2, .int .i64 c.x3, .int .i64 c.x4] 27)).heap.size a0 c.n0 c.r0) := (hS0.below hb0).mono hb0.size
  have HS1 : Hid (IntAt (w.alloc (.cells #[.slice a0 c.n0 p0, .slice a1 c.n1 p1, .int .i64 c.x2, .int .i64 c.x3, .int .i64 c.x4] 27)) (w.alloc (.cells #[.slice a0 c.n0 p0, .slice a1 c.n1 p1, .int .i64 c.x2, .int .i64 c.x3, .int .i64 c.x4] 27)).heap.size a1 c.n1 c.r1) := (hS1.below hb0).mono hb0.size
  clear hS0 hS1
  go_enter Try.func8, Try.ntmps8
  go_wp2_with fail
  generalize w.alloc (.cells #[.slice a0 c.n0 p0, .slice a1 c.n1 p1, .int .i64 c.x2, .int .i64 c.x3, .int .i64 c.x4] 27) = W at hb0 hK HS0 HS1 ⊢
  refine (laws_szMetaT a0 c.n0 p0 c.r0 l W hn0 hz0 h0 (by omega) HS0.out).mono ?_
  rintro e w0 ⟨⟨r0, rfl, hr0⟩, hB0⟩
  have HB0 : Hid (Below w.heap.size w w0) := hb0.trans (hB0.mono hb0.size)
  have HK0 := (BoxIs.next hK hB0).hid
  have HS1 := ((HS1.out.below hB0).mono hB0.size).hid
  clear hB0
  rcases hr0 with hr0 | ⟨hq0, hp0⟩
  · go_wp2
    go_ret
    exact ⟨⟨-1, rfl, .inl (by omega)⟩, HB0.out⟩
  · have hg0 : ¬ (r0 < 0) := by omega
    have k0 := HK0.out.cell 0
    have k1 := HK0.out.cell 1
    have k2 := HK0.out.cell 2
    have k3 := HK0.out.cell 3
    have k4 := HK0.out.cell 4
    go_wp2_with fail
    clear k0 k1 k2 k3 k4
    refine (laws_szInt64T a1 c.n1 p1 c.r1 r0 w0 hn1 hq0 (by omega) HS1.out).mono ?_
    rintro e w1 ⟨⟨r1, rfl, hr1⟩, hB1⟩
    have HB1 : Hid (Below w.heap.size w w1) := HB0.out.trans (hB1.mono HB0.out.size)
    have HK1 := (BoxIs.next HK0.out hB1).hid
    clear hB1
    rcases hr1 with hr1 | ⟨hq1, hp1⟩
    · go_wp2
      go_ret
      exact ⟨⟨-1, rfl, .inl (by omega)⟩, HB1.out⟩
    · have hg1 : ¬ (r1 < 0) := by omega
      go_wp2
      go_ret
      exact ⟨⟨r1, rfl, Or.inr ⟨hq1, by omega⟩⟩, HB1.out⟩

/-- A row of n edits, in memory below block B. -/
def EditsAt (w : World) (B : Nat) (a : Option Addr) (n : Nat) (E : Nat → EditC) : Prop :=
  n = 0 ∨ ∃ b off, a = some ⟨b, off, none⟩ ∧ b < B ∧ ∀ i, i < n → ∃ a0 p0 a1 p1, (w.cell? ⟨b, off + i * 5, none⟩ = some (.slice a0 (E i).n0 p0) ∧ w.cell? ⟨b, off + i * 5 + 1, none⟩ = some (.slice a1 (E i).n1 p1) ∧ w.cell? ⟨b, off + i * 5 + 2, none⟩ = some (.int .i64 (E i).x2) ∧ w.cell? ⟨b, off + i * 5 + 3, none⟩ = some (.int .i64 (E i).x3) ∧ w.cell? ⟨b, off + i * 5 + 4, none⟩ = some (.int .i64 (E i).x4)) ∧ MetaAt w B a0 (E i).n0 (E i).r0 ∧ IntAt w B a1 (E i).n1 (E i).r1
theorem EditsAt.below {w w' : World} {B : Nat} {a : Option Addr} {n : Nat} {E : Nat → EditC} (h : EditsAt w B a n E) (hb : Below B w w') : EditsAt w' B a n E := by
  rcases h with h | ⟨b, off, e, hB, hc⟩
  · exact .inl h
  · refine .inr ⟨b, off, e, hB, fun i hi => ?_⟩
    obtain ⟨a0, p0, a1, p1, ⟨c0, c1, c2, c3, c4⟩, h1, h2⟩ := hc i hi
    exact ⟨a0, p0, a1, p1, ⟨(hb.cell (p := ⟨b, _, none⟩) hB).trans c0, (hb.cell (p := ⟨b, _, none⟩) hB).trans c1, (hb.cell (p := ⟨b, _, none⟩) hB).trans c2, (hb.cell (p := ⟨b, _, none⟩) hB).trans c3, (hb.cell (p := ⟨b, _, none⟩) hB).trans c4⟩, h1.below hb, h2.below hb⟩
theorem EditsAt.mono {w : World} {B B' : Nat} {a : Option Addr} {n : Nat} {E : Nat → EditC} (h : EditsAt w B a n E) (hB : B ≤ B') : EditsAt w B' a n E := by
  rcases h with h | ⟨b, off, e, hb, hc⟩
  · exact .inl h
  · refine .inr ⟨b, off, e, by omega, fun i hi => ?_⟩
    obtain ⟨a0, p0, a1, p1, h0, h1, h2⟩ := hc i hi
    exact ⟨a0, p0, a1, p1, h0, h1.mono hB, h2.mono hB⟩
theorem EditsAt.next {w w' : World} {a : Option Addr} {n : Nat} {E : Nat → EditC} (h : EditsAt w w.heap.size a n E) (hb : Below w.heap.size w w') : EditsAt w' w'.heap.size a n E := (h.below hb).mono hb.size
theorem EditsAt.hid {w : World} {B : Nat} {a : Option Addr} {n : Nat} {E : Nat → EditC} (h : EditsAt w B a n E) : Hid (EditsAt w B a n E) := h
theorem EditsAt.at {w : World} {B : Nat} {a : Option Addr} {n : Nat} {E : Nat → EditC} (h : EditsAt w B a n E) {i : Nat} (hi : i < n) :
    ∃ b off a0 p0 a1 p1, a = some ⟨b, off, none⟩ ∧ b < B ∧ (w.cell? ⟨b, off + i * 5, none⟩ = some (.slice a0 (E i).n0 p0) ∧ w.cell? ⟨b, off + i * 5 + 1, none⟩ = some (.slice a1 (E i).n1 p1) ∧ w.cell? ⟨b, off + i * 5 + 2, none⟩ = some (.int .i64 (E i).x2) ∧ w.cell? ⟨b, off + i * 5 + 3, none⟩ = some (.int .i64 (E i).x3) ∧ w.cell? ⟨b, off + i * 5 + 4, none⟩ = some (.int .i64 (E i).x4)) ∧ MetaAt w B a0 (E i).n0 (E i).r0 ∧ IntAt w B a1 (E i).n1 (E i).r1 := by
  rcases h with h | ⟨b, off, e, hb, hc⟩
  · omega
  · obtain ⟨a0, p0, a1, p1, h0, h1, h2⟩ := hc i hi
    exact ⟨b, off, a0, p0, a1, p1, e, hb, h0, h1, h2⟩

/-- The lengths of the first k edits' rows; how many cells their marks take. -/
def edLen (E : Nat → EditC) : Nat → Nat
  | 0 => 0
  | k + 1 => edLen E k + (E k).n0 + (E k).n1
def edSum (E : Nat → EditC) : Nat → Nat
  | 0 => 0
  | k + 1 => edSum E k + (E k).n0 * 5 + (E k).n1 + 3
theorem edSum_le (E : Nat → EditC) : ∀ k, edSum E k ≤ 5 * edLen E k + 3 * k
  | 0 => by simp [edSum, edLen]
  | k + 1 => by have := edSum_le E k; rw [edSum, edLen]; omega
theorem edLen_at (E : Nat → EditC) {i : Nat} : ∀ {k : Nat}, i < k → (E i).n0 + (E i).n1 ≤ edLen E k
  | 0, h => by omega
  | k + 1, h => by
    rw [edLen]
    rcases Nat.lt_or_eq_of_le (Nat.lt_succ_iff.1 h) with h1 | rfl
    · have := edLen_at E h1; omega
    · omega
/-- What the laws let by. -/
def EditsFit (n : Nat) (E : Nat → EditC) : Prop := edLen E n + n ≤ 1048576
theorem EditsFit.at {n : Nat} {E : Nat → EditC} (h : EditsFit n E) {i : Nat} (hi : i < n) : (E i).Fit := by
  have := edLen_at E hi
  unfold EditsFit at h
  exact ⟨by omega, by omega⟩

set_option linter.unusedVariables false in
set_option maxHeartbeats 1000000 in
theorem laws_szEditS (a : Option Addr) (n cap : Nat) (E : Nat → EditC) (l : Int) (w : World) (hn : n ≤ maxLen) (hs : ∀ i, i < n → (E i).Small) (h0 : 0 ≤ l) (h1 : l ≤ 1048576) (hS : EditsAt w w.heap.size a n E) :
    Calls Try.prog 18 #[.slice a n cap, .int .i64 l] w fun e w' => (∃ r : Int, e = .returned (.int .i64 r) ∧ (r < 0 ∨ (0 ≤ r ∧ r ≤ l ∧ EditsFit n E))) ∧ Below w.heap.size w w' := by
  unfold maxLen at hn
  have HSz := hide hs
  clear hs
  by_cases hbig : l < (n : Int)
  · have hx : l - (n : Int) < 0 := by omega
    go_enter Try.func18, Try.ntmps18
    go_wp2
    go_ret
    exact ⟨⟨-1, rfl, .inl (by omega)⟩, Below.refl _ _⟩
  · have hx : ¬ (l - (n : Int) < 0) := by omega
    have HS := hS.hid
    have HB0 : Hid (Below w.heap.size w w) := Below.refl _ _
    clear hS
    go_enter Try.func18, Try.ntmps18
    go_wp2
    go_loopw [1, 5] (fun r i wr => ∃ (k : Nat) (x : Int), r = .int .i64 x ∧ i = .int .i64 k ∧ k ≤ n ∧ 0 ≤ x ∧ x + n + edLen E k ≤ l ∧ Hid (Below w.heap.size w wr)) (fun _ i _ => n - (intOf i).toNat)
    case atStart => exact ⟨0, l - n, rfl, rfl, by omega, by omega, by simp [edLen], HB0⟩
    case round =>
      obtain ⟨k, x, rfl, rfl, hk, hx0, hx1, HB⟩ := hrel
      clear HB0
      by_cases hlt : k < n
      · obtain ⟨b, off, a0, p0, a1, p1, rfl, hb, ⟨c0, c1, c2, c3, c4⟩, hM, hI⟩ := (HS.out.next HB.out).at hlt
        have hki : (k : Int) < (n : Int) := by omega
        have HE := hide (⟨a0, p0, a1, p1, rfl, hM, hI⟩ : EditIs wr (.agg #[.slice a0 (E k).n0 p0, .slice a1 (E k).n1 p1, .int .i64 (E k).x2, .int .i64 (E k).x3, .int .i64 (E k).x4]) (E k))
        have hsm := HSz.out k hlt
        have hel : edLen E (k + 1) = edLen E k + (E k).n0 + (E k).n1 := rfl
        clear hM hI
        go_wp2_with fail
        refine (laws_szEditT _ (E k) x wr hsm hx0 (by omega) HE.out).mono ?_
        rintro e w1 ⟨⟨r, rfl, hr⟩, hB1⟩
        have HB1 := hide (HB.out.trans (hB1.mono HB.out.size))
        clear hB1 c0 c1 c2 c3 c4 hsm
        rcases hr with hr | ⟨hr0, hr1⟩
        · go_wp2
          go_ret
          exact ⟨⟨-1, rfl, .inl (by omega)⟩, HB1.out⟩
        · have hr3 : ¬ (r < 0) := by omega
          have hr4 : r + n + edLen E (k + 1) ≤ l := by omega
          clear hr1 hel hx1
          go_wp2
          exact ⟨⟨k + 1, r, rfl, by go_num, by omega, hr0, hr4, HB1⟩, by simp [intOf]; omega⟩
      · obtain rfl : k = n := by omega
        have HFF : Hid (EditsFit k E) := by show _ ≤ _; omega
        have hxl : x ≤ l := by omega
        clear hx1
        go_wp2
        go_ret
        exact ⟨⟨x, rfl, .inr ⟨hx0, hxl, HFF.out⟩⟩, HB.out⟩

/-- Cell i of a row of edits whose rows lie in blocks of their own. -/
def edCell (E : Nat → EditC) (G0 G1 : Nat → Nat) (i : Nat) : Value :=
  if i % 5 = 0 then .slice (some ⟨G0 (i / 5), 0, none⟩) (E (i / 5)).n0 (E (i / 5)).n0 else if i % 5 = 1 then .slice (some ⟨G1 (i / 5), 0, none⟩) (E (i / 5)).n1 (E (i / 5)).n1 else if i % 5 = 2 then .int .i64 (E (i / 5)).x2 else if i % 5 = 3 then .int .i64 (E (i / 5)).x3 else .int .i64 (E (i / 5)).x4
theorem edCell0 (E : Nat → EditC) (G0 G1 : Nat → Nat) (k : Nat) : edCell E G0 G1 (k * 5) = .slice (some ⟨G0 k, 0, none⟩) (E k).n0 (E k).n0 := by
  unfold edCell; rw [if_pos (by omega), show (k * 5) / 5 = k by omega]
theorem edCell1 (E : Nat → EditC) (G0 G1 : Nat → Nat) (k : Nat) : edCell E G0 G1 (k * 5 + 1) = .slice (some ⟨G1 k, 0, none⟩) (E k).n1 (E k).n1 := by
  unfold edCell; rw [if_neg (by omega), if_pos (by omega), show (k * 5 + 1) / 5 = k by omega]
theorem edCell2 (E : Nat → EditC) (G0 G1 : Nat → Nat) (k : Nat) : edCell E G0 G1 (k * 5 + 2) = .int .i64 (E k).x2 := by
  unfold edCell; rw [if_neg (by omega), if_neg (by omega), if_pos (by omega), show (k * 5 + 2) / 5 = k by omega]
theorem edCell3 (E : Nat → EditC) (G0 G1 : Nat → Nat) (k : Nat) : edCell E G0 G1 (k * 5 + 3) = .int .i64 (E k).x3 := by
  unfold edCell; rw [if_neg (by omega), if_neg (by omega), if_neg (by omega), if_pos (by omega), show (k * 5 + 3) / 5 = k by omega]
theorem edCell4 (E : Nat → EditC) (G0 G1 : Nat → Nat) (k : Nat) : edCell E G0 G1 (k * 5 + 4) = .int .i64 (E k).x4 := by
  unfold edCell; rw [if_neg (by omega), if_neg (by omega), if_neg (by omega), if_neg (by omega), show (k * 5 + 4) / 5 = k by omega]
theorem edCell_upd (E : Nat → EditC) (G0 G1 : Nat → Nat) (k g0 g1 i : Nat) (h : i < k * 5) : edCell E (fun j => if j = k then g0 else G0 j) (fun j => if j = k then g1 else G1 j) i = edCell E G0 G1 i := by
  unfold edCell
  have : ¬ i / 5 = k := by omega
  simp only [this, if_false]
def fillEd (E : Nat → EditC) (G0 G1 : Nat → Nat) (k : Nat) (i : Nat) : Value := if i < k * 5 then edCell E G0 G1 i else (#[Value.slice none 0 0, .slice none 0 0, .int .i64 0, .int .i64 0, .int .i64 0] : Array Value)[i % 5]!
theorem fillEd_step {w : World} {g n k : Nat} {t : TypeId} {E : Nat → EditC} {G0 G1 : Nat → Nat} (g0 g1 : Nat) (h : w.rowIs g t n (fillEd E G0 G1 k)) :
    ((((((((((w).setCell ⟨g, k * 5, none⟩ (.slice (some ⟨g0, 0, none⟩) (E k).n0 (E k).n0))).setCell ⟨g, k * 5 + 1, none⟩ (.slice (some ⟨g1, 0, none⟩) (E k).n1 (E k).n1))).setCell ⟨g, k * 5 + 2, none⟩ (.int .i64 (E k).x2))).setCell ⟨g, k * 5 + 3, none⟩ (.int .i64 (E k).x3))).setCell ⟨g, k * 5 + 4, none⟩ (.int .i64 (E k).x4)).rowIs g t n (fillEd E (fun j => if j = k then g0 else G0 j) (fun j => if j = k then g1 else G1 j) (k + 1)) := by
  refine (((((h.set (k * 5) _).set (k * 5 + 1) _).set (k * 5 + 2) _).set (k * 5 + 3) _).set (k * 5 + 4) _).congr fun i _ => ?_
  by_cases e4 : i = k * 5 + 4
  · subst e4; rw [if_pos rfl, fillEd, if_pos (by omega), edCell4]
  · rw [if_neg e4]
    by_cases e3 : i = k * 5 + 3
    · subst e3; rw [if_pos rfl, fillEd, if_pos (by omega), edCell3]
    · rw [if_neg e3]
      by_cases e2 : i = k * 5 + 2
      · subst e2; rw [if_pos rfl, fillEd, if_pos (by omega), edCell2]
      · rw [if_neg e2]
        by_cases e1 : i = k * 5 + 1
        · subst e1; rw [if_pos rfl, fillEd, if_pos (by omega), edCell1, if_pos rfl]
        · rw [if_neg e1]
          by_cases e0 : i = k * 5
          · subst e0; rw [if_pos rfl, fillEd, if_pos (by omega), edCell0, if_pos rfl]
          · rw [if_neg e0]
            unfold fillEd
            by_cases hl : i < k * 5
            · rw [if_pos hl, if_pos (by omega), edCell_upd _ _ _ _ _ _ _ hl]
            · rw [if_neg hl, if_neg (by omega)]
theorem madeEd_row (w : World) (n : Nat) (t : TypeId) (E : Nat → EditC) (G0 G1 : Nat → Nat) : (w.alloc (.cells (madeCells #[Value.slice none 0 0, .slice none 0 0, .int .i64 0, .int .i64 0, .int .i64 0] (n * 5)) t)).rowIs w.heap.size t (n * 5) (fillEd E G0 G1 0) := by
  have h := World.rowIs_alloc w (madeCells #[Value.slice none 0 0, .slice none 0 0, .int .i64 0, .int .i64 0, .int .i64 0] (n * 5)) t (fillEd E G0 G1 0) (fun i hi => by
    rw [size_madeCells] at hi
    unfold fillEd madeCells
    rw [if_neg (by omega)]
    simp [hi])
  rwa [size_madeCells] at h

/-- The copy of a row of edits, as far as it has come. -/
structure ECopy (w0 w : World) (g n k : Nat) (E : Nat → EditC) (G0 G1 : Nat → Nat) : Prop where
  row : w.rowIs g 37 (n * 5) (fillEd E G0 G1 k)
  each : ∀ i, i < k → g < G0 i ∧ G0 i < G1 i ∧ w.rowIs (G0 i) 59 ((E i).n0 * 5) (metaCell (E i).r0) ∧ w.rowIs (G1 i) 2 (E i).n1 (fun j => .int .i64 ((E i).r1 j))
  ord : ∀ i j, i < j → j < k → G1 i < G0 j
  low : Below w0.heap.size w0 w
  hg : w0.heap.size ≤ g
theorem ECopy.next {w0 w w' : World} {g n k : Nat} {E : Nat → EditC} {G0 G1 : Nat → Nat} (h : ECopy w0 w g n k E G0 G1) (hb : Below w.heap.size w w') : ECopy w0 w' g n k E G0 G1 :=
  ⟨entRow_below h.row hb h.row.lt, fun i hi => ⟨(h.each i hi).1, (h.each i hi).2.1, entRow_below (h.each i hi).2.2.1 hb (h.each i hi).2.2.1.lt, entRow_below (h.each i hi).2.2.2 hb (h.each i hi).2.2.2.lt⟩, h.ord, h.low.trans (hb.mono h.low.size), h.hg⟩
theorem rowIs_set5 {w : World} {g b n : Nat} {t : TypeId} {f : Nat → Value} (h : w.rowIs b t n f) (hne : g ≠ b) (o0 o1 o2 o3 o4 : Nat) (v0 v1 v2 v3 v4 : Value) : (((((w.setCell ⟨g, o0, none⟩ v0).setCell ⟨g, o1, none⟩ v1).setCell ⟨g, o2, none⟩ v2).setCell ⟨g, o3, none⟩ v3).setCell ⟨g, o4, none⟩ v4).rowIs b t n f :=
  rowIs_set (rowIs_set (rowIs_set (rowIs_set (rowIs_set h hne _) hne _) hne _) hne _) hne _
theorem ECopy.step {w0 w : World} {g n k g0 g1 : Nat} {E : Nat → EditC} {G0 G1 : Nat → Nat} (h : ECopy w0 w g n k E G0 G1) (hg : g < g0) (h01 : g0 < g1) (hnew : ∀ i, i < k → G1 i < g0) (hr0 : w.rowIs g0 59 ((E k).n0 * 5) (metaCell (E k).r0)) (hr1 : w.rowIs g1 2 (E k).n1 (fun j => .int .i64 ((E k).r1 j))) :
    ECopy w0 (((((w.setCell ⟨g, k * 5, none⟩ (.slice (some ⟨g0, 0, none⟩) (E k).n0 (E k).n0)).setCell ⟨g, k * 5 + 1, none⟩ (.slice (some ⟨g1, 0, none⟩) (E k).n1 (E k).n1)).setCell ⟨g, k * 5 + 2, none⟩ (.int .i64 (E k).x2)).setCell ⟨g, k * 5 + 3, none⟩ (.int .i64 (E k).x3)).setCell ⟨g, k * 5 + 4, none⟩ (.int .i64 (E k).x4)) g n (k + 1) E (fun j => if j = k then g0 else G0 j) (fun j => if j = k then g1 else G1 j) := by
  refine ⟨fillEd_step g0 g1 h.row, fun i hi => ?_, fun i j hij hj => ?_, ((((h.low.setCell (p := ⟨g, k * 5, none⟩) h.hg _).setCell (p := ⟨g, k * 5 + 1, none⟩) h.hg _).setCell (p := ⟨g, k * 5 + 2, none⟩) h.hg _).setCell (p := ⟨g, k * 5 + 3, none⟩) h.hg _).setCell (p := ⟨g, k * 5 + 4, none⟩) h.hg _, h.hg⟩
  · by_cases e : i = k
    · subst e
      simp only [if_true]
      exact ⟨hg, h01, rowIs_set5 hr0 (by omega) _ _ _ _ _ _ _ _ _ _, rowIs_set5 hr1 (by omega) _ _ _ _ _ _ _ _ _ _⟩
    · simp only [e, if_false]
      obtain ⟨q1, q2, q3, q4⟩ := h.each i (by omega)
      exact ⟨q1, q2, rowIs_set5 q3 (by omega) _ _ _ _ _ _ _ _ _ _, rowIs_set5 q4 (by omega) _ _ _ _ _ _ _ _ _ _⟩
  · have hi : i ≠ k := by omega
    simp only [hi, if_false]
    by_cases e : j = k
    · simp only [e, if_true]; exact hnew i (by omega)
    · simp only [e, if_false]; exact h.ord i j hij (by omega)
theorem ECopy.cells {w0 w : World} {g n : Nat} {E : Nat → EditC} {G0 G1 : Nat → Nat} (h : ECopy w0 w g n n E G0 G1) {i : Nat} (hi : i < n) :
    w.cell? ⟨g, i * 5, none⟩ = some (.slice (some ⟨G0 i, 0, none⟩) (E i).n0 (E i).n0) ∧ w.cell? ⟨g, i * 5 + 1, none⟩ = some (.slice (some ⟨G1 i, 0, none⟩) (E i).n1 (E i).n1) ∧ w.cell? ⟨g, i * 5 + 2, none⟩ = some (.int .i64 (E i).x2) ∧ w.cell? ⟨g, i * 5 + 3, none⟩ = some (.int .i64 (E i).x3) ∧ w.cell? ⟨g, i * 5 + 4, none⟩ = some (.int .i64 (E i).x4) := by
  refine ⟨?_, ?_, ?_, ?_, ?_⟩
  · rw [h.row.cell (by omega), fillEd, if_pos (by omega), edCell0]
  · rw [h.row.cell (by omega), fillEd, if_pos (by omega), edCell1]
  · rw [h.row.cell (by omega), fillEd, if_pos (by omega), edCell2]
  · rw [h.row.cell (by omega), fillEd, if_pos (by omega), edCell3]
  · rw [h.row.cell (by omega), fillEd, if_pos (by omega), edCell4]
theorem ECopy.at' {w0 w : World} {g n : Nat} {E : Nat → EditC} {G0 G1 : Nat → Nat} (h : ECopy w0 w g n n E G0 G1) : EditsAt w w.heap.size (some ⟨g, 0, none⟩) n E := by
  refine .inr ⟨g, 0, rfl, h.row.lt, fun i hi => ?_⟩
  obtain ⟨q1, q2, q3, q4⟩ := h.each i hi
  refine ⟨some ⟨G0 i, 0, none⟩, (E i).n0, some ⟨G1 i, 0, none⟩, (E i).n1, ?_, metaAt_row q3 q3.lt, intAt_row q4 q4.lt⟩
  rw [Nat.zero_add]
  exact h.cells hi

set_option linter.unusedVariables false in
set_option maxHeartbeats 2000000 in
theorem laws_toEditS (a : Option Addr) (n cap : Nat) (E : Nat → EditC) (w : World) (hf : EditsFit n E) (hS : EditsAt w w.heap.size a n E) :
    Calls Try.prog 20 #[.slice a n cap] w fun e w' => e = .returned (.slice (some ⟨w.heap.size, 0, none⟩) n n) ∧ ∃ G0 G1, ECopy w w' w.heap.size n n E G0 G1 := by
  have hn : n ≤ 1048576 := by unfold EditsFit at hf; omega
  have HL := hide (fun i (hi : i < n) => hf.at hi)
  have hi9 : (Try.prog.info? 37).map (fun i => (i.zero, i.size, i.bytes)) = some (some (.agg #[.slice none 0 0, .slice none 0 0, .int .i64 0, .int .i64 0, .int .i64 0]), 5, 72) := by kernel_rfl
  obtain ⟨i0, hi0, hz0, hz1, hz2⟩ := info_parts hi9
  have hmk : ∀ W : World, (Instr.makeSlice 48 (.int .i64 (n : Int)) (.int .i64 (n : Int))).run Try.prog W = .ok (.slice (some ⟨W.heap.size, 0, none⟩) n n) (W.alloc (.cells (madeCells #[Value.slice none 0 0, .slice none 0 0, .int .i64 0, .int .i64 0, .int .i64 0] (n * 5)) 37)) := fun W => by
    have := run_make (P := Try.prog) W 48 37 i0 _ Try.underlying48 hi0 hz0 .i64 .i64 n n (by omega) (Int.le_refl _) (by rw [hz2]; omega) (by omega)
    rw [hz1] at this
    simpa [Value.cells] using this
  have HR0 : Hid (ECopy w (w.alloc (.cells (madeCells #[Value.slice none 0 0, .slice none 0 0, .int .i64 0, .int .i64 0, .int .i64 0] (n * 5)) 37)) w.heap.size n 0 E (fun _ => 0) (fun _ => 0)) :=
    ⟨madeEd_row w n _ E _ _, fun i hi => absurd hi (by omega), fun i j _ hj => absurd hj (by omega), below_one w _, Nat.le_refl _⟩
  have HS := hS.hid
  clear hS hi9 hi0 hz0 hz1 hz2 hf
  go_enter Try.func20, Try.ntmps20
  go_wp2
  generalize w.alloc (.cells (madeCells #[Value.slice none 0 0, .slice none 0 0, .int .i64 0, .int .i64 0, .int .i64 0] (n * 5)) 37) = w0 at HR0 ⊢
  clear hmk
  go_loopw [4] (fun i wr => ∃ (k : Nat) (G0 G1 : Nat → Nat), i = .int .i64 k ∧ k ≤ n ∧ Hid (ECopy w wr w.heap.size n k E G0 G1)) (fun i _ => n - (intOf i).toNat)
  case atStart => exact ⟨0, _, _, rfl, by omega, HR0⟩
  case round =>
    obtain ⟨k, G0, G1, rfl, hk, HR⟩ := hrel
    clear HR0
    by_cases hlt : k < n
    · have hgl := HR.out.row.lt
      obtain ⟨b, off, a0, p0, a1, p1, rfl, hb, ⟨c0, c1, c2, c3, c4⟩, hM, hI⟩ := (HS.out.next HR.out.low).at hlt
      have hki : (k : Int) < (n : Int) := by omega
      have HE := hide (⟨a0, p0, a1, p1, rfl, hM, hI⟩ : EditIs wr (.agg #[.slice a0 (E k).n0 p0, .slice a1 (E k).n1 p1, .int .i64 (E k).x2, .int .i64 (E k).x3, .int .i64 (E k).x4]) (E k))
      have hold := fun i hi => (HR.out.each i hi).2.2.2.lt
      clear hM hI
      go_wp2_with fail
      refine (laws_toEdit _ (E k) wr (HL.out k hlt) HE.out).mono ?_
      rintro e w1 ⟨g0, g1, rfl, hg0, hr0, hg1, hr1, h01, hB1⟩
      have HR1 := hide (HR.out.next hB1)
      have d0 := HR1.out.row.cell (i := k * 5) (by omega)
      have d1 := HR1.out.row.cell (i := k * 5 + 1) (by omega)
      have d2 := HR1.out.row.cell (i := k * 5 + 2) (by omega)
      have d3 := HR1.out.row.cell (i := k * 5 + 3) (by omega)
      have d4 := HR1.out.row.cell (i := k * 5 + 4) (by omega)
      have hfr := HR1.out.row.frozen
      have HR2 := hide (HR1.out.step (by omega) h01 (fun i hi => by have := hold i hi; omega) hr0 hr1)
      clear hr0 hr1 hB1 HR HR1 c0 c1 c2 c3 c4 HE hold
      generalize fillEd E G0 G1 k (k * 5) = v0 at d0
      generalize fillEd E G0 G1 k (k * 5 + 1) = v1 at d1
      generalize fillEd E G0 G1 k (k * 5 + 2) = v2 at d2
      generalize fillEd E G0 G1 k (k * 5 + 3) = v3 at d3
      generalize fillEd E G0 G1 k (k * 5 + 4) = v4 at d4
      go_wp2
      exact ⟨⟨k + 1, _, _, by go_num, by omega, HR2⟩, by simp [intOf]; omega⟩
    · obtain rfl : k = n := by omega
      go_wp2
      go_ret
      exact ⟨rfl, G0, G1, HR.out⟩

theorem eqEdit_at {w x : World} {c : EditC} {a0 a1 b0 b1 : Option Addr} {p0 p1 q0 q1 : Nat} (hl : c.Fit) (hb : Below w.heap.size w x) (h0 : MetaAt w w.heap.size a0 c.n0 c.r0) (h1 : IntAt w w.heap.size a1 c.n1 c.r1) (k0 : MetaAt w w.heap.size b0 c.n0 c.r0) (k1 : IntAt w w.heap.size b1 c.n1 c.r1) :
    Calls Try.prog 14 #[.agg #[.slice a0 c.n0 p0, .slice a1 c.n1 p1, .int .i64 c.x2, .int .i64 c.x3, .int .i64 c.x4], .agg #[.slice b0 c.n0 q0, .slice b1 c.n1 q1, .int .i64 c.x2, .int .i64 c.x3, .int .i64 c.x4]] x fun e w' => e = .returned (.bool true) ∧ Below x.heap.size x w' :=
  laws_eqEdit _ _ c x hl ⟨a0, p0, a1, p1, rfl, h0.next hb, h1.next hb⟩ ⟨b0, q0, b1, q1, rfl, k0.next hb, k1.next hb⟩


set_option linter.unusedVariables false in
set_option maxHeartbeats 2000000 in
theorem laws_eqEditS (a b : Option Addr) (n ca cb : Nat) (E : Nat → EditC) (w : World) (hf : EditsFit n E) (ha : EditsAt w w.heap.size a n E) (hb : EditsAt w w.heap.size b n E) :
    Calls Try.prog 22 #[.slice a n ca, .slice b n cb] w fun e w' => e = .returned (.bool true) ∧ Below w.heap.size w w' := by
  have HA := ha.hid
  have HB := hb.hid
  have hn : n ≤ 1048576 := by unfold EditsFit at hf; omega
  have HL := hide (fun i (hi : i < n) => hf.at hi)
  clear ha hb hf
  have HB0 : Hid (Below w.heap.size w w) := Below.refl _ _
  go_enter Try.func22, Try.ntmps22
  go_wp2
  go_loopw [5] (fun i wr => ∃ k : Nat, i = .int .i64 k ∧ k ≤ n ∧ Hid (Below w.heap.size w wr)) (fun i _ => n - (intOf i).toNat)
  case atStart => exact ⟨0, rfl, by omega, HB0⟩
  case round =>
    obtain ⟨k, rfl, hk, HW⟩ := hrel
    clear HB0
    by_cases hlt : k < n
    · obtain ⟨b1, o1, a0, p0, a1, p1, rfl, hb1, ⟨c0, c1, c2, c3, c4⟩, hM1, hI1⟩ := (HA.out.next HW.out).at hlt
      obtain ⟨b2, o2, y0, q0, y1, q1, rfl, hb2, ⟨d0, d1, d2, d3, d4⟩, hM2, hI2⟩ := (HB.out.next HW.out).at hlt
      have hki : (k : Int) < (n : Int) := by omega
      have M1 := hide hM1
      have I1 := hide hI1
      have M2 := hide hM2
      have I2 := hide hI2
      have hstart : wr.drew.cell? ⟨b1, o1 + k * 5, none⟩ = some (.slice a0 (E k).n0 p0) ∧ wr.drew.cell? ⟨b1, o1 + k * 5 + 1, none⟩ = some (.slice a1 (E k).n1 p1) ∧ wr.drew.cell? ⟨b1, o1 + k * 5 + 2, none⟩ = some (.int .i64 (E k).x2) ∧ wr.drew.cell? ⟨b1, o1 + k * 5 + 3, none⟩ = some (.int .i64 (E k).x3) ∧ wr.drew.cell? ⟨b1, o1 + k * 5 + 4, none⟩ = some (.int .i64 (E k).x4) ∧ wr.drew.cell? ⟨b2, o2 + k * 5, none⟩ = some (.slice y0 (E k).n0 q0) ∧ wr.drew.cell? ⟨b2, o2 + k * 5 + 1, none⟩ = some (.slice y1 (E k).n1 q1) ∧ wr.drew.cell? ⟨b2, o2 + k * 5 + 2, none⟩ = some (.int .i64 (E k).x2) ∧ wr.drew.cell? ⟨b2, o2 + k * 5 + 3, none⟩ = some (.int .i64 (E k).x3) ∧ wr.drew.cell? ⟨b2, o2 + k * 5 + 4, none⟩ = some (.int .i64 (E k).x4) ∧ Hid (Below wr.heap.size wr wr.drew) ∧ Hid (Below w.heap.size w wr.drew) :=
        ⟨c0, c1, c2, c3, c4, d0, d1, d2, d3, d4, (Below.refl _ _).drew, HW.out.drew⟩
      clear c0 c1 c2 c3 c4 d0 d1 d2 d3 d4 hM1 hI1 hM2 hI2
      go_wp2_with fail
      go_region_held3 (fun (w' : World) => w'.cell? ⟨b1, o1 + k * 5, none⟩ = some (.slice a0 (E k).n0 p0) ∧ w'.cell? ⟨b1, o1 + k * 5 + 1, none⟩ = some (.slice a1 (E k).n1 p1) ∧ w'.cell? ⟨b1, o1 + k * 5 + 2, none⟩ = some (.int .i64 (E k).x2) ∧ w'.cell? ⟨b1, o1 + k * 5 + 3, none⟩ = some (.int .i64 (E k).x3) ∧ w'.cell? ⟨b1, o1 + k * 5 + 4, none⟩ = some (.int .i64 (E k).x4) ∧ w'.cell? ⟨b2, o2 + k * 5, none⟩ = some (.slice y0 (E k).n0 q0) ∧ w'.cell? ⟨b2, o2 + k * 5 + 1, none⟩ = some (.slice y1 (E k).n1 q1) ∧ w'.cell? ⟨b2, o2 + k * 5 + 2, none⟩ = some (.int .i64 (E k).x2) ∧ w'.cell? ⟨b2, o2 + k * 5 + 3, none⟩ = some (.int .i64 (E k).x3) ∧ w'.cell? ⟨b2, o2 + k * 5 + 4, none⟩ = some (.int .i64 (E k).x4) ∧ Hid (Below wr.heap.size wr w') ∧ Hid (Below w.heap.size w w')) (assumption)
        ((go_at_call 14; refine (held_callE (S := fun (w' : World) => w'.cell? ⟨b1, o1 + k * 5, none⟩ = some (.slice a0 (E k).n0 p0) ∧ w'.cell? ⟨b1, o1 + k * 5 + 1, none⟩ = some (.slice a1 (E k).n1 p1) ∧ w'.cell? ⟨b1, o1 + k * 5 + 2, none⟩ = some (.int .i64 (E k).x2) ∧ w'.cell? ⟨b1, o1 + k * 5 + 3, none⟩ = some (.int .i64 (E k).x3) ∧ w'.cell? ⟨b1, o1 + k * 5 + 4, none⟩ = some (.int .i64 (E k).x4) ∧ w'.cell? ⟨b2, o2 + k * 5, none⟩ = some (.slice y0 (E k).n0 q0) ∧ w'.cell? ⟨b2, o2 + k * 5 + 1, none⟩ = some (.slice y1 (E k).n1 q1) ∧ w'.cell? ⟨b2, o2 + k * 5 + 2, none⟩ = some (.int .i64 (E k).x2) ∧ w'.cell? ⟨b2, o2 + k * 5 + 3, none⟩ = some (.int .i64 (E k).x3) ∧ w'.cell? ⟨b2, o2 + k * 5 + 4, none⟩ = some (.int .i64 (E k).x4) ∧ Hid (Below wr.heap.size wr w') ∧ Hid (Below w.heap.size w w'))
          (fun wa wb h hx => ⟨(hx.cell (p := ⟨_, _, none⟩) (Nat.lt_of_lt_of_le hb1 h.2.2.2.2.2.2.2.2.2.2.1.out.size)).trans h.1, (hx.cell (p := ⟨_, _, none⟩) (Nat.lt_of_lt_of_le hb1 h.2.2.2.2.2.2.2.2.2.2.1.out.size)).trans h.2.1, (hx.cell (p := ⟨_, _, none⟩) (Nat.lt_of_lt_of_le hb1 h.2.2.2.2.2.2.2.2.2.2.1.out.size)).trans h.2.2.1, (hx.cell (p := ⟨_, _, none⟩) (Nat.lt_of_lt_of_le hb1 h.2.2.2.2.2.2.2.2.2.2.1.out.size)).trans h.2.2.2.1, (hx.cell (p := ⟨_, _, none⟩) (Nat.lt_of_lt_of_le hb1 h.2.2.2.2.2.2.2.2.2.2.1.out.size)).trans h.2.2.2.2.1, (hx.cell (p := ⟨_, _, none⟩) (Nat.lt_of_lt_of_le hb2 h.2.2.2.2.2.2.2.2.2.2.1.out.size)).trans h.2.2.2.2.2.1, (hx.cell (p := ⟨_, _, none⟩) (Nat.lt_of_lt_of_le hb2 h.2.2.2.2.2.2.2.2.2.2.1.out.size)).trans h.2.2.2.2.2.2.1, (hx.cell (p := ⟨_, _, none⟩) (Nat.lt_of_lt_of_le hb2 h.2.2.2.2.2.2.2.2.2.2.1.out.size)).trans h.2.2.2.2.2.2.2.1, (hx.cell (p := ⟨_, _, none⟩) (Nat.lt_of_lt_of_le hb2 h.2.2.2.2.2.2.2.2.2.2.1.out.size)).trans h.2.2.2.2.2.2.2.2.1, (hx.cell (p := ⟨_, _, none⟩) (Nat.lt_of_lt_of_le hb2 h.2.2.2.2.2.2.2.2.2.2.1.out.size)).trans h.2.2.2.2.2.2.2.2.2.1, h.2.2.2.2.2.2.2.2.2.2.1.out.trans (hx.mono h.2.2.2.2.2.2.2.2.2.2.1.out.size), h.2.2.2.2.2.2.2.2.2.2.2.out.trans (hx.mono h.2.2.2.2.2.2.2.2.2.2.2.out.size)⟩)
          (by assumption) (eqEdit_at (w := wr) (HL.out k hlt) ((fun (w' : World) (h : w'.cell? ⟨b1, o1 + k * 5, none⟩ = some (.slice a0 (E k).n0 p0) ∧ w'.cell? ⟨b1, o1 + k * 5 + 1, none⟩ = some (.slice a1 (E k).n1 p1) ∧ w'.cell? ⟨b1, o1 + k * 5 + 2, none⟩ = some (.int .i64 (E k).x2) ∧ w'.cell? ⟨b1, o1 + k * 5 + 3, none⟩ = some (.int .i64 (E k).x3) ∧ w'.cell? ⟨b1, o1 + k * 5 + 4, none⟩ = some (.int .i64 (E k).x4) ∧ w'.cell? ⟨b2, o2 + k * 5, none⟩ = some (.slice y0 (E k).n0 q0) ∧ w'.cell? ⟨b2, o2 + k * 5 + 1, none⟩ = some (.slice y1 (E k).n1 q1) ∧ w'.cell? ⟨b2, o2 + k * 5 + 2, none⟩ = some (.int .i64 (E k).x2) ∧ w'.cell? ⟨b2, o2 + k * 5 + 3, none⟩ = some (.int .i64 (E k).x3) ∧ w'.cell? ⟨b2, o2 + k * 5 + 4, none⟩ = some (.int .i64 (E k).x4) ∧ Hid (Below wr.heap.size wr w') ∧ Hid (Below w.heap.size w w')) => h.2.2.2.2.2.2.2.2.2.2.1.out) _ (by assumption)) M1.out I1.out M2.out I2.out)).mono ?_; rintro e w1 ⟨rfl, hS⟩))
      all_goals
        have HW2 : Hid (Below w.heap.size w w1) := hS.2.2.2.2.2.2.2.2.2.2.2
        clear hS hstart
        go_wp2
        exact ⟨⟨k + 1, by go_num, by omega, HW2⟩, by simp [intOf]; omega⟩
    · go_wp2
      go_ret
      exact ⟨rfl, HW.out⟩

end Go.Proofs.Ytplbhgcibfajaaa

/- Replay of both sides. (By gen_replay.py.) -/
namespace Go.Proofs.Ytplbhgcibfajaaa
set_option maxRecDepth 100000
open Go.RowKit Go.Deep

/-- A row of edits whose cuts can be sorted. -/
def EditsSrc (w : World) (a : Option Addr) (n : Nat) (E : Nat → EditC) : Prop :=
  n = 0 ∨ ∃ b off, a = some ⟨b, off, none⟩ ∧ b < w.heap.size ∧ ∀ i, i < n → ∃ a0 p0 a1 p1, (w.cell? ⟨b, off + i * 5, none⟩ = some (.slice a0 (E i).n0 p0) ∧ w.cell? ⟨b, off + i * 5 + 1, none⟩ = some (.slice a1 (E i).n1 p1) ∧ w.cell? ⟨b, off + i * 5 + 2, none⟩ = some (.int .i64 (E i).x2) ∧ w.cell? ⟨b, off + i * 5 + 3, none⟩ = some (.int .i64 (E i).x3) ∧ w.cell? ⟨b, off + i * 5 + 4, none⟩ = some (.int .i64 (E i).x4)) ∧ MetaAt w w.heap.size a0 (E i).n0 (E i).r0 ∧ IntAt w w.heap.size a1 (E i).n1 (E i).r1 ∧ IntSrc w (.slice a1 (E i).n1 p1) (cutsL (E i))
theorem EditsSrc.next {w w' : World} {a : Option Addr} {n : Nat} {E : Nat → EditC} (h : EditsSrc w a n E) (hb : Below w.heap.size w w') : EditsSrc w' a n E := by
  rcases h with h | ⟨b, off, e, hB, hc⟩
  · exact .inl h
  · refine .inr ⟨b, off, e, Nat.lt_of_lt_of_le hB hb.size, fun i hi => ?_⟩
    obtain ⟨a0, p0, a1, p1, ⟨c0, c1, c2, c3, c4⟩, h1, h2, h3⟩ := hc i hi
    exact ⟨a0, p0, a1, p1, ⟨(hb.cell (p := ⟨b, _, none⟩) hB).trans c0, (hb.cell (p := ⟨b, _, none⟩) hB).trans c1, (hb.cell (p := ⟨b, _, none⟩) hB).trans c2, (hb.cell (p := ⟨b, _, none⟩) hB).trans c3, (hb.cell (p := ⟨b, _, none⟩) hB).trans c4⟩, h1.next hb, h2.next hb, h3.next hb⟩
theorem EditsSrc.at {w : World} {a : Option Addr} {n : Nat} {E : Nat → EditC} (h : EditsSrc w a n E) {i : Nat} (hi : i < n) :
    ∃ b off a0 p0 a1 p1, a = some ⟨b, off, none⟩ ∧ b < w.heap.size ∧ (w.cell? ⟨b, off + i * 5, none⟩ = some (.slice a0 (E i).n0 p0) ∧ w.cell? ⟨b, off + i * 5 + 1, none⟩ = some (.slice a1 (E i).n1 p1) ∧ w.cell? ⟨b, off + i * 5 + 2, none⟩ = some (.int .i64 (E i).x2) ∧ w.cell? ⟨b, off + i * 5 + 3, none⟩ = some (.int .i64 (E i).x3) ∧ w.cell? ⟨b, off + i * 5 + 4, none⟩ = some (.int .i64 (E i).x4)) ∧ EditSrc w (.agg #[.slice a0 (E i).n0 p0, .slice a1 (E i).n1 p1, .int .i64 (E i).x2, .int .i64 (E i).x3, .int .i64 (E i).x4]) (E i) := by
  rcases h with h | ⟨b, off, e, hb, hc⟩
  · omega
  · obtain ⟨a0, p0, a1, p1, h0, h1, h2, h3⟩ := hc i hi
    exact ⟨b, off, a0, p0, a1, p1, e, hb, h0, ⟨_, _, _, _, rfl, h1, h2, h3⟩⟩
theorem EditsSrc.hid {w : World} {a : Option Addr} {n : Nat} {E : Nat → EditC} (h : EditsSrc w a n E) : Hid (EditsSrc w a n E) := h
theorem ECopy.src {w0 w : World} {g n : Nat} {E : Nat → EditC} {G0 G1 : Nat → Nat} (h : ECopy w0 w g n n E G0 G1) : EditsSrc w (some ⟨g, 0, none⟩) n E := by
  refine .inr ⟨g, 0, rfl, h.row.lt, fun i hi => ?_⟩
  obtain ⟨q1, q2, q3, q4⟩ := h.each i hi
  obtain ⟨b0, q0, b1, q1', he, h0, h1, h2⟩ := EditSrc.of_rows q3 q4
  simp only [Value.agg.injEq, Array.mk.injEq, List.cons.injEq, Value.slice.injEq, true_and, and_true] at he
  obtain ⟨⟨rfl, rfl⟩, rfl, rfl⟩ := he
  refine ⟨some ⟨G0 i, 0, none⟩, (E i).n0, some ⟨G1 i, 0, none⟩, (E i).n1, ?_, h0, h1, h2⟩
  rw [Nat.zero_add]
  exact h.cells hi

/-- The version behind the first k edits; whether they all fit; how many of the first k fit. -/
def repS (c : VersionC) (E : Nat → EditC) : Nat → VersionC
  | 0 => c
  | k + 1 => apC (repS c E k) (E k)
def repK (c : VersionC) (E : Nat → EditC) : Nat → Bool
  | 0 => true
  | k + 1 => repK c E k && apB (repS c E k) (E k)
def repN (c : VersionC) (E : Nat → EditC) : Nat → Nat
  | 0 => 0
  | k + 1 => if repK c E (k + 1) then k + 1 else repN c E k
theorem repN_all {c : VersionC} {E : Nat → EditC} : ∀ {k : Nat}, repK c E k = true → repN c E k = k
  | 0, _ => rfl
  | k + 1, h => by rw [repN, if_pos h]
theorem repK_stop {c : VersionC} {E : Nat → EditC} {k : Nat} (h : apB (repS c E k) (E k) = false) : ∀ {n : Nat}, k < n → repK c E n = false
  | 0, hk => by omega
  | n + 1, hk => by
    rw [repK]
    rcases Nat.lt_or_eq_of_le (Nat.lt_succ_iff.1 hk) with h1 | rfl
    · rw [repK_stop h h1]; rfl
    · rw [h]; simp
theorem repN_stop {c : VersionC} {E : Nat → EditC} {k : Nat} (hk : repK c E k = true) (h : apB (repS c E k) (E k) = false) : ∀ {n : Nat}, k < n → repN c E n = k
  | 0, hn => by omega
  | n + 1, hn => by
    rw [repN, if_neg (by rw [repK_stop h hn]; simp)]
    rcases Nat.lt_or_eq_of_le (Nat.lt_succ_iff.1 hn) with h1 | rfl
    · exact repN_stop hk h h1
    · exact repN_all hk
def cpV (c : VersionC) : VersionC := vc (metasL c.r0 c.n0) c.x1 c.x2 c.x3
def repI (c : VersionC) (n : Nat) (E : Nat → EditC) : Int := if versB c then (repN (cpV c) E n : Int) else -1
def repC (c : VersionC) (n : Nat) (E : Nat → EditC) : VersionC := if versB c then repS (cpV c) E (repN (cpV c) E n) else zeroV
theorem cpV_fit {c : VersionC} (h : c.Fit) : (cpV c).Fit := by
  show (metasL c.r0 c.n0).length ≤ 1048576
  rw [metasL_len]; exact h
theorem repS_fit {c : VersionC} (h : c.Fit) (E : Nat → EditC) : ∀ k, (repS c E k).Fit
  | 0 => h
  | _ + 1 => apC_fit _ _
theorem repC_fit {c : VersionC} (h : c.Fit) (n : Nat) (E : Nat → EditC) : (repC c n E).Fit := by
  unfold repC
  split
  · exact repS_fit (cpV_fit h) E _
  · show (0 : Nat) ≤ 1048576; omega
theorem rep_bad {c : VersionC} (h : versB c = false) (n : Nat) (E : Nat → EditC) : repI c n E = -1 ∧ repC c n E = zeroV := by
  unfold repI repC; rw [h]; exact ⟨rfl, rfl⟩
theorem rep_stop {c : VersionC} {E : Nat → EditC} {k n : Nat} (h : versB c = true) (hk : repK (cpV c) E k = true) (hs : apB (repS (cpV c) E k) (E k) = false) (hn : k < n) : repI c n E = k ∧ repC c n E = repS (cpV c) E k := by
  unfold repI repC; rw [h, repN_stop hk hs hn]; exact ⟨rfl, rfl⟩
theorem rep_end {c : VersionC} {E : Nat → EditC} {n : Nat} (h : versB c = true) (hk : repK (cpV c) E n = true) : repI c n E = n ∧ repC c n E = repS (cpV c) E n := by
  unfold repI repC; rw [h, repN_all hk]; exact ⟨rfl, rfl⟩

theorem versionIs_ownR {w : World} {B : Nat} {a : Option Addr} {c : Nat} {l : List Meta1} {X : VersionC} (h : OwnMeta w B (.slice a l.length c) l) (hX : X = vc l X.x1 X.x2 X.x3) : VersionIs w (.agg #[.slice a l.length c, .int .i64 X.x1, .int .i64 X.x2, .int .i64 X.x3]) X := by
  obtain ⟨a0, p0, hva, hM⟩ := h.arg
  simp only [Value.slice.injEq, true_and] at hva
  obtain ⟨rfl, rfl⟩ := hva
  refine (congrArg (VersionIs w _) hX).mpr ⟨a, c, rfl, hM⟩

/-- Behind k edits that all fit. -/
structure RepSt (W : World) (F : Nat) (c : VersionC) (E : Nat → EditC) (k : Nat) (x : World) : Prop where
  low : Below W.heap.size W x
  st : ∃ va l p, repS c E k = vc l (repS c E k).x1 (repS c E k).x2 (repS c E k).x3 ∧ OwnMeta x W.heap.size (.slice va l.length p) l ∧ BoxIs x F #[.slice va l.length p, .int .i64 (repS c E k).x1, .int .i64 (repS c E k).x2, .int .i64 (repS c E k).x3] 32
  ok : repK c E k = true
  hF : W.heap.size ≤ F

set_option linter.unusedVariables false in
set_option linter.unusedSimpArgs false in
set_option maxHeartbeats 2000000 in
theorem spec_l12Copy (v : Value) (c : VersionC) (w : World) (hn : c.n0 ≤ 1000) (hv : VersionIs w v c) :
    Calls Try.prog 43 #[v] w fun e w' => (∃ u, e = .returned u ∧ VersionOwnM w' w.heap.size u (vc (metasL c.r0 c.n0) c.x1 c.x2 c.x3)) ∧ Below w.heap.size w w' := by
  obtain ⟨a0, p0, rfl, hS⟩ := hv
  have hB0 : Below w.heap.size w (((w.alloc (.cells #[.slice a0 c.n0 p0, .int .i64 c.x1, .int .i64 c.x2, .int .i64 c.x3] 32)).alloc (.cells #[.slice none 0 0, .int .i64 0, .int .i64 0, .int .i64 0] 32)).alloc (.cells #[] 59)) := (((Below.refl _ _).alloc (Nat.le_refl _) _).alloc (by simp) _).alloc (by simp <;> omega) _
  have hV := ((BoxIs.new w #[.slice a0 c.n0 p0, .int .i64 c.x1, .int .i64 c.x2, .int .i64 c.x3] 32 rfl).next (below_one _ (.cells #[.slice none 0 0, .int .i64 0, .int .i64 0, .int .i64 0] 32))).next (below_one _ (.cells #[] 59))
  have hX := (BoxIs.new (w.alloc (.cells #[.slice a0 c.n0 p0, .int .i64 c.x1, .int .i64 c.x2, .int .i64 c.x3] 32)) #[.slice none 0 0, .int .i64 0, .int .i64 0, .int .i64 0] 32 (g := w.heap.size + 1) (by simp)).next (below_one _ (.cells #[] 59))
  have hO := OwnMeta.lit ((w.alloc (.cells #[.slice a0 c.n0 p0, .int .i64 c.x1, .int .i64 c.x2, .int .i64 c.x3] 32)).alloc (.cells #[.slice none 0 0, .int .i64 0, .int .i64 0, .int .i64 0] 32)) ((w.alloc (.cells #[.slice a0 c.n0 p0, .int .i64 c.x1, .int .i64 c.x2, .int .i64 c.x3] 32)).alloc (.cells #[.slice none 0 0, .int .i64 0, .int .i64 0, .int .i64 0] 32)).heap.size (Nat.le_refl _)
  have hSz : ((w.alloc (.cells #[.slice a0 c.n0 p0, .int .i64 c.x1, .int .i64 c.x2, .int .i64 c.x3] 32)).alloc (.cells #[.slice none 0 0, .int .i64 0, .int .i64 0, .int .i64 0] 32)).heap.size = w.heap.size + 1 + 1 := by simp
  rw [hSz] at hO
  have HS0 := ((hS.below hB0).mono hB0.size).hid
  clear hS hSz
  go_enter Try.func43, Try.ntmps43
  have v0 := hV.cell 0
  simp only [List.getElem?_toArray, List.getElem?_cons_succ, List.getElem?_cons_zero] at v0
  have hlt : w.heap.size + 1 + 1 ≤ (((w.alloc (.cells #[.slice a0 c.n0 p0, .int .i64 c.x1, .int .i64 c.x2, .int .i64 c.x3] 32)).alloc (.cells #[.slice none 0 0, .int .i64 0, .int .i64 0, .int .i64 0] 32)).alloc (.cells #[] 59)).heap.size := by simp
  go_wp2_with (first
    | (at_builtin; refine wpList_append_metaAt rfl _ _ 30 rfl Try.underlying30 (w.heap.size + 1 + 1) _ [] (by rfl) hO a0 c.n0 p0 c.r0 (by rfl) HS0.out hlt (by simp; omega) ?_))
  intro vv w1 hO1 hB1
  obtain ⟨ua, up, rfl⟩ := hO1.shape
  rw [metasL_len] at hO1 ⊢
  have V1 := hV.below hB1 (by omega)
  have X1 := hX.below hB1 (by omega)
  have V2 := V1.set 0 (.slice ua c.n0 up)
  have X2 := X1.set_other (p := ⟨w.heap.size, 0, none⟩) (by show w.heap.size ≠ w.heap.size + 1; omega) (.slice ua c.n0 up)
  have r0 := X1.cell 0
  have r1 := X1.cell 1
  have r2 := X1.cell 2
  have r3 := X1.cell 3
  have rf := X1.free
  have vf := V1.free
  have z0 := V1.cell 0
  have z1 := V1.cell 1
  have z2 := V1.cell 2
  have z3 := V1.cell 3
  simp only [List.getElem?_toArray, List.getElem?_cons_succ, List.getElem?_cons_zero] at r0 r1 r2 r3 z0 z1 z2 z3
  have HO1 : Hid (OwnMeta w1 (w.heap.size + 1 + 1) (.slice ua c.n0 up) (metasL c.r0 c.n0)) := hO1
  have b1 := X2.set 0 (.slice ua c.n0 up)
  have b2 := b1.set 1 (.int .i64 c.x1)
  have b3 := b2.set 2 (.int .i64 c.x2)
  have HOWE := hide (show OwnMeta _ _ _ _ from rg_set (o := 3) (rg_set (rg_set (rg_set (rg_set HO1.out V1 (by decide) (.slice ua c.n0 up)) X2 (by decide) (.slice ua c.n0 up)) b1 (by decide) (.int .i64 c.x1)) b2 (by decide) (.int .i64 c.x2)) b3 (by decide) (.int .i64 c.x3))
  have HLOW := hide (hB0.trans (hB1.mono (by omega)))
  have hle : w.heap.size ≤ w.heap.size + 1 := by omega
  clear V1 X1 V2 X2 b1 b2 b3 hO1 hB1 hV hX hO v0 hlt
  go_wp2
  refine bodyPost_ret (v := .agg #[.slice ua c.n0 up, .int .i64 c.x1, .int .i64 c.x2, .int .i64 c.x3]) (by simp [results, Try.results43, go_sem, r0, r1, r2, r3]) rfl ⟨⟨_, rfl, _, metasL c.r0 c.n0, rfl, HOWE.out.base (by omega), rfl⟩, ?_⟩
  exact ((((HLOW.out.setCell (p := ⟨w.heap.size, 0, none⟩) (Nat.le_refl _) _).setCell hle _).setCell hle _).setCell hle _).setCell hle _
set_option linter.unusedVariables false in
set_option linter.unusedSimpArgs false in
set_option maxHeartbeats 8000000 in
theorem impl_Replay (v : Value) (c : VersionC) (a : Option Addr) (n cap : Nat) (E : Nat → EditC) (w : World) (hf : c.Fit) (hn : n ≤ 1048576) (hE : ∀ i, i < n → (E i).Fit) (hv : VersionIs w v c) (he : EditsSrc w a n E) :
    Calls Try.prog 21 #[v, .slice a n cap] w fun x w' => (∃ u, x = .returned (.tuple #[u, .int .i64 (repI c n E)]) ∧ VersionOwnM w' w.heap.size u (repC c n E)) ∧ Below w.heap.size w w' := by
  obtain ⟨a0, p0, rfl, hS⟩ := hv
  have hB0 : Below w.heap.size w ((w.alloc (.cells #[.slice a0 c.n0 p0, .int .i64 c.x1, .int .i64 c.x2, .int .i64 c.x3] 32)).alloc (.cells #[.slice none 0 0, .int .i64 0, .int .i64 0, .int .i64 0] 32)) := ((Below.refl _ _).alloc (Nat.le_refl _) _).alloc (by simp) _
  have hV := (BoxIs.new w #[.slice a0 c.n0 p0, .int .i64 c.x1, .int .i64 c.x2, .int .i64 c.x3] 32 rfl).next (below_one _ (.cells #[.slice none 0 0, .int .i64 0, .int .i64 0, .int .i64 0] 32))
  have hX := BoxIs.new (w.alloc (.cells #[.slice a0 c.n0 p0, .int .i64 c.x1, .int .i64 c.x2, .int .i64 c.x3] 32)) #[.slice none 0 0, .int .i64 0, .int .i64 0, .int .i64 0] 32 (g := w.heap.size + 1) (by simp)
  have HS := ((hS.below hB0).mono hB0.size).hid
  have HE := (he.next hB0).hid
  have HL := hide hE
  clear hS he hE
  go_enter Try.func21, Try.ntmps21
  go_wp2_with fail
  generalize (w.alloc (.cells #[.slice a0 c.n0 p0, .int .i64 c.x1, .int .i64 c.x2, .int .i64 c.x3] 32)).alloc (.cells #[.slice none 0 0, .int .i64 0, .int .i64 0, .int .i64 0] 32) = W at hB0 hV hX HS HE ⊢
  have HB0 := hide hB0
  have HV := hV.hid
  have HX := hX.hid
  have hXl := hX.lt
  clear hB0
  have v0 := hV.cell 0
  have v1 := hV.cell 1
  have v2 := hV.cell 2
  have v3 := hV.cell 3
  simp only [List.getElem?_toArray, List.getElem?_cons_succ, List.getElem?_cons_zero] at v0 v1 v2 v3
  clear hV hX
  go_wp2_with fail
  refine (impl_VersionOk (.agg #[.slice a0 c.n0 p0, .int .i64 c.x1, .int .i64 c.x2, .int .i64 c.x3]) c W hf ⟨a0, p0, rfl, HS.out⟩).mono ?_
  rintro e w2 ⟨rfl, hb2⟩
  have HC := hide hb2
  clear hb2 v0 v1 v2 v3
  cases hok : versB c with
  | false =>
    obtain ⟨hi, hc⟩ := rep_bad hok n E
    have hR := HX.out.next HC.out
    have r0 := hR.cell 0
    have r1 := hR.cell 1
    have r2 := hR.cell 2
    have r3 := hR.cell 3
    have rf := hR.free
    simp only [List.getElem?_toArray, List.getElem?_cons_succ, List.getElem?_cons_zero] at r0 r1 r2 r3
    have HLOW := hide (HB0.out.trans (HC.out.mono HB0.out.size))
    have hle : w.heap.size ≤ w.heap.size + 1 := by omega
    have HI := hide hi
    have HCC := hide hc
    clear hR hi hc
    go_wp2
    refine bodyPost_ret (v := .tuple #[.agg #[.slice none 0 0, .int .i64 0, .int .i64 0, .int .i64 0], .int .i64 (-1)]) (by simp [results, Try.results21, go_sem, r0, r1, r2, r3]) rfl ⟨⟨_, by rw [HI.out], by rw [HCC.out]; exact zeroV_ownM _ _⟩, ?_⟩
    exact (((HLOW.out.setCell hle _).setCell hle _).setCell hle _).setCell hle _
  | true =>
    have hn30 := (versB_out hok).1.1
    have hV2 := HV.out.next HC.out
    have v0 := hV2.cell 0
    have v1 := hV2.cell 1
    have v2 := hV2.cell 2
    have v3 := hV2.cell 3
    simp only [List.getElem?_toArray, List.getElem?_cons_succ, List.getElem?_cons_zero] at v0 v1 v2 v3
    clear hV2
    go_wp2_with fail
    refine (impl_copyVersion (.agg #[.slice a0 c.n0 p0, .int .i64 c.x1, .int .i64 c.x2, .int .i64 c.x3]) c w2 (by omega) (versB_sizes hok).2 ⟨a0, p0, rfl, (HS.out.next HC.out)⟩).mono ?_
    rintro e w3 ⟨⟨u, rfl, uv, ul, rfl, huo, huc⟩, hb3⟩
    obtain ⟨ua, up, rfl⟩ := huo.shape
    have hcp : cpV c = vc ul (cpV c).x1 (cpV c).x2 (cpV c).x3 := huc
    have hbx := below_one w3 (.cells #[.slice ua ul.length up, .int .i64 (cpV c).x1, .int .i64 (cpV c).x2, .int .i64 (cpV c).x3] 32)
    have HR0 : Hid (RepSt W w3.heap.size (cpV c) E 0 (w3.alloc (.cells #[.slice ua ul.length up, .int .i64 (cpV c).x1, .int .i64 (cpV c).x2, .int .i64 (cpV c).x3] 32))) :=
      ⟨(HC.out.trans (hb3.mono HC.out.size)).trans (hbx.mono (Nat.le_trans HC.out.size hb3.size)), ⟨ua, ul, up, hcp, (huo.base HC.out.size).next hbx, BoxIs.new _ _ _ rfl⟩, rfl, Nat.le_trans HC.out.size hb3.size⟩
    have x1 : (vc (metasL c.r0 c.n0) c.x1 c.x2 c.x3).x1 = (cpV c).x1 := rfl
    clear hb3 huo huc hcp hbx v0 v1 v2 v3
    have y1 : (cpV c).x1 = c.x1 := rfl
    have y2 : (cpV c).x2 = c.x2 := rfl
    have y3 : (cpV c).x3 = c.x3 := rfl
    rw [y1, y2, y3] at HR0
    clear x1 y1 y2 y3
    try simp only [vc]
    go_wp2_with fail
    generalize w3.alloc (.cells #[.slice ua ul.length up, .int .i64 c.x1, .int .i64 c.x2, .int .i64 c.x3] 32) = W4 at HR0 ⊢
    generalize w3.heap.size = F at HR0 ⊢
    go_loopw [19] (fun i wr => ∃ k : Nat, i = .int .i64 k ∧ k ≤ n ∧ Hid (RepSt W F (cpV c) E k wr)) (fun i _ => n - (intOf i).toNat)
    case atStart => exact ⟨0, rfl, by omega, HR0⟩
    case round =>
      obtain ⟨k, rfl, hk, HR⟩ := hrel
      clear HR0
      obtain ⟨va, l, p, hXe, hOW, hBX⟩ := HR.out.st
      have hfx := repS_fit (cpV_fit hf) E k
      have hlow := HR.out.low
      have hrk := HR.out.ok
      have hFl := HR.out.hF
      generalize hX : repS (cpV c) E k = X at hXe hOW hBX hfx
      have HXX := hide hX
      have HXE := hide hXe
      have HOW := hOW.hid
      have HBX := hBX.hid
      have HLW := hide hlow
      have HRK := hide hrk
      have hBl := hBX.lt
      clear hX hXe hOW hlow hrk HR
      by_cases hlt : k < n
      · have hki : (k : Int) < (n : Int) := by omega
        obtain ⟨b, off, b0, q0, b1, q1, rfl, hb, ⟨c0, c1, c2, c3, c4⟩, hES⟩ := (HE.out.next HLW.out).at hlt
        have HES := hide hES
        have hAp := impl_Apply (.agg #[.slice va l.length p, .int .i64 X.x1, .int .i64 X.x2, .int .i64 X.x3]) (.agg #[.slice b0 (E k).n0 q0, .slice b1 (E k).n1 q1, .int .i64 (E k).x2, .int .i64 (E k).x3, .int .i64 (E k).x4]) X (E k)
        clear hES
        have hbe := below_one wr (.cells #[.slice b0 (E k).n0 q0, .slice b1 (E k).n1 q1, .int .i64 (E k).x2, .int .i64 (E k).x3, .int .i64 (E k).x4] 37)
        have hNE := BoxIs.new wr #[.slice b0 (E k).n0 q0, .slice b1 (E k).n1 q1, .int .i64 (E k).x2, .int .i64 (E k).x3, .int .i64 (E k).x4] 37 rfl
        have hBX2 := hBX.next hbe
        have e0 := hNE.cell 0
        have e1 := hNE.cell 1
        have e2 := hNE.cell 2
        have e3 := hNE.cell 3
        have e4 := hNE.cell 4
        have x0 := hBX2.cell 0
        have x1 := hBX2.cell 1
        have x2 := hBX2.cell 2
        have x3 := hBX2.cell 3
        simp only [List.getElem?_toArray, List.getElem?_cons_succ, List.getElem?_cons_zero] at e0 e1 e2 e3 e4 x0 x1 x2 x3
        have HBE := hide hbe
        clear hbe hNE hBX2 hBX
        go_wp2_with fail
        generalize wr.alloc (.cells #[.slice b0 (E k).n0 q0, .slice b1 (E k).n1 q1, .int .i64 (E k).x2, .int .i64 (E k).x3, .int .i64 (E k).x4] 37) = wa at HBE e0 e1 e2 e3 e4 x0 x1 x2 x3 ⊢
        refine (hAp wa hfx (HL.out k hlt) (versionIs_ownR (HOW.out.next HBE.out) HXE.out) (HES.out.next HBE.out)).mono ?_
        rintro e w5 ⟨⟨u, rfl, uv, ul2, rfl, huo, huc⟩, hb5⟩
        obtain ⟨ua2, up2, rfl⟩ := huo.shape
        have HLW5 := hide ((HLW.out.trans (HBE.out.mono HLW.out.size)).trans (hb5.mono (Nat.le_trans HLW.out.size HBE.out.size)))
        have hsz5 := Nat.le_trans HBE.out.size hb5.size
        have HBX5 := ((HBX.out.next HBE.out).next hb5).hid
        have HOW5 := ((HOW.out.next HBE.out).next hb5).hid
        have hbase := huo.base (Nat.le_trans HLW.out.size HBE.out.size)
        generalize hY : apC X (E k) = Y at huo huc hbase
        have hY2 : repS (cpV c) E (k + 1) = Y := by rw [repS, HXX.out, hY]
        have HYY := hide hY2
        have hK2 : ∀ ab, apB X (E k) = ab → repK (cpV c) E (k + 1) = ab := fun ab h => by rw [repK, HRK.out, HXX.out, h]; rfl
        have HK2 := hide hK2
        have HOU := hide hbase
        have HUC := hide huc
        clear hY hY2 huo hb5 hAp hbase huc e0 e1 e2 e3 e4 x0 x1 x2 x3 c0 c1 c2 c3 c4 HBE HOW HBX hK2
        obtain ⟨ab, hab⟩ : ∃ ab, apB X (E k) = ab := ⟨_, rfl⟩
        rw [hab]
        have HAB := hide hab
        have hbn := below_one w5 (.cells #[.slice ua2 ul2.length up2, .int .i64 Y.x1, .int .i64 Y.x2, .int .i64 Y.x3] 32)
        have HN := (BoxIs.new w5 #[.slice ua2 ul2.length up2, .int .i64 Y.x1, .int .i64 Y.x2, .int .i64 Y.x3] 32 rfl).hid
        have HLW6 := hide (HLW5.out.trans (hbn.mono HLW5.out.size))
        have HBX6 := (HBX5.out.next hbn).hid
        have HOW6 := (HOW5.out.next hbn).hid
        have HOU6 := (HOU.out.next hbn).hid
        clear hab hbn HLW5 HBX5 HOW5 HOU
        go_upto_region 8 with fail
        generalize w5.alloc (.cells #[.slice ua2 ul2.length up2, .int .i64 Y.x1, .int .i64 Y.x2, .int .i64 Y.x3] 32) = w6 at HN HLW6 HBX6 HOW6 HOU6 ⊢
        cases ab with
        | false =>
          obtain ⟨hi, hc⟩ := rep_stop (n := n) hok HRK.out (by rw [HXX.out]; exact HAB.out) hlt
          have z0 := HBX6.out.cell 0
          have z1 := HBX6.out.cell 1
          have z2 := HBX6.out.cell 2
          have z3 := HBX6.out.cell 3
          have hR := HX.out.next HLW6.out
          have r0 := hR.cell 0
          have r1 := hR.cell 1
          have r2 := hR.cell 2
          have r3 := hR.cell 3
          have rf := hR.free
          simp only [List.getElem?_toArray, List.getElem?_cons_succ, List.getElem?_cons_zero] at z0 z1 z2 z3 r0 r1 r2 r3
          have b1 := hR.set 0 (.slice va l.length p)
          have b2 := b1.set 1 (.int .i64 X.x1)
          have b3 := b2.set 2 (.int .i64 X.x2)
          have HOWE := hide (show OwnMeta _ _ _ _ from rg_set (o := 3) (rg_set (rg_set (rg_set HOW6.out hR (by decide) (.slice va l.length p)) b1 (by decide) (.int .i64 X.x1)) b2 (by decide) (.int .i64 X.x2)) b3 (by decide) (.int .i64 X.x3))
          have HLOW := hide (HB0.out.trans (HLW6.out.mono HB0.out.size))
          have hle : w.heap.size ≤ w.heap.size + 1 := by omega
          have HI := hide hi
          have HCC := hide hc
          clear hR hi hc b1 b2 b3 HN HOW6 HOU6 HBX6 HLW6
          go_wp2
          refine bodyPost_ret (v := .tuple #[.agg #[.slice va l.length p, .int .i64 X.x1, .int .i64 X.x2, .int .i64 X.x3], .int .i64 k]) (by simp [results, Try.results21, go_sem, r0, r1, r2, r3]) rfl ⟨⟨_, by rw [HI.out], by rw [HCC.out, HXX.out]; exact ⟨_, l, rfl, HOWE.out.base HB0.out.size, HXE.out⟩⟩, ?_⟩
          exact (((HLOW.out.setCell hle _).setCell hle _).setCell hle _).setCell hle _
        | true =>
          have n0 := HN.out.cell 0
          have n1 := HN.out.cell 1
          have n2 := HN.out.cell 2
          have n3 := HN.out.cell 3
          have z0 := HBX6.out.cell 0
          have z1 := HBX6.out.cell 1
          have z2 := HBX6.out.cell 2
          have z3 := HBX6.out.cell 3
          have zf := HBX6.out.free
          simp only [List.getElem?_toArray, List.getElem?_cons_succ, List.getElem?_cons_zero] at n0 n1 n2 n3 z0 z1 z2 z3
          have b1 := HBX6.out.set 0 (.slice ua2 ul2.length up2)
          have b2 := b1.set 1 (.int .i64 Y.x1)
          have b3 := b2.set 2 (.int .i64 Y.x2)
          have b4 := b3.set 3 (.int .i64 Y.x3)
          have hOE := (show OwnMeta _ _ _ _ from rg_set (o := 3) (rg_set (rg_set (rg_set HOU6.out HBX6.out (by decide) (.slice ua2 ul2.length up2)) b1 (by decide) (.int .i64 Y.x1)) b2 (by decide) (.int .i64 Y.x2)) b3 (by decide) (.int .i64 Y.x3))
          have hFle := hFl
          have HRN : Hid (RepSt W F (cpV c) E (k + 1) _) := hide ⟨(((HLW6.out.setCell (p := ⟨F, 0, none⟩) hFl _).setCell (p := ⟨F, 1, none⟩) hFl _).setCell (p := ⟨F, 2, none⟩) hFl _).setCell (p := ⟨F, 3, none⟩) hFl _, ⟨ua2, ul2, up2, by rw [HYY.out]; exact HUC.out, hOE, by rw [HYY.out]; exact b4⟩, HK2.out true HAB.out, hFl⟩
          clear b1 b2 b3 b4 hOE HN HOW6 HOU6 HBX6 HLW6 hFle
          go_wp2
          exact ⟨⟨k + 1, by go_num, by omega, HRN⟩, by simp [intOf]; omega⟩
      · obtain rfl : k = n := by omega
        obtain ⟨hi, hc⟩ := rep_end hok HRK.out
        have z0 := HBX.out.cell 0
        have z1 := HBX.out.cell 1
        have z2 := HBX.out.cell 2
        have z3 := HBX.out.cell 3
        have hR := HX.out.next HLW.out
        have r0 := hR.cell 0
        have r1 := hR.cell 1
        have r2 := hR.cell 2
        have r3 := hR.cell 3
        have rf := hR.free
        simp only [List.getElem?_toArray, List.getElem?_cons_succ, List.getElem?_cons_zero] at z0 z1 z2 z3 r0 r1 r2 r3
        have b1 := hR.set 0 (.slice va l.length p)
        have b2 := b1.set 1 (.int .i64 X.x1)
        have b3 := b2.set 2 (.int .i64 X.x2)
        have HOWE := hide (show OwnMeta _ _ _ _ from rg_set (o := 3) (rg_set (rg_set (rg_set HOW.out hR (by decide) (.slice va l.length p)) b1 (by decide) (.int .i64 X.x1)) b2 (by decide) (.int .i64 X.x2)) b3 (by decide) (.int .i64 X.x3))
        have HLOW := hide (HB0.out.trans (HLW.out.mono HB0.out.size))
        have hle : w.heap.size ≤ w.heap.size + 1 := by omega
        have HI := hide hi
        have HCC := hide hc
        clear hR hi hc b1 b2 b3 HOW HBX HLW
        go_wp2
        refine bodyPost_ret (v := .tuple #[.agg #[.slice va l.length p, .int .i64 X.x1, .int .i64 X.x2, .int .i64 X.x3], .int .i64 k]) (by simp [results, Try.results21, go_sem, r0, r1, r2, r3]) rfl ⟨⟨_, by rw [HI.out], by rw [HCC.out, HXX.out]; exact ⟨_, l, rfl, HOWE.out.base HB0.out.size, HXE.out⟩⟩, ?_⟩
        exact (((HLOW.out.setCell hle _).setCell hle _).setCell hle _).setCell hle _
set_option linter.unusedVariables false in
set_option linter.unusedSimpArgs false in
set_option maxHeartbeats 8000000 in
theorem spec_Replay (v : Value) (c : VersionC) (a : Option Addr) (n cap : Nat) (E : Nat → EditC) (w : World) (hf : c.Fit) (hn : n ≤ 1048576) (hE : ∀ i, i < n → (E i).Fit) (hv : VersionIs w v c) (he : EditsSrc w a n E) :
    Calls Try.prog 19 #[v, .slice a n cap] w fun x w' => (∃ u, x = .returned (.tuple #[u, .int .i64 (repI c n E)]) ∧ VersionOwnM w' w.heap.size u (repC c n E)) ∧ Below w.heap.size w w' := by
  obtain ⟨a0, p0, rfl, hS⟩ := hv
  have hB0 : Below w.heap.size w ((w.alloc (.cells #[.slice a0 c.n0 p0, .int .i64 c.x1, .int .i64 c.x2, .int .i64 c.x3] 32)).alloc (.cells #[.slice none 0 0, .int .i64 0, .int .i64 0, .int .i64 0] 32)) := ((Below.refl _ _).alloc (Nat.le_refl _) _).alloc (by simp) _
  have hV := (BoxIs.new w #[.slice a0 c.n0 p0, .int .i64 c.x1, .int .i64 c.x2, .int .i64 c.x3] 32 rfl).next (below_one _ (.cells #[.slice none 0 0, .int .i64 0, .int .i64 0, .int .i64 0] 32))
  have hX := BoxIs.new (w.alloc (.cells #[.slice a0 c.n0 p0, .int .i64 c.x1, .int .i64 c.x2, .int .i64 c.x3] 32)) #[.slice none 0 0, .int .i64 0, .int .i64 0, .int .i64 0] 32 (g := w.heap.size + 1) (by simp)
  have HS := ((hS.below hB0).mono hB0.size).hid
  have HE := (he.next hB0).hid
  have HL := hide hE
  clear hS he hE
  go_enter Try.func19, Try.ntmps19
  go_wp2_with fail
  generalize (w.alloc (.cells #[.slice a0 c.n0 p0, .int .i64 c.x1, .int .i64 c.x2, .int .i64 c.x3] 32)).alloc (.cells #[.slice none 0 0, .int .i64 0, .int .i64 0, .int .i64 0] 32) = W at hB0 hV hX HS HE ⊢
  have HB0 := hide hB0
  have HV := hV.hid
  have HX := hX.hid
  have hXl := hX.lt
  clear hB0
  have v0 := hV.cell 0
  have v1 := hV.cell 1
  have v2 := hV.cell 2
  have v3 := hV.cell 3
  simp only [List.getElem?_toArray, List.getElem?_cons_succ, List.getElem?_cons_zero] at v0 v1 v2 v3
  clear hV hX
  go_wp2_with fail
  refine (spec_VersionOk (.agg #[.slice a0 c.n0 p0, .int .i64 c.x1, .int .i64 c.x2, .int .i64 c.x3]) c W hf ⟨a0, p0, rfl, HS.out⟩).mono ?_
  rintro e w2 ⟨rfl, hb2⟩
  have HC := hide hb2
  clear hb2 v0 v1 v2 v3
  cases hok : versB c with
  | false =>
    obtain ⟨hi, hc⟩ := rep_bad hok n E
    have hR := HX.out.next HC.out
    have r0 := hR.cell 0
    have r1 := hR.cell 1
    have r2 := hR.cell 2
    have r3 := hR.cell 3
    have rf := hR.free
    simp only [List.getElem?_toArray, List.getElem?_cons_succ, List.getElem?_cons_zero] at r0 r1 r2 r3
    have HLOW := hide (HB0.out.trans (HC.out.mono HB0.out.size))
    have hle : w.heap.size ≤ w.heap.size + 1 := by omega
    have HI := hide hi
    have HCC := hide hc
    clear hR hi hc
    go_wp2
    refine bodyPost_ret (v := .tuple #[.agg #[.slice none 0 0, .int .i64 0, .int .i64 0, .int .i64 0], .int .i64 (-1)]) (by simp [results, Try.results19, go_sem, r0, r1, r2, r3]) rfl ⟨⟨_, by rw [HI.out], by rw [HCC.out]; exact zeroV_ownM _ _⟩, ?_⟩
    exact (((HLOW.out.setCell hle _).setCell hle _).setCell hle _).setCell hle _
  | true =>
    have hn30 := (versB_out hok).1.1
    have hV2 := HV.out.next HC.out
    have v0 := hV2.cell 0
    have v1 := hV2.cell 1
    have v2 := hV2.cell 2
    have v3 := hV2.cell 3
    simp only [List.getElem?_toArray, List.getElem?_cons_succ, List.getElem?_cons_zero] at v0 v1 v2 v3
    clear hV2
    go_wp2_with fail
    refine (spec_l12Copy (.agg #[.slice a0 c.n0 p0, .int .i64 c.x1, .int .i64 c.x2, .int .i64 c.x3]) c w2 (by omega) ⟨a0, p0, rfl, (HS.out.next HC.out)⟩).mono ?_
    rintro e w3 ⟨⟨u, rfl, uv, ul, rfl, huo, huc⟩, hb3⟩
    obtain ⟨ua, up, rfl⟩ := huo.shape
    have hcp : cpV c = vc ul (cpV c).x1 (cpV c).x2 (cpV c).x3 := huc
    have hbx := below_one w3 (.cells #[.slice ua ul.length up, .int .i64 (cpV c).x1, .int .i64 (cpV c).x2, .int .i64 (cpV c).x3] 32)
    have HR0 : Hid (RepSt W w3.heap.size (cpV c) E 0 (w3.alloc (.cells #[.slice ua ul.length up, .int .i64 (cpV c).x1, .int .i64 (cpV c).x2, .int .i64 (cpV c).x3] 32))) :=
      ⟨(HC.out.trans (hb3.mono HC.out.size)).trans (hbx.mono (Nat.le_trans HC.out.size hb3.size)), ⟨ua, ul, up, hcp, (huo.base HC.out.size).next hbx, BoxIs.new _ _ _ rfl⟩, rfl, Nat.le_trans HC.out.size hb3.size⟩
    have x1 : (vc (metasL c.r0 c.n0) c.x1 c.x2 c.x3).x1 = (cpV c).x1 := rfl
    clear hb3 huo huc hcp hbx v0 v1 v2 v3
    have y1 : (cpV c).x1 = c.x1 := rfl
    have y2 : (cpV c).x2 = c.x2 := rfl
    have y3 : (cpV c).x3 = c.x3 := rfl
    rw [y1, y2, y3] at HR0
    clear x1 y1 y2 y3
    try simp only [vc]
    go_wp2_with fail
    generalize w3.alloc (.cells #[.slice ua ul.length up, .int .i64 c.x1, .int .i64 c.x2, .int .i64 c.x3] 32) = W4 at HR0 ⊢
    generalize w3.heap.size = F at HR0 ⊢
    go_loopw [7] (fun i wr => ∃ k : Nat, i = .int .i64 k ∧ k ≤ n ∧ Hid (RepSt W F (cpV c) E k wr)) (fun i _ => n - (intOf i).toNat)
    case atStart => exact ⟨0, rfl, by omega, HR0⟩
    case round =>
      obtain ⟨k, rfl, hk, HR⟩ := hrel
      clear HR0
      obtain ⟨va, l, p, hXe, hOW, hBX⟩ := HR.out.st
      have hfx := repS_fit (cpV_fit hf) E k
      have hlow := HR.out.low
      have hrk := HR.out.ok
      have hFl := HR.out.hF
      generalize hX : repS (cpV c) E k = X at hXe hOW hBX hfx
      have HXX := hide hX
      have HXE := hide hXe
      have HOW := hOW.hid
      have HBX := hBX.hid
      have HLW := hide hlow
      have HRK := hide hrk
      have hBl := hBX.lt
      clear hX hXe hOW hlow hrk HR
      by_cases hlt : k < n
      · have hki : (k : Int) < (n : Int) := by omega
        obtain ⟨b, off, b0, q0, b1, q1, rfl, hb, ⟨c0, c1, c2, c3, c4⟩, hES⟩ := (HE.out.next HLW.out).at hlt
        have HES := hide hES
        have hAp := spec_Apply (.agg #[.slice va l.length p, .int .i64 X.x1, .int .i64 X.x2, .int .i64 X.x3]) (.agg #[.slice b0 (E k).n0 q0, .slice b1 (E k).n1 q1, .int .i64 (E k).x2, .int .i64 (E k).x3, .int .i64 (E k).x4]) X (E k)
        clear hES
        go_upto_region 7 with fail
        go_cut [8, 9] (fun tp tq wx => ∃ (N : Nat) (ua : Option Addr) (ul : List Meta1) (up : Nat), tp = .pointer (some ⟨N, 0, none⟩) ∧ tq = .bool (apB X (E k)) ∧ apC X (E k) = vc ul (apC X (E k)).x1 (apC X (E k)).x2 (apC X (E k)).x3 ∧ Hid (Below wr.heap.size wr wx) ∧ Hid (BoxIs wx N #[.slice ua ul.length up, .int .i64 (apC X (E k)).x1, .int .i64 (apC X (E k)).x2, .int .i64 (apC X (E k)).x3] 32) ∧ Hid (OwnMeta wx W.heap.size (.slice ua ul.length up) ul))
        case first =>
          have LO : Below wr.heap.size wr wr := Below.refl _ _
          have hWl := HLW.out.size
          refine wp_region_noPanic ?_
          have hb0 : Below wr.heap.size wr wr.drew := (Below.refl _ _).drew
          have LO_0 := LO.trans (hb0.mono LO.size)
          have hBX_0 := hBX.next hb0
          refine wp_region_held_drew (S := fun x => BoxIs x F #[.slice va l.length p, .int .i64 X.x1, .int .i64 X.x2, .int .i64 X.x3] 32 ∧ Below wr.heap.size wr x) (by kernel_rfl) ⟨hBX_0, LO_0⟩ (fun hSz => ?_)
          clear hSz LO hBX
          generalize wr.drew = wq0 at hb0 LO_0 hBX_0 ⊢
          clear hb0
          refine wpAnyH_take (i := 0) (v := .agg #[.slice va l.length p, .int .i64 X.x1, .int .i64 X.x2, .int .i64 X.x3]) nat0 (by kernel_rfl) (by kernel_rfl) (by kernel_rfl) (fun _ _ _ h => False.elim h) (Or.inl ⟨by rfl, ?_⟩) ⟨hBX_0, LO_0⟩ ?_
          · intro wx hSw
            have y0 := hSw.1.cell 0
            have y1 := hSw.1.cell 1
            have y2 := hSw.1.cell 2
            have y3 := hSw.1.cell 3
            simp only [List.getElem?_toArray, List.getElem?_cons_succ, List.getElem?_cons_zero] at y0 y1 y2 y3
            go_simp
          simp only [Act.put, List.setIfInBounds_toArray, List.set_cons_zero, List.set_cons_succ]
          refine wpAnyH_take (i := 1) (v := .slice (some ⟨b, off, none⟩) n cap) nat1 (by kernel_rfl) (by kernel_rfl) (by kernel_rfl) (fun _ _ _ h => False.elim h) (Or.inl ⟨by rfl, ?_⟩) ⟨hBX_0, LO_0⟩ ?_
          · intro wx hSw
            go_simp
          simp only [Act.put, List.setIfInBounds_toArray, List.set_cons_zero, List.set_cons_succ]
          refine wpAnyH_take (i := 2) (v := .int .i64 ((k : Int))) nat2 (by kernel_rfl) (by kernel_rfl) (by kernel_rfl) (fun _ _ _ h => False.elim h) (Or.inl ⟨by rfl, ?_⟩) ⟨hBX_0, LO_0⟩ ?_
          · intro wx hSw
            go_simp
          simp only [Act.put, List.setIfInBounds_toArray, List.set_cons_zero, List.set_cons_succ]
          refine wpAnyH_take (i := 3) (v := .pointer (some ⟨b, off + k * 5, none⟩)) nat3 (by kernel_rfl) (by kernel_rfl) (by kernel_rfl) (fun _ _ _ h => False.elim h) (Or.inl ⟨by rfl, ?_⟩) ⟨hBX_0, LO_0⟩ ?_
          · intro wx hSw
            go_simp
          simp only [Act.put, List.setIfInBounds_toArray, List.set_cons_zero, List.set_cons_succ]
          refine wpAnyH_take (i := 4) (v := .agg #[.slice b0 ((E k).n0) q0, .slice b1 ((E k).n1) q1, .int .i64 ((E k).x2), .int .i64 ((E k).x3), .int .i64 ((E k).x4)]) nat4 (by kernel_rfl) (by kernel_rfl) (by kernel_rfl) (fun _ _ _ h => False.elim h) (Or.inl ⟨by rfl, ?_⟩) ⟨hBX_0, LO_0⟩ ?_
          · intro wx hSw
            have y0 := (hSw.2.cell (p := ⟨b, _, none⟩) hb).trans c0
            have y1 := (hSw.2.cell (p := ⟨b, _, none⟩) hb).trans c1
            have y2 := (hSw.2.cell (p := ⟨b, _, none⟩) hb).trans c2
            have y3 := (hSw.2.cell (p := ⟨b, _, none⟩) hb).trans c3
            have y4 := (hSw.2.cell (p := ⟨b, _, none⟩) hb).trans c4
            go_simp
          simp only [Act.put, List.setIfInBounds_toArray, List.set_cons_zero, List.set_cons_succ]
          refine wpAnyH_ready (rs := [5, 9]) (by kernel_rfl) (by simp) ?_
          refine AllReadyH.cons nat5 (fun K hK => ?_) (AllReadyH.cons nat9 (fun K hK => ?_) AllReadyH.nil)
          · go_simp
            go_at_call 9
            refine (hAp wq0 hfx (HL.out k hlt) (versionIs_ownR (HOW.out.next LO_0) HXE.out) (HES.out.next LO_0).is).mono ?_
            rintro e wq1 ⟨⟨u1, rfl, uv1, ul1, rfl, huo1, huc1⟩, hb1⟩
            obtain ⟨ua1, up1, rfl⟩ := huo1.shape
            have hbs1 := huo1.base (Nat.le_trans hWl LO_0.size)
            have HUC1 := hide huc1
            clear huc1
            have LO_1 := LO_0.trans (hb1.mono LO_0.size)
            have hBX_1 := hBX_0.next hb1
            have OU_1 := hbs1
            refine hK.out _ _ ⟨hBX_1, LO_1⟩ (fun hSz => ?_)
            clear hK K hSz LO_0 hBX_0 hb1 huo1 hbs1
            refine wpAnyH_take (i := 6) (v := .tuple #[.agg #[.slice ua1 ul1.length up1, .int .i64 ((apC X (E k)).x1), .int .i64 ((apC X (E k)).x2), .int .i64 ((apC X (E k)).x3)], .bool (apB X (E k))]) nat6 (by kernel_rfl) (by kernel_rfl) (by kernel_rfl) (fun _ _ _ h => False.elim h) (Or.inl ⟨by rfl, ?_⟩) ⟨hBX_1, LO_1⟩ ?_
            · intro wx hSw
              go_simp
            simp only [Act.put, List.setIfInBounds_toArray, List.set_cons_zero, List.set_cons_succ]
            refine wpAnyH_take (i := 7) (v := .agg #[.slice ua1 ul1.length up1, .int .i64 ((apC X (E k)).x1), .int .i64 ((apC X (E k)).x2), .int .i64 ((apC X (E k)).x3)]) nat7 (by kernel_rfl) (by kernel_rfl) (by kernel_rfl) (fun _ _ _ h => False.elim h) (Or.inl ⟨by rfl, ?_⟩) ⟨hBX_1, LO_1⟩ ?_
            · intro wx hSw
              go_simp
            simp only [Act.put, List.setIfInBounds_toArray, List.set_cons_zero, List.set_cons_succ]
            refine wpAnyH_take (i := 8) (v := .bool (apB X (E k))) nat8 (by kernel_rfl) (by kernel_rfl) (by kernel_rfl) (fun _ _ _ h => False.elim h) (Or.inl ⟨by rfl, ?_⟩) ⟨hBX_1, LO_1⟩ ?_
            · intro wx hSw
              go_simp
            simp only [Act.put, List.setIfInBounds_toArray, List.set_cons_zero, List.set_cons_succ]
            refine wpAnyH_ready (rs := [9]) (by kernel_rfl) (by simp) ?_
            refine AllReadyH.cons nat9 (fun K hK => ?_) AllReadyH.nil
            go_simp
            have hlt2 : wr.heap.size ≤ wq1.heap.size := LO_1.size
            have hb2 := below_one wq1 (.cells #[.slice none 0 0, .int .i64 0, .int .i64 0, .int .i64 0] 32)
            have LO_2 := LO_1.trans (hb2.mono LO_1.size)
            have hBX_2 := hBX_1.next hb2
            have OU_2 := OU_1.next hb2
            have NB8_2 := BoxIs.new wq1 #[.slice none 0 0, .int .i64 0, .int .i64 0, .int .i64 0] 32 rfl
            refine hK.out _ _ ⟨hBX_2, LO_2⟩ (fun hSz => ?_)
            clear hK K hSz LO_1 OU_1 hBX_1
            obtain ⟨G2, hG2⟩ : ∃ G, G = wq1.heap.size := ⟨_, rfl⟩
            rw [← hG2] at NB8_2 ⊢
            generalize wq1.alloc (.cells #[.slice none 0 0, .int .i64 0, .int .i64 0, .int .i64 0] 32) = wq2 at hb2 LO_2 hBX_2 OU_2 NB8_2 ⊢
            rw [← hG2] at hlt2
            clear hG2 hb2
            refine wpAnyH_ready (rs := [10]) (by kernel_rfl) (by simp) ?_
            refine AllReadyH.cons nat10 (fun K hK => ?_) AllReadyH.nil
            have y0 := NB8_2.cell 0
            have y1 := NB8_2.cell 1
            have y2 := NB8_2.cell 2
            have y3 := NB8_2.cell 3
            simp only [List.getElem?_toArray, List.getElem?_cons_succ, List.getElem?_cons_zero] at y0 y1 y2 y3
            have yf := NB8_2.free
            go_simp
            clear yf y0 y1 y2 y3
            have LO_3s0 := LO_2.setCell (p := ⟨G2, 0, none⟩) hlt2 (.slice ua1 ul1.length up1)
            have hBX_3s0 := hBX_2.set_other (p := ⟨G2, 0, none⟩) (by show G2 ≠ F; omega) (.slice ua1 ul1.length up1)
            have OU_3s0 := (show OwnMeta _ _ _ _ from rg_set (o := 0) OU_2 NB8_2 (by decide) (.slice ua1 ul1.length up1))
            have NB8_3s0 := NB8_2.set 0 (.slice ua1 ul1.length up1)
            have LO_3s1 := LO_3s0.setCell (p := ⟨G2, 1, none⟩) hlt2 (.int .i64 ((apC X (E k)).x1))
            have hBX_3s1 := hBX_3s0.set_other (p := ⟨G2, 1, none⟩) (by show G2 ≠ F; omega) (.int .i64 ((apC X (E k)).x1))
            have OU_3s1 := (show OwnMeta _ _ _ _ from rg_set (o := 1) OU_3s0 NB8_3s0 (by decide) (.int .i64 ((apC X (E k)).x1)))
            have NB8_3s1 := NB8_3s0.set 1 (.int .i64 ((apC X (E k)).x1))
            have LO_3s2 := LO_3s1.setCell (p := ⟨G2, 2, none⟩) hlt2 (.int .i64 ((apC X (E k)).x2))
            have hBX_3s2 := hBX_3s1.set_other (p := ⟨G2, 2, none⟩) (by show G2 ≠ F; omega) (.int .i64 ((apC X (E k)).x2))
            have OU_3s2 := (show OwnMeta _ _ _ _ from rg_set (o := 2) OU_3s1 NB8_3s1 (by decide) (.int .i64 ((apC X (E k)).x2)))
            have NB8_3s2 := NB8_3s1.set 2 (.int .i64 ((apC X (E k)).x2))
            have LO_3s3 := LO_3s2.setCell (p := ⟨G2, 3, none⟩) hlt2 (.int .i64 ((apC X (E k)).x3))
            have hBX_3s3 := hBX_3s2.set_other (p := ⟨G2, 3, none⟩) (by show G2 ≠ F; omega) (.int .i64 ((apC X (E k)).x3))
            have OU_3s3 := (show OwnMeta _ _ _ _ from rg_set (o := 3) OU_3s2 NB8_3s2 (by decide) (.int .i64 ((apC X (E k)).x3)))
            have NB8_3s3 := NB8_3s2.set 3 (.int .i64 ((apC X (E k)).x3))
            have LO_3 := LO_3s3
            have hBX_3 := hBX_3s3
            have OU_3 := OU_3s3
            have NB8_3 : BoxIs ((((wq2.setCell ⟨G2, 0, none⟩ (.slice ua1 ul1.length up1)).setCell ⟨G2, 1, none⟩ (.int .i64 ((apC X (E k)).x1))).setCell ⟨G2, 2, none⟩ (.int .i64 ((apC X (E k)).x2))).setCell ⟨G2, 3, none⟩ (.int .i64 ((apC X (E k)).x3))) G2 #[.slice ua1 ul1.length up1, .int .i64 ((apC X (E k)).x1), .int .i64 ((apC X (E k)).x2), .int .i64 ((apC X (E k)).x3)] 32 := NB8_3s3
            refine hK.out _ _ ⟨hBX_3, LO_3⟩ (fun hSz => ?_)
            clear hK K hSz LO_2 NB8_2 OU_2 hBX_2 LO_3s0 LO_3s1 LO_3s2 LO_3s3 hBX_3s0 hBX_3s1 hBX_3s2 hBX_3s3 OU_3s0 OU_3s1 OU_3s2 OU_3s3 NB8_3s0 NB8_3s1 NB8_3s2 NB8_3s3
            generalize (((wq2.setCell ⟨G2, 0, none⟩ (.slice ua1 ul1.length up1)).setCell ⟨G2, 1, none⟩ (.int .i64 ((apC X (E k)).x1))).setCell ⟨G2, 2, none⟩ (.int .i64 ((apC X (E k)).x2))).setCell ⟨G2, 3, none⟩ (.int .i64 ((apC X (E k)).x3)) = wq3 at LO_3 hBX_3 OU_3 NB8_3 ⊢
            refine wpAnyH_take (i := 11) (v := .bool (apB X (E k))) nat11 (by kernel_rfl) (by kernel_rfl) (by kernel_rfl) (fun _ _ _ h => False.elim h) (Or.inl ⟨by rfl, ?_⟩) ⟨hBX_3, LO_3⟩ ?_
            · intro wx hSw
              go_simp
            simp only [Act.put, List.setIfInBounds_toArray, List.set_cons_zero, List.set_cons_succ]
            refine wpAnyH_done (by kernel_rfl) ?_ _
            refine NoPanic.normal ?_
            go_wp2_with fail
            go_meet
            exact ⟨G2, ua1, ul1, up1, rfl, rfl, HUC1.out, hide LO_3, hide NB8_3, hide OU_3⟩
          · go_simp
            have hlt4 : wr.heap.size ≤ wq0.heap.size := LO_0.size
            have hb4 := below_one wq0 (.cells #[.slice none 0 0, .int .i64 0, .int .i64 0, .int .i64 0] 32)
            have LO_4 := LO_0.trans (hb4.mono LO_0.size)
            have hBX_4 := hBX_0.next hb4
            have NB8_4 := BoxIs.new wq0 #[.slice none 0 0, .int .i64 0, .int .i64 0, .int .i64 0] 32 rfl
            refine hK.out _ _ ⟨hBX_4, LO_4⟩ (fun hSz => ?_)
            clear hK K hSz LO_0 hBX_0
            obtain ⟨G4, hG4⟩ : ∃ G, G = wq0.heap.size := ⟨_, rfl⟩
            rw [← hG4] at NB8_4 ⊢
            generalize wq0.alloc (.cells #[.slice none 0 0, .int .i64 0, .int .i64 0, .int .i64 0] 32) = wq4 at hb4 LO_4 hBX_4 NB8_4 ⊢
            rw [← hG4] at hlt4
            clear hG4 hb4
            refine wpAnyH_ready (rs := [5]) (by kernel_rfl) (by simp) ?_
            refine AllReadyH.cons nat5 (fun K hK => ?_) AllReadyH.nil
            go_simp
            go_at_call 9
            refine (hAp wq4 hfx (HL.out k hlt) (versionIs_ownR (HOW.out.next LO_4) HXE.out) (HES.out.next LO_4).is).mono ?_
            rintro e wq5 ⟨⟨u5, rfl, uv5, ul5, rfl, huo5, huc5⟩, hb5⟩
            obtain ⟨ua5, up5, rfl⟩ := huo5.shape
            have hbs5 := huo5.base (Nat.le_trans hWl LO_4.size)
            have HUC5 := hide huc5
            clear huc5
            have LO_5 := LO_4.trans (hb5.mono LO_4.size)
            have hBX_5 := hBX_4.next hb5
            have NB8_5 := NB8_4.next hb5
            have OU_5 := hbs5
            refine hK.out _ _ ⟨hBX_5, LO_5⟩ (fun hSz => ?_)
            clear hK K hSz LO_4 NB8_4 hBX_4 hb5 huo5 hbs5
            refine wpAnyH_take (i := 6) (v := .tuple #[.agg #[.slice ua5 ul5.length up5, .int .i64 ((apC X (E k)).x1), .int .i64 ((apC X (E k)).x2), .int .i64 ((apC X (E k)).x3)], .bool (apB X (E k))]) nat6 (by kernel_rfl) (by kernel_rfl) (by kernel_rfl) (fun _ _ _ h => False.elim h) (Or.inl ⟨by rfl, ?_⟩) ⟨hBX_5, LO_5⟩ ?_
            · intro wx hSw
              go_simp
            simp only [Act.put, List.setIfInBounds_toArray, List.set_cons_zero, List.set_cons_succ]
            refine wpAnyH_take (i := 7) (v := .agg #[.slice ua5 ul5.length up5, .int .i64 ((apC X (E k)).x1), .int .i64 ((apC X (E k)).x2), .int .i64 ((apC X (E k)).x3)]) nat7 (by kernel_rfl) (by kernel_rfl) (by kernel_rfl) (fun _ _ _ h => False.elim h) (Or.inl ⟨by rfl, ?_⟩) ⟨hBX_5, LO_5⟩ ?_
            · intro wx hSw
              go_simp
            simp only [Act.put, List.setIfInBounds_toArray, List.set_cons_zero, List.set_cons_succ]
            refine wpAnyH_take (i := 8) (v := .bool (apB X (E k))) nat8 (by kernel_rfl) (by kernel_rfl) (by kernel_rfl) (fun _ _ _ h => False.elim h) (Or.inl ⟨by rfl, ?_⟩) ⟨hBX_5, LO_5⟩ ?_
            · intro wx hSw
              go_simp
            simp only [Act.put, List.setIfInBounds_toArray, List.set_cons_zero, List.set_cons_succ]
            refine wpAnyH_ready (rs := [10]) (by kernel_rfl) (by simp) ?_
            refine AllReadyH.cons nat10 (fun K hK => ?_) AllReadyH.nil
            have y0 := NB8_5.cell 0
            have y1 := NB8_5.cell 1
            have y2 := NB8_5.cell 2
            have y3 := NB8_5.cell 3
            simp only [List.getElem?_toArray, List.getElem?_cons_succ, List.getElem?_cons_zero] at y0 y1 y2 y3
            have yf := NB8_5.free
            go_simp
            clear yf y0 y1 y2 y3
            have LO_6s0 := LO_5.setCell (p := ⟨G4, 0, none⟩) hlt4 (.slice ua5 ul5.length up5)
            have hBX_6s0 := hBX_5.set_other (p := ⟨G4, 0, none⟩) (by show G4 ≠ F; omega) (.slice ua5 ul5.length up5)
            have NB8_6s0 := NB8_5.set 0 (.slice ua5 ul5.length up5)
            have OU_6s0 := (show OwnMeta _ _ _ _ from rg_set (o := 0) OU_5 NB8_5 (by decide) (.slice ua5 ul5.length up5))
            have LO_6s1 := LO_6s0.setCell (p := ⟨G4, 1, none⟩) hlt4 (.int .i64 ((apC X (E k)).x1))
            have hBX_6s1 := hBX_6s0.set_other (p := ⟨G4, 1, none⟩) (by show G4 ≠ F; omega) (.int .i64 ((apC X (E k)).x1))
            have NB8_6s1 := NB8_6s0.set 1 (.int .i64 ((apC X (E k)).x1))
            have OU_6s1 := (show OwnMeta _ _ _ _ from rg_set (o := 1) OU_6s0 NB8_6s0 (by decide) (.int .i64 ((apC X (E k)).x1)))
            have LO_6s2 := LO_6s1.setCell (p := ⟨G4, 2, none⟩) hlt4 (.int .i64 ((apC X (E k)).x2))
            have hBX_6s2 := hBX_6s1.set_other (p := ⟨G4, 2, none⟩) (by show G4 ≠ F; omega) (.int .i64 ((apC X (E k)).x2))
            have NB8_6s2 := NB8_6s1.set 2 (.int .i64 ((apC X (E k)).x2))
            have OU_6s2 := (show OwnMeta _ _ _ _ from rg_set (o := 2) OU_6s1 NB8_6s1 (by decide) (.int .i64 ((apC X (E k)).x2)))
            have LO_6s3 := LO_6s2.setCell (p := ⟨G4, 3, none⟩) hlt4 (.int .i64 ((apC X (E k)).x3))
            have hBX_6s3 := hBX_6s2.set_other (p := ⟨G4, 3, none⟩) (by show G4 ≠ F; omega) (.int .i64 ((apC X (E k)).x3))
            have NB8_6s3 := NB8_6s2.set 3 (.int .i64 ((apC X (E k)).x3))
            have OU_6s3 := (show OwnMeta _ _ _ _ from rg_set (o := 3) OU_6s2 NB8_6s2 (by decide) (.int .i64 ((apC X (E k)).x3)))
            have LO_6 := LO_6s3
            have hBX_6 := hBX_6s3
            have NB8_6 : BoxIs ((((wq5.setCell ⟨G4, 0, none⟩ (.slice ua5 ul5.length up5)).setCell ⟨G4, 1, none⟩ (.int .i64 ((apC X (E k)).x1))).setCell ⟨G4, 2, none⟩ (.int .i64 ((apC X (E k)).x2))).setCell ⟨G4, 3, none⟩ (.int .i64 ((apC X (E k)).x3))) G4 #[.slice ua5 ul5.length up5, .int .i64 ((apC X (E k)).x1), .int .i64 ((apC X (E k)).x2), .int .i64 ((apC X (E k)).x3)] 32 := NB8_6s3
            have OU_6 := OU_6s3
            refine hK.out _ _ ⟨hBX_6, LO_6⟩ (fun hSz => ?_)
            clear hK K hSz LO_5 NB8_5 OU_5 hBX_5 LO_6s0 LO_6s1 LO_6s2 LO_6s3 hBX_6s0 hBX_6s1 hBX_6s2 hBX_6s3 NB8_6s0 NB8_6s1 NB8_6s2 NB8_6s3 OU_6s0 OU_6s1 OU_6s2 OU_6s3
            generalize (((wq5.setCell ⟨G4, 0, none⟩ (.slice ua5 ul5.length up5)).setCell ⟨G4, 1, none⟩ (.int .i64 ((apC X (E k)).x1))).setCell ⟨G4, 2, none⟩ (.int .i64 ((apC X (E k)).x2))).setCell ⟨G4, 3, none⟩ (.int .i64 ((apC X (E k)).x3)) = wq6 at LO_6 hBX_6 NB8_6 OU_6 ⊢
            refine wpAnyH_take (i := 11) (v := .bool (apB X (E k))) nat11 (by kernel_rfl) (by kernel_rfl) (by kernel_rfl) (fun _ _ _ h => False.elim h) (Or.inl ⟨by rfl, ?_⟩) ⟨hBX_6, LO_6⟩ ?_
            · intro wx hSw
              go_simp
            simp only [Act.put, List.setIfInBounds_toArray, List.set_cons_zero, List.set_cons_succ]
            refine wpAnyH_done (by kernel_rfl) ?_ _
            refine NoPanic.normal ?_
            go_wp2_with fail
            go_meet
            exact ⟨G4, ua5, ul5, up5, rfl, rfl, HUC5.out, hide LO_6, hide NB8_6, hide OU_6⟩
        case rest =>
        obtain ⟨N, ua2, ul2, up2, rfl, rfl, huc, HBW, HN, HOU6⟩ := hcut
        obtain ⟨w6, rfl⟩ : ∃ V, V = wc := ⟨_, rfl⟩
        have HLW6 := hide (HLW.out.trans (HBW.out.mono HLW.out.size))
        have HBX6 := (HBX.out.next HBW.out).hid
        have HOW6 := (HOW.out.next HBW.out).hid
        generalize hY : apC X (E k) = Y at huc HN
        have hY2 : repS (cpV c) E (k + 1) = Y := by rw [repS, HXX.out, hY]
        have HYY := hide hY2
        have hK2 : ∀ ab, apB X (E k) = ab → repK (cpV c) E (k + 1) = ab := fun ab h => by rw [repK, HRK.out, HXX.out, h]; rfl
        have HK2 := hide hK2
        have HUC := hide huc
        clear hY hY2 hAp huc c0 c1 c2 c3 c4 HOW HBX hK2 hBX HBW
        obtain ⟨ab, hab⟩ : ∃ ab, apB X (E k) = ab := ⟨_, rfl⟩
        rw [hab]
        have HAB := hide hab
        clear hab
        cases ab with
        | false =>
          obtain ⟨hi, hc⟩ := rep_stop (n := n) hok HRK.out (by rw [HXX.out]; exact HAB.out) hlt
          have z0 := HBX6.out.cell 0
          have z1 := HBX6.out.cell 1
          have z2 := HBX6.out.cell 2
          have z3 := HBX6.out.cell 3
          have hR := HX.out.next HLW6.out
          have r0 := hR.cell 0
          have r1 := hR.cell 1
          have r2 := hR.cell 2
          have r3 := hR.cell 3
          have rf := hR.free
          simp only [List.getElem?_toArray, List.getElem?_cons_succ, List.getElem?_cons_zero] at z0 z1 z2 z3 r0 r1 r2 r3
          have b1 := hR.set 0 (.slice va l.length p)
          have b2 := b1.set 1 (.int .i64 X.x1)
          have b3 := b2.set 2 (.int .i64 X.x2)
          have HOWE := hide (show OwnMeta _ _ _ _ from rg_set (o := 3) (rg_set (rg_set (rg_set HOW6.out hR (by decide) (.slice va l.length p)) b1 (by decide) (.int .i64 X.x1)) b2 (by decide) (.int .i64 X.x2)) b3 (by decide) (.int .i64 X.x3))
          have HLOW := hide (HB0.out.trans (HLW6.out.mono HB0.out.size))
          have hle : w.heap.size ≤ w.heap.size + 1 := by omega
          have HI := hide hi
          have HCC := hide hc
          clear hR hi hc b1 b2 b3 HN HOW6 HOU6 HBX6 HLW6
          go_wp2
          refine bodyPost_ret (v := .tuple #[.agg #[.slice va l.length p, .int .i64 X.x1, .int .i64 X.x2, .int .i64 X.x3], .int .i64 k]) (by simp [results, Try.results19, go_sem, r0, r1, r2, r3]) rfl ⟨⟨_, by rw [HI.out], by rw [HCC.out, HXX.out]; exact ⟨_, l, rfl, HOWE.out.base HB0.out.size, HXE.out⟩⟩, ?_⟩
          exact (((HLOW.out.setCell hle _).setCell hle _).setCell hle _).setCell hle _
        | true =>
          have n0 := HN.out.cell 0
          have n1 := HN.out.cell 1
          have n2 := HN.out.cell 2
          have n3 := HN.out.cell 3
          have z0 := HBX6.out.cell 0
          have z1 := HBX6.out.cell 1
          have z2 := HBX6.out.cell 2
          have z3 := HBX6.out.cell 3
          have zf := HBX6.out.free
          simp only [List.getElem?_toArray, List.getElem?_cons_succ, List.getElem?_cons_zero] at n0 n1 n2 n3 z0 z1 z2 z3
          have b1 := HBX6.out.set 0 (.slice ua2 ul2.length up2)
          have b2 := b1.set 1 (.int .i64 Y.x1)
          have b3 := b2.set 2 (.int .i64 Y.x2)
          have b4 := b3.set 3 (.int .i64 Y.x3)
          have hOE := (show OwnMeta _ _ _ _ from rg_set (o := 3) (rg_set (rg_set (rg_set HOU6.out HBX6.out (by decide) (.slice ua2 ul2.length up2)) b1 (by decide) (.int .i64 Y.x1)) b2 (by decide) (.int .i64 Y.x2)) b3 (by decide) (.int .i64 Y.x3))
          have hFle := hFl
          have HRN : Hid (RepSt W F (cpV c) E (k + 1) _) := hide ⟨(((HLW6.out.setCell (p := ⟨F, 0, none⟩) hFl _).setCell (p := ⟨F, 1, none⟩) hFl _).setCell (p := ⟨F, 2, none⟩) hFl _).setCell (p := ⟨F, 3, none⟩) hFl _, ⟨ua2, ul2, up2, by rw [HYY.out]; exact HUC.out, hOE, by rw [HYY.out]; exact b4⟩, HK2.out true HAB.out, hFl⟩
          clear b1 b2 b3 b4 hOE HN HOW6 HOU6 HBX6 HLW6 hFle
          go_wp2
          exact ⟨⟨k + 1, by go_num, by omega, HRN⟩, by simp [intOf]; omega⟩
      · obtain rfl : k = n := by omega
        obtain ⟨hi, hc⟩ := rep_end hok HRK.out
        have z0 := HBX.out.cell 0
        have z1 := HBX.out.cell 1
        have z2 := HBX.out.cell 2
        have z3 := HBX.out.cell 3
        have hR := HX.out.next HLW.out
        have r0 := hR.cell 0
        have r1 := hR.cell 1
        have r2 := hR.cell 2
        have r3 := hR.cell 3
        have rf := hR.free
        simp only [List.getElem?_toArray, List.getElem?_cons_succ, List.getElem?_cons_zero] at z0 z1 z2 z3 r0 r1 r2 r3
        have b1 := hR.set 0 (.slice va l.length p)
        have b2 := b1.set 1 (.int .i64 X.x1)
        have b3 := b2.set 2 (.int .i64 X.x2)
        have HOWE := hide (show OwnMeta _ _ _ _ from rg_set (o := 3) (rg_set (rg_set (rg_set HOW.out hR (by decide) (.slice va l.length p)) b1 (by decide) (.int .i64 X.x1)) b2 (by decide) (.int .i64 X.x2)) b3 (by decide) (.int .i64 X.x3))
        have HLOW := hide (HB0.out.trans (HLW.out.mono HB0.out.size))
        have hle : w.heap.size ≤ w.heap.size + 1 := by omega
        have HI := hide hi
        have HCC := hide hc
        clear hR hi hc b1 b2 b3 HOW HBX HLW
        go_wp2
        refine bodyPost_ret (v := .tuple #[.agg #[.slice va l.length p, .int .i64 X.x1, .int .i64 X.x2, .int .i64 X.x3], .int .i64 k]) (by simp [results, Try.results19, go_sem, r0, r1, r2, r3]) rfl ⟨⟨_, by rw [HI.out], by rw [HCC.out, HXX.out]; exact ⟨_, l, rfl, HOWE.out.base HB0.out.size, HXE.out⟩⟩, ?_⟩
        exact (((HLOW.out.setCell hle _).setCell hle _).setCell hle _).setCell hle _

end Go.Proofs.Ytplbhgcibfajaaa

/- The marks that the laws lay into a row of edits; a row of edits as Replay of the program reads it; a row of edits that came in. -/
namespace Go.Proofs.Ytplbhgcibfajaaa
set_option maxRecDepth 100000
open Go.RowKit Go.Deep

/-- What turns only blocks from lo on, ahead of hi. -/
structure MvR (lo hi : Nat) (w w' : World) : Prop where
  os : w'.os = w.os
  tape : w'.tape = w.tape
  output : w'.output = w.output
  size : w.heap.size ≤ w'.heap.size
  block : ∀ k, k < w.heap.size → (k < lo ∨ hi ≤ k) → w'.heap[k]? = w.heap[k]?
theorem MvR.refl (lo hi : Nat) (w : World) : MvR lo hi w w := ⟨rfl, rfl, rfl, Nat.le_refl _, fun _ _ _ => rfl⟩
theorem MvR.mv {lo hi g : Nat} {a b c : World} (h : MvR lo hi a b) (k : Mv g b c) (h1 : lo ≤ g) (h2 : g < hi) : MvR lo hi a c :=
  ⟨k.os.trans h.os, k.tape.trans h.tape, k.output.trans h.output, Nat.le_trans h.size k.size, fun i hi' hg => (k.block i (Nat.lt_of_lt_of_le hi' h.size) (by omega)).trans (h.block i hi' hg)⟩
theorem MvR.below {lo hi B : Nat} {w w' : World} (h : MvR lo hi w w') (hB : B ≤ w.heap.size) (hl : B ≤ lo) : Below B w w' :=
  ⟨h.os, h.tape, h.output, h.size, fun k hk => h.block k (by omega) (.inl (by omega))⟩
theorem Mine.mvr {w w' : World} {B lo hi : Nat} {ty : TypeId} {k : Nat} {a : Option Addr} {p n : Nat} {f : Nat → Value} (h : Mine w B ty k a p n f) (hm : MvR lo hi w w') (hx : hi ≤ B) : Mine w' B ty k a p n f := h.block fun g hB hg => hm.block g hg (.inr (by omega))
theorem BoxIs.mvr {w w' : World} {F lo hi : Nat} {cs : Array Value} {t : TypeId} (h : BoxIs w F cs t) (hm : MvR lo hi w w') (hx : F < lo ∨ hi ≤ F) : BoxIs w' F cs t := (hm.block F h.lt hx).trans h

/-- Cells that can be written. -/
def Wr (x : World) (g n : Nat) : Prop := g < x.heap.size ∧ ∀ j, j < n → (∃ v, x.cell? ⟨g, j, none⟩ = some v) ∧ x.frozen? ⟨g, j, none⟩ = false
theorem Wr.mv {x y : World} {g n b : Nat} (h : Wr x g n) (hm : Mv b x y) (hne : g ≠ b) : Wr y g n := by
  refine ⟨Nat.lt_of_lt_of_le h.1 hm.size, fun j hj => ?_⟩
  obtain ⟨⟨v, hv⟩, hf⟩ := h.2 j hj
  exact ⟨⟨v, (hm.cell (p := ⟨g, j, none⟩) h.1 hne).trans hv⟩, (hm.frozen (p := ⟨g, j, none⟩) h.1 hne).trans hf⟩
theorem Wr.set {x : World} {g n : Nat} (h : Wr x g n) (p : Addr) (v : Value) : Wr (x.setCell p v) g n := by
  refine ⟨by simpa using h.1, fun j hj => ?_⟩
  obtain ⟨⟨u, hu⟩, hf⟩ := h.2 j hj
  exact ⟨cell?_setCell_some hu, by simpa using hf⟩
theorem Wr.row {x : World} {g n : Nat} {t : TypeId} {f : Nat → Value} (h : x.rowIs g t n f) : Wr x g n := ⟨h.lt, rowIs_mark h⟩

/-- While a row of edits is marked. -/
structure EMk (w : World) (g C n : Nat) (E : Nat → EditC) (G0 G1 : Nat → Nat) (k : Nat) (x : World) : Prop where
  mv : MvR g C w x
  sl : ∀ i, k ≤ i → i < n → x.cell? ⟨g, i * 5, none⟩ = some (.slice (some ⟨G0 i, 0, none⟩) (E i).n0 (E i).n0) ∧ x.cell? ⟨g, i * 5 + 1, none⟩ = some (.slice (some ⟨G1 i, 0, none⟩) (E i).n1 (E i).n1)
  wr : Wr x g (n * 5)
  r0 : ∀ i, k ≤ i → i < n → Wr x (G0 i) ((E i).n0 * 5)
  r1 : ∀ i, k ≤ i → i < n → Wr x (G1 i) (E i).n1
/-- Where the rows lie. -/
structure ELay (g C n : Nat) (G0 G1 : Nat → Nat) : Prop where
  lo : ∀ i, i < n → g < G0 i ∧ G0 i < G1 i ∧ G1 i < C
  ord : ∀ i j, i < j → j < n → G1 i < G0 j
  hg : g < C
theorem EMk.start {w0 w : World} {g n : Nat} {E : Nat → EditC} {G0 G1 : Nat → Nat} (h : ECopy w0 w g n n E G0 G1) (C : Nat) : EMk w g C n E G0 G1 0 w :=
  ⟨MvR.refl _ _ _, fun _ _ hi => ⟨(h.cells hi).1, (h.cells hi).2.1⟩, Wr.row h.row, fun i _ hi => Wr.row (h.each i hi).2.2.1, fun i _ hi => Wr.row (h.each i hi).2.2.2⟩
theorem ECopy.lay {w0 w : World} {g n : Nat} {E : Nat → EditC} {G0 G1 : Nat → Nat} (h : ECopy w0 w g n n E G0 G1) : ELay g w.heap.size n G0 G1 :=
  ⟨fun i hi => ⟨(h.each i hi).1, (h.each i hi).2.1, (h.each i hi).2.2.2.lt⟩, h.ord, h.row.lt⟩
section
variable {w : World} {g C n : Nat} {E : Nat → EditC} {G0 G1 : Nat → Nat} {k : Nat} {x y : World}
/-- Behind the marks of one edit's two rows: the slices and cells of what is left. -/
theorem EMk.rows (h : EMk w g C n E G0 G1 k x) (L : ELay g C n G0 G1) (hk : k < n) {xm : World} (m0 : Mv (G0 k) x xm) (m1 : Mv (G1 k) xm y) : MvR g C w y ∧ (∀ i, k + 1 ≤ i → i < n → y.cell? ⟨g, i * 5, none⟩ = some (.slice (some ⟨G0 i, 0, none⟩) (E i).n0 (E i).n0) ∧ y.cell? ⟨g, i * 5 + 1, none⟩ = some (.slice (some ⟨G1 i, 0, none⟩) (E i).n1 (E i).n1)) ∧ Wr y g (n * 5) ∧ (∀ i, k + 1 ≤ i → i < n → Wr y (G0 i) ((E i).n0 * 5)) ∧ (∀ i, k + 1 ≤ i → i < n → Wr y (G1 i) (E i).n1) := by
  obtain ⟨l0, l1, l2⟩ := L.lo k hk
  refine ⟨(h.mv.mv m0 (by omega) (by omega)).mv m1 (by omega) l2, fun i hi hn => ?_, (h.wr.mv m0 (by omega)).mv m1 (by omega), fun i hi hn => ?_, fun i hi hn => ?_⟩
  · obtain ⟨s0, s1⟩ := h.sl i (by omega) hn
    have hg := h.wr.1
    have hgm := Nat.lt_of_lt_of_le hg m0.size
    exact ⟨(m1.cell (p := ⟨g, _, none⟩) hgm (by show g ≠ _; omega)).trans ((m0.cell (p := ⟨g, _, none⟩) hg (by show g ≠ _; omega)).trans s0), (m1.cell (p := ⟨g, _, none⟩) hgm (by show g ≠ _; omega)).trans ((m0.cell (p := ⟨g, _, none⟩) hg (by show g ≠ _; omega)).trans s1)⟩
  · obtain ⟨k0, k1, k2⟩ := L.lo i hn
    have := L.ord k i (by omega) hn
    exact ((h.r0 i (by omega) hn).mv m0 (by omega)).mv m1 (by omega)
  · obtain ⟨k0, k1, k2⟩ := L.lo i hn
    have := L.ord k i (by omega) hn
    exact ((h.r1 i (by omega) hn).mv m0 (by omega)).mv m1 (by omega)
/-- The edit's numbers are marked: on to the next one. -/
theorem EMk.nums (h : MvR g C w y ∧ (∀ i, k + 1 ≤ i → i < n → y.cell? ⟨g, i * 5, none⟩ = some (.slice (some ⟨G0 i, 0, none⟩) (E i).n0 (E i).n0) ∧ y.cell? ⟨g, i * 5 + 1, none⟩ = some (.slice (some ⟨G1 i, 0, none⟩) (E i).n1 (E i).n1)) ∧ Wr y g (n * 5) ∧ (∀ i, k + 1 ≤ i → i < n → Wr y (G0 i) ((E i).n0 * 5)) ∧ (∀ i, k + 1 ≤ i → i < n → Wr y (G1 i) (E i).n1)) (hgC : g < C) (v2 v3 v4 : Value) :
    EMk w g C n E G0 G1 (k + 1) (((y.setCell ⟨g, k * 5 + 2, none⟩ v2).setCell ⟨g, k * 5 + 3, none⟩ v3).setCell ⟨g, k * 5 + 4, none⟩ v4) := by
  obtain ⟨hm, hs, hw, h0, h1⟩ := h
  have hM : Mv g y (((y.setCell ⟨g, k * 5 + 2, none⟩ v2).setCell ⟨g, k * 5 + 3, none⟩ v3).setCell ⟨g, k * 5 + 4, none⟩ v4) := (((Mv.refl g y).setCell v2).setCell v3).setCell v4
  refine ⟨hm.mv hM (Nat.le_refl _) hgC, fun i hi hn => ?_, ((hw.set _ _).set _ _).set _ _, fun i hi hn => (((h0 i hi hn).set _ _).set _ _).set _ _, fun i hi hn => (((h1 i hi hn).set _ _).set _ _).set _ _⟩
  obtain ⟨s0, s1⟩ := hs i hi hn
  constructor
  · rw [World.cell?_setCell_other, World.cell?_setCell_other, World.cell?_setCell_other]
    · exact s0
    all_goals simp <;> omega
  · rw [World.cell?_setCell_other, World.cell?_setCell_other, World.cell?_setCell_other]
    · exact s1
    all_goals simp <;> omega
end

/-- Rows of a copy, whatever lay lower. -/
structure ERow (w : World) (g n : Nat) (E : Nat → EditC) (G0 G1 : Nat → Nat) : Prop where
  row : w.rowIs g 37 (n * 5) (fillEd E G0 G1 n)
  each : ∀ i, i < n → g < G0 i ∧ G0 i < G1 i ∧ w.rowIs (G0 i) 59 ((E i).n0 * 5) (metaCell (E i).r0) ∧ w.rowIs (G1 i) 2 (E i).n1 (fun j => .int .i64 ((E i).r1 j))
theorem ECopy.rows {w0 w : World} {g n : Nat} {E : Nat → EditC} {G0 G1 : Nat → Nat} (h : ECopy w0 w g n n E G0 G1) : ERow w g n E G0 G1 := ⟨h.row, h.each⟩
theorem ERow.mv {w w' : World} {g n x : Nat} {E : Nat → EditC} {G0 G1 : Nat → Nat} (h : ERow w g n E G0 G1) (hm : Mv x w w') (hx : x < g) : ERow w' g n E G0 G1 :=
  ⟨rowIs_mv h.row hm (by omega), fun i hi => by
    obtain ⟨q1, q2, q3, q4⟩ := h.each i hi
    exact ⟨q1, q2, rowIs_mv q3 hm (by omega), rowIs_mv q4 hm (by omega)⟩⟩
theorem EMk.of_rows {w : World} {g n : Nat} {E : Nat → EditC} {G0 G1 : Nat → Nat} (h : ERow w g n E G0 G1) (C : Nat) : EMk w g C n E G0 G1 0 w := by
  refine ⟨MvR.refl _ _ _, fun i _ hi => ⟨?_, ?_⟩, Wr.row h.row, fun i _ hi => Wr.row (h.each i hi).2.2.1, fun i _ hi => Wr.row (h.each i hi).2.2.2⟩
  · rw [h.row.cell (by omega), fillEd, if_pos (by omega), edCell0]
  · rw [h.row.cell (by omega), fillEd, if_pos (by omega), edCell1]

set_option linter.unusedVariables false in
set_option maxHeartbeats 2000000 in
theorem laws_markEditS (K0 : Nat) (kv : Int) (hkv : kv = (K0 : Int)) (hK : 1 ≤ K0 ∧ K0 ≤ 30000000) (g C n cap : Nat) (E : Nat → EditC) (G0 G1 : Nat → Nat) (w : World) (hf : EditsFit n E) (L : ELay g C n G0 G1) (h : EMk w g C n E G0 G1 0 w) :
    Calls Try.prog 23 #[.slice (some ⟨g, 0, none⟩) n cap, .int .i64 kv] w fun e w' => e = .returned (.int .i64 ((K0 + edSum E n : Nat) : Int)) ∧ MvR g C w w' := by
  have HR0 := hide h
  have HL := hide L
  have hn : n ≤ 1048576 := by unfold EditsFit at hf; omega
  have HF := hide (fun i (hi : i < n) => hf.at hi)
  have hsum : ∀ k, k ≤ n → edSum E k ≤ 10000000 := fun k hk => by
    have h1 := edSum_le E k
    have h2 : ∀ {a b : Nat}, a ≤ b → edLen E a ≤ edLen E b := fun {a b} hab => by
      induction hab with
      | refl => exact Nat.le_refl _
      | step _ ih => rw [edLen]; omega
    have := h2 hk
    unfold EditsFit at hf
    omega
  have HSm := hide hsum
  subst hkv
  clear h L hf hsum
  go_enter Try.func23, Try.ntmps23
  go_wp2
  go_loopw [1, 5] (fun q i wr => ∃ k : Nat, q = .int .i64 ((K0 + edSum E k : Nat) : Int) ∧ i = .int .i64 k ∧ k ≤ n ∧ Hid (EMk w g C n E G0 G1 k wr)) (fun _ i _ => n - (intOf i).toNat)
  case atStart => exact ⟨0, by simp [edSum], rfl, by omega, HR0⟩
  case round =>
    obtain ⟨k, rfl, rfl, hk, HR⟩ := hrel
    clear HR0
    by_cases hlt : k < n
    · have hki : (k : Int) < (n : Int) := by omega
      obtain ⟨s0, s1⟩ := HR.out.sl k (Nat.le_refl _) hlt
      obtain ⟨f0, f1⟩ := HF.out k hlt
      obtain ⟨l0, l1, l2⟩ := HL.out.lo k hlt
      have hs := HSm.out k hk
      have hs1 := HSm.out (k + 1) hlt
      have he : edSum E (k + 1) = edSum E k + (E k).n0 * 5 + (E k).n1 + 3 := rfl
      go_wp2_with fail
      refine (laws_markMetaS (K0 + edSum E k) _ rfl ⟨by omega, by omega⟩ _ (E k).n0 (E k).n0 (G0 k) wr f0 (.inr rfl) (HR.out.r0 k (Nat.le_refl _) hlt).2).mono ?_
      rintro e w1 ⟨rfl, hM0⟩
      have hm0 := hM0.mv
      have s1' := (hm0.cell (p := ⟨g, k * 5 + 1, none⟩) HR.out.wr.1 (by show g ≠ _; omega)).trans s1
      have hw1 := ((HR.out.r1 k (Nat.le_refl _) hlt).mv hm0 (by omega)).2
      clear s0 s1 hM0
      go_wp2_with fail
      refine (laws_markInt64S (K0 + edSum E k + (E k).n0 * 5) _ rfl ⟨by omega, by omega⟩ _ (E k).n1 (E k).n1 (G1 k) w1 f1 (.inr rfl) hw1).mono ?_
      rintro e w2 ⟨rfl, hM1⟩
      have HN := hide (HR.out.rows HL.out hlt hm0 hM1.mv)
      clear hM1 hm0 s1' hw1 HR
      obtain ⟨⟨v2, c2⟩, _⟩ := HN.out.2.2.1.2 (k * 5 + 2) (by omega)
      obtain ⟨⟨v3, c3⟩, _⟩ := HN.out.2.2.1.2 (k * 5 + 3) (by omega)
      obtain ⟨⟨v4, c4⟩, _⟩ := HN.out.2.2.1.2 (k * 5 + 4) (by omega)
      have z2 := (HN.out.2.2.1.2 (k * 5 + 2) (by omega)).2
      have z3 := (HN.out.2.2.1.2 (k * 5 + 3) (by omega)).2
      have z4 := (HN.out.2.2.1.2 (k * 5 + 4) (by omega)).2
      have HX := fun a b c => hide (EMk.nums HN.out HL.out.hg a b c)
      have hq1 : IntKind.i64.wrap (((K0 + edSum E k + (E k).n0 * 5 + (E k).n1 : Nat) : Int) + 1) = ((K0 + edSum E k + (E k).n0 * 5 + (E k).n1 + 1 : Nat) : Int) := by rw [IntKind.wrap_i64]; omega
      have hq2 : IntKind.i64.wrap (((K0 + edSum E k + (E k).n0 * 5 + (E k).n1 + 1 : Nat) : Int) + 1) = ((K0 + edSum E k + (E k).n0 * 5 + (E k).n1 + 2 : Nat) : Int) := by rw [IntKind.wrap_i64]; omega
      have hq3 : IntKind.i64.wrap (((K0 + edSum E k + (E k).n0 * 5 + (E k).n1 + 2 : Nat) : Int) + 1) = ((K0 + edSum E (k + 1) : Nat) : Int) := by rw [IntKind.wrap_i64, he]; omega
      have hT3 : K0 + edSum E k + (E k).n0 * 5 + (E k).n1 + 3 = K0 + edSum E (k + 1) := by omega
      generalize hT : K0 + edSum E k + (E k).n0 * 5 + (E k).n1 = T at hq1 hq2 hq3 hT3 ⊢
      clear HN hs1 he
      go_wp2
      exact ⟨⟨k + 1, by first | rfl | (congr 1; omega), by go_num, by omega, HX _ _ _⟩, by simp [intOf]; omega⟩
    · obtain rfl : k = n := by omega
      go_wp2
      go_ret
      exact ⟨rfl, HR.out.mv⟩

end Go.Proofs.Ytplbhgcibfajaaa

/- A row of edits that came in. -/
namespace Go.Proofs.Ytplbhgcibfajaaa
set_option maxRecDepth 100000
open Go.RowKit Go.Deep

def ArgEdits (w : World) (v : Value) : Prop := ∃ a n p E, v = .slice a n p ∧ EditsAt w w.heap.size a n E ∧ n ≤ maxLen ∧ ∀ i, i < n → (E i).Small

theorem open_edits {H : Type} {enc : TypeId × Value → H} {w : World} {r : Reach} {b0 base : Nat} {spare : Nat → Bool} {held : Bool} {v : Value} {d : DataW H} {p : List MemPlace}
    (hv : Value.okWide Try.prog w r b0 44 v) (h : DataW.Trod enc Try.prog w base spare held 44 v d p) : ArgEdits w v := by
  obtain ⟨a, len, cap, rfl⟩ := WideShapes.okWide_slice Try.underlying44 hv
  obtain ⟨fuel, hf⟩ := h
  have hc5 : Try.prog.cellsOf 27 = 5 := by kernel_rfl
  have hIn : Inhabited (Option Addr × Nat × Option Addr × Nat × EditC) := ⟨(none, 0, none, 0, ⟨0, ⟨fun _ => 0, fun _ => 0, fun _ => ByteArray.empty, fun _ => ByteArray.empty, fun _ => 0⟩, 0, fun _ => 0, 0, 0, 0⟩)⟩
  rcases open_slice Try.underlying44 hf with ⟨hcs, _⟩ | ⟨x, l, c, m, n, D, Pl, hcs, _, hl, hm, hmm, _, hx⟩
  · simp [Value.cells] at hcs
    obtain ⟨rfl, rfl, rfl⟩ := hcs
    exact ⟨_, _, _, fun _ => hIn.default.2.2.2.2, rfl, .inl rfl, Nat.zero_le _, fun _ h => absurd h (by omega)⟩
  · simp [Value.cells] at hcs
    obtain ⟨rfl, rfl, rfl⟩ := hcs
    have hlm : len ≤ m := by rw [hmm]; split <;> omega
    rw [hc5] at hx
    obtain ⟨b, off, spot⟩ := x
    have each : ∀ i, i < m → ∃ q : Option Addr × Nat × Option Addr × Nat × EditC, (w.cell? ⟨b, off + i * 5, none⟩ = some (.slice q.1 q.2.2.2.2.n0 q.2.1) ∧ w.cell? ⟨b, off + i * 5 + 1, none⟩ = some (.slice q.2.2.1 q.2.2.2.2.n1 q.2.2.2.1) ∧ w.cell? ⟨b, off + i * 5 + 2, none⟩ = some (.int .i64 q.2.2.2.2.x2) ∧ w.cell? ⟨b, off + i * 5 + 3, none⟩ = some (.int .i64 q.2.2.2.2.x3) ∧ w.cell? ⟨b, off + i * 5 + 4, none⟩ = some (.int .i64 q.2.2.2.2.x4)) ∧ MetaAt w w.heap.size q.1 q.2.2.2.2.n0 q.2.2.2.2.r0 ∧ IntAt w w.heap.size q.2.2.1 q.2.2.2.2.n1 q.2.2.2.2.r1 ∧ q.2.2.2.2.Small ∧ spot = none := fun i hi => by
      obtain ⟨cs', h1, h2⟩ := hx i hi
      obtain ⟨_, _, hcell⟩ := World.cells?_some h1
      obtain ⟨d, a0, p0, a1, p1, rfl, hA, hU, hs⟩ := edit_trodC h2
      have e0 := hcell 0 (by omega)
      have e1 := hcell 1 (by omega)
      have e2 := hcell 2 (by omega)
      have e3 := hcell 3 (by omega)
      have e4 := hcell 4 (by omega)
      have hspot : spot = none := by
        have hx0 := (World.cells?_some (hx 0 (by omega)).choose_spec.1).2.2 0 (by omega)
        obtain ⟨d2, a2, p2, a3, p3, hcs, _⟩ := edit_trodC (hx 0 (by omega)).choose_spec.2
        rw [hcs] at hx0
        have hx1 : w.cell? ⟨b, off, spot⟩ = some (.slice a2 d2.n0 p2) := by simpa [Addr.add] using hx0
        simpa using World.cell?_spot hx1
      subst hspot
      rw [Addr.add_lit, Addr.add_lit] at e0 e1 e2 e3 e4
      exact ⟨(a0, p0, a1, p1, d), ⟨by simpa using e0, by simpa using e1, by simpa using e2, by simpa using e3, by simpa using e4⟩, hA, hU, hs, rfl⟩
    obtain ⟨q, hq⟩ := choose_lt each
    refine ⟨_, _, _, fun i => (q i).2.2.2.2, rfl, ?_, by omega, fun i hi => (hq i (by omega)).2.2.2.1⟩
    rcases Nat.eq_zero_or_pos len with h0 | h0
    · exact .inl h0
    · have hspot : spot = none := (hq 0 (by omega)).2.2.2.2
      subst hspot
      have hb : b < w.heap.size := World.block_lt_of_cell? w ⟨b, off + 0 * 5, none⟩ (hq 0 (by omega)).1.1
      exact .inr ⟨b, off, rfl, hb, fun i hi => ⟨(q i).1, (q i).2.1, (q i).2.2.1, (q i).2.2.2.1, (hq i (by omega)).1, (hq i (by omega)).2.1, (hq i (by omega)).2.2.1⟩⟩

end Go.Proofs.Ytplbhgcibfajaaa

/- The law on Replay. (By gen_lreplay.py.) -/
namespace Go.Proofs.Ytplbhgcibfajaaa
set_option maxRecDepth 100000
open Go.RowKit Go.Deep

theorem spec_ReplayO (v : Value) (c : VersionC) (a : Option Addr) (n cap : Nat) (E : Nat → EditC) (w : World) (hf : c.Fit) (hn : n ≤ 1048576) (hE : ∀ i, i < n → (E i).Fit) (hv : VersionIs w v c) (he : EditsSrc w a n E) :
    Calls Try.prog 19 #[v, .slice a n cap] w fun x w' => (∃ u, x = .returned (.tuple #[u, .int .i64 (repI c n E)]) ∧ VersionOwn w' w.heap.size u (repC c n E)) ∧ Below w.heap.size w w' :=
  (spec_Replay v c a n cap E w hf hn hE hv he).mono (by rintro x w' ⟨⟨u, hu, ho⟩, hb⟩; exact ⟨⟨u, hu, ho.own⟩, hb⟩)
theorem impl_ReplayO (v : Value) (c : VersionC) (a : Option Addr) (n cap : Nat) (E : Nat → EditC) (w : World) (hf : c.Fit) (hn : n ≤ 1048576) (hE : ∀ i, i < n → (E i).Fit) (hv : VersionIs w v c) (he : EditsSrc w a n E) :
    Calls Try.prog 21 #[v, .slice a n cap] w fun x w' => (∃ u, x = .returned (.tuple #[u, .int .i64 (repI c n E)]) ∧ VersionOwn w' w.heap.size u (repC c n E)) ∧ Below w.heap.size w w' :=
  (impl_Replay v c a n cap E w hf hn hE hv he).mono (by rintro x w' ⟨⟨u, hu, ho⟩, hb⟩; exact ⟨⟨u, hu, ho.own⟩, hb⟩)

set_option linter.unusedSimpArgs false in
set_option linter.unusedVariables false in
set_option maxHeartbeats 8000000 in
theorem walk_Replay {w : World} (v0 : Value) (hv0 : ArgVersion w v0) (v1 : Value) (hv1 : ArgEdits w v1) (_w : World) :
    Calls Try.prog 4 #[v0, v1] w fun e w' => e = .returned (.bool true) ∧ Below w.heap.size w w' := by
  obtain ⟨c0, hI0, hsm0⟩ := hv0
  obtain ⟨a0, p0, rfl, hr0⟩ := hI0
  obtain ⟨a1, n1, p1, E, rfl, hr1, hn1, hsm1⟩ := hv1
  have hB0 : Below w.heap.size w (w.alloc (.cells #[.slice a0 c0.n0 p0, .int .i64 c0.x1, .int .i64 c0.x2, .int .i64 c0.x3] 24)) := (Below.refl _ _).alloc (Nat.le_refl _) _
  have hK0 : BoxIs (w.alloc (.cells #[.slice a0 c0.n0 p0, .int .i64 c0.x1, .int .i64 c0.x2, .int .i64 c0.x3] 24)) w.heap.size #[.slice a0 c0.n0 p0, .int .i64 c0.x1, .int .i64 c0.x2, .int .i64 c0.x3] 24 := BoxIs.new _ _ _ rfl
  have hV0 : VersionIs (w.alloc (.cells #[.slice a0 c0.n0 p0, .int .i64 c0.x1, .int .i64 c0.x2, .int .i64 c0.x3] 24)) (.agg #[.slice a0 c0.n0 p0, .int .i64 c0.x1, .int .i64 c0.x2, .int .i64 c0.x3]) c0 := VersionIs.at_old ⟨_, _, rfl, hr0⟩ hB0
  have hE1 := hr1.next hB0
  clear hr0 hr1
  go_enter Try.func4, Try.ntmps4
  have y0 := hK0.cell 0
  have y1 := hK0.cell 1
  have y2 := hK0.cell 2
  have y3 := hK0.cell 3
  simp only [List.getElem?_toArray, List.getElem?_cons_succ, List.getElem?_cons_zero] at y0 y1 y2 y3
  go_wp2_with fail
  clear y0 y1 y2 y3
  generalize hWW : w.alloc (.cells #[.slice a0 c0.n0 p0, .int .i64 c0.x1, .int .i64 c0.x2, .int .i64 c0.x3] 24) = W at hB0 hK0 hV0 hE1 ⊢
  clear hWW
  have HB0 := hide hB0
  have HK0 := hK0.hid
  have HV0 := hV0.hid
  have HE1 := hE1.hid
  have hKl0 := hK0.lt
  clear hB0 hK0 hV0 hE1
  have HB : Hid (Below W.heap.size W W) := Below.refl _ _
  refine (laws_szVersion (.agg #[.slice a0 c0.n0 p0, .int .i64 c0.x1, .int .i64 c0.x2, .int .i64 c0.x3]) c0 1048576 W hsm0 (by omega) (by omega) (HV0.out.next HB.out)).mono ?_
  rintro e w0 ⟨⟨l0, rfl, hr0⟩, hb0⟩
  have HB := hide (HB.out.trans (hb0.mono HB.out.size))
  have hsz0 := hb0.size
  clear hb0
  rcases hr0 with hr0 | ⟨hl00, hl10, hf0⟩
  · skip
    go_wp2
    go_ret
    exact ⟨rfl, HB0.out.trans (HB.out.mono HB0.out.size)⟩
  · have hln0 : ¬ (l0 < 0) := by omega
    go_wp2_with fail
    refine (laws_szEditS a1 n1 p1 E l0 w0 hn1 hsm1 (by omega) (by omega) (HE1.out.next HB.out)).mono ?_
    rintro e w1 ⟨⟨l1, rfl, hr1⟩, hb1⟩
    have HB := hide (HB.out.trans (hb1.mono HB.out.size))
    have hsz1 := hb1.size
    clear hb1
    rcases hr1 with hr1 | ⟨hl01, hl11, hf1⟩
    · skip
      go_wp2
      go_ret
      exact ⟨rfl, HB0.out.trans (HB.out.mono HB0.out.size)⟩
    · have hln1 : ¬ (l1 < 0) := by omega
      have hn2 : n1 ≤ 1048576 := by unfold EditsFit at hf1; omega
      have HEF := hide (fun i (hi : i < n1) => hf1.at hi)
      have cs := fun (x0 : Value) (b : Option Addr) (p : Nat) (wx : World) (y0 : VersionIs wx x0 c0) (y1 : EditsSrc wx b n1 E) => spec_ReplayO x0 c0 b n1 p E wx hf0 hn2 HEF.out y0 y1
      have ci := fun (x0 : Value) (b : Option Addr) (p : Nat) (wx : World) (y0 : VersionIs wx x0 c0) (y1 : EditsSrc wx b n1 E) => impl_ReplayO x0 c0 b n1 p E wx hf0 hn2 HEF.out y0 y1
      have hrf : (repC c0 n1 E).Fit := repC_fit hf0 n1 E
      generalize repC c0 n1 E = rc at cs ci hrf
      generalize repI c0 n1 E = rn at cs ci
      have y0 := (HK0.out.next HB.out).cell 0
      have y1 := (HK0.out.next HB.out).cell 1
      have y2 := (HK0.out.next HB.out).cell 2
      have y3 := (HK0.out.next HB.out).cell 3
      simp only [List.getElem?_toArray, List.getElem?_cons_succ, List.getElem?_cons_zero] at y0 y1 y2 y3
      go_wp2_with fail
      clear y0 y1 y2 y3
      refine (laws_toVersion (.agg #[.slice a0 c0.n0 p0, .int .i64 c0.x1, .int .i64 c0.x2, .int .i64 c0.x3]) c0 w1 hf0 (HV0.out.next HB.out)).mono ?_
      rintro e w2 ⟨gs, rfl, _, hrows, hb2⟩
      have HB := hide (HB.out.trans (hb2.mono HB.out.size))
      have hsz2 := hb2.size
      clear hb2
      have HIs := (VersionIs.of_rows hrows).hid
      clear hrows
      have HCt : Hid (Below w2.heap.size w2 w2) := Below.refl _ _
      go_wp2_with fail
      obtain ⟨es, hes⟩ : ∃ e, w2.heap.size = e := ⟨_, rfl⟩
      refine (laws_toEditS a1 n1 p1 E w2 hf1 (HE1.out.next HB.out)).mono ?_
      rintro e w3 ⟨rfl, G0s, G1s, hcps⟩
      have hb3 := hcps.low
      have HB := hide (HB.out.trans (hb3.mono HB.out.size))
      have HCt := hide (HCt.out.trans (hb3.mono HCt.out.size))
      rw [hes] at hcps ⊢
      have HSs := hcps.src.hid
      have hsz3 := hb3.size
      go_wp2_with fail
      refine (cs (.agg #[.slice (some ⟨gs, 0, none⟩) c0.n0 c0.n0, .int .i64 c0.x1, .int .i64 c0.x2, .int .i64 c0.x3]) (some ⟨es, 0, none⟩) n1 w3 (HIs.out.next HCt.out) HSs.out).mono ?_
      rintro e w4 ⟨⟨uw, rfl, how⟩, hb4⟩
      have HB := hide (HB.out.trans (hb4.mono HB.out.size))
      have HCt := hide (HCt.out.trans (hb4.mono HCt.out.size))
      have hsz4 := hb4.size
      clear hb4
      obtain ⟨wa, wp, rfl, hMw⟩ := how
      have HLw := hide hMw.lt
      have hbb := below_one w4 (.cells #[.slice wa rc.n0 wp, .int .i64 rc.x1, .int .i64 rc.x2, .int .i64 rc.x3] 32)
      have HMw := (hMw.next hbb).hid
      have HXw := (BoxIs.new w4 #[.slice wa rc.n0 wp, .int .i64 rc.x1, .int .i64 rc.x2, .int .i64 rc.x3] 32 rfl).hid
      have HB := hide (HB.out.trans (hbb.mono HB.out.size))
      have HCt := hide (HCt.out.trans (hbb.mono HCt.out.size))
      clear hbb hMw
      clear HIs HSs HCt hcps
      have y0 := (HK0.out.next HB.out).cell 0
      have y1 := (HK0.out.next HB.out).cell 1
      have y2 := (HK0.out.next HB.out).cell 2
      have y3 := (HK0.out.next HB.out).cell 3
      simp only [List.getElem?_toArray, List.getElem?_cons_succ, List.getElem?_cons_zero] at y0 y1 y2 y3
      go_wp2_with fail
      clear y0 y1 y2 y3
      generalize hWX : w4.alloc (.cells #[.slice wa rc.n0 wp, .int .i64 rc.x1, .int .i64 rc.x2, .int .i64 rc.x3] 32) = Vw at HMw HXw HB ⊢
      clear hWX
      obtain ⟨Fw, hFw⟩ : ∃ F, w4.heap.size = F := ⟨_, rfl⟩
      rw [hFw] at HXw HLw ⊢
      have hFww : w4.heap.size ≤ Fw := Nat.le_of_eq hFw
      clear hFw
      have hXwl := HXw.out.lt
      have HCw : Hid (Below Vw.heap.size Vw Vw) := Below.refl _ _
      have hWVw := HB.out.size
      refine (laws_toVersion (.agg #[.slice a0 c0.n0 p0, .int .i64 c0.x1, .int .i64 c0.x2, .int .i64 c0.x3]) c0 Vw hf0 (HV0.out.next HB.out)).mono ?_
      rintro e w5 ⟨gx, rfl, hgx, hrowx, hb5⟩
      have HB := hide (HB.out.trans (hb5.mono HB.out.size))
      have HCw := hide (HCw.out.trans (hb5.mono HCw.out.size))
      have hsz5 := hb5.size
      clear hb5
      have hgl := hrowx.lt
      have hbx := below_one w5 (.cells #[.slice (some ⟨gx, 0, none⟩) c0.n0 c0.n0, .int .i64 c0.x1, .int .i64 c0.x2, .int .i64 c0.x3] 32)
      have HIx := ((VersionIs.of_rows hrowx).next hbx).hid
      have HRx := hidRowB (entRow_below hrowx hbx hgl)
      have HKx := (BoxIs.new w5 #[.slice (some ⟨gx, 0, none⟩) c0.n0 c0.n0, .int .i64 c0.x1, .int .i64 c0.x2, .int .i64 c0.x3] 32 rfl).hid
      have HB := hide (HB.out.trans (hbx.mono HB.out.size))
      have HCw := hide (HCw.out.trans (hbx.mono HCw.out.size))
      clear hbx hrowx
      go_wp2_with fail
      generalize hWX : w5.alloc (.cells #[.slice (some ⟨gx, 0, none⟩) c0.n0 c0.n0, .int .i64 c0.x1, .int .i64 c0.x2, .int .i64 c0.x3] 32) = X0 at HIx HKx HRx HB HCw ⊢
      clear hWX
      obtain ⟨Fx, hFx⟩ : ∃ F, w5.heap.size = F := ⟨_, rfl⟩
      rw [hFx] at HKx hgl ⊢
      clear hFx
      have hFxl := HKx.out.lt
      have HCx : Hid (Below X0.heap.size X0 X0) := Below.refl _ _
      have hVwx := HCw.out.size
      have hWx := HB.out.size
      obtain ⟨ex, hex⟩ : ∃ e, X0.heap.size = e := ⟨_, rfl⟩
      refine (laws_toEditS a1 n1 p1 E X0 hf1 (HE1.out.next HB.out)).mono ?_
      rintro e w6 ⟨rfl, G0, G1, hcp⟩
      have hb6 := hcp.low
      have HB := hide (HB.out.trans (hb6.mono HB.out.size))
      have HCw := hide (HCw.out.trans (hb6.mono HCw.out.size))
      have HCx := hide (HCx.out.trans (hb6.mono HCx.out.size))
      rw [hex] at hcp hVwx hWx ⊢
      have hexl : Fx < ex := by omega
      clear hex
      have HCP := hide hcp
      have hsz6 := hb6.size
      have hrl := hcp.row.lt
      clear hb6
      have HCe : Hid (Below w6.heap.size w6 w6) := Below.refl _ _
      have y0 := (HKx.out.next HCx.out).cell 0
      have y1 := (HKx.out.next HCx.out).cell 1
      have y2 := (HKx.out.next HCx.out).cell 2
      have y3 := (HKx.out.next HCx.out).cell 3
      simp only [List.getElem?_toArray, List.getElem?_cons_succ, List.getElem?_cons_zero] at y0 y1 y2 y3
      go_wp2_with fail
      clear y0 y1 y2 y3
      refine (ci (.agg #[.slice (some ⟨gx, 0, none⟩) c0.n0 c0.n0, .int .i64 c0.x1, .int .i64 c0.x2, .int .i64 c0.x3]) (some ⟨ex, 0, none⟩) n1 w6 (HIx.out.next HCx.out) hcp.src).mono ?_
      rintro e w7 ⟨⟨ug, rfl, hog⟩, hb7⟩
      have HB := hide (HB.out.trans (hb7.mono HB.out.size))
      have HCw := hide (HCw.out.trans (hb7.mono HCw.out.size))
      have HCx := hide (HCx.out.trans (hb7.mono HCx.out.size))
      have HCe := hide (HCe.out.trans (hb7.mono HCe.out.size))
      have hsz7 := hb7.size
      clear hb7
      obtain ⟨ga, gp, rfl, hMg⟩ := hog
      have HLg := hide hMg.lt
      have hbb := below_one w7 (.cells #[.slice ga rc.n0 gp, .int .i64 rc.x1, .int .i64 rc.x2, .int .i64 rc.x3] 32)
      have HMg := (hMg.next hbb).hid
      have HXg := (BoxIs.new w7 #[.slice ga rc.n0 gp, .int .i64 rc.x1, .int .i64 rc.x2, .int .i64 rc.x3] 32 rfl).hid
      have HB := hide (HB.out.trans (hbb.mono HB.out.size))
      have HCw := hide (HCw.out.trans (hbb.mono HCw.out.size))
      have HCx := hide (HCx.out.trans (hbb.mono HCx.out.size))
      have HCe := hide (HCe.out.trans (hbb.mono HCe.out.size))
      clear hbb hMg
      clear hcp
      have kb0 := (HXw.out.next HCw.out).cell 0
      have kb1 := (HXw.out.next HCw.out).cell 1
      have kb2 := (HXw.out.next HCw.out).cell 2
      have kb3 := (HXw.out.next HCw.out).cell 3
      simp only [List.getElem?_toArray, List.getElem?_cons_succ, List.getElem?_cons_zero] at kb0 kb1 kb2 kb3
      go_wp2_with fail
      clear kb0 kb1 kb2 kb3
      generalize hWX : w7.alloc (.cells #[.slice ga rc.n0 gp, .int .i64 rc.x1, .int .i64 rc.x2, .int .i64 rc.x3] 32) = Vg at HMg HXg HB HCw HCx HCe ⊢
      clear hWX
      obtain ⟨Fg, hFg⟩ : ∃ F, w7.heap.size = F := ⟨_, rfl⟩
      rw [hFg] at HXg HLg ⊢
      have hFgw : w7.heap.size ≤ Fg := Nat.le_of_eq hFg
      clear hFg
      have hXgl := HXg.out.lt
      have HCg : Hid (Below Vg.heap.size Vg Vg) := Below.refl _ _
      refine (laws_eqVersion _ _ rc Vg hrf (VersionIs.of_mine (HMg.out.next HCg.out)) (VersionIs.of_mine (HMw.out.next HCw.out))).mono ?_
      rintro e w8 ⟨rfl, hb8⟩
      have HB := hide (HB.out.trans (hb8.mono HB.out.size))
      have HCw := hide (HCw.out.trans (hb8.mono HCw.out.size))
      have HCx := hide (HCx.out.trans (hb8.mono HCx.out.size))
      have HCe := hide (HCe.out.trans (hb8.mono HCe.out.size))
      have HCg := hide (HCg.out.trans (hb8.mono HCg.out.size))
      have hsz8 := hb8.size
      clear hb8
      go_wp2_with fail
      refine wp_region_noPanic ?_
      refine wp_region_held_drew (S := fun w' => BoxIs w' w.heap.size #[.slice a0 c0.n0 p0, .int .i64 c0.x1, .int .i64 c0.x2, .int .i64 c0.x3] 24 ∧ BoxIs w' Fx #[.slice (some ⟨gx, 0, none⟩) c0.n0 c0.n0, .int .i64 c0.x1, .int .i64 c0.x2, .int .i64 c0.x3] 32 ∧ Below w8.heap.size w8 w') (by kernel_rfl) ⟨(HK0.out.next HB.out).next (Below.refl _ _).drew, (HKx.out.next HCx.out).next (Below.refl _ _).drew, (Below.refl _ _).drew⟩ (fun hHeld => ?_)
      refine wpAnyH_take (i := 0) (v := .agg #[.slice (some ⟨gx, 0, none⟩) c0.n0 c0.n0, .int .i64 c0.x1, .int .i64 c0.x2, .int .i64 c0.x3]) nat0 (by kernel_rfl) (by kernel_rfl) (by kernel_rfl) (fun _ _ _ h => False.elim h) (Or.inl ⟨by rfl, ?_⟩) hHeld ?_
      · intro wx hSw
        have y0 := hSw.2.1.cell 0
        have y1 := hSw.2.1.cell 1
        have y2 := hSw.2.1.cell 2
        have y3 := hSw.2.1.cell 3
        go_simp
      simp only [Act.put, List.setIfInBounds_toArray, List.set_cons_zero, List.set_cons_succ]
      refine wpAnyH_take (i := 1) (v := .agg #[.slice a0 c0.n0 p0, .int .i64 c0.x1, .int .i64 c0.x2, .int .i64 c0.x3]) nat1 (by kernel_rfl) (by kernel_rfl) (by kernel_rfl) (fun _ _ _ h => False.elim h) (Or.inl ⟨by rfl, ?_⟩) hHeld ?_
      · intro wx hSw
        have y0 := hSw.1.cell 0
        have y1 := hSw.1.cell 1
        have y2 := hSw.1.cell 2
        have y3 := hSw.1.cell 3
        go_simp
      simp only [Act.put, List.setIfInBounds_toArray, List.set_cons_zero, List.set_cons_succ]
      refine wpAnyH_ready (rs := [2]) (by kernel_rfl) (by simp) ?_
      refine AllReadyH.cons nat2 (fun K hK => ?_) AllReadyH.nil
      go_simp
      go_at_call 10
      have hH0 := HB.out.trans (hHeld.2.2.mono HB.out.size)
      have hX0 := HCx.out.trans (hHeld.2.2.mono HCx.out.size)
      refine (laws_toVersion (.agg #[.slice a0 c0.n0 p0, .int .i64 c0.x1, .int .i64 c0.x2, .int .i64 c0.x3]) c0 _ hf0 (HV0.out.next hH0)).mono ?_
      rintro e wa0 ⟨gy0, rfl, _, hrowy0, hba0⟩
      have HIy0 := (VersionIs.of_rows hrowy0).hid
      have HIz0 := ((HIx.out.next hX0).next hba0).hid
      refine hK.out _ _ ⟨hHeld.1.next hba0, hHeld.2.1.next hba0, hHeld.2.2.trans (hba0.mono hHeld.2.2.size)⟩ (fun hHeld2 => ?_)
      clear hK K hHeld hH0 hX0 hba0 hrowy0
      refine wpAnyH_ready (rs := [3]) (by kernel_rfl) (by simp) ?_
      refine AllReadyH.cons nat3 (fun K hK => ?_) AllReadyH.nil
      go_simp
      go_at_call 13
      refine (laws_eqVersion _ _ c0 _ hf0 HIz0.out HIy0.out).mono ?_
      rintro e wb0 ⟨rfl, hbb0⟩
      refine hK.out _ _ ⟨hHeld2.1.next hbb0, hHeld2.2.1.next hbb0, hHeld2.2.2.trans (hbb0.mono hHeld2.2.2.size)⟩ (fun hHeld3 => ?_)
      clear hK K hHeld2 hbb0 HIz0 HIy0
      refine wpAnyH_take (i := 4) (v := .bool false) nat4 (by kernel_rfl) (by kernel_rfl) (by kernel_rfl) (fun _ _ _ h => False.elim h) (Or.inl ⟨by rfl, ?_⟩) hHeld3 ?_
      · intro wx hSw
        go_simp
      simp only [Act.put, List.setIfInBounds_toArray, List.set_cons_zero, List.set_cons_succ]
      refine wpAnyH_done (by kernel_rfl) ?_ _
      refine NoPanic.normal ?_
      have HB := hide (HB.out.trans (hHeld3.2.2.mono HB.out.size))
      have HCw := hide (HCw.out.trans (hHeld3.2.2.mono HCw.out.size))
      have HCx := hide (HCx.out.trans (hHeld3.2.2.mono HCx.out.size))
      have HCe := hide (HCe.out.trans (hHeld3.2.2.mono HCe.out.size))
      have HCg := hide (HCg.out.trans (hHeld3.2.2.mono HCg.out.size))
      clear hHeld3
      go_wp2_with fail
      obtain ⟨ey, hey⟩ : ∃ e, wb0.heap.size = e := ⟨_, rfl⟩
      refine (laws_toEditS a1 n1 p1 E wb0 hf1 (HE1.out.next HB.out)).mono ?_
      rintro e w9 ⟨rfl, G0y, G1y, hcpy⟩
      have hb9 := hcpy.low
      have HB := hide (HB.out.trans (hb9.mono HB.out.size))
      have HCw := hide (HCw.out.trans (hb9.mono HCw.out.size))
      have HCx := hide (HCx.out.trans (hb9.mono HCx.out.size))
      have HCe := hide (HCe.out.trans (hb9.mono HCe.out.size))
      have HCg := hide (HCg.out.trans (hb9.mono HCg.out.size))
      have hEy := hcpy.at'
      rw [hey] at hEy ⊢
      clear hb9 hcpy hey
      go_wp2_with fail
      refine (laws_eqEditS _ _ n1 _ _ E w9 hf1 (HCP.out.at'.next HCe.out) hEy).mono ?_
      rintro e w10 ⟨rfl, hb10⟩
      have HB := hide (HB.out.trans (hb10.mono HB.out.size))
      have HCw := hide (HCw.out.trans (hb10.mono HCw.out.size))
      have HCx := hide (HCx.out.trans (hb10.mono HCx.out.size))
      have HCe := hide (HCe.out.trans (hb10.mono HCe.out.size))
      have HCg := hide (HCg.out.trans (hb10.mono HCg.out.size))
      have hsz10 := hb10.size
      clear hb10
      clear hEy
      have y0 := (HKx.out.next HCx.out).cell 0
      have y1 := (HKx.out.next HCx.out).cell 1
      have y2 := (HKx.out.next HCx.out).cell 2
      have y3 := (HKx.out.next HCx.out).cell 3
      simp only [List.getElem?_toArray, List.getElem?_cons_succ, List.getElem?_cons_zero] at y0 y1 y2 y3
      go_wp2_with fail
      clear y0 y1 y2 y3
      have HRn := hidRowB (entRow_below HRx.out HCx.out HRx.out.lt)
      have hfit0 := hf0; unfold VersionC.Fit at hfit0
      refine (laws_markVersion 1 1 rfl (by omega) (some ⟨gx, 0, none⟩) c0.n0 gx c0 w10 hf0 (.inr rfl) (rowIs_mark HRn.out)).mono ?_
      rintro e w11 ⟨rfl, hm0, _⟩
      have HB := hide (HB.out.trans (hm0.below HB.out.size (by omega)))
      have HCw := hide (HCw.out.trans (hm0.below HCw.out.size (by omega)))
      have HMg := ((HMg.out.next HCg.out).mv hm0 (by omega)).hid
      have HXg := ((HXg.out.next HCg.out).mv hm0 (by omega)).hid
      have HCg : Hid (Below w11.heap.size w11 w11) := Below.refl _ _
      have HCP2 := hide ((HCP.out.next HCe.out).rows.mv hm0 (by omega))
      have HLY := hide HCP.out.lay
      have hszm := hm0.size
      have hszc := HCe.out.size
      clear HRn hm0 HCx HRx HKx HIx HCe HCP
      go_wp2_with fail
      have hmk := EMk.of_rows HCP2.out w6.heap.size
      refine (laws_markEditS (1 + c0.n0 * 5) _ (by first | rfl | (push_cast; omega)) (by omega) ex w6.heap.size n1 n1 E G0 G1 w11 hf1 HLY.out hmk).mono ?_
      rintro e w12 ⟨rfl, hmv⟩
      have hszq := hmv.size
      have hgw8 := HCw.out.size
      have HB := hide (HB.out.trans (hmv.below HB.out.size (by omega)))
      have HCw := hide (HCw.out.trans (hmv.below HCw.out.size (by omega)))
      have HMg := ((HMg.out.next HCg.out).mvr hmv (by omega)).hid
      have HXg := ((HXg.out.next HCg.out).mvr hmv (by omega)).hid
      have HCg : Hid (Below w12.heap.size w12 w12) := Below.refl _ _
      have hsum : edSum E n1 ≤ 10000000 := by
        have h1 := edSum_le E n1
        unfold EditsFit at hf1
        omega
      have hposx : ¬ (((1 + c0.n0 * 5 + edSum E n1 : Nat) : Int) < 0) := by omega
      clear hmv hmk HCP2 HLY
      have ka0 := (HXg.out.next HCg.out).cell 0
      have ka1 := (HXg.out.next HCg.out).cell 1
      have ka2 := (HXg.out.next HCg.out).cell 2
      have ka3 := (HXg.out.next HCg.out).cell 3
      have kb0 := (HXw.out.next HCw.out).cell 0
      have kb1 := (HXw.out.next HCw.out).cell 1
      have kb2 := (HXw.out.next HCw.out).cell 2
      have kb3 := (HXw.out.next HCw.out).cell 3
      simp only [List.getElem?_toArray, List.getElem?_cons_succ, List.getElem?_cons_zero] at ka0 ka1 ka2 ka3 kb0 kb1 kb2 kb3
      go_wp2_with fail
      clear ka0 ka1 ka2 ka3 kb0 kb1 kb2 kb3
      refine (laws_eqVersion _ _ rc w12 hrf (VersionIs.of_mine (HMg.out.next HCg.out)) (VersionIs.of_mine (HMw.out.next HCw.out))).mono ?_
      rintro e w13 ⟨rfl, hb13⟩
      have HB := hide (HB.out.trans (hb13.mono HB.out.size))
      have HCw := hide (HCw.out.trans (hb13.mono HCw.out.size))
      have HCg := hide (HCg.out.trans (hb13.mono HCg.out.size))
      have hsz13 := hb13.size
      clear hb13
      have ka0 := (HXg.out.next HCg.out).cell 0
      have ka1 := (HXg.out.next HCg.out).cell 1
      have ka2 := (HXg.out.next HCg.out).cell 2
      have ka3 := (HXg.out.next HCg.out).cell 3
      simp only [List.getElem?_toArray, List.getElem?_cons_succ, List.getElem?_cons_zero] at ka0 ka1 ka2 ka3
      go_wp2_with fail
      clear ka0 ka1 ka2 ka3
      obtain ⟨g, hga, hgl2, hgw⟩ := (HMg.out.next HCg.out).mark w13.heap.size
      have hCgs := HCg.out.size
      have hCws := HCw.out.size
      have hBs := HB.out.size
      have hXg8 := (HXg.out.next HCg.out).lt
      have hgF : g ≠ Fg := by
        rcases hgl2 with h | ⟨h, _, _⟩
        · omega
        · have := HLg.out g h; omega
      refine (laws_markVersion 1 1 rfl ⟨by omega, by omega⟩ ga gp g rc w13 hrf hga hgw).mono ?_
      rintro e w14 ⟨rfl, hm, hok⟩
      have HB := hide (HB.out.trans (hm.below HB.out.size (by omega)))
      have HCw := hide (HCw.out.trans (hm.below HCw.out.size (by omega)))
      have HXg := ((HXg.out.next HCg.out).mv hm (fun h => hgF h.symm)).hid
      have HOK := hide hok
      have HCg : Hid (Below w14.heap.size w14 w14) := Below.refl _ _
      clear hm hok hgw hgl2 hCgs hCws hBs HMg
      have ka0 := (HXg.out.next HCg.out).cell 0
      have ka1 := (HXg.out.next HCg.out).cell 1
      have ka2 := (HXg.out.next HCg.out).cell 2
      have ka3 := (HXg.out.next HCg.out).cell 3
      simp only [List.getElem?_toArray, List.getElem?_cons_succ, List.getElem?_cons_zero] at ka0 ka1 ka2 ka3
      go_wp2_with fail
      clear ka0 ka1 ka2 ka3
      have hkc := fun j hj => keepc HCg.out (HOK.out j hj)
      refine (laws_heldVersion 1 1 rfl ⟨by omega, by omega⟩ ga gp g rc w14 hrf hga hkc).mono ?_
      rintro e w15 ⟨rfl, hb15⟩
      have HB := hide (HB.out.trans (hb15.mono HB.out.size))
      have HCw := hide (HCw.out.trans (hb15.mono HCw.out.size))
      have HCg := hide (HCg.out.trans (hb15.mono HCg.out.size))
      have hsz15 := hb15.size
      clear hb15
      clear hkc
      have hpos : ¬ (((1 + rc.n0 * 5 : Nat) : Int) < 0) := by omega
      have y0 := (HK0.out.next HB.out).cell 0
      have y1 := (HK0.out.next HB.out).cell 1
      have y2 := (HK0.out.next HB.out).cell 2
      have y3 := (HK0.out.next HB.out).cell 3
      simp only [List.getElem?_toArray, List.getElem?_cons_succ, List.getElem?_cons_zero] at y0 y1 y2 y3
      go_wp2_with fail
      clear y0 y1 y2 y3
      refine (laws_toVersion (.agg #[.slice a0 c0.n0 p0, .int .i64 c0.x1, .int .i64 c0.x2, .int .i64 c0.x3]) c0 w15 hf0 (HV0.out.next HB.out)).mono ?_
      rintro e w16 ⟨gh, rfl, _, hrowh, hb16⟩
      have HB := hide (HB.out.trans (hb16.mono HB.out.size))
      have HCw := hide (HCw.out.trans (hb16.mono HCw.out.size))
      have HCg := hide (HCg.out.trans (hb16.mono HCg.out.size))
      have hsz16 := hb16.size
      clear hb16
      have HIh := (VersionIs.of_rows hrowh).hid
      clear hrowh
      have HCt : Hid (Below w16.heap.size w16 w16) := Below.refl _ _
      go_wp2_with fail
      obtain ⟨eh, heh⟩ : ∃ e, w16.heap.size = e := ⟨_, rfl⟩
      refine (laws_toEditS a1 n1 p1 E w16 hf1 (HE1.out.next HB.out)).mono ?_
      rintro e w17 ⟨rfl, G0h, G1h, hcph⟩
      have hb17 := hcph.low
      have HB := hide (HB.out.trans (hb17.mono HB.out.size))
      have HCw := hide (HCw.out.trans (hb17.mono HCw.out.size))
      have HCg := hide (HCg.out.trans (hb17.mono HCg.out.size))
      have HCt := hide (HCt.out.trans (hb17.mono HCt.out.size))
      rw [heh] at hcph ⊢
      have HSh := hcph.src.hid
      have hsz17 := hb17.size
      go_wp2_with fail
      refine (ci (.agg #[.slice (some ⟨gh, 0, none⟩) c0.n0 c0.n0, .int .i64 c0.x1, .int .i64 c0.x2, .int .i64 c0.x3]) (some ⟨eh, 0, none⟩) n1 w17 (HIh.out.next HCt.out) HSh.out).mono ?_
      rintro e w18 ⟨⟨uh, rfl, hoh⟩, hb18⟩
      have HB := hide (HB.out.trans (hb18.mono HB.out.size))
      have HCw := hide (HCw.out.trans (hb18.mono HCw.out.size))
      have HCg := hide (HCg.out.trans (hb18.mono HCg.out.size))
      have HCt := hide (HCt.out.trans (hb18.mono HCt.out.size))
      have hsz18 := hb18.size
      clear hb18
      obtain ⟨ha, hp, rfl, hMh⟩ := hoh
      have HLh := hide hMh.lt
      have hbb := below_one w18 (.cells #[.slice ha rc.n0 hp, .int .i64 rc.x1, .int .i64 rc.x2, .int .i64 rc.x3] 32)
      have HMh := (hMh.next hbb).hid
      have HXh := (BoxIs.new w18 #[.slice ha rc.n0 hp, .int .i64 rc.x1, .int .i64 rc.x2, .int .i64 rc.x3] 32 rfl).hid
      have HB := hide (HB.out.trans (hbb.mono HB.out.size))
      have HCw := hide (HCw.out.trans (hbb.mono HCw.out.size))
      have HCg := hide (HCg.out.trans (hbb.mono HCg.out.size))
      have HCt := hide (HCt.out.trans (hbb.mono HCt.out.size))
      clear hbb hMh
      clear HIh HSh HCt hcph
      have kb0 := (HXw.out.next HCw.out).cell 0
      have kb1 := (HXw.out.next HCw.out).cell 1
      have kb2 := (HXw.out.next HCw.out).cell 2
      have kb3 := (HXw.out.next HCw.out).cell 3
      simp only [List.getElem?_toArray, List.getElem?_cons_succ, List.getElem?_cons_zero] at kb0 kb1 kb2 kb3
      go_wp2_with fail
      clear kb0 kb1 kb2 kb3
      generalize hWX : w18.alloc (.cells #[.slice ha rc.n0 hp, .int .i64 rc.x1, .int .i64 rc.x2, .int .i64 rc.x3] 32) = Vh at HMh HXh HB HCw HCg ⊢
      clear hWX
      obtain ⟨Fh, hFh⟩ : ∃ F, w18.heap.size = F := ⟨_, rfl⟩
      rw [hFh] at HXh HLh ⊢
      have hFhw : w18.heap.size ≤ Fh := Nat.le_of_eq hFh
      clear hFh
      have hXhl := HXh.out.lt
      have HCh : Hid (Below Vh.heap.size Vh Vh) := Below.refl _ _
      refine (laws_eqVersion _ _ rc Vh hrf (VersionIs.of_mine (HMh.out.next HCh.out)) (VersionIs.of_mine (HMw.out.next HCw.out))).mono ?_
      rintro e w19 ⟨rfl, hb19⟩
      have HB := hide (HB.out.trans (hb19.mono HB.out.size))
      have HCw := hide (HCw.out.trans (hb19.mono HCw.out.size))
      have HCg := hide (HCg.out.trans (hb19.mono HCg.out.size))
      have HCh := hide (HCh.out.trans (hb19.mono HCh.out.size))
      have hsz19 := hb19.size
      clear hb19
      have ka0 := (HXg.out.next HCg.out).cell 0
      have ka1 := (HXg.out.next HCg.out).cell 1
      have ka2 := (HXg.out.next HCg.out).cell 2
      have ka3 := (HXg.out.next HCg.out).cell 3
      simp only [List.getElem?_toArray, List.getElem?_cons_succ, List.getElem?_cons_zero] at ka0 ka1 ka2 ka3
      go_wp2_with fail
      clear ka0 ka1 ka2 ka3
      have hkc := fun j hj => keepc HCg.out (HOK.out j hj)
      refine (laws_heldVersion 1 1 rfl ⟨by omega, by omega⟩ ga gp g rc w19 hrf hga hkc).mono ?_
      rintro e w20 ⟨rfl, hb20⟩
      have HB := hide (HB.out.trans (hb20.mono HB.out.size))
      have HCw := hide (HCw.out.trans (hb20.mono HCw.out.size))
      have HCg := hide (HCg.out.trans (hb20.mono HCg.out.size))
      have HCh := hide (HCh.out.trans (hb20.mono HCh.out.size))
      have hsz20 := hb20.size
      clear hb20
      clear hkc
      go_wp2
      go_ret
      exact ⟨rfl, HB0.out.trans (HB.out.mono HB0.out.size)⟩

end Go.Proofs.Ytplbhgcibfajaaa
