/- Versions, as they are drawn. (By gen_drawx.py.) -/
import Derived.Test.YtplbhgcibfajaaaDrawW
import Derived.Test.YtplbhgcibfajaaaApplyS
namespace Go.Proofs.Ytplbhgcibfajaaa
set_option maxRecDepth 100000
open Go.RowKit Go.Deep

/-- Apply of the model at a version and an edit of one's own. -/
theorem apply_own (va : Value) (l : List Meta1) (nx sq lg : Int) (aa : Value) (adds : List Meta1) (ca : Value) (cuts : List Int) (n s lo : Int) (B B2 B3 : Nat) (w : World) (hl : l.length ≤ 100000) (ha : adds.length ≤ 100000) (hc : cuts.length ≤ 100000)
    (ov : OwnMeta w B va l) (oa : OwnMeta w B2 aa adds) (oc : OwnI w B3 ca cuts) :
    Calls Try.prog 9 #[.agg #[va, .int .i64 nx, .int .i64 sq, .int .i64 lg], .agg #[aa, ca, .int .i64 n, .int .i64 s, .int .i64 lo]] w fun e w' => (∃ (b : Bool) (a1 : Option Addr) (c1 : Nat) (l1 : List Meta1) (n1 s1 lo1 : Int), e = .returned (.tuple #[.agg #[.slice a1 l1.length c1, .int .i64 n1, .int .i64 s1, .int .i64 lo1], .bool b]) ∧ OwnMeta w' w.heap.size (.slice a1 l1.length c1) l1 ∧ (b = true → n1 = n ∧ s1 = s ∧ lo1 = lo ∧ l1.length ≤ 30 ∧ 1 ≤ n ∧ n ≤ 1000000 ∧ 0 ≤ s ∧ s ≤ 1000000000000)) ∧ Below w.heap.size w w' := by
  obtain ⟨a0, p0, hva, hM⟩ := ov.arg
  obtain ⟨b0, q0, haa, hA⟩ := oa.arg
  obtain ⟨c0, r0, hca, hC⟩ := oc.at
  refine (spec_Apply _ _ (vc l nx sq lg) ⟨adds.length, fnMeta adds, cuts.length, fun i => cuts.getD i 0, n, s, lo⟩ w (by show l.length ≤ 1048576; omega) ⟨by show adds.length ≤ 1048576; omega, by show cuts.length ≤ 1048576; omega⟩ ⟨a0, p0, by rw [hva]; rfl, hM⟩ ⟨b0, q0, c0, r0, by rw [haa, hca], hA, hC⟩).mono ?_
  rintro e w' ⟨⟨u, rfl, v1, l1, rfl, ho, hc1⟩, hb⟩
  obtain ⟨a1, c1, rfl⟩ := ho.shape
  refine ⟨⟨_, a1, c1, l1, _, _, _, rfl, ho, fun hap => ?_⟩, hb⟩
  rw [apC_yes hap]
  rw [apC_yes hap] at hc1
  have hap2 := hap
  unfold apB at hap2
  rw [Bool.and_eq_true, Bool.and_eq_true] at hap2
  have hv := (versB_out hap2.2).1
  have hn0 : (apV (vc l nx sq lg) ⟨adds.length, fnMeta adds, cuts.length, fun i => cuts.getD i 0, n, s, lo⟩).n0 = l1.length := congrArg VersionC.n0 hc1
  refine ⟨rfl, rfl, rfl, by omega, ?_, ?_, ?_, ?_⟩
  · exact hv.2.1
  · exact hv.2.2.1
  · exact hv.2.2.2.1
  · exact hv.2.2.2.2.1

/-- While a version is drawn: the reader, and the answer's box. -/
structure VeB (W w : World) (g : Nat) (a : Option Addr) (len cap : Nat) (x : World) : Prop where
  rd : Rd W x g a len cap
  mv : Mv g w x
  bR : BoxIs x w.heap.size #[.slice none 0 0, .int .i64 0, .int .i64 0, .int .i64 0] 32
  hg : g < w.heap.size
section
variable {W w : World} {g : Nat} {a : Option Addr} {len cap : Nat} {x y : World}
theorem VeB.call (h : VeB W w g a len cap x) (r : Rd W y g a len cap) (m : Mv g x y) : VeB W w g a len cap y :=
  ⟨r, h.mv.trans m, h.bR.mv m (by have := h.hg; omega), h.hg⟩
theorem VeB.next (h : VeB W w g a len cap x) (b : Below x.heap.size x y) : VeB W w g a len cap y :=
  ⟨h.rd.mv b, mv_below h.mv (b.mono h.mv.size), h.bR.next b, h.hg⟩
theorem VeB.setE (h : VeB W w g a len cap x) {E : Nat} (hE : w.heap.size < E) (j : Nat) (v : Value) : VeB W w g a len cap (x.setCell ⟨E, j, none⟩ v) := by
  have hw := h.hg
  have b : Below (w.heap.size + 1) x (x.setCell ⟨E, j, none⟩ v) := (Below.refl _ _).setCell (p := ⟨E, j, none⟩) (by show w.heap.size + 1 ≤ E; omega) _
  exact ⟨h.rd.keep b (by omega), mv_below h.mv (b.mono (by omega)), h.bR.set_other (by show E ≠ _; omega) _, h.hg⟩
theorem VeB.grow (h : VeB W w g a len cap x) {B n size : Nat} {e : TypeId} {v : Value} {xs : List Value} (ho : x.ownsRow B e size v n xs) (hB : w.heap.size ≤ B) (hB2 : B ≤ x.heap.size) (hg : x.grownBy y v.ownBlock) (h1 : e ≠ 32) : VeB W w g a len cap y := by
  have hw := h.hg
  have b := rg_low ho hB2 hg
  exact ⟨h.rd.keep b (by omega), mv_below h.mv (b.mono hB), rg_box ho hg h.bR h1, h.hg⟩
end

/-- .. and the version itself, in block E. -/
structure VeS (W w : World) (g : Nat) (a : Option Addr) (len cap : Nat) (E : Nat) (va : Value) (l : List Meta1) (nx sq lg : Int) (x : World) : Prop where
  V : VeB W w g a len cap x
  bE : BoxIs x E #[va, .int .i64 nx, .int .i64 sq, .int .i64 lg] 32
  oa : OwnMeta x w.heap.size va l
  hE : w.heap.size < E
section
variable {W w : World} {g : Nat} {a : Option Addr} {len cap : Nat} {E : Nat} {va : Value} {l : List Meta1} {nx sq lg : Int} {x y : World}
theorem VeS.rd (h : VeS W w g a len cap E va l nx sq lg x) : Rd W x g a len cap := h.V.rd
theorem VeS.call (h : VeS W w g a len cap E va l nx sq lg x) (r : Rd W y g a len cap) (m : Mv g x y) : VeS W w g a len cap E va l nx sq lg y :=
  ⟨h.V.call r m, h.bE.mv m (by have := h.V.hg; have := h.hE; omega), h.oa.mv m h.V.hg, h.hE⟩
theorem VeS.next (h : VeS W w g a len cap E va l nx sq lg x) (b : Below x.heap.size x y) : VeS W w g a len cap E va l nx sq lg y :=
  ⟨h.V.next b, h.bE.next b, h.oa.next b, h.hE⟩
/-- Another version's box is written, that was laid behind this one's. -/
theorem VeS.setN (h : VeS W w g a len cap E va l nx sq lg x) {N : Nat} {cs : Array Value} (hN : E < N) (hb : BoxIs x N cs 32) (j : Nat) (v : Value) : VeS W w g a len cap E va l nx sq lg (x.setCell ⟨N, j, none⟩ v) :=
  ⟨h.V.setE (by have := h.hE; omega) _ _, h.bE.set_other (by show N ≠ _; omega) _, rg_set h.oa hb (by decide) _, h.hE⟩
/-- Another version lies in its place. -/
theorem VeS.put (h : VeS W w g a len cap E va l nx sq lg x) {v1 : Value} {l1 : List Meta1} {n1 s1 g1 : Int} (ho : OwnMeta x w.heap.size v1 l1) : VeS W w g a len cap E v1 l1 n1 s1 g1 ((((x.setCell ⟨E, 0, none⟩ v1).setCell ⟨E, 1, none⟩ (.int .i64 n1)).setCell ⟨E, 2, none⟩ (.int .i64 s1)).setCell ⟨E, 3, none⟩ (.int .i64 g1)) := by
  have b0 := h.bE
  have b1 := b0.set 0 v1
  have b2 := b1.set 1 (.int .i64 n1)
  have b3 := b2.set 2 (.int .i64 s1)
  have b4 := b3.set 3 (.int .i64 g1)
  exact ⟨(((h.V.setE h.hE 0 v1).setE h.hE 1 _).setE h.hE 2 _).setE h.hE 3 _, b4, rg_set (rg_set (rg_set (rg_set ho b0 (by decide) _) b1 (by decide) _) b2 (by decide) _) b3 (by decide) _, h.hE⟩
/-- What is answered lies in the result's box. -/
theorem VeS.ret (h : VeS W w g a len cap E va l nx sq lg x) (v0 v1 v2 v3 : Value) : OwnMeta ((((x.setCell ⟨w.heap.size, 0, none⟩ v0).setCell ⟨w.heap.size, 1, none⟩ v1).setCell ⟨w.heap.size, 2, none⟩ v2).setCell ⟨w.heap.size, 3, none⟩ v3) w.heap.size va l ∧ Rd W ((((x.setCell ⟨w.heap.size, 0, none⟩ v0).setCell ⟨w.heap.size, 1, none⟩ v1).setCell ⟨w.heap.size, 2, none⟩ v2).setCell ⟨w.heap.size, 3, none⟩ v3) g a len cap ∧ Mv g w ((((x.setCell ⟨w.heap.size, 0, none⟩ v0).setCell ⟨w.heap.size, 1, none⟩ v1).setCell ⟨w.heap.size, 2, none⟩ v2).setCell ⟨w.heap.size, 3, none⟩ v3) := by
  have b0 := h.V.bR
  have b1 := b0.set 0 v0
  have b2 := b1.set 1 v1
  have b3 := b2.set 2 v2
  have hB : Below w.heap.size x ((((x.setCell ⟨w.heap.size, 0, none⟩ v0).setCell ⟨w.heap.size, 1, none⟩ v1).setCell ⟨w.heap.size, 2, none⟩ v2).setCell ⟨w.heap.size, 3, none⟩ v3) :=
    ((((Below.refl _ _).setCell (p := ⟨w.heap.size, 0, none⟩) (Nat.le_refl _) _).setCell (p := ⟨w.heap.size, 1, none⟩) (Nat.le_refl _) _).setCell (p := ⟨w.heap.size, 2, none⟩) (Nat.le_refl _) _).setCell (p := ⟨w.heap.size, 3, none⟩) (Nat.le_refl _) _
  exact ⟨rg_set (rg_set (rg_set (rg_set h.oa b0 (by decide) _) b1 (by decide) _) b2 (by decide) _) b3 (by decide) _, h.rd.keep hB h.V.hg, mv_below h.V.mv hB⟩
end

set_option linter.unusedVariables false in
set_option linter.unusedSimpArgs false in
set_option maxHeartbeats 4000000 in
theorem rd_version (W w : World) (g : Nat) (a : Option Addr) (len cap : Nat) (hc : IsCode W a len) (hl : len ≤ 1048576) (h : Rd W w g a len cap) :
    Calls Try.prog 45 #[.pointer (some ⟨g, 0, none⟩)] w fun e w' => ∃ a1 c1 l nx sq lg, e = .returned (.agg #[.slice a1 (l : List Meta1).length c1, .int .i64 nx, .int .i64 sq, .int .i64 lg]) ∧ OwnMeta w' w.heap.size (.slice a1 l.length c1) l ∧ l.length ≤ 31 ∧ -1000 ≤ nx ∧ nx ≤ 1000 ∧ -1000 ≤ sq ∧ sq ≤ 1000 ∧ Rd W w' g a len cap ∧ Mv g w w' := by
  have hg := h.lt
  have HV0 := hide (⟨h.mv (below_one _ _), Mv.of_below (below_one _ _), BoxIs.new _ _ _ rfl, hg⟩ : VeB W w g a len cap (w.alloc (.cells #[.slice none 0 0, .int .i64 0, .int .i64 0, .int .i64 0] 32)))
  clear h
  go_enter Try.func45, Try.ntmps45
  go_wp2_with fail
  generalize w.alloc (.cells #[.slice none 0 0, .int .i64 0, .int .i64 0, .int .i64 0] 32) = W0 at HV0 ⊢
  refine (rd_near W _ g a len cap 0 5 (by omega) (by omega) (by omega) hc hl HV0.out.rd).mono ?_
  rintro e w1 ⟨x, rfl, hx0, hx1, hr1, hm1⟩
  have HV1 := HV0.out.call hr1 hm1
  have hlt := HV1.bR.lt
  have HS := hide (⟨HV1.next (below_one _ _), BoxIs.new w1 #[.slice none 0 0, .int .i64 (1 + x), .int .i64 0, .int .i64 0] 32 rfl, OwnMeta.nil _ _, hlt⟩ : VeS W w g a len cap w1.heap.size (.slice none 0 0) [] (1 + x) 0 0 (w1.alloc (.cells #[.slice none 0 0, .int .i64 (1 + x), .int .i64 0, .int .i64 0] 32)))
  clear HV0 hr1 hm1 HV1
  go_wp2_with fail
  generalize w1.alloc (.cells #[.slice none 0 0, .int .i64 (1 + x), .int .i64 0, .int .i64 0] 32) = W2 at HS ⊢
  generalize w1.heap.size = E at HS hlt ⊢
  refine (rd_below W _ g a len cap 7 (by omega) (by omega) hc hl HS.out.rd).mono ?_
  rintro e w3 ⟨i0, rfl, hi0, hi1, hr3, hm3⟩
  have HS3 := hide (HS.out.call hr3 hm3)
  clear HS hr3 hm3
  obtain ⟨j0, rfl⟩ := Int.eq_ofNat_of_zero_le hi0
  go_wp2
  go_loopg [4] j0 (fun k v wr => v = .int .i64 (k : Int) ∧ ∃ (va : Value) (l : List Meta1) (nx sq lg : Int), 0 ≤ nx ∧ nx + 3 * (k : Int) ≤ 50 ∧ 0 ≤ sq ∧ sq + 8 * (k : Int) ≤ 100 ∧ l.length ≤ 30 ∧ k ≤ 6 ∧ Hid (VeS W w g a len cap E va l nx sq lg wr))
  case atStart => exact ⟨rfl, _, [], _, _, _, by omega, by omega, by omega, by omega, by simp, by omega, HS3⟩
  case round =>
    obtain ⟨rfl, va, l, nx, sq, lg, hn0, hn1, hs0, hs1, hll, hk6, HS⟩ := hrel
    clear HS3 hi0 hi1 hx0 hx1
    by_cases hk : gk = 0
    · subst hk
      go_wp2_with fail
      refine (rd_once W _ g a len cap 16 (by omega) (by omega) hc hl HS.out.rd).mono ?_
      rintro e w9 ⟨b9, rfl, hr9, hm9⟩
      have HS9 := hide (HS.out.call hr9 hm9)
      clear HS hr9 hm9
      go_upto_if 28 with fail
      go_cut [] (fun wx => ∃ va l, l.length ≤ 31 ∧ Hid (VeS W w g a len cap E va l nx sq lg wx))
      case first =>
        cases b9 with
        | false =>
          go_wp2
          go_meet
          exact ⟨_, l, by omega, HS9⟩
        | true =>
          go_upto_region 9 with fail
          obtain ⟨vaA, vaN, vaP, rfl⟩ : ∃ a n p, va = .slice a n p := by obtain ⟨a, p, e⟩ := rg_shape (show World.ownsRow _ _ _ _ _ _ _ from HS9.out.oa); exact ⟨_, _, _, e⟩
          have HV := HS9.out.V
          have BE := HS9.out.bE
          have OA := HS9.out.oa
          have hE := HS9.out.hE
          clear HS9
          refine wp_region_noPanic ?_
          have hb0 : Below w9.heap.size w9 w9.drew := (Below.refl _ _).drew
          have HV_0 := HV.next hb0
          have BE_0 := BE.next hb0
          have OA_0 := OA.next hb0
          refine wp_region_held_drew (S := fun _ => True) (by kernel_rfl) trivial (fun hSz => ?_)
          clear hSz BE HV OA
          generalize w9.drew = wq0 at hb0 HV_0 BE_0 OA_0 ⊢
          clear hb0
          refine wpAnyH_take (i := 0) (v := .pointer (some ⟨E, 0, none⟩)) nat0 (by kernel_rfl) (by kernel_rfl) (by kernel_rfl) (fun _ _ _ h => False.elim h) (Or.inl ⟨by rfl, ?_⟩) trivial ?_
          · intro wx hSw
            go_simp
          simp only [Act.put, List.setIfInBounds_toArray, List.set_cons_zero, List.set_cons_succ]
          refine wpAnyH_take (i := 2) (v := .pointer (some ⟨g, 0, none⟩)) nat2 (by kernel_rfl) (by kernel_rfl) (by kernel_rfl) (fun _ _ _ h => False.elim h) (Or.inl ⟨by rfl, ?_⟩) trivial ?_
          · intro wx hSw
            go_simp
          simp only [Act.put, List.setIfInBounds_toArray, List.set_cons_zero, List.set_cons_succ]
          refine wpAnyH_ready (rs := [1, 3]) (by kernel_rfl) (by simp) ?_
          refine AllReadyH.cons nat1 (fun K hK => ?_) (AllReadyH.cons nat3 (fun K hK => ?_) AllReadyH.nil)
          · have y0 := BE_0.cell 0
            simp only [List.getElem?_toArray, List.getElem?_cons_succ, List.getElem?_cons_zero] at y0
            go_simp
            refine hK.out _ _ trivial (fun hSz => ?_)
            clear hK K hSz y0
            try simp only [Act.put, List.setIfInBounds_toArray, List.set_cons_zero, List.set_cons_succ]
            refine wpAnyH_ready (rs := [3]) (by kernel_rfl) (by simp) ?_
            refine AllReadyH.cons nat3 (fun K hK => ?_) AllReadyH.nil
            go_simp
            go_at_call 64
            refine (rd_meta W _ g a len cap hc hl HV_0.rd).mono ?_
            rintro e wq2 ⟨m2, rfl, hf2, hz2, hr2, hb2⟩
            have HV_2 := HV_0.call hr2 hb2
            have BE_2 := BE_0.mv hb2 (by omega)
            have OA_2 := OwnMeta.mv OA_0 hb2 hg
            refine hK.out _ _ trivial (fun hSz => ?_)
            clear hK K hSz BE_0 HV_0 OA_0 hb2
            refine wpAnyH_ready (rs := [4]) (by kernel_rfl) (by simp) ?_
            refine AllReadyH.cons nat4 (fun K hK => ?_) AllReadyH.nil
            go_simp
            have hb3 := below_one wq2 (.cells #[.int .i64 m2.n, .int .i64 m2.l, .string m2.f, .string m2.z, .int .i64 m2.c] 59)
            have HV_3 := HV_2.next hb3
            have BE_3 := BE_2.next hb3
            have OA_3 := OA_2.next hb3
            have NB33_3 := BoxIs.new wq2 #[.int .i64 m2.n, .int .i64 m2.l, .string m2.f, .string m2.z, .int .i64 m2.c] 59 rfl
            refine hK.out _ _ trivial (fun hSz => ?_)
            clear hK K hSz BE_2 HV_2 OA_2
            obtain ⟨G3, hG3⟩ : ∃ G, G = wq2.heap.size := ⟨_, rfl⟩
            rw [← hG3] at NB33_3 ⊢
            generalize wq2.alloc (.cells #[.int .i64 m2.n, .int .i64 m2.l, .string m2.f, .string m2.z, .int .i64 m2.c] 59) = wq3 at hb3 HV_3 BE_3 OA_3 NB33_3 ⊢
            clear hG3 hb3
            refine wpAnyH_ready (rs := [5]) (by kernel_rfl) (by simp) ?_
            refine AllReadyH.cons nat5 (fun K hK => ?_) AllReadyH.nil
            refine step_append_row rfl (.tmp 30) (.tmp 33) 30 rfl 59 Try.underlying30 5 56 meta_info rfl (by decide) (by decide) w.heap.size (.slice vaA vaN vaP) _ _ (by rfl) OA_3 ⟨G3, 0, none⟩ 1 1 (cellsMeta [m2]) (by rfl) rfl (cellsMeta_one _) (rg_news (us := cellsMeta [m2]) NB33_3) HV_3.mv.size (by omega) ?_
            intro v4 wq4 h1 h2
            have hC4 : OwnMeta wq4 w.heap.size v4 (l ++ [m2]) := by show World.ownsRow _ _ _ _ _ _ _; rw [cellsMeta_append, List.length_append]; exact h1
            obtain ⟨va4, vn4, vp4, rfl⟩ : ∃ a n p, v4 = .slice a n p := by obtain ⟨a, p, e⟩ := rg_shape h1; exact ⟨_, _, _, e⟩
            clear h1
            have HV_4 := HV_3.grow OA_3 (Nat.le_refl _) HV_3.mv.size h2 (by decide)
            have BE_4 := rg_box OA_3 h2 BE_3 (by decide)
            have OA_4 := hC4
            refine hK.out _ _ trivial (fun hSz => ?_)
            clear hK K hSz BE_3 HV_3 NB33_3 OA_3
            clear hC4 h2
            refine wpAnyH_take (i := 6) (v := .pointer (some ⟨E, 0, none⟩)) nat6 (by kernel_rfl) (by kernel_rfl) (by kernel_rfl) (fun _ _ _ h => False.elim h) (Or.inl ⟨by rfl, ?_⟩) trivial ?_
            · intro wx hSw
              go_simp
            simp only [Act.put, List.setIfInBounds_toArray, List.set_cons_zero, List.set_cons_succ]
            refine wpAnyH_ready (rs := [7]) (by kernel_rfl) (by simp) ?_
            refine AllReadyH.cons nat7 (fun K hK => ?_) AllReadyH.nil
            have y0 := BE_4.cell 0
            simp only [List.getElem?_toArray, List.getElem?_cons_succ, List.getElem?_cons_zero] at y0
            have yf := BE_4.free
            go_simp
            clear yf y0
            have HV_5s0 := HV_4.setE hE 0 (.slice va4 vn4 vp4)
            have BE_5s0 := BE_4.set 0 (.slice va4 vn4 vp4)
            have OA_5s0 := (show OwnMeta _ _ _ _ from rg_set (o := 0) OA_4 BE_4 (by decide) (.slice va4 vn4 vp4))
            have HV_5 := HV_5s0
            have BE_5 : BoxIs (wq4.setCell ⟨E, 0, none⟩ (.slice va4 vn4 vp4)) E #[.slice va4 vn4 vp4, .int .i64 nx, .int .i64 sq, .int .i64 lg] 32 := BE_5s0
            have OA_5 := OA_5s0
            refine hK.out _ _ trivial (fun hSz => ?_)
            clear hK K hSz BE_4 HV_4 OA_4 HV_5s0 BE_5s0 OA_5s0
            generalize wq4.setCell ⟨E, 0, none⟩ (.slice va4 vn4 vp4) = wq5 at HV_5 BE_5 OA_5 ⊢
            refine wpAnyH_done (by kernel_rfl) ?_ _
            refine NoPanic.normal ?_
            go_wp2_with fail
            go_meet
            exact ⟨_, _, by simp <;> omega, hide ⟨HV_5, BE_5, OA_5, hE⟩⟩
          · go_simp
            go_at_call 64
            refine (rd_meta W _ g a len cap hc hl HV_0.rd).mono ?_
            rintro e wq6 ⟨m6, rfl, hf6, hz6, hr6, hb6⟩
            have HV_6 := HV_0.call hr6 hb6
            have BE_6 := BE_0.mv hb6 (by omega)
            have OA_6 := OwnMeta.mv OA_0 hb6 hg
            refine hK.out _ _ trivial (fun hSz => ?_)
            clear hK K hSz BE_0 HV_0 OA_0 hb6
            refine wpAnyH_ready (rs := [1, 4]) (by kernel_rfl) (by simp) ?_
            refine AllReadyH.cons nat1 (fun K hK => ?_) (AllReadyH.cons nat4 (fun K hK => ?_) AllReadyH.nil)
            · have y0 := BE_6.cell 0
              simp only [List.getElem?_toArray, List.getElem?_cons_succ, List.getElem?_cons_zero] at y0
              go_simp
              refine hK.out _ _ trivial (fun hSz => ?_)
              clear hK K hSz y0
              try simp only [Act.put, List.setIfInBounds_toArray, List.set_cons_zero, List.set_cons_succ]
              refine wpAnyH_ready (rs := [4]) (by kernel_rfl) (by simp) ?_
              refine AllReadyH.cons nat4 (fun K hK => ?_) AllReadyH.nil
              go_simp
              have hb8 := below_one wq6 (.cells #[.int .i64 m6.n, .int .i64 m6.l, .string m6.f, .string m6.z, .int .i64 m6.c] 59)
              have HV_8 := HV_6.next hb8
              have BE_8 := BE_6.next hb8
              have OA_8 := OA_6.next hb8
              have NB33_8 := BoxIs.new wq6 #[.int .i64 m6.n, .int .i64 m6.l, .string m6.f, .string m6.z, .int .i64 m6.c] 59 rfl
              refine hK.out _ _ trivial (fun hSz => ?_)
              clear hK K hSz BE_6 HV_6 OA_6
              obtain ⟨G8, hG8⟩ : ∃ G, G = wq6.heap.size := ⟨_, rfl⟩
              rw [← hG8] at NB33_8 ⊢
              generalize wq6.alloc (.cells #[.int .i64 m6.n, .int .i64 m6.l, .string m6.f, .string m6.z, .int .i64 m6.c] 59) = wq8 at hb8 HV_8 BE_8 OA_8 NB33_8 ⊢
              clear hG8 hb8
              refine wpAnyH_ready (rs := [5]) (by kernel_rfl) (by simp) ?_
              refine AllReadyH.cons nat5 (fun K hK => ?_) AllReadyH.nil
              refine step_append_row rfl (.tmp 30) (.tmp 33) 30 rfl 59 Try.underlying30 5 56 meta_info rfl (by decide) (by decide) w.heap.size (.slice vaA vaN vaP) _ _ (by rfl) OA_8 ⟨G8, 0, none⟩ 1 1 (cellsMeta [m6]) (by rfl) rfl (cellsMeta_one _) (rg_news (us := cellsMeta [m6]) NB33_8) HV_8.mv.size (by omega) ?_
              intro v9 wq9 h1 h2
              have hC9 : OwnMeta wq9 w.heap.size v9 (l ++ [m6]) := by show World.ownsRow _ _ _ _ _ _ _; rw [cellsMeta_append, List.length_append]; exact h1
              obtain ⟨va9, vn9, vp9, rfl⟩ : ∃ a n p, v9 = .slice a n p := by obtain ⟨a, p, e⟩ := rg_shape h1; exact ⟨_, _, _, e⟩
              clear h1
              have HV_9 := HV_8.grow OA_8 (Nat.le_refl _) HV_8.mv.size h2 (by decide)
              have BE_9 := rg_box OA_8 h2 BE_8 (by decide)
              have OA_9 := hC9
              refine hK.out _ _ trivial (fun hSz => ?_)
              clear hK K hSz BE_8 HV_8 NB33_8 OA_8
              clear hC9 h2
              refine wpAnyH_take (i := 6) (v := .pointer (some ⟨E, 0, none⟩)) nat6 (by kernel_rfl) (by kernel_rfl) (by kernel_rfl) (fun _ _ _ h => False.elim h) (Or.inl ⟨by rfl, ?_⟩) trivial ?_
              · intro wx hSw
                go_simp
              simp only [Act.put, List.setIfInBounds_toArray, List.set_cons_zero, List.set_cons_succ]
              refine wpAnyH_ready (rs := [7]) (by kernel_rfl) (by simp) ?_
              refine AllReadyH.cons nat7 (fun K hK => ?_) AllReadyH.nil
              have y0 := BE_9.cell 0
              simp only [List.getElem?_toArray, List.getElem?_cons_succ, List.getElem?_cons_zero] at y0
              have yf := BE_9.free
              go_simp
              clear yf y0
              have HV_10s0 := HV_9.setE hE 0 (.slice va9 vn9 vp9)
              have BE_10s0 := BE_9.set 0 (.slice va9 vn9 vp9)
              have OA_10s0 := (show OwnMeta _ _ _ _ from rg_set (o := 0) OA_9 BE_9 (by decide) (.slice va9 vn9 vp9))
              have HV_10 := HV_10s0
              have BE_10 : BoxIs (wq9.setCell ⟨E, 0, none⟩ (.slice va9 vn9 vp9)) E #[.slice va9 vn9 vp9, .int .i64 nx, .int .i64 sq, .int .i64 lg] 32 := BE_10s0
              have OA_10 := OA_10s0
              refine hK.out _ _ trivial (fun hSz => ?_)
              clear hK K hSz BE_9 HV_9 OA_9 HV_10s0 BE_10s0 OA_10s0
              generalize wq9.setCell ⟨E, 0, none⟩ (.slice va9 vn9 vp9) = wq10 at HV_10 BE_10 OA_10 ⊢
              refine wpAnyH_done (by kernel_rfl) ?_ _
              refine NoPanic.normal ?_
              go_wp2_with fail
              go_meet
              exact ⟨_, _, by simp <;> omega, hide ⟨HV_10, BE_10, OA_10, hE⟩⟩
            · go_simp
              have hb11 := below_one wq6 (.cells #[.int .i64 m6.n, .int .i64 m6.l, .string m6.f, .string m6.z, .int .i64 m6.c] 59)
              have HV_11 := HV_6.next hb11
              have BE_11 := BE_6.next hb11
              have OA_11 := OA_6.next hb11
              have NB33_11 := BoxIs.new wq6 #[.int .i64 m6.n, .int .i64 m6.l, .string m6.f, .string m6.z, .int .i64 m6.c] 59 rfl
              refine hK.out _ _ trivial (fun hSz => ?_)
              clear hK K hSz BE_6 HV_6 OA_6
              obtain ⟨G11, hG11⟩ : ∃ G, G = wq6.heap.size := ⟨_, rfl⟩
              rw [← hG11] at NB33_11 ⊢
              generalize wq6.alloc (.cells #[.int .i64 m6.n, .int .i64 m6.l, .string m6.f, .string m6.z, .int .i64 m6.c] 59) = wq11 at hb11 HV_11 BE_11 OA_11 NB33_11 ⊢
              clear hG11 hb11
              refine wpAnyH_ready (rs := [1]) (by kernel_rfl) (by simp) ?_
              refine AllReadyH.cons nat1 (fun K hK => ?_) AllReadyH.nil
              have y0 := BE_11.cell 0
              simp only [List.getElem?_toArray, List.getElem?_cons_succ, List.getElem?_cons_zero] at y0
              go_simp
              refine hK.out _ _ trivial (fun hSz => ?_)
              clear hK K hSz y0
              try simp only [Act.put, List.setIfInBounds_toArray, List.set_cons_zero, List.set_cons_succ]
              refine wpAnyH_ready (rs := [5]) (by kernel_rfl) (by simp) ?_
              refine AllReadyH.cons nat5 (fun K hK => ?_) AllReadyH.nil
              refine step_append_row rfl (.tmp 30) (.tmp 33) 30 rfl 59 Try.underlying30 5 56 meta_info rfl (by decide) (by decide) w.heap.size (.slice vaA vaN vaP) _ _ (by rfl) OA_11 ⟨G11, 0, none⟩ 1 1 (cellsMeta [m6]) (by rfl) rfl (cellsMeta_one _) (rg_news (us := cellsMeta [m6]) NB33_11) HV_11.mv.size (by omega) ?_
              intro v13 wq13 h1 h2
              have hC13 : OwnMeta wq13 w.heap.size v13 (l ++ [m6]) := by show World.ownsRow _ _ _ _ _ _ _; rw [cellsMeta_append, List.length_append]; exact h1
              obtain ⟨va13, vn13, vp13, rfl⟩ : ∃ a n p, v13 = .slice a n p := by obtain ⟨a, p, e⟩ := rg_shape h1; exact ⟨_, _, _, e⟩
              clear h1
              have HV_13 := HV_11.grow OA_11 (Nat.le_refl _) HV_11.mv.size h2 (by decide)
              have BE_13 := rg_box OA_11 h2 BE_11 (by decide)
              have OA_13 := hC13
              refine hK.out _ _ trivial (fun hSz => ?_)
              clear hK K hSz BE_11 HV_11 NB33_11 OA_11
              clear hC13 h2
              refine wpAnyH_take (i := 6) (v := .pointer (some ⟨E, 0, none⟩)) nat6 (by kernel_rfl) (by kernel_rfl) (by kernel_rfl) (fun _ _ _ h => False.elim h) (Or.inl ⟨by rfl, ?_⟩) trivial ?_
              · intro wx hSw
                go_simp
              simp only [Act.put, List.setIfInBounds_toArray, List.set_cons_zero, List.set_cons_succ]
              refine wpAnyH_ready (rs := [7]) (by kernel_rfl) (by simp) ?_
              refine AllReadyH.cons nat7 (fun K hK => ?_) AllReadyH.nil
              have y0 := BE_13.cell 0
              simp only [List.getElem?_toArray, List.getElem?_cons_succ, List.getElem?_cons_zero] at y0
              have yf := BE_13.free
              go_simp
              clear yf y0
              have HV_14s0 := HV_13.setE hE 0 (.slice va13 vn13 vp13)
              have BE_14s0 := BE_13.set 0 (.slice va13 vn13 vp13)
              have OA_14s0 := (show OwnMeta _ _ _ _ from rg_set (o := 0) OA_13 BE_13 (by decide) (.slice va13 vn13 vp13))
              have HV_14 := HV_14s0
              have BE_14 : BoxIs (wq13.setCell ⟨E, 0, none⟩ (.slice va13 vn13 vp13)) E #[.slice va13 vn13 vp13, .int .i64 nx, .int .i64 sq, .int .i64 lg] 32 := BE_14s0
              have OA_14 := OA_14s0
              refine hK.out _ _ trivial (fun hSz => ?_)
              clear hK K hSz BE_13 HV_13 OA_13 HV_14s0 BE_14s0 OA_14s0
              generalize wq13.setCell ⟨E, 0, none⟩ (.slice va13 vn13 vp13) = wq14 at HV_14 BE_14 OA_14 ⊢
              refine wpAnyH_done (by kernel_rfl) ?_ _
              refine NoPanic.normal ?_
              go_wp2_with fail
              go_meet
              exact ⟨_, _, by simp <;> omega, hide ⟨HV_14, BE_14, OA_14, hE⟩⟩
      case rest =>
      obtain ⟨va2, l2, hl2, HE⟩ := hcut
      clear HS9
      obtain ⟨vaA, vaP, rfl⟩ := HE.out.oa.shape
      have y0 := HE.out.bE.cell 0
      have y1 := HE.out.bE.cell 1
      have y2 := HE.out.bE.cell 2
      have y3 := HE.out.bE.cell 3
      have z0 := HE.out.V.bR.cell 0
      have z1 := HE.out.V.bR.cell 1
      have z2 := HE.out.V.bR.cell 2
      have z3 := HE.out.V.bR.cell 3
      have zf := HE.out.V.bR.free
      simp only [List.getElem?_toArray, List.getElem?_cons_succ, List.getElem?_cons_zero] at y0 y1 y2 y3 z0 z1 z2 z3
      have hE1 : E ≠ w.heap.size := by omega
      go_wp2
      obtain ⟨r1, r3, r4⟩ := HE.out.ret (.slice vaA l2.length vaP) (.int .i64 nx) (.int .i64 sq) (.int .i64 lg)
      exact bodyPost_ret (v := .agg #[.slice vaA l2.length vaP, .int .i64 nx, .int .i64 sq, .int .i64 lg]) (by simp [results, Try.results45, go_sem, z0, z1, z2, z3]) rfl ⟨_, _, l2, nx, sq, lg, rfl, r1, hl2, by omega, by omega, by omega, by omega, r3, r4⟩
    · obtain ⟨k, rfl⟩ : ∃ k, gk = k + 1 := ⟨gk - 1, by omega⟩
      clear hk
      have hkp : (0 : Int) < ((k + 1 : Nat) : Int) := by omega
      go_upto_region 5 with fail
      obtain ⟨vaA, vaP, rfl⟩ := HS.out.oa.shape
      go_cut [5, 6] (fun p t wx => ∃ (N : Nat) (b : Bool) (a1 : Option Addr) (c1 : Nat) (l1 : List Meta1) (n1 s1 g1 : Int), p = .pointer (some ⟨N, 0, none⟩) ∧ t = .bool b ∧ (b = true → nx ≤ n1 ∧ n1 ≤ nx + 3 ∧ sq ≤ s1 ∧ s1 ≤ sq + 8 ∧ l1.length ≤ 30) ∧ N ≠ E ∧ Hid (VeS W w g a len cap E (.slice vaA l.length vaP) l nx sq lg wx) ∧ Hid (BoxIs wx N #[.slice a1 l1.length c1, .int .i64 n1, .int .i64 s1, .int .i64 g1] 32) ∧ Hid (OwnMeta wx w.heap.size (.slice a1 l1.length c1) l1))
      case first =>
        have H0 := HS.out
        clear HS
        refine wp_region_noPanic ?_
        have hb0 : Below wr.heap.size wr wr.drew := (Below.refl _ _).drew
        have H_0 := H0.next hb0
        refine wp_region_held_drew (S := fun x => BoxIs x E #[.slice vaA l.length vaP, .int .i64 nx, .int .i64 sq, .int .i64 lg] 32) (by kernel_rfl) H_0.bE (fun hSz => ?_)
        clear hSz H0
        generalize wr.drew = wq0 at hb0 H_0 ⊢
        clear hb0
        refine wpAnyH_take (i := 0) (v := .agg #[.slice vaA l.length vaP, .int .i64 nx, .int .i64 sq, .int .i64 lg]) nat0 (by kernel_rfl) (by kernel_rfl) (by kernel_rfl) (fun _ _ _ h => False.elim h) (Or.inl ⟨by rfl, ?_⟩) H_0.bE ?_
        · intro wx hSw
          have y0 := hSw.cell 0
          have y1 := hSw.cell 1
          have y2 := hSw.cell 2
          have y3 := hSw.cell 3
          simp only [List.getElem?_toArray, List.getElem?_cons_succ, List.getElem?_cons_zero] at y0 y1 y2 y3
          go_simp
        simp only [Act.put, List.setIfInBounds_toArray, List.set_cons_zero, List.set_cons_succ]
        refine wpAnyH_take (i := 1) (v := .pointer (some ⟨g, 0, none⟩)) nat1 (by kernel_rfl) (by kernel_rfl) (by kernel_rfl) (fun _ _ _ h => False.elim h) (Or.inl ⟨by rfl, ?_⟩) H_0.bE ?_
        · intro wx hSw
          go_simp
        simp only [Act.put, List.setIfInBounds_toArray, List.set_cons_zero, List.set_cons_succ]
        refine wpAnyH_take (i := 2) (v := .agg #[.slice vaA l.length vaP, .int .i64 nx, .int .i64 sq, .int .i64 lg]) nat2 (by kernel_rfl) (by kernel_rfl) (by kernel_rfl) (fun _ _ _ h => False.elim h) (Or.inl ⟨by rfl, ?_⟩) H_0.bE ?_
        · intro wx hSw
          have y0 := hSw.cell 0
          have y1 := hSw.cell 1
          have y2 := hSw.cell 2
          have y3 := hSw.cell 3
          simp only [List.getElem?_toArray, List.getElem?_cons_succ, List.getElem?_cons_zero] at y0 y1 y2 y3
          go_simp
        simp only [Act.put, List.setIfInBounds_toArray, List.set_cons_zero, List.set_cons_succ]
        refine wpAnyH_ready (rs := [3, 8]) (by kernel_rfl) (by simp) ?_
        refine AllReadyH.cons nat3 (fun K hK => ?_) (AllReadyH.cons nat8 (fun K hK => ?_) AllReadyH.nil)
        · go_simp
          go_at_call 46
          refine (rd_edit W _ g a len cap hc hl H_0.rd (.slice vaA l.length vaP) l nx sq lg (by omega) (by omega) (by omega) (H_0.oa.base (by omega))).mono ?_
          rintro e wq1 ⟨aa1, ad1, ca1, cu1, en1, es1, eg1, rfl, oa1, oc1, ha1, hc1, hq11, hq21, hq31, hq41, hr1, hb1⟩
          have H_1 := H_0.call hr1 hb1
          have AA_1 := oa1
          have CC_1 := oc1
          refine hK.out _ _ H_1.bE (fun hSz => ?_)
          clear hK K hSz H_0 hb1 oa1 oc1
          refine wpAnyH_ready (rs := [4, 8]) (by kernel_rfl) (by simp) ?_
          refine AllReadyH.cons nat4 (fun K hK => ?_) (AllReadyH.cons nat8 (fun K hK => ?_) AllReadyH.nil)
          · go_simp
            go_at_call 9
            refine (apply_own _ l _ _ _ _ ad1 _ cu1 _ _ _ _ _ _ _ (by omega) (by omega) (by omega) H_1.oa AA_1 CC_1).mono ?_
            rintro e wq2 ⟨⟨b2, na2, nc2, nl2, nn2, ns2, ng2, rfl, no2, nh2⟩, hb2⟩
            have H_2 := H_1.next hb2
            have NO_2 := no2.base H_1.V.mv.size
            refine hK.out _ _ H_2.bE (fun hSz => ?_)
            clear hK K hSz AA_1 CC_1 H_1 hb2 no2
            refine wpAnyH_take (i := 5) (v := .tuple #[.agg #[.slice na2 nl2.length nc2, .int .i64 nn2, .int .i64 ns2, .int .i64 ng2], .bool b2]) nat5 (by kernel_rfl) (by kernel_rfl) (by kernel_rfl) (fun _ _ _ h => False.elim h) (Or.inl ⟨by rfl, ?_⟩) H_2.bE ?_
            · intro wx hSw
              go_simp
            simp only [Act.put, List.setIfInBounds_toArray, List.set_cons_zero, List.set_cons_succ]
            refine wpAnyH_take (i := 6) (v := .agg #[.slice na2 nl2.length nc2, .int .i64 nn2, .int .i64 ns2, .int .i64 ng2]) nat6 (by kernel_rfl) (by kernel_rfl) (by kernel_rfl) (fun _ _ _ h => False.elim h) (Or.inl ⟨by rfl, ?_⟩) H_2.bE ?_
            · intro wx hSw
              go_simp
            simp only [Act.put, List.setIfInBounds_toArray, List.set_cons_zero, List.set_cons_succ]
            refine wpAnyH_take (i := 7) (v := .bool b2) nat7 (by kernel_rfl) (by kernel_rfl) (by kernel_rfl) (fun _ _ _ h => False.elim h) (Or.inl ⟨by rfl, ?_⟩) H_2.bE ?_
            · intro wx hSw
              go_simp
            simp only [Act.put, List.setIfInBounds_toArray, List.set_cons_zero, List.set_cons_succ]
            refine wpAnyH_ready (rs := [8]) (by kernel_rfl) (by simp) ?_
            refine AllReadyH.cons nat8 (fun K hK => ?_) AllReadyH.nil
            go_simp
            have hlt3 := H_2.bE.lt
            have hb3 := below_one wq2 (.cells #[.slice none 0 0, .int .i64 0, .int .i64 0, .int .i64 0] 32)
            have H_3 := H_2.next hb3
            have NO_3 := NO_2.next hb3
            have NB5_3 := BoxIs.new wq2 #[.slice none 0 0, .int .i64 0, .int .i64 0, .int .i64 0] 32 rfl
            refine hK.out _ _ H_3.bE (fun hSz => ?_)
            clear hK K hSz H_2 NO_2
            obtain ⟨G3, hG3⟩ : ∃ G, G = wq2.heap.size := ⟨_, rfl⟩
            rw [← hG3] at NB5_3 ⊢
            generalize wq2.alloc (.cells #[.slice none 0 0, .int .i64 0, .int .i64 0, .int .i64 0] 32) = wq3 at hb3 H_3 NO_3 NB5_3 ⊢
            rw [← hG3] at hlt3
            clear hG3 hb3
            refine wpAnyH_ready (rs := [9]) (by kernel_rfl) (by simp) ?_
            refine AllReadyH.cons nat9 (fun K hK => ?_) AllReadyH.nil
            have y0 := NB5_3.cell 0
            have y1 := NB5_3.cell 1
            have y2 := NB5_3.cell 2
            have y3 := NB5_3.cell 3
            simp only [List.getElem?_toArray, List.getElem?_cons_succ, List.getElem?_cons_zero] at y0 y1 y2 y3
            have yf := NB5_3.free
            go_simp
            clear yf y0 y1 y2 y3
            have H_4s0 := H_3.setN hlt3 NB5_3 0 (.slice na2 nl2.length nc2)
            have NO_4s0 := (show OwnMeta _ _ _ _ from rg_set (o := 0) NO_3 NB5_3 (by decide) (.slice na2 nl2.length nc2))
            have NB5_4s0 := NB5_3.set 0 (.slice na2 nl2.length nc2)
            have H_4s1 := H_4s0.setN hlt3 NB5_4s0 1 (.int .i64 nn2)
            have NO_4s1 := (show OwnMeta _ _ _ _ from rg_set (o := 1) NO_4s0 NB5_4s0 (by decide) (.int .i64 nn2))
            have NB5_4s1 := NB5_4s0.set 1 (.int .i64 nn2)
            have H_4s2 := H_4s1.setN hlt3 NB5_4s1 2 (.int .i64 ns2)
            have NO_4s2 := (show OwnMeta _ _ _ _ from rg_set (o := 2) NO_4s1 NB5_4s1 (by decide) (.int .i64 ns2))
            have NB5_4s2 := NB5_4s1.set 2 (.int .i64 ns2)
            have H_4s3 := H_4s2.setN hlt3 NB5_4s2 3 (.int .i64 ng2)
            have NO_4s3 := (show OwnMeta _ _ _ _ from rg_set (o := 3) NO_4s2 NB5_4s2 (by decide) (.int .i64 ng2))
            have NB5_4s3 := NB5_4s2.set 3 (.int .i64 ng2)
            have H_4 := H_4s3
            have NO_4 := NO_4s3
            have NB5_4 : BoxIs ((((wq3.setCell ⟨G3, 0, none⟩ (.slice na2 nl2.length nc2)).setCell ⟨G3, 1, none⟩ (.int .i64 nn2)).setCell ⟨G3, 2, none⟩ (.int .i64 ns2)).setCell ⟨G3, 3, none⟩ (.int .i64 ng2)) G3 #[.slice na2 nl2.length nc2, .int .i64 nn2, .int .i64 ns2, .int .i64 ng2] 32 := NB5_4s3
            refine hK.out _ _ H_4.bE (fun hSz => ?_)
            clear hK K hSz H_3 NB5_3 NO_3 H_4s0 H_4s1 H_4s2 H_4s3 NO_4s0 NO_4s1 NO_4s2 NO_4s3 NB5_4s0 NB5_4s1 NB5_4s2 NB5_4s3
            generalize (((wq3.setCell ⟨G3, 0, none⟩ (.slice na2 nl2.length nc2)).setCell ⟨G3, 1, none⟩ (.int .i64 nn2)).setCell ⟨G3, 2, none⟩ (.int .i64 ns2)).setCell ⟨G3, 3, none⟩ (.int .i64 ng2) = wq4 at H_4 NO_4 NB5_4 ⊢
            refine wpAnyH_take (i := 10) (v := .bool b2) nat10 (by kernel_rfl) (by kernel_rfl) (by kernel_rfl) (fun _ _ _ h => False.elim h) (Or.inl ⟨by rfl, ?_⟩) H_4.bE ?_
            · intro wx hSw
              go_simp
            simp only [Act.put, List.setIfInBounds_toArray, List.set_cons_zero, List.set_cons_succ]
            refine wpAnyH_done (by kernel_rfl) ?_ _
            refine NoPanic.normal ?_
            go_wp2_with fail
            go_meet
            exact ⟨G3, b2, _, _, nl2, _, _, _, rfl, rfl, (fun hb => by obtain ⟨z1, z2, z3, z4, _⟩ := nh2 hb; omega), by omega, hide H_4, hide NB5_4, hide NO_4⟩
          · go_simp
            have hlt5 := H_1.bE.lt
            have hb5 := below_one wq1 (.cells #[.slice none 0 0, .int .i64 0, .int .i64 0, .int .i64 0] 32)
            have H_5 := H_1.next hb5
            have AA_5 := AA_1.next hb5
            have CC_5 := CC_1.next hb5
            have NB5_5 := BoxIs.new wq1 #[.slice none 0 0, .int .i64 0, .int .i64 0, .int .i64 0] 32 rfl
            refine hK.out _ _ H_5.bE (fun hSz => ?_)
            clear hK K hSz AA_1 CC_1 H_1
            obtain ⟨G5, hG5⟩ : ∃ G, G = wq1.heap.size := ⟨_, rfl⟩
            rw [← hG5] at NB5_5 ⊢
            generalize wq1.alloc (.cells #[.slice none 0 0, .int .i64 0, .int .i64 0, .int .i64 0] 32) = wq5 at hb5 H_5 AA_5 CC_5 NB5_5 ⊢
            rw [← hG5] at hlt5
            clear hG5 hb5
            refine wpAnyH_ready (rs := [4]) (by kernel_rfl) (by simp) ?_
            refine AllReadyH.cons nat4 (fun K hK => ?_) AllReadyH.nil
            go_simp
            go_at_call 9
            refine (apply_own _ l _ _ _ _ ad1 _ cu1 _ _ _ _ _ _ _ (by omega) (by omega) (by omega) H_5.oa AA_5 CC_5).mono ?_
            rintro e wq6 ⟨⟨b6, na6, nc6, nl6, nn6, ns6, ng6, rfl, no6, nh6⟩, hb6⟩
            have H_6 := H_5.next hb6
            have NB5_6 := NB5_5.next hb6
            have NO_6 := no6.base H_5.V.mv.size
            refine hK.out _ _ H_6.bE (fun hSz => ?_)
            clear hK K hSz AA_5 CC_5 H_5 NB5_5 hb6 no6
            refine wpAnyH_take (i := 5) (v := .tuple #[.agg #[.slice na6 nl6.length nc6, .int .i64 nn6, .int .i64 ns6, .int .i64 ng6], .bool b6]) nat5 (by kernel_rfl) (by kernel_rfl) (by kernel_rfl) (fun _ _ _ h => False.elim h) (Or.inl ⟨by rfl, ?_⟩) H_6.bE ?_
            · intro wx hSw
              go_simp
            simp only [Act.put, List.setIfInBounds_toArray, List.set_cons_zero, List.set_cons_succ]
            refine wpAnyH_take (i := 6) (v := .agg #[.slice na6 nl6.length nc6, .int .i64 nn6, .int .i64 ns6, .int .i64 ng6]) nat6 (by kernel_rfl) (by kernel_rfl) (by kernel_rfl) (fun _ _ _ h => False.elim h) (Or.inl ⟨by rfl, ?_⟩) H_6.bE ?_
            · intro wx hSw
              go_simp
            simp only [Act.put, List.setIfInBounds_toArray, List.set_cons_zero, List.set_cons_succ]
            refine wpAnyH_take (i := 7) (v := .bool b6) nat7 (by kernel_rfl) (by kernel_rfl) (by kernel_rfl) (fun _ _ _ h => False.elim h) (Or.inl ⟨by rfl, ?_⟩) H_6.bE ?_
            · intro wx hSw
              go_simp
            simp only [Act.put, List.setIfInBounds_toArray, List.set_cons_zero, List.set_cons_succ]
            refine wpAnyH_ready (rs := [9]) (by kernel_rfl) (by simp) ?_
            refine AllReadyH.cons nat9 (fun K hK => ?_) AllReadyH.nil
            have y0 := NB5_6.cell 0
            have y1 := NB5_6.cell 1
            have y2 := NB5_6.cell 2
            have y3 := NB5_6.cell 3
            simp only [List.getElem?_toArray, List.getElem?_cons_succ, List.getElem?_cons_zero] at y0 y1 y2 y3
            have yf := NB5_6.free
            go_simp
            clear yf y0 y1 y2 y3
            have H_7s0 := H_6.setN hlt5 NB5_6 0 (.slice na6 nl6.length nc6)
            have NB5_7s0 := NB5_6.set 0 (.slice na6 nl6.length nc6)
            have NO_7s0 := (show OwnMeta _ _ _ _ from rg_set (o := 0) NO_6 NB5_6 (by decide) (.slice na6 nl6.length nc6))
            have H_7s1 := H_7s0.setN hlt5 NB5_7s0 1 (.int .i64 nn6)
            have NB5_7s1 := NB5_7s0.set 1 (.int .i64 nn6)
            have NO_7s1 := (show OwnMeta _ _ _ _ from rg_set (o := 1) NO_7s0 NB5_7s0 (by decide) (.int .i64 nn6))
            have H_7s2 := H_7s1.setN hlt5 NB5_7s1 2 (.int .i64 ns6)
            have NB5_7s2 := NB5_7s1.set 2 (.int .i64 ns6)
            have NO_7s2 := (show OwnMeta _ _ _ _ from rg_set (o := 2) NO_7s1 NB5_7s1 (by decide) (.int .i64 ns6))
            have H_7s3 := H_7s2.setN hlt5 NB5_7s2 3 (.int .i64 ng6)
            have NB5_7s3 := NB5_7s2.set 3 (.int .i64 ng6)
            have NO_7s3 := (show OwnMeta _ _ _ _ from rg_set (o := 3) NO_7s2 NB5_7s2 (by decide) (.int .i64 ng6))
            have H_7 := H_7s3
            have NB5_7 : BoxIs ((((wq6.setCell ⟨G5, 0, none⟩ (.slice na6 nl6.length nc6)).setCell ⟨G5, 1, none⟩ (.int .i64 nn6)).setCell ⟨G5, 2, none⟩ (.int .i64 ns6)).setCell ⟨G5, 3, none⟩ (.int .i64 ng6)) G5 #[.slice na6 nl6.length nc6, .int .i64 nn6, .int .i64 ns6, .int .i64 ng6] 32 := NB5_7s3
            have NO_7 := NO_7s3
            refine hK.out _ _ H_7.bE (fun hSz => ?_)
            clear hK K hSz H_6 NB5_6 NO_6 H_7s0 H_7s1 H_7s2 H_7s3 NB5_7s0 NB5_7s1 NB5_7s2 NB5_7s3 NO_7s0 NO_7s1 NO_7s2 NO_7s3
            generalize (((wq6.setCell ⟨G5, 0, none⟩ (.slice na6 nl6.length nc6)).setCell ⟨G5, 1, none⟩ (.int .i64 nn6)).setCell ⟨G5, 2, none⟩ (.int .i64 ns6)).setCell ⟨G5, 3, none⟩ (.int .i64 ng6) = wq7 at H_7 NB5_7 NO_7 ⊢
            refine wpAnyH_take (i := 10) (v := .bool b6) nat10 (by kernel_rfl) (by kernel_rfl) (by kernel_rfl) (fun _ _ _ h => False.elim h) (Or.inl ⟨by rfl, ?_⟩) H_7.bE ?_
            · intro wx hSw
              go_simp
            simp only [Act.put, List.setIfInBounds_toArray, List.set_cons_zero, List.set_cons_succ]
            refine wpAnyH_done (by kernel_rfl) ?_ _
            refine NoPanic.normal ?_
            go_wp2_with fail
            go_meet
            exact ⟨G5, b6, _, _, nl6, _, _, _, rfl, rfl, (fun hb => by obtain ⟨z1, z2, z3, z4, _⟩ := nh6 hb; omega), by omega, hide H_7, hide NB5_7, hide NO_7⟩
        · go_simp
          have hlt8 := H_0.bE.lt
          have hb8 := below_one wq0 (.cells #[.slice none 0 0, .int .i64 0, .int .i64 0, .int .i64 0] 32)
          have H_8 := H_0.next hb8
          have NB5_8 := BoxIs.new wq0 #[.slice none 0 0, .int .i64 0, .int .i64 0, .int .i64 0] 32 rfl
          refine hK.out _ _ H_8.bE (fun hSz => ?_)
          clear hK K hSz H_0
          obtain ⟨G8, hG8⟩ : ∃ G, G = wq0.heap.size := ⟨_, rfl⟩
          rw [← hG8] at NB5_8 ⊢
          generalize wq0.alloc (.cells #[.slice none 0 0, .int .i64 0, .int .i64 0, .int .i64 0] 32) = wq8 at hb8 H_8 NB5_8 ⊢
          rw [← hG8] at hlt8
          clear hG8 hb8
          refine wpAnyH_ready (rs := [3]) (by kernel_rfl) (by simp) ?_
          refine AllReadyH.cons nat3 (fun K hK => ?_) AllReadyH.nil
          go_simp
          go_at_call 46
          refine (rd_edit W _ g a len cap hc hl H_8.rd (.slice vaA l.length vaP) l nx sq lg (by omega) (by omega) (by omega) (H_8.oa.base (by omega))).mono ?_
          rintro e wq9 ⟨aa9, ad9, ca9, cu9, en9, es9, eg9, rfl, oa9, oc9, ha9, hc9, hq19, hq29, hq39, hq49, hr9, hb9⟩
          have H_9 := H_8.call hr9 hb9
          have NB5_9 := NB5_8.mv hb9 (by omega)
          have AA_9 := oa9
          have CC_9 := oc9
          refine hK.out _ _ H_9.bE (fun hSz => ?_)
          clear hK K hSz H_8 NB5_8 hb9 oa9 oc9
          refine wpAnyH_ready (rs := [4]) (by kernel_rfl) (by simp) ?_
          refine AllReadyH.cons nat4 (fun K hK => ?_) AllReadyH.nil
          go_simp
          go_at_call 9
          refine (apply_own _ l _ _ _ _ ad9 _ cu9 _ _ _ _ _ _ _ (by omega) (by omega) (by omega) H_9.oa AA_9 CC_9).mono ?_
          rintro e wq10 ⟨⟨b10, na10, nc10, nl10, nn10, ns10, ng10, rfl, no10, nh10⟩, hb10⟩
          have H_10 := H_9.next hb10
          have NB5_10 := NB5_9.next hb10
          have NO_10 := no10.base H_9.V.mv.size
          refine hK.out _ _ H_10.bE (fun hSz => ?_)
          clear hK K hSz AA_9 CC_9 H_9 NB5_9 hb10 no10
          refine wpAnyH_take (i := 5) (v := .tuple #[.agg #[.slice na10 nl10.length nc10, .int .i64 nn10, .int .i64 ns10, .int .i64 ng10], .bool b10]) nat5 (by kernel_rfl) (by kernel_rfl) (by kernel_rfl) (fun _ _ _ h => False.elim h) (Or.inl ⟨by rfl, ?_⟩) H_10.bE ?_
          · intro wx hSw
            go_simp
          simp only [Act.put, List.setIfInBounds_toArray, List.set_cons_zero, List.set_cons_succ]
          refine wpAnyH_take (i := 6) (v := .agg #[.slice na10 nl10.length nc10, .int .i64 nn10, .int .i64 ns10, .int .i64 ng10]) nat6 (by kernel_rfl) (by kernel_rfl) (by kernel_rfl) (fun _ _ _ h => False.elim h) (Or.inl ⟨by rfl, ?_⟩) H_10.bE ?_
          · intro wx hSw
            go_simp
          simp only [Act.put, List.setIfInBounds_toArray, List.set_cons_zero, List.set_cons_succ]
          refine wpAnyH_take (i := 7) (v := .bool b10) nat7 (by kernel_rfl) (by kernel_rfl) (by kernel_rfl) (fun _ _ _ h => False.elim h) (Or.inl ⟨by rfl, ?_⟩) H_10.bE ?_
          · intro wx hSw
            go_simp
          simp only [Act.put, List.setIfInBounds_toArray, List.set_cons_zero, List.set_cons_succ]
          refine wpAnyH_ready (rs := [9]) (by kernel_rfl) (by simp) ?_
          refine AllReadyH.cons nat9 (fun K hK => ?_) AllReadyH.nil
          have y0 := NB5_10.cell 0
          have y1 := NB5_10.cell 1
          have y2 := NB5_10.cell 2
          have y3 := NB5_10.cell 3
          simp only [List.getElem?_toArray, List.getElem?_cons_succ, List.getElem?_cons_zero] at y0 y1 y2 y3
          have yf := NB5_10.free
          go_simp
          clear yf y0 y1 y2 y3
          have H_11s0 := H_10.setN hlt8 NB5_10 0 (.slice na10 nl10.length nc10)
          have NB5_11s0 := NB5_10.set 0 (.slice na10 nl10.length nc10)
          have NO_11s0 := (show OwnMeta _ _ _ _ from rg_set (o := 0) NO_10 NB5_10 (by decide) (.slice na10 nl10.length nc10))
          have H_11s1 := H_11s0.setN hlt8 NB5_11s0 1 (.int .i64 nn10)
          have NB5_11s1 := NB5_11s0.set 1 (.int .i64 nn10)
          have NO_11s1 := (show OwnMeta _ _ _ _ from rg_set (o := 1) NO_11s0 NB5_11s0 (by decide) (.int .i64 nn10))
          have H_11s2 := H_11s1.setN hlt8 NB5_11s1 2 (.int .i64 ns10)
          have NB5_11s2 := NB5_11s1.set 2 (.int .i64 ns10)
          have NO_11s2 := (show OwnMeta _ _ _ _ from rg_set (o := 2) NO_11s1 NB5_11s1 (by decide) (.int .i64 ns10))
          have H_11s3 := H_11s2.setN hlt8 NB5_11s2 3 (.int .i64 ng10)
          have NB5_11s3 := NB5_11s2.set 3 (.int .i64 ng10)
          have NO_11s3 := (show OwnMeta _ _ _ _ from rg_set (o := 3) NO_11s2 NB5_11s2 (by decide) (.int .i64 ng10))
          have H_11 := H_11s3
          have NB5_11 : BoxIs ((((wq10.setCell ⟨G8, 0, none⟩ (.slice na10 nl10.length nc10)).setCell ⟨G8, 1, none⟩ (.int .i64 nn10)).setCell ⟨G8, 2, none⟩ (.int .i64 ns10)).setCell ⟨G8, 3, none⟩ (.int .i64 ng10)) G8 #[.slice na10 nl10.length nc10, .int .i64 nn10, .int .i64 ns10, .int .i64 ng10] 32 := NB5_11s3
          have NO_11 := NO_11s3
          refine hK.out _ _ H_11.bE (fun hSz => ?_)
          clear hK K hSz H_10 NB5_10 NO_10 H_11s0 H_11s1 H_11s2 H_11s3 NB5_11s0 NB5_11s1 NB5_11s2 NB5_11s3 NO_11s0 NO_11s1 NO_11s2 NO_11s3
          generalize (((wq10.setCell ⟨G8, 0, none⟩ (.slice na10 nl10.length nc10)).setCell ⟨G8, 1, none⟩ (.int .i64 nn10)).setCell ⟨G8, 2, none⟩ (.int .i64 ns10)).setCell ⟨G8, 3, none⟩ (.int .i64 ng10) = wq11 at H_11 NB5_11 NO_11 ⊢
          refine wpAnyH_take (i := 10) (v := .bool b10) nat10 (by kernel_rfl) (by kernel_rfl) (by kernel_rfl) (fun _ _ _ h => False.elim h) (Or.inl ⟨by rfl, ?_⟩) H_11.bE ?_
          · intro wx hSw
            go_simp
          simp only [Act.put, List.setIfInBounds_toArray, List.set_cons_zero, List.set_cons_succ]
          refine wpAnyH_done (by kernel_rfl) ?_ _
          refine NoPanic.normal ?_
          go_wp2_with fail
          go_meet
          exact ⟨G8, b10, _, _, nl10, _, _, _, rfl, rfl, (fun hb => by obtain ⟨z1, z2, z3, z4, _⟩ := nh10 hb; omega), by omega, hide H_11, hide NB5_11, hide NO_11⟩
      case rest =>
      obtain ⟨N, b, a1, c1, l1, n1, s1, g1, rfl, rfl, hb, hNE, HS5, HN, HO⟩ := hcut
      clear HS
      have hw2 : IntKind.i64.wrap (((k + 1 : Nat) : Int) - 1) = (k : Int) := by rw [IntKind.wrap_i64]; omega
      cases b with
      | false =>
        clear hb HN HO
        go_wp2
        go_roundg k
        case measure => omega
        case rel => exact ⟨rfl, _, l, nx, sq, lg, by omega, by omega, by omega, by omega, by omega, by omega, HS5⟩
      | true =>
        obtain ⟨q1, q2, q3, q4, q5⟩ := hb rfl
        have y0 := HS5.out.bE.cell 0
        have y1 := HS5.out.bE.cell 1
        have y2 := HS5.out.bE.cell 2
        have y3 := HS5.out.bE.cell 3
        have yf := HS5.out.bE.free
        have z0 := HN.out.cell 0
        have z1 := HN.out.cell 1
        have z2 := HN.out.cell 2
        have z3 := HN.out.cell 3
        simp only [List.getElem?_toArray, List.getElem?_cons_succ, List.getElem?_cons_zero] at y0 y1 y2 y3 z0 z1 z2 z3
        have HP := hide (HS5.out.put (n1 := n1) (s1 := s1) (g1 := g1) HO.out)
        clear hb HS5 HN HO
        go_wp2
        go_roundg k
        case measure => omega
        case rel => exact ⟨rfl, _, l1, n1, s1, g1, by omega, by omega, by omega, by omega, by omega, by omega, HP⟩

end Go.Proofs.Ytplbhgcibfajaaa
