/- ReadVersion of the program. (By gen_readv.py.) -/
import Derived.Test.YtplemoedpdammaaMgMkMetaMkBoxVersionEntRowBoxVerO
import Derived.Test.YtplemoedpdammaaMgRegMark
import Derived.Test.YtplemoedpdammaaNth
namespace Go.Proofs.Ytplemoedpdammaa
set_option maxRecDepth 100000
open Go.RowKit Go.Deep

theorem rdr_number_szV (r : ByteArray) : (rnum r).2.1.size ≤ r.size := (rnum_bd r).1
theorem rdr_text_szV (r : ByteArray) : (rtext r).2.1.size ≤ r.size := (rtext_bd r).1
/-- While files are read: the reader in block gr, the version in block F, its row from block F + 1 on, the answer's box as it was laid. -/
structure RvS (w : World) (gr F : Nat) (x1 x2 x3 : Int) (v vo : Value) (ms : List Meta1) (r : ByteArray) (x : World) : Prop where
  rd : ∃ l, RdrAt x gr r l
  bx : BoxIs x F #[v, .int .i64 x1, .int .i64 x2, .int .i64 x3] 46
  res : BoxIs x w.heap.size #[.slice none 0 0, .int .i64 0, .int .i64 0, .int .i64 0] 46
  own : OwnMeta x (F + 1) vo ms
  low : Below w.heap.size w x
  rz : r.size ≤ 1048576
  hB : F + 1 ≤ x.heap.size
  n1 : w.heap.size < gr
  n2 : gr < F

section
variable {w : World} {gr F : Nat} {x1 x2 x3 : Int} {v vo : Value} {ms : List Meta1} {r : ByteArray} {x : World}
theorem RvS.drew (h : RvS w gr F x1 x2 x3 v vo ms r x) : RvS w gr F x1 x2 x3 v vo ms r x.drew := by
  obtain ⟨l, hl⟩ := h.rd
  exact ⟨⟨l, hl.lt, hl.c0, hl.c1, hl.f0, hl.f1⟩, h.bx, h.res, h.own, h.low.drew, h.rz, h.hB, h.n1, h.n2⟩
theorem RvS.call (h : RvS w gr F x1 x2 x3 v vo ms r x) {y : World} {r' : ByteArray} (hr : ∃ l, RdrAt y gr r' l) (hm : Mv gr x y) (hz : r'.size ≤ r.size) : RvS w gr F x1 x2 x3 v vo ms r' y := by
  have := h.n1; have := h.n2
  exact ⟨hr, h.bx.mv hm (by omega), h.res.mv hm (by omega), h.own.mv hm (by omega), h.low.trans (hm.below h.low.size (by omega)), Nat.le_trans hz h.rz, Nat.le_trans h.hB hm.size, h.n1, h.n2⟩
theorem RvS.laid (h : RvS w gr F x1 x2 x3 v vo ms r x) (o : Obj) : RvS w gr F x1 x2 x3 v vo ms r (x.alloc o) := by
  have hb := below_one x o
  obtain ⟨l, hl⟩ := h.rd
  exact ⟨⟨l, hl.below hb hl.lt⟩, h.bx.next hb, h.res.next hb, h.own.next hb, h.low.trans (hb.mono h.low.size), h.rz, Nat.le_trans h.hB hb.size, h.n1, h.n2⟩
theorem RvS.app (h : RvS w gr F x1 x2 x3 v vo ms r x) {y : World} {v' : Value} {es : List Meta1} (how : OwnMeta y (F + 1) v' es) (hgr : x.grownBy y vo.ownBlock) : RvS w gr F x1 x2 x3 v v' es r y := by
  have := h.n1; have := h.n2
  have hb := h.own.grownBelow h.hB hgr
  obtain ⟨l, hl⟩ := h.rd
  exact ⟨⟨l, hl.below hb (by omega)⟩, h.bx.below hb (by omega), h.res.below hb (by omega), how, h.low.trans (hb.mono (by omega)), h.rz, Nat.le_trans h.hB hb.size, h.n1, h.n2⟩
theorem RvS.put (h : RvS w gr F x1 x2 x3 v vo ms r x) : RvS w gr F x1 x2 x3 vo vo ms r (x.setCell ⟨F, 0, none⟩ vo) := by
  have h1 := h.n1; have h2 := h.n2
  have hb : Below F x (x.setCell ⟨F, 0, none⟩ vo) := (Below.refl _ _).setCell (p := ⟨F, 0, none⟩) (Nat.le_refl _) _
  have hm : Mv F x (x.setCell ⟨F, 0, none⟩ vo) := (Mv.refl _ _).setCell _
  obtain ⟨l, hl⟩ := h.rd
  exact ⟨⟨l, hl.below hb h2⟩, h.bx.set 0 vo, h.res.below hb (by omega), h.own.mv hm (by omega), h.low.trans (hb.mono (by omega)), h.rz, Nat.le_trans h.hB hm.size, h.n1, h.n2⟩
end

theorem vN_min (s : ByteArray) : min (rnum (v3 s)).1 31 = ((vN s : Nat) : Int) := by
  have := (rnum_bd (v3 s)).2.1
  unfold vN
  split <;> omega

set_option linter.unusedVariables false in
set_option linter.unusedSimpArgs false in
set_option maxHeartbeats 4000000 in
theorem impl_ReadVersion (s : ByteArray) (hs : s.size ≤ 1048576) (w : World) :
    Calls Try.prog 23 #[.string s] w fun e w' => (∃ v, e = .returned (.tuple #[v, .bool (vOk s)]) ∧ VersionOwn w' w.heap.size v (readV s)) ∧ Below w.heap.size w w' := by
  obtain ⟨zB, z1, z2, z3, z4⟩ := v_size s
  have c0 := fun w g m h => rdr_text w g s m hs h
  have c1 := fun w g m h => rdr_number w g (vB s) m (by omega) h
  have c2 := fun w g m h => rdr_number w g (v1 s) m (by omega) h
  have c3 := fun w g m h => rdr_number w g (v2 s) m (by omega) h
  have c4 := fun w g m h => rdr_number w g (v3 s) m (by omega) h
  rw [show (rtext s).1 = vB s from rfl] at c0
  rw [show (rnum (vB s)).2.1 = v1 s from rfl] at c1
  rw [show (rnum (v1 s)).2.1 = v2 s from rfl] at c2
  rw [show (rnum (v2 s)).2.1 = v3 s from rfl] at c3
  rw [show (rnum (v3 s)).2.1 = v4 s from rfl] at c4
  have hmin := vN_min s
  have hm31 := vN_le s
  have HC : Hid (vC s = vc (rdv (v4 s) (vN s)).1 (rnum (vB s)).1 (rnum (v1 s)).1 (rnum (v2 s)).1) := rfl
  have HVO : Hid (vOk s = (versB (vC s) && decide (versT (vC s) = s))) := rfl
  obtain ⟨x1, hx1⟩ : ∃ x, x = (rnum (vB s)).1 := ⟨_, rfl⟩
  obtain ⟨x2, hx2⟩ : ∃ x, x = (rnum (v1 s)).1 := ⟨_, rfl⟩
  obtain ⟨x3, hx3⟩ : ∃ x, x = (rnum (v2 s)).1 := ⟨_, rfl⟩
  obtain ⟨nn, hnn⟩ : ∃ x, x = (rnum (v3 s)).1 := ⟨_, rfl⟩
  obtain ⟨m, hm⟩ : ∃ x, x = vN s := ⟨_, rfl⟩
  rw [← hx1] at c1 HC
  rw [← hx2] at c2 HC
  rw [← hx3] at c3 HC
  rw [← hnn] at c4 hmin
  rw [← hm] at hmin hm31 HC
  have hN : RdrAt ((w.alloc (.cells #[.slice none 0 0, .int .i64 0, .int .i64 0, .int .i64 0] 46)).alloc (.cells #[.string s, .bool false] 83)) (w.heap.size + 1) s false := by
    have e : (w.alloc (.cells #[.slice none 0 0, .int .i64 0, .int .i64 0, .int .i64 0] 46)).heap.size = w.heap.size + 1 := by simp
    rw [← e]
    exact RdrAt.new _ _ _
  have hF : BoxIs ((w.alloc (.cells #[.slice none 0 0, .int .i64 0, .int .i64 0, .int .i64 0] 46)).alloc (.cells #[.string s, .bool false] 83)) w.heap.size #[.slice none 0 0, .int .i64 0, .int .i64 0, .int .i64 0] 46 :=
    (BoxIs.new w _ _ rfl).below ((Below.refl _ _).alloc (Nat.le_refl _) _) (by simp)
  have hB0 : Below w.heap.size w ((w.alloc (.cells #[.slice none 0 0, .int .i64 0, .int .i64 0, .int .i64 0] 46)).alloc (.cells #[.string s, .bool false] 83)) := ((Below.refl _ _).alloc (Nat.le_refl _) _).alloc (by simp) _
  have HZ3 : Hid ((v3 s).size ≤ 1048576) := by show _ ≤ _; omega
  clear hx1 hx2 hx3 hnn hm zB z1 z2 z3 z4
  go_enter Try.func23, Try.ntmps23
  go_wp2_with fail
  generalize (w.alloc (.cells #[.slice none 0 0, .int .i64 0, .int .i64 0, .int .i64 0] 46)).alloc (.cells #[.string s, .bool false] 83) = W at hN hF hB0 ⊢
  refine (c0 _ _ _ hN).mono ?_
  rintro e w0 ⟨rfl, hN0, hM0⟩
  have hF0 := hF.mv hM0 (by omega)
  have hB00 := hB0.trans (hM0.below hB0.size (by omega))
  have hlt0 := hN0.lt
  clear c0 hN hF hB0 hM0 hN0
  have hb1 := below_one w0 (.cells #[.string (vB s), .bool false] 83)
  have hR1 := RdrAt.new w0 (vB s) false
  have hF1 := hF0.next hb1
  have hB1 := hB00.trans (hb1.mono hB00.size)
  clear hb1 hF0 hB00
  go_wp2_with fail
  generalize w0.alloc (.cells #[.string (vB s), .bool false] 83) = W1 at hR1 hF1 hB1 ⊢
  obtain ⟨gr, hgr⟩ : ∃ g, w0.heap.size = g := ⟨_, rfl⟩
  rw [hgr] at hR1 hlt0 ⊢
  clear hgr
  refine (c1 _ _ _ hR1).mono ?_
  rintro e w1 ⟨rfl, hR2, hM2⟩
  have hF2 := hF1.mv hM2 (by omega)
  have hB2 := hB1.trans (hM2.below hB1.size (by omega))
  clear c1 hR1 hF1 hB1 hM2
  go_wp2_with fail
  refine (c2 _ _ _ hR2).mono ?_
  rintro e w2 ⟨rfl, hR3, hM3⟩
  have hF3 := hF2.mv hM3 (by omega)
  have hB3 := hB2.trans (hM3.below hB2.size (by omega))
  clear c2 hR2 hF2 hB2 hM3
  go_wp2_with fail
  refine (c3 _ _ _ hR3).mono ?_
  rintro e w3 ⟨rfl, hR4, hM4⟩
  have hF4 := hF3.mv hM4 (by omega)
  have hB4 := hB3.trans (hM4.below hB3.size (by omega))
  have hlt4 := hR4.lt
  clear c3 hR3 hF3 hB3 hM4
  have hb5 := below_one w3 (.cells #[.slice none 0 0, .int .i64 x1, .int .i64 x2, .int .i64 x3] 46)
  have HS5 : Hid (RvS w gr w3.heap.size x1 x2 x3 (.slice none 0 0) (.slice none 0 0) (rdv (v4 s) 0).1 (v3 s) (w3.alloc (.cells #[.slice none 0 0, .int .i64 x1, .int .i64 x2, .int .i64 x3] 46))) :=
    ⟨⟨_, hR4.below hb5 hlt4⟩, BoxIs.new w3 _ _ rfl, hF4.next hb5, OwnMeta.nil _ _, hB4.trans (hb5.mono hB4.size), HZ3.out, by simp, by omega, hlt4⟩
  clear hb5 hR4 hF4 hB4
  go_wp2_with fail
  generalize w3.alloc (.cells #[.slice none 0 0, .int .i64 x1, .int .i64 x2, .int .i64 x3] 46) = W5 at HS5 ⊢
  obtain ⟨F, hFe⟩ : ∃ F, w3.heap.size = F := ⟨_, rfl⟩
  rw [hFe] at HS5 hlt4 ⊢
  clear hFe
  obtain ⟨l5, hl5⟩ := HS5.out.rd
  refine (c4 _ _ _ hl5).mono ?_
  rintro e w6 ⟨rfl, hR6, hM6⟩
  have HS6 : Hid (RvS w gr F x1 x2 x3 (.slice none 0 0) (.slice none 0 0) (rdv (v4 s) 0).1 (rdv (v4 s) 0).2 w6) := by
    rw [rdv_z]
    exact HS5.out.call ⟨_, hR6⟩ hM6 (v4_le s)
  clear c4 hl5 hR6 hM6 HS5
  go_wp2
  clear hmin
  go_loopw [17] (fun i wr => ∃ (k : Nat) (vo : Value), i = .int .i64 k ∧ k ≤ m ∧ Hid (RvS w gr F x1 x2 x3 vo vo (rdv (v4 s) k).1 (rdv (v4 s) k).2 wr)) (fun i _ => m - (intOf i).toNat)
  case atStart => exact ⟨0, _, rfl, by omega, HS6⟩
  case round =>
    obtain ⟨k, vo, rfl, hk, HR0⟩ := hrel
    clear HS6
    by_cases hlt : k < m
    · have hki : (k : Int) < (m : Int) := by omega
      have HSTEP : ∀ {v' : Value} {y : World}, Hid (RvS w gr F x1 x2 x3 v' v' ((rdv (v4 s) k).1 ++ [mtAt (rdv (v4 s) k).2]) (mtR (rdv (v4 s) k).2) y) → Hid (RvS w gr F x1 x2 x3 v' v' (rdv (v4 s) (k + 1)).1 (rdv (v4 s) (k + 1)).2 y) := fun h => by
        rw [rdv_s1, rdv_s2]
        exact h
      have hrd := rdv_len (v4 s) k
      have HR := hide HR0.out.drew
      clear HR0
      generalize hRe : (rdv (v4 s) k).2 = R at HR HSTEP
      clear hRe HC HVO
      have hRz := HR.out.rz
      obtain ⟨y1, y2, y3, y4, y5⟩ := mt_size R
      have D0 := fun w g m h => rdr_number w g R m hRz h
      have D1 := fun w g m h => rdr_number w g (mt1 R) m (by omega) h
      have D2 := fun w g m h => rdr_text w g (mt2 R) m (by omega) h
      have D3 := fun w g m h => rdr_text w g (mt3 R) m (by omega) h
      have D4 := fun w g m h => rdr_number w g (mt4 R) m (by omega) h
      have s0 : (mt1 R).size ≤ R.size := by rw [mt1_def]; exact (rnum_bd _).1
      have s1 : (mt2 R).size ≤ (mt1 R).size := by rw [mt2_def]; exact (rnum_bd _).1
      have s2 : (mt3 R).size ≤ (mt2 R).size := by rw [mt3_def]; exact (rtext_bd _).1
      have s3 : (mt4 R).size ≤ (mt3 R).size := by rw [mt4_def]; exact (rtext_bd _).1
      have s4 : (mtR R).size ≤ (mt4 R).size := by rw [mtR_def]; exact (rnum_bd _).1
      simp only [← mt1_def] at D0
      simp only [← mt2_def] at D1
      simp only [← mt3_def] at D2
      simp only [← mt4_def] at D3
      simp only [← mtR_def] at D4
      have HAT : Hid (mtAt R = ⟨(rnum R).1, (rnum (mt1 R)).1, (rtext (mt2 R)).1, (rtext (mt3 R)).1, (rnum (mt4 R)).1⟩) := by show _ = _; rw [mtAt]
      generalize mtAt R = M at HSTEP HAT
      generalize (rnum R).1 = m0 at D0 HAT
      generalize (rnum (mt1 R)).1 = m1 at D1 HAT
      generalize (rtext (mt2 R)).1 = m2 at D2 HAT
      generalize (rtext (mt3 R)).1 = m3 at D3 HAT
      generalize (rnum (mt4 R)).1 = m4 at D4 HAT
      rw [HAT.out] at HSTEP
      generalize mt1 R = R1 at *
      generalize mt2 R = R2 at *
      generalize mt3 R = R3 at *
      generalize mt4 R = R4 at *
      generalize mtR R = R5 at *
      have S0 := hide s0; have S1 := hide s1; have S2 := hide s2; have S3 := hide s3; have S4 := hide s4
      clear HAT y1 y2 y3 y4 y5 s0 s1 s2 s3 s4 hRz
      go_wp2_with fail
      refine wp_region_noPanic ?_
      refine wp_region_held_drew (S := fun _ => True) (by kernel_rfl) trivial (fun _ => ?_)
      refine wpAnyH_take (i := 0) (v := .pointer (some ⟨F, 0, none⟩)) nat0 (by kernel_rfl) (by kernel_rfl) (by kernel_rfl) (fun _ _ _ h => False.elim h) (Or.inl ⟨by rfl, ?_⟩) trivial ?_
      · intro wx hSw
        go_simp
      simp only [Act.put, List.setIfInBounds_toArray, List.set_cons_zero, List.set_cons_succ]
      refine wpAnyH_ready (rs := [1, 2]) (by kernel_rfl) (by simp) ?_
      refine AllReadyH.cons nat1 (fun K hK => ?_) (AllReadyH.cons nat2 (fun K hK => ?_) AllReadyH.nil)
      · have yl := HR.out.bx.cell 0
        simp only [List.getElem?_toArray, List.getElem?_cons_succ, List.getElem?_cons_zero] at yl
        go_simp
        refine hK.out _ _ trivial (fun _ => ?_)
        clear hK K yl
        refine wpAnyH_ready (rs := [2]) (by kernel_rfl) (by simp) ?_
        refine AllReadyH.cons nat2 (fun K hK => ?_) AllReadyH.nil
        go_simp
        go_at_call 54
        obtain ⟨l1, hl1⟩ := HR.out.rd
        refine (D0 _ _ _ hl1).mono ?_
        rintro e wq1 ⟨rfl, hr1, hm1⟩
        refine hK.out _ _ trivial (fun _ => ?_)
        clear hK K
        have H1 := hide (HR.out.call ⟨_, hr1⟩ hm1 S0.out)
        clear hr1 hm1 hl1 HR
        refine wpAnyH_ready (rs := [3]) (by kernel_rfl) (by simp) ?_
        refine AllReadyH.cons nat3 (fun K hK => ?_) AllReadyH.nil
        go_simp
        go_at_call 54
        obtain ⟨l2, hl2⟩ := H1.out.rd
        refine (D1 _ _ _ hl2).mono ?_
        rintro e wq2 ⟨rfl, hr2, hm2⟩
        refine hK.out _ _ trivial (fun _ => ?_)
        clear hK K
        have H2 := hide (H1.out.call ⟨_, hr2⟩ hm2 S1.out)
        clear hr2 hm2 hl2 H1
        refine wpAnyH_ready (rs := [4]) (by kernel_rfl) (by simp) ?_
        refine AllReadyH.cons nat4 (fun K hK => ?_) AllReadyH.nil
        go_simp
        go_at_call 53
        obtain ⟨l3, hl3⟩ := H2.out.rd
        refine (D2 _ _ _ hl3).mono ?_
        rintro e wq3 ⟨rfl, hr3, hm3⟩
        refine hK.out _ _ trivial (fun _ => ?_)
        clear hK K
        have H3 := hide (H2.out.call ⟨_, hr3⟩ hm3 S2.out)
        clear hr3 hm3 hl3 H2
        refine wpAnyH_ready (rs := [5]) (by kernel_rfl) (by simp) ?_
        refine AllReadyH.cons nat5 (fun K hK => ?_) AllReadyH.nil
        go_simp
        go_at_call 53
        obtain ⟨l4, hl4⟩ := H3.out.rd
        refine (D3 _ _ _ hl4).mono ?_
        rintro e wq4 ⟨rfl, hr4, hm4⟩
        refine hK.out _ _ trivial (fun _ => ?_)
        clear hK K
        have H4 := hide (H3.out.call ⟨_, hr4⟩ hm4 S3.out)
        clear hr4 hm4 hl4 H3
        refine wpAnyH_ready (rs := [6]) (by kernel_rfl) (by simp) ?_
        refine AllReadyH.cons nat6 (fun K hK => ?_) AllReadyH.nil
        go_simp
        go_at_call 54
        obtain ⟨l5, hl5⟩ := H4.out.rd
        refine (D4 _ _ _ hl5).mono ?_
        rintro e wq5 ⟨rfl, hr5, hm5⟩
        refine hK.out _ _ trivial (fun _ => ?_)
        clear hK K
        have H5 := hide (H4.out.call ⟨_, hr5⟩ hm5 S4.out)
        clear hr5 hm5 hl5 H4
        refine wpAnyH_take (i := 7) (v := .agg #[.int .i64 m0, .int .i64 m1, .string m2, .string m3, .int .i64 m4]) nat7 (by kernel_rfl) (by kernel_rfl) (by kernel_rfl) (fun _ _ _ h => False.elim h) (Or.inl ⟨by rfl, ?_⟩) trivial ?_
        · intro wx hSw
          go_simp
        simp only [Act.put, List.setIfInBounds_toArray, List.set_cons_zero, List.set_cons_succ]
        refine wpAnyH_ready (rs := [8]) (by kernel_rfl) (by simp) ?_
        refine AllReadyH.cons nat8 (fun K hK => ?_) AllReadyH.nil
        go_simp
        refine hK.out _ _ trivial (fun _ => ?_)
        clear hK K
        have hsrc6 : BoxIs (wq5.alloc (.cells #[.int .i64 m0, .int .i64 m1, .string m2, .string m3, .int .i64 m4] 62)) wq5.heap.size #[.int .i64 m0, .int .i64 m1, .string m2, .string m3, .int .i64 m4] 62 := BoxIs.new _ _ _ rfl
        have H6 := hide (H5.out.laid (.cells #[.int .i64 m0, .int .i64 m1, .string m2, .string m3, .int .i64 m4] 62))
        generalize wq5.alloc (.cells #[.int .i64 m0, .int .i64 m1, .string m2, .string m3, .int .i64 m4] 62) = wq6 at H6 hsrc6 ⊢
        clear H5
        refine wpAnyH_ready (rs := [9]) (by kernel_rfl) (by simp) ?_
        refine AllReadyH.cons nat9 (fun K hK => ?_) AllReadyH.nil
        refine step_append_meta rfl (.tmp 20) (.tmp 27) 44 rfl Try.underlying44 (F + 1) vo _ [⟨m0, m1, m2, m3, m4⟩] (by rfl) H6.out.own ⟨wq5.heap.size, 0, none⟩ 1 1 (by rfl) rfl (meta_news (e := ⟨m0, m1, m2, m3, m4⟩) hsrc6) H6.out.hB (by rw [hrd]; omega) ?_
        intro v' wq7 how7 hgr7
        obtain ⟨ga7, ca7, hsv7⟩ := how7.some (by simp)
        rw [List.length_append, hrd] at hsv7
        obtain rfl : v' = .slice (some ⟨ga7, 0, none⟩) (k + 1) ca7 := hsv7
        have H7 := hide (H6.out.app how7 hgr7)
        refine hK.out _ _ trivial (fun _ => ?_)
        clear hK K how7 hgr7 H6 hsrc6
        simp only [Act.put, List.setIfInBounds_toArray, List.set_cons_zero, List.set_cons_succ]
        refine wpAnyH_take (i := 10) (v := .pointer (some ⟨F, 0, none⟩)) nat10 (by kernel_rfl) (by kernel_rfl) (by kernel_rfl) (fun _ _ _ h => False.elim h) (Or.inl ⟨by rfl, ?_⟩) trivial ?_
        · intro wx hSw
          go_simp
        simp only [Act.put, List.setIfInBounds_toArray, List.set_cons_zero, List.set_cons_succ]
        refine wpAnyH_ready (rs := [11]) (by kernel_rfl) (by simp) ?_
        refine AllReadyH.cons nat11 (fun K hK => ?_) AllReadyH.nil
        have yl := H7.out.bx.cell 0
        simp only [List.getElem?_toArray, List.getElem?_cons_succ, List.getElem?_cons_zero] at yl
        have yf := H7.out.bx.free
        go_simp
        refine hK.out _ _ trivial (fun _ => ?_)
        have H8 := hide H7.out.put
        clear hK K yl yf H7
        generalize wq7.setCell ⟨F, 0, none⟩ (.slice (some ⟨ga7, 0, none⟩) (k + 1) ca7) = wq8 at H8 ⊢
        refine wpAnyH_done (by kernel_rfl) ?_ _
        refine NoPanic.normal ?_
        go_wp2
        exact ⟨⟨k + 1, _, by go_num, by omega, HSTEP H8⟩, by simp [intOf]; omega⟩
      · go_simp
        go_at_call 54
        obtain ⟨l9, hl9⟩ := HR.out.rd
        refine (D0 _ _ _ hl9).mono ?_
        rintro e wq9 ⟨rfl, hr9, hm9⟩
        refine hK.out _ _ trivial (fun _ => ?_)
        clear hK K
        have H9 := hide (HR.out.call ⟨_, hr9⟩ hm9 S0.out)
        clear hr9 hm9 hl9 HR
        refine wpAnyH_ready (rs := [1, 3]) (by kernel_rfl) (by simp) ?_
        refine AllReadyH.cons nat1 (fun K hK => ?_) (AllReadyH.cons nat3 (fun K hK => ?_) AllReadyH.nil)
        · have yl := H9.out.bx.cell 0
          simp only [List.getElem?_toArray, List.getElem?_cons_succ, List.getElem?_cons_zero] at yl
          go_simp
          refine hK.out _ _ trivial (fun _ => ?_)
          clear hK K yl
          refine wpAnyH_ready (rs := [3]) (by kernel_rfl) (by simp) ?_
          refine AllReadyH.cons nat3 (fun K hK => ?_) AllReadyH.nil
          go_simp
          go_at_call 54
          obtain ⟨l11, hl11⟩ := H9.out.rd
          refine (D1 _ _ _ hl11).mono ?_
          rintro e wq11 ⟨rfl, hr11, hm11⟩
          refine hK.out _ _ trivial (fun _ => ?_)
          clear hK K
          have H11 := hide (H9.out.call ⟨_, hr11⟩ hm11 S1.out)
          clear hr11 hm11 hl11 H9
          refine wpAnyH_ready (rs := [4]) (by kernel_rfl) (by simp) ?_
          refine AllReadyH.cons nat4 (fun K hK => ?_) AllReadyH.nil
          go_simp
          go_at_call 53
          obtain ⟨l12, hl12⟩ := H11.out.rd
          refine (D2 _ _ _ hl12).mono ?_
          rintro e wq12 ⟨rfl, hr12, hm12⟩
          refine hK.out _ _ trivial (fun _ => ?_)
          clear hK K
          have H12 := hide (H11.out.call ⟨_, hr12⟩ hm12 S2.out)
          clear hr12 hm12 hl12 H11
          refine wpAnyH_ready (rs := [5]) (by kernel_rfl) (by simp) ?_
          refine AllReadyH.cons nat5 (fun K hK => ?_) AllReadyH.nil
          go_simp
          go_at_call 53
          obtain ⟨l13, hl13⟩ := H12.out.rd
          refine (D3 _ _ _ hl13).mono ?_
          rintro e wq13 ⟨rfl, hr13, hm13⟩
          refine hK.out _ _ trivial (fun _ => ?_)
          clear hK K
          have H13 := hide (H12.out.call ⟨_, hr13⟩ hm13 S3.out)
          clear hr13 hm13 hl13 H12
          refine wpAnyH_ready (rs := [6]) (by kernel_rfl) (by simp) ?_
          refine AllReadyH.cons nat6 (fun K hK => ?_) AllReadyH.nil
          go_simp
          go_at_call 54
          obtain ⟨l14, hl14⟩ := H13.out.rd
          refine (D4 _ _ _ hl14).mono ?_
          rintro e wq14 ⟨rfl, hr14, hm14⟩
          refine hK.out _ _ trivial (fun _ => ?_)
          clear hK K
          have H14 := hide (H13.out.call ⟨_, hr14⟩ hm14 S4.out)
          clear hr14 hm14 hl14 H13
          refine wpAnyH_take (i := 7) (v := .agg #[.int .i64 m0, .int .i64 m1, .string m2, .string m3, .int .i64 m4]) nat7 (by kernel_rfl) (by kernel_rfl) (by kernel_rfl) (fun _ _ _ h => False.elim h) (Or.inl ⟨by rfl, ?_⟩) trivial ?_
          · intro wx hSw
            go_simp
          simp only [Act.put, List.setIfInBounds_toArray, List.set_cons_zero, List.set_cons_succ]
          refine wpAnyH_ready (rs := [8]) (by kernel_rfl) (by simp) ?_
          refine AllReadyH.cons nat8 (fun K hK => ?_) AllReadyH.nil
          go_simp
          refine hK.out _ _ trivial (fun _ => ?_)
          clear hK K
          have hsrc15 : BoxIs (wq14.alloc (.cells #[.int .i64 m0, .int .i64 m1, .string m2, .string m3, .int .i64 m4] 62)) wq14.heap.size #[.int .i64 m0, .int .i64 m1, .string m2, .string m3, .int .i64 m4] 62 := BoxIs.new _ _ _ rfl
          have H15 := hide (H14.out.laid (.cells #[.int .i64 m0, .int .i64 m1, .string m2, .string m3, .int .i64 m4] 62))
          generalize wq14.alloc (.cells #[.int .i64 m0, .int .i64 m1, .string m2, .string m3, .int .i64 m4] 62) = wq15 at H15 hsrc15 ⊢
          clear H14
          refine wpAnyH_ready (rs := [9]) (by kernel_rfl) (by simp) ?_
          refine AllReadyH.cons nat9 (fun K hK => ?_) AllReadyH.nil
          refine step_append_meta rfl (.tmp 20) (.tmp 27) 44 rfl Try.underlying44 (F + 1) vo _ [⟨m0, m1, m2, m3, m4⟩] (by rfl) H15.out.own ⟨wq14.heap.size, 0, none⟩ 1 1 (by rfl) rfl (meta_news (e := ⟨m0, m1, m2, m3, m4⟩) hsrc15) H15.out.hB (by rw [hrd]; omega) ?_
          intro v' wq16 how16 hgr16
          obtain ⟨ga16, ca16, hsv16⟩ := how16.some (by simp)
          rw [List.length_append, hrd] at hsv16
          obtain rfl : v' = .slice (some ⟨ga16, 0, none⟩) (k + 1) ca16 := hsv16
          have H16 := hide (H15.out.app how16 hgr16)
          refine hK.out _ _ trivial (fun _ => ?_)
          clear hK K how16 hgr16 H15 hsrc15
          simp only [Act.put, List.setIfInBounds_toArray, List.set_cons_zero, List.set_cons_succ]
          refine wpAnyH_take (i := 10) (v := .pointer (some ⟨F, 0, none⟩)) nat10 (by kernel_rfl) (by kernel_rfl) (by kernel_rfl) (fun _ _ _ h => False.elim h) (Or.inl ⟨by rfl, ?_⟩) trivial ?_
          · intro wx hSw
            go_simp
          simp only [Act.put, List.setIfInBounds_toArray, List.set_cons_zero, List.set_cons_succ]
          refine wpAnyH_ready (rs := [11]) (by kernel_rfl) (by simp) ?_
          refine AllReadyH.cons nat11 (fun K hK => ?_) AllReadyH.nil
          have yl := H16.out.bx.cell 0
          simp only [List.getElem?_toArray, List.getElem?_cons_succ, List.getElem?_cons_zero] at yl
          have yf := H16.out.bx.free
          go_simp
          refine hK.out _ _ trivial (fun _ => ?_)
          have H17 := hide H16.out.put
          clear hK K yl yf H16
          generalize wq16.setCell ⟨F, 0, none⟩ (.slice (some ⟨ga16, 0, none⟩) (k + 1) ca16) = wq17 at H17 ⊢
          refine wpAnyH_done (by kernel_rfl) ?_ _
          refine NoPanic.normal ?_
          go_wp2
          exact ⟨⟨k + 1, _, by go_num, by omega, HSTEP H17⟩, by simp [intOf]; omega⟩
        · go_simp
          go_at_call 54
          obtain ⟨l18, hl18⟩ := H9.out.rd
          refine (D1 _ _ _ hl18).mono ?_
          rintro e wq18 ⟨rfl, hr18, hm18⟩
          refine hK.out _ _ trivial (fun _ => ?_)
          clear hK K
          have H18 := hide (H9.out.call ⟨_, hr18⟩ hm18 S1.out)
          clear hr18 hm18 hl18 H9
          refine wpAnyH_ready (rs := [1, 4]) (by kernel_rfl) (by simp) ?_
          refine AllReadyH.cons nat1 (fun K hK => ?_) (AllReadyH.cons nat4 (fun K hK => ?_) AllReadyH.nil)
          · have yl := H18.out.bx.cell 0
            simp only [List.getElem?_toArray, List.getElem?_cons_succ, List.getElem?_cons_zero] at yl
            go_simp
            refine hK.out _ _ trivial (fun _ => ?_)
            clear hK K yl
            refine wpAnyH_ready (rs := [4]) (by kernel_rfl) (by simp) ?_
            refine AllReadyH.cons nat4 (fun K hK => ?_) AllReadyH.nil
            go_simp
            go_at_call 53
            obtain ⟨l20, hl20⟩ := H18.out.rd
            refine (D2 _ _ _ hl20).mono ?_
            rintro e wq20 ⟨rfl, hr20, hm20⟩
            refine hK.out _ _ trivial (fun _ => ?_)
            clear hK K
            have H20 := hide (H18.out.call ⟨_, hr20⟩ hm20 S2.out)
            clear hr20 hm20 hl20 H18
            refine wpAnyH_ready (rs := [5]) (by kernel_rfl) (by simp) ?_
            refine AllReadyH.cons nat5 (fun K hK => ?_) AllReadyH.nil
            go_simp
            go_at_call 53
            obtain ⟨l21, hl21⟩ := H20.out.rd
            refine (D3 _ _ _ hl21).mono ?_
            rintro e wq21 ⟨rfl, hr21, hm21⟩
            refine hK.out _ _ trivial (fun _ => ?_)
            clear hK K
            have H21 := hide (H20.out.call ⟨_, hr21⟩ hm21 S3.out)
            clear hr21 hm21 hl21 H20
            refine wpAnyH_ready (rs := [6]) (by kernel_rfl) (by simp) ?_
            refine AllReadyH.cons nat6 (fun K hK => ?_) AllReadyH.nil
            go_simp
            go_at_call 54
            obtain ⟨l22, hl22⟩ := H21.out.rd
            refine (D4 _ _ _ hl22).mono ?_
            rintro e wq22 ⟨rfl, hr22, hm22⟩
            refine hK.out _ _ trivial (fun _ => ?_)
            clear hK K
            have H22 := hide (H21.out.call ⟨_, hr22⟩ hm22 S4.out)
            clear hr22 hm22 hl22 H21
            refine wpAnyH_take (i := 7) (v := .agg #[.int .i64 m0, .int .i64 m1, .string m2, .string m3, .int .i64 m4]) nat7 (by kernel_rfl) (by kernel_rfl) (by kernel_rfl) (fun _ _ _ h => False.elim h) (Or.inl ⟨by rfl, ?_⟩) trivial ?_
            · intro wx hSw
              go_simp
            simp only [Act.put, List.setIfInBounds_toArray, List.set_cons_zero, List.set_cons_succ]
            refine wpAnyH_ready (rs := [8]) (by kernel_rfl) (by simp) ?_
            refine AllReadyH.cons nat8 (fun K hK => ?_) AllReadyH.nil
            go_simp
            refine hK.out _ _ trivial (fun _ => ?_)
            clear hK K
            have hsrc23 : BoxIs (wq22.alloc (.cells #[.int .i64 m0, .int .i64 m1, .string m2, .string m3, .int .i64 m4] 62)) wq22.heap.size #[.int .i64 m0, .int .i64 m1, .string m2, .string m3, .int .i64 m4] 62 := BoxIs.new _ _ _ rfl
            have H23 := hide (H22.out.laid (.cells #[.int .i64 m0, .int .i64 m1, .string m2, .string m3, .int .i64 m4] 62))
            generalize wq22.alloc (.cells #[.int .i64 m0, .int .i64 m1, .string m2, .string m3, .int .i64 m4] 62) = wq23 at H23 hsrc23 ⊢
            clear H22
            refine wpAnyH_ready (rs := [9]) (by kernel_rfl) (by simp) ?_
            refine AllReadyH.cons nat9 (fun K hK => ?_) AllReadyH.nil
            refine step_append_meta rfl (.tmp 20) (.tmp 27) 44 rfl Try.underlying44 (F + 1) vo _ [⟨m0, m1, m2, m3, m4⟩] (by rfl) H23.out.own ⟨wq22.heap.size, 0, none⟩ 1 1 (by rfl) rfl (meta_news (e := ⟨m0, m1, m2, m3, m4⟩) hsrc23) H23.out.hB (by rw [hrd]; omega) ?_
            intro v' wq24 how24 hgr24
            obtain ⟨ga24, ca24, hsv24⟩ := how24.some (by simp)
            rw [List.length_append, hrd] at hsv24
            obtain rfl : v' = .slice (some ⟨ga24, 0, none⟩) (k + 1) ca24 := hsv24
            have H24 := hide (H23.out.app how24 hgr24)
            refine hK.out _ _ trivial (fun _ => ?_)
            clear hK K how24 hgr24 H23 hsrc23
            simp only [Act.put, List.setIfInBounds_toArray, List.set_cons_zero, List.set_cons_succ]
            refine wpAnyH_take (i := 10) (v := .pointer (some ⟨F, 0, none⟩)) nat10 (by kernel_rfl) (by kernel_rfl) (by kernel_rfl) (fun _ _ _ h => False.elim h) (Or.inl ⟨by rfl, ?_⟩) trivial ?_
            · intro wx hSw
              go_simp
            simp only [Act.put, List.setIfInBounds_toArray, List.set_cons_zero, List.set_cons_succ]
            refine wpAnyH_ready (rs := [11]) (by kernel_rfl) (by simp) ?_
            refine AllReadyH.cons nat11 (fun K hK => ?_) AllReadyH.nil
            have yl := H24.out.bx.cell 0
            simp only [List.getElem?_toArray, List.getElem?_cons_succ, List.getElem?_cons_zero] at yl
            have yf := H24.out.bx.free
            go_simp
            refine hK.out _ _ trivial (fun _ => ?_)
            have H25 := hide H24.out.put
            clear hK K yl yf H24
            generalize wq24.setCell ⟨F, 0, none⟩ (.slice (some ⟨ga24, 0, none⟩) (k + 1) ca24) = wq25 at H25 ⊢
            refine wpAnyH_done (by kernel_rfl) ?_ _
            refine NoPanic.normal ?_
            go_wp2
            exact ⟨⟨k + 1, _, by go_num, by omega, HSTEP H25⟩, by simp [intOf]; omega⟩
          · go_simp
            go_at_call 53
            obtain ⟨l26, hl26⟩ := H18.out.rd
            refine (D2 _ _ _ hl26).mono ?_
            rintro e wq26 ⟨rfl, hr26, hm26⟩
            refine hK.out _ _ trivial (fun _ => ?_)
            clear hK K
            have H26 := hide (H18.out.call ⟨_, hr26⟩ hm26 S2.out)
            clear hr26 hm26 hl26 H18
            refine wpAnyH_ready (rs := [1, 5]) (by kernel_rfl) (by simp) ?_
            refine AllReadyH.cons nat1 (fun K hK => ?_) (AllReadyH.cons nat5 (fun K hK => ?_) AllReadyH.nil)
            · have yl := H26.out.bx.cell 0
              simp only [List.getElem?_toArray, List.getElem?_cons_succ, List.getElem?_cons_zero] at yl
              go_simp
              refine hK.out _ _ trivial (fun _ => ?_)
              clear hK K yl
              refine wpAnyH_ready (rs := [5]) (by kernel_rfl) (by simp) ?_
              refine AllReadyH.cons nat5 (fun K hK => ?_) AllReadyH.nil
              go_simp
              go_at_call 53
              obtain ⟨l28, hl28⟩ := H26.out.rd
              refine (D3 _ _ _ hl28).mono ?_
              rintro e wq28 ⟨rfl, hr28, hm28⟩
              refine hK.out _ _ trivial (fun _ => ?_)
              clear hK K
              have H28 := hide (H26.out.call ⟨_, hr28⟩ hm28 S3.out)
              clear hr28 hm28 hl28 H26
              refine wpAnyH_ready (rs := [6]) (by kernel_rfl) (by simp) ?_
              refine AllReadyH.cons nat6 (fun K hK => ?_) AllReadyH.nil
              go_simp
              go_at_call 54
              obtain ⟨l29, hl29⟩ := H28.out.rd
              refine (D4 _ _ _ hl29).mono ?_
              rintro e wq29 ⟨rfl, hr29, hm29⟩
              refine hK.out _ _ trivial (fun _ => ?_)
              clear hK K
              have H29 := hide (H28.out.call ⟨_, hr29⟩ hm29 S4.out)
              clear hr29 hm29 hl29 H28
              refine wpAnyH_take (i := 7) (v := .agg #[.int .i64 m0, .int .i64 m1, .string m2, .string m3, .int .i64 m4]) nat7 (by kernel_rfl) (by kernel_rfl) (by kernel_rfl) (fun _ _ _ h => False.elim h) (Or.inl ⟨by rfl, ?_⟩) trivial ?_
              · intro wx hSw
                go_simp
              simp only [Act.put, List.setIfInBounds_toArray, List.set_cons_zero, List.set_cons_succ]
              refine wpAnyH_ready (rs := [8]) (by kernel_rfl) (by simp) ?_
              refine AllReadyH.cons nat8 (fun K hK => ?_) AllReadyH.nil
              go_simp
              refine hK.out _ _ trivial (fun _ => ?_)
              clear hK K
              have hsrc30 : BoxIs (wq29.alloc (.cells #[.int .i64 m0, .int .i64 m1, .string m2, .string m3, .int .i64 m4] 62)) wq29.heap.size #[.int .i64 m0, .int .i64 m1, .string m2, .string m3, .int .i64 m4] 62 := BoxIs.new _ _ _ rfl
              have H30 := hide (H29.out.laid (.cells #[.int .i64 m0, .int .i64 m1, .string m2, .string m3, .int .i64 m4] 62))
              generalize wq29.alloc (.cells #[.int .i64 m0, .int .i64 m1, .string m2, .string m3, .int .i64 m4] 62) = wq30 at H30 hsrc30 ⊢
              clear H29
              refine wpAnyH_ready (rs := [9]) (by kernel_rfl) (by simp) ?_
              refine AllReadyH.cons nat9 (fun K hK => ?_) AllReadyH.nil
              refine step_append_meta rfl (.tmp 20) (.tmp 27) 44 rfl Try.underlying44 (F + 1) vo _ [⟨m0, m1, m2, m3, m4⟩] (by rfl) H30.out.own ⟨wq29.heap.size, 0, none⟩ 1 1 (by rfl) rfl (meta_news (e := ⟨m0, m1, m2, m3, m4⟩) hsrc30) H30.out.hB (by rw [hrd]; omega) ?_
              intro v' wq31 how31 hgr31
              obtain ⟨ga31, ca31, hsv31⟩ := how31.some (by simp)
              rw [List.length_append, hrd] at hsv31
              obtain rfl : v' = .slice (some ⟨ga31, 0, none⟩) (k + 1) ca31 := hsv31
              have H31 := hide (H30.out.app how31 hgr31)
              refine hK.out _ _ trivial (fun _ => ?_)
              clear hK K how31 hgr31 H30 hsrc30
              simp only [Act.put, List.setIfInBounds_toArray, List.set_cons_zero, List.set_cons_succ]
              refine wpAnyH_take (i := 10) (v := .pointer (some ⟨F, 0, none⟩)) nat10 (by kernel_rfl) (by kernel_rfl) (by kernel_rfl) (fun _ _ _ h => False.elim h) (Or.inl ⟨by rfl, ?_⟩) trivial ?_
              · intro wx hSw
                go_simp
              simp only [Act.put, List.setIfInBounds_toArray, List.set_cons_zero, List.set_cons_succ]
              refine wpAnyH_ready (rs := [11]) (by kernel_rfl) (by simp) ?_
              refine AllReadyH.cons nat11 (fun K hK => ?_) AllReadyH.nil
              have yl := H31.out.bx.cell 0
              simp only [List.getElem?_toArray, List.getElem?_cons_succ, List.getElem?_cons_zero] at yl
              have yf := H31.out.bx.free
              go_simp
              refine hK.out _ _ trivial (fun _ => ?_)
              have H32 := hide H31.out.put
              clear hK K yl yf H31
              generalize wq31.setCell ⟨F, 0, none⟩ (.slice (some ⟨ga31, 0, none⟩) (k + 1) ca31) = wq32 at H32 ⊢
              refine wpAnyH_done (by kernel_rfl) ?_ _
              refine NoPanic.normal ?_
              go_wp2
              exact ⟨⟨k + 1, _, by go_num, by omega, HSTEP H32⟩, by simp [intOf]; omega⟩
            · go_simp
              go_at_call 53
              obtain ⟨l33, hl33⟩ := H26.out.rd
              refine (D3 _ _ _ hl33).mono ?_
              rintro e wq33 ⟨rfl, hr33, hm33⟩
              refine hK.out _ _ trivial (fun _ => ?_)
              clear hK K
              have H33 := hide (H26.out.call ⟨_, hr33⟩ hm33 S3.out)
              clear hr33 hm33 hl33 H26
              refine wpAnyH_ready (rs := [1, 6]) (by kernel_rfl) (by simp) ?_
              refine AllReadyH.cons nat1 (fun K hK => ?_) (AllReadyH.cons nat6 (fun K hK => ?_) AllReadyH.nil)
              · have yl := H33.out.bx.cell 0
                simp only [List.getElem?_toArray, List.getElem?_cons_succ, List.getElem?_cons_zero] at yl
                go_simp
                refine hK.out _ _ trivial (fun _ => ?_)
                clear hK K yl
                refine wpAnyH_ready (rs := [6]) (by kernel_rfl) (by simp) ?_
                refine AllReadyH.cons nat6 (fun K hK => ?_) AllReadyH.nil
                go_simp
                go_at_call 54
                obtain ⟨l35, hl35⟩ := H33.out.rd
                refine (D4 _ _ _ hl35).mono ?_
                rintro e wq35 ⟨rfl, hr35, hm35⟩
                refine hK.out _ _ trivial (fun _ => ?_)
                clear hK K
                have H35 := hide (H33.out.call ⟨_, hr35⟩ hm35 S4.out)
                clear hr35 hm35 hl35 H33
                refine wpAnyH_take (i := 7) (v := .agg #[.int .i64 m0, .int .i64 m1, .string m2, .string m3, .int .i64 m4]) nat7 (by kernel_rfl) (by kernel_rfl) (by kernel_rfl) (fun _ _ _ h => False.elim h) (Or.inl ⟨by rfl, ?_⟩) trivial ?_
                · intro wx hSw
                  go_simp
                simp only [Act.put, List.setIfInBounds_toArray, List.set_cons_zero, List.set_cons_succ]
                refine wpAnyH_ready (rs := [8]) (by kernel_rfl) (by simp) ?_
                refine AllReadyH.cons nat8 (fun K hK => ?_) AllReadyH.nil
                go_simp
                refine hK.out _ _ trivial (fun _ => ?_)
                clear hK K
                have hsrc36 : BoxIs (wq35.alloc (.cells #[.int .i64 m0, .int .i64 m1, .string m2, .string m3, .int .i64 m4] 62)) wq35.heap.size #[.int .i64 m0, .int .i64 m1, .string m2, .string m3, .int .i64 m4] 62 := BoxIs.new _ _ _ rfl
                have H36 := hide (H35.out.laid (.cells #[.int .i64 m0, .int .i64 m1, .string m2, .string m3, .int .i64 m4] 62))
                generalize wq35.alloc (.cells #[.int .i64 m0, .int .i64 m1, .string m2, .string m3, .int .i64 m4] 62) = wq36 at H36 hsrc36 ⊢
                clear H35
                refine wpAnyH_ready (rs := [9]) (by kernel_rfl) (by simp) ?_
                refine AllReadyH.cons nat9 (fun K hK => ?_) AllReadyH.nil
                refine step_append_meta rfl (.tmp 20) (.tmp 27) 44 rfl Try.underlying44 (F + 1) vo _ [⟨m0, m1, m2, m3, m4⟩] (by rfl) H36.out.own ⟨wq35.heap.size, 0, none⟩ 1 1 (by rfl) rfl (meta_news (e := ⟨m0, m1, m2, m3, m4⟩) hsrc36) H36.out.hB (by rw [hrd]; omega) ?_
                intro v' wq37 how37 hgr37
                obtain ⟨ga37, ca37, hsv37⟩ := how37.some (by simp)
                rw [List.length_append, hrd] at hsv37
                obtain rfl : v' = .slice (some ⟨ga37, 0, none⟩) (k + 1) ca37 := hsv37
                have H37 := hide (H36.out.app how37 hgr37)
                refine hK.out _ _ trivial (fun _ => ?_)
                clear hK K how37 hgr37 H36 hsrc36
                simp only [Act.put, List.setIfInBounds_toArray, List.set_cons_zero, List.set_cons_succ]
                refine wpAnyH_take (i := 10) (v := .pointer (some ⟨F, 0, none⟩)) nat10 (by kernel_rfl) (by kernel_rfl) (by kernel_rfl) (fun _ _ _ h => False.elim h) (Or.inl ⟨by rfl, ?_⟩) trivial ?_
                · intro wx hSw
                  go_simp
                simp only [Act.put, List.setIfInBounds_toArray, List.set_cons_zero, List.set_cons_succ]
                refine wpAnyH_ready (rs := [11]) (by kernel_rfl) (by simp) ?_
                refine AllReadyH.cons nat11 (fun K hK => ?_) AllReadyH.nil
                have yl := H37.out.bx.cell 0
                simp only [List.getElem?_toArray, List.getElem?_cons_succ, List.getElem?_cons_zero] at yl
                have yf := H37.out.bx.free
                go_simp
                refine hK.out _ _ trivial (fun _ => ?_)
                have H38 := hide H37.out.put
                clear hK K yl yf H37
                generalize wq37.setCell ⟨F, 0, none⟩ (.slice (some ⟨ga37, 0, none⟩) (k + 1) ca37) = wq38 at H38 ⊢
                refine wpAnyH_done (by kernel_rfl) ?_ _
                refine NoPanic.normal ?_
                go_wp2
                exact ⟨⟨k + 1, _, by go_num, by omega, HSTEP H38⟩, by simp [intOf]; omega⟩
              · go_simp
                go_at_call 54
                obtain ⟨l39, hl39⟩ := H33.out.rd
                refine (D4 _ _ _ hl39).mono ?_
                rintro e wq39 ⟨rfl, hr39, hm39⟩
                refine hK.out _ _ trivial (fun _ => ?_)
                clear hK K
                have H39 := hide (H33.out.call ⟨_, hr39⟩ hm39 S4.out)
                clear hr39 hm39 hl39 H33
                refine wpAnyH_take (i := 7) (v := .agg #[.int .i64 m0, .int .i64 m1, .string m2, .string m3, .int .i64 m4]) nat7 (by kernel_rfl) (by kernel_rfl) (by kernel_rfl) (fun _ _ _ h => False.elim h) (Or.inl ⟨by rfl, ?_⟩) trivial ?_
                · intro wx hSw
                  go_simp
                simp only [Act.put, List.setIfInBounds_toArray, List.set_cons_zero, List.set_cons_succ]
                refine wpAnyH_ready (rs := [1, 8]) (by kernel_rfl) (by simp) ?_
                refine AllReadyH.cons nat1 (fun K hK => ?_) (AllReadyH.cons nat8 (fun K hK => ?_) AllReadyH.nil)
                · have yl := H39.out.bx.cell 0
                  simp only [List.getElem?_toArray, List.getElem?_cons_succ, List.getElem?_cons_zero] at yl
                  go_simp
                  refine hK.out _ _ trivial (fun _ => ?_)
                  clear hK K yl
                  refine wpAnyH_ready (rs := [8]) (by kernel_rfl) (by simp) ?_
                  refine AllReadyH.cons nat8 (fun K hK => ?_) AllReadyH.nil
                  go_simp
                  refine hK.out _ _ trivial (fun _ => ?_)
                  clear hK K
                  have hsrc41 : BoxIs (wq39.alloc (.cells #[.int .i64 m0, .int .i64 m1, .string m2, .string m3, .int .i64 m4] 62)) wq39.heap.size #[.int .i64 m0, .int .i64 m1, .string m2, .string m3, .int .i64 m4] 62 := BoxIs.new _ _ _ rfl
                  have H41 := hide (H39.out.laid (.cells #[.int .i64 m0, .int .i64 m1, .string m2, .string m3, .int .i64 m4] 62))
                  generalize wq39.alloc (.cells #[.int .i64 m0, .int .i64 m1, .string m2, .string m3, .int .i64 m4] 62) = wq41 at H41 hsrc41 ⊢
                  clear H39
                  refine wpAnyH_ready (rs := [9]) (by kernel_rfl) (by simp) ?_
                  refine AllReadyH.cons nat9 (fun K hK => ?_) AllReadyH.nil
                  refine step_append_meta rfl (.tmp 20) (.tmp 27) 44 rfl Try.underlying44 (F + 1) vo _ [⟨m0, m1, m2, m3, m4⟩] (by rfl) H41.out.own ⟨wq39.heap.size, 0, none⟩ 1 1 (by rfl) rfl (meta_news (e := ⟨m0, m1, m2, m3, m4⟩) hsrc41) H41.out.hB (by rw [hrd]; omega) ?_
                  intro v' wq42 how42 hgr42
                  obtain ⟨ga42, ca42, hsv42⟩ := how42.some (by simp)
                  rw [List.length_append, hrd] at hsv42
                  obtain rfl : v' = .slice (some ⟨ga42, 0, none⟩) (k + 1) ca42 := hsv42
                  have H42 := hide (H41.out.app how42 hgr42)
                  refine hK.out _ _ trivial (fun _ => ?_)
                  clear hK K how42 hgr42 H41 hsrc41
                  simp only [Act.put, List.setIfInBounds_toArray, List.set_cons_zero, List.set_cons_succ]
                  refine wpAnyH_take (i := 10) (v := .pointer (some ⟨F, 0, none⟩)) nat10 (by kernel_rfl) (by kernel_rfl) (by kernel_rfl) (fun _ _ _ h => False.elim h) (Or.inl ⟨by rfl, ?_⟩) trivial ?_
                  · intro wx hSw
                    go_simp
                  simp only [Act.put, List.setIfInBounds_toArray, List.set_cons_zero, List.set_cons_succ]
                  refine wpAnyH_ready (rs := [11]) (by kernel_rfl) (by simp) ?_
                  refine AllReadyH.cons nat11 (fun K hK => ?_) AllReadyH.nil
                  have yl := H42.out.bx.cell 0
                  simp only [List.getElem?_toArray, List.getElem?_cons_succ, List.getElem?_cons_zero] at yl
                  have yf := H42.out.bx.free
                  go_simp
                  refine hK.out _ _ trivial (fun _ => ?_)
                  have H43 := hide H42.out.put
                  clear hK K yl yf H42
                  generalize wq42.setCell ⟨F, 0, none⟩ (.slice (some ⟨ga42, 0, none⟩) (k + 1) ca42) = wq43 at H43 ⊢
                  refine wpAnyH_done (by kernel_rfl) ?_ _
                  refine NoPanic.normal ?_
                  go_wp2
                  exact ⟨⟨k + 1, _, by go_num, by omega, HSTEP H43⟩, by simp [intOf]; omega⟩
                · go_simp
                  refine hK.out _ _ trivial (fun _ => ?_)
                  clear hK K
                  have hsrc44 : BoxIs (wq39.alloc (.cells #[.int .i64 m0, .int .i64 m1, .string m2, .string m3, .int .i64 m4] 62)) wq39.heap.size #[.int .i64 m0, .int .i64 m1, .string m2, .string m3, .int .i64 m4] 62 := BoxIs.new _ _ _ rfl
                  have H44 := hide (H39.out.laid (.cells #[.int .i64 m0, .int .i64 m1, .string m2, .string m3, .int .i64 m4] 62))
                  generalize wq39.alloc (.cells #[.int .i64 m0, .int .i64 m1, .string m2, .string m3, .int .i64 m4] 62) = wq44 at H44 hsrc44 ⊢
                  clear H39
                  refine wpAnyH_ready (rs := [1]) (by kernel_rfl) (by simp) ?_
                  refine AllReadyH.cons nat1 (fun K hK => ?_) AllReadyH.nil
                  have yl := H44.out.bx.cell 0
                  simp only [List.getElem?_toArray, List.getElem?_cons_succ, List.getElem?_cons_zero] at yl
                  go_simp
                  refine hK.out _ _ trivial (fun _ => ?_)
                  clear hK K yl
                  refine wpAnyH_ready (rs := [9]) (by kernel_rfl) (by simp) ?_
                  refine AllReadyH.cons nat9 (fun K hK => ?_) AllReadyH.nil
                  refine step_append_meta rfl (.tmp 20) (.tmp 27) 44 rfl Try.underlying44 (F + 1) vo _ [⟨m0, m1, m2, m3, m4⟩] (by rfl) H44.out.own ⟨wq39.heap.size, 0, none⟩ 1 1 (by rfl) rfl (meta_news (e := ⟨m0, m1, m2, m3, m4⟩) hsrc44) H44.out.hB (by rw [hrd]; omega) ?_
                  intro v' wq46 how46 hgr46
                  obtain ⟨ga46, ca46, hsv46⟩ := how46.some (by simp)
                  rw [List.length_append, hrd] at hsv46
                  obtain rfl : v' = .slice (some ⟨ga46, 0, none⟩) (k + 1) ca46 := hsv46
                  have H46 := hide (H44.out.app how46 hgr46)
                  refine hK.out _ _ trivial (fun _ => ?_)
                  clear hK K how46 hgr46 H44 hsrc44
                  simp only [Act.put, List.setIfInBounds_toArray, List.set_cons_zero, List.set_cons_succ]
                  refine wpAnyH_take (i := 10) (v := .pointer (some ⟨F, 0, none⟩)) nat10 (by kernel_rfl) (by kernel_rfl) (by kernel_rfl) (fun _ _ _ h => False.elim h) (Or.inl ⟨by rfl, ?_⟩) trivial ?_
                  · intro wx hSw
                    go_simp
                  simp only [Act.put, List.setIfInBounds_toArray, List.set_cons_zero, List.set_cons_succ]
                  refine wpAnyH_ready (rs := [11]) (by kernel_rfl) (by simp) ?_
                  refine AllReadyH.cons nat11 (fun K hK => ?_) AllReadyH.nil
                  have yl := H46.out.bx.cell 0
                  simp only [List.getElem?_toArray, List.getElem?_cons_succ, List.getElem?_cons_zero] at yl
                  have yf := H46.out.bx.free
                  go_simp
                  refine hK.out _ _ trivial (fun _ => ?_)
                  have H47 := hide H46.out.put
                  clear hK K yl yf H46
                  generalize wq46.setCell ⟨F, 0, none⟩ (.slice (some ⟨ga46, 0, none⟩) (k + 1) ca46) = wq47 at H47 ⊢
                  refine wpAnyH_done (by kernel_rfl) ?_ _
                  refine NoPanic.normal ?_
                  go_wp2
                  exact ⟨⟨k + 1, _, by go_num, by omega, HSTEP H47⟩, by simp [intOf]; omega⟩
    · obtain rfl : k = m := by omega
      have HCk : Hid (vC s = vc (rdv (v4 s) k).1 x1 x2 x3) := HC.out
      have hrd := rdv_len (v4 s) k
      have HR := HR0
      clear HR0 HC
      generalize (rdv (v4 s) k).1 = ms at HR HCk hrd
      generalize (rdv (v4 s) k).2 = R at HR
      subst hrd
      obtain ⟨ar, cap, hvo, hO⟩ := HR.out.own.arg
      subst hvo
      have HI : Hid (VersionIs wr (.agg #[.slice ar ms.length cap, .int .i64 x1, .int .i64 x2, .int .i64 x3]) (vc ms x1 x2 x3)) := ⟨ar, cap, rfl, hO⟩
      have hfit : (vc ms x1 x2 x3).Fit := by show ms.length ≤ 1048576; omega
      have cb := impl_VersionOk _ _ wr hfit HI.out
      have ct := fun (wx : World) (hb : Below wr.heap.size wr wx) => impl_VersionText _ _ wx hfit (HI.out.next hb)
      have o0 := HR.out.res.cell 0
      have o1 := HR.out.res.cell 1
      have o2 := HR.out.res.cell 2
      have o3 := HR.out.res.cell 3
      have of := HR.out.res.free
      have y0 := HR.out.bx.cell 0
      have y1 := HR.out.bx.cell 1
      have y2 := HR.out.bx.cell 2
      have y3 := HR.out.bx.cell 3
      simp only [List.getElem?_toArray, List.getElem?_cons_succ, List.getElem?_cons_zero] at o0 o1 o2 o3 y0 y1 y2 y3
      have HVOk : Hid (vOk s = (versB (vc ms x1 x2 x3) && decide (versT (vc ms x1 x2 x3) = s))) := by show _ = _; rw [HVO.out, HCk.out]
      clear hO HVO
      cases hok : versB (vc ms x1 x2 x3) with
      | false =>
        have HV : Hid (vOk s = false) := by show _ = _; rw [HVOk.out, hok, Bool.false_and]
        rw [hok] at cb
        clear hok HVOk ct
        go_wp2_with fail
        refine cb.mono ?_
        rintro e w7 ⟨rfl, hb7⟩
        have p0 := HR.out.res.next hb7
        have q0 := p0.cell 0
        have q1 := p0.cell 1
        have q2 := p0.cell 2
        have q3 := p0.cell 3
        have qf := p0.free
        simp only [List.getElem?_toArray, List.getElem?_cons_succ, List.getElem?_cons_zero] at q0 q1 q2 q3
        have HB7 : Hid (Below w.heap.size w w7) := HR.out.low.trans (hb7.mono HR.out.low.size)
        clear p0 hb7 cb o0 o1 o2 o3 of y0 y1 y2 y3
        go_wp2
        refine bodyPost_ret (v := .tuple #[.agg #[.slice none 0 0, .int .i64 0, .int .i64 0, .int .i64 0], .bool false]) (by simp [results, Try.results23, go_sem, q0, q1, q2, q3]) rfl ⟨⟨_, by rw [HV.out], by rw [readV_no HV.out]; exact zeroV_own _ _⟩, ?_⟩
        exact (((HB7.out.setCell (Nat.le_refl _) _).setCell (Nat.le_refl _) _).setCell (Nat.le_refl _) _).setCell (Nat.le_refl _) _
      | true =>
        rw [hok] at cb
        by_cases ht : versT (vc ms x1 x2 x3) = s
        · have HV : Hid (vOk s = true) := by show _ = _; rw [HVOk.out, hok, ht]; simp
          rw [ht] at ct
          have HCk2 : Hid (readV s = vc ms x1 x2 x3) := by show _ = _; rw [readV_yes HV.out]; exact HCk.out
          clear hok HVOk ht HCk
          go_wp2_with fail
          refine cb.mono ?_
          rintro e w7 ⟨rfl, hb7⟩
          have y0 := (HR.out.bx.next hb7).cell 0
          have y1 := (HR.out.bx.next hb7).cell 1
          have y2 := (HR.out.bx.next hb7).cell 2
          have y3 := (HR.out.bx.next hb7).cell 3
          simp only [List.getElem?_toArray, List.getElem?_cons_succ, List.getElem?_cons_zero] at y0 y1 y2 y3
          clear cb o0 o1 o2 o3 of
          go_wp2_with fail
          refine (ct _ hb7).mono ?_
          rintro e w8 ⟨rfl, hb8⟩
          have hb8' := hb7.trans (hb8.mono hb7.size)
          have p0 := HR.out.res.next hb8'
          have p1 := HR.out.bx.next hb8'
          have q0 := p0.cell 0
          have q1 := p0.cell 1
          have q2 := p0.cell 2
          have q3 := p0.cell 3
          have qf := p0.free
          have r0 := p1.cell 0
          have r1 := p1.cell 1
          have r2 := p1.cell 2
          have r3 := p1.cell 3
          simp only [List.getElem?_toArray, List.getElem?_cons_succ, List.getElem?_cons_zero] at q0 q1 q2 q3 r0 r1 r2 r3
          have HB8 : Hid (Below w.heap.size w w8) := HR.out.low.trans (hb8'.mono HR.out.low.size)
          have HOW : Hid (OwnMeta w8 (F + 1) (.slice ar ms.length cap) ms) := HR.out.own.next hb8'
          have hn1 := HR.out.n1
          have hn2 := HR.out.n2
          clear p0 p1 hb7 hb8 hb8' ct y0 y1 y2 y3
          go_wp2
          refine bodyPost_ret (v := .tuple #[.agg #[.slice ar ms.length cap, .int .i64 x1, .int .i64 x2, .int .i64 x3], .bool true]) (by simp [results, Try.results23, go_sem, q0, q1, q2, q3]) rfl ⟨⟨_, by rw [HV.out], ?_⟩, ?_⟩
          · rw [HCk2.out]
            have how : OwnMeta ((((w8.setCell ⟨w.heap.size, 0, none⟩ (.slice ar ms.length cap)).setCell ⟨w.heap.size, 1, none⟩ (.int .i64 x1)).setCell ⟨w.heap.size, 2, none⟩ (.int .i64 x2)).setCell ⟨w.heap.size, 3, none⟩ (.int .i64 x3)) (F + 1) (.slice ar ms.length cap) ms :=
              ((((HOW.out.setOther (p := ⟨w.heap.size, 0, none⟩) (by show w.heap.size < F + 1; omega) _).setOther (p := ⟨w.heap.size, 1, none⟩) (by show w.heap.size < F + 1; omega) _).setOther (p := ⟨w.heap.size, 2, none⟩) (by show w.heap.size < F + 1; omega) _).setOther (p := ⟨w.heap.size, 3, none⟩) (by show w.heap.size < F + 1; omega) _)
            obtain ⟨a2, p2, hv2, hM2⟩ := (how.base (B' := w.heap.size) (by omega)).mine
            exact ⟨a2, p2, by rw [hv2]; rfl, hM2⟩
          · exact (((HB8.out.setCell (Nat.le_refl _) _).setCell (Nat.le_refl _) _).setCell (Nat.le_refl _) _).setCell (Nat.le_refl _) _
        · have HV : Hid (vOk s = false) := by show _ = _; rw [HVOk.out, hok, decide_eq_false ht]; rfl
          clear hok HVOk HCk
          generalize versT (vc ms x1 x2 x3) = T at ct ht
          have hu2 := toList_neV ht
          have hu1 : (T.toList == s.toList) = false := by simpa using hu2
          clear ht
          go_wp2_with fail
          refine cb.mono ?_
          rintro e w7 ⟨rfl, hb7⟩
          have y0 := (HR.out.bx.next hb7).cell 0
          have y1 := (HR.out.bx.next hb7).cell 1
          have y2 := (HR.out.bx.next hb7).cell 2
          have y3 := (HR.out.bx.next hb7).cell 3
          simp only [List.getElem?_toArray, List.getElem?_cons_succ, List.getElem?_cons_zero] at y0 y1 y2 y3
          clear cb o0 o1 o2 o3 of
          go_wp2_with fail
          refine (ct _ hb7).mono ?_
          rintro e w8 ⟨rfl, hb8⟩
          have hb8' := hb7.trans (hb8.mono hb7.size)
          have p0 := HR.out.res.next hb8'
          have q0 := p0.cell 0
          have q1 := p0.cell 1
          have q2 := p0.cell 2
          have q3 := p0.cell 3
          have qf := p0.free
          simp only [List.getElem?_toArray, List.getElem?_cons_succ, List.getElem?_cons_zero] at q0 q1 q2 q3
          have HB8 : Hid (Below w.heap.size w w8) := HR.out.low.trans (hb8'.mono HR.out.low.size)
          clear p0 hb7 hb8 hb8' ct y0 y1 y2 y3
          go_wp2
          refine bodyPost_ret (v := .tuple #[.agg #[.slice none 0 0, .int .i64 0, .int .i64 0, .int .i64 0], .bool false]) (by simp [results, Try.results23, go_sem, q0, q1, q2, q3]) rfl ⟨⟨_, by rw [HV.out], by rw [readV_no HV.out]; exact zeroV_own _ _⟩, ?_⟩
          exact (((HB8.out.setCell (Nat.le_refl _) _).setCell (Nat.le_refl _) _).setCell (Nat.le_refl _) _).setCell (Nat.le_refl _) _

end Go.Proofs.Ytplemoedpdammaa
