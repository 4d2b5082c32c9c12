/- ReadBatch of the program. -/
import Derived.Test.YtljmfdcilnbjaabRdB
namespace Go.Proofs.Ytljmfdcilnbjaab
set_option maxRecDepth 100000
open Go.RowKit Go.Deep

theorem rdr_single_sz (r : ByteArray) : (rbyte r).2.1.size ≤ r.size := (rbyte_bd r).1
theorem rdr_text_sz (r : ByteArray) : (rtext r).2.1.size ≤ r.size := (rtext_bd r).1

/-- While ops are read: the reader in block gr, the batch in block F, its row from block B on, the answer's box as it was laid. -/
structure RbS (w : World) (gr F B : Nat) (q : Int) (v vo : Value) (os : List Ob) (r0 r : ByteArray) (l : Bool) (x : World) : Prop where
  rd : RdrAt x gr r l
  bx : BoxIs x F #[.int .i64 q, v] 26
  res : BoxIs x w.heap.size #[.int .i64 0, .slice none 0 0] 26
  own : OwnO x B vo os
  low : Below w.heap.size w x
  rz : r.size ≤ r0.size
  hB : B ≤ x.heap.size
  n1 : gr = w.heap.size + 1
  n2 : gr < F
  n3 : F < B

theorem RbS.drew {w : World} {gr F B : Nat} {q : Int} {v vo : Value} {os : List Ob} {r0 r : ByteArray} {l : Bool} {x : World} (h : RbS w gr F B q v vo os r0 r l x) : RbS w gr F B q v vo os r0 r l x.drew :=
  ⟨⟨h.rd.lt, h.rd.c0, h.rd.c1, h.rd.f0, h.rd.f1⟩, h.bx, h.res, h.own, h.low.drew, h.rz, h.hB, h.n1, h.n2, h.n3⟩
theorem RbS.call {w : World} {gr F B : Nat} {q : Int} {v vo : Value} {os : List Ob} {r0 r : ByteArray} {l : Bool} {x y : World} (h : RbS w gr F B q v vo os r0 r l x) {r' : ByteArray} {l' : Bool} (hr : RdrAt y gr r' l') (hm : Mv gr x y) (hz : r'.size ≤ r.size) :
    RbS w gr F B q v vo os r0 r' l' y := by
  have := h.n1; have := h.n2; have := h.n3
  exact ⟨hr, h.bx.mv hm (by omega), h.res.mv hm (by omega), own_mvR h.own hm (by omega), h.low.trans (hm.below h.low.size (by omega)), Nat.le_trans hz h.rz, Nat.le_trans h.hB hm.size, h.n1, h.n2, h.n3⟩
theorem RbS.laid {w : World} {gr F B : Nat} {q : Int} {v vo : Value} {os : List Ob} {r0 r : ByteArray} {l : Bool} {x : World} (h : RbS w gr F B q v vo os r0 r l x) (o : Obj) : RbS w gr F B q v vo os r0 r l (x.alloc o) := by
  have hb := below_one x o
  exact ⟨h.rd.below hb h.rd.lt, h.bx.next hb, h.res.next hb, own_next h.own hb, h.low.trans (hb.mono h.low.size), h.rz, Nat.le_trans h.hB hb.size, h.n1, h.n2, h.n3⟩
theorem RbS.app {w : World} {gr F B : Nat} {q : Int} {v vo : Value} {os : List Ob} {r0 r : ByteArray} {l : Bool} {x y : World} (h : RbS w gr F B q v vo os r0 r l x) (o : Ob) {g cap : Nat}
    (how : y.ownsRow B 40 3 (.slice (some ⟨g, 0, none⟩) (os.length + 1) cap) (os.length + 1) (cellsO os ++ cellsO [o])) (hgr : x.grownBy y vo.ownBlock) : RbS w gr F B q v (.slice (some ⟨g, 0, none⟩) (os.length + 1) cap) (os ++ [o]) r0 r l y := by
  have := h.n1; have := h.n2; have := h.n3
  have hb : Below B x y := (Below.refl B x).grown hgr h.hB fun k hk => (World.ownsRow.lt h.own k hk).1
  refine ⟨h.rd.below hb (by omega), h.bx.below hb (by omega), h.res.below hb (by omega), ?_, h.low.trans (hb.mono (by omega)), h.rz, Nat.le_trans h.hB hb.size, h.n1, h.n2, h.n3⟩
  unfold OwnO
  rw [cellsO_append, List.length_append]
  exact how
theorem RbS.put {w : World} {gr F B : Nat} {q : Int} {v vo : Value} {os : List Ob} {r0 r : ByteArray} {l : Bool} {x : World} (h : RbS w gr F B q v vo os r0 r l x) : RbS w gr F B q vo vo os r0 r l (x.setCell ⟨F, 1, none⟩ vo) := by
  have h1 := h.n1; have h2 := h.n2; have h3 := h.n3
  have hb : Below F x (x.setCell ⟨F, 1, none⟩ vo) := (Below.refl _ _).setCell (p := ⟨F, 1, none⟩) (Nat.le_refl _) _
  have hm : Mv F x (x.setCell ⟨F, 1, none⟩ vo) := (Mv.refl _ _).setCell _
  exact ⟨h.rd.below hb h2, heap_setCell_same x F 1 _ _ vo h.bx, h.res.below hb (by omega), own_mvR h.own hm h3, h.low.trans (hb.mono (by omega)), h.rz, Nat.le_trans h.hB hm.size, h.n1, h.n2, h.n3⟩

/-- The cells of an op that was just laid. -/
theorem srcOb (w : World) (o : Ob) : ∀ j u, (cellsO [o])[j]? = some u → (w.alloc (.cells #[.int .i64 o.k, .string o.u, .string o.x] 40)).cell? ((⟨w.heap.size, 0, none⟩ : Addr).add j) = some u := fun j u hu => by
  have e : (⟨w.heap.size, 0, none⟩ : Addr).add j = ⟨w.heap.size, j, none⟩ := by unfold Addr.add; split <;> simp_all
  rw [e, World.cell?_alloc_at _ _ _ _ rfl]
  match j, hu with
  | 0, hu => exact hu
  | 1, hu => exact hu
  | 2, hu => exact hu
  | j + 3, hu => simp [cellsO] at hu

theorem op_info : (Try.prog.info? 40).map (fun i => (i.zero, i.size, i.bytes)) = some (some (.agg #[.int .i64 0, .string ⟨#[]⟩, .string ⟨#[]⟩]), 3, 40) := by kernel_rfl

theorem rdm_bd (n : Int) (h : 0 ≤ n) : (rdm n : Int) = (if n < 21 then n else 21) ∧ rdm n ≤ 21 := by
  unfold rdm
  split <;> omega

set_option maxHeartbeats 2000000 in
/-- The loop: ops are read, one by one. -/
theorem impl_ReadBatchR (s : ByteArray) (hs : s.size ≤ 1048576) (w : World) :
    Calls Try.prog 7 #[.string s] w fun e w' => (∃ v, e = .returned (.tuple #[.agg #[.int .i64 (readB s).2.1, v], .bool (readB s).1]) ∧ OwnO w' w.heap.size v (readB s).2.2) ∧ Below w.heap.size w w' := by
  obtain ⟨i0, hi0, hz0, hz1, hz2⟩ := info_parts op_info
  have zs := rnum_bd s
  have zr := rnum_bd (rnum s).2.1
  obtain ⟨hm1, hm2⟩ := rdm_bd _ zr.2.1
  have c1 := fun w g m h => rdr_number w g s m hs h
  have c2 := fun w g m h => rdr_number w g (rnum s).2.1 m (by omega) h
  have HY := hide (fun h1 h2 => readB_yes (s := s) h1 h2)
  have HN1 := hide (fun h1 => readB_no1 (s := s) h1)
  have HN2 := hide (fun h2 => readB_no2 (s := s) h2)
  obtain ⟨m, hm⟩ : ∃ m, rdm (rnum (rnum s).2.1).1 = m := ⟨_, rfl⟩
  rw [hm] at HY HN1 HN2 hm1 hm2
  generalize rnum (rnum s).2.1 = b at *
  generalize rnum s = a at *
  obtain ⟨q, ra, la⟩ := a
  obtain ⟨nn, r0, lb⟩ := b
  simp only at c1 c2 zs zr hm1 HY HN1 HN2
  clear hm
  have hzr : r0.size ≤ 1048576 := by omega
  have hmin : min nn 21 = (m : Int) := by rw [hm1]; split <;> omega
  clear hm1
  have hN : RdrAt ((w.alloc (.cells #[.int .i64 0, .slice none 0 0] 26)).alloc (.cells #[.string s, .bool false] 43)) (w.heap.size + 1) s false := by
    have e : (w.alloc (.cells #[.int .i64 0, .slice none 0 0] 26)).heap.size = w.heap.size + 1 := by simp
    rw [← e]
    exact RdrAt.new _ _ _
  have hF : BoxIs ((w.alloc (.cells #[.int .i64 0, .slice none 0 0] 26)).alloc (.cells #[.string s, .bool false] 43)) w.heap.size #[.int .i64 0, .slice none 0 0] 26 :=
    (BoxIs.new w _ _ rfl).below ((Below.refl _ _).alloc (Nat.le_refl _) _) (by simp)
  have hB0 : Below w.heap.size w ((w.alloc (.cells #[.int .i64 0, .slice none 0 0] 26)).alloc (.cells #[.string s, .bool false] 43)) := ((Below.refl _ _).alloc (Nat.le_refl _) _).alloc (by simp) _
  go_enter Try.func7, Try.ntmps7
  go_wp2_with fail
  generalize (w.alloc (.cells #[.int .i64 0, .slice none 0 0] 26)).alloc (.cells #[.string s, .bool false] 43) = W at hN hF hB0 ⊢
  refine (c1 _ _ _ hN).mono ?_
  rintro e w1 ⟨rfl, hN1, hM1⟩
  clear c1 hN
  have hF1 := hF.mv hM1 (by omega)
  have hB1 := hB0.trans (hM1.below hB0.size (by omega))
  have hlt1 := hN1.lt
  have hN2 := hN1.below (below_one w1 (.cells #[.int .i64 q, .slice none 0 0] 26)) hN1.lt
  have hF2 := hF1.next (below_one w1 (.cells #[.int .i64 q, .slice none 0 0] 26))
  have hB2 := hB1.trans ((below_one w1 (.cells #[.int .i64 q, .slice none 0 0] 26)).mono hB1.size)
  have hX2 := BoxIs.new w1 #[.int .i64 q, .slice none 0 0] 26 rfl
  have hz2' : (w1.alloc (.cells #[.int .i64 q, .slice none 0 0] 26)).heap.size = w1.heap.size + 1 := by simp
  clear hF hB0 hM1 hN1 hF1 hB1
  go_wp2_with fail
  generalize w1.alloc (.cells #[.int .i64 q, .slice none 0 0] 26) = W2 at hN2 hF2 hB2 hX2 hz2' ⊢
  obtain ⟨F, hFe⟩ : ∃ F, w1.heap.size = F := ⟨_, rfl⟩
  rw [hFe] at hX2 hz2' hlt1 ⊢
  clear hFe
  have H2 : Hid (RbS w (w.heap.size + 1) F (F + 1) q (.slice none 0 0) (.slice none 0 0) [] ra ra (false || la) W2) := ⟨hN2, hX2, hF2, OwnO.nil _ _, hB2, Nat.le_refl _, by omega, rfl, hlt1, by omega⟩
  clear hN2 hF2 hB2 hX2
  refine (c2 _ _ _ H2.out.rd).mono ?_
  rintro e w3 ⟨rfl, hN3, hM3⟩
  have H3 := hide (H2.out.call hN3 hM3 (by omega))
  have hw3 : F + 1 ≤ w3.heap.size := by have := hM3.size; omega
  have H4 : Hid (RbS w (w.heap.size + 1) F (F + 1) q (.slice none 0 0) (.slice none 0 0) (rdo r0 0).1 r0 (rdo r0 0).2.1 (((false || la) || lb) || (rdo r0 0).2.2) w3) := by
    refine ⟨?_, H3.out.bx, H3.out.res, OwnO.nil _ _, H3.out.low, Nat.le_refl _, by omega, rfl, hlt1, by omega⟩
    have : (((false || la) || lb) || (rdo r0 0).2.2) = ((false || la) || lb) := by simp [rdo]
    rw [this]
    exact hN3
  clear c2 hN3 hM3 H2 H3 hz2' hw3
  obtain ⟨L, hL⟩ : ∃ L, ((false || la) || lb) = L := ⟨_, rfl⟩
  have HL := hide hL
  rw [hL] at H4
  clear hL
  go_wp2
  clear hmin
  go_loopw [12] (fun i wr => ∃ (k : Nat) (vo : Value), i = .int .i64 k ∧ k ≤ m ∧ Hid (RbS w (w.heap.size + 1) F (F + 1) q vo vo (rdo r0 k).1 r0 (rdo r0 k).2.1 (L || (rdo r0 k).2.2) wr)) (fun i _ => m - (intOf i).toNat)
  case atStart => exact ⟨0, _, rfl, by omega, H4⟩
  case round =>
    obtain ⟨k, vo, rfl, hk, HR0⟩ := hrel
    clear H4
    by_cases hlt : k < m
    · have hki : (k : Int) < (m : Int) := by omega
      have HSTEP : ∀ {gr' F' B' : Nat} {v' : Value} {y : World}, Hid (RbS w gr' F' B' q v' v' ((rdo r0 k).1 ++ [obAt (rdo r0 k).2.1]) r0 (rtext (rtext (rbyte (rdo r0 k).2.1).2.1).2.1).2.1 ((((L || (rdo r0 k).2.2) || (rbyte (rdo r0 k).2.1).2.2) || (rtext (rbyte (rdo r0 k).2.1).2.1).2.2) || (rtext (rtext (rbyte (rdo r0 k).2.1).2.1).2.1).2.2) y) →
          Hid (RbS w gr' F' B' q v' v' (rdo r0 (k + 1)).1 r0 (rdo r0 (k + 1)).2.1 (L || (rdo r0 (k + 1)).2.2) y) := by
        intro gr' F' B' v' y h
        have e : (L || (rdo r0 (k + 1)).2.2) = ((((L || (rdo r0 k).2.2) || (rbyte (rdo r0 k).2.1).2.2) || (rtext (rbyte (rdo r0 k).2.1).2.1).2.2) || (rtext (rtext (rbyte (rdo r0 k).2.1).2.1).2.1).2.2) := by
          simp only [rdo, obLost, Bool.or_assoc]
        rw [e]
        exact h
      have hrd := rdo_len r0 k
      have HR := hide HR0.out.drew
      clear HR0
      generalize hRe : (rdo r0 k).2.1 = R at HR HSTEP
      have hb0 := rbyte_bd R
      have hb1 : IntKind.i64.wrap (rbyte R).1 = (rbyte R).1 := by rw [IntKind.wrap_i64]; omega
      obtain ⟨_, hb2, hb3⟩ := hb0
      clear hRe HY HN1 HN2 HL
      go_wp2_with fail
      refine wp_region_noPanic ?_
      refine wp_region_held_drew (S := fun _ => True) (by kernel_rfl) trivial (fun _ => ?_)
      refine wpAnyH_take (i := 0) (v := .pointer (some ⟨F, 1, none⟩)) nat0 (by kernel_rfl) (by kernel_rfl) (by kernel_rfl) (fun _ _ _ h => False.elim h) (Or.inl ⟨by rfl, ?_⟩) trivial ?_
      · intro wx hSw
        go_simp
      simp only [Act.put, List.setIfInBounds_toArray, List.set_cons_zero, List.set_cons_succ]
      refine wpAnyH_ready (rs := [1, 2]) (by kernel_rfl) (by simp) ?_
      refine AllReadyH.cons nat1 (fun K hK => ?_) (AllReadyH.cons nat2 (fun K hK => ?_) AllReadyH.nil)
      · have x1 := HR.out.bx.cell 1
        simp only [List.getElem?_toArray, List.getElem?_cons_succ, List.getElem?_cons_zero] at x1
        go_simp
        refine hK.out _ _ trivial (fun _ => ?_)
        clear hK K x1
        refine wpAnyH_ready (rs := [2]) (by kernel_rfl) (by simp) ?_
        refine AllReadyH.cons nat2 (fun K hK => ?_) AllReadyH.nil
        go_simp
        go_at_call 19
        refine (rdr_single _ _ _ _ (by have := HR.out.rz; have := hzr; omega) HR.out.rd).mono ?_
        rintro e wq1 ⟨rfl, hr1, hm1⟩
        refine hK.out _ _ trivial (fun _ => ?_)
        clear hK K
        have H1 := hide (HR.out.call hr1 hm1 (rdr_single_sz _))
        clear hr1 hm1 HR
        refine wpAnyH_take (i := 3) (v := .int .i64 (rbyte R).1) nat3 (by kernel_rfl) (by kernel_rfl) (by kernel_rfl) (fun _ _ _ h => False.elim h) (Or.inl ⟨by rfl, ?_⟩) trivial ?_
        · intro wx hSw
          go_simp
        simp only [Act.put, List.setIfInBounds_toArray, List.set_cons_zero, List.set_cons_succ]
        refine wpAnyH_ready (rs := [4]) (by kernel_rfl) (by simp) ?_
        refine AllReadyH.cons nat4 (fun K hK => ?_) AllReadyH.nil
        go_simp
        go_at_call 20
        refine (rdr_text _ _ _ _ (by have := H1.out.rz; have := hzr; omega) H1.out.rd).mono ?_
        rintro e wq2 ⟨rfl, hr2, hm2⟩
        refine hK.out _ _ trivial (fun _ => ?_)
        clear hK K
        have H2 := hide (H1.out.call hr2 hm2 (rdr_text_sz _))
        clear hr2 hm2 H1
        refine wpAnyH_ready (rs := [5]) (by kernel_rfl) (by simp) ?_
        refine AllReadyH.cons nat5 (fun K hK => ?_) AllReadyH.nil
        go_simp
        go_at_call 20
        refine (rdr_text _ _ _ _ (by have := H2.out.rz; have := hzr; omega) H2.out.rd).mono ?_
        rintro e wq3 ⟨rfl, hr3, hm3⟩
        refine hK.out _ _ trivial (fun _ => ?_)
        clear hK K
        have H3 := hide (H2.out.call hr3 hm3 (rdr_text_sz _))
        clear hr3 hm3 H2
        refine wpAnyH_take (i := 6) (v := .agg #[.int .i64 (rbyte R).1, .string (rtext (rbyte R).2.1).1, .string (rtext (rtext (rbyte R).2.1).2.1).1]) nat6 (by kernel_rfl) (by kernel_rfl) (by kernel_rfl) (fun _ _ _ h => False.elim h) (Or.inl ⟨by rfl, ?_⟩) trivial ?_
        · intro wx hSw
          go_simp
        simp only [Act.put, List.setIfInBounds_toArray, List.set_cons_zero, List.set_cons_succ]
        refine wpAnyH_ready (rs := [7]) (by kernel_rfl) (by simp) ?_
        refine AllReadyH.cons nat7 (fun K hK => ?_) AllReadyH.nil
        go_simp
        refine hK.out _ _ trivial (fun _ => ?_)
        clear hK K
        have hsrc4 := srcOb wq3 (obAt R)
        simp only [obAt] at hsrc4
        have H4 := hide (H3.out.laid (.cells #[.int .i64 (rbyte R).1, .string (rtext (rbyte R).2.1).1, .string (rtext (rtext (rbyte R).2.1).2.1).1] 40))
        have hblk4 : wq3.heap.size < (wq3.alloc (.cells #[.int .i64 (rbyte R).1, .string (rtext (rbyte R).2.1).1, .string (rtext (rtext (rbyte R).2.1).2.1).1] 40)).heap.size := by simp
        generalize wq3.alloc (.cells #[.int .i64 (rbyte R).1, .string (rtext (rbyte R).2.1).1, .string (rtext (rtext (rbyte R).2.1).2.1).1] 40) = wq4 at H4 hsrc4 hblk4 ⊢
        clear H3
        refine wpAnyH_ready (rs := [8]) (by kernel_rfl) (by simp) ?_
        refine AllReadyH.cons nat8 (fun K hK => ?_) AllReadyH.nil
        refine step_append_lies (P := Try.prog) wq4 rfl (.tmp 15) (.tmp 21) 24 rfl (F + 1) 40 i0 _ 3 40 Try.underlying24 hi0 hz0 hz1 hz2 rfl (by decide) vo _ _ (by rfl) H4.out.own ⟨wq3.heap.size, 0, none⟩ 1 1 (cellsO [obAt R]) (by rfl) rfl hsrc4 (cellsO_one _) (by decide) (by unfold maxLen; omega) (by omega) H4.out.hB _ rfl ?_
        intro g5 cap5 wq5 how5 hgr5 _ _
        have H5 := hide (H4.out.app (obAt R) how5 hgr5)
        rw [hrd] at H5
        refine hK.out _ _ trivial (fun _ => ?_)
        clear hK K how5 hgr5 H4 hsrc4
        simp only [Act.put, List.setIfInBounds_toArray, List.set_cons_zero, List.set_cons_succ]
        refine wpAnyH_take (i := 9) (v := .pointer (some ⟨F, 1, none⟩)) nat9 (by kernel_rfl) (by kernel_rfl) (by kernel_rfl) (fun _ _ _ h => False.elim h) (Or.inl ⟨by rfl, ?_⟩) trivial ?_
        · intro wx hSw
          go_simp
        simp only [Act.put, List.setIfInBounds_toArray, List.set_cons_zero, List.set_cons_succ]
        refine wpAnyH_ready (rs := [10]) (by kernel_rfl) (by simp) ?_
        refine AllReadyH.cons nat10 (fun K hK => ?_) AllReadyH.nil
        have x1 := H5.out.bx.cell 1
        simp only [List.getElem?_toArray, List.getElem?_cons_succ, List.getElem?_cons_zero] at x1
        have x2 := H5.out.bx.free
        go_simp
        refine hK.out _ _ trivial (fun _ => ?_)
        have H6 := hide H5.out.put
        clear hK K x1 x2 H5
        generalize wq5.setCell ⟨F, 1, none⟩ (.slice (some ⟨g5, 0, none⟩) (k + 1) cap5) = wq6 at H6 ⊢
        refine wpAnyH_done (by kernel_rfl) ?_ _
        refine NoPanic.normal ?_
        go_wp2
        exact ⟨⟨k + 1, _, by go_num, by omega, HSTEP H6⟩, by simp [intOf]; omega⟩
      · go_simp
        go_at_call 19
        refine (rdr_single _ _ _ _ (by have := HR.out.rz; have := hzr; omega) HR.out.rd).mono ?_
        rintro e wq7 ⟨rfl, hr7, hm7⟩
        refine hK.out _ _ trivial (fun _ => ?_)
        clear hK K
        have H7 := hide (HR.out.call hr7 hm7 (rdr_single_sz _))
        clear hr7 hm7 HR
        refine wpAnyH_take (i := 3) (v := .int .i64 (rbyte R).1) nat3 (by kernel_rfl) (by kernel_rfl) (by kernel_rfl) (fun _ _ _ h => False.elim h) (Or.inl ⟨by rfl, ?_⟩) trivial ?_
        · intro wx hSw
          go_simp
        simp only [Act.put, List.setIfInBounds_toArray, List.set_cons_zero, List.set_cons_succ]
        refine wpAnyH_ready (rs := [1, 4]) (by kernel_rfl) (by simp) ?_
        refine AllReadyH.cons nat1 (fun K hK => ?_) (AllReadyH.cons nat4 (fun K hK => ?_) AllReadyH.nil)
        · have x1 := H7.out.bx.cell 1
          simp only [List.getElem?_toArray, List.getElem?_cons_succ, List.getElem?_cons_zero] at x1
          go_simp
          refine hK.out _ _ trivial (fun _ => ?_)
          clear hK K x1
          refine wpAnyH_ready (rs := [4]) (by kernel_rfl) (by simp) ?_
          refine AllReadyH.cons nat4 (fun K hK => ?_) AllReadyH.nil
          go_simp
          go_at_call 20
          refine (rdr_text _ _ _ _ (by have := H7.out.rz; have := hzr; omega) H7.out.rd).mono ?_
          rintro e wq9 ⟨rfl, hr9, hm9⟩
          refine hK.out _ _ trivial (fun _ => ?_)
          clear hK K
          have H9 := hide (H7.out.call hr9 hm9 (rdr_text_sz _))
          clear hr9 hm9 H7
          refine wpAnyH_ready (rs := [5]) (by kernel_rfl) (by simp) ?_
          refine AllReadyH.cons nat5 (fun K hK => ?_) AllReadyH.nil
          go_simp
          go_at_call 20
          refine (rdr_text _ _ _ _ (by have := H9.out.rz; have := hzr; omega) H9.out.rd).mono ?_
          rintro e wq10 ⟨rfl, hr10, hm10⟩
          refine hK.out _ _ trivial (fun _ => ?_)
          clear hK K
          have H10 := hide (H9.out.call hr10 hm10 (rdr_text_sz _))
          clear hr10 hm10 H9
          refine wpAnyH_take (i := 6) (v := .agg #[.int .i64 (rbyte R).1, .string (rtext (rbyte R).2.1).1, .string (rtext (rtext (rbyte R).2.1).2.1).1]) nat6 (by kernel_rfl) (by kernel_rfl) (by kernel_rfl) (fun _ _ _ h => False.elim h) (Or.inl ⟨by rfl, ?_⟩) trivial ?_
          · intro wx hSw
            go_simp
          simp only [Act.put, List.setIfInBounds_toArray, List.set_cons_zero, List.set_cons_succ]
          refine wpAnyH_ready (rs := [7]) (by kernel_rfl) (by simp) ?_
          refine AllReadyH.cons nat7 (fun K hK => ?_) AllReadyH.nil
          go_simp
          refine hK.out _ _ trivial (fun _ => ?_)
          clear hK K
          have hsrc11 := srcOb wq10 (obAt R)
          simp only [obAt] at hsrc11
          have H11 := hide (H10.out.laid (.cells #[.int .i64 (rbyte R).1, .string (rtext (rbyte R).2.1).1, .string (rtext (rtext (rbyte R).2.1).2.1).1] 40))
          have hblk11 : wq10.heap.size < (wq10.alloc (.cells #[.int .i64 (rbyte R).1, .string (rtext (rbyte R).2.1).1, .string (rtext (rtext (rbyte R).2.1).2.1).1] 40)).heap.size := by simp
          generalize wq10.alloc (.cells #[.int .i64 (rbyte R).1, .string (rtext (rbyte R).2.1).1, .string (rtext (rtext (rbyte R).2.1).2.1).1] 40) = wq11 at H11 hsrc11 hblk11 ⊢
          clear H10
          refine wpAnyH_ready (rs := [8]) (by kernel_rfl) (by simp) ?_
          refine AllReadyH.cons nat8 (fun K hK => ?_) AllReadyH.nil
          refine step_append_lies (P := Try.prog) wq11 rfl (.tmp 15) (.tmp 21) 24 rfl (F + 1) 40 i0 _ 3 40 Try.underlying24 hi0 hz0 hz1 hz2 rfl (by decide) vo _ _ (by rfl) H11.out.own ⟨wq10.heap.size, 0, none⟩ 1 1 (cellsO [obAt R]) (by rfl) rfl hsrc11 (cellsO_one _) (by decide) (by unfold maxLen; omega) (by omega) H11.out.hB _ rfl ?_
          intro g12 cap12 wq12 how12 hgr12 _ _
          have H12 := hide (H11.out.app (obAt R) how12 hgr12)
          rw [hrd] at H12
          refine hK.out _ _ trivial (fun _ => ?_)
          clear hK K how12 hgr12 H11 hsrc11
          simp only [Act.put, List.setIfInBounds_toArray, List.set_cons_zero, List.set_cons_succ]
          refine wpAnyH_take (i := 9) (v := .pointer (some ⟨F, 1, none⟩)) nat9 (by kernel_rfl) (by kernel_rfl) (by kernel_rfl) (fun _ _ _ h => False.elim h) (Or.inl ⟨by rfl, ?_⟩) trivial ?_
          · intro wx hSw
            go_simp
          simp only [Act.put, List.setIfInBounds_toArray, List.set_cons_zero, List.set_cons_succ]
          refine wpAnyH_ready (rs := [10]) (by kernel_rfl) (by simp) ?_
          refine AllReadyH.cons nat10 (fun K hK => ?_) AllReadyH.nil
          have x1 := H12.out.bx.cell 1
          simp only [List.getElem?_toArray, List.getElem?_cons_succ, List.getElem?_cons_zero] at x1
          have x2 := H12.out.bx.free
          go_simp
          refine hK.out _ _ trivial (fun _ => ?_)
          have H13 := hide H12.out.put
          clear hK K x1 x2 H12
          generalize wq12.setCell ⟨F, 1, none⟩ (.slice (some ⟨g12, 0, none⟩) (k + 1) cap12) = wq13 at H13 ⊢
          refine wpAnyH_done (by kernel_rfl) ?_ _
          refine NoPanic.normal ?_
          go_wp2
          exact ⟨⟨k + 1, _, by go_num, by omega, HSTEP H13⟩, by simp [intOf]; omega⟩
        · go_simp
          go_at_call 20
          refine (rdr_text _ _ _ _ (by have := H7.out.rz; have := hzr; omega) H7.out.rd).mono ?_
          rintro e wq14 ⟨rfl, hr14, hm14⟩
          refine hK.out _ _ trivial (fun _ => ?_)
          clear hK K
          have H14 := hide (H7.out.call hr14 hm14 (rdr_text_sz _))
          clear hr14 hm14 H7
          refine wpAnyH_ready (rs := [1, 5]) (by kernel_rfl) (by simp) ?_
          refine AllReadyH.cons nat1 (fun K hK => ?_) (AllReadyH.cons nat5 (fun K hK => ?_) AllReadyH.nil)
          · have x1 := H14.out.bx.cell 1
            simp only [List.getElem?_toArray, List.getElem?_cons_succ, List.getElem?_cons_zero] at x1
            go_simp
            refine hK.out _ _ trivial (fun _ => ?_)
            clear hK K x1
            refine wpAnyH_ready (rs := [5]) (by kernel_rfl) (by simp) ?_
            refine AllReadyH.cons nat5 (fun K hK => ?_) AllReadyH.nil
            go_simp
            go_at_call 20
            refine (rdr_text _ _ _ _ (by have := H14.out.rz; have := hzr; omega) H14.out.rd).mono ?_
            rintro e wq16 ⟨rfl, hr16, hm16⟩
            refine hK.out _ _ trivial (fun _ => ?_)
            clear hK K
            have H16 := hide (H14.out.call hr16 hm16 (rdr_text_sz _))
            clear hr16 hm16 H14
            refine wpAnyH_take (i := 6) (v := .agg #[.int .i64 (rbyte R).1, .string (rtext (rbyte R).2.1).1, .string (rtext (rtext (rbyte R).2.1).2.1).1]) nat6 (by kernel_rfl) (by kernel_rfl) (by kernel_rfl) (fun _ _ _ h => False.elim h) (Or.inl ⟨by rfl, ?_⟩) trivial ?_
            · intro wx hSw
              go_simp
            simp only [Act.put, List.setIfInBounds_toArray, List.set_cons_zero, List.set_cons_succ]
            refine wpAnyH_ready (rs := [7]) (by kernel_rfl) (by simp) ?_
            refine AllReadyH.cons nat7 (fun K hK => ?_) AllReadyH.nil
            go_simp
            refine hK.out _ _ trivial (fun _ => ?_)
            clear hK K
            have hsrc17 := srcOb wq16 (obAt R)
            simp only [obAt] at hsrc17
            have H17 := hide (H16.out.laid (.cells #[.int .i64 (rbyte R).1, .string (rtext (rbyte R).2.1).1, .string (rtext (rtext (rbyte R).2.1).2.1).1] 40))
            have hblk17 : wq16.heap.size < (wq16.alloc (.cells #[.int .i64 (rbyte R).1, .string (rtext (rbyte R).2.1).1, .string (rtext (rtext (rbyte R).2.1).2.1).1] 40)).heap.size := by simp
            generalize wq16.alloc (.cells #[.int .i64 (rbyte R).1, .string (rtext (rbyte R).2.1).1, .string (rtext (rtext (rbyte R).2.1).2.1).1] 40) = wq17 at H17 hsrc17 hblk17 ⊢
            clear H16
            refine wpAnyH_ready (rs := [8]) (by kernel_rfl) (by simp) ?_
            refine AllReadyH.cons nat8 (fun K hK => ?_) AllReadyH.nil
            refine step_append_lies (P := Try.prog) wq17 rfl (.tmp 15) (.tmp 21) 24 rfl (F + 1) 40 i0 _ 3 40 Try.underlying24 hi0 hz0 hz1 hz2 rfl (by decide) vo _ _ (by rfl) H17.out.own ⟨wq16.heap.size, 0, none⟩ 1 1 (cellsO [obAt R]) (by rfl) rfl hsrc17 (cellsO_one _) (by decide) (by unfold maxLen; omega) (by omega) H17.out.hB _ rfl ?_
            intro g18 cap18 wq18 how18 hgr18 _ _
            have H18 := hide (H17.out.app (obAt R) how18 hgr18)
            rw [hrd] at H18
            refine hK.out _ _ trivial (fun _ => ?_)
            clear hK K how18 hgr18 H17 hsrc17
            simp only [Act.put, List.setIfInBounds_toArray, List.set_cons_zero, List.set_cons_succ]
            refine wpAnyH_take (i := 9) (v := .pointer (some ⟨F, 1, none⟩)) nat9 (by kernel_rfl) (by kernel_rfl) (by kernel_rfl) (fun _ _ _ h => False.elim h) (Or.inl ⟨by rfl, ?_⟩) trivial ?_
            · intro wx hSw
              go_simp
            simp only [Act.put, List.setIfInBounds_toArray, List.set_cons_zero, List.set_cons_succ]
            refine wpAnyH_ready (rs := [10]) (by kernel_rfl) (by simp) ?_
            refine AllReadyH.cons nat10 (fun K hK => ?_) AllReadyH.nil
            have x1 := H18.out.bx.cell 1
            simp only [List.getElem?_toArray, List.getElem?_cons_succ, List.getElem?_cons_zero] at x1
            have x2 := H18.out.bx.free
            go_simp
            refine hK.out _ _ trivial (fun _ => ?_)
            have H19 := hide H18.out.put
            clear hK K x1 x2 H18
            generalize wq18.setCell ⟨F, 1, none⟩ (.slice (some ⟨g18, 0, none⟩) (k + 1) cap18) = wq19 at H19 ⊢
            refine wpAnyH_done (by kernel_rfl) ?_ _
            refine NoPanic.normal ?_
            go_wp2
            exact ⟨⟨k + 1, _, by go_num, by omega, HSTEP H19⟩, by simp [intOf]; omega⟩
          · go_simp
            go_at_call 20
            refine (rdr_text _ _ _ _ (by have := H14.out.rz; have := hzr; omega) H14.out.rd).mono ?_
            rintro e wq20 ⟨rfl, hr20, hm20⟩
            refine hK.out _ _ trivial (fun _ => ?_)
            clear hK K
            have H20 := hide (H14.out.call hr20 hm20 (rdr_text_sz _))
            clear hr20 hm20 H14
            refine wpAnyH_take (i := 6) (v := .agg #[.int .i64 (rbyte R).1, .string (rtext (rbyte R).2.1).1, .string (rtext (rtext (rbyte R).2.1).2.1).1]) nat6 (by kernel_rfl) (by kernel_rfl) (by kernel_rfl) (fun _ _ _ h => False.elim h) (Or.inl ⟨by rfl, ?_⟩) trivial ?_
            · intro wx hSw
              go_simp
            simp only [Act.put, List.setIfInBounds_toArray, List.set_cons_zero, List.set_cons_succ]
            refine wpAnyH_ready (rs := [1, 7]) (by kernel_rfl) (by simp) ?_
            refine AllReadyH.cons nat1 (fun K hK => ?_) (AllReadyH.cons nat7 (fun K hK => ?_) AllReadyH.nil)
            · have x1 := H20.out.bx.cell 1
              simp only [List.getElem?_toArray, List.getElem?_cons_succ, List.getElem?_cons_zero] at x1
              go_simp
              refine hK.out _ _ trivial (fun _ => ?_)
              clear hK K x1
              refine wpAnyH_ready (rs := [7]) (by kernel_rfl) (by simp) ?_
              refine AllReadyH.cons nat7 (fun K hK => ?_) AllReadyH.nil
              go_simp
              refine hK.out _ _ trivial (fun _ => ?_)
              clear hK K
              have hsrc22 := srcOb wq20 (obAt R)
              simp only [obAt] at hsrc22
              have H22 := hide (H20.out.laid (.cells #[.int .i64 (rbyte R).1, .string (rtext (rbyte R).2.1).1, .string (rtext (rtext (rbyte R).2.1).2.1).1] 40))
              have hblk22 : wq20.heap.size < (wq20.alloc (.cells #[.int .i64 (rbyte R).1, .string (rtext (rbyte R).2.1).1, .string (rtext (rtext (rbyte R).2.1).2.1).1] 40)).heap.size := by simp
              generalize wq20.alloc (.cells #[.int .i64 (rbyte R).1, .string (rtext (rbyte R).2.1).1, .string (rtext (rtext (rbyte R).2.1).2.1).1] 40) = wq22 at H22 hsrc22 hblk22 ⊢
              clear H20
              refine wpAnyH_ready (rs := [8]) (by kernel_rfl) (by simp) ?_
              refine AllReadyH.cons nat8 (fun K hK => ?_) AllReadyH.nil
              refine step_append_lies (P := Try.prog) wq22 rfl (.tmp 15) (.tmp 21) 24 rfl (F + 1) 40 i0 _ 3 40 Try.underlying24 hi0 hz0 hz1 hz2 rfl (by decide) vo _ _ (by rfl) H22.out.own ⟨wq20.heap.size, 0, none⟩ 1 1 (cellsO [obAt R]) (by rfl) rfl hsrc22 (cellsO_one _) (by decide) (by unfold maxLen; omega) (by omega) H22.out.hB _ rfl ?_
              intro g23 cap23 wq23 how23 hgr23 _ _
              have H23 := hide (H22.out.app (obAt R) how23 hgr23)
              rw [hrd] at H23
              refine hK.out _ _ trivial (fun _ => ?_)
              clear hK K how23 hgr23 H22 hsrc22
              simp only [Act.put, List.setIfInBounds_toArray, List.set_cons_zero, List.set_cons_succ]
              refine wpAnyH_take (i := 9) (v := .pointer (some ⟨F, 1, none⟩)) nat9 (by kernel_rfl) (by kernel_rfl) (by kernel_rfl) (fun _ _ _ h => False.elim h) (Or.inl ⟨by rfl, ?_⟩) trivial ?_
              · intro wx hSw
                go_simp
              simp only [Act.put, List.setIfInBounds_toArray, List.set_cons_zero, List.set_cons_succ]
              refine wpAnyH_ready (rs := [10]) (by kernel_rfl) (by simp) ?_
              refine AllReadyH.cons nat10 (fun K hK => ?_) AllReadyH.nil
              have x1 := H23.out.bx.cell 1
              simp only [List.getElem?_toArray, List.getElem?_cons_succ, List.getElem?_cons_zero] at x1
              have x2 := H23.out.bx.free
              go_simp
              refine hK.out _ _ trivial (fun _ => ?_)
              have H24 := hide H23.out.put
              clear hK K x1 x2 H23
              generalize wq23.setCell ⟨F, 1, none⟩ (.slice (some ⟨g23, 0, none⟩) (k + 1) cap23) = wq24 at H24 ⊢
              refine wpAnyH_done (by kernel_rfl) ?_ _
              refine NoPanic.normal ?_
              go_wp2
              exact ⟨⟨k + 1, _, by go_num, by omega, HSTEP H24⟩, by simp [intOf]; omega⟩
            · go_simp
              refine hK.out _ _ trivial (fun _ => ?_)
              clear hK K
              have hsrc25 := srcOb wq20 (obAt R)
              simp only [obAt] at hsrc25
              have H25 := hide (H20.out.laid (.cells #[.int .i64 (rbyte R).1, .string (rtext (rbyte R).2.1).1, .string (rtext (rtext (rbyte R).2.1).2.1).1] 40))
              have hblk25 : wq20.heap.size < (wq20.alloc (.cells #[.int .i64 (rbyte R).1, .string (rtext (rbyte R).2.1).1, .string (rtext (rtext (rbyte R).2.1).2.1).1] 40)).heap.size := by simp
              generalize wq20.alloc (.cells #[.int .i64 (rbyte R).1, .string (rtext (rbyte R).2.1).1, .string (rtext (rtext (rbyte R).2.1).2.1).1] 40) = wq25 at H25 hsrc25 hblk25 ⊢
              clear H20
              refine wpAnyH_ready (rs := [1]) (by kernel_rfl) (by simp) ?_
              refine AllReadyH.cons nat1 (fun K hK => ?_) AllReadyH.nil
              have x1 := H25.out.bx.cell 1
              simp only [List.getElem?_toArray, List.getElem?_cons_succ, List.getElem?_cons_zero] at x1
              go_simp
              refine hK.out _ _ trivial (fun _ => ?_)
              clear hK K x1
              refine wpAnyH_ready (rs := [8]) (by kernel_rfl) (by simp) ?_
              refine AllReadyH.cons nat8 (fun K hK => ?_) AllReadyH.nil
              refine step_append_lies (P := Try.prog) wq25 rfl (.tmp 15) (.tmp 21) 24 rfl (F + 1) 40 i0 _ 3 40 Try.underlying24 hi0 hz0 hz1 hz2 rfl (by decide) vo _ _ (by rfl) H25.out.own ⟨wq20.heap.size, 0, none⟩ 1 1 (cellsO [obAt R]) (by rfl) rfl hsrc25 (cellsO_one _) (by decide) (by unfold maxLen; omega) (by omega) H25.out.hB _ rfl ?_
              intro g27 cap27 wq27 how27 hgr27 _ _
              have H27 := hide (H25.out.app (obAt R) how27 hgr27)
              rw [hrd] at H27
              refine hK.out _ _ trivial (fun _ => ?_)
              clear hK K how27 hgr27 H25 hsrc25
              simp only [Act.put, List.setIfInBounds_toArray, List.set_cons_zero, List.set_cons_succ]
              refine wpAnyH_take (i := 9) (v := .pointer (some ⟨F, 1, none⟩)) nat9 (by kernel_rfl) (by kernel_rfl) (by kernel_rfl) (fun _ _ _ h => False.elim h) (Or.inl ⟨by rfl, ?_⟩) trivial ?_
              · intro wx hSw
                go_simp
              simp only [Act.put, List.setIfInBounds_toArray, List.set_cons_zero, List.set_cons_succ]
              refine wpAnyH_ready (rs := [10]) (by kernel_rfl) (by simp) ?_
              refine AllReadyH.cons nat10 (fun K hK => ?_) AllReadyH.nil
              have x1 := H27.out.bx.cell 1
              simp only [List.getElem?_toArray, List.getElem?_cons_succ, List.getElem?_cons_zero] at x1
              have x2 := H27.out.bx.free
              go_simp
              refine hK.out _ _ trivial (fun _ => ?_)
              have H28 := hide H27.out.put
              clear hK K x1 x2 H27
              generalize wq27.setCell ⟨F, 1, none⟩ (.slice (some ⟨g27, 0, none⟩) (k + 1) cap27) = wq28 at H28 ⊢
              refine wpAnyH_done (by kernel_rfl) ?_ _
              refine NoPanic.normal ?_
              go_wp2
              exact ⟨⟨k + 1, _, by go_num, by omega, HSTEP H28⟩, by simp [intOf]; omega⟩
    · obtain rfl : k = m := by omega
      obtain ⟨ar, cap, hvo, hO⟩ := HR0.out.own.ops
      subst hvo
      have HO : Hid (OpAt wr wr.heap.size ar (rdo r0 k).1.length (opsOf (rdo r0 k).1)) := hO
      have hrd := rdo_len r0 k
      have cb := fun (wx : World) (h : OpAt wx wx.heap.size ar (rdo r0 k).1.length (opsOf (rdo r0 k).1)) => impl_BatchOk q ar (rdo r0 k).1.length cap (opsOf (rdo r0 k).1) wx (by rw [hrd]; omega) h
      have hLe : L = (la || lb) := by rw [← HL.out]; simp
      subst hLe
      have cd := rdr_done wr (w.heap.size + 1) _ _ HR0.out.rd
      have o0 : wr.cell? ⟨w.heap.size, 0, none⟩ = some (.int .i64 0) := HR0.out.res.cell 0
      have o1 : wr.cell? ⟨w.heap.size, 1, none⟩ = some (.slice none 0 0) := HR0.out.res.cell 1
      have of := HR0.out.res.free
      have x0 : wr.cell? ⟨F, 0, none⟩ = some (.int .i64 q) := HR0.out.bx.cell 0
      have x1 : wr.cell? ⟨F, 1, none⟩ = some (.slice ar (rdo r0 k).1.length cap) := HR0.out.bx.cell 1
      have hFl := HR0.out.bx.lt
      clear hO HL
      generalize rdo r0 k = D at *
      obtain ⟨os, R, lD⟩ := D
      simp only at *
      generalize hLN : os.length = LN at *
      clear hLN
      obtain rfl : LN = k := hrd
      cases hall : (!((la || lb) || lD) && decide (R.size = 0)) with
      | false =>
        have HV : Hid (readB s = (false, 0, [])) := HN1.out hall
        rw [hall] at cd
        clear hall HN1 HN2 HY cb x0 x1
        go_wp2_with fail
        refine cd.mono ?_
        rintro e w6 ⟨rfl, rfl⟩
        clear cd
        go_wp2
        refine bodyPost_ret (v := .tuple #[.agg #[.int .i64 0, .slice none 0 0], .bool false]) (by simp [results, Try.results7, go_sem, o0, o1]) rfl ⟨⟨.slice none 0 0, by rw [HV.out], by rw [HV.out]; exact OwnO.nil _ _⟩, ?_⟩
        exact (HR0.out.low.setCell (Nat.le_refl _) _).setCell (Nat.le_refl _) _
      | true =>
        rw [hall] at cd
        cases hok : batchOkB q LN (opsOf os) with
        | false =>
          have HV : Hid (readB s = (false, 0, [])) := HN2.out hok
          rw [hok] at cb
          clear hall HN1 HN2 HY hok
          go_wp2_with fail
          refine cd.mono ?_
          rintro e w6 ⟨rfl, rfl⟩
          clear cd
          go_wp2_with fail
          refine (cb _ HO.out).mono ?_
          rintro e w7 ⟨rfl, hb7⟩
          have p0 := (HR0.out.res.next hb7)
          have q0 : w7.cell? ⟨w.heap.size, 0, none⟩ = some (.int .i64 0) := p0.cell 0
          have q1 : w7.cell? ⟨w.heap.size, 1, none⟩ = some (.slice none 0 0) := p0.cell 1
          have qf := p0.free
          have HB7 : Hid (Below w.heap.size w w7) := HR0.out.low.trans (hb7.mono HR0.out.low.size)
          clear p0 hb7 cb o0 o1 of x0 x1
          go_wp2
          refine bodyPost_ret (v := .tuple #[.agg #[.int .i64 0, .slice none 0 0], .bool false]) (by simp [results, Try.results7, go_sem, q0, q1]) rfl ⟨⟨.slice none 0 0, by rw [HV.out], by rw [HV.out]; exact OwnO.nil _ _⟩, ?_⟩
          exact (HB7.out.setCell (Nat.le_refl _) _).setCell (Nat.le_refl _) _
        | true =>
          have HV : Hid (readB s = (true, q, os)) := HY.out hall hok
          rw [hok] at cb
          clear hall HN1 HN2 HY hok
          go_wp2_with fail
          refine cd.mono ?_
          rintro e w6 ⟨rfl, rfl⟩
          clear cd
          go_wp2_with fail
          refine (cb _ HO.out).mono ?_
          rintro e w7 ⟨rfl, hb7⟩
          have p0 := (HR0.out.res.next hb7)
          have q0 : w7.cell? ⟨w.heap.size, 0, none⟩ = some (.int .i64 0) := p0.cell 0
          have q1 : w7.cell? ⟨w.heap.size, 1, none⟩ = some (.slice none 0 0) := p0.cell 1
          have qf := p0.free
          have p1 := (HR0.out.bx.next hb7)
          have y0 : w7.cell? ⟨F, 0, none⟩ = some (.int .i64 q) := p1.cell 0
          have y1 : w7.cell? ⟨F, 1, none⟩ = some (.slice ar LN cap) := p1.cell 1
          have HB7 : Hid (Below w.heap.size w w7) := HR0.out.low.trans (hb7.mono HR0.out.low.size)
          have HOW : Hid (OwnO w7 (F + 1) (.slice ar LN cap) os) := own_next HR0.out.own hb7
          clear p0 p1 hb7 cb o0 o1 of x0 x1
          go_wp2
          refine bodyPost_ret (v := .tuple #[.agg #[.int .i64 q, .slice ar LN cap], .bool true]) (by simp [results, Try.results7, go_sem, q0, q1]) rfl ⟨⟨.slice ar LN cap, by rw [HV.out], ?_⟩, ?_⟩
          · rw [HV.out]
            refine own_mono (B := F + 1) (own_block HOW.out fun g hg hB => ?_) (by omega)
            have hne : g ≠ w.heap.size := by omega
            rw [Below.heap_setCell _ _ _ _ (by simpa using hne), Below.heap_setCell _ _ _ _ (by simpa using hne)]
          · exact (HB7.out.setCell (Nat.le_refl _) _).setCell (Nat.le_refl _) _

end Go.Proofs.Ytljmfdcilnbjaab
