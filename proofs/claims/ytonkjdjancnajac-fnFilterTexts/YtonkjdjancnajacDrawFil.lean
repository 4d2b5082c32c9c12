/- What the law on filters' texts draws: a filter. -/
import Derived.Test.YtonkjdjancnajacFilOf
namespace Go.Proofs.Ytonkjdjancnajac
set_option maxRecDepth 100000
open Go.RowKit Go.Deep

theorem FAt.put0 {w : World} {F : Nat} {kd sd pr : Int} {bs : ByteArray} (h : FAt w F kd sd pr bs) (y : Int) : FAt (w.setCell ⟨F, 0, none⟩ (.int .i64 y)) F y sd pr bs :=
  heap_setCell_same w F 0 _ _ (.int .i64 y) h
theorem FAt.put1 {w : World} {F : Nat} {kd sd pr : Int} {bs : ByteArray} (h : FAt w F kd sd pr bs) (y : Int) : FAt (w.setCell ⟨F, 1, none⟩ (.int .i64 y)) F kd y pr bs :=
  heap_setCell_same w F 1 _ _ (.int .i64 y) h
theorem FAt.put3 {w : World} {F : Nat} {kd sd pr : Int} {bs : ByteArray} (h : FAt w F kd sd pr bs) (y : ByteArray) : FAt (w.setCell ⟨F, 3, none⟩ (.string y)) F kd sd pr y :=
  heap_setCell_same w F 3 _ _ (.string y) h

/-- The filter that is drawn lies in block F, the answer's box is as it was laid. -/
structure FilS (W w : World) (a : Option Addr) (len cap g F : Nat) (k s p : Int) (b : ByteArray) (x : World) : Prop where
  f : FAt x F k s p b
  t : FAt x w.heap.size 0 0 0 ⟨#[]⟩
  r : Rd W x g a len cap
  m : Mv g w x
  n1 : w.heap.size < F
  n2 : g < w.heap.size
  n3 : W.heap.size ≤ w.heap.size

theorem FilS.call {W w : World} {a : Option Addr} {len cap g F : Nat} {k s p : Int} {b : ByteArray} {x y : World} (h : FilS W w a len cap g F k s p b x) (hr : Rd W y g a len cap) (hm : Mv g x y) : FilS W w a len cap g F k s p b y :=
  ⟨h.f.mv hm (by have := h.n1; have := h.n2; omega), h.t.mv hm (by have := h.n2; omega), hr, h.m.trans hm, h.n1, h.n2, h.n3⟩
theorem FilS.at {W w : World} {a : Option Addr} {len cap g F : Nat} {k s p : Int} {b : ByteArray} {x : World} (h : FilS W w a len cap g F k s p b x) (o : Nat) (v : Value) (k' s' p' : Int) (b' : ByteArray) (hf : FAt (x.setCell ⟨F, o, none⟩ v) F k' s' p' b') : FilS W w a len cap g F k' s' p' b' (x.setCell ⟨F, o, none⟩ v) := by
  have h1 := h.n1
  have h2 := h.n2
  have h3 := h.n3
  exact ⟨hf, h.t.other F o v (by omega), h.r.put F o v (by omega) (by omega), mv_below h.m ((Below.refl _ _).setCell (p := ⟨F, o, none⟩) (show w.heap.size ≤ F by omega) _), h1, h2, h3⟩

set_option maxHeartbeats 4000000 in
set_option maxRecDepth 100000 in
theorem rd_filter (W w : World) (g : Nat) (a : Option Addr) (len cap : Nat) (hc : IsCode W a len) (hl : len ≤ 1048576) (h : Rd W w g a len cap) :
    Calls Try.prog 30 #[.pointer (some ⟨g, 0, none⟩)] w fun e w' => ∃ (k s p : Int) (b : ByteArray), e = .returned (.agg #[.int .i64 k, .int .i64 s, .int .i64 p, .string b]) ∧ b.size ≤ 1003 ∧ Rd W w' g a len cap ∧ Mv g w w' := by
  have hg := h.lt
  have hle : w.heap.size ≤ w.heap.size := Nat.le_refl _
  have hWw : W.heap.size ≤ w.heap.size := h.low.size
  have hb0 := (Below.refl w.heap.size w).alloc (Nat.le_refl _) (.cells (fCells 0 0 0 ⟨#[]⟩) 36)
  have HT0 := hide (FAt.new w 0 0 0 ⟨#[]⟩)
  have HR0 := hide (h.keep hb0 hg)
  have HM0 := hide (Mv.of_below (g := g) hb0)
  have hlt0 : w.heap.size < (w.alloc (.cells (fCells 0 0 0 ⟨#[]⟩) 36)).heap.size := by simp
  clear h hb0
  go_enter Try.func30, Try.ntmps30
  go_wp2_with fail
  generalize w.alloc (.cells (fCells 0 0 0 ⟨#[]⟩) 36) = W0 at HT0 HR0 HM0 hlt0 ⊢
  refine (rd_users W _ _ a len cap 14 (by omega) (by omega) hc hl HR0.out).mono ?_
  rintro e w2 ⟨v, xs, rfl, hx, hxx, hown, hr2, hm2⟩
  have HT2 := hide (HT0.out.mv hm2 (by omega))
  have HM2 := hide (HM0.out.trans hm2)
  have HR2 := hide hr2
  have HO := hide hown
  have HX := hide hx
  have hlt2 : W0.heap.size ≤ w2.heap.size := hm2.size
  clear hr2 hm2 hown hx HT0 HM0 HR0
  go_wp2_with fail
  refine (rd_below W _ _ a len cap 3 (by omega) (by omega) hc hl HR2.out).mono ?_
  rintro e w3 ⟨x, rfl, hx0, hx1, hr3, hm3⟩
  have hown : OwnS w3 W0.heap.size v xs := own_mv HO.out hm3 (by omega)
  have HT3 := hide (HT2.out.mv hm3 (by omega))
  have HM3 := hide (HM2.out.trans hm3)
  have HR3 := hide hr3
  have hlt3 : w2.heap.size ≤ w3.heap.size := hm3.size
  obtain ⟨va, vc, hv, hS, hcap, _⟩ := hown.strs
  have hn15 : xs.length ≤ 15 := by have := HX.out; omega
  have HS := hide hS
  subst hv
  obtain ⟨kd, rfl⟩ := Int.eq_ofNat_of_zero_le hx0
  clear hr3 hm3 hown hS HO HX HT2 HM2 HR2
  go_wp2_with fail
  refine (spec_FilterOf_ends va xs.length vc _ kd w3 (by omega) (by omega) HS.out).mono ?_
  rintro e w4 ⟨k, s, p, b, ok, rfl, hb, hb4⟩
  have HBZ := hide hb
  have hb5 := hb4.trans (((Below.refl w4.heap.size w4).alloc (Nat.le_refl _) (.cells (fCells k s p b) 36)).mono hb4.size)
  have hw34 := hb4.size
  have H5 : Hid (FilS W w a len cap g w4.heap.size k s p b (w4.alloc (.cells (fCells k s p b) 36))) :=
    ⟨FAt.new w4 k s p b, HT3.out.below hb5, HR3.out.keep hb5 (by omega), mv_below HM3.out (hb5.mono (by omega)), by omega, hg, hWw⟩
  clear hb hb4 hb5 HT3 HM3 HR3 HS
  go_wp2_with fail
  generalize w4.alloc (.cells (fCells k s p b) 36) = W5 at H5 ⊢
  obtain ⟨F, hF⟩ : ∃ F, w4.heap.size = F := ⟨_, rfl⟩
  rw [hF] at H5 ⊢
  clear hF hw34 hlt3 hlt2 hlt0
  refine (rd_below W _ _ a len cap 20 (by omega) (by omega) hc hl H5.out.r).mono ?_
  rintro e w6 ⟨x, rfl, hx0, hx1, hr6, hm6⟩
  have H6 := hide (H5.out.call hr6 hm6)
  clear hr6 hm6 H5
  have hxc : x = 0 ∨ x = 1 ∨ x = 2 ∨ 3 ≤ x := by omega
  rcases hxc with rfl | rfl | rfl | hx3
  · go_wp2_with fail
    refine (rd_off W _ _ a len cap 0 3 (by omega) (by omega) (by omega) hc hl H6.out.r).mono ?_
    rintro e w7 ⟨y, rfl, hy0, hy1, hr7, hm7⟩
    have h7 := H6.out.call hr7 hm7
    have z1 : w7.frozen? ⟨F, 1, none⟩ = false := frozen_of_row _ _ _ _ _ h7.f
    obtain ⟨e0, e1, e2, e3⟩ := h7.f.cells
    obtain ⟨q0, q1, q2, q3⟩ := h7.t.cells
    have y0 : w7.frozen? ⟨w.heap.size, 0, none⟩ = false := frozen_of_row _ _ _ _ _ h7.t
    have hne : ¬ w.heap.size = F := by have := h7.n1; omega
    have HF := hide (h7.at 1 (.int .i64 y) k y p b (h7.f.put1 y))
    clear hr7 hm7 H6 h7
    clear q0 q1 q2 q3 y0
    have h := HF.out
    obtain ⟨d0, d1, d2, d3⟩ := h.f.cells
    obtain ⟨k0, k1, k2, k3⟩ := h.t.cells
    have f0 : (w7.setCell ⟨F, 1, none⟩ (.int .i64 y)).frozen? ⟨w.heap.size, 0, none⟩ = false := frozen_of_row _ _ _ _ _ h.t
    have f1 : (w7.setCell ⟨F, 1, none⟩ (.int .i64 y)).frozen? ⟨w.heap.size, 1, none⟩ = false := frozen_of_row _ _ _ _ _ h.t
    have f2 : (w7.setCell ⟨F, 1, none⟩ (.int .i64 y)).frozen? ⟨w.heap.size, 2, none⟩ = false := frozen_of_row _ _ _ _ _ h.t
    have f3 : (w7.setCell ⟨F, 1, none⟩ (.int .i64 y)).frozen? ⟨w.heap.size, 3, none⟩ = false := frozen_of_row _ _ _ _ _ h.t
    obtain ⟨c0, c1, c2, c3⟩ := (h.t.set k y p b).cells
    have C0 := hide c0
    have C1 := hide c1
    have C2 := hide c2
    have C3 := hide c3
    clear c0 c1 c2 c3 h
    go_wp2
    refine bodyPost_ret (v := .agg #[.int .i64 k, .int .i64 y, .int .i64 p, .string b]) (by simp [results, Try.results30, go_sem, C0.out, C1.out, C2.out, C3.out]) rfl ?_
    exact ⟨k, y, p, b, rfl, (by have := HBZ.out; omega), HF.out.r.keep (((((Below.refl _ _).setCell hle _).setCell hle _).setCell hle _).setCell hle _) hg, mv_below HF.out.m (((((Below.refl _ _).setCell hle _).setCell hle _).setCell hle _).setCell hle _)⟩
  · have hb6 := HBZ.out
    have hstart : FilS W w a len cap g F k s p b w6.drew := ⟨H6.out.f, H6.out.t, H6.out.r.drewN 1, H6.out.m.drewN 1, H6.out.n1, H6.out.n2, H6.out.n3⟩
    clear H6
    go_wp2_with fail
    refine wp_region_noPanic ?_
    refine wp_region_held_drew (S := (fun (w' : World) => ∃ s', FilS W w a len cap g F k s p s' w')) (by kernel_rfl) ⟨b, hstart⟩ (fun hH => ?_)
    generalize w6.drew = Wd at *
    refine wpAnyH_take (i := 0) (v := .pointer (some ⟨F, 3, none⟩)) nat0 (by kernel_rfl) (by kernel_rfl) (by kernel_rfl) (fun _ _ _ h => False.elim h) (Or.inl ⟨by rfl, ?_⟩) hH ?_
    · intro wx hSw
      go_simp
    simp only [Act.put, List.setIfInBounds_toArray, List.set_cons_zero, List.set_cons_succ]
    refine wpAnyH_take (i := 2) (v := .pointer (some ⟨g, 0, none⟩)) nat2 (by kernel_rfl) (by kernel_rfl) (by kernel_rfl) (fun _ _ _ h => False.elim h) (Or.inl ⟨by rfl, ?_⟩) hH ?_
    · intro wx hSw
      go_simp
    simp only [Act.put, List.setIfInBounds_toArray, List.set_cons_zero, List.set_cons_succ]
    refine wpAnyH_ready (rs := [1, 3]) (by kernel_rfl) (by simp) ?_
    refine AllReadyH.cons nat1 (fun K hK => ?_) (AllReadyH.cons nat3 (fun K hK => ?_) AllReadyH.nil)
    · obtain ⟨e0, e1, e2, e3⟩ := hstart.f.cells
      go_simp
      refine hK.out _ _ ⟨b, hstart⟩ (fun hH2 => ?_)
      clear hK K hH
      refine wpAnyH_ready (rs := [3]) (by kernel_rfl) (by simp) ?_
      refine AllReadyH.cons nat3 (fun K hK => ?_) AllReadyH.nil
      go_simp
      go_at_call 41
      refine (rd_bytes W _ g a len cap 3 (by omega) (by omega) hc hl hstart.r).mono ?_
      rintro e w8 ⟨u, rfl, hu, hr8, hm8⟩
      have h8 := hstart.call hr8 hm8
      refine hK.out _ _ ⟨b, h8⟩ (fun hH8 => ?_)
      clear hK K hr8 hm8 hstart e0 e1 e2 e3 hH2
      have hu3 : u.size ≤ 3 := by omega
      have hsum : b.size + u.size ≤ maxLen := by unfold maxLen; omega
      have hjz : (b ++ u).size ≤ 1003 := by rw [ByteArray.size_append]; omega
      refine wpAnyH_take (i := 4) (v := .string (b ++ u)) nat4 (by kernel_rfl) (by kernel_rfl) (by kernel_rfl) (fun _ _ _ h => False.elim h) (Or.inl ⟨by rfl, ?_⟩) hH8 ?_
      · intro wx hSw
        go_simp
        omega
      simp only [Act.put, List.setIfInBounds_toArray, List.set_cons_zero, List.set_cons_succ]
      refine wpAnyH_take (i := 5) (v := .pointer (some ⟨F, 3, none⟩)) nat5 (by kernel_rfl) (by kernel_rfl) (by kernel_rfl) (fun _ _ _ h => False.elim h) (Or.inl ⟨by rfl, ?_⟩) hH8 ?_
      · intro wx hSw
        go_simp
      simp only [Act.put, List.setIfInBounds_toArray, List.set_cons_zero, List.set_cons_succ]
      refine wpAnyH_ready (rs := [6]) (by kernel_rfl) (by simp) ?_
      refine AllReadyH.cons nat6 (fun K hK => ?_) AllReadyH.nil
      have h9 := h8.at 3 (.string (b ++ u)) k s p (b ++ u) (h8.f.put3 (b ++ u))
      obtain ⟨e0, e1, e2, e3⟩ := h8.f.cells
      have z3 : w8.frozen? ⟨F, 3, none⟩ = false := frozen_of_row _ _ _ _ _ h8.f
      go_simp
      refine hK.out _ _ ⟨_, h9⟩ (fun _ => ?_)
      clear hK K hH8 e0 e1 e2 e3 z3 h8
      refine wpAnyH_done (by kernel_rfl) ?_ _
      refine NoPanic.normal ?_
      generalize w8.setCell ⟨F, 3, none⟩ (.string (b ++ u)) = W9 at h9 ⊢
      generalize b ++ u = b9 at *
      have HF := hide h9
      have HZ9 := hide hjz
      clear h9 hsum hjz
      have h := HF.out
      obtain ⟨d0, d1, d2, d3⟩ := h.f.cells
      obtain ⟨k0, k1, k2, k3⟩ := h.t.cells
      have f0 : W9.frozen? ⟨w.heap.size, 0, none⟩ = false := frozen_of_row _ _ _ _ _ h.t
      have f1 : W9.frozen? ⟨w.heap.size, 1, none⟩ = false := frozen_of_row _ _ _ _ _ h.t
      have f2 : W9.frozen? ⟨w.heap.size, 2, none⟩ = false := frozen_of_row _ _ _ _ _ h.t
      have f3 : W9.frozen? ⟨w.heap.size, 3, none⟩ = false := frozen_of_row _ _ _ _ _ h.t
      obtain ⟨c0, c1, c2, c3⟩ := (h.t.set k s p b9).cells
      have C0 := hide c0
      have C1 := hide c1
      have C2 := hide c2
      have C3 := hide c3
      clear c0 c1 c2 c3 h
      go_wp2
      refine bodyPost_ret (v := .agg #[.int .i64 k, .int .i64 s, .int .i64 p, .string b9]) (by simp [results, Try.results30, go_sem, C0.out, C1.out, C2.out, C3.out]) rfl ?_
      exact ⟨k, s, p, b9, rfl, HZ9.out, HF.out.r.keep (((((Below.refl _ _).setCell hle _).setCell hle _).setCell hle _).setCell hle _) hg, mv_below HF.out.m (((((Below.refl _ _).setCell hle _).setCell hle _).setCell hle _).setCell hle _)⟩
    · go_simp
      go_at_call 41
      refine (rd_bytes W _ g a len cap 3 (by omega) (by omega) hc hl hstart.r).mono ?_
      rintro e w8 ⟨u, rfl, hu, hr8, hm8⟩
      have h8 := hstart.call hr8 hm8
      refine hK.out _ _ ⟨b, h8⟩ (fun hH2 => ?_)
      clear hK K hr8 hm8 hstart hH
      refine wpAnyH_ready (rs := [1]) (by kernel_rfl) (by simp) ?_
      refine AllReadyH.cons nat1 (fun K hK => ?_) AllReadyH.nil
      obtain ⟨e0, e1, e2, e3⟩ := h8.f.cells
      go_simp
      refine hK.out _ _ ⟨b, h8⟩ (fun hH8 => ?_)
      clear hK K hH2 e0 e1 e2 e3
      have hu3 : u.size ≤ 3 := by omega
      have hsum : b.size + u.size ≤ maxLen := by unfold maxLen; omega
      have hjz : (b ++ u).size ≤ 1003 := by rw [ByteArray.size_append]; omega
      refine wpAnyH_take (i := 4) (v := .string (b ++ u)) nat4 (by kernel_rfl) (by kernel_rfl) (by kernel_rfl) (fun _ _ _ h => False.elim h) (Or.inl ⟨by rfl, ?_⟩) hH8 ?_
      · intro wx hSw
        go_simp
        omega
      simp only [Act.put, List.setIfInBounds_toArray, List.set_cons_zero, List.set_cons_succ]
      refine wpAnyH_take (i := 5) (v := .pointer (some ⟨F, 3, none⟩)) nat5 (by kernel_rfl) (by kernel_rfl) (by kernel_rfl) (fun _ _ _ h => False.elim h) (Or.inl ⟨by rfl, ?_⟩) hH8 ?_
      · intro wx hSw
        go_simp
      simp only [Act.put, List.setIfInBounds_toArray, List.set_cons_zero, List.set_cons_succ]
      refine wpAnyH_ready (rs := [6]) (by kernel_rfl) (by simp) ?_
      refine AllReadyH.cons nat6 (fun K hK => ?_) AllReadyH.nil
      have h9 := h8.at 3 (.string (b ++ u)) k s p (b ++ u) (h8.f.put3 (b ++ u))
      obtain ⟨e0, e1, e2, e3⟩ := h8.f.cells
      have z3 : w8.frozen? ⟨F, 3, none⟩ = false := frozen_of_row _ _ _ _ _ h8.f
      go_simp
      refine hK.out _ _ ⟨_, h9⟩ (fun _ => ?_)
      clear hK K hH8 e0 e1 e2 e3 z3 h8
      refine wpAnyH_done (by kernel_rfl) ?_ _
      refine NoPanic.normal ?_
      generalize w8.setCell ⟨F, 3, none⟩ (.string (b ++ u)) = W9 at h9 ⊢
      generalize b ++ u = b9 at *
      have HF := hide h9
      have HZ9 := hide hjz
      clear h9 hsum hjz
      have h := HF.out
      obtain ⟨d0, d1, d2, d3⟩ := h.f.cells
      obtain ⟨k0, k1, k2, k3⟩ := h.t.cells
      have f0 : W9.frozen? ⟨w.heap.size, 0, none⟩ = false := frozen_of_row _ _ _ _ _ h.t
      have f1 : W9.frozen? ⟨w.heap.size, 1, none⟩ = false := frozen_of_row _ _ _ _ _ h.t
      have f2 : W9.frozen? ⟨w.heap.size, 2, none⟩ = false := frozen_of_row _ _ _ _ _ h.t
      have f3 : W9.frozen? ⟨w.heap.size, 3, none⟩ = false := frozen_of_row _ _ _ _ _ h.t
      obtain ⟨c0, c1, c2, c3⟩ := (h.t.set k s p b9).cells
      have C0 := hide c0
      have C1 := hide c1
      have C2 := hide c2
      have C3 := hide c3
      clear c0 c1 c2 c3 h
      go_wp2
      refine bodyPost_ret (v := .agg #[.int .i64 k, .int .i64 s, .int .i64 p, .string b9]) (by simp [results, Try.results30, go_sem, C0.out, C1.out, C2.out, C3.out]) rfl ?_
      exact ⟨k, s, p, b9, rfl, HZ9.out, HF.out.r.keep (((((Below.refl _ _).setCell hle _).setCell hle _).setCell hle _).setCell hle _) hg, mv_below HF.out.m (((((Below.refl _ _).setCell hle _).setCell hle _).setCell hle _).setCell hle _)⟩
  · go_wp2_with fail
    refine (rd_off W _ _ a len cap 0 2 (by omega) (by omega) (by omega) hc hl H6.out.r).mono ?_
    rintro e w7 ⟨y, rfl, hy0, hy1, hr7, hm7⟩
    have h7 := H6.out.call hr7 hm7
    have z1 : w7.frozen? ⟨F, 0, none⟩ = false := frozen_of_row _ _ _ _ _ h7.f
    obtain ⟨e0, e1, e2, e3⟩ := h7.f.cells
    have HF := hide (h7.at 0 (.int .i64 y) y s p b (h7.f.put0 y))
    clear hr7 hm7 H6 h7
    have h := HF.out
    obtain ⟨d0, d1, d2, d3⟩ := h.f.cells
    obtain ⟨k0, k1, k2, k3⟩ := h.t.cells
    have f0 : (w7.setCell ⟨F, 0, none⟩ (.int .i64 y)).frozen? ⟨w.heap.size, 0, none⟩ = false := frozen_of_row _ _ _ _ _ h.t
    have f1 : (w7.setCell ⟨F, 0, none⟩ (.int .i64 y)).frozen? ⟨w.heap.size, 1, none⟩ = false := frozen_of_row _ _ _ _ _ h.t
    have f2 : (w7.setCell ⟨F, 0, none⟩ (.int .i64 y)).frozen? ⟨w.heap.size, 2, none⟩ = false := frozen_of_row _ _ _ _ _ h.t
    have f3 : (w7.setCell ⟨F, 0, none⟩ (.int .i64 y)).frozen? ⟨w.heap.size, 3, none⟩ = false := frozen_of_row _ _ _ _ _ h.t
    obtain ⟨c0, c1, c2, c3⟩ := (h.t.set y s p b).cells
    have C0 := hide c0
    have C1 := hide c1
    have C2 := hide c2
    have C3 := hide c3
    clear c0 c1 c2 c3 h
    go_wp2
    refine bodyPost_ret (v := .agg #[.int .i64 y, .int .i64 s, .int .i64 p, .string b]) (by simp [results, Try.results30, go_sem, C0.out, C1.out, C2.out, C3.out]) rfl ?_
    exact ⟨y, s, p, b, rfl, (by have := HBZ.out; omega), HF.out.r.keep (((((Below.refl _ _).setCell hle _).setCell hle _).setCell hle _).setCell hle _) hg, mv_below HF.out.m (((((Below.refl _ _).setCell hle _).setCell hle _).setCell hle _).setCell hle _)⟩
  · have g0 : (x == 0) = false := by simp; omega
    have g1 : (x == 1) = false := by simp; omega
    have g2 : (x == 2) = false := by simp; omega
    have HF := H6
    clear H6
    have h := HF.out
    obtain ⟨d0, d1, d2, d3⟩ := h.f.cells
    obtain ⟨k0, k1, k2, k3⟩ := h.t.cells
    have f0 : w6.frozen? ⟨w.heap.size, 0, none⟩ = false := frozen_of_row _ _ _ _ _ h.t
    have f1 : w6.frozen? ⟨w.heap.size, 1, none⟩ = false := frozen_of_row _ _ _ _ _ h.t
    have f2 : w6.frozen? ⟨w.heap.size, 2, none⟩ = false := frozen_of_row _ _ _ _ _ h.t
    have f3 : w6.frozen? ⟨w.heap.size, 3, none⟩ = false := frozen_of_row _ _ _ _ _ h.t
    obtain ⟨c0, c1, c2, c3⟩ := (h.t.set k s p b).cells
    have C0 := hide c0
    have C1 := hide c1
    have C2 := hide c2
    have C3 := hide c3
    clear c0 c1 c2 c3 h
    go_wp2
    refine bodyPost_ret (v := .agg #[.int .i64 k, .int .i64 s, .int .i64 p, .string b]) (by simp [results, Try.results30, go_sem, C0.out, C1.out, C2.out, C3.out]) rfl ?_
    exact ⟨k, s, p, b, rfl, (by have := HBZ.out; omega), HF.out.r.keep (((((Below.refl _ _).setCell hle _).setCell hle _).setCell hle _).setCell hle _) hg, mv_below HF.out.m (((((Below.refl _ _).setCell hle _).setCell hle _).setCell hle _).setCell hle _)⟩

end Go.Proofs.Ytonkjdjancnajac
