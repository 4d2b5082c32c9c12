/- What the law on more users of a Bloom filter draws besides. -/
import Derived.Test.YtkopoonkedcpmacLBlooms
import Derived.Test.YtkopoonkedcpmacLBloomOf
namespace Go.Proofs.Ytkopoonkedcpmac
open Go.RowKit Go.Deep

theorem FAt.set {w : World} {F : Nat} {kd sd pr : Int} {bs : ByteArray} (h : FAt w F kd sd pr bs) (k' s' p' : Int) (b' : ByteArray) :
    FAt ((((w.setCell ⟨F, 0, none⟩ (.int .i64 k')).setCell ⟨F, 1, none⟩ (.int .i64 s')).setCell ⟨F, 2, none⟩ (.int .i64 p')).setCell ⟨F, 3, none⟩ (.string b')) F k' s' p' b' := by
  have h0 := heap_setCell_same w F 0 _ _ (.int .i64 k') h
  have h1 := heap_setCell_same _ F 1 _ _ (.int .i64 s') h0
  have h2 := heap_setCell_same _ F 2 _ _ (.int .i64 p') h1
  exact heap_setCell_same _ F 3 _ _ (.string b') h2

theorem FAt.set2 {w : World} {F : Nat} {kd sd pr : Int} {bs : ByteArray} (h : FAt w F kd sd pr bs) (p' : Int) : FAt (w.setCell ⟨F, 2, none⟩ (.int .i64 p')) F kd sd p' bs :=
  heap_setCell_same w F 2 _ _ (.int .i64 p') h

theorem FAt.other {w : World} {F : Nat} {kd sd pr : Int} {bs : ByteArray} (h : FAt w F kd sd pr bs) (g o : Nat) (v : Value) (hg : g ≠ F) : FAt (w.setCell ⟨g, o, none⟩ v) F kd sd pr bs := by
  unfold FAt; rw [heap_setCell_other _ _ _ _ (by simpa using hg.symm)]; exact h

theorem FAt.mv {w w' : World} {F g : Nat} {kd sd pr : Int} {bs : ByteArray} (h : FAt w F kd sd pr bs) (hm : Mv g w w') (hg : F ≠ g) : FAt w' F kd sd pr bs := (hm.block F h.lt hg).trans h

/-- The reader stays where another block is written. -/
theorem Rd.put {W w : World} {g : Nat} {a : Option Addr} {len cap : Nat} (h : Rd W w g a len cap) (T o : Nat) (v : Value) (h1 : T ≠ g) (h2 : W.heap.size ≤ T) : Rd W (w.setCell ⟨T, o, none⟩ v) g a len cap := by
  obtain ⟨hnew, hlt, hlow, h0, ⟨p, hp, hp1⟩, hf⟩ := h
  have hblk : (w.setCell ⟨T, o, none⟩ v).heap[g]? = w.heap[g]? := heap_setCell_other _ _ _ _ (by simpa using h1.symm)
  refine ⟨hnew, by simpa [World.setCell] using hlt, hlow.setCell h2 _, ?_, ⟨p, hp, ?_⟩, ?_⟩
  · rw [World.cell?_of_block (a := ⟨g, 0, none⟩) hblk]; exact h0
  · rw [World.cell?_of_block (a := ⟨g, 1, none⟩) hblk]; exact hp1
  · rw [World.frozen?_of_block (a := ⟨g, 1, none⟩) hblk]; exact hf

structure MayS (W w : World) (a : Option Addr) (len cap T g F : Nat) (k s p : Int) (b : ByteArray) (w' : World) : Prop where
  f : FAt w' F k s p b
  t : ∃ k s p b, FAt w' T k s p b
  r : Rd W w' g a len cap
  low : Below w.heap.size w w'
  n1 : T ≠ g
  n2 : F ≠ g
  n3 : T ≠ F
  n4 : W.heap.size ≤ T
  n5 : w.heap.size ≤ T

theorem MayS.call {W w : World} {a : Option Addr} {len cap T g F : Nat} {k s p : Int} {b : ByteArray} {x y : World} (h : MayS W w a len cap T g F k s p b x) (hr : Rd W y g a len cap) (hm : Mv g x y) (hg : w.heap.size ≤ g) : MayS W w a len cap T g F k s p b y :=
  ⟨h.f.mv hm h.n2, by obtain ⟨k', s', p', b', ht⟩ := h.t; exact ⟨k', s', p', b', ht.mv hm h.n1⟩, hr, h.low.trans (hm.below h.low.size hg), h.n1, h.n2, h.n3, h.n4, h.n5⟩

theorem MayS.store {W w : World} {a : Option Addr} {len cap T g F : Nat} {k s p : Int} {b : ByteArray} {x : World} (h : MayS W w a len cap T g F k s p b x) :
    MayS W w a len cap T g F k s p b ((((x.setCell ⟨T, 0, none⟩ (.int .i64 k)).setCell ⟨T, 1, none⟩ (.int .i64 s)).setCell ⟨T, 2, none⟩ (.int .i64 p)).setCell ⟨T, 3, none⟩ (.string b)) :=
  ⟨(((h.f.other T 0 _ h.n3).other T 1 _ h.n3).other T 2 _ h.n3).other T 3 _ h.n3, by obtain ⟨k', s', p', b', ht⟩ := h.t; exact ⟨k, s, p, b, ht.set k s p b⟩,
    (((h.r.put T 0 _ h.n1 h.n4).put T 1 _ h.n1 h.n4).put T 2 _ h.n1 h.n4).put T 3 _ h.n1 h.n4,
    (((h.low.setCell h.n5 _).setCell h.n5 _).setCell h.n5 _).setCell h.n5 _, h.n1, h.n2, h.n3, h.n4, h.n5⟩

theorem MayS.cells {W w : World} {a : Option Addr} {len cap T g F : Nat} {k s p : Int} {b : ByteArray} {x : World} (h : MayS W w a len cap T g F k s p b x) :
    ∃ k s p b, (x.cell? ⟨T, 0, none⟩ = some (.int .i64 k) ∧ x.cell? ⟨T, 1, none⟩ = some (.int .i64 s) ∧ x.cell? ⟨T, 2, none⟩ = some (.int .i64 p) ∧ x.cell? ⟨T, 3, none⟩ = some (.string b)) ∧ (x.frozen? ⟨T, 0, none⟩ = false ∧ x.frozen? ⟨T, 1, none⟩ = false ∧ x.frozen? ⟨T, 2, none⟩ = false ∧ x.frozen? ⟨T, 3, none⟩ = false) := by
  obtain ⟨k, s, p, b, ht⟩ := h.t
  exact ⟨k, s, p, b, ht.cells, frozen_of_row _ _ _ _ _ ht, frozen_of_row _ _ _ _ _ ht, frozen_of_row _ _ _ _ _ ht, frozen_of_row _ _ _ _ _ ht⟩

set_option maxHeartbeats 2000000 in
set_option maxRecDepth 100000 in
theorem draw_BloomMay (W w : World) (a : Option Addr) (len cap : Nat) (hc : IsCode W a len) (hl : len ≤ 1048576) (hb : Below W.heap.size W w) :
    Calls Try.prog 17 #[.slice a len cap] w fun e w' => ∃ k s p b u, e = .returned (.tuple #[.agg #[.int .i64 k, .int .i64 s, .int .i64 p, .string b], .string u]) ∧ u.size ≤ 4 ∧ Below w.heap.size w w' := by
  have hbT := (Below.refl w.heap.size w).alloc (Nat.le_refl _) (.cells #[.int .i64 0, .int .i64 0, .int .i64 0, .string ⟨#[]⟩] 25)
  have hbW := hb.alloc hb.size (.cells #[.int .i64 0, .int .i64 0, .int .i64 0, .string ⟨#[]⟩] 25)
  have hT := FAt.new w 0 0 0 ⟨#[]⟩
  have hsz0 : (w.alloc (.cells #[.int .i64 0, .int .i64 0, .int .i64 0, .string ⟨#[]⟩] 25)).heap.size = w.heap.size + 1 := by simp
  have hWT := hb.size
  go_enter Try.func17, Try.ntmps17
  go_wp2_with fail
  obtain ⟨W0, hW0⟩ : ∃ W0, w.alloc (.cells #[.int .i64 0, .int .i64 0, .int .i64 0, .string ⟨#[]⟩] 25) = W0 := ⟨_, rfl⟩
  have hT : FAt W0 w.heap.size 0 0 0 ⟨#[]⟩ := by rw [← hW0]; exact hT
  rw [hW0] at hbT hbW hsz0 ⊢
  clear hW0
  refine (open_rdB _ a len cap W hbW).mono ?_
  rintro e w1 ⟨rfl, hr, hb1⟩
  obtain ⟨g, hg⟩ : ∃ g, W0.heap.size = g := ⟨_, rfl⟩
  rw [hg] at hr hsz0 ⊢
  have hgT : w.heap.size < g := by omega
  have hT1 := hT.below hb1
  have hb1' := hbT.trans (hb1.mono (by omega))
  have hglt := hr.lt
  clear hb1 hT hbT hbW hg hsz0
  have HT1 := hide hT1
  have HB1 := hide hb1'
  clear hT1 hb1'
  go_wp2_with fail
  refine (rd_users W _ _ a len cap 12 (by omega) (by omega) hc hl hr).mono ?_
  rintro e w2 ⟨v, xs, rfl, hx, hxx, hown, hr2, hm2⟩
  have HT2 := hide (HT1.out.mv hm2 (by omega))
  have HB2 := hide (HB1.out.trans (hm2.below HB1.out.size (by omega)))
  have HR2 := hide hr2
  have HX := hide hx
  have HO := hide hown
  clear hr hx hr2 hm2 hown HT1 HB1
  go_wp2_with fail
  refine (rd_near W _ g a len cap 0 19 (by omega) (by omega) (by omega) hc hl HR2.out).mono ?_
  rintro e w3 ⟨x, rfl, hx0, hx1, hr3, hm3⟩
  have hown : OwnS w3 w1.heap.size v xs := own_mv HO.out hm3 hglt
  have HT3 := hide (HT2.out.mv hm3 (by omega))
  have HB3 := hide (HB2.out.trans (hm3.below HB2.out.size (by omega)))
  have HR3 := hide hr3
  obtain ⟨va, vc, hv, hS, hcap, hform⟩ := hown.strs
  have hn13 : xs.length ≤ 13 := by have := HX.out; omega
  have hgl3 := hr3.lt
  clear hr3 hm3 HT2 HB2 HR2 HO hown hform HX
  subst hv
  obtain ⟨fk, fs, fp, fb, ok, hfo⟩ := bloomV_form (fun i => xs.getD i ⟨#[]⟩) xs.length (1 + x)
  have cs := fun (wx : World) (hs : StrAt wx wx.heap.size va xs.length (fun i => xs.getD i ⟨#[]⟩)) => hfo ▸ spec_BloomOf va xs.length vc (fun i => xs.getD i ⟨#[]⟩) (1 + x) wx (by omega) hs
  have HS := hide hS
  clear hS hfo
  go_wp2_with fail
  refine (cs _ HS.out).mono ?_
  rintro e w4 ⟨rfl, hb4⟩
  have hsz4 := hb4.size
  have hb5 := hb4.trans ((Below.refl w4.heap.size w4).alloc (Nat.le_refl _) (.cells #[.int .i64 fk, .int .i64 fs, .int .i64 fp, .string fb] 25) |>.mono hb4.size)
  have HT5 := hide (HT3.out.below hb5)
  have HR5 := hide (HR3.out.keep hb5 hgl3)
  have HB5 := hide (HB3.out.trans (hb5.mono HB3.out.size))
  have HF5 := hide (FAt.new w4 fk fs fp fb)
  clear cs HS hb4 hb5 HT3 HR3 HB3
  go_wp2_with fail
  generalize w4.alloc (.cells #[.int .i64 fk, .int .i64 fs, .int .i64 fp, .string fb] 25) = W5 at HT5 HR5 HB5 HF5 ⊢
  obtain ⟨F, hF⟩ : ∃ F, w4.heap.size = F := ⟨_, rfl⟩
  rw [hF] at hsz4 HF5 ⊢
  clear hF
  refine (rd_once W _ g a len cap 12 (by omega) (by omega) hc hl HR5.out).mono ?_
  rintro e w6 ⟨bo, rfl, hr6, hm6⟩
  have H6 := hide (MayS.call ⟨HF5.out, ⟨_, _, _, _, HT5.out⟩, HR5.out, HB5.out, by omega, by omega, by omega, hWT, Nat.le_refl _⟩ hr6 hm6 (by omega))
  clear hr6 hm6 HT5 HR5 HB5 HF5
  cases bo with
  | true =>
    go_wp2_with fail
    refine (rd_off W _ g a len cap 1 30 (by omega) (by omega) (by omega) hc hl H6.out.r).mono ?_
    rintro e w7 ⟨y, rfl, hy0, hy1, hr7, hm7⟩
    have h7 := H6.out.call hr7 hm7 (by omega)
    obtain ⟨hc0, hc1, hc2, hc3⟩ := h7.f.cells
    have hfz : w7.frozen? ⟨F, 2, none⟩ = false := frozen_of_row _ _ _ _ _ h7.f
    have HZ : Hid (MayS W w a len cap w.heap.size g F fk fs y fb (w7.setCell ⟨F, 2, none⟩ (.int .i64 y))) :=
      ⟨h7.f.set2 y, by obtain ⟨k', s', p', b', ht⟩ := h7.t; exact ⟨k', s', p', b', ht.other F 2 _ h7.n3.symm⟩, h7.r.put F 2 _ h7.n2 (by omega), h7.low.setCell (p := ⟨F, 2, none⟩) (show w.heap.size ≤ F by omega) _, h7.n1, h7.n2, h7.n3, h7.n4, h7.n5⟩
    clear h7 hr7 hm7 H6
    go_wp2_with fail
    generalize w7.setCell ⟨F, 2, none⟩ (.int .i64 y) = WZ at HZ ⊢
    clear hc0 hc1 hc2 hc3 hfz
    have hstart : MayS W w a len cap w.heap.size g F fk fs y fb WZ.drew := by
      have h := HZ.out
      exact ⟨h.f, h.t, h.r.drewN 1, h.low.drew, h.n1, h.n2, h.n3, h.n4, h.n5⟩
    clear HZ
    refine wp_region_noPanic ?_
    refine wp_region_held_drew (S := (fun (w' : World) => MayS W w a len cap w.heap.size g F fk fs y fb w')) (by kernel_rfl) hstart (fun hH => ?_)
    clear hstart
    generalize WZ.drew = Wd at *
    refine wpAnyH_take (i := 0) (v := .agg (fCells fk fs y fb)) nat0 (by kernel_rfl) (by kernel_rfl) (by kernel_rfl) (fun _ _ _ h => False.elim h) (Or.inl ⟨by rfl, ?_⟩) hH ?_
    · intro wx hSw
      exact exec_load_row wx _ _ 25 _ rfl F rfl 25 (fCells fk fs y fb) (0, 0) _ hSw.f Try.underlying25 rfl (filter_size fk fs y fb)
    simp only [Act.put, List.setIfInBounds_toArray, List.set_cons_zero, List.set_cons_succ]
    refine wpAnyH_take (i := 1) (v := .pointer (some ⟨g, 0, none⟩)) nat1 (by kernel_rfl) (by kernel_rfl) (by kernel_rfl) (fun _ _ _ h => False.elim h) (Or.inl ⟨by rfl, ?_⟩) hH ?_
    · intro wx hSw
      go_simp
    simp only [Act.put, List.setIfInBounds_toArray, List.set_cons_zero, List.set_cons_succ]
    refine wpAnyH_ready (rs := [2]) (by kernel_rfl) (by simp) ?_
    refine AllReadyH.cons nat2 (fun K hK => ?_) AllReadyH.nil
    go_simp
    go_at_call 38
    refine (rd_user W _ g a len cap hc hl hH.r).mono ?_
    rintro e w8 ⟨u, rfl, hu, hr8, hm8⟩
    have h8 := hH.call hr8 hm8 (by omega)
    refine hK.out _ _ h8 (fun hH8 => ?_)
    clear hK K h8 hH hr8 hm8
    refine wpAnyH_ready (rs := [3]) (by kernel_rfl) (by simp) ?_
    refine AllReadyH.cons nat3 (fun K hK => ?_) AllReadyH.nil
    obtain ⟨k9, s9, p9, b9, ⟨hc0, hc1, hc2, hc3⟩, hz0, hz1, hz2, hz3⟩ := hH8.cells
    have h9 := hH8.store
    go_simp
    refine hK.out _ _ h9 (fun hH9 => ?_)
    clear hK K h9 hH8 hc0 hc1 hc2 hc3 hz0 hz1 hz2 hz3
    refine wpAnyH_take (i := 4) (v := .string u) nat4 (by kernel_rfl) (by kernel_rfl) (by kernel_rfl) (fun _ _ _ h => False.elim h) (Or.inl ⟨by rfl, ?_⟩) hH9 ?_
    · intro wx hSw
      go_simp
    simp only [Act.put, List.setIfInBounds_toArray, List.set_cons_zero, List.set_cons_succ]
    refine wpAnyH_done (by kernel_rfl) ?_ _
    refine NoPanic.normal ?_
    obtain ⟨k9, s9, p9, b9, ⟨hc0, hc1, hc2, hc3⟩, _, _, _, _⟩ := hH9.cells
    have HB9 := hide hH9.low
    clear hH9
    go_wp2
    refine bodyPost_ret (v := .tuple #[.agg #[.int .i64 k9, .int .i64 s9, .int .i64 p9, .string b9], .string u]) (by simp [results, Try.results17, go_sem, hc0, hc1, hc2, hc3]) rfl ⟨k9, s9, p9, b9, u, rfl, hu, HB9.out⟩
  | false =>
    have HZ := H6
    clear H6
    go_wp2_with fail
    generalize w6 = WZ at HZ ⊢
    have hstart : MayS W w a len cap w.heap.size g F fk fs fp fb WZ.drew := by
      have h := HZ.out
      exact ⟨h.f, h.t, h.r.drewN 1, h.low.drew, h.n1, h.n2, h.n3, h.n4, h.n5⟩
    clear HZ
    refine wp_region_noPanic ?_
    refine wp_region_held_drew (S := (fun (w' : World) => MayS W w a len cap w.heap.size g F fk fs fp fb w')) (by kernel_rfl) hstart (fun hH => ?_)
    clear hstart
    generalize WZ.drew = Wd at *
    refine wpAnyH_take (i := 0) (v := .agg (fCells fk fs fp fb)) nat0 (by kernel_rfl) (by kernel_rfl) (by kernel_rfl) (fun _ _ _ h => False.elim h) (Or.inl ⟨by rfl, ?_⟩) hH ?_
    · intro wx hSw
      exact exec_load_row wx _ _ 25 _ rfl F rfl 25 (fCells fk fs fp fb) (0, 0) _ hSw.f Try.underlying25 rfl (filter_size fk fs fp fb)
    simp only [Act.put, List.setIfInBounds_toArray, List.set_cons_zero, List.set_cons_succ]
    refine wpAnyH_take (i := 1) (v := .pointer (some ⟨g, 0, none⟩)) nat1 (by kernel_rfl) (by kernel_rfl) (by kernel_rfl) (fun _ _ _ h => False.elim h) (Or.inl ⟨by rfl, ?_⟩) hH ?_
    · intro wx hSw
      go_simp
    simp only [Act.put, List.setIfInBounds_toArray, List.set_cons_zero, List.set_cons_succ]
    refine wpAnyH_ready (rs := [2]) (by kernel_rfl) (by simp) ?_
    refine AllReadyH.cons nat2 (fun K hK => ?_) AllReadyH.nil
    go_simp
    go_at_call 38
    refine (rd_user W _ g a len cap hc hl hH.r).mono ?_
    rintro e w8 ⟨u, rfl, hu, hr8, hm8⟩
    have h8 := hH.call hr8 hm8 (by omega)
    refine hK.out _ _ h8 (fun hH8 => ?_)
    clear hK K h8 hH hr8 hm8
    refine wpAnyH_ready (rs := [3]) (by kernel_rfl) (by simp) ?_
    refine AllReadyH.cons nat3 (fun K hK => ?_) AllReadyH.nil
    obtain ⟨k9, s9, p9, b9, ⟨hc0, hc1, hc2, hc3⟩, hz0, hz1, hz2, hz3⟩ := hH8.cells
    have h9 := hH8.store
    go_simp
    refine hK.out _ _ h9 (fun hH9 => ?_)
    clear hK K h9 hH8 hc0 hc1 hc2 hc3 hz0 hz1 hz2 hz3
    refine wpAnyH_take (i := 4) (v := .string u) nat4 (by kernel_rfl) (by kernel_rfl) (by kernel_rfl) (fun _ _ _ h => False.elim h) (Or.inl ⟨by rfl, ?_⟩) hH9 ?_
    · intro wx hSw
      go_simp
    simp only [Act.put, List.setIfInBounds_toArray, List.set_cons_zero, List.set_cons_succ]
    refine wpAnyH_done (by kernel_rfl) ?_ _
    refine NoPanic.normal ?_
    obtain ⟨k9, s9, p9, b9, ⟨hc0, hc1, hc2, hc3⟩, _, _, _, _⟩ := hH9.cells
    have HB9 := hide hH9.low
    clear hH9
    go_wp2
    refine bodyPost_ret (v := .tuple #[.agg #[.int .i64 k9, .int .i64 s9, .int .i64 p9, .string b9], .string u]) (by simp [results, Try.results17, go_sem, hc0, hc1, hc2, hc3]) rfl ⟨k9, s9, p9, b9, u, rfl, hu, HB9.out⟩

end Go.Proofs.Ytkopoonkedcpmac
