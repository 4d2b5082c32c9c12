/- The next entry of a block that is read. -/
import Derived.Test.YtljmfdcilnbjaacRdr5
import Derived.Test.YtljmfdcilnbjaacCsr
import Derived.Test.YtljmfdcilnbjaacRKey
import Derived.Test.YtljmfdcilnbjaacReg
import Derived.Test.YtljmfdcilnbjaacEsOwn
namespace Go.Proofs.Ytljmfdcilnbjaac
set_option maxRecDepth 100000
open Go.RowKit Go.Deep

/-- The key whose text s is, or the empty one. -/
def rkB (s : ByteArray) : Bool := decide (9 ≤ s.size ∧ keyOkB (s.extract 0 (s.size - 8)) (numOf s / 2) (numOf s % 2) = true)
def rkE (s : ByteArray) : ByteArray × Int × Int := if rkB s = true then (s.extract 0 (s.size - 8), numOf s / 2, numOf s % 2) else (⟨#[]⟩, 0, 0)
theorem rk_eq (s : ByteArray) : readKey s = .tuple #[.agg #[.string (rkE s).1, .int .i64 (rkE s).2.1, .int .i64 (rkE s).2.2], .bool (rkB s)] := by
  by_cases h : 9 ≤ s.size ∧ keyOkB (s.extract 0 (s.size - 8)) (numOf s / 2) (numOf s % 2) = true
  · have e : rkB s = true := decide_eq_true h
    rw [readKey_yes h, rkE, if_pos e, e]
  · have e : rkB s = false := decide_eq_false h
    rw [readKey_no h, rkE, if_neg (by rw [e]; decide), e]

theorem rtext_sum (r : ByteArray) : (rtext r).1.size + (rtext r).2.1.size ≤ r.size := by
  cases h : rtx r with
  | none => rw [rtext_none h]; exact Nat.zero_le _
  | some x =>
    obtain ⟨k, e⟩ := x
    rw [rtext_some h]
    simp only [ByteArray.size_extract]
    omega

/-- How many bytes the next key shares. -/
def nxS (m p : Nat) (ah r : ByteArray) : Nat := (min (rnum r).1 ((basT m p ah).size : Int)).toNat
def nxT (m p : Nat) (ah r : ByteArray) : ByteArray := (basT m p ah).extract 0 (nxS m p ah r) ++ (rtext (rnum r).2.1).1
def nxR (r : ByteArray) : ByteArray := (rtext (rtext (rnum r).2.1).2.1).2.1
def nxX (r : ByteArray) : ByteArray := (rtext (rtext (rnum r).2.1).2.1).1
def nxE (m p : Nat) (ah r : ByteArray) : En := ⟨(rkE (nxT m p ah r)).1, (rkE (nxT m p ah r)).2.1, (rkE (nxT m p ah r)).2.2, nxX r⟩

theorem bas_size (m p : Nat) (ah : ByteArray) : (basT m p ah).size ≤ ah.size := by
  unfold basT
  split
  · exact Nat.zero_le _
  · exact Nat.le_refl _
theorem nxS_bd (m p : Nat) (ah r : ByteArray) : nxS m p ah r ≤ (basT m p ah).size ∧ min (rnum r).1 ((basT m p ah).size : Int) = (nxS m p ah r : Int) := by
  have := (rnum_bd r).2.1
  unfold nxS
  omega
theorem nx_size (m p : Nat) (ah r : ByteArray) : (nxT m p ah r).size + (nxR r).size ≤ ah.size + r.size ∧ (nxR r).size ≤ r.size ∧ (nxX r).size ≤ r.size := by
  have h1 := rtext_sum (rnum r).2.1
  have h2 := rtext_sum (rtext (rnum r).2.1).2.1
  have h3 := (rnum_bd r).1
  have h4 := bas_size m p ah
  have h5 := (nxS_bd m p ah r).1
  unfold nxT nxR nxX
  rw [ByteArray.size_append, ByteArray.size_extract]
  omega

/-- The reader of a block in block F, an answer that was laid in block G. -/
structure NxS (w : World) (F G m p : Nat) (ah r : ByteArray) (l : Bool) (y : World) : Prop where
  bx : BoxIs y F #[.int .i64 m, .int .i64 p, .string ah, .string r, .bool l] 68
  res : BoxIs y G #[.string ⟨#[]⟩, .int .i64 0, .int .i64 0, .string ⟨#[]⟩] 53
  mv : Mv F w y
  ne : G ≠ F
  new : w.heap.size ≤ G

section
variable {w : World} {F G m p : Nat} {ah r : ByteArray} {l : Bool} {y z : World}
theorem NxS.next (h : NxS w F G m p ah r l y) (hb : Below y.heap.size y z) : NxS w F G m p ah r l z :=
  ⟨h.bx.next hb, h.res.next hb, h.mv.trans (Mv.of_below hb), h.ne, h.new⟩
theorem NxS.step (h : NxS w F G m p ah r l y) {p' : Nat} {ah' r' : ByteArray} {l' : Bool} (hx : BoxIs z F #[.int .i64 m, .int .i64 p', .string ah', .string r', .bool l'] 68) (hm : Mv F y z) : NxS w F G m p' ah' r' l' z :=
  ⟨hx, h.res.mv hm h.ne, h.mv.trans hm, h.ne, h.new⟩
end

theorem nx_storeM (y : World) (G : Nat) (u : ByteArray) (q k : Int) (x : ByteArray) : Mv G y ((((y.setCell ⟨G, 0, none⟩ (.string u)).setCell ⟨G, 1, none⟩ (.int .i64 q)).setCell ⟨G, 2, none⟩ (.int .i64 k)).setCell ⟨G, 3, none⟩ (.string x)) :=
  ((((Mv.refl _ _).setCell _).setCell _).setCell _).setCell _
theorem nx_store {w : World} {F G m p : Nat} {ah r : ByteArray} {l : Bool} {y : World} (h : NxS w F G m p ah r l y) (u : ByteArray) (q k : Int) (x : ByteArray) :
    BoxIs ((((y.setCell ⟨G, 0, none⟩ (.string u)).setCell ⟨G, 1, none⟩ (.int .i64 q)).setCell ⟨G, 2, none⟩ (.int .i64 k)).setCell ⟨G, 3, none⟩ (.string x)) G #[.string u, .int .i64 q, .int .i64 k, .string x] 53 ∧
    BoxIs ((((y.setCell ⟨G, 0, none⟩ (.string u)).setCell ⟨G, 1, none⟩ (.int .i64 q)).setCell ⟨G, 2, none⟩ (.int .i64 k)).setCell ⟨G, 3, none⟩ (.string x)) F #[.int .i64 m, .int .i64 p, .string ah, .string r, .bool l] 68 ∧
    Mv F w ((((y.setCell ⟨G, 0, none⟩ (.string u)).setCell ⟨G, 1, none⟩ (.int .i64 q)).setCell ⟨G, 2, none⟩ (.int .i64 k)).setCell ⟨G, 3, none⟩ (.string x)) := by
  have hm := nx_storeM y G u q k x
  refine ⟨heap_setCell_same _ G 3 _ _ (.string x) (heap_setCell_same _ G 2 _ _ (.int .i64 k) (heap_setCell_same _ G 1 _ _ (.int .i64 q) (heap_setCell_same y G 0 _ _ (.string u) h.res))), h.bx.mv hm (Ne.symm h.ne), ?_⟩
  exact ⟨hm.os.trans h.mv.os, hm.tape.trans h.mv.tape, hm.output.trans h.mv.output, Nat.le_trans h.mv.size hm.size, fun k hk hF => (hm.block k (Nat.lt_of_lt_of_le hk h.mv.size) (by have := h.new; omega)).trans (h.mv.block k hk hF)⟩

theorem ret_en {a b : Value} (h : a = b) : Ending.returned a = .returned b := by rw [h]

set_option maxHeartbeats 4000000 in
theorem blk_next (w : World) (F m p : Nat) (ah r : ByteArray) (l : Bool) (hm : 1 ≤ m) (hp : p ≤ 1000000) (hz : ah.size + r.size ≤ 200000) (h : BoxIs w F #[.int .i64 m, .int .i64 p, .string ah, .string r, .bool l] 68) :
    Calls Try.prog 34 #[.pointer (some ⟨F, 0, none⟩)] w fun e w' => e = .returned (.agg #[.string (nxE m p ah r).u, .int .i64 (nxE m p ah r).q, .int .i64 (nxE m p ah r).k, .string (nxE m p ah r).x]) ∧ (∃ l', BoxIs w' F #[.int .i64 m, .int .i64 ((p + 1 : Nat) : Int), .string (nxT m p ah r), .string (nxR r), .bool l'] 68) ∧ Mv F w w' := by
  have hb0 := below_one w (.cells #[.string ⟨#[]⟩, .int .i64 0, .int .i64 0, .string ⟨#[]⟩] 53)
  have L0 : Hid (NxS w F w.heap.size m p ah r l (w.alloc (.cells #[.string ⟨#[]⟩, .int .i64 0, .int .i64 0, .string ⟨#[]⟩] 53))) :=
    ⟨h.next hb0, BoxIs.new w _ _ rfl, Mv.of_below hb0, Nat.ne_of_gt h.lt, Nat.le_refl _⟩
  have hsz := nx_size m p ah r
  have hbs := bas_size m p ah
  have hsb := nxS_bd m p ah r
  have hn1 := rnum_bd r
  have hx1 := rtext_bd (rnum r).2.1
  have HT : Hid (nxT m p ah r = (basT m p ah).extract 0 (nxS m p ah r) ++ (rtext (rnum r).2.1).1) := rfl
  have HR : Hid (nxR r = (rtext (rtext (rnum r).2.1).2.1).2.1) := rfl
  have HX : Hid (nxX r = (rtext (rtext (rnum r).2.1).2.1).1) := rfl
  have HE : Hid (nxE m p ah r = ⟨(rkE (nxT m p ah r)).1, (rkE (nxT m p ah r)).2.1, (rkE (nxT m p ah r)).2.2, nxX r⟩) := rfl
  have cb := fun wx hx => csr_base wx F m p ah (.string r) (.bool l) 68 hm hx
  have cn := fun wx hx => rd5_number wx F (.int .i64 m) (.int .i64 p) (.string ah) 68 r l (by omega) hx
  have ck := fun wx => impl_ReadKey (nxT m p ah r) (by omega) wx
  rw [rk_eq] at ck
  clear h hb0
  obtain ⟨hs1, hs2⟩ := hsb
  generalize basT m p ah = B at *
  generalize nxS m p ah r = s at *
  generalize nxT m p ah r = T at *
  generalize nxR r = R2 at *
  generalize nxX r = x at *
  generalize rnum r = a at *
  obtain ⟨n, ra, la⟩ := a
  simp only at *
  have cx := fun wx (q : Nat) (h' : ByteArray) l' hx => rd5_text wx F (.int .i64 m) (.int .i64 q) (.string h') 68 ra l' (by omega) hx
  generalize rtext ra = b at *
  obtain ⟨tx, rb, lb⟩ := b
  simp only at *
  have cy := fun wx (q : Nat) (h' : ByteArray) l' hx => rd5_text wx F (.int .i64 m) (.int .i64 q) (.string h') 68 rb l' (by omega) hx
  generalize rtext rb = c at *
  obtain ⟨xx, rc, lc⟩ := c
  simp only at *
  obtain rfl : R2 = rc := HR.out
  obtain rfl : x = xx := HX.out
  have hsl : (B.extract 0 s).size ≤ 200000 := by rw [ByteArray.size_extract]; omega
  have hT : (B.extract 0 s).size + tx.size = T.size := by rw [HT.out, ByteArray.size_append]
  have hadd : ∀ wx : World, (Op.stringOp .add (B.extract 0 s) tx).run Try.prog wx = .ok (.string T) wx := fun wx => by rw [HT.out]; exact run_string_add_sum wx _ _ (by omega)
  have hsI : (s : Int) ≤ (B.size : Int) := by omega
  clear hT HR HX
  go_enter Try.func34, Try.ntmps34
  go_wp2_with fail
  generalize w.alloc (.cells #[.string ⟨#[]⟩, .int .i64 0, .int .i64 0, .string ⟨#[]⟩] 53) = W at L0 ⊢
  obtain ⟨G, hG⟩ : ∃ G, w.heap.size = G := ⟨_, rfl⟩
  rw [hG] at L0 ⊢
  clear hG
  refine (cb W L0.out.bx).mono ?_
  rintro e W1 ⟨rfl, hb1⟩
  have L1 := hide (L0.out.next hb1)
  clear hb1 L0 cb
  go_wp2_with fail
  refine (cn W1 L1.out.bx).mono ?_
  rintro e W2 ⟨rfl, hx2, hm2⟩
  have L2 := hide (L1.out.step hx2 hm2)
  clear hx2 hm2 L1 cn
  go_wp2_with fail
  refine wp_region_noPanic ?_
  refine wp_region_held_drew (S := fun _ => True) (by kernel_rfl) trivial (fun _ => ?_)
  have L3 := hide (L2.out.next (Below.refl _ _).drew)
  clear L2
  generalize W2.drew = W3 at L3 ⊢
  refine wpAnyH_take (i := 0) (v := .string B) nat0 (by kernel_rfl) (by kernel_rfl) (by kernel_rfl) (fun _ _ _ h => False.elim h) (Or.inl ⟨by rfl, ?_⟩) trivial ?_
  · intro wx hSw
    go_simp
  simp only [Act.put, List.setIfInBounds_toArray, List.set_cons_zero, List.set_cons_succ]
  refine wpAnyH_take (i := 1) (v := .int .i64 (s : Int)) nat1 (by kernel_rfl) (by kernel_rfl) (by kernel_rfl) (fun _ _ _ h => False.elim h) (Or.inl ⟨by rfl, ?_⟩) trivial ?_
  · intro wx hSw
    go_simp
  simp only [Act.put, List.setIfInBounds_toArray, List.set_cons_zero, List.set_cons_succ]
  refine wpAnyH_take (i := 2) (v := .string (B.extract 0 s)) nat2 (by kernel_rfl) (by kernel_rfl) (by kernel_rfl) (fun _ _ _ h => False.elim h) (Or.inl ⟨by rfl, ?_⟩) trivial ?_
  · intro wx hSw
    go_simp
  simp only [Act.put, List.setIfInBounds_toArray, List.set_cons_zero, List.set_cons_succ]
  refine wpAnyH_take (i := 3) (v := .pointer (some ⟨F, 0, none⟩)) nat3 (by kernel_rfl) (by kernel_rfl) (by kernel_rfl) (fun _ _ _ h => False.elim h) (Or.inl ⟨by rfl, ?_⟩) trivial ?_
  · intro wx hSw
    go_simp
  simp only [Act.put, List.setIfInBounds_toArray, List.set_cons_zero, List.set_cons_succ]
  refine wpAnyH_take (i := 4) (v := .pointer (some ⟨F, 0, none⟩)) nat4 (by kernel_rfl) (by kernel_rfl) (by kernel_rfl) (fun _ _ _ h => False.elim h) (Or.inl ⟨by rfl, ?_⟩) trivial ?_
  · intro wx hSw
    go_simp
  simp only [Act.put, List.setIfInBounds_toArray, List.set_cons_zero, List.set_cons_succ]
  refine wpAnyH_take (i := 5) (v := .pointer (some ⟨F, 3, none⟩)) nat5 (by kernel_rfl) (by kernel_rfl) (by kernel_rfl) (fun _ _ _ h => False.elim h) (Or.inl ⟨by rfl, ?_⟩) trivial ?_
  · intro wx hSw
    go_simp
  simp only [Act.put, List.setIfInBounds_toArray, List.set_cons_zero, List.set_cons_succ]
  refine wpAnyH_ready (rs := [6]) (by kernel_rfl) (by simp) ?_
  refine AllReadyH.cons nat6 (fun K hK => ?_) AllReadyH.nil
  go_simp
  go_at_call 64
  refine (cx _ _ _ _ L3.out.bx).mono ?_
  rintro e wq0 ⟨rfl, hx0, hm0⟩
  have H0 := hide (L3.out.step hx0 hm0)
  refine hK.out _ _ trivial (fun _ => ?_)
  clear hK K hx0 hm0 L3
  refine wpAnyH_take (i := 7) (v := .string T) nat7 (by kernel_rfl) (by kernel_rfl) (by kernel_rfl) (fun _ _ _ h => False.elim h) (Or.inl ⟨by rfl, ?_⟩) trivial ?_
  · intro wx hSw
    go_simp
  simp only [Act.put, List.setIfInBounds_toArray, List.set_cons_zero, List.set_cons_succ]
  refine wpAnyH_take (i := 8) (v := .string T) nat8 (by kernel_rfl) (by kernel_rfl) (by kernel_rfl) (fun _ _ _ h => False.elim h) (Or.inl ⟨by rfl, ?_⟩) trivial ?_
  · intro wx hSw
    go_simp
  simp only [Act.put, List.setIfInBounds_toArray, List.set_cons_zero, List.set_cons_succ]
  refine wpAnyH_done (by kernel_rfl) ?_ _
  refine NoPanic.normal ?_
  go_wp2_with fail
  refine (csr_pass _ F m p ah T _ _ _ hp H0.out.bx).mono ?_
  rintro e W4 ⟨rfl, hx4, hm4⟩
  have L4 := hide (H0.out.step hx4 hm4)
  clear hx4 hm4 H0 hadd
  go_wp2_with fail
  refine (ck _).mono ?_
  rintro e W5 ⟨rfl, hb5⟩
  have L5 := hide (L4.out.next hb5)
  clear hb5 L4 ck
  have hbk := below_one W5 (.cells #[.string (rkE T).1, .int .i64 (rkE T).2.1, .int .i64 (rkE T).2.2] 34)
  have L6 := hide (And.intro (L5.out.next hbk) (BoxIs.new W5 #[.string (rkE T).1, .int .i64 (rkE T).2.1, .int .i64 (rkE T).2.2] 34 rfl))
  have hKF : W5.heap.size ≠ F := Nat.ne_of_gt L5.out.bx.lt
  have hKG : W5.heap.size ≠ G := Nat.ne_of_gt L5.out.res.lt
  clear hbk L5
  go_wp2_with fail
  generalize W5.alloc (.cells #[.string (rkE T).1, .int .i64 (rkE T).2.1, .int .i64 (rkE T).2.2] 34) = W6 at L6 ⊢
  obtain ⟨Kb, hKb⟩ : ∃ Kb, W5.heap.size = Kb := ⟨_, rfl⟩
  rw [hKb] at L6 hKF hKG ⊢
  clear hKb
  refine wp_region_noPanic ?_
  refine wp_region_held_drew (S := fun y => BoxIs y Kb #[.string (rkE T).1, .int .i64 (rkE T).2.1, .int .i64 (rkE T).2.2] 34) (by kernel_rfl) (L6.out.2.next (Below.refl _ _).drew) (fun _ => ?_)
  have L7 := hide (And.intro (L6.out.1.next (Below.refl _ _).drew) (L6.out.2.next (Below.refl _ _).drew))
  clear L6
  generalize W6.drew = W7 at L7 ⊢
  refine wpAnyH_take (i := 0) (v := .agg #[.string (rkE T).1, .int .i64 (rkE T).2.1, .int .i64 (rkE T).2.2]) nat0 (by kernel_rfl) (by kernel_rfl) (by kernel_rfl) (fun _ _ _ h => False.elim h) (Or.inl ⟨by rfl, ?_⟩) L7.out.2 ?_
  · intro wx hSw
    have hSx : BoxIs wx Kb #[.string (rkE T).1, .int .i64 (rkE T).2.1, .int .i64 (rkE T).2.2] 34 := hSw
    have xk0 : wx.cell? ⟨Kb, 0, none⟩ = some (.string (rkE T).1) := hSx.cell 0
    have xk1 : wx.cell? ⟨Kb, 1, none⟩ = some (.int .i64 (rkE T).2.1) := hSx.cell 1
    have xk2 : wx.cell? ⟨Kb, 2, none⟩ = some (.int .i64 (rkE T).2.2) := hSx.cell 2
    go_simp
  simp only [Act.put, List.setIfInBounds_toArray, List.set_cons_zero, List.set_cons_succ]
  refine wpAnyH_take (i := 1) (v := .pointer (some ⟨F, 0, none⟩)) nat1 (by kernel_rfl) (by kernel_rfl) (by kernel_rfl) (fun _ _ _ h => False.elim h) (Or.inl ⟨by rfl, ?_⟩) L7.out.2 ?_
  · intro wx hSw
    go_simp
  simp only [Act.put, List.setIfInBounds_toArray, List.set_cons_zero, List.set_cons_succ]
  refine wpAnyH_take (i := 2) (v := .pointer (some ⟨F, 0, none⟩)) nat2 (by kernel_rfl) (by kernel_rfl) (by kernel_rfl) (fun _ _ _ h => False.elim h) (Or.inl ⟨by rfl, ?_⟩) L7.out.2 ?_
  · intro wx hSw
    go_simp
  simp only [Act.put, List.setIfInBounds_toArray, List.set_cons_zero, List.set_cons_succ]
  refine wpAnyH_take (i := 3) (v := .pointer (some ⟨F, 3, none⟩)) nat3 (by kernel_rfl) (by kernel_rfl) (by kernel_rfl) (fun _ _ _ h => False.elim h) (Or.inl ⟨by rfl, ?_⟩) L7.out.2 ?_
  · intro wx hSw
    go_simp
  simp only [Act.put, List.setIfInBounds_toArray, List.set_cons_zero, List.set_cons_succ]
  refine wpAnyH_ready (rs := [4]) (by kernel_rfl) (by simp) ?_
  refine AllReadyH.cons nat4 (fun K hK => ?_) AllReadyH.nil
  go_simp
  go_at_call 64
  refine (cy _ _ _ _ L7.out.1.bx).mono ?_
  rintro e wq0 ⟨rfl, hx0, hm0⟩
  have H0 := hide (And.intro (L7.out.1.step hx0 hm0) (L7.out.2.mv hm0 hKF))
  refine hK.out _ _ H0.out.2 (fun _ => ?_)
  clear hK K hx0 hm0 L7
  refine wpAnyH_take (i := 5) (v := .agg #[.string (rkE T).1, .int .i64 (rkE T).2.1, .int .i64 (rkE T).2.2, .string x]) nat5 (by kernel_rfl) (by kernel_rfl) (by kernel_rfl) (fun _ _ _ h => False.elim h) (Or.inl ⟨by rfl, ?_⟩) H0.out.2 ?_
  · intro wx hSw
    go_simp
  simp only [Act.put, List.setIfInBounds_toArray, List.set_cons_zero, List.set_cons_succ]
  refine wpAnyH_ready (rs := [6]) (by kernel_rfl) (by simp) ?_
  refine AllReadyH.cons nat6 (fun K hK => ?_) AllReadyH.nil
  have xs0 : wq0.cell? ⟨G, 0, none⟩ = some (.string ⟨#[]⟩) := H0.out.1.res.cell 0
  have xs1 : wq0.cell? ⟨G, 1, none⟩ = some (.int .i64 0) := H0.out.1.res.cell 1
  have xs2 : wq0.cell? ⟨G, 2, none⟩ = some (.int .i64 0) := H0.out.1.res.cell 2
  have xs3 : wq0.cell? ⟨G, 3, none⟩ = some (.string ⟨#[]⟩) := H0.out.1.res.cell 3
  have xf := H0.out.1.res.free
  go_simp
  have hst := nx_store H0.out.1 (rkE T).1 (rkE T).2.1 (rkE T).2.2 x
  have hkb := H0.out.2.mv (nx_storeM wq0 G (rkE T).1 (rkE T).2.1 (rkE T).2.2 x) hKG
  refine hK.out _ _ hkb (fun _ => ?_)
  have H1 := hide hst
  clear hK K xs0 xs1 xs2 xs3 xf hst hkb H0
  generalize (((wq0.setCell ⟨G, 0, none⟩ (.string (rkE T).1)).setCell ⟨G, 1, none⟩ (.int .i64 (rkE T).2.1)).setCell ⟨G, 2, none⟩ (.int .i64 (rkE T).2.2)).setCell ⟨G, 3, none⟩ (.string x) = wq1 at H1 ⊢
  refine wpAnyH_done (by kernel_rfl) ?_ _
  refine NoPanic.normal ?_
  go_wp2
  obtain ⟨r0, r1, r2, r3⟩ : wq1.cell? ⟨G, 0, none⟩ = some (.string (rkE T).1) ∧ wq1.cell? ⟨G, 1, none⟩ = some (.int .i64 (rkE T).2.1) ∧ wq1.cell? ⟨G, 2, none⟩ = some (.int .i64 (rkE T).2.2) ∧ wq1.cell? ⟨G, 3, none⟩ = some (.string x) := ⟨H1.out.1.cell 0, H1.out.1.cell 1, H1.out.1.cell 2, H1.out.1.cell 3⟩
  refine bodyPost_ret (v := .agg #[.string (rkE T).1, .int .i64 (rkE T).2.1, .int .i64 (rkE T).2.2, .string x]) (by simp [results, Try.results34, go_sem, r0, r1, r2, r3]) rfl ?_
  exact ⟨by rw [HE.out], ⟨_, H1.out.2.1⟩, H1.out.2.2⟩

end Go.Proofs.Ytljmfdcilnbjaac
