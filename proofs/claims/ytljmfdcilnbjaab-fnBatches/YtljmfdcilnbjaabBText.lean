/- BatchText, of the program and of the model. -/
import Derived.Test.YtljmfdcilnbjaabBatchS
import Derived.Test.YtljmfdcilnbjaabText
import Derived.Test.YtljmfdcilnbjaabReg
namespace Go.Proofs.Ytljmfdcilnbjaab
set_option maxRecDepth 100000
open Go.RowKit Go.Deep

/-- The bytes of one op. -/
def opTxt (O : Ops) (i : Nat) : ByteArray := strOfNums [O.K i] ++ putText (O.U i) ++ putText (O.X i)
/-- The bytes of the first ops, behind those of s. -/
def opsTxt (O : Ops) (s : ByteArray) : Nat → ByteArray
  | 0 => s
  | k + 1 => opsTxt O s k ++ opTxt O k
def batchText (q : Int) (len : Nat) (O : Ops) : ByteArray := if batchOkB q len O = true then opsTxt O (pv q ++ pv len) len else ⟨#[]⟩
theorem batchText_yes {q : Int} {len : Nat} {O : Ops} (h : batchOkB q len O = true) : batchText q len O = opsTxt O (pv q ++ pv len) len := by rw [batchText, if_pos h]
theorem batchText_no {q : Int} {len : Nat} {O : Ops} (h : batchOkB q len O = false) : batchText q len O = ⟨#[]⟩ := by rw [batchText, if_neg (by rw [h]; decide)]

theorem putText_size (s : ByteArray) : s.size + 1 ≤ (putText s).size ∧ (putText s).size ≤ s.size + 10 := by
  have := pv_size s.size
  rw [putText, ByteArray.size_append]; omega

/-- What a right op has. -/
theorem ent_bd {O : Ops} {q : Int} {i : Nat} (h : entOk (opEnt O q) i = true) : 0 ≤ O.K i ∧ O.K i ≤ 1 ∧ 1 ≤ (O.U i).size ∧ (O.U i).size ≤ 40 ∧ (O.X i).size ≤ 200 := by
  unfold entOk entryOkB opEnt at h
  simp only [Bool.and_eq_true, decide_eq_true_eq] at h
  have := keyOk_iff.1 h.1.1
  exact ⟨this.2.2.2.2.1, this.2.2.2.2.2, this.1, this.2.1, h.1.2⟩

theorem opTxt_size {O : Ops} {q : Int} {i : Nat} (h : entOk (opEnt O q) i = true) : (opTxt O i).size ≤ 270 := by
  have h1 := ent_bd h
  have h2 := putText_size (O.U i)
  have h3 := putText_size (O.X i)
  rw [opTxt, ByteArray.size_append, ByteArray.size_append, strOfNums_size]
  simp only [List.length_cons, List.length_nil]
  omega

theorem opsTxt_size {O : Ops} {q : Int} {len : Nat} {s : ByteArray} (h : ∀ i, i < len → entOk (opEnt O q) i = true) : ∀ k, k ≤ len → (opsTxt O s k).size ≤ s.size + 270 * k
  | 0, _ => by simp [opsTxt]
  | k + 1, hk => by
    have h1 := opsTxt_size (s := s) h k (by omega)
    have h2 := opTxt_size (h k (by omega))
    rw [opsTxt, ByteArray.size_append]
    omega

theorem ret_strT {a b : ByteArray} (h : a = b) : Ending.returned (.string a) = .returned (.string b) := by rw [h]

theorem box3_keep {W : World} {F : Nat} {x0 x1 x2 : Value} (hF : F < W.heap.size) (a b : World) (h : a.cell? ⟨F, 0, none⟩ = some x0 ∧ a.cell? ⟨F, 1, none⟩ = some x1 ∧ a.cell? ⟨F, 2, none⟩ = some x2 ∧ Hid (Below W.heap.size W a)) (hb : Below a.heap.size a b) :
    b.cell? ⟨F, 0, none⟩ = some x0 ∧ b.cell? ⟨F, 1, none⟩ = some x1 ∧ b.cell? ⟨F, 2, none⟩ = some x2 ∧ Hid (Below W.heap.size W b) := by
  obtain ⟨c0, c1, c2, hB⟩ := h
  have hz := hB.out.size
  exact ⟨(hb.cell (p := ⟨F, _, none⟩) (by show F < _; omega)).trans c0, (hb.cell (p := ⟨F, _, none⟩) (by show F < _; omega)).trans c1, (hb.cell (p := ⟨F, _, none⟩) (by show F < _; omega)).trans c2, hB.out.trans (hb.mono hz)⟩

theorem box2_keep {W : World} {F : Nat} {x0 x1 : Value} (hF : F < W.heap.size) (a b : World) (h : a.cell? ⟨F, 0, none⟩ = some x0 ∧ a.cell? ⟨F, 1, none⟩ = some x1 ∧ Hid (Below W.heap.size W a)) (hb : Below a.heap.size a b) :
    b.cell? ⟨F, 0, none⟩ = some x0 ∧ b.cell? ⟨F, 1, none⟩ = some x1 ∧ Hid (Below W.heap.size W b) := by
  obtain ⟨c0, c1, hB⟩ := h
  have hz := hB.out.size
  exact ⟨(hb.cell (p := ⟨F, _, none⟩) (by show F < _; omega)).trans c0, (hb.cell (p := ⟨F, _, none⟩) (by show F < _; omega)).trans c1, hB.out.trans (hb.mono hz)⟩

set_option maxHeartbeats 4000000 in
/-- One round of the program's loop. -/
theorem impl_BatchText (q : Int) (a : Option Addr) (len cap : Nat) (O : Ops) (w : World) (hl : len ≤ 1048576) (hS : OpAt w w.heap.size a len O) :
    Calls Try.prog 6 #[.agg #[.int .i64 q, .slice a len cap]] w fun e w' => e = .returned (.string (batchText q len O)) ∧ Below w.heap.size w w' := by
  have cb := fun (wx : World) (h : OpAt wx wx.heap.size a len O) => impl_BatchOk q a len cap O wx hl h
  have HS : Hid (OpAt w w.heap.size a len O) := hS
  have hB0 : Below w.heap.size w (w.alloc (.cells #[.int .i64 q, .slice a len cap] 26)) := below1 _ _
  have hK : BoxIs (w.alloc (.cells #[.int .i64 q, .slice a len cap] 26)) w.heap.size #[.int .i64 q, .slice a len cap] 26 := BoxIs.new w _ _ rfl
  clear hS
  cases hok : batchOkB q len O with
  | false =>
    rw [hok] at cb
    have HV : Hid (⟨#[]⟩ = batchText q len O) := (batchText_no hok).symm
    clear hok
    go_enter Try.func6, Try.ntmps6
    go_wp2_with fail
    generalize w.alloc (.cells #[.int .i64 q, .slice a len cap] 26) = W at hB0 hK ⊢
    refine (cb W ((HS.out.on hB0 (Nat.le_refl _)).mono hB0.size)).mono ?_
    rintro e w1 ⟨rfl, hB1⟩
    have HB1 : Hid (Below w.heap.size w w1) := hB0.trans (hB1.mono hB0.size)
    clear cb hK
    go_wp2
    go_ret
    exact ⟨ret_strT HV.out, HB1.out⟩
  | true =>
    rw [hok] at cb
    have HV : Hid (opsTxt O (pv q ++ pv len) len = batchText q len O) := (batchText_yes hok).symm
    obtain ⟨⟨r1, r2, r3, r4⟩, hent⟩ := batchOk_out hok
    have HE : Hid (∀ i, i < len → entOk (opEnt O q) i = true) := hent
    have u1 : IntKind.u64.wrap q = q := by rw [IntKind.wrap_u64]; omega
    have u2 : IntKind.u64.wrap (len : Int) = (len : Int) := by rw [IntKind.wrap_u64]; omega
    have s1 := pv_size q
    have s2 := pv_size len
    have ra : ∀ wx : World, (Op.stringOp .add (pv q) (pv len)).run Try.prog wx = .ok (.string (pv q ++ pv len)) wx := fun wx => run_string_add_sum wx _ _ (by omega)
    clear hok hent
    go_enter Try.func6, Try.ntmps6
    go_wp2_with fail
    generalize w.alloc (.cells #[.int .i64 q, .slice a len cap] 26) = W at hB0 hK ⊢
    have hgW := hK.lt
    refine (cb W ((HS.out.on hB0 (Nat.le_refl _)).mono hB0.size)).mono ?_
    rintro e w1 ⟨rfl, hB1⟩
    have HB0 : Hid (Below w.heap.size w W) := hB0
    have HK : Hid _ := hK.hid
    have k1 := hK.next hB1
    have hstart : w1.drew.cell? ⟨w.heap.size, 0, none⟩ = some (.int .i64 q) ∧ w1.drew.cell? ⟨w.heap.size, 1, none⟩ = some (.slice a len cap) ∧ Hid (Below W.heap.size W w1.drew) := ⟨k1.cell 0, k1.cell 1, hB1.drew⟩
    clear cb hK hB0 k1 hB1
    go_wp2_with fail
    go_region_held3 (fun (w' : World) => w'.cell? ⟨w.heap.size, 0, none⟩ = some (.int .i64 q) ∧ w'.cell? ⟨w.heap.size, 1, none⟩ = some (.slice a len cap) ∧ Hid (Below W.heap.size W w')) (assumption)
      ((go_at_call 16; refine (held_callE (S := fun (w' : World) => w'.cell? ⟨w.heap.size, 0, none⟩ = some (.int .i64 q) ∧ w'.cell? ⟨w.heap.size, 1, none⟩ = some (.slice a len cap) ∧ Hid (Below W.heap.size W w')) (box2_keep hgW) (by assumption) (impl_PutVar _ (by omega) (by omega) _)).mono ?_; rintro e w1 ⟨rfl, hS⟩))
    all_goals
      have HB1 : Hid (Below W.heap.size W w1) := hS.2.2
      clear hS hstart ra u1 u2
      have k1 := HK.out.below HB1.out hgW
      have k11 : w1.cell? ⟨w.heap.size, 1, none⟩ = some (.slice a len cap) := k1.cell 1
      have hT : (pv q ++ pv len).size ≤ 20 := by rw [ByteArray.size_append]; omega
      have HT : Hid (opsTxt O (pv q ++ pv len) 0 = pv q ++ pv len) := rfl
      generalize pv q ++ pv len = T at hT HT HV ⊢
      go_wp2
      clear k11 k1
      have HSW : Hid (OpAt W W.heap.size a len O) := (HS.out.on HB0.out (Nat.le_refl _)).mono HB0.out.size
      go_loopw [3, 22] (fun s i wr => ∃ k : Nat, i = .int .i64 k ∧ s = .string (opsTxt O T k) ∧ k ≤ len ∧ Hid (Below W.heap.size W wr)) (fun _ i _ => len - (intOf i).toNat)
      case atStart => exact ⟨0, rfl, rfl, by omega, HB1⟩
      case round =>
        obtain ⟨k, rfl, rfl, hk, HW⟩ := hrel
        clear HB1
        by_cases hlt : k < len
        · obtain ⟨b, off, rfl, hb, c0, c1, c2⟩ := (HSW.out.below HW.out).at hlt
          have hki : (k : Int) < (len : Int) := by omega
          have hwz := HW.out.size
          obtain ⟨b0, b1, b2, b3, b4⟩ := ent_bd (HE.out k hlt)
          have z := opsTxt_size (s := T) HE.out k hk
          have zu := putText_size (O.U k)
          have zx := putText_size (O.X k)
          have z1 : (strOfNums [O.K k]).size = 1 := by rw [strOfNums_size]; rfl
          have hT2 : opsTxt O T (k + 1) = opsTxt O T k ++ (strOfNums [O.K k] ++ putText (O.U k) ++ putText (O.X k)) := rfl
          have t1 : ∀ wx : World, (Op.stringOp .add (strOfNums [O.K k]) (putText (O.U k))).run Try.prog wx = .ok (.string (strOfNums [O.K k] ++ putText (O.U k))) wx := fun wx => run_string_add_sum wx _ _ (by omega)
          have t2 : ∀ wx : World, (Op.stringOp .add (strOfNums [O.K k] ++ putText (O.U k)) (putText (O.X k))).run Try.prog wx = .ok (.string (strOfNums [O.K k] ++ putText (O.U k) ++ putText (O.X k))) wx := fun wx => run_string_add_sum wx _ _ (by rw [ByteArray.size_append]; omega)
          have t3 : ∀ wx : World, (Op.stringOp .add (opsTxt O T k) (strOfNums [O.K k] ++ putText (O.U k) ++ putText (O.X k))).run Try.prog wx = .ok (.string (opsTxt O T k ++ (strOfNums [O.K k] ++ putText (O.U k) ++ putText (O.X k)))) wx := fun wx => run_string_add_sum wx _ _ (by rw [ByteArray.size_append, ByteArray.size_append]; omega)
          have hw8 : IntKind.u8.wrap (O.K k) = O.K k := by rw [IntKind.wrap_u8]; omega
          have HT2 : Hid _ := hT2
          clear hT2 z z1 zu zx
          have hX := BoxIs.new wr #[.int .i64 (O.K k), .string (O.U k), .string (O.X k)] 40 rfl
          have hBX := (Below.refl wr.heap.size wr).alloc (Nat.le_refl _) (.cells #[.int .i64 (O.K k), .string (O.U k), .string (O.X k)] 40)
          have cv := fun (wx : World) (g : Nat) (h : wx.cell? ⟨g, 0, none⟩ = some (.int .u8 (O.K k))) => conv_one (P := Try.prog) 22 5 9 Try.underlying22 Try.underlying5 Try.underlying9 wx g (O.K k) h
          go_wp2_with fail
          generalize wr.alloc (.cells #[.int .i64 (O.K k), .string (O.U k), .string (O.X k)] 40) = W2 at hX hBX ⊢
          have x0 : W2.cell? ⟨wr.heap.size, 0, none⟩ = some (.int .i64 (O.K k)) := hX.cell 0
          have x1 : W2.cell? ⟨wr.heap.size, 1, none⟩ = some (.string (O.U k)) := hX.cell 1
          have x2 : W2.cell? ⟨wr.heap.size, 2, none⟩ = some (.string (O.X k)) := hX.cell 2
          have HB2 : Hid (Below W.heap.size W W2) := HW.out.trans (hBX.mono hwz)
          clear hX hBX c0 c1 c2 hb
          refine wp_region_noPanic ?_
          refine wp_region_held_drew (S := fun x => Below W2.heap.size W2 x) (by kernel_rfl) (Below.refl _ _).drew (fun hH => ?_)
          have hb0 : Below W2.heap.size W2 W2.drew := hH
          clear hH
          have x0_0 := keepc hb0 x0
          have x1_0 := keepc hb0 x1
          have x2_0 := keepc hb0 x2
          generalize W2.drew = wq0 at hb0 x0_0 x1_0 x2_0 ⊢
          refine wpAnyH_restart hb0 ?_
          refine wpAnyH_take (i := 0) (v := .string (opsTxt O T k)) nat0 (by kernel_rfl) (by kernel_rfl) (by kernel_rfl) (fun _ _ _ h => False.elim h) (Or.inl ⟨by rfl, ?_⟩) (Below.refl _ _) ?_
          · intro wx hSw
            go_simp
          simp only [Act.put, List.setIfInBounds_toArray, List.set_cons_zero, List.set_cons_succ]
          refine wpAnyH_take (i := 1) (v := .pointer (some ⟨wr.heap.size, 0, none⟩)) nat1 (by kernel_rfl) (by kernel_rfl) (by kernel_rfl) (fun _ _ _ h => False.elim h) (Or.inl ⟨by rfl, ?_⟩) (Below.refl _ _) ?_
          · intro wx hSw
            go_simp
          simp only [Act.put, List.setIfInBounds_toArray, List.set_cons_zero, List.set_cons_succ]
          refine wpAnyH_take (i := 2) (v := .int .i64 (O.K k)) nat2 (by kernel_rfl) (by kernel_rfl) (by kernel_rfl) (fun _ _ _ h => False.elim h) (Or.inl ⟨by rfl, ?_⟩) (Below.refl _ _) ?_
          · intro wx hSw
            have hx : Below wq0.heap.size wq0 wx := hSw
            have e0 := keepc hx x0_0
            go_simp
          simp only [Act.put, List.setIfInBounds_toArray, List.set_cons_zero, List.set_cons_succ]
          refine wpAnyH_take (i := 3) (v := .int .u8 (O.K k)) nat3 (by kernel_rfl) (by kernel_rfl) (by kernel_rfl) (fun _ _ _ h => False.elim h) (Or.inl ⟨by rfl, ?_⟩) (Below.refl _ _) ?_
          · intro wx hSw
            go_simp
          simp only [Act.put, List.setIfInBounds_toArray, List.set_cons_zero, List.set_cons_succ]
          refine wpAnyH_take (i := 6) (v := .pointer (some ⟨wr.heap.size, 1, none⟩)) nat6 (by kernel_rfl) (by kernel_rfl) (by kernel_rfl) (fun _ _ _ h => False.elim h) (Or.inl ⟨by rfl, ?_⟩) (Below.refl _ _) ?_
          · intro wx hSw
            go_simp
          simp only [Act.put, List.setIfInBounds_toArray, List.set_cons_zero, List.set_cons_succ]
          refine wpAnyH_take (i := 7) (v := .string (O.U k)) nat7 (by kernel_rfl) (by kernel_rfl) (by kernel_rfl) (fun _ _ _ h => False.elim h) (Or.inl ⟨by rfl, ?_⟩) (Below.refl _ _) ?_
          · intro wx hSw
            have hx : Below wq0.heap.size wq0 wx := hSw
            have e0 := keepc hx x1_0
            go_simp
          simp only [Act.put, List.setIfInBounds_toArray, List.set_cons_zero, List.set_cons_succ]
          refine wpAnyH_take (i := 10) (v := .pointer (some ⟨wr.heap.size, 2, none⟩)) nat10 (by kernel_rfl) (by kernel_rfl) (by kernel_rfl) (fun _ _ _ h => False.elim h) (Or.inl ⟨by rfl, ?_⟩) (Below.refl _ _) ?_
          · intro wx hSw
            go_simp
          simp only [Act.put, List.setIfInBounds_toArray, List.set_cons_zero, List.set_cons_succ]
          refine wpAnyH_take (i := 11) (v := .string (O.X k)) nat11 (by kernel_rfl) (by kernel_rfl) (by kernel_rfl) (fun _ _ _ h => False.elim h) (Or.inl ⟨by rfl, ?_⟩) (Below.refl _ _) ?_
          · intro wx hSw
            have hx : Below wq0.heap.size wq0 wx := hSw
            have e0 := keepc hx x2_0
            go_simp
          simp only [Act.put, List.setIfInBounds_toArray, List.set_cons_zero, List.set_cons_succ]
          refine wpAnyH_ready (rs := [4, 8]) (by kernel_rfl) (by simp) ?_
          refine AllReadyH.cons nat4 (fun K hK => ?_) (AllReadyH.cons nat8 (fun K hK => ?_) AllReadyH.nil)
          · go_simp
            refine hK.out _ _ (below_one wq0 _) (fun _ => ?_)
            clear hK K
            have hb1 := below_one wq0 (.cells #[.int .u8 (O.K k)] 5)
            have x0_0_1 := keepc hb1 x0_0
            have x1_0_1 := keepc hb1 x1_0
            have x2_0_1 := keepc hb1 x2_0
            have fr_1 : (wq0.alloc (.cells #[.int .u8 (O.K k)] 5)).cell? ⟨wq0.heap.size, 0, none⟩ = some (.int .u8 (O.K k)) := by simp
            generalize wq0.alloc (.cells #[.int .u8 (O.K k)] 5) = wq1 at hb1 x0_0_1 x1_0_1 x2_0_1 fr_1 ⊢
            refine wpAnyH_restart hb1 ?_
            refine wpAnyH_take (i := 5) (v := .string (strOfNums [O.K k])) nat5 (by kernel_rfl) (by kernel_rfl) (by kernel_rfl) (fun _ _ _ h => False.elim h) (Or.inl ⟨by rfl, ?_⟩) (Below.refl _ _) ?_
            · intro wx hSw
              have hx : Below wq1.heap.size wq1 wx := hSw
              have e0 := keepc hx fr_1
              have e1 := cv _ _ e0
              go_simp
            simp only [Act.put, List.setIfInBounds_toArray, List.set_cons_zero, List.set_cons_succ]
            refine wpAnyH_ready (rs := [8]) (by kernel_rfl) (by simp) ?_
            refine AllReadyH.cons nat8 (fun K hK => ?_) AllReadyH.nil
            go_simp
            go_at_call 17
            refine (impl_PutText (O.U k) (by omega) _).mono ?_
            rintro e wq2 ⟨rfl, hb2⟩
            refine hK.out _ _ hb2 (fun _ => ?_)
            clear hK K
            have x0_0_1_2 := keepc hb2 x0_0_1
            have x1_0_1_2 := keepc hb2 x1_0_1
            have x2_0_1_2 := keepc hb2 x2_0_1
            have fr_1_2 := keepc hb2 fr_1
            refine wpAnyH_restart hb2 ?_
            refine wpAnyH_take (i := 9) (v := .string (strOfNums [O.K k] ++ putText (O.U k))) nat9 (by kernel_rfl) (by kernel_rfl) (by kernel_rfl) (fun _ _ _ h => False.elim h) (Or.inl ⟨by rfl, ?_⟩) (Below.refl _ _) ?_
            · intro wx hSw
              go_simp
            simp only [Act.put, List.setIfInBounds_toArray, List.set_cons_zero, List.set_cons_succ]
            refine wpAnyH_ready (rs := [12]) (by kernel_rfl) (by simp) ?_
            refine AllReadyH.cons nat12 (fun K hK => ?_) AllReadyH.nil
            go_simp
            go_at_call 17
            refine (impl_PutText (O.X k) (by omega) _).mono ?_
            rintro e wq3 ⟨rfl, hb3⟩
            refine hK.out _ _ hb3 (fun _ => ?_)
            clear hK K
            have x0_0_1_2_3 := keepc hb3 x0_0_1_2
            have x1_0_1_2_3 := keepc hb3 x1_0_1_2
            have x2_0_1_2_3 := keepc hb3 x2_0_1_2
            have fr_1_2_3 := keepc hb3 fr_1_2
            refine wpAnyH_restart hb3 ?_
            refine wpAnyH_take (i := 13) (v := .string (strOfNums [O.K k] ++ putText (O.U k) ++ putText (O.X k))) nat13 (by kernel_rfl) (by kernel_rfl) (by kernel_rfl) (fun _ _ _ h => False.elim h) (Or.inl ⟨by rfl, ?_⟩) (Below.refl _ _) ?_
            · intro wx hSw
              go_simp
            simp only [Act.put, List.setIfInBounds_toArray, List.set_cons_zero, List.set_cons_succ]
            refine wpAnyH_take (i := 14) (v := .string (opsTxt O T k ++ (strOfNums [O.K k] ++ putText (O.U k) ++ putText (O.X k)))) nat14 (by kernel_rfl) (by kernel_rfl) (by kernel_rfl) (fun _ _ _ h => False.elim h) (Or.inl ⟨by rfl, ?_⟩) (Below.refl _ _) ?_
            · intro wx hSw
              go_simp
            simp only [Act.put, List.setIfInBounds_toArray, List.set_cons_zero, List.set_cons_succ]
            refine wpAnyH_take (i := 15) (v := .string (opsTxt O T k ++ (strOfNums [O.K k] ++ putText (O.U k) ++ putText (O.X k)))) nat15 (by kernel_rfl) (by kernel_rfl) (by kernel_rfl) (fun _ _ _ h => False.elim h) (Or.inl ⟨by rfl, ?_⟩) (Below.refl _ _) ?_
            · intro wx hSw
              go_simp
            simp only [Act.put, List.setIfInBounds_toArray, List.set_cons_zero, List.set_cons_succ]
            refine wpAnyH_done (by kernel_rfl) ?_ _
            refine NoPanic.normal ?_
            have HBL : Below W2.heap.size W2 wq3 := (((hb0).trans (hb1.mono (hb0).size)).trans (hb2.mono ((hb0).trans (hb1.mono (hb0).size)).size)).trans (hb3.mono (((hb0).trans (hb1.mono (hb0).size)).trans (hb2.mono ((hb0).trans (hb1.mono (hb0).size)).size)).size)
            have HBW : Hid (Below W.heap.size W wq3) := HB2.out.trans (HBL.mono HB2.out.size)
            clear HBL
            go_wp2
            exact ⟨⟨k + 1, by go_num, by rw [HT2.out], by omega, HBW⟩, by simp [intOf]; omega⟩
          · go_simp
            go_at_call 17
            refine (impl_PutText (O.U k) (by omega) _).mono ?_
            rintro e wq4 ⟨rfl, hb4⟩
            refine hK.out _ _ hb4 (fun _ => ?_)
            clear hK K
            have x0_0_4 := keepc hb4 x0_0
            have x1_0_4 := keepc hb4 x1_0
            have x2_0_4 := keepc hb4 x2_0
            refine wpAnyH_restart hb4 ?_
            refine wpAnyH_ready (rs := [4, 12]) (by kernel_rfl) (by simp) ?_
            refine AllReadyH.cons nat4 (fun K hK => ?_) (AllReadyH.cons nat12 (fun K hK => ?_) AllReadyH.nil)
            · go_simp
              refine hK.out _ _ (below_one wq4 _) (fun _ => ?_)
              clear hK K
              have hb5 := below_one wq4 (.cells #[.int .u8 (O.K k)] 5)
              have x0_0_4_5 := keepc hb5 x0_0_4
              have x1_0_4_5 := keepc hb5 x1_0_4
              have x2_0_4_5 := keepc hb5 x2_0_4
              have fr_5 : (wq4.alloc (.cells #[.int .u8 (O.K k)] 5)).cell? ⟨wq4.heap.size, 0, none⟩ = some (.int .u8 (O.K k)) := by simp
              generalize wq4.alloc (.cells #[.int .u8 (O.K k)] 5) = wq5 at hb5 x0_0_4_5 x1_0_4_5 x2_0_4_5 fr_5 ⊢
              refine wpAnyH_restart hb5 ?_
              refine wpAnyH_take (i := 5) (v := .string (strOfNums [O.K k])) nat5 (by kernel_rfl) (by kernel_rfl) (by kernel_rfl) (fun _ _ _ h => False.elim h) (Or.inl ⟨by rfl, ?_⟩) (Below.refl _ _) ?_
              · intro wx hSw
                have hx : Below wq5.heap.size wq5 wx := hSw
                have e0 := keepc hx fr_5
                have e1 := cv _ _ e0
                go_simp
              simp only [Act.put, List.setIfInBounds_toArray, List.set_cons_zero, List.set_cons_succ]
              refine wpAnyH_take (i := 9) (v := .string (strOfNums [O.K k] ++ putText (O.U k))) nat9 (by kernel_rfl) (by kernel_rfl) (by kernel_rfl) (fun _ _ _ h => False.elim h) (Or.inl ⟨by rfl, ?_⟩) (Below.refl _ _) ?_
              · intro wx hSw
                go_simp
              simp only [Act.put, List.setIfInBounds_toArray, List.set_cons_zero, List.set_cons_succ]
              refine wpAnyH_ready (rs := [12]) (by kernel_rfl) (by simp) ?_
              refine AllReadyH.cons nat12 (fun K hK => ?_) AllReadyH.nil
              go_simp
              go_at_call 17
              refine (impl_PutText (O.X k) (by omega) _).mono ?_
              rintro e wq6 ⟨rfl, hb6⟩
              refine hK.out _ _ hb6 (fun _ => ?_)
              clear hK K
              have x0_0_4_5_6 := keepc hb6 x0_0_4_5
              have x1_0_4_5_6 := keepc hb6 x1_0_4_5
              have x2_0_4_5_6 := keepc hb6 x2_0_4_5
              have fr_5_6 := keepc hb6 fr_5
              refine wpAnyH_restart hb6 ?_
              refine wpAnyH_take (i := 13) (v := .string (strOfNums [O.K k] ++ putText (O.U k) ++ putText (O.X k))) nat13 (by kernel_rfl) (by kernel_rfl) (by kernel_rfl) (fun _ _ _ h => False.elim h) (Or.inl ⟨by rfl, ?_⟩) (Below.refl _ _) ?_
              · intro wx hSw
                go_simp
              simp only [Act.put, List.setIfInBounds_toArray, List.set_cons_zero, List.set_cons_succ]
              refine wpAnyH_take (i := 14) (v := .string (opsTxt O T k ++ (strOfNums [O.K k] ++ putText (O.U k) ++ putText (O.X k)))) nat14 (by kernel_rfl) (by kernel_rfl) (by kernel_rfl) (fun _ _ _ h => False.elim h) (Or.inl ⟨by rfl, ?_⟩) (Below.refl _ _) ?_
              · intro wx hSw
                go_simp
              simp only [Act.put, List.setIfInBounds_toArray, List.set_cons_zero, List.set_cons_succ]
              refine wpAnyH_take (i := 15) (v := .string (opsTxt O T k ++ (strOfNums [O.K k] ++ putText (O.U k) ++ putText (O.X k)))) nat15 (by kernel_rfl) (by kernel_rfl) (by kernel_rfl) (fun _ _ _ h => False.elim h) (Or.inl ⟨by rfl, ?_⟩) (Below.refl _ _) ?_
              · intro wx hSw
                go_simp
              simp only [Act.put, List.setIfInBounds_toArray, List.set_cons_zero, List.set_cons_succ]
              refine wpAnyH_done (by kernel_rfl) ?_ _
              refine NoPanic.normal ?_
              have HBL : Below W2.heap.size W2 wq6 := (((hb0).trans (hb4.mono (hb0).size)).trans (hb5.mono ((hb0).trans (hb4.mono (hb0).size)).size)).trans (hb6.mono (((hb0).trans (hb4.mono (hb0).size)).trans (hb5.mono ((hb0).trans (hb4.mono (hb0).size)).size)).size)
              have HBW : Hid (Below W.heap.size W wq6) := HB2.out.trans (HBL.mono HB2.out.size)
              clear HBL
              go_wp2
              exact ⟨⟨k + 1, by go_num, by rw [HT2.out], by omega, HBW⟩, by simp [intOf]; omega⟩
            · go_simp
              go_at_call 17
              refine (impl_PutText (O.X k) (by omega) _).mono ?_
              rintro e wq7 ⟨rfl, hb7⟩
              refine hK.out _ _ hb7 (fun _ => ?_)
              clear hK K
              have x0_0_4_7 := keepc hb7 x0_0_4
              have x1_0_4_7 := keepc hb7 x1_0_4
              have x2_0_4_7 := keepc hb7 x2_0_4
              refine wpAnyH_restart hb7 ?_
              refine wpAnyH_ready (rs := [4]) (by kernel_rfl) (by simp) ?_
              refine AllReadyH.cons nat4 (fun K hK => ?_) AllReadyH.nil
              go_simp
              refine hK.out _ _ (below_one wq7 _) (fun _ => ?_)
              clear hK K
              have hb8 := below_one wq7 (.cells #[.int .u8 (O.K k)] 5)
              have x0_0_4_7_8 := keepc hb8 x0_0_4_7
              have x1_0_4_7_8 := keepc hb8 x1_0_4_7
              have x2_0_4_7_8 := keepc hb8 x2_0_4_7
              have fr_8 : (wq7.alloc (.cells #[.int .u8 (O.K k)] 5)).cell? ⟨wq7.heap.size, 0, none⟩ = some (.int .u8 (O.K k)) := by simp
              generalize wq7.alloc (.cells #[.int .u8 (O.K k)] 5) = wq8 at hb8 x0_0_4_7_8 x1_0_4_7_8 x2_0_4_7_8 fr_8 ⊢
              refine wpAnyH_restart hb8 ?_
              refine wpAnyH_take (i := 5) (v := .string (strOfNums [O.K k])) nat5 (by kernel_rfl) (by kernel_rfl) (by kernel_rfl) (fun _ _ _ h => False.elim h) (Or.inl ⟨by rfl, ?_⟩) (Below.refl _ _) ?_
              · intro wx hSw
                have hx : Below wq8.heap.size wq8 wx := hSw
                have e0 := keepc hx fr_8
                have e1 := cv _ _ e0
                go_simp
              simp only [Act.put, List.setIfInBounds_toArray, List.set_cons_zero, List.set_cons_succ]
              refine wpAnyH_take (i := 9) (v := .string (strOfNums [O.K k] ++ putText (O.U k))) nat9 (by kernel_rfl) (by kernel_rfl) (by kernel_rfl) (fun _ _ _ h => False.elim h) (Or.inl ⟨by rfl, ?_⟩) (Below.refl _ _) ?_
              · intro wx hSw
                go_simp
              simp only [Act.put, List.setIfInBounds_toArray, List.set_cons_zero, List.set_cons_succ]
              refine wpAnyH_take (i := 13) (v := .string (strOfNums [O.K k] ++ putText (O.U k) ++ putText (O.X k))) nat13 (by kernel_rfl) (by kernel_rfl) (by kernel_rfl) (fun _ _ _ h => False.elim h) (Or.inl ⟨by rfl, ?_⟩) (Below.refl _ _) ?_
              · intro wx hSw
                go_simp
              simp only [Act.put, List.setIfInBounds_toArray, List.set_cons_zero, List.set_cons_succ]
              refine wpAnyH_take (i := 14) (v := .string (opsTxt O T k ++ (strOfNums [O.K k] ++ putText (O.U k) ++ putText (O.X k)))) nat14 (by kernel_rfl) (by kernel_rfl) (by kernel_rfl) (fun _ _ _ h => False.elim h) (Or.inl ⟨by rfl, ?_⟩) (Below.refl _ _) ?_
              · intro wx hSw
                go_simp
              simp only [Act.put, List.setIfInBounds_toArray, List.set_cons_zero, List.set_cons_succ]
              refine wpAnyH_take (i := 15) (v := .string (opsTxt O T k ++ (strOfNums [O.K k] ++ putText (O.U k) ++ putText (O.X k)))) nat15 (by kernel_rfl) (by kernel_rfl) (by kernel_rfl) (fun _ _ _ h => False.elim h) (Or.inl ⟨by rfl, ?_⟩) (Below.refl _ _) ?_
              · intro wx hSw
                go_simp
              simp only [Act.put, List.setIfInBounds_toArray, List.set_cons_zero, List.set_cons_succ]
              refine wpAnyH_done (by kernel_rfl) ?_ _
              refine NoPanic.normal ?_
              have HBL : Below W2.heap.size W2 wq8 := (((hb0).trans (hb4.mono (hb0).size)).trans (hb7.mono ((hb0).trans (hb4.mono (hb0).size)).size)).trans (hb8.mono (((hb0).trans (hb4.mono (hb0).size)).trans (hb7.mono ((hb0).trans (hb4.mono (hb0).size)).size)).size)
              have HBW : Hid (Below W.heap.size W wq8) := HB2.out.trans (HBL.mono HB2.out.size)
              clear HBL
              go_wp2
              exact ⟨⟨k + 1, by go_num, by rw [HT2.out], by omega, HBW⟩, by simp [intOf]; omega⟩
        · obtain rfl : k = len := by omega
          go_wp2
          go_ret
          exact ⟨ret_strT HV.out, HB0.out.trans (HW.out.mono HB0.out.size)⟩

end Go.Proofs.Ytljmfdcilnbjaab
