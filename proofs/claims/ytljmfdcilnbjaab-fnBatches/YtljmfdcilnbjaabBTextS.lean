/- BatchText of the model. -/
import Derived.Test.YtljmfdcilnbjaabBText
namespace Go.Proofs.Ytljmfdcilnbjaab
set_option maxRecDepth 100000
open Go.RowKit Go.Deep

set_option maxHeartbeats 4000000 in
theorem spec_BatchText (q : Int) (a : Option Addr) (len cap : Nat) (O : Ops) (w : World) (hl : len ≤ 1048576) (hS : OpAt w w.heap.size a len O) :
    Calls Try.prog 8 #[.agg #[.int .i64 q, .slice a len cap]] w fun e w' => e = .returned (.string (batchText q len O)) ∧ Below w.heap.size w w' := by
  have cb := fun (wx : World) (h : OpAt wx wx.heap.size a len O) => spec_BatchOk q a len cap O wx hl h
  have HS : Hid (OpAt w w.heap.size a len O) := hS
  have hB0 : Below w.heap.size w (w.alloc (.cells #[.int .i64 q, .slice a len cap] 26)) := below1 _ _
  have hK : BoxIs (w.alloc (.cells #[.int .i64 q, .slice a len cap] 26)) w.heap.size #[.int .i64 q, .slice a len cap] 26 := BoxIs.new w _ _ rfl
  clear hS
  cases hok : batchOkB q len O with
  | false =>
    rw [hok] at cb
    have HV : Hid (⟨#[]⟩ = batchText q len O) := (batchText_no hok).symm
    clear hok
    go_enter Try.func8, Try.ntmps8
    go_wp2_with fail
    generalize w.alloc (.cells #[.int .i64 q, .slice a len cap] 26) = W at hB0 hK ⊢
    refine (cb W ((HS.out.on hB0 (Nat.le_refl _)).mono hB0.size)).mono ?_
    rintro e w1 ⟨rfl, hB1⟩
    have HB1 : Hid (Below w.heap.size w w1) := hB0.trans (hB1.mono hB0.size)
    clear cb hK
    go_wp2
    go_ret
    exact ⟨ret_strT HV.out, HB1.out⟩
  | true =>
    rw [hok] at cb
    have HV : Hid (opsTxt O (pv q ++ pv len) len = batchText q len O) := (batchText_yes hok).symm
    obtain ⟨⟨r1, r2, r3, r4⟩, hent⟩ := batchOk_out hok
    have HE : Hid (∀ i, i < len → entOk (opEnt O q) i = true) := hent
    have u1 : IntKind.u64.wrap q = q := by rw [IntKind.wrap_u64]; omega
    have u2 : IntKind.u64.wrap (len : Int) = (len : Int) := by rw [IntKind.wrap_u64]; omega
    have s1 := pv_size q
    have s2 := pv_size len
    have ra : ∀ wx : World, (Op.stringOp .add (pv q) (pv len)).run Try.prog wx = .ok (.string (pv q ++ pv len)) wx := fun wx => run_string_add_sum wx _ _ (by omega)
    clear hok hent
    go_enter Try.func8, Try.ntmps8
    go_wp2_with fail
    generalize w.alloc (.cells #[.int .i64 q, .slice a len cap] 26) = W at hB0 hK ⊢
    have hgW := hK.lt
    refine (cb W ((HS.out.on hB0 (Nat.le_refl _)).mono hB0.size)).mono ?_
    rintro e w1 ⟨rfl, hB1⟩
    have HB0 : Hid (Below w.heap.size w W) := hB0
    have HK : Hid _ := hK.hid
    have k1 := hK.next hB1
    have hstart : w1.drew.cell? ⟨w.heap.size, 0, none⟩ = some (.int .i64 q) ∧ w1.drew.cell? ⟨w.heap.size, 1, none⟩ = some (.slice a len cap) ∧ Hid (Below W.heap.size W w1.drew) := ⟨k1.cell 0, k1.cell 1, hB1.drew⟩
    clear cb hK hB0 k1 hB1
    go_wp2_with fail
    go_region_held3 (fun (w' : World) => w'.cell? ⟨w.heap.size, 0, none⟩ = some (.int .i64 q) ∧ w'.cell? ⟨w.heap.size, 1, none⟩ = some (.slice a len cap) ∧ Hid (Below W.heap.size W w')) (assumption)
      ((go_at_call 23; refine (held_callE (S := fun (w' : World) => w'.cell? ⟨w.heap.size, 0, none⟩ = some (.int .i64 q) ∧ w'.cell? ⟨w.heap.size, 1, none⟩ = some (.slice a len cap) ∧ Hid (Below W.heap.size W w')) (box2_keep hgW) (by assumption) (spec_PutVar _ (by omega) (by omega) _)).mono ?_; rintro e w1 ⟨rfl, hS⟩))
    all_goals
      have HB1 : Hid (Below W.heap.size W w1) := hS.2.2
      clear hS hstart ra u1 u2
      have k1 := HK.out.below HB1.out hgW
      have k11 : w1.cell? ⟨w.heap.size, 1, none⟩ = some (.slice a len cap) := k1.cell 1
      have hT : (pv q ++ pv len).size ≤ 20 := by rw [ByteArray.size_append]; omega
      have HT : Hid (opsTxt O (pv q ++ pv len) 0 = pv q ++ pv len) := rfl
      generalize pv q ++ pv len = T at hT HT HV ⊢
      go_wp2
      clear k11 k1
      have HSW : Hid (OpAt W W.heap.size a len O) := (HS.out.on HB0.out (Nat.le_refl _)).mono HB0.out.size
      go_loopw [3, 4] (fun s i wr => ∃ k : Nat, i = .int .i64 k ∧ s = .string (opsTxt O T k) ∧ k ≤ len ∧ Hid (Below W.heap.size W wr)) (fun _ i _ => len - (intOf i).toNat)
      case atStart => exact ⟨0, rfl, rfl, by omega, HB1⟩
      case round =>
        obtain ⟨k, rfl, rfl, hk, HW⟩ := hrel
        clear HB1
        have y1 : wr.cell? ⟨w.heap.size, 1, none⟩ = some (.slice a len cap) := (HK.out.below HW.out hgW).cell 1
        by_cases hlt : k < len
        · obtain ⟨b, off, rfl, hb, c0, c1, c2⟩ := (HSW.out.below HW.out).at hlt
          have hki : (k : Int) < (len : Int) := by omega
          have hwz := HW.out.size
          obtain ⟨b0, b1, b2, b3, b4⟩ := ent_bd (HE.out k hlt)
          have z := opsTxt_size (s := T) HE.out k hk
          have zu := putText_size (O.U k)
          have zx := putText_size (O.X k)
          have z1 : (strOfNums [O.K k]).size = 1 := by rw [strOfNums_size]; rfl
          have hT2 : opsTxt O T (k + 1) = opsTxt O T k ++ (strOfNums [O.K k] ++ putText (O.U k) ++ putText (O.X k)) := rfl
          have hT3 : opsTxt O T (k + 1) = opsTxt O T k ++ strOfNums [O.K k] ++ putText (O.U k) ++ putText (O.X k) := by rw [hT2, ByteArray.append_assoc, ByteArray.append_assoc, ByteArray.append_assoc]
          have t1 : ∀ wx : World, (Op.stringOp .add (opsTxt O T k) (strOfNums [O.K k])).run Try.prog wx = .ok (.string (opsTxt O T k ++ strOfNums [O.K k])) wx := fun wx => run_string_add_sum wx _ _ (by omega)
          have t2 : ∀ wx : World, (Op.stringOp .add (opsTxt O T k ++ strOfNums [O.K k]) (putText (O.U k))).run Try.prog wx = .ok (.string (opsTxt O T k ++ strOfNums [O.K k] ++ putText (O.U k))) wx := fun wx => run_string_add_sum wx _ _ (by rw [ByteArray.size_append]; omega)
          have t3 : ∀ wx : World, (Op.stringOp .add (opsTxt O T k ++ strOfNums [O.K k] ++ putText (O.U k)) (putText (O.X k))).run Try.prog wx = .ok (.string (opsTxt O T k ++ strOfNums [O.K k] ++ putText (O.U k) ++ putText (O.X k))) wx := fun wx => run_string_add_sum wx _ _ (by rw [ByteArray.size_append, ByteArray.size_append]; omega)
          have hw8 : IntKind.u8.wrap (O.K k) = O.K k := by rw [IntKind.wrap_u8]; omega
          have HT2 : Hid _ := hT3
          clear hT2 hT3 z z1 zu zx
          have cv := fun (wx : World) (g : Nat) (h : wx.cell? ⟨g, 0, none⟩ = some (.int .u8 (O.K k))) => conv_one (P := Try.prog) 22 5 9 Try.underlying22 Try.underlying5 Try.underlying9 wx g (O.K k) h
          have x0 := c0
          have x1 := c1
          have x2 := c2
          clear c0 c1 c2 hb
          go_wp2_with fail
          refine wp_region_noPanic ?_
          refine wp_region_held_drew (S := fun x => Below wr.heap.size wr x) (by kernel_rfl) (Below.refl _ _).drew (fun hH => ?_)
          have hb0 : Below wr.heap.size wr wr.drew := hH
          clear hH
          have x0_0 := keepc hb0 x0
          have x1_0 := keepc hb0 x1
          have x2_0 := keepc hb0 x2
          have y1_0 := keepc hb0 y1
          generalize wr.drew = wq0 at hb0 x0_0 x1_0 x2_0 y1_0 ⊢
          refine wpAnyH_restart hb0 ?_
          refine wpAnyH_take (i := 0) (v := .string (opsTxt O T k)) nat0 (by kernel_rfl) (by kernel_rfl) (by kernel_rfl) (fun _ _ _ h => False.elim h) (Or.inl ⟨by rfl, ?_⟩) (Below.refl _ _) ?_
          · intro wx hSw
            go_simp
          simp only [Act.put, List.setIfInBounds_toArray, List.set_cons_zero, List.set_cons_succ]
          refine wpAnyH_take (i := 1) (v := .pointer (some ⟨w.heap.size, 1, none⟩)) nat1 (by kernel_rfl) (by kernel_rfl) (by kernel_rfl) (fun _ _ _ h => False.elim h) (Or.inl ⟨by rfl, ?_⟩) (Below.refl _ _) ?_
          · intro wx hSw
            go_simp
          simp only [Act.put, List.setIfInBounds_toArray, List.set_cons_zero, List.set_cons_succ]
          refine wpAnyH_take (i := 2) (v := .slice (some ⟨b, off, none⟩) len cap) nat2 (by kernel_rfl) (by kernel_rfl) (by kernel_rfl) (fun _ _ _ h => False.elim h) (Or.inl ⟨by rfl, ?_⟩) (Below.refl _ _) ?_
          · intro wx hSw
            have hx : Below wq0.heap.size wq0 wx := hSw
            have e0 := keepc hx y1_0
            go_simp
          simp only [Act.put, List.setIfInBounds_toArray, List.set_cons_zero, List.set_cons_succ]
          refine wpAnyH_take (i := 3) (v := .int .i64 k) nat3 (by kernel_rfl) (by kernel_rfl) (by kernel_rfl) (fun _ _ _ h => False.elim h) (Or.inl ⟨by rfl, ?_⟩) (Below.refl _ _) ?_
          · intro wx hSw
            go_simp
          simp only [Act.put, List.setIfInBounds_toArray, List.set_cons_zero, List.set_cons_succ]
          refine wpAnyH_take (i := 4) (v := .pointer (some ⟨b, off + k * 3, none⟩)) nat4 (by kernel_rfl) (by kernel_rfl) (by kernel_rfl) (fun _ _ _ h => False.elim h) (Or.inl ⟨by rfl, ?_⟩) (Below.refl _ _) ?_
          · intro wx hSw
            go_simp
          simp only [Act.put, List.setIfInBounds_toArray, List.set_cons_zero, List.set_cons_succ]
          refine wpAnyH_take (i := 5) (v := .pointer (some ⟨b, off + k * 3, none⟩)) nat5 (by kernel_rfl) (by kernel_rfl) (by kernel_rfl) (fun _ _ _ h => False.elim h) (Or.inl ⟨by rfl, ?_⟩) (Below.refl _ _) ?_
          · intro wx hSw
            go_simp
          simp only [Act.put, List.setIfInBounds_toArray, List.set_cons_zero, List.set_cons_succ]
          refine wpAnyH_take (i := 6) (v := .int .i64 (O.K k)) nat6 (by kernel_rfl) (by kernel_rfl) (by kernel_rfl) (fun _ _ _ h => False.elim h) (Or.inl ⟨by rfl, ?_⟩) (Below.refl _ _) ?_
          · intro wx hSw
            have hx : Below wq0.heap.size wq0 wx := hSw
            have e0 := keepc hx x0_0
            go_simp
          simp only [Act.put, List.setIfInBounds_toArray, List.set_cons_zero, List.set_cons_succ]
          refine wpAnyH_take (i := 7) (v := .int .u8 (O.K k)) nat7 (by kernel_rfl) (by kernel_rfl) (by kernel_rfl) (fun _ _ _ h => False.elim h) (Or.inl ⟨by rfl, ?_⟩) (Below.refl _ _) ?_
          · intro wx hSw
            go_simp
          simp only [Act.put, List.setIfInBounds_toArray, List.set_cons_zero, List.set_cons_succ]
          refine wpAnyH_take (i := 11) (v := .pointer (some ⟨w.heap.size, 1, none⟩)) nat11 (by kernel_rfl) (by kernel_rfl) (by kernel_rfl) (fun _ _ _ h => False.elim h) (Or.inl ⟨by rfl, ?_⟩) (Below.refl _ _) ?_
          · intro wx hSw
            go_simp
          simp only [Act.put, List.setIfInBounds_toArray, List.set_cons_zero, List.set_cons_succ]
          refine wpAnyH_take (i := 12) (v := .slice (some ⟨b, off, none⟩) len cap) nat12 (by kernel_rfl) (by kernel_rfl) (by kernel_rfl) (fun _ _ _ h => False.elim h) (Or.inl ⟨by rfl, ?_⟩) (Below.refl _ _) ?_
          · intro wx hSw
            have hx : Below wq0.heap.size wq0 wx := hSw
            have e0 := keepc hx y1_0
            go_simp
          simp only [Act.put, List.setIfInBounds_toArray, List.set_cons_zero, List.set_cons_succ]
          refine wpAnyH_take (i := 13) (v := .int .i64 k) nat13 (by kernel_rfl) (by kernel_rfl) (by kernel_rfl) (fun _ _ _ h => False.elim h) (Or.inl ⟨by rfl, ?_⟩) (Below.refl _ _) ?_
          · intro wx hSw
            go_simp
          simp only [Act.put, List.setIfInBounds_toArray, List.set_cons_zero, List.set_cons_succ]
          refine wpAnyH_take (i := 14) (v := .pointer (some ⟨b, off + k * 3, none⟩)) nat14 (by kernel_rfl) (by kernel_rfl) (by kernel_rfl) (fun _ _ _ h => False.elim h) (Or.inl ⟨by rfl, ?_⟩) (Below.refl _ _) ?_
          · intro wx hSw
            go_simp
          simp only [Act.put, List.setIfInBounds_toArray, List.set_cons_zero, List.set_cons_succ]
          refine wpAnyH_take (i := 15) (v := .pointer (some ⟨b, off + k * 3 + 1, none⟩)) nat15 (by kernel_rfl) (by kernel_rfl) (by kernel_rfl) (fun _ _ _ h => False.elim h) (Or.inl ⟨by rfl, ?_⟩) (Below.refl _ _) ?_
          · intro wx hSw
            go_simp
          simp only [Act.put, List.setIfInBounds_toArray, List.set_cons_zero, List.set_cons_succ]
          refine wpAnyH_take (i := 16) (v := .string (O.U k)) nat16 (by kernel_rfl) (by kernel_rfl) (by kernel_rfl) (fun _ _ _ h => False.elim h) (Or.inl ⟨by rfl, ?_⟩) (Below.refl _ _) ?_
          · intro wx hSw
            have hx : Below wq0.heap.size wq0 wx := hSw
            have e0 := keepc hx x1_0
            go_simp
          simp only [Act.put, List.setIfInBounds_toArray, List.set_cons_zero, List.set_cons_succ]
          refine wpAnyH_take (i := 19) (v := .pointer (some ⟨w.heap.size, 1, none⟩)) nat19 (by kernel_rfl) (by kernel_rfl) (by kernel_rfl) (fun _ _ _ h => False.elim h) (Or.inl ⟨by rfl, ?_⟩) (Below.refl _ _) ?_
          · intro wx hSw
            go_simp
          simp only [Act.put, List.setIfInBounds_toArray, List.set_cons_zero, List.set_cons_succ]
          refine wpAnyH_take (i := 20) (v := .slice (some ⟨b, off, none⟩) len cap) nat20 (by kernel_rfl) (by kernel_rfl) (by kernel_rfl) (fun _ _ _ h => False.elim h) (Or.inl ⟨by rfl, ?_⟩) (Below.refl _ _) ?_
          · intro wx hSw
            have hx : Below wq0.heap.size wq0 wx := hSw
            have e0 := keepc hx y1_0
            go_simp
          simp only [Act.put, List.setIfInBounds_toArray, List.set_cons_zero, List.set_cons_succ]
          refine wpAnyH_take (i := 21) (v := .int .i64 k) nat21 (by kernel_rfl) (by kernel_rfl) (by kernel_rfl) (fun _ _ _ h => False.elim h) (Or.inl ⟨by rfl, ?_⟩) (Below.refl _ _) ?_
          · intro wx hSw
            go_simp
          simp only [Act.put, List.setIfInBounds_toArray, List.set_cons_zero, List.set_cons_succ]
          refine wpAnyH_take (i := 22) (v := .pointer (some ⟨b, off + k * 3, none⟩)) nat22 (by kernel_rfl) (by kernel_rfl) (by kernel_rfl) (fun _ _ _ h => False.elim h) (Or.inl ⟨by rfl, ?_⟩) (Below.refl _ _) ?_
          · intro wx hSw
            go_simp
          simp only [Act.put, List.setIfInBounds_toArray, List.set_cons_zero, List.set_cons_succ]
          refine wpAnyH_take (i := 23) (v := .pointer (some ⟨b, off + k * 3 + 2, none⟩)) nat23 (by kernel_rfl) (by kernel_rfl) (by kernel_rfl) (fun _ _ _ h => False.elim h) (Or.inl ⟨by rfl, ?_⟩) (Below.refl _ _) ?_
          · intro wx hSw
            go_simp
          simp only [Act.put, List.setIfInBounds_toArray, List.set_cons_zero, List.set_cons_succ]
          refine wpAnyH_take (i := 24) (v := .string (O.X k)) nat24 (by kernel_rfl) (by kernel_rfl) (by kernel_rfl) (fun _ _ _ h => False.elim h) (Or.inl ⟨by rfl, ?_⟩) (Below.refl _ _) ?_
          · intro wx hSw
            have hx : Below wq0.heap.size wq0 wx := hSw
            have e0 := keepc hx x2_0
            go_simp
          simp only [Act.put, List.setIfInBounds_toArray, List.set_cons_zero, List.set_cons_succ]
          refine wpAnyH_ready (rs := [8, 17]) (by kernel_rfl) (by simp) ?_
          refine AllReadyH.cons nat8 (fun K hK => ?_) (AllReadyH.cons nat17 (fun K hK => ?_) AllReadyH.nil)
          · go_simp
            refine hK.out _ _ (below_one wq0 _) (fun _ => ?_)
            clear hK K
            have hb1 := below_one wq0 (.cells #[.int .u8 (O.K k)] 5)
            have x0_0_1 := keepc hb1 x0_0
            have x1_0_1 := keepc hb1 x1_0
            have x2_0_1 := keepc hb1 x2_0
            have y1_0_1 := keepc hb1 y1_0
            have fr_1 : (wq0.alloc (.cells #[.int .u8 (O.K k)] 5)).cell? ⟨wq0.heap.size, 0, none⟩ = some (.int .u8 (O.K k)) := by simp
            generalize wq0.alloc (.cells #[.int .u8 (O.K k)] 5) = wq1 at hb1 x0_0_1 x1_0_1 x2_0_1 y1_0_1 fr_1 ⊢
            refine wpAnyH_restart hb1 ?_
            refine wpAnyH_take (i := 9) (v := .string (strOfNums [O.K k])) nat9 (by kernel_rfl) (by kernel_rfl) (by kernel_rfl) (fun _ _ _ h => False.elim h) (Or.inl ⟨by rfl, ?_⟩) (Below.refl _ _) ?_
            · intro wx hSw
              have hx : Below wq1.heap.size wq1 wx := hSw
              have e0 := keepc hx fr_1
              have e1 := cv _ _ e0
              go_simp
            simp only [Act.put, List.setIfInBounds_toArray, List.set_cons_zero, List.set_cons_succ]
            refine wpAnyH_take (i := 10) (v := .string (opsTxt O T k ++ strOfNums [O.K k])) nat10 (by kernel_rfl) (by kernel_rfl) (by kernel_rfl) (fun _ _ _ h => False.elim h) (Or.inl ⟨by rfl, ?_⟩) (Below.refl _ _) ?_
            · intro wx hSw
              go_simp
            simp only [Act.put, List.setIfInBounds_toArray, List.set_cons_zero, List.set_cons_succ]
            refine wpAnyH_ready (rs := [17]) (by kernel_rfl) (by simp) ?_
            refine AllReadyH.cons nat17 (fun K hK => ?_) AllReadyH.nil
            go_simp
            go_at_call 24
            refine (spec_PutText (O.U k) (by omega) _).mono ?_
            rintro e wq2 ⟨rfl, hb2⟩
            refine hK.out _ _ hb2 (fun _ => ?_)
            clear hK K
            have x0_0_1_2 := keepc hb2 x0_0_1
            have x1_0_1_2 := keepc hb2 x1_0_1
            have x2_0_1_2 := keepc hb2 x2_0_1
            have y1_0_1_2 := keepc hb2 y1_0_1
            have fr_1_2 := keepc hb2 fr_1
            refine wpAnyH_restart hb2 ?_
            refine wpAnyH_take (i := 18) (v := .string (opsTxt O T k ++ strOfNums [O.K k] ++ putText (O.U k))) nat18 (by kernel_rfl) (by kernel_rfl) (by kernel_rfl) (fun _ _ _ h => False.elim h) (Or.inl ⟨by rfl, ?_⟩) (Below.refl _ _) ?_
            · intro wx hSw
              go_simp
            simp only [Act.put, List.setIfInBounds_toArray, List.set_cons_zero, List.set_cons_succ]
            refine wpAnyH_ready (rs := [25]) (by kernel_rfl) (by simp) ?_
            refine AllReadyH.cons nat25 (fun K hK => ?_) AllReadyH.nil
            go_simp
            go_at_call 24
            refine (spec_PutText (O.X k) (by omega) _).mono ?_
            rintro e wq3 ⟨rfl, hb3⟩
            refine hK.out _ _ hb3 (fun _ => ?_)
            clear hK K
            have x0_0_1_2_3 := keepc hb3 x0_0_1_2
            have x1_0_1_2_3 := keepc hb3 x1_0_1_2
            have x2_0_1_2_3 := keepc hb3 x2_0_1_2
            have y1_0_1_2_3 := keepc hb3 y1_0_1_2
            have fr_1_2_3 := keepc hb3 fr_1_2
            refine wpAnyH_restart hb3 ?_
            refine wpAnyH_take (i := 26) (v := .string (opsTxt O T k ++ strOfNums [O.K k] ++ putText (O.U k) ++ putText (O.X k))) nat26 (by kernel_rfl) (by kernel_rfl) (by kernel_rfl) (fun _ _ _ h => False.elim h) (Or.inl ⟨by rfl, ?_⟩) (Below.refl _ _) ?_
            · intro wx hSw
              go_simp
            simp only [Act.put, List.setIfInBounds_toArray, List.set_cons_zero, List.set_cons_succ]
            refine wpAnyH_take (i := 27) (v := .string (opsTxt O T k ++ strOfNums [O.K k] ++ putText (O.U k) ++ putText (O.X k))) nat27 (by kernel_rfl) (by kernel_rfl) (by kernel_rfl) (fun _ _ _ h => False.elim h) (Or.inl ⟨by rfl, ?_⟩) (Below.refl _ _) ?_
            · intro wx hSw
              go_simp
            simp only [Act.put, List.setIfInBounds_toArray, List.set_cons_zero, List.set_cons_succ]
            refine wpAnyH_done (by kernel_rfl) ?_ _
            refine NoPanic.normal ?_
            have HBL : Below wr.heap.size wr wq3 := (((hb0).trans (hb1.mono (hb0).size)).trans (hb2.mono ((hb0).trans (hb1.mono (hb0).size)).size)).trans (hb3.mono (((hb0).trans (hb1.mono (hb0).size)).trans (hb2.mono ((hb0).trans (hb1.mono (hb0).size)).size)).size)
            have HBW : Hid (Below W.heap.size W wq3) := HW.out.trans (HBL.mono hwz)
            clear HBL
            go_wp2
            exact ⟨⟨k + 1, by go_num, by rw [HT2.out], by omega, HBW⟩, by simp [intOf]; omega⟩
          · go_simp
            go_at_call 24
            refine (spec_PutText (O.U k) (by omega) _).mono ?_
            rintro e wq4 ⟨rfl, hb4⟩
            refine hK.out _ _ hb4 (fun _ => ?_)
            clear hK K
            have x0_0_4 := keepc hb4 x0_0
            have x1_0_4 := keepc hb4 x1_0
            have x2_0_4 := keepc hb4 x2_0
            have y1_0_4 := keepc hb4 y1_0
            refine wpAnyH_restart hb4 ?_
            refine wpAnyH_ready (rs := [8, 25]) (by kernel_rfl) (by simp) ?_
            refine AllReadyH.cons nat8 (fun K hK => ?_) (AllReadyH.cons nat25 (fun K hK => ?_) AllReadyH.nil)
            · go_simp
              refine hK.out _ _ (below_one wq4 _) (fun _ => ?_)
              clear hK K
              have hb5 := below_one wq4 (.cells #[.int .u8 (O.K k)] 5)
              have x0_0_4_5 := keepc hb5 x0_0_4
              have x1_0_4_5 := keepc hb5 x1_0_4
              have x2_0_4_5 := keepc hb5 x2_0_4
              have y1_0_4_5 := keepc hb5 y1_0_4
              have fr_5 : (wq4.alloc (.cells #[.int .u8 (O.K k)] 5)).cell? ⟨wq4.heap.size, 0, none⟩ = some (.int .u8 (O.K k)) := by simp
              generalize wq4.alloc (.cells #[.int .u8 (O.K k)] 5) = wq5 at hb5 x0_0_4_5 x1_0_4_5 x2_0_4_5 y1_0_4_5 fr_5 ⊢
              refine wpAnyH_restart hb5 ?_
              refine wpAnyH_take (i := 9) (v := .string (strOfNums [O.K k])) nat9 (by kernel_rfl) (by kernel_rfl) (by kernel_rfl) (fun _ _ _ h => False.elim h) (Or.inl ⟨by rfl, ?_⟩) (Below.refl _ _) ?_
              · intro wx hSw
                have hx : Below wq5.heap.size wq5 wx := hSw
                have e0 := keepc hx fr_5
                have e1 := cv _ _ e0
                go_simp
              simp only [Act.put, List.setIfInBounds_toArray, List.set_cons_zero, List.set_cons_succ]
              refine wpAnyH_take (i := 10) (v := .string (opsTxt O T k ++ strOfNums [O.K k])) nat10 (by kernel_rfl) (by kernel_rfl) (by kernel_rfl) (fun _ _ _ h => False.elim h) (Or.inl ⟨by rfl, ?_⟩) (Below.refl _ _) ?_
              · intro wx hSw
                go_simp
              simp only [Act.put, List.setIfInBounds_toArray, List.set_cons_zero, List.set_cons_succ]
              refine wpAnyH_take (i := 18) (v := .string (opsTxt O T k ++ strOfNums [O.K k] ++ putText (O.U k))) nat18 (by kernel_rfl) (by kernel_rfl) (by kernel_rfl) (fun _ _ _ h => False.elim h) (Or.inl ⟨by rfl, ?_⟩) (Below.refl _ _) ?_
              · intro wx hSw
                go_simp
              simp only [Act.put, List.setIfInBounds_toArray, List.set_cons_zero, List.set_cons_succ]
              refine wpAnyH_ready (rs := [25]) (by kernel_rfl) (by simp) ?_
              refine AllReadyH.cons nat25 (fun K hK => ?_) AllReadyH.nil
              go_simp
              go_at_call 24
              refine (spec_PutText (O.X k) (by omega) _).mono ?_
              rintro e wq6 ⟨rfl, hb6⟩
              refine hK.out _ _ hb6 (fun _ => ?_)
              clear hK K
              have x0_0_4_5_6 := keepc hb6 x0_0_4_5
              have x1_0_4_5_6 := keepc hb6 x1_0_4_5
              have x2_0_4_5_6 := keepc hb6 x2_0_4_5
              have y1_0_4_5_6 := keepc hb6 y1_0_4_5
              have fr_5_6 := keepc hb6 fr_5
              refine wpAnyH_restart hb6 ?_
              refine wpAnyH_take (i := 26) (v := .string (opsTxt O T k ++ strOfNums [O.K k] ++ putText (O.U k) ++ putText (O.X k))) nat26 (by kernel_rfl) (by kernel_rfl) (by kernel_rfl) (fun _ _ _ h => False.elim h) (Or.inl ⟨by rfl, ?_⟩) (Below.refl _ _) ?_
              · intro wx hSw
                go_simp
              simp only [Act.put, List.setIfInBounds_toArray, List.set_cons_zero, List.set_cons_succ]
              refine wpAnyH_take (i := 27) (v := .string (opsTxt O T k ++ strOfNums [O.K k] ++ putText (O.U k) ++ putText (O.X k))) nat27 (by kernel_rfl) (by kernel_rfl) (by kernel_rfl) (fun _ _ _ h => False.elim h) (Or.inl ⟨by rfl, ?_⟩) (Below.refl _ _) ?_
              · intro wx hSw
                go_simp
              simp only [Act.put, List.setIfInBounds_toArray, List.set_cons_zero, List.set_cons_succ]
              refine wpAnyH_done (by kernel_rfl) ?_ _
              refine NoPanic.normal ?_
              have HBL : Below wr.heap.size wr wq6 := (((hb0).trans (hb4.mono (hb0).size)).trans (hb5.mono ((hb0).trans (hb4.mono (hb0).size)).size)).trans (hb6.mono (((hb0).trans (hb4.mono (hb0).size)).trans (hb5.mono ((hb0).trans (hb4.mono (hb0).size)).size)).size)
              have HBW : Hid (Below W.heap.size W wq6) := HW.out.trans (HBL.mono hwz)
              clear HBL
              go_wp2
              exact ⟨⟨k + 1, by go_num, by rw [HT2.out], by omega, HBW⟩, by simp [intOf]; omega⟩
            · go_simp
              go_at_call 24
              refine (spec_PutText (O.X k) (by omega) _).mono ?_
              rintro e wq7 ⟨rfl, hb7⟩
              refine hK.out _ _ hb7 (fun _ => ?_)
              clear hK K
              have x0_0_4_7 := keepc hb7 x0_0_4
              have x1_0_4_7 := keepc hb7 x1_0_4
              have x2_0_4_7 := keepc hb7 x2_0_4
              have y1_0_4_7 := keepc hb7 y1_0_4
              refine wpAnyH_restart hb7 ?_
              refine wpAnyH_ready (rs := [8]) (by kernel_rfl) (by simp) ?_
              refine AllReadyH.cons nat8 (fun K hK => ?_) AllReadyH.nil
              go_simp
              refine hK.out _ _ (below_one wq7 _) (fun _ => ?_)
              clear hK K
              have hb8 := below_one wq7 (.cells #[.int .u8 (O.K k)] 5)
              have x0_0_4_7_8 := keepc hb8 x0_0_4_7
              have x1_0_4_7_8 := keepc hb8 x1_0_4_7
              have x2_0_4_7_8 := keepc hb8 x2_0_4_7
              have y1_0_4_7_8 := keepc hb8 y1_0_4_7
              have fr_8 : (wq7.alloc (.cells #[.int .u8 (O.K k)] 5)).cell? ⟨wq7.heap.size, 0, none⟩ = some (.int .u8 (O.K k)) := by simp
              generalize wq7.alloc (.cells #[.int .u8 (O.K k)] 5) = wq8 at hb8 x0_0_4_7_8 x1_0_4_7_8 x2_0_4_7_8 y1_0_4_7_8 fr_8 ⊢
              refine wpAnyH_restart hb8 ?_
              refine wpAnyH_take (i := 9) (v := .string (strOfNums [O.K k])) nat9 (by kernel_rfl) (by kernel_rfl) (by kernel_rfl) (fun _ _ _ h => False.elim h) (Or.inl ⟨by rfl, ?_⟩) (Below.refl _ _) ?_
              · intro wx hSw
                have hx : Below wq8.heap.size wq8 wx := hSw
                have e0 := keepc hx fr_8
                have e1 := cv _ _ e0
                go_simp
              simp only [Act.put, List.setIfInBounds_toArray, List.set_cons_zero, List.set_cons_succ]
              refine wpAnyH_take (i := 10) (v := .string (opsTxt O T k ++ strOfNums [O.K k])) nat10 (by kernel_rfl) (by kernel_rfl) (by kernel_rfl) (fun _ _ _ h => False.elim h) (Or.inl ⟨by rfl, ?_⟩) (Below.refl _ _) ?_
              · intro wx hSw
                go_simp
              simp only [Act.put, List.setIfInBounds_toArray, List.set_cons_zero, List.set_cons_succ]
              refine wpAnyH_take (i := 18) (v := .string (opsTxt O T k ++ strOfNums [O.K k] ++ putText (O.U k))) nat18 (by kernel_rfl) (by kernel_rfl) (by kernel_rfl) (fun _ _ _ h => False.elim h) (Or.inl ⟨by rfl, ?_⟩) (Below.refl _ _) ?_
              · intro wx hSw
                go_simp
              simp only [Act.put, List.setIfInBounds_toArray, List.set_cons_zero, List.set_cons_succ]
              refine wpAnyH_take (i := 26) (v := .string (opsTxt O T k ++ strOfNums [O.K k] ++ putText (O.U k) ++ putText (O.X k))) nat26 (by kernel_rfl) (by kernel_rfl) (by kernel_rfl) (fun _ _ _ h => False.elim h) (Or.inl ⟨by rfl, ?_⟩) (Below.refl _ _) ?_
              · intro wx hSw
                go_simp
              simp only [Act.put, List.setIfInBounds_toArray, List.set_cons_zero, List.set_cons_succ]
              refine wpAnyH_take (i := 27) (v := .string (opsTxt O T k ++ strOfNums [O.K k] ++ putText (O.U k) ++ putText (O.X k))) nat27 (by kernel_rfl) (by kernel_rfl) (by kernel_rfl) (fun _ _ _ h => False.elim h) (Or.inl ⟨by rfl, ?_⟩) (Below.refl _ _) ?_
              · intro wx hSw
                go_simp
              simp only [Act.put, List.setIfInBounds_toArray, List.set_cons_zero, List.set_cons_succ]
              refine wpAnyH_done (by kernel_rfl) ?_ _
              refine NoPanic.normal ?_
              have HBL : Below wr.heap.size wr wq8 := (((hb0).trans (hb4.mono (hb0).size)).trans (hb7.mono ((hb0).trans (hb4.mono (hb0).size)).size)).trans (hb8.mono (((hb0).trans (hb4.mono (hb0).size)).trans (hb7.mono ((hb0).trans (hb4.mono (hb0).size)).size)).size)
              have HBW : Hid (Below W.heap.size W wq8) := HW.out.trans (HBL.mono hwz)
              clear HBL
              go_wp2
              exact ⟨⟨k + 1, by go_num, by rw [HT2.out], by omega, HBW⟩, by simp [intOf]; omega⟩
        · obtain rfl : k = len := by omega
          go_wp2
          go_ret
          exact ⟨ret_strT HV.out, HB0.out.trans (HW.out.mono HB0.out.size)⟩

end Go.Proofs.Ytljmfdcilnbjaab
