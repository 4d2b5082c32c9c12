/- BlockOf of the model. -/
import Derived.Test.YtljmfdcilnbjaacBlkI
import Derived.Test.YtljmfdcilnbjaacEntsOkS
namespace Go.Proofs.Ytljmfdcilnbjaac
set_option maxRecDepth 100000
open Go.RowKit Go.Deep

theorem specEntriesB {E : Ents} {len : Nat} {a : Option Addr} {cap : Nat} {w0 : World} (hl : len ≤ 1048576) (hS : EntAt w0 w0.heap.size a len E) (w : World) (hB : Below w0.heap.size w0 w) :
    Calls Try.prog 26 #[.slice a len cap] w fun e w' => e = .returned (.bool (rowOkB E len)) ∧ Below w.heap.size w w' := spec_EntriesOk a len cap E w hl ((hS.below hB).mono hB.size)

theorem shw_none (b : ByteArray) : shw ⟨#[]⟩ b = 0 := rfl

/-- The model's way of putting an entry behind. -/
def putS (s : ByteArray) (sh : Nat) (kt x : ByteArray) : ByteArray := s ++ pv sh ++ putText (kt.extract sh kt.size) ++ putText x
theorem putS_new {m p : Nat} {s ah kt x : ByteArray} (h : p % m = 0) : putS s 0 kt x = s ++ entT m p ah kt x := by
  rw [entT, basT, if_pos h, shw_none, putS, ByteArray.append_assoc, ByteArray.append_assoc, ← ByteArray.append_assoc (a := pv _)]
theorem putS_old {m p : Nat} {s ah kt x : ByteArray} (h : ¬ p % m = 0) : putS s (shw ah kt) kt x = s ++ entT m p ah kt x := by
  rw [entT, basT, if_neg h, putS, ByteArray.append_assoc, ByteArray.append_assoc, ← ByteArray.append_assoc (a := pv _)]

set_option maxHeartbeats 4000000 in
theorem spec_BlockOf (a : Option Addr) (len cap : Nat) (E : Ents) (every : Int) (w : World) (hl : len ≤ 1048576) (hS : EntAt w w.heap.size a len E) :
    Calls Try.prog 8 #[.slice a len cap, .int .i64 every] w fun e w' => e = .returned (.tuple #[.string (blkR E len every), .bool (blkOk E len every)]) ∧ Below w.heap.size w w' := by
  have cr := fun wx hb => specEntriesB (E := E) (a := a) (cap := cap) (w0 := w) hl hS wx hb
  cases hr : rowOkB E len with
  | false =>
    have HN := hide (blkOk_row (every := every) hr)
    rw [hr] at cr
    clear hr hS
    go_enter Try.func8, Try.ntmps8
    go_wp2_with fail
    refine (cr _ (Below.refl _ _)).mono ?_
    rintro e w1 ⟨rfl, hB⟩
    clear cr
    go_wp2
    go_ret2
    exact ⟨ret_blkN HN.out, hB⟩
  | true =>
    by_cases hz : len = 0
    · subst hz
      rw [hr] at cr
      clear hr hS
      go_enter Try.func8, Try.ntmps8
      go_wp2_with fail
      refine (cr _ (Below.refl _ _)).mono ?_
      rintro e w1 ⟨rfl, hB⟩
      clear cr
      go_wp2
      go_ret2
      exact ⟨ret_blkN blkOk_len, hB⟩
    · have hz1 : ¬ (len : Int) = 0 := by omega
      have hz2 : ((len : Int) == 0) = false := by simp; omega
      have hz3 : (len == 0) = false := by simp; omega
      have cl : ∀ wx, Calls Try.prog 27 #[.int .i64 every, .int .i64 1, .int .i64 16] wx fun e w' => e = .returned (.bool (everyB every)) ∧ wx = w' := fun wx => spec_l1In every 1 16 wx
      cases he : everyB every with
      | false =>
        rw [he] at cl
        have HN := hide (blkOk_every (E := E) (len := len) he)
        rw [hr] at cr
        clear hr he hS
        go_enter Try.func8, Try.ntmps8
        go_wp2_with fail
        refine (cr _ (Below.refl _ _)).mono ?_
        rintro e w1 ⟨rfl, hB⟩
        clear cr
        go_wp2_with fail
        refine (cl _).mono ?_
        rintro e w2 ⟨rfl, rfl⟩
        clear cl
        go_wp2
        go_ret2
        exact ⟨ret_blkN HN.out, hB⟩
      | true =>
        rw [he] at cl
        have HGR := hide (fun h => blkOk_great (E := E) (len := len) (every := every) h)
        have HYE := hide (fun h => blkOk_yes (E := E) (len := len) (every := every) hr hz he h)
        rw [hr] at cr
        have hent := (rowOk_out hr).2
        have hl4 := (rowOk_out hr).1
        have HE : Hid (∀ i, i < len → entOk E i = true) := fun i hi => (hent i hi).1
        have HS := hide hS
        obtain ⟨m, rfl, hm1, hm2⟩ := every_nat he
        clear hr he hS hent
        go_enter Try.func8, Try.ntmps8
        go_wp2_with fail
        refine (cr _ (Below.refl _ _)).mono ?_
        rintro e w1 ⟨rfl, hB⟩
        clear cr
        go_wp2_with fail
        refine (cl _).mono ?_
        rintro e w2 ⟨rfl, rfl⟩
        clear cl
        have HB1 := hide hB
        clear hB
        go_wp2
        go_loopw [6, 7, 8, 9, 10] (fun s mk c la i wr => ∃ k : Nat, i = .int .i64 k ∧ s = .string (bod E m k) ∧ mk = .string (fxs (beg E m k)) ∧ c = .int .u32 ((beg E m k).length : Int) ∧ la = .string (ahd E k) ∧ k ≤ len ∧ Hid (Below w.heap.size w wr)) (fun _ _ _ _ i _ => len - (intOf i).toNat)
        case atStart => exact ⟨0, rfl, rfl, rfl, rfl, rfl, by omega, HB1⟩
        case round =>
          obtain ⟨k, rfl, rfl, rfl, rfl, rfl, hk, HW⟩ := hrel
          clear HB1
          have z1 := bod_size (m := m) HE.out k hk
          have z2 := beg_len E m k
          have zf := fxs_size (beg E m k)
          by_cases hlt : k < len
          · obtain ⟨b, off, rfl, hb, c0, c1, c2, c3⟩ := (HS.out.below HW.out).at hlt
            have hki : (k : Int) < (len : Int) := by omega
            have z3 := ahd_size E k
            have z4 := entOk_x (HE.out k hlt)
            have z5 := ktSize (E.U k) (E.Q k) (E.K k)
            have ck : ∀ wx, Calls Try.prog 28 #[.agg #[.string (E.U k), .int .i64 (E.Q k), .int .i64 (E.K k)]] wx fun e w' => e = .returned (.string (ktx E k)) ∧ Below wx.heap.size wx w' := fun wx => spec_KeyText (E.U k) (E.Q k) (E.K k) wx
            have HBOD : Hid (bod E m (k + 1) = bod E m k ++ entT m k (ahd E k) (ktx E k) (E.X k)) := rfl
            have HBEG : Hid (beg E m (k + 1) = begT m k (bod E m k) (beg E m k)) := rfl
            have HAH : Hid (ahd E (k + 1) = ktx E k) := rfl
            have hc3 := c3
            have z5' : (ktx E k).size ≤ 48 := z5
            clear z5
            have hsl := (shw_le (ahd E k) (ktx E k)).2
            go_wp2_with fail
            generalize ktx E k = kt at *
            have cs := fun wx => spec_SharedWith (ahd E k) kt (by unfold maxLen; omega) (by unfold maxLen; omega) wx
            refine (ck _).mono ?_
            rintro e w2 ⟨rfl, hb2⟩
            have c3b := keepc hb2 c3
            have HW2 := hide (HW.out.trans (hb2.mono HW.out.size))
            clear hb2 ck c0 c1 c2 c3 hc3 hb
            go_wp2_with fail
            refine (cs _).mono ?_
            rintro e w3 ⟨rfl, hb3⟩
            have c3c := keepc hb3 c3b
            have HW3 := hide (HW2.out.trans (hb3.mono HW2.out.size))
            clear hb3 cs c3b HW2 HW
            have hm0 : ((m : Int) == 0) = false := by simp; omega
            have hmm : ¬ (m : Int) = 0 := by omega
            have hkn : (0 : Int) ≤ (k : Int) := by omega
            by_cases hzk : k % m = 0
            · have hrem : (k : Int) % (m : Int) = 0 := by omega
              have HPS := hide (putS_new (s := bod E m k) (ah := ahd E k) (kt := kt) (x := E.X k) hzk)
              have HBT : Hid (begT m k (bod E m k) (beg E m k) = beg E m k ++ [((bod E m k).size : Int)]) := by show _ = _; rw [begT, if_pos hzk]
              have hw32 : IntKind.u32.wrap ((bod E m k).size : Int) = ((bod E m k).size : Int) := by rw [IntKind.wrap_u32]; omega
              have hw33 : IntKind.u32.wrap (((beg E m k).length : Int) + 1) = ((beg E m k).length : Int) + 1 := by rw [IntKind.wrap_u32]; omega
              have HLE : Hid ((((beg E m (k + 1)).length : Nat) : Int) = ((beg E m k).length : Int) + 1) := by show _ = _; rw [HBEG.out, HBT.out]; simp
              have HFX : Hid (fxs (beg E m (k + 1)) = fxs (beg E m k) ++ fx4 (bod E m k).size) := by show _ = _; rw [HBEG.out, HBT.out, fxs_append]; exact congrArg _ ByteArray.append_empty
              have hf4 := fx4_size ((bod E m k).size : Int)
              clear hzk hsl
              generalize hS1 : bod E m k = S at *
              generalize hM1 : fxs (beg E m k) = M at *
              have hadd : ∀ wx : World, (Op.stringOp .add M (fx4 S.size)).run Try.prog wx = .ok (.string (M ++ fx4 S.size)) wx := fun wx => run_string_add_sum wx _ _ (by omega)
              go_wp2_with fail
              refine (spec_PutFixed (S.size : Int) _).mono ?_
              rintro e w4 ⟨rfl, hb4⟩
              have c3d := keepc hb4 c3c
              have HW4 := hide (HW3.out.trans (hb4.mono HW3.out.size))
              clear hb4 c3c HW3 hrem
              generalize M ++ fx4 S.size = M2 at *
              have hR : kt.size ≤ 1000 := by omega
              have p1 := pv_size 0
              have p2 := putTextSz kt
              have p3 := putTextSz (E.X k)
              have a1 : ∀ wx : World, (Op.stringOp .add S (pv 0)).run Try.prog wx = .ok (.string (S ++ pv 0)) wx := fun wx => run_string_add_sum wx _ _ (by omega)
              have a2 : ∀ wx : World, (Op.stringOp .add (S ++ pv 0) (putText kt)).run Try.prog wx = .ok (.string (S ++ pv 0 ++ putText kt)) wx := fun wx => run_string_add_sum wx _ _ (by rw [ByteArray.size_append]; omega)
              have a3 : ∀ wx : World, (Op.stringOp .add (S ++ pv 0 ++ putText kt) (putText (E.X k))).run Try.prog wx = .ok (.string (S ++ pv 0 ++ putText kt ++ putText (E.X k))) wx := fun wx => run_string_add_sum wx _ _ (by rw [ByteArray.size_append, ByteArray.size_append]; omega)
              have hu64 : IntKind.u64.wrap 0 = 0 := by rw [IntKind.wrap_u64]; rfl
              have HPU : Hid (putS S 0 kt (E.X k) = S ++ pv 0 ++ putText kt ++ putText (E.X k)) := by show _ = _; rw [putS, ByteArray.extract_zero_size]; rfl
              go_wp2_with fail
              generalize w4 = W4 at c3d HW4 ⊢
              refine wp_region_noPanic ?_
              refine wp_region_held_drew (S := fun x => Below W4.heap.size W4 x) (by kernel_rfl) (Below.refl _ _).drew (fun hH => ?_)
              have hb0 : Below W4.heap.size W4 W4.drew := hH
              clear hH
              have c3d_0 := keepc hb0 c3d
              generalize W4.drew = wq0 at hb0 c3d_0 ⊢
              refine wpAnyH_restart hb0 ?_
              refine wpAnyH_take (i := 0) (v := .string S) nat0 (by kernel_rfl) (by kernel_rfl) (by kernel_rfl) (fun _ _ _ h => False.elim h) (Or.inl ⟨by rfl, ?_⟩) (Below.refl _ _) ?_
              · intro wx hSw
                go_simp
              simp only [Act.put, List.setIfInBounds_toArray, List.set_cons_zero, List.set_cons_succ]
              refine wpAnyH_take (i := 1) (v := .int .i64 0) nat1 (by kernel_rfl) (by kernel_rfl) (by kernel_rfl) (fun _ _ _ h => False.elim h) (Or.inl ⟨by rfl, ?_⟩) (Below.refl _ _) ?_
              · intro wx hSw
                go_simp
              simp only [Act.put, List.setIfInBounds_toArray, List.set_cons_zero, List.set_cons_succ]
              refine wpAnyH_take (i := 2) (v := .int .u64 0) nat2 (by kernel_rfl) (by kernel_rfl) (by kernel_rfl) (fun _ _ _ h => False.elim h) (Or.inl ⟨by rfl, ?_⟩) (Below.refl _ _) ?_
              · intro wx hSw
                go_simp
              simp only [Act.put, List.setIfInBounds_toArray, List.set_cons_zero, List.set_cons_succ]
              refine wpAnyH_take (i := 5) (v := .string kt) nat5 (by kernel_rfl) (by kernel_rfl) (by kernel_rfl) (fun _ _ _ h => False.elim h) (Or.inl ⟨by rfl, ?_⟩) (Below.refl _ _) ?_
              · intro wx hSw
                go_simp
              simp only [Act.put, List.setIfInBounds_toArray, List.set_cons_zero, List.set_cons_succ]
              refine wpAnyH_take (i := 6) (v := .int .i64 0) nat6 (by kernel_rfl) (by kernel_rfl) (by kernel_rfl) (fun _ _ _ h => False.elim h) (Or.inl ⟨by rfl, ?_⟩) (Below.refl _ _) ?_
              · intro wx hSw
                go_simp
              simp only [Act.put, List.setIfInBounds_toArray, List.set_cons_zero, List.set_cons_succ]
              refine wpAnyH_take (i := 7) (v := .string kt) nat7 (by kernel_rfl) (by kernel_rfl) (by kernel_rfl) (fun _ _ _ h => False.elim h) (Or.inl ⟨by rfl, ?_⟩) (Below.refl _ _) ?_
              · intro wx hSw
                go_simp
              simp only [Act.put, List.setIfInBounds_toArray, List.set_cons_zero, List.set_cons_succ]
              refine wpAnyH_take (i := 10) (v := .slice (some ⟨b, off, none⟩) len cap) nat10 (by kernel_rfl) (by kernel_rfl) (by kernel_rfl) (fun _ _ _ h => False.elim h) (Or.inl ⟨by rfl, ?_⟩) (Below.refl _ _) ?_
              · intro wx hSw
                go_simp
              simp only [Act.put, List.setIfInBounds_toArray, List.set_cons_zero, List.set_cons_succ]
              refine wpAnyH_take (i := 11) (v := .int .i64 (k : Int)) nat11 (by kernel_rfl) (by kernel_rfl) (by kernel_rfl) (fun _ _ _ h => False.elim h) (Or.inl ⟨by rfl, ?_⟩) (Below.refl _ _) ?_
              · intro wx hSw
                go_simp
              simp only [Act.put, List.setIfInBounds_toArray, List.set_cons_zero, List.set_cons_succ]
              refine wpAnyH_take (i := 12) (v := .pointer (some ⟨b, off + k * 4, none⟩)) nat12 (by kernel_rfl) (by kernel_rfl) (by kernel_rfl) (fun _ _ _ h => False.elim h) (Or.inl ⟨by rfl, ?_⟩) (Below.refl _ _) ?_
              · intro wx hSw
                go_simp
              simp only [Act.put, List.setIfInBounds_toArray, List.set_cons_zero, List.set_cons_succ]
              refine wpAnyH_take (i := 13) (v := .pointer (some ⟨b, off + k * 4 + 3, none⟩)) nat13 (by kernel_rfl) (by kernel_rfl) (by kernel_rfl) (fun _ _ _ h => False.elim h) (Or.inl ⟨by rfl, ?_⟩) (Below.refl _ _) ?_
              · intro wx hSw
                go_simp
              simp only [Act.put, List.setIfInBounds_toArray, List.set_cons_zero, List.set_cons_succ]
              refine wpAnyH_take (i := 14) (v := .string (E.X k)) nat14 (by kernel_rfl) (by kernel_rfl) (by kernel_rfl) (fun _ _ _ h => False.elim h) (Or.inl ⟨by rfl, ?_⟩) (Below.refl _ _) ?_
              · intro wx hSw
                have hx : Below wq0.heap.size wq0 wx := hSw
                have e0 := keepc hx c3d_0
                go_simp
              simp only [Act.put, List.setIfInBounds_toArray, List.set_cons_zero, List.set_cons_succ]
              refine wpAnyH_ready (rs := [3]) (by kernel_rfl) (by simp) ?_
              refine AllReadyH.cons nat3 (fun K hK => ?_) AllReadyH.nil
              go_simp
              go_at_call 31
              refine (spec_PutVar 0 (by omega) (by omega) _).mono ?_
              rintro e wq1 ⟨rfl, hb1⟩
              refine hK.out _ _ hb1 (fun _ => ?_)
              clear hK K
              have c3d_0_1 := keepc hb1 c3d_0
              refine wpAnyH_restart hb1 ?_
              refine wpAnyH_take (i := 4) (v := .string (S ++ pv 0)) nat4 (by kernel_rfl) (by kernel_rfl) (by kernel_rfl) (fun _ _ _ h => False.elim h) (Or.inl ⟨by rfl, ?_⟩) (Below.refl _ _) ?_
              · intro wx hSw
                go_simp
              simp only [Act.put, List.setIfInBounds_toArray, List.set_cons_zero, List.set_cons_succ]
              refine wpAnyH_ready (rs := [8]) (by kernel_rfl) (by simp) ?_
              refine AllReadyH.cons nat8 (fun K hK => ?_) AllReadyH.nil
              go_simp
              go_at_call 32
              refine (spec_PutText kt (by omega) _).mono ?_
              rintro e wq2 ⟨rfl, hb2⟩
              refine hK.out _ _ hb2 (fun _ => ?_)
              clear hK K
              have c3d_0_1_2 := keepc hb2 c3d_0_1
              refine wpAnyH_restart hb2 ?_
              refine wpAnyH_take (i := 9) (v := .string (S ++ pv 0 ++ putText kt)) nat9 (by kernel_rfl) (by kernel_rfl) (by kernel_rfl) (fun _ _ _ h => False.elim h) (Or.inl ⟨by rfl, ?_⟩) (Below.refl _ _) ?_
              · intro wx hSw
                go_simp
              simp only [Act.put, List.setIfInBounds_toArray, List.set_cons_zero, List.set_cons_succ]
              refine wpAnyH_ready (rs := [15]) (by kernel_rfl) (by simp) ?_
              refine AllReadyH.cons nat15 (fun K hK => ?_) AllReadyH.nil
              go_simp
              go_at_call 32
              refine (spec_PutText (E.X k) (by omega) _).mono ?_
              rintro e wq3 ⟨rfl, hb3⟩
              refine hK.out _ _ hb3 (fun _ => ?_)
              clear hK K
              have c3d_0_1_2_3 := keepc hb3 c3d_0_1_2
              refine wpAnyH_restart hb3 ?_
              refine wpAnyH_take (i := 16) (v := .string (S ++ pv 0 ++ putText kt ++ putText (E.X k))) nat16 (by kernel_rfl) (by kernel_rfl) (by kernel_rfl) (fun _ _ _ h => False.elim h) (Or.inl ⟨by rfl, ?_⟩) (Below.refl _ _) ?_
              · intro wx hSw
                go_simp
              simp only [Act.put, List.setIfInBounds_toArray, List.set_cons_zero, List.set_cons_succ]
              refine wpAnyH_take (i := 17) (v := .string (S ++ pv 0 ++ putText kt ++ putText (E.X k))) nat17 (by kernel_rfl) (by kernel_rfl) (by kernel_rfl) (fun _ _ _ h => False.elim h) (Or.inl ⟨by rfl, ?_⟩) (Below.refl _ _) ?_
              · intro wx hSw
                go_simp
              simp only [Act.put, List.setIfInBounds_toArray, List.set_cons_zero, List.set_cons_succ]
              refine wpAnyH_done (by kernel_rfl) ?_ _
              refine NoPanic.normal ?_
              have HBL : Below W4.heap.size W4 wq3 := (((hb0).trans (hb1.mono (hb0).size)).trans (hb2.mono ((hb0).trans (hb1.mono (hb0).size)).size)).trans (hb3.mono (((hb0).trans (hb1.mono (hb0).size)).trans (hb2.mono ((hb0).trans (hb1.mono (hb0).size)).size)).size)
              have HW5 := hide (HW4.out.trans (HBL.mono HW4.out.size))
              clear HBL HW4 a1 a2 a3
              have HF := hide (HBOD.out.trans (HPS.out.symm.trans HPU.out))
              go_wp2
              exact ⟨⟨k + 1, by go_num, by rw [HF.out], by rw [HFX.out], by rw [HLE.out], by rw [HAH.out], by omega, HW5⟩, by simp [intOf]; omega⟩
            · have hrem : (k : Int) % (m : Int) = ((k % m : Nat) : Int) := by omega
              have HPS := hide (putS_old (s := bod E m k) (ah := ahd E k) (kt := kt) (x := E.X k) hzk)
              have HBT : Hid (begT m k (bod E m k) (beg E m k) = beg E m k) := by show _ = _; rw [begT, if_neg hzk]
              have HLE : Hid ((((beg E m (k + 1)).length : Nat) : Int) = ((beg E m k).length : Int)) := by show _ = _; rw [HBEG.out, HBT.out]
              have HFX : Hid (fxs (beg E m (k + 1)) = fxs (beg E m k)) := by show _ = _; rw [HBEG.out, HBT.out]
              have hrne : ¬ (((k % m : Nat) : Int) = 0) := by omega
              generalize hS1 : bod E m k = S at *
              generalize fxs (beg E m k) = M2 at *
              generalize shw (ahd E k) kt = s at *
              generalize k % m = r at *
              have hR : (kt.extract s kt.size).size ≤ 1000 := by rw [ByteArray.size_extract]; omega
              have p1 := pv_size (s : Int)
              have p2 := putTextSz (kt.extract s kt.size)
              have p3 := putTextSz (E.X k)
              have a1 : ∀ wx : World, (Op.stringOp .add S (pv (s : Int))).run Try.prog wx = .ok (.string (S ++ pv (s : Int))) wx := fun wx => run_string_add_sum wx _ _ (by omega)
              have a2 : ∀ wx : World, (Op.stringOp .add (S ++ pv (s : Int)) (putText (kt.extract s kt.size))).run Try.prog wx = .ok (.string (S ++ pv (s : Int) ++ putText (kt.extract s kt.size))) wx := fun wx => run_string_add_sum wx _ _ (by rw [ByteArray.size_append]; omega)
              have a3 : ∀ wx : World, (Op.stringOp .add (S ++ pv (s : Int) ++ putText (kt.extract s kt.size)) (putText (E.X k))).run Try.prog wx = .ok (.string (S ++ pv (s : Int) ++ putText (kt.extract s kt.size) ++ putText (E.X k))) wx := fun wx => run_string_add_sum wx _ _ (by rw [ByteArray.size_append, ByteArray.size_append]; omega)
              have hu64 : IntKind.u64.wrap (s : Int) = (s : Int) := by rw [IntKind.wrap_u64]; omega
              have HPU : Hid (putS S s kt (E.X k) = S ++ pv (s : Int) ++ putText (kt.extract s kt.size) ++ putText (E.X k)) := rfl
              generalize w3 = W4 at c3c HW3 ⊢
              have c3d := c3c
              have HW4 := HW3
              clear c3c HW3
              go_wp2_with fail
              refine wp_region_noPanic ?_
              refine wp_region_held_drew (S := fun x => Below W4.heap.size W4 x) (by kernel_rfl) (Below.refl _ _).drew (fun hH => ?_)
              have hb0 : Below W4.heap.size W4 W4.drew := hH
              clear hH
              have c3d_0 := keepc hb0 c3d
              generalize W4.drew = wq0 at hb0 c3d_0 ⊢
              refine wpAnyH_restart hb0 ?_
              refine wpAnyH_take (i := 0) (v := .string S) nat0 (by kernel_rfl) (by kernel_rfl) (by kernel_rfl) (fun _ _ _ h => False.elim h) (Or.inl ⟨by rfl, ?_⟩) (Below.refl _ _) ?_
              · intro wx hSw
                go_simp
              simp only [Act.put, List.setIfInBounds_toArray, List.set_cons_zero, List.set_cons_succ]
              refine wpAnyH_take (i := 1) (v := .int .i64 (s : Int)) nat1 (by kernel_rfl) (by kernel_rfl) (by kernel_rfl) (fun _ _ _ h => False.elim h) (Or.inl ⟨by rfl, ?_⟩) (Below.refl _ _) ?_
              · intro wx hSw
                go_simp
              simp only [Act.put, List.setIfInBounds_toArray, List.set_cons_zero, List.set_cons_succ]
              refine wpAnyH_take (i := 2) (v := .int .u64 (s : Int)) nat2 (by kernel_rfl) (by kernel_rfl) (by kernel_rfl) (fun _ _ _ h => False.elim h) (Or.inl ⟨by rfl, ?_⟩) (Below.refl _ _) ?_
              · intro wx hSw
                go_simp
              simp only [Act.put, List.setIfInBounds_toArray, List.set_cons_zero, List.set_cons_succ]
              refine wpAnyH_take (i := 5) (v := .string kt) nat5 (by kernel_rfl) (by kernel_rfl) (by kernel_rfl) (fun _ _ _ h => False.elim h) (Or.inl ⟨by rfl, ?_⟩) (Below.refl _ _) ?_
              · intro wx hSw
                go_simp
              simp only [Act.put, List.setIfInBounds_toArray, List.set_cons_zero, List.set_cons_succ]
              refine wpAnyH_take (i := 6) (v := .int .i64 (s : Int)) nat6 (by kernel_rfl) (by kernel_rfl) (by kernel_rfl) (fun _ _ _ h => False.elim h) (Or.inl ⟨by rfl, ?_⟩) (Below.refl _ _) ?_
              · intro wx hSw
                go_simp
              simp only [Act.put, List.setIfInBounds_toArray, List.set_cons_zero, List.set_cons_succ]
              refine wpAnyH_take (i := 7) (v := .string (kt.extract s kt.size)) nat7 (by kernel_rfl) (by kernel_rfl) (by kernel_rfl) (fun _ _ _ h => False.elim h) (Or.inl ⟨by rfl, ?_⟩) (Below.refl _ _) ?_
              · intro wx hSw
                go_simp
              simp only [Act.put, List.setIfInBounds_toArray, List.set_cons_zero, List.set_cons_succ]
              refine wpAnyH_take (i := 10) (v := .slice (some ⟨b, off, none⟩) len cap) nat10 (by kernel_rfl) (by kernel_rfl) (by kernel_rfl) (fun _ _ _ h => False.elim h) (Or.inl ⟨by rfl, ?_⟩) (Below.refl _ _) ?_
              · intro wx hSw
                go_simp
              simp only [Act.put, List.setIfInBounds_toArray, List.set_cons_zero, List.set_cons_succ]
              refine wpAnyH_take (i := 11) (v := .int .i64 (k : Int)) nat11 (by kernel_rfl) (by kernel_rfl) (by kernel_rfl) (fun _ _ _ h => False.elim h) (Or.inl ⟨by rfl, ?_⟩) (Below.refl _ _) ?_
              · intro wx hSw
                go_simp
              simp only [Act.put, List.setIfInBounds_toArray, List.set_cons_zero, List.set_cons_succ]
              refine wpAnyH_take (i := 12) (v := .pointer (some ⟨b, off + k * 4, none⟩)) nat12 (by kernel_rfl) (by kernel_rfl) (by kernel_rfl) (fun _ _ _ h => False.elim h) (Or.inl ⟨by rfl, ?_⟩) (Below.refl _ _) ?_
              · intro wx hSw
                go_simp
              simp only [Act.put, List.setIfInBounds_toArray, List.set_cons_zero, List.set_cons_succ]
              refine wpAnyH_take (i := 13) (v := .pointer (some ⟨b, off + k * 4 + 3, none⟩)) nat13 (by kernel_rfl) (by kernel_rfl) (by kernel_rfl) (fun _ _ _ h => False.elim h) (Or.inl ⟨by rfl, ?_⟩) (Below.refl _ _) ?_
              · intro wx hSw
                go_simp
              simp only [Act.put, List.setIfInBounds_toArray, List.set_cons_zero, List.set_cons_succ]
              refine wpAnyH_take (i := 14) (v := .string (E.X k)) nat14 (by kernel_rfl) (by kernel_rfl) (by kernel_rfl) (fun _ _ _ h => False.elim h) (Or.inl ⟨by rfl, ?_⟩) (Below.refl _ _) ?_
              · intro wx hSw
                have hx : Below wq0.heap.size wq0 wx := hSw
                have e0 := keepc hx c3d_0
                go_simp
              simp only [Act.put, List.setIfInBounds_toArray, List.set_cons_zero, List.set_cons_succ]
              refine wpAnyH_ready (rs := [3]) (by kernel_rfl) (by simp) ?_
              refine AllReadyH.cons nat3 (fun K hK => ?_) AllReadyH.nil
              go_simp
              go_at_call 31
              refine (spec_PutVar (s : Int) (by omega) (by omega) _).mono ?_
              rintro e wq1 ⟨rfl, hb1⟩
              refine hK.out _ _ hb1 (fun _ => ?_)
              clear hK K
              have c3d_0_1 := keepc hb1 c3d_0
              refine wpAnyH_restart hb1 ?_
              refine wpAnyH_take (i := 4) (v := .string (S ++ pv (s : Int))) nat4 (by kernel_rfl) (by kernel_rfl) (by kernel_rfl) (fun _ _ _ h => False.elim h) (Or.inl ⟨by rfl, ?_⟩) (Below.refl _ _) ?_
              · intro wx hSw
                go_simp
              simp only [Act.put, List.setIfInBounds_toArray, List.set_cons_zero, List.set_cons_succ]
              refine wpAnyH_ready (rs := [8]) (by kernel_rfl) (by simp) ?_
              refine AllReadyH.cons nat8 (fun K hK => ?_) AllReadyH.nil
              go_simp
              go_at_call 32
              refine (spec_PutText (kt.extract s kt.size) (by omega) _).mono ?_
              rintro e wq2 ⟨rfl, hb2⟩
              refine hK.out _ _ hb2 (fun _ => ?_)
              clear hK K
              have c3d_0_1_2 := keepc hb2 c3d_0_1
              refine wpAnyH_restart hb2 ?_
              refine wpAnyH_take (i := 9) (v := .string (S ++ pv (s : Int) ++ putText (kt.extract s kt.size))) nat9 (by kernel_rfl) (by kernel_rfl) (by kernel_rfl) (fun _ _ _ h => False.elim h) (Or.inl ⟨by rfl, ?_⟩) (Below.refl _ _) ?_
              · intro wx hSw
                go_simp
              simp only [Act.put, List.setIfInBounds_toArray, List.set_cons_zero, List.set_cons_succ]
              refine wpAnyH_ready (rs := [15]) (by kernel_rfl) (by simp) ?_
              refine AllReadyH.cons nat15 (fun K hK => ?_) AllReadyH.nil
              go_simp
              go_at_call 32
              refine (spec_PutText (E.X k) (by omega) _).mono ?_
              rintro e wq3 ⟨rfl, hb3⟩
              refine hK.out _ _ hb3 (fun _ => ?_)
              clear hK K
              have c3d_0_1_2_3 := keepc hb3 c3d_0_1_2
              refine wpAnyH_restart hb3 ?_
              refine wpAnyH_take (i := 16) (v := .string (S ++ pv (s : Int) ++ putText (kt.extract s kt.size) ++ putText (E.X k))) nat16 (by kernel_rfl) (by kernel_rfl) (by kernel_rfl) (fun _ _ _ h => False.elim h) (Or.inl ⟨by rfl, ?_⟩) (Below.refl _ _) ?_
              · intro wx hSw
                go_simp
              simp only [Act.put, List.setIfInBounds_toArray, List.set_cons_zero, List.set_cons_succ]
              refine wpAnyH_take (i := 17) (v := .string (S ++ pv (s : Int) ++ putText (kt.extract s kt.size) ++ putText (E.X k))) nat17 (by kernel_rfl) (by kernel_rfl) (by kernel_rfl) (fun _ _ _ h => False.elim h) (Or.inl ⟨by rfl, ?_⟩) (Below.refl _ _) ?_
              · intro wx hSw
                go_simp
              simp only [Act.put, List.setIfInBounds_toArray, List.set_cons_zero, List.set_cons_succ]
              refine wpAnyH_done (by kernel_rfl) ?_ _
              refine NoPanic.normal ?_
              have HBL : Below W4.heap.size W4 wq3 := (((hb0).trans (hb1.mono (hb0).size)).trans (hb2.mono ((hb0).trans (hb1.mono (hb0).size)).size)).trans (hb3.mono (((hb0).trans (hb1.mono (hb0).size)).trans (hb2.mono ((hb0).trans (hb1.mono (hb0).size)).size)).size)
              have HW5 := hide (HW4.out.trans (HBL.mono HW4.out.size))
              clear HBL HW4 a1 a2 a3
              have HF := hide (HBOD.out.trans (HPS.out.symm.trans HPU.out))
              go_wp2
              exact ⟨⟨k + 1, by go_num, by rw [HF.out], by rw [HFX.out], by rw [HLE.out], by rw [HAH.out], by omega, HW5⟩, by simp [intOf]; omega⟩
          · obtain rfl : k = len := by omega
            have hT : (blkT E m k).size = (bod E m k).size + 4 * (beg E m k).length + 8 := blkT_size E m k
            have HT : Hid (blkT E m k = bod E m k ++ fxs (beg E m k) ++ fx4 (beg E m k).length ++ fx4 m) := rfl
            rw [Int.toNat_natCast] at HGR HYE
            have w32 : IntKind.u32.wrap (m : Int) = (m : Int) := by rw [IntKind.wrap_u32]; omega
            have f1 := fx4_size ((beg E m k).length : Int)
            have f2 := fx4_size (m : Int)
            have HTE : Hid (blkT E m k = blkT E (m : Int).toNat k) := by show _ = _; rw [Int.toNat_natCast]
            generalize blkT E m k = T at *
            generalize bod E m k = S at *
            generalize fxs (beg E m k) = M at *
            generalize (beg E m k).length = c at *
            have a1 : ∀ wx : World, (Op.stringOp .add S M).run Try.prog wx = .ok (.string (S ++ M)) wx := fun wx => run_string_add_sum wx _ _ (by omega)
            have a2 : ∀ wx : World, (Op.stringOp .add (S ++ M) (fx4 c)).run Try.prog wx = .ok (.string (S ++ M ++ fx4 c)) wx := fun wx => run_string_add_sum wx _ _ (by rw [ByteArray.size_append]; omega)
            have a3 : ∀ wx : World, (Op.stringOp .add (S ++ M ++ fx4 c) (fx4 m)).run Try.prog wx = .ok (.string T) wx := fun wx => by rw [HT.out]; exact run_string_add_sum wx _ _ (by rw [ByteArray.size_append, ByteArray.size_append]; omega)
            go_wp2_with fail
            refine (spec_PutFixed (c : Int) _).mono ?_
            rintro e w3 ⟨rfl, hb3⟩
            have HW3 := hide (HW.out.trans (hb3.mono HW.out.size))
            clear hb3 HW
            go_wp2_with fail
            refine (spec_PutFixed (m : Int) _).mono ?_
            rintro e w4 ⟨rfl, hb4⟩
            have HW4 := hide (HW3.out.trans (hb4.mono HW3.out.size))
            clear hb4 HW3
            by_cases hg : 60000 < T.size
            · have HN := hide (HGR.out hg)
              have hgi : (60000 : Int) < (T.size : Int) := by omega
              clear HGR HYE hT zf z1 z2 f1 f2 hg
              go_wp2
              go_ret2
              exact ⟨ret_blkN HN.out, HW4.out⟩
            · have HY := hide (HYE.out (by omega))
              have hgi : ¬ (60000 : Int) < (T.size : Int) := by omega
              clear HGR HYE hT zf z1 z2 f1 f2 hg
              go_wp2
              go_ret2
              exact ⟨ret_blkY HY.out HTE.out, HW4.out⟩

end Go.Proofs.Ytljmfdcilnbjaac
