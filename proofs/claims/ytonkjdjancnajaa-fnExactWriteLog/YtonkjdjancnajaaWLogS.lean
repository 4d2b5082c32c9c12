/- WriteLog of the model. -/
import Derived.Test.YtonkjdjancnajaaWLogI
namespace Go.Proofs.Ytonkjdjancnajaa
set_option maxRecDepth 100000
open Go.RowKit

def msr (a r : Value) : Nat := 2 * strSz r + (if intOf a = 0 then 0 else 1)

theorem msr_zero (r : ByteArray) : msr (.int .i64 0) (.string r) = 2 * r.size := rfl
theorem msr_pos {A : Nat} (h : 0 < A) (r : ByteArray) : msr (.int .i64 (A : Int)) (.string r) = 2 * r.size + 1 := by
  have h1 : intOf (.int .i64 (A : Int)) = (A : Int) := rfl
  show 2 * r.size + (if intOf (.int .i64 (A : Int)) = 0 then 0 else 1) = _
  rw [h1, if_neg (by omega)]
theorem msr_less {A : Int} {r r' : ByteArray} (h : r'.size + 1 ≤ r.size) : msr (.int .i64 0) (.string r') < msr (.int .i64 A) (.string r) := by
  show 2 * r'.size + 0 < 2 * r.size + _
  omega

/-- Where the model's loop stands: ahead of the first fragment, or behind it. -/
def PhW (at' : Int) (r : ByteArray) (A : Nat) (fb : Bool) (rs out : ByteArray) : Prop :=
  (fb = true ∧ A < 64 ∧ writeLog at' r = out ++ zeros (gapOf A) ++ firstOf A rs) ∨ (fb = false ∧ A = 0 ∧ ∃ f, rs.size ≤ 58 * (f + 1) ∧ writeLog at' r = out ++ tl f rs)

theorem zeros_zero : zeros 0 = ⟨#[]⟩ := rfl
theorem app_nil (s : ByteArray) : s ++ (⟨#[]⟩ : ByteArray) = s := ByteArray.ext (by simp)
theorem ext_all (s : ByteArray) : s.extract 0 s.size = s := ByteArray.ext (by simp)
theorem zeros_nums (n : Nat) : strOfNums (List.replicate n 0) = zeros n := by
  unfold strOfNums zeros
  simp

/-- A row of n bytes that was just made, as a text. -/
theorem conv_made {P : Program} (src e dst : TypeId) (hs : P.underlying src = some (.slice e)) (he : P.underlying e = some (.int .u8)) (hd : P.underlying dst = some .string) (w : World) (n : Nat) :
    (convert src dst (.slice (some ⟨w.heap.size, 0, none⟩) n n)).run P (w.alloc (.cells (madeCells #[.int .u8 0] n) e)) = .ok (.string (zeros n)) (w.alloc (.cells (madeCells #[.int .u8 0] n) e)) := by
  rw [← zeros_nums]
  refine run_convert_bytes_arg (P := P) _ src e hs he w.heap.size 0 n n (List.replicate n 0) (by simp) (fun i hi => ?_) dst hd
  have h := (World.rowIs_made w (.int .u8 0) n e).cell (i := i) hi
  rw [Nat.zero_add, h]
  simp [List.getD, hi]

set_option maxHeartbeats 1000000 in
theorem spec_WriteLog (at' : Int) (r : ByteArray) (w : World) :
    Calls Try.prog 23 #[.int .i64 at', .string r] w fun e w' => e = .returned (.string (writeLog at' r)) ∧ Below w.heap.size w w' := by
  by_cases hneg : at' < 0
  · have HV : Hid (writeLog at' r = ⟨#[]⟩) := writeLog_no (.inl hneg)
    go_enter Try.func23, Try.ntmps23
    go_wp2
    go_ret
    exact ⟨ret_strW HV.out.symm, Below.refl _ _⟩
  by_cases hbig : (8000 : Int) < (r.size : Int)
  · have HV : Hid (writeLog at' r = ⟨#[]⟩) := writeLog_no (.inr (by omega))
    go_enter Try.func23, Try.ntmps23
    go_wp2
    go_ret
    exact ⟨ret_strW HV.out.symm, Below.refl _ _⟩
  have ha0 : 0 ≤ at' := by omega
  obtain ⟨p, hp⟩ : ∃ p : Nat, at' % 64 = (p : Int) := ⟨(at' % 64).toNat, by omega⟩
  have hp64 : p < 64 := by omega
  have HP0 : Hid (PhW at' r p true r ⟨#[]⟩) := by
    refine Or.inl ⟨rfl, hp64, ?_⟩
    rw [writeLog, if_neg (by omega), hp, Int.toNat_natCast, nil_app]
  have hz0 : (⟨#[]⟩ : ByteArray).size + 100 * r.size + gapOf p ≤ 800200 := by have := (room_bd p hp64).2.2.2; show 0 + _ + _ ≤ _; omega
  have HL0 := hide (Below.refl w.heap.size w)
  go_enter Try.func23, Try.ntmps23
  go_wp2
  clear hp
  go_loopw [0, 5, 6, 7] (fun a o rv f wr => ∃ (out rs : ByteArray) (A : Nat) (fb : Bool), a = .int .i64 A ∧ o = .string out ∧ rv = .string rs ∧ f = .bool fb ∧ out.size + 100 * rs.size + gapOf A ≤ 800200 ∧ Hid (Below w.heap.size w wr) ∧ Hid (PhW at' r A fb rs out)) (fun a _ rv _ _ => msr a rv)
  case atStart => exact ⟨⟨#[]⟩, r, p, true, rfl, rfl, rfl, rfl, hz0, HL0, HP0⟩
  case round =>
    obtain ⟨out, rs, A, fb, rfl, rfl, rfl, rfl, hz, HLr, HP⟩ := hrel
    clear HL0 HP0 hz0
    have hA0 : (0 : Int) ≤ (A : Int) := by omega
    rcases HP.out with ⟨rfl, hA, hV⟩ | ⟨rfl, rfl, f, hf, hV⟩
    · have HV := hide hV
      clear hV HP
      by_cases hg : 57 < A
      · obtain ⟨n, hn⟩ : ∃ n, 64 - A = n := ⟨_, rfl⟩
        have hl : 64 - (A : Int) = (n : Int) := by omega
        have hl7 : (n : Int) < 7 := by omega
        have hmk : ∀ W : World, (Instr.makeSlice 67 (.int .i64 (n : Int)) (.int .i64 (n : Int))).run Try.prog W = .ok (.slice (some ⟨W.heap.size, 0, none⟩) n n) (W.alloc (.cells (madeCells #[.int .u8 0] n) 5)) := fun W =>
          run_make_row' 67 5 (.int .u8 0) 1 Try.underlying67 (by kernel_rfl) rfl .i64 .i64 n (by omega) (by omega) W
        have hcv := fun (wx : World) => conv_made (P := Try.prog) 67 5 9 Try.underlying67 Try.underlying5 Try.underlying9 wx n
        have hzs := zeros_size n
        have ha1 : ∀ wx : World, (Op.stringOp .add out (zeros n)).run Try.prog wx = .ok (.string (out ++ zeros n)) wx := fun wx => run_string_add_sum wx _ _ (by omega)
        have HL2 := hide (HLr.out.alloc HLr.out.size (.cells (madeCells #[.int .u8 0] n) 5))
        have HP2 : Hid (PhW at' r 0 true rs (out ++ zeros n)) := by
          refine Or.inl ⟨rfl, by omega, ?_⟩
          rw [HV.out]
          have e1 : gapOf A = n := by unfold gapOf; rw [if_pos hg]; exact hn
          have e2 : firstOf 0 rs = firstOf A rs := by unfold firstOf roomOf; rw [if_pos hg]; rfl
          have e3 : gapOf 0 = 0 := rfl
          rw [e1, e2, e3, zeros_zero, app_nil]
        have hgn : gapOf A = n := by unfold gapOf; rw [if_pos hg]; exact hn
        have hz2 : (out ++ zeros n).size + 100 * rs.size + gapOf 0 ≤ 800200 := by
          rw [ByteArray.size_append, hzs]
          have : gapOf 0 = 0 := rfl
          omega
        have hms : msr (.int .i64 0) (.string rs) < msr (.int .i64 (A : Int)) (.string rs) := by
          rw [msr_zero, msr_pos (by omega)]
          omega
        clear HLr hn
        go_wp2
        exact ⟨⟨_, _, 0, true, rfl, rfl, rfl, rfl, hz2, HL2, HP2⟩, hms⟩
      · have hl7 : ¬ (64 - (A : Int) < 7) := by omega
        have hgz : gapOf A = 0 := by unfold gapOf; rw [if_neg hg]
        obtain ⟨M, hM⟩ : ∃ M, 58 - A = M := ⟨_, rfl⟩
        have hroom : roomOf A = M := by unfold roomOf; rw [if_neg hg]; exact hM
        have HV1 : Hid (writeLog at' r = out ++ firstOf A rs) := by show _ = _; rw [HV.out, hgz, zeros_zero, app_nil]
        clear HV hgz
        by_cases hfit : rs.size ≤ M
        · have HV2 : Hid (writeLog at' r = out ++ frag 1 rs) := by show _ = _; rw [HV1.out, firstOf, hroom, if_pos hfit]
          have hmin : min (64 - (A : Int) - 6) (rs.size : Int) = (rs.size : Int) := by omega
          have hext := ext_all rs
          have hPN : (rs.size : Int) = (rs.size : Int) := rfl
          clear HV1 hroom
          have hw8 : IntKind.u8.wrap (rs.size : Int) = (rs.size : Int) := by rw [IntKind.wrap_u8]; omega
          have cv := fun (wx : World) (g : Nat) (h0 : wx.cell? ⟨g, 0, none⟩ = some (.int .u8 (rs.size : Int))) (h1 : wx.cell? ⟨g, 1, none⟩ = some (.int .u8 1)) => conv_two (P := Try.prog) 67 5 9 Try.underlying67 Try.underlying5 Try.underlying9 wx g (rs.size : Int) 1 h0 h1
          have hz2 : (strOfNums [(rs.size : Int), 1]).size = 2 := by rw [strOfNums_size]; rfl
          have hadd : ∀ wx : World, (Op.stringOp .add (strOfNums [(rs.size : Int), 1]) rs).run Try.prog wx = .ok (.string (fbody 1 rs)) wx := fun wx => by
            rw [fbody, hPN]
            exact run_string_add_sum wx _ _ (by omega)
          go_wp2_with fail
          refine wp_region_noPanic ?_
          refine wp_region_held_drew (S := fun x => Below wr.heap.size wr x) (by kernel_rfl) (Below.refl _ _).drew (fun hH => ?_)
          have hb0 : Below wr.heap.size wr wr.drew := hH
          clear hH
          generalize wr.drew = wq0 at hb0  ⊢
          refine wpAnyH_restart hb0 ?_
          refine wpAnyH_take (i := 0) (v := .int .i64 (rs.size : Int)) nat0 (by kernel_rfl) (by kernel_rfl) (by kernel_rfl) (fun _ _ _ h => False.elim h) (Or.inl ⟨by rfl, ?_⟩) (Below.refl _ _) ?_
          · intro wx hSw
            go_simp
          simp only [Act.put, List.setIfInBounds_toArray, List.set_cons_zero, List.set_cons_succ]
          refine wpAnyH_take (i := 1) (v := .int .u8 (rs.size : Int)) nat1 (by kernel_rfl) (by kernel_rfl) (by kernel_rfl) (fun _ _ _ h => False.elim h) (Or.inl ⟨by rfl, ?_⟩) (Below.refl _ _) ?_
          · intro wx hSw
            go_simp
          simp only [Act.put, List.setIfInBounds_toArray, List.set_cons_zero, List.set_cons_succ]
          refine wpAnyH_take (i := 2) (v := .int .u8 1) nat2 (by kernel_rfl) (by kernel_rfl) (by kernel_rfl) (fun _ _ _ h => False.elim h) (Or.inl ⟨by rfl, ?_⟩) (Below.refl _ _) ?_
          · intro wx hSw
            go_simp
          simp only [Act.put, List.setIfInBounds_toArray, List.set_cons_zero, List.set_cons_succ]
          refine wpAnyH_take (i := 5) (v := .string rs) nat5 (by kernel_rfl) (by kernel_rfl) (by kernel_rfl) (fun _ _ _ h => False.elim h) (Or.inl ⟨by rfl, ?_⟩) (Below.refl _ _) ?_
          · intro wx hSw
            go_simp
          simp only [Act.put, List.setIfInBounds_toArray, List.set_cons_zero, List.set_cons_succ]
          refine wpAnyH_take (i := 6) (v := .int .i64 (rs.size : Int)) nat6 (by kernel_rfl) (by kernel_rfl) (by kernel_rfl) (fun _ _ _ h => False.elim h) (Or.inl ⟨by rfl, ?_⟩) (Below.refl _ _) ?_
          · intro wx hSw
            go_simp
          simp only [Act.put, List.setIfInBounds_toArray, List.set_cons_zero, List.set_cons_succ]
          refine wpAnyH_take (i := 7) (v := .string rs) nat7 (by kernel_rfl) (by kernel_rfl) (by kernel_rfl) (fun _ _ _ h => False.elim h) (Or.inl ⟨by rfl, ?_⟩) (Below.refl _ _) ?_
          · intro wx hSw
            go_simp
          simp only [Act.put, List.setIfInBounds_toArray, List.set_cons_zero, List.set_cons_succ]
          refine wpAnyH_ready (rs := [3]) (by kernel_rfl) (by simp) ?_
          refine AllReadyH.cons nat3 (fun K hK => ?_) AllReadyH.nil
          go_simp
          refine hK.out _ _ (below_one wq0 _) (fun _ => ?_)
          clear hK K
          have hb1 := below_one wq0 (.cells #[.int .u8 (rs.size : Int), .int .u8 1] 5)
          have fa_1 : (wq0.alloc (.cells #[.int .u8 (rs.size : Int), .int .u8 1] 5)).cell? ⟨wq0.heap.size, 0, none⟩ = some (.int .u8 (rs.size : Int)) := by simp
          have fb_1 : (wq0.alloc (.cells #[.int .u8 (rs.size : Int), .int .u8 1] 5)).cell? ⟨wq0.heap.size, 1, none⟩ = some (.int .u8 1) := by simp
          generalize wq0.alloc (.cells #[.int .u8 (rs.size : Int), .int .u8 1] 5) = wq1 at hb1 fa_1 fb_1 ⊢
          refine wpAnyH_restart hb1 ?_
          refine wpAnyH_take (i := 4) (v := .string (strOfNums [(rs.size : Int), 1])) nat4 (by kernel_rfl) (by kernel_rfl) (by kernel_rfl) (fun _ _ _ h => False.elim h) (Or.inl ⟨by rfl, ?_⟩) (Below.refl _ _) ?_
          · intro wx hSw
            have hx : Below wq1.heap.size wq1 wx := hSw
            have e0 := keepc hx fa_1
            have e1 := keepc hx fb_1
            have e2 := cv _ _ e0 e1
            go_simp
          simp only [Act.put, List.setIfInBounds_toArray, List.set_cons_zero, List.set_cons_succ]
          refine wpAnyH_take (i := 8) (v := .string (fbody 1 rs)) nat8 (by kernel_rfl) (by kernel_rfl) (by kernel_rfl) (fun _ _ _ h => False.elim h) (Or.inl ⟨by rfl, ?_⟩) (Below.refl _ _) ?_
          · intro wx hSw
            go_simp
          simp only [Act.put, List.setIfInBounds_toArray, List.set_cons_zero, List.set_cons_succ]
          refine wpAnyH_take (i := 9) (v := .string (fbody 1 rs)) nat9 (by kernel_rfl) (by kernel_rfl) (by kernel_rfl) (fun _ _ _ h => False.elim h) (Or.inl ⟨by rfl, ?_⟩) (Below.refl _ _) ?_
          · intro wx hSw
            go_simp
          simp only [Act.put, List.setIfInBounds_toArray, List.set_cons_zero, List.set_cons_succ]
          refine wpAnyH_done (by kernel_rfl) ?_ _
          refine NoPanic.normal ?_
          have HBL : Below wr.heap.size wr wq1 := (hb0).trans (hb1.mono (hb0).size)
          have HLW := hide (HLr.out.trans (HBL.mono HLr.out.size))
          clear HBL HLr
          have hfs := fbody_size 1 rs
          have HFR : Hid (frag 1 rs = fx4 (crc (fbody 1 rs)) ++ fbody 1 rs) := rfl
          have hgs := frag_size 1 rs
          generalize hbody : fbody 1 rs = body at *
          clear hbody cv hadd hz2 hw8
          have hf4 := fx4_size (crc body)
          go_wp2_with fail
          refine (spec_Crc body (by unfold maxLen; omega) _).mono ?_
          rintro e w5 ⟨rfl, rfl⟩
          have HL5 := HLW
          clear HLW
          go_wp2_with fail
          refine (spec_PutFixed (crc body) _).mono ?_
          rintro e w6 ⟨rfl, hb6⟩
          have HL6 := hide (HL5.out.trans (hb6.mono HL5.out.size))
          clear hb6 HL5
          generalize fx4 (crc body) = c4 at *
          have a1 : ∀ wx : World, (Op.stringOp .add out c4).run Try.prog wx = .ok (.string (out ++ c4)) wx := fun wx => run_string_add_sum wx _ _ (by omega)
          have a2 : ∀ wx : World, (Op.stringOp .add (out ++ c4) body).run Try.prog wx = .ok (.string (out ++ c4 ++ body)) wx := fun wx => run_string_add_sum wx _ _ (by rw [ByteArray.size_append]; omega)
          have HOB : Hid (out ++ c4 ++ body = out ++ frag 1 rs) := by show _ = _; rw [HFR.out, ByteArray.append_assoc]
          go_wp2
          go_ret
          exact ⟨ret_strW (by rw [HV2.out, HOB.out]), HL6.out⟩
        · have HV2 : Hid (writeLog at' r = out ++ frag 2 (rs.extract 0 M) ++ tl 138 (rs.extract M rs.size)) := by show _ = _; rw [HV1.out, firstOf, hroom, if_neg hfit, ByteArray.append_assoc]
          have hmin : min (64 - (A : Int) - 6) (rs.size : Int) = (M : Int) := by omega
          have hne : ((M : Int) == (rs.size : Int)) = false := by simp; omega
          have hne2 : ¬ ((M : Int) = (rs.size : Int)) := by omega
          have hM0 : (0 : Int) ≤ (M : Int) := by omega
          have hM1 : (M : Int) ≤ (rs.size : Int) := by omega
          have zP : (rs.extract 0 M).size = M := by simp; omega
          have zR : (rs.extract M rs.size).size = rs.size - M := by simp
          have hPN : ((rs.extract 0 M).size : Int) = (M : Int) := by omega
          have h8 : rs.size ≤ 8002 := by omega
          have hM58 : M ≤ 58 := by omega
          clear HV1 hroom
          have hw8 : IntKind.u8.wrap (M : Int) = (M : Int) := by rw [IntKind.wrap_u8]; omega
          have cv := fun (wx : World) (g : Nat) (h0 : wx.cell? ⟨g, 0, none⟩ = some (.int .u8 (M : Int))) (h1 : wx.cell? ⟨g, 1, none⟩ = some (.int .u8 2)) => conv_two (P := Try.prog) 67 5 9 Try.underlying67 Try.underlying5 Try.underlying9 wx g (M : Int) 2 h0 h1
          have hz2 : (strOfNums [(M : Int), 2]).size = 2 := by rw [strOfNums_size]; rfl
          have hadd : ∀ wx : World, (Op.stringOp .add (strOfNums [(M : Int), 2]) (rs.extract 0 M)).run Try.prog wx = .ok (.string (fbody 2 (rs.extract 0 M))) wx := fun wx => by
            rw [fbody, hPN]
            exact run_string_add_sum wx _ _ (by omega)
          go_wp2_with fail
          refine wp_region_noPanic ?_
          refine wp_region_held_drew (S := fun x => Below wr.heap.size wr x) (by kernel_rfl) (Below.refl _ _).drew (fun hH => ?_)
          have hb0 : Below wr.heap.size wr wr.drew := hH
          clear hH
          generalize wr.drew = wq0 at hb0  ⊢
          refine wpAnyH_restart hb0 ?_
          refine wpAnyH_take (i := 0) (v := .int .i64 (M : Int)) nat0 (by kernel_rfl) (by kernel_rfl) (by kernel_rfl) (fun _ _ _ h => False.elim h) (Or.inl ⟨by rfl, ?_⟩) (Below.refl _ _) ?_
          · intro wx hSw
            go_simp
          simp only [Act.put, List.setIfInBounds_toArray, List.set_cons_zero, List.set_cons_succ]
          refine wpAnyH_take (i := 1) (v := .int .u8 (M : Int)) nat1 (by kernel_rfl) (by kernel_rfl) (by kernel_rfl) (fun _ _ _ h => False.elim h) (Or.inl ⟨by rfl, ?_⟩) (Below.refl _ _) ?_
          · intro wx hSw
            go_simp
          simp only [Act.put, List.setIfInBounds_toArray, List.set_cons_zero, List.set_cons_succ]
          refine wpAnyH_take (i := 2) (v := .int .u8 2) nat2 (by kernel_rfl) (by kernel_rfl) (by kernel_rfl) (fun _ _ _ h => False.elim h) (Or.inl ⟨by rfl, ?_⟩) (Below.refl _ _) ?_
          · intro wx hSw
            go_simp
          simp only [Act.put, List.setIfInBounds_toArray, List.set_cons_zero, List.set_cons_succ]
          refine wpAnyH_take (i := 5) (v := .string rs) nat5 (by kernel_rfl) (by kernel_rfl) (by kernel_rfl) (fun _ _ _ h => False.elim h) (Or.inl ⟨by rfl, ?_⟩) (Below.refl _ _) ?_
          · intro wx hSw
            go_simp
          simp only [Act.put, List.setIfInBounds_toArray, List.set_cons_zero, List.set_cons_succ]
          refine wpAnyH_take (i := 6) (v := .int .i64 (M : Int)) nat6 (by kernel_rfl) (by kernel_rfl) (by kernel_rfl) (fun _ _ _ h => False.elim h) (Or.inl ⟨by rfl, ?_⟩) (Below.refl _ _) ?_
          · intro wx hSw
            go_simp
          simp only [Act.put, List.setIfInBounds_toArray, List.set_cons_zero, List.set_cons_succ]
          refine wpAnyH_take (i := 7) (v := .string (rs.extract 0 M)) nat7 (by kernel_rfl) (by kernel_rfl) (by kernel_rfl) (fun _ _ _ h => False.elim h) (Or.inl ⟨by rfl, ?_⟩) (Below.refl _ _) ?_
          · intro wx hSw
            go_simp
          simp only [Act.put, List.setIfInBounds_toArray, List.set_cons_zero, List.set_cons_succ]
          refine wpAnyH_ready (rs := [3]) (by kernel_rfl) (by simp) ?_
          refine AllReadyH.cons nat3 (fun K hK => ?_) AllReadyH.nil
          go_simp
          refine hK.out _ _ (below_one wq0 _) (fun _ => ?_)
          clear hK K
          have hb1 := below_one wq0 (.cells #[.int .u8 (M : Int), .int .u8 2] 5)
          have fa_1 : (wq0.alloc (.cells #[.int .u8 (M : Int), .int .u8 2] 5)).cell? ⟨wq0.heap.size, 0, none⟩ = some (.int .u8 (M : Int)) := by simp
          have fb_1 : (wq0.alloc (.cells #[.int .u8 (M : Int), .int .u8 2] 5)).cell? ⟨wq0.heap.size, 1, none⟩ = some (.int .u8 2) := by simp
          generalize wq0.alloc (.cells #[.int .u8 (M : Int), .int .u8 2] 5) = wq1 at hb1 fa_1 fb_1 ⊢
          refine wpAnyH_restart hb1 ?_
          refine wpAnyH_take (i := 4) (v := .string (strOfNums [(M : Int), 2])) nat4 (by kernel_rfl) (by kernel_rfl) (by kernel_rfl) (fun _ _ _ h => False.elim h) (Or.inl ⟨by rfl, ?_⟩) (Below.refl _ _) ?_
          · intro wx hSw
            have hx : Below wq1.heap.size wq1 wx := hSw
            have e0 := keepc hx fa_1
            have e1 := keepc hx fb_1
            have e2 := cv _ _ e0 e1
            go_simp
          simp only [Act.put, List.setIfInBounds_toArray, List.set_cons_zero, List.set_cons_succ]
          refine wpAnyH_take (i := 8) (v := .string (fbody 2 (rs.extract 0 M))) nat8 (by kernel_rfl) (by kernel_rfl) (by kernel_rfl) (fun _ _ _ h => False.elim h) (Or.inl ⟨by rfl, ?_⟩) (Below.refl _ _) ?_
          · intro wx hSw
            go_simp
          simp only [Act.put, List.setIfInBounds_toArray, List.set_cons_zero, List.set_cons_succ]
          refine wpAnyH_take (i := 9) (v := .string (fbody 2 (rs.extract 0 M))) nat9 (by kernel_rfl) (by kernel_rfl) (by kernel_rfl) (fun _ _ _ h => False.elim h) (Or.inl ⟨by rfl, ?_⟩) (Below.refl _ _) ?_
          · intro wx hSw
            go_simp
          simp only [Act.put, List.setIfInBounds_toArray, List.set_cons_zero, List.set_cons_succ]
          refine wpAnyH_done (by kernel_rfl) ?_ _
          refine NoPanic.normal ?_
          have HBL : Below wr.heap.size wr wq1 := (hb0).trans (hb1.mono (hb0).size)
          have HLW := hide (HLr.out.trans (HBL.mono HLr.out.size))
          clear HBL HLr
          have hfs := fbody_size 2 (rs.extract 0 M)
          have HFR : Hid (frag 2 (rs.extract 0 M) = fx4 (crc (fbody 2 (rs.extract 0 M))) ++ fbody 2 (rs.extract 0 M)) := rfl
          have hgs := frag_size 2 (rs.extract 0 M)
          generalize hbody : fbody 2 (rs.extract 0 M) = body at *
          clear hbody cv hadd hz2 hw8
          have hf4 := fx4_size (crc body)
          go_wp2_with fail
          refine (spec_Crc body (by unfold maxLen; omega) _).mono ?_
          rintro e w5 ⟨rfl, rfl⟩
          have HL5 := HLW
          clear HLW
          go_wp2_with fail
          refine (spec_PutFixed (crc body) _).mono ?_
          rintro e w6 ⟨rfl, hb6⟩
          have HL6 := hide (HL5.out.trans (hb6.mono HL5.out.size))
          clear hb6 HL5
          generalize fx4 (crc body) = c4 at *
          have a1 : ∀ wx : World, (Op.stringOp .add out c4).run Try.prog wx = .ok (.string (out ++ c4)) wx := fun wx => run_string_add_sum wx _ _ (by omega)
          have a2 : ∀ wx : World, (Op.stringOp .add (out ++ c4) body).run Try.prog wx = .ok (.string (out ++ c4 ++ body)) wx := fun wx => run_string_add_sum wx _ _ (by rw [ByteArray.size_append]; omega)
          have HOB : Hid (out ++ c4 ++ body = out ++ frag 2 (rs.extract 0 M)) := by show _ = _; rw [HFR.out, ByteArray.append_assoc]
          have hz5 : (out ++ c4 ++ body).size + 100 * (rs.extract M rs.size).size + gapOf 0 ≤ 800200 := by
            have : gapOf 0 = 0 := rfl
            rw [HOB.out, ByteArray.size_append]; omega
          have HP5 : Hid (PhW at' r 0 false (rs.extract M rs.size) (out ++ c4 ++ body)) := by
            refine Or.inr ⟨rfl, rfl, 138, by omega, ?_⟩
            rw [HOB.out]; exact HV2.out
          have hms : msr (.int .i64 0) (.string (rs.extract M rs.size)) < msr (.int .i64 (A : Int)) (.string rs) := by
            have : (rs.extract M rs.size).size + 1 ≤ rs.size := by omega
            exact msr_less this
          go_wp2
          exact ⟨⟨_, _, 0, false, rfl, rfl, rfl, rfl, hz5, HL6, HP5⟩, hms⟩
    · have HV := hide hV
      clear hV HP
      by_cases hfit : rs.size ≤ 58
      · have HV2 : Hid (writeLog at' r = out ++ frag 4 rs) := by show _ = _; rw [HV.out, tl_last f hfit]
        have hmin : min 58 (rs.size : Int) = (rs.size : Int) := by omega
        have hext := ext_all rs
        have hPN : (rs.size : Int) = (rs.size : Int) := rfl
        clear HV
        have hw8 : IntKind.u8.wrap (rs.size : Int) = (rs.size : Int) := by rw [IntKind.wrap_u8]; omega
        have cv := fun (wx : World) (g : Nat) (h0 : wx.cell? ⟨g, 0, none⟩ = some (.int .u8 (rs.size : Int))) (h1 : wx.cell? ⟨g, 1, none⟩ = some (.int .u8 4)) => conv_two (P := Try.prog) 67 5 9 Try.underlying67 Try.underlying5 Try.underlying9 wx g (rs.size : Int) 4 h0 h1
        have hz2 : (strOfNums [(rs.size : Int), 4]).size = 2 := by rw [strOfNums_size]; rfl
        have hadd : ∀ wx : World, (Op.stringOp .add (strOfNums [(rs.size : Int), 4]) rs).run Try.prog wx = .ok (.string (fbody 4 rs)) wx := fun wx => by
          rw [fbody, hPN]
          exact run_string_add_sum wx _ _ (by omega)
        go_wp2_with fail
        refine wp_region_noPanic ?_
        refine wp_region_held_drew (S := fun x => Below wr.heap.size wr x) (by kernel_rfl) (Below.refl _ _).drew (fun hH => ?_)
        have hb0 : Below wr.heap.size wr wr.drew := hH
        clear hH
        generalize wr.drew = wq0 at hb0  ⊢
        refine wpAnyH_restart hb0 ?_
        refine wpAnyH_take (i := 0) (v := .int .i64 (rs.size : Int)) nat0 (by kernel_rfl) (by kernel_rfl) (by kernel_rfl) (fun _ _ _ h => False.elim h) (Or.inl ⟨by rfl, ?_⟩) (Below.refl _ _) ?_
        · intro wx hSw
          go_simp
        simp only [Act.put, List.setIfInBounds_toArray, List.set_cons_zero, List.set_cons_succ]
        refine wpAnyH_take (i := 1) (v := .int .u8 (rs.size : Int)) nat1 (by kernel_rfl) (by kernel_rfl) (by kernel_rfl) (fun _ _ _ h => False.elim h) (Or.inl ⟨by rfl, ?_⟩) (Below.refl _ _) ?_
        · intro wx hSw
          go_simp
        simp only [Act.put, List.setIfInBounds_toArray, List.set_cons_zero, List.set_cons_succ]
        refine wpAnyH_take (i := 2) (v := .int .u8 4) nat2 (by kernel_rfl) (by kernel_rfl) (by kernel_rfl) (fun _ _ _ h => False.elim h) (Or.inl ⟨by rfl, ?_⟩) (Below.refl _ _) ?_
        · intro wx hSw
          go_simp
        simp only [Act.put, List.setIfInBounds_toArray, List.set_cons_zero, List.set_cons_succ]
        refine wpAnyH_take (i := 5) (v := .string rs) nat5 (by kernel_rfl) (by kernel_rfl) (by kernel_rfl) (fun _ _ _ h => False.elim h) (Or.inl ⟨by rfl, ?_⟩) (Below.refl _ _) ?_
        · intro wx hSw
          go_simp
        simp only [Act.put, List.setIfInBounds_toArray, List.set_cons_zero, List.set_cons_succ]
        refine wpAnyH_take (i := 6) (v := .int .i64 (rs.size : Int)) nat6 (by kernel_rfl) (by kernel_rfl) (by kernel_rfl) (fun _ _ _ h => False.elim h) (Or.inl ⟨by rfl, ?_⟩) (Below.refl _ _) ?_
        · intro wx hSw
          go_simp
        simp only [Act.put, List.setIfInBounds_toArray, List.set_cons_zero, List.set_cons_succ]
        refine wpAnyH_take (i := 7) (v := .string rs) nat7 (by kernel_rfl) (by kernel_rfl) (by kernel_rfl) (fun _ _ _ h => False.elim h) (Or.inl ⟨by rfl, ?_⟩) (Below.refl _ _) ?_
        · intro wx hSw
          go_simp
        simp only [Act.put, List.setIfInBounds_toArray, List.set_cons_zero, List.set_cons_succ]
        refine wpAnyH_ready (rs := [3]) (by kernel_rfl) (by simp) ?_
        refine AllReadyH.cons nat3 (fun K hK => ?_) AllReadyH.nil
        go_simp
        refine hK.out _ _ (below_one wq0 _) (fun _ => ?_)
        clear hK K
        have hb1 := below_one wq0 (.cells #[.int .u8 (rs.size : Int), .int .u8 4] 5)
        have fa_1 : (wq0.alloc (.cells #[.int .u8 (rs.size : Int), .int .u8 4] 5)).cell? ⟨wq0.heap.size, 0, none⟩ = some (.int .u8 (rs.size : Int)) := by simp
        have fb_1 : (wq0.alloc (.cells #[.int .u8 (rs.size : Int), .int .u8 4] 5)).cell? ⟨wq0.heap.size, 1, none⟩ = some (.int .u8 4) := by simp
        generalize wq0.alloc (.cells #[.int .u8 (rs.size : Int), .int .u8 4] 5) = wq1 at hb1 fa_1 fb_1 ⊢
        refine wpAnyH_restart hb1 ?_
        refine wpAnyH_take (i := 4) (v := .string (strOfNums [(rs.size : Int), 4])) nat4 (by kernel_rfl) (by kernel_rfl) (by kernel_rfl) (fun _ _ _ h => False.elim h) (Or.inl ⟨by rfl, ?_⟩) (Below.refl _ _) ?_
        · intro wx hSw
          have hx : Below wq1.heap.size wq1 wx := hSw
          have e0 := keepc hx fa_1
          have e1 := keepc hx fb_1
          have e2 := cv _ _ e0 e1
          go_simp
        simp only [Act.put, List.setIfInBounds_toArray, List.set_cons_zero, List.set_cons_succ]
        refine wpAnyH_take (i := 8) (v := .string (fbody 4 rs)) nat8 (by kernel_rfl) (by kernel_rfl) (by kernel_rfl) (fun _ _ _ h => False.elim h) (Or.inl ⟨by rfl, ?_⟩) (Below.refl _ _) ?_
        · intro wx hSw
          go_simp
        simp only [Act.put, List.setIfInBounds_toArray, List.set_cons_zero, List.set_cons_succ]
        refine wpAnyH_take (i := 9) (v := .string (fbody 4 rs)) nat9 (by kernel_rfl) (by kernel_rfl) (by kernel_rfl) (fun _ _ _ h => False.elim h) (Or.inl ⟨by rfl, ?_⟩) (Below.refl _ _) ?_
        · intro wx hSw
          go_simp
        simp only [Act.put, List.setIfInBounds_toArray, List.set_cons_zero, List.set_cons_succ]
        refine wpAnyH_done (by kernel_rfl) ?_ _
        refine NoPanic.normal ?_
        have HBL : Below wr.heap.size wr wq1 := (hb0).trans (hb1.mono (hb0).size)
        have HLW := hide (HLr.out.trans (HBL.mono HLr.out.size))
        clear HBL HLr
        have hfs := fbody_size 4 rs
        have HFR : Hid (frag 4 rs = fx4 (crc (fbody 4 rs)) ++ fbody 4 rs) := rfl
        have hgs := frag_size 4 rs
        generalize hbody : fbody 4 rs = body at *
        clear hbody cv hadd hz2 hw8
        have hf4 := fx4_size (crc body)
        go_wp2_with fail
        refine (spec_Crc body (by unfold maxLen; omega) _).mono ?_
        rintro e w5 ⟨rfl, rfl⟩
        have HL5 := HLW
        clear HLW
        go_wp2_with fail
        refine (spec_PutFixed (crc body) _).mono ?_
        rintro e w6 ⟨rfl, hb6⟩
        have HL6 := hide (HL5.out.trans (hb6.mono HL5.out.size))
        clear hb6 HL5
        generalize fx4 (crc body) = c4 at *
        have a1 : ∀ wx : World, (Op.stringOp .add out c4).run Try.prog wx = .ok (.string (out ++ c4)) wx := fun wx => run_string_add_sum wx _ _ (by omega)
        have a2 : ∀ wx : World, (Op.stringOp .add (out ++ c4) body).run Try.prog wx = .ok (.string (out ++ c4 ++ body)) wx := fun wx => run_string_add_sum wx _ _ (by rw [ByteArray.size_append]; omega)
        have HOB : Hid (out ++ c4 ++ body = out ++ frag 4 rs) := by show _ = _; rw [HFR.out, ByteArray.append_assoc]
        go_wp2
        go_ret
        exact ⟨ret_strW (by rw [HV2.out, HOB.out]), HL6.out⟩
      · obtain ⟨f, rfl⟩ : ∃ f', f = f' + 1 := ⟨f - 1, by omega⟩
        have HV2 : Hid (writeLog at' r = out ++ frag 3 (rs.extract 0 58) ++ tl f (rs.extract 58 rs.size)) := by show _ = _; rw [HV.out, tl_more f hfit, ByteArray.append_assoc]
        have hmin : min 58 (rs.size : Int) = 58 := by omega
        have hne : ((58 : Int) == (rs.size : Int)) = false := by simp; omega
        have hne2 : ¬ ((58 : Int) = (rs.size : Int)) := by omega
        have hM1 : (58 : Int) ≤ (rs.size : Int) := by omega
        have zP : (rs.extract 0 58).size = 58 := by simp; omega
        have zR : (rs.extract 58 rs.size).size = rs.size - 58 := by simp
        have hPN : ((rs.extract 0 58).size : Int) = 58 := by omega
        have h8 : rs.size ≤ 8002 := by omega
        clear HV
        have hw8 : IntKind.u8.wrap 58 = 58 := by rw [IntKind.wrap_u8]; omega
        have cv := fun (wx : World) (g : Nat) (h0 : wx.cell? ⟨g, 0, none⟩ = some (.int .u8 58)) (h1 : wx.cell? ⟨g, 1, none⟩ = some (.int .u8 3)) => conv_two (P := Try.prog) 67 5 9 Try.underlying67 Try.underlying5 Try.underlying9 wx g 58 3 h0 h1
        have hz2 : (strOfNums [58, 3]).size = 2 := by rw [strOfNums_size]; rfl
        have hadd : ∀ wx : World, (Op.stringOp .add (strOfNums [58, 3]) (rs.extract 0 58)).run Try.prog wx = .ok (.string (fbody 3 (rs.extract 0 58))) wx := fun wx => by
          rw [fbody, hPN]
          exact run_string_add_sum wx _ _ (by omega)
        go_wp2_with fail
        refine wp_region_noPanic ?_
        refine wp_region_held_drew (S := fun x => Below wr.heap.size wr x) (by kernel_rfl) (Below.refl _ _).drew (fun hH => ?_)
        have hb0 : Below wr.heap.size wr wr.drew := hH
        clear hH
        generalize wr.drew = wq0 at hb0  ⊢
        refine wpAnyH_restart hb0 ?_
        refine wpAnyH_take (i := 0) (v := .int .i64 58) nat0 (by kernel_rfl) (by kernel_rfl) (by kernel_rfl) (fun _ _ _ h => False.elim h) (Or.inl ⟨by rfl, ?_⟩) (Below.refl _ _) ?_
        · intro wx hSw
          go_simp
        simp only [Act.put, List.setIfInBounds_toArray, List.set_cons_zero, List.set_cons_succ]
        refine wpAnyH_take (i := 1) (v := .int .u8 58) nat1 (by kernel_rfl) (by kernel_rfl) (by kernel_rfl) (fun _ _ _ h => False.elim h) (Or.inl ⟨by rfl, ?_⟩) (Below.refl _ _) ?_
        · intro wx hSw
          go_simp
        simp only [Act.put, List.setIfInBounds_toArray, List.set_cons_zero, List.set_cons_succ]
        refine wpAnyH_take (i := 2) (v := .int .u8 3) nat2 (by kernel_rfl) (by kernel_rfl) (by kernel_rfl) (fun _ _ _ h => False.elim h) (Or.inl ⟨by rfl, ?_⟩) (Below.refl _ _) ?_
        · intro wx hSw
          go_simp
        simp only [Act.put, List.setIfInBounds_toArray, List.set_cons_zero, List.set_cons_succ]
        refine wpAnyH_take (i := 5) (v := .string rs) nat5 (by kernel_rfl) (by kernel_rfl) (by kernel_rfl) (fun _ _ _ h => False.elim h) (Or.inl ⟨by rfl, ?_⟩) (Below.refl _ _) ?_
        · intro wx hSw
          go_simp
        simp only [Act.put, List.setIfInBounds_toArray, List.set_cons_zero, List.set_cons_succ]
        refine wpAnyH_take (i := 6) (v := .int .i64 58) nat6 (by kernel_rfl) (by kernel_rfl) (by kernel_rfl) (fun _ _ _ h => False.elim h) (Or.inl ⟨by rfl, ?_⟩) (Below.refl _ _) ?_
        · intro wx hSw
          go_simp
        simp only [Act.put, List.setIfInBounds_toArray, List.set_cons_zero, List.set_cons_succ]
        refine wpAnyH_take (i := 7) (v := .string (rs.extract 0 58)) nat7 (by kernel_rfl) (by kernel_rfl) (by kernel_rfl) (fun _ _ _ h => False.elim h) (Or.inl ⟨by rfl, ?_⟩) (Below.refl _ _) ?_
        · intro wx hSw
          go_simp
        simp only [Act.put, List.setIfInBounds_toArray, List.set_cons_zero, List.set_cons_succ]
        refine wpAnyH_ready (rs := [3]) (by kernel_rfl) (by simp) ?_
        refine AllReadyH.cons nat3 (fun K hK => ?_) AllReadyH.nil
        go_simp
        refine hK.out _ _ (below_one wq0 _) (fun _ => ?_)
        clear hK K
        have hb1 := below_one wq0 (.cells #[.int .u8 58, .int .u8 3] 5)
        have fa_1 : (wq0.alloc (.cells #[.int .u8 58, .int .u8 3] 5)).cell? ⟨wq0.heap.size, 0, none⟩ = some (.int .u8 58) := by simp
        have fb_1 : (wq0.alloc (.cells #[.int .u8 58, .int .u8 3] 5)).cell? ⟨wq0.heap.size, 1, none⟩ = some (.int .u8 3) := by simp
        generalize wq0.alloc (.cells #[.int .u8 58, .int .u8 3] 5) = wq1 at hb1 fa_1 fb_1 ⊢
        refine wpAnyH_restart hb1 ?_
        refine wpAnyH_take (i := 4) (v := .string (strOfNums [58, 3])) nat4 (by kernel_rfl) (by kernel_rfl) (by kernel_rfl) (fun _ _ _ h => False.elim h) (Or.inl ⟨by rfl, ?_⟩) (Below.refl _ _) ?_
        · intro wx hSw
          have hx : Below wq1.heap.size wq1 wx := hSw
          have e0 := keepc hx fa_1
          have e1 := keepc hx fb_1
          have e2 := cv _ _ e0 e1
          go_simp
        simp only [Act.put, List.setIfInBounds_toArray, List.set_cons_zero, List.set_cons_succ]
        refine wpAnyH_take (i := 8) (v := .string (fbody 3 (rs.extract 0 58))) nat8 (by kernel_rfl) (by kernel_rfl) (by kernel_rfl) (fun _ _ _ h => False.elim h) (Or.inl ⟨by rfl, ?_⟩) (Below.refl _ _) ?_
        · intro wx hSw
          go_simp
        simp only [Act.put, List.setIfInBounds_toArray, List.set_cons_zero, List.set_cons_succ]
        refine wpAnyH_take (i := 9) (v := .string (fbody 3 (rs.extract 0 58))) nat9 (by kernel_rfl) (by kernel_rfl) (by kernel_rfl) (fun _ _ _ h => False.elim h) (Or.inl ⟨by rfl, ?_⟩) (Below.refl _ _) ?_
        · intro wx hSw
          go_simp
        simp only [Act.put, List.setIfInBounds_toArray, List.set_cons_zero, List.set_cons_succ]
        refine wpAnyH_done (by kernel_rfl) ?_ _
        refine NoPanic.normal ?_
        have HBL : Below wr.heap.size wr wq1 := (hb0).trans (hb1.mono (hb0).size)
        have HLW := hide (HLr.out.trans (HBL.mono HLr.out.size))
        clear HBL HLr
        have hfs := fbody_size 3 (rs.extract 0 58)
        have HFR : Hid (frag 3 (rs.extract 0 58) = fx4 (crc (fbody 3 (rs.extract 0 58))) ++ fbody 3 (rs.extract 0 58)) := rfl
        have hgs := frag_size 3 (rs.extract 0 58)
        generalize hbody : fbody 3 (rs.extract 0 58) = body at *
        clear hbody cv hadd hz2 hw8
        have hf4 := fx4_size (crc body)
        go_wp2_with fail
        refine (spec_Crc body (by unfold maxLen; omega) _).mono ?_
        rintro e w5 ⟨rfl, rfl⟩
        have HL5 := HLW
        clear HLW
        go_wp2_with fail
        refine (spec_PutFixed (crc body) _).mono ?_
        rintro e w6 ⟨rfl, hb6⟩
        have HL6 := hide (HL5.out.trans (hb6.mono HL5.out.size))
        clear hb6 HL5
        generalize fx4 (crc body) = c4 at *
        have a1 : ∀ wx : World, (Op.stringOp .add out c4).run Try.prog wx = .ok (.string (out ++ c4)) wx := fun wx => run_string_add_sum wx _ _ (by omega)
        have a2 : ∀ wx : World, (Op.stringOp .add (out ++ c4) body).run Try.prog wx = .ok (.string (out ++ c4 ++ body)) wx := fun wx => run_string_add_sum wx _ _ (by rw [ByteArray.size_append]; omega)
        have HOB : Hid (out ++ c4 ++ body = out ++ frag 3 (rs.extract 0 58)) := by show _ = _; rw [HFR.out, ByteArray.append_assoc]
        have hz5 : (out ++ c4 ++ body).size + 100 * (rs.extract 58 rs.size).size + gapOf 0 ≤ 800200 := by
          have : gapOf 0 = 0 := rfl
          rw [HOB.out, ByteArray.size_append]; omega
        have HP5 : Hid (PhW at' r 0 false (rs.extract 58 rs.size) (out ++ c4 ++ body)) := by
          refine Or.inr ⟨rfl, rfl, f, by omega, ?_⟩
          rw [HOB.out]; exact HV2.out
        have hms : msr (.int .i64 0) (.string (rs.extract 58 rs.size)) < msr (.int .i64 0) (.string rs) := by
          have : (rs.extract 58 rs.size).size + 1 ≤ rs.size := by omega
          exact msr_less this
        go_wp2
        exact ⟨⟨_, _, 0, false, rfl, rfl, rfl, rfl, hz5, HL6, HP5⟩, hms⟩

end Go.Proofs.Ytonkjdjancnajaa
