/- Visible of the model. (By gen_viss.py.) -/
import Derived.Test.YtfnhlccpkommoaaVis
import Derived.Deep.RegionHeld3
namespace Go.Proofs.Ytfnhlccpkommoaa
set_option maxRecDepth 100000
open Go.RowKit Go.Deep

theorem lastA_no {E : Ents} {seq : Int} {k : Nat} (h : lkA E seq k = false) : lastA E seq (k + 1) = lastA E seq k := by
  show lkp _ _ _ _ = _
  unfold lkp
  rw [if_neg (by rw [show lk seq (lastA E seq k) (E.U k) (E.Q k) = false from h]; decide)]
theorem lastA_yes {E : Ents} {seq : Int} {k : Nat} (h : lkA E seq k = true) : lastA E seq (k + 1) = E.U k := by
  show lkp _ _ _ _ = _
  unfold lkp
  rw [if_pos (show lk seq (lastA E seq k) (E.U k) (E.Q k) = true from h)]

set_option linter.unusedVariables false in
set_option linter.unusedSimpArgs false in
set_option maxHeartbeats 4000000 in
theorem spec_l13Visible (a : Option Addr) (len cap : Nat) (E : Ents) (seq : Int) (w : World) (hl : len ≤ 1000) (hS : EntAt w w.heap.size a len E) :
    Calls Try.prog 37 #[.slice a len cap, .int .i64 seq] w fun e w' => (∃ v, e = .returned v ∧ OwnPair w' w.heap.size v (visL E seq len)) ∧ Below w.heap.size w w' := by
  have HS : Hid (EntAt w w.heap.size a len E) := hS
  have HB0 : Hid (Below w.heap.size w (w.alloc (.cells #[] 38))) := below_one w _
  have HO0 : Hid (OwnPair (w.alloc (.cells #[] 38)) w.heap.size (.slice (some ⟨w.heap.size, 0, none⟩) 0 0) (visL E seq 0)) := OwnPair.lit w _ (Nat.le_refl _)
  have HP0 : Hid ((⟨#[]⟩ : ByteArray) = lastA E seq 0) := rfl
  clear hS
  go_enter Try.func37, Try.ntmps37
  go_wp2
  go_loopw [5, 6, 7] (fun v l i wr => ∃ (k : Nat) (p : ByteArray), l = .string p ∧ i = .int .i64 k ∧ k ≤ len ∧ Hid (p = lastA E seq k) ∧ Hid (OwnPair wr w.heap.size v (visL E seq k)) ∧ Hid (Below w.heap.size w wr)) (fun _ _ i _ => len - (intOf i).toNat)
  case atStart => exact ⟨0, _, rfl, rfl, by omega, HP0, HO0, HB0⟩
  case round =>
    obtain ⟨k, p, rfl, rfl, hk, HP, HO, HW⟩ := hrel
    clear HB0 HO0 HP0
    by_cases hlt : k < len
    · obtain ⟨b', off, rfl, hb', c0, c1, c2, c3⟩ := (HS.out.below HW.out).at hlt
      have hki : (k : Int) < (len : Int) := by omega
      have hwz := HW.out.size
      have hb1 := below_one wr (.cells #[.string (E.U k), .int .i64 (E.Q k), .int .i64 (E.K k)] 55)
      have HX := (BoxIs.new wr #[.string (E.U k), .int .i64 (E.Q k), .int .i64 (E.K k)] 55 rfl).hid
      have HO1 := hide (HO.out.next hb1)
      have HW1 := hide (HW.out.trans (hb1.mono hwz))
      have HC1 := hide (keepc hb1 c3)
      clear HO HW hb1
      by_cases h1 : seq < E.Q k
      · have hv : lkA E seq k = false := lk_high h1
        have hU : visL E seq (k + 1) = visL E seq k := visL_not (by rw [hv]; simp)
        have HP2 : Hid (p = lastA E seq (k + 1)) := by show _ = _; rw [lastA_no hv]; exact HP.out
        have HO2 : Hid (OwnPair (wr.alloc (.cells #[.string (E.U k), .int .i64 (E.Q k), .int .i64 (E.K k)] 55)) w.heap.size u5 (visL E seq (k + 1))) := by rw [hU]; exact HO1.out
        clear hv hU HP HO1 HX HC1
        go_wp2
        exact ⟨⟨k + 1, _, rfl, by go_num, by omega, HP2, HO2, HW1⟩, by simp [intOf]; omega⟩
      · have h1' : ¬ (seq < E.Q k) := h1
        by_cases h2 : E.U k = p
        · subst h2
          have hv : lkA E seq k = false := lk_same HP.out
          have hU : visL E seq (k + 1) = visL E seq k := visL_not (by rw [hv]; simp)
          have HP2 : Hid (E.U k = lastA E seq (k + 1)) := by show _ = _; rw [lastA_no hv]; exact HP.out
          have HO2 : Hid (OwnPair (wr.alloc (.cells #[.string (E.U k), .int .i64 (E.Q k), .int .i64 (E.K k)] 55)) w.heap.size u5 (visL E seq (k + 1))) := by rw [hU]; exact HO1.out
          clear hv hU HP HO1 HX HC1
          go_wp2
          exact ⟨⟨k + 1, _, rfl, by go_num, by omega, HP2, HO2, HW1⟩, by simp [intOf]; omega⟩
        · have hn := toList_neL h2
          have hn2 : ((E.U k).toList == p.toList) = false := by simpa using hn
          have hv : lkA E seq k = true := lk_yes (by rw [← HP.out]; exact h2) (by omega)
          have HP : Hid (E.U k = lastA E seq (k + 1)) := (lastA_yes hv).symm
          by_cases hK : E.K k = 1
          · have HU := hide (visL_put hv hK)
            have hK1 : (E.K k == 1) = true := by simp [hK]
            clear hv hK
            go_wp2_with fail
            generalize wr.alloc (.cells #[.string (E.U k), .int .i64 (E.Q k), .int .i64 (E.K k)] 55) = w3 at HX HO1 HW1 HC1 ⊢
            obtain ⟨OW, XB, EW, CB⟩ : _ ∧ _ ∧ _ ∧ _ := ⟨HO1.out, HX.out, HW1.out, HC1.out⟩
            clear HX HO1 HW1 HC1 c0 c1 c2 c3
            refine wp_region_noPanic ?_
            have hb0 : Below w3.heap.size w3 w3.drew := (Below.refl _ _).drew
            have EW_0 := EW.trans (hb0.mono EW.size)
            have OW_0 := OW.next hb0
            have XB_0 := XB.next hb0
            have CB_0 := keepc hb0 CB
            refine wp_region_held_drew (S := fun x => BoxIs x wr.heap.size #[.string (E.U k), .int .i64 (E.Q k), .int .i64 (E.K k)] 55 ∧ x.cell? ⟨b', off + k * 4 + 3, none⟩ = some (.string (E.X k))) (by kernel_rfl) ⟨XB_0, CB_0⟩ (fun _ => ?_)
            clear CB EW OW XB
            generalize w3.drew = wq0 at hb0 EW_0 OW_0 XB_0 CB_0 ⊢
            clear hb0
            refine wpAnyH_take (i := 0) (v := u5) nat0 (by kernel_rfl) (by kernel_rfl) (by kernel_rfl) (fun _ _ _ h => False.elim h) (Or.inl ⟨by rfl, ?_⟩) ⟨XB_0, CB_0⟩ ?_
            · intro wx hSw
              go_simp
            simp only [Act.put, List.setIfInBounds_toArray, List.set_cons_zero, List.set_cons_succ]
            refine wpAnyH_take (i := 1) (v := .pointer (some ⟨wr.heap.size, 0, none⟩)) nat1 (by kernel_rfl) (by kernel_rfl) (by kernel_rfl) (fun _ _ _ h => False.elim h) (Or.inl ⟨by rfl, ?_⟩) ⟨XB_0, CB_0⟩ ?_
            · intro wx hSw
              go_simp
            simp only [Act.put, List.setIfInBounds_toArray, List.set_cons_zero, List.set_cons_succ]
            refine wpAnyH_take (i := 2) (v := .string (E.U k)) nat2 (by kernel_rfl) (by kernel_rfl) (by kernel_rfl) (fun _ _ _ h => False.elim h) (Or.inl ⟨by rfl, ?_⟩) ⟨XB_0, CB_0⟩ ?_
            · intro wx hSw
              have hx : BoxIs wx wr.heap.size #[.string (E.U k), .int .i64 (E.Q k), .int .i64 (E.K k)] 55 := hSw.1
              have e0 := hx.cell 0
              simp only [List.getElem?_toArray, List.getElem?_cons_succ, List.getElem?_cons_zero] at e0
              go_simp
            simp only [Act.put, List.setIfInBounds_toArray, List.set_cons_zero, List.set_cons_succ]
            refine wpAnyH_take (i := 3) (v := (.slice (some ⟨b', off, none⟩) len cap)) nat3 (by kernel_rfl) (by kernel_rfl) (by kernel_rfl) (fun _ _ _ h => False.elim h) (Or.inl ⟨by rfl, ?_⟩) ⟨XB_0, CB_0⟩ ?_
            · intro wx hSw
              go_simp
            simp only [Act.put, List.setIfInBounds_toArray, List.set_cons_zero, List.set_cons_succ]
            refine wpAnyH_take (i := 4) (v := .int .i64 (k : Int)) nat4 (by kernel_rfl) (by kernel_rfl) (by kernel_rfl) (fun _ _ _ h => False.elim h) (Or.inl ⟨by rfl, ?_⟩) ⟨XB_0, CB_0⟩ ?_
            · intro wx hSw
              go_simp
            simp only [Act.put, List.setIfInBounds_toArray, List.set_cons_zero, List.set_cons_succ]
            refine wpAnyH_take (i := 5) (v := (.pointer (some ⟨b', off + k * 4, none⟩))) nat5 (by kernel_rfl) (by kernel_rfl) (by kernel_rfl) (fun _ _ _ h => False.elim h) (Or.inl ⟨by rfl, ?_⟩) ⟨XB_0, CB_0⟩ ?_
            · intro wx hSw
              go_simp
            simp only [Act.put, List.setIfInBounds_toArray, List.set_cons_zero, List.set_cons_succ]
            refine wpAnyH_take (i := 6) (v := (.pointer (some ⟨b', off + k * 4 + 3, none⟩))) nat6 (by kernel_rfl) (by kernel_rfl) (by kernel_rfl) (fun _ _ _ h => False.elim h) (Or.inl ⟨by rfl, ?_⟩) ⟨XB_0, CB_0⟩ ?_
            · intro wx hSw
              go_simp
            simp only [Act.put, List.setIfInBounds_toArray, List.set_cons_zero, List.set_cons_succ]
            refine wpAnyH_take (i := 7) (v := .string (E.X k)) nat7 (by kernel_rfl) (by kernel_rfl) (by kernel_rfl) (fun _ _ _ h => False.elim h) (Or.inl ⟨by rfl, ?_⟩) ⟨XB_0, CB_0⟩ ?_
            · intro wx hSw
              have e0 := hSw.2
              go_simp
            simp only [Act.put, List.setIfInBounds_toArray, List.set_cons_zero, List.set_cons_succ]
            refine wpAnyH_take (i := 8) (v := .agg #[.string (E.U k), .string (E.X k)]) nat8 (by kernel_rfl) (by kernel_rfl) (by kernel_rfl) (fun _ _ _ h => False.elim h) (Or.inl ⟨by rfl, ?_⟩) ⟨XB_0, CB_0⟩ ?_
            · intro wx hSw
              go_simp
            simp only [Act.put, List.setIfInBounds_toArray, List.set_cons_zero, List.set_cons_succ]
            refine wpAnyH_ready (rs := [9]) (by kernel_rfl) (by simp) ?_
            refine AllReadyH.cons nat9 (fun K hK => ?_) AllReadyH.nil
            go_simp
            have hb1 := below_one wq0 (.cells #[.string (E.U k), .string (E.X k)] 38)
            have EW_1 := EW_0.trans (hb1.mono EW_0.size)
            have OW_1 := OW_0.next hb1
            have XB_1 := XB_0.next hb1
            have CB_1 := keepc hb1 CB_0
            have NB_1 := BoxIs.new wq0 #[.string (E.U k), .string (E.X k)] 38 rfl
            refine hK.out _ _ ⟨XB_1, CB_1⟩ (fun _ => ?_)
            clear hK K CB_0 EW_0 OW_0 XB_0
            obtain ⟨G1, hG1⟩ : ∃ G, G = wq0.heap.size := ⟨_, rfl⟩
            rw [← hG1] at NB_1 ⊢
            generalize wq0.alloc (.cells #[.string (E.U k), .string (E.X k)] 38) = wq1 at hb1 EW_1 OW_1 XB_1 CB_1 NB_1 ⊢
            clear hG1 hb1
            refine wpAnyH_ready (rs := [10]) (by kernel_rfl) (by simp) ?_
            refine AllReadyH.cons nat10 (fun K hK => ?_) AllReadyH.nil
            skip
            refine step_append_pair rfl (.tmp 36) (.tmp 45) 24 rfl Try.underlying24 w.heap.size u5 (visL E seq k) [⟨E.U k, E.X k⟩] (by rfl) OW_1 ⟨G1, 0, none⟩ 1 1 (by rfl) rfl (pair_news NB_1) (by have := EW_1.size; omega) (by have := visL_len E seq k; omega) ?_
            intro v' wq2 h1 h2
            have hgb := OW_1.grownBelow (by have := EW_1.size; omega) h2
            have OW_2 := h1
            have EW_2 := EW_1.trans hgb
            have XB_2 := OW_1.grownBox XB_1 (by decide) h2
            have CB_2 := (hgb.cell (p := ⟨b', _, none⟩) hb').trans CB_1
            refine hK.out _ _ ⟨XB_2, CB_2⟩ (fun _ => ?_)
            clear hK K CB_1 EW_1 NB_1 OW_1 XB_1
            refine wpAnyH_take (i := 11) (v := v') nat11 (by kernel_rfl) (by kernel_rfl) (by kernel_rfl) (fun _ _ _ h => False.elim h) (Or.inl ⟨by rfl, ?_⟩) ⟨XB_2, CB_2⟩ ?_
            · intro wx hSw
              go_simp
            simp only [Act.put, List.setIfInBounds_toArray, List.set_cons_zero, List.set_cons_succ]
            refine wpAnyH_done (by kernel_rfl) ?_ _
            refine NoPanic.normal ?_
            have HEW := hide EW_2
            have HOW : Hid (OwnPair wq2 w.heap.size v' (visL E seq (k + 1))) := by show OwnPair _ _ _ _; rw [HU.out]; exact OW_2
            clear CB_2 EW_2 OW_2 XB_2
            go_wp2
            exact ⟨⟨k + 1, _, rfl, by go_num, by omega, HP, HOW, HEW⟩, by simp [intOf]; omega⟩
          · have hU : visL E seq (k + 1) = visL E seq k := visL_not (by intro h; exact hK h.2)
            have hK2 : (E.K k == 1) = false := by simp [hK]
            have HO2 : Hid (OwnPair (wr.alloc (.cells #[.string (E.U k), .int .i64 (E.Q k), .int .i64 (E.K k)] 55)) w.heap.size u5 (visL E seq (k + 1))) := by rw [hU]; exact HO1.out
            clear hv hU HO1 HX HC1
            go_wp2
            exact ⟨⟨k + 1, _, rfl, by go_num, by omega, HP, HO2, HW1⟩, by simp [intOf]; omega⟩
    · obtain rfl : k = len := by omega
      go_wp2
      go_ret
      exact ⟨⟨_, rfl, HO.out⟩, HW.out⟩

end Go.Proofs.Ytfnhlccpkommoaa
