/- The marks in a row of EntryS: laid and looked for. -/
import Derived.Test.YtjcoejabpagaiaaMark
namespace Go.Proofs.Ytjcoejabpagaiaa
set_option maxRecDepth 100000
open Go.RowKit

def kdEntryS (j : Nat) : Bool := decide (j % 4 = 1) || decide (j % 4 = 2)
theorem kdEntryS_0 (k : Nat) : kdEntryS (k * 4) = false := by unfold kdEntryS; simp <;> omega
theorem kdEntryS_1 (k : Nat) : kdEntryS (k * 4 + 1) = true := by unfold kdEntryS; simp <;> omega
theorem kdEntryS_2 (k : Nat) : kdEntryS (k * 4 + 2) = true := by unfold kdEntryS; simp <;> omega
theorem kdEntryS_3 (k : Nat) : kdEntryS (k * 4 + 3) = false := by unfold kdEntryS; simp <;> omega

set_option maxHeartbeats 2000000 in
theorem laws_markEntryS (K0 : Nat) (kv : Int) (hkv : kv = (K0 : Int)) (hK : 1 ≤ K0 ∧ K0 ≤ 50000000) (a : Option Addr) (len cap g : Nat) (w : World) (hl : len ≤ 1048576) (hg : len = 0 ∨ a = some ⟨g, 0, none⟩) (hw : ∀ j, j < len * 4 → (∃ v, w.cell? ⟨g, j, none⟩ = some v) ∧ w.frozen? ⟨g, j, none⟩ = false) :
    Calls Try.prog 11 #[.slice a len cap, .int .i64 kv] w fun e w' => e = .returned (.int .i64 ((K0 + len * 4 : Nat) : Int)) ∧ Mk kdEntryS g (len * 4) K0 (len * 4) w w' := by
  have H0 : Hid (Mk kdEntryS g (len * 4) K0 (0 * 4) w w) := Mk.start hw
  clear hw
  obtain ⟨hK1, hK2⟩ := hK
  have hK3 : (K0 : Int) ≤ 50000000 := by omega
  have hK4 : (1 : Int) ≤ (K0 : Int) := by omega
  subst hkv
  go_enter Try.func11, Try.ntmps11
  go_wp2
  go_loopw [1, 5] (fun q i wr => ∃ k : Nat, q = .int .i64 ((K0 + k * 4 : Nat) : Int) ∧ i = .int .i64 k ∧ k ≤ len ∧ Hid (Mk kdEntryS g (len * 4) K0 (k * 4) w wr)) (fun _ i _ => len - (intOf i).toNat)
  case atStart => exact ⟨0, by simp, rfl, by omega, H0⟩
  case round =>
    obtain ⟨k, rfl, rfl, hk, HR⟩ := hrel
    clear H0
    by_cases hlt : k < len
    · obtain rfl : a = some ⟨g, 0, none⟩ := by
        rcases hg with h | h
        · omega
        · exact h
      have hki : (k : Int) < (len : Int) := by omega
      have hk1 : (k : Int) ≤ 1048576 := by omega
      go_wp2_with fail
      refine (laws_markText _ (K0 + (k * 4)) (by push_cast; omega) (by omega) (by omega) _).mono ?_
      rintro e w1 ⟨rfl, hb1⟩
      have H1 := hide (Mk.next HR.out hb1)
      clear hb1 HR 
      obtain ⟨⟨v0, c0⟩, f0⟩ := H1.out.wr (k * 4) (by omega)
      obtain ⟨⟨v1, c1⟩, f1⟩ := H1.out.wr (k * 4 + 1) (by omega)
      obtain ⟨⟨v2, c2⟩, f2⟩ := H1.out.wr (k * 4 + 2) (by omega)
      go_wp2_with fail
      refine (laws_markText _ (K0 + (k * 4 + 3)) (by push_cast; omega) (by omega) (by omega) _).mono ?_
      rintro e w4 ⟨rfl, hb4⟩
      have H4 := hide (Mk.next (((H1.out.step (c := k * 4) (by omega) (mk_str (kdEntryS_0 k) (by omega))).step (c := k * 4 + 1) (by omega) (mk_int (kdEntryS_1 k) (by push_cast; omega))).step (c := k * 4 + 2) (by omega) (mk_int (kdEntryS_2 k) (by push_cast; omega))) hb4)
      clear hb4 H1 c0 f0 c1 f1 c2 f2
      obtain ⟨⟨v3, c3⟩, f3⟩ := H4.out.wr (k * 4 + 3) (by omega)
      have hnx : k * 4 + 3 + 1 = (k + 1) * 4 := by omega
      have HF := fun (y : World) (h : Mk kdEntryS g (len * 4) K0 (k * 4 + 3 + 1) w y) => (show Hid (Mk kdEntryS g (len * 4) K0 ((k + 1) * 4) w y) from hnx ▸ h)
      go_wp2
      exact ⟨⟨k + 1, by first | go_num | (congr 1; push_cast; omega), by go_num, by omega, HF _ (H4.out.step (c := k * 4 + 3) (by omega) (mk_str (kdEntryS_3 k) (by omega)))⟩, by simp [intOf]; omega⟩
    · obtain rfl : k = len := by omega
      go_wp2
      go_ret
      exact ⟨by first | rfl | (congr 2; push_cast; omega), HR.out⟩

set_option maxHeartbeats 2000000 in
theorem laws_heldEntryS (K0 : Nat) (kv : Int) (hkv : kv = (K0 : Int)) (hK : 1 ≤ K0 ∧ K0 ≤ 50000000) (a : Option Addr) (len cap g : Nat) (w : World) (hl : len ≤ 1048576) (hg : len = 0 ∨ a = some ⟨g, 0, none⟩) (hw : ∀ j, j < len * 4 → w.cell? ⟨g, j, none⟩ = some (mkCell kdEntryS K0 j)) :
    Calls Try.prog 25 #[.slice a len cap, .int .i64 kv] w fun e w' => e = .returned (.int .i64 ((K0 + len * 4 : Nat) : Int)) ∧ Below w.heap.size w w' := by
  have HB0 : Hid (Below w.heap.size w w) := Below.refl _ _
  have HW : Hid (∀ j, j < len * 4 → w.cell? ⟨g, j, none⟩ = some (mkCell kdEntryS K0 j)) := hw
  clear hw
  obtain ⟨hK1, hK2⟩ := hK
  have hK3 : (K0 : Int) ≤ 50000000 := by omega
  have hK4 : (1 : Int) ≤ (K0 : Int) := by omega
  subst hkv
  go_enter Try.func25, Try.ntmps25
  go_wp2
  go_loopw [1, 5] (fun q i wr => ∃ k : Nat, q = .int .i64 ((K0 + k * 4 : Nat) : Int) ∧ i = .int .i64 k ∧ k ≤ len ∧ Hid (Below w.heap.size w wr)) (fun _ i _ => len - (intOf i).toNat)
  case atStart => exact ⟨0, by simp, rfl, by omega, HB0⟩
  case round =>
    obtain ⟨k, rfl, rfl, hk, HB⟩ := hrel
    clear HB0
    by_cases hlt : k < len
    · obtain rfl : a = some ⟨g, 0, none⟩ := by
        rcases hg with h | h
        · omega
        · exact h
      have hki : (k : Int) < (len : Int) := by omega
      have hk1 : (k : Int) ≤ 1048576 := by omega
      have c0 : wr.cell? ⟨g, k * 4, none⟩ = some (.string (mk (K0 + (k * 4)))) := (keepc HB.out (HW.out (k * 4) (by omega))).trans (by rw [mkCell, kdEntryS_0]; rfl)
      have c1 : wr.cell? ⟨g, k * 4 + 1, none⟩ = some (.int .i64 ((K0 + (k * 4 + 1) : Nat) : Int)) := (keepc HB.out (HW.out (k * 4 + 1) (by omega))).trans (by rw [mkCell, kdEntryS_1]; rfl)
      have c2 : wr.cell? ⟨g, k * 4 + 2, none⟩ = some (.int .i64 ((K0 + (k * 4 + 2) : Nat) : Int)) := (keepc HB.out (HW.out (k * 4 + 2) (by omega))).trans (by rw [mkCell, kdEntryS_2]; rfl)
      have c3 : wr.cell? ⟨g, k * 4 + 3, none⟩ = some (.string (mk (K0 + (k * 4 + 3)))) := (keepc HB.out (HW.out (k * 4 + 3) (by omega))).trans (by rw [mkCell, kdEntryS_3]; rfl)
      go_wp2_with fail
      refine wp_region_noPanic ?_
      refine wp_region_held_drew (S := fun x => Below wr.heap.size wr x) (by kernel_rfl) (Below.refl _ _).drew (fun hH => ?_)
      have hb0x0 : Below wr.heap.size wr wr.drew := hH
      clear hH
      have c0_0 := keepc hb0x0 c0
      have c1_0 := keepc hb0x0 c1
      have c2_0 := keepc hb0x0 c2
      have c3_0 := keepc hb0x0 c3
      generalize wr.drew = wq0x0 at hb0x0 c0_0 c1_0 c2_0 c3_0 ⊢
      refine wpAnyH_restart hb0x0 ?_
      refine wpAnyH_take (i := 0) (v := .slice (some ⟨g, 0, none⟩) len cap) nat0 (by kernel_rfl) (by kernel_rfl) (by kernel_rfl) (fun _ _ _ h => False.elim h) (Or.inl ⟨by rfl, ?_⟩) (Below.refl _ _) ?_
      · intro wx hSw
        go_simp
      simp only [Act.put, List.setIfInBounds_toArray, List.set_cons_zero, List.set_cons_succ]
      refine wpAnyH_take (i := 1) (v := .int .i64 k) nat1 (by kernel_rfl) (by kernel_rfl) (by kernel_rfl) (fun _ _ _ h => False.elim h) (Or.inl ⟨by rfl, ?_⟩) (Below.refl _ _) ?_
      · intro wx hSw
        go_simp
      simp only [Act.put, List.setIfInBounds_toArray, List.set_cons_zero, List.set_cons_succ]
      refine wpAnyH_take (i := 2) (v := .pointer (some ⟨g, k * 4, none⟩)) nat2 (by kernel_rfl) (by kernel_rfl) (by kernel_rfl) (fun _ _ _ h => False.elim h) (Or.inl ⟨by rfl, ?_⟩) (Below.refl _ _) ?_
      · intro wx hSw
        go_simp
      simp only [Act.put, List.setIfInBounds_toArray, List.set_cons_zero, List.set_cons_succ]
      refine wpAnyH_take (i := 3) (v := .pointer (some ⟨g, k * 4, none⟩)) nat3 (by kernel_rfl) (by kernel_rfl) (by kernel_rfl) (fun _ _ _ h => False.elim h) (Or.inl ⟨by rfl, ?_⟩) (Below.refl _ _) ?_
      · intro wx hSw
        go_simp
      simp only [Act.put, List.setIfInBounds_toArray, List.set_cons_zero, List.set_cons_succ]
      refine wpAnyH_take (i := 4) (v := .pointer (some ⟨g, k * 4, none⟩)) nat4 (by kernel_rfl) (by kernel_rfl) (by kernel_rfl) (fun _ _ _ h => False.elim h) (Or.inl ⟨by rfl, ?_⟩) (Below.refl _ _) ?_
      · intro wx hSw
        go_simp
      simp only [Act.put, List.setIfInBounds_toArray, List.set_cons_zero, List.set_cons_succ]
      refine wpAnyH_take (i := 5) (v := .string (mk (K0 + (k * 4)))) nat5 (by kernel_rfl) (by kernel_rfl) (by kernel_rfl) (fun _ _ _ h => False.elim h) (Or.inl ⟨by rfl, ?_⟩) (Below.refl _ _) ?_
      · intro wx hSw
        have hx : Below wq0x0.heap.size wq0x0 wx := hSw
        have e0 := keepc hx c0_0
        go_simp
      simp only [Act.put, List.setIfInBounds_toArray, List.set_cons_zero, List.set_cons_succ]
      refine wpAnyH_take (i := 6) (v := .int .i64 (((K0 + k * 4 : Nat) : Int))) nat6 (by kernel_rfl) (by kernel_rfl) (by kernel_rfl) (fun _ _ _ h => False.elim h) (Or.inl ⟨by rfl, ?_⟩) (Below.refl _ _) ?_
      · intro wx hSw
        go_simp
      simp only [Act.put, List.setIfInBounds_toArray, List.set_cons_zero, List.set_cons_succ]
      refine wpAnyH_ready (rs := [7]) (by kernel_rfl) (by simp) ?_
      refine AllReadyH.cons nat7 (fun K hK => ?_) AllReadyH.nil
      go_simp
      go_at_call 24
      refine (laws_markText _ (K0 + (k * 4)) (by push_cast; omega) (by omega) (by omega) _).mono ?_
      rintro e wq0x1 ⟨rfl, hb0x1⟩
      refine hK.out _ _ hb0x1 (fun _ => ?_)
      clear hK K
      have c0_0_1 := keepc hb0x1 c0_0
      have c1_0_1 := keepc hb0x1 c1_0
      have c2_0_1 := keepc hb0x1 c2_0
      have c3_0_1 := keepc hb0x1 c3_0
      refine wpAnyH_restart hb0x1 ?_
      refine wpAnyH_take (i := 8) (v := .bool false) nat8 (by kernel_rfl) (by kernel_rfl) (by kernel_rfl) (fun _ _ _ h => False.elim h) (Or.inl ⟨by rfl, ?_⟩) (Below.refl _ _) ?_
      · intro wx hSw
        go_simp
      simp only [Act.put, List.setIfInBounds_toArray, List.set_cons_zero, List.set_cons_succ]
      refine wpAnyH_done (by kernel_rfl) ?_ _
      refine NoPanic.normal ?_
      have HBL : Below wr.heap.size wr wq0x1 := (hb0x0).trans (hb0x1.mono (hb0x0).size)
      have HB1 := hide (HB.out.trans (HBL.mono HB.out.size))
      clear HBL HB
      go_wp2_with fail
      refine wp_region_noPanic ?_
      refine wp_region_held_drew (S := fun x => Below wq0x1.heap.size wq0x1 x) (by kernel_rfl) (Below.refl _ _).drew (fun hH => ?_)
      have hb3x0 : Below wq0x1.heap.size wq0x1 wq0x1.drew := hH
      clear hH
      have c0_0_1_0 := keepc hb3x0 c0_0_1
      have c1_0_1_0 := keepc hb3x0 c1_0_1
      have c2_0_1_0 := keepc hb3x0 c2_0_1
      have c3_0_1_0 := keepc hb3x0 c3_0_1
      generalize wq0x1.drew = wq3x0 at hb3x0 c0_0_1_0 c1_0_1_0 c2_0_1_0 c3_0_1_0 ⊢
      refine wpAnyH_restart hb3x0 ?_
      refine wpAnyH_take (i := 0) (v := .slice (some ⟨g, 0, none⟩) len cap) nat0 (by kernel_rfl) (by kernel_rfl) (by kernel_rfl) (fun _ _ _ h => False.elim h) (Or.inl ⟨by rfl, ?_⟩) (Below.refl _ _) ?_
      · intro wx hSw
        go_simp
      simp only [Act.put, List.setIfInBounds_toArray, List.set_cons_zero, List.set_cons_succ]
      refine wpAnyH_take (i := 1) (v := .int .i64 k) nat1 (by kernel_rfl) (by kernel_rfl) (by kernel_rfl) (fun _ _ _ h => False.elim h) (Or.inl ⟨by rfl, ?_⟩) (Below.refl _ _) ?_
      · intro wx hSw
        go_simp
      simp only [Act.put, List.setIfInBounds_toArray, List.set_cons_zero, List.set_cons_succ]
      refine wpAnyH_take (i := 2) (v := .pointer (some ⟨g, k * 4, none⟩)) nat2 (by kernel_rfl) (by kernel_rfl) (by kernel_rfl) (fun _ _ _ h => False.elim h) (Or.inl ⟨by rfl, ?_⟩) (Below.refl _ _) ?_
      · intro wx hSw
        go_simp
      simp only [Act.put, List.setIfInBounds_toArray, List.set_cons_zero, List.set_cons_succ]
      refine wpAnyH_take (i := 3) (v := .pointer (some ⟨g, k * 4 + 3, none⟩)) nat3 (by kernel_rfl) (by kernel_rfl) (by kernel_rfl) (fun _ _ _ h => False.elim h) (Or.inl ⟨by rfl, ?_⟩) (Below.refl _ _) ?_
      · intro wx hSw
        go_simp
      simp only [Act.put, List.setIfInBounds_toArray, List.set_cons_zero, List.set_cons_succ]
      refine wpAnyH_take (i := 4) (v := .string (mk (K0 + (k * 4 + 3)))) nat4 (by kernel_rfl) (by kernel_rfl) (by kernel_rfl) (fun _ _ _ h => False.elim h) (Or.inl ⟨by rfl, ?_⟩) (Below.refl _ _) ?_
      · intro wx hSw
        have hx : Below wq3x0.heap.size wq3x0 wx := hSw
        have e0 := keepc hx c3_0_1_0
        go_simp
      simp only [Act.put, List.setIfInBounds_toArray, List.set_cons_zero, List.set_cons_succ]
      refine wpAnyH_take (i := 5) (v := .int .i64 (((K0 + k * 4 : Nat) : Int) + 1 + 1 + 1)) nat5 (by kernel_rfl) (by kernel_rfl) (by kernel_rfl) (fun _ _ _ h => False.elim h) (Or.inl ⟨by rfl, ?_⟩) (Below.refl _ _) ?_
      · intro wx hSw
        go_simp
      simp only [Act.put, List.setIfInBounds_toArray, List.set_cons_zero, List.set_cons_succ]
      refine wpAnyH_ready (rs := [6]) (by kernel_rfl) (by simp) ?_
      refine AllReadyH.cons nat6 (fun K hK => ?_) AllReadyH.nil
      go_simp
      go_at_call 24
      refine (laws_markText _ (K0 + (k * 4 + 3)) (by push_cast; omega) (by omega) (by omega) _).mono ?_
      rintro e wq3x1 ⟨rfl, hb3x1⟩
      refine hK.out _ _ hb3x1 (fun _ => ?_)
      clear hK K
      have c0_0_1_0_1 := keepc hb3x1 c0_0_1_0
      have c1_0_1_0_1 := keepc hb3x1 c1_0_1_0
      have c2_0_1_0_1 := keepc hb3x1 c2_0_1_0
      have c3_0_1_0_1 := keepc hb3x1 c3_0_1_0
      refine wpAnyH_restart hb3x1 ?_
      refine wpAnyH_take (i := 7) (v := .bool false) nat7 (by kernel_rfl) (by kernel_rfl) (by kernel_rfl) (fun _ _ _ h => False.elim h) (Or.inl ⟨by rfl, ?_⟩) (Below.refl _ _) ?_
      · intro wx hSw
        go_simp
      simp only [Act.put, List.setIfInBounds_toArray, List.set_cons_zero, List.set_cons_succ]
      refine wpAnyH_done (by kernel_rfl) ?_ _
      refine NoPanic.normal ?_
      have HBL : Below wq0x1.heap.size wq0x1 wq3x1 := (hb3x0).trans (hb3x1.mono (hb3x0).size)
      have HB4 := hide (HB1.out.trans (HBL.mono HB1.out.size))
      clear HBL HB1
      go_wp2
      exact ⟨⟨k + 1, by first | go_num | (congr 1; push_cast; omega), by go_num, by omega, HB4⟩, by simp [intOf]; omega⟩
    · obtain rfl : k = len := by omega
      go_wp2
      go_ret
      exact ⟨by first | rfl | (congr 2; push_cast; omega), HB.out⟩

end Go.Proofs.Ytjcoejabpagaiaa
