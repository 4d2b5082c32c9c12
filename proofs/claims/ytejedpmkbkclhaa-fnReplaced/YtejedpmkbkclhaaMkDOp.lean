/- The marks in a row of DOpS: laid and looked for. -/
import Derived.Test.YtejedpmkbkclhaaMark
namespace Go.Proofs.Ytejedpmkbkclhaa
set_option maxRecDepth 100000
open Go.RowKit

def kdDOpS (j : Nat) : Bool := decide (j % 4 = 0)
theorem kdDOpS_0 (k : Nat) : kdDOpS (k * 4) = true := by unfold kdDOpS; simp <;> omega
theorem kdDOpS_1 (k : Nat) : kdDOpS (k * 4 + 1) = false := by unfold kdDOpS; simp <;> omega
theorem kdDOpS_2 (k : Nat) : kdDOpS (k * 4 + 2) = false := by unfold kdDOpS; simp <;> omega
theorem kdDOpS_3 (k : Nat) : kdDOpS (k * 4 + 3) = false := by unfold kdDOpS; simp <;> omega

set_option maxHeartbeats 2000000 in
theorem laws_markDOpS (K0 : Nat) (kv : Int) (hkv : kv = (K0 : Int)) (hK : 1 ≤ K0 ∧ K0 ≤ 50000000) (a : Option Addr) (len cap g : Nat) (w : World) (hl : len ≤ 1048576) (hg : len = 0 ∨ a = some ⟨g, 0, none⟩) (hw : ∀ j, j < len * 4 → (∃ v, w.cell? ⟨g, j, none⟩ = some v) ∧ w.frozen? ⟨g, j, none⟩ = false) :
    Calls Try.prog 60 #[.slice a len cap, .int .i64 kv] w fun e w' => e = .returned (.int .i64 ((K0 + len * 4 : Nat) : Int)) ∧ Mk kdDOpS g (len * 4) K0 (len * 4) w w' := by
  have H0 : Hid (Mk kdDOpS g (len * 4) K0 (0 * 4) w w) := Mk.start hw
  clear hw
  obtain ⟨hK1, hK2⟩ := hK
  have hK3 : (K0 : Int) ≤ 50000000 := by omega
  have hK4 : (1 : Int) ≤ (K0 : Int) := by omega
  subst hkv
  go_enter Try.func60, Try.ntmps60
  go_wp2
  go_loopw [1, 5] (fun q i wr => ∃ k : Nat, q = .int .i64 ((K0 + k * 4 : Nat) : Int) ∧ i = .int .i64 k ∧ k ≤ len ∧ Hid (Mk kdDOpS g (len * 4) K0 (k * 4) w wr)) (fun _ i _ => len - (intOf i).toNat)
  case atStart => exact ⟨0, by simp, rfl, by omega, H0⟩
  case round =>
    obtain ⟨k, rfl, rfl, hk, HR⟩ := hrel
    clear H0
    by_cases hlt : k < len
    · obtain rfl : a = some ⟨g, 0, none⟩ := by
        rcases hg with h | h
        · omega
        · exact h
      have hki : (k : Int) < (len : Int) := by omega
      have hk1 : (k : Int) ≤ 1048576 := by omega
      obtain ⟨⟨v0, c0⟩, f0⟩ := HR.out.wr (k * 4) (by omega)
      go_wp2_with fail
      refine (laws_markText _ (K0 + (k * 4 + 1)) (by push_cast; omega) (by omega) (by omega) _).mono ?_
      rintro e w2 ⟨rfl, hb2⟩
      have H2 := hide (Mk.next (HR.out.step (c := k * 4) (by omega) (mk_int (kdDOpS_0 k) (by push_cast; omega))) hb2)
      clear hb2 HR c0 f0
      obtain ⟨⟨v1, c1⟩, f1⟩ := H2.out.wr (k * 4 + 1) (by omega)
      go_wp2_with fail
      refine (laws_markText _ (K0 + (k * 4 + 2)) (by push_cast; omega) (by omega) (by omega) _).mono ?_
      rintro e w3 ⟨rfl, hb3⟩
      have H3 := hide (Mk.next (H2.out.step (c := k * 4 + 1) (by omega) (mk_str (kdDOpS_1 k) (by omega))) hb3)
      clear hb3 H2 c1 f1
      obtain ⟨⟨v2, c2⟩, f2⟩ := H3.out.wr (k * 4 + 2) (by omega)
      go_wp2_with fail
      refine (laws_markText _ (K0 + (k * 4 + 3)) (by push_cast; omega) (by omega) (by omega) _).mono ?_
      rintro e w4 ⟨rfl, hb4⟩
      have H4 := hide (Mk.next (H3.out.step (c := k * 4 + 2) (by omega) (mk_str (kdDOpS_2 k) (by omega))) hb4)
      clear hb4 H3 c2 f2
      obtain ⟨⟨v3, c3⟩, f3⟩ := H4.out.wr (k * 4 + 3) (by omega)
      have hnx : k * 4 + 3 + 1 = (k + 1) * 4 := by omega
      have HF := fun (y : World) (h : Mk kdDOpS g (len * 4) K0 (k * 4 + 3 + 1) w y) => (show Hid (Mk kdDOpS g (len * 4) K0 ((k + 1) * 4) w y) from hnx ▸ h)
      go_wp2
      exact ⟨⟨k + 1, by first | go_num | (congr 1; push_cast; omega), by go_num, by omega, HF _ (H4.out.step (c := k * 4 + 3) (by omega) (mk_str (kdDOpS_3 k) (by omega)))⟩, by simp [intOf]; omega⟩
    · obtain rfl : k = len := by omega
      go_wp2
      go_ret
      exact ⟨by first | rfl | (congr 2; push_cast; omega), HR.out⟩

set_option maxHeartbeats 2000000 in
theorem laws_heldDOpS (K0 : Nat) (kv : Int) (hkv : kv = (K0 : Int)) (hK : 1 ≤ K0 ∧ K0 ≤ 50000000) (a : Option Addr) (len cap g : Nat) (w : World) (hl : len ≤ 1048576) (hg : len = 0 ∨ a = some ⟨g, 0, none⟩) (hw : ∀ j, j < len * 4 → w.cell? ⟨g, j, none⟩ = some (mkCell kdDOpS K0 j)) :
    Calls Try.prog 62 #[.slice a len cap, .int .i64 kv] w fun e w' => e = .returned (.int .i64 ((K0 + len * 4 : Nat) : Int)) ∧ Below w.heap.size w w' := by
  have HB0 : Hid (Below w.heap.size w w) := Below.refl _ _
  have HW : Hid (∀ j, j < len * 4 → w.cell? ⟨g, j, none⟩ = some (mkCell kdDOpS K0 j)) := hw
  clear hw
  obtain ⟨hK1, hK2⟩ := hK
  have hK3 : (K0 : Int) ≤ 50000000 := by omega
  have hK4 : (1 : Int) ≤ (K0 : Int) := by omega
  subst hkv
  go_enter Try.func62, Try.ntmps62
  go_wp2
  go_loopw [1, 5] (fun q i wr => ∃ k : Nat, q = .int .i64 ((K0 + k * 4 : Nat) : Int) ∧ i = .int .i64 k ∧ k ≤ len ∧ Hid (Below w.heap.size w wr)) (fun _ i _ => len - (intOf i).toNat)
  case atStart => exact ⟨0, by simp, rfl, by omega, HB0⟩
  case round =>
    obtain ⟨k, rfl, rfl, hk, HB⟩ := hrel
    clear HB0
    by_cases hlt : k < len
    · obtain rfl : a = some ⟨g, 0, none⟩ := by
        rcases hg with h | h
        · omega
        · exact h
      have hki : (k : Int) < (len : Int) := by omega
      have hk1 : (k : Int) ≤ 1048576 := by omega
      have c0 : wr.cell? ⟨g, k * 4, none⟩ = some (.int .i64 ((K0 + (k * 4) : Nat) : Int)) := (keepc HB.out (HW.out (k * 4) (by omega))).trans (by rw [mkCell, kdDOpS_0]; rfl)
      have c1 : wr.cell? ⟨g, k * 4 + 1, none⟩ = some (.string (mk (K0 + (k * 4 + 1)))) := (keepc HB.out (HW.out (k * 4 + 1) (by omega))).trans (by rw [mkCell, kdDOpS_1]; rfl)
      have c2 : wr.cell? ⟨g, k * 4 + 2, none⟩ = some (.string (mk (K0 + (k * 4 + 2)))) := (keepc HB.out (HW.out (k * 4 + 2) (by omega))).trans (by rw [mkCell, kdDOpS_2]; rfl)
      have c3 : wr.cell? ⟨g, k * 4 + 3, none⟩ = some (.string (mk (K0 + (k * 4 + 3)))) := (keepc HB.out (HW.out (k * 4 + 3) (by omega))).trans (by rw [mkCell, kdDOpS_3]; rfl)
      go_wp2_with fail
      refine wp_region_noPanic ?_
      refine wp_region_held_drew (S := fun x => Below wr.heap.size wr x) (by kernel_rfl) (Below.refl _ _).drew (fun hH => ?_)
      have hb1x0 : Below wr.heap.size wr wr.drew := hH
      clear hH
      have c0_0 := keepc hb1x0 c0
      have c1_0 := keepc hb1x0 c1
      have c2_0 := keepc hb1x0 c2
      have c3_0 := keepc hb1x0 c3
      generalize wr.drew = wq1x0 at hb1x0 c0_0 c1_0 c2_0 c3_0 ⊢
      refine wpAnyH_restart hb1x0 ?_
      refine wpAnyH_take (i := 0) (v := .slice (some ⟨g, 0, none⟩) len cap) nat0 (by kernel_rfl) (by kernel_rfl) (by kernel_rfl) (fun _ _ _ h => False.elim h) (Or.inl ⟨by rfl, ?_⟩) (Below.refl _ _) ?_
      · intro wx hSw
        go_simp
      simp only [Act.put, List.setIfInBounds_toArray, List.set_cons_zero, List.set_cons_succ]
      refine wpAnyH_take (i := 1) (v := .int .i64 k) nat1 (by kernel_rfl) (by kernel_rfl) (by kernel_rfl) (fun _ _ _ h => False.elim h) (Or.inl ⟨by rfl, ?_⟩) (Below.refl _ _) ?_
      · intro wx hSw
        go_simp
      simp only [Act.put, List.setIfInBounds_toArray, List.set_cons_zero, List.set_cons_succ]
      refine wpAnyH_take (i := 2) (v := .pointer (some ⟨g, k * 4, none⟩)) nat2 (by kernel_rfl) (by kernel_rfl) (by kernel_rfl) (fun _ _ _ h => False.elim h) (Or.inl ⟨by rfl, ?_⟩) (Below.refl _ _) ?_
      · intro wx hSw
        go_simp
      simp only [Act.put, List.setIfInBounds_toArray, List.set_cons_zero, List.set_cons_succ]
      refine wpAnyH_take (i := 3) (v := .pointer (some ⟨g, k * 4 + 1, none⟩)) nat3 (by kernel_rfl) (by kernel_rfl) (by kernel_rfl) (fun _ _ _ h => False.elim h) (Or.inl ⟨by rfl, ?_⟩) (Below.refl _ _) ?_
      · intro wx hSw
        go_simp
      simp only [Act.put, List.setIfInBounds_toArray, List.set_cons_zero, List.set_cons_succ]
      refine wpAnyH_take (i := 4) (v := .string (mk (K0 + (k * 4 + 1)))) nat4 (by kernel_rfl) (by kernel_rfl) (by kernel_rfl) (fun _ _ _ h => False.elim h) (Or.inl ⟨by rfl, ?_⟩) (Below.refl _ _) ?_
      · intro wx hSw
        have hx : Below wq1x0.heap.size wq1x0 wx := hSw
        have e0 := keepc hx c1_0
        go_simp
      simp only [Act.put, List.setIfInBounds_toArray, List.set_cons_zero, List.set_cons_succ]
      refine wpAnyH_take (i := 5) (v := .int .i64 (((K0 + k * 4 : Nat) : Int) + 1)) nat5 (by kernel_rfl) (by kernel_rfl) (by kernel_rfl) (fun _ _ _ h => False.elim h) (Or.inl ⟨by rfl, ?_⟩) (Below.refl _ _) ?_
      · intro wx hSw
        go_simp
      simp only [Act.put, List.setIfInBounds_toArray, List.set_cons_zero, List.set_cons_succ]
      refine wpAnyH_ready (rs := [6]) (by kernel_rfl) (by simp) ?_
      refine AllReadyH.cons nat6 (fun K hK => ?_) AllReadyH.nil
      go_simp
      go_at_call 92
      refine (laws_markText _ (K0 + (k * 4 + 1)) (by push_cast; omega) (by omega) (by omega) _).mono ?_
      rintro e wq1x1 ⟨rfl, hb1x1⟩
      refine hK.out _ _ hb1x1 (fun _ => ?_)
      clear hK K
      have c0_0_1 := keepc hb1x1 c0_0
      have c1_0_1 := keepc hb1x1 c1_0
      have c2_0_1 := keepc hb1x1 c2_0
      have c3_0_1 := keepc hb1x1 c3_0
      refine wpAnyH_restart hb1x1 ?_
      refine wpAnyH_take (i := 7) (v := .bool false) nat7 (by kernel_rfl) (by kernel_rfl) (by kernel_rfl) (fun _ _ _ h => False.elim h) (Or.inl ⟨by rfl, ?_⟩) (Below.refl _ _) ?_
      · intro wx hSw
        go_simp
      simp only [Act.put, List.setIfInBounds_toArray, List.set_cons_zero, List.set_cons_succ]
      refine wpAnyH_done (by kernel_rfl) ?_ _
      refine NoPanic.normal ?_
      have HBL : Below wr.heap.size wr wq1x1 := (hb1x0).trans (hb1x1.mono (hb1x0).size)
      have HB2 := hide (HB.out.trans (HBL.mono HB.out.size))
      clear HBL HB
      go_wp2_with fail
      refine wp_region_noPanic ?_
      refine wp_region_held_drew (S := fun x => Below wq1x1.heap.size wq1x1 x) (by kernel_rfl) (Below.refl _ _).drew (fun hH => ?_)
      have hb2x0 : Below wq1x1.heap.size wq1x1 wq1x1.drew := hH
      clear hH
      have c0_0_1_0 := keepc hb2x0 c0_0_1
      have c1_0_1_0 := keepc hb2x0 c1_0_1
      have c2_0_1_0 := keepc hb2x0 c2_0_1
      have c3_0_1_0 := keepc hb2x0 c3_0_1
      generalize wq1x1.drew = wq2x0 at hb2x0 c0_0_1_0 c1_0_1_0 c2_0_1_0 c3_0_1_0 ⊢
      refine wpAnyH_restart hb2x0 ?_
      refine wpAnyH_take (i := 0) (v := .slice (some ⟨g, 0, none⟩) len cap) nat0 (by kernel_rfl) (by kernel_rfl) (by kernel_rfl) (fun _ _ _ h => False.elim h) (Or.inl ⟨by rfl, ?_⟩) (Below.refl _ _) ?_
      · intro wx hSw
        go_simp
      simp only [Act.put, List.setIfInBounds_toArray, List.set_cons_zero, List.set_cons_succ]
      refine wpAnyH_take (i := 1) (v := .int .i64 k) nat1 (by kernel_rfl) (by kernel_rfl) (by kernel_rfl) (fun _ _ _ h => False.elim h) (Or.inl ⟨by rfl, ?_⟩) (Below.refl _ _) ?_
      · intro wx hSw
        go_simp
      simp only [Act.put, List.setIfInBounds_toArray, List.set_cons_zero, List.set_cons_succ]
      refine wpAnyH_take (i := 2) (v := .pointer (some ⟨g, k * 4, none⟩)) nat2 (by kernel_rfl) (by kernel_rfl) (by kernel_rfl) (fun _ _ _ h => False.elim h) (Or.inl ⟨by rfl, ?_⟩) (Below.refl _ _) ?_
      · intro wx hSw
        go_simp
      simp only [Act.put, List.setIfInBounds_toArray, List.set_cons_zero, List.set_cons_succ]
      refine wpAnyH_take (i := 3) (v := .pointer (some ⟨g, k * 4 + 2, none⟩)) nat3 (by kernel_rfl) (by kernel_rfl) (by kernel_rfl) (fun _ _ _ h => False.elim h) (Or.inl ⟨by rfl, ?_⟩) (Below.refl _ _) ?_
      · intro wx hSw
        go_simp
      simp only [Act.put, List.setIfInBounds_toArray, List.set_cons_zero, List.set_cons_succ]
      refine wpAnyH_take (i := 4) (v := .string (mk (K0 + (k * 4 + 2)))) nat4 (by kernel_rfl) (by kernel_rfl) (by kernel_rfl) (fun _ _ _ h => False.elim h) (Or.inl ⟨by rfl, ?_⟩) (Below.refl _ _) ?_
      · intro wx hSw
        have hx : Below wq2x0.heap.size wq2x0 wx := hSw
        have e0 := keepc hx c2_0_1_0
        go_simp
      simp only [Act.put, List.setIfInBounds_toArray, List.set_cons_zero, List.set_cons_succ]
      refine wpAnyH_take (i := 5) (v := .int .i64 (((K0 + k * 4 : Nat) : Int) + 1 + 1)) nat5 (by kernel_rfl) (by kernel_rfl) (by kernel_rfl) (fun _ _ _ h => False.elim h) (Or.inl ⟨by rfl, ?_⟩) (Below.refl _ _) ?_
      · intro wx hSw
        go_simp
      simp only [Act.put, List.setIfInBounds_toArray, List.set_cons_zero, List.set_cons_succ]
      refine wpAnyH_ready (rs := [6]) (by kernel_rfl) (by simp) ?_
      refine AllReadyH.cons nat6 (fun K hK => ?_) AllReadyH.nil
      go_simp
      go_at_call 92
      refine (laws_markText _ (K0 + (k * 4 + 2)) (by push_cast; omega) (by omega) (by omega) _).mono ?_
      rintro e wq2x1 ⟨rfl, hb2x1⟩
      refine hK.out _ _ hb2x1 (fun _ => ?_)
      clear hK K
      have c0_0_1_0_1 := keepc hb2x1 c0_0_1_0
      have c1_0_1_0_1 := keepc hb2x1 c1_0_1_0
      have c2_0_1_0_1 := keepc hb2x1 c2_0_1_0
      have c3_0_1_0_1 := keepc hb2x1 c3_0_1_0
      refine wpAnyH_restart hb2x1 ?_
      refine wpAnyH_take (i := 7) (v := .bool false) nat7 (by kernel_rfl) (by kernel_rfl) (by kernel_rfl) (fun _ _ _ h => False.elim h) (Or.inl ⟨by rfl, ?_⟩) (Below.refl _ _) ?_
      · intro wx hSw
        go_simp
      simp only [Act.put, List.setIfInBounds_toArray, List.set_cons_zero, List.set_cons_succ]
      refine wpAnyH_done (by kernel_rfl) ?_ _
      refine NoPanic.normal ?_
      have HBL : Below wq1x1.heap.size wq1x1 wq2x1 := (hb2x0).trans (hb2x1.mono (hb2x0).size)
      have HB3 := hide (HB2.out.trans (HBL.mono HB2.out.size))
      clear HBL HB2
      go_wp2_with fail
      refine wp_region_noPanic ?_
      refine wp_region_held_drew (S := fun x => Below wq2x1.heap.size wq2x1 x) (by kernel_rfl) (Below.refl _ _).drew (fun hH => ?_)
      have hb3x0 : Below wq2x1.heap.size wq2x1 wq2x1.drew := hH
      clear hH
      have c0_0_1_0_1_0 := keepc hb3x0 c0_0_1_0_1
      have c1_0_1_0_1_0 := keepc hb3x0 c1_0_1_0_1
      have c2_0_1_0_1_0 := keepc hb3x0 c2_0_1_0_1
      have c3_0_1_0_1_0 := keepc hb3x0 c3_0_1_0_1
      generalize wq2x1.drew = wq3x0 at hb3x0 c0_0_1_0_1_0 c1_0_1_0_1_0 c2_0_1_0_1_0 c3_0_1_0_1_0 ⊢
      refine wpAnyH_restart hb3x0 ?_
      refine wpAnyH_take (i := 0) (v := .slice (some ⟨g, 0, none⟩) len cap) nat0 (by kernel_rfl) (by kernel_rfl) (by kernel_rfl) (fun _ _ _ h => False.elim h) (Or.inl ⟨by rfl, ?_⟩) (Below.refl _ _) ?_
      · intro wx hSw
        go_simp
      simp only [Act.put, List.setIfInBounds_toArray, List.set_cons_zero, List.set_cons_succ]
      refine wpAnyH_take (i := 1) (v := .int .i64 k) nat1 (by kernel_rfl) (by kernel_rfl) (by kernel_rfl) (fun _ _ _ h => False.elim h) (Or.inl ⟨by rfl, ?_⟩) (Below.refl _ _) ?_
      · intro wx hSw
        go_simp
      simp only [Act.put, List.setIfInBounds_toArray, List.set_cons_zero, List.set_cons_succ]
      refine wpAnyH_take (i := 2) (v := .pointer (some ⟨g, k * 4, none⟩)) nat2 (by kernel_rfl) (by kernel_rfl) (by kernel_rfl) (fun _ _ _ h => False.elim h) (Or.inl ⟨by rfl, ?_⟩) (Below.refl _ _) ?_
      · intro wx hSw
        go_simp
      simp only [Act.put, List.setIfInBounds_toArray, List.set_cons_zero, List.set_cons_succ]
      refine wpAnyH_take (i := 3) (v := .pointer (some ⟨g, k * 4 + 3, none⟩)) nat3 (by kernel_rfl) (by kernel_rfl) (by kernel_rfl) (fun _ _ _ h => False.elim h) (Or.inl ⟨by rfl, ?_⟩) (Below.refl _ _) ?_
      · intro wx hSw
        go_simp
      simp only [Act.put, List.setIfInBounds_toArray, List.set_cons_zero, List.set_cons_succ]
      refine wpAnyH_take (i := 4) (v := .string (mk (K0 + (k * 4 + 3)))) nat4 (by kernel_rfl) (by kernel_rfl) (by kernel_rfl) (fun _ _ _ h => False.elim h) (Or.inl ⟨by rfl, ?_⟩) (Below.refl _ _) ?_
      · intro wx hSw
        have hx : Below wq3x0.heap.size wq3x0 wx := hSw
        have e0 := keepc hx c3_0_1_0_1_0
        go_simp
      simp only [Act.put, List.setIfInBounds_toArray, List.set_cons_zero, List.set_cons_succ]
      refine wpAnyH_take (i := 5) (v := .int .i64 (((K0 + k * 4 : Nat) : Int) + 1 + 1 + 1)) nat5 (by kernel_rfl) (by kernel_rfl) (by kernel_rfl) (fun _ _ _ h => False.elim h) (Or.inl ⟨by rfl, ?_⟩) (Below.refl _ _) ?_
      · intro wx hSw
        go_simp
      simp only [Act.put, List.setIfInBounds_toArray, List.set_cons_zero, List.set_cons_succ]
      refine wpAnyH_ready (rs := [6]) (by kernel_rfl) (by simp) ?_
      refine AllReadyH.cons nat6 (fun K hK => ?_) AllReadyH.nil
      go_simp
      go_at_call 92
      refine (laws_markText _ (K0 + (k * 4 + 3)) (by push_cast; omega) (by omega) (by omega) _).mono ?_
      rintro e wq3x1 ⟨rfl, hb3x1⟩
      refine hK.out _ _ hb3x1 (fun _ => ?_)
      clear hK K
      have c0_0_1_0_1_0_1 := keepc hb3x1 c0_0_1_0_1_0
      have c1_0_1_0_1_0_1 := keepc hb3x1 c1_0_1_0_1_0
      have c2_0_1_0_1_0_1 := keepc hb3x1 c2_0_1_0_1_0
      have c3_0_1_0_1_0_1 := keepc hb3x1 c3_0_1_0_1_0
      refine wpAnyH_restart hb3x1 ?_
      refine wpAnyH_take (i := 7) (v := .bool false) nat7 (by kernel_rfl) (by kernel_rfl) (by kernel_rfl) (fun _ _ _ h => False.elim h) (Or.inl ⟨by rfl, ?_⟩) (Below.refl _ _) ?_
      · intro wx hSw
        go_simp
      simp only [Act.put, List.setIfInBounds_toArray, List.set_cons_zero, List.set_cons_succ]
      refine wpAnyH_done (by kernel_rfl) ?_ _
      refine NoPanic.normal ?_
      have HBL : Below wq2x1.heap.size wq2x1 wq3x1 := (hb3x0).trans (hb3x1.mono (hb3x0).size)
      have HB4 := hide (HB3.out.trans (HBL.mono HB3.out.size))
      clear HBL HB3
      go_wp2
      exact ⟨⟨k + 1, by first | go_num | (congr 1; push_cast; omega), by go_num, by omega, HB4⟩, by simp [intOf]; omega⟩
    · obtain rfl : k = len := by omega
      go_wp2
      go_ret
      exact ⟨by first | rfl | (congr 2; push_cast; omega), HB.out⟩

end Go.Proofs.Ytejedpmkbkclhaa
