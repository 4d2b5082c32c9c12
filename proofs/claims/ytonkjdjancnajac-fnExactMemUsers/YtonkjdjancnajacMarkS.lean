/- The marks in a row of StringS: laid and looked for. -/
import Derived.Test.YtonkjdjancnajacMark
namespace Go.Proofs.Ytonkjdjancnajac
set_option maxRecDepth 100000
open Go.RowKit

def kdStringS (_j : Nat) : Bool := false
theorem kdStringS_0 (k : Nat) : kdStringS (k) = false := by rfl

set_option maxHeartbeats 2000000 in
theorem laws_markStringS (a : Option Addr) (len cap g : Nat) (w : World) (hl : len ≤ 1048576) (hg : len = 0 ∨ a = some ⟨g, 0, none⟩) (hw : ∀ j, j < len → (∃ v, w.cell? ⟨g, j, none⟩ = some v) ∧ w.frozen? ⟨g, j, none⟩ = false) :
    Calls Try.prog 12 #[.slice a len cap, .int .i64 1] w fun e w' => e = .returned (.int .i64 ((1 + len : Nat) : Int)) ∧ Mk kdStringS g (len) 1 (len) w w' := by
  have H0 : Hid (Mk kdStringS g (len) 1 (0) w w) := Mk.start hw
  clear hw
  go_enter Try.func12, Try.ntmps12
  go_wp2
  go_loopw [1, 5] (fun q i wr => ∃ k : Nat, q = .int .i64 ((1 + k : Nat) : Int) ∧ i = .int .i64 k ∧ k ≤ len ∧ Hid (Mk kdStringS g (len) 1 (k) w wr)) (fun _ i _ => len - (intOf i).toNat)
  case atStart => exact ⟨0, by simp, rfl, by omega, H0⟩
  case round =>
    obtain ⟨k, rfl, rfl, hk, HR⟩ := hrel
    clear H0
    by_cases hlt : k < len
    · obtain rfl : a = some ⟨g, 0, none⟩ := by
        rcases hg with h | h
        · omega
        · exact h
      have hki : (k : Int) < (len : Int) := by omega
      have hk1 : (k : Int) ≤ 1048576 := by omega
      go_wp2_with fail
      refine (laws_markText _ (1 + (k)) (by push_cast; omega) (by omega) (by omega) _).mono ?_
      rintro e w1 ⟨rfl, hb1⟩
      have H1 := hide (Mk.next HR.out hb1)
      clear hb1 HR 
      obtain ⟨⟨v0, c0⟩, f0⟩ := H1.out.wr (k) (by omega)
      have hnx : k + 1 = (k + 1) := by omega
      have HF := fun (y : World) (h : Mk kdStringS g (len) 1 (k + 1) w y) => (show Hid (Mk kdStringS g (len) 1 ((k + 1)) w y) from hnx ▸ h)
      go_wp2
      exact ⟨⟨k + 1, by first | go_num | (congr 1; push_cast; omega), by go_num, by omega, HF _ (H1.out.step (c := k) (by omega) (mk_str (kdStringS_0 k) (by omega)))⟩, by simp [intOf]; omega⟩
    · obtain rfl : k = len := by omega
      go_wp2
      go_ret
      exact ⟨by first | rfl | (congr 2; push_cast; omega), HR.out⟩

set_option maxHeartbeats 2000000 in
theorem laws_heldStringS (a : Option Addr) (len cap g : Nat) (w : World) (hl : len ≤ 1048576) (hg : len = 0 ∨ a = some ⟨g, 0, none⟩) (hw : ∀ j, j < len → w.cell? ⟨g, j, none⟩ = some (mkCell kdStringS 1 j)) :
    Calls Try.prog 13 #[.slice a len cap, .int .i64 1] w fun e w' => e = .returned (.int .i64 ((1 + len : Nat) : Int)) ∧ Below w.heap.size w w' := by
  have HB0 : Hid (Below w.heap.size w w) := Below.refl _ _
  have HW : Hid (∀ j, j < len → w.cell? ⟨g, j, none⟩ = some (mkCell kdStringS 1 j)) := hw
  clear hw
  go_enter Try.func13, Try.ntmps13
  go_wp2
  go_loopw [1, 5] (fun q i wr => ∃ k : Nat, q = .int .i64 ((1 + k : Nat) : Int) ∧ i = .int .i64 k ∧ k ≤ len ∧ Hid (Below w.heap.size w wr)) (fun _ i _ => len - (intOf i).toNat)
  case atStart => exact ⟨0, by simp, rfl, by omega, HB0⟩
  case round =>
    obtain ⟨k, rfl, rfl, hk, HB⟩ := hrel
    clear HB0
    by_cases hlt : k < len
    · obtain rfl : a = some ⟨g, 0, none⟩ := by
        rcases hg with h | h
        · omega
        · exact h
      have hki : (k : Int) < (len : Int) := by omega
      have hk1 : (k : Int) ≤ 1048576 := by omega
      have c0 : wr.cell? ⟨g, k, none⟩ = some (.string (mk (1 + (k)))) := (keepc HB.out (HW.out (k) (by omega))).trans (by rw [mkCell, kdStringS_0]; rfl)
      go_wp2_with fail
      refine wp_region_noPanic ?_
      refine wp_region_held_drew (S := fun x => Below wr.heap.size wr x) (by kernel_rfl) (Below.refl _ _).drew (fun hH => ?_)
      have hb0x0 : Below wr.heap.size wr wr.drew := hH
      clear hH
      have c0_0 := keepc hb0x0 c0
      generalize wr.drew = wq0x0 at hb0x0 c0_0 ⊢
      refine wpAnyH_restart hb0x0 ?_
      refine wpAnyH_take (i := 0) (v := .slice (some ⟨g, 0, none⟩) len cap) nat0 (by kernel_rfl) (by kernel_rfl) (by kernel_rfl) (fun _ _ _ h => False.elim h) (Or.inl ⟨by rfl, ?_⟩) (Below.refl _ _) ?_
      · intro wx hSw
        go_simp
      simp only [Act.put, List.setIfInBounds_toArray, List.set_cons_zero, List.set_cons_succ]
      refine wpAnyH_take (i := 1) (v := .int .i64 k) nat1 (by kernel_rfl) (by kernel_rfl) (by kernel_rfl) (fun _ _ _ h => False.elim h) (Or.inl ⟨by rfl, ?_⟩) (Below.refl _ _) ?_
      · intro wx hSw
        go_simp
      simp only [Act.put, List.setIfInBounds_toArray, List.set_cons_zero, List.set_cons_succ]
      refine wpAnyH_take (i := 2) (v := .pointer (some ⟨g, k, none⟩)) nat2 (by kernel_rfl) (by kernel_rfl) (by kernel_rfl) (fun _ _ _ h => False.elim h) (Or.inl ⟨by rfl, ?_⟩) (Below.refl _ _) ?_
      · intro wx hSw
        go_simp
      simp only [Act.put, List.setIfInBounds_toArray, List.set_cons_zero, List.set_cons_succ]
      refine wpAnyH_take (i := 3) (v := .string (mk (1 + (k)))) nat3 (by kernel_rfl) (by kernel_rfl) (by kernel_rfl) (fun _ _ _ h => False.elim h) (Or.inl ⟨by rfl, ?_⟩) (Below.refl _ _) ?_
      · intro wx hSw
        have hx : Below wq0x0.heap.size wq0x0 wx := hSw
        have e0 := keepc hx c0_0
        go_simp
      simp only [Act.put, List.setIfInBounds_toArray, List.set_cons_zero, List.set_cons_succ]
      refine wpAnyH_take (i := 4) (v := .int .i64 (((1 + k : Nat) : Int))) nat4 (by kernel_rfl) (by kernel_rfl) (by kernel_rfl) (fun _ _ _ h => False.elim h) (Or.inl ⟨by rfl, ?_⟩) (Below.refl _ _) ?_
      · intro wx hSw
        go_simp
      simp only [Act.put, List.setIfInBounds_toArray, List.set_cons_zero, List.set_cons_succ]
      refine wpAnyH_ready (rs := [5]) (by kernel_rfl) (by simp) ?_
      refine AllReadyH.cons nat5 (fun K hK => ?_) AllReadyH.nil
      go_simp
      go_at_call 28
      refine (laws_markText _ (1 + (k)) (by push_cast; omega) (by omega) (by omega) _).mono ?_
      rintro e wq0x1 ⟨rfl, hb0x1⟩
      refine hK.out _ _ hb0x1 (fun _ => ?_)
      clear hK K
      have c0_0_1 := keepc hb0x1 c0_0
      refine wpAnyH_restart hb0x1 ?_
      refine wpAnyH_take (i := 6) (v := .bool false) nat6 (by kernel_rfl) (by kernel_rfl) (by kernel_rfl) (fun _ _ _ h => False.elim h) (Or.inl ⟨by rfl, ?_⟩) (Below.refl _ _) ?_
      · intro wx hSw
        go_simp
      simp only [Act.put, List.setIfInBounds_toArray, List.set_cons_zero, List.set_cons_succ]
      refine wpAnyH_done (by kernel_rfl) ?_ _
      refine NoPanic.normal ?_
      have HBL : Below wr.heap.size wr wq0x1 := (hb0x0).trans (hb0x1.mono (hb0x0).size)
      have HB1 := hide (HB.out.trans (HBL.mono HB.out.size))
      clear HBL HB
      go_wp2
      exact ⟨⟨k + 1, by first | go_num | (congr 1; push_cast; omega), by go_num, by omega, HB1⟩, by simp [intOf]; omega⟩
    · obtain rfl : k = len := by omega
      go_wp2
      go_ret
      exact ⟨by first | rfl | (congr 2; push_cast; omega), HB.out⟩

end Go.Proofs.Ytonkjdjancnajac
