/- The marks in a row of EntryS: laid and looked for. -/
import Derived.Test.YtonkjdjancnajacMark
namespace Go.Proofs.Ytonkjdjancnajac
set_option maxRecDepth 100000
open Go.RowKit

def kdEntryS (j : Nat) : Bool := decide (j % 4 = 1) || decide (j % 4 = 2)
theorem kdEntryS_0 (k : Nat) : kdEntryS (k * 4) = false := by unfold kdEntryS; simp <;> omega
theorem kdEntryS_1 (k : Nat) : kdEntryS (k * 4 + 1) = true := by unfold kdEntryS; simp <;> omega
theorem kdEntryS_2 (k : Nat) : kdEntryS (k * 4 + 2) = true := by unfold kdEntryS; simp <;> omega
theorem kdEntryS_3 (k : Nat) : kdEntryS (k * 4 + 3) = false := by unfold kdEntryS; simp <;> omega

set_option maxHeartbeats 2000000 in
theorem laws_markEntryS (a : Option Addr) (len cap g : Nat) (w : World) (hl : len ≤ 1048576) (hg : len = 0 ∨ a = some ⟨g, 0, none⟩) (hw : ∀ j, j < len * 4 → (∃ v, w.cell? ⟨g, j, none⟩ = some v) ∧ w.frozen? ⟨g, j, none⟩ = false) :
    Calls Try.prog 11 #[.slice a len cap, .int .i64 1] w fun e w' => e = .returned (.int .i64 ((1 + len * 4 : Nat) : Int)) ∧ Mk kdEntryS g (len * 4) 1 (len * 4) w w' := by
  have H0 : Hid (Mk kdEntryS g (len * 4) 1 (0 * 4) w w) := Mk.start hw
  clear hw
  go_enter Try.func11, Try.ntmps11
  go_wp2
  go_loopw [1, 5] (fun q i wr => ∃ k : Nat, q = .int .i64 ((1 + k * 4 : Nat) : Int) ∧ i = .int .i64 k ∧ k ≤ len ∧ Hid (Mk kdEntryS g (len * 4) 1 (k * 4) w wr)) (fun _ i _ => len - (intOf i).toNat)
  case atStart => exact ⟨0, by simp, rfl, by omega, H0⟩
  case round =>
    obtain ⟨k, rfl, rfl, hk, HR⟩ := hrel
    clear H0
    by_cases hlt : k < len
    · obtain rfl : a = some ⟨g, 0, none⟩ := by
        rcases hg with h | h
        · omega
        · exact h
      have hki : (k : Int) < (len : Int) := by omega
      have hk1 : (k : Int) ≤ 1048576 := by omega
      go_wp2_with fail
      refine (laws_markText _ (1 + (k * 4)) (by push_cast; omega) (by omega) (by omega) _).mono ?_
      rintro e w1 ⟨rfl, hb1⟩
      have H1 := hide (Mk.next HR.out hb1)
      clear hb1 HR 
      obtain ⟨⟨v0, c0⟩, f0⟩ := H1.out.wr (k * 4) (by omega)
      obtain ⟨⟨v1, c1⟩, f1⟩ := H1.out.wr (k * 4 + 1) (by omega)
      obtain ⟨⟨v2, c2⟩, f2⟩ := H1.out.wr (k * 4 + 2) (by omega)
      go_wp2_with fail
      refine (laws_markText _ (1 + (k * 4 + 3)) (by push_cast; omega) (by omega) (by omega) _).mono ?_
      rintro e w4 ⟨rfl, hb4⟩
      have H4 := hide (Mk.next (((H1.out.step (c := k * 4) (by omega) (mk_str (kdEntryS_0 k) (by omega))).step (c := k * 4 + 1) (by omega) (mk_int (kdEntryS_1 k) (by push_cast; omega))).step (c := k * 4 + 2) (by omega) (mk_int (kdEntryS_2 k) (by push_cast; omega))) hb4)
      clear hb4 H1 c0 f0 c1 f1 c2 f2
      obtain ⟨⟨v3, c3⟩, f3⟩ := H4.out.wr (k * 4 + 3) (by omega)
      have hnx : k * 4 + 3 + 1 = (k + 1) * 4 := by omega
      have HF := fun (y : World) (h : Mk kdEntryS g (len * 4) 1 (k * 4 + 3 + 1) w y) => (show Hid (Mk kdEntryS g (len * 4) 1 ((k + 1) * 4) w y) from hnx ▸ h)
      go_wp2
      exact ⟨⟨k + 1, by first | go_num | (congr 1; push_cast; omega), by go_num, by omega, HF _ (H4.out.step (c := k * 4 + 3) (by omega) (mk_str (kdEntryS_3 k) (by omega)))⟩, by simp [intOf]; omega⟩
    · obtain rfl : k = len := by omega
      go_wp2
      go_ret
      exact ⟨by first | rfl | (congr 2; push_cast; omega), HR.out⟩

end Go.Proofs.Ytonkjdjancnajac
