/- The marks in a row of OpS: laid and looked for. -/
import Derived.Test.YtonkjdjancnajadMark
namespace Go.Proofs.Ytonkjdjancnajad
set_option maxRecDepth 100000
open Go.RowKit

def kdOpS (j : Nat) : Bool := decide (j % 3 = 0)
theorem kdOpS_0 (k : Nat) : kdOpS (k * 3) = true := by unfold kdOpS; simp <;> omega
theorem kdOpS_1 (k : Nat) : kdOpS (k * 3 + 1) = false := by unfold kdOpS; simp <;> omega
theorem kdOpS_2 (k : Nat) : kdOpS (k * 3 + 2) = false := by unfold kdOpS; simp <;> omega

set_option maxHeartbeats 2000000 in
theorem laws_markOpS (a : Option Addr) (len cap g : Nat) (w : World) (hl : len ≤ 1048576) (hg : len = 0 ∨ a = some ⟨g, 0, none⟩) (hw : ∀ j, j < len * 3 → (∃ v, w.cell? ⟨g, j, none⟩ = some v) ∧ w.frozen? ⟨g, j, none⟩ = false) :
    Calls Try.prog 36 #[.slice a len cap, .int .i64 1] w fun e w' => e = .returned (.int .i64 ((1 + len * 3 : Nat) : Int)) ∧ Mk kdOpS g (len * 3) 1 (len * 3) w w' := by
  have H0 : Hid (Mk kdOpS g (len * 3) 1 (0 * 3) w w) := Mk.start hw
  clear hw
  go_enter Try.func36, Try.ntmps36
  go_wp2
  go_loopw [1, 5] (fun q i wr => ∃ k : Nat, q = .int .i64 ((1 + k * 3 : Nat) : Int) ∧ i = .int .i64 k ∧ k ≤ len ∧ Hid (Mk kdOpS g (len * 3) 1 (k * 3) w wr)) (fun _ i _ => len - (intOf i).toNat)
  case atStart => exact ⟨0, by simp, rfl, by omega, H0⟩
  case round =>
    obtain ⟨k, rfl, rfl, hk, HR⟩ := hrel
    clear H0
    by_cases hlt : k < len
    · obtain rfl : a = some ⟨g, 0, none⟩ := by
        rcases hg with h | h
        · omega
        · exact h
      have hki : (k : Int) < (len : Int) := by omega
      have hk1 : (k : Int) ≤ 1048576 := by omega
      obtain ⟨⟨v0, c0⟩, f0⟩ := HR.out.wr (k * 3) (by omega)
      go_wp2_with fail
      refine (laws_markText _ (1 + (k * 3 + 1)) (by push_cast; omega) (by omega) (by omega) _).mono ?_
      rintro e w2 ⟨rfl, hb2⟩
      have H2 := hide (Mk.next (HR.out.step (c := k * 3) (by omega) (mk_int (kdOpS_0 k) (by push_cast; omega))) hb2)
      clear hb2 HR c0 f0
      obtain ⟨⟨v1, c1⟩, f1⟩ := H2.out.wr (k * 3 + 1) (by omega)
      go_wp2_with fail
      refine (laws_markText _ (1 + (k * 3 + 2)) (by push_cast; omega) (by omega) (by omega) _).mono ?_
      rintro e w3 ⟨rfl, hb3⟩
      have H3 := hide (Mk.next (H2.out.step (c := k * 3 + 1) (by omega) (mk_str (kdOpS_1 k) (by omega))) hb3)
      clear hb3 H2 c1 f1
      obtain ⟨⟨v2, c2⟩, f2⟩ := H3.out.wr (k * 3 + 2) (by omega)
      have hnx : k * 3 + 2 + 1 = (k + 1) * 3 := by omega
      have HF := fun (y : World) (h : Mk kdOpS g (len * 3) 1 (k * 3 + 2 + 1) w y) => (show Hid (Mk kdOpS g (len * 3) 1 ((k + 1) * 3) w y) from hnx ▸ h)
      go_wp2
      exact ⟨⟨k + 1, by first | go_num | (congr 1; push_cast; omega), by go_num, by omega, HF _ (H3.out.step (c := k * 3 + 2) (by omega) (mk_str (kdOpS_2 k) (by omega)))⟩, by simp [intOf]; omega⟩
    · obtain rfl : k = len := by omega
      go_wp2
      go_ret
      exact ⟨by first | rfl | (congr 2; push_cast; omega), HR.out⟩

end Go.Proofs.Ytonkjdjancnajad
