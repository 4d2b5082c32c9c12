/- The marks in a row of Int64S: laid and looked for. -/
import Derived.Test.YtejedpmkbkclhaaMark
namespace Go.Proofs.Ytejedpmkbkclhaa
set_option maxRecDepth 100000
open Go.RowKit

def kdInt64S (j : Nat) : Bool := decide (j % 1 = 0)
theorem kdInt64S_0 (k : Nat) : kdInt64S (k) = true := by unfold kdInt64S; simp <;> omega

set_option maxHeartbeats 2000000 in
theorem laws_markInt64S (K0 : Nat) (kv : Int) (hkv : kv = (K0 : Int)) (hK : 1 ≤ K0 ∧ K0 ≤ 50000000) (a : Option Addr) (len cap g : Nat) (w : World) (hl : len ≤ 1048576) (hg : len = 0 ∨ a = some ⟨g, 0, none⟩) (hw : ∀ j, j < len → (∃ v, w.cell? ⟨g, j, none⟩ = some v) ∧ w.frozen? ⟨g, j, none⟩ = false) :
    Calls Try.prog 29 #[.slice a len cap, .int .i64 kv] w fun e w' => e = .returned (.int .i64 ((K0 + len : Nat) : Int)) ∧ Mk kdInt64S g (len) K0 (len) w w' := by
  have H0 : Hid (Mk kdInt64S g (len) K0 (0) w w) := Mk.start hw
  clear hw
  obtain ⟨hK1, hK2⟩ := hK
  have hK3 : (K0 : Int) ≤ 50000000 := by omega
  have hK4 : (1 : Int) ≤ (K0 : Int) := by omega
  subst hkv
  go_enter Try.func29, Try.ntmps29
  go_wp2
  go_loopw [1, 5] (fun q i wr => ∃ k : Nat, q = .int .i64 ((K0 + k : Nat) : Int) ∧ i = .int .i64 k ∧ k ≤ len ∧ Hid (Mk kdInt64S g (len) K0 (k) w wr)) (fun _ i _ => len - (intOf i).toNat)
  case atStart => exact ⟨0, by simp, rfl, by omega, H0⟩
  case round =>
    obtain ⟨k, rfl, rfl, hk, HR⟩ := hrel
    clear H0
    by_cases hlt : k < len
    · obtain rfl : a = some ⟨g, 0, none⟩ := by
        rcases hg with h | h
        · omega
        · exact h
      have hki : (k : Int) < (len : Int) := by omega
      have hk1 : (k : Int) ≤ 1048576 := by omega
      obtain ⟨⟨v0, c0⟩, f0⟩ := HR.out.wr (k) (by omega)
      have hnx : k + 1 = (k + 1) := by omega
      have HF := fun (y : World) (h : Mk kdInt64S g (len) K0 (k + 1) w y) => (show Hid (Mk kdInt64S g (len) K0 ((k + 1)) w y) from hnx ▸ h)
      go_wp2
      exact ⟨⟨k + 1, by first | go_num | (congr 1; push_cast; omega), by go_num, by omega, HF _ (HR.out.step (c := k) (by omega) (mk_int (kdInt64S_0 k) (by push_cast; omega)))⟩, by simp [intOf]; omega⟩
    · obtain rfl : k = len := by omega
      go_wp2
      go_ret
      exact ⟨by first | rfl | (congr 2; push_cast; omega), HR.out⟩

end Go.Proofs.Ytejedpmkbkclhaa
