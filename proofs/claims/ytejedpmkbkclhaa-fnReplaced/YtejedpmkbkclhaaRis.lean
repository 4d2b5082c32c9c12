/- risesTo at any bound. -/
import Derived.Test.YtejedpmkbkclhaaSnaps
namespace Go.Proofs.Ytejedpmkbkclhaa
set_option maxRecDepth 100000
open Go.RowKit Go.Deep

set_option maxHeartbeats 1000000 in
theorem impl_risesToM (M : Int) (a : Option Addr) (len cap : Nat) (S : Nat → Int) (w : World) (hl : len ≤ 1048576) (hS : IntAt w w.heap.size a len S) :
    Calls Try.prog 64 #[.slice a len cap, .int .i64 M] w fun e w' => e = .returned (.bool (upsB M S len)) ∧ Below w.heap.size w w' := by
  have HS : Hid (IntAt w w.heap.size a len S) := hS
  clear hS
  have HB0 : Hid (Below w.heap.size w w) := Below.refl _ _
  go_enter Try.func64, Try.ntmps64
  go_wp2
  go_loopw [9] (fun i wr => ∃ k : Nat, i = .int .i64 k ∧ k ≤ len ∧ Hid (∀ i, i < k → upB M S i = true) ∧ Hid (Below w.heap.size w wr)) (fun i _ => len - (intOf i).toNat)
  case atStart => exact ⟨0, rfl, by omega, fun _ h => absurd h (by omega), HB0⟩
  case round =>
    obtain ⟨k, rfl, hk, HK, HW⟩ := hrel
    clear HB0
    by_cases hlt : k < len
    · have hki : (k : Int) < (len : Int) := by omega
      obtain ⟨b, off, rfl, hb, c0⟩ := (HS.out.below HW.out).at hlt
      by_cases h0 : S k < 0
      · have HV : Hid (false = upsB M S len) := (upsB_no k hlt (upB_in (by omega))).symm
        go_wp2
        go_ret
        exact ⟨ret_boolE HV.out, HW.out⟩
      · cases h1 : decide (M < S k) with
        | true =>
          have HV : Hid (false = upsB M S len) := (upsB_no k hlt (upB_in (fun h => absurd (of_decide_eq_true h1) (Int.not_lt.2 h.2)))).symm
          go_wp2
          go_ret
          exact ⟨ret_boolE HV.out, HW.out⟩
        | false =>
          have HM : Hid (¬ M < S k) := of_decide_eq_false h1
          have HP : Hid (0 ≤ S k) := Int.not_lt.1 h0
          rcases Nat.eq_zero_or_pos k with rfl | hk0
          · have HK2 : Hid (∀ i, i < 0 + 1 → upB M S i = true) := ups_next HK.out (upB_0 ⟨HP.out, Int.not_lt.1 HM.out⟩)
            have c0' : wr.cell? ⟨b, off, none⟩ = some (.int .i64 (S 0)) := c0
            go_wp2
            exact ⟨⟨1, by go_num, by omega, HK2, HW⟩, by simp [intOf]; omega⟩
          · obtain ⟨j, rfl⟩ : ∃ j, k = j + 1 := ⟨k - 1, by omega⟩
            obtain ⟨b', off', hbb, hb', e0⟩ := (HS.out.below HW.out).at (show j < len by omega)
            simp only [Option.some.injEq, Addr.mk.injEq, and_true] at hbb
            obtain ⟨rfl, rfl⟩ := hbb
            have hjl : (j : Int) < (len : Int) := by omega
            have hj00 : (0 : Int) ≤ (j : Int) := by omega
            have hj1 : (0 : Int) < (j : Int) + 1 := by omega
            have hj0 : (0 : Int) < ((j + 1 : Nat) : Int) := by omega
            have hsub : IntKind.i64.wrap (((j + 1 : Nat) : Int) - 1) = (j : Int) := by rw [IntKind.wrap_i64]; omega
            have hsub2 : IntKind.i64.wrap ((j : Int) + 1 - 1) = (j : Int) := by rw [IntKind.wrap_i64]; omega
            have hsub3 : wrap64 ((j : Int) + 1 - 1) = (j : Int) := by unfold wrap64; omega
            have hsub4 : IntKind.i64.wrap (j : Int) = (j : Int) := by rw [IntKind.wrap_i64]; omega
            have hsub5 : wrap64 (j : Int) = (j : Int) := by unfold wrap64; omega
            by_cases h2 : S j < S (j + 1)
            · have h2' : ¬ (S (j + 1) ≤ S j) := Int.not_le.2 h2
              have HK2 : Hid (∀ i, i < j + 1 + 1 → upB M S i = true) := ups_next HK.out (upB_up ⟨HP.out, Int.not_lt.1 HM.out⟩ h2)
              go_wp2
              clear hsub hsub2 hsub3 hsub4 hsub5; exact ⟨⟨j + 1 + 1, by go_num, by omega, HK2, HW⟩, by simp [intOf]; omega⟩
            · have h2' : S (j + 1) ≤ S j := Int.not_lt.1 h2
              have HV : Hid (false = upsB M S len) := (upsB_no (j + 1) hlt (upB_low h2)).symm
              go_wp2
              go_ret
              exact ⟨ret_boolE HV.out, HW.out⟩
    · obtain rfl : k = len := by omega
      have HV : Hid (true = upsB M S k) := (upsB_yes HK.out).symm
      go_wp2
      go_ret
      exact ⟨ret_boolE HV.out, HW.out⟩

end Go.Proofs.Ytejedpmkbkclhaa
