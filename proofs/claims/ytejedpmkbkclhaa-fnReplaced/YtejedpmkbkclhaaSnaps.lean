/- SnapsOk of the program: risesTo. -/
import Derived.Test.YtejedpmkbkclhaaInts
import Derived.Test.YtejedpmkbkclhaaIn1
import Derived.Test.YtejedpmkbkclhaaReg
namespace Go.Proofs.Ytejedpmkbkclhaa
set_option maxRecDepth 100000
open Go.RowKit Go.Deep

/-- Place i of a row of numbers is right: 0 .. M, and above the one ahead of it. -/
def upB (M : Int) (S : Nat → Int) (i : Nat) : Bool := decide (0 ≤ S i ∧ S i ≤ M) && (decide (i = 0) || decide (S (i - 1) < S i))
def upsB (M : Int) (S : Nat → Int) (n : Nat) : Bool := (List.range n).all fun i => upB M S i

theorem upsB_yes {M : Int} {S : Nat → Int} {n : Nat} (h2 : ∀ i, i < n → upB M S i = true) : upsB M S n = true := by
  unfold upsB
  rw [List.all_eq_true]
  exact fun i hi => h2 i (List.mem_range.1 hi)
theorem upsB_out {M : Int} {S : Nat → Int} {n : Nat} (h : upsB M S n = true) : ∀ i, i < n → upB M S i = true := by
  unfold upsB at h
  rw [List.all_eq_true] at h
  exact fun i hi => h i (List.mem_range.2 hi)
theorem upsB_no {M : Int} {S : Nat → Int} {n : Nat} (i : Nat) (hi : i < n) (h : upB M S i = false) : upsB M S n = false := by
  rw [Bool.eq_false_iff]
  intro e
  rw [upsB_out e i hi] at h
  cases h
theorem upB_in {M : Int} {S : Nat → Int} {i : Nat} (h : ¬ (0 ≤ S i ∧ S i ≤ M)) : upB M S i = false := by
  unfold upB; rw [decide_eq_false h, Bool.false_and]
theorem upB_0 {M : Int} {S : Nat → Int} (h : 0 ≤ S 0 ∧ S 0 ≤ M) : upB M S 0 = true := by
  unfold upB; simp [h]
theorem upB_up {M : Int} {S : Nat → Int} {j : Nat} (h : 0 ≤ S (j + 1) ∧ S (j + 1) ≤ M) (h2 : S j < S (j + 1)) : upB M S (j + 1) = true := by
  unfold upB; simp [h, h2]
theorem upB_low {M : Int} {S : Nat → Int} {j : Nat} (h2 : ¬ S j < S (j + 1)) : upB M S (j + 1) = false := by
  unfold upB; simp [h2]
theorem ups_next {M : Int} {S : Nat → Int} {k : Nat} (h : ∀ i, i < k → upB M S i = true) (h2 : upB M S k = true) : ∀ i, i < k + 1 → upB M S i = true := fun i hi => by
  rcases Nat.lt_or_eq_of_le (Nat.le_of_lt_succ hi) with h3 | h3
  · exact h i h3
  · subst h3; exact h2

/-- Place i of the snapshots is right. -/
def snapB (S : Nat → Int) (i : Nat) : Bool := decide (0 ≤ S i ∧ S i ≤ 1000000000000) && (decide (i = 0) || decide (S (i - 1) < S i))
def snapsB (S : Nat → Int) (n : Nat) : Bool := decide (n ≤ 20) && (List.range n).all fun i => snapB S i

theorem snapsB_yes {S : Nat → Int} {n : Nat} (h : n ≤ 20) (h2 : ∀ i, i < n → snapB S i = true) : snapsB S n = true := by
  unfold snapsB
  rw [Bool.and_eq_true, List.all_eq_true]
  exact ⟨decide_eq_true h, fun i hi => h2 i (List.mem_range.1 hi)⟩
theorem snapsB_many {S : Nat → Int} {n : Nat} (h : ¬ n ≤ 20) : snapsB S n = false := by
  unfold snapsB; rw [decide_eq_false h, Bool.false_and]
theorem snapsB_out {S : Nat → Int} {n : Nat} (h : snapsB S n = true) : n ≤ 20 ∧ ∀ i, i < n → snapB S i = true := by
  unfold snapsB at h
  rw [Bool.and_eq_true, List.all_eq_true] at h
  exact ⟨of_decide_eq_true h.1, fun i hi => h.2 i (List.mem_range.2 hi)⟩
theorem snapsB_no {S : Nat → Int} {n : Nat} (i : Nat) (hi : i < n) (h : snapB S i = false) : snapsB S n = false := by
  rw [Bool.eq_false_iff]
  intro e
  rw [(snapsB_out e).2 i hi] at h
  cases h
theorem snapB_in {S : Nat → Int} {i : Nat} (h : ¬ (0 ≤ S i ∧ S i ≤ 1000000000000)) : snapB S i = false := by
  unfold snapB; rw [decide_eq_false h, Bool.false_and]
theorem snapB_0 {S : Nat → Int} (h : 0 ≤ S 0 ∧ S 0 ≤ 1000000000000) : snapB S 0 = true := by
  unfold snapB; simp [h]
theorem snapB_up {S : Nat → Int} {j : Nat} (h : 0 ≤ S (j + 1) ∧ S (j + 1) ≤ 1000000000000) (h2 : S j < S (j + 1)) : snapB S (j + 1) = true := by
  unfold snapB; simp [h, h2]
theorem snapB_low {S : Nat → Int} {j : Nat} (h2 : ¬ S j < S (j + 1)) : snapB S (j + 1) = false := by
  unfold snapB; simp [h2]

theorem snaps_next {S : Nat → Int} {k : Nat} (h : ∀ i, i < k → snapB S i = true) (h2 : snapB S k = true) : ∀ i, i < k + 1 → snapB S i = true := fun i hi => by
  rcases Nat.lt_or_eq_of_le (Nat.le_of_lt_succ hi) with h3 | h3
  · exact h i h3
  · subst h3; exact h2

set_option maxHeartbeats 1000000 in
theorem impl_risesTo (a : Option Addr) (len cap : Nat) (S : Nat → Int) (w : World) (hl : len ≤ 1048576) (hS : IntAt w w.heap.size a len S) :
    Calls Try.prog 64 #[.slice a len cap, .int .i64 1000000000000] w fun e w' => e = .returned (.bool (upsB 1000000000000 S len)) ∧ Below w.heap.size w w' := by
  have HS : Hid (IntAt w w.heap.size a len S) := hS
  clear hS
  have HB0 : Hid (Below w.heap.size w w) := Below.refl _ _
  go_enter Try.func64, Try.ntmps64
  go_wp2
  go_loopw [9] (fun i wr => ∃ k : Nat, i = .int .i64 k ∧ k ≤ len ∧ Hid (∀ i, i < k → upB 1000000000000 S i = true) ∧ Hid (Below w.heap.size w wr)) (fun i _ => len - (intOf i).toNat)
  case atStart => exact ⟨0, rfl, by omega, fun _ h => absurd h (by omega), HB0⟩
  case round =>
    obtain ⟨k, rfl, hk, HK, HW⟩ := hrel
    clear HB0
    by_cases hlt : k < len
    · have hki : (k : Int) < (len : Int) := by omega
      obtain ⟨b, off, rfl, hb, c0⟩ := (HS.out.below HW.out).at hlt
      by_cases h0 : S k < 0
      · have HV : Hid (false = upsB 1000000000000 S len) := (upsB_no k hlt (upB_in (by omega))).symm
        go_wp2
        go_ret
        exact ⟨ret_boolE HV.out, HW.out⟩
      · by_cases h1 : (1000000000000 : Int) < S k
        · have HV : Hid (false = upsB 1000000000000 S len) := (upsB_no k hlt (upB_in (by omega))).symm
          go_wp2
          go_ret
          exact ⟨ret_boolE HV.out, HW.out⟩
        · rcases Nat.eq_zero_or_pos k with rfl | hk0
          · have HK2 : Hid (∀ i, i < 0 + 1 → upB 1000000000000 S i = true) := ups_next HK.out (upB_0 (by omega))
            have c0' : wr.cell? ⟨b, off, none⟩ = some (.int .i64 (S 0)) := c0
            go_wp2
            exact ⟨⟨1, by go_num, by omega, HK2, HW⟩, by simp [intOf]; omega⟩
          · obtain ⟨j, rfl⟩ : ∃ j, k = j + 1 := ⟨k - 1, by omega⟩
            obtain ⟨b', off', hbb, hb', e0⟩ := (HS.out.below HW.out).at (show j < len by omega)
            simp only [Option.some.injEq, Addr.mk.injEq, and_true] at hbb
            obtain ⟨rfl, rfl⟩ := hbb
            have h3 : 0 ≤ S (j + 1) ∧ S (j + 1) ≤ 1000000000000 := ⟨by omega, by omega⟩
            have hjl : (j : Int) < (len : Int) := by omega
            have hj00 : (0 : Int) ≤ (j : Int) := by omega
            have hj1 : (0 : Int) < (j : Int) + 1 := by omega
            have hj0 : (0 : Int) < ((j + 1 : Nat) : Int) := by omega
            have hsub : IntKind.i64.wrap (((j + 1 : Nat) : Int) - 1) = (j : Int) := by rw [IntKind.wrap_i64]; omega
            have hsub2 : IntKind.i64.wrap ((j : Int) + 1 - 1) = (j : Int) := by rw [IntKind.wrap_i64]; omega
            have hsub3 : wrap64 ((j : Int) + 1 - 1) = (j : Int) := by unfold wrap64; omega
            have hsub4 : IntKind.i64.wrap (j : Int) = (j : Int) := by rw [IntKind.wrap_i64]; omega
            have hsub5 : wrap64 (j : Int) = (j : Int) := by unfold wrap64; omega
            by_cases h2 : S j < S (j + 1)
            · have h2' : ¬ (S (j + 1) ≤ S j) := Int.not_le.2 h2
              have HK2 : Hid (∀ i, i < j + 1 + 1 → upB 1000000000000 S i = true) := ups_next HK.out (upB_up h3 h2)
              go_wp2
              clear hsub hsub2 hsub3 hsub4 hsub5; exact ⟨⟨j + 1 + 1, by go_num, by omega, HK2, HW⟩, by simp [intOf]; omega⟩
            · have h2' : S (j + 1) ≤ S j := Int.not_lt.1 h2
              have HV : Hid (false = upsB 1000000000000 S len) := (upsB_no (j + 1) hlt (upB_low h2)).symm
              go_wp2
              go_ret
              exact ⟨ret_boolE HV.out, HW.out⟩
    · obtain rfl : k = len := by omega
      have HV : Hid (true = upsB 1000000000000 S k) := (upsB_yes HK.out).symm
      go_wp2
      go_ret
      exact ⟨ret_boolE HV.out, HW.out⟩

theorem snaps_ups (S : Nat → Int) (n : Nat) : snapsB S n = (decide (n ≤ 20) && upsB 1000000000000 S n) := rfl

end Go.Proofs.Ytejedpmkbkclhaa
