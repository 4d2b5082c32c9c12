/- UsersOk, of the program and of the model, and its law. -/
import Derived.Test.YtplbhgcibfajaaaStrs
namespace Go.Proofs.Ytplbhgcibfajaaa
set_option maxRecDepth 100000
open Go.RowKit Go.Deep

def userB (s : ByteArray) : Bool := decide (1 ≤ s.size ∧ s.size ≤ 40)
theorem userB_yes {s : ByteArray} (h : 1 ≤ s.size ∧ s.size ≤ 40) : userB s = true := decide_eq_true h
theorem userB_no {s : ByteArray} (h : ¬ (1 ≤ s.size ∧ s.size ≤ 40)) : userB s = false := decide_eq_false h
theorem userB_bd {s : ByteArray} (h : userB s = true) : 1 ≤ s.size ∧ s.size ≤ 40 := of_decide_eq_true h

/-- The first len texts of S are right users, and not too many. -/
def usersB (S : Nat → ByteArray) (len : Nat) : Bool := decide (len ≤ 400) && (List.range len).all fun i => userB (S i)
theorem usersB_yes {S : Nat → ByteArray} {len : Nat} (h : len ≤ 400) (h2 : ∀ i, i < len → userB (S i) = true) : usersB S len = true := by
  unfold usersB
  rw [Bool.and_eq_true, List.all_eq_true]
  exact ⟨decide_eq_true h, fun i hi => h2 i (List.mem_range.1 hi)⟩
theorem usersB_many {S : Nat → ByteArray} {len : Nat} (h : ¬ len ≤ 400) : usersB S len = false := by
  unfold usersB
  rw [decide_eq_false h, Bool.false_and]
theorem usersB_no {S : Nat → ByteArray} {len : Nat} (i : Nat) (hi : i < len) (h : userB (S i) = false) : usersB S len = false := by
  rw [Bool.eq_false_iff]
  intro e
  unfold usersB at e
  rw [Bool.and_eq_true, List.all_eq_true] at e
  rw [e.2 i (List.mem_range.2 hi)] at h
  cases h
theorem usersB_out {S : Nat → ByteArray} {len : Nat} (h : usersB S len = true) : len ≤ 400 ∧ ∀ i, i < len → userB (S i) = true := by
  unfold usersB at h
  rw [Bool.and_eq_true, List.all_eq_true] at h
  exact ⟨of_decide_eq_true h.1, fun i hi => h.2 i (List.mem_range.2 hi)⟩

theorem ret_boolU {a b : Bool} (h : a = b) : Ending.returned (.bool a) = .returned (.bool b) := by rw [h]

/-- A place that was looked for: none where b, else one. -/
def Found (x : Int) (b : Bool) : Prop := (x = -1 ∧ b = true) ∨ (0 ≤ x ∧ b = false)

theorem spec_l2User (s : ByteArray) (w : World) :
    Calls Try.prog 70 #[.string s] w fun e w' => e = .returned (.bool (userB s)) ∧ w = w' := by
  by_cases h1 : 1 ≤ s.size
  · have h1' : (1 : Int) ≤ (s.size : Int) := by omega
    by_cases h2 : s.size ≤ 40
    · have h2' : (s.size : Int) ≤ 40 := by omega
      have HV : Hid (true = userB s) := (userB_yes ⟨h1, h2⟩).symm
      go_enter Try.func70, Try.ntmps70
      go_wp2
      go_ret
      exact ⟨ret_boolU HV.out, rfl⟩
    · have h2' : ¬ ((s.size : Int) ≤ 40) := by omega
      have HV : Hid (false = userB s) := (userB_no (by omega)).symm
      go_enter Try.func70, Try.ntmps70
      go_wp2
      go_ret
      exact ⟨ret_boolU HV.out, rfl⟩
  · have h1' : ¬ ((1 : Int) ≤ (s.size : Int)) := by omega
    have HV : Hid (false = userB s) := (userB_no (by omega)).symm
    go_enter Try.func70, Try.ntmps70
    go_wp2
    go_ret
    exact ⟨ret_boolU HV.out, rfl⟩

theorem impl_userOk (s : ByteArray) (w : World) :
    Calls Try.prog 66 #[.string s] w fun e w' => e = .returned (.bool (userB s)) ∧ w = w' := by
  by_cases h1 : 1 ≤ s.size
  · have h1' : (1 : Int) ≤ (s.size : Int) := by omega
    by_cases h2 : s.size ≤ 40
    · have h2' : (s.size : Int) ≤ 40 := by omega
      have HV : Hid (true = userB s) := (userB_yes ⟨h1, h2⟩).symm
      go_enter Try.func66, Try.ntmps66
      go_wp2
      go_ret
      exact ⟨ret_boolU HV.out, rfl⟩
    · have h2' : ¬ ((s.size : Int) ≤ 40) := by omega
      have HV : Hid (false = userB s) := (userB_no (by omega)).symm
      go_enter Try.func66, Try.ntmps66
      go_wp2
      go_ret
      exact ⟨ret_boolU HV.out, rfl⟩
  · have h1' : ¬ ((1 : Int) ≤ (s.size : Int)) := by omega
    have HV : Hid (false = userB s) := (userB_no (by omega)).symm
    go_enter Try.func66, Try.ntmps66
    go_wp2
    go_ret
    exact ⟨ret_boolU HV.out, rfl⟩

end Go.Proofs.Ytplbhgcibfajaaa
