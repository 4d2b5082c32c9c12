/- SharedWith, of the program and of the model: how many bytes two texts have in common at their beginning. -/
import Derived.Test.YtljmfdcilnbjaacRows
import Derived.Test.YtljmfdcilnbjaacBase
namespace Go.Proofs.Ytljmfdcilnbjaac
set_option maxRecDepth 100000
open Go.RowKit

def cpl : List UInt8 → List UInt8 → Nat
  | x :: xs, y :: ys => if x = y then cpl xs ys + 1 else 0
  | _, _ => 0

/-- How many bytes a and b have in common at their beginning. -/
def shw (a b : ByteArray) : Nat := cpl a.data.toList b.data.toList

theorem cpl_le : ∀ a b : List UInt8, cpl a b ≤ a.length ∧ cpl a b ≤ b.length
  | [], b => by simp [cpl]
  | x :: xs, [] => by simp [cpl]
  | x :: xs, y :: ys => by
    have := cpl_le xs ys
    simp only [cpl, List.length_cons]
    split <;> omega

theorem cpl_take : ∀ a b : List UInt8, a.take (cpl a b) = b.take (cpl a b)
  | [], b => by simp [cpl]
  | x :: xs, [] => by simp [cpl]
  | x :: xs, y :: ys => by
    have := cpl_take xs ys
    simp only [cpl]
    split
    · rename_i h; subst h; simp [this]
    · simp

theorem cpl_eq : ∀ (a b : List UInt8) (k : Nat), k ≤ a.length → k ≤ b.length → (∀ i, i < k → a[i]? = b[i]?) → (k = a.length ∨ k = b.length ∨ a[k]? ≠ b[k]?) → k = cpl a b
  | [], b, k, h1, h2, h3, h4 => by simp only [List.length_nil] at h1; simp only [cpl]; omega
  | x :: xs, [], k, h1, h2, h3, h4 => by simp only [List.length_nil] at h2; simp only [cpl]; omega
  | x :: xs, y :: ys, 0, h1, h2, h3, h4 => by
    have : x ≠ y := by simpa using h4
    simp [cpl, this]
  | x :: xs, y :: ys, k + 1, h1, h2, h3, h4 => by
    have e : x = y := by simpa using h3 0 (by omega)
    have := cpl_eq xs ys k (by simpa using h1) (by simpa using h2) (fun i hi => by simpa using h3 (i + 1) (by omega)) (by simpa using h4)
    simp [cpl, e, ← this]

theorem shw_le (a b : ByteArray) : shw a b ≤ a.size ∧ shw a b ≤ b.size := by
  have := cpl_le a.data.toList b.data.toList
  simpa [shw] using this

theorem byte_eq (a b : ByteArray) (k : Nat) (ha : k < a.size) (hb : k < b.size) : bt a k = bt b k ↔ a.data.toList[k]? = b.data.toList[k]? := by
  have ha' : k < a.data.toList.length := by simpa using ha
  have hb' : k < b.data.toList.length := by simpa using hb
  unfold bt
  simp only [List.getD, List.getElem?_eq_getElem ha', List.getElem?_eq_getElem hb', Option.getD_some, Option.some.injEq]
  rw [← UInt8.toNat_inj]
  omega

theorem shw_eq {a b : ByteArray} {k : Nat} (ha : k ≤ a.size) (hb : k ≤ b.size) (h : ∀ i, i < k → bt a i = bt b i) (he : k = a.size ∨ k = b.size ∨ bt a k ≠ bt b k) : k = shw a b := by
  refine cpl_eq _ _ k (by simpa using ha) (by simpa using hb) (fun i hi => (byte_eq a b i (by omega) (by omega)).1 (h i hi)) ?_
  rcases he with he | he | he
  · left; simpa using he
  · right; left; simpa using he
  · by_cases h1 : k = a.size
    · left; simpa using h1
    · by_cases h2 : k = b.size
      · right; left; simpa using h2
      · right; right
        intro e
        exact he ((byte_eq a b k (by omega) (by omega)).2 e)

theorem ret_shw {a b : ByteArray} {k : Nat} (h : k = shw a b) : Ending.returned (.int .i64 (k : Int)) = .returned (.int .i64 (shw a b : Int)) := by rw [h]

set_option maxHeartbeats 1000000 in
theorem spec_SharedWith (a b : ByteArray) (ha : a.size ≤ maxLen) (hb : b.size ≤ maxLen) (w : World) :
    Calls Try.prog 29 #[.string a, .string b] w fun e w' => e = .returned (.int .i64 (shw a b : Int)) ∧ Below w.heap.size w w' := by
  unfold maxLen at ha hb
  go_enter Try.func29, Try.ntmps29
  go_wp2
  go_loopw [5] (fun i wr => ∃ k : Nat, i = .int .i64 k ∧ k ≤ a.size ∧ k ≤ b.size ∧ Hid (∀ i, i < k → bt a i = bt b i) ∧ Hid (Below w.heap.size w wr)) (fun i _ => a.size - (intOf i).toNat)
  case atStart => exact ⟨0, rfl, by omega, by omega, fun _ h => absurd h (by omega), Below.refl _ _⟩
  case round =>
    obtain ⟨k, rfl, hka, hkb, HK, HW⟩ := hrel
    by_cases h1 : k < a.size
    · by_cases h2 : k < b.size
      · have hx := bt_of a k h1
        have hy := bt_of b k h2
        have g1 : (k : Int) < (a.size : Int) := by omega
        have g2 : (k : Int) < (b.size : Int) := by omega
        by_cases h3 : bt a k = bt b k
        · have HK2 : Hid (∀ i, i < k + 1 → bt a i = bt b i) := fun i hi => by
            rcases Nat.lt_or_eq_of_le (Nat.le_of_lt_succ hi) with h | h
            · exact HK.out i h
            · subst h; exact h3
          generalize bt a k = x at *
          subst h3
          go_wp2
          go_quiet (fail)
          go_wp2
          exact ⟨⟨k + 1, by go_num, by omega, by omega, HK2, below_drewN HW.out _⟩, by simp [intOf]; omega⟩
        · have HV : Hid (k = shw a b) := shw_eq hka hkb HK.out (.inr (.inr h3))
          generalize bt a k = x at *
          generalize bt b k = y at *
          have h4 : (x == y) = false := by simp [h3]
          go_wp2
          go_quiet (fail)
          go_wp2
          go_ret
          exact ⟨ret_shw HV.out, below_drewN HW.out _⟩
      · obtain rfl : k = b.size := by omega
        have HV : Hid (b.size = shw a b) := shw_eq hka hkb HK.out (.inr (.inl rfl))
        have g1 : (b.size : Int) < (a.size : Int) := by omega
        go_wp2
        go_quiet (fail)
        go_wp2
        go_ret
        exact ⟨ret_shw HV.out, below_drewN HW.out _⟩
    · obtain rfl : k = a.size := by omega
      have HV : Hid (a.size = shw a b) := shw_eq hka hkb HK.out (.inl rfl)
      go_wp2
      go_quiet (fail)
      go_wp2
      go_ret
      exact ⟨ret_shw HV.out, below_drewN HW.out _⟩

set_option maxHeartbeats 1000000 in
theorem impl_SharedWith (a b : ByteArray) (ha : a.size ≤ maxLen) (hb : b.size ≤ maxLen) (w : World) :
    Calls Try.prog 56 #[.string a, .string b] w fun e w' => e = .returned (.int .i64 (shw a b : Int)) ∧ Below w.heap.size w w' := by
  unfold maxLen at ha hb
  go_enter Try.func56, Try.ntmps56
  go_wp2
  go_loopw [5] (fun i wr => ∃ k : Nat, i = .int .i64 k ∧ k ≤ a.size ∧ k ≤ b.size ∧ Hid (∀ i, i < k → bt a i = bt b i) ∧ Hid (Below w.heap.size w wr)) (fun i _ => a.size - (intOf i).toNat)
  case atStart => exact ⟨0, rfl, by omega, by omega, fun _ h => absurd h (by omega), Below.refl _ _⟩
  case round =>
    obtain ⟨k, rfl, hka, hkb, HK, HW⟩ := hrel
    by_cases h1 : k < a.size
    · by_cases h2 : k < b.size
      · have hx := bt_of a k h1
        have hy := bt_of b k h2
        have g1 : (k : Int) < (a.size : Int) := by omega
        have g2 : (k : Int) < (b.size : Int) := by omega
        have hm : (k : Int) < (if b.size < a.size then (b.size : Int) else (a.size : Int)) := by split <;> omega
        have hd := decide_eq_true hm
        by_cases h3 : bt a k = bt b k
        · have HK2 : Hid (∀ i, i < k + 1 → bt a i = bt b i) := fun i hi => by
            rcases Nat.lt_or_eq_of_le (Nat.le_of_lt_succ hi) with h | h
            · exact HK.out i h
            · subst h; exact h3
          generalize bt a k = x at *
          subst h3
          go_wp2
          go_quiet (fail)
          go_wp2
          exact ⟨⟨k + 1, by go_num, by omega, by omega, HK2, below_drewN HW.out _⟩, by simp [intOf]; omega⟩
        · have HV : Hid (k = shw a b) := shw_eq hka hkb HK.out (.inr (.inr h3))
          generalize bt a k = x at *
          generalize bt b k = y at *
          have h4 : (x == y) = false := by simp [h3]
          go_wp2
          go_quiet (fail)
          go_wp2
          all_goals go_ret
          all_goals exact ⟨ret_shw HV.out, below_drewN HW.out _⟩
      · obtain rfl : k = b.size := by omega
        have HV : Hid (b.size = shw a b) := shw_eq hka hkb HK.out (.inr (.inl rfl))
        have hm : ¬ ((b.size : Int) < (if b.size < a.size then (b.size : Int) else (a.size : Int))) := by split <;> omega
        have hd := decide_eq_false hm
        go_wp2
        go_quiet (fail)
        go_wp2
        go_ret
        exact ⟨ret_shw HV.out, below_drewN HW.out _⟩
    · obtain rfl : k = a.size := by omega
      have HV : Hid (a.size = shw a b) := shw_eq hka hkb HK.out (.inl rfl)
      have hm : ¬ ((a.size : Int) < (if b.size < a.size then (b.size : Int) else (a.size : Int))) := by split <;> omega
      have hd := decide_eq_false hm
      go_wp2
      go_quiet (fail)
      go_wp2
      go_ret
      exact ⟨ret_shw HV.out, below_drewN HW.out _⟩

end Go.Proofs.Ytljmfdcilnbjaac
