/- FileName of the program and of the model; the law. -/
import Derived.Test.YtplemoedpdammaaDoorFmt
import Derived.Lib.TrailingZeros
import Derived.Test.YtplemoedpdammaaDoorRows
namespace Go.Proofs.YtplemoedpdammaaDoor
set_option maxRecDepth 100000
open Go.RowKit

theorem decT_size : ∀ (k n : Nat), n < 10 ^ (k + 1) → (decT n).size ≤ k + 1
  | 0, n, h => by rw [decT_small (by omega), strOfNums_size]; simp
  | k + 1, n, h => by
    by_cases h0 : n < 10
    · rw [decT_small h0, strOfNums_size]; simp
    · have := decT_size k (n / 10) (by rw [Nat.pow_succ] at h; omega)
      rw [decT_big h0, ByteArray.size_append, strOfNums_size]
      simp; omega

theorem decT_seven {n : Nat} (h : n ≤ 1000000) : (decT n).size ≤ 7 := decT_size 6 n (by omega)

/-- The name of a file. -/
def fileN (s : ByteArray) (n : Int) : ByteArray := if 1 ≤ s.size ∧ s.size ≤ 20 ∧ 0 ≤ n ∧ n ≤ 1000000 then s ++ ⟨#[45]⟩ ++ decT n.toNat else ⟨#[]⟩

theorem fileN_yes {s : ByteArray} {n : Nat} (h : 1 ≤ s.size ∧ s.size ≤ 20 ∧ n ≤ 1000000) : s ++ ⟨#[45]⟩ ++ decT n = fileN s (n : Int) := by
  rw [fileN, if_pos (by omega)]; rfl
theorem fileN_no {s : ByteArray} {n : Int} (h : ¬ (1 ≤ s.size ∧ s.size ≤ 20 ∧ 0 ≤ n ∧ n ≤ 1000000)) : ⟨#[]⟩ = fileN s n := by
  rw [fileN, if_neg h]
theorem ret_str {a b : ByteArray} (h : a = b) : Ending.returned (.string a) = .returned (.string b) := by rw [h]

theorem spec_l1In_n (n lo hi : Int) (w : World) :
    Calls Tryd.prog 6 #[.int .i64 n, .int .i64 lo, .int .i64 hi] w fun e w' => e = .returned (.bool (decide (lo ≤ n ∧ n ≤ hi))) ∧ Below w.heap.size w w' := by
  go_enter Tryd.func6, Tryd.ntmps6
  go_wp2
  all_goals go_ret
  all_goals refine ⟨?_, Below.refl _ _⟩
  all_goals (congr 2; simp; try omega)

theorem dec_turn {n : Nat} {s S : ByteArray} (h : ¬ n < 10) (e : decT n ++ s = S) : decT (n / 10) ++ (strOfNums [48 + ((n % 10 : Nat) : Int)] ++ s) = S := by
  rw [← e, decT_big h]
  simp [ByteArray.append_assoc]

set_option maxHeartbeats 1000000 in
theorem spec_l16Dec (n : Nat) (hn : n ≤ 1000000) (w : World) :
    Calls Tryd.prog 7 #[.int .i64 n] w fun e w' => e = .returned (.string (decT n)) ∧ Below w.heap.size w w' := by
  have hs7 := decT_seven hn
  go_enter Tryd.func7, Tryd.ntmps7
  go_wp2
  go_loopw [0, 3] (fun v t wr => ∃ (k : Nat) (s : ByteArray), v = .int .i64 k ∧ t = .string s ∧ k ≤ 1000000 ∧ s.size ≤ 7 ∧ Hid (decT k ++ s = decT n) ∧ Below w.heap.size w wr)
    (fun v _ _ => (intOf v).toNat)
  case atStart => exact ⟨n, _, rfl, rfl, hn, Nat.zero_le _, by have : decT n ++ (⟨#[]⟩ : ByteArray) = decT n := by { apply ByteArray.ext; simp }; exact this, Below.refl _ _⟩
  case round =>
    obtain ⟨k, s, rfl, rfl, hk, hs, HE, HB⟩ := hrel
    have hc : ∀ x : Int, (convert 27 9 (.slice (some ⟨wr.heap.size, 0, none⟩) 1 1)).run Tryd.prog (wr.alloc (.cells #[.int .u8 x] 5)) = .ok (.string (strOfNums [x])) (wr.alloc (.cells #[.int .u8 x] 5)) :=
      fun x => conv_one (P := Tryd.prog) 27 5 9 Tryd.underlying27 Tryd.underlying5 Tryd.underlying9 _ _ _ (by simp)
    have hsz : ∀ x : Int, (strOfNums [x] ++ s).size ≤ 8 := fun x => by rw [ByteArray.size_append, strOfNums_size]; simp; omega
    by_cases hlt : k < 10
    · have e1 : IntKind.u8.wrap (48 + (k : Int)) = 48 + (k : Int) := by rw [IntKind.wrap_u8]; omega
      have hq : (strOfNums [48 + (k : Int)]).size = 1 := by rw [strOfNums_size]; rfl
      have HF : Hid (strOfNums [48 + (k : Int)] ++ s = decT n) := by have := HE.out; rw [decT_small hlt] at this; exact this
      have HB2 : Hid (∀ o, Below w.heap.size w (wr.alloc o)) := fun o => HB.alloc HB.size o
      clear HB HE
      go_wp2
      go_ret
      exact ⟨ret_str HF.out, HB2.out _⟩
    · have hq : (strOfNums [48 + (k : Int) % 10]).size = 1 := by rw [strOfNums_size]; rfl
      have HF : Hid (decT (k / 10) ++ (strOfNums [48 + (k : Int) % 10] ++ s) = decT n) := by
        have e : (k : Int) % 10 = ((k % 10 : Nat) : Int) := by omega
        rw [e]; exact dec_turn hlt HE.out
      have hs2 : (strOfNums [48 + (k : Int) % 10] ++ s).size ≤ 7 := by
        have := congrArg ByteArray.size HF.out
        rw [ByteArray.size_append] at this
        omega
      have HB2 : Hid (∀ o, Below w.heap.size w (wr.alloc o)) := fun o => HB.alloc HB.size o
      clear HB HE
      go_wp2
      exact ⟨⟨k / 10, _, by congr 1, rfl, by omega, hs2, HF, HB2.out _⟩, by simp [intOf]; omega⟩

set_option maxHeartbeats 1000000 in
theorem spec_FileName (s : ByteArray) (n : Int) (_hs : s.size ≤ maxLen) (w : World) :
    Calls Tryd.prog 4 #[.string s, .int .i64 n] w fun e w' => e = .returned (.string (fileN s n)) ∧ Below w.heap.size w w' := by
  by_cases h0 : 1 ≤ s.size ∧ s.size ≤ 20
  · obtain ⟨h1, h2⟩ := h0
    by_cases h3 : 0 ≤ n ∧ n ≤ 1000000
    · obtain ⟨m, rfl⟩ := Int.eq_ofNat_of_zero_le h3.1
      have hd : decide ((0 : Int) ≤ (m : Int) ∧ (m : Int) ≤ 1000000) = true := decide_eq_true h3
      have hy := fileN_yes (s := s) (n := m) (by omega)
      have h7 := decT_seven (n := m) (by omega)
      go_enter Tryd.func4, Tryd.ntmps4
      go_wp2_with fail
      refine (hd ▸ spec_l1In_n (m : Int) 0 1000000 _).mono ?_
      rintro e w1 ⟨rfl, hB⟩
      go_wp2_with fail
      refine (calls_from hB (spec_l16Dec m (by omega) _)).mono ?_
      clear hB
      rintro e w2 ⟨rfl, hB⟩
      go_wp2
      go_ret
      exact ⟨ret_str (by first | rfl | exact hy), hB⟩
    · have hd : decide ((0 : Int) ≤ n ∧ n ≤ 1000000) = false := decide_eq_false h3
      have hy := fileN_no (s := s) (n := n) (by omega)
      go_enter Tryd.func4, Tryd.ntmps4
      go_wp2_with fail
      refine (hd ▸ spec_l1In_n n 0 1000000 _).mono ?_
      rintro e w1 ⟨rfl, hB⟩
      go_wp2
      go_ret
      exact ⟨ret_str (by first | rfl | exact hy), hB⟩
  · have hy := fileN_no (s := s) (n := n) (by omega)
    go_enter Tryd.func4, Tryd.ntmps4
    go_wp2
    all_goals go_ret
    all_goals exact ⟨ret_str (by first | rfl | exact hy), Below.refl _ _⟩

set_option maxHeartbeats 1000000 in
theorem impl_FileName (s : ByteArray) (n : Int) (_hs : s.size ≤ maxLen) (w : World) (hT : TabAt w) :
    Calls Tryd.prog 5 #[.string s, .int .i64 n] w fun e w' => e = .returned (.string (fileN s n)) ∧ Below w.heap.size w w' := by
  by_cases h0 : 1 ≤ s.size ∧ s.size ≤ 20 ∧ 0 ≤ n ∧ n ≤ 1000000
  · obtain ⟨h1, h2, h3, h4⟩ := h0
    obtain ⟨m, rfl⟩ := Int.eq_ofNat_of_zero_le h3
    have hy := fileN_yes (s := s) (n := m) (by omega)
    have h7 := decT_seven (n := m) (by omega)
    go_enter Tryd.func5, Tryd.ntmps5
    go_wp2_with fail
    refine (lib_FormatInt10 m (by omega) _ hT).mono ?_
    rintro e w2 ⟨rfl, hB⟩
    go_wp2
    go_ret
    exact ⟨ret_str (by first | rfl | exact hy), hB⟩
  · have hy := fileN_no (s := s) (n := n) h0
    go_enter Tryd.func5, Tryd.ntmps5
    go_wp2
    all_goals go_ret
    all_goals exact ⟨ret_str (by first | rfl | exact hy), Below.refl _ _⟩

set_option maxHeartbeats 1000000 in
theorem walk_FileName (s : ByteArray) (hs : s.size ≤ maxLen) (n : Int) (_hn : (Lit.int .i64 n).wf = true) (w : World) (hT : TabAt w) :
    Calls Tryd.prog 3 #[.string s, .int .i64 n] w fun e w' => e = .returned (.bool true) ∧ Below w.heap.size w w' := by
  by_cases hbig : (1048576 : Int) < (s.size : Int)
  · go_enter Tryd.func3, Tryd.ntmps3
    go_wp2
    go_ret
    exact ⟨rfl, Below.refl _ _⟩
  · skip
    go_enter Tryd.func3, Tryd.ntmps3
    go_wp2_with fail
    refine (spec_FileName s n hs _).mono ?_
    rintro e w1 ⟨rfl, hB⟩
    have hT1 := hT.below hB
    go_wp2_with fail
    refine (calls_from hB (impl_FileName s n hs _ hT1)).mono ?_
    clear hB
    rintro e w2 ⟨rfl, hB⟩
    go_wp2
    go_ret
    exact ⟨rfl, hB⟩

end Go.Proofs.YtplemoedpdammaaDoor
