/- TakeVar, of the program and of the model. -/
import Derived.Test.YtplemoedpdammaaRows
import Derived.Test.YtplemoedpdammaaBase
import Derived.Test.YtplemoedpdammaaClone
namespace Go.Proofs.Ytplemoedpdammaa
set_option maxRecDepth 100000
open Go.RowKit

/-- The number that s has from byte i on (n: what stands ahead of it), and behind which byte it ends. -/
def tva (s : ByteArray) : Nat → Nat → Int → Option (Int × Nat)
  | 0, _, _ => none
  | f + 1, i, n =>
    if i < s.size then
      if i = 9 ∧ 1 < bt s i then none
      else if bt s i < 128 then (if 0 < i ∧ bt s i = 0 then none else some (n + 128 ^ i * bt s i, i + 1))
      else tva s f (i + 1) (n + 128 ^ i * (bt s i - 128))
    else none

def takeVar (s : ByteArray) : Value :=
  match tva s 10 0 0 with
  | none => .tuple #[.int .u64 0, .string ⟨#[]⟩, .bool false]
  | some (n, k) => .tuple #[.int .u64 n, .string (s.extract k s.size), .bool true]

theorem ret_take_none {s : ByteArray} (h : tva s 10 0 0 = none) : Ending.returned (.tuple #[.int .u64 0, .string ⟨#[]⟩, .bool false]) = .returned (takeVar s) := by
  rw [takeVar, h]
theorem ret_take_some {s : ByteArray} {n : Int} {k : Nat} (h : tva s 10 0 0 = some (n, k)) {m : Int} (hm : m = n) : Ending.returned (.tuple #[.int .u64 m, .string (s.extract k s.size), .bool true]) = .returned (takeVar s) := by
  rw [takeVar, h, hm]

theorem tva_step (s : ByteArray) (k : Nat) (n : Int) (h : k < 10) : tva s (10 - k) k n =
    if k < s.size then
      if k = 9 ∧ 1 < bt s k then none
      else if bt s k < 128 then (if 0 < k ∧ bt s k = 0 then none else some (n + 128 ^ k * bt s k, k + 1))
      else tva s (10 - (k + 1)) (k + 1) (n + 128 ^ k * (bt s k - 128))
    else none := by
  have e : 10 - k = (10 - (k + 1)) + 1 := by omega
  rw [e]
  rfl

theorem tva_end (s : ByteArray) (k : Nat) (n : Int) (h : s.size ≤ k ∨ 10 ≤ k) : tva s (10 - k) k n = none := by
  rcases Nat.lt_or_ge k 10 with h1 | h1
  · rw [tva_step s k n h1, if_neg (by omega)]
  · rw [show 10 - k = 0 by omega]; rfl

/-- 'n | x << (7 k)', where n has k groups. -/
theorem or_group (n x : Int) (k : Nat) (hk : k ≤ 9) (h0 : 0 ≤ n) (h1 : n < 128 ^ k) (hx0 : 0 ≤ x) (hx1 : x < 128) (h9 : k = 9 → x ≤ 1) : bits .or .u64 n (IntKind.u64.wrap (x * 2 ^ (7 * k))) = n + 128 ^ k * x := by
  have e : (128 : Int) ^ k = 2 ^ (7 * k) := by rw [Int.pow_mul]; rfl
  have hb : n + 2 ^ (7 * k) * x < 18446744073709551616 := by
    rw [e] at h1
    rcases Nat.lt_or_ge k 9 with h | h
    · have : k = 0 ∨ k = 1 ∨ k = 2 ∨ k = 3 ∨ k = 4 ∨ k = 5 ∨ k = 6 ∨ k = 7 ∨ k = 8 := by omega
      rcases this with rfl | rfl | rfl | rfl | rfl | rfl | rfl | rfl | rfl <;> omega
    · obtain rfl : k = 9 := by omega
      have := h9 rfl
      omega
  have hp : 0 ≤ (2 : Int) ^ (7 * k) * x := Int.mul_nonneg (Int.pow_nonneg (by omega)) hx0
  rw [Int.mul_comm x, IntKind.wrap_u64, Int.emod_eq_of_lt hp (by omega), or_u64 n x (7 * k) h0 (by rw [← e]; exact h1) hx0 hb, e]

theorem group_lt (n x : Int) (k : Nat) (h1 : n < 128 ^ k) (hx1 : x ≤ 127) : n + 128 ^ k * x < 128 ^ (k + 1) := by
  have hp : (0 : Int) < 128 ^ k := Int.pow_pos (by omega)
  have : (128 : Int) ^ k * x ≤ 128 ^ k * 127 := Int.mul_le_mul_of_nonneg_left hx1 (by omega)
  rw [Int.pow_succ]
  omega
theorem group_nonneg (n x : Int) (k : Nat) (h0 : 0 ≤ n) (hx0 : 0 ≤ x) : 0 ≤ n + 128 ^ k * x := by
  have hp : (0 : Int) ≤ 128 ^ k * x := Int.mul_nonneg (Int.pow_nonneg (by omega)) hx0
  omega

set_option maxHeartbeats 1000000 in
set_option maxRecDepth 100000 in
theorem spec_TakeVar (s : ByteArray) (hs : s.size ≤ maxLen) (w : World) :
    Calls Try.prog 99 #[.string s] w fun e w' => e = .returned (takeVar s) ∧ Below w.heap.size w w' := by
  unfold maxLen at hs
  go_enter Try.func99, Try.ntmps99
  go_wp2
  go_loop [5, 6] (fun x i => ∃ (k : Nat) (n : Int), x = .int .u64 n ∧ i = .int .i64 k ∧ k ≤ s.size ∧ k ≤ 10 ∧ 0 ≤ n ∧ n < 128 ^ k ∧ Hid (tva s 10 0 0 = tva s (10 - k) k n))
    (fun _ i => 10 - (intOf i).toNat)
  case atStart => exact ⟨0, 0, rfl, rfl, by omega, by omega, by omega, by omega, rfl⟩
  case round =>
    obtain ⟨k, n, rfl, rfl, hk, hk9, hn0, hn1, HT⟩ := hrel
    by_cases hin : k < s.size ∧ k < 10
    · obtain ⟨hin, h10⟩ := hin
      have hstep := tva_step s k n h10
      rw [← HT.out, if_pos hin] at hstep
      obtain ⟨b, hb⟩ : ∃ b, (((s[k]'hin).toNat : Nat) : Int) = b := ⟨_, rfl⟩
      have hb' : bt s k = b := by rw [← bt_of s k hin]; exact hb
      have hbb := bt_bd s k
      rw [hb'] at hstep hbb
      obtain ⟨hb0, hb1⟩ := hbb
      have Hn1 : Hid (n < 128 ^ k) := hn1
      clear hb' hn1
      by_cases h9 : k = 9 ∧ 1 < b
      · obtain ⟨rfl, h9b⟩ := h9
        rw [if_pos ⟨rfl, h9b⟩] at hstep
        have HS : Hid (tva s 10 0 0 = none) := hstep
        clear hstep
        go_wp2
        go_ret3
        exact ⟨ret_take_none HS.out, Below.refl _ _⟩
      · rw [if_neg h9] at hstep
        by_cases hlt : b < 128
        · rw [if_pos hlt] at hstep
          by_cases hz : 0 < k ∧ b = 0
          · rw [if_pos hz] at hstep
            obtain ⟨hz1, rfl⟩ := hz
            have HS : Hid (tva s 10 0 0 = none) := hstep
            clear hstep h9
            by_cases h99 : k = 9
            · subst h99
              go_wp2
              go_ret3
              exact ⟨ret_take_none HS.out, Below.refl _ _⟩
            · have hk8 : (k : Int) < 9 := by omega
              clear h99
              go_wp2
              go_ret3
              exact ⟨ret_take_none HS.out, Below.refl _ _⟩
          · rw [if_neg hz] at hstep
            have HS : Hid (tva s 10 0 0 = some (n + 128 ^ k * b, k + 1)) := hstep
            have HO : Hid (bits .or .u64 n (IntKind.u64.wrap (b % 128 * 2 ^ (7 * k))) = n + 128 ^ k * b) := by
              rw [show b % 128 = b by omega]; exact or_group n b k (by omega) hn0 Hn1.out hb0 hlt (fun h => by omega)
            have hk1 : (k : Int) + 1 ≤ (s.size : Int) := by omega
            clear hstep
            rcases Nat.eq_zero_or_pos k with rfl | hkp
            · clear h9 hz
              go_wp2
              go_quiet (fail)
              go_wp2
              go_ret3
              exact ⟨ret_take_some HS.out (by rw [← HO.out]; congr 1; rw [IntKind.wrap_u64]; simp; omega), below_drewN (Below.refl _ _) _⟩
            · have hbz : (b == 0) = false := by simp; omega
              by_cases h99 : k = 9
              · subst h99
                have hb2 : ¬ (1 < b) := by omega
                clear h9 hz
                go_wp2
                go_quiet (fail)
                go_wp2
                go_ret3
                exact ⟨ret_take_some HS.out (by rw [← HO.out]; congr 1; rw [IntKind.wrap_u64]; simp; omega), below_drewN (Below.refl _ _) _⟩
              · have hk8 : (k : Int) < 9 := by omega
                clear h9 hz h99
                go_wp2
                go_quiet (fail)
                go_wp2
                go_ret3
                exact ⟨ret_take_some HS.out HO.out, below_drewN (Below.refl _ _) _⟩
        · rw [if_neg hlt] at hstep
          have HS : Hid (tva s 10 0 0 = tva s (10 - (k + 1)) (k + 1) (n + 128 ^ k * (b - 128))) := hstep
          have HO : Hid (bits .or .u64 n (IntKind.u64.wrap (b % 128 * 2 ^ (7 * k))) = n + 128 ^ k * (b - 128)) := by
            rw [show b % 128 = b - 128 by omega]; exact or_group n (b - 128) k (by omega) hn0 Hn1.out (by omega) (by omega) (fun h => by omega)
          have hk8 : (k : Int) < 9 := by omega
          clear hstep h9
          go_wp2
          go_round
          case rel => exact ⟨k + 1, n + 128 ^ k * (b - 128), by rw [HO.out], by go_num, by omega, by omega, group_nonneg _ _ _ hn0 (by omega), group_lt _ _ _ Hn1.out (by omega), HS⟩
          case measure => simp [intOf]; omega
    · have HS : Hid (tva s 10 0 0 = none) := by
        have := tva_end s k n (by omega)
        rw [← HT.out] at this; exact this
      by_cases hx : k < s.size
      · have hx2 : ¬ ((k : Int) < 10) := by omega
        clear hin
        go_wp2
        go_ret3
        exact ⟨ret_take_none HS.out, Below.refl _ _⟩
      · clear hin
        go_wp2
        go_ret3
        exact ⟨ret_take_none HS.out, Below.refl _ _⟩

def varAt (s : ByteArray) : Value :=
  match tva s 10 0 0 with
  | none => .tuple #[.int .u64 0, .int .i64 0]
  | some (n, k) => .tuple #[.int .u64 n, .int .i64 k]

theorem ret_var_none {s : ByteArray} (h : tva s 10 0 0 = none) : Ending.returned (.tuple #[.int .u64 0, .int .i64 0]) = .returned (varAt s) := by
  rw [varAt, h]
theorem ret_var_some {s : ByteArray} {n : Int} {k : Nat} (h : tva s 10 0 0 = some (n, k)) {m i : Int} (hm : m = n) (hi : i = k) : Ending.returned (.tuple #[.int .u64 m, .int .i64 i]) = .returned (varAt s) := by
  rw [varAt, h, hm, hi]

theorem and127_fin : ∀ a : Fin 256, (a.val &&& 127) = a.val % 128 := by decide +kernel
theorem and127 (b : Int) (h0 : 0 ≤ b) (h1 : b ≤ 255) : bits .and .u8 b 127 = b % 128 := by
  rw [u8_and b 127 (by omega) (by omega) (by omega) (by omega)]
  have := and127_fin ⟨b.toNat, by omega⟩
  simp only at this
  rw [show (127 : Int).toNat = 127 from rfl, this]
  omega

set_option maxHeartbeats 1000000 in
set_option maxRecDepth 100000 in
theorem impl_varAt_x (s : ByteArray) (hs : s.size ≤ maxLen) (w : World) :
    Calls Try.prog 87 #[.string s] w fun e w' => e = .returned (varAt s) ∧ w = w' := by
  unfold maxLen at hs
  obtain ⟨M, hM⟩ : ∃ M, min (s.size : Int) 10 = M := ⟨_, rfl⟩
  have hM1 : M ≤ (s.size : Int) := by omega
  have hM2 : M ≤ 10 := by omega
  have hM0 : 0 ≤ M := by omega
  have hM3 : Hid (M = s.size ∨ M = 10) := by
    rw [← hM]
    rcases Int.le_total (s.size : Int) 10 with h | h
    · exact Or.inl (Int.min_eq_left h)
    · exact Or.inr (Int.min_eq_right h)
  go_enter Try.func87, Try.ntmps87
  go_wp2
  clear hM
  go_loop [4, 10] (fun x i => ∃ (k : Nat) (n : Int), x = .int .u64 n ∧ i = .int .i64 k ∧ (k : Int) ≤ M ∧ (k ≤ 9 → 0 ≤ n ∧ n < 128 ^ k) ∧ Hid (tva s 10 0 0 = tva s (10 - k) k n))
    (fun _ i => 10 - (intOf i).toNat)
  case atStart => exact ⟨0, 0, rfl, rfl, by omega, fun _ => ⟨by omega, by omega⟩, rfl⟩
  case round =>
    obtain ⟨k, n, rfl, rfl, hk, hn1, HT⟩ := hrel
    by_cases hin : (k : Int) < M
    · have hin' : k < s.size := by omega
      have h10 : k < 10 := by omega
      have hstep := tva_step s k n h10
      rw [← HT.out, if_pos hin'] at hstep
      obtain ⟨b, hb⟩ : ∃ b, (((s[k]'hin').toNat : Nat) : Int) = b := ⟨_, rfl⟩
      have hb' : bt s k = b := by rw [← bt_of s k hin']; exact hb
      have hbb := bt_bd s k
      rw [hb'] at hstep hbb
      obtain ⟨hb0, hb1⟩ := hbb
      obtain ⟨hn0, Hn⟩ := hn1 (by omega)
      have Hn1 : Hid (n < 128 ^ k) := Hn
      clear Hn
      have ha := and127 b hb0 hb1
      clear hb' hn1
      by_cases h9 : k = 9 ∧ 1 < b % 128
      · obtain ⟨rfl, h9b⟩ := h9
        rw [if_pos ⟨rfl, by omega⟩] at hstep
        have HS : Hid (tva s 10 0 0 = none) := hstep
        clear hstep
        go_wp2
        go_ret2
        exact ⟨ret_var_none HS.out, rfl⟩
      · by_cases hlt : b < 128
        · rw [if_neg (by omega), if_pos hlt] at hstep
          have hmod : b % 128 = b := by omega
          rw [hmod] at ha h9
          clear hmod
          by_cases hz : 0 < k ∧ b = 0
          · rw [if_pos hz] at hstep
            obtain ⟨hz1, rfl⟩ := hz
            have HS : Hid (tva s 10 0 0 = none) := hstep
            clear hstep h9
            by_cases h99 : k = 9
            · subst h99
              go_wp2
              go_ret2
              exact ⟨ret_var_none HS.out, rfl⟩
            · have hk8 : (k : Int) < 9 := by omega
              clear h99
              go_wp2
              go_ret2
              exact ⟨ret_var_none HS.out, rfl⟩
          · rw [if_neg hz] at hstep
            have HS : Hid (tva s 10 0 0 = some (n + 128 ^ k * b, k + 1)) := hstep
            have HO : Hid (bits .or .u64 n (IntKind.u64.wrap (b * 2 ^ (7 * k))) = n + 128 ^ k * b) :=
              or_group n b k (by omega) hn0 Hn1.out hb0 hlt (fun h => by omega)
            clear hstep
            rcases Nat.eq_zero_or_pos k with rfl | hkp
            · have hbz : (b == 0) = (b == 0) := rfl
              clear h9 hz
              go_wp2
              all_goals go_ret2
              all_goals exact ⟨ret_var_some HS.out (by rw [← HO.out]; congr 1; rw [IntKind.wrap_u64]; simp; omega) rfl, rfl⟩
            · have hbz : (b == 0) = false := by simp; omega
              by_cases h99 : k = 9
              · subst h99
                have hb2 : ¬ (1 < b) := by omega
                clear h9 hz
                go_wp2
                go_ret2
                exact ⟨ret_var_some HS.out (by rw [← HO.out]; congr 1; rw [IntKind.wrap_u64]; simp; omega) rfl, rfl⟩
              · have hk8 : (k : Int) < 9 := by omega
                clear h9 hz h99
                go_wp2
                go_ret2
                exact ⟨ret_var_some HS.out HO.out rfl, rfl⟩
        · have hmod : b % 128 = b - 128 := by omega
          rw [hmod] at ha h9
          clear hmod
          by_cases h99 : k = 9
          · subst h99
            have HS : Hid (tva s 10 0 0 = none) := by
              by_cases hb1' : 1 < b
              · rw [if_pos ⟨rfl, hb1'⟩] at hstep; exact hstep
              · omega
            have hb2 : ¬ (1 < b - 128) := by omega
            have hb3 : 0 ≤ b - 128 := by omega
            clear h9 hstep
            go_wp2
            go_round
            case rel => exact ⟨10, _, rfl, by go_num, by omega, fun h => absurd h (by omega), HS⟩
            case measure => simp [intOf]
          · rw [if_neg (by omega), if_neg hlt] at hstep
            have HS : Hid (tva s 10 0 0 = tva s (10 - (k + 1)) (k + 1) (n + 128 ^ k * (b - 128))) := hstep
            have HO : Hid (bits .or .u64 n (IntKind.u64.wrap ((b - 128) * 2 ^ (7 * k))) = n + 128 ^ k * (b - 128)) :=
              or_group n (b - 128) k (by omega) hn0 Hn1.out (by omega) (by omega) (fun h => by omega)
            have hk8 : (k : Int) < 9 := by omega
            have hb3 : 0 ≤ b - 128 := by omega
            clear h9 h99 hstep
            go_wp2
            go_round
            case rel => exact ⟨k + 1, n + 128 ^ k * (b - 128), by rw [HO.out], by go_num, by omega, fun _ => ⟨group_nonneg _ _ _ hn0 (by omega), group_lt _ _ _ Hn1.out (by omega)⟩, HS⟩
            case measure => simp [intOf]; omega
    · have HS : Hid (tva s 10 0 0 = none) := by
        have := tva_end s k n (by have := hM3.out; omega)
        rw [← HT.out] at this; exact this
      clear hn1
      go_wp2
      go_ret2
      exact ⟨ret_var_none HS.out, rfl⟩

theorem impl_varAt (s : ByteArray) (hs : s.size ≤ maxLen) (w : World) :
    Calls Try.prog 87 #[.string s] w fun e w' => e = .returned (varAt s) ∧ Below w.heap.size w w' :=
  (impl_varAt_x s hs w).mono fun _ _ h => ⟨h.1, h.2 ▸ Below.refl _ _⟩

theorem tva_le (s : ByteArray) : ∀ (f i : Nat) (n : Int) {m : Int} {k : Nat}, tva s f i n = some (m, k) → 0 < k ∧ k ≤ s.size
  | 0, _, _, _, _, h => by simp [tva] at h
  | f + 1, i, n, m, k, h => by
    unfold tva at h
    split at h
    · split at h
      · cases h
      · split at h
        · split at h
          · cases h
          · simp only [Option.some.injEq, Prod.mk.injEq] at h
            omega
        · exact tva_le s f _ _ h
    · cases h

end Go.Proofs.Ytplemoedpdammaa
