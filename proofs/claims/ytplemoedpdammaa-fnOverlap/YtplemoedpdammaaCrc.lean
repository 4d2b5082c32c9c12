/- Crc, of the program and of the model; what one step of the register does. -/
import Derived.Test.YtplemoedpdammaaRows
import Derived.Test.YtplemoedpdammaaBase
namespace Go.Proofs.Ytplemoedpdammaa
set_option maxRecDepth 100000
open Go.RowKit

/-- One move of the register by a bit. -/
def cst (c : Int) : Int := if c % 2 = 1 then bits .xor .u32 (c / 2) 2197175160 else c / 2
def cit : Nat → Int → Int
  | 0, c => c
  | n + 1, c => cit n (cst c)

theorem xor_u32_bd (a b : Int) (h0 : 0 ≤ a) (h1 : a ≤ 4294967295) (h2 : 0 ≤ b) (h3 : b ≤ 4294967295) : 0 ≤ bits .xor .u32 a b ∧ bits .xor .u32 a b ≤ 4294967295 := by
  rw [u32_xor a b h0 (by omega) h2 (by omega)]
  have : a.toNat ^^^ b.toNat < 2 ^ 32 := Nat.xor_lt_two_pow (by omega) (by omega)
  omega

theorem cst_bd (c : Int) (h0 : 0 ≤ c) (h1 : c ≤ 4294967295) : 0 ≤ cst c ∧ cst c ≤ 4294967295 := by
  unfold cst
  split
  · exact xor_u32_bd _ _ (by omega) (by omega) (by omega) (by omega)
  · omega

theorem cit_bd : ∀ (n : Nat) (c : Int), 0 ≤ c → c ≤ 4294967295 → 0 ≤ cit n c ∧ cit n c ≤ 4294967295
  | 0, _, h0, h1 => ⟨h0, h1⟩
  | n + 1, c, h0, h1 => cit_bd n (cst c) (cst_bd c h0 h1).1 (cst_bd c h0 h1).2

theorem and_one_u32 (c : Int) (h0 : 0 ≤ c) (h1 : c ≤ 4294967295) : bits .and .u32 c 1 = c % 2 := by
  rw [u32_and c 1 h0 (by omega) (by omega) (by omega)]
  rw [show (1 : Int).toNat = 1 from rfl, Nat.and_one_is_mod]
  omega

/-- The register behind bytes. -/
def cfold (l : List UInt8) (c : Int) : Int := l.foldl (fun c b => cit 8 (bits .xor .u32 c (b.toNat : Int))) c

def crc (s : ByteArray) : Int := bits .xor .u32 (cfold s.data.toList 4294967295) 4294967295

theorem drop_at (s : ByteArray) (k : Nat) (h : k < s.size) : s.data.toList.drop k = s[k] :: s.data.toList.drop (k + 1) := by
  rw [List.drop_eq_getElem_cons (by simpa using h)]; rfl

theorem drop_end (s : ByteArray) (k : Nat) (h : s.size ≤ k) : s.data.toList.drop k = [] := List.drop_of_length_le (by simpa using h)

theorem xor_u32_comm (a b : Int) (h0 : 0 ≤ a) (h1 : a ≤ 4294967295) (h2 : 0 ≤ b) (h3 : b ≤ 4294967295) : bits .xor .u32 a b = bits .xor .u32 b a := by
  rw [u32_xor a b h0 (by omega) h2 (by omega), u32_xor b a h2 (by omega) h0 (by omega), Nat.xor_comm]

set_option maxHeartbeats 400000 in
theorem impl_crcMoved (c : Int) (h0 : 0 ≤ c) (h1 : c ≤ 4294967295) (w : World) :
    Calls Try.prog 108 #[.int .u32 c] w fun e w' => e = .returned (.int .u32 (cit 8 c)) ∧ w = w' := by
  go_enter Try.func108, Try.ntmps108
  go_wp2
  go_loop [0, 4] (fun r i => ∃ (k : Nat) (d : Int), r = .int .u32 d ∧ i = .int .i64 k ∧ k ≤ 8 ∧ 0 ≤ d ∧ d ≤ 4294967295 ∧ Hid (cit 8 c = cit (8 - k) d)) (fun _ i => 8 - (intOf i).toNat)
  case atStart => exact ⟨0, c, rfl, rfl, by omega, h0, h1, rfl⟩
  case round =>
    obtain ⟨k, d, rfl, rfl, hk, hd0, hd1, HT⟩ := hrel
    by_cases hlt : k < 8
    · have ha := and_one_u32 d hd0 hd1
      have hbd := cst_bd d hd0 hd1
      have HT2 : Hid (cit 8 c = cit (8 - (k + 1)) (cst d)) := by
        have e : 8 - k = (8 - (k + 1)) + 1 := by omega
        have := HT.out
        rw [e] at this
        exact this
      by_cases hb : d % 2 = 1
      · have HS : Hid (cst d = bits .xor .u32 (d / 2) 2197175160) := by unfold Hid cst; rw [if_pos hb]
        go_wp2
        go_round
        case rel => exact ⟨k + 1, cst d, by rw [HS.out], by go_num, by omega, hbd.1, hbd.2, HT2⟩
        case measure => simp [intOf]; omega
      · have HS : Hid (cst d = d / 2) := by unfold Hid cst; rw [if_neg hb]
        have hb' : (d % 2 == 1) = false := by simp [hb]
        clear hb
        go_wp2
        go_round
        case rel => exact ⟨k + 1, cst d, by rw [HS.out], by go_num, by omega, hbd.1, hbd.2, HT2⟩
        case measure => simp [intOf]; omega
    · obtain rfl : k = 8 := by omega
      go_wp2
      go_ret
      exact ⟨ret_int HT.out.symm, rfl⟩

set_option maxHeartbeats 1000000 in
theorem impl_Crc (s : ByteArray) (hs : s.size ≤ maxLen) (w : World) :
    Calls Try.prog 84 #[.string s] w fun e w' => e = .returned (.int .u32 (crc s)) ∧ w = w' := by
  unfold maxLen at hs
  go_enter Try.func84, Try.ntmps84
  go_wp2
  go_loop [3, 7] (fun r i => ∃ (k : Nat) (d : Int), r = .int .u32 d ∧ i = .int .i64 k ∧ k ≤ s.size ∧ 0 ≤ d ∧ d ≤ 4294967295 ∧ Hid (cfold s.data.toList 4294967295 = cfold (s.data.toList.drop k) d)) (fun _ i => s.size - (intOf i).toNat)
  case atStart => exact ⟨0, 4294967295, rfl, rfl, by omega, by omega, by omega, rfl⟩
  case round =>
    obtain ⟨k, d, rfl, rfl, hk, hd0, hd1, HT⟩ := hrel
    by_cases hlt : k < s.size
    · have HT2 := HT.out
      rw [drop_at s k hlt] at HT2
      obtain ⟨b, hb⟩ : ∃ b, (((s[k]'hlt).toNat : Nat) : Int) = b := ⟨_, rfl⟩
      have hbb := bt_bd s k
      rw [← bt_of s k hlt, hb] at hbb
      have HT3 : Hid (cfold s.data.toList 4294967295 = cfold (s.data.toList.drop (k + 1)) (cit 8 (bits .xor .u32 d b))) := by
        rw [← hb]; exact HT2
      have hxb := xor_u32_bd d b hd0 hd1 hbb.1 (by omega)
      have hcb := cit_bd 8 _ hxb.1 hxb.2
      clear HT2
      go_wp2_with (go_at_call 108; refine (impl_crcMoved _ hxb.1 hxb.2 _).mono ?_; rintro e w' ⟨rfl, rfl⟩)
      go_round
      case rel => exact ⟨k + 1, _, rfl, by go_num, by omega, hcb.1, hcb.2, HT3⟩
      case measure => simp [intOf]; omega
    · have HT2 : Hid (cfold s.data.toList 4294967295 = d) := by
        have := HT.out
        rw [drop_end s k (by omega)] at this
        exact this
      go_wp2
      go_ret
      exact ⟨ret_int (by unfold crc; rw [HT2.out, xor_u32_comm d _ hd0 hd1 (by omega) (by omega)]; rfl), rfl⟩

set_option maxHeartbeats 1000000 in
theorem spec_Crc (s : ByteArray) (hs : s.size ≤ maxLen) (w : World) :
    Calls Try.prog 92 #[.string s] w fun e w' => e = .returned (.int .u32 (crc s)) ∧ w = w' := by
  unfold maxLen at hs
  go_enter Try.func92, Try.ntmps92
  go_wp2
  go_loop [3, 4] (fun r i => ∃ (k : Nat) (d : Int), r = .int .u32 d ∧ i = .int .i64 k ∧ k ≤ s.size ∧ 0 ≤ d ∧ d ≤ 4294967295 ∧ Hid (cfold s.data.toList 4294967295 = cfold (s.data.toList.drop k) d)) (fun _ i => s.size - (intOf i).toNat)
  case atStart => exact ⟨0, 4294967295, rfl, rfl, by omega, by omega, by omega, rfl⟩
  case round =>
    obtain ⟨k, d, rfl, rfl, hk, hd0, hd1, HT⟩ := hrel
    by_cases hlt : k < s.size
    · have HT2 := HT.out
      rw [drop_at s k hlt] at HT2
      obtain ⟨b, hb⟩ : ∃ b, (((s[k]'hlt).toNat : Nat) : Int) = b := ⟨_, rfl⟩
      have hbb := bt_bd s k
      rw [← bt_of s k hlt, hb] at hbb
      obtain ⟨x, hx⟩ : ∃ x, bits .xor .u32 d b = x := ⟨_, rfl⟩
      have hxb := xor_u32_bd d b hd0 hd1 hbb.1 (by omega)
      rw [hx] at hxb
      have HT3 : Hid (cfold s.data.toList 4294967295 = cfold (s.data.toList.drop (k + 1)) (cit 8 x)) := by
        rw [← hx, ← hb]; exact HT2
      clear HT2 HT
      go_wp2
      go_loop [3, 5] (fun r i => ∃ (j : Nat) (d : Int), r = .int .u32 d ∧ i = .int .i64 j ∧ j ≤ 8 ∧ 0 ≤ d ∧ d ≤ 4294967295 ∧ Hid (cit 8 x = cit (8 - j) d)) (fun _ i => 8 - (intOf i).toNat)
      case atStart => exact ⟨0, x, rfl, rfl, by omega, hxb.1, hxb.2, rfl⟩
      case round =>
        obtain ⟨j, d, rfl, rfl, hj, hd0, hd1, HT⟩ := hrel
        by_cases hlt : j < 8
        · have hbd := cst_bd d hd0 hd1
          have HT2 : Hid (cit 8 x = cit (8 - (j + 1)) (cst d)) := by
            have e : 8 - j = (8 - (j + 1)) + 1 := by omega
            have := HT.out
            rw [e] at this
            exact this
          by_cases hb : d % 2 = 1
          · have HS : Hid (cst d = bits .xor .u32 (d / 2) 2197175160) := by unfold Hid cst; rw [if_pos hb]
            go_wp2
            go_round
            case rel => exact ⟨j + 1, cst d, by rw [HS.out], by go_num, by omega, hbd.1, hbd.2, HT2⟩
            case measure => simp [intOf]; omega
          · have HS : Hid (cst d = d / 2) := by unfold Hid cst; rw [if_neg hb]
            have hb' : (d % 2 == 1) = false := by simp [hb]
            clear hb
            go_wp2
            go_round
            case rel => exact ⟨j + 1, cst d, by rw [HS.out], by go_num, by omega, hbd.1, hbd.2, HT2⟩
            case measure => simp [intOf]; omega
        · obtain rfl : j = 8 := by omega
          have HE : Hid (cit 8 x = d) := HT
          go_wp2
          go_round
          case rel => exact ⟨k + 1, d, rfl, by go_num, by omega, hd0, hd1, by rw [← HE.out]; exact HT3⟩
          case measure => simp [intOf]; omega
    · have HT2 : Hid (cfold s.data.toList 4294967295 = d) := by
        have := HT.out
        rw [drop_end s k (by omega)] at this
        exact this
      go_wp2
      go_ret
      exact ⟨ret_int (by unfold crc; rw [HT2.out]), rfl⟩

/-! ### No two registers come to one -/

theorem xor_cancel (a p : Nat) : (a ^^^ p) ^^^ p = a := by rw [Nat.xor_assoc, Nat.xor_self, Nat.xor_zero]

theorem xor_high (a p : Nat) (ha : a < 2 ^ 31) (hp : 2 ^ 31 ≤ p) : 2 ^ 31 ≤ a ^^^ p := by
  rcases Nat.lt_or_ge (a ^^^ p) (2 ^ 31) with h | h
  · have : (a ^^^ p) ^^^ a < 2 ^ 31 := Nat.xor_lt_two_pow h ha
    rw [Nat.xor_comm a p, xor_cancel] at this
    omega
  · exact h

theorem cst_inj (c d : Int) (hc0 : 0 ≤ c) (hc1 : c ≤ 4294967295) (hd0 : 0 ≤ d) (hd1 : d ≤ 4294967295) (h : cst c = cst d) : c = d := by
  have X : ∀ x : Int, 0 ≤ x → x ≤ 4294967295 → bits .xor .u32 (x / 2) 2197175160 = ((((x / 2).toNat ^^^ 2197175160 : Nat)) : Int) := fun x h0 h1 =>
    u32_xor (x / 2) 2197175160 (by omega) (by omega) (by omega) (by omega)
  have Hi : ∀ x : Int, 0 ≤ x → x ≤ 4294967295 → 2 ^ 31 ≤ (x / 2).toNat ^^^ 2197175160 := fun x h0 h1 => xor_high _ _ (by omega) (by omega)
  unfold cst at h
  by_cases h1 : c % 2 = 1 <;> by_cases h2 : d % 2 = 1
  · rw [if_pos h1, if_pos h2, X c hc0 hc1, X d hd0 hd1] at h
    have e : (c / 2).toNat = (d / 2).toNat := by
      rw [← xor_cancel (c / 2).toNat 2197175160, ← xor_cancel (d / 2).toNat 2197175160, Int.ofNat.inj h]
    omega
  · rw [if_pos h1, if_neg h2, X c hc0 hc1] at h
    have := Hi c hc0 hc1
    omega
  · rw [if_neg h1, if_pos h2, X d hd0 hd1] at h
    have := Hi d hd0 hd1
    omega
  · rw [if_neg h1, if_neg h2] at h
    omega

theorem cit_inj : ∀ (n : Nat) (c d : Int), 0 ≤ c → c ≤ 4294967295 → 0 ≤ d → d ≤ 4294967295 → cit n c = cit n d → c = d
  | 0, _, _, _, _, _, _, h => h
  | n + 1, c, d, hc0, hc1, hd0, hd1, h => by
    have hb := cst_bd c hc0 hc1
    have hb' := cst_bd d hd0 hd1
    exact cst_inj c d hc0 hc1 hd0 hd1 (cit_inj n _ _ hb.1 hb.2 hb'.1 hb'.2 h)

theorem xor_u32_inj (c d b : Int) (hc0 : 0 ≤ c) (hc1 : c ≤ 4294967295) (hd0 : 0 ≤ d) (hd1 : d ≤ 4294967295) (hb0 : 0 ≤ b) (hb1 : b ≤ 4294967295) (h : bits .xor .u32 c b = bits .xor .u32 d b) : c = d := by
  rw [u32_xor c b hc0 (by omega) hb0 (by omega), u32_xor d b hd0 (by omega) hb0 (by omega)] at h
  have e : c.toNat = d.toNat := by rw [← xor_cancel c.toNat b.toNat, ← xor_cancel d.toNat b.toNat, Int.ofNat.inj h]
  omega

theorem cfold_bd : ∀ (l : List UInt8) (c : Int), 0 ≤ c → c ≤ 4294967295 → 0 ≤ cfold l c ∧ cfold l c ≤ 4294967295
  | [], _, h0, h1 => ⟨h0, h1⟩
  | b :: l, c, h0, h1 => by
    have hb := UInt8.toNat_lt b
    have hx := xor_u32_bd c (b.toNat : Int) h0 h1 (by omega) (by omega)
    have hc := cit_bd 8 _ hx.1 hx.2
    exact cfold_bd l _ hc.1 hc.2

theorem cfold_inj : ∀ (l : List UInt8) (c d : Int), 0 ≤ c → c ≤ 4294967295 → 0 ≤ d → d ≤ 4294967295 → cfold l c = cfold l d → c = d
  | [], _, _, _, _, _, _, h => h
  | b :: l, c, d, hc0, hc1, hd0, hd1, h => by
    have hb := UInt8.toNat_lt b
    have hx := xor_u32_bd c (b.toNat : Int) hc0 hc1 (by omega) (by omega)
    have hy := xor_u32_bd d (b.toNat : Int) hd0 hd1 (by omega) (by omega)
    have h1 := cit_bd 8 _ hx.1 hx.2
    have h2 := cit_bd 8 _ hy.1 hy.2
    have e := cfold_inj l _ _ h1.1 h1.2 h2.1 h2.2 h
    exact xor_u32_inj c d _ hc0 hc1 hd0 hd1 (by omega) (by omega) (cit_inj 8 _ _ hx.1 hx.2 hy.1 hy.2 e)

/-- One byte another one: another sum. -/
theorem cfold_ne (p q : List UInt8) (x y : UInt8) (c : Int) (h0 : 0 ≤ c) (h1 : c ≤ 4294967295) (hxy : x ≠ y) : cfold (p ++ x :: q) c ≠ cfold (p ++ y :: q) c := by
  intro h
  unfold cfold at h
  rw [List.foldl_append, List.foldl_append] at h
  have hb := cfold_bd p c h0 h1
  obtain ⟨d, hd⟩ : ∃ d, cfold p c = d := ⟨_, rfl⟩
  rw [hd] at hb
  unfold cfold at hd
  rw [hd] at h
  have h' : cfold q (cit 8 (bits .xor .u32 d (x.toNat : Int))) = cfold q (cit 8 (bits .xor .u32 d (y.toNat : Int))) := h
  have hx := UInt8.toNat_lt x
  have hy := UInt8.toNat_lt y
  have b1 := xor_u32_bd d (x.toNat : Int) hb.1 hb.2 (by omega) (by omega)
  have b2 := xor_u32_bd d (y.toNat : Int) hb.1 hb.2 (by omega) (by omega)
  have c1 := cit_bd 8 _ b1.1 b1.2
  have c2 := cit_bd 8 _ b2.1 b2.2
  have e := cit_inj 8 _ _ b1.1 b1.2 b2.1 b2.2 (cfold_inj q _ _ c1.1 c1.2 c2.1 c2.2 h')
  rw [xor_u32_comm d _ hb.1 hb.2 (by omega) (by omega), xor_u32_comm d _ hb.1 hb.2 (by omega) (by omega)] at e
  have := xor_u32_inj _ _ d (by omega) (by omega) (by omega) (by omega) hb.1 hb.2 e
  exact hxy (UInt8.toNat_inj.1 (by omega))

end Go.Proofs.Ytplemoedpdammaa
