/- Crc, of the program and of the model; what one step of the register does. -/
import Derived.Test.YtplbhgcibfajaaaRows
import Derived.Test.YtplbhgcibfajaaaBase
namespace Go.Proofs.Ytplbhgcibfajaaa
set_option maxRecDepth 100000
open Go.RowKit

/-- One move of the register by a bit. -/
def cst (c : Int) : Int := if c % 2 = 1 then bits .xor .u32 (c / 2) 2197175160 else c / 2
def cit : Nat → Int → Int
  | 0, c => c
  | n + 1, c => cit n (cst c)

theorem xor_u32_bd (a b : Int) (h0 : 0 ≤ a) (h1 : a ≤ 4294967295) (h2 : 0 ≤ b) (h3 : b ≤ 4294967295) : 0 ≤ bits .xor .u32 a b ∧ bits .xor .u32 a b ≤ 4294967295 := by
  rw [u32_xor a b h0 (by omega) h2 (by omega)]
  have : a.toNat ^^^ b.toNat < 2 ^ 32 := Nat.xor_lt_two_pow (by omega) (by omega)
  omega

theorem cst_bd (c : Int) (h0 : 0 ≤ c) (h1 : c ≤ 4294967295) : 0 ≤ cst c ∧ cst c ≤ 4294967295 := by
  unfold cst
  split
  · exact xor_u32_bd _ _ (by omega) (by omega) (by omega) (by omega)
  · omega

theorem cit_bd : ∀ (n : Nat) (c : Int), 0 ≤ c → c ≤ 4294967295 → 0 ≤ cit n c ∧ cit n c ≤ 4294967295
  | 0, _, h0, h1 => ⟨h0, h1⟩
  | n + 1, c, h0, h1 => cit_bd n (cst c) (cst_bd c h0 h1).1 (cst_bd c h0 h1).2

theorem and_one_u32 (c : Int) (h0 : 0 ≤ c) (h1 : c ≤ 4294967295) : bits .and .u32 c 1 = c % 2 := by
  rw [u32_and c 1 h0 (by omega) (by omega) (by omega)]
  rw [show (1 : Int).toNat = 1 from rfl, Nat.and_one_is_mod]
  omega

/-- The register behind bytes. -/
def cfold (l : List UInt8) (c : Int) : Int := l.foldl (fun c b => cit 8 (bits .xor .u32 c (b.toNat : Int))) c

def crc (s : ByteArray) : Int := bits .xor .u32 (cfold s.data.toList 4294967295) 4294967295

theorem drop_at (s : ByteArray) (k : Nat) (h : k < s.size) : s.data.toList.drop k = s[k] :: s.data.toList.drop (k + 1) := by
  rw [List.drop_eq_getElem_cons (by simpa using h)]; rfl

theorem drop_end (s : ByteArray) (k : Nat) (h : s.size ≤ k) : s.data.toList.drop k = [] := List.drop_of_length_le (by simpa using h)

theorem xor_u32_comm (a b : Int) (h0 : 0 ≤ a) (h1 : a ≤ 4294967295) (h2 : 0 ≤ b) (h3 : b ≤ 4294967295) : bits .xor .u32 a b = bits .xor .u32 b a := by
  rw [u32_xor a b h0 (by omega) h2 (by omega), u32_xor b a h2 (by omega) h0 (by omega), Nat.xor_comm]

/-! ### No two registers come to one -/

theorem xor_cancel (a p : Nat) : (a ^^^ p) ^^^ p = a := by rw [Nat.xor_assoc, Nat.xor_self, Nat.xor_zero]

theorem xor_high (a p : Nat) (ha : a < 2 ^ 31) (hp : 2 ^ 31 ≤ p) : 2 ^ 31 ≤ a ^^^ p := by
  rcases Nat.lt_or_ge (a ^^^ p) (2 ^ 31) with h | h
  · have : (a ^^^ p) ^^^ a < 2 ^ 31 := Nat.xor_lt_two_pow h ha
    rw [Nat.xor_comm a p, xor_cancel] at this
    omega
  · exact h

theorem cst_inj (c d : Int) (hc0 : 0 ≤ c) (hc1 : c ≤ 4294967295) (hd0 : 0 ≤ d) (hd1 : d ≤ 4294967295) (h : cst c = cst d) : c = d := by
  have X : ∀ x : Int, 0 ≤ x → x ≤ 4294967295 → bits .xor .u32 (x / 2) 2197175160 = ((((x / 2).toNat ^^^ 2197175160 : Nat)) : Int) := fun x h0 h1 =>
    u32_xor (x / 2) 2197175160 (by omega) (by omega) (by omega) (by omega)
  have Hi : ∀ x : Int, 0 ≤ x → x ≤ 4294967295 → 2 ^ 31 ≤ (x / 2).toNat ^^^ 2197175160 := fun x h0 h1 => xor_high _ _ (by omega) (by omega)
  unfold cst at h
  by_cases h1 : c % 2 = 1 <;> by_cases h2 : d % 2 = 1
  · rw [if_pos h1, if_pos h2, X c hc0 hc1, X d hd0 hd1] at h
    have e : (c / 2).toNat = (d / 2).toNat := by
      rw [← xor_cancel (c / 2).toNat 2197175160, ← xor_cancel (d / 2).toNat 2197175160, Int.ofNat.inj h]
    omega
  · rw [if_pos h1, if_neg h2, X c hc0 hc1] at h
    have := Hi c hc0 hc1
    omega
  · rw [if_neg h1, if_pos h2, X d hd0 hd1] at h
    have := Hi d hd0 hd1
    omega
  · rw [if_neg h1, if_neg h2] at h
    omega

theorem cit_inj : ∀ (n : Nat) (c d : Int), 0 ≤ c → c ≤ 4294967295 → 0 ≤ d → d ≤ 4294967295 → cit n c = cit n d → c = d
  | 0, _, _, _, _, _, _, h => h
  | n + 1, c, d, hc0, hc1, hd0, hd1, h => by
    have hb := cst_bd c hc0 hc1
    have hb' := cst_bd d hd0 hd1
    exact cst_inj c d hc0 hc1 hd0 hd1 (cit_inj n _ _ hb.1 hb.2 hb'.1 hb'.2 h)

theorem xor_u32_inj (c d b : Int) (hc0 : 0 ≤ c) (hc1 : c ≤ 4294967295) (hd0 : 0 ≤ d) (hd1 : d ≤ 4294967295) (hb0 : 0 ≤ b) (hb1 : b ≤ 4294967295) (h : bits .xor .u32 c b = bits .xor .u32 d b) : c = d := by
  rw [u32_xor c b hc0 (by omega) hb0 (by omega), u32_xor d b hd0 (by omega) hb0 (by omega)] at h
  have e : c.toNat = d.toNat := by rw [← xor_cancel c.toNat b.toNat, ← xor_cancel d.toNat b.toNat, Int.ofNat.inj h]
  omega

theorem cfold_bd : ∀ (l : List UInt8) (c : Int), 0 ≤ c → c ≤ 4294967295 → 0 ≤ cfold l c ∧ cfold l c ≤ 4294967295
  | [], _, h0, h1 => ⟨h0, h1⟩
  | b :: l, c, h0, h1 => by
    have hb := UInt8.toNat_lt b
    have hx := xor_u32_bd c (b.toNat : Int) h0 h1 (by omega) (by omega)
    have hc := cit_bd 8 _ hx.1 hx.2
    exact cfold_bd l _ hc.1 hc.2

theorem cfold_inj : ∀ (l : List UInt8) (c d : Int), 0 ≤ c → c ≤ 4294967295 → 0 ≤ d → d ≤ 4294967295 → cfold l c = cfold l d → c = d
  | [], _, _, _, _, _, _, h => h
  | b :: l, c, d, hc0, hc1, hd0, hd1, h => by
    have hb := UInt8.toNat_lt b
    have hx := xor_u32_bd c (b.toNat : Int) hc0 hc1 (by omega) (by omega)
    have hy := xor_u32_bd d (b.toNat : Int) hd0 hd1 (by omega) (by omega)
    have h1 := cit_bd 8 _ hx.1 hx.2
    have h2 := cit_bd 8 _ hy.1 hy.2
    have e := cfold_inj l _ _ h1.1 h1.2 h2.1 h2.2 h
    exact xor_u32_inj c d _ hc0 hc1 hd0 hd1 (by omega) (by omega) (cit_inj 8 _ _ hx.1 hx.2 hy.1 hy.2 e)

/-- One byte another one: another sum. -/
theorem cfold_ne (p q : List UInt8) (x y : UInt8) (c : Int) (h0 : 0 ≤ c) (h1 : c ≤ 4294967295) (hxy : x ≠ y) : cfold (p ++ x :: q) c ≠ cfold (p ++ y :: q) c := by
  intro h
  unfold cfold at h
  rw [List.foldl_append, List.foldl_append] at h
  have hb := cfold_bd p c h0 h1
  obtain ⟨d, hd⟩ : ∃ d, cfold p c = d := ⟨_, rfl⟩
  rw [hd] at hb
  unfold cfold at hd
  rw [hd] at h
  have h' : cfold q (cit 8 (bits .xor .u32 d (x.toNat : Int))) = cfold q (cit 8 (bits .xor .u32 d (y.toNat : Int))) := h
  have hx := UInt8.toNat_lt x
  have hy := UInt8.toNat_lt y
  have b1 := xor_u32_bd d (x.toNat : Int) hb.1 hb.2 (by omega) (by omega)
  have b2 := xor_u32_bd d (y.toNat : Int) hb.1 hb.2 (by omega) (by omega)
  have c1 := cit_bd 8 _ b1.1 b1.2
  have c2 := cit_bd 8 _ b2.1 b2.2
  have e := cit_inj 8 _ _ b1.1 b1.2 b2.1 b2.2 (cfold_inj q _ _ c1.1 c1.2 c2.1 c2.2 h')
  rw [xor_u32_comm d _ hb.1 hb.2 (by omega) (by omega), xor_u32_comm d _ hb.1 hb.2 (by omega) (by omega)] at e
  have := xor_u32_inj _ _ d (by omega) (by omega) (by omega) (by omega) hb.1 hb.2 e
  exact hxy (UInt8.toNat_inj.1 (by omega))

end Go.Proofs.Ytplbhgcibfajaaa
