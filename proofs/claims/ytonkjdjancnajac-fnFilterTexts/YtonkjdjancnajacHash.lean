/- Hash, of the program and of the model. -/
import Derived.Test.YtonkjdjancnajacRows
import Derived.Test.YtonkjdjancnajacBase
namespace Go.Proofs.Ytonkjdjancnajac
set_option maxRecDepth 100000
open Go.RowKit

def hst (h b : Int) : Int := IntKind.u64.wrap (bits .xor .u64 h b * 1099511628211)
def hfold (l : List UInt8) (h : Int) : Int := l.foldl (fun h b => hst h (b.toNat : Int)) h
def hini (seed : Int) : Int := bits .xor .u64 14695981039346656037 (IntKind.u64.wrap (seed * 11400714819323198485))
def hfinA (h : Int) : Int := IntKind.u64.wrap (bits .xor .u64 h (h / 1073741824) * 13787848793156543929)
def hfinB (h : Int) : Int := IntKind.u64.wrap (bits .xor .u64 h (h / 134217728) * 10723151780598845931)
def hfinC (h : Int) : Int := bits .xor .u64 h (h / 2147483648)
def hash (seed : Int) (s : ByteArray) : Int := hfinC (hfinB (hfinA (hfold s.data.toList (hini seed))))

theorem hdrop_at (s : ByteArray) (k : Nat) (h : k < s.size) : s.data.toList.drop k = s[k] :: s.data.toList.drop (k + 1) := by
  rw [List.drop_eq_getElem_cons (by simpa using h)]; rfl

theorem hdrop_end (s : ByteArray) (k : Nat) (h : s.size ≤ k) : s.data.toList.drop k = [] := List.drop_of_length_le (by simpa using h)

theorem xor_u64_bd (a b : Int) (h0 : 0 ≤ a) (h1 : a ≤ 18446744073709551615) (h2 : 0 ≤ b) (h3 : b ≤ 18446744073709551615) : 0 ≤ bits .xor .u64 a b ∧ bits .xor .u64 a b ≤ 18446744073709551615 := by
  rw [u64_xor a b h0 (by omega) h2 (by omega)]
  have : a.toNat ^^^ b.toNat < 2 ^ 64 := Nat.xor_lt_two_pow (by omega) (by omega)
  omega

theorem wrap_u64_bd (a : Int) : 0 ≤ IntKind.u64.wrap a ∧ IntKind.u64.wrap a ≤ 18446744073709551615 := by
  rw [IntKind.wrap_u64]; omega

theorem hst_bd (h b : Int) : 0 ≤ hst h b ∧ hst h b ≤ 18446744073709551615 := wrap_u64_bd _
theorem hini_bd (s : Int) : 0 ≤ hini s ∧ hini s ≤ 18446744073709551615 := by
  have := wrap_u64_bd (s * 11400714819323198485)
  exact xor_u64_bd _ _ (by omega) (by omega) this.1 this.2

theorem hash_bd (seed : Int) (s : ByteArray) : 0 ≤ hash seed s ∧ hash seed s ≤ 18446744073709551615 := by
  have := wrap_u64_bd (bits .xor .u64 (hfinA (hfold s.data.toList (hini seed))) (hfinA (hfold s.data.toList (hini seed)) / 134217728) * 10723151780598845931)
  exact xor_u64_bd _ _ this.1 this.2 (by show 0 ≤ IntKind.u64.wrap _ / _; omega) (by show IntKind.u64.wrap _ / _ ≤ _; omega)

set_option maxHeartbeats 1000000 in
theorem spec_Hash (seed : Int) (s : ByteArray) (hs : s.size ≤ maxLen) (h0 : 0 ≤ seed) (h1 : seed ≤ 4294967295) (w : World) :
    Calls Try.prog 78 #[.int .u32 seed, .string s] w fun e w' => e = .returned (.int .u64 (hash seed s)) ∧ w = w' := by
  unfold maxLen at hs
  have hi := hini_bd seed
  go_enter Try.func78, Try.ntmps78
  go_wp2
  go_loop [5, 6] (fun r i => ∃ (k : Nat) (d : Int), r = .int .u64 d ∧ i = .int .i64 k ∧ k ≤ s.size ∧ 0 ≤ d ∧ d ≤ 18446744073709551615 ∧ Hid (hfold s.data.toList (hini seed) = hfold (s.data.toList.drop k) d)) (fun _ i => s.size - (intOf i).toNat)
  case atStart => exact ⟨0, hini seed, rfl, rfl, by omega, hi.1, hi.2, rfl⟩
  case round =>
    obtain ⟨k, d, rfl, rfl, hk, hd0, hd1, HT⟩ := hrel
    by_cases hlt : k < s.size
    · have HT2 := HT.out
      rw [hdrop_at s k hlt] at HT2
      obtain ⟨b, hb⟩ : ∃ b, (((s[k]'hlt).toNat : Nat) : Int) = b := ⟨_, rfl⟩
      have hbb := bt_bd s k
      rw [← bt_of s k hlt, hb] at hbb
      have HT3 : Hid (hfold s.data.toList (hini seed) = hfold (s.data.toList.drop (k + 1)) (hst d b)) := by
        rw [← hb]; exact HT2
      have hcb := hst_bd d b
      clear HT2 HT
      go_wp2
      go_round
      case rel => exact ⟨k + 1, hst d b, rfl, by go_num, by omega, hcb.1, hcb.2, HT3⟩
      case measure => simp [intOf]; omega
    · have HT2 : Hid (hfold s.data.toList (hini seed) = d) := by
        have := HT.out
        rw [hdrop_end s k (by omega)] at this
        exact this
      go_wp2
      go_ret
      exact ⟨ret_int (by unfold hash; rw [HT2.out]; rfl), rfl⟩

end Go.Proofs.Ytonkjdjancnajac
