/- The bits of a user in a filter of bits: where they lie, in the program and in the model. -/
import Derived.Test.YtonkjdjancnajacHash
import Derived.Test.YtonkjdjancnajacFilter
namespace Go.Proofs.Ytonkjdjancnajac
set_option maxRecDepth 100000
open Go.RowKit

/-- h with its upper and lower bits exchanged. -/
def rot31 (h : Int) : Int := bits .or .u64 (IntKind.u64.wrap (h * 2147483648)) (h / 8589934592)

def probeAt (user : ByteArray) (k : Nat) : Int := (hash 0 user + k * rot31 (hash 0 user)) % 18446744073709551616

theorem or_u64_bd2 (a b : Int) (h0 : 0 ≤ a) (h1 : a ≤ 18446744073709551615) (h2 : 0 ≤ b) (h3 : b ≤ 18446744073709551615) : 0 ≤ bits .or .u64 a b ∧ bits .or .u64 a b ≤ 18446744073709551615 := by
  rw [u64_or a b h0 (by omega) h2 (by omega)]
  have : a.toNat ||| b.toNat < 2 ^ 64 := Nat.or_lt_two_pow (by omega) (by omega)
  omega

theorem or_u64_comm (a b : Int) (h0 : 0 ≤ a) (h1 : a ≤ 18446744073709551615) (h2 : 0 ≤ b) (h3 : b ≤ 18446744073709551615) : bits .or .u64 a b = bits .or .u64 b a := by
  rw [u64_or a b h0 (by omega) h2 (by omega), u64_or b a h2 (by omega) h0 (by omega), Nat.or_comm]

theorem rot31_bd (h : Int) (h0 : 0 ≤ h) (h1 : h ≤ 18446744073709551615) : 0 ≤ rot31 h ∧ rot31 h ≤ 18446744073709551615 := by
  have := wrap_u64_bd (h * 2147483648)
  exact or_u64_bd2 _ _ this.1 this.2 (by omega) (by omega)

theorem probe_zero (user : ByteArray) : probeAt user 0 = hash 0 user := by
  have := hash_bd 0 user
  unfold probeAt
  simp only [Int.natCast_zero, Int.zero_mul, Int.add_zero]
  omega

theorem probe_succ (user : ByteArray) (k : Nat) : IntKind.u64.wrap (probeAt user k + rot31 (hash 0 user)) = probeAt user (k + 1) := by
  rw [IntKind.wrap_u64]
  unfold probeAt
  rw [Int.emod_add_emod]
  congr 1
  rw [Int.natCast_add, Int.add_mul, Int.add_assoc]
  simp

theorem probe_bd (user : ByteArray) (k : Nat) : 0 ≤ probeAt user k ∧ probeAt user k ≤ 18446744073709551615 := by
  unfold probeAt; omega

theorem probe_spec (user : ByteArray) (k : Nat) : IntKind.u64.wrap (hash 0 user + IntKind.u64.wrap (k * rot31 (hash 0 user))) = probeAt user k := by
  rw [IntKind.wrap_u64, IntKind.wrap_u64]
  unfold probeAt
  rw [Int.add_emod_emod]

theorem spec_l3Place (user : ByteArray) (k : Nat) (n : Int) (hu : user.size ≤ maxLen) (hk : k ≤ 100) (hn : 1 ≤ n) (hn2 : n ≤ 1000000000000) (w : World) :
    Calls Try.prog 76 #[.string user, .int .i64 k, .int .u64 n] w fun e w' => e = .returned (.int .u64 (probeAt user k % n)) ∧ w = w' := by
  have hb := hash_bd 0 user
  have hp := probe_spec user k
  have hro : bits .or .u64 (hash 0 user / 8589934592) (IntKind.u64.wrap (hash 0 user * 2147483648)) = rot31 (hash 0 user) := by
    have := wrap_u64_bd (hash 0 user * 2147483648)
    exact or_u64_comm _ _ (by omega) (by omega) this.1 this.2
  obtain ⟨h, hh⟩ : ∃ h, hash 0 user = h := ⟨_, rfl⟩
  rw [hh] at hb hp hro
  obtain ⟨p, hpp⟩ : ∃ p, probeAt user k = p := ⟨_, rfl⟩
  have hpb := probe_bd user k
  rw [hpp] at hp hpb ⊢
  clear hpp
  obtain ⟨g, hg⟩ : ∃ g, rot31 h = g := ⟨_, rfl⟩
  have hgb := rot31_bd h hb.1 hb.2
  rw [hg] at hp hro hgb
  clear hg
  have hn3 : (n == 0) = false := by simp; omega
  go_enter Try.func76, Try.ntmps76
  go_wp2_with (go_at_call 78; refine (spec_Hash 0 user hu (by omega) (by omega) _).mono ?_; rintro e w' ⟨rfl, rfl⟩)
  go_ret
  exact ⟨rfl, rfl⟩



end Go.Proofs.Ytonkjdjancnajac
