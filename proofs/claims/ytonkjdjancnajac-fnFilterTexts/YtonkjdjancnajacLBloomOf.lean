/- The law on BloomOf. -/
import Derived.Test.YtonkjdjancnajacBloomOfS
namespace Go.Proofs.Ytonkjdjancnajac
set_option maxRecDepth 100000
open Go.RowKit Go.Deep

/-- A filter that BloomOf told, as its four fields. -/
theorem bloomV_form (S : Nat → ByteArray) (len : Nat) (per : Int) : ∃ (k s p : Int) (b : ByteArray) (ok : Bool), bloomV S len per = .tuple #[.agg #[.int .i64 k, .int .i64 s, .int .i64 p, .string b], .bool ok] := by
  by_cases h : usersB S len = true ∧ 1 ≤ per ∧ per ≤ 20
  · unfold bloomV; rw [if_pos h]; exact ⟨_, _, _, _, _, rfl⟩
  · rw [bloomV_no h]; exact ⟨_, _, _, _, _, rfl⟩

end Go.Proofs.Ytonkjdjancnajac
