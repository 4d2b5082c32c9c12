/- The law FnFixed. -/
import Derived.Test.YtljmfdcilnbjaabDrawP1
import Derived.Test.YtljmfdcilnbjaabCanon
namespace Go.Proofs.Ytljmfdcilnbjaab
set_option maxRecDepth 100000
open Go.RowKit

theorem laws_big (a : Option Addr) (len cap : Nat) (hl : len ≤ maxLen) (w : World) :
    Calls Try.prog 4 #[.slice a len cap] w fun e w' => e = .returned (.bool (decide (1048576 < len))) ∧ w = w' := by
  unfold maxLen at hl
  by_cases h : 1048576 < len
  · have h' : (1048576 : Int) < (len : Int) := by omega
    go_enter Try.func4, Try.ntmps4
    go_wp2
    go_ret
    exact ⟨congrArg (fun b => Ending.returned (.bool b)) (decide_eq_true h).symm, rfl⟩
  · have h' : ¬ ((1048576 : Int) < (len : Int)) := by omega
    go_enter Try.func4, Try.ntmps4
    go_wp2
    go_ret
    exact ⟨rfl, rfl⟩

theorem takeText_parts (s : ByteArray) : ∃ a r b, takeText s = .tuple #[.string a, .string r, .bool b] := by
  unfold takeText
  split
  · exact ⟨_, _, _, rfl⟩
  · split <;> exact ⟨_, _, _, rfl⟩

theorem takeFixed_put (x : Int) (h0 : 0 ≤ x) (h1 : x < 4294967296) (r : ByteArray) : takeFixed (fx4 x ++ r) = .tuple #[.int .u32 x, .string r, .bool true] := by
  have hz := fx4_size x
  have he := extract_behind (fx4 x) r
  rw [hz] at he
  rw [takeFixed, if_neg (by rw [ByteArray.size_append]; omega), tf4_fx4 x h0 h1, he]

end Go.Proofs.Ytljmfdcilnbjaab
