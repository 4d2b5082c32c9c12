/- PutFixed answers as its model at every number of 32 bits, TakeFixed at every text of at most 2 to the 20 bytes (the law answers true beyond): number, rest and flag. No other condition. -/
import Derived.Test.YtmaajplngppkeaaFixed
namespace Go.Proofs.Ytmaajplngppkeaa
open Go.RowKit
theorem walk_PutFixed (x : Int) (_h : (Lit.int .u32 x).wf = true) (w : World) :
    Calls Try.prog 5 #[.int .u32 x] w fun e w' => e = .returned (.bool true) ∧ Below w.heap.size w w' := by
  go_enter Try.func5, Try.ntmps5
  go_wp2_with fail
  refine (spec_PutFixed x _).mono ?_
  rintro e w1 ⟨rfl, b1⟩
  go_wp2_with fail
  refine (impl_PutFixed x _).mono ?_
  rintro e w2 ⟨rfl, b2⟩
  go_wp2
  go_ret
  exact ⟨rfl, b1.trans (b2.mono b1.size)⟩
theorem walk_TakeFixed (s : ByteArray) (_h : s.size ≤ maxLen) (w : World) :
    Calls Try.prog 6 #[.string s] w fun e w' => e = .returned (.bool true) ∧ Below w.heap.size w w' := by
  by_cases hbig : (1048576 : Int) < (s.size : Int)
  · go_enter Try.func6, Try.ntmps6
    go_wp2
    go_ret
    exact ⟨rfl, Below.refl _ _⟩
  · by_cases h : 4 ≤ s.size
    · have e1 : takeFixed s = .tuple #[.int .u32 (tf4 s), .string (s.extract 4 s.size), .bool true] := by rw [takeFixed, if_neg (by omega)]
      generalize tf4 s = x at e1
      generalize s.extract 4 s.size = r at e1
      go_enter Try.func6, Try.ntmps6
      go_wp2_with fail
      refine (spec_TakeFixed s _).mono ?_
      rintro e w1 ⟨rfl, b1⟩
      go_wp2_with fail
      refine (impl_TakeFixed s (by omega) _).mono ?_
      rintro e w2 ⟨rfl, b2⟩
      go_wp2
      go_ret
      exact ⟨rfl, b1.trans (b2.mono b1.size)⟩
    · have e1 : takeFixed s = .tuple #[.int .u32 0, .string ⟨#[]⟩, .bool false] := by rw [takeFixed, if_pos (by omega)]
      go_enter Try.func6, Try.ntmps6
      go_wp2_with fail
      refine (spec_TakeFixed s _).mono ?_
      rintro e w1 ⟨rfl, b1⟩
      go_wp2_with fail
      refine (impl_TakeFixed s (by omega) _).mono ?_
      rintro e w2 ⟨rfl, b2⟩
      go_wp2
      go_ret
      exact ⟨rfl, b1.trans (b2.mono b1.size)⟩
end Go.Proofs.Ytmaajplngppkeaa
