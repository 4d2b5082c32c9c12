/- PutVar, TakeVar, PutText and TakeText answer as their models: PutVar at every number of 64 bits; the others at every text of at most 2 to the 20 bytes (beyond it the law answers true by itself). No other condition. -/
import Derived.Test.YtmaajplngppkeaaText
namespace Go.Proofs.Ytmaajplngppkeaa
open Go.RowKit
theorem takeVar_shape (s : ByteArray) : ∃ n r b, takeVar s = .tuple #[.int .u64 n, .string r, .bool b] := by
  unfold takeVar
  split <;> exact ⟨_, _, _, rfl⟩
theorem takeText_shape (s : ByteArray) : ∃ a r b, takeText s = .tuple #[.string a, .string r, .bool b] := by
  unfold takeText
  split
  · exact ⟨_, _, _, rfl⟩
  · split <;> exact ⟨_, _, _, rfl⟩
theorem walk_PutVar (n : Int) (h : (Lit.int .u64 n).wf = true) (w : World) :
    Calls Try.prog 3 #[.int .u64 n] w fun e w' => e = .returned (.bool true) ∧ Below w.heap.size w w' := by
  have hx : 0 ≤ n ∧ n < 18446744073709551616 := by
    simp [Lit.wf, IntKind.min, IntKind.max, IntKind.signed, IntKind.bits] at h; omega
  go_enter Try.func3, Try.ntmps3
  go_wp2_with fail
  refine (spec_PutVar n hx.1 hx.2 _).mono ?_
  rintro e w1 ⟨rfl, b1⟩
  go_wp2_with fail
  refine (calls_from b1 (impl_PutVar n hx.1 hx.2 _)).mono ?_
  clear b1
  rintro e w2 ⟨rfl, b1⟩
  go_wp2
  go_ret
  exact ⟨rfl, b1⟩
theorem walk_TakeVar (s : ByteArray) (_h : s.size ≤ maxLen) (w : World) :
    Calls Try.prog 4 #[.string s] w fun e w' => e = .returned (.bool true) ∧ Below w.heap.size w w' := by
  by_cases hbig : (1048576 : Int) < (s.size : Int)
  · go_enter Try.func4, Try.ntmps4
    go_wp2
    go_ret
    exact ⟨rfl, Below.refl _ _⟩
  · obtain ⟨n, r, b, hv⟩ := takeVar_shape s
    go_enter Try.func4, Try.ntmps4
    go_wp2_with fail
    refine (spec_TakeVar s _h _).mono ?_
    rintro e w1 ⟨rfl, b1⟩
    go_wp2_with fail
    refine (calls_from b1 (impl_TakeVar s (by omega) _)).mono ?_
    clear b1
    rintro e w2 ⟨rfl, b1⟩
    go_wp2
    go_ret
    exact ⟨rfl, b1⟩
theorem walk_PutText (s : ByteArray) (_h : s.size ≤ maxLen) (w : World) :
    Calls Try.prog 7 #[.string s] w fun e w' => e = .returned (.bool true) ∧ Below w.heap.size w w' := by
  by_cases hbig : (1048576 : Int) < (s.size : Int)
  · go_enter Try.func7, Try.ntmps7
    go_wp2
    go_ret
    exact ⟨rfl, Below.refl _ _⟩
  · skip
    go_enter Try.func7, Try.ntmps7
    go_wp2_with fail
    refine (spec_PutText s (by omega) _).mono ?_
    rintro e w1 ⟨rfl, b1⟩
    go_wp2_with fail
    refine (calls_from b1 (impl_PutText s (by omega) _)).mono ?_
    clear b1
    rintro e w2 ⟨rfl, b1⟩
    go_wp2
    go_ret
    exact ⟨rfl, b1⟩
theorem walk_TakeText (s : ByteArray) (_h : s.size ≤ maxLen) (w : World) :
    Calls Try.prog 8 #[.string s] w fun e w' => e = .returned (.bool true) ∧ Below w.heap.size w w' := by
  by_cases hbig : (1048576 : Int) < (s.size : Int)
  · go_enter Try.func8, Try.ntmps8
    go_wp2
    go_ret
    exact ⟨rfl, Below.refl _ _⟩
  · obtain ⟨n, r, b, hv⟩ := takeText_shape s
    go_enter Try.func8, Try.ntmps8
    go_wp2_with fail
    refine (spec_TakeText s (by omega) _).mono ?_
    rintro e w1 ⟨rfl, b1⟩
    go_wp2_with fail
    refine (calls_from b1 (impl_TakeText s (by omega) _)).mono ?_
    clear b1
    rintro e w2 ⟨rfl, b1⟩
    go_wp2
    go_ret
    exact ⟨rfl, b1⟩
end Go.Proofs.Ytmaajplngppkeaa
