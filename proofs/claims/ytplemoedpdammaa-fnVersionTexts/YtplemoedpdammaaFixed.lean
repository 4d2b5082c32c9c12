/- PutFixed and TakeFixed, of the program and of the model. -/
import Derived.Test.YtplemoedpdammaaRows
import Derived.Test.YtplemoedpdammaaBase
import Derived.Test.YtplemoedpdammaaClone
namespace Go.Proofs.Ytplemoedpdammaa
set_option maxRecDepth 100000
open Go.RowKit

theorem spec_PutFixed (x : Int) (w : World) :
    Calls Try.prog 91 #[.int .u32 x] w fun e w' => e = .returned (.string (fx4 x)) ∧ Below w.heap.size w w' := by
  have hc := conv4 (P := Try.prog) 33 5 9 Try.underlying33 Try.underlying5 Try.underlying9 w
  go_enter Try.func91, Try.ntmps91
  go_wp2
  go_ret
  exact ⟨rfl, (Below.refl _ _).alloc (Nat.le_refl _) _⟩

theorem impl_PutFixed (x : Int) (w : World) :
    Calls Try.prog 83 #[.int .u32 x] w fun e w' => e = .returned (.string (fx4 x)) ∧ Below w.heap.size w w' := by
  have hc := conv4 (P := Try.prog) 33 5 9 Try.underlying33 Try.underlying5 Try.underlying9 w
  go_enter Try.func83, Try.ntmps83
  go_wp2
  go_ret
  exact ⟨rfl, (Below.refl _ _).alloc (Nat.le_refl _) _⟩

/-- What TakeFixed tells. -/
def takeFixed (s : ByteArray) : Value :=
  if s.size < 4 then .tuple #[.int .u32 0, .string ⟨#[]⟩, .bool false] else .tuple #[.int .u32 (tf4 s), .string (s.extract 4 s.size), .bool true]

theorem tf4_at (s : ByteArray) (h : 4 ≤ s.size) :
    bits .or .u32 (bits .or .u32 (bits .or .u32 ((((s[0]'(by omega)).toNat : Nat) : Int) % 4294967296) ((((s[1]'(by omega)).toNat : Nat) : Int) % 4294967296 * 256 % 4294967296)) ((((s[2]'(by omega)).toNat : Nat) : Int) % 4294967296 * 65536 % 4294967296)) ((((s[3]'(by omega)).toNat : Nat) : Int) % 4294967296 * 16777216 % 4294967296)
      = tf4 s := by
  rw [bt_of s 0 (by omega), bt_of s 1 (by omega), bt_of s 2 (by omega), bt_of s 3 (by omega), tf4_of _ _ _ _ (bt_bd s 0) (bt_bd s 1) (bt_bd s 2) (bt_bd s 3)]
  rfl

theorem ret_fixed (s : ByteArray) (h : 4 ≤ s.size) {a : Int} (ha : a = tf4 s) : Ending.returned (.tuple #[.int .u32 a, .string (s.extract 4 s.size), .bool true]) = .returned (takeFixed s) := by
  rw [ha, takeFixed, if_neg (by omega)]

theorem ret_fixed_no (s : ByteArray) (h : s.size < 4) : Ending.returned (.tuple #[.int .u32 0, .string ⟨#[]⟩, .bool false]) = .returned (takeFixed s) := by
  rw [takeFixed, if_pos h]

theorem spec_TakeFixed (s : ByteArray) (w : World) :
    Calls Try.prog 98 #[.string s] w fun e w' => e = .returned (takeFixed s) ∧ Below w.heap.size w w' := by
  by_cases h : 4 ≤ s.size
  · have h0 : 0 < s.size := by omega
    have h1 : (1 : Int) < (s.size : Int) := by omega
    have h2 : (2 : Int) < (s.size : Int) := by omega
    have h3 : (3 : Int) < (s.size : Int) := by omega
    have h4 : (4 : Int) ≤ (s.size : Int) := by omega
    have ht := tf4_at s h
    have HT : Hid _ := ht
    clear ht
    go_enter Try.func98, Try.ntmps98
    go_wp2
    go_quiet (fail)
    go_wp2
    go_ret3
    exact ⟨ret_fixed s h HT.out, below_drewN (Below.refl _ _) _⟩
  · go_enter Try.func98, Try.ntmps98
    go_wp2
    go_ret3
    exact ⟨ret_fixed_no s (by omega), Below.refl _ _⟩

/-- What fixedAt tells. -/
def fixedAt (s : ByteArray) : Value :=
  if s.size < 4 then .tuple #[.int .u32 0, .bool false] else .tuple #[.int .u32 (tf4 s), .bool true]

end Go.Proofs.Ytplemoedpdammaa
