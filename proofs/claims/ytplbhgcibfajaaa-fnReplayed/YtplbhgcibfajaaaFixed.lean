/- PutFixed and TakeFixed, of the program and of the model. -/
import Derived.Test.YtplbhgcibfajaaaRows
import Derived.Test.YtplbhgcibfajaaaBase
import Derived.Test.YtplbhgcibfajaaaClone
namespace Go.Proofs.Ytplbhgcibfajaaa
set_option maxRecDepth 100000
open Go.RowKit

/-- What TakeFixed tells. -/
def takeFixed (s : ByteArray) : Value :=
  if s.size < 4 then .tuple #[.int .u32 0, .string ⟨#[]⟩, .bool false] else .tuple #[.int .u32 (tf4 s), .string (s.extract 4 s.size), .bool true]

theorem tf4_at (s : ByteArray) (h : 4 ≤ s.size) :
    bits .or .u32 (bits .or .u32 (bits .or .u32 ((((s[0]'(by omega)).toNat : Nat) : Int) % 4294967296) ((((s[1]'(by omega)).toNat : Nat) : Int) % 4294967296 * 256 % 4294967296)) ((((s[2]'(by omega)).toNat : Nat) : Int) % 4294967296 * 65536 % 4294967296)) ((((s[3]'(by omega)).toNat : Nat) : Int) % 4294967296 * 16777216 % 4294967296)
      = tf4 s := by
  rw [bt_of s 0 (by omega), bt_of s 1 (by omega), bt_of s 2 (by omega), bt_of s 3 (by omega), tf4_of _ _ _ _ (bt_bd s 0) (bt_bd s 1) (bt_bd s 2) (bt_bd s 3)]
  rfl

theorem ret_fixed (s : ByteArray) (h : 4 ≤ s.size) {a : Int} (ha : a = tf4 s) : Ending.returned (.tuple #[.int .u32 a, .string (s.extract 4 s.size), .bool true]) = .returned (takeFixed s) := by
  rw [ha, takeFixed, if_neg (by omega)]

theorem ret_fixed_no (s : ByteArray) (h : s.size < 4) : Ending.returned (.tuple #[.int .u32 0, .string ⟨#[]⟩, .bool false]) = .returned (takeFixed s) := by
  rw [takeFixed, if_pos h]

/-- What fixedAt tells. -/
def fixedAt (s : ByteArray) : Value :=
  if s.size < 4 then .tuple #[.int .u32 0, .bool false] else .tuple #[.int .u32 (tf4 s), .bool true]

end Go.Proofs.Ytplbhgcibfajaaa
