/- EntryOk, of the program and of the model; the copies that the laws make of an entry. -/
import Derived.Test.YtejedpmkbkclhaaKeys
namespace Go.Proofs.Ytejedpmkbkclhaa
set_option maxRecDepth 100000
open Go.RowKit

def entryOkB (u : ByteArray) (q k : Int) (v : ByteArray) : Bool := keyOkB u q k && decide (v.size ≤ 200) && (decide (k = 1) || decide (v.size = 0))

theorem isEmpty_size (v : ByteArray) : v.toList.isEmpty = decide (v.size = 0) := by
  have h : v.size = v.data.toList.length := by rw [Array.length_toList]; rfl
  rw [ByteArray.toList_eq, h]
  cases v.data.toList <;> rfl

end Go.Proofs.Ytejedpmkbkclhaa
