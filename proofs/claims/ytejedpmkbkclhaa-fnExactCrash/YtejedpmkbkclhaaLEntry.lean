/- The law on EntryOk. -/
import Derived.Test.YtejedpmkbkclhaaEntry
namespace Go.Proofs.Ytejedpmkbkclhaa
set_option maxRecDepth 100000
open Go.RowKit

def IsEntry (x : Value) : Prop := ∃ (u : ByteArray) (q k : Int) (v : ByteArray), x = .agg #[.string u, .int .i64 q, .int .i64 k, .string v] ∧ u.size ≤ maxLen ∧ v.size ≤ maxLen

end Go.Proofs.Ytejedpmkbkclhaa
