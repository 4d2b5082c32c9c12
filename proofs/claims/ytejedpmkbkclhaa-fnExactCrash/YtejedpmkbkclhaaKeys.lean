/- Keys: KeyOk of the program and of the model; the copies that the laws make. -/
import Derived.Test.YtejedpmkbkclhaaEntRow
import Derived.Test.YtejedpmkbkclhaaRows
import Derived.Test.YtejedpmkbkclhaaBase
namespace Go.Proofs.Ytejedpmkbkclhaa
set_option maxRecDepth 100000
open Go.RowKit

def keyOkB (u : ByteArray) (q k : Int) : Bool := decide (1 ≤ u.size ∧ u.size ≤ 40 ∧ 0 ≤ q ∧ q ≤ 1000000000000 ∧ 0 ≤ k ∧ k ≤ 1)

theorem keyOk_yes {u : ByteArray} {q k : Int} (h : 1 ≤ u.size ∧ u.size ≤ 40 ∧ 0 ≤ q ∧ q ≤ 1000000000000 ∧ 0 ≤ k ∧ k ≤ 1) : keyOkB u q k = true := decide_eq_true h
theorem keyOk_no {u : ByteArray} {q k : Int} (h : ¬ (1 ≤ u.size ∧ u.size ≤ 40 ∧ 0 ≤ q ∧ q ≤ 1000000000000 ∧ 0 ≤ k ∧ k ≤ 1)) : keyOkB u q k = false := decide_eq_false h
theorem keyOk_iff {u : ByteArray} {q k : Int} : keyOkB u q k = true ↔ (1 ≤ u.size ∧ u.size ≤ 40 ∧ 0 ≤ q ∧ q ≤ 1000000000000 ∧ 0 ≤ k ∧ k ≤ 1) := by simp [keyOkB]

theorem ret_bool {a b : Bool} (h : a = b) : Ending.returned (.bool a) = .returned (.bool b) := by rw [h]

def IsKey (v : Value) : Prop := ∃ (u : ByteArray) (q k : Int), v = .agg #[.string u, .int .i64 q, .int .i64 k] ∧ u.size ≤ maxLen ∧ (Lit.int .i64 q).wf = true ∧ (Lit.int .i64 k).wf = true

theorem wf_i64 {q : Int} (h : (Lit.int .i64 q).wf = true) : -9223372036854775808 ≤ q ∧ q ≤ 9223372036854775807 := by
  simpa [Lit.wf, IntKind.min, IntKind.max, IntKind.signed, IntKind.bits] using h

end Go.Proofs.Ytejedpmkbkclhaa
