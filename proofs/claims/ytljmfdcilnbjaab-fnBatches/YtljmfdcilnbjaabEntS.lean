/- BatchEntries of the model: the entries of the ops, put in one by one. -/
import Derived.Test.YtljmfdcilnbjaabL8Put
import Derived.Test.YtljmfdcilnbjaabBatchS
namespace Go.Proofs.Ytljmfdcilnbjaab
set_option maxRecDepth 100000
open Go.RowKit Go.Deep Go.Sort

theorem batchOk_key {q : Int} {len : Nat} {O : Ops} (h : batchOkB q len O = true) (i : Nat) (hi : i < len) : keyOkB (O.U i) (q + (i : Int)) (O.K i) = true := by
  have h' : entryOkB (O.U i) (q + (i : Int)) (O.K i) (O.X i) = true := (batchOk_out h).2 i hi
  unfold entryOkB at h'
  rw [Bool.and_eq_true, Bool.and_eq_true] at h'
  exact h'.1.1

end Go.Proofs.Ytljmfdcilnbjaab
