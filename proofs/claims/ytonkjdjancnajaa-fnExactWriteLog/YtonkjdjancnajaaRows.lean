/-
  No cell of these rows narrows 'for every input' (looked for: loops, veiled, ifaces, maps, wideKeys, modest, calm, conditions, laid).
  DERIVED. THE GIVEN ROWS OF THIS SEAT. 6 by the template 'for every input the law returns true; each argument reads behind the call as it read before'; 0 by the template 'total and deterministic' (their statements: YtonkjdjancnajaaTotals.lean).
  GIVEN WITH THE SEED: the statements are not yours to turn. If you find one false, say at which input.
  Laid BY PROGRAM, IN A SANDBOX (cutbox-rows.mjs): the forced cells as the released guide's own fill.sh prints them over the translation ff7e2fa24336a3c4… (all of the seat's roots in one cut). By AI agents, Wed Nov 11 2026. No macro, syntax, notation, axiom, sorry.
-/
import Derived.Test.YtonkjdjancnajaaChecked
import GoSem.Claim
import GoSem.ClaimJoined
import GoSem.ClaimMapViews
import Derived.JoinedTies
import Derived.KernelRfl
namespace Go.Proofs.Ytonkjdjancnajaa
/- THE CELL 'sum', in the pinned program and in every row, IS THE sha256 OF THE DUMP (.gsa) THAT YtonkjdjancnajaaProg.lean LOADS. Nothing in Lean hashes anything: it is a label: what it is worth is what the hold of that sum in a sandbox is worth. -/
noncomputable def Try.pinned : Pinned := { name := "ytonkjdjancnajaa", sum := "ff7e2fa24336a3c4d7ef0aab055864b91428ba3c95a3e3ae99635c2cd3271e41", checked := Try.checked }
namespace Rows
def none {H : Type} : Left H := { results := [], args := [] }

/-- 'laws.FnExactBatchOk': WHATEVER THE INPUT: true; the input reads as it did. -/
def fnExactBatchOkSpec : ChangeSpec := { name := "fnExactBatchOk", fn := fun _ => fun
  | [d] => { results := [.lit (.bool true)], args := [d] }
  | _ => none }
def fnExactBatchOkRow : OpenClaim := { program := "ytonkjdjancnajaa", sum := "ff7e2fa24336a3c4d7ef0aab055864b91428ba3c95a3e3ae99635c2cd3271e41", func := "loop.example/g00214/laws.FnExactBatchOk", spec := "fnExactBatchOk", apart := false }
def FnExactBatchOkSaid : Prop := fnExactBatchOkRow.holds Try.pinned (OpenSpec.ofChange fnExactBatchOkSpec)

/-- ITS FALSE NEIGHBOUR: 'it returns false'. Refute it at one input. -/
def fnExactBatchOkWrong : ChangeSpec := { name := "fnExactBatchOk", fn := fun _ => fun
  | [d] => { results := [.lit (.bool false)], args := [d] }
  | _ => none }
def FnExactBatchOkWrongFalsely : Prop := fnExactBatchOkRow.holds Try.pinned (OpenSpec.ofChange fnExactBatchOkWrong)

/-- 'laws.FnExactBatchText': WHATEVER THE INPUT: true; the input reads as it did. -/
def fnExactBatchTextSpec : ChangeSpec := { name := "fnExactBatchText", fn := fun _ => fun
  | [d] => { results := [.lit (.bool true)], args := [d] }
  | _ => none }
def fnExactBatchTextRow : OpenClaim := { program := "ytonkjdjancnajaa", sum := "ff7e2fa24336a3c4d7ef0aab055864b91428ba3c95a3e3ae99635c2cd3271e41", func := "loop.example/g00214/laws.FnExactBatchText", spec := "fnExactBatchText", apart := false }
def FnExactBatchTextSaid : Prop := fnExactBatchTextRow.holds Try.pinned (OpenSpec.ofChange fnExactBatchTextSpec)

/-- ITS FALSE NEIGHBOUR: 'it returns false'. Refute it at one input. -/
def fnExactBatchTextWrong : ChangeSpec := { name := "fnExactBatchText", fn := fun _ => fun
  | [d] => { results := [.lit (.bool false)], args := [d] }
  | _ => none }
def FnExactBatchTextWrongFalsely : Prop := fnExactBatchTextRow.holds Try.pinned (OpenSpec.ofChange fnExactBatchTextWrong)

/-- 'laws.FnExactReadBatch': WHATEVER THE INPUT: true; the input reads as it did. -/
def fnExactReadBatchSpec : ChangeSpec := { name := "fnExactReadBatch", fn := fun _ => fun
  | [d] => { results := [.lit (.bool true)], args := [d] }
  | _ => none }
def fnExactReadBatchRow : OpenClaim := { program := "ytonkjdjancnajaa", sum := "ff7e2fa24336a3c4d7ef0aab055864b91428ba3c95a3e3ae99635c2cd3271e41", func := "loop.example/g00214/laws.FnExactReadBatch", spec := "fnExactReadBatch", apart := false }
def FnExactReadBatchSaid : Prop := fnExactReadBatchRow.holds Try.pinned (OpenSpec.ofChange fnExactReadBatchSpec)

/-- ITS FALSE NEIGHBOUR: 'it returns false'. Refute it at one input. -/
def fnExactReadBatchWrong : ChangeSpec := { name := "fnExactReadBatch", fn := fun _ => fun
  | [d] => { results := [.lit (.bool false)], args := [d] }
  | _ => none }
def FnExactReadBatchWrongFalsely : Prop := fnExactReadBatchRow.holds Try.pinned (OpenSpec.ofChange fnExactReadBatchWrong)

/-- 'laws.FnExactReadFilter': WHATEVER THE INPUT: true; the input reads as it did. -/
def fnExactReadFilterSpec : ChangeSpec := { name := "fnExactReadFilter", fn := fun _ => fun
  | [d] => { results := [.lit (.bool true)], args := [d] }
  | _ => none }
def fnExactReadFilterRow : OpenClaim := { program := "ytonkjdjancnajaa", sum := "ff7e2fa24336a3c4d7ef0aab055864b91428ba3c95a3e3ae99635c2cd3271e41", func := "loop.example/g00214/laws.FnExactReadFilter", spec := "fnExactReadFilter", apart := false }
def FnExactReadFilterSaid : Prop := fnExactReadFilterRow.holds Try.pinned (OpenSpec.ofChange fnExactReadFilterSpec)

/-- ITS FALSE NEIGHBOUR: 'it returns false'. Refute it at one input. -/
def fnExactReadFilterWrong : ChangeSpec := { name := "fnExactReadFilter", fn := fun _ => fun
  | [d] => { results := [.lit (.bool false)], args := [d] }
  | _ => none }
def FnExactReadFilterWrongFalsely : Prop := fnExactReadFilterRow.holds Try.pinned (OpenSpec.ofChange fnExactReadFilterWrong)

/-- 'laws.FnExactWriteLog': WHATEVER THE INPUT: true; the input reads as it did. -/
def fnExactWriteLogSpec : ChangeSpec := { name := "fnExactWriteLog", fn := fun _ => fun
  | [d1, d2] => { results := [.lit (.bool true)], args := [d1, d2] }
  | _ => none }
def fnExactWriteLogRow : OpenClaim := { program := "ytonkjdjancnajaa", sum := "ff7e2fa24336a3c4d7ef0aab055864b91428ba3c95a3e3ae99635c2cd3271e41", func := "loop.example/g00214/laws.FnExactWriteLog", spec := "fnExactWriteLog", inPlace := ["internal/abi.NoEscape", "internal/bytealg.MakeNoZero"], apart := false }
def FnExactWriteLogSaid : Prop := fnExactWriteLogRow.holds Try.pinned (OpenSpec.ofChange fnExactWriteLogSpec)

/-- ITS FALSE NEIGHBOUR: 'it returns false'. Refute it at one input. -/
def fnExactWriteLogWrong : ChangeSpec := { name := "fnExactWriteLog", fn := fun _ => fun
  | [d1, d2] => { results := [.lit (.bool false)], args := [d1, d2] }
  | _ => none }
def FnExactWriteLogWrongFalsely : Prop := fnExactWriteLogRow.holds Try.pinned (OpenSpec.ofChange fnExactWriteLogWrong)

/-- 'laws.FnExactMemBytes': WHATEVER THE INPUT: true; the input reads as it did. -/
def fnExactMemBytesSpec : ChangeSpec := { name := "fnExactMemBytes", fn := fun _ => fun
  | [d] => { results := [.lit (.bool true)], args := [d] }
  | _ => none }
def fnExactMemBytesRow : OpenClaim := { program := "ytonkjdjancnajaa", sum := "ff7e2fa24336a3c4d7ef0aab055864b91428ba3c95a3e3ae99635c2cd3271e41", func := "loop.example/g00214/laws.FnExactMemBytes", spec := "fnExactMemBytes", apart := false }
def FnExactMemBytesSaid : Prop := fnExactMemBytesRow.holds Try.pinned (OpenSpec.ofChange fnExactMemBytesSpec)

/-- ITS FALSE NEIGHBOUR: 'it returns false'. Refute it at one input. -/
def fnExactMemBytesWrong : ChangeSpec := { name := "fnExactMemBytes", fn := fun _ => fun
  | [d] => { results := [.lit (.bool false)], args := [d] }
  | _ => none }
def FnExactMemBytesWrongFalsely : Prop := fnExactMemBytesRow.holds Try.pinned (OpenSpec.ofChange fnExactMemBytesWrong)

/- THE SECOND FORM. 'bulk': how many values and letters a reading holds, each counted each time it is reached (what is shared counts as often as it is met; a slice's spare places count too). A statement '..UptoSaid' is the law's where the arguments, and the package variables that the reading takes, are together of bulk at most 1048576: NARROWER than '..Said'. Prove '..Said' where nothing that the law and all that it calls make is longer than what came in: it says more and counts as full. Else prove '..UptoSaid'. A law counts once. -/
mutual
def uptoBulk {H : Type} : DataW H → Nat
  | .lit (.string bytes) => bytes.length + 1
  | .lit _ => 1
  | .nil => 1
  | .ptr d => uptoBulk d + 1
  | .slice elems spare => uptoBulkAll elems + uptoBulkAll spare + 1
  | .agg parts => uptoBulkAll parts + 1
  | .iface _ d => uptoBulk d + 1
  | .map entries => uptoBulkEntries entries + 1
  | .held _ => 1
def uptoBulkAll {H : Type} : List (DataW H) → Nat
  | [] => 0
  | d :: r => uptoBulk d + uptoBulkAll r
def uptoBulkEntries {H : Type} : List (Lit × DataW H) → Nat
  | [] => 0
  | x :: r => uptoBulkEntry x + uptoBulkEntries r
def uptoBulkEntry {H : Type} : Lit × DataW H → Nat
  | (.string bytes, d) => bytes.length + uptoBulk d + 1
  | (_, d) => uptoBulk d + 1
 end
def uptoSmall : (H : Type) → List (DataW H) → Bool := fun _ ds => decide (uptoBulkAll ds ≤ 1048576)
def OpenSpec.upto (s : _root_.Go.ChangeSpec) : _root_.Go.OpenSpec := { _root_.Go.OpenSpec.ofChange s with cond := some uptoSmall }

/-- 'laws.FnExactBatchOk', WHERE WHAT IT READS IS OF BULK AT MOST 1048576: true; the input reads as it did. -/
def fnExactBatchOkUptoRow : OpenClaim := { program := "ytonkjdjancnajaa", sum := "ff7e2fa24336a3c4d7ef0aab055864b91428ba3c95a3e3ae99635c2cd3271e41", func := "loop.example/g00214/laws.FnExactBatchOk", spec := "fnExactBatchOk", apart := false, narrowed := true }
def FnExactBatchOkUptoSaid : Prop := fnExactBatchOkUptoRow.holds Try.pinned (OpenSpec.upto fnExactBatchOkSpec)

/-- 'laws.FnExactBatchText', WHERE WHAT IT READS IS OF BULK AT MOST 1048576: true; the input reads as it did. -/
def fnExactBatchTextUptoRow : OpenClaim := { program := "ytonkjdjancnajaa", sum := "ff7e2fa24336a3c4d7ef0aab055864b91428ba3c95a3e3ae99635c2cd3271e41", func := "loop.example/g00214/laws.FnExactBatchText", spec := "fnExactBatchText", apart := false, narrowed := true }
def FnExactBatchTextUptoSaid : Prop := fnExactBatchTextUptoRow.holds Try.pinned (OpenSpec.upto fnExactBatchTextSpec)

/-- 'laws.FnExactReadBatch', WHERE WHAT IT READS IS OF BULK AT MOST 1048576: true; the input reads as it did. -/
def fnExactReadBatchUptoRow : OpenClaim := { program := "ytonkjdjancnajaa", sum := "ff7e2fa24336a3c4d7ef0aab055864b91428ba3c95a3e3ae99635c2cd3271e41", func := "loop.example/g00214/laws.FnExactReadBatch", spec := "fnExactReadBatch", apart := false, narrowed := true }
def FnExactReadBatchUptoSaid : Prop := fnExactReadBatchUptoRow.holds Try.pinned (OpenSpec.upto fnExactReadBatchSpec)

/-- 'laws.FnExactReadFilter', WHERE WHAT IT READS IS OF BULK AT MOST 1048576: true; the input reads as it did. -/
def fnExactReadFilterUptoRow : OpenClaim := { program := "ytonkjdjancnajaa", sum := "ff7e2fa24336a3c4d7ef0aab055864b91428ba3c95a3e3ae99635c2cd3271e41", func := "loop.example/g00214/laws.FnExactReadFilter", spec := "fnExactReadFilter", apart := false, narrowed := true }
def FnExactReadFilterUptoSaid : Prop := fnExactReadFilterUptoRow.holds Try.pinned (OpenSpec.upto fnExactReadFilterSpec)

/-- 'laws.FnExactWriteLog', WHERE WHAT IT READS IS OF BULK AT MOST 1048576: true; the input reads as it did. -/
def fnExactWriteLogUptoRow : OpenClaim := { program := "ytonkjdjancnajaa", sum := "ff7e2fa24336a3c4d7ef0aab055864b91428ba3c95a3e3ae99635c2cd3271e41", func := "loop.example/g00214/laws.FnExactWriteLog", spec := "fnExactWriteLog", inPlace := ["internal/abi.NoEscape", "internal/bytealg.MakeNoZero"], apart := false, narrowed := true }
def FnExactWriteLogUptoSaid : Prop := fnExactWriteLogUptoRow.holds Try.pinned (OpenSpec.upto fnExactWriteLogSpec)

/-- 'laws.FnExactMemBytes', WHERE WHAT IT READS IS OF BULK AT MOST 1048576: true; the input reads as it did. -/
def fnExactMemBytesUptoRow : OpenClaim := { program := "ytonkjdjancnajaa", sum := "ff7e2fa24336a3c4d7ef0aab055864b91428ba3c95a3e3ae99635c2cd3271e41", func := "loop.example/g00214/laws.FnExactMemBytes", spec := "fnExactMemBytes", apart := false, narrowed := true }
def FnExactMemBytesUptoSaid : Prop := fnExactMemBytesUptoRow.holds Try.pinned (OpenSpec.upto fnExactMemBytesSpec)

end Rows
end Go.Proofs.Ytonkjdjancnajaa
