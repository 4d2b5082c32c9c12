/-
  No cell of these rows narrows 'for every input' (looked for: loops, veiled, ifaces, maps, wideKeys, modest, calm, conditions, laid).
  DERIVED. THE GIVEN ROWS OF THIS SEAT. 5 by the template 'for every input the law returns true; each argument reads behind the call as it read before'; 0 by the template 'total and deterministic' (their statements: YtapajchnfjjipaaTotals.lean).
  GIVEN WITH THE SEED: the statements are not yours to turn. If you find one false, say at which input.
  Laid BY PROGRAM, IN A SANDBOX (cutbox-rows.mjs): the forced cells as the released guide's own fill.sh prints them over the translation 48d63a372af26f78… (all of the seat's roots in one cut). By AI agents, Wed Nov 11 2026. No macro, syntax, notation, axiom, sorry.
-/
import Derived.Test.YtapajchnfjjipaaChecked
import GoSem.Claim
import GoSem.ClaimJoined
import GoSem.ClaimMapViews
import Derived.JoinedTies
import Derived.KernelRfl
namespace Go.Proofs.Ytapajchnfjjipaa
/- THE CELL 'sum', in the pinned program and in every row, IS THE sha256 OF THE DUMP (.gsa) THAT YtapajchnfjjipaaProg.lean LOADS. Nothing in Lean hashes anything: it is a label: what it is worth is what the hold of that sum in a sandbox is worth. -/
noncomputable def Try.pinned : Pinned := { name := "ytapajchnfjjipaa", sum := "48d63a372af26f7828ca3f72b8dc4f5c3db85eae39f71f2c30ba3636cfe0da2b", checked := Try.checked }
namespace Rows
def none {H : Type} : Left H := { results := [], args := [] }

/-- 'laws.FnExactSnapsOk': WHATEVER THE INPUT: true; the input reads as it did. -/
def fnExactSnapsOkSpec : ChangeSpec := { name := "fnExactSnapsOk", fn := fun _ => fun
  | [d] => { results := [.lit (.bool true)], args := [d] }
  | _ => none }
def fnExactSnapsOkRow : OpenClaim := { program := "ytapajchnfjjipaa", sum := "48d63a372af26f7828ca3f72b8dc4f5c3db85eae39f71f2c30ba3636cfe0da2b", func := "loop.example/g00214/laws.FnExactSnapsOk", spec := "fnExactSnapsOk", apart := false }
def FnExactSnapsOkSaid : Prop := fnExactSnapsOkRow.holds Try.pinned (OpenSpec.ofChange fnExactSnapsOkSpec)

/-- ITS FALSE NEIGHBOUR: 'it returns false'. Refute it at one input. -/
def fnExactSnapsOkWrong : ChangeSpec := { name := "fnExactSnapsOk", fn := fun _ => fun
  | [d] => { results := [.lit (.bool false)], args := [d] }
  | _ => none }
def FnExactSnapsOkWrongFalsely : Prop := fnExactSnapsOkRow.holds Try.pinned (OpenSpec.ofChange fnExactSnapsOkWrong)

/-- 'laws.FnExactNeeded': WHATEVER THE INPUT: true; the input reads as it did. -/
def fnExactNeededSpec : ChangeSpec := { name := "fnExactNeeded", fn := fun _ => fun
  | [d1, d2] => { results := [.lit (.bool true)], args := [d1, d2] }
  | _ => none }
def fnExactNeededRow : OpenClaim := { program := "ytapajchnfjjipaa", sum := "48d63a372af26f7828ca3f72b8dc4f5c3db85eae39f71f2c30ba3636cfe0da2b", func := "loop.example/g00214/laws.FnExactNeeded", spec := "fnExactNeeded", unfollowed := true, recurses := true, apart := false }
def FnExactNeededSaid : Prop := fnExactNeededRow.holds Try.pinned (OpenSpec.ofChange fnExactNeededSpec)

/-- ITS FALSE NEIGHBOUR: 'it returns false'. Refute it at one input. -/
def fnExactNeededWrong : ChangeSpec := { name := "fnExactNeeded", fn := fun _ => fun
  | [d1, d2] => { results := [.lit (.bool false)], args := [d1, d2] }
  | _ => none }
def FnExactNeededWrongFalsely : Prop := fnExactNeededRow.holds Try.pinned (OpenSpec.ofChange fnExactNeededWrong)

/-- 'laws.FnExactCompacted': WHATEVER THE INPUT: true; the input reads as it did. -/
def fnExactCompactedSpec : ChangeSpec := { name := "fnExactCompacted", fn := fun _ => fun
  | [d1, d2, d3] => { results := [.lit (.bool true)], args := [d1, d2, d3] }
  | _ => none }
def fnExactCompactedRow : OpenClaim := { program := "ytapajchnfjjipaa", sum := "48d63a372af26f7828ca3f72b8dc4f5c3db85eae39f71f2c30ba3636cfe0da2b", func := "loop.example/g00214/laws.FnExactCompacted", spec := "fnExactCompacted", unfollowed := true, recurses := true, apart := false }
def FnExactCompactedSaid : Prop := fnExactCompactedRow.holds Try.pinned (OpenSpec.ofChange fnExactCompactedSpec)

/-- ITS FALSE NEIGHBOUR: 'it returns false'. Refute it at one input. -/
def fnExactCompactedWrong : ChangeSpec := { name := "fnExactCompacted", fn := fun _ => fun
  | [d1, d2, d3] => { results := [.lit (.bool false)], args := [d1, d2, d3] }
  | _ => none }
def FnExactCompactedWrongFalsely : Prop := fnExactCompactedRow.holds Try.pinned (OpenSpec.ofChange fnExactCompactedWrong)

/-- 'laws.FnShadowed': WHATEVER THE INPUT: true; the input reads as it did. -/
def fnShadowedSpec : ChangeSpec := { name := "fnShadowed", fn := fun _ => fun
  | [d] => { results := [.lit (.bool true)], args := [d] }
  | _ => none }
def fnShadowedRow : OpenClaim := { program := "ytapajchnfjjipaa", sum := "48d63a372af26f7828ca3f72b8dc4f5c3db85eae39f71f2c30ba3636cfe0da2b", func := "loop.example/g00214/laws.FnShadowed", spec := "fnShadowed", unfollowed := true, recurses := true, apart := false }
def FnShadowedSaid : Prop := fnShadowedRow.holds Try.pinned (OpenSpec.ofChange fnShadowedSpec)

/-- ITS FALSE NEIGHBOUR: 'it returns false'. Refute it at one input. -/
def fnShadowedWrong : ChangeSpec := { name := "fnShadowed", fn := fun _ => fun
  | [d] => { results := [.lit (.bool false)], args := [d] }
  | _ => none }
def FnShadowedWrongFalsely : Prop := fnShadowedRow.holds Try.pinned (OpenSpec.ofChange fnShadowedWrong)

/-- 'laws.FnCompacted': WHATEVER THE INPUT: true; the input reads as it did. -/
def fnCompactedSpec : ChangeSpec := { name := "fnCompacted", fn := fun _ => fun
  | [d] => { results := [.lit (.bool true)], args := [d] }
  | _ => none }
def fnCompactedRow : OpenClaim := { program := "ytapajchnfjjipaa", sum := "48d63a372af26f7828ca3f72b8dc4f5c3db85eae39f71f2c30ba3636cfe0da2b", func := "loop.example/g00214/laws.FnCompacted", spec := "fnCompacted", unfollowed := true, recurses := true, apart := false }
def FnCompactedSaid : Prop := fnCompactedRow.holds Try.pinned (OpenSpec.ofChange fnCompactedSpec)

/-- ITS FALSE NEIGHBOUR: 'it returns false'. Refute it at one input. -/
def fnCompactedWrong : ChangeSpec := { name := "fnCompacted", fn := fun _ => fun
  | [d] => { results := [.lit (.bool false)], args := [d] }
  | _ => none }
def FnCompactedWrongFalsely : Prop := fnCompactedRow.holds Try.pinned (OpenSpec.ofChange fnCompactedWrong)

/- THE SECOND FORM. 'bulk': how many values and letters a reading holds, each counted each time it is reached (what is shared counts as often as it is met; a slice's spare places count too). A statement '..UptoSaid' is the law's where the arguments, and the package variables that the reading takes, are together of bulk at most 1048576: NARROWER than '..Said'. Prove '..Said' where nothing that the law and all that it calls make is longer than what came in: it says more and counts as full. Else prove '..UptoSaid'. A law counts once. -/
mutual
def uptoBulk {H : Type} : DataW H → Nat
  | .lit (.string bytes) => bytes.length + 1
  | .lit _ => 1
  | .nil => 1
  | .ptr d => uptoBulk d + 1
  | .slice elems spare => uptoBulkAll elems + uptoBulkAll spare + 1
  | .agg parts => uptoBulkAll parts + 1
  | .iface _ d => uptoBulk d + 1
  | .map entries => uptoBulkEntries entries + 1
  | .held _ => 1
def uptoBulkAll {H : Type} : List (DataW H) → Nat
  | [] => 0
  | d :: r => uptoBulk d + uptoBulkAll r
def uptoBulkEntries {H : Type} : List (Lit × DataW H) → Nat
  | [] => 0
  | x :: r => uptoBulkEntry x + uptoBulkEntries r
def uptoBulkEntry {H : Type} : Lit × DataW H → Nat
  | (.string bytes, d) => bytes.length + uptoBulk d + 1
  | (_, d) => uptoBulk d + 1
 end
def uptoSmall : (H : Type) → List (DataW H) → Bool := fun _ ds => decide (uptoBulkAll ds ≤ 1048576)
def OpenSpec.upto (s : _root_.Go.ChangeSpec) : _root_.Go.OpenSpec := { _root_.Go.OpenSpec.ofChange s with cond := some uptoSmall }

/-- 'laws.FnExactSnapsOk', WHERE WHAT IT READS IS OF BULK AT MOST 1048576: true; the input reads as it did. -/
def fnExactSnapsOkUptoRow : OpenClaim := { program := "ytapajchnfjjipaa", sum := "48d63a372af26f7828ca3f72b8dc4f5c3db85eae39f71f2c30ba3636cfe0da2b", func := "loop.example/g00214/laws.FnExactSnapsOk", spec := "fnExactSnapsOk", apart := false, narrowed := true }
def FnExactSnapsOkUptoSaid : Prop := fnExactSnapsOkUptoRow.holds Try.pinned (OpenSpec.upto fnExactSnapsOkSpec)

/-- 'laws.FnExactNeeded', WHERE WHAT IT READS IS OF BULK AT MOST 1048576: true; the input reads as it did. -/
def fnExactNeededUptoRow : OpenClaim := { program := "ytapajchnfjjipaa", sum := "48d63a372af26f7828ca3f72b8dc4f5c3db85eae39f71f2c30ba3636cfe0da2b", func := "loop.example/g00214/laws.FnExactNeeded", spec := "fnExactNeeded", unfollowed := true, recurses := true, apart := false, narrowed := true }
def FnExactNeededUptoSaid : Prop := fnExactNeededUptoRow.holds Try.pinned (OpenSpec.upto fnExactNeededSpec)

/-- 'laws.FnExactCompacted', WHERE WHAT IT READS IS OF BULK AT MOST 1048576: true; the input reads as it did. -/
def fnExactCompactedUptoRow : OpenClaim := { program := "ytapajchnfjjipaa", sum := "48d63a372af26f7828ca3f72b8dc4f5c3db85eae39f71f2c30ba3636cfe0da2b", func := "loop.example/g00214/laws.FnExactCompacted", spec := "fnExactCompacted", unfollowed := true, recurses := true, apart := false, narrowed := true }
def FnExactCompactedUptoSaid : Prop := fnExactCompactedUptoRow.holds Try.pinned (OpenSpec.upto fnExactCompactedSpec)

/-- 'laws.FnShadowed', WHERE WHAT IT READS IS OF BULK AT MOST 1048576: true; the input reads as it did. -/
def fnShadowedUptoRow : OpenClaim := { program := "ytapajchnfjjipaa", sum := "48d63a372af26f7828ca3f72b8dc4f5c3db85eae39f71f2c30ba3636cfe0da2b", func := "loop.example/g00214/laws.FnShadowed", spec := "fnShadowed", unfollowed := true, recurses := true, apart := false, narrowed := true }
def FnShadowedUptoSaid : Prop := fnShadowedUptoRow.holds Try.pinned (OpenSpec.upto fnShadowedSpec)

/-- 'laws.FnCompacted', WHERE WHAT IT READS IS OF BULK AT MOST 1048576: true; the input reads as it did. -/
def fnCompactedUptoRow : OpenClaim := { program := "ytapajchnfjjipaa", sum := "48d63a372af26f7828ca3f72b8dc4f5c3db85eae39f71f2c30ba3636cfe0da2b", func := "loop.example/g00214/laws.FnCompacted", spec := "fnCompacted", unfollowed := true, recurses := true, apart := false, narrowed := true }
def FnCompactedUptoSaid : Prop := fnCompactedUptoRow.holds Try.pinned (OpenSpec.upto fnCompactedSpec)

end Rows
end Go.Proofs.Ytapajchnfjjipaa
