/-
  No cell of these rows narrows 'for every input' (looked for: loops, veiled, ifaces, maps, wideKeys, modest, calm, conditions, laid).
  DERIVED. THE GIVEN ROWS OF THIS SEAT. 6 by the template 'for every input the law returns true; each argument reads behind the call as it read before'; 0 by the template 'total and deterministic' (their statements: YtmmnlkagenbofaaTotals.lean).
  GIVEN WITH THE SEED: the statements are not yours to turn. If you find one false, say at which input.
  Laid BY PROGRAM, IN A SANDBOX (cutbox-rows.mjs): the forced cells as the released guide's own fill.sh prints them over the translation dbd4d2cd303b2dbe… (all of the seat's roots in one cut). By AI agents, Wed Nov 11 2026. No macro, syntax, notation, axiom, sorry.
-/
import Derived.Test.YtmmnlkagenbofaaChecked
import GoSem.Claim
import GoSem.ClaimJoined
import GoSem.ClaimMapViews
import Derived.JoinedTies
import Derived.KernelRfl
namespace Go.Proofs.Ytmmnlkagenbofaa
/- THE CELL 'sum', in the pinned program and in every row, IS THE sha256 OF THE DUMP (.gsa) THAT YtmmnlkagenbofaaProg.lean LOADS. Nothing in Lean hashes anything: it is a label: what it is worth is what the hold of that sum in a sandbox is worth. -/
noncomputable def Try.pinned : Pinned := { name := "ytmmnlkagenbofaa", sum := "dbd4d2cd303b2dbea46bcf0fd19f985110aff36d7dce20122f38fc482855f76b", checked := Try.checked }
namespace Rows
def none {H : Type} : Left H := { results := [], args := [] }

/-- 'laws.FnExactVersionOk': WHATEVER THE INPUT: true; the input reads as it did. -/
def fnExactVersionOkSpec : ChangeSpec := { name := "fnExactVersionOk", fn := fun _ => fun
  | [d] => { results := [.lit (.bool true)], args := [d] }
  | _ => none }
def fnExactVersionOkRow : OpenClaim := { program := "ytmmnlkagenbofaa", sum := "dbd4d2cd303b2dbea46bcf0fd19f985110aff36d7dce20122f38fc482855f76b", func := "loop.example/g00214/laws.FnExactVersionOk", spec := "fnExactVersionOk", unfollowed := true, recurses := true, apart := false }
def FnExactVersionOkSaid : Prop := fnExactVersionOkRow.holds Try.pinned (OpenSpec.ofChange fnExactVersionOkSpec)

/-- ITS FALSE NEIGHBOUR: 'it returns false'. Refute it at one input. -/
def fnExactVersionOkWrong : ChangeSpec := { name := "fnExactVersionOk", fn := fun _ => fun
  | [d] => { results := [.lit (.bool false)], args := [d] }
  | _ => none }
def FnExactVersionOkWrongFalsely : Prop := fnExactVersionOkRow.holds Try.pinned (OpenSpec.ofChange fnExactVersionOkWrong)

/-- 'laws.FnExactOverlapping': WHATEVER THE INPUT: true; the input reads as it did. -/
def fnExactOverlappingSpec : ChangeSpec := { name := "fnExactOverlapping", fn := fun _ => fun
  | [d1, d2, d3, d4] => { results := [.lit (.bool true)], args := [d1, d2, d3, d4] }
  | _ => none }
def fnExactOverlappingRow : OpenClaim := { program := "ytmmnlkagenbofaa", sum := "dbd4d2cd303b2dbea46bcf0fd19f985110aff36d7dce20122f38fc482855f76b", func := "loop.example/g00214/laws.FnExactOverlapping", spec := "fnExactOverlapping", unfollowed := true, recurses := true, apart := false }
def FnExactOverlappingSaid : Prop := fnExactOverlappingRow.holds Try.pinned (OpenSpec.ofChange fnExactOverlappingSpec)

/-- ITS FALSE NEIGHBOUR: 'it returns false'. Refute it at one input. -/
def fnExactOverlappingWrong : ChangeSpec := { name := "fnExactOverlapping", fn := fun _ => fun
  | [d1, d2, d3, d4] => { results := [.lit (.bool false)], args := [d1, d2, d3, d4] }
  | _ => none }
def FnExactOverlappingWrongFalsely : Prop := fnExactOverlappingRow.holds Try.pinned (OpenSpec.ofChange fnExactOverlappingWrong)

/-- 'laws.FnExactPickLevel': WHATEVER THE INPUT: true; the input reads as it did. -/
def fnExactPickLevelSpec : ChangeSpec := { name := "fnExactPickLevel", fn := fun _ => fun
  | [d] => { results := [.lit (.bool true)], args := [d] }
  | _ => none }
def fnExactPickLevelRow : OpenClaim := { program := "ytmmnlkagenbofaa", sum := "dbd4d2cd303b2dbea46bcf0fd19f985110aff36d7dce20122f38fc482855f76b", func := "loop.example/g00214/laws.FnExactPickLevel", spec := "fnExactPickLevel", unfollowed := true, recurses := true, apart := false }
def FnExactPickLevelSaid : Prop := fnExactPickLevelRow.holds Try.pinned (OpenSpec.ofChange fnExactPickLevelSpec)

/-- ITS FALSE NEIGHBOUR: 'it returns false'. Refute it at one input. -/
def fnExactPickLevelWrong : ChangeSpec := { name := "fnExactPickLevel", fn := fun _ => fun
  | [d] => { results := [.lit (.bool false)], args := [d] }
  | _ => none }
def FnExactPickLevelWrongFalsely : Prop := fnExactPickLevelRow.holds Try.pinned (OpenSpec.ofChange fnExactPickLevelWrong)

/-- 'laws.FnExactVersionText': WHATEVER THE INPUT: true; the input reads as it did. -/
def fnExactVersionTextSpec : ChangeSpec := { name := "fnExactVersionText", fn := fun _ => fun
  | [d] => { results := [.lit (.bool true)], args := [d] }
  | _ => none }
def fnExactVersionTextRow : OpenClaim := { program := "ytmmnlkagenbofaa", sum := "dbd4d2cd303b2dbea46bcf0fd19f985110aff36d7dce20122f38fc482855f76b", func := "loop.example/g00214/laws.FnExactVersionText", spec := "fnExactVersionText", unfollowed := true, recurses := true, apart := false }
def FnExactVersionTextSaid : Prop := fnExactVersionTextRow.holds Try.pinned (OpenSpec.ofChange fnExactVersionTextSpec)

/-- ITS FALSE NEIGHBOUR: 'it returns false'. Refute it at one input. -/
def fnExactVersionTextWrong : ChangeSpec := { name := "fnExactVersionText", fn := fun _ => fun
  | [d] => { results := [.lit (.bool false)], args := [d] }
  | _ => none }
def FnExactVersionTextWrongFalsely : Prop := fnExactVersionTextRow.holds Try.pinned (OpenSpec.ofChange fnExactVersionTextWrong)

/-- 'laws.FnExactReadVersion': WHATEVER THE INPUT: true; the input reads as it did. -/
def fnExactReadVersionSpec : ChangeSpec := { name := "fnExactReadVersion", fn := fun _ => fun
  | [d] => { results := [.lit (.bool true)], args := [d] }
  | _ => none }
def fnExactReadVersionRow : OpenClaim := { program := "ytmmnlkagenbofaa", sum := "dbd4d2cd303b2dbea46bcf0fd19f985110aff36d7dce20122f38fc482855f76b", func := "loop.example/g00214/laws.FnExactReadVersion", spec := "fnExactReadVersion", unfollowed := true, recurses := true, apart := false }
def FnExactReadVersionSaid : Prop := fnExactReadVersionRow.holds Try.pinned (OpenSpec.ofChange fnExactReadVersionSpec)

/-- ITS FALSE NEIGHBOUR: 'it returns false'. Refute it at one input. -/
def fnExactReadVersionWrong : ChangeSpec := { name := "fnExactReadVersion", fn := fun _ => fun
  | [d] => { results := [.lit (.bool false)], args := [d] }
  | _ => none }
def FnExactReadVersionWrongFalsely : Prop := fnExactReadVersionRow.holds Try.pinned (OpenSpec.ofChange fnExactReadVersionWrong)

/-- 'laws.FnExactApply': WHATEVER THE INPUT: true; the input reads as it did. -/
def fnExactApplySpec : ChangeSpec := { name := "fnExactApply", fn := fun _ => fun
  | [d1, d2] => { results := [.lit (.bool true)], args := [d1, d2] }
  | _ => none }
def fnExactApplyRow : OpenClaim := { program := "ytmmnlkagenbofaa", sum := "dbd4d2cd303b2dbea46bcf0fd19f985110aff36d7dce20122f38fc482855f76b", func := "loop.example/g00214/laws.FnExactApply", spec := "fnExactApply", unfollowed := true, recurses := true, apart := false }
def FnExactApplySaid : Prop := fnExactApplyRow.holds Try.pinned (OpenSpec.ofChange fnExactApplySpec)

/-- ITS FALSE NEIGHBOUR: 'it returns false'. Refute it at one input. -/
def fnExactApplyWrong : ChangeSpec := { name := "fnExactApply", fn := fun _ => fun
  | [d1, d2] => { results := [.lit (.bool false)], args := [d1, d2] }
  | _ => none }
def FnExactApplyWrongFalsely : Prop := fnExactApplyRow.holds Try.pinned (OpenSpec.ofChange fnExactApplyWrong)

/- THE SECOND FORM. 'bulk': how many values and letters a reading holds, each counted each time it is reached (what is shared counts as often as it is met; a slice's spare places count too). A statement '..UptoSaid' is the law's where the arguments, and the package variables that the reading takes, are together of bulk at most 1048576: NARROWER than '..Said'. Prove '..Said' where nothing that the law and all that it calls make is longer than what came in: it says more and counts as full. Else prove '..UptoSaid'. A law counts once. -/
mutual
def uptoBulk {H : Type} : DataW H → Nat
  | .lit (.string bytes) => bytes.length + 1
  | .lit _ => 1
  | .nil => 1
  | .ptr d => uptoBulk d + 1
  | .slice elems spare => uptoBulkAll elems + uptoBulkAll spare + 1
  | .agg parts => uptoBulkAll parts + 1
  | .iface _ d => uptoBulk d + 1
  | .map entries => uptoBulkEntries entries + 1
  | .held _ => 1
def uptoBulkAll {H : Type} : List (DataW H) → Nat
  | [] => 0
  | d :: r => uptoBulk d + uptoBulkAll r
def uptoBulkEntries {H : Type} : List (Lit × DataW H) → Nat
  | [] => 0
  | x :: r => uptoBulkEntry x + uptoBulkEntries r
def uptoBulkEntry {H : Type} : Lit × DataW H → Nat
  | (.string bytes, d) => bytes.length + uptoBulk d + 1
  | (_, d) => uptoBulk d + 1
 end
def uptoSmall : (H : Type) → List (DataW H) → Bool := fun _ ds => decide (uptoBulkAll ds ≤ 1048576)
def OpenSpec.upto (s : _root_.Go.ChangeSpec) : _root_.Go.OpenSpec := { _root_.Go.OpenSpec.ofChange s with cond := some uptoSmall }

/-- 'laws.FnExactVersionOk', WHERE WHAT IT READS IS OF BULK AT MOST 1048576: true; the input reads as it did. -/
def fnExactVersionOkUptoRow : OpenClaim := { program := "ytmmnlkagenbofaa", sum := "dbd4d2cd303b2dbea46bcf0fd19f985110aff36d7dce20122f38fc482855f76b", func := "loop.example/g00214/laws.FnExactVersionOk", spec := "fnExactVersionOk", unfollowed := true, recurses := true, apart := false, narrowed := true }
def FnExactVersionOkUptoSaid : Prop := fnExactVersionOkUptoRow.holds Try.pinned (OpenSpec.upto fnExactVersionOkSpec)

/-- 'laws.FnExactOverlapping', WHERE WHAT IT READS IS OF BULK AT MOST 1048576: true; the input reads as it did. -/
def fnExactOverlappingUptoRow : OpenClaim := { program := "ytmmnlkagenbofaa", sum := "dbd4d2cd303b2dbea46bcf0fd19f985110aff36d7dce20122f38fc482855f76b", func := "loop.example/g00214/laws.FnExactOverlapping", spec := "fnExactOverlapping", unfollowed := true, recurses := true, apart := false, narrowed := true }
def FnExactOverlappingUptoSaid : Prop := fnExactOverlappingUptoRow.holds Try.pinned (OpenSpec.upto fnExactOverlappingSpec)

/-- 'laws.FnExactPickLevel', WHERE WHAT IT READS IS OF BULK AT MOST 1048576: true; the input reads as it did. -/
def fnExactPickLevelUptoRow : OpenClaim := { program := "ytmmnlkagenbofaa", sum := "dbd4d2cd303b2dbea46bcf0fd19f985110aff36d7dce20122f38fc482855f76b", func := "loop.example/g00214/laws.FnExactPickLevel", spec := "fnExactPickLevel", unfollowed := true, recurses := true, apart := false, narrowed := true }
def FnExactPickLevelUptoSaid : Prop := fnExactPickLevelUptoRow.holds Try.pinned (OpenSpec.upto fnExactPickLevelSpec)

/-- 'laws.FnExactVersionText', WHERE WHAT IT READS IS OF BULK AT MOST 1048576: true; the input reads as it did. -/
def fnExactVersionTextUptoRow : OpenClaim := { program := "ytmmnlkagenbofaa", sum := "dbd4d2cd303b2dbea46bcf0fd19f985110aff36d7dce20122f38fc482855f76b", func := "loop.example/g00214/laws.FnExactVersionText", spec := "fnExactVersionText", unfollowed := true, recurses := true, apart := false, narrowed := true }
def FnExactVersionTextUptoSaid : Prop := fnExactVersionTextUptoRow.holds Try.pinned (OpenSpec.upto fnExactVersionTextSpec)

/-- 'laws.FnExactReadVersion', WHERE WHAT IT READS IS OF BULK AT MOST 1048576: true; the input reads as it did. -/
def fnExactReadVersionUptoRow : OpenClaim := { program := "ytmmnlkagenbofaa", sum := "dbd4d2cd303b2dbea46bcf0fd19f985110aff36d7dce20122f38fc482855f76b", func := "loop.example/g00214/laws.FnExactReadVersion", spec := "fnExactReadVersion", unfollowed := true, recurses := true, apart := false, narrowed := true }
def FnExactReadVersionUptoSaid : Prop := fnExactReadVersionUptoRow.holds Try.pinned (OpenSpec.upto fnExactReadVersionSpec)

/-- 'laws.FnExactApply', WHERE WHAT IT READS IS OF BULK AT MOST 1048576: true; the input reads as it did. -/
def fnExactApplyUptoRow : OpenClaim := { program := "ytmmnlkagenbofaa", sum := "dbd4d2cd303b2dbea46bcf0fd19f985110aff36d7dce20122f38fc482855f76b", func := "loop.example/g00214/laws.FnExactApply", spec := "fnExactApply", unfollowed := true, recurses := true, apart := false, narrowed := true }
def FnExactApplyUptoSaid : Prop := fnExactApplyUptoRow.holds Try.pinned (OpenSpec.upto fnExactApplySpec)

end Rows
end Go.Proofs.Ytmmnlkagenbofaa
