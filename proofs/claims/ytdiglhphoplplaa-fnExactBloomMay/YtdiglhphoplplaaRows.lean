/-
  No cell of these rows narrows 'for every input' (looked for: loops, veiled, ifaces, maps, wideKeys, modest, calm, conditions, laid).
  DERIVED. THE GIVEN ROWS OF THIS SEAT. 6 by the template 'for every input the law returns true; each argument reads behind the call as it read before'; 0 by the template 'total and deterministic' (their statements: YtdiglhphoplplaaTotals.lean).
  GIVEN WITH THE SEED: the statements are not yours to turn. If you find one false, say at which input.
  Laid BY PROGRAM, IN A SANDBOX (cutbox-rows.mjs): the forced cells as the released guide's own fill.sh prints them over the translation 81712e596cc2578f… (all of the seat's roots in one cut). By AI agents, Wed Nov 11 2026. No macro, syntax, notation, axiom, sorry.
-/
import Derived.Test.YtdiglhphoplplaaChecked
import GoSem.Claim
import GoSem.ClaimJoined
import GoSem.ClaimMapViews
import Derived.JoinedTies
import Derived.KernelRfl
namespace Go.Proofs.Ytdiglhphoplplaa
/- THE CELL 'sum', in the pinned program and in every row, IS THE sha256 OF THE DUMP (.gsa) THAT YtdiglhphoplplaaProg.lean LOADS. Nothing in Lean hashes anything: it is a label: what it is worth is what the hold of that sum in a sandbox is worth. -/
noncomputable def Try.pinned : Pinned := { name := "ytdiglhphoplplaa", sum := "81712e596cc2578f2520fa8195a25f755facd5f392d136d6bd10f19787111c48", checked := Try.checked }
namespace Rows
def none {H : Type} : Left H := { results := [], args := [] }

/-- 'laws.FnExactCrc': WHATEVER THE INPUT: true; the input reads as it did. -/
def fnExactCrcSpec : ChangeSpec := { name := "fnExactCrc", fn := fun _ => fun
  | [d] => { results := [.lit (.bool true)], args := [d] }
  | _ => none }
def fnExactCrcRow : OpenClaim := { program := "ytdiglhphoplplaa", sum := "81712e596cc2578f2520fa8195a25f755facd5f392d136d6bd10f19787111c48", func := "loop.example/g00214/laws.FnExactCrc", spec := "fnExactCrc", apart := false }
def FnExactCrcSaid : Prop := fnExactCrcRow.holds Try.pinned (OpenSpec.ofChange fnExactCrcSpec)

/-- ITS FALSE NEIGHBOUR: 'it returns false'. Refute it at one input. -/
def fnExactCrcWrong : ChangeSpec := { name := "fnExactCrc", fn := fun _ => fun
  | [d] => { results := [.lit (.bool false)], args := [d] }
  | _ => none }
def FnExactCrcWrongFalsely : Prop := fnExactCrcRow.holds Try.pinned (OpenSpec.ofChange fnExactCrcWrong)

/-- 'laws.FnSums': WHATEVER THE INPUT: true; the input reads as it did. -/
def fnSumsSpec : ChangeSpec := { name := "fnSums", fn := fun _ => fun
  | [d] => { results := [.lit (.bool true)], args := [d] }
  | _ => none }
def fnSumsRow : OpenClaim := { program := "ytdiglhphoplplaa", sum := "81712e596cc2578f2520fa8195a25f755facd5f392d136d6bd10f19787111c48", func := "loop.example/g00214/laws.FnSums", spec := "fnSums", apart := false }
def FnSumsSaid : Prop := fnSumsRow.holds Try.pinned (OpenSpec.ofChange fnSumsSpec)

/-- ITS FALSE NEIGHBOUR: 'it returns false'. Refute it at one input. -/
def fnSumsWrong : ChangeSpec := { name := "fnSums", fn := fun _ => fun
  | [d] => { results := [.lit (.bool false)], args := [d] }
  | _ => none }
def FnSumsWrongFalsely : Prop := fnSumsRow.holds Try.pinned (OpenSpec.ofChange fnSumsWrong)

/-- 'laws.FnExactHash': WHATEVER THE INPUT: true; the input reads as it did. -/
def fnExactHashSpec : ChangeSpec := { name := "fnExactHash", fn := fun _ => fun
  | [d1, d2] => { results := [.lit (.bool true)], args := [d1, d2] }
  | _ => none }
def fnExactHashRow : OpenClaim := { program := "ytdiglhphoplplaa", sum := "81712e596cc2578f2520fa8195a25f755facd5f392d136d6bd10f19787111c48", func := "loop.example/g00214/laws.FnExactHash", spec := "fnExactHash", apart := false }
def FnExactHashSaid : Prop := fnExactHashRow.holds Try.pinned (OpenSpec.ofChange fnExactHashSpec)

/-- ITS FALSE NEIGHBOUR: 'it returns false'. Refute it at one input. -/
def fnExactHashWrong : ChangeSpec := { name := "fnExactHash", fn := fun _ => fun
  | [d1, d2] => { results := [.lit (.bool false)], args := [d1, d2] }
  | _ => none }
def FnExactHashWrongFalsely : Prop := fnExactHashRow.holds Try.pinned (OpenSpec.ofChange fnExactHashWrong)

/-- 'laws.FnExactUsersOk': WHATEVER THE INPUT: true; the input reads as it did. -/
def fnExactUsersOkSpec : ChangeSpec := { name := "fnExactUsersOk", fn := fun _ => fun
  | [d] => { results := [.lit (.bool true)], args := [d] }
  | _ => none }
def fnExactUsersOkRow : OpenClaim := { program := "ytdiglhphoplplaa", sum := "81712e596cc2578f2520fa8195a25f755facd5f392d136d6bd10f19787111c48", func := "loop.example/g00214/laws.FnExactUsersOk", spec := "fnExactUsersOk", unfollowed := true, recurses := true, apart := false }
def FnExactUsersOkSaid : Prop := fnExactUsersOkRow.holds Try.pinned (OpenSpec.ofChange fnExactUsersOkSpec)

/-- ITS FALSE NEIGHBOUR: 'it returns false'. Refute it at one input. -/
def fnExactUsersOkWrong : ChangeSpec := { name := "fnExactUsersOk", fn := fun _ => fun
  | [d] => { results := [.lit (.bool false)], args := [d] }
  | _ => none }
def FnExactUsersOkWrongFalsely : Prop := fnExactUsersOkRow.holds Try.pinned (OpenSpec.ofChange fnExactUsersOkWrong)

/-- 'laws.FnExactBloomMay': WHATEVER THE INPUT: true; the input reads as it did. -/
def fnExactBloomMaySpec : ChangeSpec := { name := "fnExactBloomMay", fn := fun _ => fun
  | [d1, d2] => { results := [.lit (.bool true)], args := [d1, d2] }
  | _ => none }
def fnExactBloomMayRow : OpenClaim := { program := "ytdiglhphoplplaa", sum := "81712e596cc2578f2520fa8195a25f755facd5f392d136d6bd10f19787111c48", func := "loop.example/g00214/laws.FnExactBloomMay", spec := "fnExactBloomMay", unfollowed := true, recurses := true, apart := false }
def FnExactBloomMaySaid : Prop := fnExactBloomMayRow.holds Try.pinned (OpenSpec.ofChange fnExactBloomMaySpec)

/-- ITS FALSE NEIGHBOUR: 'it returns false'. Refute it at one input. -/
def fnExactBloomMayWrong : ChangeSpec := { name := "fnExactBloomMay", fn := fun _ => fun
  | [d1, d2] => { results := [.lit (.bool false)], args := [d1, d2] }
  | _ => none }
def FnExactBloomMayWrongFalsely : Prop := fnExactBloomMayRow.holds Try.pinned (OpenSpec.ofChange fnExactBloomMayWrong)

/-- 'laws.FnExactBloomOf': WHATEVER THE INPUT: true; the input reads as it did. -/
def fnExactBloomOfSpec : ChangeSpec := { name := "fnExactBloomOf", fn := fun _ => fun
  | [d1, d2] => { results := [.lit (.bool true)], args := [d1, d2] }
  | _ => none }
def fnExactBloomOfRow : OpenClaim := { program := "ytdiglhphoplplaa", sum := "81712e596cc2578f2520fa8195a25f755facd5f392d136d6bd10f19787111c48", func := "loop.example/g00214/laws.FnExactBloomOf", spec := "fnExactBloomOf", unfollowed := true, recurses := true, apart := false }
def FnExactBloomOfSaid : Prop := fnExactBloomOfRow.holds Try.pinned (OpenSpec.ofChange fnExactBloomOfSpec)

/-- ITS FALSE NEIGHBOUR: 'it returns false'. Refute it at one input. -/
def fnExactBloomOfWrong : ChangeSpec := { name := "fnExactBloomOf", fn := fun _ => fun
  | [d1, d2] => { results := [.lit (.bool false)], args := [d1, d2] }
  | _ => none }
def FnExactBloomOfWrongFalsely : Prop := fnExactBloomOfRow.holds Try.pinned (OpenSpec.ofChange fnExactBloomOfWrong)

/- THE SECOND FORM. 'bulk': how many values and letters a reading holds, each counted each time it is reached (what is shared counts as often as it is met; a slice's spare places count too). A statement '..UptoSaid' is the law's where the arguments, and the package variables that the reading takes, are together of bulk at most 1048576: NARROWER than '..Said'. Prove '..Said' where nothing that the law and all that it calls make is longer than what came in: it says more and counts as full. Else prove '..UptoSaid'. A law counts once. -/
mutual
def uptoBulk {H : Type} : DataW H → Nat
  | .lit (.string bytes) => bytes.length + 1
  | .lit _ => 1
  | .nil => 1
  | .ptr d => uptoBulk d + 1
  | .slice elems spare => uptoBulkAll elems + uptoBulkAll spare + 1
  | .agg parts => uptoBulkAll parts + 1
  | .iface _ d => uptoBulk d + 1
  | .map entries => uptoBulkEntries entries + 1
  | .held _ => 1
def uptoBulkAll {H : Type} : List (DataW H) → Nat
  | [] => 0
  | d :: r => uptoBulk d + uptoBulkAll r
def uptoBulkEntries {H : Type} : List (Lit × DataW H) → Nat
  | [] => 0
  | x :: r => uptoBulkEntry x + uptoBulkEntries r
def uptoBulkEntry {H : Type} : Lit × DataW H → Nat
  | (.string bytes, d) => bytes.length + uptoBulk d + 1
  | (_, d) => uptoBulk d + 1
 end
def uptoSmall : (H : Type) → List (DataW H) → Bool := fun _ ds => decide (uptoBulkAll ds ≤ 1048576)
def OpenSpec.upto (s : _root_.Go.ChangeSpec) : _root_.Go.OpenSpec := { _root_.Go.OpenSpec.ofChange s with cond := some uptoSmall }

/-- 'laws.FnExactCrc', WHERE WHAT IT READS IS OF BULK AT MOST 1048576: true; the input reads as it did. -/
def fnExactCrcUptoRow : OpenClaim := { program := "ytdiglhphoplplaa", sum := "81712e596cc2578f2520fa8195a25f755facd5f392d136d6bd10f19787111c48", func := "loop.example/g00214/laws.FnExactCrc", spec := "fnExactCrc", apart := false, narrowed := true }
def FnExactCrcUptoSaid : Prop := fnExactCrcUptoRow.holds Try.pinned (OpenSpec.upto fnExactCrcSpec)

/-- 'laws.FnSums', WHERE WHAT IT READS IS OF BULK AT MOST 1048576: true; the input reads as it did. -/
def fnSumsUptoRow : OpenClaim := { program := "ytdiglhphoplplaa", sum := "81712e596cc2578f2520fa8195a25f755facd5f392d136d6bd10f19787111c48", func := "loop.example/g00214/laws.FnSums", spec := "fnSums", apart := false, narrowed := true }
def FnSumsUptoSaid : Prop := fnSumsUptoRow.holds Try.pinned (OpenSpec.upto fnSumsSpec)

/-- 'laws.FnExactHash', WHERE WHAT IT READS IS OF BULK AT MOST 1048576: true; the input reads as it did. -/
def fnExactHashUptoRow : OpenClaim := { program := "ytdiglhphoplplaa", sum := "81712e596cc2578f2520fa8195a25f755facd5f392d136d6bd10f19787111c48", func := "loop.example/g00214/laws.FnExactHash", spec := "fnExactHash", apart := false, narrowed := true }
def FnExactHashUptoSaid : Prop := fnExactHashUptoRow.holds Try.pinned (OpenSpec.upto fnExactHashSpec)

/-- 'laws.FnExactUsersOk', WHERE WHAT IT READS IS OF BULK AT MOST 1048576: true; the input reads as it did. -/
def fnExactUsersOkUptoRow : OpenClaim := { program := "ytdiglhphoplplaa", sum := "81712e596cc2578f2520fa8195a25f755facd5f392d136d6bd10f19787111c48", func := "loop.example/g00214/laws.FnExactUsersOk", spec := "fnExactUsersOk", unfollowed := true, recurses := true, apart := false, narrowed := true }
def FnExactUsersOkUptoSaid : Prop := fnExactUsersOkUptoRow.holds Try.pinned (OpenSpec.upto fnExactUsersOkSpec)

/-- 'laws.FnExactBloomMay', WHERE WHAT IT READS IS OF BULK AT MOST 1048576: true; the input reads as it did. -/
def fnExactBloomMayUptoRow : OpenClaim := { program := "ytdiglhphoplplaa", sum := "81712e596cc2578f2520fa8195a25f755facd5f392d136d6bd10f19787111c48", func := "loop.example/g00214/laws.FnExactBloomMay", spec := "fnExactBloomMay", unfollowed := true, recurses := true, apart := false, narrowed := true }
def FnExactBloomMayUptoSaid : Prop := fnExactBloomMayUptoRow.holds Try.pinned (OpenSpec.upto fnExactBloomMaySpec)

/-- 'laws.FnExactBloomOf', WHERE WHAT IT READS IS OF BULK AT MOST 1048576: true; the input reads as it did. -/
def fnExactBloomOfUptoRow : OpenClaim := { program := "ytdiglhphoplplaa", sum := "81712e596cc2578f2520fa8195a25f755facd5f392d136d6bd10f19787111c48", func := "loop.example/g00214/laws.FnExactBloomOf", spec := "fnExactBloomOf", unfollowed := true, recurses := true, apart := false, narrowed := true }
def FnExactBloomOfUptoSaid : Prop := fnExactBloomOfUptoRow.holds Try.pinned (OpenSpec.upto fnExactBloomOfSpec)

end Rows
end Go.Proofs.Ytdiglhphoplplaa
