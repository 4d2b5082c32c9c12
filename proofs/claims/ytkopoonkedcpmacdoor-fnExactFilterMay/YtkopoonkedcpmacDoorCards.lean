/-
  DERIVED. GIVEN WITH THE SEED: THE CARDS: each row of YtkopoonkedcpmacDoorRows.lean that lists a variable, with what it lists TIED to the program's text (the seventh form; the later family's looks); each row that meets fmt, with fmt's text TOLD by the authors' own Lean function (tested against real Go, not proved from fmt's source: count such statements apart). THE CARD IS WHAT COUNTS. Prove the row's statement (the work); the ties are given (YtkopoonkedcpmacDoorTie.lean); close each card by the builder's one call (the guide's Derived/Test/ToyasCard.lean, 'card_holds'). Laid BY PROGRAM, IN A SANDBOX (cutbox-door.mjs). By AI agents, Wed Nov 11 2026. No macro, syntax, notation, axiom, sorry.
-/
import Derived.Test.YtkopoonkedcpmacDoorRows
import GoSem.ClaimSeven
namespace Go.Proofs.YtkopoonkedcpmacDoor
namespace Rows

/-- THE TIED CARD OF 'laws.FnExactRibbonMay'. -/
def fnExactRibbonMayCard : Claim7 := { stood := { row := fnExactRibbonMayRow, standIns := [], harness := (true, "e4c7c17d6b0b7267ecf04a1c2b1240386c28bfaf5bdecc0bf867d392b176ab30"), looks := false }, kinds := [], alts := [], laidByText := true, laidKinds := [.data], laidTests := true, laidLooks := .later }
def FnExactRibbonMayCardSaid : Prop := Claim7.holds Tryd.pinned (.plain (OpenSpec.ofChange fnExactRibbonMaySpec)) fnExactRibbonMayCard

/-- THE TIED CARD OF 'laws.FnExactFilterMay'. -/
def fnExactFilterMayCard : Claim7 := { stood := { row := fnExactFilterMayRow, standIns := [], harness := (true, "e4c7c17d6b0b7267ecf04a1c2b1240386c28bfaf5bdecc0bf867d392b176ab30"), looks := false }, kinds := [], alts := [], laidByText := true, laidKinds := [.data], laidTests := true, laidLooks := .later }
def FnExactFilterMayCardSaid : Prop := Claim7.holds Tryd.pinned (.plain (OpenSpec.ofChange fnExactFilterMaySpec)) fnExactFilterMayCard

/-- THE SECOND FORM's CARD OF 'laws.FnExactRibbonMay'. -/
def fnExactRibbonMayUptoCard : Claim7 := { stood := { row := fnExactRibbonMayUptoRow, standIns := [], harness := (true, "e4c7c17d6b0b7267ecf04a1c2b1240386c28bfaf5bdecc0bf867d392b176ab30"), looks := false }, kinds := [], alts := [], laidByText := true, laidKinds := [.data], laidTests := true, laidLooks := .later }
def FnExactRibbonMayUptoCardSaid : Prop := Claim7.holds Tryd.pinned (.plain (OpenSpec.upto fnExactRibbonMaySpec)) fnExactRibbonMayUptoCard

/-- THE SECOND FORM's CARD OF 'laws.FnExactFilterMay'. -/
def fnExactFilterMayUptoCard : Claim7 := { stood := { row := fnExactFilterMayUptoRow, standIns := [], harness := (true, "e4c7c17d6b0b7267ecf04a1c2b1240386c28bfaf5bdecc0bf867d392b176ab30"), looks := false }, kinds := [], alts := [], laidByText := true, laidKinds := [.data], laidTests := true, laidLooks := .later }
def FnExactFilterMayUptoCardSaid : Prop := Claim7.holds Tryd.pinned (.plain (OpenSpec.upto fnExactFilterMaySpec)) fnExactFilterMayUptoCard
end Rows
end Go.Proofs.YtkopoonkedcpmacDoor
