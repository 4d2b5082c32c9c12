/-
  DERIVED. GIVEN WITH THE SEED: THE CARDS: each row of YtkopoonkedcpmaaDoorRows.lean that lists a variable, with what it lists TIED to the program's text (the seventh form; the later family's looks); each row that meets fmt, with fmt's text TOLD by the authors' own Lean function (tested against real Go, not proved from fmt's source: count such statements apart). THE CARD IS WHAT COUNTS. Prove the row's statement (the work); the ties are given (YtkopoonkedcpmaaDoorTie.lean); close each card by the builder's one call (the guide's Derived/Test/ToyasCard.lean, 'card_holds'). Laid BY PROGRAM, IN A SANDBOX (cutbox-door.mjs). By AI agents, Wed Nov 11 2026. No macro, syntax, notation, axiom, sorry.
-/
import Derived.Test.YtkopoonkedcpmaaDoorRows
import GoSem.ClaimSeven
namespace Go.Proofs.YtkopoonkedcpmaaDoor
namespace Rows

/-- THE TIED CARD OF 'laws.FnExactHllOf'. -/
def fnExactHllOfCard : Claim7 := { stood := { row := fnExactHllOfRow, standIns := [], harness := (true, "17acca83e6d97c14e81700c2fdc0c3dfd2be9c8dd151394d9821e885ed9eb205"), looks := false }, kinds := [], alts := [], laidByText := true, laidKinds := [.data], laidTests := true, laidLooks := .later }
def FnExactHllOfCardSaid : Prop := Claim7.holds Tryd.pinned (.plain (OpenSpec.ofChange fnExactHllOfSpec)) fnExactHllOfCard

/-- THE TIED CARD OF 'laws.FnExactHllAdd'. -/
def fnExactHllAddCard : Claim7 := { stood := { row := fnExactHllAddRow, standIns := [], harness := (true, "17acca83e6d97c14e81700c2fdc0c3dfd2be9c8dd151394d9821e885ed9eb205"), looks := false }, kinds := [], alts := [], laidByText := true, laidKinds := [.data], laidTests := true, laidLooks := .later }
def FnExactHllAddCardSaid : Prop := Claim7.holds Tryd.pinned (.plain (OpenSpec.ofChange fnExactHllAddSpec)) fnExactHllAddCard

/-- THE TIED CARD OF 'laws.FnCounted'. -/
def fnCountedCard : Claim7 := { stood := { row := fnCountedRow, standIns := [], harness := (true, "17acca83e6d97c14e81700c2fdc0c3dfd2be9c8dd151394d9821e885ed9eb205"), looks := false }, kinds := [], alts := [], laidByText := true, laidKinds := [.data], laidTests := true, laidLooks := .later }
def FnCountedCardSaid : Prop := Claim7.holds Tryd.pinned (.plain (OpenSpec.ofChange fnCountedSpec)) fnCountedCard

/-- THE SECOND FORM's CARD OF 'laws.FnExactHllOf'. -/
def fnExactHllOfUptoCard : Claim7 := { stood := { row := fnExactHllOfUptoRow, standIns := [], harness := (true, "17acca83e6d97c14e81700c2fdc0c3dfd2be9c8dd151394d9821e885ed9eb205"), looks := false }, kinds := [], alts := [], laidByText := true, laidKinds := [.data], laidTests := true, laidLooks := .later }
def FnExactHllOfUptoCardSaid : Prop := Claim7.holds Tryd.pinned (.plain (OpenSpec.upto fnExactHllOfSpec)) fnExactHllOfUptoCard

/-- THE SECOND FORM's CARD OF 'laws.FnExactHllAdd'. -/
def fnExactHllAddUptoCard : Claim7 := { stood := { row := fnExactHllAddUptoRow, standIns := [], harness := (true, "17acca83e6d97c14e81700c2fdc0c3dfd2be9c8dd151394d9821e885ed9eb205"), looks := false }, kinds := [], alts := [], laidByText := true, laidKinds := [.data], laidTests := true, laidLooks := .later }
def FnExactHllAddUptoCardSaid : Prop := Claim7.holds Tryd.pinned (.plain (OpenSpec.upto fnExactHllAddSpec)) fnExactHllAddUptoCard

/-- THE SECOND FORM's CARD OF 'laws.FnCounted'. -/
def fnCountedUptoCard : Claim7 := { stood := { row := fnCountedUptoRow, standIns := [], harness := (true, "17acca83e6d97c14e81700c2fdc0c3dfd2be9c8dd151394d9821e885ed9eb205"), looks := false }, kinds := [], alts := [], laidByText := true, laidKinds := [.data], laidTests := true, laidLooks := .later }
def FnCountedUptoCardSaid : Prop := Claim7.holds Tryd.pinned (.plain (OpenSpec.upto fnCountedSpec)) fnCountedUptoCard
end Rows
end Go.Proofs.YtkopoonkedcpmaaDoor
