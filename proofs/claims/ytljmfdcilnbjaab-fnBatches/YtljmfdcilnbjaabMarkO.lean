/- The marks in a row of OpS: laid and looked for. -/
import Derived.Test.YtljmfdcilnbjaabMark
namespace Go.Proofs.Ytljmfdcilnbjaab
set_option maxRecDepth 100000
open Go.RowKit

def kdOpS (j : Nat) : Bool := decide (j % 3 = 0)
theorem kdOpS_0 (k : Nat) : kdOpS (k * 3) = true := by unfold kdOpS; simp <;> omega
theorem kdOpS_1 (k : Nat) : kdOpS (k * 3 + 1) = false := by unfold kdOpS; simp <;> omega
theorem kdOpS_2 (k : Nat) : kdOpS (k * 3 + 2) = false := by unfold kdOpS; simp <;> omega

end Go.Proofs.Ytljmfdcilnbjaab
