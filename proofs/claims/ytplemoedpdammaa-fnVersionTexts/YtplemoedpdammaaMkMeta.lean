/- The marks in a row of MetaS: laid and looked for. -/
import Derived.Test.YtplemoedpdammaaMark
namespace Go.Proofs.Ytplemoedpdammaa
set_option maxRecDepth 100000
open Go.RowKit

def kdMetaS (j : Nat) : Bool := decide (j % 5 = 0) || decide (j % 5 = 1) || decide (j % 5 = 4)
theorem kdMetaS_0 (k : Nat) : kdMetaS (k * 5) = true := by unfold kdMetaS; simp <;> omega
theorem kdMetaS_1 (k : Nat) : kdMetaS (k * 5 + 1) = true := by unfold kdMetaS; simp <;> omega
theorem kdMetaS_2 (k : Nat) : kdMetaS (k * 5 + 2) = false := by unfold kdMetaS; simp <;> omega
theorem kdMetaS_3 (k : Nat) : kdMetaS (k * 5 + 3) = false := by unfold kdMetaS; simp <;> omega
theorem kdMetaS_4 (k : Nat) : kdMetaS (k * 5 + 4) = true := by unfold kdMetaS; simp <;> omega

end Go.Proofs.Ytplemoedpdammaa
