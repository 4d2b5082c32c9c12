/- The marks in a row of EntryS: laid and looked for. -/
import Derived.Test.YtljmfdcilnbjaabMark
namespace Go.Proofs.Ytljmfdcilnbjaab
set_option maxRecDepth 100000
open Go.RowKit

def kdEntryS (j : Nat) : Bool := decide (j % 4 = 1) || decide (j % 4 = 2)
theorem kdEntryS_0 (k : Nat) : kdEntryS (k * 4) = false := by unfold kdEntryS; simp <;> omega
theorem kdEntryS_1 (k : Nat) : kdEntryS (k * 4 + 1) = true := by unfold kdEntryS; simp <;> omega
theorem kdEntryS_2 (k : Nat) : kdEntryS (k * 4 + 2) = true := by unfold kdEntryS; simp <;> omega
theorem kdEntryS_3 (k : Nat) : kdEntryS (k * 4 + 3) = false := by unfold kdEntryS; simp <;> omega

end Go.Proofs.Ytljmfdcilnbjaab
