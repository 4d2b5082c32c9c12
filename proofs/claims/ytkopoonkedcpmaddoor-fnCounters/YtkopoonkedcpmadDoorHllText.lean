/- The program's text of registers. -/
import Derived.Test.YtkopoonkedcpmadDoorRegsOf
namespace Go.Proofs.YtkopoonkedcpmadDoor
open Go.RowKit

theorem ret_str {a b : ByteArray} (h : a = b) : Ending.returned (.string a) = .returned (.string b) := by rw [h]

/-- The program's text of registers. -/
theorem impl_text (l : List Int) (hl : IsRegs l) (w : World) :
    Calls Tryd.prog 14 #[.agg (vals l)] w fun e w' => e = .returned (.string (strOfNums l)) ∧ Below w.heap.size w w' := by
  have hcv : (convert 22 9 (.slice (some ⟨w.heap.size, 0, none⟩) 64 64)).run Tryd.prog (w.alloc (.cells (vals l) 34)) = .ok (.string (strOfNums l)) (w.alloc (.cells (vals l) 34)) := by
    refine run_convert_bytes_arg (P := Tryd.prog) _ 22 5 Tryd.underlying22 Tryd.underlying5 w.heap.size 0 64 64 l hl.1 (fun i hi => ?_) 9 Tryd.underlying9
    rw [Nat.zero_add, cell_of_row _ _ _ _ _ _ (heap_alloc_new w _), vals_get, List.getD, List.getElem?_eq_getElem (by rw [hl.1]; exact hi)]
    rfl
  go_enter Tryd.func14, Tryd.ntmps14
  go_wp2
  go_ret
  exact ⟨rfl, (Below.refl _ _).alloc (Nat.le_refl _) _⟩

end Go.Proofs.YtkopoonkedcpmadDoor
