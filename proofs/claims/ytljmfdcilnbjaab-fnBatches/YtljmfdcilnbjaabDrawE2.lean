/- What the laws on rows draw: an entry. -/
import Derived.Test.YtljmfdcilnbjaabDrawE
namespace Go.Proofs.Ytljmfdcilnbjaab
set_option maxRecDepth 100000
open Go.RowKit

theorem entry_boxes {g : Nat} {w w3 w4 : World} {S T : TypeId} {x0 x1 x2 x3 y0 y1 y2 y3 : Value} (hm3 : Mv g (w.alloc (.cells #[x0, x1, x2, x3] S)) w3) (hm4 : Mv g (w3.alloc (.cells #[y0, y1, y2, y3] T)) w4) (hg : g < w.heap.size) :
    (w4.cell? ⟨w.heap.size, 0, none⟩ = some x0 ∧ w4.cell? ⟨w.heap.size, 1, none⟩ = some x1 ∧ w4.cell? ⟨w.heap.size, 2, none⟩ = some x2 ∧ w4.cell? ⟨w.heap.size, 3, none⟩ = some x3) ∧
    (w4.cell? ⟨w3.heap.size, 0, none⟩ = some y0 ∧ w4.cell? ⟨w3.heap.size, 1, none⟩ = some y1 ∧ w4.cell? ⟨w3.heap.size, 2, none⟩ = some y2 ∧ w4.cell? ⟨w3.heap.size, 3, none⟩ = some y3) ∧
    (∀ o, w4.frozen? ⟨w.heap.size, o, none⟩ = false) ∧ (∀ o, w4.frozen? ⟨w3.heap.size, o, none⟩ = false) ∧ w.heap.size < w3.heap.size := by
  have hz : w.heap.size < w3.heap.size := by have := hm3.size; simp at this; omega
  have hc : ∀ o, w4.cell? ⟨w.heap.size, o, none⟩ = (w.alloc (.cells #[x0, x1, x2, x3] S)).cell? ⟨w.heap.size, o, none⟩ := fun o => by
    rw [hm4.cell (by simp; omega) (by simp; omega), World.cell?_alloc_past _ _ _ hz, hm3.cell (by simp) (by simp; omega)]
  have hk : ∀ o, w4.cell? ⟨w3.heap.size, o, none⟩ = (w3.alloc (.cells #[y0, y1, y2, y3] T)).cell? ⟨w3.heap.size, o, none⟩ := fun o => by
    rw [hm4.cell (by simp) (by simp; omega)]
  refine ⟨⟨by rw [hc]; simp, by rw [hc]; simp, by rw [hc]; simp, by rw [hc]; simp⟩, ⟨by rw [hk]; simp, by rw [hk]; simp, by rw [hk]; simp, by rw [hk]; simp⟩, fun o => ?_, fun o => ?_, hz⟩
  · rw [hm4.frozen (by simp; omega) (by simp; omega), World.frozen?_alloc_past _ _ _ hz, hm3.frozen (by simp) (by simp; omega)]
    exact World.frozen?_alloc_at _ _ _ _ rfl
  · rw [hm4.frozen (by simp) (by simp; omega)]
    exact World.frozen?_alloc_at _ _ _ _ rfl

end Go.Proofs.Ytljmfdcilnbjaab
