/- Rows of numbers that came in as an argument; rows of entries from one world to the next, and as an answer. -/
import Derived.Test.YtjcoejabpagaiaaInts
import Derived.Test.YtjcoejabpagaiaaLEntsOk
namespace Go.Proofs.Ytjcoejabpagaiaa
set_option maxRecDepth 100000
open Go.RowKit Go.Deep

/-- What came in: numbers. -/
def IsInts (W : World) (v : Value) : Prop := ∃ a len cap S, v = .slice a len cap ∧ len ≤ maxLen ∧ IntAt W W.heap.size a len S

theorem open_intsarg {H : Type} {enc : TypeId × Value → H} {w : World} {r : Reach} {b0 base : Nat} {spare : Nat → Bool} {held : Bool} {v : Value} {d : DataW H} {p : List MemPlace}
    (hv : Value.okWide Try.prog w r b0 69 v) (h : DataW.Trod enc Try.prog w base spare held 69 v d p) : IsInts w v := by
  obtain ⟨a, len, cap, rfl⟩ := WideShapes.okWide_slice Try.underlying69 hv
  obtain ⟨fuel, hf⟩ := h
  obtain ⟨a', len', cap', S, hcs, hl, hS⟩ := ints_trod hf
  simp [Value.cells] at hcs
  obtain ⟨rfl, rfl, rfl⟩ := hcs
  exact ⟨_, _, _, S, rfl, hl, hS⟩

theorem EntAt.next {w w' : World} {a : Option Addr} {len : Nat} {E : Ents} (h : EntAt w w.heap.size a len E) (hb : Below w.heap.size w w') : EntAt w' w'.heap.size a len E := (h.below hb).mono hb.size
theorem EntAt.hid {w : World} {B : Nat} {a : Option Addr} {len : Nat} {E : Ents} (h : EntAt w B a len E) : Hid (EntAt w B a len E) := h
theorem entAt_mine {w : World} {B : Nat} {ty : TypeId} {a : Option Addr} {p n : Nat} {E : Ents} (h : Mine w B ty 4 a p n (entCell E)) : EntAt w w.heap.size a n E := by
  rcases h.at with h | ⟨g, rfl, _, hg, hc⟩
  · exact .inl h
  · refine .inr ⟨g, 0, rfl, hg, fun i hi => ?_⟩
    rw [Nat.zero_add, hc _ (by omega), hc _ (by omega), hc _ (by omega), hc _ (by omega), entCell0, entCell1, entCell2, entCell3]
    exact ⟨rfl, rfl, rfl, rfl⟩

end Go.Proofs.Ytjcoejabpagaiaa
