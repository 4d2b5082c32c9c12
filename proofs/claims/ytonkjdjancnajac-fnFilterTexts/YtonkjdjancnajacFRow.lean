/- A row of bytes in a block of one's own, made of a text's bytes, written in place and read back as a text. -/
import Derived.Test.YtonkjdjancnajacRegs
import Derived.Laws.IdiomStrings
namespace Go.Proofs.Ytonkjdjancnajac
set_option maxRecDepth 100000
open Go.RowKit

/-- Block g holds the bytes l from its beginning on. -/
def FRow (w : World) (g : Nat) (l : List Int) : Prop := ∀ i x, l[i]? = some x → w.cell? ⟨g, i, none⟩ = some (.int .u8 x) ∧ w.frozen? ⟨g, i, none⟩ = false

theorem fresh_row (w : World) (s : ByteArray) : ∃ (C : Nat) (w1 : World), (convert 9 33 (.string s)).run Try.prog w = .ok (.slice (some ⟨w.heap.size, 0, none⟩) s.size C) w1 ∧ FRow w1 w.heap.size (numsOf s) ∧ Below w.heap.size w w1 := by
  refine ⟨_, _, run_bytes_of_string (P := Try.prog) w 9 33 5 s Try.underlying9 Try.underlying33 Try.underlying5, ?_⟩
  have hsz : s.size ≤ (bytesRow s (grownCap w s.size 0 5)).size := by unfold bytesRow; simp
  have hz : w.drew.heap.size = w.heap.size := rfl
  refine ⟨fun i x hx => ⟨?_, ?_⟩, ?_⟩
  · have h : i < s.size := by
      have := (List.getElem?_eq_some_iff.1 hx).1
      rwa [numsOf_len] at this
    have e := numsOf_get s i h
    rw [hx] at e
    rw [← hz, World.cell?_alloc_mark]
    unfold bytesRow
    rw [Array.getElem?_append_left (by simpa using h), Array.getElem?_map, Array.getElem?_eq_getElem (by simpa using h)]
    simp only [Option.some.injEq] at e
    rw [e]
    rfl
  · have h : i < s.size := by
      have := (List.getElem?_eq_some_iff.1 hx).1
      rwa [numsOf_len] at this
    rw [← hz, World.frozen?_alloc_mark]
    simp
    omega
  · exact (Below.drew (Below.refl _ _)).alloc (Nat.le_refl _) _

theorem FRow.set {w : World} {g : Nat} {l : List Int} (h : FRow w g l) (k : Nat) (x : Int) (hk : k < l.length) : FRow (w.setCell ⟨g, k, none⟩ (.int .u8 x)) g (l.set k x) := by
  intro i y hy
  by_cases e : k = i
  · subst e
    rw [List.getElem?_set_self hk] at hy
    obtain rfl : x = y := by simpa using hy
    obtain ⟨z, hz⟩ : ∃ z, l[k]? = some z := ⟨_, List.getElem?_eq_getElem hk⟩
    have hc := h k z hz
    refine ⟨World.cell?_setCell_same _ _ _ hc.1, by simpa using hc.2⟩
  · rw [List.getElem?_set_ne e] at hy
    have hc := h i y hy
    exact ⟨by rw [World.cell?_setCell_other (h := by intro h; exact e (Addr.mk.inj h).2.1)]; exact hc.1, by simpa using hc.2⟩

theorem FRow.text {w : World} {g : Nat} {l : List Int} (h : FRow w g l) (C : Nat) :
    (convert 33 9 (.slice (some ⟨g, 0, none⟩) l.length C)).run Try.prog w = .ok (.string (strOfNums l)) w := by
  refine run_convert_bytes_arg (P := Try.prog) _ 33 5 Try.underlying33 Try.underlying5 g 0 l.length C l rfl (fun i hi => ?_) 9 Try.underlying9
  rw [Nat.zero_add]
  have := (h i _ (List.getElem?_eq_getElem hi)).1
  rw [this, List.getD, List.getElem?_eq_getElem hi]
  rfl

theorem FRow.below {w w' : World} {g B : Nat} {l : List Int} (h : FRow w g l) (hb : Below B w w') (hg : g < B) : FRow w' g l := fun i x hx =>
  ⟨(hb.cell (p := ⟨g, i, none⟩) hg).trans (h i x hx).1, (hb.frozen (p := ⟨g, i, none⟩) hg).trans (h i x hx).2⟩

end Go.Proofs.Ytonkjdjancnajac
