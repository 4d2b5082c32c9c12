/- Edit: a struct with rows in it: what came in, the copies that the laws make; its size, and that two are alike. (By gen_box.py.) -/
import Derived.Test.YtplemoedpdammaaInts
import Derived.Test.YtplemoedpdammaaMetas
import Derived.Test.YtplemoedpdammaaBox
namespace Go.Proofs.Ytplemoedpdammaa
set_option maxRecDepth 100000
open Go.RowKit Go.Deep

/-- What a edit holds. -/
structure EditC where
  n0 : Nat
  r0 : Metas
  n1 : Nat
  r1 : Nat → Int
  x2 : Int
  x3 : Int
  x4 : Int

/-- A value that is this edit in this world. -/
def EditIs (w : World) (v : Value) (c : EditC) : Prop := ∃ a0 p0 a1 p1, v = .agg #[.slice a0 c.n0 p0, .slice a1 c.n1 p1, .int .i64 c.x2, .int .i64 c.x3, .int .i64 c.x4] ∧ MetaAt w w.heap.size a0 c.n0 c.r0 ∧ IntAt w w.heap.size a1 c.n1 c.r1

theorem EditIs.next {w w' : World} {v : Value} {c : EditC} (h : EditIs w v c) (hb : Below w.heap.size w w') : EditIs w' v c := by
  obtain ⟨a0, p0, a1, p1, rfl, h0, h1⟩ := h
  exact ⟨a0, p0, a1, p1, rfl, (h0.below hb).mono hb.size, (h1.below hb).mono hb.size⟩
theorem EditIs.at_old {w w' : World} {v : Value} {c : EditC} (h : EditIs w v c) (hb : Below w.heap.size w w') : EditIs w' v c := h.next hb
theorem EditIs.hid {w : World} {v : Value} {c : EditC} (h : EditIs w v c) : Hid (EditIs w v c) := h

/-- What came in is within reach. -/
def EditC.Small (c : EditC) : Prop := c.n0 ≤ maxLen ∧ (∀ i, i < c.n0 → (c.r0.F i).size ≤ maxLen ∧ (c.r0.Z i).size ≤ maxLen) ∧ c.n1 ≤ maxLen
/-- .. and not too long. -/
def EditC.Fit (c : EditC) : Prop := c.n0 ≤ 1048576 ∧ c.n1 ≤ 1048576

/-- The copy is the same edit. -/
theorem EditIs.of_rows {w : World} {c : EditC} {g0 g1 : Nat} (h0 : w.rowIs g0 62 (c.n0 * 5) (metaCell c.r0)) (h1 : w.rowIs g1 2 c.n1 (fun i => .int .i64 (c.r1 i))) : EditIs w (.agg #[.slice (some ⟨g0, 0, none⟩) c.n0 c.n0, .slice (some ⟨g1, 0, none⟩) c.n1 c.n1, .int .i64 c.x2, .int .i64 c.x3, .int .i64 c.x4]) c :=
  ⟨_, _, _, _, rfl, metaAt_row h0 h0.lt, intAt_row h1 h1.lt⟩

/-- What came in: a edit within reach. -/
def ArgEdit (W : World) (v : Value) : Prop := ∃ c, EditIs W v c ∧ c.Small

end Go.Proofs.Ytplemoedpdammaa
