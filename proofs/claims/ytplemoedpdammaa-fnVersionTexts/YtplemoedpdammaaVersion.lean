/- Version: a struct with rows in it: what came in, the copies that the laws make; its size, and that two are alike. (By gen_box.py.) -/
import Derived.Test.YtplemoedpdammaaMetas
import Derived.Test.YtplemoedpdammaaBox
namespace Go.Proofs.Ytplemoedpdammaa
set_option maxRecDepth 100000
open Go.RowKit Go.Deep

/-- What a version holds. -/
structure VersionC where
  n0 : Nat
  r0 : Metas
  x1 : Int
  x2 : Int
  x3 : Int

/-- A value that is this version in this world. -/
def VersionIs (w : World) (v : Value) (c : VersionC) : Prop := ∃ a0 p0, v = .agg #[.slice a0 c.n0 p0, .int .i64 c.x1, .int .i64 c.x2, .int .i64 c.x3] ∧ MetaAt w w.heap.size a0 c.n0 c.r0

theorem VersionIs.next {w w' : World} {v : Value} {c : VersionC} (h : VersionIs w v c) (hb : Below w.heap.size w w') : VersionIs w' v c := by
  obtain ⟨a0, p0, rfl, h0⟩ := h
  exact ⟨a0, p0, rfl, (h0.below hb).mono hb.size⟩
theorem VersionIs.at_old {w w' : World} {v : Value} {c : VersionC} (h : VersionIs w v c) (hb : Below w.heap.size w w') : VersionIs w' v c := h.next hb
theorem VersionIs.hid {w : World} {v : Value} {c : VersionC} (h : VersionIs w v c) : Hid (VersionIs w v c) := h

/-- What came in is within reach. -/
def VersionC.Small (c : VersionC) : Prop := c.n0 ≤ maxLen ∧ (∀ i, i < c.n0 → (c.r0.F i).size ≤ maxLen ∧ (c.r0.Z i).size ≤ maxLen)
/-- .. and not too long. -/
def VersionC.Fit (c : VersionC) : Prop := c.n0 ≤ 1048576

/-- The copy is the same version. -/
theorem VersionIs.of_rows {w : World} {c : VersionC} {g0 : Nat} (h0 : w.rowIs g0 62 (c.n0 * 5) (metaCell c.r0)) : VersionIs w (.agg #[.slice (some ⟨g0, 0, none⟩) c.n0 c.n0, .int .i64 c.x1, .int .i64 c.x2, .int .i64 c.x3]) c :=
  ⟨_, _, rfl, metaAt_row h0 h0.lt⟩

/-- What came in: a version within reach. -/
def ArgVersion (W : World) (v : Value) : Prop := ∃ c, VersionIs W v c ∧ c.Small

end Go.Proofs.Ytplemoedpdammaa
