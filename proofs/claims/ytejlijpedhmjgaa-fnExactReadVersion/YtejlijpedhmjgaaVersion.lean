/- Version: a struct with rows in it: what came in, the copies that the laws make; its size, and that two are alike. (By gen_box.py.) -/
import Derived.Test.YtejlijpedhmjgaaMetas
import Derived.Test.YtejlijpedhmjgaaBox
namespace Go.Proofs.Ytejlijpedhmjgaa
set_option maxRecDepth 100000
open Go.RowKit Go.Deep

/-- What a version holds. -/
structure VersionC where
  n0 : Nat
  r0 : Metas
  x1 : Int
  x2 : Int
  x3 : Int

/-- A value that is this version in this world. -/
def VersionIs (w : World) (v : Value) (c : VersionC) : Prop := ∃ a0 p0, v = .agg #[.slice a0 c.n0 p0, .int .i64 c.x1, .int .i64 c.x2, .int .i64 c.x3] ∧ MetaAt w w.heap.size a0 c.n0 c.r0

theorem VersionIs.next {w w' : World} {v : Value} {c : VersionC} (h : VersionIs w v c) (hb : Below w.heap.size w w') : VersionIs w' v c := by
  obtain ⟨a0, p0, rfl, h0⟩ := h
  exact ⟨a0, p0, rfl, (h0.below hb).mono hb.size⟩
theorem VersionIs.at_old {w w' : World} {v : Value} {c : VersionC} (h : VersionIs w v c) (hb : Below w.heap.size w w') : VersionIs w' v c := h.next hb
theorem VersionIs.hid {w : World} {v : Value} {c : VersionC} (h : VersionIs w v c) : Hid (VersionIs w v c) := h

/-- What came in is within reach. -/
def VersionC.Small (c : VersionC) : Prop := c.n0 ≤ maxLen ∧ (∀ i, i < c.n0 → (c.r0.F i).size ≤ maxLen ∧ (c.r0.Z i).size ≤ maxLen)
/-- .. and not too long. -/
def VersionC.Fit (c : VersionC) : Prop := c.n0 ≤ 1048576

/-- The copy is the same version. -/
theorem VersionIs.of_rows {w : World} {c : VersionC} {g0 : Nat} (h0 : w.rowIs g0 65 (c.n0 * 5) (metaCell c.r0)) : VersionIs w (.agg #[.slice (some ⟨g0, 0, none⟩) c.n0 c.n0, .int .i64 c.x1, .int .i64 c.x2, .int .i64 c.x3]) c :=
  ⟨_, _, rfl, metaAt_row h0 h0.lt⟩

set_option maxHeartbeats 1000000 in
set_option linter.unusedVariables false in
theorem laws_eqVersion (v u : Value) (c : VersionC) (w : World) (hl : c.Fit) (hv : VersionIs w v c) (hu : VersionIs w u c) :
    Calls Try.prog 24 #[v, u] w fun e w' => e = .returned (.bool true) ∧ Below w.heap.size w w' := by
  obtain ⟨a0, p0, rfl, hS0⟩ := hv
  obtain ⟨b0, q0, rfl, hT0⟩ := hu
  have hn0 : c.n0 ≤ 1048576 := hl
  have hB0 : Below w.heap.size w ((w.alloc (.cells #[.slice a0 c.n0 p0, .int .i64 c.x1, .int .i64 c.x2, .int .i64 c.x3] 46)).alloc (.cells #[.slice b0 c.n0 q0, .int .i64 c.x1, .int .i64 c.x2, .int .i64 c.x3] 46)) := ((Below.refl _ _).alloc (Nat.le_refl _) _).alloc (by simp) _
  have k0 : BoxIs ((w.alloc (.cells #[.slice a0 c.n0 p0, .int .i64 c.x1, .int .i64 c.x2, .int .i64 c.x3] 46)).alloc (.cells #[.slice b0 c.n0 q0, .int .i64 c.x1, .int .i64 c.x2, .int .i64 c.x3] 46)) w.heap.size #[.slice a0 c.n0 p0, .int .i64 c.x1, .int .i64 c.x2, .int .i64 c.x3] 46 := (BoxIs.new w _ _ rfl).next ((Below.refl _ _).alloc (Nat.le_refl _) _)
  have l0 : BoxIs ((w.alloc (.cells #[.slice a0 c.n0 p0, .int .i64 c.x1, .int .i64 c.x2, .int .i64 c.x3] 46)).alloc (.cells #[.slice b0 c.n0 q0, .int .i64 c.x1, .int .i64 c.x2, .int .i64 c.x3] 46)) (w.heap.size + 1) #[.slice b0 c.n0 q0, .int .i64 c.x1, .int .i64 c.x2, .int .i64 c.x3] 46 := BoxIs.new _ _ _ (by simp)
  have HS0 := ((hS0.below hB0).mono hB0.size).hid
  have HT0 := ((hT0.below hB0).mono hB0.size).hid
  clear hl hS0 hT0
  go_enter Try.func24, Try.ntmps24
  go_wp2_with fail
  generalize (w.alloc (.cells #[.slice a0 c.n0 p0, .int .i64 c.x1, .int .i64 c.x2, .int .i64 c.x3] 46)).alloc (.cells #[.slice b0 c.n0 q0, .int .i64 c.x1, .int .i64 c.x2, .int .i64 c.x3] 46) = W at hB0 k0 l0 HS0 HT0 ⊢
  refine (laws_eqMetaS a0 b0 c.n0 p0 q0 c.r0 W hn0 HS0.out HT0.out).mono ?_
  rintro e w0 ⟨rfl, hb0⟩
  have hC0 := hB0.trans (hb0.mono hB0.size)
  have k1 := k0.next hb0
  have l1 := l0.next hb0
  have m1 := k1.cell 1
  have o1 := l1.cell 1
  have m2 := k1.cell 2
  have o2 := l1.cell 2
  have m3 := k1.cell 3
  have o3 := l1.cell 3
  clear hb0 hB0 HS0 HT0
  go_wp2
  go_ret
  exact ⟨rfl, hC0⟩

/-- What came in: a version within reach. -/
def ArgVersion (W : World) (v : Value) : Prop := ∃ c, VersionIs W v c ∧ c.Small

end Go.Proofs.Ytejlijpedhmjgaa
