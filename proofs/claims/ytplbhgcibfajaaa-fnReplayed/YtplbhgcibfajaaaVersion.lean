/- Version: a struct with rows in it: what came in, the copies that the laws make; its size, and that two are alike. (By gen_box.py.) -/
import Derived.Test.YtplbhgcibfajaaaMetas
import Derived.Test.YtplbhgcibfajaaaBox
namespace Go.Proofs.Ytplbhgcibfajaaa
set_option maxRecDepth 100000
open Go.RowKit Go.Deep

/-- What a version holds. -/
structure VersionC where
  n0 : Nat
  r0 : Metas
  x1 : Int
  x2 : Int
  x3 : Int

/-- A value that is this version in this world. -/
def VersionIs (w : World) (v : Value) (c : VersionC) : Prop := ∃ a0 p0, v = .agg #[.slice a0 c.n0 p0, .int .i64 c.x1, .int .i64 c.x2, .int .i64 c.x3] ∧ MetaAt w w.heap.size a0 c.n0 c.r0

theorem VersionIs.next {w w' : World} {v : Value} {c : VersionC} (h : VersionIs w v c) (hb : Below w.heap.size w w') : VersionIs w' v c := by
  obtain ⟨a0, p0, rfl, h0⟩ := h
  exact ⟨a0, p0, rfl, (h0.below hb).mono hb.size⟩
theorem VersionIs.at_old {w w' : World} {v : Value} {c : VersionC} (h : VersionIs w v c) (hb : Below w.heap.size w w') : VersionIs w' v c := h.next hb
theorem VersionIs.hid {w : World} {v : Value} {c : VersionC} (h : VersionIs w v c) : Hid (VersionIs w v c) := h

/-- What came in is within reach. -/
def VersionC.Small (c : VersionC) : Prop := c.n0 ≤ maxLen ∧ (∀ i, i < c.n0 → (c.r0.F i).size ≤ maxLen ∧ (c.r0.Z i).size ≤ maxLen)
/-- .. and not too long. -/
def VersionC.Fit (c : VersionC) : Prop := c.n0 ≤ 1048576

set_option maxHeartbeats 1000000 in
theorem laws_szVersion (v : Value) (c : VersionC) (l : Int) (w : World) (hs : c.Small) (h0 : 0 ≤ l) (h1 : l ≤ 1048576) (hv : VersionIs w v c) :
    Calls Try.prog 7 #[v, .int .i64 l] w fun e w' => (∃ r : Int, e = .returned (.int .i64 r) ∧ (r < 0 ∨ (0 ≤ r ∧ r ≤ l ∧ c.Fit))) ∧ Below w.heap.size w w' := by
  obtain ⟨a0, p0, rfl, hS0⟩ := hv
  obtain ⟨hn0, hz0⟩ := hs
  have HF : Hid (c.n0 ≤ 1048576 → c.Fit) := fun h => h
  have hb0 := (Below.refl w.heap.size w).alloc (Nat.le_refl _) (.cells #[.slice a0 c.n0 p0, .int .i64 c.x1, .int .i64 c.x2, .int .i64 c.x3] 24)
  have hK : BoxIs (w.alloc (.cells #[.slice a0 c.n0 p0, .int .i64 c.x1, .int .i64 c.x2, .int .i64 c.x3] 24)) w.heap.size #[.slice a0 c.n0 p0, .int .i64 c.x1, .int .i64 c.x2, .int .i64 c.x3] 24 := BoxIs.new w _ _ rfl
  have HS0 : Hid (MetaAt (w.alloc (.cells #[.slice a0 c.n0 p0, .int .i64 c.x1, .int .i64 c.x2, .int .i64 c.x3] 24)) (w.alloc (.cells #[.slice a0 c.n0 p0, .int .i64 c.x1, .int .i64 c.x2, .int .i64 c.x3] 24)).heap.size a0 c.n0 c.r0) := (hS0.below hb0).mono hb0.size
  clear hS0
  go_enter Try.func7, Try.ntmps7
  go_wp2_with fail
  generalize w.alloc (.cells #[.slice a0 c.n0 p0, .int .i64 c.x1, .int .i64 c.x2, .int .i64 c.x3] 24) = W at hb0 hK HS0 ⊢
  refine (laws_szMetaS a0 c.n0 p0 c.r0 l W hn0 hz0 h0 (by omega) HS0.out).mono ?_
  rintro e w0 ⟨⟨r0, rfl, hr0⟩, hB0⟩
  have HB0 : Hid (Below w.heap.size w w0) := hb0.trans (hB0.mono hb0.size)
  have HK0 := (BoxIs.next hK hB0).hid
  clear hB0
  rcases hr0 with hr0 | ⟨hq0, hp0, hm0⟩
  · go_wp2
    go_ret
    exact ⟨⟨-1, rfl, .inl (by omega)⟩, HB0.out⟩
  · have hg0 : ¬ (r0 < 0) := by omega
    go_wp2
    go_ret
    exact ⟨⟨r0, rfl, Or.inr ⟨hq0, by omega, HF.out (by omega)⟩⟩, HB0.out⟩

set_option maxHeartbeats 2000000 in
set_option linter.unusedVariables false in
set_option linter.unusedSimpArgs false in
/-- The copy that the laws make: a struct of its own rows. -/
theorem laws_toVersion (v : Value) (c : VersionC) (w : World) (hl : c.Fit) (hv : VersionIs w v c) :
    Calls Try.prog 10 #[v] w fun e w' => ∃ g0, e = .returned (.agg #[.slice (some ⟨g0, 0, none⟩) c.n0 c.n0, .int .i64 c.x1, .int .i64 c.x2, .int .i64 c.x3]) ∧ w.heap.size ≤ g0 ∧ w'.rowIs g0 59 (c.n0 * 5) (metaCell c.r0) ∧ Below w.heap.size w w' := by
  obtain ⟨a0, p0, rfl, hS0⟩ := hv
  have hn0 : c.n0 ≤ 1048576 := hl
  have hB0 : Below w.heap.size w (((w.alloc (.cells #[.slice a0 c.n0 p0, .int .i64 c.x1, .int .i64 c.x2, .int .i64 c.x3] 24)).alloc (.cells #[.slice none 0 0, .int .i64 0, .int .i64 0, .int .i64 0] 32)).alloc (.cells #[.slice none 0 0, .int .i64 0, .int .i64 0, .int .i64 0] 32)) :=
    (((Below.refl _ _).alloc (Nat.le_refl _) _).alloc (by simp) _).alloc (by simp; omega) _
  have b0 : BoxIs (((w.alloc (.cells #[.slice a0 c.n0 p0, .int .i64 c.x1, .int .i64 c.x2, .int .i64 c.x3] 24)).alloc (.cells #[.slice none 0 0, .int .i64 0, .int .i64 0, .int .i64 0] 32)).alloc (.cells #[.slice none 0 0, .int .i64 0, .int .i64 0, .int .i64 0] 32)) w.heap.size #[.slice a0 c.n0 p0, .int .i64 c.x1, .int .i64 c.x2, .int .i64 c.x3] 24 :=
    ((BoxIs.new w #[.slice a0 c.n0 p0, .int .i64 c.x1, .int .i64 c.x2, .int .i64 c.x3] 24 rfl).next ((Below.refl _ _).alloc (Nat.le_refl _) _)).next ((Below.refl _ _).alloc (Nat.le_refl _) _)
  have b1 : BoxIs (((w.alloc (.cells #[.slice a0 c.n0 p0, .int .i64 c.x1, .int .i64 c.x2, .int .i64 c.x3] 24)).alloc (.cells #[.slice none 0 0, .int .i64 0, .int .i64 0, .int .i64 0] 32)).alloc (.cells #[.slice none 0 0, .int .i64 0, .int .i64 0, .int .i64 0] 32)) (w.heap.size + 1) #[.slice none 0 0, .int .i64 0, .int .i64 0, .int .i64 0] 32 :=
    (BoxIs.new (w.alloc (.cells #[.slice a0 c.n0 p0, .int .i64 c.x1, .int .i64 c.x2, .int .i64 c.x3] 24)) _ _ (by simp)).next ((Below.refl _ _).alloc (Nat.le_refl _) _)
  have b2 : BoxIs (((w.alloc (.cells #[.slice a0 c.n0 p0, .int .i64 c.x1, .int .i64 c.x2, .int .i64 c.x3] 24)).alloc (.cells #[.slice none 0 0, .int .i64 0, .int .i64 0, .int .i64 0] 32)).alloc (.cells #[.slice none 0 0, .int .i64 0, .int .i64 0, .int .i64 0] 32)) (w.heap.size + 1 + 1) #[.slice none 0 0, .int .i64 0, .int .i64 0, .int .i64 0] 32 :=
    BoxIs.new _ _ _ (by simp)
  have HS0 : Hid (MetaAt w w.heap.size a0 c.n0 c.r0) := hS0
  clear hl hS0
  go_enter Try.func10, Try.ntmps10
  go_wp2_with fail
  generalize ((w.alloc (.cells #[.slice a0 c.n0 p0, .int .i64 c.x1, .int .i64 c.x2, .int .i64 c.x3] 24)).alloc (.cells #[.slice none 0 0, .int .i64 0, .int .i64 0, .int .i64 0] 32)).alloc (.cells #[.slice none 0 0, .int .i64 0, .int .i64 0, .int .i64 0] 32) = W at hB0 b0 b1 b2 ⊢
  have hz2 := b2.lt
  refine (laws_toMetaS a0 c.n0 p0 c.r0 W hn0 ((HS0.out.below hB0).mono hB0.size)).mono ?_
  rintro e w0 ⟨rfl, hrow0, hb0⟩
  have hg0 : w.heap.size ≤ W.heap.size := hB0.size
  have hgl0 : w.heap.size + 1 + 1 < W.heap.size := hz2
  have hB0x : Below w.heap.size w w0 := hB0.trans (hb0.mono hg0)
  have b00 := b0.next hb0
  have b10 := b1.next hb0
  have b20 := b2.next hb0
  have HR0 := hidRowB hrow0
  obtain ⟨g0, hgn0⟩ : ∃ g, W.heap.size = g := ⟨_, rfl⟩
  rw [hgn0] at HR0 hg0 hgl0 ⊢
  clear hrow0 hb0 hB0 hgn0
  have k0 : w0.cell? ⟨w.heap.size, 0, none⟩ = some (.slice a0 c.n0 p0) := b00.cell 0
  have x0 : w0.cell? ⟨w.heap.size + 1, 0, none⟩ = some (.slice none 0 0) := b10.cell 0
  have y0 : w0.cell? ⟨w.heap.size + 1 + 1, 0, none⟩ = some (.slice none 0 0) := b20.cell 0
  have k1 : w0.cell? ⟨w.heap.size, 1, none⟩ = some (.int .i64 c.x1) := b00.cell 1
  have x1 : w0.cell? ⟨w.heap.size + 1, 1, none⟩ = some (.int .i64 0) := b10.cell 1
  have y1 : w0.cell? ⟨w.heap.size + 1 + 1, 1, none⟩ = some (.int .i64 0) := b20.cell 1
  have k2 : w0.cell? ⟨w.heap.size, 2, none⟩ = some (.int .i64 c.x2) := b00.cell 2
  have x2 : w0.cell? ⟨w.heap.size + 1, 2, none⟩ = some (.int .i64 0) := b10.cell 2
  have y2 : w0.cell? ⟨w.heap.size + 1 + 1, 2, none⟩ = some (.int .i64 0) := b20.cell 2
  have k3 : w0.cell? ⟨w.heap.size, 3, none⟩ = some (.int .i64 c.x3) := b00.cell 3
  have x3 : w0.cell? ⟨w.heap.size + 1, 3, none⟩ = some (.int .i64 0) := b10.cell 3
  have y3 : w0.cell? ⟨w.heap.size + 1 + 1, 3, none⟩ = some (.int .i64 0) := b20.cell 3
  have xf := b10.free
  have yf := b20.free
  have hne0 : g0 ≠ w.heap.size + 1 := by omega
  have hnf0 : g0 ≠ w.heap.size + 1 + 1 := by omega
  clear b00 b10 b20
  go_wp2
  refine bodyPost_ret (v := .agg #[.slice (some ⟨g0, 0, none⟩) c.n0 c.n0, .int .i64 c.x1, .int .i64 c.x2, .int .i64 c.x3]) (by simp [results, Try.results10, go_sem, x0, x1, x2, x3]) rfl ⟨g0, rfl, hg0, ?_, ?_⟩
  · refine HR0.out.of_block ?_
    rw [Below.heap_setCell _ _ _ _ (by simpa using hne0), Below.heap_setCell _ _ _ _ (by simpa using hne0), Below.heap_setCell _ _ _ _ (by simpa using hne0), Below.heap_setCell _ _ _ _ (by simpa using hne0), Below.heap_setCell _ _ _ _ (by simpa using hnf0), Below.heap_setCell _ _ _ _ (by simpa using hnf0), Below.heap_setCell _ _ _ _ (by simpa using hnf0), Below.heap_setCell _ _ _ _ (by simpa using hnf0)]
  · exact ((((((((hB0x.setCell (by simp <;> omega) _).setCell (by simp <;> omega) _).setCell (by simp <;> omega) _).setCell (by simp <;> omega) _).setCell (by simp <;> omega) _).setCell (by simp <;> omega) _).setCell (by simp <;> omega) _).setCell (by simp <;> omega) _)

/-- The copy is the same version. -/
theorem VersionIs.of_rows {w : World} {c : VersionC} {g0 : Nat} (h0 : w.rowIs g0 59 (c.n0 * 5) (metaCell c.r0)) : VersionIs w (.agg #[.slice (some ⟨g0, 0, none⟩) c.n0 c.n0, .int .i64 c.x1, .int .i64 c.x2, .int .i64 c.x3]) c :=
  ⟨_, _, rfl, metaAt_row h0 h0.lt⟩

set_option maxHeartbeats 1000000 in
set_option linter.unusedVariables false in
theorem laws_eqVersion (v u : Value) (c : VersionC) (w : World) (hl : c.Fit) (hv : VersionIs w v c) (hu : VersionIs w u c) :
    Calls Try.prog 13 #[v, u] w fun e w' => e = .returned (.bool true) ∧ Below w.heap.size w w' := by
  obtain ⟨a0, p0, rfl, hS0⟩ := hv
  obtain ⟨b0, q0, rfl, hT0⟩ := hu
  have hn0 : c.n0 ≤ 1048576 := hl
  have hB0 : Below w.heap.size w ((w.alloc (.cells #[.slice a0 c.n0 p0, .int .i64 c.x1, .int .i64 c.x2, .int .i64 c.x3] 32)).alloc (.cells #[.slice b0 c.n0 q0, .int .i64 c.x1, .int .i64 c.x2, .int .i64 c.x3] 32)) := ((Below.refl _ _).alloc (Nat.le_refl _) _).alloc (by simp) _
  have k0 : BoxIs ((w.alloc (.cells #[.slice a0 c.n0 p0, .int .i64 c.x1, .int .i64 c.x2, .int .i64 c.x3] 32)).alloc (.cells #[.slice b0 c.n0 q0, .int .i64 c.x1, .int .i64 c.x2, .int .i64 c.x3] 32)) w.heap.size #[.slice a0 c.n0 p0, .int .i64 c.x1, .int .i64 c.x2, .int .i64 c.x3] 32 := (BoxIs.new w _ _ rfl).next ((Below.refl _ _).alloc (Nat.le_refl _) _)
  have l0 : BoxIs ((w.alloc (.cells #[.slice a0 c.n0 p0, .int .i64 c.x1, .int .i64 c.x2, .int .i64 c.x3] 32)).alloc (.cells #[.slice b0 c.n0 q0, .int .i64 c.x1, .int .i64 c.x2, .int .i64 c.x3] 32)) (w.heap.size + 1) #[.slice b0 c.n0 q0, .int .i64 c.x1, .int .i64 c.x2, .int .i64 c.x3] 32 := BoxIs.new _ _ _ (by simp)
  have HS0 := ((hS0.below hB0).mono hB0.size).hid
  have HT0 := ((hT0.below hB0).mono hB0.size).hid
  clear hl hS0 hT0
  go_enter Try.func13, Try.ntmps13
  go_wp2_with fail
  generalize (w.alloc (.cells #[.slice a0 c.n0 p0, .int .i64 c.x1, .int .i64 c.x2, .int .i64 c.x3] 32)).alloc (.cells #[.slice b0 c.n0 q0, .int .i64 c.x1, .int .i64 c.x2, .int .i64 c.x3] 32) = W at hB0 k0 l0 HS0 HT0 ⊢
  refine (laws_eqMetaS a0 b0 c.n0 p0 q0 c.r0 W hn0 HS0.out HT0.out).mono ?_
  rintro e w0 ⟨rfl, hb0⟩
  have hC0 := hB0.trans (hb0.mono hB0.size)
  have k1 := k0.next hb0
  have l1 := l0.next hb0
  have m1 := k1.cell 1
  have o1 := l1.cell 1
  have m2 := k1.cell 2
  have o2 := l1.cell 2
  have m3 := k1.cell 3
  have o3 := l1.cell 3
  clear hb0 hB0 HS0 HT0
  go_wp2
  go_ret
  exact ⟨rfl, hC0⟩

/-- What came in: a version within reach. -/
def ArgVersion (W : World) (v : Value) : Prop := ∃ c, VersionIs W v c ∧ c.Small

theorem version_trodC {H : Type} {enc : TypeId × Value → H} {w : World} {base : Nat} {spare : Nat → Bool} {held : Bool} {fuel : Nat} {cs : List Value} {x : DataW H × List MemPlace}
    (hf : DataW.trod enc Try.prog w base spare held fuel 24 cs = some x) : ∃ (c : VersionC) (a0 : Option Addr) (p0 : Nat), cs = [.slice a0 c.n0 p0, .int .i64 c.x1, .int .i64 c.x2, .int .i64 c.x3] ∧ MetaAt w w.heap.size a0 c.n0 c.r0 ∧ c.Small := by
  have hc : Try.prog.cellsOf 24 = 4 := by kernel_rfl
  have hc2 : Try.prog.cellsOf 2 = 1 := by kernel_rfl
  have hclawsMeta : Try.prog.cellsOf 22 = 1 := by kernel_rfl
  obtain ⟨xs, n, _, _, hl, hxl, hf2⟩ := DataW.trod_struct Try.underlying24 hf
  rw [hc] at hl
  obtain ⟨c0, c1, c2, c3, rfl⟩ : ∃ c0 c1 c2 c3, cs = [c0, c1, c2, c3] := by
    match cs, hl with
    | [c0, c1, c2, c3], _ => exact ⟨c0, c1, c2, c3, rfl⟩
  obtain ⟨y0, y1, y2, y3, rfl⟩ : ∃ y0 y1 y2 y3, xs = [y0, y1, y2, y3] := by
    match xs, hxl with
    | [y0, y1, y2, y3], _ => exact ⟨y0, y1, y2, y3, rfl⟩
  have f0 : DataW.trod enc Try.prog w base spare held n 22 (List.take (Try.prog.cellsOf 22) [c0, c1, c2, c3]) = some y0 := hf2 0 _ rfl
  rw [hclawsMeta] at f0
  have f1 : DataW.trod enc Try.prog w base spare held n 2 (List.take (Try.prog.cellsOf 2) [c1, c2, c3]) = some y1 := hf2 1 _ rfl
  rw [hc2] at f1
  have f2 : DataW.trod enc Try.prog w base spare held n 2 (List.take (Try.prog.cellsOf 2) [c2, c3]) = some y2 := hf2 2 _ rfl
  rw [hc2] at f2
  have f3 : DataW.trod enc Try.prog w base spare held n 2 (List.take (Try.prog.cellsOf 2) [c3]) = some y3 := hf2 3 _ rfl
  rw [hc2] at f3
  obtain ⟨a0, n0, p0, r0, e0, hl0, hA0, hz0⟩ := metas_trod f0
  obtain ⟨x1, e1, _, _⟩ := DataW.trod_int Try.underlying2 f1
  obtain ⟨x2, e2, _, _⟩ := DataW.trod_int Try.underlying2 f2
  obtain ⟨x3, e3, _, _⟩ := DataW.trod_int Try.underlying2 f3
  simp at e0 e1 e2 e3
  subst e0 e1 e2 e3
  exact ⟨⟨n0, r0, x1, x2, x3⟩, a0, p0, rfl, hA0, hl0, hz0⟩

theorem open_version {H : Type} {enc : TypeId × Value → H} {w : World} {r : Reach} {b0 base : Nat} {spare : Nat → Bool} {held : Bool} {v : Value} {d : DataW H} {p : List MemPlace}
    (hv : Value.okWide Try.prog w r b0 24 v) (h : DataW.Trod enc Try.prog w base spare held 24 v d p) : ArgVersion w v := by
  obtain ⟨cs, rfl, hsz⟩ := WideShapes.okWide_struct Try.underlying24 hv
  obtain ⟨fuel, hf⟩ := h
  obtain ⟨c, a0, p0, hcs, h0, hsm⟩ := version_trodC hf
  have : cs = #[.slice a0 c.n0 p0, .int .i64 c.x1, .int .i64 c.x2, .int .i64 c.x3] := Array.toList_inj.1 (by simpa [Value.cells] using hcs)
  subst this
  exact ⟨c, ⟨a0, p0, rfl, h0⟩, hsm⟩

end Go.Proofs.Ytplbhgcibfajaaa
