/- Edit: a struct with rows in it: what came in, the copies that the laws make; its size, and that two are alike. (By gen_box.py.) -/
import Derived.Test.YtplbhgcibfajaaaInts
import Derived.Test.YtplbhgcibfajaaaMetas
import Derived.Test.YtplbhgcibfajaaaBox
namespace Go.Proofs.Ytplbhgcibfajaaa
set_option maxRecDepth 100000
open Go.RowKit Go.Deep

/-- What a edit holds. -/
structure EditC where
  n0 : Nat
  r0 : Metas
  n1 : Nat
  r1 : Nat → Int
  x2 : Int
  x3 : Int
  x4 : Int

/-- A value that is this edit in this world. -/
def EditIs (w : World) (v : Value) (c : EditC) : Prop := ∃ a0 p0 a1 p1, v = .agg #[.slice a0 c.n0 p0, .slice a1 c.n1 p1, .int .i64 c.x2, .int .i64 c.x3, .int .i64 c.x4] ∧ MetaAt w w.heap.size a0 c.n0 c.r0 ∧ IntAt w w.heap.size a1 c.n1 c.r1

theorem EditIs.next {w w' : World} {v : Value} {c : EditC} (h : EditIs w v c) (hb : Below w.heap.size w w') : EditIs w' v c := by
  obtain ⟨a0, p0, a1, p1, rfl, h0, h1⟩ := h
  exact ⟨a0, p0, a1, p1, rfl, (h0.below hb).mono hb.size, (h1.below hb).mono hb.size⟩
theorem EditIs.at_old {w w' : World} {v : Value} {c : EditC} (h : EditIs w v c) (hb : Below w.heap.size w w') : EditIs w' v c := h.next hb
theorem EditIs.hid {w : World} {v : Value} {c : EditC} (h : EditIs w v c) : Hid (EditIs w v c) := h

/-- What came in is within reach. -/
def EditC.Small (c : EditC) : Prop := c.n0 ≤ maxLen ∧ (∀ i, i < c.n0 → (c.r0.F i).size ≤ maxLen ∧ (c.r0.Z i).size ≤ maxLen) ∧ c.n1 ≤ maxLen
/-- .. and not too long. -/
def EditC.Fit (c : EditC) : Prop := c.n0 ≤ 1048576 ∧ c.n1 ≤ 1048576

set_option maxHeartbeats 1000000 in
theorem laws_szEdit (v : Value) (c : EditC) (l : Int) (w : World) (hs : c.Small) (h0 : 0 ≤ l) (h1 : l ≤ 1048576) (hv : EditIs w v c) :
    Calls Try.prog 8 #[v, .int .i64 l] w fun e w' => (∃ r : Int, e = .returned (.int .i64 r) ∧ (r < 0 ∨ (0 ≤ r ∧ r ≤ l ∧ c.Fit))) ∧ Below w.heap.size w w' := by
  obtain ⟨a0, p0, a1, p1, rfl, hS0, hS1⟩ := hv
  obtain ⟨hn0, hz0, hn1⟩ := hs
  have HF : Hid (c.n0 ≤ 1048576 → c.n1 ≤ 1048576 → c.Fit) := fun h0 h1 => ⟨h0, h1⟩
  have hb0 := (Below.refl w.heap.size w).alloc (Nat.le_refl _) (.cells #[.slice a0 c.n0 p0, .slice a1 c.n1 p1, .int .i64 c.x2, .int .i64 c.x3, .int .i64 c.x4] 27)
  have hK : BoxIs (w.alloc (.cells #[.slice a0 c.n0 p0, .slice a1 c.n1 p1, .int .i64 c.x2, .int .i64 c.x3, .int .i64 c.x4] 27)) w.heap.size #[.slice a0 c.n0 p0, .slice a1 c.n1 p1, .int .i64 c.x2, .int .i64 c.x3, .int .i64 c.x4] 27 := BoxIs.new w _ _ rfl
  have HS0 : Hid (MetaAt (w.alloc (.cells #[.slice a0 c.n0 p0, .slice a1 c.n1 p1, .int .i64 c.x2, .int .i64 c.x3, .int .i64 c.x4] 27)) (w.alloc (.cells #[.slice a0 c.n0 p0, .slice a1 c.n1 p1, .int .i64 c.x2, .int .i64 c.x3, .int .i64 c.x4] 27)).heap.size a0 c.n0 c.r0) := (hS0.below hb0).mono hb0.size
  have HS1 : Hid (IntAt (w.alloc (.cells #[.slice a0 c.n0 p0, .slice a1 c.n1 p1, .int .i64 c.x2, .int .i64 c.x3, .int .i64 c.x4] 27)) (w.alloc (.cells #[.slice a0 c.n0 p0, .slice a1 c.n1 p1, .int .i64 c.x2, .int .i64 c.x3, .int .i64 c.x4] 27)).heap.size a1 c.n1 c.r1) := (hS1.below hb0).mono hb0.size
  clear hS0 hS1
  go_enter Try.func8, Try.ntmps8
  go_wp2_with fail
  generalize w.alloc (.cells #[.slice a0 c.n0 p0, .slice a1 c.n1 p1, .int .i64 c.x2, .int .i64 c.x3, .int .i64 c.x4] 27) = W at hb0 hK HS0 HS1 ⊢
  refine (laws_szMetaS a0 c.n0 p0 c.r0 l W hn0 hz0 h0 (by omega) HS0.out).mono ?_
  rintro e w0 ⟨⟨r0, rfl, hr0⟩, hB0⟩
  have HB0 : Hid (Below w.heap.size w w0) := hb0.trans (hB0.mono hb0.size)
  have HK0 := (BoxIs.next hK hB0).hid
  have HS1 := ((HS1.out.below hB0).mono hB0.size).hid
  clear hB0
  rcases hr0 with hr0 | ⟨hq0, hp0, hm0⟩
  · go_wp2
    go_ret
    exact ⟨⟨-1, rfl, .inl (by omega)⟩, HB0.out⟩
  · have hg0 : ¬ (r0 < 0) := by omega
    have k0 := HK0.out.cell 0
    have k1 := HK0.out.cell 1
    have k2 := HK0.out.cell 2
    have k3 := HK0.out.cell 3
    have k4 := HK0.out.cell 4
    go_wp2_with fail
    clear k0 k1 k2 k3 k4
    refine (laws_szInt64S a1 c.n1 p1 c.r1 r0 w0 hn1 hq0 (by omega) HS1.out).mono ?_
    rintro e w1 ⟨⟨r1, rfl, hr1⟩, hB1⟩
    have HB1 : Hid (Below w.heap.size w w1) := HB0.out.trans (hB1.mono HB0.out.size)
    have HK1 := (BoxIs.next HK0.out hB1).hid
    clear hB1
    rcases hr1 with hr1 | ⟨hq1, hp1, hm1⟩
    · go_wp2
      go_ret
      exact ⟨⟨-1, rfl, .inl (by omega)⟩, HB1.out⟩
    · have hg1 : ¬ (r1 < 0) := by omega
      go_wp2
      go_ret
      exact ⟨⟨r1, rfl, Or.inr ⟨hq1, by omega, HF.out (by omega) (by omega)⟩⟩, HB1.out⟩

set_option maxHeartbeats 2000000 in
set_option linter.unusedVariables false in
set_option linter.unusedSimpArgs false in
/-- The copy that the laws make: a struct of its own rows. -/
theorem laws_toEdit (v : Value) (c : EditC) (w : World) (hl : c.Fit) (hv : EditIs w v c) :
    Calls Try.prog 11 #[v] w fun e w' => ∃ g0 g1, e = .returned (.agg #[.slice (some ⟨g0, 0, none⟩) c.n0 c.n0, .slice (some ⟨g1, 0, none⟩) c.n1 c.n1, .int .i64 c.x2, .int .i64 c.x3, .int .i64 c.x4]) ∧ w.heap.size ≤ g0 ∧ w'.rowIs g0 59 (c.n0 * 5) (metaCell c.r0) ∧ w.heap.size ≤ g1 ∧ w'.rowIs g1 2 c.n1 (fun i => .int .i64 (c.r1 i)) ∧ g0 < g1 ∧ Below w.heap.size w w' := by
  obtain ⟨a0, p0, a1, p1, rfl, hS0, hS1⟩ := hv
  obtain ⟨hn0, hn1⟩ := hl
  have hB0 : Below w.heap.size w (((w.alloc (.cells #[.slice a0 c.n0 p0, .slice a1 c.n1 p1, .int .i64 c.x2, .int .i64 c.x3, .int .i64 c.x4] 27)).alloc (.cells #[.slice none 0 0, .slice none 0 0, .int .i64 0, .int .i64 0, .int .i64 0] 37)).alloc (.cells #[.slice none 0 0, .slice none 0 0, .int .i64 0, .int .i64 0, .int .i64 0] 37)) :=
    (((Below.refl _ _).alloc (Nat.le_refl _) _).alloc (by simp) _).alloc (by simp; omega) _
  have b0 : BoxIs (((w.alloc (.cells #[.slice a0 c.n0 p0, .slice a1 c.n1 p1, .int .i64 c.x2, .int .i64 c.x3, .int .i64 c.x4] 27)).alloc (.cells #[.slice none 0 0, .slice none 0 0, .int .i64 0, .int .i64 0, .int .i64 0] 37)).alloc (.cells #[.slice none 0 0, .slice none 0 0, .int .i64 0, .int .i64 0, .int .i64 0] 37)) w.heap.size #[.slice a0 c.n0 p0, .slice a1 c.n1 p1, .int .i64 c.x2, .int .i64 c.x3, .int .i64 c.x4] 27 :=
    ((BoxIs.new w #[.slice a0 c.n0 p0, .slice a1 c.n1 p1, .int .i64 c.x2, .int .i64 c.x3, .int .i64 c.x4] 27 rfl).next ((Below.refl _ _).alloc (Nat.le_refl _) _)).next ((Below.refl _ _).alloc (Nat.le_refl _) _)
  have b1 : BoxIs (((w.alloc (.cells #[.slice a0 c.n0 p0, .slice a1 c.n1 p1, .int .i64 c.x2, .int .i64 c.x3, .int .i64 c.x4] 27)).alloc (.cells #[.slice none 0 0, .slice none 0 0, .int .i64 0, .int .i64 0, .int .i64 0] 37)).alloc (.cells #[.slice none 0 0, .slice none 0 0, .int .i64 0, .int .i64 0, .int .i64 0] 37)) (w.heap.size + 1) #[.slice none 0 0, .slice none 0 0, .int .i64 0, .int .i64 0, .int .i64 0] 37 :=
    (BoxIs.new (w.alloc (.cells #[.slice a0 c.n0 p0, .slice a1 c.n1 p1, .int .i64 c.x2, .int .i64 c.x3, .int .i64 c.x4] 27)) _ _ (by simp)).next ((Below.refl _ _).alloc (Nat.le_refl _) _)
  have b2 : BoxIs (((w.alloc (.cells #[.slice a0 c.n0 p0, .slice a1 c.n1 p1, .int .i64 c.x2, .int .i64 c.x3, .int .i64 c.x4] 27)).alloc (.cells #[.slice none 0 0, .slice none 0 0, .int .i64 0, .int .i64 0, .int .i64 0] 37)).alloc (.cells #[.slice none 0 0, .slice none 0 0, .int .i64 0, .int .i64 0, .int .i64 0] 37)) (w.heap.size + 1 + 1) #[.slice none 0 0, .slice none 0 0, .int .i64 0, .int .i64 0, .int .i64 0] 37 :=
    BoxIs.new _ _ _ (by simp)
  have HS0 : Hid (MetaAt w w.heap.size a0 c.n0 c.r0) := hS0
  have HS1 : Hid (IntAt w w.heap.size a1 c.n1 c.r1) := hS1
  clear hS0 hS1
  go_enter Try.func11, Try.ntmps11
  go_wp2_with fail
  generalize ((w.alloc (.cells #[.slice a0 c.n0 p0, .slice a1 c.n1 p1, .int .i64 c.x2, .int .i64 c.x3, .int .i64 c.x4] 27)).alloc (.cells #[.slice none 0 0, .slice none 0 0, .int .i64 0, .int .i64 0, .int .i64 0] 37)).alloc (.cells #[.slice none 0 0, .slice none 0 0, .int .i64 0, .int .i64 0, .int .i64 0] 37) = W at hB0 b0 b1 b2 ⊢
  have hz2 := b2.lt
  refine (laws_toMetaS a0 c.n0 p0 c.r0 W hn0 ((HS0.out.below hB0).mono hB0.size)).mono ?_
  rintro e w0 ⟨rfl, hrow0, hb0⟩
  have hg0 : w.heap.size ≤ W.heap.size := hB0.size
  have hgl0 : w.heap.size + 1 + 1 < W.heap.size := hz2
  have hB0x : Below w.heap.size w w0 := hB0.trans (hb0.mono hg0)
  have b00 := b0.next hb0
  have b10 := b1.next hb0
  have b20 := b2.next hb0
  have HR0 := hidRowB hrow0
  obtain ⟨g0, hgn0⟩ : ∃ g, W.heap.size = g := ⟨_, rfl⟩
  rw [hgn0] at HR0 hg0 hgl0 ⊢
  clear hrow0 hb0 hB0 hgn0
  have k0 : w0.cell? ⟨w.heap.size, 0, none⟩ = some (.slice a0 c.n0 p0) := b00.cell 0
  have y0 : w0.cell? ⟨w.heap.size + 1 + 1, 0, none⟩ = some (.slice none 0 0) := b20.cell 0
  have k1 : w0.cell? ⟨w.heap.size, 1, none⟩ = some (.slice a1 c.n1 p1) := b00.cell 1
  have y1 : w0.cell? ⟨w.heap.size + 1 + 1, 1, none⟩ = some (.slice none 0 0) := b20.cell 1
  have k2 : w0.cell? ⟨w.heap.size, 2, none⟩ = some (.int .i64 c.x2) := b00.cell 2
  have y2 : w0.cell? ⟨w.heap.size + 1 + 1, 2, none⟩ = some (.int .i64 0) := b20.cell 2
  have k3 : w0.cell? ⟨w.heap.size, 3, none⟩ = some (.int .i64 c.x3) := b00.cell 3
  have y3 : w0.cell? ⟨w.heap.size + 1 + 1, 3, none⟩ = some (.int .i64 0) := b20.cell 3
  have k4 : w0.cell? ⟨w.heap.size, 4, none⟩ = some (.int .i64 c.x4) := b00.cell 4
  have y4 : w0.cell? ⟨w.heap.size + 1 + 1, 4, none⟩ = some (.int .i64 0) := b20.cell 4
  have yf := b20.free
  go_wp2_with fail
  have hBn0 := (hB0x.setCell (p := ⟨w.heap.size + 1 + 1, 0, none⟩) (by simp; omega) (.slice (some ⟨g0, 0, none⟩) c.n0 c.n0))
  have c00 := (b00.set_other (p := ⟨w.heap.size + 1 + 1, 0, none⟩) (by simp; omega) (.slice (some ⟨g0, 0, none⟩) c.n0 c.n0))
  have c10 := (b10.set_other (p := ⟨w.heap.size + 1 + 1, 0, none⟩) (by simp) (.slice (some ⟨g0, 0, none⟩) c.n0 c.n0))
  have c20 := (b20.set 0 (.slice (some ⟨g0, 0, none⟩) c.n0 c.n0))
  have HR0 := hidRowB (rowIs_set HR0.out (p := ⟨w.heap.size + 1 + 1, 0, none⟩) (by simp; omega) (.slice (some ⟨g0, 0, none⟩) c.n0 c.n0))
  clear k0 y0 k1 y1 k2 y2 k3 y3 k4 y4 yf b00 b10 b20 hB0x
  generalize w0.setCell ⟨w.heap.size + 1 + 1, 0, none⟩ (.slice (some ⟨g0, 0, none⟩) c.n0 c.n0) = V0 at hBn0 c00 c10 c20 HR0 ⊢
  have hsz0 : g0 ≤ V0.heap.size := Nat.le_of_lt HR0.out.lt
  have hsz0 : g0 ≤ V0.heap.size := Nat.le_of_lt HR0.out.lt
  have hsz0 : w.heap.size + 1 + 1 + 1 ≤ V0.heap.size := c20.lt
  have hz2 : w.heap.size + 1 + 1 < w.heap.size + 1 + 1 + 1 := by omega
  refine (laws_toInt64S a1 c.n1 p1 c.r1 V0 hn1 ((HS1.out.below hBn0).mono hBn0.size)).mono ?_
  rintro e w1 ⟨rfl, hrow1, hb1⟩
  have hg1 : w.heap.size ≤ V0.heap.size := hBn0.size
  have hgl1 : w.heap.size + 1 + 1 < V0.heap.size := Nat.lt_of_lt_of_le hz2 hsz0
  have hup1 : g0 < V0.heap.size := HR0.out.lt
  have hB1x : Below w.heap.size w w1 := hBn0.trans (hb1.mono hg1)
  have b01 := c00.next hb1
  have b11 := c10.next hb1
  have b21 := c20.next hb1
  have HR1 := hidRowB hrow1
  have HR0 := hidRowB (entRow_below HR0.out hb1 HR0.out.lt)
  obtain ⟨g1, hgn1⟩ : ∃ g, V0.heap.size = g := ⟨_, rfl⟩
  rw [hgn1] at HR1 hg1 hgl1 hup1 ⊢
  clear hrow1 hb1 hBn0 hgn1
  have k0 : w1.cell? ⟨w.heap.size, 0, none⟩ = some (.slice a0 c.n0 p0) := b01.cell 0
  have x0 : w1.cell? ⟨w.heap.size + 1, 0, none⟩ = some (.slice none 0 0) := b11.cell 0
  have y0 : w1.cell? ⟨w.heap.size + 1 + 1, 0, none⟩ = some (.slice (some ⟨g0, 0, none⟩) c.n0 c.n0) := b21.cell 0
  have k1 : w1.cell? ⟨w.heap.size, 1, none⟩ = some (.slice a1 c.n1 p1) := b01.cell 1
  have x1 : w1.cell? ⟨w.heap.size + 1, 1, none⟩ = some (.slice none 0 0) := b11.cell 1
  have y1 : w1.cell? ⟨w.heap.size + 1 + 1, 1, none⟩ = some (.slice none 0 0) := b21.cell 1
  have k2 : w1.cell? ⟨w.heap.size, 2, none⟩ = some (.int .i64 c.x2) := b01.cell 2
  have x2 : w1.cell? ⟨w.heap.size + 1, 2, none⟩ = some (.int .i64 0) := b11.cell 2
  have y2 : w1.cell? ⟨w.heap.size + 1 + 1, 2, none⟩ = some (.int .i64 0) := b21.cell 2
  have k3 : w1.cell? ⟨w.heap.size, 3, none⟩ = some (.int .i64 c.x3) := b01.cell 3
  have x3 : w1.cell? ⟨w.heap.size + 1, 3, none⟩ = some (.int .i64 0) := b11.cell 3
  have y3 : w1.cell? ⟨w.heap.size + 1 + 1, 3, none⟩ = some (.int .i64 0) := b21.cell 3
  have k4 : w1.cell? ⟨w.heap.size, 4, none⟩ = some (.int .i64 c.x4) := b01.cell 4
  have x4 : w1.cell? ⟨w.heap.size + 1, 4, none⟩ = some (.int .i64 0) := b11.cell 4
  have y4 : w1.cell? ⟨w.heap.size + 1 + 1, 4, none⟩ = some (.int .i64 0) := b21.cell 4
  have xf := b11.free
  have yf := b21.free
  have hne0 : g0 ≠ w.heap.size + 1 := by omega
  have hnf0 : g0 ≠ w.heap.size + 1 + 1 := by omega
  have hne1 : g1 ≠ w.heap.size + 1 := by omega
  have hnf1 : g1 ≠ w.heap.size + 1 + 1 := by omega
  clear b01 b11 b21
  go_wp2
  refine bodyPost_ret (v := .agg #[.slice (some ⟨g0, 0, none⟩) c.n0 c.n0, .slice (some ⟨g1, 0, none⟩) c.n1 c.n1, .int .i64 c.x2, .int .i64 c.x3, .int .i64 c.x4]) (by simp [results, Try.results11, go_sem, x0, x1, x2, x3, x4]) rfl ⟨g0, g1, rfl, hg0, ?_, hg1, ?_, by omega, ?_⟩
  · refine HR0.out.of_block ?_
    rw [Below.heap_setCell _ _ _ _ (by simpa using hne0), Below.heap_setCell _ _ _ _ (by simpa using hne0), Below.heap_setCell _ _ _ _ (by simpa using hne0), Below.heap_setCell _ _ _ _ (by simpa using hne0), Below.heap_setCell _ _ _ _ (by simpa using hne0), Below.heap_setCell _ _ _ _ (by simpa using hnf0), Below.heap_setCell _ _ _ _ (by simpa using hnf0), Below.heap_setCell _ _ _ _ (by simpa using hnf0), Below.heap_setCell _ _ _ _ (by simpa using hnf0)]
  · refine HR1.out.of_block ?_
    rw [Below.heap_setCell _ _ _ _ (by simpa using hne1), Below.heap_setCell _ _ _ _ (by simpa using hne1), Below.heap_setCell _ _ _ _ (by simpa using hne1), Below.heap_setCell _ _ _ _ (by simpa using hne1), Below.heap_setCell _ _ _ _ (by simpa using hne1), Below.heap_setCell _ _ _ _ (by simpa using hnf1), Below.heap_setCell _ _ _ _ (by simpa using hnf1), Below.heap_setCell _ _ _ _ (by simpa using hnf1), Below.heap_setCell _ _ _ _ (by simpa using hnf1)]
  · exact (((((((((hB1x.setCell (by simp <;> omega) _).setCell (by simp <;> omega) _).setCell (by simp <;> omega) _).setCell (by simp <;> omega) _).setCell (by simp <;> omega) _).setCell (by simp <;> omega) _).setCell (by simp <;> omega) _).setCell (by simp <;> omega) _).setCell (by simp <;> omega) _)

/-- The copy is the same edit. -/
theorem EditIs.of_rows {w : World} {c : EditC} {g0 g1 : Nat} (h0 : w.rowIs g0 59 (c.n0 * 5) (metaCell c.r0)) (h1 : w.rowIs g1 2 c.n1 (fun i => .int .i64 (c.r1 i))) : EditIs w (.agg #[.slice (some ⟨g0, 0, none⟩) c.n0 c.n0, .slice (some ⟨g1, 0, none⟩) c.n1 c.n1, .int .i64 c.x2, .int .i64 c.x3, .int .i64 c.x4]) c :=
  ⟨_, _, _, _, rfl, metaAt_row h0 h0.lt, intAt_row h1 h1.lt⟩

set_option maxHeartbeats 1000000 in
set_option linter.unusedVariables false in
theorem laws_eqEdit (v u : Value) (c : EditC) (w : World) (hl : c.Fit) (hv : EditIs w v c) (hu : EditIs w u c) :
    Calls Try.prog 14 #[v, u] w fun e w' => e = .returned (.bool true) ∧ Below w.heap.size w w' := by
  obtain ⟨a0, p0, a1, p1, rfl, hS0, hS1⟩ := hv
  obtain ⟨b0, q0, b1, q1, rfl, hT0, hT1⟩ := hu
  obtain ⟨hn0, hn1⟩ := hl
  have hB0 : Below w.heap.size w ((w.alloc (.cells #[.slice a0 c.n0 p0, .slice a1 c.n1 p1, .int .i64 c.x2, .int .i64 c.x3, .int .i64 c.x4] 37)).alloc (.cells #[.slice b0 c.n0 q0, .slice b1 c.n1 q1, .int .i64 c.x2, .int .i64 c.x3, .int .i64 c.x4] 37)) := ((Below.refl _ _).alloc (Nat.le_refl _) _).alloc (by simp) _
  have k0 : BoxIs ((w.alloc (.cells #[.slice a0 c.n0 p0, .slice a1 c.n1 p1, .int .i64 c.x2, .int .i64 c.x3, .int .i64 c.x4] 37)).alloc (.cells #[.slice b0 c.n0 q0, .slice b1 c.n1 q1, .int .i64 c.x2, .int .i64 c.x3, .int .i64 c.x4] 37)) w.heap.size #[.slice a0 c.n0 p0, .slice a1 c.n1 p1, .int .i64 c.x2, .int .i64 c.x3, .int .i64 c.x4] 37 := (BoxIs.new w _ _ rfl).next ((Below.refl _ _).alloc (Nat.le_refl _) _)
  have l0 : BoxIs ((w.alloc (.cells #[.slice a0 c.n0 p0, .slice a1 c.n1 p1, .int .i64 c.x2, .int .i64 c.x3, .int .i64 c.x4] 37)).alloc (.cells #[.slice b0 c.n0 q0, .slice b1 c.n1 q1, .int .i64 c.x2, .int .i64 c.x3, .int .i64 c.x4] 37)) (w.heap.size + 1) #[.slice b0 c.n0 q0, .slice b1 c.n1 q1, .int .i64 c.x2, .int .i64 c.x3, .int .i64 c.x4] 37 := BoxIs.new _ _ _ (by simp)
  have HS0 := ((hS0.below hB0).mono hB0.size).hid
  have HT0 := ((hT0.below hB0).mono hB0.size).hid
  have HS1 := ((hS1.below hB0).mono hB0.size).hid
  have HT1 := ((hT1.below hB0).mono hB0.size).hid
  clear hS0 hT0 hS1 hT1
  go_enter Try.func14, Try.ntmps14
  go_wp2_with fail
  generalize (w.alloc (.cells #[.slice a0 c.n0 p0, .slice a1 c.n1 p1, .int .i64 c.x2, .int .i64 c.x3, .int .i64 c.x4] 37)).alloc (.cells #[.slice b0 c.n0 q0, .slice b1 c.n1 q1, .int .i64 c.x2, .int .i64 c.x3, .int .i64 c.x4] 37) = W at hB0 k0 l0 HS0 HT0 HS1 HT1 ⊢
  refine (laws_eqMetaS a0 b0 c.n0 p0 q0 c.r0 W hn0 HS0.out HT0.out).mono ?_
  rintro e w0 ⟨rfl, hb0⟩
  have hC0 := hB0.trans (hb0.mono hB0.size)
  have k1 := k0.next hb0
  have l1 := l0.next hb0
  have HS1 := ((HS1.out.below hb0).mono hb0.size).hid
  have HT1 := ((HT1.out.below hb0).mono hb0.size).hid
  have m1 := k1.cell 1
  have o1 := l1.cell 1
  have m2 := k1.cell 2
  have o2 := l1.cell 2
  have m3 := k1.cell 3
  have o3 := l1.cell 3
  have m4 := k1.cell 4
  have o4 := l1.cell 4
  clear hb0 hB0 HS0 HT0
  go_wp2_with fail
  clear m1 o1 m2 o2 m3 o3 m4 o4
  refine (laws_eqInt64S a1 b1 c.n1 p1 q1 c.r1 w0 hn1 HS1.out HT1.out).mono ?_
  rintro e w1 ⟨rfl, hb1⟩
  have hC1 := hC0.trans (hb1.mono hC0.size)
  have k2 := k1.next hb1
  have l2 := l1.next hb1
  have m2 := k2.cell 2
  have o2 := l2.cell 2
  have m3 := k2.cell 3
  have o3 := l2.cell 3
  have m4 := k2.cell 4
  have o4 := l2.cell 4
  clear hb1 hC0 HS1 HT1
  go_wp2
  go_ret
  exact ⟨rfl, hC1⟩

/-- What came in: a edit within reach. -/
def ArgEdit (W : World) (v : Value) : Prop := ∃ c, EditIs W v c ∧ c.Small

theorem edit_trodC {H : Type} {enc : TypeId × Value → H} {w : World} {base : Nat} {spare : Nat → Bool} {held : Bool} {fuel : Nat} {cs : List Value} {x : DataW H × List MemPlace}
    (hf : DataW.trod enc Try.prog w base spare held fuel 27 cs = some x) : ∃ (c : EditC) (a0 : Option Addr) (p0 : Nat) (a1 : Option Addr) (p1 : Nat), cs = [.slice a0 c.n0 p0, .slice a1 c.n1 p1, .int .i64 c.x2, .int .i64 c.x3, .int .i64 c.x4] ∧ MetaAt w w.heap.size a0 c.n0 c.r0 ∧ IntAt w w.heap.size a1 c.n1 c.r1 ∧ c.Small := by
  have hc : Try.prog.cellsOf 27 = 5 := by kernel_rfl
  have hc2 : Try.prog.cellsOf 2 = 1 := by kernel_rfl
  have hcint64 : Try.prog.cellsOf 25 = 1 := by kernel_rfl
  have hclawsMeta : Try.prog.cellsOf 22 = 1 := by kernel_rfl
  obtain ⟨xs, n, _, _, hl, hxl, hf2⟩ := DataW.trod_struct Try.underlying27 hf
  rw [hc] at hl
  obtain ⟨c0, c1, c2, c3, c4, rfl⟩ : ∃ c0 c1 c2 c3 c4, cs = [c0, c1, c2, c3, c4] := by
    match cs, hl with
    | [c0, c1, c2, c3, c4], _ => exact ⟨c0, c1, c2, c3, c4, rfl⟩
  obtain ⟨y0, y1, y2, y3, y4, rfl⟩ : ∃ y0 y1 y2 y3 y4, xs = [y0, y1, y2, y3, y4] := by
    match xs, hxl with
    | [y0, y1, y2, y3, y4], _ => exact ⟨y0, y1, y2, y3, y4, rfl⟩
  have f0 : DataW.trod enc Try.prog w base spare held n 22 (List.take (Try.prog.cellsOf 22) [c0, c1, c2, c3, c4]) = some y0 := hf2 0 _ rfl
  rw [hclawsMeta] at f0
  have f1 : DataW.trod enc Try.prog w base spare held n 25 (List.take (Try.prog.cellsOf 25) [c1, c2, c3, c4]) = some y1 := hf2 1 _ rfl
  rw [hcint64] at f1
  have f2 : DataW.trod enc Try.prog w base spare held n 2 (List.take (Try.prog.cellsOf 2) [c2, c3, c4]) = some y2 := hf2 2 _ rfl
  rw [hc2] at f2
  have f3 : DataW.trod enc Try.prog w base spare held n 2 (List.take (Try.prog.cellsOf 2) [c3, c4]) = some y3 := hf2 3 _ rfl
  rw [hc2] at f3
  have f4 : DataW.trod enc Try.prog w base spare held n 2 (List.take (Try.prog.cellsOf 2) [c4]) = some y4 := hf2 4 _ rfl
  rw [hc2] at f4
  obtain ⟨a0, n0, p0, r0, e0, hl0, hA0, hz0⟩ := metas_trod f0
  obtain ⟨a1, n1, p1, r1, e1, hl1, hA1⟩ := ints_trod f1
  obtain ⟨x2, e2, _, _⟩ := DataW.trod_int Try.underlying2 f2
  obtain ⟨x3, e3, _, _⟩ := DataW.trod_int Try.underlying2 f3
  obtain ⟨x4, e4, _, _⟩ := DataW.trod_int Try.underlying2 f4
  simp at e0 e1 e2 e3 e4
  subst e0 e1 e2 e3 e4
  exact ⟨⟨n0, r0, n1, r1, x2, x3, x4⟩, a0, p0, a1, p1, rfl, hA0, hA1, hl0, hz0, hl1⟩

theorem open_edit {H : Type} {enc : TypeId × Value → H} {w : World} {r : Reach} {b0 base : Nat} {spare : Nat → Bool} {held : Bool} {v : Value} {d : DataW H} {p : List MemPlace}
    (hv : Value.okWide Try.prog w r b0 27 v) (h : DataW.Trod enc Try.prog w base spare held 27 v d p) : ArgEdit w v := by
  obtain ⟨cs, rfl, hsz⟩ := WideShapes.okWide_struct Try.underlying27 hv
  obtain ⟨fuel, hf⟩ := h
  obtain ⟨c, a0, p0, a1, p1, hcs, h0, h1, hsm⟩ := edit_trodC hf
  have : cs = #[.slice a0 c.n0 p0, .slice a1 c.n1 p1, .int .i64 c.x2, .int .i64 c.x3, .int .i64 c.x4] := Array.toList_inj.1 (by simpa [Value.cells] using hcs)
  subst this
  exact ⟨c, ⟨a0, p0, a1, p1, rfl, h0, h1⟩, hsm⟩

end Go.Proofs.Ytplbhgcibfajaaa
