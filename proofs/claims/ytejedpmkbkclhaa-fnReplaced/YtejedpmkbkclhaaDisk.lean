/- Disk: a struct with rows in it: what came in, the copies that the laws make; its size, and that two are alike. (By gen_box.py.) -/
import Derived.Test.YtejedpmkbkclhaaDOps
import Derived.Test.YtejedpmkbkclhaaFiles
import Derived.Test.YtejedpmkbkclhaaMgEntRowBox
namespace Go.Proofs.Ytejedpmkbkclhaa
set_option maxRecDepth 100000
open Go.RowKit Go.Deep

/-- What a disk holds. -/
structure DiskC where
  n0 : Nat
  r0 : Files
  n1 : Nat
  r1 : Files
  n2 : Nat
  r2 : DOps

/-- A value that is this disk in this world. -/
def DiskIs (w : World) (v : Value) (c : DiskC) : Prop := ∃ a0 p0 a1 p1 a2 p2, v = .agg #[.slice a0 c.n0 p0, .slice a1 c.n1 p1, .slice a2 c.n2 p2] ∧ FileAt w w.heap.size a0 c.n0 c.r0 ∧ FileAt w w.heap.size a1 c.n1 c.r1 ∧ DOpAt w w.heap.size a2 c.n2 c.r2

theorem DiskIs.next {w w' : World} {v : Value} {c : DiskC} (h : DiskIs w v c) (hb : Below w.heap.size w w') : DiskIs w' v c := by
  obtain ⟨a0, p0, a1, p1, a2, p2, rfl, h0, h1, h2⟩ := h
  exact ⟨a0, p0, a1, p1, a2, p2, rfl, (h0.below hb).mono hb.size, (h1.below hb).mono hb.size, (h2.below hb).mono hb.size⟩
theorem DiskIs.at_old {w w' : World} {v : Value} {c : DiskC} (h : DiskIs w v c) (hb : Below w.heap.size w w') : DiskIs w' v c := h.next hb
theorem DiskIs.hid {w : World} {v : Value} {c : DiskC} (h : DiskIs w v c) : Hid (DiskIs w v c) := h

/-- What came in is within reach. -/
def DiskC.Small (c : DiskC) : Prop := c.n0 ≤ maxLen ∧ (∀ i, i < c.n0 → (c.r0.N i).size ≤ maxLen ∧ (c.r0.D i).size ≤ maxLen) ∧ c.n1 ≤ maxLen ∧ (∀ i, i < c.n1 → (c.r1.N i).size ≤ maxLen ∧ (c.r1.D i).size ≤ maxLen) ∧ c.n2 ≤ maxLen ∧ (∀ i, i < c.n2 → (c.r2.N i).size ≤ maxLen ∧ (c.r2.T i).size ≤ maxLen ∧ (c.r2.D i).size ≤ maxLen)
/-- No text is too long. -/
def DiskC.Fine (c : DiskC) : Prop := (∀ i, i < c.n0 → (c.r0.N i).size ≤ 1048576 ∧ (c.r0.D i).size ≤ 1048576) ∧ (∀ i, i < c.n1 → (c.r1.N i).size ≤ 1048576 ∧ (c.r1.D i).size ≤ 1048576) ∧ (∀ i, i < c.n2 → (c.r2.N i).size ≤ 1048576 ∧ (c.r2.T i).size ≤ 1048576 ∧ (c.r2.D i).size ≤ 1048576)
/-- .. and not too long. -/
def DiskC.Fit (c : DiskC) : Prop := (c.n0 ≤ 1048576 ∧ c.n1 ≤ 1048576 ∧ c.n2 ≤ 1048576) ∧ c.Fine

set_option maxHeartbeats 1000000 in
theorem laws_szDisk (v : Value) (c : DiskC) (l : Int) (w : World) (hs : c.Small) (h0 : 0 ≤ l) (h1 : l ≤ 1048576) (hv : DiskIs w v c) :
    Calls Try.prog 12 #[v, .int .i64 l] w fun e w' => (∃ r : Int, e = .returned (.int .i64 r) ∧ (r < 0 ∨ (0 ≤ r ∧ r ≤ l ∧ c.Fit))) ∧ Below w.heap.size w w' := by
  obtain ⟨a0, p0, a1, p1, a2, p2, rfl, hS0, hS1, hS2⟩ := hv
  obtain ⟨hn0, hz0, hn1, hz1, hn2, hz2⟩ := hs
  have HF : Hid (c.n0 ≤ 1048576 → c.n1 ≤ 1048576 → c.n2 ≤ 1048576 → c.Fine → c.Fit) := fun h0 h1 h2 h3 => ⟨⟨h0, h1, h2⟩, h3⟩
  have hb0 := (Below.refl w.heap.size w).alloc (Nat.le_refl _) (.cells #[.slice a0 c.n0 p0, .slice a1 c.n1 p1, .slice a2 c.n2 p2] 25)
  have hK : BoxIs (w.alloc (.cells #[.slice a0 c.n0 p0, .slice a1 c.n1 p1, .slice a2 c.n2 p2] 25)) w.heap.size #[.slice a0 c.n0 p0, .slice a1 c.n1 p1, .slice a2 c.n2 p2] 25 := BoxIs.new w _ _ rfl
  have HS0 : Hid (FileAt (w.alloc (.cells #[.slice a0 c.n0 p0, .slice a1 c.n1 p1, .slice a2 c.n2 p2] 25)) (w.alloc (.cells #[.slice a0 c.n0 p0, .slice a1 c.n1 p1, .slice a2 c.n2 p2] 25)).heap.size a0 c.n0 c.r0) := (hS0.below hb0).mono hb0.size
  have HS1 : Hid (FileAt (w.alloc (.cells #[.slice a0 c.n0 p0, .slice a1 c.n1 p1, .slice a2 c.n2 p2] 25)) (w.alloc (.cells #[.slice a0 c.n0 p0, .slice a1 c.n1 p1, .slice a2 c.n2 p2] 25)).heap.size a1 c.n1 c.r1) := (hS1.below hb0).mono hb0.size
  have HS2 : Hid (DOpAt (w.alloc (.cells #[.slice a0 c.n0 p0, .slice a1 c.n1 p1, .slice a2 c.n2 p2] 25)) (w.alloc (.cells #[.slice a0 c.n0 p0, .slice a1 c.n1 p1, .slice a2 c.n2 p2] 25)).heap.size a2 c.n2 c.r2) := (hS2.below hb0).mono hb0.size
  clear hS0 hS1 hS2
  go_enter Try.func12, Try.ntmps12
  go_wp2_with fail
  generalize w.alloc (.cells #[.slice a0 c.n0 p0, .slice a1 c.n1 p1, .slice a2 c.n2 p2] 25) = W at hb0 hK HS0 HS1 HS2 ⊢
  refine (laws_szFileS a0 c.n0 p0 c.r0 l W hn0 hz0 h0 (by omega) HS0.out).mono ?_
  rintro e w0 ⟨⟨r0, rfl, hr0⟩, hB0⟩
  have HB0 : Hid (Below w.heap.size w w0) := hb0.trans (hB0.mono hb0.size)
  have HK0 := (BoxIs.next hK hB0).hid
  have HS1 := ((HS1.out.below hB0).mono hB0.size).hid
  have HS2 := ((HS2.out.below hB0).mono hB0.size).hid
  clear hB0
  rcases hr0 with hr0 | ⟨hq0, hp0, hm0, hs0⟩
  · go_wp2
    go_ret
    exact ⟨⟨-1, rfl, .inl (by omega)⟩, HB0.out⟩
  · have hg0 : ¬ (r0 < 0) := by omega
    have HSZ0 := hide hs0
    clear hs0
    have k0 := HK0.out.cell 0
    have k1 := HK0.out.cell 1
    have k2 := HK0.out.cell 2
    go_wp2_with fail
    clear k0 k1 k2
    refine (laws_szFileS a1 c.n1 p1 c.r1 r0 w0 hn1 hz1 hq0 (by omega) HS1.out).mono ?_
    rintro e w1 ⟨⟨r1, rfl, hr1⟩, hB1⟩
    have HB1 : Hid (Below w.heap.size w w1) := HB0.out.trans (hB1.mono HB0.out.size)
    have HK1 := (BoxIs.next HK0.out hB1).hid
    have HS2 := ((HS2.out.below hB1).mono hB1.size).hid
    clear hB1
    rcases hr1 with hr1 | ⟨hq1, hp1, hm1, hs1⟩
    · go_wp2
      go_ret
      exact ⟨⟨-1, rfl, .inl (by omega)⟩, HB1.out⟩
    · have hg1 : ¬ (r1 < 0) := by omega
      have HSZ1 := hide hs1
      clear hs1
      have k0 := HK1.out.cell 0
      have k1 := HK1.out.cell 1
      have k2 := HK1.out.cell 2
      go_wp2_with fail
      clear k0 k1 k2
      refine (laws_szDOpS a2 c.n2 p2 c.r2 r1 w1 hn2 hz2 hq1 (by omega) HS2.out).mono ?_
      rintro e w2 ⟨⟨r2, rfl, hr2⟩, hB2⟩
      have HB2 : Hid (Below w.heap.size w w2) := HB1.out.trans (hB2.mono HB1.out.size)
      have HK2 := (BoxIs.next HK1.out hB2).hid
      clear hB2
      rcases hr2 with hr2 | ⟨hq2, hp2, hm2, hs2⟩
      · go_wp2
        go_ret
        exact ⟨⟨-1, rfl, .inl (by omega)⟩, HB2.out⟩
      · have hg2 : ¬ (r2 < 0) := by omega
        have HSZ2 := hide hs2
        clear hs2
        go_wp2
        go_ret
        exact ⟨⟨r2, rfl, Or.inr ⟨hq2, by omega, HF.out (by omega) (by omega) (by omega) ⟨HSZ0.out, HSZ1.out, HSZ2.out⟩⟩⟩, HB2.out⟩

set_option maxHeartbeats 2000000 in
set_option linter.unusedVariables false in
set_option linter.unusedSimpArgs false in
/-- The copy that the laws make: a struct of its own rows. -/
theorem laws_toDisk (v : Value) (c : DiskC) (w : World) (hl : c.Fit) (hv : DiskIs w v c) :
    Calls Try.prog 14 #[v] w fun e w' => ∃ g0 g1 g2, e = .returned (.agg #[.slice (some ⟨g0, 0, none⟩) c.n0 c.n0, .slice (some ⟨g1, 0, none⟩) c.n1 c.n1, .slice (some ⟨g2, 0, none⟩) c.n2 c.n2]) ∧ w.heap.size ≤ g0 ∧ w'.rowIs g0 96 (c.n0 * 2) (fileCell c.r0) ∧ w.heap.size ≤ g1 ∧ w'.rowIs g1 96 (c.n1 * 2) (fileCell c.r1) ∧ w.heap.size ≤ g2 ∧ w'.rowIs g2 40 (c.n2 * 4) (dOpCell c.r2) ∧ g0 < g1 ∧ g1 < g2 ∧ Below w.heap.size w w' := by
  obtain ⟨a0, p0, a1, p1, a2, p2, rfl, hS0, hS1, hS2⟩ := hv
  obtain ⟨⟨hn0, hn1, hn2⟩, _⟩ := hl
  have hB0 : Below w.heap.size w (((w.alloc (.cells #[.slice a0 c.n0 p0, .slice a1 c.n1 p1, .slice a2 c.n2 p2] 25)).alloc (.cells #[.slice none 0 0, .slice none 0 0, .slice none 0 0] 31)).alloc (.cells #[.slice none 0 0, .slice none 0 0, .slice none 0 0] 31)) :=
    (((Below.refl _ _).alloc (Nat.le_refl _) _).alloc (by simp) _).alloc (by simp; omega) _
  have b0 : BoxIs (((w.alloc (.cells #[.slice a0 c.n0 p0, .slice a1 c.n1 p1, .slice a2 c.n2 p2] 25)).alloc (.cells #[.slice none 0 0, .slice none 0 0, .slice none 0 0] 31)).alloc (.cells #[.slice none 0 0, .slice none 0 0, .slice none 0 0] 31)) w.heap.size #[.slice a0 c.n0 p0, .slice a1 c.n1 p1, .slice a2 c.n2 p2] 25 :=
    ((BoxIs.new w #[.slice a0 c.n0 p0, .slice a1 c.n1 p1, .slice a2 c.n2 p2] 25 rfl).next ((Below.refl _ _).alloc (Nat.le_refl _) _)).next ((Below.refl _ _).alloc (Nat.le_refl _) _)
  have b1 : BoxIs (((w.alloc (.cells #[.slice a0 c.n0 p0, .slice a1 c.n1 p1, .slice a2 c.n2 p2] 25)).alloc (.cells #[.slice none 0 0, .slice none 0 0, .slice none 0 0] 31)).alloc (.cells #[.slice none 0 0, .slice none 0 0, .slice none 0 0] 31)) (w.heap.size + 1) #[.slice none 0 0, .slice none 0 0, .slice none 0 0] 31 :=
    (BoxIs.new (w.alloc (.cells #[.slice a0 c.n0 p0, .slice a1 c.n1 p1, .slice a2 c.n2 p2] 25)) _ _ (by simp)).next ((Below.refl _ _).alloc (Nat.le_refl _) _)
  have b2 : BoxIs (((w.alloc (.cells #[.slice a0 c.n0 p0, .slice a1 c.n1 p1, .slice a2 c.n2 p2] 25)).alloc (.cells #[.slice none 0 0, .slice none 0 0, .slice none 0 0] 31)).alloc (.cells #[.slice none 0 0, .slice none 0 0, .slice none 0 0] 31)) (w.heap.size + 1 + 1) #[.slice none 0 0, .slice none 0 0, .slice none 0 0] 31 :=
    BoxIs.new _ _ _ (by simp)
  have HS0 : Hid (FileAt w w.heap.size a0 c.n0 c.r0) := hS0
  have HS1 : Hid (FileAt w w.heap.size a1 c.n1 c.r1) := hS1
  have HS2 : Hid (DOpAt w w.heap.size a2 c.n2 c.r2) := hS2
  clear hS0 hS1 hS2
  go_enter Try.func14, Try.ntmps14
  go_wp2_with fail
  generalize ((w.alloc (.cells #[.slice a0 c.n0 p0, .slice a1 c.n1 p1, .slice a2 c.n2 p2] 25)).alloc (.cells #[.slice none 0 0, .slice none 0 0, .slice none 0 0] 31)).alloc (.cells #[.slice none 0 0, .slice none 0 0, .slice none 0 0] 31) = W at hB0 b0 b1 b2 ⊢
  have hz2 := b2.lt
  refine (laws_toFileS a0 c.n0 p0 c.r0 W hn0 ((HS0.out.below hB0).mono hB0.size)).mono ?_
  rintro e w0 ⟨rfl, hrow0, hb0⟩
  have hg0 : w.heap.size ≤ W.heap.size := hB0.size
  have hgl0 : w.heap.size + 1 + 1 < W.heap.size := hz2
  have hB0x : Below w.heap.size w w0 := hB0.trans (hb0.mono hg0)
  have b00 := b0.next hb0
  have b10 := b1.next hb0
  have b20 := b2.next hb0
  have HR0 := hidRowB hrow0
  obtain ⟨g0, hgn0⟩ : ∃ g, W.heap.size = g := ⟨_, rfl⟩
  rw [hgn0] at HR0 hg0 hgl0 ⊢
  clear hrow0 hb0 hB0 hgn0
  have k0 : w0.cell? ⟨w.heap.size, 0, none⟩ = some (.slice a0 c.n0 p0) := b00.cell 0
  have y0 : w0.cell? ⟨w.heap.size + 1 + 1, 0, none⟩ = some (.slice none 0 0) := b20.cell 0
  have k1 : w0.cell? ⟨w.heap.size, 1, none⟩ = some (.slice a1 c.n1 p1) := b00.cell 1
  have y1 : w0.cell? ⟨w.heap.size + 1 + 1, 1, none⟩ = some (.slice none 0 0) := b20.cell 1
  have k2 : w0.cell? ⟨w.heap.size, 2, none⟩ = some (.slice a2 c.n2 p2) := b00.cell 2
  have y2 : w0.cell? ⟨w.heap.size + 1 + 1, 2, none⟩ = some (.slice none 0 0) := b20.cell 2
  have yf := b20.free
  go_wp2_with fail
  have hBn0 := (hB0x.setCell (p := ⟨w.heap.size + 1 + 1, 0, none⟩) (by simp; omega) (.slice (some ⟨g0, 0, none⟩) c.n0 c.n0))
  have c00 := (b00.set_other (p := ⟨w.heap.size + 1 + 1, 0, none⟩) (by simp; omega) (.slice (some ⟨g0, 0, none⟩) c.n0 c.n0))
  have c10 := (b10.set_other (p := ⟨w.heap.size + 1 + 1, 0, none⟩) (by simp) (.slice (some ⟨g0, 0, none⟩) c.n0 c.n0))
  have c20 := (b20.set 0 (.slice (some ⟨g0, 0, none⟩) c.n0 c.n0))
  have HR0 := hidRowB (rowIs_set HR0.out (p := ⟨w.heap.size + 1 + 1, 0, none⟩) (by simp; omega) (.slice (some ⟨g0, 0, none⟩) c.n0 c.n0))
  clear k0 y0 k1 y1 k2 y2 yf b00 b10 b20 hB0x
  generalize w0.setCell ⟨w.heap.size + 1 + 1, 0, none⟩ (.slice (some ⟨g0, 0, none⟩) c.n0 c.n0) = V0 at hBn0 c00 c10 c20 HR0 ⊢
  have hsz0 : g0 ≤ V0.heap.size := Nat.le_of_lt HR0.out.lt
  have hsz0 : g0 ≤ V0.heap.size := Nat.le_of_lt HR0.out.lt
  have hsz0 : w.heap.size + 1 + 1 + 1 ≤ V0.heap.size := c20.lt
  have hz2 : w.heap.size + 1 + 1 < w.heap.size + 1 + 1 + 1 := by omega
  refine (laws_toFileS a1 c.n1 p1 c.r1 V0 hn1 ((HS1.out.below hBn0).mono hBn0.size)).mono ?_
  rintro e w1 ⟨rfl, hrow1, hb1⟩
  have hg1 : w.heap.size ≤ V0.heap.size := hBn0.size
  have hgl1 : w.heap.size + 1 + 1 < V0.heap.size := Nat.lt_of_lt_of_le hz2 hsz0
  have hup1 : g0 < V0.heap.size := HR0.out.lt
  have hB1x : Below w.heap.size w w1 := hBn0.trans (hb1.mono hg1)
  have b01 := c00.next hb1
  have b11 := c10.next hb1
  have b21 := c20.next hb1
  have HR1 := hidRowB hrow1
  have HR0 := hidRowB (entRow_below HR0.out hb1 HR0.out.lt)
  obtain ⟨g1, hgn1⟩ : ∃ g, V0.heap.size = g := ⟨_, rfl⟩
  rw [hgn1] at HR1 hg1 hgl1 hup1 ⊢
  clear hrow1 hb1 hBn0 hgn1
  have k0 : w1.cell? ⟨w.heap.size, 0, none⟩ = some (.slice a0 c.n0 p0) := b01.cell 0
  have y0 : w1.cell? ⟨w.heap.size + 1 + 1, 0, none⟩ = some (.slice (some ⟨g0, 0, none⟩) c.n0 c.n0) := b21.cell 0
  have k1 : w1.cell? ⟨w.heap.size, 1, none⟩ = some (.slice a1 c.n1 p1) := b01.cell 1
  have y1 : w1.cell? ⟨w.heap.size + 1 + 1, 1, none⟩ = some (.slice none 0 0) := b21.cell 1
  have k2 : w1.cell? ⟨w.heap.size, 2, none⟩ = some (.slice a2 c.n2 p2) := b01.cell 2
  have y2 : w1.cell? ⟨w.heap.size + 1 + 1, 2, none⟩ = some (.slice none 0 0) := b21.cell 2
  have yf := b21.free
  go_wp2_with fail
  have hBn1 := (hB1x.setCell (p := ⟨w.heap.size + 1 + 1, 1, none⟩) (by simp; omega) (.slice (some ⟨g1, 0, none⟩) c.n1 c.n1))
  have c01 := (b01.set_other (p := ⟨w.heap.size + 1 + 1, 1, none⟩) (by simp; omega) (.slice (some ⟨g1, 0, none⟩) c.n1 c.n1))
  have c11 := (b11.set_other (p := ⟨w.heap.size + 1 + 1, 1, none⟩) (by simp) (.slice (some ⟨g1, 0, none⟩) c.n1 c.n1))
  have c21 := (b21.set 1 (.slice (some ⟨g1, 0, none⟩) c.n1 c.n1))
  have HR0 := hidRowB (rowIs_set HR0.out (p := ⟨w.heap.size + 1 + 1, 1, none⟩) (by simp; omega) (.slice (some ⟨g1, 0, none⟩) c.n1 c.n1))
  have HR1 := hidRowB (rowIs_set HR1.out (p := ⟨w.heap.size + 1 + 1, 1, none⟩) (by simp; omega) (.slice (some ⟨g1, 0, none⟩) c.n1 c.n1))
  clear k0 y0 k1 y1 k2 y2 yf b01 b11 b21 hB1x
  generalize w1.setCell ⟨w.heap.size + 1 + 1, 1, none⟩ (.slice (some ⟨g1, 0, none⟩) c.n1 c.n1) = V1 at hBn1 c01 c11 c21 HR0 HR1 ⊢
  have hsz1 : g1 ≤ V1.heap.size := Nat.le_of_lt HR1.out.lt
  have hsz1 : w.heap.size + 1 + 1 + 1 ≤ V1.heap.size := c21.lt
  have hz2 : w.heap.size + 1 + 1 < w.heap.size + 1 + 1 + 1 := by omega
  refine (laws_toDOpS a2 c.n2 p2 c.r2 V1 hn2 ((HS2.out.below hBn1).mono hBn1.size)).mono ?_
  rintro e w2 ⟨rfl, hrow2, hb2⟩
  have hg2 : w.heap.size ≤ V1.heap.size := hBn1.size
  have hgl2 : w.heap.size + 1 + 1 < V1.heap.size := Nat.lt_of_lt_of_le hz2 hsz1
  have hup2 : g1 < V1.heap.size := HR1.out.lt
  have hB2x : Below w.heap.size w w2 := hBn1.trans (hb2.mono hg2)
  have b02 := c01.next hb2
  have b12 := c11.next hb2
  have b22 := c21.next hb2
  have HR2 := hidRowB hrow2
  have HR0 := hidRowB (entRow_below HR0.out hb2 HR0.out.lt)
  have HR1 := hidRowB (entRow_below HR1.out hb2 HR1.out.lt)
  obtain ⟨g2, hgn2⟩ : ∃ g, V1.heap.size = g := ⟨_, rfl⟩
  rw [hgn2] at HR2 hg2 hgl2 hup2 ⊢
  clear hrow2 hb2 hBn1 hgn2
  have k0 : w2.cell? ⟨w.heap.size, 0, none⟩ = some (.slice a0 c.n0 p0) := b02.cell 0
  have x0 : w2.cell? ⟨w.heap.size + 1, 0, none⟩ = some (.slice none 0 0) := b12.cell 0
  have y0 : w2.cell? ⟨w.heap.size + 1 + 1, 0, none⟩ = some (.slice (some ⟨g0, 0, none⟩) c.n0 c.n0) := b22.cell 0
  have k1 : w2.cell? ⟨w.heap.size, 1, none⟩ = some (.slice a1 c.n1 p1) := b02.cell 1
  have x1 : w2.cell? ⟨w.heap.size + 1, 1, none⟩ = some (.slice none 0 0) := b12.cell 1
  have y1 : w2.cell? ⟨w.heap.size + 1 + 1, 1, none⟩ = some (.slice (some ⟨g1, 0, none⟩) c.n1 c.n1) := b22.cell 1
  have k2 : w2.cell? ⟨w.heap.size, 2, none⟩ = some (.slice a2 c.n2 p2) := b02.cell 2
  have x2 : w2.cell? ⟨w.heap.size + 1, 2, none⟩ = some (.slice none 0 0) := b12.cell 2
  have y2 : w2.cell? ⟨w.heap.size + 1 + 1, 2, none⟩ = some (.slice none 0 0) := b22.cell 2
  have xf := b12.free
  have yf := b22.free
  have hne0 : g0 ≠ w.heap.size + 1 := by omega
  have hnf0 : g0 ≠ w.heap.size + 1 + 1 := by omega
  have hne1 : g1 ≠ w.heap.size + 1 := by omega
  have hnf1 : g1 ≠ w.heap.size + 1 + 1 := by omega
  have hne2 : g2 ≠ w.heap.size + 1 := by omega
  have hnf2 : g2 ≠ w.heap.size + 1 + 1 := by omega
  clear b02 b12 b22
  go_wp2
  refine bodyPost_ret (v := .agg #[.slice (some ⟨g0, 0, none⟩) c.n0 c.n0, .slice (some ⟨g1, 0, none⟩) c.n1 c.n1, .slice (some ⟨g2, 0, none⟩) c.n2 c.n2]) (by simp [results, Try.results14, go_sem, x0, x1, x2]) rfl ⟨g0, g1, g2, rfl, hg0, ?_, hg1, ?_, hg2, ?_, by omega, by omega, ?_⟩
  · refine HR0.out.of_block ?_
    rw [Below.heap_setCell _ _ _ _ (by simpa using hne0), Below.heap_setCell _ _ _ _ (by simpa using hne0), Below.heap_setCell _ _ _ _ (by simpa using hne0), Below.heap_setCell _ _ _ _ (by simpa using hnf0)]
  · refine HR1.out.of_block ?_
    rw [Below.heap_setCell _ _ _ _ (by simpa using hne1), Below.heap_setCell _ _ _ _ (by simpa using hne1), Below.heap_setCell _ _ _ _ (by simpa using hne1), Below.heap_setCell _ _ _ _ (by simpa using hnf1)]
  · refine HR2.out.of_block ?_
    rw [Below.heap_setCell _ _ _ _ (by simpa using hne2), Below.heap_setCell _ _ _ _ (by simpa using hne2), Below.heap_setCell _ _ _ _ (by simpa using hne2), Below.heap_setCell _ _ _ _ (by simpa using hnf2)]
  · exact ((((hB2x.setCell (by simp <;> omega) _).setCell (by simp <;> omega) _).setCell (by simp <;> omega) _).setCell (by simp <;> omega) _)

/-- The copy is the same disk. -/
theorem DiskIs.of_rows {w : World} {c : DiskC} {g0 g1 g2 : Nat} (h0 : w.rowIs g0 96 (c.n0 * 2) (fileCell c.r0)) (h1 : w.rowIs g1 96 (c.n1 * 2) (fileCell c.r1)) (h2 : w.rowIs g2 40 (c.n2 * 4) (dOpCell c.r2)) : DiskIs w (.agg #[.slice (some ⟨g0, 0, none⟩) c.n0 c.n0, .slice (some ⟨g1, 0, none⟩) c.n1 c.n1, .slice (some ⟨g2, 0, none⟩) c.n2 c.n2]) c :=
  ⟨_, _, _, _, _, _, rfl, fileAt_row h0 h0.lt, fileAt_row h1 h1.lt, dOpAt_row h2 h2.lt⟩

set_option maxHeartbeats 1000000 in
set_option linter.unusedVariables false in
theorem laws_eqDisk (v u : Value) (c : DiskC) (w : World) (hl : c.Fit) (hv : DiskIs w v c) (hu : DiskIs w u c) :
    Calls Try.prog 16 #[v, u] w fun e w' => e = .returned (.bool true) ∧ Below w.heap.size w w' := by
  obtain ⟨a0, p0, a1, p1, a2, p2, rfl, hS0, hS1, hS2⟩ := hv
  obtain ⟨b0, q0, b1, q1, b2, q2, rfl, hT0, hT1, hT2⟩ := hu
  obtain ⟨⟨hn0, hn1, hn2⟩, _⟩ := hl
  have hB0 : Below w.heap.size w ((w.alloc (.cells #[.slice a0 c.n0 p0, .slice a1 c.n1 p1, .slice a2 c.n2 p2] 31)).alloc (.cells #[.slice b0 c.n0 q0, .slice b1 c.n1 q1, .slice b2 c.n2 q2] 31)) := ((Below.refl _ _).alloc (Nat.le_refl _) _).alloc (by simp) _
  have k0 : BoxIs ((w.alloc (.cells #[.slice a0 c.n0 p0, .slice a1 c.n1 p1, .slice a2 c.n2 p2] 31)).alloc (.cells #[.slice b0 c.n0 q0, .slice b1 c.n1 q1, .slice b2 c.n2 q2] 31)) w.heap.size #[.slice a0 c.n0 p0, .slice a1 c.n1 p1, .slice a2 c.n2 p2] 31 := (BoxIs.new w _ _ rfl).next ((Below.refl _ _).alloc (Nat.le_refl _) _)
  have l0 : BoxIs ((w.alloc (.cells #[.slice a0 c.n0 p0, .slice a1 c.n1 p1, .slice a2 c.n2 p2] 31)).alloc (.cells #[.slice b0 c.n0 q0, .slice b1 c.n1 q1, .slice b2 c.n2 q2] 31)) (w.heap.size + 1) #[.slice b0 c.n0 q0, .slice b1 c.n1 q1, .slice b2 c.n2 q2] 31 := BoxIs.new _ _ _ (by simp)
  have HS0 := ((hS0.below hB0).mono hB0.size).hid
  have HT0 := ((hT0.below hB0).mono hB0.size).hid
  have HS1 := ((hS1.below hB0).mono hB0.size).hid
  have HT1 := ((hT1.below hB0).mono hB0.size).hid
  have HS2 := ((hS2.below hB0).mono hB0.size).hid
  have HT2 := ((hT2.below hB0).mono hB0.size).hid
  clear hS0 hT0 hS1 hT1 hS2 hT2
  go_enter Try.func16, Try.ntmps16
  go_wp2_with fail
  generalize (w.alloc (.cells #[.slice a0 c.n0 p0, .slice a1 c.n1 p1, .slice a2 c.n2 p2] 31)).alloc (.cells #[.slice b0 c.n0 q0, .slice b1 c.n1 q1, .slice b2 c.n2 q2] 31) = W at hB0 k0 l0 HS0 HT0 HS1 HT1 HS2 HT2 ⊢
  refine (laws_eqFileS a0 b0 c.n0 p0 q0 c.r0 W hn0 HS0.out HT0.out).mono ?_
  rintro e w0 ⟨rfl, hb0⟩
  have hC0 := hB0.trans (hb0.mono hB0.size)
  have k1 := k0.next hb0
  have l1 := l0.next hb0
  have HS1 := ((HS1.out.below hb0).mono hb0.size).hid
  have HT1 := ((HT1.out.below hb0).mono hb0.size).hid
  have HS2 := ((HS2.out.below hb0).mono hb0.size).hid
  have HT2 := ((HT2.out.below hb0).mono hb0.size).hid
  have m1 := k1.cell 1
  have o1 := l1.cell 1
  have m2 := k1.cell 2
  have o2 := l1.cell 2
  clear hb0 hB0 HS0 HT0
  go_wp2_with fail
  clear m1 o1 m2 o2
  refine (laws_eqFileS a1 b1 c.n1 p1 q1 c.r1 w0 hn1 HS1.out HT1.out).mono ?_
  rintro e w1 ⟨rfl, hb1⟩
  have hC1 := hC0.trans (hb1.mono hC0.size)
  have k2 := k1.next hb1
  have l2 := l1.next hb1
  have HS2 := ((HS2.out.below hb1).mono hb1.size).hid
  have HT2 := ((HT2.out.below hb1).mono hb1.size).hid
  have m2 := k2.cell 2
  have o2 := l2.cell 2
  clear hb1 hC0 HS1 HT1
  go_wp2_with fail
  clear m2 o2
  refine (laws_eqDOpS a2 b2 c.n2 p2 q2 c.r2 w1 hn2 HS2.out HT2.out).mono ?_
  rintro e w2 ⟨rfl, hb2⟩
  have hC2 := hC1.trans (hb2.mono hC1.size)
  have k3 := k2.next hb2
  have l3 := l2.next hb2
  clear hb2 hC1 HS2 HT2
  go_wp2
  go_ret
  exact ⟨rfl, hC2⟩

/-- What came in: a disk within reach. -/
def ArgDisk (W : World) (v : Value) : Prop := ∃ c, DiskIs W v c ∧ c.Small

theorem disk_trodC {H : Type} {enc : TypeId × Value → H} {w : World} {base : Nat} {spare : Nat → Bool} {held : Bool} {fuel : Nat} {cs : List Value} {x : DataW H × List MemPlace}
    (hf : DataW.trod enc Try.prog w base spare held fuel 25 cs = some x) : ∃ (c : DiskC) (a0 : Option Addr) (p0 : Nat) (a1 : Option Addr) (p1 : Nat) (a2 : Option Addr) (p2 : Nat), cs = [.slice a0 c.n0 p0, .slice a1 c.n1 p1, .slice a2 c.n2 p2] ∧ FileAt w w.heap.size a0 c.n0 c.r0 ∧ FileAt w w.heap.size a1 c.n1 c.r1 ∧ DOpAt w w.heap.size a2 c.n2 c.r2 ∧ c.Small := by
  have hc : Try.prog.cellsOf 25 = 3 := by kernel_rfl
  have hc2 : Try.prog.cellsOf 2 = 1 := by kernel_rfl
  have hclawsDOp : Try.prog.cellsOf 23 = 1 := by kernel_rfl
  have hclawsFile : Try.prog.cellsOf 22 = 1 := by kernel_rfl
  obtain ⟨xs, n, _, _, hl, hxl, hf2⟩ := DataW.trod_struct Try.underlying25 hf
  rw [hc] at hl
  obtain ⟨c0, c1, c2, rfl⟩ : ∃ c0 c1 c2, cs = [c0, c1, c2] := by
    match cs, hl with
    | [c0, c1, c2], _ => exact ⟨c0, c1, c2, rfl⟩
  obtain ⟨y0, y1, y2, rfl⟩ : ∃ y0 y1 y2, xs = [y0, y1, y2] := by
    match xs, hxl with
    | [y0, y1, y2], _ => exact ⟨y0, y1, y2, rfl⟩
  have f0 : DataW.trod enc Try.prog w base spare held n 22 (List.take (Try.prog.cellsOf 22) [c0, c1, c2]) = some y0 := hf2 0 _ rfl
  rw [hclawsFile] at f0
  have f1 : DataW.trod enc Try.prog w base spare held n 22 (List.take (Try.prog.cellsOf 22) [c1, c2]) = some y1 := hf2 1 _ rfl
  rw [hclawsFile] at f1
  have f2 : DataW.trod enc Try.prog w base spare held n 23 (List.take (Try.prog.cellsOf 23) [c2]) = some y2 := hf2 2 _ rfl
  rw [hclawsDOp] at f2
  obtain ⟨a0, n0, p0, r0, e0, hl0, hA0, hz0⟩ := files_trod f0
  obtain ⟨a1, n1, p1, r1, e1, hl1, hA1, hz1⟩ := files_trod f1
  obtain ⟨a2, n2, p2, r2, e2, hl2, hA2, hz2⟩ := dOps_trod f2
  simp at e0 e1 e2
  subst e0 e1 e2
  exact ⟨⟨n0, r0, n1, r1, n2, r2⟩, a0, p0, a1, p1, a2, p2, rfl, hA0, hA1, hA2, hl0, hz0, hl1, hz1, hl2, hz2⟩

theorem open_disk {H : Type} {enc : TypeId × Value → H} {w : World} {r : Reach} {b0 base : Nat} {spare : Nat → Bool} {held : Bool} {v : Value} {d : DataW H} {p : List MemPlace}
    (hv : Value.okWide Try.prog w r b0 25 v) (h : DataW.Trod enc Try.prog w base spare held 25 v d p) : ArgDisk w v := by
  obtain ⟨cs, rfl, hsz⟩ := WideShapes.okWide_struct Try.underlying25 hv
  obtain ⟨fuel, hf⟩ := h
  obtain ⟨c, a0, p0, a1, p1, a2, p2, hcs, h0, h1, h2, hsm⟩ := disk_trodC hf
  have : cs = #[.slice a0 c.n0 p0, .slice a1 c.n1 p1, .slice a2 c.n2 p2] := Array.toList_inj.1 (by simpa [Value.cells] using hcs)
  subst this
  exact ⟨c, ⟨a0, p0, a1, p1, a2, p2, rfl, h0, h1, h2⟩, hsm⟩

end Go.Proofs.Ytejedpmkbkclhaa
