/- The marks that the laws lay into an edit: two rows, the marks going on; an edit as Apply of the program reads it. -/
import Derived.Test.YtplbhgcibfajaaaEdit
import Derived.Test.YtplbhgcibfajaaaMkMeta
import Derived.Test.YtplbhgcibfajaaaMkInt
import Derived.Test.YtplbhgcibfajaaaMine
import Derived.Test.YtplbhgcibfajaaaMgPickLPickPApQSlMSrtMApIApJ
import Derived.Deep.RegionHeld3
import Derived.Test.YtplbhgcibfajaaaRowG
import Derived.Test.YtplbhgcibfajaaaNth
import Derived.Test.YtplbhgcibfajaaaReg
import Derived.BigQuiet
import Derived.Deep.DeepCutAuto
import Derived.Test.YtplbhgcibfajaaaDrawW
import Derived.Test.YtplbhgcibfajaaaDrawX
import Derived.Test.YtplbhgcibfajaaaOpen
import Derived.Laws.StructEq
import Derived.Deep.LoopGhost
namespace Go.Proofs.Ytplbhgcibfajaaa
set_option maxRecDepth 100000
open Go.RowKit Go.Deep

set_option linter.unusedVariables false in
theorem laws_markEdit (K0 : Nat) (kv : Int) (hkv : kv = (K0 : Int)) (hK : 1 ≤ K0 ∧ K0 ≤ 30000000) (a0 : Option Addr) (p0 g0 : Nat) (a1 : Option Addr) (p1 g1 : Nat) (c : EditC) (w : World) (hl : c.Fit) (hg0 : c.n0 = 0 ∨ a0 = some ⟨g0, 0, none⟩) (hw0 : ∀ j, j < c.n0 * 5 → (∃ v, w.cell? ⟨g0, j, none⟩ = some v) ∧ w.frozen? ⟨g0, j, none⟩ = false)
    (hg1 : c.n1 = 0 ∨ a1 = some ⟨g1, 0, none⟩) (hw1 : ∀ j, j < c.n1 → (∃ v, w.cell? ⟨g1, j, none⟩ = some v) ∧ w.frozen? ⟨g1, j, none⟩ = false) (hne : g1 ≠ g0) (h0l : g0 < w.heap.size) (h1l : g1 < w.heap.size) :
    Calls Try.prog 16 #[.agg #[.slice a0 c.n0 p0, .slice a1 c.n1 p1, .int .i64 c.x2, .int .i64 c.x3, .int .i64 c.x4], .int .i64 kv] w fun e w' => e = .returned (.int .i64 ((K0 + c.n0 * 5 + c.n1 : Nat) : Int)) ∧ ∃ wm, Mv g0 w wm ∧ Mv g1 wm w' := by
  obtain ⟨hl0, hl1⟩ := hl
  have hb := below_one w (.cells #[.slice a0 c.n0 p0, .slice a1 c.n1 p1, .int .i64 c.x2, .int .i64 c.x3, .int .i64 c.x4] 37)
  have hB : BoxIs (w.alloc (.cells #[.slice a0 c.n0 p0, .slice a1 c.n1 p1, .int .i64 c.x2, .int .i64 c.x3, .int .i64 c.x4] 37)) w.heap.size #[.slice a0 c.n0 p0, .slice a1 c.n1 p1, .int .i64 c.x2, .int .i64 c.x3, .int .i64 c.x4] 37 := BoxIs.new _ _ _ rfl
  have up : ∀ g n, g < w.heap.size → (∀ j, j < n → (∃ v, w.cell? ⟨g, j, none⟩ = some v) ∧ w.frozen? ⟨g, j, none⟩ = false) → ∀ j, j < n → (∃ v, (w.alloc (.cells #[.slice a0 c.n0 p0, .slice a1 c.n1 p1, .int .i64 c.x2, .int .i64 c.x3, .int .i64 c.x4] 37)).cell? ⟨g, j, none⟩ = some v) ∧ (w.alloc (.cells #[.slice a0 c.n0 p0, .slice a1 c.n1 p1, .int .i64 c.x2, .int .i64 c.x3, .int .i64 c.x4] 37)).frozen? ⟨g, j, none⟩ = false := fun g n hg h j hj => by
    obtain ⟨⟨v, hv⟩, hf⟩ := h j hj
    exact ⟨⟨v, keepc hb hv⟩, (hb.frozen (p := ⟨g, j, none⟩) hg).trans hf⟩
  have hv0 := up g0 _ h0l hw0
  have hv1 := up g1 _ h1l hw1
  have HM := hide (Mv.of_below (g := g0) hb)
  have HB := hB.hid
  have hWl : w.heap.size < (w.alloc (.cells #[.slice a0 c.n0 p0, .slice a1 c.n1 p1, .int .i64 c.x2, .int .i64 c.x3, .int .i64 c.x4] 37)).heap.size := hB.lt
  subst hkv
  clear hw0 hw1 hb hB up
  go_enter Try.func16, Try.ntmps16
  go_wp2_with fail
  generalize w.alloc (.cells #[.slice a0 c.n0 p0, .slice a1 c.n1 p1, .int .i64 c.x2, .int .i64 c.x3, .int .i64 c.x4] 37) = W at hv0 hv1 HM HB hWl ⊢
  refine (laws_markMetaS K0 _ rfl ⟨hK.1, by omega⟩ a0 c.n0 p0 g0 W hl0 hg0 hv0).mono ?_
  rintro e w1 ⟨rfl, hM⟩
  have hmv := hM.mv
  have HM1 := hide (HM.out.trans hmv)
  have HB1 := (HB.out.mv hmv (by omega)).hid
  have hx1 : ∀ j, j < c.n1 → (∃ v, w1.cell? ⟨g1, j, none⟩ = some v) ∧ w1.frozen? ⟨g1, j, none⟩ = false := fun j hj => by
    obtain ⟨⟨v, hv⟩, hf⟩ := hv1 j hj
    exact ⟨⟨v, (hmv.cell (p := ⟨g1, j, none⟩) (Nat.lt_trans h1l hWl) hne).trans hv⟩, (hmv.frozen (p := ⟨g1, j, none⟩) (Nat.lt_trans h1l hWl) hne).trans hf⟩
  have hs1 := hmv.size
  clear hM hmv hv0 hv1 HM HB
  have k0 := HB1.out.cell 0
  have k1 := HB1.out.cell 1
  have k2 := HB1.out.cell 2
  have k3 := HB1.out.cell 3
  have k4 := HB1.out.cell 4
  go_wp2_with fail
  clear k0 k1 k2 k3 k4
  refine (laws_markInt64S (K0 + c.n0 * 5) _ rfl ⟨by omega, by omega⟩ a1 c.n1 p1 g1 w1 hl1 hg1 hx1).mono ?_
  rintro e w2 ⟨rfl, hM⟩
  have HM2 := hide hM.mv
  clear hM hx1
  go_wp2
  go_ret
  exact ⟨rfl, _, HM1.out, HM2.out⟩

/-- A row that an answer owns stays where a box of another type is written. -/
theorem Mine.setBox {w : World} {B : Nat} {ty t : TypeId} {k N : Nat} {a : Option Addr} {p n : Nat} {f : Nat → Value} {cs : Array Value} (h : Mine w B ty k a p n f) (hb : BoxIs w N cs t) (hne : t ≠ ty) (j : Nat) (v : Value) : Mine (w.setCell ⟨N, j, none⟩ v) B ty k a p n f := by
  rcases h with h | ⟨g, cur, ha, hB, hh, hn, hc⟩
  · exact .inl h
  · have hg : N ≠ g := fun e => by
      subst e
      have h1 : w.heap[N]? = some (.cells cs t) := hb
      rw [h1] at hh
      simp only [Option.some.injEq, Obj.cells.injEq] at hh
      exact hne hh.2.1
    exact .inr ⟨g, cur, ha, hB, (show BoxIs w g cur ty from hh).set_other (p := ⟨N, j, none⟩) hg v, hn, hc⟩

theorem EditSrc.is {w : World} {v : Value} {d : EditC} (h : EditSrc w v d) : EditIs w v d := by
  obtain ⟨b0, q0, b1, q1, rfl, h0, h1, _⟩ := h
  exact ⟨b0, q0, b1, q1, rfl, h0, h1⟩
theorem EditSrc.hid {w : World} {v : Value} {d : EditC} (h : EditSrc w v d) : Hid (EditSrc w v d) := h
theorem EditSrc.of_rows {w : World} {c : EditC} {g0 g1 : Nat} (h0 : w.rowIs g0 59 (c.n0 * 5) (metaCell c.r0)) (h1 : w.rowIs g1 2 c.n1 (fun i => .int .i64 (c.r1 i))) : EditSrc w (.agg #[.slice (some ⟨g0, 0, none⟩) c.n0 c.n0, .slice (some ⟨g1, 0, none⟩) c.n1 c.n1, .int .i64 c.x2, .int .i64 c.x3, .int .i64 c.x4]) c :=
  ⟨_, _, _, _, rfl, metaAt_row h0 h0.lt, intAt_row h1 h1.lt, .inr ⟨g1, c.n1, by rw [cutsL_len], h1.lt, fun i hi => by
    rw [cutsL_len] at hi
    have hc := h1.cell hi
    simpa [cutsL, List.getD, hi] using hc⟩⟩

theorem spec_ApplyO (v e : Value) (c : VersionC) (d : EditC) (w : World) (hf : c.Fit) (hg : d.Fit) (hv : VersionIs w v c) (he : EditIs w e d) :
    Calls Try.prog 9 #[v, e] w fun x w' => (∃ u, x = .returned (.tuple #[u, .bool (apB c d)]) ∧ VersionOwn w' w.heap.size u (apC c d)) ∧ Below w.heap.size w w' :=
  (spec_Apply v e c d w hf hg hv he).mono (by rintro x w' ⟨⟨u, hu, ho⟩, hb⟩; exact ⟨⟨u, hu, ho.own⟩, hb⟩)
theorem impl_ApplyO (v e : Value) (c : VersionC) (d : EditC) (w : World) (hf : c.Fit) (hg : d.Fit) (hv : VersionIs w v c) (he : EditSrc w e d) :
    Calls Try.prog 12 #[v, e] w fun x w' => (∃ u, x = .returned (.tuple #[u, .bool (apB c d)]) ∧ VersionOwn w' w.heap.size u (apC c d)) ∧ Below w.heap.size w w' :=
  (impl_Apply v e c d w hf hg hv he).mono (by rintro x w' ⟨⟨u, hu, ho⟩, hb⟩; exact ⟨⟨u, hu, ho.own⟩, hb⟩)

theorem apC_fit (c : VersionC) (d : EditC) : (apC c d).Fit := by
  unfold apC
  by_cases h : apB c d = true
  · rw [if_pos h]
    have hv : versB (apV c d) = true := by unfold apB at h; simp only [Bool.and_eq_true] at h; exact h.2
    have := (versB_sizes hv).1
    unfold VersionC.Fit
    omega
  · rw [if_neg h]
    show (0 : Nat) ≤ 1048576
    omega

end Go.Proofs.Ytplbhgcibfajaaa

/- Rows of edits: those that came in, the copies that the laws make, their size, that two are alike; the marks that the laws lay into them. (By gen_edits.py.) -/
namespace Go.Proofs.Ytplbhgcibfajaaa
set_option maxRecDepth 100000
open Go.RowKit Go.Deep

theorem laws_szMetaT (a : Option Addr) (len cap : Nat) (O : Metas) (l : Int) (w : World) (hl : len ≤ maxLen) (hs : ∀ i, i < len → (O.F i).size ≤ maxLen ∧ (O.Z i).size ≤ maxLen) (h0 : 0 ≤ l) (h1 : l ≤ 1048576) (hS : MetaAt w w.heap.size a len O) :
    Calls Try.prog 29 #[.slice a len cap, .int .i64 l] w fun e w' => (∃ r : Int, e = .returned (.int .i64 r) ∧ (r < 0 ∨ (0 ≤ r ∧ r + len ≤ l))) ∧ Below w.heap.size w w' := by
  unfold maxLen at hl
  have HSz : Hid (∀ i, i < len → (O.F i).size ≤ maxLen ∧ (O.Z i).size ≤ maxLen) := hs
  clear hs
  by_cases hbig : l < (len : Int)
  · have hx : l - (len : Int) < 0 := by omega
    go_enter Try.func29, Try.ntmps29
    go_wp2
    go_ret
    exact ⟨⟨-1, rfl, .inl (by omega)⟩, Below.refl _ _⟩
  · have hx : ¬ (l - (len : Int) < 0) := by omega
    have HS : Hid (MetaAt w w.heap.size a len O) := hS
    have HB0 : Hid (Below w.heap.size w w) := Below.refl _ _
    clear hS
    go_enter Try.func29, Try.ntmps29
    go_wp2
    go_loopw [1, 5] (fun r i wr => ∃ (k : Nat) (x : Int), r = .int .i64 x ∧ i = .int .i64 k ∧ k ≤ len ∧ 0 ≤ x ∧ x + len ≤ l ∧ Hid (Below w.heap.size w wr)) (fun _ i _ => len - (intOf i).toNat)
    case atStart => exact ⟨0, l - len, rfl, rfl, by omega, by omega, by omega, HB0⟩
    case round =>
      obtain ⟨k, x, rfl, rfl, hk, hx0, hx1, HB⟩ := hrel
      clear HB0
      by_cases hlt : k < len
      · obtain ⟨b, off, rfl, hb, c0, c1, c2, c3, c4⟩ := (HS.out.below HB.out).at hlt
        obtain ⟨z0, z1⟩ := HSz.out k hlt
        unfold maxLen at z0 z1
        by_cases hneg : x < (O.F k).size + (O.Z k).size
        · go_wp2_with fail
          refine (calls_from HB.out (laws_szMeta (O.N k) (O.L k) (O.F k) (O.Z k) (O.C k) x (by unfold maxLen; omega) (by unfold maxLen; omega) ⟨hx0, by omega⟩ _)).mono ?_
          rintro e w1 ⟨rfl, hB1⟩
          have HB1 : Hid _ := hB1
          clear hB1 c0 c1 c2 c3 c4
          go_wp2
          go_ret
          exact ⟨⟨-1, rfl, .inl (by omega)⟩, HB1⟩
        · have hneg' : ¬ (x - ((O.F k).size : Int) - ((O.Z k).size : Int) < 0) := by omega
          go_wp2_with fail
          refine (calls_from HB.out (laws_szMeta (O.N k) (O.L k) (O.F k) (O.Z k) (O.C k) x (by unfold maxLen; omega) (by unfold maxLen; omega) ⟨hx0, by omega⟩ _)).mono ?_
          rintro e w1 ⟨rfl, hB1⟩
          have HB1 : Hid (Below w.heap.size w w1) := hB1
          clear hB1 c0 c1 c2 c3 c4
          go_wp2
          exact ⟨⟨k + 1, x - (O.F k).size - (O.Z k).size, by rw [if_neg (by omega)], by go_num, by omega, by omega, by omega, HB1⟩, by simp [intOf]; omega⟩
      · obtain rfl : k = len := by omega
        go_wp2
        go_ret
        exact ⟨⟨x, rfl, Or.inr ⟨by omega, by omega⟩⟩, HB.out⟩

theorem laws_szInt64T (a : Option Addr) (len cap : Nat) (S : Nat → Int) (l : Int) (w : World) (hl : len ≤ maxLen) (h0 : 0 ≤ l) (h1 : l ≤ 1048576) (_hS : IntAt w w.heap.size a len S) :
    Calls Try.prog 30 #[.slice a len cap, .int .i64 l] w fun e w' => (∃ r : Int, e = .returned (.int .i64 r) ∧ (r < 0 ∨ (0 ≤ r ∧ r + len ≤ l))) ∧ Below w.heap.size w w' := by
  unfold maxLen at hl
  by_cases hbig : l < (len : Int)
  · have hx : l - (len : Int) < 0 := by omega
    go_enter Try.func30, Try.ntmps30
    go_wp2
    go_ret
    exact ⟨⟨-1, rfl, Or.inl (by omega)⟩, Below.refl _ _⟩
  · have hx : ¬ (l - (len : Int) < 0) := by omega
    go_enter Try.func30, Try.ntmps30
    go_wp2
    go_ret
    exact ⟨⟨l - len, rfl, by omega⟩, Below.refl _ _⟩

set_option linter.unusedVariables false in
set_option maxHeartbeats 1000000 in
theorem laws_szEditT (v : Value) (c : EditC) (l : Int) (w : World) (hs : c.Small) (h0 : 0 ≤ l) (h1 : l ≤ 1048576) (hv : EditIs w v c) :
    Calls Try.prog 8 #[v, .int .i64 l] w fun e w' => (∃ r : Int, e = .returned (.int .i64 r) ∧ (r < 0 ∨ (0 ≤ r ∧ r + c.n0 + c.n1 ≤ l))) ∧ Below w.heap.size w w' := by
  obtain ⟨a0, p0, a1, p1, rfl, hS0, hS1⟩ := hv
  obtain ⟨hn0, hz0, hn1⟩ := hs
  have hb0 := (Below.refl w.heap.size w).alloc (Nat.le_refl _) (.cells #[.slice a0 c.n0 p0, .slice a1 c.n1 p1, .int .i64 c.x2, .int .i64 c.x3, .int .i64 c.x4] 27)
  have hK : BoxIs (w.alloc (.cells #[.slice a0 c.n0 p0, .slice a1 c.n1 p1, .int .i64 c.x2, .int .i64 c.x3, .int .i64 c.x4] 27)) w.heap.size #[.slice a0 c.n0 p0, .slice a1 c.n1 p1, .int .i64 c.x2, .int .i64 c.x3, .int .i64 c.x4] 27 := BoxIs.new w _ _ rfl
  have HS0 : Hid (MetaAt (w.alloc (.cells #[.slice a0 c.n0 p0, .slice a1 c.n1 p1, .int .i64 c.x2, .int .i64 c.x3, .int .i64 c.x4] 27)) (w.alloc (.cells #[.slice a0 c.n0 p0, .slice a1 c.n1 p1, .int .i64 c.x2, .int .i64 c.x3, .int .i64 c.x4] 27)).heap.size a0 c.n0 c.r0) := (hS0.below hb0).mono hb0.size
  have HS1 : Hid (IntAt (w.alloc (.cells #[.slice a0 c.n0 p0, .slice a1 c.n1 p1, .int .i64 c.x2, .int .i64 c.x3, .int .i64 c.x4] 27)) (w.alloc (.cells #[.slice a0 c.n0 p0, .slice a1 c.n1 p1, .int .i64 c.x2, .int .i64 c.x3, .int .i64 c.x4] 27)).heap.size a1 c.n1 c.r1) := (hS1.below hb0).mono hb0.size
  clear hS0 hS1
  go_enter Try.func8, Try.ntmps8
  go_wp2_with fail
  generalize w.alloc (.cells #[.slice a0 c.n0 p0, .slice a1 c.n1 p1, .int .i64 c.x2, .int .i64 c.x3, .int .i64 c.x4] 27) = W at hb0 hK HS0 HS1 ⊢
  refine (laws_szMetaT a0 c.n0 p0 c.r0 l W hn0 hz0 h0 (by omega) HS0.out).mono ?_
  rintro e w0 ⟨⟨r0, rfl, hr0⟩, hB0⟩
  have HB0 : Hid (Below w.heap.size w w0) := hb0.trans (hB0.mono hb0.size)
  have HK0 := (BoxIs.next hK hB0).hid
  have HS1 := ((HS1.out.below hB0).mono hB0.size).hid
  clear hB0
  rcases hr0 with hr0 | ⟨hq0, hp0⟩
  · go_wp2
    go_ret
    exact ⟨⟨-1, rfl, .inl (by omega)⟩, HB0.out⟩
  · have hg0 : ¬ (r0 < 0) := by omega
    have k0 := HK0.out.cell 0
    have k1 := HK0.out.cell 1
    have k2 := HK0.out.cell 2
    have k3 := HK0.out.cell 3
    have k4 := HK0.out.cell 4
    go_wp2_with fail
    clear k0 k1 k2 k3 k4
    refine (laws_szInt64T a1 c.n1 p1 c.r1 r0 w0 hn1 hq0 (by omega) HS1.out).mono ?_
    rintro e w1 ⟨⟨r1, rfl, hr1⟩, hB1⟩
    have HB1 : Hid (Below w.heap.size w w1) := HB0.out.trans (hB1.mono HB0.out.size)
    have HK1 := (BoxIs.next HK0.out hB1).hid
    clear hB1
    rcases hr1 with hr1 | ⟨hq1, hp1⟩
    · go_wp2
      go_ret
      exact ⟨⟨-1, rfl, .inl (by omega)⟩, HB1.out⟩
    · have hg1 : ¬ (r1 < 0) := by omega
      go_wp2
      go_ret
      exact ⟨⟨r1, rfl, Or.inr ⟨hq1, by omega⟩⟩, HB1.out⟩

/-- A row of n edits, in memory below block B. -/
def EditsAt (w : World) (B : Nat) (a : Option Addr) (n : Nat) (E : Nat → EditC) : Prop :=
  n = 0 ∨ ∃ b off, a = some ⟨b, off, none⟩ ∧ b < B ∧ ∀ i, i < n → ∃ a0 p0 a1 p1, (w.cell? ⟨b, off + i * 5, none⟩ = some (.slice a0 (E i).n0 p0) ∧ w.cell? ⟨b, off + i * 5 + 1, none⟩ = some (.slice a1 (E i).n1 p1) ∧ w.cell? ⟨b, off + i * 5 + 2, none⟩ = some (.int .i64 (E i).x2) ∧ w.cell? ⟨b, off + i * 5 + 3, none⟩ = some (.int .i64 (E i).x3) ∧ w.cell? ⟨b, off + i * 5 + 4, none⟩ = some (.int .i64 (E i).x4)) ∧ MetaAt w B a0 (E i).n0 (E i).r0 ∧ IntAt w B a1 (E i).n1 (E i).r1
theorem EditsAt.below {w w' : World} {B : Nat} {a : Option Addr} {n : Nat} {E : Nat → EditC} (h : EditsAt w B a n E) (hb : Below B w w') : EditsAt w' B a n E := by
  rcases h with h | ⟨b, off, e, hB, hc⟩
  · exact .inl h
  · refine .inr ⟨b, off, e, hB, fun i hi => ?_⟩
    obtain ⟨a0, p0, a1, p1, ⟨c0, c1, c2, c3, c4⟩, h1, h2⟩ := hc i hi
    exact ⟨a0, p0, a1, p1, ⟨(hb.cell (p := ⟨b, _, none⟩) hB).trans c0, (hb.cell (p := ⟨b, _, none⟩) hB).trans c1, (hb.cell (p := ⟨b, _, none⟩) hB).trans c2, (hb.cell (p := ⟨b, _, none⟩) hB).trans c3, (hb.cell (p := ⟨b, _, none⟩) hB).trans c4⟩, h1.below hb, h2.below hb⟩
theorem EditsAt.mono {w : World} {B B' : Nat} {a : Option Addr} {n : Nat} {E : Nat → EditC} (h : EditsAt w B a n E) (hB : B ≤ B') : EditsAt w B' a n E := by
  rcases h with h | ⟨b, off, e, hb, hc⟩
  · exact .inl h
  · refine .inr ⟨b, off, e, by omega, fun i hi => ?_⟩
    obtain ⟨a0, p0, a1, p1, h0, h1, h2⟩ := hc i hi
    exact ⟨a0, p0, a1, p1, h0, h1.mono hB, h2.mono hB⟩
theorem EditsAt.next {w w' : World} {a : Option Addr} {n : Nat} {E : Nat → EditC} (h : EditsAt w w.heap.size a n E) (hb : Below w.heap.size w w') : EditsAt w' w'.heap.size a n E := (h.below hb).mono hb.size
theorem EditsAt.hid {w : World} {B : Nat} {a : Option Addr} {n : Nat} {E : Nat → EditC} (h : EditsAt w B a n E) : Hid (EditsAt w B a n E) := h
theorem EditsAt.at {w : World} {B : Nat} {a : Option Addr} {n : Nat} {E : Nat → EditC} (h : EditsAt w B a n E) {i : Nat} (hi : i < n) :
    ∃ b off a0 p0 a1 p1, a = some ⟨b, off, none⟩ ∧ b < B ∧ (w.cell? ⟨b, off + i * 5, none⟩ = some (.slice a0 (E i).n0 p0) ∧ w.cell? ⟨b, off + i * 5 + 1, none⟩ = some (.slice a1 (E i).n1 p1) ∧ w.cell? ⟨b, off + i * 5 + 2, none⟩ = some (.int .i64 (E i).x2) ∧ w.cell? ⟨b, off + i * 5 + 3, none⟩ = some (.int .i64 (E i).x3) ∧ w.cell? ⟨b, off + i * 5 + 4, none⟩ = some (.int .i64 (E i).x4)) ∧ MetaAt w B a0 (E i).n0 (E i).r0 ∧ IntAt w B a1 (E i).n1 (E i).r1 := by
  rcases h with h | ⟨b, off, e, hb, hc⟩
  · omega
  · obtain ⟨a0, p0, a1, p1, h0, h1, h2⟩ := hc i hi
    exact ⟨b, off, a0, p0, a1, p1, e, hb, h0, h1, h2⟩

/-- The lengths of the first k edits' rows; how many cells their marks take. -/
def edLen (E : Nat → EditC) : Nat → Nat
  | 0 => 0
  | k + 1 => edLen E k + (E k).n0 + (E k).n1
def edSum (E : Nat → EditC) : Nat → Nat
  | 0 => 0
  | k + 1 => edSum E k + (E k).n0 * 5 + (E k).n1 + 3
theorem edSum_le (E : Nat → EditC) : ∀ k, edSum E k ≤ 5 * edLen E k + 3 * k
  | 0 => by simp [edSum, edLen]
  | k + 1 => by have := edSum_le E k; rw [edSum, edLen]; omega
theorem edLen_at (E : Nat → EditC) {i : Nat} : ∀ {k : Nat}, i < k → (E i).n0 + (E i).n1 ≤ edLen E k
  | 0, h => by omega
  | k + 1, h => by
    rw [edLen]
    rcases Nat.lt_or_eq_of_le (Nat.lt_succ_iff.1 h) with h1 | rfl
    · have := edLen_at E h1; omega
    · omega
/-- What the laws let by. -/
def EditsFit (n : Nat) (E : Nat → EditC) : Prop := edLen E n + n ≤ 1048576
theorem EditsFit.at {n : Nat} {E : Nat → EditC} (h : EditsFit n E) {i : Nat} (hi : i < n) : (E i).Fit := by
  have := edLen_at E hi
  unfold EditsFit at h
  exact ⟨by omega, by omega⟩

set_option linter.unusedVariables false in
set_option maxHeartbeats 1000000 in
theorem laws_szEditS (a : Option Addr) (n cap : Nat) (E : Nat → EditC) (l : Int) (w : World) (hn : n ≤ maxLen) (hs : ∀ i, i < n → (E i).Small) (h0 : 0 ≤ l) (h1 : l ≤ 1048576) (hS : EditsAt w w.heap.size a n E) :
    Calls Try.prog 18 #[.slice a n cap, .int .i64 l] w fun e w' => (∃ r : Int, e = .returned (.int .i64 r) ∧ (r < 0 ∨ (0 ≤ r ∧ r ≤ l ∧ EditsFit n E))) ∧ Below w.heap.size w w' := by
  unfold maxLen at hn
  have HSz := hide hs
  clear hs
  by_cases hbig : l < (n : Int)
  · have hx : l - (n : Int) < 0 := by omega
    go_enter Try.func18, Try.ntmps18
    go_wp2
    go_ret
    exact ⟨⟨-1, rfl, .inl (by omega)⟩, Below.refl _ _⟩
  · have hx : ¬ (l - (n : Int) < 0) := by omega
    have HS := hS.hid
    have HB0 : Hid (Below w.heap.size w w) := Below.refl _ _
    clear hS
    go_enter Try.func18, Try.ntmps18
    go_wp2
    go_loopw [1, 5] (fun r i wr => ∃ (k : Nat) (x : Int), r = .int .i64 x ∧ i = .int .i64 k ∧ k ≤ n ∧ 0 ≤ x ∧ x + n + edLen E k ≤ l ∧ Hid (Below w.heap.size w wr)) (fun _ i _ => n - (intOf i).toNat)
    case atStart => exact ⟨0, l - n, rfl, rfl, by omega, by omega, by simp [edLen], HB0⟩
    case round =>
      obtain ⟨k, x, rfl, rfl, hk, hx0, hx1, HB⟩ := hrel
      clear HB0
      by_cases hlt : k < n
      · obtain ⟨b, off, a0, p0, a1, p1, rfl, hb, ⟨c0, c1, c2, c3, c4⟩, hM, hI⟩ := (HS.out.next HB.out).at hlt
        have hki : (k : Int) < (n : Int) := by omega
        have HE := hide (⟨a0, p0, a1, p1, rfl, hM, hI⟩ : EditIs wr (.agg #[.slice a0 (E k).n0 p0, .slice a1 (E k).n1 p1, .int .i64 (E k).x2, .int .i64 (E k).x3, .int .i64 (E k).x4]) (E k))
        have hsm := HSz.out k hlt
        have hel : edLen E (k + 1) = edLen E k + (E k).n0 + (E k).n1 := rfl
        clear hM hI
        go_wp2_with fail
        refine (laws_szEditT _ (E k) x wr hsm hx0 (by omega) HE.out).mono ?_
        rintro e w1 ⟨⟨r, rfl, hr⟩, hB1⟩
        have HB1 := hide (HB.out.trans (hB1.mono HB.out.size))
        clear hB1 c0 c1 c2 c3 c4 hsm
        rcases hr with hr | ⟨hr0, hr1⟩
        · go_wp2
          go_ret
          exact ⟨⟨-1, rfl, .inl (by omega)⟩, HB1.out⟩
        · have hr3 : ¬ (r < 0) := by omega
          have hr4 : r + n + edLen E (k + 1) ≤ l := by omega
          clear hr1 hel hx1
          go_wp2
          exact ⟨⟨k + 1, r, rfl, by go_num, by omega, hr0, hr4, HB1⟩, by simp [intOf]; omega⟩
      · obtain rfl : k = n := by omega
        have HFF : Hid (EditsFit k E) := by show _ ≤ _; omega
        have hxl : x ≤ l := by omega
        clear hx1
        go_wp2
        go_ret
        exact ⟨⟨x, rfl, .inr ⟨hx0, hxl, HFF.out⟩⟩, HB.out⟩

/-- Cell i of a row of edits whose rows lie in blocks of their own. -/
def edCell (E : Nat → EditC) (G0 G1 : Nat → Nat) (i : Nat) : Value :=
  if i % 5 = 0 then .slice (some ⟨G0 (i / 5), 0, none⟩) (E (i / 5)).n0 (E (i / 5)).n0 else if i % 5 = 1 then .slice (some ⟨G1 (i / 5), 0, none⟩) (E (i / 5)).n1 (E (i / 5)).n1 else if i % 5 = 2 then .int .i64 (E (i / 5)).x2 else if i % 5 = 3 then .int .i64 (E (i / 5)).x3 else .int .i64 (E (i / 5)).x4
theorem edCell0 (E : Nat → EditC) (G0 G1 : Nat → Nat) (k : Nat) : edCell E G0 G1 (k * 5) = .slice (some ⟨G0 k, 0, none⟩) (E k).n0 (E k).n0 := by
  unfold edCell; rw [if_pos (by omega), show (k * 5) / 5 = k by omega]
theorem edCell1 (E : Nat → EditC) (G0 G1 : Nat → Nat) (k : Nat) : edCell E G0 G1 (k * 5 + 1) = .slice (some ⟨G1 k, 0, none⟩) (E k).n1 (E k).n1 := by
  unfold edCell; rw [if_neg (by omega), if_pos (by omega), show (k * 5 + 1) / 5 = k by omega]
theorem edCell2 (E : Nat → EditC) (G0 G1 : Nat → Nat) (k : Nat) : edCell E G0 G1 (k * 5 + 2) = .int .i64 (E k).x2 := by
  unfold edCell; rw [if_neg (by omega), if_neg (by omega), if_pos (by omega), show (k * 5 + 2) / 5 = k by omega]
theorem edCell3 (E : Nat → EditC) (G0 G1 : Nat → Nat) (k : Nat) : edCell E G0 G1 (k * 5 + 3) = .int .i64 (E k).x3 := by
  unfold edCell; rw [if_neg (by omega), if_neg (by omega), if_neg (by omega), if_pos (by omega), show (k * 5 + 3) / 5 = k by omega]
theorem edCell4 (E : Nat → EditC) (G0 G1 : Nat → Nat) (k : Nat) : edCell E G0 G1 (k * 5 + 4) = .int .i64 (E k).x4 := by
  unfold edCell; rw [if_neg (by omega), if_neg (by omega), if_neg (by omega), if_neg (by omega), show (k * 5 + 4) / 5 = k by omega]
theorem edCell_upd (E : Nat → EditC) (G0 G1 : Nat → Nat) (k g0 g1 i : Nat) (h : i < k * 5) : edCell E (fun j => if j = k then g0 else G0 j) (fun j => if j = k then g1 else G1 j) i = edCell E G0 G1 i := by
  unfold edCell
  have : ¬ i / 5 = k := by omega
  simp only [this, if_false]
def fillEd (E : Nat → EditC) (G0 G1 : Nat → Nat) (k : Nat) (i : Nat) : Value := if i < k * 5 then edCell E G0 G1 i else (#[Value.slice none 0 0, .slice none 0 0, .int .i64 0, .int .i64 0, .int .i64 0] : Array Value)[i % 5]!
theorem fillEd_step {w : World} {g n k : Nat} {t : TypeId} {E : Nat → EditC} {G0 G1 : Nat → Nat} (g0 g1 : Nat) (h : w.rowIs g t n (fillEd E G0 G1 k)) :
    ((((((((((w).setCell ⟨g, k * 5, none⟩ (.slice (some ⟨g0, 0, none⟩) (E k).n0 (E k).n0))).setCell ⟨g, k * 5 + 1, none⟩ (.slice (some ⟨g1, 0, none⟩) (E k).n1 (E k).n1))).setCell ⟨g, k * 5 + 2, none⟩ (.int .i64 (E k).x2))).setCell ⟨g, k * 5 + 3, none⟩ (.int .i64 (E k).x3))).setCell ⟨g, k * 5 + 4, none⟩ (.int .i64 (E k).x4)).rowIs g t n (fillEd E (fun j => if j = k then g0 else G0 j) (fun j => if j = k then g1 else G1 j) (k + 1)) := by
  refine (((((h.set (k * 5) _).set (k * 5 + 1) _).set (k * 5 + 2) _).set (k * 5 + 3) _).set (k * 5 + 4) _).congr fun i _ => ?_
  by_cases e4 : i = k * 5 + 4
  · subst e4; rw [if_pos rfl, fillEd, if_pos (by omega), edCell4]
  · rw [if_neg e4]
    by_cases e3 : i = k * 5 + 3
    · subst e3; rw [if_pos rfl, fillEd, if_pos (by omega), edCell3]
    · rw [if_neg e3]
      by_cases e2 : i = k * 5 + 2
      · subst e2; rw [if_pos rfl, fillEd, if_pos (by omega), edCell2]
      · rw [if_neg e2]
        by_cases e1 : i = k * 5 + 1
        · subst e1; rw [if_pos rfl, fillEd, if_pos (by omega), edCell1, if_pos rfl]
        · rw [if_neg e1]
          by_cases e0 : i = k * 5
          · subst e0; rw [if_pos rfl, fillEd, if_pos (by omega), edCell0, if_pos rfl]
          · rw [if_neg e0]
            unfold fillEd
            by_cases hl : i < k * 5
            · rw [if_pos hl, if_pos (by omega), edCell_upd _ _ _ _ _ _ _ hl]
            · rw [if_neg hl, if_neg (by omega)]
theorem madeEd_row (w : World) (n : Nat) (t : TypeId) (E : Nat → EditC) (G0 G1 : Nat → Nat) : (w.alloc (.cells (madeCells #[Value.slice none 0 0, .slice none 0 0, .int .i64 0, .int .i64 0, .int .i64 0] (n * 5)) t)).rowIs w.heap.size t (n * 5) (fillEd E G0 G1 0) := by
  have h := World.rowIs_alloc w (madeCells #[Value.slice none 0 0, .slice none 0 0, .int .i64 0, .int .i64 0, .int .i64 0] (n * 5)) t (fillEd E G0 G1 0) (fun i hi => by
    rw [size_madeCells] at hi
    unfold fillEd madeCells
    rw [if_neg (by omega)]
    simp [hi])
  rwa [size_madeCells] at h

/-- The copy of a row of edits, as far as it has come. -/
structure ECopy (w0 w : World) (g n k : Nat) (E : Nat → EditC) (G0 G1 : Nat → Nat) : Prop where
  row : w.rowIs g 37 (n * 5) (fillEd E G0 G1 k)
  each : ∀ i, i < k → g < G0 i ∧ G0 i < G1 i ∧ w.rowIs (G0 i) 59 ((E i).n0 * 5) (metaCell (E i).r0) ∧ w.rowIs (G1 i) 2 (E i).n1 (fun j => .int .i64 ((E i).r1 j))
  ord : ∀ i j, i < j → j < k → G1 i < G0 j
  low : Below w0.heap.size w0 w
  hg : w0.heap.size ≤ g
theorem ECopy.next {w0 w w' : World} {g n k : Nat} {E : Nat → EditC} {G0 G1 : Nat → Nat} (h : ECopy w0 w g n k E G0 G1) (hb : Below w.heap.size w w') : ECopy w0 w' g n k E G0 G1 :=
  ⟨entRow_below h.row hb h.row.lt, fun i hi => ⟨(h.each i hi).1, (h.each i hi).2.1, entRow_below (h.each i hi).2.2.1 hb (h.each i hi).2.2.1.lt, entRow_below (h.each i hi).2.2.2 hb (h.each i hi).2.2.2.lt⟩, h.ord, h.low.trans (hb.mono h.low.size), h.hg⟩
theorem rowIs_set5 {w : World} {g b n : Nat} {t : TypeId} {f : Nat → Value} (h : w.rowIs b t n f) (hne : g ≠ b) (o0 o1 o2 o3 o4 : Nat) (v0 v1 v2 v3 v4 : Value) : (((((w.setCell ⟨g, o0, none⟩ v0).setCell ⟨g, o1, none⟩ v1).setCell ⟨g, o2, none⟩ v2).setCell ⟨g, o3, none⟩ v3).setCell ⟨g, o4, none⟩ v4).rowIs b t n f :=
  rowIs_set (rowIs_set (rowIs_set (rowIs_set (rowIs_set h hne _) hne _) hne _) hne _) hne _
theorem ECopy.step {w0 w : World} {g n k g0 g1 : Nat} {E : Nat → EditC} {G0 G1 : Nat → Nat} (h : ECopy w0 w g n k E G0 G1) (hg : g < g0) (h01 : g0 < g1) (hnew : ∀ i, i < k → G1 i < g0) (hr0 : w.rowIs g0 59 ((E k).n0 * 5) (metaCell (E k).r0)) (hr1 : w.rowIs g1 2 (E k).n1 (fun j => .int .i64 ((E k).r1 j))) :
    ECopy w0 (((((w.setCell ⟨g, k * 5, none⟩ (.slice (some ⟨g0, 0, none⟩) (E k).n0 (E k).n0)).setCell ⟨g, k * 5 + 1, none⟩ (.slice (some ⟨g1, 0, none⟩) (E k).n1 (E k).n1)).setCell ⟨g, k * 5 + 2, none⟩ (.int .i64 (E k).x2)).setCell ⟨g, k * 5 + 3, none⟩ (.int .i64 (E k).x3)).setCell ⟨g, k * 5 + 4, none⟩ (.int .i64 (E k).x4)) g n (k + 1) E (fun j => if j = k then g0 else G0 j) (fun j => if j = k then g1 else G1 j) := by
  refine ⟨fillEd_step g0 g1 h.row, fun i hi => ?_, fun i j hij hj => ?_, ((((h.low.setCell (p := ⟨g, k * 5, none⟩) h.hg _).setCell (p := ⟨g, k * 5 + 1, none⟩) h.hg _).setCell (p := ⟨g, k * 5 + 2, none⟩) h.hg _).setCell (p := ⟨g, k * 5 + 3, none⟩) h.hg _).setCell (p := ⟨g, k * 5 + 4, none⟩) h.hg _, h.hg⟩
  · by_cases e : i = k
    · subst e
      simp only [if_true]
      exact ⟨hg, h01, rowIs_set5 hr0 (by omega) _ _ _ _ _ _ _ _ _ _, rowIs_set5 hr1 (by omega) _ _ _ _ _ _ _ _ _ _⟩
    · simp only [e, if_false]
      obtain ⟨q1, q2, q3, q4⟩ := h.each i (by omega)
      exact ⟨q1, q2, rowIs_set5 q3 (by omega) _ _ _ _ _ _ _ _ _ _, rowIs_set5 q4 (by omega) _ _ _ _ _ _ _ _ _ _⟩
  · have hi : i ≠ k := by omega
    simp only [hi, if_false]
    by_cases e : j = k
    · simp only [e, if_true]; exact hnew i (by omega)
    · simp only [e, if_false]; exact h.ord i j hij (by omega)
theorem ECopy.cells {w0 w : World} {g n : Nat} {E : Nat → EditC} {G0 G1 : Nat → Nat} (h : ECopy w0 w g n n E G0 G1) {i : Nat} (hi : i < n) :
    w.cell? ⟨g, i * 5, none⟩ = some (.slice (some ⟨G0 i, 0, none⟩) (E i).n0 (E i).n0) ∧ w.cell? ⟨g, i * 5 + 1, none⟩ = some (.slice (some ⟨G1 i, 0, none⟩) (E i).n1 (E i).n1) ∧ w.cell? ⟨g, i * 5 + 2, none⟩ = some (.int .i64 (E i).x2) ∧ w.cell? ⟨g, i * 5 + 3, none⟩ = some (.int .i64 (E i).x3) ∧ w.cell? ⟨g, i * 5 + 4, none⟩ = some (.int .i64 (E i).x4) := by
  refine ⟨?_, ?_, ?_, ?_, ?_⟩
  · rw [h.row.cell (by omega), fillEd, if_pos (by omega), edCell0]
  · rw [h.row.cell (by omega), fillEd, if_pos (by omega), edCell1]
  · rw [h.row.cell (by omega), fillEd, if_pos (by omega), edCell2]
  · rw [h.row.cell (by omega), fillEd, if_pos (by omega), edCell3]
  · rw [h.row.cell (by omega), fillEd, if_pos (by omega), edCell4]
theorem ECopy.at' {w0 w : World} {g n : Nat} {E : Nat → EditC} {G0 G1 : Nat → Nat} (h : ECopy w0 w g n n E G0 G1) : EditsAt w w.heap.size (some ⟨g, 0, none⟩) n E := by
  refine .inr ⟨g, 0, rfl, h.row.lt, fun i hi => ?_⟩
  obtain ⟨q1, q2, q3, q4⟩ := h.each i hi
  refine ⟨some ⟨G0 i, 0, none⟩, (E i).n0, some ⟨G1 i, 0, none⟩, (E i).n1, ?_, metaAt_row q3 q3.lt, intAt_row q4 q4.lt⟩
  rw [Nat.zero_add]
  exact h.cells hi

set_option linter.unusedVariables false in
set_option maxHeartbeats 2000000 in
theorem laws_toEditS (a : Option Addr) (n cap : Nat) (E : Nat → EditC) (w : World) (hf : EditsFit n E) (hS : EditsAt w w.heap.size a n E) :
    Calls Try.prog 20 #[.slice a n cap] w fun e w' => e = .returned (.slice (some ⟨w.heap.size, 0, none⟩) n n) ∧ ∃ G0 G1, ECopy w w' w.heap.size n n E G0 G1 := by
  have hn : n ≤ 1048576 := by unfold EditsFit at hf; omega
  have HL := hide (fun i (hi : i < n) => hf.at hi)
  have hi9 : (Try.prog.info? 37).map (fun i => (i.zero, i.size, i.bytes)) = some (some (.agg #[.slice none 0 0, .slice none 0 0, .int .i64 0, .int .i64 0, .int .i64 0]), 5, 72) := by kernel_rfl
  obtain ⟨i0, hi0, hz0, hz1, hz2⟩ := info_parts hi9
  have hmk : ∀ W : World, (Instr.makeSlice 48 (.int .i64 (n : Int)) (.int .i64 (n : Int))).run Try.prog W = .ok (.slice (some ⟨W.heap.size, 0, none⟩) n n) (W.alloc (.cells (madeCells #[Value.slice none 0 0, .slice none 0 0, .int .i64 0, .int .i64 0, .int .i64 0] (n * 5)) 37)) := fun W => by
    have := run_make (P := Try.prog) W 48 37 i0 _ Try.underlying48 hi0 hz0 .i64 .i64 n n (by omega) (Int.le_refl _) (by rw [hz2]; omega) (by omega)
    rw [hz1] at this
    simpa [Value.cells] using this
  have HR0 : Hid (ECopy w (w.alloc (.cells (madeCells #[Value.slice none 0 0, .slice none 0 0, .int .i64 0, .int .i64 0, .int .i64 0] (n * 5)) 37)) w.heap.size n 0 E (fun _ => 0) (fun _ => 0)) :=
    ⟨madeEd_row w n _ E _ _, fun i hi => absurd hi (by omega), fun i j _ hj => absurd hj (by omega), below_one w _, Nat.le_refl _⟩
  have HS := hS.hid
  clear hS hi9 hi0 hz0 hz1 hz2 hf
  go_enter Try.func20, Try.ntmps20
  go_wp2
  generalize w.alloc (.cells (madeCells #[Value.slice none 0 0, .slice none 0 0, .int .i64 0, .int .i64 0, .int .i64 0] (n * 5)) 37) = w0 at HR0 ⊢
  clear hmk
  go_loopw [4] (fun i wr => ∃ (k : Nat) (G0 G1 : Nat → Nat), i = .int .i64 k ∧ k ≤ n ∧ Hid (ECopy w wr w.heap.size n k E G0 G1)) (fun i _ => n - (intOf i).toNat)
  case atStart => exact ⟨0, _, _, rfl, by omega, HR0⟩
  case round =>
    obtain ⟨k, G0, G1, rfl, hk, HR⟩ := hrel
    clear HR0
    by_cases hlt : k < n
    · have hgl := HR.out.row.lt
      obtain ⟨b, off, a0, p0, a1, p1, rfl, hb, ⟨c0, c1, c2, c3, c4⟩, hM, hI⟩ := (HS.out.next HR.out.low).at hlt
      have hki : (k : Int) < (n : Int) := by omega
      have HE := hide (⟨a0, p0, a1, p1, rfl, hM, hI⟩ : EditIs wr (.agg #[.slice a0 (E k).n0 p0, .slice a1 (E k).n1 p1, .int .i64 (E k).x2, .int .i64 (E k).x3, .int .i64 (E k).x4]) (E k))
      have hold := fun i hi => (HR.out.each i hi).2.2.2.lt
      clear hM hI
      go_wp2_with fail
      refine (laws_toEdit _ (E k) wr (HL.out k hlt) HE.out).mono ?_
      rintro e w1 ⟨g0, g1, rfl, hg0, hr0, hg1, hr1, h01, hB1⟩
      have HR1 := hide (HR.out.next hB1)
      have d0 := HR1.out.row.cell (i := k * 5) (by omega)
      have d1 := HR1.out.row.cell (i := k * 5 + 1) (by omega)
      have d2 := HR1.out.row.cell (i := k * 5 + 2) (by omega)
      have d3 := HR1.out.row.cell (i := k * 5 + 3) (by omega)
      have d4 := HR1.out.row.cell (i := k * 5 + 4) (by omega)
      have hfr := HR1.out.row.frozen
      have HR2 := hide (HR1.out.step (by omega) h01 (fun i hi => by have := hold i hi; omega) hr0 hr1)
      clear hr0 hr1 hB1 HR HR1 c0 c1 c2 c3 c4 HE hold
      generalize fillEd E G0 G1 k (k * 5) = v0 at d0
      generalize fillEd E G0 G1 k (k * 5 + 1) = v1 at d1
      generalize fillEd E G0 G1 k (k * 5 + 2) = v2 at d2
      generalize fillEd E G0 G1 k (k * 5 + 3) = v3 at d3
      generalize fillEd E G0 G1 k (k * 5 + 4) = v4 at d4
      go_wp2
      exact ⟨⟨k + 1, _, _, by go_num, by omega, HR2⟩, by simp [intOf]; omega⟩
    · obtain rfl : k = n := by omega
      go_wp2
      go_ret
      exact ⟨rfl, G0, G1, HR.out⟩

theorem eqEdit_at {w x : World} {c : EditC} {a0 a1 b0 b1 : Option Addr} {p0 p1 q0 q1 : Nat} (hl : c.Fit) (hb : Below w.heap.size w x) (h0 : MetaAt w w.heap.size a0 c.n0 c.r0) (h1 : IntAt w w.heap.size a1 c.n1 c.r1) (k0 : MetaAt w w.heap.size b0 c.n0 c.r0) (k1 : IntAt w w.heap.size b1 c.n1 c.r1) :
    Calls Try.prog 14 #[.agg #[.slice a0 c.n0 p0, .slice a1 c.n1 p1, .int .i64 c.x2, .int .i64 c.x3, .int .i64 c.x4], .agg #[.slice b0 c.n0 q0, .slice b1 c.n1 q1, .int .i64 c.x2, .int .i64 c.x3, .int .i64 c.x4]] x fun e w' => e = .returned (.bool true) ∧ Below x.heap.size x w' :=
  laws_eqEdit _ _ c x hl ⟨a0, p0, a1, p1, rfl, h0.next hb, h1.next hb⟩ ⟨b0, q0, b1, q1, rfl, k0.next hb, k1.next hb⟩


set_option linter.unusedVariables false in
set_option maxHeartbeats 2000000 in
theorem laws_eqEditS (a b : Option Addr) (n ca cb : Nat) (E : Nat → EditC) (w : World) (hf : EditsFit n E) (ha : EditsAt w w.heap.size a n E) (hb : EditsAt w w.heap.size b n E) :
    Calls Try.prog 22 #[.slice a n ca, .slice b n cb] w fun e w' => e = .returned (.bool true) ∧ Below w.heap.size w w' := by
  have HA := ha.hid
  have HB := hb.hid
  have hn : n ≤ 1048576 := by unfold EditsFit at hf; omega
  have HL := hide (fun i (hi : i < n) => hf.at hi)
  clear ha hb hf
  have HB0 : Hid (Below w.heap.size w w) := Below.refl _ _
  go_enter Try.func22, Try.ntmps22
  go_wp2
  go_loopw [5] (fun i wr => ∃ k : Nat, i = .int .i64 k ∧ k ≤ n ∧ Hid (Below w.heap.size w wr)) (fun i _ => n - (intOf i).toNat)
  case atStart => exact ⟨0, rfl, by omega, HB0⟩
  case round =>
    obtain ⟨k, rfl, hk, HW⟩ := hrel
    clear HB0
    by_cases hlt : k < n
    · obtain ⟨b1, o1, a0, p0, a1, p1, rfl, hb1, ⟨c0, c1, c2, c3, c4⟩, hM1, hI1⟩ := (HA.out.next HW.out).at hlt
      obtain ⟨b2, o2, y0, q0, y1, q1, rfl, hb2, ⟨d0, d1, d2, d3, d4⟩, hM2, hI2⟩ := (HB.out.next HW.out).at hlt
      have hki : (k : Int) < (n : Int) := by omega
      have M1 := hide hM1
      have I1 := hide hI1
      have M2 := hide hM2
      have I2 := hide hI2
      have hstart : wr.drew.cell? ⟨b1, o1 + k * 5, none⟩ = some (.slice a0 (E k).n0 p0) ∧ wr.drew.cell? ⟨b1, o1 + k * 5 + 1, none⟩ = some (.slice a1 (E k).n1 p1) ∧ wr.drew.cell? ⟨b1, o1 + k * 5 + 2, none⟩ = some (.int .i64 (E k).x2) ∧ wr.drew.cell? ⟨b1, o1 + k * 5 + 3, none⟩ = some (.int .i64 (E k).x3) ∧ wr.drew.cell? ⟨b1, o1 + k * 5 + 4, none⟩ = some (.int .i64 (E k).x4) ∧ wr.drew.cell? ⟨b2, o2 + k * 5, none⟩ = some (.slice y0 (E k).n0 q0) ∧ wr.drew.cell? ⟨b2, o2 + k * 5 + 1, none⟩ = some (.slice y1 (E k).n1 q1) ∧ wr.drew.cell? ⟨b2, o2 + k * 5 + 2, none⟩ = some (.int .i64 (E k).x2) ∧ wr.drew.cell? ⟨b2, o2 + k * 5 + 3, none⟩ = some (.int .i64 (E k).x3) ∧ wr.drew.cell? ⟨b2, o2 + k * 5 + 4, none⟩ = some (.int .i64 (E k).x4) ∧ Hid (Below wr.heap.size wr wr.drew) ∧ Hid (Below w.heap.size w wr.drew) :=
        ⟨c0, c1, c2, c3, c4, d0, d1, d2, d3, d4, (Below.refl _ _).drew, HW.out.drew⟩
      clear c0 c1 c2 c3 c4 d0 d1 d2 d3 d4 hM1 hI1 hM2 hI2
      go_wp2_with fail
      go_region_held3 (fun (w' : World) => w'.cell? ⟨b1, o1 + k * 5, none⟩ = some (.slice a0 (E k).n0 p0) ∧ w'.cell? ⟨b1, o1 + k * 5 + 1, none⟩ = some (.slice a1 (E k).n1 p1) ∧ w'.cell? ⟨b1, o1 + k * 5 + 2, none⟩ = some (.int .i64 (E k).x2) ∧ w'.cell? ⟨b1, o1 + k * 5 + 3, none⟩ = some (.int .i64 (E k).x3) ∧ w'.cell? ⟨b1, o1 + k * 5 + 4, none⟩ = some (.int .i64 (E k).x4) ∧ w'.cell? ⟨b2, o2 + k * 5, none⟩ = some (.slice y0 (E k).n0 q0) ∧ w'.cell? ⟨b2, o2 + k * 5 + 1, none⟩ = some (.slice y1 (E k).n1 q1) ∧ w'.cell? ⟨b2, o2 + k * 5 + 2, none⟩ = some (.int .i64 (E k).x2) ∧ w'.cell? ⟨b2, o2 + k * 5 + 3, none⟩ = some (.int .i64 (E k).x3) ∧ w'.cell? ⟨b2, o2 + k * 5 + 4, none⟩ = some (.int .i64 (E k).x4) ∧ Hid (Below wr.heap.size wr w') ∧ Hid (Below w.heap.size w w')) (assumption)
        ((go_at_call 14; refine (held_callE (S := fun (w' : World) => w'.cell? ⟨b1, o1 + k * 5, none⟩ = some (.slice a0 (E k).n0 p0) ∧ w'.cell? ⟨b1, o1 + k * 5 + 1, none⟩ = some (.slice a1 (E k).n1 p1) ∧ w'.cell? ⟨b1, o1 + k * 5 + 2, none⟩ = some (.int .i64 (E k).x2) ∧ w'.cell? ⟨b1, o1 + k * 5 + 3, none⟩ = some (.int .i64 (E k).x3) ∧ w'.cell? ⟨b1, o1 + k * 5 + 4, none⟩ = some (.int .i64 (E k).x4) ∧ w'.cell? ⟨b2, o2 + k * 5, none⟩ = some (.slice y0 (E k).n0 q0) ∧ w'.cell? ⟨b2, o2 + k * 5 + 1, none⟩ = some (.slice y1 (E k).n1 q1) ∧ w'.cell? ⟨b2, o2 + k * 5 + 2, none⟩ = some (.int .i64 (E k).x2) ∧ w'.cell? ⟨b2, o2 + k * 5 + 3, none⟩ = some (.int .i64 (E k).x3) ∧ w'.cell? ⟨b2, o2 + k * 5 + 4, none⟩ = some (.int .i64 (E k).x4) ∧ Hid (Below wr.heap.size wr w') ∧ Hid (Below w.heap.size w w'))
          (fun wa wb h hx => ⟨(hx.cell (p := ⟨_, _, none⟩) (Nat.lt_of_lt_of_le hb1 h.2.2.2.2.2.2.2.2.2.2.1.out.size)).trans h.1, (hx.cell (p := ⟨_, _, none⟩) (Nat.lt_of_lt_of_le hb1 h.2.2.2.2.2.2.2.2.2.2.1.out.size)).trans h.2.1, (hx.cell (p := ⟨_, _, none⟩) (Nat.lt_of_lt_of_le hb1 h.2.2.2.2.2.2.2.2.2.2.1.out.size)).trans h.2.2.1, (hx.cell (p := ⟨_, _, none⟩) (Nat.lt_of_lt_of_le hb1 h.2.2.2.2.2.2.2.2.2.2.1.out.size)).trans h.2.2.2.1, (hx.cell (p := ⟨_, _, none⟩) (Nat.lt_of_lt_of_le hb1 h.2.2.2.2.2.2.2.2.2.2.1.out.size)).trans h.2.2.2.2.1, (hx.cell (p := ⟨_, _, none⟩) (Nat.lt_of_lt_of_le hb2 h.2.2.2.2.2.2.2.2.2.2.1.out.size)).trans h.2.2.2.2.2.1, (hx.cell (p := ⟨_, _, none⟩) (Nat.lt_of_lt_of_le hb2 h.2.2.2.2.2.2.2.2.2.2.1.out.size)).trans h.2.2.2.2.2.2.1, (hx.cell (p := ⟨_, _, none⟩) (Nat.lt_of_lt_of_le hb2 h.2.2.2.2.2.2.2.2.2.2.1.out.size)).trans h.2.2.2.2.2.2.2.1, (hx.cell (p := ⟨_, _, none⟩) (Nat.lt_of_lt_of_le hb2 h.2.2.2.2.2.2.2.2.2.2.1.out.size)).trans h.2.2.2.2.2.2.2.2.1, (hx.cell (p := ⟨_, _, none⟩) (Nat.lt_of_lt_of_le hb2 h.2.2.2.2.2.2.2.2.2.2.1.out.size)).trans h.2.2.2.2.2.2.2.2.2.1, h.2.2.2.2.2.2.2.2.2.2.1.out.trans (hx.mono h.2.2.2.2.2.2.2.2.2.2.1.out.size), h.2.2.2.2.2.2.2.2.2.2.2.out.trans (hx.mono h.2.2.2.2.2.2.2.2.2.2.2.out.size)⟩)
          (by assumption) (eqEdit_at (w := wr) (HL.out k hlt) ((fun (w' : World) (h : w'.cell? ⟨b1, o1 + k * 5, none⟩ = some (.slice a0 (E k).n0 p0) ∧ w'.cell? ⟨b1, o1 + k * 5 + 1, none⟩ = some (.slice a1 (E k).n1 p1) ∧ w'.cell? ⟨b1, o1 + k * 5 + 2, none⟩ = some (.int .i64 (E k).x2) ∧ w'.cell? ⟨b1, o1 + k * 5 + 3, none⟩ = some (.int .i64 (E k).x3) ∧ w'.cell? ⟨b1, o1 + k * 5 + 4, none⟩ = some (.int .i64 (E k).x4) ∧ w'.cell? ⟨b2, o2 + k * 5, none⟩ = some (.slice y0 (E k).n0 q0) ∧ w'.cell? ⟨b2, o2 + k * 5 + 1, none⟩ = some (.slice y1 (E k).n1 q1) ∧ w'.cell? ⟨b2, o2 + k * 5 + 2, none⟩ = some (.int .i64 (E k).x2) ∧ w'.cell? ⟨b2, o2 + k * 5 + 3, none⟩ = some (.int .i64 (E k).x3) ∧ w'.cell? ⟨b2, o2 + k * 5 + 4, none⟩ = some (.int .i64 (E k).x4) ∧ Hid (Below wr.heap.size wr w') ∧ Hid (Below w.heap.size w w')) => h.2.2.2.2.2.2.2.2.2.2.1.out) _ (by assumption)) M1.out I1.out M2.out I2.out)).mono ?_; rintro e w1 ⟨rfl, hS⟩))
      all_goals
        have HW2 : Hid (Below w.heap.size w w1) := hS.2.2.2.2.2.2.2.2.2.2.2
        clear hS hstart
        go_wp2
        exact ⟨⟨k + 1, by go_num, by omega, HW2⟩, by simp [intOf]; omega⟩
    · go_wp2
      go_ret
      exact ⟨rfl, HW.out⟩

end Go.Proofs.Ytplbhgcibfajaaa

/- Replay of both sides. (By gen_replay.py.) -/
namespace Go.Proofs.Ytplbhgcibfajaaa
set_option maxRecDepth 100000
open Go.RowKit Go.Deep

/-- A row of edits whose cuts can be sorted. -/
def EditsSrc (w : World) (a : Option Addr) (n : Nat) (E : Nat → EditC) : Prop :=
  n = 0 ∨ ∃ b off, a = some ⟨b, off, none⟩ ∧ b < w.heap.size ∧ ∀ i, i < n → ∃ a0 p0 a1 p1, (w.cell? ⟨b, off + i * 5, none⟩ = some (.slice a0 (E i).n0 p0) ∧ w.cell? ⟨b, off + i * 5 + 1, none⟩ = some (.slice a1 (E i).n1 p1) ∧ w.cell? ⟨b, off + i * 5 + 2, none⟩ = some (.int .i64 (E i).x2) ∧ w.cell? ⟨b, off + i * 5 + 3, none⟩ = some (.int .i64 (E i).x3) ∧ w.cell? ⟨b, off + i * 5 + 4, none⟩ = some (.int .i64 (E i).x4)) ∧ MetaAt w w.heap.size a0 (E i).n0 (E i).r0 ∧ IntAt w w.heap.size a1 (E i).n1 (E i).r1 ∧ IntSrc w (.slice a1 (E i).n1 p1) (cutsL (E i))
theorem EditsSrc.next {w w' : World} {a : Option Addr} {n : Nat} {E : Nat → EditC} (h : EditsSrc w a n E) (hb : Below w.heap.size w w') : EditsSrc w' a n E := by
  rcases h with h | ⟨b, off, e, hB, hc⟩
  · exact .inl h
  · refine .inr ⟨b, off, e, Nat.lt_of_lt_of_le hB hb.size, fun i hi => ?_⟩
    obtain ⟨a0, p0, a1, p1, ⟨c0, c1, c2, c3, c4⟩, h1, h2, h3⟩ := hc i hi
    exact ⟨a0, p0, a1, p1, ⟨(hb.cell (p := ⟨b, _, none⟩) hB).trans c0, (hb.cell (p := ⟨b, _, none⟩) hB).trans c1, (hb.cell (p := ⟨b, _, none⟩) hB).trans c2, (hb.cell (p := ⟨b, _, none⟩) hB).trans c3, (hb.cell (p := ⟨b, _, none⟩) hB).trans c4⟩, h1.next hb, h2.next hb, h3.next hb⟩
theorem EditsSrc.at {w : World} {a : Option Addr} {n : Nat} {E : Nat → EditC} (h : EditsSrc w a n E) {i : Nat} (hi : i < n) :
    ∃ b off a0 p0 a1 p1, a = some ⟨b, off, none⟩ ∧ b < w.heap.size ∧ (w.cell? ⟨b, off + i * 5, none⟩ = some (.slice a0 (E i).n0 p0) ∧ w.cell? ⟨b, off + i * 5 + 1, none⟩ = some (.slice a1 (E i).n1 p1) ∧ w.cell? ⟨b, off + i * 5 + 2, none⟩ = some (.int .i64 (E i).x2) ∧ w.cell? ⟨b, off + i * 5 + 3, none⟩ = some (.int .i64 (E i).x3) ∧ w.cell? ⟨b, off + i * 5 + 4, none⟩ = some (.int .i64 (E i).x4)) ∧ EditSrc w (.agg #[.slice a0 (E i).n0 p0, .slice a1 (E i).n1 p1, .int .i64 (E i).x2, .int .i64 (E i).x3, .int .i64 (E i).x4]) (E i) := by
  rcases h with h | ⟨b, off, e, hb, hc⟩
  · omega
  · obtain ⟨a0, p0, a1, p1, h0, h1, h2, h3⟩ := hc i hi
    exact ⟨b, off, a0, p0, a1, p1, e, hb, h0, ⟨_, _, _, _, rfl, h1, h2, h3⟩⟩
theorem EditsSrc.hid {w : World} {a : Option Addr} {n : Nat} {E : Nat → EditC} (h : EditsSrc w a n E) : Hid (EditsSrc w a n E) := h
theorem ECopy.src {w0 w : World} {g n : Nat} {E : Nat → EditC} {G0 G1 : Nat → Nat} (h : ECopy w0 w g n n E G0 G1) : EditsSrc w (some ⟨g, 0, none⟩) n E := by
  refine .inr ⟨g, 0, rfl, h.row.lt, fun i hi => ?_⟩
  obtain ⟨q1, q2, q3, q4⟩ := h.each i hi
  obtain ⟨b0, q0, b1, q1', he, h0, h1, h2⟩ := EditSrc.of_rows q3 q4
  simp only [Value.agg.injEq, Array.mk.injEq, List.cons.injEq, Value.slice.injEq, true_and, and_true] at he
  obtain ⟨⟨rfl, rfl⟩, rfl, rfl⟩ := he
  refine ⟨some ⟨G0 i, 0, none⟩, (E i).n0, some ⟨G1 i, 0, none⟩, (E i).n1, ?_, h0, h1, h2⟩
  rw [Nat.zero_add]
  exact h.cells hi

/-- The version behind the first k edits; whether they all fit; how many of the first k fit. -/
def repS (c : VersionC) (E : Nat → EditC) : Nat → VersionC
  | 0 => c
  | k + 1 => apC (repS c E k) (E k)
def repK (c : VersionC) (E : Nat → EditC) : Nat → Bool
  | 0 => true
  | k + 1 => repK c E k && apB (repS c E k) (E k)
def repN (c : VersionC) (E : Nat → EditC) : Nat → Nat
  | 0 => 0
  | k + 1 => if repK c E (k + 1) then k + 1 else repN c E k
theorem repN_all {c : VersionC} {E : Nat → EditC} : ∀ {k : Nat}, repK c E k = true → repN c E k = k
  | 0, _ => rfl
  | k + 1, h => by rw [repN, if_pos h]
theorem repK_stop {c : VersionC} {E : Nat → EditC} {k : Nat} (h : apB (repS c E k) (E k) = false) : ∀ {n : Nat}, k < n → repK c E n = false
  | 0, hk => by omega
  | n + 1, hk => by
    rw [repK]
    rcases Nat.lt_or_eq_of_le (Nat.lt_succ_iff.1 hk) with h1 | rfl
    · rw [repK_stop h h1]; rfl
    · rw [h]; simp
theorem repN_stop {c : VersionC} {E : Nat → EditC} {k : Nat} (hk : repK c E k = true) (h : apB (repS c E k) (E k) = false) : ∀ {n : Nat}, k < n → repN c E n = k
  | 0, hn => by omega
  | n + 1, hn => by
    rw [repN, if_neg (by rw [repK_stop h hn]; simp)]
    rcases Nat.lt_or_eq_of_le (Nat.lt_succ_iff.1 hn) with h1 | rfl
    · exact repN_stop hk h h1
    · exact repN_all hk
def cpV (c : VersionC) : VersionC := vc (metasL c.r0 c.n0) c.x1 c.x2 c.x3
def repI (c : VersionC) (n : Nat) (E : Nat → EditC) : Int := if versB c then (repN (cpV c) E n : Int) else -1
def repC (c : VersionC) (n : Nat) (E : Nat → EditC) : VersionC := if versB c then repS (cpV c) E (repN (cpV c) E n) else zeroV
theorem cpV_fit {c : VersionC} (h : c.Fit) : (cpV c).Fit := by
  show (metasL c.r0 c.n0).length ≤ 1048576
  rw [metasL_len]; exact h
theorem repS_fit {c : VersionC} (h : c.Fit) (E : Nat → EditC) : ∀ k, (repS c E k).Fit
  | 0 => h
  | _ + 1 => apC_fit _ _
theorem repC_fit {c : VersionC} (h : c.Fit) (n : Nat) (E : Nat → EditC) : (repC c n E).Fit := by
  unfold repC
  split
  · exact repS_fit (cpV_fit h) E _
  · show (0 : Nat) ≤ 1048576; omega
theorem rep_bad {c : VersionC} (h : versB c = false) (n : Nat) (E : Nat → EditC) : repI c n E = -1 ∧ repC c n E = zeroV := by
  unfold repI repC; rw [h]; exact ⟨rfl, rfl⟩
theorem rep_stop {c : VersionC} {E : Nat → EditC} {k n : Nat} (h : versB c = true) (hk : repK (cpV c) E k = true) (hs : apB (repS (cpV c) E k) (E k) = false) (hn : k < n) : repI c n E = k ∧ repC c n E = repS (cpV c) E k := by
  unfold repI repC; rw [h, repN_stop hk hs hn]; exact ⟨rfl, rfl⟩
theorem rep_end {c : VersionC} {E : Nat → EditC} {n : Nat} (h : versB c = true) (hk : repK (cpV c) E n = true) : repI c n E = n ∧ repC c n E = repS (cpV c) E n := by
  unfold repI repC; rw [h, repN_all hk]; exact ⟨rfl, rfl⟩

theorem versionIs_ownR {w : World} {B : Nat} {a : Option Addr} {c : Nat} {l : List Meta1} {X : VersionC} (h : OwnMeta w B (.slice a l.length c) l) (hX : X = vc l X.x1 X.x2 X.x3) : VersionIs w (.agg #[.slice a l.length c, .int .i64 X.x1, .int .i64 X.x2, .int .i64 X.x3]) X := by
  obtain ⟨a0, p0, hva, hM⟩ := h.arg
  simp only [Value.slice.injEq, true_and] at hva
  obtain ⟨rfl, rfl⟩ := hva
  refine (congrArg (VersionIs w _) hX).mpr ⟨a, c, rfl, hM⟩

/-- Behind k edits that all fit. -/
structure RepSt (W : World) (F : Nat) (c : VersionC) (E : Nat → EditC) (k : Nat) (x : World) : Prop where
  low : Below W.heap.size W x
  st : ∃ va l p, repS c E k = vc l (repS c E k).x1 (repS c E k).x2 (repS c E k).x3 ∧ OwnMeta x W.heap.size (.slice va l.length p) l ∧ BoxIs x F #[.slice va l.length p, .int .i64 (repS c E k).x1, .int .i64 (repS c E k).x2, .int .i64 (repS c E k).x3] 32
  ok : repK c E k = true
  hF : W.heap.size ≤ F

set_option linter.unusedVariables false in
set_option linter.unusedSimpArgs false in
set_option maxHeartbeats 2000000 in
theorem spec_l12Copy (v : Value) (c : VersionC) (w : World) (hn : c.n0 ≤ 1000) (hv : VersionIs w v c) :
    Calls Try.prog 43 #[v] w fun e w' => (∃ u, e = .returned u ∧ VersionOwnM w' w.heap.size u (vc (metasL c.r0 c.n0) c.x1 c.x2 c.x3)) ∧ Below w.heap.size w w' := by
  obtain ⟨a0, p0, rfl, hS⟩ := hv
  have hB0 : Below w.heap.size w (((w.alloc (.cells #[.slice a0 c.n0 p0, .int .i64 c.x1, .int .i64 c.x2, .int .i64 c.x3] 32)).alloc (.cells #[.slice none 0 0, .int .i64 0, .int .i64 0, .int .i64 0] 32)).alloc (.cells #[] 59)) := (((Below.refl _ _).alloc (Nat.le_refl _) _).alloc (by simp) _).alloc (by simp <;> omega) _
  have hV := ((BoxIs.new w #[.slice a0 c.n0 p0, .int .i64 c.x1, .int .i64 c.x2, .int .i64 c.x3] 32 rfl).next (below_one _ (.cells #[.slice none 0 0, .int .i64 0, .int .i64 0, .int .i64 0] 32))).next (below_one _ (.cells #[] 59))
  have hX := (BoxIs.new (w.alloc (.cells #[.slice a0 c.n0 p0, .int .i64 c.x1, .int .i64 c.x2, .int .i64 c.x3] 32)) #[.slice none 0 0, .int .i64 0, .int .i64 0, .int .i64 0] 32 (g := w.heap.size + 1) (by simp)).next (below_one _ (.cells #[] 59))
  have hO := OwnMeta.lit ((w.alloc (.cells #[.slice a0 c.n0 p0, .int .i64 c.x1, .int .i64 c.x2, .int .i64 c.x3] 32)).alloc (.cells #[.slice none 0 0, .int .i64 0, .int .i64 0, .int .i64 0] 32)) ((w.alloc (.cells #[.slice a0 c.n0 p0, .int .i64 c.x1, .int .i64 c.x2, .int .i64 c.x3] 32)).alloc (.cells #[.slice none 0 0, .int .i64 0, .int .i64 0, .int .i64 0] 32)).heap.size (Nat.le_refl _)
  have hSz : ((w.alloc (.cells #[.slice a0 c.n0 p0, .int .i64 c.x1, .int .i64 c.x2, .int .i64 c.x3] 32)).alloc (.cells #[.slice none 0 0, .int .i64 0, .int .i64 0, .int .i64 0] 32)).heap.size = w.heap.size + 1 + 1 := by simp
  rw [hSz] at hO
  have HS0 := ((hS.below hB0).mono hB0.size).hid
  clear hS hSz
  go_enter Try.func43, Try.ntmps43
  have v0 := hV.cell 0
  simp only [List.getElem?_toArray, List.getElem?_cons_succ, List.getElem?_cons_zero] at v0
  have hlt : w.heap.size + 1 + 1 ≤ (((w.alloc (.cells #[.slice a0 c.n0 p0, .int .i64 c.x1, .int .i64 c.x2, .int .i64 c.x3] 32)).alloc (.cells #[.slice none 0 0, .int .i64 0, .int .i64 0, .int .i64 0] 32)).alloc (.cells #[] 59)).heap.size := by simp
  go_wp2_with (first
    | (at_builtin; refine wpList_append_metaAt rfl _ _ 30 rfl Try.underlying30 (w.heap.size + 1 + 1) _ [] (by rfl) hO a0 c.n0 p0 c.r0 (by rfl) HS0.out hlt (by simp; omega) ?_))
  intro vv w1 hO1 hB1
  obtain ⟨ua, up, rfl⟩ := hO1.shape
  rw [metasL_len] at hO1 ⊢
  have V1 := hV.below hB1 (by omega)
  have X1 := hX.below hB1 (by omega)
  have V2 := V1.set 0 (.slice ua c.n0 up)
  have X2 := X1.set_other (p := ⟨w.heap.size, 0, none⟩) (by show w.heap.size ≠ w.heap.size + 1; omega) (.slice ua c.n0 up)
  have r0 := X1.cell 0
  have r1 := X1.cell 1
  have r2 := X1.cell 2
  have r3 := X1.cell 3
  have rf := X1.free
  have vf := V1.free
  have z0 := V1.cell 0
  have z1 := V1.cell 1
  have z2 := V1.cell 2
  have z3 := V1.cell 3
  simp only [List.getElem?_toArray, List.getElem?_cons_succ, List.getElem?_cons_zero] at r0 r1 r2 r3 z0 z1 z2 z3
  have HO1 : Hid (OwnMeta w1 (w.heap.size + 1 + 1) (.slice ua c.n0 up) (metasL c.r0 c.n0)) := hO1
  have b1 := X2.set 0 (.slice ua c.n0 up)
  have b2 := b1.set 1 (.int .i64 c.x1)
  have b3 := b2.set 2 (.int .i64 c.x2)
  have HOWE := hide (show OwnMeta _ _ _ _ from rg_set (o := 3) (rg_set (rg_set (rg_set (rg_set HO1.out V1 (by decide) (.slice ua c.n0 up)) X2 (by decide) (.slice ua c.n0 up)) b1 (by decide) (.int .i64 c.x1)) b2 (by decide) (.int .i64 c.x2)) b3 (by decide) (.int .i64 c.x3))
  have HLOW := hide (hB0.trans (hB1.mono (by omega)))
  have hle : w.heap.size ≤ w.heap.size + 1 := by omega
  clear V1 X1 V2 X2 b1 b2 b3 hO1 hB1 hV hX hO v0 hlt
  go_wp2
  refine bodyPost_ret (v := .agg #[.slice ua c.n0 up, .int .i64 c.x1, .int .i64 c.x2, .int .i64 c.x3]) (by simp [results, Try.results43, go_sem, r0, r1, r2, r3]) rfl ⟨⟨_, rfl, _, metasL c.r0 c.n0, rfl, HOWE.out.base (by omega), rfl⟩, ?_⟩
  exact ((((HLOW.out.setCell (p := ⟨w.heap.size, 0, none⟩) (Nat.le_refl _) _).setCell hle _).setCell hle _).setCell hle _).setCell hle _
set_option linter.unusedVariables false in
set_option linter.unusedSimpArgs false in
set_option maxHeartbeats 8000000 in
theorem impl_Replay (v : Value) (c : VersionC) (a : Option Addr) (n cap : Nat) (E : Nat → EditC) (w : World) (hf : c.Fit) (hn : n ≤ 1048576) (hE : ∀ i, i < n → (E i).Fit) (hv : VersionIs w v c) (he : EditsSrc w a n E) :
    Calls Try.prog 21 #[v, .slice a n cap] w fun x w' => (∃ u, x = .returned (.tuple #[u, .int .i64 (repI c n E)]) ∧ VersionOwnM w' w.heap.size u (repC c n E)) ∧ Below w.heap.size w w' := by
  obtain ⟨a0, p0, rfl, hS⟩ := hv
  have hB0 : Below w.heap.size w ((w.alloc (.cells #[.slice a0 c.n0 p0, .int .i64 c.x1, .int .i64 c.x2, .int .i64 c.x3] 32)).alloc (.cells #[.slice none 0 0, .int .i64 0, .int .i64 0, .int .i64 0] 32)) := ((Below.refl _ _).alloc (Nat.le_refl _) _).alloc (by simp) _
  have hV := (BoxIs.new w #[.slice a0 c.n0 p0, .int .i64 c.x1, .int .i64 c.x2, .int .i64 c.x3] 32 rfl).next (below_one _ (.cells #[.slice none 0 0, .int .i64 0, .int .i64 0, .int .i64 0] 32))
  have hX := BoxIs.new (w.alloc (.cells #[.slice a0 c.n0 p0, .int .i64 c.x1, .int .i64 c.x2, .int .i64 c.x3] 32)) #[.slice none 0 0, .int .i64 0, .int .i64 0, .int .i64 0] 32 (g := w.heap.size + 1) (by simp)
  have HS := ((hS.below hB0).mono hB0.size).hid
  have HE := (he.next hB0).hid
  have HL := hide hE
  clear hS he hE
  go_enter Try.func21, Try.ntmps21
  go_wp2_with fail
  generalize (w.alloc (.cells #[.slice a0 c.n0 p0, .int .i64 c.x1, .int .i64 c.x2, .int .i64 c.x3] 32)).alloc (.cells #[.slice none 0 0, .int .i64 0, .int .i64 0, .int .i64 0] 32) = W at hB0 hV hX HS HE ⊢
  have HB0 := hide hB0
  have HV := hV.hid
  have HX := hX.hid
  have hXl := hX.lt
  clear hB0
  have v0 := hV.cell 0
  have v1 := hV.cell 1
  have v2 := hV.cell 2
  have v3 := hV.cell 3
  simp only [List.getElem?_toArray, List.getElem?_cons_succ, List.getElem?_cons_zero] at v0 v1 v2 v3
  clear hV hX
  go_wp2_with fail
  refine (impl_VersionOk (.agg #[.slice a0 c.n0 p0, .int .i64 c.x1, .int .i64 c.x2, .int .i64 c.x3]) c W hf ⟨a0, p0, rfl, HS.out⟩).mono ?_
  rintro e w2 ⟨rfl, hb2⟩
  have HC := hide hb2
  clear hb2 v0 v1 v2 v3
  cases hok : versB c with
  | false =>
    obtain ⟨hi, hc⟩ := rep_bad hok n E
    have hR := HX.out.next HC.out
    have r0 := hR.cell 0
    have r1 := hR.cell 1
    have r2 := hR.cell 2
    have r3 := hR.cell 3
    have rf := hR.free
    simp only [List.getElem?_toArray, List.getElem?_cons_succ, List.getElem?_cons_zero] at r0 r1 r2 r3
    have HLOW := hide (HB0.out.trans (HC.out.mono HB0.out.size))
    have hle : w.heap.size ≤ w.heap.size + 1 := by omega
    have HI := hide hi
    have HCC := hide hc
    clear hR hi hc
    go_wp2
    refine bodyPost_ret (v := .tuple #[.agg #[.slice none 0 0, .int .i64 0, .int .i64 0, .int .i64 0], .int .i64 (-1)]) (by simp [results, Try.results21, go_sem, r0, r1, r2, r3]) rfl ⟨⟨_, by rw [HI.out], by rw [HCC.out]; exact zeroV_ownM _ _⟩, ?_⟩
    exact (((HLOW.out.setCell hle _).setCell hle _).setCell hle _).setCell hle _
  | true =>
    have hn30 := (versB_out hok).1.1
    have hV2 := HV.out.next HC.out
    have v0 := hV2.cell 0
    have v1 := hV2.cell 1
    have v2 := hV2.cell 2
    have v3 := hV2.cell 3
    simp only [List.getElem?_toArray, List.getElem?_cons_succ, List.getElem?_cons_zero] at v0 v1 v2 v3
    clear hV2
    go_wp2_with fail
    refine (impl_copyVersion (.agg #[.slice a0 c.n0 p0, .int .i64 c.x1, .int .i64 c.x2, .int .i64 c.x3]) c w2 (by omega) (versB_sizes hok).2 ⟨a0, p0, rfl, (HS.out.next HC.out)⟩).mono ?_
    rintro e w3 ⟨⟨u, rfl, uv, ul, rfl, huo, huc⟩, hb3⟩
    obtain ⟨ua, up, rfl⟩ := huo.shape
    have hcp : cpV c = vc ul (cpV c).x1 (cpV c).x2 (cpV c).x3 := huc
    have hbx := below_one w3 (.cells #[.slice ua ul.length up, .int .i64 (cpV c).x1, .int .i64 (cpV c).x2, .int .i64 (cpV c).x3] 32)
    have HR0 : Hid (RepSt W w3.heap.size (cpV c) E 0 (w3.alloc (.cells #[.slice ua ul.length up, .int .i64 (cpV c).x1, .int .i64 (cpV c).x2, .int .i64 (cpV c).x3] 32))) :=
      ⟨(HC.out.trans (hb3.mono HC.out.size)).trans (hbx.mono (Nat.le_trans HC.out.size hb3.size)), ⟨ua, ul, up, hcp, (huo.base HC.out.size).next hbx, BoxIs.new _ _ _ rfl⟩, rfl, Nat.le_trans HC.out.size hb3.size⟩
    have x1 : (vc (metasL c.r0 c.n0) c.x1 c.x2 c.x3).x1 = (cpV c).x1 := rfl
    clear hb3 huo huc hcp hbx v0 v1 v2 v3
    have y1 : (cpV c).x1 = c.x1 := rfl
    have y2 : (cpV c).x2 = c.x2 := rfl
    have y3 : (cpV c).x3 = c.x3 := rfl
    rw [y1, y2, y3] at HR0
    clear x1 y1 y2 y3
    try simp only [vc]
    go_wp2_with fail
    generalize w3.alloc (.cells #[.slice ua ul.length up, .int .i64 c.x1, .int .i64 c.x2, .int .i64 c.x3] 32) = W4 at HR0 ⊢
    generalize w3.heap.size = F at HR0 ⊢
    go_loopw [19] (fun i wr => ∃ k : Nat, i = .int .i64 k ∧ k ≤ n ∧ Hid (RepSt W F (cpV c) E k wr)) (fun i _ => n - (intOf i).toNat)
    case atStart => exact ⟨0, rfl, by omega, HR0⟩
    case round =>
      obtain ⟨k, rfl, hk, HR⟩ := hrel
      clear HR0
      obtain ⟨va, l, p, hXe, hOW, hBX⟩ := HR.out.st
      have hfx := repS_fit (cpV_fit hf) E k
      have hlow := HR.out.low
      have hrk := HR.out.ok
      have hFl := HR.out.hF
      generalize hX : repS (cpV c) E k = X at hXe hOW hBX hfx
      have HXX := hide hX
      have HXE := hide hXe
      have HOW := hOW.hid
      have HBX := hBX.hid
      have HLW := hide hlow
      have HRK := hide hrk
      have hBl := hBX.lt
      clear hX hXe hOW hlow hrk HR
      by_cases hlt : k < n
      · have hki : (k : Int) < (n : Int) := by omega
        obtain ⟨b, off, b0, q0, b1, q1, rfl, hb, ⟨c0, c1, c2, c3, c4⟩, hES⟩ := (HE.out.next HLW.out).at hlt
        have HES := hide hES
        have hAp := impl_Apply (.agg #[.slice va l.length p, .int .i64 X.x1, .int .i64 X.x2, .int .i64 X.x3]) (.agg #[.slice b0 (E k).n0 q0, .slice b1 (E k).n1 q1, .int .i64 (E k).x2, .int .i64 (E k).x3, .int .i64 (E k).x4]) X (E k)
        clear hES
        have hbe := below_one wr (.cells #[.slice b0 (E k).n0 q0, .slice b1 (E k).n1 q1, .int .i64 (E k).x2, .int .i64 (E k).x3, .int .i64 (E k).x4] 37)
        have hNE := BoxIs.new wr #[.slice b0 (E k).n0 q0, .slice b1 (E k).n1 q1, .int .i64 (E k).x2, .int .i64 (E k).x3, .int .i64 (E k).x4] 37 rfl
        have hBX2 := hBX.next hbe
        have e0 := hNE.cell 0
        have e1 := hNE.cell 1
        have e2 := hNE.cell 2
        have e3 := hNE.cell 3
        have e4 := hNE.cell 4
        have x0 := hBX2.cell 0
        have x1 := hBX2.cell 1
        have x2 := hBX2.cell 2
        have x3 := hBX2.cell 3
        simp only [List.getElem?_toArray, List.getElem?_cons_succ, List.getElem?_cons_zero] at e0 e1 e2 e3 e4 x0 x1 x2 x3
        have HBE := hide hbe
        clear hbe hNE hBX2 hBX
        go_wp2_with fail
        generalize wr.alloc (.cells #[.slice b0 (E k).n0 q0, .slice b1 (E k).n1 q1, .int .i64 (E k).x2, .int .i64 (E k).x3, .int .i64 (E k).x4] 37) = wa at HBE e0 e1 e2 e3 e4 x0 x1 x2 x3 ⊢
        refine (hAp wa hfx (HL.out k hlt) (versionIs_ownR (HOW.out.next HBE.out) HXE.out) (HES.out.next HBE.out)).mono ?_
        rintro e w5 ⟨⟨u, rfl, uv, ul2, rfl, huo, huc⟩, hb5⟩
        obtain ⟨ua2, up2, rfl⟩ := huo.shape
        have HLW5 := hide ((HLW.out.trans (HBE.out.mono HLW.out.size)).trans (hb5.mono (Nat.le_trans HLW.out.size HBE.out.size)))
        have hsz5 := Nat.le_trans HBE.out.size hb5.size
        have HBX5 := ((HBX.out.next HBE.out).next hb5).hid
        have HOW5 := ((HOW.out.next HBE.out).next hb5).hid
        have hbase := huo.base (Nat.le_trans HLW.out.size HBE.out.size)
        generalize hY : apC X (E k) = Y at huo huc hbase
        have hY2 : repS (cpV c) E (k + 1) = Y := by rw [repS, HXX.out, hY]
        have HYY := hide hY2
        have hK2 : ∀ ab, apB X (E k) = ab → repK (cpV c) E (k + 1) = ab := fun ab h => by rw [repK, HRK.out, HXX.out, h]; rfl
        have HK2 := hide hK2
        have HOU := hide hbase
        have HUC := hide huc
        clear hY hY2 huo hb5 hAp hbase huc e0 e1 e2 e3 e4 x0 x1 x2 x3 c0 c1 c2 c3 c4 HBE HOW HBX hK2
        obtain ⟨ab, hab⟩ : ∃ ab, apB X (E k) = ab := ⟨_, rfl⟩
        rw [hab]
        have HAB := hide hab
        have hbn := below_one w5 (.cells #[.slice ua2 ul2.length up2, .int .i64 Y.x1, .int .i64 Y.x2, .int .i64 Y.x3] 32)
        have HN := (BoxIs.new w5 #[.slice ua2 ul2.length up2, .int .i64 Y.x1, .int .i64 Y.x2, .int .i64 Y.x3] 32 rfl).hid
        have HLW6 := hide (HLW5.out.trans (hbn.mono HLW5.out.size))
        have HBX6 := (HBX5.out.next hbn).hid
        have HOW6 := (HOW5.out.next hbn).hid
        have HOU6 := (HOU.out.next hbn).hid
        clear hab hbn HLW5 HBX5 HOW5 HOU
        go_upto_region 8 with fail
        generalize w5.alloc (.cells #[.slice ua2 ul2.length up2, .int .i64 Y.x1, .int .i64 Y.x2, .int .i64 Y.x3] 32) = w6 at HN HLW6 HBX6 HOW6 HOU6 ⊢
        cases ab with
        | false =>
          obtain ⟨hi, hc⟩ := rep_stop (n := n) hok HRK.out (by rw [HXX.out]; exact HAB.out) hlt
          have z0 := HBX6.out.cell 0
          have z1 := HBX6.out.cell 1
          have z2 := HBX6.out.cell 2
          have z3 := HBX6.out.cell 3
          have hR := HX.out.next HLW6.out
          have r0 := hR.cell 0
          have r1 := hR.cell 1
          have r2 := hR.cell 2
          have r3 := hR.cell 3
          have rf := hR.free
          simp only [List.getElem?_toArray, List.getElem?_cons_succ, List.getElem?_cons_zero] at z0 z1 z2 z3 r0 r1 r2 r3
          have b1 := hR.set 0 (.slice va l.length p)
          have b2 := b1.set 1 (.int .i64 X.x1)
          have b3 := b2.set 2 (.int .i64 X.x2)
          have HOWE := hide (show OwnMeta _ _ _ _ from rg_set (o := 3) (rg_set (rg_set (rg_set HOW6.out hR (by decide) (.slice va l.length p)) b1 (by decide) (.int .i64 X.x1)) b2 (by decide) (.int .i64 X.x2)) b3 (by decide) (.int .i64 X.x3))
          have HLOW := hide (HB0.out.trans (HLW6.out.mono HB0.out.size))
          have hle : w.heap.size ≤ w.heap.size + 1 := by omega
          have HI := hide hi
          have HCC := hide hc
          clear hR hi hc b1 b2 b3 HN HOW6 HOU6 HBX6 HLW6
          go_wp2
          refine bodyPost_ret (v := .tuple #[.agg #[.slice va l.length p, .int .i64 X.x1, .int .i64 X.x2, .int .i64 X.x3], .int .i64 k]) (by simp [results, Try.results21, go_sem, r0, r1, r2, r3]) rfl ⟨⟨_, by rw [HI.out], by rw [HCC.out, HXX.out]; exact ⟨_, l, rfl, HOWE.out.base HB0.out.size, HXE.out⟩⟩, ?_⟩
          exact (((HLOW.out.setCell hle _).setCell hle _).setCell hle _).setCell hle _
        | true =>
          have n0 := HN.out.cell 0
          have n1 := HN.out.cell 1
          have n2 := HN.out.cell 2
          have n3 := HN.out.cell 3
          have z0 := HBX6.out.cell 0
          have z1 := HBX6.out.cell 1
          have z2 := HBX6.out.cell 2
          have z3 := HBX6.out.cell 3
          have zf := HBX6.out.free
          simp only [List.getElem?_toArray, List.getElem?_cons_succ, List.getElem?_cons_zero] at n0 n1 n2 n3 z0 z1 z2 z3
          have b1 := HBX6.out.set 0 (.slice ua2 ul2.length up2)
          have b2 := b1.set 1 (.int .i64 Y.x1)
          have b3 := b2.set 2 (.int .i64 Y.x2)
          have b4 := b3.set 3 (.int .i64 Y.x3)
          have hOE := (show OwnMeta _ _ _ _ from rg_set (o := 3) (rg_set (rg_set (rg_set HOU6.out HBX6.out (by decide) (.slice ua2 ul2.length up2)) b1 (by decide) (.int .i64 Y.x1)) b2 (by decide) (.int .i64 Y.x2)) b3 (by decide) (.int .i64 Y.x3))
          have hFle := hFl
          have HRN : Hid (RepSt W F (cpV c) E (k + 1) _) := hide ⟨(((HLW6.out.setCell (p := ⟨F, 0, none⟩) hFl _).setCell (p := ⟨F, 1, none⟩) hFl _).setCell (p := ⟨F, 2, none⟩) hFl _).setCell (p := ⟨F, 3, none⟩) hFl _, ⟨ua2, ul2, up2, by rw [HYY.out]; exact HUC.out, hOE, by rw [HYY.out]; exact b4⟩, HK2.out true HAB.out, hFl⟩
          clear b1 b2 b3 b4 hOE HN HOW6 HOU6 HBX6 HLW6 hFle
          go_wp2
          exact ⟨⟨k + 1, by go_num, by omega, HRN⟩, by simp [intOf]; omega⟩
      · obtain rfl : k = n := by omega
        obtain ⟨hi, hc⟩ := rep_end hok HRK.out
        have z0 := HBX.out.cell 0
        have z1 := HBX.out.cell 1
        have z2 := HBX.out.cell 2
        have z3 := HBX.out.cell 3
        have hR := HX.out.next HLW.out
        have r0 := hR.cell 0
        have r1 := hR.cell 1
        have r2 := hR.cell 2
        have r3 := hR.cell 3
        have rf := hR.free
        simp only [List.getElem?_toArray, List.getElem?_cons_succ, List.getElem?_cons_zero] at z0 z1 z2 z3 r0 r1 r2 r3
        have b1 := hR.set 0 (.slice va l.length p)
        have b2 := b1.set 1 (.int .i64 X.x1)
        have b3 := b2.set 2 (.int .i64 X.x2)
        have HOWE := hide (show OwnMeta _ _ _ _ from rg_set (o := 3) (rg_set (rg_set (rg_set HOW.out hR (by decide) (.slice va l.length p)) b1 (by decide) (.int .i64 X.x1)) b2 (by decide) (.int .i64 X.x2)) b3 (by decide) (.int .i64 X.x3))
        have HLOW := hide (HB0.out.trans (HLW.out.mono HB0.out.size))
        have hle : w.heap.size ≤ w.heap.size + 1 := by omega
        have HI := hide hi
        have HCC := hide hc
        clear hR hi hc b1 b2 b3 HOW HBX HLW
        go_wp2
        refine bodyPost_ret (v := .tuple #[.agg #[.slice va l.length p, .int .i64 X.x1, .int .i64 X.x2, .int .i64 X.x3], .int .i64 k]) (by simp [results, Try.results21, go_sem, r0, r1, r2, r3]) rfl ⟨⟨_, by rw [HI.out], by rw [HCC.out, HXX.out]; exact ⟨_, l, rfl, HOWE.out.base HB0.out.size, HXE.out⟩⟩, ?_⟩
        exact (((HLOW.out.setCell hle _).setCell hle _).setCell hle _).setCell hle _
set_option linter.unusedVariables false in
set_option linter.unusedSimpArgs false in
set_option maxHeartbeats 8000000 in
theorem spec_Replay (v : Value) (c : VersionC) (a : Option Addr) (n cap : Nat) (E : Nat → EditC) (w : World) (hf : c.Fit) (hn : n ≤ 1048576) (hE : ∀ i, i < n → (E i).Fit) (hv : VersionIs w v c) (he : EditsSrc w a n E) :
    Calls Try.prog 19 #[v, .slice a n cap] w fun x w' => (∃ u, x = .returned (.tuple #[u, .int .i64 (repI c n E)]) ∧ VersionOwnM w' w.heap.size u (repC c n E)) ∧ Below w.heap.size w w' := by
  obtain ⟨a0, p0, rfl, hS⟩ := hv
  have hB0 : Below w.heap.size w ((w.alloc (.cells #[.slice a0 c.n0 p0, .int .i64 c.x1, .int .i64 c.x2, .int .i64 c.x3] 32)).alloc (.cells #[.slice none 0 0, .int .i64 0, .int .i64 0, .int .i64 0] 32)) := ((Below.refl _ _).alloc (Nat.le_refl _) _).alloc (by simp) _
  have hV := (BoxIs.new w #[.slice a0 c.n0 p0, .int .i64 c.x1, .int .i64 c.x2, .int .i64 c.x3] 32 rfl).next (below_one _ (.cells #[.slice none 0 0, .int .i64 0, .int .i64 0, .int .i64 0] 32))
  have hX := BoxIs.new (w.alloc (.cells #[.slice a0 c.n0 p0, .int .i64 c.x1, .int .i64 c.x2, .int .i64 c.x3] 32)) #[.slice none 0 0, .int .i64 0, .int .i64 0, .int .i64 0] 32 (g := w.heap.size + 1) (by simp)
  have HS := ((hS.below hB0).mono hB0.size).hid
  have HE := (he.next hB0).hid
  have HL := hide hE
  clear hS he hE
  go_enter Try.func19, Try.ntmps19
  go_wp2_with fail
  generalize (w.alloc (.cells #[.slice a0 c.n0 p0, .int .i64 c.x1, .int .i64 c.x2, .int .i64 c.x3] 32)).alloc (.cells #[.slice none 0 0, .int .i64 0, .int .i64 0, .int .i64 0] 32) = W at hB0 hV hX HS HE ⊢
  have HB0 := hide hB0
  have HV := hV.hid
  have HX := hX.hid
  have hXl := hX.lt
  clear hB0
  have v0 := hV.cell 0
  have v1 := hV.cell 1
  have v2 := hV.cell 2
  have v3 := hV.cell 3
  simp only [List.getElem?_toArray, List.getElem?_cons_succ, List.getElem?_cons_zero] at v0 v1 v2 v3
  clear hV hX
  go_wp2_with fail
  refine (spec_VersionOk (.agg #[.slice a0 c.n0 p0, .int .i64 c.x1, .int .i64 c.x2, .int .i64 c.x3]) c W hf ⟨a0, p0, rfl, HS.out⟩).mono ?_
  rintro e w2 ⟨rfl, hb2⟩
  have HC := hide hb2
  clear hb2 v0 v1 v2 v3
  cases hok : versB c with
  | false =>
    obtain ⟨hi, hc⟩ := rep_bad hok n E
    have hR := HX.out.next HC.out
    have r0 := hR.cell 0
    have r1 := hR.cell 1
    have r2 := hR.cell 2
    have r3 := hR.cell 3
    have rf := hR.free
    simp only [List.getElem?_toArray, List.getElem?_cons_succ, List.getElem?_cons_zero] at r0 r1 r2 r3
    have HLOW := hide (HB0.out.trans (HC.out.mono HB0.out.size))
    have hle : w.heap.size ≤ w.heap.size + 1 := by omega
    have HI := hide hi
    have HCC := hide hc
    clear hR hi hc
    go_wp2
    refine bodyPost_ret (v := .tuple #[.agg #[.slice none 0 0, .int .i64 0, .int .i64 0, .int .i64 0], .int .i64 (-1)]) (by simp [results, Try.results19, go_sem, r0, r1, r2, r3]) rfl ⟨⟨_, by rw [HI.out], by rw [HCC.out]; exact zeroV_ownM _ _⟩, ?_⟩
    exact (((HLOW.out.setCell hle _).setCell hle _).setCell hle _).setCell hle _
  | true =>
    have hn30 := (versB_out hok).1.1
    have hV2 := HV.out.next HC.out
    have v0 := hV2.cell 0
    have v1 := hV2.cell 1
    have v2 := hV2.cell 2
    have v3 := hV2.cell 3
    simp only [List.getElem?_toArray, List.getElem?_cons_succ, List.getElem?_cons_zero] at v0 v1 v2 v3
    clear hV2
    go_wp2_with fail
    refine (spec_l12Copy (.agg #[.slice a0 c.n0 p0, .int .i64 c.x1, .int .i64 c.x2, .int .i64 c.x3]) c w2 (by omega) ⟨a0, p0, rfl, (HS.out.next HC.out)⟩).mono ?_
    rintro e w3 ⟨⟨u, rfl, uv, ul, rfl, huo, huc⟩, hb3⟩
    obtain ⟨ua, up, rfl⟩ := huo.shape
    have hcp : cpV c = vc ul (cpV c).x1 (cpV c).x2 (cpV c).x3 := huc
    have hbx := below_one w3 (.cells #[.slice ua ul.length up, .int .i64 (cpV c).x1, .int .i64 (cpV c).x2, .int .i64 (cpV c).x3] 32)
    have HR0 : Hid (RepSt W w3.heap.size (cpV c) E 0 (w3.alloc (.cells #[.slice ua ul.length up, .int .i64 (cpV c).x1, .int .i64 (cpV c).x2, .int .i64 (cpV c).x3] 32))) :=
      ⟨(HC.out.trans (hb3.mono HC.out.size)).trans (hbx.mono (Nat.le_trans HC.out.size hb3.size)), ⟨ua, ul, up, hcp, (huo.base HC.out.size).next hbx, BoxIs.new _ _ _ rfl⟩, rfl, Nat.le_trans HC.out.size hb3.size⟩
    have x1 : (vc (metasL c.r0 c.n0) c.x1 c.x2 c.x3).x1 = (cpV c).x1 := rfl
    clear hb3 huo huc hcp hbx v0 v1 v2 v3
    have y1 : (cpV c).x1 = c.x1 := rfl
    have y2 : (cpV c).x2 = c.x2 := rfl
    have y3 : (cpV c).x3 = c.x3 := rfl
    rw [y1, y2, y3] at HR0
    clear x1 y1 y2 y3
    try simp only [vc]
    go_wp2_with fail
    generalize w3.alloc (.cells #[.slice ua ul.length up, .int .i64 c.x1, .int .i64 c.x2, .int .i64 c.x3] 32) = W4 at HR0 ⊢
    generalize w3.heap.size = F at HR0 ⊢
    go_loopw [7] (fun i wr => ∃ k : Nat, i = .int .i64 k ∧ k ≤ n ∧ Hid (RepSt W F (cpV c) E k wr)) (fun i _ => n - (intOf i).toNat)
    case atStart => exact ⟨0, rfl, by omega, HR0⟩
    case round =>
      obtain ⟨k, rfl, hk, HR⟩ := hrel
      clear HR0
      obtain ⟨va, l, p, hXe, hOW, hBX⟩ := HR.out.st
      have hfx := repS_fit (cpV_fit hf) E k
      have hlow := HR.out.low
      have hrk := HR.out.ok
      have hFl := HR.out.hF
      generalize hX : repS (cpV c) E k = X at hXe hOW hBX hfx
      have HXX := hide hX
      have HXE := hide hXe
      have HOW := hOW.hid
      have HBX := hBX.hid
      have HLW := hide hlow
      have HRK := hide hrk
      have hBl := hBX.lt
      clear hX hXe hOW hlow hrk HR
      by_cases hlt : k < n
      · have hki : (k : Int) < (n : Int) := by omega
        obtain ⟨b, off, b0, q0, b1, q1, rfl, hb, ⟨c0, c1, c2, c3, c4⟩, hES⟩ := (HE.out.next HLW.out).at hlt
        have HES := hide hES
        have hAp := spec_Apply (.agg #[.slice va l.length p, .int .i64 X.x1, .int .i64 X.x2, .int .i64 X.x3]) (.agg #[.slice b0 (E k).n0 q0, .slice b1 (E k).n1 q1, .int .i64 (E k).x2, .int .i64 (E k).x3, .int .i64 (E k).x4]) X (E k)
        clear hES
        go_upto_region 7 with fail
        go_cut [8, 9] (fun tp tq wx => ∃ (N : Nat) (ua : Option Addr) (ul : List Meta1) (up : Nat), tp = .pointer (some ⟨N, 0, none⟩) ∧ tq = .bool (apB X (E k)) ∧ apC X (E k) = vc ul (apC X (E k)).x1 (apC X (E k)).x2 (apC X (E k)).x3 ∧ Hid (Below wr.heap.size wr wx) ∧ Hid (BoxIs wx N #[.slice ua ul.length up, .int .i64 (apC X (E k)).x1, .int .i64 (apC X (E k)).x2, .int .i64 (apC X (E k)).x3] 32) ∧ Hid (OwnMeta wx W.heap.size (.slice ua ul.length up) ul))
        case first =>
          have LO : Below wr.heap.size wr wr := Below.refl _ _
          have hWl := HLW.out.size
          refine wp_region_noPanic ?_
          have hb0 : Below wr.heap.size wr wr.drew := (Below.refl _ _).drew
          have LO_0 := LO.trans (hb0.mono LO.size)
          have hBX_0 := hBX.next hb0
          refine wp_region_held_drew (S := fun x => BoxIs x F #[.slice va l.length p, .int .i64 X.x1, .int .i64 X.x2, .int .i64 X.x3] 32 ∧ Below wr.heap.size wr x) (by kernel_rfl) ⟨hBX_0, LO_0⟩ (fun hSz => ?_)
          clear hSz LO hBX
          generalize wr.drew = wq0 at hb0 LO_0 hBX_0 ⊢
          clear hb0
          refine wpAnyH_take (i := 0) (v := .agg #[.slice va l.length p, .int .i64 X.x1, .int .i64 X.x2, .int .i64 X.x3]) nat0 (by kernel_rfl) (by kernel_rfl) (by kernel_rfl) (fun _ _ _ h => False.elim h) (Or.inl ⟨by rfl, ?_⟩) ⟨hBX_0, LO_0⟩ ?_
          · intro wx hSw
            have y0 := hSw.1.cell 0
            have y1 := hSw.1.cell 1
            have y2 := hSw.1.cell 2
            have y3 := hSw.1.cell 3
            simp only [List.getElem?_toArray, List.getElem?_cons_succ, List.getElem?_cons_zero] at y0 y1 y2 y3
            go_simp
          simp only [Act.put, List.setIfInBounds_toArray, List.set_cons_zero, List.set_cons_succ]
          refine wpAnyH_take (i := 1) (v := .slice (some ⟨b, off, none⟩) n cap) nat1 (by kernel_rfl) (by kernel_rfl) (by kernel_rfl) (fun _ _ _ h => False.elim h) (Or.inl ⟨by rfl, ?_⟩) ⟨hBX_0, LO_0⟩ ?_
          · intro wx hSw
            go_simp
          simp only [Act.put, List.setIfInBounds_toArray, List.set_cons_zero, List.set_cons_succ]
          refine wpAnyH_take (i := 2) (v := .int .i64 ((k : Int))) nat2 (by kernel_rfl) (by kernel_rfl) (by kernel_rfl) (fun _ _ _ h => False.elim h) (Or.inl ⟨by rfl, ?_⟩) ⟨hBX_0, LO_0⟩ ?_
          · intro wx hSw
            go_simp
          simp only [Act.put, List.setIfInBounds_toArray, List.set_cons_zero, List.set_cons_succ]
          refine wpAnyH_take (i := 3) (v := .pointer (some ⟨b, off + k * 5, none⟩)) nat3 (by kernel_rfl) (by kernel_rfl) (by kernel_rfl) (fun _ _ _ h => False.elim h) (Or.inl ⟨by rfl, ?_⟩) ⟨hBX_0, LO_0⟩ ?_
          · intro wx hSw
            go_simp
          simp only [Act.put, List.setIfInBounds_toArray, List.set_cons_zero, List.set_cons_succ]
          refine wpAnyH_take (i := 4) (v := .agg #[.slice b0 ((E k).n0) q0, .slice b1 ((E k).n1) q1, .int .i64 ((E k).x2), .int .i64 ((E k).x3), .int .i64 ((E k).x4)]) nat4 (by kernel_rfl) (by kernel_rfl) (by kernel_rfl) (fun _ _ _ h => False.elim h) (Or.inl ⟨by rfl, ?_⟩) ⟨hBX_0, LO_0⟩ ?_
          · intro wx hSw
            have y0 := (hSw.2.cell (p := ⟨b, _, none⟩) hb).trans c0
            have y1 := (hSw.2.cell (p := ⟨b, _, none⟩) hb).trans c1
            have y2 := (hSw.2.cell (p := ⟨b, _, none⟩) hb).trans c2
            have y3 := (hSw.2.cell (p := ⟨b, _, none⟩) hb).trans c3
            have y4 := (hSw.2.cell (p := ⟨b, _, none⟩) hb).trans c4
            go_simp
          simp only [Act.put, List.setIfInBounds_toArray, List.set_cons_zero, List.set_cons_succ]
          refine wpAnyH_ready (rs := [5, 9]) (by kernel_rfl) (by simp) ?_
          refine AllReadyH.cons nat5 (fun K hK => ?_) (AllReadyH.cons nat9 (fun K hK => ?_) AllReadyH.nil)
          · go_simp
            go_at_call 9
            refine (hAp wq0 hfx (HL.out k hlt) (versionIs_ownR (HOW.out.next LO_0) HXE.out) (HES.out.next LO_0).is).mono ?_
            rintro e wq1 ⟨⟨u1, rfl, uv1, ul1, rfl, huo1, huc1⟩, hb1⟩
            obtain ⟨ua1, up1, rfl⟩ := huo1.shape
            have hbs1 := huo1.base (Nat.le_trans hWl LO_0.size)
            have HUC1 := hide huc1
            clear huc1
            have LO_1 := LO_0.trans (hb1.mono LO_0.size)
            have hBX_1 := hBX_0.next hb1
            have OU_1 := hbs1
            refine hK.out _ _ ⟨hBX_1, LO_1⟩ (fun hSz => ?_)
            clear hK K hSz LO_0 hBX_0 hb1 huo1 hbs1
            refine wpAnyH_take (i := 6) (v := .tuple #[.agg #[.slice ua1 ul1.length up1, .int .i64 ((apC X (E k)).x1), .int .i64 ((apC X (E k)).x2), .int .i64 ((apC X (E k)).x3)], .bool (apB X (E k))]) nat6 (by kernel_rfl) (by kernel_rfl) (by kernel_rfl) (fun _ _ _ h => False.elim h) (Or.inl ⟨by rfl, ?_⟩) ⟨hBX_1, LO_1⟩ ?_
            · intro wx hSw
              go_simp
            simp only [Act.put, List.setIfInBounds_toArray, List.set_cons_zero, List.set_cons_succ]
            refine wpAnyH_take (i := 7) (v := .agg #[.slice ua1 ul1.length up1, .int .i64 ((apC X (E k)).x1), .int .i64 ((apC X (E k)).x2), .int .i64 ((apC X (E k)).x3)]) nat7 (by kernel_rfl) (by kernel_rfl) (by kernel_rfl) (fun _ _ _ h => False.elim h) (Or.inl ⟨by rfl, ?_⟩) ⟨hBX_1, LO_1⟩ ?_
            · intro wx hSw
              go_simp
            simp only [Act.put, List.setIfInBounds_toArray, List.set_cons_zero, List.set_cons_succ]
            refine wpAnyH_take (i := 8) (v := .bool (apB X (E k))) nat8 (by kernel_rfl) (by kernel_rfl) (by kernel_rfl) (fun _ _ _ h => False.elim h) (Or.inl ⟨by rfl, ?_⟩) ⟨hBX_1, LO_1⟩ ?_
            · intro wx hSw
              go_simp
            simp only [Act.put, List.setIfInBounds_toArray, List.set_cons_zero, List.set_cons_succ]
            refine wpAnyH_ready (rs := [9]) (by kernel_rfl) (by simp) ?_
            refine AllReadyH.cons nat9 (fun K hK => ?_) AllReadyH.nil
            go_simp
            have hlt2 : wr.heap.size ≤ wq1.heap.size := LO_1.size
            have hb2 := below_one wq1 (.cells #[.slice none 0 0, .int .i64 0, .int .i64 0, .int .i64 0] 32)
            have LO_2 := LO_1.trans (hb2.mono LO_1.size)
            have hBX_2 := hBX_1.next hb2
            have OU_2 := OU_1.next hb2
            have NB8_2 := BoxIs.new wq1 #[.slice none 0 0, .int .i64 0, .int .i64 0, .int .i64 0] 32 rfl
            refine hK.out _ _ ⟨hBX_2, LO_2⟩ (fun hSz => ?_)
            clear hK K hSz LO_1 OU_1 hBX_1
            obtain ⟨G2, hG2⟩ : ∃ G, G = wq1.heap.size := ⟨_, rfl⟩
            rw [← hG2] at NB8_2 ⊢
            generalize wq1.alloc (.cells #[.slice none 0 0, .int .i64 0, .int .i64 0, .int .i64 0] 32) = wq2 at hb2 LO_2 hBX_2 OU_2 NB8_2 ⊢
            rw [← hG2] at hlt2
            clear hG2 hb2
            refine wpAnyH_ready (rs := [10]) (by kernel_rfl) (by simp) ?_
            refine AllReadyH.cons nat10 (fun K hK => ?_) AllReadyH.nil
            have y0 := NB8_2.cell 0
            have y1 := NB8_2.cell 1
            have y2 := NB8_2.cell 2
            have y3 := NB8_2.cell 3
            simp only [List.getElem?_toArray, List.getElem?_cons_succ, List.getElem?_cons_zero] at y0 y1 y2 y3
            have yf := NB8_2.free
            go_simp
            clear yf y0 y1 y2 y3
            have LO_3s0 := LO_2.setCell (p := ⟨G2, 0, none⟩) hlt2 (.slice ua1 ul1.length up1)
            have hBX_3s0 := hBX_2.set_other (p := ⟨G2, 0, none⟩) (by show G2 ≠ F; omega) (.slice ua1 ul1.length up1)
            have OU_3s0 := (show OwnMeta _ _ _ _ from rg_set (o := 0) OU_2 NB8_2 (by decide) (.slice ua1 ul1.length up1))
            have NB8_3s0 := NB8_2.set 0 (.slice ua1 ul1.length up1)
            have LO_3s1 := LO_3s0.setCell (p := ⟨G2, 1, none⟩) hlt2 (.int .i64 ((apC X (E k)).x1))
            have hBX_3s1 := hBX_3s0.set_other (p := ⟨G2, 1, none⟩) (by show G2 ≠ F; omega) (.int .i64 ((apC X (E k)).x1))
            have OU_3s1 := (show OwnMeta _ _ _ _ from rg_set (o := 1) OU_3s0 NB8_3s0 (by decide) (.int .i64 ((apC X (E k)).x1)))
            have NB8_3s1 := NB8_3s0.set 1 (.int .i64 ((apC X (E k)).x1))
            have LO_3s2 := LO_3s1.setCell (p := ⟨G2, 2, none⟩) hlt2 (.int .i64 ((apC X (E k)).x2))
            have hBX_3s2 := hBX_3s1.set_other (p := ⟨G2, 2, none⟩) (by show G2 ≠ F; omega) (.int .i64 ((apC X (E k)).x2))
            have OU_3s2 := (show OwnMeta _ _ _ _ from rg_set (o := 2) OU_3s1 NB8_3s1 (by decide) (.int .i64 ((apC X (E k)).x2)))
            have NB8_3s2 := NB8_3s1.set 2 (.int .i64 ((apC X (E k)).x2))
            have LO_3s3 := LO_3s2.setCell (p := ⟨G2, 3, none⟩) hlt2 (.int .i64 ((apC X (E k)).x3))
            have hBX_3s3 := hBX_3s2.set_other (p := ⟨G2, 3, none⟩) (by show G2 ≠ F; omega) (.int .i64 ((apC X (E k)).x3))
            have OU_3s3 := (show OwnMeta _ _ _ _ from rg_set (o := 3) OU_3s2 NB8_3s2 (by decide) (.int .i64 ((apC X (E k)).x3)))
            have NB8_3s3 := NB8_3s2.set 3 (.int .i64 ((apC X (E k)).x3))
            have LO_3 := LO_3s3
            have hBX_3 := hBX_3s3
            have OU_3 := OU_3s3
            have NB8_3 : BoxIs ((((wq2.setCell ⟨G2, 0, none⟩ (.slice ua1 ul1.length up1)).setCell ⟨G2, 1, none⟩ (.int .i64 ((apC X (E k)).x1))).setCell ⟨G2, 2, none⟩ (.int .i64 ((apC X (E k)).x2))).setCell ⟨G2, 3, none⟩ (.int .i64 ((apC X (E k)).x3))) G2 #[.slice ua1 ul1.length up1, .int .i64 ((apC X (E k)).x1), .int .i64 ((apC X (E k)).x2), .int .i64 ((apC X (E k)).x3)] 32 := NB8_3s3
            refine hK.out _ _ ⟨hBX_3, LO_3⟩ (fun hSz => ?_)
            clear hK K hSz LO_2 NB8_2 OU_2 hBX_2 LO_3s0 LO_3s1 LO_3s2 LO_3s3 hBX_3s0 hBX_3s1 hBX_3s2 hBX_3s3 OU_3s0 OU_3s1 OU_3s2 OU_3s3 NB8_3s0 NB8_3s1 NB8_3s2 NB8_3s3
            generalize (((wq2.setCell ⟨G2, 0, none⟩ (.slice ua1 ul1.length up1)).setCell ⟨G2, 1, none⟩ (.int .i64 ((apC X (E k)).x1))).setCell ⟨G2, 2, none⟩ (.int .i64 ((apC X (E k)).x2))).setCell ⟨G2, 3, none⟩ (.int .i64 ((apC X (E k)).x3)) = wq3 at LO_3 hBX_3 OU_3 NB8_3 ⊢
            refine wpAnyH_take (i := 11) (v := .bool (apB X (E k))) nat11 (by kernel_rfl) (by kernel_rfl) (by kernel_rfl) (fun _ _ _ h => False.elim h) (Or.inl ⟨by rfl, ?_⟩) ⟨hBX_3, LO_3⟩ ?_
            · intro wx hSw
              go_simp
            simp only [Act.put, List.setIfInBounds_toArray, List.set_cons_zero, List.set_cons_succ]
            refine wpAnyH_done (by kernel_rfl) ?_ _
            refine NoPanic.normal ?_
            go_wp2_with fail
            go_meet
            exact ⟨G2, ua1, ul1, up1, rfl, rfl, HUC1.out, hide LO_3, hide NB8_3, hide OU_3⟩
          · go_simp
            have hlt4 : wr.heap.size ≤ wq0.heap.size := LO_0.size
            have hb4 := below_one wq0 (.cells #[.slice none 0 0, .int .i64 0, .int .i64 0, .int .i64 0] 32)
            have LO_4 := LO_0.trans (hb4.mono LO_0.size)
            have hBX_4 := hBX_0.next hb4
            have NB8_4 := BoxIs.new wq0 #[.slice none 0 0, .int .i64 0, .int .i64 0, .int .i64 0] 32 rfl
            refine hK.out _ _ ⟨hBX_4, LO_4⟩ (fun hSz => ?_)
            clear hK K hSz LO_0 hBX_0
            obtain ⟨G4, hG4⟩ : ∃ G, G = wq0.heap.size := ⟨_, rfl⟩
            rw [← hG4] at NB8_4 ⊢
            generalize wq0.alloc (.cells #[.slice none 0 0, .int .i64 0, .int .i64 0, .int .i64 0] 32) = wq4 at hb4 LO_4 hBX_4 NB8_4 ⊢
            rw [← hG4] at hlt4
            clear hG4 hb4
            refine wpAnyH_ready (rs := [5]) (by kernel_rfl) (by simp) ?_
            refine AllReadyH.cons nat5 (fun K hK => ?_) AllReadyH.nil
            go_simp
            go_at_call 9
            refine (hAp wq4 hfx (HL.out k hlt) (versionIs_ownR (HOW.out.next LO_4) HXE.out) (HES.out.next LO_4).is).mono ?_
            rintro e wq5 ⟨⟨u5, rfl, uv5, ul5, rfl, huo5, huc5⟩, hb5⟩
            obtain ⟨ua5, up5, rfl⟩ := huo5.shape
            have hbs5 := huo5.base (Nat.le_trans hWl LO_4.size)
            have HUC5 := hide huc5
            clear huc5
            have LO_5 := LO_4.trans (hb5.mono LO_4.size)
            have hBX_5 := hBX_4.next hb5
            have NB8_5 := NB8_4.next hb5
            have OU_5 := hbs5
            refine hK.out _ _ ⟨hBX_5, LO_5⟩ (fun hSz => ?_)
            clear hK K hSz LO_4 NB8_4 hBX_4 hb5 huo5 hbs5
            refine wpAnyH_take (i := 6) (v := .tuple #[.agg #[.slice ua5 ul5.length up5, .int .i64 ((apC X (E k)).x1), .int .i64 ((apC X (E k)).x2), .int .i64 ((apC X (E k)).x3)], .bool (apB X (E k))]) nat6 (by kernel_rfl) (by kernel_rfl) (by kernel_rfl) (fun _ _ _ h => False.elim h) (Or.inl ⟨by rfl, ?_⟩) ⟨hBX_5, LO_5⟩ ?_
            · intro wx hSw
              go_simp
            simp only [Act.put, List.setIfInBounds_toArray, List.set_cons_zero, List.set_cons_succ]
            refine wpAnyH_take (i := 7) (v := .agg #[.slice ua5 ul5.length up5, .int .i64 ((apC X (E k)).x1), .int .i64 ((apC X (E k)).x2), .int .i64 ((apC X (E k)).x3)]) nat7 (by kernel_rfl) (by kernel_rfl) (by kernel_rfl) (fun _ _ _ h => False.elim h) (Or.inl ⟨by rfl, ?_⟩) ⟨hBX_5, LO_5⟩ ?_
            · intro wx hSw
              go_simp
            simp only [Act.put, List.setIfInBounds_toArray, List.set_cons_zero, List.set_cons_succ]
            refine wpAnyH_take (i := 8) (v := .bool (apB X (E k))) nat8 (by kernel_rfl) (by kernel_rfl) (by kernel_rfl) (fun _ _ _ h => False.elim h) (Or.inl ⟨by rfl, ?_⟩) ⟨hBX_5, LO_5⟩ ?_
            · intro wx hSw
              go_simp
            simp only [Act.put, List.setIfInBounds_toArray, List.set_cons_zero, List.set_cons_succ]
            refine wpAnyH_ready (rs := [10]) (by kernel_rfl) (by simp) ?_
            refine AllReadyH.cons nat10 (fun K hK => ?_) AllReadyH.nil
            have y0 := NB8_5.cell 0
            have y1 := NB8_5.cell 1
            have y2 := NB8_5.cell 2
            have y3 := NB8_5.cell 3
            simp only [List.getElem?_toArray, List.getElem?_cons_succ, List.getElem?_cons_zero] at y0 y1 y2 y3
            have yf := NB8_5.free
            go_simp
            clear yf y0 y1 y2 y3
            have LO_6s0 := LO_5.setCell (p := ⟨G4, 0, none⟩) hlt4 (.slice ua5 ul5.length up5)
            have hBX_6s0 := hBX_5.set_other (p := ⟨G4, 0, none⟩) (by show G4 ≠ F; omega) (.slice ua5 ul5.length up5)
            have NB8_6s0 := NB8_5.set 0 (.slice ua5 ul5.length up5)
            have OU_6s0 := (show OwnMeta _ _ _ _ from rg_set (o := 0) OU_5 NB8_5 (by decide) (.slice ua5 ul5.length up5))
            have LO_6s1 := LO_6s0.setCell (p := ⟨G4, 1, none⟩) hlt4 (.int .i64 ((apC X (E k)).x1))
            have hBX_6s1 := hBX_6s0.set_other (p := ⟨G4, 1, none⟩) (by show G4 ≠ F; omega) (.int .i64 ((apC X (E k)).x1))
            have NB8_6s1 := NB8_6s0.set 1 (.int .i64 ((apC X (E k)).x1))
            have OU_6s1 := (show OwnMeta _ _ _ _ from rg_set (o := 1) OU_6s0 NB8_6s0 (by decide) (.int .i64 ((apC X (E k)).x1)))
            have LO_6s2 := LO_6s1.setCell (p := ⟨G4, 2, none⟩) hlt4 (.int .i64 ((apC X (E k)).x2))
            have hBX_6s2 := hBX_6s1.set_other (p := ⟨G4, 2, none⟩) (by show G4 ≠ F; omega) (.int .i64 ((apC X (E k)).x2))
            have NB8_6s2 := NB8_6s1.set 2 (.int .i64 ((apC X (E k)).x2))
            have OU_6s2 := (show OwnMeta _ _ _ _ from rg_set (o := 2) OU_6s1 NB8_6s1 (by decide) (.int .i64 ((apC X (E k)).x2)))
            have LO_6s3 := LO_6s2.setCell (p := ⟨G4, 3, none⟩) hlt4 (.int .i64 ((apC X (E k)).x3))
            have hBX_6s3 := hBX_6s2.set_other (p := ⟨G4, 3, none⟩) (by show G4 ≠ F; omega) (.int .i64 ((apC X (E k)).x3))
            have NB8_6s3 := NB8_6s2.set 3 (.int .i64 ((apC X (E k)).x3))
            have OU_6s3 := (show OwnMeta _ _ _ _ from rg_set (o := 3) OU_6s2 NB8_6s2 (by decide) (.int .i64 ((apC X (E k)).x3)))
            have LO_6 := LO_6s3
            have hBX_6 := hBX_6s3
            have NB8_6 : BoxIs ((((wq5.setCell ⟨G4, 0, none⟩ (.slice ua5 ul5.length up5)).setCell ⟨G4, 1, none⟩ (.int .i64 ((apC X (E k)).x1))).setCell ⟨G4, 2, none⟩ (.int .i64 ((apC X (E k)).x2))).setCell ⟨G4, 3, none⟩ (.int .i64 ((apC X (E k)).x3))) G4 #[.slice ua5 ul5.length up5, .int .i64 ((apC X (E k)).x1), .int .i64 ((apC X (E k)).x2), .int .i64 ((apC X (E k)).x3)] 32 := NB8_6s3
            have OU_6 := OU_6s3
            refine hK.out _ _ ⟨hBX_6, LO_6⟩ (fun hSz => ?_)
            clear hK K hSz LO_5 NB8_5 OU_5 hBX_5 LO_6s0 LO_6s1 LO_6s2 LO_6s3 hBX_6s0 hBX_6s1 hBX_6s2 hBX_6s3 NB8_6s0 NB8_6s1 NB8_6s2 NB8_6s3 OU_6s0 OU_6s1 OU_6s2 OU_6s3
            generalize (((wq5.setCell ⟨G4, 0, none⟩ (.slice ua5 ul5.length up5)).setCell ⟨G4, 1, none⟩ (.int .i64 ((apC X (E k)).x1))).setCell ⟨G4, 2, none⟩ (.int .i64 ((apC X (E k)).x2))).setCell ⟨G4, 3, none⟩ (.int .i64 ((apC X (E k)).x3)) = wq6 at LO_6 hBX_6 NB8_6 OU_6 ⊢
            refine wpAnyH_take (i := 11) (v := .bool (apB X (E k))) nat11 (by kernel_rfl) (by kernel_rfl) (by kernel_rfl) (fun _ _ _ h => False.elim h) (Or.inl ⟨by rfl, ?_⟩) ⟨hBX_6, LO_6⟩ ?_
            · intro wx hSw
              go_simp
            simp only [Act.put, List.setIfInBounds_toArray, List.set_cons_zero, List.set_cons_succ]
            refine wpAnyH_done (by kernel_rfl) ?_ _
            refine NoPanic.normal ?_
            go_wp2_with fail
            go_meet
            exact ⟨G4, ua5, ul5, up5, rfl, rfl, HUC5.out, hide LO_6, hide NB8_6, hide OU_6⟩
        case rest =>
        obtain ⟨N, ua2, ul2, up2, rfl, rfl, huc, HBW, HN, HOU6⟩ := hcut
        obtain ⟨w6, rfl⟩ : ∃ V, V = wc := ⟨_, rfl⟩
        have HLW6 := hide (HLW.out.trans (HBW.out.mono HLW.out.size))
        have HBX6 := (HBX.out.next HBW.out).hid
        have HOW6 := (HOW.out.next HBW.out).hid
        generalize hY : apC X (E k) = Y at huc HN
        have hY2 : repS (cpV c) E (k + 1) = Y := by rw [repS, HXX.out, hY]
        have HYY := hide hY2
        have hK2 : ∀ ab, apB X (E k) = ab → repK (cpV c) E (k + 1) = ab := fun ab h => by rw [repK, HRK.out, HXX.out, h]; rfl
        have HK2 := hide hK2
        have HUC := hide huc
        clear hY hY2 hAp huc c0 c1 c2 c3 c4 HOW HBX hK2 hBX HBW
        obtain ⟨ab, hab⟩ : ∃ ab, apB X (E k) = ab := ⟨_, rfl⟩
        rw [hab]
        have HAB := hide hab
        clear hab
        cases ab with
        | false =>
          obtain ⟨hi, hc⟩ := rep_stop (n := n) hok HRK.out (by rw [HXX.out]; exact HAB.out) hlt
          have z0 := HBX6.out.cell 0
          have z1 := HBX6.out.cell 1
          have z2 := HBX6.out.cell 2
          have z3 := HBX6.out.cell 3
          have hR := HX.out.next HLW6.out
          have r0 := hR.cell 0
          have r1 := hR.cell 1
          have r2 := hR.cell 2
          have r3 := hR.cell 3
          have rf := hR.free
          simp only [List.getElem?_toArray, List.getElem?_cons_succ, List.getElem?_cons_zero] at z0 z1 z2 z3 r0 r1 r2 r3
          have b1 := hR.set 0 (.slice va l.length p)
          have b2 := b1.set 1 (.int .i64 X.x1)
          have b3 := b2.set 2 (.int .i64 X.x2)
          have HOWE := hide (show OwnMeta _ _ _ _ from rg_set (o := 3) (rg_set (rg_set (rg_set HOW6.out hR (by decide) (.slice va l.length p)) b1 (by decide) (.int .i64 X.x1)) b2 (by decide) (.int .i64 X.x2)) b3 (by decide) (.int .i64 X.x3))
          have HLOW := hide (HB0.out.trans (HLW6.out.mono HB0.out.size))
          have hle : w.heap.size ≤ w.heap.size + 1 := by omega
          have HI := hide hi
          have HCC := hide hc
          clear hR hi hc b1 b2 b3 HN HOW6 HOU6 HBX6 HLW6
          go_wp2
          refine bodyPost_ret (v := .tuple #[.agg #[.slice va l.length p, .int .i64 X.x1, .int .i64 X.x2, .int .i64 X.x3], .int .i64 k]) (by simp [results, Try.results19, go_sem, r0, r1, r2, r3]) rfl ⟨⟨_, by rw [HI.out], by rw [HCC.out, HXX.out]; exact ⟨_, l, rfl, HOWE.out.base HB0.out.size, HXE.out⟩⟩, ?_⟩
          exact (((HLOW.out.setCell hle _).setCell hle _).setCell hle _).setCell hle _
        | true =>
          have n0 := HN.out.cell 0
          have n1 := HN.out.cell 1
          have n2 := HN.out.cell 2
          have n3 := HN.out.cell 3
          have z0 := HBX6.out.cell 0
          have z1 := HBX6.out.cell 1
          have z2 := HBX6.out.cell 2
          have z3 := HBX6.out.cell 3
          have zf := HBX6.out.free
          simp only [List.getElem?_toArray, List.getElem?_cons_succ, List.getElem?_cons_zero] at n0 n1 n2 n3 z0 z1 z2 z3
          have b1 := HBX6.out.set 0 (.slice ua2 ul2.length up2)
          have b2 := b1.set 1 (.int .i64 Y.x1)
          have b3 := b2.set 2 (.int .i64 Y.x2)
          have b4 := b3.set 3 (.int .i64 Y.x3)
          have hOE := (show OwnMeta _ _ _ _ from rg_set (o := 3) (rg_set (rg_set (rg_set HOU6.out HBX6.out (by decide) (.slice ua2 ul2.length up2)) b1 (by decide) (.int .i64 Y.x1)) b2 (by decide) (.int .i64 Y.x2)) b3 (by decide) (.int .i64 Y.x3))
          have hFle := hFl
          have HRN : Hid (RepSt W F (cpV c) E (k + 1) _) := hide ⟨(((HLW6.out.setCell (p := ⟨F, 0, none⟩) hFl _).setCell (p := ⟨F, 1, none⟩) hFl _).setCell (p := ⟨F, 2, none⟩) hFl _).setCell (p := ⟨F, 3, none⟩) hFl _, ⟨ua2, ul2, up2, by rw [HYY.out]; exact HUC.out, hOE, by rw [HYY.out]; exact b4⟩, HK2.out true HAB.out, hFl⟩
          clear b1 b2 b3 b4 hOE HN HOW6 HOU6 HBX6 HLW6 hFle
          go_wp2
          exact ⟨⟨k + 1, by go_num, by omega, HRN⟩, by simp [intOf]; omega⟩
      · obtain rfl : k = n := by omega
        obtain ⟨hi, hc⟩ := rep_end hok HRK.out
        have z0 := HBX.out.cell 0
        have z1 := HBX.out.cell 1
        have z2 := HBX.out.cell 2
        have z3 := HBX.out.cell 3
        have hR := HX.out.next HLW.out
        have r0 := hR.cell 0
        have r1 := hR.cell 1
        have r2 := hR.cell 2
        have r3 := hR.cell 3
        have rf := hR.free
        simp only [List.getElem?_toArray, List.getElem?_cons_succ, List.getElem?_cons_zero] at z0 z1 z2 z3 r0 r1 r2 r3
        have b1 := hR.set 0 (.slice va l.length p)
        have b2 := b1.set 1 (.int .i64 X.x1)
        have b3 := b2.set 2 (.int .i64 X.x2)
        have HOWE := hide (show OwnMeta _ _ _ _ from rg_set (o := 3) (rg_set (rg_set (rg_set HOW.out hR (by decide) (.slice va l.length p)) b1 (by decide) (.int .i64 X.x1)) b2 (by decide) (.int .i64 X.x2)) b3 (by decide) (.int .i64 X.x3))
        have HLOW := hide (HB0.out.trans (HLW.out.mono HB0.out.size))
        have hle : w.heap.size ≤ w.heap.size + 1 := by omega
        have HI := hide hi
        have HCC := hide hc
        clear hR hi hc b1 b2 b3 HOW HBX HLW
        go_wp2
        refine bodyPost_ret (v := .tuple #[.agg #[.slice va l.length p, .int .i64 X.x1, .int .i64 X.x2, .int .i64 X.x3], .int .i64 k]) (by simp [results, Try.results19, go_sem, r0, r1, r2, r3]) rfl ⟨⟨_, by rw [HI.out], by rw [HCC.out, HXX.out]; exact ⟨_, l, rfl, HOWE.out.base HB0.out.size, HXE.out⟩⟩, ?_⟩
        exact (((HLOW.out.setCell hle _).setCell hle _).setCell hle _).setCell hle _

end Go.Proofs.Ytplbhgcibfajaaa

/- What the law on Apply asks of its answer: pure. -/
namespace Go.Proofs.Ytplbhgcibfajaaa
set_option maxRecDepth 100000
open Go.RowKit Go.Deep

/-- An edit by its lists. -/
def ecd (adds : List Meta1) (cuts : List Int) (n s lo : Int) : EditC := ⟨adds.length, fnMeta adds, cuts.length, fun i => cuts.getD i 0, n, s, lo⟩

theorem left_len (O : Metas) (S : Nat → Int) (n : Nat) : ∀ k, (leftL O S n k).length + cutN O S n k = k
  | 0 => rfl
  | k + 1 => by
    have ih := left_len O S n k
    rw [leftL, cutN]
    by_cases h : cutB S (O.N k) n = true
    · simp only [h, if_true]
      try simp only [Bool.not_true, Bool.false_eq_true, if_false]
      omega
    · have h' : cutB S (O.N k) n = false := by simpa using h
      simp only [h']
      simp <;> omega

theorem metasL_fn (l : List Meta1) : metasL (fnMeta l) l.length = l := by
  apply List.ext_getElem
  · simp [metasL]
  · intro i h1 h2
    simp [metasL, fnMeta, metaAt1, h2]

theorem applied_law {l adds : List Meta1} {cuts : List Int} {nx sq lg n s lo : Int} (h : apB (vc l nx sq lg) (ecd adds cuts n s lo) = true) :
    (∀ x ∈ apL (vc l nx sq lg) (ecd adds cuts n s lo), x ∈ l ∨ x ∈ adds) ∧ (∀ x ∈ adds, x ∈ apL (vc l nx sq lg) (ecd adds cuts n s lo)) ∧ (apL (vc l nx sq lg) (ecd adds cuts n s lo)).length + cuts.length = l.length + adds.length ∧ nx ≤ n ∧ sq ≤ s ∧ lg ≤ lo ∧ versB (apV (vc l nx sq lg) (ecd adds cuts n s lo)) = true := by
  have hv := h
  unfold apB at hv
  simp only [Bool.and_eq_true] at hv
  obtain ⟨⟨hg, hcut⟩, hver⟩ := hv
  unfold apG at hg
  simp only [Bool.and_eq_true, decide_eq_true_eq] at hg
  obtain ⟨⟨⟨⟨_, h1⟩, h2⟩, h3⟩, _⟩ := hg
  have hcut' := of_decide_eq_true hcut
  have hp := addsL_perm (leftL (fnMeta l) (fun i => cuts.getD i 0) cuts.length l.length) (fnMeta adds) adds.length
  have hs := leftL_sub (fnMeta l) (fun i => cuts.getD i 0) cuts.length l.length
  rw [metasL_fn] at hp hs
  have hl := left_len (fnMeta l) (fun i => cuts.getD i 0) cuts.length l.length
  have hL := hp.length_eq
  rw [List.length_append] at hL
  have hcn : cutN (fnMeta l) (fun i => cuts.getD i 0) cuts.length l.length = cuts.length := hcut'
  refine ⟨fun x hx => ?_, fun x hx => ?_, ?_, by show nx ≤ n; have : ¬ n < nx := h1; omega, by show sq ≤ s; have : ¬ s < sq := h2; omega, by show lg ≤ lo; have : ¬ lo < lg := h3; omega, hver⟩
  · have := (hp.mem_iff (a := x)).1 hx
    rcases List.mem_append.1 this with h | h
    · exact .inl (hs.subset h)
    · exact .inr h
  · exact (hp.mem_iff (a := x)).2 (List.mem_append.2 (.inr hx))
  · show (addsL _ _ _).length + _ = _
    have : (addsL (leftL (fnMeta l) (fun i => cuts.getD i 0) cuts.length l.length) (fnMeta adds) adds.length).length = (leftL (fnMeta l) (fun i => cuts.getD i 0) cuts.length l.length).length + adds.length := hL
    show (addsL (leftL (fnMeta l) (fun i => cuts.getD i 0) cuts.length l.length) (fnMeta adds) adds.length).length + cuts.length = l.length + adds.length
    omega

end Go.Proofs.Ytplbhgcibfajaaa

/- Rows of edits of one's own. -/
namespace Go.Proofs.Ytplbhgcibfajaaa
set_option maxRecDepth 100000
open Go.RowKit Go.Deep

structure EdR where
  a0 : Option Addr
  p0 : Nat
  adds : List Meta1
  a1 : Option Addr
  p1 : Nat
  cuts : List Int
  n : Int
  s : Int
  lo : Int
def EdR.vs (e : EdR) : List Value := [.slice e.a0 e.adds.length e.p0, .slice e.a1 e.cuts.length e.p1, .int .i64 e.n, .int .i64 e.s, .int .i64 e.lo]
def cellsEd : List EdR → List Value
  | [] => []
  | e :: es => .slice e.a0 e.adds.length e.p0 :: .slice e.a1 e.cuts.length e.p1 :: .int .i64 e.n :: .int .i64 e.s :: .int .i64 e.lo :: cellsEd es
theorem cellsEd_append : ∀ a b : List EdR, cellsEd (a ++ b) = cellsEd a ++ cellsEd b
  | [], _ => rfl
  | e :: es, b => by simp [cellsEd, cellsEd_append es b]
theorem cellsEd_get : ∀ (es : List EdR) (i : Nat) (e : EdR), es[i]? = some e → (cellsEd es)[i * 5]? = some (.slice e.a0 e.adds.length e.p0) ∧ (cellsEd es)[i * 5 + 1]? = some (.slice e.a1 e.cuts.length e.p1) ∧ (cellsEd es)[i * 5 + 2]? = some (.int .i64 e.n) ∧ (cellsEd es)[i * 5 + 3]? = some (.int .i64 e.s) ∧ (cellsEd es)[i * 5 + 4]? = some (.int .i64 e.lo)
  | [], _, _, h => by simp at h
  | a :: es, 0, e, h => by
    obtain rfl : a = e := by simpa using h
    exact ⟨rfl, rfl, rfl, rfl, rfl⟩
  | a :: es, i + 1, e, h => by
    have := cellsEd_get es i e (by simpa using h)
    have h0 : (i + 1) * 5 = i * 5 + 5 := by omega
    rw [h0]
    exact this
theorem cellsEd_one1 (e : EdR) : ∀ v ∈ cellsEd [e], v.oneCell' = true := fun v h => by
  simp only [cellsEd, List.mem_cons, List.not_mem_nil, or_false] at h
  rcases h with rfl | rfl | rfl | rfl | rfl <;> rfl
theorem edit_info : (Try.prog.info? 37).map (fun i => (i.zero, i.size, i.bytes)) = some (some (.agg #[.slice none 0 0, .slice none 0 0, .int .i64 0, .int .i64 0, .int .i64 0]), 5, 72) := by kernel_rfl

/-- One edit's two rows. -/
def EdR.ok (w : World) (B : Nat) (e : EdR) : Prop := OwnMeta w B (.slice e.a0 e.adds.length e.p0) e.adds ∧ OwnI w B (.slice e.a1 e.cuts.length e.p1) e.cuts ∧ e.adds.length ≤ 2 ∧ e.cuts.length ≤ 2
/-- A row of edits of one's own. -/
def OwnEds (w : World) (B : Nat) (v : Value) (L : List EdR) : Prop := w.ownsRow B 37 5 v L.length (cellsEd L) ∧ ∀ e ∈ L, e.ok w B
section
variable {w w' : World} {B B' g : Nat} {v : Value} {L : List EdR} {e : EdR}
theorem EdR.ok.next (h : e.ok w B) (hb : Below w.heap.size w w') : e.ok w' B := ⟨h.1.next hb, h.2.1.next hb, h.2.2⟩
theorem EdR.ok.mv (h : e.ok w B) (hm : Mv g w w') (hg : g < B) : e.ok w' B := ⟨OwnMeta.mv h.1 hm hg, rg_mv h.2.1 hm hg, h.2.2⟩
theorem EdR.ok.base (h : e.ok w B) (hB : B' ≤ B) : e.ok w B' := ⟨h.1.base hB, rg_base h.2.1 hB, h.2.2⟩
theorem EdR.ok.set (h : e.ok w B) {F o : Nat} {t : TypeId} {cs : Array Value} (hb : BoxIs w F cs t) (h1 : 59 ≠ t) (h2 : 2 ≠ t) (x : Value) : e.ok (w.setCell ⟨F, o, none⟩ x) B := ⟨rg_set h.1 hb h1 x, rg_set h.2.1 hb h2 x, h.2.2⟩
theorem EdR.ok.grow (h : e.ok w B) (ho : w.ownsRow B' 37 5 v L.length (cellsEd L)) (hg : w.grownBy w' v.ownBlock) : e.ok w' B := ⟨rg_row ho hg h.1 (by decide), rg_row ho hg h.2.1 (by decide), h.2.2⟩
theorem OwnEds.next (h : OwnEds w B v L) (hb : Below w.heap.size w w') : OwnEds w' B v L := ⟨rg_next h.1 hb, fun e he => (h.2 e he).next hb⟩
theorem OwnEds.mv (h : OwnEds w B v L) (hm : Mv g w w') (hg : g < B) : OwnEds w' B v L := ⟨rg_mv h.1 hm hg, fun e he => (h.2 e he).mv hm hg⟩
theorem OwnEds.base (h : OwnEds w B v L) (hB : B' ≤ B) : OwnEds w B' v L := ⟨rg_base h.1 hB, fun e he => (h.2 e he).base hB⟩
theorem OwnEds.set (h : OwnEds w B v L) {F o : Nat} {t : TypeId} {cs : Array Value} (hb : BoxIs w F cs t) (h0 : 37 ≠ t) (h1 : 59 ≠ t) (h2 : 2 ≠ t) (x : Value) : OwnEds (w.setCell ⟨F, o, none⟩ x) B v L := ⟨rg_set h.1 hb h0 x, fun e he => (h.2 e he).set hb h1 h2 x⟩
theorem OwnEds.nil (w : World) (B : Nat) : OwnEds w B (.slice none 0 0) [] := ⟨World.ownsRow_nil _ _ _ _, fun _ h => by cases h⟩
theorem OwnEds.lit (w : World) (B : Nat) (hB : B ≤ w.heap.size) : OwnEds (w.alloc (.cells #[] 37)) B (.slice (some ⟨w.heap.size, 0, none⟩) 0 0) [] :=
  ⟨⟨by simp [cellsEd], .inr ⟨w.heap.size, 0, #[], rfl, hB, heap_alloc_new w _, Nat.le_refl _, by decide, by simp, by simp [cellsEd]⟩⟩, fun _ h => by cases h⟩
theorem OwnEds.grown (h : OwnEds w B v L) (he : e.ok w B) {v' : Value} (ho : w'.ownsRow B 37 5 v' (L.length + 1) (cellsEd L ++ cellsEd [e])) (hg : w.grownBy w' v.ownBlock) : OwnEds w' B v' (L ++ [e]) := by
  refine ⟨by rw [cellsEd_append, List.length_append]; exact ho, fun x hx => ?_⟩
  rcases List.mem_append.1 hx with hx | hx
  · exact (h.2 x hx).grow h.1 hg
  · obtain rfl : x = e := by simpa using hx
    exact he.grow h.1 hg
theorem OwnEds.shape (h : OwnEds w B v L) : ∃ a p, v = .slice a L.length p := rg_shape h.1
theorem OwnEds.hid (h : OwnEds w B v L) : Hid (OwnEds w B v L) := h
end
def edF (L : List EdR) (i : Nat) : EditC := match L[i]? with
  | some e => ecd e.adds e.cuts e.n e.s e.lo
  | none => ecd [] [] 0 0 0
theorem edF_at {L : List EdR} {i : Nat} (hi : i < L.length) : edF L i = ecd L[i].adds L[i].cuts L[i].n L[i].s L[i].lo := by
  unfold edF; rw [List.getElem?_eq_getElem hi]
theorem edF_fit {w : World} {B : Nat} {v : Value} {L : List EdR} (h : OwnEds w B v L) {i : Nat} (hi : i < L.length) : (edF L i).Fit := by
  rw [edF_at hi]
  obtain ⟨_, _, h1, h2⟩ := h.2 _ (List.getElem_mem hi)
  exact ⟨by show L[i].adds.length ≤ _; omega, by show L[i].cuts.length ≤ _; omega⟩
/-- One's own row of edits, as what is read. -/
theorem OwnEds.src {w : World} {B : Nat} {a : Option Addr} {p n : Nat} {L : List EdR} (h : OwnEds w B (.slice a n p) L) : EditsSrc w a L.length (edF L) := by
  have hc := fun g => World.ownsRow.cells (w := w) h.1 (g := g)
  rcases h.1.2 with ⟨hv, h0⟩ | ⟨g, cap, cur, hv, hg, hh, hle, hcap, hsz, htake⟩
  · exact .inl h0
  · simp only [Value.slice.injEq] at hv
    obtain ⟨rfl, _, _⟩ := hv
    refine .inr ⟨g, 0, rfl, (Array.getElem?_eq_some_iff.1 hh).1, fun i hi => ?_⟩
    obtain ⟨h0, h1, h2, h3, h4⟩ := cellsEd_get L i L[i] (by simp [hi])
    have hx := fun j y (hy : (cellsEd L)[j]? = some y) => hc g rfl j y hy
    simp only [Addr.add_lit, Nat.zero_add] at hx
    obtain ⟨k0, k1, _, _⟩ := h.2 _ (List.getElem_mem hi)
    obtain ⟨a0, q0, hva, hM⟩ := k0.arg
    simp only [Value.slice.injEq, true_and] at hva
    obtain ⟨hva1, hva2⟩ := hva
    obtain ⟨a2, q2, hv2, hI⟩ := k1.at
    simp only [Value.slice.injEq, true_and] at hv2
    obtain ⟨hv21, hv22⟩ := hv2
    have hcl : cutsL (ecd L[i].adds L[i].cuts L[i].n L[i].s L[i].lo) = L[i].cuts := by
      apply List.ext_getElem
      · simp [cutsL, ecd]
      · intro i h1 h2
        simp [cutsL, ecd, h2]
    rw [edF_at hi]
    refine ⟨L[i].a0, L[i].p0, L[i].a1, L[i].p1, ⟨?_, ?_, ?_, ?_, ?_⟩, ?_, ?_, ?_⟩
    · rw [Nat.zero_add]; exact hx _ _ h0
    · rw [Nat.zero_add]; exact hx _ _ h1
    · rw [Nat.zero_add]; exact hx _ _ h2
    · rw [Nat.zero_add]; exact hx _ _ h3
    · rw [Nat.zero_add]; exact hx _ _ h4
    · rw [hva1]; exact hM
    · rw [hv21]; exact hI
    · rw [hcl]; exact k1.src

end Go.Proofs.Ytplbhgcibfajaaa

/- What the law on Replay draws. -/
namespace Go.Proofs.Ytplbhgcibfajaaa
set_option maxRecDepth 100000
open Go.RowKit Go.Deep

/-- While a row of edits is drawn. -/
structure RpS (W w : World) (g : Nat) (a : Option Addr) (len cap E F : Nat) (va : Value) (l : List Meta1) (nx sq lg : Int) (vb : Value) (lb : List Meta1) (n2 s2 g2 : Int) (vL : Value) (L : List EdR) (x : World) : Prop where
  rd : Rd W x g a len cap
  low : Below w.heap.size w x
  bR : BoxIs x w.heap.size #[.slice none 0 0, .int .i64 0, .int .i64 0, .int .i64 0] 32
  bE : BoxIs x E #[va, .int .i64 nx, .int .i64 sq, .int .i64 lg] 32
  bF : BoxIs x F #[vb, .int .i64 n2, .int .i64 s2, .int .i64 g2] 32
  oa : OwnMeta x (g + 1) va l
  ob : OwnMeta x (g + 1) vb lb
  oL : OwnEds x (g + 1) vL L
  ord : w.heap.size < g ∧ g < E ∧ E < F
section
variable {W w : World} {g : Nat} {a : Option Addr} {len cap E F : Nat} {va vb vL : Value} {l lb : List Meta1} {nx sq lg n2 s2 g2 : Int} {L : List EdR} {x y : World}
theorem RpS.call (h : RpS W w g a len cap E F va l nx sq lg vb lb n2 s2 g2 vL L x) (r : Rd W y g a len cap) (m : Mv g x y) : RpS W w g a len cap E F va l nx sq lg vb lb n2 s2 g2 vL L y := by
  obtain ⟨o1, o2, o3⟩ := h.ord
  exact ⟨r, h.low.trans (m.below h.low.size (by omega)), h.bR.mv m (by omega), h.bE.mv m (by omega), h.bF.mv m (by omega), OwnMeta.mv h.oa m (by omega), OwnMeta.mv h.ob m (by omega), h.oL.mv m (by omega), h.ord⟩
theorem RpS.next (h : RpS W w g a len cap E F va l nx sq lg vb lb n2 s2 g2 vL L x) (b : Below x.heap.size x y) : RpS W w g a len cap E F va l nx sq lg vb lb n2 s2 g2 vL L y :=
  ⟨h.rd.mv b, h.low.trans (b.mono h.low.size), h.bR.next b, h.bE.next b, h.bF.next b, h.oa.next b, h.ob.next b, h.oL.next b, h.ord⟩
/-- Another version lies in now's place. -/
theorem RpS.put (h : RpS W w g a len cap E F va l nx sq lg vb lb n2 s2 g2 vL L x) {v1 : Value} {l1 : List Meta1} {n1 s1 g1 : Int} (ho : OwnMeta x (g + 1) v1 l1) : RpS W w g a len cap E F va l nx sq lg v1 l1 n1 s1 g1 vL L ((((x.setCell ⟨F, 0, none⟩ v1).setCell ⟨F, 1, none⟩ (.int .i64 n1)).setCell ⟨F, 2, none⟩ (.int .i64 s1)).setCell ⟨F, 3, none⟩ (.int .i64 g1)) := by
  obtain ⟨o1, o2, o3⟩ := h.ord
  have b0 := h.bF
  have b1 := b0.set 0 v1
  have b2 := b1.set 1 (.int .i64 n1)
  have b3 := b2.set 2 (.int .i64 s1)
  have b4 := b3.set 3 (.int .i64 g1)
  have hB : Below (g + 1) x ((((x.setCell ⟨F, 0, none⟩ v1).setCell ⟨F, 1, none⟩ (.int .i64 n1)).setCell ⟨F, 2, none⟩ (.int .i64 s1)).setCell ⟨F, 3, none⟩ (.int .i64 g1)) :=
    ((((Below.refl _ _).setCell (p := ⟨F, 0, none⟩) (by show g + 1 ≤ F; omega) _).setCell (p := ⟨F, 1, none⟩) (by show g + 1 ≤ F; omega) _).setCell (p := ⟨F, 2, none⟩) (by show g + 1 ≤ F; omega) _).setCell (p := ⟨F, 3, none⟩) (by show g + 1 ≤ F; omega) _
  refine ⟨h.rd.keep hB (by omega), h.low.trans (hB.mono (by omega)), ?_, ?_, b4, ?_, ?_, ?_, h.ord⟩
  · exact (((h.bR.set_other (by show F ≠ _; omega) _).set_other (by show F ≠ _; omega) _).set_other (by show F ≠ _; omega) _).set_other (by show F ≠ _; omega) _
  · exact (((h.bE.set_other (by show F ≠ _; omega) _).set_other (by show F ≠ _; omega) _).set_other (by show F ≠ _; omega) _).set_other (by show F ≠ _; omega) _
  · exact rg_set (rg_set (rg_set (rg_set h.oa b0 (by decide) _) b1 (by decide) _) b2 (by decide) _) b3 (by decide) _
  · exact rg_set (rg_set (rg_set (rg_set ho b0 (by decide) _) b1 (by decide) _) b2 (by decide) _) b3 (by decide) _
  · exact (((h.oL.set b0 (by decide) (by decide) (by decide) _).set b1 (by decide) (by decide) (by decide) _).set b2 (by decide) (by decide) (by decide) _).set b3 (by decide) (by decide) (by decide) _
theorem RpS.putE (h : RpS W w g a len cap E F va l nx sq lg vb lb n2 s2 g2 vL L x) {e : EdR} (he : e.ok x (g + 1)) (v1 : Value) (n1 s1 g1 : Int) : e.ok ((((x.setCell ⟨F, 0, none⟩ v1).setCell ⟨F, 1, none⟩ (.int .i64 n1)).setCell ⟨F, 2, none⟩ (.int .i64 s1)).setCell ⟨F, 3, none⟩ (.int .i64 g1)) (g + 1) := by
  have b0 := h.bF
  have b1 := b0.set 0 v1
  have b2 := b1.set 1 (.int .i64 n1)
  have b3 := b2.set 2 (.int .i64 s1)
  exact (((he.set b0 (by decide) (by decide) _).set b1 (by decide) (by decide) _).set b2 (by decide) (by decide) _).set b3 (by decide) (by decide) _
/-- The row of edits grows. -/
theorem RpS.grow (h : RpS W w g a len cap E F va l nx sq lg vb lb n2 s2 g2 vL L x) {e : EdR} (he : e.ok x (g + 1)) {v' : Value} (ho : y.ownsRow (g + 1) 37 5 v' (L.length + 1) (cellsEd L ++ cellsEd [e])) (hg : x.grownBy y vL.ownBlock) : RpS W w g a len cap E F va l nx sq lg vb lb n2 s2 g2 v' (L ++ [e]) y := by
  obtain ⟨o1, o2, o3⟩ := h.ord
  have hlt := h.rd.lt
  have b := rg_low h.oL.1 (by omega) hg
  exact ⟨h.rd.keep b (by omega), h.low.trans (b.mono (by omega)), rg_box h.oL.1 hg h.bR (by decide), rg_box h.oL.1 hg h.bE (by decide), rg_box h.oL.1 hg h.bF (by decide), rg_row h.oL.1 hg h.oa (by decide), rg_row h.oL.1 hg h.ob (by decide), h.oL.grown he ho hg, h.ord⟩
/-- What is answered lies in the result's box. -/
theorem RpS.ret (h : RpS W w g a len cap E F va l nx sq lg vb lb n2 s2 g2 vL L x) (v0 v1 v2 v3 : Value) : OwnMeta ((((x.setCell ⟨w.heap.size, 0, none⟩ v0).setCell ⟨w.heap.size, 1, none⟩ v1).setCell ⟨w.heap.size, 2, none⟩ v2).setCell ⟨w.heap.size, 3, none⟩ v3) w.heap.size va l ∧ OwnEds ((((x.setCell ⟨w.heap.size, 0, none⟩ v0).setCell ⟨w.heap.size, 1, none⟩ v1).setCell ⟨w.heap.size, 2, none⟩ v2).setCell ⟨w.heap.size, 3, none⟩ v3) w.heap.size vL L ∧ Below w.heap.size w ((((x.setCell ⟨w.heap.size, 0, none⟩ v0).setCell ⟨w.heap.size, 1, none⟩ v1).setCell ⟨w.heap.size, 2, none⟩ v2).setCell ⟨w.heap.size, 3, none⟩ v3) := by
  obtain ⟨o1, o2, o3⟩ := h.ord
  have b0 := h.bR
  have b1 := b0.set 0 v0
  have b2 := b1.set 1 v1
  have b3 := b2.set 2 v2
  have hB : Below w.heap.size x ((((x.setCell ⟨w.heap.size, 0, none⟩ v0).setCell ⟨w.heap.size, 1, none⟩ v1).setCell ⟨w.heap.size, 2, none⟩ v2).setCell ⟨w.heap.size, 3, none⟩ v3) :=
    ((((Below.refl _ _).setCell (p := ⟨w.heap.size, 0, none⟩) (Nat.le_refl _) _).setCell (p := ⟨w.heap.size, 1, none⟩) (Nat.le_refl _) _).setCell (p := ⟨w.heap.size, 2, none⟩) (Nat.le_refl _) _).setCell (p := ⟨w.heap.size, 3, none⟩) (Nat.le_refl _) _
  exact ⟨OwnMeta.base (B := g + 1) (rg_set (rg_set (rg_set (rg_set h.oa b0 (by decide) _) b1 (by decide) _) b2 (by decide) _) b3 (by decide) _) (by omega), OwnEds.base (B := g + 1) ((((h.oL.set b0 (by decide) (by decide) (by decide) _).set b1 (by decide) (by decide) (by decide) _).set b2 (by decide) (by decide) (by decide) _).set b3 (by decide) (by decide) (by decide) _) (by omega), h.low.trans hB⟩
end

set_option linter.unusedVariables false in
set_option linter.unusedSimpArgs false in
set_option maxHeartbeats 4000000 in
theorem draw_Replay (W w : World) (a : Option Addr) (len cap : Nat) (hc : IsCode W a len) (hl : len ≤ 1048576) (hb : Below W.heap.size W w) :
    Calls Try.prog 28 #[.slice a len cap] w fun e w' => ∃ a1 c1 l nx sq lg gL cL L, e = .returned (.tuple #[.agg #[.slice a1 (l : List Meta1).length c1, .int .i64 nx, .int .i64 sq, .int .i64 lg], .slice (some ⟨gL, 0, none⟩) (L : List EdR).length cL]) ∧ OwnMeta w' w.heap.size (.slice a1 l.length c1) l ∧ OwnEds w' w.heap.size (.slice (some ⟨gL, 0, none⟩) L.length cL) L ∧ l.length ≤ 31 ∧ L.length ≤ 4 ∧ Below w.heap.size w w' := by
  go_enter Try.func28, Try.ntmps28
  go_wp2_with fail
  have hb0 : Below w.heap.size w (w.alloc (.cells #[.slice none 0 0, .int .i64 0, .int .i64 0, .int .i64 0] 32)) := below_one _ _
  have hR0 : BoxIs (w.alloc (.cells #[.slice none 0 0, .int .i64 0, .int .i64 0, .int .i64 0] 32)) w.heap.size #[.slice none 0 0, .int .i64 0, .int .i64 0, .int .i64 0] 32 := BoxIs.new w _ _ rfl
  generalize w.alloc (.cells #[.slice none 0 0, .int .i64 0, .int .i64 0, .int .i64 0] 32) = W0 at hb0 hR0 ⊢
  have hlt0 := hR0.lt
  refine (open_rdO W0 a len cap W (hb.trans (hb0.mono hb.size))).mono ?_
  rintro e w1 ⟨rfl, hr, hb1⟩
  have hlow1 := hb0.trans (hb1.mono hb0.size)
  have hR1 := hR0.next hb1
  generalize W0.heap.size = g at hr hlt0 hb1 ⊢
  clear hb hb0 hb1 hR0
  go_wp2_with fail
  refine (rd_version W _ g a len cap hc hl hr).mono ?_
  rintro e w2 ⟨a1, c1, l, nx, sq, lg, rfl, ho, hll, hn0, hn1, hs0, hs1, hr2, hm2⟩
  have hlow2 := hlow1.trans (hm2.below hlow1.size (by omega))
  have hR2 := hR1.mv hm2 (by omega)
  have hE := hr2.lt
  have hg1 := hr.lt
  have ho := ho.base (by omega : g + 1 ≤ w1.heap.size)
  clear hr hm2 hlow1 hR1
  have HS := hide (⟨((hr2.mv (below_one w2 (.cells #[.slice a1 l.length c1, .int .i64 nx, .int .i64 sq, .int .i64 lg] 32))).mv (below_one _ (.cells #[] 37))).mv (below_one _ (.cells #[.slice a1 l.length c1, .int .i64 nx, .int .i64 sq, .int .i64 lg] 32)),
    hlow2.trans (((((Below.refl _ _).alloc (Nat.le_refl _) _).alloc (by simp) _).alloc (by simp <;> omega) _).mono hlow2.size),
    ((hR2.next (below_one _ _)).next (below_one _ _)).next (below_one _ _),
    ((BoxIs.new _ _ _ rfl).next (below_one _ _)).next (below_one _ _),
    BoxIs.new _ _ _ rfl,
    ((ho.next (below_one _ _)).next (below_one _ _)).next (below_one _ _),
    ((ho.next (below_one _ _)).next (below_one _ _)).next (below_one _ _),
    (OwnEds.lit _ (g + 1) (by simp; omega)).next (below_one _ _),
    ⟨hlt0, hE, by simp <;> omega⟩⟩ : RpS W w g a len cap w2.heap.size ((w2.alloc (.cells #[.slice a1 l.length c1, .int .i64 nx, .int .i64 sq, .int .i64 lg] 32)).alloc (.cells #[] 37)).heap.size (.slice a1 l.length c1) l nx sq lg (.slice a1 l.length c1) l nx sq lg (.slice (some ⟨(w2.alloc (.cells #[.slice a1 l.length c1, .int .i64 nx, .int .i64 sq, .int .i64 lg] 32)).heap.size, 0, none⟩) 0 0) []
      (((w2.alloc (.cells #[.slice a1 l.length c1, .int .i64 nx, .int .i64 sq, .int .i64 lg] 32)).alloc (.cells #[] 37)).alloc (.cells #[.slice a1 l.length c1, .int .i64 nx, .int .i64 sq, .int .i64 lg] 32)))
  clear hr2 ho hlow2 hR2
  go_wp2_with fail
  have e1 : (w2.alloc (.cells #[.slice a1 l.length c1, .int .i64 nx, .int .i64 sq, .int .i64 lg] 32)).heap.size = w2.heap.size + 1 := by simp
  have e2 : ((w2.alloc (.cells #[.slice a1 l.length c1, .int .i64 nx, .int .i64 sq, .int .i64 lg] 32)).alloc (.cells #[] 37)).heap.size = w2.heap.size + 1 + 1 := by simp
  rw [e2, e1] at HS
  clear e1 e2
  generalize ((w2.alloc (.cells #[.slice a1 l.length c1, .int .i64 nx, .int .i64 sq, .int .i64 lg] 32)).alloc (.cells #[] 37)).alloc (.cells #[.slice a1 l.length c1, .int .i64 nx, .int .i64 sq, .int .i64 lg] 32) = W3 at HS ⊢
  generalize w2.heap.size + 1 + 1 = F at HS ⊢
  generalize w2.heap.size + 1 = N0 at HS ⊢
  generalize w2.heap.size = E at HS hE ⊢
  refine (rd_below W _ g a len cap 5 (by omega) (by omega) hc hl HS.out.rd).mono ?_
  rintro e w3 ⟨i0, rfl, hi0, hi1, hr3, hm3⟩
  have HS3 := hide (HS.out.call hr3 hm3)
  clear HS hr3 hm3
  obtain ⟨j0, rfl⟩ := Int.eq_ofNat_of_zero_le hi0
  go_wp2
  go_loopg [6, 8] j0 (fun k t6 t8 wr => t8 = .int .i64 (k : Int) ∧ ∃ (gL pL : Nat) (vb : Value) (lb : List Meta1) (n2 s2 g2 : Int) (L : List EdR), t6 = .slice (some ⟨gL, 0, none⟩) L.length pL ∧ L.length + k ≤ 4 ∧ -1000 ≤ n2 ∧ n2 ≤ 1000000 ∧ -1000 ≤ s2 ∧ s2 + 8 * (k : Int) ≤ 1040 ∧ lb.length ≤ 31 ∧ Hid (RpS W w g a len cap E F (.slice a1 l.length c1) l nx sq lg vb lb n2 s2 g2 t6 L wr))
  case atStart => exact ⟨rfl, _, _, _, _, _, _, _, [], rfl, by simp; omega, by omega, by omega, by omega, by omega, by omega, HS3⟩
  case round =>
    obtain ⟨rfl, gL, pL, vb, lb, n2, s2, g2, L, rfl, hL, hn2, hn3, hs2, hs3, hlb, HS⟩ := hrel
    clear HS3 hi0 hi1
    by_cases hk : gk = 0
    · subst hk
      have y0 := HS.out.bE.cell 0
      have y1 := HS.out.bE.cell 1
      have y2 := HS.out.bE.cell 2
      have y3 := HS.out.bE.cell 3
      have z0 := HS.out.bR.cell 0
      have z1 := HS.out.bR.cell 1
      have z2 := HS.out.bR.cell 2
      have z3 := HS.out.bR.cell 3
      have zf := HS.out.bR.free
      simp only [List.getElem?_toArray, List.getElem?_cons_succ, List.getElem?_cons_zero] at y0 y1 y2 y3 z0 z1 z2 z3
      have hE1 : E ≠ w.heap.size := by omega
      go_wp2
      obtain ⟨r1, r2, r3⟩ := HS.out.ret (.slice a1 l.length c1) (.int .i64 nx) (.int .i64 sq) (.int .i64 lg)
      exact bodyPost_ret (v := .tuple #[.agg #[.slice a1 l.length c1, .int .i64 nx, .int .i64 sq, .int .i64 lg], .slice (some ⟨gL, 0, none⟩) L.length pL]) (by simp [results, Try.results28, go_sem, z0, z1, z2, z3]) rfl ⟨_, _, l, nx, sq, lg, _, _, L, rfl, r1, r2, hll, by omega, r3⟩
    · obtain ⟨k, rfl⟩ : ∃ k, gk = k + 1 := ⟨gk - 1, by omega⟩
      clear hk
      have hkp : (0 : Int) < ((k + 1 : Nat) : Int) := by omega
      have hw2 : IntKind.i64.wrap (((k + 1 : Nat) : Int) - 1) = (k : Int) := by rw [IntKind.wrap_i64]; omega
      have y0 := HS.out.bF.cell 0
      have y1 := HS.out.bF.cell 1
      have y2 := HS.out.bF.cell 2
      have y3 := HS.out.bF.cell 3
      simp only [List.getElem?_toArray, List.getElem?_cons_succ, List.getElem?_cons_zero] at y0 y1 y2 y3
      go_wp2_with fail
      clear y0 y1 y2 y3
      refine (rd_edit W _ g a len cap hc hl HS.out.rd vb lb n2 s2 g2 (by omega) (by omega) (by omega) HS.out.ob).mono ?_
      rintro e w4 ⟨aav, adds, cav, cuts, n, s, lo, rfl, oa, oc, ha, hcu, hq1, hq2, hq3, hq4, hr4, hm4⟩
      obtain ⟨aa, ap, rfl⟩ := oa.shape
      obtain ⟨ca, cp, rfl, _⟩ := oc.at
      have hgr : g + 1 ≤ wr.heap.size := HS.out.rd.lt
      have hg9 : g < w4.heap.size := hr4.lt
      have hF9 : F < w4.heap.size := (HS.out.call hr4 hm4).bF.lt
      have HS4 := hide ((HS.out.call hr4 hm4).next (below_one w4 (.cells #[.slice aa adds.length ap, .slice ca cuts.length cp, .int .i64 n, .int .i64 s, .int .i64 lo] 37)))
      have HE := hide (EdR.ok.next (e := ⟨aa, ap, adds, ca, cp, cuts, n, s, lo⟩) (B := g + 1) ⟨oa.base hgr, rg_base oc hgr, ha, hcu⟩ (below_one w4 (.cells #[.slice aa adds.length ap, .slice ca cuts.length cp, .int .i64 n, .int .i64 s, .int .i64 lo] 37)))
      have B9 := (BoxIs.new w4 #[.slice aa adds.length ap, .slice ca cuts.length cp, .int .i64 n, .int .i64 s, .int .i64 lo] 37 rfl).hid
      clear HS hr4 hm4 oa oc
      have y0 := HS4.out.bF.cell 0
      have y1 := HS4.out.bF.cell 1
      have y2 := HS4.out.bF.cell 2
      have y3 := HS4.out.bF.cell 3
      simp only [List.getElem?_toArray, List.getElem?_cons_succ, List.getElem?_cons_zero] at y0 y1 y2 y3
      go_wp2_with fail
      clear y0 y1 y2 y3
      generalize w4.alloc (.cells #[.slice aa adds.length ap, .slice ca cuts.length cp, .int .i64 n, .int .i64 s, .int .i64 lo] 37) = W4 at HS4 HE B9 ⊢
      generalize w4.heap.size = N9 at B9 hg9 hF9 ⊢
      refine (apply_own _ lb _ _ _ _ adds _ cuts _ _ _ _ _ _ _ (by omega) (by omega) (by omega) HS4.out.ob HE.out.1 HE.out.2.1).mono ?_
      rintro e w5 ⟨⟨b, na, nc, nl, nn, ns, ng, rfl, no, nh⟩, hb5⟩
      have hg4 : g + 1 ≤ W4.heap.size := HS4.out.rd.lt
      have hlt5 := HS4.out.bF.lt
      have HS5 := hide ((HS4.out.next hb5).next (below_one w5 (.cells #[.slice na nl.length nc, .int .i64 nn, .int .i64 ns, .int .i64 ng] 32)))
      have HE5 := hide ((HE.out.next hb5).next (below_one w5 (.cells #[.slice na nl.length nc, .int .i64 nn, .int .i64 ns, .int .i64 ng] 32)))
      have B95 := ((B9.out.next hb5).next (below_one w5 (.cells #[.slice na nl.length nc, .int .i64 nn, .int .i64 ns, .int .i64 ng] 32))).hid
      have B10 := (BoxIs.new w5 #[.slice na nl.length nc, .int .i64 nn, .int .i64 ns, .int .i64 ng] 32 rfl).hid
      have NO := ((no.base hg4).next (below_one w5 (.cells #[.slice na nl.length nc, .int .i64 nn, .int .i64 ns, .int .i64 ng] 32))).hid
      clear HS4 HE B9 no hb5
      cases b with
      | false =>
        clear nh
        go_wp2_with fail
        generalize w5.alloc (.cells #[.slice na nl.length nc, .int .i64 nn, .int .i64 ns, .int .i64 ng] 32) = W5 at HS5 HE5 B95 B10 NO ⊢
        clear B10 NO
        refine (rd_once W _ g a len cap 4 (by omega) (by omega) hc hl HS5.out.rd).mono ?_
        rintro e w6 ⟨b6, rfl, hr6, hm6⟩
        have HS6 := hide (HS5.out.call hr6 hm6)
        have HE6 := hide (HE5.out.mv hm6 (Nat.lt_succ_self g))
        have B96 := (B95.out.mv hm6 (by omega)).hid
        clear HS5 HE5 B95 hr6 hm6
        cases b6 with
        | false =>
          go_wp2
          go_roundg k
          case measure => omega
          case rel => exact ⟨rfl, _, _, vb, lb, n2, s2, g2, L, rfl, by omega, by omega, by omega, by omega, by omega, by omega, HS6⟩
        | true =>
          have y0 := B96.out.cell 0
          have y1 := B96.out.cell 1
          have y2 := B96.out.cell 2
          have y3 := B96.out.cell 3
          have y4 := B96.out.cell 4
          simp only [List.getElem?_toArray, List.getElem?_cons_succ, List.getElem?_cons_zero] at y0 y1 y2 y3 y4
          have HT := hide (HS6.out.next (below_one w6 (.cells #[.slice aa adds.length ap, .slice ca cuts.length cp, .int .i64 n, .int .i64 s, .int .i64 lo] 37)))
          have HN := (BoxIs.new w6 #[.slice aa adds.length ap, .slice ca cuts.length cp, .int .i64 n, .int .i64 s, .int .i64 lo] 37 rfl).hid
          have hsz : g + 1 ≤ (w6.alloc (.cells #[.slice aa adds.length ap, .slice ca cuts.length cp, .int .i64 n, .int .i64 s, .int .i64 lo] 37)).heap.size := by have := HT.out.rd.lt; omega
          have HO := hide HT.out.oL.1
          go_wp2_with (first
            | (at_builtin; refine wpList_append_row rfl _ _ 48 rfl 37 Try.underlying48 5 72 edit_info rfl (by decide) (by decide) (g + 1) _ L.length (cellsEd L) (by rfl) HO.out ⟨w6.heap.size, 0, none⟩ 1 1 (cellsEd [⟨aa, ap, adds, ca, cp, cuts, n, s, lo⟩]) (by rfl) rfl (cellsEd_one1 _) (rg_news (us := cellsEd [⟨aa, ap, adds, ca, cp, cuts, n, s, lo⟩]) HN.out) hsz (by omega) ?_))
          intro v' wz h1 h2
          obtain ⟨gN, pN, rfl⟩ := rg_some h1 (by omega)
          have HG := hide (HT.out.grow (HE6.out.next (below_one w6 (.cells #[.slice aa adds.length ap, .slice ca cuts.length cp, .int .i64 n, .int .i64 s, .int .i64 lo] 37))) h1 h2)
          clear h1 h2 HT HN HO y0 y1 y2 y3 y4
          go_wp2
          go_roundg k
          case measure => omega
          case rel => exact ⟨rfl, gN, pN, _, _, _, _, _, L ++ [_], by simp, by first | (simp; omega) | omega, by omega, by omega, by omega, by omega, by omega, HG⟩
      | true =>
        obtain ⟨q1, q2, q3, q4, q5, q6, q7, q8⟩ := nh rfl
        have HQ := hide (And.intro q1 q2)
        clear nh q1 q2 q3
        have y0 := B10.out.cell 0
        have y1 := B10.out.cell 1
        have y2 := B10.out.cell 2
        have y3 := B10.out.cell 3
        have z0 := HS5.out.bF.cell 0
        have z1 := HS5.out.bF.cell 1
        have z2 := HS5.out.bF.cell 2
        have z3 := HS5.out.bF.cell 3
        have zf := HS5.out.bF.free
        simp only [List.getElem?_toArray, List.getElem?_cons_succ, List.getElem?_cons_zero] at y0 y1 y2 y3 z0 z1 z2 z3
        have HP := hide (HS5.out.put (n1 := nn) (s1 := ns) (g1 := ng) NO.out)
        have HE7 := hide (HS5.out.putE HE5.out (.slice na nl.length nc) nn ns ng)
        have B97 := ((((B95.out.set_other (p := ⟨F, 0, none⟩) (by show F ≠ _; omega) (.slice na nl.length nc)).set_other (p := ⟨F, 1, none⟩) (by show F ≠ _; omega) (.int .i64 nn)).set_other (p := ⟨F, 2, none⟩) (by show F ≠ _; omega) (.int .i64 ns)).set_other (p := ⟨F, 3, none⟩) (by show F ≠ _; omega) (.int .i64 ng)).hid
        clear HS5 HE5 B95 B10 NO
        go_upto_region 12 with fail
        clear y0 y1 y2 y3 z0 z1 z2 z3 zf
        generalize ((((w5.alloc (.cells #[.slice na nl.length nc, .int .i64 nn, .int .i64 ns, .int .i64 ng] 32)).setCell ⟨F, 0, none⟩ (.slice na nl.length nc)).setCell ⟨F, 1, none⟩ (.int .i64 nn)).setCell ⟨F, 2, none⟩ (.int .i64 ns)).setCell ⟨F, 3, none⟩ (.int .i64 ng) = w7 at HP HE7 B97 ⊢
        have y0 := B97.out.cell 0
        have y1 := B97.out.cell 1
        have y2 := B97.out.cell 2
        have y3 := B97.out.cell 3
        have y4 := B97.out.cell 4
        simp only [List.getElem?_toArray, List.getElem?_cons_succ, List.getElem?_cons_zero] at y0 y1 y2 y3 y4
        have HT := hide (HP.out.next (below_one w7 (.cells #[.slice aa adds.length ap, .slice ca cuts.length cp, .int .i64 n, .int .i64 s, .int .i64 lo] 37)))
        have HN := (BoxIs.new w7 #[.slice aa adds.length ap, .slice ca cuts.length cp, .int .i64 n, .int .i64 s, .int .i64 lo] 37 rfl).hid
        have hsz : g + 1 ≤ (w7.alloc (.cells #[.slice aa adds.length ap, .slice ca cuts.length cp, .int .i64 n, .int .i64 s, .int .i64 lo] 37)).heap.size := by have := HT.out.rd.lt; omega
        have HO := hide HT.out.oL.1
        go_wp2_with (first
          | (at_builtin; refine wpList_append_row rfl _ _ 48 rfl 37 Try.underlying48 5 72 edit_info rfl (by decide) (by decide) (g + 1) _ L.length (cellsEd L) (by rfl) HO.out ⟨w7.heap.size, 0, none⟩ 1 1 (cellsEd [⟨aa, ap, adds, ca, cp, cuts, n, s, lo⟩]) (by rfl) rfl (cellsEd_one1 _) (rg_news (us := cellsEd [⟨aa, ap, adds, ca, cp, cuts, n, s, lo⟩]) HN.out) hsz (by omega) ?_))
        intro v' wz h1 h2
        obtain ⟨gN, pN, rfl⟩ := rg_some h1 (by omega)
        have HG := hide (HT.out.grow (HE7.out.next (below_one w7 (.cells #[.slice aa adds.length ap, .slice ca cuts.length cp, .int .i64 n, .int .i64 s, .int .i64 lo] 37))) h1 h2)
        clear h1 h2 HT HN HO y0 y1 y2 y3 y4
        go_wp2
        go_roundg k
        case measure => omega
        case rel =>
          obtain ⟨q1, q2⟩ := HQ.out
          exact ⟨rfl, gN, pN, _, _, _, _, _, L ++ [_], by simp, by first | (simp; omega) | omega, by omega, by omega, by omega, by omega, by omega, HG⟩

end Go.Proofs.Ytplbhgcibfajaaa

/- Replay: in two parts as in one. -/
namespace Go.Proofs.Ytplbhgcibfajaaa
set_option maxRecDepth 100000
open Go.RowKit Go.Deep

theorem repS_add (c : VersionC) (E : Nat → EditC) (k : Nat) : ∀ j, repS c E (k + j) = repS (repS c E k) (fun i => E (k + i)) j
  | 0 => rfl
  | j + 1 => by
    show apC (repS c E (k + j)) (E (k + j)) = apC (repS (repS c E k) (fun i => E (k + i)) j) (E (k + j))
    rw [repS_add c E k j]
theorem repK_add (c : VersionC) (E : Nat → EditC) (k : Nat) : ∀ j, repK c E (k + j) = (repK c E k && repK (repS c E k) (fun i => E (k + i)) j)
  | 0 => by simp [repK]
  | j + 1 => by
    show (repK c E (k + j) && apB (repS c E (k + j)) (E (k + j))) = (repK c E k && (repK (repS c E k) (fun i => E (k + i)) j && apB (repS (repS c E k) (fun i => E (k + i)) j) (E (k + j))))
    rw [repS_add c E k j, repK_add c E k j, Bool.and_assoc]
theorem repN_le (c : VersionC) (E : Nat → EditC) : ∀ k, repN c E k ≤ k
  | 0 => Nat.le_refl _
  | k + 1 => by
    rw [repN]; split
    · exact Nat.le_refl _
    · exact Nat.le_succ_of_le (repN_le c E k)
theorem repK_at (c : VersionC) (E : Nat → EditC) : ∀ k, repK c E (repN c E k) = true
  | 0 => rfl
  | k + 1 => by
    rw [repN]; split
    · assumption
    · exact repK_at c E k
theorem repK_down {c : VersionC} {E : Nat → EditC} {n k : Nat} (h : repK c E n = true) (hk : k ≤ n) : repK c E k = true := by
  induction hk with
  | refl => exact h
  | step _ ih => rw [repK, Bool.and_eq_true] at h; exact ih h.1
/-- The row's beginning stops ahead of its end: the whole row stops there. -/
theorem repN_short {c : VersionC} {E : Nat → EditC} {n k : Nat} (h : repN c E k < k) (hk : k ≤ n) : repN c E n = repN c E k := by
  have h0 : repK c E k = false := by
    cases hq : repK c E k with
    | false => rfl
    | true => rw [repN_all hq] at h; omega
  induction hk with
  | refl => rfl
  | @step m hm ih =>
    have : repK c E (m + 1) = false := by
      cases hq : repK c E (m + 1) with
      | false => rfl
      | true => rw [repK_down hq (Nat.le_succ_of_le hm)] at h0; cases h0
    rw [repN, if_neg (by rw [this]; simp), ih]
/-- It reaches its end: the rest goes on from there. -/
theorem repN_more {c : VersionC} {E : Nat → EditC} {k : Nat} (h : repK c E k = true) : ∀ j, repN c E (k + j) = k + repN (repS c E k) (fun i => E (k + i)) j
  | 0 => by rw [Nat.add_zero, repN_all h]; rfl
  | j + 1 => by
    show repN c E (k + j + 1) = _
    have hq := repK_add c E k (j + 1)
    rw [h, Bool.true_and] at hq
    rw [repN, repN, show k + j + 1 = k + (j + 1) from rfl, hq, repN_more h j]
    split <;> rfl
theorem repV {c : VersionC} {E : Nat → EditC} (hv : versB c = true) : ∀ {k : Nat}, repK c E k = true → versB (repS c E k) = true
  | 0, _ => hv
  | k + 1, h => by
    rw [repK, Bool.and_eq_true] at h
    have h2 := h.2
    rw [repS, apC_yes h2]
    unfold apB at h2
    rw [Bool.and_eq_true, Bool.and_eq_true] at h2
    exact h2.2
theorem cpV_vc (l : List Meta1) (x y z : Int) : cpV (vc l x y z) = vc l x y z := by
  show vc (metasL (fnMeta l) l.length) x y z = _
  rw [fnMeta_list]
theorem rep_vc {l : List Meta1} {x y z : Int} {E : Nat → EditC} : ∀ {k : Nat}, repK (vc l x y z) E k = true → ∃ m x1 y1 z1, repS (vc l x y z) E k = vc m x1 y1 z1
  | 0, _ => ⟨_, _, _, _, rfl⟩
  | k + 1, h => by
    rw [repK, Bool.and_eq_true] at h
    exact ⟨_, _, _, _, by rw [repS, apC_yes h.2]; rfl⟩
theorem vc_inj {l m : List Meta1} {x y z x1 y1 z1 : Int} (h : vc l x y z = vc m x1 y1 z1) : l = m ∧ x = x1 ∧ y = y1 ∧ z = z1 := by
  have h0 : l.length = m.length := congrArg VersionC.n0 h
  have h1 : fnMeta l = fnMeta m := congrArg VersionC.r0 h
  refine ⟨?_, congrArg VersionC.x1 h, congrArg VersionC.x2 h, congrArg VersionC.x3 h⟩
  rw [← fnMeta_list l, ← fnMeta_list m, h0, h1]

/-- What the law holds against each other, at a version that is good. -/
theorem rep_whole {l : List Meta1} {x y z : Int} {n : Nat} {E : Nat → EditC} (h : 0 ≤ repI (vc l x y z) n E) : versB (vc l x y z) = true ∧ repI (vc l x y z) n E = (repN (vc l x y z) E n : Int) ∧ repC (vc l x y z) n E = repS (vc l x y z) E (repN (vc l x y z) E n) := by
  unfold repI at h ⊢
  unfold repC
  rw [cpV_vc] at h ⊢
  cases hv : versB (vc l x y z) with
  | true => exact ⟨rfl, rfl, rfl⟩
  | false => rw [hv] at h; simp at h
theorem rep_good {c : VersionC} {n : Nat} {E : Nat → EditC} (hc : ∃ m x1 y1 z1, c = vc m x1 y1 z1) (hv : versB c = true) : repI c n E = (repN c E n : Int) ∧ repC c n E = repS c E (repN c E n) := by
  obtain ⟨m, x1, y1, z1, rfl⟩ := hc
  unfold repI repC
  rw [hv, cpV_vc]
  exact ⟨rfl, rfl⟩
/-- .. cut at k: the beginning stops ahead of it. -/
theorem rep_cut1 {l : List Meta1} {x y z : Int} {n k : Nat} {E : Nat → EditC} (h : 0 ≤ repI (vc l x y z) n E) (hk : k ≤ n) (h1 : repI (vc l x y z) k E < k) : repI (vc l x y z) k E = repI (vc l x y z) n E ∧ repC (vc l x y z) k E = repC (vc l x y z) n E := by
  obtain ⟨hv, h2, h3⟩ := rep_whole h
  obtain ⟨h4, h5⟩ := rep_good (n := k) (E := E) ⟨_, _, _, _, rfl⟩ hv
  rw [h4] at h1
  have := repN_short (E := E) (by omega : repN (vc l x y z) E k < k) hk
  rw [h2, h3, h4, h5, this]
  exact ⟨rfl, rfl⟩
/-- .. the beginning reaches it: the rest goes on there. -/
theorem rep_cut2 {l : List Meta1} {x y z : Int} {n k : Nat} {E : Nat → EditC} (h : 0 ≤ repI (vc l x y z) n E) (hk : k ≤ n) (h1 : ¬ repI (vc l x y z) k E < k) : repI (vc l x y z) k E = k ∧ (k : Int) + repI (repC (vc l x y z) k E) (n - k) (fun i => E (k + i)) = repI (vc l x y z) n E ∧ repC (repC (vc l x y z) k E) (n - k) (fun i => E (k + i)) = repC (vc l x y z) n E := by
  obtain ⟨hv, h2, h3⟩ := rep_whole h
  obtain ⟨h4, h5⟩ := rep_good (n := k) (E := E) ⟨_, _, _, _, rfl⟩ hv
  have hle := repN_le (vc l x y z) E k
  have he : repN (vc l x y z) E k = k := by rw [h4] at h1; omega
  have hK : repK (vc l x y z) E k = true := by have := repK_at (vc l x y z) E k; rwa [he] at this
  rw [he] at h4 h5
  rw [h5]
  obtain ⟨h6, h7⟩ := rep_good (n := n - k) (E := fun i => E (k + i)) (rep_vc hK) (repV hv hK)
  have hm := repN_more hK (n - k)
  rw [Nat.add_sub_cancel' hk] at hm
  rw [h6, h7, h2, h3, hm, ← repS_add]
  exact ⟨h4, by omega, rfl⟩
theorem rep_few {l : List Meta1} {x y z : Int} {n k : Nat} {E : Nat → EditC} (h : 0 ≤ repI (vc l x y z) n E) : (repC (vc l x y z) k E).n0 ≤ 30 := by
  obtain ⟨hv, h2, h3⟩ := rep_whole h
  obtain ⟨h4, h5⟩ := rep_good (n := k) (E := E) ⟨_, _, _, _, rfl⟩ hv
  rw [h5]
  exact (versB_out (repV hv (repK_at _ _ _))).1.1

end Go.Proofs.Ytplbhgcibfajaaa

/- What the law on Apply draws. (By gen_drawa.py.) -/
namespace Go.Proofs.Ytplbhgcibfajaaa
set_option maxRecDepth 100000
open Go.RowKit Go.Deep

set_option linter.unusedVariables false in
set_option linter.unusedSimpArgs false in
set_option maxHeartbeats 4000000 in
theorem draw_Apply (W w : World) (a : Option Addr) (len cap : Nat) (hc : IsCode W a len) (hl : len ≤ 1048576) (hb : Below W.heap.size W w) :
    Calls Try.prog 25 #[.slice a len cap] w fun e w' => ∃ a1 c1 l nx sq lg aa adds ca cuts n s lo, e = .returned (.tuple #[.agg #[.slice a1 (l : List Meta1).length c1, .int .i64 nx, .int .i64 sq, .int .i64 lg], .agg #[aa, ca, .int .i64 n, .int .i64 s, .int .i64 lo]]) ∧ OwnMeta w' w.heap.size (.slice a1 l.length c1) l ∧ OwnMeta w' w.heap.size aa adds ∧ OwnI w' w.heap.size ca cuts ∧ l.length ≤ 31 ∧ adds.length ≤ 2 ∧ cuts.length ≤ 2 ∧ Below w.heap.size w w' := by
  go_enter Try.func25, Try.ntmps25
  go_wp2_with fail
  have hb0 : Below w.heap.size w ((w.alloc (.cells #[.slice none 0 0, .int .i64 0, .int .i64 0, .int .i64 0] 32)).alloc (.cells #[.slice none 0 0, .slice none 0 0, .int .i64 0, .int .i64 0, .int .i64 0] 37)) := ((Below.refl _ _).alloc (Nat.le_refl _) _).alloc (by simp) _
  have hR0 : BoxIs ((w.alloc (.cells #[.slice none 0 0, .int .i64 0, .int .i64 0, .int .i64 0] 32)).alloc (.cells #[.slice none 0 0, .slice none 0 0, .int .i64 0, .int .i64 0, .int .i64 0] 37)) w.heap.size #[.slice none 0 0, .int .i64 0, .int .i64 0, .int .i64 0] 32 := (BoxIs.new w _ _ rfl).next (below_one _ _)
  have hQ0 : BoxIs ((w.alloc (.cells #[.slice none 0 0, .int .i64 0, .int .i64 0, .int .i64 0] 32)).alloc (.cells #[.slice none 0 0, .slice none 0 0, .int .i64 0, .int .i64 0, .int .i64 0] 37)) (w.heap.size + 1) #[.slice none 0 0, .slice none 0 0, .int .i64 0, .int .i64 0, .int .i64 0] 37 := BoxIs.new _ _ _ (by simp)
  generalize (w.alloc (.cells #[.slice none 0 0, .int .i64 0, .int .i64 0, .int .i64 0] 32)).alloc (.cells #[.slice none 0 0, .slice none 0 0, .int .i64 0, .int .i64 0, .int .i64 0] 37) = W0 at hb0 hR0 hQ0 ⊢
  obtain ⟨Q, hQ⟩ : ∃ Q, w.heap.size + 1 = Q := ⟨_, rfl⟩
  rw [hQ] at hQ0 ⊢
  have hlt0 := hQ0.lt
  refine (open_rdO W0 a len cap W (hb.trans (hb0.mono hb.size))).mono ?_
  rintro e w1 ⟨rfl, hr, hb1⟩
  have hlow1 := hb0.trans (hb1.mono hb0.size)
  have hR1 := hR0.next hb1
  have hQ1 := hQ0.next hb1
  generalize W0.heap.size = g at hr hlt0 hb1 ⊢
  have hgl := hr.lt
  clear hb hb0 hb1 hR0 hQ0
  go_wp2_with fail
  refine (rd_version W _ g a len cap hc hl hr).mono ?_
  rintro e w2 ⟨a1, c1, l, nx, sq, lg, rfl, ho, hll, hn0, hn1, hs0, hs1, hr2, hm2⟩
  have hlow2 := hlow1.trans (hm2.below hlow1.size (by omega))
  have hR2 := hR1.mv hm2 (by omega)
  have hQ2 := hQ1.mv hm2 (by omega)
  have hE := hr2.lt
  have RD := hr2.mv (below_one w2 (.cells #[.slice a1 l.length c1, .int .i64 nx, .int .i64 sq, .int .i64 lg] 32))
  have LO := hlow2.trans ((below_one w2 (.cells #[.slice a1 l.length c1, .int .i64 nx, .int .i64 sq, .int .i64 lg] 32)).mono hlow2.size)
  have RR := hR2.next (below_one w2 (.cells #[.slice a1 l.length c1, .int .i64 nx, .int .i64 sq, .int .i64 lg] 32))
  have QQ := hQ2.next (below_one w2 (.cells #[.slice a1 l.length c1, .int .i64 nx, .int .i64 sq, .int .i64 lg] 32))
  have BE := BoxIs.new w2 #[.slice a1 l.length c1, .int .i64 nx, .int .i64 sq, .int .i64 lg] 32 rfl
  have OA : OwnMeta (w2.alloc (.cells #[.slice a1 l.length c1, .int .i64 nx, .int .i64 sq, .int .i64 lg] 32)) (g + 1) (.slice a1 l.length c1) l := OwnMeta.next (ho.base (by omega)) (below_one _ _)
  clear hr ho hr2 hm2 hlow1 hlow2 hR1 hR2 hQ1 hQ2
  go_upto_region 3 with fail
  generalize w2.alloc (.cells #[.slice a1 l.length c1, .int .i64 nx, .int .i64 sq, .int .i64 lg] 32) = W2 at RD LO RR QQ BE OA ⊢
  generalize w2.heap.size = E at BE hE ⊢
  refine wp_region_noPanic ?_
  have hb0 : Below W2.heap.size W2 W2.drew := (Below.refl _ _).drew
  have RD_0 := RD.mv hb0
  have LO_0 := LO.trans (hb0.mono LO.size)
  have RR_0 := RR.next hb0
  have QQ_0 := QQ.next hb0
  have BE_0 := BE.next hb0
  have OA_0 := OA.next hb0
  refine wp_region_held_drew (S := fun x => BoxIs x E #[.slice a1 l.length c1, .int .i64 nx, .int .i64 sq, .int .i64 lg] 32) (by kernel_rfl) BE_0 (fun hSz => ?_)
  clear hSz BE LO OA QQ RD RR
  generalize W2.drew = wq0 at hb0 RD_0 LO_0 RR_0 QQ_0 BE_0 OA_0 ⊢
  clear hb0
  refine wpAnyH_take (i := 0) (v := .agg #[.slice a1 l.length c1, .int .i64 nx, .int .i64 sq, .int .i64 lg]) nat0 (by kernel_rfl) (by kernel_rfl) (by kernel_rfl) (fun _ _ _ h => False.elim h) (Or.inl ⟨by rfl, ?_⟩) BE_0 ?_
  · intro wx hSw
    have y0 := hSw.cell 0
    have y1 := hSw.cell 1
    have y2 := hSw.cell 2
    have y3 := hSw.cell 3
    simp only [List.getElem?_toArray, List.getElem?_cons_succ, List.getElem?_cons_zero] at y0 y1 y2 y3
    go_simp
  simp only [Act.put, List.setIfInBounds_toArray, List.set_cons_zero, List.set_cons_succ]
  refine wpAnyH_take (i := 1) (v := .pointer (some ⟨g, 0, none⟩)) nat1 (by kernel_rfl) (by kernel_rfl) (by kernel_rfl) (fun _ _ _ h => False.elim h) (Or.inl ⟨by rfl, ?_⟩) BE_0 ?_
  · intro wx hSw
    go_simp
  simp only [Act.put, List.setIfInBounds_toArray, List.set_cons_zero, List.set_cons_succ]
  refine wpAnyH_take (i := 2) (v := .agg #[.slice a1 l.length c1, .int .i64 nx, .int .i64 sq, .int .i64 lg]) nat2 (by kernel_rfl) (by kernel_rfl) (by kernel_rfl) (fun _ _ _ h => False.elim h) (Or.inl ⟨by rfl, ?_⟩) BE_0 ?_
  · intro wx hSw
    have y0 := hSw.cell 0
    have y1 := hSw.cell 1
    have y2 := hSw.cell 2
    have y3 := hSw.cell 3
    simp only [List.getElem?_toArray, List.getElem?_cons_succ, List.getElem?_cons_zero] at y0 y1 y2 y3
    go_simp
  simp only [Act.put, List.setIfInBounds_toArray, List.set_cons_zero, List.set_cons_succ]
  refine wpAnyH_ready (rs := [3]) (by kernel_rfl) (by simp) ?_
  refine AllReadyH.cons nat3 (fun K hK => ?_) AllReadyH.nil
  go_simp
  go_at_call 46
  refine (rd_edit W _ g a len cap hc hl RD_0 _ l nx sq lg (by omega) (by omega) (by omega) OA_0).mono ?_
  rintro e wq1 ⟨aa1, adds1, ca1, cuts1, n1, s1, lo1, rfl, od1, oc1, ha1, hu1, _, _, _, _, hr1, hb1⟩
  obtain ⟨aa1, ap1, rfl⟩ := od1.shape
  obtain ⟨ca1, cp1, hcq1⟩ := rg_shape oc1
  rw [List.length_map] at hcq1
  subst hcq1
  have RD_1 := hr1
  have LO_1 := LO_0.trans (hb1.below LO_0.size (by omega))
  have RR_1 := RR_0.mv hb1 (by omega)
  have QQ_1 := QQ_0.mv hb1 (by omega)
  have BE_1 := BE_0.mv hb1 (by omega)
  have OA_1 := OwnMeta.mv OA_0 hb1 (by omega)
  have OD_1 := (show OwnMeta _ w.heap.size (.slice aa1 adds1.length ap1) adds1 from od1.base LO_0.size)
  have OC_1 := (show OwnI _ w.heap.size (.slice ca1 cuts1.length cp1) cuts1 from rg_base oc1 LO_0.size)
  refine hK.out _ _ BE_1 (fun hSz => ?_)
  clear hK K hSz BE_0 LO_0 OA_0 QQ_0 RD_0 RR_0 hb1 od1 oc1
  refine wpAnyH_ready (rs := [4]) (by kernel_rfl) (by simp) ?_
  refine AllReadyH.cons nat4 (fun K hK => ?_) AllReadyH.nil
  have y0 := RR_1.cell 0
  have y1 := RR_1.cell 1
  have y2 := RR_1.cell 2
  have y3 := RR_1.cell 3
  simp only [List.getElem?_toArray, List.getElem?_cons_succ, List.getElem?_cons_zero] at y0 y1 y2 y3
  have yf := RR_1.free
  go_simp
  clear yf y0 y1 y2 y3
  have LO_2s0 := LO_1.setCell (p := ⟨w.heap.size, 0, none⟩) (by show w.heap.size ≤ w.heap.size; omega) (.slice a1 l.length c1)
  have RR_2s0 := RR_1.set 0 (.slice a1 l.length c1)
  have QQ_2s0 := QQ_1.set_other (p := ⟨w.heap.size, 0, none⟩) (by show w.heap.size ≠ _; omega) (.slice a1 l.length c1)
  have BE_2s0 := BE_1.set_other (p := ⟨w.heap.size, 0, none⟩) (by show w.heap.size ≠ _; omega) (.slice a1 l.length c1)
  have OA_2s0 := (show OwnMeta _ _ _ _ from rg_set (o := 0) OA_1 RR_1 (by decide) (.slice a1 l.length c1))
  have OD_2s0 := (show OwnMeta _ _ _ _ from rg_set (o := 0) OD_1 RR_1 (by decide) (.slice a1 l.length c1))
  have OC_2s0 := (show OwnI _ _ _ _ from rg_set (o := 0) OC_1 RR_1 (by decide) (.slice a1 l.length c1))
  have LO_2s1 := LO_2s0.setCell (p := ⟨w.heap.size, 1, none⟩) (by show w.heap.size ≤ w.heap.size; omega) (.int .i64 nx)
  have RR_2s1 := RR_2s0.set 1 (.int .i64 nx)
  have QQ_2s1 := QQ_2s0.set_other (p := ⟨w.heap.size, 1, none⟩) (by show w.heap.size ≠ _; omega) (.int .i64 nx)
  have BE_2s1 := BE_2s0.set_other (p := ⟨w.heap.size, 1, none⟩) (by show w.heap.size ≠ _; omega) (.int .i64 nx)
  have OA_2s1 := (show OwnMeta _ _ _ _ from rg_set (o := 1) OA_2s0 RR_2s0 (by decide) (.int .i64 nx))
  have OD_2s1 := (show OwnMeta _ _ _ _ from rg_set (o := 1) OD_2s0 RR_2s0 (by decide) (.int .i64 nx))
  have OC_2s1 := (show OwnI _ _ _ _ from rg_set (o := 1) OC_2s0 RR_2s0 (by decide) (.int .i64 nx))
  have LO_2s2 := LO_2s1.setCell (p := ⟨w.heap.size, 2, none⟩) (by show w.heap.size ≤ w.heap.size; omega) (.int .i64 sq)
  have RR_2s2 := RR_2s1.set 2 (.int .i64 sq)
  have QQ_2s2 := QQ_2s1.set_other (p := ⟨w.heap.size, 2, none⟩) (by show w.heap.size ≠ _; omega) (.int .i64 sq)
  have BE_2s2 := BE_2s1.set_other (p := ⟨w.heap.size, 2, none⟩) (by show w.heap.size ≠ _; omega) (.int .i64 sq)
  have OA_2s2 := (show OwnMeta _ _ _ _ from rg_set (o := 2) OA_2s1 RR_2s1 (by decide) (.int .i64 sq))
  have OD_2s2 := (show OwnMeta _ _ _ _ from rg_set (o := 2) OD_2s1 RR_2s1 (by decide) (.int .i64 sq))
  have OC_2s2 := (show OwnI _ _ _ _ from rg_set (o := 2) OC_2s1 RR_2s1 (by decide) (.int .i64 sq))
  have LO_2s3 := LO_2s2.setCell (p := ⟨w.heap.size, 3, none⟩) (by show w.heap.size ≤ w.heap.size; omega) (.int .i64 lg)
  have RR_2s3 := RR_2s2.set 3 (.int .i64 lg)
  have QQ_2s3 := QQ_2s2.set_other (p := ⟨w.heap.size, 3, none⟩) (by show w.heap.size ≠ _; omega) (.int .i64 lg)
  have BE_2s3 := BE_2s2.set_other (p := ⟨w.heap.size, 3, none⟩) (by show w.heap.size ≠ _; omega) (.int .i64 lg)
  have OA_2s3 := (show OwnMeta _ _ _ _ from rg_set (o := 3) OA_2s2 RR_2s2 (by decide) (.int .i64 lg))
  have OD_2s3 := (show OwnMeta _ _ _ _ from rg_set (o := 3) OD_2s2 RR_2s2 (by decide) (.int .i64 lg))
  have OC_2s3 := (show OwnI _ _ _ _ from rg_set (o := 3) OC_2s2 RR_2s2 (by decide) (.int .i64 lg))
  have LO_2 := LO_2s3
  have RR_2 : BoxIs ((((wq1.setCell ⟨w.heap.size, 0, none⟩ (.slice a1 l.length c1)).setCell ⟨w.heap.size, 1, none⟩ (.int .i64 nx)).setCell ⟨w.heap.size, 2, none⟩ (.int .i64 sq)).setCell ⟨w.heap.size, 3, none⟩ (.int .i64 lg)) w.heap.size #[.slice a1 l.length c1, .int .i64 nx, .int .i64 sq, .int .i64 lg] 32 := RR_2s3
  have QQ_2 := QQ_2s3
  have BE_2 := BE_2s3
  have OA_2 := OA_2s3
  have OD_2 := OD_2s3
  have OC_2 := OC_2s3
  refine hK.out _ _ BE_2 (fun hSz => ?_)
  clear hK K hSz BE_1 LO_1 OA_1 OC_1 OD_1 QQ_1 RD_1 RR_1 LO_2s0 LO_2s1 LO_2s2 LO_2s3 RR_2s0 RR_2s1 RR_2s2 RR_2s3 QQ_2s0 QQ_2s1 QQ_2s2 QQ_2s3 BE_2s0 BE_2s1 BE_2s2 BE_2s3 OA_2s0 OA_2s1 OA_2s2 OA_2s3 OD_2s0 OD_2s1 OD_2s2 OD_2s3 OC_2s0 OC_2s1 OC_2s2 OC_2s3
  generalize (((wq1.setCell ⟨w.heap.size, 0, none⟩ (.slice a1 l.length c1)).setCell ⟨w.heap.size, 1, none⟩ (.int .i64 nx)).setCell ⟨w.heap.size, 2, none⟩ (.int .i64 sq)).setCell ⟨w.heap.size, 3, none⟩ (.int .i64 lg) = wq2 at LO_2 RR_2 QQ_2 BE_2 OA_2 OD_2 OC_2 ⊢
  refine wpAnyH_ready (rs := [5]) (by kernel_rfl) (by simp) ?_
  refine AllReadyH.cons nat5 (fun K hK => ?_) AllReadyH.nil
  have y0 := QQ_2.cell 0
  have y1 := QQ_2.cell 1
  have y2 := QQ_2.cell 2
  have y3 := QQ_2.cell 3
  have y4 := QQ_2.cell 4
  simp only [List.getElem?_toArray, List.getElem?_cons_succ, List.getElem?_cons_zero] at y0 y1 y2 y3 y4
  have yf := QQ_2.free
  go_simp
  clear yf y0 y1 y2 y3 y4
  have LO_3s0 := LO_2.setCell (p := ⟨Q, 0, none⟩) (by show w.heap.size ≤ Q; omega) (.slice aa1 adds1.length ap1)
  have RR_3s0 := RR_2.set_other (p := ⟨Q, 0, none⟩) (by show Q ≠ _; omega) (.slice aa1 adds1.length ap1)
  have QQ_3s0 := QQ_2.set 0 (.slice aa1 adds1.length ap1)
  have BE_3s0 := BE_2.set_other (p := ⟨Q, 0, none⟩) (by show Q ≠ _; omega) (.slice aa1 adds1.length ap1)
  have OA_3s0 := (show OwnMeta _ _ _ _ from rg_set (o := 0) OA_2 QQ_2 (by decide) (.slice aa1 adds1.length ap1))
  have OD_3s0 := (show OwnMeta _ _ _ _ from rg_set (o := 0) OD_2 QQ_2 (by decide) (.slice aa1 adds1.length ap1))
  have OC_3s0 := (show OwnI _ _ _ _ from rg_set (o := 0) OC_2 QQ_2 (by decide) (.slice aa1 adds1.length ap1))
  have LO_3s1 := LO_3s0.setCell (p := ⟨Q, 1, none⟩) (by show w.heap.size ≤ Q; omega) (.slice ca1 cuts1.length cp1)
  have RR_3s1 := RR_3s0.set_other (p := ⟨Q, 1, none⟩) (by show Q ≠ _; omega) (.slice ca1 cuts1.length cp1)
  have QQ_3s1 := QQ_3s0.set 1 (.slice ca1 cuts1.length cp1)
  have BE_3s1 := BE_3s0.set_other (p := ⟨Q, 1, none⟩) (by show Q ≠ _; omega) (.slice ca1 cuts1.length cp1)
  have OA_3s1 := (show OwnMeta _ _ _ _ from rg_set (o := 1) OA_3s0 QQ_3s0 (by decide) (.slice ca1 cuts1.length cp1))
  have OD_3s1 := (show OwnMeta _ _ _ _ from rg_set (o := 1) OD_3s0 QQ_3s0 (by decide) (.slice ca1 cuts1.length cp1))
  have OC_3s1 := (show OwnI _ _ _ _ from rg_set (o := 1) OC_3s0 QQ_3s0 (by decide) (.slice ca1 cuts1.length cp1))
  have LO_3s2 := LO_3s1.setCell (p := ⟨Q, 2, none⟩) (by show w.heap.size ≤ Q; omega) (.int .i64 n1)
  have RR_3s2 := RR_3s1.set_other (p := ⟨Q, 2, none⟩) (by show Q ≠ _; omega) (.int .i64 n1)
  have QQ_3s2 := QQ_3s1.set 2 (.int .i64 n1)
  have BE_3s2 := BE_3s1.set_other (p := ⟨Q, 2, none⟩) (by show Q ≠ _; omega) (.int .i64 n1)
  have OA_3s2 := (show OwnMeta _ _ _ _ from rg_set (o := 2) OA_3s1 QQ_3s1 (by decide) (.int .i64 n1))
  have OD_3s2 := (show OwnMeta _ _ _ _ from rg_set (o := 2) OD_3s1 QQ_3s1 (by decide) (.int .i64 n1))
  have OC_3s2 := (show OwnI _ _ _ _ from rg_set (o := 2) OC_3s1 QQ_3s1 (by decide) (.int .i64 n1))
  have LO_3s3 := LO_3s2.setCell (p := ⟨Q, 3, none⟩) (by show w.heap.size ≤ Q; omega) (.int .i64 s1)
  have RR_3s3 := RR_3s2.set_other (p := ⟨Q, 3, none⟩) (by show Q ≠ _; omega) (.int .i64 s1)
  have QQ_3s3 := QQ_3s2.set 3 (.int .i64 s1)
  have BE_3s3 := BE_3s2.set_other (p := ⟨Q, 3, none⟩) (by show Q ≠ _; omega) (.int .i64 s1)
  have OA_3s3 := (show OwnMeta _ _ _ _ from rg_set (o := 3) OA_3s2 QQ_3s2 (by decide) (.int .i64 s1))
  have OD_3s3 := (show OwnMeta _ _ _ _ from rg_set (o := 3) OD_3s2 QQ_3s2 (by decide) (.int .i64 s1))
  have OC_3s3 := (show OwnI _ _ _ _ from rg_set (o := 3) OC_3s2 QQ_3s2 (by decide) (.int .i64 s1))
  have LO_3s4 := LO_3s3.setCell (p := ⟨Q, 4, none⟩) (by show w.heap.size ≤ Q; omega) (.int .i64 lo1)
  have RR_3s4 := RR_3s3.set_other (p := ⟨Q, 4, none⟩) (by show Q ≠ _; omega) (.int .i64 lo1)
  have QQ_3s4 := QQ_3s3.set 4 (.int .i64 lo1)
  have BE_3s4 := BE_3s3.set_other (p := ⟨Q, 4, none⟩) (by show Q ≠ _; omega) (.int .i64 lo1)
  have OA_3s4 := (show OwnMeta _ _ _ _ from rg_set (o := 4) OA_3s3 QQ_3s3 (by decide) (.int .i64 lo1))
  have OD_3s4 := (show OwnMeta _ _ _ _ from rg_set (o := 4) OD_3s3 QQ_3s3 (by decide) (.int .i64 lo1))
  have OC_3s4 := (show OwnI _ _ _ _ from rg_set (o := 4) OC_3s3 QQ_3s3 (by decide) (.int .i64 lo1))
  have LO_3 := LO_3s4
  have RR_3 := RR_3s4
  have QQ_3 : BoxIs (((((wq2.setCell ⟨Q, 0, none⟩ (.slice aa1 adds1.length ap1)).setCell ⟨Q, 1, none⟩ (.slice ca1 cuts1.length cp1)).setCell ⟨Q, 2, none⟩ (.int .i64 n1)).setCell ⟨Q, 3, none⟩ (.int .i64 s1)).setCell ⟨Q, 4, none⟩ (.int .i64 lo1)) Q #[.slice aa1 adds1.length ap1, .slice ca1 cuts1.length cp1, .int .i64 n1, .int .i64 s1, .int .i64 lo1] 37 := QQ_3s4
  have BE_3 := BE_3s4
  have OA_3 := OA_3s4
  have OD_3 := OD_3s4
  have OC_3 := OC_3s4
  refine hK.out _ _ BE_3 (fun hSz => ?_)
  clear hK K hSz BE_2 LO_2 OA_2 OC_2 OD_2 QQ_2 RR_2 LO_3s0 LO_3s1 LO_3s2 LO_3s3 LO_3s4 RR_3s0 RR_3s1 RR_3s2 RR_3s3 RR_3s4 QQ_3s0 QQ_3s1 QQ_3s2 QQ_3s3 QQ_3s4 BE_3s0 BE_3s1 BE_3s2 BE_3s3 BE_3s4 OA_3s0 OA_3s1 OA_3s2 OA_3s3 OA_3s4 OD_3s0 OD_3s1 OD_3s2 OD_3s3 OD_3s4 OC_3s0 OC_3s1 OC_3s2 OC_3s3 OC_3s4
  generalize ((((wq2.setCell ⟨Q, 0, none⟩ (.slice aa1 adds1.length ap1)).setCell ⟨Q, 1, none⟩ (.slice ca1 cuts1.length cp1)).setCell ⟨Q, 2, none⟩ (.int .i64 n1)).setCell ⟨Q, 3, none⟩ (.int .i64 s1)).setCell ⟨Q, 4, none⟩ (.int .i64 lo1) = wq3 at LO_3 RR_3 QQ_3 BE_3 OA_3 OD_3 OC_3 ⊢
  refine wpAnyH_done (by kernel_rfl) ?_ _
  refine NoPanic.normal ?_
  have z0 := RR_3.cell 0
  have z1 := RR_3.cell 1
  have z2 := RR_3.cell 2
  have z3 := RR_3.cell 3
  have y0 := QQ_3.cell 0
  have y1 := QQ_3.cell 1
  have y2 := QQ_3.cell 2
  have y3 := QQ_3.cell 3
  have y4 := QQ_3.cell 4
  simp only [List.getElem?_toArray, List.getElem?_cons_succ, List.getElem?_cons_zero] at z0 z1 z2 z3 y0 y1 y2 y3 y4
  go_wp2
  exact bodyPost_ret (v := .tuple #[.agg #[.slice a1 l.length c1, .int .i64 nx, .int .i64 sq, .int .i64 lg], .agg #[.slice aa1 adds1.length ap1, .slice ca1 cuts1.length cp1, .int .i64 n1, .int .i64 s1, .int .i64 lo1]]) (by simp [results, Try.results25, go_sem, z0, z1, z2, z3, y0, y1, y2, y3, y4]) rfl ⟨_, _, l, nx, sq, lg, _, adds1, _, cuts1, _, _, _, rfl, OA_3.base (by omega), OD_3, OC_3, hll, ha1, hu1, LO_3⟩

end Go.Proofs.Ytplbhgcibfajaaa

/- The law FnApplied, walked. -/
namespace Go.Proofs.Ytplbhgcibfajaaa
set_option maxRecDepth 100000
open Go.RowKit Go.Deep

theorem laws_sameMetasA (a b : Option Addr) (len ca cb : Nat) (O : Metas) (w : World) (hl : len ≤ 1048576) (ha : MetaAt w w.heap.size a len O) (hb : MetaAt w w.heap.size b len O) :
    Calls Try.prog 26 #[.slice a len ca, .slice b len cb] w fun e w' => e = .returned (.bool true) ∧ Below w.heap.size w w' := by
  have HA := hide ha
  have HB := hide hb
  have HW0 := hide (Below.refl w.heap.size w)
  clear ha hb
  go_enter Try.func26, Try.ntmps26
  go_wp2
  go_loopw [5] (fun i wr => ∃ k : Nat, i = .int .i64 k ∧ k ≤ len ∧ Hid (Below w.heap.size w wr)) (fun i _ => len - (intOf i).toNat)
  case atStart => exact ⟨0, rfl, by omega, HW0⟩
  case round =>
    obtain ⟨k, rfl, hk, HW⟩ := hrel
    by_cases hlt : k < len
    · obtain ⟨g1, o1, rfl, _, c0, c1, c2, c3, c4⟩ := (HA.out.below HW.out).at hlt
      obtain ⟨g2, o2, rfl, _, d0, d1, d2, d3, d4⟩ := (HB.out.below HW.out).at hlt
      have hki : (k : Int) < (len : Int) := by omega
      go_wp2
      go_quiet (fail)
      go_wp2
      exact ⟨⟨k + 1, by go_num, by omega, below_drewN HW.out _⟩, by simp [intOf]; omega⟩
    · obtain rfl : k = len := by omega
      go_wp2
      go_ret
      exact ⟨rfl, HW.out⟩

theorem versionIs_ownA {w : World} {B : Nat} {a : Option Addr} {c : Nat} {l : List Meta1} {nx sq lg : Int} (h : OwnMeta w B (.slice a l.length c) l) : VersionIs w (.agg #[.slice a l.length c, .int .i64 nx, .int .i64 sq, .int .i64 lg]) (vc l nx sq lg) := by
  obtain ⟨a0, p0, hva, hM⟩ := h.arg
  simp only [Value.slice.injEq, true_and] at hva
  obtain ⟨rfl, rfl⟩ := hva
  exact ⟨a, c, rfl, hM⟩
/-- Two files held against each other. -/
theorem eql_metas (O Q : Metas) (i j : Nat) : ∃ q : Bool, (∀ x : World, (Op.equalIn 10000 59 (.agg #[.int .i64 (O.N i), .int .i64 (O.L i), .string (O.F i), .string (O.Z i), .int .i64 (O.C i)]) (.agg #[.int .i64 (Q.N j), .int .i64 (Q.L j), .string (Q.F j), .string (Q.Z j), .int .i64 (Q.C j)])).run Try.prog x = .ok q x) ∧ (∀ x : World, (binOp .eql 59 (.agg #[.int .i64 (O.N i), .int .i64 (O.L i), .string (O.F i), .string (O.Z i), .int .i64 (O.C i)]) (.agg #[.int .i64 (Q.N j), .int .i64 (Q.L j), .string (Q.F j), .string (Q.Z j), .int .i64 (Q.C j)])).run Try.prog x = .ok (.bool q) x) ∧ (q = false → metaAt1 O i ≠ metaAt1 Q j) := by
  have hS : Try.prog.underlying 59 = some (.struct (Try.prog.fieldsOf 59)) := by kernel_rfl
  have hp : Try.prog.stoodInHeld 59 = false := by kernel_rfl
  have h1 : ∀ x : World, (Op.equalIn 10000 59 (.agg #[.int .i64 (O.N i), .int .i64 (O.L i), .string (O.F i), .string (O.Z i), .int .i64 (O.C i)]) (.agg #[.int .i64 (Q.N j), .int .i64 (Q.L j), .string (Q.F j), .string (Q.Z j), .int .i64 (Q.C j)])).run Try.prog x = .ok (decide (O.N i = Q.N j) && decide (O.L i = Q.L j) && decide ((O.F i).toList = (Q.F j).toList) && decide ((O.Z i).toList = (Q.Z j).toList) && decide (O.C i = Q.C j)) x := fun x => by
    rw [show (10000 : Nat) = 9999 + 1 from rfl, run_equalIn_agg x 9999 59 _ _ hS hp]
    simp only [Program.fieldsOf, Try.underlying59]
    go_simp
    by_cases a1 : O.N i = Q.N j <;> by_cases a2 : O.L i = Q.L j <;> by_cases a3 : (O.F i).toList = (Q.F j).toList <;> by_cases a4 : (O.Z i).toList = (Q.Z j).toList <;> by_cases a5 : O.C i = Q.C j <;> simp [a1, a2, a3, a4, a5]
  refine ⟨_, h1, fun x => ?_, fun h e => ?_⟩
  · rw [run_eql_struct, h1 x]
    rfl
  · simp only [metaAt1, Meta1.mk.injEq] at e
    obtain ⟨e1, e2, e3, e4, e5⟩ := e
    simp [e1, e2, e3, e4, e5] at h

theorem not_grow {O : Metas} {m : Meta1} {j : Nat} {q : Bool} (h : ∀ z, z < j → metaAt1 O z ≠ m) (k : q = false → metaAt1 O j ≠ m) : q = false → ∀ z, z < j + 1 → metaAt1 O z ≠ m := fun e z hz => by
  rcases Nat.lt_or_eq_of_le (Nat.lt_succ_iff.1 hz) with h1 | rfl
  · exact h z h1
  · exact k e
theorem found_not {l adds Ls : List Meta1} (h : ∀ x ∈ Ls, x ∈ l ∨ x ∈ adds) {i : Nat} (hi : i < Ls.length) (n1 : ∀ z, z < l.length → metaAt1 (fnMeta l) z ≠ metaAt1 (fnMeta Ls) i) (n2 : ∀ z, z < adds.length → metaAt1 (fnMeta adds) z ≠ metaAt1 (fnMeta Ls) i) : False := by
  rw [fnMeta_at _ _ hi] at n1 n2
  rcases h _ (List.getElem_mem hi) with h | h
  · obtain ⟨z, hz, e⟩ := List.getElem_of_mem h
    exact n1 z hz (by rw [fnMeta_at _ _ hz]; exact e)
  · obtain ⟨z, hz, e⟩ := List.getElem_of_mem h
    exact n2 z hz (by rw [fnMeta_at _ _ hz]; exact e)

theorem editSrc_own {w : World} {B B2 : Nat} {b1 b2 : Option Addr} {p1 p2 : Nat} {adds : List Meta1} {cuts : List Int} {n s lo : Int} (h : OwnMeta w B (.slice b1 adds.length p1) adds) (k : OwnI w B2 (.slice b2 cuts.length p2) cuts) : EditSrc w (.agg #[.slice b1 adds.length p1, .slice b2 cuts.length p2, .int .i64 n, .int .i64 s, .int .i64 lo]) (ecd adds cuts n s lo) := by
  obtain ⟨a0, p0, hva, hM⟩ := h.arg
  simp only [Value.slice.injEq, true_and] at hva
  obtain ⟨rfl, rfl⟩ := hva
  obtain ⟨a2, q2, hv2, hI⟩ := k.at
  simp only [Value.slice.injEq, true_and] at hv2
  obtain ⟨rfl, rfl⟩ := hv2
  have hcl : cutsL (ecd adds cuts n s lo) = cuts := by
    apply List.ext_getElem
    · simp [cutsL, ecd]
    · intro i h1 h2
      simp [cutsL, ecd, h2]
  exact ⟨_, _, _, _, rfl, hM, hI, by rw [hcl]; exact k.src⟩

set_option linter.unusedSimpArgs false in
set_option maxHeartbeats 8000000 in
theorem walk_FnApplied (v : Value) {w : World} (hv : IsBytes w v) (_w : World) :
    Calls Try.prog 5 #[v] w fun e w' => e = .returned (.bool true) ∧ Below w.heap.size w w' := by
  obtain ⟨a, len, cap, rfl, hc, hm⟩ := hv
  by_cases hbig : 1048576 < len
  · have hd : decide (1048576 < len) = true := by simp [hbig]
    go_enter Try.func5, Try.ntmps5
    go_wp2_with fail
    refine (laws_bigO a len cap hm _).mono ?_
    rintro e w1 ⟨rfl, rfl⟩
    go_wp2
    go_ret
    exact ⟨rfl, Below.refl _ _⟩
  · have hd : decide (1048576 < len) = false := by simp [hbig]
    have hl : len ≤ 1048576 := by omega
    go_enter Try.func5, Try.ntmps5
    go_wp2_with fail
    refine (laws_bigO a len cap hm _).mono ?_
    rintro e w1 ⟨rfl, rfl⟩
    go_wp2_with fail
    refine (draw_Apply w _ a len cap hc hl (Below.refl _ _)).mono ?_
    rintro e w1 ⟨a1, c1, l, nx, sq, lg, aa, adds, ca, cuts, n, s, lo, rfl, ho, hoa, hoc, hll, hal, hcl, hb1⟩
    obtain ⟨b1, p1, rfl⟩ := hoa.shape
    obtain ⟨b2, p2, rfl, _⟩ := hoc.at
    clear hd
    go_wp2_with fail
    have hbb : Below w1.heap.size w1 ((w1.alloc (.cells #[.slice a1 l.length c1, .int .i64 nx, .int .i64 sq, .int .i64 lg] 32)).alloc (.cells #[.slice b1 adds.length p1, .slice b2 cuts.length p2, .int .i64 n, .int .i64 s, .int .i64 lo] 37)) := ((Below.refl _ _).alloc (Nat.le_refl _) _).alloc (by simp) _
    have HB := hide (hb1.trans (hbb.mono hb1.size))
    have G1 := (((BoxIs.new w1 #[.slice a1 l.length c1, .int .i64 nx, .int .i64 sq, .int .i64 lg] 32 rfl).next (below_one _ (.cells #[.slice b1 adds.length p1, .slice b2 cuts.length p2, .int .i64 n, .int .i64 s, .int .i64 lo] 37)))).hid
    have G2 := (BoxIs.new (w1.alloc (.cells #[.slice a1 l.length c1, .int .i64 nx, .int .i64 sq, .int .i64 lg] 32)) #[.slice b1 adds.length p1, .slice b2 cuts.length p2, .int .i64 n, .int .i64 s, .int .i64 lo] 37 (g := w1.heap.size + 1) (by simp)).hid
    have OV := (ho.next hbb).hid
    have OE := (hoa.next hbb).hid
    have OC := (hoc.next hbb).hid
    clear ho hoa hoc hb1 hbb
    generalize (w1.alloc (.cells #[.slice a1 l.length c1, .int .i64 nx, .int .i64 sq, .int .i64 lg] 32)).alloc (.cells #[.slice b1 adds.length p1, .slice b2 cuts.length p2, .int .i64 n, .int .i64 s, .int .i64 lo] 37) = W1 at HB G1 G2 OV OE OC ⊢
    obtain ⟨E1, hE1⟩ : ∃ E, w1.heap.size = E := ⟨_, rfl⟩
    rw [hE1] at G1 G2 ⊢
    obtain ⟨E2, hE2⟩ : ∃ E, E1 + 1 = E := ⟨_, rfl⟩
    rw [hE2] at G2 ⊢
    clear hE1
    have hVI := versionIs_ownA (nx := nx) (sq := sq) (lg := lg) OV.out
    have hEI := editSrc_own (n := n) (s := s) (lo := lo) OE.out OC.out
    obtain ⟨u1, v1, hu1, hMV⟩ := OV.out.arg
    simp only [Value.slice.injEq, true_and] at hu1
    obtain ⟨rfl, rfl⟩ := hu1
    obtain ⟨u2, v2, hu2, hMA⟩ := OE.out.arg
    simp only [Value.slice.injEq, true_and] at hu2
    obtain ⟨rfl, rfl⟩ := hu2
    have HV := hide hVI
    have HE := hide hEI
    have MV := hide hMV
    have MA := hide hMA
    have hfc : (vc l nx sq lg).Fit := by show l.length ≤ 1048576; omega
    have hfd : (ecd adds cuts n s lo).Fit := ⟨by show adds.length ≤ 1048576; omega, by show cuts.length ≤ 1048576; omega⟩
    clear hVI hEI hMV hMA OV OE OC
    have cI := impl_ApplyO _ _ (vc l nx sq lg) (ecd adds cuts n s lo) W1 hfc hfd HV.out HE.out
    have cS := fun x hv he => spec_ApplyO (.agg #[.slice a1 l.length c1, .int .i64 nx, .int .i64 sq, .int .i64 lg]) (.agg #[.slice b1 adds.length p1, .slice b2 cuts.length p2, .int .i64 n, .int .i64 s, .int .i64 lo]) (vc l nx sq lg) (ecd adds cuts n s lo) x hfc hfd hv he
    have HL := hide (@applied_law l adds cuts nx sq lg n s lo)
    have hyes : apB (vc l nx sq lg) (ecd adds cuts n s lo) = true → apC (vc l nx sq lg) (ecd adds cuts n s lo) = vc (apL (vc l nx sq lg) (ecd adds cuts n s lo)) n s lo := apC_yes
    have HY := hide hyes
    have hRf := apC_fit (vc l nx sq lg) (ecd adds cuts n s lo)
    obtain ⟨R, hR⟩ : ∃ R, apC (vc l nx sq lg) (ecd adds cuts n s lo) = R := ⟨_, rfl⟩
    obtain ⟨b, hbq⟩ : ∃ b, apB (vc l nx sq lg) (ecd adds cuts n s lo) = b := ⟨_, rfl⟩
    have hno : b = false → R.n0 = 0 := fun e => by rw [← hR, apC_no (hbq.trans e)]; rfl
    have HN := hide hno
    rw [hR] at cI hRf
    simp only [hR] at cS
    rw [hbq] at cI
    simp only [hbq] at cS
    rw [hR, hbq] at HY
    rw [hbq] at HL
    have hRn : R.n0 ≤ 1048576 := hRf
    obtain ⟨Ls, hLs⟩ : ∃ Ls, apL (vc l nx sq lg) (ecd adds cuts n s lo) = Ls := ⟨_, rfl⟩
    rw [hLs] at HL HY
    have hver : apV (vc l nx sq lg) (ecd adds cuts n s lo) = vc Ls n s lo := by rw [← hLs]; rfl
    rw [hver] at HL
    clear hR hbq hRf hfc hfd hyes hno hLs hver
    refine cI.mono ?_
    rintro e w2 ⟨⟨u, rfl, ga, gp, rfl, hM⟩, hb2⟩
    clear cI
    have hb3 := below_one w2 (.cells #[.slice ga R.n0 gp, .int .i64 R.x1, .int .i64 R.x2, .int .i64 R.x3] 32)
    have MG : Hid (MetaAt (w2.alloc (.cells #[.slice ga R.n0 gp, .int .i64 R.x1, .int .i64 R.x2, .int .i64 R.x3] 32)) (w2.alloc (.cells #[.slice ga R.n0 gp, .int .i64 R.x1, .int .i64 R.x2, .int .i64 R.x3] 32)).heap.size ga R.n0 R.r0) := (metaAt_mine hM).next hb3
    have G3 := (BoxIs.new w2 #[.slice ga R.n0 gp, .int .i64 R.x1, .int .i64 R.x2, .int .i64 R.x3] 32 rfl).hid
    have hB3 : Below W1.heap.size W1 (w2.alloc (.cells #[.slice ga R.n0 gp, .int .i64 R.x1, .int .i64 R.x2, .int .i64 R.x3] 32)) := hb2.trans (hb3.mono hb2.size)
    have HB3 := hide (HB.out.trans (hB3.mono HB.out.size))
    have G13 := (G1.out.next hB3).hid
    have G23 := (G2.out.next hB3).hid
    have HV3 := hide (HV.out.next hB3)
    have HE3 := hide (HE.out.next hB3).is
    have MV3 := hide (MV.out.next hB3)
    have MA3 := hide (MA.out.next hB3)
    have hlt1 := (G1.out.next hb2).lt
    have hlt2 := (G2.out.next hb2).lt
    have k0 := G13.out.cell 0
    have k1 := G13.out.cell 1
    have k2 := G13.out.cell 2
    have k3 := G13.out.cell 3
    have m0 := G23.out.cell 0
    have m1 := G23.out.cell 1
    have m2 := G23.out.cell 2
    have m3 := G23.out.cell 3
    have m4 := G23.out.cell 4
    simp only [List.getElem?_toArray, List.getElem?_cons_succ, List.getElem?_cons_zero] at k0 k1 k2 k3 m0 m1 m2 m3 m4
    clear hM hb2 hb3 hB3 HB G1 G2 HV HE MV MA
    go_wp2_with fail
    clear k0 k1 k2 k3 m0 m1 m2 m3 m4
    have cT := cS _ HV3.out HE3.out
    clear cS HV3 HE3
    generalize w2.alloc (.cells #[.slice ga R.n0 gp, .int .i64 R.x1, .int .i64 R.x2, .int .i64 R.x3] 32) = W2 at MG G3 HB3 G13 G23 MV3 MA3 cT ⊢
    generalize w2.heap.size = E3 at G3 hlt1 hlt2 ⊢
    refine cT.mono ?_
    rintro e w3 ⟨⟨u, rfl, ta, tp, rfl, hM⟩, hb2⟩
    clear cT
    have hb3 := below_one w3 (.cells #[.slice ta R.n0 tp, .int .i64 R.x1, .int .i64 R.x2, .int .i64 R.x3] 32)
    have MT : Hid (MetaAt (w3.alloc (.cells #[.slice ta R.n0 tp, .int .i64 R.x1, .int .i64 R.x2, .int .i64 R.x3] 32)) (w3.alloc (.cells #[.slice ta R.n0 tp, .int .i64 R.x1, .int .i64 R.x2, .int .i64 R.x3] 32)).heap.size ta R.n0 R.r0) := (metaAt_mine hM).next hb3
    have G4 := (BoxIs.new w3 #[.slice ta R.n0 tp, .int .i64 R.x1, .int .i64 R.x2, .int .i64 R.x3] 32 rfl).hid
    have hB3 : Below W2.heap.size W2 (w3.alloc (.cells #[.slice ta R.n0 tp, .int .i64 R.x1, .int .i64 R.x2, .int .i64 R.x3] 32)) := hb2.trans (hb3.mono hb2.size)
    have HB := hide (HB3.out.trans (hB3.mono HB3.out.size))
    have G1 := (G13.out.next hB3).hid
    have G2 := (G23.out.next hB3).hid
    have MV := hide (MV3.out.next hB3)
    have MA := hide (MA3.out.next hB3)
    have MG2 := hide (MG.out.next hB3)
    have hlt3 := (G3.out.next hb2).lt
    have G32 := (G3.out.next hB3).hid
    clear hM hb2 hb3 hB3 HB3 G13 G23 MV3 MA3 MG G3
    have y0 := G32.out.cell 0
    have y1 := G32.out.cell 1
    have y2 := G32.out.cell 2
    have y3 := G32.out.cell 3
    simp only [List.getElem?_toArray, List.getElem?_cons_succ, List.getElem?_cons_zero] at y0 y1 y2 y3
    have hsame := fun x hb => laws_sameMetasA ga ta R.n0 gp tp R.r0 x hRn (MG2.out.next hb) (MT.out.next hb)
    go_wp2_with fail
    clear y0 y1 y2 y3
    generalize w3.alloc (.cells #[.slice ta R.n0 tp, .int .i64 R.x1, .int .i64 R.x2, .int .i64 R.x3] 32) = W3 at MT G4 HB G1 G2 MV MA MG2 G32 hsame ⊢
    generalize w3.heap.size = E4 at G4 hlt3 ⊢
    refine (hsame _ (Below.refl _ _)).mono ?_
    rintro e w4 ⟨rfl, hb4⟩
    have HW4 := hide hb4
    clear hb4
    cases b with
    | false =>
      have y0 := (G32.out.next HW4.out).cell 0
      have z0 := (G4.out.next HW4.out).cell 0
      simp only [List.getElem?_toArray, List.getElem?_cons_succ, List.getElem?_cons_zero] at y0 z0
      go_wp2_with fail
      refine (hsame _ HW4.out).mono ?_
      rintro e w5 ⟨rfl, hb5⟩
      have HW5 := hide (HB.out.trans ((HW4.out.trans (hb5.mono HW4.out.size)).mono HB.out.size))
      clear hb5
      go_wp2
      go_ret
      exact ⟨rfl, HW5.out⟩
    | true =>
      obtain rfl : R = vc Ls n s lo := HY.out rfl
      have e0 : (vc Ls n s lo).n0 = Ls.length := rfl
      have e1 : (vc Ls n s lo).x1 = n := rfl
      have e2 : (vc Ls n s lo).x2 = s := rfl
      have e3 : (vc Ls n s lo).x3 = lo := rfl
      have er : (vc Ls n s lo).r0 = fnMeta Ls := rfl
      have HL1 := hide (HL.out rfl)
      clear hsame HN HY HL MT G4
      simp only [e0, e1, e2, e3, er] at MG2 G32 hRn ⊢
      clear e0 e1 e2 e3 er
      go_wp2
      go_loopg [9] Ls.length (fun k v9 wr => ∃ i : Nat, v9 = .int .i64 (i : Int) ∧ i + k = Ls.length ∧ Hid (Below W3.heap.size W3 wr))
      case atStart => exact ⟨0, rfl, by omega, HW4⟩
      case round =>
        obtain ⟨i, rfl, hik, HW⟩ := hrel
        clear HW4
        by_cases hlt : i < Ls.length
        · obtain ⟨g1, o1, rfl, _, c0, c1, c2, c3, c4⟩ := (MG2.out.next HW.out).at hlt
          have hki : (i : Int) < (Ls.length : Int) := by omega
          have hwi : IntKind.i64.wrap ((i : Int) + 1) = ((i + 1 : Nat) : Int) := by rw [IntKind.wrap_i64]; omega
          have y0 := (G32.out.next HW.out).cell 0
          simp only [List.getElem?_toArray, List.getElem?_cons_succ, List.getElem?_cons_zero] at y0
          go_wp2
          clear y0 c0 c1 c2 c3 c4
          go_loopg [10, 11] l.length (fun k t10 t11 wr => ∃ (b : Bool) (j : Nat), t10 = .bool b ∧ t11 = .int .i64 (j : Int) ∧ j + k = l.length ∧ Hid (b = false → ∀ z, z < j → metaAt1 (fnMeta l) z ≠ metaAt1 (fnMeta Ls) i) ∧ Hid (Below W3.heap.size W3 wr))
          case atStart => exact ⟨false, 0, rfl, rfl, by omega, hide (fun _ z hz => by omega), HW⟩
          case round =>
            obtain ⟨b, j, rfl, rfl, hjk, HF, HX⟩ := hrel
            by_cases hj : j < l.length
            · have hkj : (j : Int) < (l.length : Int) := by omega
              have hwj : IntKind.i64.wrap ((j : Int) + 1) = ((j + 1 : Nat) : Int) := by rw [IntKind.wrap_i64]; omega
              obtain ⟨g2, o2, rfl, _, d0, d1, d2, d3, d4⟩ := (MV.out.next HX.out).at hj
              obtain ⟨g1', o1', hq, _, c0, c1, c2, c3, c4⟩ := (MG2.out.next HX.out).at hlt
              simp only [Option.some.injEq, Addr.mk.injEq, and_true] at hq
              obtain ⟨rfl, rfl⟩ := hq
              have x0 := (G1.out.next HX.out).cell 0
              have y0 := (G32.out.next HX.out).cell 0
              simp only [List.getElem?_toArray, List.getElem?_cons_succ, List.getElem?_cons_zero] at x0 y0
              cases b with
              | true =>
                go_wp2
                go_quiet (fail)
                go_wp2
                go_roundg (l.length - (j + 1))
                case measure => omega
                case rel => exact ⟨true, j + 1, rfl, by go_num, by omega, hide (fun h => by cases h), below_drewN HX.out _⟩
              | false =>
                have HG := hide (HF.out rfl)
                obtain ⟨q, hq1, hq2, hq3⟩ := eql_metas (fnMeta l) (fnMeta Ls) j i
                go_wp2
                go_quiet (fail)
                clear hq1 hq2
                have HF2 := hide (not_grow HG.out hq3)
                clear hq3
                go_wp2
                go_roundg (l.length - (j + 1))
                case measure => omega
                case rel => exact ⟨q, j + 1, rfl, by go_num, by omega, HF2, below_drewN HX.out _⟩
            · obtain rfl : j = l.length := by omega
              have x0 := (G1.out.next HX.out).cell 0
              simp only [List.getElem?_toArray, List.getElem?_cons_succ, List.getElem?_cons_zero] at x0
              go_wp2
              clear x0
              go_loopg [10, 12] adds.length (fun k t10 t12 wr => ∃ (b : Bool) (j : Nat), t10 = .bool b ∧ t12 = .int .i64 (j : Int) ∧ j + k = adds.length ∧ Hid (b = false → (∀ z, z < l.length → metaAt1 (fnMeta l) z ≠ metaAt1 (fnMeta Ls) i) ∧ ∀ z, z < j → metaAt1 (fnMeta adds) z ≠ metaAt1 (fnMeta Ls) i) ∧ Hid (Below W3.heap.size W3 wr))
              case atStart => exact ⟨b, 0, rfl, rfl, by omega, hide (fun h => ⟨HF.out h, fun z hz => by omega⟩), HX⟩
              case round =>
                obtain ⟨b, j, rfl, rfl, hjk, HF, HX⟩ := hrel
                by_cases hj : j < adds.length
                · have hkj : (j : Int) < (adds.length : Int) := by omega
                  have hwj : IntKind.i64.wrap ((j : Int) + 1) = ((j + 1 : Nat) : Int) := by rw [IntKind.wrap_i64]; omega
                  obtain ⟨g2, o2, rfl, _, d0, d1, d2, d3, d4⟩ := (MA.out.next HX.out).at hj
                  obtain ⟨g1', o1', hq, _, c0, c1, c2, c3, c4⟩ := (MG2.out.next HX.out).at hlt
                  simp only [Option.some.injEq, Addr.mk.injEq, and_true] at hq
                  obtain ⟨rfl, rfl⟩ := hq
                  have x0 := (G2.out.next HX.out).cell 0
                  have y0 := (G32.out.next HX.out).cell 0
                  simp only [List.getElem?_toArray, List.getElem?_cons_succ, List.getElem?_cons_zero] at x0 y0
                  cases b with
                  | true =>
                    go_wp2
                    go_quiet (fail)
                    go_wp2
                    go_roundg (adds.length - (j + 1))
                    case measure => omega
                    case rel => exact ⟨true, j + 1, rfl, by go_num, by omega, hide (fun h => by cases h), below_drewN HX.out _⟩
                  | false =>
                    have HG := hide (HF.out rfl)
                    obtain ⟨q, hq1, hq2, hq3⟩ := eql_metas (fnMeta adds) (fnMeta Ls) j i
                    go_wp2
                    go_quiet (fail)
                    clear hq1 hq2
                    have HF2 := hide (not_grow HG.out.2 hq3)
                    have HF1 := hide HG.out.1
                    clear hq3
                    go_wp2
                    go_roundg (adds.length - (j + 1))
                    case measure => omega
                    case rel => exact ⟨q, j + 1, rfl, by go_num, by omega, hide (fun h => ⟨HF1.out, HF2.out h⟩), below_drewN HX.out _⟩
                · obtain rfl : j = adds.length := by omega
                  have x0 := (G2.out.next HX.out).cell 0
                  simp only [List.getElem?_toArray, List.getElem?_cons_succ, List.getElem?_cons_zero] at x0
                  cases b with
                  | true =>
                    go_wp2
                    go_roundg (Ls.length - (i + 1))
                    case measure => omega
                    case rel => exact ⟨i + 1, by go_num, by omega, HX⟩
                  | false => exact (found_not HL1.out.1 hlt (HF.out rfl).1 (HF.out rfl).2).elim
        · obtain rfl : i = Ls.length := by omega
          have y0 := (G32.out.next HW.out).cell 0
          simp only [List.getElem?_toArray, List.getElem?_cons_succ, List.getElem?_cons_zero] at y0
          go_wp2
          clear y0
          go_loopg [13] adds.length (fun k v13 wr => ∃ i : Nat, v13 = .int .i64 (i : Int) ∧ i + k = adds.length ∧ Hid (Below W3.heap.size W3 wr))
          case atStart => exact ⟨0, rfl, by omega, HW⟩
          case round =>
            obtain ⟨i, rfl, hik, HW⟩ := hrel
            by_cases hlt : i < adds.length
            · obtain ⟨g1, o1, rfl, _, c0, c1, c2, c3, c4⟩ := (MA.out.next HW.out).at hlt
              have hki : (i : Int) < (adds.length : Int) := by omega
              have hwi : IntKind.i64.wrap ((i : Int) + 1) = ((i + 1 : Nat) : Int) := by rw [IntKind.wrap_i64]; omega
              have y0 := (G2.out.next HW.out).cell 0
              simp only [List.getElem?_toArray, List.getElem?_cons_succ, List.getElem?_cons_zero] at y0
              go_wp2
              clear y0 c0 c1 c2 c3 c4
              go_loopg [14, 15] Ls.length (fun k t14 t15 wr => ∃ (b : Bool) (j : Nat), t14 = .bool b ∧ t15 = .int .i64 (j : Int) ∧ j + k = Ls.length ∧ Hid (b = false → ∀ z, z < j → metaAt1 (fnMeta Ls) z ≠ metaAt1 (fnMeta adds) i) ∧ Hid (Below W3.heap.size W3 wr))
              case atStart => exact ⟨false, 0, rfl, rfl, by omega, hide (fun _ z hz => by omega), HW⟩
              case round =>
                obtain ⟨b, j, rfl, rfl, hjk, HF, HX⟩ := hrel
                by_cases hj : j < Ls.length
                · have hkj : (j : Int) < (Ls.length : Int) := by omega
                  have hwj : IntKind.i64.wrap ((j : Int) + 1) = ((j + 1 : Nat) : Int) := by rw [IntKind.wrap_i64]; omega
                  obtain ⟨g2, o2, rfl, _, d0, d1, d2, d3, d4⟩ := (MG2.out.next HX.out).at hj
                  obtain ⟨g1', o1', hq, _, c0, c1, c2, c3, c4⟩ := (MA.out.next HX.out).at hlt
                  simp only [Option.some.injEq, Addr.mk.injEq, and_true] at hq
                  obtain ⟨rfl, rfl⟩ := hq
                  have x0 := (G32.out.next HX.out).cell 0
                  have y0 := (G2.out.next HX.out).cell 0
                  simp only [List.getElem?_toArray, List.getElem?_cons_succ, List.getElem?_cons_zero] at x0 y0
                  cases b with
                  | true =>
                    go_wp2
                    go_quiet (fail)
                    go_wp2
                    go_roundg (Ls.length - (j + 1))
                    case measure => omega
                    case rel => exact ⟨true, j + 1, rfl, by go_num, by omega, hide (fun h => by cases h), below_drewN HX.out _⟩
                  | false =>
                    have HG := hide (HF.out rfl)
                    obtain ⟨q, hq1, hq2, hq3⟩ := eql_metas (fnMeta Ls) (fnMeta adds) j i
                    go_wp2
                    go_quiet (fail)
                    clear hq1 hq2
                    have HF2 := hide (not_grow HG.out hq3)
                    clear hq3
                    go_wp2
                    go_roundg (Ls.length - (j + 1))
                    case measure => omega
                    case rel => exact ⟨q, j + 1, rfl, by go_num, by omega, HF2, below_drewN HX.out _⟩
                · obtain rfl : j = Ls.length := by omega
                  have x0 := (G32.out.next HX.out).cell 0
                  simp only [List.getElem?_toArray, List.getElem?_cons_succ, List.getElem?_cons_zero] at x0
                  cases b with
                  | true =>
                    go_wp2
                    go_roundg (adds.length - (i + 1))
                    case measure => omega
                    case rel => exact ⟨i + 1, by go_num, by omega, HX⟩
                  | false => exact (found_not (adds := []) (fun x hx => .inl (HL1.out.2.1 x hx)) hlt (HF.out rfl) (fun z hz => by simp at hz)).elim
            · obtain rfl : i = adds.length := by omega
              obtain ⟨_, _, q3, q4, q5, q6, q7⟩ := HL1.out
              have y0 := (G2.out.next HW.out).cell 0
              have z0 := (G32.out.next HW.out).cell 0
              have z1 := (G32.out.next HW.out).cell 1
              have z2 := (G32.out.next HW.out).cell 2
              have z3 := (G32.out.next HW.out).cell 3
              simp only [List.getElem?_toArray, List.getElem?_cons_succ, List.getElem?_cons_zero] at y0 z0 z1 z2 z3
              have cv := impl_VersionOk (.agg #[.slice ga Ls.length gp, .int .i64 n, .int .i64 s, .int .i64 lo]) (vc Ls n s lo) _ (by show Ls.length ≤ 1048576; omega) ⟨ga, gp, rfl, MG2.out.next HW.out⟩
              rw [q7] at cv
              go_wp2_with fail
              refine cv.mono ?_
              rintro e w5 ⟨rfl, hb5⟩
              have HW5 := hide (HW.out.trans (hb5.mono HW.out.size))
              clear cv hb5 y0 z0 z1 z2 z3
              have x0 := (G1.out.next HW5.out).cell 0
              have x1 := (G1.out.next HW5.out).cell 1
              have x2 := (G1.out.next HW5.out).cell 2
              have x3 := (G1.out.next HW5.out).cell 3
              have y0 := (G2.out.next HW5.out).cell 0
              have y1 := (G2.out.next HW5.out).cell 1
              have z0 := (G32.out.next HW5.out).cell 0
              have z1 := (G32.out.next HW5.out).cell 1
              have z2 := (G32.out.next HW5.out).cell 2
              have z3 := (G32.out.next HW5.out).cell 3
              simp only [List.getElem?_toArray, List.getElem?_cons_succ, List.getElem?_cons_zero] at x0 x1 x2 x3 y0 y1 z0 z1 z2 z3
              have hw1 : IntKind.i64.wrap ((l.length : Int) + (adds.length : Int)) = (l.length : Int) + (adds.length : Int) := by rw [IntKind.wrap_i64]; omega
              have hw2 : IntKind.i64.wrap ((l.length : Int) + (adds.length : Int) - (cuts.length : Int)) = (Ls.length : Int) := by rw [IntKind.wrap_i64]; omega
              have HE := hide (HB.out.trans (HW5.out.mono HB.out.size))
              go_wp2
              go_ret
              exact ⟨by simp <;> omega, HE.out⟩

end Go.Proofs.Ytplbhgcibfajaaa

/- The law FnReplayed, walked. (By gen_lreplayed.py.) -/
namespace Go.Proofs.Ytplbhgcibfajaaa
set_option maxRecDepth 100000
open Go.RowKit Go.Deep

/-- Replay at a version and edits of one's own. -/
theorem rep_own {w : World} {va : Option Addr} {p : Nat} {l : List Meta1} {nx sq lg : Int} {a : Option Addr} {n cap B : Nat} {E : Nat → EditC} (hl : l.length ≤ 1000) (hn : n ≤ 1048576) (hE : ∀ i, i < n → (E i).Fit) (ho : OwnMeta w B (.slice va l.length p) l) (he : EditsSrc w a n E) :
    Calls Try.prog 21 #[.agg #[.slice va l.length p, .int .i64 nx, .int .i64 sq, .int .i64 lg], .slice a n cap] w fun x w' => (∃ b q M n1 s1 g1 r, x = .returned (.tuple #[.agg #[.slice b (M : List Meta1).length q, .int .i64 n1, .int .i64 s1, .int .i64 g1], .int .i64 r]) ∧ OwnMeta w' w.heap.size (.slice b M.length q) M ∧ repC (vc l nx sq lg) n E = vc M n1 s1 g1 ∧ r = repI (vc l nx sq lg) n E) ∧ Below w.heap.size w w' := by
  refine (impl_Replay _ (vc l nx sq lg) a n cap E w (by show l.length ≤ 1048576; omega) hn hE (versionIs_ownA ho) he).mono ?_
  rintro x w' ⟨⟨u, rfl, va1, l1, rfl, hM, hc⟩, hb⟩
  obtain ⟨b, q, rfl⟩ := hM.shape
  exact ⟨⟨b, q, l1, _, _, _, _, rfl, hM, hc, rfl⟩, hb⟩
theorem rep_ownS {w : World} {va : Option Addr} {p : Nat} {l : List Meta1} {nx sq lg : Int} {a : Option Addr} {n cap B : Nat} {E : Nat → EditC} (hl : l.length ≤ 1000) (hn : n ≤ 1048576) (hE : ∀ i, i < n → (E i).Fit) (ho : OwnMeta w B (.slice va l.length p) l) (he : EditsSrc w a n E) :
    Calls Try.prog 19 #[.agg #[.slice va l.length p, .int .i64 nx, .int .i64 sq, .int .i64 lg], .slice a n cap] w fun x w' => (∃ b q M n1 s1 g1 r, x = .returned (.tuple #[.agg #[.slice b (M : List Meta1).length q, .int .i64 n1, .int .i64 s1, .int .i64 g1], .int .i64 r]) ∧ OwnMeta w' w.heap.size (.slice b M.length q) M ∧ repC (vc l nx sq lg) n E = vc M n1 s1 g1 ∧ r = repI (vc l nx sq lg) n E) ∧ Below w.heap.size w w' := by
  refine (spec_Replay _ (vc l nx sq lg) a n cap E w (by show l.length ≤ 1048576; omega) hn hE (versionIs_ownA ho) he).mono ?_
  rintro x w' ⟨⟨u, rfl, va1, l1, rfl, hM, hc⟩, hb⟩
  obtain ⟨b, q, rfl⟩ := hM.shape
  exact ⟨⟨b, q, l1, _, _, _, _, rfl, hM, hc, rfl⟩, hb⟩
theorem sameM_own {w : World} {a b : Option Addr} {p q B B' : Nat} {l : List Meta1} (hl : l.length ≤ 1048576) (h : OwnMeta w B (.slice a l.length p) l) (k : OwnMeta w B' (.slice b l.length q) l) :
    Calls Try.prog 26 #[.slice a l.length p, .slice b l.length q] w fun e w' => e = .returned (.bool true) ∧ Below w.heap.size w w' := by
  obtain ⟨a0, p0, hva, hM⟩ := h.arg
  simp only [Value.slice.injEq, true_and] at hva
  obtain ⟨rfl, rfl⟩ := hva
  obtain ⟨a2, q2, hv2, hI⟩ := k.arg
  simp only [Value.slice.injEq, true_and] at hv2
  obtain ⟨rfl, rfl⟩ := hv2
  exact laws_sameMetasA _ _ _ _ _ (fnMeta l) w hl hM hI
theorem repC_len {l : List Meta1} {x y z : Int} {n : Nat} {E : Nat → EditC} {M : List Meta1} {n1 s1 g1 : Int} (hl : l.length ≤ 1000) (h : repC (vc l x y z) n E = vc M n1 s1 g1) : M.length ≤ 1048576 := by
  have := repC_fit (c := vc l x y z) (by show l.length ≤ 1048576; omega) n E
  rw [h] at this
  exact this
theorem EditsSrc.take {w : World} {a : Option Addr} {n k : Nat} {E : Nat → EditC} (h : EditsSrc w a n E) (hk : k ≤ n) : EditsSrc w a k E := by
  rcases h with h | ⟨b, off, e, hb, hc⟩
  · exact .inl (by omega)
  · exact .inr ⟨b, off, e, hb, fun i hi => hc i (by omega)⟩
theorem EditsSrc.drop {w : World} {g n k : Nat} {E : Nat → EditC} (h : EditsSrc w (some ⟨g, 0, none⟩) n E) : EditsSrc w (some ⟨g, k * 5, none⟩) (n - k) (fun i => E (k + i)) := by
  rcases h with h | ⟨b, off, e, hb, hc⟩
  · exact .inl (by omega)
  · simp only [Option.some.injEq, Addr.mk.injEq, and_true] at e
    obtain ⟨rfl, rfl⟩ := e
    refine .inr ⟨g, k * 5, rfl, hb, fun i hi => ?_⟩
    have := hc (k + i) (by omega)
    rwa [show 0 + (k + i) * 5 = k * 5 + i * 5 by omega] at this

/-- What the law holds while it goes on. -/
structure RdS (w : World) (E3 E5 : Nat) (va : Option Addr) (p : Nat) (l : List Meta1) (nx sq lg : Int) (gL pL : Nat) (L : List EdR) (b : Option Addr) (q : Nat) (M : List Meta1) (n1 s1 g1 : Int) (x : World) : Prop where
  low : Below w.heap.size w x
  b3 : BoxIs x E3 #[.slice va l.length p, .int .i64 nx, .int .i64 sq, .int .i64 lg] 32
  b5 : BoxIs x E5 #[.slice b M.length q, .int .i64 n1, .int .i64 s1, .int .i64 g1] 32
  ov : OwnMeta x w.heap.size (.slice va l.length p) l
  om : OwnMeta x w.heap.size (.slice b M.length q) M
  ol : OwnEds x w.heap.size (.slice (some ⟨gL, 0, none⟩) L.length pL) L
  ord : w.heap.size ≤ E3 ∧ E3 < E5
section
variable {w : World} {E3 E5 : Nat} {va : Option Addr} {p : Nat} {l : List Meta1} {nx sq lg : Int} {gL pL : Nat} {L : List EdR} {b : Option Addr} {q : Nat} {M : List Meta1} {n1 s1 g1 : Int} {x y : World}
theorem RdS.next (h : RdS w E3 E5 va p l nx sq lg gL pL L b q M n1 s1 g1 x) (k : Below x.heap.size x y) : RdS w E3 E5 va p l nx sq lg gL pL L b q M n1 s1 g1 y :=
  ⟨h.low.trans (k.mono h.low.size), h.b3.next k, h.b5.next k, h.ov.next k, h.om.next k, h.ol.next k, h.ord⟩
theorem RdS.set (h : RdS w E3 E5 va p l nx sq lg gL pL L b q M n1 s1 g1 x) {G : Nat} (hG : E5 < G) {cs : Array Value} (hb : BoxIs x G cs 32) (j : Nat) (v : Value) : RdS w E3 E5 va p l nx sq lg gL pL L b q M n1 s1 g1 (x.setCell ⟨G, j, none⟩ v) := by
  obtain ⟨o1, o2⟩ := h.ord
  exact ⟨h.low.setCell (p := ⟨G, j, none⟩) (by show w.heap.size ≤ G; omega) _, h.b3.set_other (by show G ≠ _; omega) _, h.b5.set_other (by show G ≠ _; omega) _, rg_set h.ov hb (by decide) _, rg_set h.om hb (by decide) _, h.ol.set hb (by decide) (by decide) (by decide) _, h.ord⟩
theorem RdS.cap (h : RdS w E3 E5 va p l nx sq lg gL pL L b q M n1 s1 g1 x) : L.length ≤ pL := by
  rcases h.ol.1.2 with ⟨hv, _⟩ | ⟨g, cap, cur, hv, hg, hh, hle, hcap, hsz, htake⟩
  · simp at hv
  · simp only [Value.slice.injEq] at hv
    omega
end

/-- .. behind the row's beginning. -/
structure RdT (w : World) (E3 E5 N : Nat) (va : Option Addr) (p : Nat) (l : List Meta1) (nx sq lg : Int) (gL pL : Nat) (L : List EdR) (b : Option Addr) (q : Nat) (M : List Meta1) (n1 s1 g1 : Int) (b1 : Option Addr) (q1 : Nat) (M1 : List Meta1) (n2 s2 g2 : Int) (x : World) : Prop where
  S : RdS w E3 E5 va p l nx sq lg gL pL L b q M n1 s1 g1 x
  bN : BoxIs x N #[.slice b1 M1.length q1, .int .i64 n2, .int .i64 s2, .int .i64 g2] 32
  oN : OwnMeta x w.heap.size (.slice b1 M1.length q1) M1
  hN : E5 < N
section
variable {w : World} {E3 E5 N : Nat} {va : Option Addr} {p : Nat} {l : List Meta1} {nx sq lg : Int} {gL pL : Nat} {L : List EdR} {b b1 : Option Addr} {q q1 : Nat} {M M1 : List Meta1} {n1 s1 g1 n2 s2 g2 : Int} {x y : World}
theorem RdT.next (h : RdT w E3 E5 N va p l nx sq lg gL pL L b q M n1 s1 g1 b1 q1 M1 n2 s2 g2 x) (k : Below x.heap.size x y) : RdT w E3 E5 N va p l nx sq lg gL pL L b q M n1 s1 g1 b1 q1 M1 n2 s2 g2 y :=
  ⟨h.S.next k, h.bN.next k, h.oN.next k, h.hN⟩
theorem RdT.set (h : RdT w E3 E5 N va p l nx sq lg gL pL L b q M n1 s1 g1 b1 q1 M1 n2 s2 g2 x) {G : Nat} (hG : N < G) {cs : Array Value} (hb : BoxIs x G cs 32) (j : Nat) (v : Value) : RdT w E3 E5 N va p l nx sq lg gL pL L b q M n1 s1 g1 b1 q1 M1 n2 s2 g2 (x.setCell ⟨G, j, none⟩ v) :=
  ⟨h.S.set (Nat.lt_trans h.hN hG) hb j v, h.bN.set_other (by show G ≠ _; omega) _, rg_set h.oN hb (by decide) _, h.hN⟩
end
theorem rep_top {l : List Meta1} {x y z : Int} {n : Nat} {E : Nat → EditC} (h : 0 ≤ repI (vc l x y z) n E) : repI (vc l x y z) n E ≤ n := by
  rw [(rep_whole h).2.1]
  have := repN_le (vc l x y z) E n
  omega

set_option linter.unusedSimpArgs false in
set_option linter.unusedVariables false in
set_option maxHeartbeats 8000000 in
theorem walk_FnReplayed (v : Value) {w : World} (hv : IsBytes w v) (_w : World) :
    Calls Try.prog 6 #[v] w fun e w' => e = .returned (.bool true) ∧ Below w.heap.size w w' := by
  obtain ⟨a, len, cap, rfl, hc, hm⟩ := hv
  by_cases hbig : 1048576 < len
  · have hd : decide (1048576 < len) = true := by simp [hbig]
    go_enter Try.func6, Try.ntmps6
    go_wp2_with fail
    refine (laws_bigO a len cap hm _).mono ?_
    rintro e w1 ⟨rfl, rfl⟩
    go_wp2
    go_ret
    exact ⟨rfl, Below.refl _ _⟩
  · have hd : decide (1048576 < len) = false := by simp [hbig]
    have hl : len ≤ 1048576 := by omega
    go_enter Try.func6, Try.ntmps6
    go_wp2_with fail
    refine (laws_bigO a len cap hm _).mono ?_
    rintro e w1 ⟨rfl, rfl⟩
    go_wp2_with fail
    refine (draw_Replay w _ a len cap hc hl (Below.refl _ _)).mono ?_
    rintro e w1 ⟨va, p, l, nx, sq, lg, gL, pL, L, rfl, ho, hol, hll, hLL, hb1⟩
    clear hd
    have O1 := ho.next (below_one w1 (.cells #[.slice va l.length p, .int .i64 nx, .int .i64 sq, .int .i64 lg] 32))
    have L1 := hol.next (below_one w1 (.cells #[.slice va l.length p, .int .i64 nx, .int .i64 sq, .int .i64 lg] 32))
    have B1 := BoxIs.new w1 #[.slice va l.length p, .int .i64 nx, .int .i64 sq, .int .i64 lg] 32 rfl
    have HB1 := hb1.trans ((below_one w1 (.cells #[.slice va l.length p, .int .i64 nx, .int .i64 sq, .int .i64 lg] 32)).mono hb1.size)
    have hs1 := hb1.size
    clear ho hol hb1
    go_wp2_with fail
    generalize w1.alloc (.cells #[.slice va l.length p, .int .i64 nx, .int .i64 sq, .int .i64 lg] 32) = W1 at O1 L1 B1 HB1 ⊢
    generalize w1.heap.size = E3 at B1 hs1 ⊢
    have hFit := fun i hi => edF_fit L1 (i := i) hi
    have hLn : L.length ≤ 1048576 := by omega
    have hl1 : l.length ≤ 1000 := by omega
    refine (rep_own hl1 hLn hFit O1 L1.src).mono ?_
    rintro e w2 ⟨⟨b, q, M, n1, s1, g1, r, rfl, hM, hR, hr⟩, hb2⟩
    have h5 := (B1.next hb2).lt
    have HS := hide (⟨HB1.trans ((hb2.trans ((below_one w2 (.cells #[.slice b M.length q, .int .i64 n1, .int .i64 s1, .int .i64 g1] 32)).mono hb2.size)).mono HB1.size), (B1.next hb2).next (below_one _ _), BoxIs.new w2 #[.slice b M.length q, .int .i64 n1, .int .i64 s1, .int .i64 g1] 32 rfl, (O1.next hb2).next (below_one _ _), (hM.base HB1.size).next (below_one _ _), (L1.next hb2).next (below_one _ _), ⟨hs1, h5⟩⟩ : RdS w E3 w2.heap.size va p l nx sq lg gL pL L b q M n1 s1 g1 (w2.alloc (.cells #[.slice b M.length q, .int .i64 n1, .int .i64 s1, .int .i64 g1] 32)))
    clear O1 L1 B1 HB1 hM hb2
    have y0 := HS.out.b3.cell 0
    have y1 := HS.out.b3.cell 1
    have y2 := HS.out.b3.cell 2
    have y3 := HS.out.b3.cell 3
    simp only [List.getElem?_toArray, List.getElem?_cons_succ, List.getElem?_cons_zero] at y0 y1 y2 y3
    go_wp2_with fail
    clear y0 y1 y2 y3
    generalize w2.alloc (.cells #[.slice b M.length q, .int .i64 n1, .int .i64 s1, .int .i64 g1] 32) = W2 at HS ⊢
    generalize w2.heap.size = E5 at HS h5 ⊢
    refine (rep_ownS hl1 hLn hFit HS.out.ov HS.out.ol.src).mono ?_
    rintro e w3 ⟨⟨b2, q2, M2, n2, s2, g2, r2, rfl, hM2, hR2, rfl⟩, hb3⟩
    obtain ⟨rfl, rfl, rfl, rfl⟩ := vc_inj (hR.symm.trans hR2)
    rw [← hr]
    have HR := hide (And.intro hR hr)
    clear hR2 hr
    have hl2 := repC_len hl1 hR
    clear hR
    have HS3 := hide ((HS.out.next hb3).next (below_one w3 (.cells #[.slice b2 M.length q2, .int .i64 n1, .int .i64 s1, .int .i64 g1] 32)))
    have B7 := (BoxIs.new w3 #[.slice b2 M.length q2, .int .i64 n1, .int .i64 s1, .int .i64 g1] 32 rfl).hid
    have O7 := (hM2.next (below_one w3 (.cells #[.slice b2 M.length q2, .int .i64 n1, .int .i64 s1, .int .i64 g1] 32))).hid
    clear HS hM2 hb3
    go_upto_region 6 with fail
    generalize w3.alloc (.cells #[.slice b2 M.length q2, .int .i64 n1, .int .i64 s1, .int .i64 g1] 32) = W3 at HS3 B7 O7 ⊢
    generalize w3.heap.size = E7 at B7 ⊢
    have x0 := HS3.out.b5.cell 0
    have y0 := B7.out.cell 0
    simp only [List.getElem?_toArray, List.getElem?_cons_succ, List.getElem?_cons_zero] at x0 y0
    go_wp2_with fail
    clear x0 y0
    refine (sameM_own hl2 HS3.out.om O7.out).mono ?_
    rintro e w4 ⟨rfl, hb4⟩
    have HS4 := hide (HS3.out.next hb4)
    clear HS3 B7 O7 hb4
    by_cases hneg : r < 0
    · go_wp2
      go_ret
      exact ⟨by simp, HS4.out.low⟩
    · have hwn : IntKind.i64.wrap ((L.length : Int) + 1) = (L.length : Int) + 1 := by rw [IntKind.wrap_i64]; omega
      have hkE : (len : Int) % ((L.length : Int) + 1) = ((len % (L.length + 1) : Nat) : Int) := by simp
      have hkl : len % (L.length + 1) ≤ L.length := by have := Nat.mod_lt len (show 0 < L.length + 1 by omega); omega
      have hcp := HS4.out.cap
      go_upto_region 9 with fail
      rw [hkE]
      generalize len % (L.length + 1) = k at hkE hkl ⊢
      clear hkE
      have hkc : (k : Int) ≤ (pL : Int) := by omega
      have hk0 : (0 : Int) ≤ (k : Int) := by omega
      have hFk : ∀ i, i < k → (edF L i).Fit := fun i hi => hFit i (by omega)
      have hkn : k ≤ 1048576 := by omega
      go_cut [10, 11] (fun p10 t11 wx => ∃ (N : Nat) (b1 : Option Addr) (q1 : Nat) (M1 : List Meta1) (n2 s2 g2 r1 : Int), p10 = .pointer (some ⟨N, 0, none⟩) ∧ t11 = .int .i64 r1 ∧ Hid (repC (vc l nx sq lg) k (edF L) = vc M1 n2 s2 g2 ∧ r1 = repI (vc l nx sq lg) k (edF L)) ∧ Hid (RdT w E3 E5 N va p l nx sq lg gL pL L b q M n1 s1 g1 b1 q1 M1 n2 s2 g2 wx))
      case first =>
        have H0 := HS4.out
        clear HS4 HR
        refine wp_region_noPanic ?_
        have hb0 : Below w4.heap.size w4 w4.drew := (Below.refl _ _).drew
        have H_0 := H0.next hb0
        refine wp_region_held_drew (S := fun x => BoxIs x E3 #[.slice va l.length p, .int .i64 nx, .int .i64 sq, .int .i64 lg] 32) (by kernel_rfl) H_0.b3 (fun hSz => ?_)
        clear hSz H0
        generalize w4.drew = wq0 at hb0 H_0 ⊢
        clear hb0
        refine wpAnyH_take (i := 0) (v := .agg #[.slice va l.length p, .int .i64 nx, .int .i64 sq, .int .i64 lg]) nat0 (by kernel_rfl) (by kernel_rfl) (by kernel_rfl) (fun _ _ _ h => False.elim h) (Or.inl ⟨by rfl, ?_⟩) H_0.b3 ?_
        · intro wx hSw
          have y0 := hSw.cell 0
          have y1 := hSw.cell 1
          have y2 := hSw.cell 2
          have y3 := hSw.cell 3
          simp only [List.getElem?_toArray, List.getElem?_cons_succ, List.getElem?_cons_zero] at y0 y1 y2 y3
          go_simp
        simp only [Act.put, List.setIfInBounds_toArray, List.set_cons_zero, List.set_cons_succ]
        refine wpAnyH_take (i := 1) (v := .slice (some ⟨gL, 0, none⟩) L.length pL) nat1 (by kernel_rfl) (by kernel_rfl) (by kernel_rfl) (fun _ _ _ h => False.elim h) (Or.inl ⟨by rfl, ?_⟩) H_0.b3 ?_
        · intro wx hSw
          go_simp
        simp only [Act.put, List.setIfInBounds_toArray, List.set_cons_zero, List.set_cons_succ]
        refine wpAnyH_take (i := 2) (v := .int .i64 ((k : Int))) nat2 (by kernel_rfl) (by kernel_rfl) (by kernel_rfl) (fun _ _ _ h => False.elim h) (Or.inl ⟨by rfl, ?_⟩) H_0.b3 ?_
        · intro wx hSw
          go_simp
        simp only [Act.put, List.setIfInBounds_toArray, List.set_cons_zero, List.set_cons_succ]
        refine wpAnyH_take (i := 3) (v := .slice (some ⟨gL, 0, none⟩) k pL) nat3 (by kernel_rfl) (by kernel_rfl) (by kernel_rfl) (fun _ _ _ h => False.elim h) (Or.inl ⟨by rfl, ?_⟩) H_0.b3 ?_
        · intro wx hSw
          go_simp
        simp only [Act.put, List.setIfInBounds_toArray, List.set_cons_zero, List.set_cons_succ]
        refine wpAnyH_ready (rs := [4, 8]) (by kernel_rfl) (by simp) ?_
        refine AllReadyH.cons nat4 (fun K hK => ?_) (AllReadyH.cons nat8 (fun K hK => ?_) AllReadyH.nil)
        · go_simp
          go_at_call 21
          refine (rep_own hl1 hkn hFk H_0.ov (H_0.ol.src.take hkl)).mono ?_
          rintro e wq1 ⟨⟨bb1, qq1, MM1, nn1, ss1, gg1, rr1, rfl, om1, hR1, hr1⟩, hb1⟩
          have H_1 := H_0.next hb1
          have NO_1 := om1.base H_0.low.size
          refine hK.out _ _ H_1.b3 (fun hSz => ?_)
          clear hK K hSz H_0 hb1 om1
          refine wpAnyH_take (i := 5) (v := .tuple #[.agg #[.slice bb1 MM1.length qq1, .int .i64 nn1, .int .i64 ss1, .int .i64 gg1], .int .i64 rr1]) nat5 (by kernel_rfl) (by kernel_rfl) (by kernel_rfl) (fun _ _ _ h => False.elim h) (Or.inl ⟨by rfl, ?_⟩) H_1.b3 ?_
          · intro wx hSw
            go_simp
          simp only [Act.put, List.setIfInBounds_toArray, List.set_cons_zero, List.set_cons_succ]
          refine wpAnyH_take (i := 6) (v := .agg #[.slice bb1 MM1.length qq1, .int .i64 nn1, .int .i64 ss1, .int .i64 gg1]) nat6 (by kernel_rfl) (by kernel_rfl) (by kernel_rfl) (fun _ _ _ h => False.elim h) (Or.inl ⟨by rfl, ?_⟩) H_1.b3 ?_
          · intro wx hSw
            go_simp
          simp only [Act.put, List.setIfInBounds_toArray, List.set_cons_zero, List.set_cons_succ]
          refine wpAnyH_take (i := 7) (v := .int .i64 rr1) nat7 (by kernel_rfl) (by kernel_rfl) (by kernel_rfl) (fun _ _ _ h => False.elim h) (Or.inl ⟨by rfl, ?_⟩) H_1.b3 ?_
          · intro wx hSw
            go_simp
          simp only [Act.put, List.setIfInBounds_toArray, List.set_cons_zero, List.set_cons_succ]
          refine wpAnyH_ready (rs := [8]) (by kernel_rfl) (by simp) ?_
          refine AllReadyH.cons nat8 (fun K hK => ?_) AllReadyH.nil
          go_simp
          have hlt2 := H_1.b5.lt
          have hb2 := below_one wq1 (.cells #[.slice none 0 0, .int .i64 0, .int .i64 0, .int .i64 0] 32)
          have H_2 := H_1.next hb2
          have NO_2 := NO_1.next hb2
          have NB10_2 := BoxIs.new wq1 #[.slice none 0 0, .int .i64 0, .int .i64 0, .int .i64 0] 32 rfl
          refine hK.out _ _ H_2.b3 (fun hSz => ?_)
          clear hK K hSz H_1 NO_1
          obtain ⟨G2, hG2⟩ : ∃ G, G = wq1.heap.size := ⟨_, rfl⟩
          rw [← hG2] at NB10_2 ⊢
          generalize wq1.alloc (.cells #[.slice none 0 0, .int .i64 0, .int .i64 0, .int .i64 0] 32) = wq2 at hb2 H_2 NO_2 NB10_2 ⊢
          rw [← hG2] at hlt2
          clear hG2 hb2
          refine wpAnyH_ready (rs := [9]) (by kernel_rfl) (by simp) ?_
          refine AllReadyH.cons nat9 (fun K hK => ?_) AllReadyH.nil
          have y0 := NB10_2.cell 0
          have y1 := NB10_2.cell 1
          have y2 := NB10_2.cell 2
          have y3 := NB10_2.cell 3
          simp only [List.getElem?_toArray, List.getElem?_cons_succ, List.getElem?_cons_zero] at y0 y1 y2 y3
          have yf := NB10_2.free
          go_simp
          clear yf y0 y1 y2 y3
          have H_3s0 := H_2.set hlt2 NB10_2 0 (.slice bb1 MM1.length qq1)
          have NO_3s0 := (show OwnMeta _ _ _ _ from rg_set (o := 0) NO_2 NB10_2 (by decide) (.slice bb1 MM1.length qq1))
          have NB10_3s0 := NB10_2.set 0 (.slice bb1 MM1.length qq1)
          have H_3s1 := H_3s0.set hlt2 NB10_3s0 1 (.int .i64 nn1)
          have NO_3s1 := (show OwnMeta _ _ _ _ from rg_set (o := 1) NO_3s0 NB10_3s0 (by decide) (.int .i64 nn1))
          have NB10_3s1 := NB10_3s0.set 1 (.int .i64 nn1)
          have H_3s2 := H_3s1.set hlt2 NB10_3s1 2 (.int .i64 ss1)
          have NO_3s2 := (show OwnMeta _ _ _ _ from rg_set (o := 2) NO_3s1 NB10_3s1 (by decide) (.int .i64 ss1))
          have NB10_3s2 := NB10_3s1.set 2 (.int .i64 ss1)
          have H_3s3 := H_3s2.set hlt2 NB10_3s2 3 (.int .i64 gg1)
          have NO_3s3 := (show OwnMeta _ _ _ _ from rg_set (o := 3) NO_3s2 NB10_3s2 (by decide) (.int .i64 gg1))
          have NB10_3s3 := NB10_3s2.set 3 (.int .i64 gg1)
          have H_3 := H_3s3
          have NO_3 := NO_3s3
          have NB10_3 : BoxIs ((((wq2.setCell ⟨G2, 0, none⟩ (.slice bb1 MM1.length qq1)).setCell ⟨G2, 1, none⟩ (.int .i64 nn1)).setCell ⟨G2, 2, none⟩ (.int .i64 ss1)).setCell ⟨G2, 3, none⟩ (.int .i64 gg1)) G2 #[.slice bb1 MM1.length qq1, .int .i64 nn1, .int .i64 ss1, .int .i64 gg1] 32 := NB10_3s3
          refine hK.out _ _ H_3.b3 (fun hSz => ?_)
          clear hK K hSz H_2 NB10_2 NO_2 H_3s0 H_3s1 H_3s2 H_3s3 NO_3s0 NO_3s1 NO_3s2 NO_3s3 NB10_3s0 NB10_3s1 NB10_3s2 NB10_3s3
          generalize (((wq2.setCell ⟨G2, 0, none⟩ (.slice bb1 MM1.length qq1)).setCell ⟨G2, 1, none⟩ (.int .i64 nn1)).setCell ⟨G2, 2, none⟩ (.int .i64 ss1)).setCell ⟨G2, 3, none⟩ (.int .i64 gg1) = wq3 at H_3 NO_3 NB10_3 ⊢
          refine wpAnyH_take (i := 10) (v := .int .i64 rr1) nat10 (by kernel_rfl) (by kernel_rfl) (by kernel_rfl) (fun _ _ _ h => False.elim h) (Or.inl ⟨by rfl, ?_⟩) H_3.b3 ?_
          · intro wx hSw
            go_simp
          simp only [Act.put, List.setIfInBounds_toArray, List.set_cons_zero, List.set_cons_succ]
          refine wpAnyH_done (by kernel_rfl) ?_ _
          refine NoPanic.normal ?_
          go_wp2_with fail
          go_meet
          exact ⟨G2, _, _, MM1, _, _, _, _, rfl, rfl, hide (And.intro hR1 hr1), hide ⟨H_3, NB10_3, NO_3, hlt2⟩⟩
        · go_simp
          have hlt4 := H_0.b5.lt
          have hb4 := below_one wq0 (.cells #[.slice none 0 0, .int .i64 0, .int .i64 0, .int .i64 0] 32)
          have H_4 := H_0.next hb4
          have NB10_4 := BoxIs.new wq0 #[.slice none 0 0, .int .i64 0, .int .i64 0, .int .i64 0] 32 rfl
          refine hK.out _ _ H_4.b3 (fun hSz => ?_)
          clear hK K hSz H_0
          obtain ⟨G4, hG4⟩ : ∃ G, G = wq0.heap.size := ⟨_, rfl⟩
          rw [← hG4] at NB10_4 ⊢
          generalize wq0.alloc (.cells #[.slice none 0 0, .int .i64 0, .int .i64 0, .int .i64 0] 32) = wq4 at hb4 H_4 NB10_4 ⊢
          rw [← hG4] at hlt4
          clear hG4 hb4
          refine wpAnyH_ready (rs := [4]) (by kernel_rfl) (by simp) ?_
          refine AllReadyH.cons nat4 (fun K hK => ?_) AllReadyH.nil
          go_simp
          go_at_call 21
          refine (rep_own hl1 hkn hFk H_4.ov (H_4.ol.src.take hkl)).mono ?_
          rintro e wq5 ⟨⟨bb5, qq5, MM5, nn5, ss5, gg5, rr5, rfl, om5, hR5, hr5⟩, hb5⟩
          have H_5 := H_4.next hb5
          have NB10_5 := NB10_4.next hb5
          have NO_5 := om5.base H_4.low.size
          refine hK.out _ _ H_5.b3 (fun hSz => ?_)
          clear hK K hSz H_4 NB10_4 hb5 om5
          refine wpAnyH_take (i := 5) (v := .tuple #[.agg #[.slice bb5 MM5.length qq5, .int .i64 nn5, .int .i64 ss5, .int .i64 gg5], .int .i64 rr5]) nat5 (by kernel_rfl) (by kernel_rfl) (by kernel_rfl) (fun _ _ _ h => False.elim h) (Or.inl ⟨by rfl, ?_⟩) H_5.b3 ?_
          · intro wx hSw
            go_simp
          simp only [Act.put, List.setIfInBounds_toArray, List.set_cons_zero, List.set_cons_succ]
          refine wpAnyH_take (i := 6) (v := .agg #[.slice bb5 MM5.length qq5, .int .i64 nn5, .int .i64 ss5, .int .i64 gg5]) nat6 (by kernel_rfl) (by kernel_rfl) (by kernel_rfl) (fun _ _ _ h => False.elim h) (Or.inl ⟨by rfl, ?_⟩) H_5.b3 ?_
          · intro wx hSw
            go_simp
          simp only [Act.put, List.setIfInBounds_toArray, List.set_cons_zero, List.set_cons_succ]
          refine wpAnyH_take (i := 7) (v := .int .i64 rr5) nat7 (by kernel_rfl) (by kernel_rfl) (by kernel_rfl) (fun _ _ _ h => False.elim h) (Or.inl ⟨by rfl, ?_⟩) H_5.b3 ?_
          · intro wx hSw
            go_simp
          simp only [Act.put, List.setIfInBounds_toArray, List.set_cons_zero, List.set_cons_succ]
          refine wpAnyH_ready (rs := [9]) (by kernel_rfl) (by simp) ?_
          refine AllReadyH.cons nat9 (fun K hK => ?_) AllReadyH.nil
          have y0 := NB10_5.cell 0
          have y1 := NB10_5.cell 1
          have y2 := NB10_5.cell 2
          have y3 := NB10_5.cell 3
          simp only [List.getElem?_toArray, List.getElem?_cons_succ, List.getElem?_cons_zero] at y0 y1 y2 y3
          have yf := NB10_5.free
          go_simp
          clear yf y0 y1 y2 y3
          have H_6s0 := H_5.set hlt4 NB10_5 0 (.slice bb5 MM5.length qq5)
          have NB10_6s0 := NB10_5.set 0 (.slice bb5 MM5.length qq5)
          have NO_6s0 := (show OwnMeta _ _ _ _ from rg_set (o := 0) NO_5 NB10_5 (by decide) (.slice bb5 MM5.length qq5))
          have H_6s1 := H_6s0.set hlt4 NB10_6s0 1 (.int .i64 nn5)
          have NB10_6s1 := NB10_6s0.set 1 (.int .i64 nn5)
          have NO_6s1 := (show OwnMeta _ _ _ _ from rg_set (o := 1) NO_6s0 NB10_6s0 (by decide) (.int .i64 nn5))
          have H_6s2 := H_6s1.set hlt4 NB10_6s1 2 (.int .i64 ss5)
          have NB10_6s2 := NB10_6s1.set 2 (.int .i64 ss5)
          have NO_6s2 := (show OwnMeta _ _ _ _ from rg_set (o := 2) NO_6s1 NB10_6s1 (by decide) (.int .i64 ss5))
          have H_6s3 := H_6s2.set hlt4 NB10_6s2 3 (.int .i64 gg5)
          have NB10_6s3 := NB10_6s2.set 3 (.int .i64 gg5)
          have NO_6s3 := (show OwnMeta _ _ _ _ from rg_set (o := 3) NO_6s2 NB10_6s2 (by decide) (.int .i64 gg5))
          have H_6 := H_6s3
          have NB10_6 : BoxIs ((((wq5.setCell ⟨G4, 0, none⟩ (.slice bb5 MM5.length qq5)).setCell ⟨G4, 1, none⟩ (.int .i64 nn5)).setCell ⟨G4, 2, none⟩ (.int .i64 ss5)).setCell ⟨G4, 3, none⟩ (.int .i64 gg5)) G4 #[.slice bb5 MM5.length qq5, .int .i64 nn5, .int .i64 ss5, .int .i64 gg5] 32 := NB10_6s3
          have NO_6 := NO_6s3
          refine hK.out _ _ H_6.b3 (fun hSz => ?_)
          clear hK K hSz H_5 NB10_5 NO_5 H_6s0 H_6s1 H_6s2 H_6s3 NB10_6s0 NB10_6s1 NB10_6s2 NB10_6s3 NO_6s0 NO_6s1 NO_6s2 NO_6s3
          generalize (((wq5.setCell ⟨G4, 0, none⟩ (.slice bb5 MM5.length qq5)).setCell ⟨G4, 1, none⟩ (.int .i64 nn5)).setCell ⟨G4, 2, none⟩ (.int .i64 ss5)).setCell ⟨G4, 3, none⟩ (.int .i64 gg5) = wq6 at H_6 NB10_6 NO_6 ⊢
          refine wpAnyH_take (i := 10) (v := .int .i64 rr5) nat10 (by kernel_rfl) (by kernel_rfl) (by kernel_rfl) (fun _ _ _ h => False.elim h) (Or.inl ⟨by rfl, ?_⟩) H_6.b3 ?_
          · intro wx hSw
            go_simp
          simp only [Act.put, List.setIfInBounds_toArray, List.set_cons_zero, List.set_cons_succ]
          refine wpAnyH_done (by kernel_rfl) ?_ _
          refine NoPanic.normal ?_
          go_wp2_with fail
          go_meet
          exact ⟨G4, _, _, MM5, _, _, _, _, rfl, rfl, hide (And.intro hR5 hr5), hide ⟨H_6, NB10_6, NO_6, hlt4⟩⟩
      case rest =>
      obtain ⟨N, b1, q1, M1, n2, s2, g2, r1, rfl, rfl, HR1, HT⟩ := hcut
      clear HS4
      have hh : 0 ≤ repI (vc l nx sq lg) L.length (edF L) := by have := HR.out.2; omega
      by_cases hlt : r1 < (k : Int)
      · obtain ⟨h1, h2⟩ := rep_cut1 hh hkl (by have := HR1.out.2; omega)
        obtain rfl : r = r1 := by rw [HR.out.2, HR1.out.2, h1]
        have h3 := HR1.out.1
        rw [h2, HR.out.1] at h3
        obtain ⟨rfl, rfl, rfl, rfl⟩ := vc_inj h3
        clear h1 h2 h3 hh HR HR1
        have x0 := HT.out.bN.cell 0
        have y0 := HT.out.S.b5.cell 0
        simp only [List.getElem?_toArray, List.getElem?_cons_succ, List.getElem?_cons_zero] at x0 y0
        go_wp2_with fail
        clear x0 y0
        refine (sameM_own hl2 HT.out.oN HT.out.S.om).mono ?_
        rintro e w5 ⟨rfl, hb5⟩
        have HT5 := hide (HT.out.next hb5)
        clear HT hb5
        go_wp2
        go_ret
        exact ⟨rfl, HT5.out.S.low⟩
      · obtain ⟨h1, h2, h3⟩ := rep_cut2 hh hkl (by have := HR1.out.2; omega)
        obtain rfl : r1 = (k : Int) := by rw [HR1.out.2, h1]
        rw [HR1.out.1] at h2 h3
        rw [HR.out.1] at h3
        rw [← HR.out.2] at h2
        have hrt : r ≤ (L.length : Int) := by have := rep_top hh; have := HR.out.2; omega
        have HQ := hide (And.intro h2 h3)
        have hM1 : M1.length ≤ 1000 := by
          have h9 := rep_few hh (k := k)
          rw [HR1.out.1] at h9
          have h9 : M1.length ≤ 30 := h9
          omega
        clear h1 h2 h3 hh HR HR1
        have hwr : IntKind.i64.wrap r = r := by rw [IntKind.wrap_i64]; omega
        have hFd : ∀ i, i < L.length - k → (edF L (k + i)).Fit := fun i hi => hFit (k + i) (by omega)
        have hkd : L.length - k ≤ 1048576 := by omega
        go_upto_region 12 with fail
        go_cut [12, 13] (fun p12 t13 wx => ∃ (N2 : Nat) (b3 : Option Addr) (q3 : Nat) (r3 : Int), p12 = .pointer (some ⟨N2, 0, none⟩) ∧ t13 = .int .i64 r3 ∧ (k : Int) + r3 = r ∧ Hid (RdS w E3 E5 va p l nx sq lg gL pL L b q M n1 s1 g1 wx) ∧ Hid (BoxIs wx N2 #[.slice b3 M.length q3, .int .i64 n1, .int .i64 s1, .int .i64 g1] 32) ∧ Hid (OwnMeta wx w.heap.size (.slice b3 M.length q3) M))
        case first =>
          have H0 := HT.out
          clear HT
          have hlk : ((L.length - k : Nat) : Int) = (L.length : Int) - (k : Int) := by omega
          by_cases hpk : pL = k
          · skip
            refine wp_region_noPanic ?_
            have hb0 : Below wc.heap.size wc wc.drew := (Below.refl _ _).drew
            have H_0 := H0.next hb0
            refine wp_region_held_drew (S := fun x => BoxIs x N #[.slice b1 M1.length q1, .int .i64 n2, .int .i64 s2, .int .i64 g2] 32) (by kernel_rfl) H_0.bN (fun hSz => ?_)
            clear hSz H0
            generalize wc.drew = wq0 at hb0 H_0 ⊢
            clear hb0
            refine wpAnyH_take (i := 0) (v := .agg #[.slice b1 M1.length q1, .int .i64 n2, .int .i64 s2, .int .i64 g2]) nat0 (by kernel_rfl) (by kernel_rfl) (by kernel_rfl) (fun _ _ _ h => False.elim h) (Or.inl ⟨by rfl, ?_⟩) H_0.bN ?_
            · intro wx hSw
              have y0 := hSw.cell 0
              have y1 := hSw.cell 1
              have y2 := hSw.cell 2
              have y3 := hSw.cell 3
              simp only [List.getElem?_toArray, List.getElem?_cons_succ, List.getElem?_cons_zero] at y0 y1 y2 y3
              go_simp
            simp only [Act.put, List.setIfInBounds_toArray, List.set_cons_zero, List.set_cons_succ]
            refine wpAnyH_take (i := 1) (v := .slice (some ⟨gL, 0, none⟩) L.length pL) nat1 (by kernel_rfl) (by kernel_rfl) (by kernel_rfl) (fun _ _ _ h => False.elim h) (Or.inl ⟨by rfl, ?_⟩) H_0.bN ?_
            · intro wx hSw
              go_simp
            simp only [Act.put, List.setIfInBounds_toArray, List.set_cons_zero, List.set_cons_succ]
            refine wpAnyH_take (i := 2) (v := .int .i64 ((k : Int))) nat2 (by kernel_rfl) (by kernel_rfl) (by kernel_rfl) (fun _ _ _ h => False.elim h) (Or.inl ⟨by rfl, ?_⟩) H_0.bN ?_
            · intro wx hSw
              go_simp
            simp only [Act.put, List.setIfInBounds_toArray, List.set_cons_zero, List.set_cons_succ]
            refine wpAnyH_take (i := 3) (v := .slice (some ⟨gL, 0, none⟩) ((L.length - k)) 0) nat3 (by kernel_rfl) (by kernel_rfl) (by kernel_rfl) (fun _ _ _ h => False.elim h) (Or.inl ⟨by rfl, ?_⟩) H_0.bN ?_
            · intro wx hSw
              go_simp
            simp only [Act.put, List.setIfInBounds_toArray, List.set_cons_zero, List.set_cons_succ]
            refine wpAnyH_ready (rs := [4, 8]) (by kernel_rfl) (by simp) ?_
            refine AllReadyH.cons nat4 (fun K hK => ?_) (AllReadyH.cons nat8 (fun K hK => ?_) AllReadyH.nil)
            · go_simp
              go_at_call 21
              refine (rep_own (E := fun i => edF L (k + i)) hM1 hkd hFd H_0.oN (.inl (by omega))).mono ?_
              rintro e wq1 ⟨⟨bb1, qq1, MM1, nn1, ss1, gg1, rr1, rfl, om1, hR1, hr1⟩, hb1⟩
              obtain ⟨rfl, rfl, rfl, rfl⟩ := vc_inj (HQ.out.2.symm.trans hR1)
              have H_1 := H_0.next hb1
              have NO_1 := om1.base H_0.S.low.size
              refine hK.out _ _ H_1.bN (fun hSz => ?_)
              clear hK K hSz H_0 hb1 om1
              refine wpAnyH_take (i := 5) (v := .tuple #[.agg #[.slice bb1 M.length qq1, .int .i64 n1, .int .i64 s1, .int .i64 g1], .int .i64 rr1]) nat5 (by kernel_rfl) (by kernel_rfl) (by kernel_rfl) (fun _ _ _ h => False.elim h) (Or.inl ⟨by rfl, ?_⟩) H_1.bN ?_
              · intro wx hSw
                go_simp
              simp only [Act.put, List.setIfInBounds_toArray, List.set_cons_zero, List.set_cons_succ]
              refine wpAnyH_take (i := 6) (v := .agg #[.slice bb1 M.length qq1, .int .i64 n1, .int .i64 s1, .int .i64 g1]) nat6 (by kernel_rfl) (by kernel_rfl) (by kernel_rfl) (fun _ _ _ h => False.elim h) (Or.inl ⟨by rfl, ?_⟩) H_1.bN ?_
              · intro wx hSw
                go_simp
              simp only [Act.put, List.setIfInBounds_toArray, List.set_cons_zero, List.set_cons_succ]
              refine wpAnyH_take (i := 7) (v := .int .i64 rr1) nat7 (by kernel_rfl) (by kernel_rfl) (by kernel_rfl) (fun _ _ _ h => False.elim h) (Or.inl ⟨by rfl, ?_⟩) H_1.bN ?_
              · intro wx hSw
                go_simp
              simp only [Act.put, List.setIfInBounds_toArray, List.set_cons_zero, List.set_cons_succ]
              refine wpAnyH_ready (rs := [8]) (by kernel_rfl) (by simp) ?_
              refine AllReadyH.cons nat8 (fun K hK => ?_) AllReadyH.nil
              go_simp
              have hlt2 := H_1.bN.lt
              have hb2 := below_one wq1 (.cells #[.slice none 0 0, .int .i64 0, .int .i64 0, .int .i64 0] 32)
              have H_2 := H_1.next hb2
              have NO_2 := NO_1.next hb2
              have NB12_2 := BoxIs.new wq1 #[.slice none 0 0, .int .i64 0, .int .i64 0, .int .i64 0] 32 rfl
              refine hK.out _ _ H_2.bN (fun hSz => ?_)
              clear hK K hSz H_1 NO_1
              obtain ⟨G2, hG2⟩ : ∃ G, G = wq1.heap.size := ⟨_, rfl⟩
              rw [← hG2] at NB12_2 ⊢
              generalize wq1.alloc (.cells #[.slice none 0 0, .int .i64 0, .int .i64 0, .int .i64 0] 32) = wq2 at hb2 H_2 NO_2 NB12_2 ⊢
              rw [← hG2] at hlt2
              clear hG2 hb2
              refine wpAnyH_ready (rs := [9]) (by kernel_rfl) (by simp) ?_
              refine AllReadyH.cons nat9 (fun K hK => ?_) AllReadyH.nil
              have y0 := NB12_2.cell 0
              have y1 := NB12_2.cell 1
              have y2 := NB12_2.cell 2
              have y3 := NB12_2.cell 3
              simp only [List.getElem?_toArray, List.getElem?_cons_succ, List.getElem?_cons_zero] at y0 y1 y2 y3
              have yf := NB12_2.free
              go_simp
              clear yf y0 y1 y2 y3
              have H_3s0 := H_2.set hlt2 NB12_2 0 (.slice bb1 M.length qq1)
              have NO_3s0 := (show OwnMeta _ _ _ _ from rg_set (o := 0) NO_2 NB12_2 (by decide) (.slice bb1 M.length qq1))
              have NB12_3s0 := NB12_2.set 0 (.slice bb1 M.length qq1)
              have H_3s1 := H_3s0.set hlt2 NB12_3s0 1 (.int .i64 n1)
              have NO_3s1 := (show OwnMeta _ _ _ _ from rg_set (o := 1) NO_3s0 NB12_3s0 (by decide) (.int .i64 n1))
              have NB12_3s1 := NB12_3s0.set 1 (.int .i64 n1)
              have H_3s2 := H_3s1.set hlt2 NB12_3s1 2 (.int .i64 s1)
              have NO_3s2 := (show OwnMeta _ _ _ _ from rg_set (o := 2) NO_3s1 NB12_3s1 (by decide) (.int .i64 s1))
              have NB12_3s2 := NB12_3s1.set 2 (.int .i64 s1)
              have H_3s3 := H_3s2.set hlt2 NB12_3s2 3 (.int .i64 g1)
              have NO_3s3 := (show OwnMeta _ _ _ _ from rg_set (o := 3) NO_3s2 NB12_3s2 (by decide) (.int .i64 g1))
              have NB12_3s3 := NB12_3s2.set 3 (.int .i64 g1)
              have H_3 := H_3s3
              have NO_3 := NO_3s3
              have NB12_3 : BoxIs ((((wq2.setCell ⟨G2, 0, none⟩ (.slice bb1 M.length qq1)).setCell ⟨G2, 1, none⟩ (.int .i64 n1)).setCell ⟨G2, 2, none⟩ (.int .i64 s1)).setCell ⟨G2, 3, none⟩ (.int .i64 g1)) G2 #[.slice bb1 M.length qq1, .int .i64 n1, .int .i64 s1, .int .i64 g1] 32 := NB12_3s3
              refine hK.out _ _ H_3.bN (fun hSz => ?_)
              clear hK K hSz H_2 NB12_2 NO_2 H_3s0 H_3s1 H_3s2 H_3s3 NO_3s0 NO_3s1 NO_3s2 NO_3s3 NB12_3s0 NB12_3s1 NB12_3s2 NB12_3s3
              generalize (((wq2.setCell ⟨G2, 0, none⟩ (.slice bb1 M.length qq1)).setCell ⟨G2, 1, none⟩ (.int .i64 n1)).setCell ⟨G2, 2, none⟩ (.int .i64 s1)).setCell ⟨G2, 3, none⟩ (.int .i64 g1) = wq3 at H_3 NO_3 NB12_3 ⊢
              refine wpAnyH_take (i := 10) (v := .int .i64 rr1) nat10 (by kernel_rfl) (by kernel_rfl) (by kernel_rfl) (fun _ _ _ h => False.elim h) (Or.inl ⟨by rfl, ?_⟩) H_3.bN ?_
              · intro wx hSw
                go_simp
              simp only [Act.put, List.setIfInBounds_toArray, List.set_cons_zero, List.set_cons_succ]
              refine wpAnyH_done (by kernel_rfl) ?_ _
              refine NoPanic.normal ?_
              subst hpk
              go_wp2_with fail
              go_meet
              exact ⟨G2, _, _, _, rfl, rfl, by have := HQ.out.1; first | omega | (rw [show L.length - pL = 0 by omega] at this; omega), hide H_3.S, hide NB12_3, hide NO_3⟩
            · go_simp
              have hlt4 := H_0.bN.lt
              have hb4 := below_one wq0 (.cells #[.slice none 0 0, .int .i64 0, .int .i64 0, .int .i64 0] 32)
              have H_4 := H_0.next hb4
              have NB12_4 := BoxIs.new wq0 #[.slice none 0 0, .int .i64 0, .int .i64 0, .int .i64 0] 32 rfl
              refine hK.out _ _ H_4.bN (fun hSz => ?_)
              clear hK K hSz H_0
              obtain ⟨G4, hG4⟩ : ∃ G, G = wq0.heap.size := ⟨_, rfl⟩
              rw [← hG4] at NB12_4 ⊢
              generalize wq0.alloc (.cells #[.slice none 0 0, .int .i64 0, .int .i64 0, .int .i64 0] 32) = wq4 at hb4 H_4 NB12_4 ⊢
              rw [← hG4] at hlt4
              clear hG4 hb4
              refine wpAnyH_ready (rs := [4]) (by kernel_rfl) (by simp) ?_
              refine AllReadyH.cons nat4 (fun K hK => ?_) AllReadyH.nil
              go_simp
              go_at_call 21
              refine (rep_own (E := fun i => edF L (k + i)) hM1 hkd hFd H_4.oN (.inl (by omega))).mono ?_
              rintro e wq5 ⟨⟨bb5, qq5, MM5, nn5, ss5, gg5, rr5, rfl, om5, hR5, hr5⟩, hb5⟩
              obtain ⟨rfl, rfl, rfl, rfl⟩ := vc_inj (HQ.out.2.symm.trans hR5)
              have H_5 := H_4.next hb5
              have NB12_5 := NB12_4.next hb5
              have NO_5 := om5.base H_4.S.low.size
              refine hK.out _ _ H_5.bN (fun hSz => ?_)
              clear hK K hSz H_4 NB12_4 hb5 om5
              refine wpAnyH_take (i := 5) (v := .tuple #[.agg #[.slice bb5 M.length qq5, .int .i64 n1, .int .i64 s1, .int .i64 g1], .int .i64 rr5]) nat5 (by kernel_rfl) (by kernel_rfl) (by kernel_rfl) (fun _ _ _ h => False.elim h) (Or.inl ⟨by rfl, ?_⟩) H_5.bN ?_
              · intro wx hSw
                go_simp
              simp only [Act.put, List.setIfInBounds_toArray, List.set_cons_zero, List.set_cons_succ]
              refine wpAnyH_take (i := 6) (v := .agg #[.slice bb5 M.length qq5, .int .i64 n1, .int .i64 s1, .int .i64 g1]) nat6 (by kernel_rfl) (by kernel_rfl) (by kernel_rfl) (fun _ _ _ h => False.elim h) (Or.inl ⟨by rfl, ?_⟩) H_5.bN ?_
              · intro wx hSw
                go_simp
              simp only [Act.put, List.setIfInBounds_toArray, List.set_cons_zero, List.set_cons_succ]
              refine wpAnyH_take (i := 7) (v := .int .i64 rr5) nat7 (by kernel_rfl) (by kernel_rfl) (by kernel_rfl) (fun _ _ _ h => False.elim h) (Or.inl ⟨by rfl, ?_⟩) H_5.bN ?_
              · intro wx hSw
                go_simp
              simp only [Act.put, List.setIfInBounds_toArray, List.set_cons_zero, List.set_cons_succ]
              refine wpAnyH_ready (rs := [9]) (by kernel_rfl) (by simp) ?_
              refine AllReadyH.cons nat9 (fun K hK => ?_) AllReadyH.nil
              have y0 := NB12_5.cell 0
              have y1 := NB12_5.cell 1
              have y2 := NB12_5.cell 2
              have y3 := NB12_5.cell 3
              simp only [List.getElem?_toArray, List.getElem?_cons_succ, List.getElem?_cons_zero] at y0 y1 y2 y3
              have yf := NB12_5.free
              go_simp
              clear yf y0 y1 y2 y3
              have H_6s0 := H_5.set hlt4 NB12_5 0 (.slice bb5 M.length qq5)
              have NB12_6s0 := NB12_5.set 0 (.slice bb5 M.length qq5)
              have NO_6s0 := (show OwnMeta _ _ _ _ from rg_set (o := 0) NO_5 NB12_5 (by decide) (.slice bb5 M.length qq5))
              have H_6s1 := H_6s0.set hlt4 NB12_6s0 1 (.int .i64 n1)
              have NB12_6s1 := NB12_6s0.set 1 (.int .i64 n1)
              have NO_6s1 := (show OwnMeta _ _ _ _ from rg_set (o := 1) NO_6s0 NB12_6s0 (by decide) (.int .i64 n1))
              have H_6s2 := H_6s1.set hlt4 NB12_6s1 2 (.int .i64 s1)
              have NB12_6s2 := NB12_6s1.set 2 (.int .i64 s1)
              have NO_6s2 := (show OwnMeta _ _ _ _ from rg_set (o := 2) NO_6s1 NB12_6s1 (by decide) (.int .i64 s1))
              have H_6s3 := H_6s2.set hlt4 NB12_6s2 3 (.int .i64 g1)
              have NB12_6s3 := NB12_6s2.set 3 (.int .i64 g1)
              have NO_6s3 := (show OwnMeta _ _ _ _ from rg_set (o := 3) NO_6s2 NB12_6s2 (by decide) (.int .i64 g1))
              have H_6 := H_6s3
              have NB12_6 : BoxIs ((((wq5.setCell ⟨G4, 0, none⟩ (.slice bb5 M.length qq5)).setCell ⟨G4, 1, none⟩ (.int .i64 n1)).setCell ⟨G4, 2, none⟩ (.int .i64 s1)).setCell ⟨G4, 3, none⟩ (.int .i64 g1)) G4 #[.slice bb5 M.length qq5, .int .i64 n1, .int .i64 s1, .int .i64 g1] 32 := NB12_6s3
              have NO_6 := NO_6s3
              refine hK.out _ _ H_6.bN (fun hSz => ?_)
              clear hK K hSz H_5 NB12_5 NO_5 H_6s0 H_6s1 H_6s2 H_6s3 NB12_6s0 NB12_6s1 NB12_6s2 NB12_6s3 NO_6s0 NO_6s1 NO_6s2 NO_6s3
              generalize (((wq5.setCell ⟨G4, 0, none⟩ (.slice bb5 M.length qq5)).setCell ⟨G4, 1, none⟩ (.int .i64 n1)).setCell ⟨G4, 2, none⟩ (.int .i64 s1)).setCell ⟨G4, 3, none⟩ (.int .i64 g1) = wq6 at H_6 NB12_6 NO_6 ⊢
              refine wpAnyH_take (i := 10) (v := .int .i64 rr5) nat10 (by kernel_rfl) (by kernel_rfl) (by kernel_rfl) (fun _ _ _ h => False.elim h) (Or.inl ⟨by rfl, ?_⟩) H_6.bN ?_
              · intro wx hSw
                go_simp
              simp only [Act.put, List.setIfInBounds_toArray, List.set_cons_zero, List.set_cons_succ]
              refine wpAnyH_done (by kernel_rfl) ?_ _
              refine NoPanic.normal ?_
              subst hpk
              go_wp2_with fail
              go_meet
              exact ⟨G4, _, _, _, rfl, rfl, by have := HQ.out.1; first | omega | (rw [show L.length - pL = 0 by omega] at this; omega), hide H_6.S, hide NB12_6, hide NO_6⟩
          · skip
            refine wp_region_noPanic ?_
            have hb0 : Below wc.heap.size wc wc.drew := (Below.refl _ _).drew
            have H_0 := H0.next hb0
            refine wp_region_held_drew (S := fun x => BoxIs x N #[.slice b1 M1.length q1, .int .i64 n2, .int .i64 s2, .int .i64 g2] 32) (by kernel_rfl) H_0.bN (fun hSz => ?_)
            clear hSz H0
            generalize wc.drew = wq0 at hb0 H_0 ⊢
            clear hb0
            refine wpAnyH_take (i := 0) (v := .agg #[.slice b1 M1.length q1, .int .i64 n2, .int .i64 s2, .int .i64 g2]) nat0 (by kernel_rfl) (by kernel_rfl) (by kernel_rfl) (fun _ _ _ h => False.elim h) (Or.inl ⟨by rfl, ?_⟩) H_0.bN ?_
            · intro wx hSw
              have y0 := hSw.cell 0
              have y1 := hSw.cell 1
              have y2 := hSw.cell 2
              have y3 := hSw.cell 3
              simp only [List.getElem?_toArray, List.getElem?_cons_succ, List.getElem?_cons_zero] at y0 y1 y2 y3
              go_simp
            simp only [Act.put, List.setIfInBounds_toArray, List.set_cons_zero, List.set_cons_succ]
            refine wpAnyH_take (i := 1) (v := .slice (some ⟨gL, 0, none⟩) L.length pL) nat1 (by kernel_rfl) (by kernel_rfl) (by kernel_rfl) (fun _ _ _ h => False.elim h) (Or.inl ⟨by rfl, ?_⟩) H_0.bN ?_
            · intro wx hSw
              go_simp
            simp only [Act.put, List.setIfInBounds_toArray, List.set_cons_zero, List.set_cons_succ]
            refine wpAnyH_take (i := 2) (v := .int .i64 ((k : Int))) nat2 (by kernel_rfl) (by kernel_rfl) (by kernel_rfl) (fun _ _ _ h => False.elim h) (Or.inl ⟨by rfl, ?_⟩) H_0.bN ?_
            · intro wx hSw
              go_simp
            simp only [Act.put, List.setIfInBounds_toArray, List.set_cons_zero, List.set_cons_succ]
            refine wpAnyH_take (i := 3) (v := .slice (some ⟨gL, k * 5, none⟩) ((L.length - k)) ((pL - k))) nat3 (by kernel_rfl) (by kernel_rfl) (by kernel_rfl) (fun _ _ _ h => False.elim h) (Or.inl ⟨by rfl, ?_⟩) H_0.bN ?_
            · intro wx hSw
              go_simp
            simp only [Act.put, List.setIfInBounds_toArray, List.set_cons_zero, List.set_cons_succ]
            refine wpAnyH_ready (rs := [4, 8]) (by kernel_rfl) (by simp) ?_
            refine AllReadyH.cons nat4 (fun K hK => ?_) (AllReadyH.cons nat8 (fun K hK => ?_) AllReadyH.nil)
            · go_simp
              go_at_call 21
              refine (rep_own (E := fun i => edF L (k + i)) hM1 hkd hFd H_0.oN (H_0.S.ol.src.drop)).mono ?_
              rintro e wq1 ⟨⟨bb1, qq1, MM1, nn1, ss1, gg1, rr1, rfl, om1, hR1, hr1⟩, hb1⟩
              obtain ⟨rfl, rfl, rfl, rfl⟩ := vc_inj (HQ.out.2.symm.trans hR1)
              have H_1 := H_0.next hb1
              have NO_1 := om1.base H_0.S.low.size
              refine hK.out _ _ H_1.bN (fun hSz => ?_)
              clear hK K hSz H_0 hb1 om1
              refine wpAnyH_take (i := 5) (v := .tuple #[.agg #[.slice bb1 M.length qq1, .int .i64 n1, .int .i64 s1, .int .i64 g1], .int .i64 rr1]) nat5 (by kernel_rfl) (by kernel_rfl) (by kernel_rfl) (fun _ _ _ h => False.elim h) (Or.inl ⟨by rfl, ?_⟩) H_1.bN ?_
              · intro wx hSw
                go_simp
              simp only [Act.put, List.setIfInBounds_toArray, List.set_cons_zero, List.set_cons_succ]
              refine wpAnyH_take (i := 6) (v := .agg #[.slice bb1 M.length qq1, .int .i64 n1, .int .i64 s1, .int .i64 g1]) nat6 (by kernel_rfl) (by kernel_rfl) (by kernel_rfl) (fun _ _ _ h => False.elim h) (Or.inl ⟨by rfl, ?_⟩) H_1.bN ?_
              · intro wx hSw
                go_simp
              simp only [Act.put, List.setIfInBounds_toArray, List.set_cons_zero, List.set_cons_succ]
              refine wpAnyH_take (i := 7) (v := .int .i64 rr1) nat7 (by kernel_rfl) (by kernel_rfl) (by kernel_rfl) (fun _ _ _ h => False.elim h) (Or.inl ⟨by rfl, ?_⟩) H_1.bN ?_
              · intro wx hSw
                go_simp
              simp only [Act.put, List.setIfInBounds_toArray, List.set_cons_zero, List.set_cons_succ]
              refine wpAnyH_ready (rs := [8]) (by kernel_rfl) (by simp) ?_
              refine AllReadyH.cons nat8 (fun K hK => ?_) AllReadyH.nil
              go_simp
              have hlt2 := H_1.bN.lt
              have hb2 := below_one wq1 (.cells #[.slice none 0 0, .int .i64 0, .int .i64 0, .int .i64 0] 32)
              have H_2 := H_1.next hb2
              have NO_2 := NO_1.next hb2
              have NB12_2 := BoxIs.new wq1 #[.slice none 0 0, .int .i64 0, .int .i64 0, .int .i64 0] 32 rfl
              refine hK.out _ _ H_2.bN (fun hSz => ?_)
              clear hK K hSz H_1 NO_1
              obtain ⟨G2, hG2⟩ : ∃ G, G = wq1.heap.size := ⟨_, rfl⟩
              rw [← hG2] at NB12_2 ⊢
              generalize wq1.alloc (.cells #[.slice none 0 0, .int .i64 0, .int .i64 0, .int .i64 0] 32) = wq2 at hb2 H_2 NO_2 NB12_2 ⊢
              rw [← hG2] at hlt2
              clear hG2 hb2
              refine wpAnyH_ready (rs := [9]) (by kernel_rfl) (by simp) ?_
              refine AllReadyH.cons nat9 (fun K hK => ?_) AllReadyH.nil
              have y0 := NB12_2.cell 0
              have y1 := NB12_2.cell 1
              have y2 := NB12_2.cell 2
              have y3 := NB12_2.cell 3
              simp only [List.getElem?_toArray, List.getElem?_cons_succ, List.getElem?_cons_zero] at y0 y1 y2 y3
              have yf := NB12_2.free
              go_simp
              clear yf y0 y1 y2 y3
              have H_3s0 := H_2.set hlt2 NB12_2 0 (.slice bb1 M.length qq1)
              have NO_3s0 := (show OwnMeta _ _ _ _ from rg_set (o := 0) NO_2 NB12_2 (by decide) (.slice bb1 M.length qq1))
              have NB12_3s0 := NB12_2.set 0 (.slice bb1 M.length qq1)
              have H_3s1 := H_3s0.set hlt2 NB12_3s0 1 (.int .i64 n1)
              have NO_3s1 := (show OwnMeta _ _ _ _ from rg_set (o := 1) NO_3s0 NB12_3s0 (by decide) (.int .i64 n1))
              have NB12_3s1 := NB12_3s0.set 1 (.int .i64 n1)
              have H_3s2 := H_3s1.set hlt2 NB12_3s1 2 (.int .i64 s1)
              have NO_3s2 := (show OwnMeta _ _ _ _ from rg_set (o := 2) NO_3s1 NB12_3s1 (by decide) (.int .i64 s1))
              have NB12_3s2 := NB12_3s1.set 2 (.int .i64 s1)
              have H_3s3 := H_3s2.set hlt2 NB12_3s2 3 (.int .i64 g1)
              have NO_3s3 := (show OwnMeta _ _ _ _ from rg_set (o := 3) NO_3s2 NB12_3s2 (by decide) (.int .i64 g1))
              have NB12_3s3 := NB12_3s2.set 3 (.int .i64 g1)
              have H_3 := H_3s3
              have NO_3 := NO_3s3
              have NB12_3 : BoxIs ((((wq2.setCell ⟨G2, 0, none⟩ (.slice bb1 M.length qq1)).setCell ⟨G2, 1, none⟩ (.int .i64 n1)).setCell ⟨G2, 2, none⟩ (.int .i64 s1)).setCell ⟨G2, 3, none⟩ (.int .i64 g1)) G2 #[.slice bb1 M.length qq1, .int .i64 n1, .int .i64 s1, .int .i64 g1] 32 := NB12_3s3
              refine hK.out _ _ H_3.bN (fun hSz => ?_)
              clear hK K hSz H_2 NB12_2 NO_2 H_3s0 H_3s1 H_3s2 H_3s3 NO_3s0 NO_3s1 NO_3s2 NO_3s3 NB12_3s0 NB12_3s1 NB12_3s2 NB12_3s3
              generalize (((wq2.setCell ⟨G2, 0, none⟩ (.slice bb1 M.length qq1)).setCell ⟨G2, 1, none⟩ (.int .i64 n1)).setCell ⟨G2, 2, none⟩ (.int .i64 s1)).setCell ⟨G2, 3, none⟩ (.int .i64 g1) = wq3 at H_3 NO_3 NB12_3 ⊢
              refine wpAnyH_take (i := 10) (v := .int .i64 rr1) nat10 (by kernel_rfl) (by kernel_rfl) (by kernel_rfl) (fun _ _ _ h => False.elim h) (Or.inl ⟨by rfl, ?_⟩) H_3.bN ?_
              · intro wx hSw
                go_simp
              simp only [Act.put, List.setIfInBounds_toArray, List.set_cons_zero, List.set_cons_succ]
              refine wpAnyH_done (by kernel_rfl) ?_ _
              refine NoPanic.normal ?_
              go_wp2_with fail
              go_meet
              exact ⟨G2, _, _, _, rfl, rfl, by have := HQ.out.1; first | omega | (rw [show L.length - pL = 0 by omega] at this; omega), hide H_3.S, hide NB12_3, hide NO_3⟩
            · go_simp
              have hlt4 := H_0.bN.lt
              have hb4 := below_one wq0 (.cells #[.slice none 0 0, .int .i64 0, .int .i64 0, .int .i64 0] 32)
              have H_4 := H_0.next hb4
              have NB12_4 := BoxIs.new wq0 #[.slice none 0 0, .int .i64 0, .int .i64 0, .int .i64 0] 32 rfl
              refine hK.out _ _ H_4.bN (fun hSz => ?_)
              clear hK K hSz H_0
              obtain ⟨G4, hG4⟩ : ∃ G, G = wq0.heap.size := ⟨_, rfl⟩
              rw [← hG4] at NB12_4 ⊢
              generalize wq0.alloc (.cells #[.slice none 0 0, .int .i64 0, .int .i64 0, .int .i64 0] 32) = wq4 at hb4 H_4 NB12_4 ⊢
              rw [← hG4] at hlt4
              clear hG4 hb4
              refine wpAnyH_ready (rs := [4]) (by kernel_rfl) (by simp) ?_
              refine AllReadyH.cons nat4 (fun K hK => ?_) AllReadyH.nil
              go_simp
              go_at_call 21
              refine (rep_own (E := fun i => edF L (k + i)) hM1 hkd hFd H_4.oN (H_4.S.ol.src.drop)).mono ?_
              rintro e wq5 ⟨⟨bb5, qq5, MM5, nn5, ss5, gg5, rr5, rfl, om5, hR5, hr5⟩, hb5⟩
              obtain ⟨rfl, rfl, rfl, rfl⟩ := vc_inj (HQ.out.2.symm.trans hR5)
              have H_5 := H_4.next hb5
              have NB12_5 := NB12_4.next hb5
              have NO_5 := om5.base H_4.S.low.size
              refine hK.out _ _ H_5.bN (fun hSz => ?_)
              clear hK K hSz H_4 NB12_4 hb5 om5
              refine wpAnyH_take (i := 5) (v := .tuple #[.agg #[.slice bb5 M.length qq5, .int .i64 n1, .int .i64 s1, .int .i64 g1], .int .i64 rr5]) nat5 (by kernel_rfl) (by kernel_rfl) (by kernel_rfl) (fun _ _ _ h => False.elim h) (Or.inl ⟨by rfl, ?_⟩) H_5.bN ?_
              · intro wx hSw
                go_simp
              simp only [Act.put, List.setIfInBounds_toArray, List.set_cons_zero, List.set_cons_succ]
              refine wpAnyH_take (i := 6) (v := .agg #[.slice bb5 M.length qq5, .int .i64 n1, .int .i64 s1, .int .i64 g1]) nat6 (by kernel_rfl) (by kernel_rfl) (by kernel_rfl) (fun _ _ _ h => False.elim h) (Or.inl ⟨by rfl, ?_⟩) H_5.bN ?_
              · intro wx hSw
                go_simp
              simp only [Act.put, List.setIfInBounds_toArray, List.set_cons_zero, List.set_cons_succ]
              refine wpAnyH_take (i := 7) (v := .int .i64 rr5) nat7 (by kernel_rfl) (by kernel_rfl) (by kernel_rfl) (fun _ _ _ h => False.elim h) (Or.inl ⟨by rfl, ?_⟩) H_5.bN ?_
              · intro wx hSw
                go_simp
              simp only [Act.put, List.setIfInBounds_toArray, List.set_cons_zero, List.set_cons_succ]
              refine wpAnyH_ready (rs := [9]) (by kernel_rfl) (by simp) ?_
              refine AllReadyH.cons nat9 (fun K hK => ?_) AllReadyH.nil
              have y0 := NB12_5.cell 0
              have y1 := NB12_5.cell 1
              have y2 := NB12_5.cell 2
              have y3 := NB12_5.cell 3
              simp only [List.getElem?_toArray, List.getElem?_cons_succ, List.getElem?_cons_zero] at y0 y1 y2 y3
              have yf := NB12_5.free
              go_simp
              clear yf y0 y1 y2 y3
              have H_6s0 := H_5.set hlt4 NB12_5 0 (.slice bb5 M.length qq5)
              have NB12_6s0 := NB12_5.set 0 (.slice bb5 M.length qq5)
              have NO_6s0 := (show OwnMeta _ _ _ _ from rg_set (o := 0) NO_5 NB12_5 (by decide) (.slice bb5 M.length qq5))
              have H_6s1 := H_6s0.set hlt4 NB12_6s0 1 (.int .i64 n1)
              have NB12_6s1 := NB12_6s0.set 1 (.int .i64 n1)
              have NO_6s1 := (show OwnMeta _ _ _ _ from rg_set (o := 1) NO_6s0 NB12_6s0 (by decide) (.int .i64 n1))
              have H_6s2 := H_6s1.set hlt4 NB12_6s1 2 (.int .i64 s1)
              have NB12_6s2 := NB12_6s1.set 2 (.int .i64 s1)
              have NO_6s2 := (show OwnMeta _ _ _ _ from rg_set (o := 2) NO_6s1 NB12_6s1 (by decide) (.int .i64 s1))
              have H_6s3 := H_6s2.set hlt4 NB12_6s2 3 (.int .i64 g1)
              have NB12_6s3 := NB12_6s2.set 3 (.int .i64 g1)
              have NO_6s3 := (show OwnMeta _ _ _ _ from rg_set (o := 3) NO_6s2 NB12_6s2 (by decide) (.int .i64 g1))
              have H_6 := H_6s3
              have NB12_6 : BoxIs ((((wq5.setCell ⟨G4, 0, none⟩ (.slice bb5 M.length qq5)).setCell ⟨G4, 1, none⟩ (.int .i64 n1)).setCell ⟨G4, 2, none⟩ (.int .i64 s1)).setCell ⟨G4, 3, none⟩ (.int .i64 g1)) G4 #[.slice bb5 M.length qq5, .int .i64 n1, .int .i64 s1, .int .i64 g1] 32 := NB12_6s3
              have NO_6 := NO_6s3
              refine hK.out _ _ H_6.bN (fun hSz => ?_)
              clear hK K hSz H_5 NB12_5 NO_5 H_6s0 H_6s1 H_6s2 H_6s3 NB12_6s0 NB12_6s1 NB12_6s2 NB12_6s3 NO_6s0 NO_6s1 NO_6s2 NO_6s3
              generalize (((wq5.setCell ⟨G4, 0, none⟩ (.slice bb5 M.length qq5)).setCell ⟨G4, 1, none⟩ (.int .i64 n1)).setCell ⟨G4, 2, none⟩ (.int .i64 s1)).setCell ⟨G4, 3, none⟩ (.int .i64 g1) = wq6 at H_6 NB12_6 NO_6 ⊢
              refine wpAnyH_take (i := 10) (v := .int .i64 rr5) nat10 (by kernel_rfl) (by kernel_rfl) (by kernel_rfl) (fun _ _ _ h => False.elim h) (Or.inl ⟨by rfl, ?_⟩) H_6.bN ?_
              · intro wx hSw
                go_simp
              simp only [Act.put, List.setIfInBounds_toArray, List.set_cons_zero, List.set_cons_succ]
              refine wpAnyH_done (by kernel_rfl) ?_ _
              refine NoPanic.normal ?_
              go_wp2_with fail
              go_meet
              exact ⟨G4, _, _, _, rfl, rfl, by have := HQ.out.1; first | omega | (rw [show L.length - pL = 0 by omega] at this; omega), hide H_6.S, hide NB12_6, hide NO_6⟩
        case rest =>
        obtain ⟨N2, b3, q3, r3, rfl, rfl, hr3, HS5, BX, OX⟩ := hcut
        clear HT
        have x0 := BX.out.cell 0
        have y0 := HS5.out.b5.cell 0
        simp only [List.getElem?_toArray, List.getElem?_cons_succ, List.getElem?_cons_zero] at x0 y0
        have hwr3 : IntKind.i64.wrap ((k : Int) + r3) = r := by rw [hr3]; exact hwr
        go_wp2_with fail
        clear x0 y0
        refine (sameM_own hl2 OX.out HS5.out.om).mono ?_
        rintro e w6 ⟨rfl, hb6⟩
        have HS6 := hide (HS5.out.next hb6)
        have BX6 := (BX.out.next hb6).hid
        clear HS5 BX OX hb6
        have x1 := BX6.out.cell 1
        have x2 := BX6.out.cell 2
        have x3 := BX6.out.cell 3
        have y1 := HS6.out.b5.cell 1
        have y2 := HS6.out.b5.cell 2
        have y3 := HS6.out.b5.cell 3
        simp only [List.getElem?_toArray, List.getElem?_cons_succ, List.getElem?_cons_zero] at x1 x2 x3 y1 y2 y3
        go_wp2
        go_ret
        exact ⟨by simp, HS6.out.low⟩

end Go.Proofs.Ytplbhgcibfajaaa
