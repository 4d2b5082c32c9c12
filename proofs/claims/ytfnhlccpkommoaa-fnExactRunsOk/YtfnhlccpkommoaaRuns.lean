/- Rows of runs: those that came in, the copies that the laws make; their size, and that two are alike. -/
import Derived.Test.YtfnhlccpkommoaaLEntsOk
import Derived.Test.YtfnhlccpkommoaaRowArg
import Derived.Test.YtfnhlccpkommoaaBox
import Derived.Test.YtfnhlccpkommoaaReg
import Derived.Deep.RegionHeld3
namespace Go.Proofs.Ytfnhlccpkommoaa
set_option maxRecDepth 100000
open Go.RowKit Go.Deep

/-- The runs of a row: their lengths and entries, by their places. -/
structure RunsC where
  L : Nat → Nat
  E : Nat → Ents
/-- A row of n runs, in memory below block B. -/
def RunAt (w : World) (B : Nat) (a : Option Addr) (n : Nat) (R : RunsC) : Prop :=
  n = 0 ∨ ∃ b off, a = some ⟨b, off, none⟩ ∧ b < B ∧ ∀ i, i < n → ∃ x c, w.cell? ⟨b, off + i, none⟩ = some (.slice x (R.L i) c) ∧ EntAt w B x (R.L i) (R.E i)
theorem RunAt.below {w w' : World} {B : Nat} {a : Option Addr} {n : Nat} {R : RunsC} (h : RunAt w B a n R) (hb : Below B w w') : RunAt w' B a n R := by
  rcases h with h | ⟨b, off, e, hB, hc⟩
  · exact .inl h
  · refine .inr ⟨b, off, e, hB, fun i hi => ?_⟩
    obtain ⟨x, c, h1, h2⟩ := hc i hi
    exact ⟨x, c, (hb.cell (p := ⟨b, _, none⟩) hB).trans h1, h2.below hb⟩
theorem RunAt.mono {w : World} {B B' : Nat} {a : Option Addr} {n : Nat} {R : RunsC} (h : RunAt w B a n R) (hB : B ≤ B') : RunAt w B' a n R := by
  rcases h with h | ⟨b, off, e, hb, hc⟩
  · exact .inl h
  · refine .inr ⟨b, off, e, by omega, fun i hi => ?_⟩
    obtain ⟨x, c, h1, h2⟩ := hc i hi
    exact ⟨x, c, h1, h2.mono hB⟩
theorem RunAt.next {w w' : World} {a : Option Addr} {n : Nat} {R : RunsC} (h : RunAt w w.heap.size a n R) (hb : Below w.heap.size w w') : RunAt w' w'.heap.size a n R := (h.below hb).mono hb.size
theorem RunAt.hid {w : World} {B : Nat} {a : Option Addr} {n : Nat} {R : RunsC} (h : RunAt w B a n R) : Hid (RunAt w B a n R) := h
theorem RunAt.at {w : World} {B : Nat} {a : Option Addr} {n : Nat} {R : RunsC} (h : RunAt w B a n R) {i : Nat} (hi : i < n) :
    ∃ b off x c, a = some ⟨b, off, none⟩ ∧ b < B ∧ w.cell? ⟨b, off + i, none⟩ = some (.slice x (R.L i) c) ∧ EntAt w B x (R.L i) (R.E i) := by
  rcases h with h | ⟨b, off, e, hb, hc⟩
  · omega
  · obtain ⟨x, c, h1, h2⟩ := hc i hi
    exact ⟨b, off, x, c, e, hb, h1, h2⟩

/-- Its texts and lengths are within reach. -/
def EntSm (n : Nat) (E : Ents) : Prop := n ≤ maxLen ∧ ∀ i, i < n → (E.U i).size ≤ maxLen ∧ (E.X i).size ≤ maxLen
/-- What the laws let by. -/
def RunFit (n : Nat) (R : RunsC) : Prop := n ≤ 1048576 ∧ ∀ i, i < n → R.L i ≤ 1048576

theorem laws_szRun (a : Option Addr) (len cap : Nat) (E : Ents) (l : Int) (w : World) (hs : EntSm len E) (h0 : 0 ≤ l) (h1 : l ≤ 1048576) (hS : EntAt w w.heap.size a len E) :
    Calls Try.prog 50 #[.agg #[.slice a len cap], .int .i64 l] w fun e w' => (∃ r : Int, e = .returned (.int .i64 r) ∧ (r < 0 ∨ (0 ≤ r ∧ r ≤ l ∧ (len : Int) ≤ l))) ∧ Below w.heap.size w w' := by
  have hb1 := below_one w (.cells #[.slice a len cap] 78)
  have hS' := hS.next hb1
  have HB0 := hide hb1
  clear hb1 hS
  go_enter Try.func50, Try.ntmps50
  go_wp2_with fail
  refine (laws_szEntryS a len cap E l _ hs.1 hs.2 h0 h1 hS').mono ?_
  rintro e w1 ⟨⟨r, rfl, hr⟩, hB⟩
  have HB : Hid (Below w.heap.size w w1) := HB0.out.trans (hB.mono HB0.out.size)
  clear hB hS' hs
  rcases hr with hr | ⟨hr0, hr1, hr2⟩
  · go_wp2
    go_ret
    exact ⟨⟨-1, rfl, .inl (by omega)⟩, HB.out⟩
  · have hr3 : ¬ (r < 0) := by omega
    go_wp2
    go_ret
    exact ⟨⟨r, rfl, Or.inr ⟨hr0, hr1, hr2⟩⟩, HB.out⟩

set_option linter.unusedVariables false in
set_option maxHeartbeats 1000000 in
theorem laws_szRunS (a : Option Addr) (n cap : Nat) (R : RunsC) (l : Int) (w : World) (hn : n ≤ maxLen) (hs : ∀ i, i < n → EntSm (R.L i) (R.E i)) (h0 : 0 ≤ l) (h1 : l ≤ 1048576) (hS : RunAt w w.heap.size a n R) :
    Calls Try.prog 23 #[.slice a n cap, .int .i64 l] w fun e w' => (∃ r : Int, e = .returned (.int .i64 r) ∧ (r < 0 ∨ (0 ≤ r ∧ RunFit n R))) ∧ Below w.heap.size w w' := by
  unfold maxLen at hn
  have HSz := hide hs
  clear hs
  by_cases hbig : l < (n : Int)
  · have hx : l - (n : Int) < 0 := by omega
    go_enter Try.func23, Try.ntmps23
    go_wp2
    go_ret
    exact ⟨⟨-1, rfl, .inl (by omega)⟩, Below.refl _ _⟩
  · have hx : ¬ (l - (n : Int) < 0) := by omega
    have HS := hS.hid
    have HB0 : Hid (Below w.heap.size w w) := Below.refl _ _
    clear hS
    go_enter Try.func23, Try.ntmps23
    go_wp2
    go_loopw [1, 5] (fun r i wr => ∃ (k : Nat) (x : Int), r = .int .i64 x ∧ i = .int .i64 k ∧ k ≤ n ∧ 0 ≤ x ∧ x ≤ 1048576 ∧ Hid (∀ i, i < k → R.L i ≤ 1048576) ∧ Hid (Below w.heap.size w wr)) (fun _ i _ => n - (intOf i).toNat)
    case atStart => exact ⟨0, l - n, rfl, rfl, by omega, by omega, by omega, fun _ h => absurd h (by omega), HB0⟩
    case round =>
      obtain ⟨k, x, rfl, rfl, hk, hx0, hx1, HF, HB⟩ := hrel
      clear HB0
      by_cases hlt : k < n
      · obtain ⟨b, off, ra, rc, rfl, hb, c0, hE⟩ := (HS.out.next HB.out).at hlt
        have hki : (k : Int) < (n : Int) := by omega
        have HE := hide hE
        clear hE
        go_wp2_with fail
        refine (laws_szRun ra (R.L k) rc (R.E k) x wr (HSz.out k hlt) hx0 hx1 HE.out).mono ?_
        rintro e w1 ⟨⟨r, rfl, hr⟩, hB1⟩
        have HB1 := hide (HB.out.trans (hB1.mono HB.out.size))
        clear hB1 c0
        rcases hr with hr | ⟨hr0, hr1, hr2⟩
        · go_wp2
          go_ret
          exact ⟨⟨-1, rfl, .inl (by omega)⟩, HB1.out⟩
        · have hr3 : ¬ (r < 0) := by omega
          have hrx : r ≤ 1048576 := by omega
          have HF2 : Hid (∀ i, i < k + 1 → R.L i ≤ 1048576) := fun i hi => by
            rcases Nat.lt_or_eq_of_le (Nat.le_of_lt_succ hi) with h | h
            · exact HF.out i h
            · subst h; omega
          clear hr1 hr2
          go_wp2
          exact ⟨⟨k + 1, r, rfl, by go_num, by omega, hr0, hrx, HF2, HB1⟩, by simp [intOf]; omega⟩
      · obtain rfl : k = n := by omega
        have HFF : Hid (RunFit k R) := ⟨by omega, HF.out⟩
        go_wp2
        go_ret
        exact ⟨⟨x, rfl, .inr ⟨hx0, HFF.out⟩⟩, HB.out⟩

theorem laws_toRun (a : Option Addr) (len cap : Nat) (E : Ents) (w : World) (hl : len ≤ 1048576) (hS : EntAt w w.heap.size a len E) :
    Calls Try.prog 51 #[.agg #[.slice a len cap]] w fun e w' => ∃ g, e = .returned (.agg #[.slice (some ⟨g, 0, none⟩) len len]) ∧ w.heap.size ≤ g ∧ w'.rowIs g 57 (len * 4) (entCell E) ∧ Below w.heap.size w w' := by
  have HS := hS.hid
  clear hS
  have hB0 : Below w.heap.size w (((w.alloc (.cells #[.slice a len cap] 78)).alloc (.cells #[.slice none 0 0] 53)).alloc (.cells #[.slice none 0 0] 53)) :=
    (((Below.refl _ _).alloc (Nat.le_refl _) _).alloc (by simp) _).alloc (by simp; omega) _
  have b1 : BoxIs (((w.alloc (.cells #[.slice a len cap] 78)).alloc (.cells #[.slice none 0 0] 53)).alloc (.cells #[.slice none 0 0] 53)) (w.heap.size + 1) #[.slice none 0 0] 53 :=
    (BoxIs.new (w.alloc (.cells #[.slice a len cap] 78)) _ _ (by simp)).next ((Below.refl _ _).alloc (Nat.le_refl _) _)
  have b2 : BoxIs (((w.alloc (.cells #[.slice a len cap] 78)).alloc (.cells #[.slice none 0 0] 53)).alloc (.cells #[.slice none 0 0] 53)) (w.heap.size + 2) #[.slice none 0 0] 53 :=
    BoxIs.new _ _ _ (by simp)
  go_enter Try.func51, Try.ntmps51
  go_wp2_with fail
  generalize ((w.alloc (.cells #[.slice a len cap] 78)).alloc (.cells #[.slice none 0 0] 53)).alloc (.cells #[.slice none 0 0] 53) = W at hB0 b1 b2 ⊢
  have hz1 := b1.lt
  have hz2 := b2.lt
  refine (laws_toEntryS a len cap E W hl (HS.out.next hB0)).mono ?_
  rintro e w1 ⟨rfl, hrow, hB1⟩
  have HR := hidRowB hrow
  have HB1 : Hid (Below w.heap.size w w1) := hB0.trans (hB1.mono hB0.size)
  have k1 := b1.next hB1
  have k2 := b2.next hB1
  have x0 : w1.cell? ⟨w.heap.size + 1, 0, none⟩ = some (.slice none 0 0) := k1.cell 0
  have xf := k1.free
  have y0 : w1.cell? ⟨w.heap.size + 1 + 1, 0, none⟩ = some (.slice none 0 0) := k2.cell 0
  have yf := k2.free
  have hg : w.heap.size ≤ W.heap.size := hB0.size
  have hne : W.heap.size ≠ w.heap.size + 1 := by omega
  have hne2 : W.heap.size ≠ w.heap.size + 1 + 1 := by omega
  clear hrow hB1 k1 k2 b1 b2 hB0
  go_wp2
  refine bodyPost_ret (v := .agg #[.slice (some ⟨W.heap.size, 0, none⟩) len len]) (by simp [results, Try.results51, go_sem, x0]) rfl ⟨W.heap.size, rfl, hg, ?_, ?_⟩
  · refine HR.out.of_block ?_
    rw [Below.heap_setCell _ _ _ _ (by simpa using hne), Below.heap_setCell _ _ _ _ (by simpa using hne2)]
  · exact ((HB1.out.setCell (by simp; omega) _).setCell (by simp) _)

/-- The copy of a row of runs, as far as it has come. -/
structure RCopy (w0 w : World) (gR n k : Nat) (R : RunsC) (G : Nat → Nat) : Prop where
  row : w.rowIs gR 53 n (fun i => if i < k then .slice (some ⟨G i, 0, none⟩) (R.L i) (R.L i) else .slice none 0 0)
  each : ∀ i, i < k → gR < G i ∧ w.rowIs (G i) 57 (R.L i * 4) (entCell (R.E i))
  low : Below w0.heap.size w0 w
theorem RCopy.next {w0 w w' : World} {gR n k : Nat} {R : RunsC} {G : Nat → Nat} (h : RCopy w0 w gR n k R G) (hb : Below w.heap.size w w') : RCopy w0 w' gR n k R G :=
  ⟨entRow_below h.row hb h.row.lt, fun i hi => ⟨(h.each i hi).1, entRow_below (h.each i hi).2 hb (h.each i hi).2.lt⟩, h.low.trans (hb.mono h.low.size)⟩
theorem RCopy.step {w0 w : World} {gR n k g : Nat} {R : RunsC} {G : Nat → Nat} (h : RCopy w0 w gR n k R G) (hw : w0.heap.size ≤ gR) (hg : gR < g) (hr : w.rowIs g 57 (R.L k * 4) (entCell (R.E k))) :
    RCopy w0 (w.setCell ⟨gR, k, none⟩ (.slice (some ⟨g, 0, none⟩) (R.L k) (R.L k))) gR n (k + 1) R (fun i => if i = k then g else G i) := by
  refine ⟨(h.row.set k _).congr fun i _ => ?_, fun i hi => ?_, h.low.setCell (p := ⟨gR, k, none⟩) hw _⟩
  · by_cases e : i = k
    · subst e; rw [if_pos rfl, if_pos (by omega), if_pos rfl]
    · rw [if_neg e]
      by_cases hl : i < k
      · rw [if_pos hl, if_pos (by omega), if_neg e]
      · rw [if_neg hl, if_neg (by omega)]
  · by_cases e : i = k
    · subst e
      rw [if_pos rfl]
      exact ⟨hg, rowIs_set hr (by show gR ≠ g; omega) _⟩
    · rw [if_neg e]
      obtain ⟨h1, h2⟩ := h.each i (by omega)
      exact ⟨h1, rowIs_set h2 (by show gR ≠ G i; omega) _⟩
theorem RCopy.at' {w0 w : World} {gR n : Nat} {R : RunsC} {G : Nat → Nat} (h : RCopy w0 w gR n n R G) : RunAt w w.heap.size (some ⟨gR, 0, none⟩) n R := by
  refine .inr ⟨gR, 0, rfl, h.row.lt, fun i hi => ?_⟩
  refine ⟨some ⟨G i, 0, none⟩, R.L i, ?_, entAt_row (h.each i hi).2 (h.each i hi).2.lt⟩
  rw [Nat.zero_add, h.row.cell hi, if_pos hi]

set_option linter.unusedVariables false in
set_option maxHeartbeats 1000000 in
theorem laws_toRunS (a : Option Addr) (n cap : Nat) (R : RunsC) (w : World) (hf : RunFit n R) (hS : RunAt w w.heap.size a n R) :
    Calls Try.prog 25 #[.slice a n cap] w fun e w' => e = .returned (.slice (some ⟨w.heap.size, 0, none⟩) n n) ∧ ∃ G, RCopy w w' w.heap.size n n R G := by
  obtain ⟨hn, hl⟩ := hf
  have HL := hide hl
  have hi9 : (Try.prog.info? 53).map (fun i => (i.zero, i.size, i.bytes)) = some (some (.agg #[.slice none 0 0]), 1, 24) := by kernel_rfl
  obtain ⟨i0, hi0, hz0, hz1, hz2⟩ := info_parts hi9
  have hmk : ∀ W : World, (Instr.makeSlice 42 (.int .i64 (n : Int)) (.int .i64 (n : Int))).run Try.prog W = .ok (.slice (some ⟨W.heap.size, 0, none⟩) n n) (W.alloc (.cells (madeCells #[Value.slice none 0 0] n) 53)) := fun W => by
    have := run_make (P := Try.prog) W 42 53 i0 _ Try.underlying42 hi0 hz0 .i64 .i64 n n (by omega) (Int.le_refl _) (by rw [hz2]; omega) (by omega)
    rw [hz1] at this
    simpa [Value.cells] using this
  have HR0 : Hid (RCopy w (w.alloc (.cells (madeCells #[Value.slice none 0 0] n) 53)) w.heap.size n 0 R (fun _ => 0)) :=
    ⟨(World.rowIs_made w _ n _).congr fun i hi => by rw [if_neg (by omega)], fun i hi => absurd hi (by omega), below_one w _⟩
  have HS := hS.hid
  clear hS hi9 hi0 hz0 hz1 hz2 hl
  go_enter Try.func25, Try.ntmps25
  go_wp2
  generalize w.alloc (.cells (madeCells #[Value.slice none 0 0] n) 53) = w0 at HR0 ⊢
  clear hmk
  go_loopw [4] (fun i wr => ∃ (k : Nat) (G : Nat → Nat), i = .int .i64 k ∧ k ≤ n ∧ Hid (RCopy w wr w.heap.size n k R G)) (fun i _ => n - (intOf i).toNat)
  case atStart => exact ⟨0, _, rfl, by omega, HR0⟩
  case round =>
    obtain ⟨k, G, rfl, hk, HR⟩ := hrel
    clear HR0
    by_cases hlt : k < n
    · have hgl := HR.out.row.lt
      obtain ⟨b, off, ra, rc, rfl, hb, c0, hE⟩ := (HS.out.next HR.out.low).at hlt
      have hki : (k : Int) < (n : Int) := by omega
      have HE := hide hE
      clear hE
      go_wp2_with fail
      refine (laws_toRun ra (R.L k) rc (R.E k) wr (HL.out k hlt) HE.out).mono ?_
      rintro e w1 ⟨g, rfl, hg, hrow, hB1⟩
      have HR1 := hide (HR.out.next hB1)
      have d0 : w1.cell? ⟨w.heap.size, k, none⟩ = some (.slice none 0 0) := by rw [HR1.out.row.cell hlt, if_neg (by omega)]
      have hfr := HR1.out.row.frozen k
      have HR2 := hide (HR1.out.step (Nat.le_refl _) (by omega) hrow)
      clear hrow hB1 HR HR1 c0 HE
      go_wp2
      exact ⟨⟨k + 1, _, by go_num, by omega, HR2⟩, by simp [intOf]; omega⟩
    · obtain rfl : k = n := by omega
      go_wp2
      go_ret
      exact ⟨rfl, G, HR.out⟩

theorem laws_eqRun (a b : Option Addr) (len ca cb : Nat) (E : Ents) (w : World) (hl : len ≤ 1048576) (ha : EntAt w w.heap.size a len E) (hb : EntAt w w.heap.size b len E) :
    Calls Try.prog 53 #[.agg #[.slice a len ca], .agg #[.slice b len cb]] w fun e w' => e = .returned (.bool true) ∧ Below w.heap.size w w' := by
  have hB0 : Below w.heap.size w ((w.alloc (.cells #[.slice a len ca] 53)).alloc (.cells #[.slice b len cb] 53)) := ((Below.refl _ _).alloc (Nat.le_refl _) _).alloc (by simp) _
  have HA := ha.hid
  have HB := hb.hid
  clear ha hb
  go_enter Try.func53, Try.ntmps53
  go_wp2_with fail
  generalize (w.alloc (.cells #[.slice a len ca] 53)).alloc (.cells #[.slice b len cb] 53) = W at hB0 ⊢
  refine (laws_eqEntryS a b len ca cb E W hl (HA.out.next hB0) (HB.out.next hB0)).mono ?_
  rintro e w1 ⟨rfl, hB1⟩
  have hB2 := hB0.trans (hB1.mono hB0.size)
  go_wp2
  go_ret
  exact ⟨rfl, hB2⟩

end Go.Proofs.Ytfnhlccpkommoaa
