/- Rows of runs: those that came in, the copies that the laws make; their size, and that two are alike. -/
import Derived.Test.YtjcoejabpagaiaaLEntsOk
import Derived.Test.YtjcoejabpagaiaaRowArg
import Derived.Test.YtjcoejabpagaiaaBox
import Derived.Test.YtjcoejabpagaiaaReg
import Derived.Deep.RegionHeld3
namespace Go.Proofs.Ytjcoejabpagaiaa
set_option maxRecDepth 100000
open Go.RowKit Go.Deep

/-- The runs of a row: their lengths and entries, by their places. -/
structure RunsC where
  L : Nat → Nat
  E : Nat → Ents
/-- A row of n runs, in memory below block B. -/
def RunAt (w : World) (B : Nat) (a : Option Addr) (n : Nat) (R : RunsC) : Prop :=
  n = 0 ∨ ∃ b off, a = some ⟨b, off, none⟩ ∧ b < B ∧ ∀ i, i < n → ∃ x c, w.cell? ⟨b, off + i, none⟩ = some (.slice x (R.L i) c) ∧ EntAt w B x (R.L i) (R.E i)
theorem RunAt.below {w w' : World} {B : Nat} {a : Option Addr} {n : Nat} {R : RunsC} (h : RunAt w B a n R) (hb : Below B w w') : RunAt w' B a n R := by
  rcases h with h | ⟨b, off, e, hB, hc⟩
  · exact .inl h
  · refine .inr ⟨b, off, e, hB, fun i hi => ?_⟩
    obtain ⟨x, c, h1, h2⟩ := hc i hi
    exact ⟨x, c, (hb.cell (p := ⟨b, _, none⟩) hB).trans h1, h2.below hb⟩
theorem RunAt.mono {w : World} {B B' : Nat} {a : Option Addr} {n : Nat} {R : RunsC} (h : RunAt w B a n R) (hB : B ≤ B') : RunAt w B' a n R := by
  rcases h with h | ⟨b, off, e, hb, hc⟩
  · exact .inl h
  · refine .inr ⟨b, off, e, by omega, fun i hi => ?_⟩
    obtain ⟨x, c, h1, h2⟩ := hc i hi
    exact ⟨x, c, h1, h2.mono hB⟩
theorem RunAt.next {w w' : World} {a : Option Addr} {n : Nat} {R : RunsC} (h : RunAt w w.heap.size a n R) (hb : Below w.heap.size w w') : RunAt w' w'.heap.size a n R := (h.below hb).mono hb.size
theorem RunAt.hid {w : World} {B : Nat} {a : Option Addr} {n : Nat} {R : RunsC} (h : RunAt w B a n R) : Hid (RunAt w B a n R) := h
theorem RunAt.at {w : World} {B : Nat} {a : Option Addr} {n : Nat} {R : RunsC} (h : RunAt w B a n R) {i : Nat} (hi : i < n) :
    ∃ b off x c, a = some ⟨b, off, none⟩ ∧ b < B ∧ w.cell? ⟨b, off + i, none⟩ = some (.slice x (R.L i) c) ∧ EntAt w B x (R.L i) (R.E i) := by
  rcases h with h | ⟨b, off, e, hb, hc⟩
  · omega
  · obtain ⟨x, c, h1, h2⟩ := hc i hi
    exact ⟨b, off, x, c, e, hb, h1, h2⟩

/-- Its texts and lengths are within reach. -/
def EntSm (n : Nat) (E : Ents) : Prop := n ≤ maxLen ∧ ∀ i, i < n → (E.U i).size ≤ maxLen ∧ (E.X i).size ≤ maxLen
/-- What the laws let by. -/
def RunFit (n : Nat) (R : RunsC) : Prop := n ≤ 1048576 ∧ ∀ i, i < n → R.L i ≤ 1048576

/-- The copy of a row of runs, as far as it has come. -/
structure RCopy (w0 w : World) (gR n k : Nat) (R : RunsC) (G : Nat → Nat) : Prop where
  row : w.rowIs gR 39 n (fun i => if i < k then .slice (some ⟨G i, 0, none⟩) (R.L i) (R.L i) else .slice none 0 0)
  each : ∀ i, i < k → gR < G i ∧ w.rowIs (G i) 43 (R.L i * 4) (entCell (R.E i))
  low : Below w0.heap.size w0 w
theorem RCopy.next {w0 w w' : World} {gR n k : Nat} {R : RunsC} {G : Nat → Nat} (h : RCopy w0 w gR n k R G) (hb : Below w.heap.size w w') : RCopy w0 w' gR n k R G :=
  ⟨entRow_below h.row hb h.row.lt, fun i hi => ⟨(h.each i hi).1, entRow_below (h.each i hi).2 hb (h.each i hi).2.lt⟩, h.low.trans (hb.mono h.low.size)⟩
theorem RCopy.step {w0 w : World} {gR n k g : Nat} {R : RunsC} {G : Nat → Nat} (h : RCopy w0 w gR n k R G) (hw : w0.heap.size ≤ gR) (hg : gR < g) (hr : w.rowIs g 43 (R.L k * 4) (entCell (R.E k))) :
    RCopy w0 (w.setCell ⟨gR, k, none⟩ (.slice (some ⟨g, 0, none⟩) (R.L k) (R.L k))) gR n (k + 1) R (fun i => if i = k then g else G i) := by
  refine ⟨(h.row.set k _).congr fun i _ => ?_, fun i hi => ?_, h.low.setCell (p := ⟨gR, k, none⟩) hw _⟩
  · by_cases e : i = k
    · subst e; rw [if_pos rfl, if_pos (by omega), if_pos rfl]
    · rw [if_neg e]
      by_cases hl : i < k
      · rw [if_pos hl, if_pos (by omega), if_neg e]
      · rw [if_neg hl, if_neg (by omega)]
  · by_cases e : i = k
    · subst e
      rw [if_pos rfl]
      exact ⟨hg, rowIs_set hr (by show gR ≠ g; omega) _⟩
    · rw [if_neg e]
      obtain ⟨h1, h2⟩ := h.each i (by omega)
      exact ⟨h1, rowIs_set h2 (by show gR ≠ G i; omega) _⟩
theorem RCopy.at' {w0 w : World} {gR n : Nat} {R : RunsC} {G : Nat → Nat} (h : RCopy w0 w gR n n R G) : RunAt w w.heap.size (some ⟨gR, 0, none⟩) n R := by
  refine .inr ⟨gR, 0, rfl, h.row.lt, fun i hi => ?_⟩
  refine ⟨some ⟨G i, 0, none⟩, R.L i, ?_, entAt_row (h.each i hi).2 (h.each i hi).2.lt⟩
  rw [Nat.zero_add, h.row.cell hi, if_pos hi]

theorem laws_eqRun (a b : Option Addr) (len ca cb : Nat) (E : Ents) (w : World) (hl : len ≤ 1048576) (ha : EntAt w w.heap.size a len E) (hb : EntAt w w.heap.size b len E) :
    Calls Try.prog 22 #[.agg #[.slice a len ca], .agg #[.slice b len cb]] w fun e w' => e = .returned (.bool true) ∧ Below w.heap.size w w' := by
  have hB0 : Below w.heap.size w ((w.alloc (.cells #[.slice a len ca] 39)).alloc (.cells #[.slice b len cb] 39)) := ((Below.refl _ _).alloc (Nat.le_refl _) _).alloc (by simp) _
  have HA := ha.hid
  have HB := hb.hid
  clear ha hb
  go_enter Try.func22, Try.ntmps22
  go_wp2_with fail
  generalize (w.alloc (.cells #[.slice a len ca] 39)).alloc (.cells #[.slice b len cb] 39) = W at hB0 ⊢
  refine (laws_eqEntryS a b len ca cb E W hl (HA.out.next hB0) (HB.out.next hB0)).mono ?_
  rintro e w1 ⟨rfl, hB1⟩
  have hB2 := hB0.trans (hB1.mono hB0.size)
  go_wp2
  go_ret
  exact ⟨rfl, hB2⟩

end Go.Proofs.Ytjcoejabpagaiaa
