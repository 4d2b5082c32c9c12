/- Rows of pairs: those that came in, the copies that the laws make; their size, and that two are alike. (By gen_row.py.) -/
import Derived.Test.YtapajchnfjjipaaRows
import Derived.Test.YtapajchnfjjipaaEntRow
import Derived.Test.YtapajchnfjjipaaMine
import Derived.Deep.OwnRows
import Derived.Deep.Slices
import Derived.Deep.RegionHeld3
namespace Go.Proofs.Ytapajchnfjjipaa
set_option maxRecDepth 100000
open Go.RowKit Go.Deep

/-- The pairs of a row, by their places. -/
structure Pairs where
  U : Nat → ByteArray
  V : Nat → ByteArray

/-- A row of len pairs, in memory below block B. -/
def PairAt (w : World) (B : Nat) (a : Option Addr) (len : Nat) (O : Pairs) : Prop :=
  len = 0 ∨ ∃ b off, a = some ⟨b, off, none⟩ ∧ b < B ∧ ∀ i, i < len → w.cell? ⟨b, off + i * 2, none⟩ = some (.string (O.U i)) ∧ w.cell? ⟨b, off + i * 2 + 1, none⟩ = some (.string (O.V i))

theorem PairAt.below {w w' : World} {B : Nat} {a : Option Addr} {len : Nat} {O : Pairs} (h : PairAt w B a len O) (hb : Below B w w') : PairAt w' B a len O := by
  rcases h with h | ⟨b, off, e, hB, hc⟩
  · exact .inl h
  · refine .inr ⟨b, off, e, hB, fun i hi => ?_⟩
    obtain ⟨c0, c1⟩ := hc i hi
    exact ⟨(hb.cell (p := ⟨b, _, none⟩) hB).trans c0, (hb.cell (p := ⟨b, _, none⟩) hB).trans c1⟩

theorem PairAt.mono {w : World} {B B' : Nat} {a : Option Addr} {len : Nat} {O : Pairs} (h : PairAt w B a len O) (hB : B ≤ B') : PairAt w B' a len O := by
  rcases h with h | ⟨b, off, e, hb, hc⟩
  · exact .inl h
  · exact .inr ⟨b, off, e, by omega, hc⟩

/-- A row that lies lower stays as it is. -/
theorem PairAt.on {w w' : World} {B B' : Nat} {a : Option Addr} {len : Nat} {O : Pairs} (h : PairAt w B a len O) (hb : Below B' w w') (hB : B ≤ B') : PairAt w' B' a len O := (h.mono hB).below hb

theorem PairAt.next {w w' : World} {a : Option Addr} {len : Nat} {O : Pairs} (h : PairAt w w.heap.size a len O) (hb : Below w.heap.size w w') : PairAt w' w'.heap.size a len O := (h.below hb).mono hb.size

theorem PairAt.at {w : World} {B : Nat} {a : Option Addr} {len : Nat} {O : Pairs} (h : PairAt w B a len O) {i : Nat} (hi : i < len) :
    ∃ b off, a = some ⟨b, off, none⟩ ∧ b < B ∧ w.cell? ⟨b, off + i * 2, none⟩ = some (.string (O.U i)) ∧ w.cell? ⟨b, off + i * 2 + 1, none⟩ = some (.string (O.V i)) := by
  rcases h with h | ⟨b, off, e, hb, hc⟩
  · omega
  · exact ⟨b, off, e, hb, hc i hi⟩

theorem PairAt.hid {w : World} {B : Nat} {a : Option Addr} {len : Nat} {O : Pairs} (h : PairAt w B a len O) : Hid (PairAt w B a len O) := h

/-- Cell i of a row of pairs. -/
def pairCell (O : Pairs) (i : Nat) : Value :=
  if i % 2 = 0 then .string (O.U (i / 2)) else .string (O.V (i / 2))

theorem pairCell0 (O : Pairs) (k : Nat) : pairCell O (k * 2) = .string (O.U k) := by
  unfold pairCell; rw [if_pos (by omega), show (k * 2) / 2 = k by omega]
theorem pairCell1 (O : Pairs) (k : Nat) : pairCell O (k * 2 + 1) = .string (O.V k) := by
  unfold pairCell; rw [if_neg (by omega), show (k * 2 + 1) / 2 = k by omega]

/-- .. out of its cells. -/
theorem pairAt_cells {w : World} {g n : Nat} {O : Pairs} (h : ∀ j, j < n * 2 → w.cell? ⟨g, j, none⟩ = some (pairCell O j)) {B : Nat} (hB : g < B) : PairAt w B (some ⟨g, 0, none⟩) n O := by
  refine .inr ⟨g, 0, rfl, hB, fun i hi => ⟨?_, ?_⟩⟩
  · rw [Nat.zero_add, h _ (by omega), pairCell0]
  · rw [Nat.zero_add, h _ (by omega), pairCell1]
theorem pairAt_mine {w : World} {B : Nat} {ty : TypeId} {a : Option Addr} {p n : Nat} {O : Pairs} (h : Mine w B ty 2 a p n (pairCell O)) : PairAt w w.heap.size a n O := by
  rcases h.at with h | ⟨g, rfl, _, hg, hc⟩
  · exact .inl h
  · exact pairAt_cells hc hg

theorem pairAt_row {w : World} {g n : Nat} {t : TypeId} {O : Pairs} (h : w.rowIs g t (n * 2) (pairCell O)) {B : Nat} (hB : g < B) : PairAt w B (some ⟨g, 0, none⟩) n O := by
  refine .inr ⟨g, 0, rfl, hB, fun i hi => ⟨?_, ?_⟩⟩
  · rw [Nat.zero_add, h.cell (by omega), pairCell0]
  · rw [Nat.zero_add, h.cell (by omega), pairCell1]

/-- The row while it is filled: the first k are there. -/
def fillPair (O : Pairs) (k : Nat) (i : Nat) : Value := if i < k * 2 then pairCell O i else (#[Value.string ⟨#[]⟩, .string ⟨#[]⟩] : Array Value)[i % 2]!

theorem fillPair_step {w : World} {g n k : Nat} {t : TypeId} {O : Pairs} (h : w.rowIs g t n (fillPair O k)) :
    ((((w).setCell ⟨g, k * 2, none⟩ (.string (O.U k)))).setCell ⟨g, k * 2 + 1, none⟩ (.string (O.V k))).rowIs g t n (fillPair O (k + 1)) := by
  refine ((h.set (k * 2) _).set (k * 2 + 1) _).congr fun i _ => ?_
  by_cases e1 : i = k * 2 + 1
  · subst e1; rw [if_pos rfl, fillPair, if_pos (by omega), pairCell1]
  · rw [if_neg e1]
    by_cases e0 : i = k * 2
    · subst e0; rw [if_pos rfl, fillPair, if_pos (by omega), pairCell0]
    · rw [if_neg e0]
      unfold fillPair
      by_cases hl : i < k * 2
      · rw [if_pos hl, if_pos (by omega)]
      · rw [if_neg hl, if_neg (by omega)]

theorem madePair_row (w : World) (n : Nat) (t : TypeId) (O : Pairs) : (w.alloc (.cells (madeCells #[Value.string ⟨#[]⟩, .string ⟨#[]⟩] (n * 2)) t)).rowIs w.heap.size t (n * 2) (fillPair O 0) := by
  have h := World.rowIs_alloc w (madeCells #[Value.string ⟨#[]⟩, .string ⟨#[]⟩] (n * 2)) t (fillPair O 0) (fun i hi => by
    rw [size_madeCells] at hi
    unfold fillPair madeCells
    rw [if_neg (by omega)]
    simp [hi])
  rwa [size_madeCells] at h

end Go.Proofs.Ytapajchnfjjipaa
