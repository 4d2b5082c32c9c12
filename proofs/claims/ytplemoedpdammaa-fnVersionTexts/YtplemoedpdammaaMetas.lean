/- Rows of metas: those that came in, the copies that the laws make; their size, and that two are alike. (By gen_row.py.) -/
import Derived.Test.YtplemoedpdammaaRows
import Derived.Test.YtplemoedpdammaaEntRow
import Derived.Test.YtplemoedpdammaaMine
import Derived.Deep.OwnRows
import Derived.Deep.Slices
import Derived.Deep.RegionHeld3
namespace Go.Proofs.Ytplemoedpdammaa
set_option maxRecDepth 100000
open Go.RowKit Go.Deep

/-- The metas of a row, by their places. -/
structure Metas where
  N : Nat → Int
  L : Nat → Int
  F : Nat → ByteArray
  Z : Nat → ByteArray
  C : Nat → Int

/-- A row of len metas, in memory below block B. -/
def MetaAt (w : World) (B : Nat) (a : Option Addr) (len : Nat) (O : Metas) : Prop :=
  len = 0 ∨ ∃ b off, a = some ⟨b, off, none⟩ ∧ b < B ∧ ∀ i, i < len → w.cell? ⟨b, off + i * 5, none⟩ = some (.int .i64 (O.N i)) ∧ w.cell? ⟨b, off + i * 5 + 1, none⟩ = some (.int .i64 (O.L i)) ∧ w.cell? ⟨b, off + i * 5 + 2, none⟩ = some (.string (O.F i)) ∧ w.cell? ⟨b, off + i * 5 + 3, none⟩ = some (.string (O.Z i)) ∧ w.cell? ⟨b, off + i * 5 + 4, none⟩ = some (.int .i64 (O.C i))

theorem MetaAt.below {w w' : World} {B : Nat} {a : Option Addr} {len : Nat} {O : Metas} (h : MetaAt w B a len O) (hb : Below B w w') : MetaAt w' B a len O := by
  rcases h with h | ⟨b, off, e, hB, hc⟩
  · exact .inl h
  · refine .inr ⟨b, off, e, hB, fun i hi => ?_⟩
    obtain ⟨c0, c1, c2, c3, c4⟩ := hc i hi
    exact ⟨(hb.cell (p := ⟨b, _, none⟩) hB).trans c0, (hb.cell (p := ⟨b, _, none⟩) hB).trans c1, (hb.cell (p := ⟨b, _, none⟩) hB).trans c2, (hb.cell (p := ⟨b, _, none⟩) hB).trans c3, (hb.cell (p := ⟨b, _, none⟩) hB).trans c4⟩

theorem MetaAt.mono {w : World} {B B' : Nat} {a : Option Addr} {len : Nat} {O : Metas} (h : MetaAt w B a len O) (hB : B ≤ B') : MetaAt w B' a len O := by
  rcases h with h | ⟨b, off, e, hb, hc⟩
  · exact .inl h
  · exact .inr ⟨b, off, e, by omega, hc⟩

/-- A row that lies lower stays as it is. -/
theorem MetaAt.on {w w' : World} {B B' : Nat} {a : Option Addr} {len : Nat} {O : Metas} (h : MetaAt w B a len O) (hb : Below B' w w') (hB : B ≤ B') : MetaAt w' B' a len O := (h.mono hB).below hb

theorem MetaAt.next {w w' : World} {a : Option Addr} {len : Nat} {O : Metas} (h : MetaAt w w.heap.size a len O) (hb : Below w.heap.size w w') : MetaAt w' w'.heap.size a len O := (h.below hb).mono hb.size

theorem MetaAt.at {w : World} {B : Nat} {a : Option Addr} {len : Nat} {O : Metas} (h : MetaAt w B a len O) {i : Nat} (hi : i < len) :
    ∃ b off, a = some ⟨b, off, none⟩ ∧ b < B ∧ w.cell? ⟨b, off + i * 5, none⟩ = some (.int .i64 (O.N i)) ∧ w.cell? ⟨b, off + i * 5 + 1, none⟩ = some (.int .i64 (O.L i)) ∧ w.cell? ⟨b, off + i * 5 + 2, none⟩ = some (.string (O.F i)) ∧ w.cell? ⟨b, off + i * 5 + 3, none⟩ = some (.string (O.Z i)) ∧ w.cell? ⟨b, off + i * 5 + 4, none⟩ = some (.int .i64 (O.C i)) := by
  rcases h with h | ⟨b, off, e, hb, hc⟩
  · omega
  · exact ⟨b, off, e, hb, hc i hi⟩

theorem MetaAt.hid {w : World} {B : Nat} {a : Option Addr} {len : Nat} {O : Metas} (h : MetaAt w B a len O) : Hid (MetaAt w B a len O) := h

/-- Cell i of a row of metas. -/
def metaCell (O : Metas) (i : Nat) : Value :=
  if i % 5 = 0 then .int .i64 (O.N (i / 5)) else if i % 5 = 1 then .int .i64 (O.L (i / 5)) else if i % 5 = 2 then .string (O.F (i / 5)) else if i % 5 = 3 then .string (O.Z (i / 5)) else .int .i64 (O.C (i / 5))

theorem metaCell0 (O : Metas) (k : Nat) : metaCell O (k * 5) = .int .i64 (O.N k) := by
  unfold metaCell; rw [if_pos (by omega), show (k * 5) / 5 = k by omega]
theorem metaCell1 (O : Metas) (k : Nat) : metaCell O (k * 5 + 1) = .int .i64 (O.L k) := by
  unfold metaCell; rw [if_neg (by omega), if_pos (by omega), show (k * 5 + 1) / 5 = k by omega]
theorem metaCell2 (O : Metas) (k : Nat) : metaCell O (k * 5 + 2) = .string (O.F k) := by
  unfold metaCell; rw [if_neg (by omega), if_neg (by omega), if_pos (by omega), show (k * 5 + 2) / 5 = k by omega]
theorem metaCell3 (O : Metas) (k : Nat) : metaCell O (k * 5 + 3) = .string (O.Z k) := by
  unfold metaCell; rw [if_neg (by omega), if_neg (by omega), if_neg (by omega), if_pos (by omega), show (k * 5 + 3) / 5 = k by omega]
theorem metaCell4 (O : Metas) (k : Nat) : metaCell O (k * 5 + 4) = .int .i64 (O.C k) := by
  unfold metaCell; rw [if_neg (by omega), if_neg (by omega), if_neg (by omega), if_neg (by omega), show (k * 5 + 4) / 5 = k by omega]

/-- .. out of its cells. -/
theorem metaAt_cells {w : World} {g n : Nat} {O : Metas} (h : ∀ j, j < n * 5 → w.cell? ⟨g, j, none⟩ = some (metaCell O j)) {B : Nat} (hB : g < B) : MetaAt w B (some ⟨g, 0, none⟩) n O := by
  refine .inr ⟨g, 0, rfl, hB, fun i hi => ⟨?_, ?_, ?_, ?_, ?_⟩⟩
  · rw [Nat.zero_add, h _ (by omega), metaCell0]
  · rw [Nat.zero_add, h _ (by omega), metaCell1]
  · rw [Nat.zero_add, h _ (by omega), metaCell2]
  · rw [Nat.zero_add, h _ (by omega), metaCell3]
  · rw [Nat.zero_add, h _ (by omega), metaCell4]
theorem metaAt_mine {w : World} {B : Nat} {ty : TypeId} {a : Option Addr} {p n : Nat} {O : Metas} (h : Mine w B ty 5 a p n (metaCell O)) : MetaAt w w.heap.size a n O := by
  rcases h.at with h | ⟨g, rfl, _, hg, hc⟩
  · exact .inl h
  · exact metaAt_cells hc hg

theorem metaAt_row {w : World} {g n : Nat} {t : TypeId} {O : Metas} (h : w.rowIs g t (n * 5) (metaCell O)) {B : Nat} (hB : g < B) : MetaAt w B (some ⟨g, 0, none⟩) n O := by
  refine .inr ⟨g, 0, rfl, hB, fun i hi => ⟨?_, ?_, ?_, ?_, ?_⟩⟩
  · rw [Nat.zero_add, h.cell (by omega), metaCell0]
  · rw [Nat.zero_add, h.cell (by omega), metaCell1]
  · rw [Nat.zero_add, h.cell (by omega), metaCell2]
  · rw [Nat.zero_add, h.cell (by omega), metaCell3]
  · rw [Nat.zero_add, h.cell (by omega), metaCell4]

/-- The row while it is filled: the first k are there. -/
def fillMeta (O : Metas) (k : Nat) (i : Nat) : Value := if i < k * 5 then metaCell O i else (#[Value.int .i64 0, .int .i64 0, .string ⟨#[]⟩, .string ⟨#[]⟩, .int .i64 0] : Array Value)[i % 5]!

theorem fillMeta_step {w : World} {g n k : Nat} {t : TypeId} {O : Metas} (h : w.rowIs g t n (fillMeta O k)) :
    ((((((((((w).setCell ⟨g, k * 5, none⟩ (.int .i64 (O.N k)))).setCell ⟨g, k * 5 + 1, none⟩ (.int .i64 (O.L k)))).setCell ⟨g, k * 5 + 2, none⟩ (.string (O.F k)))).setCell ⟨g, k * 5 + 3, none⟩ (.string (O.Z k)))).setCell ⟨g, k * 5 + 4, none⟩ (.int .i64 (O.C k))).rowIs g t n (fillMeta O (k + 1)) := by
  refine (((((h.set (k * 5) _).set (k * 5 + 1) _).set (k * 5 + 2) _).set (k * 5 + 3) _).set (k * 5 + 4) _).congr fun i _ => ?_
  by_cases e4 : i = k * 5 + 4
  · subst e4; rw [if_pos rfl, fillMeta, if_pos (by omega), metaCell4]
  · rw [if_neg e4]
    by_cases e3 : i = k * 5 + 3
    · subst e3; rw [if_pos rfl, fillMeta, if_pos (by omega), metaCell3]
    · rw [if_neg e3]
      by_cases e2 : i = k * 5 + 2
      · subst e2; rw [if_pos rfl, fillMeta, if_pos (by omega), metaCell2]
      · rw [if_neg e2]
        by_cases e1 : i = k * 5 + 1
        · subst e1; rw [if_pos rfl, fillMeta, if_pos (by omega), metaCell1]
        · rw [if_neg e1]
          by_cases e0 : i = k * 5
          · subst e0; rw [if_pos rfl, fillMeta, if_pos (by omega), metaCell0]
          · rw [if_neg e0]
            unfold fillMeta
            by_cases hl : i < k * 5
            · rw [if_pos hl, if_pos (by omega)]
            · rw [if_neg hl, if_neg (by omega)]

theorem madeMeta_row (w : World) (n : Nat) (t : TypeId) (O : Metas) : (w.alloc (.cells (madeCells #[Value.int .i64 0, .int .i64 0, .string ⟨#[]⟩, .string ⟨#[]⟩, .int .i64 0] (n * 5)) t)).rowIs w.heap.size t (n * 5) (fillMeta O 0) := by
  have h := World.rowIs_alloc w (madeCells #[Value.int .i64 0, .int .i64 0, .string ⟨#[]⟩, .string ⟨#[]⟩, .int .i64 0] (n * 5)) t (fillMeta O 0) (fun i hi => by
    rw [size_madeCells] at hi
    unfold fillMeta madeCells
    rw [if_neg (by omega)]
    simp [hi])
  rwa [size_madeCells] at h

end Go.Proofs.Ytplemoedpdammaa
