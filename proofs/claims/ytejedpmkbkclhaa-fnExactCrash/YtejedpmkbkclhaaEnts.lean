/- Rows of entries: those that came in, the copies that the laws make; their size, and that two are alike. -/
import Derived.Test.YtejedpmkbkclhaaLEntry
import Derived.Test.YtejedpmkbkclhaaEntRow
import Derived.Test.YtejedpmkbkclhaaOwn
import Derived.Deep.OwnRows
import Derived.Deep.Slices
import Derived.Deep.RegionHeld3
namespace Go.Proofs.Ytejedpmkbkclhaa
set_option maxRecDepth 100000
open Go.RowKit Go.Deep

/-- The entries of a row, by their places. -/
structure Ents where
  U : Nat → ByteArray
  Q : Nat → Int
  K : Nat → Int
  X : Nat → ByteArray

/-- A row of len entries, in memory below block B. -/
def EntAt (w : World) (B : Nat) (a : Option Addr) (len : Nat) (E : Ents) : Prop :=
  len = 0 ∨ ∃ b off, a = some ⟨b, off, none⟩ ∧ b < B ∧ ∀ i, i < len → w.cell? ⟨b, off + i * 4, none⟩ = some (.string (E.U i)) ∧ w.cell? ⟨b, off + i * 4 + 1, none⟩ = some (.int .i64 (E.Q i)) ∧ w.cell? ⟨b, off + i * 4 + 2, none⟩ = some (.int .i64 (E.K i)) ∧ w.cell? ⟨b, off + i * 4 + 3, none⟩ = some (.string (E.X i))

theorem EntAt.below {w w' : World} {B : Nat} {a : Option Addr} {len : Nat} {E : Ents} (h : EntAt w B a len E) (hb : Below B w w') : EntAt w' B a len E := by
  rcases h with h | ⟨b, off, e, hB, hc⟩
  · exact .inl h
  · refine .inr ⟨b, off, e, hB, fun i hi => ?_⟩
    obtain ⟨c0, c1, c2, c3⟩ := hc i hi
    exact ⟨(hb.cell (p := ⟨b, _, none⟩) hB).trans c0, (hb.cell (p := ⟨b, _, none⟩) hB).trans c1, (hb.cell (p := ⟨b, _, none⟩) hB).trans c2, (hb.cell (p := ⟨b, _, none⟩) hB).trans c3⟩

theorem EntAt.mono {w : World} {B B' : Nat} {a : Option Addr} {len : Nat} {E : Ents} (h : EntAt w B a len E) (hB : B ≤ B') : EntAt w B' a len E := by
  rcases h with h | ⟨b, off, e, hb, hc⟩
  · exact .inl h
  · exact .inr ⟨b, off, e, by omega, hc⟩

theorem EntAt.at {w : World} {B : Nat} {a : Option Addr} {len : Nat} {E : Ents} (h : EntAt w B a len E) {i : Nat} (hi : i < len) :
    ∃ b off, a = some ⟨b, off, none⟩ ∧ b < B ∧ w.cell? ⟨b, off + i * 4, none⟩ = some (.string (E.U i)) ∧ w.cell? ⟨b, off + i * 4 + 1, none⟩ = some (.int .i64 (E.Q i)) ∧ w.cell? ⟨b, off + i * 4 + 2, none⟩ = some (.int .i64 (E.K i)) ∧ w.cell? ⟨b, off + i * 4 + 3, none⟩ = some (.string (E.X i)) := by
  rcases h with h | ⟨b, off, e, hb, hc⟩
  · omega
  · exact ⟨b, off, e, hb, hc i hi⟩

/-- Cell i of a row of entries. -/
def entCell (E : Ents) (i : Nat) : Value :=
  if i % 4 = 0 then .string (E.U (i / 4)) else if i % 4 = 1 then .int .i64 (E.Q (i / 4)) else if i % 4 = 2 then .int .i64 (E.K (i / 4)) else .string (E.X (i / 4))

theorem entCell0 (E : Ents) (k : Nat) : entCell E (k * 4) = .string (E.U k) := by
  unfold entCell; rw [if_pos (by omega), show k * 4 / 4 = k by omega]
theorem entCell1 (E : Ents) (k : Nat) : entCell E (k * 4 + 1) = .int .i64 (E.Q k) := by
  unfold entCell; rw [if_neg (by omega), if_pos (by omega), show (k * 4 + 1) / 4 = k by omega]
theorem entCell2 (E : Ents) (k : Nat) : entCell E (k * 4 + 2) = .int .i64 (E.K k) := by
  unfold entCell; rw [if_neg (by omega), if_neg (by omega), if_pos (by omega), show (k * 4 + 2) / 4 = k by omega]
theorem entCell3 (E : Ents) (k : Nat) : entCell E (k * 4 + 3) = .string (E.X k) := by
  unfold entCell; rw [if_neg (by omega), if_neg (by omega), if_neg (by omega), show (k * 4 + 3) / 4 = k by omega]

theorem entAt_row {w : World} {g n : Nat} {t : TypeId} {E : Ents} (h : w.rowIs g t (n * 4) (entCell E)) {B : Nat} (hB : g < B) : EntAt w B (some ⟨g, 0, none⟩) n E := by
  refine .inr ⟨g, 0, rfl, hB, fun i hi => ⟨?_, ?_, ?_, ?_⟩⟩
  · rw [Nat.zero_add, h.cell (by omega), entCell0]
  · rw [Nat.zero_add, h.cell (by omega), entCell1]
  · rw [Nat.zero_add, h.cell (by omega), entCell2]
  · rw [Nat.zero_add, h.cell (by omega), entCell3]

/-- The row while it is filled: the first k entries are there. -/
def fillCell (E : Ents) (k : Nat) (i : Nat) : Value := if i < k * 4 then entCell E i else (#[Value.string ⟨#[]⟩, .int .i64 0, .int .i64 0, .string ⟨#[]⟩] : Array Value)[i % 4]!

theorem fill_step {w : World} {g n k : Nat} {t : TypeId} {E : Ents} (h : w.rowIs g t n (fillCell E k)) :
    ((((w.setCell ⟨g, k * 4, none⟩ (.string (E.U k))).setCell ⟨g, k * 4 + 1, none⟩ (.int .i64 (E.Q k))).setCell ⟨g, k * 4 + 2, none⟩ (.int .i64 (E.K k))).setCell ⟨g, k * 4 + 3, none⟩ (.string (E.X k))).rowIs g t n (fillCell E (k + 1)) := by
  refine ((((h.set (k * 4) _).set (k * 4 + 1) _).set (k * 4 + 2) _).set (k * 4 + 3) _).congr fun i _ => ?_
  by_cases e3 : i = k * 4 + 3
  · subst e3; rw [if_pos rfl, fillCell, if_pos (by omega), entCell3]
  · rw [if_neg e3]
    by_cases e2 : i = k * 4 + 2
    · subst e2; rw [if_pos rfl, fillCell, if_pos (by omega), entCell2]
    · rw [if_neg e2]
      by_cases e1 : i = k * 4 + 1
      · subst e1; rw [if_pos rfl, fillCell, if_pos (by omega), entCell1]
      · rw [if_neg e1]
        by_cases e0 : i = k * 4
        · subst e0; rw [if_pos rfl, fillCell, if_pos (by omega), entCell0]
        · rw [if_neg e0]
          unfold fillCell
          by_cases hl : i < k * 4
          · rw [if_pos hl, if_pos (by omega)]
          · rw [if_neg hl, if_neg (by omega)]

theorem made_row (w : World) (n : Nat) (t : TypeId) (E : Ents) : (w.alloc (.cells (madeCells #[Value.string ⟨#[]⟩, .int .i64 0, .int .i64 0, .string ⟨#[]⟩] (n * 4)) t)).rowIs w.heap.size t (n * 4) (fillCell E 0) := by
  have h := World.rowIs_alloc w (madeCells #[Value.string ⟨#[]⟩, .int .i64 0, .int .i64 0, .string ⟨#[]⟩] (n * 4)) t (fillCell E 0) (fun i hi => by
    rw [size_madeCells] at hi
    unfold fillCell madeCells
    rw [if_neg (by omega)]
    simp [hi])
  rwa [size_madeCells] at h

end Go.Proofs.Ytejedpmkbkclhaa
