/- Rows of ops, batches: those that came in, the copies that the laws make; their size, and that two are alike. -/
import Derived.Test.YtljmfdcilnbjaabLEntry
import Derived.Test.YtljmfdcilnbjaabOwn
import Derived.Test.YtljmfdcilnbjaabEnts
import Derived.Deep.OwnRows
import Derived.Deep.Slices
import Derived.Deep.RegionHeld3
namespace Go.Proofs.Ytljmfdcilnbjaab
set_option maxRecDepth 100000
open Go.RowKit Go.Deep

/-- The ops of a row, by their places. -/
structure Ops where
  K : Nat → Int
  U : Nat → ByteArray
  X : Nat → ByteArray

/-- A row of len ops, in memory below block B. -/
def OpAt (w : World) (B : Nat) (a : Option Addr) (len : Nat) (O : Ops) : Prop :=
  len = 0 ∨ ∃ b off, a = some ⟨b, off, none⟩ ∧ b < B ∧ ∀ i, i < len → w.cell? ⟨b, off + i * 3, none⟩ = some (.int .i64 (O.K i)) ∧ w.cell? ⟨b, off + i * 3 + 1, none⟩ = some (.string (O.U i)) ∧ w.cell? ⟨b, off + i * 3 + 2, none⟩ = some (.string (O.X i))

theorem OpAt.below {w w' : World} {B : Nat} {a : Option Addr} {len : Nat} {O : Ops} (h : OpAt w B a len O) (hb : Below B w w') : OpAt w' B a len O := by
  rcases h with h | ⟨b, off, e, hB, hc⟩
  · exact .inl h
  · refine .inr ⟨b, off, e, hB, fun i hi => ?_⟩
    obtain ⟨c0, c1, c2⟩ := hc i hi
    exact ⟨(hb.cell (p := ⟨b, _, none⟩) hB).trans c0, (hb.cell (p := ⟨b, _, none⟩) hB).trans c1, (hb.cell (p := ⟨b, _, none⟩) hB).trans c2⟩

theorem OpAt.mono {w : World} {B B' : Nat} {a : Option Addr} {len : Nat} {O : Ops} (h : OpAt w B a len O) (hB : B ≤ B') : OpAt w B' a len O := by
  rcases h with h | ⟨b, off, e, hb, hc⟩
  · exact .inl h
  · exact .inr ⟨b, off, e, by omega, hc⟩

/-- A row that lies lower stays as it is. -/
theorem OpAt.on {w w' : World} {B B' : Nat} {a : Option Addr} {len : Nat} {O : Ops} (h : OpAt w B a len O) (hb : Below B' w w') (hB : B ≤ B') : OpAt w' B' a len O := (h.mono hB).below hb

theorem OpAt.at {w : World} {B : Nat} {a : Option Addr} {len : Nat} {O : Ops} (h : OpAt w B a len O) {i : Nat} (hi : i < len) :
    ∃ b off, a = some ⟨b, off, none⟩ ∧ b < B ∧ w.cell? ⟨b, off + i * 3, none⟩ = some (.int .i64 (O.K i)) ∧ w.cell? ⟨b, off + i * 3 + 1, none⟩ = some (.string (O.U i)) ∧ w.cell? ⟨b, off + i * 3 + 2, none⟩ = some (.string (O.X i)) := by
  rcases h with h | ⟨b, off, e, hb, hc⟩
  · omega
  · exact ⟨b, off, e, hb, hc i hi⟩

/-- Cell i of a row of ops. -/
def opCell (O : Ops) (i : Nat) : Value :=
  if i % 3 = 0 then .int .i64 (O.K (i / 3)) else if i % 3 = 1 then .string (O.U (i / 3)) else .string (O.X (i / 3))

theorem opCell0 (O : Ops) (k : Nat) : opCell O (k * 3) = .int .i64 (O.K k) := by
  unfold opCell; rw [if_pos (by omega), show k * 3 / 3 = k by omega]
theorem opCell1 (O : Ops) (k : Nat) : opCell O (k * 3 + 1) = .string (O.U k) := by
  unfold opCell; rw [if_neg (by omega), if_pos (by omega), show (k * 3 + 1) / 3 = k by omega]
theorem opCell2 (O : Ops) (k : Nat) : opCell O (k * 3 + 2) = .string (O.X k) := by
  unfold opCell; rw [if_neg (by omega), if_neg (by omega), show (k * 3 + 2) / 3 = k by omega]

theorem opAt_row {w : World} {g n : Nat} {t : TypeId} {O : Ops} (h : w.rowIs g t (n * 3) (opCell O)) {B : Nat} (hB : g < B) : OpAt w B (some ⟨g, 0, none⟩) n O := by
  refine .inr ⟨g, 0, rfl, hB, fun i hi => ⟨?_, ?_, ?_⟩⟩
  · rw [Nat.zero_add, h.cell (by omega), opCell0]
  · rw [Nat.zero_add, h.cell (by omega), opCell1]
  · rw [Nat.zero_add, h.cell (by omega), opCell2]

/-- The row while it is filled: the first k ops are there. -/
def fillOp (O : Ops) (k : Nat) (i : Nat) : Value := if i < k * 3 then opCell O i else (#[Value.int .i64 0, .string ⟨#[]⟩, .string ⟨#[]⟩] : Array Value)[i % 3]!

theorem fillOp_step {w : World} {g n k : Nat} {t : TypeId} {O : Ops} (h : w.rowIs g t n (fillOp O k)) :
    (((w.setCell ⟨g, k * 3, none⟩ (.int .i64 (O.K k))).setCell ⟨g, k * 3 + 1, none⟩ (.string (O.U k))).setCell ⟨g, k * 3 + 2, none⟩ (.string (O.X k))).rowIs g t n (fillOp O (k + 1)) := by
  refine (((h.set (k * 3) _).set (k * 3 + 1) _).set (k * 3 + 2) _).congr fun i _ => ?_
  by_cases e2 : i = k * 3 + 2
  · subst e2; rw [if_pos rfl, fillOp, if_pos (by omega), opCell2]
  · rw [if_neg e2]
    by_cases e1 : i = k * 3 + 1
    · subst e1; rw [if_pos rfl, fillOp, if_pos (by omega), opCell1]
    · rw [if_neg e1]
      by_cases e0 : i = k * 3
      · subst e0; rw [if_pos rfl, fillOp, if_pos (by omega), opCell0]
      · rw [if_neg e0]
        unfold fillOp
        by_cases hl : i < k * 3
        · rw [if_pos hl, if_pos (by omega)]
        · rw [if_neg hl, if_neg (by omega)]

theorem madeOp_row (w : World) (n : Nat) (t : TypeId) (O : Ops) : (w.alloc (.cells (madeCells #[Value.int .i64 0, .string ⟨#[]⟩, .string ⟨#[]⟩] (n * 3)) t)).rowIs w.heap.size t (n * 3) (fillOp O 0) := by
  have h := World.rowIs_alloc w (madeCells #[Value.int .i64 0, .string ⟨#[]⟩, .string ⟨#[]⟩] (n * 3)) t (fillOp O 0) (fun i hi => by
    rw [size_madeCells] at hi
    unfold fillOp madeCells
    rw [if_neg (by omega)]
    simp [hi])
  rwa [size_madeCells] at h

end Go.Proofs.Ytljmfdcilnbjaab
