/- Rows of pairs: those that came in, the copies that the laws make; their size, and that two are alike. (By gen_row.py.) -/
import Derived.Test.YtaihicbllcipeaaRows
import Derived.Test.YtaihicbllcipeaaEntRow
import Derived.Test.YtaihicbllcipeaaMine
import Derived.Deep.OwnRows
import Derived.Deep.Slices
import Derived.Deep.RegionHeld3
namespace Go.Proofs.Ytaihicbllcipeaa
set_option maxRecDepth 100000
open Go.RowKit Go.Deep

/-- The pairs of a row, by their places. -/
structure Pairs where
  U : Nat → ByteArray
  V : Nat → ByteArray

/-- A row of len pairs, in memory below block B. -/
def PairAt (w : World) (B : Nat) (a : Option Addr) (len : Nat) (O : Pairs) : Prop :=
  len = 0 ∨ ∃ b off, a = some ⟨b, off, none⟩ ∧ b < B ∧ ∀ i, i < len → w.cell? ⟨b, off + i * 2, none⟩ = some (.string (O.U i)) ∧ w.cell? ⟨b, off + i * 2 + 1, none⟩ = some (.string (O.V i))

theorem PairAt.below {w w' : World} {B : Nat} {a : Option Addr} {len : Nat} {O : Pairs} (h : PairAt w B a len O) (hb : Below B w w') : PairAt w' B a len O := by
  rcases h with h | ⟨b, off, e, hB, hc⟩
  · exact .inl h
  · refine .inr ⟨b, off, e, hB, fun i hi => ?_⟩
    obtain ⟨c0, c1⟩ := hc i hi
    exact ⟨(hb.cell (p := ⟨b, _, none⟩) hB).trans c0, (hb.cell (p := ⟨b, _, none⟩) hB).trans c1⟩

theorem PairAt.mono {w : World} {B B' : Nat} {a : Option Addr} {len : Nat} {O : Pairs} (h : PairAt w B a len O) (hB : B ≤ B') : PairAt w B' a len O := by
  rcases h with h | ⟨b, off, e, hb, hc⟩
  · exact .inl h
  · exact .inr ⟨b, off, e, by omega, hc⟩

/-- A row that lies lower stays as it is. -/
theorem PairAt.on {w w' : World} {B B' : Nat} {a : Option Addr} {len : Nat} {O : Pairs} (h : PairAt w B a len O) (hb : Below B' w w') (hB : B ≤ B') : PairAt w' B' a len O := (h.mono hB).below hb

theorem PairAt.next {w w' : World} {a : Option Addr} {len : Nat} {O : Pairs} (h : PairAt w w.heap.size a len O) (hb : Below w.heap.size w w') : PairAt w' w'.heap.size a len O := (h.below hb).mono hb.size

theorem PairAt.at {w : World} {B : Nat} {a : Option Addr} {len : Nat} {O : Pairs} (h : PairAt w B a len O) {i : Nat} (hi : i < len) :
    ∃ b off, a = some ⟨b, off, none⟩ ∧ b < B ∧ w.cell? ⟨b, off + i * 2, none⟩ = some (.string (O.U i)) ∧ w.cell? ⟨b, off + i * 2 + 1, none⟩ = some (.string (O.V i)) := by
  rcases h with h | ⟨b, off, e, hb, hc⟩
  · omega
  · exact ⟨b, off, e, hb, hc i hi⟩

theorem PairAt.hid {w : World} {B : Nat} {a : Option Addr} {len : Nat} {O : Pairs} (h : PairAt w B a len O) : Hid (PairAt w B a len O) := h

/-- Cell i of a row of pairs. -/
def pairCell (O : Pairs) (i : Nat) : Value :=
  if i % 2 = 0 then .string (O.U (i / 2)) else .string (O.V (i / 2))

theorem pairCell0 (O : Pairs) (k : Nat) : pairCell O (k * 2) = .string (O.U k) := by
  unfold pairCell; rw [if_pos (by omega), show (k * 2) / 2 = k by omega]
theorem pairCell1 (O : Pairs) (k : Nat) : pairCell O (k * 2 + 1) = .string (O.V k) := by
  unfold pairCell; rw [if_neg (by omega), show (k * 2 + 1) / 2 = k by omega]

/-- .. out of its cells. -/
theorem pairAt_cells {w : World} {g n : Nat} {O : Pairs} (h : ∀ j, j < n * 2 → w.cell? ⟨g, j, none⟩ = some (pairCell O j)) {B : Nat} (hB : g < B) : PairAt w B (some ⟨g, 0, none⟩) n O := by
  refine .inr ⟨g, 0, rfl, hB, fun i hi => ⟨?_, ?_⟩⟩
  · rw [Nat.zero_add, h _ (by omega), pairCell0]
  · rw [Nat.zero_add, h _ (by omega), pairCell1]
theorem pairAt_mine {w : World} {B : Nat} {ty : TypeId} {a : Option Addr} {p n : Nat} {O : Pairs} (h : Mine w B ty 2 a p n (pairCell O)) : PairAt w w.heap.size a n O := by
  rcases h.at with h | ⟨g, rfl, _, hg, hc⟩
  · exact .inl h
  · exact pairAt_cells hc hg

theorem pairAt_row {w : World} {g n : Nat} {t : TypeId} {O : Pairs} (h : w.rowIs g t (n * 2) (pairCell O)) {B : Nat} (hB : g < B) : PairAt w B (some ⟨g, 0, none⟩) n O := by
  refine .inr ⟨g, 0, rfl, hB, fun i hi => ⟨?_, ?_⟩⟩
  · rw [Nat.zero_add, h.cell (by omega), pairCell0]
  · rw [Nat.zero_add, h.cell (by omega), pairCell1]

/-- The row while it is filled: the first k are there. -/
def fillPair (O : Pairs) (k : Nat) (i : Nat) : Value := if i < k * 2 then pairCell O i else (#[Value.string ⟨#[]⟩, .string ⟨#[]⟩] : Array Value)[i % 2]!

theorem fillPair_step {w : World} {g n k : Nat} {t : TypeId} {O : Pairs} (h : w.rowIs g t n (fillPair O k)) :
    ((((w).setCell ⟨g, k * 2, none⟩ (.string (O.U k)))).setCell ⟨g, k * 2 + 1, none⟩ (.string (O.V k))).rowIs g t n (fillPair O (k + 1)) := by
  refine ((h.set (k * 2) _).set (k * 2 + 1) _).congr fun i _ => ?_
  by_cases e1 : i = k * 2 + 1
  · subst e1; rw [if_pos rfl, fillPair, if_pos (by omega), pairCell1]
  · rw [if_neg e1]
    by_cases e0 : i = k * 2
    · subst e0; rw [if_pos rfl, fillPair, if_pos (by omega), pairCell0]
    · rw [if_neg e0]
      unfold fillPair
      by_cases hl : i < k * 2
      · rw [if_pos hl, if_pos (by omega)]
      · rw [if_neg hl, if_neg (by omega)]

theorem madePair_row (w : World) (n : Nat) (t : TypeId) (O : Pairs) : (w.alloc (.cells (madeCells #[Value.string ⟨#[]⟩, .string ⟨#[]⟩] (n * 2)) t)).rowIs w.heap.size t (n * 2) (fillPair O 0) := by
  have h := World.rowIs_alloc w (madeCells #[Value.string ⟨#[]⟩, .string ⟨#[]⟩] (n * 2)) t (fillPair O 0) (fun i hi => by
    rw [size_madeCells] at hi
    unfold fillPair madeCells
    rw [if_neg (by omega)]
    simp [hi])
  rwa [size_madeCells] at h

theorem laws_eqPair (x0 : ByteArray) (x1 : ByteArray) (w : World) :
    Calls Try.prog 59 #[.agg #[.string x0, .string x1], .agg #[.string x0, .string x1]] w fun e w' => e = .returned (.bool true) ∧ Below w.heap.size w w' := by
  go_enter Try.func59, Try.ntmps59
  go_wp2
  go_ret
  exact ⟨rfl, by go_grown⟩

set_option maxHeartbeats 1000000 in
theorem laws_eqPairS (a b : Option Addr) (len ca cb : Nat) (O : Pairs) (w : World) (hl : len ≤ 1048576) (ha : PairAt w w.heap.size a len O) (hb : PairAt w w.heap.size b len O) :
    Calls Try.prog 33 #[.slice a len ca, .slice b len cb] w fun e w' => e = .returned (.bool true) ∧ Below w.heap.size w w' := by
  have HA : Hid (PairAt w w.heap.size a len O) := ha
  have HB : Hid (PairAt w w.heap.size b len O) := hb
  clear ha hb
  have HB0 : Hid (Below w.heap.size w w) := Below.refl _ _
  go_enter Try.func33, Try.ntmps33
  go_wp2
  go_loopw [5] (fun i wr => ∃ k : Nat, i = .int .i64 k ∧ k ≤ len ∧ Hid (Below w.heap.size w wr)) (fun i _ => len - (intOf i).toNat)
  case atStart => exact ⟨0, rfl, by omega, HB0⟩
  case round =>
    obtain ⟨k, rfl, hk, HW⟩ := hrel
    clear HB0
    by_cases hlt : k < len
    · obtain ⟨b1, off1, rfl, hb1, c0, c1⟩ := (HA.out.below HW.out).at hlt
      obtain ⟨b2, off2, rfl, hb2, d0, d1⟩ := (HB.out.below HW.out).at hlt
      have hki : (k : Int) < (len : Int) := by omega
      have hstart : wr.drew.cell? ⟨b1, off1 + k * 2, none⟩ = some (.string (O.U k)) ∧ wr.drew.cell? ⟨b1, off1 + k * 2 + 1, none⟩ = some (.string (O.V k)) ∧
          wr.drew.cell? ⟨b2, off2 + k * 2, none⟩ = some (.string (O.U k)) ∧ wr.drew.cell? ⟨b2, off2 + k * 2 + 1, none⟩ = some (.string (O.V k)) ∧ Hid (Below w.heap.size w wr.drew) :=
        ⟨c0, c1, d0, d1, HW.out.drew⟩
      clear c0 c1 d0 d1
      go_wp2_with fail
      go_region_held3 (fun (w' : World) => w'.cell? ⟨b1, off1 + k * 2, none⟩ = some (.string (O.U k)) ∧ w'.cell? ⟨b1, off1 + k * 2 + 1, none⟩ = some (.string (O.V k)) ∧
          w'.cell? ⟨b2, off2 + k * 2, none⟩ = some (.string (O.U k)) ∧ w'.cell? ⟨b2, off2 + k * 2 + 1, none⟩ = some (.string (O.V k)) ∧ Hid (Below w.heap.size w w')) (assumption)
        ((go_at_call 59; refine (held_callE (S := fun (w' : World) => w'.cell? ⟨b1, off1 + k * 2, none⟩ = some (.string (O.U k)) ∧ w'.cell? ⟨b1, off1 + k * 2 + 1, none⟩ = some (.string (O.V k)) ∧
          w'.cell? ⟨b2, off2 + k * 2, none⟩ = some (.string (O.U k)) ∧ w'.cell? ⟨b2, off2 + k * 2 + 1, none⟩ = some (.string (O.V k)) ∧ Hid (Below w.heap.size w w'))
          (fun wa wb h hx => ⟨(hx.cell (p := ⟨b1, _, none⟩) (Nat.lt_of_lt_of_le hb1 h.2.2.2.2.out.size)).trans h.1, (hx.cell (p := ⟨b1, _, none⟩) (Nat.lt_of_lt_of_le hb1 h.2.2.2.2.out.size)).trans h.2.1, (hx.cell (p := ⟨b2, _, none⟩) (Nat.lt_of_lt_of_le hb2 h.2.2.2.2.out.size)).trans h.2.2.1, (hx.cell (p := ⟨b2, _, none⟩) (Nat.lt_of_lt_of_le hb2 h.2.2.2.2.out.size)).trans h.2.2.2.1, h.2.2.2.2.out.trans (hx.mono h.2.2.2.2.out.size)⟩)
          (by assumption) (laws_eqPair _ _ _)).mono ?_; rintro e w1 ⟨rfl, hS⟩))
      all_goals
        have HW2 : Hid (Below w.heap.size w w1) := hS.2.2.2.2
        clear hS hstart
        go_wp2
        exact ⟨⟨k + 1, by go_num, by omega, HW2⟩, by simp [intOf]; omega⟩
    · go_wp2
      go_ret
      exact ⟨rfl, HW.out⟩

end Go.Proofs.Ytaihicbllcipeaa
