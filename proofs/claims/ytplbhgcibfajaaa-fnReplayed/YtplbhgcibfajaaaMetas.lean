/- Rows of metas: those that came in, the copies that the laws make; their size, and that two are alike. (By gen_row.py.) -/
import Derived.Test.YtplbhgcibfajaaaRows
import Derived.Test.YtplbhgcibfajaaaEntRow
import Derived.Test.YtplbhgcibfajaaaMine
import Derived.Deep.OwnRows
import Derived.Deep.Slices
import Derived.Deep.RegionHeld3
namespace Go.Proofs.Ytplbhgcibfajaaa
set_option maxRecDepth 100000
open Go.RowKit Go.Deep

/-- The metas of a row, by their places. -/
structure Metas where
  N : Nat → Int
  L : Nat → Int
  F : Nat → ByteArray
  Z : Nat → ByteArray
  C : Nat → Int

/-- A row of len metas, in memory below block B. -/
def MetaAt (w : World) (B : Nat) (a : Option Addr) (len : Nat) (O : Metas) : Prop :=
  len = 0 ∨ ∃ b off, a = some ⟨b, off, none⟩ ∧ b < B ∧ ∀ i, i < len → w.cell? ⟨b, off + i * 5, none⟩ = some (.int .i64 (O.N i)) ∧ w.cell? ⟨b, off + i * 5 + 1, none⟩ = some (.int .i64 (O.L i)) ∧ w.cell? ⟨b, off + i * 5 + 2, none⟩ = some (.string (O.F i)) ∧ w.cell? ⟨b, off + i * 5 + 3, none⟩ = some (.string (O.Z i)) ∧ w.cell? ⟨b, off + i * 5 + 4, none⟩ = some (.int .i64 (O.C i))

theorem MetaAt.below {w w' : World} {B : Nat} {a : Option Addr} {len : Nat} {O : Metas} (h : MetaAt w B a len O) (hb : Below B w w') : MetaAt w' B a len O := by
  rcases h with h | ⟨b, off, e, hB, hc⟩
  · exact .inl h
  · refine .inr ⟨b, off, e, hB, fun i hi => ?_⟩
    obtain ⟨c0, c1, c2, c3, c4⟩ := hc i hi
    exact ⟨(hb.cell (p := ⟨b, _, none⟩) hB).trans c0, (hb.cell (p := ⟨b, _, none⟩) hB).trans c1, (hb.cell (p := ⟨b, _, none⟩) hB).trans c2, (hb.cell (p := ⟨b, _, none⟩) hB).trans c3, (hb.cell (p := ⟨b, _, none⟩) hB).trans c4⟩

theorem MetaAt.mono {w : World} {B B' : Nat} {a : Option Addr} {len : Nat} {O : Metas} (h : MetaAt w B a len O) (hB : B ≤ B') : MetaAt w B' a len O := by
  rcases h with h | ⟨b, off, e, hb, hc⟩
  · exact .inl h
  · exact .inr ⟨b, off, e, by omega, hc⟩

/-- A row that lies lower stays as it is. -/
theorem MetaAt.on {w w' : World} {B B' : Nat} {a : Option Addr} {len : Nat} {O : Metas} (h : MetaAt w B a len O) (hb : Below B' w w') (hB : B ≤ B') : MetaAt w' B' a len O := (h.mono hB).below hb

theorem MetaAt.next {w w' : World} {a : Option Addr} {len : Nat} {O : Metas} (h : MetaAt w w.heap.size a len O) (hb : Below w.heap.size w w') : MetaAt w' w'.heap.size a len O := (h.below hb).mono hb.size

theorem MetaAt.at {w : World} {B : Nat} {a : Option Addr} {len : Nat} {O : Metas} (h : MetaAt w B a len O) {i : Nat} (hi : i < len) :
    ∃ b off, a = some ⟨b, off, none⟩ ∧ b < B ∧ w.cell? ⟨b, off + i * 5, none⟩ = some (.int .i64 (O.N i)) ∧ w.cell? ⟨b, off + i * 5 + 1, none⟩ = some (.int .i64 (O.L i)) ∧ w.cell? ⟨b, off + i * 5 + 2, none⟩ = some (.string (O.F i)) ∧ w.cell? ⟨b, off + i * 5 + 3, none⟩ = some (.string (O.Z i)) ∧ w.cell? ⟨b, off + i * 5 + 4, none⟩ = some (.int .i64 (O.C i)) := by
  rcases h with h | ⟨b, off, e, hb, hc⟩
  · omega
  · exact ⟨b, off, e, hb, hc i hi⟩

theorem MetaAt.hid {w : World} {B : Nat} {a : Option Addr} {len : Nat} {O : Metas} (h : MetaAt w B a len O) : Hid (MetaAt w B a len O) := h

set_option maxHeartbeats 1000000 in
theorem laws_szMeta (x0 : Int) (x1 : Int) (x2 : ByteArray) (x3 : ByteArray) (x4 : Int) (l : Int) (hx2 : x2.size ≤ maxLen) (hx3 : x3.size ≤ maxLen) (hl : 0 ≤ l ∧ l ≤ 1048576) (w : World) :
    Calls Try.prog 53 #[.agg #[.int .i64 x0, .int .i64 x1, .string x2, .string x3, .int .i64 x4], .int .i64 l] w fun e w' => e = .returned (.int .i64 (if l < x2.size + x3.size then -1 else l - x2.size - x3.size)) ∧ Below w.heap.size w w' := by
  obtain ⟨hl0, hl1⟩ := hl
  unfold maxLen at hx2 hx3
  by_cases g0 : l - (x2.size : Int) < 0
  · have hT : l < (x2.size : Int) + (x3.size : Int) := by omega
    go_enter Try.func53, Try.ntmps53
    go_wp2
    go_ret
    exact ⟨rfl, by go_grown⟩
  · skip
    by_cases g1 : l - (x2.size : Int) - (x3.size : Int) < 0
    · have hT : l < (x2.size : Int) + (x3.size : Int) := by omega
      go_enter Try.func53, Try.ntmps53
      go_wp2
      go_ret
      exact ⟨rfl, by go_grown⟩
    · skip
      have hT : ¬ (l < (x2.size : Int) + (x3.size : Int)) := by omega
      go_enter Try.func53, Try.ntmps53
      go_wp2
      go_ret
      exact ⟨rfl, by go_grown⟩

set_option maxHeartbeats 1000000 in
/-- The size of what came in: below 0, or as much is left as there was at most. -/
theorem laws_szMetaS (a : Option Addr) (len cap : Nat) (O : Metas) (l : Int) (w : World) (hl : len ≤ maxLen) (hs : ∀ i, i < len → (O.F i).size ≤ maxLen ∧ (O.Z i).size ≤ maxLen) (h0 : 0 ≤ l) (h1 : l ≤ 1048576) (hS : MetaAt w w.heap.size a len O) :
    Calls Try.prog 29 #[.slice a len cap, .int .i64 l] w fun e w' => (∃ r : Int, e = .returned (.int .i64 r) ∧ (r < 0 ∨ (0 ≤ r ∧ r ≤ l ∧ (len : Int) ≤ l))) ∧ Below w.heap.size w w' := by
  unfold maxLen at hl
  have HSz : Hid (∀ i, i < len → (O.F i).size ≤ maxLen ∧ (O.Z i).size ≤ maxLen) := hs
  clear hs
  by_cases hbig : l < (len : Int)
  · have hx : l - (len : Int) < 0 := by omega
    go_enter Try.func29, Try.ntmps29
    go_wp2
    go_ret
    exact ⟨⟨-1, rfl, .inl (by omega)⟩, Below.refl _ _⟩
  · have hx : ¬ (l - (len : Int) < 0) := by omega
    have HS : Hid (MetaAt w w.heap.size a len O) := hS
    have HB0 : Hid (Below w.heap.size w w) := Below.refl _ _
    clear hS
    go_enter Try.func29, Try.ntmps29
    go_wp2
    go_loopw [1, 5] (fun r i wr => ∃ (k : Nat) (x : Int), r = .int .i64 x ∧ i = .int .i64 k ∧ k ≤ len ∧ 0 ≤ x ∧ x + len ≤ l ∧ Hid (Below w.heap.size w wr)) (fun _ i _ => len - (intOf i).toNat)
    case atStart => exact ⟨0, l - len, rfl, rfl, by omega, by omega, by omega, HB0⟩
    case round =>
      obtain ⟨k, x, rfl, rfl, hk, hx0, hx1, HB⟩ := hrel
      clear HB0
      by_cases hlt : k < len
      · obtain ⟨b, off, rfl, hb, c0, c1, c2, c3, c4⟩ := (HS.out.below HB.out).at hlt
        obtain ⟨z0, z1⟩ := HSz.out k hlt
        unfold maxLen at z0 z1
        by_cases hneg : x < (O.F k).size + (O.Z k).size
        · go_wp2_with fail
          refine (calls_from HB.out (laws_szMeta (O.N k) (O.L k) (O.F k) (O.Z k) (O.C k) x (by unfold maxLen; omega) (by unfold maxLen; omega) ⟨hx0, by omega⟩ _)).mono ?_
          rintro e w1 ⟨rfl, hB1⟩
          have HB1 : Hid _ := hB1
          clear hB1 c0 c1 c2 c3 c4
          go_wp2
          go_ret
          exact ⟨⟨-1, rfl, .inl (by omega)⟩, HB1⟩
        · have hneg' : ¬ (x - ((O.F k).size : Int) - ((O.Z k).size : Int) < 0) := by omega
          go_wp2_with fail
          refine (calls_from HB.out (laws_szMeta (O.N k) (O.L k) (O.F k) (O.Z k) (O.C k) x (by unfold maxLen; omega) (by unfold maxLen; omega) ⟨hx0, by omega⟩ _)).mono ?_
          rintro e w1 ⟨rfl, hB1⟩
          have HB1 : Hid (Below w.heap.size w w1) := hB1
          clear hB1 c0 c1 c2 c3 c4
          go_wp2
          exact ⟨⟨k + 1, x - (O.F k).size - (O.Z k).size, by rw [if_neg (by omega)], by go_num, by omega, by omega, by omega, HB1⟩, by simp [intOf]; omega⟩
      · obtain rfl : k = len := by omega
        go_wp2
        go_ret
        exact ⟨⟨x, rfl, Or.inr ⟨by omega, by omega⟩⟩, HB.out⟩

/-- Cell i of a row of metas. -/
def metaCell (O : Metas) (i : Nat) : Value :=
  if i % 5 = 0 then .int .i64 (O.N (i / 5)) else if i % 5 = 1 then .int .i64 (O.L (i / 5)) else if i % 5 = 2 then .string (O.F (i / 5)) else if i % 5 = 3 then .string (O.Z (i / 5)) else .int .i64 (O.C (i / 5))

theorem metaCell0 (O : Metas) (k : Nat) : metaCell O (k * 5) = .int .i64 (O.N k) := by
  unfold metaCell; rw [if_pos (by omega), show (k * 5) / 5 = k by omega]
theorem metaCell1 (O : Metas) (k : Nat) : metaCell O (k * 5 + 1) = .int .i64 (O.L k) := by
  unfold metaCell; rw [if_neg (by omega), if_pos (by omega), show (k * 5 + 1) / 5 = k by omega]
theorem metaCell2 (O : Metas) (k : Nat) : metaCell O (k * 5 + 2) = .string (O.F k) := by
  unfold metaCell; rw [if_neg (by omega), if_neg (by omega), if_pos (by omega), show (k * 5 + 2) / 5 = k by omega]
theorem metaCell3 (O : Metas) (k : Nat) : metaCell O (k * 5 + 3) = .string (O.Z k) := by
  unfold metaCell; rw [if_neg (by omega), if_neg (by omega), if_neg (by omega), if_pos (by omega), show (k * 5 + 3) / 5 = k by omega]
theorem metaCell4 (O : Metas) (k : Nat) : metaCell O (k * 5 + 4) = .int .i64 (O.C k) := by
  unfold metaCell; rw [if_neg (by omega), if_neg (by omega), if_neg (by omega), if_neg (by omega), show (k * 5 + 4) / 5 = k by omega]

/-- .. out of its cells. -/
theorem metaAt_cells {w : World} {g n : Nat} {O : Metas} (h : ∀ j, j < n * 5 → w.cell? ⟨g, j, none⟩ = some (metaCell O j)) {B : Nat} (hB : g < B) : MetaAt w B (some ⟨g, 0, none⟩) n O := by
  refine .inr ⟨g, 0, rfl, hB, fun i hi => ⟨?_, ?_, ?_, ?_, ?_⟩⟩
  · rw [Nat.zero_add, h _ (by omega), metaCell0]
  · rw [Nat.zero_add, h _ (by omega), metaCell1]
  · rw [Nat.zero_add, h _ (by omega), metaCell2]
  · rw [Nat.zero_add, h _ (by omega), metaCell3]
  · rw [Nat.zero_add, h _ (by omega), metaCell4]
theorem metaAt_mine {w : World} {B : Nat} {ty : TypeId} {a : Option Addr} {p n : Nat} {O : Metas} (h : Mine w B ty 5 a p n (metaCell O)) : MetaAt w w.heap.size a n O := by
  rcases h.at with h | ⟨g, rfl, _, hg, hc⟩
  · exact .inl h
  · exact metaAt_cells hc hg

theorem metaAt_row {w : World} {g n : Nat} {t : TypeId} {O : Metas} (h : w.rowIs g t (n * 5) (metaCell O)) {B : Nat} (hB : g < B) : MetaAt w B (some ⟨g, 0, none⟩) n O := by
  refine .inr ⟨g, 0, rfl, hB, fun i hi => ⟨?_, ?_, ?_, ?_, ?_⟩⟩
  · rw [Nat.zero_add, h.cell (by omega), metaCell0]
  · rw [Nat.zero_add, h.cell (by omega), metaCell1]
  · rw [Nat.zero_add, h.cell (by omega), metaCell2]
  · rw [Nat.zero_add, h.cell (by omega), metaCell3]
  · rw [Nat.zero_add, h.cell (by omega), metaCell4]

/-- The row while it is filled: the first k are there. -/
def fillMeta (O : Metas) (k : Nat) (i : Nat) : Value := if i < k * 5 then metaCell O i else (#[Value.int .i64 0, .int .i64 0, .string ⟨#[]⟩, .string ⟨#[]⟩, .int .i64 0] : Array Value)[i % 5]!

theorem fillMeta_step {w : World} {g n k : Nat} {t : TypeId} {O : Metas} (h : w.rowIs g t n (fillMeta O k)) :
    ((((((((((w).setCell ⟨g, k * 5, none⟩ (.int .i64 (O.N k)))).setCell ⟨g, k * 5 + 1, none⟩ (.int .i64 (O.L k)))).setCell ⟨g, k * 5 + 2, none⟩ (.string (O.F k)))).setCell ⟨g, k * 5 + 3, none⟩ (.string (O.Z k)))).setCell ⟨g, k * 5 + 4, none⟩ (.int .i64 (O.C k))).rowIs g t n (fillMeta O (k + 1)) := by
  refine (((((h.set (k * 5) _).set (k * 5 + 1) _).set (k * 5 + 2) _).set (k * 5 + 3) _).set (k * 5 + 4) _).congr fun i _ => ?_
  by_cases e4 : i = k * 5 + 4
  · subst e4; rw [if_pos rfl, fillMeta, if_pos (by omega), metaCell4]
  · rw [if_neg e4]
    by_cases e3 : i = k * 5 + 3
    · subst e3; rw [if_pos rfl, fillMeta, if_pos (by omega), metaCell3]
    · rw [if_neg e3]
      by_cases e2 : i = k * 5 + 2
      · subst e2; rw [if_pos rfl, fillMeta, if_pos (by omega), metaCell2]
      · rw [if_neg e2]
        by_cases e1 : i = k * 5 + 1
        · subst e1; rw [if_pos rfl, fillMeta, if_pos (by omega), metaCell1]
        · rw [if_neg e1]
          by_cases e0 : i = k * 5
          · subst e0; rw [if_pos rfl, fillMeta, if_pos (by omega), metaCell0]
          · rw [if_neg e0]
            unfold fillMeta
            by_cases hl : i < k * 5
            · rw [if_pos hl, if_pos (by omega)]
            · rw [if_neg hl, if_neg (by omega)]

theorem madeMeta_row (w : World) (n : Nat) (t : TypeId) (O : Metas) : (w.alloc (.cells (madeCells #[Value.int .i64 0, .int .i64 0, .string ⟨#[]⟩, .string ⟨#[]⟩, .int .i64 0] (n * 5)) t)).rowIs w.heap.size t (n * 5) (fillMeta O 0) := by
  have h := World.rowIs_alloc w (madeCells #[Value.int .i64 0, .int .i64 0, .string ⟨#[]⟩, .string ⟨#[]⟩, .int .i64 0] (n * 5)) t (fillMeta O 0) (fun i hi => by
    rw [size_madeCells] at hi
    unfold fillMeta madeCells
    rw [if_neg (by omega)]
    simp [hi])
  rwa [size_madeCells] at h

theorem laws_toMeta (x0 : Int) (x1 : Int) (x2 : ByteArray) (x3 : ByteArray) (x4 : Int) (w : World) :
    Calls Try.prog 56 #[.agg #[.int .i64 x0, .int .i64 x1, .string x2, .string x3, .int .i64 x4]] w fun e w' => e = .returned (.agg #[.int .i64 x0, .int .i64 x1, .string x2, .string x3, .int .i64 x4]) ∧ Below w.heap.size w w' := by
  go_enter Try.func56, Try.ntmps56
  go_wp2
  refine bodyPost_ret (v := .agg #[.int .i64 x0, .int .i64 x1, .string x2, .string x3, .int .i64 x4]) (by simp [results, Try.results56, go_sem]) rfl ⟨rfl, ?_⟩
  go_grown

set_option maxHeartbeats 1000000 in
set_option maxRecDepth 100000 in
/-- The copy that the laws make. -/
theorem laws_toMetaS (a : Option Addr) (len cap : Nat) (O : Metas) (w : World) (hl : len ≤ 1048576) (hS : MetaAt w w.heap.size a len O) :
    Calls Try.prog 33 #[.slice a len cap] w fun e w' => e = .returned (.slice (some ⟨w.heap.size, 0, none⟩) len len) ∧ w'.rowIs w.heap.size 59 (len * 5) (metaCell O) ∧ Below w.heap.size w w' := by
  have hi : (Try.prog.info? 59).map (fun i => (i.zero, i.size, i.bytes)) = some (some (.agg #[.int .i64 0, .int .i64 0, .string ⟨#[]⟩, .string ⟨#[]⟩, .int .i64 0]), 5, 56) := by kernel_rfl
  obtain ⟨i0, hi0, hz0, hz1, hz2⟩ := info_parts hi
  have hmk : ∀ W : World, (Instr.makeSlice 30 (.int .i64 (len : Int)) (.int .i64 (len : Int))).run Try.prog W = .ok (.slice (some ⟨W.heap.size, 0, none⟩) len len) (W.alloc (.cells (madeCells #[Value.int .i64 0, .int .i64 0, .string ⟨#[]⟩, .string ⟨#[]⟩, .int .i64 0] (len * 5)) 59)) := fun W => by
    have := run_make (P := Try.prog) W 30 59 i0 _ Try.underlying30 hi0 hz0 .i64 .i64 len len (by omega) (Int.le_refl _) (by rw [hz2]; omega) (by omega)
    rw [hz1] at this
    simpa [Value.cells] using this
  have HR0 : Hid ((w.alloc (.cells (madeCells #[Value.int .i64 0, .int .i64 0, .string ⟨#[]⟩, .string ⟨#[]⟩, .int .i64 0] (len * 5)) 59)).rowIs w.heap.size 59 (len * 5) (fillMeta O 0)) := madeMeta_row w len _ O
  have HB0 : Hid (Below w.heap.size w (w.alloc (.cells (madeCells #[Value.int .i64 0, .int .i64 0, .string ⟨#[]⟩, .string ⟨#[]⟩, .int .i64 0] (len * 5)) 59))) := (Below.refl _ _).alloc (Nat.le_refl _) _
  have HS : Hid (MetaAt w w.heap.size a len O) := hS
  clear hS hi hi0 hz0 hz1 hz2
  go_enter Try.func33, Try.ntmps33
  go_wp2
  generalize w.alloc (.cells (madeCells #[Value.int .i64 0, .int .i64 0, .string ⟨#[]⟩, .string ⟨#[]⟩, .int .i64 0] (len * 5)) 59) = w0 at HR0 HB0 ⊢
  clear hmk
  go_loopw [4] (fun i wr => ∃ k : Nat, i = .int .i64 k ∧ k ≤ len ∧ Hid (wr.rowIs w.heap.size 59 (len * 5) (fillMeta O k)) ∧ Hid (Below w.heap.size w wr)) (fun i _ => len - (intOf i).toNat)
  case atStart => exact ⟨0, rfl, by omega, HR0, HB0⟩
  case round =>
    obtain ⟨k, rfl, hk, HR, HB⟩ := hrel
    clear HR0 HB0
    by_cases hlt : k < len
    · obtain ⟨b, off, rfl, hb, c0, c1, c2, c3, c4⟩ := (HS.out.below HB.out).at hlt
      have hlti : (k : Int) < (len : Int) := by omega
      go_wp2_with fail
      refine (laws_toMeta (O.N k) (O.L k) (O.F k) (O.Z k) (O.C k) _).mono ?_
      rintro e w1 ⟨rfl, hb1⟩
      have HR1 : Hid (w1.rowIs w.heap.size 59 (len * 5) (fillMeta O k)) := entRow_below HR.out hb1 HR.out.lt
      have HB1 : Hid (Below w.heap.size w w1) := HB.out.trans (hb1.mono HB.out.size)
      have d0 := HR1.out.cell (i := k * 5) (by omega)
      have d1 := HR1.out.cell (i := k * 5 + 1) (by omega)
      have d2 := HR1.out.cell (i := k * 5 + 2) (by omega)
      have d3 := HR1.out.cell (i := k * 5 + 3) (by omega)
      have d4 := HR1.out.cell (i := k * 5 + 4) (by omega)
      have hfr := HR1.out.frozen
      have HR2 : Hid _ := fillMeta_step HR1.out
      have HB2 : Hid _ := ((((HB1.out.setCell (p := ⟨w.heap.size, k * 5, none⟩) (Nat.le_refl _) (.int .i64 (O.N k))).setCell (p := ⟨w.heap.size, k * 5 + 1, none⟩) (Nat.le_refl _) (.int .i64 (O.L k))).setCell (p := ⟨w.heap.size, k * 5 + 2, none⟩) (Nat.le_refl _) (.string (O.F k))).setCell (p := ⟨w.heap.size, k * 5 + 3, none⟩) (Nat.le_refl _) (.string (O.Z k))).setCell (p := ⟨w.heap.size, k * 5 + 4, none⟩) (Nat.le_refl _) (.int .i64 (O.C k))
      clear hb1 HR HB c0 c1 c2 c3 c4 HR1 HB1
      generalize fillMeta O k (k * 5) = v0 at d0
      generalize fillMeta O k (k * 5 + 1) = v1 at d1
      generalize fillMeta O k (k * 5 + 2) = v2 at d2
      generalize fillMeta O k (k * 5 + 3) = v3 at d3
      generalize fillMeta O k (k * 5 + 4) = v4 at d4
      go_wp2
      exact ⟨⟨k + 1, by go_num, by omega, HR2, HB2⟩, by simp [intOf]; omega⟩
    · obtain rfl : k = len := by omega
      go_wp2
      go_ret
      exact ⟨rfl, HR.out.congr fun i hi => by rw [fillMeta, if_pos hi], HB.out⟩

theorem laws_eqMeta (x0 : Int) (x1 : Int) (x2 : ByteArray) (x3 : ByteArray) (x4 : Int) (w : World) :
    Calls Try.prog 61 #[.agg #[.int .i64 x0, .int .i64 x1, .string x2, .string x3, .int .i64 x4], .agg #[.int .i64 x0, .int .i64 x1, .string x2, .string x3, .int .i64 x4]] w fun e w' => e = .returned (.bool true) ∧ Below w.heap.size w w' := by
  go_enter Try.func61, Try.ntmps61
  go_wp2
  go_ret
  exact ⟨rfl, by go_grown⟩

set_option maxHeartbeats 1000000 in
theorem laws_eqMetaS (a b : Option Addr) (len ca cb : Nat) (O : Metas) (w : World) (hl : len ≤ 1048576) (ha : MetaAt w w.heap.size a len O) (hb : MetaAt w w.heap.size b len O) :
    Calls Try.prog 38 #[.slice a len ca, .slice b len cb] w fun e w' => e = .returned (.bool true) ∧ Below w.heap.size w w' := by
  have HA : Hid (MetaAt w w.heap.size a len O) := ha
  have HB : Hid (MetaAt w w.heap.size b len O) := hb
  clear ha hb
  have HB0 : Hid (Below w.heap.size w w) := Below.refl _ _
  go_enter Try.func38, Try.ntmps38
  go_wp2
  go_loopw [5] (fun i wr => ∃ k : Nat, i = .int .i64 k ∧ k ≤ len ∧ Hid (Below w.heap.size w wr)) (fun i _ => len - (intOf i).toNat)
  case atStart => exact ⟨0, rfl, by omega, HB0⟩
  case round =>
    obtain ⟨k, rfl, hk, HW⟩ := hrel
    clear HB0
    by_cases hlt : k < len
    · obtain ⟨b1, off1, rfl, hb1, c0, c1, c2, c3, c4⟩ := (HA.out.below HW.out).at hlt
      obtain ⟨b2, off2, rfl, hb2, d0, d1, d2, d3, d4⟩ := (HB.out.below HW.out).at hlt
      have hki : (k : Int) < (len : Int) := by omega
      have hstart : wr.drew.cell? ⟨b1, off1 + k * 5, none⟩ = some (.int .i64 (O.N k)) ∧ wr.drew.cell? ⟨b1, off1 + k * 5 + 1, none⟩ = some (.int .i64 (O.L k)) ∧ wr.drew.cell? ⟨b1, off1 + k * 5 + 2, none⟩ = some (.string (O.F k)) ∧ wr.drew.cell? ⟨b1, off1 + k * 5 + 3, none⟩ = some (.string (O.Z k)) ∧ wr.drew.cell? ⟨b1, off1 + k * 5 + 4, none⟩ = some (.int .i64 (O.C k)) ∧
          wr.drew.cell? ⟨b2, off2 + k * 5, none⟩ = some (.int .i64 (O.N k)) ∧ wr.drew.cell? ⟨b2, off2 + k * 5 + 1, none⟩ = some (.int .i64 (O.L k)) ∧ wr.drew.cell? ⟨b2, off2 + k * 5 + 2, none⟩ = some (.string (O.F k)) ∧ wr.drew.cell? ⟨b2, off2 + k * 5 + 3, none⟩ = some (.string (O.Z k)) ∧ wr.drew.cell? ⟨b2, off2 + k * 5 + 4, none⟩ = some (.int .i64 (O.C k)) ∧ Hid (Below w.heap.size w wr.drew) :=
        ⟨c0, c1, c2, c3, c4, d0, d1, d2, d3, d4, HW.out.drew⟩
      clear c0 c1 c2 c3 c4 d0 d1 d2 d3 d4
      go_wp2_with fail
      go_region_held3 (fun (w' : World) => w'.cell? ⟨b1, off1 + k * 5, none⟩ = some (.int .i64 (O.N k)) ∧ w'.cell? ⟨b1, off1 + k * 5 + 1, none⟩ = some (.int .i64 (O.L k)) ∧ w'.cell? ⟨b1, off1 + k * 5 + 2, none⟩ = some (.string (O.F k)) ∧ w'.cell? ⟨b1, off1 + k * 5 + 3, none⟩ = some (.string (O.Z k)) ∧ w'.cell? ⟨b1, off1 + k * 5 + 4, none⟩ = some (.int .i64 (O.C k)) ∧
          w'.cell? ⟨b2, off2 + k * 5, none⟩ = some (.int .i64 (O.N k)) ∧ w'.cell? ⟨b2, off2 + k * 5 + 1, none⟩ = some (.int .i64 (O.L k)) ∧ w'.cell? ⟨b2, off2 + k * 5 + 2, none⟩ = some (.string (O.F k)) ∧ w'.cell? ⟨b2, off2 + k * 5 + 3, none⟩ = some (.string (O.Z k)) ∧ w'.cell? ⟨b2, off2 + k * 5 + 4, none⟩ = some (.int .i64 (O.C k)) ∧ Hid (Below w.heap.size w w')) (assumption)
        ((go_at_call 61; refine (held_callE (S := fun (w' : World) => w'.cell? ⟨b1, off1 + k * 5, none⟩ = some (.int .i64 (O.N k)) ∧ w'.cell? ⟨b1, off1 + k * 5 + 1, none⟩ = some (.int .i64 (O.L k)) ∧ w'.cell? ⟨b1, off1 + k * 5 + 2, none⟩ = some (.string (O.F k)) ∧ w'.cell? ⟨b1, off1 + k * 5 + 3, none⟩ = some (.string (O.Z k)) ∧ w'.cell? ⟨b1, off1 + k * 5 + 4, none⟩ = some (.int .i64 (O.C k)) ∧
          w'.cell? ⟨b2, off2 + k * 5, none⟩ = some (.int .i64 (O.N k)) ∧ w'.cell? ⟨b2, off2 + k * 5 + 1, none⟩ = some (.int .i64 (O.L k)) ∧ w'.cell? ⟨b2, off2 + k * 5 + 2, none⟩ = some (.string (O.F k)) ∧ w'.cell? ⟨b2, off2 + k * 5 + 3, none⟩ = some (.string (O.Z k)) ∧ w'.cell? ⟨b2, off2 + k * 5 + 4, none⟩ = some (.int .i64 (O.C k)) ∧ Hid (Below w.heap.size w w'))
          (fun wa wb h hx => ⟨(hx.cell (p := ⟨b1, _, none⟩) (Nat.lt_of_lt_of_le hb1 h.2.2.2.2.2.2.2.2.2.2.out.size)).trans h.1, (hx.cell (p := ⟨b1, _, none⟩) (Nat.lt_of_lt_of_le hb1 h.2.2.2.2.2.2.2.2.2.2.out.size)).trans h.2.1, (hx.cell (p := ⟨b1, _, none⟩) (Nat.lt_of_lt_of_le hb1 h.2.2.2.2.2.2.2.2.2.2.out.size)).trans h.2.2.1, (hx.cell (p := ⟨b1, _, none⟩) (Nat.lt_of_lt_of_le hb1 h.2.2.2.2.2.2.2.2.2.2.out.size)).trans h.2.2.2.1, (hx.cell (p := ⟨b1, _, none⟩) (Nat.lt_of_lt_of_le hb1 h.2.2.2.2.2.2.2.2.2.2.out.size)).trans h.2.2.2.2.1, (hx.cell (p := ⟨b2, _, none⟩) (Nat.lt_of_lt_of_le hb2 h.2.2.2.2.2.2.2.2.2.2.out.size)).trans h.2.2.2.2.2.1, (hx.cell (p := ⟨b2, _, none⟩) (Nat.lt_of_lt_of_le hb2 h.2.2.2.2.2.2.2.2.2.2.out.size)).trans h.2.2.2.2.2.2.1, (hx.cell (p := ⟨b2, _, none⟩) (Nat.lt_of_lt_of_le hb2 h.2.2.2.2.2.2.2.2.2.2.out.size)).trans h.2.2.2.2.2.2.2.1, (hx.cell (p := ⟨b2, _, none⟩) (Nat.lt_of_lt_of_le hb2 h.2.2.2.2.2.2.2.2.2.2.out.size)).trans h.2.2.2.2.2.2.2.2.1, (hx.cell (p := ⟨b2, _, none⟩) (Nat.lt_of_lt_of_le hb2 h.2.2.2.2.2.2.2.2.2.2.out.size)).trans h.2.2.2.2.2.2.2.2.2.1, h.2.2.2.2.2.2.2.2.2.2.out.trans (hx.mono h.2.2.2.2.2.2.2.2.2.2.out.size)⟩)
          (by assumption) (laws_eqMeta _ _ _ _ _ _)).mono ?_; rintro e w1 ⟨rfl, hS⟩))
      all_goals
        have HW2 : Hid (Below w.heap.size w w1) := hS.2.2.2.2.2.2.2.2.2.2
        clear hS hstart
        go_wp2
        exact ⟨⟨k + 1, by go_num, by omega, HW2⟩, by simp [intOf]; omega⟩
    · go_wp2
      go_ret
      exact ⟨rfl, HW.out⟩

theorem meta_trod {H : Type} {enc : TypeId × Value → H} {w : World} {base : Nat} {spare : Nat → Bool} {held : Bool} {fuel : Nat} {cs : List Value} {x : DataW H × List MemPlace}
    (h : DataW.trod enc Try.prog w base spare held fuel 83 cs = some x) : ∃ (x0 : Int) (x1 : Int) (x2 : ByteArray) (x3 : ByteArray) (x4 : Int), cs = [.int .i64 x0, .int .i64 x1, .string x2, .string x3, .int .i64 x4] ∧ x2.size ≤ maxLen ∧ x3.size ≤ maxLen := by
  have hc : Try.prog.cellsOf 83 = 5 := by kernel_rfl
  have hc9 : Try.prog.cellsOf 9 = 1 := by kernel_rfl
  have hc2 : Try.prog.cellsOf 2 = 1 := by kernel_rfl
  obtain ⟨xs, n, _, _, hl, hxl, hf⟩ := DataW.trod_struct Try.underlying83 h
  rw [hc] at hl
  obtain ⟨c0, c1, c2, c3, c4, rfl⟩ : ∃ c0 c1 c2 c3 c4, cs = [c0, c1, c2, c3, c4] := by
    match cs, hl with
    | [c0, c1, c2, c3, c4], _ => exact ⟨c0, c1, c2, c3, c4, rfl⟩
  obtain ⟨y0, y1, y2, y3, y4, rfl⟩ : ∃ y0 y1 y2 y3 y4, xs = [y0, y1, y2, y3, y4] := by
    match xs, hxl with
    | [y0, y1, y2, y3, y4], _ => exact ⟨y0, y1, y2, y3, y4, rfl⟩
  have f0 : DataW.trod enc Try.prog w base spare held n 2 (List.take (Try.prog.cellsOf 2) [c0, c1, c2, c3, c4]) = some y0 := hf 0 _ rfl
  have f1 : DataW.trod enc Try.prog w base spare held n 2 (List.take (Try.prog.cellsOf 2) [c1, c2, c3, c4]) = some y1 := hf 1 _ rfl
  have f2 : DataW.trod enc Try.prog w base spare held n 9 (List.take (Try.prog.cellsOf 9) [c2, c3, c4]) = some y2 := hf 2 _ rfl
  have f3 : DataW.trod enc Try.prog w base spare held n 9 (List.take (Try.prog.cellsOf 9) [c3, c4]) = some y3 := hf 3 _ rfl
  have f4 : DataW.trod enc Try.prog w base spare held n 2 (List.take (Try.prog.cellsOf 2) [c4]) = some y4 := hf 4 _ rfl
  rw [hc2] at f0 f1 f4
  rw [hc9] at f2 f3
  obtain ⟨x0, e0, _, _⟩ := DataW.trod_int Try.underlying2 f0
  obtain ⟨x1, e1, _, _⟩ := DataW.trod_int Try.underlying2 f1
  obtain ⟨x2, e2, _, hx2⟩ := DataW.trod_string Try.underlying9 f2
  obtain ⟨x3, e3, _, hx3⟩ := DataW.trod_string Try.underlying9 f3
  obtain ⟨x4, e4, _, _⟩ := DataW.trod_int Try.underlying2 f4
  simp at e0 e1 e2 e3 e4
  subst e0 e1 e2 e3 e4
  exact ⟨x0, x1, x2, x3, x4, rfl, hx2, hx3⟩

/-- A slice of metas that came in. -/
theorem metas_trod {H : Type} {enc : TypeId × Value → H} {w : World} {base : Nat} {spare : Nat → Bool} {held : Bool} {fuel : Nat} {cs : List Value} {y : DataW H × List MemPlace}
    (hf : DataW.trod enc Try.prog w base spare held fuel 22 cs = some y) : ∃ a len cap O, cs = [.slice a len cap] ∧ len ≤ maxLen ∧ MetaAt w w.heap.size a len O ∧ ∀ i, i < len → (O.F i).size ≤ maxLen ∧ (O.Z i).size ≤ maxLen := by
  have hc4 : Try.prog.cellsOf 83 = 5 := by kernel_rfl
  rcases open_slice Try.underlying22 hf with ⟨hcs, _⟩ | ⟨x, l, c, m, n, D, Pl, hcs, _, hl, hm, hmm, _, hx⟩
  · exact ⟨none, 0, 0, ⟨fun _ => 0, fun _ => 0, fun _ => ByteArray.empty, fun _ => ByteArray.empty, fun _ => 0⟩, hcs, Nat.zero_le _, .inl rfl, fun _ h => absurd h (by omega)⟩
  · have hlm : l ≤ m := by rw [hmm]; split <;> omega
    rw [hc4] at hx
    obtain ⟨b, off, spot⟩ := x
    have each : ∀ i, i < m → ∃ q : Int × Int × ByteArray × ByteArray × Int, w.cell? ⟨b, off + i * 5, none⟩ = some (.int .i64 (q.1)) ∧ w.cell? ⟨b, off + i * 5 + 1, none⟩ = some (.int .i64 (q.2.1)) ∧ w.cell? ⟨b, off + i * 5 + 2, none⟩ = some (.string (q.2.2.1)) ∧ w.cell? ⟨b, off + i * 5 + 3, none⟩ = some (.string (q.2.2.2.1)) ∧ w.cell? ⟨b, off + i * 5 + 4, none⟩ = some (.int .i64 (q.2.2.2.2)) ∧ (q.2.2.1).size ≤ maxLen ∧ (q.2.2.2.1).size ≤ maxLen ∧ spot = none := fun i hi => by
      obtain ⟨cs', h1, h2⟩ := hx i hi
      obtain ⟨_, _, hcell⟩ := World.cells?_some h1
      obtain ⟨x0, x1, x2, x3, x4, rfl, hx2, hx3⟩ := meta_trod h2
      have e0 := hcell 0 (by omega)
      have e1 := hcell 1 (by omega)
      have e2 := hcell 2 (by omega)
      have e3 := hcell 3 (by omega)
      have e4 := hcell 4 (by omega)
      have hspot : spot = none := by
        have hx0 := (World.cells?_some (hx 0 (by omega)).choose_spec.1).2.2 0 (by omega)
        obtain ⟨x0', x1', x2', x3', x4', hcs, _, _⟩ := meta_trod (hx 0 (by omega)).choose_spec.2
        rw [hcs] at hx0
        have hx1 : w.cell? ⟨b, off, spot⟩ = some (.int .i64 x0') := by simpa [Addr.add] using hx0
        simpa using World.cell?_spot hx1
      subst hspot
      rw [Addr.add_lit, Addr.add_lit] at e0 e1 e2 e3 e4
      exact ⟨(x0, x1, x2, x3, x4), by simpa using e0, by simpa using e1, by simpa using e2, by simpa using e3, by simpa using e4, hx2, hx3, rfl⟩
    obtain ⟨q, hq⟩ := choose_lt each
    refine ⟨_, _, _, ⟨fun i => (q i).1, fun i => (q i).2.1, fun i => (q i).2.2.1, fun i => (q i).2.2.2.1, fun i => (q i).2.2.2.2⟩, hcs, by omega, ?_, fun i hi => ⟨(hq i (by omega)).2.2.2.2.2.1, (hq i (by omega)).2.2.2.2.2.2.1⟩⟩
    rcases Nat.eq_zero_or_pos l with h0 | h0
    · exact .inl h0
    · have hspot : spot = none := (hq 0 (by omega)).2.2.2.2.2.2.2
      subst hspot
      have hb : b < w.heap.size := World.block_lt_of_cell? w ⟨b, off + 0 * 5, none⟩ (hq 0 (by omega)).1
      exact .inr ⟨b, off, rfl, hb, fun i hi => ⟨(hq i (by omega)).1, (hq i (by omega)).2.1, (hq i (by omega)).2.2.1, (hq i (by omega)).2.2.2.1, (hq i (by omega)).2.2.2.2.1⟩⟩

end Go.Proofs.Ytplbhgcibfajaaa
