/- Rows of dOps: those that came in, the copies that the laws make; their size, and that two are alike. (By gen_row.py.) -/
import Derived.Test.YtejedpmkbkclhaaRows
import Derived.Test.YtejedpmkbkclhaaMgEntRowBox
import Derived.Test.YtejedpmkbkclhaaMine
import Derived.Deep.OwnRows
import Derived.Deep.Slices
import Derived.Deep.RegionHeld3
namespace Go.Proofs.Ytejedpmkbkclhaa
set_option maxRecDepth 100000
open Go.RowKit Go.Deep

/-- The dOps of a row, by their places. -/
structure DOps where
  K : Nat → Int
  N : Nat → ByteArray
  T : Nat → ByteArray
  D : Nat → ByteArray

/-- A row of len dOps, in memory below block B. -/
def DOpAt (w : World) (B : Nat) (a : Option Addr) (len : Nat) (O : DOps) : Prop :=
  len = 0 ∨ ∃ b off, a = some ⟨b, off, none⟩ ∧ b < B ∧ ∀ i, i < len → w.cell? ⟨b, off + i * 4, none⟩ = some (.int .i64 (O.K i)) ∧ w.cell? ⟨b, off + i * 4 + 1, none⟩ = some (.string (O.N i)) ∧ w.cell? ⟨b, off + i * 4 + 2, none⟩ = some (.string (O.T i)) ∧ w.cell? ⟨b, off + i * 4 + 3, none⟩ = some (.string (O.D i))

theorem DOpAt.below {w w' : World} {B : Nat} {a : Option Addr} {len : Nat} {O : DOps} (h : DOpAt w B a len O) (hb : Below B w w') : DOpAt w' B a len O := by
  rcases h with h | ⟨b, off, e, hB, hc⟩
  · exact .inl h
  · refine .inr ⟨b, off, e, hB, fun i hi => ?_⟩
    obtain ⟨c0, c1, c2, c3⟩ := hc i hi
    exact ⟨(hb.cell (p := ⟨b, _, none⟩) hB).trans c0, (hb.cell (p := ⟨b, _, none⟩) hB).trans c1, (hb.cell (p := ⟨b, _, none⟩) hB).trans c2, (hb.cell (p := ⟨b, _, none⟩) hB).trans c3⟩

theorem DOpAt.mono {w : World} {B B' : Nat} {a : Option Addr} {len : Nat} {O : DOps} (h : DOpAt w B a len O) (hB : B ≤ B') : DOpAt w B' a len O := by
  rcases h with h | ⟨b, off, e, hb, hc⟩
  · exact .inl h
  · exact .inr ⟨b, off, e, by omega, hc⟩

/-- A row that lies lower stays as it is. -/
theorem DOpAt.on {w w' : World} {B B' : Nat} {a : Option Addr} {len : Nat} {O : DOps} (h : DOpAt w B a len O) (hb : Below B' w w') (hB : B ≤ B') : DOpAt w' B' a len O := (h.mono hB).below hb

theorem DOpAt.next {w w' : World} {a : Option Addr} {len : Nat} {O : DOps} (h : DOpAt w w.heap.size a len O) (hb : Below w.heap.size w w') : DOpAt w' w'.heap.size a len O := (h.below hb).mono hb.size

theorem DOpAt.at {w : World} {B : Nat} {a : Option Addr} {len : Nat} {O : DOps} (h : DOpAt w B a len O) {i : Nat} (hi : i < len) :
    ∃ b off, a = some ⟨b, off, none⟩ ∧ b < B ∧ w.cell? ⟨b, off + i * 4, none⟩ = some (.int .i64 (O.K i)) ∧ w.cell? ⟨b, off + i * 4 + 1, none⟩ = some (.string (O.N i)) ∧ w.cell? ⟨b, off + i * 4 + 2, none⟩ = some (.string (O.T i)) ∧ w.cell? ⟨b, off + i * 4 + 3, none⟩ = some (.string (O.D i)) := by
  rcases h with h | ⟨b, off, e, hb, hc⟩
  · omega
  · exact ⟨b, off, e, hb, hc i hi⟩

theorem DOpAt.hid {w : World} {B : Nat} {a : Option Addr} {len : Nat} {O : DOps} (h : DOpAt w B a len O) : Hid (DOpAt w B a len O) := h

set_option maxHeartbeats 1000000 in
theorem laws_szDOp (x0 : Int) (x1 : ByteArray) (x2 : ByteArray) (x3 : ByteArray) (l : Int) (hx1 : x1.size ≤ maxLen) (hx2 : x2.size ≤ maxLen) (hx3 : x3.size ≤ maxLen) (hl : 0 ≤ l ∧ l ≤ 1048576) (w : World) :
    Calls Try.prog 17 #[.agg #[.int .i64 x0, .string x1, .string x2, .string x3], .int .i64 l] w fun e w' => e = .returned (.int .i64 (if l < x1.size + x2.size + x3.size then -1 else l - x1.size - x2.size - x3.size)) ∧ Below w.heap.size w w' := by
  obtain ⟨hl0, hl1⟩ := hl
  unfold maxLen at hx1 hx2 hx3
  by_cases g0 : l - (x1.size : Int) < 0
  · have hT : l < (x1.size : Int) + (x2.size : Int) + (x3.size : Int) := by omega
    go_enter Try.func17, Try.ntmps17
    go_wp2
    go_ret
    exact ⟨rfl, by go_grown⟩
  · skip
    by_cases g1 : l - (x1.size : Int) - (x2.size : Int) < 0
    · have hT : l < (x1.size : Int) + (x2.size : Int) + (x3.size : Int) := by omega
      go_enter Try.func17, Try.ntmps17
      go_wp2
      go_ret
      exact ⟨rfl, by go_grown⟩
    · skip
      by_cases g2 : l - (x1.size : Int) - (x2.size : Int) - (x3.size : Int) < 0
      · have hT : l < (x1.size : Int) + (x2.size : Int) + (x3.size : Int) := by omega
        go_enter Try.func17, Try.ntmps17
        go_wp2
        go_ret
        exact ⟨rfl, by go_grown⟩
      · skip
        have hT : ¬ (l < (x1.size : Int) + (x2.size : Int) + (x3.size : Int)) := by omega
        go_enter Try.func17, Try.ntmps17
        go_wp2
        go_ret
        exact ⟨rfl, by go_grown⟩

set_option maxHeartbeats 1000000 in
/-- The size of what came in: below 0, or as much is left as there was at most. -/
theorem laws_szDOpS (a : Option Addr) (len cap : Nat) (O : DOps) (l : Int) (w : World) (hl : len ≤ maxLen) (hs : ∀ i, i < len → (O.N i).size ≤ maxLen ∧ (O.T i).size ≤ maxLen ∧ (O.D i).size ≤ maxLen) (h0 : 0 ≤ l) (h1 : l ≤ 1048576) (hS : DOpAt w w.heap.size a len O) :
    Calls Try.prog 40 #[.slice a len cap, .int .i64 l] w fun e w' => (∃ r : Int, e = .returned (.int .i64 r) ∧ (r < 0 ∨ (0 ≤ r ∧ r ≤ l ∧ (len : Int) ≤ l ∧ ∀ i, i < len → (O.N i).size ≤ 1048576 ∧ (O.T i).size ≤ 1048576 ∧ (O.D i).size ≤ 1048576))) ∧ Below w.heap.size w w' := by
  unfold maxLen at hl
  have HSz : Hid (∀ i, i < len → (O.N i).size ≤ maxLen ∧ (O.T i).size ≤ maxLen ∧ (O.D i).size ≤ maxLen) := hs
  clear hs
  by_cases hbig : l < (len : Int)
  · have hx : l - (len : Int) < 0 := by omega
    go_enter Try.func40, Try.ntmps40
    go_wp2
    go_ret
    exact ⟨⟨-1, rfl, .inl (by omega)⟩, Below.refl _ _⟩
  · have hx : ¬ (l - (len : Int) < 0) := by omega
    have HS : Hid (DOpAt w w.heap.size a len O) := hS
    have HB0 : Hid (Below w.heap.size w w) := Below.refl _ _
    have HQ0 : Hid (∀ i, i < 0 → (O.N i).size ≤ 1048576 ∧ (O.T i).size ≤ 1048576 ∧ (O.D i).size ≤ 1048576) := fun i hi => absurd hi (by omega)
    clear hS
    go_enter Try.func40, Try.ntmps40
    go_wp2
    go_loopw [1, 5] (fun r i wr => ∃ (k : Nat) (x : Int), r = .int .i64 x ∧ i = .int .i64 k ∧ k ≤ len ∧ 0 ≤ x ∧ x + len ≤ l ∧ Hid (Below w.heap.size w wr) ∧ Hid (∀ i, i < k → (O.N i).size ≤ 1048576 ∧ (O.T i).size ≤ 1048576 ∧ (O.D i).size ≤ 1048576)) (fun _ i _ => len - (intOf i).toNat)
    case atStart => exact ⟨0, l - len, rfl, rfl, by omega, by omega, by omega, HB0, HQ0⟩
    case round =>
      obtain ⟨k, x, rfl, rfl, hk, hx0, hx1, HB, HQ⟩ := hrel
      clear HB0 HQ0
      by_cases hlt : k < len
      · obtain ⟨b, off, rfl, hb, c0, c1, c2, c3⟩ := (HS.out.below HB.out).at hlt
        obtain ⟨z0, z1, z2⟩ := HSz.out k hlt
        unfold maxLen at z0 z1 z2
        by_cases hneg : x < (O.N k).size + (O.T k).size + (O.D k).size
        · go_wp2_with fail
          refine (calls_from HB.out (laws_szDOp (O.K k) (O.N k) (O.T k) (O.D k) x (by unfold maxLen; omega) (by unfold maxLen; omega) (by unfold maxLen; omega) ⟨hx0, by omega⟩ _)).mono ?_
          rintro e w1 ⟨rfl, hB1⟩
          have HB1 : Hid _ := hB1
          clear hB1 c0 c1 c2 c3
          go_wp2
          go_ret
          exact ⟨⟨-1, rfl, .inl (by omega)⟩, HB1⟩
        · have hneg' : ¬ (x - ((O.N k).size : Int) - ((O.T k).size : Int) - ((O.D k).size : Int) < 0) := by omega
          go_wp2_with fail
          refine (calls_from HB.out (laws_szDOp (O.K k) (O.N k) (O.T k) (O.D k) x (by unfold maxLen; omega) (by unfold maxLen; omega) (by unfold maxLen; omega) ⟨hx0, by omega⟩ _)).mono ?_
          rintro e w1 ⟨rfl, hB1⟩
          have HB1 : Hid (Below w.heap.size w w1) := hB1
          have HQ1 : Hid (∀ i, i < k + 1 → (O.N i).size ≤ 1048576 ∧ (O.T i).size ≤ 1048576 ∧ (O.D i).size ≤ 1048576) := fun i hi => by
            rcases Nat.lt_or_eq_of_le (Nat.lt_succ_iff.1 hi) with h | rfl
            · exact HQ.out i h
            · exact ⟨by omega, by omega, by omega⟩
          clear hB1 c0 c1 c2 c3
          go_wp2
          exact ⟨⟨k + 1, x - (O.N k).size - (O.T k).size - (O.D k).size, by rw [if_neg (by omega)], by go_num, by omega, by omega, by omega, HB1, HQ1⟩, by simp [intOf]; omega⟩
      · obtain rfl : k = len := by omega
        go_wp2
        go_ret
        exact ⟨⟨x, rfl, Or.inr ⟨by omega, by omega, by omega, HQ.out⟩⟩, HB.out⟩

/-- Cell i of a row of dOps. -/
def dOpCell (O : DOps) (i : Nat) : Value :=
  if i % 4 = 0 then .int .i64 (O.K (i / 4)) else if i % 4 = 1 then .string (O.N (i / 4)) else if i % 4 = 2 then .string (O.T (i / 4)) else .string (O.D (i / 4))

theorem dOpCell0 (O : DOps) (k : Nat) : dOpCell O (k * 4) = .int .i64 (O.K k) := by
  unfold dOpCell; rw [if_pos (by omega), show (k * 4) / 4 = k by omega]
theorem dOpCell1 (O : DOps) (k : Nat) : dOpCell O (k * 4 + 1) = .string (O.N k) := by
  unfold dOpCell; rw [if_neg (by omega), if_pos (by omega), show (k * 4 + 1) / 4 = k by omega]
theorem dOpCell2 (O : DOps) (k : Nat) : dOpCell O (k * 4 + 2) = .string (O.T k) := by
  unfold dOpCell; rw [if_neg (by omega), if_neg (by omega), if_pos (by omega), show (k * 4 + 2) / 4 = k by omega]
theorem dOpCell3 (O : DOps) (k : Nat) : dOpCell O (k * 4 + 3) = .string (O.D k) := by
  unfold dOpCell; rw [if_neg (by omega), if_neg (by omega), if_neg (by omega), show (k * 4 + 3) / 4 = k by omega]

/-- .. out of its cells. -/
theorem dOpAt_cells {w : World} {g n : Nat} {O : DOps} (h : ∀ j, j < n * 4 → w.cell? ⟨g, j, none⟩ = some (dOpCell O j)) {B : Nat} (hB : g < B) : DOpAt w B (some ⟨g, 0, none⟩) n O := by
  refine .inr ⟨g, 0, rfl, hB, fun i hi => ⟨?_, ?_, ?_, ?_⟩⟩
  · rw [Nat.zero_add, h _ (by omega), dOpCell0]
  · rw [Nat.zero_add, h _ (by omega), dOpCell1]
  · rw [Nat.zero_add, h _ (by omega), dOpCell2]
  · rw [Nat.zero_add, h _ (by omega), dOpCell3]
theorem dOpAt_mine {w : World} {B : Nat} {ty : TypeId} {a : Option Addr} {p n : Nat} {O : DOps} (h : Mine w B ty 4 a p n (dOpCell O)) : DOpAt w w.heap.size a n O := by
  rcases h.at with h | ⟨g, rfl, _, hg, hc⟩
  · exact .inl h
  · exact dOpAt_cells hc hg

theorem dOpAt_row {w : World} {g n : Nat} {t : TypeId} {O : DOps} (h : w.rowIs g t (n * 4) (dOpCell O)) {B : Nat} (hB : g < B) : DOpAt w B (some ⟨g, 0, none⟩) n O := by
  refine .inr ⟨g, 0, rfl, hB, fun i hi => ⟨?_, ?_, ?_, ?_⟩⟩
  · rw [Nat.zero_add, h.cell (by omega), dOpCell0]
  · rw [Nat.zero_add, h.cell (by omega), dOpCell1]
  · rw [Nat.zero_add, h.cell (by omega), dOpCell2]
  · rw [Nat.zero_add, h.cell (by omega), dOpCell3]

/-- The row while it is filled: the first k are there. -/
def fillDOp (O : DOps) (k : Nat) (i : Nat) : Value := if i < k * 4 then dOpCell O i else (#[Value.int .i64 0, .string ⟨#[]⟩, .string ⟨#[]⟩, .string ⟨#[]⟩] : Array Value)[i % 4]!

theorem fillDOp_step {w : World} {g n k : Nat} {t : TypeId} {O : DOps} (h : w.rowIs g t n (fillDOp O k)) :
    ((((((((w).setCell ⟨g, k * 4, none⟩ (.int .i64 (O.K k)))).setCell ⟨g, k * 4 + 1, none⟩ (.string (O.N k)))).setCell ⟨g, k * 4 + 2, none⟩ (.string (O.T k)))).setCell ⟨g, k * 4 + 3, none⟩ (.string (O.D k))).rowIs g t n (fillDOp O (k + 1)) := by
  refine ((((h.set (k * 4) _).set (k * 4 + 1) _).set (k * 4 + 2) _).set (k * 4 + 3) _).congr fun i _ => ?_
  by_cases e3 : i = k * 4 + 3
  · subst e3; rw [if_pos rfl, fillDOp, if_pos (by omega), dOpCell3]
  · rw [if_neg e3]
    by_cases e2 : i = k * 4 + 2
    · subst e2; rw [if_pos rfl, fillDOp, if_pos (by omega), dOpCell2]
    · rw [if_neg e2]
      by_cases e1 : i = k * 4 + 1
      · subst e1; rw [if_pos rfl, fillDOp, if_pos (by omega), dOpCell1]
      · rw [if_neg e1]
        by_cases e0 : i = k * 4
        · subst e0; rw [if_pos rfl, fillDOp, if_pos (by omega), dOpCell0]
        · rw [if_neg e0]
          unfold fillDOp
          by_cases hl : i < k * 4
          · rw [if_pos hl, if_pos (by omega)]
          · rw [if_neg hl, if_neg (by omega)]

theorem madeDOp_row (w : World) (n : Nat) (t : TypeId) (O : DOps) : (w.alloc (.cells (madeCells #[Value.int .i64 0, .string ⟨#[]⟩, .string ⟨#[]⟩, .string ⟨#[]⟩] (n * 4)) t)).rowIs w.heap.size t (n * 4) (fillDOp O 0) := by
  have h := World.rowIs_alloc w (madeCells #[Value.int .i64 0, .string ⟨#[]⟩, .string ⟨#[]⟩, .string ⟨#[]⟩] (n * 4)) t (fillDOp O 0) (fun i hi => by
    rw [size_madeCells] at hi
    unfold fillDOp madeCells
    rw [if_neg (by omega)]
    simp [hi])
  rwa [size_madeCells] at h

theorem laws_toDOp (x0 : Int) (x1 : ByteArray) (x2 : ByteArray) (x3 : ByteArray) (w : World) :
    Calls Try.prog 19 #[.agg #[.int .i64 x0, .string x1, .string x2, .string x3]] w fun e w' => e = .returned (.agg #[.int .i64 x0, .string x1, .string x2, .string x3]) ∧ Below w.heap.size w w' := by
  go_enter Try.func19, Try.ntmps19
  go_wp2
  refine bodyPost_ret (v := .agg #[.int .i64 x0, .string x1, .string x2, .string x3]) (by simp [results, Try.results19, go_sem]) rfl ⟨rfl, ?_⟩
  go_grown

set_option maxHeartbeats 1000000 in
set_option maxRecDepth 100000 in
/-- The copy that the laws make. -/
theorem laws_toDOpS (a : Option Addr) (len cap : Nat) (O : DOps) (w : World) (hl : len ≤ 1048576) (hS : DOpAt w w.heap.size a len O) :
    Calls Try.prog 46 #[.slice a len cap] w fun e w' => e = .returned (.slice (some ⟨w.heap.size, 0, none⟩) len len) ∧ w'.rowIs w.heap.size 40 (len * 4) (dOpCell O) ∧ Below w.heap.size w w' := by
  have hi : (Try.prog.info? 40).map (fun i => (i.zero, i.size, i.bytes)) = some (some (.agg #[.int .i64 0, .string ⟨#[]⟩, .string ⟨#[]⟩, .string ⟨#[]⟩]), 4, 56) := by kernel_rfl
  obtain ⟨i0, hi0, hz0, hz1, hz2⟩ := info_parts hi
  have hmk : ∀ W : World, (Instr.makeSlice 29 (.int .i64 (len : Int)) (.int .i64 (len : Int))).run Try.prog W = .ok (.slice (some ⟨W.heap.size, 0, none⟩) len len) (W.alloc (.cells (madeCells #[Value.int .i64 0, .string ⟨#[]⟩, .string ⟨#[]⟩, .string ⟨#[]⟩] (len * 4)) 40)) := fun W => by
    have := run_make (P := Try.prog) W 29 40 i0 _ Try.underlying29 hi0 hz0 .i64 .i64 len len (by omega) (Int.le_refl _) (by rw [hz2]; omega) (by omega)
    rw [hz1] at this
    simpa [Value.cells] using this
  have HR0 : Hid ((w.alloc (.cells (madeCells #[Value.int .i64 0, .string ⟨#[]⟩, .string ⟨#[]⟩, .string ⟨#[]⟩] (len * 4)) 40)).rowIs w.heap.size 40 (len * 4) (fillDOp O 0)) := madeDOp_row w len _ O
  have HB0 : Hid (Below w.heap.size w (w.alloc (.cells (madeCells #[Value.int .i64 0, .string ⟨#[]⟩, .string ⟨#[]⟩, .string ⟨#[]⟩] (len * 4)) 40))) := (Below.refl _ _).alloc (Nat.le_refl _) _
  have HS : Hid (DOpAt w w.heap.size a len O) := hS
  clear hS hi hi0 hz0 hz1 hz2
  go_enter Try.func46, Try.ntmps46
  go_wp2
  generalize w.alloc (.cells (madeCells #[Value.int .i64 0, .string ⟨#[]⟩, .string ⟨#[]⟩, .string ⟨#[]⟩] (len * 4)) 40) = w0 at HR0 HB0 ⊢
  clear hmk
  go_loopw [4] (fun i wr => ∃ k : Nat, i = .int .i64 k ∧ k ≤ len ∧ Hid (wr.rowIs w.heap.size 40 (len * 4) (fillDOp O k)) ∧ Hid (Below w.heap.size w wr)) (fun i _ => len - (intOf i).toNat)
  case atStart => exact ⟨0, rfl, by omega, HR0, HB0⟩
  case round =>
    obtain ⟨k, rfl, hk, HR, HB⟩ := hrel
    clear HR0 HB0
    by_cases hlt : k < len
    · obtain ⟨b, off, rfl, hb, c0, c1, c2, c3⟩ := (HS.out.below HB.out).at hlt
      have hlti : (k : Int) < (len : Int) := by omega
      go_wp2_with fail
      refine (laws_toDOp (O.K k) (O.N k) (O.T k) (O.D k) _).mono ?_
      rintro e w1 ⟨rfl, hb1⟩
      have HR1 : Hid (w1.rowIs w.heap.size 40 (len * 4) (fillDOp O k)) := entRow_below HR.out hb1 HR.out.lt
      have HB1 : Hid (Below w.heap.size w w1) := HB.out.trans (hb1.mono HB.out.size)
      have d0 := HR1.out.cell (i := k * 4) (by omega)
      have d1 := HR1.out.cell (i := k * 4 + 1) (by omega)
      have d2 := HR1.out.cell (i := k * 4 + 2) (by omega)
      have d3 := HR1.out.cell (i := k * 4 + 3) (by omega)
      have hfr := HR1.out.frozen
      have HR2 : Hid _ := fillDOp_step HR1.out
      have HB2 : Hid _ := (((HB1.out.setCell (p := ⟨w.heap.size, k * 4, none⟩) (Nat.le_refl _) (.int .i64 (O.K k))).setCell (p := ⟨w.heap.size, k * 4 + 1, none⟩) (Nat.le_refl _) (.string (O.N k))).setCell (p := ⟨w.heap.size, k * 4 + 2, none⟩) (Nat.le_refl _) (.string (O.T k))).setCell (p := ⟨w.heap.size, k * 4 + 3, none⟩) (Nat.le_refl _) (.string (O.D k))
      clear hb1 HR HB c0 c1 c2 c3 HR1 HB1
      generalize fillDOp O k (k * 4) = v0 at d0
      generalize fillDOp O k (k * 4 + 1) = v1 at d1
      generalize fillDOp O k (k * 4 + 2) = v2 at d2
      generalize fillDOp O k (k * 4 + 3) = v3 at d3
      go_wp2
      exact ⟨⟨k + 1, by go_num, by omega, HR2, HB2⟩, by simp [intOf]; omega⟩
    · obtain rfl : k = len := by omega
      go_wp2
      go_ret
      exact ⟨rfl, HR.out.congr fun i hi => by rw [fillDOp, if_pos hi], HB.out⟩

theorem laws_eqDOp (x0 : Int) (x1 : ByteArray) (x2 : ByteArray) (x3 : ByteArray) (w : World) :
    Calls Try.prog 85 #[.agg #[.int .i64 x0, .string x1, .string x2, .string x3], .agg #[.int .i64 x0, .string x1, .string x2, .string x3]] w fun e w' => e = .returned (.bool true) ∧ Below w.heap.size w w' := by
  go_enter Try.func85, Try.ntmps85
  go_wp2
  go_ret
  exact ⟨rfl, by go_grown⟩

set_option maxHeartbeats 1000000 in
theorem laws_eqDOpS (a b : Option Addr) (len ca cb : Nat) (O : DOps) (w : World) (hl : len ≤ 1048576) (ha : DOpAt w w.heap.size a len O) (hb : DOpAt w w.heap.size b len O) :
    Calls Try.prog 49 #[.slice a len ca, .slice b len cb] w fun e w' => e = .returned (.bool true) ∧ Below w.heap.size w w' := by
  have HA : Hid (DOpAt w w.heap.size a len O) := ha
  have HB : Hid (DOpAt w w.heap.size b len O) := hb
  clear ha hb
  have HB0 : Hid (Below w.heap.size w w) := Below.refl _ _
  go_enter Try.func49, Try.ntmps49
  go_wp2
  go_loopw [5] (fun i wr => ∃ k : Nat, i = .int .i64 k ∧ k ≤ len ∧ Hid (Below w.heap.size w wr)) (fun i _ => len - (intOf i).toNat)
  case atStart => exact ⟨0, rfl, by omega, HB0⟩
  case round =>
    obtain ⟨k, rfl, hk, HW⟩ := hrel
    clear HB0
    by_cases hlt : k < len
    · obtain ⟨b1, off1, rfl, hb1, c0, c1, c2, c3⟩ := (HA.out.below HW.out).at hlt
      obtain ⟨b2, off2, rfl, hb2, d0, d1, d2, d3⟩ := (HB.out.below HW.out).at hlt
      have hki : (k : Int) < (len : Int) := by omega
      have hstart : wr.drew.cell? ⟨b1, off1 + k * 4, none⟩ = some (.int .i64 (O.K k)) ∧ wr.drew.cell? ⟨b1, off1 + k * 4 + 1, none⟩ = some (.string (O.N k)) ∧ wr.drew.cell? ⟨b1, off1 + k * 4 + 2, none⟩ = some (.string (O.T k)) ∧ wr.drew.cell? ⟨b1, off1 + k * 4 + 3, none⟩ = some (.string (O.D k)) ∧
          wr.drew.cell? ⟨b2, off2 + k * 4, none⟩ = some (.int .i64 (O.K k)) ∧ wr.drew.cell? ⟨b2, off2 + k * 4 + 1, none⟩ = some (.string (O.N k)) ∧ wr.drew.cell? ⟨b2, off2 + k * 4 + 2, none⟩ = some (.string (O.T k)) ∧ wr.drew.cell? ⟨b2, off2 + k * 4 + 3, none⟩ = some (.string (O.D k)) ∧ Hid (Below w.heap.size w wr.drew) :=
        ⟨c0, c1, c2, c3, d0, d1, d2, d3, HW.out.drew⟩
      clear c0 c1 c2 c3 d0 d1 d2 d3
      go_wp2_with fail
      go_region_held3 (fun (w' : World) => w'.cell? ⟨b1, off1 + k * 4, none⟩ = some (.int .i64 (O.K k)) ∧ w'.cell? ⟨b1, off1 + k * 4 + 1, none⟩ = some (.string (O.N k)) ∧ w'.cell? ⟨b1, off1 + k * 4 + 2, none⟩ = some (.string (O.T k)) ∧ w'.cell? ⟨b1, off1 + k * 4 + 3, none⟩ = some (.string (O.D k)) ∧
          w'.cell? ⟨b2, off2 + k * 4, none⟩ = some (.int .i64 (O.K k)) ∧ w'.cell? ⟨b2, off2 + k * 4 + 1, none⟩ = some (.string (O.N k)) ∧ w'.cell? ⟨b2, off2 + k * 4 + 2, none⟩ = some (.string (O.T k)) ∧ w'.cell? ⟨b2, off2 + k * 4 + 3, none⟩ = some (.string (O.D k)) ∧ Hid (Below w.heap.size w w')) (assumption)
        ((go_at_call 85; refine (held_callE (S := fun (w' : World) => w'.cell? ⟨b1, off1 + k * 4, none⟩ = some (.int .i64 (O.K k)) ∧ w'.cell? ⟨b1, off1 + k * 4 + 1, none⟩ = some (.string (O.N k)) ∧ w'.cell? ⟨b1, off1 + k * 4 + 2, none⟩ = some (.string (O.T k)) ∧ w'.cell? ⟨b1, off1 + k * 4 + 3, none⟩ = some (.string (O.D k)) ∧
          w'.cell? ⟨b2, off2 + k * 4, none⟩ = some (.int .i64 (O.K k)) ∧ w'.cell? ⟨b2, off2 + k * 4 + 1, none⟩ = some (.string (O.N k)) ∧ w'.cell? ⟨b2, off2 + k * 4 + 2, none⟩ = some (.string (O.T k)) ∧ w'.cell? ⟨b2, off2 + k * 4 + 3, none⟩ = some (.string (O.D k)) ∧ Hid (Below w.heap.size w w'))
          (fun wa wb h hx => ⟨(hx.cell (p := ⟨b1, _, none⟩) (Nat.lt_of_lt_of_le hb1 h.2.2.2.2.2.2.2.2.out.size)).trans h.1, (hx.cell (p := ⟨b1, _, none⟩) (Nat.lt_of_lt_of_le hb1 h.2.2.2.2.2.2.2.2.out.size)).trans h.2.1, (hx.cell (p := ⟨b1, _, none⟩) (Nat.lt_of_lt_of_le hb1 h.2.2.2.2.2.2.2.2.out.size)).trans h.2.2.1, (hx.cell (p := ⟨b1, _, none⟩) (Nat.lt_of_lt_of_le hb1 h.2.2.2.2.2.2.2.2.out.size)).trans h.2.2.2.1, (hx.cell (p := ⟨b2, _, none⟩) (Nat.lt_of_lt_of_le hb2 h.2.2.2.2.2.2.2.2.out.size)).trans h.2.2.2.2.1, (hx.cell (p := ⟨b2, _, none⟩) (Nat.lt_of_lt_of_le hb2 h.2.2.2.2.2.2.2.2.out.size)).trans h.2.2.2.2.2.1, (hx.cell (p := ⟨b2, _, none⟩) (Nat.lt_of_lt_of_le hb2 h.2.2.2.2.2.2.2.2.out.size)).trans h.2.2.2.2.2.2.1, (hx.cell (p := ⟨b2, _, none⟩) (Nat.lt_of_lt_of_le hb2 h.2.2.2.2.2.2.2.2.out.size)).trans h.2.2.2.2.2.2.2.1, h.2.2.2.2.2.2.2.2.out.trans (hx.mono h.2.2.2.2.2.2.2.2.out.size)⟩)
          (by assumption) (laws_eqDOp _ _ _ _ _)).mono ?_; rintro e w1 ⟨rfl, hS⟩))
      all_goals
        have HW2 : Hid (Below w.heap.size w w1) := hS.2.2.2.2.2.2.2.2
        clear hS hstart
        go_wp2
        exact ⟨⟨k + 1, by go_num, by omega, HW2⟩, by simp [intOf]; omega⟩
    · go_wp2
      go_ret
      exact ⟨rfl, HW.out⟩

theorem dOp_trod {H : Type} {enc : TypeId × Value → H} {w : World} {base : Nat} {spare : Nat → Bool} {held : Bool} {fuel : Nat} {cs : List Value} {x : DataW H × List MemPlace}
    (h : DataW.trod enc Try.prog w base spare held fuel 36 cs = some x) : ∃ (x0 : Int) (x1 : ByteArray) (x2 : ByteArray) (x3 : ByteArray), cs = [.int .i64 x0, .string x1, .string x2, .string x3] ∧ x1.size ≤ maxLen ∧ x2.size ≤ maxLen ∧ x3.size ≤ maxLen := by
  have hc : Try.prog.cellsOf 36 = 4 := by kernel_rfl
  have hc9 : Try.prog.cellsOf 9 = 1 := by kernel_rfl
  have hc2 : Try.prog.cellsOf 2 = 1 := by kernel_rfl
  obtain ⟨xs, n, _, _, hl, hxl, hf⟩ := DataW.trod_struct Try.underlying36 h
  rw [hc] at hl
  obtain ⟨c0, c1, c2, c3, rfl⟩ : ∃ c0 c1 c2 c3, cs = [c0, c1, c2, c3] := by
    match cs, hl with
    | [c0, c1, c2, c3], _ => exact ⟨c0, c1, c2, c3, rfl⟩
  obtain ⟨y0, y1, y2, y3, rfl⟩ : ∃ y0 y1 y2 y3, xs = [y0, y1, y2, y3] := by
    match xs, hxl with
    | [y0, y1, y2, y3], _ => exact ⟨y0, y1, y2, y3, rfl⟩
  have f0 : DataW.trod enc Try.prog w base spare held n 2 (List.take (Try.prog.cellsOf 2) [c0, c1, c2, c3]) = some y0 := hf 0 _ rfl
  have f1 : DataW.trod enc Try.prog w base spare held n 9 (List.take (Try.prog.cellsOf 9) [c1, c2, c3]) = some y1 := hf 1 _ rfl
  have f2 : DataW.trod enc Try.prog w base spare held n 9 (List.take (Try.prog.cellsOf 9) [c2, c3]) = some y2 := hf 2 _ rfl
  have f3 : DataW.trod enc Try.prog w base spare held n 9 (List.take (Try.prog.cellsOf 9) [c3]) = some y3 := hf 3 _ rfl
  rw [hc2] at f0
  rw [hc9] at f1 f2 f3
  obtain ⟨x0, e0, _, _⟩ := DataW.trod_int Try.underlying2 f0
  obtain ⟨x1, e1, _, hx1⟩ := DataW.trod_string Try.underlying9 f1
  obtain ⟨x2, e2, _, hx2⟩ := DataW.trod_string Try.underlying9 f2
  obtain ⟨x3, e3, _, hx3⟩ := DataW.trod_string Try.underlying9 f3
  simp at e0 e1 e2 e3
  subst e0 e1 e2 e3
  exact ⟨x0, x1, x2, x3, rfl, hx1, hx2, hx3⟩

/-- A slice of dOps that came in. -/
theorem dOps_trod {H : Type} {enc : TypeId × Value → H} {w : World} {base : Nat} {spare : Nat → Bool} {held : Bool} {fuel : Nat} {cs : List Value} {y : DataW H × List MemPlace}
    (hf : DataW.trod enc Try.prog w base spare held fuel 23 cs = some y) : ∃ a len cap O, cs = [.slice a len cap] ∧ len ≤ maxLen ∧ DOpAt w w.heap.size a len O ∧ ∀ i, i < len → (O.N i).size ≤ maxLen ∧ (O.T i).size ≤ maxLen ∧ (O.D i).size ≤ maxLen := by
  have hc4 : Try.prog.cellsOf 36 = 4 := by kernel_rfl
  rcases open_slice Try.underlying23 hf with ⟨hcs, _⟩ | ⟨x, l, c, m, n, D, Pl, hcs, _, hl, hm, hmm, _, hx⟩
  · exact ⟨none, 0, 0, ⟨fun _ => 0, fun _ => ByteArray.empty, fun _ => ByteArray.empty, fun _ => ByteArray.empty⟩, hcs, Nat.zero_le _, .inl rfl, fun _ h => absurd h (by omega)⟩
  · have hlm : l ≤ m := by rw [hmm]; split <;> omega
    rw [hc4] at hx
    obtain ⟨b, off, spot⟩ := x
    have each : ∀ i, i < m → ∃ q : Int × ByteArray × ByteArray × ByteArray, w.cell? ⟨b, off + i * 4, none⟩ = some (.int .i64 (q.1)) ∧ w.cell? ⟨b, off + i * 4 + 1, none⟩ = some (.string (q.2.1)) ∧ w.cell? ⟨b, off + i * 4 + 2, none⟩ = some (.string (q.2.2.1)) ∧ w.cell? ⟨b, off + i * 4 + 3, none⟩ = some (.string (q.2.2.2)) ∧ (q.2.1).size ≤ maxLen ∧ (q.2.2.1).size ≤ maxLen ∧ (q.2.2.2).size ≤ maxLen ∧ spot = none := fun i hi => by
      obtain ⟨cs', h1, h2⟩ := hx i hi
      obtain ⟨_, _, hcell⟩ := World.cells?_some h1
      obtain ⟨x0, x1, x2, x3, rfl, hx1, hx2, hx3⟩ := dOp_trod h2
      have e0 := hcell 0 (by omega)
      have e1 := hcell 1 (by omega)
      have e2 := hcell 2 (by omega)
      have e3 := hcell 3 (by omega)
      have hspot : spot = none := by
        have hx0 := (World.cells?_some (hx 0 (by omega)).choose_spec.1).2.2 0 (by omega)
        obtain ⟨x0', x1', x2', x3', hcs, _, _, _⟩ := dOp_trod (hx 0 (by omega)).choose_spec.2
        rw [hcs] at hx0
        have hx1 : w.cell? ⟨b, off, spot⟩ = some (.int .i64 x0') := by simpa [Addr.add] using hx0
        simpa using World.cell?_spot hx1
      subst hspot
      rw [Addr.add_lit, Addr.add_lit] at e0 e1 e2 e3
      exact ⟨(x0, x1, x2, x3), by simpa using e0, by simpa using e1, by simpa using e2, by simpa using e3, hx1, hx2, hx3, rfl⟩
    obtain ⟨q, hq⟩ := choose_lt each
    refine ⟨_, _, _, ⟨fun i => (q i).1, fun i => (q i).2.1, fun i => (q i).2.2.1, fun i => (q i).2.2.2⟩, hcs, by omega, ?_, fun i hi => ⟨(hq i (by omega)).2.2.2.2.1, (hq i (by omega)).2.2.2.2.2.1, (hq i (by omega)).2.2.2.2.2.2.1⟩⟩
    rcases Nat.eq_zero_or_pos l with h0 | h0
    · exact .inl h0
    · have hspot : spot = none := (hq 0 (by omega)).2.2.2.2.2.2.2
      subst hspot
      have hb : b < w.heap.size := World.block_lt_of_cell? w ⟨b, off + 0 * 4, none⟩ (hq 0 (by omega)).1
      exact .inr ⟨b, off, rfl, hb, fun i hi => ⟨(hq i (by omega)).1, (hq i (by omega)).2.1, (hq i (by omega)).2.2.1, (hq i (by omega)).2.2.2.1⟩⟩

end Go.Proofs.Ytejedpmkbkclhaa
