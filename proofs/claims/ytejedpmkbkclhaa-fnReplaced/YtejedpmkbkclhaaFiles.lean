/- Rows of files: those that came in, the copies that the laws make; their size, and that two are alike. (By gen_row.py.) -/
import Derived.Test.YtejedpmkbkclhaaRows
import Derived.Test.YtejedpmkbkclhaaMgEntRowBox
import Derived.Test.YtejedpmkbkclhaaMine
import Derived.Deep.OwnRows
import Derived.Deep.Slices
import Derived.Deep.RegionHeld3
namespace Go.Proofs.Ytejedpmkbkclhaa
set_option maxRecDepth 100000
open Go.RowKit Go.Deep

/-- The files of a row, by their places. -/
structure Files where
  N : Nat → ByteArray
  D : Nat → ByteArray

/-- A row of len files, in memory below block B. -/
def FileAt (w : World) (B : Nat) (a : Option Addr) (len : Nat) (O : Files) : Prop :=
  len = 0 ∨ ∃ b off, a = some ⟨b, off, none⟩ ∧ b < B ∧ ∀ i, i < len → w.cell? ⟨b, off + i * 2, none⟩ = some (.string (O.N i)) ∧ w.cell? ⟨b, off + i * 2 + 1, none⟩ = some (.string (O.D i))

theorem FileAt.below {w w' : World} {B : Nat} {a : Option Addr} {len : Nat} {O : Files} (h : FileAt w B a len O) (hb : Below B w w') : FileAt w' B a len O := by
  rcases h with h | ⟨b, off, e, hB, hc⟩
  · exact .inl h
  · refine .inr ⟨b, off, e, hB, fun i hi => ?_⟩
    obtain ⟨c0, c1⟩ := hc i hi
    exact ⟨(hb.cell (p := ⟨b, _, none⟩) hB).trans c0, (hb.cell (p := ⟨b, _, none⟩) hB).trans c1⟩

theorem FileAt.mono {w : World} {B B' : Nat} {a : Option Addr} {len : Nat} {O : Files} (h : FileAt w B a len O) (hB : B ≤ B') : FileAt w B' a len O := by
  rcases h with h | ⟨b, off, e, hb, hc⟩
  · exact .inl h
  · exact .inr ⟨b, off, e, by omega, hc⟩

/-- A row that lies lower stays as it is. -/
theorem FileAt.on {w w' : World} {B B' : Nat} {a : Option Addr} {len : Nat} {O : Files} (h : FileAt w B a len O) (hb : Below B' w w') (hB : B ≤ B') : FileAt w' B' a len O := (h.mono hB).below hb

theorem FileAt.next {w w' : World} {a : Option Addr} {len : Nat} {O : Files} (h : FileAt w w.heap.size a len O) (hb : Below w.heap.size w w') : FileAt w' w'.heap.size a len O := (h.below hb).mono hb.size

theorem FileAt.at {w : World} {B : Nat} {a : Option Addr} {len : Nat} {O : Files} (h : FileAt w B a len O) {i : Nat} (hi : i < len) :
    ∃ b off, a = some ⟨b, off, none⟩ ∧ b < B ∧ w.cell? ⟨b, off + i * 2, none⟩ = some (.string (O.N i)) ∧ w.cell? ⟨b, off + i * 2 + 1, none⟩ = some (.string (O.D i)) := by
  rcases h with h | ⟨b, off, e, hb, hc⟩
  · omega
  · exact ⟨b, off, e, hb, hc i hi⟩

theorem FileAt.hid {w : World} {B : Nat} {a : Option Addr} {len : Nat} {O : Files} (h : FileAt w B a len O) : Hid (FileAt w B a len O) := h

set_option maxHeartbeats 1000000 in
theorem laws_szFile (x0 : ByteArray) (x1 : ByteArray) (l : Int) (hx0 : x0.size ≤ maxLen) (hx1 : x1.size ≤ maxLen) (hl : 0 ≤ l ∧ l ≤ 1048576) (w : World) :
    Calls Try.prog 77 #[.agg #[.string x0, .string x1], .int .i64 l] w fun e w' => e = .returned (.int .i64 (if l < x0.size + x1.size then -1 else l - x0.size - x1.size)) ∧ Below w.heap.size w w' := by
  obtain ⟨hl0, hl1⟩ := hl
  unfold maxLen at hx0 hx1
  by_cases g0 : l - (x0.size : Int) < 0
  · have hT : l < (x0.size : Int) + (x1.size : Int) := by omega
    go_enter Try.func77, Try.ntmps77
    go_wp2
    go_ret
    exact ⟨rfl, by go_grown⟩
  · skip
    by_cases g1 : l - (x0.size : Int) - (x1.size : Int) < 0
    · have hT : l < (x0.size : Int) + (x1.size : Int) := by omega
      go_enter Try.func77, Try.ntmps77
      go_wp2
      go_ret
      exact ⟨rfl, by go_grown⟩
    · skip
      have hT : ¬ (l < (x0.size : Int) + (x1.size : Int)) := by omega
      go_enter Try.func77, Try.ntmps77
      go_wp2
      go_ret
      exact ⟨rfl, by go_grown⟩

set_option maxHeartbeats 1000000 in
/-- The size of what came in: below 0, or as much is left as there was at most. -/
theorem laws_szFileS (a : Option Addr) (len cap : Nat) (O : Files) (l : Int) (w : World) (hl : len ≤ maxLen) (hs : ∀ i, i < len → (O.N i).size ≤ maxLen ∧ (O.D i).size ≤ maxLen) (h0 : 0 ≤ l) (h1 : l ≤ 1048576) (hS : FileAt w w.heap.size a len O) :
    Calls Try.prog 39 #[.slice a len cap, .int .i64 l] w fun e w' => (∃ r : Int, e = .returned (.int .i64 r) ∧ (r < 0 ∨ (0 ≤ r ∧ r ≤ l ∧ (len : Int) ≤ l ∧ ∀ i, i < len → (O.N i).size ≤ 1048576 ∧ (O.D i).size ≤ 1048576))) ∧ Below w.heap.size w w' := by
  unfold maxLen at hl
  have HSz : Hid (∀ i, i < len → (O.N i).size ≤ maxLen ∧ (O.D i).size ≤ maxLen) := hs
  clear hs
  by_cases hbig : l < (len : Int)
  · have hx : l - (len : Int) < 0 := by omega
    go_enter Try.func39, Try.ntmps39
    go_wp2
    go_ret
    exact ⟨⟨-1, rfl, .inl (by omega)⟩, Below.refl _ _⟩
  · have hx : ¬ (l - (len : Int) < 0) := by omega
    have HS : Hid (FileAt w w.heap.size a len O) := hS
    have HB0 : Hid (Below w.heap.size w w) := Below.refl _ _
    have HQ0 : Hid (∀ i, i < 0 → (O.N i).size ≤ 1048576 ∧ (O.D i).size ≤ 1048576) := fun i hi => absurd hi (by omega)
    clear hS
    go_enter Try.func39, Try.ntmps39
    go_wp2
    go_loopw [1, 5] (fun r i wr => ∃ (k : Nat) (x : Int), r = .int .i64 x ∧ i = .int .i64 k ∧ k ≤ len ∧ 0 ≤ x ∧ x + len ≤ l ∧ Hid (Below w.heap.size w wr) ∧ Hid (∀ i, i < k → (O.N i).size ≤ 1048576 ∧ (O.D i).size ≤ 1048576)) (fun _ i _ => len - (intOf i).toNat)
    case atStart => exact ⟨0, l - len, rfl, rfl, by omega, by omega, by omega, HB0, HQ0⟩
    case round =>
      obtain ⟨k, x, rfl, rfl, hk, hx0, hx1, HB, HQ⟩ := hrel
      clear HB0 HQ0
      by_cases hlt : k < len
      · obtain ⟨b, off, rfl, hb, c0, c1⟩ := (HS.out.below HB.out).at hlt
        obtain ⟨z0, z1⟩ := HSz.out k hlt
        unfold maxLen at z0 z1
        by_cases hneg : x < (O.N k).size + (O.D k).size
        · go_wp2_with fail
          refine (calls_from HB.out (laws_szFile (O.N k) (O.D k) x (by unfold maxLen; omega) (by unfold maxLen; omega) ⟨hx0, by omega⟩ _)).mono ?_
          rintro e w1 ⟨rfl, hB1⟩
          have HB1 : Hid _ := hB1
          clear hB1 c0 c1
          go_wp2
          go_ret
          exact ⟨⟨-1, rfl, .inl (by omega)⟩, HB1⟩
        · have hneg' : ¬ (x - ((O.N k).size : Int) - ((O.D k).size : Int) < 0) := by omega
          go_wp2_with fail
          refine (calls_from HB.out (laws_szFile (O.N k) (O.D k) x (by unfold maxLen; omega) (by unfold maxLen; omega) ⟨hx0, by omega⟩ _)).mono ?_
          rintro e w1 ⟨rfl, hB1⟩
          have HB1 : Hid (Below w.heap.size w w1) := hB1
          have HQ1 : Hid (∀ i, i < k + 1 → (O.N i).size ≤ 1048576 ∧ (O.D i).size ≤ 1048576) := fun i hi => by
            rcases Nat.lt_or_eq_of_le (Nat.lt_succ_iff.1 hi) with h | rfl
            · exact HQ.out i h
            · exact ⟨by omega, by omega⟩
          clear hB1 c0 c1
          go_wp2
          exact ⟨⟨k + 1, x - (O.N k).size - (O.D k).size, by rw [if_neg (by omega)], by go_num, by omega, by omega, by omega, HB1, HQ1⟩, by simp [intOf]; omega⟩
      · obtain rfl : k = len := by omega
        go_wp2
        go_ret
        exact ⟨⟨x, rfl, Or.inr ⟨by omega, by omega, by omega, HQ.out⟩⟩, HB.out⟩

/-- Cell i of a row of files. -/
def fileCell (O : Files) (i : Nat) : Value :=
  if i % 2 = 0 then .string (O.N (i / 2)) else .string (O.D (i / 2))

theorem fileCell0 (O : Files) (k : Nat) : fileCell O (k * 2) = .string (O.N k) := by
  unfold fileCell; rw [if_pos (by omega), show (k * 2) / 2 = k by omega]
theorem fileCell1 (O : Files) (k : Nat) : fileCell O (k * 2 + 1) = .string (O.D k) := by
  unfold fileCell; rw [if_neg (by omega), show (k * 2 + 1) / 2 = k by omega]

/-- .. out of its cells. -/
theorem fileAt_cells {w : World} {g n : Nat} {O : Files} (h : ∀ j, j < n * 2 → w.cell? ⟨g, j, none⟩ = some (fileCell O j)) {B : Nat} (hB : g < B) : FileAt w B (some ⟨g, 0, none⟩) n O := by
  refine .inr ⟨g, 0, rfl, hB, fun i hi => ⟨?_, ?_⟩⟩
  · rw [Nat.zero_add, h _ (by omega), fileCell0]
  · rw [Nat.zero_add, h _ (by omega), fileCell1]
theorem fileAt_mine {w : World} {B : Nat} {ty : TypeId} {a : Option Addr} {p n : Nat} {O : Files} (h : Mine w B ty 2 a p n (fileCell O)) : FileAt w w.heap.size a n O := by
  rcases h.at with h | ⟨g, rfl, _, hg, hc⟩
  · exact .inl h
  · exact fileAt_cells hc hg

theorem fileAt_row {w : World} {g n : Nat} {t : TypeId} {O : Files} (h : w.rowIs g t (n * 2) (fileCell O)) {B : Nat} (hB : g < B) : FileAt w B (some ⟨g, 0, none⟩) n O := by
  refine .inr ⟨g, 0, rfl, hB, fun i hi => ⟨?_, ?_⟩⟩
  · rw [Nat.zero_add, h.cell (by omega), fileCell0]
  · rw [Nat.zero_add, h.cell (by omega), fileCell1]

/-- The row while it is filled: the first k are there. -/
def fillFile (O : Files) (k : Nat) (i : Nat) : Value := if i < k * 2 then fileCell O i else (#[Value.string ⟨#[]⟩, .string ⟨#[]⟩] : Array Value)[i % 2]!

theorem fillFile_step {w : World} {g n k : Nat} {t : TypeId} {O : Files} (h : w.rowIs g t n (fillFile O k)) :
    ((((w).setCell ⟨g, k * 2, none⟩ (.string (O.N k)))).setCell ⟨g, k * 2 + 1, none⟩ (.string (O.D k))).rowIs g t n (fillFile O (k + 1)) := by
  refine ((h.set (k * 2) _).set (k * 2 + 1) _).congr fun i _ => ?_
  by_cases e1 : i = k * 2 + 1
  · subst e1; rw [if_pos rfl, fillFile, if_pos (by omega), fileCell1]
  · rw [if_neg e1]
    by_cases e0 : i = k * 2
    · subst e0; rw [if_pos rfl, fillFile, if_pos (by omega), fileCell0]
    · rw [if_neg e0]
      unfold fillFile
      by_cases hl : i < k * 2
      · rw [if_pos hl, if_pos (by omega)]
      · rw [if_neg hl, if_neg (by omega)]

theorem madeFile_row (w : World) (n : Nat) (t : TypeId) (O : Files) : (w.alloc (.cells (madeCells #[Value.string ⟨#[]⟩, .string ⟨#[]⟩] (n * 2)) t)).rowIs w.heap.size t (n * 2) (fillFile O 0) := by
  have h := World.rowIs_alloc w (madeCells #[Value.string ⟨#[]⟩, .string ⟨#[]⟩] (n * 2)) t (fillFile O 0) (fun i hi => by
    rw [size_madeCells] at hi
    unfold fillFile madeCells
    rw [if_neg (by omega)]
    simp [hi])
  rwa [size_madeCells] at h

theorem laws_toFile (x0 : ByteArray) (x1 : ByteArray) (w : World) :
    Calls Try.prog 81 #[.agg #[.string x0, .string x1]] w fun e w' => e = .returned (.agg #[.string x0, .string x1]) ∧ Below w.heap.size w w' := by
  go_enter Try.func81, Try.ntmps81
  go_wp2
  refine bodyPost_ret (v := .agg #[.string x0, .string x1]) (by simp [results, Try.results81, go_sem]) rfl ⟨rfl, ?_⟩
  go_grown

set_option maxHeartbeats 1000000 in
set_option maxRecDepth 100000 in
/-- The copy that the laws make. -/
theorem laws_toFileS (a : Option Addr) (len cap : Nat) (O : Files) (w : World) (hl : len ≤ 1048576) (hS : FileAt w w.heap.size a len O) :
    Calls Try.prog 45 #[.slice a len cap] w fun e w' => e = .returned (.slice (some ⟨w.heap.size, 0, none⟩) len len) ∧ w'.rowIs w.heap.size 96 (len * 2) (fileCell O) ∧ Below w.heap.size w w' := by
  have hi : (Try.prog.info? 96).map (fun i => (i.zero, i.size, i.bytes)) = some (some (.agg #[.string ⟨#[]⟩, .string ⟨#[]⟩]), 2, 32) := by kernel_rfl
  obtain ⟨i0, hi0, hz0, hz1, hz2⟩ := info_parts hi
  have hmk : ∀ W : World, (Instr.makeSlice 28 (.int .i64 (len : Int)) (.int .i64 (len : Int))).run Try.prog W = .ok (.slice (some ⟨W.heap.size, 0, none⟩) len len) (W.alloc (.cells (madeCells #[Value.string ⟨#[]⟩, .string ⟨#[]⟩] (len * 2)) 96)) := fun W => by
    have := run_make (P := Try.prog) W 28 96 i0 _ Try.underlying28 hi0 hz0 .i64 .i64 len len (by omega) (Int.le_refl _) (by rw [hz2]; omega) (by omega)
    rw [hz1] at this
    simpa [Value.cells] using this
  have HR0 : Hid ((w.alloc (.cells (madeCells #[Value.string ⟨#[]⟩, .string ⟨#[]⟩] (len * 2)) 96)).rowIs w.heap.size 96 (len * 2) (fillFile O 0)) := madeFile_row w len _ O
  have HB0 : Hid (Below w.heap.size w (w.alloc (.cells (madeCells #[Value.string ⟨#[]⟩, .string ⟨#[]⟩] (len * 2)) 96))) := (Below.refl _ _).alloc (Nat.le_refl _) _
  have HS : Hid (FileAt w w.heap.size a len O) := hS
  clear hS hi hi0 hz0 hz1 hz2
  go_enter Try.func45, Try.ntmps45
  go_wp2
  generalize w.alloc (.cells (madeCells #[Value.string ⟨#[]⟩, .string ⟨#[]⟩] (len * 2)) 96) = w0 at HR0 HB0 ⊢
  clear hmk
  go_loopw [4] (fun i wr => ∃ k : Nat, i = .int .i64 k ∧ k ≤ len ∧ Hid (wr.rowIs w.heap.size 96 (len * 2) (fillFile O k)) ∧ Hid (Below w.heap.size w wr)) (fun i _ => len - (intOf i).toNat)
  case atStart => exact ⟨0, rfl, by omega, HR0, HB0⟩
  case round =>
    obtain ⟨k, rfl, hk, HR, HB⟩ := hrel
    clear HR0 HB0
    by_cases hlt : k < len
    · obtain ⟨b, off, rfl, hb, c0, c1⟩ := (HS.out.below HB.out).at hlt
      have hlti : (k : Int) < (len : Int) := by omega
      go_wp2_with fail
      refine (laws_toFile (O.N k) (O.D k) _).mono ?_
      rintro e w1 ⟨rfl, hb1⟩
      have HR1 : Hid (w1.rowIs w.heap.size 96 (len * 2) (fillFile O k)) := entRow_below HR.out hb1 HR.out.lt
      have HB1 : Hid (Below w.heap.size w w1) := HB.out.trans (hb1.mono HB.out.size)
      have d0 := HR1.out.cell (i := k * 2) (by omega)
      have d1 := HR1.out.cell (i := k * 2 + 1) (by omega)
      have hfr := HR1.out.frozen
      have HR2 : Hid _ := fillFile_step HR1.out
      have HB2 : Hid _ := (HB1.out.setCell (p := ⟨w.heap.size, k * 2, none⟩) (Nat.le_refl _) (.string (O.N k))).setCell (p := ⟨w.heap.size, k * 2 + 1, none⟩) (Nat.le_refl _) (.string (O.D k))
      clear hb1 HR HB c0 c1 HR1 HB1
      generalize fillFile O k (k * 2) = v0 at d0
      generalize fillFile O k (k * 2 + 1) = v1 at d1
      go_wp2
      exact ⟨⟨k + 1, by go_num, by omega, HR2, HB2⟩, by simp [intOf]; omega⟩
    · obtain rfl : k = len := by omega
      go_wp2
      go_ret
      exact ⟨rfl, HR.out.congr fun i hi => by rw [fillFile, if_pos hi], HB.out⟩

theorem laws_eqFile (x0 : ByteArray) (x1 : ByteArray) (w : World) :
    Calls Try.prog 84 #[.agg #[.string x0, .string x1], .agg #[.string x0, .string x1]] w fun e w' => e = .returned (.bool true) ∧ Below w.heap.size w w' := by
  go_enter Try.func84, Try.ntmps84
  go_wp2
  go_ret
  exact ⟨rfl, by go_grown⟩

set_option maxHeartbeats 1000000 in
theorem laws_eqFileS (a b : Option Addr) (len ca cb : Nat) (O : Files) (w : World) (hl : len ≤ 1048576) (ha : FileAt w w.heap.size a len O) (hb : FileAt w w.heap.size b len O) :
    Calls Try.prog 48 #[.slice a len ca, .slice b len cb] w fun e w' => e = .returned (.bool true) ∧ Below w.heap.size w w' := by
  have HA : Hid (FileAt w w.heap.size a len O) := ha
  have HB : Hid (FileAt w w.heap.size b len O) := hb
  clear ha hb
  have HB0 : Hid (Below w.heap.size w w) := Below.refl _ _
  go_enter Try.func48, Try.ntmps48
  go_wp2
  go_loopw [5] (fun i wr => ∃ k : Nat, i = .int .i64 k ∧ k ≤ len ∧ Hid (Below w.heap.size w wr)) (fun i _ => len - (intOf i).toNat)
  case atStart => exact ⟨0, rfl, by omega, HB0⟩
  case round =>
    obtain ⟨k, rfl, hk, HW⟩ := hrel
    clear HB0
    by_cases hlt : k < len
    · obtain ⟨b1, off1, rfl, hb1, c0, c1⟩ := (HA.out.below HW.out).at hlt
      obtain ⟨b2, off2, rfl, hb2, d0, d1⟩ := (HB.out.below HW.out).at hlt
      have hki : (k : Int) < (len : Int) := by omega
      have hstart : wr.drew.cell? ⟨b1, off1 + k * 2, none⟩ = some (.string (O.N k)) ∧ wr.drew.cell? ⟨b1, off1 + k * 2 + 1, none⟩ = some (.string (O.D k)) ∧
          wr.drew.cell? ⟨b2, off2 + k * 2, none⟩ = some (.string (O.N k)) ∧ wr.drew.cell? ⟨b2, off2 + k * 2 + 1, none⟩ = some (.string (O.D k)) ∧ Hid (Below w.heap.size w wr.drew) :=
        ⟨c0, c1, d0, d1, HW.out.drew⟩
      clear c0 c1 d0 d1
      go_wp2_with fail
      go_region_held3 (fun (w' : World) => w'.cell? ⟨b1, off1 + k * 2, none⟩ = some (.string (O.N k)) ∧ w'.cell? ⟨b1, off1 + k * 2 + 1, none⟩ = some (.string (O.D k)) ∧
          w'.cell? ⟨b2, off2 + k * 2, none⟩ = some (.string (O.N k)) ∧ w'.cell? ⟨b2, off2 + k * 2 + 1, none⟩ = some (.string (O.D k)) ∧ Hid (Below w.heap.size w w')) (assumption)
        ((go_at_call 84; refine (held_callE (S := fun (w' : World) => w'.cell? ⟨b1, off1 + k * 2, none⟩ = some (.string (O.N k)) ∧ w'.cell? ⟨b1, off1 + k * 2 + 1, none⟩ = some (.string (O.D k)) ∧
          w'.cell? ⟨b2, off2 + k * 2, none⟩ = some (.string (O.N k)) ∧ w'.cell? ⟨b2, off2 + k * 2 + 1, none⟩ = some (.string (O.D k)) ∧ Hid (Below w.heap.size w w'))
          (fun wa wb h hx => ⟨(hx.cell (p := ⟨b1, _, none⟩) (Nat.lt_of_lt_of_le hb1 h.2.2.2.2.out.size)).trans h.1, (hx.cell (p := ⟨b1, _, none⟩) (Nat.lt_of_lt_of_le hb1 h.2.2.2.2.out.size)).trans h.2.1, (hx.cell (p := ⟨b2, _, none⟩) (Nat.lt_of_lt_of_le hb2 h.2.2.2.2.out.size)).trans h.2.2.1, (hx.cell (p := ⟨b2, _, none⟩) (Nat.lt_of_lt_of_le hb2 h.2.2.2.2.out.size)).trans h.2.2.2.1, h.2.2.2.2.out.trans (hx.mono h.2.2.2.2.out.size)⟩)
          (by assumption) (laws_eqFile _ _ _)).mono ?_; rintro e w1 ⟨rfl, hS⟩))
      all_goals
        have HW2 : Hid (Below w.heap.size w w1) := hS.2.2.2.2
        clear hS hstart
        go_wp2
        exact ⟨⟨k + 1, by go_num, by omega, HW2⟩, by simp [intOf]; omega⟩
    · go_wp2
      go_ret
      exact ⟨rfl, HW.out⟩

theorem file_trod {H : Type} {enc : TypeId × Value → H} {w : World} {base : Nat} {spare : Nat → Bool} {held : Bool} {fuel : Nat} {cs : List Value} {x : DataW H × List MemPlace}
    (h : DataW.trod enc Try.prog w base spare held fuel 114 cs = some x) : ∃ (x0 : ByteArray) (x1 : ByteArray), cs = [.string x0, .string x1] ∧ x0.size ≤ maxLen ∧ x1.size ≤ maxLen := by
  have hc : Try.prog.cellsOf 114 = 2 := by kernel_rfl
  have hc9 : Try.prog.cellsOf 9 = 1 := by kernel_rfl
  have hc2 : Try.prog.cellsOf 2 = 1 := by kernel_rfl
  obtain ⟨xs, n, _, _, hl, hxl, hf⟩ := DataW.trod_struct Try.underlying114 h
  rw [hc] at hl
  obtain ⟨c0, c1, rfl⟩ : ∃ c0 c1, cs = [c0, c1] := by
    match cs, hl with
    | [c0, c1], _ => exact ⟨c0, c1, rfl⟩
  obtain ⟨y0, y1, rfl⟩ : ∃ y0 y1, xs = [y0, y1] := by
    match xs, hxl with
    | [y0, y1], _ => exact ⟨y0, y1, rfl⟩
  have f0 : DataW.trod enc Try.prog w base spare held n 9 (List.take (Try.prog.cellsOf 9) [c0, c1]) = some y0 := hf 0 _ rfl
  have f1 : DataW.trod enc Try.prog w base spare held n 9 (List.take (Try.prog.cellsOf 9) [c1]) = some y1 := hf 1 _ rfl
  rw [hc9] at f0 f1
  obtain ⟨x0, e0, _, hx0⟩ := DataW.trod_string Try.underlying9 f0
  obtain ⟨x1, e1, _, hx1⟩ := DataW.trod_string Try.underlying9 f1
  simp at e0 e1
  subst e0 e1
  exact ⟨x0, x1, rfl, hx0, hx1⟩

/-- A slice of files that came in. -/
theorem files_trod {H : Type} {enc : TypeId × Value → H} {w : World} {base : Nat} {spare : Nat → Bool} {held : Bool} {fuel : Nat} {cs : List Value} {y : DataW H × List MemPlace}
    (hf : DataW.trod enc Try.prog w base spare held fuel 22 cs = some y) : ∃ a len cap O, cs = [.slice a len cap] ∧ len ≤ maxLen ∧ FileAt w w.heap.size a len O ∧ ∀ i, i < len → (O.N i).size ≤ maxLen ∧ (O.D i).size ≤ maxLen := by
  have hc4 : Try.prog.cellsOf 114 = 2 := by kernel_rfl
  rcases open_slice Try.underlying22 hf with ⟨hcs, _⟩ | ⟨x, l, c, m, n, D, Pl, hcs, _, hl, hm, hmm, _, hx⟩
  · exact ⟨none, 0, 0, ⟨fun _ => ByteArray.empty, fun _ => ByteArray.empty⟩, hcs, Nat.zero_le _, .inl rfl, fun _ h => absurd h (by omega)⟩
  · have hlm : l ≤ m := by rw [hmm]; split <;> omega
    rw [hc4] at hx
    obtain ⟨b, off, spot⟩ := x
    have each : ∀ i, i < m → ∃ q : ByteArray × ByteArray, w.cell? ⟨b, off + i * 2, none⟩ = some (.string (q.1)) ∧ w.cell? ⟨b, off + i * 2 + 1, none⟩ = some (.string (q.2)) ∧ (q.1).size ≤ maxLen ∧ (q.2).size ≤ maxLen ∧ spot = none := fun i hi => by
      obtain ⟨cs', h1, h2⟩ := hx i hi
      obtain ⟨_, _, hcell⟩ := World.cells?_some h1
      obtain ⟨x0, x1, rfl, hx0, hx1⟩ := file_trod h2
      have e0 := hcell 0 (by omega)
      have e1 := hcell 1 (by omega)
      have hspot : spot = none := by
        have hx0 := (World.cells?_some (hx 0 (by omega)).choose_spec.1).2.2 0 (by omega)
        obtain ⟨x0', x1', hcs, _, _⟩ := file_trod (hx 0 (by omega)).choose_spec.2
        rw [hcs] at hx0
        have hx1 : w.cell? ⟨b, off, spot⟩ = some (.string x0') := by simpa [Addr.add] using hx0
        simpa using World.cell?_spot hx1
      subst hspot
      rw [Addr.add_lit, Addr.add_lit] at e0 e1
      exact ⟨(x0, x1), by simpa using e0, by simpa using e1, hx0, hx1, rfl⟩
    obtain ⟨q, hq⟩ := choose_lt each
    refine ⟨_, _, _, ⟨fun i => (q i).1, fun i => (q i).2⟩, hcs, by omega, ?_, fun i hi => ⟨(hq i (by omega)).2.2.1, (hq i (by omega)).2.2.2.1⟩⟩
    rcases Nat.eq_zero_or_pos l with h0 | h0
    · exact .inl h0
    · have hspot : spot = none := (hq 0 (by omega)).2.2.2.2
      subst hspot
      have hb : b < w.heap.size := World.block_lt_of_cell? w ⟨b, off + 0 * 2, none⟩ (hq 0 (by omega)).1
      exact .inr ⟨b, off, rfl, hb, fun i hi => ⟨(hq i (by omega)).1, (hq i (by omega)).2.1⟩⟩

end Go.Proofs.Ytejedpmkbkclhaa
