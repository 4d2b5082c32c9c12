/- Rows of entries: those that came in, the copies that the laws make; their size, and that two are alike. -/
import Derived.Test.YtjcoejabpagaiaaLEntry
import Derived.Test.YtjcoejabpagaiaaEntRow
import Derived.Test.YtjcoejabpagaiaaOwn
import Derived.Deep.OwnRows
import Derived.Deep.Slices
import Derived.Deep.RegionHeld3
namespace Go.Proofs.Ytjcoejabpagaiaa
set_option maxRecDepth 100000
open Go.RowKit Go.Deep

/-- The entries of a row, by their places. -/
structure Ents where
  U : Nat → ByteArray
  Q : Nat → Int
  K : Nat → Int
  X : Nat → ByteArray

/-- A row of len entries, in memory below block B. -/
def EntAt (w : World) (B : Nat) (a : Option Addr) (len : Nat) (E : Ents) : Prop :=
  len = 0 ∨ ∃ b off, a = some ⟨b, off, none⟩ ∧ b < B ∧ ∀ i, i < len → w.cell? ⟨b, off + i * 4, none⟩ = some (.string (E.U i)) ∧ w.cell? ⟨b, off + i * 4 + 1, none⟩ = some (.int .i64 (E.Q i)) ∧ w.cell? ⟨b, off + i * 4 + 2, none⟩ = some (.int .i64 (E.K i)) ∧ w.cell? ⟨b, off + i * 4 + 3, none⟩ = some (.string (E.X i))

theorem EntAt.below {w w' : World} {B : Nat} {a : Option Addr} {len : Nat} {E : Ents} (h : EntAt w B a len E) (hb : Below B w w') : EntAt w' B a len E := by
  rcases h with h | ⟨b, off, e, hB, hc⟩
  · exact .inl h
  · refine .inr ⟨b, off, e, hB, fun i hi => ?_⟩
    obtain ⟨c0, c1, c2, c3⟩ := hc i hi
    exact ⟨(hb.cell (p := ⟨b, _, none⟩) hB).trans c0, (hb.cell (p := ⟨b, _, none⟩) hB).trans c1, (hb.cell (p := ⟨b, _, none⟩) hB).trans c2, (hb.cell (p := ⟨b, _, none⟩) hB).trans c3⟩

theorem EntAt.mono {w : World} {B B' : Nat} {a : Option Addr} {len : Nat} {E : Ents} (h : EntAt w B a len E) (hB : B ≤ B') : EntAt w B' a len E := by
  rcases h with h | ⟨b, off, e, hb, hc⟩
  · exact .inl h
  · exact .inr ⟨b, off, e, by omega, hc⟩

theorem EntAt.at {w : World} {B : Nat} {a : Option Addr} {len : Nat} {E : Ents} (h : EntAt w B a len E) {i : Nat} (hi : i < len) :
    ∃ b off, a = some ⟨b, off, none⟩ ∧ b < B ∧ w.cell? ⟨b, off + i * 4, none⟩ = some (.string (E.U i)) ∧ w.cell? ⟨b, off + i * 4 + 1, none⟩ = some (.int .i64 (E.Q i)) ∧ w.cell? ⟨b, off + i * 4 + 2, none⟩ = some (.int .i64 (E.K i)) ∧ w.cell? ⟨b, off + i * 4 + 3, none⟩ = some (.string (E.X i)) := by
  rcases h with h | ⟨b, off, e, hb, hc⟩
  · omega
  · exact ⟨b, off, e, hb, hc i hi⟩

set_option maxHeartbeats 1000000 in
/-- The size of what came in: below 0, or as much is left as there was at most. -/
theorem laws_szEntryS (a : Option Addr) (len cap : Nat) (E : Ents) (l : Int) (w : World) (hl : len ≤ maxLen) (hs : ∀ i, i < len → (E.U i).size ≤ maxLen ∧ (E.X i).size ≤ maxLen) (h0 : 0 ≤ l) (h1 : l ≤ 1048576) (hS : EntAt w w.heap.size a len E) :
    Calls Try.prog 5 #[.slice a len cap, .int .i64 l] w fun e w' => (∃ r : Int, e = .returned (.int .i64 r) ∧ (r < 0 ∨ (0 ≤ r ∧ r ≤ l ∧ (len : Int) ≤ l))) ∧ Below w.heap.size w w' := by
  unfold maxLen at hl
  have HSz : Hid (∀ i, i < len → (E.U i).size ≤ maxLen ∧ (E.X i).size ≤ maxLen) := hs
  clear hs
  by_cases hbig : l < (len : Int)
  · have hx : l - (len : Int) < 0 := by omega
    go_enter Try.func5, Try.ntmps5
    go_wp2
    go_ret
    exact ⟨⟨-1, rfl, .inl (by omega)⟩, Below.refl _ _⟩
  · have hx : ¬ (l - (len : Int) < 0) := by omega
    have HS : Hid (EntAt w w.heap.size a len E) := hS
    have HB0 : Hid (Below w.heap.size w w) := Below.refl _ _
    clear hS
    go_enter Try.func5, Try.ntmps5
    go_wp2
    go_loopw [1, 5] (fun r i wr => ∃ (k : Nat) (x : Int), r = .int .i64 x ∧ i = .int .i64 k ∧ k ≤ len ∧ 0 ≤ x ∧ x + len ≤ l ∧ Hid (Below w.heap.size w wr)) (fun _ i _ => len - (intOf i).toNat)
    case atStart => exact ⟨0, l - len, rfl, rfl, by omega, by omega, by omega, HB0⟩
    case round =>
      obtain ⟨k, x, rfl, rfl, hk, hx0, hx1, HB⟩ := hrel
      clear HB0
      by_cases hlt : k < len
      · obtain ⟨b, off, rfl, hb, c0, c1, c2, c3⟩ := (HS.out.below HB.out).at hlt
        obtain ⟨z1, z2⟩ := HSz.out k hlt
        unfold maxLen at z1 z2
        by_cases hneg : x < (E.U k).size + (E.X k).size
        · go_wp2_with fail
          refine (calls_from HB.out (laws_szEntry (E.U k) (E.Q k) (E.K k) (E.X k) x (by unfold maxLen; omega) (by unfold maxLen; omega) ⟨hx0, by omega⟩ _)).mono ?_
          rintro e w1 ⟨rfl, hB1⟩
          have HB1 : Hid _ := hB1
          clear hB1 c0 c1 c2 c3
          go_wp2
          go_ret
          exact ⟨⟨-1, rfl, .inl (by omega)⟩, HB1⟩
        · have hneg' : ¬ (x - ((E.U k).size : Int) - ((E.X k).size : Int) < 0) := by omega
          go_wp2_with fail
          refine (calls_from HB.out (laws_szEntry (E.U k) (E.Q k) (E.K k) (E.X k) x (by unfold maxLen; omega) (by unfold maxLen; omega) ⟨hx0, by omega⟩ _)).mono ?_
          rintro e w1 ⟨rfl, hB1⟩
          have HB1 : Hid (Below w.heap.size w w1) := hB1
          clear hB1 c0 c1 c2 c3
          go_wp2
          exact ⟨⟨k + 1, x - (E.U k).size - (E.X k).size, by rw [if_neg (by omega)], by go_num, by omega, by omega, by omega, HB1⟩, by simp [intOf]; omega⟩
      · obtain rfl : k = len := by omega
        go_wp2
        go_ret
        exact ⟨⟨x, rfl, Or.inr ⟨by omega, by omega⟩⟩, HB.out⟩

/-- Cell i of a row of entries. -/
def entCell (E : Ents) (i : Nat) : Value :=
  if i % 4 = 0 then .string (E.U (i / 4)) else if i % 4 = 1 then .int .i64 (E.Q (i / 4)) else if i % 4 = 2 then .int .i64 (E.K (i / 4)) else .string (E.X (i / 4))

theorem entCell0 (E : Ents) (k : Nat) : entCell E (k * 4) = .string (E.U k) := by
  unfold entCell; rw [if_pos (by omega), show k * 4 / 4 = k by omega]
theorem entCell1 (E : Ents) (k : Nat) : entCell E (k * 4 + 1) = .int .i64 (E.Q k) := by
  unfold entCell; rw [if_neg (by omega), if_pos (by omega), show (k * 4 + 1) / 4 = k by omega]
theorem entCell2 (E : Ents) (k : Nat) : entCell E (k * 4 + 2) = .int .i64 (E.K k) := by
  unfold entCell; rw [if_neg (by omega), if_neg (by omega), if_pos (by omega), show (k * 4 + 2) / 4 = k by omega]
theorem entCell3 (E : Ents) (k : Nat) : entCell E (k * 4 + 3) = .string (E.X k) := by
  unfold entCell; rw [if_neg (by omega), if_neg (by omega), if_neg (by omega), show (k * 4 + 3) / 4 = k by omega]

theorem entAt_row {w : World} {g n : Nat} {t : TypeId} {E : Ents} (h : w.rowIs g t (n * 4) (entCell E)) {B : Nat} (hB : g < B) : EntAt w B (some ⟨g, 0, none⟩) n E := by
  refine .inr ⟨g, 0, rfl, hB, fun i hi => ⟨?_, ?_, ?_, ?_⟩⟩
  · rw [Nat.zero_add, h.cell (by omega), entCell0]
  · rw [Nat.zero_add, h.cell (by omega), entCell1]
  · rw [Nat.zero_add, h.cell (by omega), entCell2]
  · rw [Nat.zero_add, h.cell (by omega), entCell3]

/-- The row while it is filled: the first k entries are there. -/
def fillCell (E : Ents) (k : Nat) (i : Nat) : Value := if i < k * 4 then entCell E i else (#[Value.string ⟨#[]⟩, .int .i64 0, .int .i64 0, .string ⟨#[]⟩] : Array Value)[i % 4]!

theorem fill_step {w : World} {g n k : Nat} {t : TypeId} {E : Ents} (h : w.rowIs g t n (fillCell E k)) :
    ((((w.setCell ⟨g, k * 4, none⟩ (.string (E.U k))).setCell ⟨g, k * 4 + 1, none⟩ (.int .i64 (E.Q k))).setCell ⟨g, k * 4 + 2, none⟩ (.int .i64 (E.K k))).setCell ⟨g, k * 4 + 3, none⟩ (.string (E.X k))).rowIs g t n (fillCell E (k + 1)) := by
  refine ((((h.set (k * 4) _).set (k * 4 + 1) _).set (k * 4 + 2) _).set (k * 4 + 3) _).congr fun i _ => ?_
  by_cases e3 : i = k * 4 + 3
  · subst e3; rw [if_pos rfl, fillCell, if_pos (by omega), entCell3]
  · rw [if_neg e3]
    by_cases e2 : i = k * 4 + 2
    · subst e2; rw [if_pos rfl, fillCell, if_pos (by omega), entCell2]
    · rw [if_neg e2]
      by_cases e1 : i = k * 4 + 1
      · subst e1; rw [if_pos rfl, fillCell, if_pos (by omega), entCell1]
      · rw [if_neg e1]
        by_cases e0 : i = k * 4
        · subst e0; rw [if_pos rfl, fillCell, if_pos (by omega), entCell0]
        · rw [if_neg e0]
          unfold fillCell
          by_cases hl : i < k * 4
          · rw [if_pos hl, if_pos (by omega)]
          · rw [if_neg hl, if_neg (by omega)]

theorem made_row (w : World) (n : Nat) (t : TypeId) (E : Ents) : (w.alloc (.cells (madeCells #[Value.string ⟨#[]⟩, .int .i64 0, .int .i64 0, .string ⟨#[]⟩] (n * 4)) t)).rowIs w.heap.size t (n * 4) (fillCell E 0) := by
  have h := World.rowIs_alloc w (madeCells #[Value.string ⟨#[]⟩, .int .i64 0, .int .i64 0, .string ⟨#[]⟩] (n * 4)) t (fillCell E 0) (fun i hi => by
    rw [size_madeCells] at hi
    unfold fillCell madeCells
    rw [if_neg (by omega)]
    simp [hi])
  rwa [size_madeCells] at h

set_option maxHeartbeats 1000000 in
set_option maxRecDepth 100000 in
/-- The copy that the laws make. -/
theorem laws_toEntryS (a : Option Addr) (len cap : Nat) (E : Ents) (w : World) (hl : len ≤ 1048576) (hS : EntAt w w.heap.size a len E) :
    Calls Try.prog 7 #[.slice a len cap] w fun e w' => e = .returned (.slice (some ⟨w.heap.size, 0, none⟩) len len) ∧ w'.rowIs w.heap.size 43 (len * 4) (entCell E) ∧ Below w.heap.size w w' := by
  have hi : (Try.prog.info? 43).map (fun i => (i.zero, i.size, i.bytes)) = some (some (.agg #[.string ⟨#[]⟩, .int .i64 0, .int .i64 0, .string ⟨#[]⟩]), 4, 48) := by kernel_rfl
  obtain ⟨i0, hi0, hz0, hz1, hz2⟩ := info_parts hi
  have hmk : ∀ W : World, (Instr.makeSlice 26 (.int .i64 (len : Int)) (.int .i64 (len : Int))).run Try.prog W = .ok (.slice (some ⟨W.heap.size, 0, none⟩) len len) (W.alloc (.cells (madeCells #[Value.string ⟨#[]⟩, .int .i64 0, .int .i64 0, .string ⟨#[]⟩] (len * 4)) 43)) := fun W => by
    have := run_make (P := Try.prog) W 26 43 i0 _ Try.underlying26 hi0 hz0 .i64 .i64 len len (by omega) (Int.le_refl _) (by rw [hz2]; omega) (by omega)
    rw [hz1] at this
    simpa [Value.cells] using this
  have HR0 : Hid ((w.alloc (.cells (madeCells #[Value.string ⟨#[]⟩, .int .i64 0, .int .i64 0, .string ⟨#[]⟩] (len * 4)) 43)).rowIs w.heap.size 43 (len * 4) (fillCell E 0)) := made_row w len _ E
  have HB0 : Hid (Below w.heap.size w (w.alloc (.cells (madeCells #[Value.string ⟨#[]⟩, .int .i64 0, .int .i64 0, .string ⟨#[]⟩] (len * 4)) 43))) := (Below.refl _ _).alloc (Nat.le_refl _) _
  have HS : Hid (EntAt w w.heap.size a len E) := hS
  clear hS hi hi0 hz0 hz1 hz2
  go_enter Try.func7, Try.ntmps7
  go_wp2
  generalize w.alloc (.cells (madeCells #[Value.string ⟨#[]⟩, .int .i64 0, .int .i64 0, .string ⟨#[]⟩] (len * 4)) 43) = w0 at HR0 HB0 ⊢
  clear hmk
  go_loopw [4] (fun i wr => ∃ k : Nat, i = .int .i64 k ∧ k ≤ len ∧ Hid (wr.rowIs w.heap.size 43 (len * 4) (fillCell E k)) ∧ Hid (Below w.heap.size w wr)) (fun i _ => len - (intOf i).toNat)
  case atStart => exact ⟨0, rfl, by omega, HR0, HB0⟩
  case round =>
    obtain ⟨k, rfl, hk, HR, HB⟩ := hrel
    clear HR0 HB0
    by_cases hlt : k < len
    · obtain ⟨b, off, rfl, hb, c0, c1, c2, c3⟩ := (HS.out.below HB.out).at hlt
      have hlti : (k : Int) < (len : Int) := by omega
      go_wp2_with fail
      refine (laws_toEntry (E.U k) (E.Q k) (E.K k) (E.X k) _).mono ?_
      rintro e w1 ⟨rfl, hb1⟩
      have HR1 : Hid (w1.rowIs w.heap.size 43 (len * 4) (fillCell E k)) := entRow_below HR.out hb1 HR.out.lt
      have HB1 : Hid (Below w.heap.size w w1) := HB.out.trans (hb1.mono HB.out.size)
      have d0 := HR1.out.cell (i := k * 4) (by omega)
      have d1 := HR1.out.cell (i := k * 4 + 1) (by omega)
      have d2 := HR1.out.cell (i := k * 4 + 2) (by omega)
      have d3 := HR1.out.cell (i := k * 4 + 3) (by omega)
      have hfr := HR1.out.frozen
      have HR2 : Hid _ := fill_step HR1.out
      have HB2 : Hid _ := (((HB1.out.setCell (p := ⟨w.heap.size, k * 4, none⟩) (Nat.le_refl _) (.string (E.U k))).setCell (p := ⟨w.heap.size, k * 4 + 1, none⟩) (Nat.le_refl _) (.int .i64 (E.Q k))).setCell (p := ⟨w.heap.size, k * 4 + 2, none⟩) (Nat.le_refl _) (.int .i64 (E.K k))).setCell (p := ⟨w.heap.size, k * 4 + 3, none⟩) (Nat.le_refl _) (.string (E.X k))
      clear hb1 HR HB c0 c1 c2 c3 HR1 HB1
      generalize fillCell E k (k * 4) = v0 at d0
      generalize fillCell E k (k * 4 + 1) = v1 at d1
      generalize fillCell E k (k * 4 + 2) = v2 at d2
      generalize fillCell E k (k * 4 + 3) = v3 at d3
      go_wp2
      exact ⟨⟨k + 1, by go_num, by omega, HR2, HB2⟩, by simp [intOf]; omega⟩
    · obtain rfl : k = len := by omega
      go_wp2
      go_ret
      exact ⟨rfl, HR.out.congr fun i hi => by rw [fillCell, if_pos hi], HB.out⟩

theorem laws_eqEntry (u : ByteArray) (q k : Int) (v : ByteArray) (w : World) :
    Calls Try.prog 23 #[.agg #[.string u, .int .i64 q, .int .i64 k, .string v], .agg #[.string u, .int .i64 q, .int .i64 k, .string v]] w fun e w' => e = .returned (.bool true) ∧ Below w.heap.size w w' := by
  go_enter Try.func23, Try.ntmps23
  go_wp2
  go_ret
  exact ⟨rfl, by go_grown⟩

set_option maxHeartbeats 1000000 in
theorem laws_eqEntryS (a b : Option Addr) (len ca cb : Nat) (E : Ents) (w : World) (hl : len ≤ 1048576) (ha : EntAt w w.heap.size a len E) (hb : EntAt w w.heap.size b len E) :
    Calls Try.prog 10 #[.slice a len ca, .slice b len cb] w fun e w' => e = .returned (.bool true) ∧ Below w.heap.size w w' := by
  have HA : Hid (EntAt w w.heap.size a len E) := ha
  have HB : Hid (EntAt w w.heap.size b len E) := hb
  clear ha hb
  have HB0 : Hid (Below w.heap.size w w) := Below.refl _ _
  go_enter Try.func10, Try.ntmps10
  go_wp2
  go_loopw [5] (fun i wr => ∃ k : Nat, i = .int .i64 k ∧ k ≤ len ∧ Hid (Below w.heap.size w wr)) (fun i _ => len - (intOf i).toNat)
  case atStart => exact ⟨0, rfl, by omega, HB0⟩
  case round =>
    obtain ⟨k, rfl, hk, HW⟩ := hrel
    clear HB0
    by_cases hlt : k < len
    · obtain ⟨b1, off1, rfl, hb1, c0, c1, c2, c3⟩ := (HA.out.below HW.out).at hlt
      obtain ⟨b2, off2, rfl, hb2, d0, d1, d2, d3⟩ := (HB.out.below HW.out).at hlt
      have hki : (k : Int) < (len : Int) := by omega
      have hstart : wr.drew.cell? ⟨b1, off1 + k * 4, none⟩ = some (.string (E.U k)) ∧ wr.drew.cell? ⟨b1, off1 + k * 4 + 1, none⟩ = some (.int .i64 (E.Q k)) ∧ wr.drew.cell? ⟨b1, off1 + k * 4 + 2, none⟩ = some (.int .i64 (E.K k)) ∧ wr.drew.cell? ⟨b1, off1 + k * 4 + 3, none⟩ = some (.string (E.X k)) ∧
          wr.drew.cell? ⟨b2, off2 + k * 4, none⟩ = some (.string (E.U k)) ∧ wr.drew.cell? ⟨b2, off2 + k * 4 + 1, none⟩ = some (.int .i64 (E.Q k)) ∧ wr.drew.cell? ⟨b2, off2 + k * 4 + 2, none⟩ = some (.int .i64 (E.K k)) ∧ wr.drew.cell? ⟨b2, off2 + k * 4 + 3, none⟩ = some (.string (E.X k)) ∧ Hid (Below w.heap.size w wr.drew) :=
        ⟨c0, c1, c2, c3, d0, d1, d2, d3, HW.out.drew⟩
      clear c0 c1 c2 c3 d0 d1 d2 d3
      go_wp2_with fail
      go_region_held3 (fun (w' : World) => w'.cell? ⟨b1, off1 + k * 4, none⟩ = some (.string (E.U k)) ∧ w'.cell? ⟨b1, off1 + k * 4 + 1, none⟩ = some (.int .i64 (E.Q k)) ∧ w'.cell? ⟨b1, off1 + k * 4 + 2, none⟩ = some (.int .i64 (E.K k)) ∧ w'.cell? ⟨b1, off1 + k * 4 + 3, none⟩ = some (.string (E.X k)) ∧
          w'.cell? ⟨b2, off2 + k * 4, none⟩ = some (.string (E.U k)) ∧ w'.cell? ⟨b2, off2 + k * 4 + 1, none⟩ = some (.int .i64 (E.Q k)) ∧ w'.cell? ⟨b2, off2 + k * 4 + 2, none⟩ = some (.int .i64 (E.K k)) ∧ w'.cell? ⟨b2, off2 + k * 4 + 3, none⟩ = some (.string (E.X k)) ∧ Hid (Below w.heap.size w w')) (assumption)
        ((go_at_call 23; refine (held_callE (S := fun (w' : World) => w'.cell? ⟨b1, off1 + k * 4, none⟩ = some (.string (E.U k)) ∧ w'.cell? ⟨b1, off1 + k * 4 + 1, none⟩ = some (.int .i64 (E.Q k)) ∧ w'.cell? ⟨b1, off1 + k * 4 + 2, none⟩ = some (.int .i64 (E.K k)) ∧ w'.cell? ⟨b1, off1 + k * 4 + 3, none⟩ = some (.string (E.X k)) ∧
          w'.cell? ⟨b2, off2 + k * 4, none⟩ = some (.string (E.U k)) ∧ w'.cell? ⟨b2, off2 + k * 4 + 1, none⟩ = some (.int .i64 (E.Q k)) ∧ w'.cell? ⟨b2, off2 + k * 4 + 2, none⟩ = some (.int .i64 (E.K k)) ∧ w'.cell? ⟨b2, off2 + k * 4 + 3, none⟩ = some (.string (E.X k)) ∧ Hid (Below w.heap.size w w'))
          (fun wa wb h hx => ⟨(hx.cell (p := ⟨b1, _, none⟩) (Nat.lt_of_lt_of_le hb1 h.2.2.2.2.2.2.2.2.out.size)).trans h.1, (hx.cell (p := ⟨b1, _, none⟩) (Nat.lt_of_lt_of_le hb1 h.2.2.2.2.2.2.2.2.out.size)).trans h.2.1, (hx.cell (p := ⟨b1, _, none⟩) (Nat.lt_of_lt_of_le hb1 h.2.2.2.2.2.2.2.2.out.size)).trans h.2.2.1, (hx.cell (p := ⟨b1, _, none⟩) (Nat.lt_of_lt_of_le hb1 h.2.2.2.2.2.2.2.2.out.size)).trans h.2.2.2.1, (hx.cell (p := ⟨b2, _, none⟩) (Nat.lt_of_lt_of_le hb2 h.2.2.2.2.2.2.2.2.out.size)).trans h.2.2.2.2.1, (hx.cell (p := ⟨b2, _, none⟩) (Nat.lt_of_lt_of_le hb2 h.2.2.2.2.2.2.2.2.out.size)).trans h.2.2.2.2.2.1, (hx.cell (p := ⟨b2, _, none⟩) (Nat.lt_of_lt_of_le hb2 h.2.2.2.2.2.2.2.2.out.size)).trans h.2.2.2.2.2.2.1, (hx.cell (p := ⟨b2, _, none⟩) (Nat.lt_of_lt_of_le hb2 h.2.2.2.2.2.2.2.2.out.size)).trans h.2.2.2.2.2.2.2.1, h.2.2.2.2.2.2.2.2.out.trans (hx.mono h.2.2.2.2.2.2.2.2.out.size)⟩)
          (by assumption) (laws_eqEntry _ _ _ _ _)).mono ?_; rintro e w1 ⟨rfl, hS⟩))
      all_goals
        have HW2 : Hid (Below w.heap.size w w1) := hS.2.2.2.2.2.2.2.2
        clear hS hstart
        go_wp2
        exact ⟨⟨k + 1, by go_num, by omega, HW2⟩, by simp [intOf]; omega⟩
    · go_wp2
      go_ret
      exact ⟨rfl, HW.out⟩

end Go.Proofs.Ytjcoejabpagaiaa
