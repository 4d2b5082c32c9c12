/- Rows of ops, batches: those that came in, the copies that the laws make; their size, and that two are alike. -/
import Derived.Test.YtonkjdjancnajadLEntry
import Derived.Test.YtonkjdjancnajadOwn
import Derived.Test.YtonkjdjancnajadEnts
import Derived.Deep.OwnRows
import Derived.Deep.Slices
import Derived.Deep.RegionHeld3
namespace Go.Proofs.Ytonkjdjancnajad
set_option maxRecDepth 100000
open Go.RowKit Go.Deep

/-- The ops of a row, by their places. -/
structure Ops where
  K : Nat → Int
  U : Nat → ByteArray
  X : Nat → ByteArray

/-- A row of len ops, in memory below block B. -/
def OpAt (w : World) (B : Nat) (a : Option Addr) (len : Nat) (O : Ops) : Prop :=
  len = 0 ∨ ∃ b off, a = some ⟨b, off, none⟩ ∧ b < B ∧ ∀ i, i < len → w.cell? ⟨b, off + i * 3, none⟩ = some (.int .i64 (O.K i)) ∧ w.cell? ⟨b, off + i * 3 + 1, none⟩ = some (.string (O.U i)) ∧ w.cell? ⟨b, off + i * 3 + 2, none⟩ = some (.string (O.X i))

theorem OpAt.below {w w' : World} {B : Nat} {a : Option Addr} {len : Nat} {O : Ops} (h : OpAt w B a len O) (hb : Below B w w') : OpAt w' B a len O := by
  rcases h with h | ⟨b, off, e, hB, hc⟩
  · exact .inl h
  · refine .inr ⟨b, off, e, hB, fun i hi => ?_⟩
    obtain ⟨c0, c1, c2⟩ := hc i hi
    exact ⟨(hb.cell (p := ⟨b, _, none⟩) hB).trans c0, (hb.cell (p := ⟨b, _, none⟩) hB).trans c1, (hb.cell (p := ⟨b, _, none⟩) hB).trans c2⟩

theorem OpAt.mono {w : World} {B B' : Nat} {a : Option Addr} {len : Nat} {O : Ops} (h : OpAt w B a len O) (hB : B ≤ B') : OpAt w B' a len O := by
  rcases h with h | ⟨b, off, e, hb, hc⟩
  · exact .inl h
  · exact .inr ⟨b, off, e, by omega, hc⟩

/-- A row that lies lower stays as it is. -/
theorem OpAt.on {w w' : World} {B B' : Nat} {a : Option Addr} {len : Nat} {O : Ops} (h : OpAt w B a len O) (hb : Below B' w w') (hB : B ≤ B') : OpAt w' B' a len O := (h.mono hB).below hb

theorem OpAt.at {w : World} {B : Nat} {a : Option Addr} {len : Nat} {O : Ops} (h : OpAt w B a len O) {i : Nat} (hi : i < len) :
    ∃ b off, a = some ⟨b, off, none⟩ ∧ b < B ∧ w.cell? ⟨b, off + i * 3, none⟩ = some (.int .i64 (O.K i)) ∧ w.cell? ⟨b, off + i * 3 + 1, none⟩ = some (.string (O.U i)) ∧ w.cell? ⟨b, off + i * 3 + 2, none⟩ = some (.string (O.X i)) := by
  rcases h with h | ⟨b, off, e, hb, hc⟩
  · omega
  · exact ⟨b, off, e, hb, hc i hi⟩

theorem laws_szOp (k : Int) (u v : ByteArray) (l : Int) (hu : u.size ≤ maxLen) (hv : v.size ≤ maxLen) (hl : 0 ≤ l ∧ l ≤ 1048576) (w : World) :
    Calls Try.prog 54 #[.agg #[.int .i64 k, .string u, .string v], .int .i64 l] w fun e w' => e = .returned (.int .i64 (if l < u.size + v.size then -1 else l - u.size - v.size)) ∧ Below w.heap.size w w' := by
  obtain ⟨hl0, hl1⟩ := hl
  unfold maxLen at hv hu
  by_cases h : l < (u.size : Int)
  · have h0 : l - (u.size : Int) < 0 := by omega
    have h3 : l < (u.size : Int) + (v.size : Int) := by omega
    go_enter Try.func54, Try.ntmps54
    go_wp2
    go_ret
    exact ⟨rfl, by go_grown⟩
  · have h0 : ¬ (l - (u.size : Int) < 0) := by omega
    by_cases h2 : l - (u.size : Int) < (v.size : Int)
    · have h3 : l - (u.size : Int) - (v.size : Int) < 0 := by omega
      have h4 : l < (u.size : Int) + (v.size : Int) := by omega
      go_enter Try.func54, Try.ntmps54
      go_wp2
      go_ret
      exact ⟨rfl, by go_grown⟩
    · have h3 : ¬ (l - (u.size : Int) - (v.size : Int) < 0) := by omega
      have h4 : ¬ (l < (u.size : Int) + (v.size : Int)) := by omega
      go_enter Try.func54, Try.ntmps54
      go_wp2
      go_ret
      exact ⟨rfl, by go_grown⟩

set_option maxHeartbeats 1000000 in
/-- The size of what came in: below 0, or as much is left as there was at most. -/
theorem laws_szOpS (a : Option Addr) (len cap : Nat) (O : Ops) (l : Int) (w : World) (hl : len ≤ maxLen) (hs : ∀ i, i < len → (O.U i).size ≤ maxLen ∧ (O.X i).size ≤ maxLen) (h0 : 0 ≤ l) (h1 : l ≤ 1048576) (hS : OpAt w w.heap.size a len O) :
    Calls Try.prog 24 #[.slice a len cap, .int .i64 l] w fun e w' => (∃ r : Int, e = .returned (.int .i64 r) ∧ (r < 0 ∨ (0 ≤ r ∧ r ≤ l ∧ (len : Int) ≤ l))) ∧ Below w.heap.size w w' := by
  unfold maxLen at hl
  have HSz : Hid (∀ i, i < len → (O.U i).size ≤ maxLen ∧ (O.X i).size ≤ maxLen) := hs
  clear hs
  by_cases hbig : l < (len : Int)
  · have hx : l - (len : Int) < 0 := by omega
    go_enter Try.func24, Try.ntmps24
    go_wp2
    go_ret
    exact ⟨⟨-1, rfl, .inl (by omega)⟩, Below.refl _ _⟩
  · have hx : ¬ (l - (len : Int) < 0) := by omega
    have HS : Hid (OpAt w w.heap.size a len O) := hS
    have HB0 : Hid (Below w.heap.size w w) := Below.refl _ _
    clear hS
    go_enter Try.func24, Try.ntmps24
    go_wp2
    go_loopw [1, 5] (fun r i wr => ∃ (k : Nat) (x : Int), r = .int .i64 x ∧ i = .int .i64 k ∧ k ≤ len ∧ 0 ≤ x ∧ x + len ≤ l ∧ Hid (Below w.heap.size w wr)) (fun _ i _ => len - (intOf i).toNat)
    case atStart => exact ⟨0, l - len, rfl, rfl, by omega, by omega, by omega, HB0⟩
    case round =>
      obtain ⟨k, x, rfl, rfl, hk, hx0, hx1, HB⟩ := hrel
      clear HB0
      by_cases hlt : k < len
      · obtain ⟨b, off, rfl, hb, c0, c1, c2⟩ := (HS.out.below HB.out).at hlt
        obtain ⟨z1, z2⟩ := HSz.out k hlt
        unfold maxLen at z1 z2
        by_cases hneg : x < (O.U k).size + (O.X k).size
        · go_wp2_with fail
          refine (calls_from HB.out (laws_szOp (O.K k) (O.U k) (O.X k) x (by unfold maxLen; omega) (by unfold maxLen; omega) ⟨hx0, by omega⟩ _)).mono ?_
          rintro e w1 ⟨rfl, hB1⟩
          have HB1 : Hid _ := hB1
          clear hB1 c0 c1 c2
          go_wp2
          go_ret
          exact ⟨⟨-1, rfl, .inl (by omega)⟩, HB1⟩
        · have hneg' : ¬ (x - ((O.U k).size : Int) - ((O.X k).size : Int) < 0) := by omega
          go_wp2_with fail
          refine (calls_from HB.out (laws_szOp (O.K k) (O.U k) (O.X k) x (by unfold maxLen; omega) (by unfold maxLen; omega) ⟨hx0, by omega⟩ _)).mono ?_
          rintro e w1 ⟨rfl, hB1⟩
          have HB1 : Hid (Below w.heap.size w w1) := hB1
          clear hB1 c0 c1 c2
          go_wp2
          exact ⟨⟨k + 1, x - (O.U k).size - (O.X k).size, by rw [if_neg (by omega)], by go_num, by omega, by omega, by omega, HB1⟩, by simp [intOf]; omega⟩
      · obtain rfl : k = len := by omega
        go_wp2
        go_ret
        exact ⟨⟨x, rfl, Or.inr ⟨by omega, by omega⟩⟩, HB.out⟩

/-- Cell i of a row of ops. -/
def opCell (O : Ops) (i : Nat) : Value :=
  if i % 3 = 0 then .int .i64 (O.K (i / 3)) else if i % 3 = 1 then .string (O.U (i / 3)) else .string (O.X (i / 3))

theorem opCell0 (O : Ops) (k : Nat) : opCell O (k * 3) = .int .i64 (O.K k) := by
  unfold opCell; rw [if_pos (by omega), show k * 3 / 3 = k by omega]
theorem opCell1 (O : Ops) (k : Nat) : opCell O (k * 3 + 1) = .string (O.U k) := by
  unfold opCell; rw [if_neg (by omega), if_pos (by omega), show (k * 3 + 1) / 3 = k by omega]
theorem opCell2 (O : Ops) (k : Nat) : opCell O (k * 3 + 2) = .string (O.X k) := by
  unfold opCell; rw [if_neg (by omega), if_neg (by omega), show (k * 3 + 2) / 3 = k by omega]

theorem opAt_row {w : World} {g n : Nat} {t : TypeId} {O : Ops} (h : w.rowIs g t (n * 3) (opCell O)) {B : Nat} (hB : g < B) : OpAt w B (some ⟨g, 0, none⟩) n O := by
  refine .inr ⟨g, 0, rfl, hB, fun i hi => ⟨?_, ?_, ?_⟩⟩
  · rw [Nat.zero_add, h.cell (by omega), opCell0]
  · rw [Nat.zero_add, h.cell (by omega), opCell1]
  · rw [Nat.zero_add, h.cell (by omega), opCell2]

/-- The row while it is filled: the first k ops are there. -/
def fillOp (O : Ops) (k : Nat) (i : Nat) : Value := if i < k * 3 then opCell O i else (#[Value.int .i64 0, .string ⟨#[]⟩, .string ⟨#[]⟩] : Array Value)[i % 3]!

theorem fillOp_step {w : World} {g n k : Nat} {t : TypeId} {O : Ops} (h : w.rowIs g t n (fillOp O k)) :
    (((w.setCell ⟨g, k * 3, none⟩ (.int .i64 (O.K k))).setCell ⟨g, k * 3 + 1, none⟩ (.string (O.U k))).setCell ⟨g, k * 3 + 2, none⟩ (.string (O.X k))).rowIs g t n (fillOp O (k + 1)) := by
  refine (((h.set (k * 3) _).set (k * 3 + 1) _).set (k * 3 + 2) _).congr fun i _ => ?_
  by_cases e2 : i = k * 3 + 2
  · subst e2; rw [if_pos rfl, fillOp, if_pos (by omega), opCell2]
  · rw [if_neg e2]
    by_cases e1 : i = k * 3 + 1
    · subst e1; rw [if_pos rfl, fillOp, if_pos (by omega), opCell1]
    · rw [if_neg e1]
      by_cases e0 : i = k * 3
      · subst e0; rw [if_pos rfl, fillOp, if_pos (by omega), opCell0]
      · rw [if_neg e0]
        unfold fillOp
        by_cases hl : i < k * 3
        · rw [if_pos hl, if_pos (by omega)]
        · rw [if_neg hl, if_neg (by omega)]

theorem madeOp_row (w : World) (n : Nat) (t : TypeId) (O : Ops) : (w.alloc (.cells (madeCells #[Value.int .i64 0, .string ⟨#[]⟩, .string ⟨#[]⟩] (n * 3)) t)).rowIs w.heap.size t (n * 3) (fillOp O 0) := by
  have h := World.rowIs_alloc w (madeCells #[Value.int .i64 0, .string ⟨#[]⟩, .string ⟨#[]⟩] (n * 3)) t (fillOp O 0) (fun i hi => by
    rw [size_madeCells] at hi
    unfold fillOp madeCells
    rw [if_neg (by omega)]
    simp [hi])
  rwa [size_madeCells] at h

theorem laws_toOp (k : Int) (u v : ByteArray) (w : World) :
    Calls Try.prog 58 #[.agg #[.int .i64 k, .string u, .string v]] w fun e w' => e = .returned (.agg #[.int .i64 k, .string u, .string v]) ∧ Below w.heap.size w w' := by
  go_enter Try.func58, Try.ntmps58
  go_wp2
  refine bodyPost_ret (v := .agg #[.int .i64 k, .string u, .string v]) (by simp [results, Try.results58, go_sem]) rfl ⟨rfl, ?_⟩
  go_grown

set_option maxHeartbeats 1000000 in
set_option maxRecDepth 100000 in
/-- The copy that the laws make. -/
theorem laws_toOpS (a : Option Addr) (len cap : Nat) (O : Ops) (w : World) (hl : len ≤ 1048576) (hS : OpAt w w.heap.size a len O) :
    Calls Try.prog 28 #[.slice a len cap] w fun e w' => e = .returned (.slice (some ⟨w.heap.size, 0, none⟩) len len) ∧ w'.rowIs w.heap.size 66 (len * 3) (opCell O) ∧ Below w.heap.size w w' := by
  have hi : (Try.prog.info? 66).map (fun i => (i.zero, i.size, i.bytes)) = some (some (.agg #[.int .i64 0, .string ⟨#[]⟩, .string ⟨#[]⟩]), 3, 40) := by kernel_rfl
  obtain ⟨i0, hi0, hz0, hz1, hz2⟩ := info_parts hi
  have hmk : ∀ W : World, (Instr.makeSlice 28 (.int .i64 (len : Int)) (.int .i64 (len : Int))).run Try.prog W = .ok (.slice (some ⟨W.heap.size, 0, none⟩) len len) (W.alloc (.cells (madeCells #[Value.int .i64 0, .string ⟨#[]⟩, .string ⟨#[]⟩] (len * 3)) 66)) := fun W => by
    have := run_make (P := Try.prog) W 28 66 i0 _ Try.underlying28 hi0 hz0 .i64 .i64 len len (by omega) (Int.le_refl _) (by rw [hz2]; omega) (by omega)
    rw [hz1] at this
    simpa [Value.cells] using this
  have HR0 : Hid ((w.alloc (.cells (madeCells #[Value.int .i64 0, .string ⟨#[]⟩, .string ⟨#[]⟩] (len * 3)) 66)).rowIs w.heap.size 66 (len * 3) (fillOp O 0)) := madeOp_row w len _ O
  have HB0 : Hid (Below w.heap.size w (w.alloc (.cells (madeCells #[Value.int .i64 0, .string ⟨#[]⟩, .string ⟨#[]⟩] (len * 3)) 66))) := (Below.refl _ _).alloc (Nat.le_refl _) _
  have HS : Hid (OpAt w w.heap.size a len O) := hS
  clear hS hi hi0 hz0 hz1 hz2
  go_enter Try.func28, Try.ntmps28
  go_wp2
  generalize w.alloc (.cells (madeCells #[Value.int .i64 0, .string ⟨#[]⟩, .string ⟨#[]⟩] (len * 3)) 66) = w0 at HR0 HB0 ⊢
  clear hmk
  go_loopw [4] (fun i wr => ∃ k : Nat, i = .int .i64 k ∧ k ≤ len ∧ Hid (wr.rowIs w.heap.size 66 (len * 3) (fillOp O k)) ∧ Hid (Below w.heap.size w wr)) (fun i _ => len - (intOf i).toNat)
  case atStart => exact ⟨0, rfl, by omega, HR0, HB0⟩
  case round =>
    obtain ⟨k, rfl, hk, HR, HB⟩ := hrel
    clear HR0 HB0
    by_cases hlt : k < len
    · obtain ⟨b, off, rfl, hb, c0, c1, c2⟩ := (HS.out.below HB.out).at hlt
      have hlti : (k : Int) < (len : Int) := by omega
      go_wp2_with fail
      refine (laws_toOp (O.K k) (O.U k) (O.X k) _).mono ?_
      rintro e w1 ⟨rfl, hb1⟩
      have HR1 : Hid (w1.rowIs w.heap.size 66 (len * 3) (fillOp O k)) := entRow_below HR.out hb1 HR.out.lt
      have HB1 : Hid (Below w.heap.size w w1) := HB.out.trans (hb1.mono HB.out.size)
      have d0 := HR1.out.cell (i := k * 3) (by omega)
      have d1 := HR1.out.cell (i := k * 3 + 1) (by omega)
      have d2 := HR1.out.cell (i := k * 3 + 2) (by omega)
      have hfr := HR1.out.frozen
      have HR2 : Hid _ := fillOp_step HR1.out
      have HB2 : Hid _ := ((HB1.out.setCell (p := ⟨w.heap.size, k * 3, none⟩) (Nat.le_refl _) (.int .i64 (O.K k))).setCell (p := ⟨w.heap.size, k * 3 + 1, none⟩) (Nat.le_refl _) (.string (O.U k))).setCell (p := ⟨w.heap.size, k * 3 + 2, none⟩) (Nat.le_refl _) (.string (O.X k))
      clear hb1 HR HB c0 c1 c2 HR1 HB1
      generalize fillOp O k (k * 3) = v0 at d0
      generalize fillOp O k (k * 3 + 1) = v1 at d1
      generalize fillOp O k (k * 3 + 2) = v2 at d2
      go_wp2
      exact ⟨⟨k + 1, by go_num, by omega, HR2, HB2⟩, by simp [intOf]; omega⟩
    · obtain rfl : k = len := by omega
      go_wp2
      go_ret
      exact ⟨rfl, HR.out.congr fun i hi => by rw [fillOp, if_pos hi], HB.out⟩

theorem laws_eqOp (k : Int) (u v : ByteArray) (w : World) :
    Calls Try.prog 66 #[.agg #[.int .i64 k, .string u, .string v], .agg #[.int .i64 k, .string u, .string v]] w fun e w' => e = .returned (.bool true) ∧ Below w.heap.size w w' := by
  go_enter Try.func66, Try.ntmps66
  go_wp2
  go_ret
  exact ⟨rfl, by go_grown⟩

set_option maxHeartbeats 1000000 in
theorem laws_eqOpS (a b : Option Addr) (len ca cb : Nat) (O : Ops) (w : World) (hl : len ≤ 1048576) (ha : OpAt w w.heap.size a len O) (hb : OpAt w w.heap.size b len O) :
    Calls Try.prog 35 #[.slice a len ca, .slice b len cb] w fun e w' => e = .returned (.bool true) ∧ Below w.heap.size w w' := by
  have HA : Hid (OpAt w w.heap.size a len O) := ha
  have HB : Hid (OpAt w w.heap.size b len O) := hb
  clear ha hb
  have HB0 : Hid (Below w.heap.size w w) := Below.refl _ _
  go_enter Try.func35, Try.ntmps35
  go_wp2
  go_loopw [5] (fun i wr => ∃ k : Nat, i = .int .i64 k ∧ k ≤ len ∧ Hid (Below w.heap.size w wr)) (fun i _ => len - (intOf i).toNat)
  case atStart => exact ⟨0, rfl, by omega, HB0⟩
  case round =>
    obtain ⟨k, rfl, hk, HW⟩ := hrel
    clear HB0
    by_cases hlt : k < len
    · obtain ⟨b1, off1, rfl, hb1, c0, c1, c2⟩ := (HA.out.below HW.out).at hlt
      obtain ⟨b2, off2, rfl, hb2, d0, d1, d2⟩ := (HB.out.below HW.out).at hlt
      have hki : (k : Int) < (len : Int) := by omega
      have hstart : wr.drew.cell? ⟨b1, off1 + k * 3, none⟩ = some (.int .i64 (O.K k)) ∧ wr.drew.cell? ⟨b1, off1 + k * 3 + 1, none⟩ = some (.string (O.U k)) ∧ wr.drew.cell? ⟨b1, off1 + k * 3 + 2, none⟩ = some (.string (O.X k)) ∧
          wr.drew.cell? ⟨b2, off2 + k * 3, none⟩ = some (.int .i64 (O.K k)) ∧ wr.drew.cell? ⟨b2, off2 + k * 3 + 1, none⟩ = some (.string (O.U k)) ∧ wr.drew.cell? ⟨b2, off2 + k * 3 + 2, none⟩ = some (.string (O.X k)) ∧ Hid (Below w.heap.size w wr.drew) :=
        ⟨c0, c1, c2, d0, d1, d2, HW.out.drew⟩
      clear c0 c1 c2 d0 d1 d2
      go_wp2_with fail
      go_region_held3 (fun (w' : World) => w'.cell? ⟨b1, off1 + k * 3, none⟩ = some (.int .i64 (O.K k)) ∧ w'.cell? ⟨b1, off1 + k * 3 + 1, none⟩ = some (.string (O.U k)) ∧ w'.cell? ⟨b1, off1 + k * 3 + 2, none⟩ = some (.string (O.X k)) ∧
          w'.cell? ⟨b2, off2 + k * 3, none⟩ = some (.int .i64 (O.K k)) ∧ w'.cell? ⟨b2, off2 + k * 3 + 1, none⟩ = some (.string (O.U k)) ∧ w'.cell? ⟨b2, off2 + k * 3 + 2, none⟩ = some (.string (O.X k)) ∧ Hid (Below w.heap.size w w')) (assumption)
        ((go_at_call 66; refine (held_callE (S := fun (w' : World) => w'.cell? ⟨b1, off1 + k * 3, none⟩ = some (.int .i64 (O.K k)) ∧ w'.cell? ⟨b1, off1 + k * 3 + 1, none⟩ = some (.string (O.U k)) ∧ w'.cell? ⟨b1, off1 + k * 3 + 2, none⟩ = some (.string (O.X k)) ∧
          w'.cell? ⟨b2, off2 + k * 3, none⟩ = some (.int .i64 (O.K k)) ∧ w'.cell? ⟨b2, off2 + k * 3 + 1, none⟩ = some (.string (O.U k)) ∧ w'.cell? ⟨b2, off2 + k * 3 + 2, none⟩ = some (.string (O.X k)) ∧ Hid (Below w.heap.size w w'))
          (fun wa wb h hx => ⟨(hx.cell (p := ⟨b1, _, none⟩) (Nat.lt_of_lt_of_le hb1 h.2.2.2.2.2.2.out.size)).trans h.1, (hx.cell (p := ⟨b1, _, none⟩) (Nat.lt_of_lt_of_le hb1 h.2.2.2.2.2.2.out.size)).trans h.2.1, (hx.cell (p := ⟨b1, _, none⟩) (Nat.lt_of_lt_of_le hb1 h.2.2.2.2.2.2.out.size)).trans h.2.2.1, (hx.cell (p := ⟨b2, _, none⟩) (Nat.lt_of_lt_of_le hb2 h.2.2.2.2.2.2.out.size)).trans h.2.2.2.1, (hx.cell (p := ⟨b2, _, none⟩) (Nat.lt_of_lt_of_le hb2 h.2.2.2.2.2.2.out.size)).trans h.2.2.2.2.1, (hx.cell (p := ⟨b2, _, none⟩) (Nat.lt_of_lt_of_le hb2 h.2.2.2.2.2.2.out.size)).trans h.2.2.2.2.2.1, h.2.2.2.2.2.2.out.trans (hx.mono h.2.2.2.2.2.2.out.size)⟩)
          (by assumption) (laws_eqOp _ _ _ _)).mono ?_; rintro e w1 ⟨rfl, hS⟩))
      all_goals
        have HW2 : Hid (Below w.heap.size w w1) := hS.2.2.2.2.2.2
        clear hS hstart
        go_wp2
        exact ⟨⟨k + 1, by go_num, by omega, HW2⟩, by simp [intOf]; omega⟩
    · go_wp2
      go_ret
      exact ⟨rfl, HW.out⟩

end Go.Proofs.Ytonkjdjancnajad
