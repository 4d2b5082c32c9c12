/- BatchOk of the model; the copies that the laws make of a batch; batches that come in. -/
import Derived.Test.YtonkjdjancnajadBatch
import Derived.Test.YtonkjdjancnajadBox
namespace Go.Proofs.Ytonkjdjancnajad
set_option maxRecDepth 100000
open Go.RowKit Go.Deep

set_option maxHeartbeats 2000000 in
theorem spec_BatchOk (q : Int) (a : Option Addr) (len cap : Nat) (O : Ops) (w : World) (hl : len ≤ 1048576) (hS : OpAt w w.heap.size a len O) :
    Calls Try.prog 25 #[.agg #[.int .i64 q, .slice a len cap]] w fun e w' => e = .returned (.bool (batchOkB q len O)) ∧ Below w.heap.size w w' := by
  have cq := spec_l1In q 1 999999999980
  by_cases hr : 1 ≤ len ∧ len ≤ 20 ∧ 1 ≤ q ∧ q ≤ 999999999980
  · obtain ⟨r1, r2, r3, r4⟩ := hr
    have r1' : ¬ ((len : Int) < 1) := by omega
    have r2' : ¬ ((20 : Int) < (len : Int)) := by omega
    rw [show decide ((1 : Int) ≤ q ∧ q ≤ 999999999980) = true from decide_eq_true ⟨r3, r4⟩] at cq
    have HS : Hid (OpAt w w.heap.size a len O) := hS
    have HB0 : Hid (Below (w.alloc (.cells #[.int .i64 q, .slice a len cap] 30)).heap.size (w.alloc (.cells #[.int .i64 q, .slice a len cap] 30)) (w.alloc (.cells #[.int .i64 q, .slice a len cap] 30))) := Below.refl _ _
    clear hS
    go_enter Try.func25, Try.ntmps25
    go_wp2_with fail
    refine (cq _).mono ?_
    rintro e w1 ⟨rfl, rfl⟩
    clear cq
    go_wp2
    go_loopw [3] (fun i wr => ∃ k : Nat, i = .int .i64 k ∧ k ≤ len ∧ Hid (∀ i, i < k → entOk (opEnt O q) i = true) ∧ Hid (Below (w.alloc (.cells #[.int .i64 q, .slice a len cap] 30)).heap.size (w.alloc (.cells #[.int .i64 q, .slice a len cap] 30)) wr)) (fun i _ => len - (intOf i).toNat)
    case atStart => exact ⟨0, rfl, by omega, fun _ h => absurd h (by omega), HB0⟩
    case round =>
      obtain ⟨k, rfl, hk, HK, HW⟩ := hrel
      clear HB0
      obtain ⟨e0, e1⟩ := batch_box HW.out
      by_cases hlt : k < len
      · have hwB := below_of_alloc HW.out
        have HWB : Hid (Below w.heap.size w wr) := hwB
        have hz := hwB.size
        cases he : entOk (opEnt O q) k with
        | false =>
          have HV : Hid (false = batchOkB q len O) := (batchOk_ent k hlt he).symm
          have ce := fun wx => (show entryOkB (O.U k) (q + k) (O.K k) (O.X k) = false from he) ▸ spec_EntryOk (O.U k) (q + k) (O.K k) (O.X k) wx
          clear he hwB
          go_wp2_with fail
          refine (spec_l7Entry q a len cap O k _ hlt hl ⟨by omega, by omega⟩ ((HS.out.on HWB.out (by omega)).mono (by omega))).mono ?_
          rintro e w1 ⟨rfl, hb1⟩
          have HB1 : Hid (Below w.heap.size w w1) := HWB.out.trans (hb1.mono hz)
          clear e0 e1 hb1
          unfold entOut
          go_wp2_with fail
          refine (ce _).mono ?_
          rintro e w2 ⟨rfl, hb2⟩
          have HB2 : Hid (Below w.heap.size w w2) := HB1.out.trans (hb2.mono HB1.out.size)
          clear ce hb2
          go_wp2
          go_ret
          exact ⟨ret_boolE HV.out, HB2.out⟩
        | true =>
          have HK2 : Hid (∀ i, i < k + 1 → entOk (opEnt O q) i = true) := fun i hi => by
            rcases Nat.lt_or_eq_of_le (Nat.le_of_lt_succ hi) with h | h
            · exact HK.out i h
            · subst h; exact he
          have ce := fun wx => (show entryOkB (O.U k) (q + k) (O.K k) (O.X k) = true from he) ▸ spec_EntryOk (O.U k) (q + k) (O.K k) (O.X k) wx
          clear he hwB
          go_wp2_with fail
          refine (spec_l7Entry q a len cap O k _ hlt hl ⟨by omega, by omega⟩ ((HS.out.on HWB.out (by omega)).mono (by omega))).mono ?_
          rintro e w1 ⟨rfl, hb1⟩
          have HA1 : Hid (Below _ _ w1) := HW.out.trans (hb1.mono HW.out.size)
          clear e0 e1 hb1
          unfold entOut
          go_wp2_with fail
          refine (ce _).mono ?_
          rintro e w2 ⟨rfl, hb2⟩
          have HA2 : Hid (Below _ _ w2) := HA1.out.trans (hb2.mono HA1.out.size)
          clear ce hb2
          go_wp2
          exact ⟨⟨k + 1, by go_num, by omega, HK2, HA2⟩, by simp [intOf]; omega⟩
      · obtain rfl : k = len := by omega
        have HV : Hid (true = batchOkB q k O) := (batchOk_yes ⟨r1, r2, r3, r4⟩ HK.out).symm
        go_wp2
        go_ret
        exact ⟨ret_boolE HV.out, below_of_alloc HW.out⟩
  · have HV : Hid (false = batchOkB q len O) := (batchOk_no hr).symm
    by_cases r1 : (len : Int) < 1
    · go_enter Try.func25, Try.ntmps25
      go_wp2
      go_ret
      exact ⟨ret_boolE HV.out, by go_grown⟩
    by_cases r2 : (20 : Int) < (len : Int)
    · go_enter Try.func25, Try.ntmps25
      go_wp2
      go_ret
      exact ⟨ret_boolE HV.out, by go_grown⟩
    rw [show decide ((1 : Int) ≤ q ∧ q ≤ 999999999980) = false from decide_eq_false (by omega)] at cq
    go_enter Try.func25, Try.ntmps25
    go_wp2_with fail
    refine (cq _).mono ?_
    rintro e w1 ⟨rfl, rfl⟩
    clear cq
    go_wp2
    go_ret
    exact ⟨ret_boolE HV.out, by go_grown⟩

theorem laws_szBatch (q : Int) (a : Option Addr) (len cap : Nat) (O : Ops) (l : Int) (w : World) (hl : len ≤ maxLen) (hs : ∀ i, i < len → (O.U i).size ≤ maxLen ∧ (O.X i).size ≤ maxLen) (h0 : 0 ≤ l) (h1 : l ≤ 1048576) (hS : OpAt w w.heap.size a len O) :
    Calls Try.prog 5 #[.agg #[.int .i64 q, .slice a len cap], .int .i64 l] w fun e w' => (∃ r : Int, e = .returned (.int .i64 r) ∧ (r < 0 ∨ (0 ≤ r ∧ r ≤ l ∧ (len : Int) ≤ l))) ∧ Below w.heap.size w w' := by
  have hS' : OpAt (w.alloc (.cells #[.int .i64 q, .slice a len cap] 24)) (w.alloc (.cells #[.int .i64 q, .slice a len cap] 24)).heap.size a len O := (hS.below ((Below.refl _ _).alloc (Nat.le_refl _) _)).mono (by simp)
  go_enter Try.func5, Try.ntmps5
  go_wp2_with fail
  refine (laws_szOpS a len cap O l _ hl hs h0 h1 hS').mono ?_
  rintro e w1 ⟨⟨r, rfl, hr⟩, hB⟩
  have HB : Hid (Below w.heap.size w w1) := below_of_alloc hB
  clear hB hS' hS
  rcases hr with hr | ⟨hr0, hr1, hr2⟩
  · go_wp2
    go_ret
    exact ⟨⟨-1, rfl, .inl (by omega)⟩, HB.out⟩
  · have hr3 : ¬ (r < 0) := by omega
    go_wp2
    go_ret
    exact ⟨⟨r, rfl, Or.inr ⟨hr0, hr1, hr2⟩⟩, HB.out⟩

/-- The copy that the laws make: a box of its own row. -/
theorem laws_toBatch (q : Int) (a : Option Addr) (len cap : Nat) (O : Ops) (w : World) (hl : len ≤ 1048576) (hS : OpAt w w.heap.size a len O) :
    Calls Try.prog 7 #[.agg #[.int .i64 q, .slice a len cap]] w fun e w' => ∃ g, e = .returned (.agg #[.int .i64 q, .slice (some ⟨g, 0, none⟩) len len]) ∧ w.heap.size ≤ g ∧ w'.rowIs g 66 (len * 3) (opCell O) ∧ Below w.heap.size w w' := by
  have HS : Hid (OpAt w w.heap.size a len O) := hS
  clear hS
  have hB0 : Below w.heap.size w (((w.alloc (.cells #[.int .i64 q, .slice a len cap] 24)).alloc (.cells #[.int .i64 0, .slice none 0 0] 30)).alloc (.cells #[.int .i64 q, .slice none 0 0] 30)) :=
    (((Below.refl _ _).alloc (Nat.le_refl _) _).alloc (by simp) _).alloc (by simp; omega) _
  have b1 : BoxIs (((w.alloc (.cells #[.int .i64 q, .slice a len cap] 24)).alloc (.cells #[.int .i64 0, .slice none 0 0] 30)).alloc (.cells #[.int .i64 q, .slice none 0 0] 30)) (w.heap.size + 1) #[.int .i64 0, .slice none 0 0] 30 :=
    (BoxIs.new (w.alloc (.cells #[.int .i64 q, .slice a len cap] 24)) _ _ (by simp)).next ((Below.refl _ _).alloc (Nat.le_refl _) _)
  have b2 : BoxIs (((w.alloc (.cells #[.int .i64 q, .slice a len cap] 24)).alloc (.cells #[.int .i64 0, .slice none 0 0] 30)).alloc (.cells #[.int .i64 q, .slice none 0 0] 30)) (w.heap.size + 2) #[.int .i64 q, .slice none 0 0] 30 :=
    BoxIs.new _ _ _ (by simp)
  go_enter Try.func7, Try.ntmps7
  go_wp2_with fail
  generalize ((w.alloc (.cells #[.int .i64 q, .slice a len cap] 24)).alloc (.cells #[.int .i64 0, .slice none 0 0] 30)).alloc (.cells #[.int .i64 q, .slice none 0 0] 30) = W at hB0 b1 b2 ⊢
  have hz1 := b1.lt
  have hz2 := b2.lt
  refine (laws_toOpS a len cap O W hl ((HS.out.on hB0 (Nat.le_refl _)).mono hB0.size)).mono ?_
  rintro e w1 ⟨rfl, hrow, hB1⟩
  have HR : Hid (w1.rowIs W.heap.size 66 (len * 3) (opCell O)) := hrow
  have HB1 : Hid (Below w.heap.size w w1) := hB0.trans (hB1.mono hB0.size)
  have k1 := b1.next hB1
  have k2 := b2.next hB1
  have x0 : w1.cell? ⟨w.heap.size + 1, 0, none⟩ = some (.int .i64 0) := k1.cell 0
  have x1 : w1.cell? ⟨w.heap.size + 1, 1, none⟩ = some (.slice none 0 0) := k1.cell 1
  have xf := k1.free
  have y0 : w1.cell? ⟨w.heap.size + 1 + 1, 0, none⟩ = some (.int .i64 q) := k2.cell 0
  have y1 : w1.cell? ⟨w.heap.size + 1 + 1, 1, none⟩ = some (.slice none 0 0) := k2.cell 1
  have yf := k2.free
  have hg : w.heap.size ≤ W.heap.size := hB0.size
  have hne : W.heap.size ≠ w.heap.size + 1 := by omega
  have hne2 : W.heap.size ≠ w.heap.size + 1 + 1 := by omega
  clear hrow hB1 k1 k2 b1 b2 hB0
  go_wp2
  refine bodyPost_ret (v := .agg #[.int .i64 q, .slice (some ⟨W.heap.size, 0, none⟩) len len]) (by simp [results, Try.results7, go_sem, x0, x1]) rfl ⟨W.heap.size, rfl, hg, ?_, ?_⟩
  · refine HR.out.of_block ?_
    rw [Below.heap_setCell _ _ _ _ (by simpa using hne), Below.heap_setCell _ _ _ _ (by simpa using hne), Below.heap_setCell _ _ _ _ (by simpa using hne2)]
  · exact ((HB1.out.setCell (by simp; omega) _).setCell (by simp) _).setCell (by simp) _

/-- A box of a batch. -/
def BatAt (w : World) (F : Nat) (q : Int) (s : Value) : Prop := BoxIs w F #[.int .i64 q, s] 30

theorem laws_eqBatch (q : Int) (a b : Option Addr) (len ca cb : Nat) (O : Ops) (w : World) (hl : len ≤ 1048576) (ha : OpAt w w.heap.size a len O) (hb : OpAt w w.heap.size b len O) :
    Calls Try.prog 10 #[.agg #[.int .i64 q, .slice a len ca], .agg #[.int .i64 q, .slice b len cb]] w fun e w' => e = .returned (.bool true) ∧ Below w.heap.size w w' := by
  have hB0 : Below w.heap.size w ((w.alloc (.cells #[.int .i64 q, .slice a len ca] 30)).alloc (.cells #[.int .i64 q, .slice b len cb] 30)) := ((Below.refl _ _).alloc (Nat.le_refl _) _).alloc (by simp) _
  have HA : Hid (OpAt w w.heap.size a len O) := ha
  have HB : Hid (OpAt w w.heap.size b len O) := hb
  clear ha hb
  go_enter Try.func10, Try.ntmps10
  go_wp2_with fail
  generalize (w.alloc (.cells #[.int .i64 q, .slice a len ca] 30)).alloc (.cells #[.int .i64 q, .slice b len cb] 30) = W at hB0 ⊢
  refine (laws_eqOpS a b len ca cb O W hl ((HA.out.on hB0 (Nat.le_refl _)).mono hB0.size) ((HB.out.on hB0 (Nat.le_refl _)).mono hB0.size)).mono ?_
  rintro e w1 ⟨rfl, hB1⟩
  have hB2 := hB0.trans (hB1.mono hB0.size)
  go_wp2
  go_ret
  exact ⟨rfl, hB2⟩

/-- What came in: a batch, its texts within reach. -/
def IsBatch (W : World) (v : Value) : Prop := ∃ q a len cap O, v = .agg #[.int .i64 q, .slice a len cap] ∧ len ≤ maxLen ∧ OpAt W W.heap.size a len O ∧ ∀ i, i < len → (O.U i).size ≤ maxLen ∧ (O.X i).size ≤ maxLen

theorem op_trod {H : Type} {enc : TypeId × Value → H} {w : World} {base : Nat} {spare : Nat → Bool} {held : Bool} {fuel : Nat} {cs : List Value} {x : DataW H × List MemPlace}
    (h : DataW.trod enc Try.prog w base spare held fuel 84 cs = some x) : ∃ (k : Int) (u : ByteArray) (v : ByteArray), cs = [.int .i64 k, .string u, .string v] ∧ u.size ≤ maxLen ∧ v.size ≤ maxLen := by
  have hc : Try.prog.cellsOf 84 = 3 := by kernel_rfl
  have hc9 : Try.prog.cellsOf 9 = 1 := by kernel_rfl
  have hc2 : Try.prog.cellsOf 2 = 1 := by kernel_rfl
  obtain ⟨xs, n, _, _, hl, hxl, hf⟩ := DataW.trod_struct Try.underlying84 h
  rw [hc] at hl
  obtain ⟨c0, c1, c2, rfl⟩ : ∃ c0 c1 c2, cs = [c0, c1, c2] := by
    match cs, hl with
    | [c0, c1, c2], _ => exact ⟨c0, c1, c2, rfl⟩
  obtain ⟨x0, x1, x2, rfl⟩ : ∃ x0 x1 x2, xs = [x0, x1, x2] := by
    match xs, hxl with
    | [x0, x1, x2], _ => exact ⟨x0, x1, x2, rfl⟩
  have f0 : DataW.trod enc Try.prog w base spare held n 2 (List.take (Try.prog.cellsOf 2) [c0, c1, c2]) = some x0 := hf 0 _ rfl
  have f1 : DataW.trod enc Try.prog w base spare held n 9 (List.take (Try.prog.cellsOf 9) [c1, c2]) = some x1 := hf 1 _ rfl
  have f2 : DataW.trod enc Try.prog w base spare held n 9 (List.take (Try.prog.cellsOf 9) [c2]) = some x2 := hf 2 _ rfl
  rw [hc2] at f0
  rw [hc9] at f1 f2
  obtain ⟨k, e0, _, _⟩ := DataW.trod_int Try.underlying2 f0
  obtain ⟨u, e1, _, hu⟩ := DataW.trod_string Try.underlying9 f1
  obtain ⟨v, e2, _, hv⟩ := DataW.trod_string Try.underlying9 f2
  simp at e0 e1 e2
  subst e0 e1 e2
  exact ⟨k, u, v, rfl, hu, hv⟩

/-- A slice of ops that came in. -/
theorem ops_trod {H : Type} {enc : TypeId × Value → H} {w : World} {base : Nat} {spare : Nat → Bool} {held : Bool} {fuel : Nat} {cs : List Value} {y : DataW H × List MemPlace}
    (hf : DataW.trod enc Try.prog w base spare held fuel 22 cs = some y) : ∃ a len cap O, cs = [.slice a len cap] ∧ len ≤ maxLen ∧ OpAt w w.heap.size a len O ∧ ∀ i, i < len → (O.U i).size ≤ maxLen ∧ (O.X i).size ≤ maxLen := by
  have hc4 : Try.prog.cellsOf 84 = 3 := by kernel_rfl
  rcases open_slice Try.underlying22 hf with ⟨hcs, _⟩ | ⟨x, l, c, m, n, D, Pl, hcs, _, hl, hm, hmm, _, hx⟩
  · exact ⟨none, 0, 0, ⟨fun _ => 0, fun _ => ByteArray.empty, fun _ => ByteArray.empty⟩, hcs, Nat.zero_le _, .inl rfl, fun _ h => absurd h (by omega)⟩
  · have hlm : l ≤ m := by rw [hmm]; split <;> omega
    rw [hc4] at hx
    obtain ⟨b, off, spot⟩ := x
    have each : ∀ i, i < m → ∃ q : Int × ByteArray × ByteArray, w.cell? ⟨b, off + i * 3, none⟩ = some (.int .i64 q.1) ∧ w.cell? ⟨b, off + i * 3 + 1, none⟩ = some (.string q.2.1) ∧ w.cell? ⟨b, off + i * 3 + 2, none⟩ = some (.string q.2.2) ∧ q.2.1.size ≤ maxLen ∧ q.2.2.size ≤ maxLen ∧ spot = none := fun i hi => by
      obtain ⟨cs', h1, h2⟩ := hx i hi
      obtain ⟨_, _, hcell⟩ := World.cells?_some h1
      obtain ⟨k, u, x, rfl, hu, hxs⟩ := op_trod h2
      have e0 := hcell 0 (by omega)
      have e1 := hcell 1 (by omega)
      have e2 := hcell 2 (by omega)
      have hspot : spot = none := by
        have hx0 := (World.cells?_some (hx 0 (by omega)).choose_spec.1).2.2 0 (by omega)
        obtain ⟨k', u', x', hcs, _, _⟩ := op_trod (hx 0 (by omega)).choose_spec.2
        rw [hcs] at hx0
        have hx1 : w.cell? ⟨b, off, spot⟩ = some (.int .i64 k') := by simpa [Addr.add] using hx0
        simpa using World.cell?_spot hx1
      subst hspot
      rw [Addr.add_lit, Addr.add_lit] at e0 e1 e2
      exact ⟨(k, u, x), by simpa using e0, by simpa using e1, by simpa using e2, hu, hxs, rfl⟩
    obtain ⟨q, hq⟩ := choose_lt each
    refine ⟨_, _, _, ⟨fun i => (q i).1, fun i => (q i).2.1, fun i => (q i).2.2⟩, hcs, by omega, ?_, fun i hi => ⟨(hq i (by omega)).2.2.2.1, (hq i (by omega)).2.2.2.2.1⟩⟩
    rcases Nat.eq_zero_or_pos l with h0 | h0
    · exact .inl h0
    · have hspot : spot = none := (hq 0 (by omega)).2.2.2.2.2
      subst hspot
      have hb : b < w.heap.size := World.block_lt_of_cell? w ⟨b, off + 0 * 3, none⟩ (hq 0 (by omega)).1
      exact .inr ⟨b, off, rfl, hb, fun i hi => ⟨(hq i (by omega)).1, (hq i (by omega)).2.1, (hq i (by omega)).2.2.1⟩⟩

theorem open_batch {H : Type} {enc : TypeId × Value → H} {w : World} {r : Reach} {b0 base : Nat} {spare : Nat → Bool} {held : Bool} {v : Value} {d : DataW H} {p : List MemPlace}
    (hv : Value.okWide Try.prog w r b0 24 v) (h : DataW.Trod enc Try.prog w base spare held 24 v d p) : IsBatch w v := by
  have hc : Try.prog.cellsOf 24 = 2 := by kernel_rfl
  have hc1 : Try.prog.cellsOf 22 = 1 := by kernel_rfl
  have hc2 : Try.prog.cellsOf 2 = 1 := by kernel_rfl
  obtain ⟨cs, rfl, hsz⟩ := WideShapes.okWide_struct Try.underlying24 hv
  obtain ⟨fuel, hf⟩ := h
  obtain ⟨xs, n, _, _, hl, hxl, hf2⟩ := DataW.trod_struct Try.underlying24 hf
  rw [hc] at hl
  obtain ⟨c0, c1, hcs⟩ : ∃ c0 c1, (Value.agg cs).cells.toList = [c0, c1] := by
    match h : (Value.agg cs).cells.toList, hl with
    | [c0, c1], _ => exact ⟨c0, c1, rfl⟩
  rw [hcs] at hf2
  obtain ⟨x0, x1, rfl⟩ : ∃ x0 x1, xs = [x0, x1] := by
    match xs, hxl with
    | [x0, x1], _ => exact ⟨x0, x1, rfl⟩
  have f0 : DataW.trod enc Try.prog w base spare held n 2 (List.take (Try.prog.cellsOf 2) [c0, c1]) = some x0 := hf2 0 _ rfl
  have f1 : DataW.trod enc Try.prog w base spare held n 22 (List.take (Try.prog.cellsOf 22) [c1]) = some x1 := hf2 1 _ rfl
  rw [hc2] at f0
  rw [hc1] at f1
  obtain ⟨q, e0, _, _⟩ := DataW.trod_int Try.underlying2 f0
  obtain ⟨a, len, cap, O, e1, h1, h2, h3⟩ := ops_trod f1
  simp at e0 e1
  subst e0 e1
  have : cs = #[.int .i64 q, .slice a len cap] := Array.toList_inj.1 (by simpa [Value.cells] using hcs)
  subst this
  exact ⟨q, a, len, cap, O, rfl, h1, h2, h3⟩

end Go.Proofs.Ytonkjdjancnajad
