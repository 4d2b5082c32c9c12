/- eqRunS, the opening of a row of runs, RunsOk of both and its law. (By gen_runs.py.) -/
import Derived.Test.YtfnhlccpkommoaaRuns
import Derived.Test.YtfnhlccpkommoaaEntsOkS
namespace Go.Proofs.Ytfnhlccpkommoaa
set_option maxRecDepth 100000
open Go.RowKit Go.Deep

set_option linter.unusedVariables false in
set_option maxHeartbeats 1000000 in
theorem laws_eqRunS (a b : Option Addr) (n ca cb : Nat) (R : RunsC) (w : World) (hf : RunFit n R) (ha : RunAt w w.heap.size a n R) (hb : RunAt w w.heap.size b n R) :
    Calls Try.prog 27 #[.slice a n ca, .slice b n cb] w fun e w' => e = .returned (.bool true) ∧ Below w.heap.size w w' := by
  have HA := ha.hid
  have HB := hb.hid
  obtain ⟨hn, hl⟩ := hf
  have HL := hide hl
  clear ha hb hl
  have HB0 : Hid (Below w.heap.size w w) := Below.refl _ _
  go_enter Try.func27, Try.ntmps27
  go_wp2
  go_loopw [5] (fun i wr => ∃ k : Nat, i = .int .i64 k ∧ k ≤ n ∧ Hid (Below w.heap.size w wr)) (fun i _ => n - (intOf i).toNat)
  case atStart => exact ⟨0, rfl, by omega, HB0⟩
  case round =>
    obtain ⟨k, rfl, hk, HW⟩ := hrel
    clear HB0
    by_cases hlt : k < n
    · obtain ⟨b1, off1, x1, c1, rfl, hb1, CA, EA⟩ := (HA.out.next HW.out).at hlt
      obtain ⟨b2, off2, x2, c2, rfl, hb2, CB, EB⟩ := (HB.out.next HW.out).at hlt
      have hki : (k : Int) < (n : Int) := by omega
      have hlk := HL.out k hlt
      have EW := HW.out
      have HEA := EA.hid
      have HEB := EB.hid
      have HCA := hide CA
      have HCB := hide CB
      have HEW := hide EW
      clear HW EA EB CA CB EW
      go_wp2_with fail
      obtain ⟨EA, EB, CA, CB, EW⟩ : _ ∧ _ ∧ _ ∧ _ ∧ _ := ⟨HEA.out, HEB.out, HCA.out, HCB.out, HEW.out⟩
      clear HEA HEB HCA HCB HEW
      refine wp_region_noPanic ?_
      have hb0 : Below wr.heap.size wr wr.drew := (Below.refl _ _).drew
      have EW_0 := EW.trans (hb0.mono EW.size)
      have CA_0 := keepc hb0 CA
      have CB_0 := keepc hb0 CB
      have EA_0 := EA.next hb0
      have EB_0 := EB.next hb0
      refine wp_region_held_drew (S := fun x => x.cell? ⟨b1, off1 + k, none⟩ = some (.slice x1 (R.L k) c1) ∧ x.cell? ⟨b2, off2 + k, none⟩ = some (.slice x2 (R.L k) c2)) (by kernel_rfl) ⟨CA_0, CB_0⟩ (fun _ => ?_)
      clear CA CB EA EB EW
      generalize wr.drew = wq0 at hb0 EW_0 CA_0 CB_0 EA_0 EB_0 ⊢
      clear hb0
      refine wpAnyH_take (i := 0) (v := .slice (some ⟨b1, off1, none⟩) n ca) nat0 (by kernel_rfl) (by kernel_rfl) (by kernel_rfl) (fun _ _ _ h => False.elim h) (Or.inl ⟨by rfl, ?_⟩) ⟨CA_0, CB_0⟩ ?_
      · intro wx hSw
        go_simp
      simp only [Act.put, List.setIfInBounds_toArray, List.set_cons_zero, List.set_cons_succ]
      refine wpAnyH_take (i := 1) (v := .int .i64 (k : Int)) nat1 (by kernel_rfl) (by kernel_rfl) (by kernel_rfl) (fun _ _ _ h => False.elim h) (Or.inl ⟨by rfl, ?_⟩) ⟨CA_0, CB_0⟩ ?_
      · intro wx hSw
        go_simp
      simp only [Act.put, List.setIfInBounds_toArray, List.set_cons_zero, List.set_cons_succ]
      refine wpAnyH_take (i := 2) (v := .pointer (some ⟨b1, off1 + k, none⟩)) nat2 (by kernel_rfl) (by kernel_rfl) (by kernel_rfl) (fun _ _ _ h => False.elim h) (Or.inl ⟨by rfl, ?_⟩) ⟨CA_0, CB_0⟩ ?_
      · intro wx hSw
        go_simp
      simp only [Act.put, List.setIfInBounds_toArray, List.set_cons_zero, List.set_cons_succ]
      refine wpAnyH_take (i := 3) (v := .agg #[.slice x1 (R.L k) c1]) nat3 (by kernel_rfl) (by kernel_rfl) (by kernel_rfl) (fun _ _ _ h => False.elim h) (Or.inl ⟨by rfl, ?_⟩) ⟨CA_0, CB_0⟩ ?_
      · intro wx hSw
        have e0 := hSw.1
        go_simp
      simp only [Act.put, List.setIfInBounds_toArray, List.set_cons_zero, List.set_cons_succ]
      refine wpAnyH_take (i := 4) (v := .slice (some ⟨b2, off2, none⟩) n cb) nat4 (by kernel_rfl) (by kernel_rfl) (by kernel_rfl) (fun _ _ _ h => False.elim h) (Or.inl ⟨by rfl, ?_⟩) ⟨CA_0, CB_0⟩ ?_
      · intro wx hSw
        go_simp
      simp only [Act.put, List.setIfInBounds_toArray, List.set_cons_zero, List.set_cons_succ]
      refine wpAnyH_take (i := 5) (v := .int .i64 (k : Int)) nat5 (by kernel_rfl) (by kernel_rfl) (by kernel_rfl) (fun _ _ _ h => False.elim h) (Or.inl ⟨by rfl, ?_⟩) ⟨CA_0, CB_0⟩ ?_
      · intro wx hSw
        go_simp
      simp only [Act.put, List.setIfInBounds_toArray, List.set_cons_zero, List.set_cons_succ]
      refine wpAnyH_take (i := 6) (v := .pointer (some ⟨b2, off2 + k, none⟩)) nat6 (by kernel_rfl) (by kernel_rfl) (by kernel_rfl) (fun _ _ _ h => False.elim h) (Or.inl ⟨by rfl, ?_⟩) ⟨CA_0, CB_0⟩ ?_
      · intro wx hSw
        go_simp
      simp only [Act.put, List.setIfInBounds_toArray, List.set_cons_zero, List.set_cons_succ]
      refine wpAnyH_take (i := 7) (v := .agg #[.slice x2 (R.L k) c2]) nat7 (by kernel_rfl) (by kernel_rfl) (by kernel_rfl) (fun _ _ _ h => False.elim h) (Or.inl ⟨by rfl, ?_⟩) ⟨CA_0, CB_0⟩ ?_
      · intro wx hSw
        have e0 := hSw.2
        go_simp
      simp only [Act.put, List.setIfInBounds_toArray, List.set_cons_zero, List.set_cons_succ]
      refine wpAnyH_ready (rs := [8]) (by kernel_rfl) (by simp) ?_
      refine AllReadyH.cons nat8 (fun K hK => ?_) AllReadyH.nil
      go_simp
      go_at_call 53
      refine (laws_eqRun x1 x2 (R.L k) c1 c2 (R.E k) wq0 hlk EA_0 EB_0).mono ?_
      rintro e wq1 ⟨rfl, hb1⟩
      have EW_1 := EW_0.trans (hb1.mono EW_0.size)
      have CA_1 := keepc hb1 CA_0
      have CB_1 := keepc hb1 CB_0
      have EA_1 := EA_0.next hb1
      have EB_1 := EB_0.next hb1
      refine hK.out _ _ ⟨CA_1, CB_1⟩ (fun _ => ?_)
      clear hK K hb1 CA_0 CB_0 EA_0 EB_0 EW_0
      refine wpAnyH_take (i := 9) (v := .bool false) nat9 (by kernel_rfl) (by kernel_rfl) (by kernel_rfl) (fun _ _ _ h => False.elim h) (Or.inl ⟨by rfl, ?_⟩) ⟨CA_1, CB_1⟩ ?_
      · intro wx hSw
        go_simp
      simp only [Act.put, List.setIfInBounds_toArray, List.set_cons_zero, List.set_cons_succ]
      refine wpAnyH_done (by kernel_rfl) ?_ _
      refine NoPanic.normal ?_
      have HW2 := hide EW_1
      clear CA_1 CB_1 EA_1 EB_1 EW_1
      go_wp2
      exact ⟨⟨k + 1, by go_num, by omega, HW2⟩, by simp [intOf]; omega⟩
    · go_wp2
      go_ret
      exact ⟨rfl, HW.out⟩

/-- What came in: runs. -/
def IsRuns (W : World) (v : Value) : Prop := ∃ a n cap R, v = .slice a n cap ∧ n ≤ maxLen ∧ RunAt W W.heap.size a n R ∧ ∀ i, i < n → EntSm (R.L i) (R.E i)

theorem ents_trod {H : Type} {enc : TypeId × Value → H} {w : World} {base : Nat} {spare : Nat → Bool} {held : Bool} {fuel : Nat} {cs : List Value} {y : DataW H × List MemPlace}
    (hf : DataW.trod enc Try.prog w base spare held fuel 22 cs = some y) : ∃ a len cap E, cs = [.slice a len cap] ∧ EntAt w w.heap.size a len E ∧ EntSm len E := by
  have hc4 : Try.prog.cellsOf 61 = 4 := by kernel_rfl
  rcases open_slice Try.underlying22 hf with ⟨hcs, _⟩ | ⟨x, l, c, m, n, D, Pl, hcs, _, hl, hm, hmm, _, hx⟩
  · exact ⟨none, 0, 0, ⟨fun _ => ByteArray.empty, fun _ => 0, fun _ => 0, fun _ => ByteArray.empty⟩, hcs, .inl rfl, Nat.zero_le _, fun _ h => absurd h (by omega)⟩
  · have hlm : l ≤ m := by rw [hmm]; split <;> omega
    rw [hc4] at hx
    obtain ⟨b, off, spot⟩ := x
    have each : ∀ i, i < m → ∃ q : ByteArray × Int × Int × ByteArray, w.cell? ⟨b, off + i * 4, none⟩ = some (.string q.1) ∧ w.cell? ⟨b, off + i * 4 + 1, none⟩ = some (.int .i64 q.2.1) ∧ w.cell? ⟨b, off + i * 4 + 2, none⟩ = some (.int .i64 q.2.2.1) ∧ w.cell? ⟨b, off + i * 4 + 3, none⟩ = some (.string q.2.2.2) ∧ q.1.size ≤ maxLen ∧ q.2.2.2.size ≤ maxLen ∧ spot = none := fun i hi => by
      obtain ⟨cs', h1, h2⟩ := hx i hi
      obtain ⟨_, _, hcell⟩ := World.cells?_some h1
      obtain ⟨u, q, k, x, rfl, hu, hxs⟩ := entry_trod h2
      have e0 := hcell 0 (by omega)
      have e1 := hcell 1 (by omega)
      have e2 := hcell 2 (by omega)
      have e3 := hcell 3 (by omega)
      have hspot : spot = none := by
        have hx0 := (World.cells?_some (hx 0 (by omega)).choose_spec.1).2.2 0 (by omega)
        obtain ⟨u', q', k', x', hcs, _, _⟩ := entry_trod (hx 0 (by omega)).choose_spec.2
        rw [hcs] at hx0
        have hx1 : w.cell? ⟨b, off, spot⟩ = some (.string u') := by simpa [Addr.add] using hx0
        simpa using World.cell?_spot hx1
      subst hspot
      rw [Addr.add_lit, Addr.add_lit] at e0 e1 e2 e3
      exact ⟨(u, q, k, x), by simpa using e0, by simpa using e1, by simpa using e2, by simpa using e3, hu, hxs, rfl⟩
    obtain ⟨q, hq⟩ := choose_lt each
    refine ⟨_, _, _, ⟨fun i => (q i).1, fun i => (q i).2.1, fun i => (q i).2.2.1, fun i => (q i).2.2.2⟩, hcs, ?_, by omega, fun i hi => ⟨(hq i (by omega)).2.2.2.2.1, (hq i (by omega)).2.2.2.2.2.1⟩⟩
    rcases Nat.eq_zero_or_pos l with h0 | h0
    · exact .inl h0
    · have hspot : spot = none := (hq 0 (by omega)).2.2.2.2.2.2
      subst hspot
      have hb : b < w.heap.size := World.block_lt_of_cell? w ⟨b, off + 0 * 4, none⟩ (hq 0 (by omega)).1
      exact .inr ⟨b, off, rfl, hb, fun i hi => ⟨(hq i (by omega)).1, (hq i (by omega)).2.1, (hq i (by omega)).2.2.1, (hq i (by omega)).2.2.2.1⟩⟩

theorem run_trod {H : Type} {enc : TypeId × Value → H} {w : World} {base : Nat} {spare : Nat → Bool} {held : Bool} {fuel : Nat} {cs : List Value} {y : DataW H × List MemPlace}
    (h : DataW.trod enc Try.prog w base spare held fuel 78 cs = some y) : ∃ a len cap E, cs = [.slice a len cap] ∧ EntAt w w.heap.size a len E ∧ EntSm len E := by
  have hc : Try.prog.cellsOf 78 = 1 := by kernel_rfl
  have hc1 : Try.prog.cellsOf 22 = 1 := by kernel_rfl
  obtain ⟨xs, n, _, _, hl, hxl, hf⟩ := DataW.trod_struct Try.underlying78 h
  rw [hc] at hl
  obtain ⟨c0, rfl⟩ : ∃ c0, cs = [c0] := by
    match cs, hl with
    | [c0], _ => exact ⟨c0, rfl⟩
  obtain ⟨x0, rfl⟩ : ∃ x0, xs = [x0] := by
    match xs, hxl with
    | [x0], _ => exact ⟨x0, rfl⟩
  have f0 : DataW.trod enc Try.prog w base spare held n 22 (List.take (Try.prog.cellsOf 22) [c0]) = some x0 := hf 0 _ rfl
  rw [hc1] at f0
  exact ents_trod f0

theorem open_runs {H : Type} {enc : TypeId × Value → H} {w : World} {r : Reach} {b0 base : Nat} {spare : Nat → Bool} {held : Bool} {v : Value} {d : DataW H} {p : List MemPlace}
    (hv : Value.okWide Try.prog w r b0 39 v) (h : DataW.Trod enc Try.prog w base spare held 39 v d p) : IsRuns w v := by
  obtain ⟨a, len, cap, rfl⟩ := WideShapes.okWide_slice Try.underlying39 hv
  obtain ⟨fuel, hf⟩ := h
  have hc1 : Try.prog.cellsOf 78 = 1 := by kernel_rfl
  rcases open_slice Try.underlying39 hf with ⟨hcs, _⟩ | ⟨x, l, c, m, n, D, Pl, hcs, _, hl, hm, hmm, _, hx⟩
  · simp [Value.cells] at hcs
    obtain ⟨rfl, rfl, rfl⟩ := hcs
    exact ⟨_, _, _, ⟨fun _ => 0, fun _ => ⟨fun _ => ByteArray.empty, fun _ => 0, fun _ => 0, fun _ => ByteArray.empty⟩⟩, rfl, Nat.zero_le _, .inl rfl, fun _ h => absurd h (by omega)⟩
  · simp [Value.cells] at hcs
    obtain ⟨rfl, rfl, rfl⟩ := hcs
    have hlm : len ≤ m := by rw [hmm]; split <;> omega
    rw [hc1] at hx
    obtain ⟨b, off, spot⟩ := x
    have each : ∀ i, i < m → ∃ q : Option Addr × Nat × Nat × Ents, w.cell? ⟨b, off + i, none⟩ = some (.slice q.1 q.2.1 q.2.2.1) ∧ EntAt w w.heap.size q.1 q.2.1 q.2.2.2 ∧ EntSm q.2.1 q.2.2.2 ∧ spot = none := fun i hi => by
      obtain ⟨cs', h1, h2⟩ := hx i hi
      obtain ⟨_, _, hcell⟩ := World.cells?_some h1
      obtain ⟨a', l', c', E', rfl, hE, hs⟩ := run_trod h2
      have e0 := hcell 0 (by omega)
      have hspot : spot = none := by
        have hx0 := (World.cells?_some (hx 0 (by omega)).choose_spec.1).2.2 0 (by omega)
        obtain ⟨a2, l2, c2, E2, hcs, _, _⟩ := run_trod (hx 0 (by omega)).choose_spec.2
        rw [hcs] at hx0
        have hx1 : w.cell? ⟨b, off, spot⟩ = some (.slice a2 l2 c2) := by simpa [Addr.add] using hx0
        simpa using World.cell?_spot hx1
      subst hspot
      rw [Addr.add_lit, Addr.add_lit] at e0
      exact ⟨(a', l', c', E'), by simpa using e0, hE, hs, rfl⟩
    have : Inhabited (Option Addr × Nat × Nat × Ents) := ⟨(none, 0, 0, ⟨fun _ => ByteArray.empty, fun _ => 0, fun _ => 0, fun _ => ByteArray.empty⟩)⟩
    obtain ⟨q, hq⟩ := choose_lt each
    refine ⟨_, _, _, ⟨fun i => (q i).2.1, fun i => (q i).2.2.2⟩, rfl, by omega, ?_, fun i hi => (hq i (by omega)).2.2.1⟩
    rcases Nat.eq_zero_or_pos len with h0 | h0
    · exact .inl h0
    · have hspot : spot = none := (hq 0 (by omega)).2.2.2
      subst hspot
      have hb : b < w.heap.size := World.block_lt_of_cell? w ⟨b, off + 0, none⟩ (hq 0 (by omega)).1
      exact .inr ⟨b, off, rfl, hb, fun i hi => ⟨(q i).1, (q i).2.2.1, (hq i (by omega)).1, (hq i (by omega)).2.1⟩⟩

/-- How many entries the first k runs have. -/
def totL (R : RunsC) : Nat → Nat
  | 0 => 0
  | k + 1 => totL R k + R.L k
def runsB (R : RunsC) (n : Nat) : Bool := decide (n ≤ 20) && ((List.range n).all (fun i => rowOkB (R.E i) (R.L i)) && decide (totL R n ≤ 400))
theorem runsB_many {R : RunsC} {n : Nat} (h : ¬ n ≤ 20) : runsB R n = false := by unfold runsB; rw [decide_eq_false h, Bool.false_and]
theorem runsB_no {R : RunsC} {n i : Nat} (hi : i < n) (h : rowOkB (R.E i) (R.L i) = false) : runsB R n = false := by
  rw [Bool.eq_false_iff]
  intro e
  unfold runsB at e
  rw [Bool.and_eq_true, Bool.and_eq_true, List.all_eq_true] at e
  have := e.2.1 i (List.mem_range.2 hi)
  rw [h] at this
  cases this
theorem runsB_is {R : RunsC} {n : Nat} (h : n ≤ 20) (h2 : ∀ i, i < n → rowOkB (R.E i) (R.L i) = true) : runsB R n = decide (totL R n ≤ 400) := by
  unfold runsB
  rw [decide_eq_true h, Bool.true_and, show (List.range n).all (fun i => rowOkB (R.E i) (R.L i)) = true from List.all_eq_true.2 fun i hi => h2 i (List.mem_range.1 hi), Bool.true_and]
theorem totL_bd {R : RunsC} : ∀ k, (∀ i, i < k → rowOkB (R.E i) (R.L i) = true) → totL R k ≤ 400 * k
  | 0, _ => by simp [totL]
  | k + 1, h => by
    have h1 := totL_bd k fun i hi => h i (by omega)
    have h2 := (rowOk_out (h k (by omega))).1
    simp only [totL]
    omega

set_option linter.unusedVariables false in
set_option maxHeartbeats 1000000 in
theorem impl_RunsOk (a : Option Addr) (n cap : Nat) (R : RunsC) (w : World) (hf : RunFit n R) (hS : RunAt w w.heap.size a n R) :
    Calls Try.prog 26 #[.slice a n cap] w fun e w' => e = .returned (.bool (runsB R n)) ∧ Below w.heap.size w w' := by
  obtain ⟨hn, hl⟩ := hf
  have HL := hide hl
  have HS := hS.hid
  clear hS hl
  by_cases h4 : n ≤ 20
  · have h4' : ¬ ((20 : Int) < (n : Int)) := by omega
    have HB0 : Hid (Below w.heap.size w w) := Below.refl _ _
    go_enter Try.func26, Try.ntmps26
    go_wp2
    go_loopw [3, 11] (fun s i wr => ∃ (k T : Nat), s = .int .i64 (T : Nat) ∧ i = .int .i64 k ∧ k ≤ n ∧ T ≤ 8000 ∧ Hid (T = totL R k) ∧ Hid (∀ i, i < k → rowOkB (R.E i) (R.L i) = true) ∧ Hid (Below w.heap.size w wr)) (fun _ i _ => n - (intOf i).toNat)
    case atStart => exact ⟨0, 0, rfl, rfl, by omega, by omega, rfl, fun _ h => absurd h (by omega), HB0⟩
    case round =>
      obtain ⟨k, T, rfl, rfl, hk, hT, HT, HK, HW⟩ := hrel
      clear HB0
      by_cases hlt : k < n
      · obtain ⟨b, off, rx, rc, rfl, hb, c0, hE⟩ := (HS.out.next HW.out).at hlt
        have hki : (k : Int) < (n : Int) := by omega
        have hlk := HL.out k hlt
        have hb1 := below_one wr (.cells #[.slice rx (R.L k) rc] 53)
        have HE := hide (hE.next hb1)
        have HW1 := hide (HW.out.trans (hb1.mono HW.out.size))
        have HX := (BoxIs.new wr #[.slice rx (R.L k) rc] 53 rfl).hid
        have hwx := HX.out.lt
        clear hb1 HW hE
        go_wp2_with fail
        generalize wr.alloc (.cells #[.slice rx (R.L k) rc] 53) = W1 at HE HW1 HX hwx ⊢
        cases hv : rowOkB (R.E k) (R.L k) with
        | false =>
          have HV : Hid (false = runsB R n) := (runsB_no hlt hv).symm
          refine (hv ▸ impl_EntriesOk rx (R.L k) rc (R.E k) W1 hlk HE.out).mono ?_
          rintro e w2 ⟨rfl, hB2⟩
          have HW2 := hide (HW1.out.trans (hB2.mono HW1.out.size))
          clear hB2 hv HW1 HE HX c0
          go_wp2
          go_ret
          exact ⟨ret_boolE HV.out, HW2.out⟩
        | true =>
          have HK2 : Hid (∀ i, i < k + 1 → rowOkB (R.E i) (R.L i) = true) := fun i hi => by
            rcases Nat.lt_or_eq_of_le (Nat.le_of_lt_succ hi) with h | h
            · exact HK.out i h
            · subst h; exact hv
          have hbd := totL_bd (R := R) (k + 1) HK2.out
          have HT2 : Hid (T + R.L k = totL R (k + 1)) := by show _ = totL R k + R.L k; rw [HT.out]
          have hT2 : T + R.L k ≤ 8000 := by have := HT2.out; omega
          refine (hv ▸ impl_EntriesOk rx (R.L k) rc (R.E k) W1 hlk HE.out).mono ?_
          rintro e w2 ⟨rfl, hB2⟩
          have HW2 := hide (HW1.out.trans (hB2.mono HW1.out.size))
          have x0 : w2.cell? ⟨wr.heap.size, 0, none⟩ = some (.slice rx (R.L k) rc) := (HX.out.next hB2).cell 0
          clear hB2 hv HW1 HE HX c0 hbd HK HT
          go_wp2
          exact ⟨⟨k + 1, T + R.L k, by go_num, by go_num, by omega, hT2, HT2, HK2, HW2⟩, by simp [intOf]; omega⟩
      · obtain rfl : k = n := by omega
        have HV : Hid (decide (T ≤ 400) = runsB R k) := by show _ = _; rw [runsB_is h4 HK.out, HT.out]
        by_cases h5 : T ≤ 400
        · have h5' : (T : Int) ≤ 400 := by omega
          have HV2 : Hid (true = runsB R k) := by rw [← HV.out, decide_eq_true h5]; rfl
          clear HV
          go_wp2
          go_ret
          exact ⟨ret_boolE HV2.out, HW.out⟩
        · have h5' : ¬ ((T : Int) ≤ 400) := by omega
          have HV2 : Hid (false = runsB R k) := by rw [← HV.out, decide_eq_false h5]; rfl
          clear HV
          go_wp2
          go_ret
          exact ⟨ret_boolE (by rw [← HV2.out]), HW.out⟩
  · have h4' : (20 : Int) < (n : Int) := by omega
    have HV : Hid (false = runsB R n) := (runsB_many h4).symm
    go_enter Try.func26, Try.ntmps26
    go_wp2
    go_ret
    exact ⟨ret_boolE HV.out, Below.refl _ _⟩

set_option linter.unusedVariables false in
set_option maxHeartbeats 1000000 in
theorem spec_RunsOk (a : Option Addr) (n cap : Nat) (R : RunsC) (w : World) (hf : RunFit n R) (hS : RunAt w w.heap.size a n R) :
    Calls Try.prog 24 #[.slice a n cap] w fun e w' => e = .returned (.bool (runsB R n)) ∧ Below w.heap.size w w' := by
  obtain ⟨hn, hl⟩ := hf
  have HL := hide hl
  have HS := hS.hid
  clear hS hl
  by_cases h4 : n ≤ 20
  · have h4' : ¬ ((20 : Int) < (n : Int)) := by omega
    have HB0 : Hid (Below w.heap.size w w) := Below.refl _ _
    go_enter Try.func24, Try.ntmps24
    go_wp2
    go_loopw [3, 4] (fun s i wr => ∃ (k T : Nat), s = .int .i64 (T : Nat) ∧ i = .int .i64 k ∧ k ≤ n ∧ T ≤ 8000 ∧ Hid (T = totL R k) ∧ Hid (∀ i, i < k → rowOkB (R.E i) (R.L i) = true) ∧ Hid (Below w.heap.size w wr)) (fun _ i _ => n - (intOf i).toNat)
    case atStart => exact ⟨0, 0, rfl, rfl, by omega, by omega, rfl, fun _ h => absurd h (by omega), HB0⟩
    case round =>
      obtain ⟨k, T, rfl, rfl, hk, hT, HT, HK, HW⟩ := hrel
      clear HB0
      by_cases hlt : k < n
      · obtain ⟨b, off, rx, rc, rfl, hb, c0, hE⟩ := (HS.out.next HW.out).at hlt
        have hki : (k : Int) < (n : Int) := by omega
        have hlk := HL.out k hlt
        have HE := hE.hid
        have HW1 := HW
        have HC := hide c0
        clear HW hE
        go_wp2_with fail
        cases hv : rowOkB (R.E k) (R.L k) with
        | false =>
          have HV : Hid (false = runsB R n) := (runsB_no hlt hv).symm
          refine (hv ▸ spec_EntriesOk rx (R.L k) rc (R.E k) wr hlk HE.out).mono ?_
          rintro e w2 ⟨rfl, hB2⟩
          have HW2 := hide (HW1.out.trans (hB2.mono HW1.out.size))
          clear hB2 hv HW1 HE HC c0
          go_wp2
          go_ret
          exact ⟨ret_boolE HV.out, HW2.out⟩
        | true =>
          have HK2 : Hid (∀ i, i < k + 1 → rowOkB (R.E i) (R.L i) = true) := fun i hi => by
            rcases Nat.lt_or_eq_of_le (Nat.le_of_lt_succ hi) with h | h
            · exact HK.out i h
            · subst h; exact hv
          have hbd := totL_bd (R := R) (k + 1) HK2.out
          have HT2 : Hid (T + R.L k = totL R (k + 1)) := by show _ = totL R k + R.L k; rw [HT.out]
          have hT2 : T + R.L k ≤ 8000 := by have := HT2.out; omega
          refine (hv ▸ spec_EntriesOk rx (R.L k) rc (R.E k) wr hlk HE.out).mono ?_
          rintro e w2 ⟨rfl, hB2⟩
          have HW2 := hide (HW1.out.trans (hB2.mono HW1.out.size))
          have x0 : w2.cell? ⟨b, off + k, none⟩ = some (.slice rx (R.L k) rc) := keepc hB2 HC.out
          clear hB2 hv HW1 HE HC c0 hbd HK HT
          go_wp2
          exact ⟨⟨k + 1, T + R.L k, by go_num, by go_num, by omega, hT2, HT2, HK2, HW2⟩, by simp [intOf]; omega⟩
      · obtain rfl : k = n := by omega
        have HV : Hid (decide (T ≤ 400) = runsB R k) := by show _ = _; rw [runsB_is h4 HK.out, HT.out]
        by_cases h5 : T ≤ 400
        · have h5' : (T : Int) ≤ 400 := by omega
          have HV2 : Hid (true = runsB R k) := by rw [← HV.out, decide_eq_true h5]; rfl
          clear HV
          go_wp2
          go_ret
          exact ⟨ret_boolE HV2.out, HW.out⟩
        · have h5' : ¬ ((T : Int) ≤ 400) := by omega
          have HV2 : Hid (false = runsB R k) := by rw [← HV.out, decide_eq_false h5]; rfl
          clear HV
          go_wp2
          go_ret
          exact ⟨ret_boolE (by rw [← HV2.out]), HW.out⟩
  · have h4' : (20 : Int) < (n : Int) := by omega
    have HV : Hid (false = runsB R n) := (runsB_many h4).symm
    go_enter Try.func24, Try.ntmps24
    go_wp2
    go_ret
    exact ⟨ret_boolE HV.out, Below.refl _ _⟩


set_option linter.unusedVariables false in
theorem walk_RunsOk (v : Value) {w : World} (hv : IsRuns w v) (_w : World) :
    Calls Try.prog 6 #[v] w fun e w' => e = .returned (.bool true) ∧ Below w.heap.size w w' := by
  obtain ⟨a, n, cap, R, rfl, hl, hS, hs⟩ := hv
  have HS := hS.hid
  go_enter Try.func6, Try.ntmps6
  go_wp2_with fail
  refine (laws_szRunS a n cap R _ w hl hs (by omega) (by omega) hS).mono ?_
  rintro e w1 ⟨⟨r, rfl, hr⟩, hB0⟩
  clear hS hs
  rcases hr with hr | ⟨hr0, hf⟩
  · go_wp2
    go_ret
    exact ⟨rfl, hB0⟩
  · have hr0' : ¬ (r < 0) := by omega
    go_wp2_with fail
    refine (laws_toRunS a n cap R w1 hf (HS.out.next hB0)).mono ?_
    rintro e w2 ⟨rfl, G1, hc1⟩
    have hC1 := hB0.trans (hc1.low.mono hB0.size)
    go_wp2_with fail
    refine (spec_RunsOk _ n n R w2 hf hc1.at').mono ?_
    rintro e w3 ⟨rfl, hB2⟩
    have hC := hC1.trans (hB2.mono hC1.size)
    clear hc1 hB0 hB2 hC1
    go_wp2_with fail
    refine (laws_toRunS a n cap R w3 hf (HS.out.next hC)).mono ?_
    rintro e w4 ⟨rfl, G2, hc2⟩
    have hD := hC.trans (hc2.low.mono hC.size)
    go_wp2_with fail
    refine (impl_RunsOk _ n n R w4 hf hc2.at').mono ?_
    rintro e w5 ⟨rfl, hB4⟩
    have hG := hD.trans (hB4.mono hD.size)
    have hc2' := hc2.next hB4
    clear hc2 hC hD hB4
    go_wp2_with fail
    refine (laws_toRunS a n cap R w5 hf (HS.out.next hG)).mono ?_
    rintro e w6 ⟨rfl, G3, hc3⟩
    have hJ := hG.trans (hc3.low.mono hG.size)
    have hc2'' := hc2'.next hc3.low
    go_wp2_with fail
    refine (laws_eqRunS _ _ n n n R w6 hf hc2''.at' hc3.at').mono ?_
    rintro e w7 ⟨rfl, hB6⟩
    have hM := hJ.trans (hB6.mono hJ.size)
    clear hc2' hc2'' hc3 hG hJ hB6
    go_wp2
    go_ret
    exact ⟨rfl, hM⟩

end Go.Proofs.Ytfnhlccpkommoaa
