/- eqRunS, the opening of a row of runs, RunsOk of both and its law. (By gen_runs.py.) -/
import Derived.Test.YtjcoejabpagaiaaRuns
import Derived.Test.YtjcoejabpagaiaaEntsOkS
namespace Go.Proofs.Ytjcoejabpagaiaa
set_option maxRecDepth 100000
open Go.RowKit Go.Deep

set_option linter.unusedVariables false in
set_option maxHeartbeats 1000000 in
theorem laws_eqRunS (a b : Option Addr) (n ca cb : Nat) (R : RunsC) (w : World) (hf : RunFit n R) (ha : RunAt w w.heap.size a n R) (hb : RunAt w w.heap.size b n R) :
    Calls Try.prog 9 #[.slice a n ca, .slice b n cb] w fun e w' => e = .returned (.bool true) ∧ Below w.heap.size w w' := by
  have HA := ha.hid
  have HB := hb.hid
  obtain ⟨hn, hl⟩ := hf
  have HL := hide hl
  clear ha hb hl
  have HB0 : Hid (Below w.heap.size w w) := Below.refl _ _
  go_enter Try.func9, Try.ntmps9
  go_wp2
  go_loopw [5] (fun i wr => ∃ k : Nat, i = .int .i64 k ∧ k ≤ n ∧ Hid (Below w.heap.size w wr)) (fun i _ => n - (intOf i).toNat)
  case atStart => exact ⟨0, rfl, by omega, HB0⟩
  case round =>
    obtain ⟨k, rfl, hk, HW⟩ := hrel
    clear HB0
    by_cases hlt : k < n
    · obtain ⟨b1, off1, x1, c1, rfl, hb1, CA, EA⟩ := (HA.out.next HW.out).at hlt
      obtain ⟨b2, off2, x2, c2, rfl, hb2, CB, EB⟩ := (HB.out.next HW.out).at hlt
      have hki : (k : Int) < (n : Int) := by omega
      have hlk := HL.out k hlt
      have EW := HW.out
      have HEA := EA.hid
      have HEB := EB.hid
      have HCA := hide CA
      have HCB := hide CB
      have HEW := hide EW
      clear HW EA EB CA CB EW
      go_wp2_with fail
      obtain ⟨EA, EB, CA, CB, EW⟩ : _ ∧ _ ∧ _ ∧ _ ∧ _ := ⟨HEA.out, HEB.out, HCA.out, HCB.out, HEW.out⟩
      clear HEA HEB HCA HCB HEW
      refine wp_region_noPanic ?_
      have hb0 : Below wr.heap.size wr wr.drew := (Below.refl _ _).drew
      have EW_0 := EW.trans (hb0.mono EW.size)
      have CA_0 := keepc hb0 CA
      have CB_0 := keepc hb0 CB
      have EA_0 := EA.next hb0
      have EB_0 := EB.next hb0
      refine wp_region_held_drew (S := fun x => x.cell? ⟨b1, off1 + k, none⟩ = some (.slice x1 (R.L k) c1) ∧ x.cell? ⟨b2, off2 + k, none⟩ = some (.slice x2 (R.L k) c2)) (by kernel_rfl) ⟨CA_0, CB_0⟩ (fun _ => ?_)
      clear CA CB EA EB EW
      generalize wr.drew = wq0 at hb0 EW_0 CA_0 CB_0 EA_0 EB_0 ⊢
      clear hb0
      refine wpAnyH_take (i := 0) (v := .slice (some ⟨b1, off1, none⟩) n ca) nat0 (by kernel_rfl) (by kernel_rfl) (by kernel_rfl) (fun _ _ _ h => False.elim h) (Or.inl ⟨by rfl, ?_⟩) ⟨CA_0, CB_0⟩ ?_
      · intro wx hSw
        go_simp
      simp only [Act.put, List.setIfInBounds_toArray, List.set_cons_zero, List.set_cons_succ]
      refine wpAnyH_take (i := 1) (v := .int .i64 (k : Int)) nat1 (by kernel_rfl) (by kernel_rfl) (by kernel_rfl) (fun _ _ _ h => False.elim h) (Or.inl ⟨by rfl, ?_⟩) ⟨CA_0, CB_0⟩ ?_
      · intro wx hSw
        go_simp
      simp only [Act.put, List.setIfInBounds_toArray, List.set_cons_zero, List.set_cons_succ]
      refine wpAnyH_take (i := 2) (v := .pointer (some ⟨b1, off1 + k, none⟩)) nat2 (by kernel_rfl) (by kernel_rfl) (by kernel_rfl) (fun _ _ _ h => False.elim h) (Or.inl ⟨by rfl, ?_⟩) ⟨CA_0, CB_0⟩ ?_
      · intro wx hSw
        go_simp
      simp only [Act.put, List.setIfInBounds_toArray, List.set_cons_zero, List.set_cons_succ]
      refine wpAnyH_take (i := 3) (v := .agg #[.slice x1 (R.L k) c1]) nat3 (by kernel_rfl) (by kernel_rfl) (by kernel_rfl) (fun _ _ _ h => False.elim h) (Or.inl ⟨by rfl, ?_⟩) ⟨CA_0, CB_0⟩ ?_
      · intro wx hSw
        have e0 := hSw.1
        go_simp
      simp only [Act.put, List.setIfInBounds_toArray, List.set_cons_zero, List.set_cons_succ]
      refine wpAnyH_take (i := 4) (v := .slice (some ⟨b2, off2, none⟩) n cb) nat4 (by kernel_rfl) (by kernel_rfl) (by kernel_rfl) (fun _ _ _ h => False.elim h) (Or.inl ⟨by rfl, ?_⟩) ⟨CA_0, CB_0⟩ ?_
      · intro wx hSw
        go_simp
      simp only [Act.put, List.setIfInBounds_toArray, List.set_cons_zero, List.set_cons_succ]
      refine wpAnyH_take (i := 5) (v := .int .i64 (k : Int)) nat5 (by kernel_rfl) (by kernel_rfl) (by kernel_rfl) (fun _ _ _ h => False.elim h) (Or.inl ⟨by rfl, ?_⟩) ⟨CA_0, CB_0⟩ ?_
      · intro wx hSw
        go_simp
      simp only [Act.put, List.setIfInBounds_toArray, List.set_cons_zero, List.set_cons_succ]
      refine wpAnyH_take (i := 6) (v := .pointer (some ⟨b2, off2 + k, none⟩)) nat6 (by kernel_rfl) (by kernel_rfl) (by kernel_rfl) (fun _ _ _ h => False.elim h) (Or.inl ⟨by rfl, ?_⟩) ⟨CA_0, CB_0⟩ ?_
      · intro wx hSw
        go_simp
      simp only [Act.put, List.setIfInBounds_toArray, List.set_cons_zero, List.set_cons_succ]
      refine wpAnyH_take (i := 7) (v := .agg #[.slice x2 (R.L k) c2]) nat7 (by kernel_rfl) (by kernel_rfl) (by kernel_rfl) (fun _ _ _ h => False.elim h) (Or.inl ⟨by rfl, ?_⟩) ⟨CA_0, CB_0⟩ ?_
      · intro wx hSw
        have e0 := hSw.2
        go_simp
      simp only [Act.put, List.setIfInBounds_toArray, List.set_cons_zero, List.set_cons_succ]
      refine wpAnyH_ready (rs := [8]) (by kernel_rfl) (by simp) ?_
      refine AllReadyH.cons nat8 (fun K hK => ?_) AllReadyH.nil
      go_simp
      go_at_call 22
      refine (laws_eqRun x1 x2 (R.L k) c1 c2 (R.E k) wq0 hlk EA_0 EB_0).mono ?_
      rintro e wq1 ⟨rfl, hb1⟩
      have EW_1 := EW_0.trans (hb1.mono EW_0.size)
      have CA_1 := keepc hb1 CA_0
      have CB_1 := keepc hb1 CB_0
      have EA_1 := EA_0.next hb1
      have EB_1 := EB_0.next hb1
      refine hK.out _ _ ⟨CA_1, CB_1⟩ (fun _ => ?_)
      clear hK K hb1 CA_0 CB_0 EA_0 EB_0 EW_0
      refine wpAnyH_take (i := 9) (v := .bool false) nat9 (by kernel_rfl) (by kernel_rfl) (by kernel_rfl) (fun _ _ _ h => False.elim h) (Or.inl ⟨by rfl, ?_⟩) ⟨CA_1, CB_1⟩ ?_
      · intro wx hSw
        go_simp
      simp only [Act.put, List.setIfInBounds_toArray, List.set_cons_zero, List.set_cons_succ]
      refine wpAnyH_done (by kernel_rfl) ?_ _
      refine NoPanic.normal ?_
      have HW2 := hide EW_1
      clear CA_1 CB_1 EA_1 EB_1 EW_1
      go_wp2
      exact ⟨⟨k + 1, by go_num, by omega, HW2⟩, by simp [intOf]; omega⟩
    · go_wp2
      go_ret
      exact ⟨rfl, HW.out⟩

/-- What came in: runs. -/
def IsRuns (W : World) (v : Value) : Prop := ∃ a n cap R, v = .slice a n cap ∧ n ≤ maxLen ∧ RunAt W W.heap.size a n R ∧ ∀ i, i < n → EntSm (R.L i) (R.E i)

theorem ents_trod {H : Type} {enc : TypeId × Value → H} {w : World} {base : Nat} {spare : Nat → Bool} {held : Bool} {fuel : Nat} {cs : List Value} {y : DataW H × List MemPlace}
    (hf : DataW.trod enc Try.prog w base spare held fuel 22 cs = some y) : ∃ a len cap E, cs = [.slice a len cap] ∧ EntAt w w.heap.size a len E ∧ EntSm len E := by
  have hc4 : Try.prog.cellsOf 47 = 4 := by kernel_rfl
  rcases open_slice Try.underlying22 hf with ⟨hcs, _⟩ | ⟨x, l, c, m, n, D, Pl, hcs, _, hl, hm, hmm, _, hx⟩
  · exact ⟨none, 0, 0, ⟨fun _ => ByteArray.empty, fun _ => 0, fun _ => 0, fun _ => ByteArray.empty⟩, hcs, .inl rfl, Nat.zero_le _, fun _ h => absurd h (by omega)⟩
  · have hlm : l ≤ m := by rw [hmm]; split <;> omega
    rw [hc4] at hx
    obtain ⟨b, off, spot⟩ := x
    have each : ∀ i, i < m → ∃ q : ByteArray × Int × Int × ByteArray, w.cell? ⟨b, off + i * 4, none⟩ = some (.string q.1) ∧ w.cell? ⟨b, off + i * 4 + 1, none⟩ = some (.int .i64 q.2.1) ∧ w.cell? ⟨b, off + i * 4 + 2, none⟩ = some (.int .i64 q.2.2.1) ∧ w.cell? ⟨b, off + i * 4 + 3, none⟩ = some (.string q.2.2.2) ∧ q.1.size ≤ maxLen ∧ q.2.2.2.size ≤ maxLen ∧ spot = none := fun i hi => by
      obtain ⟨cs', h1, h2⟩ := hx i hi
      obtain ⟨_, _, hcell⟩ := World.cells?_some h1
      obtain ⟨u, q, k, x, rfl, hu, hxs⟩ := entry_trod h2
      have e0 := hcell 0 (by omega)
      have e1 := hcell 1 (by omega)
      have e2 := hcell 2 (by omega)
      have e3 := hcell 3 (by omega)
      have hspot : spot = none := by
        have hx0 := (World.cells?_some (hx 0 (by omega)).choose_spec.1).2.2 0 (by omega)
        obtain ⟨u', q', k', x', hcs, _, _⟩ := entry_trod (hx 0 (by omega)).choose_spec.2
        rw [hcs] at hx0
        have hx1 : w.cell? ⟨b, off, spot⟩ = some (.string u') := by simpa [Addr.add] using hx0
        simpa using World.cell?_spot hx1
      subst hspot
      rw [Addr.add_lit, Addr.add_lit] at e0 e1 e2 e3
      exact ⟨(u, q, k, x), by simpa using e0, by simpa using e1, by simpa using e2, by simpa using e3, hu, hxs, rfl⟩
    obtain ⟨q, hq⟩ := choose_lt each
    refine ⟨_, _, _, ⟨fun i => (q i).1, fun i => (q i).2.1, fun i => (q i).2.2.1, fun i => (q i).2.2.2⟩, hcs, ?_, by omega, fun i hi => ⟨(hq i (by omega)).2.2.2.2.1, (hq i (by omega)).2.2.2.2.2.1⟩⟩
    rcases Nat.eq_zero_or_pos l with h0 | h0
    · exact .inl h0
    · have hspot : spot = none := (hq 0 (by omega)).2.2.2.2.2.2
      subst hspot
      have hb : b < w.heap.size := World.block_lt_of_cell? w ⟨b, off + 0 * 4, none⟩ (hq 0 (by omega)).1
      exact .inr ⟨b, off, rfl, hb, fun i hi => ⟨(hq i (by omega)).1, (hq i (by omega)).2.1, (hq i (by omega)).2.2.1, (hq i (by omega)).2.2.2.1⟩⟩

/-- How many entries the first k runs have. -/
def totL (R : RunsC) : Nat → Nat
  | 0 => 0
  | k + 1 => totL R k + R.L k
def runsB (R : RunsC) (n : Nat) : Bool := decide (n ≤ 20) && ((List.range n).all (fun i => rowOkB (R.E i) (R.L i)) && decide (totL R n ≤ 400))
theorem runsB_many {R : RunsC} {n : Nat} (h : ¬ n ≤ 20) : runsB R n = false := by unfold runsB; rw [decide_eq_false h, Bool.false_and]
theorem runsB_no {R : RunsC} {n i : Nat} (hi : i < n) (h : rowOkB (R.E i) (R.L i) = false) : runsB R n = false := by
  rw [Bool.eq_false_iff]
  intro e
  unfold runsB at e
  rw [Bool.and_eq_true, Bool.and_eq_true, List.all_eq_true] at e
  have := e.2.1 i (List.mem_range.2 hi)
  rw [h] at this
  cases this
theorem runsB_is {R : RunsC} {n : Nat} (h : n ≤ 20) (h2 : ∀ i, i < n → rowOkB (R.E i) (R.L i) = true) : runsB R n = decide (totL R n ≤ 400) := by
  unfold runsB
  rw [decide_eq_true h, Bool.true_and, show (List.range n).all (fun i => rowOkB (R.E i) (R.L i)) = true from List.all_eq_true.2 fun i hi => h2 i (List.mem_range.1 hi), Bool.true_and]
theorem totL_bd {R : RunsC} : ∀ k, (∀ i, i < k → rowOkB (R.E i) (R.L i) = true) → totL R k ≤ 400 * k
  | 0, _ => by simp [totL]
  | k + 1, h => by
    have h1 := totL_bd k fun i hi => h i (by omega)
    have h2 := (rowOk_out (h k (by omega))).1
    simp only [totL]
    omega

end Go.Proofs.Ytjcoejabpagaiaa
