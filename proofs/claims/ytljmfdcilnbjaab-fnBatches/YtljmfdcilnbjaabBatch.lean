/- BatchOk, of the program and of the model. -/
import Derived.Test.YtljmfdcilnbjaabBatchE
namespace Go.Proofs.Ytljmfdcilnbjaab
set_option maxRecDepth 100000
open Go.RowKit Go.Deep

def batchOkB (q : Int) (len : Nat) (O : Ops) : Bool := decide (1 ≤ len ∧ len ≤ 20 ∧ 1 ≤ q ∧ q ≤ 999999999980) && (List.range len).all fun i => entOk (opEnt O q) i

theorem batchOk_yes {q : Int} {len : Nat} {O : Ops} (h : 1 ≤ len ∧ len ≤ 20 ∧ 1 ≤ q ∧ q ≤ 999999999980) (h2 : ∀ i, i < len → entOk (opEnt O q) i = true) : batchOkB q len O = true := by
  unfold batchOkB
  rw [Bool.and_eq_true, List.all_eq_true]
  exact ⟨decide_eq_true h, fun i hi => h2 i (List.mem_range.1 hi)⟩
theorem batchOk_no {q : Int} {len : Nat} {O : Ops} (h : ¬ (1 ≤ len ∧ len ≤ 20 ∧ 1 ≤ q ∧ q ≤ 999999999980)) : batchOkB q len O = false := by
  unfold batchOkB; rw [decide_eq_false h, Bool.false_and]
theorem batchOk_out {q : Int} {len : Nat} {O : Ops} (h : batchOkB q len O = true) : (1 ≤ len ∧ len ≤ 20 ∧ 1 ≤ q ∧ q ≤ 999999999980) ∧ ∀ i, i < len → entOk (opEnt O q) i = true := by
  unfold batchOkB at h
  rw [Bool.and_eq_true, List.all_eq_true] at h
  exact ⟨of_decide_eq_true h.1, fun i hi => h.2 i (List.mem_range.2 hi)⟩
theorem batchOk_ent {q : Int} {len : Nat} {O : Ops} (i : Nat) (hi : i < len) (h : entOk (opEnt O q) i = false) : batchOkB q len O = false := by
  rw [Bool.eq_false_iff]
  intro e
  rw [(batchOk_out e).2 i hi] at h
  cases h

theorem spec_l1In (x lo hi : Int) (w : World) :
    Calls Try.prog 43 #[.int .i64 x, .int .i64 lo, .int .i64 hi] w fun e w' => e = .returned (.bool (decide (lo ≤ x ∧ x ≤ hi))) ∧ w = w' := by
  by_cases h1 : lo ≤ x
  · by_cases h2 : x ≤ hi
    · go_enter Try.func43, Try.ntmps43
      go_wp2
      go_ret
      exact ⟨ret_boolE (by simp [h1, h2]), rfl⟩
    · go_enter Try.func43, Try.ntmps43
      go_wp2
      go_ret
      exact ⟨ret_boolE (by simp [h2]), rfl⟩
  · go_enter Try.func43, Try.ntmps43
    go_wp2
    go_ret
    exact ⟨ret_boolE (by simp; omega), rfl⟩

/-- The box of a batch. -/
theorem batch_box {w w' : World} {q : Int} {s : Value} {t : TypeId} (hb : Below (w.alloc (.cells #[.int .i64 q, s] t)).heap.size (w.alloc (.cells #[.int .i64 q, s] t)) w') :
    w'.cell? ⟨w.heap.size, 0, none⟩ = some (.int .i64 q) ∧ w'.cell? ⟨w.heap.size, 1, none⟩ = some s := by
  refine ⟨?_, ?_⟩
  · rw [hb.cell (by simp)]; simp
  · rw [hb.cell (by simp)]; simp

set_option maxHeartbeats 2000000 in
theorem impl_BatchOk (q : Int) (a : Option Addr) (len cap : Nat) (O : Ops) (w : World) (hl : len ≤ 1048576) (hS : OpAt w w.heap.size a len O) :
    Calls Try.prog 9 #[.agg #[.int .i64 q, .slice a len cap]] w fun e w' => e = .returned (.bool (batchOkB q len O)) ∧ Below w.heap.size w w' := by
  by_cases hr : 1 ≤ len ∧ len ≤ 20 ∧ 1 ≤ q ∧ q ≤ 999999999980
  · obtain ⟨r1, r2, r3, r4⟩ := hr
    have r1' : ¬ ((len : Int) < 1) := by omega
    have r2' : ¬ ((20 : Int) < (len : Int)) := by omega
    have r3' : ¬ (q < 1) := by omega
    have r4' : ¬ (999999999980 < q) := by omega
    have HS : Hid (OpAt w w.heap.size a len O) := hS
    have HB0 : Hid (Below (w.alloc (.cells #[.int .i64 q, .slice a len cap] 26)).heap.size (w.alloc (.cells #[.int .i64 q, .slice a len cap] 26)) (w.alloc (.cells #[.int .i64 q, .slice a len cap] 26))) := Below.refl _ _
    clear hS
    go_enter Try.func9, Try.ntmps9
    go_wp2
    go_loopw [27] (fun i wr => ∃ k : Nat, i = .int .i64 k ∧ k ≤ len ∧ Hid (∀ i, i < k → entOk (opEnt O q) i = true) ∧ Hid (Below (w.alloc (.cells #[.int .i64 q, .slice a len cap] 26)).heap.size (w.alloc (.cells #[.int .i64 q, .slice a len cap] 26)) wr)) (fun i _ => len - (intOf i).toNat)
    case atStart => exact ⟨0, rfl, by omega, fun _ h => absurd h (by omega), HB0⟩
    case round =>
      obtain ⟨k, rfl, hk, HK, HW⟩ := hrel
      clear HB0
      by_cases hlt : k < len
      · obtain ⟨e0, e1⟩ := batch_box HW.out
        have hwB := below_of_alloc HW.out
        have HWB : Hid (Below w.heap.size w wr) := hwB
        have hz := hwB.size
        cases he : entOk (opEnt O q) k with
        | false =>
          have HV : Hid (false = batchOkB q len O) := (batchOk_ent k hlt he).symm
          have ce := fun wx => (show entryOkB (O.U k) (q + k) (O.K k) (O.X k) = false from he) ▸ impl_EntryOk (O.U k) (q + k) (O.K k) (O.X k) wx
          clear he hwB
          go_wp2_with fail
          refine (impl_entryAt q a len cap O k _ hlt hl ⟨by omega, by omega⟩ ((HS.out.on HWB.out (by omega)).mono (by omega))).mono ?_
          rintro e w1 ⟨rfl, hb1⟩
          have HB1 : Hid (Below w.heap.size w w1) := HWB.out.trans (hb1.mono hz)
          clear e0 e1 hb1
          unfold entOut
          go_wp2_with fail
          refine (ce _).mono ?_
          rintro e w2 ⟨rfl, hb2⟩
          have HB2 : Hid (Below w.heap.size w w2) := HB1.out.trans (hb2.mono HB1.out.size)
          clear ce hb2
          go_wp2
          go_ret
          exact ⟨ret_boolE HV.out, HB2.out⟩
        | true =>
          have HK2 : Hid (∀ i, i < k + 1 → entOk (opEnt O q) i = true) := fun i hi => by
            rcases Nat.lt_or_eq_of_le (Nat.le_of_lt_succ hi) with h | h
            · exact HK.out i h
            · subst h; exact he
          have ce := fun wx => (show entryOkB (O.U k) (q + k) (O.K k) (O.X k) = true from he) ▸ impl_EntryOk (O.U k) (q + k) (O.K k) (O.X k) wx
          clear he hwB
          go_wp2_with fail
          refine (impl_entryAt q a len cap O k _ hlt hl ⟨by omega, by omega⟩ ((HS.out.on HWB.out (by omega)).mono (by omega))).mono ?_
          rintro e w1 ⟨rfl, hb1⟩
          have HA1 : Hid (Below _ _ w1) := HW.out.trans (hb1.mono HW.out.size)
          clear e0 e1 hb1
          unfold entOut
          go_wp2_with fail
          refine (ce _).mono ?_
          rintro e w2 ⟨rfl, hb2⟩
          have HA2 : Hid (Below _ _ w2) := HA1.out.trans (hb2.mono HA1.out.size)
          clear ce hb2
          go_wp2
          exact ⟨⟨k + 1, by go_num, by omega, HK2, HA2⟩, by simp [intOf]; omega⟩
      · obtain rfl : k = len := by omega
        have HV : Hid (true = batchOkB q k O) := (batchOk_yes ⟨r1, r2, r3, r4⟩ HK.out).symm
        go_wp2
        go_ret
        exact ⟨ret_boolE HV.out, below_of_alloc HW.out⟩
  · have HV : Hid (false = batchOkB q len O) := (batchOk_no hr).symm
    by_cases r1 : (len : Int) < 1
    · go_enter Try.func9, Try.ntmps9
      go_wp2
      go_ret
      exact ⟨ret_boolE HV.out, by go_grown⟩
    by_cases r2 : (20 : Int) < (len : Int)
    · go_enter Try.func9, Try.ntmps9
      go_wp2
      go_ret
      exact ⟨ret_boolE HV.out, by go_grown⟩
    by_cases r3 : q < 1
    · go_enter Try.func9, Try.ntmps9
      go_wp2
      go_ret
      exact ⟨ret_boolE HV.out, by go_grown⟩
    have r4 : 999999999980 < q := by omega
    go_enter Try.func9, Try.ntmps9
    go_wp2
    go_ret
    exact ⟨ret_boolE HV.out, by go_grown⟩

end Go.Proofs.Ytljmfdcilnbjaab
