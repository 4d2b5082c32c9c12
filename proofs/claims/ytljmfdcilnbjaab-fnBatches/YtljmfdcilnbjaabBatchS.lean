/- BatchOk of the model; the copies that the laws make of a batch; batches that come in. -/
import Derived.Test.YtljmfdcilnbjaabBatch
import Derived.Test.YtljmfdcilnbjaabBox
namespace Go.Proofs.Ytljmfdcilnbjaab
set_option maxRecDepth 100000
open Go.RowKit Go.Deep

set_option maxHeartbeats 2000000 in
theorem spec_BatchOk (q : Int) (a : Option Addr) (len cap : Nat) (O : Ops) (w : World) (hl : len ≤ 1048576) (hS : OpAt w w.heap.size a len O) :
    Calls Try.prog 22 #[.agg #[.int .i64 q, .slice a len cap]] w fun e w' => e = .returned (.bool (batchOkB q len O)) ∧ Below w.heap.size w w' := by
  have cq := spec_l1In q 1 999999999980
  by_cases hr : 1 ≤ len ∧ len ≤ 20 ∧ 1 ≤ q ∧ q ≤ 999999999980
  · obtain ⟨r1, r2, r3, r4⟩ := hr
    have r1' : ¬ ((len : Int) < 1) := by omega
    have r2' : ¬ ((20 : Int) < (len : Int)) := by omega
    rw [show decide ((1 : Int) ≤ q ∧ q ≤ 999999999980) = true from decide_eq_true ⟨r3, r4⟩] at cq
    have HS : Hid (OpAt w w.heap.size a len O) := hS
    have HB0 : Hid (Below (w.alloc (.cells #[.int .i64 q, .slice a len cap] 26)).heap.size (w.alloc (.cells #[.int .i64 q, .slice a len cap] 26)) (w.alloc (.cells #[.int .i64 q, .slice a len cap] 26))) := Below.refl _ _
    clear hS
    go_enter Try.func22, Try.ntmps22
    go_wp2_with fail
    refine (cq _).mono ?_
    rintro e w1 ⟨rfl, rfl⟩
    clear cq
    go_wp2
    go_loopw [3] (fun i wr => ∃ k : Nat, i = .int .i64 k ∧ k ≤ len ∧ Hid (∀ i, i < k → entOk (opEnt O q) i = true) ∧ Hid (Below (w.alloc (.cells #[.int .i64 q, .slice a len cap] 26)).heap.size (w.alloc (.cells #[.int .i64 q, .slice a len cap] 26)) wr)) (fun i _ => len - (intOf i).toNat)
    case atStart => exact ⟨0, rfl, by omega, fun _ h => absurd h (by omega), HB0⟩
    case round =>
      obtain ⟨k, rfl, hk, HK, HW⟩ := hrel
      clear HB0
      obtain ⟨e0, e1⟩ := batch_box HW.out
      by_cases hlt : k < len
      · have hwB := below_of_alloc HW.out
        have HWB : Hid (Below w.heap.size w wr) := hwB
        have hz := hwB.size
        cases he : entOk (opEnt O q) k with
        | false =>
          have HV : Hid (false = batchOkB q len O) := (batchOk_ent k hlt he).symm
          have ce := fun wx => (show entryOkB (O.U k) (q + k) (O.K k) (O.X k) = false from he) ▸ spec_EntryOk (O.U k) (q + k) (O.K k) (O.X k) wx
          clear he hwB
          go_wp2_with fail
          refine (spec_l7Entry q a len cap O k _ hlt hl ⟨by omega, by omega⟩ ((HS.out.on HWB.out (by omega)).mono (by omega))).mono ?_
          rintro e w1 ⟨rfl, hb1⟩
          have HB1 : Hid (Below w.heap.size w w1) := HWB.out.trans (hb1.mono hz)
          clear e0 e1 hb1
          unfold entOut
          go_wp2_with fail
          refine (ce _).mono ?_
          rintro e w2 ⟨rfl, hb2⟩
          have HB2 : Hid (Below w.heap.size w w2) := HB1.out.trans (hb2.mono HB1.out.size)
          clear ce hb2
          go_wp2
          go_ret
          exact ⟨ret_boolE HV.out, HB2.out⟩
        | true =>
          have HK2 : Hid (∀ i, i < k + 1 → entOk (opEnt O q) i = true) := fun i hi => by
            rcases Nat.lt_or_eq_of_le (Nat.le_of_lt_succ hi) with h | h
            · exact HK.out i h
            · subst h; exact he
          have ce := fun wx => (show entryOkB (O.U k) (q + k) (O.K k) (O.X k) = true from he) ▸ spec_EntryOk (O.U k) (q + k) (O.K k) (O.X k) wx
          clear he hwB
          go_wp2_with fail
          refine (spec_l7Entry q a len cap O k _ hlt hl ⟨by omega, by omega⟩ ((HS.out.on HWB.out (by omega)).mono (by omega))).mono ?_
          rintro e w1 ⟨rfl, hb1⟩
          have HA1 : Hid (Below _ _ w1) := HW.out.trans (hb1.mono HW.out.size)
          clear e0 e1 hb1
          unfold entOut
          go_wp2_with fail
          refine (ce _).mono ?_
          rintro e w2 ⟨rfl, hb2⟩
          have HA2 : Hid (Below _ _ w2) := HA1.out.trans (hb2.mono HA1.out.size)
          clear ce hb2
          go_wp2
          exact ⟨⟨k + 1, by go_num, by omega, HK2, HA2⟩, by simp [intOf]; omega⟩
      · obtain rfl : k = len := by omega
        have HV : Hid (true = batchOkB q k O) := (batchOk_yes ⟨r1, r2, r3, r4⟩ HK.out).symm
        go_wp2
        go_ret
        exact ⟨ret_boolE HV.out, below_of_alloc HW.out⟩
  · have HV : Hid (false = batchOkB q len O) := (batchOk_no hr).symm
    by_cases r1 : (len : Int) < 1
    · go_enter Try.func22, Try.ntmps22
      go_wp2
      go_ret
      exact ⟨ret_boolE HV.out, by go_grown⟩
    by_cases r2 : (20 : Int) < (len : Int)
    · go_enter Try.func22, Try.ntmps22
      go_wp2
      go_ret
      exact ⟨ret_boolE HV.out, by go_grown⟩
    rw [show decide ((1 : Int) ≤ q ∧ q ≤ 999999999980) = false from decide_eq_false (by omega)] at cq
    go_enter Try.func22, Try.ntmps22
    go_wp2_with fail
    refine (cq _).mono ?_
    rintro e w1 ⟨rfl, rfl⟩
    clear cq
    go_wp2
    go_ret
    exact ⟨ret_boolE HV.out, by go_grown⟩

/-- A box of a batch. -/
def BatAt (w : World) (F : Nat) (q : Int) (s : Value) : Prop := BoxIs w F #[.int .i64 q, s] 26

/-- What came in: a batch, its texts within reach. -/
def IsBatch (W : World) (v : Value) : Prop := ∃ q a len cap O, v = .agg #[.int .i64 q, .slice a len cap] ∧ len ≤ maxLen ∧ OpAt W W.heap.size a len O ∧ ∀ i, i < len → (O.U i).size ≤ maxLen ∧ (O.X i).size ≤ maxLen

end Go.Proofs.Ytljmfdcilnbjaab
