/- HllOk, of the program and of the model, and its law. -/
import Derived.Test.YtkopoonkedcpmadDoorRegsOf
namespace Go.Proofs.YtkopoonkedcpmadDoor
open Go.RowKit

theorem ret_boolH {a b : Bool} (h : a = b) : Ending.returned (.bool a) = .returned (.bool b) := by rw [h]

theorem spec_HllOk (s : ByteArray) (w : World) :
    Calls Tryd.prog 28 #[.string s] w fun e w' => e = .returned (.bool (hllB s)) ∧ w = w' := by
  by_cases h64 : s.size = 64
  · go_enter Tryd.func28, Tryd.ntmps28
    go_wp2
    go_loop [3] (fun i => ∃ k : Nat, i = .int .i64 k ∧ k ≤ s.size ∧ Hid (∀ i (hi : i < s.size), i < k → ¬ (58 : Int) < (((s[i]'hi).toNat : Nat) : Int))) (fun i => s.size - (intOf i).toNat)
    case atStart => exact ⟨0, rfl, by omega, fun _ _ h => absurd h (by omega)⟩
    case round =>
      obtain ⟨k, rfl, hk, HK⟩ := hrel
      by_cases hlt : k < s.size
      · by_cases hgt : (58 : Int) < (((s[k]'hlt).toNat : Nat) : Int)
        · have HV : Hid (false = hllB s) := (hllB_no k hlt hgt).symm
          go_wp2
          go_ret
          exact ⟨ret_boolH HV.out, rfl⟩
        · have HK2 : Hid (∀ i (hi : i < s.size), i < k + 1 → ¬ (58 : Int) < (((s[i]'hi).toNat : Nat) : Int)) := fun i hi h => by
            rcases Nat.lt_or_eq_of_le (Nat.le_of_lt_succ h) with h | h
            · exact HK.out i hi h
            · subst h; exact hgt
          go_wp2
          go_round
          case rel => exact ⟨k + 1, by go_num, by omega, HK2⟩
          case measure => simp [intOf]; omega
      · obtain rfl : k = s.size := by omega
        have HV : Hid (true = hllB s) := (hllB_yes h64 fun i hi => HK.out i hi hi).symm
        go_wp2
        go_ret
        exact ⟨ret_boolH HV.out, rfl⟩
  · have h64' : ((s.size : Int) == 64) = false := by simp; omega
    have HV : Hid (false = hllB s) := (hllB_size h64).symm
    go_enter Tryd.func28, Tryd.ntmps28
    go_wp2
    go_ret
    exact ⟨ret_boolH HV.out, rfl⟩

set_option maxHeartbeats 1000000 in
set_option maxRecDepth 100000 in
theorem impl_HllOk (s : ByteArray) (w : World) :
    Calls Tryd.prog 10 #[.string s] w fun e w' => e = .returned (.bool (hllB s)) ∧ Below w.heap.size w w' := by
  have hz := zero_regs
  go_enter Tryd.func10, Tryd.ntmps10
  go_wp2_with fail
  refine (impl_registersOf s w).mono ?_
  rintro e w1 ⟨⟨l, rfl, hl, _⟩, hb⟩
  have h1 : (vals l).size = 64 := by rw [vals_size]; exact hl.1
  have hst := st_row (P := Tryd.prog) _ _ _ _ (vals l) (heap_alloc_new w1 (.cells (vals zeros) 34)) (by rw [h1, vals_size]; rfl) (vals_one l)
  go_wp2
  go_ret
  exact ⟨rfl, below_setRow (hb.alloc hb.size _) hb.size _⟩

end Go.Proofs.YtkopoonkedcpmadDoor
