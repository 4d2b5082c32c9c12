/- KeyText and ReadKey, of the program and of the model. -/
import Derived.Test.YtljmfdcilnbjaacKeys
import Derived.Test.YtljmfdcilnbjaacFixed
namespace Go.Proofs.Ytljmfdcilnbjaac
set_option maxRecDepth 100000
open Go.RowKit

def keyText (u : ByteArray) (q k : Int) : ByteArray := if keyOkB u q k then u ++ fx4 ((2 * q + k) % 4294967296) ++ fx4 ((2 * q + k) / 4294967296) else ⟨#[]⟩

/-- A call behind others, a cell of one's own told besides. -/
theorem step_call {P : Program} {f : FuncId} {args : Array Value} {W w1 w2 : World} {v x : Value} {b o : Nat} (hb : Hid (Below W.heap.size W w1)) (hz : Hid (b < w1.heap.size)) (hc : w1.cell? ⟨b, o, none⟩ = some x) (he : w2 = w1 ∨ w2 = w1.drew)
    (h : Calls P f args w2 fun e w' => e = .returned v ∧ Below w2.heap.size w2 w') :
    Calls P f args w2 fun e w' => e = .returned v ∧ Hid (Below W.heap.size W w') ∧ Hid (b < w'.heap.size) ∧ w'.cell? ⟨b, o, none⟩ = some x := by
  have hb' : Below W.heap.size W w2 := by rcases he with rfl | rfl; exact hb.out; exact Below.drew hb.out
  have hz' : b < w2.heap.size := by rcases he with rfl | rfl <;> exact hz.out
  have hc' : w2.cell? ⟨b, o, none⟩ = some x := by rcases he with rfl | rfl <;> exact hc
  exact h.mono fun _ _ h => ⟨h.1, hb'.trans (h.2.mono hb'.size), Nat.lt_of_lt_of_le hz' h.2.size, (h.2.cell (p := ⟨b, o, none⟩) hz').trans hc'⟩

set_option maxHeartbeats 1000000 in
theorem spec_KeyText (u : ByteArray) (q k : Int) (w : World) :
    Calls Try.prog 28 #[.agg #[.string u, .int .i64 q, .int .i64 k]] w fun e w' => e = .returned (.string (keyText u q k)) ∧ Below w.heap.size w w' := by
  have hB := Below.refl (w.alloc (.cells #[.string u, .int .i64 q, .int .i64 k] 34)).heap.size (w.alloc (.cells #[.string u, .int .i64 q, .int .i64 k] 34))
  cases ha : keyOkB u q k with
  | false =>
    have HF : Hid (keyText u q k = ⟨#[]⟩) := by simp [Hid, keyText, ha]
    go_enter Try.func28, Try.ntmps28
    go_wp2_with fail
    refine (calls_from hB (spec_KeyOk u q k _)).mono ?_
    try clear hC hF hZ
    clear hB
    rintro e w1 ⟨rfl, hB⟩
    obtain ⟨hC, hF, hZ⟩ := bfacts hB
    go_wp2
    go_ret
    exact ⟨congrArg (fun x => Ending.returned (.string x)) HF.out.symm, below_of_alloc hB⟩
  | true =>
    have HF : Hid (keyText u q k = u ++ fx4 ((2 * q + k) % 4294967296) ++ fx4 ((2 * q + k) / 4294967296)) := by simp [Hid, keyText, ha]
    obtain ⟨k1, k2, k3, k4, k5, k6⟩ := keyOk_iff.1 ha
    have s0 := fx4_size
    go_enter Try.func28, Try.ntmps28
    go_wp2_with fail
    refine (calls_from hB (spec_KeyOk u q k _)).mono ?_
    try clear hC hF hZ
    clear hB
    rintro e w1 ⟨rfl, hB⟩
    obtain ⟨hC, hF, hZ⟩ := bfacts hB
    go_wp2_with fail
    have hc0 : w1.cell? ⟨w.heap.size, 0, none⟩ = some (.string u) := by rw [hC _ _ (by simp)]; simp
    have hz0 : Hid (w.heap.size < w1.heap.size) := by unfold Hid; simp at hZ; omega
    have HB : Hid (Below (w.alloc (.cells #[.string u, .int .i64 q, .int .i64 k] 34)).heap.size (w.alloc (.cells #[.string u, .int .i64 q, .int .i64 k] 34)) w1) := hB
    clear hB hC hF hZ ha
    go_region_with (go_at_call 30; refine (step_call HB hz0 hc0 (by first | exact Or.inl rfl | exact Or.inr rfl) (spec_PutFixed _ _)).mono ?_; clear hc0 hz0 HB; rintro e w1 ⟨rfl, HB, hz0, hc0⟩)
    all_goals go_wp2
    all_goals go_ret
    all_goals refine ⟨?_, below_of_alloc (by first | exact HB.out | exact Below.drew HB.out)⟩
    all_goals refine congrArg (fun x => Ending.returned (.string x)) ?_
    all_goals rw [HF.out]

set_option maxHeartbeats 1000000 in
theorem impl_KeyText (u : ByteArray) (q k : Int) (w : World) :
    Calls Try.prog 55 #[.agg #[.string u, .int .i64 q, .int .i64 k]] w fun e w' => e = .returned (.string (keyText u q k)) ∧ Below w.heap.size w w' := by
  have hB := Below.refl (w.alloc (.cells #[.string u, .int .i64 q, .int .i64 k] 34)).heap.size (w.alloc (.cells #[.string u, .int .i64 q, .int .i64 k] 34))
  cases ha : keyOkB u q k with
  | false =>
    have HF : Hid (keyText u q k = ⟨#[]⟩) := by simp [Hid, keyText, ha]
    go_enter Try.func55, Try.ntmps55
    go_wp2_with fail
    refine (calls_from hB (impl_KeyOk u q k _)).mono ?_
    try clear hC hF hZ
    clear hB
    rintro e w1 ⟨rfl, hB⟩
    obtain ⟨hC, hF, hZ⟩ := bfacts hB
    go_wp2
    go_ret
    exact ⟨congrArg (fun x => Ending.returned (.string x)) HF.out.symm, below_of_alloc hB⟩
  | true =>
    have HF : Hid (keyText u q k = u ++ fx4 ((2 * q + k) % 4294967296) ++ fx4 ((2 * q + k) / 4294967296)) := by simp [Hid, keyText, ha]
    obtain ⟨k1, k2, k3, k4, k5, k6⟩ := keyOk_iff.1 ha
    have s0 := fx4_size
    go_enter Try.func55, Try.ntmps55
    go_wp2_with fail
    refine (calls_from hB (impl_KeyOk u q k _)).mono ?_
    try clear hC hF hZ
    clear hB
    rintro e w1 ⟨rfl, hB⟩
    obtain ⟨hC, hF, hZ⟩ := bfacts hB
    go_wp2_with fail
    have hc0 : w1.cell? ⟨w.heap.size, 0, none⟩ = some (.string u) := by rw [hC _ _ (by simp)]; simp
    have hz0 : Hid (w.heap.size < w1.heap.size) := by unfold Hid; simp at hZ; omega
    have HB : Hid (Below (w.alloc (.cells #[.string u, .int .i64 q, .int .i64 k] 34)).heap.size (w.alloc (.cells #[.string u, .int .i64 q, .int .i64 k] 34)) w1) := hB
    clear hB hC hF hZ ha
    go_region_with (go_at_call 61; refine (step_call HB hz0 hc0 (by first | exact Or.inl rfl | exact Or.inr rfl) (impl_PutFixed _ _)).mono ?_; clear hc0 hz0 HB; rintro e w1 ⟨rfl, HB, hz0, hc0⟩)
    all_goals go_wp2
    all_goals go_ret
    all_goals refine ⟨?_, below_of_alloc (by first | exact HB.out | exact Below.drew HB.out)⟩
    all_goals refine congrArg (fun x => Ending.returned (.string x)) ?_
    all_goals rw [HF.out]

end Go.Proofs.Ytljmfdcilnbjaac
