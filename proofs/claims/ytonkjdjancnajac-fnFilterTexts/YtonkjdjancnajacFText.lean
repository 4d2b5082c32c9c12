/- FilterText, of the program and of the model, and its law. -/
import Derived.Test.YtonkjdjancnajacFilter
import Derived.Test.YtonkjdjancnajacText
import Derived.Deep.RegionHeld3
namespace Go.Proofs.Ytonkjdjancnajac
set_option maxRecDepth 100000
open Go.RowKit

def filterText (kd sd pr : Int) (bs : ByteArray) : ByteArray := if filterOkB kd sd pr bs then pv kd ++ pv sd ++ pv pr ++ putText bs else ⟨#[]⟩

/-- A call behind others, four cells of one's own told besides. -/
theorem held_call {P : Program} {f : FuncId} {args : Array Value} {W w2 : World} {v : Value} {b : Nat} {x0 x1 x2 x3 : Value}
    (hS : (w2.cell? ⟨b, 0, none⟩ = some x0 ∧ w2.cell? ⟨b, 1, none⟩ = some x1 ∧ w2.cell? ⟨b, 2, none⟩ = some x2 ∧ w2.cell? ⟨b, 3, none⟩ = some x3) ∧ Hid (Below W.heap.size W w2) ∧ Hid (b < w2.heap.size))
    (h : Calls P f args w2 fun e w' => e = .returned v ∧ Below w2.heap.size w2 w') :
    Calls P f args w2 fun e w' => e = .returned v ∧ (w'.cell? ⟨b, 0, none⟩ = some x0 ∧ w'.cell? ⟨b, 1, none⟩ = some x1 ∧ w'.cell? ⟨b, 2, none⟩ = some x2 ∧ w'.cell? ⟨b, 3, none⟩ = some x3) ∧ Hid (Below W.heap.size W w') ∧ Hid (b < w'.heap.size) := by
  obtain ⟨⟨c0, c1, c2, c3⟩, hB, hz⟩ := hS
  refine h.mono fun _ w' h => ⟨h.1, ⟨?_, ?_, ?_, ?_⟩, hB.out.trans (h.2.mono hB.out.size), Nat.lt_of_lt_of_le hz.out h.2.size⟩
  · rw [h.2.cell (p := ⟨b, 0, none⟩) hz.out]; exact c0
  · rw [h.2.cell (p := ⟨b, 1, none⟩) hz.out]; exact c1
  · rw [h.2.cell (p := ⟨b, 2, none⟩) hz.out]; exact c2
  · rw [h.2.cell (p := ⟨b, 3, none⟩) hz.out]; exact c3

set_option maxHeartbeats 1000000 in
set_option maxRecDepth 100000 in
theorem impl_FilterText (kd sd pr : Int) (bs : ByteArray) (hb : bs.size ≤ maxLen) (w : World) :
    Calls Try.prog 16 #[.agg #[.int .i64 kd, .int .i64 sd, .int .i64 pr, .string bs]] w fun e w' => e = .returned (.string (filterText kd sd pr bs)) ∧ Below w.heap.size w w' := by
  have hB := Below.refl (w.alloc (.cells #[.int .i64 kd, .int .i64 sd, .int .i64 pr, .string bs] 36)).heap.size (w.alloc (.cells #[.int .i64 kd, .int .i64 sd, .int .i64 pr, .string bs] 36))
  cases ha : filterOkB kd sd pr bs with
  | false =>
    have HF : Hid (filterText kd sd pr bs = ⟨#[]⟩) := by simp [Hid, filterText, ha]
    go_enter Try.func16, Try.ntmps16
    go_wp2_with fail
    refine (calls_from hB (impl_FilterOk kd sd pr bs hb _)).mono ?_
    try clear hC hF hZ
    clear hB
    rintro e w1 ⟨rfl, hB⟩
    obtain ⟨hC, hF, hZ⟩ := bfacts hB
    go_wp2
    go_ret
    exact ⟨congrArg (fun x => Ending.returned (.string x)) HF.out.symm, below_of_alloc hB⟩
  | true =>
    have HF : Hid (filterText kd sd pr bs = pv kd ++ pv sd ++ pv pr ++ putText bs) := by simp [Hid, filterText, ha]
    obtain ⟨k1, k2, k3, k4, k5, k6, k7⟩ := filterOk_bd ha
    have u1 : IntKind.u64.wrap kd = kd := by rw [IntKind.wrap_u64]; omega
    have u2 : IntKind.u64.wrap sd = sd := by rw [IntKind.wrap_u64]; omega
    have u3 : IntKind.u64.wrap pr = pr := by rw [IntKind.wrap_u64]; omega
    have s1 := pv_size kd
    have s2 := pv_size sd
    have s3 := pv_size pr
    have s4 : (putText bs).size ≤ 1010 := by have := pv_size bs.size; rw [putText, ByteArray.size_append]; omega
    have t1 : (pv kd).size + (pv sd).size ≤ 9223372036854775807 := by omega
    have t2 : (pv kd ++ pv sd).size + (pv pr).size ≤ 9223372036854775807 := by rw [ByteArray.size_append]; omega
    have t3 : (pv kd ++ pv sd ++ pv pr).size + (putText bs).size ≤ 9223372036854775807 := by rw [ByteArray.size_append, ByteArray.size_append]; omega
    have r1 : ∀ wx : World, (Op.stringOp .add (pv kd) (pv sd)).run Try.prog wx = .ok (.string (pv kd ++ pv sd)) wx := fun wx => run_string_add_sum wx _ _ t1
    have r2 : ∀ wx : World, (Op.stringOp .add (pv kd ++ pv sd) (pv pr)).run Try.prog wx = .ok (.string (pv kd ++ pv sd ++ pv pr)) wx := fun wx => run_string_add_sum wx _ _ t2
    have r3 : ∀ wx : World, (Op.stringOp .add (pv kd ++ pv sd ++ pv pr) (putText bs)).run Try.prog wx = .ok (.string (pv kd ++ pv sd ++ pv pr ++ putText bs)) wx := fun wx => run_string_add_sum wx _ _ t3
    clear t1 t2 t3
    go_enter Try.func16, Try.ntmps16
    go_wp2_with fail
    refine (calls_from hB (impl_FilterOk kd sd pr bs hb _)).mono ?_
    try clear hC hF hZ
    clear hB
    rintro e w1 ⟨rfl, hB⟩
    obtain ⟨hC, hF, hZ⟩ := bfacts hB
    go_wp2_with fail
    have hstart : (w1.drew.cell? ⟨w.heap.size, 0, none⟩ = some (.int .i64 kd) ∧ w1.drew.cell? ⟨w.heap.size, 1, none⟩ = some (.int .i64 sd) ∧ w1.drew.cell? ⟨w.heap.size, 2, none⟩ = some (.int .i64 pr) ∧ w1.drew.cell? ⟨w.heap.size, 3, none⟩ = some (.string bs)) ∧ Hid (Below (w.alloc (.cells #[.int .i64 kd, .int .i64 sd, .int .i64 pr, .string bs] 36)).heap.size (w.alloc (.cells #[.int .i64 kd, .int .i64 sd, .int .i64 pr, .string bs] 36)) w1.drew) ∧ Hid (w.heap.size < w1.drew.heap.size) := by
      refine ⟨⟨?_, ?_, ?_, ?_⟩, hB.drew, ?_⟩
      · rw [World.cell?_drew, hC _ _ (by simp)]; simp
      · rw [World.cell?_drew, hC _ _ (by simp)]; simp
      · rw [World.cell?_drew, hC _ _ (by simp)]; simp
      · rw [World.cell?_drew, hC _ _ (by simp)]; simp
      · show w.heap.size < w1.heap.size
        simp at hZ; omega
    have hfin : Hid (∀ w', Below (w.alloc (.cells #[.int .i64 kd, .int .i64 sd, .int .i64 pr, .string bs] 36)).heap.size (w.alloc (.cells #[.int .i64 kd, .int .i64 sd, .int .i64 pr, .string bs] 36)) w' → Below w.heap.size w w') := fun _ h => below_of_alloc h
    clear hB hC hF hZ ha
    generalize (w.alloc (.cells #[.int .i64 kd, .int .i64 sd, .int .i64 pr, .string bs] 36)) = W at hstart hfin ⊢
    go_region_held3 (fun (w' : World) => (w'.cell? ⟨w.heap.size, 0, none⟩ = some (.int .i64 kd) ∧ w'.cell? ⟨w.heap.size, 1, none⟩ = some (.int .i64 sd) ∧ w'.cell? ⟨w.heap.size, 2, none⟩ = some (.int .i64 pr) ∧ w'.cell? ⟨w.heap.size, 3, none⟩ = some (.string bs)) ∧ Hid (Below W.heap.size W w') ∧ Hid (w.heap.size < w'.heap.size)) (assumption) (first
      | (go_at_call 31; refine (held_call (W := W) (b := w.heap.size) (x0 := .int .i64 kd) (x1 := .int .i64 sd) (x2 := .int .i64 pr) (x3 := .string bs) ?_ (impl_PutVar _ ?_ ?_ _)).mono ?_; assumption; omega; omega; rintro e w1 ⟨rfl, hS⟩)
      | (go_at_call 32; refine (held_call (W := W) (b := w.heap.size) (x0 := .int .i64 kd) (x1 := .int .i64 sd) (x2 := .int .i64 pr) (x3 := .string bs) ?_ (impl_PutText _ ?_ _)).mono ?_; assumption; omega; rintro e w1 ⟨rfl, hS⟩))
    all_goals go_wp2
    all_goals go_ret
    all_goals exact ⟨congrArg (fun x => Ending.returned (.string x)) HF.out.symm, hfin.out _ hS.2.1.out⟩

set_option maxHeartbeats 1000000 in
set_option maxRecDepth 100000 in
theorem spec_FilterText (kd sd pr : Int) (bs : ByteArray) (hb : bs.size ≤ maxLen) (w : World) :
    Calls Try.prog 18 #[.agg #[.int .i64 kd, .int .i64 sd, .int .i64 pr, .string bs]] w fun e w' => e = .returned (.string (filterText kd sd pr bs)) ∧ Below w.heap.size w w' := by
  have hB := Below.refl (w.alloc (.cells #[.int .i64 kd, .int .i64 sd, .int .i64 pr, .string bs] 36)).heap.size (w.alloc (.cells #[.int .i64 kd, .int .i64 sd, .int .i64 pr, .string bs] 36))
  cases ha : filterOkB kd sd pr bs with
  | false =>
    have HF : Hid (filterText kd sd pr bs = ⟨#[]⟩) := by simp [Hid, filterText, ha]
    go_enter Try.func18, Try.ntmps18
    go_wp2_with fail
    refine (calls_from hB (spec_FilterOk kd sd pr bs hb _)).mono ?_
    try clear hC hF hZ
    clear hB
    rintro e w1 ⟨rfl, hB⟩
    obtain ⟨hC, hF, hZ⟩ := bfacts hB
    go_wp2
    go_ret
    exact ⟨congrArg (fun x => Ending.returned (.string x)) HF.out.symm, below_of_alloc hB⟩
  | true =>
    have HF : Hid (filterText kd sd pr bs = pv kd ++ pv sd ++ pv pr ++ putText bs) := by simp [Hid, filterText, ha]
    obtain ⟨k1, k2, k3, k4, k5, k6, k7⟩ := filterOk_bd ha
    have u1 : IntKind.u64.wrap kd = kd := by rw [IntKind.wrap_u64]; omega
    have u2 : IntKind.u64.wrap sd = sd := by rw [IntKind.wrap_u64]; omega
    have u3 : IntKind.u64.wrap pr = pr := by rw [IntKind.wrap_u64]; omega
    have s1 := pv_size kd
    have s2 := pv_size sd
    have s3 := pv_size pr
    have s4 : (putText bs).size ≤ 1010 := by have := pv_size bs.size; rw [putText, ByteArray.size_append]; omega
    have t1 : (pv kd).size + (pv sd).size ≤ 9223372036854775807 := by omega
    have t2 : (pv kd ++ pv sd).size + (pv pr).size ≤ 9223372036854775807 := by rw [ByteArray.size_append]; omega
    have t3 : (pv kd ++ pv sd ++ pv pr).size + (putText bs).size ≤ 9223372036854775807 := by rw [ByteArray.size_append, ByteArray.size_append]; omega
    have r1 : ∀ wx : World, (Op.stringOp .add (pv kd) (pv sd)).run Try.prog wx = .ok (.string (pv kd ++ pv sd)) wx := fun wx => run_string_add_sum wx _ _ t1
    have r2 : ∀ wx : World, (Op.stringOp .add (pv kd ++ pv sd) (pv pr)).run Try.prog wx = .ok (.string (pv kd ++ pv sd ++ pv pr)) wx := fun wx => run_string_add_sum wx _ _ t2
    have r3 : ∀ wx : World, (Op.stringOp .add (pv kd ++ pv sd ++ pv pr) (putText bs)).run Try.prog wx = .ok (.string (pv kd ++ pv sd ++ pv pr ++ putText bs)) wx := fun wx => run_string_add_sum wx _ _ t3
    clear t1 t2 t3
    go_enter Try.func18, Try.ntmps18
    go_wp2_with fail
    refine (calls_from hB (spec_FilterOk kd sd pr bs hb _)).mono ?_
    try clear hC hF hZ
    clear hB
    rintro e w1 ⟨rfl, hB⟩
    obtain ⟨hC, hF, hZ⟩ := bfacts hB
    go_wp2_with fail
    have hstart : (w1.drew.cell? ⟨w.heap.size, 0, none⟩ = some (.int .i64 kd) ∧ w1.drew.cell? ⟨w.heap.size, 1, none⟩ = some (.int .i64 sd) ∧ w1.drew.cell? ⟨w.heap.size, 2, none⟩ = some (.int .i64 pr) ∧ w1.drew.cell? ⟨w.heap.size, 3, none⟩ = some (.string bs)) ∧ Hid (Below (w.alloc (.cells #[.int .i64 kd, .int .i64 sd, .int .i64 pr, .string bs] 36)).heap.size (w.alloc (.cells #[.int .i64 kd, .int .i64 sd, .int .i64 pr, .string bs] 36)) w1.drew) ∧ Hid (w.heap.size < w1.drew.heap.size) := by
      refine ⟨⟨?_, ?_, ?_, ?_⟩, hB.drew, ?_⟩
      · rw [World.cell?_drew, hC _ _ (by simp)]; simp
      · rw [World.cell?_drew, hC _ _ (by simp)]; simp
      · rw [World.cell?_drew, hC _ _ (by simp)]; simp
      · rw [World.cell?_drew, hC _ _ (by simp)]; simp
      · show w.heap.size < w1.heap.size
        simp at hZ; omega
    have hfin : Hid (∀ w', Below (w.alloc (.cells #[.int .i64 kd, .int .i64 sd, .int .i64 pr, .string bs] 36)).heap.size (w.alloc (.cells #[.int .i64 kd, .int .i64 sd, .int .i64 pr, .string bs] 36)) w' → Below w.heap.size w w') := fun _ h => below_of_alloc h
    clear hB hC hF hZ ha
    generalize (w.alloc (.cells #[.int .i64 kd, .int .i64 sd, .int .i64 pr, .string bs] 36)) = W at hstart hfin ⊢
    go_region_held3 (fun (w' : World) => (w'.cell? ⟨w.heap.size, 0, none⟩ = some (.int .i64 kd) ∧ w'.cell? ⟨w.heap.size, 1, none⟩ = some (.int .i64 sd) ∧ w'.cell? ⟨w.heap.size, 2, none⟩ = some (.int .i64 pr) ∧ w'.cell? ⟨w.heap.size, 3, none⟩ = some (.string bs)) ∧ Hid (Below W.heap.size W w') ∧ Hid (w.heap.size < w'.heap.size)) (assumption) (first
      | (go_at_call 37; refine (held_call (W := W) (b := w.heap.size) (x0 := .int .i64 kd) (x1 := .int .i64 sd) (x2 := .int .i64 pr) (x3 := .string bs) ?_ (spec_PutVar _ ?_ ?_ _)).mono ?_; assumption; omega; omega; rintro e w1 ⟨rfl, hS⟩)
      | (go_at_call 38; refine (held_call (W := W) (b := w.heap.size) (x0 := .int .i64 kd) (x1 := .int .i64 sd) (x2 := .int .i64 pr) (x3 := .string bs) ?_ (spec_PutText _ ?_ _)).mono ?_; assumption; omega; rintro e w1 ⟨rfl, hS⟩))
    all_goals go_wp2
    all_goals go_ret
    all_goals exact ⟨congrArg (fun x => Ending.returned (.string x)) HF.out.symm, hfin.out _ hS.2.1.out⟩

end Go.Proofs.Ytonkjdjancnajac
