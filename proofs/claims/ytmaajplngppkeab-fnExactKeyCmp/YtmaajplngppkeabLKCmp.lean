/- The law on KeyCmp. -/
import Derived.Test.YtmaajplngppkeabCmp
namespace Go.Proofs.Ytmaajplngppkeab
open Go.RowKit

theorem calls_fromH {P : Program} {f : FuncId} {args : Array Value} {W w1 w2 : World} {v : Value} (hb : Hid (Below W.heap.size W w1)) (he : ∃ n, w2 = w1.drewN n) (h : Calls P f args w2 fun e w' => e = .returned v ∧ Below w2.heap.size w2 w') :
    Calls P f args w2 fun e w' => e = .returned v ∧ Hid (Below W.heap.size W w') := by
  have hb' : Below W.heap.size W w2 := by obtain ⟨n, rfl⟩ := he; exact below_drewN hb.out n
  exact calls_from hb' h

theorem two_boxes {w w1 : World} {S T : TypeId} {x0 x1 x2 y0 y1 y2 : Value} (hB : Hid (Below ((w.alloc (.cells #[x0, x1, x2] S)).alloc (.cells #[y0, y1, y2] T)).heap.size ((w.alloc (.cells #[x0, x1, x2] S)).alloc (.cells #[y0, y1, y2] T)) w1)) :
    w1.cell? ⟨w.heap.size, 0, none⟩ = some x0 ∧ w1.cell? ⟨w.heap.size, 1, none⟩ = some x1 ∧ w1.cell? ⟨w.heap.size, 2, none⟩ = some x2 ∧ w1.cell? ⟨w.heap.size + 1, 0, none⟩ = some y0 ∧ w1.cell? ⟨w.heap.size + 1, 1, none⟩ = some y1 ∧ w1.cell? ⟨w.heap.size + 1, 2, none⟩ = some y2 := by
  have hB' := hB.out
  refine ⟨?_, ?_, ?_, ?_, ?_, ?_⟩ <;> (rw [hB'.cell (by simp <;> omega)]; simp)

set_option maxHeartbeats 2000000 in
theorem walk_KeyCmp (v : Value) (hv : IsKey v) (v2 : Value) (hv2 : IsKey v2) (w : World) :
    Calls Try.prog 4 #[v, v2] w fun e w' => e = .returned (.bool true) ∧ Below w.heap.size w w' := by
  obtain ⟨u, q, k, rfl, hu, hq, hk⟩ := hv
  obtain ⟨u2, q2, k2, rfl, hu2, hq2, hk2⟩ := hv2
  have hB := Below.refl ((w.alloc (.cells #[.string u, .int .i64 q, .int .i64 k] 23)).alloc (.cells #[.string u2, .int .i64 q2, .int .i64 k2] 23)).heap.size ((w.alloc (.cells #[.string u, .int .i64 q, .int .i64 k] 23)).alloc (.cells #[.string u2, .int .i64 q2, .int .i64 k2] 23))
  by_cases hbig : (1048576 : Int) < (u.size : Int)
  · go_enter Try.func4, Try.ntmps4
    go_wp2_with fail
    refine (calls_from hB (laws_szKey u q k _ hu (by omega) _)).mono ?_
    try clear hC hF hZ
    clear hB
    rintro e w1 ⟨rfl, hB⟩
    obtain ⟨hC, hF, hZ⟩ := bfacts hB
    go_wp2
    go_ret
    exact ⟨rfl, below_of_alloc (below_of_alloc hB)⟩
  · by_cases hbig2 : (1048576 : Int) - (u.size : Int) < (u2.size : Int)
    · go_enter Try.func4, Try.ntmps4
      go_wp2_with fail
      refine (calls_from hB (laws_szKey u q k _ hu (by omega) _)).mono ?_
      try clear hC hF hZ
      clear hB
      rintro e w1 ⟨rfl, hB⟩
      obtain ⟨hC, hF, hZ⟩ := bfacts hB
      go_wp2_with fail
      refine (calls_from hB (laws_szKey u2 q2 k2 _ hu2 (by omega) _)).mono ?_
      try clear hC hF hZ
      clear hB
      rintro e w1 ⟨rfl, hB⟩
      obtain ⟨hC, hF, hZ⟩ := bfacts hB
      go_wp2
      go_ret
      exact ⟨rfl, below_of_alloc (below_of_alloc hB)⟩
    · go_enter Try.func4, Try.ntmps4
      go_wp2_with fail
      refine (calls_from hB (laws_szKey u q k _ hu (by omega) _)).mono ?_
      try clear hC hF hZ
      clear hB
      rintro e w1 ⟨rfl, hB⟩
      obtain ⟨hC, hF, hZ⟩ := bfacts hB
      go_wp2_with fail
      refine (calls_from hB (laws_szKey u2 q2 k2 _ hu2 (by omega) _)).mono ?_
      try clear hC hF hZ
      clear hB
      rintro e w1 ⟨rfl, hB⟩
      obtain ⟨hC, hF, hZ⟩ := bfacts hB
      have HB : Hid _ := hB
      obtain ⟨a0, a1, a2, b0, b1, b2⟩ := two_boxes HB
      clear hB hC hF hZ
      go_wp2_with fail
      go_region_with (first
        | (go_at_call_of 11 (Value.agg #[Value.string u, Value.int .i64 q, Value.int .i64 k]); refine (calls_fromH HB (by first | exact ⟨0, rfl⟩ | exact ⟨1, rfl⟩ | exact ⟨2, rfl⟩) (laws_toKey u q k _)).mono ?_; clear a0 a1 a2 b0 b1 b2 HB; rintro e w1 ⟨rfl, HB⟩; obtain ⟨a0, a1, a2, b0, b1, b2⟩ := two_boxes HB)
        | (go_at_call_of 11 (Value.agg #[Value.string u2, Value.int .i64 q2, Value.int .i64 k2]); refine (calls_fromH HB (by first | exact ⟨0, rfl⟩ | exact ⟨1, rfl⟩ | exact ⟨2, rfl⟩) (laws_toKey u2 q2 k2 _)).mono ?_; clear a0 a1 a2 b0 b1 b2 HB; rintro e w1 ⟨rfl, HB⟩; obtain ⟨a0, a1, a2, b0, b1, b2⟩ := two_boxes HB)
        | (go_at_call 13; refine (calls_fromH HB (by first | exact ⟨0, rfl⟩ | exact ⟨1, rfl⟩ | exact ⟨2, rfl⟩) (spec_KeyCmp u q k u2 q2 k2 _)).mono ?_; clear a0 a1 a2 b0 b1 b2 HB; rintro e w1 ⟨rfl, HB⟩; obtain ⟨a0, a1, a2, b0, b1, b2⟩ := two_boxes HB))
      all_goals go_wp2_with fail
      all_goals go_region_with (first
        | (go_at_call_of 11 (Value.agg #[Value.string u, Value.int .i64 q, Value.int .i64 k]); refine (calls_fromH HB (by first | exact ⟨0, rfl⟩ | exact ⟨1, rfl⟩ | exact ⟨2, rfl⟩) (laws_toKey u q k _)).mono ?_; clear a0 a1 a2 b0 b1 b2 HB; rintro e w1 ⟨rfl, HB⟩; obtain ⟨a0, a1, a2, b0, b1, b2⟩ := two_boxes HB)
        | (go_at_call_of 11 (Value.agg #[Value.string u2, Value.int .i64 q2, Value.int .i64 k2]); refine (calls_fromH HB (by first | exact ⟨0, rfl⟩ | exact ⟨1, rfl⟩ | exact ⟨2, rfl⟩) (laws_toKey u2 q2 k2 _)).mono ?_; clear a0 a1 a2 b0 b1 b2 HB; rintro e w1 ⟨rfl, HB⟩; obtain ⟨a0, a1, a2, b0, b1, b2⟩ := two_boxes HB)
        | (go_at_call 14; refine (calls_fromH HB (by first | exact ⟨0, rfl⟩ | exact ⟨1, rfl⟩ | exact ⟨2, rfl⟩) (impl_KeyCmp u q k u2 q2 k2 _)).mono ?_; clear a0 a1 a2 b0 b1 b2 HB; rintro e w1 ⟨rfl, HB⟩; obtain ⟨a0, a1, a2, b0, b1, b2⟩ := two_boxes HB))
      all_goals go_wp2
      all_goals go_ret
      all_goals exact ⟨rfl, below_of_alloc (below_of_alloc (by first | exact HB.out | exact Below.drew HB.out | exact Below.drew (Below.drew HB.out)))⟩

end Go.Proofs.Ytmaajplngppkeab
