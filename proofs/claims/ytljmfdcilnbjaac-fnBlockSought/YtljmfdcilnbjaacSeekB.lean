/- The order along a row; the function that SeekEntry hands to the search. -/
import Derived.Test.YtljmfdcilnbjaacSeek
namespace Go.Proofs.Ytljmfdcilnbjaac
set_option maxRecDepth 100000
open Go.RowKit Go.Deep

theorem row_le {E : Ents} {len : Nat} (h : rowOkB E len = true) (i : Nat) : ∀ d, i + d < len → keyCmpI (E.U i) (E.Q i) (E.K i) (E.U (i + d)) (E.Q (i + d)) (E.K (i + d)) ≤ 0
  | 0, _ => by
    have := keyCmp_neg (E.U i) (E.U i) (E.Q i) (E.K i) (E.Q i) (E.K i)
    simp only [Nat.add_zero]
    omega
  | d + 1, hd => by
    have ok := fun j hj => keyOk_of_ent ((rowOk_out h).2 j hj).1
    refine keyCmp_trans (ok i (by omega)) (ok (i + d) (by omega)) (ok (i + (d + 1)) hd) (row_le h i d (by omega)) ?_
    have := ((rowOk_out h).2 (i + d + 1) (by omega)).2 (by omega)
    rw [Nat.add_sub_cancel] at this
    have e : keyCmpI (E.U (i + d)) (E.Q (i + d)) (E.K (i + d)) (E.U (i + (d + 1))) (E.Q (i + (d + 1))) (E.K (i + (d + 1))) = ordI E (i + d) := keyCmp_ok (ok (i + d) (by omega)) (ok (i + (d + 1)) hd)
    rw [e]
    omega

theorem row_mono {E : Ents} {len : Nat} {u : ByteArray} {q k : Int} (h : rowOkB E len = true) (hk : keyOkB u q k = true) (i j : Nat) (hij : i ≤ j) (hj : j < len) (ho : ordK E u q k j < 0) : ordK E u q k i < 0 := by
  obtain ⟨d, rfl⟩ : ∃ d, j = i + d := ⟨j - i, by omega⟩
  have ok := fun m hm => keyOk_of_ent ((rowOk_out h).2 m hm).1
  have e1 : keyCmpI (E.U i) (E.Q i) (E.K i) u q k = ordK E u q k i := keyCmp_ok (ok i (by omega)) hk
  have e2 : keyCmpI (E.U (i + d)) (E.Q (i + d)) (E.K (i + d)) u q k = ordK E u q k (i + d) := keyCmp_ok (ok (i + d) hj) hk
  rw [← e2] at ho
  rw [← e1]
  have hle := row_le h i d hj
  rcases Int.lt_or_le (keyCmpI (E.U i) (E.Q i) (E.K i) u q k) 0 with a | a
  · exact a
  · have n1 := keyCmp_neg u (E.U i) q k (E.Q i) (E.K i)
    have t := keyCmp_trans hk (ok i (by omega)) (ok (i + d) hj) (by omega) hle
    have n2 := keyCmp_neg u (E.U (i + d)) q k (E.Q (i + d)) (E.K (i + d))
    omega

theorem impl_SeekCmp (eu : ByteArray) (eq ek : Int) (ex u : ByteArray) (q k : Int) (w : World) :
    Calls Try.prog 45 #[.agg #[.string eu, .int .i64 eq, .int .i64 ek, .string ex], .agg #[.string u, .int .i64 q, .int .i64 k]] w fun e w' => e = .returned (.int .i64 (orI (cmpS eu u) (cmpI q eq) (cmpI k ek))) ∧ Below w.heap.size w w' := by
  have hB := Below.refl ((w.alloc (.cells #[.string eu, .int .i64 eq, .int .i64 ek, .string ex] 53)).alloc (.cells #[.string u, .int .i64 q, .int .i64 k] 34)).heap.size ((w.alloc (.cells #[.string eu, .int .i64 eq, .int .i64 ek, .string ex] 53)).alloc (.cells #[.string u, .int .i64 q, .int .i64 k] 34))
  go_enter Try.func45, Try.ntmps45
  go_wp2_with fail
  refine (calls_from hB (impl_keyOrder eu eq ek u q k _)).mono ?_
  try clear hC hF hZ
  clear hB
  rintro e w1 ⟨rfl, hB⟩
  obtain ⟨hC, hF, hZ⟩ := bfacts hB
  go_wp2
  go_ret
  exact ⟨rfl, below_of_alloc (below_of_alloc hB)⟩

end Go.Proofs.Ytljmfdcilnbjaac
