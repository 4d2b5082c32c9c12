/- The law on BloomMay. -/
import Derived.Test.YtdiglhphoplplaaBMay
namespace Go.Proofs.Ytdiglhphoplplaa
open Go.RowKit

theorem walk_BloomMay (v : Value) (hv : IsFilter v) (s : ByteArray) (hs : s.size ≤ maxLen) (w : World) :
    Calls Try.prog 7 #[v, .string s] w fun e w' => e = .returned (.bool true) ∧ Below w.heap.size w w' := by
  obtain ⟨kd, sd, pr, bs, rfl, hb, _, _, _⟩ := hv
  have hB := Below.refl (w.alloc (.cells #[.int .i64 kd, .int .i64 sd, .int .i64 pr, .string bs] 38)).heap.size (w.alloc (.cells #[.int .i64 kd, .int .i64 sd, .int .i64 pr, .string bs] 38))
  by_cases hbig0 : (1048576 : Int) < (s.size : Int)
  · go_enter Try.func7, Try.ntmps7
    go_wp2
    go_ret
    exact ⟨rfl, below_of_alloc hB⟩
  · by_cases hbig : (1048576 : Int) < (bs.size : Int)
    · go_enter Try.func7, Try.ntmps7
      go_wp2_with fail
      refine (calls_from hB (laws_szFilter kd sd pr bs _ hb (by omega) _)).mono ?_
      try clear hC hF hZ
      clear hB
      rintro e w1 ⟨rfl, hB⟩
      obtain ⟨hC, hF, hZ⟩ := bfacts hB
      go_wp2
      go_ret
      exact ⟨rfl, below_of_alloc hB⟩
    · have hx1 : ¬ ((1048576 : Int) - (bs.size : Int) < 0) := by omega
      go_enter Try.func7, Try.ntmps7
      go_wp2_with fail
      refine (calls_from hB (laws_szFilter kd sd pr bs _ hb (by omega) _)).mono ?_
      try clear hC hF hZ
      clear hB
      rintro e w1 ⟨rfl, hB⟩
      obtain ⟨hC, hF, hZ⟩ := bfacts hB
      go_wp2_with fail
      refine (calls_from hB (laws_toFilter kd sd pr bs _)).mono ?_
      try clear hC hF hZ
      clear hB
      rintro e w1 ⟨rfl, hB⟩
      obtain ⟨hC, hF, hZ⟩ := bfacts hB
      go_wp2_with fail
      refine (calls_from hB (spec_BloomMay kd sd pr bs s hb hs _)).mono ?_
      try clear hC hF hZ
      clear hB
      rintro e w1 ⟨rfl, hB⟩
      obtain ⟨hC, hF, hZ⟩ := bfacts hB
      go_wp2_with fail
      refine (calls_from hB (laws_toFilter kd sd pr bs _)).mono ?_
      try clear hC hF hZ
      clear hB
      rintro e w1 ⟨rfl, hB⟩
      obtain ⟨hC, hF, hZ⟩ := bfacts hB
      go_wp2_with fail
      refine (calls_from hB (impl_BloomMay kd sd pr bs s hb hs _)).mono ?_
      try clear hC hF hZ
      clear hB
      rintro e w1 ⟨rfl, hB⟩
      obtain ⟨hC, hF, hZ⟩ := bfacts hB
      go_wp2
      go_ret
      exact ⟨rfl, below_of_alloc hB⟩

end Go.Proofs.Ytdiglhphoplplaa
