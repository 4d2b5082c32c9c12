/- The law on KeyText. -/
import Derived.Test.YtmaajplngppkeabKText
namespace Go.Proofs.Ytmaajplngppkeab
open Go.RowKit

theorem walk_KeyText (v : Value) (hv : IsKey v) (w : World) :
    Calls Try.prog 5 #[v] w fun e w' => e = .returned (.bool true) ∧ Below w.heap.size w w' := by
  obtain ⟨u, q, k, rfl, hu, hq, hk⟩ := hv
  have hB := Below.refl (w.alloc (.cells #[.string u, .int .i64 q, .int .i64 k] 23)).heap.size (w.alloc (.cells #[.string u, .int .i64 q, .int .i64 k] 23))
  by_cases hbig : (1048576 : Int) < (u.size : Int)
  · go_enter Try.func5, Try.ntmps5
    go_wp2_with fail
    refine (calls_from hB (laws_szKey u q k _ hu (by omega) _)).mono ?_
    try clear hC hF hZ
    clear hB
    rintro e w1 ⟨rfl, hB⟩
    obtain ⟨hC, hF, hZ⟩ := bfacts hB
    go_wp2
    go_ret
    exact ⟨rfl, below_of_alloc hB⟩
  · go_enter Try.func5, Try.ntmps5
    go_wp2_with fail
    refine (calls_from hB (laws_szKey u q k _ hu (by omega) _)).mono ?_
    try clear hC hF hZ
    clear hB
    rintro e w1 ⟨rfl, hB⟩
    obtain ⟨hC, hF, hZ⟩ := bfacts hB
    go_wp2_with fail
    refine (calls_from hB (laws_toKey u q k _)).mono ?_
    try clear hC hF hZ
    clear hB
    rintro e w1 ⟨rfl, hB⟩
    obtain ⟨hC, hF, hZ⟩ := bfacts hB
    go_wp2_with fail
    refine (calls_from hB (spec_KeyText u q k _)).mono ?_
    try clear hC hF hZ
    clear hB
    rintro e w1 ⟨rfl, hB⟩
    obtain ⟨hC, hF, hZ⟩ := bfacts hB
    go_wp2_with fail
    refine (calls_from hB (laws_toKey u q k _)).mono ?_
    try clear hC hF hZ
    clear hB
    rintro e w1 ⟨rfl, hB⟩
    obtain ⟨hC, hF, hZ⟩ := bfacts hB
    go_wp2_with fail
    refine (calls_from hB (impl_KeyText u q k _)).mono ?_
    try clear hC hF hZ
    clear hB
    rintro e w1 ⟨rfl, hB⟩
    obtain ⟨hC, hF, hZ⟩ := bfacts hB
    go_wp2
    go_ret
    exact ⟨rfl, below_of_alloc hB⟩

end Go.Proofs.Ytmaajplngppkeab
