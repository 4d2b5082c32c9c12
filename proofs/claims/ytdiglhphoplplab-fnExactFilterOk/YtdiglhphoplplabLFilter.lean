/- The law on FilterOk. -/
import Derived.Test.YtdiglhphoplplabFilter
namespace Go.Proofs.Ytdiglhphoplplab
open Go.RowKit

theorem below_of_alloc_f {w w1 : World} {o : Obj} (hb : Below (w.alloc o).heap.size (w.alloc o) w1) : Below w.heap.size w w1 := below_of_alloc hb

theorem walk_FilterOk (v : Value) (hv : IsFilter v) (w : World) :
    Calls Try.prog 3 #[v] w fun e w' => e = .returned (.bool true) ∧ Below w.heap.size w w' := by
  obtain ⟨kd, sd, pr, bs, rfl, hb, _, _, _⟩ := hv
  have hB := Below.refl (w.alloc (.cells #[.int .i64 kd, .int .i64 sd, .int .i64 pr, .string bs] 23)).heap.size (w.alloc (.cells #[.int .i64 kd, .int .i64 sd, .int .i64 pr, .string bs] 23))
  by_cases hbig : (1048576 : Int) < (bs.size : Int)
  · go_enter Try.func3, Try.ntmps3
    go_wp2_with fail
    refine (calls_from hB (laws_szFilter kd sd pr bs _ hb (by omega) _)).mono ?_
    try clear hC hF hZ
    clear hB
    rintro e w1 ⟨rfl, hB⟩
    obtain ⟨hC, hF, hZ⟩ := bfacts hB
    go_wp2
    go_ret
    exact ⟨rfl, below_of_alloc hB⟩
  · have hx1 : ¬ ((1048576 : Int) - (bs.size : Int) < 0) := by omega
    go_enter Try.func3, Try.ntmps3
    go_wp2_with fail
    refine (calls_from hB (laws_szFilter kd sd pr bs _ hb (by omega) _)).mono ?_
    try clear hC hF hZ
    clear hB
    rintro e w1 ⟨rfl, hB⟩
    obtain ⟨hC, hF, hZ⟩ := bfacts hB
    go_wp2_with fail
    refine (calls_from hB (laws_toFilter kd sd pr bs _)).mono ?_
    try clear hC hF hZ
    clear hB
    rintro e w1 ⟨rfl, hB⟩
    obtain ⟨hC, hF, hZ⟩ := bfacts hB
    go_wp2_with fail
    refine (calls_from hB (spec_FilterOk kd sd pr bs hb _)).mono ?_
    try clear hC hF hZ
    clear hB
    rintro e w1 ⟨rfl, hB⟩
    obtain ⟨hC, hF, hZ⟩ := bfacts hB
    go_wp2_with fail
    refine (calls_from hB (laws_toFilter kd sd pr bs _)).mono ?_
    try clear hC hF hZ
    clear hB
    rintro e w1 ⟨rfl, hB⟩
    obtain ⟨hC, hF, hZ⟩ := bfacts hB
    go_wp2_with fail
    refine (calls_from hB (impl_FilterOk kd sd pr bs hb _)).mono ?_
    try clear hC hF hZ
    clear hB
    rintro e w1 ⟨rfl, hB⟩
    obtain ⟨hC, hF, hZ⟩ := bfacts hB
    go_wp2
    go_ret
    exact ⟨rfl, below_of_alloc hB⟩

end Go.Proofs.Ytdiglhphoplplab
