/- The laws on RibbonMay and FilterMay. -/
import Derived.Test.YtkopoonkedcpmacDoorRibbon
import Derived.Test.YtkopoonkedcpmacDoorBMay
namespace Go.Proofs.YtkopoonkedcpmacDoor
open Go.RowKit

theorem walk_RibbonMay (v : Value) (hv : IsFilter v) (s : ByteArray) (hs : s.size ≤ maxLen) (w : World) (hT : TabAt w) :
    Calls Tryd.prog 3 #[v, .string s] w fun e w' => e = .returned (.bool true) ∧ Below w.heap.size w w' := by
  obtain ⟨kd, sd, pr, bs, rfl, hb, _, _, _⟩ := hv
  have HT := hide hT
  clear hT
  have hB := Below.refl (w.alloc (.cells #[.int .i64 kd, .int .i64 sd, .int .i64 pr, .string bs] 23)).heap.size (w.alloc (.cells #[.int .i64 kd, .int .i64 sd, .int .i64 pr, .string bs] 23))
  by_cases hbig0 : (1048576 : Int) < (s.size : Int)
  · go_enter Tryd.func3, Tryd.ntmps3
    go_wp2
    go_ret
    exact ⟨rfl, below_of_alloc hB⟩
  · by_cases hbig : (1048576 : Int) < (bs.size : Int)
    · go_enter Tryd.func3, Tryd.ntmps3
      go_wp2_with fail
      refine (calls_from hB (laws_szFilter kd sd pr bs _ hb (by omega) _)).mono ?_
      try clear hC hF hZ
      clear hB
      rintro e w1 ⟨rfl, hB⟩
      obtain ⟨hC, hF, hZ⟩ := bfacts hB
      go_wp2
      go_ret
      exact ⟨rfl, below_of_alloc hB⟩
    · have hx1 : ¬ ((1048576 : Int) - (bs.size : Int) < 0) := by omega
      go_enter Tryd.func3, Tryd.ntmps3
      go_wp2_with fail
      refine (calls_from hB (laws_szFilter kd sd pr bs _ hb (by omega) _)).mono ?_
      try clear hC hF hZ
      clear hB
      rintro e w1 ⟨rfl, hB⟩
      obtain ⟨hC, hF, hZ⟩ := bfacts hB
      go_wp2_with fail
      refine (calls_from hB (laws_toFilter kd sd pr bs _)).mono ?_
      try clear hC hF hZ
      clear hB
      rintro e w1 ⟨rfl, hB⟩
      obtain ⟨hC, hF, hZ⟩ := bfacts hB
      go_wp2_with fail
      refine (calls_from hB (spec_RibbonMay kd sd pr bs s hb hs _)).mono ?_
      try clear hC hF hZ
      clear hB
      rintro e w1 ⟨rfl, hB⟩
      obtain ⟨hC, hF, hZ⟩ := bfacts hB
      go_wp2_with fail
      refine (calls_from hB (laws_toFilter kd sd pr bs _)).mono ?_
      try clear hC hF hZ
      clear hB
      rintro e w1 ⟨rfl, hB⟩
      obtain ⟨hC, hF, hZ⟩ := bfacts hB
      have hTT := HT.out.below (below_of_alloc hB) HT.out.pos
      have cr := fun wx (h : TabAt wx) => impl_RibbonMay kd sd pr bs s hb hs wx h
      go_wp2_with fail
      refine (calls_from hB (cr _ hTT)).mono ?_
      try clear hC hF hZ
      clear hB hTT cr
      rintro e w1 ⟨rfl, hB⟩
      obtain ⟨hC, hF, hZ⟩ := bfacts hB
      go_wp2
      go_ret
      exact ⟨rfl, below_of_alloc hB⟩

def filterMayB (kd sd pr : Int) (bs u : ByteArray) : Bool := bloomMayB kd sd pr bs u && ribB kd sd pr bs u

theorem spec_FilterMay (kd sd pr : Int) (bs user : ByteArray) (hb : bs.size ≤ maxLen) (hu : user.size ≤ maxLen) (w : World) :
    Calls Tryd.prog 9 #[.agg #[.int .i64 kd, .int .i64 sd, .int .i64 pr, .string bs], .string user] w fun e w' => e = .returned (.bool (filterMayB kd sd pr bs user)) ∧ Below w.heap.size w w' := by
  have hB := Below.refl (w.alloc (.cells #[.int .i64 kd, .int .i64 sd, .int .i64 pr, .string bs] 26)).heap.size (w.alloc (.cells #[.int .i64 kd, .int .i64 sd, .int .i64 pr, .string bs] 26))
  cases hm : bloomMayB kd sd pr bs user with
  | false =>
    have HV : Hid (false = filterMayB kd sd pr bs user) := by show _ = _; unfold filterMayB; rw [hm]; rfl
    have cb := hm ▸ spec_BloomMay kd sd pr bs user hb hu
    go_enter Tryd.func9, Tryd.ntmps9
    go_wp2_with fail
    refine (calls_from hB (cb _)).mono ?_
    try clear hC hF hZ
    clear hB
    rintro e w1 ⟨rfl, hB⟩
    obtain ⟨hC, hF, hZ⟩ := bfacts hB
    go_wp2
    go_ret
    exact ⟨ret_boolR HV.out, below_of_alloc hB⟩
  | true =>
    have HV : Hid (ribB kd sd pr bs user = filterMayB kd sd pr bs user) := by show _ = _; unfold filterMayB; rw [hm]; rfl
    have cb := hm ▸ spec_BloomMay kd sd pr bs user hb hu
    go_enter Tryd.func9, Tryd.ntmps9
    go_wp2_with fail
    refine (calls_from hB (cb _)).mono ?_
    try clear hC hF hZ
    clear hB
    rintro e w1 ⟨rfl, hB⟩
    obtain ⟨hC, hF, hZ⟩ := bfacts hB
    clear cb
    go_wp2_with fail
    refine (calls_from hB (spec_RibbonMay kd sd pr bs user hb hu _)).mono ?_
    try clear hC hF hZ
    clear hB
    rintro e w1 ⟨rfl, hB⟩
    obtain ⟨hC, hF, hZ⟩ := bfacts hB
    go_wp2
    go_ret
    exact ⟨ret_boolR HV.out, below_of_alloc hB⟩

theorem impl_FilterMay (kd sd pr : Int) (bs user : ByteArray) (hb : bs.size ≤ maxLen) (hu : user.size ≤ maxLen) (w : World) (hT : TabAt w) :
    Calls Tryd.prog 10 #[.agg #[.int .i64 kd, .int .i64 sd, .int .i64 pr, .string bs], .string user] w fun e w' => e = .returned (.bool (filterMayB kd sd pr bs user)) ∧ Below w.heap.size w w' := by
  have HT := hide hT
  clear hT
  have hB := Below.refl (w.alloc (.cells #[.int .i64 kd, .int .i64 sd, .int .i64 pr, .string bs] 26)).heap.size (w.alloc (.cells #[.int .i64 kd, .int .i64 sd, .int .i64 pr, .string bs] 26))
  cases hm : bloomMayB kd sd pr bs user with
  | false =>
    have HV : Hid (false = filterMayB kd sd pr bs user) := by show _ = _; unfold filterMayB; rw [hm]; rfl
    have cb := hm ▸ impl_BloomMay kd sd pr bs user hb hu
    go_enter Tryd.func10, Tryd.ntmps10
    go_wp2_with fail
    refine (calls_from hB (cb _)).mono ?_
    try clear hC hF hZ
    clear hB
    rintro e w1 ⟨rfl, hB⟩
    obtain ⟨hC, hF, hZ⟩ := bfacts hB
    go_wp2
    go_ret
    exact ⟨ret_boolR HV.out, below_of_alloc hB⟩
  | true =>
    have HV : Hid (ribB kd sd pr bs user = filterMayB kd sd pr bs user) := by show _ = _; unfold filterMayB; rw [hm]; rfl
    have cb := hm ▸ impl_BloomMay kd sd pr bs user hb hu
    go_enter Tryd.func10, Tryd.ntmps10
    go_wp2_with fail
    refine (calls_from hB (cb _)).mono ?_
    try clear hC hF hZ
    clear hB
    rintro e w1 ⟨rfl, hB⟩
    obtain ⟨hC, hF, hZ⟩ := bfacts hB
    clear cb
    have hTT := HT.out.below (below_of_alloc hB) HT.out.pos
    have cr := fun wx (h : TabAt wx) => impl_RibbonMay kd sd pr bs user hb hu wx h
    go_wp2_with fail
    refine (calls_from hB (cr _ hTT)).mono ?_
    try clear hC hF hZ
    clear hB hTT cr
    rintro e w1 ⟨rfl, hB⟩
    obtain ⟨hC, hF, hZ⟩ := bfacts hB
    go_wp2
    go_ret
    exact ⟨ret_boolR HV.out, below_of_alloc hB⟩

theorem walk_FilterMay (v : Value) (hv : IsFilter v) (s : ByteArray) (hs : s.size ≤ maxLen) (w : World) (hT : TabAt w) :
    Calls Tryd.prog 4 #[v, .string s] w fun e w' => e = .returned (.bool true) ∧ Below w.heap.size w w' := by
  obtain ⟨kd, sd, pr, bs, rfl, hb, _, _, _⟩ := hv
  have HT := hide hT
  clear hT
  have hB := Below.refl (w.alloc (.cells #[.int .i64 kd, .int .i64 sd, .int .i64 pr, .string bs] 23)).heap.size (w.alloc (.cells #[.int .i64 kd, .int .i64 sd, .int .i64 pr, .string bs] 23))
  by_cases hbig0 : (1048576 : Int) < (s.size : Int)
  · go_enter Tryd.func4, Tryd.ntmps4
    go_wp2
    go_ret
    exact ⟨rfl, below_of_alloc hB⟩
  · by_cases hbig : (1048576 : Int) < (bs.size : Int)
    · go_enter Tryd.func4, Tryd.ntmps4
      go_wp2_with fail
      refine (calls_from hB (laws_szFilter kd sd pr bs _ hb (by omega) _)).mono ?_
      try clear hC hF hZ
      clear hB
      rintro e w1 ⟨rfl, hB⟩
      obtain ⟨hC, hF, hZ⟩ := bfacts hB
      go_wp2
      go_ret
      exact ⟨rfl, below_of_alloc hB⟩
    · have hx1 : ¬ ((1048576 : Int) - (bs.size : Int) < 0) := by omega
      go_enter Tryd.func4, Tryd.ntmps4
      go_wp2_with fail
      refine (calls_from hB (laws_szFilter kd sd pr bs _ hb (by omega) _)).mono ?_
      try clear hC hF hZ
      clear hB
      rintro e w1 ⟨rfl, hB⟩
      obtain ⟨hC, hF, hZ⟩ := bfacts hB
      go_wp2_with fail
      refine (calls_from hB (laws_toFilter kd sd pr bs _)).mono ?_
      try clear hC hF hZ
      clear hB
      rintro e w1 ⟨rfl, hB⟩
      obtain ⟨hC, hF, hZ⟩ := bfacts hB
      go_wp2_with fail
      refine (calls_from hB (spec_FilterMay kd sd pr bs s hb hs _)).mono ?_
      try clear hC hF hZ
      clear hB
      rintro e w1 ⟨rfl, hB⟩
      obtain ⟨hC, hF, hZ⟩ := bfacts hB
      go_wp2_with fail
      refine (calls_from hB (laws_toFilter kd sd pr bs _)).mono ?_
      try clear hC hF hZ
      clear hB
      rintro e w1 ⟨rfl, hB⟩
      obtain ⟨hC, hF, hZ⟩ := bfacts hB
      have hTT := HT.out.below (below_of_alloc hB) HT.out.pos
      have cr := fun wx (h : TabAt wx) => impl_FilterMay kd sd pr bs s hb hs wx h
      go_wp2_with fail
      refine (calls_from hB (cr _ hTT)).mono ?_
      try clear hC hF hZ
      clear hB hTT cr
      rintro e w1 ⟨rfl, hB⟩
      obtain ⟨hC, hF, hZ⟩ := bfacts hB
      go_wp2
      go_ret
      exact ⟨rfl, below_of_alloc hB⟩

end Go.Proofs.YtkopoonkedcpmacDoor
