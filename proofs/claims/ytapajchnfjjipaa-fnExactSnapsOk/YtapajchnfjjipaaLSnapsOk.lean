/- The law on SnapsOk. (By gen_law3.py.) -/
import Derived.Test.YtapajchnfjjipaaSnapsS
import Derived.Test.YtapajchnfjjipaaRowArg
import Derived.Test.YtapajchnfjjipaaMine
import Derived.Test.YtapajchnfjjipaaReg
import Derived.Deep.RegionHeld3
namespace Go.Proofs.Ytapajchnfjjipaa
set_option maxRecDepth 100000
open Go.RowKit Go.Deep

set_option linter.unusedSimpArgs false in
set_option linter.unusedVariables false in
set_option maxHeartbeats 4000000 in
theorem walk_SnapsOk {w : World} (v0 : Value) (hv0 : IsInts w v0) (_w : World) :
    Calls Try.prog 3 #[v0] w fun e w' => e = .returned (.bool true) ∧ Below w.heap.size w w' := by
  obtain ⟨a0, n0, p0, S0, rfl, hm0, hr0⟩ := hv0
  have HR0 := hr0.hid
  clear hr0
  have HB : Hid (Below w.heap.size w w) := Below.refl _ _
  by_cases hbig0 : (1048576 : Int) < (n0 : Int)
  · go_enter Try.func3, Try.ntmps3
    go_wp2
    go_ret
    exact ⟨rfl, HB.out⟩
  · skip
    go_enter Try.func3, Try.ntmps3
    have hn0 : n0 ≤ 1048576 := by omega
    have cs := fun (x0 : Option Addr) (wx : World) (y0 : IntAt wx wx.heap.size x0 n0 S0) => spec_SnapsOk x0 n0 n0 S0 wx hn0 y0
    have ci := fun (x0 : Option Addr) (wx : World) (y0 : IntAt wx wx.heap.size x0 n0 S0) => impl_SnapsOk x0 n0 n0 S0 wx hn0 y0
    generalize snapsB S0 n0 = rl at cs ci
    go_wp2_with fail
    refine (laws_toInt64S a0 n0 p0 S0 w hn0 (HR0.out.next HB.out)).mono ?_
    rintro e w0 ⟨rfl, hrow, hb0⟩
    have HB := hide (HB.out.trans (hb0.mono HB.out.size))
    have hsz0 := hb0.size
    clear hb0
    have hgls0 := hrow.lt
    have HTs0 := hidRowB hrow
    clear hrow
    have HCs0 : Hid (Below w0.heap.size w0 w0) := Below.refl _ _
    go_wp2_with fail
    refine (cs (some ⟨w.heap.size, 0, none⟩) w0 (intAt_row (entRow_below HTs0.out HCs0.out HTs0.out.lt) ((entRow_below HTs0.out HCs0.out HTs0.out.lt)).lt)).mono ?_
    rintro e w1 ⟨rfl, hb1⟩
    have HB := hide (HB.out.trans (hb1.mono HB.out.size))
    have HCs0 := hide (HCs0.out.trans (hb1.mono HCs0.out.size))
    have hsz1 := hb1.size
    clear hb1
    clear HTs0 HCs0
    go_wp2_with fail
    refine (laws_toInt64S a0 n0 p0 S0 w1 hn0 (HR0.out.next HB.out)).mono ?_
    rintro e w2 ⟨rfl, hrow, hb2⟩
    have HB := hide (HB.out.trans (hb2.mono HB.out.size))
    have hsz2 := hb2.size
    clear hb2
    have hglx0 := hrow.lt
    have HTx0 := hidRowB hrow
    clear hrow
    have HCx0 : Hid (Below w2.heap.size w2 w2) := Below.refl _ _
    go_wp2_with fail
    refine (ci (some ⟨w1.heap.size, 0, none⟩) w2 (intAt_row (entRow_below HTx0.out HCx0.out HTx0.out.lt) ((entRow_below HTx0.out HCx0.out HTx0.out.lt)).lt)).mono ?_
    rintro e w3 ⟨rfl, hb3⟩
    have HB := hide (HB.out.trans (hb3.mono HB.out.size))
    have HCx0 := hide (HCx0.out.trans (hb3.mono HCx0.out.size))
    have hsz3 := hb3.size
    clear hb3
    go_wp2_with fail
    refine (laws_toInt64S a0 n0 p0 S0 w3 hn0 (HR0.out.next HB.out)).mono ?_
    rintro e w4 ⟨rfl, hrow, hb4⟩
    have HB := hide (HB.out.trans (hb4.mono HB.out.size))
    have HCx0 := hide (HCx0.out.trans (hb4.mono HCx0.out.size))
    have hsz4 := hb4.size
    clear hb4
    have hgly0 := hrow.lt
    have HTy0 := hidRowB hrow
    clear hrow
    have HCy0 : Hid (Below w4.heap.size w4 w4) := Below.refl _ _
    go_wp2_with fail
    refine (laws_eqInt64S _ _ n0 _ _ S0 w4 hn0 (intAt_row (entRow_below HTx0.out HCx0.out HTx0.out.lt) ((entRow_below HTx0.out HCx0.out HTx0.out.lt)).lt) (intAt_row (entRow_below HTy0.out HCy0.out HTy0.out.lt) ((entRow_below HTy0.out HCy0.out HTy0.out.lt)).lt)).mono ?_
    rintro e w5 ⟨rfl, hb5⟩
    have HB := hide (HB.out.trans (hb5.mono HB.out.size))
    have HCx0 := hide (HCx0.out.trans (hb5.mono HCx0.out.size))
    have HCy0 := hide (HCy0.out.trans (hb5.mono HCy0.out.size))
    have hsz5 := hb5.size
    clear hb5
    clear HTy0 HCy0
    go_wp2
    go_ret
    exact ⟨rfl, HB.out⟩

end Go.Proofs.Ytapajchnfjjipaa
