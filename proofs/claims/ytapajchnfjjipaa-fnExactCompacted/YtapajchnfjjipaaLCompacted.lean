/- The law on Compacted. (By gen_law3.py.) -/
import Derived.Test.YtapajchnfjjipaaCompI
import Derived.Test.YtapajchnfjjipaaRowArg
import Derived.Test.YtapajchnfjjipaaMine
import Derived.Test.YtapajchnfjjipaaReg
import Derived.Test.YtapajchnfjjipaaMark
import Derived.Test.YtapajchnfjjipaaOwnEntry
import Derived.Test.YtapajchnfjjipaaMarkE
import Derived.Test.YtapajchnfjjipaaMkInt
import Derived.Deep.RegionHeld3
namespace Go.Proofs.Ytapajchnfjjipaa
set_option maxRecDepth 100000
open Go.RowKit Go.Deep

set_option linter.unusedSimpArgs false in
set_option linter.unusedVariables false in
set_option maxHeartbeats 4000000 in
theorem walk_Compacted {w : World} (v0 : Value) (hv0 : IsEnts w v0) (v1 : Value) (hv1 : IsInts w v1) (b2 : Bool) (_w : World) :
    Calls Try.prog 5 #[v0, v1, .bool b2] w fun e w' => e = .returned (.bool true) ∧ Below w.heap.size w w' := by
  obtain ⟨a0, n0, p0, E0, rfl, hm0, hr0, hz0⟩ := hv0
  have HR0 := hr0.hid
  have HZ0 := hide hz0
  clear hr0 hz0
  obtain ⟨a1, n1, p1, S1, rfl, hm1, hr1⟩ := hv1
  have HR1 := hr1.hid
  clear hr1
  have HB : Hid (Below w.heap.size w w) := Below.refl _ _
  by_cases hbig1 : (1048576 : Int) < (n1 : Int)
  · go_enter Try.func5, Try.ntmps5
    go_wp2
    go_ret
    exact ⟨rfl, HB.out⟩
  · skip
    go_enter Try.func5, Try.ntmps5
    go_wp2_with fail
    refine (laws_szEntryS a0 n0 p0 E0 1048576 w hm0 HZ0.out (by omega) (by omega) (HR0.out.next HB.out)).mono ?_
    rintro e w0 ⟨⟨l0, rfl, hq0⟩, hb0⟩
    have HB := hide (HB.out.trans (hb0.mono HB.out.size))
    have hsz0 := hb0.size
    clear hb0
    rcases hq0 with hq0 | ⟨hl00, hl10, hf0⟩
    · go_wp2
      go_ret
      exact ⟨rfl, HB.out⟩
    · have hln0 : ¬ (l0 < 0) := by omega
      have hn0 : n0 ≤ 1048576 := by omega
      have hn1 : n1 ≤ 1048576 := by omega
      have cs := fun (x0 : Option Addr) (t0 : ∃ g o, x0 = some ⟨g, o, none⟩) (x1 : Option Addr) (t1 : ∃ g o, x1 = some ⟨g, o, none⟩) (wx : World) (y0 : EntAt wx wx.heap.size x0 n0 E0) (y1 : IntAt wx wx.heap.size x1 n1 S1) => spec_Compacted x0 n0 n0 E0 x1 n1 n1 S1 b2 wx hn0 hn1 t1 y0 y1
      have ci := fun (x0 : Option Addr) (t0 : ∃ g o, x0 = some ⟨g, o, none⟩) (x1 : Option Addr) (t1 : ∃ g o, x1 = some ⟨g, o, none⟩) (wx : World) (y0 : EntAt wx wx.heap.size x0 n0 E0) (y1 : IntAt wx wx.heap.size x1 n1 S1) => impl_Compacted x0 n0 n0 E0 x1 n1 n1 S1 b2 wx hn0 hn1 y0 y1
      have hrf : ((compL E0 n0 S1 n1 b2).map (entryAt1 E0)).length ≤ 1048576 := Nat.le_trans (Nat.le_of_eq (List.length_map ..)) (Nat.le_trans compL_len hn0)
      generalize (compL E0 n0 S1 n1 b2).map (entryAt1 E0) = rl at cs ci hrf
      go_wp2_with fail
      refine (laws_toEntryS a0 n0 p0 E0 w0 hn0 (HR0.out.next HB.out)).mono ?_
      rintro e w1 ⟨rfl, hrow, hb1⟩
      have HB := hide (HB.out.trans (hb1.mono HB.out.size))
      have hsz1 := hb1.size
      clear hb1
      have hgls0 := hrow.lt
      have HTs0 := hidRowB hrow
      clear hrow
      have HCs0 : Hid (Below w1.heap.size w1 w1) := Below.refl _ _
      go_wp2_with fail
      refine (laws_toInt64S a1 n1 p1 S1 w1 hn1 (HR1.out.next HB.out)).mono ?_
      rintro e w2 ⟨rfl, hrow, hb2⟩
      have HB := hide (HB.out.trans (hb2.mono HB.out.size))
      have HCs0 := hide (HCs0.out.trans (hb2.mono HCs0.out.size))
      have hsz2 := hb2.size
      clear hb2
      have hgls1 := hrow.lt
      have HTs1 := hidRowB hrow
      clear hrow
      have HCs1 : Hid (Below w2.heap.size w2 w2) := Below.refl _ _
      go_wp2_with fail
      refine (cs (some ⟨w0.heap.size, 0, none⟩) ⟨_, _, rfl⟩ (some ⟨w1.heap.size, 0, none⟩) ⟨_, _, rfl⟩ w2 (entAt_row (entRow_below HTs0.out HCs0.out HTs0.out.lt) ((entRow_below HTs0.out HCs0.out HTs0.out.lt)).lt) (intAt_row (entRow_below HTs1.out HCs1.out HTs1.out.lt) ((entRow_below HTs1.out HCs1.out HTs1.out.lt)).lt)).mono ?_
      rintro e w3 ⟨⟨uw, rfl, how⟩, hb3⟩
      have HB := hide (HB.out.trans (hb3.mono HB.out.size))
      have HCs0 := hide (HCs0.out.trans (hb3.mono HCs0.out.size))
      have HCs1 := hide (HCs1.out.trans (hb3.mono HCs1.out.size))
      have hsz3 := hb3.size
      clear hb3
      obtain ⟨wa, wp, rfl, hMw⟩ := how.mine
      have HMw := hMw.hid
      clear hMw how
      have HCw : Hid (Below w3.heap.size w3 w3) := Below.refl _ _
      clear HTs0 HCs0 HTs1 HCs1
      go_wp2_with fail
      refine (laws_toEntryS a0 n0 p0 E0 w3 hn0 (HR0.out.next HB.out)).mono ?_
      rintro e w4 ⟨rfl, hrow, hb4⟩
      have HB := hide (HB.out.trans (hb4.mono HB.out.size))
      have HCw := hide (HCw.out.trans (hb4.mono HCw.out.size))
      have hsz4 := hb4.size
      clear hb4
      have hglx0 := hrow.lt
      have HTx0 := hidRowB hrow
      clear hrow
      have HCx0 : Hid (Below w4.heap.size w4 w4) := Below.refl _ _
      go_wp2_with fail
      refine (laws_toInt64S a1 n1 p1 S1 w4 hn1 (HR1.out.next HB.out)).mono ?_
      rintro e w5 ⟨rfl, hrow, hb5⟩
      have HB := hide (HB.out.trans (hb5.mono HB.out.size))
      have HCw := hide (HCw.out.trans (hb5.mono HCw.out.size))
      have HCx0 := hide (HCx0.out.trans (hb5.mono HCx0.out.size))
      have hsz5 := hb5.size
      clear hb5
      have hglx1 := hrow.lt
      have HTx1 := hidRowB hrow
      clear hrow
      have HCx1 : Hid (Below w5.heap.size w5 w5) := Below.refl _ _
      go_wp2_with fail
      refine (ci (some ⟨w3.heap.size, 0, none⟩) ⟨_, _, rfl⟩ (some ⟨w4.heap.size, 0, none⟩) ⟨_, _, rfl⟩ w5 (entAt_row (entRow_below HTx0.out HCx0.out HTx0.out.lt) ((entRow_below HTx0.out HCx0.out HTx0.out.lt)).lt) (intAt_row (entRow_below HTx1.out HCx1.out HTx1.out.lt) ((entRow_below HTx1.out HCx1.out HTx1.out.lt)).lt)).mono ?_
      rintro e w6 ⟨⟨ug, rfl, hog⟩, hb6⟩
      have HB := hide (HB.out.trans (hb6.mono HB.out.size))
      have HCw := hide (HCw.out.trans (hb6.mono HCw.out.size))
      have HCx0 := hide (HCx0.out.trans (hb6.mono HCx0.out.size))
      have HCx1 := hide (HCx1.out.trans (hb6.mono HCx1.out.size))
      have hsz6 := hb6.size
      clear hb6
      obtain ⟨ga, gp, rfl, hMg⟩ := hog.mine
      have HMg := hMg.hid
      clear hMg hog
      have HCg : Hid (Below w6.heap.size w6 w6) := Below.refl _ _
      go_wp2_with fail
      refine (laws_eqEntryS _ _ rl.length _ _ (fnEntry rl) w6 hrf (entAt_mine (HMg.out.next HCg.out)) (entAt_mine (HMw.out.next HCw.out))).mono ?_
      rintro e w7 ⟨rfl, hb7⟩
      have HB := hide (HB.out.trans (hb7.mono HB.out.size))
      have HCw := hide (HCw.out.trans (hb7.mono HCw.out.size))
      have HCx0 := hide (HCx0.out.trans (hb7.mono HCx0.out.size))
      have HCx1 := hide (HCx1.out.trans (hb7.mono HCx1.out.size))
      have HCg := hide (HCg.out.trans (hb7.mono HCg.out.size))
      have hsz7 := hb7.size
      clear hb7
      go_wp2_with fail
      refine (laws_toEntryS a0 n0 p0 E0 w7 hn0 (HR0.out.next HB.out)).mono ?_
      rintro e w8 ⟨rfl, hrow, hb8⟩
      have HB := hide (HB.out.trans (hb8.mono HB.out.size))
      have HCw := hide (HCw.out.trans (hb8.mono HCw.out.size))
      have HCx0 := hide (HCx0.out.trans (hb8.mono HCx0.out.size))
      have HCx1 := hide (HCx1.out.trans (hb8.mono HCx1.out.size))
      have HCg := hide (HCg.out.trans (hb8.mono HCg.out.size))
      have hsz8 := hb8.size
      clear hb8
      have hgly0 := hrow.lt
      have HTy0 := hidRowB hrow
      clear hrow
      have HCy0 : Hid (Below w8.heap.size w8 w8) := Below.refl _ _
      go_wp2_with fail
      refine (laws_eqEntryS _ _ n0 _ _ E0 w8 hn0 (entAt_row (entRow_below HTx0.out HCx0.out HTx0.out.lt) ((entRow_below HTx0.out HCx0.out HTx0.out.lt)).lt) (entAt_row (entRow_below HTy0.out HCy0.out HTy0.out.lt) ((entRow_below HTy0.out HCy0.out HTy0.out.lt)).lt)).mono ?_
      rintro e w9 ⟨rfl, hb9⟩
      have HB := hide (HB.out.trans (hb9.mono HB.out.size))
      have HCw := hide (HCw.out.trans (hb9.mono HCw.out.size))
      have HCx0 := hide (HCx0.out.trans (hb9.mono HCx0.out.size))
      have HCx1 := hide (HCx1.out.trans (hb9.mono HCx1.out.size))
      have HCg := hide (HCg.out.trans (hb9.mono HCg.out.size))
      have HCy0 := hide (HCy0.out.trans (hb9.mono HCy0.out.size))
      have hsz9 := hb9.size
      clear hb9
      clear HTy0 HCy0
      go_wp2_with fail
      refine (laws_toInt64S a1 n1 p1 S1 w9 hn1 (HR1.out.next HB.out)).mono ?_
      rintro e w10 ⟨rfl, hrow, hb10⟩
      have HB := hide (HB.out.trans (hb10.mono HB.out.size))
      have HCw := hide (HCw.out.trans (hb10.mono HCw.out.size))
      have HCx0 := hide (HCx0.out.trans (hb10.mono HCx0.out.size))
      have HCx1 := hide (HCx1.out.trans (hb10.mono HCx1.out.size))
      have HCg := hide (HCg.out.trans (hb10.mono HCg.out.size))
      have hsz10 := hb10.size
      clear hb10
      have hgly1 := hrow.lt
      have HTy1 := hidRowB hrow
      clear hrow
      have HCy1 : Hid (Below w10.heap.size w10 w10) := Below.refl _ _
      go_wp2_with fail
      refine (laws_eqInt64S _ _ n1 _ _ S1 w10 hn1 (intAt_row (entRow_below HTx1.out HCx1.out HTx1.out.lt) ((entRow_below HTx1.out HCx1.out HTx1.out.lt)).lt) (intAt_row (entRow_below HTy1.out HCy1.out HTy1.out.lt) ((entRow_below HTy1.out HCy1.out HTy1.out.lt)).lt)).mono ?_
      rintro e w11 ⟨rfl, hb11⟩
      have HB := hide (HB.out.trans (hb11.mono HB.out.size))
      have HCw := hide (HCw.out.trans (hb11.mono HCw.out.size))
      have HCx0 := hide (HCx0.out.trans (hb11.mono HCx0.out.size))
      have HCx1 := hide (HCx1.out.trans (hb11.mono HCx1.out.size))
      have HCg := hide (HCg.out.trans (hb11.mono HCg.out.size))
      have HCy1 := hide (HCy1.out.trans (hb11.mono HCy1.out.size))
      have hsz11 := hb11.size
      clear hb11
      clear HTy1 HCy1
      go_wp2_with fail
      have HRn := hidRowB (entRow_below HTx0.out HCx0.out HTx0.out.lt)
      refine (laws_markEntryS (some ⟨w3.heap.size, 0, none⟩) n0 n0 w3.heap.size w11 hn0 (.inr rfl) (rowIs_mark HRn.out)).mono ?_
      rintro e w12 ⟨rfl, hM⟩
      have hm := hM.mv
      clear hM HRn
      have HB := hide (HB.out.trans (hm.below HB.out.size (by omega)))
      have HCw := hide (HCw.out.trans (hm.below HCw.out.size (by omega)))
      have HMg := ((HMg.out.next HCg.out).mv hm (by omega)).hid
      have HCg : Hid (Below w12.heap.size w12 w12) := Below.refl _ _
      have HTx1 := hidRowB (rowIs_mv (entRow_below HTx1.out HCx1.out HTx1.out.lt) hm (by omega))
      have HCx1 : Hid (Below w12.heap.size w12 w12) := Below.refl _ _
      have hszm0 := hm.size
      clear hm HTx0 HCx0
      go_wp2_with fail
      have HRn := hidRowB (entRow_below HTx1.out HCx1.out HTx1.out.lt)
      refine (laws_markInt64S (1 + n0 * 4) _ (by first | rfl | (push_cast; omega)) ⟨by omega, by omega⟩ (some ⟨w4.heap.size, 0, none⟩) n1 n1 w4.heap.size w12 hn1 (.inr rfl) (fun j hj => rowIs_mark HRn.out j (by omega))).mono ?_
      rintro e w13 ⟨rfl, hM⟩
      have hm := hM.mv
      clear hM HRn
      have HB := hide (HB.out.trans (hm.below HB.out.size (by omega)))
      have HCw := hide (HCw.out.trans (hm.below HCw.out.size (by omega)))
      have HMg := ((HMg.out.next HCg.out).mv hm (by omega)).hid
      have HCg : Hid (Below w13.heap.size w13 w13) := Below.refl _ _
      have hszm1 := hm.size
      clear hm HTx1 HCx1
      have hposx : ¬ (((1 + n0 * 4 + n1 : Nat) : Int) < 0) := by omega
      go_wp2_with fail
      refine (laws_eqEntryS _ _ rl.length _ _ (fnEntry rl) w13 hrf (entAt_mine (HMg.out.next HCg.out)) (entAt_mine (HMw.out.next HCw.out))).mono ?_
      rintro e w14 ⟨rfl, hb14⟩
      have HB := hide (HB.out.trans (hb14.mono HB.out.size))
      have HCw := hide (HCw.out.trans (hb14.mono HCw.out.size))
      have HCg := hide (HCg.out.trans (hb14.mono HCg.out.size))
      have hsz14 := hb14.size
      clear hb14
      go_wp2_with fail
      obtain ⟨g, hga, hgl, hgw⟩ := (HMg.out.next HCg.out).mark w14.heap.size
      have hCgs := HCg.out.size
      have hCws := HCw.out.size
      have hBs := HB.out.size
      refine (laws_markEntryS ga rl.length gp g w14 hrf hga hgw).mono ?_
      rintro e w15 ⟨rfl, hM⟩
      have hm := hM.mv
      have HOK := hide hM.ok
      clear hM
      have HB := hide (HB.out.trans (hm.below HB.out.size (by omega)))
      have HCw := hide (HCw.out.trans (hm.below HCw.out.size (by omega)))
      have HCg : Hid (Below w15.heap.size w15 w15) := Below.refl _ _
      have hszg := hm.size
      clear hm hgw hgl hCgs hCws hBs HMg
      go_wp2_with fail
      have hkc := fun j hj => keepc HCg.out (HOK.out j hj)
      refine (laws_heldEntryS ga rl.length gp g w15 hrf hga hkc).mono ?_
      rintro e w16 ⟨rfl, hb16⟩
      have HB := hide (HB.out.trans (hb16.mono HB.out.size))
      have HCw := hide (HCw.out.trans (hb16.mono HCw.out.size))
      have HCg := hide (HCg.out.trans (hb16.mono HCg.out.size))
      have hsz16 := hb16.size
      clear hb16
      clear hkc
      have hpos : ¬ (((1 + rl.length * 4 : Nat) : Int) < 0) := by omega
      go_wp2_with fail
      refine (laws_toEntryS a0 n0 p0 E0 w16 hn0 (HR0.out.next HB.out)).mono ?_
      rintro e w17 ⟨rfl, hrow, hb17⟩
      have HB := hide (HB.out.trans (hb17.mono HB.out.size))
      have HCw := hide (HCw.out.trans (hb17.mono HCw.out.size))
      have HCg := hide (HCg.out.trans (hb17.mono HCg.out.size))
      have hsz17 := hb17.size
      clear hb17
      have hglh0 := hrow.lt
      have HTh0 := hidRowB hrow
      clear hrow
      have HCh0 : Hid (Below w17.heap.size w17 w17) := Below.refl _ _
      go_wp2_with fail
      refine (laws_toInt64S a1 n1 p1 S1 w17 hn1 (HR1.out.next HB.out)).mono ?_
      rintro e w18 ⟨rfl, hrow, hb18⟩
      have HB := hide (HB.out.trans (hb18.mono HB.out.size))
      have HCw := hide (HCw.out.trans (hb18.mono HCw.out.size))
      have HCg := hide (HCg.out.trans (hb18.mono HCg.out.size))
      have HCh0 := hide (HCh0.out.trans (hb18.mono HCh0.out.size))
      have hsz18 := hb18.size
      clear hb18
      have hglh1 := hrow.lt
      have HTh1 := hidRowB hrow
      clear hrow
      have HCh1 : Hid (Below w18.heap.size w18 w18) := Below.refl _ _
      go_wp2_with fail
      refine (ci (some ⟨w16.heap.size, 0, none⟩) ⟨_, _, rfl⟩ (some ⟨w17.heap.size, 0, none⟩) ⟨_, _, rfl⟩ w18 (entAt_row (entRow_below HTh0.out HCh0.out HTh0.out.lt) ((entRow_below HTh0.out HCh0.out HTh0.out.lt)).lt) (intAt_row (entRow_below HTh1.out HCh1.out HTh1.out.lt) ((entRow_below HTh1.out HCh1.out HTh1.out.lt)).lt)).mono ?_
      rintro e w19 ⟨⟨uh, rfl, hoh⟩, hb19⟩
      have HB := hide (HB.out.trans (hb19.mono HB.out.size))
      have HCw := hide (HCw.out.trans (hb19.mono HCw.out.size))
      have HCg := hide (HCg.out.trans (hb19.mono HCg.out.size))
      have HCh0 := hide (HCh0.out.trans (hb19.mono HCh0.out.size))
      have HCh1 := hide (HCh1.out.trans (hb19.mono HCh1.out.size))
      have hsz19 := hb19.size
      clear hb19
      obtain ⟨ha, hp, rfl, hMh⟩ := hoh.mine
      have HMh := hMh.hid
      clear hMh hoh
      have HCh : Hid (Below w19.heap.size w19 w19) := Below.refl _ _
      clear HTh0 HCh0 HTh1 HCh1
      go_wp2_with fail
      refine (laws_eqEntryS _ _ rl.length _ _ (fnEntry rl) w19 hrf (entAt_mine (HMh.out.next HCh.out)) (entAt_mine (HMw.out.next HCw.out))).mono ?_
      rintro e w20 ⟨rfl, hb20⟩
      have HB := hide (HB.out.trans (hb20.mono HB.out.size))
      have HCw := hide (HCw.out.trans (hb20.mono HCw.out.size))
      have HCg := hide (HCg.out.trans (hb20.mono HCg.out.size))
      have HCh := hide (HCh.out.trans (hb20.mono HCh.out.size))
      have hsz20 := hb20.size
      clear hb20
      go_wp2_with fail
      have hkc := fun j hj => keepc HCg.out (HOK.out j hj)
      refine (laws_heldEntryS ga rl.length gp g w20 hrf hga hkc).mono ?_
      rintro e w21 ⟨rfl, hb21⟩
      have HB := hide (HB.out.trans (hb21.mono HB.out.size))
      have HCw := hide (HCw.out.trans (hb21.mono HCw.out.size))
      have HCg := hide (HCg.out.trans (hb21.mono HCg.out.size))
      have HCh := hide (HCh.out.trans (hb21.mono HCh.out.size))
      have hsz21 := hb21.size
      clear hb21
      clear hkc
      go_wp2
      go_ret
      exact ⟨rfl, HB.out⟩

end Go.Proofs.Ytapajchnfjjipaa
