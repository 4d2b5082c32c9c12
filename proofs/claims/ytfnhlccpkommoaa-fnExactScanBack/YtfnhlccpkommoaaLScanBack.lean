/- The law on ScanBack. (By gen_law3.py.) -/
import Derived.Test.YtfnhlccpkommoaaBack
import Derived.Test.YtfnhlccpkommoaaRowArg
import Derived.Test.YtfnhlccpkommoaaMine
import Derived.Test.YtfnhlccpkommoaaReg
import Derived.Test.YtfnhlccpkommoaaMark
import Derived.Test.YtfnhlccpkommoaaOwnPair
import Derived.Test.YtfnhlccpkommoaaMkPair
import Derived.Test.YtfnhlccpkommoaaMarkE
import Derived.Deep.RegionHeld3
namespace Go.Proofs.Ytfnhlccpkommoaa
set_option maxRecDepth 100000
open Go.RowKit Go.Deep

set_option linter.unusedSimpArgs false in
set_option linter.unusedVariables false in
set_option maxHeartbeats 4000000 in
theorem walk_ScanBack {w : World} (v0 : Value) (hv0 : IsEnts w v0) (i1 : Int) (hi1 : (Lit.int .i64 i1).wf = true) (s2 : ByteArray) (hs2 : s2.size ≤ maxLen) (s3 : ByteArray) (hs3 : s3.size ≤ maxLen) (_w : World) :
    Calls Try.prog 4 #[v0, .int .i64 i1, .string s2, .string s3] w fun e w' => e = .returned (.bool true) ∧ Below w.heap.size w w' := by
  obtain ⟨a0, n0, p0, E0, rfl, hm0, hr0, hz0⟩ := hv0
  have HR0 := hr0.hid
  have HZ0 := hide hz0
  clear hr0 hz0
  have HB : Hid (Below w.heap.size w w) := Below.refl _ _
  by_cases hbig2 : (1048576 : Int) < (s2.size : Int)
  · go_enter Try.func4, Try.ntmps4
    go_wp2
    go_ret
    exact ⟨rfl, HB.out⟩
  · skip
    by_cases hbig3 : (1048576 : Int) < (s3.size : Int)
    · go_enter Try.func4, Try.ntmps4
      go_wp2
      go_ret
      exact ⟨rfl, HB.out⟩
    · skip
      go_enter Try.func4, Try.ntmps4
      go_wp2_with fail
      refine (laws_szEntryS a0 n0 p0 E0 1048576 w hm0 HZ0.out (by omega) (by omega) (HR0.out.next HB.out)).mono ?_
      rintro e w0 ⟨⟨l0, rfl, hq0⟩, hb0⟩
      have HB := hide (HB.out.trans (hb0.mono HB.out.size))
      have hsz0 := hb0.size
      clear hb0
      rcases hq0 with hq0 | ⟨hl00, hl10, hf0⟩
      · go_wp2
        go_ret
        exact ⟨rfl, HB.out⟩
      · have hln0 : ¬ (l0 < 0) := by omega
        have hn0 : n0 ≤ 1048576 := by omega
        have cs := fun (x0 : Option Addr) (wx : World) (y0 : EntAt wx wx.heap.size x0 n0 E0) => spec_ScanBack x0 n0 n0 E0 i1 s2 s3 wx hn0 y0
        have ci := fun (x0 : Option Addr) (wx : World) (y0 : EntAt wx wx.heap.size x0 n0 E0) => impl_ScanBack x0 n0 n0 E0 i1 s2 s3 wx hn0 y0
        have hrf : ((scanL E0 n0 i1 s2 s3).reverse).length ≤ 1048576 := Nat.le_trans (Nat.le_of_eq List.length_reverse) (Nat.le_trans scanL_len hn0)
        generalize (scanL E0 n0 i1 s2 s3).reverse = rl at cs ci hrf
        go_wp2_with fail
        refine (laws_toEntryS a0 n0 p0 E0 w0 hn0 (HR0.out.next HB.out)).mono ?_
        rintro e w1 ⟨rfl, hrow, hb1⟩
        have HB := hide (HB.out.trans (hb1.mono HB.out.size))
        have hsz1 := hb1.size
        clear hb1
        have hgls0 := hrow.lt
        have HTs0 := hidRowB hrow
        clear hrow
        have HCs0 : Hid (Below w1.heap.size w1 w1) := Below.refl _ _
        go_wp2_with fail
        refine (cs (some ⟨w0.heap.size, 0, none⟩) w1 (entAt_row (entRow_below HTs0.out HCs0.out HTs0.out.lt) ((entRow_below HTs0.out HCs0.out HTs0.out.lt)).lt)).mono ?_
        rintro e w2 ⟨⟨uw, rfl, how⟩, hb2⟩
        have HB := hide (HB.out.trans (hb2.mono HB.out.size))
        have HCs0 := hide (HCs0.out.trans (hb2.mono HCs0.out.size))
        have hsz2 := hb2.size
        clear hb2
        obtain ⟨wa, wp, rfl, hMw⟩ := how.mine
        have HMw := hMw.hid
        clear hMw how
        have HCw : Hid (Below w2.heap.size w2 w2) := Below.refl _ _
        clear HTs0 HCs0
        go_wp2_with fail
        refine (laws_toEntryS a0 n0 p0 E0 w2 hn0 (HR0.out.next HB.out)).mono ?_
        rintro e w3 ⟨rfl, hrow, hb3⟩
        have HB := hide (HB.out.trans (hb3.mono HB.out.size))
        have HCw := hide (HCw.out.trans (hb3.mono HCw.out.size))
        have hsz3 := hb3.size
        clear hb3
        have hglx0 := hrow.lt
        have HTx0 := hidRowB hrow
        clear hrow
        have HCx0 : Hid (Below w3.heap.size w3 w3) := Below.refl _ _
        go_wp2_with fail
        refine (ci (some ⟨w2.heap.size, 0, none⟩) w3 (entAt_row (entRow_below HTx0.out HCx0.out HTx0.out.lt) ((entRow_below HTx0.out HCx0.out HTx0.out.lt)).lt)).mono ?_
        rintro e w4 ⟨⟨ug, rfl, hog⟩, hb4⟩
        have HB := hide (HB.out.trans (hb4.mono HB.out.size))
        have HCw := hide (HCw.out.trans (hb4.mono HCw.out.size))
        have HCx0 := hide (HCx0.out.trans (hb4.mono HCx0.out.size))
        have hsz4 := hb4.size
        clear hb4
        obtain ⟨ga, gp, rfl, hMg⟩ := hog.mine
        have HMg := hMg.hid
        clear hMg hog
        have HCg : Hid (Below w4.heap.size w4 w4) := Below.refl _ _
        go_wp2_with fail
        refine (laws_eqPairS _ _ rl.length _ _ (fnPair rl) w4 hrf (pairAt_mine (HMg.out.next HCg.out)) (pairAt_mine (HMw.out.next HCw.out))).mono ?_
        rintro e w5 ⟨rfl, hb5⟩
        have HB := hide (HB.out.trans (hb5.mono HB.out.size))
        have HCw := hide (HCw.out.trans (hb5.mono HCw.out.size))
        have HCx0 := hide (HCx0.out.trans (hb5.mono HCx0.out.size))
        have HCg := hide (HCg.out.trans (hb5.mono HCg.out.size))
        have hsz5 := hb5.size
        clear hb5
        go_wp2_with fail
        refine (laws_toEntryS a0 n0 p0 E0 w5 hn0 (HR0.out.next HB.out)).mono ?_
        rintro e w6 ⟨rfl, hrow, hb6⟩
        have HB := hide (HB.out.trans (hb6.mono HB.out.size))
        have HCw := hide (HCw.out.trans (hb6.mono HCw.out.size))
        have HCx0 := hide (HCx0.out.trans (hb6.mono HCx0.out.size))
        have HCg := hide (HCg.out.trans (hb6.mono HCg.out.size))
        have hsz6 := hb6.size
        clear hb6
        have hgly0 := hrow.lt
        have HTy0 := hidRowB hrow
        clear hrow
        have HCy0 : Hid (Below w6.heap.size w6 w6) := Below.refl _ _
        go_wp2_with fail
        refine (laws_eqEntryS _ _ n0 _ _ E0 w6 hn0 (entAt_row (entRow_below HTx0.out HCx0.out HTx0.out.lt) ((entRow_below HTx0.out HCx0.out HTx0.out.lt)).lt) (entAt_row (entRow_below HTy0.out HCy0.out HTy0.out.lt) ((entRow_below HTy0.out HCy0.out HTy0.out.lt)).lt)).mono ?_
        rintro e w7 ⟨rfl, hb7⟩
        have HB := hide (HB.out.trans (hb7.mono HB.out.size))
        have HCw := hide (HCw.out.trans (hb7.mono HCw.out.size))
        have HCx0 := hide (HCx0.out.trans (hb7.mono HCx0.out.size))
        have HCg := hide (HCg.out.trans (hb7.mono HCg.out.size))
        have HCy0 := hide (HCy0.out.trans (hb7.mono HCy0.out.size))
        have hsz7 := hb7.size
        clear hb7
        clear HTy0 HCy0
        go_wp2_with fail
        have HRn := hidRowB (entRow_below HTx0.out HCx0.out HTx0.out.lt)
        refine (laws_markEntryS (some ⟨w2.heap.size, 0, none⟩) n0 n0 w2.heap.size w7 hn0 (.inr rfl) (rowIs_mark HRn.out)).mono ?_
        rintro e w8 ⟨rfl, hM⟩
        have hm := hM.mv
        clear hM HRn
        have HB := hide (HB.out.trans (hm.below HB.out.size (by omega)))
        have HCw := hide (HCw.out.trans (hm.below HCw.out.size (by omega)))
        have HMg := ((HMg.out.next HCg.out).mv hm (by omega)).hid
        have HCg : Hid (Below w8.heap.size w8 w8) := Below.refl _ _
        have hszm0 := hm.size
        clear hm HTx0 HCx0
        have hposx : ¬ (((1 + n0 * 4 : Nat) : Int) < 0) := by omega
        go_wp2_with fail
        refine (laws_eqPairS _ _ rl.length _ _ (fnPair rl) w8 hrf (pairAt_mine (HMg.out.next HCg.out)) (pairAt_mine (HMw.out.next HCw.out))).mono ?_
        rintro e w9 ⟨rfl, hb9⟩
        have HB := hide (HB.out.trans (hb9.mono HB.out.size))
        have HCw := hide (HCw.out.trans (hb9.mono HCw.out.size))
        have HCg := hide (HCg.out.trans (hb9.mono HCg.out.size))
        have hsz9 := hb9.size
        clear hb9
        go_wp2_with fail
        obtain ⟨g, hga, hgl, hgw⟩ := (HMg.out.next HCg.out).mark w9.heap.size
        have hCgs := HCg.out.size
        have hCws := HCw.out.size
        have hBs := HB.out.size
        refine (laws_markPairS 1 1 rfl ⟨by omega, by omega⟩ ga rl.length gp g w9 hrf hga hgw).mono ?_
        rintro e w10 ⟨rfl, hM⟩
        have hm := hM.mv
        have HOK := hide hM.ok
        clear hM
        have HB := hide (HB.out.trans (hm.below HB.out.size (by omega)))
        have HCw := hide (HCw.out.trans (hm.below HCw.out.size (by omega)))
        have HCg : Hid (Below w10.heap.size w10 w10) := Below.refl _ _
        have hszg := hm.size
        clear hm hgw hgl hCgs hCws hBs HMg
        go_wp2_with fail
        have hkc := fun j hj => keepc HCg.out (HOK.out j hj)
        refine (laws_heldPairS 1 1 rfl ⟨by omega, by omega⟩ ga rl.length gp g w10 hrf hga hkc).mono ?_
        rintro e w11 ⟨rfl, hb11⟩
        have HB := hide (HB.out.trans (hb11.mono HB.out.size))
        have HCw := hide (HCw.out.trans (hb11.mono HCw.out.size))
        have HCg := hide (HCg.out.trans (hb11.mono HCg.out.size))
        have hsz11 := hb11.size
        clear hb11
        clear hkc
        have hpos : ¬ (((1 + rl.length * 2 : Nat) : Int) < 0) := by omega
        go_wp2_with fail
        refine (laws_toEntryS a0 n0 p0 E0 w11 hn0 (HR0.out.next HB.out)).mono ?_
        rintro e w12 ⟨rfl, hrow, hb12⟩
        have HB := hide (HB.out.trans (hb12.mono HB.out.size))
        have HCw := hide (HCw.out.trans (hb12.mono HCw.out.size))
        have HCg := hide (HCg.out.trans (hb12.mono HCg.out.size))
        have hsz12 := hb12.size
        clear hb12
        have hglh0 := hrow.lt
        have HTh0 := hidRowB hrow
        clear hrow
        have HCh0 : Hid (Below w12.heap.size w12 w12) := Below.refl _ _
        go_wp2_with fail
        refine (ci (some ⟨w11.heap.size, 0, none⟩) w12 (entAt_row (entRow_below HTh0.out HCh0.out HTh0.out.lt) ((entRow_below HTh0.out HCh0.out HTh0.out.lt)).lt)).mono ?_
        rintro e w13 ⟨⟨uh, rfl, hoh⟩, hb13⟩
        have HB := hide (HB.out.trans (hb13.mono HB.out.size))
        have HCw := hide (HCw.out.trans (hb13.mono HCw.out.size))
        have HCg := hide (HCg.out.trans (hb13.mono HCg.out.size))
        have HCh0 := hide (HCh0.out.trans (hb13.mono HCh0.out.size))
        have hsz13 := hb13.size
        clear hb13
        obtain ⟨ha, hp, rfl, hMh⟩ := hoh.mine
        have HMh := hMh.hid
        clear hMh hoh
        have HCh : Hid (Below w13.heap.size w13 w13) := Below.refl _ _
        clear HTh0 HCh0
        go_wp2_with fail
        refine (laws_eqPairS _ _ rl.length _ _ (fnPair rl) w13 hrf (pairAt_mine (HMh.out.next HCh.out)) (pairAt_mine (HMw.out.next HCw.out))).mono ?_
        rintro e w14 ⟨rfl, hb14⟩
        have HB := hide (HB.out.trans (hb14.mono HB.out.size))
        have HCw := hide (HCw.out.trans (hb14.mono HCw.out.size))
        have HCg := hide (HCg.out.trans (hb14.mono HCg.out.size))
        have HCh := hide (HCh.out.trans (hb14.mono HCh.out.size))
        have hsz14 := hb14.size
        clear hb14
        go_wp2_with fail
        have hkc := fun j hj => keepc HCg.out (HOK.out j hj)
        refine (laws_heldPairS 1 1 rfl ⟨by omega, by omega⟩ ga rl.length gp g w14 hrf hga hkc).mono ?_
        rintro e w15 ⟨rfl, hb15⟩
        have HB := hide (HB.out.trans (hb15.mono HB.out.size))
        have HCw := hide (HCw.out.trans (hb15.mono HCw.out.size))
        have HCg := hide (HCg.out.trans (hb15.mono HCg.out.size))
        have HCh := hide (HCh.out.trans (hb15.mono HCh.out.size))
        have hsz15 := hb15.size
        clear hb15
        clear hkc
        go_wp2
        go_ret
        exact ⟨rfl, HB.out⟩

end Go.Proofs.Ytfnhlccpkommoaa
