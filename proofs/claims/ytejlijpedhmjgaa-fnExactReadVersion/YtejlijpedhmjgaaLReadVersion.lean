/- The law on ReadVersion. (By gen_law2.py.) -/
import Derived.Test.YtejlijpedhmjgaaReadV
import Derived.Test.YtejlijpedhmjgaaReadVS
import Derived.Test.YtejlijpedhmjgaaMkBoxVersion
import Derived.Test.YtejlijpedhmjgaaBox
import Derived.Test.YtejlijpedhmjgaaNth
import Derived.Test.YtejlijpedhmjgaaReg
import Derived.Test.YtejlijpedhmjgaaMine
import Derived.Deep.RegionHeld3
namespace Go.Proofs.Ytejlijpedhmjgaa
set_option maxRecDepth 100000
open Go.RowKit Go.Deep

set_option linter.unusedSimpArgs false in
set_option linter.unusedVariables false in
set_option maxHeartbeats 4000000 in
theorem walk_ReadVersion (s0 : ByteArray) (hs0 : s0.size ≤ maxLen) (w : World) :
    Calls Try.prog 5 #[.string s0] w fun e w' => e = .returned (.bool true) ∧ Below w.heap.size w w' := by
  have hB0 : Below w.heap.size w w := Below.refl _ _
  by_cases hbig0 : (1048576 : Int) < (s0.size : Int)
  · go_enter Try.func5, Try.ntmps5
    go_wp2
    go_ret
    exact ⟨rfl, hB0⟩
  · skip
    have cs := fun  (wx : World)  => spec_ReadVersion s0 (by omega : s0.size ≤ 1048576) wx
    have ci := fun  (wx : World)  => impl_ReadVersion s0 (by omega : s0.size ≤ 1048576) wx
    have hrf : (readV s0).Fit := readV_fit s0
    generalize readV s0 = rc at cs ci hrf
    generalize vOk s0 = rb at cs ci hrf
    go_enter Try.func5, Try.ntmps5
    obtain ⟨W, hWW⟩ : ∃ x, x = w := ⟨_, rfl⟩
    subst hWW
    have HB0 : Hid (Below W.heap.size W W) := hB0
    clear hB0 
    have HB : Hid (Below W.heap.size W W) := Below.refl _ _
    go_wp2_with fail
    refine (cs  W ).mono ?_
    rintro e w0 ⟨⟨uw, rfl, how⟩, hb0⟩
    have HB := hide (HB.out.trans (hb0.mono HB.out.size))
    have hsz0 := hb0.size
    clear hb0
    obtain ⟨wa, wp, rfl, hMw⟩ := how
    have hBw := hsz0
    have HLw := hide hMw.lt
    have hbb := below_one w0 (.cells #[.slice wa rc.n0 wp, .int .i64 rc.x1, .int .i64 rc.x2, .int .i64 rc.x3] 46)
    have HMw := (hMw.next hbb).hid
    have HXw := (BoxIs.new w0 #[.slice wa rc.n0 wp, .int .i64 rc.x1, .int .i64 rc.x2, .int .i64 rc.x3] 46 rfl).hid
    have HB := hide (HB.out.trans (hbb.mono HB.out.size))
    clear hbb hMw
    go_wp2_with fail
    generalize hWX : w0.alloc (.cells #[.slice wa rc.n0 wp, .int .i64 rc.x1, .int .i64 rc.x2, .int .i64 rc.x3] 46) = Vw at HMw HXw HB ⊢
    clear hWX
    obtain ⟨Fw, hFw⟩ : ∃ F, w0.heap.size = F := ⟨_, rfl⟩
    rw [hFw] at HXw HLw hBw ⊢
    clear hFw
    have hXwl := HXw.out.lt
    have HCw : Hid (Below Vw.heap.size Vw Vw) := Below.refl _ _
    refine (ci  Vw ).mono ?_
    rintro e w1 ⟨⟨ug, rfl, hog⟩, hb1⟩
    have HB := hide (HB.out.trans (hb1.mono HB.out.size))
    have HCw := hide (HCw.out.trans (hb1.mono HCw.out.size))
    have hsz1 := hb1.size
    clear hb1
    obtain ⟨ga, gp, rfl, hMg⟩ := hog
    have hBg := hsz1
    have HLg := hide hMg.lt
    have hbb := below_one w1 (.cells #[.slice ga rc.n0 gp, .int .i64 rc.x1, .int .i64 rc.x2, .int .i64 rc.x3] 46)
    have HMg := (hMg.next hbb).hid
    have HXg := (BoxIs.new w1 #[.slice ga rc.n0 gp, .int .i64 rc.x1, .int .i64 rc.x2, .int .i64 rc.x3] 46 rfl).hid
    have HB := hide (HB.out.trans (hbb.mono HB.out.size))
    have HCw := hide (HCw.out.trans (hbb.mono HCw.out.size))
    clear hbb hMg
    have kb0 := (HXw.out.next HCw.out).cell 0
    have kb1 := (HXw.out.next HCw.out).cell 1
    have kb2 := (HXw.out.next HCw.out).cell 2
    have kb3 := (HXw.out.next HCw.out).cell 3
    go_wp2_with fail
    clear kb0 kb1 kb2 kb3
    generalize hWX : w1.alloc (.cells #[.slice ga rc.n0 gp, .int .i64 rc.x1, .int .i64 rc.x2, .int .i64 rc.x3] 46) = Vg at HMg HXg HB HCw ⊢
    clear hWX
    obtain ⟨Fg, hFg⟩ : ∃ F, w1.heap.size = F := ⟨_, rfl⟩
    rw [hFg] at HXg HLg hBg ⊢
    clear hFg
    have hXgl := HXg.out.lt
    have HCg : Hid (Below Vg.heap.size Vg Vg) := Below.refl _ _
    refine (laws_eqVersion _ _ rc Vg hrf (VersionIs.of_mine (HMg.out.next HCg.out)) (VersionIs.of_mine (HMw.out.next HCw.out))).mono ?_
    rintro e w2 ⟨rfl, hb2⟩
    have HB := hide (HB.out.trans (hb2.mono HB.out.size))
    have HCw := hide (HCw.out.trans (hb2.mono HCw.out.size))
    have HCg := hide (HCg.out.trans (hb2.mono HCg.out.size))
    have hsz2 := hb2.size
    clear hb2
    have ka0 := (HXg.out.next HCg.out).cell 0
    have ka1 := (HXg.out.next HCg.out).cell 1
    have ka2 := (HXg.out.next HCg.out).cell 2
    have ka3 := (HXg.out.next HCg.out).cell 3
    go_wp2_with fail
    clear ka0 ka1 ka2 ka3
    obtain ⟨g, hga, hgl, hgw⟩ := (HMg.out.next HCg.out).mark w2.heap.size
    have hCgs := HCg.out.size
    have hCws := HCw.out.size
    have hBs := HB.out.size
    have hgF : g ≠ Fg := by
      rcases hgl with h | ⟨h, _, _⟩
      · omega
      · have := HLg.out g h; omega
    refine (laws_markVersion 1 1 rfl ⟨by omega, by omega⟩ ga gp g rc w2 hrf hga hgw).mono ?_
    rintro e w3 ⟨rfl, hm, hok⟩
    have HB := hide (HB.out.trans (hm.below HB.out.size (by omega)))
    have HCw := hide (HCw.out.trans (hm.below HCw.out.size (by omega)))
    have HXg := ((HXg.out.next HCg.out).mv hm (fun h => hgF h.symm)).hid
    have HOK := hide hok
    have HCg : Hid (Below w3.heap.size w3 w3) := Below.refl _ _
    clear hm hok hgw hgl hCgs hCws hBs HMg
    have ka0 := (HXg.out.next HCg.out).cell 0
    have ka1 := (HXg.out.next HCg.out).cell 1
    have ka2 := (HXg.out.next HCg.out).cell 2
    have ka3 := (HXg.out.next HCg.out).cell 3
    go_wp2_with fail
    clear ka0 ka1 ka2 ka3
    have hkc := fun j hj => keepc HCg.out (HOK.out j hj)
    refine (laws_heldVersion 1 1 rfl ⟨by omega, by omega⟩ ga gp g rc w3 hrf hga hkc).mono ?_
    rintro e w4 ⟨rfl, hb4⟩
    have HB := hide (HB.out.trans (hb4.mono HB.out.size))
    have HCw := hide (HCw.out.trans (hb4.mono HCw.out.size))
    have HCg := hide (HCg.out.trans (hb4.mono HCg.out.size))
    have hsz4 := hb4.size
    clear hb4
    clear hkc
    have hpos : ¬ (((1 + rc.n0 * 5 : Nat) : Int) < 0) := by omega
    go_wp2_with fail
    refine (ci  w4 ).mono ?_
    rintro e w5 ⟨⟨uh, rfl, hoh⟩, hb5⟩
    have HB := hide (HB.out.trans (hb5.mono HB.out.size))
    have HCw := hide (HCw.out.trans (hb5.mono HCw.out.size))
    have HCg := hide (HCg.out.trans (hb5.mono HCg.out.size))
    have hsz5 := hb5.size
    clear hb5
    obtain ⟨ha, hp, rfl, hMh⟩ := hoh
    have hBh := hsz5
    have HLh := hide hMh.lt
    have hbb := below_one w5 (.cells #[.slice ha rc.n0 hp, .int .i64 rc.x1, .int .i64 rc.x2, .int .i64 rc.x3] 46)
    have HMh := (hMh.next hbb).hid
    have HXh := (BoxIs.new w5 #[.slice ha rc.n0 hp, .int .i64 rc.x1, .int .i64 rc.x2, .int .i64 rc.x3] 46 rfl).hid
    have HB := hide (HB.out.trans (hbb.mono HB.out.size))
    have HCw := hide (HCw.out.trans (hbb.mono HCw.out.size))
    have HCg := hide (HCg.out.trans (hbb.mono HCg.out.size))
    clear hbb hMh
    have kb0 := (HXw.out.next HCw.out).cell 0
    have kb1 := (HXw.out.next HCw.out).cell 1
    have kb2 := (HXw.out.next HCw.out).cell 2
    have kb3 := (HXw.out.next HCw.out).cell 3
    go_wp2_with fail
    clear kb0 kb1 kb2 kb3
    generalize hWX : w5.alloc (.cells #[.slice ha rc.n0 hp, .int .i64 rc.x1, .int .i64 rc.x2, .int .i64 rc.x3] 46) = Vh at HMh HXh HB HCw HCg ⊢
    clear hWX
    obtain ⟨Fh, hFh⟩ : ∃ F, w5.heap.size = F := ⟨_, rfl⟩
    rw [hFh] at HXh HLh hBh ⊢
    clear hFh
    have hXhl := HXh.out.lt
    have HCh : Hid (Below Vh.heap.size Vh Vh) := Below.refl _ _
    refine (laws_eqVersion _ _ rc Vh hrf (VersionIs.of_mine (HMh.out.next HCh.out)) (VersionIs.of_mine (HMw.out.next HCw.out))).mono ?_
    rintro e w6 ⟨rfl, hb6⟩
    have HB := hide (HB.out.trans (hb6.mono HB.out.size))
    have HCw := hide (HCw.out.trans (hb6.mono HCw.out.size))
    have HCg := hide (HCg.out.trans (hb6.mono HCg.out.size))
    have HCh := hide (HCh.out.trans (hb6.mono HCh.out.size))
    have hsz6 := hb6.size
    clear hb6
    have ka0 := (HXg.out.next HCg.out).cell 0
    have ka1 := (HXg.out.next HCg.out).cell 1
    have ka2 := (HXg.out.next HCg.out).cell 2
    have ka3 := (HXg.out.next HCg.out).cell 3
    go_wp2_with fail
    clear ka0 ka1 ka2 ka3
    have hkc := fun j hj => keepc HCg.out (HOK.out j hj)
    refine (laws_heldVersion 1 1 rfl ⟨by omega, by omega⟩ ga gp g rc w6 hrf hga hkc).mono ?_
    rintro e w7 ⟨rfl, hb7⟩
    have HB := hide (HB.out.trans (hb7.mono HB.out.size))
    have HCw := hide (HCw.out.trans (hb7.mono HCw.out.size))
    have HCg := hide (HCg.out.trans (hb7.mono HCg.out.size))
    have HCh := hide (HCh.out.trans (hb7.mono HCh.out.size))
    have hsz7 := hb7.size
    clear hb7
    clear hkc
    go_wp2
    go_ret
    exact ⟨rfl, HB0.out.trans (HB.out.mono HB0.out.size)⟩

end Go.Proofs.Ytejlijpedhmjgaa
