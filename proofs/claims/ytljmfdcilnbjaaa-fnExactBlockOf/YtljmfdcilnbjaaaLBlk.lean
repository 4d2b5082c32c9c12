/- The law on BlockOf. -/
import Derived.Test.YtljmfdcilnbjaaaBlkS
import Derived.Test.YtljmfdcilnbjaaaLEntsOk
namespace Go.Proofs.Ytljmfdcilnbjaaa
set_option maxRecDepth 100000
open Go.RowKit Go.Deep

set_option maxHeartbeats 2000000 in
theorem walk_BlockOf (v : Value) {w : World} (hv : IsEnts w v) (every : Int) (_he : (Lit.int .i64 every).wf = true) (_w : World) :
    Calls Try.prog 5 #[v, .int .i64 every] w fun e w' => e = .returned (.bool true) ∧ Below w.heap.size w w' := by
  obtain ⟨a, len, cap, E, rfl, hl, hS, hs⟩ := hv
  have HS : Hid (EntAt w w.heap.size a len E) := hS
  go_enter Try.func5, Try.ntmps5
  go_wp2_with fail
  refine (laws_szEntryS a len cap E _ w hl hs (by omega) (by omega) hS).mono ?_
  rintro e w1 ⟨⟨r, rfl, hr⟩, hB0⟩
  clear hS hs
  rcases hr with hr | ⟨hr0, hr1, hl2⟩
  · go_wp2
    go_ret
    exact ⟨rfl, hB0⟩
  · have hl3 : len ≤ 1048576 := by omega
    have hr0' : ¬ (r < 0) := by omega
    have cs := fun b c wx h => spec_BlockOf b len c E every wx hl3 h
    have ci := fun b c wx h => impl_BlockOf b len c E every wx hl3 h
    generalize blkR E len every = R at *
    generalize blkOk E len every = ok at *
    go_wp2_with fail
    refine (laws_toEntryS a len cap E w1 hl3 ((HS.out.below hB0).mono hB0.size)).mono ?_
    rintro e w2 ⟨rfl, hrow1, hB1⟩
    go_wp2_with fail
    refine (cs _ len w2 (entAt_row hrow1 hrow1.lt)).mono ?_
    rintro e w3 ⟨rfl, hB2⟩
    have hC1 := (hB0.trans (hB1.mono hB0.size))
    have hC := hC1.trans (hB2.mono hC1.size)
    clear hrow1 hB0 hB1 hB2 hC1
    go_wp2_with fail
    refine (laws_toEntryS a len cap E w3 hl3 ((HS.out.below hC).mono hC.size)).mono ?_
    rintro e w4 ⟨rfl, hrow2, hB3⟩
    have hD := hC.trans (hB3.mono hC.size)
    go_wp2_with fail
    refine (ci _ len w4 (entAt_row hrow2 hrow2.lt)).mono ?_
    rintro e w5 ⟨rfl, hB4⟩
    have hG := hD.trans (hB4.mono hD.size)
    have hrow2' := entRow_below hrow2 hB4 hrow2.lt
    clear hrow2 hC hB3 hD hB4
    go_wp2_with fail
    refine (laws_toEntryS a len cap E w5 hl3 ((HS.out.below hG).mono hG.size)).mono ?_
    rintro e w6 ⟨rfl, hrow3, hB5⟩
    have hJ := hG.trans (hB5.mono hG.size)
    have hrow2'' := entRow_below hrow2' hB5 hrow2'.lt
    go_wp2_with fail
    refine (laws_eqEntryS _ _ len len len E w6 hl3 (entAt_row hrow2'' hrow2''.lt) (entAt_row hrow3 hrow3.lt)).mono ?_
    rintro e w7 ⟨rfl, hB6⟩
    have hM := hJ.trans (hB6.mono hJ.size)
    clear hrow2' hrow2'' hrow3 hG hB5 hJ hB6
    go_wp2
    go_ret
    exact ⟨rfl, hM⟩

end Go.Proofs.Ytljmfdcilnbjaaa
