/- The law on UsersOk. -/
import Derived.Test.YtdiglhphoplplaaUsers
namespace Go.Proofs.Ytdiglhphoplplaa
open Go.RowKit Go.Deep

theorem walk_UsersOk (v : Value) {w : World} (hv : IsStrs w v) (_w : World) :
    Calls Try.prog 6 #[v] w fun e w' => e = .returned (.bool true) ∧ Below w.heap.size w w' := by
  obtain ⟨a, len, cap, S, rfl, hl, hS, hs⟩ := hv
  have HS : Hid (StrAt w w.heap.size a len S) := hS
  go_enter Try.func6, Try.ntmps6
  go_wp2_with fail
  refine (laws_szStringS a len cap S _ w hl hs (by omega) (by omega) hS).mono ?_
  rintro e w1 ⟨⟨r, rfl, hr⟩, rfl⟩
  clear hS hs
  rcases hr with hr | ⟨hr0, hr1, hl2, _⟩
  · go_wp2
    go_ret
    exact ⟨rfl, Below.refl _ _⟩
  · have hl3 : len ≤ 1048576 := by omega
    have hr0' : ¬ (r < 0) := by omega
    go_wp2_with fail
    refine (laws_toStringS a len cap S w hl3 HS.out).mono ?_
    rintro e w1 ⟨rfl, hrow1, hB1⟩
    go_wp2_with fail
    refine (spec_UsersOk _ len len S w1 hl3 (strAt_row hrow1 hrow1.lt)).mono ?_
    rintro e w2 ⟨rfl, rfl⟩
    clear hrow1
    go_wp2_with fail
    refine (laws_toStringS a len cap S w1 hl3 ((HS.out.below hB1).mono hB1.size)).mono ?_
    rintro e w2 ⟨rfl, hrow2, hB2⟩
    have hB := hB1.trans (hB2.mono hB1.size)
    go_wp2_with fail
    refine (impl_UsersOk _ len len S w2 hl3 (strAt_row hrow2 hrow2.lt)).mono ?_
    rintro e w3 ⟨rfl, rfl⟩
    go_wp2_with fail
    refine (laws_toStringS a len cap S w2 hl3 ((HS.out.below hB).mono hB.size)).mono ?_
    rintro e w3 ⟨rfl, hrow3, hB3⟩
    have hB' := hB.trans (hB3.mono hB.size)
    go_wp2_with fail
    refine (laws_eqStringS _ _ len len len S w3 hl3 (strAt_row (rowIs_below hrow2 hB3 hrow2.lt) (by have := hrow2.lt; have := hB3.size; omega)) (strAt_row hrow3 hrow3.lt)).mono ?_
    rintro e w4 ⟨rfl, hB4⟩
    have hB5 := hB'.trans (hB4.mono hB'.size)
    clear hrow2 hrow3 hB1 hB2 hB3 hB hB' hB4
    go_wp2
    go_ret
    exact ⟨rfl, hB5⟩

end Go.Proofs.Ytdiglhphoplplaa
