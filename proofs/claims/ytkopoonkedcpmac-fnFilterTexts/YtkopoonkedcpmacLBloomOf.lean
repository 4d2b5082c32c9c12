/- The law on BloomOf. -/
import Derived.Test.YtkopoonkedcpmacBloomOfS
namespace Go.Proofs.Ytkopoonkedcpmac
open Go.RowKit Go.Deep

/-- A filter that BloomOf told, as its four fields. -/
theorem bloomV_form (S : Nat → ByteArray) (len : Nat) (per : Int) : ∃ (k s p : Int) (b : ByteArray) (ok : Bool), bloomV S len per = .tuple #[.agg #[.int .i64 k, .int .i64 s, .int .i64 p, .string b], .bool ok] := by
  by_cases h : usersB S len = true ∧ 1 ≤ per ∧ per ≤ 20
  · unfold bloomV; rw [if_pos h]; exact ⟨_, _, _, _, _, rfl⟩
  · rw [bloomV_no h]; exact ⟨_, _, _, _, _, rfl⟩

theorem walk_BloomOf (v : Value) {w : World} (hv : IsStrs w v) (per : Int) (_hp : (Lit.int .i64 per).wf = true) (_w2 : World) :
    Calls Try.prog 3 #[v, .int .i64 per] w fun e w' => e = .returned (.bool true) ∧ Below w.heap.size w w' := by
  obtain ⟨a, len, cap, S, rfl, hl, hS, hs⟩ := hv
  have HS : Hid (StrAt w w.heap.size a len S) := hS
  obtain ⟨fk, fs, fp, fb, ok, hform⟩ := bloomV_form S len per
  have cs := fun (X : Option Addr) (C : Nat) (wx : World) (h1 : len ≤ 1048576) (h2 : StrAt wx wx.heap.size X len S) => hform ▸ spec_BloomOf X len C S per wx h1 h2
  have ci := fun (X : Option Addr) (C : Nat) (wx : World) (h1 : len ≤ 1048576) (h2 : StrAt wx wx.heap.size X len S) => hform ▸ impl_BloomOf X len C S per wx h1 h2
  have CS := hide cs
  have CI := hide ci
  clear cs ci hform
  go_enter Try.func3, Try.ntmps3
  go_wp2_with fail
  refine (laws_szStringS a len cap S _ w hl hs (by omega) (by omega) hS).mono ?_
  rintro e w1 ⟨⟨r, rfl, hr⟩, rfl⟩
  clear hS hs
  rcases hr with hr | ⟨hr0, hr1, hl2, _⟩
  · go_wp2
    go_ret
    exact ⟨rfl, Below.refl _ _⟩
  · have hl3 : len ≤ 1048576 := by omega
    have hr0' : ¬ (r < 0) := by omega
    go_wp2_with fail
    refine (laws_toStringS a len cap S w hl3 HS.out).mono ?_
    rintro e w1 ⟨rfl, hrow1, hB1⟩
    go_wp2_with fail
    refine (CS.out _ len w1 hl3 (strAt_row hrow1 hrow1.lt)).mono ?_
    rintro e w2 ⟨rfl, hB2⟩
    have hB := hB1.trans (hB2.mono hB1.size)
    have HB := hide hB
    clear hrow1 hB hB2 hB1
    go_wp2_with fail
    obtain ⟨W3, hW3⟩ : ∃ W3, w2.alloc (.cells #[.int .i64 fk, .int .i64 fs, .int .i64 fp, .string fb] 25) = W3 := ⟨_, rfl⟩
    have hE6 := heap_alloc_new w2 (.cells #[.int .i64 fk, .int .i64 fs, .int .i64 fp, .string fb] 25)
    have hB3 := HB.out.alloc HB.out.size (.cells #[.int .i64 fk, .int .i64 fs, .int .i64 fp, .string fb] 25)
    rw [hW3] at hE6 hB3 ⊢
    clear hW3
    refine (laws_toStringS a len cap S W3 hl3 ((HS.out.below hB3).mono hB3.size)).mono ?_
    rintro e w4 ⟨rfl, hrow2, hB4⟩
    have hE6' := (hB4.block _ (Array.getElem?_eq_some_iff.1 hE6).1).trans hE6
    have hBB := hB3.trans (hB4.mono hB3.size)
    have HBB := hide hBB
    have HE6 := hide hE6'
    clear hE6 hE6' hB3 hB4 hBB HB
    go_wp2_with fail
    refine (CI.out _ len w4 hl3 (strAt_row hrow2 hrow2.lt)).mono ?_
    rintro e w5 ⟨rfl, hB5⟩
    have HR2 := hide (rowIs_below hrow2 hB5 hrow2.lt)
    have HE7 := hide ((hB5.block _ (Array.getElem?_eq_some_iff.1 HE6.out).1).trans HE6.out)
    have HB5 := hide (HBB.out.trans (hB5.mono HBB.out.size))
    have hlt5 : W3.heap.size < w5.heap.size := by have := hrow2.lt; have := hB5.size; omega
    have HLT := hide hlt5
    clear hrow2 hB5 HE6 HBB hlt5
    have hc0 : w5.cell? ⟨w2.heap.size, 0, none⟩ = some (.int .i64 fk) := cell_of_row _ _ _ _ _ _ HE7.out
    have hc1 : w5.cell? ⟨w2.heap.size, 1, none⟩ = some (.int .i64 fs) := cell_of_row _ _ _ _ _ _ HE7.out
    have hc2 : w5.cell? ⟨w2.heap.size, 2, none⟩ = some (.int .i64 fp) := cell_of_row _ _ _ _ _ _ HE7.out
    have hc3 : w5.cell? ⟨w2.heap.size, 3, none⟩ = some (.string fb) := cell_of_row _ _ _ _ _ _ HE7.out
    have hlt2 : w2.heap.size < w5.heap.size := (Array.getElem?_eq_some_iff.1 HE7.out).1
    go_wp2_with fail
    refine (laws_eqFilter fk fs fp fb _).mono ?_
    rintro e w6 ⟨rfl, hB6⟩
    have HB6 := hide (HB5.out.trans ((below_of_alloc hB6).mono HB5.out.size))
    have hB6' := below_of_alloc hB6
    have HR6 := hide (rowIs_below HR2.out hB6' HLT.out)
    have HLT6 : Hid (W3.heap.size < w6.heap.size) := by have := hB6'.size; have := HLT.out; show _ < _; omega
    clear hB6 hB6' hc0 hc1 hc2 hc3 hlt2
    go_wp2_with fail
    refine (laws_toStringS a len cap S w6 hl3 ((HS.out.below HB6.out).mono HB6.out.size)).mono ?_
    rintro e w7 ⟨rfl, hrow3, hB7⟩
    have HB7 := hide (HB6.out.trans (hB7.mono HB6.out.size))
    go_wp2_with fail
    refine (laws_eqStringS _ _ len len len S w7 hl3 (strAt_row (rowIs_below HR6.out hB7 HLT6.out) (by have := HLT6.out; have := hB7.size; omega)) (strAt_row hrow3 hrow3.lt)).mono ?_
    rintro e w8 ⟨rfl, hB8⟩
    have HB8 := hide (HB7.out.trans (hB8.mono HB7.out.size))
    clear hrow3 hB7 hB8
    go_wp2
    go_ret
    exact ⟨rfl, HB8.out⟩

end Go.Proofs.Ytkopoonkedcpmac
