/- What is drawn of a disk: how many ops, and an op. -/
import Derived.Test.YtejedpmkbkclhaaDraw
import Derived.Test.YtejedpmkbkclhaaMgEntRowBox
import Derived.Test.YtejedpmkbkclhaaReg
namespace Go.Proofs.Ytejedpmkbkclhaa
set_option maxRecDepth 100000
open Go.RowKit

set_option maxHeartbeats 1000000 in
theorem rd_size (W w : World) (g : Nat) (a : Option Addr) (len cap : Nat) (per most : Int) (h1 : 1 ≤ per) (h2 : 1 ≤ most) (h3 : most ≤ 1000) (h4 : per ≤ 1000) (hc : IsCode W a len) (hl : len ≤ 1048576) (h : Rd W w g a len cap) :
    Calls Try.prog 95 #[.pointer (some ⟨g, 0, none⟩), .int .i64 per, .int .i64 most] w fun e w' => ∃ x : Int, e = .returned (.int .i64 x) ∧ 1 ≤ x ∧ x ≤ most ∧ Rd W w' g a len cap ∧ Mv g w w' := by
  have hb := h.b
  have hne : ¬ per = 0 := by omega
  have hq0 : 0 ≤ (len : Int) / per := Int.ediv_nonneg (by omega) (by omega)
  have hq1 : (len : Int) / per ≤ 1048576 := Int.le_trans (Int.ediv_le_self per (by omega)) (by omega)
  have hw0 : wrap64 ((len : Int) / per) = (len : Int) / per := by unfold wrap64; omega
  have hw1 : wrap64 (1 + (len : Int) / per) = 1 + (len : Int) / per := by unfold wrap64; omega
  by_cases hm : most < 1 + (len : Int) / per
  · go_enter Try.func95, Try.ntmps95
    go_wp2_with fail
    refine (rd_below W _ g a len cap most h2 (by omega) hc hl h).mono ?_
    rintro e w1 ⟨x, rfl, hx0, hx1, hr, hv⟩
    have hw2 : wrap64 (1 + x) = 1 + x := by unfold wrap64; omega
    have H1 : Hid _ := hr
    have H2 : Hid _ := hv
    clear hr hv h hb hm hq0 hq1
    go_wp2
    go_ret
    exact ⟨1 + x, rfl, by omega, by omega, H1, H2⟩
  · go_enter Try.func95, Try.ntmps95
    go_wp2_with fail
    refine (rd_below W _ g a len cap (1 + (len : Int) / per) (by omega) (by omega) hc hl h).mono ?_
    rintro e w1 ⟨x, rfl, hx0, hx1, hr, hv⟩
    have hw2 : wrap64 (1 + x) = 1 + x := by unfold wrap64; omega
    have hxm : 1 + x ≤ most := by omega
    have H1 : Hid _ := hr
    have H2 : Hid _ := hv
    clear hr hv h hb hm hq0 hq1
    go_wp2
    go_ret
    exact ⟨1 + x, rfl, by omega, hxm, H1, H2⟩

def names4 : Array Value := #[.string ⟨#[108, 111, 103]⟩, .string ⟨#[109, 97, 110, 105, 102, 101, 115, 116]⟩, .string ⟨#[109, 97, 110, 105, 102, 101, 115, 116, 46, 110, 101, 119]⟩, .string ⟨#[98]⟩]
def names3 : Array Value := #[.string ⟨#[108, 111, 103]⟩, .string ⟨#[109, 97, 110, 105, 102, 101, 115, 116]⟩, .string ⟨#[99]⟩]
theorem names4_at (k : Nat) (h : k < 4) : ∃ s : ByteArray, names4[k]? = some (.string s) ∧ s.size ≤ 20 := by
  have : k = 0 ∨ k = 1 ∨ k = 2 ∨ k = 3 := by omega
  rcases this with rfl | rfl | rfl | rfl <;> exact ⟨_, rfl, by decide⟩
theorem names3_at (k : Nat) (h : k < 3) : ∃ s : ByteArray, names3[k]? = some (.string s) ∧ s.size ≤ 20 := by
  have : k = 0 ∨ k = 1 ∨ k = 2 := by omega
  rcases this with rfl | rfl | rfl <;> exact ⟨_, rfl, by decide⟩
theorem below_put4 {w w' : World} {F B : Nat} (h : Below B w w') (hF : B ≤ F) (x y z u : Value) : Below B w ((((w'.setCell ⟨F, 0, none⟩ x).setCell ⟨F, 1, none⟩ y).setCell ⟨F, 2, none⟩ z).setCell ⟨F, 3, none⟩ u) :=
  (((h.setCell (p := ⟨F, 0, none⟩) hF x).setCell (p := ⟨F, 1, none⟩) hF y).setCell (p := ⟨F, 2, none⟩) hF z).setCell (p := ⟨F, 3, none⟩) hF u
theorem mv_then {g : Nat} {w w2 w3 : World} (hm : Mv g w w2) (hb : Below w.heap.size w2 w3) : Mv g w w3 :=
  ⟨hb.os.trans hm.os, hb.tape.trans hm.tape, hb.output.trans hm.output, Nat.le_trans hm.size hb.size, fun k hk hg => (hb.block k hk).trans (hm.block k hk hg)⟩

set_option linter.unusedVariables false in
set_option linter.unusedSimpArgs false in
set_option maxHeartbeats 2000000 in
theorem rd_dop (W w : World) (g : Nat) (a : Option Addr) (len cap : Nat) (hc : IsCode W a len) (hl : len ≤ 1048576) (h : Rd W w g a len cap) :
    Calls Try.prog 72 #[.pointer (some ⟨g, 0, none⟩)] w fun e w' => ∃ (k : Int) (m t d : ByteArray), e = .returned (.agg #[.int .i64 k, .string m, .string t, .string d]) ∧ m.size ≤ 20 ∧ t.size ≤ 20 ∧ d.size ≤ 20 ∧ Rd W w' g a len cap ∧ Mv g w w' := by
  have hg := h.lt
  have hb0 := below_one w (.cells #[.int .i64 0, .string ⟨#[]⟩, .string ⟨#[]⟩, .string ⟨#[]⟩] 40)
  have hX := BoxIs.new w #[.int .i64 0, .string ⟨#[]⟩, .string ⟨#[]⟩, .string ⟨#[]⟩] 40 rfl
  have hr0 := h.mv hb0
  have HX := hX.hid
  have HR : Hid _ := hr0
  have hs0 : (w.alloc (.cells #[.int .i64 0, .string ⟨#[]⟩, .string ⟨#[]⟩, .string ⟨#[]⟩] 40)).heap.size = w.heap.size + 1 := by simp
  have HM0 : Hid (Mv g w (w.alloc (.cells #[.int .i64 0, .string ⟨#[]⟩, .string ⟨#[]⟩, .string ⟨#[]⟩] 40))) := Mv.of_below hb0
  have HS0 := hide hs0
  clear hb0 hX hr0 hs0 h
  go_enter Try.func72, Try.ntmps72
  go_wp2_with fail
  generalize w.alloc (.cells #[.int .i64 0, .string ⟨#[]⟩, .string ⟨#[]⟩, .string ⟨#[]⟩] 40) = w0 at HX HR HM0 HS0 ⊢
  refine (rd_below W _ g a len cap 4 (by omega) (by omega) hc hl (HR.out.mv (below_one w0 _))).mono ?_
  rintro e w1 ⟨x, rfl, hx0, hx1, hr, hm⟩
  obtain ⟨k, rfl⟩ := Int.eq_ofNat_of_zero_le hx0
  obtain ⟨m, hs, hms⟩ := names4_at k (by omega)
  have hcell := pick_cell hm (by have := HS0.out; omega) k hs
  rw [HS0.out] at hcell
  have HM1 := hide (HM0.out.trans (mv_alloc hm))
  have HX1 := (HX.out.mv (mv_alloc hm) (by omega)).hid
  have HR1 : Hid _ := hr
  have hk4 : (k : Int) < 4 := hx1
  clear hs hr hm HX HR HM0 HS0 hx0 hx1
  go_wp2_with fail
  clear hcell
  refine (rd_below W w1 g a len cap 5 (by omega) (by omega) hc hl HR1.out).mono ?_
  rintro e w2 ⟨y, rfl, hy0, hy1, hr, hm⟩
  have HM2 := hide (HM1.out.trans hm)
  have HX2 := (HX1.out.mv hm (by omega)).hid
  have HR2 : Hid _ := hr
  clear hr hm HX1 HR1 HM1
  by_cases hy : y = 0
  · subst hy
    clear hy0 hy1
    go_wp2_with fail
    refine (rd_below W _ g a len cap 3 (by omega) (by omega) hc hl (HR2.out.mv (below_one w2 _))).mono ?_
    rintro e w3 ⟨x, rfl, hx0, hx1, hr, hm⟩
    obtain ⟨j, rfl⟩ := Int.eq_ofNat_of_zero_le hx0
    obtain ⟨t, hs, hts⟩ := names3_at j (by omega)
    have hcell := pick_cell hm HR2.out.lt j hs
    have HM3 := hide (HM2.out.trans (mv_alloc hm))
    have hX3 := HX2.out.mv (mv_alloc hm) (by omega)
    have HR3 : Hid _ := hr
    have hj3 : (j : Int) < 3 := hx1
    have HME := hide (mv_then HM3.out (below_put4 (F := w.heap.size) (Below.refl w.heap.size w3) (Nat.le_refl _) (.int .i64 2) (.string m) (.string t) (.string ⟨#[]⟩)))
    have HRE : Hid _ := HR3.out.keep (below_put4 (F := w.heap.size) (Below.refl w.heap.size w3) (Nat.le_refl _) (.int .i64 2) (.string m) (.string t) (.string ⟨#[]⟩)) hg
    have e0 := hX3.cell 0
    have e1 := hX3.cell 1
    have e2 := hX3.cell 2
    have e3 := hX3.cell 3
    have ef := hX3.free
    simp only [List.getElem?_toArray, List.getElem?_cons_succ, List.getElem?_cons_zero] at e0 e1 e2 e3
    clear hs hr hm hX3 HR2 HX2 HM2 HM3 HR3 hx0 hx1
    go_wp2
    refine bodyPost_ret (v := .agg #[.int .i64 2, .string m, .string t, .string ⟨#[]⟩]) (by simp [results, Try.results72, go_sem, e0, e1, e2, e3]) rfl ⟨2, m, t, ⟨#[]⟩, rfl, hms, hts, by show (⟨#[]⟩ : ByteArray).size ≤ _; decide, HRE, HME⟩
  · by_cases hy2 : y = 1
    · subst hy2
      clear hy0 hy1 hy
      have hX3 := HX2.out
      have HME := hide (mv_then HM2.out (below_put4 (F := w.heap.size) (Below.refl w.heap.size w2) (Nat.le_refl _) (.int .i64 3) (.string m) (.string ⟨#[]⟩) (.string ⟨#[]⟩)))
      have HRE : Hid _ := HR2.out.keep (below_put4 (F := w.heap.size) (Below.refl w.heap.size w2) (Nat.le_refl _) (.int .i64 3) (.string m) (.string ⟨#[]⟩) (.string ⟨#[]⟩)) hg
      have e0 := hX3.cell 0
      have e1 := hX3.cell 1
      have e2 := hX3.cell 2
      have e3 := hX3.cell 3
      have ef := hX3.free
      simp only [List.getElem?_toArray, List.getElem?_cons_succ, List.getElem?_cons_zero] at e0 e1 e2 e3
      clear hX3 HR2 HX2 HM2
      go_wp2
      refine bodyPost_ret (v := .agg #[.int .i64 3, .string m, .string ⟨#[]⟩, .string ⟨#[]⟩]) (by simp [results, Try.results72, go_sem, e0, e1, e2, e3]) rfl ⟨3, m, ⟨#[]⟩, ⟨#[]⟩, rfl, hms, by show (⟨#[]⟩ : ByteArray).size ≤ _; decide, by show (⟨#[]⟩ : ByteArray).size ≤ _; decide, HRE, HME⟩
    · go_wp2_with fail
      refine (rd_text W w2 g a len cap hc hl HR2.out).mono ?_
      rintro e w3 ⟨d, rfl, hd4, hr, hm⟩
      have HM3 := hide (HM2.out.trans hm)
      have hX3 := HX2.out.mv hm (by omega)
      have HME := hide (mv_then HM3.out (below_put4 (F := w.heap.size) (Below.refl w.heap.size w3) (Nat.le_refl _) (.int .i64 1) (.string m) (.string ⟨#[]⟩) (.string d)))
      have HRE : Hid _ := hr.keep (below_put4 (F := w.heap.size) (Below.refl w.heap.size w3) (Nat.le_refl _) (.int .i64 1) (.string m) (.string ⟨#[]⟩) (.string d)) hg
      have e0 := hX3.cell 0
      have e1 := hX3.cell 1
      have e2 := hX3.cell 2
      have e3 := hX3.cell 3
      have ef := hX3.free
      simp only [List.getElem?_toArray, List.getElem?_cons_succ, List.getElem?_cons_zero] at e0 e1 e2 e3
      clear hr hm hX3 HR2 HX2 HM2 HM3
      go_wp2
      refine bodyPost_ret (v := .agg #[.int .i64 1, .string m, .string ⟨#[]⟩, .string d]) (by simp [results, Try.results72, go_sem, e0, e1, e2, e3]) rfl ⟨1, m, ⟨#[]⟩, d, rfl, hms, by show (⟨#[]⟩ : ByteArray).size ≤ _; decide, by omega, HRE, HME⟩

end Go.Proofs.Ytejedpmkbkclhaa
