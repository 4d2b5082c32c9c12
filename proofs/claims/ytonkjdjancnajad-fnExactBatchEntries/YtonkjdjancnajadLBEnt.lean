/- The law on BatchEntries. -/
import Derived.Test.YtonkjdjancnajadEntP
import Derived.Test.YtonkjdjancnajadEntS
import Derived.Test.YtonkjdjancnajadMarkO
import Derived.Test.YtonkjdjancnajadMarkE
import Derived.Deep.RegionHeld3
namespace Go.Proofs.Ytonkjdjancnajad
set_option maxRecDepth 100000
open Go.RowKit Go.Deep Go.Sort

/-- What both make of a batch. -/
def esB (q : Int) (len : Nat) (O : Ops) : List En := if batchOkB q len O then (putAll O q len).map (opEn O q) else []

theorem esB_len (q : Int) (len : Nat) (O : Ops) : (esB q len O).length ≤ 20 := by
  unfold esB
  split
  · rename_i h
    rw [List.length_map, putAll_len]
    exact (batchOk_out h).1.2.1
  · simp

theorem OwnE.toV {w : World} {B g cap n : Nat} {es : List En} (h : OwnE w B g cap es) (hn : es.length = n) : OwnV w B (.slice (some ⟨g, 0, none⟩) n cap) es := by subst hn; exact h

set_option maxHeartbeats 2000000 in
theorem impl_BE (q : Int) (a : Option Addr) (len cap : Nat) (O : Ops) (w : World) (hl : len ≤ 1048576) (hS : OpAt w w.heap.size a len O) :
    Calls Try.prog 8 #[.agg #[.int .i64 q, .slice a len cap]] w fun e w' => (∃ v, e = .returned v ∧ OwnV w' w.heap.size v (esB q len O)) ∧ Below w.heap.size w w' := by
  cases hok : batchOkB q len O with
  | true =>
    refine (impl_BatchEntries q a len cap O w hl hS hok).mono ?_
    rintro e w' ⟨⟨g, c, rfl, hO⟩, hb⟩
    refine ⟨⟨_, rfl, ?_⟩, hb⟩
    unfold esB
    rw [if_pos hok, putAll_eq]
    exact hO.toV (by rw [List.length_map, sortB_len, List.length_range])
  | false =>
    have HE : Hid (esB q len O = []) := by show _ = _; unfold esB; rw [if_neg (by rw [hok]; decide)]
    have cb := fun wx h => hok ▸ impl_BatchOk q a len cap O wx hl h
    have hb0 := below_one w (.cells #[.int .i64 q, .slice a len cap] 30)
    have HS0 := hide ((hS.below hb0).mono hb0.size)
    have HB0 := hide hb0
    clear hS hok hb0
    go_enter Try.func8, Try.ntmps8
    go_wp2_with fail
    refine (cb _ HS0.out).mono ?_
    rintro e w1 ⟨rfl, hb1⟩
    have HB1 := hide (HB0.out.trans (hb1.mono HB0.out.size))
    clear hb1 cb HS0 HB0
    go_wp2
    go_ret
    exact ⟨⟨_, rfl, by rw [HE.out]; exact World.ownsRow_nil _ _ _ _⟩, HB1.out⟩

set_option maxHeartbeats 2000000 in
theorem spec_BE (q : Int) (a : Option Addr) (len cap : Nat) (O : Ops) (w : World) (hl : len ≤ 1048576) (hS : OpAt w w.heap.size a len O) :
    Calls Try.prog 6 #[.agg #[.int .i64 q, .slice a len cap]] w fun e w' => (∃ v, e = .returned v ∧ OwnV w' w.heap.size v (esB q len O)) ∧ Below w.heap.size w w' := by
  cases hok : batchOkB q len O with
  | true =>
    refine (spec_BatchEntries q a len cap O w hl hS hok).mono ?_
    rintro e w' ⟨⟨g, c, rfl, hO⟩, hb⟩
    refine ⟨⟨_, rfl, ?_⟩, hb⟩
    unfold esB
    rw [if_pos hok]
    exact hO.toV (by rw [List.length_map, putAll_len])
  | false =>
    have HE : Hid (esB q len O = []) := by show _ = _; unfold esB; rw [if_neg (by rw [hok]; decide)]
    have cb := fun wx h => hok ▸ spec_BatchOk q a len cap O wx hl h
    have hbb := ((Below.refl w.heap.size w).alloc (Nat.le_refl _) (.cells #[.int .i64 q, .slice a len cap] 30)).alloc (by simp) (.cells #[] 52)
    have HS0 := hide ((hS.below hbb).mono hbb.size)
    have HB0 := hide hbb
    have HO0 := hide ((OwnE.lit (w.alloc (.cells #[.int .i64 q, .slice a len cap] 30)) w.heap.size (by simp)))
    clear hS hok hbb
    go_enter Try.func6, Try.ntmps6
    go_wp2_with fail
    refine (cb _ HS0.out).mono ?_
    rintro e w1 ⟨rfl, hb1⟩
    have HB1 := hide (HB0.out.trans (hb1.mono HB0.out.size))
    have HO1 := hide (HO0.out.below hb1 HO0.out.lt.2)
    rw [show (w.alloc (.cells #[.int .i64 q, .slice a len cap] 30)).heap.size = w.heap.size + 1 by simp] at HO1
    clear hb1 cb HS0 HB0 HO0
    go_wp2
    go_ret
    exact ⟨⟨_, rfl, by rw [HE.out]; exact HO1.out⟩, HB1.out⟩

def entsL (es : List En) : Ents := ⟨fun i => ((es[i]?).map En.u).getD ⟨#[]⟩, fun i => ((es[i]?).map En.q).getD 0, fun i => ((es[i]?).map En.k).getD 0, fun i => ((es[i]?).map En.x).getD ⟨#[]⟩⟩

theorem OwnV.mark {w : World} {B : Nat} {v : Value} {es : List En} (h : OwnV w B v es) (g0 : Nat) : ∃ a cap g, v = .slice a es.length cap ∧ EntAt w w.heap.size a es.length (entsL es) ∧ (es.length = 0 ∨ a = some ⟨g, 0, none⟩) ∧ (g = g0 ∨ B ≤ g ∧ g < w.heap.size) ∧
    ∀ j, j < es.length * 4 → (∃ v, w.cell? ⟨g, j, none⟩ = some v) ∧ w.frozen? ⟨g, j, none⟩ = false := by
  rcases h.2 with ⟨hn, h0⟩ | ⟨g, cap', cur, hv', hg, hh, hle, hcap, hsz, htake⟩
  · exact ⟨none, 0, g0, by rw [hn, h0], .inl h0, .inl h0, .inl rfl, fun j hj => absurd hj (by omega)⟩
  · have hlt : g < w.heap.size := (Array.getElem?_eq_some_iff.1 hh).1
    have hE : OwnE w B g cap' es := by subst hv'; exact h
    refine ⟨_, cap', g, hv', .inr ⟨g, 0, rfl, hlt, fun i hi => ?_⟩, .inr rfl, .inr ⟨hg, hlt⟩, fun j hj => ?_⟩
    · have hi' : es[i]? = some es[i] := List.getElem?_eq_getElem hi
      obtain ⟨a, b, c, d⟩ := cellsE_get es i _ hi'
      simp only [entsL, hi', Option.map_some, Option.getD_some, Nat.zero_add]
      exact ⟨hE.cell a, hE.cell b, hE.cell c, hE.cell d⟩
    · have hb : BoxIs w g cur 52 := hh
      have hj2 : j < cur.size := by rw [hsz]; omega
      exact ⟨⟨cur[j], by rw [hb.cell j]; exact Array.getElem?_eq_getElem hj2⟩, hb.free j⟩

theorem wrE_next {w w' : World} {g n : Nat} (hb : Below w.heap.size w w') (h : ∀ j, j < n → (∃ v, w.cell? ⟨g, j, none⟩ = some v) ∧ w.frozen? ⟨g, j, none⟩ = false) : ∀ j, j < n → (∃ v, w'.cell? ⟨g, j, none⟩ = some v) ∧ w'.frozen? ⟨g, j, none⟩ = false := fun j hj => by
  obtain ⟨⟨v, hv⟩, hf⟩ := h j hj
  exact ⟨⟨v, keepc hb hv⟩, (hb.frozen (p := ⟨g, j, none⟩) (World.block_lt_of_cell? _ ⟨g, j, none⟩ hv)).trans hf⟩

theorem laws_markB (q : Int) (a : Option Addr) (len cap g : Nat) (w : World) (hl : len ≤ 1048576) (hg : len = 0 ∨ a = some ⟨g, 0, none⟩) (hw : ∀ j, j < len * 3 → (∃ v, w.cell? ⟨g, j, none⟩ = some v) ∧ w.frozen? ⟨g, j, none⟩ = false) :
    Calls Try.prog 11 #[.agg #[.int .i64 q, .slice a len cap], .int .i64 1] w fun e w' => e = .returned (.int .i64 ((1 + len * 3 : Nat) : Int)) ∧ Mv g w w' := by
  have hb := below_one w (.cells #[.int .i64 q, .slice a len cap] 30)
  have hw2 := wrE_next hb hw
  have HM := hide (Mv.of_below (g := g) hb)
  clear hw hb
  go_enter Try.func11, Try.ntmps11
  go_wp2_with fail
  generalize w.alloc (.cells #[.int .i64 q, .slice a len cap] 30) = W at hw2 HM ⊢
  refine (laws_markOpS a len cap g W hl hg hw2).mono ?_
  rintro e w1 ⟨rfl, hM⟩
  have HM1 := hide hM
  clear hM hw2
  go_wp2
  go_ret
  exact ⟨rfl, HM.out.trans HM1.out.mv⟩

theorem two_held {w0 : World} {g1 g2 : Nat} {x0 x1 y0 y1 : Value} (hg1 : g1 < w0.heap.size) (hg2 : g2 < w0.heap.size) (wa wb : World)
    (h : wa.cell? ⟨g1, 0, none⟩ = some x0 ∧ wa.cell? ⟨g1, 1, none⟩ = some x1 ∧ wa.cell? ⟨g2, 0, none⟩ = some y0 ∧ wa.cell? ⟨g2, 1, none⟩ = some y1 ∧ Hid (Below w0.heap.size w0 wa)) (hx : Below wa.heap.size wa wb) :
    wb.cell? ⟨g1, 0, none⟩ = some x0 ∧ wb.cell? ⟨g1, 1, none⟩ = some x1 ∧ wb.cell? ⟨g2, 0, none⟩ = some y0 ∧ wb.cell? ⟨g2, 1, none⟩ = some y1 ∧ Hid (Below w0.heap.size w0 wb) := by
  obtain ⟨d0, d1, d2, d3, hB⟩ := h
  have h1 : g1 < wa.heap.size := Nat.lt_of_lt_of_le hg1 hB.size
  have h2 : g2 < wa.heap.size := Nat.lt_of_lt_of_le hg2 hB.size
  exact ⟨(hx.cell (p := ⟨g1, _, none⟩) h1).trans d0, (hx.cell (p := ⟨g1, _, none⟩) h1).trans d1, (hx.cell (p := ⟨g2, _, none⟩) h2).trans d2, (hx.cell (p := ⟨g2, _, none⟩) h2).trans d3, hB.trans (hx.mono hB.size)⟩

set_option linter.unusedSimpArgs false in
set_option maxHeartbeats 4000000 in
theorem walk_BatchEntries (v : Value) {w : World} (hv : IsBatch w v) (_w : World) :
    Calls Try.prog 3 #[v] w fun e w' => e = .returned (.bool true) ∧ Below w.heap.size w w' := by
  obtain ⟨q, a, len, cap, O, rfl, hl, hS, hs⟩ := hv
  have HS : Hid (OpAt w w.heap.size a len O) := hS
  have hB0 : Below w.heap.size w (w.alloc (.cells #[.int .i64 q, .slice a len cap] 24)) := below1 _ _
  have hK : BoxIs (w.alloc (.cells #[.int .i64 q, .slice a len cap] 24)) w.heap.size #[.int .i64 q, .slice a len cap] 24 := BoxIs.new w _ _ rfl
  have hel := esB_len q len O
  have cs := fun (b : Option Addr) (c : Nat) (wx : World) (h1 : len ≤ 1048576) (h : OpAt wx wx.heap.size b len O) => spec_BE q b len c O wx h1 h
  have ci := fun (b : Option Addr) (c : Nat) (wx : World) (h1 : len ≤ 1048576) (h : OpAt wx wx.heap.size b len O) => impl_BE q b len c O wx h1 h
  generalize esB q len O = es at cs ci hel
  clear hS
  go_enter Try.func3, Try.ntmps3
  go_wp2_with fail
  generalize w.alloc (.cells #[.int .i64 q, .slice a len cap] 24) = W at hB0 hK ⊢
  have HB0 : Hid (Below w.heap.size w W) := hB0
  have HK : Hid _ := hK.hid
  have hgW := hK.lt
  have hSW := (HS.out.on hB0 (Nat.le_refl _)).mono hB0.size
  have HSW : Hid (OpAt W W.heap.size a len O) := hSW
  refine (laws_szBatch q a len cap O _ W hl hs (by omega) (by omega) hSW).mono ?_
  rintro e w1 ⟨⟨r, rfl, hr⟩, hB1⟩
  have HB1 : Hid (Below W.heap.size W w1) := hB1
  clear hs hB0 hK hSW hB1 HS
  rcases hr with hr | ⟨hr0, hr1, hl2⟩
  · go_wp2
    go_ret
    exact ⟨rfl, HB0.out.trans (HB1.out.mono HB0.out.size)⟩
  · have hl3 : len ≤ 1048576 := by omega
    have hr0' : ¬ (r < 0) := by omega
    have k1 := HK.out.below HB1.out hgW
    have k10 : w1.cell? ⟨w.heap.size, 0, none⟩ = some (.int .i64 q) := k1.cell 0
    have k11 : w1.cell? ⟨w.heap.size, 1, none⟩ = some (.slice a len cap) := k1.cell 1
    clear k1
    go_wp2_with fail
    clear k10 k11
    refine (laws_toBatch q a len cap O w1 hl3 ((HSW.out.on HB1.out (Nat.le_refl _)).mono HB1.out.size)).mono ?_
    rintro e w2 ⟨g1, rfl, hg1, hrow1, hB2⟩
    have HB2 : Hid (Below W.heap.size W w2) := HB1.out.trans (hB2.mono HB1.out.size)
    have HRA := hide (opAt_row hrow1 hrow1.lt)
    clear hB2 HB1 hrow1
    go_wp2_with fail
    refine (cs _ _ w2 hl3 HRA.out).mono ?_
    rintro e W3 ⟨⟨vw, rfl, how⟩, hb3⟩
    obtain ⟨aw, cw, gw, rfl, hSw, _⟩ := how.mark 0
    have HB3 : Hid (Below W.heap.size W W3) := HB2.out.trans (hb3.mono HB2.out.size)
    have HW3 : Hid (EntAt W3 W3.heap.size aw es.length (entsL es)) := hSw
    clear hb3 HB2 HRA how hSw cs
    have HK3 := hide (HK.out.below HB3.out hgW)
    have HS3 : Hid (OpAt W3 W3.heap.size a len O) := (HSW.out.on HB3.out (Nat.le_refl _)).mono HB3.out.size
    have HBW : Hid (Below w.heap.size w W3) := HB0.out.trans (HB3.out.mono HB0.out.size)
    have hgW3 : w.heap.size < W3.heap.size := Nat.lt_of_lt_of_le hgW HB3.out.size
    clear HB0 HK HSW HB3
    have k30 : W3.cell? ⟨w.heap.size, 0, none⟩ = some (.int .i64 q) := HK3.out.cell 0
    have k31 : W3.cell? ⟨w.heap.size, 1, none⟩ = some (.slice a len cap) := HK3.out.cell 1
    go_wp2_with fail
    clear k30 k31
    refine (laws_toBatch q a len cap O W3 hl3 HS3.out).mono ?_
    rintro e w4 ⟨g2, rfl, hg2, hrow2, hb4⟩
    have HC4 := hide hb4
    have HR4 := hide hrow2
    have hz4 := hrow2.lt
    have hb5 := (Below.refl w4.heap.size w4).alloc (Nat.le_refl _) (.cells #[.int .i64 q, .slice (some ⟨g2, 0, none⟩) len len] 30)
    have hx5 := BoxIs.new w4 #[.int .i64 q, .slice (some ⟨g2, 0, none⟩) len len] 30 rfl
    clear hb4 hrow2
    go_wp2_with fail
    generalize w4.alloc (.cells #[.int .i64 q, .slice (some ⟨g2, 0, none⟩) len len] 30) = W5 at hb5 hx5 ⊢
    have HC5 := hide (HC4.out.trans (hb5.mono HC4.out.size))
    have HR5 := hide (entRow_below HR4.out hb5 hz4)
    have HX5 := hide hx5
    have hx5l := hx5.lt
    have hz5 := HR5.out.lt
    clear hb5 hx5 HC4 HR4
    refine (ci _ _ W5 hl3 (opAt_row HR5.out hz5)).mono ?_
    rintro e w6 ⟨⟨vg, rfl, hog⟩, hb6⟩
    obtain ⟨ag, cg, g, rfl, hSg, hgz, hgB, hgw⟩ := hog.mark (w6.heap.size + 1)
    have HG6 : Hid (OwnV w6 W5.heap.size (.slice ag es.length cg) es) := hog
    have HWr6 := hide hgw
    have HC6 := hide (HC5.out.trans (hb6.mono HC5.out.size))
    have HR6 := hide (entRow_below HR5.out hb6 hz5)
    have HX6 := hide (HX5.out.next hb6)
    have hz6 := hb6.size
    have hgx : g2 < g := by omega
    clear hb6 hog hgw HC5 HR5 HX5
    go_wp2_with fail
    refine (laws_eqEntryS ag aw es.length cg cw (entsL es) w6 (by omega) hSg ((HW3.out.below HC6.out).mono HC6.out.size)).mono ?_
    rintro e w7 ⟨rfl, hb7⟩
    have HG7 := hide (own_next HG6.out hb7)
    have HWr7 := hide (wrE_next hb7 HWr6.out)
    have HC7 := hide (HC6.out.trans (hb7.mono HC6.out.size))
    have HR7 := hide (entRow_below HR6.out hb7 HR6.out.lt)
    have hx7 := HX6.out.next hb7
    have hz7 := hb7.size
    have k7 := HK3.out.below HC7.out hgW3
    have hstart : w7.drew.cell? ⟨w.heap.size, 0, none⟩ = some (.int .i64 q) ∧ w7.drew.cell? ⟨w.heap.size, 1, none⟩ = some (.slice a len cap) ∧ w7.drew.cell? ⟨w4.heap.size, 0, none⟩ = some (.int .i64 q) ∧ w7.drew.cell? ⟨w4.heap.size, 1, none⟩ = some (.slice (some ⟨g2, 0, none⟩) len len) ∧ Hid (Below w7.heap.size w7 w7.drew) :=
      ⟨k7.cell 0, k7.cell 1, hx7.cell 0, hx7.cell 1, (Below.refl _ _).drew⟩
    clear hb7 HC6 HR6 HX6 HG6 HWr6 hx7 k7 hSg
    go_wp2_with fail
    refine wp_region_noPanic ?_
    refine wp_region_held_drew (S := fun (w' : World) => w'.cell? ⟨w.heap.size, 0, none⟩ = some (.int .i64 q) ∧ w'.cell? ⟨w.heap.size, 1, none⟩ = some (.slice a len cap) ∧ w'.cell? ⟨w4.heap.size, 0, none⟩ = some (.int .i64 q) ∧ w'.cell? ⟨w4.heap.size, 1, none⟩ = some (.slice (some ⟨g2, 0, none⟩) len len) ∧ Hid (Below w7.heap.size w7 w')) (by kernel_rfl) hstart (fun hHeld => ?_)
    clear hstart
    refine wpAnyH_take (i := 0) (v := .agg #[.int .i64 q, .slice (some ⟨g2, 0, none⟩) len len]) nat0 (by kernel_rfl) (by kernel_rfl) (by kernel_rfl) (fun _ _ _ h => False.elim h) (Or.inl ⟨by rfl, ?_⟩) hHeld ?_
    · intro wx hSw
      go_simp
    simp only [Act.put, List.setIfInBounds_toArray, List.set_cons_zero, List.set_cons_succ]
    refine wpAnyH_take (i := 1) (v := .agg #[.int .i64 q, .slice a len cap]) nat1 (by kernel_rfl) (by kernel_rfl) (by kernel_rfl) (fun _ _ _ h => False.elim h) (Or.inl ⟨by rfl, ?_⟩) hHeld ?_
    · intro wx hSw
      go_simp
    simp only [Act.put, List.setIfInBounds_toArray, List.set_cons_zero, List.set_cons_succ]
    refine wpAnyH_ready (rs := [2]) (by kernel_rfl) (by simp) ?_
    refine AllReadyH.cons nat2 (fun K hK => ?_) AllReadyH.nil
    go_simp
    go_at_call 7
    have hW7 := HC7.out.trans (hHeld.2.2.2.2.out.mono HC7.out.size)
    refine (laws_toBatch q a len cap O _ hl3 ((HS3.out.on hW7 (Nat.le_refl _)).mono hW7.size)).mono ?_
    rintro e w8 ⟨g3, rfl, hg3, hrow3, hb8⟩
    have HR8 := hide hrow3
    have HR8' := hide (entRow_below (entRow_below HR7.out hHeld.2.2.2.2.out HR7.out.lt) hb8 (Nat.lt_of_lt_of_le HR7.out.lt hHeld.2.2.2.2.out.size))
    refine hK.out _ _ (two_held (by omega) (by omega) _ _ hHeld hb8) (fun hHeld2 => ?_)
    clear hK K hHeld hW7 hb8 hrow3
    refine wpAnyH_ready (rs := [3]) (by kernel_rfl) (by simp) ?_
    refine AllReadyH.cons nat3 (fun K hK => ?_) AllReadyH.nil
    go_simp
    go_at_call 10
    refine (laws_eqBatch q _ _ len len len O _ hl3 (opAt_row HR8'.out HR8'.out.lt) (opAt_row HR8.out HR8.out.lt)).mono ?_
    rintro e w9 ⟨rfl, hb9⟩
    refine hK.out _ _ (two_held (by omega) (by omega) _ _ hHeld2 hb9) (fun hHeld3 => ?_)
    clear hK K hHeld2 hb9
    refine wpAnyH_take (i := 4) (v := .bool false) nat4 (by kernel_rfl) (by kernel_rfl) (by kernel_rfl) (fun _ _ _ h => False.elim h) (Or.inl ⟨by rfl, ?_⟩) hHeld3 ?_
    · intro wx hSw
      go_simp
    simp only [Act.put, List.setIfInBounds_toArray, List.set_cons_zero, List.set_cons_succ]
    refine wpAnyH_done (by kernel_rfl) ?_ _
    refine NoPanic.normal ?_
    obtain ⟨_, _, y0, y1, hb9⟩ := hHeld3
    have hb9' := hb9.out
    have HC9 := hide (HC7.out.trans (hb9'.mono HC7.out.size))
    have HR9 := hide (entRow_below HR7.out hb9' HR7.out.lt)
    have HG9 := hide (own_next HG7.out hb9')
    have HWr9 := hide (wrE_next hb9' HWr7.out)
    clear hb9 hb9' HC7 HR7 HG7 HWr7 HR8 HR8'
    go_wp2_with fail
    clear y0 y1
    refine (laws_markB q (some ⟨g2, 0, none⟩) len len g2 w9 hl3 (Or.inr rfl) (fun j hj => ⟨⟨_, HR9.out.cell hj⟩, HR9.out.frozen j⟩)).mono ?_
    rintro e w10 ⟨rfl, hm10⟩
    have HC10 := hide (HC9.out.trans (hm10.below HC9.out.size hg2))
    have HG10 := hide (own_mvR HG9.out hm10 hz5)
    have HWr10 : Hid (∀ j, j < es.length * 4 → (∃ v, w10.cell? ⟨g, j, none⟩ = some v) ∧ w10.frozen? ⟨g, j, none⟩ = false) := fun j hj => by
      obtain ⟨⟨v, hv⟩, hf⟩ := HWr9.out j hj
      have hlt := World.block_lt_of_cell? _ ⟨g, j, none⟩ hv
      exact ⟨⟨v, (hm10.cell (p := ⟨g, j, none⟩) hlt (by show g ≠ _; omega)).trans hv⟩, (hm10.frozen (p := ⟨g, j, none⟩) hlt (by show g ≠ _; omega)).trans hf⟩
    have hpos : ¬ (((1 + len * 3 : Nat) : Int) < 0) := by omega
    clear hm10 HC9 HR9 HG9 HWr9
    obtain ⟨ag2, cg2, _, hvg, hSg, _⟩ := OwnV.mark HG10.out 0
    simp only [Value.slice.injEq] at hvg
    obtain ⟨rfl, _, rfl⟩ := hvg
    go_wp2_with fail
    refine (laws_eqEntryS ag aw es.length cg cw (entsL es) w10 (by omega) hSg ((HW3.out.below HC10.out).mono HC10.out.size)).mono ?_
    rintro e w11 ⟨rfl, hb11⟩
    have HC11 := hide (HC10.out.trans (hb11.mono HC10.out.size))
    have HWr11 := hide (wrE_next hb11 HWr10.out)
    clear hb11 hSg HC10 HG10 HWr10
    go_wp2_with fail
    refine (laws_markEntryS ag es.length cg g w11 (by omega) hgz HWr11.out).mono ?_
    rintro e w12 ⟨rfl, hm12⟩
    have HC12 := hide (HC11.out.trans (hm12.mv.below HC11.out.size (by omega)))
    have HK12 := hide hm12.ok
    clear hm12 HC11 HWr11
    go_wp2_with fail
    refine (laws_heldEntryS ag es.length cg g w12 (by omega) hgz HK12.out).mono ?_
    rintro e w13 ⟨rfl, hb13⟩
    have HC13 := hide (HC12.out.trans (hb13.mono HC12.out.size))
    have HK13 : Hid (∀ j, j < es.length * 4 → w13.cell? ⟨g, j, none⟩ = some (mkCell kdEntryS 1 j)) := fun j hj => keepc hb13 (HK12.out j hj)
    have hpos2 : ¬ (((1 + es.length * 4 : Nat) : Int) < 0) := by omega
    clear hb13 HC12 HK12
    have k13 := HK3.out.below HC13.out hgW3
    have k130 : w13.cell? ⟨w.heap.size, 0, none⟩ = some (.int .i64 q) := k13.cell 0
    have k131 : w13.cell? ⟨w.heap.size, 1, none⟩ = some (.slice a len cap) := k13.cell 1
    clear k13
    go_wp2_with fail
    clear k130 k131
    refine (laws_toBatch q a len cap O w13 hl3 ((HS3.out.below HC13.out).mono HC13.out.size)).mono ?_
    rintro e w14 ⟨g4, rfl, hg4, hrow4, hb14⟩
    have HC14 := hide (HC13.out.trans (hb14.mono HC13.out.size))
    have HK14 : Hid (∀ j, j < es.length * 4 → w14.cell? ⟨g, j, none⟩ = some (mkCell kdEntryS 1 j)) := fun j hj => keepc hb14 (HK13.out j hj)
    have HRA := hide (opAt_row hrow4 hrow4.lt)
    clear hb14 hrow4 HC13 HK13
    go_wp2_with fail
    refine (ci _ _ w14 hl3 HRA.out).mono ?_
    rintro e w15 ⟨⟨vh, rfl, hoh⟩, hb15⟩
    obtain ⟨ah, ch, _, rfl, hSh, _⟩ := hoh.mark 0
    have HC15 := hide (HC14.out.trans (hb15.mono HC14.out.size))
    have HK15 : Hid (∀ j, j < es.length * 4 → w15.cell? ⟨g, j, none⟩ = some (mkCell kdEntryS 1 j)) := fun j hj => keepc hb15 (HK14.out j hj)
    clear hb15 hoh HRA HC14 HK14 ci
    go_wp2_with fail
    refine (laws_eqEntryS ah aw es.length ch cw (entsL es) w15 (by omega) hSh ((HW3.out.below HC15.out).mono HC15.out.size)).mono ?_
    rintro e w16 ⟨rfl, hb16⟩
    have HC16 := hide (HC15.out.trans (hb16.mono HC15.out.size))
    have HK16 : Hid (∀ j, j < es.length * 4 → w16.cell? ⟨g, j, none⟩ = some (mkCell kdEntryS 1 j)) := fun j hj => keepc hb16 (HK15.out j hj)
    clear hb16 hSh HC15 HK15
    go_wp2_with fail
    refine (laws_heldEntryS ag es.length cg g w16 (by omega) hgz HK16.out).mono ?_
    rintro e w17 ⟨rfl, hb17⟩
    have HB17 := hide (HBW.out.trans ((HC16.out.trans (hb17.mono HC16.out.size)).mono HBW.out.size))
    clear hb17 HC16 HK16
    go_wp2
    go_ret
    exact ⟨rfl, HB17.out⟩

end Go.Proofs.Ytonkjdjancnajad
