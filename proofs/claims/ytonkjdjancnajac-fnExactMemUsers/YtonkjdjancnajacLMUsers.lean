/- The law on MemUsers. -/
import Derived.Test.YtonkjdjancnajacMUsersS
import Derived.Test.YtonkjdjancnajacMarkS
import Derived.Test.YtonkjdjancnajacMarkE
namespace Go.Proofs.Ytonkjdjancnajac
set_option maxRecDepth 100000
open Go.RowKit Go.Deep

theorem OwnT.strs {w : World} {B : Nat} {v : Value} {xs : List ByteArray} (h : OwnT w B v xs) : ∃ a cap, v = .slice a xs.length cap ∧ StrAt w w.heap.size a xs.length (fun i => xs.getD i ⟨#[]⟩) := by
  rcases h.2 with ⟨hn, h0⟩ | ⟨g, cap, cur, hv, hg, hh, hle, hcap, hsz, htake⟩
  · have : xs = [] := by simpa using h0
    subst this
    exact ⟨none, 0, by simpa using hn, .inl rfl⟩
  · refine ⟨some ⟨g, 0, none⟩, cap, by simpa using hv, .inr ⟨g, 0, rfl, (Array.getElem?_eq_some_iff.1 hh).1, fun i hi => ?_⟩⟩
    have hc := World.ownsRow.cells h (g := g) (by rw [hv]; rfl) i (.string (xs.getD i ⟨#[]⟩)) (by
      rw [List.getElem?_map, List.getD, List.getElem?_eq_getElem hi]; rfl)
    have e : (⟨g, 0, none⟩ : Addr).add i = ⟨g, 0 + i, none⟩ := by unfold Addr.add; split <;> simp_all
    rw [e] at hc
    exact hc

theorem OwnT.mark {w : World} {B : Nat} {v : Value} {xs : List ByteArray} (h : OwnT w B v xs) (g0 : Nat) : ∃ a cap g, v = .slice a xs.length cap ∧ (xs.length = 0 ∨ a = some ⟨g, 0, none⟩) ∧ (g = g0 ∨ B ≤ g ∧ g < w.heap.size) ∧
    ∀ j, j < xs.length → (∃ v, w.cell? ⟨g, j, none⟩ = some v) ∧ w.frozen? ⟨g, j, none⟩ = false := by
  rcases h.2 with ⟨hn, h0⟩ | ⟨g, cap', cur, hv', hg, hh, hle, hcap, hsz, htake⟩
  · have : xs = [] := by simpa using h0
    subst this
    exact ⟨none, 0, g0, by simpa using hn, .inl rfl, .inl rfl, fun j hj => absurd hj (by simp)⟩
  · have hlt : g < w.heap.size := (Array.getElem?_eq_some_iff.1 hh).1
    refine ⟨_, cap', g, by simpa using hv', .inr rfl, .inr ⟨hg, hlt⟩, fun j hj => ?_⟩
    have hb : BoxIs w g cur 9 := hh
    have hj2 : j < cur.size := by
      rw [hsz]
      have : xs.length ≤ cap' := by simpa using hle
      omega
    exact ⟨⟨cur[j], by rw [hb.cell j]; exact Array.getElem?_eq_getElem hj2⟩, hb.free j⟩

theorem OwnT.mvR {w w' : World} {B r : Nat} {v : Value} {xs : List ByteArray} (h : OwnT w B v xs) (hm : Mv r w w') (hr : r < B) : OwnT w' B v xs := by
  refine ⟨h.1, ?_⟩
  rcases h.2 with hn | ⟨g, cap, cur, rfl, hg, hh, r⟩
  · exact .inl hn
  · refine .inr ⟨g, cap, cur, rfl, hg, ?_, r⟩
    rw [hm.block g (Array.getElem?_eq_some_iff.1 hh).1 (by omega)]; exact hh

theorem wr_next {w w' : World} {g n : Nat} (hb : Below w.heap.size w w') (h : ∀ j, j < n → (∃ v, w.cell? ⟨g, j, none⟩ = some v) ∧ w.frozen? ⟨g, j, none⟩ = false) : ∀ j, j < n → (∃ v, w'.cell? ⟨g, j, none⟩ = some v) ∧ w'.frozen? ⟨g, j, none⟩ = false := fun j hj => by
  obtain ⟨⟨v, hv⟩, hf⟩ := h j hj
  exact ⟨⟨v, keepc hb hv⟩, (hb.frozen (p := ⟨g, j, none⟩) (World.block_lt_of_cell? _ ⟨g, j, none⟩ hv)).trans hf⟩

theorem memUsers_len (E : Ents) (len : Nat) : (memUsers E len).length ≤ 400 := by
  unfold memUsers
  split
  · rename_i h
    exact Nat.le_trans (us_len E len) (rowOk_out h).1
  · simp

set_option maxHeartbeats 1000000 in
theorem walk_MemUsers (v : Value) {w : World} (hv : IsEnts w v) (_w : World) :
    Calls Try.prog 3 #[v] w fun e w' => e = .returned (.bool true) ∧ Below w.heap.size w w' := by
  obtain ⟨a, len, cap, E, rfl, hl, hS, hs⟩ := hv
  have HS : Hid (EntAt w w.heap.size a len E) := hS
  have hxl := memUsers_len E len
  have cs := fun (b : Option Addr) (c : Nat) (wx : World) (h1 : len ≤ 1048576) (h : EntAt wx wx.heap.size b len E) => spec_MemUsers b len c E wx h1 h
  have ci := fun (b : Option Addr) (c : Nat) (wx : World) (h1 : len ≤ 1048576) (h : EntAt wx wx.heap.size b len E) => impl_MemUsers b len c E wx h1 h
  generalize memUsers E len = xs at cs ci hxl
  go_enter Try.func3, Try.ntmps3
  go_wp2_with fail
  refine (laws_szEntryS a len cap E _ w hl hs (by omega) (by omega) hS).mono ?_
  rintro e w1 ⟨⟨r, rfl, hr⟩, hB0⟩
  clear hS hs
  rcases hr with hr | ⟨hr0, hr1, hl2⟩
  · go_wp2
    go_ret
    exact ⟨rfl, hB0⟩
  · have hl3 : len ≤ 1048576 := by omega
    have hr0' : ¬ (r < 0) := by omega
    have HB1 := hide hB0
    clear hB0
    go_wp2_with fail
    refine (laws_toEntryS a len cap E w1 hl3 ((HS.out.below HB1.out).mono HB1.out.size)).mono ?_
    rintro e w2 ⟨rfl, hrow1, hB1⟩
    have HB2 := hide (HB1.out.trans (hB1.mono HB1.out.size))
    have HRA := hide (entAt_row hrow1 hrow1.lt)
    clear hrow1 hB1 HB1
    go_wp2_with fail
    refine (cs _ _ w2 hl3 HRA.out).mono ?_
    rintro e W3 ⟨⟨vw, rfl, how⟩, hb3⟩
    obtain ⟨aw, cw, rfl, hSw⟩ := how.strs
    have HB3 := hide (HB2.out.trans (hb3.mono HB2.out.size))
    have HW3 : Hid (StrAt W3 W3.heap.size aw xs.length (fun i => xs.getD i ⟨#[]⟩)) := hSw
    clear hb3 HB2 HRA how hSw cs
    go_wp2_with fail
    refine (laws_toEntryS a len cap E W3 hl3 ((HS.out.below HB3.out).mono HB3.out.size)).mono ?_
    rintro e w4 ⟨rfl, hrow4, hb4⟩
    have HX4 : Hid (w4.rowIs W3.heap.size 51 (len * 4) (entCell E)) := hrow4
    have hx4 := hrow4.lt
    have HC4 := hide hb4
    clear hrow4 hb4
    go_wp2_with fail
    refine (ci _ _ w4 hl3 (entAt_row HX4.out hx4)).mono ?_
    rintro e w5 ⟨⟨vg, rfl, hog⟩, hb5⟩
    obtain ⟨ag, cg, g, rfl, hgz, hgB, hgw⟩ := hog.mark (w5.heap.size + 1)
    have HG5 : Hid (OwnT w5 w4.heap.size (.slice ag xs.length cg) xs) := hog
    have HWr5 := hide hgw
    have HX5 : Hid (w5.rowIs W3.heap.size 51 (len * 4) (entCell E)) := entRow_below HX4.out hb5 hx4
    have HC5 := hide (HC4.out.trans (hb5.mono HC4.out.size))
    have hz5 := hb5.size
    have hgx : W3.heap.size < g := by omega
    clear hb5 hog hgw HX4 HC4
    obtain ⟨ag2, cg2, hvg, hSg⟩ := HG5.out.strs
    simp only [Value.slice.injEq] at hvg
    obtain ⟨rfl, _, rfl⟩ := hvg
    go_wp2_with fail
    refine (laws_eqStringS ag aw xs.length cg cw _ w5 (by omega) hSg ((HW3.out.below HC5.out).mono HC5.out.size)).mono ?_
    rintro e w6 ⟨rfl, hb6⟩
    have HG6 := hide (HG5.out.next hb6)
    have HWr6 := hide (wr_next hb6 HWr5.out)
    have HX6 : Hid (w6.rowIs W3.heap.size 51 (len * 4) (entCell E)) := entRow_below HX5.out hb6 HX5.out.lt
    have HC6 := hide (HC5.out.trans (hb6.mono HC5.out.size))
    have HB6 := hide (HB3.out.trans (HC6.out.mono HB3.out.size))
    clear hb6 hSg HG5 HWr5 HX5 HC5
    go_wp2_with fail
    refine (laws_toEntryS a len cap E w6 hl3 ((HS.out.below HB6.out).mono HB6.out.size)).mono ?_
    rintro e w7 ⟨rfl, hrow7, hb7⟩
    have HX7 : Hid (w7.rowIs W3.heap.size 51 (len * 4) (entCell E)) := entRow_below HX6.out hb7 HX6.out.lt
    have HC7 := hide (HC6.out.trans (hb7.mono HC6.out.size))
    have HG7 := hide (HG6.out.next hb7)
    have HWr7 := hide (wr_next hb7 HWr6.out)
    have HY7 : Hid (w7.rowIs w6.heap.size 51 (len * 4) (entCell E)) := hrow7
    clear hb7 hrow7 HX6 HC6 HG6 HWr6 HB6
    go_wp2_with fail
    refine (laws_eqEntryS _ _ len len len E w7 hl3 (entAt_row HX7.out HX7.out.lt) (entAt_row HY7.out HY7.out.lt)).mono ?_
    rintro e w8 ⟨rfl, hb8⟩
    have HX8 : Hid (w8.rowIs W3.heap.size 51 (len * 4) (entCell E)) := entRow_below HX7.out hb8 HX7.out.lt
    have HC8 := hide (HC7.out.trans (hb8.mono HC7.out.size))
    have HG8 := hide (HG7.out.next hb8)
    have HWr8 := hide (wr_next hb8 HWr7.out)
    clear hb8 HX7 HC7 HG7 HWr7 HY7
    go_wp2_with fail
    refine (laws_markEntryS (some ⟨W3.heap.size, 0, none⟩) len len W3.heap.size w8 hl3 (Or.inr rfl) (fun j hj => ⟨⟨_, HX8.out.cell hj⟩, HX8.out.frozen j⟩)).mono ?_
    rintro e w9 ⟨rfl, hm9⟩
    have HC9 := hide (HC8.out.trans (hm9.mv.below HC8.out.size (Nat.le_refl _)))
    have HG9 := hide (HG8.out.mvR hm9.mv hx4)
    have HWr9 : Hid (∀ j, j < xs.length → (∃ v, w9.cell? ⟨g, j, none⟩ = some v) ∧ w9.frozen? ⟨g, j, none⟩ = false) := fun j hj => by
      obtain ⟨⟨v, hv⟩, hf⟩ := HWr8.out j hj
      have hlt := World.block_lt_of_cell? _ ⟨g, j, none⟩ hv
      exact ⟨⟨v, (hm9.mv.cell (p := ⟨g, j, none⟩) hlt (by show g ≠ _; omega)).trans hv⟩, (hm9.mv.frozen (p := ⟨g, j, none⟩) hlt (by show g ≠ _; omega)).trans hf⟩
    have hpos : ¬ (((1 + len * 4 : Nat) : Int) < 0) := by omega
    clear hm9 HX8 HC8 HG8 HWr8
    obtain ⟨ag2, cg2, hvg, hSg⟩ := HG9.out.strs
    simp only [Value.slice.injEq] at hvg
    obtain ⟨rfl, _, rfl⟩ := hvg
    go_wp2_with fail
    refine (laws_eqStringS ag aw xs.length cg cw _ w9 (by omega) hSg ((HW3.out.below HC9.out).mono HC9.out.size)).mono ?_
    rintro e w10 ⟨rfl, hb10⟩
    have HC10 := hide (HC9.out.trans (hb10.mono HC9.out.size))
    have HWr10 := hide (wr_next hb10 HWr9.out)
    clear hb10 hSg HC9 HG9 HWr9
    go_wp2_with fail
    refine (laws_markStringS ag xs.length cg g w10 (by omega) hgz HWr10.out).mono ?_
    rintro e w11 ⟨rfl, hm11⟩
    have HC11 := hide (HC10.out.trans (hm11.mv.below HC10.out.size (by omega)))
    have HK11 := hide hm11.ok
    clear hm11 HC10 HWr10
    go_wp2_with fail
    refine (laws_heldStringS ag xs.length cg g w11 (by omega) hgz HK11.out).mono ?_
    rintro e w12 ⟨rfl, hb12⟩
    have HC12 := hide (HC11.out.trans (hb12.mono HC11.out.size))
    have HK12 : Hid (∀ j, j < xs.length → w12.cell? ⟨g, j, none⟩ = some (mkCell kdStringS 1 j)) := fun j hj => keepc hb12 (HK11.out j hj)
    have HB12 := hide (HB3.out.trans (HC12.out.mono HB3.out.size))
    have hpos2 : ¬ (((1 + xs.length : Nat) : Int) < 0) := by omega
    clear hb12 HC11 HK11
    go_wp2_with fail
    refine (laws_toEntryS a len cap E w12 hl3 ((HS.out.below HB12.out).mono HB12.out.size)).mono ?_
    rintro e w13 ⟨rfl, hrow13, hb13⟩
    have HC13 := hide (HC12.out.trans (hb13.mono HC12.out.size))
    have HK13 : Hid (∀ j, j < xs.length → w13.cell? ⟨g, j, none⟩ = some (mkCell kdStringS 1 j)) := fun j hj => keepc hb13 (HK12.out j hj)
    have HRA := hide (entAt_row hrow13 hrow13.lt)
    clear hb13 hrow13 HC12 HK12 HB12
    go_wp2_with fail
    refine (ci _ _ w13 hl3 HRA.out).mono ?_
    rintro e w14 ⟨⟨vh, rfl, hoh⟩, hb14⟩
    obtain ⟨ah, ch, rfl, hSh⟩ := hoh.strs
    have HC14 := hide (HC13.out.trans (hb14.mono HC13.out.size))
    have HK14 : Hid (∀ j, j < xs.length → w14.cell? ⟨g, j, none⟩ = some (mkCell kdStringS 1 j)) := fun j hj => keepc hb14 (HK13.out j hj)
    clear hb14 hoh HRA HC13 HK13 ci
    go_wp2_with fail
    refine (laws_eqStringS ah aw xs.length ch cw _ w14 (by omega) hSh ((HW3.out.below HC14.out).mono HC14.out.size)).mono ?_
    rintro e w15 ⟨rfl, hb15⟩
    have HC15 := hide (HC14.out.trans (hb15.mono HC14.out.size))
    have HK15 : Hid (∀ j, j < xs.length → w15.cell? ⟨g, j, none⟩ = some (mkCell kdStringS 1 j)) := fun j hj => keepc hb15 (HK14.out j hj)
    clear hb15 hSh HC14 HK14
    go_wp2_with fail
    refine (laws_heldStringS ag xs.length cg g w15 (by omega) hgz HK15.out).mono ?_
    rintro e w16 ⟨rfl, hb16⟩
    have HB16 := hide (HB3.out.trans ((HC15.out.trans (hb16.mono HC15.out.size)).mono HB3.out.size))
    clear hb16 HC15 HK15
    go_wp2
    go_ret
    exact ⟨rfl, HB16.out⟩

end Go.Proofs.Ytonkjdjancnajac
