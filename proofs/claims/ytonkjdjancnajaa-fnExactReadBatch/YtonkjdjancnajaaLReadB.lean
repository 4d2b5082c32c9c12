/- The law on ReadBatch. -/
import Derived.Test.YtonkjdjancnajaaReadBS
import Derived.Test.YtonkjdjancnajaaMarkO
namespace Go.Proofs.Ytonkjdjancnajaa
set_option maxRecDepth 100000
open Go.RowKit Go.Deep

/-- What a row of one's own gives those who write into it. -/
theorem OwnO.mark {w : World} {B : Nat} {v : Value} {os : List Ob} (h : OwnO w B v os) (g0 : Nat) : ∃ a cap g, v = .slice a os.length cap ∧ OpAt w w.heap.size a os.length (opsOf os) ∧ (os.length = 0 ∨ a = some ⟨g, 0, none⟩) ∧ (g = g0 ∨ B ≤ g ∧ g < w.heap.size) ∧
    ∀ j, j < os.length * 3 → (∃ v, w.cell? ⟨g, j, none⟩ = some v) ∧ w.frozen? ⟨g, j, none⟩ = false := by
  obtain ⟨a, cap, hv, hO⟩ := h.ops
  rcases h.2 with ⟨hn, h0⟩ | ⟨g, cap', cur, hv', hg, hh, hle, hcap, hsz, htake⟩
  · have : os = [] := by cases os with | nil => rfl | cons a b => simp at h0
    subst this
    exact ⟨a, cap, g0, hv, hO, .inl rfl, .inl rfl, fun j hj => absurd hj (by simp)⟩
  · have hlt : g < w.heap.size := (Array.getElem?_eq_some_iff.1 hh).1
    rw [hv'] at hv
    simp only [Value.slice.injEq] at hv
    obtain ⟨ha, _, hc⟩ := hv
    subst ha
    subst hc
    refine ⟨_, cap', g, hv', hO, .inr rfl, .inr ⟨hg, hlt⟩, fun j hj => ?_⟩
    have hb : BoxIs w g cur 66 := hh
    have hj2 : j < cur.size := by rw [hsz]; omega
    exact ⟨⟨cur[j], by rw [hb.cell j]; exact Array.getElem?_eq_getElem hj2⟩, hb.free j⟩

theorem readB_len (s : ByteArray) : (readB s).2.2.length ≤ 21 := by
  unfold readB
  simp only
  split
  · rw [rdo_len]
    have := rdm_bd (rnum (rnum s).2.1).1 (rnum_bd _).2.1
    omega
  · simp

theorem laws_markBatch (q : Int) (a : Option Addr) (len cap g : Nat) (w : World) (hl : len ≤ 10000) (hg : len = 0 ∨ a = some ⟨g, 0, none⟩) (hw : ∀ j, j < len * 3 → (∃ v, w.cell? ⟨g, j, none⟩ = some v) ∧ w.frozen? ⟨g, j, none⟩ = false) :
    Calls Try.prog 18 #[.agg #[.int .i64 q, .slice a len cap], .int .i64 1] w fun e w' => e = .returned (.int .i64 ((1 + len * 3 : Nat) : Int)) ∧ Mv g w w' ∧ ∀ j, j < len * 3 → w'.cell? ⟨g, j, none⟩ = some (mkCell kdOpS 1 j) := by
  have hb := below_one w (.cells #[.int .i64 q, .slice a len cap] 29)
  have hw2 : ∀ j, j < len * 3 → (∃ v, (w.alloc (.cells #[.int .i64 q, .slice a len cap] 29)).cell? ⟨g, j, none⟩ = some v) ∧ (w.alloc (.cells #[.int .i64 q, .slice a len cap] 29)).frozen? ⟨g, j, none⟩ = false := fun j hj => by
    obtain ⟨⟨v, hv⟩, hf⟩ := hw j hj
    exact ⟨⟨v, keepc hb hv⟩, (hb.frozen (p := ⟨g, j, none⟩) (World.block_lt_of_cell? _ ⟨g, j, none⟩ hv)).trans hf⟩
  have HM := hide (Mv.of_below (g := g) hb)
  clear hw hb
  go_enter Try.func18, Try.ntmps18
  go_wp2_with fail
  generalize w.alloc (.cells #[.int .i64 q, .slice a len cap] 29) = W at hw2 HM ⊢
  refine (laws_markOpS a len cap g W hl hg hw2).mono ?_
  rintro e w1 ⟨rfl, hM⟩
  have HM1 := hide hM
  clear hM hw2
  go_wp2
  go_ret
  exact ⟨rfl, HM.out.trans HM1.out.mv, HM1.out.ok⟩

theorem laws_heldBatch (q : Int) (a : Option Addr) (len cap g : Nat) (w : World) (hl : len ≤ 10000) (hg : len = 0 ∨ a = some ⟨g, 0, none⟩) (hw : ∀ j, j < len * 3 → w.cell? ⟨g, j, none⟩ = some (mkCell kdOpS 1 j)) :
    Calls Try.prog 19 #[.agg #[.int .i64 q, .slice a len cap], .int .i64 1] w fun e w' => e = .returned (.int .i64 ((1 + len * 3 : Nat) : Int)) ∧ Below w.heap.size w w' := by
  have hb := below_one w (.cells #[.int .i64 q, .slice a len cap] 29)
  have hw2 : ∀ j, j < len * 3 → (w.alloc (.cells #[.int .i64 q, .slice a len cap] 29)).cell? ⟨g, j, none⟩ = some (mkCell kdOpS 1 j) := fun j hj => keepc hb (hw j hj)
  have HB := hide hb
  clear hw hb
  go_enter Try.func19, Try.ntmps19
  go_wp2_with fail
  generalize w.alloc (.cells #[.int .i64 q, .slice a len cap] 29) = W at hw2 HB ⊢
  refine (laws_heldOpS a len cap g W hl hg hw2).mono ?_
  rintro e w1 ⟨rfl, hB⟩
  have HB1 := hide (HB.out.trans (hB.mono HB.out.size))
  have hp : ¬ (((1 + len * 3 : Nat) : Int) < 0) := by omega
  clear hB hw2 HB
  go_wp2
  go_ret
  exact ⟨rfl, HB1.out⟩

set_option maxHeartbeats 2000000 in
theorem walk_ReadBatch (s : ByteArray) (_h : s.size ≤ maxLen) (w : World) :
    Calls Try.prog 5 #[.string s] w fun e w' => e = .returned (.bool true) ∧ Below w.heap.size w w' := by
  by_cases hbig : (1048576 : Int) < (s.size : Int)
  · go_enter Try.func5, Try.ntmps5
    go_wp2
    go_ret
    exact ⟨rfl, Below.refl _ _⟩
  · have hlen := readB_len s
    have cs := fun wx => spec_ReadBatch s (by omega) wx
    have ci := fun wx => impl_ReadBatchR s (by omega) wx
    generalize readB s = D at cs ci hlen
    obtain ⟨ok, q, os⟩ := D
    simp only at cs ci hlen
    go_enter Try.func5, Try.ntmps5
    go_wp2_with fail
    refine (cs _).mono ?_
    rintro e w1 ⟨⟨vw, rfl, how⟩, hb1⟩
    have hb2 : ∀ (u : Value), Below w1.heap.size w1 (w1.alloc (.cells #[.int .i64 q, u] 29)) := fun u => below_one w1 _
    obtain ⟨aw, cw, rfl, hOw⟩ := how.ops
    have HO2 := hide ((hOw.below (hb2 (.slice aw os.length cw))).mono (B' := (w1.alloc (.cells #[.int .i64 q, .slice aw os.length cw] 29)).heap.size) (by simp))
    have HB2 := hide (hb1.trans ((hb2 (.slice aw os.length cw)).mono hb1.size))
    have HT2 := hide (BoxIs.new w1 #[.int .i64 q, .slice aw os.length cw] 29 rfl)
    clear hb1 hb2 how cs hOw
    go_wp2_with fail
    generalize w1.alloc (.cells #[.int .i64 q, .slice aw os.length cw] 29) = W2 at HO2 HB2 HT2 ⊢
    have ht2 := HT2.out.lt
    obtain ⟨F1, hF1⟩ : ∃ F1, w1.heap.size = F1 := ⟨_, rfl⟩
    rw [hF1] at HT2 ht2 ⊢
    clear hF1
    refine (ci _).mono ?_
    rintro e w3 ⟨⟨vg, rfl, hog⟩, hb3⟩
    have hz3 := hb3.size
    obtain ⟨ag, cg, g, rfl, hOg, hgz, hgB, hgw⟩ := hog.mark (w3.heap.size + 1)
    have hb4 := below_one w3 (.cells #[.int .i64 q, .slice ag os.length cg] 29)
    have HC4 : Hid (Below W2.heap.size W2 (w3.alloc (.cells #[.int .i64 q, .slice ag os.length cg] 29))) := hb3.trans (hb4.mono hz3)
    have HOG4 := hide ((hOg.below hb4).mono (B' := (w3.alloc (.cells #[.int .i64 q, .slice ag os.length cg] 29)).heap.size) (by simp))
    have HG4 := hide (BoxIs.new w3 #[.int .i64 q, .slice ag os.length cg] 29 rfl)
    have HW4 : Hid (∀ j, j < os.length * 3 → (∃ v, (w3.alloc (.cells #[.int .i64 q, .slice ag os.length cg] 29)).cell? ⟨g, j, none⟩ = some v) ∧ (w3.alloc (.cells #[.int .i64 q, .slice ag os.length cg] 29)).frozen? ⟨g, j, none⟩ = false) := fun j hj => by
      obtain ⟨⟨v, hv⟩, hf⟩ := hgw j hj
      exact ⟨⟨v, keepc hb4 hv⟩, (hb4.frozen (p := ⟨g, j, none⟩) (World.block_lt_of_cell? _ ⟨g, j, none⟩ hv)).trans hf⟩
    have hgne : g ≠ w3.heap.size := by omega
    have hgnew : W2.heap.size ≤ g := by omega
    have hTb := HT2.out.below HC4.out ht2
    have c40 : (w3.alloc (.cells #[.int .i64 q, .slice ag os.length cg] 29)).cell? ⟨F1, 0, none⟩ = some (.int .i64 q) := hTb.cell 0
    have c41 : (w3.alloc (.cells #[.int .i64 q, .slice ag os.length cg] 29)).cell? ⟨F1, 1, none⟩ = some (.slice aw os.length cw) := hTb.cell 1
    have hne4 : F1 ≠ w3.heap.size := by omega
    clear hb3 hb4 hog hgw hTb hOg
    go_wp2_with fail
    clear c40 c41
    generalize w3.alloc (.cells #[.int .i64 q, .slice ag os.length cg] 29) = W4 at HOG4 HC4 HG4 HW4 ⊢
    obtain ⟨F2, hF2⟩ : ∃ F2, w3.heap.size = F2 := ⟨_, rfl⟩
    rw [hF2] at HG4 hgne hgB hne4 ⊢
    clear hF2 hz3
    refine (laws_eqBatch q ag aw os.length cg cw (opsOf os) W4 (by omega) HOG4.out ((HO2.out.below HC4.out).mono HC4.out.size)).mono ?_
    rintro e w5 ⟨rfl, hb5⟩
    have HC5 := hide (HC4.out.trans (hb5.mono HC4.out.size))
    have HG5 := hide (HG4.out.next hb5)
    have HW5 : Hid (∀ j, j < os.length * 3 → (∃ v, w5.cell? ⟨g, j, none⟩ = some v) ∧ w5.frozen? ⟨g, j, none⟩ = false) := fun j hj => by
      obtain ⟨⟨v, hv⟩, hf⟩ := HW4.out j hj
      exact ⟨⟨v, keepc hb5 hv⟩, (hb5.frozen (p := ⟨g, j, none⟩) (World.block_lt_of_cell? _ ⟨g, j, none⟩ hv)).trans hf⟩
    have c50 : w5.cell? ⟨F2, 0, none⟩ = some (.int .i64 q) := HG5.out.cell 0
    have c51 : w5.cell? ⟨F2, 1, none⟩ = some (.slice ag os.length cg) := HG5.out.cell 1
    clear hb5 HOG4 HC4 HG4 HW4
    go_wp2_with fail
    clear c50 c51
    refine (laws_markBatch q ag os.length cg g w5 (by omega) hgz HW5.out).mono ?_
    rintro e w6 ⟨rfl, hm6, hok6⟩
    have HC6 := hide (HC5.out.trans (hm6.below HC5.out.size hgnew))
    have HG6 := hide (HG5.out.mv hm6 (fun h => hgne h.symm))
    have HK6 := hide hok6
    have c60 : w6.cell? ⟨F2, 0, none⟩ = some (.int .i64 q) := HG6.out.cell 0
    have c61 : w6.cell? ⟨F2, 1, none⟩ = some (.slice ag os.length cg) := HG6.out.cell 1
    clear hm6 hok6 HC5 HG5 HW5
    go_wp2_with fail
    clear c60 c61
    refine (laws_heldBatch q ag os.length cg g w6 (by omega) hgz HK6.out).mono ?_
    rintro e w7 ⟨rfl, hb7⟩
    have HC7 := hide (HC6.out.trans (hb7.mono HC6.out.size))
    have HG7 := hide (HG6.out.next hb7)
    have HK7 : Hid (∀ j, j < os.length * 3 → w7.cell? ⟨g, j, none⟩ = some (mkCell kdOpS 1 j)) := fun j hj => keepc hb7 (HK6.out j hj)
    have hpos : ¬ (((1 + os.length * 3 : Nat) : Int) < 0) := by omega
    clear hb7 HC6 HG6 HK6
    go_wp2_with fail
    refine (ci _).mono ?_
    rintro e w8 ⟨⟨vh, rfl, hoh⟩, hb8⟩
    obtain ⟨ah, ch, rfl, hOh⟩ := hoh.ops
    have hb9 := below_one w8 (.cells #[.int .i64 q, .slice ah os.length ch] 29)
    have hb89 := hb8.trans (hb9.mono hb8.size)
    have HC9 := hide (HC7.out.trans (hb89.mono HC7.out.size))
    have HG9 := hide (HG7.out.next hb89)
    have HK9 : Hid (∀ j, j < os.length * 3 → (w8.alloc (.cells #[.int .i64 q, .slice ah os.length ch] 29)).cell? ⟨g, j, none⟩ = some (mkCell kdOpS 1 j)) := fun j hj => keepc hb89 (HK7.out j hj)
    have HOH9 := hide ((hOh.below hb9).mono (B' := (w8.alloc (.cells #[.int .i64 q, .slice ah os.length ch] 29)).heap.size) (by simp))
    have hTb := HT2.out.below HC9.out ht2
    have c90 : (w8.alloc (.cells #[.int .i64 q, .slice ah os.length ch] 29)).cell? ⟨F1, 0, none⟩ = some (.int .i64 q) := hTb.cell 0
    have c91 : (w8.alloc (.cells #[.int .i64 q, .slice ah os.length ch] 29)).cell? ⟨F1, 1, none⟩ = some (.slice aw os.length cw) := hTb.cell 1
    have hz8 := HC7.out.size
    have hz8' := hb8.size
    have hne9 : F1 ≠ w8.heap.size := by omega
    clear hb8 hb9 hb89 hoh hOh hTb HC7 HG7 HK7
    go_wp2_with fail
    clear c90 c91
    generalize w8.alloc (.cells #[.int .i64 q, .slice ah os.length ch] 29) = W9 at HC9 HG9 HK9 HOH9 ⊢
    refine (laws_eqBatch q ah aw os.length ch cw (opsOf os) W9 (by omega) HOH9.out ((HO2.out.below HC9.out).mono HC9.out.size)).mono ?_
    rintro e w10 ⟨rfl, hb10⟩
    have HC10 := hide (HC9.out.trans (hb10.mono HC9.out.size))
    have HG10 := hide (HG9.out.next hb10)
    have HK10 : Hid (∀ j, j < os.length * 3 → w10.cell? ⟨g, j, none⟩ = some (mkCell kdOpS 1 j)) := fun j hj => keepc hb10 (HK9.out j hj)
    have c100 : w10.cell? ⟨F2, 0, none⟩ = some (.int .i64 q) := HG10.out.cell 0
    have c101 : w10.cell? ⟨F2, 1, none⟩ = some (.slice ag os.length cg) := HG10.out.cell 1
    clear hb10 HC9 HG9 HK9 HOH9
    go_wp2_with fail
    clear c100 c101
    refine (laws_heldBatch q ag os.length cg g w10 (by omega) hgz HK10.out).mono ?_
    rintro e w11 ⟨rfl, hb11⟩
    have HC11 := hide (HC10.out.trans (hb11.mono HC10.out.size))
    clear hb11 HC10 HG10 HK10
    go_wp2
    go_ret
    exact ⟨rfl, HB2.out.trans (HC11.out.mono HB2.out.size)⟩

end Go.Proofs.Ytonkjdjancnajaa
