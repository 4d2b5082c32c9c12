/- Drawn registers. -/
import Derived.Test.YtkopoonkedcpmaaDoorDrawU
import Derived.Test.YtkopoonkedcpmaaDoorHllOf
namespace Go.Proofs.YtkopoonkedcpmaaDoor
open Go.RowKit Go.Deep

theorem FRow.mv {w w' : World} {g g2 : Nat} {l : List Int} (h : FRow w g2 l) (hm : Mv g w w') (hlt : g2 < w.heap.size) (hne : g2 ≠ g) : FRow w' g2 l := fun i x hx =>
  ⟨(hm.cell (p := ⟨g2, i, none⟩) hlt hne).trans (h i x hx).1, (hm.frozen (p := ⟨g2, i, none⟩) hlt hne).trans (h i x hx).2⟩

theorem hllOf_size (S : Nat → ByteArray) (len : Nat) : (hllOf S len).size ≤ 64 := by
  unfold hllOf
  split
  · rw [strOfNums_size, (regsTo_is S len).1]; omega
  · decide

set_option maxHeartbeats 1000000 in
set_option maxRecDepth 100000 in
theorem rd_hll (W w : World) (g : Nat) (a : Option Addr) (len cap : Nat) (hc : IsCode W a len) (hl : len ≤ 1048576) (h : Rd W w g a len cap) :
    Calls Tryd.prog 28 #[.pointer (some ⟨g, 0, none⟩)] w fun e w' => ∃ s : ByteArray, e = .returned (.string s) ∧ s.size ≤ 65 ∧ Rd W w' g a len cap ∧ Mv g w w' := by
  have hg := h.lt
  go_enter Tryd.func28, Tryd.ntmps28
  go_wp2_with fail
  refine (rd_users W _ g a len cap 14 (by omega) (by omega) hc hl h).mono ?_
  rintro e w1 ⟨v, xs, rfl, hxs, hxx, hown, hr1, hm1⟩
  obtain ⟨va, vc, rfl, hS⟩ := hown.strs
  have HR1 := hide hr1
  have HM1 := hide hm1
  clear h hr1 hm1 hown
  go_wp2_with fail
  refine (spec_HllOf va xs.length vc (fun i => xs.getD i ⟨#[]⟩) _ (by omega) hS).mono ?_
  rintro e w2 ⟨rfl, hb2⟩
  have hs64 := hllOf_size (fun i => xs.getD i ⟨#[]⟩) xs.length
  obtain ⟨s, hse⟩ : ∃ s, hllOf (fun i => xs.getD i ⟨#[]⟩) xs.length = s := ⟨_, rfl⟩
  rw [hse] at hs64 ⊢
  have HR2 := hide (HR1.out.keep hb2 HR1.out.lt)
  have HM2 := hide (HM1.out.trans (Mv.of_below (g := g) hb2))
  clear HR1 HM1 hS hse hb2 hxx
  go_wp2_with fail
  refine (rd_once W _ g a len cap 6 (by omega) (by omega) hc hl HR2.out).mono ?_
  rintro e w3 ⟨b, rfl, hr3, hm3⟩
  have HR3 := hide hr3
  have HM3 := hide (HM2.out.trans hm3)
  clear hr3 hm3 HR2 HM2
  cases b with
  | false =>
    go_wp2_with fail
    refine (rd_once W _ g a len cap 20 (by omega) (by omega) hc hl HR3.out).mono ?_
    rintro e w4 ⟨b, rfl, hr4, hm4⟩
    have HR4 := hide hr4
    have HM4 := hide (HM3.out.trans hm4)
    clear hr4 hm4 HR3 HM3
    cases b with
    | false =>
      go_wp2
      go_ret
      exact ⟨s, rfl, by omega, HR4.out, HM4.out⟩
    | true =>
      go_wp2
      go_ret
      exact ⟨_, rfl, by rw [ByteArray.size_append]; show s.size + 1 ≤ 65; omega, HR4.out, HM4.out⟩
  | true =>
    obtain ⟨C, w4, hcv, hrow, hbel⟩ := fresh_row w3 s
    have HR4 := hide (HR3.out.keep hbel HR3.out.lt)
    have HM4 := hide (HM3.out.trans (Mv.of_below (g := g) hbel))
    have HB4 := hide hrow
    have hg3 : g < w3.heap.size := HR3.out.lt
    have HW3 : w.heap.size ≤ w3.heap.size := HM3.out.size
    clear hrow hbel HR3 HM3
    go_wp2
    go_loopw [5] (fun i wr => ∃ (k : Nat) (l : List Int), i = .int .i64 k ∧ k ≤ s.size ∧ l.length = s.size ∧ Hid (FRow wr w3.heap.size l) ∧ Hid (Rd W wr g a len cap) ∧ Hid (Mv g w wr))
      (fun i _ => s.size - (intOf i).toNat)
    case atStart => exact ⟨0, numsOf s, rfl, by omega, numsOf_len s, HB4, HR4, HM4⟩
    case round =>
      obtain ⟨k, l, rfl, hk, hll, HF, HR, HM⟩ := hrel
      clear HR4 HM4 HB4
      by_cases hlt : k < s.size
      · go_wp2_with fail
        refine (rd_below W _ g a len cap 60 (by omega) (by omega) hc hl HR.out).mono ?_
        rintro e w5 ⟨y, rfl, hy0, hy1, hr5, hm5⟩
        obtain ⟨z, hz⟩ : ∃ z, l[k]? = some z := ⟨_, List.getElem?_eq_getElem (by omega)⟩
        have hw3 : w3.heap.size < wr.heap.size := block_lt_of_cell (HF.out k z hz).1
        have hf5 := HF.out.mv hm5 hw3 (by omega)
        obtain ⟨hcell, hfree⟩ := hf5 k z hz
        have HF5 := hide (hf5.set k y (by omega))
        have hbel5 : Below w3.heap.size w5 (w5.setCell ⟨w3.heap.size, k, none⟩ (.int .u8 y)) := (Below.refl w3.heap.size w5).setCell (by simp) _
        have HR5 := hide (hr5.keep hbel5 hg3)
        have HM5 : Hid (Mv g w (w5.setCell ⟨w3.heap.size, k, none⟩ (.int .u8 y))) := by
          have := HM.out.trans hm5
          exact mv_below this (Below.setCell (Below.refl _ _) HW3 _)
        clear hr5 hm5 hf5 hbel5 HR HM HF hz hw3
        go_wp2
        exact ⟨⟨k + 1, _, by go_num, by omega, by simpa using hll, HF5, HR5, HM5⟩, by simp [intOf]; omega⟩
      · obtain rfl : k = s.size := by omega
        have hct := HF.out.text C
        rw [hll] at hct
        have hq : (strOfNums l).size ≤ 64 := by rw [strOfNums_size]; omega
        obtain ⟨t, ht⟩ : ∃ t, strOfNums l = t := ⟨_, rfl⟩
        rw [ht] at hct hq
        clear ht
        go_wp2_with fail
        refine (rd_once W _ g a len cap 20 (by omega) (by omega) hc hl HR.out).mono ?_
        rintro e w5 ⟨b, rfl, hr5, hm5⟩
        have HR5 := hide hr5
        have HM5 := hide (HM.out.trans hm5)
        clear hr5 hm5 HR HM hct
        cases b with
        | false =>
          go_wp2
          go_ret
          exact ⟨t, rfl, by omega, HR5.out, HM5.out⟩
        | true =>
          go_wp2
          go_ret
          exact ⟨_, rfl, by rw [ByteArray.size_append]; show t.size + 1 ≤ 65; omega, HR5.out, HM5.out⟩

end Go.Proofs.YtkopoonkedcpmaaDoor
