/- BatchEntries of the model: the entries of the ops, put in one by one. -/
import Derived.Test.YtonkjdjancnajadL8Put
import Derived.Test.YtonkjdjancnajadBatchS
namespace Go.Proofs.Ytonkjdjancnajad
set_option maxRecDepth 100000
open Go.RowKit Go.Deep Go.Sort

theorem batchOk_key {q : Int} {len : Nat} {O : Ops} (h : batchOkB q len O = true) (i : Nat) (hi : i < len) : keyOkB (O.U i) (q + (i : Int)) (O.K i) = true := by
  have h' : entryOkB (O.U i) (q + (i : Int)) (O.K i) (O.X i) = true := (batchOk_out h).2 i hi
  unfold entryOkB at h'
  rw [Bool.and_eq_true, Bool.and_eq_true] at h'
  exact h'.1.1

set_option maxHeartbeats 2000000 in
theorem spec_BatchEntries (q : Int) (a : Option Addr) (len cap : Nat) (O : Ops) (w : World) (hl : len ≤ 1048576) (hS : OpAt w w.heap.size a len O) (hok : batchOkB q len O = true) :
    Calls Try.prog 6 #[.agg #[.int .i64 q, .slice a len cap]] w fun e w' => (∃ g cap', e = .returned (.slice (some ⟨g, 0, none⟩) len cap') ∧ OwnE w' w.heap.size g cap' ((putAll O q len).map (opEn O q))) ∧ Below w.heap.size w w' := by
  obtain ⟨⟨r1, r2, r3, r4⟩, _⟩ := batchOk_out hok
  have hkey := batchOk_key hok
  have HS : Hid (OpAt w w.heap.size a len O) := hS
  have cb := fun wx h => hok ▸ spec_BatchOk q a len cap O wx hl h
  have hbb := ((Below.refl w.heap.size w).alloc (Nat.le_refl _) (.cells #[.int .i64 q, .slice a len cap] 30)).alloc (by simp) (.cells #[] 52)
  have HX0 := hide ((BoxIs.new w #[.int .i64 q, .slice a len cap] 30 rfl).next (below_one _ (.cells #[] 52)))
  have HS0 := hide ((hS.below hbb).mono hbb.size)
  have HL0 := hide hbb
  have hz0 : (w.alloc (.cells #[.int .i64 q, .slice a len cap] 30)).heap.size = w.heap.size + 1 := by simp
  have HO0 := hide (hz0 ▸ OwnE.lit (w.alloc (.cells #[.int .i64 q, .slice a len cap] 30)) (w.heap.size + 1) (by simp) : OwnE ((w.alloc (.cells #[.int .i64 q, .slice a len cap] 30)).alloc (.cells #[] 52)) (w.heap.size + 1) (w.heap.size + 1) 0 ((putAll O q 0).map (opEn O q)))
  clear hS hok hbb hz0
  go_enter Try.func6, Try.ntmps6
  go_wp2_with fail
  refine (cb _ HS0.out).mono ?_
  rintro e w1 ⟨rfl, hb1⟩
  have HX1 := hide (HX0.out.next hb1)
  have HO1 := hide (HO0.out.below hb1 HO0.out.lt.2)
  have HL1 := hide (HL0.out.trans (hb1.mono HL0.out.size))
  have hz1 : w.heap.size + 1 ≤ w1.heap.size := Nat.lt_of_lt_of_le HX1.out.lt (Nat.le_refl _)
  clear hb1 cb HX0 HS0 HL0 HO0
  go_wp2
  go_loopw [3, 4] (fun v i wr => ∃ (k gx cx : Nat), i = .int .i64 k ∧ v = .slice (some ⟨gx, 0, none⟩) k cx ∧ k ≤ len ∧ Hid (OwnE wr (w.heap.size + 1) gx cx ((putAll O q k).map (opEn O q))) ∧ Hid (BoxIs wr w.heap.size #[.int .i64 q, .slice a len cap] 30) ∧ Hid (Below w.heap.size w wr ∧ w.heap.size + 1 ≤ wr.heap.size)) (fun _ i _ => len - (intOf i).toNat)
  case atStart => exact ⟨0, _, _, rfl, rfl, by omega, HO1, HX1, ⟨HL1.out, hz1⟩⟩
  case round =>
    obtain ⟨k, gx, cx, rfl, rfl, hk, HO, HX, HW⟩ := hrel
    clear HX1 HL1 hz1 HO1
    obtain ⟨x0, x1⟩ : wr.cell? ⟨w.heap.size, 0, none⟩ = some (.int .i64 q) ∧ wr.cell? ⟨w.heap.size, 1, none⟩ = some (.slice a len cap) := ⟨HX.out.cell 0, HX.out.cell 1⟩
    by_cases hlt : k < len
    · have hzr := HW.out.2
      have hki := hkey k hlt
      have hm : ∀ x ∈ putAll O q k, keyOkB (O.U x) (q + (x : Int)) (O.K x) = true ∧ x ≠ k := fun x hx => by
        have := List.mem_range.1 ((putAll_perm O q k).mem_iff.1 hx)
        exact ⟨hkey x (by omega), by omega⟩
      go_wp2_with fail
      refine (spec_l7Entry q a len cap O k _ hlt hl ⟨by omega, by omega⟩ ((HS.out.below HW.out.1).mono HW.out.1.size)).mono ?_
      rintro e w2 ⟨rfl, hb2⟩
      have HO2 := hide (HO.out.below hb2 HO.out.lt.2)
      have HX2 := hide (HX.out.next hb2)
      have HW2 := hide (HW.out.1.trans (hb2.mono HW.out.1.size))
      have hz2 : w.heap.size + 1 ≤ w2.heap.size := Nat.le_trans hzr hb2.size
      clear hb2 x0 x1 HO HX HW
      unfold entOut
      go_wp2_with fail
      refine (spec_l8Put O q (putAll O q k) k k gx cx (w.heap.size + 1) _ (putAll_len O q k) (by omega) hm hki HO2.out).mono ?_
      rintro e w3 ⟨⟨g3, c3, rfl, hO3⟩, hb3⟩
      rw [← putAll_succ] at hO3
      have HO3 := hide (hO3.mono hz2)
      have HX3 := hide (HX2.out.next hb3)
      have HW3 : Hid (Below w.heap.size w w3 ∧ w.heap.size + 1 ≤ w3.heap.size) := ⟨HW2.out.trans (hb3.mono HW2.out.size), Nat.le_trans hz2 hb3.size⟩
      clear hO3 hb3 HO2 HX2 HW2 hz2 hm hki
      go_wp2
      exact ⟨⟨k + 1, g3, c3, by go_num, rfl, by omega, HO3, HX3, HW3⟩, by simp [intOf]; omega⟩
    · obtain rfl : k = len := by omega
      go_wp2
      go_ret
      exact ⟨⟨gx, cx, rfl, HO.out.mono (Nat.le_succ _)⟩, HW.out.1⟩

end Go.Proofs.Ytonkjdjancnajad
