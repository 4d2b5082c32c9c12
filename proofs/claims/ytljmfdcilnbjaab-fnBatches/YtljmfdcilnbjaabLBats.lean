/- The law FnBatches, walked: a batch comes back from its bytes. -/
import Derived.Test.YtljmfdcilnbjaabDrawBat2
import Derived.Test.YtljmfdcilnbjaabLReadB
namespace Go.Proofs.Ytljmfdcilnbjaab
set_option maxRecDepth 100000
open Go.RowKit Go.Deep

theorem laws_sameOps (a b : Option Addr) (len ca cb : Nat) (O : Ops) (w : World) (hl : len ≤ 1048576) (ha : OpAt w w.heap.size a len O) (hb : OpAt w w.heap.size b len O) :
    Calls Try.prog 10 #[.slice a len ca, .slice b len cb] w fun e w' => e = .returned (.bool true) ∧ Below w.heap.size w w' := by
  have HA := hide ha
  have HB := hide hb
  have HW0 := hide (Below.refl w.heap.size w)
  clear ha hb
  go_enter Try.func10, Try.ntmps10
  go_wp2
  go_loopw [5] (fun i wr => ∃ k : Nat, i = .int .i64 k ∧ k ≤ len ∧ Hid (Below w.heap.size w wr)) (fun i _ => len - (intOf i).toNat)
  case atStart => exact ⟨0, rfl, by omega, HW0⟩
  case round =>
    obtain ⟨k, rfl, hk, HW⟩ := hrel
    by_cases hlt : k < len
    · obtain ⟨g1, o1, rfl, _, c0, c1, c2⟩ := (HA.out.below HW.out).at hlt
      obtain ⟨g2, o2, rfl, _, d0, d1, d2⟩ := (HB.out.below HW.out).at hlt
      have hki : (k : Int) < (len : Int) := by omega
      go_wp2
      go_quiet (fail)
      go_wp2
      exact ⟨⟨k + 1, by go_num, by omega, below_drewN HW.out _⟩, by simp [intOf]; omega⟩
    · obtain rfl : k = len := by omega
      go_wp2
      go_ret
      exact ⟨rfl, HW.out⟩

set_option maxHeartbeats 4000000 in
theorem walk_FnBatches (v : Value) {w : World} (hv : IsBytes w v) (_w : World) :
    Calls Try.prog 3 #[v] w fun e w' => e = .returned (.bool true) ∧ Below w.heap.size w w' := by
  obtain ⟨a, len, cap, rfl, hc, hm⟩ := hv
  by_cases hbig : 1048576 < len
  · have hd : decide (1048576 < len) = true := by simp [hbig]
    go_enter Try.func3, Try.ntmps3
    go_wp2_with fail
    refine (laws_big a len cap hm _).mono ?_
    rintro e w1 ⟨rfl, rfl⟩
    go_wp2
    go_ret
    exact ⟨rfl, Below.refl _ _⟩
  · have hd : decide (1048576 < len) = false := by simp [hbig]
    have hl : len ≤ 1048576 := by omega
    go_enter Try.func3, Try.ntmps3
    go_wp2_with fail
    refine (laws_big a len cap hm _).mono ?_
    rintro e w1 ⟨rfl, rfl⟩
    go_wp2_with fail
    refine (draw_BatchText w _ a len cap hc hl (Below.refl _ _)).mono ?_
    rintro e w1 ⟨q, ar, cp, os, rfl, hn, ho, hb1⟩
    obtain ⟨ar', cp', hv, hOp⟩ := ho.ops
    simp only [Value.slice.injEq] at hv
    obtain ⟨rfl, _, rfl⟩ := hv
    have hb2 := below_one w1 (.cells #[.int .i64 q, .slice ar os.length cp] 26)
    have HX2 := hide (BoxIs.new w1 #[.int .i64 q, .slice ar os.length cp] 26 rfl)
    have HO2 := hide (hOp.on hb2 (Nat.le_refl _))
    have HB2 := hide (hb1.trans (hb2.mono hb1.size))
    have hz2 := hb2.size
    have ct := fun wx h => impl_BatchText q ar os.length cp (opsOf os) wx (by omega) h
    have cu := fun wx h => spec_BatchText q ar os.length cp (opsOf os) wx (by omega) h
    have ck := fun wx h => impl_BatchOk q ar os.length cp (opsOf os) wx (by omega) h
    have ce := fun wx h => impl_BE q ar os.length cp (opsOf os) wx (by omega) h
    have hTz := batT_size q os.length (opsOf os)
    have cr := fun wx => impl_ReadBatchR (batchText q os.length (opsOf os)) (by omega) wx
    have HY : Hid (batchOkB q os.length (opsOf os) = true → readB (batchText q os.length (opsOf os)) = (true, q, os)) := fun h => by have := readB_put h; rwa [ops_self] at this
    have HN : Hid (batchOkB q os.length (opsOf os) = false → readB (batchText q os.length (opsOf os)) = (false, 0, [])) := fun h => by rw [batchText_no h]; exact readB_nil
    have HEY := hide (fun h => esB_row (q := q) (len := os.length) (O := opsOf os) h)
    have HEN : Hid (batchOkB q os.length (opsOf os) = false → esB q os.length (opsOf os) = []) := fun h => by rw [esB, if_neg (by rw [h]; decide)]
    have hez := esB_len q os.length (opsOf os)
    obtain ⟨n, hn2⟩ : ∃ n, os.length = n := ⟨_, rfl⟩
    obtain ⟨O, hO⟩ : ∃ O, opsOf os = O := ⟨_, rfl⟩
    clear hbig hm hd hb1 hb2 ho hOp
    generalize batchText q os.length (opsOf os) = T at *
    generalize esB q os.length (opsOf os) = es at *
    generalize batchOkB q os.length (opsOf os) = ok at *
    have hlt2 : w1.heap.size < (w1.alloc (.cells #[.int .i64 q, .slice ar os.length cp] 26)).heap.size := by simp
    clear hn2 hO
    obtain ⟨b0, b1⟩ : (w1.alloc (.cells #[.int .i64 q, .slice ar os.length cp] 26)).cell? ⟨w1.heap.size, 0, none⟩ = some (.int .i64 q) ∧ (w1.alloc (.cells #[.int .i64 q, .slice ar os.length cp] 26)).cell? ⟨w1.heap.size, 1, none⟩ = some (.slice ar os.length cp) := ⟨HX2.out.cell 0, HX2.out.cell 1⟩
    go_wp2_with fail
    generalize w1.alloc (.cells #[.int .i64 q, .slice ar os.length cp] 26) = W2 at HX2 HO2 HB2 hz2 hlt2 b0 b1 ⊢
    refine (ct _ (HO2.out.mono hz2)).mono ?_
    rintro e w3 ⟨rfl, hb3⟩
    have HX3 := hide (HX2.out.next hb3)
    have HO3 := hide ((HO2.out.mono hz2).on hb3 (Nat.le_refl _))
    have HB3 := hide (HB2.out.trans (hb3.mono HB2.out.size))
    have hz3 : W2.heap.size ≤ w3.heap.size := hb3.size
    clear hb3 ct HX2 HO2 HB2 b0 b1
    cases ok with
    | false =>
      have hR := HN.out rfl
      obtain rfl := HEN.out rfl
      rw [hR] at cr
      clear HN HY HEY HEN hR
      go_wp2_with fail
      refine (cr _).mono ?_
      rintro e w4 ⟨⟨vc, rfl, hoc⟩, hb4⟩
      obtain ⟨ac, cc, rfl, _⟩ := hoc.ops
      have hb5 := hb4.trans ((below_one w4 (.cells #[.int .i64 0, .slice ac 0 cc] 26)).mono hb4.size)
      have HX5 := hide (HX3.out.next hb5)
      have HO5 := hide ((HO3.out.mono hz3).on hb5 (Nat.le_refl _))
      have HB5 := hide (HB3.out.trans (hb5.mono HB3.out.size))
      have hz5 := hb5.size
      clear hb4 hb5 cr hoc HX3 HO3 HB3
      obtain ⟨b0, b1⟩ : (w4.alloc (.cells #[.int .i64 0, .slice ac 0 cc] 26)).cell? ⟨w1.heap.size, 0, none⟩ = some (.int .i64 q) ∧ (w4.alloc (.cells #[.int .i64 0, .slice ac 0 cc] 26)).cell? ⟨w1.heap.size, 1, none⟩ = some (.slice ar os.length cp) := ⟨HX5.out.cell 0, HX5.out.cell 1⟩
      go_wp2_with fail
      generalize w4.alloc (.cells #[.int .i64 0, .slice ac 0 cc] 26) = W5 at HX5 HO5 HB5 hz5 b0 b1 ⊢
      refine (cu _ (HO5.out.mono hz5)).mono ?_
      rintro e w6 ⟨rfl, hb6⟩
      have HX6 := hide (HX5.out.next hb6)
      have HO6 := hide ((HO5.out.mono hz5).on hb6 (Nat.le_refl _))
      have HB6 := hide (HB5.out.trans (hb6.mono HB5.out.size))
      have hz6 := hb6.size
      clear hb6 cu HX5 HO5 HB5 b0 b1
      obtain ⟨b0, b1⟩ : w6.cell? ⟨w1.heap.size, 0, none⟩ = some (.int .i64 q) ∧ w6.cell? ⟨w1.heap.size, 1, none⟩ = some (.slice ar os.length cp) := ⟨HX6.out.cell 0, HX6.out.cell 1⟩
      go_wp2_with fail
      refine (ck _ (HO6.out.mono hz6)).mono ?_
      rintro e w7 ⟨rfl, hb7⟩
      have HX7 := hide (HX6.out.next hb7)
      have HO7 := hide ((HO6.out.mono hz6).on hb7 (Nat.le_refl _))
      have HB7 := hide (HB6.out.trans (hb7.mono HB6.out.size))
      have hz7 := hb7.size
      clear hb7 ck HX6 HO6 HB6 b0 b1
      obtain ⟨b0, b1⟩ : w7.cell? ⟨w1.heap.size, 0, none⟩ = some (.int .i64 q) ∧ w7.cell? ⟨w1.heap.size, 1, none⟩ = some (.slice ar os.length cp) := ⟨HX7.out.cell 0, HX7.out.cell 1⟩
      go_wp2_with fail
      refine (ce _ (HO7.out.mono hz7)).mono ?_
      rintro e w8 ⟨⟨vl, rfl, hol⟩, hb8⟩
      obtain ⟨al, cl, _, rfl, _⟩ := hol.mark 0
      have HB8 := hide (HB7.out.trans (hb8.mono HB7.out.size))
      clear hb8 ce hol HX7 HO7 HB7 b0 b1
      go_wp2_with fail
      refine (draw_ReadBatch w _ a len cap hc hl HB8.out).mono ?_
      rintro e w11 ⟨t, rfl, ht, hb11⟩
      have HB11 := hide (HB8.out.trans (hb11.mono HB8.out.size))
      clear hb11 HB8
      have ci := fun wx => impl_ReadBatchR t (by omega) wx
      have cs := fun wx => spec_ReadBatch t (by omega) wx
      have HBK := hide (fun q' os' (h : readB t = (true, q', os')) => readB_back h)
      have hl21 := readB_len t
      generalize readB t = R at *
      obtain ⟨fine, q2, os2⟩ := R
      simp only at *
      go_wp2_with fail
      refine (ci _).mono ?_
      rintro e w12 ⟨⟨vx, rfl, hox⟩, hb12⟩
      obtain ⟨ax, cx, rfl, hOx⟩ := hox.ops
      have hb13 := below_one w12 (.cells #[.int .i64 q2, .slice ax os2.length cx] 26)
      have HX13 := hide (BoxIs.new w12 #[.int .i64 q2, .slice ax os2.length cx] 26 rfl)
      have HO13 := hide (hOx.on hb13 (Nat.le_refl _))
      have HB13 := hide ((HB11.out.trans (hb12.mono HB11.out.size)).trans (hb13.mono (HB11.out.trans (hb12.mono HB11.out.size)).size))
      have hz13 := hb13.size
      clear hb12 hb13 ci hox hOx HB11
      go_wp2_with fail
      generalize w12.alloc (.cells #[.int .i64 q2, .slice ax os2.length cx] 26) = W13 at HX13 HO13 HB13 hz13 ⊢
      refine (cs _).mono ?_
      rintro e w14 ⟨⟨vy, rfl, hoy⟩, hb14⟩
      obtain ⟨ay, cy, rfl, _⟩ := hoy.ops
      have hb15 := hb14.trans ((below_one w14 (.cells #[.int .i64 q2, .slice ay os2.length cy] 26)).mono hb14.size)
      have HX15 := hide (HX13.out.next hb15)
      have HO15 := hide ((HO13.out.mono hz13).on hb15 (Nat.le_refl _))
      have HB15 := hide (HB13.out.trans (hb15.mono HB13.out.size))
      have hz15 := hb15.size
      clear hb14 hb15 cs hoy HX13 HO13 HB13
      cases fine with
      | false =>
        clear HBK
        go_wp2
        go_ret
        exact ⟨rfl, HB15.out⟩
      | true =>
        obtain ⟨hbt, _⟩ := HBK.out q2 os2 rfl
        have cb := fun wx h => impl_BatchText q2 ax os2.length cx (opsOf os2) wx (by omega) h
        rw [hbt] at cb
        have hO := HO15.out.mono hz15
        have HOF := hide hO
        obtain ⟨x0, x1⟩ : (w14.alloc (.cells #[.int .i64 q2, .slice ay os2.length cy] 26)).cell? ⟨w12.heap.size, 0, none⟩ = some (.int .i64 q2) ∧ (w14.alloc (.cells #[.int .i64 q2, .slice ay os2.length cy] 26)).cell? ⟨w12.heap.size, 1, none⟩ = some (.slice ax os2.length cx) := ⟨HX15.out.cell 0, HX15.out.cell 1⟩
        clear HBK hbt hO HX15 HO15
        go_wp2_with fail
        generalize w14.alloc (.cells #[.int .i64 q2, .slice ay os2.length cy] 26) = W15 at HB15 HOF x0 x1 hz15 ⊢
        refine (cb _ HOF.out).mono ?_
        rintro e w16 ⟨rfl, hb16⟩
        have HB16 := hide (HB15.out.trans (hb16.mono HB15.out.size))
        clear hb16 cb HOF HB15 x0 x1
        go_wp2
        go_ret
        exact ⟨rfl, HB16.out⟩
    | true =>
      have hR := HY.out rfl
      obtain ⟨hrow, hel⟩ := HEY.out rfl
      rw [hR] at cr
      clear HN HY HEY HEN hR
      go_wp2_with fail
      refine (cr _).mono ?_
      rintro e w4 ⟨⟨vc, rfl, hoc⟩, hb4⟩
      obtain ⟨ac, cc, rfl, hOc⟩ := hoc.ops
      have hb45 := below_one w4 (.cells #[.int .i64 q, .slice ac os.length cc] 26)
      have HC5 := hide (BoxIs.new w4 #[.int .i64 q, .slice ac os.length cc] 26 rfl)
      have HOC5 := hide (hOc.on hb45 (Nat.le_refl _))
      have hz45 := hb45.size
      have hb5 := hb4.trans (hb45.mono hb4.size)
      have HX5 := hide (HX3.out.next hb5)
      have HO5 := hide ((HO3.out.mono hz3).on hb5 (Nat.le_refl _))
      have HB5 := hide (HB3.out.trans (hb5.mono HB3.out.size))
      have hz5 := hb5.size
      clear hb4 hb5 hb45 cr hoc hOc HX3 HO3 HB3
      obtain ⟨b0, b1⟩ : (w4.alloc (.cells #[.int .i64 q, .slice ac os.length cc] 26)).cell? ⟨w1.heap.size, 0, none⟩ = some (.int .i64 q) ∧ (w4.alloc (.cells #[.int .i64 q, .slice ac os.length cc] 26)).cell? ⟨w1.heap.size, 1, none⟩ = some (.slice ar os.length cp) := ⟨HX5.out.cell 0, HX5.out.cell 1⟩
      go_wp2_with fail
      generalize w4.alloc (.cells #[.int .i64 q, .slice ac os.length cc] 26) = W5 at HX5 HO5 HB5 HC5 HOC5 hz5 hz45 b0 b1 ⊢
      refine (cu _ (HO5.out.mono hz5)).mono ?_
      rintro e w6 ⟨rfl, hb6⟩
      have HX6 := hide (HX5.out.next hb6)
      have HC6 := hide (HC5.out.next hb6)
      have HOC6 := hide ((HOC5.out.mono hz45).on hb6 (Nat.le_refl _))
      have HO6 := hide ((HO5.out.mono hz5).on hb6 (Nat.le_refl _))
      have HB6 := hide (HB5.out.trans (hb6.mono HB5.out.size))
      have hz6 := hb6.size
      clear hb6 cu HX5 HO5 HB5 HC5 HOC5 b0 b1
      obtain ⟨b0, b1⟩ : w6.cell? ⟨w1.heap.size, 0, none⟩ = some (.int .i64 q) ∧ w6.cell? ⟨w1.heap.size, 1, none⟩ = some (.slice ar os.length cp) := ⟨HX6.out.cell 0, HX6.out.cell 1⟩
      go_wp2_with fail
      refine (ck _ (HO6.out.mono hz6)).mono ?_
      rintro e w7 ⟨rfl, hb7⟩
      have HX7 := hide (HX6.out.next hb7)
      have HC7 := hide (HC6.out.next hb7)
      have HOC7 := hide ((HOC6.out.mono hz6).on hb7 (Nat.le_refl _))
      have HO7 := hide ((HO6.out.mono hz6).on hb7 (Nat.le_refl _))
      have HB7 := hide (HB6.out.trans (hb7.mono HB6.out.size))
      have hz7 := hb7.size
      clear hb7 ck HX6 HO6 HB6 HC6 HOC6 b0 b1
      obtain ⟨b0, b1⟩ : w7.cell? ⟨w1.heap.size, 0, none⟩ = some (.int .i64 q) ∧ w7.cell? ⟨w1.heap.size, 1, none⟩ = some (.slice ar os.length cp) := ⟨HX7.out.cell 0, HX7.out.cell 1⟩
      obtain ⟨c0, c1⟩ : w7.cell? ⟨w4.heap.size, 0, none⟩ = some (.int .i64 q) ∧ w7.cell? ⟨w4.heap.size, 1, none⟩ = some (.slice ac os.length cc) := ⟨HC7.out.cell 0, HC7.out.cell 1⟩
      go_wp2_with fail
      refine (laws_sameOps ac ar os.length cc cp (opsOf os) w7 (by omega) (HOC7.out.mono hz7) (HO7.out.mono hz7)).mono ?_
      rintro e w75 ⟨rfl, hb75⟩
      have HX75 := hide (HX7.out.next hb75)
      have HO75 := hide ((HO7.out.mono hz7).on hb75 (Nat.le_refl _))
      have HB75 := hide (HB7.out.trans (hb75.mono HB7.out.size))
      have hz75 := hb75.size
      clear hb75 HX7 HO7 HB7 HC7 HOC7 b0 b1 c0 c1
      obtain ⟨b0, b1⟩ : w75.cell? ⟨w1.heap.size, 0, none⟩ = some (.int .i64 q) ∧ w75.cell? ⟨w1.heap.size, 1, none⟩ = some (.slice ar os.length cp) := ⟨HX75.out.cell 0, HX75.out.cell 1⟩
      go_wp2_with fail
      refine (ce _ (HO75.out.mono hz75)).mono ?_
      rintro e w8 ⟨⟨vl, rfl, hol⟩, hb8⟩
      obtain ⟨al, cl, _, rfl, hEl, _⟩ := hol.mark 0
      have HE8 := hide hEl
      have HX8 := hide (HX75.out.next hb8)
      have HB8' := hide (HB75.out.trans (hb8.mono HB75.out.size))
      have cw := fun wx h => impl_EntriesOk al es.length cl (entsL es) wx (by omega) h
      rw [hrow] at cw
      rw [hel] at HE8 cw ⊢
      clear hb8 ce hol hEl hrow hel HX75 HO75 HB75 b0 b1 hez
      obtain ⟨b0, b1⟩ : w8.cell? ⟨w1.heap.size, 0, none⟩ = some (.int .i64 q) ∧ w8.cell? ⟨w1.heap.size, 1, none⟩ = some (.slice ar os.length cp) := ⟨HX8.out.cell 0, HX8.out.cell 1⟩
      have hTi : ¬ (8000 : Int) < (T.size : Int) := by omega
      go_wp2_with fail
      refine (cw _ HE8.out).mono ?_
      rintro e w9 ⟨rfl, hb9⟩
      have HB8 := hide (HB8'.out.trans (hb9.mono HB8'.out.size))
      clear hb9 cw HE8 HX8 HB8' b0 b1
      go_wp2_with fail
      refine (draw_ReadBatch w _ a len cap hc hl HB8.out).mono ?_
      rintro e w11 ⟨t, rfl, ht, hb11⟩
      have HB11 := hide (HB8.out.trans (hb11.mono HB8.out.size))
      clear hb11 HB8
      have ci := fun wx => impl_ReadBatchR t (by omega) wx
      have cs := fun wx => spec_ReadBatch t (by omega) wx
      have HBK := hide (fun q' os' (h : readB t = (true, q', os')) => readB_back h)
      have hl21 := readB_len t
      generalize readB t = R at *
      obtain ⟨fine, q2, os2⟩ := R
      simp only at *
      go_wp2_with fail
      refine (ci _).mono ?_
      rintro e w12 ⟨⟨vx, rfl, hox⟩, hb12⟩
      obtain ⟨ax, cx, rfl, hOx⟩ := hox.ops
      have hb13 := below_one w12 (.cells #[.int .i64 q2, .slice ax os2.length cx] 26)
      have HX13 := hide (BoxIs.new w12 #[.int .i64 q2, .slice ax os2.length cx] 26 rfl)
      have HO13 := hide (hOx.on hb13 (Nat.le_refl _))
      have HB13 := hide ((HB11.out.trans (hb12.mono HB11.out.size)).trans (hb13.mono (HB11.out.trans (hb12.mono HB11.out.size)).size))
      have hz13 := hb13.size
      clear hb12 hb13 ci hox hOx HB11
      go_wp2_with fail
      generalize w12.alloc (.cells #[.int .i64 q2, .slice ax os2.length cx] 26) = W13 at HX13 HO13 HB13 hz13 ⊢
      refine (cs _).mono ?_
      rintro e w14 ⟨⟨vy, rfl, hoy⟩, hb14⟩
      obtain ⟨ay, cy, rfl, _⟩ := hoy.ops
      have hb15 := hb14.trans ((below_one w14 (.cells #[.int .i64 q2, .slice ay os2.length cy] 26)).mono hb14.size)
      have HX15 := hide (HX13.out.next hb15)
      have HO15 := hide ((HO13.out.mono hz13).on hb15 (Nat.le_refl _))
      have HB15 := hide (HB13.out.trans (hb15.mono HB13.out.size))
      have hz15 := hb15.size
      clear hb14 hb15 cs hoy HX13 HO13 HB13
      cases fine with
      | false =>
        clear HBK
        go_wp2
        go_ret
        exact ⟨rfl, HB15.out⟩
      | true =>
        obtain ⟨hbt, _⟩ := HBK.out q2 os2 rfl
        have cb := fun wx h => impl_BatchText q2 ax os2.length cx (opsOf os2) wx (by omega) h
        rw [hbt] at cb
        have hO := HO15.out.mono hz15
        have HOF := hide hO
        obtain ⟨x0, x1⟩ : (w14.alloc (.cells #[.int .i64 q2, .slice ay os2.length cy] 26)).cell? ⟨w12.heap.size, 0, none⟩ = some (.int .i64 q2) ∧ (w14.alloc (.cells #[.int .i64 q2, .slice ay os2.length cy] 26)).cell? ⟨w12.heap.size, 1, none⟩ = some (.slice ax os2.length cx) := ⟨HX15.out.cell 0, HX15.out.cell 1⟩
        clear HBK hbt hO HX15 HO15
        go_wp2_with fail
        generalize w14.alloc (.cells #[.int .i64 q2, .slice ay os2.length cy] 26) = W15 at HB15 HOF x0 x1 hz15 ⊢
        refine (cb _ HOF.out).mono ?_
        rintro e w16 ⟨rfl, hb16⟩
        have HB16 := hide (HB15.out.trans (hb16.mono HB15.out.size))
        clear hb16 cb HOF HB15 x0 x1
        go_wp2
        go_ret
        exact ⟨rfl, HB16.out⟩

end Go.Proofs.Ytljmfdcilnbjaab
