/- The laws FnBlockSought and FnBlocks, walked. -/
import Derived.Test.YtljmfdcilnbjaacDrawRB
import Derived.Test.YtljmfdcilnbjaacRBlk
namespace Go.Proofs.Ytljmfdcilnbjaac
set_option maxRecDepth 100000
open Go.RowKit

theorem ret_tr {a : Bool} (h : a = true) : Ending.returned (.bool a) = .returned (.bool true) := by rw [h]

theorem specRB_c {s : ByteArray} (hs : s.size ≤ 1048576) {es : List En} {b : Bool} (hcan : ∀ (B : Nat) (w : World) (v : Value) (c : Bool), RB s B w v c → c = b ∧ RowE w B v es) (wx : World) :
    Calls Try.prog 12 #[.string s] wx fun e w' => RBc es b wx.heap.size e w' ∧ Below wx.heap.size wx w' := (spec_ReadBlock s hs wx).mono fun e w' h => by
  obtain ⟨⟨v, c, he, hr⟩, hb⟩ := h
  obtain ⟨rfl, ho⟩ := hcan _ _ _ _ hr
  exact ⟨⟨v, he, ho⟩, hb⟩
theorem implRB_c {s : ByteArray} (hs : s.size ≤ 1048576) {es : List En} {b : Bool} (hcan : ∀ (B : Nat) (w : World) (v : Value) (c : Bool), RB s B w v c → c = b ∧ RowE w B v es) (wx : World) :
    Calls Try.prog 9 #[.string s] wx fun e w' => RBc es b wx.heap.size e w' ∧ Below wx.heap.size wx w' := (impl_ReadBlock s hs wx).mono fun e w' h => by
  obtain ⟨⟨v, c, he, hr⟩, hb⟩ := h
  obtain ⟨rfl, ho⟩ := hcan _ _ _ _ hr
  exact ⟨⟨v, he, ho⟩, hb⟩

set_option maxHeartbeats 2000000 in
theorem walk_FnBlockSought (v : Value) {w : World} (hv : IsBytes w v) (_w : World) :
    Calls Try.prog 4 #[v] w fun e w' => e = .returned (.bool true) ∧ Below w.heap.size w w' := by
  obtain ⟨a, len, cap, rfl, hc, hm⟩ := hv
  by_cases hbig : 1048576 < len
  · have hd : decide (1048576 < len) = true := by simp [hbig]
    go_enter Try.func4, Try.ntmps4
    go_wp2_with fail
    refine (laws_bigK a len cap hm _).mono ?_
    rintro e w1 ⟨rfl, rfl⟩
    go_wp2
    go_ret
    exact ⟨rfl, Below.refl _ _⟩
  · have hd : decide (1048576 < len) = false := by simp [hbig]
    have hl : len ≤ 1048576 := by omega
    go_enter Try.func4, Try.ntmps4
    go_wp2_with fail
    refine (laws_bigK a len cap hm _).mono ?_
    rintro e w1 ⟨rfl, rfl⟩
    go_wp2_with fail
    refine (draw_BlockSeek w _ a len cap hc hl (Below.refl _ _)).mono ?_
    rintro e w1 ⟨t, u, q, k, rfl, ht, hB1⟩
    obtain ⟨es, b, hel, hcan⟩ := rb_can t
    have ci := implRB_c (s := t) (by omega) hcan
    have cs2 := fun wx => spec_BlockSeekC t es b u q k hel (specRB_c (s := t) (by omega) hcan) wx
    have ci2 := fun wx => impl_BlockSeekC t es b u q k hel ci wx
    have cq := fun wx x c (h : EntAt wx wx.heap.size x es.length (entsOf es)) => impl_SeekEntry x es.length c (entsOf es) u q k wx (by omega) h
    have ck := fun wx => impl_KeyOk u q k wx
    have hb2 := below_one w1 (.cells #[.string u, .int .i64 q, .int .i64 k] 34)
    have HB2 := hide (hB1.trans (hb2.mono hB1.size))
    have HX2 := hide (BoxIs.new w1 #[.string u, .int .i64 q, .int .i64 k] 34 rfl)
    clear hbig hc hm hd hb2 hB1 hcan hel
    go_wp2_with fail
    generalize w1.alloc (.cells #[.string u, .int .i64 q, .int .i64 k] 34) = W2 at HB2 HX2 ⊢
    refine (ci2 _).mono ?_
    rintro e w3 ⟨⟨r, c, rfl, hbs⟩, hb3⟩
    have HB3 := hide (HB2.out.trans (hb3.mono HB2.out.size))
    have HX3 := hide (HX2.out.next hb3)
    have HBS := hide hbs
    clear hb3 HB2 HX2 ci2 hbs
    obtain ⟨x0, x1, x2⟩ : w3.cell? ⟨w1.heap.size, 0, none⟩ = some (.string u) ∧ w3.cell? ⟨w1.heap.size, 1, none⟩ = some (.int .i64 q) ∧ w3.cell? ⟨w1.heap.size, 2, none⟩ = some (.int .i64 k) := ⟨HX3.out.cell 0, HX3.out.cell 1, HX3.out.cell 2⟩
    go_wp2_with fail
    refine (cs2 _).mono ?_
    rintro e w4 ⟨⟨r', c', rfl, hbs'⟩, hb4⟩
    obtain ⟨rfl, rfl⟩ := bsk_one HBS.out hbs'
    have HB4 := hide (HB3.out.trans (hb4.mono HB3.out.size))
    have HX4 := hide (HX3.out.next hb4)
    clear hb4 HB3 HX3 cs2 hbs' x0 x1 x2
    go_wp2_with fail
    refine (ci _).mono ?_
    rintro e w5 ⟨⟨vv, rfl, ho⟩, hb5⟩
    obtain ⟨aa, cc, rfl, hE⟩ := ho.at
    have HE5 := hide hE
    have HB5 := hide (HB4.out.trans (hb5.mono HB4.out.size))
    have HX5 := hide (HX4.out.next hb5)
    clear hb5 HB4 HX4 ci ho hE
    obtain ⟨x0, x1, x2⟩ : w5.cell? ⟨w1.heap.size, 0, none⟩ = some (.string u) ∧ w5.cell? ⟨w1.heap.size, 1, none⟩ = some (.int .i64 q) ∧ w5.cell? ⟨w1.heap.size, 2, none⟩ = some (.int .i64 k) := ⟨HX5.out.cell 0, HX5.out.cell 1, HX5.out.cell 2⟩
    cases b with
    | false =>
      obtain ⟨rfl, rfl⟩ : c = false ∧ r = 0 := by
        have := HBS.out
        unfold BSk at this
        rwa [if_neg (by simp)] at this
      clear HBS ck cq
      go_wp2
      go_ret
      exact ⟨rfl, HB5.out⟩
    | true =>
      cases hk : keyOkB u q k with
      | false =>
        obtain ⟨rfl, rfl⟩ : c = false ∧ r = 0 := by
          have := HBS.out
          unfold BSk at this
          rwa [if_neg (by simp [hk])] at this
        rw [hk] at ck
        clear HBS cq hk
        go_wp2_with fail
        refine (ck _).mono ?_
        rintro e w6 ⟨rfl, hb6⟩
        have HB6 := hide (HB5.out.trans (hb6.mono HB5.out.size))
        clear hb6 ck HB5 HX5 x0 x1 x2
        go_wp2
        go_ret
        exact ⟨rfl, HB6.out⟩
      | true =>
        obtain ⟨rfl, hrs⟩ : c = true ∧ SeekAt (entsOf es) es.length u q k r := by
          have := HBS.out
          unfold BSk at this
          rwa [if_pos (by simp [hk])] at this
        have HRS := hide hrs
        rw [hk] at ck
        clear HBS hk hrs
        go_wp2_with fail
        refine (ck _).mono ?_
        rintro e w6 ⟨rfl, hb6⟩
        have HB6 := hide (HB5.out.trans (hb6.mono HB5.out.size))
        have HX6 := hide (HX5.out.next hb6)
        have HE6 := hide (HE5.out.keep hb6)
        clear hb6 ck HB5 HX5 HE5 x0 x1 x2
        obtain ⟨x0, x1, x2⟩ : w6.cell? ⟨w1.heap.size, 0, none⟩ = some (.string u) ∧ w6.cell? ⟨w1.heap.size, 1, none⟩ = some (.int .i64 q) ∧ w6.cell? ⟨w1.heap.size, 2, none⟩ = some (.int .i64 k) := ⟨HX6.out.cell 0, HX6.out.cell 1, HX6.out.cell 2⟩
        go_wp2_with fail
        refine (cq _ _ _ HE6.out).mono ?_
        rintro e w7 ⟨⟨r2, rfl, hr2⟩, hb7⟩
        obtain rfl : r2 = r := seekAt_one hr2 HRS.out
        have HB7 := hide (HB6.out.trans (hb7.mono HB6.out.size))
        clear hb7 hr2 HB6 HX6 x0 x1 x2 cq HE6 HRS
        go_wp2
        go_ret
        exact ⟨rfl, HB7.out⟩

theorem laws_sameEntries (a b : Option Addr) (len ca cb : Nat) (E : Ents) (w : World) (hl : len ≤ 1048576) (ha : EntAt w w.heap.size a len E) (hb : EntAt w w.heap.size b len E) :
    Calls Try.prog 10 #[.slice a len ca, .slice b len cb] w fun e w' => e = .returned (.bool true) ∧ Below w.heap.size w w' := by
  have HA := hide ha
  have HB := hide hb
  have HW0 := hide (Below.refl w.heap.size w)
  clear ha hb
  go_enter Try.func10, Try.ntmps10
  go_wp2
  go_loopw [5] (fun i wr => ∃ k : Nat, i = .int .i64 k ∧ k ≤ len ∧ Hid (Below w.heap.size w wr)) (fun i _ => len - (intOf i).toNat)
  case atStart => exact ⟨0, rfl, by omega, HW0⟩
  case round =>
    obtain ⟨k, rfl, hk, HW⟩ := hrel
    by_cases hlt : k < len
    · obtain ⟨g1, o1, rfl, _, c0, c1, c2, c3⟩ := (HA.out.below HW.out).at hlt
      obtain ⟨g2, o2, rfl, _, d0, d1, d2, d3⟩ := (HB.out.below HW.out).at hlt
      have hki : (k : Int) < (len : Int) := by omega
      go_wp2
      go_quiet (fail)
      go_wp2
      exact ⟨⟨k + 1, by go_num, by omega, below_drewN HW.out _⟩, by simp [intOf]; omega⟩
    · obtain rfl : k = len := by omega
      go_wp2
      go_ret
      exact ⟨rfl, HW.out⟩

theorem rb_can2 (s : ByteArray) : ∃ (es : List En) (b : Bool), es.length ≤ 400 ∧ (∀ (B : Nat) (w : World) (v : Value) (c : Bool), RB s B w v c → c = b ∧ RowE w B v es) ∧ (b = true → ∃ m, IsBlk s es m) ∧ (b = false → ∀ es m, ¬ IsBlk s es m) := by
  by_cases hex : ∃ es m, IsBlk s es m
  · obtain ⟨es, m, h⟩ := hex
    refine ⟨es, true, (blkOk_out h.1).2.2.1, fun B w v c hr => ?_, fun _ => ⟨m, h⟩, fun h => by cases h⟩
    rcases hr with ⟨rfl, es', m', h', ho⟩ | ⟨_, _, hn⟩
    · rw [blk_one h h']; exact ⟨rfl, ho⟩
    · exact absurd h (hn es m)
  · refine ⟨[], false, by simp, fun B w v c hr => ?_, fun h => (by cases h), fun _ es m h => hex ⟨es, m, h⟩⟩
    rcases hr with ⟨_, es', m', h', _⟩ | ⟨rfl, rfl, _⟩
    · exact absurd ⟨es', m', h'⟩ hex
    · exact ⟨rfl, RowE.nil _ _⟩

theorem bt_ext (s : ByteArray) (k : Nat) : bt (s.extract k s.size) 0 = bt s k := by
  unfold bt
  rw [ByteArray.data_extract, Array.toList_extract]
  simp only [List.getD, List.extract_eq_drop_take']
  rw [show s.size = s.data.toList.length by simp, List.take_length, List.getElem?_drop, Nat.add_zero]

/-- The last bytes of a block tell how often it begins anew. -/
theorem blk_last {s : ByteArray} {es : List En} {m : Nat} (h : IsBlk s es m) : ∃ d, s.size = d + 4 ∧ bt s d = (m : Int) ∧ blkR (entsOf es) es.length (m : Int) = s ∧ blkOk (entsOf es) es.length (m : Int) = true ∧ m ≤ 16 := by
  obtain ⟨h1, h2, h3, h4, h5, h6⟩ := blk_parts h
  obtain ⟨_, _, _, hm1, hm2, _, _⟩ := blkOk_out h.1
  refine ⟨s.size - 4, by omega, ?_, ?_, h.1, hm2⟩
  · rw [← bt_ext]
    unfold evOf tf4 at h4
    have b0 := bt_bd (s.extract (s.size - 4) s.size) 0
    have b1 := bt_bd (s.extract (s.size - 4) s.size) 1
    have b2 := bt_bd (s.extract (s.size - 4) s.size) 2
    have b3 := bt_bd (s.extract (s.size - 4) s.size) 3
    omega
  · rw [blkR, h.1, Int.toNat_natCast]
    exact h.2

set_option maxHeartbeats 1000000 in
theorem walk_FnBlocks (v : Value) {w : World} (hv : IsBytes w v) (_w : World) :
    Calls Try.prog 3 #[v] w fun e w' => e = .returned (.bool true) ∧ Below w.heap.size w w' := by
  obtain ⟨a, len, cap, rfl, hc, hm⟩ := hv
  by_cases hbig : 1048576 < len
  · have hd : decide (1048576 < len) = true := by simp [hbig]
    go_enter Try.func3, Try.ntmps3
    go_wp2_with fail
    refine (laws_bigK a len cap hm _).mono ?_
    rintro e w1 ⟨rfl, rfl⟩
    go_wp2
    go_ret
    exact ⟨rfl, Below.refl _ _⟩
  · have hd : decide (1048576 < len) = false := by simp [hbig]
    have hl : len ≤ 1048576 := by omega
    go_enter Try.func3, Try.ntmps3
    go_wp2_with fail
    refine (laws_bigK a len cap hm _).mono ?_
    rintro e w1 ⟨rfl, rfl⟩
    go_wp2_with fail
    refine (draw_BlockOf w _ a len cap hc hl (Below.refl _ _)).mono ?_
    rintro e w1 ⟨gE, capE, es, every, rfl, hn10, hE, hB1⟩
    have HE1 := hide hE
    have HB1 := hide hB1
    have ci := fun wx h => impl_BlockOf (some ⟨gE, 0, none⟩) es.length capE (entsOf es) every wx (by omega) h
    have cs := fun wx h => spec_BlockOf (some ⟨gE, 0, none⟩) es.length capE (entsOf es) every wx (by omega) h
    have HOK : Hid (blkOk (entsOf es) es.length every = true → ∃ m, IsBlk (blkR (entsOf es) es.length every) es m) := fun h => by
      have he : everyB every = true := by
        unfold blkOk at h
        rw [Bool.and_eq_true, Bool.and_eq_true] at h
        exact h.1.2
      obtain ⟨m, rfl, _, _⟩ := every_nat he
      exact ⟨m, h, by rw [blkR, h, Int.toNat_natCast]; rfl⟩
    have hAz := blkR_size (entsOf es) es.length every
    clear hE hB1 hm hd hbig
    generalize blkR (entsOf es) es.length every = A at *
    generalize blkOk (entsOf es) es.length every = ok at *
    go_wp2_with fail
    refine (ci _ HE1.out).mono ?_
    rintro e w2 ⟨rfl, hb2⟩
    have HE2 := hide (HE1.out.keep hb2)
    have HB2 := hide (HB1.out.trans (hb2.mono HB1.out.size))
    clear hb2 ci HE1 HB1
    go_wp2_with fail
    refine (cs _ HE2.out).mono ?_
    rintro e w3 ⟨rfl, hb3⟩
    have HE3 := hide (HE2.out.keep hb3)
    have HB3 := hide (HB2.out.trans (hb3.mono HB2.out.size))
    clear hb3 cs HE2 HB2
    cases ok with
    | false =>
      clear HOK HE3
      go_wp2_with fail
      refine (draw_ReadBlock w _ a len cap hc hl HB3.out).mono ?_
      rintro e w6 ⟨t, rfl, ht, hb6⟩
      obtain ⟨x, b', hxl, hcan', hyes', _⟩ := rb_can2 t
      have ci' := implRB_c (s := t) (by omega) hcan'
      have cs' := specRB_c (s := t) (by omega) hcan'
      have HB6 := hide (HB3.out.trans (hb6.mono HB3.out.size))
      clear hb6 HB3 hcan'
      go_wp2_with fail
      refine (ci' _).mono ?_
      rintro e w7 ⟨⟨vx, rfl, hox⟩, hb7⟩
      obtain ⟨ax, cx, rfl, hEx⟩ := hox.at
      have HX7 := hide hEx
      have HB7 := hide (HB6.out.trans (hb7.mono HB6.out.size))
      clear hb7 HB6 ci' hox hEx
      go_wp2_with fail
      refine (cs' _).mono ?_
      rintro e w8 ⟨⟨vy, rfl, _⟩, hb8⟩
      have HX8 := hide (HX7.out.keep hb8)
      have HB8 := hide (HB7.out.trans (hb8.mono HB7.out.size))
      clear hb8 HB7 cs' HX7
      cases b' with
      | false =>
        clear hyes'
        go_wp2
        go_ret
        exact ⟨rfl, HB8.out⟩
      | true =>
        obtain ⟨m', hm'⟩ := hyes' rfl
        obtain ⟨d, hd, hbt, hbR, hbO, hm16⟩ := blk_last hm'
        have hdi : (t.size : Int) - 4 = (d : Int) := by omega
        have hdl : d < t.size := by omega
        have hdl' : (d : Int) < (t.size : Int) := by omega
        have hwm : IntKind.i64.wrap (m' : Int) = (m' : Int) := by rw [IntKind.wrap_i64]; omega
        have hwm8 : wrap64 (m' : Int) = (m' : Int) := by unfold wrap64; omega
        have hx := bt_of t d hdl
        rw [hbt] at hx
        have cb := fun wx h => impl_BlockOf ax x.length cx (entsOf x) (m' : Int) wx (by omega) h
        rw [hbR, hbO] at cb
        have HCB := hide cb
        clear hyes' hm' hbt hbR hbO cb hd
        go_wp2_with fail
        refine (HCB.out _ HX8.out).mono ?_
        rintro e w9 ⟨rfl, hb9⟩
        have HB9 := hide (HB8.out.trans (hb9.mono HB8.out.size))
        clear hb9 HCB HB8 HX8
        go_wp2
        go_ret
        exact ⟨rfl, HB9.out⟩
    | true =>
      obtain ⟨m, hblk⟩ := HOK.out rfl
      obtain ⟨es2, b2, hel2, hcan2, hyes2, hno2⟩ := rb_can2 A
      obtain ⟨rfl, hes⟩ : b2 = true ∧ es2 = es := by
        cases b2 with
        | true => obtain ⟨m2, h2⟩ := hyes2 rfl; exact ⟨rfl, blk_one h2 hblk⟩
        | false => exact absurd hblk (hno2 rfl es m)
      subst hes
      have ca := implRB_c (s := A) (by omega) hcan2
      clear HOK hblk hcan2 hyes2 hno2
      go_wp2_with fail
      refine (ca _).mono ?_
      rintro e w4 ⟨⟨vm, rfl, hom⟩, hb4⟩
      obtain ⟨am, cm, rfl, hEm⟩ := hom.at
      have HE4 := hide (HE3.out.keep hb4)
      have HM4 := hide hEm
      have HB4 := hide (HB3.out.trans (hb4.mono HB3.out.size))
      clear hb4 ca HE3 HB3 hom hEm
      go_wp2_with fail
      refine (laws_sameEntries am (some ⟨gE, 0, none⟩) es2.length cm capE (entsOf es2) w4 (by omega) HM4.out HE4.out).mono ?_
      rintro e w5 ⟨rfl, hb5⟩
      have HB5 := hide (HB4.out.trans (hb5.mono HB4.out.size))
      clear hb5 HB4 HE4 HM4
      go_wp2_with fail
      refine (draw_ReadBlock w _ a len cap hc hl HB5.out).mono ?_
      rintro e w6 ⟨t, rfl, ht, hb6⟩
      obtain ⟨x, b', hxl, hcan', hyes', _⟩ := rb_can2 t
      have ci' := implRB_c (s := t) (by omega) hcan'
      have cs' := specRB_c (s := t) (by omega) hcan'
      have HB6 := hide (HB5.out.trans (hb6.mono HB5.out.size))
      clear hb6 HB5 hcan'
      go_wp2_with fail
      refine (ci' _).mono ?_
      rintro e w7 ⟨⟨vx, rfl, hox⟩, hb7⟩
      obtain ⟨ax, cx, rfl, hEx⟩ := hox.at
      have HX7 := hide hEx
      have HB7 := hide (HB6.out.trans (hb7.mono HB6.out.size))
      clear hb7 HB6 ci' hox hEx
      go_wp2_with fail
      refine (cs' _).mono ?_
      rintro e w8 ⟨⟨vy, rfl, _⟩, hb8⟩
      have HX8 := hide (HX7.out.keep hb8)
      have HB8 := hide (HB7.out.trans (hb8.mono HB7.out.size))
      clear hb8 HB7 cs' HX7
      cases b' with
      | false =>
        clear hyes'
        go_wp2
        go_ret
        exact ⟨rfl, HB8.out⟩
      | true =>
        obtain ⟨m', hm'⟩ := hyes' rfl
        obtain ⟨d, hd, hbt, hbR, hbO, hm16⟩ := blk_last hm'
        have hdi : (t.size : Int) - 4 = (d : Int) := by omega
        have hdl : d < t.size := by omega
        have hdl' : (d : Int) < (t.size : Int) := by omega
        have hwm : IntKind.i64.wrap (m' : Int) = (m' : Int) := by rw [IntKind.wrap_i64]; omega
        have hwm8 : wrap64 (m' : Int) = (m' : Int) := by unfold wrap64; omega
        have hx := bt_of t d hdl
        rw [hbt] at hx
        have cb := fun wx h => impl_BlockOf ax x.length cx (entsOf x) (m' : Int) wx (by omega) h
        rw [hbR, hbO] at cb
        have HCB := hide cb
        clear hyes' hm' hbt hbR hbO cb hd
        go_wp2_with fail
        refine (HCB.out _ HX8.out).mono ?_
        rintro e w9 ⟨rfl, hb9⟩
        have HB9 := hide (HB8.out.trans (hb9.mono HB8.out.size))
        clear hb9 HCB HB8 HX8
        go_wp2
        go_ret
        exact ⟨rfl, HB9.out⟩

end Go.Proofs.Ytljmfdcilnbjaac
