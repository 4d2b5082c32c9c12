/- ReadBlock of the model. -/
import Derived.Test.YtljmfdcilnbjaaaBlkR
namespace Go.Proofs.Ytljmfdcilnbjaaa
set_option maxRecDepth 100000
open Go.RowKit

theorem specBlockOf_re {w : World} {B : Nat} {v : Value} {es : List En} (m : Int) (h : RowE w B v es) (hl : es.length ≤ 1048576) :
    Calls Try.prog 15 #[v, .int .i64 m] w fun e w' => e = .returned (.tuple #[.string (blkR (entsOf es) es.length m), .bool (blkOk (entsOf es) es.length m)]) ∧ Below w.heap.size w w' := by
  obtain ⟨a, cap, rfl, hE⟩ := h.at
  exact spec_BlockOf a es.length cap (entsOf es) m w hl hE

theorem RowE.lit (w : World) (B : Nat) (hB : B ≤ w.heap.size) : RowE (w.alloc (.cells #[] 63)) B (.slice (some ⟨w.heap.size, 0, none⟩) 0 0) [] := OwnE.lit w B hB

theorem blk_many {s : ByteArray} (h : (s.size : Int) - 8 < 0 ∨ 60000 < s.size ∨ ((s.size : Int) - 8) / 4 < manyOf s) : ∀ es m, ¬ IsBlk s es m := fun es m hb => by
  obtain ⟨h1, h2, h3, h4, h5, h6⟩ := blk_parts hb
  omega

def RBEnd (s : ByteArray) (B : Nat) (e : Ending) (w : World) : Prop := ∃ v b, e = .returned (.tuple #[v, .bool b]) ∧ RB s B w v b
theorem RBEnd.mk {s : ByteArray} {B : Nat} {w : World} {v : Value} {b : Bool} (h : RB s B w v b) : RBEnd s B (.returned (.tuple #[v, .bool b])) w := ⟨v, b, rfl, h⟩

set_option maxHeartbeats 2000000 in
theorem spec_ReadBlock (s : ByteArray) (hs : s.size ≤ 1048576) (w : World) :
    Calls Try.prog 19 #[.string s] w fun e w' => RBEnd s w.heap.size e w' ∧ Below w.heap.size w w' := by
  by_cases h1 : s.size < 8
  · have HNO := hide (blk_many (s := s) (.inl (by omega)))
    have g1 : (s.size : Int) < 8 := by omega
    clear h1
    go_enter Try.func19, Try.ntmps19
    go_wp2
    go_ret2
    exact ⟨RBEnd.mk (RB.no HNO.out), Below.refl _ _⟩
  · by_cases h2 : 60000 < s.size
    · have HNO := hide (blk_many (s := s) (.inr (.inl h2)))
      have g1 : ¬ (s.size : Int) < 8 := by omega
      have g2 : (60000 : Int) < (s.size : Int) := by omega
      clear h1 h2
      go_enter Try.func19, Try.ntmps19
      go_wp2
      go_ret2
      exact ⟨RBEnd.mk (RB.no HNO.out), Below.refl _ _⟩
    · obtain ⟨a, ha⟩ : ∃ a, s.size = a + 8 := ⟨s.size - 8, by omega⟩
      have hsx : (s.size : Int) - 8 = (a : Int) := by omega
      have g1 : ¬ (s.size : Int) < 8 := by omega
      have g2 : ¬ (60000 : Int) < (s.size : Int) := by omega
      have hsl : (a : Int) ≤ (s.size : Int) := by omega
      have e1 : takeFixed (s.extract a s.size) = .tuple #[.int .u32 (manyOf s), .string (s.extract (a + 4) s.size), .bool true] := by
        have hex : (s.extract a s.size).extract 4 (s.extract a s.size).size = s.extract (a + 4) s.size := by
          rw [ByteArray.extract_extract, ByteArray.size_extract]
          congr 1
          omega
        rw [takeFixed, if_neg (by rw [ByteArray.size_extract]; omega), manyOf, show s.size - 8 = a by omega, hex]
      have e2 : takeFixed (s.extract (a + 4) s.size) = .tuple #[.int .u32 (evOf s), .string ((s.extract (a + 4) s.size).extract 4 (s.extract (a + 4) s.size).size), .bool true] := by
        rw [takeFixed, if_neg (by rw [ByteArray.size_extract]; omega), evOf, show s.size - 4 = a + 4 by omega]
      have ca := fun wx => e1 ▸ spec_TakeFixed (s.extract a s.size) wx
      have cb := fun wx => e2 ▸ spec_TakeFixed (s.extract (a + 4) s.size) wx
      obtain ⟨p0, p1⟩ := many_bd s
      obtain ⟨q0, q1⟩ := ev_bd s
      have HL : Hid (leftOf s = s.extract 0 (s.size - 8 - 4 * (manyOf s).toNat)) := rfl
      have HNO1 := hide (fun h => blk_many (s := s) (.inr (.inr h)))
      have HEV := hide (fun es m (h : IsBlk s es m) => (blk_parts h).2.2.2.1)
      have HST := hide (At.start (s := s))
      have hls : (leftOf s).size ≤ 60000 := by unfold leftOf; rw [ByteArray.size_extract]; omega
      have HH : Hid (s.size = a + 8) := ha
      clear e1 e2 ha h1 h2
      generalize manyOf s = c at *
      generalize evOf s = ev at *
      have hwc : IntKind.i64.wrap c = c := by rw [IntKind.wrap_i64]; omega
      have hwe : IntKind.i64.wrap ev = ev := by rw [IntKind.wrap_i64]; omega
      generalize (s.extract (a + 4) s.size).extract 4 (s.extract (a + 4) s.size).size = junk at cb
      go_enter Try.func19, Try.ntmps19
      go_wp2_with fail
      refine (ca _).mono ?_
      rintro e w1 ⟨rfl, hb1⟩
      have HB1 := hide hb1
      clear hb1 ca
      go_wp2_with fail
      refine (cb _).mono ?_
      rintro e w2 ⟨rfl, hb2⟩
      have HB2 := hide (HB1.out.trans (hb2.mono HB1.out.size))
      clear hb2 cb HB1
      by_cases h3 : (a : Int) / 4 < c
      · have HNO := hide (HNO1.out (by have := HH.out; omega))
        clear HNO1 HEV HST HL
        go_wp2
        go_ret2
        exact ⟨RBEnd.mk (RB.no HNO.out), HB2.out⟩
      · obtain ⟨n, rfl⟩ := Int.eq_ofNat_of_zero_le p0
        obtain ⟨d, hd⟩ : ∃ d, a = d + 4 * n := ⟨a - 4 * n, by omega⟩
        have hdi : (a : Int) - 4 * (n : Int) = (d : Int) := by omega
        have hds : (d : Int) ≤ (s.size : Int) := by omega
        have HL2 : Hid (leftOf s = s.extract 0 d) := by show _ = _; rw [HL.out]; congr 1; have := HH.out; omega
        have HLIT := hide (RowE.lit w2 w.heap.size HB2.out.size)
        have HBL : Hid (Below w.heap.size w (w2.alloc (.cells #[] 63)) ∧ w.heap.size ≤ (w2.alloc (.cells #[] 63)).heap.size) := ⟨HB2.out.trans ((below_one w2 _).mono HB2.out.size), by simp; have := HB2.out.size; omega⟩
        clear HNO1 HL hd
        generalize hlf : leftOf s = lf at *
        have HL3 := hide HL2.out.symm
        clear HL2
        go_wp2
        rw [HL3.out]
        generalize w2.alloc (.cells #[] 63) = W at HLIT HBL ⊢
        generalize w2.heap.size = g0 at HLIT ⊢
        go_loopw [10, 11, 12] (fun lv ov av wr => ∃ (left last : ByteArray) (row : List En) (k : Nat), lv = .string left ∧ av = .string last ∧ slN ov = k ∧ row.length = k ∧ k ≤ 400 ∧ last.size + left.size ≤ 60000 ∧ Hid (RowE wr w.heap.size ov row) ∧ Hid (At s row last left) ∧ Hid (Below w.heap.size w wr ∧ w.heap.size ≤ wr.heap.size)) (fun _ ov _ _ => 401 - slN ov)
        case atStart => exact ⟨lf, _, [], 0, rfl, rfl, rfl, rfl, by omega, by show 0 + _ ≤ _; omega, HLIT, HST, HBL⟩
        case round =>
          obtain ⟨left, last, row, k, rfl, rfl, hk, hrk, hk4, hsz, HR, HA, HW⟩ := hrel
          clear HLIT HBL
          obtain ⟨ar, cap, hov, _⟩ := HR.out.at
          subst hov
          have he := isEmpty_size left
          by_cases hl : left.size = 0
          · obtain rfl := empty_ba hl
            have hq1 : (⟨#[]⟩ : ByteArray).toList = [] := by rw [ByteArray.toList_eq]
            have hq2 : (⟨#[]⟩ : ByteArray).toList.isEmpty = true := by rw [isEmpty_size]; rfl
            have HDN := hide (fun es m (h : IsBlk s es m) => HA.out.done hl h)
            have cb := fun wx hx => specBlockOf_re (w := wx) (B := w.heap.size) (v := .slice ar row.length cap) (es := row) ev hx (by omega)
            clear hk hrk he HA HST
            cases hok : blkOk (entsOf row) row.length ev with
            | false =>
              have HNO : Hid (∀ es m, ¬ IsBlk s es m) := fun es m h => by
                have e1 := HDN.out es m h
                have e2 := HEV.out es m h
                have := h.1
                rw [← e1, ← e2, hok] at this
                cases this
              rw [hok] at cb
              clear hok HDN HEV
              generalize blkR (entsOf row) row.length ev = T at *
              go_wp2_with fail
              refine (cb _ HR.out).mono ?_
              rintro e w3 ⟨rfl, hb3⟩
              have HB3 := hide (HW.out.1.trans (hb3.mono HW.out.2))
              clear hb3 cb HR HW
              go_wp2
              go_ret2
              exact ⟨RBEnd.mk (RB.no HNO.out), HB3.out⟩
            | true =>
              have hR : blkR (entsOf row) row.length ev = blkT (entsOf row) ev.toNat row.length := by rw [blkR, hok]; rfl
              by_cases hts : blkT (entsOf row) ev.toNat row.length = s
              · have HB : Hid (∃ m, IsBlk s row m) := ⟨ev.toNat, by rw [show ((ev.toNat : Nat) : Int) = ev by omega]; exact hok, hts⟩
                rw [hok, hR, hts] at cb
                clear hok HDN HEV hR hts
                go_wp2_with fail
                refine (cb _ HR.out).mono ?_
                rintro e w3 ⟨rfl, hb3⟩
                have HB3 := hide (HW.out.1.trans (hb3.mono HW.out.2))
                have HR3 := hide (HR.out.next hb3)
                clear hb3 cb HR HW
                go_wp2
                go_ret2
                obtain ⟨m, hm⟩ := HB.out
                exact ⟨RBEnd.mk (.inl ⟨rfl, row, m, hm, HR3.out⟩), HB3.out⟩
              · have HNO : Hid (∀ es m, ¬ IsBlk s es m) := fun es m h => by
                  have e1 := HDN.out es m h
                  have e2 := HEV.out es m h
                  have := h.2
                  rw [← e1, show m = ev.toNat by omega] at this
                  exact hts this
                rw [hok, hR] at cb
                clear hok HDN HEV hR
                generalize blkT (entsOf row) ev.toNat row.length = T at *
                have hne2 : ¬ T.toList = s.toList := fun h => hts (by
                  rw [ByteArray.toList_eq, ByteArray.toList_eq] at h
                  exact ByteArray.ext (Array.toList_inj.1 h))
                have hne3 : (T.toList == s.toList) = false := by simp [hne2]
                go_wp2_with fail
                refine (cb _ HR.out).mono ?_
                rintro e w3 ⟨rfl, hb3⟩
                have HB3 := hide (HW.out.1.trans (hb3.mono HW.out.2))
                clear hb3 cb HR HW
                go_wp2
                go_ret2
                exact ⟨RBEnd.mk (RB.no HNO.out), HB3.out⟩
          · have he2 : left.toList.isEmpty = false := by rw [he]; exact decide_eq_false hl
            have hne : ¬ left.toList = [] := fun h => by rw [h] at he2; cases he2
            have HS := hide (fun es m (h : IsBlk s es m) => HA.out.step hl h)
            have HNX := hide (fun (T R u x : ByteArray) (q kk : Int) h1 h2 h3 h4 => HA.out.next hl (T := T) (R := R) (u := u) (x := x) (q := q) (k := kk) h1 h2 h3 h4)
            have b1 := vPart_bd left
            have cv := fun wx => takeVar_v left ▸ spec_TakeVar left (by unfold maxLen; omega) wx
            generalize vPart left = V at *
            obtain ⟨sh, ra, ok1⟩ := V
            simp only at *
            have b2 := rtext_sum ra
            have ct := fun wx => takeText_v ra ▸ spec_TakeText ra (by omega) wx
            generalize rtext ra = X1 at *
            obtain ⟨more, rb, lost1⟩ := X1
            simp only at *
            have b3 := rtext_sum rb
            have cu := fun wx => takeText_v rb ▸ spec_TakeText rb (by omega) wx
            generalize rtext rb = X2 at *
            obtain ⟨val, rc, lost2⟩ := X2
            simp only at *
            have hk0 : slN (.slice ar row.length cap) = row.length := rfl
            clear he hk hrk
            go_wp2_with fail
            refine (cv _).mono ?_
            rintro e w3 ⟨rfl, hb3⟩
            have HR3 := hide (HR.out.next hb3)
            have HW3 : Hid (Below w.heap.size w w3 ∧ w.heap.size ≤ w3.heap.size) := ⟨HW.out.1.trans (hb3.mono HW.out.2), Nat.le_trans HW.out.2 hb3.size⟩
            clear hb3 cv HR HW
            go_wp2_with fail
            refine (ct _).mono ?_
            rintro e w4 ⟨rfl, hb4⟩
            have HR4' := hide (HR3.out.next hb4)
            have HW4' : Hid (Below w.heap.size w w4 ∧ w.heap.size ≤ w4.heap.size) := ⟨HW3.out.1.trans (hb4.mono HW3.out.2), Nat.le_trans HW3.out.2 hb4.size⟩
            clear hb4 ct HR3 HW3
            go_wp2_with fail
            refine (cu _).mono ?_
            rintro e w5 ⟨rfl, hb5⟩
            have HR4 := hide (HR4'.out.next hb5)
            have HW4 : Hid (Below w.heap.size w w5 ∧ w.heap.size ≤ w5.heap.size) := ⟨HW4'.out.1.trans (hb5.mono HW4'.out.2), Nat.le_trans HW4'.out.2 hb5.size⟩
            clear hb5 cu HR4' HW4'
            cases ok1 with
            | false =>
              have HNO : Hid (∀ es m, ¬ IsBlk s es m) := fun es m h => by have := (HS.out es m h).1; cases this
              clear HS HNX HA HEV HST
              go_wp2
              go_ret2
              exact ⟨RBEnd.mk (RB.no HNO.out), HW4.out.1⟩
            | true =>
              cases lost1 with
              | true =>
                have HNO : Hid (∀ es m, ¬ IsBlk s es m) := fun es m h => by have := (HS.out es m h).2.1; cases this
                clear HS HNX HA HEV HST
                go_wp2
                go_ret2
                exact ⟨RBEnd.mk (RB.no HNO.out), HW4.out.1⟩
              | false =>
                cases lost2 with
                | true =>
                  have HNO : Hid (∀ es m, ¬ IsBlk s es m) := fun es m h => by have := (HS.out es m h).2.2.1; cases this
                  clear HS HNX HA HEV HST
                  go_wp2
                  go_ret2
                  exact ⟨RBEnd.mk (RB.no HNO.out), HW4.out.1⟩
                | false =>
                  have hwl : IntKind.u64.wrap (last.size : Int) = (last.size : Int) := by rw [IntKind.wrap_u64]; omega
                  by_cases hsh : (last.size : Int) < sh
                  · have HNO : Hid (∀ es m, ¬ IsBlk s es m) := fun es m h => by have := (HS.out es m h).2.2.2.1; omega
                    clear HS HNX HA HEV HST
                    go_wp2
                    go_ret2
                    exact ⟨RBEnd.mk (RB.no HNO.out), HW4.out.1⟩
                  · obtain ⟨sn, rfl⟩ := Int.eq_ofNat_of_zero_le b1.1
                    have hsn : sn ≤ last.size := by omega
                    have hsni : (sn : Int) ≤ (last.size : Int) := by omega
                    have hT : Hid (∃ T, last.extract 0 sn ++ more = T) := ⟨_, rfl⟩
                    rw [Int.toNat_natCast] at HS HNX
                    have hTz : (last.extract 0 sn).size + more.size + rc.size ≤ last.size + left.size := by rw [ByteArray.size_extract]; omega
                    have hTs : (last.extract 0 sn ++ more).size = (last.extract 0 sn).size + more.size := ByteArray.size_append
                    have hadd : ∀ wx : World, (Op.stringOp .add (last.extract 0 sn) more).run Try.prog wx = .ok (.string (last.extract 0 sn ++ more)) wx := fun wx => run_string_add_sum wx _ _ (by omega)
                    obtain ⟨T, hT⟩ := hT.out
                    rw [hT] at hadd hTs HS
                    have ck := fun wx => rk_eq T ▸ spec_ReadKey T (by omega) wx
                    have HNX2 := hide (fun u q kk h => HNX.out T rc u val q kk hT h rfl rfl)
                    clear hT HNX b1 hsn
                    generalize rkB T = right at *
                    generalize hrk : rkE T = KE at *
                    obtain ⟨u, q, kk⟩ := KE
                    simp only at *
                    have HNX3 := hide (HNX2.out u q kk rfl)
                    clear HNX2
                    go_wp2_with fail
                    refine (ck _).mono ?_
                    rintro e w6 ⟨rfl, hb6⟩
                    have hbk := hb6.trans ((below_one w6 (.cells #[.string u, .int .i64 q, .int .i64 kk] 47)).mono hb6.size)
                    have HR6 := hide (HR4.out.next hbk)
                    have HW6 : Hid (Below w.heap.size w (w6.alloc (.cells #[.string u, .int .i64 q, .int .i64 kk] 47)) ∧ w.heap.size ≤ (w6.alloc (.cells #[.string u, .int .i64 q, .int .i64 kk] 47)).heap.size) := ⟨HW4.out.1.trans (hbk.mono HW4.out.2), Nat.le_trans HW4.out.2 hbk.size⟩
                    clear hb6 hbk ck HR4 HW4 hadd
                    cases right with
                    | false =>
                      have HNO : Hid (∀ es m, ¬ IsBlk s es m) := fun es m h => by have := (HS.out es m h).2.2.2.2.1; cases this
                      clear HS HNX3 HA HEV HST
                      go_wp2
                      go_ret2
                      exact ⟨RBEnd.mk (RB.no HNO.out), HW6.out.1⟩
                    | true =>
                      by_cases hfull : (400 : Int) ≤ (row.length : Int)
                      · have HNO : Hid (∀ es m, ¬ IsBlk s es m) := fun es m h => by have := (HS.out es m h).2.2.2.2.2.1; omega
                        clear HS HNX3 HA HEV HST
                        go_wp2
                        go_ret2
                        exact ⟨RBEnd.mk (RB.no HNO.out), HW6.out.1⟩
                      · have hsrc := srcOne (w6.alloc (.cells #[.string u, .int .i64 q, .int .i64 kk] 47)) u q kk val
                        have hsz6 : (w6.alloc (.cells #[.string u, .int .i64 q, .int .i64 kk] 47)).heap.size = w6.heap.size + 1 := by simp
                        rw [hsz6] at hsrc
                        have hbe := below_one (w6.alloc (.cells #[.string u, .int .i64 q, .int .i64 kk] 47)) (.cells #[.string u, .int .i64 q, .int .i64 kk, .string val] 63)
                        have HR7 := hide (HR6.out.next hbe)
                        have hB7 := Nat.le_trans HW6.out.2 hbe.size
                        have HW7 := hide (HW6.out.1.trans (hbe.mono HW6.out.2))
                        clear hbe HR6 HS HA hsz6
                        go_wp2_with (at_builtin; refine wpList_append_re rfl _ _ 34 rfl Try.underlying34 w.heap.size _ row [⟨u, q, kk, val⟩] (by rfl) HR7.out ⟨w6.heap.size + 1, 0, none⟩ 1 1 (by rfl) rfl hsrc hB7 (by omega) ?_)
                        intro v' w8 hR8 hb8
                        have hl8 : slN v' = row.length + 1 := by
                          obtain ⟨a', c', rfl, _⟩ := hR8.at
                          show (row ++ [_]).length = _
                          rw [List.length_append]; rfl
                        have HR8 := hide hR8
                        have HW8 : Hid (Below w.heap.size w w8 ∧ w.heap.size ≤ w8.heap.size) := ⟨HW7.out.trans hb8, Nat.le_trans hB7 hb8.size⟩
                        have hlen : (row ++ [(⟨u, q, kk, val⟩ : En)]).length = row.length + 1 := by rw [List.length_append]; rfl
                        clear hR8 hb8 HR7 HW6 HW7 hB7 hsrc
                        go_wp2
                        exact ⟨⟨rc, T, _, row.length + 1, rfl, rfl, hl8, hlen, by omega, by omega, HR8, HNX3, HW8⟩, by rw [hk0]; simp only [hl8]; omega⟩

end Go.Proofs.Ytljmfdcilnbjaaa
