/- ReadBlock of the program. -/
import Derived.Test.YtljmfdcilnbjaacBlkP
import Derived.Test.YtljmfdcilnbjaacMarkE
namespace Go.Proofs.Ytljmfdcilnbjaac
set_option maxRecDepth 100000
open Go.RowKit

theorem implBlockOf_re {w : World} {B : Nat} {v : Value} {es : List En} (m : Int) (h : RowE w B v es) (hl : es.length ≤ 1048576) :
    Calls Try.prog 7 #[v, .int .i64 m] w fun e w' => e = .returned (.tuple #[.string (blkR (entsOf es) es.length m), .bool (blkOk (entsOf es) es.length m)]) ∧ Below w.heap.size w w' := by
  obtain ⟨a, cap, rfl, hE⟩ := h.at
  exact impl_BlockOf a es.length cap (entsOf es) m w hl hE

set_option maxHeartbeats 1000000 in
theorem impl_ReadBlock (s : ByteArray) (hs : s.size ≤ 1048576) (w : World) :
    Calls Try.prog 9 #[.string s] w fun e w' => (∃ v b, e = .returned (.tuple #[v, .bool b]) ∧ RB s w.heap.size w' v b) ∧ Below w.heap.size w w' := by
  have cr := fun wx => impl_blockReaderOf s hs wx
  cases hb : broOk s with
  | false =>
    have HN := hide (bro_no hb)
    rw [broV_no hb] at cr
    clear hb
    go_enter Try.func9, Try.ntmps9
    go_wp2_with fail
    refine (cr _).mono ?_
    rintro e w1 ⟨rfl, hb1⟩
    have HB1 := hide (hb1.trans ((below_one w1 (.cells #[.int .i64 0, .int .i64 0, .string ⟨#[]⟩, .string ⟨#[]⟩, .bool false] 68)).mono hb1.size))
    clear hb1 cr
    go_wp2
    go_ret2
    exact ⟨⟨_, _, rfl, RB.no HN.out⟩, HB1.out⟩
  | true =>
    rw [broV_yes hb] at cr
    obtain ⟨h8, h60, _, hev⟩ := bro_out hb
    obtain ⟨m, hm, hm1, hm2⟩ := every_nat hev
    have HM := hide (fun es m' (h : IsBlk s es m') => (blk_parts h).2.2.2.1)
    rw [hm] at cr HM
    have hls : (leftOf s).size ≤ 60000 := by unfold leftOf; rw [ByteArray.size_extract]; omega
    have HSZ := hide (fun k => rdk_size m (leftOf s) k)
    have HLN := hide (fun k => rdk_len m (leftOf s) k)
    have HDONE := hide (fun es k (h : IsBlk s es m) h1 h2 => blk_done (k := k) h h1 h2)
    generalize leftOf s = r0 at *
    clear hb hev hm
    go_enter Try.func9, Try.ntmps9
    go_wp2_with fail
    refine (cr _).mono ?_
    rintro e w1 ⟨rfl, hb1⟩
    have HB1 := hide (hb1.trans ((below_one w1 (.cells #[.int .i64 m, .int .i64 0, .string ⟨#[]⟩, .string r0, .bool false] 68)).mono hb1.size))
    have HX1 := hide (BoxIs.new w1 #[.int .i64 m, .int .i64 0, .string ⟨#[]⟩, .string r0, .bool false] 68 rfl)
    have hF : w.heap.size ≤ w1.heap.size := hb1.size
    have hz1 : w1.heap.size + 1 ≤ (w1.alloc (.cells #[.int .i64 m, .int .i64 0, .string ⟨#[]⟩, .string r0, .bool false] 68)).heap.size := by simp
    clear hb1 cr
    go_wp2
    generalize w1.alloc (.cells #[.int .i64 m, .int .i64 0, .string ⟨#[]⟩, .string r0, .bool false] 68) = W at HB1 HX1 hz1 ⊢
    generalize w1.heap.size = F at HX1 hF hz1 ⊢
    go_loopw [6] (fun v wr => ∃ (k : Nat) (l : Bool), slN v = k ∧ k ≤ 401 ∧ Hid (RowE wr (F + 1) v (rdk m r0 k).1) ∧ Hid (BoxIs wr F #[.int .i64 m, .int .i64 k, .string (rdk m r0 k).2.1, .string (rdk m r0 k).2.2, .bool l] 68) ∧ Hid (∀ j, j < k → (rdk m r0 j).2.2.size ≠ 0) ∧ Hid (Below w.heap.size w wr ∧ F + 1 ≤ wr.heap.size)) (fun v _ => 401 - slN v)
    case atStart => exact ⟨0, false, rfl, by omega, RowE.nil _ _, HX1, fun j hj => absurd hj (by omega), ⟨HB1.out, hz1⟩⟩
    case round =>
      obtain ⟨k, l, hk, hk4, HR, HX, HG, HW⟩ := hrel
      clear HB1 HX1 hz1
      have hsz := HSZ.out k
      have hln := HLN.out k
      have HRD : Hid (rdk m r0 (k + 1) = ((rdk m r0 k).1 ++ [nxE m k (rdk m r0 k).2.1 (rdk m r0 k).2.2], nxT m k (rdk m r0 k).2.1 (rdk m r0 k).2.2, nxR (rdk m r0 k).2.2)) := rfl
      have HD := hide (fun es h => HDONE.out es k h)
      have HGN : Hid ((rdk m r0 k).2.2.size ≠ 0 → ∀ j, j < k + 1 → (rdk m r0 j).2.2.size ≠ 0) := fun h j hj => by
        rcases Nat.lt_or_eq_of_le (Nat.le_of_lt_succ hj) with h1 | h1
        · exact HG.out j h1
        · subst h1; exact h
      generalize hD : rdk m r0 k = D at *
      obtain ⟨es, ah, r⟩ := D
      simp only at *
      obtain ⟨a, cap, rfl, _⟩ := HR.out.at
      have hkn : es.length = k := hln
      have hk' : slN (.slice a es.length cap) = es.length := rfl
      have he := isEmpty_size r
      have x3 : wr.cell? ⟨F, 3, none⟩ = some (.string r) := HX.out.cell 3
      by_cases hgo : r.size ≠ 0 ∧ k ≤ 400
      · have hki : (es.length : Int) ≤ 400 := by omega
        have he2 : r.toList.isEmpty = false := by rw [he]; exact decide_eq_false hgo.1
        have hne : ¬ r.toList = [] := fun h => by rw [h] at he2; cases he2
        have HGN2 := hide (HGN.out hgo.1)
        have cn := fun wx l' hx => blk_next wx F m k ah r l' hm1 (by omega) (by omega) hx
        clear he hgo HGN
        go_wp2_with fail
        refine (cn wr l HX.out).mono ?_
        rintro e w2 ⟨rfl, ⟨l', hx2⟩, hm2'⟩
        have HX2 := hide hx2
        have HR2 := hide (HR.out.mv hm2' (Nat.lt_succ_self F))
        have HW2 : Hid (Below w.heap.size w w2 ∧ F + 1 ≤ w2.heap.size) := ⟨HW.out.1.trans (hm2'.below HW.out.1.size hF), Nat.le_trans HW.out.2 hm2'.size⟩
        clear hx2 hm2' cn x3 HX HR HW
        generalize hN : nxE m k ah r = N at *
        obtain ⟨u, q, kk, x⟩ := N
        simp only
        have hb3 := below_one w2 (.cells #[.string u, .int .i64 q, .int .i64 kk, .string x] 53)
        have HX3 := hide (HX2.out.next hb3)
        have HR3 := hide (HR2.out.next hb3)
        have hB3 : F + 1 ≤ (w2.alloc (.cells #[.string u, .int .i64 q, .int .i64 kk, .string x] 53)).heap.size := Nat.le_trans HW2.out.2 hb3.size
        have HW3 := hide (HW2.out.1.trans (hb3.mono HW2.out.1.size))
        have hsrc := srcOne w2 u q kk x
        clear hb3 HX2 HR2 HW2
        go_wp2_with (at_builtin; refine wpList_append_re rfl _ _ 24 rfl Try.underlying24 (F + 1) _ es [⟨u, q, kk, x⟩] (by rfl) HR3.out ⟨w2.heap.size, 0, none⟩ 1 1 (by rfl) rfl hsrc hB3 (by omega) ?_)
        intro v' w4 hR4 hb4
        have hl4 : slN v' = k + 1 := by
          obtain ⟨a', c', rfl, _⟩ := hR4.at
          show (es ++ [_]).length = _
          rw [List.length_append, hkn]; rfl
        have HR4 : Hid (RowE w4 (F + 1) v' (rdk m r0 (k + 1)).1) := by rw [HRD.out]; exact hR4
        have HX4 : Hid (BoxIs w4 F #[.int .i64 m, .int .i64 ((k + 1 : Nat) : Int), .string (rdk m r0 (k + 1)).2.1, .string (rdk m r0 (k + 1)).2.2, .bool l'] 68) := by rw [HRD.out]; exact HX3.out.below hb4 (Nat.lt_succ_self F)
        have HW4 : Hid (Below w.heap.size w w4 ∧ F + 1 ≤ w4.heap.size) := ⟨HW3.out.trans (hb4.mono (by omega)), Nat.le_trans hB3 hb4.size⟩
        clear hR4 hb4 HR3 HX3 HW3 hB3 hsrc
        go_wp2
        exact ⟨⟨k + 1, l', hl4, by omega, HR4, HX4, HGN2, HW4⟩, by rw [hk'] ; simp only [hl4]; omega⟩
      · have hstop : r.size = 0 ∨ k = 401 := by omega
        have HD2 := hide (fun e' h => HD.out e' h hstop HG.out)
        have x0 : wr.cell? ⟨F, 0, none⟩ = some (.int .i64 m) := HX.out.cell 0
        have cb := fun wx hx => implBlockOf_re (w := wx) (B := F + 1) (v := .slice a es.length cap) (es := es) (m : Int) hx (by omega)
        by_cases hr0 : r.size = 0
        · obtain rfl := empty_ba hr0
          clear he HGN HG hgo hstop hr0 hln hkn hk hk'
          have HR' := hide (HR.out.low (B' := w.heap.size) (by omega))
          cases hok : blkOk (entsOf es) es.length (m : Int) with
          | false =>
            have HNO : Hid (∀ e' m', ¬ IsBlk s e' m') := fun e' m' h => by
              have e0 := HM.out e' m' h
              obtain rfl : m = m' := by omega
              obtain ⟨e1, _⟩ := HD2.out e' h
              have := h.1
              rw [← e1, hok] at this
              cases this
            rw [hok] at cb
            clear hok HD HD2 HM HDONE
            generalize blkR (entsOf es) es.length (m : Int) = T at *
            go_wp2_with fail
            refine (cb _ HR.out).mono ?_
            rintro e w2 ⟨rfl, hb2⟩
            have HB2 := hide (HW.out.1.trans (hb2.mono HW.out.1.size))
            clear hb2 cb x0 x3 HR HX HW HR'
            go_wp2
            go_ret2
            exact ⟨⟨_, _, rfl, RB.no HNO.out⟩, HB2.out⟩
          | true =>
            have hR : blkR (entsOf es) es.length (m : Int) = blkT (entsOf es) m es.length := by rw [blkR, hok, Int.toNat_natCast]; rfl
            by_cases hts : blkT (entsOf es) m es.length = s
            · have HB := hide (show IsBlk s es m from ⟨hok, hts⟩)
              rw [hok, hR, hts] at cb
              clear hok HD HD2 HM hR hts
              go_wp2_with fail
              refine (cb _ HR.out).mono ?_
              rintro e w2 ⟨rfl, hb2⟩
              have HB2 := hide (HW.out.1.trans (hb2.mono HW.out.1.size))
              have HR2 := hide (HR'.out.next hb2)
              clear hb2 cb x0 x3 HR HX HW HR'
              go_wp2
              go_ret2
              exact ⟨⟨_, _, rfl, .inl ⟨rfl, es, m, HB.out, HR2.out⟩⟩, HB2.out⟩
            · have HNO : Hid (∀ e' m', ¬ IsBlk s e' m') := fun e' m' h => by
                have e0 := HM.out e' m' h
                obtain rfl : m = m' := by omega
                obtain ⟨e1, _⟩ := HD2.out e' h
                have := h.2
                rw [← e1] at this
                exact hts this
              rw [hok, hR] at cb
              clear hok HD HD2 HM hR
              generalize blkT (entsOf es) m es.length = T at *
              have hne2 : ¬ T.toList = s.toList := fun h => hts (by
                rw [ByteArray.toList_eq, ByteArray.toList_eq] at h
                exact ByteArray.ext (Array.toList_inj.1 h))
              have hne3 : (T.toList == s.toList) = false := by simp [hne2]
              go_wp2_with fail
              refine (cb _ HR.out).mono ?_
              rintro e w2 ⟨rfl, hb2⟩
              have HB2 := hide (HW.out.1.trans (hb2.mono HW.out.1.size))
              clear hb2 cb x0 x3 HR HX HW HR'
              go_wp2
              go_ret2
              exact ⟨⟨_, _, rfl, RB.no HNO.out⟩, HB2.out⟩
        · have hki : ¬ (es.length : Int) ≤ 400 := by omega
          have he2 : r.toList.isEmpty = false := by rw [he]; exact decide_eq_false hr0
          have hne : ¬ r.toList = [] := fun h => by rw [h] at he2; cases he2
          clear he HGN HG hgo hstop hr0 hln hkn hk hk'
          have HR' := hide (HR.out.low (B' := w.heap.size) (by omega))
          cases hok : blkOk (entsOf es) es.length (m : Int) with
          | false =>
            have HNO : Hid (∀ e' m', ¬ IsBlk s e' m') := fun e' m' h => by
              have e0 := HM.out e' m' h
              obtain rfl : m = m' := by omega
              obtain ⟨e1, _⟩ := HD2.out e' h
              have := h.1
              rw [← e1, hok] at this
              cases this
            rw [hok] at cb
            clear hok HD HD2 HM HDONE
            generalize blkR (entsOf es) es.length (m : Int) = T at *
            go_wp2_with fail
            refine (cb _ HR.out).mono ?_
            rintro e w2 ⟨rfl, hb2⟩
            have HB2 := hide (HW.out.1.trans (hb2.mono HW.out.1.size))
            clear hb2 cb x0 x3 HR HX HW HR'
            go_wp2
            go_ret2
            exact ⟨⟨_, _, rfl, RB.no HNO.out⟩, HB2.out⟩
          | true =>
            have hR : blkR (entsOf es) es.length (m : Int) = blkT (entsOf es) m es.length := by rw [blkR, hok, Int.toNat_natCast]; rfl
            by_cases hts : blkT (entsOf es) m es.length = s
            · have HB := hide (show IsBlk s es m from ⟨hok, hts⟩)
              rw [hok, hR, hts] at cb
              clear hok HD HD2 HM hR hts
              go_wp2_with fail
              refine (cb _ HR.out).mono ?_
              rintro e w2 ⟨rfl, hb2⟩
              have HB2 := hide (HW.out.1.trans (hb2.mono HW.out.1.size))
              have HR2 := hide (HR'.out.next hb2)
              clear hb2 cb x0 x3 HR HX HW HR'
              go_wp2
              go_ret2
              exact ⟨⟨_, _, rfl, .inl ⟨rfl, es, m, HB.out, HR2.out⟩⟩, HB2.out⟩
            · have HNO : Hid (∀ e' m', ¬ IsBlk s e' m') := fun e' m' h => by
                have e0 := HM.out e' m' h
                obtain rfl : m = m' := by omega
                obtain ⟨e1, _⟩ := HD2.out e' h
                have := h.2
                rw [← e1] at this
                exact hts this
              rw [hok, hR] at cb
              clear hok HD HD2 HM hR
              generalize blkT (entsOf es) m es.length = T at *
              have hne2 : ¬ T.toList = s.toList := fun h => hts (by
                rw [ByteArray.toList_eq, ByteArray.toList_eq] at h
                exact ByteArray.ext (Array.toList_inj.1 h))
              have hne3 : (T.toList == s.toList) = false := by simp [hne2]
              go_wp2_with fail
              refine (cb _ HR.out).mono ?_
              rintro e w2 ⟨rfl, hb2⟩
              have HB2 := hide (HW.out.1.trans (hb2.mono HW.out.1.size))
              clear hb2 cb x0 x3 HR HX HW HR'
              go_wp2
              go_ret2
              exact ⟨⟨_, _, rfl, RB.no HNO.out⟩, HB2.out⟩

end Go.Proofs.Ytljmfdcilnbjaac

/- ReadBlock of the model. -/
namespace Go.Proofs.Ytljmfdcilnbjaac
set_option maxRecDepth 100000
open Go.RowKit

theorem specBlockOf_re {w : World} {B : Nat} {v : Value} {es : List En} (m : Int) (h : RowE w B v es) (hl : es.length ≤ 1048576) :
    Calls Try.prog 8 #[v, .int .i64 m] w fun e w' => e = .returned (.tuple #[.string (blkR (entsOf es) es.length m), .bool (blkOk (entsOf es) es.length m)]) ∧ Below w.heap.size w w' := by
  obtain ⟨a, cap, rfl, hE⟩ := h.at
  exact spec_BlockOf a es.length cap (entsOf es) m w hl hE

theorem RowE.lit (w : World) (B : Nat) (hB : B ≤ w.heap.size) : RowE (w.alloc (.cells #[] 53)) B (.slice (some ⟨w.heap.size, 0, none⟩) 0 0) [] := OwnE.lit w B hB

theorem blk_many {s : ByteArray} (h : (s.size : Int) - 8 < 0 ∨ 60000 < s.size ∨ ((s.size : Int) - 8) / 4 < manyOf s) : ∀ es m, ¬ IsBlk s es m := fun es m hb => by
  obtain ⟨h1, h2, h3, h4, h5, h6⟩ := blk_parts hb
  omega

def RBEnd (s : ByteArray) (B : Nat) (e : Ending) (w : World) : Prop := ∃ v b, e = .returned (.tuple #[v, .bool b]) ∧ RB s B w v b
theorem RBEnd.mk {s : ByteArray} {B : Nat} {w : World} {v : Value} {b : Bool} (h : RB s B w v b) : RBEnd s B (.returned (.tuple #[v, .bool b])) w := ⟨v, b, rfl, h⟩

set_option maxHeartbeats 2000000 in
theorem spec_ReadBlock (s : ByteArray) (hs : s.size ≤ 1048576) (w : World) :
    Calls Try.prog 12 #[.string s] w fun e w' => RBEnd s w.heap.size e w' ∧ Below w.heap.size w w' := by
  by_cases h1 : s.size < 8
  · have HNO := hide (blk_many (s := s) (.inl (by omega)))
    have g1 : (s.size : Int) < 8 := by omega
    clear h1
    go_enter Try.func12, Try.ntmps12
    go_wp2
    go_ret2
    exact ⟨RBEnd.mk (RB.no HNO.out), Below.refl _ _⟩
  · by_cases h2 : 60000 < s.size
    · have HNO := hide (blk_many (s := s) (.inr (.inl h2)))
      have g1 : ¬ (s.size : Int) < 8 := by omega
      have g2 : (60000 : Int) < (s.size : Int) := by omega
      clear h1 h2
      go_enter Try.func12, Try.ntmps12
      go_wp2
      go_ret2
      exact ⟨RBEnd.mk (RB.no HNO.out), Below.refl _ _⟩
    · obtain ⟨a, ha⟩ : ∃ a, s.size = a + 8 := ⟨s.size - 8, by omega⟩
      have hsx : (s.size : Int) - 8 = (a : Int) := by omega
      have g1 : ¬ (s.size : Int) < 8 := by omega
      have g2 : ¬ (60000 : Int) < (s.size : Int) := by omega
      have hsl : (a : Int) ≤ (s.size : Int) := by omega
      have e1 : takeFixed (s.extract a s.size) = .tuple #[.int .u32 (manyOf s), .string (s.extract (a + 4) s.size), .bool true] := by
        have hex : (s.extract a s.size).extract 4 (s.extract a s.size).size = s.extract (a + 4) s.size := by
          rw [ByteArray.extract_extract, ByteArray.size_extract]
          congr 1
          omega
        rw [takeFixed, if_neg (by rw [ByteArray.size_extract]; omega), manyOf, show s.size - 8 = a by omega, hex]
      have e2 : takeFixed (s.extract (a + 4) s.size) = .tuple #[.int .u32 (evOf s), .string ((s.extract (a + 4) s.size).extract 4 (s.extract (a + 4) s.size).size), .bool true] := by
        rw [takeFixed, if_neg (by rw [ByteArray.size_extract]; omega), evOf, show s.size - 4 = a + 4 by omega]
      have ca := fun wx => e1 ▸ spec_TakeFixed (s.extract a s.size) wx
      have cb := fun wx => e2 ▸ spec_TakeFixed (s.extract (a + 4) s.size) wx
      obtain ⟨p0, p1⟩ := many_bd s
      obtain ⟨q0, q1⟩ := ev_bd s
      have HL : Hid (leftOf s = s.extract 0 (s.size - 8 - 4 * (manyOf s).toNat)) := rfl
      have HNO1 := hide (fun h => blk_many (s := s) (.inr (.inr h)))
      have HEV := hide (fun es m (h : IsBlk s es m) => (blk_parts h).2.2.2.1)
      have HST := hide (At.start (s := s))
      have hls : (leftOf s).size ≤ 60000 := by unfold leftOf; rw [ByteArray.size_extract]; omega
      have HH : Hid (s.size = a + 8) := ha
      clear e1 e2 ha h1 h2
      generalize manyOf s = c at *
      generalize evOf s = ev at *
      have hwc : IntKind.i64.wrap c = c := by rw [IntKind.wrap_i64]; omega
      have hwe : IntKind.i64.wrap ev = ev := by rw [IntKind.wrap_i64]; omega
      generalize (s.extract (a + 4) s.size).extract 4 (s.extract (a + 4) s.size).size = junk at cb
      go_enter Try.func12, Try.ntmps12
      go_wp2_with fail
      refine (ca _).mono ?_
      rintro e w1 ⟨rfl, hb1⟩
      have HB1 := hide hb1
      clear hb1 ca
      go_wp2_with fail
      refine (cb _).mono ?_
      rintro e w2 ⟨rfl, hb2⟩
      have HB2 := hide (HB1.out.trans (hb2.mono HB1.out.size))
      clear hb2 cb HB1
      by_cases h3 : (a : Int) / 4 < c
      · have HNO := hide (HNO1.out (by have := HH.out; omega))
        clear HNO1 HEV HST HL
        go_wp2
        go_ret2
        exact ⟨RBEnd.mk (RB.no HNO.out), HB2.out⟩
      · obtain ⟨n, rfl⟩ := Int.eq_ofNat_of_zero_le p0
        obtain ⟨d, hd⟩ : ∃ d, a = d + 4 * n := ⟨a - 4 * n, by omega⟩
        have hdi : (a : Int) - 4 * (n : Int) = (d : Int) := by omega
        have hds : (d : Int) ≤ (s.size : Int) := by omega
        have HL2 : Hid (leftOf s = s.extract 0 d) := by show _ = _; rw [HL.out]; congr 1; have := HH.out; omega
        have HLIT := hide (RowE.lit w2 w.heap.size HB2.out.size)
        have HBL : Hid (Below w.heap.size w (w2.alloc (.cells #[] 53)) ∧ w.heap.size ≤ (w2.alloc (.cells #[] 53)).heap.size) := ⟨HB2.out.trans ((below_one w2 _).mono HB2.out.size), by simp; have := HB2.out.size; omega⟩
        clear HNO1 HL hd
        generalize hlf : leftOf s = lf at *
        have HL3 := hide HL2.out.symm
        clear HL2
        go_wp2
        rw [HL3.out]
        generalize w2.alloc (.cells #[] 53) = W at HLIT HBL ⊢
        generalize w2.heap.size = g0 at HLIT ⊢
        go_loopw [10, 11, 12] (fun lv ov av wr => ∃ (left last : ByteArray) (row : List En) (k : Nat), lv = .string left ∧ av = .string last ∧ slN ov = k ∧ row.length = k ∧ k ≤ 400 ∧ last.size + left.size ≤ 60000 ∧ Hid (RowE wr w.heap.size ov row) ∧ Hid (At s row last left) ∧ Hid (Below w.heap.size w wr ∧ w.heap.size ≤ wr.heap.size)) (fun _ ov _ _ => 401 - slN ov)
        case atStart => exact ⟨lf, _, [], 0, rfl, rfl, rfl, rfl, by omega, by show 0 + _ ≤ _; omega, HLIT, HST, HBL⟩
        case round =>
          obtain ⟨left, last, row, k, rfl, rfl, hk, hrk, hk4, hsz, HR, HA, HW⟩ := hrel
          clear HLIT HBL
          obtain ⟨ar, cap, hov, _⟩ := HR.out.at
          subst hov
          have he := isEmpty_size left
          by_cases hl : left.size = 0
          · obtain rfl := empty_ba hl
            have hq1 : (⟨#[]⟩ : ByteArray).toList = [] := by rw [ByteArray.toList_eq]
            have hq2 : (⟨#[]⟩ : ByteArray).toList.isEmpty = true := by rw [isEmpty_size]; rfl
            have HDN := hide (fun es m (h : IsBlk s es m) => HA.out.done hl h)
            have cb := fun wx hx => specBlockOf_re (w := wx) (B := w.heap.size) (v := .slice ar row.length cap) (es := row) ev hx (by omega)
            clear hk hrk he HA HST
            cases hok : blkOk (entsOf row) row.length ev with
            | false =>
              have HNO : Hid (∀ es m, ¬ IsBlk s es m) := fun es m h => by
                have e1 := HDN.out es m h
                have e2 := HEV.out es m h
                have := h.1
                rw [← e1, ← e2, hok] at this
                cases this
              rw [hok] at cb
              clear hok HDN HEV
              generalize blkR (entsOf row) row.length ev = T at *
              go_wp2_with fail
              refine (cb _ HR.out).mono ?_
              rintro e w3 ⟨rfl, hb3⟩
              have HB3 := hide (HW.out.1.trans (hb3.mono HW.out.2))
              clear hb3 cb HR HW
              go_wp2
              go_ret2
              exact ⟨RBEnd.mk (RB.no HNO.out), HB3.out⟩
            | true =>
              have hR : blkR (entsOf row) row.length ev = blkT (entsOf row) ev.toNat row.length := by rw [blkR, hok]; rfl
              by_cases hts : blkT (entsOf row) ev.toNat row.length = s
              · have HB : Hid (∃ m, IsBlk s row m) := ⟨ev.toNat, by rw [show ((ev.toNat : Nat) : Int) = ev by omega]; exact hok, hts⟩
                rw [hok, hR, hts] at cb
                clear hok HDN HEV hR hts
                go_wp2_with fail
                refine (cb _ HR.out).mono ?_
                rintro e w3 ⟨rfl, hb3⟩
                have HB3 := hide (HW.out.1.trans (hb3.mono HW.out.2))
                have HR3 := hide (HR.out.next hb3)
                clear hb3 cb HR HW
                go_wp2
                go_ret2
                obtain ⟨m, hm⟩ := HB.out
                exact ⟨RBEnd.mk (.inl ⟨rfl, row, m, hm, HR3.out⟩), HB3.out⟩
              · have HNO : Hid (∀ es m, ¬ IsBlk s es m) := fun es m h => by
                  have e1 := HDN.out es m h
                  have e2 := HEV.out es m h
                  have := h.2
                  rw [← e1, show m = ev.toNat by omega] at this
                  exact hts this
                rw [hok, hR] at cb
                clear hok HDN HEV hR
                generalize blkT (entsOf row) ev.toNat row.length = T at *
                have hne2 : ¬ T.toList = s.toList := fun h => hts (by
                  rw [ByteArray.toList_eq, ByteArray.toList_eq] at h
                  exact ByteArray.ext (Array.toList_inj.1 h))
                have hne3 : (T.toList == s.toList) = false := by simp [hne2]
                go_wp2_with fail
                refine (cb _ HR.out).mono ?_
                rintro e w3 ⟨rfl, hb3⟩
                have HB3 := hide (HW.out.1.trans (hb3.mono HW.out.2))
                clear hb3 cb HR HW
                go_wp2
                go_ret2
                exact ⟨RBEnd.mk (RB.no HNO.out), HB3.out⟩
          · have he2 : left.toList.isEmpty = false := by rw [he]; exact decide_eq_false hl
            have hne : ¬ left.toList = [] := fun h => by rw [h] at he2; cases he2
            have HS := hide (fun es m (h : IsBlk s es m) => HA.out.step hl h)
            have HNX := hide (fun (T R u x : ByteArray) (q kk : Int) h1 h2 h3 h4 => HA.out.next hl (T := T) (R := R) (u := u) (x := x) (q := q) (k := kk) h1 h2 h3 h4)
            have b1 := vPart_bd left
            have cv := fun wx => takeVar_v left ▸ spec_TakeVar left (by unfold maxLen; omega) wx
            generalize vPart left = V at *
            obtain ⟨sh, ra, ok1⟩ := V
            simp only at *
            have b2 := rtext_sum ra
            have ct := fun wx => takeText_v ra ▸ spec_TakeText ra (by omega) wx
            generalize rtext ra = X1 at *
            obtain ⟨more, rb, lost1⟩ := X1
            simp only at *
            have b3 := rtext_sum rb
            have cu := fun wx => takeText_v rb ▸ spec_TakeText rb (by omega) wx
            generalize rtext rb = X2 at *
            obtain ⟨val, rc, lost2⟩ := X2
            simp only at *
            have hk0 : slN (.slice ar row.length cap) = row.length := rfl
            clear he hk hrk
            go_wp2_with fail
            refine (cv _).mono ?_
            rintro e w3 ⟨rfl, hb3⟩
            have HR3 := hide (HR.out.next hb3)
            have HW3 : Hid (Below w.heap.size w w3 ∧ w.heap.size ≤ w3.heap.size) := ⟨HW.out.1.trans (hb3.mono HW.out.2), Nat.le_trans HW.out.2 hb3.size⟩
            clear hb3 cv HR HW
            go_wp2_with fail
            refine (ct _).mono ?_
            rintro e w4 ⟨rfl, hb4⟩
            have HR4' := hide (HR3.out.next hb4)
            have HW4' : Hid (Below w.heap.size w w4 ∧ w.heap.size ≤ w4.heap.size) := ⟨HW3.out.1.trans (hb4.mono HW3.out.2), Nat.le_trans HW3.out.2 hb4.size⟩
            clear hb4 ct HR3 HW3
            go_wp2_with fail
            refine (cu _).mono ?_
            rintro e w5 ⟨rfl, hb5⟩
            have HR4 := hide (HR4'.out.next hb5)
            have HW4 : Hid (Below w.heap.size w w5 ∧ w.heap.size ≤ w5.heap.size) := ⟨HW4'.out.1.trans (hb5.mono HW4'.out.2), Nat.le_trans HW4'.out.2 hb5.size⟩
            clear hb5 cu HR4' HW4'
            cases ok1 with
            | false =>
              have HNO : Hid (∀ es m, ¬ IsBlk s es m) := fun es m h => by have := (HS.out es m h).1; cases this
              clear HS HNX HA HEV HST
              go_wp2
              go_ret2
              exact ⟨RBEnd.mk (RB.no HNO.out), HW4.out.1⟩
            | true =>
              cases lost1 with
              | true =>
                have HNO : Hid (∀ es m, ¬ IsBlk s es m) := fun es m h => by have := (HS.out es m h).2.1; cases this
                clear HS HNX HA HEV HST
                go_wp2
                go_ret2
                exact ⟨RBEnd.mk (RB.no HNO.out), HW4.out.1⟩
              | false =>
                cases lost2 with
                | true =>
                  have HNO : Hid (∀ es m, ¬ IsBlk s es m) := fun es m h => by have := (HS.out es m h).2.2.1; cases this
                  clear HS HNX HA HEV HST
                  go_wp2
                  go_ret2
                  exact ⟨RBEnd.mk (RB.no HNO.out), HW4.out.1⟩
                | false =>
                  have hwl : IntKind.u64.wrap (last.size : Int) = (last.size : Int) := by rw [IntKind.wrap_u64]; omega
                  by_cases hsh : (last.size : Int) < sh
                  · have HNO : Hid (∀ es m, ¬ IsBlk s es m) := fun es m h => by have := (HS.out es m h).2.2.2.1; omega
                    clear HS HNX HA HEV HST
                    go_wp2
                    go_ret2
                    exact ⟨RBEnd.mk (RB.no HNO.out), HW4.out.1⟩
                  · obtain ⟨sn, rfl⟩ := Int.eq_ofNat_of_zero_le b1.1
                    have hsn : sn ≤ last.size := by omega
                    have hsni : (sn : Int) ≤ (last.size : Int) := by omega
                    have hT : Hid (∃ T, last.extract 0 sn ++ more = T) := ⟨_, rfl⟩
                    rw [Int.toNat_natCast] at HS HNX
                    have hTz : (last.extract 0 sn).size + more.size + rc.size ≤ last.size + left.size := by rw [ByteArray.size_extract]; omega
                    have hTs : (last.extract 0 sn ++ more).size = (last.extract 0 sn).size + more.size := ByteArray.size_append
                    have hadd : ∀ wx : World, (Op.stringOp .add (last.extract 0 sn) more).run Try.prog wx = .ok (.string (last.extract 0 sn ++ more)) wx := fun wx => run_string_add_sum wx _ _ (by omega)
                    obtain ⟨T, hT⟩ := hT.out
                    rw [hT] at hadd hTs HS
                    have ck := fun wx => rk_eq T ▸ spec_ReadKey T (by omega) wx
                    have HNX2 := hide (fun u q kk h => HNX.out T rc u val q kk hT h rfl rfl)
                    clear hT HNX b1 hsn
                    generalize rkB T = right at *
                    generalize hrk : rkE T = KE at *
                    obtain ⟨u, q, kk⟩ := KE
                    simp only at *
                    have HNX3 := hide (HNX2.out u q kk rfl)
                    clear HNX2
                    go_wp2_with fail
                    refine (ck _).mono ?_
                    rintro e w6 ⟨rfl, hb6⟩
                    have hbk := hb6.trans ((below_one w6 (.cells #[.string u, .int .i64 q, .int .i64 kk] 34)).mono hb6.size)
                    have HR6 := hide (HR4.out.next hbk)
                    have HW6 : Hid (Below w.heap.size w (w6.alloc (.cells #[.string u, .int .i64 q, .int .i64 kk] 34)) ∧ w.heap.size ≤ (w6.alloc (.cells #[.string u, .int .i64 q, .int .i64 kk] 34)).heap.size) := ⟨HW4.out.1.trans (hbk.mono HW4.out.2), Nat.le_trans HW4.out.2 hbk.size⟩
                    clear hb6 hbk ck HR4 HW4 hadd
                    cases right with
                    | false =>
                      have HNO : Hid (∀ es m, ¬ IsBlk s es m) := fun es m h => by have := (HS.out es m h).2.2.2.2.1; cases this
                      clear HS HNX3 HA HEV HST
                      go_wp2
                      go_ret2
                      exact ⟨RBEnd.mk (RB.no HNO.out), HW6.out.1⟩
                    | true =>
                      by_cases hfull : (400 : Int) ≤ (row.length : Int)
                      · have HNO : Hid (∀ es m, ¬ IsBlk s es m) := fun es m h => by have := (HS.out es m h).2.2.2.2.2.1; omega
                        clear HS HNX3 HA HEV HST
                        go_wp2
                        go_ret2
                        exact ⟨RBEnd.mk (RB.no HNO.out), HW6.out.1⟩
                      · have hsrc := srcOne (w6.alloc (.cells #[.string u, .int .i64 q, .int .i64 kk] 34)) u q kk val
                        have hsz6 : (w6.alloc (.cells #[.string u, .int .i64 q, .int .i64 kk] 34)).heap.size = w6.heap.size + 1 := by simp
                        rw [hsz6] at hsrc
                        have hbe := below_one (w6.alloc (.cells #[.string u, .int .i64 q, .int .i64 kk] 34)) (.cells #[.string u, .int .i64 q, .int .i64 kk, .string val] 53)
                        have HR7 := hide (HR6.out.next hbe)
                        have hB7 := Nat.le_trans HW6.out.2 hbe.size
                        have HW7 := hide (HW6.out.1.trans (hbe.mono HW6.out.2))
                        clear hbe HR6 HS HA hsz6
                        go_wp2_with (at_builtin; refine wpList_append_re rfl _ _ 24 rfl Try.underlying24 w.heap.size _ row [⟨u, q, kk, val⟩] (by rfl) HR7.out ⟨w6.heap.size + 1, 0, none⟩ 1 1 (by rfl) rfl hsrc hB7 (by omega) ?_)
                        intro v' w8 hR8 hb8
                        have hl8 : slN v' = row.length + 1 := by
                          obtain ⟨a', c', rfl, _⟩ := hR8.at
                          show (row ++ [_]).length = _
                          rw [List.length_append]; rfl
                        have HR8 := hide hR8
                        have HW8 : Hid (Below w.heap.size w w8 ∧ w.heap.size ≤ w8.heap.size) := ⟨HW7.out.trans hb8, Nat.le_trans hB7 hb8.size⟩
                        have hlen : (row ++ [(⟨u, q, kk, val⟩ : En)]).length = row.length + 1 := by rw [List.length_append]; rfl
                        clear hR8 hb8 HR7 HW6 HW7 hB7 hsrc
                        go_wp2
                        exact ⟨⟨rc, T, _, row.length + 1, rfl, rfl, hl8, hlen, by omega, by omega, HR8, HNX3, HW8⟩, by rw [hk0]; simp only [hl8]; omega⟩

end Go.Proofs.Ytljmfdcilnbjaac

/- The law on ReadBlock. -/
namespace Go.Proofs.Ytljmfdcilnbjaac
set_option maxRecDepth 100000
open Go.RowKit

/-- The one row (or none) that bytes are the block of, and whether there is one. -/
theorem rb_can (s : ByteArray) : ∃ (es : List En) (b : Bool), es.length ≤ 400 ∧ ∀ (B : Nat) (w : World) (v : Value) (c : Bool), RB s B w v c → c = b ∧ RowE w B v es := by
  by_cases hex : ∃ es m, IsBlk s es m
  · obtain ⟨es, m, h⟩ := hex
    refine ⟨es, true, (blkOk_out h.1).2.2.1, fun B w v c hr => ?_⟩
    rcases hr with ⟨rfl, es', m', h', ho⟩ | ⟨_, _, hn⟩
    · rw [blk_one h h']; exact ⟨rfl, ho⟩
    · exact absurd h (hn es m)
  · refine ⟨[], false, by simp, fun B w v c hr => ?_⟩
    rcases hr with ⟨_, es', m', h', _⟩ | ⟨rfl, rfl, _⟩
    · exact absurd ⟨es', m', h'⟩ hex
    · exact ⟨rfl, RowE.nil _ _⟩

theorem RowE.mark {w : World} {B : Nat} {v : Value} {es : List En} (h : RowE w B v es) (g0 : Nat) : ∃ a cap g, v = .slice a es.length cap ∧ EntAt w w.heap.size a es.length (entsOf es) ∧ (es.length = 0 ∨ a = some ⟨g, 0, none⟩) ∧ (g = g0 ∨ B ≤ g ∧ g < w.heap.size) ∧
    ∀ j, j < es.length * 4 → (∃ v, w.cell? ⟨g, j, none⟩ = some v) ∧ w.frozen? ⟨g, j, none⟩ = false := by
  rcases h.2 with ⟨hn, h0⟩ | ⟨g, cap', cur, hv', hg, hh, hle, hcap, hsz, htake⟩
  · exact ⟨none, 0, g0, by rw [hn, h0], .inl h0, .inl h0, .inl rfl, fun j hj => absurd hj (by omega)⟩
  · have hlt : g < w.heap.size := (Array.getElem?_eq_some_iff.1 hh).1
    have hE : OwnE w B g cap' es := by subst hv'; exact h
    refine ⟨_, cap', g, hv', hE.entAt, .inr rfl, .inr ⟨hg, hlt⟩, fun j hj => ?_⟩
    have hb : BoxIs w g cur 53 := hh
    have hj2 : j < cur.size := by rw [hsz]; omega
    exact ⟨⟨cur[j], by rw [hb.cell j]; exact Array.getElem?_eq_getElem hj2⟩, hb.free j⟩

theorem wr_next {w w' : World} {g n : Nat} (hb : Below w.heap.size w w') (h : ∀ j, j < n → (∃ v, w.cell? ⟨g, j, none⟩ = some v) ∧ w.frozen? ⟨g, j, none⟩ = false) : ∀ j, j < n → (∃ v, w'.cell? ⟨g, j, none⟩ = some v) ∧ w'.frozen? ⟨g, j, none⟩ = false := fun j hj => by
  obtain ⟨⟨v, hv⟩, hf⟩ := h j hj
  exact ⟨⟨v, keepc hb hv⟩, (hb.frozen (p := ⟨g, j, none⟩) (World.block_lt_of_cell? _ ⟨g, j, none⟩ hv)).trans hf⟩

/-- The canonical answer, as a call gives it. -/
def RBc (es : List En) (b : Bool) (B : Nat) (e : Ending) (w : World) : Prop := ∃ v, e = .returned (.tuple #[v, .bool b]) ∧ RowE w B v es

end Go.Proofs.Ytljmfdcilnbjaac

/- BlockSeek, of the program and of the model; the law on it. -/
namespace Go.Proofs.Ytljmfdcilnbjaac
set_option maxRecDepth 100000
open Go.RowKit

/-- The place that is told of a key in the row es; none where b is false or the key is not right. -/
def BSk (es : List En) (b : Bool) (u : ByteArray) (q k : Int) (r : Int) (c : Bool) : Prop :=
  if (b && keyOkB u q k) = true then c = true ∧ SeekAt (entsOf es) es.length u q k r else c = false ∧ r = 0
theorem bsk_one {es : List En} {b : Bool} {u : ByteArray} {q k r r' : Int} {c c' : Bool} (h : BSk es b u q k r c) (h' : BSk es b u q k r' c') : r = r' ∧ c = c' := by
  unfold BSk at h h'
  split at h
  · rename_i hc
    rw [if_pos hc] at h'
    exact ⟨seekAt_one h.2 h'.2, h.1.trans h'.1.symm⟩
  · rename_i hc
    rw [if_neg hc] at h'
    exact ⟨h.2.trans h'.2.symm, h.1.trans h'.1.symm⟩
def BSkE (es : List En) (b : Bool) (u : ByteArray) (q k : Int) (e : Ending) : Prop := ∃ r c, e = .returned (.tuple #[.int .i64 r, .bool c]) ∧ BSk es b u q k r c
theorem BSkE.no1 {es : List En} {u : ByteArray} {q k : Int} : BSkE es false u q k (.returned (.tuple #[.int .i64 0, .bool false])) := ⟨_, _, rfl, by unfold BSk; simp⟩
theorem BSkE.no2 {es : List En} {b : Bool} {u : ByteArray} {q k : Int} (h : keyOkB u q k = false) : BSkE es b u q k (.returned (.tuple #[.int .i64 0, .bool false])) := ⟨_, _, rfl, by unfold BSk; simp [h]⟩
theorem BSkE.yes {es : List En} {u : ByteArray} {q k r : Int} (h : keyOkB u q k = true) (hs : SeekAt (entsOf es) es.length u q k r) : BSkE es true u q k (.returned (.tuple #[.int .i64 r, .bool true])) := ⟨_, _, rfl, by unfold BSk; rw [if_pos (by simp [h])]; exact ⟨rfl, hs⟩⟩

set_option maxHeartbeats 1000000 in
theorem impl_BlockSeekC (s : ByteArray) (es : List En) (b : Bool) (u : ByteArray) (q k : Int) (hel : es.length ≤ 400) (cr : ∀ wx, Calls Try.prog 9 #[.string s] wx fun e w' => RBc es b wx.heap.size e w' ∧ Below wx.heap.size wx w') (w : World) :
    Calls Try.prog 14 #[.string s, .agg #[.string u, .int .i64 q, .int .i64 k]] w fun e w' => BSkE es b u q k e ∧ Below w.heap.size w w' := by
  have HB0 := hide (below_one w (.cells #[.string u, .int .i64 q, .int .i64 k] 34))
  have HX0 := hide (BoxIs.new w #[.string u, .int .i64 q, .int .i64 k] 34 rfl)
  have cq := fun wx a c (h : EntAt wx wx.heap.size a es.length (entsOf es)) => impl_SeekEntry a es.length c (entsOf es) u q k wx (by omega) h
  have ck := fun wx => impl_KeyOk u q k wx
  go_enter Try.func14, Try.ntmps14
  go_wp2_with fail
  generalize w.alloc (.cells #[.string u, .int .i64 q, .int .i64 k] 34) = W at HB0 HX0 ⊢
  refine (cr _).mono ?_
  rintro e w1 ⟨⟨v, rfl, ho⟩, hb1⟩
  obtain ⟨a, c, rfl, hE⟩ := ho.at
  have HE := hide hE
  have HB1 := hide (HB0.out.trans (hb1.mono HB0.out.size))
  have HX1 := hide (HX0.out.next hb1)
  clear hb1 HB0 HX0 cr ho hE
  cases b with
  | false =>
    clear ck cq
    go_wp2
    go_ret2
    exact ⟨BSkE.no1, HB1.out⟩
  | true =>
    obtain ⟨x0, x1, x2⟩ : w1.cell? ⟨w.heap.size, 0, none⟩ = some (.string u) ∧ w1.cell? ⟨w.heap.size, 1, none⟩ = some (.int .i64 q) ∧ w1.cell? ⟨w.heap.size, 2, none⟩ = some (.int .i64 k) := ⟨HX1.out.cell 0, HX1.out.cell 1, HX1.out.cell 2⟩
    cases hk : keyOkB u q k with
    | false =>
      rw [hk] at ck
      have HN := hide (BSkE.no2 (es := es) (b := true) hk)
      clear hk cq
      go_wp2_with fail
      refine (ck _).mono ?_
      rintro e w2 ⟨rfl, hb2⟩
      have HB2 := hide (HB1.out.trans (hb2.mono HB1.out.size))
      clear hb2 HB1 HX1 x0 x1 x2 ck
      go_wp2
      go_ret2
      exact ⟨HN.out, HB2.out⟩
    | true =>
      rw [hk] at ck
      have HY := hide (fun r h => BSkE.yes (es := es) (r := r) hk h)
      clear hk
      go_wp2_with fail
      refine (ck _).mono ?_
      rintro e w2 ⟨rfl, hb2⟩
      have HB2 := hide (HB1.out.trans (hb2.mono HB1.out.size))
      have HX2 := hide (HX1.out.next hb2)
      have HE2 := hide (HE.out.keep hb2)
      clear hb2 HB1 HX1 x0 x1 x2 ck HE
      obtain ⟨x0, x1, x2⟩ : w2.cell? ⟨w.heap.size, 0, none⟩ = some (.string u) ∧ w2.cell? ⟨w.heap.size, 1, none⟩ = some (.int .i64 q) ∧ w2.cell? ⟨w.heap.size, 2, none⟩ = some (.int .i64 k) := ⟨HX2.out.cell 0, HX2.out.cell 1, HX2.out.cell 2⟩
      go_wp2_with fail
      refine (cq _ _ _ HE2.out).mono ?_
      rintro e w3 ⟨⟨r, rfl, hr⟩, hb3⟩
      have HR := hide hr
      have HB3 := hide (HB2.out.trans (hb3.mono HB2.out.size))
      clear hb3 hr HB2 HX2 x0 x1 x2 cq HE2
      go_wp2
      go_ret2
      exact ⟨HY.out r HR.out, HB3.out⟩

set_option maxHeartbeats 1000000 in
theorem spec_BlockSeekC (s : ByteArray) (es : List En) (b : Bool) (u : ByteArray) (q k : Int) (hel : es.length ≤ 400) (cr : ∀ wx, Calls Try.prog 12 #[.string s] wx fun e w' => RBc es b wx.heap.size e w' ∧ Below wx.heap.size wx w') (w : World) :
    Calls Try.prog 15 #[.string s, .agg #[.string u, .int .i64 q, .int .i64 k]] w fun e w' => BSkE es b u q k e ∧ Below w.heap.size w w' := by
  have HB0 := hide (below_one w (.cells #[.string u, .int .i64 q, .int .i64 k] 34))
  have HX0 := hide (BoxIs.new w #[.string u, .int .i64 q, .int .i64 k] 34 rfl)
  have cq := fun wx a c (h : EntAt wx wx.heap.size a es.length (entsOf es)) => spec_SeekEntry a es.length c (entsOf es) u q k wx (by omega) h
  have ck := fun wx => spec_KeyOk u q k wx
  go_enter Try.func15, Try.ntmps15
  go_wp2_with fail
  generalize w.alloc (.cells #[.string u, .int .i64 q, .int .i64 k] 34) = W at HB0 HX0 ⊢
  refine (cr _).mono ?_
  rintro e w1 ⟨⟨v, rfl, ho⟩, hb1⟩
  obtain ⟨a, c, rfl, hE⟩ := ho.at
  have HE := hide hE
  have HB1 := hide (HB0.out.trans (hb1.mono HB0.out.size))
  have HX1 := hide (HX0.out.next hb1)
  clear hb1 HB0 HX0 cr ho hE
  cases b with
  | false =>
    clear ck cq
    go_wp2
    go_ret2
    exact ⟨BSkE.no1, HB1.out⟩
  | true =>
    obtain ⟨x0, x1, x2⟩ : w1.cell? ⟨w.heap.size, 0, none⟩ = some (.string u) ∧ w1.cell? ⟨w.heap.size, 1, none⟩ = some (.int .i64 q) ∧ w1.cell? ⟨w.heap.size, 2, none⟩ = some (.int .i64 k) := ⟨HX1.out.cell 0, HX1.out.cell 1, HX1.out.cell 2⟩
    cases hk : keyOkB u q k with
    | false =>
      rw [hk] at ck
      have HN := hide (BSkE.no2 (es := es) (b := true) hk)
      clear hk cq
      go_wp2_with fail
      refine (ck _).mono ?_
      rintro e w2 ⟨rfl, hb2⟩
      have HB2 := hide (HB1.out.trans (hb2.mono HB1.out.size))
      clear hb2 HB1 HX1 x0 x1 x2 ck
      go_wp2
      go_ret2
      exact ⟨HN.out, HB2.out⟩
    | true =>
      rw [hk] at ck
      have HY := hide (fun r h => BSkE.yes (es := es) (r := r) hk h)
      clear hk
      go_wp2_with fail
      refine (ck _).mono ?_
      rintro e w2 ⟨rfl, hb2⟩
      have HB2 := hide (HB1.out.trans (hb2.mono HB1.out.size))
      have HX2 := hide (HX1.out.next hb2)
      have HE2 := hide (HE.out.keep hb2)
      clear hb2 HB1 HX1 x0 x1 x2 ck HE
      obtain ⟨x0, x1, x2⟩ : w2.cell? ⟨w.heap.size, 0, none⟩ = some (.string u) ∧ w2.cell? ⟨w.heap.size, 1, none⟩ = some (.int .i64 q) ∧ w2.cell? ⟨w.heap.size, 2, none⟩ = some (.int .i64 k) := ⟨HX2.out.cell 0, HX2.out.cell 1, HX2.out.cell 2⟩
      go_wp2_with fail
      refine (cq _ _ _ HE2.out).mono ?_
      rintro e w3 ⟨⟨r, rfl, hr⟩, hb3⟩
      have HR := hide hr
      have HB3 := hide (HB2.out.trans (hb3.mono HB2.out.size))
      clear hb3 hr HB2 HX2 x0 x1 x2 cq HE2
      go_wp2
      go_ret2
      exact ⟨HY.out r HR.out, HB3.out⟩

end Go.Proofs.Ytljmfdcilnbjaac
