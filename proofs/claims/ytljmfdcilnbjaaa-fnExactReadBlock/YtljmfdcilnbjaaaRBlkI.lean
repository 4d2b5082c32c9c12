/- ReadBlock of the program. -/
import Derived.Test.YtljmfdcilnbjaaaBRo
namespace Go.Proofs.Ytljmfdcilnbjaaa
set_option maxRecDepth 100000
open Go.RowKit

theorem implBlockOf_re {w : World} {B : Nat} {v : Value} {es : List En} (m : Int) (h : RowE w B v es) (hl : es.length ≤ 1048576) :
    Calls Try.prog 17 #[v, .int .i64 m] w fun e w' => e = .returned (.tuple #[.string (blkR (entsOf es) es.length m), .bool (blkOk (entsOf es) es.length m)]) ∧ Below w.heap.size w w' := by
  obtain ⟨a, cap, rfl, hE⟩ := h.at
  exact impl_BlockOf a es.length cap (entsOf es) m w hl hE

set_option maxHeartbeats 1000000 in
theorem impl_ReadBlock (s : ByteArray) (hs : s.size ≤ 1048576) (w : World) :
    Calls Try.prog 20 #[.string s] w fun e w' => (∃ v b, e = .returned (.tuple #[v, .bool b]) ∧ RB s w.heap.size w' v b) ∧ Below w.heap.size w w' := by
  have cr := fun wx => impl_blockReaderOf s hs wx
  cases hb : broOk s with
  | false =>
    have HN := hide (bro_no hb)
    rw [broV_no hb] at cr
    clear hb
    go_enter Try.func20, Try.ntmps20
    go_wp2_with fail
    refine (cr _).mono ?_
    rintro e w1 ⟨rfl, hb1⟩
    have HB1 := hide (hb1.trans ((below_one w1 (.cells #[.int .i64 0, .int .i64 0, .string ⟨#[]⟩, .string ⟨#[]⟩, .bool false] 89)).mono hb1.size))
    clear hb1 cr
    go_wp2
    go_ret2
    exact ⟨⟨_, _, rfl, RB.no HN.out⟩, HB1.out⟩
  | true =>
    rw [broV_yes hb] at cr
    obtain ⟨h8, h60, _, hev⟩ := bro_out hb
    obtain ⟨m, hm, hm1, hm2⟩ := every_nat hev
    have HM := hide (fun es m' (h : IsBlk s es m') => (blk_parts h).2.2.2.1)
    rw [hm] at cr HM
    have hls : (leftOf s).size ≤ 60000 := by unfold leftOf; rw [ByteArray.size_extract]; omega
    have HSZ := hide (fun k => rdk_size m (leftOf s) k)
    have HLN := hide (fun k => rdk_len m (leftOf s) k)
    have HDONE := hide (fun es k (h : IsBlk s es m) h1 h2 => blk_done (k := k) h h1 h2)
    generalize leftOf s = r0 at *
    clear hb hev hm
    go_enter Try.func20, Try.ntmps20
    go_wp2_with fail
    refine (cr _).mono ?_
    rintro e w1 ⟨rfl, hb1⟩
    have HB1 := hide (hb1.trans ((below_one w1 (.cells #[.int .i64 m, .int .i64 0, .string ⟨#[]⟩, .string r0, .bool false] 89)).mono hb1.size))
    have HX1 := hide (BoxIs.new w1 #[.int .i64 m, .int .i64 0, .string ⟨#[]⟩, .string r0, .bool false] 89 rfl)
    have hF : w.heap.size ≤ w1.heap.size := hb1.size
    have hz1 : w1.heap.size + 1 ≤ (w1.alloc (.cells #[.int .i64 m, .int .i64 0, .string ⟨#[]⟩, .string r0, .bool false] 89)).heap.size := by simp
    clear hb1 cr
    go_wp2
    generalize w1.alloc (.cells #[.int .i64 m, .int .i64 0, .string ⟨#[]⟩, .string r0, .bool false] 89) = W at HB1 HX1 hz1 ⊢
    generalize w1.heap.size = F at HX1 hF hz1 ⊢
    go_loopw [6] (fun v wr => ∃ (k : Nat) (l : Bool), slN v = k ∧ k ≤ 401 ∧ Hid (RowE wr (F + 1) v (rdk m r0 k).1) ∧ Hid (BoxIs wr F #[.int .i64 m, .int .i64 k, .string (rdk m r0 k).2.1, .string (rdk m r0 k).2.2, .bool l] 89) ∧ Hid (∀ j, j < k → (rdk m r0 j).2.2.size ≠ 0) ∧ Hid (Below w.heap.size w wr ∧ F + 1 ≤ wr.heap.size)) (fun v _ => 401 - slN v)
    case atStart => exact ⟨0, false, rfl, by omega, RowE.nil _ _, HX1, fun j hj => absurd hj (by omega), ⟨HB1.out, hz1⟩⟩
    case round =>
      obtain ⟨k, l, hk, hk4, HR, HX, HG, HW⟩ := hrel
      clear HB1 HX1 hz1
      have hsz := HSZ.out k
      have hln := HLN.out k
      have HRD : Hid (rdk m r0 (k + 1) = ((rdk m r0 k).1 ++ [nxE m k (rdk m r0 k).2.1 (rdk m r0 k).2.2], nxT m k (rdk m r0 k).2.1 (rdk m r0 k).2.2, nxR (rdk m r0 k).2.2)) := rfl
      have HD := hide (fun es h => HDONE.out es k h)
      have HGN : Hid ((rdk m r0 k).2.2.size ≠ 0 → ∀ j, j < k + 1 → (rdk m r0 j).2.2.size ≠ 0) := fun h j hj => by
        rcases Nat.lt_or_eq_of_le (Nat.le_of_lt_succ hj) with h1 | h1
        · exact HG.out j h1
        · subst h1; exact h
      generalize hD : rdk m r0 k = D at *
      obtain ⟨es, ah, r⟩ := D
      simp only at *
      obtain ⟨a, cap, rfl, _⟩ := HR.out.at
      have hkn : es.length = k := hln
      have hk' : slN (.slice a es.length cap) = es.length := rfl
      have he := isEmpty_size r
      have x3 : wr.cell? ⟨F, 3, none⟩ = some (.string r) := HX.out.cell 3
      by_cases hgo : r.size ≠ 0 ∧ k ≤ 400
      · have hki : (es.length : Int) ≤ 400 := by omega
        have he2 : r.toList.isEmpty = false := by rw [he]; exact decide_eq_false hgo.1
        have hne : ¬ r.toList = [] := fun h => by rw [h] at he2; cases he2
        have HGN2 := hide (HGN.out hgo.1)
        have cn := fun wx l' hx => blk_next wx F m k ah r l' hm1 (by omega) (by omega) hx
        clear he hgo HGN
        go_wp2_with fail
        refine (cn wr l HX.out).mono ?_
        rintro e w2 ⟨rfl, ⟨l', hx2⟩, hm2'⟩
        have HX2 := hide hx2
        have HR2 := hide (HR.out.mv hm2' (Nat.lt_succ_self F))
        have HW2 : Hid (Below w.heap.size w w2 ∧ F + 1 ≤ w2.heap.size) := ⟨HW.out.1.trans (hm2'.below HW.out.1.size hF), Nat.le_trans HW.out.2 hm2'.size⟩
        clear hx2 hm2' cn x3 HX HR HW
        generalize hN : nxE m k ah r = N at *
        obtain ⟨u, q, kk, x⟩ := N
        simp only
        have hb3 := below_one w2 (.cells #[.string u, .int .i64 q, .int .i64 kk, .string x] 63)
        have HX3 := hide (HX2.out.next hb3)
        have HR3 := hide (HR2.out.next hb3)
        have hB3 : F + 1 ≤ (w2.alloc (.cells #[.string u, .int .i64 q, .int .i64 kk, .string x] 63)).heap.size := Nat.le_trans HW2.out.2 hb3.size
        have HW3 := hide (HW2.out.1.trans (hb3.mono HW2.out.1.size))
        have hsrc := srcOne w2 u q kk x
        clear hb3 HX2 HR2 HW2
        go_wp2_with (at_builtin; refine wpList_append_re rfl _ _ 34 rfl Try.underlying34 (F + 1) _ es [⟨u, q, kk, x⟩] (by rfl) HR3.out ⟨w2.heap.size, 0, none⟩ 1 1 (by rfl) rfl hsrc hB3 (by omega) ?_)
        intro v' w4 hR4 hb4
        have hl4 : slN v' = k + 1 := by
          obtain ⟨a', c', rfl, _⟩ := hR4.at
          show (es ++ [_]).length = _
          rw [List.length_append, hkn]; rfl
        have HR4 : Hid (RowE w4 (F + 1) v' (rdk m r0 (k + 1)).1) := by rw [HRD.out]; exact hR4
        have HX4 : Hid (BoxIs w4 F #[.int .i64 m, .int .i64 ((k + 1 : Nat) : Int), .string (rdk m r0 (k + 1)).2.1, .string (rdk m r0 (k + 1)).2.2, .bool l'] 89) := by rw [HRD.out]; exact HX3.out.below hb4 (Nat.lt_succ_self F)
        have HW4 : Hid (Below w.heap.size w w4 ∧ F + 1 ≤ w4.heap.size) := ⟨HW3.out.trans (hb4.mono (by omega)), Nat.le_trans hB3 hb4.size⟩
        clear hR4 hb4 HR3 HX3 HW3 hB3 hsrc
        go_wp2
        exact ⟨⟨k + 1, l', hl4, by omega, HR4, HX4, HGN2, HW4⟩, by rw [hk'] ; simp only [hl4]; omega⟩
      · have hstop : r.size = 0 ∨ k = 401 := by omega
        have HD2 := hide (fun e' h => HD.out e' h hstop HG.out)
        have x0 : wr.cell? ⟨F, 0, none⟩ = some (.int .i64 m) := HX.out.cell 0
        have cb := fun wx hx => implBlockOf_re (w := wx) (B := F + 1) (v := .slice a es.length cap) (es := es) (m : Int) hx (by omega)
        by_cases hr0 : r.size = 0
        · obtain rfl := empty_ba hr0
          clear he HGN HG hgo hstop hr0 hln hkn hk hk'
          have HR' := hide (HR.out.low (B' := w.heap.size) (by omega))
          cases hok : blkOk (entsOf es) es.length (m : Int) with
          | false =>
            have HNO : Hid (∀ e' m', ¬ IsBlk s e' m') := fun e' m' h => by
              have e0 := HM.out e' m' h
              obtain rfl : m = m' := by omega
              obtain ⟨e1, _⟩ := HD2.out e' h
              have := h.1
              rw [← e1, hok] at this
              cases this
            rw [hok] at cb
            clear hok HD HD2 HM HDONE
            generalize blkR (entsOf es) es.length (m : Int) = T at *
            go_wp2_with fail
            refine (cb _ HR.out).mono ?_
            rintro e w2 ⟨rfl, hb2⟩
            have HB2 := hide (HW.out.1.trans (hb2.mono HW.out.1.size))
            clear hb2 cb x0 x3 HR HX HW HR'
            go_wp2
            go_ret2
            exact ⟨⟨_, _, rfl, RB.no HNO.out⟩, HB2.out⟩
          | true =>
            have hR : blkR (entsOf es) es.length (m : Int) = blkT (entsOf es) m es.length := by rw [blkR, hok, Int.toNat_natCast]; rfl
            by_cases hts : blkT (entsOf es) m es.length = s
            · have HB := hide (show IsBlk s es m from ⟨hok, hts⟩)
              rw [hok, hR, hts] at cb
              clear hok HD HD2 HM hR hts
              go_wp2_with fail
              refine (cb _ HR.out).mono ?_
              rintro e w2 ⟨rfl, hb2⟩
              have HB2 := hide (HW.out.1.trans (hb2.mono HW.out.1.size))
              have HR2 := hide (HR'.out.next hb2)
              clear hb2 cb x0 x3 HR HX HW HR'
              go_wp2
              go_ret2
              exact ⟨⟨_, _, rfl, .inl ⟨rfl, es, m, HB.out, HR2.out⟩⟩, HB2.out⟩
            · have HNO : Hid (∀ e' m', ¬ IsBlk s e' m') := fun e' m' h => by
                have e0 := HM.out e' m' h
                obtain rfl : m = m' := by omega
                obtain ⟨e1, _⟩ := HD2.out e' h
                have := h.2
                rw [← e1] at this
                exact hts this
              rw [hok, hR] at cb
              clear hok HD HD2 HM hR
              generalize blkT (entsOf es) m es.length = T at *
              have hne2 : ¬ T.toList = s.toList := fun h => hts (by
                rw [ByteArray.toList_eq, ByteArray.toList_eq] at h
                exact ByteArray.ext (Array.toList_inj.1 h))
              have hne3 : (T.toList == s.toList) = false := by simp [hne2]
              go_wp2_with fail
              refine (cb _ HR.out).mono ?_
              rintro e w2 ⟨rfl, hb2⟩
              have HB2 := hide (HW.out.1.trans (hb2.mono HW.out.1.size))
              clear hb2 cb x0 x3 HR HX HW HR'
              go_wp2
              go_ret2
              exact ⟨⟨_, _, rfl, RB.no HNO.out⟩, HB2.out⟩
        · have hki : ¬ (es.length : Int) ≤ 400 := by omega
          have he2 : r.toList.isEmpty = false := by rw [he]; exact decide_eq_false hr0
          have hne : ¬ r.toList = [] := fun h => by rw [h] at he2; cases he2
          clear he HGN HG hgo hstop hr0 hln hkn hk hk'
          have HR' := hide (HR.out.low (B' := w.heap.size) (by omega))
          cases hok : blkOk (entsOf es) es.length (m : Int) with
          | false =>
            have HNO : Hid (∀ e' m', ¬ IsBlk s e' m') := fun e' m' h => by
              have e0 := HM.out e' m' h
              obtain rfl : m = m' := by omega
              obtain ⟨e1, _⟩ := HD2.out e' h
              have := h.1
              rw [← e1, hok] at this
              cases this
            rw [hok] at cb
            clear hok HD HD2 HM HDONE
            generalize blkR (entsOf es) es.length (m : Int) = T at *
            go_wp2_with fail
            refine (cb _ HR.out).mono ?_
            rintro e w2 ⟨rfl, hb2⟩
            have HB2 := hide (HW.out.1.trans (hb2.mono HW.out.1.size))
            clear hb2 cb x0 x3 HR HX HW HR'
            go_wp2
            go_ret2
            exact ⟨⟨_, _, rfl, RB.no HNO.out⟩, HB2.out⟩
          | true =>
            have hR : blkR (entsOf es) es.length (m : Int) = blkT (entsOf es) m es.length := by rw [blkR, hok, Int.toNat_natCast]; rfl
            by_cases hts : blkT (entsOf es) m es.length = s
            · have HB := hide (show IsBlk s es m from ⟨hok, hts⟩)
              rw [hok, hR, hts] at cb
              clear hok HD HD2 HM hR hts
              go_wp2_with fail
              refine (cb _ HR.out).mono ?_
              rintro e w2 ⟨rfl, hb2⟩
              have HB2 := hide (HW.out.1.trans (hb2.mono HW.out.1.size))
              have HR2 := hide (HR'.out.next hb2)
              clear hb2 cb x0 x3 HR HX HW HR'
              go_wp2
              go_ret2
              exact ⟨⟨_, _, rfl, .inl ⟨rfl, es, m, HB.out, HR2.out⟩⟩, HB2.out⟩
            · have HNO : Hid (∀ e' m', ¬ IsBlk s e' m') := fun e' m' h => by
                have e0 := HM.out e' m' h
                obtain rfl : m = m' := by omega
                obtain ⟨e1, _⟩ := HD2.out e' h
                have := h.2
                rw [← e1] at this
                exact hts this
              rw [hok, hR] at cb
              clear hok HD HD2 HM hR
              generalize blkT (entsOf es) m es.length = T at *
              have hne2 : ¬ T.toList = s.toList := fun h => hts (by
                rw [ByteArray.toList_eq, ByteArray.toList_eq] at h
                exact ByteArray.ext (Array.toList_inj.1 h))
              have hne3 : (T.toList == s.toList) = false := by simp [hne2]
              go_wp2_with fail
              refine (cb _ HR.out).mono ?_
              rintro e w2 ⟨rfl, hb2⟩
              have HB2 := hide (HW.out.1.trans (hb2.mono HW.out.1.size))
              clear hb2 cb x0 x3 HR HX HW HR'
              go_wp2
              go_ret2
              exact ⟨⟨_, _, rfl, RB.no HNO.out⟩, HB2.out⟩

end Go.Proofs.Ytljmfdcilnbjaaa
