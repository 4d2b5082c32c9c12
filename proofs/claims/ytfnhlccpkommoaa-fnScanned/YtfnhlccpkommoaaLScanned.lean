/- The law FnScanned, walked. -/
import Derived.Test.YtfnhlccpkommoaaDrawSc
import Derived.Test.YtfnhlccpkommoaaRowArg
namespace Go.Proofs.Ytfnhlccpkommoaa
set_option maxRecDepth 100000
open Go.RowKit Go.Deep

theorem rev_at {l : List Pair1} {n i m : Nat} (hn : l.length = n) (h : i + m + 1 = n) : (fnPair l.reverse).U m = (fnPair l).U i ∧ (fnPair l.reverse).V m = (fnPair l).V i := by
  have : l.reverse.getD m ⟨⟨#[]⟩, ⟨#[]⟩⟩ = l.getD i ⟨⟨#[]⟩, ⟨#[]⟩⟩ := by
    simp only [List.getD]
    rw [List.getElem?_reverse (by omega), show l.length - 1 - m = i by omega]
  exact ⟨congrArg Pair1.u this, congrArg Pair1.v this⟩

set_option linter.unusedVariables false in
set_option linter.unusedSimpArgs false in
set_option maxHeartbeats 4000000 in
theorem walk_FnScanned (v : Value) {w : World} (hv : IsBytes w v) (_w : World) :
    Calls Try.prog 5 #[v] w fun e w' => e = .returned (.bool true) ∧ Below w.heap.size w w' := by
  obtain ⟨a, len, cap, rfl, hc, hm⟩ := hv
  by_cases hbig : 1048576 < len
  · have hd : decide (1048576 < len) = true := by simp [hbig]
    go_enter Try.func5, Try.ntmps5
    go_wp2_with fail
    refine (laws_bigS a len cap hm _).mono ?_
    rintro e w1 ⟨rfl, rfl⟩
    go_wp2
    go_ret
    exact ⟨rfl, Below.refl _ _⟩
  · have hd : decide (1048576 < len) = false := by simp [hbig]
    have hl : len ≤ 1048576 := by omega
    go_enter Try.func5, Try.ntmps5
    go_wp2_with fail
    refine (laws_bigS a len cap hm _).mono ?_
    rintro e w1 ⟨rfl, rfl⟩
    go_wp2_with fail
    refine (draw_Scan w _ a len cap hc hl (Below.refl _ _)).mono ?_
    rintro e w1 ⟨gE, n, capE, E, q, fr, to, rfl, hn, hfr, hto, hE, hB1⟩
    have HE := hE.hid
    have HB := hide hB1
    have hn2 : n ≤ 1048576 := by omega
    have hlp : (scanL E n q fr to).length ≤ 1000 := Nat.le_trans scanL_len hn
    have hl1 : (scanL E n q ⟨#[]⟩ fr).length ≤ 1000 := Nat.le_trans scanL_len hn
    have hl2 : (scanL E n q to ⟨#[]⟩).length ≤ 1000 := Nat.le_trans scanL_len hn
    have hl3 : (scanL E n q ⟨#[]⟩ ⟨#[]⟩).length ≤ 1000 := Nat.le_trans scanL_len hn
    have HPT : Hid (¬ fr = ⟨#[]⟩ → ¬ to = ⟨#[]⟩ → Op.bytesLess to.toList fr.toList = false → scanL E n q ⟨#[]⟩ fr ++ scanL E n q fr to ++ scanL E n q to ⟨#[]⟩ = scanL E n q ⟨#[]⟩ ⟨#[]⟩) := fun h1 h2 h3 => scan_parts E n q h1 h2 h3
    have HIN : Hid (∀ i, i < (scanL E n q fr to).length → inR fr to ((fnPair (scanL E n q fr to)).U i) = true) := fun i hi => scan_in hi
    have ci := fun (x y : ByteArray) (wx : World) (h : EntAt wx wx.heap.size (some ⟨gE, 0, none⟩) n E) => impl_Scan (some ⟨gE, 0, none⟩) n capE E q x y wx hn2 h
    have cp := ci fr to
    have c1 := ci ⟨#[]⟩ fr
    have c2 := ci to ⟨#[]⟩
    have c3 := ci ⟨#[]⟩ ⟨#[]⟩
    have cs := fun (wx : World) (h : EntAt wx wx.heap.size (some ⟨gE, 0, none⟩) n E) => spec_Scan (some ⟨gE, 0, none⟩) n capE E q fr to wx hn2 h
    have cb := fun (wx : World) (h : EntAt wx wx.heap.size (some ⟨gE, 0, none⟩) n E) => impl_ScanBack (some ⟨gE, 0, none⟩) n capE E q fr to wx hn2 h
    clear hE hB1 hc hm hd hbig ci
    generalize scanL E n q fr to = L at cp cs cb HPT HIN hlp
    generalize scanL E n q ⟨#[]⟩ fr = L1 at c1 HPT hl1
    generalize scanL E n q to ⟨#[]⟩ = L2 at c2 HPT hl2
    generalize scanL E n q ⟨#[]⟩ ⟨#[]⟩ = L3 at c3 HPT hl3
    obtain ⟨N, hN⟩ : ∃ N, L.length = N := ⟨_, rfl⟩
    have HN := hide hN
    rw [hN] at HIN hlp
    clear hN
    go_wp2_with fail
    refine (cp _ HE.out).mono ?_
    rintro e w2 ⟨⟨vp, rfl, hop⟩, hb2⟩
    have HE2 := hide (HE.out.next hb2)
    have HB2 := hide (HB.out.trans (hb2.mono HB.out.size))
    obtain ⟨pa, pp, rfl, hpa⟩ := hop.arg
    rw [HN.out] at hpa hop ⊢
    have HP2 := hide hop
    have HPA2 := hpa.hid
    clear hb2 hop hpa cp HE HB
    go_wp2_with fail
    refine (cs _ HE2.out).mono ?_
    rintro e w3 ⟨⟨vq, rfl, hoq⟩, hb3⟩
    have HE3 := hide (HE2.out.next hb3)
    have HB3 := hide (HB2.out.trans (hb3.mono HB2.out.size))
    have HP3 := hide (HP2.out.next hb3)
    have HPA3 := hide (HPA2.out.next hb3)
    obtain ⟨qa, qp, rfl, hqa⟩ := hoq.arg
    rw [HN.out] at hqa ⊢
    clear hb3 hoq cs HE2 HB2 HP2 HPA2
    go_wp2_with fail
    refine (laws_samePairs _ _ N _ _ (fnPair L) w3 (by omega) HPA3.out hqa).mono ?_
    rintro e w4 ⟨rfl, hb4⟩
    have HE4 := hide (HE3.out.next hb4)
    have HB4 := hide (HB3.out.trans (hb4.mono HB3.out.size))
    have HP4 := hide (HP3.out.next hb4)
    have HPA4 := hide (HPA3.out.next hb4)
    clear hb4 hqa HE3 HB3 HP3 HPA3
    go_wp2_with fail
    refine (cb _ HE4.out).mono ?_
    rintro e w5 ⟨⟨vb, rfl, hob⟩, hb5⟩
    have HE5 := hide (HE4.out.next hb5)
    have HB5 := hide (HB4.out.trans (hb5.mono HB4.out.size))
    have HP5 := hide (HP4.out.next hb5)
    have HPA5 := hide (HPA4.out.next hb5)
    obtain ⟨ba, bp, rfl, hbm⟩ := hob
    have hba := pairAt_mine hbm
    rw [List.length_reverse, HN.out] at hba ⊢
    have HBA5 := hba.hid
    have HC5 : Hid (Below w5.heap.size w5 w5) := Below.refl _ _
    clear hb5 hba hbm cb HE4 HB4 HP4 HPA4
    go_wp2
    go_loopw [9] (fun i wr => ∃ k : Nat, i = .int .i64 k ∧ k ≤ N ∧ Hid (Below w5.heap.size w5 wr)) (fun i _ => N - (intOf i).toNat)
    case atStart => exact ⟨0, rfl, by omega, HC5⟩
    case round =>
      obtain ⟨k, rfl, hk, HW⟩ := hrel
      clear HC5
      by_cases hlt : k < N
      · obtain ⟨m, hm⟩ : ∃ m, k + m + 1 = N := ⟨N - k - 1, by omega⟩
        obtain ⟨b1, off1, rfl, hb1, c0, d0⟩ := (HPA5.out.next HW.out).at hlt
        obtain ⟨b2, off2, rfl, hb2, e0, f0⟩ := (HBA5.out.next HW.out).at (show m < N by omega)
        obtain ⟨r1, r2⟩ := rev_at HN.out hm
        rw [r1] at e0
        rw [r2] at f0
        have hin := HIN.out k hlt
        have hki : (k : Int) < (N : Int) := by omega
        have hmi : (m : Int) < (N : Int) := by omega
        obtain ⟨N1, hN1⟩ : ∃ N1, k + m = N1 := ⟨_, rfl⟩
        have hs1 : IntKind.i64.wrap ((N : Int) - 1) = (N1 : Int) := by rw [IntKind.wrap_i64]; omega
        have hs2 : IntKind.i64.wrap ((N1 : Int) - (k : Int)) = (m : Int) := by rw [IntKind.wrap_i64]; omega
        have hs1' : wrap64 ((N : Int) - 1) = (N1 : Int) := by unfold wrap64; omega
        have hs2' : wrap64 ((N1 : Int) - (k : Int)) = (m : Int) := by unfold wrap64; omega
        have hm0 : (0 : Int) ≤ (m : Int) := by omega
        have hlow : Op.bytesLess ((fnPair L).U k).toList fr.toList = false := by
          cases h : Op.bytesLess ((fnPair L).U k).toList fr.toList with
          | false => rfl
          | true => rw [inR_low h] at hin; cases hin
        by_cases ht : to = ⟨#[]⟩
        · have ht4 : to.toList.isEmpty = true := by rw [ht, ByteArray.toList_eq]; rfl
          clear r1 r2 hin ht hm hN1
          go_wp2
          go_quiet (fail)
          go_wp2
          exact ⟨⟨k + 1, by go_num, by omega, below_drewN HW.out _⟩, by simp [intOf]; omega⟩
        · have ht4 : to.toList.isEmpty = false := by have h := to_empty ht; simpa using h
          have hup : Op.bytesLess ((fnPair L).U k).toList to.toList = true := (inR_is hlow ht).symm.trans hin
          clear r1 r2 hin ht hm hN1
          go_wp2
          go_quiet (fail)
          go_wp2
          exact ⟨⟨k + 1, by go_num, by omega, below_drewN HW.out _⟩, by simp [intOf]; omega⟩
      · obtain rfl : k = N := by omega
        have HBr := hide (HB5.out.trans (HW.out.mono HB5.out.size))
        by_cases h1 : fr = ⟨#[]⟩
        · have h1e : fr.toList.isEmpty = true := by rw [h1, ByteArray.toList_eq]; rfl
          clear h1 HPT
          go_wp2
          go_ret
          exact ⟨rfl, HBr.out⟩
        · have h1e : fr.toList.isEmpty = false := by have h := to_empty h1; simpa using h
          have H1 := hide h1
          clear h1
          by_cases h2 : to = ⟨#[]⟩
          · have h2e : to.toList.isEmpty = true := by rw [h2, ByteArray.toList_eq]; rfl
            clear h2 HPT
            go_wp2
            go_ret
            exact ⟨rfl, HBr.out⟩
          · have h2e : to.toList.isEmpty = false := by have h := to_empty h2; simpa using h
            have H2 := hide h2
            clear h2
            cases h3 : Op.bytesLess to.toList fr.toList with
            | true =>
              have h4 := less_asymm _ _ h3
              have h5 : (fr.toList == to.toList) = false := by
                cases h : (fr.toList == to.toList) with
                | false => rfl
                | true =>
                  have he : fr.toList = to.toList := by simpa using h
                  rw [he] at h3 h4
                  rw [h3] at h4
                  cases h4
              clear HPT
              go_wp2
              go_ret
              exact ⟨rfl, HBr.out⟩
            | false =>
              have hx : Op.bytesLess fr.toList to.toList = true ∨ (fr.toList == to.toList) = true := by
                cases h : Op.bytesLess fr.toList to.toList with
                | true => exact .inl rfl
                | false => exact .inr (by rw [less_tri _ _ h h3]; simp)
              have HPX := hide (HPT.out H1.out H2.out h3)
              rcases hx with hx | hx
              all_goals
                have HEr := hide (HE5.out.next HW.out)
                have HPr := hide (HP5.out.next HW.out)
                clear HPT H1 H2 HE5 HP5 HPA5 HBA5 HB5 HW HIN
                have hbl := below_one wr (.cells #[] 38)
                have HO6 := hide (OwnPair.lit wr wr.heap.size (Nat.le_refl _))
                have HC6 := hide hbl
                clear hbl
                go_wp2_with fail
                generalize wr.alloc (.cells #[] 38) = W6 at HO6 HC6 ⊢
                refine (c1 _ (HEr.out.next HC6.out)).mono ?_
                rintro e W7 ⟨⟨v1, rfl, ho1⟩, hb7⟩
                have HC7 := hide (HC6.out.trans (hb7.mono HC6.out.size))
                have HO7 := hide (HO6.out.next hb7)
                clear hb7 HC6 HO6 c1
                go_wp2_with (at_builtin; refine wpList_append_prow rfl _ _ 24 rfl Try.underlying24 wr.heap.size _ [] (by rfl) HO7.out _ v1 L1 (by rfl) ho1 HC7.out.size (by simp; omega) ?_)
                intro v2 W8 ho2 hb8
                have HC8 := hide (HC7.out.trans hb8)
                try rw [List.nil_append] at ho2
                clear ho1 hb8 HC7 HO7
                go_wp2_with (at_builtin; refine wpList_append_prow rfl _ _ 24 rfl Try.underlying24 wr.heap.size v2 L1 (by rfl) ho2 _ _ L (by rfl) (HPr.out.next HC8.out) HC8.out.size (by rw [HN.out]; omega) ?_)
                intro v3 W9 ho3 hb9
                have HC9 := hide (HC8.out.trans hb9)
                have HO9 := hide ho3
                clear ho2 ho3 hb9 HC8
                go_wp2_with fail
                refine (c2 _ (HEr.out.next HC9.out)).mono ?_
                rintro e W10 ⟨⟨v4, rfl, ho4⟩, hb10⟩
                have HC10 := hide (HC9.out.trans (hb10.mono HC9.out.size))
                have HO10 := hide (HO9.out.next hb10)
                have hLL : (L1 ++ L).length ≤ 2000 := by rw [List.length_append, HN.out]; omega
                clear hb10 HC9 HO9 c2
                go_wp2_with (at_builtin; refine wpList_append_prow rfl _ _ 24 rfl Try.underlying24 wr.heap.size v3 (L1 ++ L) (by rfl) HO10.out _ v4 L2 (by rfl) ho4 HC10.out.size (by omega) ?_)
                intro v5 W11 ho5 hb11
                have HC11 := hide (HC10.out.trans hb11)
                have HO11 : Hid (OwnPair W11 wr.heap.size v5 L3) := by
                  show OwnPair _ _ _ _
                  rw [← HPX.out, List.append_assoc]
                  simpa only [List.append_assoc] using ho5
                clear ho4 ho5 hb11 HC10 HO10
                go_wp2_with fail
                refine (c3 _ (HEr.out.next HC11.out)).mono ?_
                rintro e W12 ⟨⟨v6, rfl, ho6⟩, hb12⟩
                have HC12 := hide (HC11.out.trans (hb12.mono HC11.out.size))
                have ho12 := HO11.out.next hb12
                obtain ⟨xa, xp, rfl, hxa⟩ := ho12.arg
                obtain ⟨ya, yp, rfl, hya⟩ := ho6.arg
                clear hb12 HC11 HO11 c3 ho12 ho6
                go_wp2_with fail
                refine (laws_samePairs _ _ _ _ _ (fnPair L3) W12 (by omega) hxa hya).mono ?_
                rintro e W13 ⟨rfl, hb13⟩
                have HBz := hide (HBr.out.trans ((HC12.out.trans (hb13.mono HC12.out.size)).mono HBr.out.size))
                clear hb13 hxa hya HC12
                go_wp2
                go_ret
                exact ⟨rfl, HBz.out⟩

end Go.Proofs.Ytfnhlccpkommoaa
