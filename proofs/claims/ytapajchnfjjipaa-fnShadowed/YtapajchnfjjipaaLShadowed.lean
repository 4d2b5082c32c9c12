/- The law FnShadowed, walked. -/
import Derived.Test.YtapajchnfjjipaaDrawSn
import Derived.Test.YtapajchnfjjipaaRowArg
import Derived.Test.YtapajchnfjjipaaCompI
import Derived.Test.YtapajchnfjjipaaNeedS
import Derived.Test.YtapajchnfjjipaaSnapsS
import Derived.Test.YtapajchnfjjipaaEntsOkS
namespace Go.Proofs.Ytapajchnfjjipaa
set_option maxRecDepth 100000
open Go.RowKit Go.Deep

theorem laws_sameInts (a b : Option Addr) (len ca cb : Nat) (S : Nat → Int) (w : World) (hl : len ≤ 1048576) (ha : IntAt w w.heap.size a len S) (hb : IntAt w w.heap.size b len S) :
    Calls Try.prog 25 #[.slice a len ca, .slice b len cb] w fun e w' => e = .returned (.bool true) ∧ Below w.heap.size w w' := by
  have HA := hide ha
  have HB := hide hb
  have HW0 := hide (Below.refl w.heap.size w)
  clear ha hb
  go_enter Try.func25, Try.ntmps25
  go_wp2
  go_loopw [5] (fun i wr => ∃ k : Nat, i = .int .i64 k ∧ k ≤ len ∧ Hid (Below w.heap.size w wr)) (fun i _ => len - (intOf i).toNat)
  case atStart => exact ⟨0, rfl, by omega, HW0⟩
  case round =>
    obtain ⟨k, rfl, hk, HW⟩ := hrel
    by_cases hlt : k < len
    · obtain ⟨g1, o1, rfl, _, c0⟩ := (HA.out.below HW.out).at hlt
      obtain ⟨g2, o2, rfl, _, d0⟩ := (HB.out.below HW.out).at hlt
      have hki : (k : Int) < (len : Int) := by omega
      go_wp2
      go_quiet (fail)
      go_wp2
      exact ⟨⟨k + 1, by go_num, by omega, below_drewN HW.out _⟩, by simp [intOf]; omega⟩
    · obtain rfl : k = len := by omega
      go_wp2
      go_ret
      exact ⟨rfl, HW.out⟩

/-- A round of the law: the needed place is the next one that stayed, or it is a deletion at the bottom that fell. -/
theorem shad_step {E : Ents} {b : Bool} {NL : List Nat} {c k : Nat} (h : (compN E b NL).drop c = compN E b (NL.drop k)) (hk : k < NL.length) :
    ((compN E b NL)[c]? = some NL[k] ∧ (compN E b NL).drop (c + 1) = compN E b (NL.drop (k + 1))) ∨
    (E.K NL[k] = 0 ∧ b = true ∧ (compN E b NL).drop c = compN E b (NL.drop (k + 1)) ∧ ∀ q, (compN E b NL)[c]? = some q → ¬ E.U q = E.U NL[k]) := by
  rw [compN_drop hk] at h
  unfold stepC at h
  have hget : (compN E b NL)[c]? = ((compN E b NL).drop c)[0]? := by rw [List.getElem?_drop, Nat.add_zero]
  split at h
  · rename_i hc
    refine .inr ⟨hc.1, hc.2.1, h, fun q hq => ?_⟩
    rw [hget, h] at hq
    have ho := hc.2.2
    cases hd : compN E b (NL.drop (k + 1)) with
    | nil => rw [hd] at hq; simp at hq
    | cons x t =>
      rw [hd] at hq ho
      have e : x = q := by simpa using hq
      subst e
      exact of_decide_eq_false ho
  · refine .inl ⟨by rw [hget, h]; rfl, ?_⟩
    rw [← List.drop_drop, h]
    rfl

set_option linter.unusedVariables false in
set_option linter.unusedSimpArgs false in
set_option maxHeartbeats 4000000 in
theorem walk_FnShadowed (v : Value) {w : World} (hv : IsBytes w v) (_w : World) :
    Calls Try.prog 6 #[v] w fun e w' => e = .returned (.bool true) ∧ Below w.heap.size w w' := by
  obtain ⟨a, len, cap, rfl, hc, hm⟩ := hv
  by_cases hbig : 1048576 < len
  · have hd : decide (1048576 < len) = true := by simp [hbig]
    go_enter Try.func6, Try.ntmps6
    go_wp2_with fail
    refine (laws_bigS a len cap hm _).mono ?_
    rintro e w1 ⟨rfl, rfl⟩
    go_wp2
    go_ret
    exact ⟨rfl, Below.refl _ _⟩
  · have hd : decide (1048576 < len) = false := by simp [hbig]
    have hl : len ≤ 1048576 := by omega
    go_enter Try.func6, Try.ntmps6
    go_wp2_with fail
    refine (laws_bigS a len cap hm _).mono ?_
    rintro e w1 ⟨rfl, rfl⟩
    go_wp2_with fail
    refine (draw_Compacted w _ a len cap hc hl (Below.refl _ _)).mono ?_
    rintro e w1 ⟨gE, n, capE, E, gs, m, cs, S, bottom, rfl, hn, hm2, hE, hI, hB1⟩
    have HE := hE.hid
    have HI := hI.hid
    have HB := hide hB1
    have hn2 : n ≤ 1048576 := by omega
    have hmm : m ≤ 1048576 := by omega
    have cc := fun (wx : World) (h : EntAt wx wx.heap.size (some ⟨gE, 0, none⟩) n E) (k : IntAt wx wx.heap.size (some ⟨gs, 0, none⟩) m S) => impl_Compacted (some ⟨gE, 0, none⟩) n capE E (some ⟨gs, 0, none⟩) m cs S bottom wx hn2 hmm h k
    have cd := fun (wx : World) (h : EntAt wx wx.heap.size (some ⟨gE, 0, none⟩) n E) (k : IntAt wx wx.heap.size (some ⟨gs, 0, none⟩) m S) => spec_Compacted (some ⟨gE, 0, none⟩) n capE E (some ⟨gs, 0, none⟩) m cs S bottom wx hn2 hmm ⟨_, _, rfl⟩ h k
    have cn := fun (wx : World) (h : EntAt wx wx.heap.size (some ⟨gE, 0, none⟩) n E) (k : IntAt wx wx.heap.size (some ⟨gs, 0, none⟩) m S) => impl_Needed (some ⟨gE, 0, none⟩) n capE E (some ⟨gs, 0, none⟩) m cs S wx hn2 hmm h k
    have cm := fun (wx : World) (h : EntAt wx wx.heap.size (some ⟨gE, 0, none⟩) n E) (k : IntAt wx wx.heap.size (some ⟨gs, 0, none⟩) m S) => spec_Needed (some ⟨gE, 0, none⟩) n capE E (some ⟨gs, 0, none⟩) m cs S wx hn2 hmm ⟨_, _, rfl⟩ h k
    have ce := fun (wx : World) (h : EntAt wx wx.heap.size (some ⟨gE, 0, none⟩) n E) => spec_EntriesOk (some ⟨gE, 0, none⟩) n capE E wx hn2 h
    have cp := fun (wx : World) (k : IntAt wx wx.heap.size (some ⟨gs, 0, none⟩) m S) => spec_SnapsOk (some ⟨gs, 0, none⟩) m cs S wx hmm k
    clear hE hI hB1 hc hm hd hbig
    obtain ⟨NL, hNL⟩ : ∃ NL, neededN E n S m = NL := ⟨_, rfl⟩
    have hneed : needed E n S m = NL.map fun (i : Nat) => (i : Int) := by rw [needed_N, hNL]
    have hcomp : (compL E n S m bottom).map (entryAt1 E) = (compN E bottom NL).map (entryAt1 E) := by rw [compL_N, hNL]
    have HNlt : Hid (∀ p, p ∈ NL → p < n) := by rw [← hNL]; exact neededN_lt E n S m
    have hNLn : NL.length ≤ 1000 := by rw [← hNL]; exact Nat.le_trans (neededN_len _ _ _ _) hn
    rw [hneed] at cn cm
    rw [hcomp] at cc cd
    obtain ⟨N, hN⟩ : ∃ N, NL.length = N := ⟨_, rfl⟩
    have hIl : (NL.map fun (i : Nat) => (i : Int)).length = N := by simp [hN]
    obtain ⟨La, hLa⟩ : ∃ La, (compN E bottom NL).map (entryAt1 E) = La := ⟨_, rfl⟩
    obtain ⟨A, hA⟩ : ∃ A, La.length = A := ⟨_, rfl⟩
    have hAl : (compN E bottom NL).length = A := by rw [← hA, ← hLa]; simp
    have hAn : A ≤ 1000 := by rw [← hAl]; exact Nat.le_trans (compN_len _ _ _) hNLn
    rw [hN] at hNLn
    have HIL := hide hIl
    have HN := hide hN
    have HLA := hide hLa
    have HA := hide hA
    have HAL := hide hAl
    rw [hLa] at cc cd
    clear hNL hneed hcomp hN hIl hLa hA hAl
    go_wp2_with fail
    refine (cc _ HE.out HI.out).mono ?_
    rintro e w2 ⟨⟨v2, rfl, ho2⟩, hb2⟩
    have HE := hide (HE.out.next hb2)
    have HI := hide (HI.out.next hb2)
    have HB := hide (HB.out.trans (hb2.mono HB.out.size))
    obtain ⟨pa, pp, rfl, hM2⟩ := ho2.mine
    have HPA : Hid (EntAt w2 w2.heap.size pa A (fnEntry La)) := by rw [← HA.out]; exact entAt_mine hM2
    rw [HA.out]
    clear hb2 ho2 hM2
    go_wp2_with fail
    refine (cn _ HE.out HI.out).mono ?_
    rintro e w3 ⟨⟨v3, rfl, ho3⟩, hb3⟩
    have HE := hide (HE.out.next hb3)
    have HI := hide (HI.out.next hb3)
    have HPA := hide (HPA.out.next hb3)
    have HB := hide (HB.out.trans (hb3.mono HB.out.size))
    obtain ⟨na, nc, rfl, hna⟩ := ho3.at
    rw [HIL.out] at hna ⊢
    have HNA := hide hna
    clear hb3 ho3 hna
    go_wp2_with fail
    refine (cm _ HE.out HI.out).mono ?_
    rintro e w4 ⟨⟨v4, rfl, ho4⟩, hb4⟩
    have HE := hide (HE.out.next hb4)
    have HI := hide (HI.out.next hb4)
    have HPA := hide (HPA.out.next hb4)
    have HNA := hide (HNA.out.next hb4)
    have HB := hide (HB.out.trans (hb4.mono HB.out.size))
    obtain ⟨ma, mc, rfl, hma⟩ := ho4.at
    rw [HIL.out] at hma ⊢
    clear hb4 ho4
    go_wp2_with fail
    refine (laws_sameInts _ _ N _ _ (fun i => (NL.map fun (i : Nat) => (i : Int)).getD i 0) w4 (by omega) HNA.out hma).mono ?_
    rintro e w5 ⟨rfl, hb5⟩
    have HE := hide (HE.out.next hb5)
    have HI := hide (HI.out.next hb5)
    have HPA := hide (HPA.out.next hb5)
    have HNA := hide (HNA.out.next hb5)
    have HB := hide (HB.out.trans (hb5.mono HB.out.size))
    clear hb5 hma
    go_wp2_with fail
    refine (ce _ HE.out).mono ?_
    rintro e w6 ⟨rfl, hb6⟩
    have HE := hide (HE.out.next hb6)
    have HI := hide (HI.out.next hb6)
    have HPA := hide (HPA.out.next hb6)
    have HNA := hide (HNA.out.next hb6)
    have HB := hide (HB.out.trans (hb6.mono HB.out.size))
    clear hb6
    cases hok : rowOkB E n with
    | false =>
      go_wp2_with fail
      refine (cm _ HE.out HI.out).mono ?_
      rintro e w7 ⟨⟨v7, rfl, ho7⟩, hb7⟩
      have HE := hide (HE.out.next hb7)
      have HI := hide (HI.out.next hb7)
      have HPA := hide (HPA.out.next hb7)
      have HNA := hide (HNA.out.next hb7)
      have HB := hide (HB.out.trans (hb7.mono HB.out.size))
      obtain ⟨ka, kc, rfl, hka⟩ := ho7.at
      rw [HIL.out] at hka ⊢
      clear hb7 ho7
      go_wp2_with fail
      refine (laws_sameInts _ _ N _ _ (fun i => (NL.map fun (i : Nat) => (i : Int)).getD i 0) w7 (by omega) HNA.out hka).mono ?_
      rintro e w8 ⟨rfl, hb8⟩
      have HE := hide (HE.out.next hb8)
      have HI := hide (HI.out.next hb8)
      have HPA := hide (HPA.out.next hb8)
      have HNA := hide (HNA.out.next hb8)
      have HB := hide (HB.out.trans (hb8.mono HB.out.size))
      clear hb8 hka
      go_wp2_with fail
      refine (cd _ HE.out HI.out).mono ?_
      rintro e w9 ⟨⟨v9, rfl, ho9⟩, hb9⟩
      have HB := hide (HB.out.trans (hb9.mono HB.out.size))
      obtain ⟨qa, qp, rfl⟩ := ho9.shape
      rw [HA.out]
      clear hb9 ho9
      go_wp2
      go_ret
      exact ⟨rfl, HB.out⟩
    | true =>
      go_wp2_with fail
      refine (cp _ HI.out).mono ?_
      rintro e w7 ⟨rfl, hb7⟩
      have HE := hide (HE.out.next hb7)
      have HI := hide (HI.out.next hb7)
      have HPA := hide (HPA.out.next hb7)
      have HNA := hide (HNA.out.next hb7)
      have HB := hide (HB.out.trans (hb7.mono HB.out.size))
      clear hb7
      cases hsn : snapsB S m with
      | false =>
        go_wp2_with fail
        refine (cm _ HE.out HI.out).mono ?_
        rintro e w8 ⟨⟨v8, rfl, ho8⟩, hb8⟩
        have HE := hide (HE.out.next hb8)
        have HI := hide (HI.out.next hb8)
        have HPA := hide (HPA.out.next hb8)
        have HNA := hide (HNA.out.next hb8)
        have HB := hide (HB.out.trans (hb8.mono HB.out.size))
        obtain ⟨ka, kc, rfl, hka⟩ := ho8.at
        rw [HIL.out] at hka ⊢
        clear hb8 ho8
        go_wp2_with fail
        refine (laws_sameInts _ _ N _ _ (fun i => (NL.map fun (i : Nat) => (i : Int)).getD i 0) w8 (by omega) HNA.out hka).mono ?_
        rintro e w9 ⟨rfl, hb9⟩
        have HE := hide (HE.out.next hb9)
        have HI := hide (HI.out.next hb9)
        have HPA := hide (HPA.out.next hb9)
        have HNA := hide (HNA.out.next hb9)
        have HB := hide (HB.out.trans (hb9.mono HB.out.size))
        clear hb9 hka
        go_wp2_with fail
        refine (cd _ HE.out HI.out).mono ?_
        rintro e w10 ⟨⟨v10, rfl, ho10⟩, hb10⟩
        have HB := hide (HB.out.trans (hb10.mono HB.out.size))
        obtain ⟨qa, qp, rfl⟩ := ho10.shape
        rw [HA.out]
        clear hb10 ho10
        go_wp2
        go_ret
        exact ⟨rfl, HB.out⟩
      | true =>
        have HW0 := hide (Below.refl w7.heap.size w7)
        have HD0 : Hid ((compN E bottom NL).drop 0 = compN E bottom (NL.drop 0)) := rfl
        clear cc cd cn cm ce cp hok hsn HI
        go_wp2
        go_loopw [8, 9, 10] (fun ci i _ wr => ∃ (c k : Nat), ci = .int .i64 c ∧ i = .int .i64 k ∧ k ≤ N ∧ c ≤ A ∧ Hid ((compN E bottom NL).drop c = compN E bottom (NL.drop k)) ∧ Hid (Below w7.heap.size w7 wr)) (fun _ i _ _ => N - (intOf i).toNat)
        case atStart => exact ⟨0, 0, rfl, rfl, Nat.zero_le _, Nat.zero_le _, HD0, HW0⟩
        case round =>
          obtain ⟨c, k, rfl, rfl, hk, hc, HD, HW⟩ := hrel
          clear HW0 HD0
          by_cases hlt : k < N
          · have hkl : k < NL.length := by rw [HN.out]; exact hlt
            obtain ⟨p, hp⟩ : ∃ p, NL[k] = p := ⟨_, rfl⟩
            have hpn : p < n := HNlt.out p (by rw [← hp]; exact List.getElem_mem hkl)
            obtain ⟨g1, o1, rfl, hg1, d0⟩ := (HNA.out.below HW.out).at hlt
            have hpk : (NL.map fun (i : Nat) => (i : Int)).getD k 0 = (p : Int) := by simp [List.getD, hkl, hp]
            rw [hpk] at d0
            obtain ⟨g2, o2, e2, hg2, c0, c1, c2, c3⟩ := (HE.out.below HW.out).at hpn
            simp only [Option.some.injEq, Addr.mk.injEq, and_true] at e2
            obtain ⟨rfl, rfl⟩ := e2
            rw [Nat.zero_add] at c0 c1 c2 c3
            have hki : (k : Int) < (N : Int) := by omega
            have hk0 : (0 : Int) ≤ (k : Int) := by omega
            have hpi : (p : Int) < (n : Int) := by omega
            have hp0 : (0 : Int) ≤ (p : Int) := by omega
            have hwz := HW.out.size
            have hg1w : g1 < wr.heap.size := by omega
            have hg2w : gE < wr.heap.size := by omega
            have hb9 := below_one wr (.cells #[.string (E.U p), .int .i64 (E.Q p), .int .i64 (E.K p), .string (E.X p)] 45)
            have HW9 := hide (HW.out.trans (hb9.mono hwz))
            have hst := shad_step HD.out hkl
            rw [hp] at hst
            have hgetA : ∀ q, (compN E bottom NL)[c]? = some q → c < A ∧ entryAt1 (fnEntry La) c = entryAt1 E q := by
              intro q hq
              have hcl := (List.getElem?_eq_some_iff.1 hq).1
              have hlA : c < La.length := by rw [HA.out, ← HAL.out]; exact hcl
              refine ⟨by rw [← HAL.out]; exact hcl, ?_⟩
              rw [fnEntry_at La c hlA]
              have : La[c]? = some (entryAt1 E q) := by rw [← HLA.out, List.getElem?_map, hq]; rfl
              rw [List.getElem?_eq_getElem hlA] at this
              exact Option.some.inj this
            have hc0 : (0 : Int) ≤ (c : Int) := by omega
            clear hpk hkl hp HD HW hb9
            rcases hst with ⟨hq, hD⟩ | ⟨hK, hbt, hD, hne⟩
            · obtain ⟨hcA, hen⟩ := hgetA p hq
              have hcA2 : (c : Int) < (A : Int) := by omega
              obtain ⟨g3, o3, rfl, hg3, x0, x1, x2, x3⟩ := (HPA.out.below (HW9.out.mono (Nat.le_refl _))).at hcA
              simp only [entryAt1, Entry1.mk.injEq] at hen
              obtain ⟨e0, e1, e2, e3⟩ := hen
              rw [e0] at x0
              rw [e1] at x1
              rw [e2] at x2
              rw [e3] at x3
              have HDn := hide hD
              clear hq hD hgetA e0 e1 e2 e3
              go_wp2
              go_quiet (fail)
              go_wp2
              exact ⟨⟨c + 1, k + 1, by go_num, by go_num, by omega, by omega, HDn, below_drewN HW9.out _⟩, by simp [intOf]; omega⟩
            · subst hbt
              have hK1 : (E.K p == 0) = true := by simp [hK]
              have HDn := hide hD
              by_cases hcA : c < A
              · have hcA2 : (c : Int) < (A : Int) := by omega
                obtain ⟨q, hq⟩ : ∃ q, (compN E true NL)[c]? = some q := ⟨(compN E true NL)[c]'(by rw [HAL.out]; exact hcA), List.getElem?_eq_getElem _⟩
                have hu := hne q hq
                have hen := (hgetA q hq).2
                obtain ⟨g3, o3, rfl, hg3, x0, x1, x2, x3⟩ := (HPA.out.below (HW9.out.mono (Nat.le_refl _))).at hcA
                simp only [entryAt1, Entry1.mk.injEq] at hen
                rw [hen.1] at x0
                have hu2 := toList_neL hu
                have hu1 : ((E.U q).toList == (E.U p).toList) = false := by simpa using hu2
                generalize E.U q = uq at x0 hu2 hu1
                generalize (fnEntry La).Q c = qq at x1
                generalize (fnEntry La).K c = kq at x2
                generalize (fnEntry La).X c = xq at x3
                clear hD hgetA hne hq hu hen hK
                go_wp2
                go_quiet (fail)
                go_wp2
                exact ⟨⟨c, k + 1, by go_num, by go_num, by omega, by omega, HDn, below_drewN HW9.out _⟩, by simp [intOf]; omega⟩
              · have hcA2 : decide ((c : Int) < (A : Int)) = false := by simp; omega
                clear hD hgetA hne hK
                go_wp2
                go_quiet (fail)
                go_wp2
                exact ⟨⟨c, k + 1, by go_num, by go_num, by omega, by omega, HDn, below_drewN HW9.out _⟩, by simp [intOf]; omega⟩
          · have hkN : k = N := by omega
            have hcA : c = A := by
              have h := HD.out
              rw [List.drop_of_length_le (show NL.length ≤ k by rw [HN.out]; omega)] at h
              have h2 := congrArg List.length h
              rw [List.length_drop, HAL.out] at h2
              simp [compN] at h2
              omega
            subst hcA
            have HBW := hide (HB.out.trans (HW.out.mono HB.out.size))
            have hnl : ¬ ((k : Int) < (N : Int)) := by omega
            clear HD HW
            go_wp2
            go_ret
            exact ⟨rfl, HBW.out⟩

end Go.Proofs.Ytapajchnfjjipaa
