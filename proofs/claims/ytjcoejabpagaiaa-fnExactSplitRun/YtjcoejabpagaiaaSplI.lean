/- SplitRun of the program. -/
import Derived.Test.YtjcoejabpagaiaaSplP
import Derived.Test.YtjcoejabpagaiaaCpI
import Derived.BigQuiet
import Derived.Deep.DeepCutAuto
namespace Go.Proofs.Ytjcoejabpagaiaa
set_option maxRecDepth 100000
open Go.RowKit Go.Deep

theorem splG_len {E : Ents} {most : Int} : ∀ k, (splO E most k).1.length + (splO E most k).2.length ≤ 2 * k ∧ (splO E most k).2.length ≤ k
  | 0 => by simp [splO]
  | k + 1 => by
    have ih := splG_len (E := E) (most := most) k
    rw [splO_succ]
    split
    · simp; omega
    · simp; omega

set_option linter.unusedVariables false in
set_option linter.unusedSimpArgs false in
set_option maxHeartbeats 4000000 in
theorem impl_SplitRun (a : Option Addr) (len cap : Nat) (E : Ents) (most : Int) (w : World) (hl : len ≤ 1048576) (hm0 : -9223372036854775808 ≤ most) (hm1 : most ≤ 9223372036854775807) (hS : EntAt w w.heap.size a len E) :
    Calls Try.prog 8 #[.slice a len cap, .int .i64 most] w fun e w' => (∃ v L, e = .returned v ∧ OwnRuns w' w.heap.size v L ∧ L.map RunV.es = splitL E len most) ∧ Below w.heap.size w w' := by
  have HS := hide hS
  clear hS
  go_enter Try.func8, Try.ntmps8
  go_wp2_with fail
  refine (impl_EntriesOk a len cap E w hl HS.out).mono ?_
  rintro e w1 ⟨rfl, hb1⟩
  cases hr : rowOkB E len with
  | false =>
    have HB := hide hb1
    have hno := split_no (E := E) (len := len) (most := most) (by rw [hr]; rintro ⟨h, _⟩; cases h)
    have HN := hide hno
    clear hb1 hno
    go_wp2
    go_ret
    exact ⟨⟨_, [], rfl, ⟨Own.nil _ _ _, fun e he => absurd he List.not_mem_nil, List.Pairwise.nil⟩, HN.out.symm⟩, HB.out⟩
  | true =>
    by_cases hm : most < 1
    · have HB := hide hb1
      have hno := split_no (E := E) (len := len) (most := most) (by rintro ⟨_, h⟩; omega)
      have HN := hide hno
      clear hb1 hno
      go_wp2
      go_ret
      exact ⟨⟨_, [], rfl, ⟨Own.nil _ _ _, fun e he => absurd he List.not_mem_nil, List.Pairwise.nil⟩, HN.out.symm⟩, HB.out⟩
    · have hm2 : 1 ≤ most := by omega
      have hyes := split_yes hr hm2
      obtain ⟨h400, hent⟩ := rowOk_out hr
      have HE := hide hent
      have HY := hide hyes
      have HB1 := hide hb1
      have hst := (splSt_nil w1)
      have HT0 : Hid (SplSt w1 w1 w1.heap.size (.slice none 0 0) []) := hst
      have HP0 : Hid (OwnEntry w1 w1.heap.size (.slice none 0 0) (splI E most len 0).2) := OwnEntry.nil _ _
      clear hent hyes hb1 hst
      go_wp2
      go_loopw [5, 6, 19] (fun v5 v6 i wr => ∃ (k : Nat) (L : List RunV) (D : Nat), i = .int .i64 (k : Int) ∧ k ≤ len ∧ L.length ≤ 2 * k ∧ L.map RunV.es = (splI E most len k).1 ∧ Hid (SplSt w1 wr D v5 L) ∧ Hid (OwnEntry wr D v6 (splI E most len k).2)) (fun _ _ i _ => len - (intOf i).toNat)
      case atStart => exact ⟨0, [], w1.heap.size, rfl, by omega, by simp, by rfl, HT0, HP0⟩
      case round =>
        obtain ⟨k, L, D, rfl, hk, hLk, hLe, HT, HP⟩ := hrel
        clear HT0 HP0
        by_cases hlt : k < len
        · have hki : (k : Int) < (len : Int) := by omega
          obtain ⟨s1, s2⟩ := splI_step (E := E) hm2 hlt
          have hpl2 := (splG_len (E := E) (most := most) (k + 1)).2
          obtain ⟨R1, P1, hO⟩ : ∃ R1 P1, splO E most (k + 1) = (R1, P1) := ⟨_, _, rfl⟩
          obtain ⟨PI, hPI⟩ : ∃ PI, (splI E most len k).2 = PI := ⟨_, rfl⟩
          rw [hO] at s1 s2 hpl2
          rw [hPI] at s2 HP
          simp only at s1 s2 hpl2
          have HO := hide hO
          clear hO hPI
          obtain ⟨b, off, hae, hb, c0, c1, c2, c3⟩ := ((HS.out.below (HB1.out.trans (HT.out.low.mono HB1.out.size))).mono (Nat.le_trans HB1.out.size HT.out.low.size)).at hlt
          obtain ⟨hu, hx⟩ := entU_sz (HE.out k hlt).1
          have hbM := below_one wr (.cells #[.string (E.U k), .int .i64 (E.Q k), .int .i64 (E.K k), .string (E.X k)] 43)
          have hM := BoxIs.new wr #[.string (E.U k), .int .i64 (E.Q k), .int .i64 (E.K k), .string (E.X k)] 43 rfl
          have HT1 := hide (HT.out.next hbM)
          have HP1 := (HP.out.next hbM).hid
          have HM := hM.hid
          have hfar := fun g hg => (World.ownsRow.lt HP.out g hg).2
          have hplen : PI.length ≤ 400 := by
            have h1 := congrArg List.length s2
            simp only [List.length_append, List.length_singleton] at h1
            omega
          have HS1 := hide (hLe.trans s1)
          have HS2 := hide s2
          clear s1 s2 hLe
          rw [hae] at HS ⊢
          clear hbM hM HT HP hae
          go_wp2_with fail
          refine (impl_copyEntry (E.U k) (E.Q k) (E.K k) (E.X k) _ hu hx).mono ?_
          rintro e w2 ⟨rfl, hb2⟩
          have hbN := below_one w2 (.cells #[.string (E.U k), .int .i64 (E.Q k), .int .i64 (E.K k), .string (E.X k)] 43)
          have HN := (BoxIs.new w2 #[.string (E.U k), .int .i64 (E.Q k), .int .i64 (E.K k), .string (E.X k)] 43 rfl).hid
          have HT2 := hide ((HT1.out.next hb2).next hbN)
          have HP2 := ((HP1.out.next hb2).next hbN).hid
          have HM2 := ((HM.out.next hb2).next hbN).hid
          have hD2 := HT2.out.hX
          clear HT1 HP1 HM hb2 hbN c0 c1 c2 c3
          go_wp2_with (first
            | (at_builtin; refine wpList_append_entryG rfl _ _ 26 rfl Try.underlying26 D _ PI [entryAt1 E k] (by rfl) HP2.out ⟨w2.heap.size, 0, none⟩ 1 1 (by rfl) rfl (entry_news (e := entryAt1 E k) HN.out) hD2 (by omega) ?_))
          intro v7 w7 hO7 hg7
          rw [HS2.out] at hO7
          have HM7 := (show BoxIs w7 wr.heap.size _ _ from (hg7.block _ HM2.out.lt (fun e => by have := hfar _ e.symm; omega)).trans HM2.out).hid
          have HT7 := hide (HT2.out.below (rg_low HP2.out hD2 hg7))
          have HP7 := hO7.hid
          clear HT2 HP2 HM2 hO7 hg7 HN hfar
          obtain ⟨pa, pp, rfl⟩ := HP7.out.shape
          generalize wr.heap.size = M at HM7 ⊢
          have m0 := HM7.out.cell 0
          simp only [List.getElem?_toArray, List.getElem?_cons_succ, List.getElem?_cons_zero] at m0
          by_cases hlast : k + 1 = len
          · have hli : (k : Int) + 1 = (len : Int) := by omega
            go_upto_region 10 with fail
            go_quiet (fail)
            have HT8 := hide (HT7.out.next (below_drewN (Below.refl _ _) nq))
            have HP8 := (HP7.out.next (below_drewN (Below.refl _ _) nq)).hid
            clear HT7 HP7 HM7 m0
            generalize w7.drewN nq = w8 at HT8 HP8 ⊢
            have hbR := below_one w8 (.cells #[.slice pa P1.length pp] 39)
            have HT9 := hide (HT8.out.next hbR)
            have HP9 := (HP8.out.next hbR).hid
            have HR9 := (BoxIs.new w8 #[.slice pa P1.length pp] 39 rfl).hid
            have r0 := HR9.out.cell 0
            simp only [List.getElem?_toArray, List.getElem?_cons_succ, List.getElem?_cons_zero] at r0
            have hW := Nat.le_trans HT9.out.hD HT9.out.hX
            have hLl : (L.map RunV.v).length < 1000000 := by rw [List.length_map]; omega
            clear HT8 HP8 hbR
            go_wp2_with (first
              | (at_builtin; refine wpList_append_run rfl _ _ 24 rfl Try.underlying24 w1.heap.size _ (.slice pa P1.length pp) (L.map RunV.v) (by rfl) ⟨w8.heap.size, 0, none⟩ (by rfl) r0 HT9.out.runs.row rfl hW hLl ?_))
            intro v10 w10 ho hg
            have HT10 := (HT9.out.more (r := RunV.mk pa pp P1) HP9.out hg ho).hid
            have hcut := splI_cut (E := E) (most := most) (len := len) (k := k) (.inl hlast)
            have HP10 : Hid (OwnEntry w10 w10.heap.size (.slice none 0 0) (splI E most len (k + 1)).2) := by rw [hcut]; exact OwnEntry.nil _ _
            have HLe : Hid ((L ++ [RunV.mk pa pp P1]).map RunV.es = (splI E most len (k + 1)).1) := by show _ = _; rw [hcut, List.map_append, HS1.out, HO.out]; rfl
            clear HT9 HP9 HR9 r0 ho hg hcut
            go_wp2
            exact ⟨⟨k + 1, L ++ [RunV.mk pa pp P1], w10.heap.size, by go_num, by omega, by simp; omega, HLe.out, HT10, HP10⟩, by simp [intOf]; omega⟩
          · have hli : ¬ (k : Int) + 1 = (len : Int) := by omega
            have hle0 : ((k : Int) + 1 == (len : Int)) = false := by simp; omega
            have hk1 : k + 1 < len := by omega
            have hki1 : (k : Int) + 1 < (len : Int) := by omega
            have hwr : IntKind.i64.wrap ((k : Int) + 1) = (k : Int) + 1 := by rw [IntKind.wrap_i64]; omega
            have htn : ((k : Int) + 1).toNat = k + 1 := by omega
            have hk00 : (0 : Int) ≤ (k : Int) + 1 := by omega
            obtain ⟨b2, off2, he2, hb2, d0, _, _, _⟩ := ((HS.out.below (HB1.out.trans (HT7.out.low.mono HB1.out.size))).mono (Nat.le_trans HB1.out.size HT7.out.low.size)).at hk1
            simp only [Option.some.injEq, Addr.mk.injEq, and_true] at he2
            obtain ⟨rfl, rfl⟩ := he2
            by_cases hge : most ≤ (P1.length : Int)
            · cases hq : ((E.U (k + 1)).toList == (E.U k).toList) with
              | false =>
                have hcutT : cutAt E most P1 (k + 1) = true := by
                  unfold cutAt
                  rw [decide_eq_true hge, show k + 1 - 1 = k by omega, hq]; rfl
                have HCT := hide hcutT
                clear hcutT
                go_upto_region 10 with fail
                try rw [hle0]
                go_quiet (fail)
                have HT8 := hide (HT7.out.next (below_drewN (Below.refl _ _) nq))
                have HP8 := (HP7.out.next (below_drewN (Below.refl _ _) nq)).hid
                clear HT7 HP7 HM7 m0 d0
                generalize w7.drewN nq = w8 at HT8 HP8 ⊢
                have hbR := below_one w8 (.cells #[.slice pa P1.length pp] 39)
                have HT9 := hide (HT8.out.next hbR)
                have HP9 := (HP8.out.next hbR).hid
                have HR9 := (BoxIs.new w8 #[.slice pa P1.length pp] 39 rfl).hid
                have r0 := HR9.out.cell 0
                simp only [List.getElem?_toArray, List.getElem?_cons_succ, List.getElem?_cons_zero] at r0
                have hW := Nat.le_trans HT9.out.hD HT9.out.hX
                have hLl : (L.map RunV.v).length < 1000000 := by rw [List.length_map]; omega
                clear HT8 HP8 hbR
                go_wp2_with (first
                  | (at_builtin; refine wpList_append_run rfl _ _ 24 rfl Try.underlying24 w1.heap.size _ (.slice pa P1.length pp) (L.map RunV.v) (by rfl) ⟨w8.heap.size, 0, none⟩ (by rfl) r0 HT9.out.runs.row rfl hW hLl ?_))
                intro v10 w10 ho hg
                have HT10 := (HT9.out.more (r := RunV.mk pa pp P1) HP9.out hg ho).hid
                have hcut := splI_cut (E := E) (most := most) (len := len) (k := k) (.inr (by rw [HO.out]; exact HCT.out))
                have HP10 : Hid (OwnEntry w10 w10.heap.size (.slice none 0 0) (splI E most len (k + 1)).2) := by rw [hcut]; exact OwnEntry.nil _ _
                have HLe : Hid ((L ++ [RunV.mk pa pp P1]).map RunV.es = (splI E most len (k + 1)).1) := by show _ = _; rw [hcut, List.map_append, HS1.out, HO.out]; rfl
                clear HT9 HP9 HR9 r0 ho hg hcut
                go_wp2
                exact ⟨⟨k + 1, L ++ [RunV.mk pa pp P1], w10.heap.size, by go_num, by omega, by simp; omega, HLe.out, HT10, HP10⟩, by simp [intOf]; omega⟩
              | true =>
                have hcut : cutAt E most P1 (k + 1) = false := by
                  unfold cutAt
                  rw [show k + 1 - 1 = k by omega, hq]; simp
                have HCT := hide hcut
                clear hcut
                go_upto_region 10 with fail
                try rw [hle0]
                go_quiet (fail)
                have HT8 := hide (HT7.out.next (below_drewN (Below.refl _ _) nq))
                have hkeep := splI_keep (E := E) (most := most) (len := len) (k := k) hlast (by rw [HO.out]; exact HCT.out)
                have HP8 : Hid (OwnEntry (w7.drewN nq) D (.slice pa P1.length pp) (splI E most len (k + 1)).2) := by rw [hkeep, HO.out]; exact HP7.out.next (below_drewN (Below.refl _ _) nq)
                have HLe : Hid (L.map RunV.es = (splI E most len (k + 1)).1) := by show _ = _; rw [hkeep, HS1.out, HO.out]
                clear HT7 HP7 HM7 m0 d0 hkeep
                generalize w7.drewN nq = w8 at HT8 HP8 ⊢
                go_wp2
                exact ⟨⟨k + 1, L, D, by go_num, by omega, by omega, HLe.out, HT8, HP8⟩, by simp [intOf]; omega⟩
            · have hcut : cutAt E most P1 (k + 1) = false := by
                unfold cutAt
                rw [decide_eq_false hge]; rfl
              have HCT := hide hcut
              have hdec : decide (most ≤ (P1.length : Int)) = false := decide_eq_false hge
              clear hcut hge hwr htn hk00 hplen hpl2
              go_upto_region 10 with fail
              try rw [hle0]
              go_quiet (fail)
              have HT8 := hide (HT7.out.next (below_drewN (Below.refl _ _) nq))
              have hkeep := splI_keep (E := E) (most := most) (len := len) (k := k) hlast (by rw [HO.out]; exact HCT.out)
              have HP8 : Hid (OwnEntry (w7.drewN nq) D (.slice pa P1.length pp) (splI E most len (k + 1)).2) := by rw [hkeep, HO.out]; exact HP7.out.next (below_drewN (Below.refl _ _) nq)
              have HLe : Hid (L.map RunV.es = (splI E most len (k + 1)).1) := by show _ = _; rw [hkeep, HS1.out, HO.out]
              clear HT7 HP7 HM7 m0 d0 hkeep
              generalize w7.drewN nq = w8 at HT8 HP8 ⊢
              go_wp2
              exact ⟨⟨k + 1, L, D, by go_num, by omega, by omega, HLe.out, HT8, HP8⟩, by simp [intOf]; omega⟩
        · obtain rfl : k = len := by omega
          have HLe := hide (hLe.trans (splI_end.trans HY.out.symm))
          have HB := hide (HB1.out.trans (HT.out.low.mono HB1.out.size))
          have HR := hide (show OwnRuns wr w.heap.size _ L from ⟨rg_base HT.out.runs.row HB1.out.size, fun e he => OwnEntry.base (HT.out.runs.ent e he) HB1.out.size, HT.out.runs.ap⟩)
          clear HT HP hLe
          go_wp2
          go_ret
          exact ⟨⟨_, L, rfl, HR.out, HLe.out⟩, HB.out⟩

end Go.Proofs.Ytjcoejabpagaiaa
