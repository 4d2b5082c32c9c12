/- Crash of the model. (By gen_crs.py.) -/
import Derived.Test.YtejedpmkbkclhaaCrI
import Derived.Test.YtejedpmkbkclhaaSnapsS
namespace Go.Proofs.Ytejedpmkbkclhaa
set_option maxRecDepth 100000
open Go.RowKit Go.Deep Go.Maps

theorem tornO_same {o : DOp1} {t : Int} (h : ¬ (o.k = 1 ∧ t < (o.d.size : Int))) : tornO o t = o := by
  unfold tornO
  by_cases h1 : o.k = 1
  · rw [if_pos h1, tkB_all (fun h2 => h ⟨h1, h2⟩)]
  · rw [if_neg h1]
theorem tornO_cut {k : Int} {n s d : ByteArray} {t : Int} (h1 : k = 1) (h2 : t < (d.size : Int)) : tornO ⟨k, n, s, d⟩ t = ⟨k, n, s, d.extract 0 t.toNat⟩ := by
  unfold tornO
  rw [if_pos h1, tkB_cut h2]

set_option linter.unusedVariables false in
set_option linter.unusedSimpArgs false in
set_option maxHeartbeats 8000000 in
theorem spec_Crash (v : Value) (c : DiskC) (ka : Option Addr) (n kc : Nat) (K : Nat → Int) (t : Int) (w : World) (hf : c.Fit) (ht2 : t ≤ 9223372036854775807) (hv : DiskIs w v c) (hn : n ≤ 1048576) (hK : IntAt w w.heap.size ka n K) :
    Calls Try.prog 25 #[v, .slice ka n kc, .int .i64 t] w fun e w' => (∃ u, e = .returned (.tuple #[u, .bool (crB c K n t)]) ∧ DiskMade w' w.heap.size u (crL c K n t) (crL c K n t) []) ∧ Below w.heap.size w w' := by
  obtain ⟨a0, p0, a1, p1, a2, p2, rfl, hS0, hS1, hS2⟩ := hv
  have hB : Below w.heap.size w ((w.alloc (.cells #[.slice a0 c.n0 p0, .slice a1 c.n1 p1, .slice a2 c.n2 p2] 31)).alloc (.cells #[.slice none 0 0, .slice none 0 0, .slice none 0 0] 31)) := ((Below.refl _ _).alloc (Nat.le_refl _) _).alloc (by simp) _
  have hP := (BoxIs.new w #[.slice a0 c.n0 p0, .slice a1 c.n1 p1, .slice a2 c.n2 p2] 31 rfl).next (below_one _ (.cells #[.slice none 0 0, .slice none 0 0, .slice none 0 0] 31))
  have hR := BoxIs.new (w.alloc (.cells #[.slice a0 c.n0 p0, .slice a1 c.n1 p1, .slice a2 c.n2 p2] 31)) #[.slice none 0 0, .slice none 0 0, .slice none 0 0] 31 (g := w.heap.size + 1) (by simp)
  have hD : DiskIs ((w.alloc (.cells #[.slice a0 c.n0 p0, .slice a1 c.n1 p1, .slice a2 c.n2 p2] 31)).alloc (.cells #[.slice none 0 0, .slice none 0 0, .slice none 0 0] 31)) (.agg #[.slice a0 c.n0 p0, .slice a1 c.n1 p1, .slice a2 c.n2 p2]) c := DiskIs.at_old ⟨a0, p0, a1, p1, a2, p2, rfl, hS0, hS1, hS2⟩ hB
  have hKW := (hK.below hB).mono hB.size
  have g0 := hP.cell 0
  have g1 := hP.cell 1
  have g2 := hP.cell 2
  simp only [List.getElem?_toArray, List.getElem?_cons_succ, List.getElem?_cons_zero] at g0 g1 g2
  have hS1W := (hS1.below hB).mono hB.size
  have hS2W := (hS2.below hB).mono hB.size
  have HB := hide hB
  have HP := hP.hid
  have HR := hR.hid
  have HD := hD.hid
  have HKW : Hid _ := hide hKW
  have HS1 := hS1W.hid
  have HS2 := hS2W.hid
  obtain ⟨⟨hn0, hn1, hn2⟩, hz0, hz1, hz2⟩ := id hf
  have HZ1 := hide hz1
  clear hS0 hS1 hS2 hS1W hS2W hB hP hR hD hz0 hz1 hz2 hK hKW
  go_enter Try.func25, Try.ntmps25
  go_wp2_with fail
  clear g0 g1 g2
  generalize (w.alloc (.cells #[.slice a0 c.n0 p0, .slice a1 c.n1 p1, .slice a2 c.n2 p2] 31)).alloc (.cells #[.slice none 0 0, .slice none 0 0, .slice none 0 0] 31) = W at HB HP HR HD HKW HS1 HS2 ⊢
  have hFW := HR.out.lt
  refine (spec_DiskOk _ c W hf HD.out).mono ?_
  rintro e w1 ⟨rfl, hb1⟩
  have HB1 := hide (HB.out.trans (hb1.mono HB.out.size))
  have HP1 := (HP.out.next hb1).hid
  have HR1 := (HR.out.next hb1).hid
  have HK1 := hide ((HKW.out.below hb1).mono hb1.size)
  have HS11 := ((HS1.out.below hb1).mono hb1.size).hid
  have HS21 := ((HS2.out.below hb1).mono hb1.size).hid
  have hW1 := hb1.size
  clear hb1 HB HP HR HD HKW HS1 HS2
  cases hd : dB c with
  | false =>
    obtain ⟨q1, q2⟩ := crB_disk hd K n t
    have HQ1 := hide q1
    have HQ2 := hide q2
    have r0 := HR1.out.cell 0
    have r1 := HR1.out.cell 1
    have r2 := HR1.out.cell 2
    have rf := HR1.out.free
    simp only [List.getElem?_toArray, List.getElem?_cons_succ, List.getElem?_cons_zero] at r0 r1 r2
    have HL := hide (below_put3 (F := w.heap.size + 1) HB1.out (Nat.le_succ _) (.slice none 0 0) (.slice none 0 0) (.slice none 0 0))
    clear q1 q2 hd HB1 HR1 HP1 HK1 HS11 HS21
    go_wp2
    refine bodyPost_ret (v := .tuple #[.agg #[.slice none 0 0, .slice none 0 0, .slice none 0 0], .bool false]) (by simp [results, Try.results25, go_sem, r0, r1, r2]) rfl ⟨⟨_, ret_tupB rfl HQ1.out.symm, ?_⟩, HL.out⟩
    rw [HQ2.out]; exact made_nil _ _
  | true =>
    by_cases ht : 0 ≤ t
    · have ht0 : ¬ t < 0 := by omega
      obtain ⟨_, hl1, h200⟩ := dB_parts hd
      obtain ⟨M, hM⟩ : ∃ M : Int, (c.n2 : Int) - 1 = M := ⟨_, rfl⟩
      have hwr : IntKind.i64.wrap ((c.n2 : Int) - 1) = M := by rw [IntKind.wrap_i64]; omega
      have HM := hide hM
      have HWR := hide hwr
      have HM9 : Hid (M ≤ 199) := hide (by omega)
      have HDD := hide hd
      have HL1 := hide hl1
      have HSE := hide (dB_see hd)
      obtain ⟨hri, hnm, h60, hsz⟩ := filesB_ris hl1
      have HCF := hide (CrF.start hl1)
      have HC0 : Hid (Below w1.heap.size w1 w1) := Below.refl _ _
      have HU0 : Hid (∀ i, i < 0 → upB M K i = true) := hide (fun i hi => by omega)
      clear hd hl1 hM hwr hri hnm
      go_wp2
      go_loopw [8] (fun i wr => ∃ k : Nat, i = .int .i64 k ∧ k ≤ n ∧ Hid (∀ i, i < k → upB M K i = true) ∧ Hid (Below w1.heap.size w1 wr)) (fun i _ => n - (intOf i).toNat)
      case atStart => exact ⟨0, rfl, by omega, HU0, HC0⟩
      case round =>
        obtain ⟨k, rfl, hk, HU, HC⟩ := hrel
        clear HU0 HC0
        by_cases hlt : k < n
        · have hki : (k : Int) < (n : Int) := by omega
          obtain ⟨b, off, rfl, hb, c0⟩ := ((HK1.out.below HC.out).mono HC.out.size).at hlt
          have g2 := (HP1.out.next HC.out).cell 2
          simp only [List.getElem?_toArray, List.getElem?_cons_succ, List.getElem?_cons_zero] at g2
          have ci := fun wx => l1In_below (K k) 0 M wx
          by_cases h0 : 0 ≤ K k ∧ K k ≤ M
          · rw [decide_eq_true h0] at ci
            have H0 := hide h0
            clear h0
            rcases Nat.eq_zero_or_pos k with rfl | hk0
            · have HU2 : Hid (∀ i, i < 0 + 1 → upB M K i = true) := ups_next HU.out (upB_0 H0.out)
              have c0 : wr.cell? ⟨b, off, none⟩ = some (.int .i64 (K 0)) := c0
              go_wp2_with fail
              refine wp_region_noPanic ?_
              refine wp_region_held_drew (S := fun x => Below wr.heap.size wr x) (by kernel_rfl) (Below.refl _ _).drew (fun hH => ?_)
              have hb0 : Below wr.heap.size wr wr.drew := hH
              clear hH
              have c0_0 := keepc hb0 c0
              have g2_0 := keepc hb0 g2
              generalize wr.drew = wq0 at hb0 c0_0 g2_0 ⊢
              refine wpAnyH_restart hb0 ?_
              refine wpAnyH_take (i := 0) (v := .slice (some ⟨b, off, none⟩) n kc) nat0 (by kernel_rfl) (by kernel_rfl) (by kernel_rfl) (fun _ _ _ h => False.elim h) (Or.inl ⟨by rfl, ?_⟩) (Below.refl _ _) ?_
              · intro wx hSw
                go_simp
              simp only [Act.put, List.setIfInBounds_toArray, List.set_cons_zero, List.set_cons_succ]
              refine wpAnyH_take (i := 1) (v := .int .i64 0) nat1 (by kernel_rfl) (by kernel_rfl) (by kernel_rfl) (fun _ _ _ h => False.elim h) (Or.inl ⟨by rfl, ?_⟩) (Below.refl _ _) ?_
              · intro wx hSw
                go_simp
              simp only [Act.put, List.setIfInBounds_toArray, List.set_cons_zero, List.set_cons_succ]
              refine wpAnyH_take (i := 2) (v := .pointer (some ⟨b, off, none⟩)) nat2 (by kernel_rfl) (by kernel_rfl) (by kernel_rfl) (fun _ _ _ h => False.elim h) (Or.inl ⟨by rfl, ?_⟩) (Below.refl _ _) ?_
              · intro wx hSw
                go_simp
              simp only [Act.put, List.setIfInBounds_toArray, List.set_cons_zero, List.set_cons_succ]
              refine wpAnyH_take (i := 3) (v := .int .i64 (K 0)) nat3 (by kernel_rfl) (by kernel_rfl) (by kernel_rfl) (fun _ _ _ h => False.elim h) (Or.inl ⟨by rfl, ?_⟩) (Below.refl _ _) ?_
              · intro wx hSw
                have hx : Below wq0.heap.size wq0 wx := hSw
                have e0 := keepc hx c0_0
                go_simp
              simp only [Act.put, List.setIfInBounds_toArray, List.set_cons_zero, List.set_cons_succ]
              refine wpAnyH_take (i := 4) (v := .pointer (some ⟨w.heap.size, 2, none⟩)) nat4 (by kernel_rfl) (by kernel_rfl) (by kernel_rfl) (fun _ _ _ h => False.elim h) (Or.inl ⟨by rfl, ?_⟩) (Below.refl _ _) ?_
              · intro wx hSw
                go_simp
              simp only [Act.put, List.setIfInBounds_toArray, List.set_cons_zero, List.set_cons_succ]
              refine wpAnyH_take (i := 5) (v := .slice a2 c.n2 p2) nat5 (by kernel_rfl) (by kernel_rfl) (by kernel_rfl) (fun _ _ _ h => False.elim h) (Or.inl ⟨by rfl, ?_⟩) (Below.refl _ _) ?_
              · intro wx hSw
                have hx : Below wq0.heap.size wq0 wx := hSw
                have e0 := keepc hx g2_0
                go_simp
              simp only [Act.put, List.setIfInBounds_toArray, List.set_cons_zero, List.set_cons_succ]
              refine wpAnyH_take (i := 6) (v := .int .i64 (c.n2 : Int)) nat6 (by kernel_rfl) (by kernel_rfl) (by kernel_rfl) (fun _ _ _ h => False.elim h) (Or.inl ⟨by rfl, ?_⟩) (Below.refl _ _) ?_
              · intro wx hSw
                go_simp
              simp only [Act.put, List.setIfInBounds_toArray, List.set_cons_zero, List.set_cons_succ]
              refine wpAnyH_take (i := 7) (v := .int .i64 M) nat7 (by kernel_rfl) (by kernel_rfl) (by kernel_rfl) (fun _ _ _ h => False.elim h) (Or.inl ⟨by rfl, ?_⟩) (Below.refl _ _) ?_
              · intro wx hSw
                have hx : Below wq0.heap.size wq0 wx := hSw
                have hwy := HWR.out
                go_simp
              simp only [Act.put, List.setIfInBounds_toArray, List.set_cons_zero, List.set_cons_succ]
              refine wpAnyH_ready (rs := [8]) (by kernel_rfl) (by simp) ?_
              refine AllReadyH.cons nat8 (fun K hK => ?_) AllReadyH.nil
              go_simp
              go_at_call 63
              refine ((ci _)).mono ?_
              rintro e wq1 ⟨rfl, hb1⟩
              refine hK.out _ _ hb1 (fun _ => ?_)
              clear hK K
              have c0_0_1 := keepc hb1 c0_0
              have g2_0_1 := keepc hb1 g2_0
              refine wpAnyH_restart hb1 ?_
              refine wpAnyH_take (i := 9) (v := .bool false) nat9 (by kernel_rfl) (by kernel_rfl) (by kernel_rfl) (fun _ _ _ h => False.elim h) (Or.inl ⟨by rfl, ?_⟩) (Below.refl _ _) ?_
              · intro wx hSw
                go_simp
              simp only [Act.put, List.setIfInBounds_toArray, List.set_cons_zero, List.set_cons_succ]
              refine wpAnyH_take (i := 10) (v := .bool false) nat10 (by kernel_rfl) (by kernel_rfl) (by kernel_rfl) (fun _ _ _ h => False.elim h) (Or.inl ⟨by rfl, ?_⟩) (Below.refl _ _) ?_
              · intro wx hSw
                go_simp
              simp only [Act.put, List.setIfInBounds_toArray, List.set_cons_zero, List.set_cons_succ]
              refine wpAnyH_take (i := 11) (v := .int .i64 0) nat11 (by kernel_rfl) (by kernel_rfl) (by kernel_rfl) (fun _ _ _ h => False.elim h) (Or.inl ⟨by rfl, ?_⟩) (Below.refl _ _) ?_
              · intro wx hSw
                go_simp
              simp only [Act.put, List.setIfInBounds_toArray, List.set_cons_zero, List.set_cons_succ]
              refine wpAnyH_take (i := 12) (v := .bool false) nat12 (by kernel_rfl) (by kernel_rfl) (by kernel_rfl) (fun _ _ _ h => False.elim h) (Or.inl ⟨by rfl, ?_⟩) (Below.refl _ _) ?_
              · intro wx hSw
                go_simp
              simp only [Act.put, List.setIfInBounds_toArray, List.set_cons_zero, List.set_cons_succ]
              refine wpAnyH_take (i := 13) (v := .bool false) nat13 (by kernel_rfl) (by kernel_rfl) (by kernel_rfl) (fun _ _ _ h => False.elim h) (Or.inl ⟨by rfl, ?_⟩) (Below.refl _ _) ?_
              · intro wx hSw
                go_simp
              simp only [Act.put, List.setIfInBounds_toArray, List.set_cons_zero, List.set_cons_succ]
              refine wpAnyH_take (i := 14) (v := undef) nat14 (by kernel_rfl) (by kernel_rfl) (by kernel_rfl) (fun _ _ _ h => False.elim h) (Or.inr ⟨by rfl, rfl⟩) (Below.refl _ _) ?_
              simp only [Act.put, List.setIfInBounds_toArray, List.set_cons_zero, List.set_cons_succ]
              refine wpAnyH_take (i := 15) (v := undef) nat15 (by kernel_rfl) (by kernel_rfl) (by kernel_rfl) (fun _ _ _ h => False.elim h) (Or.inr ⟨by rfl, rfl⟩) (Below.refl _ _) ?_
              simp only [Act.put, List.setIfInBounds_toArray, List.set_cons_zero, List.set_cons_succ]
              refine wpAnyH_take (i := 16) (v := undef) nat16 (by kernel_rfl) (by kernel_rfl) (by kernel_rfl) (fun _ _ _ h => False.elim h) (Or.inr ⟨by rfl, rfl⟩) (Below.refl _ _) ?_
              simp only [Act.put, List.setIfInBounds_toArray, List.set_cons_zero, List.set_cons_succ]
              refine wpAnyH_take (i := 17) (v := undef) nat17 (by kernel_rfl) (by kernel_rfl) (by kernel_rfl) (fun _ _ _ h => False.elim h) (Or.inr ⟨by rfl, rfl⟩) (Below.refl _ _) ?_
              simp only [Act.put, List.setIfInBounds_toArray, List.set_cons_zero, List.set_cons_succ]
              refine wpAnyH_take (i := 18) (v := undef) nat18 (by kernel_rfl) (by kernel_rfl) (by kernel_rfl) (fun _ _ _ h => False.elim h) (Or.inr ⟨by rfl, rfl⟩) (Below.refl _ _) ?_
              simp only [Act.put, List.setIfInBounds_toArray, List.set_cons_zero, List.set_cons_succ]
              refine wpAnyH_take (i := 19) (v := undef) nat19 (by kernel_rfl) (by kernel_rfl) (by kernel_rfl) (fun _ _ _ h => False.elim h) (Or.inr ⟨by rfl, rfl⟩) (Below.refl _ _) ?_
              simp only [Act.put, List.setIfInBounds_toArray, List.set_cons_zero, List.set_cons_succ]
              refine wpAnyH_take (i := 20) (v := undef) nat20 (by kernel_rfl) (by kernel_rfl) (by kernel_rfl) (fun _ _ _ h => False.elim h) (Or.inr ⟨by rfl, rfl⟩) (Below.refl _ _) ?_
              simp only [Act.put, List.setIfInBounds_toArray, List.set_cons_zero, List.set_cons_succ]
              refine wpAnyH_take (i := 21) (v := undef) nat21 (by kernel_rfl) (by kernel_rfl) (by kernel_rfl) (fun _ _ _ h => False.elim h) (Or.inr ⟨by rfl, rfl⟩) (Below.refl _ _) ?_
              simp only [Act.put, List.setIfInBounds_toArray, List.set_cons_zero, List.set_cons_succ]
              refine wpAnyH_take (i := 22) (v := undef) nat22 (by kernel_rfl) (by kernel_rfl) (by kernel_rfl) (fun _ _ _ h => False.elim h) (Or.inr ⟨by rfl, rfl⟩) (Below.refl _ _) ?_
              simp only [Act.put, List.setIfInBounds_toArray, List.set_cons_zero, List.set_cons_succ]
              refine wpAnyH_take (i := 23) (v := undef) nat23 (by kernel_rfl) (by kernel_rfl) (by kernel_rfl) (fun _ _ _ h => False.elim h) (Or.inr ⟨by rfl, rfl⟩) (Below.refl _ _) ?_
              simp only [Act.put, List.setIfInBounds_toArray, List.set_cons_zero, List.set_cons_succ]
              refine wpAnyH_take (i := 24) (v := .bool false) nat24 (by kernel_rfl) (by kernel_rfl) (by kernel_rfl) (fun _ _ _ h => False.elim h) (Or.inl ⟨by rfl, ?_⟩) (Below.refl _ _) ?_
              · intro wx hSw
                go_simp
              simp only [Act.put, List.setIfInBounds_toArray, List.set_cons_zero, List.set_cons_succ]
              refine wpAnyH_take (i := 25) (v := .bool false) nat25 (by kernel_rfl) (by kernel_rfl) (by kernel_rfl) (fun _ _ _ h => False.elim h) (Or.inl ⟨by rfl, ?_⟩) (Below.refl _ _) ?_
              · intro wx hSw
                go_simp
              simp only [Act.put, List.setIfInBounds_toArray, List.set_cons_zero, List.set_cons_succ]
              refine wpAnyH_done (by kernel_rfl) ?_ _
              refine NoPanic.normal ?_
              have HBL : Below wr.heap.size wr wq1 := (hb0).trans (hb1.mono (hb0).size)
              have HC2 := hide (HC.out.trans (HBL.mono HC.out.size))
              clear HBL
              try clear hsub hsub2 hsub3 hsub4 hsub5 hjl hj00 hj1 hj0 hj2
              go_wp2
              exact ⟨⟨1, by go_num, by omega, HU2, HC2⟩, by simp [intOf]; omega⟩
            · obtain ⟨j, rfl⟩ : ∃ j, k = j + 1 := ⟨k - 1, by omega⟩
              obtain ⟨b', off', hbb, hb', e0⟩ := ((HK1.out.below HC.out).mono HC.out.size).at (show j < n by omega)
              simp only [Option.some.injEq, Addr.mk.injEq, and_true] at hbb
              obtain ⟨rfl, rfl⟩ := hbb
              by_cases h2 : K j < K (j + 1)
              · have h2' : ¬ (K (j + 1) ≤ K j) := by omega
                have HU2 : Hid (∀ i, i < j + 1 + 1 → upB M K i = true) := ups_next HU.out (upB_up H0.out h2)
                go_wp2_with fail
                obtain ⟨hsub, hsub2, hsub3, hsub4, hsub5, hjl, hj00, hj1, hj0, hj2⟩ := idx_back j n hlt hn
                refine wp_region_noPanic ?_
                refine wp_region_held_drew (S := fun x => Below wr.heap.size wr x) (by kernel_rfl) (Below.refl _ _).drew (fun hH => ?_)
                have hb0 : Below wr.heap.size wr wr.drew := hH
                clear hH
                have c0_0 := keepc hb0 c0
                have e0_0 := keepc hb0 e0
                have g2_0 := keepc hb0 g2
                generalize wr.drew = wq0 at hb0 c0_0 e0_0 g2_0 ⊢
                refine wpAnyH_restart hb0 ?_
                refine wpAnyH_take (i := 0) (v := .slice (some ⟨b, off, none⟩) n kc) nat0 (by kernel_rfl) (by kernel_rfl) (by kernel_rfl) (fun _ _ _ h => False.elim h) (Or.inl ⟨by rfl, ?_⟩) (Below.refl _ _) ?_
                · intro wx hSw
                  go_simp
                simp only [Act.put, List.setIfInBounds_toArray, List.set_cons_zero, List.set_cons_succ]
                refine wpAnyH_take (i := 1) (v := .int .i64 ((j : Int) + 1)) nat1 (by kernel_rfl) (by kernel_rfl) (by kernel_rfl) (fun _ _ _ h => False.elim h) (Or.inl ⟨by rfl, ?_⟩) (Below.refl _ _) ?_
                · intro wx hSw
                  go_simp
                simp only [Act.put, List.setIfInBounds_toArray, List.set_cons_zero, List.set_cons_succ]
                refine wpAnyH_take (i := 2) (v := .pointer (some ⟨b, off + (j + 1), none⟩)) nat2 (by kernel_rfl) (by kernel_rfl) (by kernel_rfl) (fun _ _ _ h => False.elim h) (Or.inl ⟨by rfl, ?_⟩) (Below.refl _ _) ?_
                · intro wx hSw
                  go_simp
                simp only [Act.put, List.setIfInBounds_toArray, List.set_cons_zero, List.set_cons_succ]
                refine wpAnyH_take (i := 3) (v := .int .i64 (K (j + 1))) nat3 (by kernel_rfl) (by kernel_rfl) (by kernel_rfl) (fun _ _ _ h => False.elim h) (Or.inl ⟨by rfl, ?_⟩) (Below.refl _ _) ?_
                · intro wx hSw
                  have hx : Below wq0.heap.size wq0 wx := hSw
                  have e0 := keepc hx c0_0
                  go_simp
                simp only [Act.put, List.setIfInBounds_toArray, List.set_cons_zero, List.set_cons_succ]
                refine wpAnyH_take (i := 4) (v := .pointer (some ⟨w.heap.size, 2, none⟩)) nat4 (by kernel_rfl) (by kernel_rfl) (by kernel_rfl) (fun _ _ _ h => False.elim h) (Or.inl ⟨by rfl, ?_⟩) (Below.refl _ _) ?_
                · intro wx hSw
                  go_simp
                simp only [Act.put, List.setIfInBounds_toArray, List.set_cons_zero, List.set_cons_succ]
                refine wpAnyH_take (i := 5) (v := .slice a2 c.n2 p2) nat5 (by kernel_rfl) (by kernel_rfl) (by kernel_rfl) (fun _ _ _ h => False.elim h) (Or.inl ⟨by rfl, ?_⟩) (Below.refl _ _) ?_
                · intro wx hSw
                  have hx : Below wq0.heap.size wq0 wx := hSw
                  have e0 := keepc hx g2_0
                  go_simp
                simp only [Act.put, List.setIfInBounds_toArray, List.set_cons_zero, List.set_cons_succ]
                refine wpAnyH_take (i := 6) (v := .int .i64 (c.n2 : Int)) nat6 (by kernel_rfl) (by kernel_rfl) (by kernel_rfl) (fun _ _ _ h => False.elim h) (Or.inl ⟨by rfl, ?_⟩) (Below.refl _ _) ?_
                · intro wx hSw
                  go_simp
                simp only [Act.put, List.setIfInBounds_toArray, List.set_cons_zero, List.set_cons_succ]
                refine wpAnyH_take (i := 7) (v := .int .i64 M) nat7 (by kernel_rfl) (by kernel_rfl) (by kernel_rfl) (fun _ _ _ h => False.elim h) (Or.inl ⟨by rfl, ?_⟩) (Below.refl _ _) ?_
                · intro wx hSw
                  have hx : Below wq0.heap.size wq0 wx := hSw
                  have hwy := HWR.out
                  go_simp
                simp only [Act.put, List.setIfInBounds_toArray, List.set_cons_zero, List.set_cons_succ]
                refine wpAnyH_ready (rs := [8]) (by kernel_rfl) (by simp) ?_
                refine AllReadyH.cons nat8 (fun K hK => ?_) AllReadyH.nil
                go_simp
                go_at_call 63
                refine ((ci _)).mono ?_
                rintro e wq1 ⟨rfl, hb1⟩
                refine hK.out _ _ hb1 (fun _ => ?_)
                clear hK K
                have c0_0_1 := keepc hb1 c0_0
                have e0_0_1 := keepc hb1 e0_0
                have g2_0_1 := keepc hb1 g2_0
                refine wpAnyH_restart hb1 ?_
                refine wpAnyH_take (i := 9) (v := .bool false) nat9 (by kernel_rfl) (by kernel_rfl) (by kernel_rfl) (fun _ _ _ h => False.elim h) (Or.inl ⟨by rfl, ?_⟩) (Below.refl _ _) ?_
                · intro wx hSw
                  go_simp
                simp only [Act.put, List.setIfInBounds_toArray, List.set_cons_zero, List.set_cons_succ]
                refine wpAnyH_take (i := 10) (v := .bool false) nat10 (by kernel_rfl) (by kernel_rfl) (by kernel_rfl) (fun _ _ _ h => False.elim h) (Or.inl ⟨by rfl, ?_⟩) (Below.refl _ _) ?_
                · intro wx hSw
                  go_simp
                simp only [Act.put, List.setIfInBounds_toArray, List.set_cons_zero, List.set_cons_succ]
                refine wpAnyH_take (i := 11) (v := .int .i64 ((j : Int) + 1)) nat11 (by kernel_rfl) (by kernel_rfl) (by kernel_rfl) (fun _ _ _ h => False.elim h) (Or.inl ⟨by rfl, ?_⟩) (Below.refl _ _) ?_
                · intro wx hSw
                  go_simp
                simp only [Act.put, List.setIfInBounds_toArray, List.set_cons_zero, List.set_cons_succ]
                refine wpAnyH_take (i := 12) (v := .bool true) nat12 (by kernel_rfl) (by kernel_rfl) (by kernel_rfl) (fun _ _ _ h => False.elim h) (Or.inl ⟨by rfl, ?_⟩) (Below.refl _ _) ?_
                · intro wx hSw
                  go_simp
                simp only [Act.put, List.setIfInBounds_toArray, List.set_cons_zero, List.set_cons_succ]
                refine wpAnyH_take (i := 13) (v := .bool true) nat13 (by kernel_rfl) (by kernel_rfl) (by kernel_rfl) (fun _ _ _ h => False.elim h) (Or.inl ⟨by rfl, ?_⟩) (Below.refl _ _) ?_
                · intro wx hSw
                  go_simp
                simp only [Act.put, List.setIfInBounds_toArray, List.set_cons_zero, List.set_cons_succ]
                refine wpAnyH_take (i := 14) (v := .slice (some ⟨b, off, none⟩) n kc) nat14 (by kernel_rfl) (by kernel_rfl) (by kernel_rfl) (fun _ _ _ h => False.elim h) (Or.inl ⟨by rfl, ?_⟩) (Below.refl _ _) ?_
                · intro wx hSw
                  go_simp
                simp only [Act.put, List.setIfInBounds_toArray, List.set_cons_zero, List.set_cons_succ]
                refine wpAnyH_take (i := 15) (v := .int .i64 ((j : Int) + 1)) nat15 (by kernel_rfl) (by kernel_rfl) (by kernel_rfl) (fun _ _ _ h => False.elim h) (Or.inl ⟨by rfl, ?_⟩) (Below.refl _ _) ?_
                · intro wx hSw
                  go_simp
                simp only [Act.put, List.setIfInBounds_toArray, List.set_cons_zero, List.set_cons_succ]
                refine wpAnyH_take (i := 16) (v := .pointer (some ⟨b, off + (j + 1), none⟩)) nat16 (by kernel_rfl) (by kernel_rfl) (by kernel_rfl) (fun _ _ _ h => False.elim h) (Or.inl ⟨by rfl, ?_⟩) (Below.refl _ _) ?_
                · intro wx hSw
                  go_simp
                simp only [Act.put, List.setIfInBounds_toArray, List.set_cons_zero, List.set_cons_succ]
                refine wpAnyH_take (i := 17) (v := .int .i64 (K (j + 1))) nat17 (by kernel_rfl) (by kernel_rfl) (by kernel_rfl) (fun _ _ _ h => False.elim h) (Or.inl ⟨by rfl, ?_⟩) (Below.refl _ _) ?_
                · intro wx hSw
                  have hx : Below wq1.heap.size wq1 wx := hSw
                  have e0 := keepc hx c0_0_1
                  go_simp
                simp only [Act.put, List.setIfInBounds_toArray, List.set_cons_zero, List.set_cons_succ]
                refine wpAnyH_take (i := 18) (v := .slice (some ⟨b, off, none⟩) n kc) nat18 (by kernel_rfl) (by kernel_rfl) (by kernel_rfl) (fun _ _ _ h => False.elim h) (Or.inl ⟨by rfl, ?_⟩) (Below.refl _ _) ?_
                · intro wx hSw
                  go_simp
                simp only [Act.put, List.setIfInBounds_toArray, List.set_cons_zero, List.set_cons_succ]
                refine wpAnyH_take (i := 19) (v := .int .i64 ((j : Int) + 1)) nat19 (by kernel_rfl) (by kernel_rfl) (by kernel_rfl) (fun _ _ _ h => False.elim h) (Or.inl ⟨by rfl, ?_⟩) (Below.refl _ _) ?_
                · intro wx hSw
                  go_simp
                simp only [Act.put, List.setIfInBounds_toArray, List.set_cons_zero, List.set_cons_succ]
                refine wpAnyH_take (i := 20) (v := .int .i64 (j : Int)) nat20 (by kernel_rfl) (by kernel_rfl) (by kernel_rfl) (fun _ _ _ h => False.elim h) (Or.inl ⟨by rfl, ?_⟩) (Below.refl _ _) ?_
                · intro wx hSw
                  go_simp
                simp only [Act.put, List.setIfInBounds_toArray, List.set_cons_zero, List.set_cons_succ]
                refine wpAnyH_take (i := 21) (v := .pointer (some ⟨b, off + j, none⟩)) nat21 (by kernel_rfl) (by kernel_rfl) (by kernel_rfl) (fun _ _ _ h => False.elim h) (Or.inl ⟨by rfl, ?_⟩) (Below.refl _ _) ?_
                · intro wx hSw
                  go_simp
                simp only [Act.put, List.setIfInBounds_toArray, List.set_cons_zero, List.set_cons_succ]
                refine wpAnyH_take (i := 22) (v := .int .i64 (K j)) nat22 (by kernel_rfl) (by kernel_rfl) (by kernel_rfl) (fun _ _ _ h => False.elim h) (Or.inl ⟨by rfl, ?_⟩) (Below.refl _ _) ?_
                · intro wx hSw
                  have hx : Below wq1.heap.size wq1 wx := hSw
                  have e0 := keepc hx e0_0_1
                  go_simp
                simp only [Act.put, List.setIfInBounds_toArray, List.set_cons_zero, List.set_cons_succ]
                refine wpAnyH_take (i := 23) (v := .bool false) nat23 (by kernel_rfl) (by kernel_rfl) (by kernel_rfl) (fun _ _ _ h => False.elim h) (Or.inl ⟨by rfl, ?_⟩) (Below.refl _ _) ?_
                · intro wx hSw
                  go_simp
                simp only [Act.put, List.setIfInBounds_toArray, List.set_cons_zero, List.set_cons_succ]
                refine wpAnyH_take (i := 24) (v := .bool false) nat24 (by kernel_rfl) (by kernel_rfl) (by kernel_rfl) (fun _ _ _ h => False.elim h) (Or.inl ⟨by rfl, ?_⟩) (Below.refl _ _) ?_
                · intro wx hSw
                  go_simp
                simp only [Act.put, List.setIfInBounds_toArray, List.set_cons_zero, List.set_cons_succ]
                refine wpAnyH_take (i := 25) (v := .bool false) nat25 (by kernel_rfl) (by kernel_rfl) (by kernel_rfl) (fun _ _ _ h => False.elim h) (Or.inl ⟨by rfl, ?_⟩) (Below.refl _ _) ?_
                · intro wx hSw
                  go_simp
                simp only [Act.put, List.setIfInBounds_toArray, List.set_cons_zero, List.set_cons_succ]
                refine wpAnyH_done (by kernel_rfl) ?_ _
                refine NoPanic.normal ?_
                have HBL : Below wr.heap.size wr wq1 := (hb0).trans (hb1.mono (hb0).size)
                have HC2 := hide (HC.out.trans (HBL.mono HC.out.size))
                clear HBL
                try clear hsub hsub2 hsub3 hsub4 hsub5 hjl hj00 hj1 hj0 hj2
                go_wp2
                exact ⟨⟨j + 1 + 1, by go_num, by omega, HU2, HC2⟩, by simp [intOf]; omega⟩
              · have h2' : K (j + 1) ≤ K j := by omega
                obtain ⟨q1, q2⟩ := crB_ups (c := c) (upsB_no (j + 1) hlt (by rw [HM.out]; exact upB_low h2)) t
                go_wp2_with fail
                obtain ⟨hsub, hsub2, hsub3, hsub4, hsub5, hjl, hj00, hj1, hj0, hj2⟩ := idx_back j n hlt hn
                refine wp_region_noPanic ?_
                refine wp_region_held_drew (S := fun x => Below wr.heap.size wr x) (by kernel_rfl) (Below.refl _ _).drew (fun hH => ?_)
                have hb0 : Below wr.heap.size wr wr.drew := hH
                clear hH
                have c0_0 := keepc hb0 c0
                have e0_0 := keepc hb0 e0
                have g2_0 := keepc hb0 g2
                generalize wr.drew = wq0 at hb0 c0_0 e0_0 g2_0 ⊢
                refine wpAnyH_restart hb0 ?_
                refine wpAnyH_take (i := 0) (v := .slice (some ⟨b, off, none⟩) n kc) nat0 (by kernel_rfl) (by kernel_rfl) (by kernel_rfl) (fun _ _ _ h => False.elim h) (Or.inl ⟨by rfl, ?_⟩) (Below.refl _ _) ?_
                · intro wx hSw
                  go_simp
                simp only [Act.put, List.setIfInBounds_toArray, List.set_cons_zero, List.set_cons_succ]
                refine wpAnyH_take (i := 1) (v := .int .i64 ((j : Int) + 1)) nat1 (by kernel_rfl) (by kernel_rfl) (by kernel_rfl) (fun _ _ _ h => False.elim h) (Or.inl ⟨by rfl, ?_⟩) (Below.refl _ _) ?_
                · intro wx hSw
                  go_simp
                simp only [Act.put, List.setIfInBounds_toArray, List.set_cons_zero, List.set_cons_succ]
                refine wpAnyH_take (i := 2) (v := .pointer (some ⟨b, off + (j + 1), none⟩)) nat2 (by kernel_rfl) (by kernel_rfl) (by kernel_rfl) (fun _ _ _ h => False.elim h) (Or.inl ⟨by rfl, ?_⟩) (Below.refl _ _) ?_
                · intro wx hSw
                  go_simp
                simp only [Act.put, List.setIfInBounds_toArray, List.set_cons_zero, List.set_cons_succ]
                refine wpAnyH_take (i := 3) (v := .int .i64 (K (j + 1))) nat3 (by kernel_rfl) (by kernel_rfl) (by kernel_rfl) (fun _ _ _ h => False.elim h) (Or.inl ⟨by rfl, ?_⟩) (Below.refl _ _) ?_
                · intro wx hSw
                  have hx : Below wq0.heap.size wq0 wx := hSw
                  have e0 := keepc hx c0_0
                  go_simp
                simp only [Act.put, List.setIfInBounds_toArray, List.set_cons_zero, List.set_cons_succ]
                refine wpAnyH_take (i := 4) (v := .pointer (some ⟨w.heap.size, 2, none⟩)) nat4 (by kernel_rfl) (by kernel_rfl) (by kernel_rfl) (fun _ _ _ h => False.elim h) (Or.inl ⟨by rfl, ?_⟩) (Below.refl _ _) ?_
                · intro wx hSw
                  go_simp
                simp only [Act.put, List.setIfInBounds_toArray, List.set_cons_zero, List.set_cons_succ]
                refine wpAnyH_take (i := 5) (v := .slice a2 c.n2 p2) nat5 (by kernel_rfl) (by kernel_rfl) (by kernel_rfl) (fun _ _ _ h => False.elim h) (Or.inl ⟨by rfl, ?_⟩) (Below.refl _ _) ?_
                · intro wx hSw
                  have hx : Below wq0.heap.size wq0 wx := hSw
                  have e0 := keepc hx g2_0
                  go_simp
                simp only [Act.put, List.setIfInBounds_toArray, List.set_cons_zero, List.set_cons_succ]
                refine wpAnyH_take (i := 6) (v := .int .i64 (c.n2 : Int)) nat6 (by kernel_rfl) (by kernel_rfl) (by kernel_rfl) (fun _ _ _ h => False.elim h) (Or.inl ⟨by rfl, ?_⟩) (Below.refl _ _) ?_
                · intro wx hSw
                  go_simp
                simp only [Act.put, List.setIfInBounds_toArray, List.set_cons_zero, List.set_cons_succ]
                refine wpAnyH_take (i := 7) (v := .int .i64 M) nat7 (by kernel_rfl) (by kernel_rfl) (by kernel_rfl) (fun _ _ _ h => False.elim h) (Or.inl ⟨by rfl, ?_⟩) (Below.refl _ _) ?_
                · intro wx hSw
                  have hx : Below wq0.heap.size wq0 wx := hSw
                  have hwy := HWR.out
                  go_simp
                simp only [Act.put, List.setIfInBounds_toArray, List.set_cons_zero, List.set_cons_succ]
                refine wpAnyH_ready (rs := [8]) (by kernel_rfl) (by simp) ?_
                refine AllReadyH.cons nat8 (fun K hK => ?_) AllReadyH.nil
                go_simp
                go_at_call 63
                refine ((ci _)).mono ?_
                rintro e wq1 ⟨rfl, hb1⟩
                refine hK.out _ _ hb1 (fun _ => ?_)
                clear hK K
                have c0_0_1 := keepc hb1 c0_0
                have e0_0_1 := keepc hb1 e0_0
                have g2_0_1 := keepc hb1 g2_0
                refine wpAnyH_restart hb1 ?_
                refine wpAnyH_take (i := 9) (v := .bool false) nat9 (by kernel_rfl) (by kernel_rfl) (by kernel_rfl) (fun _ _ _ h => False.elim h) (Or.inl ⟨by rfl, ?_⟩) (Below.refl _ _) ?_
                · intro wx hSw
                  go_simp
                simp only [Act.put, List.setIfInBounds_toArray, List.set_cons_zero, List.set_cons_succ]
                refine wpAnyH_take (i := 10) (v := .bool false) nat10 (by kernel_rfl) (by kernel_rfl) (by kernel_rfl) (fun _ _ _ h => False.elim h) (Or.inl ⟨by rfl, ?_⟩) (Below.refl _ _) ?_
                · intro wx hSw
                  go_simp
                simp only [Act.put, List.setIfInBounds_toArray, List.set_cons_zero, List.set_cons_succ]
                refine wpAnyH_take (i := 11) (v := .int .i64 ((j : Int) + 1)) nat11 (by kernel_rfl) (by kernel_rfl) (by kernel_rfl) (fun _ _ _ h => False.elim h) (Or.inl ⟨by rfl, ?_⟩) (Below.refl _ _) ?_
                · intro wx hSw
                  go_simp
                simp only [Act.put, List.setIfInBounds_toArray, List.set_cons_zero, List.set_cons_succ]
                refine wpAnyH_take (i := 12) (v := .bool true) nat12 (by kernel_rfl) (by kernel_rfl) (by kernel_rfl) (fun _ _ _ h => False.elim h) (Or.inl ⟨by rfl, ?_⟩) (Below.refl _ _) ?_
                · intro wx hSw
                  go_simp
                simp only [Act.put, List.setIfInBounds_toArray, List.set_cons_zero, List.set_cons_succ]
                refine wpAnyH_take (i := 13) (v := .bool true) nat13 (by kernel_rfl) (by kernel_rfl) (by kernel_rfl) (fun _ _ _ h => False.elim h) (Or.inl ⟨by rfl, ?_⟩) (Below.refl _ _) ?_
                · intro wx hSw
                  go_simp
                simp only [Act.put, List.setIfInBounds_toArray, List.set_cons_zero, List.set_cons_succ]
                refine wpAnyH_take (i := 14) (v := .slice (some ⟨b, off, none⟩) n kc) nat14 (by kernel_rfl) (by kernel_rfl) (by kernel_rfl) (fun _ _ _ h => False.elim h) (Or.inl ⟨by rfl, ?_⟩) (Below.refl _ _) ?_
                · intro wx hSw
                  go_simp
                simp only [Act.put, List.setIfInBounds_toArray, List.set_cons_zero, List.set_cons_succ]
                refine wpAnyH_take (i := 15) (v := .int .i64 ((j : Int) + 1)) nat15 (by kernel_rfl) (by kernel_rfl) (by kernel_rfl) (fun _ _ _ h => False.elim h) (Or.inl ⟨by rfl, ?_⟩) (Below.refl _ _) ?_
                · intro wx hSw
                  go_simp
                simp only [Act.put, List.setIfInBounds_toArray, List.set_cons_zero, List.set_cons_succ]
                refine wpAnyH_take (i := 16) (v := .pointer (some ⟨b, off + (j + 1), none⟩)) nat16 (by kernel_rfl) (by kernel_rfl) (by kernel_rfl) (fun _ _ _ h => False.elim h) (Or.inl ⟨by rfl, ?_⟩) (Below.refl _ _) ?_
                · intro wx hSw
                  go_simp
                simp only [Act.put, List.setIfInBounds_toArray, List.set_cons_zero, List.set_cons_succ]
                refine wpAnyH_take (i := 17) (v := .int .i64 (K (j + 1))) nat17 (by kernel_rfl) (by kernel_rfl) (by kernel_rfl) (fun _ _ _ h => False.elim h) (Or.inl ⟨by rfl, ?_⟩) (Below.refl _ _) ?_
                · intro wx hSw
                  have hx : Below wq1.heap.size wq1 wx := hSw
                  have e0 := keepc hx c0_0_1
                  go_simp
                simp only [Act.put, List.setIfInBounds_toArray, List.set_cons_zero, List.set_cons_succ]
                refine wpAnyH_take (i := 18) (v := .slice (some ⟨b, off, none⟩) n kc) nat18 (by kernel_rfl) (by kernel_rfl) (by kernel_rfl) (fun _ _ _ h => False.elim h) (Or.inl ⟨by rfl, ?_⟩) (Below.refl _ _) ?_
                · intro wx hSw
                  go_simp
                simp only [Act.put, List.setIfInBounds_toArray, List.set_cons_zero, List.set_cons_succ]
                refine wpAnyH_take (i := 19) (v := .int .i64 ((j : Int) + 1)) nat19 (by kernel_rfl) (by kernel_rfl) (by kernel_rfl) (fun _ _ _ h => False.elim h) (Or.inl ⟨by rfl, ?_⟩) (Below.refl _ _) ?_
                · intro wx hSw
                  go_simp
                simp only [Act.put, List.setIfInBounds_toArray, List.set_cons_zero, List.set_cons_succ]
                refine wpAnyH_take (i := 20) (v := .int .i64 (j : Int)) nat20 (by kernel_rfl) (by kernel_rfl) (by kernel_rfl) (fun _ _ _ h => False.elim h) (Or.inl ⟨by rfl, ?_⟩) (Below.refl _ _) ?_
                · intro wx hSw
                  go_simp
                simp only [Act.put, List.setIfInBounds_toArray, List.set_cons_zero, List.set_cons_succ]
                refine wpAnyH_take (i := 21) (v := .pointer (some ⟨b, off + j, none⟩)) nat21 (by kernel_rfl) (by kernel_rfl) (by kernel_rfl) (fun _ _ _ h => False.elim h) (Or.inl ⟨by rfl, ?_⟩) (Below.refl _ _) ?_
                · intro wx hSw
                  go_simp
                simp only [Act.put, List.setIfInBounds_toArray, List.set_cons_zero, List.set_cons_succ]
                refine wpAnyH_take (i := 22) (v := .int .i64 (K j)) nat22 (by kernel_rfl) (by kernel_rfl) (by kernel_rfl) (fun _ _ _ h => False.elim h) (Or.inl ⟨by rfl, ?_⟩) (Below.refl _ _) ?_
                · intro wx hSw
                  have hx : Below wq1.heap.size wq1 wx := hSw
                  have e0 := keepc hx e0_0_1
                  go_simp
                simp only [Act.put, List.setIfInBounds_toArray, List.set_cons_zero, List.set_cons_succ]
                refine wpAnyH_take (i := 23) (v := .bool true) nat23 (by kernel_rfl) (by kernel_rfl) (by kernel_rfl) (fun _ _ _ h => False.elim h) (Or.inl ⟨by rfl, ?_⟩) (Below.refl _ _) ?_
                · intro wx hSw
                  go_simp
                simp only [Act.put, List.setIfInBounds_toArray, List.set_cons_zero, List.set_cons_succ]
                refine wpAnyH_take (i := 24) (v := .bool true) nat24 (by kernel_rfl) (by kernel_rfl) (by kernel_rfl) (fun _ _ _ h => False.elim h) (Or.inl ⟨by rfl, ?_⟩) (Below.refl _ _) ?_
                · intro wx hSw
                  go_simp
                simp only [Act.put, List.setIfInBounds_toArray, List.set_cons_zero, List.set_cons_succ]
                refine wpAnyH_take (i := 25) (v := .bool true) nat25 (by kernel_rfl) (by kernel_rfl) (by kernel_rfl) (fun _ _ _ h => False.elim h) (Or.inl ⟨by rfl, ?_⟩) (Below.refl _ _) ?_
                · intro wx hSw
                  go_simp
                simp only [Act.put, List.setIfInBounds_toArray, List.set_cons_zero, List.set_cons_succ]
                refine wpAnyH_done (by kernel_rfl) ?_ _
                refine NoPanic.normal ?_
                have HBL : Below wr.heap.size wr wq1 := (hb0).trans (hb1.mono (hb0).size)
                have HC2 := hide (HC.out.trans (HBL.mono HC.out.size))
                clear HBL
                try clear hsub hsub2 hsub3 hsub4 hsub5 hjl hj00 hj1 hj0 hj2
                have HQ1 := hide q1
                have HQ2 := hide q2
                have r0 := (HR1.out.next HC2.out).cell 0
                have r1 := (HR1.out.next HC2.out).cell 1
                have r2 := (HR1.out.next HC2.out).cell 2
                have rf := (HR1.out.next HC2.out).free
                simp only [List.getElem?_toArray, List.getElem?_cons_succ, List.getElem?_cons_zero] at r0 r1 r2
                have HL := hide (below_put3 (F := w.heap.size + 1) (HB1.out.trans (HC2.out.mono HB1.out.size)) (Nat.le_succ _) (.slice none 0 0) (.slice none 0 0) (.slice none 0 0))
                clear q1 q2 HB1 HR1 HP1 HK1 HS11 HS21 HC HU HC2
                go_wp2
                refine bodyPost_ret (v := .tuple #[.agg #[.slice none 0 0, .slice none 0 0, .slice none 0 0], .bool false]) (by simp [results, Try.results25, go_sem, r0, r1, r2]) rfl ⟨⟨_, ret_tupB rfl HQ1.out.symm, ?_⟩, HL.out⟩
                rw [HQ2.out]; exact made_nil _ _
          · rw [decide_eq_false h0] at ci
            obtain ⟨q1, q2⟩ := crB_ups (c := c) (upsB_no k hlt (by rw [HM.out]; exact upB_in h0)) t
            clear h0
            go_wp2_with fail
            refine wp_region_noPanic ?_
            refine wp_region_held_drew (S := fun x => Below wr.heap.size wr x) (by kernel_rfl) (Below.refl _ _).drew (fun hH => ?_)
            have hb0 : Below wr.heap.size wr wr.drew := hH
            clear hH
            have c0_0 := keepc hb0 c0
            have g2_0 := keepc hb0 g2
            generalize wr.drew = wq0 at hb0 c0_0 g2_0 ⊢
            refine wpAnyH_restart hb0 ?_
            refine wpAnyH_take (i := 0) (v := .slice (some ⟨b, off, none⟩) n kc) nat0 (by kernel_rfl) (by kernel_rfl) (by kernel_rfl) (fun _ _ _ h => False.elim h) (Or.inl ⟨by rfl, ?_⟩) (Below.refl _ _) ?_
            · intro wx hSw
              go_simp
            simp only [Act.put, List.setIfInBounds_toArray, List.set_cons_zero, List.set_cons_succ]
            refine wpAnyH_take (i := 1) (v := .int .i64 (k : Int)) nat1 (by kernel_rfl) (by kernel_rfl) (by kernel_rfl) (fun _ _ _ h => False.elim h) (Or.inl ⟨by rfl, ?_⟩) (Below.refl _ _) ?_
            · intro wx hSw
              go_simp
            simp only [Act.put, List.setIfInBounds_toArray, List.set_cons_zero, List.set_cons_succ]
            refine wpAnyH_take (i := 2) (v := .pointer (some ⟨b, off + k, none⟩)) nat2 (by kernel_rfl) (by kernel_rfl) (by kernel_rfl) (fun _ _ _ h => False.elim h) (Or.inl ⟨by rfl, ?_⟩) (Below.refl _ _) ?_
            · intro wx hSw
              go_simp
            simp only [Act.put, List.setIfInBounds_toArray, List.set_cons_zero, List.set_cons_succ]
            refine wpAnyH_take (i := 3) (v := .int .i64 (K k)) nat3 (by kernel_rfl) (by kernel_rfl) (by kernel_rfl) (fun _ _ _ h => False.elim h) (Or.inl ⟨by rfl, ?_⟩) (Below.refl _ _) ?_
            · intro wx hSw
              have hx : Below wq0.heap.size wq0 wx := hSw
              have e0 := keepc hx c0_0
              go_simp
            simp only [Act.put, List.setIfInBounds_toArray, List.set_cons_zero, List.set_cons_succ]
            refine wpAnyH_take (i := 4) (v := .pointer (some ⟨w.heap.size, 2, none⟩)) nat4 (by kernel_rfl) (by kernel_rfl) (by kernel_rfl) (fun _ _ _ h => False.elim h) (Or.inl ⟨by rfl, ?_⟩) (Below.refl _ _) ?_
            · intro wx hSw
              go_simp
            simp only [Act.put, List.setIfInBounds_toArray, List.set_cons_zero, List.set_cons_succ]
            refine wpAnyH_take (i := 5) (v := .slice a2 c.n2 p2) nat5 (by kernel_rfl) (by kernel_rfl) (by kernel_rfl) (fun _ _ _ h => False.elim h) (Or.inl ⟨by rfl, ?_⟩) (Below.refl _ _) ?_
            · intro wx hSw
              have hx : Below wq0.heap.size wq0 wx := hSw
              have e0 := keepc hx g2_0
              go_simp
            simp only [Act.put, List.setIfInBounds_toArray, List.set_cons_zero, List.set_cons_succ]
            refine wpAnyH_take (i := 6) (v := .int .i64 (c.n2 : Int)) nat6 (by kernel_rfl) (by kernel_rfl) (by kernel_rfl) (fun _ _ _ h => False.elim h) (Or.inl ⟨by rfl, ?_⟩) (Below.refl _ _) ?_
            · intro wx hSw
              go_simp
            simp only [Act.put, List.setIfInBounds_toArray, List.set_cons_zero, List.set_cons_succ]
            refine wpAnyH_take (i := 7) (v := .int .i64 M) nat7 (by kernel_rfl) (by kernel_rfl) (by kernel_rfl) (fun _ _ _ h => False.elim h) (Or.inl ⟨by rfl, ?_⟩) (Below.refl _ _) ?_
            · intro wx hSw
              have hx : Below wq0.heap.size wq0 wx := hSw
              have hwy := HWR.out
              go_simp
            simp only [Act.put, List.setIfInBounds_toArray, List.set_cons_zero, List.set_cons_succ]
            refine wpAnyH_ready (rs := [8]) (by kernel_rfl) (by simp) ?_
            refine AllReadyH.cons nat8 (fun K hK => ?_) AllReadyH.nil
            go_simp
            go_at_call 63
            refine ((ci _)).mono ?_
            rintro e wq1 ⟨rfl, hb1⟩
            refine hK.out _ _ hb1 (fun _ => ?_)
            clear hK K
            have c0_0_1 := keepc hb1 c0_0
            have g2_0_1 := keepc hb1 g2_0
            refine wpAnyH_restart hb1 ?_
            refine wpAnyH_take (i := 9) (v := .bool true) nat9 (by kernel_rfl) (by kernel_rfl) (by kernel_rfl) (fun _ _ _ h => False.elim h) (Or.inl ⟨by rfl, ?_⟩) (Below.refl _ _) ?_
            · intro wx hSw
              go_simp
            simp only [Act.put, List.setIfInBounds_toArray, List.set_cons_zero, List.set_cons_succ]
            refine wpAnyH_take (i := 10) (v := .bool true) nat10 (by kernel_rfl) (by kernel_rfl) (by kernel_rfl) (fun _ _ _ h => False.elim h) (Or.inl ⟨by rfl, ?_⟩) (Below.refl _ _) ?_
            · intro wx hSw
              go_simp
            simp only [Act.put, List.setIfInBounds_toArray, List.set_cons_zero, List.set_cons_succ]
            refine wpAnyH_take (i := 11) (v := undef) nat11 (by kernel_rfl) (by kernel_rfl) (by kernel_rfl) (fun _ _ _ h => False.elim h) (Or.inr ⟨by rfl, rfl⟩) (Below.refl _ _) ?_
            simp only [Act.put, List.setIfInBounds_toArray, List.set_cons_zero, List.set_cons_succ]
            refine wpAnyH_take (i := 12) (v := undef) nat12 (by kernel_rfl) (by kernel_rfl) (by kernel_rfl) (fun _ _ _ h => False.elim h) (Or.inr ⟨by rfl, rfl⟩) (Below.refl _ _) ?_
            simp only [Act.put, List.setIfInBounds_toArray, List.set_cons_zero, List.set_cons_succ]
            refine wpAnyH_take (i := 13) (v := undef) nat13 (by kernel_rfl) (by kernel_rfl) (by kernel_rfl) (fun _ _ _ h => False.elim h) (Or.inr ⟨by rfl, rfl⟩) (Below.refl _ _) ?_
            simp only [Act.put, List.setIfInBounds_toArray, List.set_cons_zero, List.set_cons_succ]
            refine wpAnyH_take (i := 14) (v := undef) nat14 (by kernel_rfl) (by kernel_rfl) (by kernel_rfl) (fun _ _ _ h => False.elim h) (Or.inr ⟨by rfl, rfl⟩) (Below.refl _ _) ?_
            simp only [Act.put, List.setIfInBounds_toArray, List.set_cons_zero, List.set_cons_succ]
            refine wpAnyH_take (i := 15) (v := undef) nat15 (by kernel_rfl) (by kernel_rfl) (by kernel_rfl) (fun _ _ _ h => False.elim h) (Or.inr ⟨by rfl, rfl⟩) (Below.refl _ _) ?_
            simp only [Act.put, List.setIfInBounds_toArray, List.set_cons_zero, List.set_cons_succ]
            refine wpAnyH_take (i := 16) (v := undef) nat16 (by kernel_rfl) (by kernel_rfl) (by kernel_rfl) (fun _ _ _ h => False.elim h) (Or.inr ⟨by rfl, rfl⟩) (Below.refl _ _) ?_
            simp only [Act.put, List.setIfInBounds_toArray, List.set_cons_zero, List.set_cons_succ]
            refine wpAnyH_take (i := 17) (v := undef) nat17 (by kernel_rfl) (by kernel_rfl) (by kernel_rfl) (fun _ _ _ h => False.elim h) (Or.inr ⟨by rfl, rfl⟩) (Below.refl _ _) ?_
            simp only [Act.put, List.setIfInBounds_toArray, List.set_cons_zero, List.set_cons_succ]
            refine wpAnyH_take (i := 18) (v := undef) nat18 (by kernel_rfl) (by kernel_rfl) (by kernel_rfl) (fun _ _ _ h => False.elim h) (Or.inr ⟨by rfl, rfl⟩) (Below.refl _ _) ?_
            simp only [Act.put, List.setIfInBounds_toArray, List.set_cons_zero, List.set_cons_succ]
            refine wpAnyH_take (i := 19) (v := undef) nat19 (by kernel_rfl) (by kernel_rfl) (by kernel_rfl) (fun _ _ _ h => False.elim h) (Or.inr ⟨by rfl, rfl⟩) (Below.refl _ _) ?_
            simp only [Act.put, List.setIfInBounds_toArray, List.set_cons_zero, List.set_cons_succ]
            refine wpAnyH_take (i := 20) (v := undef) nat20 (by kernel_rfl) (by kernel_rfl) (by kernel_rfl) (fun _ _ _ h => False.elim h) (Or.inr ⟨by rfl, rfl⟩) (Below.refl _ _) ?_
            simp only [Act.put, List.setIfInBounds_toArray, List.set_cons_zero, List.set_cons_succ]
            refine wpAnyH_take (i := 21) (v := undef) nat21 (by kernel_rfl) (by kernel_rfl) (by kernel_rfl) (fun _ _ _ h => False.elim h) (Or.inr ⟨by rfl, rfl⟩) (Below.refl _ _) ?_
            simp only [Act.put, List.setIfInBounds_toArray, List.set_cons_zero, List.set_cons_succ]
            refine wpAnyH_take (i := 22) (v := undef) nat22 (by kernel_rfl) (by kernel_rfl) (by kernel_rfl) (fun _ _ _ h => False.elim h) (Or.inr ⟨by rfl, rfl⟩) (Below.refl _ _) ?_
            simp only [Act.put, List.setIfInBounds_toArray, List.set_cons_zero, List.set_cons_succ]
            refine wpAnyH_take (i := 23) (v := undef) nat23 (by kernel_rfl) (by kernel_rfl) (by kernel_rfl) (fun _ _ _ h => False.elim h) (Or.inr ⟨by rfl, rfl⟩) (Below.refl _ _) ?_
            simp only [Act.put, List.setIfInBounds_toArray, List.set_cons_zero, List.set_cons_succ]
            refine wpAnyH_take (i := 24) (v := undef) nat24 (by kernel_rfl) (by kernel_rfl) (by kernel_rfl) (fun _ _ _ h => False.elim h) (Or.inr ⟨by rfl, rfl⟩) (Below.refl _ _) ?_
            simp only [Act.put, List.setIfInBounds_toArray, List.set_cons_zero, List.set_cons_succ]
            refine wpAnyH_take (i := 25) (v := .bool true) nat25 (by kernel_rfl) (by kernel_rfl) (by kernel_rfl) (fun _ _ _ h => False.elim h) (Or.inl ⟨by rfl, ?_⟩) (Below.refl _ _) ?_
            · intro wx hSw
              go_simp
            simp only [Act.put, List.setIfInBounds_toArray, List.set_cons_zero, List.set_cons_succ]
            refine wpAnyH_done (by kernel_rfl) ?_ _
            refine NoPanic.normal ?_
            have HBL : Below wr.heap.size wr wq1 := (hb0).trans (hb1.mono (hb0).size)
            have HC2 := hide (HC.out.trans (HBL.mono HC.out.size))
            clear HBL
            try clear hsub hsub2 hsub3 hsub4 hsub5 hjl hj00 hj1 hj0 hj2
            have HQ1 := hide q1
            have HQ2 := hide q2
            have r0 := (HR1.out.next HC2.out).cell 0
            have r1 := (HR1.out.next HC2.out).cell 1
            have r2 := (HR1.out.next HC2.out).cell 2
            have rf := (HR1.out.next HC2.out).free
            simp only [List.getElem?_toArray, List.getElem?_cons_succ, List.getElem?_cons_zero] at r0 r1 r2
            have HL := hide (below_put3 (F := w.heap.size + 1) (HB1.out.trans (HC2.out.mono HB1.out.size)) (Nat.le_succ _) (.slice none 0 0) (.slice none 0 0) (.slice none 0 0))
            clear q1 q2 HB1 HR1 HP1 HK1 HS11 HS21 HC HU HC2
            go_wp2
            refine bodyPost_ret (v := .tuple #[.agg #[.slice none 0 0, .slice none 0 0, .slice none 0 0], .bool false]) (by simp [results, Try.results25, go_sem, r0, r1, r2]) rfl ⟨⟨_, ret_tupB rfl HQ1.out.symm, ?_⟩, HL.out⟩
            rw [HQ2.out]; exact made_nil _ _
        · obtain rfl : k = n := by omega
          have hup : upsB M K k = true := upsB_yes HU.out
          have hnl := ups_len hup HM9.out
          have HUP := hide hup
          have HB2 := hide (HB1.out.trans (HC.out.mono HB1.out.size))
          have HP2 := (HP1.out.next HC.out).hid
          have HR2 := (HR1.out.next HC.out).hid
          have HK2 := hide ((HK1.out.below HC.out).mono HC.out.size)
          have HS12 := ((HS11.out.below HC.out).mono HC.out.size).hid
          have HS22 := ((HS21.out.below HC.out).mono HC.out.size).hid
          have hbE := below_one wr (.cells #[] 96)
          have HOE := (OwnFile.lit wr wr.heap.size (Nat.le_refl _)).hid
          have HSE1 := ((HS12.out.below hbE).mono hbE.size).hid
          have hBE := hbE.size
          have HBE := hide hbE
          have y1 := (HP2.out.next hbE).cell 1
          simp only [List.getElem?_toArray, List.getElem?_cons_succ, List.getElem?_cons_zero] at y1
          clear hup HU HC HB1 HP1 HR1 HK1 HS11 HS21 hbE
          go_wp2_with (first
            | (at_builtin; refine wpList_append_fileAt rfl _ _ 28 rfl Try.underlying28 wr.heap.size _ [] (by rfl) HOE.out a1 c.n1 p1 c.r1 (by rfl) HSE1.out hBE (by simp; omega) ?_))
          intro v2 w2 hO2 hB2
          have HO0 : Hid (OwnFile w2 wr.heap.size v2 (crS (filesL c.r1 c.n1) c.r2 K k t 0)) := by show OwnFile _ _ _ _; exact hO2
          have HC0 : Hid (Below wr.heap.size wr w2) := HBE.out.trans hB2
          have HCF0 : Hid (CrF (crS (filesL c.r1 c.n1) c.r2 K k t 0) 0) := HCF
          clear hO2 hB2 HOE HSE1 HBE y1
          go_wp2
          obtain ⟨D, hD⟩ : ∃ D, wr.heap.size = D := ⟨_, rfl⟩
          have hFD : w.heap.size + 1 < D := by have := HR2.out.lt; omega
          rw [hD] at HO0 HC0 HK2 HS22
          have hDb : w.heap.size ≤ D := by omega
          have hDwr : D ≤ wr.heap.size := by omega
          have hPD : w.heap.size < D := by omega
          clear hD
          go_loopw [9, 10] (fun v i wq => ∃ q : Nat, i = .int .i64 q ∧ q ≤ k ∧ Hid (CrF (crS (filesL c.r1 c.n1) c.r2 K k t q) q) ∧ Hid (OwnFile wq D v (crS (filesL c.r1 c.n1) c.r2 K k t q)) ∧ Hid (Below D wr wq)) (fun _ i _ => k - (intOf i).toNat)
          case atStart => exact ⟨0, rfl, by omega, HCF0, HO0, HC0⟩
          case round =>
            obtain ⟨q, rfl, hq, HCR, HO, HC⟩ := hrel
            clear HCF0 HO0 HC0
            rename World => wq
            by_cases hlq : q < k
            · have hqi : (q : Int) < (k : Int) := by omega
              obtain ⟨kb, ko, rfl, hkb, kc0⟩ := (HK2.out.below HC.out).at hlq
              obtain ⟨hk0, hk1⟩ := ups_at HUP.out hlq
              obtain ⟨j, hj⟩ : ∃ j : Nat, K q = (j : Int) := ⟨(K q).toNat, by omega⟩
              rw [hj] at kc0 hk0 hk1
              have hjl : j < c.n2 := by have := HM.out; omega
              have hji : (j : Int) < (c.n2 : Int) := by omega
              have hOK := opC_ok HSE.out (K := K) (n := k) t (k := q) (by rw [hj]; exact hk0) (by rw [hj]; exact hji)
              have hdz : (c.r2.D j).size ≤ 200000 := see_data HSE.out hjl
              have HCRn := hide (HCR.out.step hOK.1 hOK.2)
              have HFZ := hide HCR.out.sz
              have HFL := hide HCR.out.len
              have HRI := hide HCR.out.ris
              have HOKQ := hide hOK
              obtain ⟨b2, off, rfl, hb2, c0, c1, c2, c3⟩ := (HS22.out.below HC.out).at hjl
              have hPq := HP2.out.below HC.out hPD
              have HJ := hide hj
              have hDq : D ≤ wq.heap.size := by have := HC.out.size; omega
              clear hj hk1 hOK
              go_upto_region 12 with fail
              have LO : Below wq.heap.size wq wq := Below.refl _ _
              refine wp_region_noPanic ?_
              have hb0 : Below wq.heap.size wq wq.drew := (Below.refl _ _).drew
              have LO_0 := LO.trans (hb0.mono LO.size)
              refine wp_region_held_drew (S := fun x => Below wq.heap.size wq x) (by kernel_rfl) LO_0 (fun hSz => ?_)
              clear hSz LO
              generalize wq.drew = wq0 at hb0 LO_0 ⊢
              clear hb0
              refine wpAnyH_take (i := 0) (v := .pointer (some ⟨w.heap.size, 2, none⟩)) nat0 (by kernel_rfl) (by kernel_rfl) (by kernel_rfl) (fun _ _ _ h => False.elim h) (Or.inl ⟨by rfl, ?_⟩) LO_0 ?_
              · intro wx hSw
                go_simp
              simp only [Act.put, List.setIfInBounds_toArray, List.set_cons_zero, List.set_cons_succ]
              refine wpAnyH_take (i := 1) (v := .slice (some ⟨b2, off, none⟩) c.n2 p2) nat1 (by kernel_rfl) (by kernel_rfl) (by kernel_rfl) (fun _ _ _ h => False.elim h) (Or.inl ⟨by rfl, ?_⟩) LO_0 ?_
              · intro wx hSw
                have y0 := (hPq.next hSw).cell 2
                simp only [List.getElem?_toArray, List.getElem?_cons_succ, List.getElem?_cons_zero] at y0
                go_simp
              simp only [Act.put, List.setIfInBounds_toArray, List.set_cons_zero, List.set_cons_succ]
              refine wpAnyH_take (i := 2) (v := .slice (some ⟨kb, ko, none⟩) k kc) nat2 (by kernel_rfl) (by kernel_rfl) (by kernel_rfl) (fun _ _ _ h => False.elim h) (Or.inl ⟨by rfl, ?_⟩) LO_0 ?_
              · intro wx hSw
                go_simp
              simp only [Act.put, List.setIfInBounds_toArray, List.set_cons_zero, List.set_cons_succ]
              refine wpAnyH_take (i := 3) (v := .int .i64 ((q : Int))) nat3 (by kernel_rfl) (by kernel_rfl) (by kernel_rfl) (fun _ _ _ h => False.elim h) (Or.inl ⟨by rfl, ?_⟩) LO_0 ?_
              · intro wx hSw
                go_simp
              simp only [Act.put, List.setIfInBounds_toArray, List.set_cons_zero, List.set_cons_succ]
              refine wpAnyH_take (i := 4) (v := .pointer (some ⟨kb, ko + q, none⟩)) nat4 (by kernel_rfl) (by kernel_rfl) (by kernel_rfl) (fun _ _ _ h => False.elim h) (Or.inl ⟨by rfl, ?_⟩) LO_0 ?_
              · intro wx hSw
                go_simp
              simp only [Act.put, List.setIfInBounds_toArray, List.set_cons_zero, List.set_cons_succ]
              refine wpAnyH_take (i := 5) (v := .int .i64 ((j : Int))) nat5 (by kernel_rfl) (by kernel_rfl) (by kernel_rfl) (fun _ _ _ h => False.elim h) (Or.inl ⟨by rfl, ?_⟩) LO_0 ?_
              · intro wx hSw
                have y0 := keepc hSw kc0
                go_simp
              simp only [Act.put, List.setIfInBounds_toArray, List.set_cons_zero, List.set_cons_succ]
              refine wpAnyH_take (i := 6) (v := .pointer (some ⟨b2, off + j * 4, none⟩)) nat6 (by kernel_rfl) (by kernel_rfl) (by kernel_rfl) (fun _ _ _ h => False.elim h) (Or.inl ⟨by rfl, ?_⟩) LO_0 ?_
              · intro wx hSw
                go_simp
              simp only [Act.put, List.setIfInBounds_toArray, List.set_cons_zero, List.set_cons_succ]
              refine wpAnyH_take (i := 7) (v := .agg #[.int .i64 ((c.r2.K j)), .string ((c.r2.N j)), .string ((c.r2.T j)), .string ((c.r2.D j))]) nat7 (by kernel_rfl) (by kernel_rfl) (by kernel_rfl) (fun _ _ _ h => False.elim h) (Or.inl ⟨by rfl, ?_⟩) LO_0 ?_
              · intro wx hSw
                have y0 := keepc hSw c0
                have y1 := keepc hSw c1
                have y2 := keepc hSw c2
                have y3 := keepc hSw c3
                go_simp
              simp only [Act.put, List.setIfInBounds_toArray, List.set_cons_zero, List.set_cons_succ]
              refine wpAnyH_ready (rs := [8]) (by kernel_rfl) (by simp) ?_
              refine AllReadyH.cons nat8 (fun K hK => ?_) AllReadyH.nil
              go_simp
              have hlt1 : wq.heap.size ≤ wq0.heap.size := LO_0.size
              have hb1 := below_one wq0 (.cells #[.int .i64 0, .string ⟨#[]⟩, .string ⟨#[]⟩, .string ⟨#[]⟩] 40)
              have LO_1 := LO_0.trans (hb1.mono LO_0.size)
              have NB11_1 := BoxIs.new wq0 #[.int .i64 0, .string ⟨#[]⟩, .string ⟨#[]⟩, .string ⟨#[]⟩] 40 rfl
              refine hK.out _ _ LO_1 (fun hSz => ?_)
              clear hK K hSz LO_0
              obtain ⟨G1, hG1⟩ : ∃ G, G = wq0.heap.size := ⟨_, rfl⟩
              rw [← hG1] at NB11_1 ⊢
              generalize wq0.alloc (.cells #[.int .i64 0, .string ⟨#[]⟩, .string ⟨#[]⟩, .string ⟨#[]⟩] 40) = wq1 at hb1 LO_1 NB11_1 ⊢
              rw [← hG1] at hlt1
              clear hG1 hb1
              refine wpAnyH_ready (rs := [9]) (by kernel_rfl) (by simp) ?_
              refine AllReadyH.cons nat9 (fun K hK => ?_) AllReadyH.nil
              have y0 := NB11_1.cell 0
              have y1 := NB11_1.cell 1
              have y2 := NB11_1.cell 2
              have y3 := NB11_1.cell 3
              simp only [List.getElem?_toArray, List.getElem?_cons_succ, List.getElem?_cons_zero] at y0 y1 y2 y3
              have yf := NB11_1.free
              go_simp
              clear yf y0 y1 y2 y3
              have LO_2s0 := LO_1.setCell (p := ⟨G1, 0, none⟩) hlt1 (.int .i64 ((c.r2.K j)))
              have NB11_2s0 := NB11_1.set 0 (.int .i64 ((c.r2.K j)))
              have LO_2s1 := LO_2s0.setCell (p := ⟨G1, 1, none⟩) hlt1 (.string ((c.r2.N j)))
              have NB11_2s1 := NB11_2s0.set 1 (.string ((c.r2.N j)))
              have LO_2s2 := LO_2s1.setCell (p := ⟨G1, 2, none⟩) hlt1 (.string ((c.r2.T j)))
              have NB11_2s2 := NB11_2s1.set 2 (.string ((c.r2.T j)))
              have LO_2s3 := LO_2s2.setCell (p := ⟨G1, 3, none⟩) hlt1 (.string ((c.r2.D j)))
              have NB11_2s3 := NB11_2s2.set 3 (.string ((c.r2.D j)))
              have LO_2 := LO_2s3
              have NB11_2 : BoxIs ((((wq1.setCell ⟨G1, 0, none⟩ (.int .i64 ((c.r2.K j)))).setCell ⟨G1, 1, none⟩ (.string ((c.r2.N j)))).setCell ⟨G1, 2, none⟩ (.string ((c.r2.T j)))).setCell ⟨G1, 3, none⟩ (.string ((c.r2.D j)))) G1 #[.int .i64 ((c.r2.K j)), .string ((c.r2.N j)), .string ((c.r2.T j)), .string ((c.r2.D j))] 40 := NB11_2s3
              refine hK.out _ _ LO_2 (fun hSz => ?_)
              clear hK K hSz LO_1 NB11_1 LO_2s0 LO_2s1 LO_2s2 LO_2s3 NB11_2s0 NB11_2s1 NB11_2s2 NB11_2s3
              generalize (((wq1.setCell ⟨G1, 0, none⟩ (.int .i64 ((c.r2.K j)))).setCell ⟨G1, 1, none⟩ (.string ((c.r2.N j)))).setCell ⟨G1, 2, none⟩ (.string ((c.r2.T j)))).setCell ⟨G1, 3, none⟩ (.string ((c.r2.D j))) = wq2 at LO_2 NB11_2 ⊢
              refine wpAnyH_done (by kernel_rfl) ?_ _
              refine NoPanic.normal ?_
              have hNl := hlt1
              have HX := NB11_2.hid
              have HOx := (HO.out.next LO_2).hid
              have HCx := hide (HC.out.trans (LO_2.mono hDq))
              clear LO_2 NB11_2 hlt1 kc0 c0 c1 c2 c3 hPq HO HC
              generalize G1 = X at HX hNl ⊢
              generalize wq2 = wx at HOx HCx HX ⊢
              by_cases hla : q + 1 = k
              · have hla1 : ((q : Int) == (k : Int) - 1) = true := by rw [beq_iff_eq]; omega
                have HE0 := hide (opC_last (O := c.r2) (K := K) (n := k) (k := q) (j := j) t hla HJ.out)
                clear hla
                by_cases hk1 : c.r2.K j = 1
                · have hkb : (c.r2.K j == 1) = true := by rw [beq_iff_eq]; exact hk1
                  have HK1 := hide hk1
                  clear hk1
                  by_cases hds : t < ((c.r2.D j).size : Int)
                  · have HE : Hid (opC c.r2 K k t q = ⟨c.r2.K j, c.r2.N j, c.r2.T j, ((c.r2.D j).extract 0 t.toNat)⟩) := by show _ = _; rw [HE0.out]; exact tornO_cut HK1.out hds
                    have hds2 : t ≤ ((c.r2.D j).size : Int) := by omega
                    have HOX := (HOx.out.setBox (o := 3) HX.out (by decide) (.string ((c.r2.D j).extract 0 t.toNat))).hid
                    obtain ⟨va, vp, rfl, hAr⟩ := HOX.out.arg
                    have HOD : Hid ((((c.r2.D j).extract 0 t.toNat)).size ≤ 10000000) := by have h := HOKQ.out.2; rw [HE.out] at h; exact Nat.le_trans h (by decide)
                    obtain ⟨ln, hln⟩ : ∃ ln, (crS (filesL c.r1 c.n1) c.r2 K k t q).length = ln := ⟨_, rfl⟩
                    have HZ := hide (fun i (hi : i < ln) => (by have h := sizeF_at (O := fnFile (crS (filesL c.r1 c.n1) c.r2 K k t q)) (n := ln) hi; have h2 := HFZ.out; rw [← hln, fnFile_list] at h; omega : ((fnFile (crS (filesL c.r1 c.n1) c.r2 K k t q)).D i).size ≤ 90000000))
                    have hlb : ln ≤ 260 := by have h2 := HFL.out; omega
                    have HLL : Hid (filesL (fnFile (crS (filesL c.r1 c.n1) c.r2 K k t q)) ln = (crS (filesL c.r1 c.n1) c.r2 K k t q)) := by show _ = _; rw [← hln]; exact fnFile_list _
                    rw [hln] at hAr ⊢
                    have HAX := hAr.hid
                    have HCX : Hid (Below D wr (wx.setCell ⟨X, 3, none⟩ (.string ((c.r2.D j).extract 0 t.toNat)))) := hide (HCx.out.setCell (p := ⟨X, 3, none⟩) (by show D ≤ X; omega) _)
                    have hDX : D ≤ (wx.setCell ⟨X, 3, none⟩ (.string ((c.r2.D j).extract 0 t.toNat))).heap.size := Nat.le_trans hDwr HCX.out.size
                    have x0 := HX.out.cell 0
                    have x1 := HX.out.cell 1
                    have x2 := HX.out.cell 2
                    have x3 := HX.out.cell 3
                    simp only [List.getElem?_toArray, List.getElem?_cons_succ, List.getElem?_cons_zero] at x0 x1 x2 x3
                    have xf := HX.out.free
                    clear HOX HOx HCx hAr hln
                    go_wp2_with fail
                    refine (spec_l6Do va ln vp (fnFile (crS (filesL c.r1 c.n1) c.r2 K k t q)) (c.r2.K j) (c.r2.N j) (c.r2.T j) (((c.r2.D j).extract 0 t.toNat)) (wx.setCell ⟨X, 3, none⟩ (.string ((c.r2.D j).extract 0 t.toNat))) (by omega) (by rw [HLL.out]; exact HRI.out) HZ.out HOD.out HAX.out).mono ?_
                    rintro e w9 ⟨⟨v9, rfl, ho9⟩, hb9⟩
                    rw [HLL.out] at ho9 ⊢
                    have HO9 : Hid (OwnFile w9 D v9 (crS (filesL c.r1 c.n1) c.r2 K k t (q + 1))) := by show OwnFile _ _ _ _; rw [crS, HE.out]; exact ho9.base hDX
                    have HC9 := hide (HCX.out.trans (hb9.mono hDX))
                    clear ho9 hb9 HAX HCX x0 x1 x2 x3 hDX
                    generalize doB (crS (filesL c.r1 c.n1) c.r2 K k t q) ⟨c.r2.K j, c.r2.N j, c.r2.T j, ((c.r2.D j).extract 0 t.toNat)⟩ = db
                    go_wp2
                    exact ⟨⟨q + 1, by go_num, by omega, HCRn, HO9, HC9⟩, by simp [intOf]; omega⟩
                  · have hdb : decide (t < ((c.r2.D j).size : Int)) = false := decide_eq_false hds
                    have HDS := hide hds
                    clear hds
                    have HE : Hid (opC c.r2 K k t q = ⟨c.r2.K j, c.r2.N j, c.r2.T j, c.r2.D j⟩) := by show _ = _; rw [HE0.out]; exact tornO_same (fun h => HDS.out h.2)
                    have HOX := (HOx.out).hid
                    obtain ⟨va, vp, rfl, hAr⟩ := HOX.out.arg
                    have HOD : Hid ((c.r2.D j).size ≤ 10000000) := by have h := HOKQ.out.2; rw [HE.out] at h; exact Nat.le_trans h (by decide)
                    obtain ⟨ln, hln⟩ : ∃ ln, (crS (filesL c.r1 c.n1) c.r2 K k t q).length = ln := ⟨_, rfl⟩
                    have HZ := hide (fun i (hi : i < ln) => (by have h := sizeF_at (O := fnFile (crS (filesL c.r1 c.n1) c.r2 K k t q)) (n := ln) hi; have h2 := HFZ.out; rw [← hln, fnFile_list] at h; omega : ((fnFile (crS (filesL c.r1 c.n1) c.r2 K k t q)).D i).size ≤ 90000000))
                    have hlb : ln ≤ 260 := by have h2 := HFL.out; omega
                    have HLL : Hid (filesL (fnFile (crS (filesL c.r1 c.n1) c.r2 K k t q)) ln = (crS (filesL c.r1 c.n1) c.r2 K k t q)) := by show _ = _; rw [← hln]; exact fnFile_list _
                    rw [hln] at hAr ⊢
                    have HAX := hAr.hid
                    have HCX : Hid (Below D wr wx) := hide (HCx.out)
                    have hDX : D ≤ wx.heap.size := Nat.le_trans hDwr HCX.out.size
                    have x0 := HX.out.cell 0
                    have x1 := HX.out.cell 1
                    have x2 := HX.out.cell 2
                    have x3 := HX.out.cell 3
                    simp only [List.getElem?_toArray, List.getElem?_cons_succ, List.getElem?_cons_zero] at x0 x1 x2 x3
                    clear HOX HOx HCx hAr hln
                    go_wp2_with fail
                    refine (spec_l6Do va ln vp (fnFile (crS (filesL c.r1 c.n1) c.r2 K k t q)) (c.r2.K j) (c.r2.N j) (c.r2.T j) (c.r2.D j) wx (by omega) (by rw [HLL.out]; exact HRI.out) HZ.out HOD.out HAX.out).mono ?_
                    rintro e w9 ⟨⟨v9, rfl, ho9⟩, hb9⟩
                    rw [HLL.out] at ho9 ⊢
                    have HO9 : Hid (OwnFile w9 D v9 (crS (filesL c.r1 c.n1) c.r2 K k t (q + 1))) := by show OwnFile _ _ _ _; rw [crS, HE.out]; exact ho9.base hDX
                    have HC9 := hide (HCX.out.trans (hb9.mono hDX))
                    clear ho9 hb9 HAX HCX x0 x1 x2 x3 hDX
                    generalize doB (crS (filesL c.r1 c.n1) c.r2 K k t q) ⟨c.r2.K j, c.r2.N j, c.r2.T j, c.r2.D j⟩ = db
                    go_wp2
                    exact ⟨⟨q + 1, by go_num, by omega, HCRn, HO9, HC9⟩, by simp [intOf]; omega⟩
                · have HE : Hid (opC c.r2 K k t q = ⟨c.r2.K j, c.r2.N j, c.r2.T j, c.r2.D j⟩) := by show _ = _; rw [HE0.out]; exact tornO_same (fun h => hk1 h.1)
                  have HOX := (HOx.out).hid
                  obtain ⟨va, vp, rfl, hAr⟩ := HOX.out.arg
                  have HOD : Hid ((c.r2.D j).size ≤ 10000000) := by have h := HOKQ.out.2; rw [HE.out] at h; exact Nat.le_trans h (by decide)
                  obtain ⟨ln, hln⟩ : ∃ ln, (crS (filesL c.r1 c.n1) c.r2 K k t q).length = ln := ⟨_, rfl⟩
                  have HZ := hide (fun i (hi : i < ln) => (by have h := sizeF_at (O := fnFile (crS (filesL c.r1 c.n1) c.r2 K k t q)) (n := ln) hi; have h2 := HFZ.out; rw [← hln, fnFile_list] at h; omega : ((fnFile (crS (filesL c.r1 c.n1) c.r2 K k t q)).D i).size ≤ 90000000))
                  have hlb : ln ≤ 260 := by have h2 := HFL.out; omega
                  have HLL : Hid (filesL (fnFile (crS (filesL c.r1 c.n1) c.r2 K k t q)) ln = (crS (filesL c.r1 c.n1) c.r2 K k t q)) := by show _ = _; rw [← hln]; exact fnFile_list _
                  rw [hln] at hAr ⊢
                  have HAX := hAr.hid
                  have HCX : Hid (Below D wr wx) := hide (HCx.out)
                  have hDX : D ≤ wx.heap.size := Nat.le_trans hDwr HCX.out.size
                  have x0 := HX.out.cell 0
                  have x1 := HX.out.cell 1
                  have x2 := HX.out.cell 2
                  have x3 := HX.out.cell 3
                  simp only [List.getElem?_toArray, List.getElem?_cons_succ, List.getElem?_cons_zero] at x0 x1 x2 x3
                  clear HOX HOx HCx hAr hln
                  go_wp2_with fail
                  refine (spec_l6Do va ln vp (fnFile (crS (filesL c.r1 c.n1) c.r2 K k t q)) (c.r2.K j) (c.r2.N j) (c.r2.T j) (c.r2.D j) wx (by omega) (by rw [HLL.out]; exact HRI.out) HZ.out HOD.out HAX.out).mono ?_
                  rintro e w9 ⟨⟨v9, rfl, ho9⟩, hb9⟩
                  rw [HLL.out] at ho9 ⊢
                  have HO9 : Hid (OwnFile w9 D v9 (crS (filesL c.r1 c.n1) c.r2 K k t (q + 1))) := by show OwnFile _ _ _ _; rw [crS, HE.out]; exact ho9.base hDX
                  have HC9 := hide (HCX.out.trans (hb9.mono hDX))
                  clear ho9 hb9 HAX HCX x0 x1 x2 x3 hDX
                  generalize doB (crS (filesL c.r1 c.n1) c.r2 K k t q) ⟨c.r2.K j, c.r2.N j, c.r2.T j, c.r2.D j⟩ = db
                  go_wp2
                  exact ⟨⟨q + 1, by go_num, by omega, HCRn, HO9, HC9⟩, by simp [intOf]; omega⟩
              · have hla1 : ((q : Int) == (k : Int) - 1) = false := by rw [beq_eq_false_iff_ne]; omega
                have HE := hide (opC_else (O := c.r2) (K := K) (n := k) (k := q) (j := j) t hla HJ.out)
                clear hla
                have HOX := (HOx.out).hid
                obtain ⟨va, vp, rfl, hAr⟩ := HOX.out.arg
                have HOD : Hid ((c.r2.D j).size ≤ 10000000) := by have h := HOKQ.out.2; rw [HE.out] at h; exact Nat.le_trans h (by decide)
                obtain ⟨ln, hln⟩ : ∃ ln, (crS (filesL c.r1 c.n1) c.r2 K k t q).length = ln := ⟨_, rfl⟩
                have HZ := hide (fun i (hi : i < ln) => (by have h := sizeF_at (O := fnFile (crS (filesL c.r1 c.n1) c.r2 K k t q)) (n := ln) hi; have h2 := HFZ.out; rw [← hln, fnFile_list] at h; omega : ((fnFile (crS (filesL c.r1 c.n1) c.r2 K k t q)).D i).size ≤ 90000000))
                have hlb : ln ≤ 260 := by have h2 := HFL.out; omega
                have HLL : Hid (filesL (fnFile (crS (filesL c.r1 c.n1) c.r2 K k t q)) ln = (crS (filesL c.r1 c.n1) c.r2 K k t q)) := by show _ = _; rw [← hln]; exact fnFile_list _
                rw [hln] at hAr ⊢
                have HAX := hAr.hid
                have HCX : Hid (Below D wr wx) := hide (HCx.out)
                have hDX : D ≤ wx.heap.size := Nat.le_trans hDwr HCX.out.size
                have x0 := HX.out.cell 0
                have x1 := HX.out.cell 1
                have x2 := HX.out.cell 2
                have x3 := HX.out.cell 3
                simp only [List.getElem?_toArray, List.getElem?_cons_succ, List.getElem?_cons_zero] at x0 x1 x2 x3
                clear HOX HOx HCx hAr hln
                go_wp2_with fail
                refine (spec_l6Do va ln vp (fnFile (crS (filesL c.r1 c.n1) c.r2 K k t q)) (c.r2.K j) (c.r2.N j) (c.r2.T j) (c.r2.D j) wx (by omega) (by rw [HLL.out]; exact HRI.out) HZ.out HOD.out HAX.out).mono ?_
                rintro e w9 ⟨⟨v9, rfl, ho9⟩, hb9⟩
                rw [HLL.out] at ho9 ⊢
                have HO9 : Hid (OwnFile w9 D v9 (crS (filesL c.r1 c.n1) c.r2 K k t (q + 1))) := by show OwnFile _ _ _ _; rw [crS, HE.out]; exact ho9.base hDX
                have HC9 := hide (HCX.out.trans (hb9.mono hDX))
                clear ho9 hb9 HAX HCX x0 x1 x2 x3 hDX
                generalize doB (crS (filesL c.r1 c.n1) c.r2 K k t q) ⟨c.r2.K j, c.r2.N j, c.r2.T j, c.r2.D j⟩ = db
                go_wp2
                exact ⟨⟨q + 1, by go_num, by omega, HCRn, HO9, HC9⟩, by simp [intOf]; omega⟩
            · obtain rfl : q = k := by omega
              obtain ⟨va, vp, rfl, hAr⟩ := HO.out.arg
              obtain ⟨LF, hLF⟩ : ∃ LF, crS (filesL c.r1 c.n1) c.r2 K q t q = LF := ⟨_, rfl⟩
              have HLF := hide hLF
              rw [hLF] at HCR HO hAr ⊢
              obtain ⟨ln, hln⟩ : ∃ ln, LF.length = ln := ⟨_, rfl⟩
              have HLN := hide hln
              have HFB : Hid (filesB (fnFile LF) ln = fitsB LF) := by show _ = _; rw [← hln]; exact filesB_list HCR.out.ris HCR.out.nm
              have HZ := hide (fun i (hi : i < ln) => (by have h := sizeF_at (O := fnFile LF) (n := ln) hi; have h2 := HCR.out.sz; rw [← hln, fnFile_list] at h; omega : ((fnFile LF).D i).size ≤ 90000000))
              have hlb : ln ≤ 260 := by have h2 := HCR.out.len; omega
              have HLL : Hid (filesL (fnFile LF) ln = LF) := by show _ = _; rw [← hln]; exact fnFile_list _
              rw [hln] at hAr ⊢
              have HAr := hAr.hid
              have hDq : D ≤ wq.heap.size := by have := HC.out.size; omega
              rw [hln] at HO
              clear hAr hLF hln HCR
              go_wp2_with fail
              refine (spec_l6Files va ln vp (fnFile LF) wq HZ.out (by omega) HAr.out).mono ?_
              rintro e w8 ⟨rfl, hb8⟩
              rw [HFB.out]
              have HB8 := hide (HB2.out.trans ((HC.out.trans (hb8.mono hDq)).mono hDb))
              have HR8 := ((HR2.out.below HC.out hFD).next hb8).hid
              have HO8 := (HO.out.next hb8).hid
              have HAr8 := (HAr.out.next hb8).hid
              have hw8 := hb8.size
              clear hb8 HO HC HAr
              cases hfi : fitsB LF with
              | false =>
                obtain ⟨q1, q2⟩ := crB_full (by rw [HLF.out]; exact hfi)
                have HQ1 := hide q1
                have HQ2 := hide q2
                have r0 := HR8.out.cell 0
                have r1 := HR8.out.cell 1
                have r2 := HR8.out.cell 2
                have rf := HR8.out.free
                simp only [List.getElem?_toArray, List.getElem?_cons_succ, List.getElem?_cons_zero] at r0 r1 r2
                have HL := hide (below_put3 (F := w.heap.size + 1) HB8.out (Nat.le_succ _) (.slice none 0 0) (.slice none 0 0) (.slice none 0 0))
                clear q1 q2 hfi HB8 HR8 HO8
                go_wp2
                refine bodyPost_ret (v := .tuple #[.agg #[.slice none 0 0, .slice none 0 0, .slice none 0 0], .bool false]) (by simp [results, Try.results25, go_sem, r0, r1, r2]) rfl ⟨⟨_, ret_tupB rfl HQ1.out.symm, ?_⟩, HL.out⟩
                rw [HQ2.out]; exact made_nil _ _
              | true =>
                obtain ⟨q1, q2⟩ := crB_yes HDD.out (by rw [HM.out]; exact HUP.out) ht (by rw [HLF.out]; exact hfi)
                rw [HLF.out] at q2
                have HQ1 := hide q1
                have HQ2 := hide q2
                have hbE := below_one w8 (.cells #[] 96)
                have HOE := (OwnFile.lit w8 w8.heap.size (Nat.le_refl _)).hid
                have HOb := (HO8.out.next hbE).hid
                have HAr2 := (HAr8.out.next hbE).hid
                have hBE := hbE.size
                have HBE := hide hbE
                have HR9 := (HR8.out.next hbE).hid
                clear hfi q1 q2 hbE HR8 HAr8
                go_wp2_with (first
                  | (at_builtin; refine wpList_append_fileAt rfl _ _ 28 rfl Try.underlying28 w8.heap.size _ [] (by rfl) HOE.out va ln vp (fnFile LF) (by rfl) HAr2.out hBE (by simp; omega) ?_))
                intro v9 w9 hO9 hB9
                have ho9 : OwnFile w9 w8.heap.size v9 LF := by have h := hO9; rw [HLL.out] at h; exact h
                have hB9w := HBE.out.trans hB9
                have HAP := hide (apart_later HO8.out ho9)
                have hM : DiskMade w9 D (.agg #[.slice va ln vp, v9, .slice none 0 0]) LF LF [] := ⟨_, _, _, rfl, HO8.out.next hB9w, ho9.base (by omega), OwnDOp.nil _ _, .inr HAP.out⟩
                obtain ⟨ya, yn, yp, rfl⟩ := ho9.shapeN
                have hR9 := HR9.out.below hB9 (by have := HR9.out.lt; omega)
                have r0 := hR9.cell 0
                have r1 := hR9.cell 1
                have r2 := hR9.cell 2
                have rf := hR9.free
                simp only [List.getElem?_toArray, List.getElem?_cons_succ, List.getElem?_cons_zero] at r0 r1 r2
                have HM9 := (hM.put3 (F := w.heap.size + 1) hFD (.slice va ln vp) (.slice ya yn yp) (.slice none 0 0)).hid
                have HL := hide (below_put3 (F := w.heap.size + 1) (HB8.out.trans (hB9w.mono HB8.out.size)) (Nat.le_succ _) (.slice va ln vp) (.slice ya yn yp) (.slice none 0 0))
                clear hO9 hB9 ho9 hB9w HAP hM hR9 HOE HOb HAr2 HBE HR9 HO8 HB8
                go_wp2
                refine bodyPost_ret (v := .tuple #[.agg #[.slice va ln vp, .slice ya yn yp, .slice none 0 0], .bool true]) (by simp [results, Try.results25, go_sem, r0, r1, r2]) rfl ⟨⟨_, ret_tupB rfl HQ1.out.symm, ?_⟩, HL.out⟩
                rw [HQ2.out]; exact HM9.out.base hDb
  
    · obtain ⟨q1, q2⟩ := crB_torn c K n ht
      have ht0 : t < 0 := by omega
      have HQ1 := hide q1
      have HQ2 := hide q2
      have r0 := HR1.out.cell 0
      have r1 := HR1.out.cell 1
      have r2 := HR1.out.cell 2
      have rf := HR1.out.free
      simp only [List.getElem?_toArray, List.getElem?_cons_succ, List.getElem?_cons_zero] at r0 r1 r2
      have HL := hide (below_put3 (F := w.heap.size + 1) HB1.out (Nat.le_succ _) (.slice none 0 0) (.slice none 0 0) (.slice none 0 0))
      clear q1 q2 hd HB1 HR1 HP1 HK1 HS11 HS21
      go_wp2
      refine bodyPost_ret (v := .tuple #[.agg #[.slice none 0 0, .slice none 0 0, .slice none 0 0], .bool false]) (by simp [results, Try.results25, go_sem, r0, r1, r2]) rfl ⟨⟨_, ret_tupB rfl HQ1.out.symm, ?_⟩, HL.out⟩
      rw [HQ2.out]; exact made_nil _ _
end Go.Proofs.Ytejedpmkbkclhaa
