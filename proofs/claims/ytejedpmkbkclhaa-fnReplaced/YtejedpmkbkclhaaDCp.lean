/- The program's copies: of files, of an op, of ops, of a disk. (By gen_dcp.py.) -/
import Derived.Test.YtejedpmkbkclhaaClone
import Derived.Test.YtejedpmkbkclhaaOwnFile
import Derived.Test.YtejedpmkbkclhaaOwnDOp
import Derived.Test.YtejedpmkbkclhaaDisk
import Derived.Test.YtejedpmkbkclhaaNth
import Derived.Test.YtejedpmkbkclhaaReg
import Derived.BigQuiet
import Derived.Deep.DeepCutAuto
import Derived.Deep.RegionHeld3
namespace Go.Proofs.Ytejedpmkbkclhaa
set_option maxRecDepth 100000
open Go.RowKit Go.Deep

set_option linter.unusedVariables false in
set_option linter.unusedSimpArgs false in
set_option maxHeartbeats 4000000 in
theorem impl_copyFiles (a : Option Addr) (n cap : Nat) (O : Files) (w : World) (hn : n ≤ 100000) (hz : ∀ i, i < n → (O.N i).size ≤ 100000000 ∧ (O.D i).size ≤ 100000000) (hS : FileAt w w.heap.size a n O) :
    Calls Try.prog 56 #[.slice a n cap] w fun e w' => (∃ v, e = .returned v ∧ OwnFile w' w.heap.size v (filesL O n)) ∧ Below w.heap.size w w' := by
  have HS := hS.hid
  have HZ := hide hz
  have HO0 : Hid (OwnFile w w.heap.size (.slice none 0 0) (filesL O 0)) := OwnFile.nil _ _
  have HB0 : Hid (Below w.heap.size w w) := Below.refl _ _
  clear hS hz
  go_enter Try.func56, Try.ntmps56
  go_wp2
  go_loopw [3, 8] (fun v i wr => ∃ k : Nat, i = .int .i64 k ∧ k ≤ n ∧ Hid (OwnFile wr w.heap.size v (filesL O k)) ∧ Hid (Below w.heap.size w wr)) (fun _ i _ => n - (intOf i).toNat)
  case atStart => exact ⟨0, rfl, by omega, HO0, HB0⟩
  case round =>
    obtain ⟨k, rfl, hk, HO, HB⟩ := hrel
    clear HO0 HB0
    by_cases hlt : k < n
    · have hki : (k : Int) < (n : Int) := by omega
      obtain ⟨b, off, rfl, hb, c0, c1⟩ := ((HS.out.below HB.out).mono HB.out.size).at hlt
      obtain ⟨hz1, hz2⟩ := HZ.out k hlt
      have hbM := below_one wr (.cells #[.string (O.N k), .string (O.D k)] 96)
      have hM := BoxIs.new wr #[.string (O.N k), .string (O.D k)] 96 rfl
      have hO1 := HO.out.next hbM
      have hB1 := HB.out.trans (hbM.mono HB.out.size)
      have HLOW : Hid (∀ q, u3.ownBlock = some q → q < wr.heap.size) := fun q hq => (World.ownsRow.lt HO.out q hq).2
      obtain ⟨va, vn, vp, rfl⟩ := HO.out.shapeN
      have hle := filesL_len O k
      clear hbM HO HB
      go_upto_region 5 with fail
      generalize wr.alloc (.cells #[.string (O.N k), .string (O.D k)] 96) = W1 at hM hO1 hB1 ⊢
      generalize wr.heap.size = M at hM HLOW ⊢
      clear c0 c1
      refine wp_region_noPanic ?_
      have hb0 : Below W1.heap.size W1 W1.drew := (Below.refl _ _).drew
      have hM_0 := hM.next hb0
      have hO1_0 := hO1.next hb0
      have hB1_0 := hB1.trans (hb0.mono hB1.size)
      refine wp_region_held_drew (S := fun x => BoxIs x M #[.string (O.N k), .string (O.D k)] 96) (by kernel_rfl) hM_0 (fun hSz => ?_)
      clear hSz hB1 hM hO1
      generalize W1.drew = wq0 at hb0 hM_0 hO1_0 hB1_0 ⊢
      clear hb0
      refine wpAnyH_take (i := 0) (v := .slice va vn vp) nat0 (by kernel_rfl) (by kernel_rfl) (by kernel_rfl) (fun _ _ _ h => False.elim h) (Or.inl ⟨by rfl, ?_⟩) hM_0 ?_
      · intro wx hSw
        go_simp
      simp only [Act.put, List.setIfInBounds_toArray, List.set_cons_zero, List.set_cons_succ]
      refine wpAnyH_take (i := 1) (v := .pointer (some ⟨M, 0, none⟩)) nat1 (by kernel_rfl) (by kernel_rfl) (by kernel_rfl) (fun _ _ _ h => False.elim h) (Or.inl ⟨by rfl, ?_⟩) hM_0 ?_
      · intro wx hSw
        go_simp
      simp only [Act.put, List.setIfInBounds_toArray, List.set_cons_zero, List.set_cons_succ]
      refine wpAnyH_take (i := 2) (v := .string ((O.N k))) nat2 (by kernel_rfl) (by kernel_rfl) (by kernel_rfl) (fun _ _ _ h => False.elim h) (Or.inl ⟨by rfl, ?_⟩) hM_0 ?_
      · intro wx hSw
        have y0 := hSw.cell 0
        simp only [List.getElem?_toArray, List.getElem?_cons_succ, List.getElem?_cons_zero] at y0
        go_simp
      simp only [Act.put, List.setIfInBounds_toArray, List.set_cons_zero, List.set_cons_succ]
      refine wpAnyH_take (i := 4) (v := .pointer (some ⟨M, 1, none⟩)) nat4 (by kernel_rfl) (by kernel_rfl) (by kernel_rfl) (fun _ _ _ h => False.elim h) (Or.inl ⟨by rfl, ?_⟩) hM_0 ?_
      · intro wx hSw
        go_simp
      simp only [Act.put, List.setIfInBounds_toArray, List.set_cons_zero, List.set_cons_succ]
      refine wpAnyH_take (i := 5) (v := .string ((O.D k))) nat5 (by kernel_rfl) (by kernel_rfl) (by kernel_rfl) (fun _ _ _ h => False.elim h) (Or.inl ⟨by rfl, ?_⟩) hM_0 ?_
      · intro wx hSw
        have y0 := hSw.cell 1
        simp only [List.getElem?_toArray, List.getElem?_cons_succ, List.getElem?_cons_zero] at y0
        go_simp
      simp only [Act.put, List.setIfInBounds_toArray, List.set_cons_zero, List.set_cons_succ]
      refine wpAnyH_ready (rs := [3]) (by kernel_rfl) (by simp) ?_
      refine AllReadyH.cons nat3 (fun K hK => ?_) AllReadyH.nil
      go_simp
      go_at_call 91
      refine (strings_Clone (O.N k) _ (by omega)).mono ?_
      rintro e wq1 ⟨rfl, hb1⟩
      have hM_1 := hM_0.next hb1
      have hO1_1 := hO1_0.next hb1
      have hB1_1 := hB1_0.trans (hb1.mono hB1_0.size)
      refine hK.out _ _ hM_1 (fun hSz => ?_)
      clear hK K hSz hB1_0 hM_0 hO1_0 hb1
      refine wpAnyH_ready (rs := [6]) (by kernel_rfl) (by simp) ?_
      refine AllReadyH.cons nat6 (fun K hK => ?_) AllReadyH.nil
      go_simp
      go_at_call 91
      refine (strings_Clone (O.D k) _ (by omega)).mono ?_
      rintro e wq2 ⟨rfl, hb2⟩
      have hM_2 := hM_1.next hb2
      have hO1_2 := hO1_1.next hb2
      have hB1_2 := hB1_1.trans (hb2.mono hB1_1.size)
      refine hK.out _ _ hM_2 (fun hSz => ?_)
      clear hK K hSz hB1_1 hM_1 hO1_1 hb2
      refine wpAnyH_take (i := 7) (v := .agg #[.string ((O.N k)), .string ((O.D k))]) nat7 (by kernel_rfl) (by kernel_rfl) (by kernel_rfl) (fun _ _ _ h => False.elim h) (Or.inl ⟨by rfl, ?_⟩) hM_2 ?_
      · intro wx hSw
        go_simp
      simp only [Act.put, List.setIfInBounds_toArray, List.set_cons_zero, List.set_cons_succ]
      refine wpAnyH_ready (rs := [8]) (by kernel_rfl) (by simp) ?_
      refine AllReadyH.cons nat8 (fun K hK => ?_) AllReadyH.nil
      go_simp
      have hb3 := below_one wq2 (.cells #[.string ((O.N k)), .string ((O.D k))] 96)
      have hM_3 := hM_2.next hb3
      have hO1_3 := hO1_2.next hb3
      have hB1_3 := hB1_2.trans (hb3.mono hB1_2.size)
      have NB20_3 := BoxIs.new wq2 #[.string ((O.N k)), .string ((O.D k))] 96 rfl
      refine hK.out _ _ hM_3 (fun hSz => ?_)
      clear hK K hSz hB1_2 hM_2 hO1_2
      obtain ⟨G3, hG3⟩ : ∃ G, G = wq2.heap.size := ⟨_, rfl⟩
      rw [← hG3] at NB20_3 ⊢
      generalize wq2.alloc (.cells #[.string ((O.N k)), .string ((O.D k))] 96) = wq3 at hb3 hM_3 hO1_3 hB1_3 NB20_3 ⊢
      clear hG3 hb3
      refine wpAnyH_ready (rs := [9]) (by kernel_rfl) (by simp) ?_
      refine AllReadyH.cons nat9 (fun K hK => ?_) AllReadyH.nil
      refine step_append_file rfl (.tmp 12) (.tmp 20) 28 rfl Try.underlying28 w.heap.size (.slice va vn vp) (filesL O k) [fileAt1 O k] (by rfl) hO1_3 ⟨G3, 0, none⟩ 1 1 (by rfl) rfl (file_news (e := fileAt1 O k) NB20_3) hB1_3.size (by omega) ?_
      intro v4 wq4 h1 h2
      have ho4 : OwnFile wq4 w.heap.size v4 (filesL O (k + 1)) := by rw [filesL_succ]; exact h1
      obtain ⟨va4, vn4, vp4, rfl⟩ := ho4.shapeN
      clear h1
      have hM_4 := (h2.block M hM_3.lt (fun e => Nat.lt_irrefl _ (HLOW.out M e.symm))).trans hM_3
      have hO1_4 := ho4
      have hB1_4 := hB1_3.trans (hO1_3.grownBelow hB1_3.size h2)
      refine hK.out _ _ hM_4 (fun hSz => ?_)
      clear hK K hSz NB20_3 hB1_3 hM_3 hO1_3
      clear h2 ho4
      refine wpAnyH_take (i := 10) (v := .slice va4 vn4 vp4) nat10 (by kernel_rfl) (by kernel_rfl) (by kernel_rfl) (fun _ _ _ h => False.elim h) (Or.inl ⟨by rfl, ?_⟩) hM_4 ?_
      · intro wx hSw
        go_simp
      simp only [Act.put, List.setIfInBounds_toArray, List.set_cons_zero, List.set_cons_succ]
      refine wpAnyH_done (by kernel_rfl) ?_ _
      refine NoPanic.normal ?_
      have HO2 := hO1_4.hid
      have HB2 := hide hB1_4
      clear hM_4 hO1_4 hB1_4 HLOW
      go_wp2
      exact ⟨⟨k + 1, by go_num, by omega, HO2, HB2⟩, by simp [intOf]; omega⟩
    · obtain rfl : k = n := by omega
      go_wp2
      go_ret
      exact ⟨⟨_, rfl, HO.out⟩, HB.out⟩
set_option linter.unusedVariables false in
set_option linter.unusedSimpArgs false in
set_option maxHeartbeats 4000000 in
theorem impl_copyOp (k : Int) (m t d : ByteArray) (w : World) (hm : m.size ≤ 100000000) (ht : t.size ≤ 100000000) (hd : d.size ≤ 100000000) :
    Calls Try.prog 58 #[.agg #[.int .i64 k, .string m, .string t, .string d]] w fun e w' => e = .returned (.agg #[.int .i64 k, .string m, .string t, .string d]) ∧ Below w.heap.size w w' := by
  have hP := (BoxIs.new w #[.int .i64 k, .string m, .string t, .string d] 40 rfl).next (below_one _ (.cells #[.int .i64 0, .string ⟨#[]⟩, .string ⟨#[]⟩, .string ⟨#[]⟩] 40))
  have hR := BoxIs.new (w.alloc (.cells #[.int .i64 k, .string m, .string t, .string d] 40)) #[.int .i64 0, .string ⟨#[]⟩, .string ⟨#[]⟩, .string ⟨#[]⟩] 40 (g := w.heap.size + 1) (by simp)
  have hB : Below w.heap.size w ((w.alloc (.cells #[.int .i64 k, .string m, .string t, .string d] 40)).alloc (.cells #[.int .i64 0, .string ⟨#[]⟩, .string ⟨#[]⟩, .string ⟨#[]⟩] 40)) := ((Below.refl _ _).alloc (Nat.le_refl _) _).alloc (by simp) _
  go_enter Try.func58, Try.ntmps58
  go_upto_region 1 with fail
  generalize (w.alloc (.cells #[.int .i64 k, .string m, .string t, .string d] 40)).alloc (.cells #[.int .i64 0, .string ⟨#[]⟩, .string ⟨#[]⟩, .string ⟨#[]⟩] 40) = W at hP hR hB ⊢
  refine wp_region_noPanic ?_
  have hb0 : Below W.heap.size W W.drew := (Below.refl _ _).drew
  have hP_0 := hP.next hb0
  have hR_0 := hR.next hb0
  have hB_0 := hB.trans (hb0.mono hB.size)
  refine wp_region_held_drew (S := fun x => BoxIs x w.heap.size #[.int .i64 k, .string m, .string t, .string d] 40) (by kernel_rfl) hP_0 (fun hSz => ?_)
  clear hSz hB hP hR
  generalize W.drew = wq0 at hb0 hP_0 hR_0 hB_0 ⊢
  clear hb0
  refine wpAnyH_take (i := 0) (v := .pointer (some ⟨w.heap.size, 0, none⟩)) nat0 (by kernel_rfl) (by kernel_rfl) (by kernel_rfl) (fun _ _ _ h => False.elim h) (Or.inl ⟨by rfl, ?_⟩) hP_0 ?_
  · intro wx hSw
    go_simp
  simp only [Act.put, List.setIfInBounds_toArray, List.set_cons_zero, List.set_cons_succ]
  refine wpAnyH_take (i := 1) (v := .int .i64 k) nat1 (by kernel_rfl) (by kernel_rfl) (by kernel_rfl) (fun _ _ _ h => False.elim h) (Or.inl ⟨by rfl, ?_⟩) hP_0 ?_
  · intro wx hSw
    have y0 := hSw.cell 0
    simp only [List.getElem?_toArray, List.getElem?_cons_succ, List.getElem?_cons_zero] at y0
    go_simp
  simp only [Act.put, List.setIfInBounds_toArray, List.set_cons_zero, List.set_cons_succ]
  refine wpAnyH_take (i := 2) (v := .pointer (some ⟨w.heap.size, 1, none⟩)) nat2 (by kernel_rfl) (by kernel_rfl) (by kernel_rfl) (fun _ _ _ h => False.elim h) (Or.inl ⟨by rfl, ?_⟩) hP_0 ?_
  · intro wx hSw
    go_simp
  simp only [Act.put, List.setIfInBounds_toArray, List.set_cons_zero, List.set_cons_succ]
  refine wpAnyH_take (i := 3) (v := .string m) nat3 (by kernel_rfl) (by kernel_rfl) (by kernel_rfl) (fun _ _ _ h => False.elim h) (Or.inl ⟨by rfl, ?_⟩) hP_0 ?_
  · intro wx hSw
    have y0 := hSw.cell 1
    simp only [List.getElem?_toArray, List.getElem?_cons_succ, List.getElem?_cons_zero] at y0
    go_simp
  simp only [Act.put, List.setIfInBounds_toArray, List.set_cons_zero, List.set_cons_succ]
  refine wpAnyH_take (i := 5) (v := .pointer (some ⟨w.heap.size, 2, none⟩)) nat5 (by kernel_rfl) (by kernel_rfl) (by kernel_rfl) (fun _ _ _ h => False.elim h) (Or.inl ⟨by rfl, ?_⟩) hP_0 ?_
  · intro wx hSw
    go_simp
  simp only [Act.put, List.setIfInBounds_toArray, List.set_cons_zero, List.set_cons_succ]
  refine wpAnyH_take (i := 6) (v := .string t) nat6 (by kernel_rfl) (by kernel_rfl) (by kernel_rfl) (fun _ _ _ h => False.elim h) (Or.inl ⟨by rfl, ?_⟩) hP_0 ?_
  · intro wx hSw
    have y0 := hSw.cell 2
    simp only [List.getElem?_toArray, List.getElem?_cons_succ, List.getElem?_cons_zero] at y0
    go_simp
  simp only [Act.put, List.setIfInBounds_toArray, List.set_cons_zero, List.set_cons_succ]
  refine wpAnyH_take (i := 8) (v := .pointer (some ⟨w.heap.size, 3, none⟩)) nat8 (by kernel_rfl) (by kernel_rfl) (by kernel_rfl) (fun _ _ _ h => False.elim h) (Or.inl ⟨by rfl, ?_⟩) hP_0 ?_
  · intro wx hSw
    go_simp
  simp only [Act.put, List.setIfInBounds_toArray, List.set_cons_zero, List.set_cons_succ]
  refine wpAnyH_take (i := 9) (v := .string d) nat9 (by kernel_rfl) (by kernel_rfl) (by kernel_rfl) (fun _ _ _ h => False.elim h) (Or.inl ⟨by rfl, ?_⟩) hP_0 ?_
  · intro wx hSw
    have y0 := hSw.cell 3
    simp only [List.getElem?_toArray, List.getElem?_cons_succ, List.getElem?_cons_zero] at y0
    go_simp
  simp only [Act.put, List.setIfInBounds_toArray, List.set_cons_zero, List.set_cons_succ]
  refine wpAnyH_ready (rs := [4]) (by kernel_rfl) (by simp) ?_
  refine AllReadyH.cons nat4 (fun K hK => ?_) AllReadyH.nil
  go_simp
  go_at_call 91
  refine (strings_Clone m _ (by omega)).mono ?_
  rintro e wq1 ⟨rfl, hb1⟩
  have hP_1 := hP_0.next hb1
  have hR_1 := hR_0.next hb1
  have hB_1 := hB_0.trans (hb1.mono hB_0.size)
  refine hK.out _ _ hP_1 (fun hSz => ?_)
  clear hK K hSz hB_0 hP_0 hR_0 hb1
  refine wpAnyH_ready (rs := [7]) (by kernel_rfl) (by simp) ?_
  refine AllReadyH.cons nat7 (fun K hK => ?_) AllReadyH.nil
  go_simp
  go_at_call 91
  refine (strings_Clone t _ (by omega)).mono ?_
  rintro e wq2 ⟨rfl, hb2⟩
  have hP_2 := hP_1.next hb2
  have hR_2 := hR_1.next hb2
  have hB_2 := hB_1.trans (hb2.mono hB_1.size)
  refine hK.out _ _ hP_2 (fun hSz => ?_)
  clear hK K hSz hB_1 hP_1 hR_1 hb2
  refine wpAnyH_ready (rs := [10]) (by kernel_rfl) (by simp) ?_
  refine AllReadyH.cons nat10 (fun K hK => ?_) AllReadyH.nil
  go_simp
  go_at_call 91
  refine (strings_Clone d _ (by omega)).mono ?_
  rintro e wq3 ⟨rfl, hb3⟩
  have hP_3 := hP_2.next hb3
  have hR_3 := hR_2.next hb3
  have hB_3 := hB_2.trans (hb3.mono hB_2.size)
  refine hK.out _ _ hP_3 (fun hSz => ?_)
  clear hK K hSz hB_2 hP_2 hR_2 hb3
  refine wpAnyH_take (i := 11) (v := .agg #[.int .i64 k, .string m, .string t, .string d]) nat11 (by kernel_rfl) (by kernel_rfl) (by kernel_rfl) (fun _ _ _ h => False.elim h) (Or.inl ⟨by rfl, ?_⟩) hP_3 ?_
  · intro wx hSw
    go_simp
  simp only [Act.put, List.setIfInBounds_toArray, List.set_cons_zero, List.set_cons_succ]
  refine wpAnyH_ready (rs := [12]) (by kernel_rfl) (by simp) ?_
  refine AllReadyH.cons nat12 (fun K hK => ?_) AllReadyH.nil
  have y0 := hR_3.cell 0
  have y1 := hR_3.cell 1
  have y2 := hR_3.cell 2
  have y3 := hR_3.cell 3
  simp only [List.getElem?_toArray, List.getElem?_cons_succ, List.getElem?_cons_zero] at y0 y1 y2 y3
  have yf := hR_3.free
  go_simp
  clear yf y0 y1 y2 y3
  have hP_4s0 := hP_3.set_other (p := ⟨w.heap.size + 1, 0, none⟩) (by simp) (.int .i64 k)
  have hR_4s0 := hR_3.set 0 (.int .i64 k)
  have hB_4s0 := hB_3.setCell (p := ⟨w.heap.size + 1, 0, none⟩) (Nat.le_succ _) (.int .i64 k)
  have hP_4s1 := hP_4s0.set_other (p := ⟨w.heap.size + 1, 1, none⟩) (by simp) (.string m)
  have hR_4s1 := hR_4s0.set 1 (.string m)
  have hB_4s1 := hB_4s0.setCell (p := ⟨w.heap.size + 1, 1, none⟩) (Nat.le_succ _) (.string m)
  have hP_4s2 := hP_4s1.set_other (p := ⟨w.heap.size + 1, 2, none⟩) (by simp) (.string t)
  have hR_4s2 := hR_4s1.set 2 (.string t)
  have hB_4s2 := hB_4s1.setCell (p := ⟨w.heap.size + 1, 2, none⟩) (Nat.le_succ _) (.string t)
  have hP_4s3 := hP_4s2.set_other (p := ⟨w.heap.size + 1, 3, none⟩) (by simp) (.string d)
  have hR_4s3 := hR_4s2.set 3 (.string d)
  have hB_4s3 := hB_4s2.setCell (p := ⟨w.heap.size + 1, 3, none⟩) (Nat.le_succ _) (.string d)
  have hP_4 := hP_4s3
  have hR_4 : BoxIs ((((wq3.setCell ⟨(w.heap.size + 1), 0, none⟩ (.int .i64 k)).setCell ⟨(w.heap.size + 1), 1, none⟩ (.string m)).setCell ⟨(w.heap.size + 1), 2, none⟩ (.string t)).setCell ⟨(w.heap.size + 1), 3, none⟩ (.string d)) (w.heap.size + 1) #[.int .i64 k, .string m, .string t, .string d] 40 := hR_4s3
  have hB_4 := hB_4s3
  refine hK.out _ _ hP_4 (fun hSz => ?_)
  clear hK K hSz hB_3 hP_3 hR_3 hP_4s0 hP_4s1 hP_4s2 hP_4s3 hR_4s0 hR_4s1 hR_4s2 hR_4s3 hB_4s0 hB_4s1 hB_4s2 hB_4s3
  generalize (((wq3.setCell ⟨(w.heap.size + 1), 0, none⟩ (.int .i64 k)).setCell ⟨(w.heap.size + 1), 1, none⟩ (.string m)).setCell ⟨(w.heap.size + 1), 2, none⟩ (.string t)).setCell ⟨(w.heap.size + 1), 3, none⟩ (.string d) = wq4 at hP_4 hR_4 hB_4 ⊢
  refine wpAnyH_done (by kernel_rfl) ?_ _
  refine NoPanic.normal ?_
  have z0 := hR_4.cell 0
  have z1 := hR_4.cell 1
  have z2 := hR_4.cell 2
  have z3 := hR_4.cell 3
  simp only [List.getElem?_toArray, List.getElem?_cons_succ, List.getElem?_cons_zero] at z0 z1 z2 z3
  go_wp2
  exact bodyPost_ret (v := .agg #[.int .i64 k, .string m, .string t, .string d]) (by simp [results, Try.results58, go_sem, z0, z1, z2, z3]) rfl ⟨rfl, hB_4⟩
set_option linter.unusedVariables false in
set_option linter.unusedSimpArgs false in
set_option maxHeartbeats 4000000 in
theorem impl_copyOps (a : Option Addr) (n cap : Nat) (O : DOps) (w : World) (hn : n ≤ 100000) (hz : ∀ i, i < n → (O.N i).size ≤ 100000000 ∧ (O.T i).size ≤ 100000000 ∧ (O.D i).size ≤ 100000000) (hS : DOpAt w w.heap.size a n O) :
    Calls Try.prog 57 #[.slice a n cap] w fun e w' => (∃ v, e = .returned v ∧ OwnDOp w' w.heap.size v (dOpsL O n)) ∧ Below w.heap.size w w' := by
  have HS := hS.hid
  have HZ := hide hz
  have HO0 : Hid (OwnDOp w w.heap.size (.slice none 0 0) (dOpsL O 0)) := OwnDOp.nil _ _
  have HB0 : Hid (Below w.heap.size w w) := Below.refl _ _
  clear hS hz
  go_enter Try.func57, Try.ntmps57
  go_wp2
  go_loopw [3, 8] (fun v i wr => ∃ k : Nat, i = .int .i64 k ∧ k ≤ n ∧ Hid (OwnDOp wr w.heap.size v (dOpsL O k)) ∧ Hid (Below w.heap.size w wr)) (fun _ i _ => n - (intOf i).toNat)
  case atStart => exact ⟨0, rfl, by omega, HO0, HB0⟩
  case round =>
    obtain ⟨k, rfl, hk, HO, HB⟩ := hrel
    clear HO0 HB0
    by_cases hlt : k < n
    · have hki : (k : Int) < (n : Int) := by omega
      obtain ⟨b, off, rfl, hb, c0, c1, c2, c3⟩ := ((HS.out.below HB.out).mono HB.out.size).at hlt
      obtain ⟨hz1, hz2, hz3⟩ := HZ.out k hlt
      have hbM := below_one wr (.cells #[.int .i64 (O.K k), .string (O.N k), .string (O.T k), .string (O.D k)] 40)
      have hM := BoxIs.new wr #[.int .i64 (O.K k), .string (O.N k), .string (O.T k), .string (O.D k)] 40 rfl
      have HO1 := (HO.out.next hbM).hid
      have HB1 := hide (HB.out.trans (hbM.mono HB.out.size))
      obtain ⟨va, vn, vp, rfl⟩ := HO.out.shapeN
      have hle := dOpsL_len O k
      have m0 := hM.cell 0
      have m1 := hM.cell 1
      have m2 := hM.cell 2
      have m3 := hM.cell 3
      simp only [List.getElem?_toArray, List.getElem?_cons_succ, List.getElem?_cons_zero] at m0 m1 m2 m3
      clear hbM HO HB hM
      go_wp2_with fail
      refine (impl_copyOp (O.K k) (O.N k) (O.T k) (O.D k) _ (by omega) (by omega) (by omega)).mono ?_
      rintro e w2 ⟨rfl, hb2⟩
      have hbN := below_one w2 (.cells #[.int .i64 (O.K k), .string (O.N k), .string (O.T k), .string (O.D k)] 40)
      have HN := (BoxIs.new w2 #[.int .i64 (O.K k), .string (O.N k), .string (O.T k), .string (O.D k)] 40 rfl).hid
      have HO2 := ((HO1.out.next hb2).next hbN).hid
      have HB2 := hide ((HB1.out.trans (hb2.mono HB1.out.size)).trans (hbN.mono (HB1.out.trans (hb2.mono HB1.out.size)).size))
      clear hb2 hbN HO1 HB1 m0 m1 m2 m3 c0 c1 c2 c3
      go_wp2_with (first
        | (at_builtin; refine wpList_append_dOp rfl _ _ 29 rfl Try.underlying29 w.heap.size _ (dOpsL O k) [dOpAt1 O k] (by rfl) HO2.out ⟨w2.heap.size, 0, none⟩ 1 1 (by rfl) rfl (dOp_news (e := dOpAt1 O k) HN.out) HB2.out.size (by omega) ?_))
      intro v3 w3 hO3 hB3
      have HO3 : Hid (OwnDOp w3 w.heap.size v3 (dOpsL O (k + 1))) := by show OwnDOp _ _ _ _; rw [dOpsL_succ]; exact hO3
      have HB3 := hide (HB2.out.trans hB3)
      clear hO3 hB3 HO2 HB2 HN
      go_wp2
      exact ⟨⟨k + 1, by go_num, by omega, HO3, HB3⟩, by simp [intOf]; omega⟩
    · obtain rfl : k = n := by omega
      go_wp2
      go_ret
      exact ⟨⟨_, rfl, HO.out⟩, HB.out⟩
/-- A disk of one's own: its rows lie in blocks of their own, the two of files in two. -/
def DiskMade (w : World) (B : Nat) (v : Value) (l s : List File1) (q : List DOp1) : Prop := ∃ v0 v1 v2, v = .agg #[v0, v1, v2] ∧ OwnFile w B v0 l ∧ OwnFile w B v1 s ∧ OwnDOp w B v2 q ∧ (s = [] ∨ v0.ownBlock = none ∨ v0.ownBlock ≠ v1.ownBlock)
theorem apart_later {w w' : World} {B : Nat} {u v : Value} {l s : List File1} (h : OwnFile w B u l) (k : OwnFile w' w.heap.size v s) : u.ownBlock = none ∨ u.ownBlock ≠ v.ownBlock := by
  cases e : u.ownBlock with
  | none => exact .inl rfl
  | some g =>
    refine .inr (fun e2 => ?_)
    have h1 := (World.ownsRow.lt h g e).2
    have h2 := (World.ownsRow.lt k g e2.symm).1
    omega
theorem DiskMade.next {w w' : World} {B : Nat} {v : Value} {l s : List File1} {q : List DOp1} (h : DiskMade w B v l s q) (hb : Below w.heap.size w w') : DiskMade w' B v l s q := by
  obtain ⟨v0, v1, v2, rfl, h0, h1, h2, h3⟩ := h
  exact ⟨v0, v1, v2, rfl, h0.next hb, h1.next hb, h2.next hb, h3⟩
theorem DiskMade.base {w : World} {B B' : Nat} {v : Value} {l s : List File1} {q : List DOp1} (h : DiskMade w B v l s q) (hB : B' ≤ B) : DiskMade w B' v l s q := by
  obtain ⟨v0, v1, v2, rfl, h0, h1, h2, h3⟩ := h
  exact ⟨v0, v1, v2, rfl, h0.base hB, h1.base hB, h2.base hB, h3⟩
theorem DiskMade.hid {w : World} {B : Nat} {v : Value} {l s : List File1} {q : List DOp1} (h : DiskMade w B v l s q) : Hid (DiskMade w B v l s q) := h
/-- Where a block is written that none of its rows lies in. -/
theorem OwnFile.put3 {w : World} {B F : Nat} {v : Value} {es : List File1} {cs : Array Value} {t : TypeId} (h : OwnFile w B v es) (hb : BoxIs w F cs t) (ht : t ≠ 96) (o : Nat) (x : Value) : OwnFile (w.setCell ⟨F, o, none⟩ x) B v es := h.setBox hb ht x

set_option linter.unusedVariables false in
set_option linter.unusedSimpArgs false in
set_option maxHeartbeats 4000000 in
theorem impl_copyDisk (v : Value) (c : DiskC) (w : World) (hn0 : c.n0 ≤ 100000) (hn1 : c.n1 ≤ 100000) (hn2 : c.n2 ≤ 100000) (hz0 : ∀ i, i < c.n0 → (c.r0.N i).size ≤ 100000000 ∧ (c.r0.D i).size ≤ 100000000) (hz1 : ∀ i, i < c.n1 → (c.r1.N i).size ≤ 100000000 ∧ (c.r1.D i).size ≤ 100000000)
    (hz2 : ∀ i, i < c.n2 → (c.r2.N i).size ≤ 100000000 ∧ (c.r2.T i).size ≤ 100000000 ∧ (c.r2.D i).size ≤ 100000000) (hv : DiskIs w v c) :
    Calls Try.prog 52 #[v] w fun e w' => (∃ u, e = .returned u ∧ DiskMade w' w.heap.size u (filesL c.r0 c.n0) (filesL c.r1 c.n1) (dOpsL c.r2 c.n2)) ∧ Below w.heap.size w w' := by
  obtain ⟨a0, p0, a1, p1, a2, p2, rfl, hS0, hS1, hS2⟩ := hv
  have hP := (BoxIs.new w #[.slice a0 c.n0 p0, .slice a1 c.n1 p1, .slice a2 c.n2 p2] 31 rfl).next (below_one _ (.cells #[.slice none 0 0, .slice none 0 0, .slice none 0 0] 31))
  have hR := BoxIs.new (w.alloc (.cells #[.slice a0 c.n0 p0, .slice a1 c.n1 p1, .slice a2 c.n2 p2] 31)) #[.slice none 0 0, .slice none 0 0, .slice none 0 0] 31 (g := w.heap.size + 1) (by simp)
  have hB : Below w.heap.size w ((w.alloc (.cells #[.slice a0 c.n0 p0, .slice a1 c.n1 p1, .slice a2 c.n2 p2] 31)).alloc (.cells #[.slice none 0 0, .slice none 0 0, .slice none 0 0] 31)) := ((Below.refl _ _).alloc (Nat.le_refl _) _).alloc (by simp) _
  have HS0 := hS0.hid
  have HS1 := hS1.hid
  have HS2 := hS2.hid
  clear hS0 hS1 hS2
  go_enter Try.func52, Try.ntmps52
  go_upto_region 1 with fail
  generalize (w.alloc (.cells #[.slice a0 c.n0 p0, .slice a1 c.n1 p1, .slice a2 c.n2 p2] 31)).alloc (.cells #[.slice none 0 0, .slice none 0 0, .slice none 0 0] 31) = W at hP hR hB ⊢
  refine wp_region_noPanic ?_
  have hb0 : Below W.heap.size W W.drew := (Below.refl _ _).drew
  have hP_0 := hP.next hb0
  have hR_0 := hR.next hb0
  have hB_0 := hB.trans (hb0.mono hB.size)
  refine wp_region_held_drew (S := fun x => BoxIs x w.heap.size #[.slice a0 c.n0 p0, .slice a1 c.n1 p1, .slice a2 c.n2 p2] 31) (by kernel_rfl) hP_0 (fun hSz => ?_)
  clear hSz hB hP hR
  generalize W.drew = wq0 at hb0 hP_0 hR_0 hB_0 ⊢
  clear hb0
  refine wpAnyH_take (i := 0) (v := .pointer (some ⟨w.heap.size, 0, none⟩)) nat0 (by kernel_rfl) (by kernel_rfl) (by kernel_rfl) (fun _ _ _ h => False.elim h) (Or.inl ⟨by rfl, ?_⟩) hP_0 ?_
  · intro wx hSw
    go_simp
  simp only [Act.put, List.setIfInBounds_toArray, List.set_cons_zero, List.set_cons_succ]
  refine wpAnyH_take (i := 1) (v := .slice a0 c.n0 p0) nat1 (by kernel_rfl) (by kernel_rfl) (by kernel_rfl) (fun _ _ _ h => False.elim h) (Or.inl ⟨by rfl, ?_⟩) hP_0 ?_
  · intro wx hSw
    have y0 := hSw.cell 0
    simp only [List.getElem?_toArray, List.getElem?_cons_succ, List.getElem?_cons_zero] at y0
    go_simp
  simp only [Act.put, List.setIfInBounds_toArray, List.set_cons_zero, List.set_cons_succ]
  refine wpAnyH_take (i := 3) (v := .pointer (some ⟨w.heap.size, 1, none⟩)) nat3 (by kernel_rfl) (by kernel_rfl) (by kernel_rfl) (fun _ _ _ h => False.elim h) (Or.inl ⟨by rfl, ?_⟩) hP_0 ?_
  · intro wx hSw
    go_simp
  simp only [Act.put, List.setIfInBounds_toArray, List.set_cons_zero, List.set_cons_succ]
  refine wpAnyH_take (i := 4) (v := .slice a1 c.n1 p1) nat4 (by kernel_rfl) (by kernel_rfl) (by kernel_rfl) (fun _ _ _ h => False.elim h) (Or.inl ⟨by rfl, ?_⟩) hP_0 ?_
  · intro wx hSw
    have y0 := hSw.cell 1
    simp only [List.getElem?_toArray, List.getElem?_cons_succ, List.getElem?_cons_zero] at y0
    go_simp
  simp only [Act.put, List.setIfInBounds_toArray, List.set_cons_zero, List.set_cons_succ]
  refine wpAnyH_take (i := 6) (v := .pointer (some ⟨w.heap.size, 2, none⟩)) nat6 (by kernel_rfl) (by kernel_rfl) (by kernel_rfl) (fun _ _ _ h => False.elim h) (Or.inl ⟨by rfl, ?_⟩) hP_0 ?_
  · intro wx hSw
    go_simp
  simp only [Act.put, List.setIfInBounds_toArray, List.set_cons_zero, List.set_cons_succ]
  refine wpAnyH_take (i := 7) (v := .slice a2 c.n2 p2) nat7 (by kernel_rfl) (by kernel_rfl) (by kernel_rfl) (fun _ _ _ h => False.elim h) (Or.inl ⟨by rfl, ?_⟩) hP_0 ?_
  · intro wx hSw
    have y0 := hSw.cell 2
    simp only [List.getElem?_toArray, List.getElem?_cons_succ, List.getElem?_cons_zero] at y0
    go_simp
  simp only [Act.put, List.setIfInBounds_toArray, List.set_cons_zero, List.set_cons_succ]
  refine wpAnyH_ready (rs := [2]) (by kernel_rfl) (by simp) ?_
  refine AllReadyH.cons nat2 (fun K hK => ?_) AllReadyH.nil
  go_simp
  go_at_call 56
  refine (impl_copyFiles a0 c.n0 p0 c.r0 wq0 hn0 hz0 ((HS0.out.below hB_0).mono hB_0.size)).mono ?_
  rintro e wq1 ⟨⟨u1, rfl, ho1⟩, hb1⟩
  obtain ⟨ua1, un1, up1, rfl⟩ := ho1.shapeN
  have hP_1 := hP_0.next hb1
  have hR_1 := hR_0.next hb1
  have hB_1 := hB_0.trans (hb1.mono hB_0.size)
  have U0_1 := ho1.base hB_0.size
  refine hK.out _ _ hP_1 (fun hSz => ?_)
  clear hK K hSz hB_0 hP_0 hR_0 hb1 ho1
  refine wpAnyH_ready (rs := [5]) (by kernel_rfl) (by simp) ?_
  refine AllReadyH.cons nat5 (fun K hK => ?_) AllReadyH.nil
  go_simp
  go_at_call 56
  refine (impl_copyFiles a1 c.n1 p1 c.r1 wq1 hn1 hz1 ((HS1.out.below hB_1).mono hB_1.size)).mono ?_
  rintro e wq2 ⟨⟨u2, rfl, ho2⟩, hb2⟩
  obtain ⟨ua2, un2, up2, rfl⟩ := ho2.shapeN
  have hP_2 := hP_1.next hb2
  have hR_2 := hR_1.next hb2
  have hB_2 := hB_1.trans (hb2.mono hB_1.size)
  have U0_2 := U0_1.next hb2
  have U1_2 := ho2.base hB_1.size
  have AP_2 := Or.inr (a := filesL c.r1 c.n1 = []) (apart_later U0_1 ho2)
  refine hK.out _ _ hP_2 (fun hSz => ?_)
  clear hK K hSz U0_1 hB_1 hP_1 hR_1 hb2 ho2
  refine wpAnyH_ready (rs := [8]) (by kernel_rfl) (by simp) ?_
  refine AllReadyH.cons nat8 (fun K hK => ?_) AllReadyH.nil
  go_simp
  go_at_call 57
  refine (impl_copyOps a2 c.n2 p2 c.r2 wq2 hn2 hz2 ((HS2.out.below hB_2).mono hB_2.size)).mono ?_
  rintro e wq3 ⟨⟨u3, rfl, ho3⟩, hb3⟩
  obtain ⟨ua3, un3, up3, rfl⟩ := ho3.shapeN
  have hP_3 := hP_2.next hb3
  have hR_3 := hR_2.next hb3
  have hB_3 := hB_2.trans (hb3.mono hB_2.size)
  have U0_3 := U0_2.next hb3
  have U1_3 := U1_2.next hb3
  have AP_3 := AP_2
  have U2_3 := ho3.base hB_2.size
  refine hK.out _ _ hP_3 (fun hSz => ?_)
  clear hK K hSz AP_2 U0_2 U1_2 hB_2 hP_2 hR_2 hb3 ho3
  refine wpAnyH_take (i := 9) (v := .agg #[.slice ua1 un1 up1, .slice ua2 un2 up2, .slice ua3 un3 up3]) nat9 (by kernel_rfl) (by kernel_rfl) (by kernel_rfl) (fun _ _ _ h => False.elim h) (Or.inl ⟨by rfl, ?_⟩) hP_3 ?_
  · intro wx hSw
    go_simp
  simp only [Act.put, List.setIfInBounds_toArray, List.set_cons_zero, List.set_cons_succ]
  refine wpAnyH_ready (rs := [10]) (by kernel_rfl) (by simp) ?_
  refine AllReadyH.cons nat10 (fun K hK => ?_) AllReadyH.nil
  have y0 := hR_3.cell 0
  have y1 := hR_3.cell 1
  have y2 := hR_3.cell 2
  simp only [List.getElem?_toArray, List.getElem?_cons_succ, List.getElem?_cons_zero] at y0 y1 y2
  have yf := hR_3.free
  go_simp
  clear yf y0 y1 y2
  have hP_4s0 := hP_3.set_other (p := ⟨w.heap.size + 1, 0, none⟩) (by simp) (.slice ua1 un1 up1)
  have hR_4s0 := hR_3.set 0 (.slice ua1 un1 up1)
  have hB_4s0 := hB_3.setCell (p := ⟨w.heap.size + 1, 0, none⟩) (Nat.le_succ _) (.slice ua1 un1 up1)
  have U0_4s0 := U0_3.setBox (o := 0) hR_3 (by decide) (.slice ua1 un1 up1)
  have U1_4s0 := U1_3.setBox (o := 0) hR_3 (by decide) (.slice ua1 un1 up1)
  have AP_4s0 := AP_3
  have U2_4s0 := U2_3.setBox (o := 0) hR_3 (by decide) (.slice ua1 un1 up1)
  have hP_4s1 := hP_4s0.set_other (p := ⟨w.heap.size + 1, 1, none⟩) (by simp) (.slice ua2 un2 up2)
  have hR_4s1 := hR_4s0.set 1 (.slice ua2 un2 up2)
  have hB_4s1 := hB_4s0.setCell (p := ⟨w.heap.size + 1, 1, none⟩) (Nat.le_succ _) (.slice ua2 un2 up2)
  have U0_4s1 := U0_4s0.setBox (o := 1) hR_4s0 (by decide) (.slice ua2 un2 up2)
  have U1_4s1 := U1_4s0.setBox (o := 1) hR_4s0 (by decide) (.slice ua2 un2 up2)
  have AP_4s1 := AP_4s0
  have U2_4s1 := U2_4s0.setBox (o := 1) hR_4s0 (by decide) (.slice ua2 un2 up2)
  have hP_4s2 := hP_4s1.set_other (p := ⟨w.heap.size + 1, 2, none⟩) (by simp) (.slice ua3 un3 up3)
  have hR_4s2 := hR_4s1.set 2 (.slice ua3 un3 up3)
  have hB_4s2 := hB_4s1.setCell (p := ⟨w.heap.size + 1, 2, none⟩) (Nat.le_succ _) (.slice ua3 un3 up3)
  have U0_4s2 := U0_4s1.setBox (o := 2) hR_4s1 (by decide) (.slice ua3 un3 up3)
  have U1_4s2 := U1_4s1.setBox (o := 2) hR_4s1 (by decide) (.slice ua3 un3 up3)
  have AP_4s2 := AP_4s1
  have U2_4s2 := U2_4s1.setBox (o := 2) hR_4s1 (by decide) (.slice ua3 un3 up3)
  have hP_4 := hP_4s2
  have hR_4 : BoxIs (((wq3.setCell ⟨(w.heap.size + 1), 0, none⟩ (.slice ua1 un1 up1)).setCell ⟨(w.heap.size + 1), 1, none⟩ (.slice ua2 un2 up2)).setCell ⟨(w.heap.size + 1), 2, none⟩ (.slice ua3 un3 up3)) (w.heap.size + 1) #[.slice ua1 un1 up1, .slice ua2 un2 up2, .slice ua3 un3 up3] 31 := hR_4s2
  have hB_4 := hB_4s2
  have U0_4 := U0_4s2
  have U1_4 := U1_4s2
  have AP_4 := AP_4s2
  have U2_4 := U2_4s2
  refine hK.out _ _ hP_4 (fun hSz => ?_)
  clear hK K hSz AP_3 U0_3 U1_3 U2_3 hB_3 hP_3 hR_3 hP_4s0 hP_4s1 hP_4s2 hR_4s0 hR_4s1 hR_4s2 hB_4s0 hB_4s1 hB_4s2 U0_4s0 U0_4s1 U0_4s2 U1_4s0 U1_4s1 U1_4s2 AP_4s0 AP_4s1 AP_4s2 U2_4s0 U2_4s1 U2_4s2
  generalize ((wq3.setCell ⟨(w.heap.size + 1), 0, none⟩ (.slice ua1 un1 up1)).setCell ⟨(w.heap.size + 1), 1, none⟩ (.slice ua2 un2 up2)).setCell ⟨(w.heap.size + 1), 2, none⟩ (.slice ua3 un3 up3) = wq4 at hP_4 hR_4 hB_4 U0_4 U1_4 AP_4 U2_4 ⊢
  refine wpAnyH_done (by kernel_rfl) ?_ _
  refine NoPanic.normal ?_
  have z0 := hR_4.cell 0
  have z1 := hR_4.cell 1
  have z2 := hR_4.cell 2
  simp only [List.getElem?_toArray, List.getElem?_cons_succ, List.getElem?_cons_zero] at z0 z1 z2
  go_wp2
  exact bodyPost_ret (v := .agg #[.slice ua1 un1 up1, .slice ua2 un2 up2, .slice ua3 un3 up3]) (by simp [results, Try.results52, go_sem, z0, z1, z2]) rfl ⟨⟨_, rfl, _, _, _, rfl, U0_4, U1_4, U2_4, AP_4⟩, hB_4⟩
end Go.Proofs.Ytejedpmkbkclhaa
