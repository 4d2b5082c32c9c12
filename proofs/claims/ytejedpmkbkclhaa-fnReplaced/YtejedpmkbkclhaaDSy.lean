/- Sync of both sides; the model's copy of a disk. (By gen_dsy.py.) -/
import Derived.Test.YtejedpmkbkclhaaDCp
import Derived.Test.YtejedpmkbkclhaaMgKeysFLst
import Derived.Test.YtejedpmkbkclhaaApCp
import Derived.Test.YtejedpmkbkclhaaDskO
namespace Go.Proofs.Ytejedpmkbkclhaa
set_option maxRecDepth 100000
open Go.RowKit Go.Deep Go.Maps

theorem dOpAt_news {w : World} {b off n : Nat} {O : DOps} (h : ∀ i, i < n → w.cell? ⟨b, off + i * 4, none⟩ = some (.int .i64 (O.K i)) ∧ w.cell? ⟨b, off + i * 4 + 1, none⟩ = some (.string (O.N i)) ∧ w.cell? ⟨b, off + i * 4 + 2, none⟩ = some (.string (O.T i)) ∧ w.cell? ⟨b, off + i * 4 + 3, none⟩ = some (.string (O.D i))) :
    ∀ j u, (cellsDOp (dOpsL O n))[j]? = some u → w.cell? ((⟨b, off, none⟩ : Addr).add j) = some u := fun j u hu => by
  have hj : j < n * 4 := by have := (List.getElem?_eq_some_iff.1 hu).1; rwa [cellsDOp_len, dOpsL_len] at this
  have hi : j / 4 < n := by omega
  obtain ⟨c0, c1, c2, c3⟩ := h (j / 4) hi
  have hg : (dOpsL O n)[j / 4]? = some (dOpAt1 O (j / 4)) := by simp [dOpsL, hi]
  obtain ⟨d0, d1, d2, d3⟩ := cellsDOp_get _ _ _ hg
  rw [Addr.add_lit]
  show w.cell? ⟨b, off + j, none⟩ = some u
  have hlt : j % 4 < 4 := Nat.mod_lt _ (by decide)
  have hcase : j % 4 = 0 ∨ j % 4 = 1 ∨ j % 4 = 2 ∨ j % 4 = 3 := by omega
  rcases hcase with e | e | e | e
  · rw [show j = j / 4 * 4 by omega, d0] at hu
    rw [show off + j = off + j / 4 * 4 by omega, c0]; exact hu
  · rw [show j = j / 4 * 4 + 1 by omega, d1] at hu
    rw [show off + j = off + j / 4 * 4 + 1 by omega, c1]; exact hu
  · rw [show j = j / 4 * 4 + 2 by omega, d2] at hu
    rw [show off + j = off + j / 4 * 4 + 2 by omega, c2]; exact hu
  · rw [show j = j / 4 * 4 + 3 by omega, d3] at hu
    rw [show off + j = off + j / 4 * 4 + 3 by omega, c3]; exact hu

theorem run_copyF (w : World) (G : Nat) (hG : BoxIs w G #[] 96) (ba : Option Addr) (n c : Nat) (O : Files) (hS : FileAt w w.heap.size ba n O) (hn : n ≤ 1048576) :
    ∃ v' w', (∀ ty, (Builtin.append_ #[28, 28] ty #[.slice (some ⟨G, 0, none⟩) 0 0, .slice ba n c]).run Try.prog w = .ok v' w') ∧ Below w.heap.size w w' ∧ OwnFile w' G v' (filesL O n) ∧ (n = 0 ∨ ∀ g, v'.ownBlock = some g → w.heap.size ≤ g) := by
  obtain ⟨i0, hi', hz0, hs0, hb0⟩ := info_parts file_info
  obtain ⟨v', w', h1, h2, h3, h4⟩ := run_append_copy (P := Try.prog) w 28 96 i0 _ 2 32 Try.underlying28 hi' hz0 hs0 hb0 rfl G hG ba n c (cellsFile (filesL O n)) (by rw [cellsFile_len, filesL_len])
    (by rcases hS with h | ⟨b, off, e, _, hc⟩
        · exact .inl h
        · exact .inr ⟨_, e, fileAt_news hc⟩) (by unfold maxLen; omega) (by omega)
  exact ⟨v', w', h1, h2, by unfold OwnFile; rw [filesL_len]; exact h3, h4⟩
theorem run_copyD (w : World) (G : Nat) (hG : BoxIs w G #[] 40) (ba : Option Addr) (n c : Nat) (O : DOps) (hS : DOpAt w w.heap.size ba n O) (hn : n ≤ 1048576) :
    ∃ v' w', (∀ ty, (Builtin.append_ #[29, 29] ty #[.slice (some ⟨G, 0, none⟩) 0 0, .slice ba n c]).run Try.prog w = .ok v' w') ∧ Below w.heap.size w w' ∧ OwnDOp w' G v' (dOpsL O n) ∧ (n = 0 ∨ ∀ g, v'.ownBlock = some g → w.heap.size ≤ g) := by
  obtain ⟨i0, hi', hz0, hs0, hb0⟩ := info_parts dOp_info
  obtain ⟨v', w', h1, h2, h3, h4⟩ := run_append_copy (P := Try.prog) w 29 40 i0 _ 4 56 Try.underlying29 hi' hz0 hs0 hb0 rfl G hG ba n c (cellsDOp (dOpsL O n)) (by rw [cellsDOp_len, dOpsL_len])
    (by rcases hS with h | ⟨b, off, e, _, hc⟩
        · exact .inl h
        · exact .inr ⟨_, e, dOpAt_news hc⟩) (by unfold maxLen; omega) (by omega)
  exact ⟨v', w', h1, h2, by unfold OwnDOp; rw [dOpsL_len]; exact h3, h4⟩

theorem dB_parts {c : DiskC} (h : dB c = true) : filesB c.r0 c.n0 = true ∧ filesB c.r1 c.n1 = true ∧ c.n2 ≤ 200 := by
  refine ⟨?_, ?_, ?_⟩
  · cases e : filesB c.r0 c.n0 with
    | true => rfl
    | false => rw [dB_live e] at h; cases h
  · cases e : filesB c.r1 c.n1 with
    | true => rfl
    | false => rw [dB_safe e] at h; cases h
  · by_cases e : c.n2 ≤ 200
    · exact e
    · rw [dB_many e] at h; cases h
theorem files_names {O : Files} {n : Nat} {m : Nat} (h : ∀ i, i < n → (O.N i).size ≤ m) : ∀ x, x ∈ filesL O n → x.n.size ≤ m := fun x hx => by
  obtain ⟨i, hi, rfl⟩ := List.mem_map.1 hx
  exact h i (List.mem_range.1 hi)
/-- The files behind a Sync. -/
def syL (c : DiskC) : List File1 := if dB c then filesL c.r0 c.n0 else []
theorem syL_yes {c : DiskC} (h : dB c = true) : syL c = filesL c.r0 c.n0 := by unfold syL; rw [if_pos h]
theorem syL_no {c : DiskC} (h : dB c = false) : syL c = [] := by unfold syL; rw [h]; rfl
theorem made_nil (w : World) (B : Nat) : DiskMade w B (.agg #[.slice none 0 0, .slice none 0 0, .slice none 0 0]) [] [] [] := ⟨_, _, _, rfl, OwnFile.nil _ _, OwnFile.nil _ _, OwnDOp.nil _ _, .inl rfl⟩
/-- Its box is written that lies below. -/
theorem DiskMade.setOther {w : World} {B : Nat} {v : Value} {l s : List File1} {q : List DOp1} (h : DiskMade w B v l s q) {p : Addr} (hp : p.block < B) (x : Value) : DiskMade (w.setCell p x) B v l s q := by
  obtain ⟨v0, v1, v2, rfl, h0, h1, h2, h3⟩ := h
  exact ⟨v0, v1, v2, rfl, h0.setOther hp x, h1.setOther hp x, h2.setOther hp x, h3⟩
/-- .. and three cells of it at once. -/
theorem DiskMade.put3 {w : World} {B F : Nat} {v : Value} {l s : List File1} {q : List DOp1} (h : DiskMade w B v l s q) (hF : F < B) (x y z : Value) : DiskMade (((w.setCell ⟨F, 0, none⟩ x).setCell ⟨F, 1, none⟩ y).setCell ⟨F, 2, none⟩ z) B v l s q :=
  ((h.setOther (p := ⟨F, 0, none⟩) hF x).setOther (p := ⟨F, 1, none⟩) hF y).setOther (p := ⟨F, 2, none⟩) hF z
theorem below_put3 {w w' : World} {F B : Nat} (h : Below B w w') (hF : B ≤ F) (x y z : Value) : Below B w (((w'.setCell ⟨F, 0, none⟩ x).setCell ⟨F, 1, none⟩ y).setCell ⟨F, 2, none⟩ z) :=
  ((h.setCell (p := ⟨F, 0, none⟩) hF x).setCell (p := ⟨F, 1, none⟩) hF y).setCell (p := ⟨F, 2, none⟩) hF z

set_option linter.unusedVariables false in
set_option linter.unusedSimpArgs false in
set_option maxHeartbeats 4000000 in
theorem impl_Sync (v : Value) (c : DiskC) (w : World) (hf : c.Fit) (hv : DiskIs w v c) :
    Calls Try.prog 24 #[v] w fun e w' => (∃ u, e = .returned u ∧ DiskMade w' w.heap.size u (syL c) (syL c) []) ∧ Below w.heap.size w w' := by
  obtain ⟨a0, p0, a1, p1, a2, p2, rfl, hS0, hS1, hS2⟩ := hv
  have hB : Below w.heap.size w ((w.alloc (.cells #[.slice a0 c.n0 p0, .slice a1 c.n1 p1, .slice a2 c.n2 p2] 31)).alloc (.cells #[.slice none 0 0, .slice none 0 0, .slice none 0 0] 31)) := ((Below.refl _ _).alloc (Nat.le_refl _) _).alloc (by simp) _
  have hP := (BoxIs.new w #[.slice a0 c.n0 p0, .slice a1 c.n1 p1, .slice a2 c.n2 p2] 31 rfl).next (below_one _ (.cells #[.slice none 0 0, .slice none 0 0, .slice none 0 0] 31))
  have hR := BoxIs.new (w.alloc (.cells #[.slice a0 c.n0 p0, .slice a1 c.n1 p1, .slice a2 c.n2 p2] 31)) #[.slice none 0 0, .slice none 0 0, .slice none 0 0] 31 (g := w.heap.size + 1) (by simp)
  have hD : DiskIs ((w.alloc (.cells #[.slice a0 c.n0 p0, .slice a1 c.n1 p1, .slice a2 c.n2 p2] 31)).alloc (.cells #[.slice none 0 0, .slice none 0 0, .slice none 0 0] 31)) (.agg #[.slice a0 c.n0 p0, .slice a1 c.n1 p1, .slice a2 c.n2 p2]) c := DiskIs.at_old ⟨a0, p0, a1, p1, a2, p2, rfl, hS0, hS1, hS2⟩ hB
  have g0 := hP.cell 0
  have g1 := hP.cell 1
  have g2 := hP.cell 2
  simp only [List.getElem?_toArray, List.getElem?_cons_succ, List.getElem?_cons_zero] at g0 g1 g2
  have HB := hide hB
  have HR := hR.hid
  have HD := hD.hid
  obtain ⟨⟨hn0, hn1, hn2⟩, hz0, hz1, hz2⟩ := id hf
  have HN := hide (files_names (m := 1048576) (fun i hi => (hz0 i hi).1))
  clear hS0 hS1 hS2 hB hP hR hD hz0 hz1 hz2
  go_enter Try.func24, Try.ntmps24
  go_wp2_with fail
  clear g0 g1 g2
  generalize (w.alloc (.cells #[.slice a0 c.n0 p0, .slice a1 c.n1 p1, .slice a2 c.n2 p2] 31)).alloc (.cells #[.slice none 0 0, .slice none 0 0, .slice none 0 0] 31) = W at HB HR HD ⊢
  have hFW := HR.out.lt
  refine (impl_seenOn _ c W hf HD.out).mono ?_
  rintro e w1 ⟨⟨p, rfl, hp⟩, hb1⟩
  have HB1 := hide (HB.out.trans (hb1.mono HB.out.size))
  have HR1 := (HR.out.next hb1).hid
  have hW1 := hb1.size
  clear hb1 HB HR HD
  cases hd : dB c with
  | false =>
    have HV := hide (syL_no hd)
    have r0 := HR1.out.cell 0
    have r1 := HR1.out.cell 1
    have r2 := HR1.out.cell 2
    have rf := HR1.out.free
    simp only [List.getElem?_toArray, List.getElem?_cons_succ, List.getElem?_cons_zero] at r0 r1 r2
    have HL := hide (below_put3 (F := w.heap.size + 1) HB1.out (Nat.le_succ _) (.slice none 0 0) (.slice none 0 0) (.slice none 0 0))
    clear hd hp HB1 HR1
    go_wp2
    refine bodyPost_ret (v := .agg #[.slice none 0 0, .slice none 0 0, .slice none 0 0]) (by simp [results, Try.results24, go_sem, r0, r1, r2]) rfl ⟨⟨_, rfl, ?_⟩, HL.out⟩
    rw [HV.out]; exact made_nil _ _
  | true =>
    have HV := hide (syL_yes hd)
    obtain ⟨hl0, _, _⟩ := dB_parts hd
    obtain ⟨_, _, h60, _⟩ := filesB_ris hl0
    obtain ⟨f, b, V, rfl, hF, hRo, _, _⟩ := hp hd
    have HF := hF.hid
    have HRo := hRo.hid
    clear hd hp hl0 hF hRo
    go_wp2_with fail
    refine (impl_list W.heap.size f b V (filesL c.r0 c.n0) w1 (by rw [filesL_len]; omega) (fun x hx => by have := HN.out x hx; omega) HF.out HRo.out).mono ?_
    rintro e w2 ⟨⟨v0, rfl, ho0⟩, hb2⟩
    have HO0 := ho0.hid
    have HB2 := hide (HB1.out.trans (hb2.mono HB1.out.size))
    have HR2 := (HR1.out.next hb2).hid
    have HF2 := (HF.out.next hb2).hid
    have HRo2 := (HRo.out.next hb2).hid
    have hw2 := hb2.size
    clear ho0 hb2 HB1 HR1 HF HRo
    go_wp2_with fail
    refine (impl_list W.heap.size f b V (filesL c.r0 c.n0) w2 (by rw [filesL_len]; omega) (fun x hx => by have := HN.out x hx; omega) HF2.out HRo2.out).mono ?_
    rintro e w3 ⟨⟨v1, rfl, ho1⟩, hb3⟩
    have HAP := hide (apart_later HO0.out ho1)
    have hM : DiskMade w3 w1.heap.size (.agg #[v0, v1, .slice none 0 0]) (filesL c.r0 c.n0) (filesL c.r0 c.n0) [] := ⟨_, _, _, rfl, HO0.out.next hb3, ho1.base hw2, OwnDOp.nil _ _, .inr HAP.out⟩
    obtain ⟨xa, xn, xp, rfl⟩ := HO0.out.shapeN
    obtain ⟨ya, yn, yp, rfl⟩ := ho1.shapeN
    have r0 := (HR2.out.next hb3).cell 0
    have r1 := (HR2.out.next hb3).cell 1
    have r2 := (HR2.out.next hb3).cell 2
    have rf := (HR2.out.next hb3).free
    simp only [List.getElem?_toArray, List.getElem?_cons_succ, List.getElem?_cons_zero] at r0 r1 r2
    have HM := (hM.put3 (F := w.heap.size + 1) (by omega) (.slice xa xn xp) (.slice ya yn yp) (.slice none 0 0)).hid
    have HL := hide (below_put3 (F := w.heap.size + 1) (HB2.out.trans (hb3.mono HB2.out.size)) (Nat.le_succ _) (.slice xa xn xp) (.slice ya yn yp) (.slice none 0 0))
    clear ho1 hb3 hM HO0 HB2 HR2 HF2 HRo2 HAP
    go_wp2
    refine bodyPost_ret (v := .agg #[.slice xa xn xp, .slice ya yn yp, .slice none 0 0]) (by simp [results, Try.results24, go_sem, r0, r1, r2]) rfl ⟨⟨_, rfl, ?_⟩, HL.out⟩
    rw [HV.out]; exact HM.out.base (by omega)
theorem apart_fresh {w : World} {B : Nat} {u v : Value} {l : List File1} {n : Nat} (h : OwnFile w B u l) (O : Files) (k : n = 0 ∨ ∀ g, v.ownBlock = some g → w.heap.size ≤ g) : filesL O n = [] ∨ u.ownBlock = none ∨ u.ownBlock ≠ v.ownBlock := by
  rcases k with rfl | k
  · exact .inl rfl
  · refine .inr ?_
    cases e : u.ownBlock with
    | none => exact .inl rfl
    | some g =>
      refine .inr (fun e2 => ?_)
      have h1 := (World.ownsRow.lt h g e).2
      have h2 := k g e2.symm
      omega

set_option linter.unusedVariables false in
set_option linter.unusedSimpArgs false in
set_option maxHeartbeats 4000000 in
theorem spec_l6Copy (v : Value) (c : DiskC) (w : World) (hf : c.Fit) (hv : DiskIs w v c) :
    Calls Try.prog 68 #[v] w fun e w' => (∃ u, e = .returned u ∧ DiskMade w' w.heap.size u (filesL c.r0 c.n0) (filesL c.r1 c.n1) (dOpsL c.r2 c.n2)) ∧ Below w.heap.size w w' := by
  obtain ⟨a0, p0, a1, p1, a2, p2, rfl, hS0, hS1, hS2⟩ := hv
  obtain ⟨⟨hn0, hn1, hn2⟩, _⟩ := id hf
  have hB : Below w.heap.size w ((w.alloc (.cells #[.slice a0 c.n0 p0, .slice a1 c.n1 p1, .slice a2 c.n2 p2] 31)).alloc (.cells #[.slice none 0 0, .slice none 0 0, .slice none 0 0] 31)) := ((Below.refl _ _).alloc (Nat.le_refl _) _).alloc (by simp) _
  have hP := (BoxIs.new w #[.slice a0 c.n0 p0, .slice a1 c.n1 p1, .slice a2 c.n2 p2] 31 rfl).next (below_one _ (.cells #[.slice none 0 0, .slice none 0 0, .slice none 0 0] 31))
  have hR := BoxIs.new (w.alloc (.cells #[.slice a0 c.n0 p0, .slice a1 c.n1 p1, .slice a2 c.n2 p2] 31)) #[.slice none 0 0, .slice none 0 0, .slice none 0 0] 31 (g := w.heap.size + 1) (by simp)
  have HS0 := hS0.hid
  have HS1 := hS1.hid
  have HS2 := hS2.hid
  clear hS0 hS1 hS2
  go_enter Try.func68, Try.ntmps68
  go_upto_region 1 with fail
  generalize (w.alloc (.cells #[.slice a0 c.n0 p0, .slice a1 c.n1 p1, .slice a2 c.n2 p2] 31)).alloc (.cells #[.slice none 0 0, .slice none 0 0, .slice none 0 0] 31) = W at hP hR hB ⊢
  refine wp_region_noPanic ?_
  have hb0 : Below W.heap.size W W.drew := (Below.refl _ _).drew
  have hP_0 := hP.next hb0
  have hR_0 := hR.next hb0
  have hB_0 := hB.trans (hb0.mono hB.size)
  refine wp_region_held_drew (S := fun x => BoxIs x w.heap.size #[.slice a0 c.n0 p0, .slice a1 c.n1 p1, .slice a2 c.n2 p2] 31) (by kernel_rfl) hP_0 (fun hSz => ?_)
  clear hSz hB hP hR
  generalize W.drew = wq0 at hb0 hP_0 hR_0 hB_0 ⊢
  clear hb0
  refine wpAnyH_take (i := 1) (v := .pointer (some ⟨w.heap.size, 0, none⟩)) nat1 (by kernel_rfl) (by kernel_rfl) (by kernel_rfl) (fun _ _ _ h => False.elim h) (Or.inl ⟨by rfl, ?_⟩) hP_0 ?_
  · intro wx hSw
    go_simp
  simp only [Act.put, List.setIfInBounds_toArray, List.set_cons_zero, List.set_cons_succ]
  refine wpAnyH_take (i := 2) (v := .slice a0 c.n0 p0) nat2 (by kernel_rfl) (by kernel_rfl) (by kernel_rfl) (fun _ _ _ h => False.elim h) (Or.inl ⟨by rfl, ?_⟩) hP_0 ?_
  · intro wx hSw
    have y0 := hSw.cell 0
    simp only [List.getElem?_toArray, List.getElem?_cons_succ, List.getElem?_cons_zero] at y0
    go_simp
  simp only [Act.put, List.setIfInBounds_toArray, List.set_cons_zero, List.set_cons_succ]
  refine wpAnyH_take (i := 5) (v := .pointer (some ⟨w.heap.size, 1, none⟩)) nat5 (by kernel_rfl) (by kernel_rfl) (by kernel_rfl) (fun _ _ _ h => False.elim h) (Or.inl ⟨by rfl, ?_⟩) hP_0 ?_
  · intro wx hSw
    go_simp
  simp only [Act.put, List.setIfInBounds_toArray, List.set_cons_zero, List.set_cons_succ]
  refine wpAnyH_take (i := 6) (v := .slice a1 c.n1 p1) nat6 (by kernel_rfl) (by kernel_rfl) (by kernel_rfl) (fun _ _ _ h => False.elim h) (Or.inl ⟨by rfl, ?_⟩) hP_0 ?_
  · intro wx hSw
    have y0 := hSw.cell 1
    simp only [List.getElem?_toArray, List.getElem?_cons_succ, List.getElem?_cons_zero] at y0
    go_simp
  simp only [Act.put, List.setIfInBounds_toArray, List.set_cons_zero, List.set_cons_succ]
  refine wpAnyH_take (i := 9) (v := .pointer (some ⟨w.heap.size, 2, none⟩)) nat9 (by kernel_rfl) (by kernel_rfl) (by kernel_rfl) (fun _ _ _ h => False.elim h) (Or.inl ⟨by rfl, ?_⟩) hP_0 ?_
  · intro wx hSw
    go_simp
  simp only [Act.put, List.setIfInBounds_toArray, List.set_cons_zero, List.set_cons_succ]
  refine wpAnyH_take (i := 10) (v := .slice a2 c.n2 p2) nat10 (by kernel_rfl) (by kernel_rfl) (by kernel_rfl) (fun _ _ _ h => False.elim h) (Or.inl ⟨by rfl, ?_⟩) hP_0 ?_
  · intro wx hSw
    have y0 := hSw.cell 2
    simp only [List.getElem?_toArray, List.getElem?_cons_succ, List.getElem?_cons_zero] at y0
    go_simp
  simp only [Act.put, List.setIfInBounds_toArray, List.set_cons_zero, List.set_cons_succ]
  refine wpAnyH_ready (rs := [0, 4, 8]) (by kernel_rfl) (by simp) ?_
  refine AllReadyH.cons nat0 (fun K hK => ?_) (AllReadyH.cons nat4 (fun K hK => ?_) (AllReadyH.cons nat8 (fun K hK => ?_) AllReadyH.nil))
  · go_simp
    have hlt1 : w.heap.size + 1 < wq0.heap.size := hR_0.lt
    have hb1 := below_one wq0 (.cells #[] 96)
    have hP_1 := hP_0.next hb1
    have hR_1 := hR_0.next hb1
    have hB_1 := hB_0.trans (hb1.mono hB_0.size)
    have NB3_1 := BoxIs.new wq0 #[] 96 rfl
    refine hK.out _ _ hP_1 (fun hSz => ?_)
    clear hK K hSz hB_0 hP_0 hR_0
    obtain ⟨G1, hG1⟩ : ∃ G, G = wq0.heap.size := ⟨_, rfl⟩
    rw [← hG1] at NB3_1 ⊢
    generalize wq0.alloc (.cells #[] 96) = wq1 at hb1 hP_1 hR_1 hB_1 NB3_1 ⊢
    rw [← hG1] at hlt1
    clear hG1 hb1
    refine wpAnyH_ready (rs := [3, 4, 8]) (by kernel_rfl) (by simp) ?_
    refine AllReadyH.cons nat3 (fun K hK => ?_) (AllReadyH.cons nat4 (fun K hK => ?_) (AllReadyH.cons nat8 (fun K hK => ?_) AllReadyH.nil))
    · obtain ⟨v2, wq2, hr2, hb2, ho2, hl2⟩ := run_copyF wq1 G1 NB3_1 a0 c.n0 p0 c.r0 ((HS0.out.below hB_1).mono hB_1.size) (by omega)
      have hof2 := ho2.base (show w.heap.size + 2 ≤ G1 from hlt1)
      obtain ⟨xa2, xn2, xp2, rfl⟩ := ho2.shapeN
      refine step_append_run (P := Try.prog) rfl (.tmp 3) (.tmp 5) 28 28 rfl _ _ (by rfl) (by rfl) (hr2 _) ?_
      have hP_2 := hP_1.next hb2
      have hR_2 := hR_1.next hb2
      have hB_2 := hB_1.trans (hb2.mono hB_1.size)
      have U0_2 := hof2
      refine hK.out _ _ hP_2 (fun hSz => ?_)
      clear hK K hSz NB3_1 hB_1 hP_1 hR_1
      clear hr2 hb2 ho2 hof2 hl2
      refine wpAnyH_ready (rs := [4, 8]) (by kernel_rfl) (by simp) ?_
      refine AllReadyH.cons nat4 (fun K hK => ?_) (AllReadyH.cons nat8 (fun K hK => ?_) AllReadyH.nil)
      · go_simp
        have hlt3 : w.heap.size + 1 < wq2.heap.size := hR_2.lt
        have hb3 := below_one wq2 (.cells #[] 96)
        have hP_3 := hP_2.next hb3
        have hR_3 := hR_2.next hb3
        have hB_3 := hB_2.trans (hb3.mono hB_2.size)
        have U0_3 := U0_2.next hb3
        have NB7_3 := BoxIs.new wq2 #[] 96 rfl
        refine hK.out _ _ hP_3 (fun hSz => ?_)
        clear hK K hSz U0_2 hB_2 hP_2 hR_2
        obtain ⟨G3, hG3⟩ : ∃ G, G = wq2.heap.size := ⟨_, rfl⟩
        rw [← hG3] at NB7_3 ⊢
        generalize wq2.alloc (.cells #[] 96) = wq3 at hb3 hP_3 hR_3 hB_3 U0_3 NB7_3 ⊢
        rw [← hG3] at hlt3
        clear hG3 hb3
        refine wpAnyH_ready (rs := [7, 8]) (by kernel_rfl) (by simp) ?_
        refine AllReadyH.cons nat7 (fun K hK => ?_) (AllReadyH.cons nat8 (fun K hK => ?_) AllReadyH.nil)
        · obtain ⟨v4, wq4, hr4, hb4, ho4, hl4⟩ := run_copyF wq3 G3 NB7_3 a1 c.n1 p1 c.r1 ((HS1.out.below hB_3).mono hB_3.size) (by omega)
          have hof4 := ho4.base (show w.heap.size + 2 ≤ G3 from hlt3)
          obtain ⟨xa4, xn4, xp4, rfl⟩ := ho4.shapeN
          refine step_append_run (P := Try.prog) rfl (.tmp 7) (.tmp 9) 28 28 rfl _ _ (by rfl) (by rfl) (hr4 _) ?_
          have hP_4 := hP_3.next hb4
          have hR_4 := hR_3.next hb4
          have hB_4 := hB_3.trans (hb4.mono hB_3.size)
          have U0_4 := U0_3.next hb4
          have U1_4 := hof4
          have AP_4 := apart_fresh U0_3 c.r1 hl4
          refine hK.out _ _ hP_4 (fun hSz => ?_)
          clear hK K hSz NB7_3 U0_3 hB_3 hP_3 hR_3
          clear hr4 hb4 ho4 hof4 hl4
          refine wpAnyH_ready (rs := [8]) (by kernel_rfl) (by simp) ?_
          refine AllReadyH.cons nat8 (fun K hK => ?_) AllReadyH.nil
          go_simp
          have hlt5 : w.heap.size + 1 < wq4.heap.size := hR_4.lt
          have hb5 := below_one wq4 (.cells #[] 40)
          have hP_5 := hP_4.next hb5
          have hR_5 := hR_4.next hb5
          have hB_5 := hB_4.trans (hb5.mono hB_4.size)
          have U0_5 := U0_4.next hb5
          have U1_5 := U1_4.next hb5
          have AP_5 := AP_4
          have NB11_5 := BoxIs.new wq4 #[] 40 rfl
          refine hK.out _ _ hP_5 (fun hSz => ?_)
          clear hK K hSz AP_4 U0_4 U1_4 hB_4 hP_4 hR_4
          obtain ⟨G5, hG5⟩ : ∃ G, G = wq4.heap.size := ⟨_, rfl⟩
          rw [← hG5] at NB11_5 ⊢
          generalize wq4.alloc (.cells #[] 40) = wq5 at hb5 hP_5 hR_5 hB_5 U0_5 U1_5 AP_5 NB11_5 ⊢
          rw [← hG5] at hlt5
          clear hG5 hb5
          refine wpAnyH_ready (rs := [11]) (by kernel_rfl) (by simp) ?_
          refine AllReadyH.cons nat11 (fun K hK => ?_) AllReadyH.nil
          obtain ⟨v6, wq6, hr6, hb6, ho6, hl6⟩ := run_copyD wq5 G5 NB11_5 a2 c.n2 p2 c.r2 ((HS2.out.below hB_5).mono hB_5.size) (by omega)
          have hof6 := ho6.base (show w.heap.size + 2 ≤ G5 from hlt5)
          obtain ⟨xa6, xn6, xp6, rfl⟩ := ho6.shapeN
          refine step_append_run (P := Try.prog) rfl (.tmp 11) (.tmp 13) 29 29 rfl _ _ (by rfl) (by rfl) (hr6 _) ?_
          have hP_6 := hP_5.next hb6
          have hR_6 := hR_5.next hb6
          have hB_6 := hB_5.trans (hb6.mono hB_5.size)
          have U0_6 := U0_5.next hb6
          have U1_6 := U1_5.next hb6
          have AP_6 := AP_5
          have U2_6 := hof6
          refine hK.out _ _ hP_6 (fun hSz => ?_)
          clear hK K hSz AP_5 NB11_5 U0_5 U1_5 hB_5 hP_5 hR_5
          clear hr6 hb6 ho6 hof6 hl6
          refine wpAnyH_take (i := 12) (v := .agg #[.slice xa2 xn2 xp2, .slice xa4 xn4 xp4, .slice xa6 xn6 xp6]) nat12 (by kernel_rfl) (by kernel_rfl) (by kernel_rfl) (fun _ _ _ h => False.elim h) (Or.inl ⟨by rfl, ?_⟩) hP_6 ?_
          · intro wx hSw
            go_simp
          simp only [Act.put, List.setIfInBounds_toArray, List.set_cons_zero, List.set_cons_succ]
          refine wpAnyH_ready (rs := [13]) (by kernel_rfl) (by simp) ?_
          refine AllReadyH.cons nat13 (fun K hK => ?_) AllReadyH.nil
          have y0 := hR_6.cell 0
          have y1 := hR_6.cell 1
          have y2 := hR_6.cell 2
          simp only [List.getElem?_toArray, List.getElem?_cons_succ, List.getElem?_cons_zero] at y0 y1 y2
          have yf := hR_6.free
          go_simp
          clear yf y0 y1 y2
          have hP_7s0 := hP_6.set_other (p := ⟨w.heap.size + 1, 0, none⟩) (by simp) (.slice xa2 xn2 xp2)
          have hR_7s0 := hR_6.set 0 (.slice xa2 xn2 xp2)
          have hB_7s0 := hB_6.setCell (p := ⟨w.heap.size + 1, 0, none⟩) (Nat.le_succ _) (.slice xa2 xn2 xp2)
          have U0_7s0 := U0_6.setOther (p := ⟨w.heap.size + 1, 0, none⟩) (Nat.lt_succ_self _) (.slice xa2 xn2 xp2)
          have U1_7s0 := U1_6.setOther (p := ⟨w.heap.size + 1, 0, none⟩) (Nat.lt_succ_self _) (.slice xa2 xn2 xp2)
          have AP_7s0 := AP_6
          have U2_7s0 := U2_6.setOther (p := ⟨w.heap.size + 1, 0, none⟩) (Nat.lt_succ_self _) (.slice xa2 xn2 xp2)
          have hP_7s1 := hP_7s0.set_other (p := ⟨w.heap.size + 1, 1, none⟩) (by simp) (.slice xa4 xn4 xp4)
          have hR_7s1 := hR_7s0.set 1 (.slice xa4 xn4 xp4)
          have hB_7s1 := hB_7s0.setCell (p := ⟨w.heap.size + 1, 1, none⟩) (Nat.le_succ _) (.slice xa4 xn4 xp4)
          have U0_7s1 := U0_7s0.setOther (p := ⟨w.heap.size + 1, 1, none⟩) (Nat.lt_succ_self _) (.slice xa4 xn4 xp4)
          have U1_7s1 := U1_7s0.setOther (p := ⟨w.heap.size + 1, 1, none⟩) (Nat.lt_succ_self _) (.slice xa4 xn4 xp4)
          have AP_7s1 := AP_7s0
          have U2_7s1 := U2_7s0.setOther (p := ⟨w.heap.size + 1, 1, none⟩) (Nat.lt_succ_self _) (.slice xa4 xn4 xp4)
          have hP_7s2 := hP_7s1.set_other (p := ⟨w.heap.size + 1, 2, none⟩) (by simp) (.slice xa6 xn6 xp6)
          have hR_7s2 := hR_7s1.set 2 (.slice xa6 xn6 xp6)
          have hB_7s2 := hB_7s1.setCell (p := ⟨w.heap.size + 1, 2, none⟩) (Nat.le_succ _) (.slice xa6 xn6 xp6)
          have U0_7s2 := U0_7s1.setOther (p := ⟨w.heap.size + 1, 2, none⟩) (Nat.lt_succ_self _) (.slice xa6 xn6 xp6)
          have U1_7s2 := U1_7s1.setOther (p := ⟨w.heap.size + 1, 2, none⟩) (Nat.lt_succ_self _) (.slice xa6 xn6 xp6)
          have AP_7s2 := AP_7s1
          have U2_7s2 := U2_7s1.setOther (p := ⟨w.heap.size + 1, 2, none⟩) (Nat.lt_succ_self _) (.slice xa6 xn6 xp6)
          have hP_7 := hP_7s2
          have hR_7 : BoxIs (((wq6.setCell ⟨(w.heap.size + 1), 0, none⟩ (.slice xa2 xn2 xp2)).setCell ⟨(w.heap.size + 1), 1, none⟩ (.slice xa4 xn4 xp4)).setCell ⟨(w.heap.size + 1), 2, none⟩ (.slice xa6 xn6 xp6)) (w.heap.size + 1) #[.slice xa2 xn2 xp2, .slice xa4 xn4 xp4, .slice xa6 xn6 xp6] 31 := hR_7s2
          have hB_7 := hB_7s2
          have U0_7 := U0_7s2
          have U1_7 := U1_7s2
          have AP_7 := AP_7s2
          have U2_7 := U2_7s2
          refine hK.out _ _ hP_7 (fun hSz => ?_)
          clear hK K hSz AP_6 U0_6 U1_6 U2_6 hB_6 hP_6 hR_6 hP_7s0 hP_7s1 hP_7s2 hR_7s0 hR_7s1 hR_7s2 hB_7s0 hB_7s1 hB_7s2 U0_7s0 U0_7s1 U0_7s2 U1_7s0 U1_7s1 U1_7s2 AP_7s0 AP_7s1 AP_7s2 U2_7s0 U2_7s1 U2_7s2
          generalize ((wq6.setCell ⟨(w.heap.size + 1), 0, none⟩ (.slice xa2 xn2 xp2)).setCell ⟨(w.heap.size + 1), 1, none⟩ (.slice xa4 xn4 xp4)).setCell ⟨(w.heap.size + 1), 2, none⟩ (.slice xa6 xn6 xp6) = wq7 at hP_7 hR_7 hB_7 U0_7 U1_7 AP_7 U2_7 ⊢
          refine wpAnyH_done (by kernel_rfl) ?_ _
          refine NoPanic.normal ?_
          have z0 := hR_7.cell 0
          have z1 := hR_7.cell 1
          have z2 := hR_7.cell 2
          simp only [List.getElem?_toArray, List.getElem?_cons_succ, List.getElem?_cons_zero] at z0 z1 z2
          have HM := ((show DiskMade _ (w.heap.size + 2) _ _ _ _ from ⟨_, _, _, rfl, U0_7, U1_7, U2_7, AP_7⟩).base (B' := w.heap.size) (by omega)).hid
          have HL := hide hB_7
          clear hP_7 hR_7 hB_7 U0_7 U1_7 AP_7 U2_7
          go_wp2
          exact bodyPost_ret (v := .agg #[.slice xa2 xn2 xp2, .slice xa4 xn4 xp4, .slice xa6 xn6 xp6]) (by simp [results, Try.results68, go_sem, z0, z1, z2]) rfl ⟨⟨_, rfl, HM.out⟩, HL.out⟩
        · go_simp
          have hlt8 : w.heap.size + 1 < wq3.heap.size := hR_3.lt
          have hb8 := below_one wq3 (.cells #[] 40)
          have hP_8 := hP_3.next hb8
          have hR_8 := hR_3.next hb8
          have hB_8 := hB_3.trans (hb8.mono hB_3.size)
          have U0_8 := U0_3.next hb8
          have NB7_8 := NB7_3.next hb8
          have NB11_8 := BoxIs.new wq3 #[] 40 rfl
          refine hK.out _ _ hP_8 (fun hSz => ?_)
          clear hK K hSz NB7_3 U0_3 hB_3 hP_3 hR_3
          obtain ⟨G8, hG8⟩ : ∃ G, G = wq3.heap.size := ⟨_, rfl⟩
          rw [← hG8] at NB11_8 ⊢
          generalize wq3.alloc (.cells #[] 40) = wq8 at hb8 hP_8 hR_8 hB_8 U0_8 NB7_8 NB11_8 ⊢
          rw [← hG8] at hlt8
          clear hG8 hb8
          refine wpAnyH_ready (rs := [7]) (by kernel_rfl) (by simp) ?_
          refine AllReadyH.cons nat7 (fun K hK => ?_) AllReadyH.nil
          obtain ⟨v9, wq9, hr9, hb9, ho9, hl9⟩ := run_copyF wq8 G3 NB7_8 a1 c.n1 p1 c.r1 ((HS1.out.below hB_8).mono hB_8.size) (by omega)
          have hof9 := ho9.base (show w.heap.size + 2 ≤ G3 from hlt3)
          obtain ⟨xa9, xn9, xp9, rfl⟩ := ho9.shapeN
          refine step_append_run (P := Try.prog) rfl (.tmp 7) (.tmp 9) 28 28 rfl _ _ (by rfl) (by rfl) (hr9 _) ?_
          have hP_9 := hP_8.next hb9
          have hR_9 := hR_8.next hb9
          have hB_9 := hB_8.trans (hb9.mono hB_8.size)
          have U0_9 := U0_8.next hb9
          have NB11_9 := NB11_8.next hb9
          have U1_9 := hof9
          have AP_9 := apart_fresh U0_8 c.r1 hl9
          refine hK.out _ _ hP_9 (fun hSz => ?_)
          clear hK K hSz NB11_8 NB7_8 U0_8 hB_8 hP_8 hR_8
          clear hr9 hb9 ho9 hof9 hl9
          refine wpAnyH_ready (rs := [11]) (by kernel_rfl) (by simp) ?_
          refine AllReadyH.cons nat11 (fun K hK => ?_) AllReadyH.nil
          obtain ⟨v10, wq10, hr10, hb10, ho10, hl10⟩ := run_copyD wq9 G8 NB11_9 a2 c.n2 p2 c.r2 ((HS2.out.below hB_9).mono hB_9.size) (by omega)
          have hof10 := ho10.base (show w.heap.size + 2 ≤ G8 from hlt8)
          obtain ⟨xa10, xn10, xp10, rfl⟩ := ho10.shapeN
          refine step_append_run (P := Try.prog) rfl (.tmp 11) (.tmp 13) 29 29 rfl _ _ (by rfl) (by rfl) (hr10 _) ?_
          have hP_10 := hP_9.next hb10
          have hR_10 := hR_9.next hb10
          have hB_10 := hB_9.trans (hb10.mono hB_9.size)
          have U0_10 := U0_9.next hb10
          have U1_10 := U1_9.next hb10
          have AP_10 := AP_9
          have U2_10 := hof10
          refine hK.out _ _ hP_10 (fun hSz => ?_)
          clear hK K hSz AP_9 NB11_9 U0_9 U1_9 hB_9 hP_9 hR_9
          clear hr10 hb10 ho10 hof10 hl10
          refine wpAnyH_take (i := 12) (v := .agg #[.slice xa2 xn2 xp2, .slice xa9 xn9 xp9, .slice xa10 xn10 xp10]) nat12 (by kernel_rfl) (by kernel_rfl) (by kernel_rfl) (fun _ _ _ h => False.elim h) (Or.inl ⟨by rfl, ?_⟩) hP_10 ?_
          · intro wx hSw
            go_simp
          simp only [Act.put, List.setIfInBounds_toArray, List.set_cons_zero, List.set_cons_succ]
          refine wpAnyH_ready (rs := [13]) (by kernel_rfl) (by simp) ?_
          refine AllReadyH.cons nat13 (fun K hK => ?_) AllReadyH.nil
          have y0 := hR_10.cell 0
          have y1 := hR_10.cell 1
          have y2 := hR_10.cell 2
          simp only [List.getElem?_toArray, List.getElem?_cons_succ, List.getElem?_cons_zero] at y0 y1 y2
          have yf := hR_10.free
          go_simp
          clear yf y0 y1 y2
          have hP_11s0 := hP_10.set_other (p := ⟨w.heap.size + 1, 0, none⟩) (by simp) (.slice xa2 xn2 xp2)
          have hR_11s0 := hR_10.set 0 (.slice xa2 xn2 xp2)
          have hB_11s0 := hB_10.setCell (p := ⟨w.heap.size + 1, 0, none⟩) (Nat.le_succ _) (.slice xa2 xn2 xp2)
          have U0_11s0 := U0_10.setOther (p := ⟨w.heap.size + 1, 0, none⟩) (Nat.lt_succ_self _) (.slice xa2 xn2 xp2)
          have U1_11s0 := U1_10.setOther (p := ⟨w.heap.size + 1, 0, none⟩) (Nat.lt_succ_self _) (.slice xa2 xn2 xp2)
          have AP_11s0 := AP_10
          have U2_11s0 := U2_10.setOther (p := ⟨w.heap.size + 1, 0, none⟩) (Nat.lt_succ_self _) (.slice xa2 xn2 xp2)
          have hP_11s1 := hP_11s0.set_other (p := ⟨w.heap.size + 1, 1, none⟩) (by simp) (.slice xa9 xn9 xp9)
          have hR_11s1 := hR_11s0.set 1 (.slice xa9 xn9 xp9)
          have hB_11s1 := hB_11s0.setCell (p := ⟨w.heap.size + 1, 1, none⟩) (Nat.le_succ _) (.slice xa9 xn9 xp9)
          have U0_11s1 := U0_11s0.setOther (p := ⟨w.heap.size + 1, 1, none⟩) (Nat.lt_succ_self _) (.slice xa9 xn9 xp9)
          have U1_11s1 := U1_11s0.setOther (p := ⟨w.heap.size + 1, 1, none⟩) (Nat.lt_succ_self _) (.slice xa9 xn9 xp9)
          have AP_11s1 := AP_11s0
          have U2_11s1 := U2_11s0.setOther (p := ⟨w.heap.size + 1, 1, none⟩) (Nat.lt_succ_self _) (.slice xa9 xn9 xp9)
          have hP_11s2 := hP_11s1.set_other (p := ⟨w.heap.size + 1, 2, none⟩) (by simp) (.slice xa10 xn10 xp10)
          have hR_11s2 := hR_11s1.set 2 (.slice xa10 xn10 xp10)
          have hB_11s2 := hB_11s1.setCell (p := ⟨w.heap.size + 1, 2, none⟩) (Nat.le_succ _) (.slice xa10 xn10 xp10)
          have U0_11s2 := U0_11s1.setOther (p := ⟨w.heap.size + 1, 2, none⟩) (Nat.lt_succ_self _) (.slice xa10 xn10 xp10)
          have U1_11s2 := U1_11s1.setOther (p := ⟨w.heap.size + 1, 2, none⟩) (Nat.lt_succ_self _) (.slice xa10 xn10 xp10)
          have AP_11s2 := AP_11s1
          have U2_11s2 := U2_11s1.setOther (p := ⟨w.heap.size + 1, 2, none⟩) (Nat.lt_succ_self _) (.slice xa10 xn10 xp10)
          have hP_11 := hP_11s2
          have hR_11 : BoxIs (((wq10.setCell ⟨(w.heap.size + 1), 0, none⟩ (.slice xa2 xn2 xp2)).setCell ⟨(w.heap.size + 1), 1, none⟩ (.slice xa9 xn9 xp9)).setCell ⟨(w.heap.size + 1), 2, none⟩ (.slice xa10 xn10 xp10)) (w.heap.size + 1) #[.slice xa2 xn2 xp2, .slice xa9 xn9 xp9, .slice xa10 xn10 xp10] 31 := hR_11s2
          have hB_11 := hB_11s2
          have U0_11 := U0_11s2
          have U1_11 := U1_11s2
          have AP_11 := AP_11s2
          have U2_11 := U2_11s2
          refine hK.out _ _ hP_11 (fun hSz => ?_)
          clear hK K hSz AP_10 U0_10 U1_10 U2_10 hB_10 hP_10 hR_10 hP_11s0 hP_11s1 hP_11s2 hR_11s0 hR_11s1 hR_11s2 hB_11s0 hB_11s1 hB_11s2 U0_11s0 U0_11s1 U0_11s2 U1_11s0 U1_11s1 U1_11s2 AP_11s0 AP_11s1 AP_11s2 U2_11s0 U2_11s1 U2_11s2
          generalize ((wq10.setCell ⟨(w.heap.size + 1), 0, none⟩ (.slice xa2 xn2 xp2)).setCell ⟨(w.heap.size + 1), 1, none⟩ (.slice xa9 xn9 xp9)).setCell ⟨(w.heap.size + 1), 2, none⟩ (.slice xa10 xn10 xp10) = wq11 at hP_11 hR_11 hB_11 U0_11 U1_11 AP_11 U2_11 ⊢
          refine wpAnyH_done (by kernel_rfl) ?_ _
          refine NoPanic.normal ?_
          have z0 := hR_11.cell 0
          have z1 := hR_11.cell 1
          have z2 := hR_11.cell 2
          simp only [List.getElem?_toArray, List.getElem?_cons_succ, List.getElem?_cons_zero] at z0 z1 z2
          have HM := ((show DiskMade _ (w.heap.size + 2) _ _ _ _ from ⟨_, _, _, rfl, U0_11, U1_11, U2_11, AP_11⟩).base (B' := w.heap.size) (by omega)).hid
          have HL := hide hB_11
          clear hP_11 hR_11 hB_11 U0_11 U1_11 AP_11 U2_11
          go_wp2
          exact bodyPost_ret (v := .agg #[.slice xa2 xn2 xp2, .slice xa9 xn9 xp9, .slice xa10 xn10 xp10]) (by simp [results, Try.results68, go_sem, z0, z1, z2]) rfl ⟨⟨_, rfl, HM.out⟩, HL.out⟩
      · go_simp
        have hlt12 : w.heap.size + 1 < wq2.heap.size := hR_2.lt
        have hb12 := below_one wq2 (.cells #[] 40)
        have hP_12 := hP_2.next hb12
        have hR_12 := hR_2.next hb12
        have hB_12 := hB_2.trans (hb12.mono hB_2.size)
        have U0_12 := U0_2.next hb12
        have NB11_12 := BoxIs.new wq2 #[] 40 rfl
        refine hK.out _ _ hP_12 (fun hSz => ?_)
        clear hK K hSz U0_2 hB_2 hP_2 hR_2
        obtain ⟨G12, hG12⟩ : ∃ G, G = wq2.heap.size := ⟨_, rfl⟩
        rw [← hG12] at NB11_12 ⊢
        generalize wq2.alloc (.cells #[] 40) = wq12 at hb12 hP_12 hR_12 hB_12 U0_12 NB11_12 ⊢
        rw [← hG12] at hlt12
        clear hG12 hb12
        refine wpAnyH_ready (rs := [4]) (by kernel_rfl) (by simp) ?_
        refine AllReadyH.cons nat4 (fun K hK => ?_) AllReadyH.nil
        go_simp
        have hlt13 : w.heap.size + 1 < wq12.heap.size := hR_12.lt
        have hb13 := below_one wq12 (.cells #[] 96)
        have hP_13 := hP_12.next hb13
        have hR_13 := hR_12.next hb13
        have hB_13 := hB_12.trans (hb13.mono hB_12.size)
        have U0_13 := U0_12.next hb13
        have NB11_13 := NB11_12.next hb13
        have NB7_13 := BoxIs.new wq12 #[] 96 rfl
        refine hK.out _ _ hP_13 (fun hSz => ?_)
        clear hK K hSz NB11_12 U0_12 hB_12 hP_12 hR_12
        obtain ⟨G13, hG13⟩ : ∃ G, G = wq12.heap.size := ⟨_, rfl⟩
        rw [← hG13] at NB7_13 ⊢
        generalize wq12.alloc (.cells #[] 96) = wq13 at hb13 hP_13 hR_13 hB_13 U0_13 NB11_13 NB7_13 ⊢
        rw [← hG13] at hlt13
        clear hG13 hb13
        refine wpAnyH_ready (rs := [7]) (by kernel_rfl) (by simp) ?_
        refine AllReadyH.cons nat7 (fun K hK => ?_) AllReadyH.nil
        obtain ⟨v14, wq14, hr14, hb14, ho14, hl14⟩ := run_copyF wq13 G13 NB7_13 a1 c.n1 p1 c.r1 ((HS1.out.below hB_13).mono hB_13.size) (by omega)
        have hof14 := ho14.base (show w.heap.size + 2 ≤ G13 from hlt13)
        obtain ⟨xa14, xn14, xp14, rfl⟩ := ho14.shapeN
        refine step_append_run (P := Try.prog) rfl (.tmp 7) (.tmp 9) 28 28 rfl _ _ (by rfl) (by rfl) (hr14 _) ?_
        have hP_14 := hP_13.next hb14
        have hR_14 := hR_13.next hb14
        have hB_14 := hB_13.trans (hb14.mono hB_13.size)
        have U0_14 := U0_13.next hb14
        have NB11_14 := NB11_13.next hb14
        have U1_14 := hof14
        have AP_14 := apart_fresh U0_13 c.r1 hl14
        refine hK.out _ _ hP_14 (fun hSz => ?_)
        clear hK K hSz NB11_13 NB7_13 U0_13 hB_13 hP_13 hR_13
        clear hr14 hb14 ho14 hof14 hl14
        refine wpAnyH_ready (rs := [11]) (by kernel_rfl) (by simp) ?_
        refine AllReadyH.cons nat11 (fun K hK => ?_) AllReadyH.nil
        obtain ⟨v15, wq15, hr15, hb15, ho15, hl15⟩ := run_copyD wq14 G12 NB11_14 a2 c.n2 p2 c.r2 ((HS2.out.below hB_14).mono hB_14.size) (by omega)
        have hof15 := ho15.base (show w.heap.size + 2 ≤ G12 from hlt12)
        obtain ⟨xa15, xn15, xp15, rfl⟩ := ho15.shapeN
        refine step_append_run (P := Try.prog) rfl (.tmp 11) (.tmp 13) 29 29 rfl _ _ (by rfl) (by rfl) (hr15 _) ?_
        have hP_15 := hP_14.next hb15
        have hR_15 := hR_14.next hb15
        have hB_15 := hB_14.trans (hb15.mono hB_14.size)
        have U0_15 := U0_14.next hb15
        have U1_15 := U1_14.next hb15
        have AP_15 := AP_14
        have U2_15 := hof15
        refine hK.out _ _ hP_15 (fun hSz => ?_)
        clear hK K hSz AP_14 NB11_14 U0_14 U1_14 hB_14 hP_14 hR_14
        clear hr15 hb15 ho15 hof15 hl15
        refine wpAnyH_take (i := 12) (v := .agg #[.slice xa2 xn2 xp2, .slice xa14 xn14 xp14, .slice xa15 xn15 xp15]) nat12 (by kernel_rfl) (by kernel_rfl) (by kernel_rfl) (fun _ _ _ h => False.elim h) (Or.inl ⟨by rfl, ?_⟩) hP_15 ?_
        · intro wx hSw
          go_simp
        simp only [Act.put, List.setIfInBounds_toArray, List.set_cons_zero, List.set_cons_succ]
        refine wpAnyH_ready (rs := [13]) (by kernel_rfl) (by simp) ?_
        refine AllReadyH.cons nat13 (fun K hK => ?_) AllReadyH.nil
        have y0 := hR_15.cell 0
        have y1 := hR_15.cell 1
        have y2 := hR_15.cell 2
        simp only [List.getElem?_toArray, List.getElem?_cons_succ, List.getElem?_cons_zero] at y0 y1 y2
        have yf := hR_15.free
        go_simp
        clear yf y0 y1 y2
        have hP_16s0 := hP_15.set_other (p := ⟨w.heap.size + 1, 0, none⟩) (by simp) (.slice xa2 xn2 xp2)
        have hR_16s0 := hR_15.set 0 (.slice xa2 xn2 xp2)
        have hB_16s0 := hB_15.setCell (p := ⟨w.heap.size + 1, 0, none⟩) (Nat.le_succ _) (.slice xa2 xn2 xp2)
        have U0_16s0 := U0_15.setOther (p := ⟨w.heap.size + 1, 0, none⟩) (Nat.lt_succ_self _) (.slice xa2 xn2 xp2)
        have U1_16s0 := U1_15.setOther (p := ⟨w.heap.size + 1, 0, none⟩) (Nat.lt_succ_self _) (.slice xa2 xn2 xp2)
        have AP_16s0 := AP_15
        have U2_16s0 := U2_15.setOther (p := ⟨w.heap.size + 1, 0, none⟩) (Nat.lt_succ_self _) (.slice xa2 xn2 xp2)
        have hP_16s1 := hP_16s0.set_other (p := ⟨w.heap.size + 1, 1, none⟩) (by simp) (.slice xa14 xn14 xp14)
        have hR_16s1 := hR_16s0.set 1 (.slice xa14 xn14 xp14)
        have hB_16s1 := hB_16s0.setCell (p := ⟨w.heap.size + 1, 1, none⟩) (Nat.le_succ _) (.slice xa14 xn14 xp14)
        have U0_16s1 := U0_16s0.setOther (p := ⟨w.heap.size + 1, 1, none⟩) (Nat.lt_succ_self _) (.slice xa14 xn14 xp14)
        have U1_16s1 := U1_16s0.setOther (p := ⟨w.heap.size + 1, 1, none⟩) (Nat.lt_succ_self _) (.slice xa14 xn14 xp14)
        have AP_16s1 := AP_16s0
        have U2_16s1 := U2_16s0.setOther (p := ⟨w.heap.size + 1, 1, none⟩) (Nat.lt_succ_self _) (.slice xa14 xn14 xp14)
        have hP_16s2 := hP_16s1.set_other (p := ⟨w.heap.size + 1, 2, none⟩) (by simp) (.slice xa15 xn15 xp15)
        have hR_16s2 := hR_16s1.set 2 (.slice xa15 xn15 xp15)
        have hB_16s2 := hB_16s1.setCell (p := ⟨w.heap.size + 1, 2, none⟩) (Nat.le_succ _) (.slice xa15 xn15 xp15)
        have U0_16s2 := U0_16s1.setOther (p := ⟨w.heap.size + 1, 2, none⟩) (Nat.lt_succ_self _) (.slice xa15 xn15 xp15)
        have U1_16s2 := U1_16s1.setOther (p := ⟨w.heap.size + 1, 2, none⟩) (Nat.lt_succ_self _) (.slice xa15 xn15 xp15)
        have AP_16s2 := AP_16s1
        have U2_16s2 := U2_16s1.setOther (p := ⟨w.heap.size + 1, 2, none⟩) (Nat.lt_succ_self _) (.slice xa15 xn15 xp15)
        have hP_16 := hP_16s2
        have hR_16 : BoxIs (((wq15.setCell ⟨(w.heap.size + 1), 0, none⟩ (.slice xa2 xn2 xp2)).setCell ⟨(w.heap.size + 1), 1, none⟩ (.slice xa14 xn14 xp14)).setCell ⟨(w.heap.size + 1), 2, none⟩ (.slice xa15 xn15 xp15)) (w.heap.size + 1) #[.slice xa2 xn2 xp2, .slice xa14 xn14 xp14, .slice xa15 xn15 xp15] 31 := hR_16s2
        have hB_16 := hB_16s2
        have U0_16 := U0_16s2
        have U1_16 := U1_16s2
        have AP_16 := AP_16s2
        have U2_16 := U2_16s2
        refine hK.out _ _ hP_16 (fun hSz => ?_)
        clear hK K hSz AP_15 U0_15 U1_15 U2_15 hB_15 hP_15 hR_15 hP_16s0 hP_16s1 hP_16s2 hR_16s0 hR_16s1 hR_16s2 hB_16s0 hB_16s1 hB_16s2 U0_16s0 U0_16s1 U0_16s2 U1_16s0 U1_16s1 U1_16s2 AP_16s0 AP_16s1 AP_16s2 U2_16s0 U2_16s1 U2_16s2
        generalize ((wq15.setCell ⟨(w.heap.size + 1), 0, none⟩ (.slice xa2 xn2 xp2)).setCell ⟨(w.heap.size + 1), 1, none⟩ (.slice xa14 xn14 xp14)).setCell ⟨(w.heap.size + 1), 2, none⟩ (.slice xa15 xn15 xp15) = wq16 at hP_16 hR_16 hB_16 U0_16 U1_16 AP_16 U2_16 ⊢
        refine wpAnyH_done (by kernel_rfl) ?_ _
        refine NoPanic.normal ?_
        have z0 := hR_16.cell 0
        have z1 := hR_16.cell 1
        have z2 := hR_16.cell 2
        simp only [List.getElem?_toArray, List.getElem?_cons_succ, List.getElem?_cons_zero] at z0 z1 z2
        have HM := ((show DiskMade _ (w.heap.size + 2) _ _ _ _ from ⟨_, _, _, rfl, U0_16, U1_16, U2_16, AP_16⟩).base (B' := w.heap.size) (by omega)).hid
        have HL := hide hB_16
        clear hP_16 hR_16 hB_16 U0_16 U1_16 AP_16 U2_16
        go_wp2
        exact bodyPost_ret (v := .agg #[.slice xa2 xn2 xp2, .slice xa14 xn14 xp14, .slice xa15 xn15 xp15]) (by simp [results, Try.results68, go_sem, z0, z1, z2]) rfl ⟨⟨_, rfl, HM.out⟩, HL.out⟩
    · go_simp
      have hlt17 : w.heap.size + 1 < wq1.heap.size := hR_1.lt
      have hb17 := below_one wq1 (.cells #[] 96)
      have hP_17 := hP_1.next hb17
      have hR_17 := hR_1.next hb17
      have hB_17 := hB_1.trans (hb17.mono hB_1.size)
      have NB3_17 := NB3_1.next hb17
      have NB7_17 := BoxIs.new wq1 #[] 96 rfl
      refine hK.out _ _ hP_17 (fun hSz => ?_)
      clear hK K hSz NB3_1 hB_1 hP_1 hR_1
      obtain ⟨G17, hG17⟩ : ∃ G, G = wq1.heap.size := ⟨_, rfl⟩
      rw [← hG17] at NB7_17 ⊢
      generalize wq1.alloc (.cells #[] 96) = wq17 at hb17 hP_17 hR_17 hB_17 NB3_17 NB7_17 ⊢
      rw [← hG17] at hlt17
      clear hG17 hb17
      refine wpAnyH_ready (rs := [3, 8]) (by kernel_rfl) (by simp) ?_
      refine AllReadyH.cons nat3 (fun K hK => ?_) (AllReadyH.cons nat8 (fun K hK => ?_) AllReadyH.nil)
      · obtain ⟨v18, wq18, hr18, hb18, ho18, hl18⟩ := run_copyF wq17 G1 NB3_17 a0 c.n0 p0 c.r0 ((HS0.out.below hB_17).mono hB_17.size) (by omega)
        have hof18 := ho18.base (show w.heap.size + 2 ≤ G1 from hlt1)
        obtain ⟨xa18, xn18, xp18, rfl⟩ := ho18.shapeN
        refine step_append_run (P := Try.prog) rfl (.tmp 3) (.tmp 5) 28 28 rfl _ _ (by rfl) (by rfl) (hr18 _) ?_
        have hP_18 := hP_17.next hb18
        have hR_18 := hR_17.next hb18
        have hB_18 := hB_17.trans (hb18.mono hB_17.size)
        have NB7_18 := NB7_17.next hb18
        have U0_18 := hof18
        refine hK.out _ _ hP_18 (fun hSz => ?_)
        clear hK K hSz NB3_17 NB7_17 hB_17 hP_17 hR_17
        clear hr18 hb18 ho18 hof18 hl18
        refine wpAnyH_ready (rs := [7, 8]) (by kernel_rfl) (by simp) ?_
        refine AllReadyH.cons nat7 (fun K hK => ?_) (AllReadyH.cons nat8 (fun K hK => ?_) AllReadyH.nil)
        · obtain ⟨v19, wq19, hr19, hb19, ho19, hl19⟩ := run_copyF wq18 G17 NB7_18 a1 c.n1 p1 c.r1 ((HS1.out.below hB_18).mono hB_18.size) (by omega)
          have hof19 := ho19.base (show w.heap.size + 2 ≤ G17 from hlt17)
          obtain ⟨xa19, xn19, xp19, rfl⟩ := ho19.shapeN
          refine step_append_run (P := Try.prog) rfl (.tmp 7) (.tmp 9) 28 28 rfl _ _ (by rfl) (by rfl) (hr19 _) ?_
          have hP_19 := hP_18.next hb19
          have hR_19 := hR_18.next hb19
          have hB_19 := hB_18.trans (hb19.mono hB_18.size)
          have U0_19 := U0_18.next hb19
          have U1_19 := hof19
          have AP_19 := apart_fresh U0_18 c.r1 hl19
          refine hK.out _ _ hP_19 (fun hSz => ?_)
          clear hK K hSz NB7_18 U0_18 hB_18 hP_18 hR_18
          clear hr19 hb19 ho19 hof19 hl19
          refine wpAnyH_ready (rs := [8]) (by kernel_rfl) (by simp) ?_
          refine AllReadyH.cons nat8 (fun K hK => ?_) AllReadyH.nil
          go_simp
          have hlt20 : w.heap.size + 1 < wq19.heap.size := hR_19.lt
          have hb20 := below_one wq19 (.cells #[] 40)
          have hP_20 := hP_19.next hb20
          have hR_20 := hR_19.next hb20
          have hB_20 := hB_19.trans (hb20.mono hB_19.size)
          have U0_20 := U0_19.next hb20
          have U1_20 := U1_19.next hb20
          have AP_20 := AP_19
          have NB11_20 := BoxIs.new wq19 #[] 40 rfl
          refine hK.out _ _ hP_20 (fun hSz => ?_)
          clear hK K hSz AP_19 U0_19 U1_19 hB_19 hP_19 hR_19
          obtain ⟨G20, hG20⟩ : ∃ G, G = wq19.heap.size := ⟨_, rfl⟩
          rw [← hG20] at NB11_20 ⊢
          generalize wq19.alloc (.cells #[] 40) = wq20 at hb20 hP_20 hR_20 hB_20 U0_20 U1_20 AP_20 NB11_20 ⊢
          rw [← hG20] at hlt20
          clear hG20 hb20
          refine wpAnyH_ready (rs := [11]) (by kernel_rfl) (by simp) ?_
          refine AllReadyH.cons nat11 (fun K hK => ?_) AllReadyH.nil
          obtain ⟨v21, wq21, hr21, hb21, ho21, hl21⟩ := run_copyD wq20 G20 NB11_20 a2 c.n2 p2 c.r2 ((HS2.out.below hB_20).mono hB_20.size) (by omega)
          have hof21 := ho21.base (show w.heap.size + 2 ≤ G20 from hlt20)
          obtain ⟨xa21, xn21, xp21, rfl⟩ := ho21.shapeN
          refine step_append_run (P := Try.prog) rfl (.tmp 11) (.tmp 13) 29 29 rfl _ _ (by rfl) (by rfl) (hr21 _) ?_
          have hP_21 := hP_20.next hb21
          have hR_21 := hR_20.next hb21
          have hB_21 := hB_20.trans (hb21.mono hB_20.size)
          have U0_21 := U0_20.next hb21
          have U1_21 := U1_20.next hb21
          have AP_21 := AP_20
          have U2_21 := hof21
          refine hK.out _ _ hP_21 (fun hSz => ?_)
          clear hK K hSz AP_20 NB11_20 U0_20 U1_20 hB_20 hP_20 hR_20
          clear hr21 hb21 ho21 hof21 hl21
          refine wpAnyH_take (i := 12) (v := .agg #[.slice xa18 xn18 xp18, .slice xa19 xn19 xp19, .slice xa21 xn21 xp21]) nat12 (by kernel_rfl) (by kernel_rfl) (by kernel_rfl) (fun _ _ _ h => False.elim h) (Or.inl ⟨by rfl, ?_⟩) hP_21 ?_
          · intro wx hSw
            go_simp
          simp only [Act.put, List.setIfInBounds_toArray, List.set_cons_zero, List.set_cons_succ]
          refine wpAnyH_ready (rs := [13]) (by kernel_rfl) (by simp) ?_
          refine AllReadyH.cons nat13 (fun K hK => ?_) AllReadyH.nil
          have y0 := hR_21.cell 0
          have y1 := hR_21.cell 1
          have y2 := hR_21.cell 2
          simp only [List.getElem?_toArray, List.getElem?_cons_succ, List.getElem?_cons_zero] at y0 y1 y2
          have yf := hR_21.free
          go_simp
          clear yf y0 y1 y2
          have hP_22s0 := hP_21.set_other (p := ⟨w.heap.size + 1, 0, none⟩) (by simp) (.slice xa18 xn18 xp18)
          have hR_22s0 := hR_21.set 0 (.slice xa18 xn18 xp18)
          have hB_22s0 := hB_21.setCell (p := ⟨w.heap.size + 1, 0, none⟩) (Nat.le_succ _) (.slice xa18 xn18 xp18)
          have U0_22s0 := U0_21.setOther (p := ⟨w.heap.size + 1, 0, none⟩) (Nat.lt_succ_self _) (.slice xa18 xn18 xp18)
          have U1_22s0 := U1_21.setOther (p := ⟨w.heap.size + 1, 0, none⟩) (Nat.lt_succ_self _) (.slice xa18 xn18 xp18)
          have AP_22s0 := AP_21
          have U2_22s0 := U2_21.setOther (p := ⟨w.heap.size + 1, 0, none⟩) (Nat.lt_succ_self _) (.slice xa18 xn18 xp18)
          have hP_22s1 := hP_22s0.set_other (p := ⟨w.heap.size + 1, 1, none⟩) (by simp) (.slice xa19 xn19 xp19)
          have hR_22s1 := hR_22s0.set 1 (.slice xa19 xn19 xp19)
          have hB_22s1 := hB_22s0.setCell (p := ⟨w.heap.size + 1, 1, none⟩) (Nat.le_succ _) (.slice xa19 xn19 xp19)
          have U0_22s1 := U0_22s0.setOther (p := ⟨w.heap.size + 1, 1, none⟩) (Nat.lt_succ_self _) (.slice xa19 xn19 xp19)
          have U1_22s1 := U1_22s0.setOther (p := ⟨w.heap.size + 1, 1, none⟩) (Nat.lt_succ_self _) (.slice xa19 xn19 xp19)
          have AP_22s1 := AP_22s0
          have U2_22s1 := U2_22s0.setOther (p := ⟨w.heap.size + 1, 1, none⟩) (Nat.lt_succ_self _) (.slice xa19 xn19 xp19)
          have hP_22s2 := hP_22s1.set_other (p := ⟨w.heap.size + 1, 2, none⟩) (by simp) (.slice xa21 xn21 xp21)
          have hR_22s2 := hR_22s1.set 2 (.slice xa21 xn21 xp21)
          have hB_22s2 := hB_22s1.setCell (p := ⟨w.heap.size + 1, 2, none⟩) (Nat.le_succ _) (.slice xa21 xn21 xp21)
          have U0_22s2 := U0_22s1.setOther (p := ⟨w.heap.size + 1, 2, none⟩) (Nat.lt_succ_self _) (.slice xa21 xn21 xp21)
          have U1_22s2 := U1_22s1.setOther (p := ⟨w.heap.size + 1, 2, none⟩) (Nat.lt_succ_self _) (.slice xa21 xn21 xp21)
          have AP_22s2 := AP_22s1
          have U2_22s2 := U2_22s1.setOther (p := ⟨w.heap.size + 1, 2, none⟩) (Nat.lt_succ_self _) (.slice xa21 xn21 xp21)
          have hP_22 := hP_22s2
          have hR_22 : BoxIs (((wq21.setCell ⟨(w.heap.size + 1), 0, none⟩ (.slice xa18 xn18 xp18)).setCell ⟨(w.heap.size + 1), 1, none⟩ (.slice xa19 xn19 xp19)).setCell ⟨(w.heap.size + 1), 2, none⟩ (.slice xa21 xn21 xp21)) (w.heap.size + 1) #[.slice xa18 xn18 xp18, .slice xa19 xn19 xp19, .slice xa21 xn21 xp21] 31 := hR_22s2
          have hB_22 := hB_22s2
          have U0_22 := U0_22s2
          have U1_22 := U1_22s2
          have AP_22 := AP_22s2
          have U2_22 := U2_22s2
          refine hK.out _ _ hP_22 (fun hSz => ?_)
          clear hK K hSz AP_21 U0_21 U1_21 U2_21 hB_21 hP_21 hR_21 hP_22s0 hP_22s1 hP_22s2 hR_22s0 hR_22s1 hR_22s2 hB_22s0 hB_22s1 hB_22s2 U0_22s0 U0_22s1 U0_22s2 U1_22s0 U1_22s1 U1_22s2 AP_22s0 AP_22s1 AP_22s2 U2_22s0 U2_22s1 U2_22s2
          generalize ((wq21.setCell ⟨(w.heap.size + 1), 0, none⟩ (.slice xa18 xn18 xp18)).setCell ⟨(w.heap.size + 1), 1, none⟩ (.slice xa19 xn19 xp19)).setCell ⟨(w.heap.size + 1), 2, none⟩ (.slice xa21 xn21 xp21) = wq22 at hP_22 hR_22 hB_22 U0_22 U1_22 AP_22 U2_22 ⊢
          refine wpAnyH_done (by kernel_rfl) ?_ _
          refine NoPanic.normal ?_
          have z0 := hR_22.cell 0
          have z1 := hR_22.cell 1
          have z2 := hR_22.cell 2
          simp only [List.getElem?_toArray, List.getElem?_cons_succ, List.getElem?_cons_zero] at z0 z1 z2
          have HM := ((show DiskMade _ (w.heap.size + 2) _ _ _ _ from ⟨_, _, _, rfl, U0_22, U1_22, U2_22, AP_22⟩).base (B' := w.heap.size) (by omega)).hid
          have HL := hide hB_22
          clear hP_22 hR_22 hB_22 U0_22 U1_22 AP_22 U2_22
          go_wp2
          exact bodyPost_ret (v := .agg #[.slice xa18 xn18 xp18, .slice xa19 xn19 xp19, .slice xa21 xn21 xp21]) (by simp [results, Try.results68, go_sem, z0, z1, z2]) rfl ⟨⟨_, rfl, HM.out⟩, HL.out⟩
        · go_simp
          have hlt23 : w.heap.size + 1 < wq18.heap.size := hR_18.lt
          have hb23 := below_one wq18 (.cells #[] 40)
          have hP_23 := hP_18.next hb23
          have hR_23 := hR_18.next hb23
          have hB_23 := hB_18.trans (hb23.mono hB_18.size)
          have NB7_23 := NB7_18.next hb23
          have U0_23 := U0_18.next hb23
          have NB11_23 := BoxIs.new wq18 #[] 40 rfl
          refine hK.out _ _ hP_23 (fun hSz => ?_)
          clear hK K hSz NB7_18 U0_18 hB_18 hP_18 hR_18
          obtain ⟨G23, hG23⟩ : ∃ G, G = wq18.heap.size := ⟨_, rfl⟩
          rw [← hG23] at NB11_23 ⊢
          generalize wq18.alloc (.cells #[] 40) = wq23 at hb23 hP_23 hR_23 hB_23 NB7_23 U0_23 NB11_23 ⊢
          rw [← hG23] at hlt23
          clear hG23 hb23
          refine wpAnyH_ready (rs := [7]) (by kernel_rfl) (by simp) ?_
          refine AllReadyH.cons nat7 (fun K hK => ?_) AllReadyH.nil
          obtain ⟨v24, wq24, hr24, hb24, ho24, hl24⟩ := run_copyF wq23 G17 NB7_23 a1 c.n1 p1 c.r1 ((HS1.out.below hB_23).mono hB_23.size) (by omega)
          have hof24 := ho24.base (show w.heap.size + 2 ≤ G17 from hlt17)
          obtain ⟨xa24, xn24, xp24, rfl⟩ := ho24.shapeN
          refine step_append_run (P := Try.prog) rfl (.tmp 7) (.tmp 9) 28 28 rfl _ _ (by rfl) (by rfl) (hr24 _) ?_
          have hP_24 := hP_23.next hb24
          have hR_24 := hR_23.next hb24
          have hB_24 := hB_23.trans (hb24.mono hB_23.size)
          have U0_24 := U0_23.next hb24
          have NB11_24 := NB11_23.next hb24
          have U1_24 := hof24
          have AP_24 := apart_fresh U0_23 c.r1 hl24
          refine hK.out _ _ hP_24 (fun hSz => ?_)
          clear hK K hSz NB11_23 NB7_23 U0_23 hB_23 hP_23 hR_23
          clear hr24 hb24 ho24 hof24 hl24
          refine wpAnyH_ready (rs := [11]) (by kernel_rfl) (by simp) ?_
          refine AllReadyH.cons nat11 (fun K hK => ?_) AllReadyH.nil
          obtain ⟨v25, wq25, hr25, hb25, ho25, hl25⟩ := run_copyD wq24 G23 NB11_24 a2 c.n2 p2 c.r2 ((HS2.out.below hB_24).mono hB_24.size) (by omega)
          have hof25 := ho25.base (show w.heap.size + 2 ≤ G23 from hlt23)
          obtain ⟨xa25, xn25, xp25, rfl⟩ := ho25.shapeN
          refine step_append_run (P := Try.prog) rfl (.tmp 11) (.tmp 13) 29 29 rfl _ _ (by rfl) (by rfl) (hr25 _) ?_
          have hP_25 := hP_24.next hb25
          have hR_25 := hR_24.next hb25
          have hB_25 := hB_24.trans (hb25.mono hB_24.size)
          have U0_25 := U0_24.next hb25
          have U1_25 := U1_24.next hb25
          have AP_25 := AP_24
          have U2_25 := hof25
          refine hK.out _ _ hP_25 (fun hSz => ?_)
          clear hK K hSz AP_24 NB11_24 U0_24 U1_24 hB_24 hP_24 hR_24
          clear hr25 hb25 ho25 hof25 hl25
          refine wpAnyH_take (i := 12) (v := .agg #[.slice xa18 xn18 xp18, .slice xa24 xn24 xp24, .slice xa25 xn25 xp25]) nat12 (by kernel_rfl) (by kernel_rfl) (by kernel_rfl) (fun _ _ _ h => False.elim h) (Or.inl ⟨by rfl, ?_⟩) hP_25 ?_
          · intro wx hSw
            go_simp
          simp only [Act.put, List.setIfInBounds_toArray, List.set_cons_zero, List.set_cons_succ]
          refine wpAnyH_ready (rs := [13]) (by kernel_rfl) (by simp) ?_
          refine AllReadyH.cons nat13 (fun K hK => ?_) AllReadyH.nil
          have y0 := hR_25.cell 0
          have y1 := hR_25.cell 1
          have y2 := hR_25.cell 2
          simp only [List.getElem?_toArray, List.getElem?_cons_succ, List.getElem?_cons_zero] at y0 y1 y2
          have yf := hR_25.free
          go_simp
          clear yf y0 y1 y2
          have hP_26s0 := hP_25.set_other (p := ⟨w.heap.size + 1, 0, none⟩) (by simp) (.slice xa18 xn18 xp18)
          have hR_26s0 := hR_25.set 0 (.slice xa18 xn18 xp18)
          have hB_26s0 := hB_25.setCell (p := ⟨w.heap.size + 1, 0, none⟩) (Nat.le_succ _) (.slice xa18 xn18 xp18)
          have U0_26s0 := U0_25.setOther (p := ⟨w.heap.size + 1, 0, none⟩) (Nat.lt_succ_self _) (.slice xa18 xn18 xp18)
          have U1_26s0 := U1_25.setOther (p := ⟨w.heap.size + 1, 0, none⟩) (Nat.lt_succ_self _) (.slice xa18 xn18 xp18)
          have AP_26s0 := AP_25
          have U2_26s0 := U2_25.setOther (p := ⟨w.heap.size + 1, 0, none⟩) (Nat.lt_succ_self _) (.slice xa18 xn18 xp18)
          have hP_26s1 := hP_26s0.set_other (p := ⟨w.heap.size + 1, 1, none⟩) (by simp) (.slice xa24 xn24 xp24)
          have hR_26s1 := hR_26s0.set 1 (.slice xa24 xn24 xp24)
          have hB_26s1 := hB_26s0.setCell (p := ⟨w.heap.size + 1, 1, none⟩) (Nat.le_succ _) (.slice xa24 xn24 xp24)
          have U0_26s1 := U0_26s0.setOther (p := ⟨w.heap.size + 1, 1, none⟩) (Nat.lt_succ_self _) (.slice xa24 xn24 xp24)
          have U1_26s1 := U1_26s0.setOther (p := ⟨w.heap.size + 1, 1, none⟩) (Nat.lt_succ_self _) (.slice xa24 xn24 xp24)
          have AP_26s1 := AP_26s0
          have U2_26s1 := U2_26s0.setOther (p := ⟨w.heap.size + 1, 1, none⟩) (Nat.lt_succ_self _) (.slice xa24 xn24 xp24)
          have hP_26s2 := hP_26s1.set_other (p := ⟨w.heap.size + 1, 2, none⟩) (by simp) (.slice xa25 xn25 xp25)
          have hR_26s2 := hR_26s1.set 2 (.slice xa25 xn25 xp25)
          have hB_26s2 := hB_26s1.setCell (p := ⟨w.heap.size + 1, 2, none⟩) (Nat.le_succ _) (.slice xa25 xn25 xp25)
          have U0_26s2 := U0_26s1.setOther (p := ⟨w.heap.size + 1, 2, none⟩) (Nat.lt_succ_self _) (.slice xa25 xn25 xp25)
          have U1_26s2 := U1_26s1.setOther (p := ⟨w.heap.size + 1, 2, none⟩) (Nat.lt_succ_self _) (.slice xa25 xn25 xp25)
          have AP_26s2 := AP_26s1
          have U2_26s2 := U2_26s1.setOther (p := ⟨w.heap.size + 1, 2, none⟩) (Nat.lt_succ_self _) (.slice xa25 xn25 xp25)
          have hP_26 := hP_26s2
          have hR_26 : BoxIs (((wq25.setCell ⟨(w.heap.size + 1), 0, none⟩ (.slice xa18 xn18 xp18)).setCell ⟨(w.heap.size + 1), 1, none⟩ (.slice xa24 xn24 xp24)).setCell ⟨(w.heap.size + 1), 2, none⟩ (.slice xa25 xn25 xp25)) (w.heap.size + 1) #[.slice xa18 xn18 xp18, .slice xa24 xn24 xp24, .slice xa25 xn25 xp25] 31 := hR_26s2
          have hB_26 := hB_26s2
          have U0_26 := U0_26s2
          have U1_26 := U1_26s2
          have AP_26 := AP_26s2
          have U2_26 := U2_26s2
          refine hK.out _ _ hP_26 (fun hSz => ?_)
          clear hK K hSz AP_25 U0_25 U1_25 U2_25 hB_25 hP_25 hR_25 hP_26s0 hP_26s1 hP_26s2 hR_26s0 hR_26s1 hR_26s2 hB_26s0 hB_26s1 hB_26s2 U0_26s0 U0_26s1 U0_26s2 U1_26s0 U1_26s1 U1_26s2 AP_26s0 AP_26s1 AP_26s2 U2_26s0 U2_26s1 U2_26s2
          generalize ((wq25.setCell ⟨(w.heap.size + 1), 0, none⟩ (.slice xa18 xn18 xp18)).setCell ⟨(w.heap.size + 1), 1, none⟩ (.slice xa24 xn24 xp24)).setCell ⟨(w.heap.size + 1), 2, none⟩ (.slice xa25 xn25 xp25) = wq26 at hP_26 hR_26 hB_26 U0_26 U1_26 AP_26 U2_26 ⊢
          refine wpAnyH_done (by kernel_rfl) ?_ _
          refine NoPanic.normal ?_
          have z0 := hR_26.cell 0
          have z1 := hR_26.cell 1
          have z2 := hR_26.cell 2
          simp only [List.getElem?_toArray, List.getElem?_cons_succ, List.getElem?_cons_zero] at z0 z1 z2
          have HM := ((show DiskMade _ (w.heap.size + 2) _ _ _ _ from ⟨_, _, _, rfl, U0_26, U1_26, U2_26, AP_26⟩).base (B' := w.heap.size) (by omega)).hid
          have HL := hide hB_26
          clear hP_26 hR_26 hB_26 U0_26 U1_26 AP_26 U2_26
          go_wp2
          exact bodyPost_ret (v := .agg #[.slice xa18 xn18 xp18, .slice xa24 xn24 xp24, .slice xa25 xn25 xp25]) (by simp [results, Try.results68, go_sem, z0, z1, z2]) rfl ⟨⟨_, rfl, HM.out⟩, HL.out⟩
      · go_simp
        have hlt27 : w.heap.size + 1 < wq17.heap.size := hR_17.lt
        have hb27 := below_one wq17 (.cells #[] 40)
        have hP_27 := hP_17.next hb27
        have hR_27 := hR_17.next hb27
        have hB_27 := hB_17.trans (hb27.mono hB_17.size)
        have NB3_27 := NB3_17.next hb27
        have NB7_27 := NB7_17.next hb27
        have NB11_27 := BoxIs.new wq17 #[] 40 rfl
        refine hK.out _ _ hP_27 (fun hSz => ?_)
        clear hK K hSz NB3_17 NB7_17 hB_17 hP_17 hR_17
        obtain ⟨G27, hG27⟩ : ∃ G, G = wq17.heap.size := ⟨_, rfl⟩
        rw [← hG27] at NB11_27 ⊢
        generalize wq17.alloc (.cells #[] 40) = wq27 at hb27 hP_27 hR_27 hB_27 NB3_27 NB7_27 NB11_27 ⊢
        rw [← hG27] at hlt27
        clear hG27 hb27
        refine wpAnyH_ready (rs := [3]) (by kernel_rfl) (by simp) ?_
        refine AllReadyH.cons nat3 (fun K hK => ?_) AllReadyH.nil
        obtain ⟨v28, wq28, hr28, hb28, ho28, hl28⟩ := run_copyF wq27 G1 NB3_27 a0 c.n0 p0 c.r0 ((HS0.out.below hB_27).mono hB_27.size) (by omega)
        have hof28 := ho28.base (show w.heap.size + 2 ≤ G1 from hlt1)
        obtain ⟨xa28, xn28, xp28, rfl⟩ := ho28.shapeN
        refine step_append_run (P := Try.prog) rfl (.tmp 3) (.tmp 5) 28 28 rfl _ _ (by rfl) (by rfl) (hr28 _) ?_
        have hP_28 := hP_27.next hb28
        have hR_28 := hR_27.next hb28
        have hB_28 := hB_27.trans (hb28.mono hB_27.size)
        have NB7_28 := NB7_27.next hb28
        have NB11_28 := NB11_27.next hb28
        have U0_28 := hof28
        refine hK.out _ _ hP_28 (fun hSz => ?_)
        clear hK K hSz NB11_27 NB3_27 NB7_27 hB_27 hP_27 hR_27
        clear hr28 hb28 ho28 hof28 hl28
        refine wpAnyH_ready (rs := [7]) (by kernel_rfl) (by simp) ?_
        refine AllReadyH.cons nat7 (fun K hK => ?_) AllReadyH.nil
        obtain ⟨v29, wq29, hr29, hb29, ho29, hl29⟩ := run_copyF wq28 G17 NB7_28 a1 c.n1 p1 c.r1 ((HS1.out.below hB_28).mono hB_28.size) (by omega)
        have hof29 := ho29.base (show w.heap.size + 2 ≤ G17 from hlt17)
        obtain ⟨xa29, xn29, xp29, rfl⟩ := ho29.shapeN
        refine step_append_run (P := Try.prog) rfl (.tmp 7) (.tmp 9) 28 28 rfl _ _ (by rfl) (by rfl) (hr29 _) ?_
        have hP_29 := hP_28.next hb29
        have hR_29 := hR_28.next hb29
        have hB_29 := hB_28.trans (hb29.mono hB_28.size)
        have NB11_29 := NB11_28.next hb29
        have U0_29 := U0_28.next hb29
        have U1_29 := hof29
        have AP_29 := apart_fresh U0_28 c.r1 hl29
        refine hK.out _ _ hP_29 (fun hSz => ?_)
        clear hK K hSz NB11_28 NB7_28 U0_28 hB_28 hP_28 hR_28
        clear hr29 hb29 ho29 hof29 hl29
        refine wpAnyH_ready (rs := [11]) (by kernel_rfl) (by simp) ?_
        refine AllReadyH.cons nat11 (fun K hK => ?_) AllReadyH.nil
        obtain ⟨v30, wq30, hr30, hb30, ho30, hl30⟩ := run_copyD wq29 G27 NB11_29 a2 c.n2 p2 c.r2 ((HS2.out.below hB_29).mono hB_29.size) (by omega)
        have hof30 := ho30.base (show w.heap.size + 2 ≤ G27 from hlt27)
        obtain ⟨xa30, xn30, xp30, rfl⟩ := ho30.shapeN
        refine step_append_run (P := Try.prog) rfl (.tmp 11) (.tmp 13) 29 29 rfl _ _ (by rfl) (by rfl) (hr30 _) ?_
        have hP_30 := hP_29.next hb30
        have hR_30 := hR_29.next hb30
        have hB_30 := hB_29.trans (hb30.mono hB_29.size)
        have U0_30 := U0_29.next hb30
        have U1_30 := U1_29.next hb30
        have AP_30 := AP_29
        have U2_30 := hof30
        refine hK.out _ _ hP_30 (fun hSz => ?_)
        clear hK K hSz AP_29 NB11_29 U0_29 U1_29 hB_29 hP_29 hR_29
        clear hr30 hb30 ho30 hof30 hl30
        refine wpAnyH_take (i := 12) (v := .agg #[.slice xa28 xn28 xp28, .slice xa29 xn29 xp29, .slice xa30 xn30 xp30]) nat12 (by kernel_rfl) (by kernel_rfl) (by kernel_rfl) (fun _ _ _ h => False.elim h) (Or.inl ⟨by rfl, ?_⟩) hP_30 ?_
        · intro wx hSw
          go_simp
        simp only [Act.put, List.setIfInBounds_toArray, List.set_cons_zero, List.set_cons_succ]
        refine wpAnyH_ready (rs := [13]) (by kernel_rfl) (by simp) ?_
        refine AllReadyH.cons nat13 (fun K hK => ?_) AllReadyH.nil
        have y0 := hR_30.cell 0
        have y1 := hR_30.cell 1
        have y2 := hR_30.cell 2
        simp only [List.getElem?_toArray, List.getElem?_cons_succ, List.getElem?_cons_zero] at y0 y1 y2
        have yf := hR_30.free
        go_simp
        clear yf y0 y1 y2
        have hP_31s0 := hP_30.set_other (p := ⟨w.heap.size + 1, 0, none⟩) (by simp) (.slice xa28 xn28 xp28)
        have hR_31s0 := hR_30.set 0 (.slice xa28 xn28 xp28)
        have hB_31s0 := hB_30.setCell (p := ⟨w.heap.size + 1, 0, none⟩) (Nat.le_succ _) (.slice xa28 xn28 xp28)
        have U0_31s0 := U0_30.setOther (p := ⟨w.heap.size + 1, 0, none⟩) (Nat.lt_succ_self _) (.slice xa28 xn28 xp28)
        have U1_31s0 := U1_30.setOther (p := ⟨w.heap.size + 1, 0, none⟩) (Nat.lt_succ_self _) (.slice xa28 xn28 xp28)
        have AP_31s0 := AP_30
        have U2_31s0 := U2_30.setOther (p := ⟨w.heap.size + 1, 0, none⟩) (Nat.lt_succ_self _) (.slice xa28 xn28 xp28)
        have hP_31s1 := hP_31s0.set_other (p := ⟨w.heap.size + 1, 1, none⟩) (by simp) (.slice xa29 xn29 xp29)
        have hR_31s1 := hR_31s0.set 1 (.slice xa29 xn29 xp29)
        have hB_31s1 := hB_31s0.setCell (p := ⟨w.heap.size + 1, 1, none⟩) (Nat.le_succ _) (.slice xa29 xn29 xp29)
        have U0_31s1 := U0_31s0.setOther (p := ⟨w.heap.size + 1, 1, none⟩) (Nat.lt_succ_self _) (.slice xa29 xn29 xp29)
        have U1_31s1 := U1_31s0.setOther (p := ⟨w.heap.size + 1, 1, none⟩) (Nat.lt_succ_self _) (.slice xa29 xn29 xp29)
        have AP_31s1 := AP_31s0
        have U2_31s1 := U2_31s0.setOther (p := ⟨w.heap.size + 1, 1, none⟩) (Nat.lt_succ_self _) (.slice xa29 xn29 xp29)
        have hP_31s2 := hP_31s1.set_other (p := ⟨w.heap.size + 1, 2, none⟩) (by simp) (.slice xa30 xn30 xp30)
        have hR_31s2 := hR_31s1.set 2 (.slice xa30 xn30 xp30)
        have hB_31s2 := hB_31s1.setCell (p := ⟨w.heap.size + 1, 2, none⟩) (Nat.le_succ _) (.slice xa30 xn30 xp30)
        have U0_31s2 := U0_31s1.setOther (p := ⟨w.heap.size + 1, 2, none⟩) (Nat.lt_succ_self _) (.slice xa30 xn30 xp30)
        have U1_31s2 := U1_31s1.setOther (p := ⟨w.heap.size + 1, 2, none⟩) (Nat.lt_succ_self _) (.slice xa30 xn30 xp30)
        have AP_31s2 := AP_31s1
        have U2_31s2 := U2_31s1.setOther (p := ⟨w.heap.size + 1, 2, none⟩) (Nat.lt_succ_self _) (.slice xa30 xn30 xp30)
        have hP_31 := hP_31s2
        have hR_31 : BoxIs (((wq30.setCell ⟨(w.heap.size + 1), 0, none⟩ (.slice xa28 xn28 xp28)).setCell ⟨(w.heap.size + 1), 1, none⟩ (.slice xa29 xn29 xp29)).setCell ⟨(w.heap.size + 1), 2, none⟩ (.slice xa30 xn30 xp30)) (w.heap.size + 1) #[.slice xa28 xn28 xp28, .slice xa29 xn29 xp29, .slice xa30 xn30 xp30] 31 := hR_31s2
        have hB_31 := hB_31s2
        have U0_31 := U0_31s2
        have U1_31 := U1_31s2
        have AP_31 := AP_31s2
        have U2_31 := U2_31s2
        refine hK.out _ _ hP_31 (fun hSz => ?_)
        clear hK K hSz AP_30 U0_30 U1_30 U2_30 hB_30 hP_30 hR_30 hP_31s0 hP_31s1 hP_31s2 hR_31s0 hR_31s1 hR_31s2 hB_31s0 hB_31s1 hB_31s2 U0_31s0 U0_31s1 U0_31s2 U1_31s0 U1_31s1 U1_31s2 AP_31s0 AP_31s1 AP_31s2 U2_31s0 U2_31s1 U2_31s2
        generalize ((wq30.setCell ⟨(w.heap.size + 1), 0, none⟩ (.slice xa28 xn28 xp28)).setCell ⟨(w.heap.size + 1), 1, none⟩ (.slice xa29 xn29 xp29)).setCell ⟨(w.heap.size + 1), 2, none⟩ (.slice xa30 xn30 xp30) = wq31 at hP_31 hR_31 hB_31 U0_31 U1_31 AP_31 U2_31 ⊢
        refine wpAnyH_done (by kernel_rfl) ?_ _
        refine NoPanic.normal ?_
        have z0 := hR_31.cell 0
        have z1 := hR_31.cell 1
        have z2 := hR_31.cell 2
        simp only [List.getElem?_toArray, List.getElem?_cons_succ, List.getElem?_cons_zero] at z0 z1 z2
        have HM := ((show DiskMade _ (w.heap.size + 2) _ _ _ _ from ⟨_, _, _, rfl, U0_31, U1_31, U2_31, AP_31⟩).base (B' := w.heap.size) (by omega)).hid
        have HL := hide hB_31
        clear hP_31 hR_31 hB_31 U0_31 U1_31 AP_31 U2_31
        go_wp2
        exact bodyPost_ret (v := .agg #[.slice xa28 xn28 xp28, .slice xa29 xn29 xp29, .slice xa30 xn30 xp30]) (by simp [results, Try.results68, go_sem, z0, z1, z2]) rfl ⟨⟨_, rfl, HM.out⟩, HL.out⟩
    · go_simp
      have hlt32 : w.heap.size + 1 < wq1.heap.size := hR_1.lt
      have hb32 := below_one wq1 (.cells #[] 40)
      have hP_32 := hP_1.next hb32
      have hR_32 := hR_1.next hb32
      have hB_32 := hB_1.trans (hb32.mono hB_1.size)
      have NB3_32 := NB3_1.next hb32
      have NB11_32 := BoxIs.new wq1 #[] 40 rfl
      refine hK.out _ _ hP_32 (fun hSz => ?_)
      clear hK K hSz NB3_1 hB_1 hP_1 hR_1
      obtain ⟨G32, hG32⟩ : ∃ G, G = wq1.heap.size := ⟨_, rfl⟩
      rw [← hG32] at NB11_32 ⊢
      generalize wq1.alloc (.cells #[] 40) = wq32 at hb32 hP_32 hR_32 hB_32 NB3_32 NB11_32 ⊢
      rw [← hG32] at hlt32
      clear hG32 hb32
      refine wpAnyH_ready (rs := [3, 4]) (by kernel_rfl) (by simp) ?_
      refine AllReadyH.cons nat3 (fun K hK => ?_) (AllReadyH.cons nat4 (fun K hK => ?_) AllReadyH.nil)
      · obtain ⟨v33, wq33, hr33, hb33, ho33, hl33⟩ := run_copyF wq32 G1 NB3_32 a0 c.n0 p0 c.r0 ((HS0.out.below hB_32).mono hB_32.size) (by omega)
        have hof33 := ho33.base (show w.heap.size + 2 ≤ G1 from hlt1)
        obtain ⟨xa33, xn33, xp33, rfl⟩ := ho33.shapeN
        refine step_append_run (P := Try.prog) rfl (.tmp 3) (.tmp 5) 28 28 rfl _ _ (by rfl) (by rfl) (hr33 _) ?_
        have hP_33 := hP_32.next hb33
        have hR_33 := hR_32.next hb33
        have hB_33 := hB_32.trans (hb33.mono hB_32.size)
        have NB11_33 := NB11_32.next hb33
        have U0_33 := hof33
        refine hK.out _ _ hP_33 (fun hSz => ?_)
        clear hK K hSz NB11_32 NB3_32 hB_32 hP_32 hR_32
        clear hr33 hb33 ho33 hof33 hl33
        refine wpAnyH_ready (rs := [4]) (by kernel_rfl) (by simp) ?_
        refine AllReadyH.cons nat4 (fun K hK => ?_) AllReadyH.nil
        go_simp
        have hlt34 : w.heap.size + 1 < wq33.heap.size := hR_33.lt
        have hb34 := below_one wq33 (.cells #[] 96)
        have hP_34 := hP_33.next hb34
        have hR_34 := hR_33.next hb34
        have hB_34 := hB_33.trans (hb34.mono hB_33.size)
        have NB11_34 := NB11_33.next hb34
        have U0_34 := U0_33.next hb34
        have NB7_34 := BoxIs.new wq33 #[] 96 rfl
        refine hK.out _ _ hP_34 (fun hSz => ?_)
        clear hK K hSz NB11_33 U0_33 hB_33 hP_33 hR_33
        obtain ⟨G34, hG34⟩ : ∃ G, G = wq33.heap.size := ⟨_, rfl⟩
        rw [← hG34] at NB7_34 ⊢
        generalize wq33.alloc (.cells #[] 96) = wq34 at hb34 hP_34 hR_34 hB_34 NB11_34 U0_34 NB7_34 ⊢
        rw [← hG34] at hlt34
        clear hG34 hb34
        refine wpAnyH_ready (rs := [7]) (by kernel_rfl) (by simp) ?_
        refine AllReadyH.cons nat7 (fun K hK => ?_) AllReadyH.nil
        obtain ⟨v35, wq35, hr35, hb35, ho35, hl35⟩ := run_copyF wq34 G34 NB7_34 a1 c.n1 p1 c.r1 ((HS1.out.below hB_34).mono hB_34.size) (by omega)
        have hof35 := ho35.base (show w.heap.size + 2 ≤ G34 from hlt34)
        obtain ⟨xa35, xn35, xp35, rfl⟩ := ho35.shapeN
        refine step_append_run (P := Try.prog) rfl (.tmp 7) (.tmp 9) 28 28 rfl _ _ (by rfl) (by rfl) (hr35 _) ?_
        have hP_35 := hP_34.next hb35
        have hR_35 := hR_34.next hb35
        have hB_35 := hB_34.trans (hb35.mono hB_34.size)
        have NB11_35 := NB11_34.next hb35
        have U0_35 := U0_34.next hb35
        have U1_35 := hof35
        have AP_35 := apart_fresh U0_34 c.r1 hl35
        refine hK.out _ _ hP_35 (fun hSz => ?_)
        clear hK K hSz NB11_34 NB7_34 U0_34 hB_34 hP_34 hR_34
        clear hr35 hb35 ho35 hof35 hl35
        refine wpAnyH_ready (rs := [11]) (by kernel_rfl) (by simp) ?_
        refine AllReadyH.cons nat11 (fun K hK => ?_) AllReadyH.nil
        obtain ⟨v36, wq36, hr36, hb36, ho36, hl36⟩ := run_copyD wq35 G32 NB11_35 a2 c.n2 p2 c.r2 ((HS2.out.below hB_35).mono hB_35.size) (by omega)
        have hof36 := ho36.base (show w.heap.size + 2 ≤ G32 from hlt32)
        obtain ⟨xa36, xn36, xp36, rfl⟩ := ho36.shapeN
        refine step_append_run (P := Try.prog) rfl (.tmp 11) (.tmp 13) 29 29 rfl _ _ (by rfl) (by rfl) (hr36 _) ?_
        have hP_36 := hP_35.next hb36
        have hR_36 := hR_35.next hb36
        have hB_36 := hB_35.trans (hb36.mono hB_35.size)
        have U0_36 := U0_35.next hb36
        have U1_36 := U1_35.next hb36
        have AP_36 := AP_35
        have U2_36 := hof36
        refine hK.out _ _ hP_36 (fun hSz => ?_)
        clear hK K hSz AP_35 NB11_35 U0_35 U1_35 hB_35 hP_35 hR_35
        clear hr36 hb36 ho36 hof36 hl36
        refine wpAnyH_take (i := 12) (v := .agg #[.slice xa33 xn33 xp33, .slice xa35 xn35 xp35, .slice xa36 xn36 xp36]) nat12 (by kernel_rfl) (by kernel_rfl) (by kernel_rfl) (fun _ _ _ h => False.elim h) (Or.inl ⟨by rfl, ?_⟩) hP_36 ?_
        · intro wx hSw
          go_simp
        simp only [Act.put, List.setIfInBounds_toArray, List.set_cons_zero, List.set_cons_succ]
        refine wpAnyH_ready (rs := [13]) (by kernel_rfl) (by simp) ?_
        refine AllReadyH.cons nat13 (fun K hK => ?_) AllReadyH.nil
        have y0 := hR_36.cell 0
        have y1 := hR_36.cell 1
        have y2 := hR_36.cell 2
        simp only [List.getElem?_toArray, List.getElem?_cons_succ, List.getElem?_cons_zero] at y0 y1 y2
        have yf := hR_36.free
        go_simp
        clear yf y0 y1 y2
        have hP_37s0 := hP_36.set_other (p := ⟨w.heap.size + 1, 0, none⟩) (by simp) (.slice xa33 xn33 xp33)
        have hR_37s0 := hR_36.set 0 (.slice xa33 xn33 xp33)
        have hB_37s0 := hB_36.setCell (p := ⟨w.heap.size + 1, 0, none⟩) (Nat.le_succ _) (.slice xa33 xn33 xp33)
        have U0_37s0 := U0_36.setOther (p := ⟨w.heap.size + 1, 0, none⟩) (Nat.lt_succ_self _) (.slice xa33 xn33 xp33)
        have U1_37s0 := U1_36.setOther (p := ⟨w.heap.size + 1, 0, none⟩) (Nat.lt_succ_self _) (.slice xa33 xn33 xp33)
        have AP_37s0 := AP_36
        have U2_37s0 := U2_36.setOther (p := ⟨w.heap.size + 1, 0, none⟩) (Nat.lt_succ_self _) (.slice xa33 xn33 xp33)
        have hP_37s1 := hP_37s0.set_other (p := ⟨w.heap.size + 1, 1, none⟩) (by simp) (.slice xa35 xn35 xp35)
        have hR_37s1 := hR_37s0.set 1 (.slice xa35 xn35 xp35)
        have hB_37s1 := hB_37s0.setCell (p := ⟨w.heap.size + 1, 1, none⟩) (Nat.le_succ _) (.slice xa35 xn35 xp35)
        have U0_37s1 := U0_37s0.setOther (p := ⟨w.heap.size + 1, 1, none⟩) (Nat.lt_succ_self _) (.slice xa35 xn35 xp35)
        have U1_37s1 := U1_37s0.setOther (p := ⟨w.heap.size + 1, 1, none⟩) (Nat.lt_succ_self _) (.slice xa35 xn35 xp35)
        have AP_37s1 := AP_37s0
        have U2_37s1 := U2_37s0.setOther (p := ⟨w.heap.size + 1, 1, none⟩) (Nat.lt_succ_self _) (.slice xa35 xn35 xp35)
        have hP_37s2 := hP_37s1.set_other (p := ⟨w.heap.size + 1, 2, none⟩) (by simp) (.slice xa36 xn36 xp36)
        have hR_37s2 := hR_37s1.set 2 (.slice xa36 xn36 xp36)
        have hB_37s2 := hB_37s1.setCell (p := ⟨w.heap.size + 1, 2, none⟩) (Nat.le_succ _) (.slice xa36 xn36 xp36)
        have U0_37s2 := U0_37s1.setOther (p := ⟨w.heap.size + 1, 2, none⟩) (Nat.lt_succ_self _) (.slice xa36 xn36 xp36)
        have U1_37s2 := U1_37s1.setOther (p := ⟨w.heap.size + 1, 2, none⟩) (Nat.lt_succ_self _) (.slice xa36 xn36 xp36)
        have AP_37s2 := AP_37s1
        have U2_37s2 := U2_37s1.setOther (p := ⟨w.heap.size + 1, 2, none⟩) (Nat.lt_succ_self _) (.slice xa36 xn36 xp36)
        have hP_37 := hP_37s2
        have hR_37 : BoxIs (((wq36.setCell ⟨(w.heap.size + 1), 0, none⟩ (.slice xa33 xn33 xp33)).setCell ⟨(w.heap.size + 1), 1, none⟩ (.slice xa35 xn35 xp35)).setCell ⟨(w.heap.size + 1), 2, none⟩ (.slice xa36 xn36 xp36)) (w.heap.size + 1) #[.slice xa33 xn33 xp33, .slice xa35 xn35 xp35, .slice xa36 xn36 xp36] 31 := hR_37s2
        have hB_37 := hB_37s2
        have U0_37 := U0_37s2
        have U1_37 := U1_37s2
        have AP_37 := AP_37s2
        have U2_37 := U2_37s2
        refine hK.out _ _ hP_37 (fun hSz => ?_)
        clear hK K hSz AP_36 U0_36 U1_36 U2_36 hB_36 hP_36 hR_36 hP_37s0 hP_37s1 hP_37s2 hR_37s0 hR_37s1 hR_37s2 hB_37s0 hB_37s1 hB_37s2 U0_37s0 U0_37s1 U0_37s2 U1_37s0 U1_37s1 U1_37s2 AP_37s0 AP_37s1 AP_37s2 U2_37s0 U2_37s1 U2_37s2
        generalize ((wq36.setCell ⟨(w.heap.size + 1), 0, none⟩ (.slice xa33 xn33 xp33)).setCell ⟨(w.heap.size + 1), 1, none⟩ (.slice xa35 xn35 xp35)).setCell ⟨(w.heap.size + 1), 2, none⟩ (.slice xa36 xn36 xp36) = wq37 at hP_37 hR_37 hB_37 U0_37 U1_37 AP_37 U2_37 ⊢
        refine wpAnyH_done (by kernel_rfl) ?_ _
        refine NoPanic.normal ?_
        have z0 := hR_37.cell 0
        have z1 := hR_37.cell 1
        have z2 := hR_37.cell 2
        simp only [List.getElem?_toArray, List.getElem?_cons_succ, List.getElem?_cons_zero] at z0 z1 z2
        have HM := ((show DiskMade _ (w.heap.size + 2) _ _ _ _ from ⟨_, _, _, rfl, U0_37, U1_37, U2_37, AP_37⟩).base (B' := w.heap.size) (by omega)).hid
        have HL := hide hB_37
        clear hP_37 hR_37 hB_37 U0_37 U1_37 AP_37 U2_37
        go_wp2
        exact bodyPost_ret (v := .agg #[.slice xa33 xn33 xp33, .slice xa35 xn35 xp35, .slice xa36 xn36 xp36]) (by simp [results, Try.results68, go_sem, z0, z1, z2]) rfl ⟨⟨_, rfl, HM.out⟩, HL.out⟩
      · go_simp
        have hlt38 : w.heap.size + 1 < wq32.heap.size := hR_32.lt
        have hb38 := below_one wq32 (.cells #[] 96)
        have hP_38 := hP_32.next hb38
        have hR_38 := hR_32.next hb38
        have hB_38 := hB_32.trans (hb38.mono hB_32.size)
        have NB3_38 := NB3_32.next hb38
        have NB11_38 := NB11_32.next hb38
        have NB7_38 := BoxIs.new wq32 #[] 96 rfl
        refine hK.out _ _ hP_38 (fun hSz => ?_)
        clear hK K hSz NB11_32 NB3_32 hB_32 hP_32 hR_32
        obtain ⟨G38, hG38⟩ : ∃ G, G = wq32.heap.size := ⟨_, rfl⟩
        rw [← hG38] at NB7_38 ⊢
        generalize wq32.alloc (.cells #[] 96) = wq38 at hb38 hP_38 hR_38 hB_38 NB3_38 NB11_38 NB7_38 ⊢
        rw [← hG38] at hlt38
        clear hG38 hb38
        refine wpAnyH_ready (rs := [3]) (by kernel_rfl) (by simp) ?_
        refine AllReadyH.cons nat3 (fun K hK => ?_) AllReadyH.nil
        obtain ⟨v39, wq39, hr39, hb39, ho39, hl39⟩ := run_copyF wq38 G1 NB3_38 a0 c.n0 p0 c.r0 ((HS0.out.below hB_38).mono hB_38.size) (by omega)
        have hof39 := ho39.base (show w.heap.size + 2 ≤ G1 from hlt1)
        obtain ⟨xa39, xn39, xp39, rfl⟩ := ho39.shapeN
        refine step_append_run (P := Try.prog) rfl (.tmp 3) (.tmp 5) 28 28 rfl _ _ (by rfl) (by rfl) (hr39 _) ?_
        have hP_39 := hP_38.next hb39
        have hR_39 := hR_38.next hb39
        have hB_39 := hB_38.trans (hb39.mono hB_38.size)
        have NB11_39 := NB11_38.next hb39
        have NB7_39 := NB7_38.next hb39
        have U0_39 := hof39
        refine hK.out _ _ hP_39 (fun hSz => ?_)
        clear hK K hSz NB11_38 NB3_38 NB7_38 hB_38 hP_38 hR_38
        clear hr39 hb39 ho39 hof39 hl39
        refine wpAnyH_ready (rs := [7]) (by kernel_rfl) (by simp) ?_
        refine AllReadyH.cons nat7 (fun K hK => ?_) AllReadyH.nil
        obtain ⟨v40, wq40, hr40, hb40, ho40, hl40⟩ := run_copyF wq39 G38 NB7_39 a1 c.n1 p1 c.r1 ((HS1.out.below hB_39).mono hB_39.size) (by omega)
        have hof40 := ho40.base (show w.heap.size + 2 ≤ G38 from hlt38)
        obtain ⟨xa40, xn40, xp40, rfl⟩ := ho40.shapeN
        refine step_append_run (P := Try.prog) rfl (.tmp 7) (.tmp 9) 28 28 rfl _ _ (by rfl) (by rfl) (hr40 _) ?_
        have hP_40 := hP_39.next hb40
        have hR_40 := hR_39.next hb40
        have hB_40 := hB_39.trans (hb40.mono hB_39.size)
        have NB11_40 := NB11_39.next hb40
        have U0_40 := U0_39.next hb40
        have U1_40 := hof40
        have AP_40 := apart_fresh U0_39 c.r1 hl40
        refine hK.out _ _ hP_40 (fun hSz => ?_)
        clear hK K hSz NB11_39 NB7_39 U0_39 hB_39 hP_39 hR_39
        clear hr40 hb40 ho40 hof40 hl40
        refine wpAnyH_ready (rs := [11]) (by kernel_rfl) (by simp) ?_
        refine AllReadyH.cons nat11 (fun K hK => ?_) AllReadyH.nil
        obtain ⟨v41, wq41, hr41, hb41, ho41, hl41⟩ := run_copyD wq40 G32 NB11_40 a2 c.n2 p2 c.r2 ((HS2.out.below hB_40).mono hB_40.size) (by omega)
        have hof41 := ho41.base (show w.heap.size + 2 ≤ G32 from hlt32)
        obtain ⟨xa41, xn41, xp41, rfl⟩ := ho41.shapeN
        refine step_append_run (P := Try.prog) rfl (.tmp 11) (.tmp 13) 29 29 rfl _ _ (by rfl) (by rfl) (hr41 _) ?_
        have hP_41 := hP_40.next hb41
        have hR_41 := hR_40.next hb41
        have hB_41 := hB_40.trans (hb41.mono hB_40.size)
        have U0_41 := U0_40.next hb41
        have U1_41 := U1_40.next hb41
        have AP_41 := AP_40
        have U2_41 := hof41
        refine hK.out _ _ hP_41 (fun hSz => ?_)
        clear hK K hSz AP_40 NB11_40 U0_40 U1_40 hB_40 hP_40 hR_40
        clear hr41 hb41 ho41 hof41 hl41
        refine wpAnyH_take (i := 12) (v := .agg #[.slice xa39 xn39 xp39, .slice xa40 xn40 xp40, .slice xa41 xn41 xp41]) nat12 (by kernel_rfl) (by kernel_rfl) (by kernel_rfl) (fun _ _ _ h => False.elim h) (Or.inl ⟨by rfl, ?_⟩) hP_41 ?_
        · intro wx hSw
          go_simp
        simp only [Act.put, List.setIfInBounds_toArray, List.set_cons_zero, List.set_cons_succ]
        refine wpAnyH_ready (rs := [13]) (by kernel_rfl) (by simp) ?_
        refine AllReadyH.cons nat13 (fun K hK => ?_) AllReadyH.nil
        have y0 := hR_41.cell 0
        have y1 := hR_41.cell 1
        have y2 := hR_41.cell 2
        simp only [List.getElem?_toArray, List.getElem?_cons_succ, List.getElem?_cons_zero] at y0 y1 y2
        have yf := hR_41.free
        go_simp
        clear yf y0 y1 y2
        have hP_42s0 := hP_41.set_other (p := ⟨w.heap.size + 1, 0, none⟩) (by simp) (.slice xa39 xn39 xp39)
        have hR_42s0 := hR_41.set 0 (.slice xa39 xn39 xp39)
        have hB_42s0 := hB_41.setCell (p := ⟨w.heap.size + 1, 0, none⟩) (Nat.le_succ _) (.slice xa39 xn39 xp39)
        have U0_42s0 := U0_41.setOther (p := ⟨w.heap.size + 1, 0, none⟩) (Nat.lt_succ_self _) (.slice xa39 xn39 xp39)
        have U1_42s0 := U1_41.setOther (p := ⟨w.heap.size + 1, 0, none⟩) (Nat.lt_succ_self _) (.slice xa39 xn39 xp39)
        have AP_42s0 := AP_41
        have U2_42s0 := U2_41.setOther (p := ⟨w.heap.size + 1, 0, none⟩) (Nat.lt_succ_self _) (.slice xa39 xn39 xp39)
        have hP_42s1 := hP_42s0.set_other (p := ⟨w.heap.size + 1, 1, none⟩) (by simp) (.slice xa40 xn40 xp40)
        have hR_42s1 := hR_42s0.set 1 (.slice xa40 xn40 xp40)
        have hB_42s1 := hB_42s0.setCell (p := ⟨w.heap.size + 1, 1, none⟩) (Nat.le_succ _) (.slice xa40 xn40 xp40)
        have U0_42s1 := U0_42s0.setOther (p := ⟨w.heap.size + 1, 1, none⟩) (Nat.lt_succ_self _) (.slice xa40 xn40 xp40)
        have U1_42s1 := U1_42s0.setOther (p := ⟨w.heap.size + 1, 1, none⟩) (Nat.lt_succ_self _) (.slice xa40 xn40 xp40)
        have AP_42s1 := AP_42s0
        have U2_42s1 := U2_42s0.setOther (p := ⟨w.heap.size + 1, 1, none⟩) (Nat.lt_succ_self _) (.slice xa40 xn40 xp40)
        have hP_42s2 := hP_42s1.set_other (p := ⟨w.heap.size + 1, 2, none⟩) (by simp) (.slice xa41 xn41 xp41)
        have hR_42s2 := hR_42s1.set 2 (.slice xa41 xn41 xp41)
        have hB_42s2 := hB_42s1.setCell (p := ⟨w.heap.size + 1, 2, none⟩) (Nat.le_succ _) (.slice xa41 xn41 xp41)
        have U0_42s2 := U0_42s1.setOther (p := ⟨w.heap.size + 1, 2, none⟩) (Nat.lt_succ_self _) (.slice xa41 xn41 xp41)
        have U1_42s2 := U1_42s1.setOther (p := ⟨w.heap.size + 1, 2, none⟩) (Nat.lt_succ_self _) (.slice xa41 xn41 xp41)
        have AP_42s2 := AP_42s1
        have U2_42s2 := U2_42s1.setOther (p := ⟨w.heap.size + 1, 2, none⟩) (Nat.lt_succ_self _) (.slice xa41 xn41 xp41)
        have hP_42 := hP_42s2
        have hR_42 : BoxIs (((wq41.setCell ⟨(w.heap.size + 1), 0, none⟩ (.slice xa39 xn39 xp39)).setCell ⟨(w.heap.size + 1), 1, none⟩ (.slice xa40 xn40 xp40)).setCell ⟨(w.heap.size + 1), 2, none⟩ (.slice xa41 xn41 xp41)) (w.heap.size + 1) #[.slice xa39 xn39 xp39, .slice xa40 xn40 xp40, .slice xa41 xn41 xp41] 31 := hR_42s2
        have hB_42 := hB_42s2
        have U0_42 := U0_42s2
        have U1_42 := U1_42s2
        have AP_42 := AP_42s2
        have U2_42 := U2_42s2
        refine hK.out _ _ hP_42 (fun hSz => ?_)
        clear hK K hSz AP_41 U0_41 U1_41 U2_41 hB_41 hP_41 hR_41 hP_42s0 hP_42s1 hP_42s2 hR_42s0 hR_42s1 hR_42s2 hB_42s0 hB_42s1 hB_42s2 U0_42s0 U0_42s1 U0_42s2 U1_42s0 U1_42s1 U1_42s2 AP_42s0 AP_42s1 AP_42s2 U2_42s0 U2_42s1 U2_42s2
        generalize ((wq41.setCell ⟨(w.heap.size + 1), 0, none⟩ (.slice xa39 xn39 xp39)).setCell ⟨(w.heap.size + 1), 1, none⟩ (.slice xa40 xn40 xp40)).setCell ⟨(w.heap.size + 1), 2, none⟩ (.slice xa41 xn41 xp41) = wq42 at hP_42 hR_42 hB_42 U0_42 U1_42 AP_42 U2_42 ⊢
        refine wpAnyH_done (by kernel_rfl) ?_ _
        refine NoPanic.normal ?_
        have z0 := hR_42.cell 0
        have z1 := hR_42.cell 1
        have z2 := hR_42.cell 2
        simp only [List.getElem?_toArray, List.getElem?_cons_succ, List.getElem?_cons_zero] at z0 z1 z2
        have HM := ((show DiskMade _ (w.heap.size + 2) _ _ _ _ from ⟨_, _, _, rfl, U0_42, U1_42, U2_42, AP_42⟩).base (B' := w.heap.size) (by omega)).hid
        have HL := hide hB_42
        clear hP_42 hR_42 hB_42 U0_42 U1_42 AP_42 U2_42
        go_wp2
        exact bodyPost_ret (v := .agg #[.slice xa39 xn39 xp39, .slice xa40 xn40 xp40, .slice xa41 xn41 xp41]) (by simp [results, Try.results68, go_sem, z0, z1, z2]) rfl ⟨⟨_, rfl, HM.out⟩, HL.out⟩
  · go_simp
    have hlt43 : w.heap.size + 1 < wq0.heap.size := hR_0.lt
    have hb43 := below_one wq0 (.cells #[] 96)
    have hP_43 := hP_0.next hb43
    have hR_43 := hR_0.next hb43
    have hB_43 := hB_0.trans (hb43.mono hB_0.size)
    have NB7_43 := BoxIs.new wq0 #[] 96 rfl
    refine hK.out _ _ hP_43 (fun hSz => ?_)
    clear hK K hSz hB_0 hP_0 hR_0
    obtain ⟨G43, hG43⟩ : ∃ G, G = wq0.heap.size := ⟨_, rfl⟩
    rw [← hG43] at NB7_43 ⊢
    generalize wq0.alloc (.cells #[] 96) = wq43 at hb43 hP_43 hR_43 hB_43 NB7_43 ⊢
    rw [← hG43] at hlt43
    clear hG43 hb43
    refine wpAnyH_ready (rs := [0, 8]) (by kernel_rfl) (by simp) ?_
    refine AllReadyH.cons nat0 (fun K hK => ?_) (AllReadyH.cons nat8 (fun K hK => ?_) AllReadyH.nil)
    · go_simp
      have hlt44 : w.heap.size + 1 < wq43.heap.size := hR_43.lt
      have hb44 := below_one wq43 (.cells #[] 96)
      have hP_44 := hP_43.next hb44
      have hR_44 := hR_43.next hb44
      have hB_44 := hB_43.trans (hb44.mono hB_43.size)
      have NB7_44 := NB7_43.next hb44
      have NB3_44 := BoxIs.new wq43 #[] 96 rfl
      refine hK.out _ _ hP_44 (fun hSz => ?_)
      clear hK K hSz NB7_43 hB_43 hP_43 hR_43
      obtain ⟨G44, hG44⟩ : ∃ G, G = wq43.heap.size := ⟨_, rfl⟩
      rw [← hG44] at NB3_44 ⊢
      generalize wq43.alloc (.cells #[] 96) = wq44 at hb44 hP_44 hR_44 hB_44 NB7_44 NB3_44 ⊢
      rw [← hG44] at hlt44
      clear hG44 hb44
      refine wpAnyH_ready (rs := [3, 8]) (by kernel_rfl) (by simp) ?_
      refine AllReadyH.cons nat3 (fun K hK => ?_) (AllReadyH.cons nat8 (fun K hK => ?_) AllReadyH.nil)
      · obtain ⟨v45, wq45, hr45, hb45, ho45, hl45⟩ := run_copyF wq44 G44 NB3_44 a0 c.n0 p0 c.r0 ((HS0.out.below hB_44).mono hB_44.size) (by omega)
        have hof45 := ho45.base (show w.heap.size + 2 ≤ G44 from hlt44)
        obtain ⟨xa45, xn45, xp45, rfl⟩ := ho45.shapeN
        refine step_append_run (P := Try.prog) rfl (.tmp 3) (.tmp 5) 28 28 rfl _ _ (by rfl) (by rfl) (hr45 _) ?_
        have hP_45 := hP_44.next hb45
        have hR_45 := hR_44.next hb45
        have hB_45 := hB_44.trans (hb45.mono hB_44.size)
        have NB7_45 := NB7_44.next hb45
        have U0_45 := hof45
        refine hK.out _ _ hP_45 (fun hSz => ?_)
        clear hK K hSz NB3_44 NB7_44 hB_44 hP_44 hR_44
        clear hr45 hb45 ho45 hof45 hl45
        refine wpAnyH_ready (rs := [7, 8]) (by kernel_rfl) (by simp) ?_
        refine AllReadyH.cons nat7 (fun K hK => ?_) (AllReadyH.cons nat8 (fun K hK => ?_) AllReadyH.nil)
        · obtain ⟨v46, wq46, hr46, hb46, ho46, hl46⟩ := run_copyF wq45 G43 NB7_45 a1 c.n1 p1 c.r1 ((HS1.out.below hB_45).mono hB_45.size) (by omega)
          have hof46 := ho46.base (show w.heap.size + 2 ≤ G43 from hlt43)
          obtain ⟨xa46, xn46, xp46, rfl⟩ := ho46.shapeN
          refine step_append_run (P := Try.prog) rfl (.tmp 7) (.tmp 9) 28 28 rfl _ _ (by rfl) (by rfl) (hr46 _) ?_
          have hP_46 := hP_45.next hb46
          have hR_46 := hR_45.next hb46
          have hB_46 := hB_45.trans (hb46.mono hB_45.size)
          have U0_46 := U0_45.next hb46
          have U1_46 := hof46
          have AP_46 := apart_fresh U0_45 c.r1 hl46
          refine hK.out _ _ hP_46 (fun hSz => ?_)
          clear hK K hSz NB7_45 U0_45 hB_45 hP_45 hR_45
          clear hr46 hb46 ho46 hof46 hl46
          refine wpAnyH_ready (rs := [8]) (by kernel_rfl) (by simp) ?_
          refine AllReadyH.cons nat8 (fun K hK => ?_) AllReadyH.nil
          go_simp
          have hlt47 : w.heap.size + 1 < wq46.heap.size := hR_46.lt
          have hb47 := below_one wq46 (.cells #[] 40)
          have hP_47 := hP_46.next hb47
          have hR_47 := hR_46.next hb47
          have hB_47 := hB_46.trans (hb47.mono hB_46.size)
          have U0_47 := U0_46.next hb47
          have U1_47 := U1_46.next hb47
          have AP_47 := AP_46
          have NB11_47 := BoxIs.new wq46 #[] 40 rfl
          refine hK.out _ _ hP_47 (fun hSz => ?_)
          clear hK K hSz AP_46 U0_46 U1_46 hB_46 hP_46 hR_46
          obtain ⟨G47, hG47⟩ : ∃ G, G = wq46.heap.size := ⟨_, rfl⟩
          rw [← hG47] at NB11_47 ⊢
          generalize wq46.alloc (.cells #[] 40) = wq47 at hb47 hP_47 hR_47 hB_47 U0_47 U1_47 AP_47 NB11_47 ⊢
          rw [← hG47] at hlt47
          clear hG47 hb47
          refine wpAnyH_ready (rs := [11]) (by kernel_rfl) (by simp) ?_
          refine AllReadyH.cons nat11 (fun K hK => ?_) AllReadyH.nil
          obtain ⟨v48, wq48, hr48, hb48, ho48, hl48⟩ := run_copyD wq47 G47 NB11_47 a2 c.n2 p2 c.r2 ((HS2.out.below hB_47).mono hB_47.size) (by omega)
          have hof48 := ho48.base (show w.heap.size + 2 ≤ G47 from hlt47)
          obtain ⟨xa48, xn48, xp48, rfl⟩ := ho48.shapeN
          refine step_append_run (P := Try.prog) rfl (.tmp 11) (.tmp 13) 29 29 rfl _ _ (by rfl) (by rfl) (hr48 _) ?_
          have hP_48 := hP_47.next hb48
          have hR_48 := hR_47.next hb48
          have hB_48 := hB_47.trans (hb48.mono hB_47.size)
          have U0_48 := U0_47.next hb48
          have U1_48 := U1_47.next hb48
          have AP_48 := AP_47
          have U2_48 := hof48
          refine hK.out _ _ hP_48 (fun hSz => ?_)
          clear hK K hSz AP_47 NB11_47 U0_47 U1_47 hB_47 hP_47 hR_47
          clear hr48 hb48 ho48 hof48 hl48
          refine wpAnyH_take (i := 12) (v := .agg #[.slice xa45 xn45 xp45, .slice xa46 xn46 xp46, .slice xa48 xn48 xp48]) nat12 (by kernel_rfl) (by kernel_rfl) (by kernel_rfl) (fun _ _ _ h => False.elim h) (Or.inl ⟨by rfl, ?_⟩) hP_48 ?_
          · intro wx hSw
            go_simp
          simp only [Act.put, List.setIfInBounds_toArray, List.set_cons_zero, List.set_cons_succ]
          refine wpAnyH_ready (rs := [13]) (by kernel_rfl) (by simp) ?_
          refine AllReadyH.cons nat13 (fun K hK => ?_) AllReadyH.nil
          have y0 := hR_48.cell 0
          have y1 := hR_48.cell 1
          have y2 := hR_48.cell 2
          simp only [List.getElem?_toArray, List.getElem?_cons_succ, List.getElem?_cons_zero] at y0 y1 y2
          have yf := hR_48.free
          go_simp
          clear yf y0 y1 y2
          have hP_49s0 := hP_48.set_other (p := ⟨w.heap.size + 1, 0, none⟩) (by simp) (.slice xa45 xn45 xp45)
          have hR_49s0 := hR_48.set 0 (.slice xa45 xn45 xp45)
          have hB_49s0 := hB_48.setCell (p := ⟨w.heap.size + 1, 0, none⟩) (Nat.le_succ _) (.slice xa45 xn45 xp45)
          have U0_49s0 := U0_48.setOther (p := ⟨w.heap.size + 1, 0, none⟩) (Nat.lt_succ_self _) (.slice xa45 xn45 xp45)
          have U1_49s0 := U1_48.setOther (p := ⟨w.heap.size + 1, 0, none⟩) (Nat.lt_succ_self _) (.slice xa45 xn45 xp45)
          have AP_49s0 := AP_48
          have U2_49s0 := U2_48.setOther (p := ⟨w.heap.size + 1, 0, none⟩) (Nat.lt_succ_self _) (.slice xa45 xn45 xp45)
          have hP_49s1 := hP_49s0.set_other (p := ⟨w.heap.size + 1, 1, none⟩) (by simp) (.slice xa46 xn46 xp46)
          have hR_49s1 := hR_49s0.set 1 (.slice xa46 xn46 xp46)
          have hB_49s1 := hB_49s0.setCell (p := ⟨w.heap.size + 1, 1, none⟩) (Nat.le_succ _) (.slice xa46 xn46 xp46)
          have U0_49s1 := U0_49s0.setOther (p := ⟨w.heap.size + 1, 1, none⟩) (Nat.lt_succ_self _) (.slice xa46 xn46 xp46)
          have U1_49s1 := U1_49s0.setOther (p := ⟨w.heap.size + 1, 1, none⟩) (Nat.lt_succ_self _) (.slice xa46 xn46 xp46)
          have AP_49s1 := AP_49s0
          have U2_49s1 := U2_49s0.setOther (p := ⟨w.heap.size + 1, 1, none⟩) (Nat.lt_succ_self _) (.slice xa46 xn46 xp46)
          have hP_49s2 := hP_49s1.set_other (p := ⟨w.heap.size + 1, 2, none⟩) (by simp) (.slice xa48 xn48 xp48)
          have hR_49s2 := hR_49s1.set 2 (.slice xa48 xn48 xp48)
          have hB_49s2 := hB_49s1.setCell (p := ⟨w.heap.size + 1, 2, none⟩) (Nat.le_succ _) (.slice xa48 xn48 xp48)
          have U0_49s2 := U0_49s1.setOther (p := ⟨w.heap.size + 1, 2, none⟩) (Nat.lt_succ_self _) (.slice xa48 xn48 xp48)
          have U1_49s2 := U1_49s1.setOther (p := ⟨w.heap.size + 1, 2, none⟩) (Nat.lt_succ_self _) (.slice xa48 xn48 xp48)
          have AP_49s2 := AP_49s1
          have U2_49s2 := U2_49s1.setOther (p := ⟨w.heap.size + 1, 2, none⟩) (Nat.lt_succ_self _) (.slice xa48 xn48 xp48)
          have hP_49 := hP_49s2
          have hR_49 : BoxIs (((wq48.setCell ⟨(w.heap.size + 1), 0, none⟩ (.slice xa45 xn45 xp45)).setCell ⟨(w.heap.size + 1), 1, none⟩ (.slice xa46 xn46 xp46)).setCell ⟨(w.heap.size + 1), 2, none⟩ (.slice xa48 xn48 xp48)) (w.heap.size + 1) #[.slice xa45 xn45 xp45, .slice xa46 xn46 xp46, .slice xa48 xn48 xp48] 31 := hR_49s2
          have hB_49 := hB_49s2
          have U0_49 := U0_49s2
          have U1_49 := U1_49s2
          have AP_49 := AP_49s2
          have U2_49 := U2_49s2
          refine hK.out _ _ hP_49 (fun hSz => ?_)
          clear hK K hSz AP_48 U0_48 U1_48 U2_48 hB_48 hP_48 hR_48 hP_49s0 hP_49s1 hP_49s2 hR_49s0 hR_49s1 hR_49s2 hB_49s0 hB_49s1 hB_49s2 U0_49s0 U0_49s1 U0_49s2 U1_49s0 U1_49s1 U1_49s2 AP_49s0 AP_49s1 AP_49s2 U2_49s0 U2_49s1 U2_49s2
          generalize ((wq48.setCell ⟨(w.heap.size + 1), 0, none⟩ (.slice xa45 xn45 xp45)).setCell ⟨(w.heap.size + 1), 1, none⟩ (.slice xa46 xn46 xp46)).setCell ⟨(w.heap.size + 1), 2, none⟩ (.slice xa48 xn48 xp48) = wq49 at hP_49 hR_49 hB_49 U0_49 U1_49 AP_49 U2_49 ⊢
          refine wpAnyH_done (by kernel_rfl) ?_ _
          refine NoPanic.normal ?_
          have z0 := hR_49.cell 0
          have z1 := hR_49.cell 1
          have z2 := hR_49.cell 2
          simp only [List.getElem?_toArray, List.getElem?_cons_succ, List.getElem?_cons_zero] at z0 z1 z2
          have HM := ((show DiskMade _ (w.heap.size + 2) _ _ _ _ from ⟨_, _, _, rfl, U0_49, U1_49, U2_49, AP_49⟩).base (B' := w.heap.size) (by omega)).hid
          have HL := hide hB_49
          clear hP_49 hR_49 hB_49 U0_49 U1_49 AP_49 U2_49
          go_wp2
          exact bodyPost_ret (v := .agg #[.slice xa45 xn45 xp45, .slice xa46 xn46 xp46, .slice xa48 xn48 xp48]) (by simp [results, Try.results68, go_sem, z0, z1, z2]) rfl ⟨⟨_, rfl, HM.out⟩, HL.out⟩
        · go_simp
          have hlt50 : w.heap.size + 1 < wq45.heap.size := hR_45.lt
          have hb50 := below_one wq45 (.cells #[] 40)
          have hP_50 := hP_45.next hb50
          have hR_50 := hR_45.next hb50
          have hB_50 := hB_45.trans (hb50.mono hB_45.size)
          have NB7_50 := NB7_45.next hb50
          have U0_50 := U0_45.next hb50
          have NB11_50 := BoxIs.new wq45 #[] 40 rfl
          refine hK.out _ _ hP_50 (fun hSz => ?_)
          clear hK K hSz NB7_45 U0_45 hB_45 hP_45 hR_45
          obtain ⟨G50, hG50⟩ : ∃ G, G = wq45.heap.size := ⟨_, rfl⟩
          rw [← hG50] at NB11_50 ⊢
          generalize wq45.alloc (.cells #[] 40) = wq50 at hb50 hP_50 hR_50 hB_50 NB7_50 U0_50 NB11_50 ⊢
          rw [← hG50] at hlt50
          clear hG50 hb50
          refine wpAnyH_ready (rs := [7]) (by kernel_rfl) (by simp) ?_
          refine AllReadyH.cons nat7 (fun K hK => ?_) AllReadyH.nil
          obtain ⟨v51, wq51, hr51, hb51, ho51, hl51⟩ := run_copyF wq50 G43 NB7_50 a1 c.n1 p1 c.r1 ((HS1.out.below hB_50).mono hB_50.size) (by omega)
          have hof51 := ho51.base (show w.heap.size + 2 ≤ G43 from hlt43)
          obtain ⟨xa51, xn51, xp51, rfl⟩ := ho51.shapeN
          refine step_append_run (P := Try.prog) rfl (.tmp 7) (.tmp 9) 28 28 rfl _ _ (by rfl) (by rfl) (hr51 _) ?_
          have hP_51 := hP_50.next hb51
          have hR_51 := hR_50.next hb51
          have hB_51 := hB_50.trans (hb51.mono hB_50.size)
          have U0_51 := U0_50.next hb51
          have NB11_51 := NB11_50.next hb51
          have U1_51 := hof51
          have AP_51 := apart_fresh U0_50 c.r1 hl51
          refine hK.out _ _ hP_51 (fun hSz => ?_)
          clear hK K hSz NB11_50 NB7_50 U0_50 hB_50 hP_50 hR_50
          clear hr51 hb51 ho51 hof51 hl51
          refine wpAnyH_ready (rs := [11]) (by kernel_rfl) (by simp) ?_
          refine AllReadyH.cons nat11 (fun K hK => ?_) AllReadyH.nil
          obtain ⟨v52, wq52, hr52, hb52, ho52, hl52⟩ := run_copyD wq51 G50 NB11_51 a2 c.n2 p2 c.r2 ((HS2.out.below hB_51).mono hB_51.size) (by omega)
          have hof52 := ho52.base (show w.heap.size + 2 ≤ G50 from hlt50)
          obtain ⟨xa52, xn52, xp52, rfl⟩ := ho52.shapeN
          refine step_append_run (P := Try.prog) rfl (.tmp 11) (.tmp 13) 29 29 rfl _ _ (by rfl) (by rfl) (hr52 _) ?_
          have hP_52 := hP_51.next hb52
          have hR_52 := hR_51.next hb52
          have hB_52 := hB_51.trans (hb52.mono hB_51.size)
          have U0_52 := U0_51.next hb52
          have U1_52 := U1_51.next hb52
          have AP_52 := AP_51
          have U2_52 := hof52
          refine hK.out _ _ hP_52 (fun hSz => ?_)
          clear hK K hSz AP_51 NB11_51 U0_51 U1_51 hB_51 hP_51 hR_51
          clear hr52 hb52 ho52 hof52 hl52
          refine wpAnyH_take (i := 12) (v := .agg #[.slice xa45 xn45 xp45, .slice xa51 xn51 xp51, .slice xa52 xn52 xp52]) nat12 (by kernel_rfl) (by kernel_rfl) (by kernel_rfl) (fun _ _ _ h => False.elim h) (Or.inl ⟨by rfl, ?_⟩) hP_52 ?_
          · intro wx hSw
            go_simp
          simp only [Act.put, List.setIfInBounds_toArray, List.set_cons_zero, List.set_cons_succ]
          refine wpAnyH_ready (rs := [13]) (by kernel_rfl) (by simp) ?_
          refine AllReadyH.cons nat13 (fun K hK => ?_) AllReadyH.nil
          have y0 := hR_52.cell 0
          have y1 := hR_52.cell 1
          have y2 := hR_52.cell 2
          simp only [List.getElem?_toArray, List.getElem?_cons_succ, List.getElem?_cons_zero] at y0 y1 y2
          have yf := hR_52.free
          go_simp
          clear yf y0 y1 y2
          have hP_53s0 := hP_52.set_other (p := ⟨w.heap.size + 1, 0, none⟩) (by simp) (.slice xa45 xn45 xp45)
          have hR_53s0 := hR_52.set 0 (.slice xa45 xn45 xp45)
          have hB_53s0 := hB_52.setCell (p := ⟨w.heap.size + 1, 0, none⟩) (Nat.le_succ _) (.slice xa45 xn45 xp45)
          have U0_53s0 := U0_52.setOther (p := ⟨w.heap.size + 1, 0, none⟩) (Nat.lt_succ_self _) (.slice xa45 xn45 xp45)
          have U1_53s0 := U1_52.setOther (p := ⟨w.heap.size + 1, 0, none⟩) (Nat.lt_succ_self _) (.slice xa45 xn45 xp45)
          have AP_53s0 := AP_52
          have U2_53s0 := U2_52.setOther (p := ⟨w.heap.size + 1, 0, none⟩) (Nat.lt_succ_self _) (.slice xa45 xn45 xp45)
          have hP_53s1 := hP_53s0.set_other (p := ⟨w.heap.size + 1, 1, none⟩) (by simp) (.slice xa51 xn51 xp51)
          have hR_53s1 := hR_53s0.set 1 (.slice xa51 xn51 xp51)
          have hB_53s1 := hB_53s0.setCell (p := ⟨w.heap.size + 1, 1, none⟩) (Nat.le_succ _) (.slice xa51 xn51 xp51)
          have U0_53s1 := U0_53s0.setOther (p := ⟨w.heap.size + 1, 1, none⟩) (Nat.lt_succ_self _) (.slice xa51 xn51 xp51)
          have U1_53s1 := U1_53s0.setOther (p := ⟨w.heap.size + 1, 1, none⟩) (Nat.lt_succ_self _) (.slice xa51 xn51 xp51)
          have AP_53s1 := AP_53s0
          have U2_53s1 := U2_53s0.setOther (p := ⟨w.heap.size + 1, 1, none⟩) (Nat.lt_succ_self _) (.slice xa51 xn51 xp51)
          have hP_53s2 := hP_53s1.set_other (p := ⟨w.heap.size + 1, 2, none⟩) (by simp) (.slice xa52 xn52 xp52)
          have hR_53s2 := hR_53s1.set 2 (.slice xa52 xn52 xp52)
          have hB_53s2 := hB_53s1.setCell (p := ⟨w.heap.size + 1, 2, none⟩) (Nat.le_succ _) (.slice xa52 xn52 xp52)
          have U0_53s2 := U0_53s1.setOther (p := ⟨w.heap.size + 1, 2, none⟩) (Nat.lt_succ_self _) (.slice xa52 xn52 xp52)
          have U1_53s2 := U1_53s1.setOther (p := ⟨w.heap.size + 1, 2, none⟩) (Nat.lt_succ_self _) (.slice xa52 xn52 xp52)
          have AP_53s2 := AP_53s1
          have U2_53s2 := U2_53s1.setOther (p := ⟨w.heap.size + 1, 2, none⟩) (Nat.lt_succ_self _) (.slice xa52 xn52 xp52)
          have hP_53 := hP_53s2
          have hR_53 : BoxIs (((wq52.setCell ⟨(w.heap.size + 1), 0, none⟩ (.slice xa45 xn45 xp45)).setCell ⟨(w.heap.size + 1), 1, none⟩ (.slice xa51 xn51 xp51)).setCell ⟨(w.heap.size + 1), 2, none⟩ (.slice xa52 xn52 xp52)) (w.heap.size + 1) #[.slice xa45 xn45 xp45, .slice xa51 xn51 xp51, .slice xa52 xn52 xp52] 31 := hR_53s2
          have hB_53 := hB_53s2
          have U0_53 := U0_53s2
          have U1_53 := U1_53s2
          have AP_53 := AP_53s2
          have U2_53 := U2_53s2
          refine hK.out _ _ hP_53 (fun hSz => ?_)
          clear hK K hSz AP_52 U0_52 U1_52 U2_52 hB_52 hP_52 hR_52 hP_53s0 hP_53s1 hP_53s2 hR_53s0 hR_53s1 hR_53s2 hB_53s0 hB_53s1 hB_53s2 U0_53s0 U0_53s1 U0_53s2 U1_53s0 U1_53s1 U1_53s2 AP_53s0 AP_53s1 AP_53s2 U2_53s0 U2_53s1 U2_53s2
          generalize ((wq52.setCell ⟨(w.heap.size + 1), 0, none⟩ (.slice xa45 xn45 xp45)).setCell ⟨(w.heap.size + 1), 1, none⟩ (.slice xa51 xn51 xp51)).setCell ⟨(w.heap.size + 1), 2, none⟩ (.slice xa52 xn52 xp52) = wq53 at hP_53 hR_53 hB_53 U0_53 U1_53 AP_53 U2_53 ⊢
          refine wpAnyH_done (by kernel_rfl) ?_ _
          refine NoPanic.normal ?_
          have z0 := hR_53.cell 0
          have z1 := hR_53.cell 1
          have z2 := hR_53.cell 2
          simp only [List.getElem?_toArray, List.getElem?_cons_succ, List.getElem?_cons_zero] at z0 z1 z2
          have HM := ((show DiskMade _ (w.heap.size + 2) _ _ _ _ from ⟨_, _, _, rfl, U0_53, U1_53, U2_53, AP_53⟩).base (B' := w.heap.size) (by omega)).hid
          have HL := hide hB_53
          clear hP_53 hR_53 hB_53 U0_53 U1_53 AP_53 U2_53
          go_wp2
          exact bodyPost_ret (v := .agg #[.slice xa45 xn45 xp45, .slice xa51 xn51 xp51, .slice xa52 xn52 xp52]) (by simp [results, Try.results68, go_sem, z0, z1, z2]) rfl ⟨⟨_, rfl, HM.out⟩, HL.out⟩
      · go_simp
        have hlt54 : w.heap.size + 1 < wq44.heap.size := hR_44.lt
        have hb54 := below_one wq44 (.cells #[] 40)
        have hP_54 := hP_44.next hb54
        have hR_54 := hR_44.next hb54
        have hB_54 := hB_44.trans (hb54.mono hB_44.size)
        have NB7_54 := NB7_44.next hb54
        have NB3_54 := NB3_44.next hb54
        have NB11_54 := BoxIs.new wq44 #[] 40 rfl
        refine hK.out _ _ hP_54 (fun hSz => ?_)
        clear hK K hSz NB3_44 NB7_44 hB_44 hP_44 hR_44
        obtain ⟨G54, hG54⟩ : ∃ G, G = wq44.heap.size := ⟨_, rfl⟩
        rw [← hG54] at NB11_54 ⊢
        generalize wq44.alloc (.cells #[] 40) = wq54 at hb54 hP_54 hR_54 hB_54 NB7_54 NB3_54 NB11_54 ⊢
        rw [← hG54] at hlt54
        clear hG54 hb54
        refine wpAnyH_ready (rs := [3]) (by kernel_rfl) (by simp) ?_
        refine AllReadyH.cons nat3 (fun K hK => ?_) AllReadyH.nil
        obtain ⟨v55, wq55, hr55, hb55, ho55, hl55⟩ := run_copyF wq54 G44 NB3_54 a0 c.n0 p0 c.r0 ((HS0.out.below hB_54).mono hB_54.size) (by omega)
        have hof55 := ho55.base (show w.heap.size + 2 ≤ G44 from hlt44)
        obtain ⟨xa55, xn55, xp55, rfl⟩ := ho55.shapeN
        refine step_append_run (P := Try.prog) rfl (.tmp 3) (.tmp 5) 28 28 rfl _ _ (by rfl) (by rfl) (hr55 _) ?_
        have hP_55 := hP_54.next hb55
        have hR_55 := hR_54.next hb55
        have hB_55 := hB_54.trans (hb55.mono hB_54.size)
        have NB7_55 := NB7_54.next hb55
        have NB11_55 := NB11_54.next hb55
        have U0_55 := hof55
        refine hK.out _ _ hP_55 (fun hSz => ?_)
        clear hK K hSz NB11_54 NB3_54 NB7_54 hB_54 hP_54 hR_54
        clear hr55 hb55 ho55 hof55 hl55
        refine wpAnyH_ready (rs := [7]) (by kernel_rfl) (by simp) ?_
        refine AllReadyH.cons nat7 (fun K hK => ?_) AllReadyH.nil
        obtain ⟨v56, wq56, hr56, hb56, ho56, hl56⟩ := run_copyF wq55 G43 NB7_55 a1 c.n1 p1 c.r1 ((HS1.out.below hB_55).mono hB_55.size) (by omega)
        have hof56 := ho56.base (show w.heap.size + 2 ≤ G43 from hlt43)
        obtain ⟨xa56, xn56, xp56, rfl⟩ := ho56.shapeN
        refine step_append_run (P := Try.prog) rfl (.tmp 7) (.tmp 9) 28 28 rfl _ _ (by rfl) (by rfl) (hr56 _) ?_
        have hP_56 := hP_55.next hb56
        have hR_56 := hR_55.next hb56
        have hB_56 := hB_55.trans (hb56.mono hB_55.size)
        have NB11_56 := NB11_55.next hb56
        have U0_56 := U0_55.next hb56
        have U1_56 := hof56
        have AP_56 := apart_fresh U0_55 c.r1 hl56
        refine hK.out _ _ hP_56 (fun hSz => ?_)
        clear hK K hSz NB11_55 NB7_55 U0_55 hB_55 hP_55 hR_55
        clear hr56 hb56 ho56 hof56 hl56
        refine wpAnyH_ready (rs := [11]) (by kernel_rfl) (by simp) ?_
        refine AllReadyH.cons nat11 (fun K hK => ?_) AllReadyH.nil
        obtain ⟨v57, wq57, hr57, hb57, ho57, hl57⟩ := run_copyD wq56 G54 NB11_56 a2 c.n2 p2 c.r2 ((HS2.out.below hB_56).mono hB_56.size) (by omega)
        have hof57 := ho57.base (show w.heap.size + 2 ≤ G54 from hlt54)
        obtain ⟨xa57, xn57, xp57, rfl⟩ := ho57.shapeN
        refine step_append_run (P := Try.prog) rfl (.tmp 11) (.tmp 13) 29 29 rfl _ _ (by rfl) (by rfl) (hr57 _) ?_
        have hP_57 := hP_56.next hb57
        have hR_57 := hR_56.next hb57
        have hB_57 := hB_56.trans (hb57.mono hB_56.size)
        have U0_57 := U0_56.next hb57
        have U1_57 := U1_56.next hb57
        have AP_57 := AP_56
        have U2_57 := hof57
        refine hK.out _ _ hP_57 (fun hSz => ?_)
        clear hK K hSz AP_56 NB11_56 U0_56 U1_56 hB_56 hP_56 hR_56
        clear hr57 hb57 ho57 hof57 hl57
        refine wpAnyH_take (i := 12) (v := .agg #[.slice xa55 xn55 xp55, .slice xa56 xn56 xp56, .slice xa57 xn57 xp57]) nat12 (by kernel_rfl) (by kernel_rfl) (by kernel_rfl) (fun _ _ _ h => False.elim h) (Or.inl ⟨by rfl, ?_⟩) hP_57 ?_
        · intro wx hSw
          go_simp
        simp only [Act.put, List.setIfInBounds_toArray, List.set_cons_zero, List.set_cons_succ]
        refine wpAnyH_ready (rs := [13]) (by kernel_rfl) (by simp) ?_
        refine AllReadyH.cons nat13 (fun K hK => ?_) AllReadyH.nil
        have y0 := hR_57.cell 0
        have y1 := hR_57.cell 1
        have y2 := hR_57.cell 2
        simp only [List.getElem?_toArray, List.getElem?_cons_succ, List.getElem?_cons_zero] at y0 y1 y2
        have yf := hR_57.free
        go_simp
        clear yf y0 y1 y2
        have hP_58s0 := hP_57.set_other (p := ⟨w.heap.size + 1, 0, none⟩) (by simp) (.slice xa55 xn55 xp55)
        have hR_58s0 := hR_57.set 0 (.slice xa55 xn55 xp55)
        have hB_58s0 := hB_57.setCell (p := ⟨w.heap.size + 1, 0, none⟩) (Nat.le_succ _) (.slice xa55 xn55 xp55)
        have U0_58s0 := U0_57.setOther (p := ⟨w.heap.size + 1, 0, none⟩) (Nat.lt_succ_self _) (.slice xa55 xn55 xp55)
        have U1_58s0 := U1_57.setOther (p := ⟨w.heap.size + 1, 0, none⟩) (Nat.lt_succ_self _) (.slice xa55 xn55 xp55)
        have AP_58s0 := AP_57
        have U2_58s0 := U2_57.setOther (p := ⟨w.heap.size + 1, 0, none⟩) (Nat.lt_succ_self _) (.slice xa55 xn55 xp55)
        have hP_58s1 := hP_58s0.set_other (p := ⟨w.heap.size + 1, 1, none⟩) (by simp) (.slice xa56 xn56 xp56)
        have hR_58s1 := hR_58s0.set 1 (.slice xa56 xn56 xp56)
        have hB_58s1 := hB_58s0.setCell (p := ⟨w.heap.size + 1, 1, none⟩) (Nat.le_succ _) (.slice xa56 xn56 xp56)
        have U0_58s1 := U0_58s0.setOther (p := ⟨w.heap.size + 1, 1, none⟩) (Nat.lt_succ_self _) (.slice xa56 xn56 xp56)
        have U1_58s1 := U1_58s0.setOther (p := ⟨w.heap.size + 1, 1, none⟩) (Nat.lt_succ_self _) (.slice xa56 xn56 xp56)
        have AP_58s1 := AP_58s0
        have U2_58s1 := U2_58s0.setOther (p := ⟨w.heap.size + 1, 1, none⟩) (Nat.lt_succ_self _) (.slice xa56 xn56 xp56)
        have hP_58s2 := hP_58s1.set_other (p := ⟨w.heap.size + 1, 2, none⟩) (by simp) (.slice xa57 xn57 xp57)
        have hR_58s2 := hR_58s1.set 2 (.slice xa57 xn57 xp57)
        have hB_58s2 := hB_58s1.setCell (p := ⟨w.heap.size + 1, 2, none⟩) (Nat.le_succ _) (.slice xa57 xn57 xp57)
        have U0_58s2 := U0_58s1.setOther (p := ⟨w.heap.size + 1, 2, none⟩) (Nat.lt_succ_self _) (.slice xa57 xn57 xp57)
        have U1_58s2 := U1_58s1.setOther (p := ⟨w.heap.size + 1, 2, none⟩) (Nat.lt_succ_self _) (.slice xa57 xn57 xp57)
        have AP_58s2 := AP_58s1
        have U2_58s2 := U2_58s1.setOther (p := ⟨w.heap.size + 1, 2, none⟩) (Nat.lt_succ_self _) (.slice xa57 xn57 xp57)
        have hP_58 := hP_58s2
        have hR_58 : BoxIs (((wq57.setCell ⟨(w.heap.size + 1), 0, none⟩ (.slice xa55 xn55 xp55)).setCell ⟨(w.heap.size + 1), 1, none⟩ (.slice xa56 xn56 xp56)).setCell ⟨(w.heap.size + 1), 2, none⟩ (.slice xa57 xn57 xp57)) (w.heap.size + 1) #[.slice xa55 xn55 xp55, .slice xa56 xn56 xp56, .slice xa57 xn57 xp57] 31 := hR_58s2
        have hB_58 := hB_58s2
        have U0_58 := U0_58s2
        have U1_58 := U1_58s2
        have AP_58 := AP_58s2
        have U2_58 := U2_58s2
        refine hK.out _ _ hP_58 (fun hSz => ?_)
        clear hK K hSz AP_57 U0_57 U1_57 U2_57 hB_57 hP_57 hR_57 hP_58s0 hP_58s1 hP_58s2 hR_58s0 hR_58s1 hR_58s2 hB_58s0 hB_58s1 hB_58s2 U0_58s0 U0_58s1 U0_58s2 U1_58s0 U1_58s1 U1_58s2 AP_58s0 AP_58s1 AP_58s2 U2_58s0 U2_58s1 U2_58s2
        generalize ((wq57.setCell ⟨(w.heap.size + 1), 0, none⟩ (.slice xa55 xn55 xp55)).setCell ⟨(w.heap.size + 1), 1, none⟩ (.slice xa56 xn56 xp56)).setCell ⟨(w.heap.size + 1), 2, none⟩ (.slice xa57 xn57 xp57) = wq58 at hP_58 hR_58 hB_58 U0_58 U1_58 AP_58 U2_58 ⊢
        refine wpAnyH_done (by kernel_rfl) ?_ _
        refine NoPanic.normal ?_
        have z0 := hR_58.cell 0
        have z1 := hR_58.cell 1
        have z2 := hR_58.cell 2
        simp only [List.getElem?_toArray, List.getElem?_cons_succ, List.getElem?_cons_zero] at z0 z1 z2
        have HM := ((show DiskMade _ (w.heap.size + 2) _ _ _ _ from ⟨_, _, _, rfl, U0_58, U1_58, U2_58, AP_58⟩).base (B' := w.heap.size) (by omega)).hid
        have HL := hide hB_58
        clear hP_58 hR_58 hB_58 U0_58 U1_58 AP_58 U2_58
        go_wp2
        exact bodyPost_ret (v := .agg #[.slice xa55 xn55 xp55, .slice xa56 xn56 xp56, .slice xa57 xn57 xp57]) (by simp [results, Try.results68, go_sem, z0, z1, z2]) rfl ⟨⟨_, rfl, HM.out⟩, HL.out⟩
    · go_simp
      have hlt59 : w.heap.size + 1 < wq43.heap.size := hR_43.lt
      have hb59 := below_one wq43 (.cells #[] 40)
      have hP_59 := hP_43.next hb59
      have hR_59 := hR_43.next hb59
      have hB_59 := hB_43.trans (hb59.mono hB_43.size)
      have NB7_59 := NB7_43.next hb59
      have NB11_59 := BoxIs.new wq43 #[] 40 rfl
      refine hK.out _ _ hP_59 (fun hSz => ?_)
      clear hK K hSz NB7_43 hB_43 hP_43 hR_43
      obtain ⟨G59, hG59⟩ : ∃ G, G = wq43.heap.size := ⟨_, rfl⟩
      rw [← hG59] at NB11_59 ⊢
      generalize wq43.alloc (.cells #[] 40) = wq59 at hb59 hP_59 hR_59 hB_59 NB7_59 NB11_59 ⊢
      rw [← hG59] at hlt59
      clear hG59 hb59
      refine wpAnyH_ready (rs := [0]) (by kernel_rfl) (by simp) ?_
      refine AllReadyH.cons nat0 (fun K hK => ?_) AllReadyH.nil
      go_simp
      have hlt60 : w.heap.size + 1 < wq59.heap.size := hR_59.lt
      have hb60 := below_one wq59 (.cells #[] 96)
      have hP_60 := hP_59.next hb60
      have hR_60 := hR_59.next hb60
      have hB_60 := hB_59.trans (hb60.mono hB_59.size)
      have NB7_60 := NB7_59.next hb60
      have NB11_60 := NB11_59.next hb60
      have NB3_60 := BoxIs.new wq59 #[] 96 rfl
      refine hK.out _ _ hP_60 (fun hSz => ?_)
      clear hK K hSz NB11_59 NB7_59 hB_59 hP_59 hR_59
      obtain ⟨G60, hG60⟩ : ∃ G, G = wq59.heap.size := ⟨_, rfl⟩
      rw [← hG60] at NB3_60 ⊢
      generalize wq59.alloc (.cells #[] 96) = wq60 at hb60 hP_60 hR_60 hB_60 NB7_60 NB11_60 NB3_60 ⊢
      rw [← hG60] at hlt60
      clear hG60 hb60
      refine wpAnyH_ready (rs := [3]) (by kernel_rfl) (by simp) ?_
      refine AllReadyH.cons nat3 (fun K hK => ?_) AllReadyH.nil
      obtain ⟨v61, wq61, hr61, hb61, ho61, hl61⟩ := run_copyF wq60 G60 NB3_60 a0 c.n0 p0 c.r0 ((HS0.out.below hB_60).mono hB_60.size) (by omega)
      have hof61 := ho61.base (show w.heap.size + 2 ≤ G60 from hlt60)
      obtain ⟨xa61, xn61, xp61, rfl⟩ := ho61.shapeN
      refine step_append_run (P := Try.prog) rfl (.tmp 3) (.tmp 5) 28 28 rfl _ _ (by rfl) (by rfl) (hr61 _) ?_
      have hP_61 := hP_60.next hb61
      have hR_61 := hR_60.next hb61
      have hB_61 := hB_60.trans (hb61.mono hB_60.size)
      have NB7_61 := NB7_60.next hb61
      have NB11_61 := NB11_60.next hb61
      have U0_61 := hof61
      refine hK.out _ _ hP_61 (fun hSz => ?_)
      clear hK K hSz NB11_60 NB3_60 NB7_60 hB_60 hP_60 hR_60
      clear hr61 hb61 ho61 hof61 hl61
      refine wpAnyH_ready (rs := [7]) (by kernel_rfl) (by simp) ?_
      refine AllReadyH.cons nat7 (fun K hK => ?_) AllReadyH.nil
      obtain ⟨v62, wq62, hr62, hb62, ho62, hl62⟩ := run_copyF wq61 G43 NB7_61 a1 c.n1 p1 c.r1 ((HS1.out.below hB_61).mono hB_61.size) (by omega)
      have hof62 := ho62.base (show w.heap.size + 2 ≤ G43 from hlt43)
      obtain ⟨xa62, xn62, xp62, rfl⟩ := ho62.shapeN
      refine step_append_run (P := Try.prog) rfl (.tmp 7) (.tmp 9) 28 28 rfl _ _ (by rfl) (by rfl) (hr62 _) ?_
      have hP_62 := hP_61.next hb62
      have hR_62 := hR_61.next hb62
      have hB_62 := hB_61.trans (hb62.mono hB_61.size)
      have NB11_62 := NB11_61.next hb62
      have U0_62 := U0_61.next hb62
      have U1_62 := hof62
      have AP_62 := apart_fresh U0_61 c.r1 hl62
      refine hK.out _ _ hP_62 (fun hSz => ?_)
      clear hK K hSz NB11_61 NB7_61 U0_61 hB_61 hP_61 hR_61
      clear hr62 hb62 ho62 hof62 hl62
      refine wpAnyH_ready (rs := [11]) (by kernel_rfl) (by simp) ?_
      refine AllReadyH.cons nat11 (fun K hK => ?_) AllReadyH.nil
      obtain ⟨v63, wq63, hr63, hb63, ho63, hl63⟩ := run_copyD wq62 G59 NB11_62 a2 c.n2 p2 c.r2 ((HS2.out.below hB_62).mono hB_62.size) (by omega)
      have hof63 := ho63.base (show w.heap.size + 2 ≤ G59 from hlt59)
      obtain ⟨xa63, xn63, xp63, rfl⟩ := ho63.shapeN
      refine step_append_run (P := Try.prog) rfl (.tmp 11) (.tmp 13) 29 29 rfl _ _ (by rfl) (by rfl) (hr63 _) ?_
      have hP_63 := hP_62.next hb63
      have hR_63 := hR_62.next hb63
      have hB_63 := hB_62.trans (hb63.mono hB_62.size)
      have U0_63 := U0_62.next hb63
      have U1_63 := U1_62.next hb63
      have AP_63 := AP_62
      have U2_63 := hof63
      refine hK.out _ _ hP_63 (fun hSz => ?_)
      clear hK K hSz AP_62 NB11_62 U0_62 U1_62 hB_62 hP_62 hR_62
      clear hr63 hb63 ho63 hof63 hl63
      refine wpAnyH_take (i := 12) (v := .agg #[.slice xa61 xn61 xp61, .slice xa62 xn62 xp62, .slice xa63 xn63 xp63]) nat12 (by kernel_rfl) (by kernel_rfl) (by kernel_rfl) (fun _ _ _ h => False.elim h) (Or.inl ⟨by rfl, ?_⟩) hP_63 ?_
      · intro wx hSw
        go_simp
      simp only [Act.put, List.setIfInBounds_toArray, List.set_cons_zero, List.set_cons_succ]
      refine wpAnyH_ready (rs := [13]) (by kernel_rfl) (by simp) ?_
      refine AllReadyH.cons nat13 (fun K hK => ?_) AllReadyH.nil
      have y0 := hR_63.cell 0
      have y1 := hR_63.cell 1
      have y2 := hR_63.cell 2
      simp only [List.getElem?_toArray, List.getElem?_cons_succ, List.getElem?_cons_zero] at y0 y1 y2
      have yf := hR_63.free
      go_simp
      clear yf y0 y1 y2
      have hP_64s0 := hP_63.set_other (p := ⟨w.heap.size + 1, 0, none⟩) (by simp) (.slice xa61 xn61 xp61)
      have hR_64s0 := hR_63.set 0 (.slice xa61 xn61 xp61)
      have hB_64s0 := hB_63.setCell (p := ⟨w.heap.size + 1, 0, none⟩) (Nat.le_succ _) (.slice xa61 xn61 xp61)
      have U0_64s0 := U0_63.setOther (p := ⟨w.heap.size + 1, 0, none⟩) (Nat.lt_succ_self _) (.slice xa61 xn61 xp61)
      have U1_64s0 := U1_63.setOther (p := ⟨w.heap.size + 1, 0, none⟩) (Nat.lt_succ_self _) (.slice xa61 xn61 xp61)
      have AP_64s0 := AP_63
      have U2_64s0 := U2_63.setOther (p := ⟨w.heap.size + 1, 0, none⟩) (Nat.lt_succ_self _) (.slice xa61 xn61 xp61)
      have hP_64s1 := hP_64s0.set_other (p := ⟨w.heap.size + 1, 1, none⟩) (by simp) (.slice xa62 xn62 xp62)
      have hR_64s1 := hR_64s0.set 1 (.slice xa62 xn62 xp62)
      have hB_64s1 := hB_64s0.setCell (p := ⟨w.heap.size + 1, 1, none⟩) (Nat.le_succ _) (.slice xa62 xn62 xp62)
      have U0_64s1 := U0_64s0.setOther (p := ⟨w.heap.size + 1, 1, none⟩) (Nat.lt_succ_self _) (.slice xa62 xn62 xp62)
      have U1_64s1 := U1_64s0.setOther (p := ⟨w.heap.size + 1, 1, none⟩) (Nat.lt_succ_self _) (.slice xa62 xn62 xp62)
      have AP_64s1 := AP_64s0
      have U2_64s1 := U2_64s0.setOther (p := ⟨w.heap.size + 1, 1, none⟩) (Nat.lt_succ_self _) (.slice xa62 xn62 xp62)
      have hP_64s2 := hP_64s1.set_other (p := ⟨w.heap.size + 1, 2, none⟩) (by simp) (.slice xa63 xn63 xp63)
      have hR_64s2 := hR_64s1.set 2 (.slice xa63 xn63 xp63)
      have hB_64s2 := hB_64s1.setCell (p := ⟨w.heap.size + 1, 2, none⟩) (Nat.le_succ _) (.slice xa63 xn63 xp63)
      have U0_64s2 := U0_64s1.setOther (p := ⟨w.heap.size + 1, 2, none⟩) (Nat.lt_succ_self _) (.slice xa63 xn63 xp63)
      have U1_64s2 := U1_64s1.setOther (p := ⟨w.heap.size + 1, 2, none⟩) (Nat.lt_succ_self _) (.slice xa63 xn63 xp63)
      have AP_64s2 := AP_64s1
      have U2_64s2 := U2_64s1.setOther (p := ⟨w.heap.size + 1, 2, none⟩) (Nat.lt_succ_self _) (.slice xa63 xn63 xp63)
      have hP_64 := hP_64s2
      have hR_64 : BoxIs (((wq63.setCell ⟨(w.heap.size + 1), 0, none⟩ (.slice xa61 xn61 xp61)).setCell ⟨(w.heap.size + 1), 1, none⟩ (.slice xa62 xn62 xp62)).setCell ⟨(w.heap.size + 1), 2, none⟩ (.slice xa63 xn63 xp63)) (w.heap.size + 1) #[.slice xa61 xn61 xp61, .slice xa62 xn62 xp62, .slice xa63 xn63 xp63] 31 := hR_64s2
      have hB_64 := hB_64s2
      have U0_64 := U0_64s2
      have U1_64 := U1_64s2
      have AP_64 := AP_64s2
      have U2_64 := U2_64s2
      refine hK.out _ _ hP_64 (fun hSz => ?_)
      clear hK K hSz AP_63 U0_63 U1_63 U2_63 hB_63 hP_63 hR_63 hP_64s0 hP_64s1 hP_64s2 hR_64s0 hR_64s1 hR_64s2 hB_64s0 hB_64s1 hB_64s2 U0_64s0 U0_64s1 U0_64s2 U1_64s0 U1_64s1 U1_64s2 AP_64s0 AP_64s1 AP_64s2 U2_64s0 U2_64s1 U2_64s2
      generalize ((wq63.setCell ⟨(w.heap.size + 1), 0, none⟩ (.slice xa61 xn61 xp61)).setCell ⟨(w.heap.size + 1), 1, none⟩ (.slice xa62 xn62 xp62)).setCell ⟨(w.heap.size + 1), 2, none⟩ (.slice xa63 xn63 xp63) = wq64 at hP_64 hR_64 hB_64 U0_64 U1_64 AP_64 U2_64 ⊢
      refine wpAnyH_done (by kernel_rfl) ?_ _
      refine NoPanic.normal ?_
      have z0 := hR_64.cell 0
      have z1 := hR_64.cell 1
      have z2 := hR_64.cell 2
      simp only [List.getElem?_toArray, List.getElem?_cons_succ, List.getElem?_cons_zero] at z0 z1 z2
      have HM := ((show DiskMade _ (w.heap.size + 2) _ _ _ _ from ⟨_, _, _, rfl, U0_64, U1_64, U2_64, AP_64⟩).base (B' := w.heap.size) (by omega)).hid
      have HL := hide hB_64
      clear hP_64 hR_64 hB_64 U0_64 U1_64 AP_64 U2_64
      go_wp2
      exact bodyPost_ret (v := .agg #[.slice xa61 xn61 xp61, .slice xa62 xn62 xp62, .slice xa63 xn63 xp63]) (by simp [results, Try.results68, go_sem, z0, z1, z2]) rfl ⟨⟨_, rfl, HM.out⟩, HL.out⟩
  · go_simp
    have hlt65 : w.heap.size + 1 < wq0.heap.size := hR_0.lt
    have hb65 := below_one wq0 (.cells #[] 40)
    have hP_65 := hP_0.next hb65
    have hR_65 := hR_0.next hb65
    have hB_65 := hB_0.trans (hb65.mono hB_0.size)
    have NB11_65 := BoxIs.new wq0 #[] 40 rfl
    refine hK.out _ _ hP_65 (fun hSz => ?_)
    clear hK K hSz hB_0 hP_0 hR_0
    obtain ⟨G65, hG65⟩ : ∃ G, G = wq0.heap.size := ⟨_, rfl⟩
    rw [← hG65] at NB11_65 ⊢
    generalize wq0.alloc (.cells #[] 40) = wq65 at hb65 hP_65 hR_65 hB_65 NB11_65 ⊢
    rw [← hG65] at hlt65
    clear hG65 hb65
    refine wpAnyH_ready (rs := [0, 4]) (by kernel_rfl) (by simp) ?_
    refine AllReadyH.cons nat0 (fun K hK => ?_) (AllReadyH.cons nat4 (fun K hK => ?_) AllReadyH.nil)
    · go_simp
      have hlt66 : w.heap.size + 1 < wq65.heap.size := hR_65.lt
      have hb66 := below_one wq65 (.cells #[] 96)
      have hP_66 := hP_65.next hb66
      have hR_66 := hR_65.next hb66
      have hB_66 := hB_65.trans (hb66.mono hB_65.size)
      have NB11_66 := NB11_65.next hb66
      have NB3_66 := BoxIs.new wq65 #[] 96 rfl
      refine hK.out _ _ hP_66 (fun hSz => ?_)
      clear hK K hSz NB11_65 hB_65 hP_65 hR_65
      obtain ⟨G66, hG66⟩ : ∃ G, G = wq65.heap.size := ⟨_, rfl⟩
      rw [← hG66] at NB3_66 ⊢
      generalize wq65.alloc (.cells #[] 96) = wq66 at hb66 hP_66 hR_66 hB_66 NB11_66 NB3_66 ⊢
      rw [← hG66] at hlt66
      clear hG66 hb66
      refine wpAnyH_ready (rs := [3, 4]) (by kernel_rfl) (by simp) ?_
      refine AllReadyH.cons nat3 (fun K hK => ?_) (AllReadyH.cons nat4 (fun K hK => ?_) AllReadyH.nil)
      · obtain ⟨v67, wq67, hr67, hb67, ho67, hl67⟩ := run_copyF wq66 G66 NB3_66 a0 c.n0 p0 c.r0 ((HS0.out.below hB_66).mono hB_66.size) (by omega)
        have hof67 := ho67.base (show w.heap.size + 2 ≤ G66 from hlt66)
        obtain ⟨xa67, xn67, xp67, rfl⟩ := ho67.shapeN
        refine step_append_run (P := Try.prog) rfl (.tmp 3) (.tmp 5) 28 28 rfl _ _ (by rfl) (by rfl) (hr67 _) ?_
        have hP_67 := hP_66.next hb67
        have hR_67 := hR_66.next hb67
        have hB_67 := hB_66.trans (hb67.mono hB_66.size)
        have NB11_67 := NB11_66.next hb67
        have U0_67 := hof67
        refine hK.out _ _ hP_67 (fun hSz => ?_)
        clear hK K hSz NB11_66 NB3_66 hB_66 hP_66 hR_66
        clear hr67 hb67 ho67 hof67 hl67
        refine wpAnyH_ready (rs := [4]) (by kernel_rfl) (by simp) ?_
        refine AllReadyH.cons nat4 (fun K hK => ?_) AllReadyH.nil
        go_simp
        have hlt68 : w.heap.size + 1 < wq67.heap.size := hR_67.lt
        have hb68 := below_one wq67 (.cells #[] 96)
        have hP_68 := hP_67.next hb68
        have hR_68 := hR_67.next hb68
        have hB_68 := hB_67.trans (hb68.mono hB_67.size)
        have NB11_68 := NB11_67.next hb68
        have U0_68 := U0_67.next hb68
        have NB7_68 := BoxIs.new wq67 #[] 96 rfl
        refine hK.out _ _ hP_68 (fun hSz => ?_)
        clear hK K hSz NB11_67 U0_67 hB_67 hP_67 hR_67
        obtain ⟨G68, hG68⟩ : ∃ G, G = wq67.heap.size := ⟨_, rfl⟩
        rw [← hG68] at NB7_68 ⊢
        generalize wq67.alloc (.cells #[] 96) = wq68 at hb68 hP_68 hR_68 hB_68 NB11_68 U0_68 NB7_68 ⊢
        rw [← hG68] at hlt68
        clear hG68 hb68
        refine wpAnyH_ready (rs := [7]) (by kernel_rfl) (by simp) ?_
        refine AllReadyH.cons nat7 (fun K hK => ?_) AllReadyH.nil
        obtain ⟨v69, wq69, hr69, hb69, ho69, hl69⟩ := run_copyF wq68 G68 NB7_68 a1 c.n1 p1 c.r1 ((HS1.out.below hB_68).mono hB_68.size) (by omega)
        have hof69 := ho69.base (show w.heap.size + 2 ≤ G68 from hlt68)
        obtain ⟨xa69, xn69, xp69, rfl⟩ := ho69.shapeN
        refine step_append_run (P := Try.prog) rfl (.tmp 7) (.tmp 9) 28 28 rfl _ _ (by rfl) (by rfl) (hr69 _) ?_
        have hP_69 := hP_68.next hb69
        have hR_69 := hR_68.next hb69
        have hB_69 := hB_68.trans (hb69.mono hB_68.size)
        have NB11_69 := NB11_68.next hb69
        have U0_69 := U0_68.next hb69
        have U1_69 := hof69
        have AP_69 := apart_fresh U0_68 c.r1 hl69
        refine hK.out _ _ hP_69 (fun hSz => ?_)
        clear hK K hSz NB11_68 NB7_68 U0_68 hB_68 hP_68 hR_68
        clear hr69 hb69 ho69 hof69 hl69
        refine wpAnyH_ready (rs := [11]) (by kernel_rfl) (by simp) ?_
        refine AllReadyH.cons nat11 (fun K hK => ?_) AllReadyH.nil
        obtain ⟨v70, wq70, hr70, hb70, ho70, hl70⟩ := run_copyD wq69 G65 NB11_69 a2 c.n2 p2 c.r2 ((HS2.out.below hB_69).mono hB_69.size) (by omega)
        have hof70 := ho70.base (show w.heap.size + 2 ≤ G65 from hlt65)
        obtain ⟨xa70, xn70, xp70, rfl⟩ := ho70.shapeN
        refine step_append_run (P := Try.prog) rfl (.tmp 11) (.tmp 13) 29 29 rfl _ _ (by rfl) (by rfl) (hr70 _) ?_
        have hP_70 := hP_69.next hb70
        have hR_70 := hR_69.next hb70
        have hB_70 := hB_69.trans (hb70.mono hB_69.size)
        have U0_70 := U0_69.next hb70
        have U1_70 := U1_69.next hb70
        have AP_70 := AP_69
        have U2_70 := hof70
        refine hK.out _ _ hP_70 (fun hSz => ?_)
        clear hK K hSz AP_69 NB11_69 U0_69 U1_69 hB_69 hP_69 hR_69
        clear hr70 hb70 ho70 hof70 hl70
        refine wpAnyH_take (i := 12) (v := .agg #[.slice xa67 xn67 xp67, .slice xa69 xn69 xp69, .slice xa70 xn70 xp70]) nat12 (by kernel_rfl) (by kernel_rfl) (by kernel_rfl) (fun _ _ _ h => False.elim h) (Or.inl ⟨by rfl, ?_⟩) hP_70 ?_
        · intro wx hSw
          go_simp
        simp only [Act.put, List.setIfInBounds_toArray, List.set_cons_zero, List.set_cons_succ]
        refine wpAnyH_ready (rs := [13]) (by kernel_rfl) (by simp) ?_
        refine AllReadyH.cons nat13 (fun K hK => ?_) AllReadyH.nil
        have y0 := hR_70.cell 0
        have y1 := hR_70.cell 1
        have y2 := hR_70.cell 2
        simp only [List.getElem?_toArray, List.getElem?_cons_succ, List.getElem?_cons_zero] at y0 y1 y2
        have yf := hR_70.free
        go_simp
        clear yf y0 y1 y2
        have hP_71s0 := hP_70.set_other (p := ⟨w.heap.size + 1, 0, none⟩) (by simp) (.slice xa67 xn67 xp67)
        have hR_71s0 := hR_70.set 0 (.slice xa67 xn67 xp67)
        have hB_71s0 := hB_70.setCell (p := ⟨w.heap.size + 1, 0, none⟩) (Nat.le_succ _) (.slice xa67 xn67 xp67)
        have U0_71s0 := U0_70.setOther (p := ⟨w.heap.size + 1, 0, none⟩) (Nat.lt_succ_self _) (.slice xa67 xn67 xp67)
        have U1_71s0 := U1_70.setOther (p := ⟨w.heap.size + 1, 0, none⟩) (Nat.lt_succ_self _) (.slice xa67 xn67 xp67)
        have AP_71s0 := AP_70
        have U2_71s0 := U2_70.setOther (p := ⟨w.heap.size + 1, 0, none⟩) (Nat.lt_succ_self _) (.slice xa67 xn67 xp67)
        have hP_71s1 := hP_71s0.set_other (p := ⟨w.heap.size + 1, 1, none⟩) (by simp) (.slice xa69 xn69 xp69)
        have hR_71s1 := hR_71s0.set 1 (.slice xa69 xn69 xp69)
        have hB_71s1 := hB_71s0.setCell (p := ⟨w.heap.size + 1, 1, none⟩) (Nat.le_succ _) (.slice xa69 xn69 xp69)
        have U0_71s1 := U0_71s0.setOther (p := ⟨w.heap.size + 1, 1, none⟩) (Nat.lt_succ_self _) (.slice xa69 xn69 xp69)
        have U1_71s1 := U1_71s0.setOther (p := ⟨w.heap.size + 1, 1, none⟩) (Nat.lt_succ_self _) (.slice xa69 xn69 xp69)
        have AP_71s1 := AP_71s0
        have U2_71s1 := U2_71s0.setOther (p := ⟨w.heap.size + 1, 1, none⟩) (Nat.lt_succ_self _) (.slice xa69 xn69 xp69)
        have hP_71s2 := hP_71s1.set_other (p := ⟨w.heap.size + 1, 2, none⟩) (by simp) (.slice xa70 xn70 xp70)
        have hR_71s2 := hR_71s1.set 2 (.slice xa70 xn70 xp70)
        have hB_71s2 := hB_71s1.setCell (p := ⟨w.heap.size + 1, 2, none⟩) (Nat.le_succ _) (.slice xa70 xn70 xp70)
        have U0_71s2 := U0_71s1.setOther (p := ⟨w.heap.size + 1, 2, none⟩) (Nat.lt_succ_self _) (.slice xa70 xn70 xp70)
        have U1_71s2 := U1_71s1.setOther (p := ⟨w.heap.size + 1, 2, none⟩) (Nat.lt_succ_self _) (.slice xa70 xn70 xp70)
        have AP_71s2 := AP_71s1
        have U2_71s2 := U2_71s1.setOther (p := ⟨w.heap.size + 1, 2, none⟩) (Nat.lt_succ_self _) (.slice xa70 xn70 xp70)
        have hP_71 := hP_71s2
        have hR_71 : BoxIs (((wq70.setCell ⟨(w.heap.size + 1), 0, none⟩ (.slice xa67 xn67 xp67)).setCell ⟨(w.heap.size + 1), 1, none⟩ (.slice xa69 xn69 xp69)).setCell ⟨(w.heap.size + 1), 2, none⟩ (.slice xa70 xn70 xp70)) (w.heap.size + 1) #[.slice xa67 xn67 xp67, .slice xa69 xn69 xp69, .slice xa70 xn70 xp70] 31 := hR_71s2
        have hB_71 := hB_71s2
        have U0_71 := U0_71s2
        have U1_71 := U1_71s2
        have AP_71 := AP_71s2
        have U2_71 := U2_71s2
        refine hK.out _ _ hP_71 (fun hSz => ?_)
        clear hK K hSz AP_70 U0_70 U1_70 U2_70 hB_70 hP_70 hR_70 hP_71s0 hP_71s1 hP_71s2 hR_71s0 hR_71s1 hR_71s2 hB_71s0 hB_71s1 hB_71s2 U0_71s0 U0_71s1 U0_71s2 U1_71s0 U1_71s1 U1_71s2 AP_71s0 AP_71s1 AP_71s2 U2_71s0 U2_71s1 U2_71s2
        generalize ((wq70.setCell ⟨(w.heap.size + 1), 0, none⟩ (.slice xa67 xn67 xp67)).setCell ⟨(w.heap.size + 1), 1, none⟩ (.slice xa69 xn69 xp69)).setCell ⟨(w.heap.size + 1), 2, none⟩ (.slice xa70 xn70 xp70) = wq71 at hP_71 hR_71 hB_71 U0_71 U1_71 AP_71 U2_71 ⊢
        refine wpAnyH_done (by kernel_rfl) ?_ _
        refine NoPanic.normal ?_
        have z0 := hR_71.cell 0
        have z1 := hR_71.cell 1
        have z2 := hR_71.cell 2
        simp only [List.getElem?_toArray, List.getElem?_cons_succ, List.getElem?_cons_zero] at z0 z1 z2
        have HM := ((show DiskMade _ (w.heap.size + 2) _ _ _ _ from ⟨_, _, _, rfl, U0_71, U1_71, U2_71, AP_71⟩).base (B' := w.heap.size) (by omega)).hid
        have HL := hide hB_71
        clear hP_71 hR_71 hB_71 U0_71 U1_71 AP_71 U2_71
        go_wp2
        exact bodyPost_ret (v := .agg #[.slice xa67 xn67 xp67, .slice xa69 xn69 xp69, .slice xa70 xn70 xp70]) (by simp [results, Try.results68, go_sem, z0, z1, z2]) rfl ⟨⟨_, rfl, HM.out⟩, HL.out⟩
      · go_simp
        have hlt72 : w.heap.size + 1 < wq66.heap.size := hR_66.lt
        have hb72 := below_one wq66 (.cells #[] 96)
        have hP_72 := hP_66.next hb72
        have hR_72 := hR_66.next hb72
        have hB_72 := hB_66.trans (hb72.mono hB_66.size)
        have NB11_72 := NB11_66.next hb72
        have NB3_72 := NB3_66.next hb72
        have NB7_72 := BoxIs.new wq66 #[] 96 rfl
        refine hK.out _ _ hP_72 (fun hSz => ?_)
        clear hK K hSz NB11_66 NB3_66 hB_66 hP_66 hR_66
        obtain ⟨G72, hG72⟩ : ∃ G, G = wq66.heap.size := ⟨_, rfl⟩
        rw [← hG72] at NB7_72 ⊢
        generalize wq66.alloc (.cells #[] 96) = wq72 at hb72 hP_72 hR_72 hB_72 NB11_72 NB3_72 NB7_72 ⊢
        rw [← hG72] at hlt72
        clear hG72 hb72
        refine wpAnyH_ready (rs := [3]) (by kernel_rfl) (by simp) ?_
        refine AllReadyH.cons nat3 (fun K hK => ?_) AllReadyH.nil
        obtain ⟨v73, wq73, hr73, hb73, ho73, hl73⟩ := run_copyF wq72 G66 NB3_72 a0 c.n0 p0 c.r0 ((HS0.out.below hB_72).mono hB_72.size) (by omega)
        have hof73 := ho73.base (show w.heap.size + 2 ≤ G66 from hlt66)
        obtain ⟨xa73, xn73, xp73, rfl⟩ := ho73.shapeN
        refine step_append_run (P := Try.prog) rfl (.tmp 3) (.tmp 5) 28 28 rfl _ _ (by rfl) (by rfl) (hr73 _) ?_
        have hP_73 := hP_72.next hb73
        have hR_73 := hR_72.next hb73
        have hB_73 := hB_72.trans (hb73.mono hB_72.size)
        have NB11_73 := NB11_72.next hb73
        have NB7_73 := NB7_72.next hb73
        have U0_73 := hof73
        refine hK.out _ _ hP_73 (fun hSz => ?_)
        clear hK K hSz NB11_72 NB3_72 NB7_72 hB_72 hP_72 hR_72
        clear hr73 hb73 ho73 hof73 hl73
        refine wpAnyH_ready (rs := [7]) (by kernel_rfl) (by simp) ?_
        refine AllReadyH.cons nat7 (fun K hK => ?_) AllReadyH.nil
        obtain ⟨v74, wq74, hr74, hb74, ho74, hl74⟩ := run_copyF wq73 G72 NB7_73 a1 c.n1 p1 c.r1 ((HS1.out.below hB_73).mono hB_73.size) (by omega)
        have hof74 := ho74.base (show w.heap.size + 2 ≤ G72 from hlt72)
        obtain ⟨xa74, xn74, xp74, rfl⟩ := ho74.shapeN
        refine step_append_run (P := Try.prog) rfl (.tmp 7) (.tmp 9) 28 28 rfl _ _ (by rfl) (by rfl) (hr74 _) ?_
        have hP_74 := hP_73.next hb74
        have hR_74 := hR_73.next hb74
        have hB_74 := hB_73.trans (hb74.mono hB_73.size)
        have NB11_74 := NB11_73.next hb74
        have U0_74 := U0_73.next hb74
        have U1_74 := hof74
        have AP_74 := apart_fresh U0_73 c.r1 hl74
        refine hK.out _ _ hP_74 (fun hSz => ?_)
        clear hK K hSz NB11_73 NB7_73 U0_73 hB_73 hP_73 hR_73
        clear hr74 hb74 ho74 hof74 hl74
        refine wpAnyH_ready (rs := [11]) (by kernel_rfl) (by simp) ?_
        refine AllReadyH.cons nat11 (fun K hK => ?_) AllReadyH.nil
        obtain ⟨v75, wq75, hr75, hb75, ho75, hl75⟩ := run_copyD wq74 G65 NB11_74 a2 c.n2 p2 c.r2 ((HS2.out.below hB_74).mono hB_74.size) (by omega)
        have hof75 := ho75.base (show w.heap.size + 2 ≤ G65 from hlt65)
        obtain ⟨xa75, xn75, xp75, rfl⟩ := ho75.shapeN
        refine step_append_run (P := Try.prog) rfl (.tmp 11) (.tmp 13) 29 29 rfl _ _ (by rfl) (by rfl) (hr75 _) ?_
        have hP_75 := hP_74.next hb75
        have hR_75 := hR_74.next hb75
        have hB_75 := hB_74.trans (hb75.mono hB_74.size)
        have U0_75 := U0_74.next hb75
        have U1_75 := U1_74.next hb75
        have AP_75 := AP_74
        have U2_75 := hof75
        refine hK.out _ _ hP_75 (fun hSz => ?_)
        clear hK K hSz AP_74 NB11_74 U0_74 U1_74 hB_74 hP_74 hR_74
        clear hr75 hb75 ho75 hof75 hl75
        refine wpAnyH_take (i := 12) (v := .agg #[.slice xa73 xn73 xp73, .slice xa74 xn74 xp74, .slice xa75 xn75 xp75]) nat12 (by kernel_rfl) (by kernel_rfl) (by kernel_rfl) (fun _ _ _ h => False.elim h) (Or.inl ⟨by rfl, ?_⟩) hP_75 ?_
        · intro wx hSw
          go_simp
        simp only [Act.put, List.setIfInBounds_toArray, List.set_cons_zero, List.set_cons_succ]
        refine wpAnyH_ready (rs := [13]) (by kernel_rfl) (by simp) ?_
        refine AllReadyH.cons nat13 (fun K hK => ?_) AllReadyH.nil
        have y0 := hR_75.cell 0
        have y1 := hR_75.cell 1
        have y2 := hR_75.cell 2
        simp only [List.getElem?_toArray, List.getElem?_cons_succ, List.getElem?_cons_zero] at y0 y1 y2
        have yf := hR_75.free
        go_simp
        clear yf y0 y1 y2
        have hP_76s0 := hP_75.set_other (p := ⟨w.heap.size + 1, 0, none⟩) (by simp) (.slice xa73 xn73 xp73)
        have hR_76s0 := hR_75.set 0 (.slice xa73 xn73 xp73)
        have hB_76s0 := hB_75.setCell (p := ⟨w.heap.size + 1, 0, none⟩) (Nat.le_succ _) (.slice xa73 xn73 xp73)
        have U0_76s0 := U0_75.setOther (p := ⟨w.heap.size + 1, 0, none⟩) (Nat.lt_succ_self _) (.slice xa73 xn73 xp73)
        have U1_76s0 := U1_75.setOther (p := ⟨w.heap.size + 1, 0, none⟩) (Nat.lt_succ_self _) (.slice xa73 xn73 xp73)
        have AP_76s0 := AP_75
        have U2_76s0 := U2_75.setOther (p := ⟨w.heap.size + 1, 0, none⟩) (Nat.lt_succ_self _) (.slice xa73 xn73 xp73)
        have hP_76s1 := hP_76s0.set_other (p := ⟨w.heap.size + 1, 1, none⟩) (by simp) (.slice xa74 xn74 xp74)
        have hR_76s1 := hR_76s0.set 1 (.slice xa74 xn74 xp74)
        have hB_76s1 := hB_76s0.setCell (p := ⟨w.heap.size + 1, 1, none⟩) (Nat.le_succ _) (.slice xa74 xn74 xp74)
        have U0_76s1 := U0_76s0.setOther (p := ⟨w.heap.size + 1, 1, none⟩) (Nat.lt_succ_self _) (.slice xa74 xn74 xp74)
        have U1_76s1 := U1_76s0.setOther (p := ⟨w.heap.size + 1, 1, none⟩) (Nat.lt_succ_self _) (.slice xa74 xn74 xp74)
        have AP_76s1 := AP_76s0
        have U2_76s1 := U2_76s0.setOther (p := ⟨w.heap.size + 1, 1, none⟩) (Nat.lt_succ_self _) (.slice xa74 xn74 xp74)
        have hP_76s2 := hP_76s1.set_other (p := ⟨w.heap.size + 1, 2, none⟩) (by simp) (.slice xa75 xn75 xp75)
        have hR_76s2 := hR_76s1.set 2 (.slice xa75 xn75 xp75)
        have hB_76s2 := hB_76s1.setCell (p := ⟨w.heap.size + 1, 2, none⟩) (Nat.le_succ _) (.slice xa75 xn75 xp75)
        have U0_76s2 := U0_76s1.setOther (p := ⟨w.heap.size + 1, 2, none⟩) (Nat.lt_succ_self _) (.slice xa75 xn75 xp75)
        have U1_76s2 := U1_76s1.setOther (p := ⟨w.heap.size + 1, 2, none⟩) (Nat.lt_succ_self _) (.slice xa75 xn75 xp75)
        have AP_76s2 := AP_76s1
        have U2_76s2 := U2_76s1.setOther (p := ⟨w.heap.size + 1, 2, none⟩) (Nat.lt_succ_self _) (.slice xa75 xn75 xp75)
        have hP_76 := hP_76s2
        have hR_76 : BoxIs (((wq75.setCell ⟨(w.heap.size + 1), 0, none⟩ (.slice xa73 xn73 xp73)).setCell ⟨(w.heap.size + 1), 1, none⟩ (.slice xa74 xn74 xp74)).setCell ⟨(w.heap.size + 1), 2, none⟩ (.slice xa75 xn75 xp75)) (w.heap.size + 1) #[.slice xa73 xn73 xp73, .slice xa74 xn74 xp74, .slice xa75 xn75 xp75] 31 := hR_76s2
        have hB_76 := hB_76s2
        have U0_76 := U0_76s2
        have U1_76 := U1_76s2
        have AP_76 := AP_76s2
        have U2_76 := U2_76s2
        refine hK.out _ _ hP_76 (fun hSz => ?_)
        clear hK K hSz AP_75 U0_75 U1_75 U2_75 hB_75 hP_75 hR_75 hP_76s0 hP_76s1 hP_76s2 hR_76s0 hR_76s1 hR_76s2 hB_76s0 hB_76s1 hB_76s2 U0_76s0 U0_76s1 U0_76s2 U1_76s0 U1_76s1 U1_76s2 AP_76s0 AP_76s1 AP_76s2 U2_76s0 U2_76s1 U2_76s2
        generalize ((wq75.setCell ⟨(w.heap.size + 1), 0, none⟩ (.slice xa73 xn73 xp73)).setCell ⟨(w.heap.size + 1), 1, none⟩ (.slice xa74 xn74 xp74)).setCell ⟨(w.heap.size + 1), 2, none⟩ (.slice xa75 xn75 xp75) = wq76 at hP_76 hR_76 hB_76 U0_76 U1_76 AP_76 U2_76 ⊢
        refine wpAnyH_done (by kernel_rfl) ?_ _
        refine NoPanic.normal ?_
        have z0 := hR_76.cell 0
        have z1 := hR_76.cell 1
        have z2 := hR_76.cell 2
        simp only [List.getElem?_toArray, List.getElem?_cons_succ, List.getElem?_cons_zero] at z0 z1 z2
        have HM := ((show DiskMade _ (w.heap.size + 2) _ _ _ _ from ⟨_, _, _, rfl, U0_76, U1_76, U2_76, AP_76⟩).base (B' := w.heap.size) (by omega)).hid
        have HL := hide hB_76
        clear hP_76 hR_76 hB_76 U0_76 U1_76 AP_76 U2_76
        go_wp2
        exact bodyPost_ret (v := .agg #[.slice xa73 xn73 xp73, .slice xa74 xn74 xp74, .slice xa75 xn75 xp75]) (by simp [results, Try.results68, go_sem, z0, z1, z2]) rfl ⟨⟨_, rfl, HM.out⟩, HL.out⟩
    · go_simp
      have hlt77 : w.heap.size + 1 < wq65.heap.size := hR_65.lt
      have hb77 := below_one wq65 (.cells #[] 96)
      have hP_77 := hP_65.next hb77
      have hR_77 := hR_65.next hb77
      have hB_77 := hB_65.trans (hb77.mono hB_65.size)
      have NB11_77 := NB11_65.next hb77
      have NB7_77 := BoxIs.new wq65 #[] 96 rfl
      refine hK.out _ _ hP_77 (fun hSz => ?_)
      clear hK K hSz NB11_65 hB_65 hP_65 hR_65
      obtain ⟨G77, hG77⟩ : ∃ G, G = wq65.heap.size := ⟨_, rfl⟩
      rw [← hG77] at NB7_77 ⊢
      generalize wq65.alloc (.cells #[] 96) = wq77 at hb77 hP_77 hR_77 hB_77 NB11_77 NB7_77 ⊢
      rw [← hG77] at hlt77
      clear hG77 hb77
      refine wpAnyH_ready (rs := [0]) (by kernel_rfl) (by simp) ?_
      refine AllReadyH.cons nat0 (fun K hK => ?_) AllReadyH.nil
      go_simp
      have hlt78 : w.heap.size + 1 < wq77.heap.size := hR_77.lt
      have hb78 := below_one wq77 (.cells #[] 96)
      have hP_78 := hP_77.next hb78
      have hR_78 := hR_77.next hb78
      have hB_78 := hB_77.trans (hb78.mono hB_77.size)
      have NB11_78 := NB11_77.next hb78
      have NB7_78 := NB7_77.next hb78
      have NB3_78 := BoxIs.new wq77 #[] 96 rfl
      refine hK.out _ _ hP_78 (fun hSz => ?_)
      clear hK K hSz NB11_77 NB7_77 hB_77 hP_77 hR_77
      obtain ⟨G78, hG78⟩ : ∃ G, G = wq77.heap.size := ⟨_, rfl⟩
      rw [← hG78] at NB3_78 ⊢
      generalize wq77.alloc (.cells #[] 96) = wq78 at hb78 hP_78 hR_78 hB_78 NB11_78 NB7_78 NB3_78 ⊢
      rw [← hG78] at hlt78
      clear hG78 hb78
      refine wpAnyH_ready (rs := [3]) (by kernel_rfl) (by simp) ?_
      refine AllReadyH.cons nat3 (fun K hK => ?_) AllReadyH.nil
      obtain ⟨v79, wq79, hr79, hb79, ho79, hl79⟩ := run_copyF wq78 G78 NB3_78 a0 c.n0 p0 c.r0 ((HS0.out.below hB_78).mono hB_78.size) (by omega)
      have hof79 := ho79.base (show w.heap.size + 2 ≤ G78 from hlt78)
      obtain ⟨xa79, xn79, xp79, rfl⟩ := ho79.shapeN
      refine step_append_run (P := Try.prog) rfl (.tmp 3) (.tmp 5) 28 28 rfl _ _ (by rfl) (by rfl) (hr79 _) ?_
      have hP_79 := hP_78.next hb79
      have hR_79 := hR_78.next hb79
      have hB_79 := hB_78.trans (hb79.mono hB_78.size)
      have NB11_79 := NB11_78.next hb79
      have NB7_79 := NB7_78.next hb79
      have U0_79 := hof79
      refine hK.out _ _ hP_79 (fun hSz => ?_)
      clear hK K hSz NB11_78 NB3_78 NB7_78 hB_78 hP_78 hR_78
      clear hr79 hb79 ho79 hof79 hl79
      refine wpAnyH_ready (rs := [7]) (by kernel_rfl) (by simp) ?_
      refine AllReadyH.cons nat7 (fun K hK => ?_) AllReadyH.nil
      obtain ⟨v80, wq80, hr80, hb80, ho80, hl80⟩ := run_copyF wq79 G77 NB7_79 a1 c.n1 p1 c.r1 ((HS1.out.below hB_79).mono hB_79.size) (by omega)
      have hof80 := ho80.base (show w.heap.size + 2 ≤ G77 from hlt77)
      obtain ⟨xa80, xn80, xp80, rfl⟩ := ho80.shapeN
      refine step_append_run (P := Try.prog) rfl (.tmp 7) (.tmp 9) 28 28 rfl _ _ (by rfl) (by rfl) (hr80 _) ?_
      have hP_80 := hP_79.next hb80
      have hR_80 := hR_79.next hb80
      have hB_80 := hB_79.trans (hb80.mono hB_79.size)
      have NB11_80 := NB11_79.next hb80
      have U0_80 := U0_79.next hb80
      have U1_80 := hof80
      have AP_80 := apart_fresh U0_79 c.r1 hl80
      refine hK.out _ _ hP_80 (fun hSz => ?_)
      clear hK K hSz NB11_79 NB7_79 U0_79 hB_79 hP_79 hR_79
      clear hr80 hb80 ho80 hof80 hl80
      refine wpAnyH_ready (rs := [11]) (by kernel_rfl) (by simp) ?_
      refine AllReadyH.cons nat11 (fun K hK => ?_) AllReadyH.nil
      obtain ⟨v81, wq81, hr81, hb81, ho81, hl81⟩ := run_copyD wq80 G65 NB11_80 a2 c.n2 p2 c.r2 ((HS2.out.below hB_80).mono hB_80.size) (by omega)
      have hof81 := ho81.base (show w.heap.size + 2 ≤ G65 from hlt65)
      obtain ⟨xa81, xn81, xp81, rfl⟩ := ho81.shapeN
      refine step_append_run (P := Try.prog) rfl (.tmp 11) (.tmp 13) 29 29 rfl _ _ (by rfl) (by rfl) (hr81 _) ?_
      have hP_81 := hP_80.next hb81
      have hR_81 := hR_80.next hb81
      have hB_81 := hB_80.trans (hb81.mono hB_80.size)
      have U0_81 := U0_80.next hb81
      have U1_81 := U1_80.next hb81
      have AP_81 := AP_80
      have U2_81 := hof81
      refine hK.out _ _ hP_81 (fun hSz => ?_)
      clear hK K hSz AP_80 NB11_80 U0_80 U1_80 hB_80 hP_80 hR_80
      clear hr81 hb81 ho81 hof81 hl81
      refine wpAnyH_take (i := 12) (v := .agg #[.slice xa79 xn79 xp79, .slice xa80 xn80 xp80, .slice xa81 xn81 xp81]) nat12 (by kernel_rfl) (by kernel_rfl) (by kernel_rfl) (fun _ _ _ h => False.elim h) (Or.inl ⟨by rfl, ?_⟩) hP_81 ?_
      · intro wx hSw
        go_simp
      simp only [Act.put, List.setIfInBounds_toArray, List.set_cons_zero, List.set_cons_succ]
      refine wpAnyH_ready (rs := [13]) (by kernel_rfl) (by simp) ?_
      refine AllReadyH.cons nat13 (fun K hK => ?_) AllReadyH.nil
      have y0 := hR_81.cell 0
      have y1 := hR_81.cell 1
      have y2 := hR_81.cell 2
      simp only [List.getElem?_toArray, List.getElem?_cons_succ, List.getElem?_cons_zero] at y0 y1 y2
      have yf := hR_81.free
      go_simp
      clear yf y0 y1 y2
      have hP_82s0 := hP_81.set_other (p := ⟨w.heap.size + 1, 0, none⟩) (by simp) (.slice xa79 xn79 xp79)
      have hR_82s0 := hR_81.set 0 (.slice xa79 xn79 xp79)
      have hB_82s0 := hB_81.setCell (p := ⟨w.heap.size + 1, 0, none⟩) (Nat.le_succ _) (.slice xa79 xn79 xp79)
      have U0_82s0 := U0_81.setOther (p := ⟨w.heap.size + 1, 0, none⟩) (Nat.lt_succ_self _) (.slice xa79 xn79 xp79)
      have U1_82s0 := U1_81.setOther (p := ⟨w.heap.size + 1, 0, none⟩) (Nat.lt_succ_self _) (.slice xa79 xn79 xp79)
      have AP_82s0 := AP_81
      have U2_82s0 := U2_81.setOther (p := ⟨w.heap.size + 1, 0, none⟩) (Nat.lt_succ_self _) (.slice xa79 xn79 xp79)
      have hP_82s1 := hP_82s0.set_other (p := ⟨w.heap.size + 1, 1, none⟩) (by simp) (.slice xa80 xn80 xp80)
      have hR_82s1 := hR_82s0.set 1 (.slice xa80 xn80 xp80)
      have hB_82s1 := hB_82s0.setCell (p := ⟨w.heap.size + 1, 1, none⟩) (Nat.le_succ _) (.slice xa80 xn80 xp80)
      have U0_82s1 := U0_82s0.setOther (p := ⟨w.heap.size + 1, 1, none⟩) (Nat.lt_succ_self _) (.slice xa80 xn80 xp80)
      have U1_82s1 := U1_82s0.setOther (p := ⟨w.heap.size + 1, 1, none⟩) (Nat.lt_succ_self _) (.slice xa80 xn80 xp80)
      have AP_82s1 := AP_82s0
      have U2_82s1 := U2_82s0.setOther (p := ⟨w.heap.size + 1, 1, none⟩) (Nat.lt_succ_self _) (.slice xa80 xn80 xp80)
      have hP_82s2 := hP_82s1.set_other (p := ⟨w.heap.size + 1, 2, none⟩) (by simp) (.slice xa81 xn81 xp81)
      have hR_82s2 := hR_82s1.set 2 (.slice xa81 xn81 xp81)
      have hB_82s2 := hB_82s1.setCell (p := ⟨w.heap.size + 1, 2, none⟩) (Nat.le_succ _) (.slice xa81 xn81 xp81)
      have U0_82s2 := U0_82s1.setOther (p := ⟨w.heap.size + 1, 2, none⟩) (Nat.lt_succ_self _) (.slice xa81 xn81 xp81)
      have U1_82s2 := U1_82s1.setOther (p := ⟨w.heap.size + 1, 2, none⟩) (Nat.lt_succ_self _) (.slice xa81 xn81 xp81)
      have AP_82s2 := AP_82s1
      have U2_82s2 := U2_82s1.setOther (p := ⟨w.heap.size + 1, 2, none⟩) (Nat.lt_succ_self _) (.slice xa81 xn81 xp81)
      have hP_82 := hP_82s2
      have hR_82 : BoxIs (((wq81.setCell ⟨(w.heap.size + 1), 0, none⟩ (.slice xa79 xn79 xp79)).setCell ⟨(w.heap.size + 1), 1, none⟩ (.slice xa80 xn80 xp80)).setCell ⟨(w.heap.size + 1), 2, none⟩ (.slice xa81 xn81 xp81)) (w.heap.size + 1) #[.slice xa79 xn79 xp79, .slice xa80 xn80 xp80, .slice xa81 xn81 xp81] 31 := hR_82s2
      have hB_82 := hB_82s2
      have U0_82 := U0_82s2
      have U1_82 := U1_82s2
      have AP_82 := AP_82s2
      have U2_82 := U2_82s2
      refine hK.out _ _ hP_82 (fun hSz => ?_)
      clear hK K hSz AP_81 U0_81 U1_81 U2_81 hB_81 hP_81 hR_81 hP_82s0 hP_82s1 hP_82s2 hR_82s0 hR_82s1 hR_82s2 hB_82s0 hB_82s1 hB_82s2 U0_82s0 U0_82s1 U0_82s2 U1_82s0 U1_82s1 U1_82s2 AP_82s0 AP_82s1 AP_82s2 U2_82s0 U2_82s1 U2_82s2
      generalize ((wq81.setCell ⟨(w.heap.size + 1), 0, none⟩ (.slice xa79 xn79 xp79)).setCell ⟨(w.heap.size + 1), 1, none⟩ (.slice xa80 xn80 xp80)).setCell ⟨(w.heap.size + 1), 2, none⟩ (.slice xa81 xn81 xp81) = wq82 at hP_82 hR_82 hB_82 U0_82 U1_82 AP_82 U2_82 ⊢
      refine wpAnyH_done (by kernel_rfl) ?_ _
      refine NoPanic.normal ?_
      have z0 := hR_82.cell 0
      have z1 := hR_82.cell 1
      have z2 := hR_82.cell 2
      simp only [List.getElem?_toArray, List.getElem?_cons_succ, List.getElem?_cons_zero] at z0 z1 z2
      have HM := ((show DiskMade _ (w.heap.size + 2) _ _ _ _ from ⟨_, _, _, rfl, U0_82, U1_82, U2_82, AP_82⟩).base (B' := w.heap.size) (by omega)).hid
      have HL := hide hB_82
      clear hP_82 hR_82 hB_82 U0_82 U1_82 AP_82 U2_82
      go_wp2
      exact bodyPost_ret (v := .agg #[.slice xa79 xn79 xp79, .slice xa80 xn80 xp80, .slice xa81 xn81 xp81]) (by simp [results, Try.results68, go_sem, z0, z1, z2]) rfl ⟨⟨_, rfl, HM.out⟩, HL.out⟩
set_option linter.unusedVariables false in
set_option linter.unusedSimpArgs false in
set_option maxHeartbeats 4000000 in
theorem spec_Sync (v : Value) (c : DiskC) (w : World) (hf : c.Fit) (hv : DiskIs w v c) :
    Calls Try.prog 23 #[v] w fun e w' => (∃ u, e = .returned u ∧ DiskMade w' w.heap.size u (syL c) (syL c) []) ∧ Below w.heap.size w w' := by
  obtain ⟨a0, p0, a1, p1, a2, p2, rfl, hS0, hS1, hS2⟩ := hv
  obtain ⟨⟨hn0, hn1, hn2⟩, _⟩ := id hf
  have hB : Below w.heap.size w ((w.alloc (.cells #[.slice a0 c.n0 p0, .slice a1 c.n1 p1, .slice a2 c.n2 p2] 31)).alloc (.cells #[.slice none 0 0, .slice none 0 0, .slice none 0 0] 31)) := ((Below.refl _ _).alloc (Nat.le_refl _) _).alloc (by simp) _
  have hP := (BoxIs.new w #[.slice a0 c.n0 p0, .slice a1 c.n1 p1, .slice a2 c.n2 p2] 31 rfl).next (below_one _ (.cells #[.slice none 0 0, .slice none 0 0, .slice none 0 0] 31))
  have hR := BoxIs.new (w.alloc (.cells #[.slice a0 c.n0 p0, .slice a1 c.n1 p1, .slice a2 c.n2 p2] 31)) #[.slice none 0 0, .slice none 0 0, .slice none 0 0] 31 (g := w.heap.size + 1) (by simp)
  have HS0 := hS0.hid
  have HS1 := hS1.hid
  have HS2 := hS2.hid
  have hD : DiskIs ((w.alloc (.cells #[.slice a0 c.n0 p0, .slice a1 c.n1 p1, .slice a2 c.n2 p2] 31)).alloc (.cells #[.slice none 0 0, .slice none 0 0, .slice none 0 0] 31)) (.agg #[.slice a0 c.n0 p0, .slice a1 c.n1 p1, .slice a2 c.n2 p2]) c := DiskIs.at_old ⟨a0, p0, a1, p1, a2, p2, rfl, hS0, hS1, hS2⟩ hB
  have g0 := hP.cell 0
  have g1 := hP.cell 1
  have g2 := hP.cell 2
  simp only [List.getElem?_toArray, List.getElem?_cons_succ, List.getElem?_cons_zero] at g0 g1 g2
  have HB := hide hB
  have HP := hP.hid
  have HR := hR.hid
  have HD := hD.hid
  clear hS0 hS1 hS2 hB hP hR hD
  go_enter Try.func23, Try.ntmps23
  go_wp2_with fail
  clear g0 g1 g2
  generalize (w.alloc (.cells #[.slice a0 c.n0 p0, .slice a1 c.n1 p1, .slice a2 c.n2 p2] 31)).alloc (.cells #[.slice none 0 0, .slice none 0 0, .slice none 0 0] 31) = W at HB HP HR HD ⊢
  refine (spec_DiskOk _ c W hf HD.out).mono ?_
  rintro e w1 ⟨rfl, hb1⟩
  have HB1 := hide (HB.out.trans (hb1.mono HB.out.size))
  have HP1 := (HP.out.next hb1).hid
  have HR1 := (HR.out.next hb1).hid
  clear hb1 HB HP HR HD
  cases hd : dB c with
  | false =>
    have HV := hide (syL_no hd)
    have r0 := HR1.out.cell 0
    have r1 := HR1.out.cell 1
    have r2 := HR1.out.cell 2
    have rf := HR1.out.free
    simp only [List.getElem?_toArray, List.getElem?_cons_succ, List.getElem?_cons_zero] at r0 r1 r2
    have HL := hide (below_put3 (F := w.heap.size + 1) HB1.out (Nat.le_succ _) (.slice none 0 0) (.slice none 0 0) (.slice none 0 0))
    clear hd HB1 HR1 HP1
    go_wp2
    refine bodyPost_ret (v := .agg #[.slice none 0 0, .slice none 0 0, .slice none 0 0]) (by simp [results, Try.results23, go_sem, r0, r1, r2]) rfl ⟨⟨_, rfl, ?_⟩, HL.out⟩
    rw [HV.out]; exact made_nil _ _
  | true =>
    have HV := hide (syL_yes hd)
    have hB := HB1.out
    have hP := HP1.out
    have hR := HR1.out
    clear hd HB1 HP1 HR1
    go_upto_region 3 with fail
    refine wp_region_noPanic ?_
    have hb0 : Below w1.heap.size w1 w1.drew := (Below.refl _ _).drew
    have hP_0 := hP.next hb0
    have hR_0 := hR.next hb0
    have hB_0 := hB.trans (hb0.mono hB.size)
    refine wp_region_held_drew (S := fun x => BoxIs x w.heap.size #[.slice a0 c.n0 p0, .slice a1 c.n1 p1, .slice a2 c.n2 p2] 31) (by kernel_rfl) hP_0 (fun hSz => ?_)
    clear hSz hB hP hR
    generalize w1.drew = wq0 at hb0 hP_0 hR_0 hB_0 ⊢
    clear hb0
    refine wpAnyH_take (i := 1) (v := .pointer (some ⟨w.heap.size, 0, none⟩)) nat1 (by kernel_rfl) (by kernel_rfl) (by kernel_rfl) (fun _ _ _ h => False.elim h) (Or.inl ⟨by rfl, ?_⟩) hP_0 ?_
    · intro wx hSw
      go_simp
    simp only [Act.put, List.setIfInBounds_toArray, List.set_cons_zero, List.set_cons_succ]
    refine wpAnyH_take (i := 2) (v := .slice a0 c.n0 p0) nat2 (by kernel_rfl) (by kernel_rfl) (by kernel_rfl) (fun _ _ _ h => False.elim h) (Or.inl ⟨by rfl, ?_⟩) hP_0 ?_
    · intro wx hSw
      have y0 := hSw.cell 0
      simp only [List.getElem?_toArray, List.getElem?_cons_succ, List.getElem?_cons_zero] at y0
      go_simp
    simp only [Act.put, List.setIfInBounds_toArray, List.set_cons_zero, List.set_cons_succ]
    refine wpAnyH_take (i := 5) (v := .pointer (some ⟨w.heap.size, 0, none⟩)) nat5 (by kernel_rfl) (by kernel_rfl) (by kernel_rfl) (fun _ _ _ h => False.elim h) (Or.inl ⟨by rfl, ?_⟩) hP_0 ?_
    · intro wx hSw
      go_simp
    simp only [Act.put, List.setIfInBounds_toArray, List.set_cons_zero, List.set_cons_succ]
    refine wpAnyH_take (i := 6) (v := .slice a0 c.n0 p0) nat6 (by kernel_rfl) (by kernel_rfl) (by kernel_rfl) (fun _ _ _ h => False.elim h) (Or.inl ⟨by rfl, ?_⟩) hP_0 ?_
    · intro wx hSw
      have y0 := hSw.cell 0
      simp only [List.getElem?_toArray, List.getElem?_cons_succ, List.getElem?_cons_zero] at y0
      go_simp
    simp only [Act.put, List.setIfInBounds_toArray, List.set_cons_zero, List.set_cons_succ]
    refine wpAnyH_ready (rs := [0, 4]) (by kernel_rfl) (by simp) ?_
    refine AllReadyH.cons nat0 (fun K hK => ?_) (AllReadyH.cons nat4 (fun K hK => ?_) AllReadyH.nil)
    · go_simp
      have hlt1 : w.heap.size + 1 < wq0.heap.size := hR_0.lt
      have hb1 := below_one wq0 (.cells #[] 96)
      have hP_1 := hP_0.next hb1
      have hR_1 := hR_0.next hb1
      have hB_1 := hB_0.trans (hb1.mono hB_0.size)
      have NB7_1 := BoxIs.new wq0 #[] 96 rfl
      refine hK.out _ _ hP_1 (fun hSz => ?_)
      clear hK K hSz hB_0 hP_0 hR_0
      obtain ⟨G1, hG1⟩ : ∃ G, G = wq0.heap.size := ⟨_, rfl⟩
      rw [← hG1] at NB7_1 ⊢
      generalize wq0.alloc (.cells #[] 96) = wq1 at hb1 hP_1 hR_1 hB_1 NB7_1 ⊢
      rw [← hG1] at hlt1
      clear hG1 hb1
      refine wpAnyH_ready (rs := [3, 4]) (by kernel_rfl) (by simp) ?_
      refine AllReadyH.cons nat3 (fun K hK => ?_) (AllReadyH.cons nat4 (fun K hK => ?_) AllReadyH.nil)
      · obtain ⟨v2, wq2, hr2, hb2, ho2, hl2⟩ := run_copyF wq1 G1 NB7_1 a0 c.n0 p0 c.r0 ((HS0.out.below hB_1).mono hB_1.size) (by omega)
        have hof2 := ho2.base (show w.heap.size + 2 ≤ G1 from hlt1)
        obtain ⟨xa2, xn2, xp2, rfl⟩ := ho2.shapeN
        refine step_append_run (P := Try.prog) rfl (.tmp 7) (.tmp 9) 28 28 rfl _ _ (by rfl) (by rfl) (hr2 _) ?_
        have hP_2 := hP_1.next hb2
        have hR_2 := hR_1.next hb2
        have hB_2 := hB_1.trans (hb2.mono hB_1.size)
        have U0_2 := hof2
        refine hK.out _ _ hP_2 (fun hSz => ?_)
        clear hK K hSz NB7_1 hB_1 hP_1 hR_1
        clear hr2 hb2 ho2 hof2 hl2
        refine wpAnyH_ready (rs := [4]) (by kernel_rfl) (by simp) ?_
        refine AllReadyH.cons nat4 (fun K hK => ?_) AllReadyH.nil
        go_simp
        have hlt3 : w.heap.size + 1 < wq2.heap.size := hR_2.lt
        have hb3 := below_one wq2 (.cells #[] 96)
        have hP_3 := hP_2.next hb3
        have hR_3 := hR_2.next hb3
        have hB_3 := hB_2.trans (hb3.mono hB_2.size)
        have U0_3 := U0_2.next hb3
        have NB11_3 := BoxIs.new wq2 #[] 96 rfl
        refine hK.out _ _ hP_3 (fun hSz => ?_)
        clear hK K hSz U0_2 hB_2 hP_2 hR_2
        obtain ⟨G3, hG3⟩ : ∃ G, G = wq2.heap.size := ⟨_, rfl⟩
        rw [← hG3] at NB11_3 ⊢
        generalize wq2.alloc (.cells #[] 96) = wq3 at hb3 hP_3 hR_3 hB_3 U0_3 NB11_3 ⊢
        rw [← hG3] at hlt3
        clear hG3 hb3
        refine wpAnyH_ready (rs := [7]) (by kernel_rfl) (by simp) ?_
        refine AllReadyH.cons nat7 (fun K hK => ?_) AllReadyH.nil
        obtain ⟨v4, wq4, hr4, hb4, ho4, hl4⟩ := run_copyF wq3 G3 NB11_3 a0 c.n0 p0 c.r0 ((HS0.out.below hB_3).mono hB_3.size) (by omega)
        have hof4 := ho4.base (show w.heap.size + 2 ≤ G3 from hlt3)
        obtain ⟨xa4, xn4, xp4, rfl⟩ := ho4.shapeN
        refine step_append_run (P := Try.prog) rfl (.tmp 11) (.tmp 13) 28 28 rfl _ _ (by rfl) (by rfl) (hr4 _) ?_
        have hP_4 := hP_3.next hb4
        have hR_4 := hR_3.next hb4
        have hB_4 := hB_3.trans (hb4.mono hB_3.size)
        have U0_4 := U0_3.next hb4
        have U1_4 := hof4
        have AP_4 := apart_fresh U0_3 c.r0 hl4
        refine hK.out _ _ hP_4 (fun hSz => ?_)
        clear hK K hSz NB11_3 U0_3 hB_3 hP_3 hR_3
        clear hr4 hb4 ho4 hof4 hl4
        refine wpAnyH_take (i := 8) (v := .agg #[.slice xa2 xn2 xp2, .slice xa4 xn4 xp4, .slice none 0 0]) nat8 (by kernel_rfl) (by kernel_rfl) (by kernel_rfl) (fun _ _ _ h => False.elim h) (Or.inl ⟨by rfl, ?_⟩) hP_4 ?_
        · intro wx hSw
          go_simp
        simp only [Act.put, List.setIfInBounds_toArray, List.set_cons_zero, List.set_cons_succ]
        refine wpAnyH_ready (rs := [9]) (by kernel_rfl) (by simp) ?_
        refine AllReadyH.cons nat9 (fun K hK => ?_) AllReadyH.nil
        have y0 := hR_4.cell 0
        have y1 := hR_4.cell 1
        have y2 := hR_4.cell 2
        simp only [List.getElem?_toArray, List.getElem?_cons_succ, List.getElem?_cons_zero] at y0 y1 y2
        have yf := hR_4.free
        go_simp
        clear yf y0 y1 y2
        have hP_5s0 := hP_4.set_other (p := ⟨w.heap.size + 1, 0, none⟩) (by simp) (.slice xa2 xn2 xp2)
        have hR_5s0 := hR_4.set 0 (.slice xa2 xn2 xp2)
        have hB_5s0 := hB_4.setCell (p := ⟨w.heap.size + 1, 0, none⟩) (Nat.le_succ _) (.slice xa2 xn2 xp2)
        have U0_5s0 := U0_4.setOther (p := ⟨w.heap.size + 1, 0, none⟩) (Nat.lt_succ_self _) (.slice xa2 xn2 xp2)
        have U1_5s0 := U1_4.setOther (p := ⟨w.heap.size + 1, 0, none⟩) (Nat.lt_succ_self _) (.slice xa2 xn2 xp2)
        have AP_5s0 := AP_4
        have hP_5s1 := hP_5s0.set_other (p := ⟨w.heap.size + 1, 1, none⟩) (by simp) (.slice xa4 xn4 xp4)
        have hR_5s1 := hR_5s0.set 1 (.slice xa4 xn4 xp4)
        have hB_5s1 := hB_5s0.setCell (p := ⟨w.heap.size + 1, 1, none⟩) (Nat.le_succ _) (.slice xa4 xn4 xp4)
        have U0_5s1 := U0_5s0.setOther (p := ⟨w.heap.size + 1, 1, none⟩) (Nat.lt_succ_self _) (.slice xa4 xn4 xp4)
        have U1_5s1 := U1_5s0.setOther (p := ⟨w.heap.size + 1, 1, none⟩) (Nat.lt_succ_self _) (.slice xa4 xn4 xp4)
        have AP_5s1 := AP_5s0
        have hP_5s2 := hP_5s1.set_other (p := ⟨w.heap.size + 1, 2, none⟩) (by simp) (.slice none 0 0)
        have hR_5s2 := hR_5s1.set 2 (.slice none 0 0)
        have hB_5s2 := hB_5s1.setCell (p := ⟨w.heap.size + 1, 2, none⟩) (Nat.le_succ _) (.slice none 0 0)
        have U0_5s2 := U0_5s1.setOther (p := ⟨w.heap.size + 1, 2, none⟩) (Nat.lt_succ_self _) (.slice none 0 0)
        have U1_5s2 := U1_5s1.setOther (p := ⟨w.heap.size + 1, 2, none⟩) (Nat.lt_succ_self _) (.slice none 0 0)
        have AP_5s2 := AP_5s1
        have hP_5 := hP_5s2
        have hR_5 : BoxIs (((wq4.setCell ⟨(w.heap.size + 1), 0, none⟩ (.slice xa2 xn2 xp2)).setCell ⟨(w.heap.size + 1), 1, none⟩ (.slice xa4 xn4 xp4)).setCell ⟨(w.heap.size + 1), 2, none⟩ (.slice none 0 0)) (w.heap.size + 1) #[.slice xa2 xn2 xp2, .slice xa4 xn4 xp4, .slice none 0 0] 31 := hR_5s2
        have hB_5 := hB_5s2
        have U0_5 := U0_5s2
        have U1_5 := U1_5s2
        have AP_5 := AP_5s2
        refine hK.out _ _ hP_5 (fun hSz => ?_)
        clear hK K hSz AP_4 U0_4 U1_4 hB_4 hP_4 hR_4 hP_5s0 hP_5s1 hP_5s2 hR_5s0 hR_5s1 hR_5s2 hB_5s0 hB_5s1 hB_5s2 U0_5s0 U0_5s1 U0_5s2 U1_5s0 U1_5s1 U1_5s2 AP_5s0 AP_5s1 AP_5s2
        generalize ((wq4.setCell ⟨(w.heap.size + 1), 0, none⟩ (.slice xa2 xn2 xp2)).setCell ⟨(w.heap.size + 1), 1, none⟩ (.slice xa4 xn4 xp4)).setCell ⟨(w.heap.size + 1), 2, none⟩ (.slice none 0 0) = wq5 at hP_5 hR_5 hB_5 U0_5 U1_5 AP_5 ⊢
        refine wpAnyH_done (by kernel_rfl) ?_ _
        refine NoPanic.normal ?_
        have z0 := hR_5.cell 0
        have z1 := hR_5.cell 1
        have z2 := hR_5.cell 2
        simp only [List.getElem?_toArray, List.getElem?_cons_succ, List.getElem?_cons_zero] at z0 z1 z2
        have HM := ((show DiskMade _ (w.heap.size + 2) _ _ _ _ from ⟨_, _, _, rfl, U0_5, U1_5, OwnDOp.nil _ _, AP_5⟩).base (B' := w.heap.size) (by omega)).hid
        have HL := hide hB_5
        clear hP_5 hR_5 hB_5 U0_5 U1_5 AP_5
        go_wp2
        exact bodyPost_ret (v := .agg #[.slice xa2 xn2 xp2, .slice xa4 xn4 xp4, .slice none 0 0]) (by simp [results, Try.results23, go_sem, z0, z1, z2]) rfl ⟨⟨_, rfl, by rw [HV.out]; exact HM.out⟩, HL.out⟩
      · go_simp
        have hlt6 : w.heap.size + 1 < wq1.heap.size := hR_1.lt
        have hb6 := below_one wq1 (.cells #[] 96)
        have hP_6 := hP_1.next hb6
        have hR_6 := hR_1.next hb6
        have hB_6 := hB_1.trans (hb6.mono hB_1.size)
        have NB7_6 := NB7_1.next hb6
        have NB11_6 := BoxIs.new wq1 #[] 96 rfl
        refine hK.out _ _ hP_6 (fun hSz => ?_)
        clear hK K hSz NB7_1 hB_1 hP_1 hR_1
        obtain ⟨G6, hG6⟩ : ∃ G, G = wq1.heap.size := ⟨_, rfl⟩
        rw [← hG6] at NB11_6 ⊢
        generalize wq1.alloc (.cells #[] 96) = wq6 at hb6 hP_6 hR_6 hB_6 NB7_6 NB11_6 ⊢
        rw [← hG6] at hlt6
        clear hG6 hb6
        refine wpAnyH_ready (rs := [3]) (by kernel_rfl) (by simp) ?_
        refine AllReadyH.cons nat3 (fun K hK => ?_) AllReadyH.nil
        obtain ⟨v7, wq7, hr7, hb7, ho7, hl7⟩ := run_copyF wq6 G1 NB7_6 a0 c.n0 p0 c.r0 ((HS0.out.below hB_6).mono hB_6.size) (by omega)
        have hof7 := ho7.base (show w.heap.size + 2 ≤ G1 from hlt1)
        obtain ⟨xa7, xn7, xp7, rfl⟩ := ho7.shapeN
        refine step_append_run (P := Try.prog) rfl (.tmp 7) (.tmp 9) 28 28 rfl _ _ (by rfl) (by rfl) (hr7 _) ?_
        have hP_7 := hP_6.next hb7
        have hR_7 := hR_6.next hb7
        have hB_7 := hB_6.trans (hb7.mono hB_6.size)
        have NB11_7 := NB11_6.next hb7
        have U0_7 := hof7
        refine hK.out _ _ hP_7 (fun hSz => ?_)
        clear hK K hSz NB11_6 NB7_6 hB_6 hP_6 hR_6
        clear hr7 hb7 ho7 hof7 hl7
        refine wpAnyH_ready (rs := [7]) (by kernel_rfl) (by simp) ?_
        refine AllReadyH.cons nat7 (fun K hK => ?_) AllReadyH.nil
        obtain ⟨v8, wq8, hr8, hb8, ho8, hl8⟩ := run_copyF wq7 G6 NB11_7 a0 c.n0 p0 c.r0 ((HS0.out.below hB_7).mono hB_7.size) (by omega)
        have hof8 := ho8.base (show w.heap.size + 2 ≤ G6 from hlt6)
        obtain ⟨xa8, xn8, xp8, rfl⟩ := ho8.shapeN
        refine step_append_run (P := Try.prog) rfl (.tmp 11) (.tmp 13) 28 28 rfl _ _ (by rfl) (by rfl) (hr8 _) ?_
        have hP_8 := hP_7.next hb8
        have hR_8 := hR_7.next hb8
        have hB_8 := hB_7.trans (hb8.mono hB_7.size)
        have U0_8 := U0_7.next hb8
        have U1_8 := hof8
        have AP_8 := apart_fresh U0_7 c.r0 hl8
        refine hK.out _ _ hP_8 (fun hSz => ?_)
        clear hK K hSz NB11_7 U0_7 hB_7 hP_7 hR_7
        clear hr8 hb8 ho8 hof8 hl8
        refine wpAnyH_take (i := 8) (v := .agg #[.slice xa7 xn7 xp7, .slice xa8 xn8 xp8, .slice none 0 0]) nat8 (by kernel_rfl) (by kernel_rfl) (by kernel_rfl) (fun _ _ _ h => False.elim h) (Or.inl ⟨by rfl, ?_⟩) hP_8 ?_
        · intro wx hSw
          go_simp
        simp only [Act.put, List.setIfInBounds_toArray, List.set_cons_zero, List.set_cons_succ]
        refine wpAnyH_ready (rs := [9]) (by kernel_rfl) (by simp) ?_
        refine AllReadyH.cons nat9 (fun K hK => ?_) AllReadyH.nil
        have y0 := hR_8.cell 0
        have y1 := hR_8.cell 1
        have y2 := hR_8.cell 2
        simp only [List.getElem?_toArray, List.getElem?_cons_succ, List.getElem?_cons_zero] at y0 y1 y2
        have yf := hR_8.free
        go_simp
        clear yf y0 y1 y2
        have hP_9s0 := hP_8.set_other (p := ⟨w.heap.size + 1, 0, none⟩) (by simp) (.slice xa7 xn7 xp7)
        have hR_9s0 := hR_8.set 0 (.slice xa7 xn7 xp7)
        have hB_9s0 := hB_8.setCell (p := ⟨w.heap.size + 1, 0, none⟩) (Nat.le_succ _) (.slice xa7 xn7 xp7)
        have U0_9s0 := U0_8.setOther (p := ⟨w.heap.size + 1, 0, none⟩) (Nat.lt_succ_self _) (.slice xa7 xn7 xp7)
        have U1_9s0 := U1_8.setOther (p := ⟨w.heap.size + 1, 0, none⟩) (Nat.lt_succ_self _) (.slice xa7 xn7 xp7)
        have AP_9s0 := AP_8
        have hP_9s1 := hP_9s0.set_other (p := ⟨w.heap.size + 1, 1, none⟩) (by simp) (.slice xa8 xn8 xp8)
        have hR_9s1 := hR_9s0.set 1 (.slice xa8 xn8 xp8)
        have hB_9s1 := hB_9s0.setCell (p := ⟨w.heap.size + 1, 1, none⟩) (Nat.le_succ _) (.slice xa8 xn8 xp8)
        have U0_9s1 := U0_9s0.setOther (p := ⟨w.heap.size + 1, 1, none⟩) (Nat.lt_succ_self _) (.slice xa8 xn8 xp8)
        have U1_9s1 := U1_9s0.setOther (p := ⟨w.heap.size + 1, 1, none⟩) (Nat.lt_succ_self _) (.slice xa8 xn8 xp8)
        have AP_9s1 := AP_9s0
        have hP_9s2 := hP_9s1.set_other (p := ⟨w.heap.size + 1, 2, none⟩) (by simp) (.slice none 0 0)
        have hR_9s2 := hR_9s1.set 2 (.slice none 0 0)
        have hB_9s2 := hB_9s1.setCell (p := ⟨w.heap.size + 1, 2, none⟩) (Nat.le_succ _) (.slice none 0 0)
        have U0_9s2 := U0_9s1.setOther (p := ⟨w.heap.size + 1, 2, none⟩) (Nat.lt_succ_self _) (.slice none 0 0)
        have U1_9s2 := U1_9s1.setOther (p := ⟨w.heap.size + 1, 2, none⟩) (Nat.lt_succ_self _) (.slice none 0 0)
        have AP_9s2 := AP_9s1
        have hP_9 := hP_9s2
        have hR_9 : BoxIs (((wq8.setCell ⟨(w.heap.size + 1), 0, none⟩ (.slice xa7 xn7 xp7)).setCell ⟨(w.heap.size + 1), 1, none⟩ (.slice xa8 xn8 xp8)).setCell ⟨(w.heap.size + 1), 2, none⟩ (.slice none 0 0)) (w.heap.size + 1) #[.slice xa7 xn7 xp7, .slice xa8 xn8 xp8, .slice none 0 0] 31 := hR_9s2
        have hB_9 := hB_9s2
        have U0_9 := U0_9s2
        have U1_9 := U1_9s2
        have AP_9 := AP_9s2
        refine hK.out _ _ hP_9 (fun hSz => ?_)
        clear hK K hSz AP_8 U0_8 U1_8 hB_8 hP_8 hR_8 hP_9s0 hP_9s1 hP_9s2 hR_9s0 hR_9s1 hR_9s2 hB_9s0 hB_9s1 hB_9s2 U0_9s0 U0_9s1 U0_9s2 U1_9s0 U1_9s1 U1_9s2 AP_9s0 AP_9s1 AP_9s2
        generalize ((wq8.setCell ⟨(w.heap.size + 1), 0, none⟩ (.slice xa7 xn7 xp7)).setCell ⟨(w.heap.size + 1), 1, none⟩ (.slice xa8 xn8 xp8)).setCell ⟨(w.heap.size + 1), 2, none⟩ (.slice none 0 0) = wq9 at hP_9 hR_9 hB_9 U0_9 U1_9 AP_9 ⊢
        refine wpAnyH_done (by kernel_rfl) ?_ _
        refine NoPanic.normal ?_
        have z0 := hR_9.cell 0
        have z1 := hR_9.cell 1
        have z2 := hR_9.cell 2
        simp only [List.getElem?_toArray, List.getElem?_cons_succ, List.getElem?_cons_zero] at z0 z1 z2
        have HM := ((show DiskMade _ (w.heap.size + 2) _ _ _ _ from ⟨_, _, _, rfl, U0_9, U1_9, OwnDOp.nil _ _, AP_9⟩).base (B' := w.heap.size) (by omega)).hid
        have HL := hide hB_9
        clear hP_9 hR_9 hB_9 U0_9 U1_9 AP_9
        go_wp2
        exact bodyPost_ret (v := .agg #[.slice xa7 xn7 xp7, .slice xa8 xn8 xp8, .slice none 0 0]) (by simp [results, Try.results23, go_sem, z0, z1, z2]) rfl ⟨⟨_, rfl, by rw [HV.out]; exact HM.out⟩, HL.out⟩
    · go_simp
      have hlt10 : w.heap.size + 1 < wq0.heap.size := hR_0.lt
      have hb10 := below_one wq0 (.cells #[] 96)
      have hP_10 := hP_0.next hb10
      have hR_10 := hR_0.next hb10
      have hB_10 := hB_0.trans (hb10.mono hB_0.size)
      have NB11_10 := BoxIs.new wq0 #[] 96 rfl
      refine hK.out _ _ hP_10 (fun hSz => ?_)
      clear hK K hSz hB_0 hP_0 hR_0
      obtain ⟨G10, hG10⟩ : ∃ G, G = wq0.heap.size := ⟨_, rfl⟩
      rw [← hG10] at NB11_10 ⊢
      generalize wq0.alloc (.cells #[] 96) = wq10 at hb10 hP_10 hR_10 hB_10 NB11_10 ⊢
      rw [← hG10] at hlt10
      clear hG10 hb10
      refine wpAnyH_ready (rs := [0]) (by kernel_rfl) (by simp) ?_
      refine AllReadyH.cons nat0 (fun K hK => ?_) AllReadyH.nil
      go_simp
      have hlt11 : w.heap.size + 1 < wq10.heap.size := hR_10.lt
      have hb11 := below_one wq10 (.cells #[] 96)
      have hP_11 := hP_10.next hb11
      have hR_11 := hR_10.next hb11
      have hB_11 := hB_10.trans (hb11.mono hB_10.size)
      have NB11_11 := NB11_10.next hb11
      have NB7_11 := BoxIs.new wq10 #[] 96 rfl
      refine hK.out _ _ hP_11 (fun hSz => ?_)
      clear hK K hSz NB11_10 hB_10 hP_10 hR_10
      obtain ⟨G11, hG11⟩ : ∃ G, G = wq10.heap.size := ⟨_, rfl⟩
      rw [← hG11] at NB7_11 ⊢
      generalize wq10.alloc (.cells #[] 96) = wq11 at hb11 hP_11 hR_11 hB_11 NB11_11 NB7_11 ⊢
      rw [← hG11] at hlt11
      clear hG11 hb11
      refine wpAnyH_ready (rs := [3]) (by kernel_rfl) (by simp) ?_
      refine AllReadyH.cons nat3 (fun K hK => ?_) AllReadyH.nil
      obtain ⟨v12, wq12, hr12, hb12, ho12, hl12⟩ := run_copyF wq11 G11 NB7_11 a0 c.n0 p0 c.r0 ((HS0.out.below hB_11).mono hB_11.size) (by omega)
      have hof12 := ho12.base (show w.heap.size + 2 ≤ G11 from hlt11)
      obtain ⟨xa12, xn12, xp12, rfl⟩ := ho12.shapeN
      refine step_append_run (P := Try.prog) rfl (.tmp 7) (.tmp 9) 28 28 rfl _ _ (by rfl) (by rfl) (hr12 _) ?_
      have hP_12 := hP_11.next hb12
      have hR_12 := hR_11.next hb12
      have hB_12 := hB_11.trans (hb12.mono hB_11.size)
      have NB11_12 := NB11_11.next hb12
      have U0_12 := hof12
      refine hK.out _ _ hP_12 (fun hSz => ?_)
      clear hK K hSz NB11_11 NB7_11 hB_11 hP_11 hR_11
      clear hr12 hb12 ho12 hof12 hl12
      refine wpAnyH_ready (rs := [7]) (by kernel_rfl) (by simp) ?_
      refine AllReadyH.cons nat7 (fun K hK => ?_) AllReadyH.nil
      obtain ⟨v13, wq13, hr13, hb13, ho13, hl13⟩ := run_copyF wq12 G10 NB11_12 a0 c.n0 p0 c.r0 ((HS0.out.below hB_12).mono hB_12.size) (by omega)
      have hof13 := ho13.base (show w.heap.size + 2 ≤ G10 from hlt10)
      obtain ⟨xa13, xn13, xp13, rfl⟩ := ho13.shapeN
      refine step_append_run (P := Try.prog) rfl (.tmp 11) (.tmp 13) 28 28 rfl _ _ (by rfl) (by rfl) (hr13 _) ?_
      have hP_13 := hP_12.next hb13
      have hR_13 := hR_12.next hb13
      have hB_13 := hB_12.trans (hb13.mono hB_12.size)
      have U0_13 := U0_12.next hb13
      have U1_13 := hof13
      have AP_13 := apart_fresh U0_12 c.r0 hl13
      refine hK.out _ _ hP_13 (fun hSz => ?_)
      clear hK K hSz NB11_12 U0_12 hB_12 hP_12 hR_12
      clear hr13 hb13 ho13 hof13 hl13
      refine wpAnyH_take (i := 8) (v := .agg #[.slice xa12 xn12 xp12, .slice xa13 xn13 xp13, .slice none 0 0]) nat8 (by kernel_rfl) (by kernel_rfl) (by kernel_rfl) (fun _ _ _ h => False.elim h) (Or.inl ⟨by rfl, ?_⟩) hP_13 ?_
      · intro wx hSw
        go_simp
      simp only [Act.put, List.setIfInBounds_toArray, List.set_cons_zero, List.set_cons_succ]
      refine wpAnyH_ready (rs := [9]) (by kernel_rfl) (by simp) ?_
      refine AllReadyH.cons nat9 (fun K hK => ?_) AllReadyH.nil
      have y0 := hR_13.cell 0
      have y1 := hR_13.cell 1
      have y2 := hR_13.cell 2
      simp only [List.getElem?_toArray, List.getElem?_cons_succ, List.getElem?_cons_zero] at y0 y1 y2
      have yf := hR_13.free
      go_simp
      clear yf y0 y1 y2
      have hP_14s0 := hP_13.set_other (p := ⟨w.heap.size + 1, 0, none⟩) (by simp) (.slice xa12 xn12 xp12)
      have hR_14s0 := hR_13.set 0 (.slice xa12 xn12 xp12)
      have hB_14s0 := hB_13.setCell (p := ⟨w.heap.size + 1, 0, none⟩) (Nat.le_succ _) (.slice xa12 xn12 xp12)
      have U0_14s0 := U0_13.setOther (p := ⟨w.heap.size + 1, 0, none⟩) (Nat.lt_succ_self _) (.slice xa12 xn12 xp12)
      have U1_14s0 := U1_13.setOther (p := ⟨w.heap.size + 1, 0, none⟩) (Nat.lt_succ_self _) (.slice xa12 xn12 xp12)
      have AP_14s0 := AP_13
      have hP_14s1 := hP_14s0.set_other (p := ⟨w.heap.size + 1, 1, none⟩) (by simp) (.slice xa13 xn13 xp13)
      have hR_14s1 := hR_14s0.set 1 (.slice xa13 xn13 xp13)
      have hB_14s1 := hB_14s0.setCell (p := ⟨w.heap.size + 1, 1, none⟩) (Nat.le_succ _) (.slice xa13 xn13 xp13)
      have U0_14s1 := U0_14s0.setOther (p := ⟨w.heap.size + 1, 1, none⟩) (Nat.lt_succ_self _) (.slice xa13 xn13 xp13)
      have U1_14s1 := U1_14s0.setOther (p := ⟨w.heap.size + 1, 1, none⟩) (Nat.lt_succ_self _) (.slice xa13 xn13 xp13)
      have AP_14s1 := AP_14s0
      have hP_14s2 := hP_14s1.set_other (p := ⟨w.heap.size + 1, 2, none⟩) (by simp) (.slice none 0 0)
      have hR_14s2 := hR_14s1.set 2 (.slice none 0 0)
      have hB_14s2 := hB_14s1.setCell (p := ⟨w.heap.size + 1, 2, none⟩) (Nat.le_succ _) (.slice none 0 0)
      have U0_14s2 := U0_14s1.setOther (p := ⟨w.heap.size + 1, 2, none⟩) (Nat.lt_succ_self _) (.slice none 0 0)
      have U1_14s2 := U1_14s1.setOther (p := ⟨w.heap.size + 1, 2, none⟩) (Nat.lt_succ_self _) (.slice none 0 0)
      have AP_14s2 := AP_14s1
      have hP_14 := hP_14s2
      have hR_14 : BoxIs (((wq13.setCell ⟨(w.heap.size + 1), 0, none⟩ (.slice xa12 xn12 xp12)).setCell ⟨(w.heap.size + 1), 1, none⟩ (.slice xa13 xn13 xp13)).setCell ⟨(w.heap.size + 1), 2, none⟩ (.slice none 0 0)) (w.heap.size + 1) #[.slice xa12 xn12 xp12, .slice xa13 xn13 xp13, .slice none 0 0] 31 := hR_14s2
      have hB_14 := hB_14s2
      have U0_14 := U0_14s2
      have U1_14 := U1_14s2
      have AP_14 := AP_14s2
      refine hK.out _ _ hP_14 (fun hSz => ?_)
      clear hK K hSz AP_13 U0_13 U1_13 hB_13 hP_13 hR_13 hP_14s0 hP_14s1 hP_14s2 hR_14s0 hR_14s1 hR_14s2 hB_14s0 hB_14s1 hB_14s2 U0_14s0 U0_14s1 U0_14s2 U1_14s0 U1_14s1 U1_14s2 AP_14s0 AP_14s1 AP_14s2
      generalize ((wq13.setCell ⟨(w.heap.size + 1), 0, none⟩ (.slice xa12 xn12 xp12)).setCell ⟨(w.heap.size + 1), 1, none⟩ (.slice xa13 xn13 xp13)).setCell ⟨(w.heap.size + 1), 2, none⟩ (.slice none 0 0) = wq14 at hP_14 hR_14 hB_14 U0_14 U1_14 AP_14 ⊢
      refine wpAnyH_done (by kernel_rfl) ?_ _
      refine NoPanic.normal ?_
      have z0 := hR_14.cell 0
      have z1 := hR_14.cell 1
      have z2 := hR_14.cell 2
      simp only [List.getElem?_toArray, List.getElem?_cons_succ, List.getElem?_cons_zero] at z0 z1 z2
      have HM := ((show DiskMade _ (w.heap.size + 2) _ _ _ _ from ⟨_, _, _, rfl, U0_14, U1_14, OwnDOp.nil _ _, AP_14⟩).base (B' := w.heap.size) (by omega)).hid
      have HL := hide hB_14
      clear hP_14 hR_14 hB_14 U0_14 U1_14 AP_14
      go_wp2
      exact bodyPost_ret (v := .agg #[.slice xa12 xn12 xp12, .slice xa13 xn13 xp13, .slice none 0 0]) (by simp [results, Try.results23, go_sem, z0, z1, z2]) rfl ⟨⟨_, rfl, by rw [HV.out]; exact HM.out⟩, HL.out⟩
end Go.Proofs.Ytejedpmkbkclhaa
