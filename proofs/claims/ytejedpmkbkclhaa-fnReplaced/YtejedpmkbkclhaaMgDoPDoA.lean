/- What Do answers: lists. (By gen_doa.py.) -/
import Derived.Test.YtejedpmkbkclhaaDSy
namespace Go.Proofs.Ytejedpmkbkclhaa
set_option maxRecDepth 100000
open Go.RowKit

/-- The code of Do; the files that are seen, those that are safe, and the ops. -/
def doK (c : DiskC) (o : DOp1) : Int := if dB c then (if formB o then (if doB (filesL c.r0 c.n0) o then (if c.n2 = 200 ∨ fitsB (doF (filesL c.r0 c.n0) o) = false then 4 else 0) else 3) else 2) else 1
def doL (c : DiskC) (o : DOp1) : List File1 := if doK c o = 1 then [] else if doK c o = 0 then doF (filesL c.r0 c.n0) o else filesL c.r0 c.n0
def doS (c : DiskC) (o : DOp1) : List File1 := if doK c o = 1 then [] else filesL c.r1 c.n1
def doQ (c : DiskC) (o : DOp1) : List DOp1 := if doK c o = 1 then [] else if doK c o = 0 then dOpsL c.r2 c.n2 ++ [o] else dOpsL c.r2 c.n2
theorem do_1 {c : DiskC} (h : dB c = false) (o : DOp1) : doK c o = 1 ∧ doL c o = [] ∧ doS c o = [] ∧ doQ c o = [] := by
  have : doK c o = 1 := by unfold doK; rw [h]; rfl
  exact ⟨this, by unfold doL; rw [if_pos this], by unfold doS; rw [if_pos this], by unfold doQ; rw [if_pos this]⟩
theorem do_keep {c : DiskC} {o : DOp1} {k : Int} (h : doK c o = k) (h0 : k ≠ 0) (h1 : k ≠ 1) : doK c o = k ∧ doL c o = filesL c.r0 c.n0 ∧ doS c o = filesL c.r1 c.n1 ∧ doQ c o = dOpsL c.r2 c.n2 :=
  ⟨h, by unfold doL; rw [h, if_neg h1, if_neg h0], by unfold doS; rw [h, if_neg h1], by unfold doQ; rw [h, if_neg h1, if_neg h0]⟩
theorem do_2 {c : DiskC} {o : DOp1} (h : dB c = true) (h2 : formB o = false) : doK c o = 2 ∧ doL c o = filesL c.r0 c.n0 ∧ doS c o = filesL c.r1 c.n1 ∧ doQ c o = dOpsL c.r2 c.n2 :=
  do_keep (by unfold doK; rw [h, h2]; rfl) (by decide) (by decide)
theorem do_3 {c : DiskC} {o : DOp1} (h : dB c = true) (h2 : formB o = true) (h3 : doB (filesL c.r0 c.n0) o = false) : doK c o = 3 ∧ doL c o = filesL c.r0 c.n0 ∧ doS c o = filesL c.r1 c.n1 ∧ doQ c o = dOpsL c.r2 c.n2 :=
  do_keep (by unfold doK; rw [h, h2, h3]; rfl) (by decide) (by decide)
theorem do_4 {c : DiskC} {o : DOp1} (h : dB c = true) (h2 : formB o = true) (h3 : doB (filesL c.r0 c.n0) o = true) (h4 : c.n2 = 200 ∨ fitsB (doF (filesL c.r0 c.n0) o) = false) : doK c o = 4 ∧ doL c o = filesL c.r0 c.n0 ∧ doS c o = filesL c.r1 c.n1 ∧ doQ c o = dOpsL c.r2 c.n2 :=
  do_keep (by unfold doK; rw [h, h2, h3]; simp only [if_true]; exact if_pos h4) (by decide) (by decide)
theorem do_0 {c : DiskC} {o : DOp1} (h : dB c = true) (h2 : formB o = true) (h3 : doB (filesL c.r0 c.n0) o = true) (h4 : ¬ c.n2 = 200) (h5 : fitsB (doF (filesL c.r0 c.n0) o) = true) : doK c o = 0 ∧ doL c o = doF (filesL c.r0 c.n0) o ∧ doS c o = filesL c.r1 c.n1 ∧ doQ c o = dOpsL c.r2 c.n2 ++ [o] := by
  have : doK c o = 0 := by unfold doK; simp [h, h2, h3, h4, h5]
  exact ⟨this, by unfold doL; rw [this]; rfl, by unfold doS; rw [this]; rfl, by unfold doQ; rw [this]; rfl⟩
theorem ret_tupI {a b : Value} {p q : Int} (h : a = b) (k : p = q) : Ending.returned (.tuple #[a, .int .i64 p]) = .returned (.tuple #[b, .int .i64 q]) := by rw [h, k]
theorem dop_file {w : World} {B C : Nat} {u v : Value} {l : List DOp1} {s : List File1} (h : OwnDOp w B u l) (k : OwnFile w C v s) {q : Nat} (hu : u.ownBlock = some q) (hv : v.ownBlock = some q) : False := by
  rcases h.2 with ⟨rfl, _⟩ | ⟨g, cap, cur, rfl, _, hh, _⟩
  · simp [Value.ownBlock] at hu
  rcases k.2 with ⟨rfl, _⟩ | ⟨g', cap', cur', rfl, _, hh', _⟩
  · simp [Value.ownBlock] at hv
  simp only [Value.ownBlock, Option.some.injEq] at hu hv
  subst hu
  subst hv
  rw [hh] at hh'
  simp only [Option.some.injEq, Obj.cells.injEq] at hh'
  exact absurd hh'.2.1 (by decide)
/-- Rows of files stay where one of ops grows. -/
theorem dop_grow {w w' : World} {B C : Nat} {u v : Value} {l : List DOp1} {s : List File1} (h : OwnDOp w B u l) (k : OwnFile w C v s) (hg : w.grownBy w' u.ownBlock) : OwnFile w' C v s := by
  refine ⟨k.1, ?_⟩
  rcases k.2 with hn | ⟨g, cap, cur, hv, hB, hh, r⟩
  · exact .inl hn
  · exact .inr ⟨g, cap, cur, hv, hB, (hg.block g (Array.getElem?_eq_some_iff.1 hh).1 (fun e => dop_file h k e.symm (by rw [hv]; rfl))).trans hh, r⟩
/-- What is made of four parts. -/
theorem made_eq {w : World} {B : Nat} {v : Value} {l l' s s' : List File1} {q q' : List DOp1} (h : DiskMade w B v l s q) (e1 : l' = l) (e2 : s' = s) (e3 : q' = q) : DiskMade w B v l' s' q' := by rw [e1, e2, e3]; exact h

end Go.Proofs.Ytejedpmkbkclhaa

/- Do of the program. (By gen_doa.py.) -/
namespace Go.Proofs.Ytejedpmkbkclhaa
set_option maxRecDepth 100000
open Go.RowKit Go.Deep Go.Maps

set_option linter.unusedVariables false in
set_option linter.unusedSimpArgs false in
set_option maxHeartbeats 8000000 in
theorem impl_Do (v : Value) (c : DiskC) (k : Int) (m s d : ByteArray) (w : World) (hf : c.Fit) (hm : m.size ≤ 2000000) (hs : s.size ≤ 1048576) (hd : d.size ≤ 1048576) (hv : DiskIs w v c) :
    Calls Try.prog 20 #[v, .agg #[.int .i64 k, .string m, .string s, .string d]] w fun e w' => (∃ u, e = .returned (.tuple #[u, .int .i64 (doK c ⟨k, m, s, d⟩)]) ∧ DiskMade w' w.heap.size u (doL c ⟨k, m, s, d⟩) (doS c ⟨k, m, s, d⟩) (doQ c ⟨k, m, s, d⟩)) ∧ Below w.heap.size w w' := by
  obtain ⟨a0, p0, a1, p1, a2, p2, rfl, hS0, hS1, hS2⟩ := hv
  have hB : Below w.heap.size w (((w.alloc (.cells #[.slice a0 c.n0 p0, .slice a1 c.n1 p1, .slice a2 c.n2 p2] 31)).alloc (.cells #[.int .i64 k, .string m, .string s, .string d] 40)).alloc (.cells #[.slice none 0 0, .slice none 0 0, .slice none 0 0] 31)) := (((Below.refl _ _).alloc (Nat.le_refl _) _).alloc (by simp) _).alloc (by simp <;> omega) _
  have hP := ((BoxIs.new w #[.slice a0 c.n0 p0, .slice a1 c.n1 p1, .slice a2 c.n2 p2] 31 rfl).next (below_one _ (.cells #[.int .i64 k, .string m, .string s, .string d] 40))).next (below_one _ (.cells #[.slice none 0 0, .slice none 0 0, .slice none 0 0] 31))
  have hO := (BoxIs.new (w.alloc (.cells #[.slice a0 c.n0 p0, .slice a1 c.n1 p1, .slice a2 c.n2 p2] 31)) #[.int .i64 k, .string m, .string s, .string d] 40 (g := w.heap.size + 1) (by simp)).next (below_one _ (.cells #[.slice none 0 0, .slice none 0 0, .slice none 0 0] 31))
  have hR := BoxIs.new ((w.alloc (.cells #[.slice a0 c.n0 p0, .slice a1 c.n1 p1, .slice a2 c.n2 p2] 31)).alloc (.cells #[.int .i64 k, .string m, .string s, .string d] 40)) #[.slice none 0 0, .slice none 0 0, .slice none 0 0] 31 (g := w.heap.size + 1 + 1) (by simp)
  have hD : DiskIs (((w.alloc (.cells #[.slice a0 c.n0 p0, .slice a1 c.n1 p1, .slice a2 c.n2 p2] 31)).alloc (.cells #[.int .i64 k, .string m, .string s, .string d] 40)).alloc (.cells #[.slice none 0 0, .slice none 0 0, .slice none 0 0] 31)) (.agg #[.slice a0 c.n0 p0, .slice a1 c.n1 p1, .slice a2 c.n2 p2]) c := DiskIs.at_old ⟨a0, p0, a1, p1, a2, p2, rfl, hS0, hS1, hS2⟩ hB
  have g0 := hP.cell 0
  have g1 := hP.cell 1
  have g2 := hP.cell 2
  simp only [List.getElem?_toArray, List.getElem?_cons_succ, List.getElem?_cons_zero] at g0 g1 g2
  have HB := hide hB
  have HP := hP.hid
  have HO := hO.hid
  have HR := hR.hid
  have HD := hD.hid
  obtain ⟨⟨hn0, hn1, hn2⟩, hz0, hz1, hz2⟩ := id hf
  have HZ0 := hide hz0
  have HZ1 := hide hz1
  have HZ2 := hide hz2
  clear hS0 hS1 hS2 hB hP hO hR hD hz0 hz1 hz2
  go_enter Try.func20, Try.ntmps20
  go_wp2_with fail
  clear g0 g1 g2
  generalize ((w.alloc (.cells #[.slice a0 c.n0 p0, .slice a1 c.n1 p1, .slice a2 c.n2 p2] 31)).alloc (.cells #[.int .i64 k, .string m, .string s, .string d] 40)).alloc (.cells #[.slice none 0 0, .slice none 0 0, .slice none 0 0] 31) = W at HB HP HO HR HD ⊢
  have hFW := HR.out.lt
  refine (impl_seenOn _ c W hf HD.out).mono ?_
  rintro e w1 ⟨⟨p, rfl, hp⟩, hb1⟩
  have HB1 := hide (HB.out.trans (hb1.mono HB.out.size))
  have HP1 := (HP.out.next hb1).hid
  have HO1 := (HO.out.next hb1).hid
  have HR1 := (HR.out.next hb1).hid
  have HD1 := (HD.out.next hb1).hid
  have hW1 := hb1.size
  have HBw := HB
  have HPw := HP
  have HOw := HO
  have HRw := HR
  have HDw := HD
  have HBW1 := hide hb1
  clear hb1 HB HP HO HR HD
  cases hd0 : dB c with
  | false =>
    obtain ⟨q1, q2, q3, q4⟩ := do_1 hd0 ⟨k, m, s, d⟩
    have HQ1 := hide q1
    have HQ2 := hide q2
    have HQ3 := hide q3
    have HQ4 := hide q4
    have HL := hide (below_put3 (F := w.heap.size + 1 + 1) HB1.out (by omega) (.slice none 0 0) (.slice none 0 0) (.slice none 0 0))
    have r0 := HR1.out.cell 0
    have r1 := HR1.out.cell 1
    have r2 := HR1.out.cell 2
    have rf := HR1.out.free
    simp only [List.getElem?_toArray, List.getElem?_cons_succ, List.getElem?_cons_zero] at r0 r1 r2
    clear hd0 hp q1 q2 q3 q4 HB1 HR1 HP1 HO1 HD1
    go_wp2
    refine bodyPost_ret (v := .tuple #[.agg #[.slice none 0 0, .slice none 0 0, .slice none 0 0], .int .i64 1]) (by simp [results, Try.results20, go_sem, r0, r1, r2]) rfl ⟨⟨_, ret_tupI rfl HQ1.out.symm, made_eq (made_nil _ _) HQ2.out HQ3.out HQ4.out⟩, HL.out⟩
  | true =>
    have HDD := hide hd0
    obtain ⟨hl0, hl1, h200⟩ := dB_parts hd0
    obtain ⟨hri0, hnm0, h60, hsz0⟩ := filesB_ris hl0
    obtain ⟨_, _, h61, _⟩ := filesB_ris hl1
    obtain ⟨f, b, V, rfl, hF, hRo, hBf, hBb⟩ := hp hd0
    have HF := hF.hid
    have HRo := hRo.hid
    have HSZ := hide hsz0
    have HRI := hide hri0
    have HNM := hide (fun x (hx : x ∈ filesL c.r0 c.n0) => (by obtain ⟨i, hi, rfl⟩ := List.mem_map.1 hx; exact hnm0 i (List.mem_range.1 hi) : nameB x.n = true))
    have o0 := HO1.out.cell 0
    have o1 := HO1.out.cell 1
    have o2 := HO1.out.cell 2
    have o3 := HO1.out.cell 3
    simp only [List.getElem?_toArray, List.getElem?_cons_succ, List.getElem?_cons_zero] at o0 o1 o2 o3
    clear hd0 hp hl0 hl1 hri0 hnm0 hsz0 hF hRo
    go_wp2_with fail
    clear o0 o1 o2 o3
    refine (impl_changeOf k m s d w1).mono ?_
    rintro e w2 ⟨⟨cv, rfl, hcv⟩, hb2⟩
    have HB2 := hide (HB1.out.trans (hb2.mono HB1.out.size))
    have HP2 := (HP1.out.next hb2).hid
    have HO2 := (HO1.out.next hb2).hid
    have HR2 := (HR1.out.next hb2).hid
    have HD2 := (HD1.out.next hb2).hid
    have HF2 := (HF.out.next hb2).hid
    have HRo2 := (HRo.out.next hb2).hid
    have hW2 := hb2.size
    have HCV := hide hcv
    have HBW2 := hide (HBW1.out.trans (hb2.mono hW1))
    clear hb2 hcv HBW1 HB1 HP1 HO1 HR1 HD1 HF HRo
    cases hfo : formB ⟨k, m, s, d⟩ with
    | false =>
      obtain ⟨q1, q2, q3, q4⟩ := do_2 HDD.out hfo
      have HQ1 := hide q1
      have HQ2 := hide q2
      have HQ3 := hide q3
      have HQ4 := hide q4
      have p0' := HP2.out.cell 0
      have p1' := HP2.out.cell 1
      have p2' := HP2.out.cell 2
      simp only [List.getElem?_toArray, List.getElem?_cons_succ, List.getElem?_cons_zero] at p0' p1' p2'
      clear q1 q2 q3 q4 hfo HF2 HRo2
      go_wp2_with fail
      clear p0' p1' p2'
      refine (impl_copyDisk (.agg #[.slice a0 c.n0 p0, .slice a1 c.n1 p1, .slice a2 c.n2 p2]) c w2 (by omega) (by omega) (by omega) (fun i hi => by have := HZ0.out i hi; omega) (fun i hi => by have := HZ1.out i hi; omega) (fun i hi => by have := HZ2.out i hi; omega) HD2.out).mono ?_
      rintro e w8 ⟨⟨u8, rfl, ho8⟩, hb8⟩
      have hR8 := HR2.out.next hb8
      obtain ⟨x0, x1, x2, rfl, m0, m1, m2, m3⟩ := ho8
      obtain ⟨x0a, x0n, x0p, rfl⟩ := m0.shapeN
      obtain ⟨x1a, x1n, x1p, rfl⟩ := m1.shapeN
      obtain ⟨x2a, x2n, x2p, rfl⟩ := m2.shapeN
      have hMd : DiskMade w8 w2.heap.size (.agg #[.slice x0a x0n x0p, .slice x1a x1n x1p, .slice x2a x2n x2p]) (filesL c.r0 c.n0) (filesL c.r1 c.n1) (dOpsL c.r2 c.n2) := ⟨_, _, _, rfl, m0, m1, m2, m3⟩
      have HM := (hMd.put3 (F := w.heap.size + 1 + 1) (by omega) (.slice x0a x0n x0p) (.slice x1a x1n x1p) (.slice x2a x2n x2p)).hid
      have HL := hide (below_put3 (F := w.heap.size + 1 + 1) (HB2.out.trans (hb8.mono HB2.out.size)) (by omega) (.slice x0a x0n x0p) (.slice x1a x1n x1p) (.slice x2a x2n x2p))
      have hbase : w.heap.size ≤ w2.heap.size := by omega
      have r0 := hR8.cell 0
      have r1 := hR8.cell 1
      have r2 := hR8.cell 2
      have rf := hR8.free
      simp only [List.getElem?_toArray, List.getElem?_cons_succ, List.getElem?_cons_zero] at r0 r1 r2
      clear hMd m0 m1 m2 m3 hR8 hb8 HB2 HP2 HO2 HR2 HD2
      go_wp2
      refine bodyPost_ret (v := .tuple #[.agg #[.slice x0a x0n x0p, .slice x1a x1n x1p, .slice x2a x2n x2p], .int .i64 2]) (by simp [results, Try.results20, go_sem, r0, r1, r2]) rfl ⟨⟨_, ret_tupI rfl HQ1.out.symm, made_eq (HM.out.base hbase) HQ2.out HQ3.out HQ4.out⟩, HL.out⟩
    | true =>
      have hcv2 := HCV.out hfo
      subst hcv2
      have HFO := hide hfo
      have hBw : W.heap.size ≤ w2.heap.size := by omega
      have HDW : Hid (DiskIs W (.agg #[.slice a0 c.n0 p0, .slice a1 c.n1 p1, .slice a2 c.n2 p2]) c) := HDw
      clear hfo
      go_wp2_with fail
      refine (impl_doC W.heap.size f b V (filesL c.r0 c.n0) ⟨k, m, s, d⟩ w2 HFO.out (by show d.size ≤ _; omega) (by have := HSZ.out; omega) (by rw [filesL_len]; omega) HF2.out HRo2.out hBw hBf hBb).mono ?_
      rintro e w3 ⟨rfl, ⟨V3, hF3, hR3⟩, hb3⟩
      have HF3 := hF3.hid
      have HRo3 := hR3.hid
      have hbW : Below W.heap.size W w3 := HBW2.out.trans hb3
      have HB3 := hide (HBw.out.trans (hbW.mono HBw.out.size))
      have HP3 := (HPw.out.next hbW).hid
      have HO3 := (HOw.out.next hbW).hid
      have HR3 := (HRw.out.next hbW).hid
      have HD3 := (HDw.out.next hbW).hid
      have hW3 := hb3.size
      clear hF3 hR3 hb3 hbW HF2 HRo2 HB2 HP2 HO2 HR2 HD2 HBW2 HDW
      cases hdo : doB (filesL c.r0 c.n0) ⟨k, m, s, d⟩ with
      | false =>
        obtain ⟨q1, q2, q3, q4⟩ := do_3 HDD.out HFO.out hdo
        have HQ1 := hide q1
        have HQ2 := hide q2
        have HQ3 := hide q3
        have HQ4 := hide q4
        have p0' := HP3.out.cell 0
        have p1' := HP3.out.cell 1
        have p2' := HP3.out.cell 2
        simp only [List.getElem?_toArray, List.getElem?_cons_succ, List.getElem?_cons_zero] at p0' p1' p2'
        clear q1 q2 q3 q4 hdo HF3 HRo3
        go_wp2_with fail
        clear p0' p1' p2'
        refine (impl_copyDisk (.agg #[.slice a0 c.n0 p0, .slice a1 c.n1 p1, .slice a2 c.n2 p2]) c w3 (by omega) (by omega) (by omega) (fun i hi => by have := HZ0.out i hi; omega) (fun i hi => by have := HZ1.out i hi; omega) (fun i hi => by have := HZ2.out i hi; omega) HD3.out).mono ?_
        rintro e w8 ⟨⟨u8, rfl, ho8⟩, hb8⟩
        have hR8 := HR3.out.next hb8
        obtain ⟨x0, x1, x2, rfl, m0, m1, m2, m3⟩ := ho8
        obtain ⟨x0a, x0n, x0p, rfl⟩ := m0.shapeN
        obtain ⟨x1a, x1n, x1p, rfl⟩ := m1.shapeN
        obtain ⟨x2a, x2n, x2p, rfl⟩ := m2.shapeN
        have hMd : DiskMade w8 w3.heap.size (.agg #[.slice x0a x0n x0p, .slice x1a x1n x1p, .slice x2a x2n x2p]) (filesL c.r0 c.n0) (filesL c.r1 c.n1) (dOpsL c.r2 c.n2) := ⟨_, _, _, rfl, m0, m1, m2, m3⟩
        have HM := (hMd.put3 (F := w.heap.size + 1 + 1) (by omega) (.slice x0a x0n x0p) (.slice x1a x1n x1p) (.slice x2a x2n x2p)).hid
        have HL := hide (below_put3 (F := w.heap.size + 1 + 1) (HB3.out.trans (hb8.mono HB3.out.size)) (by omega) (.slice x0a x0n x0p) (.slice x1a x1n x1p) (.slice x2a x2n x2p))
        have hbase : w.heap.size ≤ w3.heap.size := by omega
        have r0 := hR8.cell 0
        have r1 := hR8.cell 1
        have r2 := hR8.cell 2
        have rf := hR8.free
        simp only [List.getElem?_toArray, List.getElem?_cons_succ, List.getElem?_cons_zero] at r0 r1 r2
        clear hMd m0 m1 m2 m3 hR8 hb8 HB3 HP3 HO3 HR3 HD3
        go_wp2
        refine bodyPost_ret (v := .tuple #[.agg #[.slice x0a x0n x0p, .slice x1a x1n x1p, .slice x2a x2n x2p], .int .i64 3]) (by simp [results, Try.results20, go_sem, r0, r1, r2]) rfl ⟨⟨_, ret_tupI rfl HQ1.out.symm, made_eq (HM.out.base hbase) HQ2.out HQ3.out HQ4.out⟩, HL.out⟩
      | true =>
        have HDO := hide hdo
        clear hdo
        by_cases h2 : c.n2 = 200
        · have h2i : ((c.n2 : Int) == 200) = true := by rw [beq_iff_eq]; omega
          have H2 := hide h2
          clear h2
          obtain ⟨q1, q2, q3, q4⟩ := do_4 HDD.out HFO.out HDO.out (.inl H2.out)
          have HQ1 := hide q1
          have HQ2 := hide q2
          have HQ3 := hide q3
          have HQ4 := hide q4
          have p0' := HP3.out.cell 0
          have p1' := HP3.out.cell 1
          have p2' := HP3.out.cell 2
          simp only [List.getElem?_toArray, List.getElem?_cons_succ, List.getElem?_cons_zero] at p0' p1' p2'
          clear q1 q2 q3 q4 HF3 HRo3
          go_wp2_with fail
          clear p0' p1' p2'
          refine (impl_copyDisk (.agg #[.slice a0 c.n0 p0, .slice a1 c.n1 p1, .slice a2 c.n2 p2]) c w3 (by omega) (by omega) (by omega) (fun i hi => by have := HZ0.out i hi; omega) (fun i hi => by have := HZ1.out i hi; omega) (fun i hi => by have := HZ2.out i hi; omega) HD3.out).mono ?_
          rintro e w8 ⟨⟨u8, rfl, ho8⟩, hb8⟩
          have hR8 := HR3.out.next hb8
          obtain ⟨x0, x1, x2, rfl, m0, m1, m2, m3⟩ := ho8
          obtain ⟨x0a, x0n, x0p, rfl⟩ := m0.shapeN
          obtain ⟨x1a, x1n, x1p, rfl⟩ := m1.shapeN
          obtain ⟨x2a, x2n, x2p, rfl⟩ := m2.shapeN
          have hMd : DiskMade w8 w3.heap.size (.agg #[.slice x0a x0n x0p, .slice x1a x1n x1p, .slice x2a x2n x2p]) (filesL c.r0 c.n0) (filesL c.r1 c.n1) (dOpsL c.r2 c.n2) := ⟨_, _, _, rfl, m0, m1, m2, m3⟩
          have HM := (hMd.put3 (F := w.heap.size + 1 + 1) (by omega) (.slice x0a x0n x0p) (.slice x1a x1n x1p) (.slice x2a x2n x2p)).hid
          have HL := hide (below_put3 (F := w.heap.size + 1 + 1) (HB3.out.trans (hb8.mono HB3.out.size)) (by omega) (.slice x0a x0n x0p) (.slice x1a x1n x1p) (.slice x2a x2n x2p))
          have hbase : w.heap.size ≤ w3.heap.size := by omega
          have r0 := hR8.cell 0
          have r1 := hR8.cell 1
          have r2 := hR8.cell 2
          have rf := hR8.free
          simp only [List.getElem?_toArray, List.getElem?_cons_succ, List.getElem?_cons_zero] at r0 r1 r2
          clear hMd m0 m1 m2 m3 hR8 hb8 HB3 HP3 HO3 HR3 HD3
          go_wp2
          refine bodyPost_ret (v := .tuple #[.agg #[.slice x0a x0n x0p, .slice x1a x1n x1p, .slice x2a x2n x2p], .int .i64 4]) (by simp [results, Try.results20, go_sem, r0, r1, r2]) rfl ⟨⟨_, ret_tupI rfl HQ1.out.symm, made_eq (HM.out.base hbase) HQ2.out HQ3.out HQ4.out⟩, HL.out⟩
        · have h2i : ¬ (c.n2 : Int) = 200 := by omega
          have y2 := HP3.out.cell 2
          simp only [List.getElem?_toArray, List.getElem?_cons_succ, List.getElem?_cons_zero] at y2
          go_wp2_with fail
          clear y2
          refine (impl_fits f b V3 (doF (filesL c.r0 c.n0) ⟨k, m, s, d⟩) w3 HF3.out).mono ?_
          rintro e w4 ⟨rfl, rfl⟩
          cases hfi : fitsB (doF (filesL c.r0 c.n0) ⟨k, m, s, d⟩) with
          | false =>
            obtain ⟨q1, q2, q3, q4⟩ := do_4 HDD.out HFO.out HDO.out (.inr hfi)
            have HQ1 := hide q1
            have HQ2 := hide q2
            have HQ3 := hide q3
            have HQ4 := hide q4
            have p0' := HP3.out.cell 0
            have p1' := HP3.out.cell 1
            have p2' := HP3.out.cell 2
            simp only [List.getElem?_toArray, List.getElem?_cons_succ, List.getElem?_cons_zero] at p0' p1' p2'
            clear q1 q2 q3 q4 hfi HF3 HRo3
            go_wp2_with fail
            clear p0' p1' p2'
            refine (impl_copyDisk (.agg #[.slice a0 c.n0 p0, .slice a1 c.n1 p1, .slice a2 c.n2 p2]) c w4 (by omega) (by omega) (by omega) (fun i hi => by have := HZ0.out i hi; omega) (fun i hi => by have := HZ1.out i hi; omega) (fun i hi => by have := HZ2.out i hi; omega) HD3.out).mono ?_
            rintro e w8 ⟨⟨u8, rfl, ho8⟩, hb8⟩
            have hR8 := HR3.out.next hb8
            obtain ⟨x0, x1, x2, rfl, m0, m1, m2, m3⟩ := ho8
            obtain ⟨x0a, x0n, x0p, rfl⟩ := m0.shapeN
            obtain ⟨x1a, x1n, x1p, rfl⟩ := m1.shapeN
            obtain ⟨x2a, x2n, x2p, rfl⟩ := m2.shapeN
            have hMd : DiskMade w8 w4.heap.size (.agg #[.slice x0a x0n x0p, .slice x1a x1n x1p, .slice x2a x2n x2p]) (filesL c.r0 c.n0) (filesL c.r1 c.n1) (dOpsL c.r2 c.n2) := ⟨_, _, _, rfl, m0, m1, m2, m3⟩
            have HM := (hMd.put3 (F := w.heap.size + 1 + 1) (by omega) (.slice x0a x0n x0p) (.slice x1a x1n x1p) (.slice x2a x2n x2p)).hid
            have HL := hide (below_put3 (F := w.heap.size + 1 + 1) (HB3.out.trans (hb8.mono HB3.out.size)) (by omega) (.slice x0a x0n x0p) (.slice x1a x1n x1p) (.slice x2a x2n x2p))
            have hbase : w.heap.size ≤ w4.heap.size := by omega
            have r0 := hR8.cell 0
            have r1 := hR8.cell 1
            have r2 := hR8.cell 2
            have rf := hR8.free
            simp only [List.getElem?_toArray, List.getElem?_cons_succ, List.getElem?_cons_zero] at r0 r1 r2
            clear hMd m0 m1 m2 m3 hR8 hb8 HB3 HP3 HO3 HR3 HD3
            go_wp2
            refine bodyPost_ret (v := .tuple #[.agg #[.slice x0a x0n x0p, .slice x1a x1n x1p, .slice x2a x2n x2p], .int .i64 4]) (by simp [results, Try.results20, go_sem, r0, r1, r2]) rfl ⟨⟨_, ret_tupI rfl HQ1.out.symm, made_eq (HM.out.base hbase) HQ2.out HQ3.out HQ4.out⟩, HL.out⟩
          | true =>
            obtain ⟨q1, q2, q3, q4⟩ := do_0 HDD.out HFO.out HDO.out h2 hfi
            have HQ1 := hide q1
            have HQ2 := hide q2
            have HQ3 := hide q3
            have HQ4 := hide q4
            have hlen := (fits_sizes hfi).2
            have HNN := hide (fun x (hx : x ∈ doF (filesL c.r0 c.n0) ⟨k, m, s, d⟩) => nameB_size (names_do HFO.out HNM.out x hx))
            have hP := HP3.out
            have hO := HO3.out
            have hR := HR3.out
            have hB : Below w4.heap.size w4 w4 := Below.refl _ _
            have hRl := HR3.out.lt
            have hD1s := HD3.out
            obtain ⟨_, _, _, _, _, _, hvv, _, hs1, hs2⟩ := hD1s
            simp only [Value.agg.injEq, Array.mk.injEq, List.cons.injEq, Value.slice.injEq, and_true, true_and] at hvv
            obtain ⟨⟨rfl, rfl⟩, ⟨rfl, rfl⟩, rfl, rfl⟩ := hvv
            have HS1 := hs1.hid
            have HS2 := hs2.hid
            clear hfi q1 q2 q3 q4 hs1 hs2 HP3 HO3 HR3 HD3
            go_upto_region 11 with fail
            have hwW : w.heap.size ≤ w4.heap.size := by omega
            have hL := HB3.out
            have hOlow : w4.heap.size ≤ w.heap.size + 1 → False := fun hq => by omega
            refine wp_region_noPanic ?_
            have hb0 : Below w4.heap.size w4 w4.drew := (Below.refl _ _).drew
            have hP_0 := hP.next hb0
            have hO_0 := hO.next hb0
            have hR_0 := hR.next hb0
            have hL_0 := hL.trans (hb0.mono hL.size)
            have hB_0 := hB.trans (hb0.mono hB.size)
            refine wp_region_held_drew (S := fun x => BoxIs x w.heap.size #[.slice a0 c.n0 p0, .slice a1 c.n1 p1, .slice a2 c.n2 p2] 31 ∧ BoxIs x (w.heap.size + 1) #[.int .i64 k, .string m, .string s, .string d] 40) (by kernel_rfl) ⟨hP_0, hO_0⟩ (fun hSz => ?_)
            clear hSz hB hL hO hP hR
            generalize w4.drew = wq0 at hb0 hP_0 hO_0 hR_0 hL_0 hB_0 ⊢
            clear hb0
            refine wpAnyH_take (i := 0) (v := .pointer (some ⟨f, 0, none⟩)) nat0 (by kernel_rfl) (by kernel_rfl) (by kernel_rfl) (fun _ _ _ h => False.elim h) (Or.inl ⟨by rfl, ?_⟩) ⟨hP_0, hO_0⟩ ?_
            · intro wx hSw
              go_simp
            simp only [Act.put, List.setIfInBounds_toArray, List.set_cons_zero, List.set_cons_succ]
            refine wpAnyH_take (i := 2) (v := .pointer (some ⟨w.heap.size, 1, none⟩)) nat2 (by kernel_rfl) (by kernel_rfl) (by kernel_rfl) (fun _ _ _ h => False.elim h) (Or.inl ⟨by rfl, ?_⟩) ⟨hP_0, hO_0⟩ ?_
            · intro wx hSw
              go_simp
            simp only [Act.put, List.setIfInBounds_toArray, List.set_cons_zero, List.set_cons_succ]
            refine wpAnyH_take (i := 3) (v := .slice a1 c.n1 p1) nat3 (by kernel_rfl) (by kernel_rfl) (by kernel_rfl) (fun _ _ _ h => False.elim h) (Or.inl ⟨by rfl, ?_⟩) ⟨hP_0, hO_0⟩ ?_
            · intro wx hSw
              have y0 := hSw.1.cell 1
              simp only [List.getElem?_toArray, List.getElem?_cons_succ, List.getElem?_cons_zero] at y0
              go_simp
            simp only [Act.put, List.setIfInBounds_toArray, List.set_cons_zero, List.set_cons_succ]
            refine wpAnyH_take (i := 5) (v := .pointer (some ⟨w.heap.size, 2, none⟩)) nat5 (by kernel_rfl) (by kernel_rfl) (by kernel_rfl) (fun _ _ _ h => False.elim h) (Or.inl ⟨by rfl, ?_⟩) ⟨hP_0, hO_0⟩ ?_
            · intro wx hSw
              go_simp
            simp only [Act.put, List.setIfInBounds_toArray, List.set_cons_zero, List.set_cons_succ]
            refine wpAnyH_take (i := 6) (v := .slice a2 c.n2 p2) nat6 (by kernel_rfl) (by kernel_rfl) (by kernel_rfl) (fun _ _ _ h => False.elim h) (Or.inl ⟨by rfl, ?_⟩) ⟨hP_0, hO_0⟩ ?_
            · intro wx hSw
              have y0 := hSw.1.cell 2
              simp only [List.getElem?_toArray, List.getElem?_cons_succ, List.getElem?_cons_zero] at y0
              go_simp
            simp only [Act.put, List.setIfInBounds_toArray, List.set_cons_zero, List.set_cons_succ]
            refine wpAnyH_take (i := 8) (v := .agg #[.int .i64 k, .string m, .string s, .string d]) nat8 (by kernel_rfl) (by kernel_rfl) (by kernel_rfl) (fun _ _ _ h => False.elim h) (Or.inl ⟨by rfl, ?_⟩) ⟨hP_0, hO_0⟩ ?_
            · intro wx hSw
              have y0 := hSw.2.cell 0
              have y1 := hSw.2.cell 1
              have y2 := hSw.2.cell 2
              have y3 := hSw.2.cell 3
              simp only [List.getElem?_toArray, List.getElem?_cons_succ, List.getElem?_cons_zero] at y0 y1 y2 y3
              go_simp
            simp only [Act.put, List.setIfInBounds_toArray, List.set_cons_zero, List.set_cons_succ]
            refine wpAnyH_ready (rs := [1]) (by kernel_rfl) (by simp) ?_
            refine AllReadyH.cons nat1 (fun K hK => ?_) AllReadyH.nil
            go_simp
            go_at_call 55
            refine (impl_list W.heap.size f b V3 (doF (filesL c.r0 c.n0) ⟨k, m, s, d⟩) wq0 (by omega) (fun x hx => by have := HNN.out x hx; omega) (HF3.out.next hB_0) (HRo3.out.next hB_0)).mono ?_
            rintro e wq1 ⟨⟨u1, rfl, ho1⟩, hb1⟩
            obtain ⟨ua1, un1, up1, rfl⟩ := ho1.shapeN
            have hP_1 := hP_0.next hb1
            have hO_1 := hO_0.next hb1
            have hR_1 := hR_0.next hb1
            have hL_1 := hL_0.trans (hb1.mono hL_0.size)
            have hB_1 := hB_0.trans (hb1.mono hB_0.size)
            have U0_1 := ho1.base hB_0.size
            refine hK.out _ _ ⟨hP_1, hO_1⟩ (fun hSz => ?_)
            clear hK K hSz hB_0 hL_0 hO_0 hP_0 hR_0 hb1 ho1
            refine wpAnyH_ready (rs := [4]) (by kernel_rfl) (by simp) ?_
            refine AllReadyH.cons nat4 (fun K hK => ?_) AllReadyH.nil
            go_simp
            go_at_call 56
            refine (impl_copyFiles _ c.n1 _ c.r1 wq1 (by omega) (fun i hi => by have := HZ1.out i hi; omega) ((HS1.out.below hB_1).mono hB_1.size)).mono ?_
            rintro e wq2 ⟨⟨u2, rfl, ho2⟩, hb2⟩
            obtain ⟨ua2, un2, up2, rfl⟩ := ho2.shapeN
            have hP_2 := hP_1.next hb2
            have hO_2 := hO_1.next hb2
            have hR_2 := hR_1.next hb2
            have hL_2 := hL_1.trans (hb2.mono hL_1.size)
            have hB_2 := hB_1.trans (hb2.mono hB_1.size)
            have U0_2 := U0_1.next hb2
            have U1_2 := ho2.base hB_1.size
            have AP_2 := apart_later U0_1 ho2
            refine hK.out _ _ ⟨hP_2, hO_2⟩ (fun hSz => ?_)
            clear hK K hSz U0_1 hB_1 hL_1 hO_1 hP_1 hR_1 hb2 ho2
            refine wpAnyH_ready (rs := [7]) (by kernel_rfl) (by simp) ?_
            refine AllReadyH.cons nat7 (fun K hK => ?_) AllReadyH.nil
            go_simp
            go_at_call 57
            refine (impl_copyOps _ c.n2 _ c.r2 wq2 (by omega) (fun i hi => by have := HZ2.out i hi; omega) ((HS2.out.below hB_2).mono hB_2.size)).mono ?_
            rintro e wq3 ⟨⟨u3, rfl, ho3⟩, hb3⟩
            obtain ⟨ua3, un3, up3, rfl⟩ := ho3.shapeN
            have hP_3 := hP_2.next hb3
            have hO_3 := hO_2.next hb3
            have hR_3 := hR_2.next hb3
            have hL_3 := hL_2.trans (hb3.mono hL_2.size)
            have hB_3 := hB_2.trans (hb3.mono hB_2.size)
            have U0_3 := U0_2.next hb3
            have U1_3 := U1_2.next hb3
            have AP_3 := AP_2
            have U2_3 := ho3.base hB_2.size
            refine hK.out _ _ ⟨hP_3, hO_3⟩ (fun hSz => ?_)
            clear hK K hSz AP_2 U0_2 U1_2 hB_2 hL_2 hO_2 hP_2 hR_2 hb3 ho3
            refine wpAnyH_ready (rs := [9]) (by kernel_rfl) (by simp) ?_
            refine AllReadyH.cons nat9 (fun K hK => ?_) AllReadyH.nil
            go_simp
            go_at_call 58
            refine (impl_copyOp k m s d wq3 (by omega) (by omega) (by omega)).mono ?_
            rintro e wq4 ⟨rfl, hb4⟩
            have hP_4 := hP_3.next hb4
            have hO_4 := hO_3.next hb4
            have hR_4 := hR_3.next hb4
            have hL_4 := hL_3.trans (hb4.mono hL_3.size)
            have hB_4 := hB_3.trans (hb4.mono hB_3.size)
            have U0_4 := U0_3.next hb4
            have U1_4 := U1_3.next hb4
            have AP_4 := AP_3
            have U2_4 := U2_3.next hb4
            refine hK.out _ _ ⟨hP_4, hO_4⟩ (fun hSz => ?_)
            clear hK K hSz AP_3 U0_3 U1_3 U2_3 hB_3 hL_3 hO_3 hP_3 hR_3 hb4
            refine wpAnyH_ready (rs := [10]) (by kernel_rfl) (by simp) ?_
            refine AllReadyH.cons nat10 (fun K hK => ?_) AllReadyH.nil
            go_simp
            have hb5 := below_one wq4 (.cells #[.int .i64 k, .string m, .string s, .string d] 40)
            have hP_5 := hP_4.next hb5
            have hO_5 := hO_4.next hb5
            have hR_5 := hR_4.next hb5
            have hL_5 := hL_4.trans (hb5.mono hL_4.size)
            have hB_5 := hB_4.trans (hb5.mono hB_4.size)
            have U0_5 := U0_4.next hb5
            have U1_5 := U1_4.next hb5
            have AP_5 := AP_4
            have U2_5 := U2_4.next hb5
            have NB56_5 := BoxIs.new wq4 #[.int .i64 k, .string m, .string s, .string d] 40 rfl
            refine hK.out _ _ ⟨hP_5, hO_5⟩ (fun hSz => ?_)
            clear hK K hSz AP_4 U0_4 U1_4 U2_4 hB_4 hL_4 hO_4 hP_4 hR_4
            obtain ⟨G5, hG5⟩ : ∃ G, G = wq4.heap.size := ⟨_, rfl⟩
            rw [← hG5] at NB56_5 ⊢
            generalize wq4.alloc (.cells #[.int .i64 k, .string m, .string s, .string d] 40) = wq5 at hb5 hP_5 hO_5 hR_5 hL_5 hB_5 U0_5 U1_5 AP_5 U2_5 NB56_5 ⊢
            clear hG5 hb5
            refine wpAnyH_ready (rs := [11]) (by kernel_rfl) (by simp) ?_
            refine AllReadyH.cons nat11 (fun K hK => ?_) AllReadyH.nil
            refine step_append_dOp rfl (.tmp 53) (.tmp 56) 29 rfl Try.underlying29 w4.heap.size (.slice ua3 un3 up3) (dOpsL c.r2 c.n2) [⟨k, m, s, d⟩] (by rfl) U2_5 ⟨G5, 0, none⟩ 1 1 (by rfl) rfl (dOp_news (e := ⟨k, m, s, d⟩) NB56_5) hB_5.size (by rw [dOpsL_len]; omega) ?_
            intro v6 wq6 h1 h2
            have hbx6 := U2_5.grownBelow hB_5.size h2
            obtain ⟨va6, vn6, vp6, rfl⟩ := h1.shapeN
            have hP_6 := U2_5.grownBox hP_5 (by decide) h2
            have hR_6 := U2_5.grownBox hR_5 (by decide) h2
            have hL_6 := hL_5.trans (hbx6.mono hwW)
            have hB_6 := hB_5.trans hbx6
            have U0_6 := dop_grow U2_5 U0_5 h2
            have U1_6 := dop_grow U2_5 U1_5 h2
            have AP_6 := AP_5
            have U2_6 := h1
            have hO_6 := (show BoxIs _ _ _ _ from (h2.block _ hO_5.lt (fun e => hOlow ((World.ownsRow.lt U2_5 _ e.symm).1))).trans hO_5)
            refine hK.out _ _ ⟨hP_6, hO_6⟩ (fun hSz => ?_)
            clear hK K hSz AP_5 NB56_5 U0_5 U1_5 U2_5 hB_5 hL_5 hO_5 hP_5 hR_5
            clear h1 h2 hbx6
            refine wpAnyH_take (i := 12) (v := .agg #[.slice ua1 un1 up1, .slice ua2 un2 up2, .slice va6 vn6 vp6]) nat12 (by kernel_rfl) (by kernel_rfl) (by kernel_rfl) (fun _ _ _ h => False.elim h) (Or.inl ⟨by rfl, ?_⟩) ⟨hP_6, hO_6⟩ ?_
            · intro wx hSw
              go_simp
            simp only [Act.put, List.setIfInBounds_toArray, List.set_cons_zero, List.set_cons_succ]
            refine wpAnyH_ready (rs := [13]) (by kernel_rfl) (by simp) ?_
            refine AllReadyH.cons nat13 (fun K hK => ?_) AllReadyH.nil
            have y0 := hR_6.cell 0
            have y1 := hR_6.cell 1
            have y2 := hR_6.cell 2
            simp only [List.getElem?_toArray, List.getElem?_cons_succ, List.getElem?_cons_zero] at y0 y1 y2
            have yf := hR_6.free
            go_simp
            clear yf y0 y1 y2
            have hP_7s0 := hP_6.set_other (p := ⟨w.heap.size + 1 + 1, 0, none⟩) (by show w.heap.size + 1 + 1 ≠ w.heap.size; omega) (.slice ua1 un1 up1)
            have hO_7s0 := hO_6.set_other (p := ⟨w.heap.size + 1 + 1, 0, none⟩) (by show w.heap.size + 1 + 1 ≠ w.heap.size + 1; omega) (.slice ua1 un1 up1)
            have hR_7s0 := hR_6.set 0 (.slice ua1 un1 up1)
            have hL_7s0 := hL_6.setCell (p := ⟨w.heap.size + 1 + 1, 0, none⟩) (by show w.heap.size ≤ w.heap.size + 1 + 1; omega) (.slice ua1 un1 up1)
            have U0_7s0 := U0_6.setOther (p := ⟨w.heap.size + 1 + 1, 0, none⟩) hRl (.slice ua1 un1 up1)
            have U1_7s0 := U1_6.setOther (p := ⟨w.heap.size + 1 + 1, 0, none⟩) hRl (.slice ua1 un1 up1)
            have AP_7s0 := AP_6
            have U2_7s0 := U2_6.setOther (p := ⟨w.heap.size + 1 + 1, 0, none⟩) hRl (.slice ua1 un1 up1)
            have hP_7s1 := hP_7s0.set_other (p := ⟨w.heap.size + 1 + 1, 1, none⟩) (by show w.heap.size + 1 + 1 ≠ w.heap.size; omega) (.slice ua2 un2 up2)
            have hO_7s1 := hO_7s0.set_other (p := ⟨w.heap.size + 1 + 1, 1, none⟩) (by show w.heap.size + 1 + 1 ≠ w.heap.size + 1; omega) (.slice ua2 un2 up2)
            have hR_7s1 := hR_7s0.set 1 (.slice ua2 un2 up2)
            have hL_7s1 := hL_7s0.setCell (p := ⟨w.heap.size + 1 + 1, 1, none⟩) (by show w.heap.size ≤ w.heap.size + 1 + 1; omega) (.slice ua2 un2 up2)
            have U0_7s1 := U0_7s0.setOther (p := ⟨w.heap.size + 1 + 1, 1, none⟩) hRl (.slice ua2 un2 up2)
            have U1_7s1 := U1_7s0.setOther (p := ⟨w.heap.size + 1 + 1, 1, none⟩) hRl (.slice ua2 un2 up2)
            have AP_7s1 := AP_7s0
            have U2_7s1 := U2_7s0.setOther (p := ⟨w.heap.size + 1 + 1, 1, none⟩) hRl (.slice ua2 un2 up2)
            have hP_7s2 := hP_7s1.set_other (p := ⟨w.heap.size + 1 + 1, 2, none⟩) (by show w.heap.size + 1 + 1 ≠ w.heap.size; omega) (.slice va6 vn6 vp6)
            have hO_7s2 := hO_7s1.set_other (p := ⟨w.heap.size + 1 + 1, 2, none⟩) (by show w.heap.size + 1 + 1 ≠ w.heap.size + 1; omega) (.slice va6 vn6 vp6)
            have hR_7s2 := hR_7s1.set 2 (.slice va6 vn6 vp6)
            have hL_7s2 := hL_7s1.setCell (p := ⟨w.heap.size + 1 + 1, 2, none⟩) (by show w.heap.size ≤ w.heap.size + 1 + 1; omega) (.slice va6 vn6 vp6)
            have U0_7s2 := U0_7s1.setOther (p := ⟨w.heap.size + 1 + 1, 2, none⟩) hRl (.slice va6 vn6 vp6)
            have U1_7s2 := U1_7s1.setOther (p := ⟨w.heap.size + 1 + 1, 2, none⟩) hRl (.slice va6 vn6 vp6)
            have AP_7s2 := AP_7s1
            have U2_7s2 := U2_7s1.setOther (p := ⟨w.heap.size + 1 + 1, 2, none⟩) hRl (.slice va6 vn6 vp6)
            have hP_7 := hP_7s2
            have hO_7 := hO_7s2
            have hR_7 : BoxIs (((wq6.setCell ⟨(w.heap.size + 1 + 1), 0, none⟩ (.slice ua1 un1 up1)).setCell ⟨(w.heap.size + 1 + 1), 1, none⟩ (.slice ua2 un2 up2)).setCell ⟨(w.heap.size + 1 + 1), 2, none⟩ (.slice va6 vn6 vp6)) (w.heap.size + 1 + 1) #[.slice ua1 un1 up1, .slice ua2 un2 up2, .slice va6 vn6 vp6] 31 := hR_7s2
            have hL_7 := hL_7s2
            have U0_7 := U0_7s2
            have U1_7 := U1_7s2
            have AP_7 := AP_7s2
            have U2_7 := U2_7s2
            refine hK.out _ _ ⟨hP_7, hO_7⟩ (fun hSz => ?_)
            clear hK K hSz AP_6 U0_6 U1_6 U2_6 hB_6 hL_6 hO_6 hP_6 hR_6 hP_7s0 hP_7s1 hP_7s2 hO_7s0 hO_7s1 hO_7s2 hR_7s0 hR_7s1 hR_7s2 hL_7s0 hL_7s1 hL_7s2 U0_7s0 U0_7s1 U0_7s2 U1_7s0 U1_7s1 U1_7s2 AP_7s0 AP_7s1 AP_7s2 U2_7s0 U2_7s1 U2_7s2
            generalize ((wq6.setCell ⟨(w.heap.size + 1 + 1), 0, none⟩ (.slice ua1 un1 up1)).setCell ⟨(w.heap.size + 1 + 1), 1, none⟩ (.slice ua2 un2 up2)).setCell ⟨(w.heap.size + 1 + 1), 2, none⟩ (.slice va6 vn6 vp6) = wq7 at hP_7 hO_7 hR_7 hL_7 U0_7 U1_7 AP_7 U2_7 ⊢
            refine wpAnyH_take (i := 14) (v := .int .i64 0) nat14 (by kernel_rfl) (by kernel_rfl) (by kernel_rfl) (fun _ _ _ h => False.elim h) (Or.inl ⟨by rfl, ?_⟩) ⟨hP_7, hO_7⟩ ?_
            · intro wx hSw
              go_simp
            simp only [Act.put, List.setIfInBounds_toArray, List.set_cons_zero, List.set_cons_succ]
            refine wpAnyH_done (by kernel_rfl) ?_ _
            refine NoPanic.normal ?_
            have z0 := hR_7.cell 0
            have z1 := hR_7.cell 1
            have z2 := hR_7.cell 2
            simp only [List.getElem?_toArray, List.getElem?_cons_succ, List.getElem?_cons_zero] at z0 z1 z2
            have HM := (show DiskMade _ w4.heap.size _ _ _ _ from ⟨_, _, _, rfl, U0_7, U1_7, U2_7, .inr AP_7⟩).hid
            have HL := hide hL_7
            clear hR_7 U0_7 AP_7 hP_7 hL_7 U2_7 U1_7 hO_7
            go_wp2
            exact bodyPost_ret (v := .tuple #[.agg #[.slice ua1 un1 up1, .slice ua2 un2 up2, .slice va6 vn6 vp6], .int .i64 0]) (by simp [results, Try.results20, go_sem, z0, z1, z2]) rfl ⟨⟨_, ret_tupI rfl HQ1.out.symm, made_eq (HM.out.base hwW) HQ2.out HQ3.out HQ4.out⟩, HL.out⟩
end Go.Proofs.Ytejedpmkbkclhaa
