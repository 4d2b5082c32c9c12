/- DiskOk of the program; ReadFile of both. -/
import Derived.Test.YtejedpmkbkclhaaDskO
namespace Go.Proofs.Ytejedpmkbkclhaa
set_option maxRecDepth 100000
open Go.RowKit Go.Deep Go.Maps

set_option linter.unusedVariables false in
set_option linter.unusedSimpArgs false in
set_option maxHeartbeats 4000000 in
theorem impl_DiskOk (v : Value) (c : DiskC) (w : World) (hf : c.Fit) (hv : DiskIs w v c) :
    Calls Try.prog 15 #[v] w fun e w' => e = .returned (.bool (dB c)) ∧ Below w.heap.size w w' := by
  obtain ⟨a0, p0, a1, p1, a2, p2, rfl, hS0, hS1, hS2⟩ := hv
  have hb0 := below_one w (.cells #[.slice a0 c.n0 p0, .slice a1 c.n1 p1, .slice a2 c.n2 p2] 31)
  have hG := BoxIs.new w #[.slice a0 c.n0 p0, .slice a1 c.n1 p1, .slice a2 c.n2 p2] 31 rfl
  have hD : DiskIs (w.alloc (.cells #[.slice a0 c.n0 p0, .slice a1 c.n1 p1, .slice a2 c.n2 p2] 31)) (.agg #[.slice a0 c.n0 p0, .slice a1 c.n1 p1, .slice a2 c.n2 p2]) c := ⟨a0, p0, a1, p1, a2, p2, rfl, hS0.next hb0, hS1.next hb0, hS2.next hb0⟩
  have g0 := hG.cell 0
  have g1 := hG.cell 1
  have g2 := hG.cell 2
  simp only [List.getElem?_toArray, List.getElem?_cons_succ, List.getElem?_cons_zero] at g0 g1 g2
  have HB := hide hb0
  have HD := hD.hid
  clear hS0 hS1 hS2 hb0 hG hD
  go_enter Try.func15, Try.ntmps15
  go_wp2_with fail
  clear g0 g1 g2
  generalize w.alloc (.cells #[.slice a0 c.n0 p0, .slice a1 c.n1 p1, .slice a2 c.n2 p2] 31) = W at HB HD ⊢
  refine (impl_seenOn _ c W hf HD.out).mono ?_
  rintro e w1 ⟨⟨p, rfl, _⟩, hb1⟩
  have HB1 := hide (HB.out.trans (hb1.mono HB.out.size))
  clear hb1
  go_wp2
  go_ret
  exact ⟨rfl, HB1.out⟩

/-- What a file's name finds on a disk. -/
def rfV (c : DiskC) (s : ByteArray) : ByteArray := if dB c then (lkF (filesL c.r0 c.n0) s).getD ⟨#[]⟩ else ⟨#[]⟩
def rfB (c : DiskC) (s : ByteArray) : Bool := dB c && (lkF (filesL c.r0 c.n0) s).isSome
theorem rf_no {c : DiskC} (h : dB c = false) (s : ByteArray) : rfV c s = ⟨#[]⟩ ∧ rfB c s = false := by unfold rfV rfB; rw [h]; exact ⟨rfl, rfl⟩
theorem rf_yes {c : DiskC} (h : dB c = true) (s : ByteArray) : rfV c s = (lkF (filesL c.r0 c.n0) s).getD ⟨#[]⟩ ∧ rfB c s = (lkF (filesL c.r0 c.n0) s).isSome := by unfold rfV rfB; rw [h]; exact ⟨rfl, rfl⟩
theorem ret_two {a b : ByteArray} {p q : Bool} (h : a = b) (k : p = q) : Ending.returned (.tuple #[.string a, .bool p]) = .returned (.tuple #[.string b, .bool q]) := by rw [h, k]

set_option linter.unusedVariables false in
set_option linter.unusedSimpArgs false in
set_option maxHeartbeats 4000000 in
theorem impl_ReadFile (v : Value) (c : DiskC) (s : ByteArray) (w : World) (hs : s.size ≤ 1048576) (hf : c.Fit) (hv : DiskIs w v c) :
    Calls Try.prog 31 #[v, .string s] w fun e w' => e = .returned (.tuple #[.string (rfV c s), .bool (rfB c s)]) ∧ Below w.heap.size w w' := by
  obtain ⟨a0, p0, a1, p1, a2, p2, rfl, hS0, hS1, hS2⟩ := hv
  have hb0 := below_one w (.cells #[.slice a0 c.n0 p0, .slice a1 c.n1 p1, .slice a2 c.n2 p2] 31)
  have hG := BoxIs.new w #[.slice a0 c.n0 p0, .slice a1 c.n1 p1, .slice a2 c.n2 p2] 31 rfl
  have hD : DiskIs (w.alloc (.cells #[.slice a0 c.n0 p0, .slice a1 c.n1 p1, .slice a2 c.n2 p2] 31)) (.agg #[.slice a0 c.n0 p0, .slice a1 c.n1 p1, .slice a2 c.n2 p2]) c := ⟨a0, p0, a1, p1, a2, p2, rfl, hS0.next hb0, hS1.next hb0, hS2.next hb0⟩
  have g0 := hG.cell 0
  have g1 := hG.cell 1
  have g2 := hG.cell 2
  simp only [List.getElem?_toArray, List.getElem?_cons_succ, List.getElem?_cons_zero] at g0 g1 g2
  have HB := hide hb0
  have HD := hD.hid
  clear hS0 hS1 hS2 hb0 hG hD
  go_enter Try.func31, Try.ntmps31
  go_wp2_with fail
  clear g0 g1 g2
  generalize w.alloc (.cells #[.slice a0 c.n0 p0, .slice a1 c.n1 p1, .slice a2 c.n2 p2] 31) = W at HB HD ⊢
  refine (impl_seenOn _ c W hf HD.out).mono ?_
  rintro e w1 ⟨⟨p, rfl, hp⟩, hb1⟩
  have HB1 := hide (HB.out.trans (hb1.mono HB.out.size))
  clear hb1
  cases hd : dB c with
  | false =>
    obtain ⟨e1, e2⟩ := rf_no hd s
    have E1 := hide e1
    have E2 := hide e2
    clear hp hd e1 e2
    go_wp2
    go_ret2
    exact ⟨ret_two E1.out.symm E2.out.symm, HB1.out⟩
  | true =>
    obtain ⟨f, b, V, rfl, hF, hR, _, _⟩ := hp hd
    obtain ⟨e1, e2⟩ := rf_yes hd s
    have hnm : s.size ≤ maxLen := by unfold maxLen; omega
    obtain ⟨va, vc, hva⟩ := hF.valShape s
    have hlk := look2_own hF.mp hnm
    rw [hva] at hlk
    have c0 := hF.bx.cell 0
    simp only [List.getElem?_toArray, List.getElem?_cons_succ, List.getElem?_cons_zero] at c0
    generalize hold : (lkF (filesL c.r0 c.n0) s).getD ⟨#[]⟩ = old at e1 hva hlk
    generalize hsm : (lkF (filesL c.r0 c.n0) s).isSome = sm at e2 hlk
    have hOB : OwnB w1 W.heap.size 5 (.slice va old.size vc) old := by have := hR.val s; rwa [hva, hold] at this
    have hbG := below_one w1 (.cells #[.slice va old.size vc] 98)
    have hcv := run_text_own (P := Try.prog) (w1.alloc (.cells #[.slice va old.size vc] 98)) W.heap.size 57 9 5 (.slice va old.size vc) old (hOB.next hbG) Try.underlying57 Try.underlying5 Try.underlying9
    have E1 := hide e1
    have E2 := hide e2
    have HB2 := hide (HB1.out.trans (hbG.mono HB1.out.size))
    clear hp hd e1 e2 hold hsm hOB hbG hva hF hR hnm
    go_wp2
    go_ret2
    exact ⟨ret_two E1.out.symm E2.out.symm, HB2.out⟩

set_option linter.unusedVariables false in
set_option linter.unusedSimpArgs false in
set_option maxHeartbeats 4000000 in
theorem spec_ReadFile (v : Value) (c : DiskC) (s : ByteArray) (w : World) (hs : s.size ≤ 1048576) (hf : c.Fit) (hv : DiskIs w v c) :
    Calls Try.prog 30 #[v, .string s] w fun e w' => e = .returned (.tuple #[.string (rfV c s), .bool (rfB c s)]) ∧ Below w.heap.size w w' := by
  obtain ⟨a0, p0, a1, p1, a2, p2, rfl, hS0, hS1, hS2⟩ := hv
  have hb0 := below_one w (.cells #[.slice a0 c.n0 p0, .slice a1 c.n1 p1, .slice a2 c.n2 p2] 31)
  have hG := BoxIs.new w #[.slice a0 c.n0 p0, .slice a1 c.n1 p1, .slice a2 c.n2 p2] 31 rfl
  have hD : DiskIs (w.alloc (.cells #[.slice a0 c.n0 p0, .slice a1 c.n1 p1, .slice a2 c.n2 p2] 31)) (.agg #[.slice a0 c.n0 p0, .slice a1 c.n1 p1, .slice a2 c.n2 p2]) c := ⟨a0, p0, a1, p1, a2, p2, rfl, hS0.next hb0, hS1.next hb0, hS2.next hb0⟩
  have HS0 := (hS0.next hb0).hid
  have g0 := hG.cell 0
  have g1 := hG.cell 1
  have g2 := hG.cell 2
  simp only [List.getElem?_toArray, List.getElem?_cons_succ, List.getElem?_cons_zero] at g0 g1 g2
  have HB := hide hb0
  have HD := hD.hid
  have HG := hG.hid
  obtain ⟨⟨hn0, hn1, hn2⟩, hz0, hz1, hz2⟩ := id hf
  have HZ0 := hide hz0
  clear hS0 hS1 hS2 hb0 hG hD hz0 hz1 hz2
  go_enter Try.func30, Try.ntmps30
  go_wp2_with fail
  clear g0 g1 g2
  generalize w.alloc (.cells #[.slice a0 c.n0 p0, .slice a1 c.n1 p1, .slice a2 c.n2 p2] 31) = W at HB HD HG HS0 ⊢
  refine (spec_DiskOk _ c W hf HD.out).mono ?_
  rintro e w1 ⟨rfl, hb1⟩
  have HB1 := hide (HB.out.trans (hb1.mono HB.out.size))
  have HG1 := (HG.out.next hb1).hid
  have HS1 := (HS0.out.next hb1).hid
  clear hb1 HG HS0
  have g0 := HG1.out.cell 0
  simp only [List.getElem?_toArray, List.getElem?_cons_succ, List.getElem?_cons_zero] at g0
  cases hd : dB c with
  | false =>
    obtain ⟨e1, e2⟩ := rf_no hd s
    have E1 := hide e1
    have E2 := hide e2
    clear hd e1 e2
    go_wp2
    go_ret2
    exact ⟨ret_two E1.out.symm E2.out.symm, HB1.out⟩
  | true =>
    obtain ⟨e1, e2⟩ := rf_yes hd s
    have E1 := hide e1
    have E2 := hide e2
    clear hd e1 e2
    go_wp2_with fail
    clear g0
    refine (spec_l6At a0 c.n0 p0 c.r0 s w1 hn0 HS1.out).mono ?_
    rintro e w2 ⟨⟨i, rfl, hi⟩, hb2⟩
    have HB2 := hide (HB1.out.trans (hb2.mono HB1.out.size))
    have HG2 := (HG1.out.next hb2).hid
    have HS2 := (HS1.out.next hb2).hid
    have g0 := HG2.out.cell 0
    simp only [List.getElem?_toArray, List.getElem?_cons_succ, List.getElem?_cons_zero] at g0
    clear hb2
    rcases hi with ⟨rfl, hl⟩ | ⟨j, hj, rfl, hl⟩
    · have E3 : Hid (rfV c s = ⟨#[]⟩) := by show _ = _; rw [E1.out, hl]; rfl
      have E4 : Hid (rfB c s = false) := by show _ = _; rw [E2.out, hl]; rfl
      clear hl
      go_wp2
      go_ret2
      exact ⟨ret_two E3.out.symm E4.out.symm, HB2.out⟩
    · have E3 : Hid (rfV c s = c.r0.D j) := by show _ = _; rw [E1.out, hl]; rfl
      have E4 : Hid (rfB c s = true) := by show _ = _; rw [E2.out, hl]; rfl
      obtain ⟨b, off, rfl, hb, c0, c1⟩ := HS2.out.at hj
      have hji : (j : Int) < (c.n0 : Int) := by omega
      clear hl
      go_wp2
      go_ret2
      exact ⟨ret_two E3.out.symm E4.out.symm, HB2.out⟩

end Go.Proofs.Ytejedpmkbkclhaa
