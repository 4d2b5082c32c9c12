/- What Do answers: lists. (By gen_doa.py.) -/
import Derived.Test.YtejedpmkbkclhaaDSy
namespace Go.Proofs.Ytejedpmkbkclhaa
set_option maxRecDepth 100000
open Go.RowKit

/-- The code of Do; the files that are seen, those that are safe, and the ops. -/
def doK (c : DiskC) (o : DOp1) : Int := if dB c then (if formB o then (if doB (filesL c.r0 c.n0) o then (if c.n2 = 200 ∨ fitsB (doF (filesL c.r0 c.n0) o) = false then 4 else 0) else 3) else 2) else 1
def doL (c : DiskC) (o : DOp1) : List File1 := if doK c o = 1 then [] else if doK c o = 0 then doF (filesL c.r0 c.n0) o else filesL c.r0 c.n0
def doS (c : DiskC) (o : DOp1) : List File1 := if doK c o = 1 then [] else filesL c.r1 c.n1
def doQ (c : DiskC) (o : DOp1) : List DOp1 := if doK c o = 1 then [] else if doK c o = 0 then dOpsL c.r2 c.n2 ++ [o] else dOpsL c.r2 c.n2
theorem do_1 {c : DiskC} (h : dB c = false) (o : DOp1) : doK c o = 1 ∧ doL c o = [] ∧ doS c o = [] ∧ doQ c o = [] := by
  have : doK c o = 1 := by unfold doK; rw [h]; rfl
  exact ⟨this, by unfold doL; rw [if_pos this], by unfold doS; rw [if_pos this], by unfold doQ; rw [if_pos this]⟩
theorem do_keep {c : DiskC} {o : DOp1} {k : Int} (h : doK c o = k) (h0 : k ≠ 0) (h1 : k ≠ 1) : doK c o = k ∧ doL c o = filesL c.r0 c.n0 ∧ doS c o = filesL c.r1 c.n1 ∧ doQ c o = dOpsL c.r2 c.n2 :=
  ⟨h, by unfold doL; rw [h, if_neg h1, if_neg h0], by unfold doS; rw [h, if_neg h1], by unfold doQ; rw [h, if_neg h1, if_neg h0]⟩
theorem do_2 {c : DiskC} {o : DOp1} (h : dB c = true) (h2 : formB o = false) : doK c o = 2 ∧ doL c o = filesL c.r0 c.n0 ∧ doS c o = filesL c.r1 c.n1 ∧ doQ c o = dOpsL c.r2 c.n2 :=
  do_keep (by unfold doK; rw [h, h2]; rfl) (by decide) (by decide)
theorem do_3 {c : DiskC} {o : DOp1} (h : dB c = true) (h2 : formB o = true) (h3 : doB (filesL c.r0 c.n0) o = false) : doK c o = 3 ∧ doL c o = filesL c.r0 c.n0 ∧ doS c o = filesL c.r1 c.n1 ∧ doQ c o = dOpsL c.r2 c.n2 :=
  do_keep (by unfold doK; rw [h, h2, h3]; rfl) (by decide) (by decide)
theorem do_4 {c : DiskC} {o : DOp1} (h : dB c = true) (h2 : formB o = true) (h3 : doB (filesL c.r0 c.n0) o = true) (h4 : c.n2 = 200 ∨ fitsB (doF (filesL c.r0 c.n0) o) = false) : doK c o = 4 ∧ doL c o = filesL c.r0 c.n0 ∧ doS c o = filesL c.r1 c.n1 ∧ doQ c o = dOpsL c.r2 c.n2 :=
  do_keep (by unfold doK; rw [h, h2, h3]; simp only [if_true]; exact if_pos h4) (by decide) (by decide)
theorem do_0 {c : DiskC} {o : DOp1} (h : dB c = true) (h2 : formB o = true) (h3 : doB (filesL c.r0 c.n0) o = true) (h4 : ¬ c.n2 = 200) (h5 : fitsB (doF (filesL c.r0 c.n0) o) = true) : doK c o = 0 ∧ doL c o = doF (filesL c.r0 c.n0) o ∧ doS c o = filesL c.r1 c.n1 ∧ doQ c o = dOpsL c.r2 c.n2 ++ [o] := by
  have : doK c o = 0 := by unfold doK; simp [h, h2, h3, h4, h5]
  exact ⟨this, by unfold doL; rw [this]; rfl, by unfold doS; rw [this]; rfl, by unfold doQ; rw [this]; rfl⟩
theorem ret_tupI {a b : Value} {p q : Int} (h : a = b) (k : p = q) : Ending.returned (.tuple #[a, .int .i64 p]) = .returned (.tuple #[b, .int .i64 q]) := by rw [h, k]
theorem dop_file {w : World} {B C : Nat} {u v : Value} {l : List DOp1} {s : List File1} (h : OwnDOp w B u l) (k : OwnFile w C v s) {q : Nat} (hu : u.ownBlock = some q) (hv : v.ownBlock = some q) : False := by
  rcases h.2 with ⟨rfl, _⟩ | ⟨g, cap, cur, rfl, _, hh, _⟩
  · simp [Value.ownBlock] at hu
  rcases k.2 with ⟨rfl, _⟩ | ⟨g', cap', cur', rfl, _, hh', _⟩
  · simp [Value.ownBlock] at hv
  simp only [Value.ownBlock, Option.some.injEq] at hu hv
  subst hu
  subst hv
  rw [hh] at hh'
  simp only [Option.some.injEq, Obj.cells.injEq] at hh'
  exact absurd hh'.2.1 (by decide)
/-- Rows of files stay where one of ops grows. -/
theorem dop_grow {w w' : World} {B C : Nat} {u v : Value} {l : List DOp1} {s : List File1} (h : OwnDOp w B u l) (k : OwnFile w C v s) (hg : w.grownBy w' u.ownBlock) : OwnFile w' C v s := by
  refine ⟨k.1, ?_⟩
  rcases k.2 with hn | ⟨g, cap, cur, hv, hB, hh, r⟩
  · exact .inl hn
  · exact .inr ⟨g, cap, cur, hv, hB, (hg.block g (Array.getElem?_eq_some_iff.1 hh).1 (fun e => dop_file h k e.symm (by rw [hv]; rfl))).trans hh, r⟩
/-- What is made of four parts. -/
theorem made_eq {w : World} {B : Nat} {v : Value} {l l' s s' : List File1} {q q' : List DOp1} (h : DiskMade w B v l s q) (e1 : l' = l) (e2 : s' = s) (e3 : q' = q) : DiskMade w B v l' s' q' := by rw [e1, e2, e3]; exact h

end Go.Proofs.Ytejedpmkbkclhaa
