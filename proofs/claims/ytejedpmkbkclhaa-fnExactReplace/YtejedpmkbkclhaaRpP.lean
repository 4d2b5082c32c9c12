/- What Replace answers: lists; and that Do and Sync keep a disk right. No program in sight. -/
import Derived.Test.YtejedpmkbkclhaaDoO
namespace Go.Proofs.Ytejedpmkbkclhaa
set_option maxRecDepth 100000
open Go.RowKit

theorem see_congr {S : List File1} {O Q : DOps} : ∀ {k : Nat}, (∀ i, i < k → opAt O i = opAt Q i) → seeF S O k = seeF S Q k ∧ seeB S O k = seeB S Q k
  | 0, _ => ⟨rfl, rfl⟩
  | k + 1, h => by
    obtain ⟨e1, e2⟩ := see_congr (S := S) (k := k) (fun i hi => h i (Nat.lt_succ_of_lt hi))
    have e3 := h k (Nat.lt_succ_self k)
    exact ⟨by simp only [seeF, e1, e3], by simp only [seeB, e1, e2, e3]⟩

theorem dc_live (l s : List File1) (q : List DOp1) : filesL (dc l s q).r0 (dc l s q).n0 = l := fnFile_list l
theorem dc_safe (l s : List File1) (q : List DOp1) : filesL (dc l s q).r1 (dc l s q).n1 = s := fnFile_list s
theorem dc_ops (l s : List File1) (q : List DOp1) : dOpsL (dc l s q).r2 (dc l s q).n2 = q := fnDOp_list q

theorem dB_all {c : DiskC} (h : dB c = true) : filesB c.r0 c.n0 = true ∧ filesB c.r1 c.n1 = true ∧ c.n2 ≤ 200 ∧ seeB (filesL c.r1 c.n1) c.r2 c.n2 = true ∧ seeF (filesL c.r1 c.n1) c.r2 c.n2 = filesL c.r0 c.n0 := by
  unfold dB diskB at h
  simp only [Bool.and_eq_true, decide_eq_true_eq] at h
  obtain ⟨⟨⟨⟨h1, h2⟩, h3⟩, h4⟩, h5⟩ := h
  obtain ⟨r1, _, _, _⟩ := filesB_ris h2
  obtain ⟨r0, _, _, _⟩ := filesB_ris h1
  exact ⟨h1, h2, h3, h4, (sameB_iff (risF_see r1 _ _) r0).1 h5⟩

theorem files_nm {O : Files} {n : Nat} (h : filesB O n = true) : ∀ f, f ∈ filesL O n → nameB f.n = true := fun x hx => by
  obtain ⟨_, hnm, _, _⟩ := filesB_ris h
  obtain ⟨i, hi, rfl⟩ := List.mem_map.1 hx; exact hnm i (List.mem_range.1 hi)
theorem files_dc {O : Files} {n : Nat} (h : filesB O n = true) : filesB (fnFile (filesL O n)) (filesL O n).length = true := by
  rw [filesB_list (filesB_ris h).1 (files_nm h)]; exact filesB_fits h

/-- Do that is told done keeps a disk right. -/
theorem do_right {c : DiskC} {o : DOp1} (h : doK c o = 0) : dB (doC c o) = true := by
  obtain ⟨hd, hfo, hfi⟩ := do_is0 h
  have hdo : doB (filesL c.r0 c.n0) o = true := by
    cases e : doB (filesL c.r0 c.n0) o with
    | true => rfl
    | false => have := (do_3 hd hfo e).1; omega
  have hn2 : ¬ c.n2 = 200 := fun e => by have := (do_4 hd hfo hdo (.inl e)).1; omega
  obtain ⟨_, e1, e2, e3⟩ := do_0 hd hfo hdo hn2 hfi
  obtain ⟨f0, f1, f2, f3, f4⟩ := dB_all hd
  have hri := (filesB_ris f0).1
  unfold doC
  rw [e1, e2, e3]
  have hag : ∀ i, i < c.n2 → opAt (fnDOp (dOpsL c.r2 c.n2 ++ [o])) i = opAt c.r2 i := fun i hi => by
    have hl : i < (dOpsL c.r2 c.n2 ++ [o]).length := by rw [List.length_append, dOpsL_len]; omega
    have := fnDOp_at (dOpsL c.r2 c.n2 ++ [o]) i hl
    rw [List.getElem_append_left (by rw [dOpsL_len]; exact hi)] at this
    simpa [dOpsL, dOpAt1, opAt] using this
  have hat : opAt (fnDOp (dOpsL c.r2 c.n2 ++ [o])) c.n2 = o := by
    have hl : c.n2 < (dOpsL c.r2 c.n2 ++ [o]).length := by rw [List.length_append, dOpsL_len]; simp
    have := fnDOp_at (dOpsL c.r2 c.n2 ++ [o]) c.n2 hl
    rw [List.getElem_append_right (by rw [dOpsL_len]; exact Nat.le_refl _)] at this
    simpa [dOpsL_len, dOpAt1, opAt] using this
  obtain ⟨s1, s2⟩ := see_congr (S := filesL c.r1 c.n1) hag
  have hlen : (dOpsL c.r2 c.n2 ++ [o]).length = c.n2 + 1 := by rw [List.length_append, dOpsL_len]; rfl
  show diskB (fnFile (doF (filesL c.r0 c.n0) o)) (doF (filesL c.r0 c.n0) o).length (fnFile (filesL c.r1 c.n1)) (filesL c.r1 c.n1).length (fnDOp (dOpsL c.r2 c.n2 ++ [o])) (dOpsL c.r2 c.n2 ++ [o]).length = true
  unfold diskB
  rw [hlen, fnFile_list, fnFile_list, filesB_list (risF_do hri o) (names_do hfo (files_nm f0)), hfi, files_dc f1, decide_eq_true (show c.n2 + 1 ≤ 200 by omega)]
  simp only [Bool.true_and, seeB, seeF, s1, s2, hat, f3, f4, hfo, hdo, hfi]
  exact (sameB_iff (risF_do hri o) (risF_do hri o)).2 rfl

theorem sync_right {c : DiskC} (h : dB c = true) : dB (syC c) = true := by
  obtain ⟨f0, f1, f2, f3, f4⟩ := dB_all h
  have hri := (filesB_ris f0).1
  have e : syL c = filesL c.r0 c.n0 := by unfold syL; rw [if_pos h]
  unfold syC
  rw [e]
  show diskB (fnFile (filesL c.r0 c.n0)) (filesL c.r0 c.n0).length (fnFile (filesL c.r0 c.n0)) (filesL c.r0 c.n0).length (fnDOp []) ([] : List DOp1).length = true
  unfold diskB
  rw [fnFile_list, files_dc f0]
  simp only [List.length_nil, seeB, seeF, Bool.true_and, Bool.and_eq_true]
  exact ⟨by decide, (sameB_iff hri hri).2 rfl⟩

/-- The ops that are done one behind the other, as long as they are told done. -/
def runD (c : DiskC) : List DOp1 → Int × DiskC
  | [] => (0, c)
  | o :: r => if doK c o = 0 then runD (doC c o) r else (doK c o, c)
def newB : ByteArray := ⟨#[46, 110, 101, 119]⟩
def opsRp (c : DiskC) (m d : ByteArray) : List DOp1 := (if (lkF (filesL c.r0 c.n0) (m ++ newB)).isSome then [⟨3, m ++ newB, ⟨#[]⟩, ⟨#[]⟩⟩] else []) ++ [⟨1, m ++ newB, ⟨#[]⟩, d⟩, ⟨2, m ++ newB, m, ⟨#[]⟩⟩]
def rpK (c : DiskC) (m d : ByteArray) : Int := if dB c then (runD c (opsRp c m d)).1 else 1
def rpC (c : DiskC) (m d : ByteArray) : DiskC := if dB c then (if (runD c (opsRp c m d)).1 = 0 then (runD c (opsRp c m d)).2 else dc (filesL c.r0 c.n0) (filesL c.r1 c.n1) (dOpsL c.r2 c.n2)) else dc [] [] []
theorem copyC_fit {c : DiskC} (hf : c.Fit) : (dc (filesL c.r0 c.n0) (filesL c.r1 c.n1) (dOpsL c.r2 c.n2)).Fit := dc_fit (fitL_files hf.1.1 hf.2.1) (fitL_files hf.1.2.1 hf.2.2.1) (fitQ_ops hf.1.2.2 hf.2.2.2)
theorem run_fit : ∀ (l : List DOp1) {c : DiskC}, c.Fit → (∀ o, o ∈ l → o.t.size ≤ 1048576 ∧ o.d.size ≤ 1048576) → (runD c l).2.Fit
  | [], _, h, _ => h
  | o :: r, c, h, hl => by
    unfold runD
    split
    · exact run_fit r (doC_fit h (hl o (by simp)).1 (hl o (by simp)).2) (fun x hx => hl x (by simp [hx]))
    · exact h
theorem ops_fit (c : DiskC) {m d : ByteArray} (hm : m.size ≤ 1048576) (hd : d.size ≤ 1048576) : ∀ o, o ∈ opsRp c m d → o.n.size ≤ 2000000 ∧ o.t.size ≤ 1048576 ∧ o.d.size ≤ 1048576 := fun o ho => by
  have hs : (m ++ newB).size = m.size + 4 := by rw [ByteArray.size_append]; rfl
  have h0 : (⟨#[]⟩ : ByteArray).size = 0 := rfl
  unfold opsRp at ho
  split at ho <;> simp only [List.cons_append, List.nil_append, List.mem_cons, List.not_mem_nil, or_false] at ho
  · rcases ho with rfl | rfl | rfl <;> exact ⟨by show (m ++ newB).size ≤ _; omega, by first | exact hm | (show (⟨#[]⟩ : ByteArray).size ≤ _; omega), by first | exact hd | (show (⟨#[]⟩ : ByteArray).size ≤ _; omega)⟩
  · rcases ho with rfl | rfl <;> exact ⟨by show (m ++ newB).size ≤ _; omega, by first | exact hm | (show (⟨#[]⟩ : ByteArray).size ≤ _; omega), by first | exact hd | (show (⟨#[]⟩ : ByteArray).size ≤ _; omega)⟩
theorem rpC_fit {c : DiskC} (hf : c.Fit) (m d : ByteArray) (hm : m.size ≤ 1048576) (hd : d.size ≤ 1048576) : (rpC c m d).Fit := by
  unfold rpC
  split
  · split
    · exact run_fit _ hf (fun o ho => (ops_fit c hm hd o ho).2)
    · exact copyC_fit hf
  · exact dc_fit fitL_nil fitL_nil fitQ_nil

end Go.Proofs.Ytejedpmkbkclhaa
