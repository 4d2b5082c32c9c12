/- What the drawn laws of disks ask, of lists alone: a loss of power that keeps all, none or some of the ops; what is done is seen. No walk. -/
import Derived.Test.YtejedpmkbkclhaaMgSyODoORpPRpQDskRow
import Derived.Test.YtejedpmkbkclhaaCrP
import Derived.Test.YtejedpmkbkclhaaDskF
namespace Go.Proofs.Ytejedpmkbkclhaa
set_option maxRecDepth 100000
open Go.RowKit Go.Deep Go.Maps

theorem ups_all {K : Nat → Int} {n : Nat} (h : ∀ i, i < n → K i = (i : Int)) : upsB ((n : Int) - 1) K n = true := by
  refine upsB_yes fun i hi => ?_
  unfold upB
  rw [h i hi, Bool.and_eq_true, Bool.or_eq_true, decide_eq_true_eq, decide_eq_true_eq, decide_eq_true_eq]
  refine ⟨by omega, ?_⟩
  by_cases h0 : i = 0
  · exact .inl h0
  · rw [h (i - 1) (by omega)]
    exact .inr (by omega)
theorem files_fits {O : Files} {n : Nat} (h : filesB O n = true) : fitsB (filesL O n) = true := by
  obtain ⟨_, _, h3, h4⟩ := filesB_ris h
  unfold fitsB
  rw [filesL_len, decide_eq_true h3, decide_eq_true h4]; rfl
theorem see_fits {S : List File1} {O : DOps} (hS : fitsB S = true) : ∀ {n : Nat}, seeB S O n = true → fitsB (seeF S O n) = true
  | 0, _ => hS
  | n + 1, h => (see_at h (Nat.lt_succ_self n)).2
theorem tornO_all {o : DOp1} {t : Int} (h : o.d.size ≤ t) : tornO o t = o := by
  unfold tornO
  split
  · rw [tkB_all (by omega)]
  · rfl
theorem crS_all {S : List File1} {O : DOps} {K : Nat → Int} {n : Nat} {t : Int} (hs : seeB S O n = true) (hK : ∀ i, i < n → K i = (i : Int)) (ht : 200000 ≤ t) : ∀ k, k ≤ n → crS S O K n t k = seeF S O k
  | 0, _ => rfl
  | k + 1, hk => by
    have ih := crS_all hs hK ht k (by omega)
    have hd := see_data hs (show k < n by omega)
    have ho : opC O K n t k = opAt O k := by
      unfold opC
      rw [hK k (by omega), Int.toNat_natCast]
      split
      · exact tornO_all (by omega)
      · rfl
    show doF (crS S O K n t k) (opC O K n t k) = doF (seeF S O k) (opAt O k)
    rw [ih, ho]
/-- All kept, whole: what was seen. -/
theorem crash_all {c : DiskC} {K : Nat → Int} {t : Int} (h : dB c = true) (hK : ∀ i, i < c.n2 → K i = (i : Int)) (ht : 200000 ≤ t) : crB c K c.n2 t = true ∧ crL c K c.n2 t = filesL c.r0 c.n0 := by
  obtain ⟨h0, h1, h2, h3, h4⟩ := dB_all h
  have hc := crS_all (S := filesL c.r1 c.n1) h3 hK ht c.n2 (Nat.le_refl _)
  have hf : fitsB (crS (filesL c.r1 c.n1) c.r2 K c.n2 t c.n2) = true := by rw [hc, h4]; exact files_fits h0
  obtain ⟨e1, e2⟩ := crB_yes h (ups_all hK) (by omega) hf
  exact ⟨e1, by rw [e2, hc, h4]⟩
/-- None kept: what was safe. -/
theorem crash_none {c : DiskC} (h : dB c = true) (K : Nat → Int) {t : Int} (ht : 0 ≤ t) : crB c K 0 t = true ∧ crL c K 0 t = filesL c.r1 c.n1 := by
  obtain ⟨h0, h1, h2, h3, h4⟩ := dB_all h
  obtain ⟨e1, e2⟩ := crB_yes (K := K) (n := 0) (t := t) h (by rfl) ht (files_fits h1)
  exact ⟨e1, e2⟩

/-- An op that is done. -/
theorem done_parts {c : DiskC} {o : DOp1} (h : doK c o = 0) : dB c = true ∧ formB o = true ∧ doB (filesL c.r0 c.n0) o = true ∧ doL c o = doF (filesL c.r0 c.n0) o ∧ doS c o = filesL c.r1 c.n1 ∧ doQ c o = dOpsL c.r2 c.n2 ++ [o] := by
  have hk := h
  unfold doK at h
  cases h1 : dB c with
  | false => rw [h1] at h; simp at h
  | true =>
    cases h2 : formB o with
    | false => rw [h1, h2] at h; simp at h
    | true =>
      cases h3 : doB (filesL c.r0 c.n0) o with
      | false => rw [h1, h2, h3] at h; simp at h
      | true => exact ⟨rfl, rfl, rfl, by unfold doL; rw [hk]; rfl, by unfold doS; rw [hk]; rfl, by unfold doQ; rw [hk]; rfl⟩
theorem doC_live (c : DiskC) (o : DOp1) : filesL (doC c o).r0 (doC c o).n0 = doL c o := by unfold doC; exact dc_live _ _ _
theorem doC_safe (c : DiskC) (o : DOp1) : filesL (doC c o).r1 (doC c o).n1 = doS c o := by unfold doC; exact dc_safe _ _ _
theorem doC_ops (c : DiskC) (o : DOp1) : dOpsL (doC c o).r2 (doC c o).n2 = doQ c o := by unfold doC; exact dc_ops _ _ _
theorem live_ris {c : DiskC} (h : dB c = true) : RisF (filesL c.r0 c.n0) := (filesB_ris (dB_all h).1).1
/-- A file that was appended to. -/
theorem done_app {c : DiskC} {o : DOp1} (h : doK c o = 0) (hk : o.k = 1) : rfB (doC c o) o.n = true ∧ rfV (doC c o) o.n = rfV c o.n ++ o.d := by
  obtain ⟨h1, h2, h3, h4, h5, h6⟩ := done_parts h
  have hr := live_ris h1
  obtain ⟨a1, a2⟩ := rf_yes (do_right h) o.n
  obtain ⟨b1, b2⟩ := rf_yes h1 o.n
  rw [a1, a2, b1, doC_live, h4]
  unfold doF
  rw [if_pos hk, lkF_put_same hr]
  exact ⟨rfl, rfl⟩
/-- One that was renamed. -/
theorem done_ren {c : DiskC} {o : DOp1} (h : doK c o = 0) (hk : o.k = 2) : rfB (doC c o) o.t = true ∧ rfV (doC c o) o.t = rfV c o.n ∧ rfB (doC c o) o.n = decide (o.t = o.n) := by
  obtain ⟨h1, h2, h3, h4, h5, h6⟩ := done_parts h
  have hr := live_ris h1
  obtain ⟨a1, a2⟩ := rf_yes (do_right h) o.t
  obtain ⟨c1, c2⟩ := rf_yes (do_right h) o.n
  obtain ⟨b1, b2⟩ := rf_yes h1 o.n
  rw [a1, a2, b1, c2, doC_live, h4]
  unfold doB at h3
  rw [decide_eq_false (by omega), Bool.false_or] at h3
  obtain ⟨d, hd⟩ := Option.isSome_iff_exists.1 h3
  have e : doF (filesL c.r0 c.n0) o = putF (cutF (filesL c.r0 c.n0) o.n) o.t d := by
    unfold doF
    rw [if_neg (by omega), hd]
    show (if o.k = 2 then _ else _) = _
    rw [if_pos hk]
  rw [e, lkF_put_same (risF_cut hr _), hd]
  refine ⟨rfl, rfl, ?_⟩
  by_cases ht : o.t = o.n
  · rw [decide_eq_true ht, ← ht, lkF_put_same (risF_cut hr _)]; rfl
  · rw [decide_eq_false ht, lkF_put_other (risF_cut hr _) (fun e => ht e.symm), lkF_cut_same]; rfl
/-- One that was removed. -/
theorem done_rem {c : DiskC} {o : DOp1} (h : doK c o = 0) (hk : o.k = 3) : rfB (doC c o) o.n = false := by
  obtain ⟨h1, h2, h3, h4, h5, h6⟩ := done_parts h
  obtain ⟨c1, c2⟩ := rf_yes (do_right h) o.n
  rw [c2, doC_live, h4]
  unfold doB at h3
  rw [decide_eq_false (by omega), Bool.false_or] at h3
  obtain ⟨d, hd⟩ := Option.isSome_iff_exists.1 h3
  have e : doF (filesL c.r0 c.n0) o = cutF (filesL c.r0 c.n0) o.n := by
    unfold doF
    rw [if_neg (by omega), hd]
    show (if o.k = 2 then _ else _) = _
    rw [if_neg (by omega)]
  rw [e, lkF_cut_same]; rfl
theorem done_kind {c : DiskC} {o : DOp1} (h : doK c o = 0) : o.k = 1 ∨ o.k = 2 ∨ o.k = 3 := form_k (done_parts h).2.1
theorem done_many {c : DiskC} {o : DOp1} (h : doK c o = 0) : doS c o = filesL c.r1 c.n1 ∧ (doQ c o).length = c.n2 + 1 := by
  obtain ⟨h1, h2, h3, h4, h5, h6⟩ := done_parts h
  exact ⟨h5, by rw [h6, List.length_append, dOpsL_len]; rfl⟩
/-- One that is refused changes nothing. -/
theorem done_not {c : DiskC} {o : DOp1} (hd : dB c = true) (h : ¬ doK c o = 0) : doL c o = filesL c.r0 c.n0 ∧ doS c o = filesL c.r1 c.n1 ∧ doQ c o = dOpsL c.r2 c.n2 := by
  have h1 : ¬ doK c o = 1 := by
    unfold doK
    rw [hd]
    simp only [if_true]
    split
    · split
      · split <;> decide
      · decide
    · decide
  exact ⟨by unfold doL; rw [if_neg h1, if_neg h], by unfold doS; rw [if_neg h1], by unfold doQ; rw [if_neg h1, if_neg h]⟩

/-- The disk behind a crash. -/
theorem name_new (m : ByteArray) : m ≠ m ++ newB := fun e => by
  have := congrArg ByteArray.size e
  rw [ByteArray.size_append] at this
  have : newB.size = 4 := rfl
  omega
/-- A file that was replaced on a disk that was synced, where no file lay ahead under the new name. -/
structure Repl (c : DiskC) (m x : ByteArray) : Prop where
  rd : dB c = true
  k1 : doK c ⟨1, m ++ newB, ⟨#[]⟩, x⟩ = 0
  k2 : doK (doC c ⟨1, m ++ newB, ⟨#[]⟩, x⟩) ⟨2, m ++ newB, m, ⟨#[]⟩⟩ = 0
  ans : rpC c m x = doC (doC c ⟨1, m ++ newB, ⟨#[]⟩, x⟩) ⟨2, m ++ newB, m, ⟨#[]⟩⟩
  new : lkF (filesL c.r0 c.n0) (m ++ newB) = none
theorem repl_of {c : DiskC} {m x : ByteArray} (hd : dB c = true) (hk : rpK c m x = 0) (hn : rfB c (m ++ newB) = false) : Repl c m x := by
  have hno : lkF (filesL c.r0 c.n0) (m ++ newB) = none := by
    rw [(rf_yes hd _).2] at hn
    exact Option.not_isSome_iff_eq_none.1 (by rw [hn]; decide)
  have hops : opsRp c m x = [⟨1, m ++ newB, ⟨#[]⟩, x⟩, ⟨2, m ++ newB, m, ⟨#[]⟩⟩] := by
    unfold opsRp
    rw [hno]; rfl
  have hrun : (runD c (opsRp c m x)).1 = 0 := by
    unfold rpK at hk
    rw [hd] at hk
    exact hk
  have h1 : doK c ⟨1, m ++ newB, ⟨#[]⟩, x⟩ = 0 := by
    by_cases h : doK c ⟨1, m ++ newB, ⟨#[]⟩, x⟩ = 0
    · exact h
    · rw [hops, runD_fail h] at hrun; exact hrun
  have h2 : doK (doC c ⟨1, m ++ newB, ⟨#[]⟩, x⟩) ⟨2, m ++ newB, m, ⟨#[]⟩⟩ = 0 := by
    by_cases h : doK (doC c ⟨1, m ++ newB, ⟨#[]⟩, x⟩) ⟨2, m ++ newB, m, ⟨#[]⟩⟩ = 0
    · exact h
    · rw [hops, runD_done h1, runD_fail h] at hrun; exact hrun
  have hr : runD c (opsRp c m x) = (0, doC (doC c ⟨1, m ++ newB, ⟨#[]⟩, x⟩) ⟨2, m ++ newB, m, ⟨#[]⟩⟩) := by rw [hops, runD_done h1, runD_done h2]; rfl
  exact ⟨hd, h1, h2, (rp_yes hd hr).2, hno⟩
theorem Repl.right {c : DiskC} {m x : ByteArray} (h : Repl c m x) : dB (rpC c m x) = true := by rw [h.ans]; exact do_right h.k2
theorem Repl.first {c : DiskC} {m x : ByteArray} (h : Repl c m x) : doL c ⟨1, m ++ newB, ⟨#[]⟩, x⟩ = putF (filesL c.r0 c.n0) (m ++ newB) x := by
  rw [(done_parts h.k1).2.2.2.1]
  unfold doF
  rw [if_pos rfl]
  show putF _ _ ((lkF _ (m ++ newB)).getD ⟨#[]⟩ ++ x) = _
  rw [h.new]
  show putF _ _ (⟨#[]⟩ ++ x) = _
  have : (⟨#[]⟩ : ByteArray) ++ x = x := ByteArray.empty_append
  rw [this]
theorem Repl.last {c : DiskC} {m x : ByteArray} (h : Repl c m x) : filesL (rpC c m x).r0 (rpC c m x).n0 = putF (cutF (putF (filesL c.r0 c.n0) (m ++ newB) x) (m ++ newB)) m x := by
  have hr := live_ris h.rd
  rw [h.ans, doC_live, (done_parts h.k2).2.2.2.1, doC_live, h.first]
  unfold doF
  rw [if_neg (show ¬ (2 : Int) = 1 by decide)]
  show (match lkF (putF _ (m ++ newB) x) (m ++ newB) with | none => _ | some d => _) = _
  rw [lkF_put_same hr]
  rfl
theorem Repl.ops {c : DiskC} {m x : ByteArray} (h : Repl c m x) (h0 : c.n2 = 0) : (rpC c m x).r2 = fnDOp [⟨1, m ++ newB, ⟨#[]⟩, x⟩, ⟨2, m ++ newB, m, ⟨#[]⟩⟩] ∧ (rpC c m x).n2 = 2 := by
  have e : doQ (doC c ⟨1, m ++ newB, ⟨#[]⟩, x⟩) ⟨2, m ++ newB, m, ⟨#[]⟩⟩ = [⟨1, m ++ newB, ⟨#[]⟩, x⟩, ⟨2, m ++ newB, m, ⟨#[]⟩⟩] := by
    rw [(done_parts h.k2).2.2.2.2.2, doC_ops, (done_parts h.k1).2.2.2.2.2, h0]; rfl
  rw [h.ans]
  refine ⟨?_, ?_⟩
  · show fnDOp (doQ _ _) = _
    rw [e]
  · show (doQ _ _).length = _
    rw [e]; rfl
theorem Repl.safe {c : DiskC} {m x : ByteArray} (h : Repl c m x) : filesL (rpC c m x).r1 (rpC c m x).n1 = filesL c.r1 c.n1 := by
  rw [h.ans, doC_safe, (done_parts h.k2).2.2.2.2.1, doC_safe, (done_parts h.k1).2.2.2.2.1]
/-- It is seen. -/
theorem Repl.seen {c : DiskC} {m x : ByteArray} (h : Repl c m x) : rfB (rpC c m x) m = true ∧ rfV (rpC c m x) m = x := by
  obtain ⟨a1, a2⟩ := rf_yes h.right m
  have hr := live_ris h.rd
  rw [a1, a2, h.last, lkF_put_same (risF_cut (risF_put hr _ _) _)]
  exact ⟨rfl, rfl⟩
/-- What is found under a name in files that are right. -/
theorem rf_list {l : List File1} (h : dB (dc l l []) = true) (n : ByteArray) : rfV (dc l l []) n = (lkF l n).getD ⟨#[]⟩ ∧ rfB (dc l l []) n = (lkF l n).isSome := by
  have := rf_yes h n
  rw [dc_live] at this
  exact this
/-- Files that are right are a disk that is right. -/
theorem dB_files {l : List File1} (h : filesB (fnFile l) l.length = true) : dB (dc l l []) = true := by
  have e : dB (dc l l []) = sameB (seeF (filesL (dc l l []).r1 (dc l l []).n1) (dc l l []).r2 (dc l l []).n2) (filesL (dc l l []).r0 (dc l l []).n0) := dB_end h h (by show (0 : Nat) ≤ 200; omega) rfl
  have hr := (filesB_ris h).1
  rw [e, dc_live, dc_safe]
  rw [fnFile_list] at hr
  exact (sameB_iff hr hr).2 rfl
theorem filesB_of {l : List File1} (hr : RisF l) (hn : ∀ f, f ∈ l → nameB f.n = true) (hf : fitsB l = true) : filesB (fnFile l) l.length = true := by rw [filesB_list hr hn]; exact hf
theorem fits_small {l m : List File1} (h : fitsB l = true) (h1 : m.length ≤ l.length) (h2 : sizeF m ≤ sizeF l) : fitsB m = true := by
  obtain ⟨k1, k2⟩ := fits_sizes h
  unfold fitsB
  rw [decide_eq_true (by omega), decide_eq_true (by omega)]; rfl
/-- THE LAW: behind a loss of power it is the old one or the new one. -/
theorem Repl.law {c : DiskC} {m x : ByteArray} (h : Repl c m x) (h0 : c.n2 = 0) (hs : filesL c.r1 c.n1 = filesL c.r0 c.n0) {K : Nat → Int} {n : Nat} {t : Int} (hu : upsB 1 K n = true) (ht : 0 ≤ t) :
    crB (rpC c m x) K n t = true ∧
    ((rfB (dc (crL (rpC c m x) K n t) (crL (rpC c m x) K n t) []) m = rfB c m ∧ rfV (dc (crL (rpC c m x) K n t) (crL (rpC c m x) K n t) []) m = rfV c m) ∨
     (rfB (dc (crL (rpC c m x) K n t) (crL (rpC c m x) K n t) []) m = true ∧ rfV (dc (crL (rpC c m x) K n t) (crL (rpC c m x) K n t) []) m = x)) := by
  have hr := live_ris h.rd
  obtain ⟨ho, hn2⟩ := h.ops h0
  obtain ⟨b1, b2⟩ := rf_yes h.rd m
  have hL : filesB c.r0 c.n0 = true := (dB_all h.rd).1
  have hfL := files_fits hL
  have hnm : ∀ f, f ∈ filesL c.r0 c.n0 → nameB f.n = true := files_nm hL
  have hd1 : dB (doC c ⟨1, m ++ newB, ⟨#[]⟩, x⟩) = true := do_right h.k1
  have hL1 := (dB_all hd1).1
  have hf1 := files_fits hL1
  have hnm1 := files_nm hL1
  rw [doC_live, h.first] at hf1 hnm1
  have hL2 := (dB_all h.right).1
  have hf2 := files_fits hL2
  have hnm2 := files_nm hL2
  have hup : upsB (((rpC c m x).n2 : Int) - 1) K n = true := by rw [hn2]; exact hu
  have key : ∀ F : List File1, crS (filesL (rpC c m x).r1 (rpC c m x).n1) (rpC c m x).r2 K n t n = F → RisF F → (∀ f, f ∈ F → nameB f.n = true) → fitsB F = true → (lkF F m = lkF (filesL c.r0 c.n0) m ∨ lkF F m = some x) →
      crB (rpC c m x) K n t = true ∧
    ((rfB (dc (crL (rpC c m x) K n t) (crL (rpC c m x) K n t) []) m = rfB c m ∧ rfV (dc (crL (rpC c m x) K n t) (crL (rpC c m x) K n t) []) m = rfV c m) ∨
     (rfB (dc (crL (rpC c m x) K n t) (crL (rpC c m x) K n t) []) m = true ∧ rfV (dc (crL (rpC c m x) K n t) (crL (rpC c m x) K n t) []) m = x)) := by
    intro F hF hFr hFn hFf hlk
    obtain ⟨e1, e2⟩ := crB_yes h.right hup ht (by rw [hF]; exact hFf)
    rw [hF] at e2
    obtain ⟨g1, g2⟩ := rf_list (dB_files (filesB_of hFr hFn hFf)) m
    rw [e2, g1, g2, b1, b2]
    refine ⟨e1, ?_⟩
    rcases hlk with e | e
    · exact .inl ⟨by rw [e], by rw [e]⟩
    · exact .inr ⟨by rw [e]; rfl, by rw [e]; rfl⟩
  have h199 : n ≤ 2 := by
    by_cases hn : n = 0
    · omega
    · have g1 : ∀ k, k < n → (k : Int) ≤ K k := by
        intro k
        induction k with
        | zero => intro hk; exact (ups_at hu hk).1
        | succ k ih =>
          intro hk
          have g2 := upsB_out hu (k + 1) hk
          unfold upB at g2
          rw [Bool.and_eq_true, Bool.or_eq_true, decide_eq_true_eq, decide_eq_true_eq, decide_eq_true_eq] at g2
          have g3 := ih (by omega)
          rcases g2.2 with g4 | g4
          · omega
          · have g5 : k + 1 - 1 = k := by omega
            rw [g5] at g4
            omega
      have g6 := g1 (n - 1) (by omega)
      have g7 := (ups_at hu (show n - 1 < n by omega)).2
      omega
  have hop0 : opAt (rpC c m x).r2 0 = ⟨1, m ++ newB, ⟨#[]⟩, x⟩ := by rw [ho]; rfl
  have hop1 : opAt (rpC c m x).r2 1 = ⟨2, m ++ newB, m, ⟨#[]⟩⟩ := by rw [ho]; rfl
  have hsf : filesL (rpC c m x).r1 (rpC c m x).n1 = filesL c.r0 c.n0 := h.safe.trans hs
  have hput : ∀ d : ByteArray, doF (filesL c.r0 c.n0) ⟨1, m ++ newB, ⟨#[]⟩, d⟩ = putF (filesL c.r0 c.n0) (m ++ newB) d := fun d => by
    unfold doF
    rw [if_pos rfl]
    show putF _ _ ((lkF _ (m ++ newB)).getD ⟨#[]⟩ ++ d) = _
    rw [h.new]
    show putF _ _ (⟨#[]⟩ ++ d) = _
    have : (⟨#[]⟩ : ByteArray) ++ d = d := ByteArray.empty_append
    rw [this]
  have hcase : n = 0 ∨ n = 1 ∨ n = 2 := by omega
  rcases hcase with rfl | rfl | rfl
  · exact key _ (by show filesL (rpC c m x).r1 (rpC c m x).n1 = _; exact hsf) hr hnm hfL (.inl rfl)
  · have hk := ups_at hu (show 0 < 1 by omega)
    have hk01 : K 0 = 0 ∨ K 0 = 1 := by omega
    rcases hk01 with e | e
    · refine key (putF (filesL c.r0 c.n0) (m ++ newB) (tkB x t)) ?_ (risF_put hr _ _) ?_ ?_ (.inl ?_)
      · show doF (filesL (rpC c m x).r1 (rpC c m x).n1) (opC (rpC c m x).r2 K 1 t 0) = _
        unfold opC
        rw [if_pos rfl, e, hsf]
        show doF _ (tornO (opAt _ 0) t) = _
        rw [hop0]
        exact hput _
      · intro f hf
        rcases mem_putF.1 hf with rfl | ⟨h1, _⟩
        · exact hnm1 ⟨m ++ newB, x⟩ (mem_putF.2 (.inl rfl))
        · exact hnm _ h1
      · refine fits_small hf1 ?_ ?_
        · rw [putF_length, putF_length]; exact Nat.le_refl _
        · rw [sizeF_put, sizeF_put]
          have := tkB_size x t
          omega
      · exact lkF_put_other hr (name_new m)
    · refine key (filesL c.r0 c.n0) ?_ hr hnm hfL (.inl rfl)
      show doF (filesL (rpC c m x).r1 (rpC c m x).n1) (opC (rpC c m x).r2 K 1 t 0) = _
      unfold opC
      rw [if_pos rfl, e, hsf]
      show doF _ (tornO (opAt _ 1) t) = _
      rw [hop1]
      show doF _ (⟨2, m ++ newB, m, ⟨#[]⟩⟩ : DOp1) = _
      unfold doF
      rw [if_neg (show ¬ (2 : Int) = 1 by decide)]
      show (match lkF _ (m ++ newB) with | none => _ | some d => _) = _
      rw [h.new]
  · have g2 := upsB_out hu 1 (by omega)
    unfold upB at g2
    rw [Bool.and_eq_true, Bool.or_eq_true, decide_eq_true_eq, decide_eq_true_eq, decide_eq_true_eq] at g2
    have g0 := ups_at hu (show 0 < 2 by omega)
    have g3 : K 0 < K 1 := by
      rcases g2.2 with g4 | g4
      · omega
      · exact g4
    have e0 : K 0 = 0 := by omega
    have e1 : K 1 = 1 := by omega
    refine key (filesL (rpC c m x).r0 (rpC c m x).n0) ?_ (filesB_ris hL2).1 hnm2 hf2 (.inr ?_)
    · show doF (doF (filesL (rpC c m x).r1 (rpC c m x).n1) (opC (rpC c m x).r2 K 2 t 0)) (opC (rpC c m x).r2 K 2 t 1) = _
      unfold opC
      rw [if_neg (by decide), if_pos rfl, e0, e1, hsf]
      show doF (doF _ (opAt _ 0)) (tornO (opAt _ 1) t) = _
      rw [hop0, hop1, hput, h.last]
      show doF _ (⟨2, m ++ newB, m, ⟨#[]⟩⟩ : DOp1) = _
      unfold doF
      rw [if_neg (show ¬ (2 : Int) = 1 by decide)]
      show (match lkF _ (m ++ newB) with | none => _ | some d => _) = _
      rw [lkF_put_same hr]
      rfl
    · rw [h.last, lkF_put_same (risF_cut (risF_put hr _ _) _)]

end Go.Proofs.Ytejedpmkbkclhaa
