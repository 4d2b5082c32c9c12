/- Edits: however the files are put together, a right version's are in one order only; which cuts are right. No walk. -/
import Derived.Test.YtplbhgcibfajaaaApP
import Derived.Test.YtplbhgcibfajaaaFOrd
import Derived.Test.YtplbhgcibfajaaaOver
import Derived.Test.YtplbhgcibfajaaaPickP
namespace Go.Proofs.Ytplbhgcibfajaaa
set_option maxRecDepth 100000
open Go.RowKit Go.Deep Go.Sort

def fOrdM (a b : Meta1) : Int := fOrd a.n a.l a.f b.n b.l b.f

theorem cmpS_neg (x y : ByteArray) : cmpS x y < 0 ↔ sLt x y = true := by
  unfold cmpS sLt
  constructor
  · intro h
    split at h
    · assumption
    · split at h <;> omega
  · intro h
    rw [if_pos h]; omega
theorem cmpS_zero (x y : ByteArray) : cmpS x y = 0 ↔ x = y := by
  rcases cmpS_cases x y with ⟨a, _, l⟩ | ⟨a, _, l⟩ | ⟨a, _, l⟩ <;> rw [a] <;> simp [l]
theorem fOrdM_neg (a b : Meta1) : fOrdM a b < 0 ↔ if a.l = 0 ∧ b.l = 0 then b.n < a.n else a.l < b.l ∨ (a.l = b.l ∧ sLt a.f b.f = true) := by
  unfold fOrdM fOrd
  split
  · exact cmpI_neg _ _
  · unfold or2
    rcases cmpI_cases a.l b.l with ⟨e, _, l⟩ | ⟨e, _, l⟩ | ⟨e, _, l⟩
    · rw [e]; simp; omega
    · rw [e]
      simp only [l, Int.lt_irrefl, true_and, false_or]
      rw [← cmpS_neg]
      simp
    · rw [e]; simp; omega

theorem sLt_irr (x : ByteArray) : sLt x x = false := by
  cases h : sLt x x with
  | false => rfl
  | true => have := less_asymm _ _ h; unfold sLt at h; rw [this] at h; cases h
theorem sLt_asymm {x y : ByteArray} (h : sLt x y = true) : sLt y x = false := less_asymm _ _ h
/-- Of three texts: what is not ahead of what is not ahead is not ahead. -/
theorem sLt_neg {x y z : ByteArray} (h : sLt x y = false) (k : sLt y z = false) : sLt x z = false := by
  have h' := sLt_le.2 h
  have k' := sLt_le.2 k
  exact sLt_le.1 (sLe_trans k' h')

def cfM (a b : Meta1) : Int := fOrdM a b
theorem ltM (a b : Meta1) : ltOf cfM a b = decide (fOrdM a b < 0) := rfl
theorem ltM_iff (a b : Meta1) : ltOf cfM a b = true ↔ fOrdM a b < 0 := by rw [ltM]; simp
theorem ltM_no (a b : Meta1) : ltOf cfM a b = false ↔ ¬ fOrdM a b < 0 := by rw [ltM]; simp
theorem cfM_swo : SWO (ltOf cfM) := by
  refine ⟨fun x => ?_, fun x y z hx hy => ?_, fun x y z hx hy => ?_⟩
  · rw [ltM_no, fOrdM_neg]
    split
    · omega
    · rw [sLt_irr]; simp
  · rw [ltM_iff, fOrdM_neg] at *
    by_cases e1 : x.l = 0 ∧ y.l = 0
    · rw [if_pos e1] at hx
      by_cases e2 : y.l = 0 ∧ z.l = 0
      · rw [if_pos e2] at hy
        rw [if_pos ⟨e1.1, e2.2⟩]; omega
      · rw [if_neg e2] at hy
        have : z.l ≠ 0 := fun e => e2 ⟨e1.2, e⟩
        rw [if_neg (fun e => this e.2)]
        rcases hy with hy | hy
        · left; omega
        · omega
    · rw [if_neg e1] at hx
      by_cases e2 : y.l = 0 ∧ z.l = 0
      · rw [if_pos e2] at hy
        have : x.l ≠ 0 := fun e => e1 ⟨e, e2.1⟩
        rw [if_neg (fun e => this e.1)]
        rcases hx with hx | hx
        · left; omega
        · omega
      · rw [if_neg e2] at hy
        by_cases e3 : x.l = 0 ∧ z.l = 0
        · rcases hx with hx | hx <;> rcases hy with hy | hy <;> omega
        · rw [if_neg e3]
          rcases hx with hx | ⟨hx, hx2⟩
          · rcases hy with hy | ⟨hy, _⟩
            · left; omega
            · left; omega
          · rcases hy with hy | ⟨hy, hy2⟩
            · left; omega
            · exact .inr ⟨by omega, sLt_trans hx2 hy2⟩
  · rw [ltM_no, fOrdM_neg] at *
    by_cases e1 : x.l = 0 ∧ y.l = 0
    · rw [if_pos e1] at hx
      by_cases e2 : y.l = 0 ∧ z.l = 0
      · rw [if_pos e2] at hy
        rw [if_pos ⟨e1.1, e2.2⟩]; omega
      · rw [if_neg e2] at hy
        have : z.l ≠ 0 := fun e => e2 ⟨e1.2, e⟩
        rw [if_neg (fun e => this e.2)]
        rw [not_or] at hy ⊢
        exact ⟨by omega, fun h => by omega⟩
    · rw [if_neg e1, not_or] at hx
      by_cases e2 : y.l = 0 ∧ z.l = 0
      · have : x.l ≠ 0 := fun e => e1 ⟨e, e2.1⟩
        rw [if_neg (fun e => this e.1), not_or]
        exact ⟨by omega, fun h => by omega⟩
      · rw [if_neg e2, not_or] at hy
        by_cases e3 : x.l = 0 ∧ z.l = 0
        · have : y.l ≠ 0 := fun e => e1 ⟨e3.1, e⟩
          omega
        · rw [if_neg e3, not_or]
          refine ⟨by omega, fun h => ?_⟩
          have hxy : x.l = y.l := by omega
          have hyz : y.l = z.l := by omega
          have k1 : sLt x.f y.f = false := by
            cases hq : sLt x.f y.f with
            | false => rfl
            | true => exact (hx.2 ⟨hxy, hq⟩).elim
          have k2 : sLt y.f z.f = false := by
            cases hq : sLt y.f z.f with
            | false => rfl
            | true => exact (hy.2 ⟨hyz, hq⟩).elim
          rw [sLt_neg k1 k2] at h
          cases h.2

/-- A file whose level and users are right. -/
def goodM (a : Meta1) : Prop := 0 ≤ a.l ∧ sLe a.f a.z = true
/-- One right file stands ahead of another one. -/
def OrdM (a b : Meta1) : Prop := a.l < b.l ∨ (a.l = b.l ∧ ((a.l = 0 ∧ b.n < a.n) ∨ (0 < a.l ∧ sLt a.z b.f = true)))
theorem OrdM.trans {a b c : Meta1} (gb : goodM b) (h : OrdM a b) (k : OrdM b c) : OrdM a c := by
  unfold OrdM at *
  rcases h with h | ⟨h, h2⟩
  · rcases k with k | ⟨k, _⟩ <;> (left; omega)
  · rcases k with k | ⟨k, k2⟩
    · left; omega
    · refine .inr ⟨by omega, ?_⟩
      rcases h2 with ⟨h2, h3⟩ | ⟨h2, h3⟩
      · rcases k2 with ⟨k2, k3⟩ | ⟨k2, k3⟩
        · exact .inl ⟨h2, by omega⟩
        · omega
      · rcases k2 with ⟨k2, k3⟩ | ⟨k2, k3⟩
        · omega
        · exact .inr ⟨h2, sLt_trans (sLt_le_lt h3 gb.2) k3⟩
theorem OrdM.ah {a b : Meta1} (h : OrdM a b) : ahM a b = true := by
  unfold ahM aheadB
  rcases h with h | ⟨h, h2⟩
  · rw [if_neg (by omega)]; exact decide_eq_true h
  · rw [if_pos h]
    rcases h2 with ⟨h2, h3⟩ | ⟨h2, h3⟩
    · rw [if_pos h2]; exact decide_eq_true h3
    · rw [if_neg (by omega)]; exact h3
theorem OrdM.lt {a b : Meta1} (ga : goodM a) (h : OrdM a b) : fOrdM a b < 0 := by
  rw [fOrdM_neg]
  rcases h with h | ⟨h, h2⟩
  · split
    · omega
    · exact .inl h
  · rcases h2 with ⟨h2, h3⟩ | ⟨h2, h3⟩
    · rw [if_pos ⟨h2, by omega⟩]; exact h3
    · rw [if_neg (by omega)]
      refine .inr ⟨h, ?_⟩
      have := ga.2
      unfold sLe at this
      rw [Bool.or_eq_true] at this
      rcases this with k | k
      · exact sLt_trans k h3
      · have e : a.f.toList = a.z.toList := by simpa using k
        unfold sLt at h3 ⊢
        rw [e]; exact h3
theorem OrdM.le {a b : Meta1} (ga : goodM a) (h : OrdM a b) : ¬ fOrdM b a < 0 := fun k => by
  have h1 := (ltM_iff a b).2 (h.lt ga)
  have h2 := (ltM_iff b a).2 k
  have h3 := cfM_swo.trans a b a h1 h2
  rw [cfM_swo.irrefl a] at h3
  cases h3
theorem OrdM.irr {a : Meta1} (ga : goodM a) : ¬ OrdM a a := fun h => (h.le ga) (h.lt ga)
theorem OrdM.not_ah {a b : Meta1} (ga : goodM a) (gb : goodM b) (h : OrdM a b) : ahM b a = false := by
  unfold ahM aheadB
  rcases h with h | ⟨h, h2⟩
  · rw [if_neg (by omega)]; exact decide_eq_false (by omega)
  · rw [if_pos h.symm]
    rcases h2 with ⟨h2, h3⟩ | ⟨h2, h3⟩
    · rw [if_pos (by omega)]; exact decide_eq_false (by omega)
    · rw [if_neg (by omega)]
      have h4 := sLt_le_lt h3 gb.2
      cases hq : sLt b.z a.f with
      | false => rfl
      | true =>
        have h5 := sLt_le_lt hq ga.2
        rw [sLt_asymm h5] at h4
        cases h4

/-- The files of a right version. -/
theorem right_ord {R : List Meta1} {x y z : Int} (h : versB (vc R x y z) = true) : R.Pairwise OrdM ∧ ∀ a ∈ R, goodM a := by
  obtain ⟨_, hst, _⟩ := versB_out h
  have hst' : ∀ i, i < R.length → stepB (fnMeta R) x i = true := hst
  have good : ∀ i, i < R.length → goodM (metaAt1 (fnMeta R) i) := fun i hi => by
    have hm := stepB_file (hst' i hi)
    have hl := fileB_level hm
    unfold fileB at hm
    simp only [Bool.and_eq_true] at hm
    exact ⟨hl.1, hm.1.1.2⟩
  have one : ∀ i, i + 1 < R.length → OrdM (metaAt1 (fnMeta R) i) (metaAt1 (fnMeta R) (i + 1)) := fun i hi => by
    have h1 := hst' (i + 1) hi
    unfold stepB at h1
    simp only [Bool.and_eq_true, Bool.or_eq_true] at h1
    rcases h1.2 with h2 | h2
    · simp at h2
    · simp only [Nat.add_sub_cancel] at h2
      unfold aheadB at h2
      have g := (good i (by omega)).1
      by_cases e : (fnMeta R).L i = (fnMeta R).L (i + 1)
      · rw [if_pos e] at h2
        by_cases e0 : (fnMeta R).L i = 0
        · rw [if_pos e0] at h2
          exact .inr ⟨e, .inl ⟨e0, of_decide_eq_true h2⟩⟩
        · rw [if_neg e0] at h2
          have g' : 0 ≤ (fnMeta R).L i := g
          exact .inr ⟨e, .inr ⟨by show 0 < (fnMeta R).L i; omega, h2⟩⟩
      · rw [if_neg e] at h2
        exact .inl (of_decide_eq_true h2)
  have far : ∀ t i, i + t + 1 < R.length → OrdM (metaAt1 (fnMeta R) i) (metaAt1 (fnMeta R) (i + t + 1)) := fun t => by
    induction t with
    | zero => exact fun i hi => one i hi
    | succ t ih => exact fun i hi => (ih i (by omega)).trans (good (i + t + 1) (by omega)) (one (i + t + 1) (by omega))
  constructor
  · rw [List.pairwise_iff_getElem]
    intro i j hi hj hij
    have := far (j - i - 1) i (by omega)
    rw [show i + (j - i - 1) + 1 = j by omega, fnMeta_at R i hi, fnMeta_at R j hj] at this
    exact this
  · intro a ha
    obtain ⟨i, hi, rfl⟩ := List.getElem_of_mem ha
    rw [← fnMeta_at R i hi]
    exact good i hi

/-- The model's insertion, element by element. -/
def insR : List Meta1 → Meta1 → List Meta1
  | [], m => [m]
  | a :: l, m => if ahM a m then a :: insR l m else m :: a :: l
theorem insM_eq : ∀ (l : List Meta1) (m : Meta1), insM l m = insR l m
  | [], m => rfl
  | a :: l, m => by
    have ih := insM_eq l m
    unfold insM at ih ⊢
    rw [posM, insR]
    split
    · simp only [List.take_succ_cons, List.drop_succ_cons, List.cons_append]
      rw [ih]
    · rfl
theorem insR_perm : ∀ (l : List Meta1) (m : Meta1), (insR l m).Perm (m :: l)
  | [], _ => List.Perm.refl _
  | a :: l, m => by
    rw [insR]
    split
    · exact (List.Perm.cons a (insR_perm l m)).trans (List.Perm.swap m a l)
    · exact List.Perm.refl _
theorem insR_ord : ∀ (l : List Meta1) (m : Meta1), l.Pairwise OrdM → (∀ a ∈ l, goodM a) → (∀ a ∈ l, OrdM a m ∨ OrdM m a) → goodM m → (insR l m).Pairwise OrdM
  | [], m, _, _, _, _ => by simp [insR]
  | a :: l, m, h, g, k, gm => by
    rw [insR]
    rw [List.pairwise_cons] at h
    have ga := g a (List.mem_cons_self ..)
    have ka := k a (List.mem_cons_self ..)
    split
    · next ha =>
      have o : OrdM a m := by
        rcases ka with ka | ka
        · exact ka
        · rw [ka.not_ah gm ga] at ha; cases ha
      rw [List.pairwise_cons]
      refine ⟨fun b hb => ?_, insR_ord l m h.2 (fun b hb => g b (List.mem_cons_of_mem _ hb)) (fun b hb => k b (List.mem_cons_of_mem _ hb)) gm⟩
      rcases List.mem_cons.1 ((insR_perm l m).mem_iff.1 hb) with rfl | hb
      · exact o
      · exact h.1 b hb
    · next ha =>
      have o : OrdM m a := by
        rcases ka with ka | ka
        · rw [ka.ah] at ha; exact (ha rfl).elim
        · exact ka
      rw [List.pairwise_cons]
      refine ⟨fun b hb => ?_, by rw [List.pairwise_cons]; exact h⟩
      rcases List.mem_cons.1 hb with rfl | hb
      · exact o
      · exact o.trans ga (h.1 b hb)
theorem addsL_perm (l : List Meta1) (A : Metas) : ∀ k, (addsL l A k).Perm (l ++ metasL A k)
  | 0 => by simp [addsL, metasL]
  | k + 1 => by
    rw [addsL, insM_eq, metasL_succ]
    refine (insR_perm _ _).trans ?_
    refine (List.Perm.cons _ (addsL_perm l A k)).trans ?_
    rw [← List.append_assoc]
    exact (List.perm_append_singleton _ _).symm
theorem addsL_ord (l : List Meta1) (A : Metas) (h : l.Pairwise OrdM) : ∀ k, (∀ a ∈ l ++ metasL A k, goodM a) → (l ++ metasL A k).Pairwise (fun a b => OrdM a b ∨ OrdM b a) → (addsL l A k).Pairwise OrdM
  | 0, _, _ => h
  | k + 1, g, p => by
    rw [metasL_succ, ← List.append_assoc] at g p
    rw [List.pairwise_append] at p
    rw [addsL, insM_eq]
    refine insR_ord _ _ (addsL_ord l A h k (fun a ha => g a (List.mem_append_left _ ha)) p.1) (fun a ha => g a (List.mem_append_left _ ((addsL_perm l A k).mem_iff.1 ha))) (fun a ha => p.2.2 a ((addsL_perm l A k).mem_iff.1 ha) _ (List.mem_singleton.2 rfl)) (g _ (List.mem_append_right _ (List.mem_singleton.2 rfl)))
theorem leftL_sub (O : Metas) (S : Nat → Int) (n : Nat) : ∀ k, List.Sublist (leftL O S n k) (metasL O k)
  | 0 => List.Sublist.refl _
  | k + 1 => by
    rw [leftL, metasL_succ]
    split
    · exact (leftL_sub O S n k).trans (List.sublist_append_left _ _)
    · exact (leftL_sub O S n k).append_right _
theorem vc_self (c : VersionC) : versB c = true → versB (vc (metasL c.r0 c.n0) c.x1 c.x2 c.x3) = true := by
  intro h
  obtain ⟨h1, h2, h3⟩ := versB_out h
  unfold versB nodupB
  rw [Bool.and_eq_true, Bool.and_eq_true, List.all_eq_true]
  have e : ∀ i, i < c.n0 → metaAt1 (fnMeta (metasL c.r0 c.n0)) i = metaAt1 c.r0 i := fun i hi => by
    rw [fnMeta_at _ i (by rw [metasL_len]; exact hi)]
    simp [metasL]
  have eN : ∀ i, i < c.n0 → (fnMeta (metasL c.r0 c.n0)).N i = c.r0.N i := fun i hi => congrArg Meta1.n (e i hi)
  have eL : ∀ i, i < c.n0 → (fnMeta (metasL c.r0 c.n0)).L i = c.r0.L i := fun i hi => congrArg Meta1.l (e i hi)
  have eF : ∀ i, i < c.n0 → (fnMeta (metasL c.r0 c.n0)).F i = c.r0.F i := fun i hi => congrArg Meta1.f (e i hi)
  have eZ : ∀ i, i < c.n0 → (fnMeta (metasL c.r0 c.n0)).Z i = c.r0.Z i := fun i hi => congrArg Meta1.z (e i hi)
  have eC : ∀ i, i < c.n0 → (fnMeta (metasL c.r0 c.n0)).C i = c.r0.C i := fun i hi => congrArg Meta1.c (e i hi)
  refine ⟨⟨decide_eq_true (by show (metasL c.r0 c.n0).length ≤ 30 ∧ _; rw [metasL_len]; exact h1), fun i hi => ?_⟩, decide_eq_true ?_⟩
  · have hi' : i < c.n0 := by have := List.mem_range.1 hi; rwa [show (vc (metasL c.r0 c.n0) c.x1 c.x2 c.x3).n0 = c.n0 from metasL_len _ _] at this
    have h4 := h2 i hi'
    unfold stepB at h4 ⊢
    show (fileB ((fnMeta (metasL c.r0 c.n0)).N i) _ _ _ _ _ && _) = true
    rcases i with _ | i
    · rw [show (vc (metasL c.r0 c.n0) c.x1 c.x2 c.x3).r0 = fnMeta (metasL c.r0 c.n0) from rfl, eN _ hi', eL _ hi', eF _ hi', eZ _ hi', eC _ hi', show (vc (metasL c.r0 c.n0) c.x1 c.x2 c.x3).x1 = c.x1 from rfl]
      simpa using h4
    · rw [show (vc (metasL c.r0 c.n0) c.x1 c.x2 c.x3).r0 = fnMeta (metasL c.r0 c.n0) from rfl, eN _ hi', eL _ hi', eF _ hi', eZ _ hi', eC _ hi', eN (i + 1 - 1) (by omega), eL (i + 1 - 1) (by omega), eZ (i + 1 - 1) (by omega)]
      exact h4
  · have : numsL (vc (metasL c.r0 c.n0) c.x1 c.x2 c.x3).r0 (vc (metasL c.r0 c.n0) c.x1 c.x2 c.x3).n0 = numsL c.r0 c.n0 := by
      rw [show (vc (metasL c.r0 c.n0) c.x1 c.x2 c.x3).n0 = c.n0 from metasL_len _ _]
      unfold numsL
      exact List.map_congr_left fun i hi => eN i (List.mem_range.1 hi)
    rw [this]; exact h3

/-- However the files are put together and sorted: where what comes out is a right version, it is the model's. -/
theorem apply_same {c : VersionC} {d : EditC} (hc : versB c = true) {M : List Meta1} (hp : M.Perm (leftL c.r0 d.r1 d.n1 c.n0 ++ metasL d.r0 d.n0)) (hs : M.Pairwise (fun a b => ¬ fOrdM b a < 0)) {x y z : Int}
    (h : versB (vc M x y z) = true ∨ versB (vc (apL c d) x y z) = true) : M = apL c d := by
  have hLp : (apL c d).Perm (leftL c.r0 d.r1 d.n1 c.n0 ++ metasL d.r0 d.n0) := addsL_perm _ _ _
  have hML : M.Perm (apL c d) := hp.trans hLp.symm
  have hK : (leftL c.r0 d.r1 d.n1 c.n0).Pairwise OrdM := (right_ord (vc_self c hc)).1.sublist (leftL_sub _ _ _ _)
  rcases h with h | h
  · obtain ⟨ho, hg⟩ := right_ord h
    have hcmp : (leftL c.r0 d.r1 d.n1 c.n0 ++ metasL d.r0 d.n0).Pairwise (fun a b => OrdM a b ∨ OrdM b a) :=
      hp.pairwise (ho.imp fun hh => .inl hh) (fun hh => hh.symm)
    have hgL : ∀ a ∈ leftL c.r0 d.r1 d.n1 c.n0 ++ metasL d.r0 d.n0, goodM a := fun a ha => hg a (hp.mem_iff.2 ha)
    have hLo : (apL c d).Pairwise OrdM := addsL_ord _ _ hK _ hgL hcmp
    exact List.Perm.eq_of_pairwise (le := OrdM) (fun a b ha _ h1 h2 => ((OrdM.irr (hg a ha)) (h1.trans (hg b (by rename_i hb; exact hML.mem_iff.2 hb)) h2)).elim) ho hLo hML
  · obtain ⟨ho, hg⟩ := right_ord h
    have hle : (apL c d).Pairwise (fun a b => ¬ fOrdM b a < 0) := ho.imp_of_mem fun {a b} ha hb hh => hh.le (hg a ha)
    refine List.Perm.eq_of_pairwise (le := fun a b => ¬ fOrdM b a < 0) (fun a b ha hb h1 h2 => ?_) hs hle hML
    have ha' := hML.mem_iff.1 ha
    obtain ⟨i, hi, rfl⟩ := List.getElem_of_mem ha'
    obtain ⟨j, hj, rfl⟩ := List.getElem_of_mem hb
    rcases Nat.lt_trichotomy i j with hij | rfl | hij
    · exact (h2 ((List.pairwise_iff_getElem.1 ho i j hi hj hij).lt (hg _ ha'))).elim
    · rfl
    · exact (h1 ((List.pairwise_iff_getElem.1 ho j i hj hi hij).lt (hg _ hb))).elim

/-- Numbers none of which stands twice, in another row: how many there are; where there are as many, it is the same row in some order. -/
theorem nodup_sub_perm : ∀ {a b : List Int}, a.Nodup → (∀ x ∈ a, x ∈ b) → a.length ≤ b.length ∧ (b.length ≤ a.length → a.Perm b)
  | [], b, _, _ => ⟨Nat.zero_le _, fun h => by have : b = [] := List.length_eq_zero_iff.1 (by simpa using h); rw [this]⟩
  | x :: a, b, hn, hs => by
    rw [List.nodup_cons] at hn
    have hx : x ∈ b := hs x (List.mem_cons_self ..)
    have hl := List.length_erase_of_mem hx
    have hpos : 0 < b.length := List.length_pos_of_mem hx
    have hs' : ∀ y ∈ a, y ∈ b.erase x := fun y hy => (List.mem_erase_of_ne (fun e => hn.1 (by rw [← e]; exact hy))).2 (hs y (List.mem_cons_of_mem _ hy))
    obtain ⟨h1, h2⟩ := nodup_sub_perm hn.2 hs'
    refine ⟨by simp only [List.length_cons]; omega, fun hle => ?_⟩
    simp only [List.length_cons] at hle
    exact (List.Perm.cons x (h2 (by omega))).trans (List.perm_cons_erase hx).symm

/-- The cuts of an edit. -/
def cutsL (d : EditC) : List Int := (List.range d.n1).map d.r1
theorem cutsL_len (d : EditC) : (cutsL d).length = d.n1 := by simp [cutsL]
theorem cutB_mem (S : Nat → Int) (x : Int) : ∀ n, cutB S x n = true ↔ x ∈ (List.range n).map S
  | 0 => by simp [cutB]
  | n + 1 => by
    rw [cutB, Bool.or_eq_true, cutB_mem S x n, List.range_succ, List.map_append, List.mem_append]
    simp [eq_comm]
theorem cutN_filter (O : Metas) (S : Nat → Int) (n : Nat) : ∀ k, cutN O S n k = ((numsL O k).filter fun x => cutB S x n).length
  | 0 => rfl
  | k + 1 => by
    rw [cutN, numsL_succ, List.filter_append, List.length_append, ← cutN_filter O S n k]
    cases h : cutB S (O.N k) n <;> simp [h]
/-- What the program asks of the cuts. -/
def cutsB (c : VersionC) (d : EditC) : Bool := decide (d.n1 ≤ c.n0) && nodupB (cutsL d) && (cutsL d).all fun x => (numsL c.r0 c.n0).contains x
theorem cuts_same {c : VersionC} {d : EditC} (hc : versB c = true) : cutsB c d = decide (cutN c.r0 d.r1 d.n1 c.n0 = d.n1) := by
  have hnd := (versB_out hc).2.2
  rw [Bool.eq_iff_iff, decide_eq_true_iff, cutN_filter]
  unfold cutsB nodupB
  rw [Bool.and_eq_true, Bool.and_eq_true, List.all_eq_true]
  have hF : ((numsL c.r0 c.n0).filter fun x => cutB d.r1 x d.n1).Nodup := hnd.sublist List.filter_sublist
  have hFm : ∀ x, x ∈ ((numsL c.r0 c.n0).filter fun x => cutB d.r1 x d.n1) ↔ x ∈ numsL c.r0 c.n0 ∧ x ∈ cutsL d := fun x => by
    rw [List.mem_filter]
    exact and_congr_right fun _ => cutB_mem _ _ _
  obtain ⟨h1, h2⟩ := nodup_sub_perm hF (fun x hx => ((hFm x).1 hx).2)
  rw [cutsL_len] at h1 h2
  constructor
  · rintro ⟨⟨_, hn⟩, hall⟩
    have hn' : (cutsL d).Nodup := of_decide_eq_true hn
    obtain ⟨h3, _⟩ := nodup_sub_perm hn' (b := (numsL c.r0 c.n0).filter fun x => cutB d.r1 x d.n1) (fun x hx => (hFm x).2 ⟨by simpa using hall x hx, hx⟩)
    rw [cutsL_len] at h3
    omega
  · intro h
    have hp := h2 (by omega)
    refine ⟨⟨decide_eq_true ?_, decide_eq_true (hp.nodup_iff.1 hF)⟩, fun x hx => ?_⟩
    · have := List.length_filter_le (fun x => cutB d.r1 x d.n1) (numsL c.r0 c.n0)
      rw [numsL_len] at this
      omega
    · have := ((hFm x).1 (hp.mem_iff.2 hx)).1
      simpa using this

end Go.Proofs.Ytplbhgcibfajaaa
