/- Files of a disk, in the order of their names: lists, and what is done to them. No walk. -/
import Derived.Test.YtejedpmkbkclhaaOwnFile
import Derived.Test.YtejedpmkbkclhaaOwnDOp
namespace Go.Proofs.Ytejedpmkbkclhaa
set_option maxRecDepth 100000
open Go.RowKit

theorem lessF_asymm : ∀ x y : List UInt8, Op.bytesLess x y = true → Op.bytesLess y x = false
  | [], [], h => by simp [Op.bytesLess] at h
  | [], _ :: _, _ => by simp [Op.bytesLess]
  | _ :: _, [], h => by simp [Op.bytesLess] at h
  | a :: x, b :: y, h => by
    simp only [Op.bytesLess] at h ⊢
    have := lessF_asymm x y
    by_cases h1 : a < b
    · have h2 : ¬ b < a := fun h2 => by rw [UInt8.lt_iff_toNat_lt] at h1 h2; omega
      have h3 : ¬ b = a := fun h3 => by subst h3; rw [UInt8.lt_iff_toNat_lt] at h1; omega
      simp [h2, h3]
    · simp [h1] at h
      obtain ⟨rfl, h⟩ := h
      simp [h1, this h]
theorem lessF_tri : ∀ x y : List UInt8, Op.bytesLess x y = false → Op.bytesLess y x = false → x = y
  | [], [], _, _ => rfl
  | [], _ :: _, h, _ => by simp [Op.bytesLess] at h
  | _ :: _, [], _, h => by simp [Op.bytesLess] at h
  | a :: x, b :: y, h, k => by
    simp only [Op.bytesLess] at h k
    have := lessF_tri x y
    have e : a = b := by
      apply UInt8.toNat_inj.1
      simp [UInt8.lt_iff_toNat_lt] at h k
      omega
    subst e
    simp at h k
    rw [this h k]
theorem lessF_trans : ∀ x y z : List UInt8, Op.bytesLess x y = true → Op.bytesLess y z = true → Op.bytesLess x z = true
  | [], _, [], h, k => by cases ‹List UInt8› <;> simp [Op.bytesLess] at h k
  | [], _, _ :: _, _, _ => by simp [Op.bytesLess]
  | _ :: _, [], _, h, _ => by simp [Op.bytesLess] at h
  | _ :: _, _ :: _, [], _, k => by simp [Op.bytesLess] at k
  | a :: x, b :: y, c :: z, h, k => by
    simp only [Op.bytesLess] at h k ⊢
    have := lessF_trans x y z
    by_cases h1 : a < b <;> by_cases h2 : b < c
    · have : a < c := by rw [UInt8.lt_iff_toNat_lt] at *; omega
      simp [this]
    · simp [h2] at k
      obtain ⟨rfl, k⟩ := k
      simp [h1]
    · simp [h1] at h
      obtain ⟨rfl, h⟩ := h
      simp [h2]
    · simp [h1] at h
      simp [h2] at k
      obtain ⟨rfl, h⟩ := h
      obtain ⟨rfl, k⟩ := k
      simp [this h k]
theorem toListF_inj {x y : ByteArray} (h : x.toList = y.toList) : x = y := by
  rw [ByteArray.toList_eq, ByteArray.toList_eq] at h
  exact ByteArray.ext (Array.toList_inj.1 h)

/-- One name stands ahead of another; two names differ. -/
def nmL (a b : ByteArray) : Bool := Op.bytesLess a.toList b.toList
def nmN (a b : ByteArray) : Bool := nmL a b || nmL b a
theorem nmL_asymm {a b : ByteArray} (h : nmL a b = true) : nmL b a = false := lessF_asymm _ _ h
theorem nmL_irr (a : ByteArray) : nmL a a = false := by
  cases h : nmL a a
  · rfl
  · rw [nmL_asymm h] at h; exact h.symm
theorem nmL_trans {a b c : ByteArray} (h : nmL a b = true) (k : nmL b c = true) : nmL a c = true := lessF_trans _ _ _ h k
theorem nmL_tri {a b : ByteArray} (h : nmL a b = false) (k : nmL b a = false) : a = b := toListF_inj (lessF_tri _ _ h k)
theorem nmN_self (a : ByteArray) : nmN a a = false := by unfold nmN; rw [nmL_irr]; rfl
theorem nmN_eq {a b : ByteArray} (h : nmN a b = false) : a = b := by
  unfold nmN at h
  simp only [Bool.or_eq_false_iff] at h
  exact nmL_tri h.1 h.2
theorem nmN_ne {a b : ByteArray} (h : nmN a b = true) : a ≠ b := fun e => by subst e; rw [nmN_self] at h; cases h
theorem nmN_of {a b : ByteArray} (h : a ≠ b) : nmN a b = true := by
  cases k : nmN a b
  · exact absurd (nmN_eq k) h
  · rfl
theorem nmN_comm (a b : ByteArray) : nmN a b = nmN b a := by unfold nmN; exact Bool.or_comm _ _

/-- The files rise by their names. -/
def RisF (l : List File1) : Prop := l.Pairwise (fun a b => nmL a.n b.n = true)
def sizeF : List File1 → Nat
  | [] => 0
  | f :: l => f.d.size + sizeF l
theorem sizeF_append : ∀ a b : List File1, sizeF (a ++ b) = sizeF a + sizeF b
  | [], b => by simp [sizeF]
  | f :: a, b => by simp only [List.cons_append, sizeF, sizeF_append a b]; omega
/-- The data of a name. -/
def lkF : List File1 → ByteArray → Option ByteArray
  | [], _ => none
  | f :: l, n => if nmN f.n n then lkF l n else some f.d
/-- The files without one name; with one more. -/
def cutF (l : List File1) (n : ByteArray) : List File1 := l.filter (fun f => nmN f.n n)
def putF (l : List File1) (n d : ByteArray) : List File1 := l.filter (fun f => nmL f.n n) ++ ⟨n, d⟩ :: l.filter (fun f => nmL n f.n)

theorem lkF_none {n : ByteArray} : ∀ {l : List File1}, lkF l n = none ↔ ∀ f, f ∈ l → nmN f.n n = true
  | [] => by simp [lkF]
  | f :: l => by
    have ih := lkF_none (n := n) (l := l)
    cases h : nmN f.n n
    · simp [lkF, h]
    · simp [lkF, h, ih]
theorem lkF_mem {l : List File1} (hr : RisF l) {f : File1} (hf : f ∈ l) : lkF l f.n = some f.d := by
  induction l with
  | nil => cases hf
  | cons g l ih =>
    have hp := List.pairwise_cons.1 hr
    rcases List.mem_cons.1 hf with rfl | hm
    · rw [lkF, nmN_self, if_neg (by decide)]
    · have h1 := hp.1 f hm
      rw [lkF, if_pos (by unfold nmN; rw [h1]; rfl)]
      exact ih hp.2 hm
theorem lkF_some {l : List File1} {n d : ByteArray} (h : lkF l n = some d) : (⟨n, d⟩ : File1) ∈ l := by
  induction l with
  | nil => cases h
  | cons g l ih =>
    rw [lkF] at h
    cases hn : nmN g.n n
    · rw [hn, if_neg (by decide)] at h
      obtain rfl := nmN_eq hn
      obtain rfl := Option.some.inj h
      exact List.mem_cons_self
    · rw [hn, if_pos rfl] at h
      exact List.mem_cons_of_mem _ (ih h)
theorem risF_cut {l : List File1} (h : RisF l) (n : ByteArray) : RisF (cutF l n) := h.filter _
theorem risF_put {l : List File1} (h : RisF l) (n d : ByteArray) : RisF (putF l n d) := by
  unfold RisF putF
  refine List.pairwise_append.2 ⟨h.filter _, List.pairwise_cons.2 ⟨fun b hb => (List.mem_filter.1 hb).2, h.filter _⟩, fun a ha b hb => ?_⟩
  have h1 : nmL a.n n = true := (List.mem_filter.1 ha).2
  rcases List.mem_cons.1 hb with rfl | hb
  · exact h1
  · exact nmL_trans h1 (List.mem_filter.1 hb).2
theorem mem_cutF {l : List File1} {n : ByteArray} {f : File1} : f ∈ cutF l n ↔ f ∈ l ∧ f.n ≠ n := by
  unfold cutF
  rw [List.mem_filter]
  exact ⟨fun h => ⟨h.1, nmN_ne h.2⟩, fun h => ⟨h.1, nmN_of h.2⟩⟩
theorem mem_putF {l : List File1} {n d : ByteArray} {f : File1} : f ∈ putF l n d ↔ f = ⟨n, d⟩ ∨ f ∈ l ∧ f.n ≠ n := by
  unfold putF
  rw [List.mem_append, List.mem_cons, List.mem_filter, List.mem_filter]
  constructor
  · rintro (⟨h1, h2⟩ | rfl | ⟨h1, h2⟩)
    · exact .inr ⟨h1, nmN_ne (by unfold nmN; rw [h2]; rfl)⟩
    · exact .inl rfl
    · exact .inr ⟨h1, nmN_ne (by unfold nmN; rw [h2]; simp)⟩
  · rintro (rfl | ⟨h1, h2⟩)
    · exact .inr (.inl rfl)
    · have := nmN_of h2
      unfold nmN at this
      rcases Bool.or_eq_true _ _ ▸ this with h | h
      · exact .inl ⟨h1, h⟩
      · exact .inr (.inr ⟨h1, h⟩)
theorem lkF_iff {l : List File1} (hr : RisF l) {n d : ByteArray} : lkF l n = some d ↔ (⟨n, d⟩ : File1) ∈ l := ⟨lkF_some, fun h => lkF_mem hr h⟩
theorem lkF_ext {l m : List File1} (hl : RisF l) (hm : RisF m) {n k : ByteArray} (h : ∀ d, (⟨n, d⟩ : File1) ∈ l ↔ (⟨k, d⟩ : File1) ∈ m) : lkF l n = lkF m k := by
  cases e : lkF m k with
  | some d => rw [lkF_iff hl, h d, ← lkF_iff hm, e]
  | none =>
    cases e2 : lkF l n with
    | none => rfl
    | some d => rw [lkF_iff hl, h d, ← lkF_iff hm, e] at e2; cases e2
theorem lkF_put_same {l : List File1} (hr : RisF l) (n d : ByteArray) : lkF (putF l n d) n = some d := (lkF_iff (risF_put hr n d)).2 (mem_putF.2 (.inl rfl))
theorem lkF_put_other {l : List File1} (hr : RisF l) {n d k : ByteArray} (h : k ≠ n) : lkF (putF l n d) k = lkF l k :=
  lkF_ext (risF_put hr n d) hr fun e => by
    rw [mem_putF]
    constructor
    · rintro (h1 | h1)
      · exact absurd (File1.mk.inj h1).1 h
      · exact h1.1
    · exact fun h1 => .inr ⟨h1, h⟩
theorem lkF_cut_same (l : List File1) (n : ByteArray) : lkF (cutF l n) n = none := lkF_none.2 fun _ hf => nmN_of (mem_cutF.1 hf).2
theorem lkF_cut_other {l : List File1} (hr : RisF l) {n k : ByteArray} (h : k ≠ n) : lkF (cutF l n) k = lkF l k :=
  lkF_ext (risF_cut hr n) hr fun e => by rw [mem_cutF]; exact ⟨fun h1 => h1.1, fun h1 => ⟨h1, h⟩⟩
/-- What a name's data take of the whole. -/
theorem sizeF_cut {l : List File1} (hr : RisF l) (n : ByteArray) : sizeF l = sizeF (cutF l n) + ((lkF l n).getD ⟨#[]⟩).size := by
  induction l with
  | nil => rfl
  | cons g l ih =>
    have hp := List.pairwise_cons.1 hr
    have := ih hp.2
    cases hn : nmN g.n n
    · obtain rfl := nmN_eq hn
      have hc : cutF (g :: l) g.n = l := by
        unfold cutF
        rw [List.filter_cons, if_neg (by rw [hn]; decide)]
        exact List.filter_eq_self.2 fun x hx => by have := hp.1 x hx; unfold nmN; rw [this]; simp
      rw [hc, lkF, hn, if_neg (by decide), sizeF]
      show _ = sizeF l + g.d.size
      omega
    · have hc : cutF (g :: l) n = g :: cutF l n := by unfold cutF; rw [List.filter_cons, if_pos hn]
      rw [hc, lkF, if_pos hn, sizeF, sizeF]
      omega
theorem sizeF_put (l : List File1) (n d : ByteArray) : sizeF (putF l n d) = sizeF (cutF l n) + d.size := by
  have : ∀ l : List File1, sizeF (l.filter (fun f => nmL f.n n)) + sizeF (l.filter (fun f => nmL n f.n)) = sizeF (cutF l n) := by
    intro l
    induction l with
    | nil => rfl
    | cons g l ih =>
      unfold cutF at ih ⊢
      rw [List.filter_cons, List.filter_cons, List.filter_cons]
      cases h1 : nmL g.n n
      · cases h2 : nmL n g.n
        · rw [if_neg (by decide), if_neg (by decide), if_neg (by unfold nmN; rw [h1, h2]; decide)]; exact ih
        · rw [if_neg (by decide), if_pos rfl, if_pos (by unfold nmN; rw [h1, h2]; rfl), sizeF, sizeF]; omega
      · have h2 := nmL_asymm h1
        rw [h2, if_pos rfl, if_neg (by decide), if_pos (by unfold nmN; rw [h1]; rfl), sizeF, sizeF]; omega
  have h := this l
  unfold putF
  rw [sizeF_append, sizeF]
  show _ + (d.size + _) = _
  omega
theorem putF_length (l : List File1) (n d : ByteArray) : (putF l n d).length = (cutF l n).length + 1 := by
  have : ∀ l : List File1, (l.filter (fun f => nmL f.n n)).length + (l.filter (fun f => nmL n f.n)).length = (cutF l n).length := by
    intro l
    induction l with
    | nil => rfl
    | cons g l ih =>
      unfold cutF at ih ⊢
      rw [List.filter_cons, List.filter_cons, List.filter_cons]
      cases h1 : nmL g.n n
      · cases h2 : nmL n g.n
        · rw [if_neg (by decide), if_neg (by decide), if_neg (by unfold nmN; rw [h1, h2]; decide)]; exact ih
        · rw [if_neg (by decide), if_pos rfl, if_pos (by unfold nmN; rw [h1, h2]; rfl), List.length_cons, List.length_cons]; omega
      · have h2 := nmL_asymm h1
        rw [h2, if_pos rfl, if_neg (by decide), if_pos (by unfold nmN; rw [h1]; rfl), List.length_cons, List.length_cons]; omega
  have h := this l
  unfold putF
  rw [List.length_append, List.length_cons]
  omega
theorem cutF_length (l : List File1) (n : ByteArray) : (cutF l n).length ≤ l.length := List.length_filter_le _ _
/-- Putting of a name that is not there, or is cut first. -/
theorem cut_put (l : List File1) (n d : ByteArray) : putF (cutF l n) n d = putF l n d := by
  unfold putF cutF
  rw [List.filter_filter, List.filter_filter]
  congr 1
  · refine List.filter_congr fun f _ => ?_
    cases h : nmL f.n n
    · rfl
    · unfold nmN; rw [h]; rfl
  · congr 1
    refine List.filter_congr fun f _ => ?_
    cases h : nmL n f.n
    · rfl
    · unfold nmN; rw [h]; simp
theorem cutF_none {l : List File1} {n : ByteArray} (h : lkF l n = none) : cutF l n = l := List.filter_eq_self.2 fun f hf => (lkF_none.1 h) f hf
/-- Two that rise, of one length, one of them within the other: they are one. -/
theorem risF_sub : ∀ {l m : List File1}, RisF l → RisF m → (∀ f, f ∈ m → f ∈ l) → m.length ≤ l.length ∧ (m.length = l.length → m = l)
  | [], [], _, _, _ => ⟨Nat.le_refl _, fun _ => rfl⟩
  | [], b :: m, _, _, h => by have := h b List.mem_cons_self; cases this
  | a :: l, [], _, _, _ => ⟨Nat.zero_le _, fun h => by simp at h⟩
  | a :: l, b :: m, hl, hm, h => by
    have hpl := List.pairwise_cons.1 hl
    have hpm := List.pairwise_cons.1 hm
    rcases List.mem_cons.1 (h b List.mem_cons_self) with rfl | hb
    · have hs : ∀ f, f ∈ m → f ∈ l := fun f hf => by
        rcases List.mem_cons.1 (h f (List.mem_cons_of_mem _ hf)) with rfl | h1
        · have := hpm.1 f hf; rw [nmL_irr] at this; cases this
        · exact h1
      have ih := risF_sub hpl.2 hpm.2 hs
      exact ⟨by simp only [List.length_cons]; omega, fun e => by rw [ih.2 (by simpa using e)]⟩
    · have hab := hpl.1 b hb
      have hs : ∀ f, f ∈ b :: m → f ∈ l := fun f hf => by
        rcases List.mem_cons.1 (h f hf) with rfl | h1
        · rcases List.mem_cons.1 hf with rfl | h2
          · exact hb
          · have := hpm.1 f h2; rw [nmL_asymm hab] at this; cases this
        · exact h1
      have ih := risF_sub hpl.2 hm hs
      exact ⟨by simp only [List.length_cons] at ih ⊢; omega, fun e => by simp only [List.length_cons] at ih e; omega⟩
theorem risF_same {l m : List File1} (hl : RisF l) (hm : RisF m) (hn : m.length = l.length) (h : ∀ f, f ∈ m → lkF l f.n = some f.d) : m = l :=
  (risF_sub hl hm fun f hf => lkF_some (h f hf)).2 hn

/-- What an op asks for has the form of its kind. -/
def nameB (s : ByteArray) : Bool := decide (1 ≤ s.size ∧ s.size ≤ 100)
def formB (o : DOp1) : Bool := nameB o.n && (if o.k = 1 then decide (o.t.size = 0) else if o.k = 2 then nameB o.t && decide (o.d.size = 0) else if o.k = 3 then decide (o.t.size = 0) && decide (o.d.size = 0) else false)
/-- The files behind an op; whether it found a file where it wants one. -/
def doF (l : List File1) (o : DOp1) : List File1 := if o.k = 1 then putF l o.n ((lkF l o.n).getD ⟨#[]⟩ ++ o.d) else match lkF l o.n with
  | none => l
  | some d => if o.k = 2 then putF (cutF l o.n) o.t d else cutF l o.n
def doB (l : List File1) (o : DOp1) : Bool := decide (o.k = 1) || (lkF l o.n).isSome
def fitsB (l : List File1) : Bool := decide (l.length ≤ 60) && decide (sizeF l ≤ 200000)
theorem risF_do {l : List File1} (h : RisF l) (o : DOp1) : RisF (doF l o) := by
  unfold doF
  split
  · exact risF_put h _ _
  · split
    · exact h
    · split
      · exact risF_put (risF_cut h _) _ _
      · exact risF_cut h _
/-- A row of files is right. -/
def stepF (O : Files) (i : Nat) : Bool := nameB (O.N i) && (decide (i = 0) || nmL (O.N (i - 1)) (O.N i))
def stepsF (O : Files) (k : Nat) : Bool := (List.range k).all (stepF O)
def sizeTo (O : Files) : Nat → Nat
  | 0 => 0
  | k + 1 => sizeTo O k + (O.D k).size
def filesB (O : Files) (n : Nat) : Bool := decide (n ≤ 60) && stepsF O n && decide (sizeTo O n ≤ 200000)
theorem stepsF_succ (O : Files) (k : Nat) : stepsF O (k + 1) = (stepsF O k && stepF O k) := by simp [stepsF, List.range_succ]
theorem stepsF_stop {O : Files} {k : Nat} (h : stepF O k = false) : ∀ {n : Nat}, k < n → stepsF O n = false
  | 0, hk => by omega
  | n + 1, hk => by
    rw [stepsF_succ]
    rcases Nat.lt_or_eq_of_le (Nat.lt_succ_iff.1 hk) with h1 | rfl
    · rw [stepsF_stop h h1]; rfl
    · rw [h]; simp
theorem sizeTo_list (O : Files) : ∀ n, sizeTo O n = sizeF (filesL O n)
  | 0 => rfl
  | n + 1 => by rw [sizeTo, filesL_succ, sizeF_append, sizeTo_list O n]; simp [sizeF, fileAt1]
theorem stepsF_ris {O : Files} : ∀ {n : Nat}, stepsF O n = true → RisF (filesL O n) ∧ ∀ i, i < n → nameB (O.N i) = true
  | 0, _ => ⟨List.Pairwise.nil, fun i hi => by omega⟩
  | n + 1, h => by
    rw [stepsF_succ, Bool.and_eq_true] at h
    obtain ⟨ih, hn⟩ := stepsF_ris h.1
    have hs := h.2
    unfold stepF at hs
    rw [Bool.and_eq_true] at hs
    refine ⟨?_, fun i hi => ?_⟩
    · rw [filesL_succ]
      refine List.pairwise_append.2 ⟨ih, List.pairwise_singleton _ _, fun a ha b hb => ?_⟩
      obtain rfl := List.mem_singleton.1 hb
      obtain ⟨i, hi, rfl⟩ := List.mem_map.1 ha
      have hi := List.mem_range.1 hi
      have hl : nmL (O.N (n - 1)) (O.N n) = true := by
        have := hs.2
        rw [decide_eq_false (by omega)] at this
        simpa using this
      show nmL (O.N i) (O.N n) = true
      by_cases e : i = n - 1
      · rw [e]; exact hl
      · have h2 := List.pairwise_iff_getElem.1 ih i (n - 1) (by simp [filesL]; omega) (by simp [filesL]; omega) (by omega)
        simp only [filesL, List.getElem_map, List.getElem_range] at h2
        exact nmL_trans h2 hl
    · by_cases e : i = n
      · rw [e]; exact hs.1
      · exact hn i (by omega)
theorem filesB_ris {O : Files} {n : Nat} (h : filesB O n = true) : RisF (filesL O n) ∧ (∀ i, i < n → nameB (O.N i) = true) ∧ n ≤ 60 ∧ sizeF (filesL O n) ≤ 200000 := by
  unfold filesB at h
  rw [Bool.and_eq_true, Bool.and_eq_true, decide_eq_true_eq, decide_eq_true_eq, sizeTo_list] at h
  obtain ⟨h1, h2⟩ := stepsF_ris h.1.2
  exact ⟨h1, h2, h.1.1, h.2⟩
/-- Of files that rise, with right names, that is asked which is asked of their number and size. -/
theorem filesB_list {l : List File1} (hr : RisF l) (hn : ∀ f, f ∈ l → nameB f.n = true) : filesB (fnFile l) l.length = fitsB l := by
  have hs : ∀ k, k ≤ l.length → stepsF (fnFile l) k = true := by
    intro k
    induction k with
    | zero => intro _; rfl
    | succ k ih =>
      intro hk
      rw [stepsF_succ, ih (by omega)]
      have e := fnFile_at l k (by omega)
      have e1 : (fnFile l).N k = l[k].n := by rw [← e]; rfl
      unfold stepF
      rw [e1, hn _ (List.getElem_mem _)]
      by_cases h0 : k = 0
      · simp [h0]
      · have e2 : (fnFile l).N (k - 1) = l[k - 1].n := by rw [← fnFile_at l (k - 1) (by omega)]; rfl
        have := List.pairwise_iff_getElem.1 hr (k - 1) k (by omega) (by omega) (by omega)
        rw [e2, this]; simp
  unfold filesB fitsB
  rw [hs _ (Nat.le_refl _), sizeTo_list, fnFile_list, Bool.and_true]

/-- The op at a place of a row; the files behind the first k ops; whether all went well. -/
def opAt (O : DOps) (i : Nat) : DOp1 := ⟨O.K i, O.N i, O.T i, O.D i⟩
def seeF (S : List File1) (O : DOps) : Nat → List File1
  | 0 => S
  | k + 1 => doF (seeF S O k) (opAt O k)
def seeB (S : List File1) (O : DOps) : Nat → Bool
  | 0 => true
  | k + 1 => seeB S O k && (formB (opAt O k) && doB (seeF S O k) (opAt O k) && fitsB (doF (seeF S O k) (opAt O k)))
theorem seeB_stop {S : List File1} {O : DOps} {k : Nat} (h : (formB (opAt O k) && doB (seeF S O k) (opAt O k) && fitsB (doF (seeF S O k) (opAt O k))) = false) : ∀ {n : Nat}, k < n → seeB S O n = false
  | 0, hk => by omega
  | n + 1, hk => by
    rw [seeB]
    rcases Nat.lt_or_eq_of_le (Nat.lt_succ_iff.1 hk) with h1 | rfl
    · rw [seeB_stop h h1]; rfl
    · rw [h]; simp
theorem risF_see {S : List File1} (h : RisF S) (O : DOps) : ∀ k, RisF (seeF S O k)
  | 0 => h
  | k + 1 => risF_do (risF_see h O k) _
/-- Names stay right. -/
theorem names_do {l : List File1} {o : DOp1} (hf : formB o = true) (h : ∀ f, f ∈ l → nameB f.n = true) : ∀ f, f ∈ doF l o → nameB f.n = true := by
  intro f hm
  unfold formB at hf
  rw [Bool.and_eq_true] at hf
  unfold doF at hm
  by_cases h1 : o.k = 1
  · rw [if_pos h1] at hm
    rcases mem_putF.1 hm with rfl | ⟨hm, _⟩
    · exact hf.1
    · exact h f hm
  · rw [if_neg h1] at hm
    split at hm
    · exact h f hm
    · by_cases h2 : o.k = 2
      · rw [if_pos h2] at hm
        rcases mem_putF.1 hm with rfl | ⟨hm, _⟩
        · have := hf.2
          rw [if_neg h1, if_pos h2, Bool.and_eq_true] at this
          exact this.1
        · exact h f (mem_cutF.1 hm).1
      · rw [if_neg h2] at hm
        exact h f (mem_cutF.1 hm).1
theorem names_see {S : List File1} {O : DOps} (h : ∀ f, f ∈ S → nameB f.n = true) : ∀ k, seeB S O k = true → ∀ f, f ∈ seeF S O k → nameB f.n = true
  | 0, _ => h
  | k + 1, hs => by
    rw [seeB, Bool.and_eq_true, Bool.and_eq_true, Bool.and_eq_true] at hs
    exact names_do hs.2.1.1 (names_see h k hs.1)
theorem fits_see {S : List File1} {O : DOps} (h : fitsB S = true) : ∀ k, seeB S O k = true → fitsB (seeF S O k) = true
  | 0, _ => h
  | k + 1, hs => by
    rw [seeB, Bool.and_eq_true, Bool.and_eq_true, Bool.and_eq_true] at hs
    exact hs.2.2

/-- A disk is right. -/
def sameB (l m : List File1) : Bool := decide (l.length = m.length) && m.all (fun f => match lkF l f.n with | some d => decide (d.toList = f.d.toList) | none => false)
theorem sameB_iff {l m : List File1} (hl : RisF l) (hm : RisF m) : sameB l m = true ↔ l = m := by
  unfold sameB
  rw [Bool.and_eq_true, decide_eq_true_eq, List.all_eq_true]
  constructor
  · rintro ⟨h1, h2⟩
    refine (risF_same hl hm h1.symm fun f hf => ?_).symm
    have := h2 f hf
    cases e : lkF l f.n with
    | none => rw [e] at this; cases this
    | some d => rw [e] at this; rw [toListF_inj (of_decide_eq_true this)]
  · rintro rfl
    exact ⟨rfl, fun f hf => by rw [lkF_mem hl hf]; simp⟩
def diskB (L : Files) (nl : Nat) (S : Files) (ns : Nat) (O : DOps) (no : Nat) : Bool := filesB L nl && filesB S ns && decide (no ≤ 200) && seeB (filesL S ns) O no && sameB (seeF (filesL S ns) O no) (filesL L nl)

end Go.Proofs.Ytejedpmkbkclhaa
