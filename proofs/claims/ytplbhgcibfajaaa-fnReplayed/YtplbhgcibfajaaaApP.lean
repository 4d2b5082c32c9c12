/- Edits, as the model puts them in. No walk. -/
import Derived.Test.YtplbhgcibfajaaaVerO
import Derived.Test.YtplbhgcibfajaaaEdit
namespace Go.Proofs.Ytplbhgcibfajaaa
set_option maxRecDepth 100000
open Go.RowKit

/-- Is x among the first k numbers. -/
def cutB (S : Nat → Int) (x : Int) : Nat → Bool
  | 0 => false
  | k + 1 => cutB S x k || decide (S k = x)
/-- The first k files without those that are cut; how many of them are. -/
def leftL (O : Metas) (S : Nat → Int) (n : Nat) : Nat → List Meta1
  | 0 => []
  | k + 1 => if cutB S (O.N k) n then leftL O S n k else leftL O S n k ++ [metaAt1 O k]
def cutN (O : Metas) (S : Nat → Int) (n : Nat) : Nat → Nat
  | 0 => 0
  | k + 1 => if cutB S (O.N k) n then cutN O S n k + 1 else cutN O S n k
theorem leftL_len (O : Metas) (S : Nat → Int) (n : Nat) : ∀ k, (leftL O S n k).length ≤ k
  | 0 => Nat.le_refl _
  | k + 1 => by
    have := leftL_len O S n k
    rw [leftL]
    split
    · omega
    · simp; omega
theorem cutN_le (O : Metas) (S : Nat → Int) (n : Nat) : ∀ k, cutN O S n k ≤ k
  | 0 => Nat.le_refl _
  | k + 1 => by
    have := cutN_le O S n k
    rw [cutN]
    split <;> omega

def ahM (a m : Meta1) : Bool := aheadB a.n a.l a.z m.n m.l m.f
/-- How many files at the front stand ahead of m. -/
def posM : List Meta1 → Meta1 → Nat
  | [], _ => 0
  | a :: l, m => if ahM a m then posM l m + 1 else 0
theorem posM_le : ∀ (l : List Meta1) (m : Meta1), posM l m ≤ l.length
  | [], _ => Nat.le_refl _
  | a :: l, m => by
    have := posM_le l m
    rw [posM]
    split <;> simp <;> omega
theorem posM_of : ∀ (l : List Meta1) (m : Meta1) (p : Nat), (∀ j, j < p → ∃ a, l[j]? = some a ∧ ahM a m = true) → (p = l.length ∨ ∃ a, l[p]? = some a ∧ ahM a m = false) → posM l m = p
  | [], m, p, h1, h2 => by
    rcases h2 with h2 | ⟨a, h2, _⟩
    · rw [h2]; rfl
    · simp at h2
  | a :: l, m, 0, h1, h2 => by
    rcases h2 with h2 | ⟨b, h2, h3⟩
    · simp at h2
    · obtain rfl : a = b := by simpa using h2
      rw [posM, if_neg (by rw [h3]; simp)]
  | a :: l, m, p + 1, h1, h2 => by
    obtain ⟨b, h3, h4⟩ := h1 0 (by omega)
    obtain rfl : a = b := by simpa using h3
    rw [posM, if_pos h4, posM_of l m p (fun j hj => by have := h1 (j + 1) (by omega); simpa using this) (by simpa using h2)]
def insM (l : List Meta1) (m : Meta1) : List Meta1 := l.take (posM l m) ++ [m] ++ l.drop (posM l m)
theorem insM_len (l : List Meta1) (m : Meta1) : (insM l m).length = l.length + 1 := by
  have := posM_le l m
  unfold insM
  simp only [List.length_append, List.length_take, List.length_drop, List.length_singleton]
  omega
def addsL (l : List Meta1) (A : Metas) : Nat → List Meta1
  | 0 => l
  | k + 1 => insM (addsL l A k) (metaAt1 A k)
theorem addsL_len (l : List Meta1) (A : Metas) : ∀ k, (addsL l A k).length = l.length + k
  | 0 => rfl
  | k + 1 => by rw [addsL, insM_len, addsL_len l A k]; omega

/-- What is asked of version and edit ahead of all. -/
def apG (c : VersionC) (d : EditC) : Bool := versB c && decide (¬ d.x2 < c.x1) && decide (¬ d.x3 < c.x2) && decide (¬ d.x4 < c.x3) && decide (d.n0 ≤ 30)
def apL (c : VersionC) (d : EditC) : List Meta1 := addsL (leftL c.r0 d.r1 d.n1 c.n0) d.r0 d.n0
def apV (c : VersionC) (d : EditC) : VersionC := vc (apL c d) d.x2 d.x3 d.x4
def apB (c : VersionC) (d : EditC) : Bool := apG c d && decide (cutN c.r0 d.r1 d.n1 c.n0 = d.n1) && versB (apV c d)
def apC (c : VersionC) (d : EditC) : VersionC := if apB c d then apV c d else zeroV
theorem apC_yes {c : VersionC} {d : EditC} (h : apB c d = true) : apC c d = apV c d := by rw [apC, if_pos h]
theorem apC_no {c : VersionC} {d : EditC} (h : apB c d = false) : apC c d = zeroV := by rw [apC, if_neg (by rw [h]; simp)]
theorem apB_g {c : VersionC} {d : EditC} (h : apG c d = false) : apB c d = false := by unfold apB; rw [h]; rfl
theorem apB_cut {c : VersionC} {d : EditC} (h : cutN c.r0 d.r1 d.n1 c.n0 ≠ d.n1) : apB c d = false := by unfold apB; rw [decide_eq_false h]; simp
theorem apB_end {c : VersionC} {d : EditC} (h : versB (apV c d) = false) : apB c d = false := by unfold apB; rw [h]; simp
theorem apB_yes {c : VersionC} {d : EditC} (h1 : apG c d = true) (h2 : cutN c.r0 d.r1 d.n1 c.n0 = d.n1) (h3 : versB (apV c d) = true) : apB c d = true := by unfold apB; rw [h1, h3, decide_eq_true h2]; rfl

/-- The cells of a row that is not nil. -/
theorem OwnMeta.cellsAt {w : World} {B g n cap : Nat} {es : List Meta1} (h : OwnMeta w B (.slice (Option.some ⟨g, 0, none⟩) n cap) es) : ∀ j u, (cellsMeta es)[j]? = Option.some u → w.cell? ⟨g, j, none⟩ = Option.some u := fun j u hu => by
  rcases h.2 with ⟨h0, _⟩ | ⟨g', cap', cur, hv, hg, hh, hle, hcap, hsz, htake⟩
  · cases h0
  · simp only [Value.slice.injEq, Option.some.injEq, Addr.mk.injEq, and_true] at hv
    obtain ⟨rfl, rfl, rfl⟩ := hv
    have hb : BoxIs w g cur 59 := hh
    rw [hb.cell j]
    have hj : j < es.length * 5 := by have := (List.getElem?_eq_some_iff.1 hu).1; rwa [cellsMeta_len] at this
    rw [← htake, List.getElem?_take, if_pos hj] at hu
    simpa using hu
theorem meta_take {w : World} {B g n cap m : Nat} {es : List Meta1} (h : OwnMeta w B (.slice (some ⟨g, 0, none⟩) n cap) es) : ∀ j u, (cellsMeta (es.take m))[j]? = some u → w.cell? ((⟨g, 0, none⟩ : Addr).add j) = some u := fun j u hu => by
  rw [Addr.add_lit]
  show w.cell? ⟨g, 0 + j, none⟩ = _
  rw [Nat.zero_add]
  exact h.cellsAt j u (cellsMeta_take hu)
theorem meta_drop {w : World} {B g n cap m : Nat} {es : List Meta1} (h : OwnMeta w B (.slice (some ⟨g, 0, none⟩) n cap) es) (hm : m ≤ es.length) {o : Nat} (ho : o = m * 5) : ∀ j u, (cellsMeta (es.drop m))[j]? = some u → w.cell? ((⟨g, o, none⟩ : Addr).add j) = some u := fun j u hu => by
  subst ho
  rw [Addr.add_lit]
  exact h.cellsAt _ u (cellsMeta_drop hm hu)
/-- Five cells of a row, by their place. -/
theorem OwnMeta.five {w : World} {B g n cap : Nat} {es : List Meta1} (h : OwnMeta w B (.slice (Option.some ⟨g, 0, none⟩) n cap) es) {i : Nat} {e : Meta1} (hi : es[i]? = Option.some e) :
    w.cell? ⟨g, i * 5, none⟩ = Option.some (.int .i64 e.n) ∧ w.cell? ⟨g, i * 5 + 1, none⟩ = Option.some (.int .i64 e.l) ∧ w.cell? ⟨g, i * 5 + 2, none⟩ = Option.some (.string e.f) ∧ w.cell? ⟨g, i * 5 + 3, none⟩ = Option.some (.string e.z) ∧ w.cell? ⟨g, i * 5 + 4, none⟩ = Option.some (.int .i64 e.c) := by
  obtain ⟨h0, h1, h2, h3, h4⟩ := cellsMeta_get es i e hi
  exact ⟨h.cellsAt _ _ h0, h.cellsAt _ _ h1, h.cellsAt _ _ h2, h.cellsAt _ _ h3, h.cellsAt _ _ h4⟩

/-- While the model puts an edit in: the version in block F, its row above W. -/
structure ApS (W : World) (F : Nat) (x2 x3 x4 : Int) (vo : Value) (l : List Meta1) (x : World) : Prop where
  ew : Below W.heap.size W x
  own : OwnMeta x W.heap.size vo l
  bx : BoxIs x F #[vo, .int .i64 x2, .int .i64 x3, .int .i64 x4] 32
  sh : ∃ g cap, vo = .slice (Option.some ⟨g, 0, none⟩) l.length cap
  hF : W.heap.size ≤ F
theorem ApS.next {W : World} {F : Nat} {x2 x3 x4 : Int} {vo : Value} {l : List Meta1} {x y : World} (h : ApS W F x2 x3 x4 vo l x) (hb : Below x.heap.size x y) : ApS W F x2 x3 x4 vo l y :=
  ⟨h.ew.trans (hb.mono h.ew.size), h.own.next hb, h.bx.next hb, h.sh, h.hF⟩

/-- A version whose row of files is one's own, and can be grown. -/
def VersionOwnM (w : World) (B : Nat) (u : Value) (c : VersionC) : Prop := ∃ va l, u = .agg #[va, .int .i64 c.x1, .int .i64 c.x2, .int .i64 c.x3] ∧ OwnMeta w B va l ∧ c = vc l c.x1 c.x2 c.x3
theorem VersionOwnM.own {w : World} {B : Nat} {u : Value} {c : VersionC} (h : VersionOwnM w B u c) : VersionOwn w B u c := by
  obtain ⟨va, l, rfl, ho, hc⟩ := h
  obtain ⟨a2, p2, hv2, hM2⟩ := ho.mine
  rw [hc]
  exact ⟨a2, p2, by rw [hv2]; rfl, hM2⟩
theorem zeroV_ownM (w : World) (B : Nat) : VersionOwnM w B (.agg #[.slice none 0 0, .int .i64 0, .int .i64 0, .int .i64 0]) zeroV := ⟨_, [], rfl, OwnMeta.nil w B, rfl⟩

end Go.Proofs.Ytplbhgcibfajaaa
