/- What SplitRun answers: lists. No walk. -/
import Derived.Test.YtjcoejabpagaiaaOwnEntry
import Derived.Test.YtjcoejabpagaiaaEntsOk
import Derived.Test.YtjcoejabpagaiaaRowG
namespace Go.Proofs.Ytjcoejabpagaiaa
set_option maxRecDepth 100000
open Go.RowKit Go.Deep

/-- Whether a run ends ahead of the i-th entry. -/
def cutAt (E : Ents) (most : Int) (p : List Entry1) (i : Nat) : Bool := decide (most ≤ (p.length : Int)) && !((E.U i).toList == (E.U (i - 1)).toList)
/-- The runs that are whole and the one that is open behind k entries. -/
def splO (E : Ents) (most : Int) : Nat → List (List Entry1) × List Entry1
  | 0 => ([], [])
  | k + 1 => if cutAt E most (splO E most k).2 k then ((splO E most k).1 ++ [(splO E most k).2], [entryAt1 E k]) else ((splO E most k).1, (splO E most k).2 ++ [entryAt1 E k])
/-- All of them. -/
def splS (E : Ents) (most : Int) (k : Nat) : List (List Entry1) := if k = 0 then [] else (splO E most k).1 ++ [(splO E most k).2]
/-- How the program holds them ahead of the k-th entry. -/
def splI (E : Ents) (most : Int) (len k : Nat) : List (List Entry1) × List Entry1 := if k = 0 then ([], []) else if k = len ∨ cutAt E most (splO E most k).2 k = true then ((splO E most k).1 ++ [(splO E most k).2], []) else splO E most k
def splitL (E : Ents) (len : Nat) (most : Int) : List (List Entry1) := if rowOkB E len = true ∧ 1 ≤ most then splS E most len else []
theorem split_yes {E : Ents} {len : Nat} {most : Int} (h : rowOkB E len = true) (h1 : 1 ≤ most) : splitL E len most = splS E most len := by unfold splitL; rw [if_pos ⟨h, h1⟩]
theorem split_no {E : Ents} {len : Nat} {most : Int} (h : ¬ (rowOkB E len = true ∧ 1 ≤ most)) : splitL E len most = [] := by unfold splitL; rw [if_neg h]
theorem splO_succ (E : Ents) (most : Int) (k : Nat) : splO E most (k + 1) = if cutAt E most (splO E most k).2 k then ((splO E most k).1 ++ [(splO E most k).2], [entryAt1 E k]) else ((splO E most k).1, (splO E most k).2 ++ [entryAt1 E k]) := rfl
theorem cut_none {E : Ents} {most : Int} (h : 1 ≤ most) (i : Nat) : cutAt E most [] i = false := by
  unfold cutAt
  rw [decide_eq_false (by simp; omega)]; rfl
theorem splO_one {E : Ents} {most : Int} (h : 1 ≤ most) : splO E most 1 = ([], [entryAt1 E 0]) := by
  rw [splO_succ]
  show (if cutAt E most [] 0 then _ else _) = _
  rw [cut_none h]; rfl
/-- The program's round. -/
theorem splI_step {E : Ents} {most : Int} {len k : Nat} (h : 1 ≤ most) (hk : k < len) : (splI E most len k).1 = (splO E most (k + 1)).1 ∧ (splI E most len k).2 ++ [entryAt1 E k] = (splO E most (k + 1)).2 := by
  unfold splI
  by_cases h0 : k = 0
  · subst h0
    rw [if_pos rfl, splO_one h]
    exact ⟨rfl, rfl⟩
  · rw [if_neg h0, splO_succ]
    cases hc : cutAt E most (splO E most k).2 k with
    | true =>
      rw [if_pos (.inr rfl), if_pos rfl]
      exact ⟨rfl, rfl⟩
    | false =>
      rw [if_neg (by rintro (h1 | h1) <;> first | omega | cases h1), if_neg (by decide)]
      exact ⟨rfl, rfl⟩
theorem splI_end {E : Ents} {most : Int} {len : Nat} : (splI E most len len).1 = splS E most len := by
  unfold splI splS
  split
  · rfl
  · rw [if_pos (.inl rfl)]
theorem splI_keep {E : Ents} {most : Int} {len k : Nat} (h : ¬ k + 1 = len) (hc : cutAt E most (splO E most (k + 1)).2 (k + 1) = false) : splI E most len (k + 1) = splO E most (k + 1) := by
  unfold splI
  rw [if_neg (by omega), if_neg (by rw [hc]; simp; exact h)]
theorem splI_cut {E : Ents} {most : Int} {len k : Nat} (h : k + 1 = len ∨ cutAt E most (splO E most (k + 1)).2 (k + 1) = true) : splI E most len (k + 1) = ((splO E most (k + 1)).1 ++ [(splO E most (k + 1)).2], []) := by
  unfold splI
  rw [if_neg (by omega), if_pos h]
/-- The model's round. -/
theorem splS_cut {E : Ents} {most : Int} {k : Nat} (h : 1 ≤ most) (hc : k = 0 ∨ cutAt E most (splO E most k).2 k = true) : splS E most (k + 1) = splS E most k ++ [[entryAt1 E k]] := by
  unfold splS
  rw [if_neg (by omega)]
  rcases hc with rfl | hc
  · rw [if_pos rfl, splO_one h]
  · by_cases h0 : k = 0
    · subst h0
      rw [if_pos rfl, splO_one h]
    · rw [if_neg h0, splO_succ, hc]; rfl
theorem splS_keep {E : Ents} {most : Int} {k : Nat} (h0 : ¬ k = 0) (hc : cutAt E most (splO E most k).2 k = false) : splS E most k = (splO E most k).1 ++ [(splO E most k).2] ∧ splS E most (k + 1) = (splO E most k).1 ++ [(splO E most k).2 ++ [entryAt1 E k]] := by
  unfold splS
  rw [if_neg h0, if_neg (by omega), splO_succ, hc]
  exact ⟨rfl, rfl⟩
/-- What is so of them. -/
structure SplG (E : Ents) (L : List (List Entry1)) (k : Nat) : Prop where
  all : L.flatten = entrysL E k
  some : ∀ r, r ∈ L → r ≠ []
  cut : ∀ i, 0 < i → i < L.length → E.U ((L.take i).flatten.length - 1) ≠ E.U ((L.take i).flatten.length)
theorem cut_ne {E : Ents} {most : Int} {p : List Entry1} {i : Nat} (h : cutAt E most p i = true) : E.U (i - 1) ≠ E.U i := by
  unfold cutAt at h
  rw [Bool.and_eq_true] at h
  intro e
  have := h.2
  rw [e] at this
  simp at this
theorem splG {E : Ents} {most : Int} (h : 1 ≤ most) : ∀ k, 0 < k → SplG E (splS E most k) k
  | 0, hk => by omega
  | 1, _ => by
    have e : splS E most 1 = [[entryAt1 E 0]] := by unfold splS; rw [if_neg (by omega), splO_one h]; rfl
    rw [e]
    exact ⟨rfl, fun r hr => by obtain rfl := List.mem_singleton.1 hr; simp, fun i h0 h1 => by simp at h1; omega⟩
  | k + 2, _ => by
    have ih := splG (E := E) h (k + 1) (by omega)
    cases hc : cutAt E most (splO E most (k + 1)).2 (k + 1) with
    | true =>
      rw [splS_cut h (.inr hc)]
      refine ⟨?_, fun r hr => ?_, fun i h0 h1 => ?_⟩
      · rw [List.flatten_append, ih.all, entrysL_succ E (k + 1)]; simp
      · rcases List.mem_append.1 hr with hr | hr
        · exact ih.some r hr
        · obtain rfl := List.mem_singleton.1 hr; simp
      · by_cases hi : i < (splS E most (k + 1)).length
        · rw [List.take_append_of_le_length (by omega)]
          exact ih.cut i h0 hi
        · have hi2 : i = (splS E most (k + 1)).length := by simp at h1; omega
          rw [hi2, List.take_append_of_le_length (Nat.le_refl _), List.take_length, ih.all, entrysL_len]
          exact cut_ne hc
    | false =>
      obtain ⟨e1, e2⟩ := splS_keep (E := E) (most := most) (k := k + 1) (by omega) hc
      rw [e1] at ih
      rw [e2]
      refine ⟨?_, fun r hr => ?_, fun i h0 h1 => ?_⟩
      · have := ih.all
        rw [entrysL_succ E (k + 1), ← this]
        simp
      · rcases List.mem_append.1 hr with hr | hr
        · exact ih.some r (List.mem_append_left _ hr)
        · obtain rfl := List.mem_singleton.1 hr; simp
      · have hi : i ≤ (splO E most (k + 1)).1.length := by simp at h1; omega
        have := ih.cut i h0 (by simp; omega)
        rw [List.take_append_of_le_length hi] at this ⊢
        exact this
/-- A run as it lies. -/
structure RunV where
  a : Option Addr
  p : Nat
  es : List Entry1
def RunV.v (e : RunV) : Value := .slice e.a e.es.length e.p
/-- Rows of entries that lie apart. -/
def apartV (x y : RunV) : Prop := x.v.ownBlock = none ∨ x.v.ownBlock ≠ y.v.ownBlock
/-- A row of runs of one's own: the row, each run's row, and that these lie apart. -/
structure OwnRuns (w : World) (B : Nat) (v : Value) (L : List RunV) : Prop where
  row : Own w B 39 v (L.map RunV.v)
  ent : ∀ e, e ∈ L → OwnEntry w B e.v e.es
  ap : L.Pairwise apartV
theorem OwnRuns.next {w w' : World} {B : Nat} {v : Value} {L : List RunV} (h : OwnRuns w B v L) (hb : Below w.heap.size w w') : OwnRuns w' B v L := ⟨Own.below h.row hb (Nat.le_refl _), fun e he => (h.ent e he).next hb, h.ap⟩
theorem OwnRuns.hid {w : World} {B : Nat} {v : Value} {L : List RunV} (h : OwnRuns w B v L) : Hid (OwnRuns w B v L) := h
theorem run_inf1 : (Try.prog.info? 39).map (fun i => (i.zero, i.size, i.bytes)) = some (some (.agg #[.slice none 0 0]), 1, 24) := by kernel_rfl

/-- 'append(v, u)', u one cell, told as growth. -/
theorem wpList_append_run {w : World} {ops : Array Oper} {rest : List Oper} {o : Oper} {a : Act} {Q : Exit → Act → World → Prop} (hgd : o.guard = none) (s x : Operand) (t : TypeId)
    (ho : o.op = .call { callee := .builtin .append, args := #[s, x], argTypes := #[t, t] }) (ht : Try.prog.underlying t = some (.slice 39))
    (B : Nat) (v u : Value) (xs : List Value) (hs : a.eval s = v) (ad : Addr) (hx : a.eval x = .slice (some ad) 1 1) (hc : w.cell? ad = some u) (hown : Own w B 39 v xs) (hu : u.oneCell' = true)
    (hB : B ≤ w.heap.size) (hlen : xs.length < 1000000)
    (h : ∀ v' w', Own w' B 39 v' (xs ++ [u]) → w.grownBy w' v.ownBlock → wpList Try.prog ops Q rest (a.put o.dst v') w') : wpList Try.prog ops Q (o :: rest) a w := by
  obtain ⟨i0, hi', hz0, hs0, hb0⟩ := info_parts run_inf1
  refine wpList_append_own w hgd s x t ho B 39 i0 _ 1 24 ht hi' hz0 hs0 hb0 rfl (by decide) v xs.length xs hs hown ad 1 1 [u] hx rfl ?_ ?_ (by unfold maxLen; omega) (by omega) hB ?_
  · intro j y hy
    match j, hy with
    | 0, hy => simp at hy; subst hy; simpa [Addr.add] using hc
  · intro y hy; simp at hy; subst hy; exact hu
  · intro v' w' h1 h2 _
    exact h v' w' (by simpa [Own] using h1) h2
/-- 'append(v, u...)' of entries, told as growth. -/
theorem wpList_append_entryG {w : World} {ops : Array Oper} {rest : List Oper} {o : Oper} {a : Act} {Q : Exit → Act → World → Prop} (hgd : o.guard = none) (s x : Operand) (t : TypeId)
    (ho : o.op = .call { callee := .builtin .append, args := #[s, x], argTypes := #[t, t] }) (ht : Try.prog.underlying t = some (.slice 43))
    (B : Nat) (v : Value) (es news : List Entry1) (hs : a.eval s = v) (hown : OwnEntry w B v es) (ad : Addr) (m c : Nat) (hx : a.eval x = .slice (some ad) m c) (hm : news.length = m)
    (hnews : ∀ j u, (cellsEntry news)[j]? = some u → w.cell? (ad.add j) = some u) (hB : B ≤ w.heap.size) (hlen : es.length + m ≤ 1000000)
    (h : ∀ v' w', OwnEntry w' B v' (es ++ news) → w.grownBy w' v.ownBlock → wpList Try.prog ops Q rest (a.put o.dst v') w') : wpList Try.prog ops Q (o :: rest) a w := by
  obtain ⟨i0, hi', hz0, hs0, hb0⟩ := info_parts entry_inf1
  refine wpList_append_own w hgd s x t ho B 43 i0 _ 4 48 ht hi' hz0 hs0 hb0 rfl (by decide) _ es.length (cellsEntry es) hs hown ad m c (cellsEntry news) hx (by rw [cellsEntry_len, hm]) hnews (cellsEntry_one news) (by unfold maxLen; omega) (by omega) hB ?_
  intro v' w' h1 h2 _
  refine h v' w' ?_ h2
  unfold OwnEntry
  rw [List.length_append, hm, cellsEntry_append]
  exact h1
theorem entU_sz {E : Ents} {i : Nat} (h : entOk E i = true) : (E.U i).size ≤ 281474976710656 ∧ (E.X i).size ≤ 281474976710656 := by
  unfold entOk entryOkB keyOkB at h
  simp only [Bool.and_eq_true, decide_eq_true_eq] at h
  omega

/-- What the program holds while it parts a row: D lies behind all runs that are whole. -/
structure SplSt (w x : World) (D : Nat) (v : Value) (L : List RunV) : Prop where
  runs : OwnRuns x w.heap.size v L
  ltv : ∀ g, v.ownBlock = some g → g < D
  ltL : ∀ e, e ∈ L → ∀ g, e.v.ownBlock = some g → g < D
  low : Below w.heap.size w x
  hD : w.heap.size ≤ D
  hX : D ≤ x.heap.size
theorem SplSt.below {w x y : World} {D : Nat} {v : Value} {L : List RunV} (h : SplSt w x D v L) (hb : Below D x y) : SplSt w y D v L :=
  ⟨⟨rg_block h.runs.row fun g _ _ hv => hb.block g (h.ltv g hv), fun e he => rg_block (h.runs.ent e he) fun g _ _ hv => hb.block g (h.ltL e he g hv), h.runs.ap⟩, h.ltv, h.ltL, h.low.trans (hb.mono h.hD), h.hD, Nat.le_trans h.hX hb.size⟩
theorem SplSt.next {w x y : World} {D : Nat} {v : Value} {L : List RunV} (h : SplSt w x D v L) (hb : Below x.heap.size x y) : SplSt w y D v L := h.below (hb.mono h.hX)
theorem SplSt.hid {w x : World} {D : Nat} {v : Value} {L : List RunV} (h : SplSt w x D v L) : Hid (SplSt w x D v L) := h
theorem splSt_nil (w : World) : SplSt w w w.heap.size (.slice none 0 0) [] := ⟨⟨Own.nil _ _ _, fun e he => absurd he List.not_mem_nil, List.Pairwise.nil⟩, fun g hg => by simp [Value.ownBlock] at hg, fun e he => absurd he List.not_mem_nil, Below.refl _ _, Nat.le_refl _, Nat.le_refl _⟩
/-- A run is whole. -/
theorem SplSt.more {w x y : World} {D : Nat} {v v' : Value} {L : List RunV} {r : RunV} (h : SplSt w x D v L) (hr : OwnEntry x D r.v r.es) (hg : x.grownBy y v.ownBlock) (ho : Own y w.heap.size 39 v' (L.map RunV.v ++ [r.v])) : SplSt w y y.heap.size v' (L ++ [r]) := by
  have hlow : Below w.heap.size x y := rg_low h.runs.row (Nat.le_trans h.hD h.hX) hg
  have he : ∀ e, e ∈ L ++ [r] → OwnEntry y w.heap.size e.v e.es := fun e he => by
    rcases List.mem_append.1 he with he | he
    · exact rg_row h.runs.row hg (h.runs.ent e he) (by decide)
    · obtain rfl := List.mem_singleton.1 he
      exact rg_row h.runs.row hg (OwnEntry.base hr h.hD) (by decide)
  refine ⟨⟨by rw [List.map_append]; exact ho, he, List.pairwise_append.2 ⟨h.runs.ap, List.pairwise_singleton _ _, fun a ha b hb => ?_⟩⟩, fun g hv => (World.ownsRow.lt ho g hv).2, fun e h1 g hv => (World.ownsRow.lt (he e h1) g hv).2, h.low.trans hlow, Nat.le_trans (Nat.le_trans h.hD h.hX) hlow.size, Nat.le_refl _⟩
  obtain rfl := List.mem_singleton.1 hb
  cases e : a.v.ownBlock with
  | none => exact .inl e
  | some g =>
    refine .inr fun e2 => ?_
    have h1 := h.ltL a ha g e
    have h2 := (World.ownsRow.lt hr g (e2 ▸ e)).1
    omega

end Go.Proofs.Ytjcoejabpagaiaa
