/- The order of users and numbers along a right row; which places are looked at. No program in sight. -/
import Derived.Test.YtapajchnfjjipaaNeed
namespace Go.Proofs.Ytapajchnfjjipaa
set_option maxRecDepth 100000
open Go.RowKit Go.Deep

theorem adj {E : Ents} {len : Nat} (h : rowOkB E len = true) (i : Nat) (hi : i + 1 < len) : cmpS (E.U i) (E.U (i + 1)) ≤ 0 ∧ (E.U i = E.U (i + 1) → E.Q (i + 1) ≤ E.Q i) := by
  have ho := ((rowOk_out h).2 (i + 1) hi).2 (by omega)
  rw [Nat.add_sub_cancel] at ho
  unfold ordI orI at ho
  rcases cmpS_cases (E.U i) (E.U (i + 1)) with ⟨a, _, c⟩ | ⟨a, _, c⟩ | ⟨a, _, c⟩
  · exact ⟨by omega, fun e => absurd e c⟩
  · refine ⟨by omega, fun _ => ?_⟩
    rw [a, if_pos rfl] at ho
    rcases cmpI_cases (E.Q (i + 1)) (E.Q i) with ⟨x, _, y⟩ | ⟨x, _, y⟩ | ⟨x, _, y⟩
    · omega
    · omega
    · rw [x] at ho; simp at ho
  · rw [a] at ho; simp at ho

theorem sorted {E : Ents} {len : Nat} (h : rowOkB E len = true) (j : Nat) : ∀ d, j + d < len → cmpS (E.U j) (E.U (j + d)) ≤ 0 ∧ (E.U j = E.U (j + d) → E.Q (j + d) ≤ E.Q j)
  | 0, _ => by
    rcases cmpS_cases (E.U j) (E.U j) with ⟨_, _, c⟩ | ⟨a, _, _⟩ | ⟨_, _, c⟩
    · exact absurd rfl c
    · exact ⟨by show cmpS (E.U j) (E.U j) ≤ 0; omega, fun _ => Int.le_refl _⟩
    · exact absurd rfl c
  | d + 1, hd => by
    obtain ⟨a1, a2⟩ := sorted h j d (by omega)
    obtain ⟨b1, b2⟩ := adj h (j + d) hd
    have hx : cmpS (E.U j) (E.U (j + d)) = -1 ∨ E.U j = E.U (j + d) := by
      rcases cmpS_cases (E.U j) (E.U (j + d)) with ⟨a, _, _⟩ | ⟨_, _, c⟩ | ⟨a, _, _⟩
      · exact .inl a
      · exact .inr c
      · omega
    have hy : cmpS (E.U (j + d)) (E.U (j + d + 1)) = -1 ∨ E.U (j + d) = E.U (j + d + 1) := by
      rcases cmpS_cases (E.U (j + d)) (E.U (j + d + 1)) with ⟨a, _, _⟩ | ⟨_, _, c⟩ | ⟨a, _, _⟩
      · exact .inl a
      · exact .inr c
      · omega
    show cmpS (E.U j) (E.U (j + d + 1)) ≤ 0 ∧ (E.U j = E.U (j + d + 1) → E.Q (j + d + 1) ≤ E.Q j)
    have hne : ∀ {x y : ByteArray}, cmpS x y = -1 → ¬ x = y := fun {x y} e => by
      rcases cmpS_cases x y with ⟨_, _, c⟩ | ⟨a, _, _⟩ | ⟨a, _, _⟩
      · exact c
      · omega
      · omega
    rcases hx with hx | hx
    · rcases hy with hy | hy
      · have ht := cmpS_trans hx hy
        exact ⟨by omega, fun e => absurd e (hne ht)⟩
      · rw [← hy]
        exact ⟨by omega, fun e => absurd e (hne hx)⟩
    · rw [hx]
      refine ⟨b1, fun e => Int.le_trans (b2 e) (a2 hx)⟩

theorem lastA_hit {E : Ents} {p : Int} {k : Nat} (h : E.Q k ≤ p) : lastA E p (k + 1) = E.U k := by
  show lkp _ _ _ _ = _
  unfold lkp
  by_cases e : E.U k = lastA E p k
  · split
    · rfl
    · exact e.symm
  · rw [if_pos (lk_yes e h)]
theorem lastA_miss {E : Ents} {p : Int} {k : Nat} (h : p < E.Q k) : lastA E p (k + 1) = lastA E p k := by
  show lkp _ _ _ _ = _
  unfold lkp
  rw [if_neg (by rw [lk_high h]; decide)]
theorem lastA_of (E : Ents) (p : Int) : ∀ k, lastA E p k = ⟨#[]⟩ ∨ ∃ j, j < k ∧ lastA E p k = E.U j ∧ E.Q j ≤ p
  | 0 => .inl rfl
  | k + 1 => by
    by_cases h : E.Q k ≤ p
    · exact .inr ⟨k, by omega, lastA_hit h, h⟩
    · rw [lastA_miss (by omega)]
      rcases lastA_of E p k with e | ⟨j, hj, e, hq⟩
      · exact .inl e
      · exact .inr ⟨j, by omega, e, hq⟩

/-- The model's way to say it. -/
def firstB (E : Ents) (p : Int) (k : Nat) : Bool := decide (E.Q k ≤ p) && (decide (k = 0) || decide (E.U (k - 1) ≠ E.U k) || decide (p < E.Q (k - 1)))
theorem lkA_first {E : Ents} {len : Nat} (h : rowOkB E len = true) (p : Int) (k : Nat) (hk : k < len) : lkA E p k = firstB E p k := by
  unfold lkA lk firstB
  by_cases hq : E.Q k ≤ p
  · rw [decide_eq_true hq, Bool.and_true, Bool.true_and]
    have hu : (E.U k).size ≠ 0 := by
      have := (keyOk_iff.1 (keyOk_of_ent ((rowOk_out h).2 k hk).1)).1
      omega
    rcases Nat.eq_zero_or_pos k with rfl | hk0
    · rw [decide_eq_true (p := (0 : Nat) = 0) rfl, Bool.true_or, Bool.true_or]
      refine decide_eq_true fun e => hu ?_
      rw [e]; rfl
    · obtain ⟨j, rfl⟩ : ∃ j, k = j + 1 := ⟨k - 1, by omega⟩
      rw [decide_eq_false (p := j + 1 = 0) (by omega), Bool.false_or, Nat.add_sub_cancel]
      by_cases hs : E.U j = E.U (j + 1)
      · rw [decide_eq_false (p := E.U j ≠ E.U (j + 1)) (fun c => c hs), Bool.false_or]
        by_cases hp : p < E.Q j
        · rw [decide_eq_true hp]
          refine decide_eq_true fun e => ?_
          rcases lastA_of E p (j + 1) with c | ⟨i, hi, c, hc⟩
          · rw [e, c] at hu; exact hu rfl
          · have h2 := (sorted h i (j - i) (by omega)).2
            rw [show i + (j - i) = j by omega] at h2
            have := h2 (by rw [hs, e, c])
            omega
        · rw [decide_eq_false hp]
          exact decide_eq_false fun c => c (by rw [lastA_hit (by omega), hs])
      · rw [decide_eq_true (p := E.U j ≠ E.U (j + 1)) hs, Bool.true_or]
        refine decide_eq_true fun e => ?_
        rcases lastA_of E p (j + 1) with c | ⟨i, hi, c, hc⟩
        · rw [e, c] at hu; exact hu rfl
        · have h1 := (sorted h i (j - i) (by omega)).1
          rw [show i + (j - i) = j by omega] at h1
          have h2 := (adj h j hk).1
          rw [← c, ← e] at h1
          rcases cmpS_cases (E.U j) (E.U (j + 1)) with ⟨x, y, z⟩ | ⟨x, y, z⟩ | ⟨x, y, z⟩
          · omega
          · exact hs z
          · omega
  · rw [decide_eq_false hq, Bool.and_false, Bool.false_and]

/-- The points of the model: the snapshots, then the greatest. -/
def ptsL (S : Nat → Int) (n : Nat) : List Int := (List.range n).map S ++ [1000000000000]
theorem pts_needA {E : Ents} {len : Nat} (h : rowOkB E len = true) (S : Nat → Int) (n k : Nat) (hk : k < len) : (ptsL S n).any (fun p => firstB E p k) = needA E (seqsL S n) k := by
  unfold ptsL needA seqsL
  rw [List.any_append, List.any_cons, List.any_cons, List.any_nil, Bool.or_false, Bool.or_comm]
  congr 1
  · exact (lkA_first h _ k hk).symm
  · congr 1
    funext p
    exact (lkA_first h p k hk).symm
theorem ptsL_len (S : Nat → Int) (n : Nat) : (ptsL S n).length = n + 1 := by simp [ptsL]

end Go.Proofs.Ytapajchnfjjipaa
