/- The order of users and numbers along a right row. No program in sight. -/
import Derived.Test.YtfnhlccpkommoaaVis
import Derived.Test.YtfnhlccpkommoaaEntsOkS
namespace Go.Proofs.Ytfnhlccpkommoaa
set_option maxRecDepth 100000
open Go.RowKit Go.Deep

theorem adj {E : Ents} {len : Nat} (h : rowOkB E len = true) (i : Nat) (hi : i + 1 < len) : cmpS (E.U i) (E.U (i + 1)) ≤ 0 ∧ (E.U i = E.U (i + 1) → E.Q (i + 1) ≤ E.Q i) := by
  have ho := ((rowOk_out h).2 (i + 1) hi).2 (by omega)
  rw [Nat.add_sub_cancel] at ho
  unfold ordI orI at ho
  rcases cmpS_cases (E.U i) (E.U (i + 1)) with ⟨a, _, c⟩ | ⟨a, _, c⟩ | ⟨a, _, c⟩
  · exact ⟨by omega, fun e => absurd e c⟩
  · refine ⟨by omega, fun _ => ?_⟩
    rw [a, if_pos rfl] at ho
    rcases cmpI_cases (E.Q (i + 1)) (E.Q i) with ⟨x, _, y⟩ | ⟨x, _, y⟩ | ⟨x, _, y⟩
    · omega
    · omega
    · rw [x] at ho; simp at ho
  · rw [a] at ho; simp at ho

theorem sorted {E : Ents} {len : Nat} (h : rowOkB E len = true) (j : Nat) : ∀ d, j + d < len → cmpS (E.U j) (E.U (j + d)) ≤ 0 ∧ (E.U j = E.U (j + d) → E.Q (j + d) ≤ E.Q j)
  | 0, _ => by
    rcases cmpS_cases (E.U j) (E.U j) with ⟨_, _, c⟩ | ⟨a, _, _⟩ | ⟨_, _, c⟩
    · exact absurd rfl c
    · exact ⟨by show cmpS (E.U j) (E.U j) ≤ 0; omega, fun _ => Int.le_refl _⟩
    · exact absurd rfl c
  | d + 1, hd => by
    obtain ⟨a1, a2⟩ := sorted h j d (by omega)
    obtain ⟨b1, b2⟩ := adj h (j + d) hd
    have hx : cmpS (E.U j) (E.U (j + d)) = -1 ∨ E.U j = E.U (j + d) := by
      rcases cmpS_cases (E.U j) (E.U (j + d)) with ⟨a, _, _⟩ | ⟨_, _, c⟩ | ⟨a, _, _⟩
      · exact .inl a
      · exact .inr c
      · omega
    have hy : cmpS (E.U (j + d)) (E.U (j + d + 1)) = -1 ∨ E.U (j + d) = E.U (j + d + 1) := by
      rcases cmpS_cases (E.U (j + d)) (E.U (j + d + 1)) with ⟨a, _, _⟩ | ⟨_, _, c⟩ | ⟨a, _, _⟩
      · exact .inl a
      · exact .inr c
      · omega
    show cmpS (E.U j) (E.U (j + d + 1)) ≤ 0 ∧ (E.U j = E.U (j + d + 1) → E.Q (j + d + 1) ≤ E.Q j)
    have hne : ∀ {x y : ByteArray}, cmpS x y = -1 → ¬ x = y := fun {x y} e => by
      rcases cmpS_cases x y with ⟨_, _, c⟩ | ⟨a, _, _⟩ | ⟨a, _, _⟩
      · exact c
      · omega
      · omega
    rcases hx with hx | hx
    · rcases hy with hy | hy
      · have ht := cmpS_trans hx hy
        exact ⟨by omega, fun e => absurd e (hne ht)⟩
      · rw [← hy]
        exact ⟨by omega, fun e => absurd e (hne hx)⟩
    · rw [hx]
      refine ⟨b1, fun e => Int.le_trans (b2 e) (a2 hx)⟩

end Go.Proofs.Ytfnhlccpkommoaa
