/- The order of the entries of a batch's ops, by the places of the ops: no two are alike, since each has its own number. -/
import Derived.Test.YtljmfdcilnbjaabKeyG
import Derived.Test.YtljmfdcilnbjaabKOrd
import Derived.Test.YtljmfdcilnbjaabBatchE
import Derived.Shelf.SlSortCmp.Insertion
namespace Go.Proofs.Ytljmfdcilnbjaab
set_option maxRecDepth 100000
open Go.RowKit Go.Deep Go.Sort

def encB (O : Ops) (q : Int) (i : Nat) : List Value := [.string (O.U i), .int .i64 (q + (i : Int)), .int .i64 (O.K i), .string (O.X i)]
def cfB (O : Ops) (q : Int) (i j : Nat) : Int := keyLess (O.U i) (q + (i : Int)) (O.K i) (O.U j) (q + (j : Int)) (O.K j)

theorem cmpS_refl (x : ByteArray) : cmpS x x = 0 := by
  rcases cmpS_cases x x with ⟨_, _, n⟩ | ⟨a, _, _⟩ | ⟨_, _, n⟩
  · exact absurd rfl n
  · exact a
  · exact absurd rfl n

theorem cfB_lt (O : Ops) (q : Int) (i j : Nat) : cfB O q i j < 0 ↔ (cmpS (O.U i) (O.U j) = -1 ∨ (O.U i = O.U j ∧ j < i)) := by
  unfold cfB keyLess orI
  rcases cmpS_cases (O.U i) (O.U j) with ⟨a, _, n⟩ | ⟨a, _, e⟩ | ⟨a, _, n⟩
  · simp [a]
  · rw [a]
    rcases cmpI_cases (q + (j : Int)) (q + (i : Int)) with ⟨b, _, l⟩ | ⟨b, _, l⟩ | ⟨b, _, l⟩
    · have : j < i := by omega
      simp [b, e, this]
    · have h : i = j := by omega
      subst h
      simp [cmpI]
    · have : ¬ j < i := by omega
      simp [b, this]
  · simp [a, n]

theorem cfB_swo (O : Ops) (q : Int) : SWO (ltOf (cfB O q)) := by
  have h : ∀ i j, ltOf (cfB O q) i j = true ↔ (cmpS (O.U i) (O.U j) = -1 ∨ (O.U i = O.U j ∧ j < i)) := fun i j => by
    unfold ltOf; rw [decide_eq_true_iff]; exact cfB_lt O q i j
  have hn : ∀ i j, ltOf (cfB O q) i j = false ↔ ¬ (cmpS (O.U i) (O.U j) = -1 ∨ (O.U i = O.U j ∧ j < i)) := fun i j => by
    rw [← h, Bool.not_eq_true]
  have tr : ∀ x y z, (cmpS (O.U x) (O.U y) = -1 ∨ (O.U x = O.U y ∧ y < x)) → (cmpS (O.U y) (O.U z) = -1 ∨ (O.U y = O.U z ∧ z < y)) → (cmpS (O.U x) (O.U z) = -1 ∨ (O.U x = O.U z ∧ z < x)) := by
    rintro x y z (a | ⟨a, b⟩) (c | ⟨c, d⟩)
    · exact .inl (cmpS_trans a c)
    · exact .inl (by rw [← c]; exact a)
    · exact .inl (by rw [a]; exact c)
    · exact .inr ⟨a.trans c, by omega⟩
  refine ⟨fun x => ?_, fun x y z hx hy => ?_, fun x y z hx hy => ?_⟩
  · rw [hn, cmpS_refl]; simp
  · rw [h] at *; exact tr x y z hx hy
  · rw [hn] at *
    intro hz
    rcases cmpS_cases (O.U x) (O.U y) with ⟨a, _, _⟩ | ⟨_, _, e⟩ | ⟨_, b, _⟩
    · exact hx (.inl a)
    · by_cases hl : y < x
      · exact hx (.inr ⟨e, hl⟩)
      · rcases Nat.lt_or_ge x y with l | l
        · exact hy (tr y x z (.inr ⟨e.symm, l⟩) hz)
        · have : x = y := by omega
          subst this
          exact hy hz
    · exact hy (tr y x z (.inl b) hz)

/-- Two that are not parted are one. -/
theorem cfB_one (O : Ops) (q : Int) (x y : Nat) (hx : ltOf (cfB O q) x y = false) (hy : ltOf (cfB O q) y x = false) : x = y := by
  have hn : ∀ i j, ltOf (cfB O q) i j = false → ¬ (cmpS (O.U i) (O.U j) = -1 ∨ (O.U i = O.U j ∧ j < i)) := fun i j h k => by
    unfold ltOf at h; rw [decide_eq_false_iff_not] at h; exact h ((cfB_lt O q i j).2 k)
  have a := hn _ _ hx
  have b := hn _ _ hy
  rcases cmpS_cases (O.U x) (O.U y) with ⟨c, _, _⟩ | ⟨_, _, e⟩ | ⟨_, c, _⟩
  · exact absurd (.inl c) a
  · rcases Nat.lt_trichotomy x y with l | l | l
    · exact absurd (.inr ⟨e.symm, l⟩) b
    · exact l
    · exact absurd (.inr ⟨e, l⟩) a
  · exact absurd (.inl c) b

end Go.Proofs.Ytljmfdcilnbjaab
