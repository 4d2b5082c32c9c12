/- Places put in, one by one, where their keys belong: the row that is sorted by key. -/
import Derived.Test.YtljmfdcilnbjaabSortO
namespace Go.Proofs.Ytljmfdcilnbjaab
set_option maxRecDepth 100000
open Go.RowKit Go.Deep Go.Sort

def ltB (O : Ops) (q : Int) : Nat → Nat → Bool := ltOf (cfB O q)

def ins (O : Ops) (q : Int) (k : Nat) : List Nat → List Nat
  | [] => [k]
  | x :: m => if ltB O q x k then x :: ins O q k m else k :: x :: m

theorem ins_perm (O : Ops) (q : Int) (k : Nat) : ∀ m, (ins O q k m).Perm (k :: m)
  | [] => List.Perm.refl _
  | x :: m => by
    unfold ins
    split
    · exact ((ins_perm O q k m).cons x).trans (List.Perm.swap _ _ _)
    · exact List.Perm.refl _

theorem ins_len (O : Ops) (q : Int) (k : Nat) (m : List Nat) : (ins O q k m).length = m.length + 1 := by rw [(ins_perm O q k m).length_eq]; rfl

theorem ins_sorted (O : Ops) (q : Int) (k : Nat) : ∀ m, m.Pairwise (fun x y => (!ltB O q y x) = true) → (ins O q k m).Pairwise (fun x y => (!ltB O q y x) = true)
  | [], _ => by simp [ins]
  | x :: m, h => by
    have hO : SWO (ltB O q) := cfB_swo O q
    obtain ⟨h1, h2⟩ := List.pairwise_cons.1 h
    unfold ins
    split
    · rename_i hx
      refine List.pairwise_cons.2 ⟨fun y hy => ?_, ins_sorted O q k m h2⟩
      rcases List.mem_cons.1 ((ins_perm O q k m).mem_iff.1 hy) with rfl | hy
      · rw [Bool.not_eq_true']
        rcases hc : ltB O q y x with _ | _
        · rfl
        · have := hO.trans x y x hx hc
          rw [hO.irrefl x] at this
          exact absurd this (by decide)
      · exact h1 y hy
    · rename_i hx
      have hx' : ltB O q x k = false := by simpa using hx
      refine List.pairwise_cons.2 ⟨fun y hy => ?_, h⟩
      rw [Bool.not_eq_true']
      rcases List.mem_cons.1 hy with rfl | hy
      · exact hx'
      · exact hO.ntrans y x k (by simpa using h1 y hy) hx'

def putAll (O : Ops) (q : Int) (n : Nat) : List Nat := (List.range n).foldl (fun m k => ins O q k m) []

theorem putAll_succ (O : Ops) (q : Int) (n : Nat) : putAll O q (n + 1) = ins O q n (putAll O q n) := by
  unfold putAll
  rw [List.range_succ, List.foldl_append]; rfl

theorem putAll_perm (O : Ops) (q : Int) : ∀ n, (putAll O q n).Perm (List.range n)
  | 0 => List.Perm.refl _
  | n + 1 => by
    rw [putAll_succ, List.range_succ]
    exact (ins_perm O q n _).trans (((putAll_perm O q n).cons n).trans (List.perm_append_singleton n _).symm)

theorem putAll_len (O : Ops) (q : Int) (n : Nat) : (putAll O q n).length = n := by rw [(putAll_perm O q n).length_eq, List.length_range]

theorem putAll_sorted (O : Ops) (q : Int) : ∀ n, (putAll O q n).Pairwise (fun x y => (!ltB O q y x) = true)
  | 0 => List.Pairwise.nil
  | n + 1 => by rw [putAll_succ]; exact ins_sorted O q n _ (putAll_sorted O q n)

theorem putAll_eq (O : Ops) (q : Int) (n : Nat) : putAll O q n = (List.range n).mergeSort fun x y => !(ltOf (cfB O q)) y x := by
  have hO : SWO (ltB O q) := cfB_swo O q
  have hs : ((List.range n).mergeSort fun x y => !(ltOf (cfB O q)) y x).Pairwise (fun x y => (!ltB O q y x) = true) := by
    refine List.pairwise_mergeSort (fun x y z a b => ?_) (fun x y => ?_) _
    · rw [Bool.not_eq_true'] at *
      exact hO.ntrans z y x b a
    · cases h : ltB O q y x with
      | false => simp
      | true =>
        have : ltB O q x y = false := by
          cases h2 : ltB O q x y with
          | false => rfl
          | true => have := hO.trans y x y h h2; rw [hO.irrefl y] at this; exact absurd this (by decide)
        simp [this]
  refine List.Perm.eq_of_pairwise (fun x y _ _ a b => ?_) (putAll_sorted O q n) hs ((putAll_perm O q n).trans (List.mergeSort_perm _ _).symm)
  rw [Bool.not_eq_true'] at a b
  exact cfB_one O q x y b a

/-- The same, as a loop over the row does it: what was laid so far, and whether the new one is among it. -/
def stepB (O : Ops) (q : Int) (k : Nat) (s : List Nat × Bool) (x : Nat) : List Nat × Bool :=
  if ltB O q x k then (s.1 ++ [x], s.2) else if s.2 then (s.1 ++ [x], true) else (s.1 ++ [k] ++ [x], true)

theorem foldB_true (O : Ops) (q : Int) (k : Nat) : ∀ (m acc : List Nat), (m.foldl (stepB O q k) (acc, true)) = (acc ++ m, true)
  | [], acc => by simp
  | x :: m, acc => by
    rw [List.foldl_cons]
    have : stepB O q k (acc, true) x = (acc ++ [x], true) := by unfold stepB; split <;> simp
    rw [this, foldB_true O q k m]; simp

theorem foldB_false (O : Ops) (q : Int) (k : Nat) : ∀ (m acc : List Nat), (let s := m.foldl (stepB O q k) (acc, false); if s.2 then s.1 else s.1 ++ [k]) = acc ++ ins O q k m
  | [], acc => by simp [ins]
  | x :: m, acc => by
    rw [List.foldl_cons]
    cases h : ltB O q x k with
    | true =>
      have e : stepB O q k (acc, false) x = (acc ++ [x], false) := by simp [stepB, h]
      rw [e, foldB_false O q k m]
      simp [ins, h]
    | false =>
      have e : stepB O q k (acc, false) x = (acc ++ [k] ++ [x], true) := by simp [stepB, h]
      rw [e, foldB_true]
      simp [ins, h]

end Go.Proofs.Ytljmfdcilnbjaab
