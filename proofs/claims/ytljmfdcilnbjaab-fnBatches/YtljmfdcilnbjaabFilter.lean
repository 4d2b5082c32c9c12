/- FilterOk, of the program and of the model; the copies that the laws make of a filter. -/
import Derived.Test.YtljmfdcilnbjaabRows
import Derived.Test.YtljmfdcilnbjaabBase
import Derived.Lib.SmallJoins
namespace Go.Proofs.Ytljmfdcilnbjaab
set_option maxRecDepth 100000
open Go.RowKit

def sumsB (bs : ByteArray) : Bool := bs.data.toList.all fun b => decide (b.toNat ≤ 127)

theorem bt_nat (s : ByteArray) (i : Nat) (h : i < s.size) : (s[i]'h).toNat = (s.data.toList[i]'(by simpa using h)).toNat := rfl

theorem sumsB_yes {bs : ByteArray} (h : ∀ i (hi : i < bs.size), ¬ (127 : Int) < (((bs[i]'hi).toNat : Nat) : Int)) : sumsB bs = true := by
  unfold sumsB
  rw [List.all_eq_true]
  intro b hb
  obtain ⟨i, hi, rfl⟩ := List.getElem_of_mem hb
  have := h i (by simpa using hi)
  rw [bt_nat] at this
  exact decide_eq_true (by omega)

theorem sumsB_no {bs : ByteArray} (i : Nat) (hi : i < bs.size) (h : (127 : Int) < (((bs[i]'hi).toNat : Nat) : Int)) : sumsB bs = false := by
  rw [Bool.eq_false_iff]
  intro e
  unfold sumsB at e
  rw [List.all_eq_true] at e
  have := of_decide_eq_true (e (bs.data.toList[i]'(by simpa using hi)) (List.getElem_mem _))
  rw [bt_nat] at h
  omega

def filterOkB (kd sd pr : Int) (bs : ByteArray) : Bool :=
  if kd = 0 then decide (sd = 0 ∧ pr = 0 ∧ bs.size = 0)
  else if kd = 1 then decide (sd = 0 ∧ 1 ≤ pr ∧ pr ≤ 30 ∧ 1 ≤ bs.size ∧ bs.size ≤ 1000)
  else if kd = 2 then decide (pr = 0 ∧ 0 ≤ sd ∧ sd ≤ 3 ∧ 20 ≤ bs.size ∧ bs.size ≤ 600) && sumsB bs
  else false

/-- The ways through FilterOk. -/
inductive FCase : Int → Int → Int → ByteArray → Bool → Prop
  | none : FCase 0 0 0 ⟨#[]⟩ true
  | none1 (sd pr : Int) (bs : ByteArray) (a : ¬ sd = 0) : FCase 0 sd pr bs false
  | none2 (pr : Int) (bs : ByteArray) (a : ¬ pr = 0) : FCase 0 0 pr bs false
  | none3 (bs : ByteArray) (a : ¬ bs.toList = []) : FCase 0 0 0 bs false
  | bl (pr : Int) (bs : ByteArray) (a : 1 ≤ pr) (b : pr ≤ 30) (c : (1 : Int) ≤ (bs.size : Int)) (d : (bs.size : Int) ≤ 1000) : FCase 1 0 pr bs true
  | bl1 (sd pr : Int) (bs : ByteArray) (a : ¬ sd = 0) (a2 : (sd == 0) = false) : FCase 1 sd pr bs false
  | bl2 (pr : Int) (bs : ByteArray) (a : ¬ 1 ≤ pr) : FCase 1 0 pr bs false
  | bl3 (pr : Int) (bs : ByteArray) (a : 1 ≤ pr) (b : ¬ pr ≤ 30) : FCase 1 0 pr bs false
  | bl4 (pr : Int) (bs : ByteArray) (a : 1 ≤ pr) (b : pr ≤ 30) (c : ¬ (1 : Int) ≤ (bs.size : Int)) : FCase 1 0 pr bs false
  | bl5 (pr : Int) (bs : ByteArray) (a : 1 ≤ pr) (b : pr ≤ 30) (c : (1 : Int) ≤ (bs.size : Int)) (d : ¬ (bs.size : Int) ≤ 1000) : FCase 1 0 pr bs false
  | rb1 (sd pr : Int) (bs : ByteArray) (a : ¬ pr = 0) (a2 : (pr == 0) = false) : FCase 2 sd pr bs false
  | rb2 (sd : Int) (bs : ByteArray) (a : ¬ 0 ≤ sd) : FCase 2 sd 0 bs false
  | rb3 (sd : Int) (bs : ByteArray) (a : 0 ≤ sd) (b : ¬ sd ≤ 3) (b2 : ¬ sd < 4) : FCase 2 sd 0 bs false
  | rb4 (sd : Int) (bs : ByteArray) (a : 0 ≤ sd) (b : sd ≤ 3) (b2 : sd < 4) (c : ¬ (20 : Int) ≤ (bs.size : Int)) : FCase 2 sd 0 bs false
  | rb5 (sd : Int) (bs : ByteArray) (a : 0 ≤ sd) (b : sd ≤ 3) (b2 : sd < 4) (c : (20 : Int) ≤ (bs.size : Int)) (d : ¬ (bs.size : Int) ≤ 600) : FCase 2 sd 0 bs false
  | rb (sd : Int) (bs : ByteArray) (a : 0 ≤ sd) (b : sd ≤ 3) (b2 : sd < 4) (c : (20 : Int) ≤ (bs.size : Int)) (d : (bs.size : Int) ≤ 600) : FCase 2 sd 0 bs (sumsB bs)
  | other (kd sd pr : Int) (bs : ByteArray) (a : ¬ kd = 0) (b : ¬ kd = 1) (c : ¬ kd = 2) (a2 : (kd == 0) = false) (b2 : (kd == 1) = false) (c2 : (kd == 2) = false) : FCase kd sd pr bs false

theorem empty_of_size {bs : ByteArray} (h : bs.size = 0) : bs = ⟨#[]⟩ := ByteArray.ext (Array.eq_empty_of_size_eq_zero h)

theorem fcase (kd sd pr : Int) (bs : ByteArray) : FCase kd sd pr bs (filterOkB kd sd pr bs) := by
  have ne : ∀ x y : Int, ¬ x = y → (x == y) = false := fun x y h => by simp [h]
  by_cases k0 : kd = 0
  · subst k0
    have e : filterOkB 0 sd pr bs = decide (sd = 0 ∧ pr = 0 ∧ bs.size = 0) := rfl
    rw [e]
    by_cases a : sd = 0
    · subst a
      by_cases b : pr = 0
      · subst b
        by_cases c : bs.size = 0
        · rw [decide_eq_true ⟨rfl, rfl, c⟩, empty_of_size c]
          exact .none
        · rw [decide_eq_false (by omega)]
          refine .none3 _ fun h => c ?_
          have : bs.size = bs.data.toList.length := by simp
          rw [this, ← ByteArray.toList_eq, h]; rfl
      · rw [decide_eq_false (by omega)]; exact .none2 _ _ b
    · rw [decide_eq_false (by omega)]; exact .none1 _ _ _ a
  · by_cases k1 : kd = 1
    · subst k1
      have e : filterOkB 1 sd pr bs = decide (sd = 0 ∧ 1 ≤ pr ∧ pr ≤ 30 ∧ 1 ≤ bs.size ∧ bs.size ≤ 1000) := rfl
      rw [e]
      by_cases a : sd = 0
      · subst a
        by_cases b : 1 ≤ pr
        · by_cases c : pr ≤ 30
          · by_cases d : 1 ≤ bs.size
            · by_cases f : bs.size ≤ 1000
              · rw [decide_eq_true ⟨rfl, b, c, d, f⟩]; exact .bl _ _ b c (by omega) (by omega)
              · rw [decide_eq_false (by omega)]; exact .bl5 _ _ b c (by omega) (by omega)
            · rw [decide_eq_false (by omega)]; exact .bl4 _ _ b c (by omega)
          · rw [decide_eq_false (by omega)]; exact .bl3 _ _ b c
        · rw [decide_eq_false (by omega)]; exact .bl2 _ _ b
      · rw [decide_eq_false (by omega)]; exact .bl1 _ _ _ a (ne _ _ a)
    · by_cases k2 : kd = 2
      · subst k2
        have e : filterOkB 2 sd pr bs = (decide (pr = 0 ∧ 0 ≤ sd ∧ sd ≤ 3 ∧ 20 ≤ bs.size ∧ bs.size ≤ 600) && sumsB bs) := rfl
        rw [e]
        by_cases a : pr = 0
        · subst a
          by_cases b : 0 ≤ sd
          · by_cases c : sd ≤ 3
            · by_cases d : 20 ≤ bs.size
              · by_cases f : bs.size ≤ 600
                · rw [decide_eq_true ⟨rfl, b, c, d, f⟩, Bool.true_and]; exact .rb _ _ b c (by omega) (by omega) (by omega)
                · rw [decide_eq_false (by omega), Bool.false_and]; exact .rb5 _ _ b c (by omega) (by omega) (by omega)
              · rw [decide_eq_false (by omega), Bool.false_and]; exact .rb4 _ _ b c (by omega) (by omega)
            · rw [decide_eq_false (by omega), Bool.false_and]; exact .rb3 _ _ b c (by omega)
          · rw [decide_eq_false (by omega), Bool.false_and]; exact .rb2 _ _ b
        · rw [decide_eq_false (by omega), Bool.false_and]; exact .rb1 _ _ _ a (ne _ _ a)
      · have e : filterOkB kd sd pr bs = false := by unfold filterOkB; rw [if_neg k0, if_neg k1, if_neg k2]
        rw [e]
        exact .other _ _ _ _ k0 k1 k2 (ne _ _ k0) (ne _ _ k1) (ne _ _ k2)

theorem filterOk_bd {kd sd pr : Int} {bs : ByteArray} (h : filterOkB kd sd pr bs = true) : 0 ≤ kd ∧ kd ≤ 2 ∧ 0 ≤ sd ∧ sd ≤ 3 ∧ 0 ≤ pr ∧ pr ≤ 30 ∧ bs.size ≤ 1000 := by
  have c := fcase kd sd pr bs
  obtain ⟨v, hv⟩ : ∃ v, filterOkB kd sd pr bs = v := ⟨_, rfl⟩
  rw [h] at hv
  subst hv
  rw [h] at c
  generalize hv : true = v at c
  cases c <;> first | (cases hv; done) | (refine ⟨?_, ?_, ?_, ?_, ?_, ?_, ?_⟩ <;> first | omega | decide)

theorem ret_boolF {a b : Bool} (h : a = b) : Ending.returned (.bool a) = .returned (.bool b) := by rw [h]

def IsFilter (v : Value) : Prop := ∃ (kd sd pr : Int) (bs : ByteArray), v = .agg #[.int .i64 kd, .int .i64 sd, .int .i64 pr, .string bs] ∧ bs.size ≤ maxLen ∧ (Lit.int .i64 kd).wf = true ∧ (Lit.int .i64 sd).wf = true ∧ (Lit.int .i64 pr).wf = true

end Go.Proofs.Ytljmfdcilnbjaab
