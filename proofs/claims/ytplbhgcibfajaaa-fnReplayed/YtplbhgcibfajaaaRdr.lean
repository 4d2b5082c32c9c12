/- The small reader of the program: a number, a byte, a text, and what is left. -/
import Derived.Test.YtplbhgcibfajaaaText
import Derived.Test.YtplbhgcibfajaaaDraw
import Derived.Test.YtplbhgcibfajaaaEntry
namespace Go.Proofs.Ytplbhgcibfajaaa
set_option maxRecDepth 100000
open Go.RowKit

/-- The reader lies in block g, r is what is left to be read, m that something was missing. -/
structure RdrAt (w : World) (g : Nat) (r : ByteArray) (m : Bool) : Prop where
  lt : g < w.heap.size
  c0 : w.cell? ⟨g, 0, none⟩ = some (.string r)
  c1 : w.cell? ⟨g, 1, none⟩ = some (.bool m)
  f0 : w.frozen? ⟨g, 0, none⟩ = false
  f1 : w.frozen? ⟨g, 1, none⟩ = false

/-- A number: itself, what is left, that none was there. -/
def rnum (r : ByteArray) : Int × ByteArray × Bool :=
  match tva r 10 0 0 with
  | none => (0, ⟨#[]⟩, true)
  | some (n, k) => if 9223372036854775807 < n then (0, ⟨#[]⟩, true) else (n, r.extract k r.size, false)

theorem rnum_none {r : ByteArray} (h : tva r 10 0 0 = none) : rnum r = (0, ⟨#[]⟩, true) := by rw [rnum, h]
theorem rnum_big {r : ByteArray} {n : Int} {k : Nat} (h : tva r 10 0 0 = some (n, k)) (hn : 9223372036854775807 < n) : rnum r = (0, ⟨#[]⟩, true) := by rw [rnum, h]; simp only [if_pos hn]
theorem rnum_some {r : ByteArray} {n : Int} {k : Nat} (h : tva r 10 0 0 = some (n, k)) (hn : ¬ 9223372036854775807 < n) : rnum r = (n, r.extract k r.size, false) := by rw [rnum, h]; simp only [if_neg hn]

/-- What is left is no longer than what was there; the number is an int64. -/
theorem rnum_bd (r : ByteArray) : (rnum r).2.1.size ≤ r.size ∧ 0 ≤ (rnum r).1 ∧ (rnum r).1 ≤ 9223372036854775807 := by
  cases h : tva r 10 0 0 with
  | none => rw [rnum_none h]; exact ⟨Nat.zero_le _, by decide, by decide⟩
  | some x =>
    obtain ⟨n, k⟩ := x
    by_cases hn : 9223372036854775807 < n
    · rw [rnum_big h hn]; exact ⟨Nat.zero_le _, by decide, by decide⟩
    · rw [rnum_some h hn]
      exact ⟨by simp, tva_nonneg r 10 0 0 h (by omega), by omega⟩

/-- A byte: itself, what is left, that none was there. -/
def rbyte (r : ByteArray) : Int × ByteArray × Bool := if r.size = 0 then (0, ⟨#[]⟩, true) else (bt r 0, r.extract 1 r.size, false)

/-- Where the text at the beginning lies, if there is one. -/
def rtx (r : ByteArray) : Option (Nat × Nat) :=
  match tva r 10 0 0 with
  | none => none
  | some (n, k) => if 60000 < n ∨ (r.size : Int) < k + n then none else some (k, k + n.toNat)

/-- A text: itself, what is left, that none was there. -/
def rtext (r : ByteArray) : ByteArray × ByteArray × Bool :=
  match rtx r with
  | none => (⟨#[]⟩, ⟨#[]⟩, true)
  | some (k, e) => (r.extract k e, r.extract e r.size, false)

theorem rtx_none {r : ByteArray} (h : rtx r = none) : ∀ n k, tva r 10 0 0 = some (n, k) → 60000 < n ∨ (r.size : Int) < k + n := by
  intro n k hv
  rw [rtx, hv] at h
  by_cases hc : 60000 < n ∨ (r.size : Int) < k + n
  · exact hc
  · simp only [if_neg hc] at h; cases h

theorem rtx_some {r : ByteArray} {k e : Nat} (h : rtx r = some (k, e)) : ∃ m : Nat, e = k + m ∧ tva r 10 0 0 = some ((m : Int), k) ∧ ¬ (60000 < (m : Int) ∨ (r.size : Int) < k + m) := by
  cases hv : tva r 10 0 0 with
  | none => rw [rtx, hv] at h; cases h
  | some x =>
    obtain ⟨n, k'⟩ := x
    rw [rtx, hv] at h
    by_cases hc : 60000 < n ∨ (r.size : Int) < k' + n
    · simp only [if_pos hc] at h; cases h
    · simp only [if_neg hc, Option.some.injEq, Prod.mk.injEq] at h
      obtain ⟨rfl, rfl⟩ := h
      have hn0 := tva_nonneg r 10 0 0 hv (by omega)
      obtain ⟨m, rfl⟩ := Int.eq_ofNat_of_zero_le hn0
      exact ⟨m, by simp, rfl, hc⟩

theorem rtext_none {r : ByteArray} (h : rtx r = none) : rtext r = (⟨#[]⟩, ⟨#[]⟩, true) := by rw [rtext, h]
theorem rtext_some {r : ByteArray} {k e : Nat} (h : rtx r = some (k, e)) : rtext r = (r.extract k e, r.extract e r.size, false) := by rw [rtext, h]

theorem rtext_bd (r : ByteArray) : (rtext r).2.1.size ≤ r.size ∧ (rtext r).1.size ≤ r.size := by
  cases h : rtx r with
  | none => rw [rtext_none h]; exact ⟨Nat.zero_le _, Nat.zero_le _⟩
  | some x =>
    obtain ⟨k, e⟩ := x
    rw [rtext_some h]
    exact ⟨by simp, by simp; omega⟩

end Go.Proofs.Ytplbhgcibfajaaa
