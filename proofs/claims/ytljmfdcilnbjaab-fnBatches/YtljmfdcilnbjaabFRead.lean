/- ReadFilter, of the program and of the model. -/
import Derived.Test.YtljmfdcilnbjaabFilter
import Derived.Test.YtljmfdcilnbjaabCanon
import Derived.Deep.RegionHeld3
namespace Go.Proofs.Ytljmfdcilnbjaab
set_option maxRecDepth 100000
open Go.RowKit

def badF : Value := .tuple #[.agg #[.int .i64 0, .int .i64 0, .int .i64 0, .string ⟨#[]⟩], .bool false]

/-- No text at the beginning of r. -/
def NoText (r : ByteArray) : Prop := ∀ n k, tva r 10 0 0 = some (n, k) → 60000 < n ∨ (r.size : Int) < k + n

/-- The ways through ReadFilter, and what it tells on each. -/
inductive RF (s : ByteArray) : Value → Prop
  | f1 (h1 : tva s 10 0 0 = none) : RF s badF
  | f2 (n1 : Int) (k1 : Nat) (r1 : ByteArray) (h1 : tva s 10 0 0 = some (n1, k1)) (e1 : s.extract k1 s.size = r1) (h2 : tva r1 10 0 0 = none) : RF s badF
  | f3 (n1 : Int) (k1 : Nat) (r1 : ByteArray) (n2 : Int) (k2 : Nat) (r2 : ByteArray) (h1 : tva s 10 0 0 = some (n1, k1)) (e1 : s.extract k1 s.size = r1) (h2 : tva r1 10 0 0 = some (n2, k2)) (e2 : r1.extract k2 r1.size = r2) (h3 : tva r2 10 0 0 = none) : RF s badF
  | f4 (n1 : Int) (k1 : Nat) (r1 : ByteArray) (n2 : Int) (k2 : Nat) (r2 : ByteArray) (n3 : Int) (k3 : Nat) (r3 : ByteArray) (h1 : tva s 10 0 0 = some (n1, k1)) (e1 : s.extract k1 s.size = r1) (h2 : tva r1 10 0 0 = some (n2, k2)) (e2 : r1.extract k2 r1.size = r2)
      (h3 : tva r2 10 0 0 = some (n3, k3)) (e3 : r2.extract k3 r2.size = r3) (h4 : NoText r3) : RF s badF
  | f5 (n1 : Int) (k1 : Nat) (r1 : ByteArray) (n2 : Int) (k2 : Nat) (r2 : ByteArray) (n3 : Int) (k3 : Nat) (r3 : ByteArray) (m k : Nat) (h1 : tva s 10 0 0 = some (n1, k1)) (e1 : s.extract k1 s.size = r1) (h2 : tva r1 10 0 0 = some (n2, k2)) (e2 : r1.extract k2 r1.size = r2)
      (h3 : tva r2 10 0 0 = some (n3, k3)) (e3 : r2.extract k3 r2.size = r3) (h4 : tva r3 10 0 0 = some ((m : Int), k)) (h5 : ¬ (60000 < (m : Int) ∨ (r3.size : Int) < k + m)) (h6 : k + m ≠ r3.size) : RF s badF
  | f6 (n1 : Int) (k1 : Nat) (r1 : ByteArray) (n2 : Int) (k2 : Nat) (r2 : ByteArray) (n3 : Int) (k3 : Nat) (r3 : ByteArray) (m k : Nat) (bs : ByteArray) (h1 : tva s 10 0 0 = some (n1, k1)) (e1 : s.extract k1 s.size = r1) (h2 : tva r1 10 0 0 = some (n2, k2)) (e2 : r1.extract k2 r1.size = r2)
      (h3 : tva r2 10 0 0 = some (n3, k3)) (e3 : r2.extract k3 r2.size = r3) (h4 : tva r3 10 0 0 = some ((m : Int), k)) (h5 : ¬ (60000 < (m : Int) ∨ (r3.size : Int) < k + m)) (h6 : k + m = r3.size) (e4 : r3.extract k r3.size = bs) (h7 : filterOkB n1 n2 n3 bs = false) : RF s badF
  | ok (n1 : Int) (k1 : Nat) (r1 : ByteArray) (n2 : Int) (k2 : Nat) (r2 : ByteArray) (n3 : Int) (k3 : Nat) (r3 : ByteArray) (m k : Nat) (bs : ByteArray) (h1 : tva s 10 0 0 = some (n1, k1)) (e1 : s.extract k1 s.size = r1) (h2 : tva r1 10 0 0 = some (n2, k2)) (e2 : r1.extract k2 r1.size = r2)
      (h3 : tva r2 10 0 0 = some (n3, k3)) (e3 : r2.extract k3 r2.size = r3) (h4 : tva r3 10 0 0 = some ((m : Int), k)) (h5 : ¬ (60000 < (m : Int) ∨ (r3.size : Int) < k + m)) (h6 : k + m = r3.size) (e4 : r3.extract k r3.size = bs) (h7 : filterOkB n1 n2 n3 bs = true) :
      RF s (.tuple #[.agg #[.int .i64 n1, .int .i64 n2, .int .i64 n3, .string bs], .bool true])

theorem rf_total (s : ByteArray) : ∃ v, RF s v := by
  cases h1 : tva s 10 0 0 with
  | none => exact ⟨_, .f1 h1⟩
  | some x1 =>
    obtain ⟨n1, k1⟩ := x1
    cases h2 : tva (s.extract k1 s.size) 10 0 0 with
    | none => exact ⟨_, .f2 _ _ _ h1 rfl h2⟩
    | some x2 =>
      obtain ⟨n2, k2⟩ := x2
      cases h3 : tva ((s.extract k1 s.size).extract k2 (s.extract k1 s.size).size) 10 0 0 with
      | none => exact ⟨_, .f3 _ _ _ _ _ _ h1 rfl h2 rfl h3⟩
      | some x3 =>
        obtain ⟨n3, k3⟩ := x3
        obtain ⟨r1, e1⟩ : ∃ r1, s.extract k1 s.size = r1 := ⟨_, rfl⟩
        rw [e1] at h2 h3
        obtain ⟨r2, e2⟩ : ∃ r2, r1.extract k2 r1.size = r2 := ⟨_, rfl⟩
        rw [e2] at h3
        obtain ⟨r3, e3⟩ : ∃ r3, r2.extract k3 r2.size = r3 := ⟨_, rfl⟩
        by_cases h4 : NoText r3
        · exact ⟨_, .f4 _ _ _ _ _ _ _ _ _ h1 e1 h2 e2 h3 e3 h4⟩
        · obtain ⟨n, k, hv, hno⟩ : ∃ n k, tva r3 10 0 0 = some (n, k) ∧ ¬ (60000 < n ∨ (r3.size : Int) < k + n) := by
            apply Classical.byContradiction
            intro hx
            exact h4 fun n k h1 => Classical.byContradiction fun h2 => hx ⟨n, k, h1, h2⟩
          have hn0 := tva_nonneg r3 10 0 0 hv (by omega)
          obtain ⟨m, rfl⟩ := Int.eq_ofNat_of_zero_le hn0
          by_cases h6 : k + m = r3.size
          · cases h7 : filterOkB n1 n2 n3 (r3.extract k r3.size) with
            | false => exact ⟨_, .f6 _ _ _ _ _ _ _ _ _ m k _ h1 e1 h2 e2 h3 e3 hv hno h6 rfl h7⟩
            | true => exact ⟨_, .ok _ _ _ _ _ _ _ _ _ m k _ h1 e1 h2 e2 h3 e3 hv hno h6 rfl h7⟩
          · exact ⟨_, .f5 _ _ _ _ _ _ _ _ _ m k h1 e1 h2 e2 h3 e3 hv hno h6⟩

theorem takeVar_none {s : ByteArray} (h : tva s 10 0 0 = none) : takeVar s = .tuple #[.int .u64 0, .string ⟨#[]⟩, .bool false] := by rw [takeVar, h]
theorem takeVar_some {s r : ByteArray} {n : Int} {k : Nat} (h : tva s 10 0 0 = some (n, k)) (e : s.extract k s.size = r) : takeVar s = .tuple #[.int .u64 n, .string r, .bool true] := by rw [takeVar, h, ← e]
theorem varAt_none {s : ByteArray} (h : tva s 10 0 0 = none) : varAt s = .tuple #[.int .u64 0, .int .i64 0] := by rw [varAt, h]
theorem varAt_some {s : ByteArray} {n : Int} {k : Nat} (h : tva s 10 0 0 = some (n, k)) : varAt s = .tuple #[.int .u64 n, .int .i64 k] := by rw [varAt, h]
theorem tva_empty : tva ⟨#[]⟩ 10 0 0 = none := rfl
theorem takeVar_empty : takeVar ⟨#[]⟩ = .tuple #[.int .u64 0, .string ⟨#[]⟩, .bool false] := takeVar_none tva_empty
theorem takeText_no {s : ByteArray} (h : NoText s) : takeText s = .tuple #[.string ⟨#[]⟩, .string ⟨#[]⟩, .bool false] := by
  cases hv : tva s 10 0 0 with
  | none => rw [takeText, hv]
  | some r => exact (Ending.returned.inj (ret_text_no hv (h r.1 r.2 hv))).symm
theorem takeText_empty : takeText ⟨#[]⟩ = .tuple #[.string ⟨#[]⟩, .string ⟨#[]⟩, .bool false] := takeText_no fun n k h => by rw [tva_empty] at h; cases h
theorem takeText_yes {s : ByteArray} {m k : Nat} (hv : tva s 10 0 0 = some ((m : Int), k)) (h : ¬ (60000 < (m : Int) ∨ (s.size : Int) < k + m)) : takeText s = .tuple #[.string (s.extract k (k + m)), .string (s.extract (k + m) s.size), .bool true] :=
  (Ending.returned.inj (ret_text_yes hv h rfl rfl)).symm

theorem extract_size_le (s : ByteArray) (k : Nat) : (s.extract k s.size).size ≤ s.size := by simp

theorem extract_all (s : ByteArray) (k : Nat) (h : k = s.size) : s.extract k s.size = ⟨#[]⟩ := by
  subst h
  exact empty_of_size (by simp)

theorem extract_not_empty {s : ByteArray} {k : Nat} (h : k < s.size) : ¬ (s.extract k s.size).toList = [] := by
  intro e
  have e2 : (s.extract k s.size).size = (s.extract k s.size).data.toList.length := by simp
  rw [← ByteArray.toList_eq, e] at e2
  simp at e2
  omega

end Go.Proofs.Ytljmfdcilnbjaab
