/- PutText and TakeText, of the program and of the model. -/
import Derived.Test.YtplbhgcibfajaaaVar
import Derived.Test.YtplbhgcibfajaaaTake
namespace Go.Proofs.Ytplbhgcibfajaaa
set_option maxRecDepth 100000
open Go.RowKit

def putText (s : ByteArray) : ByteArray := pv s.size ++ s

theorem pv_size (n : Int) : 1 ≤ (pv n).size ∧ (pv n).size ≤ 10 := by
  unfold pv
  rw [strOfNums_size]
  exact pvs_len 9 n

theorem tva_nonneg (s : ByteArray) : ∀ (f i : Nat) (n : Int) {m : Int} {k : Nat}, tva s f i n = some (m, k) → 0 ≤ n → 0 ≤ m
  | 0, _, _, _, _, h, _ => by simp [tva] at h
  | f + 1, i, n, m, k, h, h0 => by
    unfold tva at h
    split at h
    · split at h
      · cases h
      · split at h
        · split at h
          · cases h
          · simp only [Option.some.injEq, Prod.mk.injEq] at h
            rw [← h.1]
            exact group_nonneg _ _ _ h0 (bt_bd s i).1
        · exact tva_nonneg s f _ _ h (group_nonneg _ _ _ h0 (by omega))
    · cases h

def takeText (s : ByteArray) : Value :=
  match tva s 10 0 0 with
  | none => .tuple #[.string ⟨#[]⟩, .string ⟨#[]⟩, .bool false]
  | some (n, k) => if 60000 < n ∨ (s.size : Int) < k + n then .tuple #[.string ⟨#[]⟩, .string ⟨#[]⟩, .bool false]
    else .tuple #[.string (s.extract k (k + n.toNat)), .string (s.extract (k + n.toNat) s.size), .bool true]

theorem ret_text_none {s : ByteArray} (h : tva s 10 0 0 = none) : Ending.returned (.tuple #[.string ⟨#[]⟩, .string ⟨#[]⟩, .bool false]) = .returned (takeText s) := by
  rw [takeText, h]
theorem ret_text_no {s : ByteArray} {n : Int} {k : Nat} (h : tva s 10 0 0 = some (n, k)) (hn : 60000 < n ∨ (s.size : Int) < k + n) : Ending.returned (.tuple #[.string ⟨#[]⟩, .string ⟨#[]⟩, .bool false]) = .returned (takeText s) := by
  rw [takeText, h]
  simp only [if_pos hn]
theorem ret_text_yes {s : ByteArray} {n : Int} {k : Nat} (h : tva s 10 0 0 = some (n, k)) (hn : ¬ (60000 < n ∨ (s.size : Int) < k + n)) {a b : ByteArray} (ha : a = s.extract k (k + n.toNat)) (hb : b = s.extract (k + n.toNat) s.size) : Ending.returned (.tuple #[.string a, .string b, .bool true]) = .returned (takeText s) := by
  rw [takeText, h, ha, hb]
  simp only [if_neg hn]

end Go.Proofs.Ytplbhgcibfajaaa
