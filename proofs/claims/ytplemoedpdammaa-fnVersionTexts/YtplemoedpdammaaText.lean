/- PutText and TakeText, of the program and of the model. -/
import Derived.Test.YtplemoedpdammaaVar
import Derived.Test.YtplemoedpdammaaTake
namespace Go.Proofs.Ytplemoedpdammaa
set_option maxRecDepth 100000
open Go.RowKit

def putText (s : ByteArray) : ByteArray := pv s.size ++ s

theorem pv_size (n : Int) : 1 ≤ (pv n).size ∧ (pv n).size ≤ 10 := by
  unfold pv
  rw [strOfNums_size]
  exact pvs_len 9 n

theorem spec_PutText (s : ByteArray) (hs : s.size ≤ 1048576) (w : World) :
    Calls Try.prog 57 #[.string s] w fun e w' => e = .returned (.string (putText s)) ∧ Below w.heap.size w w' := by
  have hp := pv_size s.size
  go_enter Try.func57, Try.ntmps57
  go_wp2_with fail
  refine (spec_PutVar _ (by omega) (by omega) _).mono ?_
  rintro e w1 ⟨rfl, b1⟩
  go_wp2
  go_ret
  exact ⟨rfl, b1⟩

theorem impl_PutText (s : ByteArray) (hs : s.size ≤ 1048576) (w : World) :
    Calls Try.prog 51 #[.string s] w fun e w' => e = .returned (.string (putText s)) ∧ Below w.heap.size w w' := by
  have hp := pv_size s.size
  go_enter Try.func51, Try.ntmps51
  go_wp2_with fail
  refine (impl_PutVar _ (by omega) (by omega) _).mono ?_
  rintro e w1 ⟨rfl, b1⟩
  go_wp2
  go_ret
  exact ⟨rfl, b1⟩

theorem tva_nonneg (s : ByteArray) : ∀ (f i : Nat) (n : Int) {m : Int} {k : Nat}, tva s f i n = some (m, k) → 0 ≤ n → 0 ≤ m
  | 0, _, _, _, _, h, _ => by simp [tva] at h
  | f + 1, i, n, m, k, h, h0 => by
    unfold tva at h
    split at h
    · split at h
      · cases h
      · split at h
        · split at h
          · cases h
          · simp only [Option.some.injEq, Prod.mk.injEq] at h
            rw [← h.1]
            exact group_nonneg _ _ _ h0 (bt_bd s i).1
        · exact tva_nonneg s f _ _ h (group_nonneg _ _ _ h0 (by omega))
    · cases h

def takeText (s : ByteArray) : Value :=
  match tva s 10 0 0 with
  | none => .tuple #[.string ⟨#[]⟩, .string ⟨#[]⟩, .bool false]
  | some (n, k) => if 60000 < n ∨ (s.size : Int) < k + n then .tuple #[.string ⟨#[]⟩, .string ⟨#[]⟩, .bool false]
    else .tuple #[.string (s.extract k (k + n.toNat)), .string (s.extract (k + n.toNat) s.size), .bool true]

theorem ret_text_none {s : ByteArray} (h : tva s 10 0 0 = none) : Ending.returned (.tuple #[.string ⟨#[]⟩, .string ⟨#[]⟩, .bool false]) = .returned (takeText s) := by
  rw [takeText, h]
theorem ret_text_no {s : ByteArray} {n : Int} {k : Nat} (h : tva s 10 0 0 = some (n, k)) (hn : 60000 < n ∨ (s.size : Int) < k + n) : Ending.returned (.tuple #[.string ⟨#[]⟩, .string ⟨#[]⟩, .bool false]) = .returned (takeText s) := by
  rw [takeText, h]
  simp only [if_pos hn]
theorem ret_text_yes {s : ByteArray} {n : Int} {k : Nat} (h : tva s 10 0 0 = some (n, k)) (hn : ¬ (60000 < n ∨ (s.size : Int) < k + n)) {a b : ByteArray} (ha : a = s.extract k (k + n.toNat)) (hb : b = s.extract (k + n.toNat) s.size) : Ending.returned (.tuple #[.string a, .string b, .bool true]) = .returned (takeText s) := by
  rw [takeText, h, ha, hb]
  simp only [if_neg hn]

theorem spec_TakeText (s : ByteArray) (hs : s.size ≤ 1048576) (w : World) :
    Calls Try.prog 67 #[.string s] w fun e w' => e = .returned (takeText s) ∧ Below w.heap.size w w' := by
  cases hv : tva s 10 0 0 with
  | none =>
    have e1 : takeVar s = .tuple #[.int .u64 0, .string ⟨#[]⟩, .bool false] := by rw [takeVar, hv]
    have HV : Hid (tva s 10 0 0 = none) := hv
    clear hv
    go_enter Try.func67, Try.ntmps67
    go_wp2_with fail
    refine (spec_TakeVar s (by unfold maxLen; omega) _).mono ?_
    rintro e w1 ⟨rfl, b1⟩
    go_wp2
    go_ret3
    exact ⟨ret_text_none HV.out, b1⟩
  | some r =>
    obtain ⟨n, k⟩ := r
    have e1 : takeVar s = .tuple #[.int .u64 n, .string (s.extract k s.size), .bool true] := by rw [takeVar, hv]
    obtain ⟨hk0, hk1⟩ := tva_le s 10 0 0 hv
    have hn0 := tva_nonneg s 10 0 0 hv (by omega)
    have HV : Hid (tva s 10 0 0 = some (n, k)) := hv
    clear hv
    have hx : (s.extract k s.size).size = s.size - k := by simp
    obtain ⟨r, hr⟩ : ∃ r, s.extract k s.size = r := ⟨_, rfl⟩
    rw [hr] at e1 hx
    have HR : Hid (s.extract k s.size = r) := hr
    have hx1 : r.size + k = s.size := by omega
    have HX : Hid (r.size + k = s.size) := hx1
    have hx2 : r.size ≤ 1048576 := by omega
    clear hr hx hx1
    by_cases hc : 60000 < n
    · go_enter Try.func67, Try.ntmps67
      go_wp2_with fail
      refine (spec_TakeVar s (by unfold maxLen; omega) _).mono ?_
      rintro e w1 ⟨rfl, b1⟩
      go_wp2
      go_ret3
      exact ⟨ret_text_no HV.out (.inl hc), b1⟩
    · by_cases hc2 : (r.size : Int) < n
      · go_enter Try.func67, Try.ntmps67
        go_wp2_with fail
        refine (spec_TakeVar s (by unfold maxLen; omega) _).mono ?_
        rintro e w1 ⟨rfl, b1⟩
        go_wp2
        go_ret3
        exact ⟨ret_text_no HV.out (.inr (by have := HX.out; omega)), b1⟩
      · obtain ⟨m, rfl⟩ := Int.eq_ofNat_of_zero_le hn0
        have hm : m ≤ r.size := by omega
        have hm' : (m : Int) ≤ (r.size : Int) := by omega
        go_enter Try.func67, Try.ntmps67
        go_wp2_with fail
        refine (spec_TakeVar s (by unfold maxLen; omega) _).mono ?_
        rintro e w1 ⟨rfl, b1⟩
        go_wp2
        go_quiet (fail)
        go_wp2
        go_ret3
        refine ⟨ret_text_yes HV.out (by have := HX.out; omega) ?_ ?_, below_drewN b1 _⟩
        · rw [← HR.out, ByteArray.extract_extract]
          congr 1
          have := HX.out; simp; omega
        · have hs2 : r.size = s.size - k := by have := HX.out; omega
          rw [hs2, ← HR.out, ByteArray.extract_extract]
          congr 1
          omega

theorem impl_textAt_no_x (s : ByteArray) (hs : s.size ≤ 1048576) (h : ∀ n k, tva s 10 0 0 = some (n, k) → 60000 < n ∨ (s.size : Int) < k + n) (w : World) :
    Calls Try.prog 85 #[.string s] w fun e w' => e = .returned (.tuple #[.int .i64 0, .int .i64 0, .bool false]) ∧ w = w' := by
  cases hv : tva s 10 0 0 with
  | none =>
    have e1 : varAt s = .tuple #[.int .u64 0, .int .i64 0] := by rw [varAt, hv]
    clear hv h
    go_enter Try.func85, Try.ntmps85
    go_wp2_with fail
    refine (impl_varAt_x s (by unfold maxLen; omega) _).mono ?_
    rintro e w1 ⟨rfl, rfl⟩
    go_wp2
    go_ret3
    exact ⟨rfl, rfl⟩
  | some r =>
    obtain ⟨n, k⟩ := r
    have hno := h n k hv
    have e1 : varAt s = .tuple #[.int .u64 n, .int .i64 k] := by rw [varAt, hv]
    obtain ⟨hk0, hk1⟩ := tva_le s 10 0 0 hv
    have hn0 := tva_nonneg s 10 0 0 hv (by omega)
    have hk2 : ((k : Int) == 0) = false := by simp; omega
    have hk3 : (0 : Int) < (k : Int) := by omega
    clear hv h
    by_cases hc : 60000 < n
    · go_enter Try.func85, Try.ntmps85
      go_wp2_with fail
      refine (impl_varAt_x s (by unfold maxLen; omega) _).mono ?_
      rintro e w1 ⟨rfl, rfl⟩
      go_wp2
      go_ret3
      exact ⟨rfl, rfl⟩
    · have hc2 : (s.size : Int) - (k : Int) < n := by omega
      go_enter Try.func85, Try.ntmps85
      go_wp2_with fail
      refine (impl_varAt_x s (by unfold maxLen; omega) _).mono ?_
      rintro e w1 ⟨rfl, rfl⟩
      go_wp2
      go_ret3
      exact ⟨rfl, rfl⟩

theorem impl_textAt_no (s : ByteArray) (hs : s.size ≤ 1048576) (h : ∀ n k, tva s 10 0 0 = some (n, k) → 60000 < n ∨ (s.size : Int) < k + n) (w : World) :
    Calls Try.prog 85 #[.string s] w fun e w' => e = .returned (.tuple #[.int .i64 0, .int .i64 0, .bool false]) ∧ Below w.heap.size w w' :=
  (impl_textAt_no_x s hs h w).mono fun _ _ h => ⟨h.1, h.2 ▸ Below.refl _ _⟩

theorem impl_textAt_yes_x (s : ByteArray) (hs : s.size ≤ 1048576) (m k : Nat) (hv : tva s 10 0 0 = some ((m : Int), k)) (h : ¬ (60000 < (m : Int) ∨ (s.size : Int) < k + m)) (w : World) :
    Calls Try.prog 85 #[.string s] w fun e w' => e = .returned (.tuple #[.int .i64 k, .int .i64 ((k : Int) + (m : Int)), .bool true]) ∧ w = w' := by
  have e1 : varAt s = .tuple #[.int .u64 m, .int .i64 k] := by rw [varAt, hv]
  obtain ⟨hk0, hk1⟩ := tva_le s 10 0 0 hv
  have hk2 : ((k : Int) == 0) = false := by simp; omega
  have hc1 : ¬ (60000 < (m : Int)) := by omega
  have hc2 : ¬ ((s.size : Int) - (k : Int) < (m : Int)) := by omega
  clear hv h
  go_enter Try.func85, Try.ntmps85
  go_wp2_with fail
  refine (impl_varAt_x s (by unfold maxLen; omega) _).mono ?_
  rintro e w1 ⟨rfl, rfl⟩
  go_wp2
  go_ret3
  exact ⟨rfl, rfl⟩

theorem impl_textAt_yes (s : ByteArray) (hs : s.size ≤ 1048576) (m k : Nat) (hv : tva s 10 0 0 = some ((m : Int), k)) (h : ¬ (60000 < (m : Int) ∨ (s.size : Int) < k + m)) (w : World) :
    Calls Try.prog 85 #[.string s] w fun e w' => e = .returned (.tuple #[.int .i64 k, .int .i64 ((k : Int) + (m : Int)), .bool true]) ∧ Below w.heap.size w w' :=
  (impl_textAt_yes_x s hs m k hv h w).mono fun _ _ h => ⟨h.1, h.2 ▸ Below.refl _ _⟩

end Go.Proofs.Ytplemoedpdammaa
