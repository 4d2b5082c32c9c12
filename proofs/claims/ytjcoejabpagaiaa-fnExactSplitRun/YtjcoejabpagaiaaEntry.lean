/- EntryOk, of the program and of the model; the copies that the laws make of an entry. -/
import Derived.Test.YtjcoejabpagaiaaKeys
namespace Go.Proofs.Ytjcoejabpagaiaa
set_option maxRecDepth 100000
open Go.RowKit

def entryOkB (u : ByteArray) (q k : Int) (v : ByteArray) : Bool := keyOkB u q k && decide (v.size ≤ 200) && (decide (k = 1) || decide (v.size = 0))

theorem isEmpty_size (v : ByteArray) : v.toList.isEmpty = decide (v.size = 0) := by
  have h : v.size = v.data.toList.length := by rw [Array.length_toList]; rfl
  rw [ByteArray.toList_eq, h]
  cases v.data.toList <;> rfl

theorem spec_EntryOk (u : ByteArray) (q k : Int) (v : ByteArray) (w : World) :
    Calls Try.prog 29 #[.agg #[.string u, .int .i64 q, .int .i64 k, .string v]] w fun e w' => e = .returned (.bool (entryOkB u q k v)) ∧ Below w.heap.size w w' := by
  have hB := Below.refl (w.alloc (.cells #[.string u, .int .i64 q, .int .i64 k, .string v] 43)).heap.size (w.alloc (.cells #[.string u, .int .i64 q, .int .i64 k, .string v] 43))
  have he := isEmpty_size v
  cases ha : keyOkB u q k with
  | false =>
    have HF : Hid (false = entryOkB u q k v) := by simp [Hid, entryOkB, ha]
    go_enter Try.func29, Try.ntmps29
    go_wp2_with fail
    refine (calls_from hB (spec_KeyOk u q k _)).mono ?_
    try clear hC hF hZ
    clear hB
    rintro e w1 ⟨rfl, hB⟩
    obtain ⟨hC, hF, hZ⟩ := bfacts hB
    go_wp2
    go_ret
    exact ⟨ret_bool HF.out, below_of_alloc hB⟩
  | true =>
    have HF : Hid (entryOkB u q k v = (decide (v.size ≤ 200) && (decide (k = 1) || decide (v.size = 0)))) := by simp [Hid, entryOkB, ha]
    by_cases h2 : v.size ≤ 200
    · have h2' : (v.size : Int) ≤ 200 := by omega
      by_cases h1 : k = 1
      · subst h1
        go_enter Try.func29, Try.ntmps29
        go_wp2_with fail
        refine (calls_from hB (spec_KeyOk u q 1 _)).mono ?_
        try clear hC hF hZ
        clear hB
        rintro e w1 ⟨rfl, hB⟩
        obtain ⟨hC, hF, hZ⟩ := bfacts hB
        go_wp2
        go_ret
        exact ⟨ret_bool (by rw [HF.out]; simp [h2]), below_of_alloc hB⟩
      · have h1' : (k == 1) = false := by simp [h1]
        have H1 : Hid (¬ k = 1) := h1
        clear h1
        go_enter Try.func29, Try.ntmps29
        go_wp2_with fail
        refine (calls_from hB (spec_KeyOk u q k _)).mono ?_
        try clear hC hF hZ
        clear hB
        rintro e w1 ⟨rfl, hB⟩
        obtain ⟨hC, hF, hZ⟩ := bfacts hB
        go_wp2
        go_ret
        exact ⟨ret_bool (by rw [HF.out]; simp [h2, H1.out]), below_of_alloc hB⟩
    · have h2' : ¬ ((v.size : Int) ≤ 200) := by omega
      go_enter Try.func29, Try.ntmps29
      go_wp2_with fail
      refine (calls_from hB (spec_KeyOk u q k _)).mono ?_
      try clear hC hF hZ
      clear hB
      rintro e w1 ⟨rfl, hB⟩
      obtain ⟨hC, hF, hZ⟩ := bfacts hB
      go_wp2
      go_ret
      exact ⟨ret_bool (by rw [HF.out]; simp [h2]), below_of_alloc hB⟩
theorem impl_EntryOk (u : ByteArray) (q k : Int) (v : ByteArray) (w : World) :
    Calls Try.prog 33 #[.agg #[.string u, .int .i64 q, .int .i64 k, .string v]] w fun e w' => e = .returned (.bool (entryOkB u q k v)) ∧ Below w.heap.size w w' := by
  have hB := Below.refl (w.alloc (.cells #[.string u, .int .i64 q, .int .i64 k, .string v] 43)).heap.size (w.alloc (.cells #[.string u, .int .i64 q, .int .i64 k, .string v] 43))
  have he := isEmpty_size v
  cases ha : keyOkB u q k with
  | false =>
    have HF : Hid (false = entryOkB u q k v) := by simp [Hid, entryOkB, ha]
    go_enter Try.func33, Try.ntmps33
    go_wp2_with fail
    refine (calls_from hB (impl_KeyOk u q k _)).mono ?_
    try clear hC hF hZ
    clear hB
    rintro e w1 ⟨rfl, hB⟩
    obtain ⟨hC, hF, hZ⟩ := bfacts hB
    go_wp2
    go_ret
    exact ⟨ret_bool HF.out, below_of_alloc hB⟩
  | true =>
    have HF : Hid (entryOkB u q k v = (decide (v.size ≤ 200) && (decide (k = 1) || decide (v.size = 0)))) := by simp [Hid, entryOkB, ha]
    by_cases h2 : v.size ≤ 200
    · have h2' : (v.size : Int) ≤ 200 := by omega
      by_cases h1 : k = 1
      · subst h1
        go_enter Try.func33, Try.ntmps33
        go_wp2_with fail
        refine (calls_from hB (impl_KeyOk u q 1 _)).mono ?_
        try clear hC hF hZ
        clear hB
        rintro e w1 ⟨rfl, hB⟩
        obtain ⟨hC, hF, hZ⟩ := bfacts hB
        go_wp2
        go_ret
        exact ⟨ret_bool (by rw [HF.out]; simp [h2]), below_of_alloc hB⟩
      · have h1' : (k == 1) = false := by simp [h1]
        have H1 : Hid (¬ k = 1) := h1
        clear h1
        go_enter Try.func33, Try.ntmps33
        go_wp2_with fail
        refine (calls_from hB (impl_KeyOk u q k _)).mono ?_
        try clear hC hF hZ
        clear hB
        rintro e w1 ⟨rfl, hB⟩
        obtain ⟨hC, hF, hZ⟩ := bfacts hB
        go_wp2
        go_ret
        exact ⟨ret_bool (by rw [HF.out]; simp [h2, H1.out]), below_of_alloc hB⟩
    · have h2' : ¬ ((v.size : Int) ≤ 200) := by omega
      go_enter Try.func33, Try.ntmps33
      go_wp2_with fail
      refine (calls_from hB (impl_KeyOk u q k _)).mono ?_
      try clear hC hF hZ
      clear hB
      rintro e w1 ⟨rfl, hB⟩
      obtain ⟨hC, hF, hZ⟩ := bfacts hB
      go_wp2
      go_ret
      exact ⟨ret_bool (by rw [HF.out]; simp [h2]), below_of_alloc hB⟩

end Go.Proofs.Ytjcoejabpagaiaa
