/- The law on ReadKey. -/
import Derived.Test.YtmaajplngppkeabRKey
namespace Go.Proofs.Ytmaajplngppkeab
open Go.RowKit

theorem readKey_shape (s : ByteArray) : ∃ u q k b, readKey s = .tuple #[.agg #[.string u, .int .i64 q, .int .i64 k], .bool b] := by
  unfold readKey
  split <;> exact ⟨_, _, _, _, rfl⟩

theorem laws_eqKey (u : ByteArray) (q k : Int) (w : World) :
    Calls Try.prog 19 #[.agg #[.string u, .int .i64 q, .int .i64 k], .agg #[.string u, .int .i64 q, .int .i64 k]] w fun e w' => e = .returned (.bool true) ∧ Below w.heap.size w w' := by
  go_enter Try.func19, Try.ntmps19
  go_wp2
  go_ret
  exact ⟨rfl, ((Below.refl _ _).alloc (Nat.le_refl _) _).alloc (by simp) _⟩

theorem walk_ReadKey (s : ByteArray) (_h : s.size ≤ maxLen) (w : World) :
    Calls Try.prog 6 #[.string s] w fun e w' => e = .returned (.bool true) ∧ Below w.heap.size w w' := by
  by_cases hbig : (1048576 : Int) < (s.size : Int)
  · go_enter Try.func6, Try.ntmps6
    go_wp2
    go_ret
    exact ⟨rfl, Below.refl _ _⟩
  · obtain ⟨u, q, k, b, hv⟩ := readKey_shape s
    go_enter Try.func6, Try.ntmps6
    go_wp2_with fail
    refine (spec_ReadKey s (by omega) _).mono ?_
    rintro e w1 ⟨rfl, b1⟩
    go_wp2_with fail
    refine (impl_ReadKey s (by omega) _).mono ?_
    rintro e w2 ⟨rfl, b2⟩
    have hz : w1.heap.size < w2.heap.size := by have := b2.size; simp at this; omega
    have c0 : w2.cell? ⟨w1.heap.size, 0, none⟩ = some (.string u) := by rw [b2.cell (by simp)]; simp
    have c1 : w2.cell? ⟨w1.heap.size, 1, none⟩ = some (.int .i64 q) := by rw [b2.cell (by simp)]; simp
    have c2 : w2.cell? ⟨w1.heap.size, 2, none⟩ = some (.int .i64 k) := by rw [b2.cell (by simp)]; simp
    have hB := b1.trans ((below_of_alloc b2).mono b1.size)
    clear b1 b2
    go_wp2_with fail
    refine (calls_from (hB.alloc hB.size _) (laws_eqKey u q k _)).mono ?_
    clear hB
    rintro e w3 ⟨rfl, hB⟩
    go_wp2
    go_ret
    exact ⟨rfl, hB⟩

end Go.Proofs.Ytmaajplngppkeab
