/- The law on ReadFilter. -/
import Derived.Test.YtonkjdjancnajaaFRead2
namespace Go.Proofs.Ytonkjdjancnajaa
set_option maxRecDepth 100000
open Go.RowKit

theorem rf_shape {s : ByteArray} {v : Value} (h : RF s v) : ∃ kd sd pr bs b, v = .tuple #[.agg #[.int .i64 kd, .int .i64 sd, .int .i64 pr, .string bs], .bool b] := by
  cases h <;> exact ⟨_, _, _, _, _, rfl⟩

theorem walk_ReadFilter (s : ByteArray) (_h : s.size ≤ maxLen) (w : World) :
    Calls Try.prog 6 #[.string s] w fun e w' => e = .returned (.bool true) ∧ Below w.heap.size w w' := by
  by_cases hbig : (1048576 : Int) < (s.size : Int)
  · go_enter Try.func6, Try.ntmps6
    go_wp2
    go_ret
    exact ⟨rfl, Below.refl _ _⟩
  · obtain ⟨v, hrf⟩ := rf_total s
    obtain ⟨kd, sd, pr, bs, b, rfl⟩ := rf_shape hrf
    have HR : Hid (RF s _) := hrf
    clear hrf
    go_enter Try.func6, Try.ntmps6
    go_wp2_with fail
    refine (spec_ReadFilter s (by omega) HR.out _).mono ?_
    rintro e w1 ⟨rfl, b1⟩
    go_wp2_with fail
    refine (impl_ReadFilter s (by omega) HR.out _).mono ?_
    rintro e w2 ⟨rfl, b2⟩
    have hz : w1.heap.size < w2.heap.size := by have := b2.size; simp at this; omega
    have c0 : w2.cell? ⟨w1.heap.size, 0, none⟩ = some (.int .i64 kd) := by rw [b2.cell (by simp)]; simp
    have c1 : w2.cell? ⟨w1.heap.size, 1, none⟩ = some (.int .i64 sd) := by rw [b2.cell (by simp)]; simp
    have c2 : w2.cell? ⟨w1.heap.size, 2, none⟩ = some (.int .i64 pr) := by rw [b2.cell (by simp)]; simp
    have c3 : w2.cell? ⟨w1.heap.size, 3, none⟩ = some (.string bs) := by rw [b2.cell (by simp)]; simp
    have hB := b1.trans ((below_of_alloc b2).mono b1.size)
    clear b1 b2
    go_wp2_with fail
    refine (calls_from (hB.alloc hB.size _) (laws_eqFilter kd sd pr bs _)).mono ?_
    clear hB
    rintro e w3 ⟨rfl, hB⟩
    go_wp2
    go_ret
    exact ⟨rfl, hB⟩

end Go.Proofs.Ytonkjdjancnajaa
