/- The order of keys, as slices.SortFunc asks of a comparing function: the world behind it is the world ahead of it, some draws and blocks later. -/
import Derived.Test.YtljmfdcilnbjaabCmp
import Derived.Sort.Grow
namespace Go.Proofs.Ytljmfdcilnbjaab
set_option maxRecDepth 100000
open Go.RowKit Go.Sort

set_option maxHeartbeats 1000000 in
theorem impl_keyOrder_grown (ua : ByteArray) (qa ka : Int) (ub : ByteArray) (qb kb : Int) (w : World) :
    Calls Try.prog 30 #[.agg #[.string ua, .int .i64 qa, .int .i64 ka], .agg #[.string ub, .int .i64 qb, .int .i64 kb]] w fun e w' => e = .returned (.int .i64 (orI (cmpS ua ub) (cmpI qb qa) (cmpI kb ka))) ∧ ∃ n os, w' = grow (w.drewN n) os := by
  go_enter Try.func30, Try.ntmps30
  go_wp2
  have a0 : ((w.alloc (.cells #[.string ua, .int .i64 qa, .int .i64 ka] 50)).alloc (.cells #[.string ub, .int .i64 qb, .int .i64 kb] 50)).cell? ⟨w.heap.size, 0, none⟩ = some (.string ua) := by simp
  have a1 : ((w.alloc (.cells #[.string ua, .int .i64 qa, .int .i64 ka] 50)).alloc (.cells #[.string ub, .int .i64 qb, .int .i64 kb] 50)).cell? ⟨w.heap.size, 1, none⟩ = some (.int .i64 qa) := by simp
  have a2 : ((w.alloc (.cells #[.string ua, .int .i64 qa, .int .i64 ka] 50)).alloc (.cells #[.string ub, .int .i64 qb, .int .i64 kb] 50)).cell? ⟨w.heap.size, 2, none⟩ = some (.int .i64 ka) := by simp
  have b0 : ((w.alloc (.cells #[.string ua, .int .i64 qa, .int .i64 ka] 50)).alloc (.cells #[.string ub, .int .i64 qb, .int .i64 kb] 50)).cell? ⟨w.heap.size + 1, 0, none⟩ = some (.string ub) := by simp
  have b1 : ((w.alloc (.cells #[.string ua, .int .i64 qa, .int .i64 ka] 50)).alloc (.cells #[.string ub, .int .i64 qb, .int .i64 kb] 50)).cell? ⟨w.heap.size + 1, 1, none⟩ = some (.int .i64 qb) := by simp
  have b2 : ((w.alloc (.cells #[.string ua, .int .i64 qa, .int .i64 ka] 50)).alloc (.cells #[.string ub, .int .i64 qb, .int .i64 kb] 50)).cell? ⟨w.heap.size + 1, 2, none⟩ = some (.int .i64 kb) := by simp
  generalize hW : (w.alloc (.cells #[.string ua, .int .i64 qa, .int .i64 ka] 50)).alloc (.cells #[.string ub, .int .i64 qb, .int .i64 kb] 50) = W at a0 a1 a2 b0 b1 b2 ⊢
  go_region_held3 (fun (w' : World) => w'.cell? ⟨w.heap.size, 0, none⟩ = some (.string ua) ∧ w'.cell? ⟨w.heap.size, 1, none⟩ = some (.int .i64 qa) ∧ w'.cell? ⟨w.heap.size, 2, none⟩ = some (.int .i64 ka) ∧ w'.cell? ⟨w.heap.size + 1, 0, none⟩ = some (.string ub) ∧ w'.cell? ⟨w.heap.size + 1, 1, none⟩ = some (.int .i64 qb) ∧ w'.cell? ⟨w.heap.size + 1, 2, none⟩ = some (.int .i64 kb)) (go_keep) (first
    | (go_at_call 50; refine (impl_CompareS _ _ _).mono ?_; rintro e w1 ⟨rfl, rfl⟩)
    | (go_at_call 51; refine (impl_CompareI _ _ _).mono ?_; rintro e w1 ⟨rfl, rfl⟩)
    | (go_at_call 49; refine (impl_Or_new _ _ _ _).mono ?_; rintro e w1 ⟨rfl, rfl⟩))
  all_goals go_wp2
  all_goals go_ret
  all_goals subst hW
  all_goals exact ⟨rfl, 1, #[.cells #[.string ua, .int .i64 qa, .int .i64 ka] 50, .cells #[.string ub, .int .i64 qb, .int .i64 kb] 50, .cells #[.int .i64 (cmpS ua ub), .int .i64 (cmpI qb qa), .int .i64 (cmpI kb ka)] 3], by
    rw [alloc_eq_grow, alloc_eq_grow, alloc_eq_grow, grow_grow, grow_grow]; rfl⟩

def keyLess (ua : ByteArray) (qa ka : Int) (ub : ByteArray) (qb kb : Int) : Int := orI (cmpS ua ub) (cmpI qb qa) (cmpI kb ka)

set_option maxHeartbeats 1000000 in
theorem impl_entryOrder (ua : ByteArray) (qa ka : Int) (xa ub : ByteArray) (qb kb : Int) (xb : ByteArray) (w : World) :
    Calls Try.prog 29 #[.agg #[.string ua, .int .i64 qa, .int .i64 ka, .string xa], .agg #[.string ub, .int .i64 qb, .int .i64 kb, .string xb]] w fun e w' => e = .returned (.int .i64 (keyLess ua qa ka ub qb kb)) ∧ ∃ n os, w' = grow (w.drewN n) os := by
  go_enter Try.func29, Try.ntmps29
  go_wp2_with (go_at_call 30; refine (impl_keyOrder_grown _ _ _ _ _ _ _).mono ?_; rintro e w1 ⟨rfl, n, os, rfl⟩)
  go_ret
  exact ⟨rfl, n, #[.cells #[.string ua, .int .i64 qa, .int .i64 ka, .string xa] 52, .cells #[.string ub, .int .i64 qb, .int .i64 kb, .string xb] 52] ++ os, by
    rw [alloc_eq_grow, alloc_eq_grow]
    show grow (grow (grow (w.drewN n) _) _) os = _
    rw [grow_grow, grow_grow, ← Array.append_assoc]; rfl⟩

end Go.Proofs.Ytljmfdcilnbjaab
