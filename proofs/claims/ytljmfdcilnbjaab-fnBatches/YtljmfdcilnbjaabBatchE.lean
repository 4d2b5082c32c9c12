/- Batches: the entry of an op, as the program and as the model make it. -/
import Derived.Test.YtljmfdcilnbjaabOps
import Derived.Test.YtljmfdcilnbjaabEntsOk
import Derived.BigRegion
namespace Go.Proofs.Ytljmfdcilnbjaab
set_option maxRecDepth 100000
open Go.RowKit Go.Deep

/-- What the ops of a batch write. -/
def opEnt (O : Ops) (q : Int) : Ents := ⟨O.U, fun i => q + i, O.K, O.X⟩

def entOut (O : Ops) (q : Int) (i : Nat) : Value := .agg #[.string (O.U i), .int .i64 (q + (i : Int)), .int .i64 (O.K i), .string (O.X i)]

set_option maxHeartbeats 1000000 in
theorem impl_entryAt (q : Int) (a : Option Addr) (len cap : Nat) (O : Ops) (i : Nat) (w : World) (hi : i < len) (hl : len ≤ 1048576) (hq : 0 ≤ q ∧ q ≤ 1000000000000) (hS : OpAt w w.heap.size a len O) :
    Calls Try.prog 26 #[.agg #[.int .i64 q, .slice a len cap], .int .i64 i] w fun e w' => e = .returned (entOut O q i) ∧ Below w.heap.size w w' := by
  obtain ⟨b, off, rfl, hb, c0, c1, c2⟩ := hS.at hi
  obtain ⟨q0, q1⟩ := hq
  have hii : (i : Int) < (len : Int) := by omega
  clear hS
  go_enter Try.func26, Try.ntmps26
  go_wp2
  refine bodyPost_ret (v := entOut O q i) (by simp [results, Try.results26, go_sem, entOut]) rfl ⟨rfl, ?_⟩
  go_grown

set_option maxHeartbeats 4000000 in
theorem spec_l7Entry (q : Int) (a : Option Addr) (len cap : Nat) (O : Ops) (i : Nat) (w : World) (hi : i < len) (hl : len ≤ 1048576) (hq : 0 ≤ q ∧ q ≤ 1000000000000) (hS : OpAt w w.heap.size a len O) :
    Calls Try.prog 45 #[.agg #[.int .i64 q, .slice a len cap], .int .i64 i] w fun e w' => e = .returned (entOut O q i) ∧ Below w.heap.size w w' := by
  obtain ⟨b, off, rfl, hb, c0, c1, c2⟩ := hS.at hi
  obtain ⟨q0, q1⟩ := hq
  have hii : (i : Int) < (len : Int) := by omega
  clear hS
  go_enter Try.func45, Try.ntmps45
  go_wp2
  go_region
  go_wp2
  refine bodyPost_ret (v := entOut O q i) (by simp [results, Try.results45, go_sem, entOut]) rfl ⟨rfl, ?_⟩
  exact (((Below.refl _ _).alloc (Nat.le_refl _) _).alloc (by simp) _).drew

end Go.Proofs.Ytljmfdcilnbjaab
