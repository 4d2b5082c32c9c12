/- MemBytes, of the program and of the model, and its law. -/
import Derived.Test.YtonkjdjancnajacLEntsOk
namespace Go.Proofs.Ytonkjdjancnajac
set_option maxRecDepth 100000
open Go.RowKit Go.Deep

/-- The bytes of the first entries of a row. -/
def mb (E : Ents) : Nat → Int
  | 0 => 0
  | k + 1 => mb E k + (((E.U k).size : Int) + ((E.X k).size : Int) + 24)

theorem ent_sizes {E : Ents} {i : Nat} (h : entOk E i = true) : (E.U i).size ≤ 40 ∧ (E.X i).size ≤ 200 := by
  unfold entOk entryOkB at h
  simp only [Bool.and_eq_true, decide_eq_true_eq] at h
  exact ⟨(keyOk_iff.1 h.1.1).2.1, h.1.2⟩

theorem mb_bd {E : Ents} {len : Nat} (h : rowOkB E len = true) : ∀ k, k ≤ len → 0 ≤ mb E k ∧ mb E k ≤ 264 * (k : Int)
  | 0, _ => by simp [mb]
  | k + 1, hk => by
    have h1 := mb_bd h k (by omega)
    have h2 := ent_sizes ((rowOk_out h).2 k (by omega)).1
    simp only [mb]
    omega

def memBytes (E : Ents) (len : Nat) : Int := if rowOkB E len = true then mb E len else -1
theorem memBytes_yes {E : Ents} {len : Nat} (h : rowOkB E len = true) : memBytes E len = mb E len := by rw [memBytes, if_pos h]
theorem memBytes_no {E : Ents} {len : Nat} (h : rowOkB E len = false) : memBytes E len = -1 := by rw [memBytes, if_neg (by rw [h]; decide)]

theorem ret_i64 {a b : Int} (h : a = b) : Ending.returned (.int .i64 a) = .returned (.int .i64 b) := by rw [h]

end Go.Proofs.Ytonkjdjancnajac
