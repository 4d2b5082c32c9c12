/- The cursor of l09: it stands in the first three cells of a block of five. -/
import Derived.Test.YtljmfdcilnbjaacBox
import Derived.Test.YtljmfdcilnbjaacShw
namespace Go.Proofs.Ytljmfdcilnbjaac
set_option maxRecDepth 100000
open Go.RowKit

/-- What the next key may share. -/
def basT (m p : Nat) (ah : ByteArray) : ByteArray := if p % m = 0 then ⟨#[]⟩ else ah

theorem ret_csr {a b : Bool} (h : a = b) : Ending.returned (.bool a) = .returned (.bool b) := by rw [h]

set_option maxHeartbeats 1000000 in
theorem csr_anew (w : World) (F m p : Nat) (ah : ByteArray) (v3 v4 : Value) (t : TypeId) (hm : 1 ≤ m) (h : BoxIs w F #[.int .i64 m, .int .i64 p, .string ah, v3, v4] t) :
    Calls Try.prog 54 #[.pointer (some ⟨F, 0, none⟩)] w fun e w' => e = .returned (.bool (decide (p % m = 0))) ∧ Below w.heap.size w w' := by
  have x0 : w.cell? ⟨F, 0, none⟩ = some (.int .i64 m) := h.cell 0
  have x1 : w.cell? ⟨F, 1, none⟩ = some (.int .i64 p) := h.cell 1
  have HB := hide (Below.refl w.heap.size w)
  obtain ⟨r, hr0⟩ : ∃ r, p % m = r := ⟨_, rfl⟩
  have hr : (p : Int) % (m : Int) = (r : Int) := by omega
  have hm0 : ((m : Int) == 0) = false := by simp; omega
  have hm1 : ¬ (m : Int) = 0 := by omega
  have hp0 : (0 : Int) ≤ (p : Int) := by omega
  rw [hr0]
  clear h hr0
  go_enter Try.func54, Try.ntmps54
  go_wp2
  go_quiet (fail)
  go_wp2
  go_ret
  refine ⟨ret_csr (a := ((r : Int) == 0)) ?_, below_drewN HB.out _⟩
  rw [Bool.eq_iff_iff]; simp

set_option maxHeartbeats 1000000 in
theorem csr_base (w : World) (F m p : Nat) (ah : ByteArray) (v3 v4 : Value) (t : TypeId) (hm : 1 ≤ m) (h : BoxIs w F #[.int .i64 m, .int .i64 p, .string ah, v3, v4] t) :
    Calls Try.prog 57 #[.pointer (some ⟨F, 0, none⟩)] w fun e w' => e = .returned (.string (basT m p ah)) ∧ Below w.heap.size w w' := by
  have ca := csr_anew w F m p ah v3 v4 t hm h
  unfold basT
  by_cases hz : p % m = 0
  · rw [if_pos hz]
    rw [decide_eq_true hz] at ca
    clear hz h
    go_enter Try.func57, Try.ntmps57
    go_wp2_with fail
    refine ca.mono ?_
    rintro e w1 ⟨rfl, hb⟩
    clear ca
    go_wp2
    go_ret
    exact ⟨rfl, hb⟩
  · rw [if_neg hz]
    rw [decide_eq_false hz] at ca
    have HX := hide h
    clear hz h
    go_enter Try.func57, Try.ntmps57
    go_wp2_with fail
    refine ca.mono ?_
    rintro e w1 ⟨rfl, hb⟩
    have x2 : w1.cell? ⟨F, 2, none⟩ = some (.string ah) := (HX.out.next hb).cell 2
    clear ca
    go_wp2
    go_ret
    exact ⟨rfl, hb⟩

set_option maxHeartbeats 1000000 in
theorem csr_pass (w : World) (F m p : Nat) (ah s : ByteArray) (v3 v4 : Value) (t : TypeId) (hp : p ≤ 1000000) (h : BoxIs w F #[.int .i64 m, .int .i64 p, .string ah, v3, v4] t) :
    Calls Try.prog 60 #[.pointer (some ⟨F, 0, none⟩), .string s] w fun e w' => e = .returned (.tuple #[]) ∧ BoxIs w' F #[.int .i64 m, .int .i64 ((p + 1 : Nat) : Int), .string s, v3, v4] t ∧ Mv F w w' := by
  have x1 : w.cell? ⟨F, 1, none⟩ = some (.int .i64 p) := h.cell 1
  have x2 : w.cell? ⟨F, 2, none⟩ = some (.string ah) := h.cell 2
  have hf := h.free
  have HX := hide h
  have hw1 : IntKind.i64.wrap ((p : Int) + 1) = ((p + 1 : Nat) : Int) := by rw [IntKind.wrap_i64]; omega
  clear h
  go_enter Try.func60, Try.ntmps60
  go_wp2
  refine bodyPost_end (results_none rfl _ _ _) rfl ⟨rfl, ?_, ?_⟩
  · exact heap_setCell_same _ F 1 _ _ (.int .i64 ((p : Int) + 1)) (heap_setCell_same w F 2 _ _ (.string s) HX.out)
  · exact ((Mv.refl F w).setCell _).setCell _

end Go.Proofs.Ytljmfdcilnbjaac
