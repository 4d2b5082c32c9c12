/- Keys: KeyOk of the program and of the model; the copies that the laws make. -/
import Derived.Test.YtjcoejabpagaiaaEntRow
import Derived.Test.YtjcoejabpagaiaaRows
import Derived.Test.YtjcoejabpagaiaaBase
namespace Go.Proofs.Ytjcoejabpagaiaa
set_option maxRecDepth 100000
open Go.RowKit

def keyOkB (u : ByteArray) (q k : Int) : Bool := decide (1 ≤ u.size ∧ u.size ≤ 40 ∧ 0 ≤ q ∧ q ≤ 1000000000000 ∧ 0 ≤ k ∧ k ≤ 1)

theorem keyOk_yes {u : ByteArray} {q k : Int} (h : 1 ≤ u.size ∧ u.size ≤ 40 ∧ 0 ≤ q ∧ q ≤ 1000000000000 ∧ 0 ≤ k ∧ k ≤ 1) : keyOkB u q k = true := decide_eq_true h
theorem keyOk_no {u : ByteArray} {q k : Int} (h : ¬ (1 ≤ u.size ∧ u.size ≤ 40 ∧ 0 ≤ q ∧ q ≤ 1000000000000 ∧ 0 ≤ k ∧ k ≤ 1)) : keyOkB u q k = false := decide_eq_false h
theorem keyOk_iff {u : ByteArray} {q k : Int} : keyOkB u q k = true ↔ (1 ≤ u.size ∧ u.size ≤ 40 ∧ 0 ≤ q ∧ q ≤ 1000000000000 ∧ 0 ≤ k ∧ k ≤ 1) := by simp [keyOkB]

theorem ret_bool {a b : Bool} (h : a = b) : Ending.returned (.bool a) = .returned (.bool b) := by rw [h]

theorem spec_KeyOk (u : ByteArray) (q k : Int) (w : World) :
    Calls Try.prog 41 #[.agg #[.string u, .int .i64 q, .int .i64 k]] w fun e w' => e = .returned (.bool (keyOkB u q k)) ∧ Below w.heap.size w w' := by
  go_enter Try.func41, Try.ntmps41
  go_wp2
  all_goals go_ret
  all_goals refine ⟨ret_bool ?_, below1 _ _⟩
  all_goals first | exact (keyOk_yes (by omega)).symm | exact (keyOk_no (by omega)).symm | (rw [Bool.eq_iff_iff, keyOk_iff]; simp; omega)

theorem impl_KeyOk (u : ByteArray) (q k : Int) (w : World) :
    Calls Try.prog 42 #[.agg #[.string u, .int .i64 q, .int .i64 k]] w fun e w' => e = .returned (.bool (keyOkB u q k)) ∧ Below w.heap.size w w' := by
  go_enter Try.func42, Try.ntmps42
  go_wp2
  all_goals go_ret
  all_goals refine ⟨ret_bool ?_, below1 _ _⟩
  all_goals first | exact (keyOk_yes (by omega)).symm | exact (keyOk_no (by omega)).symm | (rw [Bool.eq_iff_iff, keyOk_iff]; simp; omega)

theorem laws_szKey (u : ByteArray) (q k l : Int) (hu : u.size ≤ maxLen) (hl : 0 ≤ l ∧ l ≤ 1048576) (w : World) :
    Calls Try.prog 31 #[.agg #[.string u, .int .i64 q, .int .i64 k], .int .i64 l] w fun e w' => e = .returned (.int .i64 (if l < u.size then -1 else l - u.size)) ∧ Below w.heap.size w w' := by
  unfold maxLen at hu
  obtain ⟨hl0, hl1⟩ := hl
  by_cases h : l < (u.size : Int)
  · rw [if_pos h]
    have hx : l - (u.size : Int) < 0 := by omega
    go_enter Try.func31, Try.ntmps31
    go_wp2
    go_ret
    exact ⟨rfl, below1 _ _⟩
  · rw [if_neg h]
    have hx : ¬ (l - (u.size : Int) < 0) := by omega
    go_enter Try.func31, Try.ntmps31
    go_wp2
    go_ret
    exact ⟨rfl, below1 _ _⟩

theorem laws_toKey (u : ByteArray) (q k : Int) (w : World) :
    Calls Try.prog 32 #[.agg #[.string u, .int .i64 q, .int .i64 k]] w fun e w' => e = .returned (.agg #[.string u, .int .i64 q, .int .i64 k]) ∧ Below w.heap.size w w' := by
  go_enter Try.func32, Try.ntmps32
  go_wp2
  refine bodyPost_ret (v := .agg #[.string u, .int .i64 q, .int .i64 k]) (by simp [results, Try.results32, go_sem]) rfl ⟨rfl, ?_⟩
  exact (((Below.refl _ _).alloc (Nat.le_refl _) _).alloc (by simp) _).alloc (by simp; omega) _

def IsKey (v : Value) : Prop := ∃ (u : ByteArray) (q k : Int), v = .agg #[.string u, .int .i64 q, .int .i64 k] ∧ u.size ≤ maxLen ∧ (Lit.int .i64 q).wf = true ∧ (Lit.int .i64 k).wf = true

theorem key_trod {H : Type} {enc : TypeId × Value → H} {w : World} {base : Nat} {spare : Nat → Bool} {held : Bool} {fuel : Nat} {cs : List Value} {x : DataW H × List MemPlace}
    (h : DataW.trod enc Try.prog w base spare held fuel 45 cs = some x) : ∃ (u : ByteArray) (q k : Int), cs = [.string u, .int .i64 q, .int .i64 k] ∧ u.size ≤ maxLen ∧ (Lit.int .i64 q).wf = true ∧ (Lit.int .i64 k).wf = true := by
  have hc : Try.prog.cellsOf 45 = 3 := by kernel_rfl
  have hc9 : Try.prog.cellsOf 9 = 1 := by kernel_rfl
  have hc2 : Try.prog.cellsOf 2 = 1 := by kernel_rfl
  obtain ⟨xs, n, _, _, hl, hxl, hf⟩ := DataW.trod_struct Try.underlying45 h
  rw [hc] at hl
  obtain ⟨c0, c1, c2, rfl⟩ : ∃ c0 c1 c2, cs = [c0, c1, c2] := by
    match cs, hl with
    | [c0, c1, c2], _ => exact ⟨c0, c1, c2, rfl⟩
  obtain ⟨x0, x1, x2, rfl⟩ : ∃ x0 x1 x2, xs = [x0, x1, x2] := by
    match xs, hxl with
    | [x0, x1, x2], _ => exact ⟨x0, x1, x2, rfl⟩
  have f0 : DataW.trod enc Try.prog w base spare held n 9 (List.take (Try.prog.cellsOf 9) [c0, c1, c2]) = some x0 := hf 0 _ rfl
  have f1 : DataW.trod enc Try.prog w base spare held n 2 (List.take (Try.prog.cellsOf 2) [c1, c2]) = some x1 := hf 1 _ rfl
  have f2 : DataW.trod enc Try.prog w base spare held n 2 (List.take (Try.prog.cellsOf 2) [c2]) = some x2 := hf 2 _ rfl
  rw [hc9] at f0
  rw [hc2] at f1 f2
  obtain ⟨u, e0, _, hu⟩ := DataW.trod_string Try.underlying9 f0
  obtain ⟨q, e1, _, hq⟩ := DataW.trod_int Try.underlying2 f1
  obtain ⟨k, e2, _, hk⟩ := DataW.trod_int Try.underlying2 f2
  simp at e0 e1 e2
  subst e0 e1 e2
  exact ⟨u, q, k, rfl, hu, hq, hk⟩

theorem open_key {H : Type} {enc : TypeId × Value → H} {w : World} {r : Reach} {b0 base : Nat} {spare : Nat → Bool} {held : Bool} {v : Value} {d : DataW H} {p : List MemPlace}
    (hv : Value.okWide Try.prog w r b0 45 v) (h : DataW.Trod enc Try.prog w base spare held 45 v d p) : IsKey v := by
  obtain ⟨cs, rfl, hsz⟩ := WideShapes.okWide_struct Try.underlying45 hv
  obtain ⟨fuel, hf⟩ := h
  obtain ⟨u, q, k, e, hu, hq, hk⟩ := key_trod hf
  have : cs = #[.string u, .int .i64 q, .int .i64 k] := Array.toList_inj.1 (by simpa [Value.cells] using e)
  subst this
  exact ⟨u, q, k, rfl, hu, hq, hk⟩

theorem wf_i64 {q : Int} (h : (Lit.int .i64 q).wf = true) : -9223372036854775808 ≤ q ∧ q ≤ 9223372036854775807 := by
  simpa [Lit.wf, IntKind.min, IntKind.max, IntKind.signed, IntKind.bits] using h

end Go.Proofs.Ytjcoejabpagaiaa
