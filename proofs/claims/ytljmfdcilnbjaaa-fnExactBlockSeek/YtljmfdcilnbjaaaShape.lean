/- ShapeOk, of the program and of the model; the law on it. -/
import Derived.Test.YtljmfdcilnbjaaaRows
import Derived.Test.YtljmfdcilnbjaaaBase
namespace Go.Proofs.Ytljmfdcilnbjaaa
set_option maxRecDepth 100000
open Go.RowKit

def everyB (e : Int) : Bool := decide (1 ≤ e ∧ e ≤ 16)
def shapeB (e s k : Int) : Bool := decide (1 ≤ e ∧ e ≤ 16 ∧ 20 ≤ s ∧ s ≤ 4000 ∧ 0 ≤ k ∧ k ≤ 2)

theorem ret_shape {a b : Bool} (h : a = b) : Ending.returned (.bool a) = .returned (.bool b) := by rw [h]

theorem spec_l1In (n l h : Int) (w : World) :
    Calls Try.prog 29 #[.int .i64 n, .int .i64 l, .int .i64 h] w fun e w' => e = .returned (.bool (decide (l ≤ n ∧ n ≤ h))) ∧ w = w' := by
  by_cases h1 : l ≤ n
  · by_cases h2 : n ≤ h
    · rw [decide_eq_true ⟨h1, h2⟩]
      go_enter Try.func29, Try.ntmps29
      go_wp2
      go_ret
      exact ⟨rfl, rfl⟩
    · rw [decide_eq_false (fun h => h2 h.2)]
      go_enter Try.func29, Try.ntmps29
      go_wp2
      go_ret
      exact ⟨rfl, rfl⟩
  · rw [decide_eq_false (fun h => h1 h.1)]
    go_enter Try.func29, Try.ntmps29
    go_wp2
    go_ret
    exact ⟨rfl, rfl⟩

theorem impl_everyOk (n : Int) (w : World) :
    Calls Try.prog 30 #[.int .i64 n] w fun e w' => e = .returned (.bool (everyB n)) ∧ w = w' := by
  unfold everyB
  by_cases h1 : 1 ≤ n
  · by_cases h2 : n ≤ 16
    · rw [decide_eq_true ⟨h1, h2⟩]
      go_enter Try.func30, Try.ntmps30
      go_wp2
      go_ret
      exact ⟨rfl, rfl⟩
    · rw [decide_eq_false (fun h => h2 h.2)]
      go_enter Try.func30, Try.ntmps30
      go_wp2
      go_ret
      exact ⟨rfl, rfl⟩
  · rw [decide_eq_false (fun h => h1 h.1)]
    go_enter Try.func30, Try.ntmps30
    go_wp2
    go_ret
    exact ⟨rfl, rfl⟩

theorem impl_ShapeOk (e s k : Int) (w : World) :
    Calls Try.prog 13 #[.agg #[.int .i64 e, .int .i64 s, .int .i64 k]] w fun r w' => r = .returned (.bool (shapeB e s k)) ∧ Below w.heap.size w w' := by
  have hb := (Below.refl w.heap.size w).alloc (Nat.le_refl _) (.cells #[.int .i64 e, .int .i64 s, .int .i64 k] 27)
  have HB := hide hb
  clear hb
  by_cases h1 : 1 ≤ e ∧ e ≤ 16
  · have ce := fun wx => (show everyB e = true from decide_eq_true h1) ▸ impl_everyOk e wx
    by_cases h2 : 20 ≤ s
    · by_cases h3 : s ≤ 4000
      · by_cases h4 : 0 ≤ k
        · by_cases h5 : k ≤ 2
          · have hv : shapeB e s k = true := decide_eq_true (by omega)
            rw [hv]; clear hv h1
            go_enter Try.func13, Try.ntmps13
            go_wp2_with fail
            refine (ce _).mono ?_
            rintro r w1 ⟨rfl, rfl⟩
            clear ce
            go_wp2
            go_ret
            exact ⟨rfl, HB.out⟩
          · have hv : shapeB e s k = false := decide_eq_false (by omega)
            rw [hv]; clear hv h1
            go_enter Try.func13, Try.ntmps13
            go_wp2_with fail
            refine (ce _).mono ?_
            rintro r w1 ⟨rfl, rfl⟩
            clear ce
            go_wp2
            go_ret
            exact ⟨ret_shape (by simp [h5]), HB.out⟩
        · have hv : shapeB e s k = false := decide_eq_false (by omega)
          rw [hv]; clear hv h1
          go_enter Try.func13, Try.ntmps13
          go_wp2_with fail
          refine (ce _).mono ?_
          rintro r w1 ⟨rfl, rfl⟩
          clear ce
          go_wp2
          go_ret
          exact ⟨rfl, HB.out⟩
      · have hv : shapeB e s k = false := decide_eq_false (by omega)
        rw [hv]; clear hv h1
        go_enter Try.func13, Try.ntmps13
        go_wp2_with fail
        refine (ce _).mono ?_
        rintro r w1 ⟨rfl, rfl⟩
        clear ce
        go_wp2
        go_ret
        exact ⟨rfl, HB.out⟩
    · have hv : shapeB e s k = false := decide_eq_false (by omega)
      rw [hv]; clear hv h1
      go_enter Try.func13, Try.ntmps13
      go_wp2_with fail
      refine (ce _).mono ?_
      rintro r w1 ⟨rfl, rfl⟩
      clear ce
      go_wp2
      go_ret
      exact ⟨rfl, HB.out⟩
  · have ce := fun wx => (show everyB e = false from decide_eq_false h1) ▸ impl_everyOk e wx
    have hv : shapeB e s k = false := decide_eq_false (by omega)
    rw [hv]; clear hv h1
    go_enter Try.func13, Try.ntmps13
    go_wp2_with fail
    refine (ce _).mono ?_
    rintro r w1 ⟨rfl, rfl⟩
    clear ce
    go_wp2
    go_ret
    exact ⟨rfl, HB.out⟩

theorem spec_ShapeOk (e s k : Int) (w : World) :
    Calls Try.prog 11 #[.agg #[.int .i64 e, .int .i64 s, .int .i64 k]] w fun r w' => r = .returned (.bool (shapeB e s k)) ∧ Below w.heap.size w w' := by
  have hb := (Below.refl w.heap.size w).alloc (Nat.le_refl _) (.cells #[.int .i64 e, .int .i64 s, .int .i64 k] 27)
  have HB := hide hb
  clear hb
  have c1 := fun wx => spec_l1In e 1 16 wx
  have c2 := fun wx => spec_l1In s 20 4000 wx
  have c3 := fun wx => spec_l1In k 0 2 wx
  by_cases h1 : 1 ≤ e ∧ e ≤ 16
  · rw [decide_eq_true h1] at c1
    by_cases h2 : 20 ≤ s ∧ s ≤ 4000
    · rw [decide_eq_true h2] at c2
      by_cases h3 : 0 ≤ k ∧ k ≤ 2
      · rw [decide_eq_true h3] at c3
        have hv : shapeB e s k = true := decide_eq_true (by omega)
        rw [hv]; clear hv h1 h2 h3
        go_enter Try.func11, Try.ntmps11
        go_wp2_with fail
        refine (c1 _).mono ?_
        rintro r w1 ⟨rfl, rfl⟩
        go_wp2_with fail
        refine (c2 _).mono ?_
        rintro r w1 ⟨rfl, rfl⟩
        go_wp2_with fail
        refine (c3 _).mono ?_
        rintro r w1 ⟨rfl, rfl⟩
        clear c1 c2 c3
        go_wp2
        go_ret
        exact ⟨rfl, HB.out⟩
      · rw [decide_eq_false h3] at c3
        have hv : shapeB e s k = false := decide_eq_false (by omega)
        rw [hv]; clear hv h1 h2 h3
        go_enter Try.func11, Try.ntmps11
        go_wp2_with fail
        refine (c1 _).mono ?_
        rintro r w1 ⟨rfl, rfl⟩
        go_wp2_with fail
        refine (c2 _).mono ?_
        rintro r w1 ⟨rfl, rfl⟩
        go_wp2_with fail
        refine (c3 _).mono ?_
        rintro r w1 ⟨rfl, rfl⟩
        clear c1 c2 c3
        go_wp2
        go_ret
        exact ⟨rfl, HB.out⟩
    · rw [decide_eq_false h2] at c2
      have hv : shapeB e s k = false := decide_eq_false (by omega)
      rw [hv]; clear hv h1 h2
      go_enter Try.func11, Try.ntmps11
      go_wp2_with fail
      refine (c1 _).mono ?_
      rintro r w1 ⟨rfl, rfl⟩
      go_wp2_with fail
      refine (c2 _).mono ?_
      rintro r w1 ⟨rfl, rfl⟩
      clear c1 c2 c3
      go_wp2
      go_ret
      exact ⟨rfl, HB.out⟩
  · rw [decide_eq_false h1] at c1
    have hv : shapeB e s k = false := decide_eq_false (by omega)
    rw [hv]; clear hv h1
    go_enter Try.func11, Try.ntmps11
    go_wp2_with fail
    refine (c1 _).mono ?_
    rintro r w1 ⟨rfl, rfl⟩
    clear c1 c2 c3
    go_wp2
    go_ret
    exact ⟨rfl, HB.out⟩

theorem laws_toShape (e s k : Int) (w : World) :
    Calls Try.prog 12 #[.agg #[.int .i64 e, .int .i64 s, .int .i64 k]] w fun r w' => r = .returned (.agg #[.int .i64 e, .int .i64 s, .int .i64 k]) ∧ Below w.heap.size w w' := by
  go_enter Try.func12, Try.ntmps12
  go_wp2
  refine bodyPost_ret (v := .agg #[.int .i64 e, .int .i64 s, .int .i64 k]) (by simp [results, Try.results12, go_sem]) rfl ⟨rfl, ?_⟩
  exact (((Below.refl _ _).alloc (Nat.le_refl _) _).alloc (by simp) _).alloc (by simp; omega) _

def IsShape (v : Value) : Prop := ∃ (e s k : Int), v = .agg #[.int .i64 e, .int .i64 s, .int .i64 k]

theorem open_shape {H : Type} {enc : TypeId × Value → H} {w : World} {r : Reach} {b0 base : Nat} {spare : Nat → Bool} {held : Bool} {v : Value} {d : DataW H} {p : List MemPlace}
    (hv : Value.okWide Try.prog w r b0 25 v) (h : DataW.Trod enc Try.prog w base spare held 25 v d p) : IsShape v := by
  have hc : Try.prog.cellsOf 25 = 3 := by kernel_rfl
  have hc2 : Try.prog.cellsOf 2 = 1 := by kernel_rfl
  obtain ⟨cs, rfl, hsz⟩ := WideShapes.okWide_struct Try.underlying25 hv
  obtain ⟨fuel, hf⟩ := h
  obtain ⟨xs, n, _, _, hl, hxl, hf⟩ := DataW.trod_struct Try.underlying25 hf
  rw [hc] at hl
  obtain ⟨c0, c1, c2, rfl⟩ : ∃ c0 c1 c2, cs = #[c0, c1, c2] := by
    match cs, hl with
    | ⟨[c0, c1, c2]⟩, _ => exact ⟨c0, c1, c2, rfl⟩
  obtain ⟨x0, x1, x2, rfl⟩ : ∃ x0 x1 x2, xs = [x0, x1, x2] := by
    match xs, hxl with
    | [x0, x1, x2], _ => exact ⟨x0, x1, x2, rfl⟩
  have f0 : DataW.trod enc Try.prog w base spare held n 2 (List.take (Try.prog.cellsOf 2) [c0, c1, c2]) = some x0 := hf 0 _ rfl
  have f1 : DataW.trod enc Try.prog w base spare held n 2 (List.take (Try.prog.cellsOf 2) [c1, c2]) = some x1 := hf 1 _ rfl
  have f2 : DataW.trod enc Try.prog w base spare held n 2 (List.take (Try.prog.cellsOf 2) [c2]) = some x2 := hf 2 _ rfl
  rw [hc2] at f0 f1 f2
  obtain ⟨a, e0, _, _⟩ := DataW.trod_int Try.underlying2 f0
  obtain ⟨q, e1, _, _⟩ := DataW.trod_int Try.underlying2 f1
  obtain ⟨k, e2, _, _⟩ := DataW.trod_int Try.underlying2 f2
  simp at e0 e1 e2
  subst e0 e1 e2
  exact ⟨a, q, k, rfl⟩

theorem walk_ShapeOk (v : Value) (hv : IsShape v) (w : World) :
    Calls Try.prog 4 #[v] w fun e w' => e = .returned (.bool true) ∧ Below w.heap.size w w' := by
  obtain ⟨e, s, k, rfl⟩ := hv
  have hB := Below.refl (w.alloc (.cells #[.int .i64 e, .int .i64 s, .int .i64 k] 25)).heap.size (w.alloc (.cells #[.int .i64 e, .int .i64 s, .int .i64 k] 25))
  go_enter Try.func4, Try.ntmps4
  go_wp2_with fail
  refine (calls_from hB (laws_toShape e s k _)).mono ?_
  try clear hC hF hZ
  clear hB
  rintro e w1 ⟨rfl, hB⟩
  obtain ⟨hC, hF, hZ⟩ := bfacts hB
  go_wp2_with fail
  refine (calls_from hB (spec_ShapeOk e s k _)).mono ?_
  try clear hC hF hZ
  clear hB
  rintro e w1 ⟨rfl, hB⟩
  obtain ⟨hC, hF, hZ⟩ := bfacts hB
  go_wp2_with fail
  refine (calls_from hB (laws_toShape e s k _)).mono ?_
  try clear hC hF hZ
  clear hB
  rintro e w1 ⟨rfl, hB⟩
  obtain ⟨hC, hF, hZ⟩ := bfacts hB
  go_wp2_with fail
  refine (calls_from hB (impl_ShapeOk e s k _)).mono ?_
  try clear hC hF hZ
  clear hB
  rintro e w1 ⟨rfl, hB⟩
  obtain ⟨hC, hF, hZ⟩ := bfacts hB
  go_wp2
  go_ret
  exact ⟨rfl, below_of_alloc hB⟩

end Go.Proofs.Ytljmfdcilnbjaaa
