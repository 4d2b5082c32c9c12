/- The law on EntryOk. -/
import Derived.Test.YtjcoejabpagaiaaEntry
namespace Go.Proofs.Ytjcoejabpagaiaa
set_option maxRecDepth 100000
open Go.RowKit

theorem laws_szEntry (u : ByteArray) (q k : Int) (v : ByteArray) (l : Int) (hu : u.size ≤ maxLen) (hv : v.size ≤ maxLen) (hl : 0 ≤ l ∧ l ≤ 1048576) (w : World) :
    Calls Try.prog 18 #[.agg #[.string u, .int .i64 q, .int .i64 k, .string v], .int .i64 l] w fun e w' => e = .returned (.int .i64 (if l < u.size + v.size then -1 else l - u.size - v.size)) ∧ Below w.heap.size w w' := by
  have hB := Below.refl (w.alloc (.cells #[.string u, .int .i64 q, .int .i64 k, .string v] 47)).heap.size (w.alloc (.cells #[.string u, .int .i64 q, .int .i64 k, .string v] 47))
  obtain ⟨hl0, hl1⟩ := hl
  by_cases h : l < (u.size : Int)
  · go_enter Try.func18, Try.ntmps18
    go_wp2_with fail
    refine (calls_from hB (laws_szKey u q k l hu (by omega) _)).mono ?_
    try clear hC hF hZ
    clear hB
    rintro e w1 ⟨rfl, hB⟩
    obtain ⟨hC, hF, hZ⟩ := bfacts hB
    go_wp2
    go_ret
    exact ⟨rfl, below_of_alloc hB⟩
  · unfold maxLen at hv
    by_cases h2 : l - (u.size : Int) < (v.size : Int)
    · have h3 : l - (u.size : Int) - (v.size : Int) < 0 := by omega
      go_enter Try.func18, Try.ntmps18
      go_wp2_with fail
      refine (calls_from hB (laws_szKey u q k l hu (by omega) _)).mono ?_
      try clear hC hF hZ
      clear hB
      rintro e w1 ⟨rfl, hB⟩
      obtain ⟨hC, hF, hZ⟩ := bfacts hB
      go_wp2
      go_ret
      exact ⟨rfl, below_of_alloc hB⟩
    · have h3 : ¬ (l - (u.size : Int) - (v.size : Int) < 0) := by omega
      go_enter Try.func18, Try.ntmps18
      go_wp2_with fail
      refine (calls_from hB (laws_szKey u q k l hu (by omega) _)).mono ?_
      try clear hC hF hZ
      clear hB
      rintro e w1 ⟨rfl, hB⟩
      obtain ⟨hC, hF, hZ⟩ := bfacts hB
      go_wp2
      go_ret
      exact ⟨rfl, below_of_alloc hB⟩

theorem laws_toKey_x (u : ByteArray) (q k : Int) (w : World) :
    Calls Try.prog 32 #[.agg #[.string u, .int .i64 q, .int .i64 k]] w fun e w' => e = .returned (.agg #[.string u, .int .i64 q, .int .i64 k]) ∧ ((w.alloc (.cells #[.string u, .int .i64 q, .int .i64 k] 45)).alloc (.cells #[.string u, .int .i64 q, .int .i64 k] 41)).alloc (.cells #[.string u, .int .i64 q, .int .i64 k] 41) = w' := by
  go_enter Try.func32, Try.ntmps32
  go_wp2
  exact bodyPost_ret (v := .agg #[.string u, .int .i64 q, .int .i64 k]) (by simp [results, Try.results32, go_sem]) rfl ⟨rfl, rfl⟩

theorem laws_toEntry (u : ByteArray) (q k : Int) (v : ByteArray) (w : World) :
    Calls Try.prog 19 #[.agg #[.string u, .int .i64 q, .int .i64 k, .string v]] w fun e w' => e = .returned (.agg #[.string u, .int .i64 q, .int .i64 k, .string v]) ∧ Below w.heap.size w w' := by
  go_enter Try.func19, Try.ntmps19
  go_wp2_with fail
  refine (laws_toKey_x u q k _).mono ?_
  rintro e w1 ⟨rfl, rfl⟩
  go_wp2
  refine bodyPost_ret (v := .agg #[.string u, .int .i64 q, .int .i64 k, .string v]) (by simp [results, Try.results19, go_sem]) rfl ⟨rfl, ?_⟩
  go_grown

def IsEntry (x : Value) : Prop := ∃ (u : ByteArray) (q k : Int) (v : ByteArray), x = .agg #[.string u, .int .i64 q, .int .i64 k, .string v] ∧ u.size ≤ maxLen ∧ v.size ≤ maxLen

theorem entry_trod {H : Type} {enc : TypeId × Value → H} {w : World} {base : Nat} {spare : Nat → Bool} {held : Bool} {fuel : Nat} {cs : List Value} {x : DataW H × List MemPlace}
    (h : DataW.trod enc Try.prog w base spare held fuel 47 cs = some x) : ∃ (u : ByteArray) (q k : Int) (v : ByteArray), cs = [.string u, .int .i64 q, .int .i64 k, .string v] ∧ u.size ≤ maxLen ∧ v.size ≤ maxLen := by
  have hc : Try.prog.cellsOf 47 = 4 := by kernel_rfl
  have hc3 : Try.prog.cellsOf 45 = 3 := by kernel_rfl
  have hc9 : Try.prog.cellsOf 9 = 1 := by kernel_rfl
  obtain ⟨xs, n, _, _, hl, hxl, hf⟩ := DataW.trod_struct Try.underlying47 h
  rw [hc] at hl
  obtain ⟨c0, c1, c2, c3, rfl⟩ : ∃ c0 c1 c2 c3, cs = [c0, c1, c2, c3] := by
    match cs, hl with
    | [c0, c1, c2, c3], _ => exact ⟨c0, c1, c2, c3, rfl⟩
  obtain ⟨x0, x1, rfl⟩ : ∃ x0 x1, xs = [x0, x1] := by
    match xs, hxl with
    | [x0, x1], _ => exact ⟨x0, x1, rfl⟩
  have f0 : DataW.trod enc Try.prog w base spare held n 45 (List.take (Try.prog.cellsOf 45) [c0, c1, c2, c3]) = some x0 := hf 0 _ rfl
  have f1 : DataW.trod enc Try.prog w base spare held n 9 (List.take (Try.prog.cellsOf 9) [c3]) = some x1 := hf 1 _ rfl
  rw [hc3] at f0
  rw [hc9] at f1
  obtain ⟨u, q, k, e0, hu, _, _⟩ := key_trod f0
  obtain ⟨v, e1, _, hv⟩ := DataW.trod_string Try.underlying9 f1
  simp at e0 e1
  obtain ⟨rfl, rfl, rfl⟩ := e0
  subst e1
  exact ⟨u, q, k, v, rfl, hu, hv⟩

theorem open_entry {H : Type} {enc : TypeId × Value → H} {w : World} {r : Reach} {b0 base : Nat} {spare : Nat → Bool} {held : Bool} {v : Value} {d : DataW H} {p : List MemPlace}
    (hv : Value.okWide Try.prog w r b0 47 v) (h : DataW.Trod enc Try.prog w base spare held 47 v d p) : IsEntry v := by
  obtain ⟨cs, rfl, hsz⟩ := WideShapes.okWide_struct Try.underlying47 hv
  obtain ⟨fuel, hf⟩ := h
  obtain ⟨u, q, k, v', e, hu, hv'⟩ := entry_trod hf
  have : cs = #[.string u, .int .i64 q, .int .i64 k, .string v'] := Array.toList_inj.1 (by simpa [Value.cells] using e)
  subst this
  exact ⟨u, q, k, v', rfl, hu, hv'⟩

end Go.Proofs.Ytjcoejabpagaiaa
