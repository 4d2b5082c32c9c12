/- slices.SortFunc of numbers, laid by the kit's shelf (lay-plain.mjs, lay2src.py). -/
import Derived.Shelf.SlSortCmp.NoneTotal
import Derived.Shelf.SlLaysF
import Derived.Test.YtplemoedpdammaaRows
import Derived.Test.YtplemoedpdammaaMgMgEntRowBoxMine
import Derived.Test.YtplemoedpdammaaBase
namespace Go.Proofs.Ytplemoedpdammaa
set_option maxRecDepth 100000
open Go.RowKit

def lsortI_ren : Go.Shelf.Ren := ⟨fun | 6 => 110 | 15 => 114 | 14 => 113 | 28 => 123 | 29 => 124 | 20 => 115 | 21 => 116 | 22 => 117 | 23 => 118 | 24 => 119 | 25 => 120 | 26 => 121 | 27 => 122 | 46 => 125 | 47 => 126 | 48 => 127 | 49 => 128 | 50 => 129 | 57 => 130 | n => n, fun | 22 => 56 | 24 => 2 | 25 => 127 | 3 => 3 | 39 => 113 | 0 => 0 | 53 => 115 | 55 => 80 | 4 => 4 | 46 => 148 | 45 => 147 | 50 => 152 | 5 => 5 | 9 => 9 | 66 => 156 | 70 => 159 | 76 => 161 | 77 => 162 | n => n, fun | n => n⟩
theorem lsortI : Go.Proofs.SlLaysF.n6 Try.prog lsortI_ren := {
  mixed := by kernel_rfl
  f6 := ⟨Try.f110.name, by decide, Try.func110.trans (congrArg some (by kernel_rfl))⟩
  f14 := ⟨Try.f113.name, by decide, Try.func113.trans (congrArg some (by kernel_rfl))⟩
  f15 := Try.func114.trans (congrArg some (by kernel_rfl))
  f20 := ⟨Try.f115.name, by decide, Try.func115.trans (congrArg some (by kernel_rfl))⟩
  f21 := ⟨Try.f116.name, by decide, Try.func116.trans (congrArg some (by kernel_rfl))⟩
  f22 := ⟨Try.f117.name, by decide, Try.func117.trans (congrArg some (by kernel_rfl))⟩
  f23 := ⟨Try.f118.name, by decide, Try.func118.trans (congrArg some (by kernel_rfl))⟩
  f24 := ⟨Try.f119.name, by decide, Try.func119.trans (congrArg some (by kernel_rfl))⟩
  f25 := ⟨Try.f120.name, by decide, Try.func120.trans (congrArg some (by kernel_rfl))⟩
  f26 := ⟨Try.f121.name, by decide, Try.func121.trans (congrArg some (by kernel_rfl))⟩
  f27 := ⟨Try.f122.name, by decide, Try.func122.trans (congrArg some (by kernel_rfl))⟩
  f28 := Try.func123.trans (congrArg some (by kernel_rfl))
  f29 := Try.func124.trans (congrArg some (by kernel_rfl))
  f46 := ⟨Try.f125.name, by decide, Try.func125.trans (congrArg some (by kernel_rfl))⟩
  f47 := Try.func126.trans (congrArg some (by kernel_rfl))
  f48 := Try.func127.trans (congrArg some (by kernel_rfl))
  f49 := ⟨Try.f128.name, by decide, Try.func128.trans (congrArg some (by kernel_rfl))⟩
  f50 := ⟨Try.f129.name, by decide, Try.func129.trans (congrArg some (by kernel_rfl))⟩
  f57 := ⟨Try.f130.name, by decide, Try.func130.trans (congrArg some (by kernel_rfl))⟩
  t0 := Try.underlying0
  a0 := Try.isAgg0
  z0 := Try.sizeOf0
  v0 := Try.zeroValue0
  t3 := Try.underlying3
  a3 := Try.isAgg3
  z3 := Try.sizeOf3
  v3 := Try.zeroValue3
  t4 := Try.underlying4
  a4 := Try.isAgg4
  z4 := Try.sizeOf4
  v4 := Try.zeroValue4
  t5 := Try.underlying5
  a5 := Try.isAgg5
  z5 := Try.sizeOf5
  v5 := Try.zeroValue5
  t9 := Try.underlying9
  a9 := Try.isAgg9
  z9 := Try.sizeOf9
  v9 := Try.zeroValue9
  t22 := Try.underlying56
  a22 := Try.isAgg56
  z22 := Try.sizeOf56
  v22 := Try.zeroValue56
  a24 := Try.isAgg2
  z24 := Try.sizeOf2
  t25 := Try.underlying127
  a25 := Try.isAgg127
  z25 := Try.sizeOf127
  v25 := Try.zeroValue127
  t39 := Try.underlying113
  a39 := Try.isAgg113
  z39 := Try.sizeOf113
  v39 := Try.zeroValue113
  t45 := Try.underlying147
  a45 := Try.isAgg147
  z45 := Try.sizeOf147
  v45 := Try.zeroValue147
  t46 := Try.underlying148
  a46 := Try.isAgg148
  z46 := Try.sizeOf148
  v46 := Try.zeroValue148
  t50 := Try.underlying152
  a50 := Try.isAgg152
  z50 := Try.sizeOf152
  v50 := Try.zeroValue152
  t53 := Try.underlying115
  a53 := Try.isAgg115
  z53 := Try.sizeOf115
  v53 := Try.zeroValue115
  t55 := Try.underlying80
  a55 := Try.isAgg80
  z55 := Try.sizeOf80
  v55 := Try.zeroValue80
  t66 := Try.underlying156
  a66 := Try.isAgg156
  z66 := Try.sizeOf156
  v66 := Try.zeroValue156
  t70 := Try.underlying159
  a70 := Try.isAgg159
  z70 := Try.sizeOf159
  v70 := Try.zeroValue159
  t76 := Try.underlying161
  a76 := Try.isAgg161
  z76 := Try.sizeOf161
  v76 := Try.zeroValue161
  t77 := Try.underlying162
  a77 := Try.isAgg162
  z77 := Try.sizeOf162
  v77 := Try.zeroValue162 }

end Go.Proofs.Ytplemoedpdammaa

/- Keys: KeyOk of the program and of the model; the copies that the laws make. -/
namespace Go.Proofs.Ytplemoedpdammaa
set_option maxRecDepth 100000
open Go.RowKit

def keyOkB (u : ByteArray) (q k : Int) : Bool := decide (1 ≤ u.size ∧ u.size ≤ 40 ∧ 0 ≤ q ∧ q ≤ 1000000000000 ∧ 0 ≤ k ∧ k ≤ 1)

theorem keyOk_yes {u : ByteArray} {q k : Int} (h : 1 ≤ u.size ∧ u.size ≤ 40 ∧ 0 ≤ q ∧ q ≤ 1000000000000 ∧ 0 ≤ k ∧ k ≤ 1) : keyOkB u q k = true := decide_eq_true h
theorem keyOk_no {u : ByteArray} {q k : Int} (h : ¬ (1 ≤ u.size ∧ u.size ≤ 40 ∧ 0 ≤ q ∧ q ≤ 1000000000000 ∧ 0 ≤ k ∧ k ≤ 1)) : keyOkB u q k = false := decide_eq_false h
theorem keyOk_iff {u : ByteArray} {q k : Int} : keyOkB u q k = true ↔ (1 ≤ u.size ∧ u.size ≤ 40 ∧ 0 ≤ q ∧ q ≤ 1000000000000 ∧ 0 ≤ k ∧ k ≤ 1) := by simp [keyOkB]

theorem ret_bool {a b : Bool} (h : a = b) : Ending.returned (.bool a) = .returned (.bool b) := by rw [h]

theorem spec_KeyOk (u : ByteArray) (q k : Int) (w : World) :
    Calls Try.prog 80 #[.agg #[.string u, .int .i64 q, .int .i64 k]] w fun e w' => e = .returned (.bool (keyOkB u q k)) ∧ Below w.heap.size w w' := by
  go_enter Try.func80, Try.ntmps80
  go_wp2
  all_goals go_ret
  all_goals refine ⟨ret_bool ?_, below1 _ _⟩
  all_goals first | exact (keyOk_yes (by omega)).symm | exact (keyOk_no (by omega)).symm | (rw [Bool.eq_iff_iff, keyOk_iff]; simp; omega)

theorem impl_KeyOk (u : ByteArray) (q k : Int) (w : World) :
    Calls Try.prog 100 #[.agg #[.string u, .int .i64 q, .int .i64 k]] w fun e w' => e = .returned (.bool (keyOkB u q k)) ∧ Below w.heap.size w w' := by
  go_enter Try.func100, Try.ntmps100
  go_wp2
  all_goals go_ret
  all_goals refine ⟨ret_bool ?_, below1 _ _⟩
  all_goals first | exact (keyOk_yes (by omega)).symm | exact (keyOk_no (by omega)).symm | (rw [Bool.eq_iff_iff, keyOk_iff]; simp; omega)

theorem laws_szKey (u : ByteArray) (q k l : Int) (hu : u.size ≤ maxLen) (hl : 0 ≤ l ∧ l ≤ 1048576) (w : World) :
    Calls Try.prog 72 #[.agg #[.string u, .int .i64 q, .int .i64 k], .int .i64 l] w fun e w' => e = .returned (.int .i64 (if l < u.size then -1 else l - u.size)) ∧ Below w.heap.size w w' := by
  unfold maxLen at hu
  obtain ⟨hl0, hl1⟩ := hl
  by_cases h : l < (u.size : Int)
  · rw [if_pos h]
    have hx : l - (u.size : Int) < 0 := by omega
    go_enter Try.func72, Try.ntmps72
    go_wp2
    go_ret
    exact ⟨rfl, below1 _ _⟩
  · rw [if_neg h]
    have hx : ¬ (l - (u.size : Int) < 0) := by omega
    go_enter Try.func72, Try.ntmps72
    go_wp2
    go_ret
    exact ⟨rfl, below1 _ _⟩

theorem laws_toKey (u : ByteArray) (q k : Int) (w : World) :
    Calls Try.prog 73 #[.agg #[.string u, .int .i64 q, .int .i64 k]] w fun e w' => e = .returned (.agg #[.string u, .int .i64 q, .int .i64 k]) ∧ Below w.heap.size w w' := by
  go_enter Try.func73, Try.ntmps73
  go_wp2
  refine bodyPost_ret (v := .agg #[.string u, .int .i64 q, .int .i64 k]) (by simp [results, Try.results73, go_sem]) rfl ⟨rfl, ?_⟩
  exact (((Below.refl _ _).alloc (Nat.le_refl _) _).alloc (by simp) _).alloc (by simp; omega) _

def IsKey (v : Value) : Prop := ∃ (u : ByteArray) (q k : Int), v = .agg #[.string u, .int .i64 q, .int .i64 k] ∧ u.size ≤ maxLen ∧ (Lit.int .i64 q).wf = true ∧ (Lit.int .i64 k).wf = true

theorem key_trod {H : Type} {enc : TypeId × Value → H} {w : World} {base : Nat} {spare : Nat → Bool} {held : Bool} {fuel : Nat} {cs : List Value} {x : DataW H × List MemPlace}
    (h : DataW.trod enc Try.prog w base spare held fuel 64 cs = some x) : ∃ (u : ByteArray) (q k : Int), cs = [.string u, .int .i64 q, .int .i64 k] ∧ u.size ≤ maxLen ∧ (Lit.int .i64 q).wf = true ∧ (Lit.int .i64 k).wf = true := by
  have hc : Try.prog.cellsOf 64 = 3 := by kernel_rfl
  have hc9 : Try.prog.cellsOf 9 = 1 := by kernel_rfl
  have hc2 : Try.prog.cellsOf 2 = 1 := by kernel_rfl
  obtain ⟨xs, n, _, _, hl, hxl, hf⟩ := DataW.trod_struct Try.underlying64 h
  rw [hc] at hl
  obtain ⟨c0, c1, c2, rfl⟩ : ∃ c0 c1 c2, cs = [c0, c1, c2] := by
    match cs, hl with
    | [c0, c1, c2], _ => exact ⟨c0, c1, c2, rfl⟩
  obtain ⟨x0, x1, x2, rfl⟩ : ∃ x0 x1 x2, xs = [x0, x1, x2] := by
    match xs, hxl with
    | [x0, x1, x2], _ => exact ⟨x0, x1, x2, rfl⟩
  have f0 : DataW.trod enc Try.prog w base spare held n 9 (List.take (Try.prog.cellsOf 9) [c0, c1, c2]) = some x0 := hf 0 _ rfl
  have f1 : DataW.trod enc Try.prog w base spare held n 2 (List.take (Try.prog.cellsOf 2) [c1, c2]) = some x1 := hf 1 _ rfl
  have f2 : DataW.trod enc Try.prog w base spare held n 2 (List.take (Try.prog.cellsOf 2) [c2]) = some x2 := hf 2 _ rfl
  rw [hc9] at f0
  rw [hc2] at f1 f2
  obtain ⟨u, e0, _, hu⟩ := DataW.trod_string Try.underlying9 f0
  obtain ⟨q, e1, _, hq⟩ := DataW.trod_int Try.underlying2 f1
  obtain ⟨k, e2, _, hk⟩ := DataW.trod_int Try.underlying2 f2
  simp at e0 e1 e2
  subst e0 e1 e2
  exact ⟨u, q, k, rfl, hu, hq, hk⟩

theorem open_key {H : Type} {enc : TypeId × Value → H} {w : World} {r : Reach} {b0 base : Nat} {spare : Nat → Bool} {held : Bool} {v : Value} {d : DataW H} {p : List MemPlace}
    (hv : Value.okWide Try.prog w r b0 64 v) (h : DataW.Trod enc Try.prog w base spare held 64 v d p) : IsKey v := by
  obtain ⟨cs, rfl, hsz⟩ := WideShapes.okWide_struct Try.underlying64 hv
  obtain ⟨fuel, hf⟩ := h
  obtain ⟨u, q, k, e, hu, hq, hk⟩ := key_trod hf
  have : cs = #[.string u, .int .i64 q, .int .i64 k] := Array.toList_inj.1 (by simpa [Value.cells] using e)
  subst this
  exact ⟨u, q, k, rfl, hu, hq, hk⟩

theorem wf_i64 {q : Int} (h : (Lit.int .i64 q).wf = true) : -9223372036854775808 ≤ q ∧ q ≤ 9223372036854775807 := by
  simpa [Lit.wf, IntKind.min, IntKind.max, IntKind.signed, IntKind.bits] using h

end Go.Proofs.Ytplemoedpdammaa
