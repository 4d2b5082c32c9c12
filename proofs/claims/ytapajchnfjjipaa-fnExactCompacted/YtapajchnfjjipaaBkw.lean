/- The library's slices.Backward over numbers: its iterator's contract. -/
import Derived.RangeFuncNested
import Derived.RangeFuncBound
import Derived.RangeFuncCalls
import Derived.RangeFuncLeaves
import Derived.Shelf.Abstract
import Derived.Shelf.RegionOpen
import Derived.WalkKit
import Derived.OwnWalkIn
import Derived.TacticsInMore
import Derived.LoopNIn
import Derived.LoopIn
import Derived.Test.YtapajchnfjjipaaInts
namespace Go.Proofs.Ytapajchnfjjipaa
set_option maxRecDepth 100000
open Go.RowKit Go.Shelf
attribute [local go_sem] Oper.semAt_some

/-- A place below m. -/
abbrev Plc (m : Nat) := { p : Nat // p < m }
/-- What Backward hands on: places of a row of places, with what they hold, from the last one on. -/
def bkw {m : Nat} (NS : List (Plc m)) : Nat → List (Nat × Plc m)
  | 0 => []
  | k + 1 => match NS[k]? with
    | some p => (k, p) :: bkw NS k
    | none => []
def bkwE {m : Nat} (x : Nat × Plc m) : Array Value := #[.int .i64 (x.1 : Int), .int .i64 (x.2.1 : Int)]

/-- What a round keeps: the iterator's box and the row. -/
def KeepB (Bd nb : Nat) (W W' : World) : Prop := W'.heap[Bd]? = W.heap[Bd]? ∧ W'.heap[nb]? = W.heap[nb]?
theorem KeepB.trans {Bd nb : Nat} {A B C : World} (h : KeepB Bd nb A B) (k : KeepB Bd nb B C) : KeepB Bd nb A C := ⟨k.1.trans h.1, k.2.trans h.2⟩
theorem KeepB.refl (Bd nb : Nat) (A : World) : KeepB Bd nb A A := ⟨rfl, rfl⟩
theorem KeepB.turn {Bd nb : Nat} {w : World} (h1 : Bd < w.heap.size) (h2 : nb < w.heap.size) : ∀ (W : World) (l : Nat) (o o' : Obj), w.heap.size ≤ l → W.heap[l]? = some o → o.isCells = false → o.isWalk = false → KeepB Bd nb W (W.putObj l o') := by
  intro W l o o' hl _ _ _
  exact ⟨World.putObj_heap_other (by omega), World.putObj_heap_other (by omega)⟩

set_option linter.unusedVariables false in
set_option maxHeartbeats 1000000 in
theorem bkw1_in {m : Nat} (hm : m ≤ 1000000) (n : Nat) (hn : 1 ≤ n) (l Bd nb : Nat) (np : Nat) (na : Option Addr) (NS : List (Plc m)) (hs : NS.length ≤ 1000000) (J Jx : List (Nat × Plc m) → World → Prop) (W : World)
    (hJ : AbidesFrom W.heap.size J)
    (hY : ∀ pre x W1, J pre W1 → pre.length < NS.length → YieldAt Fence.wide (n - 1) Try.prog l (bkwE x) W1 fun e W' =>
      (e = .returned (.bool true) ∧ J (pre ++ [x]) W' ∧ KeepB Bd nb W1 W') ∨ (e = .returned (.bool false) ∧ Jx (pre ++ [x]) W'))
    (hd : W.cell? ⟨Bd, 0, none⟩ = some (.slice na NS.length np)) (hna : NS.length = 0 ∨ na = some ⟨nb, 0, none⟩) (hr : ∀ (i : Nat) (p : Plc m), NS[i]? = some p → W.cell? ⟨nb, i, none⟩ = some (.int .i64 (p.1 : Int))) (h0 : J [] W) :
    CallsIn Fence.wide n Try.prog 59 #[.func (.yield l) #[] #[], .pointer (some ⟨Bd, 0, none⟩)] W fun e W' => (∃ v, e = .returned v) ∧
      ((∃ ys, ys = bkw NS NS.length ∧ J ys W') ∨ (∃ pre, pre <+: bkw NS NS.length ∧ Jx pre W')) := by
  obtain ⟨N, hN⟩ : ∃ N, NS.length = N := ⟨_, rfl⟩
  rw [hN] at hs hY hd hna ⊢
  have hw : IntKind.i64.wrap ((N : Int) - 1) = (N : Int) - 1 := by rw [IntKind.wrap_i64]; omega
  refine callsIn_of_wp Try.func59 rfl trivial ?_ rfl
  simp only [Try.ntmps59, List.size_toArray, List.length_cons, List.length_nil, Nat.reduceAdd, Nat.reduceSub, Array.replicate_succ, Array.replicate_zero, List.push_toArray, List.append_toArray, List.nil_append, List.cons_append]
  gi_wp2
  clear hw
  gi_loopw [3] (fun q wr => ∃ (k : Nat) (x : Int) (pre : List (Nat × Plc m)), q = .int .i64 x ∧ k ≤ N ∧ (x + 1 ≤ (k : Int) ∧ (k : Int) ≤ x + 1) ∧ pre.length + k = N ∧ bkw NS N = pre ++ bkw NS k ∧ J pre wr ∧ KeepB Bd nb W wr)
    (fun q _ => (intOf q + 1).toNat)
  case atStart => exact ⟨N, _, [], rfl, Nat.le_refl _, by omega, by simp, rfl, h0, KeepB.refl _ _ _⟩
  case round =>
    obtain ⟨k, x, pre, rfl, hk, ⟨hx1, hx2⟩, hpl, hpre, hJs, hkp⟩ := hrel
    have hbd : wr.cell? ⟨Bd, 0, none⟩ = some (.slice na N np) := (World.cell?_of_block (a := ⟨Bd, 0, none⟩) hkp.1).trans hd
    by_cases hpos : 0 < k
    · obtain ⟨j, rfl⟩ : ∃ j, k = j + 1 := ⟨k - 1, by omega⟩
      obtain rfl : x = (j : Int) := by omega
      obtain rfl : na = some ⟨nb, 0, none⟩ := by
        rcases hna with h | h
        · omega
        · exact h
      have hjN : j < NS.length := by omega
      obtain ⟨p, hp⟩ : ∃ p, NS[j]? = some p := ⟨NS[j], by simp [hjN]⟩
      have hc : wr.cell? ⟨nb, j, none⟩ = some (.int .i64 (p.1 : Int)) := (World.cell?_of_block (a := ⟨nb, j, none⟩) hkp.2).trans (hr j p hp)
      have hbk : bkw NS (j + 1) = (j, p) :: bkw NS j := by rw [bkw, hp]
      have hji : (j : Int) < (N : Int) := by omega
      have hj0 : (0 : Int) ≤ (j : Int) := by omega
      have hsub : IntKind.i64.wrap ((j : Int) - 1) = (j : Int) - 1 := by rw [IntKind.wrap_i64]; omega
      have hsub2 : wrap64 ((j : Int) - 1) = (j : Int) - 1 := by unfold wrap64; omega
      obtain ⟨fn, tmps, assign, body, hy, hR⟩ := hY pre (j, p) wr hJs (by omega)
      simp only [bkwE] at hy
      have hpl2 : (pre ++ [(j, p)]).length + j = N := by rw [List.length_append, List.length_singleton]; omega
      have hpre2 : bkw NS N = (pre ++ [(j, p)]) ++ bkw NS j := by rw [hpre, hbk, List.append_assoc]; rfl
      clear hY hpos hx1 hx2
      gi_wp2
      refine hR.mono ?_
      rintro z W3 (⟨rfl, hJ3, hk3⟩ | ⟨rfl, hJx3⟩)
      · clear hR
        gi_wp2
        go_roundw
        case rel => exact ⟨j, (j : Int) - 1, pre ++ [(j, p)], by first | rfl | (congr 1; omega), by omega, by omega, hpl2, hpre2, hJ3, hkp.trans hk3⟩
        case measure => first | (simp [intOf]; done) | (simp [intOf]; omega)
      · gi_wp2
        refine bodyPost_ret (results_none rfl _ _ _) rfl ?_
        exact ⟨⟨_, rfl⟩, .inr ⟨pre ++ [(j, p)], ⟨bkw NS j, hpre2.symm⟩, hJx3⟩⟩
    · obtain rfl : x = -1 := by omega
      obtain rfl : k = 0 := by omega
      gi_wp2
      go_end0
      exact ⟨⟨_, rfl⟩, .inl ⟨pre, by rw [hpre]; simp [bkw], hJs⟩⟩

theorem bkw_stops {m : Nat} (hm : m ≤ 1000000) (n : Nat) (hn : 1 ≤ n) (Bd nb np : Nat) (na : Option Addr) (NS : List (Plc m)) (hs : NS.length ≤ 1000000) (w : World) (h1 : Bd < w.heap.size) (h2 : nb < w.heap.size)
    (hd : w.cell? ⟨Bd, 0, none⟩ = some (.slice na NS.length np)) (hna : NS.length = 0 ∨ na = some ⟨nb, 0, none⟩) (hr : ∀ (i : Nat) (p : Plc m), NS[i]? = some p → w.cell? ⟨nb, i, none⟩ = some (.int .i64 (p.1 : Int))) :
    SeqStopsK Fence.wide n Try.prog 59 #[.pointer (some ⟨Bd, 0, none⟩)] (bkwE (m := m)) (KeepB Bd nb) (fun ys => ys = bkw NS NS.length) (fun pre => pre <+: bkw NS NS.length) NS.length w :=
  fun l J Jx W hW hJ _ hY h0 => bkw1_in hm n hn l Bd nb np na NS hs J Jx W hJ hY ((hW.cell (p := ⟨Bd, 0, none⟩) h1).trans hd) hna (fun i p hp => (hW.cell (p := ⟨nb, i, none⟩) h2).trans (hr i p hp)) h0

theorem lib_Backward (s : Value) (w : World) (hs : ∃ a n p, s = .slice a n p) :
    Calls Try.prog 41 #[s] w fun e w' => e = .returned (.func (.func 59) #[] #[.pointer (some ⟨w.heap.size, 0, none⟩)]) ∧ w' = w.alloc (.cells #[s] 22) := by
  obtain ⟨a, n, p, rfl⟩ := hs
  have hmf : ∀ (fn : Fn) (first cap : Array Value) (w : World), (Instr.makeFunc fn first cap).run Try.prog w = .ok (.func fn first cap) w := fun _ _ _ _ => rfl
  go_enter Try.func41, Try.ntmps41
  go_wp2
  go_ret
  exact ⟨rfl, rfl⟩

end Go.Proofs.Ytapajchnfjjipaa
