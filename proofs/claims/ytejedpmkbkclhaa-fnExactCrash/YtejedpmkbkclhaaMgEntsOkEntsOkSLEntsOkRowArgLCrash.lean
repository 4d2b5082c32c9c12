/- EntriesOk of the program. -/
import Derived.Test.YtejedpmkbkclhaaEnts
import Derived.Test.YtejedpmkbkclhaaKOrd
import Derived.Test.YtejedpmkbkclhaaInts
import Derived.Test.YtejedpmkbkclhaaCrO
import Derived.Test.YtejedpmkbkclhaaMkDisk
import Derived.Test.YtejedpmkbkclhaaNth
import Derived.Test.YtejedpmkbkclhaaReg
import Derived.Test.YtejedpmkbkclhaaMkInt
import Derived.Deep.RegionHeld3
namespace Go.Proofs.Ytejedpmkbkclhaa
set_option maxRecDepth 100000
open Go.RowKit Go.Deep

def entOk (E : Ents) (i : Nat) : Bool := entryOkB (E.U i) (E.Q i) (E.K i) (E.X i)
/-- Entry i against the next one. -/
def ordI (E : Ents) (i : Nat) : Int := orI (cmpS (E.U i) (E.U (i + 1))) (cmpI (E.Q (i + 1)) (E.Q i)) (cmpI (E.K (i + 1)) (E.K i))

def rowOkB (E : Ents) (len : Nat) : Bool := decide (len ≤ 400) && (List.range len).all fun i => entOk E i && (decide (i = 0) || decide (ordI E (i - 1) < 0))

theorem rowOk_yes {E : Ents} {len : Nat} (h : len ≤ 400) (h2 : ∀ i, i < len → entOk E i = true ∧ (0 < i → ordI E (i - 1) < 0)) : rowOkB E len = true := by
  unfold rowOkB
  rw [Bool.and_eq_true, List.all_eq_true]
  refine ⟨decide_eq_true h, fun i hi => ?_⟩
  obtain ⟨a, b⟩ := h2 i (List.mem_range.1 hi)
  rw [a, Bool.true_and]
  rcases Nat.eq_zero_or_pos i with h0 | h0
  · simp [h0]
  · simp [b h0]
theorem rowOk_many {E : Ents} {len : Nat} (h : ¬ len ≤ 400) : rowOkB E len = false := by
  unfold rowOkB; rw [decide_eq_false h, Bool.false_and]
theorem rowOk_out {E : Ents} {len : Nat} (h : rowOkB E len = true) : len ≤ 400 ∧ ∀ i, i < len → entOk E i = true ∧ (0 < i → ordI E (i - 1) < 0) := by
  unfold rowOkB at h
  rw [Bool.and_eq_true, List.all_eq_true] at h
  refine ⟨of_decide_eq_true h.1, fun i hi => ?_⟩
  have := h.2 i (List.mem_range.2 hi)
  rw [Bool.and_eq_true, Bool.or_eq_true] at this
  exact ⟨this.1, fun h0 => by rcases this.2 with h1 | h1; exact absurd (of_decide_eq_true h1) (by omega); exact of_decide_eq_true h1⟩
theorem rowOk_entry {E : Ents} {len : Nat} (i : Nat) (hi : i < len) (h : entOk E i = false) : rowOkB E len = false := by
  rw [Bool.eq_false_iff]
  intro e
  rw [((rowOk_out e).2 i hi).1] at h
  cases h
theorem rowOk_order {E : Ents} {len : Nat} (i : Nat) (hi : i + 1 < len) (h : ¬ ordI E i < 0) : rowOkB E len = false := by
  rw [Bool.eq_false_iff]
  intro e
  exact h (((rowOk_out e).2 (i + 1) hi).2 (by omega))

theorem six_keep {W : World} {b1 b2 : Nat} {o1 o2 : Nat} {x0 x1 x2 y0 y1 y2 : Value} {B : Nat} (hb1 : b1 < B) (hb2 : b2 < B) (wa wb : World)
    (h : wa.cell? ⟨b1, o1, none⟩ = some x0 ∧ wa.cell? ⟨b1, o1 + 1, none⟩ = some x1 ∧ wa.cell? ⟨b1, o1 + 2, none⟩ = some x2 ∧ wa.cell? ⟨b2, o2, none⟩ = some y0 ∧ wa.cell? ⟨b2, o2 + 1, none⟩ = some y1 ∧ wa.cell? ⟨b2, o2 + 2, none⟩ = some y2 ∧ Hid (Below W.heap.size W wa ∧ B ≤ wa.heap.size ∧ W.heap.size ≤ B))
    (hx : Below wa.heap.size wa wb) :
    wb.cell? ⟨b1, o1, none⟩ = some x0 ∧ wb.cell? ⟨b1, o1 + 1, none⟩ = some x1 ∧ wb.cell? ⟨b1, o1 + 2, none⟩ = some x2 ∧ wb.cell? ⟨b2, o2, none⟩ = some y0 ∧ wb.cell? ⟨b2, o2 + 1, none⟩ = some y1 ∧ wb.cell? ⟨b2, o2 + 2, none⟩ = some y2 ∧ Hid (Below W.heap.size W wb ∧ B ≤ wb.heap.size ∧ W.heap.size ≤ B) := by
  obtain ⟨c0, c1, c2, d0, d1, d2, hB, hz, hw⟩ := h
  have h1 : b1 < wa.heap.size := by omega
  have h2 : b2 < wa.heap.size := by omega
  exact ⟨(hx.cell (p := ⟨b1, _, none⟩) h1).trans c0, (hx.cell (p := ⟨b1, _, none⟩) h1).trans c1, (hx.cell (p := ⟨b1, _, none⟩) h1).trans c2, (hx.cell (p := ⟨b2, _, none⟩) h2).trans d0, (hx.cell (p := ⟨b2, _, none⟩) h2).trans d1, (hx.cell (p := ⟨b2, _, none⟩) h2).trans d2,
    hB.trans (hx.mono (by omega)), Nat.le_trans hz hx.size, hw⟩

end Go.Proofs.Ytejedpmkbkclhaa

/- EntriesOk of the model. -/
namespace Go.Proofs.Ytejedpmkbkclhaa
set_option maxRecDepth 100000
open Go.RowKit Go.Deep

theorem nth0 {α : Type} {x0 : α} {l : List α} : (List.toArray (x0 :: l))[0]? = some x0 := rfl
theorem nth1 {α : Type} {x0 x1 : α} {l : List α} : (List.toArray (x0 :: x1 :: l))[1]? = some x1 := rfl
theorem nth2 {α : Type} {x0 x1 x2 : α} {l : List α} : (List.toArray (x0 :: x1 :: x2 :: l))[2]? = some x2 := rfl
theorem nth3 {α : Type} {x0 x1 x2 x3 : α} {l : List α} : (List.toArray (x0 :: x1 :: x2 :: x3 :: l))[3]? = some x3 := rfl
theorem nth4 {α : Type} {x0 x1 x2 x3 x4 : α} {l : List α} : (List.toArray (x0 :: x1 :: x2 :: x3 :: x4 :: l))[4]? = some x4 := rfl
theorem nth5 {α : Type} {x0 x1 x2 x3 x4 x5 : α} {l : List α} : (List.toArray (x0 :: x1 :: x2 :: x3 :: x4 :: x5 :: l))[5]? = some x5 := rfl
theorem nth6 {α : Type} {x0 x1 x2 x3 x4 x5 x6 : α} {l : List α} : (List.toArray (x0 :: x1 :: x2 :: x3 :: x4 :: x5 :: x6 :: l))[6]? = some x6 := rfl
theorem nth7 {α : Type} {x0 x1 x2 x3 x4 x5 x6 x7 : α} {l : List α} : (List.toArray (x0 :: x1 :: x2 :: x3 :: x4 :: x5 :: x6 :: x7 :: l))[7]? = some x7 := rfl
theorem nth8 {α : Type} {x0 x1 x2 x3 x4 x5 x6 x7 x8 : α} {l : List α} : (List.toArray (x0 :: x1 :: x2 :: x3 :: x4 :: x5 :: x6 :: x7 :: x8 :: l))[8]? = some x8 := rfl
theorem nth9 {α : Type} {x0 x1 x2 x3 x4 x5 x6 x7 x8 x9 : α} {l : List α} : (List.toArray (x0 :: x1 :: x2 :: x3 :: x4 :: x5 :: x6 :: x7 :: x8 :: x9 :: l))[9]? = some x9 := rfl
theorem nth10 {α : Type} {x0 x1 x2 x3 x4 x5 x6 x7 x8 x9 x10 : α} {l : List α} : (List.toArray (x0 :: x1 :: x2 :: x3 :: x4 :: x5 :: x6 :: x7 :: x8 :: x9 :: x10 :: l))[10]? = some x10 := rfl
theorem nth11 {α : Type} {x0 x1 x2 x3 x4 x5 x6 x7 x8 x9 x10 x11 : α} {l : List α} : (List.toArray (x0 :: x1 :: x2 :: x3 :: x4 :: x5 :: x6 :: x7 :: x8 :: x9 :: x10 :: x11 :: l))[11]? = some x11 := rfl
theorem nth12 {α : Type} {x0 x1 x2 x3 x4 x5 x6 x7 x8 x9 x10 x11 x12 : α} {l : List α} : (List.toArray (x0 :: x1 :: x2 :: x3 :: x4 :: x5 :: x6 :: x7 :: x8 :: x9 :: x10 :: x11 :: x12 :: l))[12]? = some x12 := rfl
theorem nth13 {α : Type} {x0 x1 x2 x3 x4 x5 x6 x7 x8 x9 x10 x11 x12 x13 : α} {l : List α} : (List.toArray (x0 :: x1 :: x2 :: x3 :: x4 :: x5 :: x6 :: x7 :: x8 :: x9 :: x10 :: x11 :: x12 :: x13 :: l))[13]? = some x13 := rfl
theorem nth14 {α : Type} {x0 x1 x2 x3 x4 x5 x6 x7 x8 x9 x10 x11 x12 x13 x14 : α} {l : List α} : (List.toArray (x0 :: x1 :: x2 :: x3 :: x4 :: x5 :: x6 :: x7 :: x8 :: x9 :: x10 :: x11 :: x12 :: x13 :: x14 :: l))[14]? = some x14 := rfl
theorem nth15 {α : Type} {x0 x1 x2 x3 x4 x5 x6 x7 x8 x9 x10 x11 x12 x13 x14 x15 : α} {l : List α} : (List.toArray (x0 :: x1 :: x2 :: x3 :: x4 :: x5 :: x6 :: x7 :: x8 :: x9 :: x10 :: x11 :: x12 :: x13 :: x14 :: x15 :: l))[15]? = some x15 := rfl
theorem nth16 {α : Type} {x0 x1 x2 x3 x4 x5 x6 x7 x8 x9 x10 x11 x12 x13 x14 x15 x16 : α} {l : List α} : (List.toArray (x0 :: x1 :: x2 :: x3 :: x4 :: x5 :: x6 :: x7 :: x8 :: x9 :: x10 :: x11 :: x12 :: x13 :: x14 :: x15 :: x16 :: l))[16]? = some x16 := rfl
theorem nth17 {α : Type} {x0 x1 x2 x3 x4 x5 x6 x7 x8 x9 x10 x11 x12 x13 x14 x15 x16 x17 : α} {l : List α} : (List.toArray (x0 :: x1 :: x2 :: x3 :: x4 :: x5 :: x6 :: x7 :: x8 :: x9 :: x10 :: x11 :: x12 :: x13 :: x14 :: x15 :: x16 :: x17 :: l))[17]? = some x17 := rfl
theorem nth18 {α : Type} {x0 x1 x2 x3 x4 x5 x6 x7 x8 x9 x10 x11 x12 x13 x14 x15 x16 x17 x18 : α} {l : List α} : (List.toArray (x0 :: x1 :: x2 :: x3 :: x4 :: x5 :: x6 :: x7 :: x8 :: x9 :: x10 :: x11 :: x12 :: x13 :: x14 :: x15 :: x16 :: x17 :: x18 :: l))[18]? = some x18 := rfl
theorem nth19 {α : Type} {x0 x1 x2 x3 x4 x5 x6 x7 x8 x9 x10 x11 x12 x13 x14 x15 x16 x17 x18 x19 : α} {l : List α} : (List.toArray (x0 :: x1 :: x2 :: x3 :: x4 :: x5 :: x6 :: x7 :: x8 :: x9 :: x10 :: x11 :: x12 :: x13 :: x14 :: x15 :: x16 :: x17 :: x18 :: x19 :: l))[19]? = some x19 := rfl
theorem nth20 {α : Type} {x0 x1 x2 x3 x4 x5 x6 x7 x8 x9 x10 x11 x12 x13 x14 x15 x16 x17 x18 x19 x20 : α} {l : List α} : (List.toArray (x0 :: x1 :: x2 :: x3 :: x4 :: x5 :: x6 :: x7 :: x8 :: x9 :: x10 :: x11 :: x12 :: x13 :: x14 :: x15 :: x16 :: x17 :: x18 :: x19 :: x20 :: l))[20]? = some x20 := rfl
theorem nth21 {α : Type} {x0 x1 x2 x3 x4 x5 x6 x7 x8 x9 x10 x11 x12 x13 x14 x15 x16 x17 x18 x19 x20 x21 : α} {l : List α} : (List.toArray (x0 :: x1 :: x2 :: x3 :: x4 :: x5 :: x6 :: x7 :: x8 :: x9 :: x10 :: x11 :: x12 :: x13 :: x14 :: x15 :: x16 :: x17 :: x18 :: x19 :: x20 :: x21 :: l))[21]? = some x21 := rfl
theorem nth22 {α : Type} {x0 x1 x2 x3 x4 x5 x6 x7 x8 x9 x10 x11 x12 x13 x14 x15 x16 x17 x18 x19 x20 x21 x22 : α} {l : List α} : (List.toArray (x0 :: x1 :: x2 :: x3 :: x4 :: x5 :: x6 :: x7 :: x8 :: x9 :: x10 :: x11 :: x12 :: x13 :: x14 :: x15 :: x16 :: x17 :: x18 :: x19 :: x20 :: x21 :: x22 :: l))[22]? = some x22 := rfl
theorem nth23 {α : Type} {x0 x1 x2 x3 x4 x5 x6 x7 x8 x9 x10 x11 x12 x13 x14 x15 x16 x17 x18 x19 x20 x21 x22 x23 : α} {l : List α} : (List.toArray (x0 :: x1 :: x2 :: x3 :: x4 :: x5 :: x6 :: x7 :: x8 :: x9 :: x10 :: x11 :: x12 :: x13 :: x14 :: x15 :: x16 :: x17 :: x18 :: x19 :: x20 :: x21 :: x22 :: x23 :: l))[23]? = some x23 := rfl
theorem nth24 {α : Type} {x0 x1 x2 x3 x4 x5 x6 x7 x8 x9 x10 x11 x12 x13 x14 x15 x16 x17 x18 x19 x20 x21 x22 x23 x24 : α} {l : List α} : (List.toArray (x0 :: x1 :: x2 :: x3 :: x4 :: x5 :: x6 :: x7 :: x8 :: x9 :: x10 :: x11 :: x12 :: x13 :: x14 :: x15 :: x16 :: x17 :: x18 :: x19 :: x20 :: x21 :: x22 :: x23 :: x24 :: l))[24]? = some x24 := rfl

theorem four_keep {W : World} {b o0 o1 o2 o3 : Nat} {x0 x1 x2 x3 : Value} (wa wb : World)
    (h : wa.cell? ⟨b, o0, none⟩ = some x0 ∧ wa.cell? ⟨b, o1, none⟩ = some x1 ∧ wa.cell? ⟨b, o2, none⟩ = some x2 ∧ wa.cell? ⟨b, o3, none⟩ = some x3 ∧ Hid (Below W.heap.size W wa ∧ b < wa.heap.size)) (hx : Below wa.heap.size wa wb) :
    wb.cell? ⟨b, o0, none⟩ = some x0 ∧ wb.cell? ⟨b, o1, none⟩ = some x1 ∧ wb.cell? ⟨b, o2, none⟩ = some x2 ∧ wb.cell? ⟨b, o3, none⟩ = some x3 ∧ Hid (Below W.heap.size W wb ∧ b < wb.heap.size) := by
  obtain ⟨c0, c1, c2, c3, hB, hz⟩ := h
  exact ⟨(hx.cell (p := ⟨b, _, none⟩) hz).trans c0, (hx.cell (p := ⟨b, _, none⟩) hz).trans c1, (hx.cell (p := ⟨b, _, none⟩) hz).trans c2, (hx.cell (p := ⟨b, _, none⟩) hz).trans c3, hB.trans (hx.mono hB.size), Nat.lt_of_lt_of_le hz hx.size⟩

theorem seven_keep {W : World} {b o0 o1 o2 o3 p0 p1 p2 : Nat} {x0 x1 x2 x3 y0 y1 y2 : Value} (wa wb : World)
    (h : wa.cell? ⟨b, o0, none⟩ = some x0 ∧ wa.cell? ⟨b, o1, none⟩ = some x1 ∧ wa.cell? ⟨b, o2, none⟩ = some x2 ∧ wa.cell? ⟨b, o3, none⟩ = some x3 ∧ wa.cell? ⟨b, p0, none⟩ = some y0 ∧ wa.cell? ⟨b, p1, none⟩ = some y1 ∧ wa.cell? ⟨b, p2, none⟩ = some y2 ∧ Hid (Below W.heap.size W wa ∧ b < wa.heap.size)) (hx : Below wa.heap.size wa wb) :
    wb.cell? ⟨b, o0, none⟩ = some x0 ∧ wb.cell? ⟨b, o1, none⟩ = some x1 ∧ wb.cell? ⟨b, o2, none⟩ = some x2 ∧ wb.cell? ⟨b, o3, none⟩ = some x3 ∧ wb.cell? ⟨b, p0, none⟩ = some y0 ∧ wb.cell? ⟨b, p1, none⟩ = some y1 ∧ wb.cell? ⟨b, p2, none⟩ = some y2 ∧ Hid (Below W.heap.size W wb ∧ b < wb.heap.size) := by
  obtain ⟨c0, c1, c2, c3, d0, d1, d2, hB, hz⟩ := h
  exact ⟨(hx.cell (p := ⟨b, _, none⟩) hz).trans c0, (hx.cell (p := ⟨b, _, none⟩) hz).trans c1, (hx.cell (p := ⟨b, _, none⟩) hz).trans c2, (hx.cell (p := ⟨b, _, none⟩) hz).trans c3, (hx.cell (p := ⟨b, _, none⟩) hz).trans d0, (hx.cell (p := ⟨b, _, none⟩) hz).trans d1, (hx.cell (p := ⟨b, _, none⟩) hz).trans d2, hB.trans (hx.mono hB.size), Nat.lt_of_lt_of_le hz hx.size⟩

theorem keyOk_of_ent {E : Ents} {i : Nat} (h : entOk E i = true) : keyOkB (E.U i) (E.Q i) (E.K i) = true := by
  unfold entOk entryOkB at h
  rw [Bool.and_eq_true, Bool.and_eq_true] at h
  exact h.1.1

end Go.Proofs.Ytejedpmkbkclhaa

/- The law on EntriesOk; rows of entries that come in. -/
namespace Go.Proofs.Ytejedpmkbkclhaa
set_option maxRecDepth 100000
open Go.RowKit Go.Deep

/-- What came in: entries, their texts within reach. -/
def IsEnts (W : World) (v : Value) : Prop := ∃ a len cap E, v = .slice a len cap ∧ len ≤ maxLen ∧ EntAt W W.heap.size a len E ∧ ∀ i, i < len → (E.U i).size ≤ maxLen ∧ (E.X i).size ≤ maxLen

end Go.Proofs.Ytejedpmkbkclhaa

/- Rows of numbers that came in as an argument; rows of entries from one world to the next, and as an answer. -/
namespace Go.Proofs.Ytejedpmkbkclhaa
set_option maxRecDepth 100000
open Go.RowKit Go.Deep

/-- What came in: numbers. -/
def IsInts (W : World) (v : Value) : Prop := ∃ a len cap S, v = .slice a len cap ∧ len ≤ maxLen ∧ IntAt W W.heap.size a len S

theorem open_intsarg {H : Type} {enc : TypeId × Value → H} {w : World} {r : Reach} {b0 base : Nat} {spare : Nat → Bool} {held : Bool} {v : Value} {d : DataW H} {p : List MemPlace}
    (hv : Value.okWide Try.prog w r b0 45 v) (h : DataW.Trod enc Try.prog w base spare held 45 v d p) : IsInts w v := by
  obtain ⟨a, len, cap, rfl⟩ := WideShapes.okWide_slice Try.underlying45 hv
  obtain ⟨fuel, hf⟩ := h
  obtain ⟨a', len', cap', S, hcs, hl, hS⟩ := ints_trod hf
  simp [Value.cells] at hcs
  obtain ⟨rfl, rfl, rfl⟩ := hcs
  exact ⟨_, _, _, S, rfl, hl, hS⟩

theorem EntAt.next {w w' : World} {a : Option Addr} {len : Nat} {E : Ents} (h : EntAt w w.heap.size a len E) (hb : Below w.heap.size w w') : EntAt w' w'.heap.size a len E := (h.below hb).mono hb.size
theorem EntAt.hid {w : World} {B : Nat} {a : Option Addr} {len : Nat} {E : Ents} (h : EntAt w B a len E) : Hid (EntAt w B a len E) := h
theorem entAt_mine {w : World} {B : Nat} {ty : TypeId} {a : Option Addr} {p n : Nat} {E : Ents} (h : Mine w B ty 4 a p n (entCell E)) : EntAt w w.heap.size a n E := by
  rcases h.at with h | ⟨g, rfl, _, hg, hc⟩
  · exact .inl h
  · refine .inr ⟨g, 0, rfl, hg, fun i hi => ?_⟩
    rw [Nat.zero_add, hc _ (by omega), hc _ (by omega), hc _ (by omega), hc _ (by omega), entCell0, entCell1, entCell2, entCell3]
    exact ⟨rfl, rfl, rfl, rfl⟩

end Go.Proofs.Ytejedpmkbkclhaa

/- The law on Crash. (By gen_law4.py.) -/
namespace Go.Proofs.Ytejedpmkbkclhaa
set_option maxRecDepth 100000
open Go.RowKit Go.Deep

set_option linter.unusedSimpArgs false in
set_option linter.unusedVariables false in
set_option maxHeartbeats 8000000 in
theorem walk_Crash {w : World} (v0 : Value) (hv0 : ArgDisk w v0) (v1 : Value) (hv1 : IsInts w v1) (i2 : Int) (hi2 : (Lit.int .i64 i2).wf = true) (_w : World) :
    Calls Try.prog 6 #[v0, v1, .int .i64 i2] w fun e w' => e = .returned (.bool true) ∧ Below w.heap.size w w' := by
  obtain ⟨c0, hI0, hsm0⟩ := hv0
  obtain ⟨a0, p0, a1, p1, a2, p2, rfl, hr0, hr1, hr2⟩ := hI0
  obtain ⟨ia1, in1, ic1, S1, rfl, hin1, hS1⟩ := hv1
  have hB0 : Below w.heap.size w (w.alloc (.cells #[.slice a0 c0.n0 p0, .slice a1 c0.n1 p1, .slice a2 c0.n2 p2] 25)) := (Below.refl _ _).alloc (Nat.le_refl _) _
  have hK0 : BoxIs (w.alloc (.cells #[.slice a0 c0.n0 p0, .slice a1 c0.n1 p1, .slice a2 c0.n2 p2] 25)) w.heap.size #[.slice a0 c0.n0 p0, .slice a1 c0.n1 p1, .slice a2 c0.n2 p2] 25 := BoxIs.new _ _ _ rfl
  have hV0 : DiskIs (w.alloc (.cells #[.slice a0 c0.n0 p0, .slice a1 c0.n1 p1, .slice a2 c0.n2 p2] 25)) (.agg #[.slice a0 c0.n0 p0, .slice a1 c0.n1 p1, .slice a2 c0.n2 p2]) c0 := DiskIs.at_old ⟨_, _, _, _, _, _, rfl, hr0, hr1, hr2⟩ hB0
  have hSS1 := (hS1.below hB0).mono hB0.size
  clear hr0 hr1 hr2
  by_cases hbig1 : (1048576 : Int) < (in1 : Int)
  · go_enter Try.func6, Try.ntmps6
    go_wp2
    go_ret
    exact ⟨rfl, hB0⟩
  · skip
    have hl1 : in1 ≤ 1048576 := by omega
    go_enter Try.func6, Try.ntmps6
    go_wp2_with fail
    generalize hWW : w.alloc (.cells #[.slice a0 c0.n0 p0, .slice a1 c0.n1 p1, .slice a2 c0.n2 p2] 25) = W at hB0 hK0 hV0 hSS1 ⊢
    clear hWW
    have HB0 : Hid (Below w.heap.size w W) := hB0
    have HK0 := hK0.hid
    have HV0 := hV0.hid
    have hKl0 := hK0.lt
    have HS1 : Hid (IntAt W W.heap.size ia1 in1 S1) := hSS1
    clear hB0 hK0 hV0 hSS1
    have HB : Hid (Below W.heap.size W W) := Below.refl _ _
    refine (laws_szDisk (.agg #[.slice a0 c0.n0 p0, .slice a1 c0.n1 p1, .slice a2 c0.n2 p2]) c0 1048576 W hsm0 (by omega) (by omega) (HV0.out.next HB.out)).mono ?_
    rintro e w0 ⟨⟨l0, rfl, hr0⟩, hb0⟩
    have HB := hide (HB.out.trans (hb0.mono HB.out.size))
    have hsz0 := hb0.size
    clear hb0
    rcases hr0 with hr0 | ⟨hl00, hl10, hf0⟩
    · go_wp2
      go_ret
      exact ⟨rfl, HB0.out.trans (HB.out.mono HB0.out.size)⟩
    · have hln0 : ¬ (l0 < 0) := by omega
      have cs := fun (x0 : Value) (xa1 : Option Addr) (wx : World) (y0 : DiskIs wx x0 c0) (z1 : IntAt wx wx.heap.size xa1 in1 S1) => spec_CrashO x0 c0 xa1 in1 in1 S1 i2 wx hf0 hi2 y0 hl1 z1
      have ci := fun (x0 : Value) (xa1 : Option Addr) (wx : World) (y0 : DiskIs wx x0 c0) (z1 : IntAt wx wx.heap.size xa1 in1 S1) => impl_CrashO x0 c0 xa1 in1 in1 S1 i2 wx hf0 hi2 y0 hl1 z1
      have hrf : (crC c0 S1 in1 i2).Fit := crC_fit hf0 S1 in1 i2
      generalize crC c0 S1 in1 i2 = rc at cs ci hrf
      generalize crB c0 S1 in1 i2 = rb at cs ci hrf
      have k0 := (HK0.out.next HB.out).cell 0
      have k1 := (HK0.out.next HB.out).cell 1
      have k2 := (HK0.out.next HB.out).cell 2
      go_wp2_with fail
      refine (laws_toDisk (.agg #[.slice a0 c0.n0 p0, .slice a1 c0.n1 p1, .slice a2 c0.n2 p2]) c0 w0 hf0 (HV0.out.next HB.out)).mono ?_
      rintro e w1 ⟨gs0, gs1, gs2, rfl, hgs0, hrows0, hgs1, hrows1, hgs2, hrows2, hgos1, hgos2, hb1⟩
      have HB := hide (HB.out.trans (hb1.mono HB.out.size))
      have hsz1 := hb1.size
      clear hb1
      have HIs := (DiskIs.of_rows hrows0 hrows1 hrows2).hid
      have HCs : Hid (Below w1.heap.size w1 w1) := Below.refl _ _
      clear hrows0 hrows1 hrows2
      go_wp2_with fail
      clear k0 k1 k2
      refine (laws_toInt64S ia1 in1 ic1 S1 w1 hl1 ((HS1.out.below HB.out).mono HB.out.size)).mono ?_
      rintro e w2 ⟨rfl, hris1, hb2⟩
      have HB := hide (HB.out.trans (hb2.mono HB.out.size))
      have HCs := hide (HCs.out.trans (hb2.mono HCs.out.size))
      have hsz2 := hb2.size
      clear hb2
      obtain ⟨is1, his1⟩ : ∃ g, w1.heap.size = g := ⟨_, rfl⟩
      rw [his1] at hris1 ⊢
      have hils1 := hris1.lt
      have HRis1 := hidRowB hris1
      clear hris1
      go_wp2_with fail
      refine (cs (.agg #[.slice (some ⟨gs0, 0, none⟩) c0.n0 c0.n0, .slice (some ⟨gs1, 0, none⟩) c0.n1 c0.n1, .slice (some ⟨gs2, 0, none⟩) c0.n2 c0.n2]) (some ⟨is1, 0, none⟩) w2 (HIs.out.next HCs.out) (intAt_row HRis1.out hils1)).mono ?_
      rintro e w3 ⟨⟨uw, rfl, how⟩, hb3⟩
      have HB := hide (HB.out.trans (hb3.mono HB.out.size))
      have HCs := hide (HCs.out.trans (hb3.mono HCs.out.size))
      have hsz3 := hb3.size
      clear hb3
      obtain ⟨wa0, wp0, wa1, wp1, wa2, wp2, rfl, hMw⟩ := how.mine
      have HLw0 := hide hMw.m0.lt
      have HLw1 := hide hMw.m1.lt
      have HLw2 := hide hMw.m2.lt
      have hbb := below_one w3 (.cells #[.slice wa0 rc.n0 wp0, .slice wa1 rc.n1 wp1, .slice wa2 rc.n2 wp2] 31)
      have HMw := (hMw.next hbb).hid
      have HXw := (BoxIs.new w3 #[.slice wa0 rc.n0 wp0, .slice wa1 rc.n1 wp1, .slice wa2 rc.n2 wp2] 31 rfl).hid
      have HB := hide (HB.out.trans (hbb.mono HB.out.size))
      have HCs := hide (HCs.out.trans (hbb.mono HCs.out.size))
      clear hbb hMw how
      clear HIs HCs HRis1
      have k0 := (HK0.out.next HB.out).cell 0
      have k1 := (HK0.out.next HB.out).cell 1
      have k2 := (HK0.out.next HB.out).cell 2
      go_wp2_with fail
      clear k0 k1 k2
      generalize hWX : w3.alloc (.cells #[.slice wa0 rc.n0 wp0, .slice wa1 rc.n1 wp1, .slice wa2 rc.n2 wp2] 31) = Vw at HMw HXw HB ⊢
      clear hWX
      obtain ⟨Fw, hFw⟩ : ∃ F, w3.heap.size = F := ⟨_, rfl⟩
      have hszw : w2.heap.size ≤ Fw := by omega
      rw [hFw] at HXw HLw0 HLw1 HLw2 ⊢
      clear hFw
      have hXwl := HXw.out.lt
      have HCw : Hid (Below Vw.heap.size Vw Vw) := Below.refl _ _
      have hBw : w2.heap.size ≤ w2.heap.size := Nat.le_refl _
      refine (laws_toDisk (.agg #[.slice a0 c0.n0 p0, .slice a1 c0.n1 p1, .slice a2 c0.n2 p2]) c0 Vw hf0 (HV0.out.next HB.out)).mono ?_
      rintro e w4 ⟨gx0, gx1, gx2, rfl, hgx0, hrowx0, hgx1, hrowx1, hgx2, hrowx2, hgox1, hgox2, hb4⟩
      have HB := hide (HB.out.trans (hb4.mono HB.out.size))
      have HCw := hide (HCw.out.trans (hb4.mono HCw.out.size))
      have hsz4 := hb4.size
      clear hb4
      have hgl2 := hrowx2.lt
      have hbx := below_one w4 (.cells #[.slice (some ⟨gx0, 0, none⟩) c0.n0 c0.n0, .slice (some ⟨gx1, 0, none⟩) c0.n1 c0.n1, .slice (some ⟨gx2, 0, none⟩) c0.n2 c0.n2] 31)
      have HIx := ((DiskIs.of_rows hrowx0 hrowx1 hrowx2).next hbx).hid
      have HAx := ((at3_rows hrowx0 hrowx1 hrowx2 hgox1 hgox2).next hbx).hid
      have HKx := (BoxIs.new w4 #[.slice (some ⟨gx0, 0, none⟩) c0.n0 c0.n0, .slice (some ⟨gx1, 0, none⟩) c0.n1 c0.n1, .slice (some ⟨gx2, 0, none⟩) c0.n2 c0.n2] 31 rfl).hid
      have HB := hide (HB.out.trans (hbx.mono HB.out.size))
      have HCw := hide (HCw.out.trans (hbx.mono HCw.out.size))
      clear hbx hrowx0 hrowx1 hrowx2
      go_wp2_with fail
      generalize hWX : w4.alloc (.cells #[.slice (some ⟨gx0, 0, none⟩) c0.n0 c0.n0, .slice (some ⟨gx1, 0, none⟩) c0.n1 c0.n1, .slice (some ⟨gx2, 0, none⟩) c0.n2 c0.n2] 31) = X0 at HIx HAx HKx HB HCw ⊢
      clear hWX
      obtain ⟨Fx, hFx⟩ : ∃ F, w4.heap.size = F := ⟨_, rfl⟩
      rw [hFx] at HKx hgl2 ⊢
      have hszFx : w4.heap.size = Fx := hFx
      have hFxl := HKx.out.lt
      have HCx : Hid (Below X0.heap.size X0 X0) := Below.refl _ _
      refine (laws_toInt64S ia1 in1 ic1 S1 X0 hl1 ((HS1.out.below HB.out).mono HB.out.size)).mono ?_
      rintro e w5 ⟨rfl, hrix1, hb5⟩
      have HB := hide (HB.out.trans (hb5.mono HB.out.size))
      have HCw := hide (HCw.out.trans (hb5.mono HCw.out.size))
      have HCx := hide (HCx.out.trans (hb5.mono HCx.out.size))
      have hsz5 := hb5.size
      clear hb5
      obtain ⟨ix1, hix1⟩ : ∃ g, X0.heap.size = g := ⟨_, rfl⟩
      rw [hix1] at hrix1 ⊢
      have hilx1 := hrix1.lt
      have HRx1 := hidRowB hrix1
      have HCi1 : Hid (Below w5.heap.size w5 w5) := Below.refl _ _
      clear hrix1
      have m0 := (HKx.out.next HCx.out).cell 0
      have m1 := (HKx.out.next HCx.out).cell 1
      have m2 := (HKx.out.next HCx.out).cell 2
      go_wp2_with fail
      clear m0 m1 m2
      refine (ci (.agg #[.slice (some ⟨gx0, 0, none⟩) c0.n0 c0.n0, .slice (some ⟨gx1, 0, none⟩) c0.n1 c0.n1, .slice (some ⟨gx2, 0, none⟩) c0.n2 c0.n2]) (some ⟨ix1, 0, none⟩) w5 (HIx.out.next HCx.out) (intAt_row (entRow_below HRx1.out HCi1.out hilx1) (Nat.lt_of_lt_of_le hilx1 HCi1.out.size))).mono ?_
      rintro e w6 ⟨⟨ug, rfl, hog⟩, hb6⟩
      have HB := hide (HB.out.trans (hb6.mono HB.out.size))
      have HCw := hide (HCw.out.trans (hb6.mono HCw.out.size))
      have HCx := hide (HCx.out.trans (hb6.mono HCx.out.size))
      have HCi1 := hide (HCi1.out.trans (hb6.mono HCi1.out.size))
      have hsz6 := hb6.size
      clear hb6
      obtain ⟨ga0, gp0, ga1, gp1, ga2, gp2, rfl, hMg⟩ := hog.mine
      have HLg0 := hide hMg.m0.lt
      have HLg1 := hide hMg.m1.lt
      have HLg2 := hide hMg.m2.lt
      have hbb := below_one w6 (.cells #[.slice ga0 rc.n0 gp0, .slice ga1 rc.n1 gp1, .slice ga2 rc.n2 gp2] 31)
      have HMg := (hMg.next hbb).hid
      have HXg := (BoxIs.new w6 #[.slice ga0 rc.n0 gp0, .slice ga1 rc.n1 gp1, .slice ga2 rc.n2 gp2] 31 rfl).hid
      have HB := hide (HB.out.trans (hbb.mono HB.out.size))
      have HCw := hide (HCw.out.trans (hbb.mono HCw.out.size))
      have HCx := hide (HCx.out.trans (hbb.mono HCx.out.size))
      have HCi1 := hide (HCi1.out.trans (hbb.mono HCi1.out.size))
      clear hbb hMg hog
      have kb0 := (HXw.out.next HCw.out).cell 0
      have kb1 := (HXw.out.next HCw.out).cell 1
      have kb2 := (HXw.out.next HCw.out).cell 2
      go_wp2_with fail
      clear kb0 kb1 kb2
      generalize hWX : w6.alloc (.cells #[.slice ga0 rc.n0 gp0, .slice ga1 rc.n1 gp1, .slice ga2 rc.n2 gp2] 31) = Vg at HMg HXg HB HCw HCx HCi1 ⊢
      clear hWX
      obtain ⟨Fg, hFg⟩ : ∃ F, w6.heap.size = F := ⟨_, rfl⟩
      have hszg : w5.heap.size ≤ Fg := by omega
      rw [hFg] at HXg HLg0 HLg1 HLg2 ⊢
      clear hFg
      have hXgl := HXg.out.lt
      have HCg : Hid (Below Vg.heap.size Vg Vg) := Below.refl _ _
      have hBg : w5.heap.size ≤ w5.heap.size := Nat.le_refl _
      refine (laws_eqDisk _ _ rc Vg hrf (HMg.out.next HCg.out).is (HMw.out.next HCw.out).is).mono ?_
      rintro e w7 ⟨rfl, hb7⟩
      have HB := hide (HB.out.trans (hb7.mono HB.out.size))
      have HCw := hide (HCw.out.trans (hb7.mono HCw.out.size))
      have HCx := hide (HCx.out.trans (hb7.mono HCx.out.size))
      have HCi1 := hide (HCi1.out.trans (hb7.mono HCi1.out.size))
      have HCg := hide (HCg.out.trans (hb7.mono HCg.out.size))
      have hsz7 := hb7.size
      clear hb7
      go_wp2_with fail
      refine wp_region_noPanic ?_
      refine wp_region_held_drew (S := fun w' => BoxIs w' w.heap.size #[.slice a0 c0.n0 p0, .slice a1 c0.n1 p1, .slice a2 c0.n2 p2] 25 ∧ BoxIs w' Fx #[.slice (some ⟨gx0, 0, none⟩) c0.n0 c0.n0, .slice (some ⟨gx1, 0, none⟩) c0.n1 c0.n1, .slice (some ⟨gx2, 0, none⟩) c0.n2 c0.n2] 31 ∧ Below w7.heap.size w7 w') (by kernel_rfl) ⟨(HK0.out.next HB.out).next (Below.refl _ _).drew, (HKx.out.next HCx.out).next (Below.refl _ _).drew, (Below.refl _ _).drew⟩ (fun hHeld => ?_)
      refine wpAnyH_take (i := 0) (v := .agg #[.slice (some ⟨gx0, 0, none⟩) c0.n0 c0.n0, .slice (some ⟨gx1, 0, none⟩) c0.n1 c0.n1, .slice (some ⟨gx2, 0, none⟩) c0.n2 c0.n2]) nat0 (by kernel_rfl) (by kernel_rfl) (by kernel_rfl) (fun _ _ _ h => False.elim h) (Or.inl ⟨by rfl, ?_⟩) hHeld ?_
      · intro wx hSw
        have y0 := hSw.2.1.cell 0
        have y1 := hSw.2.1.cell 1
        have y2 := hSw.2.1.cell 2
        go_simp
      simp only [Act.put, List.setIfInBounds_toArray, List.set_cons_zero, List.set_cons_succ]
      refine wpAnyH_take (i := 1) (v := .agg #[.slice a0 c0.n0 p0, .slice a1 c0.n1 p1, .slice a2 c0.n2 p2]) nat1 (by kernel_rfl) (by kernel_rfl) (by kernel_rfl) (fun _ _ _ h => False.elim h) (Or.inl ⟨by rfl, ?_⟩) hHeld ?_
      · intro wx hSw
        have y0 := hSw.1.cell 0
        have y1 := hSw.1.cell 1
        have y2 := hSw.1.cell 2
        go_simp
      simp only [Act.put, List.setIfInBounds_toArray, List.set_cons_zero, List.set_cons_succ]
      refine wpAnyH_ready (rs := [2]) (by kernel_rfl) (by simp) ?_
      refine AllReadyH.cons nat2 (fun K hK => ?_) AllReadyH.nil
      go_simp
      go_at_call 14
      have hH0 := HB.out.trans (hHeld.2.2.mono HB.out.size)
      have hX0 := HCx.out.trans (hHeld.2.2.mono HCx.out.size)
      refine (laws_toDisk (.agg #[.slice a0 c0.n0 p0, .slice a1 c0.n1 p1, .slice a2 c0.n2 p2]) c0 _ hf0 (HV0.out.next hH0)).mono ?_
      rintro e wa0 ⟨gy0, gy1, gy2, rfl, _, hrowy0, _, hrowy1, _, hrowy2, _, _, hba0⟩
      have HIy0 := (DiskIs.of_rows hrowy0 hrowy1 hrowy2).hid
      have HIz0 := ((HIx.out.next hX0).next hba0).hid
      refine hK.out _ _ ⟨hHeld.1.next hba0, hHeld.2.1.next hba0, hHeld.2.2.trans (hba0.mono hHeld.2.2.size)⟩ (fun hHeld2 => ?_)
      clear hK K hHeld hH0 hX0 hba0 hrowy0 hrowy1 hrowy2
      refine wpAnyH_ready (rs := [3]) (by kernel_rfl) (by simp) ?_
      refine AllReadyH.cons nat3 (fun K hK => ?_) AllReadyH.nil
      go_simp
      go_at_call 16
      refine (laws_eqDisk _ _ c0 _ hf0 HIz0.out HIy0.out).mono ?_
      rintro e wb0 ⟨rfl, hbb0⟩
      refine hK.out _ _ ⟨hHeld2.1.next hbb0, hHeld2.2.1.next hbb0, hHeld2.2.2.trans (hbb0.mono hHeld2.2.2.size)⟩ (fun hHeld3 => ?_)
      clear hK K hHeld2 hbb0 HIz0 HIy0
      refine wpAnyH_take (i := 4) (v := .bool false) nat4 (by kernel_rfl) (by kernel_rfl) (by kernel_rfl) (fun _ _ _ h => False.elim h) (Or.inl ⟨by rfl, ?_⟩) hHeld3 ?_
      · intro wx hSw
        go_simp
      simp only [Act.put, List.setIfInBounds_toArray, List.set_cons_zero, List.set_cons_succ]
      refine wpAnyH_done (by kernel_rfl) ?_ _
      refine NoPanic.normal ?_
      have HB := hide (HB.out.trans (hHeld3.2.2.mono HB.out.size))
      have HCw := hide (HCw.out.trans (hHeld3.2.2.mono HCw.out.size))
      have HCx := hide (HCx.out.trans (hHeld3.2.2.mono HCx.out.size))
      have HCi1 := hide (HCi1.out.trans (hHeld3.2.2.mono HCi1.out.size))
      have HCg := hide (HCg.out.trans (hHeld3.2.2.mono HCg.out.size))
      have hszwb := hHeld3.2.2.size
      clear hHeld3
      go_wp2_with fail
      refine (laws_toInt64S ia1 in1 ic1 S1 wb0 hl1 ((HS1.out.below HB.out).mono HB.out.size)).mono ?_
      rintro e w8 ⟨rfl, hry1, hb8⟩
      have HB := hide (HB.out.trans (hb8.mono HB.out.size))
      have HCw := hide (HCw.out.trans (hb8.mono HCw.out.size))
      have HCx := hide (HCx.out.trans (hb8.mono HCx.out.size))
      have HCi1 := hide (HCi1.out.trans (hb8.mono HCi1.out.size))
      have HCg := hide (HCg.out.trans (hb8.mono HCg.out.size))
      have hsz8 := hb8.size
      clear hb8
      have HRy1 := hidRowB hry1
      clear hry1
      go_wp2_with fail
      refine (laws_eqInt64S _ _ in1 _ _ S1 w8 hl1 (intAt_row (entRow_below HRx1.out HCi1.out hilx1) (Nat.lt_of_lt_of_le hilx1 HCi1.out.size)) (intAt_row HRy1.out HRy1.out.lt)).mono ?_
      rintro e w9 ⟨rfl, hb9⟩
      have HB := hide (HB.out.trans (hb9.mono HB.out.size))
      have HCw := hide (HCw.out.trans (hb9.mono HCw.out.size))
      have HCx := hide (HCx.out.trans (hb9.mono HCx.out.size))
      have HCi1 := hide (HCi1.out.trans (hb9.mono HCi1.out.size))
      have HCg := hide (HCg.out.trans (hb9.mono HCg.out.size))
      have hsz9 := hb9.size
      clear hb9
      clear HRy1
      have ka0 := (HKx.out.next HCx.out).cell 0
      have ka1 := (HKx.out.next HCx.out).cell 1
      have ka2 := (HKx.out.next HCx.out).cell 2
      go_wp2_with fail
      clear ka0 ka1 ka2
      have hfit0 := hf0.1
      refine (laws_markDisk 1 1 rfl ⟨by omega, by omega⟩ (some ⟨gx0, 0, none⟩) c0.n0 gx0 (some ⟨gx1, 0, none⟩) c0.n1 gx1 (some ⟨gx2, 0, none⟩) c0.n2 gx2 c0 w9 hf0 (HAx.out.next HCx.out)).mono ?_
      rintro e w10 ⟨rfl, hm, _⟩
      have HRx1 := hidRowB ((entRow_below HRx1.out HCi1.out hilx1).of_block (hm.block ix1 (Nat.lt_of_lt_of_le hilx1 HCi1.out.size) (.inr (by omega)) (.inr (by omega)) (.inr (by omega))))
      have HMg := ((HMg.out.next HCg.out).m3 hm (.inr (by omega)) (.inr (by omega)) (.inr (by omega))).hid
      have HXg := (hm.box (HXg.out.next HCg.out) (.inr (by omega)) (.inr (by omega)) (.inr (by omega))).hid
      have HB := hide (HB.out.trans (hm.below HB.out.size (.inr (by omega)) (.inr (by omega)) (.inr (by omega))))
      have HCw := hide (HCw.out.trans (hm.below HCw.out.size (.inr (by omega)) (.inr (by omega)) (.inr (by omega))))
      have HCg : Hid (Below w10.heap.size w10 w10) := Below.refl _ _
      have hszmw10 := hm.size
      clear hm HCx HKx HIx HAx HCi1
      go_wp2_with fail
      refine (laws_markInt64S (1 + c0.n0 * 2 + c0.n1 * 2 + c0.n2 * 4) _ rfl ⟨by omega, by omega⟩ (some ⟨ix1, 0, none⟩) in1 in1 ix1 w10 hl1 (.inr rfl) (rowIs_mark HRx1.out)).mono ?_
      rintro e w11 ⟨rfl, hmk⟩
      have hm := hmk.mv
      clear hmk
      have HMg := ((HMg.out.next HCg.out).mv hm (by omega)).hid
      have HXg := ((HXg.out.next HCg.out).mv hm (by omega)).hid
      have HB := hide (HB.out.trans (hm.below HB.out.size (by omega)))
      have HCw := hide (HCw.out.trans (hm.below HCw.out.size (by omega)))
      have HCg : Hid (Below w11.heap.size w11 w11) := Below.refl _ _
      have hszmw11 := hm.size
      clear hm HRx1
      have hposx : ¬ (((1 + c0.n0 * 2 + c0.n1 * 2 + c0.n2 * 4 + in1 : Nat) : Int) < 0) := by omega
      have ka0 := (HXg.out.next HCg.out).cell 0
      have ka1 := (HXg.out.next HCg.out).cell 1
      have ka2 := (HXg.out.next HCg.out).cell 2
      have kb0 := (HXw.out.next HCw.out).cell 0
      have kb1 := (HXw.out.next HCw.out).cell 1
      have kb2 := (HXw.out.next HCw.out).cell 2
      go_wp2_with fail
      clear ka0 ka1 ka2 kb0 kb1 kb2
      refine (laws_eqDisk _ _ rc w11 hrf (HMg.out.next HCg.out).is (HMw.out.next HCw.out).is).mono ?_
      rintro e w12 ⟨rfl, hb12⟩
      have HB := hide (HB.out.trans (hb12.mono HB.out.size))
      have HCw := hide (HCw.out.trans (hb12.mono HCw.out.size))
      have HCg := hide (HCg.out.trans (hb12.mono HCg.out.size))
      have hsz12 := hb12.size
      clear hb12
      have ka0 := (HXg.out.next HCg.out).cell 0
      have ka1 := (HXg.out.next HCg.out).cell 1
      have ka2 := (HXg.out.next HCg.out).cell 2
      go_wp2_with fail
      clear ka0 ka1 ka2
      obtain ⟨g0, g1, g2, hA, hq0, hq1, hq2⟩ := (HMg.out.next HCg.out).at3
      have hfr := hrf.1
      have hA0 := hA.a0
      have hF0 : rc.n0 = 0 ∨ Fg ≠ g0 := hA0.imp id (fun e => by have := HLg0.out g0 e; omega)
      have hA1 := hA.a1
      have hF1 : rc.n1 = 0 ∨ Fg ≠ g1 := hA1.imp id (fun e => by have := HLg1.out g1 e; omega)
      have hA2 := hA.a2
      have hF2 : rc.n2 = 0 ∨ Fg ≠ g2 := hA2.imp id (fun e => by have := HLg2.out g2 e; omega)
      refine (laws_markDisk 1 1 rfl ⟨by omega, by omega⟩ ga0 gp0 g0 ga1 gp1 g1 ga2 gp2 g2 rc w12 hrf hA).mono ?_
      rintro e w13 ⟨rfl, hm, hok⟩
      have HB := hide (HB.out.trans (hm.below HB.out.size (by omega) (by omega) (by omega)))
      have HCw := hide (HCw.out.trans (hm.below HCw.out.size (by omega) (by omega) (by omega)))
      have HXg := (hm.box (HXg.out.next HCg.out) hF0 hF1 hF2).hid
      have HOK := hok.hid
      have HCg : Hid (Below w13.heap.size w13 w13) := Below.refl _ _
      have hszmg := hm.size
      clear hm hok hA HMg
      have ka0 := (HXg.out.next HCg.out).cell 0
      have ka1 := (HXg.out.next HCg.out).cell 1
      have ka2 := (HXg.out.next HCg.out).cell 2
      go_wp2_with fail
      clear ka0 ka1 ka2
      refine (laws_heldDisk 1 1 rfl ⟨by omega, by omega⟩ ga0 gp0 g0 ga1 gp1 g1 ga2 gp2 g2 rc w13 hrf hA0 hA1 hA2 (HOK.out.next HCg.out)).mono ?_
      rintro e w14 ⟨rfl, hb14⟩
      have HB := hide (HB.out.trans (hb14.mono HB.out.size))
      have HCw := hide (HCw.out.trans (hb14.mono HCw.out.size))
      have HCg := hide (HCg.out.trans (hb14.mono HCg.out.size))
      have hsz14 := hb14.size
      clear hb14
      have hpos : ¬ (((1 + rc.n0 * 2 + rc.n1 * 2 + rc.n2 * 4 : Nat) : Int) < 0) := by omega
      have k0 := (HK0.out.next HB.out).cell 0
      have k1 := (HK0.out.next HB.out).cell 1
      have k2 := (HK0.out.next HB.out).cell 2
      go_wp2_with fail
      refine (laws_toDisk (.agg #[.slice a0 c0.n0 p0, .slice a1 c0.n1 p1, .slice a2 c0.n2 p2]) c0 w14 hf0 (HV0.out.next HB.out)).mono ?_
      rintro e w15 ⟨gh0, gh1, gh2, rfl, hgh0, hrowh0, hgh1, hrowh1, hgh2, hrowh2, hgoh1, hgoh2, hb15⟩
      have HB := hide (HB.out.trans (hb15.mono HB.out.size))
      have HCw := hide (HCw.out.trans (hb15.mono HCw.out.size))
      have HCg := hide (HCg.out.trans (hb15.mono HCg.out.size))
      have hsz15 := hb15.size
      clear hb15
      have HIh := (DiskIs.of_rows hrowh0 hrowh1 hrowh2).hid
      have HCh : Hid (Below w15.heap.size w15 w15) := Below.refl _ _
      clear hrowh0 hrowh1 hrowh2
      go_wp2_with fail
      clear k0 k1 k2
      refine (laws_toInt64S ia1 in1 ic1 S1 w15 hl1 ((HS1.out.below HB.out).mono HB.out.size)).mono ?_
      rintro e w16 ⟨rfl, hrih1, hb16⟩
      have HB := hide (HB.out.trans (hb16.mono HB.out.size))
      have HCw := hide (HCw.out.trans (hb16.mono HCw.out.size))
      have HCg := hide (HCg.out.trans (hb16.mono HCg.out.size))
      have HCh := hide (HCh.out.trans (hb16.mono HCh.out.size))
      have hsz16 := hb16.size
      clear hb16
      obtain ⟨ih1, hih1⟩ : ∃ g, w15.heap.size = g := ⟨_, rfl⟩
      rw [hih1] at hrih1 ⊢
      have hilh1 := hrih1.lt
      have HRih1 := hidRowB hrih1
      clear hrih1
      go_wp2_with fail
      refine (ci (.agg #[.slice (some ⟨gh0, 0, none⟩) c0.n0 c0.n0, .slice (some ⟨gh1, 0, none⟩) c0.n1 c0.n1, .slice (some ⟨gh2, 0, none⟩) c0.n2 c0.n2]) (some ⟨ih1, 0, none⟩) w16 (HIh.out.next HCh.out) (intAt_row HRih1.out hilh1)).mono ?_
      rintro e w17 ⟨⟨uh, rfl, hoh⟩, hb17⟩
      have HB := hide (HB.out.trans (hb17.mono HB.out.size))
      have HCw := hide (HCw.out.trans (hb17.mono HCw.out.size))
      have HCg := hide (HCg.out.trans (hb17.mono HCg.out.size))
      have HCh := hide (HCh.out.trans (hb17.mono HCh.out.size))
      have hsz17 := hb17.size
      clear hb17
      obtain ⟨ha0, hp0, ha1, hp1, ha2, hp2, rfl, hMh⟩ := hoh.mine
      have HLh0 := hide hMh.m0.lt
      have HLh1 := hide hMh.m1.lt
      have HLh2 := hide hMh.m2.lt
      have hbb := below_one w17 (.cells #[.slice ha0 rc.n0 hp0, .slice ha1 rc.n1 hp1, .slice ha2 rc.n2 hp2] 31)
      have HMh := (hMh.next hbb).hid
      have HXh := (BoxIs.new w17 #[.slice ha0 rc.n0 hp0, .slice ha1 rc.n1 hp1, .slice ha2 rc.n2 hp2] 31 rfl).hid
      have HB := hide (HB.out.trans (hbb.mono HB.out.size))
      have HCw := hide (HCw.out.trans (hbb.mono HCw.out.size))
      have HCg := hide (HCg.out.trans (hbb.mono HCg.out.size))
      have HCh := hide (HCh.out.trans (hbb.mono HCh.out.size))
      clear hbb hMh hoh
      clear HIh HCh HRih1
      have kb0 := (HXw.out.next HCw.out).cell 0
      have kb1 := (HXw.out.next HCw.out).cell 1
      have kb2 := (HXw.out.next HCw.out).cell 2
      go_wp2_with fail
      clear kb0 kb1 kb2
      generalize hWX : w17.alloc (.cells #[.slice ha0 rc.n0 hp0, .slice ha1 rc.n1 hp1, .slice ha2 rc.n2 hp2] 31) = Vh at HMh HXh HB HCw HCg ⊢
      clear hWX
      obtain ⟨Fh, hFh⟩ : ∃ F, w17.heap.size = F := ⟨_, rfl⟩
      have hszh : w16.heap.size ≤ Fh := by omega
      rw [hFh] at HXh HLh0 HLh1 HLh2 ⊢
      clear hFh
      have hXhl := HXh.out.lt
      have HCh : Hid (Below Vh.heap.size Vh Vh) := Below.refl _ _
      have hBh : w16.heap.size ≤ w16.heap.size := Nat.le_refl _
      refine (laws_eqDisk _ _ rc Vh hrf (HMh.out.next HCh.out).is (HMw.out.next HCw.out).is).mono ?_
      rintro e w18 ⟨rfl, hb18⟩
      have HB := hide (HB.out.trans (hb18.mono HB.out.size))
      have HCw := hide (HCw.out.trans (hb18.mono HCw.out.size))
      have HCg := hide (HCg.out.trans (hb18.mono HCg.out.size))
      have HCh := hide (HCh.out.trans (hb18.mono HCh.out.size))
      have hsz18 := hb18.size
      clear hb18
      have ka0 := (HXg.out.next HCg.out).cell 0
      have ka1 := (HXg.out.next HCg.out).cell 1
      have ka2 := (HXg.out.next HCg.out).cell 2
      go_wp2_with fail
      clear ka0 ka1 ka2
      refine (laws_heldDisk 1 1 rfl ⟨by omega, by omega⟩ ga0 gp0 g0 ga1 gp1 g1 ga2 gp2 g2 rc w18 hrf hA0 hA1 hA2 (HOK.out.next HCg.out)).mono ?_
      rintro e w19 ⟨rfl, hb19⟩
      have HB := hide (HB.out.trans (hb19.mono HB.out.size))
      have HCw := hide (HCw.out.trans (hb19.mono HCw.out.size))
      have HCg := hide (HCg.out.trans (hb19.mono HCg.out.size))
      have HCh := hide (HCh.out.trans (hb19.mono HCh.out.size))
      have hsz19 := hb19.size
      clear hb19
      go_wp2
      go_ret
      exact ⟨rfl, HB0.out.trans (HB.out.mono HB0.out.size)⟩

end Go.Proofs.Ytejedpmkbkclhaa
