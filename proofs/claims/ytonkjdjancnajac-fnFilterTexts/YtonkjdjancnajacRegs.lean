/- Registers: an array of 64 bytes that goes by value; those whose text a text is. -/
import Derived.Test.YtonkjdjancnajacRows
import Derived.Test.YtonkjdjancnajacBase
import Derived.Deep.WholeRow
namespace Go.Proofs.Ytonkjdjancnajac
set_option maxRecDepth 100000
open Go.RowKit

def vals (l : List Int) : Array Value := (l.map (Value.int .u8)).toArray
def numsOf (s : ByteArray) : List Int := s.data.toList.map fun b => (b.toNat : Int)

theorem vals_size (l : List Int) : (vals l).size = l.length := by simp [vals]
theorem vals_get (l : List Int) (i : Nat) : (vals l)[i]? = (l[i]?).map (Value.int .u8) := by simp [vals]
theorem vals_set (l : List Int) (i : Nat) (x : Int) : (vals l).setIfInBounds i (.int .u8 x) = vals (l.set i x) := by
  simp [vals]
theorem vals_one (l : List Int) : (vals l).all (·.oneCell') = true := by
  rw [Array.all_eq_true_iff_forall_mem]
  intro v hv
  simp [vals] at hv
  obtain ⟨x, _, rfl⟩ := hv
  rfl
theorem numsOf_len (s : ByteArray) : (numsOf s).length = s.size := by simp [numsOf]
theorem numsOf_get (s : ByteArray) (k : Nat) (h : k < s.size) : (numsOf s)[k]? = some (((s[k]'h).toNat : Nat) : Int) := by
  have h' : k < s.data.toList.length := by simpa using h
  simp only [numsOf, List.getElem?_map]
  rw [List.getElem?_eq_getElem h']
  rfl
theorem str_nums (s : ByteArray) : strOfNums (numsOf s) = s := by
  apply ByteArray.ext
  apply Array.ext'
  rw [strOfNums_data, numsOf, List.map_map]
  conv => rhs; rw [← List.map_id s.data.toList]
  apply List.map_congr_left
  intro b _
  simp
theorem nums_str (l : List Int) (h : ∀ x ∈ l, 0 ≤ x ∧ x ≤ 255) : numsOf (strOfNums l) = l := by
  unfold numsOf
  rw [strOfNums_data, List.map_map]
  conv => rhs; rw [← List.map_id l]
  apply List.map_congr_left
  intro x hx
  have := h x hx
  simp
  omega

/-- 64 registers, each at most 58. -/
def IsRegs (l : List Int) : Prop := l.length = 64 ∧ ∀ x ∈ l, 0 ≤ x ∧ x ≤ 58
def zeros : List Int := List.replicate 64 0
theorem zeros_is : IsRegs zeros := ⟨by simp [zeros], fun x hx => by simp [zeros] at hx; omega⟩

def hllB (s : ByteArray) : Bool := decide (s.size = 64) && s.data.toList.all fun b => decide (b.toNat ≤ 58)

theorem bt_natR (s : ByteArray) (i : Nat) (h : i < s.size) : (s[i]'h).toNat = (s.data.toList[i]'(by simpa using h)).toNat := rfl

theorem hllB_yes {s : ByteArray} (hs : s.size = 64) (h : ∀ i (hi : i < s.size), ¬ (58 : Int) < (((s[i]'hi).toNat : Nat) : Int)) : hllB s = true := by
  unfold hllB
  rw [decide_eq_true hs, Bool.true_and, List.all_eq_true]
  intro b hb
  obtain ⟨i, hi, rfl⟩ := List.getElem_of_mem hb
  have := h i (by simpa using hi)
  rw [bt_natR] at this
  exact decide_eq_true (by omega)

theorem hllB_size {s : ByteArray} (hs : s.size ≠ 64) : hllB s = false := by
  unfold hllB
  rw [decide_eq_false hs, Bool.false_and]

theorem hllB_no {s : ByteArray} (i : Nat) (hi : i < s.size) (h : (58 : Int) < (((s[i]'hi).toNat : Nat) : Int)) : hllB s = false := by
  rw [Bool.eq_false_iff]
  intro e
  unfold hllB at e
  rw [Bool.and_eq_true, List.all_eq_true] at e
  have := of_decide_eq_true (e.2 (s.data.toList[i]'(by simpa using hi)) (List.getElem_mem _))
  rw [bt_natR] at h
  omega

theorem hllB_out {s : ByteArray} (h : hllB s = true) : IsRegs (numsOf s) := by
  unfold hllB at h
  rw [Bool.and_eq_true, List.all_eq_true] at h
  refine ⟨by rw [numsOf_len]; exact of_decide_eq_true h.1, fun x hx => ?_⟩
  simp only [numsOf, List.mem_map] at hx
  obtain ⟨b, hb, rfl⟩ := hx
  have := of_decide_eq_true (h.2 b hb)
  omega

theorem hllB_regs {l : List Int} (h : IsRegs l) : hllB (strOfNums l) = true := by
  have e := nums_str l fun x hx => by have := h.2 x hx; omega
  have hsz : (strOfNums l).size = 64 := by rw [strOfNums_size]; exact h.1
  refine hllB_yes hsz fun i hi => ?_
  have g := numsOf_get (strOfNums l) i hi
  rw [e] at g
  have := h.2 _ (List.mem_of_getElem? g)
  omega

theorem regs_len {l : List Int} (h : IsRegs l) : l.length = 64 := h.1

/-- A row of n numbers, of which the first k are s's. -/
theorem list_of_all {l m : List Int} (hl : l.length = m.length) (h : ∀ i, i < m.length → l[i]? = m[i]?) : l = m := by
  apply List.ext_getElem?
  intro i
  by_cases hi : i < m.length
  · exact h i hi
  · rw [List.getElem?_eq_none (by omega), List.getElem?_eq_none (by omega)]

theorem results_row_tmp {P : Program} {fn : Func} {p q : Tmp} {ty : TypeId} (h : fn.results = #[.cell p ty, .tmp q]) (tmps : Array Value) (w : World) (g : Nat) (t : TypeId) (cs : Array Value) (fr : Nat × Nat) (d : TypeDesc)
    (hp : tmps.getD p undef = .pointer (some ⟨g, 0, none⟩)) (hg : w.heap[g]? = some (.cells cs t fr))
    (hu : P.underlying ty = some d) (hd : (match d with | .struct _ | .array _ _ => true | _ => false) = true) (hi : (P.info? ty).map (·.size) = some cs.size) :
    (results fn tmps).run P w = .ok (.tuple #[.agg cs, tmps.getD q undef]) w := by
  have hp' : tmps[p]?.getD undef = .pointer (some ⟨g, 0, none⟩) := by simpa using hp
  simp [results, h, hp', asAddr, run_loadVar_row w g t ty cs fr d hg hu hd hi]

/-- A whole row out of its block, and into it, as the walk leaves them. -/
theorem ld_row {P : Program} (w : World) (g : Nat) (t : TypeId) (cs : Array Value) (fr : Nat × Nat) (n : Nat) (hg : w.heap[g]? = some (.cells cs t fr)) (hn : cs.size = n) :
    (loadCellsFrom ⟨g, 0, none⟩ 0 n #[]).run P w = .ok cs w := by
  subst hn
  have := run_loadCells_list (P := P) w ⟨g, 0, none⟩ cs.toList (fun j v hv => by
    have hadd : (⟨g, 0, none⟩ : Addr).add j = ⟨g, j, none⟩ := by unfold Addr.add; split <;> simp_all
    rw [hadd, cell_of_row w g j cs t fr hg]
    simpa using hv)
  simpa [loadCells] using this
theorem st_row {P : Program} (w : World) (g : Nat) (t : TypeId) (old cells : Array Value) (hg : w.heap[g]? = some (.cells old t (0, 0))) (ho : old.size = cells.size) (h1 : cells.all (·.oneCell') = true) :
    (storeCells ⟨g, 0, none⟩ cells.toList).run P w = .ok () (w.setRow g cells) := by
  have := run_storeCells_from (P := P) g t cells.toList 0 old w hg (by simp; omega) (fun v hv => (Array.all_eq_true_iff_forall_mem.1 h1) v (by simpa using hv))
  simpa using this

theorem loadAt_row {P : Program} (w : World) (g : Nat) (t ty : TypeId) (cs : Array Value) (fr : Nat × Nat) (d : TypeDesc) (hg : w.heap[g]? = some (.cells cs t fr))
    (hu : P.underlying ty = some d) (hd : (match d with | .struct _ | .array _ _ => true | _ => false) = true) (hi : (P.info? ty).map (·.size) = some cs.size) :
    (Instr.loadAt ty (.pointer (some ⟨g, 0, none⟩))).run P w = .ok (.agg cs) w := by
  simp only [Instr.loadAt, Instr.sureAddr, Sem.run_bind, Sem.run_pure, Result.andThen]
  exact run_loadVar_row w g t ty cs fr d hg hu hd hi

/-- A whole row read, as an operation of a region. -/
theorem exec_load_row {P : Program} (w : World) (ev : Operand → Value) (o : Oper) (ty : TypeId) (x : Operand) (ho : o.op = .load ty x) (g : Nat) (hx : ev x = .pointer (some ⟨g, 0, none⟩)) (t : TypeId) (cs : Array Value) (fr : Nat × Nat) (d : TypeDesc) (hg : w.heap[g]? = some (.cells cs t fr))
    (hu : P.underlying ty = some d) (hd : (match d with | .struct _ | .array _ _ => true | _ => false) = true) (hi : (P.info? ty).map (·.size) = some cs.size) :
    (execOp ev o).run P w = .ok (Next.value (.agg cs)) w := by
  unfold execOp
  simp only [ho, hx, Instr.loadAt, Instr.sureAddr, Sem.run_bind, Sem.run_pure, Result.andThen_ok, run_loadVar_row w g t ty cs fr d hg hu hd hi]

/-- A call of which 'Below' alone is known, within a region, keeps what Below keeps. -/
theorem held_below {P : Program} {f : FuncId} {args : Array Value} {w2 : World} {v : Value} {S : World → Prop} (hk : ∀ a b, S a → Below a.heap.size a b → S b) (hS : S w2)
    (h : Calls P f args w2 fun e w' => e = .returned v ∧ Below w2.heap.size w2 w') : Calls P f args w2 fun e w' => e = .returned v ∧ S w' :=
  h.mono fun _ _ h => ⟨h.1, hk _ _ hS h.2⟩

/-- An element of an array value of one-cell elements. -/
theorem idx_arr {P : Program} (t e : TypeId) (n : Nat) (cs : Array Value) (k : Nat) (v : Value) (h : P.underlying t = some (.array n e)) (hs : (P.info? e).map (·.size) = some 1) (ha : ∀ w, (isAgg e).run P w = .ok false w) (hk : k < n) (hv : cs[k]? = some v) (w : World) :
    (Instr.index t (.agg cs) (.int .i64 (k : Int))).run P w = .ok v w := by
  obtain ⟨i, hi, hi1⟩ := Option.map_eq_some_iff.1 hs
  have hz : (sizeOf e).run P w = .ok 1 w := by simp [sizeOf, typeInfo, hi, hi1]
  have hb : 0 ≤ (k : Int) ∧ (k : Int) < (n : Int) := by omega
  simp [Instr.index, run_underlying h, asIntOf, hb, hk, hz, part, ha, hv]

theorem below_setRow {B : Nat} {w w' : World} (h : Below B w w') {g : Nat} (hg : B ≤ g) (cs : Array Value) : Below B w (w'.setRow g cs) :=
  ⟨h.os, h.tape, h.output, by rw [setRow_size]; exact h.size, fun k hk => (setRow_other w' g k cs (by omega)).trans (h.block k hk)⟩

end Go.Proofs.Ytonkjdjancnajac
