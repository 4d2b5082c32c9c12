/- What is read as a batch: plain functions; rows of ops of one's own. -/
import Derived.Test.YtljmfdcilnbjaabRdr
import Derived.Test.YtljmfdcilnbjaabBatchS
import Derived.Test.YtljmfdcilnbjaabReg
import Derived.Deep.AppendLies
import Derived.Test.YtljmfdcilnbjaabFRead
namespace Go.Proofs.Ytljmfdcilnbjaab
set_option maxRecDepth 100000
open Go.RowKit Go.Deep

structure Ob where
  k : Int
  u : ByteArray
  x : ByteArray

def cellsO : List Ob → List Value
  | [] => []
  | o :: os => .int .i64 o.k :: .string o.u :: .string o.x :: cellsO os

theorem cellsO_append : ∀ a b : List Ob, cellsO (a ++ b) = cellsO a ++ cellsO b
  | [], _ => rfl
  | o :: os, b => by simp [cellsO, cellsO_append os b]
theorem cellsO_len : ∀ os : List Ob, (cellsO os).length = os.length * 3
  | [] => rfl
  | o :: os => by simp [cellsO, cellsO_len os]; omega
theorem cellsO_one : ∀ (os : List Ob) (v : Value), v ∈ cellsO os → v.oneCell' = true
  | [], _, h => by simp [cellsO] at h
  | o :: os, v, h => by
    simp only [cellsO, List.mem_cons] at h
    rcases h with rfl | rfl | rfl | h
    · rfl
    · rfl
    · rfl
    · exact cellsO_one os v h
theorem cellsO_get : ∀ (os : List Ob) (i : Nat) (o : Ob), os[i]? = some o → (cellsO os)[i * 3]? = some (.int .i64 o.k) ∧ (cellsO os)[i * 3 + 1]? = some (.string o.u) ∧ (cellsO os)[i * 3 + 2]? = some (.string o.x)
  | [], _, _, h => by simp at h
  | a :: os, 0, o, h => by
    obtain rfl : a = o := by simpa using h
    exact ⟨rfl, rfl, rfl⟩
  | a :: os, i + 1, o, h => by
    have := cellsO_get os i o (by simpa using h)
    have h0 : (i + 1) * 3 = i * 3 + 3 := by omega
    rw [h0]
    exact this

def ob0 : Ob := ⟨0, ⟨#[]⟩, ⟨#[]⟩⟩
/-- The ops of a list. -/
def opsOf (os : List Ob) : Ops := ⟨fun i => (os.getD i ob0).k, fun i => (os.getD i ob0).u, fun i => (os.getD i ob0).x⟩

/-- A row of one's own stays while its block does. -/
theorem own_block {w w' : World} {B n size : Nat} {e : TypeId} {v : Value} {xs : List Value} (h : w.ownsRow B e size v n xs) (hb : ∀ g, g < w.heap.size → B ≤ g → w'.heap[g]? = w.heap[g]?) : w'.ownsRow B e size v n xs := by
  refine ⟨h.1, ?_⟩
  rcases h.2 with hn | ⟨g, cap, cur, rfl, hg, hh, r⟩
  · exact .inl hn
  · refine .inr ⟨g, cap, cur, rfl, hg, ?_, r⟩
    rw [hb g (Array.getElem?_eq_some_iff.1 hh).1 hg]; exact hh
theorem own_next {w w' : World} {B n size : Nat} {e : TypeId} {v : Value} {xs : List Value} (h : w.ownsRow B e size v n xs) (hb : Below w.heap.size w w') : w'.ownsRow B e size v n xs := own_block h fun g hg _ => hb.block g hg
theorem own_mvR {w w' : World} {B n r size : Nat} {e : TypeId} {v : Value} {xs : List Value} (h : w.ownsRow B e size v n xs) (hm : Mv r w w') (hr : r < B) : w'.ownsRow B e size v n xs := own_block h fun g hg hB => hm.block g hg (by omega)
theorem own_mono {w : World} {B B' n size : Nat} {e : TypeId} {v : Value} {xs : List Value} (h : w.ownsRow B e size v n xs) (hB : B' ≤ B) : w.ownsRow B' e size v n xs := by
  refine ⟨h.1, ?_⟩
  rcases h.2 with hn | ⟨g, cap, cur, rfl, hg, r⟩
  · exact .inl hn
  · exact .inr ⟨g, cap, cur, rfl, by omega, r⟩

def OwnO (w : World) (B : Nat) (v : Value) (os : List Ob) : Prop := w.ownsRow B 40 3 v os.length (cellsO os)
theorem OwnO.nil (w : World) (B : Nat) : OwnO w B (.slice none 0 0) [] := World.ownsRow_nil _ _ _ _
theorem OwnO.ops {w : World} {B : Nat} {v : Value} {os : List Ob} (h : OwnO w B v os) : ∃ a cap, v = .slice a os.length cap ∧ OpAt w w.heap.size a os.length (opsOf os) := by
  have h' := h
  rcases h.2 with ⟨rfl, h0⟩ | ⟨g, cap, cur, rfl, hg, hh, r⟩
  · have : os = [] := by cases os with | nil => rfl | cons a b => simp at h0
    subst this
    exact ⟨none, 0, rfl, .inl rfl⟩
  · have hlt : g < w.heap.size := (Array.getElem?_eq_some_iff.1 hh).1
    refine ⟨_, cap, rfl, .inr ⟨g, 0, rfl, hlt, fun i hi => ?_⟩⟩
    have hcell : ∀ j v, (cellsO os)[j]? = some v → w.cell? ⟨g, j, none⟩ = some v := fun j v hv => by
      have hc := World.ownsRow.cells h' (g := g) rfl j v hv
      have e : (⟨g, 0, none⟩ : Addr).add j = ⟨g, j, none⟩ := by unfold Addr.add; split <;> simp_all
      rwa [e] at hc
    obtain ⟨c0, c1, c2⟩ := cellsO_get os i (os.getD i ob0) (by simp [List.getD, List.getElem?_eq_getElem hi])
    exact ⟨by rw [Nat.zero_add]; exact hcell _ _ c0, by rw [Nat.zero_add]; exact hcell _ _ c1, by rw [Nat.zero_add]; exact hcell _ _ c2⟩

/-- One op, as the small reader finds it. -/
def obAt (r : ByteArray) : Ob := ⟨(rbyte r).1, (rtext (rbyte r).2.1).1, (rtext (rtext (rbyte r).2.1).2.1).1⟩
def obRest (r : ByteArray) : ByteArray := (rtext (rtext (rbyte r).2.1).2.1).2.1
def obLost (r : ByteArray) : Bool := (rbyte r).2.2 || (rtext (rbyte r).2.1).2.2 || (rtext (rtext (rbyte r).2.1).2.1).2.2

/-- The first ops of r, what is left, that something was missing. -/
def rdo (r : ByteArray) : Nat → List Ob × ByteArray × Bool
  | 0 => ([], r, false)
  | k + 1 => ((rdo r k).1 ++ [obAt (rdo r k).2.1], obRest (rdo r k).2.1, (rdo r k).2.2 || obLost (rdo r k).2.1)

theorem rdo_len (r : ByteArray) : ∀ k, (rdo r k).1.length = k
  | 0 => rfl
  | k + 1 => by simp [rdo, rdo_len r k]
theorem rbyte_bd (r : ByteArray) : (rbyte r).2.1.size ≤ r.size ∧ 0 ≤ (rbyte r).1 ∧ (rbyte r).1 ≤ 255 := by
  unfold rbyte
  split
  · exact ⟨Nat.zero_le _, by decide, by decide⟩
  · have := bt_bd r 0
    exact ⟨by simp, this.1, this.2⟩
theorem obRest_size (r : ByteArray) : (obRest r).size ≤ r.size := by
  have h1 := (rbyte_bd r).1
  have h2 := (rtext_bd (rbyte r).2.1).1
  have h3 := (rtext_bd (rtext (rbyte r).2.1).2.1).1
  unfold obRest; omega
theorem rdo_size (r : ByteArray) : ∀ k, (rdo r k).2.1.size ≤ r.size
  | 0 => Nat.le_refl _
  | k + 1 => Nat.le_trans (obRest_size _) (rdo_size r k)
theorem rdo_lost (r : ByteArray) {k : Nat} (h : (rdo r k).2.2 = true) : ∀ m, k ≤ m → (rdo r m).2.2 = true := by
  intro m hm
  induction m with
  | zero => have : k = 0 := by omega
            subst this; exact h
  | succ m ih =>
    rcases Nat.lt_or_eq_of_le hm with h1 | h1
    · simp [rdo, ih (by omega)]
    · subst h1; exact h

/-- How many ops are read. -/
def rdm (n : Int) : Nat := (if n < 21 then n else 21).toNat

/-- What is read as a batch: whether it is one, its number, its ops. -/
def readB (s : ByteArray) : Bool × Int × List Ob :=
  let a := rnum s
  let b := rnum a.2.1
  let c := rdo b.2.1 (rdm b.1)
  if (!((a.2.2 || b.2.2) || c.2.2) && decide (c.2.1.size = 0)) = true ∧ batchOkB a.1 c.1.length (opsOf c.1) = true then (true, a.1, c.1) else (false, 0, [])

theorem readB_yes {s : ByteArray} (h1 : (!(((rnum s).2.2 || (rnum (rnum s).2.1).2.2) || (rdo (rnum (rnum s).2.1).2.1 (rdm (rnum (rnum s).2.1).1)).2.2) && decide ((rdo (rnum (rnum s).2.1).2.1 (rdm (rnum (rnum s).2.1).1)).2.1.size = 0)) = true)
    (h2 : batchOkB (rnum s).1 (rdo (rnum (rnum s).2.1).2.1 (rdm (rnum (rnum s).2.1).1)).1.length (opsOf (rdo (rnum (rnum s).2.1).2.1 (rdm (rnum (rnum s).2.1).1)).1) = true) :
    readB s = (true, (rnum s).1, (rdo (rnum (rnum s).2.1).2.1 (rdm (rnum (rnum s).2.1).1)).1) := by
  unfold readB
  simp only [h1, h2, and_self, if_true]
theorem readB_no1 {s : ByteArray} (h1 : (!(((rnum s).2.2 || (rnum (rnum s).2.1).2.2) || (rdo (rnum (rnum s).2.1).2.1 (rdm (rnum (rnum s).2.1).1)).2.2) && decide ((rdo (rnum (rnum s).2.1).2.1 (rdm (rnum (rnum s).2.1).1)).2.1.size = 0)) = false) : readB s = (false, 0, []) := by
  unfold readB
  simp only [h1, Bool.false_eq_true, false_and, if_false]
theorem readB_no2 {s : ByteArray} (h2 : batchOkB (rnum s).1 (rdo (rnum (rnum s).2.1).2.1 (rdm (rnum (rnum s).2.1).1)).1.length (opsOf (rdo (rnum (rnum s).2.1).2.1 (rdm (rnum (rnum s).2.1).1)).1) = false) : readB s = (false, 0, []) := by
  unfold readB
  simp only [h2, Bool.false_eq_true, and_false, if_false]

theorem takeText_rt (r : ByteArray) : takeText r = .tuple #[.string (rtext r).1, .string (rtext r).2.1, .bool (!(rtext r).2.2)] := by
  cases h : rtx r with
  | none => rw [rtext_none h, takeText_no (rtx_none h)]; rfl
  | some x =>
    obtain ⟨k, e⟩ := x
    obtain ⟨m, rfl, h1, h2⟩ := rtx_some h
    rw [rtext_some h, takeText_yes h1 h2]; rfl

end Go.Proofs.Ytljmfdcilnbjaab
