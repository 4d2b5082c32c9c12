/- The marks in a row of MetaS: laid and looked for. -/
import Derived.Test.YtplemoedpdammaaMgRegMark
import Derived.Test.YtplemoedpdammaaMgVersionInts
import Derived.Test.YtplemoedpdammaaMgMgEntRowBoxMine
import Derived.Test.YtplemoedpdammaaBase
import Derived.Test.YtplemoedpdammaaMgOwnMv
import Derived.Deep.OwnRows
import Derived.Test.YtplemoedpdammaaVerP
namespace Go.Proofs.Ytplemoedpdammaa
set_option maxRecDepth 100000
open Go.RowKit

def kdMetaS (j : Nat) : Bool := decide (j % 5 = 0) || decide (j % 5 = 1) || decide (j % 5 = 4)
theorem kdMetaS_0 (k : Nat) : kdMetaS (k * 5) = true := by unfold kdMetaS; simp <;> omega
theorem kdMetaS_1 (k : Nat) : kdMetaS (k * 5 + 1) = true := by unfold kdMetaS; simp <;> omega
theorem kdMetaS_2 (k : Nat) : kdMetaS (k * 5 + 2) = false := by unfold kdMetaS; simp <;> omega
theorem kdMetaS_3 (k : Nat) : kdMetaS (k * 5 + 3) = false := by unfold kdMetaS; simp <;> omega
theorem kdMetaS_4 (k : Nat) : kdMetaS (k * 5 + 4) = true := by unfold kdMetaS; simp <;> omega

end Go.Proofs.Ytplemoedpdammaa

/- The marks in a version: laid and looked for; a version that an answer owns. (By gen_mkbox.py.) -/
namespace Go.Proofs.Ytplemoedpdammaa
set_option maxRecDepth 100000
open Go.RowKit Go.Deep

/-- A version whose row the answer owns. -/
def VersionOwn (w : World) (B : Nat) (v : Value) (c : VersionC) : Prop := ∃ a p, v = .agg #[.slice a c.n0 p, .int .i64 c.x1, .int .i64 c.x2, .int .i64 c.x3] ∧ Mine w B 62 5 a p c.n0 (metaCell c.r0)

theorem VersionIs.of_mine {w : World} {B : Nat} {a : Option Addr} {p : Nat} {c : VersionC} (h : Mine w B 62 5 a p c.n0 (metaCell c.r0)) : VersionIs w (.agg #[.slice a c.n0 p, .int .i64 c.x1, .int .i64 c.x2, .int .i64 c.x3]) c := ⟨a, p, rfl, metaAt_mine h⟩
theorem VersionOwn.is {w : World} {B : Nat} {v : Value} {c : VersionC} (h : VersionOwn w B v c) : VersionIs w v c := by
  obtain ⟨a, p, rfl, hm⟩ := h
  exact VersionIs.of_mine hm
theorem VersionOwn.next {w w' : World} {B : Nat} {v : Value} {c : VersionC} (h : VersionOwn w B v c) (hb : Below w.heap.size w w') : VersionOwn w' B v c := by
  obtain ⟨a, p, hv, hm⟩ := h
  exact ⟨a, p, hv, hm.next hb⟩
theorem VersionOwn.base {w : World} {B B' : Nat} {v : Value} {c : VersionC} (h : VersionOwn w B v c) (hB : B' ≤ B) : VersionOwn w B' v c := by
  obtain ⟨a, p, hv, hm⟩ := h
  exact ⟨a, p, hv, hm.base hB⟩
theorem VersionOwn.hid {w : World} {B : Nat} {v : Value} {c : VersionC} (h : VersionOwn w B v c) : Hid (VersionOwn w B v c) := h

end Go.Proofs.Ytplemoedpdammaa

/- Small facts that all rows share. No program in sight. -/
namespace Go.Proofs.Ytplemoedpdammaa
set_option maxRecDepth 100000
open Go.RowKit Go.Deep

theorem entRow_below {w w' : World} {B g n : Nat} {t : TypeId} {f : Nat → Value} (h : w.rowIs g t n f) (hb : Below B w w') (hg : g < B) : w'.rowIs g t n f := h.of_block (hb.block g hg)

theorem ret_boolE {a b : Bool} (h : a = b) : Ending.returned (.bool a) = .returned (.bool b) := by rw [h]

theorem below1 (w : World) (o : Obj) : Below w.heap.size w (w.alloc o) := (Below.refl _ _).alloc (Nat.le_refl _) _

theorem hidRowB {w : World} {g n : Nat} {t : TypeId} {f : Nat → Value} (h : w.rowIs g t n f) : Hid (w.rowIs g t n f) := h

theorem held_callE {P : Program} {f : FuncId} {args : Array Value} {w2 : World} {v : Value} {S : World → Prop} (hk : ∀ a b, S a → Below a.heap.size a b → S b) (hS : S w2)
    (h : Calls P f args w2 fun e w' => e = .returned v ∧ Below w2.heap.size w2 w') : Calls P f args w2 fun e w' => e = .returned v ∧ S w' :=
  h.mono fun _ _ h => ⟨h.1, hk _ _ hS h.2⟩

end Go.Proofs.Ytplemoedpdammaa

/- A block that holds just these cells. No program in sight. -/
namespace Go.Proofs.Ytplemoedpdammaa
set_option maxRecDepth 100000
open Go.RowKit

def BoxIs (w : World) (F : Nat) (cs : Array Value) (t : TypeId) : Prop := w.heap[F]? = some (.cells cs t)

theorem BoxIs.new (w : World) (cs : Array Value) (t : TypeId) {g : Nat} (hg : g = w.heap.size) : BoxIs (w.alloc (.cells cs t)) g cs t := by subst hg; exact heap_alloc_new w _
theorem BoxIs.lt {w : World} {F : Nat} {cs : Array Value} {t : TypeId} (h : BoxIs w F cs t) : F < w.heap.size := (Array.getElem?_eq_some_iff.1 h).1
theorem BoxIs.below {w w' : World} {F B : Nat} {cs : Array Value} {t : TypeId} (h : BoxIs w F cs t) (hb : Below B w w') (hF : F < B) : BoxIs w' F cs t := (hb.block F hF).trans h
theorem BoxIs.next {w w' : World} {F : Nat} {cs : Array Value} {t : TypeId} (h : BoxIs w F cs t) (hb : Below w.heap.size w w') : BoxIs w' F cs t := h.below hb h.lt
theorem BoxIs.mv {w w' : World} {F g : Nat} {cs : Array Value} {t : TypeId} (h : BoxIs w F cs t) (hm : Mv g w w') (hg : F ≠ g) : BoxIs w' F cs t := (hm.block F h.lt hg).trans h
theorem BoxIs.cell {w : World} {F : Nat} {cs : Array Value} {t : TypeId} (h : BoxIs w F cs t) (j : Nat) : w.cell? ⟨F, j, none⟩ = cs[j]? := by
  have h' : w.heap[F]? = some (.cells cs t) := h
  simp [World.cell?, h']
theorem BoxIs.free {w : World} {F : Nat} {cs : Array Value} {t : TypeId} (h : BoxIs w F cs t) (j : Nat) : w.frozen? ⟨F, j, none⟩ = false := by
  have h' : w.heap[F]? = some (.cells cs t) := h
  simp [World.frozen?, h']
theorem BoxIs.hid {w : World} {F : Nat} {cs : Array Value} {t : TypeId} (h : BoxIs w F cs t) : Hid (BoxIs w F cs t) := h

theorem BoxIs.set {w : World} {F : Nat} {cs : Array Value} {t : TypeId} (h : BoxIs w F cs t) (j : Nat) (v : Value) : BoxIs (w.setCell ⟨F, j, none⟩ v) F (cs.setIfInBounds j v) t := by
  have h' : w.heap[F]? = some (.cells cs t) := h
  unfold BoxIs World.setCell
  simp only [Array.getElem?_modify, if_true, h']
  rfl
theorem BoxIs.set_other {w : World} {F : Nat} {cs : Array Value} {t : TypeId} (h : BoxIs w F cs t) {p : Addr} (hp : p.block ≠ F) (v : Value) : BoxIs (w.setCell p v) F cs t := by
  unfold BoxIs
  rw [Below.heap_setCell _ _ _ _ (fun e => hp e.symm)]
  exact h
theorem rowIs_set {w : World} {g n : Nat} {t : TypeId} {f : Nat → Value} (h : w.rowIs g t n f) {p : Addr} (hp : p.block ≠ g) (v : Value) : (w.setCell p v).rowIs g t n f :=
  h.of_block (Below.heap_setCell _ _ _ _ (fun e => hp e.symm))

end Go.Proofs.Ytplemoedpdammaa

/- Rows of files of one's own: moved, and not nil; the version of nothing. No walk. -/
namespace Go.Proofs.Ytplemoedpdammaa
set_option maxRecDepth 100000
open Go.RowKit

theorem toList_neV {a b : ByteArray} (h : ¬ a = b) : ¬ a.toList = b.toList := fun e => h (by
  rw [ByteArray.toList_eq, ByteArray.toList_eq] at e
  exact ByteArray.ext (Array.toList_inj.1 e))
theorem OwnMeta.mv {w w' : World} {B r : Nat} {v : Value} {es : List Meta1} (h : OwnMeta w B v es) (hm : Mv r w w') (hr : r < B) : OwnMeta w' B v es := by
  refine ⟨h.1, ?_⟩
  rcases h.2 with hn | ⟨g, cap, cur, rfl, hg, hh, rr⟩
  · exact .inl hn
  · exact .inr ⟨g, cap, cur, rfl, hg, (hm.block g (Array.getElem?_eq_some_iff.1 hh).1 (by omega)).trans hh, rr⟩

theorem OwnMeta.some {w : World} {B : Nat} {v : Value} {es : List Meta1} (h : OwnMeta w B v es) (hne : es.length ≠ 0) : ∃ g cap, v = .slice (.some ⟨g, 0, none⟩) es.length cap := by
  rcases h.2 with ⟨rfl, h0⟩ | ⟨g, cap, cur, rfl, r⟩
  · exact absurd h0 hne
  · exact ⟨g, cap, rfl⟩

/-- The answer where there is no version. -/
theorem zeroV_own (w : World) (B : Nat) : VersionOwn w B (.agg #[.slice none 0 0, .int .i64 0, .int .i64 0, .int .i64 0]) zeroV := by
  obtain ⟨a, p, hv, hM⟩ := (OwnMeta.nil w B).mine
  refine ⟨a, p, ?_, hM⟩
  have e : (.slice none 0 0 : Value) = .slice a ([] : List Meta1).length p := hv
  show _ = Value.agg #[.slice a ([] : List Meta1).length p, _, _, _]
  rw [← e]; rfl


end Go.Proofs.Ytplemoedpdammaa
