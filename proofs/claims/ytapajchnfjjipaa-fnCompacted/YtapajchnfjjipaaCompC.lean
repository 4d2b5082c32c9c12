/- What stands while the loop of Compacted runs. -/
import Derived.RangeFuncWrites
import Derived.RangeFuncNested
import Derived.Test.YtapajchnfjjipaaStay
import Derived.Test.YtapajchnfjjipaaOwnEntry
namespace Go.Proofs.Ytapajchnfjjipaa
set_option maxRecDepth 100000
open Go.RowKit

structure CP where
  T : Nat
  B : Nat
  br : Nat
  g : Nat
  bb : Nat
  bc : Nat
  bl : Nat
  Bd : Nat
  nb : Nat
  w0 : World
  bottom : Bool
  lv : Value
  oB : Option Obj
  oN : Option Obj
/-- The blocks' order. -/
structure CP.Ok (c : CP) : Prop where
  b0 : c.B ≤ c.w0.heap.size
  b1 : c.B ≤ c.bl
  l : c.bl < c.br
  r : c.br < c.g
  g : c.g < c.bc
  d : c.bc < c.Bd
  n : c.bc < c.nb
  t1 : c.Bd < c.T
  t2 : c.nb < c.T
  t3 : c.bb < c.T

structure CI (c : CP) (v : Value) (es : List Entry1) (last : ByteArray) (W : World) : Prop where
  row : OwnEntry W c.T v es
  box : BoxIs W c.br #[v] 29
  g : BoxIs W c.g #[.string last] 9
  bb : BoxIs W c.bb #[.bool c.bottom] 4
  bc : BoxIs W c.bc #[stayF c.bb c.g] 56
  bl : BoxIs W c.bl #[c.lv] 29
  bd : W.heap[c.Bd]? = c.oB
  nb : W.heap[c.nb]? = c.oN
  size : c.T ≤ W.heap.size
  below : Below c.B c.w0 W

theorem OwnEntry.mv {w w' : World} {B g : Nat} {v : Value} {es : List Entry1} (h : OwnEntry w B v es) (hm : Mv g w w') (hg : g < B) : OwnEntry w' B v es := by
  refine ⟨h.1, ?_⟩
  rcases h.2 with hn | ⟨b, cap, cur, rfl, hb, hh, r⟩
  · exact .inl hn
  · exact .inr ⟨b, cap, cur, rfl, hb, (hm.block b (Array.getElem?_eq_some_iff.1 hh).1 (by omega)).trans hh, r⟩

theorem CI.next {c : CP} {v : Value} {es : List Entry1} {last : ByteArray} {W W' : World} (h : CI c v es last W) (k : c.Ok) (hb : Below W.heap.size W W') : CI c v es last W' := by
  have hz := h.size
  exact ⟨h.row.next hb, h.box.next hb, h.g.next hb, h.bb.next hb, h.bc.next hb, h.bl.next hb, (hb.block _ (Nat.lt_of_lt_of_le k.t1 hz)).trans h.bd, (hb.block _ (Nat.lt_of_lt_of_le k.t2 hz)).trans h.nb, Nat.le_trans hz hb.size, h.below.trans (hb.mono (Nat.le_trans k.b0 h.below.size))⟩
theorem CI.stay {c : CP} {v : Value} {es : List Entry1} {last last' : ByteArray} {W W' : World} (h : CI c v es last W) (k : c.Ok) (hs : Sm c.B W W') (hm : Mv c.g W W') (hg : BoxIs W' c.g #[.string last'] 9) : CI c v es last' W' := by
  have hz := h.size
  obtain ⟨b0, b1, l, r, kg, d, n, t1, t2, t3⟩ := k
  refine ⟨h.row.mv hm (by omega), h.box.mv hm (by omega), hg, h.bb.mv hm (h.bb.ne h.g (by decide)), h.bc.mv hm (by omega), h.bl.mv hm (by omega), (hm.block _ (by omega) (by omega)).trans h.bd, (hm.block _ (by omega) (by omega)).trans h.nb, Nat.le_trans hz hm.size, h.below.trans hs.below⟩
theorem CI.grown {c : CP} {v v' : Value} {es es' : List Entry1} {last : ByteArray} {W W' : World} (h : CI c v es last W) (k : c.Ok) (ho : OwnEntry W' c.T v' es') (hg : W.grownBy W' v.ownBlock) :
    BoxIs W' c.br #[v] 29 ∧ CI c v' es' last (W'.setCell ⟨c.br, 0, none⟩ v') := by
  have hz := h.size
  have hb := h.row.grownBelow hz hg
  have hbx := h.box.below hb (by have := k.r; have := k.g; have := k.d; have := k.t1; omega)
  have hgx := h.g.below hb (by have := k.g; have := k.d; have := k.t1; omega)
  have hbb := h.bb.below hb k.t3
  obtain ⟨b0, b1, l, r, kg, d, n, t1, t2, t3⟩ := k
  refine ⟨hbx, ho.setOther (by show c.br < c.T; omega) _, ?_, hgx.set_other (by show c.br ≠ c.g; omega) _, hbb.set_other (Ne.symm (hbb.ne hbx (by decide))) _, (h.bc.below hb (by omega)).set_other (by show c.br ≠ c.bc; omega) _, (h.bl.below hb (by omega)).set_other (by show c.br ≠ c.bl; omega) _, ?_, ?_, ?_, ?_⟩
  · have := hbx.set 0 v'
    simpa only [List.setIfInBounds_toArray, List.set_cons_zero] using this
  · rw [Below.heap_setCell _ _ _ _ (by show c.Bd ≠ c.br; omega)]; exact (hb.block _ t1).trans h.bd
  · rw [Below.heap_setCell _ _ _ _ (by show c.nb ≠ c.br; omega)]; exact (hb.block _ t2).trans h.nb
  · have := hb.size; simp only [World.size_setCell]; omega
  · exact (h.below.trans (hb.mono (by omega))).setCell (p := ⟨c.br, 0, none⟩) (by show c.B ≤ c.br; omega) v'

theorem KeepsFrom.of_mv {T g : Nat} {W W' : World} (h : Mv g W W') (hg : g < T) : KeepsFrom T W W' :=
  ⟨h.size, fun k _ hB hk _ => (h.block k (Array.getElem?_eq_some_iff.1 hk).1 (by omega)).trans hk⟩
theorem KeepsFrom.of_next {T : Nat} {W W' : World} (h : Below W.heap.size W W') : KeepsFrom T W W' :=
  ⟨h.size, fun k _ _ hk _ => (h.block k (Array.getElem?_eq_some_iff.1 hk).1).trans hk⟩
theorem OwnEntry.keepsFrom {T B : Nat} {W W' : World} {v : Value} {es : List Entry1} (h : OwnEntry W B v es) (hg : W.grownBy W' v.ownBlock) : KeepsFrom T W W' := by
  refine ⟨hg.size, fun k o _ hk ho => ?_⟩
  refine (hg.block k (Array.getElem?_eq_some_iff.1 hk).1 (fun e => ?_)).trans hk
  rcases h.2 with ⟨rfl, _⟩ | ⟨b, cap, cur, rfl, _, hh, _⟩
  · cases e
  · have e' : k = b := by simpa [Value.ownBlock] using e
    subst e'
    rw [hh] at hk
    cases hk
    cases ho
theorem KeepsFrom.of_set {T g : Nat} (o : Nat) {W : World} {v : Value} (hg : g < T) : KeepsFrom T W (W.setCell ⟨g, o, none⟩ v) :=
  ⟨by simp [World.setCell], fun _ _ hB hk _ => by rw [Below.heap_setCell _ _ _ _ (by show _ ≠ g; omega)]; exact hk⟩

theorem CI.keep {c : CP} {v v' : Value} {es es' : List Entry1} {last last' : ByteArray} {W W' : World} (h : CI c v es last W) (k : CI c v' es' last' W') : W'.heap[c.Bd]? = W.heap[c.Bd]? ∧ W'.heap[c.nb]? = W.heap[c.nb]? :=
  ⟨k.bd.trans h.bd.symm, k.nb.trans h.nb.symm⟩

/-- The machine's book-keeping turns none of it. -/
theorem CI.turn {c : CP} {v : Value} {es : List Entry1} {last : ByteArray} {W W' : World} {row : Option Nat} (h : CI c v es last W) (k : c.Ok) (hg : W.grownBy W' row) (hr : ∀ r, row = some r → c.T ≤ r ∧ ∃ o : Obj, W.heap[r]? = some o ∧ o.isCells = false) : CI c v es last W' := by
  have hz := h.size
  have cel : ∀ (F : Nat) (cs : Array Value) (t : TypeId), BoxIs W F cs t → BoxIs W' F cs t := fun F cs t hb => by
    have hb' : W.heap[F]? = some (.cells cs t) := hb
    refine (hg.block F hb.lt (fun e => ?_)).trans hb
    obtain ⟨_, o, ho, hc⟩ := hr F e.symm
    rw [hb'] at ho
    cases ho
    cases hc
  have low : ∀ F, F < c.T → W'.heap[F]? = W.heap[F]? := fun F hF => hg.block F (by omega) (fun e => by have := (hr F e.symm).1; omega)
  refine ⟨⟨h.row.1, ?_⟩, cel _ _ _ h.box, cel _ _ _ h.g, cel _ _ _ h.bb, cel _ _ _ h.bc, cel _ _ _ h.bl, (low _ k.t1).trans h.bd, (low _ k.t2).trans h.nb, Nat.le_trans hz hg.size, ?_⟩
  · rcases h.row.2 with hn | ⟨b, cap, cur, rfl, hb, hh, r⟩
    · exact .inl hn
    · exact .inr ⟨b, cap, cur, rfl, hb, cel b cur _ hh, r⟩
  · have : Below c.T W W' := (Below.refl c.T W).grown hg hz fun r hr' => (hr r hr').1
    refine h.below.trans (this.mono ?_)
    obtain ⟨b0, b1, l, r, kg, d, n, t1, t2, t3⟩ := k
    omega
theorem CI.from {c : CP} {α : Type} (k : c.Ok) (fe : List α → List Entry1) (fl : List α → ByteArray) : OwnFrom c.T (fun (pre : List α) W => ∃ v, CI c v (fe pre) (fl pre) W) :=
  fun _ _ _ _ hs hg hr => by obtain ⟨v, h⟩ := hs; exact ⟨v, h.turn k hg hr⟩

end Go.Proofs.Ytapajchnfjjipaa
