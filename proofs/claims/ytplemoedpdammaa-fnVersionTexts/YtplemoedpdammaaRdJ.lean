/- What the walks of ReadVersion of the model share. (By gen_readvs2.py.) -/
import Derived.Test.YtplemoedpdammaaMgMkMetaMkBoxVersionEntRowBoxVerO
import Derived.Test.YtplemoedpdammaaRdI
import Derived.Test.YtplemoedpdammaaMgRegMark
import Derived.Test.YtplemoedpdammaaNth
namespace Go.Proofs.Ytplemoedpdammaa
set_option maxRecDepth 100000
open Go.RowKit Go.Deep

/-- 'append(v, m)', m just laid. -/
theorem wpList_append_m1 {w : World} {ops : Array Oper} {rest : List Oper} {o : Oper} {a : Act} {Q : Exit → Act → World → Prop} (hgd : o.guard = none) (s x : Operand) (t : TypeId)
    (ho : o.op = .call { callee := .builtin .append, args := #[s, x], argTypes := #[t, t] }) (ht : Try.prog.underlying t = some (.slice 62))
    (B : Nat) (v : Value) (es : List Meta1) (m : Meta1) (hs : a.eval s = v) (hx : a.eval x = .slice (some ⟨w.heap.size, 0, none⟩) 1 1) (hown : OwnMeta w B v es) (hB : B ≤ w.heap.size) (hlen : es.length < 1000000)
    (h : ∀ v' w', OwnMeta w' B v' (es ++ [m]) → Below B w w' → wpList Try.prog ops Q rest (a.put o.dst v') w') :
    wpList Try.prog ops Q (o :: rest) a (w.alloc (.cells #[.int .i64 m.n, .int .i64 m.l, .string m.f, .string m.z, .int .i64 m.c] 62)) := by
  have hb := below_one w (.cells #[.int .i64 m.n, .int .i64 m.l, .string m.f, .string m.z, .int .i64 m.c] 62)
  refine wpList_append_meta hgd s x t ho ht B v es [m] hs (hown.next hb) ⟨w.heap.size, 0, none⟩ 1 1 hx rfl (meta_news (BoxIs.new w _ _ rfl)) (Nat.le_trans hB hb.size) (by omega) ?_
  intro v' w' h1 h2
  exact h v' w' h1 ((hb.mono hB).trans h2)

/-- While the model reads files. -/
structure SvS (w : World) (F : Nat) (x1 x2 x3 : Int) (v vo : Value) (ms : List Meta1) (x : World) : Prop where
  bx : BoxIs x F #[v, .int .i64 x1, .int .i64 x2, .int .i64 x3] 46
  res : BoxIs x w.heap.size #[.slice none 0 0, .int .i64 0, .int .i64 0, .int .i64 0] 46
  own : OwnMeta x (F + 1) vo ms
  low : Below w.heap.size w x
  hB : F + 1 ≤ x.heap.size
  n2 : w.heap.size < F
section
variable {w : World} {F : Nat} {x1 x2 x3 : Int} {v vo : Value} {ms : List Meta1} {x : World}
theorem SvS.next (h : SvS w F x1 x2 x3 v vo ms x) {y : World} (hb : Below x.heap.size x y) : SvS w F x1 x2 x3 v vo ms y :=
  ⟨h.bx.next hb, h.res.next hb, h.own.next hb, h.low.trans (hb.mono h.low.size), Nat.le_trans h.hB hb.size, h.n2⟩
theorem SvS.app (h : SvS w F x1 x2 x3 v vo ms x) {y : World} {v' : Value} {es : List Meta1} (how : OwnMeta y (F + 1) v' es) (hb : Below (F + 1) x y) : SvS w F x1 x2 x3 v v' es y := by
  have := h.n2
  exact ⟨h.bx.below hb (by omega), h.res.below hb (by omega), how, h.low.trans (hb.mono (by omega)), Nat.le_trans h.hB hb.size, h.n2⟩
theorem SvS.put (h : SvS w F x1 x2 x3 v vo ms x) : SvS w F x1 x2 x3 vo vo ms (x.setCell ⟨F, 0, none⟩ vo) := by
  have h2 := h.n2
  have hb : Below F x (x.setCell ⟨F, 0, none⟩ vo) := (Below.refl _ _).setCell (p := ⟨F, 0, none⟩) (Nat.le_refl _) _
  have hm : Mv F x (x.setCell ⟨F, 0, none⟩ vo) := (Mv.refl _ _).setCell _
  exact ⟨h.bx.set 0 vo, h.res.below hb (by omega), h.own.mv hm (by omega), h.low.trans (hb.mono (by omega)), Nat.le_trans h.hB hm.size, h.n2⟩
end
theorem takeText_empty : takeText ⟨#[]⟩ = .tuple #[.string ⟨#[]⟩, .string ⟨#[]⟩, .bool false] := rfl
theorem li_empty : li ⟨#[]⟩ = (0, ⟨#[]⟩, false) := rfl
theorem rtext_lost {r : ByteArray} (h : (rtext r).2.2 = true) : rtext r = (⟨#[]⟩, ⟨#[]⟩, true) := by
  cases hx : rtx r with
  | none => exact rtext_none hx
  | some x => obtain ⟨k, e⟩ := x; rw [rtext_some hx] at h; cases h
theorem vOk_lost {s : ByteArray} (h : vOk s = true → False) : vOk s = false := Bool.eq_false_iff.2 h

/-- The answer where there is no version. -/
theorem bad_endV {s : ByteArray} {w w' : World} (HV : vOk s = false) (h : Below w.heap.size w w') :
    (∃ v, Ending.returned (.tuple #[.agg #[.slice none 0 0, .int .i64 0, .int .i64 0, .int .i64 0], .bool false]) = .returned (.tuple #[v, .bool (vOk s)]) ∧ VersionOwn w' w.heap.size v (readV s)) ∧ Below w.heap.size w w' :=
  ⟨⟨_, by rw [HV], by rw [readV_no HV]; exact zeroV_own _ _⟩, h⟩


end Go.Proofs.Ytplemoedpdammaa
