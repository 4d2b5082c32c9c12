/- Rows of dOps of one's own: appending some; what they are as an argument and as an answer. (By gen_own.py.) -/
import Derived.Test.YtejedpmkbkclhaaDOps
namespace Go.Proofs.Ytejedpmkbkclhaa
set_option maxRecDepth 100000
open Go.RowKit Go.Deep

structure DOp1 where
  k : Int
  n : ByteArray
  t : ByteArray
  d : ByteArray

def cellsDOp : List DOp1 → List Value
  | [] => []
  | e :: es => .int .i64 e.k :: .string e.n :: .string e.t :: .string e.d :: cellsDOp es

theorem cellsDOp_append : ∀ a b : List DOp1, cellsDOp (a ++ b) = cellsDOp a ++ cellsDOp b
  | [], _ => rfl
  | e :: es, b => by simp [cellsDOp, cellsDOp_append es b]
theorem cellsDOp_len : ∀ es : List DOp1, (cellsDOp es).length = es.length * 4
  | [] => rfl
  | e :: es => by simp [cellsDOp, cellsDOp_len es]; omega
theorem cellsDOp_one : ∀ (es : List DOp1) (v : Value), v ∈ cellsDOp es → v.oneCell' = true
  | [], _, h => by simp [cellsDOp] at h
  | e :: es, v, h => by
    simp only [cellsDOp, List.mem_cons] at h
    rcases h with rfl | rfl | rfl | rfl | h
    · rfl
    · rfl
    · rfl
    · rfl
    · exact cellsDOp_one es v h
theorem cellsDOp_get : ∀ (es : List DOp1) (i : Nat) (e : DOp1), es[i]? = some e → (cellsDOp es)[i * 4]? = some (.int .i64 e.k) ∧ (cellsDOp es)[i * 4 + 1]? = some (.string e.n) ∧ (cellsDOp es)[i * 4 + 2]? = some (.string e.t) ∧ (cellsDOp es)[i * 4 + 3]? = some (.string e.d)
  | [], _, _, h => by simp at h
  | a :: es, 0, e, h => by
    obtain rfl : a = e := by simpa using h
    exact ⟨rfl, rfl, rfl, rfl⟩
  | a :: es, i + 1, e, h => by
    have := cellsDOp_get es i e (by simpa using h)
    have h0 : (i + 1) * 4 = i * 4 + 4 := by omega
    rw [h0]
    exact this
theorem cellsDOp_take {es : List DOp1} {k i : Nat} {v : Value} (h : (cellsDOp (es.take k))[i]? = some v) : (cellsDOp es)[i]? = some v := by
  have he : cellsDOp es = cellsDOp (es.take k) ++ cellsDOp (es.drop k) := by rw [← cellsDOp_append, List.take_append_drop]
  rw [he, List.getElem?_append_left (List.getElem?_eq_some_iff.1 h).1]; exact h
theorem cellsDOp_drop {es : List DOp1} {k i : Nat} {v : Value} (hk : k ≤ es.length) (h : (cellsDOp (es.drop k))[i]? = some v) : (cellsDOp es)[k * 4 + i]? = some v := by
  have he : cellsDOp es = cellsDOp (es.take k) ++ cellsDOp (es.drop k) := by rw [← cellsDOp_append, List.take_append_drop]
  have hl : (cellsDOp (es.take k)).length = k * 4 := by rw [cellsDOp_len, List.length_take, Nat.min_eq_left hk]
  rw [he, List.getElem?_append_right (by omega), hl, Nat.add_sub_cancel_left]; exact h

/-- Element i of a row, by itself; the row's first k. -/
def dOpAt1 (O : DOps) (i : Nat) : DOp1 := ⟨O.K i, O.N i, O.T i, O.D i⟩
def dOpsL (O : DOps) (k : Nat) : List DOp1 := (List.range k).map (dOpAt1 O)
theorem dOpsL_len (O : DOps) (k : Nat) : (dOpsL O k).length = k := by simp [dOpsL]
theorem dOpsL_succ (O : DOps) (k : Nat) : dOpsL O (k + 1) = dOpsL O k ++ [dOpAt1 O k] := by simp [dOpsL, List.range_succ]
/-- A list's elements by their places. -/
def fnDOp (es : List DOp1) : DOps := ⟨fun i => (es.getD i ⟨0, ⟨#[]⟩, ⟨#[]⟩, ⟨#[]⟩⟩).k, fun i => (es.getD i ⟨0, ⟨#[]⟩, ⟨#[]⟩, ⟨#[]⟩⟩).n, fun i => (es.getD i ⟨0, ⟨#[]⟩, ⟨#[]⟩, ⟨#[]⟩⟩).t, fun i => (es.getD i ⟨0, ⟨#[]⟩, ⟨#[]⟩, ⟨#[]⟩⟩).d⟩
theorem fnDOp_at (es : List DOp1) (i : Nat) (hi : i < es.length) : dOpAt1 (fnDOp es) i = es[i] := by
  unfold dOpAt1 fnDOp
  simp [List.getD, hi]
theorem fnDOp_list (es : List DOp1) : dOpsL (fnDOp es) es.length = es := by
  apply List.ext_getElem
  · simp [dOpsL]
  · intro i h1 h2
    simp only [dOpsL, List.getElem_map, List.getElem_range]
    exact fnDOp_at es i h2

theorem dOp_info : (Try.prog.info? 40).map (fun i => (i.zero, i.size, i.bytes)) = some (some (.agg #[.int .i64 0, .string ⟨#[]⟩, .string ⟨#[]⟩, .string ⟨#[]⟩]), 4, 56) := by kernel_rfl

/-- A row of dOps of one's own (or nil). -/
def OwnDOp (w : World) (B : Nat) (v : Value) (es : List DOp1) : Prop := w.ownsRow B 40 4 v es.length (cellsDOp es)

theorem OwnDOp.nil (w : World) (B : Nat) : OwnDOp w B (.slice none 0 0) [] := World.ownsRow_nil _ _ _ _
theorem OwnDOp.lit (w : World) (B : Nat) (hB : B ≤ w.heap.size) : OwnDOp (w.alloc (.cells #[] 40)) B (.slice (some ⟨w.heap.size, 0, none⟩) 0 0) [] :=
  ⟨by simp [cellsDOp], .inr ⟨w.heap.size, 0, #[], rfl, hB, heap_alloc_new w _, Nat.le_refl _, by decide, by simp, by simp [cellsDOp]⟩⟩
theorem OwnDOp.next {w w' : World} {B : Nat} {v : Value} {es : List DOp1} (h : OwnDOp w B v es) (hb : Below w.heap.size w w') : OwnDOp w' B v es := by
  refine ⟨h.1, ?_⟩
  rcases h.2 with hn | ⟨g, cap, cur, rfl, hg, hh, r⟩
  · exact .inl hn
  · exact .inr ⟨g, cap, cur, rfl, hg, (hb.block g (Array.getElem?_eq_some_iff.1 hh).1).trans hh, r⟩
theorem OwnDOp.base {w : World} {B B' : Nat} {v : Value} {es : List DOp1} (h : OwnDOp w B v es) (hB : B' ≤ B) : OwnDOp w B' v es := by
  refine ⟨h.1, ?_⟩
  rcases h.2 with hn | ⟨g, cap, cur, hv, hg, r⟩
  · exact .inl hn
  · exact .inr ⟨g, cap, cur, hv, Nat.le_trans hB hg, r⟩
theorem OwnDOp.setOther {w : World} {B : Nat} {v : Value} {es : List DOp1} (h : OwnDOp w B v es) {p : Addr} (hp : p.block < B) (x : Value) : OwnDOp (w.setCell p x) B v es := by
  refine ⟨h.1, ?_⟩
  rcases h.2 with hn | ⟨g, cap, cur, hv, hg, hh, r⟩
  · exact .inl hn
  · exact .inr ⟨g, cap, cur, hv, hg, by rw [Below.heap_setCell _ _ _ _ (by omega)]; exact hh, r⟩
theorem OwnDOp.hid {w : World} {B : Nat} {v : Value} {es : List DOp1} (h : OwnDOp w B v es) : Hid (OwnDOp w B v es) := h

/-- What it is as an argument. -/
theorem OwnDOp.arg {w : World} {B : Nat} {v : Value} {es : List DOp1} (h : OwnDOp w B v es) : ∃ a p, v = .slice a es.length p ∧ DOpAt w w.heap.size a es.length (fnDOp es) := by
  rcases h.2 with ⟨rfl, h0⟩ | ⟨g, cap, cur, rfl, hg, hh, hle, hcap, hsz, htake⟩
  · have : es = [] := by simpa using h0
    subst this
    exact ⟨none, 0, rfl, .inl rfl⟩
  · have hb : BoxIs w g cur 40 := hh
    have hc : ∀ j u, (cellsDOp es)[j]? = some u → w.cell? ⟨g, j, none⟩ = some u := fun j u hu => by
      rw [hb.cell j]
      have hj : j < es.length * 4 := by have := (List.getElem?_eq_some_iff.1 hu).1; rwa [cellsDOp_len] at this
      rw [← htake, List.getElem?_take, if_pos hj] at hu
      simpa using hu
    refine ⟨_, _, rfl, .inr ⟨g, 0, rfl, hb.lt, fun i hi => ?_⟩⟩
    obtain ⟨h0, h1, h2, h3⟩ := cellsDOp_get es i es[i] (by simp [hi])
    have hx := fnDOp_at es i hi
    simp only [dOpAt1] at hx
    rw [← hx] at h0 h1 h2 h3
    simp only [Nat.zero_add]
    exact ⟨hc _ _ h0, hc _ _ h1, hc _ _ h2, hc _ _ h3⟩

/-- .. and as an answer. -/
theorem OwnDOp.mine {w : World} {B : Nat} {v : Value} {es : List DOp1} (h : OwnDOp w B v es) : ∃ a p, v = .slice a es.length p ∧ Mine w B 40 4 a p es.length (dOpCell (fnDOp es)) := by
  obtain ⟨a, p, hv, hM⟩ := mine_of h
  refine ⟨a, p, hv, hM.congr fun j hj => ?_⟩
  have hi : j / 4 < es.length := by omega
  obtain ⟨h0, h1, h2, h3⟩ := cellsDOp_get es (j / 4) es[j / 4] (by simp [hi])
  have hx := fnDOp_at es (j / 4) hi
  simp only [dOpAt1] at hx
  rw [← hx] at h0 h1 h2 h3
  have hlt : j % 4 < 4 := Nat.mod_lt _ (by decide)
  have hj2 : j < (cellsDOp es).length := by rw [cellsDOp_len]; exact hj
  have hm : j = j / 4 * 4 + j % 4 := by omega
  have key : ∀ v, (cellsDOp es)[j]? = some v → (cellsDOp es).getD j (.bool false) = v := fun v hv => by rw [List.getD, hv]; rfl
  by_cases e0 : j % 4 = 0
  · skip
    rw [key _ (by rw [hm, e0]; exact h0)]
    unfold dOpCell
    rw [if_pos e0]
  by_cases e1 : j % 4 = 1
  · skip
    rw [key _ (by rw [hm, e1]; exact h1)]
    unfold dOpCell
    rw [if_neg (by omega), if_pos e1]
  by_cases e2 : j % 4 = 2
  · skip
    rw [key _ (by rw [hm, e2]; exact h2)]
    unfold dOpCell
    rw [if_neg (by omega), if_neg (by omega), if_pos e2]
  have e3 : j % 4 = 3 := by omega
  rw [key _ (by rw [hm, e3]; exact h3)]
  unfold dOpCell
  rw [if_neg (by omega), if_neg (by omega), if_neg (by omega)]

/-- 'append(v, u...)', u so many dOps that lie anywhere. -/
theorem wpList_append_dOp {w : World} {ops : Array Oper} {rest : List Oper} {o : Oper} {a : Act} {Q : Exit → Act → World → Prop} (hgd : o.guard = none) (s x : Operand) (t : TypeId)
    (ho : o.op = .call { callee := .builtin .append, args := #[s, x], argTypes := #[t, t] }) (ht : Try.prog.underlying t = some (.slice 40))
    (B : Nat) (v : Value) (es news : List DOp1) (hs : a.eval s = v) (hown : OwnDOp w B v es) (ad : Addr) (m c : Nat) (hx : a.eval x = .slice (some ad) m c) (hm : news.length = m)
    (hnews : ∀ j u, (cellsDOp news)[j]? = some u → w.cell? (ad.add j) = some u) (hB : B ≤ w.heap.size) (hlen : es.length + m ≤ 1000000)
    (h : ∀ v' w', OwnDOp w' B v' (es ++ news) → Below B w w' → wpList Try.prog ops Q rest (a.put o.dst v') w') : wpList Try.prog ops Q (o :: rest) a w := by
  obtain ⟨i0, hi', hz0, hs0, hb0⟩ := info_parts dOp_info
  refine wpList_append_own w hgd s x t ho B 40 i0 _ 4 56 ht hi' hz0 hs0 hb0 rfl (by decide) _ es.length (cellsDOp es) hs hown ad m c (cellsDOp news) hx (by rw [cellsDOp_len, hm]) hnews (cellsDOp_one news) (by unfold maxLen; omega) (by omega) hB ?_
  intro v' w' h1 h2 _
  refine h v' w' ?_ ((Below.refl B w).grown h2 hB fun k hk => (World.ownsRow.lt hown k hk).1)
  unfold OwnDOp
  rw [List.length_append, hm, cellsDOp_append]
  exact h1

/-- One that was just laid, as what is appended. -/
theorem dOp_news {w : World} {g : Nat} {t : TypeId} {e : DOp1} (h : BoxIs w g #[.int .i64 e.k, .string e.n, .string e.t, .string e.d] t) : ∀ j u, (cellsDOp [e])[j]? = some u → w.cell? ((⟨g, 0, none⟩ : Addr).add j) = some u := fun j u hu => by
  rw [Addr.add_lit]
  show w.cell? ⟨g, 0 + j, none⟩ = some u
  rw [Nat.zero_add, h.cell j]
  simpa [cellsDOp] using hu

/-- AT A STEP OF A REGION: the same. -/
theorem step_append_dOp {w : World} {ops : Array Oper} {o : Oper} {a : Act} {K : Act → World → Prop} {Q : Exit → Act → World → Prop} {C : Prop} (hgd : o.guard = none) (s x : Operand) (t : TypeId)
    (ho : o.op = .call { callee := .builtin .append, args := #[s, x], argTypes := #[t, t] }) (ht : Try.prog.underlying t = some (.slice 40))
    (B : Nat) (v : Value) (es news : List DOp1) (hs : a.eval s = v) (hown : OwnDOp w B v es) (ad : Addr) (m c : Nat) (hx : a.eval x = .slice (some ad) m c) (hm : news.length = m)
    (hnews : ∀ j u, (cellsDOp news)[j]? = some u → w.cell? (ad.add j) = some u) (hB : B ≤ w.heap.size) (hlen : es.length + m ≤ 1000000)
    (h : ∀ v' w', OwnDOp w' B v' (es ++ news) → w.grownBy w' v.ownBlock → K (a.put o.dst v') w') :
    if Region.wanted o (yielded ops a.tmps) = true then Oper.wp Try.prog o a w K Q else C := by
  have hw : Region.wanted o (yielded ops a.tmps) = true := by simp [Region.wanted, hgd]
  rw [if_pos hw]
  obtain ⟨i0, hi', hz0, hs0, hb0⟩ := info_parts dOp_info
  obtain ⟨v', w', hr, h2, h3, _⟩ := run_append_own (P := Try.prog) (w := w) B t o.type 40 i0 _ 4 56 ht hi' hz0 hs0 hb0 rfl (by decide) v es.length (cellsDOp es) hown ad m c (cellsDOp news) (by rw [cellsDOp_len, hm]) hnews (cellsDOp_one news) (by unfold maxLen; omega) (by omega) hB
  unfold Oper.wp execOp
  simp only [ho, resolve, invoke, builtin, Sem.run_bind, Sem.run_pure, Result.andThen_ok, List.map_toArray, List.map_cons, List.map_nil, hs, hx, hr]
  refine h v' w' ?_ h3
  unfold OwnDOp
  rw [List.length_append, hm, cellsDOp_append]
  exact h2

/-- Its shape. -/
theorem OwnDOp.shape {w : World} {B : Nat} {v : Value} {es : List DOp1} (h : OwnDOp w B v es) : ∃ a p, v = .slice a es.length p := by
  obtain ⟨a, p, hv, _⟩ := h.arg
  exact ⟨a, p, hv⟩
theorem OwnDOp.shapeN {w : World} {B : Nat} {v : Value} {es : List DOp1} (h : OwnDOp w B v es) : ∃ a n p, v = .slice a n p := by
  obtain ⟨a, p, hv, _⟩ := h.arg
  exact ⟨a, _, p, hv⟩
/-- A box of another kind is none of its blocks. -/
theorem OwnDOp.far {w : World} {B F : Nat} {v : Value} {es : List DOp1} {cs : Array Value} {t : TypeId} (h : OwnDOp w B v es) (hb : BoxIs w F cs t) (ht : t ≠ 40) : v.ownBlock ≠ some F := by
  rcases h.2 with ⟨rfl, _⟩ | ⟨g, cap, cur, rfl, hg, hh, _⟩
  · intro e; cases e
  · intro e
    have e' : g = F := by simpa [Value.ownBlock] using e
    subst e'
    have hb' : w.heap[g]? = some (.cells cs t) := hb
    rw [hb'] at hh
    simp only [Option.some.injEq, Obj.cells.injEq] at hh
    exact ht hh.2.1
/-- .. so it stays while the row grows, and the row while it is written. -/
theorem OwnDOp.grownBox {w w' : World} {B F : Nat} {v : Value} {es : List DOp1} {cs : Array Value} {t : TypeId} (h : OwnDOp w B v es) (hb : BoxIs w F cs t) (ht : t ≠ 40) (hg : w.grownBy w' v.ownBlock) : BoxIs w' F cs t :=
  (hg.block F hb.lt (fun e => h.far hb ht e.symm)).trans hb
theorem OwnDOp.setBox {w : World} {B F o : Nat} {v : Value} {es : List DOp1} {cs : Array Value} {t : TypeId} (h : OwnDOp w B v es) (hb : BoxIs w F cs t) (ht : t ≠ 40) (x : Value) : OwnDOp (w.setCell ⟨F, o, none⟩ x) B v es := by
  have hf := h.far hb ht
  refine ⟨h.1, ?_⟩
  rcases h.2 with hn | ⟨g, cap, cur, rfl, hg, hh, r⟩
  · exact .inl hn
  · exact .inr ⟨g, cap, cur, rfl, hg, by rw [Below.heap_setCell _ _ _ _ (by intro e; exact hf (by simp [Value.ownBlock, e]))]; exact hh, r⟩
theorem OwnDOp.grownBelow {w w' : World} {B : Nat} {v : Value} {es : List DOp1} (h : OwnDOp w B v es) (hB : B ≤ w.heap.size) (hg : w.grownBy w' v.ownBlock) : Below B w w' :=
  (Below.refl B w).grown hg hB fun k hk => (World.ownsRow.lt h k hk).1

end Go.Proofs.Ytejedpmkbkclhaa
