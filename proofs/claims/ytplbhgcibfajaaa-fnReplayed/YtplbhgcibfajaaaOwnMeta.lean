/- Rows of metas of one's own: appending some; what they are as an argument and as an answer. (By gen_own.py.) -/
import Derived.Test.YtplbhgcibfajaaaMetas
namespace Go.Proofs.Ytplbhgcibfajaaa
set_option maxRecDepth 100000
open Go.RowKit Go.Deep

structure Meta1 where
  n : Int
  l : Int
  f : ByteArray
  z : ByteArray
  c : Int

def cellsMeta : List Meta1 → List Value
  | [] => []
  | e :: es => .int .i64 e.n :: .int .i64 e.l :: .string e.f :: .string e.z :: .int .i64 e.c :: cellsMeta es

theorem cellsMeta_append : ∀ a b : List Meta1, cellsMeta (a ++ b) = cellsMeta a ++ cellsMeta b
  | [], _ => rfl
  | e :: es, b => by simp [cellsMeta, cellsMeta_append es b]
theorem cellsMeta_len : ∀ es : List Meta1, (cellsMeta es).length = es.length * 5
  | [] => rfl
  | e :: es => by simp [cellsMeta, cellsMeta_len es]; omega
theorem cellsMeta_one : ∀ (es : List Meta1) (v : Value), v ∈ cellsMeta es → v.oneCell' = true
  | [], _, h => by simp [cellsMeta] at h
  | e :: es, v, h => by
    simp only [cellsMeta, List.mem_cons] at h
    rcases h with rfl | rfl | rfl | rfl | rfl | h
    · rfl
    · rfl
    · rfl
    · rfl
    · rfl
    · exact cellsMeta_one es v h
theorem cellsMeta_get : ∀ (es : List Meta1) (i : Nat) (e : Meta1), es[i]? = some e → (cellsMeta es)[i * 5]? = some (.int .i64 e.n) ∧ (cellsMeta es)[i * 5 + 1]? = some (.int .i64 e.l) ∧ (cellsMeta es)[i * 5 + 2]? = some (.string e.f) ∧ (cellsMeta es)[i * 5 + 3]? = some (.string e.z) ∧ (cellsMeta es)[i * 5 + 4]? = some (.int .i64 e.c)
  | [], _, _, h => by simp at h
  | a :: es, 0, e, h => by
    obtain rfl : a = e := by simpa using h
    exact ⟨rfl, rfl, rfl, rfl, rfl⟩
  | a :: es, i + 1, e, h => by
    have := cellsMeta_get es i e (by simpa using h)
    have h0 : (i + 1) * 5 = i * 5 + 5 := by omega
    rw [h0]
    exact this
theorem cellsMeta_take {es : List Meta1} {k i : Nat} {v : Value} (h : (cellsMeta (es.take k))[i]? = some v) : (cellsMeta es)[i]? = some v := by
  have he : cellsMeta es = cellsMeta (es.take k) ++ cellsMeta (es.drop k) := by rw [← cellsMeta_append, List.take_append_drop]
  rw [he, List.getElem?_append_left (List.getElem?_eq_some_iff.1 h).1]; exact h
theorem cellsMeta_drop {es : List Meta1} {k i : Nat} {v : Value} (hk : k ≤ es.length) (h : (cellsMeta (es.drop k))[i]? = some v) : (cellsMeta es)[k * 5 + i]? = some v := by
  have he : cellsMeta es = cellsMeta (es.take k) ++ cellsMeta (es.drop k) := by rw [← cellsMeta_append, List.take_append_drop]
  have hl : (cellsMeta (es.take k)).length = k * 5 := by rw [cellsMeta_len, List.length_take, Nat.min_eq_left hk]
  rw [he, List.getElem?_append_right (by omega), hl, Nat.add_sub_cancel_left]; exact h

/-- Element i of a row, by itself; the row's first k. -/
def metaAt1 (O : Metas) (i : Nat) : Meta1 := ⟨O.N i, O.L i, O.F i, O.Z i, O.C i⟩
def metasL (O : Metas) (k : Nat) : List Meta1 := (List.range k).map (metaAt1 O)
theorem metasL_len (O : Metas) (k : Nat) : (metasL O k).length = k := by simp [metasL]
theorem metasL_succ (O : Metas) (k : Nat) : metasL O (k + 1) = metasL O k ++ [metaAt1 O k] := by simp [metasL, List.range_succ]
/-- A list's elements by their places. -/
def fnMeta (es : List Meta1) : Metas := ⟨fun i => (es.getD i ⟨0, 0, ⟨#[]⟩, ⟨#[]⟩, 0⟩).n, fun i => (es.getD i ⟨0, 0, ⟨#[]⟩, ⟨#[]⟩, 0⟩).l, fun i => (es.getD i ⟨0, 0, ⟨#[]⟩, ⟨#[]⟩, 0⟩).f, fun i => (es.getD i ⟨0, 0, ⟨#[]⟩, ⟨#[]⟩, 0⟩).z, fun i => (es.getD i ⟨0, 0, ⟨#[]⟩, ⟨#[]⟩, 0⟩).c⟩
theorem fnMeta_at (es : List Meta1) (i : Nat) (hi : i < es.length) : metaAt1 (fnMeta es) i = es[i] := by
  unfold metaAt1 fnMeta
  simp [List.getD, hi]
theorem fnMeta_list (es : List Meta1) : metasL (fnMeta es) es.length = es := by
  apply List.ext_getElem
  · simp [metasL]
  · intro i h1 h2
    simp only [metasL, List.getElem_map, List.getElem_range]
    exact fnMeta_at es i h2

theorem meta_info : (Try.prog.info? 59).map (fun i => (i.zero, i.size, i.bytes)) = some (some (.agg #[.int .i64 0, .int .i64 0, .string ⟨#[]⟩, .string ⟨#[]⟩, .int .i64 0]), 5, 56) := by kernel_rfl

/-- A row of metas of one's own (or nil). -/
def OwnMeta (w : World) (B : Nat) (v : Value) (es : List Meta1) : Prop := w.ownsRow B 59 5 v es.length (cellsMeta es)

theorem OwnMeta.nil (w : World) (B : Nat) : OwnMeta w B (.slice none 0 0) [] := World.ownsRow_nil _ _ _ _
theorem OwnMeta.lit (w : World) (B : Nat) (hB : B ≤ w.heap.size) : OwnMeta (w.alloc (.cells #[] 59)) B (.slice (some ⟨w.heap.size, 0, none⟩) 0 0) [] :=
  ⟨by simp [cellsMeta], .inr ⟨w.heap.size, 0, #[], rfl, hB, heap_alloc_new w _, Nat.le_refl _, by decide, by simp, by simp [cellsMeta]⟩⟩
theorem OwnMeta.next {w w' : World} {B : Nat} {v : Value} {es : List Meta1} (h : OwnMeta w B v es) (hb : Below w.heap.size w w') : OwnMeta w' B v es := by
  refine ⟨h.1, ?_⟩
  rcases h.2 with hn | ⟨g, cap, cur, rfl, hg, hh, r⟩
  · exact .inl hn
  · exact .inr ⟨g, cap, cur, rfl, hg, (hb.block g (Array.getElem?_eq_some_iff.1 hh).1).trans hh, r⟩
theorem OwnMeta.base {w : World} {B B' : Nat} {v : Value} {es : List Meta1} (h : OwnMeta w B v es) (hB : B' ≤ B) : OwnMeta w B' v es := by
  refine ⟨h.1, ?_⟩
  rcases h.2 with hn | ⟨g, cap, cur, hv, hg, r⟩
  · exact .inl hn
  · exact .inr ⟨g, cap, cur, hv, Nat.le_trans hB hg, r⟩
theorem OwnMeta.setOther {w : World} {B : Nat} {v : Value} {es : List Meta1} (h : OwnMeta w B v es) {p : Addr} (hp : p.block < B) (x : Value) : OwnMeta (w.setCell p x) B v es := by
  refine ⟨h.1, ?_⟩
  rcases h.2 with hn | ⟨g, cap, cur, hv, hg, hh, r⟩
  · exact .inl hn
  · exact .inr ⟨g, cap, cur, hv, hg, by rw [Below.heap_setCell _ _ _ _ (by omega)]; exact hh, r⟩
theorem OwnMeta.hid {w : World} {B : Nat} {v : Value} {es : List Meta1} (h : OwnMeta w B v es) : Hid (OwnMeta w B v es) := h

/-- What it is as an argument. -/
theorem OwnMeta.arg {w : World} {B : Nat} {v : Value} {es : List Meta1} (h : OwnMeta w B v es) : ∃ a p, v = .slice a es.length p ∧ MetaAt w w.heap.size a es.length (fnMeta es) := by
  rcases h.2 with ⟨rfl, h0⟩ | ⟨g, cap, cur, rfl, hg, hh, hle, hcap, hsz, htake⟩
  · have : es = [] := by simpa using h0
    subst this
    exact ⟨none, 0, rfl, .inl rfl⟩
  · have hb : BoxIs w g cur 59 := hh
    have hc : ∀ j u, (cellsMeta es)[j]? = some u → w.cell? ⟨g, j, none⟩ = some u := fun j u hu => by
      rw [hb.cell j]
      have hj : j < es.length * 5 := by have := (List.getElem?_eq_some_iff.1 hu).1; rwa [cellsMeta_len] at this
      rw [← htake, List.getElem?_take, if_pos hj] at hu
      simpa using hu
    refine ⟨_, _, rfl, .inr ⟨g, 0, rfl, hb.lt, fun i hi => ?_⟩⟩
    obtain ⟨h0, h1, h2, h3, h4⟩ := cellsMeta_get es i es[i] (by simp [hi])
    have hx := fnMeta_at es i hi
    simp only [metaAt1] at hx
    rw [← hx] at h0 h1 h2 h3 h4
    simp only [Nat.zero_add]
    exact ⟨hc _ _ h0, hc _ _ h1, hc _ _ h2, hc _ _ h3, hc _ _ h4⟩

/-- .. and as an answer. -/
theorem OwnMeta.mine {w : World} {B : Nat} {v : Value} {es : List Meta1} (h : OwnMeta w B v es) : ∃ a p, v = .slice a es.length p ∧ Mine w B 59 5 a p es.length (metaCell (fnMeta es)) := by
  obtain ⟨a, p, hv, hM⟩ := mine_of h
  refine ⟨a, p, hv, hM.congr fun j hj => ?_⟩
  have hi : j / 5 < es.length := by omega
  obtain ⟨h0, h1, h2, h3, h4⟩ := cellsMeta_get es (j / 5) es[j / 5] (by simp [hi])
  have hx := fnMeta_at es (j / 5) hi
  simp only [metaAt1] at hx
  rw [← hx] at h0 h1 h2 h3 h4
  have hlt : j % 5 < 5 := Nat.mod_lt _ (by decide)
  have hj2 : j < (cellsMeta es).length := by rw [cellsMeta_len]; exact hj
  have hm : j = j / 5 * 5 + j % 5 := by omega
  have key : ∀ v, (cellsMeta es)[j]? = some v → (cellsMeta es).getD j (.bool false) = v := fun v hv => by rw [List.getD, hv]; rfl
  by_cases e0 : j % 5 = 0
  · skip
    rw [key _ (by rw [hm, e0]; exact h0)]
    unfold metaCell
    rw [if_pos e0]
  by_cases e1 : j % 5 = 1
  · skip
    rw [key _ (by rw [hm, e1]; exact h1)]
    unfold metaCell
    rw [if_neg (by omega), if_pos e1]
  by_cases e2 : j % 5 = 2
  · skip
    rw [key _ (by rw [hm, e2]; exact h2)]
    unfold metaCell
    rw [if_neg (by omega), if_neg (by omega), if_pos e2]
  by_cases e3 : j % 5 = 3
  · skip
    rw [key _ (by rw [hm, e3]; exact h3)]
    unfold metaCell
    rw [if_neg (by omega), if_neg (by omega), if_neg (by omega), if_pos e3]
  have e4 : j % 5 = 4 := by omega
  rw [key _ (by rw [hm, e4]; exact h4)]
  unfold metaCell
  rw [if_neg (by omega), if_neg (by omega), if_neg (by omega), if_neg (by omega)]

/-- 'append(v, u...)', u so many metas that lie anywhere. -/
theorem wpList_append_meta {w : World} {ops : Array Oper} {rest : List Oper} {o : Oper} {a : Act} {Q : Exit → Act → World → Prop} (hgd : o.guard = none) (s x : Operand) (t : TypeId)
    (ho : o.op = .call { callee := .builtin .append, args := #[s, x], argTypes := #[t, t] }) (ht : Try.prog.underlying t = some (.slice 59))
    (B : Nat) (v : Value) (es news : List Meta1) (hs : a.eval s = v) (hown : OwnMeta w B v es) (ad : Addr) (m c : Nat) (hx : a.eval x = .slice (some ad) m c) (hm : news.length = m)
    (hnews : ∀ j u, (cellsMeta news)[j]? = some u → w.cell? (ad.add j) = some u) (hB : B ≤ w.heap.size) (hlen : es.length + m ≤ 1000000)
    (h : ∀ v' w', OwnMeta w' B v' (es ++ news) → Below B w w' → wpList Try.prog ops Q rest (a.put o.dst v') w') : wpList Try.prog ops Q (o :: rest) a w := by
  obtain ⟨i0, hi', hz0, hs0, hb0⟩ := info_parts meta_info
  refine wpList_append_own w hgd s x t ho B 59 i0 _ 5 56 ht hi' hz0 hs0 hb0 rfl (by decide) _ es.length (cellsMeta es) hs hown ad m c (cellsMeta news) hx (by rw [cellsMeta_len, hm]) hnews (cellsMeta_one news) (by unfold maxLen; omega) (by omega) hB ?_
  intro v' w' h1 h2 _
  refine h v' w' ?_ ((Below.refl B w).grown h2 hB fun k hk => (World.ownsRow.lt hown k hk).1)
  unfold OwnMeta
  rw [List.length_append, hm, cellsMeta_append]
  exact h1

/-- One that was just laid, as what is appended. -/
theorem meta_news {w : World} {g : Nat} {t : TypeId} {e : Meta1} (h : BoxIs w g #[.int .i64 e.n, .int .i64 e.l, .string e.f, .string e.z, .int .i64 e.c] t) : ∀ j u, (cellsMeta [e])[j]? = some u → w.cell? ((⟨g, 0, none⟩ : Addr).add j) = some u := fun j u hu => by
  rw [Addr.add_lit]
  show w.cell? ⟨g, 0 + j, none⟩ = some u
  rw [Nat.zero_add, h.cell j]
  simpa [cellsMeta] using hu

/-- AT A STEP OF A REGION: the same. -/
theorem step_append_meta {w : World} {ops : Array Oper} {o : Oper} {a : Act} {K : Act → World → Prop} {Q : Exit → Act → World → Prop} {C : Prop} (hgd : o.guard = none) (s x : Operand) (t : TypeId)
    (ho : o.op = .call { callee := .builtin .append, args := #[s, x], argTypes := #[t, t] }) (ht : Try.prog.underlying t = some (.slice 59))
    (B : Nat) (v : Value) (es news : List Meta1) (hs : a.eval s = v) (hown : OwnMeta w B v es) (ad : Addr) (m c : Nat) (hx : a.eval x = .slice (some ad) m c) (hm : news.length = m)
    (hnews : ∀ j u, (cellsMeta news)[j]? = some u → w.cell? (ad.add j) = some u) (hB : B ≤ w.heap.size) (hlen : es.length + m ≤ 1000000)
    (h : ∀ v' w', OwnMeta w' B v' (es ++ news) → w.grownBy w' v.ownBlock → K (a.put o.dst v') w') :
    if Region.wanted o (yielded ops a.tmps) = true then Oper.wp Try.prog o a w K Q else C := by
  have hw : Region.wanted o (yielded ops a.tmps) = true := by simp [Region.wanted, hgd]
  rw [if_pos hw]
  obtain ⟨i0, hi', hz0, hs0, hb0⟩ := info_parts meta_info
  obtain ⟨v', w', hr, h2, h3, _⟩ := run_append_own (P := Try.prog) (w := w) B t o.type 59 i0 _ 5 56 ht hi' hz0 hs0 hb0 rfl (by decide) v es.length (cellsMeta es) hown ad m c (cellsMeta news) (by rw [cellsMeta_len, hm]) hnews (cellsMeta_one news) (by unfold maxLen; omega) (by omega) hB
  unfold Oper.wp execOp
  simp only [ho, resolve, invoke, builtin, Sem.run_bind, Sem.run_pure, Result.andThen_ok, List.map_toArray, List.map_cons, List.map_nil, hs, hx, hr]
  refine h v' w' ?_ h3
  unfold OwnMeta
  rw [List.length_append, hm, cellsMeta_append]
  exact h2

/-- Its shape. -/
theorem OwnMeta.shape {w : World} {B : Nat} {v : Value} {es : List Meta1} (h : OwnMeta w B v es) : ∃ a p, v = .slice a es.length p := by
  obtain ⟨a, p, hv, _⟩ := h.arg
  exact ⟨a, p, hv⟩
theorem OwnMeta.shapeN {w : World} {B : Nat} {v : Value} {es : List Meta1} (h : OwnMeta w B v es) : ∃ a n p, v = .slice a n p := by
  obtain ⟨a, p, hv, _⟩ := h.arg
  exact ⟨a, _, p, hv⟩
/-- A box of another kind is none of its blocks. -/
theorem OwnMeta.far {w : World} {B F : Nat} {v : Value} {es : List Meta1} {cs : Array Value} {t : TypeId} (h : OwnMeta w B v es) (hb : BoxIs w F cs t) (ht : t ≠ 59) : v.ownBlock ≠ some F := by
  rcases h.2 with ⟨rfl, _⟩ | ⟨g, cap, cur, rfl, hg, hh, _⟩
  · intro e; cases e
  · intro e
    have e' : g = F := by simpa [Value.ownBlock] using e
    subst e'
    have hb' : w.heap[g]? = some (.cells cs t) := hb
    rw [hb'] at hh
    simp only [Option.some.injEq, Obj.cells.injEq] at hh
    exact ht hh.2.1
/-- .. so it stays while the row grows, and the row while it is written. -/
theorem OwnMeta.grownBox {w w' : World} {B F : Nat} {v : Value} {es : List Meta1} {cs : Array Value} {t : TypeId} (h : OwnMeta w B v es) (hb : BoxIs w F cs t) (ht : t ≠ 59) (hg : w.grownBy w' v.ownBlock) : BoxIs w' F cs t :=
  (hg.block F hb.lt (fun e => h.far hb ht e.symm)).trans hb
theorem OwnMeta.setBox {w : World} {B F o : Nat} {v : Value} {es : List Meta1} {cs : Array Value} {t : TypeId} (h : OwnMeta w B v es) (hb : BoxIs w F cs t) (ht : t ≠ 59) (x : Value) : OwnMeta (w.setCell ⟨F, o, none⟩ x) B v es := by
  have hf := h.far hb ht
  refine ⟨h.1, ?_⟩
  rcases h.2 with hn | ⟨g, cap, cur, rfl, hg, hh, r⟩
  · exact .inl hn
  · exact .inr ⟨g, cap, cur, rfl, hg, by rw [Below.heap_setCell _ _ _ _ (by intro e; exact hf (by simp [Value.ownBlock, e]))]; exact hh, r⟩
theorem OwnMeta.grownBelow {w w' : World} {B : Nat} {v : Value} {es : List Meta1} (h : OwnMeta w B v es) (hB : B ≤ w.heap.size) (hg : w.grownBy w' v.ownBlock) : Below B w w' :=
  (Below.refl B w).grown hg hB fun k hk => (World.ownsRow.lt h k hk).1

end Go.Proofs.Ytplbhgcibfajaaa
