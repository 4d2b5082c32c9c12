/- Rows of entrys of one's own: appending some; what they are as an argument and as an answer. (By gen_own.py.) -/
import Derived.Test.YtjcoejabpagaiaaEnts
import Derived.Test.YtjcoejabpagaiaaMine
namespace Go.Proofs.Ytjcoejabpagaiaa
set_option maxRecDepth 100000
open Go.RowKit Go.Deep

structure Entry1 where
  u : ByteArray
  q : Int
  k : Int
  x : ByteArray

def cellsEntry : List Entry1 → List Value
  | [] => []
  | e :: es => .string e.u :: .int .i64 e.q :: .int .i64 e.k :: .string e.x :: cellsEntry es

theorem cellsEntry_append : ∀ a b : List Entry1, cellsEntry (a ++ b) = cellsEntry a ++ cellsEntry b
  | [], _ => rfl
  | e :: es, b => by simp [cellsEntry, cellsEntry_append es b]
theorem cellsEntry_len : ∀ es : List Entry1, (cellsEntry es).length = es.length * 4
  | [] => rfl
  | e :: es => by simp [cellsEntry, cellsEntry_len es]; omega
theorem cellsEntry_one : ∀ (es : List Entry1) (v : Value), v ∈ cellsEntry es → v.oneCell' = true
  | [], _, h => by simp [cellsEntry] at h
  | e :: es, v, h => by
    simp only [cellsEntry, List.mem_cons] at h
    rcases h with rfl | rfl | rfl | rfl | h
    · rfl
    · rfl
    · rfl
    · rfl
    · exact cellsEntry_one es v h
theorem cellsEntry_get : ∀ (es : List Entry1) (i : Nat) (e : Entry1), es[i]? = some e → (cellsEntry es)[i * 4]? = some (.string e.u) ∧ (cellsEntry es)[i * 4 + 1]? = some (.int .i64 e.q) ∧ (cellsEntry es)[i * 4 + 2]? = some (.int .i64 e.k) ∧ (cellsEntry es)[i * 4 + 3]? = some (.string e.x)
  | [], _, _, h => by simp at h
  | a :: es, 0, e, h => by
    obtain rfl : a = e := by simpa using h
    exact ⟨rfl, rfl, rfl, rfl⟩
  | a :: es, i + 1, e, h => by
    have := cellsEntry_get es i e (by simpa using h)
    have h0 : (i + 1) * 4 = i * 4 + 4 := by omega
    rw [h0]
    exact this
theorem cellsEntry_take {es : List Entry1} {k i : Nat} {v : Value} (h : (cellsEntry (es.take k))[i]? = some v) : (cellsEntry es)[i]? = some v := by
  have he : cellsEntry es = cellsEntry (es.take k) ++ cellsEntry (es.drop k) := by rw [← cellsEntry_append, List.take_append_drop]
  rw [he, List.getElem?_append_left (List.getElem?_eq_some_iff.1 h).1]; exact h
theorem cellsEntry_drop {es : List Entry1} {k i : Nat} {v : Value} (hk : k ≤ es.length) (h : (cellsEntry (es.drop k))[i]? = some v) : (cellsEntry es)[k * 4 + i]? = some v := by
  have he : cellsEntry es = cellsEntry (es.take k) ++ cellsEntry (es.drop k) := by rw [← cellsEntry_append, List.take_append_drop]
  have hl : (cellsEntry (es.take k)).length = k * 4 := by rw [cellsEntry_len, List.length_take, Nat.min_eq_left hk]
  rw [he, List.getElem?_append_right (by omega), hl, Nat.add_sub_cancel_left]; exact h

/-- Element i of a row, by itself; the row's first k. -/
def entryAt1 (O : Ents) (i : Nat) : Entry1 := ⟨O.U i, O.Q i, O.K i, O.X i⟩
def entrysL (O : Ents) (k : Nat) : List Entry1 := (List.range k).map (entryAt1 O)
theorem entrysL_len (O : Ents) (k : Nat) : (entrysL O k).length = k := by simp [entrysL]
theorem entrysL_succ (O : Ents) (k : Nat) : entrysL O (k + 1) = entrysL O k ++ [entryAt1 O k] := by simp [entrysL, List.range_succ]
/-- A list's elements by their places. -/
def fnEntry (es : List Entry1) : Ents := ⟨fun i => (es.getD i ⟨⟨#[]⟩, 0, 0, ⟨#[]⟩⟩).u, fun i => (es.getD i ⟨⟨#[]⟩, 0, 0, ⟨#[]⟩⟩).q, fun i => (es.getD i ⟨⟨#[]⟩, 0, 0, ⟨#[]⟩⟩).k, fun i => (es.getD i ⟨⟨#[]⟩, 0, 0, ⟨#[]⟩⟩).x⟩
theorem fnEntry_at (es : List Entry1) (i : Nat) (hi : i < es.length) : entryAt1 (fnEntry es) i = es[i] := by
  unfold entryAt1 fnEntry
  simp [List.getD, hi]
theorem fnEntry_list (es : List Entry1) : entrysL (fnEntry es) es.length = es := by
  apply List.ext_getElem
  · simp [entrysL]
  · intro i h1 h2
    simp only [entrysL, List.getElem_map, List.getElem_range]
    exact fnEntry_at es i h2

theorem entry_inf1 : (Try.prog.info? 43).map (fun i => (i.zero, i.size, i.bytes)) = some (some (.agg #[.string ⟨#[]⟩, .int .i64 0, .int .i64 0, .string ⟨#[]⟩]), 4, 48) := by kernel_rfl

/-- A row of entrys of one's own (or nil). -/
def OwnEntry (w : World) (B : Nat) (v : Value) (es : List Entry1) : Prop := w.ownsRow B 43 4 v es.length (cellsEntry es)

theorem OwnEntry.nil (w : World) (B : Nat) : OwnEntry w B (.slice none 0 0) [] := World.ownsRow_nil _ _ _ _
theorem OwnEntry.lit (w : World) (B : Nat) (hB : B ≤ w.heap.size) : OwnEntry (w.alloc (.cells #[] 43)) B (.slice (some ⟨w.heap.size, 0, none⟩) 0 0) [] :=
  ⟨by simp [cellsEntry], .inr ⟨w.heap.size, 0, #[], rfl, hB, heap_alloc_new w _, Nat.le_refl _, by decide, by simp, by simp [cellsEntry]⟩⟩
theorem OwnEntry.next {w w' : World} {B : Nat} {v : Value} {es : List Entry1} (h : OwnEntry w B v es) (hb : Below w.heap.size w w') : OwnEntry w' B v es := by
  refine ⟨h.1, ?_⟩
  rcases h.2 with hn | ⟨g, cap, cur, rfl, hg, hh, r⟩
  · exact .inl hn
  · exact .inr ⟨g, cap, cur, rfl, hg, (hb.block g (Array.getElem?_eq_some_iff.1 hh).1).trans hh, r⟩
theorem OwnEntry.base {w : World} {B B' : Nat} {v : Value} {es : List Entry1} (h : OwnEntry w B v es) (hB : B' ≤ B) : OwnEntry w B' v es := by
  refine ⟨h.1, ?_⟩
  rcases h.2 with hn | ⟨g, cap, cur, hv, hg, r⟩
  · exact .inl hn
  · exact .inr ⟨g, cap, cur, hv, Nat.le_trans hB hg, r⟩
theorem OwnEntry.setOther {w : World} {B : Nat} {v : Value} {es : List Entry1} (h : OwnEntry w B v es) {p : Addr} (hp : p.block < B) (x : Value) : OwnEntry (w.setCell p x) B v es := by
  refine ⟨h.1, ?_⟩
  rcases h.2 with hn | ⟨g, cap, cur, hv, hg, hh, r⟩
  · exact .inl hn
  · exact .inr ⟨g, cap, cur, hv, hg, by rw [Below.heap_setCell _ _ _ _ (by omega)]; exact hh, r⟩
theorem OwnEntry.hid {w : World} {B : Nat} {v : Value} {es : List Entry1} (h : OwnEntry w B v es) : Hid (OwnEntry w B v es) := h

/-- What it is as an argument. -/
theorem OwnEntry.arg {w : World} {B : Nat} {v : Value} {es : List Entry1} (h : OwnEntry w B v es) : ∃ a p, v = .slice a es.length p ∧ EntAt w w.heap.size a es.length (fnEntry es) := by
  rcases h.2 with ⟨rfl, h0⟩ | ⟨g, cap, cur, rfl, hg, hh, hle, hcap, hsz, htake⟩
  · have : es = [] := by simpa using h0
    subst this
    exact ⟨none, 0, rfl, .inl rfl⟩
  · have hb : BoxIs w g cur 43 := hh
    have hc : ∀ j u, (cellsEntry es)[j]? = some u → w.cell? ⟨g, j, none⟩ = some u := fun j u hu => by
      rw [hb.cell j]
      have hj : j < es.length * 4 := by have := (List.getElem?_eq_some_iff.1 hu).1; rwa [cellsEntry_len] at this
      rw [← htake, List.getElem?_take, if_pos hj] at hu
      simpa using hu
    refine ⟨_, _, rfl, .inr ⟨g, 0, rfl, hb.lt, fun i hi => ?_⟩⟩
    obtain ⟨h0, h1, h2, h3⟩ := cellsEntry_get es i es[i] (by simp [hi])
    have hx := fnEntry_at es i hi
    simp only [entryAt1] at hx
    rw [← hx] at h0 h1 h2 h3
    simp only [Nat.zero_add]
    exact ⟨hc _ _ h0, hc _ _ h1, hc _ _ h2, hc _ _ h3⟩

/-- .. and as an answer. -/
theorem OwnEntry.mine {w : World} {B : Nat} {v : Value} {es : List Entry1} (h : OwnEntry w B v es) : ∃ a p, v = .slice a es.length p ∧ Mine w B 43 4 a p es.length (entCell (fnEntry es)) := by
  obtain ⟨a, p, hv, hM⟩ := mine_of h
  refine ⟨a, p, hv, hM.congr fun j hj => ?_⟩
  have hi : j / 4 < es.length := by omega
  obtain ⟨h0, h1, h2, h3⟩ := cellsEntry_get es (j / 4) es[j / 4] (by simp [hi])
  have hx := fnEntry_at es (j / 4) hi
  simp only [entryAt1] at hx
  rw [← hx] at h0 h1 h2 h3
  have hlt : j % 4 < 4 := Nat.mod_lt _ (by decide)
  have hj2 : j < (cellsEntry es).length := by rw [cellsEntry_len]; exact hj
  have hm : j = j / 4 * 4 + j % 4 := by omega
  have key : ∀ v, (cellsEntry es)[j]? = some v → (cellsEntry es).getD j (.bool false) = v := fun v hv => by rw [List.getD, hv]; rfl
  by_cases e0 : j % 4 = 0
  · skip
    rw [key _ (by rw [hm, e0]; exact h0)]
    unfold entCell
    rw [if_pos e0]
  by_cases e1 : j % 4 = 1
  · skip
    rw [key _ (by rw [hm, e1]; exact h1)]
    unfold entCell
    rw [if_neg (by omega), if_pos e1]
  by_cases e2 : j % 4 = 2
  · skip
    rw [key _ (by rw [hm, e2]; exact h2)]
    unfold entCell
    rw [if_neg (by omega), if_neg (by omega), if_pos e2]
  have e3 : j % 4 = 3 := by omega
  rw [key _ (by rw [hm, e3]; exact h3)]
  unfold entCell
  rw [if_neg (by omega), if_neg (by omega), if_neg (by omega)]

/-- 'append(v, u...)', u so many entrys that lie anywhere. -/
theorem wpList_append_entry {w : World} {ops : Array Oper} {rest : List Oper} {o : Oper} {a : Act} {Q : Exit → Act → World → Prop} (hgd : o.guard = none) (s x : Operand) (t : TypeId)
    (ho : o.op = .call { callee := .builtin .append, args := #[s, x], argTypes := #[t, t] }) (ht : Try.prog.underlying t = some (.slice 43))
    (B : Nat) (v : Value) (es news : List Entry1) (hs : a.eval s = v) (hown : OwnEntry w B v es) (ad : Addr) (m c : Nat) (hx : a.eval x = .slice (some ad) m c) (hm : news.length = m)
    (hnews : ∀ j u, (cellsEntry news)[j]? = some u → w.cell? (ad.add j) = some u) (hB : B ≤ w.heap.size) (hlen : es.length + m ≤ 1000000)
    (h : ∀ v' w', OwnEntry w' B v' (es ++ news) → Below B w w' → wpList Try.prog ops Q rest (a.put o.dst v') w') : wpList Try.prog ops Q (o :: rest) a w := by
  obtain ⟨i0, hi', hz0, hs0, hb0⟩ := info_parts entry_inf1
  refine wpList_append_own w hgd s x t ho B 43 i0 _ 4 48 ht hi' hz0 hs0 hb0 rfl (by decide) _ es.length (cellsEntry es) hs hown ad m c (cellsEntry news) hx (by rw [cellsEntry_len, hm]) hnews (cellsEntry_one news) (by unfold maxLen; omega) (by omega) hB ?_
  intro v' w' h1 h2 _
  refine h v' w' ?_ ((Below.refl B w).grown h2 hB fun k hk => (World.ownsRow.lt hown k hk).1)
  unfold OwnEntry
  rw [List.length_append, hm, cellsEntry_append]
  exact h1

/-- One that was just laid, as what is appended. -/
theorem entry_news {w : World} {g : Nat} {t : TypeId} {e : Entry1} (h : BoxIs w g #[.string e.u, .int .i64 e.q, .int .i64 e.k, .string e.x] t) : ∀ j u, (cellsEntry [e])[j]? = some u → w.cell? ((⟨g, 0, none⟩ : Addr).add j) = some u := fun j u hu => by
  rw [Addr.add_lit]
  show w.cell? ⟨g, 0 + j, none⟩ = some u
  rw [Nat.zero_add, h.cell j]
  simpa [cellsEntry] using hu

/-- AT A STEP OF A REGION: the same. -/
theorem step_append_entry {w : World} {ops : Array Oper} {o : Oper} {a : Act} {K : Act → World → Prop} {Q : Exit → Act → World → Prop} {C : Prop} (hgd : o.guard = none) (s x : Operand) (t : TypeId)
    (ho : o.op = .call { callee := .builtin .append, args := #[s, x], argTypes := #[t, t] }) (ht : Try.prog.underlying t = some (.slice 43))
    (B : Nat) (v : Value) (es news : List Entry1) (hs : a.eval s = v) (hown : OwnEntry w B v es) (ad : Addr) (m c : Nat) (hx : a.eval x = .slice (some ad) m c) (hm : news.length = m)
    (hnews : ∀ j u, (cellsEntry news)[j]? = some u → w.cell? (ad.add j) = some u) (hB : B ≤ w.heap.size) (hlen : es.length + m ≤ 1000000)
    (h : ∀ v' w', OwnEntry w' B v' (es ++ news) → w.grownBy w' v.ownBlock → K (a.put o.dst v') w') :
    if Region.wanted o (yielded ops a.tmps) = true then Oper.wp Try.prog o a w K Q else C := by
  have hw : Region.wanted o (yielded ops a.tmps) = true := by simp [Region.wanted, hgd]
  rw [if_pos hw]
  obtain ⟨i0, hi', hz0, hs0, hb0⟩ := info_parts entry_inf1
  obtain ⟨v', w', hr, h2, h3, _⟩ := run_append_own (P := Try.prog) (w := w) B t o.type 43 i0 _ 4 48 ht hi' hz0 hs0 hb0 rfl (by decide) v es.length (cellsEntry es) hown ad m c (cellsEntry news) (by rw [cellsEntry_len, hm]) hnews (cellsEntry_one news) (by unfold maxLen; omega) (by omega) hB
  unfold Oper.wp execOp
  simp only [ho, resolve, invoke, builtin, Sem.run_bind, Sem.run_pure, Result.andThen_ok, List.map_toArray, List.map_cons, List.map_nil, hs, hx, hr]
  refine h v' w' ?_ h3
  unfold OwnEntry
  rw [List.length_append, hm, cellsEntry_append]
  exact h2

/-- Its shape. -/
theorem OwnEntry.shape {w : World} {B : Nat} {v : Value} {es : List Entry1} (h : OwnEntry w B v es) : ∃ a p, v = .slice a es.length p := by
  obtain ⟨a, p, hv, _⟩ := h.arg
  exact ⟨a, p, hv⟩
theorem OwnEntry.shapeN {w : World} {B : Nat} {v : Value} {es : List Entry1} (h : OwnEntry w B v es) : ∃ a n p, v = .slice a n p := by
  obtain ⟨a, p, hv, _⟩ := h.arg
  exact ⟨a, _, p, hv⟩
/-- A box of another kind is none of its blocks. -/
theorem OwnEntry.far {w : World} {B F : Nat} {v : Value} {es : List Entry1} {cs : Array Value} {t : TypeId} (h : OwnEntry w B v es) (hb : BoxIs w F cs t) (ht : t ≠ 43) : v.ownBlock ≠ some F := by
  rcases h.2 with ⟨rfl, _⟩ | ⟨g, cap, cur, rfl, hg, hh, _⟩
  · intro e; cases e
  · intro e
    have e' : g = F := by simpa [Value.ownBlock] using e
    subst e'
    have hb' : w.heap[g]? = some (.cells cs t) := hb
    rw [hb'] at hh
    simp only [Option.some.injEq, Obj.cells.injEq] at hh
    exact ht hh.2.1
/-- .. so it stays while the row grows, and the row while it is written. -/
theorem OwnEntry.grownBox {w w' : World} {B F : Nat} {v : Value} {es : List Entry1} {cs : Array Value} {t : TypeId} (h : OwnEntry w B v es) (hb : BoxIs w F cs t) (ht : t ≠ 43) (hg : w.grownBy w' v.ownBlock) : BoxIs w' F cs t :=
  (hg.block F hb.lt (fun e => h.far hb ht e.symm)).trans hb
theorem OwnEntry.setBox {w : World} {B F o : Nat} {v : Value} {es : List Entry1} {cs : Array Value} {t : TypeId} (h : OwnEntry w B v es) (hb : BoxIs w F cs t) (ht : t ≠ 43) (x : Value) : OwnEntry (w.setCell ⟨F, o, none⟩ x) B v es := by
  have hf := h.far hb ht
  refine ⟨h.1, ?_⟩
  rcases h.2 with hn | ⟨g, cap, cur, rfl, hg, hh, r⟩
  · exact .inl hn
  · exact .inr ⟨g, cap, cur, rfl, hg, by rw [Below.heap_setCell _ _ _ _ (by intro e; exact hf (by simp [Value.ownBlock, e]))]; exact hh, r⟩
theorem OwnEntry.grownBelow {w w' : World} {B : Nat} {v : Value} {es : List Entry1} (h : OwnEntry w B v es) (hB : B ≤ w.heap.size) (hg : w.grownBy w' v.ownBlock) : Below B w w' :=
  (Below.refl B w).grown hg hB fun k hk => (World.ownsRow.lt h k hk).1

end Go.Proofs.Ytjcoejabpagaiaa
