/- Rows of files of one's own: appending some; what they are as an argument and as an answer. (By gen_own.py.) -/
import Derived.Test.YtejedpmkbkclhaaFiles
namespace Go.Proofs.Ytejedpmkbkclhaa
set_option maxRecDepth 100000
open Go.RowKit Go.Deep

structure File1 where
  n : ByteArray
  d : ByteArray

def cellsFile : List File1 → List Value
  | [] => []
  | e :: es => .string e.n :: .string e.d :: cellsFile es

theorem cellsFile_append : ∀ a b : List File1, cellsFile (a ++ b) = cellsFile a ++ cellsFile b
  | [], _ => rfl
  | e :: es, b => by simp [cellsFile, cellsFile_append es b]
theorem cellsFile_len : ∀ es : List File1, (cellsFile es).length = es.length * 2
  | [] => rfl
  | e :: es => by simp [cellsFile, cellsFile_len es]; omega
theorem cellsFile_one : ∀ (es : List File1) (v : Value), v ∈ cellsFile es → v.oneCell' = true
  | [], _, h => by simp [cellsFile] at h
  | e :: es, v, h => by
    simp only [cellsFile, List.mem_cons] at h
    rcases h with rfl | rfl | h
    · rfl
    · rfl
    · exact cellsFile_one es v h
theorem cellsFile_get : ∀ (es : List File1) (i : Nat) (e : File1), es[i]? = some e → (cellsFile es)[i * 2]? = some (.string e.n) ∧ (cellsFile es)[i * 2 + 1]? = some (.string e.d)
  | [], _, _, h => by simp at h
  | a :: es, 0, e, h => by
    obtain rfl : a = e := by simpa using h
    exact ⟨rfl, rfl⟩
  | a :: es, i + 1, e, h => by
    have := cellsFile_get es i e (by simpa using h)
    have h0 : (i + 1) * 2 = i * 2 + 2 := by omega
    rw [h0]
    exact this
theorem cellsFile_take {es : List File1} {k i : Nat} {v : Value} (h : (cellsFile (es.take k))[i]? = some v) : (cellsFile es)[i]? = some v := by
  have he : cellsFile es = cellsFile (es.take k) ++ cellsFile (es.drop k) := by rw [← cellsFile_append, List.take_append_drop]
  rw [he, List.getElem?_append_left (List.getElem?_eq_some_iff.1 h).1]; exact h
theorem cellsFile_drop {es : List File1} {k i : Nat} {v : Value} (hk : k ≤ es.length) (h : (cellsFile (es.drop k))[i]? = some v) : (cellsFile es)[k * 2 + i]? = some v := by
  have he : cellsFile es = cellsFile (es.take k) ++ cellsFile (es.drop k) := by rw [← cellsFile_append, List.take_append_drop]
  have hl : (cellsFile (es.take k)).length = k * 2 := by rw [cellsFile_len, List.length_take, Nat.min_eq_left hk]
  rw [he, List.getElem?_append_right (by omega), hl, Nat.add_sub_cancel_left]; exact h

/-- Element i of a row, by itself; the row's first k. -/
def fileAt1 (O : Files) (i : Nat) : File1 := ⟨O.N i, O.D i⟩
def filesL (O : Files) (k : Nat) : List File1 := (List.range k).map (fileAt1 O)
theorem filesL_len (O : Files) (k : Nat) : (filesL O k).length = k := by simp [filesL]
theorem filesL_succ (O : Files) (k : Nat) : filesL O (k + 1) = filesL O k ++ [fileAt1 O k] := by simp [filesL, List.range_succ]
/-- A list's elements by their places. -/
def fnFile (es : List File1) : Files := ⟨fun i => (es.getD i ⟨⟨#[]⟩, ⟨#[]⟩⟩).n, fun i => (es.getD i ⟨⟨#[]⟩, ⟨#[]⟩⟩).d⟩
theorem fnFile_at (es : List File1) (i : Nat) (hi : i < es.length) : fileAt1 (fnFile es) i = es[i] := by
  unfold fileAt1 fnFile
  simp [List.getD, hi]
theorem fnFile_list (es : List File1) : filesL (fnFile es) es.length = es := by
  apply List.ext_getElem
  · simp [filesL]
  · intro i h1 h2
    simp only [filesL, List.getElem_map, List.getElem_range]
    exact fnFile_at es i h2

theorem file_info : (Try.prog.info? 96).map (fun i => (i.zero, i.size, i.bytes)) = some (some (.agg #[.string ⟨#[]⟩, .string ⟨#[]⟩]), 2, 32) := by kernel_rfl

/-- A row of files of one's own (or nil). -/
def OwnFile (w : World) (B : Nat) (v : Value) (es : List File1) : Prop := w.ownsRow B 96 2 v es.length (cellsFile es)

theorem OwnFile.nil (w : World) (B : Nat) : OwnFile w B (.slice none 0 0) [] := World.ownsRow_nil _ _ _ _
theorem OwnFile.lit (w : World) (B : Nat) (hB : B ≤ w.heap.size) : OwnFile (w.alloc (.cells #[] 96)) B (.slice (some ⟨w.heap.size, 0, none⟩) 0 0) [] :=
  ⟨by simp [cellsFile], .inr ⟨w.heap.size, 0, #[], rfl, hB, heap_alloc_new w _, Nat.le_refl _, by decide, by simp, by simp [cellsFile]⟩⟩
theorem OwnFile.next {w w' : World} {B : Nat} {v : Value} {es : List File1} (h : OwnFile w B v es) (hb : Below w.heap.size w w') : OwnFile w' B v es := by
  refine ⟨h.1, ?_⟩
  rcases h.2 with hn | ⟨g, cap, cur, rfl, hg, hh, r⟩
  · exact .inl hn
  · exact .inr ⟨g, cap, cur, rfl, hg, (hb.block g (Array.getElem?_eq_some_iff.1 hh).1).trans hh, r⟩
theorem OwnFile.base {w : World} {B B' : Nat} {v : Value} {es : List File1} (h : OwnFile w B v es) (hB : B' ≤ B) : OwnFile w B' v es := by
  refine ⟨h.1, ?_⟩
  rcases h.2 with hn | ⟨g, cap, cur, hv, hg, r⟩
  · exact .inl hn
  · exact .inr ⟨g, cap, cur, hv, Nat.le_trans hB hg, r⟩
theorem OwnFile.setOther {w : World} {B : Nat} {v : Value} {es : List File1} (h : OwnFile w B v es) {p : Addr} (hp : p.block < B) (x : Value) : OwnFile (w.setCell p x) B v es := by
  refine ⟨h.1, ?_⟩
  rcases h.2 with hn | ⟨g, cap, cur, hv, hg, hh, r⟩
  · exact .inl hn
  · exact .inr ⟨g, cap, cur, hv, hg, by rw [Below.heap_setCell _ _ _ _ (by omega)]; exact hh, r⟩
theorem OwnFile.hid {w : World} {B : Nat} {v : Value} {es : List File1} (h : OwnFile w B v es) : Hid (OwnFile w B v es) := h

/-- What it is as an argument. -/
theorem OwnFile.arg {w : World} {B : Nat} {v : Value} {es : List File1} (h : OwnFile w B v es) : ∃ a p, v = .slice a es.length p ∧ FileAt w w.heap.size a es.length (fnFile es) := by
  rcases h.2 with ⟨rfl, h0⟩ | ⟨g, cap, cur, rfl, hg, hh, hle, hcap, hsz, htake⟩
  · have : es = [] := by simpa using h0
    subst this
    exact ⟨none, 0, rfl, .inl rfl⟩
  · have hb : BoxIs w g cur 96 := hh
    have hc : ∀ j u, (cellsFile es)[j]? = some u → w.cell? ⟨g, j, none⟩ = some u := fun j u hu => by
      rw [hb.cell j]
      have hj : j < es.length * 2 := by have := (List.getElem?_eq_some_iff.1 hu).1; rwa [cellsFile_len] at this
      rw [← htake, List.getElem?_take, if_pos hj] at hu
      simpa using hu
    refine ⟨_, _, rfl, .inr ⟨g, 0, rfl, hb.lt, fun i hi => ?_⟩⟩
    obtain ⟨h0, h1⟩ := cellsFile_get es i es[i] (by simp [hi])
    have hx := fnFile_at es i hi
    simp only [fileAt1] at hx
    rw [← hx] at h0 h1
    simp only [Nat.zero_add]
    exact ⟨hc _ _ h0, hc _ _ h1⟩

/-- .. and as an answer. -/
theorem OwnFile.mine {w : World} {B : Nat} {v : Value} {es : List File1} (h : OwnFile w B v es) : ∃ a p, v = .slice a es.length p ∧ Mine w B 96 2 a p es.length (fileCell (fnFile es)) := by
  obtain ⟨a, p, hv, hM⟩ := mine_of h
  refine ⟨a, p, hv, hM.congr fun j hj => ?_⟩
  have hi : j / 2 < es.length := by omega
  obtain ⟨h0, h1⟩ := cellsFile_get es (j / 2) es[j / 2] (by simp [hi])
  have hx := fnFile_at es (j / 2) hi
  simp only [fileAt1] at hx
  rw [← hx] at h0 h1
  have hlt : j % 2 < 2 := Nat.mod_lt _ (by decide)
  have hj2 : j < (cellsFile es).length := by rw [cellsFile_len]; exact hj
  have hm : j = j / 2 * 2 + j % 2 := by omega
  have key : ∀ v, (cellsFile es)[j]? = some v → (cellsFile es).getD j (.bool false) = v := fun v hv => by rw [List.getD, hv]; rfl
  by_cases e0 : j % 2 = 0
  · skip
    rw [key _ (by rw [hm, e0]; exact h0)]
    unfold fileCell
    rw [if_pos e0]
  have e1 : j % 2 = 1 := by omega
  rw [key _ (by rw [hm, e1]; exact h1)]
  unfold fileCell
  rw [if_neg (by omega)]

/-- 'append(v, u...)', u so many files that lie anywhere. -/
theorem wpList_append_file {w : World} {ops : Array Oper} {rest : List Oper} {o : Oper} {a : Act} {Q : Exit → Act → World → Prop} (hgd : o.guard = none) (s x : Operand) (t : TypeId)
    (ho : o.op = .call { callee := .builtin .append, args := #[s, x], argTypes := #[t, t] }) (ht : Try.prog.underlying t = some (.slice 96))
    (B : Nat) (v : Value) (es news : List File1) (hs : a.eval s = v) (hown : OwnFile w B v es) (ad : Addr) (m c : Nat) (hx : a.eval x = .slice (some ad) m c) (hm : news.length = m)
    (hnews : ∀ j u, (cellsFile news)[j]? = some u → w.cell? (ad.add j) = some u) (hB : B ≤ w.heap.size) (hlen : es.length + m ≤ 1000000)
    (h : ∀ v' w', OwnFile w' B v' (es ++ news) → Below B w w' → wpList Try.prog ops Q rest (a.put o.dst v') w') : wpList Try.prog ops Q (o :: rest) a w := by
  obtain ⟨i0, hi', hz0, hs0, hb0⟩ := info_parts file_info
  refine wpList_append_own w hgd s x t ho B 96 i0 _ 2 32 ht hi' hz0 hs0 hb0 rfl (by decide) _ es.length (cellsFile es) hs hown ad m c (cellsFile news) hx (by rw [cellsFile_len, hm]) hnews (cellsFile_one news) (by unfold maxLen; omega) (by omega) hB ?_
  intro v' w' h1 h2 _
  refine h v' w' ?_ ((Below.refl B w).grown h2 hB fun k hk => (World.ownsRow.lt hown k hk).1)
  unfold OwnFile
  rw [List.length_append, hm, cellsFile_append]
  exact h1

/-- One that was just laid, as what is appended. -/
theorem file_news {w : World} {g : Nat} {t : TypeId} {e : File1} (h : BoxIs w g #[.string e.n, .string e.d] t) : ∀ j u, (cellsFile [e])[j]? = some u → w.cell? ((⟨g, 0, none⟩ : Addr).add j) = some u := fun j u hu => by
  rw [Addr.add_lit]
  show w.cell? ⟨g, 0 + j, none⟩ = some u
  rw [Nat.zero_add, h.cell j]
  simpa [cellsFile] using hu

/-- AT A STEP OF A REGION: the same. -/
theorem step_append_file {w : World} {ops : Array Oper} {o : Oper} {a : Act} {K : Act → World → Prop} {Q : Exit → Act → World → Prop} {C : Prop} (hgd : o.guard = none) (s x : Operand) (t : TypeId)
    (ho : o.op = .call { callee := .builtin .append, args := #[s, x], argTypes := #[t, t] }) (ht : Try.prog.underlying t = some (.slice 96))
    (B : Nat) (v : Value) (es news : List File1) (hs : a.eval s = v) (hown : OwnFile w B v es) (ad : Addr) (m c : Nat) (hx : a.eval x = .slice (some ad) m c) (hm : news.length = m)
    (hnews : ∀ j u, (cellsFile news)[j]? = some u → w.cell? (ad.add j) = some u) (hB : B ≤ w.heap.size) (hlen : es.length + m ≤ 1000000)
    (h : ∀ v' w', OwnFile w' B v' (es ++ news) → w.grownBy w' v.ownBlock → K (a.put o.dst v') w') :
    if Region.wanted o (yielded ops a.tmps) = true then Oper.wp Try.prog o a w K Q else C := by
  have hw : Region.wanted o (yielded ops a.tmps) = true := by simp [Region.wanted, hgd]
  rw [if_pos hw]
  obtain ⟨i0, hi', hz0, hs0, hb0⟩ := info_parts file_info
  obtain ⟨v', w', hr, h2, h3, _⟩ := run_append_own (P := Try.prog) (w := w) B t o.type 96 i0 _ 2 32 ht hi' hz0 hs0 hb0 rfl (by decide) v es.length (cellsFile es) hown ad m c (cellsFile news) (by rw [cellsFile_len, hm]) hnews (cellsFile_one news) (by unfold maxLen; omega) (by omega) hB
  unfold Oper.wp execOp
  simp only [ho, resolve, invoke, builtin, Sem.run_bind, Sem.run_pure, Result.andThen_ok, List.map_toArray, List.map_cons, List.map_nil, hs, hx, hr]
  refine h v' w' ?_ h3
  unfold OwnFile
  rw [List.length_append, hm, cellsFile_append]
  exact h2

/-- Its shape. -/
theorem OwnFile.shape {w : World} {B : Nat} {v : Value} {es : List File1} (h : OwnFile w B v es) : ∃ a p, v = .slice a es.length p := by
  obtain ⟨a, p, hv, _⟩ := h.arg
  exact ⟨a, p, hv⟩
theorem OwnFile.shapeN {w : World} {B : Nat} {v : Value} {es : List File1} (h : OwnFile w B v es) : ∃ a n p, v = .slice a n p := by
  obtain ⟨a, p, hv, _⟩ := h.arg
  exact ⟨a, _, p, hv⟩
/-- A box of another kind is none of its blocks. -/
theorem OwnFile.far {w : World} {B F : Nat} {v : Value} {es : List File1} {cs : Array Value} {t : TypeId} (h : OwnFile w B v es) (hb : BoxIs w F cs t) (ht : t ≠ 96) : v.ownBlock ≠ some F := by
  rcases h.2 with ⟨rfl, _⟩ | ⟨g, cap, cur, rfl, hg, hh, _⟩
  · intro e; cases e
  · intro e
    have e' : g = F := by simpa [Value.ownBlock] using e
    subst e'
    have hb' : w.heap[g]? = some (.cells cs t) := hb
    rw [hb'] at hh
    simp only [Option.some.injEq, Obj.cells.injEq] at hh
    exact ht hh.2.1
/-- .. so it stays while the row grows, and the row while it is written. -/
theorem OwnFile.grownBox {w w' : World} {B F : Nat} {v : Value} {es : List File1} {cs : Array Value} {t : TypeId} (h : OwnFile w B v es) (hb : BoxIs w F cs t) (ht : t ≠ 96) (hg : w.grownBy w' v.ownBlock) : BoxIs w' F cs t :=
  (hg.block F hb.lt (fun e => h.far hb ht e.symm)).trans hb
theorem OwnFile.setBox {w : World} {B F o : Nat} {v : Value} {es : List File1} {cs : Array Value} {t : TypeId} (h : OwnFile w B v es) (hb : BoxIs w F cs t) (ht : t ≠ 96) (x : Value) : OwnFile (w.setCell ⟨F, o, none⟩ x) B v es := by
  have hf := h.far hb ht
  refine ⟨h.1, ?_⟩
  rcases h.2 with hn | ⟨g, cap, cur, rfl, hg, hh, r⟩
  · exact .inl hn
  · exact .inr ⟨g, cap, cur, rfl, hg, by rw [Below.heap_setCell _ _ _ _ (by intro e; exact hf (by simp [Value.ownBlock, e]))]; exact hh, r⟩
theorem OwnFile.grownBelow {w w' : World} {B : Nat} {v : Value} {es : List File1} (h : OwnFile w B v es) (hB : B ≤ w.heap.size) (hg : w.grownBy w' v.ownBlock) : Below B w w' :=
  (Below.refl B w).grown hg hB fun k hk => (World.ownsRow.lt h k hk).1

end Go.Proofs.Ytejedpmkbkclhaa
