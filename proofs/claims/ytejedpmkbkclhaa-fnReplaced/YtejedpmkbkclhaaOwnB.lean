/- Bytes of one's own, whose block may bear the mark of a text behind its end: made of a text, appended to, turned into a text. No program in sight. -/
import Derived.Test.YtejedpmkbkclhaaMgEntRowBox
import Derived.Laws.AppendOwn
import Derived.Laws.CopyRow
import Derived.Laws.BytesArg
import Derived.Laws.IdiomStrings
import Derived.Lib.AppendStr
namespace Go.Proofs.Ytejedpmkbkclhaa
set_option maxRecDepth 100000
open Go.RowKit Go.Lib

/-- v is a slice of the bytes s, in memory that was laid from block B on. -/
def OwnB (w : World) (B : Nat) (e : TypeId) (v : Value) (s : ByteArray) : Prop :=
  (v = .slice none 0 0 ∧ s.size = 0) ∨ ∃ g cap cur fz, v = .slice (some ⟨g, 0, none⟩) s.size cap ∧ B ≤ g ∧ w.heap[g]? = some (.cells cur e fz) ∧ (fz = (0, 0) ∨ fz.1 = cap) ∧ s.size ≤ cap ∧ cap ≤ maxLen ∧ cur.size = cap ∧ cur.toList.take s.size = strCells s

theorem OwnB.nil (w : World) (B : Nat) (e : TypeId) : OwnB w B e (.slice none 0 0) ⟨#[]⟩ := .inl ⟨rfl, rfl⟩
theorem OwnB.hid {w : World} {B : Nat} {e : TypeId} {v : Value} {s : ByteArray} (h : OwnB w B e v s) : Hid (OwnB w B e v s) := h
theorem OwnB.lt {w : World} {B : Nat} {e : TypeId} {v : Value} {s : ByteArray} (h : OwnB w B e v s) : ∀ k, v.ownBlock = some k → B ≤ k ∧ k < w.heap.size := by
  intro k hk
  rcases h with ⟨rfl, _⟩ | ⟨g, cap, cur, fz, rfl, hb, hg, _⟩
  · simp [Value.ownBlock] at hk
  · simp [Value.ownBlock] at hk
    subst hk
    exact ⟨hb, (Array.getElem?_eq_some_iff.1 hg).1⟩
theorem OwnB.shape {w : World} {B : Nat} {e : TypeId} {v : Value} {s : ByteArray} (h : OwnB w B e v s) : ∃ a c, v = .slice a s.size c := by
  rcases h with ⟨rfl, h0⟩ | ⟨g, cap, cur, fz, rfl, _⟩
  · exact ⟨none, 0, by rw [h0]⟩
  · exact ⟨_, _, rfl⟩
theorem OwnB.block {w w' : World} {B : Nat} {e : TypeId} {v : Value} {s : ByteArray} (h : OwnB w B e v s) (hb : ∀ g, g < w.heap.size → B ≤ g → v.ownBlock = some g → w'.heap[g]? = w.heap[g]?) : OwnB w' B e v s := by
  rcases h with hn | ⟨g, cap, cur, fz, rfl, hB, hg, r⟩
  · exact .inl hn
  · exact .inr ⟨g, cap, cur, fz, rfl, hB, (hb g (Array.getElem?_eq_some_iff.1 hg).1 hB rfl).trans hg, r⟩
theorem OwnB.next {w w' : World} {B : Nat} {e : TypeId} {v : Value} {s : ByteArray} (h : OwnB w B e v s) (hb : Below w.heap.size w w') : OwnB w' B e v s := h.block fun g hg _ _ => hb.block g hg
theorem OwnB.base {w : World} {B B' : Nat} {e : TypeId} {v : Value} {s : ByteArray} (h : OwnB w B e v s) (hB : B' ≤ B) : OwnB w B' e v s := by
  rcases h with hn | ⟨g, cap, cur, fz, hv, hg, r⟩
  · exact .inl hn
  · exact .inr ⟨g, cap, cur, fz, hv, Nat.le_trans hB hg, r⟩
/-- The block of a row is of the row's type. -/
theorem OwnB.type {w : World} {B g : Nat} {e : TypeId} {v : Value} {s : ByteArray} (h : OwnB w B e v s) (hg : v.ownBlock = some g) : ∃ cur fz, w.heap[g]? = some (.cells cur e fz) := by
  rcases h with ⟨rfl, _⟩ | ⟨g', cap, cur, fz, rfl, _, hh, _⟩
  · simp [Value.ownBlock] at hg
  · have : g' = g := by simpa [Value.ownBlock] using hg
    subst this
    exact ⟨cur, fz, hh⟩
theorem OwnB.far {w : World} {B g : Nat} {e t : TypeId} {v : Value} {s : ByteArray} {cs : Array Value} (h : OwnB w B e v s) (hb : BoxIs w g cs t) (ht : e ≠ t) : v.ownBlock ≠ some g := by
  intro hg
  obtain ⟨cur, fz, hc⟩ := h.type hg
  have h2 : w.heap[g]? = some (.cells cs t) := hb
  rw [hc] at h2
  simp only [Option.some.injEq, Obj.cells.injEq] at h2
  exact ht h2.2.1
theorem OwnB.setBox {w : World} {B F o : Nat} {e t : TypeId} {v : Value} {s : ByteArray} {cs : Array Value} (h : OwnB w B e v s) (hb : BoxIs w F cs t) (ht : e ≠ t) (x : Value) : OwnB (w.setCell ⟨F, o, none⟩ x) B e v s :=
  h.block fun g _ _ hv => Below.heap_setCell _ _ _ _ (by
    intro hF
    have hF2 : g = F := hF
    subst hF2
    exact h.far hb ht hv)

theorem strCells_append (s t : ByteArray) : strCells (s ++ t) = strCells s ++ strCells t := by
  unfold strCells
  simp

/-- Cells laid one by one into a block that is frozen nowhere ahead of its end. -/
theorem run_storeCells_atB {P : Program} (g o cap : Nat) (t : TypeId) (fz : Nat × Nat) (hfz : fz = (0, 0) ∨ fz.1 = cap) : ∀ (vs : List Value) (i : Nat) (cur : Array Value) (w : World), w.heap[g]? = some (.cells cur t fz) → cur.size = cap → o + i + vs.length ≤ cur.size → (∀ v ∈ vs, v.oneCell' = true) →
    (storeCells ⟨g, o, none⟩ vs i).run P w = .ok () (w.setRow g (cur.toList.take (o + i) ++ vs ++ cur.toList.drop (o + i + vs.length)).toArray)
  | [], i, cur, w, hg, _, _, _ => by
    simp only [storeCells, List.append_nil, List.length_nil, Nat.add_zero, List.take_append_drop, Array.toArray_toList]
    rw [setRow_self w g cur t fz hg]
    rfl
  | v :: rest, i, cur, w, hg, hc, hl, h1 => by
    have hi : o + i < cur.size := by simp at hl; omega
    have hadd : (⟨g, o, none⟩ : Addr).add i = ⟨g, o + i, none⟩ := by unfold Addr.add; split <;> simp_all
    have hcell : w.cell? ⟨g, o + i, none⟩ = some cur[o + i] := by simp [World.cell?, hg, hi]
    have hfro : w.frozen? ⟨g, o + i, none⟩ = false := by
      rcases hfz with rfl | hz
      · simp [World.frozen?, hg]
      · simp [World.frozen?, hg]; omega
    have hst : (store ((⟨g, o, none⟩ : Addr).add i) v).run P w = .ok () (w.setRow g (cur.setIfInBounds (o + i) v)) := by
      rw [hadd, run_store P w _ v _ (h1 v (by simp)), hcell]
      simp [hfro, setCell_eq_setRow w g (o + i) cur t fz v hg]
    have ih := run_storeCells_atB (P := P) g o cap t fz hfz rest (i + 1) (cur.setIfInBounds (o + i) v) (w.setRow g (cur.setIfInBounds (o + i) v)) (setRow_heap w g cur _ t _ hg) (by simpa using hc) (by simp at hl ⊢; omega) (fun x hx => h1 x (by simp [hx]))
    simp only [storeCells, Sem.run_bind, hst, Result.andThen_ok, ih, setRow_setRow]
    congr 3
    have e := list_seg_step cur.toList (o + i) v rest (by simp at hl ⊢; omega)
    simpa [Array.toList_setIfInBounds, Nat.add_assoc] using e

/-- 'append(v, s...)', s a text. -/
theorem run_append_bytes {P : Program} (w : World) (B : Nat) (t u ty e : TypeId) (i : TypeInfo) (ht : P.underlying t = some (.slice e)) (hu : P.underlying u = some .string) (hi : P.info? e = some i) (hz : i.zero = some (.int .u8 0))
    (hsize : i.size = 1) (hby : i.bytes = 1) (v : Value) (x s : ByteArray) (hown : OwnB w B e v x) (h63 : x.size + s.size ≤ 100000000) (hB : B ≤ w.heap.size) :
    ∃ v' w', (Builtin.append_ #[t, u] ty #[v, .string s]).run P w = .ok v' w' ∧ OwnB w' B e v' (x ++ s) ∧ w.grownBy w' v.ownBlock ∧ (v'.ownBlock = v.ownBlock ∨ ∃ g, v'.ownBlock = some g ∧ w.heap.size ≤ g) := by
  have hsz : (x ++ s).size = x.size + s.size := ByteArray.size_append
  rcases hown with ⟨rfl, h0⟩ | ⟨g, cap, cur, fz, rfl, hbg, hg, hfz, hnc, hcm, hcs, htake⟩
  · obtain ⟨v', w', h1, h2, h3, h4⟩ := run_append_own_string (P := P) w w.heap.size t u ty e i ht hu hi hz hsize hby (.slice none 0 0) 0 [] (World.ownsRow_nil _ _ _ _) s (by unfold maxLen; omega) (by omega) (Nat.le_refl _)
    have hx : x = ⟨#[]⟩ := ByteArray.ext (Array.size_eq_zero_iff.1 h0)
    have hxs : x ++ s = s := by rw [hx]; exact ByteArray.empty_append
    refine ⟨v', w', h1, ?_, h3, ?_⟩
    · rcases h2.2 with ⟨hv, hn⟩ | ⟨g, cap, cur, hv, hb, hh, hnc, hcm, hcs, htk⟩
      · exact .inl ⟨hv, by rw [hxs]; omega⟩
      · refine .inr ⟨g, cap, cur, (0, 0), by rw [hv, hxs, Nat.zero_add], Nat.le_trans hB hb, hh, .inl rfl, by rw [hxs]; omega, hcm, by simpa using hcs, ?_⟩
        rw [hxs]
        simpa using htk
    · rcases h2.2 with ⟨hv, hn⟩ | ⟨g, cap, cur, hv, hb, hh, hnc, hcm, hcs, htk⟩
      · exact .inl (by rw [hv])
      · exact .inr ⟨g, by rw [hv]; rfl, hb⟩
  · have hxl : (strCells x).length = x.size := strCells_length x
    by_cases hroom : x.size + s.size ≤ cap
    · have hf := run_firstCells_string (P := P) w 1 s
      have hst := run_storeCells_atB (P := P) g x.size cap e fz hfz (strCells s) 0 cur w hg hcs (by rw [strCells_length]; omega) (strCells_oneCell s)
      simp only [Nat.add_zero, strCells_length] at hst
      have hr : (Builtin.append_ #[t, u] ty #[.slice (some ⟨g, 0, none⟩) x.size cap, .string s]).run P w = .ok (.slice (some ⟨g, 0, none⟩) (x.size + s.size) cap) (w.setRow g (cur.toList.take x.size ++ strCells s ++ cur.toList.drop (x.size + s.size)).toArray) := by
        simp [Builtin.append_, run_underlying ht, run_underlying hu, sizeOf, typeInfo, hi, hsize, Builtin.lenOf, hroom, hf, Addr.add_lit, hst]
      refine ⟨_, _, hr, .inr ⟨g, cap, _, fz, by rw [hsz], hbg, setRow_heap w g cur _ e _ hg, hfz, by omega, hcm, ?_, ?_⟩, ⟨rfl, rfl, rfl, by simp, fun k _ hk => setRow_other w g k _ (fun e => hk (by simp [Value.ownBlock, e]))⟩, .inl rfl⟩
      · simp only [List.size_toArray, List.length_append, List.length_take, List.length_drop, Array.length_toList, strCells_length]
        omega
      · rw [hsz, strCells_append, htake]
        have : (strCells x ++ strCells s).length = x.size + s.size := by rw [List.length_append, strCells_length, strCells_length]
        rw [← this]
        exact List.take_left
    · have holds : ∀ j u, (strCells x)[j]? = some u → w.cell? ((⟨g, 0, none⟩ : Addr).add j) = some u := by
        intro j u hu
        have hadd : (⟨g, 0, none⟩ : Addr).add j = ⟨g, j, none⟩ := by unfold Addr.add; split <;> simp_all
        rw [hadd, cell_of_row w g j cur e fz hg]
        rw [← htake, List.getElem?_take] at hu
        split at hu
        · simpa using hu
        · cases hu
      have hr := run_append_grow_string (P := P) w t u ty e i (.int .u8 0) ht hu hi hz ⟨g, 0, none⟩ x.size cap (strCells x) (by rw [hsize]; simpa using hxl) holds s (by omega) (by omega) (by rw [hby]; exact growslice_fits (by omega) (by omega))
      have hge := grownCap_ge w (x.size + s.size) cap e
      have hcm2 : grownCap w (x.size + s.size) cap e ≤ maxLen := grownCap_le_maxLen w (x.size + s.size) cap e (by unfold maxLen; omega)
      refine ⟨_, _, hr, .inr ⟨w.heap.size, _, _, (0, 0), by rw [hsz], hB, heap_alloc_new w.drew _, .inl rfl, by omega, hcm2, ?_, ?_⟩, ⟨rfl, rfl, rfl, by simp, fun k hk _ => by first | exact heap_alloc_old w.drew _ k hk | exact heap_alloc_old w.drew _ hk⟩, .inr ⟨w.heap.size, rfl, Nat.le_refl _⟩⟩
      · have hz1 : (Value.int IntKind.u8 0).cells.size = 1 := rfl
        simp only [Array.size_append, List.size_toArray, size_zeroCells, hz1, hxl, strCells_length]
        omega
      · rw [hsz, strCells_append]
        simp only [Array.toList_append, List.append_assoc]
        rw [← List.append_assoc]
        have : (strCells x ++ strCells s).length = x.size + s.size := by rw [List.length_append, strCells_length, strCells_length]
        rw [← this]
        exact List.take_left

/-- '[]byte(s)'. -/
theorem run_bytes_own {P : Program} (w : World) (src dst e : TypeId) (s : ByteArray) (hs : P.underlying src = some .string) (hd : P.underlying dst = some (.slice e)) (he : P.underlying e = some (.int .u8)) (hl : s.size ≤ 100000000) :
    ∃ v w', (convert src dst (.string s)).run P w = .ok v w' ∧ OwnB w' w.heap.size e v s ∧ Below w.heap.size w w' ∧ ∃ g, v.ownBlock = some g ∧ w.heap.size ≤ g := by
  refine ⟨_, _, run_bytes_of_string w src dst e s hs hd he, .inr ⟨w.heap.size, _, _, _, rfl, Nat.le_refl _, heap_alloc_new w.drew _, .inr ?_, grownCap_ge _ _ _ _, grownCap_le_maxLen w s.size 0 e (by unfold maxLen; omega), ?_, ?_⟩, (Below.refl _ _).drew.alloc (Nat.le_refl _) _, w.heap.size, rfl, Nat.le_refl _⟩
  · have := grownCap_ge w s.size 0 e
    simp [bytesRow]; omega
  · have := grownCap_ge w s.size 0 e
    simp [bytesRow]; omega
  · simp [bytesRow, strCells]

/-- 'string(v)'. -/
theorem run_text_own {P : Program} (w : World) (B : Nat) (src dst e : TypeId) (v : Value) (s : ByteArray) (hown : OwnB w B e v s) (hs : P.underlying src = some (.slice e)) (he : P.underlying e = some (.int .u8)) (hd : P.underlying dst = some .string) :
    (convert src dst v).run P w = .ok (.string s) w := by
  rcases hown with ⟨rfl, h0⟩ | ⟨g, cap, cur, fz, rfl, hbg, hg, hfz, hnc, hcm, hcs, htake⟩
  · have hx : s = ⟨#[]⟩ := ByteArray.ext (Array.size_eq_zero_iff.1 h0)
    subst hx
    exact run_convert_bytes_nil w src e hs he 0 0 dst hd
  · have h := run_convert_bytes_arg (P := P) w src e hs he g 0 s.size cap (s.data.toList.map fun b => (b.toNat : Int)) (by simp) (fun i hi => ?_) dst hd
    · rw [h]
      congr 2
      unfold strOfNums
      apply ByteArray.ext
      apply Array.ext'
      simp [Function.comp_def]
    · have hc : (cur.toList.take s.size)[i]? = some (.int .u8 ((s.data.toList.map fun b => (b.toNat : Int)).getD i 0)) := by
        rw [htake, strCells, List.getElem?_map, List.getD, List.getElem?_map]
        have : i < s.data.toList.length := by simpa using hi
        rw [List.getElem?_eq_getElem this]
        rfl
      rw [List.getElem?_take, if_pos hi] at hc
      rw [cell_of_row w g _ cur e fz hg, Nat.zero_add]
      simpa using hc

end Go.Proofs.Ytejedpmkbkclhaa
