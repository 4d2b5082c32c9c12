/- A folder in memory: a map from names to bytes of one's own, and its size beside it. No walk. -/
import Derived.Test.YtejedpmkbkclhaaFsP
import Derived.Test.YtejedpmkbkclhaaOwnB
import Derived.Maps.OwnSet
namespace Go.Proofs.Ytejedpmkbkclhaa
set_option maxRecDepth 100000
open Go.RowKit Go.Maps

/-- How an element of the map reads: as itself. -/
def heldV (v : Value) : Option (DataW Value × List MemPlace) := some (.held v, [])
def keyL (n : ByteArray) : Lit := .string n.data.toList
/-- The map as it reads: V tells each name's bytes. -/
def entF (V : ByteArray → Value) (f : File1) : Lit × DataW Value := (keyL f.n, .held (.agg #[V f.n]))
def dataF (L : List File1) (V : ByteArray → Value) : DataW Value := .map (L.map (entF V))

theorem bytesBefore_less : ∀ x y : List UInt8, bytesBefore x y = Op.bytesLess x y
  | [], [] => rfl
  | [], _ :: _ => rfl
  | _ :: _, [] => rfl
  | a :: x, b :: y => by simp only [bytesBefore, Op.bytesLess, bytesBefore_less x y]
theorem keyL_before (a b : ByteArray) : (keyL a).before (keyL b) = nmL a b := by
  unfold keyL nmL
  rw [ByteArray.toList_eq, ByteArray.toList_eq, ← bytesBefore_less]
  rfl
theorem keyL_inj {a b : ByteArray} (h : keyL a = keyL b) : a = b := by
  unfold keyL at h
  injection h with h
  exact ByteArray.ext (Array.toList_inj.1 h)
theorem keyL_same (a b : ByteArray) : (keyL a).sameKey (keyL b) = !nmN a b := by
  cases h : nmN a b
  · rw [nmN_eq h]
    simp [keyL, Lit.sameKey]
  · have := nmN_ne h
    cases k : (keyL a).sameKey (keyL b)
    · rfl
    · exact absurd (keyL_inj (WideAt.sameKey_eq k)) this
theorem keyL_of {k : TypeId} (hk : Try.prog.underlying k = some .string) {n : ByteArray} (hn : n.size ≤ maxLen) : keyOf Try.prog k (.string n) = some (keyL n) := WideMaps.keyOf_string_mk hk hn

theorem dataF_del (L : List File1) (V : ByteArray → Value) (n : ByteArray) : (dataF L V).del (keyL n) = dataF (cutF L n) V := by
  show DataW.map ((L.map (entF V)).filter fun p => !p.1.sameKey (keyL n)) = DataW.map ((L.filter fun f => nmN f.n n).map (entF V))
  rw [List.filter_map]
  congr 2
  refine List.filter_congr fun f _ => ?_
  show (!(keyL f.n).sameKey (keyL n)) = _
  rw [keyL_same, Bool.not_not]
theorem insert_F (V : ByteArray → Value) (n : ByteArray) (x : DataW Value) : ∀ M : List File1, RisF M → (∀ f, f ∈ M → nmN f.n n = true) →
    DataW.insert (keyL n, x) (M.map (entF V)) = (M.filter (fun f => nmL f.n n)).map (entF V) ++ (keyL n, x) :: (M.filter (fun f => nmL n f.n)).map (entF V)
  | [], _, _ => rfl
  | g :: M, hr, hn => by
    have hp := List.pairwise_cons.1 hr
    have hg := hn g List.mem_cons_self
    show (if (keyL n).before (keyL g.n) then _ else _) = _
    rw [keyL_before, List.filter_cons, List.filter_cons]
    cases h : nmL n g.n
    · have h2 : nmL g.n n = true := by unfold nmN at hg; rw [h] at hg; simpa using hg
      rw [if_neg (by decide), if_pos h2, if_neg (by decide), insert_F V n x M hp.2 fun f hf => hn f (List.mem_cons_of_mem _ hf)]
      rfl
    · have h2 := nmL_asymm h
      have e1 : M.filter (fun f => nmL f.n n) = [] := List.filter_eq_nil_iff.2 fun f hf => by
        have := nmL_asymm (nmL_trans h (hp.1 f hf)); rw [this]; decide
      have e2 : M.filter (fun f => nmL n f.n) = M := List.filter_eq_self.2 fun f hf => nmL_trans h (hp.1 f hf)
      rw [if_pos rfl, h2, if_neg (by decide), if_pos rfl, e1, e2]
      rfl
/-- V with one more. -/
def setV (V : ByteArray → Value) (n : ByteArray) (v : Value) : ByteArray → Value := fun x => if nmN x n then V x else v
theorem setV_same (V : ByteArray → Value) (n : ByteArray) (v : Value) : setV V n v n = v := by unfold setV; rw [nmN_self]; rfl
theorem setV_other {V : ByteArray → Value} {n x : ByteArray} {v : Value} (h : x ≠ n) : setV V n v x = V x := by unfold setV; rw [nmN_of h]; rfl
theorem dataF_put {L : List File1} (hr : RisF L) (V : ByteArray → Value) (n d : ByteArray) (v : Value) : (dataF L V).put (keyL n) (.held (.agg #[v])) = dataF (putF L n d) (setV V n v) := by
  have hd := dataF_del L V n
  unfold dataF DataW.del at hd
  injection hd with hd
  unfold dataF DataW.put
  simp only
  rw [hd, insert_F V n _ (cutF L n) (risF_cut hr n) (fun f hf => (List.mem_filter.1 hf).2)]
  have hc := cut_put L n d
  unfold putF at hc
  have h1 : (cutF L n).filter (fun f => nmL f.n n) = L.filter (fun f => nmL f.n n) := by
    unfold cutF; rw [List.filter_filter]
    refine List.filter_congr fun f _ => ?_
    cases h : nmL f.n n
    · rfl
    · unfold nmN; rw [h]; rfl
  have h2 : (cutF L n).filter (fun f => nmL n f.n) = L.filter (fun f => nmL n f.n) := by
    unfold cutF; rw [List.filter_filter]
    refine List.filter_congr fun f _ => ?_
    cases h : nmL n f.n
    · rfl
    · unfold nmN; rw [h]; simp
  rw [h1, h2]
  unfold putF
  rw [List.map_append, List.map_cons]
  have e : ∀ M : List File1, (∀ f, f ∈ M → f.n ≠ n) → M.map (entF (setV V n v)) = M.map (entF V) := fun M hM => List.map_congr_left fun f hf => by unfold entF; rw [setV_other (hM f hf)]
  rw [e _ fun f hf => nmN_ne (by unfold nmN; rw [(List.mem_filter.1 hf).2]; rfl), e _ fun f hf => nmN_ne (by unfold nmN; rw [(List.mem_filter.1 hf).2]; simp)]
  have e3 : entF (setV V n v) ⟨n, d⟩ = (keyL n, .held (.agg #[v])) := by unfold entF; rw [setV_same]
  rw [e3]
/-- What a name finds. -/
def valF (L : List File1) (V : ByteArray → Value) (n : ByteArray) : Value := if (lkF L n).isSome then V n else .slice none 0 0
theorem dataF_at (L : List File1) (V : ByteArray → Value) (n : ByteArray) : (dataF L V).atKey (keyL n) (.held (.agg #[.slice none 0 0])) = .held (.agg #[valF L V n]) := by
  unfold dataF DataW.atKey valF
  simp only
  induction L with
  | nil => rfl
  | cons g L ih =>
    rw [List.map_cons, List.find?_cons]
    have e : (entF V g).1.sameKey (keyL n) = !nmN g.n n := keyL_same g.n n
    rw [e, lkF]
    cases h : nmN g.n n
    · rw [← nmN_eq h]; rfl
    · exact ih
theorem dataF_has (L : List File1) (V : ByteArray → Value) (n : ByteArray) : Maps.has (dataF L V) (keyL n) = (lkF L n).isSome := by
  unfold dataF Maps.has
  simp only
  induction L with
  | nil => rfl
  | cons g L ih =>
    rw [List.map_cons, List.any_cons]
    have e : (entF V g).1.sameKey (keyL n) = !nmN g.n n := keyL_same g.n n
    rw [e, lkF, ih]
    cases h : nmN g.n n <;> rfl
theorem dataF_size (L : List File1) (V : ByteArray → Value) : Maps.size (dataF L V) = L.length := by simp [dataF, Maps.size]

theorem zero_content (w : World) : (zeroValue 98).run Try.prog w = .ok (.agg #[.slice none 0 0]) w := by
  have h : (Try.prog.info? 98).bind (·.zero) = some (.agg #[.slice none 0 0]) := by kernel_rfl
  obtain ⟨i, hi, hz⟩ := Option.bind_eq_some_iff.1 h
  simp [zeroValue, typeInfo, hi, hz]

/-- The map in block b and the folder in block f: they hold the files of L. -/
structure FoldM (w : World) (f b : Nat) (V : ByteArray → Value) (L : List File1) : Prop where
  bx : BoxIs w f #[.map (some b), .int .i64 (sizeF L : Nat)] 102
  mp : w.ownsMap Try.prog 9 heldV b L.length (dataF L V)
  ris : RisF L
  shape : ∀ x, x ∈ L → ∃ a c, V x.n = .slice a x.d.size c
/-- Each name's bytes are one's own, in a block that is no other's. -/
structure RowsM (w : World) (B : Nat) (V : ByteArray → Value) (L : List File1) : Prop where
  own : ∀ x, x ∈ L → OwnB w B 5 (V x.n) x.d
  apart : ∀ x y, x ∈ L → y ∈ L → x.n ≠ y.n → (V x.n).ownBlock = none ∨ (V x.n).ownBlock ≠ (V y.n).ownBlock
/-- Two blocks alone may have turned. -/
structure Turn (f b : Nat) (w w' : World) : Prop where
  os : w'.os = w.os
  tape : w'.tape = w.tape
  output : w'.output = w.output
  size : w.heap.size ≤ w'.heap.size
  block : ∀ k, k < w.heap.size → k ≠ f → k ≠ b → w'.heap[k]? = w.heap[k]?
theorem Turn.refl (f b : Nat) (w : World) : Turn f b w w := ⟨rfl, rfl, rfl, Nat.le_refl _, fun _ _ _ _ => rfl⟩
theorem Turn.trans {f b : Nat} {u v w : World} (h : Turn f b u v) (k : Turn f b v w) : Turn f b u w :=
  ⟨k.os.trans h.os, k.tape.trans h.tape, k.output.trans h.output, Nat.le_trans h.size k.size, fun i hi h1 h2 => (k.block i (Nat.lt_of_lt_of_le hi h.size) h1 h2).trans (h.block i hi h1 h2)⟩
theorem Turn.of_below {f b : Nat} {w w' : World} (h : Below w.heap.size w w') : Turn f b w w' := ⟨h.os, h.tape, h.output, h.size, fun k hk _ _ => h.block k hk⟩
theorem Turn.below {f b B : Nat} {w w' : World} (h : Turn f b w w') (hB : B ≤ w.heap.size) (hf : B ≤ f) (hb : B ≤ b) : Below B w w' :=
  ⟨h.os, h.tape, h.output, h.size, fun k hk => h.block k (by omega) (by omega) (by omega)⟩
theorem Turn.of_map {f b : Nat} {w w' : World} (h : w.mapTurned w' b) : Turn f b w w' := ⟨h.grown.os, h.grown.tape, h.grown.output, h.grown.size, fun k hk _ h2 => h.grown.block k hk (fun e => h2 (Option.some.inj e))⟩
theorem Turn.set (f b : Nat) (w : World) (o : Nat) (v : Value) : Turn f b w (w.setCell ⟨f, o, none⟩ v) := ⟨rfl, rfl, rfl, by simp [World.setCell], fun k _ hk _ => Below.heap_setCell _ _ _ _ (by simpa using hk)⟩
theorem Turn.box {f b F : Nat} {w w' : World} {cs : Array Value} {t : TypeId} (h : Turn f b w w') (hb : BoxIs w F cs t) (h1 : F ≠ f) (h2 : F ≠ b) : BoxIs w' F cs t := (h.block F hb.lt h1 h2).trans hb
theorem FoldM.f_ne_b {w : World} {f b : Nat} {V : ByteArray → Value} {L : List File1} (h : FoldM w f b V L) : f ≠ b := by
  intro e
  obtain ⟨es, clock, hb, _⟩ := h.mp
  have := h.bx
  unfold BoxIs at this
  rw [e, hb] at this
  cases this
theorem FoldM.next {w w' : World} {f b : Nat} {V : ByteArray → Value} {L : List File1} (h : FoldM w f b V L) (hb : Below w.heap.size w w') : FoldM w' f b V L := by
  refine ⟨h.bx.next hb, ?_, h.ris, h.shape⟩
  obtain ⟨es, clock, hm, r⟩ := h.mp
  exact ⟨es, clock, (hb.block b (Array.getElem?_eq_some_iff.1 hm).1).trans hm, r⟩
theorem FoldM.grown {w w' : World} {f b B : Nat} {e : TypeId} {V : ByteArray → Value} {L : List File1} {v : Value} {s : ByteArray} (h : FoldM w f b V L) (ho : OwnB w B e v s) (he : e ≠ 102) (hg : w.grownBy w' v.ownBlock) : FoldM w' f b V L := by
  refine ⟨(hg.block f h.bx.lt (fun e2 => ho.far h.bx he e2.symm)).trans h.bx, ?_, h.ris, h.shape⟩
  obtain ⟨es, clock, hm, r⟩ := h.mp
  refine ⟨es, clock, (hg.block b (Array.getElem?_eq_some_iff.1 hm).1 (fun e2 => ?_)).trans hm, r⟩
  obtain ⟨cur, fz, hc⟩ := ho.type e2.symm
  rw [hm] at hc; cases hc
theorem FoldM.b_lt {w : World} {f b : Nat} {V : ByteArray → Value} {L : List File1} (h : FoldM w f b V L) : b < w.heap.size := h.mp.lt
theorem FoldM.hid {w : World} {f b : Nat} {V : ByteArray → Value} {L : List File1} (h : FoldM w f b V L) : Hid (FoldM w f b V L) := h
theorem RowsM.hid {w : World} {B : Nat} {V : ByteArray → Value} {L : List File1} (h : RowsM w B V L) : Hid (RowsM w B V L) := h
/-- Rows stay where the folder turns. -/
theorem OwnB.turn {w w' : World} {f b B : Nat} {e : TypeId} {V : ByteArray → Value} {L : List File1} {v : Value} {s : ByteArray} (h : OwnB w B e v s) (hF : FoldM w f b V L) (he : e ≠ 102) (ht : Turn f b w w') : OwnB w' B e v s :=
  h.block fun g hg _ hv => ht.block g hg (fun e2 => h.far hF.bx he (by rw [hv, e2])) (fun e2 => by
    obtain ⟨cur, fz, hc⟩ := h.type hv
    obtain ⟨es, clock, hm, _⟩ := hF.mp
    rw [e2, hm] at hc; cases hc)
theorem RowsM.turn {w w' : World} {f b B : Nat} {V V' : ByteArray → Value} {L L' : List File1} (h : RowsM w B V L) (hF : FoldM w f b V' L') (ht : Turn f b w w') : RowsM w' B V L :=
  ⟨fun x hx => (h.own x hx).turn hF (by decide) ht, h.apart⟩
theorem RowsM.next {w w' : World} {B : Nat} {V : ByteArray → Value} {L : List File1} (h : RowsM w B V L) (hb : Below w.heap.size w w') : RowsM w' B V L := ⟨fun x hx => (h.own x hx).next hb, h.apart⟩
theorem RowsM.cut {w : World} {B : Nat} {V : ByteArray → Value} {L : List File1} (h : RowsM w B V L) (n : ByteArray) : RowsM w B V (cutF L n) :=
  ⟨fun x hx => h.own x (mem_cutF.1 hx).1, fun x y hx hy => h.apart x y (mem_cutF.1 hx).1 (mem_cutF.1 hy).1⟩
/-- Rows of all but one name, and a row that lies in none of their blocks. -/
theorem RowsM.put {w : World} {B : Nat} {V : ByteArray → Value} {L : List File1} {n d : ByteArray} {v : Value} (h : RowsM w B V (cutF L n)) (hv : OwnB w B 5 v d) (ha : ∀ x, x ∈ cutF L n → v.ownBlock = none ∨ v.ownBlock ≠ (V x.n).ownBlock) : RowsM w B (setV V n v) (putF L n d) := by
  refine ⟨fun x hx => ?_, fun x y hx hy hne => ?_⟩
  · rcases mem_putF.1 hx with rfl | ⟨h1, h2⟩
    · rw [setV_same]; exact hv
    · rw [setV_other h2]; exact h.own x (mem_cutF.2 ⟨h1, h2⟩)
  · rcases mem_putF.1 hx with rfl | ⟨h1, h2⟩
    · rcases mem_putF.1 hy with rfl | ⟨h3, h4⟩
      · exact absurd rfl hne
      · rw [setV_same, setV_other h4]; exact ha y (mem_cutF.2 ⟨h3, h4⟩)
    · rcases mem_putF.1 hy with rfl | ⟨h3, h4⟩
      · rw [setV_same, setV_other h2]
        rcases ha x (mem_cutF.2 ⟨h1, h2⟩) with h5 | h5
        · rw [h5]
          cases hb : (V x.n).ownBlock
          · exact .inl rfl
          · exact .inr (by simp)
        · exact .inr (fun e => h5 e.symm)
      · rw [setV_other h2, setV_other h4]; exact h.apart x y (mem_cutF.2 ⟨h1, h2⟩) (mem_cutF.2 ⟨h3, h4⟩) hne
theorem FoldM.valShape {w : World} {f b : Nat} {V : ByteArray → Value} {L : List File1} (h : FoldM w f b V L) (n : ByteArray) : ∃ a c, valF L V n = .slice a ((lkF L n).getD ⟨#[]⟩).size c := by
  unfold valF
  cases e : lkF L n with
  | none => exact ⟨none, 0, rfl⟩
  | some d =>
    obtain ⟨a, c, hv⟩ := h.shape ⟨n, d⟩ (lkF_some e)
    exact ⟨a, c, hv⟩
/-- The map's own laws. -/
theorem FoldM.look {w : World} {f b : Nat} {V : ByteArray → Value} {L : List File1} (h : FoldM w f b V L) {n : ByteArray} (hn : n.size ≤ maxLen) : (Instr.lookup 100 (.map (some b)) (.string n) false).run Try.prog w = .ok (.agg #[valF L V n]) w := by
  obtain ⟨v, ps, hr, hv⟩ := h.mp.lookup (string_keyed Try.underlying9) Try.underlying100 (zero_content w) (zd := .held (.agg #[.slice none 0 0])) (zp := []) rfl (keyL_of Try.underlying9 hn)
  rw [dataF_at] at hv
  simp only [heldV, Option.some.injEq, Prod.mk.injEq, DataW.held.injEq] at hv
  rw [hr, hv.1]
theorem FoldM.look2 {w : World} {f b : Nat} {V : ByteArray → Value} {L : List File1} (h : FoldM w f b V L) {n : ByteArray} (hn : n.size ≤ maxLen) : (Instr.lookup 100 (.map (some b)) (.string n) true).run Try.prog w = .ok (.tuple #[.agg #[valF L V n], .bool (lkF L n).isSome]) w := by
  obtain ⟨v, ps, hr, hv⟩ := h.mp.look_ok (string_keyed Try.underlying9) Try.underlying100 (zero_content w) (zd := .held (.agg #[.slice none 0 0])) (zp := []) rfl (keyL_of Try.underlying9 hn)
  rw [dataF_at] at hv
  simp only [heldV, Option.some.injEq, Prod.mk.injEq, DataW.held.injEq] at hv
  rw [hr, hv.1, dataF_has]
theorem owns_exact {w : World} {b n : Nat} {D : DataW Value} (h : w.ownsMap Try.prog 9 heldV b n D) : w.ownsMap Try.prog 9 heldV b (Maps.size D) D := by
  obtain ⟨es, clock, hb, F, hs, hD⟩ := h
  refine ⟨es, clock, hb, F, ?_, hD⟩
  rw [hD]
  simp [Maps.size, length_sorted]
/-- A name is deleted from the map; the size is laid behind it. -/
theorem FoldM.delete {w : World} {f b : Nat} {V : ByteArray → Value} {L : List File1} {n : ByteArray} (bx : BoxIs w f #[.map (some b), .int .i64 (sizeF (cutF L n) : Nat)] 102) (mp : w.ownsMap Try.prog 9 heldV b L.length (dataF L V)) (ris : RisF L) (sh : ∀ x, x ∈ L → ∃ a c, V x.n = .slice a x.d.size c) (hn : n.size ≤ maxLen) (ty : TypeId) :
    ∃ w', (Builtin.delete_ #[100, 9] ty #[.map (some b), .string n]).run Try.prog w = .ok (.tuple #[]) w' ∧ FoldM w' f b V (cutF L n) ∧ Turn f b w w' := by
  obtain ⟨w', hr, ho, ht⟩ := mp.drop (string_keyed Try.underlying9) Try.underlying100 (keyL_of Try.underlying9 hn) ty
  have hfb : f ≠ b := by
    intro e
    obtain ⟨es, clock, hb, _⟩ := mp
    unfold BoxIs at bx
    rw [e, hb] at bx
    cases bx
  rw [dataF_del] at ho
  have ho2 := owns_exact ho
  rw [dataF_size] at ho2
  refine ⟨w', hr, ⟨(ht.grown.block f bx.lt (fun e => hfb (Option.some.inj e))).trans bx, ho2, risF_cut ris n, fun x hx => sh x (mem_cutF.1 hx).1⟩, Turn.of_map ht⟩
/-- A name is put into the map. -/
theorem FoldM.store {w : World} {f b : Nat} {V : ByteArray → Value} {L : List File1} (h : FoldM w f b V L) {n : ByteArray} (hn : n.size ≤ maxLen) (hl : L.length < 100000000) (d : ByteArray) (v : Value) :
    ∃ w', (Instr.mapUpdate 100 (.map (some b)) (.string n) (.agg #[v])).run Try.prog w = .ok () w' ∧ w'.ownsMap Try.prog 9 heldV b (putF L n d).length (dataF (putF L n d) (setV V n v)) ∧ BoxIs w' f #[.map (some b), .int .i64 (sizeF L : Nat)] 102 ∧ Turn f b w w' := by
  obtain ⟨w', hr, ho, ht⟩ := h.mp.store (string_keyed Try.underlying9) Try.underlying100 (by unfold maxLen; omega) (keyL_of Try.underlying9 hn) (val := .agg #[v]) (d := .held (.agg #[v])) (ps := []) rfl
  rw [dataF_put h.ris V n d v] at ho
  have ho2 := owns_exact ho
  rw [dataF_size] at ho2
  exact ⟨w', hr, ho2, (ht.grown.block f h.bx.lt (fun e => h.f_ne_b (Option.some.inj e))).trans h.bx, Turn.of_map ht⟩

end Go.Proofs.Ytejedpmkbkclhaa
