/- When bytes are the block of a row; rows of one's own that are read. -/
import Derived.Test.YtljmfdcilnbjaaaBlkP
namespace Go.Proofs.Ytljmfdcilnbjaaa
set_option maxRecDepth 100000
open Go.RowKit

/-- A row of entries of one's own, maybe nil. -/
def RowE (w : World) (B : Nat) (v : Value) (es : List En) : Prop := w.ownsRow B 63 4 v es.length (cellsE es)

theorem RowE.nil (w : World) (B : Nat) : RowE w B (.slice none 0 0) [] := World.ownsRow_nil _ _ _ _
theorem RowE.next {w w' : World} {B : Nat} {v : Value} {es : List En} (h : RowE w B v es) (hb : Below w.heap.size w w') : RowE w' B v es := row_next h hb
theorem RowE.mv {w w' : World} {B F : Nat} {v : Value} {es : List En} (h : RowE w B v es) (hm : Mv F w w') (hF : F < B) : RowE w' B v es := row_mv h hm hF
theorem RowE.low {w : World} {B B' : Nat} {v : Value} {es : List En} (h : RowE w B v es) (hB : B' ≤ B) : RowE w B' v es := by
  refine ⟨h.1, ?_⟩
  rcases h.2 with hn | ⟨g, cap, cur, rfl, hg, r⟩
  · exact .inl hn
  · exact .inr ⟨g, cap, cur, rfl, by omega, r⟩
theorem RowE.at {w : World} {B : Nat} {v : Value} {es : List En} (h : RowE w B v es) : ∃ a cap, v = .slice a es.length cap ∧ EntAt w w.heap.size a es.length (entsOf es) := by
  rcases h.2 with ⟨rfl, h0⟩ | ⟨g, cap, cur, rfl, r⟩
  · exact ⟨none, 0, by rw [h0], .inl h0⟩
  · have hE : OwnE w B g cap es := h
    exact ⟨_, _, rfl, hE.entAt⟩

theorem wpList_append_re {w : World} {ops : Array Oper} {rest : List Oper} {o : Oper} {a : Act} {Q : Exit → Act → World → Prop} (hgd : o.guard = none) (s x : Operand) (t : TypeId)
    (ho : o.op = .call { callee := .builtin .append, args := #[s, x], argTypes := #[t, t] }) (ht : Try.prog.underlying t = some (.slice 63))
    (B : Nat) (v : Value) (es news : List En) (hs : a.eval s = v) (hown : RowE w B v es) (ad : Addr) (m c : Nat) (hx : a.eval x = .slice (some ad) m c) (hm : news.length = m)
    (hnews : ∀ j u, (cellsE news)[j]? = some u → w.cell? (ad.add j) = some u) (hB : B ≤ w.heap.size) (hlen : es.length + m ≤ 1000)
    (h : ∀ v' w', RowE w' B v' (es ++ news) → Below B w w' → wpList Try.prog ops Q rest (a.put o.dst v') w') : wpList Try.prog ops Q (o :: rest) a w := by
  obtain ⟨i0, hi', hz0, hs0, hb0⟩ := info_parts entry_info
  refine wpList_append_own w hgd s x t ho B 63 i0 _ 4 48 ht hi' hz0 hs0 hb0 rfl (by decide) _ es.length (cellsE es) hs hown ad m c (cellsE news) hx (by rw [cellsE_len, hm]) hnews (cellsE_one news) (by unfold maxLen; omega) (by omega) hB ?_
  intro v' w' h1 h2 h3
  refine h v' w' ?_ ((Below.refl B w).grown h2 hB fun k hk => (World.ownsRow.lt hown k hk).1)
  unfold RowE
  rw [List.length_append, hm, cellsE_append]
  exact h1

def slN : Value → Nat
  | .slice _ n _ => n
  | _ => 0

/-- s is the block of the row es by m. -/
def IsBlk (s : ByteArray) (es : List En) (m : Nat) : Prop := blkOk (entsOf es) es.length (m : Int) = true ∧ blkT (entsOf es) m es.length = s

def manyOf (s : ByteArray) : Int := tf4 (s.extract (s.size - 8) s.size)
def evOf (s : ByteArray) : Int := tf4 (s.extract (s.size - 4) s.size)
def leftOf (s : ByteArray) : ByteArray := s.extract 0 (s.size - 8 - 4 * (manyOf s).toNat)

theorem many_bd (s : ByteArray) : 0 ≤ manyOf s ∧ manyOf s ≤ 4294967295 := tf4_bd _
theorem ev_bd (s : ByteArray) : 0 ≤ evOf s ∧ evOf s ≤ 4294967295 := tf4_bd _

theorem blkOk_out {E : Ents} {n m : Nat} (h : blkOk E n (m : Int) = true) : rowOkB E n = true ∧ n ≠ 0 ∧ n ≤ 400 ∧ 1 ≤ m ∧ m ≤ 16 ∧ (∀ i, i < n → entOk E i = true) ∧ (blkT E m n).size ≤ 60000 := by
  unfold blkOk at h
  rw [Bool.and_eq_true, Bool.and_eq_true, Bool.and_eq_true, decide_eq_true_iff, decide_eq_true_iff, Int.toNat_natCast] at h
  obtain ⟨⟨⟨h1, h2⟩, h3⟩, h4⟩ := h
  have := of_decide_eq_true h3
  have h5 := rowOk_out h1
  exact ⟨h1, h2, h5.1, by omega, by omega, fun i hi => (h5.2 i hi).1, h4⟩

theorem blk_parts {s : ByteArray} {es : List En} {m : Nat} (h : IsBlk s es m) : 8 ≤ s.size ∧ s.size ≤ 60000 ∧ manyOf s = ((beg (entsOf es) m es.length).length : Int) ∧ evOf s = (m : Int) ∧ manyOf s ≤ ((s.size : Int) - 8) / 4 ∧ leftOf s = bod (entsOf es) m es.length := by
  obtain ⟨h1, rfl⟩ := h
  obtain ⟨_, _, hn, hm1, hm2, he, hz⟩ := blkOk_out h1
  have hs := blkT_size (entsOf es) m es.length
  have hb := beg_len (entsOf es) m es.length
  have f1 := fx4_size ((beg (entsOf es) m es.length).length : Int)
  have f2 := fx4_size (m : Int)
  have e1 : (blkT (entsOf es) m es.length).extract ((blkT (entsOf es) m es.length).size - 4) (blkT (entsOf es) m es.length).size = fx4 (m : Int) := by
    have e : (blkT (entsOf es) m es.length).size - 4 = (bod (entsOf es) m es.length ++ fxs (beg (entsOf es) m es.length) ++ fx4 (beg (entsOf es) m es.length).length).size := by
      rw [hs, ByteArray.size_append, ByteArray.size_append, fxs_size, f1]; omega
    rw [e]
    exact extract_behind _ _
  have e2 : (blkT (entsOf es) m es.length).extract ((blkT (entsOf es) m es.length).size - 8) (blkT (entsOf es) m es.length).size = fx4 (beg (entsOf es) m es.length).length ++ fx4 (m : Int) := by
    have e : (blkT (entsOf es) m es.length).size - 8 = (bod (entsOf es) m es.length ++ fxs (beg (entsOf es) m es.length)).size := by
      rw [hs, ByteArray.size_append, fxs_size]; omega
    have e' : blkT (entsOf es) m es.length = (bod (entsOf es) m es.length ++ fxs (beg (entsOf es) m es.length)) ++ (fx4 (beg (entsOf es) m es.length).length ++ fx4 (m : Int)) := by rw [blkT, ByteArray.append_assoc]
    rw [e, e']
    exact extract_behind _ _
  have a1 : manyOf (blkT (entsOf es) m es.length) = ((beg (entsOf es) m es.length).length : Int) := by
    rw [manyOf, e2]
    exact tf4_fx4 _ (by omega) (by omega) _
  have a2 : evOf (blkT (entsOf es) m es.length) = (m : Int) := by
    rw [evOf, e1]
    exact tf4_fx4' _ (by omega) (by omega)
  refine ⟨by omega, hz, a1, a2, by rw [a1]; omega, ?_⟩
  have e : (blkT (entsOf es) m es.length).size - 8 - 4 * (manyOf (blkT (entsOf es) m es.length)).toNat = (bod (entsOf es) m es.length).size := by
    rw [a1, Int.toNat_natCast]; omega
  rw [leftOf, e, blkT, ByteArray.append_assoc, ByteArray.append_assoc]
  exact extract_front _ _

theorem es_range (es : List En) : (List.range es.length).map (enAt (entsOf es)) = es := by
  apply List.ext_getElem?
  intro i
  rw [List.getElem?_map]
  by_cases hi : i < es.length
  · rw [List.getElem?_range hi, List.getElem?_eq_getElem hi]
    simp only [Option.map_some, enAt, entsOf, List.getD, List.getElem?_eq_getElem hi, Option.getD_some]
  · rw [List.getElem?_eq_none (by simpa using hi), List.getElem?_eq_none (by omega)]
    rfl

/-- What is read of a block is its row. -/
theorem blk_done {s : ByteArray} {es : List En} {m k : Nat} (h : IsBlk s es m) (hstop : (rdk m (leftOf s) k).2.2.size = 0 ∨ k = 401) (hgo : ∀ j, j < k → (rdk m (leftOf s) j).2.2.size ≠ 0) : (rdk m (leftOf s) k).1 = es ∧ k = es.length := by
  obtain ⟨_, _, hn, hm1, hm2, he, hz⟩ := blkOk_out h.1
  have hl := (blk_parts h).2.2.2.2.2
  rw [hl] at hstop hgo ⊢
  have hk : k = es.length := by
    rcases Nat.lt_trichotomy k es.length with hlt | heq | hgt
    · rcases hstop with h0 | h0
      · rw [rdk_put he k (by omega)] at h0
        have := sfx_pos (entsOf es) m k (es.length - k - 1)
        rw [show es.length - k - 1 + 1 = es.length - k by omega] at this
        simp only at h0
        omega
      · omega
    · exact heq
    · have := hgo es.length hgt
      rw [rdk_put he es.length (Nat.le_refl _), Nat.sub_self] at this
      exact absurd rfl this
  refine ⟨?_, hk⟩
  rw [hk, rdk_put he es.length (Nat.le_refl _)]
  exact es_range es

theorem blk_one {s : ByteArray} {es es' : List En} {m m' : Nat} (h : IsBlk s es m) (h' : IsBlk s es' m') : es = es' := by
  have hm : m = m' := by
    have a := (blk_parts h).2.2.2.1
    have b := (blk_parts h').2.2.2.1
    omega
  subst hm
  obtain ⟨_, _, _, _, _, he, _⟩ := blkOk_out h.1
  obtain ⟨_, _, _, _, _, he', _⟩ := blkOk_out h'.1
  have hl := (blk_parts h).2.2.2.2.2
  have hstop : (rdk m (leftOf s) es.length).2.2.size = 0 := by rw [hl, rdk_put he _ (Nat.le_refl _), Nat.sub_self]; rfl
  have hgo : ∀ j, j < es.length → (rdk m (leftOf s) j).2.2.size ≠ 0 := fun j hj => by
    rw [hl, rdk_put he j (by omega)]
    have := sfx_pos (entsOf es) m j (es.length - j - 1)
    rw [show es.length - j - 1 + 1 = es.length - j by omega] at this
    simp only
    omega
  rw [← (blk_done h (.inl hstop) hgo).1]
  exact (blk_done h' (.inl hstop) hgo).1

/-- What is answered of bytes that are read as a block. -/
def RB (s : ByteArray) (B : Nat) (w : World) (v : Value) (b : Bool) : Prop :=
  (b = true ∧ ∃ es m, IsBlk s es m ∧ RowE w B v es) ∨ (b = false ∧ v = .slice none 0 0 ∧ ∀ es m, ¬ IsBlk s es m)

theorem RB.no {s : ByteArray} {B : Nat} {w : World} (h : ∀ es m, ¬ IsBlk s es m) : RB s B w (.slice none 0 0) false := .inr ⟨rfl, rfl, h⟩

end Go.Proofs.Ytljmfdcilnbjaaa
