/- What is read of the bytes of a block is what was put into it. -/
import Derived.Test.YtljmfdcilnbjaacNxB
import Derived.Test.YtljmfdcilnbjaacBlkS
import Derived.Test.YtljmfdcilnbjaacLKeyTexts
import Derived.Test.YtljmfdcilnbjaacLSought
namespace Go.Proofs.Ytljmfdcilnbjaac
set_option maxRecDepth 100000
open Go.RowKit

theorem rnum_put (n : Int) (h0 : 0 ≤ n) (h1 : n ≤ 9223372036854775807) (r : ByteArray) : rnum (pv n ++ r) = (n, r, false) := by
  rw [rnum_some (take_put n h0 (by omega) r) (by omega), extract_behind]

theorem rtext_put (t r : ByteArray) (ht : t.size ≤ 60000) : rtext (putText t ++ r) = (t, r, false) := by
  have e : putText t ++ r = pv t.size ++ (t ++ r) := by rw [putText, ByteArray.append_assoc]
  have h := take_put (t.size : Int) (by omega) (by omega) (t ++ r)
  rw [← e] at h
  have hz : (putText t ++ r).size = (pv (t.size : Int)).size + (t.size + r.size) := by rw [e, ByteArray.size_append, ByteArray.size_append]
  have hx : rtx (putText t ++ r) = some ((pv (t.size : Int)).size, (pv (t.size : Int)).size + t.size) := by
    rw [rtx, h]
    simp only
    rw [if_neg (by omega), Int.toNat_natCast]
  rw [rtext_some hx]
  have e1 : (putText t ++ r).extract ((pv (t.size : Int)).size + t.size) (putText t ++ r).size = r := by
    have : (pv (t.size : Int)).size + t.size = (putText t).size := by rw [putText, ByteArray.size_append]
    rw [this, extract_behind]
  have e2 : (putText t ++ r).extract (pv (t.size : Int)).size ((pv (t.size : Int)).size + t.size) = t := by
    have hx : (putText t ++ r).extract (pv (t.size : Int)).size ((pv (t.size : Int)).size + t.size) = ((putText t ++ r).extract 0 ((pv (t.size : Int)).size + t.size)).extract (pv (t.size : Int)).size ((pv (t.size : Int)).size + t.size) := by
      rw [ByteArray.extract_extract]; congr 1 <;> omega
    have hf : (putText t ++ r).extract 0 ((pv (t.size : Int)).size + t.size) = putText t := by
      have := extract_front (putText t) r
      rwa [putText, ByteArray.size_append] at this
    rw [hx, hf]
    have := extract_behind (pv (t.size : Int)) t
    rwa [ByteArray.size_append] at this
  rw [e1, e2]

theorem cpl_join : ∀ a b : List UInt8, a.take (cpl a b) ++ b.drop (cpl a b) = b := fun a b => by
  rw [cpl_take, List.take_append_drop]

theorem shw_join (a b : ByteArray) : a.extract 0 (shw a b) ++ b.extract (shw a b) b.size = b := by
  apply ByteArray.ext
  apply Array.toList_inj.1
  have h := cpl_join a.data.toList b.data.toList
  have hl := shw_le a b
  rw [ByteArray.data_append, Array.toList_append, ByteArray.data_extract, ByteArray.data_extract, Array.toList_extract, Array.toList_extract]
  simp only [List.extract_eq_drop_take', List.drop_zero]
  have e1 : b.size = b.data.toList.length := by simp
  rw [e1, List.take_length]
  exact h

theorem rkE_key {u : ByteArray} {q k : Int} (h : keyOkB u q k = true) : rkE (keyText u q k) = (u, q, k) ∧ rkB (keyText u q k) = true := by
  have h1 := readKey_put h
  rw [rk_eq] at h1
  injection h1 with h1
  have h2 : (#[Value.agg #[.string (rkE (keyText u q k)).1, .int .i64 (rkE (keyText u q k)).2.1, .int .i64 (rkE (keyText u q k)).2.2], .bool (rkB (keyText u q k))] : Array Value).toList = (#[Value.agg #[.string u, .int .i64 q, .int .i64 k], .bool true] : Array Value).toList := by rw [h1]
  simp only [List.cons.injEq, Value.agg.injEq, Array.mk.injEq, Value.string.injEq, Value.int.injEq, true_and, and_true, Value.bool.injEq] at h2
  obtain ⟨⟨a, b, c⟩, d⟩ := h2
  exact ⟨Prod.ext a (Prod.ext b c), d⟩

/-- One entry, read again. -/
theorem nx_put {E : Ents} {i m : Nat} (h : entOk E i = true) (ah R : ByteArray) (hah : ah.size ≤ 1000) :
    nxT m i ah (entT m i ah (ktx E i) (E.X i) ++ R) = ktx E i ∧ nxR (entT m i ah (ktx E i) (E.X i) ++ R) = R ∧ nxE m i ah (entT m i ah (ktx E i) (E.X i) ++ R) = ⟨E.U i, E.Q i, E.K i, E.X i⟩ := by
  have hk := keyOk_of_ent h
  have hx := entOk_x h
  have hkt := ktSize (E.U i) (E.Q i) (E.K i)
  have hb := bas_size m i ah
  have hs := shw_le (basT m i ah) (ktx E i)
  have hj := shw_join (basT m i ah) (ktx E i)
  have hr := rkE_key hk
  have h1 : rnum (entT m i ah (ktx E i) (E.X i) ++ R) = ((shw (basT m i ah) (ktx E i) : Int), putText ((ktx E i).extract (shw (basT m i ah) (ktx E i)) (ktx E i).size) ++ (putText (E.X i) ++ R), false) := by
    rw [entT, ByteArray.append_assoc, ByteArray.append_assoc]
    exact rnum_put _ (by omega) (by omega) _
  have h2 := rtext_put ((ktx E i).extract (shw (basT m i ah) (ktx E i)) (ktx E i).size) (putText (E.X i) ++ R) (by rw [ByteArray.size_extract]; unfold ktx; omega)
  have h3 := rtext_put (E.X i) R (by omega)
  have eT : nxT m i ah (entT m i ah (ktx E i) (E.X i) ++ R) = ktx E i := by
    unfold nxT nxS
    rw [h1]
    simp only
    rw [h2]
    simp only
    rw [show (min (shw (basT m i ah) (ktx E i) : Int) ((basT m i ah).size : Int)).toNat = shw (basT m i ah) (ktx E i) by omega]
    exact hj
  refine ⟨eT, ?_, ?_⟩
  · unfold nxR
    rw [h1]
    simp only
    rw [h2]
    simp only
    rw [h3]
  · unfold nxE
    have hr' : rkE (ktx E i) = (E.U i, E.Q i, E.K i) := hr.1
    rw [eT, hr']
    unfold nxX
    rw [h1]
    simp only
    rw [h2]
    simp only
    rw [h3]

/-- The bytes of f entries from place k on. -/
def sfx (E : Ents) (m : Nat) : Nat → Nat → ByteArray
  | _, 0 => ⟨#[]⟩
  | k, f + 1 => entT m k (ahd E k) (ktx E k) (E.X k) ++ sfx E m (k + 1) f
theorem bod_sfx (E : Ents) (m : Nat) : ∀ f k, bod E m (k + f) = bod E m k ++ sfx E m k f
  | 0, k => by rw [sfx, append_nil_ba]; rfl
  | f + 1, k => by
    rw [sfx, ← ByteArray.append_assoc, show k + (f + 1) = (k + 1) + f by omega, bod_sfx E m f (k + 1)]
    rfl
theorem sfx_pos (E : Ents) (m k f : Nat) : 0 < (sfx E m k (f + 1)).size := by
  rw [sfx, entT, ByteArray.size_append, ByteArray.size_append, ByteArray.size_append]
  have := pv_size (shw (basT m k (ahd E k)) (ktx E k) : Int)
  omega

/-- The first entries of r, the key's text and the bytes behind them. -/
def rdk (m : Nat) (r : ByteArray) : Nat → List En × ByteArray × ByteArray
  | 0 => ([], ⟨#[]⟩, r)
  | k + 1 => ((rdk m r k).1 ++ [nxE m k (rdk m r k).2.1 (rdk m r k).2.2], nxT m k (rdk m r k).2.1 (rdk m r k).2.2, nxR (rdk m r k).2.2)
theorem rdk_len (m : Nat) (r : ByteArray) : ∀ k, (rdk m r k).1.length = k
  | 0 => rfl
  | k + 1 => by simp [rdk, rdk_len m r k]
theorem rdk_size (m : Nat) (r : ByteArray) : ∀ k, (rdk m r k).2.1.size + (rdk m r k).2.2.size ≤ r.size
  | 0 => by simp only [rdk]; exact Nat.le_of_eq (Nat.zero_add _)
  | k + 1 => by
    have h1 := rdk_size m r k
    have h2 := (nx_size m k (rdk m r k).2.1 (rdk m r k).2.2).1
    simp only [rdk]
    omega

/-- An entry of the row. -/
def enAt (E : Ents) (i : Nat) : En := ⟨E.U i, E.Q i, E.K i, E.X i⟩
theorem rdk_put {E : Ents} {m n : Nat} (h : ∀ i, i < n → entOk E i = true) : ∀ k, k ≤ n → rdk m (bod E m n) k = ((List.range k).map (enAt E), ahd E k, sfx E m k (n - k))
  | 0, _ => by
    have := bod_sfx E m n 0
    rw [Nat.zero_add] at this
    rw [this]
    simp only [rdk, bod, ahd, Nat.sub_zero, List.range_zero, List.map_nil]
    rw [show (⟨#[]⟩ : ByteArray) ++ sfx E m 0 n = sfx E m 0 n from ByteArray.empty_append]
  | k + 1, hk => by
    have h1 := rdk_put (m := m) h k (by omega)
    have e : n - k = (n - (k + 1)) + 1 := by omega
    have hs : sfx E m k (n - k) = entT m k (ahd E k) (ktx E k) (E.X k) ++ sfx E m (k + 1) (n - (k + 1)) := by rw [e]; rfl
    obtain ⟨a, b, c⟩ := nx_put (m := m) (h k (by omega)) (ahd E k) (sfx E m (k + 1) (n - (k + 1))) (by have := ahd_size E k; omega)
    simp only [rdk, h1]
    rw [hs, a, b, c, List.range_succ, List.map_append]
    rfl

end Go.Proofs.Ytljmfdcilnbjaac

/- When bytes are the block of a row; rows of one's own that are read. -/
namespace Go.Proofs.Ytljmfdcilnbjaac
set_option maxRecDepth 100000
open Go.RowKit

/-- A row of entries of one's own, maybe nil. -/
def RowE (w : World) (B : Nat) (v : Value) (es : List En) : Prop := w.ownsRow B 53 4 v es.length (cellsE es)

theorem RowE.nil (w : World) (B : Nat) : RowE w B (.slice none 0 0) [] := World.ownsRow_nil _ _ _ _
theorem RowE.next {w w' : World} {B : Nat} {v : Value} {es : List En} (h : RowE w B v es) (hb : Below w.heap.size w w') : RowE w' B v es := row_next h hb
theorem RowE.mv {w w' : World} {B F : Nat} {v : Value} {es : List En} (h : RowE w B v es) (hm : Mv F w w') (hF : F < B) : RowE w' B v es := row_mv h hm hF
theorem RowE.low {w : World} {B B' : Nat} {v : Value} {es : List En} (h : RowE w B v es) (hB : B' ≤ B) : RowE w B' v es := by
  refine ⟨h.1, ?_⟩
  rcases h.2 with hn | ⟨g, cap, cur, rfl, hg, r⟩
  · exact .inl hn
  · exact .inr ⟨g, cap, cur, rfl, by omega, r⟩
theorem RowE.at {w : World} {B : Nat} {v : Value} {es : List En} (h : RowE w B v es) : ∃ a cap, v = .slice a es.length cap ∧ EntAt w w.heap.size a es.length (entsOf es) := by
  rcases h.2 with ⟨rfl, h0⟩ | ⟨g, cap, cur, rfl, r⟩
  · exact ⟨none, 0, by rw [h0], .inl h0⟩
  · have hE : OwnE w B g cap es := h
    exact ⟨_, _, rfl, hE.entAt⟩

theorem wpList_append_re {w : World} {ops : Array Oper} {rest : List Oper} {o : Oper} {a : Act} {Q : Exit → Act → World → Prop} (hgd : o.guard = none) (s x : Operand) (t : TypeId)
    (ho : o.op = .call { callee := .builtin .append, args := #[s, x], argTypes := #[t, t] }) (ht : Try.prog.underlying t = some (.slice 53))
    (B : Nat) (v : Value) (es news : List En) (hs : a.eval s = v) (hown : RowE w B v es) (ad : Addr) (m c : Nat) (hx : a.eval x = .slice (some ad) m c) (hm : news.length = m)
    (hnews : ∀ j u, (cellsE news)[j]? = some u → w.cell? (ad.add j) = some u) (hB : B ≤ w.heap.size) (hlen : es.length + m ≤ 1000)
    (h : ∀ v' w', RowE w' B v' (es ++ news) → Below B w w' → wpList Try.prog ops Q rest (a.put o.dst v') w') : wpList Try.prog ops Q (o :: rest) a w := by
  obtain ⟨i0, hi', hz0, hs0, hb0⟩ := info_parts entry_info
  refine wpList_append_own w hgd s x t ho B 53 i0 _ 4 48 ht hi' hz0 hs0 hb0 rfl (by decide) _ es.length (cellsE es) hs hown ad m c (cellsE news) hx (by rw [cellsE_len, hm]) hnews (cellsE_one news) (by unfold maxLen; omega) (by omega) hB ?_
  intro v' w' h1 h2 h3
  refine h v' w' ?_ ((Below.refl B w).grown h2 hB fun k hk => (World.ownsRow.lt hown k hk).1)
  unfold RowE
  rw [List.length_append, hm, cellsE_append]
  exact h1

def slN : Value → Nat
  | .slice _ n _ => n
  | _ => 0

/-- s is the block of the row es by m. -/
def IsBlk (s : ByteArray) (es : List En) (m : Nat) : Prop := blkOk (entsOf es) es.length (m : Int) = true ∧ blkT (entsOf es) m es.length = s

def manyOf (s : ByteArray) : Int := tf4 (s.extract (s.size - 8) s.size)
def evOf (s : ByteArray) : Int := tf4 (s.extract (s.size - 4) s.size)
def leftOf (s : ByteArray) : ByteArray := s.extract 0 (s.size - 8 - 4 * (manyOf s).toNat)

theorem many_bd (s : ByteArray) : 0 ≤ manyOf s ∧ manyOf s ≤ 4294967295 := tf4_bd _
theorem ev_bd (s : ByteArray) : 0 ≤ evOf s ∧ evOf s ≤ 4294967295 := tf4_bd _

theorem blkOk_out {E : Ents} {n m : Nat} (h : blkOk E n (m : Int) = true) : rowOkB E n = true ∧ n ≠ 0 ∧ n ≤ 400 ∧ 1 ≤ m ∧ m ≤ 16 ∧ (∀ i, i < n → entOk E i = true) ∧ (blkT E m n).size ≤ 60000 := by
  unfold blkOk at h
  rw [Bool.and_eq_true, Bool.and_eq_true, Bool.and_eq_true, decide_eq_true_iff, decide_eq_true_iff, Int.toNat_natCast] at h
  obtain ⟨⟨⟨h1, h2⟩, h3⟩, h4⟩ := h
  have := of_decide_eq_true h3
  have h5 := rowOk_out h1
  exact ⟨h1, h2, h5.1, by omega, by omega, fun i hi => (h5.2 i hi).1, h4⟩

theorem blk_parts {s : ByteArray} {es : List En} {m : Nat} (h : IsBlk s es m) : 8 ≤ s.size ∧ s.size ≤ 60000 ∧ manyOf s = ((beg (entsOf es) m es.length).length : Int) ∧ evOf s = (m : Int) ∧ manyOf s ≤ ((s.size : Int) - 8) / 4 ∧ leftOf s = bod (entsOf es) m es.length := by
  obtain ⟨h1, rfl⟩ := h
  obtain ⟨_, _, hn, hm1, hm2, he, hz⟩ := blkOk_out h1
  have hs := blkT_size (entsOf es) m es.length
  have hb := beg_len (entsOf es) m es.length
  have f1 := fx4_size ((beg (entsOf es) m es.length).length : Int)
  have f2 := fx4_size (m : Int)
  have e1 : (blkT (entsOf es) m es.length).extract ((blkT (entsOf es) m es.length).size - 4) (blkT (entsOf es) m es.length).size = fx4 (m : Int) := by
    have e : (blkT (entsOf es) m es.length).size - 4 = (bod (entsOf es) m es.length ++ fxs (beg (entsOf es) m es.length) ++ fx4 (beg (entsOf es) m es.length).length).size := by
      rw [hs, ByteArray.size_append, ByteArray.size_append, fxs_size, f1]; omega
    rw [e]
    exact extract_behind _ _
  have e2 : (blkT (entsOf es) m es.length).extract ((blkT (entsOf es) m es.length).size - 8) (blkT (entsOf es) m es.length).size = fx4 (beg (entsOf es) m es.length).length ++ fx4 (m : Int) := by
    have e : (blkT (entsOf es) m es.length).size - 8 = (bod (entsOf es) m es.length ++ fxs (beg (entsOf es) m es.length)).size := by
      rw [hs, ByteArray.size_append, fxs_size]; omega
    have e' : blkT (entsOf es) m es.length = (bod (entsOf es) m es.length ++ fxs (beg (entsOf es) m es.length)) ++ (fx4 (beg (entsOf es) m es.length).length ++ fx4 (m : Int)) := by rw [blkT, ByteArray.append_assoc]
    rw [e, e']
    exact extract_behind _ _
  have a1 : manyOf (blkT (entsOf es) m es.length) = ((beg (entsOf es) m es.length).length : Int) := by
    rw [manyOf, e2]
    exact tf4_fx4 _ (by omega) (by omega) _
  have a2 : evOf (blkT (entsOf es) m es.length) = (m : Int) := by
    rw [evOf, e1]
    exact tf4_fx4' _ (by omega) (by omega)
  refine ⟨by omega, hz, a1, a2, by rw [a1]; omega, ?_⟩
  have e : (blkT (entsOf es) m es.length).size - 8 - 4 * (manyOf (blkT (entsOf es) m es.length)).toNat = (bod (entsOf es) m es.length).size := by
    rw [a1, Int.toNat_natCast]; omega
  rw [leftOf, e, blkT, ByteArray.append_assoc, ByteArray.append_assoc]
  exact extract_front _ _

theorem es_range (es : List En) : (List.range es.length).map (enAt (entsOf es)) = es := by
  apply List.ext_getElem?
  intro i
  rw [List.getElem?_map]
  by_cases hi : i < es.length
  · rw [List.getElem?_range hi, List.getElem?_eq_getElem hi]
    simp only [Option.map_some, enAt, entsOf, List.getD, List.getElem?_eq_getElem hi, Option.getD_some]
  · rw [List.getElem?_eq_none (by simpa using hi), List.getElem?_eq_none (by omega)]
    rfl

/-- What is read of a block is its row. -/
theorem blk_done {s : ByteArray} {es : List En} {m k : Nat} (h : IsBlk s es m) (hstop : (rdk m (leftOf s) k).2.2.size = 0 ∨ k = 401) (hgo : ∀ j, j < k → (rdk m (leftOf s) j).2.2.size ≠ 0) : (rdk m (leftOf s) k).1 = es ∧ k = es.length := by
  obtain ⟨_, _, hn, hm1, hm2, he, hz⟩ := blkOk_out h.1
  have hl := (blk_parts h).2.2.2.2.2
  rw [hl] at hstop hgo ⊢
  have hk : k = es.length := by
    rcases Nat.lt_trichotomy k es.length with hlt | heq | hgt
    · rcases hstop with h0 | h0
      · rw [rdk_put he k (by omega)] at h0
        have := sfx_pos (entsOf es) m k (es.length - k - 1)
        rw [show es.length - k - 1 + 1 = es.length - k by omega] at this
        simp only at h0
        omega
      · omega
    · exact heq
    · have := hgo es.length hgt
      rw [rdk_put he es.length (Nat.le_refl _), Nat.sub_self] at this
      exact absurd rfl this
  refine ⟨?_, hk⟩
  rw [hk, rdk_put he es.length (Nat.le_refl _)]
  exact es_range es

theorem blk_one {s : ByteArray} {es es' : List En} {m m' : Nat} (h : IsBlk s es m) (h' : IsBlk s es' m') : es = es' := by
  have hm : m = m' := by
    have a := (blk_parts h).2.2.2.1
    have b := (blk_parts h').2.2.2.1
    omega
  subst hm
  obtain ⟨_, _, _, _, _, he, _⟩ := blkOk_out h.1
  obtain ⟨_, _, _, _, _, he', _⟩ := blkOk_out h'.1
  have hl := (blk_parts h).2.2.2.2.2
  have hstop : (rdk m (leftOf s) es.length).2.2.size = 0 := by rw [hl, rdk_put he _ (Nat.le_refl _), Nat.sub_self]; rfl
  have hgo : ∀ j, j < es.length → (rdk m (leftOf s) j).2.2.size ≠ 0 := fun j hj => by
    rw [hl, rdk_put he j (by omega)]
    have := sfx_pos (entsOf es) m j (es.length - j - 1)
    rw [show es.length - j - 1 + 1 = es.length - j by omega] at this
    simp only
    omega
  rw [← (blk_done h (.inl hstop) hgo).1]
  exact (blk_done h' (.inl hstop) hgo).1

/-- What is answered of bytes that are read as a block. -/
def RB (s : ByteArray) (B : Nat) (w : World) (v : Value) (b : Bool) : Prop :=
  (b = true ∧ ∃ es m, IsBlk s es m ∧ RowE w B v es) ∨ (b = false ∧ v = .slice none 0 0 ∧ ∀ es m, ¬ IsBlk s es m)

theorem RB.no {s : ByteArray} {B : Nat} {w : World} (h : ∀ es m, ¬ IsBlk s es m) : RB s B w (.slice none 0 0) false := .inr ⟨rfl, rfl, h⟩

end Go.Proofs.Ytljmfdcilnbjaac

/- Where the reading of a block begins. -/
namespace Go.Proofs.Ytljmfdcilnbjaac
set_option maxRecDepth 100000
open Go.RowKit

def broOk (s : ByteArray) : Bool := decide (8 ≤ s.size ∧ s.size ≤ 60000 ∧ manyOf s ≤ ((s.size : Int) - 8) / 4) && everyB (evOf s)

theorem bro_blk {s : ByteArray} {es : List En} {m : Nat} (h : IsBlk s es m) : broOk s = true := by
  obtain ⟨h1, h2, h3, h4, h5, h6⟩ := blk_parts h
  have hm := blkOk_out h.1
  unfold broOk
  rw [Bool.and_eq_true]
  exact ⟨decide_eq_true ⟨h1, h2, h5⟩, by rw [h4]; exact decide_eq_true (by omega)⟩
theorem bro_no {s : ByteArray} (h : broOk s = false) : ∀ es m, ¬ IsBlk s es m := fun es m hb => by rw [bro_blk hb] at h; cases h
theorem bro_out {s : ByteArray} (h : broOk s = true) : 8 ≤ s.size ∧ s.size ≤ 60000 ∧ manyOf s ≤ ((s.size : Int) - 8) / 4 ∧ everyB (evOf s) = true := by
  unfold broOk at h
  rw [Bool.and_eq_true, decide_eq_true_iff] at h
  exact ⟨h.1.1, h.1.2.1, h.1.2.2, h.2⟩

def broV (s : ByteArray) : Value :=
  if broOk s then .tuple #[.agg #[.int .i64 (evOf s), .int .i64 0, .string ⟨#[]⟩, .string (leftOf s), .bool false], .bool true]
  else .tuple #[.agg #[.int .i64 0, .int .i64 0, .string ⟨#[]⟩, .string ⟨#[]⟩, .bool false], .bool false]

theorem broV_no {s : ByteArray} (h : broOk s = false) : broV s = .tuple #[.agg #[.int .i64 0, .int .i64 0, .string ⟨#[]⟩, .string ⟨#[]⟩, .bool false], .bool false] := by rw [broV, h]; rfl
theorem broV_yes {s : ByteArray} (h : broOk s = true) : broV s = .tuple #[.agg #[.int .i64 (evOf s), .int .i64 0, .string ⟨#[]⟩, .string (leftOf s), .bool false], .bool true] := by rw [broV, h]; rfl

set_option maxHeartbeats 2000000 in
theorem impl_blockReaderOf (s : ByteArray) (hs : s.size ≤ 1048576) (w : World) :
    Calls Try.prog 33 #[.string s] w fun e w' => e = .returned (broV s) ∧ Below w.heap.size w w' := by
  by_cases h1 : s.size < 8
  · have HV := hide (broV_no (s := s) (by unfold broOk; rw [decide_eq_false (by omega), Bool.false_and]))
    have g1 : (s.size : Int) - 8 < 0 := by omega
    clear h1
    go_enter Try.func33, Try.ntmps33
    go_wp2
    refine bodyPost_ret (v := .tuple #[.agg #[.int .i64 0, .int .i64 0, .string ⟨#[]⟩, .string ⟨#[]⟩, .bool false], .bool false]) (by simp [results, Try.results33, go_sem]) rfl ⟨by rw [HV.out], ?_⟩
    go_grown
  · obtain ⟨a, ha⟩ : ∃ a, s.size = a + 8 := ⟨s.size - 8, by omega⟩
    have hsx : (s.size : Int) - 8 = (a : Int) := by omega
    have ha0 : ¬ ((a : Int) < 0) := by omega
    by_cases h2 : 60000 < s.size
    · have HV := hide (broV_no (s := s) (by unfold broOk; rw [decide_eq_false (by omega), Bool.false_and]))
      have g2 : (60000 : Int) < (s.size : Int) := by omega
      clear h1 h2 ha
      go_enter Try.func33, Try.ntmps33
      go_wp2
      refine bodyPost_ret (v := .tuple #[.agg #[.int .i64 0, .int .i64 0, .string ⟨#[]⟩, .string ⟨#[]⟩, .bool false], .bool false]) (by simp [results, Try.results33, go_sem]) rfl ⟨by rw [HV.out], ?_⟩
      go_grown
    · have g2 : ¬ (60000 : Int) < (s.size : Int) := by omega
      have z1 : 4 ≤ (s.extract a s.size).size := by simp; omega
      have z2 : 4 ≤ (s.extract (a + 4) s.size).size := by simp; omega
      have e1 : tf4 (s.extract a s.size) = manyOf s := by rw [manyOf, show s.size - 8 = a by omega]
      have e2 : tf4 (s.extract (a + 4) s.size) = evOf s := by rw [evOf, show s.size - 4 = a + 4 by omega]
      have hsl : (a : Int) ≤ (s.size : Int) := by omega
      have hsl4 : (a : Int) + 4 ≤ (s.size : Int) := by omega
      have ca := fun wx => e1 ▸ impl_fixedAt_yes (s.extract a s.size) z1 wx
      have cb := fun wx => e2 ▸ impl_fixedAt_yes (s.extract (a + 4) s.size) z2 wx
      obtain ⟨p0, p1⟩ := many_bd s
      obtain ⟨q0, q1⟩ := ev_bd s
      have HB0 := hide (below_one w (.cells #[.int .i64 0, .int .i64 0, .string ⟨#[]⟩, .string ⟨#[]⟩, .bool false] 68))
      have HX0 := hide (BoxIs.new w #[.int .i64 0, .int .i64 0, .string ⟨#[]⟩, .string ⟨#[]⟩, .bool false] 68 rfl)
      have HD : Hid (broOk s = (decide (8 ≤ s.size ∧ s.size ≤ 60000 ∧ manyOf s ≤ ((s.size : Int) - 8) / 4) && everyB (evOf s))) := rfl
      have HL : Hid (leftOf s = s.extract 0 (s.size - 8 - 4 * (manyOf s).toNat)) := rfl
      have HN := hide (fun h => broV_no (s := s) h)
      have HY := hide (fun h => broV_yes (s := s) h)
      clear e1 e2 z1 z2
      generalize manyOf s = c at *
      generalize evOf s = ev at *
      have hwc : IntKind.i64.wrap c = c := by rw [IntKind.wrap_i64]; omega
      have hwe : IntKind.i64.wrap ev = ev := by rw [IntKind.wrap_i64]; omega
      have HH : Hid (s.size = a + 8 ∧ ¬ s.size < 8 ∧ ¬ 60000 < s.size) := ⟨ha, h1, h2⟩
      clear ha h1 h2
      go_enter Try.func33, Try.ntmps33
      go_wp2_with fail
      generalize w.alloc (.cells #[.int .i64 0, .int .i64 0, .string ⟨#[]⟩, .string ⟨#[]⟩, .bool false] 68) = W at HB0 HX0 ⊢
      refine (ca _).mono ?_
      rintro e w1 ⟨rfl, hb1⟩
      have HB1 := hide (HB0.out.trans (hb1.mono HB0.out.size))
      have HX1 := hide (HX0.out.next hb1)
      clear hb1 ca HB0 HX0
      go_wp2_with fail
      refine (cb _).mono ?_
      rintro e w2 ⟨rfl, hb2⟩
      have HB2 := hide (HB1.out.trans (hb2.mono HB1.out.size))
      have HX2 := hide (HX1.out.next hb2)
      clear hb2 cb HB1 HX1
      obtain ⟨x0, x1, x2, x3, x4⟩ : w2.cell? ⟨w.heap.size, 0, none⟩ = some (.int .i64 0) ∧ w2.cell? ⟨w.heap.size, 1, none⟩ = some (.int .i64 0) ∧ w2.cell? ⟨w.heap.size, 2, none⟩ = some (.string ⟨#[]⟩) ∧ w2.cell? ⟨w.heap.size, 3, none⟩ = some (.string ⟨#[]⟩) ∧ w2.cell? ⟨w.heap.size, 4, none⟩ = some (.bool false) :=
        ⟨HX2.out.cell 0, HX2.out.cell 1, HX2.out.cell 2, HX2.out.cell 3, HX2.out.cell 4⟩
      have xf := HX2.out.free
      by_cases h3 : (a : Int) / 4 < c
      · have hb : broOk s = false := by rw [HD.out, decide_eq_false (by have := HH.out; omega), Bool.false_and]
        have HV := hide (HN.out hb)
        clear HY HN HD HL hb
        go_wp2
        refine bodyPost_ret (v := .tuple #[.agg #[.int .i64 0, .int .i64 0, .string ⟨#[]⟩, .string ⟨#[]⟩, .bool false], .bool false]) (by simp [results, Try.results33, go_sem, x0, x1, x2, x3, x4]) rfl ⟨by rw [HV.out], ?_⟩
        exact ((((HB2.out.setCell (Nat.le_refl _) _).setCell (Nat.le_refl _) _).setCell (Nat.le_refl _) _).setCell (Nat.le_refl _) _).setCell (Nat.le_refl _) _
      · cases he : everyB ev with
        | false =>
          have ce := fun wx => he ▸ impl_everyOk ev wx
          have hb : broOk s = false := by rw [HD.out, he, Bool.and_false]
          have HV := hide (HN.out hb)
          clear HY HN HD HL hb he
          go_wp2_with fail
          refine (ce _).mono ?_
          rintro e w3 ⟨rfl, rfl⟩
          clear ce
          go_wp2
          refine bodyPost_ret (v := .tuple #[.agg #[.int .i64 0, .int .i64 0, .string ⟨#[]⟩, .string ⟨#[]⟩, .bool false], .bool false]) (by simp [results, Try.results33, go_sem, x0, x1, x2, x3, x4]) rfl ⟨by rw [HV.out], ?_⟩
          exact ((((HB2.out.setCell (Nat.le_refl _) _).setCell (Nat.le_refl _) _).setCell (Nat.le_refl _) _).setCell (Nat.le_refl _) _).setCell (Nat.le_refl _) _
        | true =>
          have ce := fun wx => he ▸ impl_everyOk ev wx
          have hb : broOk s = true := by rw [HD.out, he, Bool.and_true]; exact decide_eq_true (by have := HH.out; omega)
          have HV := hide (HY.out hb)
          obtain ⟨n, rfl⟩ := Int.eq_ofNat_of_zero_le p0
          obtain ⟨d, hd⟩ : ∃ d, a = d + 4 * n := ⟨a - 4 * n, by omega⟩
          have hdi : (a : Int) - (n : Int) * 4 = (d : Int) := by omega
          have hdi2 : (a : Int) - 4 * (n : Int) = (d : Int) := by omega
          have hds : (d : Int) ≤ (s.size : Int) := by omega
          have HL2 : Hid (leftOf s = s.extract 0 d) := by show _ = _; rw [HL.out]; congr 1; have := HH.out; omega
          clear HY HN HD HL hb he hd
          go_wp2_with fail
          refine (ce _).mono ?_
          rintro e w3 ⟨rfl, rfl⟩
          clear ce
          go_wp2
          refine bodyPost_ret (v := .tuple #[.agg #[.int .i64 ev, .int .i64 0, .string ⟨#[]⟩, .string (s.extract 0 d), .bool false], .bool true]) (by simp [results, Try.results33, go_sem, x0, x1, x2, x3, x4]) rfl ⟨by rw [HV.out, HL2.out], ?_⟩
          exact ((((HB2.out.setCell (Nat.le_refl _) _).setCell (Nat.le_refl _) _).setCell (Nat.le_refl _) _).setCell (Nat.le_refl _) _).setCell (Nat.le_refl _) _

end Go.Proofs.Ytljmfdcilnbjaac

/- How the model reads a block: an entry from the bytes, by its own small readers. -/
namespace Go.Proofs.Ytljmfdcilnbjaac
set_option maxRecDepth 100000
open Go.RowKit

def vPart (s : ByteArray) : Int × ByteArray × Bool :=
  match tva s 10 0 0 with
  | none => (0, ⟨#[]⟩, false)
  | some (n, k) => (n, s.extract k s.size, true)
theorem takeVar_v (s : ByteArray) : takeVar s = .tuple #[.int .u64 (vPart s).1, .string (vPart s).2.1, .bool (vPart s).2.2] := by
  unfold takeVar vPart
  cases tva s 10 0 0 with
  | none => rfl
  | some x => rfl
theorem vPart_bd (s : ByteArray) : 0 ≤ (vPart s).1 ∧ (vPart s).1 < 18446744073709551616 ∧ (vPart s).2.1.size ≤ s.size := by
  unfold vPart
  cases h : tva s 10 0 0 with
  | none => exact ⟨Int.le_refl 0, show (0 : Int) < 18446744073709551616 by decide, Nat.zero_le _⟩
  | some x =>
    obtain ⟨n, k⟩ := x
    have := put_take s h
    exact ⟨this.1, this.2.1, by simp only [ByteArray.size_extract]; omega⟩
theorem vPart_put (n : Int) (h0 : 0 ≤ n) (h1 : n < 18446744073709551616) (r : ByteArray) : vPart (pv n ++ r) = (n, r, true) := by
  unfold vPart
  rw [take_put n h0 h1 r]
  simp only
  rw [extract_behind]

theorem takeText_v (r : ByteArray) : takeText r = .tuple #[.string (rtext r).1, .string (rtext r).2.1, .bool (!(rtext r).2.2)] := by
  cases h : rtx r with
  | none =>
    have hn := rtx_none h
    rw [rtext_none h]
    cases hv : tva r 10 0 0 with
    | none => rw [takeText, hv]; rfl
    | some x => exact (Ending.returned.inj (ret_text_no hv (hn x.1 x.2 hv))).symm
  | some x =>
    obtain ⟨k, e⟩ := x
    obtain ⟨m, rfl, h1, h2⟩ := rtx_some h
    rw [rtext_some h]
    exact (Ending.returned.inj (ret_text_yes (a := r.extract k (k + m)) (b := r.extract (k + m) r.size) h1 h2 (by rw [Int.toNat_natCast]) (by rw [Int.toNat_natCast]))).symm

/-- How far the model is, whatever row s is the block of. -/
def At (s : ByteArray) (row : List En) (last left : ByteArray) : Prop :=
  ∀ es m, IsBlk s es m → row.length ≤ es.length ∧ row = es.take row.length ∧ last = ahd (entsOf es) row.length ∧ left = sfx (entsOf es) m row.length (es.length - row.length)

theorem At.start {s : ByteArray} : At s [] ⟨#[]⟩ (leftOf s) := fun es m h => by
  refine ⟨Nat.zero_le _, rfl, rfl, ?_⟩
  rw [(blk_parts h).2.2.2.2.2]
  have := bod_sfx (entsOf es) m es.length 0
  rw [Nat.zero_add] at this
  rw [this]
  exact ByteArray.empty_append

theorem take_more {es : List En} {k : Nat} (h : k < es.length) : es.take k ++ [enAt (entsOf es) k] = es.take (k + 1) := by
  rw [List.take_succ_eq_append_getElem h]
  congr 1
  simp only [enAt, entsOf, List.getD, List.getElem?_eq_getElem h, Option.getD_some]

/-- Where something is left, the next entry is there. -/
theorem At.step {s : ByteArray} {row : List En} {last left : ByteArray} (h : At s row last left) (hl : left.size ≠ 0) {es : List En} {m : Nat} (hb : IsBlk s es m) :
    (vPart left).2.2 = true ∧ (rtext (vPart left).2.1).2.2 = false ∧ (rtext (rtext (vPart left).2.1).2.1).2.2 = false ∧ (vPart left).1 ≤ (last.size : Int) ∧
    rkB (last.extract 0 (vPart left).1.toNat ++ (rtext (vPart left).2.1).1) = true ∧ row.length < 400 ∧
    row.length + 1 ≤ es.length ∧ row ++ [⟨(rkE (last.extract 0 (vPart left).1.toNat ++ (rtext (vPart left).2.1).1)).1, (rkE (last.extract 0 (vPart left).1.toNat ++ (rtext (vPart left).2.1).1)).2.1, (rkE (last.extract 0 (vPart left).1.toNat ++ (rtext (vPart left).2.1).1)).2.2, (rtext (rtext (vPart left).2.1).2.1).1⟩] = es.take (row.length + 1) ∧
    last.extract 0 (vPart left).1.toNat ++ (rtext (vPart left).2.1).1 = ahd (entsOf es) (row.length + 1) ∧ (rtext (rtext (vPart left).2.1).2.1).2.1 = sfx (entsOf es) m (row.length + 1) (es.length - (row.length + 1)) := by
  obtain ⟨h1, h2, h3, h4⟩ := h es m hb
  obtain ⟨_, _, hn, hm1, hm2, he, hz⟩ := blkOk_out hb.1
  generalize hk : row.length = k at *
  have hlt : k < es.length := by
    rcases Nat.lt_or_ge k es.length with h | h
    · exact h
    · exfalso
      apply hl
      rw [h4, show es.length - k = 0 by omega]
      rfl
  have e : es.length - k = (es.length - (k + 1)) + 1 := by omega
  have hs : left = entT m k last (ktx (entsOf es) k) ((entsOf es).X k) ++ sfx (entsOf es) m (k + 1) (es.length - (k + 1)) := by rw [h4, e, h3]; rfl
  have hen := he k hlt
  have hkey := rkE_key (keyOk_of_ent hen)
  have hx := entOk_x hen
  have hkt : (ktx (entsOf es) k).size ≤ 48 := ktSize _ _ _
  have hls : last.size ≤ 48 := by rw [h3]; exact ahd_size _ _
  have hsw := shw_le (basT m k last) (ktx (entsOf es) k)
  have hbs := bas_size m k last
  have hj := shw_join (basT m k last) (ktx (entsOf es) k)
  have hext : last.extract 0 (shw (basT m k last) (ktx (entsOf es) k)) = (basT m k last).extract 0 (shw (basT m k last) (ktx (entsOf es) k)) := by
    unfold basT
    split
    · rw [shw_none]
      apply ByteArray.ext
      simp
    · rfl
  have a1 : vPart left = ((shw (basT m k last) (ktx (entsOf es) k) : Int), putText ((ktx (entsOf es) k).extract (shw (basT m k last) (ktx (entsOf es) k)) (ktx (entsOf es) k).size) ++ (putText ((entsOf es).X k) ++ sfx (entsOf es) m (k + 1) (es.length - (k + 1))), true) := by
    rw [hs, entT, ByteArray.append_assoc, ByteArray.append_assoc]
    exact vPart_put _ (by omega) (by omega) _
  have a2 := rtext_put ((ktx (entsOf es) k).extract (shw (basT m k last) (ktx (entsOf es) k)) (ktx (entsOf es) k).size) (putText ((entsOf es).X k) ++ sfx (entsOf es) m (k + 1) (es.length - (k + 1))) (by rw [ByteArray.size_extract]; omega)
  have a3 := rtext_put ((entsOf es).X k) (sfx (entsOf es) m (k + 1) (es.length - (k + 1))) (by omega)
  have e0 : last.extract 0 (vPart left).1.toNat ++ (rtext (vPart left).2.1).1 = ktx (entsOf es) k := by
    rw [a1]
    simp only
    rw [a2, Int.toNat_natCast]
    simp only
    rw [hext]
    exact hj
  have hr1 : rkE (ktx (entsOf es) k) = ((entsOf es).U k, (entsOf es).Q k, (entsOf es).K k) := hkey.1
  have hr2 : rkB (ktx (entsOf es) k) = true := hkey.2
  rw [e0, hr1, hr2, a1]
  simp only
  rw [a2]
  simp only
  rw [a3]
  refine ⟨trivial, trivial, rfl, by omega, trivial, by omega, by omega, ?_, rfl, rfl⟩
  rw [h2]
  exact take_more hlt

theorem At.next {s : ByteArray} {row : List En} {last left : ByteArray} (h : At s row last left) (hl : left.size ≠ 0) {u x : ByteArray} {q k : Int} {T R : ByteArray} (hT : last.extract 0 (vPart left).1.toNat ++ (rtext (vPart left).2.1).1 = T) (hE : rkE T = (u, q, k)) (hx : (rtext (rtext (vPart left).2.1).2.1).1 = x) (hR : (rtext (rtext (vPart left).2.1).2.1).2.1 = R) : At s (row ++ [⟨u, q, k, x⟩]) T R := fun es m hb => by
  obtain ⟨_, _, _, _, _, _, h7, h8, h9, h10⟩ := h.step hl hb
  rw [hT, hE, hx] at h8
  rw [List.length_append]
  exact ⟨h7, h8, by rw [← hT]; exact h9, by rw [← hR]; exact h10⟩

theorem At.done {s : ByteArray} {row : List En} {last left : ByteArray} (h : At s row last left) (hl : left.size = 0) {es : List En} {m : Nat} (hb : IsBlk s es m) : row = es := by
  obtain ⟨h1, h2, _, h4⟩ := h es m hb
  have hk : row.length = es.length := by
    rcases Nat.lt_or_ge row.length es.length with hlt | hge
    · have := sfx_pos (entsOf es) m row.length (es.length - row.length - 1)
      rw [show es.length - row.length - 1 + 1 = es.length - row.length by omega, ← h4] at this
      omega
    · omega
  rw [h2, hk, List.take_length]

end Go.Proofs.Ytljmfdcilnbjaac
