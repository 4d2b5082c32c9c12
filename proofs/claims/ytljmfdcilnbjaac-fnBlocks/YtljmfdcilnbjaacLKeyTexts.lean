/- A key comes back from its text, and what is read has just the text that it was read from. -/
import Derived.Test.YtljmfdcilnbjaacDrawP3
import Derived.Test.YtljmfdcilnbjaacRKey
import Derived.Test.YtljmfdcilnbjaacLFnFixed
namespace Go.Proofs.Ytljmfdcilnbjaac
set_option maxRecDepth 100000
open Go.RowKit

theorem empty_ba {s : ByteArray} (h : s.size = 0) : s = ⟨#[]⟩ := ByteArray.ext (Array.eq_empty_of_size_eq_zero h)

theorem append_nil_ba (s : ByteArray) : s ++ ⟨#[]⟩ = s := by
  apply ByteArray.ext
  apply Array.toList_inj.1
  rw [ByteArray.data_append, Array.toList_append]; simp

theorem tf4_fx4' (x : Int) (h0 : 0 ≤ x) (h1 : x < 4294967296) : tf4 (fx4 x) = x := by
  have := tf4_fx4 x h0 h1 ⟨#[]⟩
  rwa [append_nil_ba] at this

theorem readKey_put {u : ByteArray} {q k : Int} (h : keyOkB u q k = true) : readKey (keyText u q k) = .tuple #[.agg #[.string u, .int .i64 q, .int .i64 k], .bool true] := by
  obtain ⟨h1, h2, h3, h4, h5, h6⟩ := keyOk_iff.1 h
  have e : keyText u q k = u ++ fx4 ((2 * q + k) % 4294967296) ++ fx4 ((2 * q + k) / 4294967296) := by unfold keyText; rw [if_pos h]
  obtain ⟨s, hs⟩ : ∃ s, keyText u q k = s := ⟨_, rfl⟩
  rw [hs] at e ⊢
  have hz : s.size = u.size + 8 := by rw [e, ByteArray.size_append, ByteArray.size_append, fx4_size, fx4_size]
  have e2 : s = u ++ (fx4 ((2 * q + k) % 4294967296) ++ fx4 ((2 * q + k) / 4294967296)) := by rw [e, ByteArray.append_assoc]
  have eu : s.extract 0 (s.size - 8) = u := by
    rw [show s.size - 8 = u.size by omega]
    conv => lhs; rw [e2]
    exact extract_front _ _
  have el : loOf s = (2 * q + k) % 4294967296 := by
    have : s.extract (s.size - 8) s.size = fx4 ((2 * q + k) % 4294967296) ++ fx4 ((2 * q + k) / 4294967296) := by
      rw [show s.size - 8 = u.size by omega]
      conv => lhs; rw [e2]
      exact extract_behind _ _
    rw [loOf, this, tf4_fx4 _ (by omega) (by omega)]
  have eh : hiOf s = (2 * q + k) / 4294967296 := by
    have : s.extract (s.size - 4) s.size = fx4 ((2 * q + k) / 4294967296) := by
      have hz2 : s.size - 4 = (u ++ fx4 ((2 * q + k) % 4294967296)).size := by rw [ByteArray.size_append, fx4_size]; omega
      rw [hz2]
      conv => lhs; rw [e]
      exact extract_behind _ _
    rw [hiOf, this, tf4_fx4' _ (by omega) (by omega)]
  have en : numOf s = 2 * q + k := by rw [numOf, el, eh]; omega
  have d1 : numOf s / 2 = q := by rw [en]; omega
  have d2 : numOf s % 2 = k := by rw [en]; omega
  rw [readKey_yes ⟨by omega, by rw [eu, d1, d2]; exact h⟩, eu, d1, d2]

theorem readKey_none {u : ByteArray} {q k : Int} (h : keyOkB u q k = false) : readKey (keyText u q k) = .tuple #[.agg #[.string ⟨#[]⟩, .int .i64 0, .int .i64 0], .bool false] := by
  have e : keyText u q k = ⟨#[]⟩ := by unfold keyText; rw [if_neg (by rw [h]; decide)]
  rw [e]
  exact readKey_no (fun h => absurd h.1 (by decide))

theorem fx4_tf4 (s : ByteArray) (h : 4 ≤ s.size) : fx4 (tf4 s) = s.extract 0 4 := by
  have b0 := bt_bd s 0; have b1 := bt_bd s 1; have b2 := bt_bd s 2; have b3 := bt_bd s 3
  have e : fx4 (tf4 s) = strOfNums [bt s 0, bt s 1, bt s 2, bt s 3] := by
    unfold fx4 tf4
    congr 1
    refine List.cons_eq_cons.2 ⟨by omega, List.cons_eq_cons.2 ⟨by omega, List.cons_eq_cons.2 ⟨by omega, List.cons_eq_cons.2 ⟨by omega, rfl⟩⟩⟩⟩
  rw [e]
  apply ByteArray.ext
  apply Array.toList_inj.1
  rw [strOfNums_data, Lib.extract_data, List.drop_zero, Nat.sub_zero]
  have hl : 4 ≤ s.data.toList.length := by simpa using h
  unfold bt
  generalize s.data.toList = l at hl
  match l, hl with
  | a :: b :: c :: d :: r, _ => simp

theorem extract_three (t : ByteArray) (a : Nat) (h : t.size = a + 8) : t.extract 0 a ++ (t.extract a t.size).extract 0 4 ++ (t.extract (a + 4) t.size).extract 0 4 = t := by
  have e1 : (t.extract a t.size).extract 0 4 = t.extract a (a + 4) := by rw [ByteArray.extract_extract]; congr 1; omega
  have e2 : (t.extract (a + 4) t.size).extract 0 4 = t.extract (a + 4) t.size := by rw [ByteArray.extract_extract]; congr 1; omega
  rw [e1, e2, ByteArray.extract_append_extract, show min 0 a = 0 by omega, show max a (a + 4) = a + 4 by omega, ByteArray.extract_append_extract, show min 0 (a + 4) = 0 by omega, show max (a + 4) t.size = t.size by omega]
  exact ByteArray.extract_zero_size

theorem keyText_read {t u : ByteArray} {q k : Int} (h : readKey t = .tuple #[.agg #[.string u, .int .i64 q, .int .i64 k], .bool true]) : keyText u q k = t := by
  by_cases hc : 9 ≤ t.size ∧ keyOkB (t.extract 0 (t.size - 8)) (numOf t / 2) (numOf t % 2) = true
  · rw [readKey_yes hc] at h
    simp only [Value.tuple.injEq, Array.mk.injEq, List.cons.injEq, Value.agg.injEq, Value.string.injEq, Value.int.injEq, and_true, true_and] at h
    obtain ⟨rfl, rfl, rfl⟩ := h
    obtain ⟨a, ha⟩ : ∃ a, t.size - 8 = a := ⟨_, rfl⟩
    have hz : t.size = a + 8 := by omega
    have p := hi_bd t
    have p2 := lo_bd t
    unfold keyText
    rw [if_pos hc.2]
    have en : 2 * (numOf t / 2) + numOf t % 2 = numOf t := by omega
    have el : numOf t % 4294967296 = loOf t := by unfold numOf; omega
    have eh : numOf t / 4294967296 = hiOf t := by unfold numOf; omega
    rw [en, el, eh, loOf, hiOf, fx4_tf4 _ (by simp; omega), fx4_tf4 _ (by simp; omega), ha, show t.size - 4 = a + 4 by omega]
    exact extract_three t a hz
  · rw [readKey_no hc] at h
    simp at h

/-- A box of three cells. -/
structure Box3 (w : World) (b : Nat) (x0 x1 x2 : Value) : Prop where
  lt : b < w.heap.size
  c0 : w.cell? ⟨b, 0, none⟩ = some x0
  c1 : w.cell? ⟨b, 1, none⟩ = some x1
  c2 : w.cell? ⟨b, 2, none⟩ = some x2

theorem Box3.below {w w' : World} {b : Nat} {x0 x1 x2 : Value} (h : Box3 w b x0 x1 x2) (hb : Below w.heap.size w w') : Box3 w' b x0 x1 x2 :=
  ⟨Nat.lt_of_lt_of_le h.lt hb.size, (hb.cell (p := ⟨b, 0, none⟩) h.lt).trans h.c0, (hb.cell (p := ⟨b, 1, none⟩) h.lt).trans h.c1, (hb.cell (p := ⟨b, 2, none⟩) h.lt).trans h.c2⟩

theorem Box3.alloc {w : World} {b : Nat} {x0 x1 x2 : Value} (h : Box3 w b x0 x1 x2) (o : Obj) : Box3 (w.alloc o) b x0 x1 x2 := h.below ((Below.refl _ _).alloc (Nat.le_refl _) o)

theorem Box3.new (w : World) (x0 x1 x2 : Value) (T : TypeId) : Box3 (w.alloc (.cells #[x0, x1, x2] T)) w.heap.size x0 x1 x2 :=
  ⟨by simp, by simp, by simp, by simp⟩

theorem readKey_parts (s : ByteArray) : ∃ u q k b, readKey s = .tuple #[.agg #[.string u, .int .i64 q, .int .i64 k], .bool b] := by
  unfold readKey
  split <;> exact ⟨_, _, _, _, rfl⟩

theorem below_alloc_trans {w w1 w2 : World} {B : Nat} {o : Obj} (h : Below B w w1) (hB : B ≤ w1.heap.size) (h2 : Below (w1.alloc o).heap.size (w1.alloc o) w2) : Below B w w2 :=
  (h.alloc hB o).trans (h2.mono (by simp; omega))

end Go.Proofs.Ytljmfdcilnbjaac
