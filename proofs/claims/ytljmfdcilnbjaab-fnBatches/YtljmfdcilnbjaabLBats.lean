/- A batch comes back from its bytes; its entries are a right row. No walk. -/
import Derived.Test.YtljmfdcilnbjaabReadB
import Derived.Test.YtljmfdcilnbjaabBText
import Derived.Test.YtljmfdcilnbjaabCanon
import Derived.Test.YtljmfdcilnbjaabLBEnt
import Derived.Test.YtljmfdcilnbjaabReadBS
import Derived.Test.YtljmfdcilnbjaabBTextS
import Derived.Test.YtljmfdcilnbjaabDrawE
import Derived.Test.YtljmfdcilnbjaabDrawP1
import Derived.Test.YtljmfdcilnbjaabLFnFixed
import Derived.Test.YtljmfdcilnbjaabLReadB
namespace Go.Proofs.Ytljmfdcilnbjaab
set_option maxRecDepth 100000
open Go.RowKit Go.Sort

theorem nil_append_ba (s : ByteArray) : (⟨#[]⟩ : ByteArray) ++ s = s := ByteArray.empty_append
theorem append_nilB (s : ByteArray) : s ++ (⟨#[]⟩ : ByteArray) = s := ByteArray.append_empty

theorem rnum_putB (n : Int) (h0 : 0 ≤ n) (h1 : n ≤ 9223372036854775807) (r : ByteArray) : rnum (pv n ++ r) = (n, r, false) := by
  rw [rnum_some (take_put n h0 (by omega) r) (by omega), extract_behind]

theorem rtext_putB (t r : ByteArray) (ht : t.size ≤ 60000) : rtext (putText t ++ r) = (t, r, false) := by
  have h1 := takeText_rt (putText t ++ r)
  rw [takeText_put t r ht] at h1
  injection h1 with h1
  have h2 : (#[Value.string t, .string r, .bool true] : Array Value).toList = (#[Value.string (rtext (putText t ++ r)).1, .string (rtext (putText t ++ r)).2.1, .bool (!(rtext (putText t ++ r)).2.2)] : Array Value).toList := by rw [h1]
  simp only [List.cons.injEq, Value.string.injEq, Value.bool.injEq, and_true] at h2
  obtain ⟨a, b, c⟩ := h2
  refine Prod.ext a.symm (Prod.ext b.symm ?_)
  simpa using c.symm

theorem rbyte_putB (x : Int) (h0 : 0 ≤ x) (h1 : x ≤ 255) (r : ByteArray) : rbyte (strOfNums [x] ++ r) = (x, r, false) := by
  have hz : (strOfNums [x] ++ r).size = 1 + r.size := by rw [ByteArray.size_append, strOfNums_size]; rfl
  have he := extract_behind (strOfNums [x]) r
  rw [show (strOfNums [x]).size = 1 by rw [strOfNums_size]; rfl] at he
  rw [rbyte, if_neg (by omega), bt_nums [x] r 0 x rfl h0 h1, he]

/-- The bytes of an op, and of a list of them. -/
def obT (o : Ob) : ByteArray := strOfNums [o.k] ++ putText o.u ++ putText o.x
def obsT : List Ob → ByteArray
  | [] => ⟨#[]⟩
  | o :: l => obT o ++ obsT l
theorem obsT_append : ∀ a b : List Ob, obsT (a ++ b) = obsT a ++ obsT b
  | [], b => (nil_append_ba _).symm
  | o :: l, b => by simp only [List.cons_append, obsT]; rw [obsT_append l b, ByteArray.append_assoc]

theorem ob_put (o : Ob) (h0 : 0 ≤ o.k) (h1 : o.k ≤ 255) (hu : o.u.size ≤ 60000) (hx : o.x.size ≤ 60000) (R : ByteArray) : obAt (obT o ++ R) = o ∧ obRest (obT o ++ R) = R ∧ obLost (obT o ++ R) = false := by
  have e : obT o ++ R = strOfNums [o.k] ++ (putText o.u ++ (putText o.x ++ R)) := by rw [obT, ByteArray.append_assoc, ByteArray.append_assoc]
  have a1 := rbyte_putB o.k h0 h1 (putText o.u ++ (putText o.x ++ R))
  have a2 := rtext_putB o.u (putText o.x ++ R) hu
  have a3 := rtext_putB o.x R hx
  refine ⟨?_, ?_, ?_⟩
  · unfold obAt
    rw [e, a1]; simp only; rw [a2]; simp only; rw [a3]
  · unfold obRest
    rw [e, a1]; simp only; rw [a2]; simp only; rw [a3]
  · unfold obLost
    rw [e, a1]; simp only; rw [a2]; simp only; rw [a3]; rfl

theorem rdo_put {l : List Ob} (h : ∀ o ∈ l, 0 ≤ o.k ∧ o.k ≤ 255 ∧ o.u.size ≤ 60000 ∧ o.x.size ≤ 60000) : ∀ k, k ≤ l.length → rdo (obsT l) k = (l.take k, obsT (l.drop k), false)
  | 0, _ => rfl
  | k + 1, hk => by
    have h1 := rdo_put h k (by omega)
    have hd : l.drop k = l[k] :: l.drop (k + 1) := List.drop_eq_getElem_cons (by omega)
    obtain ⟨a, b, c, d⟩ := h l[k] (List.getElem_mem _)
    obtain ⟨x, y, z⟩ := ob_put l[k] a b c d (obsT (l.drop (k + 1)))
    simp only [rdo, h1]
    rw [hd]
    simp only [obsT]
    rw [x, y, z, List.take_succ_eq_append_getElem (by omega)]
    rfl

def obOf (O : Ops) (i : Nat) : Ob := ⟨O.K i, O.U i, O.X i⟩
theorem opsTxt_obs (O : Ops) (s : ByteArray) : ∀ k, opsTxt O s k = s ++ obsT ((List.range k).map (obOf O))
  | 0 => (append_nilB s).symm
  | k + 1 => by
    rw [opsTxt, opsTxt_obs O s k, List.range_succ, List.map_append, obsT_append, ByteArray.append_assoc]
    congr 1
    congr 1
    show opTxt O k = obT (obOf O k) ++ ⟨#[]⟩
    rw [append_nilB]
    rfl

theorem batchOkB_congr {q : Int} {len : Nat} {O O' : Ops} (h : ∀ i, i < len → O.K i = O'.K i ∧ O.U i = O'.U i ∧ O.X i = O'.X i) : batchOkB q len O = batchOkB q len O' := by
  unfold batchOkB
  congr 1
  rw [Bool.eq_iff_iff, List.all_eq_true, List.all_eq_true]
  have e : ∀ i, i < len → entOk (opEnt O q) i = entOk (opEnt O' q) i := fun i hi => by
    obtain ⟨a, b, c⟩ := h i hi
    show entryOkB (O.U i) _ (O.K i) (O.X i) = entryOkB (O'.U i) _ (O'.K i) (O'.X i)
    rw [a, b, c]
    rfl
  exact ⟨fun k i hi => by rw [← e i (List.mem_range.1 hi)]; exact k i hi, fun k i hi => by rw [e i (List.mem_range.1 hi)]; exact k i hi⟩

theorem opsOf_range (O : Ops) (n i : Nat) (hi : i < n) : (opsOf ((List.range n).map (obOf O))).K i = O.K i ∧ (opsOf ((List.range n).map (obOf O))).U i = O.U i ∧ (opsOf ((List.range n).map (obOf O))).X i = O.X i := by
  have e : ((List.range n).map (obOf O)).getD i ob0 = obOf O i := by
    rw [List.getD, List.getElem?_map, List.getElem?_range hi]; rfl
  unfold opsOf
  simp only [e]
  exact ⟨rfl, rfl, rfl⟩

/-- A right batch comes back. -/
theorem readB_put {q : Int} {len : Nat} {O : Ops} (h : batchOkB q len O = true) : readB (batchText q len O) = (true, q, (List.range len).map (obOf O)) := by
  obtain ⟨⟨h1, h2, h3, h4⟩, hent⟩ := batchOk_out h
  have e : batchText q len O = pv q ++ (pv len ++ obsT ((List.range len).map (obOf O))) := by rw [batchText_yes h, opsTxt_obs, ByteArray.append_assoc]
  have a1 := rnum_putB q (by omega) (by omega) (pv len ++ obsT ((List.range len).map (obOf O)))
  have a2 := rnum_putB (len : Int) (by omega) (by omega) (obsT ((List.range len).map (obOf O)))
  have hm : rdm (len : Int) = len := by unfold rdm; split <;> omega
  have hl : ((List.range len).map (obOf O)).length = len := by simp
  have a3 := rdo_put (l := (List.range len).map (obOf O)) (fun o ho => by
    obtain ⟨i, hi, rfl⟩ := List.mem_map.1 ho
    have := ent_bd (hent i (List.mem_range.1 hi))
    exact ⟨this.1, by show O.K i ≤ 255; omega, by show (O.U i).size ≤ 60000; omega, by show (O.X i).size ≤ 60000; omega⟩) len (by omega)
  rw [List.take_of_length_le (by omega), List.drop_eq_nil_of_le (by omega)] at a3
  have hc : batchOkB q ((List.range len).map (obOf O)).length (opsOf ((List.range len).map (obOf O))) = true := by
    rw [hl, batchOkB_congr (fun i hi => opsOf_range O len i hi)]; exact h
  have b1 : rnum (batchText q len O) = (q, pv len ++ obsT ((List.range len).map (obOf O)), false) := by rw [e]; exact a1
  have y := @readB_yes (batchText q len O)
  rw [b1] at y
  simp only at y
  rw [a2] at y
  simp only at y
  rw [hm, a3] at y
  simp only at y
  exact y rfl hc

theorem readB_nil : readB ⟨#[]⟩ = (false, 0, []) := readB_no1 (by
  have e : rnum ⟨#[]⟩ = (0, ⟨#[]⟩, true) := rnum_none rfl
  rw [e]; rfl)

theorem rnum_back {r x : ByteArray} {n : Int} (h : rnum r = (n, x, false)) : pv n ++ x = r := by
  cases hv : tva r 10 0 0 with
  | none => rw [rnum_none hv] at h; injection h with _ h; injection h with _ h; cases h
  | some p =>
    obtain ⟨m, k⟩ := p
    by_cases hm : 9223372036854775807 < m
    · rw [rnum_big hv hm] at h; injection h with _ h; injection h with _ h; cases h
    · rw [rnum_some hv hm] at h
      injection h with a h
      injection h with b _
      rw [← a, ← b, (put_take r hv).2.2, extract_join]
theorem rtext_back {r x t : ByteArray} (h : rtext r = (t, x, false)) : putText t ++ x = r := by
  have h1 := takeText_rt r
  rw [h] at h1
  exact (put_takeText h1).1
theorem rbyte_back {r x : ByteArray} {b : Int} (h : rbyte r = (b, x, false)) : strOfNums [b] ++ x = r := by
  by_cases hz : r.size = 0
  · rw [rbyte, if_pos hz] at h; injection h with _ h; injection h with _ h; cases h
  · rw [rbyte, if_neg hz] at h
    injection h with a h
    injection h with c _
    rw [← a, ← c]
    have e : strOfNums [bt r 0] = r.extract 0 1 := by
      apply ByteArray.ext
      apply Array.toList_inj.1
      rw [ByteArray.data_extract, Array.toList_extract]
      have hl : 0 < r.data.toList.length := by simpa using Nat.pos_of_ne_zero hz
      show [UInt8.ofNat (bt r 0).toNat] = _
      simp only [List.extract_eq_drop_take', List.drop_zero]
      unfold bt
      simp only [List.getD, List.getElem?_eq_getElem hl, Option.getD_some, Int.toNat_natCast, UInt8.ofNat_toNat]
      generalize r.data.toList = l at hl ⊢
      match l, hl with
      | y :: ys, _ => rfl
    rw [e, extract_join]

theorem obLost_back {r : ByteArray} (h : obLost r = false) : obT (obAt r) ++ obRest r = r := by
  unfold obLost at h
  rw [Bool.or_eq_false_iff, Bool.or_eq_false_iff] at h
  obtain ⟨⟨h1, h2⟩, h3⟩ := h
  have a := rbyte_back (r := r) (Prod.ext rfl (Prod.ext rfl h1))
  have b := rtext_back (r := (rbyte r).2.1) (Prod.ext rfl (Prod.ext rfl h2))
  have c := rtext_back (r := (rtext (rbyte r).2.1).2.1) (Prod.ext rfl (Prod.ext rfl h3))
  unfold obT obAt obRest
  simp only
  rw [ByteArray.append_assoc, ByteArray.append_assoc, c, b, a]
theorem rdo_back (r : ByteArray) : ∀ k, (rdo r k).2.2 = false → obsT (rdo r k).1 ++ (rdo r k).2.1 = r
  | 0, _ => nil_append_ba r
  | k + 1, h => by
    simp only [rdo] at h ⊢
    rw [Bool.or_eq_false_iff] at h
    have h1 := rdo_back r k h.1
    have h2 := obLost_back h.2
    rw [obsT_append]
    simp only [obsT]
    rw [append_nilB, ByteArray.append_assoc, h2, h1]

theorem ops_self (os : List Ob) : (List.range os.length).map (obOf (opsOf os)) = os := by
  apply List.ext_getElem?
  intro i
  rw [List.getElem?_map]
  by_cases hi : i < os.length
  · rw [List.getElem?_range hi, List.getElem?_eq_getElem hi]
    simp only [Option.map_some, obOf, opsOf, List.getD, List.getElem?_eq_getElem hi, Option.getD_some]
  · rw [List.getElem?_eq_none (by simpa using hi), List.getElem?_eq_none (by omega)]
    rfl

/-- What is read has just the bytes that it was read from. -/
theorem readB_back {t : ByteArray} {q : Int} {os : List Ob} (h : readB t = (true, q, os)) : batchText q os.length (opsOf os) = t ∧ batchOkB q os.length (opsOf os) = true := by
  unfold readB at h
  simp only at h
  split at h
  · rename_i hc
    obtain ⟨h1, h2⟩ := hc
    injection h with _ h
    injection h with hq ho
    subst hq
    subst ho
    refine ⟨?_, h2⟩
    rw [Bool.and_eq_true, Bool.not_eq_true', Bool.or_eq_false_iff, Bool.or_eq_false_iff, decide_eq_true_iff] at h1
    obtain ⟨⟨⟨a, b⟩, c⟩, d⟩ := h1
    have e1 := rnum_back (r := t) (Prod.ext rfl (Prod.ext rfl a))
    have e2 := rnum_back (r := (rnum t).2.1) (Prod.ext rfl (Prod.ext rfl b))
    have e3 := rdo_back (rnum (rnum t).2.1).2.1 (rdm (rnum (rnum t).2.1).1) c
    have hlen := rdo_len (rnum (rnum t).2.1).2.1 (rdm (rnum (rnum t).2.1).1)
    have hn : (rnum (rnum t).2.1).1 = (((rdo (rnum (rnum t).2.1).2.1 (rdm (rnum (rnum t).2.1).1)).1.length : Nat) : Int) := by
      have h20 := (batchOk_out h2).1.2.1
      rw [hlen] at h20 ⊢
      have h0 := (rnum_bd (rnum t).2.1).2.1
      unfold rdm at h20 ⊢
      split at h20 <;> omega
    have hz : (rdo (rnum (rnum t).2.1).2.1 (rdm (rnum (rnum t).2.1).1)).2.1 = ⟨#[]⟩ := ByteArray.ext (Array.eq_empty_of_size_eq_zero d)
    rw [hz, append_nilB] at e3
    rw [batchText_yes h2, opsTxt_obs, ops_self, ← hn, e3, ByteArray.append_assoc, e2, e1]
  · injection h with h _
    cases h

theorem batchText_size {q : Int} {len : Nat} {O : Ops} (h : batchOkB q len O = true) : (batchText q len O).size ≤ 8000 := by
  obtain ⟨⟨h1, h2, h3, h4⟩, hent⟩ := batchOk_out h
  have := opsTxt_size (s := pv q ++ pv len) hent len (Nat.le_refl _)
  have a := pv_size q
  have b := pv_size (len : Int)
  rw [ByteArray.size_append] at this
  rw [batchText_yes h]
  omega

/-- The entries of a right batch are a right row. -/
theorem esB_row {q : Int} {len : Nat} {O : Ops} (h : batchOkB q len O = true) : rowOkB (entsL (esB q len O)) (esB q len O).length = true ∧ (esB q len O).length = len := by
  obtain ⟨⟨h1, h2, h3, h4⟩, hent⟩ := batchOk_out h
  have he : esB q len O = (putAll O q len).map (opEn O q) := by rw [esB, if_pos h]
  have hl : (esB q len O).length = len := by rw [he, List.length_map, putAll_len]
  refine ⟨?_, hl⟩
  have hs := putAll_sorted O q len
  have hp := putAll_perm O q len
  have hnd : (putAll O q len).Nodup := hp.nodup_iff.2 List.nodup_range
  have hat : ∀ i (hi : i < len), ∃ x, (putAll O q len)[i]? = some x ∧ x < len ∧ (entsL (esB q len O)).U i = O.U x ∧ (entsL (esB q len O)).Q i = q + (x : Int) ∧ (entsL (esB q len O)).K i = O.K x ∧ (entsL (esB q len O)).X i = O.X x := fun i hi => by
    have hi' : i < (putAll O q len).length := by rw [putAll_len]; exact hi
    have hx : (putAll O q len)[i]? = some (putAll O q len)[i] := List.getElem?_eq_getElem hi'
    have hm : (putAll O q len)[i] ∈ List.range len := hp.mem_iff.1 (List.getElem_mem _)
    have hg : (esB q len O)[i]? = some (opEn O q (putAll O q len)[i]) := by rw [he, List.getElem?_map, hx]; rfl
    refine ⟨_, hx, List.mem_range.1 hm, ?_, ?_, ?_, ?_⟩ <;> simp only [entsL, hg, Option.map_some, Option.getD_some] <;> rfl
  refine rowOk_yes (by omega) fun i hi => ?_
  rw [hl] at hi
  obtain ⟨x, hx, hxl, eu, eq, ek, ex⟩ := hat i hi
  refine ⟨?_, fun hpos => ?_⟩
  · have := hent x hxl
    unfold entOk at this ⊢
    rw [eu, eq, ek, ex]
    exact this
  · obtain ⟨y, hy, hyl, fu, fq, fk, fx⟩ := hat (i - 1) (by omega)
    have hne : x ≠ y := fun e => by
      subst e
      have a1 := List.getElem?_eq_some_iff.1 hx
      have a2 := List.getElem?_eq_some_iff.1 hy
      obtain ⟨p1, r1⟩ := a1
      obtain ⟨p2, r2⟩ := a2
      exact List.pairwise_iff_getElem.1 hnd (i - 1) i p2 p1 (by omega) (r2.trans r1.symm)
    have hlt : cfB O q y x < 0 := by
      have hpw := List.pairwise_iff_getElem.1 hs (i - 1) i (List.getElem?_eq_some_iff.1 hy).1 (List.getElem?_eq_some_iff.1 hx).1 (by omega)
      rw [(List.getElem?_eq_some_iff.1 hy).2, (List.getElem?_eq_some_iff.1 hx).2] at hpw
      have h2 : ltOf (cfB O q) x y = false := by simpa [ltB] using hpw
      cases h3 : ltOf (cfB O q) y x with
      | true => exact of_decide_eq_true h3
      | false => exact absurd (cfB_one O q x y h2 h3) hne
    unfold ordI
    rw [show i - 1 + 1 = i by omega, fu, eu, eq, fq, ek, fk]
    exact hlt

end Go.Proofs.Ytljmfdcilnbjaab

/- What the laws on batches draw: an op, a few of them, a batch, the bytes of one. -/
namespace Go.Proofs.Ytljmfdcilnbjaab
set_option maxRecDepth 100000
open Go.RowKit Go.Deep

theorem mv_next {g : Nat} {w a b : World} (h : Mv g w a) (hb : Below a.heap.size a b) : Mv g w b := h.trans (Mv.of_below hb)

/-- Two boxes of an op, the reader: while an op is drawn. -/
structure OdS (W w : World) (g G K : Nat) (a : Option Addr) (len cap : Nat) (k : Int) (u x : ByteArray) (y : World) : Prop where
  res : BoxIs y G #[.int .i64 0, .string ⟨#[]⟩, .string ⟨#[]⟩] 40
  bx : BoxIs y K #[.int .i64 k, .string u, .string x] 40
  rd : Rd W y g a len cap
  mv : Mv g w y
  n1 : G ≠ g
  n2 : K ≠ g
  n3 : G ≠ K
  n4 : w.heap.size ≤ G
  n5 : w.heap.size ≤ K

section
variable {W w : World} {g G K : Nat} {a : Option Addr} {len cap : Nat} {k : Int} {u x : ByteArray} {y z : World}
theorem OdS.step (h : OdS W w g G K a len cap k u x y) (hr : Rd W z g a len cap) (hm : Mv g y z) : OdS W w g G K a len cap k u x z :=
  ⟨h.res.mv hm h.n1, h.bx.mv hm h.n2, hr, h.mv.trans hm, h.n1, h.n2, h.n3, h.n4, h.n5⟩
/-- A store into the op's box, or the answer's: of old blocks nothing has turned. -/
theorem OdS.lowM (h : OdS W w g G K a len cap k u x y) {B : Nat} (hB : w.heap.size ≤ B) (hm : Mv B y z) : Mv g w z :=
  ⟨hm.os.trans h.mv.os, hm.tape.trans h.mv.tape, hm.output.trans h.mv.output, Nat.le_trans h.mv.size hm.size, fun i hi hg => (hm.block i (Nat.lt_of_lt_of_le hi h.mv.size) (by omega)).trans (h.mv.block i hi hg)⟩
theorem Rd.other {B : Nat} (h : Rd W y g a len cap) (hm : Mv B y z) (hB : B ≠ g) (hW : W.heap.size ≤ B) (hBy : B < y.heap.size) : Rd W z g a len cap :=
  ⟨h.new, Nat.lt_of_lt_of_le h.lt hm.size, h.low.trans (hm.below (by omega) hW), (hm.cell (p := ⟨g, 0, none⟩) h.lt (by show g ≠ B; omega)).trans h.b, by obtain ⟨p, h1, h2⟩ := h.p; exact ⟨p, h1, (hm.cell (p := ⟨g, 1, none⟩) h.lt (by show g ≠ B; omega)).trans h2⟩, (hm.frozen (p := ⟨g, 1, none⟩) h.lt (by show g ≠ B; omega)).trans h.free⟩
theorem OdS.put2 (h : OdS W w g G K a len cap k u x y) (hW : W.heap.size ≤ w.heap.size) (x' : ByteArray) : OdS W w g G K a len cap k u x' (y.setCell ⟨K, 2, none⟩ (.string x')) := by
  have hm : Mv K y (y.setCell ⟨K, 2, none⟩ (.string x')) := (Mv.refl _ _).setCell _
  exact ⟨h.res.mv hm h.n3, heap_setCell_same y K 2 _ _ (.string x') h.bx, h.rd.other hm h.n2 (Nat.le_trans hW h.n5) h.bx.lt, h.lowM h.n5 hm, h.n1, h.n2, h.n3, h.n4, h.n5⟩
theorem OdS.put (h : OdS W w g G K a len cap k u x y) (hW : W.heap.size ≤ w.heap.size) (k' : Int) (u' x' : ByteArray) : OdS W w g G K a len cap k' u' x' (((y.setCell ⟨K, 0, none⟩ (.int .i64 k')).setCell ⟨K, 1, none⟩ (.string u')).setCell ⟨K, 2, none⟩ (.string x')) := by
  have hm : Mv K y (((y.setCell ⟨K, 0, none⟩ (.int .i64 k')).setCell ⟨K, 1, none⟩ (.string u')).setCell ⟨K, 2, none⟩ (.string x')) := (((Mv.refl _ _).setCell _).setCell _).setCell _
  exact ⟨h.res.mv hm h.n3, heap_setCell_same _ K 2 _ _ (.string x') (heap_setCell_same _ K 1 _ _ (.string u') (heap_setCell_same y K 0 _ _ (.int .i64 k') h.bx)), h.rd.other hm h.n2 (Nat.le_trans hW h.n5) h.bx.lt, h.lowM h.n5 hm, h.n1, h.n2, h.n3, h.n4, h.n5⟩
theorem OdS.fin (h : OdS W w g G K a len cap k u x y) (hW : W.heap.size ≤ w.heap.size) : BoxIs (((y.setCell ⟨G, 0, none⟩ (.int .i64 k)).setCell ⟨G, 1, none⟩ (.string u)).setCell ⟨G, 2, none⟩ (.string x)) G #[.int .i64 k, .string u, .string x] 40 ∧ Rd W (((y.setCell ⟨G, 0, none⟩ (.int .i64 k)).setCell ⟨G, 1, none⟩ (.string u)).setCell ⟨G, 2, none⟩ (.string x)) g a len cap ∧ Mv g w (((y.setCell ⟨G, 0, none⟩ (.int .i64 k)).setCell ⟨G, 1, none⟩ (.string u)).setCell ⟨G, 2, none⟩ (.string x)) := by
  have hm : Mv G y (((y.setCell ⟨G, 0, none⟩ (.int .i64 k)).setCell ⟨G, 1, none⟩ (.string u)).setCell ⟨G, 2, none⟩ (.string x)) := (((Mv.refl _ _).setCell _).setCell _).setCell _
  exact ⟨heap_setCell_same _ G 2 _ _ (.string x) (heap_setCell_same _ G 1 _ _ (.string u) (heap_setCell_same y G 0 _ _ (.int .i64 k) h.res)), h.rd.other hm h.n1 (Nat.le_trans hW h.n4) h.res.lt, h.lowM h.n4 hm⟩
end

def OpEnd (W w : World) (g : Nat) (a : Option Addr) (len cap : Nat) (e : Ending) (w' : World) : Prop :=
  ∃ (k : Int) (u x : ByteArray), e = .returned (.agg #[.int .i64 k, .string u, .string x]) ∧ u.size ≤ 60 ∧ x.size ≤ 60 ∧ Rd W w' g a len cap ∧ Mv g w w'

set_option maxHeartbeats 4000000 in
theorem rd_op (W w : World) (g : Nat) (a : Option Addr) (len cap : Nat) (hc : IsCode W a len) (hl : len ≤ 1048576) (h : Rd W w g a len cap) (hW : W.heap.size ≤ w.heap.size) :
    Calls Try.prog 71 #[.pointer (some ⟨g, 0, none⟩)] w fun e w' => OpEnd W w g a len cap e w' := by
  have hb0 := below_one w (.cells #[.int .i64 0, .string ⟨#[]⟩, .string ⟨#[]⟩] 40)
  have HX0 := hide (BoxIs.new w #[.int .i64 0, .string ⟨#[]⟩, .string ⟨#[]⟩] 40 rfl)
  have HR0 := hide (h.mv hb0)
  have HM0 := hide (show Mv g w _ from Mv.of_below hb0)
  have hg := h.lt
  clear h hb0
  go_enter Try.func71, Try.ntmps71
  go_wp2_with fail
  generalize w.alloc (.cells #[.int .i64 0, .string ⟨#[]⟩, .string ⟨#[]⟩] 40) = W0 at HX0 HR0 HM0 ⊢
  refine (rd_below W _ g a len cap 3 (by omega) (by omega) hc hl HR0.out).mono ?_
  rintro e w1 ⟨x, rfl, hx0, hx1, hr1, hm1⟩
  have HR1 := hide hr1
  have HX1 := hide (HX0.out.mv hm1 (Nat.ne_of_gt hg))
  have HM1 := hide (HM0.out.trans hm1)
  clear hr1 hm1 HX0 HR0 HM0
  go_wp2_with fail
  refine (rd_user W _ g a len cap hc hl HR1.out).mono ?_
  rintro e w2 ⟨u, rfl, hu, hr2, hm2⟩
  have HR2 := hide hr2
  have HX2 := hide (HX1.out.mv hm2 (Nat.ne_of_gt hg))
  have HM2 := hide (HM1.out.trans hm2)
  clear hr2 hm2 HX1 HR1 HM1
  go_wp2_with fail
  refine (rd_value W _ g a len cap hc hl HR2.out).mono ?_
  rintro e w3 ⟨v, rfl, hv, hr3, hm3⟩
  have HR3 := hide hr3
  have HX3 := hide (HX2.out.mv hm3 (Nat.ne_of_gt hg))
  have HM3 := hide (HM2.out.trans hm3)
  clear hr3 hm3 HX2 HR2 HM2
  obtain ⟨kk, hkk⟩ : ∃ kk, x % 2 = kk := ⟨_, rfl⟩
  have L4 : ∀ (kk : Int) (v : ByteArray), Hid (OdS W w g w.heap.size w3.heap.size a len cap kk u v (w3.alloc (.cells #[.int .i64 kk, .string u, .string v] 40))) := fun kk v => by
    have hb4 := below_one w3 (.cells #[.int .i64 kk, .string u, .string v] 40)
    exact ⟨HX3.out.next hb4, BoxIs.new w3 _ _ rfl, HR3.out.mv hb4, mv_next HM3.out hb4, Nat.ne_of_gt hg, Nat.ne_of_gt HR3.out.lt, Nat.ne_of_lt HX3.out.lt, Nat.le_refl _, HM3.out.size⟩
  have h01 : kk = 0 ∨ kk = 1 := by omega
  have hG : w.heap.size < w3.heap.size := HX3.out.lt
  clear HX3 HR3 HM3
  generalize hK : w3.heap.size = K at L4 hG
  rcases h01 with rfl | rfl
  · have L5 := L4 0 ⟨#[]⟩
    go_wp2_with fail
    rw [hK] at *
    clear L4
    generalize w3.alloc (.cells #[.int .i64 0, .string u, .string ⟨#[]⟩] 40) = W5 at L5 ⊢
    refine (rd_once W _ g a len cap 30 (by omega) (by omega) hc hl L5.out.rd).mono ?_
    rintro e w4 ⟨b, rfl, hr4, hm4⟩
    have L6 := hide (L5.out.step hr4 hm4)
    clear hr4 hm4 L5
    cases b with
    | false =>
      obtain ⟨k0, k1, k2⟩ : w4.cell? ⟨K, 0, none⟩ = some (.int .i64 0) ∧ w4.cell? ⟨K, 1, none⟩ = some (.string u) ∧ w4.cell? ⟨K, 2, none⟩ = some (.string ⟨#[]⟩) := ⟨L6.out.bx.cell 0, L6.out.bx.cell 1, L6.out.bx.cell 2⟩
      obtain ⟨g0, g1, g2⟩ : w4.cell? ⟨w.heap.size, 0, none⟩ = some (.int .i64 0) ∧ w4.cell? ⟨w.heap.size, 1, none⟩ = some (.string ⟨#[]⟩) ∧ w4.cell? ⟨w.heap.size, 2, none⟩ = some (.string ⟨#[]⟩) := ⟨L6.out.res.cell 0, L6.out.res.cell 1, L6.out.res.cell 2⟩
      have gf := L6.out.res.free
      have F6 := hide (L6.out.fin hW)
      clear L6
      go_wp2
      generalize ((w4.setCell ⟨w.heap.size, 0, none⟩ (.int .i64 0)).setCell ⟨w.heap.size, 1, none⟩ (.string u)).setCell ⟨w.heap.size, 2, none⟩ (.string ⟨#[]⟩) = w6 at F6 ⊢
      obtain ⟨r0, r1, r2⟩ : w6.cell? ⟨w.heap.size, 0, none⟩ = some (.int .i64 0) ∧ w6.cell? ⟨w.heap.size, 1, none⟩ = some (.string u) ∧ w6.cell? ⟨w.heap.size, 2, none⟩ = some (.string ⟨#[]⟩) := ⟨F6.out.1.cell 0, F6.out.1.cell 1, F6.out.1.cell 2⟩
      refine bodyPost_ret (v := .agg #[.int .i64 0, .string u, .string ⟨#[]⟩]) (by simp [results, Try.results71, go_sem, r0, r1, r2]) rfl ?_
      exact ⟨0, u, ⟨#[]⟩, rfl, by omega, by exact Nat.zero_le _, F6.out.2.1, F6.out.2.2⟩
    | true =>
      go_wp2_with fail
      refine (rd_off W _ g a len cap 0 1 (by omega) (by omega) (by omega) hc hl L6.out.rd).mono ?_
      rintro e w5 ⟨k', rfl, _, _, hr5, hm5⟩
      have L7 := hide (L6.out.step hr5 hm5)
      clear hr5 hm5 L6
      go_wp2_with fail
      refine (rd_bytes W _ g a len cap 44 (by omega) (by omega) hc hl L7.out.rd).mono ?_
      rintro e w6 ⟨u', rfl, hu', hr6, hm6⟩
      have L8 := hide (L7.out.step hr6 hm6)
      clear hr6 hm6 L7
      go_wp2_with fail
      refine (rd_bytes W _ g a len cap 9 (by omega) (by omega) hc hl L8.out.rd).mono ?_
      rintro e w7 ⟨v', rfl, hv', hr7, hm7⟩
      have L9 := hide (L8.out.step hr7 hm7)
      clear hr7 hm7 L8
      obtain ⟨k0, k1, k2⟩ : w7.cell? ⟨K, 0, none⟩ = some (.int .i64 0) ∧ w7.cell? ⟨K, 1, none⟩ = some (.string u) ∧ w7.cell? ⟨K, 2, none⟩ = some (.string ⟨#[]⟩) := ⟨L9.out.bx.cell 0, L9.out.bx.cell 1, L9.out.bx.cell 2⟩
      have kf := L9.out.bx.free
      have LA := hide (L9.out.put hW k' u' v')
      clear L9
      obtain ⟨g0, g1, g2⟩ : (((w7.setCell ⟨K, 0, none⟩ (.int .i64 k')).setCell ⟨K, 1, none⟩ (.string u')).setCell ⟨K, 2, none⟩ (.string v')).cell? ⟨w.heap.size, 0, none⟩ = some (.int .i64 0) ∧ (((w7.setCell ⟨K, 0, none⟩ (.int .i64 k')).setCell ⟨K, 1, none⟩ (.string u')).setCell ⟨K, 2, none⟩ (.string v')).cell? ⟨w.heap.size, 1, none⟩ = some (.string ⟨#[]⟩) ∧ (((w7.setCell ⟨K, 0, none⟩ (.int .i64 k')).setCell ⟨K, 1, none⟩ (.string u')).setCell ⟨K, 2, none⟩ (.string v')).cell? ⟨w.heap.size, 2, none⟩ = some (.string ⟨#[]⟩) := ⟨LA.out.res.cell 0, LA.out.res.cell 1, LA.out.res.cell 2⟩
      have gf := LA.out.res.free
      obtain ⟨q0, q1, q2⟩ : (((w7.setCell ⟨K, 0, none⟩ (.int .i64 k')).setCell ⟨K, 1, none⟩ (.string u')).setCell ⟨K, 2, none⟩ (.string v')).cell? ⟨K, 0, none⟩ = some (.int .i64 k') ∧ (((w7.setCell ⟨K, 0, none⟩ (.int .i64 k')).setCell ⟨K, 1, none⟩ (.string u')).setCell ⟨K, 2, none⟩ (.string v')).cell? ⟨K, 1, none⟩ = some (.string u') ∧ (((w7.setCell ⟨K, 0, none⟩ (.int .i64 k')).setCell ⟨K, 1, none⟩ (.string u')).setCell ⟨K, 2, none⟩ (.string v')).cell? ⟨K, 2, none⟩ = some (.string v') := ⟨LA.out.bx.cell 0, LA.out.bx.cell 1, LA.out.bx.cell 2⟩
      have F6 := hide (LA.out.fin hW)
      clear LA
      go_wp2
      generalize (((((w7.setCell ⟨K, 0, none⟩ (.int .i64 k')).setCell ⟨K, 1, none⟩ (.string u')).setCell ⟨K, 2, none⟩ (.string v')).setCell ⟨w.heap.size, 0, none⟩ (.int .i64 k')).setCell ⟨w.heap.size, 1, none⟩ (.string u')).setCell ⟨w.heap.size, 2, none⟩ (.string v') = w9 at F6 ⊢
      obtain ⟨r0, r1, r2⟩ : w9.cell? ⟨w.heap.size, 0, none⟩ = some (.int .i64 k') ∧ w9.cell? ⟨w.heap.size, 1, none⟩ = some (.string u') ∧ w9.cell? ⟨w.heap.size, 2, none⟩ = some (.string v') := ⟨F6.out.1.cell 0, F6.out.1.cell 1, F6.out.1.cell 2⟩
      refine bodyPost_ret (v := .agg #[.int .i64 k', .string u', .string v']) (by simp [results, Try.results71, go_sem, r0, r1, r2]) rfl ?_
      exact ⟨k', u', v', rfl, by omega, by omega, F6.out.2.1, F6.out.2.2⟩
  · have L5 := L4 1 v
    go_wp2_with fail
    rw [hK] at *
    clear L4
    generalize w3.alloc (.cells #[.int .i64 1, .string u, .string v] 40) = W5 at L5 ⊢
    refine (rd_once W _ g a len cap 30 (by omega) (by omega) hc hl L5.out.rd).mono ?_
    rintro e w4 ⟨b, rfl, hr4, hm4⟩
    have L6 := hide (L5.out.step hr4 hm4)
    clear hr4 hm4 L5
    cases b with
    | false =>
      obtain ⟨k0, k1, k2⟩ : w4.cell? ⟨K, 0, none⟩ = some (.int .i64 1) ∧ w4.cell? ⟨K, 1, none⟩ = some (.string u) ∧ w4.cell? ⟨K, 2, none⟩ = some (.string v) := ⟨L6.out.bx.cell 0, L6.out.bx.cell 1, L6.out.bx.cell 2⟩
      obtain ⟨g0, g1, g2⟩ : w4.cell? ⟨w.heap.size, 0, none⟩ = some (.int .i64 0) ∧ w4.cell? ⟨w.heap.size, 1, none⟩ = some (.string ⟨#[]⟩) ∧ w4.cell? ⟨w.heap.size, 2, none⟩ = some (.string ⟨#[]⟩) := ⟨L6.out.res.cell 0, L6.out.res.cell 1, L6.out.res.cell 2⟩
      have gf := L6.out.res.free
      have F6 := hide (L6.out.fin hW)
      clear L6
      go_wp2
      generalize ((w4.setCell ⟨w.heap.size, 0, none⟩ (.int .i64 1)).setCell ⟨w.heap.size, 1, none⟩ (.string u)).setCell ⟨w.heap.size, 2, none⟩ (.string v) = w6 at F6 ⊢
      obtain ⟨r0, r1, r2⟩ : w6.cell? ⟨w.heap.size, 0, none⟩ = some (.int .i64 1) ∧ w6.cell? ⟨w.heap.size, 1, none⟩ = some (.string u) ∧ w6.cell? ⟨w.heap.size, 2, none⟩ = some (.string v) := ⟨F6.out.1.cell 0, F6.out.1.cell 1, F6.out.1.cell 2⟩
      refine bodyPost_ret (v := .agg #[.int .i64 1, .string u, .string v]) (by simp [results, Try.results71, go_sem, r0, r1, r2]) rfl ?_
      exact ⟨1, u, v, rfl, by omega, by omega, F6.out.2.1, F6.out.2.2⟩
    | true =>
      go_wp2_with fail
      refine (rd_off W _ g a len cap 0 1 (by omega) (by omega) (by omega) hc hl L6.out.rd).mono ?_
      rintro e w5 ⟨k', rfl, _, _, hr5, hm5⟩
      have L7 := hide (L6.out.step hr5 hm5)
      clear hr5 hm5 L6
      go_wp2_with fail
      refine (rd_bytes W _ g a len cap 44 (by omega) (by omega) hc hl L7.out.rd).mono ?_
      rintro e w6 ⟨u', rfl, hu', hr6, hm6⟩
      have L8 := hide (L7.out.step hr6 hm6)
      clear hr6 hm6 L7
      go_wp2_with fail
      refine (rd_bytes W _ g a len cap 9 (by omega) (by omega) hc hl L8.out.rd).mono ?_
      rintro e w7 ⟨v', rfl, hv', hr7, hm7⟩
      have L9 := hide (L8.out.step hr7 hm7)
      clear hr7 hm7 L8
      obtain ⟨k0, k1, k2⟩ : w7.cell? ⟨K, 0, none⟩ = some (.int .i64 1) ∧ w7.cell? ⟨K, 1, none⟩ = some (.string u) ∧ w7.cell? ⟨K, 2, none⟩ = some (.string v) := ⟨L9.out.bx.cell 0, L9.out.bx.cell 1, L9.out.bx.cell 2⟩
      have kf := L9.out.bx.free
      have LA := hide (L9.out.put hW k' u' v')
      clear L9
      obtain ⟨g0, g1, g2⟩ : (((w7.setCell ⟨K, 0, none⟩ (.int .i64 k')).setCell ⟨K, 1, none⟩ (.string u')).setCell ⟨K, 2, none⟩ (.string v')).cell? ⟨w.heap.size, 0, none⟩ = some (.int .i64 0) ∧ (((w7.setCell ⟨K, 0, none⟩ (.int .i64 k')).setCell ⟨K, 1, none⟩ (.string u')).setCell ⟨K, 2, none⟩ (.string v')).cell? ⟨w.heap.size, 1, none⟩ = some (.string ⟨#[]⟩) ∧ (((w7.setCell ⟨K, 0, none⟩ (.int .i64 k')).setCell ⟨K, 1, none⟩ (.string u')).setCell ⟨K, 2, none⟩ (.string v')).cell? ⟨w.heap.size, 2, none⟩ = some (.string ⟨#[]⟩) := ⟨LA.out.res.cell 0, LA.out.res.cell 1, LA.out.res.cell 2⟩
      have gf := LA.out.res.free
      obtain ⟨q0, q1, q2⟩ : (((w7.setCell ⟨K, 0, none⟩ (.int .i64 k')).setCell ⟨K, 1, none⟩ (.string u')).setCell ⟨K, 2, none⟩ (.string v')).cell? ⟨K, 0, none⟩ = some (.int .i64 k') ∧ (((w7.setCell ⟨K, 0, none⟩ (.int .i64 k')).setCell ⟨K, 1, none⟩ (.string u')).setCell ⟨K, 2, none⟩ (.string v')).cell? ⟨K, 1, none⟩ = some (.string u') ∧ (((w7.setCell ⟨K, 0, none⟩ (.int .i64 k')).setCell ⟨K, 1, none⟩ (.string u')).setCell ⟨K, 2, none⟩ (.string v')).cell? ⟨K, 2, none⟩ = some (.string v') := ⟨LA.out.bx.cell 0, LA.out.bx.cell 1, LA.out.bx.cell 2⟩
      have F6 := hide (LA.out.fin hW)
      clear LA
      go_wp2
      generalize (((((w7.setCell ⟨K, 0, none⟩ (.int .i64 k')).setCell ⟨K, 1, none⟩ (.string u')).setCell ⟨K, 2, none⟩ (.string v')).setCell ⟨w.heap.size, 0, none⟩ (.int .i64 k')).setCell ⟨w.heap.size, 1, none⟩ (.string u')).setCell ⟨w.heap.size, 2, none⟩ (.string v') = w9 at F6 ⊢
      obtain ⟨r0, r1, r2⟩ : w9.cell? ⟨w.heap.size, 0, none⟩ = some (.int .i64 k') ∧ w9.cell? ⟨w.heap.size, 1, none⟩ = some (.string u') ∧ w9.cell? ⟨w.heap.size, 2, none⟩ = some (.string v') := ⟨F6.out.1.cell 0, F6.out.1.cell 1, F6.out.1.cell 2⟩
      refine bodyPost_ret (v := .agg #[.int .i64 k', .string u', .string v']) (by simp [results, Try.results71, go_sem, r0, r1, r2]) rfl ?_
      exact ⟨k', u', v', rfl, by omega, by omega, F6.out.2.1, F6.out.2.2⟩

theorem ops_mem {os : List Ob} {o : Ob} (h : ∀ p ∈ os, p.u.size ≤ 60 ∧ p.x.size ≤ 60) (hu : o.u.size ≤ 60) (hx : o.x.size ≤ 60) : ∀ p ∈ os ++ [o], p.u.size ≤ 60 ∧ p.x.size ≤ 60 := fun p hp => by
  rcases List.mem_append.1 hp with hp | hp
  · exact h p hp
  · rw [List.mem_singleton.1 hp]; exact ⟨hu, hx⟩

theorem OwnO.lit (w : World) (B : Nat) (hB : B ≤ w.heap.size) : OwnO (w.alloc (.cells #[] 40)) B (.slice (some ⟨w.heap.size, 0, none⟩) 0 0) [] :=
  ⟨by simp [cellsO], .inr ⟨w.heap.size, 0, #[], rfl, hB, heap_alloc_new w _, Nat.le_refl _, by decide, by simp, by simp [cellsO]⟩⟩

def OpsEnd (W w : World) (g : Nat) (a : Option Addr) (len cap : Nat) (e : Ending) (w' : World) : Prop :=
  ∃ (v : Value) (os : List Ob), e = .returned v ∧ os.length ≤ 10 ∧ OwnO w' w.heap.size v os ∧ Rd W w' g a len cap ∧ Mv g w w'

set_option maxHeartbeats 2000000 in
theorem rd_ops (W w : World) (g : Nat) (a : Option Addr) (len cap : Nat) (hc : IsCode W a len) (hl : len ≤ 1048576) (h : Rd W w g a len cap) (hW : W.heap.size ≤ w.heap.size) :
    Calls Try.prog 53 #[.pointer (some ⟨g, 0, none⟩)] w fun e w' => OpsEnd W w g a len cap e w' := by
  have hb0 := below_one w (.cells #[] 40)
  have HO0 := hide (OwnO.lit w w.heap.size (Nat.le_refl _))
  have HR0 := hide (h.mv hb0)
  have HM0 := hide (show Mv g w _ from Mv.of_below hb0)
  have hg := h.lt
  clear h hb0
  go_enter Try.func53, Try.ntmps53
  go_wp2_with fail
  generalize w.alloc (.cells #[] 40) = W0 at HO0 HR0 HM0 ⊢
  refine (rd_below W _ g a len cap 4 (by omega) (by omega) hc hl HR0.out).mono ?_
  rintro e w1 ⟨x, rfl, hx0, hx1, hr1, hm1⟩
  have HR1 := hide hr1
  have HO1 := hide (own_mvR HO0.out hm1 hg)
  have HM1 := hide (HM0.out.trans hm1)
  obtain ⟨n, rfl⟩ := Int.eq_ofNat_of_zero_le hx0
  clear hr1 hm1 HO0 HR0 HM0
  go_wp2
  go_loopw [3, 4] (fun v i wr => ∃ (k : Nat) (os : List Ob), i = .int .i64 k ∧ k + os.length ≤ 5 ∧ Hid (OwnO wr w.heap.size v os) ∧ Hid (Rd W wr g a len cap) ∧ Hid (Mv g w wr)) (fun _ i _ => (intOf i).toNat)
  case atStart => exact ⟨n + 1, [], by go_num, by simp; omega, HO1, HR1, HM1⟩
  case round =>
    obtain ⟨k, os, rfl, hk, HO, HR, HM⟩ := hrel
    clear HO1 HR1 HM1
    by_cases hk0 : k = 0
    · subst hk0
      go_wp2_with fail
      refine (rd_once W _ g a len cap 30 (by omega) (by omega) hc hl HR.out).mono ?_
      rintro e w2 ⟨b, rfl, hr2, hm2⟩
      have HR2 := hide hr2
      have HO2 := hide (own_mvR HO.out hm2 hg)
      have HM2 := hide (HM.out.trans hm2)
      clear hr2 hm2 HO HR HM
      cases b with
      | false =>
        go_wp2
        go_ret
        exact ⟨_, os, rfl, by omega, HO2.out, HR2.out, HM2.out⟩
      | true =>
        have hb3 := below_one w2 (.cells #[] 40)
        have HO3 := hide (OwnO.lit w2 w.heap.size HM2.out.size)
        have HR3 := hide (HR2.out.mv hb3)
        have HM3 := hide (mv_next HM2.out hb3)
        clear hb3 HO2 HR2 HM2
        go_wp2
        go_ret
        exact ⟨_, [], rfl, by simp, HO3.out, HR3.out, HM3.out⟩
    · obtain ⟨k1, rfl⟩ : ∃ k1, k = k1 + 1 := ⟨k - 1, by omega⟩
      have hk1 : (0 : Int) < ((k1 + 1 : Nat) : Int) := by omega
      clear hk0
      obtain ⟨ar, cp, hv, _⟩ := OwnO.ops HO.out
      subst hv
      go_wp2_with fail
      refine (rd_op W _ g a len cap hc hl HR.out (Nat.le_trans hW HM.out.size)).mono ?_
      rintro e w2 ⟨kd, u, xx, rfl, hu, hxx, hr2, hm2⟩
      have HR2 := hide hr2
      have HO2 := hide (own_mvR HO.out hm2 hg)
      have HM2 := hide (HM.out.trans hm2)
      clear hr2 hm2 HO HR HM
      have hb3 := below_one w2 (.cells #[.int .i64 kd, .string u, .string xx] 40)
      go_wp2_with (at_builtin; refine wpList_append_ob rfl _ _ 24 rfl Try.underlying24 w.heap.size _ os ⟨kd, u, xx⟩ (by rfl) (by rfl) HO2.out HM2.out.size (by omega) ?_)
      intro g3 c3 w3 hO3 hb4
      have HO3 := hide hO3
      have HR3 := hide (HR2.out.keep hb4 hg)
      have HM3 : Hid (Mv g w w3) := mv_below HM2.out hb4
      clear hO3 hb4 hb3 HO2 HR2 HM2
      go_wp2
      exact ⟨⟨k1, _, by go_num, by rw [List.length_append]; simp; omega, HO3, HR3, HM3⟩, by simp [intOf]⟩

end Go.Proofs.Ytljmfdcilnbjaab

/- What the laws on batches draw: a batch, and the bytes of one, some of them hurt. -/
namespace Go.Proofs.Ytljmfdcilnbjaab
set_option maxRecDepth 100000
open Go.RowKit Go.Deep

def BatEnd (W w : World) (g : Nat) (a : Option Addr) (len cap : Nat) (e : Ending) (w' : World) : Prop :=
  ∃ (q : Int) (ar : Option Addr) (cp : Nat) (os : List Ob), e = .returned (.agg #[.int .i64 q, .slice ar os.length cp]) ∧ os.length ≤ 10 ∧ OwnO w' w.heap.size (.slice ar os.length cp) os ∧ Rd W w' g a len cap ∧ Mv g w w'

theorem Rd.far {W y z : World} {g B : Nat} {a : Option Addr} {len cap : Nat} (h : Rd W y g a len cap) (hm : Mv B y z) (hB : B ≠ g) (hW : W.heap.size ≤ B) (hBy : B < y.heap.size) : Rd W z g a len cap := h.other hm hB hW hBy

set_option maxHeartbeats 2000000 in
theorem rd_batch (W w : World) (g : Nat) (a : Option Addr) (len cap : Nat) (hc : IsCode W a len) (hl : len ≤ 1048576) (h : Rd W w g a len cap) (hW : W.heap.size ≤ w.heap.size) :
    Calls Try.prog 32 #[.pointer (some ⟨g, 0, none⟩)] w fun e w' => BatEnd W w g a len cap e w' := by
  have hb0 := below_one w (.cells #[.int .i64 0, .slice none 0 0] 26)
  have HX0 := hide (BoxIs.new w #[.int .i64 0, .slice none 0 0] 26 rfl)
  have HR0 := hide (h.mv hb0)
  have HM0 := hide (show Mv g w _ from Mv.of_below hb0)
  have hg := h.lt
  clear h hb0
  go_enter Try.func32, Try.ntmps32
  go_wp2_with fail
  generalize w.alloc (.cells #[.int .i64 0, .slice none 0 0] 26) = W0 at HX0 HR0 HM0 ⊢
  refine (rd_near W _ g a len cap 0 20 (by omega) (by omega) (by omega) hc hl HR0.out).mono ?_
  rintro e w1 ⟨x, rfl, hx0, hx1, hr1, hm1⟩
  have HR1 := hide hr1
  have HX1 := hide (HX0.out.mv hm1 (Nat.ne_of_gt hg))
  have HM1 := hide (HM0.out.trans hm1)
  clear hr1 hm1 HX0 HR0 HM0
  go_wp2_with fail
  refine (rd_ops W _ g a len cap hc hl HR1.out (Nat.le_trans hW HM1.out.size)).mono ?_
  rintro e w2 ⟨v, os, rfl, hn, ho2, hr2, hm2⟩
  obtain ⟨ar, cp, rfl, _⟩ := ho2.ops
  have HX2 := hide (HX1.out.mv hm2 (Nat.ne_of_gt hg))
  have HO2 := hide ho2
  have HR2 := hide hr2
  have HM2 := hide (HM1.out.trans hm2)
  have hGl : w.heap.size < w1.heap.size := HX1.out.lt
  clear ho2 hr2 hm2 HX1 HR1 HM1
  obtain ⟨q, hq⟩ : ∃ q, 1 + x = q := ⟨_, rfl⟩
  have hm : Mv w.heap.size w2 ((w2.setCell ⟨w.heap.size, 0, none⟩ (.int .i64 q)).setCell ⟨w.heap.size, 1, none⟩ (.slice ar os.length cp)) := ((Mv.refl _ _).setCell _).setCell _
  have FX := hide (heap_setCell_same _ w.heap.size 1 _ _ (.slice ar os.length cp) (heap_setCell_same w2 w.heap.size 0 _ _ (.int .i64 q) HX2.out))
  have FO := hide (own_mono (own_mvR HO2.out hm hGl) (Nat.le_of_lt hGl))
  have FR := hide (HR2.out.far hm (Nat.ne_of_gt hg) hW HX2.out.lt)
  have FM : Hid (Mv g w ((w2.setCell ⟨w.heap.size, 0, none⟩ (.int .i64 q)).setCell ⟨w.heap.size, 1, none⟩ (.slice ar os.length cp))) :=
    ⟨hm.os.trans HM2.out.os, hm.tape.trans HM2.out.tape, hm.output.trans HM2.out.output, Nat.le_trans HM2.out.size hm.size, fun i hi hig => (hm.block i (Nat.lt_of_lt_of_le hi HM2.out.size) (Nat.ne_of_lt hi)).trans (HM2.out.block i hi hig)⟩
  obtain ⟨g0, g1⟩ : w2.cell? ⟨w.heap.size, 0, none⟩ = some (.int .i64 0) ∧ w2.cell? ⟨w.heap.size, 1, none⟩ = some (.slice none 0 0) := ⟨HX2.out.cell 0, HX2.out.cell 1⟩
  have gf := HX2.out.free
  clear hm HX2 HO2 HR2 HM2
  go_wp2
  generalize (w2.setCell ⟨w.heap.size, 0, none⟩ (.int .i64 q)).setCell ⟨w.heap.size, 1, none⟩ (.slice ar os.length cp) = w3 at FX FO FR FM ⊢
  obtain ⟨r0, r1⟩ : w3.cell? ⟨w.heap.size, 0, none⟩ = some (.int .i64 q) ∧ w3.cell? ⟨w.heap.size, 1, none⟩ = some (.slice ar os.length cp) := ⟨cell_of_row _ _ _ _ _ _ FX.out, cell_of_row _ _ _ _ _ _ FX.out⟩
  refine bodyPost_ret (v := .agg #[.int .i64 q, .slice ar os.length cp]) (by simp [results, Try.results32, go_sem, r0, r1]) rfl ?_
  exact ⟨q, ar, cp, os, rfl, hn, FO.out, FR.out, FM.out⟩

def BatTell (w : World) (e : Ending) (w' : World) : Prop :=
  ∃ (q : Int) (ar : Option Addr) (cp : Nat) (os : List Ob), e = .returned (.agg #[.int .i64 q, .slice ar os.length cp]) ∧ os.length ≤ 10 ∧ OwnO w' w.heap.size (.slice ar os.length cp) os ∧ Below w.heap.size w w'

/-- The answer's box is written: the row stays. -/
theorem bat_put {w y : World} {G B : Nat} {q q0 : Int} {ar : Option Addr} {cp : Nat} {v0 : Value} {os : List Ob} (hx : BoxIs y G #[.int .i64 q0, v0] 26) (ho : OwnO y B (.slice ar os.length cp) os) (hb : Below w.heap.size w y) (hG : w.heap.size ≤ G) (hB : G < B) :
    BoxIs ((y.setCell ⟨G, 0, none⟩ (.int .i64 q)).setCell ⟨G, 1, none⟩ (.slice ar os.length cp)) G #[.int .i64 q, .slice ar os.length cp] 26 ∧ OwnO ((y.setCell ⟨G, 0, none⟩ (.int .i64 q)).setCell ⟨G, 1, none⟩ (.slice ar os.length cp)) B (.slice ar os.length cp) os ∧ Below w.heap.size w ((y.setCell ⟨G, 0, none⟩ (.int .i64 q)).setCell ⟨G, 1, none⟩ (.slice ar os.length cp)) := by
  have hm : Mv G y ((y.setCell ⟨G, 0, none⟩ (.int .i64 q)).setCell ⟨G, 1, none⟩ (.slice ar os.length cp)) := ((Mv.refl _ _).setCell _).setCell _
  exact ⟨heap_setCell_same _ G 1 _ _ (.slice ar os.length cp) (heap_setCell_same y G 0 _ _ (.int .i64 q) hx), own_mvR ho hm hB, hb.trans (hm.below hb.size hG)⟩

/-- A box of a batch is no row of ops. -/
theorem own_type {y z : World} {B K : Nat} {v : Value} {os : List Ob} {cs : Array Value} (ho : OwnO y B v os) (hk : BoxIs y K cs 26) (hm : Mv K y z) : OwnO z B v os := by
  refine ⟨ho.1, ?_⟩
  rcases ho.2 with hn | ⟨g, cap, cur, rfl, hg, hh, r⟩
  · exact .inl hn
  · refine .inr ⟨g, cap, cur, rfl, hg, ?_, r⟩
    have hne : g ≠ K := by
      rintro rfl
      have h2 : y.heap[g]? = some (.cells cs 26) := hk
      rw [hh] at h2
      injection h2 with h2
      injection h2 with _ h2
      exact absurd h2 (by decide)
    exact (hm.block g (Array.getElem?_eq_some_iff.1 hh).1 hne).trans hh

set_option maxHeartbeats 2000000 in
theorem draw_BatchOk (W w : World) (a : Option Addr) (len cap : Nat) (hc : IsCode W a len) (hl : len ≤ 1048576) (hb : Below W.heap.size W w) :
    Calls Try.prog 15 #[.slice a len cap] w fun e w' => BatTell w e w' := by
  have hb0 := below_one w (.cells #[.int .i64 0, .slice none 0 0] 26)
  have HX0 := hide (BoxIs.new w #[.int .i64 0, .slice none 0 0] 26 rfl)
  have HB0 := hide hb0
  have HW0 := hide (hb.trans (hb0.mono hb.size))
  have hWw := hb.size
  clear hb0 hb
  go_enter Try.func15, Try.ntmps15
  go_wp2_with fail
  generalize w.alloc (.cells #[.int .i64 0, .slice none 0 0] 26) = W0 at HX0 HB0 HW0 ⊢
  refine (open_rd W0 a len cap W HW0.out).mono ?_
  rintro e w1 ⟨rfl, hr, hb1⟩
  obtain ⟨g, hg⟩ : ∃ g, W0.heap.size = g := ⟨_, rfl⟩
  have hgl : w.heap.size < g := by rw [← hg]; exact HX0.out.lt
  have HX1 := hide (HX0.out.next hb1)
  rw [hg] at hr ⊢
  have HB1 := hide (HB0.out.trans (hb1.mono HB0.out.size))
  have HR1 := hide hr
  have hW1 : W.heap.size ≤ w1.heap.size := Nat.le_trans HW0.out.size hb1.size
  clear hb1 hr HB0 HX0 HW0
  go_wp2_with fail
  refine (rd_batch W _ g a len cap hc hl HR1.out hW1).mono ?_
  rintro e w2 ⟨q, ar, cp, os, rfl, hn, ho2, hr2, hm2⟩
  have HX2 := hide (HX1.out.mv hm2 (Nat.ne_of_lt hgl))
  have HB2 := hide (HB1.out.trans (hm2.below HB1.out.size (Nat.le_of_lt hgl)))
  have hG1 : w.heap.size < w1.heap.size := HX1.out.lt
  have hgw1 : g < w1.heap.size := HR1.out.lt
  have hb3 := below_one w2 (.cells #[.int .i64 q, .slice ar os.length cp] 26)
  have HX3 := hide (HX2.out.next hb3)
  have HK3 := hide (BoxIs.new w2 #[.int .i64 q, .slice ar os.length cp] 26 rfl)
  have HO3 := hide (own_next ho2 hb3)
  have HR3 := hide (hr2.mv hb3)
  have HB3 := hide (HB2.out.trans (hb3.mono HB2.out.size))
  have hKg : g < w2.heap.size := hr2.lt
  have hGK : w.heap.size < w2.heap.size := HX2.out.lt
  clear ho2 hr2 hm2 hb3 HX1 HR1 HB1 HX2 HB2
  go_wp2_with fail
  generalize w2.alloc (.cells #[.int .i64 q, .slice ar os.length cp] 26) = W3 at HX3 HK3 HO3 HR3 HB3 ⊢
  obtain ⟨K, hK⟩ : ∃ K, w2.heap.size = K := ⟨_, rfl⟩
  rw [hK] at HK3 hKg hGK ⊢
  clear hK
  refine (rd_once W _ g a len cap 10 (by omega) (by omega) hc hl HR3.out).mono ?_
  rintro e w4 ⟨b, rfl, hr4, hm4⟩
  have HX4 := hide (HX3.out.mv hm4 (Nat.ne_of_lt hgl))
  have HK4 := hide (HK3.out.mv hm4 (Nat.ne_of_gt hKg))
  have HB4 := hide (HB3.out.trans (hm4.below HB3.out.size (Nat.le_of_lt hgl)))
  have HO4 := hide (own_mvR HO3.out hm4 hgw1)
  have HR4 := hide hr4
  clear hr4 hm4 HX3 HK3 HO3 HR3 HB3
  cases b with
  | false =>
    obtain ⟨k0, k1⟩ : w4.cell? ⟨K, 0, none⟩ = some (.int .i64 q) ∧ w4.cell? ⟨K, 1, none⟩ = some (.slice ar os.length cp) := ⟨HK4.out.cell 0, HK4.out.cell 1⟩
    obtain ⟨g0, g1⟩ : w4.cell? ⟨w.heap.size, 0, none⟩ = some (.int .i64 0) ∧ w4.cell? ⟨w.heap.size, 1, none⟩ = some (.slice none 0 0) := ⟨HX4.out.cell 0, HX4.out.cell 1⟩
    have gf := HX4.out.free
    have F9 := hide (bat_put (q := q) HX4.out HO4.out HB4.out (Nat.le_refl _) hG1)
    clear HX4 HK4 HO4 HB4 HR4
    go_wp2
    generalize (w4.setCell ⟨w.heap.size, 0, none⟩ (.int .i64 q)).setCell ⟨w.heap.size, 1, none⟩ (.slice ar os.length cp) = w9 at F9 ⊢
    obtain ⟨r0, r1⟩ : w9.cell? ⟨w.heap.size, 0, none⟩ = some (.int .i64 q) ∧ w9.cell? ⟨w.heap.size, 1, none⟩ = some (.slice ar os.length cp) := ⟨F9.out.1.cell 0, F9.out.1.cell 1⟩
    refine bodyPost_ret (v := .agg #[.int .i64 q, .slice ar os.length cp]) (by simp [results, Try.results15, go_sem, r0, r1]) rfl ?_
    exact ⟨q, ar, cp, os, rfl, hn, own_mono F9.out.2.1 (Nat.le_of_lt hG1), F9.out.2.2⟩
  | true =>
    go_wp2_with fail
    refine (rd_off W _ g a len cap 1 999999999980 (by omega) (by omega) (by omega) hc hl HR4.out).mono ?_
    rintro e w5 ⟨q', rfl, _, _, hr5, hm5⟩
    have HX5 := hide (HX4.out.mv hm5 (Nat.ne_of_lt hgl))
    have HK5 := hide (HK4.out.mv hm5 (Nat.ne_of_gt hKg))
    have HB5 := hide (HB4.out.trans (hm5.below HB4.out.size (Nat.le_of_lt hgl)))
    have HO5 := hide (own_mvR HO4.out hm5 hgw1)
    clear hr5 hm5 HX4 HK4 HO4 HB4 HR4
    have hmK : Mv K w5 (w5.setCell ⟨K, 0, none⟩ (.int .i64 q')) := (Mv.refl _ _).setCell _
    have kf := HK5.out.free
    obtain ⟨j0, j1⟩ : w5.cell? ⟨K, 0, none⟩ = some (.int .i64 q) ∧ w5.cell? ⟨K, 1, none⟩ = some (.slice ar os.length cp) := ⟨HK5.out.cell 0, HK5.out.cell 1⟩
    have HX6 := hide (HX5.out.mv hmK (Nat.ne_of_lt hGK))
    have HK6 := hide (heap_setCell_same w5 K 0 _ _ (.int .i64 q') HK5.out)
    have HO6 := hide (own_type HO5.out HK5.out hmK)
    have HB6 := hide (HB5.out.trans (hmK.below HB5.out.size (Nat.le_of_lt hGK)))
    clear hmK HX5 HK5 HO5 HB5
    obtain ⟨k0, k1⟩ : (w5.setCell ⟨K, 0, none⟩ (.int .i64 q')).cell? ⟨K, 0, none⟩ = some (.int .i64 q') ∧ (w5.setCell ⟨K, 0, none⟩ (.int .i64 q')).cell? ⟨K, 1, none⟩ = some (.slice ar os.length cp) := ⟨cell_of_row _ _ _ _ _ _ HK6.out, cell_of_row _ _ _ _ _ _ HK6.out⟩
    obtain ⟨g0, g1⟩ : (w5.setCell ⟨K, 0, none⟩ (.int .i64 q')).cell? ⟨w.heap.size, 0, none⟩ = some (.int .i64 0) ∧ (w5.setCell ⟨K, 0, none⟩ (.int .i64 q')).cell? ⟨w.heap.size, 1, none⟩ = some (.slice none 0 0) := ⟨HX6.out.cell 0, HX6.out.cell 1⟩
    have gf := HX6.out.free
    have F9 := hide (bat_put (q := q') HX6.out HO6.out HB6.out (Nat.le_refl _) hG1)
    clear HX6 HK6 HO6 HB6
    go_wp2
    generalize ((w5.setCell ⟨K, 0, none⟩ (.int .i64 q')).setCell ⟨w.heap.size, 0, none⟩ (.int .i64 q')).setCell ⟨w.heap.size, 1, none⟩ (.slice ar os.length cp) = w9 at F9 ⊢
    obtain ⟨r0, r1⟩ : w9.cell? ⟨w.heap.size, 0, none⟩ = some (.int .i64 q') ∧ w9.cell? ⟨w.heap.size, 1, none⟩ = some (.slice ar os.length cp) := ⟨F9.out.1.cell 0, F9.out.1.cell 1⟩
    refine bodyPost_ret (v := .agg #[.int .i64 q', .slice ar os.length cp]) (by simp [results, Try.results15, go_sem, r0, r1]) rfl ?_
    exact ⟨q', ar, cp, os, rfl, hn, own_mono F9.out.2.1 (Nat.le_of_lt hG1), F9.out.2.2⟩

set_option maxHeartbeats 1000000 in
theorem draw_BatchText (W w : World) (a : Option Addr) (len cap : Nat) (hc : IsCode W a len) (hl : len ≤ 1048576) (hb : Below W.heap.size W w) :
    Calls Try.prog 5 #[.slice a len cap] w fun e w' => BatTell w e w' := by
  have hb0 := below_one w (.cells #[.int .i64 0, .slice none 0 0] 26)
  have HX0 := hide (BoxIs.new w #[.int .i64 0, .slice none 0 0] 26 rfl)
  have HB0 := hide hb0
  have HW0 := hide (hb.trans (hb0.mono hb.size))
  clear hb0 hb
  go_enter Try.func5, Try.ntmps5
  go_wp2_with fail
  generalize w.alloc (.cells #[.int .i64 0, .slice none 0 0] 26) = W0 at HX0 HB0 HW0 ⊢
  refine (draw_BatchOk W W0 a len cap hc hl HW0.out).mono ?_
  rintro e w1 ⟨q, ar, cp, os, rfl, hn, ho, hb1⟩
  have hG1 : w.heap.size < W0.heap.size := HX0.out.lt
  have HX1 := hide (HX0.out.next hb1)
  have HB1 := hide (HB0.out.trans (hb1.mono HB0.out.size))
  obtain ⟨g0, g1⟩ : w1.cell? ⟨w.heap.size, 0, none⟩ = some (.int .i64 0) ∧ w1.cell? ⟨w.heap.size, 1, none⟩ = some (.slice none 0 0) := ⟨HX1.out.cell 0, HX1.out.cell 1⟩
  have gf := HX1.out.free
  have F9 := hide (bat_put (q := q) HX1.out ho HB1.out (Nat.le_refl _) hG1)
  clear hb1 ho HX0 HB0 HX1 HB1 HW0
  go_wp2
  generalize (w1.setCell ⟨w.heap.size, 0, none⟩ (.int .i64 q)).setCell ⟨w.heap.size, 1, none⟩ (.slice ar os.length cp) = w9 at F9 ⊢
  obtain ⟨r0, r1⟩ : w9.cell? ⟨w.heap.size, 0, none⟩ = some (.int .i64 q) ∧ w9.cell? ⟨w.heap.size, 1, none⟩ = some (.slice ar os.length cp) := ⟨F9.out.1.cell 0, F9.out.1.cell 1⟩
  refine bodyPost_ret (v := .agg #[.int .i64 q, .slice ar os.length cp]) (by simp [results, Try.results5, go_sem, r0, r1]) rfl ?_
  exact ⟨q, ar, cp, os, rfl, hn, own_mono F9.out.2.1 (Nat.le_of_lt hG1), F9.out.2.2⟩

theorem batT_size (q : Int) (n : Nat) (O : Ops) : (batchText q n O).size ≤ 8000 := by
  cases h : batchOkB q n O with
  | true => exact batchText_size h
  | false => rw [batchText_no h]; exact Nat.zero_le _

set_option maxHeartbeats 2000000 in
theorem draw_ReadBatch (W w : World) (a : Option Addr) (len cap : Nat) (hc : IsCode W a len) (hl : len ≤ 1048576) (hb : Below W.heap.size W w) :
    Calls Try.prog 13 #[.slice a len cap] w fun e w' => ∃ t : ByteArray, e = .returned (.string t) ∧ t.size ≤ 9000 ∧ Below w.heap.size w w' := by
  go_enter Try.func13, Try.ntmps13
  go_wp2_with fail
  refine (open_rd w a len cap W hb).mono ?_
  rintro e w1 ⟨rfl, hr, hb1⟩
  obtain ⟨g, hg⟩ : ∃ g, w.heap.size = g := ⟨_, rfl⟩
  have hgs : ∀ y : World, Below g w y → g ≤ y.heap.size := fun y h => by rw [← hg]; exact h.size
  rw [hg] at hr ⊢
  have HB1 : Hid (Below g w w1) := by rw [← hg]; exact hb1
  have HR1 := hide hr
  have hW1 : W.heap.size ≤ w1.heap.size := Nat.le_trans hb.size hb1.size
  clear hb1 hr
  go_wp2_with fail
  refine (rd_batch W _ g a len cap hc hl HR1.out hW1).mono ?_
  rintro e w2 ⟨q, ar, cp, os, rfl, hn, ho2, hr2, hm2⟩
  obtain ⟨ar', cp', hv, hOp⟩ := ho2.ops
  simp only [Value.slice.injEq] at hv
  obtain ⟨rfl, _, rfl⟩ := hv
  have HOp := hide hOp
  have HR2 := hide hr2
  have HB2 := hide (HB1.out.trans (hm2.below (hgs _ HB1.out) (Nat.le_refl _)))
  have cb := fun wx h => spec_BatchText q ar os.length cp (opsOf os) wx (by omega) h
  have hsz := batT_size q os.length (opsOf os)
  clear ho2 hOp hr2 hm2 HB1 HR1
  generalize batchText q os.length (opsOf os) = s at *
  go_wp2_with fail
  refine (cb _ HOp.out).mono ?_
  rintro e w3 ⟨rfl, hb3⟩
  have HR3 := hide (HR2.out.mv hb3)
  have HB3 := hide (HB2.out.trans (hb3.mono (hgs _ HB2.out)))
  clear hb3 cb HOp HR2 HB2
  go_wp2_with fail
  refine (rd_below W _ g a len cap 6 (by omega) (by omega) hc hl HR3.out).mono ?_
  rintro e w4 ⟨y, rfl, hy0, hy1, hr4, hm4⟩
  have HR4 := hide hr4
  have HB4 := hide (HB3.out.trans (hm4.below (hgs _ HB3.out) (Nat.le_refl _)))
  clear hr4 hm4 HR3 HB3
  by_cases y0 : y = 0
  · subst y0
    go_wp2_with fail
    refine (rd_bytes W _ g a len cap 2 (by omega) (by omega) hc hl HR4.out).mono ?_
    rintro e w5 ⟨b, rfl, hb5, hr5, hm5⟩
    have HB5 := hide (HB4.out.trans (hm5.below (hgs _ HB4.out) (Nat.le_refl _)))
    have hadd : ∀ wx : World, (Op.stringOp .add s b).run Try.prog wx = .ok (.string (s ++ b)) wx := fun wx => run_string_add_sum wx _ _ (by omega)
    have HZ : Hid ((s ++ b).size ≤ 9000) := by show _ ≤ _; rw [ByteArray.size_append]; omega
    generalize s ++ b = t at *
    clear hr5 hm5 HR4 HB4
    go_wp2
    go_ret
    exact ⟨t, rfl, HZ.out, by rw [hg]; exact HB5.out⟩
  · have y0' : (y == 0) = false := by simp [y0]
    by_cases y1 : y = 1
    · subst y1
      go_wp2_with fail
      refine (rd_below W _ g a len cap ((s.size : Int) + 1) (by omega) (by omega) hc hl HR4.out).mono ?_
      rintro e w5 ⟨i, rfl, hi0, hi1, hr5, hm5⟩
      obtain ⟨i, rfl⟩ := Int.eq_ofNat_of_zero_le hi0
      have i1 : (i : Int) ≤ (s.size : Int) := by omega
      have HB5 := hide (HB4.out.trans (hm5.below (hgs _ HB4.out) (Nat.le_refl _)))
      have HZ : Hid ((s.extract 0 i).size ≤ 9000) := by show _ ≤ _; rw [ByteArray.size_extract]; omega
      clear hr5 hm5 HR4 HB4 hi0 hi1
      go_wp2
      go_ret
      exact ⟨s.extract 0 i, rfl, HZ.out, by rw [hg]; exact HB5.out⟩
    · have y1' : (y == 1) = false := by simp [y1]
      by_cases y2 : y = 2
      · subst y2
        go_wp2_with fail
        refine (rd_bytes W _ g a len cap 9 (by omega) (by omega) hc hl HR4.out).mono ?_
        rintro e w5 ⟨b, rfl, hb5, hr5, hm5⟩
        have HB5 := hide (HB4.out.trans (hm5.below (hgs _ HB4.out) (Nat.le_refl _)))
        clear hr5 hm5 HR4 HB4
        go_wp2
        go_ret
        exact ⟨b, rfl, by omega, by rw [hg]; exact HB5.out⟩
      · have y2' : (y == 2) = false := by simp [y2]
        go_wp2
        go_ret
        exact ⟨s, rfl, by omega, by rw [hg]; exact HB4.out⟩

end Go.Proofs.Ytljmfdcilnbjaab

/- The law FnBatches, walked: a batch comes back from its bytes. -/
namespace Go.Proofs.Ytljmfdcilnbjaab
set_option maxRecDepth 100000
open Go.RowKit Go.Deep

theorem laws_sameOps (a b : Option Addr) (len ca cb : Nat) (O : Ops) (w : World) (hl : len ≤ 1048576) (ha : OpAt w w.heap.size a len O) (hb : OpAt w w.heap.size b len O) :
    Calls Try.prog 10 #[.slice a len ca, .slice b len cb] w fun e w' => e = .returned (.bool true) ∧ Below w.heap.size w w' := by
  have HA := hide ha
  have HB := hide hb
  have HW0 := hide (Below.refl w.heap.size w)
  clear ha hb
  go_enter Try.func10, Try.ntmps10
  go_wp2
  go_loopw [5] (fun i wr => ∃ k : Nat, i = .int .i64 k ∧ k ≤ len ∧ Hid (Below w.heap.size w wr)) (fun i _ => len - (intOf i).toNat)
  case atStart => exact ⟨0, rfl, by omega, HW0⟩
  case round =>
    obtain ⟨k, rfl, hk, HW⟩ := hrel
    by_cases hlt : k < len
    · obtain ⟨g1, o1, rfl, _, c0, c1, c2⟩ := (HA.out.below HW.out).at hlt
      obtain ⟨g2, o2, rfl, _, d0, d1, d2⟩ := (HB.out.below HW.out).at hlt
      have hki : (k : Int) < (len : Int) := by omega
      go_wp2
      go_quiet (fail)
      go_wp2
      exact ⟨⟨k + 1, by go_num, by omega, below_drewN HW.out _⟩, by simp [intOf]; omega⟩
    · obtain rfl : k = len := by omega
      go_wp2
      go_ret
      exact ⟨rfl, HW.out⟩

set_option maxHeartbeats 4000000 in
theorem walk_FnBatches (v : Value) {w : World} (hv : IsBytes w v) (_w : World) :
    Calls Try.prog 3 #[v] w fun e w' => e = .returned (.bool true) ∧ Below w.heap.size w w' := by
  obtain ⟨a, len, cap, rfl, hc, hm⟩ := hv
  by_cases hbig : 1048576 < len
  · have hd : decide (1048576 < len) = true := by simp [hbig]
    go_enter Try.func3, Try.ntmps3
    go_wp2_with fail
    refine (laws_big a len cap hm _).mono ?_
    rintro e w1 ⟨rfl, rfl⟩
    go_wp2
    go_ret
    exact ⟨rfl, Below.refl _ _⟩
  · have hd : decide (1048576 < len) = false := by simp [hbig]
    have hl : len ≤ 1048576 := by omega
    go_enter Try.func3, Try.ntmps3
    go_wp2_with fail
    refine (laws_big a len cap hm _).mono ?_
    rintro e w1 ⟨rfl, rfl⟩
    go_wp2_with fail
    refine (draw_BatchText w _ a len cap hc hl (Below.refl _ _)).mono ?_
    rintro e w1 ⟨q, ar, cp, os, rfl, hn, ho, hb1⟩
    obtain ⟨ar', cp', hv, hOp⟩ := ho.ops
    simp only [Value.slice.injEq] at hv
    obtain ⟨rfl, _, rfl⟩ := hv
    have hb2 := below_one w1 (.cells #[.int .i64 q, .slice ar os.length cp] 26)
    have HX2 := hide (BoxIs.new w1 #[.int .i64 q, .slice ar os.length cp] 26 rfl)
    have HO2 := hide (hOp.on hb2 (Nat.le_refl _))
    have HB2 := hide (hb1.trans (hb2.mono hb1.size))
    have hz2 := hb2.size
    have ct := fun wx h => impl_BatchText q ar os.length cp (opsOf os) wx (by omega) h
    have cu := fun wx h => spec_BatchText q ar os.length cp (opsOf os) wx (by omega) h
    have ck := fun wx h => impl_BatchOk q ar os.length cp (opsOf os) wx (by omega) h
    have ce := fun wx h => impl_BE q ar os.length cp (opsOf os) wx (by omega) h
    have hTz := batT_size q os.length (opsOf os)
    have cr := fun wx => impl_ReadBatchR (batchText q os.length (opsOf os)) (by omega) wx
    have HY : Hid (batchOkB q os.length (opsOf os) = true → readB (batchText q os.length (opsOf os)) = (true, q, os)) := fun h => by have := readB_put h; rwa [ops_self] at this
    have HN : Hid (batchOkB q os.length (opsOf os) = false → readB (batchText q os.length (opsOf os)) = (false, 0, [])) := fun h => by rw [batchText_no h]; exact readB_nil
    have HEY := hide (fun h => esB_row (q := q) (len := os.length) (O := opsOf os) h)
    have HEN : Hid (batchOkB q os.length (opsOf os) = false → esB q os.length (opsOf os) = []) := fun h => by rw [esB, if_neg (by rw [h]; decide)]
    have hez := esB_len q os.length (opsOf os)
    obtain ⟨n, hn2⟩ : ∃ n, os.length = n := ⟨_, rfl⟩
    obtain ⟨O, hO⟩ : ∃ O, opsOf os = O := ⟨_, rfl⟩
    clear hbig hm hd hb1 hb2 ho hOp
    generalize batchText q os.length (opsOf os) = T at *
    generalize esB q os.length (opsOf os) = es at *
    generalize batchOkB q os.length (opsOf os) = ok at *
    have hlt2 : w1.heap.size < (w1.alloc (.cells #[.int .i64 q, .slice ar os.length cp] 26)).heap.size := by simp
    clear hn2 hO
    obtain ⟨b0, b1⟩ : (w1.alloc (.cells #[.int .i64 q, .slice ar os.length cp] 26)).cell? ⟨w1.heap.size, 0, none⟩ = some (.int .i64 q) ∧ (w1.alloc (.cells #[.int .i64 q, .slice ar os.length cp] 26)).cell? ⟨w1.heap.size, 1, none⟩ = some (.slice ar os.length cp) := ⟨HX2.out.cell 0, HX2.out.cell 1⟩
    go_wp2_with fail
    generalize w1.alloc (.cells #[.int .i64 q, .slice ar os.length cp] 26) = W2 at HX2 HO2 HB2 hz2 hlt2 b0 b1 ⊢
    refine (ct _ (HO2.out.mono hz2)).mono ?_
    rintro e w3 ⟨rfl, hb3⟩
    have HX3 := hide (HX2.out.next hb3)
    have HO3 := hide ((HO2.out.mono hz2).on hb3 (Nat.le_refl _))
    have HB3 := hide (HB2.out.trans (hb3.mono HB2.out.size))
    have hz3 : W2.heap.size ≤ w3.heap.size := hb3.size
    clear hb3 ct HX2 HO2 HB2 b0 b1
    cases ok with
    | false =>
      have hR := HN.out rfl
      obtain rfl := HEN.out rfl
      rw [hR] at cr
      clear HN HY HEY HEN hR
      go_wp2_with fail
      refine (cr _).mono ?_
      rintro e w4 ⟨⟨vc, rfl, hoc⟩, hb4⟩
      obtain ⟨ac, cc, rfl, _⟩ := hoc.ops
      have hb5 := hb4.trans ((below_one w4 (.cells #[.int .i64 0, .slice ac 0 cc] 26)).mono hb4.size)
      have HX5 := hide (HX3.out.next hb5)
      have HO5 := hide ((HO3.out.mono hz3).on hb5 (Nat.le_refl _))
      have HB5 := hide (HB3.out.trans (hb5.mono HB3.out.size))
      have hz5 := hb5.size
      clear hb4 hb5 cr hoc HX3 HO3 HB3
      obtain ⟨b0, b1⟩ : (w4.alloc (.cells #[.int .i64 0, .slice ac 0 cc] 26)).cell? ⟨w1.heap.size, 0, none⟩ = some (.int .i64 q) ∧ (w4.alloc (.cells #[.int .i64 0, .slice ac 0 cc] 26)).cell? ⟨w1.heap.size, 1, none⟩ = some (.slice ar os.length cp) := ⟨HX5.out.cell 0, HX5.out.cell 1⟩
      go_wp2_with fail
      generalize w4.alloc (.cells #[.int .i64 0, .slice ac 0 cc] 26) = W5 at HX5 HO5 HB5 hz5 b0 b1 ⊢
      refine (cu _ (HO5.out.mono hz5)).mono ?_
      rintro e w6 ⟨rfl, hb6⟩
      have HX6 := hide (HX5.out.next hb6)
      have HO6 := hide ((HO5.out.mono hz5).on hb6 (Nat.le_refl _))
      have HB6 := hide (HB5.out.trans (hb6.mono HB5.out.size))
      have hz6 := hb6.size
      clear hb6 cu HX5 HO5 HB5 b0 b1
      obtain ⟨b0, b1⟩ : w6.cell? ⟨w1.heap.size, 0, none⟩ = some (.int .i64 q) ∧ w6.cell? ⟨w1.heap.size, 1, none⟩ = some (.slice ar os.length cp) := ⟨HX6.out.cell 0, HX6.out.cell 1⟩
      go_wp2_with fail
      refine (ck _ (HO6.out.mono hz6)).mono ?_
      rintro e w7 ⟨rfl, hb7⟩
      have HX7 := hide (HX6.out.next hb7)
      have HO7 := hide ((HO6.out.mono hz6).on hb7 (Nat.le_refl _))
      have HB7 := hide (HB6.out.trans (hb7.mono HB6.out.size))
      have hz7 := hb7.size
      clear hb7 ck HX6 HO6 HB6 b0 b1
      obtain ⟨b0, b1⟩ : w7.cell? ⟨w1.heap.size, 0, none⟩ = some (.int .i64 q) ∧ w7.cell? ⟨w1.heap.size, 1, none⟩ = some (.slice ar os.length cp) := ⟨HX7.out.cell 0, HX7.out.cell 1⟩
      go_wp2_with fail
      refine (ce _ (HO7.out.mono hz7)).mono ?_
      rintro e w8 ⟨⟨vl, rfl, hol⟩, hb8⟩
      obtain ⟨al, cl, _, rfl, _⟩ := hol.mark 0
      have HB8 := hide (HB7.out.trans (hb8.mono HB7.out.size))
      clear hb8 ce hol HX7 HO7 HB7 b0 b1
      go_wp2_with fail
      refine (draw_ReadBatch w _ a len cap hc hl HB8.out).mono ?_
      rintro e w11 ⟨t, rfl, ht, hb11⟩
      have HB11 := hide (HB8.out.trans (hb11.mono HB8.out.size))
      clear hb11 HB8
      have ci := fun wx => impl_ReadBatchR t (by omega) wx
      have cs := fun wx => spec_ReadBatch t (by omega) wx
      have HBK := hide (fun q' os' (h : readB t = (true, q', os')) => readB_back h)
      have hl21 := readB_len t
      generalize readB t = R at *
      obtain ⟨fine, q2, os2⟩ := R
      simp only at *
      go_wp2_with fail
      refine (ci _).mono ?_
      rintro e w12 ⟨⟨vx, rfl, hox⟩, hb12⟩
      obtain ⟨ax, cx, rfl, hOx⟩ := hox.ops
      have hb13 := below_one w12 (.cells #[.int .i64 q2, .slice ax os2.length cx] 26)
      have HX13 := hide (BoxIs.new w12 #[.int .i64 q2, .slice ax os2.length cx] 26 rfl)
      have HO13 := hide (hOx.on hb13 (Nat.le_refl _))
      have HB13 := hide ((HB11.out.trans (hb12.mono HB11.out.size)).trans (hb13.mono (HB11.out.trans (hb12.mono HB11.out.size)).size))
      have hz13 := hb13.size
      clear hb12 hb13 ci hox hOx HB11
      go_wp2_with fail
      generalize w12.alloc (.cells #[.int .i64 q2, .slice ax os2.length cx] 26) = W13 at HX13 HO13 HB13 hz13 ⊢
      refine (cs _).mono ?_
      rintro e w14 ⟨⟨vy, rfl, hoy⟩, hb14⟩
      obtain ⟨ay, cy, rfl, _⟩ := hoy.ops
      have hb15 := hb14.trans ((below_one w14 (.cells #[.int .i64 q2, .slice ay os2.length cy] 26)).mono hb14.size)
      have HX15 := hide (HX13.out.next hb15)
      have HO15 := hide ((HO13.out.mono hz13).on hb15 (Nat.le_refl _))
      have HB15 := hide (HB13.out.trans (hb15.mono HB13.out.size))
      have hz15 := hb15.size
      clear hb14 hb15 cs hoy HX13 HO13 HB13
      cases fine with
      | false =>
        clear HBK
        go_wp2
        go_ret
        exact ⟨rfl, HB15.out⟩
      | true =>
        obtain ⟨hbt, _⟩ := HBK.out q2 os2 rfl
        have cb := fun wx h => impl_BatchText q2 ax os2.length cx (opsOf os2) wx (by omega) h
        rw [hbt] at cb
        have hO := HO15.out.mono hz15
        have HOF := hide hO
        obtain ⟨x0, x1⟩ : (w14.alloc (.cells #[.int .i64 q2, .slice ay os2.length cy] 26)).cell? ⟨w12.heap.size, 0, none⟩ = some (.int .i64 q2) ∧ (w14.alloc (.cells #[.int .i64 q2, .slice ay os2.length cy] 26)).cell? ⟨w12.heap.size, 1, none⟩ = some (.slice ax os2.length cx) := ⟨HX15.out.cell 0, HX15.out.cell 1⟩
        clear HBK hbt hO HX15 HO15
        go_wp2_with fail
        generalize w14.alloc (.cells #[.int .i64 q2, .slice ay os2.length cy] 26) = W15 at HB15 HOF x0 x1 hz15 ⊢
        refine (cb _ HOF.out).mono ?_
        rintro e w16 ⟨rfl, hb16⟩
        have HB16 := hide (HB15.out.trans (hb16.mono HB15.out.size))
        clear hb16 cb HOF HB15 x0 x1
        go_wp2
        go_ret
        exact ⟨rfl, HB16.out⟩
    | true =>
      have hR := HY.out rfl
      obtain ⟨hrow, hel⟩ := HEY.out rfl
      rw [hR] at cr
      clear HN HY HEY HEN hR
      go_wp2_with fail
      refine (cr _).mono ?_
      rintro e w4 ⟨⟨vc, rfl, hoc⟩, hb4⟩
      obtain ⟨ac, cc, rfl, hOc⟩ := hoc.ops
      have hb45 := below_one w4 (.cells #[.int .i64 q, .slice ac os.length cc] 26)
      have HC5 := hide (BoxIs.new w4 #[.int .i64 q, .slice ac os.length cc] 26 rfl)
      have HOC5 := hide (hOc.on hb45 (Nat.le_refl _))
      have hz45 := hb45.size
      have hb5 := hb4.trans (hb45.mono hb4.size)
      have HX5 := hide (HX3.out.next hb5)
      have HO5 := hide ((HO3.out.mono hz3).on hb5 (Nat.le_refl _))
      have HB5 := hide (HB3.out.trans (hb5.mono HB3.out.size))
      have hz5 := hb5.size
      clear hb4 hb5 hb45 cr hoc hOc HX3 HO3 HB3
      obtain ⟨b0, b1⟩ : (w4.alloc (.cells #[.int .i64 q, .slice ac os.length cc] 26)).cell? ⟨w1.heap.size, 0, none⟩ = some (.int .i64 q) ∧ (w4.alloc (.cells #[.int .i64 q, .slice ac os.length cc] 26)).cell? ⟨w1.heap.size, 1, none⟩ = some (.slice ar os.length cp) := ⟨HX5.out.cell 0, HX5.out.cell 1⟩
      go_wp2_with fail
      generalize w4.alloc (.cells #[.int .i64 q, .slice ac os.length cc] 26) = W5 at HX5 HO5 HB5 HC5 HOC5 hz5 hz45 b0 b1 ⊢
      refine (cu _ (HO5.out.mono hz5)).mono ?_
      rintro e w6 ⟨rfl, hb6⟩
      have HX6 := hide (HX5.out.next hb6)
      have HC6 := hide (HC5.out.next hb6)
      have HOC6 := hide ((HOC5.out.mono hz45).on hb6 (Nat.le_refl _))
      have HO6 := hide ((HO5.out.mono hz5).on hb6 (Nat.le_refl _))
      have HB6 := hide (HB5.out.trans (hb6.mono HB5.out.size))
      have hz6 := hb6.size
      clear hb6 cu HX5 HO5 HB5 HC5 HOC5 b0 b1
      obtain ⟨b0, b1⟩ : w6.cell? ⟨w1.heap.size, 0, none⟩ = some (.int .i64 q) ∧ w6.cell? ⟨w1.heap.size, 1, none⟩ = some (.slice ar os.length cp) := ⟨HX6.out.cell 0, HX6.out.cell 1⟩
      go_wp2_with fail
      refine (ck _ (HO6.out.mono hz6)).mono ?_
      rintro e w7 ⟨rfl, hb7⟩
      have HX7 := hide (HX6.out.next hb7)
      have HC7 := hide (HC6.out.next hb7)
      have HOC7 := hide ((HOC6.out.mono hz6).on hb7 (Nat.le_refl _))
      have HO7 := hide ((HO6.out.mono hz6).on hb7 (Nat.le_refl _))
      have HB7 := hide (HB6.out.trans (hb7.mono HB6.out.size))
      have hz7 := hb7.size
      clear hb7 ck HX6 HO6 HB6 HC6 HOC6 b0 b1
      obtain ⟨b0, b1⟩ : w7.cell? ⟨w1.heap.size, 0, none⟩ = some (.int .i64 q) ∧ w7.cell? ⟨w1.heap.size, 1, none⟩ = some (.slice ar os.length cp) := ⟨HX7.out.cell 0, HX7.out.cell 1⟩
      obtain ⟨c0, c1⟩ : w7.cell? ⟨w4.heap.size, 0, none⟩ = some (.int .i64 q) ∧ w7.cell? ⟨w4.heap.size, 1, none⟩ = some (.slice ac os.length cc) := ⟨HC7.out.cell 0, HC7.out.cell 1⟩
      go_wp2_with fail
      refine (laws_sameOps ac ar os.length cc cp (opsOf os) w7 (by omega) (HOC7.out.mono hz7) (HO7.out.mono hz7)).mono ?_
      rintro e w75 ⟨rfl, hb75⟩
      have HX75 := hide (HX7.out.next hb75)
      have HO75 := hide ((HO7.out.mono hz7).on hb75 (Nat.le_refl _))
      have HB75 := hide (HB7.out.trans (hb75.mono HB7.out.size))
      have hz75 := hb75.size
      clear hb75 HX7 HO7 HB7 HC7 HOC7 b0 b1 c0 c1
      obtain ⟨b0, b1⟩ : w75.cell? ⟨w1.heap.size, 0, none⟩ = some (.int .i64 q) ∧ w75.cell? ⟨w1.heap.size, 1, none⟩ = some (.slice ar os.length cp) := ⟨HX75.out.cell 0, HX75.out.cell 1⟩
      go_wp2_with fail
      refine (ce _ (HO75.out.mono hz75)).mono ?_
      rintro e w8 ⟨⟨vl, rfl, hol⟩, hb8⟩
      obtain ⟨al, cl, _, rfl, hEl, _⟩ := hol.mark 0
      have HE8 := hide hEl
      have HX8 := hide (HX75.out.next hb8)
      have HB8' := hide (HB75.out.trans (hb8.mono HB75.out.size))
      have cw := fun wx h => impl_EntriesOk al es.length cl (entsL es) wx (by omega) h
      rw [hrow] at cw
      rw [hel] at HE8 cw ⊢
      clear hb8 ce hol hEl hrow hel HX75 HO75 HB75 b0 b1 hez
      obtain ⟨b0, b1⟩ : w8.cell? ⟨w1.heap.size, 0, none⟩ = some (.int .i64 q) ∧ w8.cell? ⟨w1.heap.size, 1, none⟩ = some (.slice ar os.length cp) := ⟨HX8.out.cell 0, HX8.out.cell 1⟩
      have hTi : ¬ (8000 : Int) < (T.size : Int) := by omega
      go_wp2_with fail
      refine (cw _ HE8.out).mono ?_
      rintro e w9 ⟨rfl, hb9⟩
      have HB8 := hide (HB8'.out.trans (hb9.mono HB8'.out.size))
      clear hb9 cw HE8 HX8 HB8' b0 b1
      go_wp2_with fail
      refine (draw_ReadBatch w _ a len cap hc hl HB8.out).mono ?_
      rintro e w11 ⟨t, rfl, ht, hb11⟩
      have HB11 := hide (HB8.out.trans (hb11.mono HB8.out.size))
      clear hb11 HB8
      have ci := fun wx => impl_ReadBatchR t (by omega) wx
      have cs := fun wx => spec_ReadBatch t (by omega) wx
      have HBK := hide (fun q' os' (h : readB t = (true, q', os')) => readB_back h)
      have hl21 := readB_len t
      generalize readB t = R at *
      obtain ⟨fine, q2, os2⟩ := R
      simp only at *
      go_wp2_with fail
      refine (ci _).mono ?_
      rintro e w12 ⟨⟨vx, rfl, hox⟩, hb12⟩
      obtain ⟨ax, cx, rfl, hOx⟩ := hox.ops
      have hb13 := below_one w12 (.cells #[.int .i64 q2, .slice ax os2.length cx] 26)
      have HX13 := hide (BoxIs.new w12 #[.int .i64 q2, .slice ax os2.length cx] 26 rfl)
      have HO13 := hide (hOx.on hb13 (Nat.le_refl _))
      have HB13 := hide ((HB11.out.trans (hb12.mono HB11.out.size)).trans (hb13.mono (HB11.out.trans (hb12.mono HB11.out.size)).size))
      have hz13 := hb13.size
      clear hb12 hb13 ci hox hOx HB11
      go_wp2_with fail
      generalize w12.alloc (.cells #[.int .i64 q2, .slice ax os2.length cx] 26) = W13 at HX13 HO13 HB13 hz13 ⊢
      refine (cs _).mono ?_
      rintro e w14 ⟨⟨vy, rfl, hoy⟩, hb14⟩
      obtain ⟨ay, cy, rfl, _⟩ := hoy.ops
      have hb15 := hb14.trans ((below_one w14 (.cells #[.int .i64 q2, .slice ay os2.length cy] 26)).mono hb14.size)
      have HX15 := hide (HX13.out.next hb15)
      have HO15 := hide ((HO13.out.mono hz13).on hb15 (Nat.le_refl _))
      have HB15 := hide (HB13.out.trans (hb15.mono HB13.out.size))
      have hz15 := hb15.size
      clear hb14 hb15 cs hoy HX13 HO13 HB13
      cases fine with
      | false =>
        clear HBK
        go_wp2
        go_ret
        exact ⟨rfl, HB15.out⟩
      | true =>
        obtain ⟨hbt, _⟩ := HBK.out q2 os2 rfl
        have cb := fun wx h => impl_BatchText q2 ax os2.length cx (opsOf os2) wx (by omega) h
        rw [hbt] at cb
        have hO := HO15.out.mono hz15
        have HOF := hide hO
        obtain ⟨x0, x1⟩ : (w14.alloc (.cells #[.int .i64 q2, .slice ay os2.length cy] 26)).cell? ⟨w12.heap.size, 0, none⟩ = some (.int .i64 q2) ∧ (w14.alloc (.cells #[.int .i64 q2, .slice ay os2.length cy] 26)).cell? ⟨w12.heap.size, 1, none⟩ = some (.slice ax os2.length cx) := ⟨HX15.out.cell 0, HX15.out.cell 1⟩
        clear HBK hbt hO HX15 HO15
        go_wp2_with fail
        generalize w14.alloc (.cells #[.int .i64 q2, .slice ay os2.length cy] 26) = W15 at HB15 HOF x0 x1 hz15 ⊢
        refine (cb _ HOF.out).mono ?_
        rintro e w16 ⟨rfl, hb16⟩
        have HB16 := hide (HB15.out.trans (hb16.mono HB15.out.size))
        clear hb16 cb HOF HB15 x0 x1
        go_wp2
        go_ret
        exact ⟨rfl, HB16.out⟩

end Go.Proofs.Ytljmfdcilnbjaab
