/- A batch comes back from its bytes; its entries are a right row. No walk. -/
import Derived.Test.YtljmfdcilnbjaabReadB
import Derived.Test.YtljmfdcilnbjaabBText
import Derived.Test.YtljmfdcilnbjaabCanon
import Derived.Test.YtljmfdcilnbjaabLBEnt
namespace Go.Proofs.Ytljmfdcilnbjaab
set_option maxRecDepth 100000
open Go.RowKit Go.Sort

theorem nil_append_ba (s : ByteArray) : (⟨#[]⟩ : ByteArray) ++ s = s := ByteArray.empty_append
theorem append_nilB (s : ByteArray) : s ++ (⟨#[]⟩ : ByteArray) = s := ByteArray.append_empty

theorem rnum_putB (n : Int) (h0 : 0 ≤ n) (h1 : n ≤ 9223372036854775807) (r : ByteArray) : rnum (pv n ++ r) = (n, r, false) := by
  rw [rnum_some (take_put n h0 (by omega) r) (by omega), extract_behind]

theorem rtext_putB (t r : ByteArray) (ht : t.size ≤ 60000) : rtext (putText t ++ r) = (t, r, false) := by
  have h1 := takeText_rt (putText t ++ r)
  rw [takeText_put t r ht] at h1
  injection h1 with h1
  have h2 : (#[Value.string t, .string r, .bool true] : Array Value).toList = (#[Value.string (rtext (putText t ++ r)).1, .string (rtext (putText t ++ r)).2.1, .bool (!(rtext (putText t ++ r)).2.2)] : Array Value).toList := by rw [h1]
  simp only [List.cons.injEq, Value.string.injEq, Value.bool.injEq, and_true] at h2
  obtain ⟨a, b, c⟩ := h2
  refine Prod.ext a.symm (Prod.ext b.symm ?_)
  simpa using c.symm

theorem rbyte_putB (x : Int) (h0 : 0 ≤ x) (h1 : x ≤ 255) (r : ByteArray) : rbyte (strOfNums [x] ++ r) = (x, r, false) := by
  have hz : (strOfNums [x] ++ r).size = 1 + r.size := by rw [ByteArray.size_append, strOfNums_size]; rfl
  have he := extract_behind (strOfNums [x]) r
  rw [show (strOfNums [x]).size = 1 by rw [strOfNums_size]; rfl] at he
  rw [rbyte, if_neg (by omega), bt_nums [x] r 0 x rfl h0 h1, he]

/-- The bytes of an op, and of a list of them. -/
def obT (o : Ob) : ByteArray := strOfNums [o.k] ++ putText o.u ++ putText o.x
def obsT : List Ob → ByteArray
  | [] => ⟨#[]⟩
  | o :: l => obT o ++ obsT l
theorem obsT_append : ∀ a b : List Ob, obsT (a ++ b) = obsT a ++ obsT b
  | [], b => (nil_append_ba _).symm
  | o :: l, b => by simp only [List.cons_append, obsT]; rw [obsT_append l b, ByteArray.append_assoc]

theorem ob_put (o : Ob) (h0 : 0 ≤ o.k) (h1 : o.k ≤ 255) (hu : o.u.size ≤ 60000) (hx : o.x.size ≤ 60000) (R : ByteArray) : obAt (obT o ++ R) = o ∧ obRest (obT o ++ R) = R ∧ obLost (obT o ++ R) = false := by
  have e : obT o ++ R = strOfNums [o.k] ++ (putText o.u ++ (putText o.x ++ R)) := by rw [obT, ByteArray.append_assoc, ByteArray.append_assoc]
  have a1 := rbyte_putB o.k h0 h1 (putText o.u ++ (putText o.x ++ R))
  have a2 := rtext_putB o.u (putText o.x ++ R) hu
  have a3 := rtext_putB o.x R hx
  refine ⟨?_, ?_, ?_⟩
  · unfold obAt
    rw [e, a1]; simp only; rw [a2]; simp only; rw [a3]
  · unfold obRest
    rw [e, a1]; simp only; rw [a2]; simp only; rw [a3]
  · unfold obLost
    rw [e, a1]; simp only; rw [a2]; simp only; rw [a3]; rfl

theorem rdo_put {l : List Ob} (h : ∀ o ∈ l, 0 ≤ o.k ∧ o.k ≤ 255 ∧ o.u.size ≤ 60000 ∧ o.x.size ≤ 60000) : ∀ k, k ≤ l.length → rdo (obsT l) k = (l.take k, obsT (l.drop k), false)
  | 0, _ => rfl
  | k + 1, hk => by
    have h1 := rdo_put h k (by omega)
    have hd : l.drop k = l[k] :: l.drop (k + 1) := List.drop_eq_getElem_cons (by omega)
    obtain ⟨a, b, c, d⟩ := h l[k] (List.getElem_mem _)
    obtain ⟨x, y, z⟩ := ob_put l[k] a b c d (obsT (l.drop (k + 1)))
    simp only [rdo, h1]
    rw [hd]
    simp only [obsT]
    rw [x, y, z, List.take_succ_eq_append_getElem (by omega)]
    rfl

def obOf (O : Ops) (i : Nat) : Ob := ⟨O.K i, O.U i, O.X i⟩
theorem opsTxt_obs (O : Ops) (s : ByteArray) : ∀ k, opsTxt O s k = s ++ obsT ((List.range k).map (obOf O))
  | 0 => (append_nilB s).symm
  | k + 1 => by
    rw [opsTxt, opsTxt_obs O s k, List.range_succ, List.map_append, obsT_append, ByteArray.append_assoc]
    congr 1
    congr 1
    show opTxt O k = obT (obOf O k) ++ ⟨#[]⟩
    rw [append_nilB]
    rfl

theorem batchOkB_congr {q : Int} {len : Nat} {O O' : Ops} (h : ∀ i, i < len → O.K i = O'.K i ∧ O.U i = O'.U i ∧ O.X i = O'.X i) : batchOkB q len O = batchOkB q len O' := by
  unfold batchOkB
  congr 1
  rw [Bool.eq_iff_iff, List.all_eq_true, List.all_eq_true]
  have e : ∀ i, i < len → entOk (opEnt O q) i = entOk (opEnt O' q) i := fun i hi => by
    obtain ⟨a, b, c⟩ := h i hi
    show entryOkB (O.U i) _ (O.K i) (O.X i) = entryOkB (O'.U i) _ (O'.K i) (O'.X i)
    rw [a, b, c]
    rfl
  exact ⟨fun k i hi => by rw [← e i (List.mem_range.1 hi)]; exact k i hi, fun k i hi => by rw [e i (List.mem_range.1 hi)]; exact k i hi⟩

theorem opsOf_range (O : Ops) (n i : Nat) (hi : i < n) : (opsOf ((List.range n).map (obOf O))).K i = O.K i ∧ (opsOf ((List.range n).map (obOf O))).U i = O.U i ∧ (opsOf ((List.range n).map (obOf O))).X i = O.X i := by
  have e : ((List.range n).map (obOf O)).getD i ob0 = obOf O i := by
    rw [List.getD, List.getElem?_map, List.getElem?_range hi]; rfl
  unfold opsOf
  simp only [e]
  exact ⟨rfl, rfl, rfl⟩

/-- A right batch comes back. -/
theorem readB_put {q : Int} {len : Nat} {O : Ops} (h : batchOkB q len O = true) : readB (batchText q len O) = (true, q, (List.range len).map (obOf O)) := by
  obtain ⟨⟨h1, h2, h3, h4⟩, hent⟩ := batchOk_out h
  have e : batchText q len O = pv q ++ (pv len ++ obsT ((List.range len).map (obOf O))) := by rw [batchText_yes h, opsTxt_obs, ByteArray.append_assoc]
  have a1 := rnum_putB q (by omega) (by omega) (pv len ++ obsT ((List.range len).map (obOf O)))
  have a2 := rnum_putB (len : Int) (by omega) (by omega) (obsT ((List.range len).map (obOf O)))
  have hm : rdm (len : Int) = len := by unfold rdm; split <;> omega
  have hl : ((List.range len).map (obOf O)).length = len := by simp
  have a3 := rdo_put (l := (List.range len).map (obOf O)) (fun o ho => by
    obtain ⟨i, hi, rfl⟩ := List.mem_map.1 ho
    have := ent_bd (hent i (List.mem_range.1 hi))
    exact ⟨this.1, by show O.K i ≤ 255; omega, by show (O.U i).size ≤ 60000; omega, by show (O.X i).size ≤ 60000; omega⟩) len (by omega)
  rw [List.take_of_length_le (by omega), List.drop_eq_nil_of_le (by omega)] at a3
  have hc : batchOkB q ((List.range len).map (obOf O)).length (opsOf ((List.range len).map (obOf O))) = true := by
    rw [hl, batchOkB_congr (fun i hi => opsOf_range O len i hi)]; exact h
  have b1 : rnum (batchText q len O) = (q, pv len ++ obsT ((List.range len).map (obOf O)), false) := by rw [e]; exact a1
  have y := @readB_yes (batchText q len O)
  rw [b1] at y
  simp only at y
  rw [a2] at y
  simp only at y
  rw [hm, a3] at y
  simp only at y
  exact y rfl hc

theorem readB_nil : readB ⟨#[]⟩ = (false, 0, []) := readB_no1 (by
  have e : rnum ⟨#[]⟩ = (0, ⟨#[]⟩, true) := rnum_none rfl
  rw [e]; rfl)

theorem rnum_back {r x : ByteArray} {n : Int} (h : rnum r = (n, x, false)) : pv n ++ x = r := by
  cases hv : tva r 10 0 0 with
  | none => rw [rnum_none hv] at h; injection h with _ h; injection h with _ h; cases h
  | some p =>
    obtain ⟨m, k⟩ := p
    by_cases hm : 9223372036854775807 < m
    · rw [rnum_big hv hm] at h; injection h with _ h; injection h with _ h; cases h
    · rw [rnum_some hv hm] at h
      injection h with a h
      injection h with b _
      rw [← a, ← b, (put_take r hv).2.2, extract_join]
theorem rtext_back {r x t : ByteArray} (h : rtext r = (t, x, false)) : putText t ++ x = r := by
  have h1 := takeText_rt r
  rw [h] at h1
  exact (put_takeText h1).1
theorem rbyte_back {r x : ByteArray} {b : Int} (h : rbyte r = (b, x, false)) : strOfNums [b] ++ x = r := by
  by_cases hz : r.size = 0
  · rw [rbyte, if_pos hz] at h; injection h with _ h; injection h with _ h; cases h
  · rw [rbyte, if_neg hz] at h
    injection h with a h
    injection h with c _
    rw [← a, ← c]
    have e : strOfNums [bt r 0] = r.extract 0 1 := by
      apply ByteArray.ext
      apply Array.toList_inj.1
      rw [ByteArray.data_extract, Array.toList_extract]
      have hl : 0 < r.data.toList.length := by simpa using Nat.pos_of_ne_zero hz
      show [UInt8.ofNat (bt r 0).toNat] = _
      simp only [List.extract_eq_drop_take', List.drop_zero]
      unfold bt
      simp only [List.getD, List.getElem?_eq_getElem hl, Option.getD_some, Int.toNat_natCast, UInt8.ofNat_toNat]
      generalize r.data.toList = l at hl ⊢
      match l, hl with
      | y :: ys, _ => rfl
    rw [e, extract_join]

theorem obLost_back {r : ByteArray} (h : obLost r = false) : obT (obAt r) ++ obRest r = r := by
  unfold obLost at h
  rw [Bool.or_eq_false_iff, Bool.or_eq_false_iff] at h
  obtain ⟨⟨h1, h2⟩, h3⟩ := h
  have a := rbyte_back (r := r) (Prod.ext rfl (Prod.ext rfl h1))
  have b := rtext_back (r := (rbyte r).2.1) (Prod.ext rfl (Prod.ext rfl h2))
  have c := rtext_back (r := (rtext (rbyte r).2.1).2.1) (Prod.ext rfl (Prod.ext rfl h3))
  unfold obT obAt obRest
  simp only
  rw [ByteArray.append_assoc, ByteArray.append_assoc, c, b, a]
theorem rdo_back (r : ByteArray) : ∀ k, (rdo r k).2.2 = false → obsT (rdo r k).1 ++ (rdo r k).2.1 = r
  | 0, _ => nil_append_ba r
  | k + 1, h => by
    simp only [rdo] at h ⊢
    rw [Bool.or_eq_false_iff] at h
    have h1 := rdo_back r k h.1
    have h2 := obLost_back h.2
    rw [obsT_append]
    simp only [obsT]
    rw [append_nilB, ByteArray.append_assoc, h2, h1]

theorem ops_self (os : List Ob) : (List.range os.length).map (obOf (opsOf os)) = os := by
  apply List.ext_getElem?
  intro i
  rw [List.getElem?_map]
  by_cases hi : i < os.length
  · rw [List.getElem?_range hi, List.getElem?_eq_getElem hi]
    simp only [Option.map_some, obOf, opsOf, List.getD, List.getElem?_eq_getElem hi, Option.getD_some]
  · rw [List.getElem?_eq_none (by simpa using hi), List.getElem?_eq_none (by omega)]
    rfl

/-- What is read has just the bytes that it was read from. -/
theorem readB_back {t : ByteArray} {q : Int} {os : List Ob} (h : readB t = (true, q, os)) : batchText q os.length (opsOf os) = t ∧ batchOkB q os.length (opsOf os) = true := by
  unfold readB at h
  simp only at h
  split at h
  · rename_i hc
    obtain ⟨h1, h2⟩ := hc
    injection h with _ h
    injection h with hq ho
    subst hq
    subst ho
    refine ⟨?_, h2⟩
    rw [Bool.and_eq_true, Bool.not_eq_true', Bool.or_eq_false_iff, Bool.or_eq_false_iff, decide_eq_true_iff] at h1
    obtain ⟨⟨⟨a, b⟩, c⟩, d⟩ := h1
    have e1 := rnum_back (r := t) (Prod.ext rfl (Prod.ext rfl a))
    have e2 := rnum_back (r := (rnum t).2.1) (Prod.ext rfl (Prod.ext rfl b))
    have e3 := rdo_back (rnum (rnum t).2.1).2.1 (rdm (rnum (rnum t).2.1).1) c
    have hlen := rdo_len (rnum (rnum t).2.1).2.1 (rdm (rnum (rnum t).2.1).1)
    have hn : (rnum (rnum t).2.1).1 = (((rdo (rnum (rnum t).2.1).2.1 (rdm (rnum (rnum t).2.1).1)).1.length : Nat) : Int) := by
      have h20 := (batchOk_out h2).1.2.1
      rw [hlen] at h20 ⊢
      have h0 := (rnum_bd (rnum t).2.1).2.1
      unfold rdm at h20 ⊢
      split at h20 <;> omega
    have hz : (rdo (rnum (rnum t).2.1).2.1 (rdm (rnum (rnum t).2.1).1)).2.1 = ⟨#[]⟩ := ByteArray.ext (Array.eq_empty_of_size_eq_zero d)
    rw [hz, append_nilB] at e3
    rw [batchText_yes h2, opsTxt_obs, ops_self, ← hn, e3, ByteArray.append_assoc, e2, e1]
  · injection h with h _
    cases h

theorem batchText_size {q : Int} {len : Nat} {O : Ops} (h : batchOkB q len O = true) : (batchText q len O).size ≤ 8000 := by
  obtain ⟨⟨h1, h2, h3, h4⟩, hent⟩ := batchOk_out h
  have := opsTxt_size (s := pv q ++ pv len) hent len (Nat.le_refl _)
  have a := pv_size q
  have b := pv_size (len : Int)
  rw [ByteArray.size_append] at this
  rw [batchText_yes h]
  omega

/-- The entries of a right batch are a right row. -/
theorem esB_row {q : Int} {len : Nat} {O : Ops} (h : batchOkB q len O = true) : rowOkB (entsL (esB q len O)) (esB q len O).length = true ∧ (esB q len O).length = len := by
  obtain ⟨⟨h1, h2, h3, h4⟩, hent⟩ := batchOk_out h
  have he : esB q len O = (putAll O q len).map (opEn O q) := by rw [esB, if_pos h]
  have hl : (esB q len O).length = len := by rw [he, List.length_map, putAll_len]
  refine ⟨?_, hl⟩
  have hs := putAll_sorted O q len
  have hp := putAll_perm O q len
  have hnd : (putAll O q len).Nodup := hp.nodup_iff.2 List.nodup_range
  have hat : ∀ i (hi : i < len), ∃ x, (putAll O q len)[i]? = some x ∧ x < len ∧ (entsL (esB q len O)).U i = O.U x ∧ (entsL (esB q len O)).Q i = q + (x : Int) ∧ (entsL (esB q len O)).K i = O.K x ∧ (entsL (esB q len O)).X i = O.X x := fun i hi => by
    have hi' : i < (putAll O q len).length := by rw [putAll_len]; exact hi
    have hx : (putAll O q len)[i]? = some (putAll O q len)[i] := List.getElem?_eq_getElem hi'
    have hm : (putAll O q len)[i] ∈ List.range len := hp.mem_iff.1 (List.getElem_mem _)
    have hg : (esB q len O)[i]? = some (opEn O q (putAll O q len)[i]) := by rw [he, List.getElem?_map, hx]; rfl
    refine ⟨_, hx, List.mem_range.1 hm, ?_, ?_, ?_, ?_⟩ <;> simp only [entsL, hg, Option.map_some, Option.getD_some] <;> rfl
  refine rowOk_yes (by omega) fun i hi => ?_
  rw [hl] at hi
  obtain ⟨x, hx, hxl, eu, eq, ek, ex⟩ := hat i hi
  refine ⟨?_, fun hpos => ?_⟩
  · have := hent x hxl
    unfold entOk at this ⊢
    rw [eu, eq, ek, ex]
    exact this
  · obtain ⟨y, hy, hyl, fu, fq, fk, fx⟩ := hat (i - 1) (by omega)
    have hne : x ≠ y := fun e => by
      subst e
      have a1 := List.getElem?_eq_some_iff.1 hx
      have a2 := List.getElem?_eq_some_iff.1 hy
      obtain ⟨p1, r1⟩ := a1
      obtain ⟨p2, r2⟩ := a2
      exact List.pairwise_iff_getElem.1 hnd (i - 1) i p2 p1 (by omega) (r2.trans r1.symm)
    have hlt : cfB O q y x < 0 := by
      have hpw := List.pairwise_iff_getElem.1 hs (i - 1) i (List.getElem?_eq_some_iff.1 hy).1 (List.getElem?_eq_some_iff.1 hx).1 (by omega)
      rw [(List.getElem?_eq_some_iff.1 hy).2, (List.getElem?_eq_some_iff.1 hx).2] at hpw
      have h2 : ltOf (cfB O q) x y = false := by simpa [ltB] using hpw
      cases h3 : ltOf (cfB O q) y x with
      | true => exact of_decide_eq_true h3
      | false => exact absurd (cfB_one O q x y h2 h3) hne
    unfold ordI
    rw [show i - 1 + 1 = i by omega, fu, eu, eq, fq, ek, fk]
    exact hlt

end Go.Proofs.Ytljmfdcilnbjaab
