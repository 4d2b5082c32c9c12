/- What a scan in parts comes to; two rows of pairs held against each other; appending what an answer owns. -/
import Derived.Test.YtfnhlccpkommoaaBack
import Derived.Test.YtfnhlccpkommoaaRowOrd
import Derived.Laws.OwnMore
namespace Go.Proofs.Ytfnhlccpkommoaa
set_option maxRecDepth 100000
open Go.RowKit Go.Deep

/-- 'append(v, u...)', u a row of pairs of one's own (or nil). -/
theorem wpList_append_prow {w : World} {ops : Array Oper} {rest : List Oper} {o : Oper} {a : Act} {Q : Exit → Act → World → Prop} (hgd : o.guard = none) (s x : Operand) (t : TypeId)
    (ho : o.op = .call { callee := .builtin .append, args := #[s, x], argTypes := #[t, t] }) (ht : Try.prog.underlying t = some (.slice 38))
    (B : Nat) (v : Value) (es : List Pair1) (hs : a.eval s = v) (hown : OwnPair w B v es) (Bu : Nat) (u : Value) (news : List Pair1) (hx : a.eval x = u) (hsrc : OwnPair w Bu u news) (hB : B ≤ w.heap.size) (hlen : es.length + news.length ≤ 1000000)
    (h : ∀ v' w', OwnPair w' B v' (es ++ news) → Below B w w' → wpList Try.prog ops Q rest (a.put o.dst v') w') : wpList Try.prog ops Q (o :: rest) a w := by
  obtain ⟨i0, hi', hz0, hs0, hb0⟩ := info_parts pair_info
  rcases hsrc.2 with ⟨rfl, h0⟩ | ⟨g, cap, cur, rfl, hg, hh, hle, hcap, hsz, htake⟩
  · have hn : news = [] := List.length_eq_zero_iff.1 h0
    subst hn
    refine wpList_plain hgd fun _ hK => ?_
    have hr := run_append_owned_none (P := Try.prog) (w := w) B t o.type 38 i0 _ ht hi' v es.length (cellsPair es) hown
    unfold Oper.wp execOp
    simp only [ho, resolve, invoke, builtin, Sem.run_bind, Sem.run_pure, Result.andThen_ok, List.map_toArray, List.map_cons, List.map_nil, hs, hx, hr]
    exact hK _ _ (h v w (by rw [List.append_nil]; exact hown) (Below.refl _ _))
  · refine wpList_append_pair hgd s x t ho ht B v es news hs hown ⟨g, 0, none⟩ news.length cap hx rfl ?_ hB hlen h
    intro j u hu
    have hbx : BoxIs w g cur 38 := hh
    rw [Addr.add_lit]
    show w.cell? ⟨g, 0 + j, none⟩ = some u
    rw [Nat.zero_add, hbx.cell j]
    have hj : j < news.length * 2 := by have := (List.getElem?_eq_some_iff.1 hu).1; rwa [cellsPair_len] at this
    rw [← htake, List.getElem?_take, if_pos hj] at hu
    simpa using hu

set_option maxHeartbeats 1000000 in
theorem laws_samePairs (a b : Option Addr) (len ca cb : Nat) (O : Pairs) (w : World) (hl : len ≤ 1048576) (ha : PairAt w w.heap.size a len O) (hb : PairAt w w.heap.size b len O) :
    Calls Try.prog 22 #[.slice a len ca, .slice b len cb] w fun e w' => e = .returned (.bool true) ∧ Below w.heap.size w w' := by
  have HA := ha.hid
  have HB := hb.hid
  clear ha hb
  have HB0 : Hid (Below w.heap.size w w) := Below.refl _ _
  go_enter Try.func22, Try.ntmps22
  go_wp2
  go_loopw [5] (fun i wr => ∃ k : Nat, i = .int .i64 k ∧ k ≤ len ∧ Hid (Below w.heap.size w wr)) (fun i _ => len - (intOf i).toNat)
  case atStart => exact ⟨0, rfl, by omega, HB0⟩
  case round =>
    obtain ⟨k, rfl, hk, HW⟩ := hrel
    clear HB0
    by_cases hlt : k < len
    · obtain ⟨b1, off1, rfl, hb1, c0, c1⟩ := (HA.out.below HW.out).at hlt
      obtain ⟨b2, off2, rfl, hb2, d0, d1⟩ := (HB.out.below HW.out).at hlt
      have hki : (k : Int) < (len : Int) := by omega
      go_wp2
      go_quiet (fail)
      go_wp2
      exact ⟨⟨k + 1, by go_num, by omega, below_drewN HW.out _⟩, by simp [intOf]; omega⟩
    · go_wp2
      go_ret
      exact ⟨rfl, HW.out⟩

theorem rngL_filter (O : Pairs) (fr to : ByteArray) : ∀ k, rngL O fr to k = (pairsL O k).filter fun p => inR fr to p.u
  | 0 => rfl
  | k + 1 => by
    rw [pairsL_succ, List.filter_append, ← rngL_filter O fr to k, rngL]
    cases hi : inR fr to (O.U k) <;> simp [pairAt1, hi]
theorem scanL_filter (E : Ents) (len : Nat) (seq : Int) (fr to : ByteArray) : scanL E len seq fr to = (visible E len seq).filter fun p => inR fr to p.u := by
  unfold scanL
  rw [rngL_filter, fnPair_list]
/-- In order, if not strictly. -/
def UpP (l : List Pair1) : Prop := l.Pairwise fun a b => Op.bytesLess b.u.toList a.u.toList = false
theorem visL_mem (E : Ents) (seq : Int) : ∀ k p, p ∈ visL E seq k → ∃ j, j < k ∧ p.u = E.U j
  | 0, _, h => by simp [visL] at h
  | k + 1, p, h => by
    rw [visL] at h
    rcases List.mem_append.1 h with h | h
    · obtain ⟨j, hj, e⟩ := visL_mem E seq k p h
      exact ⟨j, by omega, e⟩
    · split at h
      · obtain rfl := List.mem_singleton.1 h
        exact ⟨k, by omega, rfl⟩
      · simp at h
theorem visL_up {E : Ents} {len : Nat} (h : rowOkB E len = true) (seq : Int) : ∀ k, k ≤ len → UpP (visL E seq k)
  | 0, _ => by simp [visL, UpP]
  | k + 1, hk => by
    have ih := visL_up h seq k (by omega)
    unfold UpP at ih ⊢
    rw [visL, List.pairwise_append]
    refine ⟨ih, by split <;> simp, fun a ha b hb => ?_⟩
    split at hb
    · obtain rfl := List.mem_singleton.1 hb
      obtain ⟨j, hj, e⟩ := visL_mem E seq k a ha
      have hs := (sorted h j (k - j) (by omega)).1
      rw [show j + (k - j) = k by omega] at hs
      rw [e]
      show Op.bytesLess (E.U k).toList (E.U j).toList = false
      cases hx : Op.bytesLess (E.U k).toList (E.U j).toList with
      | false => rfl
      | true =>
        have hc : cmpS (E.U k) (E.U j) = -1 := by unfold cmpS; rw [if_pos hx]
        rcases cmpS_cases (E.U k) (E.U j) with ⟨_, c, _⟩ | ⟨c, _, _⟩ | ⟨c, _, _⟩
        · omega
        · omega
        · omega
    · simp at hb
theorem visible_up (E : Ents) (len : Nat) (seq : Int) : UpP (visible E len seq) := by
  cases h : rowOkB E len with
  | true => rw [visible_yes h]; exact visL_up h seq len (Nat.le_refl _)
  | false => rw [visible_no h]; exact List.Pairwise.nil

theorem less_le_trans {x y z : List UInt8} (h : Op.bytesLess x y = true) (k : Op.bytesLess z y = false) : Op.bytesLess x z = true := by
  cases e : Op.bytesLess y z with
  | true => exact less_trans _ _ _ h e
  | false => rw [less_tri _ _ k e]; exact h
theorem le_trans_less {x y z : List UInt8} (h : Op.bytesLess y x = false) (k : Op.bytesLess y z = true) : Op.bytesLess x z = true := by
  cases e : Op.bytesLess x y with
  | true => exact less_trans _ _ _ e k
  | false => rw [less_tri _ _ e h]; exact k
/-- A row in order is its three parts. -/
theorem parts {fr to : ByteArray} (hft : Op.bytesLess to.toList fr.toList = false) : ∀ l : List Pair1, UpP l →
    (l.filter fun p => Op.bytesLess p.u.toList fr.toList) ++ (l.filter fun p => !(Op.bytesLess p.u.toList fr.toList) && Op.bytesLess p.u.toList to.toList) ++ (l.filter fun p => !(Op.bytesLess p.u.toList to.toList)) = l
  | [], _ => rfl
  | a :: l, h => by
    unfold UpP at h
    rw [List.pairwise_cons] at h
    have ih := parts hft l h.2
    cases h1 : Op.bytesLess a.u.toList fr.toList with
    | true =>
      have h2 := less_le_trans h1 hft
      simp only [List.filter_cons, h1, h2, Bool.not_true, Bool.false_and, if_true, List.cons_append] at ih ⊢
      simpa using ih
    | false =>
      have hlow : l.filter (fun p => Op.bytesLess p.u.toList fr.toList) = [] := by
        rw [List.filter_eq_nil_iff]
        intro b hb e
        have := le_trans_less (h.1 b hb) e
        rw [h1] at this
        cases this
      rw [hlow] at ih
      cases h2 : Op.bytesLess a.u.toList to.toList with
      | true =>
        simp only [List.filter_cons, h1, h2, hlow] at ih ⊢
        simpa using ih
      | false =>
        have hmid : l.filter (fun p => !(Op.bytesLess p.u.toList fr.toList) && Op.bytesLess p.u.toList to.toList) = [] := by
          rw [List.filter_eq_nil_iff]
          intro b hb e
          rw [Bool.and_eq_true] at e
          have := le_trans_less (h.1 b hb) e.2
          rw [h2] at this
          cases this
        rw [hmid] at ih
        simp only [List.filter_cons, h1, h2, hlow, hmid] at ih ⊢
        simpa using ih
theorem less_nil (x : List UInt8) : Op.bytesLess x [] = false := by cases x <;> rfl
theorem nil_list : (⟨#[]⟩ : ByteArray).toList = [] := by rw [ByteArray.toList_eq]
theorem scan_parts (E : Ents) (len : Nat) (seq : Int) {fr to : ByteArray} (hf : ¬ fr = ⟨#[]⟩) (ht : ¬ to = ⟨#[]⟩) (hft : Op.bytesLess to.toList fr.toList = false) :
    scanL E len seq ⟨#[]⟩ fr ++ scanL E len seq fr to ++ scanL E len seq to ⟨#[]⟩ = scanL E len seq ⟨#[]⟩ ⟨#[]⟩ := by
  simp only [scanL_filter]
  have e1 : ∀ p : Pair1, inR ⟨#[]⟩ fr p.u = Op.bytesLess p.u.toList fr.toList := fun p => by unfold inR; rw [nil_list, less_nil, decide_eq_false hf]; simp
  have e2 : ∀ p : Pair1, inR fr to p.u = (!(Op.bytesLess p.u.toList fr.toList) && Op.bytesLess p.u.toList to.toList) := fun p => by unfold inR; rw [decide_eq_false ht]; simp
  have e3 : ∀ p : Pair1, inR to ⟨#[]⟩ p.u = !(Op.bytesLess p.u.toList to.toList) := fun p => by unfold inR; rw [decide_eq_true rfl]; simp
  have e4 : ∀ p : Pair1, inR ⟨#[]⟩ ⟨#[]⟩ p.u = true := fun p => by unfold inR; rw [nil_list, less_nil, decide_eq_true rfl]; simp
  simp only [e1, e2, e3, e4]
  rw [parts hft _ (visible_up E len seq)]
  exact (List.filter_eq_self.2 fun _ _ => rfl).symm
theorem scan_in {E : Ents} {len : Nat} {seq : Int} {fr to : ByteArray} {i : Nat} (hi : i < (scanL E len seq fr to).length) : inR fr to ((fnPair (scanL E len seq fr to)).U i) = true := by
  have h := fnPair_at (scanL E len seq fr to) i hi
  have hm : (scanL E len seq fr to)[i] ∈ scanL E len seq fr to := List.getElem_mem hi
  rw [← h] at hm
  have hm2 : pairAt1 (fnPair (scanL E len seq fr to)) i ∈ (visible E len seq).filter fun p => inR fr to p.u := by
    rw [← scanL_filter]; exact hm
  exact (List.mem_filter.1 hm2).2

end Go.Proofs.Ytfnhlccpkommoaa
