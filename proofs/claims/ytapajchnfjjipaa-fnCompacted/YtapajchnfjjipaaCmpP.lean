/- What is compacted is a right row, shows what the row showed, and stays as it is. No program in sight. -/
import Derived.Test.YtapajchnfjjipaaCompP
import Derived.Test.YtapajchnfjjipaaRowSort
import Derived.Test.YtapajchnfjjipaaKOrd
namespace Go.Proofs.Ytapajchnfjjipaa
set_option maxRecDepth 100000
open Go.RowKit Go.Deep

theorem cmpS_le {E : Ents} {len : Nat} (h : rowOkB E len = true) {i j : Nat} (hij : i ≤ j) (hj : j < len) : cmpS (E.U i) (E.U j) ≤ 0 ∧ (E.U i = E.U j → E.Q j ≤ E.Q i) := by
  have := sorted h i (j - i) (by omega)
  rwa [show i + (j - i) = j by omega] at this
theorem betw {E : Ents} {len : Nat} (h : rowOkB E len = true) {i j k : Nat} (hij : i ≤ j) (hjk : j ≤ k) (hk : k < len) (e : E.U i = E.U k) : E.U j = E.U i := by
  have h1 := (cmpS_le h hij (by omega)).1
  have h2 := (cmpS_le h hjk hk).1
  rw [← e] at h2
  rcases cmpS_cases (E.U i) (E.U j) with ⟨a, b, c⟩ | ⟨a, b, c⟩ | ⟨a, b, c⟩
  · omega
  · exact c.symm
  · omega
theorem adjK {E : Ents} {len : Nat} (h : rowOkB E len = true) {i : Nat} (hi : i + 1 < len) (e : E.U i = E.U (i + 1)) (q : E.Q i = E.Q (i + 1)) : E.K (i + 1) < E.K i := by
  have ho := ((rowOk_out h).2 (i + 1) hi).2 (by omega)
  rw [Nat.add_sub_cancel] at ho
  unfold ordI orI at ho
  rcases cmpS_cases (E.U i) (E.U (i + 1)) with ⟨_, _, c⟩ | ⟨a, _, _⟩ | ⟨_, _, c⟩
  · exact absurd e c
  · rcases cmpI_cases (E.Q (i + 1)) (E.Q i) with ⟨_, _, y⟩ | ⟨x, _, _⟩ | ⟨_, _, y⟩
    · omega
    · rw [a, x, if_pos rfl, if_pos rfl] at ho
      rcases cmpI_cases (E.K (i + 1)) (E.K i) with ⟨_, _, y⟩ | ⟨z, _, _⟩ | ⟨z, _, _⟩
      · exact y
      · omega
      · omega
    · omega
  · exact absurd e c
theorem sortedK {E : Ents} {len : Nat} (h : rowOkB E len = true) (i : Nat) : ∀ d, i + (d + 1) < len → E.U i = E.U (i + (d + 1)) → E.Q i = E.Q (i + (d + 1)) → E.K (i + (d + 1)) < E.K i
  | 0, hd, e, q => adjK h hd e q
  | d + 1, hd, e, q => by
    have e1 := betw h (j := i + (d + 1)) (by omega) (by omega) hd e
    have q1 := (cmpS_le h (i := i) (j := i + (d + 1)) (by omega) (by omega)).2 e1.symm
    have q2 := (cmpS_le h (i := i + (d + 1)) (j := i + (d + 1 + 1)) (by omega) hd).2 (e1.trans e)
    have h1 := sortedK h i d (by omega) e1.symm (by omega)
    have h2 := adjK h (i := i + (d + 1)) hd (e1.trans e) (by have : E.Q (i + (d + 1 + 1)) = E.Q (i + (d + 1) + 1) := rfl; omega)
    have h3 : E.K (i + (d + 1 + 1)) = E.K (i + (d + 1) + 1) := rfl
    omega
theorem row_lt {E : Ents} {len : Nat} (h : rowOkB E len = true) {i j : Nat} (hij : i < j) (hj : j < len) : orI (cmpS (E.U i) (E.U j)) (cmpI (E.Q j) (E.Q i)) (cmpI (E.K j) (E.K i)) < 0 := by
  obtain ⟨a1, a2⟩ := cmpS_le h (Nat.le_of_lt hij) hj
  unfold orI
  rcases cmpS_cases (E.U i) (E.U j) with ⟨a, _, _⟩ | ⟨a, _, c⟩ | ⟨a, _, _⟩
  · rw [a, if_neg (by decide)]; decide
  · rw [a, if_pos rfl]
    have hq := a2 c
    rcases cmpI_cases (E.Q j) (E.Q i) with ⟨x, _, _⟩ | ⟨x, _, y⟩ | ⟨x, _, y⟩
    · rw [x, if_neg (by decide)]; decide
    · have hk := sortedK h i (j - i - 1) (by omega) (by rw [show i + (j - i - 1 + 1) = j by omega]; exact c) (by rw [show i + (j - i - 1 + 1) = j by omega]; exact y.symm)
      rw [show i + (j - i - 1 + 1) = j by omega] at hk
      rw [x, if_pos rfl]
      rcases cmpI_cases (E.K j) (E.K i) with ⟨z, _, _⟩ | ⟨_, _, z⟩ | ⟨_, _, z⟩
      · rw [z]; decide
      · omega
      · omega
    · omega
  · omega

/-- A place is looked at, at p: it is the first of its user that is not above p. -/
theorem lk_sem {E : Ents} {len : Nat} (h : rowOkB E len = true) (p : Int) {k : Nat} (hk : k < len) : lkA E p k = true ↔ (E.Q k ≤ p ∧ ∀ j, j < k → E.U j = E.U k → p < E.Q j) := by
  rw [lkA_first h p k hk]
  unfold firstB
  rw [Bool.and_eq_true, Bool.or_eq_true, Bool.or_eq_true, decide_eq_true_eq, decide_eq_true_eq, decide_eq_true_eq, decide_eq_true_eq]
  refine ⟨fun ⟨a, b⟩ => ⟨a, fun j hj e => ?_⟩, fun ⟨a, b⟩ => ⟨a, ?_⟩⟩
  · have e1 := betw h (i := j) (j := k - 1) (by omega) (by omega) hk e
    rcases b with (b | b) | b
    · omega
    · exact absurd (e1.trans e) b
    · have := (cmpS_le h (i := j) (j := k - 1) (by omega) (by omega)).2 e1.symm
      omega
  · rcases Nat.eq_zero_or_pos k with h0 | h0
    · exact .inl (.inl h0)
    · by_cases e : E.U (k - 1) = E.U k
      · exact .inr (b (k - 1) (by omega) e)
      · exact .inl (.inr e)

theorem needN_filter (E : Ents) (SL : List Int) : ∀ k, needN E SL k = (List.range k).filter (needA E SL)
  | 0 => rfl
  | k + 1 => by
    rw [needN, List.range_succ, List.filter_append, needN_filter E SL k]
    congr 1
    by_cases hn : needA E SL k = true <;> simp [hn]
theorem compN_sub (E : Ents) (b : Bool) : ∀ ns, (compN E b ns).Sublist ns
  | [] => List.Sublist.refl _
  | p :: ns => by
    show (stepC E b p (compN E b ns)).Sublist (p :: ns)
    unfold stepC
    split
    · exact (compN_sub E b ns).cons p
    · exact (compN_sub E b ns).cons_cons p
theorem compN_filter (E : Ents) (b : Bool) (G : Nat → Bool) (hG : ∀ k, G k = true → E.K k = 1) : ∀ ns, (compN E b ns).filter G = ns.filter G
  | [] => rfl
  | p :: ns => by
    show (stepC E b p (compN E b ns)).filter G = _
    unfold stepC
    split
    · rename_i hc
      have : G p = false := by
        cases hg : G p with
        | false => rfl
        | true => have := hG p hg; omega
      rw [compN_filter E b G hG ns, List.filter_cons_of_neg (by rw [this]; decide)]
    · rw [List.filter_cons, List.filter_cons, compN_filter E b G hG ns]
theorem compN_idem (E : Ents) (b : Bool) : ∀ ns, compN E b (compN E b ns) = compN E b ns
  | [] => rfl
  | p :: ns => by
    show compN E b (stepC E b p (compN E b ns)) = stepC E b p (compN E b ns)
    by_cases hc : E.K p = 0 ∧ b = true ∧ olderB E (compN E b ns) p = false
    · unfold stepC; rw [if_pos hc]; exact compN_idem E b ns
    · have e : stepC E b p (compN E b ns) = p :: compN E b ns := by unfold stepC; rw [if_neg hc]
      rw [e]
      show stepC E b p (compN E b (compN E b ns)) = _
      rw [compN_idem E b ns]
      exact e
/-- Who fell has nobody of its user behind it that stays. -/
theorem fell {E : Ents} {len : Nat} (h : rowOkB E len = true) (b : Bool) : ∀ ns : List Nat, ns.Pairwise (· < ·) → (∀ p, p ∈ ns → p < len) → ∀ k, k ∈ ns → k ∉ compN E b ns → ∀ m, m ∈ compN E b ns → k < m → ¬ E.U m = E.U k
  | [], _, _, k, hk, _, _, _, _, _ => by simp at hk
  | p :: ns, hp, hl, k, hk, hn, m, hm, hkm, e => by
    have hp2 := List.pairwise_cons.1 hp
    have hsub : ∀ x, x ∈ compN E b ns → x ∈ ns := fun x hx => (compN_sub E b ns).subset hx
    have hst : compN E b (p :: ns) = stepC E b p (compN E b ns) := rfl
    rw [hst] at hn hm
    unfold stepC at hn hm
    split at hm
    · rename_i hc
      rw [if_pos hc] at hn
      rcases List.mem_cons.1 hk with rfl | hk
      · cases hd : compN E b ns with
        | nil => rw [hd] at hm; simp at hm
        | cons x t =>
          have ho := hc.2.2
          rw [hd] at ho hm
          have hxn : ¬ E.U x = E.U k := of_decide_eq_false ho
          have hpw : (compN E b ns).Pairwise (· < ·) := hp2.2.sublist (compN_sub E b ns)
          rw [hd] at hpw
          have hxm : x ≤ m := by
            rcases List.mem_cons.1 hm with rfl | hm
            · exact Nat.le_refl _
            · exact Nat.le_of_lt ((List.pairwise_cons.1 hpw).1 m hm)
          have hkx : k < x := hp2.1 x (hsub x (by rw [hd]; simp))
          exact hxn (betw h (Nat.le_of_lt hkx) hxm (hl m (List.mem_cons_of_mem _ (hsub m (by rw [hd]; exact hm)))) e.symm)
      · exact fell h b ns hp2.2 (fun x hx => hl x (List.mem_cons_of_mem _ hx)) k hk hn m hm hkm e
    · rename_i hc
      rw [if_neg hc] at hn
      have hkp : k ≠ p := fun e => hn (by rw [e]; simp)
      have hk2 : k ∈ ns := by
        rcases List.mem_cons.1 hk with c | c
        · exact absurd c hkp
        · exact c
      rcases List.mem_cons.1 hm with rfl | hm
      · have := hp2.1 k hk2
        omega
      · exact fell h b ns hp2.2 (fun x hx => hl x (List.mem_cons_of_mem _ hx)) k hk2 (fun c => hn (List.mem_cons_of_mem _ c)) m hm hkm e

/-- The row of some places. -/
abbrev subE (E : Ents) (L : List Nat) : Ents := fnEntry (L.map (entryAt1 E))
theorem subE_at {E : Ents} {L : List Nat} {i : Nat} (hi : i < L.length) : (subE E L).U i = E.U L[i] ∧ (subE E L).Q i = E.Q L[i] ∧ (subE E L).K i = E.K L[i] ∧ (subE E L).X i = E.X L[i] := by
  unfold subE fnEntry
  simp [List.getD, hi, entryAt1]
theorem sub_rowOk {E : Ents} {len : Nat} (h : rowOkB E len = true) {L : List Nat} (hp : L.Pairwise (· < ·)) (hl : ∀ p, p ∈ L → p < len) (hlen : L.length ≤ len) : rowOkB (subE E L) L.length = true := by
  refine rowOk_yes (Nat.le_trans hlen (rowOk_out h).1) fun i hi => ⟨?_, fun h0 => ?_⟩
  · obtain ⟨u, q, k, x⟩ := subE_at (E := E) hi
    unfold entOk
    rw [u, q, k, x]
    exact ((rowOk_out h).2 L[i] (hl _ (List.getElem_mem hi))).1
  · obtain ⟨j, rfl⟩ : ∃ j, i = j + 1 := ⟨i - 1, by omega⟩
    rw [Nat.add_sub_cancel]
    obtain ⟨u, q, k, x⟩ := subE_at (E := E) hi
    obtain ⟨u', q', k', x'⟩ := subE_at (E := E) (show j < L.length by omega)
    unfold ordI
    rw [u, q, k, u', q', k']
    exact row_lt h (List.pairwise_iff_getElem.1 hp j (j + 1) (by omega) hi (by omega)) (hl _ (List.getElem_mem hi))

theorem first_of {E : Ents} {len : Nat} (h : rowOkB E len = true) (p : Int) : ∀ n j, j < n → j < len → E.Q j ≤ p → ∃ i, i ≤ j ∧ E.U i = E.U j ∧ lkA E p i = true
  | 0, j, hj, _, _ => by omega
  | n + 1, j, hj, hl, hq => by
    by_cases hx : ∃ i, i < j ∧ E.U i = E.U j ∧ E.Q i ≤ p
    · obtain ⟨i, hi, e, hq2⟩ := hx
      obtain ⟨x, hx, e2, h2⟩ := first_of h p n i (by omega) (by omega) hq2
      exact ⟨x, by omega, e2.trans e, h2⟩
    · refine ⟨j, Nat.le_refl _, rfl, (lk_sem h p hl).2 ⟨hq, fun i hi e => ?_⟩⟩
      by_cases c : p < E.Q i
      · exact c
      · exact absurd ⟨i, hi, e, by omega⟩ hx

theorem lk_down {E : Ents} {len : Nat} (h : rowOkB E len = true) {L : List Nat} (hp : L.Pairwise (· < ·)) (hl : ∀ p, p ∈ L → p < len) (hlen : L.length ≤ len) (p : Int) {i : Nat} (hi : i < L.length) (hk : lkA E p L[i] = true) : lkA (subE E L) p i = true := by
  have ha := (lk_sem h p (hl _ (List.getElem_mem hi))).1 hk
  refine (lk_sem (sub_rowOk h hp hl hlen) p hi).2 ⟨by rw [(subE_at hi).2.1]; exact ha.1, fun j hj e => ?_⟩
  have hjl : j < L.length := by omega
  rw [(subE_at hjl).1, (subE_at hi).1] at e
  rw [(subE_at hjl).2.1]
  exact ha.2 L[j] (List.pairwise_iff_getElem.1 hp j i hjl hi hj) e

theorem needN_pw (E : Ents) (SL : List Int) (len : Nat) : (needN E SL len).Pairwise (· < ·) := by
  rw [needN_filter]
  exact List.pairwise_lt_range.sublist List.filter_sublist
theorem comp_pw (E : Ents) (b : Bool) (SL : List Int) (len : Nat) : (compN E b (needN E SL len)).Pairwise (· < ·) := (needN_pw E SL len).sublist (compN_sub E b _)
theorem comp_lt (E : Ents) (b : Bool) (SL : List Int) (len : Nat) : ∀ p, p ∈ compN E b (needN E SL len) → p < len := fun p hp => needN_lt E SL len p ((compN_sub E b _).subset hp)
theorem comp_le (E : Ents) (b : Bool) (SL : List Int) (len : Nat) : (compN E b (needN E SL len)).length ≤ len := Nat.le_trans (compN_len _ _ _) (needN_len _ _ _)

theorem lk_up {E : Ents} {len : Nat} (h : rowOkB E len = true) {b : Bool} {SL : List Int} {L : List Nat} (hL : compN E b (needN E SL len) = L) {p : Int} (hps : p ∈ SL) {i : Nat} (hi : i < L.length) (hk : lkA (subE E L) p i = true) : lkA E p L[i] = true := by
  have hp : L.Pairwise (· < ·) := by rw [← hL]; exact comp_pw E b SL len
  have hl : ∀ p, p ∈ L → p < len := by rw [← hL]; exact comp_lt E b SL len
  have hlen : L.length ≤ len := by rw [← hL]; exact comp_le E b SL len
  have ha := (lk_sem (sub_rowOk h hp hl hlen) p hi).1 hk
  rw [(subE_at hi).2.1] at ha
  have hm := List.getElem_mem hi
  refine (lk_sem h p (hl _ hm)).2 ⟨ha.1, fun j hj e => ?_⟩
  by_cases c : p < E.Q j
  · exact c
  · exfalso
    have hll := hl _ hm
    obtain ⟨x, hx, e2, h2⟩ := first_of h p (j + 1) j (by omega) (by omega) (by omega)
    have hxn : x ∈ needN E SL len := by
      rw [needN_filter, List.mem_filter]
      refine ⟨List.mem_range.2 (by omega), ?_⟩
      unfold needA
      exact List.any_eq_true.2 ⟨p, hps, h2⟩
    have hxq := ((lk_sem h p (show x < len by omega)).1 h2).1
    by_cases hxL : x ∈ L
    · obtain ⟨y, hy, rfl⟩ := List.getElem_of_mem hxL
      have hyi : y < i := by
        by_cases c2 : y < i
        · exact c2
        · rcases Nat.eq_or_lt_of_le (show i ≤ y by omega) with c3 | c3
          · subst c3; omega
          · have := List.pairwise_iff_getElem.1 hp i y hi hy c3
            omega
      have := ha.2 y hyi (by rw [(subE_at hy).1, (subE_at hi).1]; exact e2.trans e)
      rw [(subE_at hy).2.1] at this
      omega
    · exact fell h b _ (needN_pw E SL len) (needN_lt E SL len) x hxn (by rw [hL]; exact hxL) L[i] (by rw [hL]; exact hm) (by omega) (e.symm.trans e2.symm)

theorem list_getD (L : List Nat) : (List.range L.length).map (fun i => L.getD i 0) = L := by
  apply List.ext_getElem
  · simp
  · intro i h1 h2
    simp [List.getD, h2]

theorem vis_filter (E : Ents) (p : Int) : ∀ k, visL E p k = ((List.range k).filter (fun i => lkA E p i && decide (E.K i = 1))).map (fun i => (⟨E.U i, E.X i⟩ : Pair1))
  | 0 => rfl
  | k + 1 => by
    rw [visL, List.range_succ, List.filter_append, List.map_append, vis_filter E p k]
    congr 1
    by_cases hn : lkA E p k = true ∧ E.K k = 1
    · rw [if_pos hn]; simp [hn]
    · rw [if_neg hn]
      have : (lkA E p k && decide (E.K k = 1)) = false := by
        cases hx : lkA E p k && decide (E.K k = 1) with
        | false => rfl
        | true => rw [Bool.and_eq_true, decide_eq_true_eq] at hx; exact absurd hx hn
      simp [this]

/-- (2) -/
theorem vis_same {E : Ents} {len : Nat} (h : rowOkB E len = true) {b : Bool} {SL : List Int} {L : List Nat} (hL : compN E b (needN E SL len) = L) {p : Int} (hps : p ∈ SL) : visible (subE E L) L.length p = visible E len p := by
  have hp : L.Pairwise (· < ·) := by rw [← hL]; exact comp_pw E b SL len
  have hl : ∀ p, p ∈ L → p < len := by rw [← hL]; exact comp_lt E b SL len
  have hlen : L.length ≤ len := by rw [← hL]; exact comp_le E b SL len
  rw [visible_yes h, visible_yes (sub_rowOk h hp hl hlen), vis_filter, vis_filter]
  have hG : (List.range len).filter (fun i => lkA E p i && decide (E.K i = 1)) = L.filter (fun i => lkA E p i && decide (E.K i = 1)) := by
    rw [← hL, compN_filter E b _ (fun k hk => by rw [Bool.and_eq_true, decide_eq_true_eq] at hk; exact hk.2), needN_filter, List.filter_filter]
    refine List.filter_congr fun k _ => ?_
    cases hx : lkA E p k with
    | false => simp
    | true =>
      have : needA E SL k = true := List.any_eq_true.2 ⟨p, hps, hx⟩
      rw [this, Bool.and_true]
  rw [hG]
  have hr : L.filter (fun i => lkA E p i && decide (E.K i = 1)) = ((List.range L.length).filter ((fun i => lkA E p i && decide (E.K i = 1)) ∘ fun i => L.getD i 0)).map (fun i => L.getD i 0) := by
    rw [← List.filter_map, list_getD]
  rw [hr, List.map_map]
  have hf : (List.range L.length).filter (fun i => lkA (subE E L) p i && decide ((subE E L).K i = 1)) = (List.range L.length).filter ((fun i => lkA E p i && decide (E.K i = 1)) ∘ fun i => L.getD i 0) := by
    refine List.filter_congr fun i hi => ?_
    have hi := List.mem_range.1 hi
    have hg : L.getD i 0 = L[i] := by simp [List.getD, hi]
    show _ = (lkA E p (L.getD i 0) && decide (E.K (L.getD i 0) = 1))
    rw [hg, (subE_at hi).2.2.1]
    congr 1
    cases hx : lkA E p L[i] with
    | true => exact lk_down h hp hl hlen p hi hx
    | false =>
      cases hy : lkA (subE E L) p i with
      | false => rfl
      | true => rw [lk_up h hL hps hi hy] at hx; cases hx
  rw [hf]
  refine List.map_congr_left fun i hi => ?_
  have hi := List.mem_range.1 (List.mem_filter.1 hi).1
  have hg : L.getD i 0 = L[i] := by simp [List.getD, hi]
  show _ = (⟨E.U (L.getD i 0), E.X (L.getD i 0)⟩ : Pair1)
  rw [hg, (subE_at hi).1, (subE_at hi).2.2.2]

theorem compN_map {E E' : Ents} (b : Bool) (f : Nat → Nat) : ∀ ns : List Nat, (∀ i, i ∈ ns → E'.U i = E.U (f i) ∧ E'.K i = E.K (f i)) → (compN E' b ns).map f = compN E b (ns.map f)
  | [], _ => rfl
  | p :: ns, h => by
    have ih := compN_map (E := E) b f ns fun i hi => h i (by simp [hi])
    show (stepC E' b p (compN E' b ns)).map f = stepC E b (f p) (compN E b (ns.map f))
    obtain ⟨hu, hk⟩ := h p (by simp)
    have ho : olderB E' (compN E' b ns) p = olderB E (compN E b (ns.map f)) (f p) := by
      rw [← ih]
      cases hd : compN E' b ns with
      | nil => rfl
      | cons x t =>
        have hx : x ∈ ns := (compN_sub E' b ns).subset (by rw [hd]; simp)
        show decide (E'.U x = E'.U p) = decide (E.U (f x) = E.U (f p))
        rw [(h x (by simp [hx])).1, hu]
    unfold stepC
    rw [ho, hk]
    split
    · exact ih
    · rw [List.map_cons, ih]

/-- (3) -/
theorem comp_again {E : Ents} {len : Nat} (h : rowOkB E len = true) {S : Nat → Int} {n : Nat} (hs : snapsB S n = true) {b : Bool} {L : List Nat} (hL : compN E b (needN E (seqsL S n) len) = L) : compL (subE E L) L.length S n b = List.range L.length := by
  have hp : L.Pairwise (· < ·) := by rw [← hL]; exact comp_pw E b _ len
  have hl : ∀ p, p ∈ L → p < len := by rw [← hL]; exact comp_lt E b _ len
  have hlen : L.length ≤ len := by rw [← hL]; exact comp_le E b _ len
  unfold compL
  rw [if_pos ⟨sub_rowOk h hp hl hlen, hs⟩]
  have hn : needN (subE E L) (seqsL S n) L.length = List.range L.length := by
    rw [needN_filter, List.filter_eq_self]
    intro i hi
    have hi := List.mem_range.1 hi
    have hm : L[i] ∈ needN E (seqsL S n) len := (compN_sub E b _).subset (by rw [hL]; exact List.getElem_mem hi)
    rw [needN_filter, List.mem_filter] at hm
    obtain ⟨s, hs, hk⟩ := List.any_eq_true.1 hm.2
    exact List.any_eq_true.2 ⟨s, hs, lk_down h hp hl hlen s hi hk⟩
  rw [hn]
  have hmap := compN_map (E := E) (E' := subE E L) b (fun i => L.getD i 0) (List.range L.length) fun i hi => by
    have hi := List.mem_range.1 hi
    have hg : L.getD i 0 = L[i] := by simp [List.getD, hi]
    rw [hg]
    exact ⟨(subE_at hi).1, (subE_at hi).2.2.1⟩
  rw [list_getD] at hmap
  have hid : compN E b L = L := by rw [← hL]; exact compN_idem E b _
  have hlen2 := congrArg List.length hmap
  rw [List.length_map, hid] at hlen2
  exact (compN_sub _ b _).eq_of_length (by rw [hlen2, List.length_range])

end Go.Proofs.Ytapajchnfjjipaa
