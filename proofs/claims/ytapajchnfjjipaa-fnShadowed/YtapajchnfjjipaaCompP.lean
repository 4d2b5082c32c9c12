/- Compacted from the last entry to the first, as the program does it. -/
import Derived.Test.YtapajchnfjjipaaCompS
import Derived.Test.YtapajchnfjjipaaStay
import Derived.Test.YtapajchnfjjipaaBkw
namespace Go.Proofs.Ytapajchnfjjipaa
set_option maxRecDepth 100000
open Go.RowKit Go.Deep

/-- The needed places (none where the row or the snapshots are not right). -/
def neededN (E : Ents) (len : Nat) (S : Nat → Int) (n : Nat) : List Nat := if rowOkB E len = true ∧ snapsB S n = true then needN E (seqsL S n) len else []
theorem needed_N (E : Ents) (len : Nat) (S : Nat → Int) (n : Nat) : needed E len S n = (neededN E len S n).map fun (i : Nat) => (i : Int) := by
  unfold needed neededN
  split
  · exact needL_N _ _ _
  · rfl
theorem compL_N (E : Ents) (len : Nat) (S : Nat → Int) (n : Nat) (b : Bool) : compL E len S n b = compN E b (neededN E len S n) := by
  unfold compL neededN
  split <;> rfl
theorem neededN_lt (E : Ents) (len : Nat) (S : Nat → Int) (n : Nat) : ∀ p, p ∈ neededN E len S n → p < len := by
  unfold neededN
  split
  · exact needN_lt _ _ _
  · intro p h; simp at h
theorem neededN_ok {E : Ents} {len : Nat} {S : Nat → Int} {n : Nat} (h : 0 < (neededN E len S n).length) : rowOkB E len = true := by
  unfold neededN at h
  split at h
  · rename_i h2; exact h2.1
  · simp at h
theorem neededN_len (E : Ents) (len : Nat) (S : Nat → Int) (n : Nat) : (neededN E len S n).length ≤ len := by
  unfold neededN
  split
  · exact needN_len _ _ _
  · simp
theorem plcs {m : Nat} : ∀ l : List Nat, (∀ p, p ∈ l → p < m) → ∃ ns : List (Plc m), ns.map (fun p => p.1) = l
  | [], _ => ⟨[], rfl⟩
  | p :: l, h => by
    obtain ⟨ns, hn⟩ := plcs l fun q hq => h q (by simp [hq])
    exact ⟨⟨p, h p (by simp)⟩ :: ns, by simp [hn]⟩

/-- A round: the places that stay, the last user. -/
def stepR (E : Ents) (b : Bool) (s : List Nat × ByteArray) (p : Nat) : List Nat × ByteArray := if st b s.2 (E.U p) (E.K p) = true then (s.1 ++ [p], E.U p) else s
def runR (E : Ents) (b : Bool) (l : List Nat) : List Nat × ByteArray := l.foldl (stepR E b) ([], ⟨#[]⟩)
theorem runR_snoc (E : Ents) (b : Bool) (l : List Nat) (p : Nat) : runR E b (l ++ [p]) = stepR E b (runR E b l) p := by unfold runR; rw [List.foldl_append]; rfl
theorem runR_last (E : Ents) (b : Bool) (l : List Nat) (p : Nat) : (runR E b (l ++ [p])).2 = stp b (runR E b l).2 (E.U p) (E.K p) := by
  rw [runR_snoc]; unfold stepR stp; split <;> rfl
theorem runR_yes {E : Ents} {b : Bool} {l : List Nat} {p : Nat} (h : st b (runR E b l).2 (E.U p) (E.K p) = true) : (runR E b (l ++ [p])).1 = (runR E b l).1 ++ [p] := by rw [runR_snoc]; unfold stepR; rw [if_pos h]
theorem runR_no {E : Ents} {b : Bool} {l : List Nat} {p : Nat} (h : st b (runR E b l).2 (E.U p) (E.K p) = false) : (runR E b (l ++ [p])).1 = (runR E b l).1 := by rw [runR_snoc]; unfold stepR; rw [if_neg (by rw [h]; decide)]
theorem runR_len (E : Ents) (b : Bool) : ∀ l : List Nat, (runR E b l).1.length ≤ l.length := fun l => by
  unfold runR
  suffices h : ∀ (l : List Nat) (s : List Nat × ByteArray), (l.foldl (stepR E b) s).1.length ≤ s.1.length + l.length by simpa using h l ([], ⟨#[]⟩)
  intro l
  induction l with
  | nil => intro s; simp
  | cons p l ih =>
    intro s
    have h := ih (stepR E b s p)
    have h2 : (stepR E b s p).1.length ≤ s.1.length + 1 := by unfold stepR; split <;> simp
    simp only [List.foldl_cons, List.length_cons]
    omega
/-- The model's way and the program's: the same. -/
theorem runR_comp {E : Ents} (b : Bool) : ∀ ns : List Nat, (∀ p, p ∈ ns → ¬ E.U p = ⟨#[]⟩) → (runR E b ns.reverse).1.reverse = compN E b ns ∧ (runR E b ns.reverse).2 = (match compN E b ns with | [] => ⟨#[]⟩ | h :: _ => E.U h)
  | [], _ => ⟨rfl, rfl⟩
  | p :: ns, h => by
    obtain ⟨i1, i2⟩ := runR_comp b ns fun q hq => h q (by simp [hq])
    have hne := h p (by simp)
    have hst : st b (runR E b ns.reverse).2 (E.U p) (E.K p) = false ↔ (E.K p = 0 ∧ b = true ∧ olderB E (compN E b ns) p = false) := by
      rw [i2]
      unfold st olderB
      cases compN E b ns with
      | nil => cases b <;> simp [hne]
      | cons q t =>
        have hs : (E.U p = E.U q) ↔ (E.U q = E.U p) := ⟨Eq.symm, Eq.symm⟩
        cases b <;> simp [hs]
    rw [List.reverse_cons]
    show _ = stepC E b p (compN E b ns) ∧ _ = (match stepC E b p (compN E b ns) with | [] => (⟨#[]⟩ : ByteArray) | h :: _ => E.U h)
    cases hv : st b (runR E b ns.reverse).2 (E.U p) (E.K p) with
    | true =>
      have hn : stepC E b p (compN E b ns) = p :: compN E b ns := by
        unfold stepC
        rw [if_neg (fun e => by rw [hst.2 e] at hv; cases hv)]
      rw [hn, runR_yes hv, List.reverse_append, ← i1, runR_last]
      unfold stp
      rw [if_pos hv]
      exact ⟨rfl, rfl⟩
    | false =>
      have hn : stepC E b p (compN E b ns) = compN E b ns := by unfold stepC; rw [if_pos (hst.1 hv)]
      rw [hn, runR_no hv, runR_last]
      unfold stp
      rw [if_neg (by rw [hv]; decide)]
      exact ⟨i1, i2⟩
theorem bkw_places {m : Nat} (NS : List (Plc m)) : ∀ k, k ≤ NS.length → (bkw NS k).map (fun x => x.2.1) = ((NS.take k).map fun p => p.1).reverse
  | 0, _ => rfl
  | k + 1, hk => by
    have hp : NS[k]? = some NS[k] := by simp
    rw [bkw, hp, List.map_cons, bkw_places NS k (by omega), List.take_add_one, hp, List.map_append, List.reverse_append]
    rfl

/-- A row of places of one's own, as Backward reads it. -/
theorem own_plcs {w : World} {B : Nat} {v : Value} {m : Nat} {l : List Int} (NS : List (Plc m)) (hl : l = NS.map (fun p => (p.1 : Int))) (h : OwnI w B v l) (hB : B ≤ w.heap.size) :
    ∃ na np nb, v = .slice na NS.length np ∧ (NS.length = 0 ∨ na = some ⟨nb, 0, none⟩) ∧ B ≤ nb ∧ nb ≤ w.heap.size ∧ (0 < NS.length → nb < w.heap.size) ∧ ∀ (i : Nat) (p : Plc m), NS[i]? = some p → w.cell? ⟨nb, i, none⟩ = some (.int .i64 (p.1 : Int)) := by
  obtain ⟨a, p, rfl, hm⟩ := h.mine
  have hlen : l.length = NS.length := by rw [hl]; simp
  rcases hm with ⟨ha, hp, h0⟩ | ⟨g, cur, ha, hg, hh, hle, hc⟩
  · refine ⟨a, p, w.heap.size, by rw [hlen], .inl (by omega), hB, Nat.le_refl _, by omega, fun i q hq => ?_⟩
    have := (List.getElem?_eq_some_iff.1 hq).1
    omega
  · refine ⟨a, p, g, by rw [hlen], .inr ha, hg, Nat.le_of_lt (Array.getElem?_eq_some_iff.1 hh).1, fun _ => (Array.getElem?_eq_some_iff.1 hh).1, fun i q hq => ?_⟩
    have hi := (List.getElem?_eq_some_iff.1 hq).1
    have : cur[i]? = some (Value.int IntKind.i64 (l.getD i 0)) := hc i (by omega)
    have hq2 : l.getD i 0 = (q.1 : Int) := by rw [hl]; simp [List.getD, hq]
    rw [hq2] at this
    simp only [World.cell?, hh]
    exact this

end Go.Proofs.Ytapajchnfjjipaa
