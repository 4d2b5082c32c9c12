/- What the model holds while it parts a row. No walk. -/
import Derived.Test.YtjcoejabpagaiaaSplP
namespace Go.Proofs.Ytjcoejabpagaiaa
set_option maxRecDepth 100000
open Go.RowKit Go.Deep

theorem own_cell {x : World} {B g n c : Nat} {e : TypeId} {xs : List Value} (h : Own x B e (.slice (some ⟨g, 0, none⟩) n c) xs) {j : Nat} {u : Value} (hj : xs[j]? = some u) : x.cell? ⟨g, j, none⟩ = some u ∧ x.frozen? ⟨g, j, none⟩ = false := by
  rcases h.2 with ⟨hv, _⟩ | ⟨g', cap, cur, hv, hg, hh, hle, hcap, hsz, htake⟩
  · simp at hv
  · simp only [Value.slice.injEq, Option.some.injEq, Addr.mk.injEq, and_true] at hv
    obtain ⟨rfl, rfl, rfl⟩ := hv
    have hb : BoxIs x g cur e := hh
    refine ⟨?_, hb.free j⟩
    rw [hb.cell j]
    have hl : j < xs.length := (List.getElem?_eq_some_iff.1 hj).1
    have h2 : (cur.toList.take (xs.length * 1))[j]? = some u := by rw [htake]; exact hj
    rw [List.getElem?_take, if_pos (by omega)] at h2
    simpa using h2
theorem own_set {x : World} {B g n c : Nat} {e : TypeId} {xs : List Value} (h : Own x B e (.slice (some ⟨g, 0, none⟩) n c) xs) {j : Nat} {u : Value} : Own (x.setCell ⟨g, j, none⟩ u) B e (.slice (some ⟨g, 0, none⟩) n c) (xs.set j u) := by
  rcases h.2 with ⟨hv, _⟩ | ⟨g', cap, cur, hv, hg, hh, hle, hcap, hsz, htake⟩
  · simp at hv
  · simp only [Value.slice.injEq, Option.some.injEq, Addr.mk.injEq, and_true] at hv
    obtain ⟨rfl, rfl, rfl⟩ := hv
    have hb : BoxIs x g cur e := hh
    have hs := hb.set j u
    refine ⟨by rw [List.length_set, Nat.mul_one], .inr ⟨g, c, cur.setIfInBounds j u, by rw [List.length_set], hg, hs, by rw [List.length_set]; exact hle, hcap, by simpa using hsz, ?_⟩⟩
    rw [List.length_set]
    have h3 : (cur.setIfInBounds j u).toList.take (xs.length * 1) = (cur.toList.take (xs.length * 1)).set j u := by
      rw [Array.toList_setIfInBounds, List.take_set]
    rw [h3, htake]

/-- g is the row's block, rv what its last cell holds, r the run that is open; D lies behind all that is whole. -/
structure SpcSt (w x : World) (D g c : Nat) (L : List RunV) (rv : Value) (r : RunV) : Prop where
  row : Own x w.heap.size 39 (.slice (some ⟨g, 0, none⟩) (L.length + 1) c) (L.map RunV.v ++ [rv])
  ent : ∀ e, e ∈ L → OwnEntry x w.heap.size e.v e.es
  ap : L.Pairwise apartV
  last : OwnEntry x D r.v r.es
  ltg : g < D
  ltL : ∀ e, e ∈ L → ∀ b, e.v.ownBlock = some b → b < D
  low : Below w.heap.size w x
  hD : w.heap.size ≤ D
  hX : D ≤ x.heap.size
theorem SpcSt.hid {w x : World} {D g c : Nat} {L : List RunV} {rv : Value} {r : RunV} (h : SpcSt w x D g c L rv r) : Hid (SpcSt w x D g c L rv r) := h
theorem SpcSt.next {w x y : World} {D g c : Nat} {L : List RunV} {rv : Value} {r : RunV} (h : SpcSt w x D g c L rv r) (hb : Below x.heap.size x y) : SpcSt w y D g c L rv r :=
  ⟨rg_next h.row hb, fun e he => (h.ent e he).next hb, h.ap, h.last.next hb, h.ltg, h.ltL, h.low.trans (hb.mono h.low.size), h.hD, Nat.le_trans h.hX hb.size⟩
theorem SpcSt.cell {w x : World} {D g c : Nat} {L : List RunV} {rv : Value} {r : RunV} (h : SpcSt w x D g c L rv r) : x.cell? ⟨g, L.length, none⟩ = some rv ∧ x.frozen? ⟨g, L.length, none⟩ = false :=
  own_cell h.row (by rw [List.getElem?_append_right (by simp)]; simp)
theorem SpcSt.cap {w x : World} {D g c : Nat} {L : List RunV} {rv : Value} {r : RunV} (h : SpcSt w x D g c L rv r) : L.length + 1 ≤ c := by
  rcases h.row.2 with ⟨hv, _⟩ | ⟨g', cap, cur, hv, hg, hh, hle, _⟩
  · simp at hv
  · simp only [Value.slice.injEq, Option.some.injEq, Addr.mk.injEq, and_true] at hv
    obtain ⟨rfl, h2, rfl⟩ := hv
    rw [h2]; exact hle
/-- The open run grows. -/
theorem SpcSt.grow {w x y : World} {D g c : Nat} {L : List RunV} {rv : Value} {r r' : RunV} (h : SpcSt w x D g c L rv r) (hg : x.grownBy y r.v.ownBlock) (ho : OwnEntry y D r'.v r'.es) : SpcSt w y D g c L rv r' :=
  have hb := rg_low h.last h.hX hg
  ⟨rg_row h.last hg h.row (by decide), fun e he => rg_block (h.ent e he) fun b _ _ hv => hb.block b (h.ltL e he b hv), h.ap, ho, h.ltg, h.ltL, h.low.trans (hb.mono h.hD), h.hD, Nat.le_trans h.hX hb.size⟩
/-- .. and is laid into its cell. -/
theorem SpcSt.put {w x : World} {D g c : Nat} {L : List RunV} {rv : Value} {r : RunV} (h : SpcSt w x D g c L rv r) : SpcSt w (x.setCell ⟨g, L.length, none⟩ r.v) D g c L r.v r := by
  obtain ⟨cur, hc⟩ := rg_type h.row (g := g) (by simp [Value.ownBlock])
  have hb : BoxIs x g cur 39 := hc
  have hgw : w.heap.size ≤ g := (World.ownsRow.lt h.row g (by simp [Value.ownBlock])).1
  have hr := own_set h.row (j := L.length) (u := r.v)
  rw [List.set_append_right _ _ (by simp)] at hr
  simp only [List.length_map, Nat.sub_self, List.set_cons_zero] at hr
  exact ⟨hr, fun e he => rg_set (h.ent e he) hb (by decide) _, h.ap, rg_set h.last hb (by decide) _, h.ltg, h.ltL, h.low.setCell (p := ⟨g, L.length, none⟩) hgw _, h.hD, by simpa [World.setCell] using h.hX⟩
/-- All runs. -/
theorem SpcSt.runs {w x : World} {D g c : Nat} {L : List RunV} {r : RunV} (h : SpcSt w x D g c L r.v r) : OwnRuns x w.heap.size (.slice (some ⟨g, 0, none⟩) (L.length + 1) c) (L ++ [r]) := by
  refine ⟨by rw [List.map_append]; exact h.row, fun e he => ?_, List.pairwise_append.2 ⟨h.ap, List.pairwise_singleton _ _, fun a ha b hb => ?_⟩⟩
  · rcases List.mem_append.1 he with he | he
    · exact h.ent e he
    · obtain rfl := List.mem_singleton.1 he
      exact OwnEntry.base h.last h.hD
  · obtain rfl := List.mem_singleton.1 hb
    cases e : a.v.ownBlock with
    | none => exact .inl e
    | some q =>
      refine .inr fun e2 => ?_
      have h1 := h.ltL a ha q e
      have h2 := (World.ownsRow.lt h.last q (e2 ▸ e)).1
      omega
/-- A run is opened behind whole ones. -/
theorem spc_open {w x y : World} {v : Value} {g c n : Nat} {M : List RunV} (h : OwnRuns x w.heap.size v M) (hl : Below w.heap.size w x) (hg : x.grownBy y v.ownBlock) (ho : Own y w.heap.size 39 (.slice (some ⟨g, 0, none⟩) n c) (M.map RunV.v ++ [.slice none 0 0])) : SpcSt w y y.heap.size g c M (.slice none 0 0) ⟨none, 0, []⟩ := by
  have hn : n = M.length + 1 := by
    rcases ho.2 with ⟨hv, _⟩ | ⟨g', cap, cur, hv, _⟩
    · simp at hv
    · simp only [Value.slice.injEq] at hv
      rw [hv.2.1]; simp
  subst hn
  have hlow : Below w.heap.size x y := rg_low h.row hl.size hg
  have he : ∀ e, e ∈ M → OwnEntry y w.heap.size e.v e.es := fun e he => rg_row h.row hg (h.ent e he) (by decide)
  exact ⟨ho, he, h.ap, OwnEntry.nil _ _, (World.ownsRow.lt ho g (by simp [Value.ownBlock])).2, fun e h1 b hv => (World.ownsRow.lt (he e h1) b hv).2, hl.trans hlow, (hl.trans hlow).size, Nat.le_refl _⟩

end Go.Proofs.Ytjcoejabpagaiaa
