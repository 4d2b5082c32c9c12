/- 'append([]T{}, row...)': a copy, which turns nothing that was there. No program in sight. -/
import Derived.Test.YtejedpmkbkclhaaMgEntRowBox
import Derived.Laws.AppendOwn
import Derived.Laws.OwnMore
namespace Go.Proofs.Ytejedpmkbkclhaa
set_option maxRecDepth 100000
open Go.RowKit

theorem own_empty {w : World} {G B size : Nat} {e : TypeId} (h : BoxIs w G #[] e) (hB : B ≤ G) : w.ownsRow B e size (.slice (some ⟨G, 0, none⟩) 0 0) 0 [] :=
  ⟨by simp, .inr ⟨G, 0, #[], rfl, hB, h, Nat.le_refl _, by decide, by simp, by simp⟩⟩

theorem run_append_copy {P : Program} (w : World) (t e : TypeId) (i : TypeInfo) (z : Value) (size bytes : Nat) (ht : P.underlying t = some (.slice e)) (hi : P.info? e = some i) (hz : i.zero = some z)
    (hsize : i.size = size) (hby : i.bytes = bytes) (hzs : z.cells.size = size) (G : Nat) (hG : BoxIs w G #[] e) (ba : Option Addr) (n c : Nat) (news : List Value) (hl : news.length = n * size)
    (hsrc : n = 0 ∨ ∃ a, ba = some a ∧ ∀ j u, news[j]? = some u → w.cell? (a.add j) = some u) (h63 : n ≤ maxLen) (hbytes : n * bytes ≤ 140737488355328) :
    ∃ v' w', (∀ ty, (Builtin.append_ #[t, t] ty #[.slice (some ⟨G, 0, none⟩) 0 0, .slice ba n c]).run P w = .ok v' w') ∧ Below w.heap.size w w' ∧ w'.ownsRow G e size v' n news ∧ (n = 0 ∨ ∀ g, v'.ownBlock = some g → w.heap.size ≤ g) := by
  subst hsize
  subst hby
  by_cases hn : n = 0
  · subst hn
    obtain rfl : news = [] := List.eq_nil_of_length_eq_zero (by simpa using hl)
    cases ba with
    | none =>
      refine ⟨_, w, fun ty => ?_, Below.refl _ _, own_empty hG (Nat.le_refl _), .inl rfl⟩
      simp [Builtin.append_, run_underlying ht, sizeOf, typeInfo, hi, Builtin.lenOf, Builtin.firstCells, storeCells]
    | some a =>
      have hh : w.heap[G]? = some (.cells #[] e (0, 0)) := hG
      have hr := fun ty => run_append_room (P := P) w t ty e i ht hi G 0 0 #[] hh a 0 c [] (by simp) (by simp) (by simp) (by simp) (by simp)
      have hb : Below w.heap.size w (w.setRow G ((#[] : Array Value).toList.take (0 * i.size) ++ [] ++ (#[] : Array Value).toList.drop (0 * i.size + ([] : List Value).length)).toArray) := by
        refine ⟨rfl, rfl, rfl, by simp, fun k _ => ?_⟩
        by_cases hk : k = G
        · subst hk
          rw [setRow_heap w k #[] _ e (0, 0) hh, hh]
          simp
        · exact setRow_other w G k _ hk
      refine ⟨_, _, hr, hb, ?_, .inl rfl⟩
      exact own_empty (hG.next hb) (Nat.le_refl _)
  · rcases hsrc with h0 | ⟨a, rfl, hnews⟩
    · exact absurd h0 hn
    · have h63' : ((0 + n : Nat) : Int) ≤ 9223372036854775807 := by simp only [maxLen] at h63; omega
      have hr := fun ty => run_append_grow (P := P) w t ty e i z ht hi hz ⟨G, 0, none⟩ 0 0 [] (by simp) (by simp) a n c news hl hnews (by omega) h63' (growslice_fits (by omega) (by rw [Nat.zero_add]; exact hbytes))
      simp only [Nat.zero_add] at hr
      have hge := grownCap_ge w n 0 e
      have hcm := grownCap_le_maxLen w n 0 e h63
      refine ⟨_, _, hr, (Below.refl _ _).drew.alloc (Nat.le_refl _) _, ⟨hl, .inr ⟨w.heap.size, _, _, rfl, Nat.le_of_lt hG.lt, heap_alloc_new w.drew _, hge, hcm, ?_, ?_⟩⟩, .inr fun g hg => Nat.le_of_eq (by simpa [Value.ownBlock] using hg)⟩
      · simp only [Array.size_append, List.size_toArray, size_zeroCells, List.length_nil, hl, hzs, Nat.zero_add, ← Nat.add_mul]
        congr 1
        omega
      · have h1 : (news ++ (Builtin.zeroCells z.cells (grownCap w n 0 e - n)).toList).take (n * i.size) = news := by rw [← hl]; exact List.take_left
        simpa using h1

end Go.Proofs.Ytejedpmkbkclhaa
