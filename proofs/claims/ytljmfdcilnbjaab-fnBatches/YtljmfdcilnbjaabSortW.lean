/- A row of entries of one's own as the library's sort lays it. -/
import Derived.Test.YtljmfdcilnbjaabSortO
import Derived.Test.YtljmfdcilnbjaabEsOwn
import Derived.Shelf.SlSortCmp.InsertionK
namespace Go.Proofs.Ytljmfdcilnbjaab
set_option maxRecDepth 100000
open Go.RowKit Go.Deep Go.Sort

def opEn (O : Ops) (q : Int) (i : Nat) : En := ⟨O.U i, q + (i : Int), O.K i, O.X i⟩

theorem cells_flat (O : Ops) (q : Int) (l : List Nat) (t : Nat) (ht : t < l.length * 4) : (cellsE (l.map (opEn O q)))[t]? = some (flatK (encB O q) 4 l.toArray)[t]! := by
  rw [get_flatK _ _ _ t (by simpa using ht)]
  obtain ⟨i, c, hc, rfl⟩ : ∃ i c, c < 4 ∧ t = i * 4 + c := ⟨t / 4, t % 4, by omega, by omega⟩
  have hi : i < l.length := by omega
  have hg : (l.map (opEn O q))[i]? = some (opEn O q l[i]) := by simp [hi]
  obtain ⟨a, b, d, e⟩ := cellsE_get _ _ _ hg
  rw [show (i * 4 + c) / 4 = i by omega, show (i * 4 + c) % 4 = c by omega, show l.toArray[i]! = l[i] by simp [hi]]
  rcases c with _ | _ | _ | _ | c
  · exact a
  · exact b
  · exact d
  · exact e
  · omega

theorem OwnE.blk {w : World} {B g cap : Nat} {es : List En} (h : OwnE w B g cap es) : ∃ cur, w.heap[g]? = some (.cells cur 52 (0, 0)) ∧ cur.size = cap * 4 ∧ es.length ≤ cap ∧ cap ≤ maxLen ∧ cur.toList.take (es.length * 4) = cellsE es ∧ B ≤ g := by
  obtain ⟨_, h⟩ := h
  rcases h with ⟨hn, _⟩ | ⟨g', cap', cur, hv, hB, hcur, h1, h2, h3, h4⟩
  · cases hn
  · cases hv
    exact ⟨cur, hcur, h3, h1, h2, h4, hB⟩

theorem OwnE.mk {w : World} {B g cap : Nat} {es : List En} {cur : Array Value} (h0 : w.heap[g]? = some (.cells cur 52 (0, 0))) (h1 : cur.size = cap * 4) (h2 : es.length ≤ cap) (h3 : cap ≤ maxLen) (h4 : cur.toList.take (es.length * 4) = cellsE es) (hB : B ≤ g) : OwnE w B g cap es :=
  ⟨cellsE_len es, .inr ⟨g, cap, cur, rfl, hB, h0, h2, h3, h1, h4⟩⟩

theorem OwnE.holds {w : World} {B g cap : Nat} {O : Ops} {q : Int} {l : List Nat} (h : OwnE w B g cap (l.map (opEn O q))) : HoldsK (encB O q) 4 w g 0 l.toArray := by
  intro j hj
  rw [size_flatK, List.size_toArray] at hj
  obtain ⟨cur, hc, _⟩ := h.blk
  refine ⟨?_, by simp [World.frozen?, hc]⟩
  rw [Nat.zero_add]
  exact h.cell (cells_flat O q l j hj)

theorem sortW_below {w : World} {B g n : Nat} (enc : Nat → List Value) (d : Array Nat) (os : Array Obj) (hB : B ≤ g) (hg : g < w.heap.size) : Below B w (Go.Proofs.sortWorldK enc 4 w g 0 n d os) := by
  refine ⟨rfl, rfl, rfl, ?_, fun k hk => ?_⟩
  · simp [Go.Proofs.sortWorldK, grow, putRowK, putRow, mapBlock]
  · have h1 : k < w.heap.size := by omega
    have h2 : ¬ g = k := by omega
    simp [Go.Proofs.sortWorldK, grow, putRowK, putRow, mapBlock, Array.getElem?_append, Array.getElem_modify, h1, h2]

theorem OwnE.sorted {w : World} {B g cap n : Nat} {O : Ops} {q : Int} {l m : List Nat} (h : OwnE w B g cap (l.map (opEn O q))) (hm : m.length = l.length) (os : Array Obj) :
    OwnE (Go.Proofs.sortWorldK (encB O q) 4 w g 0 n m.toArray os) B g cap (m.map (opEn O q)) := by
  obtain ⟨cur, hc, hs, h1, h2, h3, hB⟩ := h.blk
  have hlt := h.lt.2
  have hl : l.length ≤ cap := by simpa using h1
  have hh : (Go.Proofs.sortWorldK (encB O q) 4 w g 0 n m.toArray os).heap[g]? = some (.cells (putCells id 0 (flatK (encB O q) 4 m.toArray) cur) 52 (0, 0)) := by
    simp only [Go.Proofs.sortWorldK, grow, putRowK, putRow, mapBlock]
    rw [Array.getElem?_append_left (by simpa using hlt), Array.getElem?_modify, if_pos rfl]
    show Option.map _ w.heap[g]? = _
    rw [hc]
    rfl
  refine OwnE.mk hh (by simp [putCells, hs]) (by simpa [hm] using hl) h2 ?_ hB
  apply List.ext_getElem?
  intro t
  rw [List.length_map, hm, List.getElem?_take]
  by_cases ht : t < l.length * 4
  · rw [if_pos ht, cells_flat O q m t (by omega)]
    have hz : t < cur.size := by rw [hs]; omega
    have hz2 : t < m.toArray.size * 4 := by simpa [hm] using ht
    simp [putCells, hz, hm, ht]
  · rw [if_neg ht, List.getElem?_eq_none (by rw [cellsE_len]; simp [hm]; omega)]

end Go.Proofs.Ytljmfdcilnbjaab
