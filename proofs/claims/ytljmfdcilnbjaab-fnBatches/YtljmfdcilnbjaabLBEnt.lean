/- The law on BatchEntries. -/
import Derived.Test.YtljmfdcilnbjaabEntP
import Derived.Test.YtljmfdcilnbjaabEntS
import Derived.Test.YtljmfdcilnbjaabMarkO
import Derived.Test.YtljmfdcilnbjaabMarkE
import Derived.Deep.RegionHeld3
namespace Go.Proofs.Ytljmfdcilnbjaab
set_option maxRecDepth 100000
open Go.RowKit Go.Deep Go.Sort

/-- What both make of a batch. -/
def esB (q : Int) (len : Nat) (O : Ops) : List En := if batchOkB q len O then (putAll O q len).map (opEn O q) else []

theorem esB_len (q : Int) (len : Nat) (O : Ops) : (esB q len O).length ≤ 20 := by
  unfold esB
  split
  · rename_i h
    rw [List.length_map, putAll_len]
    exact (batchOk_out h).1.2.1
  · simp

theorem OwnE.toV {w : World} {B g cap n : Nat} {es : List En} (h : OwnE w B g cap es) (hn : es.length = n) : OwnV w B (.slice (some ⟨g, 0, none⟩) n cap) es := by subst hn; exact h

set_option maxHeartbeats 2000000 in
theorem impl_BE (q : Int) (a : Option Addr) (len cap : Nat) (O : Ops) (w : World) (hl : len ≤ 1048576) (hS : OpAt w w.heap.size a len O) :
    Calls Try.prog 11 #[.agg #[.int .i64 q, .slice a len cap]] w fun e w' => (∃ v, e = .returned v ∧ OwnV w' w.heap.size v (esB q len O)) ∧ Below w.heap.size w w' := by
  cases hok : batchOkB q len O with
  | true =>
    refine (impl_BatchEntries q a len cap O w hl hS hok).mono ?_
    rintro e w' ⟨⟨g, c, rfl, hO⟩, hb⟩
    refine ⟨⟨_, rfl, ?_⟩, hb⟩
    unfold esB
    rw [if_pos hok, putAll_eq]
    exact hO.toV (by rw [List.length_map, sortB_len, List.length_range])
  | false =>
    have HE : Hid (esB q len O = []) := by show _ = _; unfold esB; rw [if_neg (by rw [hok]; decide)]
    have cb := fun wx h => hok ▸ impl_BatchOk q a len cap O wx hl h
    have hb0 := below_one w (.cells #[.int .i64 q, .slice a len cap] 26)
    have HS0 := hide ((hS.below hb0).mono hb0.size)
    have HB0 := hide hb0
    clear hS hok hb0
    go_enter Try.func11, Try.ntmps11
    go_wp2_with fail
    refine (cb _ HS0.out).mono ?_
    rintro e w1 ⟨rfl, hb1⟩
    have HB1 := hide (HB0.out.trans (hb1.mono HB0.out.size))
    clear hb1 cb HS0 HB0
    go_wp2
    go_ret
    exact ⟨⟨_, rfl, by rw [HE.out]; exact World.ownsRow_nil _ _ _ _⟩, HB1.out⟩

def entsL (es : List En) : Ents := ⟨fun i => ((es[i]?).map En.u).getD ⟨#[]⟩, fun i => ((es[i]?).map En.q).getD 0, fun i => ((es[i]?).map En.k).getD 0, fun i => ((es[i]?).map En.x).getD ⟨#[]⟩⟩

theorem OwnV.mark {w : World} {B : Nat} {v : Value} {es : List En} (h : OwnV w B v es) (g0 : Nat) : ∃ a cap g, v = .slice a es.length cap ∧ EntAt w w.heap.size a es.length (entsL es) ∧ (es.length = 0 ∨ a = some ⟨g, 0, none⟩) ∧ (g = g0 ∨ B ≤ g ∧ g < w.heap.size) ∧
    ∀ j, j < es.length * 4 → (∃ v, w.cell? ⟨g, j, none⟩ = some v) ∧ w.frozen? ⟨g, j, none⟩ = false := by
  rcases h.2 with ⟨hn, h0⟩ | ⟨g, cap', cur, hv', hg, hh, hle, hcap, hsz, htake⟩
  · exact ⟨none, 0, g0, by rw [hn, h0], .inl h0, .inl h0, .inl rfl, fun j hj => absurd hj (by omega)⟩
  · have hlt : g < w.heap.size := (Array.getElem?_eq_some_iff.1 hh).1
    have hE : OwnE w B g cap' es := by subst hv'; exact h
    refine ⟨_, cap', g, hv', .inr ⟨g, 0, rfl, hlt, fun i hi => ?_⟩, .inr rfl, .inr ⟨hg, hlt⟩, fun j hj => ?_⟩
    · have hi' : es[i]? = some es[i] := List.getElem?_eq_getElem hi
      obtain ⟨a, b, c, d⟩ := cellsE_get es i _ hi'
      simp only [entsL, hi', Option.map_some, Option.getD_some, Nat.zero_add]
      exact ⟨hE.cell a, hE.cell b, hE.cell c, hE.cell d⟩
    · have hb : BoxIs w g cur 52 := hh
      have hj2 : j < cur.size := by rw [hsz]; omega
      exact ⟨⟨cur[j], by rw [hb.cell j]; exact Array.getElem?_eq_getElem hj2⟩, hb.free j⟩

theorem wrE_next {w w' : World} {g n : Nat} (hb : Below w.heap.size w w') (h : ∀ j, j < n → (∃ v, w.cell? ⟨g, j, none⟩ = some v) ∧ w.frozen? ⟨g, j, none⟩ = false) : ∀ j, j < n → (∃ v, w'.cell? ⟨g, j, none⟩ = some v) ∧ w'.frozen? ⟨g, j, none⟩ = false := fun j hj => by
  obtain ⟨⟨v, hv⟩, hf⟩ := h j hj
  exact ⟨⟨v, keepc hb hv⟩, (hb.frozen (p := ⟨g, j, none⟩) (World.block_lt_of_cell? _ ⟨g, j, none⟩ hv)).trans hf⟩

theorem two_held {w0 : World} {g1 g2 : Nat} {x0 x1 y0 y1 : Value} (hg1 : g1 < w0.heap.size) (hg2 : g2 < w0.heap.size) (wa wb : World)
    (h : wa.cell? ⟨g1, 0, none⟩ = some x0 ∧ wa.cell? ⟨g1, 1, none⟩ = some x1 ∧ wa.cell? ⟨g2, 0, none⟩ = some y0 ∧ wa.cell? ⟨g2, 1, none⟩ = some y1 ∧ Hid (Below w0.heap.size w0 wa)) (hx : Below wa.heap.size wa wb) :
    wb.cell? ⟨g1, 0, none⟩ = some x0 ∧ wb.cell? ⟨g1, 1, none⟩ = some x1 ∧ wb.cell? ⟨g2, 0, none⟩ = some y0 ∧ wb.cell? ⟨g2, 1, none⟩ = some y1 ∧ Hid (Below w0.heap.size w0 wb) := by
  obtain ⟨d0, d1, d2, d3, hB⟩ := h
  have h1 : g1 < wa.heap.size := Nat.lt_of_lt_of_le hg1 hB.size
  have h2 : g2 < wa.heap.size := Nat.lt_of_lt_of_le hg2 hB.size
  exact ⟨(hx.cell (p := ⟨g1, _, none⟩) h1).trans d0, (hx.cell (p := ⟨g1, _, none⟩) h1).trans d1, (hx.cell (p := ⟨g2, _, none⟩) h2).trans d2, (hx.cell (p := ⟨g2, _, none⟩) h2).trans d3, hB.trans (hx.mono hB.size)⟩

end Go.Proofs.Ytljmfdcilnbjaab
