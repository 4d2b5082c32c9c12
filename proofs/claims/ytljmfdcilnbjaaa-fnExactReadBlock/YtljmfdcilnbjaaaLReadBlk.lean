/- The law on ReadBlock. -/
import Derived.Test.YtljmfdcilnbjaaaRBlkI
import Derived.Test.YtljmfdcilnbjaaaRBlkS
import Derived.Test.YtljmfdcilnbjaaaMarkE
namespace Go.Proofs.Ytljmfdcilnbjaaa
set_option maxRecDepth 100000
open Go.RowKit

/-- The one row (or none) that bytes are the block of, and whether there is one. -/
theorem rb_can (s : ByteArray) : ∃ (es : List En) (b : Bool), es.length ≤ 400 ∧ ∀ (B : Nat) (w : World) (v : Value) (c : Bool), RB s B w v c → c = b ∧ RowE w B v es := by
  by_cases hex : ∃ es m, IsBlk s es m
  · obtain ⟨es, m, h⟩ := hex
    refine ⟨es, true, (blkOk_out h.1).2.2.1, fun B w v c hr => ?_⟩
    rcases hr with ⟨rfl, es', m', h', ho⟩ | ⟨_, _, hn⟩
    · rw [blk_one h h']; exact ⟨rfl, ho⟩
    · exact absurd h (hn es m)
  · refine ⟨[], false, by simp, fun B w v c hr => ?_⟩
    rcases hr with ⟨_, es', m', h', _⟩ | ⟨rfl, rfl, _⟩
    · exact absurd ⟨es', m', h'⟩ hex
    · exact ⟨rfl, RowE.nil _ _⟩

theorem RowE.mark {w : World} {B : Nat} {v : Value} {es : List En} (h : RowE w B v es) (g0 : Nat) : ∃ a cap g, v = .slice a es.length cap ∧ EntAt w w.heap.size a es.length (entsOf es) ∧ (es.length = 0 ∨ a = some ⟨g, 0, none⟩) ∧ (g = g0 ∨ B ≤ g ∧ g < w.heap.size) ∧
    ∀ j, j < es.length * 4 → (∃ v, w.cell? ⟨g, j, none⟩ = some v) ∧ w.frozen? ⟨g, j, none⟩ = false := by
  rcases h.2 with ⟨hn, h0⟩ | ⟨g, cap', cur, hv', hg, hh, hle, hcap, hsz, htake⟩
  · exact ⟨none, 0, g0, by rw [hn, h0], .inl h0, .inl h0, .inl rfl, fun j hj => absurd hj (by omega)⟩
  · have hlt : g < w.heap.size := (Array.getElem?_eq_some_iff.1 hh).1
    have hE : OwnE w B g cap' es := by subst hv'; exact h
    refine ⟨_, cap', g, hv', hE.entAt, .inr rfl, .inr ⟨hg, hlt⟩, fun j hj => ?_⟩
    have hb : BoxIs w g cur 63 := hh
    have hj2 : j < cur.size := by rw [hsz]; omega
    exact ⟨⟨cur[j], by rw [hb.cell j]; exact Array.getElem?_eq_getElem hj2⟩, hb.free j⟩

theorem wr_next {w w' : World} {g n : Nat} (hb : Below w.heap.size w w') (h : ∀ j, j < n → (∃ v, w.cell? ⟨g, j, none⟩ = some v) ∧ w.frozen? ⟨g, j, none⟩ = false) : ∀ j, j < n → (∃ v, w'.cell? ⟨g, j, none⟩ = some v) ∧ w'.frozen? ⟨g, j, none⟩ = false := fun j hj => by
  obtain ⟨⟨v, hv⟩, hf⟩ := h j hj
  exact ⟨⟨v, keepc hb hv⟩, (hb.frozen (p := ⟨g, j, none⟩) (World.block_lt_of_cell? _ ⟨g, j, none⟩ hv)).trans hf⟩

/-- The canonical answer, as a call gives it. -/
def RBc (es : List En) (b : Bool) (B : Nat) (e : Ending) (w : World) : Prop := ∃ v, e = .returned (.tuple #[v, .bool b]) ∧ RowE w B v es

set_option maxHeartbeats 2000000 in
theorem walk_ReadBlock (s : ByteArray) (_hs : s.size ≤ maxLen) (w : World) :
    Calls Try.prog 6 #[.string s] w fun e w' => e = .returned (.bool true) ∧ Below w.heap.size w w' := by
  by_cases h1 : (1048576 : Int) < (s.size : Int)
  · go_enter Try.func6, Try.ntmps6
    go_wp2
    go_ret
    exact ⟨rfl, Below.refl _ _⟩
  · obtain ⟨es, b, hel, hcan⟩ := rb_can s
    have cs : ∀ wx, Calls Try.prog 19 #[.string s] wx fun e w' => RBc es b wx.heap.size e w' ∧ Below wx.heap.size wx w' := fun wx => (spec_ReadBlock s (by omega) wx).mono fun e w' h => by
      obtain ⟨⟨v, c, he, hr⟩, hb⟩ := h
      obtain ⟨rfl, ho⟩ := hcan _ _ _ _ hr
      exact ⟨⟨v, he, ho⟩, hb⟩
    have ci : ∀ wx, Calls Try.prog 20 #[.string s] wx fun e w' => RBc es b wx.heap.size e w' ∧ Below wx.heap.size wx w' := fun wx => (impl_ReadBlock s (by omega) wx).mono fun e w' h => by
      obtain ⟨⟨v, c, he, hr⟩, hb⟩ := h
      obtain ⟨rfl, ho⟩ := hcan _ _ _ _ hr
      exact ⟨⟨v, he, ho⟩, hb⟩
    clear hcan
    go_enter Try.func6, Try.ntmps6
    go_wp2_with fail
    refine (cs w).mono ?_
    rintro e w1 ⟨⟨vw, rfl, how⟩, hb1⟩
    obtain ⟨aw, cw, gw, rfl, hSw, _⟩ := how.mark 0
    have HB1 := hide hb1
    have HW1 := hide hSw
    clear hb1 how hSw cs
    go_wp2_with fail
    refine (ci w1).mono ?_
    rintro e w2 ⟨⟨vg, rfl, hog⟩, hb2⟩
    obtain ⟨ag, cg, g, rfl, hSg, hgz, hgB, hgw⟩ := hog.mark (w2.heap.size + 1)
    have HB2 := hide (HB1.out.trans (hb2.mono HB1.out.size))
    have HW2 := hide (HW1.out.keep hb2)
    have HC2 := hide hb2
    have HWr2 := hide hgw
    have hgw1 : w1.heap.size ≤ g := by have := hb2.size; omega
    have hw01 : w.heap.size ≤ w1.heap.size := HB1.out.size
    clear hb2 hog hgw
    go_wp2_with fail
    refine (laws_eqEntryS ag aw es.length cg cw (entsOf es) w2 (by omega) hSg HW2.out).mono ?_
    rintro e w3 ⟨rfl, hb3⟩
    have HC3 := hide (HC2.out.trans (hb3.mono HC2.out.size))
    have HWr3 := hide (wr_next hb3 HWr2.out)
    clear hb3 hSg HW2 HB2 HC2 HWr2
    go_wp2_with fail
    refine (laws_markEntryS ag es.length cg g w3 (by omega) hgz HWr3.out).mono ?_
    rintro e w4 ⟨rfl, hm4⟩
    have HC4 := hide (HC3.out.trans (hm4.mv.below HC3.out.size (by omega)))
    have HK4 := hide hm4.ok
    clear hm4 HC3 HWr3
    go_wp2_with fail
    refine (laws_heldEntryS ag es.length cg g w4 (by omega) hgz HK4.out).mono ?_
    rintro e w5 ⟨rfl, hb5⟩
    have HC5 := hide (HC4.out.trans (hb5.mono HC4.out.size))
    have HK5 : Hid (∀ j, j < es.length * 4 → w5.cell? ⟨g, j, none⟩ = some (mkCell kdEntryS 1 j)) := fun j hj => keepc hb5 (HK4.out j hj)
    have hpos2 : ¬ (((1 + es.length * 4 : Nat) : Int) < 0) := by omega
    clear hb5 HC4 HK4
    go_wp2_with fail
    refine (ci w5).mono ?_
    rintro e w6 ⟨⟨vh, rfl, hoh⟩, hb6⟩
    obtain ⟨ah, ch, _, rfl, hSh, _⟩ := hoh.mark 0
    have HC6 := hide (HC5.out.trans (hb6.mono HC5.out.size))
    have HK6 : Hid (∀ j, j < es.length * 4 → w6.cell? ⟨g, j, none⟩ = some (mkCell kdEntryS 1 j)) := fun j hj => keepc hb6 (HK5.out j hj)
    clear hb6 hoh HC5 HK5 ci
    go_wp2_with fail
    refine (laws_eqEntryS ah aw es.length ch cw (entsOf es) w6 (by omega) hSh ((HW1.out.below HC6.out).mono HC6.out.size)).mono ?_
    rintro e w7 ⟨rfl, hb7⟩
    have HC7 := hide (HC6.out.trans (hb7.mono HC6.out.size))
    have HK7 : Hid (∀ j, j < es.length * 4 → w7.cell? ⟨g, j, none⟩ = some (mkCell kdEntryS 1 j)) := fun j hj => keepc hb7 (HK6.out j hj)
    clear hb7 hSh HC6 HK6
    go_wp2_with fail
    refine (laws_heldEntryS ag es.length cg g w7 (by omega) hgz HK7.out).mono ?_
    rintro e w8 ⟨rfl, hb8⟩
    have HB8 := hide (HB1.out.trans ((HC7.out.trans (hb8.mono HC7.out.size)).mono HB1.out.size))
    clear hb8 HC7 HK7
    go_wp2
    go_ret
    exact ⟨rfl, HB8.out⟩

end Go.Proofs.Ytljmfdcilnbjaaa
