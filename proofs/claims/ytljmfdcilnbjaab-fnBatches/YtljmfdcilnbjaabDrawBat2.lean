/- What the laws on batches draw: a batch, and the bytes of one, some of them hurt. -/
import Derived.Test.YtljmfdcilnbjaabDrawBat
import Derived.Test.YtljmfdcilnbjaabBatR
import Derived.Test.YtljmfdcilnbjaabLFnFixed
namespace Go.Proofs.Ytljmfdcilnbjaab
set_option maxRecDepth 100000
open Go.RowKit Go.Deep

def BatEnd (W w : World) (g : Nat) (a : Option Addr) (len cap : Nat) (e : Ending) (w' : World) : Prop :=
  ∃ (q : Int) (ar : Option Addr) (cp : Nat) (os : List Ob), e = .returned (.agg #[.int .i64 q, .slice ar os.length cp]) ∧ os.length ≤ 10 ∧ OwnO w' w.heap.size (.slice ar os.length cp) os ∧ Rd W w' g a len cap ∧ Mv g w w'

theorem Rd.far {W y z : World} {g B : Nat} {a : Option Addr} {len cap : Nat} (h : Rd W y g a len cap) (hm : Mv B y z) (hB : B ≠ g) (hW : W.heap.size ≤ B) (hBy : B < y.heap.size) : Rd W z g a len cap := h.other hm hB hW hBy

set_option maxHeartbeats 2000000 in
theorem rd_batch (W w : World) (g : Nat) (a : Option Addr) (len cap : Nat) (hc : IsCode W a len) (hl : len ≤ 1048576) (h : Rd W w g a len cap) (hW : W.heap.size ≤ w.heap.size) :
    Calls Try.prog 32 #[.pointer (some ⟨g, 0, none⟩)] w fun e w' => BatEnd W w g a len cap e w' := by
  have hb0 := below_one w (.cells #[.int .i64 0, .slice none 0 0] 26)
  have HX0 := hide (BoxIs.new w #[.int .i64 0, .slice none 0 0] 26 rfl)
  have HR0 := hide (h.mv hb0)
  have HM0 := hide (show Mv g w _ from Mv.of_below hb0)
  have hg := h.lt
  clear h hb0
  go_enter Try.func32, Try.ntmps32
  go_wp2_with fail
  generalize w.alloc (.cells #[.int .i64 0, .slice none 0 0] 26) = W0 at HX0 HR0 HM0 ⊢
  refine (rd_near W _ g a len cap 0 20 (by omega) (by omega) (by omega) hc hl HR0.out).mono ?_
  rintro e w1 ⟨x, rfl, hx0, hx1, hr1, hm1⟩
  have HR1 := hide hr1
  have HX1 := hide (HX0.out.mv hm1 (Nat.ne_of_gt hg))
  have HM1 := hide (HM0.out.trans hm1)
  clear hr1 hm1 HX0 HR0 HM0
  go_wp2_with fail
  refine (rd_ops W _ g a len cap hc hl HR1.out (Nat.le_trans hW HM1.out.size)).mono ?_
  rintro e w2 ⟨v, os, rfl, hn, ho2, hr2, hm2⟩
  obtain ⟨ar, cp, rfl, _⟩ := ho2.ops
  have HX2 := hide (HX1.out.mv hm2 (Nat.ne_of_gt hg))
  have HO2 := hide ho2
  have HR2 := hide hr2
  have HM2 := hide (HM1.out.trans hm2)
  have hGl : w.heap.size < w1.heap.size := HX1.out.lt
  clear ho2 hr2 hm2 HX1 HR1 HM1
  obtain ⟨q, hq⟩ : ∃ q, 1 + x = q := ⟨_, rfl⟩
  have hm : Mv w.heap.size w2 ((w2.setCell ⟨w.heap.size, 0, none⟩ (.int .i64 q)).setCell ⟨w.heap.size, 1, none⟩ (.slice ar os.length cp)) := ((Mv.refl _ _).setCell _).setCell _
  have FX := hide (heap_setCell_same _ w.heap.size 1 _ _ (.slice ar os.length cp) (heap_setCell_same w2 w.heap.size 0 _ _ (.int .i64 q) HX2.out))
  have FO := hide (own_mono (own_mvR HO2.out hm hGl) (Nat.le_of_lt hGl))
  have FR := hide (HR2.out.far hm (Nat.ne_of_gt hg) hW HX2.out.lt)
  have FM : Hid (Mv g w ((w2.setCell ⟨w.heap.size, 0, none⟩ (.int .i64 q)).setCell ⟨w.heap.size, 1, none⟩ (.slice ar os.length cp))) :=
    ⟨hm.os.trans HM2.out.os, hm.tape.trans HM2.out.tape, hm.output.trans HM2.out.output, Nat.le_trans HM2.out.size hm.size, fun i hi hig => (hm.block i (Nat.lt_of_lt_of_le hi HM2.out.size) (Nat.ne_of_lt hi)).trans (HM2.out.block i hi hig)⟩
  obtain ⟨g0, g1⟩ : w2.cell? ⟨w.heap.size, 0, none⟩ = some (.int .i64 0) ∧ w2.cell? ⟨w.heap.size, 1, none⟩ = some (.slice none 0 0) := ⟨HX2.out.cell 0, HX2.out.cell 1⟩
  have gf := HX2.out.free
  clear hm HX2 HO2 HR2 HM2
  go_wp2
  generalize (w2.setCell ⟨w.heap.size, 0, none⟩ (.int .i64 q)).setCell ⟨w.heap.size, 1, none⟩ (.slice ar os.length cp) = w3 at FX FO FR FM ⊢
  obtain ⟨r0, r1⟩ : w3.cell? ⟨w.heap.size, 0, none⟩ = some (.int .i64 q) ∧ w3.cell? ⟨w.heap.size, 1, none⟩ = some (.slice ar os.length cp) := ⟨cell_of_row _ _ _ _ _ _ FX.out, cell_of_row _ _ _ _ _ _ FX.out⟩
  refine bodyPost_ret (v := .agg #[.int .i64 q, .slice ar os.length cp]) (by simp [results, Try.results32, go_sem, r0, r1]) rfl ?_
  exact ⟨q, ar, cp, os, rfl, hn, FO.out, FR.out, FM.out⟩

def BatTell (w : World) (e : Ending) (w' : World) : Prop :=
  ∃ (q : Int) (ar : Option Addr) (cp : Nat) (os : List Ob), e = .returned (.agg #[.int .i64 q, .slice ar os.length cp]) ∧ os.length ≤ 10 ∧ OwnO w' w.heap.size (.slice ar os.length cp) os ∧ Below w.heap.size w w'

/-- The answer's box is written: the row stays. -/
theorem bat_put {w y : World} {G B : Nat} {q q0 : Int} {ar : Option Addr} {cp : Nat} {v0 : Value} {os : List Ob} (hx : BoxIs y G #[.int .i64 q0, v0] 26) (ho : OwnO y B (.slice ar os.length cp) os) (hb : Below w.heap.size w y) (hG : w.heap.size ≤ G) (hB : G < B) :
    BoxIs ((y.setCell ⟨G, 0, none⟩ (.int .i64 q)).setCell ⟨G, 1, none⟩ (.slice ar os.length cp)) G #[.int .i64 q, .slice ar os.length cp] 26 ∧ OwnO ((y.setCell ⟨G, 0, none⟩ (.int .i64 q)).setCell ⟨G, 1, none⟩ (.slice ar os.length cp)) B (.slice ar os.length cp) os ∧ Below w.heap.size w ((y.setCell ⟨G, 0, none⟩ (.int .i64 q)).setCell ⟨G, 1, none⟩ (.slice ar os.length cp)) := by
  have hm : Mv G y ((y.setCell ⟨G, 0, none⟩ (.int .i64 q)).setCell ⟨G, 1, none⟩ (.slice ar os.length cp)) := ((Mv.refl _ _).setCell _).setCell _
  exact ⟨heap_setCell_same _ G 1 _ _ (.slice ar os.length cp) (heap_setCell_same y G 0 _ _ (.int .i64 q) hx), own_mvR ho hm hB, hb.trans (hm.below hb.size hG)⟩

/-- A box of a batch is no row of ops. -/
theorem own_type {y z : World} {B K : Nat} {v : Value} {os : List Ob} {cs : Array Value} (ho : OwnO y B v os) (hk : BoxIs y K cs 26) (hm : Mv K y z) : OwnO z B v os := by
  refine ⟨ho.1, ?_⟩
  rcases ho.2 with hn | ⟨g, cap, cur, rfl, hg, hh, r⟩
  · exact .inl hn
  · refine .inr ⟨g, cap, cur, rfl, hg, ?_, r⟩
    have hne : g ≠ K := by
      rintro rfl
      have h2 : y.heap[g]? = some (.cells cs 26) := hk
      rw [hh] at h2
      injection h2 with h2
      injection h2 with _ h2
      exact absurd h2 (by decide)
    exact (hm.block g (Array.getElem?_eq_some_iff.1 hh).1 hne).trans hh

set_option maxHeartbeats 2000000 in
theorem draw_BatchOk (W w : World) (a : Option Addr) (len cap : Nat) (hc : IsCode W a len) (hl : len ≤ 1048576) (hb : Below W.heap.size W w) :
    Calls Try.prog 15 #[.slice a len cap] w fun e w' => BatTell w e w' := by
  have hb0 := below_one w (.cells #[.int .i64 0, .slice none 0 0] 26)
  have HX0 := hide (BoxIs.new w #[.int .i64 0, .slice none 0 0] 26 rfl)
  have HB0 := hide hb0
  have HW0 := hide (hb.trans (hb0.mono hb.size))
  have hWw := hb.size
  clear hb0 hb
  go_enter Try.func15, Try.ntmps15
  go_wp2_with fail
  generalize w.alloc (.cells #[.int .i64 0, .slice none 0 0] 26) = W0 at HX0 HB0 HW0 ⊢
  refine (open_rd W0 a len cap W HW0.out).mono ?_
  rintro e w1 ⟨rfl, hr, hb1⟩
  obtain ⟨g, hg⟩ : ∃ g, W0.heap.size = g := ⟨_, rfl⟩
  have hgl : w.heap.size < g := by rw [← hg]; exact HX0.out.lt
  have HX1 := hide (HX0.out.next hb1)
  rw [hg] at hr ⊢
  have HB1 := hide (HB0.out.trans (hb1.mono HB0.out.size))
  have HR1 := hide hr
  have hW1 : W.heap.size ≤ w1.heap.size := Nat.le_trans HW0.out.size hb1.size
  clear hb1 hr HB0 HX0 HW0
  go_wp2_with fail
  refine (rd_batch W _ g a len cap hc hl HR1.out hW1).mono ?_
  rintro e w2 ⟨q, ar, cp, os, rfl, hn, ho2, hr2, hm2⟩
  have HX2 := hide (HX1.out.mv hm2 (Nat.ne_of_lt hgl))
  have HB2 := hide (HB1.out.trans (hm2.below HB1.out.size (Nat.le_of_lt hgl)))
  have hG1 : w.heap.size < w1.heap.size := HX1.out.lt
  have hgw1 : g < w1.heap.size := HR1.out.lt
  have hb3 := below_one w2 (.cells #[.int .i64 q, .slice ar os.length cp] 26)
  have HX3 := hide (HX2.out.next hb3)
  have HK3 := hide (BoxIs.new w2 #[.int .i64 q, .slice ar os.length cp] 26 rfl)
  have HO3 := hide (own_next ho2 hb3)
  have HR3 := hide (hr2.mv hb3)
  have HB3 := hide (HB2.out.trans (hb3.mono HB2.out.size))
  have hKg : g < w2.heap.size := hr2.lt
  have hGK : w.heap.size < w2.heap.size := HX2.out.lt
  clear ho2 hr2 hm2 hb3 HX1 HR1 HB1 HX2 HB2
  go_wp2_with fail
  generalize w2.alloc (.cells #[.int .i64 q, .slice ar os.length cp] 26) = W3 at HX3 HK3 HO3 HR3 HB3 ⊢
  obtain ⟨K, hK⟩ : ∃ K, w2.heap.size = K := ⟨_, rfl⟩
  rw [hK] at HK3 hKg hGK ⊢
  clear hK
  refine (rd_once W _ g a len cap 10 (by omega) (by omega) hc hl HR3.out).mono ?_
  rintro e w4 ⟨b, rfl, hr4, hm4⟩
  have HX4 := hide (HX3.out.mv hm4 (Nat.ne_of_lt hgl))
  have HK4 := hide (HK3.out.mv hm4 (Nat.ne_of_gt hKg))
  have HB4 := hide (HB3.out.trans (hm4.below HB3.out.size (Nat.le_of_lt hgl)))
  have HO4 := hide (own_mvR HO3.out hm4 hgw1)
  have HR4 := hide hr4
  clear hr4 hm4 HX3 HK3 HO3 HR3 HB3
  cases b with
  | false =>
    obtain ⟨k0, k1⟩ : w4.cell? ⟨K, 0, none⟩ = some (.int .i64 q) ∧ w4.cell? ⟨K, 1, none⟩ = some (.slice ar os.length cp) := ⟨HK4.out.cell 0, HK4.out.cell 1⟩
    obtain ⟨g0, g1⟩ : w4.cell? ⟨w.heap.size, 0, none⟩ = some (.int .i64 0) ∧ w4.cell? ⟨w.heap.size, 1, none⟩ = some (.slice none 0 0) := ⟨HX4.out.cell 0, HX4.out.cell 1⟩
    have gf := HX4.out.free
    have F9 := hide (bat_put (q := q) HX4.out HO4.out HB4.out (Nat.le_refl _) hG1)
    clear HX4 HK4 HO4 HB4 HR4
    go_wp2
    generalize (w4.setCell ⟨w.heap.size, 0, none⟩ (.int .i64 q)).setCell ⟨w.heap.size, 1, none⟩ (.slice ar os.length cp) = w9 at F9 ⊢
    obtain ⟨r0, r1⟩ : w9.cell? ⟨w.heap.size, 0, none⟩ = some (.int .i64 q) ∧ w9.cell? ⟨w.heap.size, 1, none⟩ = some (.slice ar os.length cp) := ⟨F9.out.1.cell 0, F9.out.1.cell 1⟩
    refine bodyPost_ret (v := .agg #[.int .i64 q, .slice ar os.length cp]) (by simp [results, Try.results15, go_sem, r0, r1]) rfl ?_
    exact ⟨q, ar, cp, os, rfl, hn, own_mono F9.out.2.1 (Nat.le_of_lt hG1), F9.out.2.2⟩
  | true =>
    go_wp2_with fail
    refine (rd_off W _ g a len cap 1 999999999980 (by omega) (by omega) (by omega) hc hl HR4.out).mono ?_
    rintro e w5 ⟨q', rfl, _, _, hr5, hm5⟩
    have HX5 := hide (HX4.out.mv hm5 (Nat.ne_of_lt hgl))
    have HK5 := hide (HK4.out.mv hm5 (Nat.ne_of_gt hKg))
    have HB5 := hide (HB4.out.trans (hm5.below HB4.out.size (Nat.le_of_lt hgl)))
    have HO5 := hide (own_mvR HO4.out hm5 hgw1)
    clear hr5 hm5 HX4 HK4 HO4 HB4 HR4
    have hmK : Mv K w5 (w5.setCell ⟨K, 0, none⟩ (.int .i64 q')) := (Mv.refl _ _).setCell _
    have kf := HK5.out.free
    obtain ⟨j0, j1⟩ : w5.cell? ⟨K, 0, none⟩ = some (.int .i64 q) ∧ w5.cell? ⟨K, 1, none⟩ = some (.slice ar os.length cp) := ⟨HK5.out.cell 0, HK5.out.cell 1⟩
    have HX6 := hide (HX5.out.mv hmK (Nat.ne_of_lt hGK))
    have HK6 := hide (heap_setCell_same w5 K 0 _ _ (.int .i64 q') HK5.out)
    have HO6 := hide (own_type HO5.out HK5.out hmK)
    have HB6 := hide (HB5.out.trans (hmK.below HB5.out.size (Nat.le_of_lt hGK)))
    clear hmK HX5 HK5 HO5 HB5
    obtain ⟨k0, k1⟩ : (w5.setCell ⟨K, 0, none⟩ (.int .i64 q')).cell? ⟨K, 0, none⟩ = some (.int .i64 q') ∧ (w5.setCell ⟨K, 0, none⟩ (.int .i64 q')).cell? ⟨K, 1, none⟩ = some (.slice ar os.length cp) := ⟨cell_of_row _ _ _ _ _ _ HK6.out, cell_of_row _ _ _ _ _ _ HK6.out⟩
    obtain ⟨g0, g1⟩ : (w5.setCell ⟨K, 0, none⟩ (.int .i64 q')).cell? ⟨w.heap.size, 0, none⟩ = some (.int .i64 0) ∧ (w5.setCell ⟨K, 0, none⟩ (.int .i64 q')).cell? ⟨w.heap.size, 1, none⟩ = some (.slice none 0 0) := ⟨HX6.out.cell 0, HX6.out.cell 1⟩
    have gf := HX6.out.free
    have F9 := hide (bat_put (q := q') HX6.out HO6.out HB6.out (Nat.le_refl _) hG1)
    clear HX6 HK6 HO6 HB6
    go_wp2
    generalize ((w5.setCell ⟨K, 0, none⟩ (.int .i64 q')).setCell ⟨w.heap.size, 0, none⟩ (.int .i64 q')).setCell ⟨w.heap.size, 1, none⟩ (.slice ar os.length cp) = w9 at F9 ⊢
    obtain ⟨r0, r1⟩ : w9.cell? ⟨w.heap.size, 0, none⟩ = some (.int .i64 q') ∧ w9.cell? ⟨w.heap.size, 1, none⟩ = some (.slice ar os.length cp) := ⟨F9.out.1.cell 0, F9.out.1.cell 1⟩
    refine bodyPost_ret (v := .agg #[.int .i64 q', .slice ar os.length cp]) (by simp [results, Try.results15, go_sem, r0, r1]) rfl ?_
    exact ⟨q', ar, cp, os, rfl, hn, own_mono F9.out.2.1 (Nat.le_of_lt hG1), F9.out.2.2⟩

set_option maxHeartbeats 1000000 in
theorem draw_BatchText (W w : World) (a : Option Addr) (len cap : Nat) (hc : IsCode W a len) (hl : len ≤ 1048576) (hb : Below W.heap.size W w) :
    Calls Try.prog 5 #[.slice a len cap] w fun e w' => BatTell w e w' := by
  have hb0 := below_one w (.cells #[.int .i64 0, .slice none 0 0] 26)
  have HX0 := hide (BoxIs.new w #[.int .i64 0, .slice none 0 0] 26 rfl)
  have HB0 := hide hb0
  have HW0 := hide (hb.trans (hb0.mono hb.size))
  clear hb0 hb
  go_enter Try.func5, Try.ntmps5
  go_wp2_with fail
  generalize w.alloc (.cells #[.int .i64 0, .slice none 0 0] 26) = W0 at HX0 HB0 HW0 ⊢
  refine (draw_BatchOk W W0 a len cap hc hl HW0.out).mono ?_
  rintro e w1 ⟨q, ar, cp, os, rfl, hn, ho, hb1⟩
  have hG1 : w.heap.size < W0.heap.size := HX0.out.lt
  have HX1 := hide (HX0.out.next hb1)
  have HB1 := hide (HB0.out.trans (hb1.mono HB0.out.size))
  obtain ⟨g0, g1⟩ : w1.cell? ⟨w.heap.size, 0, none⟩ = some (.int .i64 0) ∧ w1.cell? ⟨w.heap.size, 1, none⟩ = some (.slice none 0 0) := ⟨HX1.out.cell 0, HX1.out.cell 1⟩
  have gf := HX1.out.free
  have F9 := hide (bat_put (q := q) HX1.out ho HB1.out (Nat.le_refl _) hG1)
  clear hb1 ho HX0 HB0 HX1 HB1 HW0
  go_wp2
  generalize (w1.setCell ⟨w.heap.size, 0, none⟩ (.int .i64 q)).setCell ⟨w.heap.size, 1, none⟩ (.slice ar os.length cp) = w9 at F9 ⊢
  obtain ⟨r0, r1⟩ : w9.cell? ⟨w.heap.size, 0, none⟩ = some (.int .i64 q) ∧ w9.cell? ⟨w.heap.size, 1, none⟩ = some (.slice ar os.length cp) := ⟨F9.out.1.cell 0, F9.out.1.cell 1⟩
  refine bodyPost_ret (v := .agg #[.int .i64 q, .slice ar os.length cp]) (by simp [results, Try.results5, go_sem, r0, r1]) rfl ?_
  exact ⟨q, ar, cp, os, rfl, hn, own_mono F9.out.2.1 (Nat.le_of_lt hG1), F9.out.2.2⟩

theorem batT_size (q : Int) (n : Nat) (O : Ops) : (batchText q n O).size ≤ 8000 := by
  cases h : batchOkB q n O with
  | true => exact batchText_size h
  | false => rw [batchText_no h]; exact Nat.zero_le _

set_option maxHeartbeats 2000000 in
theorem draw_ReadBatch (W w : World) (a : Option Addr) (len cap : Nat) (hc : IsCode W a len) (hl : len ≤ 1048576) (hb : Below W.heap.size W w) :
    Calls Try.prog 13 #[.slice a len cap] w fun e w' => ∃ t : ByteArray, e = .returned (.string t) ∧ t.size ≤ 9000 ∧ Below w.heap.size w w' := by
  go_enter Try.func13, Try.ntmps13
  go_wp2_with fail
  refine (open_rd w a len cap W hb).mono ?_
  rintro e w1 ⟨rfl, hr, hb1⟩
  obtain ⟨g, hg⟩ : ∃ g, w.heap.size = g := ⟨_, rfl⟩
  have hgs : ∀ y : World, Below g w y → g ≤ y.heap.size := fun y h => by rw [← hg]; exact h.size
  rw [hg] at hr ⊢
  have HB1 : Hid (Below g w w1) := by rw [← hg]; exact hb1
  have HR1 := hide hr
  have hW1 : W.heap.size ≤ w1.heap.size := Nat.le_trans hb.size hb1.size
  clear hb1 hr
  go_wp2_with fail
  refine (rd_batch W _ g a len cap hc hl HR1.out hW1).mono ?_
  rintro e w2 ⟨q, ar, cp, os, rfl, hn, ho2, hr2, hm2⟩
  obtain ⟨ar', cp', hv, hOp⟩ := ho2.ops
  simp only [Value.slice.injEq] at hv
  obtain ⟨rfl, _, rfl⟩ := hv
  have HOp := hide hOp
  have HR2 := hide hr2
  have HB2 := hide (HB1.out.trans (hm2.below (hgs _ HB1.out) (Nat.le_refl _)))
  have cb := fun wx h => spec_BatchText q ar os.length cp (opsOf os) wx (by omega) h
  have hsz := batT_size q os.length (opsOf os)
  clear ho2 hOp hr2 hm2 HB1 HR1
  generalize batchText q os.length (opsOf os) = s at *
  go_wp2_with fail
  refine (cb _ HOp.out).mono ?_
  rintro e w3 ⟨rfl, hb3⟩
  have HR3 := hide (HR2.out.mv hb3)
  have HB3 := hide (HB2.out.trans (hb3.mono (hgs _ HB2.out)))
  clear hb3 cb HOp HR2 HB2
  go_wp2_with fail
  refine (rd_below W _ g a len cap 6 (by omega) (by omega) hc hl HR3.out).mono ?_
  rintro e w4 ⟨y, rfl, hy0, hy1, hr4, hm4⟩
  have HR4 := hide hr4
  have HB4 := hide (HB3.out.trans (hm4.below (hgs _ HB3.out) (Nat.le_refl _)))
  clear hr4 hm4 HR3 HB3
  by_cases y0 : y = 0
  · subst y0
    go_wp2_with fail
    refine (rd_bytes W _ g a len cap 2 (by omega) (by omega) hc hl HR4.out).mono ?_
    rintro e w5 ⟨b, rfl, hb5, hr5, hm5⟩
    have HB5 := hide (HB4.out.trans (hm5.below (hgs _ HB4.out) (Nat.le_refl _)))
    have hadd : ∀ wx : World, (Op.stringOp .add s b).run Try.prog wx = .ok (.string (s ++ b)) wx := fun wx => run_string_add_sum wx _ _ (by omega)
    have HZ : Hid ((s ++ b).size ≤ 9000) := by show _ ≤ _; rw [ByteArray.size_append]; omega
    generalize s ++ b = t at *
    clear hr5 hm5 HR4 HB4
    go_wp2
    go_ret
    exact ⟨t, rfl, HZ.out, by rw [hg]; exact HB5.out⟩
  · have y0' : (y == 0) = false := by simp [y0]
    by_cases y1 : y = 1
    · subst y1
      go_wp2_with fail
      refine (rd_below W _ g a len cap ((s.size : Int) + 1) (by omega) (by omega) hc hl HR4.out).mono ?_
      rintro e w5 ⟨i, rfl, hi0, hi1, hr5, hm5⟩
      obtain ⟨i, rfl⟩ := Int.eq_ofNat_of_zero_le hi0
      have i1 : (i : Int) ≤ (s.size : Int) := by omega
      have HB5 := hide (HB4.out.trans (hm5.below (hgs _ HB4.out) (Nat.le_refl _)))
      have HZ : Hid ((s.extract 0 i).size ≤ 9000) := by show _ ≤ _; rw [ByteArray.size_extract]; omega
      clear hr5 hm5 HR4 HB4 hi0 hi1
      go_wp2
      go_ret
      exact ⟨s.extract 0 i, rfl, HZ.out, by rw [hg]; exact HB5.out⟩
    · have y1' : (y == 1) = false := by simp [y1]
      by_cases y2 : y = 2
      · subst y2
        go_wp2_with fail
        refine (rd_bytes W _ g a len cap 9 (by omega) (by omega) hc hl HR4.out).mono ?_
        rintro e w5 ⟨b, rfl, hb5, hr5, hm5⟩
        have HB5 := hide (HB4.out.trans (hm5.below (hgs _ HB4.out) (Nat.le_refl _)))
        clear hr5 hm5 HR4 HB4
        go_wp2
        go_ret
        exact ⟨b, rfl, by omega, by rw [hg]; exact HB5.out⟩
      · have y2' : (y == 2) = false := by simp [y2]
        go_wp2
        go_ret
        exact ⟨s, rfl, by omega, by rw [hg]; exact HB4.out⟩

end Go.Proofs.Ytljmfdcilnbjaab
