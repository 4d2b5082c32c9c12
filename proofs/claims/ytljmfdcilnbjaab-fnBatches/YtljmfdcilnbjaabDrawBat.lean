/- What the laws on batches draw: an op, a few of them, a batch, the bytes of one. -/
import Derived.Test.YtljmfdcilnbjaabReadBS
import Derived.Test.YtljmfdcilnbjaabBTextS
import Derived.Test.YtljmfdcilnbjaabDrawE
import Derived.Test.YtljmfdcilnbjaabDrawP1
namespace Go.Proofs.Ytljmfdcilnbjaab
set_option maxRecDepth 100000
open Go.RowKit Go.Deep

theorem mv_next {g : Nat} {w a b : World} (h : Mv g w a) (hb : Below a.heap.size a b) : Mv g w b := h.trans (Mv.of_below hb)

/-- Two boxes of an op, the reader: while an op is drawn. -/
structure OdS (W w : World) (g G K : Nat) (a : Option Addr) (len cap : Nat) (k : Int) (u x : ByteArray) (y : World) : Prop where
  res : BoxIs y G #[.int .i64 0, .string ⟨#[]⟩, .string ⟨#[]⟩] 40
  bx : BoxIs y K #[.int .i64 k, .string u, .string x] 40
  rd : Rd W y g a len cap
  mv : Mv g w y
  n1 : G ≠ g
  n2 : K ≠ g
  n3 : G ≠ K
  n4 : w.heap.size ≤ G
  n5 : w.heap.size ≤ K

section
variable {W w : World} {g G K : Nat} {a : Option Addr} {len cap : Nat} {k : Int} {u x : ByteArray} {y z : World}
theorem OdS.step (h : OdS W w g G K a len cap k u x y) (hr : Rd W z g a len cap) (hm : Mv g y z) : OdS W w g G K a len cap k u x z :=
  ⟨h.res.mv hm h.n1, h.bx.mv hm h.n2, hr, h.mv.trans hm, h.n1, h.n2, h.n3, h.n4, h.n5⟩
/-- A store into the op's box, or the answer's: of old blocks nothing has turned. -/
theorem OdS.lowM (h : OdS W w g G K a len cap k u x y) {B : Nat} (hB : w.heap.size ≤ B) (hm : Mv B y z) : Mv g w z :=
  ⟨hm.os.trans h.mv.os, hm.tape.trans h.mv.tape, hm.output.trans h.mv.output, Nat.le_trans h.mv.size hm.size, fun i hi hg => (hm.block i (Nat.lt_of_lt_of_le hi h.mv.size) (by omega)).trans (h.mv.block i hi hg)⟩
theorem Rd.other {B : Nat} (h : Rd W y g a len cap) (hm : Mv B y z) (hB : B ≠ g) (hW : W.heap.size ≤ B) (hBy : B < y.heap.size) : Rd W z g a len cap :=
  ⟨h.new, Nat.lt_of_lt_of_le h.lt hm.size, h.low.trans (hm.below (by omega) hW), (hm.cell (p := ⟨g, 0, none⟩) h.lt (by show g ≠ B; omega)).trans h.b, by obtain ⟨p, h1, h2⟩ := h.p; exact ⟨p, h1, (hm.cell (p := ⟨g, 1, none⟩) h.lt (by show g ≠ B; omega)).trans h2⟩, (hm.frozen (p := ⟨g, 1, none⟩) h.lt (by show g ≠ B; omega)).trans h.free⟩
theorem OdS.put2 (h : OdS W w g G K a len cap k u x y) (hW : W.heap.size ≤ w.heap.size) (x' : ByteArray) : OdS W w g G K a len cap k u x' (y.setCell ⟨K, 2, none⟩ (.string x')) := by
  have hm : Mv K y (y.setCell ⟨K, 2, none⟩ (.string x')) := (Mv.refl _ _).setCell _
  exact ⟨h.res.mv hm h.n3, heap_setCell_same y K 2 _ _ (.string x') h.bx, h.rd.other hm h.n2 (Nat.le_trans hW h.n5) h.bx.lt, h.lowM h.n5 hm, h.n1, h.n2, h.n3, h.n4, h.n5⟩
theorem OdS.put (h : OdS W w g G K a len cap k u x y) (hW : W.heap.size ≤ w.heap.size) (k' : Int) (u' x' : ByteArray) : OdS W w g G K a len cap k' u' x' (((y.setCell ⟨K, 0, none⟩ (.int .i64 k')).setCell ⟨K, 1, none⟩ (.string u')).setCell ⟨K, 2, none⟩ (.string x')) := by
  have hm : Mv K y (((y.setCell ⟨K, 0, none⟩ (.int .i64 k')).setCell ⟨K, 1, none⟩ (.string u')).setCell ⟨K, 2, none⟩ (.string x')) := (((Mv.refl _ _).setCell _).setCell _).setCell _
  exact ⟨h.res.mv hm h.n3, heap_setCell_same _ K 2 _ _ (.string x') (heap_setCell_same _ K 1 _ _ (.string u') (heap_setCell_same y K 0 _ _ (.int .i64 k') h.bx)), h.rd.other hm h.n2 (Nat.le_trans hW h.n5) h.bx.lt, h.lowM h.n5 hm, h.n1, h.n2, h.n3, h.n4, h.n5⟩
theorem OdS.fin (h : OdS W w g G K a len cap k u x y) (hW : W.heap.size ≤ w.heap.size) : BoxIs (((y.setCell ⟨G, 0, none⟩ (.int .i64 k)).setCell ⟨G, 1, none⟩ (.string u)).setCell ⟨G, 2, none⟩ (.string x)) G #[.int .i64 k, .string u, .string x] 40 ∧ Rd W (((y.setCell ⟨G, 0, none⟩ (.int .i64 k)).setCell ⟨G, 1, none⟩ (.string u)).setCell ⟨G, 2, none⟩ (.string x)) g a len cap ∧ Mv g w (((y.setCell ⟨G, 0, none⟩ (.int .i64 k)).setCell ⟨G, 1, none⟩ (.string u)).setCell ⟨G, 2, none⟩ (.string x)) := by
  have hm : Mv G y (((y.setCell ⟨G, 0, none⟩ (.int .i64 k)).setCell ⟨G, 1, none⟩ (.string u)).setCell ⟨G, 2, none⟩ (.string x)) := (((Mv.refl _ _).setCell _).setCell _).setCell _
  exact ⟨heap_setCell_same _ G 2 _ _ (.string x) (heap_setCell_same _ G 1 _ _ (.string u) (heap_setCell_same y G 0 _ _ (.int .i64 k) h.res)), h.rd.other hm h.n1 (Nat.le_trans hW h.n4) h.res.lt, h.lowM h.n4 hm⟩
end

def OpEnd (W w : World) (g : Nat) (a : Option Addr) (len cap : Nat) (e : Ending) (w' : World) : Prop :=
  ∃ (k : Int) (u x : ByteArray), e = .returned (.agg #[.int .i64 k, .string u, .string x]) ∧ u.size ≤ 60 ∧ x.size ≤ 60 ∧ Rd W w' g a len cap ∧ Mv g w w'

set_option maxHeartbeats 4000000 in
theorem rd_op (W w : World) (g : Nat) (a : Option Addr) (len cap : Nat) (hc : IsCode W a len) (hl : len ≤ 1048576) (h : Rd W w g a len cap) (hW : W.heap.size ≤ w.heap.size) :
    Calls Try.prog 71 #[.pointer (some ⟨g, 0, none⟩)] w fun e w' => OpEnd W w g a len cap e w' := by
  have hb0 := below_one w (.cells #[.int .i64 0, .string ⟨#[]⟩, .string ⟨#[]⟩] 40)
  have HX0 := hide (BoxIs.new w #[.int .i64 0, .string ⟨#[]⟩, .string ⟨#[]⟩] 40 rfl)
  have HR0 := hide (h.mv hb0)
  have HM0 := hide (show Mv g w _ from Mv.of_below hb0)
  have hg := h.lt
  clear h hb0
  go_enter Try.func71, Try.ntmps71
  go_wp2_with fail
  generalize w.alloc (.cells #[.int .i64 0, .string ⟨#[]⟩, .string ⟨#[]⟩] 40) = W0 at HX0 HR0 HM0 ⊢
  refine (rd_below W _ g a len cap 3 (by omega) (by omega) hc hl HR0.out).mono ?_
  rintro e w1 ⟨x, rfl, hx0, hx1, hr1, hm1⟩
  have HR1 := hide hr1
  have HX1 := hide (HX0.out.mv hm1 (Nat.ne_of_gt hg))
  have HM1 := hide (HM0.out.trans hm1)
  clear hr1 hm1 HX0 HR0 HM0
  go_wp2_with fail
  refine (rd_user W _ g a len cap hc hl HR1.out).mono ?_
  rintro e w2 ⟨u, rfl, hu, hr2, hm2⟩
  have HR2 := hide hr2
  have HX2 := hide (HX1.out.mv hm2 (Nat.ne_of_gt hg))
  have HM2 := hide (HM1.out.trans hm2)
  clear hr2 hm2 HX1 HR1 HM1
  go_wp2_with fail
  refine (rd_value W _ g a len cap hc hl HR2.out).mono ?_
  rintro e w3 ⟨v, rfl, hv, hr3, hm3⟩
  have HR3 := hide hr3
  have HX3 := hide (HX2.out.mv hm3 (Nat.ne_of_gt hg))
  have HM3 := hide (HM2.out.trans hm3)
  clear hr3 hm3 HX2 HR2 HM2
  obtain ⟨kk, hkk⟩ : ∃ kk, x % 2 = kk := ⟨_, rfl⟩
  have L4 : ∀ (kk : Int) (v : ByteArray), Hid (OdS W w g w.heap.size w3.heap.size a len cap kk u v (w3.alloc (.cells #[.int .i64 kk, .string u, .string v] 40))) := fun kk v => by
    have hb4 := below_one w3 (.cells #[.int .i64 kk, .string u, .string v] 40)
    exact ⟨HX3.out.next hb4, BoxIs.new w3 _ _ rfl, HR3.out.mv hb4, mv_next HM3.out hb4, Nat.ne_of_gt hg, Nat.ne_of_gt HR3.out.lt, Nat.ne_of_lt HX3.out.lt, Nat.le_refl _, HM3.out.size⟩
  have h01 : kk = 0 ∨ kk = 1 := by omega
  have hG : w.heap.size < w3.heap.size := HX3.out.lt
  clear HX3 HR3 HM3
  generalize hK : w3.heap.size = K at L4 hG
  rcases h01 with rfl | rfl
  · have L5 := L4 0 ⟨#[]⟩
    go_wp2_with fail
    rw [hK] at *
    clear L4
    generalize w3.alloc (.cells #[.int .i64 0, .string u, .string ⟨#[]⟩] 40) = W5 at L5 ⊢
    refine (rd_once W _ g a len cap 30 (by omega) (by omega) hc hl L5.out.rd).mono ?_
    rintro e w4 ⟨b, rfl, hr4, hm4⟩
    have L6 := hide (L5.out.step hr4 hm4)
    clear hr4 hm4 L5
    cases b with
    | false =>
      obtain ⟨k0, k1, k2⟩ : w4.cell? ⟨K, 0, none⟩ = some (.int .i64 0) ∧ w4.cell? ⟨K, 1, none⟩ = some (.string u) ∧ w4.cell? ⟨K, 2, none⟩ = some (.string ⟨#[]⟩) := ⟨L6.out.bx.cell 0, L6.out.bx.cell 1, L6.out.bx.cell 2⟩
      obtain ⟨g0, g1, g2⟩ : w4.cell? ⟨w.heap.size, 0, none⟩ = some (.int .i64 0) ∧ w4.cell? ⟨w.heap.size, 1, none⟩ = some (.string ⟨#[]⟩) ∧ w4.cell? ⟨w.heap.size, 2, none⟩ = some (.string ⟨#[]⟩) := ⟨L6.out.res.cell 0, L6.out.res.cell 1, L6.out.res.cell 2⟩
      have gf := L6.out.res.free
      have F6 := hide (L6.out.fin hW)
      clear L6
      go_wp2
      generalize ((w4.setCell ⟨w.heap.size, 0, none⟩ (.int .i64 0)).setCell ⟨w.heap.size, 1, none⟩ (.string u)).setCell ⟨w.heap.size, 2, none⟩ (.string ⟨#[]⟩) = w6 at F6 ⊢
      obtain ⟨r0, r1, r2⟩ : w6.cell? ⟨w.heap.size, 0, none⟩ = some (.int .i64 0) ∧ w6.cell? ⟨w.heap.size, 1, none⟩ = some (.string u) ∧ w6.cell? ⟨w.heap.size, 2, none⟩ = some (.string ⟨#[]⟩) := ⟨F6.out.1.cell 0, F6.out.1.cell 1, F6.out.1.cell 2⟩
      refine bodyPost_ret (v := .agg #[.int .i64 0, .string u, .string ⟨#[]⟩]) (by simp [results, Try.results71, go_sem, r0, r1, r2]) rfl ?_
      exact ⟨0, u, ⟨#[]⟩, rfl, by omega, by exact Nat.zero_le _, F6.out.2.1, F6.out.2.2⟩
    | true =>
      go_wp2_with fail
      refine (rd_off W _ g a len cap 0 1 (by omega) (by omega) (by omega) hc hl L6.out.rd).mono ?_
      rintro e w5 ⟨k', rfl, _, _, hr5, hm5⟩
      have L7 := hide (L6.out.step hr5 hm5)
      clear hr5 hm5 L6
      go_wp2_with fail
      refine (rd_bytes W _ g a len cap 44 (by omega) (by omega) hc hl L7.out.rd).mono ?_
      rintro e w6 ⟨u', rfl, hu', hr6, hm6⟩
      have L8 := hide (L7.out.step hr6 hm6)
      clear hr6 hm6 L7
      go_wp2_with fail
      refine (rd_bytes W _ g a len cap 9 (by omega) (by omega) hc hl L8.out.rd).mono ?_
      rintro e w7 ⟨v', rfl, hv', hr7, hm7⟩
      have L9 := hide (L8.out.step hr7 hm7)
      clear hr7 hm7 L8
      obtain ⟨k0, k1, k2⟩ : w7.cell? ⟨K, 0, none⟩ = some (.int .i64 0) ∧ w7.cell? ⟨K, 1, none⟩ = some (.string u) ∧ w7.cell? ⟨K, 2, none⟩ = some (.string ⟨#[]⟩) := ⟨L9.out.bx.cell 0, L9.out.bx.cell 1, L9.out.bx.cell 2⟩
      have kf := L9.out.bx.free
      have LA := hide (L9.out.put hW k' u' v')
      clear L9
      obtain ⟨g0, g1, g2⟩ : (((w7.setCell ⟨K, 0, none⟩ (.int .i64 k')).setCell ⟨K, 1, none⟩ (.string u')).setCell ⟨K, 2, none⟩ (.string v')).cell? ⟨w.heap.size, 0, none⟩ = some (.int .i64 0) ∧ (((w7.setCell ⟨K, 0, none⟩ (.int .i64 k')).setCell ⟨K, 1, none⟩ (.string u')).setCell ⟨K, 2, none⟩ (.string v')).cell? ⟨w.heap.size, 1, none⟩ = some (.string ⟨#[]⟩) ∧ (((w7.setCell ⟨K, 0, none⟩ (.int .i64 k')).setCell ⟨K, 1, none⟩ (.string u')).setCell ⟨K, 2, none⟩ (.string v')).cell? ⟨w.heap.size, 2, none⟩ = some (.string ⟨#[]⟩) := ⟨LA.out.res.cell 0, LA.out.res.cell 1, LA.out.res.cell 2⟩
      have gf := LA.out.res.free
      obtain ⟨q0, q1, q2⟩ : (((w7.setCell ⟨K, 0, none⟩ (.int .i64 k')).setCell ⟨K, 1, none⟩ (.string u')).setCell ⟨K, 2, none⟩ (.string v')).cell? ⟨K, 0, none⟩ = some (.int .i64 k') ∧ (((w7.setCell ⟨K, 0, none⟩ (.int .i64 k')).setCell ⟨K, 1, none⟩ (.string u')).setCell ⟨K, 2, none⟩ (.string v')).cell? ⟨K, 1, none⟩ = some (.string u') ∧ (((w7.setCell ⟨K, 0, none⟩ (.int .i64 k')).setCell ⟨K, 1, none⟩ (.string u')).setCell ⟨K, 2, none⟩ (.string v')).cell? ⟨K, 2, none⟩ = some (.string v') := ⟨LA.out.bx.cell 0, LA.out.bx.cell 1, LA.out.bx.cell 2⟩
      have F6 := hide (LA.out.fin hW)
      clear LA
      go_wp2
      generalize (((((w7.setCell ⟨K, 0, none⟩ (.int .i64 k')).setCell ⟨K, 1, none⟩ (.string u')).setCell ⟨K, 2, none⟩ (.string v')).setCell ⟨w.heap.size, 0, none⟩ (.int .i64 k')).setCell ⟨w.heap.size, 1, none⟩ (.string u')).setCell ⟨w.heap.size, 2, none⟩ (.string v') = w9 at F6 ⊢
      obtain ⟨r0, r1, r2⟩ : w9.cell? ⟨w.heap.size, 0, none⟩ = some (.int .i64 k') ∧ w9.cell? ⟨w.heap.size, 1, none⟩ = some (.string u') ∧ w9.cell? ⟨w.heap.size, 2, none⟩ = some (.string v') := ⟨F6.out.1.cell 0, F6.out.1.cell 1, F6.out.1.cell 2⟩
      refine bodyPost_ret (v := .agg #[.int .i64 k', .string u', .string v']) (by simp [results, Try.results71, go_sem, r0, r1, r2]) rfl ?_
      exact ⟨k', u', v', rfl, by omega, by omega, F6.out.2.1, F6.out.2.2⟩
  · have L5 := L4 1 v
    go_wp2_with fail
    rw [hK] at *
    clear L4
    generalize w3.alloc (.cells #[.int .i64 1, .string u, .string v] 40) = W5 at L5 ⊢
    refine (rd_once W _ g a len cap 30 (by omega) (by omega) hc hl L5.out.rd).mono ?_
    rintro e w4 ⟨b, rfl, hr4, hm4⟩
    have L6 := hide (L5.out.step hr4 hm4)
    clear hr4 hm4 L5
    cases b with
    | false =>
      obtain ⟨k0, k1, k2⟩ : w4.cell? ⟨K, 0, none⟩ = some (.int .i64 1) ∧ w4.cell? ⟨K, 1, none⟩ = some (.string u) ∧ w4.cell? ⟨K, 2, none⟩ = some (.string v) := ⟨L6.out.bx.cell 0, L6.out.bx.cell 1, L6.out.bx.cell 2⟩
      obtain ⟨g0, g1, g2⟩ : w4.cell? ⟨w.heap.size, 0, none⟩ = some (.int .i64 0) ∧ w4.cell? ⟨w.heap.size, 1, none⟩ = some (.string ⟨#[]⟩) ∧ w4.cell? ⟨w.heap.size, 2, none⟩ = some (.string ⟨#[]⟩) := ⟨L6.out.res.cell 0, L6.out.res.cell 1, L6.out.res.cell 2⟩
      have gf := L6.out.res.free
      have F6 := hide (L6.out.fin hW)
      clear L6
      go_wp2
      generalize ((w4.setCell ⟨w.heap.size, 0, none⟩ (.int .i64 1)).setCell ⟨w.heap.size, 1, none⟩ (.string u)).setCell ⟨w.heap.size, 2, none⟩ (.string v) = w6 at F6 ⊢
      obtain ⟨r0, r1, r2⟩ : w6.cell? ⟨w.heap.size, 0, none⟩ = some (.int .i64 1) ∧ w6.cell? ⟨w.heap.size, 1, none⟩ = some (.string u) ∧ w6.cell? ⟨w.heap.size, 2, none⟩ = some (.string v) := ⟨F6.out.1.cell 0, F6.out.1.cell 1, F6.out.1.cell 2⟩
      refine bodyPost_ret (v := .agg #[.int .i64 1, .string u, .string v]) (by simp [results, Try.results71, go_sem, r0, r1, r2]) rfl ?_
      exact ⟨1, u, v, rfl, by omega, by omega, F6.out.2.1, F6.out.2.2⟩
    | true =>
      go_wp2_with fail
      refine (rd_off W _ g a len cap 0 1 (by omega) (by omega) (by omega) hc hl L6.out.rd).mono ?_
      rintro e w5 ⟨k', rfl, _, _, hr5, hm5⟩
      have L7 := hide (L6.out.step hr5 hm5)
      clear hr5 hm5 L6
      go_wp2_with fail
      refine (rd_bytes W _ g a len cap 44 (by omega) (by omega) hc hl L7.out.rd).mono ?_
      rintro e w6 ⟨u', rfl, hu', hr6, hm6⟩
      have L8 := hide (L7.out.step hr6 hm6)
      clear hr6 hm6 L7
      go_wp2_with fail
      refine (rd_bytes W _ g a len cap 9 (by omega) (by omega) hc hl L8.out.rd).mono ?_
      rintro e w7 ⟨v', rfl, hv', hr7, hm7⟩
      have L9 := hide (L8.out.step hr7 hm7)
      clear hr7 hm7 L8
      obtain ⟨k0, k1, k2⟩ : w7.cell? ⟨K, 0, none⟩ = some (.int .i64 1) ∧ w7.cell? ⟨K, 1, none⟩ = some (.string u) ∧ w7.cell? ⟨K, 2, none⟩ = some (.string v) := ⟨L9.out.bx.cell 0, L9.out.bx.cell 1, L9.out.bx.cell 2⟩
      have kf := L9.out.bx.free
      have LA := hide (L9.out.put hW k' u' v')
      clear L9
      obtain ⟨g0, g1, g2⟩ : (((w7.setCell ⟨K, 0, none⟩ (.int .i64 k')).setCell ⟨K, 1, none⟩ (.string u')).setCell ⟨K, 2, none⟩ (.string v')).cell? ⟨w.heap.size, 0, none⟩ = some (.int .i64 0) ∧ (((w7.setCell ⟨K, 0, none⟩ (.int .i64 k')).setCell ⟨K, 1, none⟩ (.string u')).setCell ⟨K, 2, none⟩ (.string v')).cell? ⟨w.heap.size, 1, none⟩ = some (.string ⟨#[]⟩) ∧ (((w7.setCell ⟨K, 0, none⟩ (.int .i64 k')).setCell ⟨K, 1, none⟩ (.string u')).setCell ⟨K, 2, none⟩ (.string v')).cell? ⟨w.heap.size, 2, none⟩ = some (.string ⟨#[]⟩) := ⟨LA.out.res.cell 0, LA.out.res.cell 1, LA.out.res.cell 2⟩
      have gf := LA.out.res.free
      obtain ⟨q0, q1, q2⟩ : (((w7.setCell ⟨K, 0, none⟩ (.int .i64 k')).setCell ⟨K, 1, none⟩ (.string u')).setCell ⟨K, 2, none⟩ (.string v')).cell? ⟨K, 0, none⟩ = some (.int .i64 k') ∧ (((w7.setCell ⟨K, 0, none⟩ (.int .i64 k')).setCell ⟨K, 1, none⟩ (.string u')).setCell ⟨K, 2, none⟩ (.string v')).cell? ⟨K, 1, none⟩ = some (.string u') ∧ (((w7.setCell ⟨K, 0, none⟩ (.int .i64 k')).setCell ⟨K, 1, none⟩ (.string u')).setCell ⟨K, 2, none⟩ (.string v')).cell? ⟨K, 2, none⟩ = some (.string v') := ⟨LA.out.bx.cell 0, LA.out.bx.cell 1, LA.out.bx.cell 2⟩
      have F6 := hide (LA.out.fin hW)
      clear LA
      go_wp2
      generalize (((((w7.setCell ⟨K, 0, none⟩ (.int .i64 k')).setCell ⟨K, 1, none⟩ (.string u')).setCell ⟨K, 2, none⟩ (.string v')).setCell ⟨w.heap.size, 0, none⟩ (.int .i64 k')).setCell ⟨w.heap.size, 1, none⟩ (.string u')).setCell ⟨w.heap.size, 2, none⟩ (.string v') = w9 at F6 ⊢
      obtain ⟨r0, r1, r2⟩ : w9.cell? ⟨w.heap.size, 0, none⟩ = some (.int .i64 k') ∧ w9.cell? ⟨w.heap.size, 1, none⟩ = some (.string u') ∧ w9.cell? ⟨w.heap.size, 2, none⟩ = some (.string v') := ⟨F6.out.1.cell 0, F6.out.1.cell 1, F6.out.1.cell 2⟩
      refine bodyPost_ret (v := .agg #[.int .i64 k', .string u', .string v']) (by simp [results, Try.results71, go_sem, r0, r1, r2]) rfl ?_
      exact ⟨k', u', v', rfl, by omega, by omega, F6.out.2.1, F6.out.2.2⟩

theorem ops_mem {os : List Ob} {o : Ob} (h : ∀ p ∈ os, p.u.size ≤ 60 ∧ p.x.size ≤ 60) (hu : o.u.size ≤ 60) (hx : o.x.size ≤ 60) : ∀ p ∈ os ++ [o], p.u.size ≤ 60 ∧ p.x.size ≤ 60 := fun p hp => by
  rcases List.mem_append.1 hp with hp | hp
  · exact h p hp
  · rw [List.mem_singleton.1 hp]; exact ⟨hu, hx⟩

theorem OwnO.lit (w : World) (B : Nat) (hB : B ≤ w.heap.size) : OwnO (w.alloc (.cells #[] 40)) B (.slice (some ⟨w.heap.size, 0, none⟩) 0 0) [] :=
  ⟨by simp [cellsO], .inr ⟨w.heap.size, 0, #[], rfl, hB, heap_alloc_new w _, Nat.le_refl _, by decide, by simp, by simp [cellsO]⟩⟩

def OpsEnd (W w : World) (g : Nat) (a : Option Addr) (len cap : Nat) (e : Ending) (w' : World) : Prop :=
  ∃ (v : Value) (os : List Ob), e = .returned v ∧ os.length ≤ 10 ∧ OwnO w' w.heap.size v os ∧ Rd W w' g a len cap ∧ Mv g w w'

set_option maxHeartbeats 2000000 in
theorem rd_ops (W w : World) (g : Nat) (a : Option Addr) (len cap : Nat) (hc : IsCode W a len) (hl : len ≤ 1048576) (h : Rd W w g a len cap) (hW : W.heap.size ≤ w.heap.size) :
    Calls Try.prog 53 #[.pointer (some ⟨g, 0, none⟩)] w fun e w' => OpsEnd W w g a len cap e w' := by
  have hb0 := below_one w (.cells #[] 40)
  have HO0 := hide (OwnO.lit w w.heap.size (Nat.le_refl _))
  have HR0 := hide (h.mv hb0)
  have HM0 := hide (show Mv g w _ from Mv.of_below hb0)
  have hg := h.lt
  clear h hb0
  go_enter Try.func53, Try.ntmps53
  go_wp2_with fail
  generalize w.alloc (.cells #[] 40) = W0 at HO0 HR0 HM0 ⊢
  refine (rd_below W _ g a len cap 4 (by omega) (by omega) hc hl HR0.out).mono ?_
  rintro e w1 ⟨x, rfl, hx0, hx1, hr1, hm1⟩
  have HR1 := hide hr1
  have HO1 := hide (own_mvR HO0.out hm1 hg)
  have HM1 := hide (HM0.out.trans hm1)
  obtain ⟨n, rfl⟩ := Int.eq_ofNat_of_zero_le hx0
  clear hr1 hm1 HO0 HR0 HM0
  go_wp2
  go_loopw [3, 4] (fun v i wr => ∃ (k : Nat) (os : List Ob), i = .int .i64 k ∧ k + os.length ≤ 5 ∧ Hid (OwnO wr w.heap.size v os) ∧ Hid (Rd W wr g a len cap) ∧ Hid (Mv g w wr)) (fun _ i _ => (intOf i).toNat)
  case atStart => exact ⟨n + 1, [], by go_num, by simp; omega, HO1, HR1, HM1⟩
  case round =>
    obtain ⟨k, os, rfl, hk, HO, HR, HM⟩ := hrel
    clear HO1 HR1 HM1
    by_cases hk0 : k = 0
    · subst hk0
      go_wp2_with fail
      refine (rd_once W _ g a len cap 30 (by omega) (by omega) hc hl HR.out).mono ?_
      rintro e w2 ⟨b, rfl, hr2, hm2⟩
      have HR2 := hide hr2
      have HO2 := hide (own_mvR HO.out hm2 hg)
      have HM2 := hide (HM.out.trans hm2)
      clear hr2 hm2 HO HR HM
      cases b with
      | false =>
        go_wp2
        go_ret
        exact ⟨_, os, rfl, by omega, HO2.out, HR2.out, HM2.out⟩
      | true =>
        have hb3 := below_one w2 (.cells #[] 40)
        have HO3 := hide (OwnO.lit w2 w.heap.size HM2.out.size)
        have HR3 := hide (HR2.out.mv hb3)
        have HM3 := hide (mv_next HM2.out hb3)
        clear hb3 HO2 HR2 HM2
        go_wp2
        go_ret
        exact ⟨_, [], rfl, by simp, HO3.out, HR3.out, HM3.out⟩
    · obtain ⟨k1, rfl⟩ : ∃ k1, k = k1 + 1 := ⟨k - 1, by omega⟩
      have hk1 : (0 : Int) < ((k1 + 1 : Nat) : Int) := by omega
      clear hk0
      obtain ⟨ar, cp, hv, _⟩ := OwnO.ops HO.out
      subst hv
      go_wp2_with fail
      refine (rd_op W _ g a len cap hc hl HR.out (Nat.le_trans hW HM.out.size)).mono ?_
      rintro e w2 ⟨kd, u, xx, rfl, hu, hxx, hr2, hm2⟩
      have HR2 := hide hr2
      have HO2 := hide (own_mvR HO.out hm2 hg)
      have HM2 := hide (HM.out.trans hm2)
      clear hr2 hm2 HO HR HM
      have hb3 := below_one w2 (.cells #[.int .i64 kd, .string u, .string xx] 40)
      go_wp2_with (at_builtin; refine wpList_append_ob rfl _ _ 24 rfl Try.underlying24 w.heap.size _ os ⟨kd, u, xx⟩ (by rfl) (by rfl) HO2.out HM2.out.size (by omega) ?_)
      intro g3 c3 w3 hO3 hb4
      have HO3 := hide hO3
      have HR3 := hide (HR2.out.keep hb4 hg)
      have HM3 : Hid (Mv g w w3) := mv_below HM2.out hb4
      clear hO3 hb4 hb3 HO2 HR2 HM2
      go_wp2
      exact ⟨⟨k1, _, by go_num, by rw [List.length_append]; simp; omega, HO3, HR3, HM3⟩, by simp [intOf]⟩

end Go.Proofs.Ytljmfdcilnbjaab
