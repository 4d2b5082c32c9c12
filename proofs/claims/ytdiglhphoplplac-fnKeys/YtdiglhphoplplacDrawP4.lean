/- Two drawn keys. -/
import Derived.Test.YtdiglhphoplplacDrawP3
import Derived.Deep.RegionHeld3
import Derived.BigRegion
namespace Go.Proofs.Ytdiglhphoplplac
open Go.RowKit

/-- What DrawKeyCmp keeps in memory: two boxes for what it answers (block R and the next one), two for its keys (B and C), the reader (block G). -/
structure Two (W w0 w : World) (G R B C : Nat) (a : Option Addr) (len cap : Nat) (a0 a1 a2 b0 b1 b2 : Value) : Prop where
  rd : Rd W w G a len cap
  low : Below w0.heap.size w0 w
  eR : R = w0.heap.size
  eG : G = w0.heap.size + 2
  hB : w0.heap.size + 2 < B
  hBC : B < C
  hC : C < w.heap.size
  r0 : w.cell? ⟨R, 0, none⟩ = some (.string ⟨#[]⟩)
  r1 : w.cell? ⟨R, 1, none⟩ = some (.int .i64 0)
  r2 : w.cell? ⟨R, 2, none⟩ = some (.int .i64 0)
  s0 : w.cell? ⟨R + 1, 0, none⟩ = some (.string ⟨#[]⟩)
  s1 : w.cell? ⟨R + 1, 1, none⟩ = some (.int .i64 0)
  s2 : w.cell? ⟨R + 1, 2, none⟩ = some (.int .i64 0)
  x0 : w.cell? ⟨B, 0, none⟩ = some a0
  x1 : w.cell? ⟨B, 1, none⟩ = some a1
  x2 : w.cell? ⟨B, 2, none⟩ = some a2
  y0 : w.cell? ⟨C, 0, none⟩ = some b0
  y1 : w.cell? ⟨C, 1, none⟩ = some b1
  y2 : w.cell? ⟨C, 2, none⟩ = some b2
  fR : ∀ o, w.frozen? ⟨R, o, none⟩ = false
  fS : ∀ o, w.frozen? ⟨R + 1, o, none⟩ = false
  fC : ∀ o, w.frozen? ⟨C, o, none⟩ = false

theorem Two.mv {W w0 w w' : World} {G R B C : Nat} {a : Option Addr} {len cap : Nat} {a0 a1 a2 b0 b1 b2 : Value} (h : Two W w0 w G R B C a len cap a0 a1 a2 b0 b1 b2) (hr : Rd W w' G a len cap) (hm : Mv G w w') : Two W w0 w' G R B C a len cap a0 a1 a2 b0 b1 b2 := by
  have eG := h.eG; have eR := h.eR; have hB := h.hB; have hBC := h.hBC; have hC := h.hC
  refine ⟨hr, h.low.trans (hm.below h.low.size (by omega)), eR, eG, hB, hBC, Nat.lt_of_lt_of_le hC hm.size, ?_, ?_, ?_, ?_, ?_, ?_, ?_, ?_, ?_, ?_, ?_, ?_, fun o => ?_, fun o => ?_, fun o => ?_⟩
  · rw [hm.cell (by simp; omega) (by simp; omega)]; exact h.r0
  · rw [hm.cell (by simp; omega) (by simp; omega)]; exact h.r1
  · rw [hm.cell (by simp; omega) (by simp; omega)]; exact h.r2
  · rw [hm.cell (by simp; omega) (by simp; omega)]; exact h.s0
  · rw [hm.cell (by simp; omega) (by simp; omega)]; exact h.s1
  · rw [hm.cell (by simp; omega) (by simp; omega)]; exact h.s2
  · rw [hm.cell (by simp; omega) (by simp; omega)]; exact h.x0
  · rw [hm.cell (by simp; omega) (by simp; omega)]; exact h.x1
  · rw [hm.cell (by simp; omega) (by simp; omega)]; exact h.x2
  · rw [hm.cell (by simp; omega) (by simp; omega)]; exact h.y0
  · rw [hm.cell (by simp; omega) (by simp; omega)]; exact h.y1
  · rw [hm.cell (by simp; omega) (by simp; omega)]; exact h.y2
  · rw [hm.frozen (by simp; omega) (by simp; omega)]; exact h.fR o
  · rw [hm.frozen (by simp; omega) (by simp; omega)]; exact h.fS o
  · rw [hm.frozen (by simp; omega) (by simp; omega)]; exact h.fC o

theorem frozen_setCell (w : World) (p q : Addr) (v : Value) : (w.setCell p v).frozen? q = w.frozen? q := by simp

/-- A store into the second key's box. -/
theorem Two.set0 {W w0 w : World} {G R B C : Nat} {a : Option Addr} {len cap : Nat} {a0 a1 a2 b0 b1 b2 : Value} (h : Two W w0 w G R B C a len cap a0 a1 a2 b0 b1 b2) (v : Value) : Two W w0 (w.setCell ⟨C, 0, none⟩ v) G R B C a len cap a0 a1 a2 v b1 b2 := by
  have eG := h.eG; have eR := h.eR; have hB := h.hB; have hBC := h.hBC; have hC := h.hC
  have n : ∀ (b o : Nat), b ≠ C ∨ o ≠ 0 → (w.setCell ⟨C, 0, none⟩ v).cell? ⟨b, o, none⟩ = w.cell? ⟨b, o, none⟩ := fun b o hne => World.cell?_setCell_other _ _ _ _ (by intro e; have e1 := (Addr.mk.inj e).1; have e2 := (Addr.mk.inj e).2.1; omega)
  refine ⟨h.rd.keep ((Below.refl _ _).setCell (B := C) (p := ⟨C, 0, none⟩) (Nat.le_refl _) v) (by omega), h.low.setCell (p := ⟨C, 0, none⟩) (by show w0.heap.size ≤ C; omega) v, eR, eG, hB, hBC, by simpa [World.setCell] using hC, ?_, ?_, ?_, ?_, ?_, ?_, ?_, ?_, ?_, ?_, ?_, ?_, fun o => ?_, fun o => ?_, fun o => ?_⟩
  · rw [n _ _ (by omega)]; exact h.r0
  · rw [n _ _ (by omega)]; exact h.r1
  · rw [n _ _ (by omega)]; exact h.r2
  · rw [n _ _ (by omega)]; exact h.s0
  · rw [n _ _ (by omega)]; exact h.s1
  · rw [n _ _ (by omega)]; exact h.s2
  · rw [n _ _ (by omega)]; exact h.x0
  · rw [n _ _ (by omega)]; exact h.x1
  · rw [n _ _ (by omega)]; exact h.x2
  · exact World.cell?_setCell_same _ _ _ h.y0
  · rw [n _ _ (by omega)]; exact h.y1
  · rw [n _ _ (by omega)]; exact h.y2
  · rw [frozen_setCell]; exact h.fR o
  · rw [frozen_setCell]; exact h.fS o
  · rw [frozen_setCell]; exact h.fC o

/-- A store into the second key's box. -/
theorem Two.set1 {W w0 w : World} {G R B C : Nat} {a : Option Addr} {len cap : Nat} {a0 a1 a2 b0 b1 b2 : Value} (h : Two W w0 w G R B C a len cap a0 a1 a2 b0 b1 b2) (v : Value) : Two W w0 (w.setCell ⟨C, 1, none⟩ v) G R B C a len cap a0 a1 a2 b0 v b2 := by
  have eG := h.eG; have eR := h.eR; have hB := h.hB; have hBC := h.hBC; have hC := h.hC
  have n : ∀ (b o : Nat), b ≠ C ∨ o ≠ 1 → (w.setCell ⟨C, 1, none⟩ v).cell? ⟨b, o, none⟩ = w.cell? ⟨b, o, none⟩ := fun b o hne => World.cell?_setCell_other _ _ _ _ (by intro e; have e1 := (Addr.mk.inj e).1; have e2 := (Addr.mk.inj e).2.1; omega)
  refine ⟨h.rd.keep ((Below.refl _ _).setCell (B := C) (p := ⟨C, 1, none⟩) (Nat.le_refl _) v) (by omega), h.low.setCell (p := ⟨C, 1, none⟩) (by show w0.heap.size ≤ C; omega) v, eR, eG, hB, hBC, by simpa [World.setCell] using hC, ?_, ?_, ?_, ?_, ?_, ?_, ?_, ?_, ?_, ?_, ?_, ?_, fun o => ?_, fun o => ?_, fun o => ?_⟩
  · rw [n _ _ (by omega)]; exact h.r0
  · rw [n _ _ (by omega)]; exact h.r1
  · rw [n _ _ (by omega)]; exact h.r2
  · rw [n _ _ (by omega)]; exact h.s0
  · rw [n _ _ (by omega)]; exact h.s1
  · rw [n _ _ (by omega)]; exact h.s2
  · rw [n _ _ (by omega)]; exact h.x0
  · rw [n _ _ (by omega)]; exact h.x1
  · rw [n _ _ (by omega)]; exact h.x2
  · rw [n _ _ (by omega)]; exact h.y0
  · exact World.cell?_setCell_same _ _ _ h.y1
  · rw [n _ _ (by omega)]; exact h.y2
  · rw [frozen_setCell]; exact h.fR o
  · rw [frozen_setCell]; exact h.fS o
  · rw [frozen_setCell]; exact h.fC o

/-- A store into the second key's box. -/
theorem Two.set2 {W w0 w : World} {G R B C : Nat} {a : Option Addr} {len cap : Nat} {a0 a1 a2 b0 b1 b2 : Value} (h : Two W w0 w G R B C a len cap a0 a1 a2 b0 b1 b2) (v : Value) : Two W w0 (w.setCell ⟨C, 2, none⟩ v) G R B C a len cap a0 a1 a2 b0 b1 v := by
  have eG := h.eG; have eR := h.eR; have hB := h.hB; have hBC := h.hBC; have hC := h.hC
  have n : ∀ (b o : Nat), b ≠ C ∨ o ≠ 2 → (w.setCell ⟨C, 2, none⟩ v).cell? ⟨b, o, none⟩ = w.cell? ⟨b, o, none⟩ := fun b o hne => World.cell?_setCell_other _ _ _ _ (by intro e; have e1 := (Addr.mk.inj e).1; have e2 := (Addr.mk.inj e).2.1; omega)
  refine ⟨h.rd.keep ((Below.refl _ _).setCell (B := C) (p := ⟨C, 2, none⟩) (Nat.le_refl _) v) (by omega), h.low.setCell (p := ⟨C, 2, none⟩) (by show w0.heap.size ≤ C; omega) v, eR, eG, hB, hBC, by simpa [World.setCell] using hC, ?_, ?_, ?_, ?_, ?_, ?_, ?_, ?_, ?_, ?_, ?_, ?_, fun o => ?_, fun o => ?_, fun o => ?_⟩
  · rw [n _ _ (by omega)]; exact h.r0
  · rw [n _ _ (by omega)]; exact h.r1
  · rw [n _ _ (by omega)]; exact h.r2
  · rw [n _ _ (by omega)]; exact h.s0
  · rw [n _ _ (by omega)]; exact h.s1
  · rw [n _ _ (by omega)]; exact h.s2
  · rw [n _ _ (by omega)]; exact h.x0
  · rw [n _ _ (by omega)]; exact h.x1
  · rw [n _ _ (by omega)]; exact h.x2
  · rw [n _ _ (by omega)]; exact h.y0
  · rw [n _ _ (by omega)]; exact h.y1
  · exact World.cell?_setCell_same _ _ _ h.y2
  · rw [frozen_setCell]; exact h.fR o
  · rw [frozen_setCell]; exact h.fS o
  · rw [frozen_setCell]; exact h.fC o

theorem below_two {w0 w : World} (h : Below w0.heap.size w0 w) (a b c d e f : Value) :
    Below w0.heap.size w0 ((((((w.setCell ⟨w0.heap.size, 0, none⟩ a).setCell ⟨w0.heap.size, 1, none⟩ b).setCell ⟨w0.heap.size, 2, none⟩ c).setCell ⟨w0.heap.size + 1, 0, none⟩ d).setCell ⟨w0.heap.size + 1, 1, none⟩ e).setCell ⟨w0.heap.size + 1, 2, none⟩ f).drew :=
  ((((((h.setCell (p := ⟨w0.heap.size, 0, none⟩) (Nat.le_refl _) a).setCell (p := ⟨w0.heap.size, 1, none⟩) (Nat.le_refl _) b).setCell (p := ⟨w0.heap.size, 2, none⟩) (Nat.le_refl _) c).setCell (p := ⟨w0.heap.size + 1, 0, none⟩) (Nat.le_succ _) d).setCell (p := ⟨w0.heap.size + 1, 1, none⟩) (Nat.le_succ _) e).setCell (p := ⟨w0.heap.size + 1, 2, none⟩) (Nat.le_succ _) f).drew

set_option maxHeartbeats 2000000 in
theorem draw_KeyCmp (W w : World) (a : Option Addr) (len cap : Nat) (hc : IsCode W a len) (hl : len ≤ 1048576) (hb : Below W.heap.size W w) :
    Calls Try.prog 9 #[.slice a len cap] w fun e w' => ∃ (u : ByteArray) (q k : Int) (u2 : ByteArray) (q2 k2 : Int), e = .returned (.tuple #[.agg #[.string u, .int .i64 q, .int .i64 k], .agg #[.string u2, .int .i64 q2, .int .i64 k2]]) ∧ u.size ≤ 45 ∧ u2.size ≤ 45 ∧ Below w.heap.size w w' := by
  have hb0 : Below W.heap.size W ((w.alloc (.cells #[.string ⟨#[]⟩, .int .i64 0, .int .i64 0] 25)).alloc (.cells #[.string ⟨#[]⟩, .int .i64 0, .int .i64 0] 25)) := (hb.alloc hb.size _).alloc (by have := hb.size; simp; omega) _
  have hz0 : ((w.alloc (.cells #[.string ⟨#[]⟩, .int .i64 0, .int .i64 0] 25)).alloc (.cells #[.string ⟨#[]⟩, .int .i64 0, .int .i64 0] 25)).heap.size = w.heap.size + 2 := by simp
  go_enter Try.func9, Try.ntmps9
  go_wp2_with fail
  refine (open_rd _ a len cap W hb0).mono ?_
  rintro e w1 ⟨rfl, hr, hb1⟩
  rw [hz0] at hr
  go_wp2_with fail
  refine (rd_key W _ _ a len cap hc hl hr).mono ?_
  rintro e w2 ⟨u, q, k, rfl, hu, _, _, _, _, hr2, hm2⟩
  have hb2 := hb1.trans (hm2.below hb1.size (Nat.le_of_eq hz0))
  have hz2 : w.heap.size + 2 < w2.heap.size := hr2.lt
  have hr2' := hr2.mv ((Below.refl w2.heap.size w2).alloc (Nat.le_refl _) (.cells #[.string u, .int .i64 q, .int .i64 k] 25))
  go_wp2_with fail
  refine (rd_key W _ _ a len cap hc hl hr2').mono ?_
  rintro e w3 ⟨u2, q2, k2, rfl, hu2, _, _, _, _, hr3, hm3⟩
  have hz3 : w2.heap.size < w3.heap.size := by have := hm3.size; simp at this; omega
  have h2 : Two W w (w3.alloc (.cells #[.string u2, .int .i64 q2, .int .i64 k2] 25)) (w.heap.size + 2) w.heap.size w2.heap.size w3.heap.size a len cap (.string u) (.int .i64 q) (.int .i64 k) (.string u2) (.int .i64 q2) (.int .i64 k2) := by
    have c3 : ∀ b o, b < w.heap.size + 2 → (w3.alloc (.cells #[.string u2, .int .i64 q2, .int .i64 k2] 25)).cell? ⟨b, o, none⟩ = ((w.alloc (.cells #[.string ⟨#[]⟩, .int .i64 0, .int .i64 0] 25)).alloc (.cells #[.string ⟨#[]⟩, .int .i64 0, .int .i64 0] 25)).cell? ⟨b, o, none⟩ := fun b o h => by
      rw [World.cell?_alloc_past _ _ _ (by omega), hm3.cell (by simp; omega) (by simp; omega), World.cell?_alloc_past _ _ _ (by omega), hb2.cell (by simp; omega)]
    have f3 : ∀ b o, b < w.heap.size + 2 → (w3.alloc (.cells #[.string u2, .int .i64 q2, .int .i64 k2] 25)).frozen? ⟨b, o, none⟩ = ((w.alloc (.cells #[.string ⟨#[]⟩, .int .i64 0, .int .i64 0] 25)).alloc (.cells #[.string ⟨#[]⟩, .int .i64 0, .int .i64 0] 25)).frozen? ⟨b, o, none⟩ := fun b o h => by
      rw [World.frozen?_alloc_past _ _ _ (by omega), hm3.frozen (by simp; omega) (by simp; omega), World.frozen?_alloc_past _ _ _ (by omega), hb2.frozen (by simp; omega)]
    have hlow : Below w.heap.size w (w3.alloc (.cells #[.string u2, .int .i64 q2, .int .i64 k2] 25)) := by
      have e1 : Below w.heap.size w w2 := (((Below.refl w.heap.size w).alloc (Nat.le_refl _) _).alloc (by simp) _).trans (hb2.mono (by simp; omega))
      have e2 : Below w.heap.size w w3 := (e1.alloc (by omega) _).trans (hm3.below (by simp; omega) (by omega))
      exact e2.alloc (by omega) _
    refine ⟨hr3.mv ((Below.refl _ _).alloc (Nat.le_refl _) _), hlow, rfl, rfl, hz2, hz3, by simp, ?_, ?_, ?_, ?_, ?_, ?_, ?_, ?_, ?_, ?_, ?_, ?_, fun o => ?_, fun o => ?_, fun o => ?_⟩
    · rw [c3 _ _ (by omega), World.cell?_alloc_past _ _ _ (by simp)]; simp
    · rw [c3 _ _ (by omega), World.cell?_alloc_past _ _ _ (by simp)]; simp
    · rw [c3 _ _ (by omega), World.cell?_alloc_past _ _ _ (by simp)]; simp
    · rw [c3 _ _ (by omega)]; simp
    · rw [c3 _ _ (by omega)]; simp
    · rw [c3 _ _ (by omega)]; simp
    · rw [World.cell?_alloc_past _ _ _ hz3, hm3.cell (by simp) (by simp; omega)]; simp
    · rw [World.cell?_alloc_past _ _ _ hz3, hm3.cell (by simp) (by simp; omega)]; simp
    · rw [World.cell?_alloc_past _ _ _ hz3, hm3.cell (by simp) (by simp; omega)]; simp
    · simp
    · simp
    · simp
    · rw [f3 _ _ (by omega), World.frozen?_alloc_past _ _ _ (by simp)]; exact World.frozen?_alloc_at _ _ _ _ rfl
    · rw [f3 _ _ (by omega)]; exact World.frozen?_alloc_at _ _ _ _ (by simp)
    · exact World.frozen?_alloc_at _ _ _ _ rfl
  clear hr hb1 hb2 hm2 hr2 hr2' hm3 hr3 hz0 hb0
  go_wp2_with fail
  refine (rd_once W _ _ a len cap 3 (by omega) (by omega) hc hl h2.rd).mono ?_
  rintro e w4 ⟨o1, rfl, hr4, hm4⟩
  have h4 := h2.mv hr4 hm4
  have T4 : Hid (Two W w w4 (w.heap.size + 2) w.heap.size w2.heap.size w3.heap.size a len cap (.string u) (.int .i64 q) (.int .i64 k) (.string u2) (.int .i64 q2) (.int .i64 k2)) := h4
  clear h2 hr4 hm4
  have x0 := T4.out.x0; have y0 := T4.out.y0; have fC := T4.out.fC
  cases o1 with
  | false =>
    clear x0 y0 fC
    go_wp2_with fail
    refine (rd_once W _ _ a len cap 8 (by omega) (by omega) hc hl T4.out.rd).mono ?_
    rintro e w6 ⟨o2, rfl, hr6, hm6⟩
    have T6 : Hid (Two W w w6 (w.heap.size + 2) w.heap.size w2.heap.size w3.heap.size a len cap (.string u) (.int .i64 q) (.int .i64 k) (.string u2) (.int .i64 q2) (.int .i64 k2)) := T4.out.mv hr6 hm6
    clear hr6 hm6
    have x0 := T6.out.x0; have x1 := T6.out.x1; have x2 := T6.out.x2; have y0 := T6.out.y0; have y1 := T6.out.y1; have y2 := T6.out.y2; have fC := T6.out.fC
    cases o2 with
    | false =>
      clear x0 x1 x2 y0 y1 y2 fC
      have T7 := T6
      obtain ⟨w7, hw7⟩ : ∃ w7, w6 = w7 := ⟨_, rfl⟩
      subst hw7
      obtain ⟨hr7, hlow6, _, _, _, _, _, r0, r1, r2, s0, s1, s2, x0, x1, x2, y0, y1, y2, fR, fS, _⟩ := T7.out
      have gR := fun o => fR o
      have HL : Hid (Below w.heap.size w w6) := hlow6
      clear hr7 hlow6 T7
      go_wp2
      go_region
      all_goals go_wp2
      all_goals refine bodyPost_ret (v := .tuple #[.agg #[.string u, .int .i64 q, .int .i64 k], .agg #[.string u2, .int .i64 q2, .int .i64 k2]]) (by simp [results, Try.results9, go_sem, r0, r1, r2, s0, s1, s2]) rfl ⟨u, q, k, u2, q2, k2, rfl, by omega, by omega, ?_⟩
      all_goals exact below_two HL.out _ _ _ _ _ _
    | true =>
      go_wp2_with fail
      have T7 : Hid (Two W w (((w6.setCell ⟨w3.heap.size, 0, none⟩ (.string u)).setCell ⟨w3.heap.size, 1, none⟩ (.int .i64 q)).setCell ⟨w3.heap.size, 2, none⟩ (.int .i64 k)) (w.heap.size + 2) w.heap.size w2.heap.size w3.heap.size a len cap (.string u) (.int .i64 q) (.int .i64 k) (.string u) (.int .i64 q) (.int .i64 k)) := ((T6.out.set0 _).set1 _).set2 _
      clear x0 x1 x2 y0 y1 y2 fC
      generalize ((w6.setCell ⟨w3.heap.size, 0, none⟩ (.string u)).setCell ⟨w3.heap.size, 1, none⟩ (.int .i64 q)).setCell ⟨w3.heap.size, 2, none⟩ (.int .i64 k) = w7 at T7 ⊢
      obtain ⟨hr7, hlow7, _, _, _, _, _, r0, r1, r2, s0, s1, s2, x0, x1, x2, y0, y1, y2, fR, fS, _⟩ := T7.out
      have gR := fun o => fR o
      have HL : Hid (Below w.heap.size w w7) := hlow7
      clear hr7 hlow7 T7
      go_wp2
      go_region
      all_goals go_wp2
      all_goals refine bodyPost_ret (v := .tuple #[.agg #[.string u, .int .i64 q, .int .i64 k], .agg #[.string u, .int .i64 q, .int .i64 k]]) (by simp [results, Try.results9, go_sem, r0, r1, r2, s0, s1, s2]) rfl ⟨u, q, k, u, q, k, rfl, by omega, by omega, ?_⟩
      all_goals exact below_two HL.out _ _ _ _ _ _
  | true =>
    go_wp2_with fail
    have T5 : Hid (Two W w (w4.setCell ⟨w3.heap.size, 0, none⟩ (.string u)) (w.heap.size + 2) w.heap.size w2.heap.size w3.heap.size a len cap (.string u) (.int .i64 q) (.int .i64 k) (.string u) (.int .i64 q2) (.int .i64 k2)) := T4.out.set0 _
    clear x0 y0 fC
    generalize w4.setCell ⟨w3.heap.size, 0, none⟩ (.string u) = w5 at T5 ⊢
    go_wp2_with fail
    refine (rd_once W _ _ a len cap 8 (by omega) (by omega) hc hl T5.out.rd).mono ?_
    rintro e w6 ⟨o2, rfl, hr6, hm6⟩
    have T6 : Hid (Two W w w6 (w.heap.size + 2) w.heap.size w2.heap.size w3.heap.size a len cap (.string u) (.int .i64 q) (.int .i64 k) (.string u) (.int .i64 q2) (.int .i64 k2)) := T5.out.mv hr6 hm6
    clear hr6 hm6
    have x0 := T6.out.x0; have x1 := T6.out.x1; have x2 := T6.out.x2; have y0 := T6.out.y0; have y1 := T6.out.y1; have y2 := T6.out.y2; have fC := T6.out.fC
    cases o2 with
    | false =>
      clear x0 x1 x2 y0 y1 y2 fC
      have T7 := T6
      obtain ⟨w7, hw7⟩ : ∃ w7, w6 = w7 := ⟨_, rfl⟩
      subst hw7
      obtain ⟨hr7, hlow6, _, _, _, _, _, r0, r1, r2, s0, s1, s2, x0, x1, x2, y0, y1, y2, fR, fS, _⟩ := T7.out
      have gR := fun o => fR o
      have HL : Hid (Below w.heap.size w w6) := hlow6
      clear hr7 hlow6 T7
      go_wp2
      go_region
      all_goals go_wp2
      all_goals refine bodyPost_ret (v := .tuple #[.agg #[.string u, .int .i64 q, .int .i64 k], .agg #[.string u, .int .i64 q2, .int .i64 k2]]) (by simp [results, Try.results9, go_sem, r0, r1, r2, s0, s1, s2]) rfl ⟨u, q, k, u, q2, k2, rfl, by omega, by omega, ?_⟩
      all_goals exact below_two HL.out _ _ _ _ _ _
    | true =>
      go_wp2_with fail
      have T7 : Hid (Two W w (((w6.setCell ⟨w3.heap.size, 0, none⟩ (.string u)).setCell ⟨w3.heap.size, 1, none⟩ (.int .i64 q)).setCell ⟨w3.heap.size, 2, none⟩ (.int .i64 k)) (w.heap.size + 2) w.heap.size w2.heap.size w3.heap.size a len cap (.string u) (.int .i64 q) (.int .i64 k) (.string u) (.int .i64 q) (.int .i64 k)) := ((T6.out.set0 _).set1 _).set2 _
      clear x0 x1 x2 y0 y1 y2 fC
      generalize ((w6.setCell ⟨w3.heap.size, 0, none⟩ (.string u)).setCell ⟨w3.heap.size, 1, none⟩ (.int .i64 q)).setCell ⟨w3.heap.size, 2, none⟩ (.int .i64 k) = w7 at T7 ⊢
      obtain ⟨hr7, hlow7, _, _, _, _, _, r0, r1, r2, s0, s1, s2, x0, x1, x2, y0, y1, y2, fR, fS, _⟩ := T7.out
      have gR := fun o => fR o
      have HL : Hid (Below w.heap.size w w7) := hlow7
      clear hr7 hlow7 T7
      go_wp2
      go_region
      all_goals go_wp2
      all_goals refine bodyPost_ret (v := .tuple #[.agg #[.string u, .int .i64 q, .int .i64 k], .agg #[.string u, .int .i64 q, .int .i64 k]]) (by simp [results, Try.results9, go_sem, r0, r1, r2, s0, s1, s2]) rfl ⟨u, q, k, u, q, k, rfl, by omega, by omega, ?_⟩
      all_goals exact below_two HL.out _ _ _ _ _ _

end Go.Proofs.Ytdiglhphoplplac
