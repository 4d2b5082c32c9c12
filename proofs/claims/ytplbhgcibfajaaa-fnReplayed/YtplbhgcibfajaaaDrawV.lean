/- What the laws of chapter 12 draw: files, edits, versions. -/
import Derived.Test.YtplbhgcibfajaaaDrawP2
import Derived.Test.YtplbhgcibfajaaaVerO
import Derived.Test.YtplbhgcibfajaaaReg
import Derived.Lib.MinMaxS
namespace Go.Proofs.Ytplbhgcibfajaaa
set_option maxRecDepth 100000
open Go.RowKit Go.Deep

theorem minmax_size {u v : ByteArray} (hu : u.size ≤ 4) (hv : v.size ≤ 4) : (Go.Lib.minS u v).size ≤ 4 ∧ (Go.Lib.maxS u v).size ≤ 4 := by
  unfold Go.Lib.minS Go.Lib.maxS
  constructor
  · split <;> assumption
  · split <;> assumption

set_option linter.unusedVariables false in
set_option maxHeartbeats 4000000 in
theorem rd_meta (W w : World) (g : Nat) (a : Option Addr) (len cap : Nat) (hc : IsCode W a len) (hl : len ≤ 1048576) (h : Rd W w g a len cap) :
    Calls Try.prog 64 #[.pointer (some ⟨g, 0, none⟩)] w fun e w' => ∃ m : Meta1, e = .returned (.agg #[.int .i64 m.n, .int .i64 m.l, .string m.f, .string m.z, .int .i64 m.c]) ∧ m.f.size ≤ 4 ∧ m.z.size ≤ 4 ∧ Rd W w' g a len cap ∧ Mv g w w' := by
  have hg := h.lt
  have hb0 := below_one w (.cells #[.int .i64 0, .int .i64 0, .string ⟨#[]⟩, .string ⟨#[]⟩, .int .i64 0] 59)
  have hX0 := BoxIs.new w #[.int .i64 0, .int .i64 0, .string ⟨#[]⟩, .string ⟨#[]⟩, .int .i64 0] 59 rfl
  have h0 := h.keep hb0 h.lt
  have hM0 : Mv g w (w.alloc (.cells #[.int .i64 0, .int .i64 0, .string ⟨#[]⟩, .string ⟨#[]⟩, .int .i64 0] 59)) := Mv.of_below hb0
  have hne : w.heap.size ≠ g := by omega
  clear h hb0
  go_enter Try.func64, Try.ntmps64
  go_wp2_with fail
  generalize w.alloc (.cells #[.int .i64 0, .int .i64 0, .string ⟨#[]⟩, .string ⟨#[]⟩, .int .i64 0] 59) = W1 at hX0 h0 hM0 ⊢
  refine (rd_user W _ g a len cap hc hl h0).mono ?_
  rintro e w1 ⟨u, rfl, hu, hr1, hm1⟩
  have hX1 := hX0.mv hm1 hne
  have hM1 := hM0.trans hm1
  clear h0 hX0 hm1 hM0
  go_wp2_with fail
  refine (rd_user W _ g a len cap hc hl hr1).mono ?_
  rintro e w2 ⟨v, rfl, hv, hr2, hm2⟩
  have hX2 := hX1.mv hm2 hne
  have hM2 := hM1.trans hm2
  clear hr1 hX1 hm2 hM1
  go_wp2_with fail
  refine (rd_near W _ g a len cap 0 12 (by omega) (by omega) (by omega) hc hl hr2).mono ?_
  rintro e w3 ⟨q, rfl, hq0, hq1, hr3, hm3⟩
  have hX3 := hX2.mv hm3 hne
  have hM3 := hM2.trans hm3
  clear hr2 hX2 hm3 hM2
  go_wp2_with fail
  refine (rd_below W _ g a len cap 4 (by omega) (by omega) hc hl hr3).mono ?_
  rintro e w4 ⟨k, rfl, hk0, hk1, hr4, hm4⟩
  have hX4 := hX3.mv hm4 hne
  have hM4 := hM3.trans hm4
  clear hr3 hX3 hm4 hM3
  go_wp2_with fail
  rw [Go.Lib.run_min_strs]
  go_wp2_with fail
  rw [Go.Lib.run_max_strs]
  obtain ⟨hmn, hmx⟩ := minmax_size hu hv
  generalize Go.Lib.minS u v = F1 at hmn ⊢
  generalize Go.Lib.maxS u v = Z1 at hmx ⊢
  go_wp2_with fail
  refine (rd_near W _ g a len cap 0 40 (by omega) (by omega) (by omega) hc hl hr4).mono ?_
  rintro e w5 ⟨n, rfl, hn0, hn1, hr5, hm5⟩
  have hX5 := hX4.mv hm5 hne
  have hM5 := hM4.trans hm5
  clear hr4 hX4 hm5 hM4
  have hb6 := below_one w5 (.cells #[.int .i64 (1 + q), .int .i64 k, .string F1, .string Z1, .int .i64 (1 + n)] 59)
  have hY6 := BoxIs.new w5 #[.int .i64 (1 + q), .int .i64 k, .string F1, .string Z1, .int .i64 (1 + n)] 59 rfl
  have hr6 := hr5.keep hb6 hr5.lt
  have hX6 := hX5.next hb6
  have hM6 := mv_below hM5 (hb6.mono hM5.size)
  have hle : w.heap.size ≤ w5.heap.size := hM5.size
  have hXl := hX5.lt
  have hgl := hr5.lt
  clear hr5 hX5 hM5 hb6
  go_wp2_with fail
  generalize w5.alloc (.cells #[.int .i64 (1 + q), .int .i64 k, .string F1, .string Z1, .int .i64 (1 + n)] 59) = W6 at hY6 hr6 hX6 hM6 ⊢
  obtain ⟨F, hF⟩ : ∃ F, w5.heap.size = F := ⟨_, rfl⟩
  rw [hF] at hY6 hle hXl hgl ⊢
  refine (rd_once W _ g a len cap 24 (by omega) (by omega) hc hl hr6).mono ?_
  rintro e w7 ⟨b, rfl, hr7, hm7⟩
  have hX7 := hX6.mv hm7 hne
  have hY7 := hY6.mv hm7 (by omega)
  have hM7 := hM6.trans hm7
  clear hr6 hX6 hY6 hm7 hM6
  cases b with
  | true =>
    go_wp2_with fail
    refine (rd_off W _ g a len cap 0 3 (by omega) (by omega) (by omega) hc hl hr7).mono ?_
    rintro e w8 ⟨y, rfl, hy0, hy1, hr8, hm8⟩
    have hX8 := hX7.mv hm8 hne
    have hY8 := hY7.mv hm8 (by omega)
    have HM8 := hide (hM7.trans hm8)
    have HR8 : Hid (Rd W w8 g a len cap) := hr8
    clear hr7 hX7 hY7 hm8 hM7 hr8
    have x0 := hX8.cell 0
    have x1 := hX8.cell 1
    have x2 := hX8.cell 2
    have x3 := hX8.cell 3
    have x4 := hX8.cell 4
    have xf := hX8.free
    have y0' := hY8.cell 0
    have y1' := hY8.cell 1
    have y2' := hY8.cell 2
    have y3' := hY8.cell 3
    have y4' := hY8.cell 4
    have yf := hY8.free
    simp only [List.getElem?_toArray, List.getElem?_cons_succ, List.getElem?_cons_zero] at x0 x1 x2 x3 x4 y0' y1' y2' y3' y4'
    have hFn : F ≠ w.heap.size := by omega
    have HB : Hid (∀ p0 p1 p2 p3 p4 p5, Below w.heap.size w8 ((((((w8.setCell ⟨F, 1, none⟩ p5).setCell ⟨w.heap.size, 0, none⟩ p0).setCell ⟨w.heap.size, 1, none⟩ p1).setCell ⟨w.heap.size, 2, none⟩ p2).setCell ⟨w.heap.size, 3, none⟩ p3).setCell ⟨w.heap.size, 4, none⟩ p4)) := fun p0 p1 p2 p3 p4 p5 =>
      ((((((Below.refl _ _).setCell (p := ⟨F, 1, none⟩) hle _).setCell (p := ⟨w.heap.size, 0, none⟩) (Nat.le_refl _) _).setCell (p := ⟨w.heap.size, 1, none⟩) (Nat.le_refl _) _).setCell (p := ⟨w.heap.size, 2, none⟩) (Nat.le_refl _) _).setCell (p := ⟨w.heap.size, 3, none⟩) (Nat.le_refl _) _).setCell (p := ⟨w.heap.size, 4, none⟩) (Nat.le_refl _) _
    clear hX8 hY8 hc
    go_wp2
    refine bodyPost_ret (v := .agg #[.int .i64 (1 + q), .int .i64 y, .string F1, .string Z1, .int .i64 (1 + n)]) (by simp [results, Try.results64, go_sem, x0, x1, x2, x3, x4]) rfl ⟨⟨1 + q, y, F1, Z1, 1 + n⟩, rfl, hmn, hmx, HR8.out.keep (HB.out _ _ _ _ _ _) hg, mv_below HM8.out (HB.out _ _ _ _ _ _)⟩
  | false =>
    have HM8 := hide hM7
    have HR8 : Hid (Rd W w7 g a len cap) := hr7
    have x0 := hX7.cell 0
    have x1 := hX7.cell 1
    have x2 := hX7.cell 2
    have x3 := hX7.cell 3
    have x4 := hX7.cell 4
    have xf := hX7.free
    have y0' := hY7.cell 0
    have y1' := hY7.cell 1
    have y2' := hY7.cell 2
    have y3' := hY7.cell 3
    have y4' := hY7.cell 4
    simp only [List.getElem?_toArray, List.getElem?_cons_succ, List.getElem?_cons_zero] at x0 x1 x2 x3 x4 y0' y1' y2' y3' y4'
    have hFn : F ≠ w.heap.size := by omega
    have HB : Hid (∀ p0 p1 p2 p3 p4, Below w.heap.size w7 (((((w7.setCell ⟨w.heap.size, 0, none⟩ p0).setCell ⟨w.heap.size, 1, none⟩ p1).setCell ⟨w.heap.size, 2, none⟩ p2).setCell ⟨w.heap.size, 3, none⟩ p3).setCell ⟨w.heap.size, 4, none⟩ p4)) := fun p0 p1 p2 p3 p4 =>
      (((((Below.refl _ _).setCell (p := ⟨w.heap.size, 0, none⟩) (Nat.le_refl _) _).setCell (p := ⟨w.heap.size, 1, none⟩) (Nat.le_refl _) _).setCell (p := ⟨w.heap.size, 2, none⟩) (Nat.le_refl _) _).setCell (p := ⟨w.heap.size, 3, none⟩) (Nat.le_refl _) _).setCell (p := ⟨w.heap.size, 4, none⟩) (Nat.le_refl _) _
    clear hX7 hY7 hc hr7 hM7
    go_wp2
    refine bodyPost_ret (v := .agg #[.int .i64 (1 + q), .int .i64 k, .string F1, .string Z1, .int .i64 (1 + n)]) (by simp [results, Try.results64, go_sem, x0, x1, x2, x3, x4]) rfl ⟨⟨1 + q, k, F1, Z1, 1 + n⟩, rfl, hmn, hmx, HR8.out.keep (HB.out _ _ _ _ _) hg, mv_below HM8.out (HB.out _ _ _ _ _)⟩

end Go.Proofs.Ytplbhgcibfajaaa
