/- The law FnFilterTexts, walked. -/
import Derived.Test.YtonkjdjancnajacDrawRF
namespace Go.Proofs.Ytonkjdjancnajac
set_option maxRecDepth 100000
open Go.RowKit Go.Deep

theorem rf_shapeT {s : ByteArray} {v : Value} (h : RF s v) : ∃ kd sd pr bs b, v = .tuple #[.agg #[.int .i64 kd, .int .i64 sd, .int .i64 pr, .string bs], .bool b] := by
  cases h <;> exact ⟨_, _, _, _, _, rfl⟩

set_option maxHeartbeats 4000000 in
set_option maxRecDepth 100000 in
theorem walk_FnFilterTexts (v : Value) {w : World} (hv : IsBytes w v) (_w : World) :
    Calls Try.prog 4 #[v] w fun e w' => e = .returned (.bool true) ∧ Below w.heap.size w w' := by
  obtain ⟨a, len, cap, rfl, hc, hm⟩ := hv
  by_cases hbig : 1048576 < len
  · have hd : decide (1048576 < len) = true := by simp [hbig]
    go_enter Try.func4, Try.ntmps4
    go_wp2_with fail
    refine (laws_bigB a len cap hm _).mono ?_
    rintro e w1 ⟨rfl, rfl⟩
    go_wp2
    go_ret
    exact ⟨rfl, Below.refl _ _⟩
  · have hd : decide (1048576 < len) = false := by simp [hbig]
    have hl : len ≤ 1048576 := by omega
    go_enter Try.func4, Try.ntmps4
    go_wp2_with fail
    refine (laws_bigB a len cap hm _).mono ?_
    rintro e w1 ⟨rfl, rfl⟩
    go_wp2_with fail
    refine (draw_FilterText w _ a len cap hc hl (Below.refl _ _)).mono ?_
    rintro e w1 ⟨k, s, p, b, rfl, hbz, hB1⟩
    have hb2 := (Below.refl w1.heap.size w1).alloc (Nat.le_refl _) (.cells (fCells k s p b) 36)
    have HB2 := hide (hB1.trans (hb2.mono hB1.size))
    have HF2 := hide (FAt.new w1 k s p b)
    have hbm : b.size ≤ maxLen := by unfold maxLen; omega
    have hts := filterText_size k s p b
    obtain ⟨v1, hR1, hv1⟩ : ∃ v1, RF (filterText k s p b) v1 ∧ (v1 = .tuple #[.agg #[.int .i64 k, .int .i64 s, .int .i64 p, .string b], .bool true] ∧ filterOkB k s p b = true ∨ v1 = badF ∧ filterOkB k s p b = false) := by
      cases hok : filterOkB k s p b with
      | true => exact ⟨_, rf_ok hok, .inl ⟨rfl, rfl⟩⟩
      | false => exact ⟨_, rf_bad hok, .inr ⟨rfl, rfl⟩⟩
    have ct := fun wx => impl_FilterText k s p b hbm wx
    have cs := fun wx => spec_FilterText k s p b hbm wx
    have hr1 := fun wx => impl_ReadFilter (filterText k s p b) (by omega) hR1 wx
    have cok := fun wx => impl_FilterOk k s p b hbm wx
    generalize filterText k s p b = T1 at ct cs hr1
    clear hR1 hts hbig hm hd hb2 hB1
    have HC := hide hc
    clear hc
    obtain ⟨hv1a, hoa⟩ | ⟨hv1a, hoa⟩ := hv1
    · rw [hv1a] at hr1
      rw [hoa] at cok
      clear hv1a hoa
      obtain ⟨d0, d1, d2, d3⟩ := HF2.out.cells
      go_wp2_with fail
      clear d0 d1 d2 d3
      generalize w1.alloc (.cells (fCells k s p b) 36) = W2 at HB2 HF2 ⊢
      refine (ct _).mono ?_
      rintro e w3 ⟨rfl, hb3⟩
      have HB3 := hide (HB2.out.trans (hb3.mono HB2.out.size))
      have HF3 := hide (HF2.out.below hb3)
      clear hb3 HB2 HF2 ct
      go_wp2_with fail
      refine (hr1 _).mono ?_
      rintro e w4 ⟨rfl, hb4⟩
      have hF4 := HF3.out.below hb4
      have hB4 := HB3.out.trans (hb4.mono HB3.out.size)
      have hb5 := (Below.refl w4.heap.size w4).alloc (Nat.le_refl _) (.cells (fCells k s p b) 36)
      have HB5 := hide (hB4.trans (hb5.mono hB4.size))
      have HF5 := hide (hF4.below hb5)
      have HG5 := hide (FAt.new w4 k s p b)
      obtain ⟨d0, d1, d2, d3⟩ := hF4.cells
      have hlt := hF4.lt
      clear hb4 HB3 HF3 hr1 hF4 hB4 hb5
      go_wp2_with fail
      clear d0 d1 d2 d3 hlt
      generalize w4.alloc (.cells (fCells k s p b) 36) = W5 at HB5 HF5 HG5 ⊢
      refine (cs _).mono ?_
      rintro e w6 ⟨rfl, hb6⟩
      have HB6 := hide (HB5.out.trans (hb6.mono HB5.out.size))
      have HF6 := hide (HF5.out.below hb6)
      have HG6 := hide (HG5.out.below hb6)
      obtain ⟨d0, d1, d2, d3⟩ := HF6.out.cells
      clear hb6 HB5 HF5 HG5 cs
      go_wp2_with fail
      clear d0 d1 d2 d3
      refine (cok _).mono ?_
      rintro e w7 ⟨rfl, hb7⟩
      have HB7 := hide (HB6.out.trans (hb7.mono HB6.out.size))
      obtain ⟨d0, d1, d2, d3⟩ := (HF6.out.below hb7).cells
      obtain ⟨e0, e1, e2, e3⟩ := (HG6.out.below hb7).cells
      clear hb7 HB6 HF6 HG6 cok
      go_wp2_with fail
      clear d0 d1 d2 d3 e0 e1 e2 e3
      refine (draw_ReadFilter w _ a len cap HC.out hl HB7.out).mono ?_
      rintro e w8 ⟨u, rfl, hu, hb8⟩
      have HB8 := hide (HB7.out.trans (hb8.mono HB7.out.size))
      obtain ⟨v2, hR2⟩ := rf_total u
      obtain ⟨k2, s2, p2, b2, ok2, rfl⟩ := rf_shapeT hR2
      have ci := fun wx => impl_ReadFilter u (by omega) hR2 wx
      have cs2 := fun wx => spec_ReadFilter u (by omega) hR2 wx
      have HRF := hide hR2
      clear hR2 hb8 HB7
      go_wp2_with fail
      refine (ci _).mono ?_
      rintro e w9 ⟨rfl, hb9⟩
      have hB9 := HB8.out.trans (hb9.mono HB8.out.size)
      have hb10 := (Below.refl w9.heap.size w9).alloc (Nat.le_refl _) (.cells (fCells k2 s2 p2 b2) 36)
      have HB10 := hide (hB9.trans (hb10.mono hB9.size))
      have HF10 := hide (FAt.new w9 k2 s2 p2 b2)
      clear hb9 hB9 hb10 HB8 ci
      go_wp2_with fail
      generalize w9.alloc (.cells (fCells k2 s2 p2 b2) 36) = W10 at HB10 HF10 ⊢
      refine (cs2 _).mono ?_
      rintro e w11 ⟨rfl, hb11⟩
      have hB11 := HB10.out.trans (hb11.mono HB10.out.size)
      have hF11 := HF10.out.below hb11
      have hb12 := (Below.refl w11.heap.size w11).alloc (Nat.le_refl _) (.cells (fCells k2 s2 p2 b2) 36)
      have HB12 := hide (hB11.trans (hb12.mono hB11.size))
      obtain ⟨d0, d1, d2, d3⟩ := hF11.cells
      have hlt := hF11.lt
      clear hb11 hB11 hb12 HB10 HF10 cs2 hF11
      cases ok2 with
      | false =>
        clear HRF
        go_wp2
        go_ret
        exact ⟨rfl, HB12.out⟩
      | true =>
        obtain ⟨hft, hfo⟩ := rf_back HRF.out
        have hb2z := (filterOk_bd hfo).2.2.2.2.2.2
        have ct2 := fun wx => hft ▸ impl_FilterText k2 s2 p2 b2 (by unfold maxLen; omega) wx
        clear HRF hft hfo hb2z
        go_wp2_with fail
        refine (ct2 _).mono ?_
        rintro e w13 ⟨rfl, hb13⟩
        have HB13 := hide (HB12.out.trans (hb13.mono HB12.out.size))
        clear hb13 HB12 ct2 d0 d1 d2 d3
        go_wp2
        go_ret
        exact ⟨rfl, HB13.out⟩
    · rw [hv1a] at hr1
      unfold badF at hr1
      rw [hoa] at cok
      clear hv1a hoa
      obtain ⟨d0, d1, d2, d3⟩ := HF2.out.cells
      go_wp2_with fail
      clear d0 d1 d2 d3
      generalize w1.alloc (.cells (fCells k s p b) 36) = W2 at HB2 HF2 ⊢
      refine (ct _).mono ?_
      rintro e w3 ⟨rfl, hb3⟩
      have HB3 := hide (HB2.out.trans (hb3.mono HB2.out.size))
      have HF3 := hide (HF2.out.below hb3)
      clear hb3 HB2 HF2 ct
      go_wp2_with fail
      refine (hr1 _).mono ?_
      rintro e w4 ⟨rfl, hb4⟩
      have hF4 := HF3.out.below hb4
      have hB4 := HB3.out.trans (hb4.mono HB3.out.size)
      have hb5 := (Below.refl w4.heap.size w4).alloc (Nat.le_refl _) (.cells (fCells 0 0 0 ⟨#[]⟩) 36)
      have HB5 := hide (hB4.trans (hb5.mono hB4.size))
      have HF5 := hide (hF4.below hb5)
      obtain ⟨d0, d1, d2, d3⟩ := hF4.cells
      have hlt := hF4.lt
      clear hb4 HB3 HF3 hr1 hF4 hB4 hb5
      go_wp2_with fail
      clear d0 d1 d2 d3 hlt
      generalize w4.alloc (.cells (fCells 0 0 0 ⟨#[]⟩) 36) = W5 at HB5 HF5 ⊢
      refine (cs _).mono ?_
      rintro e w6 ⟨rfl, hb6⟩
      have HB6 := hide (HB5.out.trans (hb6.mono HB5.out.size))
      have HF6 := hide (HF5.out.below hb6)
      obtain ⟨d0, d1, d2, d3⟩ := HF6.out.cells
      clear hb6 HB5 HF5 cs
      go_wp2_with fail
      clear d0 d1 d2 d3
      refine (cok _).mono ?_
      rintro e w7 ⟨rfl, hb7⟩
      have HB7 := hide (HB6.out.trans (hb7.mono HB6.out.size))
      clear hb7 HB6 HF6 cok
      go_wp2_with fail
      refine (draw_ReadFilter w _ a len cap HC.out hl HB7.out).mono ?_
      rintro e w8 ⟨u, rfl, hu, hb8⟩
      have HB8 := hide (HB7.out.trans (hb8.mono HB7.out.size))
      obtain ⟨v2, hR2⟩ := rf_total u
      obtain ⟨k2, s2, p2, b2, ok2, rfl⟩ := rf_shapeT hR2
      have ci := fun wx => impl_ReadFilter u (by omega) hR2 wx
      have cs2 := fun wx => spec_ReadFilter u (by omega) hR2 wx
      have HRF := hide hR2
      clear hR2 hb8 HB7
      go_wp2_with fail
      refine (ci _).mono ?_
      rintro e w9 ⟨rfl, hb9⟩
      have hB9 := HB8.out.trans (hb9.mono HB8.out.size)
      have hb10 := (Below.refl w9.heap.size w9).alloc (Nat.le_refl _) (.cells (fCells k2 s2 p2 b2) 36)
      have HB10 := hide (hB9.trans (hb10.mono hB9.size))
      have HF10 := hide (FAt.new w9 k2 s2 p2 b2)
      clear hb9 hB9 hb10 HB8 ci
      go_wp2_with fail
      generalize w9.alloc (.cells (fCells k2 s2 p2 b2) 36) = W10 at HB10 HF10 ⊢
      refine (cs2 _).mono ?_
      rintro e w11 ⟨rfl, hb11⟩
      have hB11 := HB10.out.trans (hb11.mono HB10.out.size)
      have hF11 := HF10.out.below hb11
      have hb12 := (Below.refl w11.heap.size w11).alloc (Nat.le_refl _) (.cells (fCells k2 s2 p2 b2) 36)
      have HB12 := hide (hB11.trans (hb12.mono hB11.size))
      obtain ⟨d0, d1, d2, d3⟩ := hF11.cells
      have hlt := hF11.lt
      clear hb11 hB11 hb12 HB10 HF10 cs2 hF11
      cases ok2 with
      | false =>
        clear HRF
        go_wp2
        go_ret
        exact ⟨rfl, HB12.out⟩
      | true =>
        obtain ⟨hft, hfo⟩ := rf_back HRF.out
        have hb2z := (filterOk_bd hfo).2.2.2.2.2.2
        have ct2 := fun wx => hft ▸ impl_FilterText k2 s2 p2 b2 (by unfold maxLen; omega) wx
        clear HRF hft hfo hb2z
        go_wp2_with fail
        refine (ct2 _).mono ?_
        rintro e w13 ⟨rfl, hb13⟩
        have HB13 := hide (HB12.out.trans (hb13.mono HB12.out.size))
        clear hb13 HB12 ct2 d0 d1 d2 d3
        go_wp2
        go_ret
        exact ⟨rfl, HB13.out⟩

end Go.Proofs.Ytonkjdjancnajac
