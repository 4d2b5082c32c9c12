/- The law on SeekEntry. -/
import Derived.Test.YtdiglhphoplplacSeekI
import Derived.Test.YtdiglhphoplplacLEntsOk
namespace Go.Proofs.Ytdiglhphoplplac
open Go.RowKit Go.Deep

theorem hidRow {w : World} {g n : Nat} {t : TypeId} {f : Nat → Value} (h : w.rowIs g t n f) : Hid (w.rowIs g t n f) := h

theorem three_keep {w0 : World} {g : Nat} {y0 y1 y2 : Value} (hg : g < w0.heap.size) (wa wb : World)
    (h : wa.cell? ⟨g, 0, none⟩ = some y0 ∧ wa.cell? ⟨g, 1, none⟩ = some y1 ∧ wa.cell? ⟨g, 2, none⟩ = some y2 ∧ Hid (Below w0.heap.size w0 wa)) (hx : Below wa.heap.size wa wb) :
    wb.cell? ⟨g, 0, none⟩ = some y0 ∧ wb.cell? ⟨g, 1, none⟩ = some y1 ∧ wb.cell? ⟨g, 2, none⟩ = some y2 ∧ Hid (Below w0.heap.size w0 wb) := by
  obtain ⟨d0, d1, d2, hB⟩ := h
  have h2 : g < wa.heap.size := Nat.lt_of_lt_of_le hg hB.size
  exact ⟨(hx.cell (p := ⟨g, _, none⟩) h2).trans d0, (hx.cell (p := ⟨g, _, none⟩) h2).trans d1, (hx.cell (p := ⟨g, _, none⟩) h2).trans d2, hB.trans (hx.mono hB.size)⟩

set_option linter.unusedSimpArgs false in
set_option maxHeartbeats 2000000 in
set_option maxRecDepth 100000 in
theorem walk_SeekEntry (v : Value) {w : World} (hv : IsEnts w v) (v2 : Value) (hv2 : IsKey v2) (_w : World) :
    Calls Try.prog 6 #[v, v2] w fun e w' => e = .returned (.bool true) ∧ Below w.heap.size w w' := by
  obtain ⟨a, len, cap, E, rfl, hl, hS, hs⟩ := hv
  obtain ⟨u, q, k, rfl, hu, _, _⟩ := hv2
  have hB0 : Below w.heap.size w (w.alloc (.cells #[.string u, .int .i64 q, .int .i64 k] 43)) := below1 _ _
  have K0 : (w.alloc (.cells #[.string u, .int .i64 q, .int .i64 k] 43)).cell? ⟨w.heap.size, 0, none⟩ = some (.string u) := by simp
  have K1 : (w.alloc (.cells #[.string u, .int .i64 q, .int .i64 k] 43)).cell? ⟨w.heap.size, 1, none⟩ = some (.int .i64 q) := by simp
  have K2 : (w.alloc (.cells #[.string u, .int .i64 q, .int .i64 k] 43)).cell? ⟨w.heap.size, 2, none⟩ = some (.int .i64 k) := by simp
  have hz0 : (w.alloc (.cells #[.string u, .int .i64 q, .int .i64 k] 43)).heap.size = w.heap.size + 1 := by simp
  have HS : Hid (EntAt (w.alloc (.cells #[.string u, .int .i64 q, .int .i64 k] 43)) (w.alloc (.cells #[.string u, .int .i64 q, .int .i64 k] 43)).heap.size a len E) := (hS.below hB0).mono hB0.size
  clear hS
  go_enter Try.func6, Try.ntmps6
  go_wp2_with fail
  generalize w.alloc (.cells #[.string u, .int .i64 q, .int .i64 k] 43) = w0 at hB0 K0 K1 K2 hz0 HS ⊢
  have HB0 : Hid (Below w.heap.size w w0) := hB0
  have hgz : w.heap.size < w0.heap.size := by omega
  have HK : Hid (w0.cell? ⟨w.heap.size, 0, none⟩ = some (.string u) ∧ w0.cell? ⟨w.heap.size, 1, none⟩ = some (.int .i64 q) ∧ w0.cell? ⟨w.heap.size, 2, none⟩ = some (.int .i64 k)) := ⟨K0, K1, K2⟩
  clear hB0 K0 K1 K2 hz0
  refine (laws_szEntryS a len cap E _ w0 hl hs (by omega) (by omega) HS.out).mono ?_
  rintro e w1 ⟨⟨r, rfl, hr⟩, hB1⟩
  have HB1 : Hid (Below w0.heap.size w0 w1) := hB1
  clear hB1 hs
  rcases hr with hr | ⟨hr0, hr1, hl2⟩
  · go_wp2
    go_ret
    exact ⟨rfl, HB0.out.trans (HB1.out.mono HB0.out.size)⟩
  · have hl3 : len ≤ 1048576 := by omega
    have hr0' : ¬ (r < 0) := by omega
    have k0 := (HB1.out.cell (p := ⟨w.heap.size, 0, none⟩) hgz).trans HK.out.1
    have k1 := (HB1.out.cell (p := ⟨w.heap.size, 1, none⟩) hgz).trans HK.out.2.1
    have k2 := (HB1.out.cell (p := ⟨w.heap.size, 2, none⟩) hgz).trans HK.out.2.2
    by_cases hbig : r < (u.size : Int)
    · go_wp2_with fail
      refine (laws_szKey u q k r hu ⟨hr0, by omega⟩ _).mono ?_
      rintro e w2 ⟨rfl, hB2⟩
      have HB2 : Hid (Below w0.heap.size w0 w2) := HB1.out.trans (hB2.mono HB1.out.size)
      clear hB2 k0 k1 k2
      go_wp2
      go_ret
      exact ⟨rfl, HB0.out.trans (HB2.out.mono HB0.out.size)⟩
    · have hx : ¬ (r - (u.size : Int) < 0) := by omega
      go_wp2_with fail
      refine (laws_szKey u q k r hu ⟨hr0, by omega⟩ _).mono ?_
      rintro e w2 ⟨rfl, hB2⟩
      have HB2 : Hid (Below w0.heap.size w0 w2) := HB1.out.trans (hB2.mono HB1.out.size)
      clear hB2 k0 k1 k2
      have hstart : w2.drew.cell? ⟨w.heap.size, 0, none⟩ = some (.string u) ∧ w2.drew.cell? ⟨w.heap.size, 1, none⟩ = some (.int .i64 q) ∧ w2.drew.cell? ⟨w.heap.size, 2, none⟩ = some (.int .i64 k) ∧ Hid (Below w0.heap.size w0 w2.drew) := ⟨(HB2.out.cell (p := ⟨w.heap.size, 0, none⟩) hgz).trans HK.out.1, (HB2.out.cell (p := ⟨w.heap.size, 1, none⟩) hgz).trans HK.out.2.1, (HB2.out.cell (p := ⟨w.heap.size, 2, none⟩) hgz).trans HK.out.2.2, HB2.out.drew⟩
      go_wp2_with fail
      refine wp_region_noPanic ?_
      refine wp_region_held_drew (S := fun (w' : World) => w'.cell? ⟨w.heap.size, 0, none⟩ = some (.string u) ∧ w'.cell? ⟨w.heap.size, 1, none⟩ = some (.int .i64 q) ∧ w'.cell? ⟨w.heap.size, 2, none⟩ = some (.int .i64 k) ∧ Hid (Below w0.heap.size w0 w')) (by kernel_rfl) hstart (fun hHeld => ?_)
      clear hstart
      refine wpAnyH_take (i := 0) (v := .slice a len cap) nth0 (by kernel_rfl) (by kernel_rfl) (by kernel_rfl) (fun _ _ _ h => False.elim h) (Or.inl ⟨by rfl, ?_⟩) hHeld ?_
      · intro wx hSw
        go_simp
      simp only [Act.put, List.setIfInBounds_toArray, List.set_cons_zero, List.set_cons_succ]
      refine wpAnyH_take (i := 2) (v := .agg #[.string u, .int .i64 q, .int .i64 k]) nth2 (by kernel_rfl) (by kernel_rfl) (by kernel_rfl) (fun _ _ _ h => False.elim h) (Or.inl ⟨by rfl, ?_⟩) hHeld ?_
      · intro wx hSw
        go_simp
      simp only [Act.put, List.setIfInBounds_toArray, List.set_cons_zero, List.set_cons_succ]
      refine wpAnyH_ready (rs := [1]) (by kernel_rfl) (by simp) ?_
      refine AllReadyH.cons nth1 (fun K hK => ?_) AllReadyH.nil
      go_simp
      go_at_call 26
      refine (laws_toEntryS a len cap E _ hl3 ((HS.out.below hHeld.2.2.2.out).mono hHeld.2.2.2.out.size)).mono ?_
      rintro e w3 ⟨rfl, hrow1, hb1⟩
      have HR1 := hidRow hrow1
      refine hK.out _ _ (three_keep hgz _ _ hHeld hb1) (fun hHeld2 => ?_)
      clear hK K hHeld
      refine wpAnyH_ready (rs := [3]) (by kernel_rfl) (by simp) ?_
      refine AllReadyH.cons nth3 (fun K hK => ?_) AllReadyH.nil
      go_simp
      go_at_call 27
      refine (laws_toKey u q k _).mono ?_
      rintro e w4 ⟨rfl, hb2⟩
      have HR2 := hidRow (entRow_below HR1.out hb2 HR1.out.lt)
      refine hK.out _ _ (three_keep hgz _ _ hHeld2 hb2) (fun hHeld3 => ?_)
      clear hK K hHeld2
      refine wpAnyH_ready (rs := [4]) (by kernel_rfl) (by simp) ?_
      refine AllReadyH.cons nth4 (fun K hK => ?_) AllReadyH.nil
      go_simp
      go_at_call 22
      refine (spec_SeekEntry _ len len E u q k _ hl3 (entAt_row HR2.out HR2.out.lt)).mono ?_
      rintro e w5 ⟨⟨r1, rfl, hr1⟩, hb3⟩
      have HS1 : Hid (SeekAt E len u q k r1) := hr1
      refine hK.out _ _ (three_keep hgz _ _ hHeld3 hb3) (fun hHeld4 => ?_)
      clear hK K hHeld3
      refine wpAnyH_take (i := 5) (v := .int .i64 r1) nth5 (by kernel_rfl) (by kernel_rfl) (by kernel_rfl) (fun _ _ _ h => False.elim h) (Or.inl ⟨by rfl, ?_⟩) hHeld4 ?_
      · intro wx hSw
        go_simp
      simp only [Act.put, List.setIfInBounds_toArray, List.set_cons_zero, List.set_cons_succ]
      refine wpAnyH_done (by kernel_rfl) ?_ _
      refine NoPanic.normal ?_
      have HB5 : Hid (Below w0.heap.size w0 w5) := hHeld4.2.2.2
      clear hHeld4 hb1 hb2 hb3 hrow1 HR1 HR2
      go_wp2_with fail
      refine (laws_toEntryS a len cap E _ hl3 ((HS.out.below HB5.out).mono HB5.out.size)).mono ?_
      rintro e w6 ⟨rfl, hrow3, hB6⟩
      have HB6 : Hid (Below w0.heap.size w0 w6) := HB5.out.trans (hB6.mono HB5.out.size)
      have HR3 := hidRow hrow3
      have l0 := (HB6.out.cell (p := ⟨w.heap.size, 0, none⟩) hgz).trans HK.out.1
      have l1 := (HB6.out.cell (p := ⟨w.heap.size, 1, none⟩) hgz).trans HK.out.2.1
      have l2 := (HB6.out.cell (p := ⟨w.heap.size, 2, none⟩) hgz).trans HK.out.2.2
      clear hB6 hrow3
      go_wp2_with fail
      refine (laws_toKey u q k _).mono ?_
      rintro e w7 ⟨rfl, hB7⟩
      have HB7 : Hid (Below w0.heap.size w0 w7) := HB6.out.trans (hB7.mono HB6.out.size)
      have HR4 := hidRow (entRow_below HR3.out hB7 HR3.out.lt)
      clear hB7 l0 l1 l2
      go_wp2_with fail
      refine (impl_SeekEntry _ len len E u q k _ hl3 (entAt_row HR4.out HR4.out.lt)).mono ?_
      rintro e w8 ⟨⟨r2, rfl, hr2⟩, hB8⟩
      have HB8 : Hid (Below w0.heap.size w0 w8) := HB7.out.trans (hB8.mono HB7.out.size)
      have HR5 := hidRow (entRow_below HR4.out hB8 HR4.out.lt)
      obtain rfl := seekAt_one HS1.out hr2
      clear hB8 hr2
      go_wp2_with fail
      refine (laws_toEntryS a len cap E _ hl3 ((HS.out.below HB8.out).mono HB8.out.size)).mono ?_
      rintro e w9 ⟨rfl, hrow6, hB9⟩
      have HB9 : Hid (Below w0.heap.size w0 w9) := HB8.out.trans (hB9.mono HB8.out.size)
      have HR6 := hidRow (entRow_below HR5.out hB9 HR5.out.lt)
      have HR7 := hidRow hrow6
      clear hB9 hrow6
      go_wp2_with fail
      refine (laws_eqEntryS _ _ len len len E w9 hl3 (entAt_row HR6.out HR6.out.lt) (entAt_row HR7.out HR7.out.lt)).mono ?_
      rintro e w10 ⟨rfl, hB10⟩
      have HB10 : Hid (Below w0.heap.size w0 w10) := HB9.out.trans (hB10.mono HB9.out.size)
      clear hB10
      go_wp2
      go_ret
      exact ⟨rfl, HB0.out.trans (HB10.out.mono HB0.out.size)⟩

end Go.Proofs.Ytdiglhphoplplac
