/- The law on BatchText. -/
import Derived.Test.YtonkjdjancnajaaBTextS
import Derived.Test.YtonkjdjancnajaaLBatchOk
import Derived.Test.YtonkjdjancnajaaLSeekH
import Derived.Test.YtonkjdjancnajaaNth
import Derived.Deep.RegionHeld3
namespace Go.Proofs.Ytonkjdjancnajaa
set_option maxRecDepth 100000
open Go.RowKit Go.Deep

set_option linter.unusedSimpArgs false in
set_option maxHeartbeats 2000000 in
/-- The last look: the batch is as it came in. -/
theorem walk_BatchText (v : Value) {w : World} (hv : IsBatch w v) (_w : World) :
    Calls Try.prog 4 #[v] w fun e w' => e = .returned (.bool true) ∧ Below w.heap.size w w' := by
  obtain ⟨q, a, len, cap, O, rfl, hl, hS, hs⟩ := hv
  have HS : Hid (OpAt w w.heap.size a len O) := hS
  have hB0 : Below w.heap.size w (w.alloc (.cells #[.int .i64 q, .slice a len cap] 24)) := below1 _ _
  have hK : BoxIs (w.alloc (.cells #[.int .i64 q, .slice a len cap] 24)) w.heap.size #[.int .i64 q, .slice a len cap] 24 := BoxIs.new w _ _ rfl
  clear hS
  go_enter Try.func4, Try.ntmps4
  go_wp2_with fail
  generalize w.alloc (.cells #[.int .i64 q, .slice a len cap] 24) = W at hB0 hK ⊢
  have HB0 : Hid (Below w.heap.size w W) := hB0
  have HK : Hid _ := hK.hid
  have hgW := hK.lt
  have hSW := (HS.out.on hB0 (Nat.le_refl _)).mono hB0.size
  have HSW : Hid (OpAt W W.heap.size a len O) := hSW
  refine (laws_szBatch q a len cap O _ W hl hs (by omega) (by omega) hSW).mono ?_
  rintro e w1 ⟨⟨r, rfl, hr⟩, hB1⟩
  have HB1 : Hid (Below W.heap.size W w1) := hB1
  clear hs hB0 hK hSW hB1
  rcases hr with hr | ⟨hr0, hr1, hl2⟩
  · go_wp2
    go_ret
    exact ⟨rfl, HB0.out.trans (HB1.out.mono HB0.out.size)⟩
  · have hl3 : len ≤ 1048576 := by omega
    have hr0' : ¬ (r < 0) := by omega
    have k1 := HK.out.below HB1.out hgW
    have k10 : w1.cell? ⟨w.heap.size, 0, none⟩ = some (.int .i64 q) := k1.cell 0
    have k11 : w1.cell? ⟨w.heap.size, 1, none⟩ = some (.slice a len cap) := k1.cell 1
    clear k1
    go_wp2_with fail
    clear k10 k11
    refine (laws_toBatch q a len cap O w1 hl3 ((HSW.out.on HB1.out (Nat.le_refl _)).mono HB1.out.size)).mono ?_
    rintro e w2 ⟨g1, rfl, hg1, hrow1, hB2⟩
    have HB2 : Hid (Below W.heap.size W w2) := HB1.out.trans (hB2.mono HB1.out.size)
    clear hB2 HB1
    go_wp2_with fail
    refine (spec_BatchText q _ len len O w2 hl3 (opAt_row hrow1 hrow1.lt)).mono ?_
    rintro e w3 ⟨rfl, hB3⟩
    have HB3 : Hid (Below W.heap.size W w3) := HB2.out.trans (hB3.mono HB2.out.size)
    clear hB3 HB2 hrow1
    have k3 := HK.out.below HB3.out hgW
    have k30 : w3.cell? ⟨w.heap.size, 0, none⟩ = some (.int .i64 q) := k3.cell 0
    have k31 : w3.cell? ⟨w.heap.size, 1, none⟩ = some (.slice a len cap) := k3.cell 1
    clear k3
    go_wp2_with fail
    clear k30 k31
    refine (laws_toBatch q a len cap O w3 hl3 ((HSW.out.on HB3.out (Nat.le_refl _)).mono HB3.out.size)).mono ?_
    rintro e w4 ⟨g2, rfl, hg2, hrow2, hB4⟩
    have HB4 : Hid (Below W.heap.size W w4) := HB3.out.trans (hB4.mono HB3.out.size)
    have HR4 := hidRowB hrow2
    have hz4 := hrow2.lt
    have hb5 := (Below.refl w4.heap.size w4).alloc (Nat.le_refl _) (.cells #[.int .i64 q, .slice (some ⟨g2, 0, none⟩) len len] 29)
    have hx5 := BoxIs.new w4 #[.int .i64 q, .slice (some ⟨g2, 0, none⟩) len len] 29 rfl
    clear hB4 HB3 hrow2
    go_wp2_with fail
    generalize w4.alloc (.cells #[.int .i64 q, .slice (some ⟨g2, 0, none⟩) len len] 29) = W5 at hb5 hx5 ⊢
    have HB5 : Hid (Below W.heap.size W W5) := HB4.out.trans (hb5.mono HB4.out.size)
    have HR5 := hidRowB (entRow_below HR4.out hb5 hz4)
    have HX5 : Hid _ := hx5.hid
    have hx5l := hx5.lt
    clear hb5 hx5 HB4 HR4
    refine (impl_BatchText q _ len len O W5 hl3 (opAt_row HR5.out (by omega))).mono ?_
    rintro e w6 ⟨rfl, hB6⟩
    have HB6 : Hid (Below W.heap.size W w6) := HB5.out.trans (hB6.mono HB5.out.size)
    have HR6 := hidRowB (entRow_below HR5.out hB6 (by omega))
    have hx6 := HX5.out.next hB6
    have hz6 := hB6.size
    have k6 := HK.out.below HB6.out hgW
    have hstart : w6.drew.cell? ⟨w.heap.size, 0, none⟩ = some (.int .i64 q) ∧ w6.drew.cell? ⟨w.heap.size, 1, none⟩ = some (.slice a len cap) ∧ w6.drew.cell? ⟨w4.heap.size, 0, none⟩ = some (.int .i64 q) ∧ w6.drew.cell? ⟨w4.heap.size, 1, none⟩ = some (.slice (some ⟨g2, 0, none⟩) len len) ∧ Hid (Below w6.heap.size w6 w6.drew) :=
      ⟨k6.cell 0, k6.cell 1, hx6.cell 0, hx6.cell 1, (Below.refl _ _).drew⟩
    clear hB6 HB5 HR5 HX5 hx6 k6
    go_wp2_with fail
    refine wp_region_noPanic ?_
    refine wp_region_held_drew (S := fun (w' : World) => w'.cell? ⟨w.heap.size, 0, none⟩ = some (.int .i64 q) ∧ w'.cell? ⟨w.heap.size, 1, none⟩ = some (.slice a len cap) ∧ w'.cell? ⟨w4.heap.size, 0, none⟩ = some (.int .i64 q) ∧ w'.cell? ⟨w4.heap.size, 1, none⟩ = some (.slice (some ⟨g2, 0, none⟩) len len) ∧ Hid (Below w6.heap.size w6 w')) (by kernel_rfl) hstart (fun hHeld => ?_)
    clear hstart
    refine wpAnyH_take (i := 0) (v := .agg #[.int .i64 q, .slice (some ⟨g2, 0, none⟩) len len]) nat0 (by kernel_rfl) (by kernel_rfl) (by kernel_rfl) (fun _ _ _ h => False.elim h) (Or.inl ⟨by rfl, ?_⟩) hHeld ?_
    · intro wx hSw
      go_simp
    simp only [Act.put, List.setIfInBounds_toArray, List.set_cons_zero, List.set_cons_succ]
    refine wpAnyH_take (i := 1) (v := .agg #[.int .i64 q, .slice a len cap]) nat1 (by kernel_rfl) (by kernel_rfl) (by kernel_rfl) (fun _ _ _ h => False.elim h) (Or.inl ⟨by rfl, ?_⟩) hHeld ?_
    · intro wx hSw
      go_simp
    simp only [Act.put, List.setIfInBounds_toArray, List.set_cons_zero, List.set_cons_succ]
    refine wpAnyH_ready (rs := [2]) (by kernel_rfl) (by simp) ?_
    refine AllReadyH.cons nat2 (fun K hK => ?_) AllReadyH.nil
    go_simp
    go_at_call 11
    have hq6 := HB6.out.size
    have hW7 := HB6.out.trans (hHeld.2.2.2.2.out.mono HB6.out.size)
    refine (laws_toBatch q a len cap O _ hl3 ((HSW.out.on hW7 (Nat.le_refl _)).mono hW7.size)).mono ?_
    rintro e w8 ⟨g3, rfl, hg3, hrow3, hb8⟩
    have HR8 := hidRowB hrow3
    have HR8' := hidRowB (entRow_below (entRow_below HR6.out hHeld.2.2.2.2.out (by omega)) hb8 (by have := hHeld.2.2.2.2.out.size; omega))
    refine hK.out _ _ (two_keep (by omega) (by omega) _ _ hHeld hb8) (fun hHeld2 => ?_)
    clear hK K hHeld hW7 hb8 hrow3
    refine wpAnyH_ready (rs := [3]) (by kernel_rfl) (by simp) ?_
    refine AllReadyH.cons nat3 (fun K hK => ?_) AllReadyH.nil
    go_simp
    go_at_call 13
    refine (laws_eqBatch q _ _ len len len O _ hl3 (opAt_row HR8'.out HR8'.out.lt) (opAt_row HR8.out HR8.out.lt)).mono ?_
    rintro e w9 ⟨rfl, hb9⟩
    refine hK.out _ _ (two_keep (by omega) (by omega) _ _ hHeld2 hb9) (fun hHeld3 => ?_)
    clear hK K hHeld2 hb9
    refine wpAnyH_take (i := 4) (v := .bool false) nat4 (by kernel_rfl) (by kernel_rfl) (by kernel_rfl) (fun _ _ _ h => False.elim h) (Or.inl ⟨by rfl, ?_⟩) hHeld3 ?_
    · intro wx hSw
      go_simp
    simp only [Act.put, List.setIfInBounds_toArray, List.set_cons_zero, List.set_cons_succ]
    refine wpAnyH_done (by kernel_rfl) ?_ _
    refine NoPanic.normal ?_
    have HB9 : Hid (Below W.heap.size W w9) := HB6.out.trans (hHeld3.2.2.2.2.out.mono HB6.out.size)
    clear hHeld3 HR8 HR8'
    go_wp2
    go_ret
    exact ⟨rfl, HB0.out.trans (HB9.out.mono HB0.out.size)⟩

end Go.Proofs.Ytonkjdjancnajaa
