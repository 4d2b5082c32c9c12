/- What the law on filters' texts draws: a filter, a text of one. -/
import Derived.Test.YtonkjdjancnajacDrawFil
import Derived.Test.YtonkjdjancnajacFTextM
namespace Go.Proofs.Ytonkjdjancnajac
set_option maxRecDepth 100000
open Go.RowKit Go.Deep

set_option maxHeartbeats 2000000 in
set_option maxRecDepth 100000 in
theorem draw_FilterText (W w : World) (a : Option Addr) (len cap : Nat) (hc : IsCode W a len) (hl : len ≤ 1048576) (hb : Below W.heap.size W w) :
    Calls Try.prog 15 #[.slice a len cap] w fun e w' => ∃ (k s p : Int) (b : ByteArray), e = .returned (.agg #[.int .i64 k, .int .i64 s, .int .i64 p, .string b]) ∧ b.size ≤ 1003 ∧ Below w.heap.size w w' := by
  have hle : w.heap.size ≤ w.heap.size := Nat.le_refl _
  have hb0 := (Below.refl w.heap.size w).alloc (Nat.le_refl _) (.cells (fCells 0 0 0 ⟨#[]⟩) 36)
  have hbW := hb.alloc hb.size (.cells (fCells 0 0 0 ⟨#[]⟩) 36)
  have HT0 := hide (FAt.new w 0 0 0 ⟨#[]⟩)
  have hlt0 : w.heap.size < (w.alloc (.cells (fCells 0 0 0 ⟨#[]⟩) 36)).heap.size := by simp
  go_enter Try.func15, Try.ntmps15
  go_wp2_with fail
  generalize w.alloc (.cells (fCells 0 0 0 ⟨#[]⟩) 36) = W0 at HT0 hb0 hbW hlt0 ⊢
  refine (open_rdB _ a len cap W hbW).mono ?_
  rintro e w1 ⟨rfl, hr, hb1⟩
  have hT1 := HT0.out.below hb1
  have hB1 := hb0.trans (hb1.mono hb0.size)
  have hglt := hr.lt
  go_wp2_with fail
  refine (rd_filter W _ _ a len cap hc hl hr).mono ?_
  rintro e w2 ⟨k, s, p, b, rfl, hbz, hr2, hm2⟩
  have hT2 := hT1.mv hm2 (by omega)
  have HB2 := hide (hB1.trans (hm2.below hB1.size (by omega)))
  have HBZ := hide hbz
  obtain ⟨k0, k1, k2, k3⟩ := hT2.cells
  have f0 : w2.frozen? ⟨w.heap.size, 0, none⟩ = false := frozen_of_row _ _ _ _ _ hT2
  have f1 : w2.frozen? ⟨w.heap.size, 1, none⟩ = false := frozen_of_row _ _ _ _ _ hT2
  have f2 : w2.frozen? ⟨w.heap.size, 2, none⟩ = false := frozen_of_row _ _ _ _ _ hT2
  have f3 : w2.frozen? ⟨w.heap.size, 3, none⟩ = false := frozen_of_row _ _ _ _ _ hT2
  obtain ⟨c0, c1, c2, c3⟩ := (hT2.set k s p b).cells
  have C0 := hide c0
  have C1 := hide c1
  have C2 := hide c2
  have C3 := hide c3
  clear c0 c1 c2 c3 hT1 hT2 hB1 hb1 hr hr2 hm2 hbz HT0 hb0 hbW hlt0 hglt
  go_wp2
  refine bodyPost_ret (v := .agg #[.int .i64 k, .int .i64 s, .int .i64 p, .string b]) (by simp [results, Try.results15, go_sem, C0.out, C1.out, C2.out, C3.out]) rfl ?_
  exact ⟨k, s, p, b, rfl, HBZ.out, (((HB2.out.setCell hle _).setCell hle _).setCell hle _).setCell hle _⟩

set_option maxHeartbeats 4000000 in
set_option maxRecDepth 100000 in
theorem draw_ReadFilter (W w : World) (a : Option Addr) (len cap : Nat) (hc : IsCode W a len) (hl : len ≤ 1048576) (hb : Below W.heap.size W w) :
    Calls Try.prog 20 #[.slice a len cap] w fun e w' => ∃ u : ByteArray, e = .returned (.string u) ∧ u.size ≤ 1100 ∧ Below w.heap.size w w' := by
  go_enter Try.func20, Try.ntmps20
  go_wp2_with fail
  refine (open_rdB _ a len cap W hb).mono ?_
  rintro e w1 ⟨rfl, hr, hb1⟩
  obtain ⟨g, hg⟩ : ∃ g, w.heap.size = g := ⟨_, rfl⟩
  rw [hg] at hr ⊢
  have hwg : w.heap.size ≤ g := by omega
  have HB1 := hide hb1
  rw [hg] at HB1
  clear hb1 hwg
  go_wp2_with fail
  refine (rd_filter W _ _ a len cap hc hl hr).mono ?_
  rintro e w2 ⟨k, s, p, b, rfl, hbz, hr2, hm2⟩
  have HB2 := hide (HB1.out.trans (hm2.below (by have := HB1.out.size; omega) (Nat.le_refl _)))
  have HR2 := hide hr2
  have hfz := filterText_size k s p b
  have cf := fun wx => spec_FilterText k s p b (by unfold maxLen; omega) wx
  clear hr hr2 hm2 HB1
  generalize filterText k s p b = t at hfz cf
  have ht : t.size ≤ 1043 := by omega
  clear hfz
  go_wp2_with fail
  refine (cf _).mono ?_
  rintro e w3 ⟨rfl, hb3⟩
  have hlt2 := HR2.out.lt
  have HR3 := hide (HR2.out.keep hb3 hlt2)
  have HB3 := hide (HB2.out.trans (hb3.mono (by omega)))
  clear cf hb3 HR2 HB2
  go_wp2_with fail
  refine (rd_below W _ _ a len cap 6 (by omega) (by omega) hc hl HR3.out).mono ?_
  rintro e w4 ⟨x, rfl, hx0, hx1, hr4, hm4⟩
  have hz3 : g ≤ w3.heap.size := (by have := HB3.out.size; omega)
  have HB4 := hide (HB3.out.trans (hm4.below (by have := HB3.out.size; omega) (Nat.le_refl _)))
  have HR4 := hide hr4
  clear hr4 hm4 HB3 HR3 hz3
  have hz4 : g ≤ w4.heap.size := (by have := HB4.out.size; omega)
  have hxc : x = 0 ∨ x = 1 ∨ x = 2 ∨ 3 ≤ x := by omega
  rcases hxc with rfl | rfl | rfl | hx3
  · go_wp2_with fail
    refine (rd_bytes W _ _ a len cap 2 (by omega) (by omega) hc hl HR4.out).mono ?_
    rintro e w5 ⟨u, rfl, hu, hr5, hm5⟩
    have HB5 := hide (HB4.out.trans (hm5.below (by have := HB4.out.size; omega) (Nat.le_refl _)))
    have hu2 : u.size ≤ 2 := by omega
    have hj : (t ++ u).size ≤ 1100 := by rw [ByteArray.size_append]; omega
    have HJ := hide hj
    have hsum : t.size + u.size ≤ 9223372036854775807 := by omega
    clear hj hr5 hm5 HB4 HR4
    go_wp2
    go_ret
    exact ⟨t ++ u, rfl, HJ.out, hg ▸ HB5.out⟩
  · go_wp2_with fail
    refine (rd_bytes W _ _ a len cap 9 (by omega) (by omega) hc hl HR4.out).mono ?_
    rintro e w5 ⟨u, rfl, hu, hr5, hm5⟩
    have HB5 := hide (HB4.out.trans (hm5.below (by have := HB4.out.size; omega) (Nat.le_refl _)))
    clear hr5 hm5 HB4 HR4
    go_wp2
    go_ret
    exact ⟨u, rfl, by omega, hg ▸ HB5.out⟩
  · by_cases ht0 : t.size = 0
    · have hti : ¬ (0 : Int) < (t.size : Int) := by omega
      clear HR4
      go_wp2
      go_ret
      exact ⟨t, rfl, by omega, hg ▸ HB4.out⟩
    · have hti : (0 : Int) < (t.size : Int) := by omega
      go_wp2_with fail
      refine (rd_below W _ _ a len cap t.size (by omega) (by omega) hc hl HR4.out).mono ?_
      rintro e w5 ⟨x, rfl, hx0, hx1, hr5, hm5⟩
      obtain ⟨c, rfl⟩ := Int.eq_ofNat_of_zero_le hx0
      have HB5 := hide (HB4.out.trans (hm5.below (by have := HB4.out.size; omega) (Nat.le_refl _)))
      have hct : c < t.size := by omega
      have hz5 : g ≤ w5.heap.size := (by have := HB5.out.size; omega)
      have hstart : Rd W w5.drew g a len cap ∧ Hid (Below g w w5.drew) := ⟨hr5.drewN 1, HB5.out.drew⟩
      clear hr5 hm5 HB4 HR4
      go_wp2_with fail
      refine wp_region_noPanic ?_
      refine wp_region_held_drew (S := (fun (w' : World) => Rd W w' g a len cap ∧ Hid (Below g w w'))) (by kernel_rfl) hstart (fun hH => ?_)
      clear hstart
      generalize w5.drew = Wd at *
      have hwr : IntKind.i64.wrap ((c : Int) + 1) = (c : Int) + 1 := by first | go_num | (simp [IntKind.wrap, IntKind.signed, IntKind.bits]; omega) | (rw [IntKind.wrap_i64]; omega)
      obtain ⟨t1, ht1⟩ : ∃ t1, t.extract 0 c = t1 := ⟨_, rfl⟩
      obtain ⟨t2, ht2⟩ : ∃ t2, t.extract (c + 1) t.size = t2 := ⟨_, rfl⟩
      have hs1 : t1.size ≤ 1043 := by rw [← ht1]; simp; omega
      have hs2 : t2.size ≤ 1043 - t1.size := by rw [← ht1, ← ht2]; simp; omega
      refine wpAnyH_take (i := 0) (v := .string t) nat0 (by kernel_rfl) (by kernel_rfl) (by kernel_rfl) (fun _ _ _ h => False.elim h) (Or.inl ⟨by rfl, ?_⟩) hH ?_
      · intro wx hSw
        go_simp
      simp only [Act.put, List.setIfInBounds_toArray, List.set_cons_zero, List.set_cons_succ]
      refine wpAnyH_take (i := 1) (v := .int .i64 c) nat1 (by kernel_rfl) (by kernel_rfl) (by kernel_rfl) (fun _ _ _ h => False.elim h) (Or.inl ⟨by rfl, ?_⟩) hH ?_
      · intro wx hSw
        go_simp
      simp only [Act.put, List.setIfInBounds_toArray, List.set_cons_zero, List.set_cons_succ]
      refine wpAnyH_take (i := 2) (v := .string t1) nat2 (by kernel_rfl) (by kernel_rfl) (by kernel_rfl) (fun _ _ _ h => False.elim h) (Or.inl ⟨by rfl, ?_⟩) hH ?_
      · intro wx hSw
        go_simp
        try (intro hh; omega)
      simp only [Act.put, List.setIfInBounds_toArray, List.set_cons_zero, List.set_cons_succ]
      refine wpAnyH_take (i := 3) (v := .pointer (some ⟨g, 0, none⟩)) nat3 (by kernel_rfl) (by kernel_rfl) (by kernel_rfl) (fun _ _ _ h => False.elim h) (Or.inl ⟨by rfl, ?_⟩) hH ?_
      · intro wx hSw
        go_simp
      simp only [Act.put, List.setIfInBounds_toArray, List.set_cons_zero, List.set_cons_succ]
      refine wpAnyH_take (i := 6) (v := .string t) nat6 (by kernel_rfl) (by kernel_rfl) (by kernel_rfl) (fun _ _ _ h => False.elim h) (Or.inl ⟨by rfl, ?_⟩) hH ?_
      · intro wx hSw
        go_simp
      simp only [Act.put, List.setIfInBounds_toArray, List.set_cons_zero, List.set_cons_succ]
      refine wpAnyH_take (i := 7) (v := .int .i64 c) nat7 (by kernel_rfl) (by kernel_rfl) (by kernel_rfl) (fun _ _ _ h => False.elim h) (Or.inl ⟨by rfl, ?_⟩) hH ?_
      · intro wx hSw
        go_simp
      simp only [Act.put, List.setIfInBounds_toArray, List.set_cons_zero, List.set_cons_succ]
      refine wpAnyH_take (i := 8) (v := .int .i64 (c + 1)) nat8 (by kernel_rfl) (by kernel_rfl) (by kernel_rfl) (fun _ _ _ h => False.elim h) (Or.inl ⟨by rfl, ?_⟩) hH ?_
      · intro wx hSw
        go_simp
      simp only [Act.put, List.setIfInBounds_toArray, List.set_cons_zero, List.set_cons_succ]
      refine wpAnyH_take (i := 9) (v := .string t2) nat9 (by kernel_rfl) (by kernel_rfl) (by kernel_rfl) (fun _ _ _ h => False.elim h) (Or.inl ⟨by rfl, ?_⟩) hH ?_
      · intro wx hSw
        go_simp
        try (intro hh; omega)
      simp only [Act.put, List.setIfInBounds_toArray, List.set_cons_zero, List.set_cons_succ]
      refine wpAnyH_ready (rs := [4]) (by kernel_rfl) (by simp) ?_
      refine AllReadyH.cons nat4 (fun K hK => ?_) AllReadyH.nil
      go_simp
      go_at_call 41
      refine (rd_bytes W _ g a len cap 1 (by omega) (by omega) hc hl hH.1).mono ?_
      rintro e w8 ⟨u, rfl, hu, hr8, hm8⟩
      have hS8 : Rd W w8 g a len cap ∧ Hid (Below g w w8) := ⟨hr8, hH.2.out.trans (hm8.below (by have := hH.2.out.size; omega) (Nat.le_refl _))⟩
      refine hK.out _ _ hS8 (fun hH8 => ?_)
      clear hK K hr8 hm8 hH ht1 ht2 hS8
      have hu1 : u.size ≤ 1 := by omega
      have hj1 : t1.size + u.size ≤ 9223372036854775807 := by omega
      obtain ⟨t3, ht3⟩ : ∃ t3, t1 ++ u = t3 := ⟨_, rfl⟩
      have hs3 : t3.size = t1.size + u.size := by rw [← ht3, ByteArray.size_append]
      have hj2 : t3.size + t2.size ≤ 9223372036854775807 := by omega
      obtain ⟨t4, ht4⟩ : ∃ t4, t3 ++ t2 = t4 := ⟨_, rfl⟩
      have hs4 : t4.size = t3.size + t2.size := by rw [← ht4, ByteArray.size_append]
      refine wpAnyH_take (i := 5) (v := .string t3) nat5 (by kernel_rfl) (by kernel_rfl) (by kernel_rfl) (fun _ _ _ h => False.elim h) (Or.inl ⟨by rfl, ?_⟩) hH8 ?_
      · intro wx hSw
        go_simp
        try omega
      simp only [Act.put, List.setIfInBounds_toArray, List.set_cons_zero, List.set_cons_succ]
      refine wpAnyH_take (i := 10) (v := .string t4) nat10 (by kernel_rfl) (by kernel_rfl) (by kernel_rfl) (fun _ _ _ h => False.elim h) (Or.inl ⟨by rfl, ?_⟩) hH8 ?_
      · intro wx hSw
        go_simp
        try omega
      simp only [Act.put, List.setIfInBounds_toArray, List.set_cons_zero, List.set_cons_succ]
      refine wpAnyH_take (i := 11) (v := .string t4) nat11 (by kernel_rfl) (by kernel_rfl) (by kernel_rfl) (fun _ _ _ h => False.elim h) (Or.inl ⟨by rfl, ?_⟩) hH8 ?_
      · intro wx hSw
        go_simp
      simp only [Act.put, List.setIfInBounds_toArray, List.set_cons_zero, List.set_cons_succ]
      refine wpAnyH_done (by kernel_rfl) ?_ _
      refine NoPanic.normal ?_
      have HB8 := hide hH8.2.out
      have hz4' : t4.size ≤ 1100 := by omega
      clear hH8 ht3 ht4 hs3 hs4 hj1 hj2
      go_wp2
      go_ret
      exact ⟨t4, rfl, hz4', hg ▸ HB8.out⟩
  · have g0 : (x == 0) = false := by simp; omega
    have g1 : (x == 1) = false := by simp; omega
    have g2 : (x == 2) = false := by simp; omega
    clear HR4
    go_wp2
    go_ret
    exact ⟨t, rfl, by omega, hg ▸ HB4.out⟩

end Go.Proofs.Ytonkjdjancnajac
