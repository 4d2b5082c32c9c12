/- What the laws on blocks draw: the bytes of a block, some of them hurt. -/
import Derived.Test.YtljmfdcilnbjaacDrawBlk
import Derived.Test.YtljmfdcilnbjaacReg
namespace Go.Proofs.Ytljmfdcilnbjaac
set_option maxRecDepth 100000
open Go.RowKit Go.Deep

theorem blkR_size (E : Ents) (n : Nat) (ev : Int) : (blkR E n ev).size ≤ 60000 := by
  unfold blkR
  split
  · rename_i h
    unfold blkOk at h
    rw [Bool.and_eq_true, decide_eq_true_iff] at h
    exact h.2
  · exact Nat.zero_le _

def RbE (W w : World) (g : Nat) (a : Option Addr) (len cap : Nat) (e : Ending) (w' : World) : Prop := ∃ t : ByteArray, e = .returned (.string t) ∧ t.size ≤ 60100 ∧ Rd W w' g a len cap ∧ Mv g w w'
theorem RbE.mk' {W w w' : World} {g : Nat} {a : Option Addr} {len cap : Nat} {t : ByteArray} (ht : t.size ≤ 60100) (hr : Rd W w' g a len cap) (hm : Mv g w w') : RbE W w g a len cap (.returned (.string t)) w' := ⟨t, rfl, ht, hr, hm⟩

theorem below_mv {g : Nat} {w a b : World} (h : Mv g w a) (hb : Below a.heap.size a b) : Mv g w b := h.trans (Mv.of_below hb)

set_option maxHeartbeats 2000000 in
theorem rd_block (W w : World) (g : Nat) (a : Option Addr) (len cap : Nat) (hc : IsCode W a len) (hl : len ≤ 1048576) (h : Rd W w g a len cap) :
    Calls Try.prog 35 #[.pointer (some ⟨g, 0, none⟩)] w fun e w' => RbE W w g a len cap e w' := by
  have hg := h.lt
  go_enter Try.func35, Try.ntmps35
  go_wp2_with fail
  refine (rd_entries W _ _ a len cap 9 (by omega) (by omega) hc hl h).mono ?_
  rintro e w1 ⟨gE, capE, es, rfl, hn, hsz, hown, hr1, hm1⟩
  have HO1 := hide hown
  have HR1 := hide hr1
  have HM1 := hide hm1
  have hn' : es.length ≤ 10 := by omega
  clear hown hr1 hm1 hn hsz
  go_wp2_with fail
  refine (rd_below W _ _ a len cap 5 (by omega) (by omega) hc hl HR1.out).mono ?_
  rintro e w2 ⟨x, rfl, hx0, hx1, hr2, hm2⟩
  have HE2 := hide (HO1.out.mv hm2 hg).entAt
  have HR2 := hide hr2
  have HM2 := hide (HM1.out.trans hm2)
  clear hr2 hm2 HO1 HR1 HM1
  have cb := fun ev wx hx => spec_BlockOf (some ⟨gE, 0, none⟩) es.length capE (entsOf es) ev wx (by omega) hx
  have cb1 := cb (1 + x)
  have hsz := blkR_size (entsOf es) es.length (1 + x)
  generalize blkR (entsOf es) es.length (1 + x) = s at *
  generalize blkOk (entsOf es) es.length (1 + x) = ok at *
  clear cb
  go_wp2_with fail
  refine (cb1 _ HE2.out).mono ?_
  rintro e w3 ⟨rfl, hb3⟩
  have HR3 := hide (HR2.out.keep hb3 HR2.out.lt)
  have HM3 := hide (below_mv HM2.out hb3)
  clear hb3 cb1 HE2 HR2 HM2
  go_wp2_with fail
  refine (rd_below W _ _ a len cap 8 (by omega) (by omega) hc hl HR3.out).mono ?_
  rintro e w4 ⟨y, rfl, hy0, hy1, hr4, hm4⟩
  have HR4 := hide hr4
  have HM4 := hide (HM3.out.trans hm4)
  clear hr4 hm4 HR3 HM3 hx0 hx1 hn'
  by_cases y0 : y = 0
  · subst y0
    go_wp2_with fail
    refine (rd_bytes W _ _ a len cap 2 (by omega) (by omega) hc hl HR4.out).mono ?_
    rintro e w5 ⟨b, rfl, hb, hr5, hm5⟩
    have HR5 := hide hr5
    have HM5 := hide (HM4.out.trans hm5)
    have hadd : ∀ wx : World, (Op.stringOp .add s b).run Try.prog wx = .ok (.string (s ++ b)) wx := fun wx => run_string_add_sum wx _ _ (by omega)
    have hz : (s ++ b).size ≤ 60100 := by rw [ByteArray.size_append]; omega
    have HZ := hide hz
    generalize s ++ b = t at *
    clear hr5 hm5 HR4 HM4 hz
    go_wp2
    go_ret
    exact RbE.mk' HZ.out HR5.out HM5.out
  · have y0' : (y == 0) = false := by simp [y0]
    by_cases y1 : y = 1
    · subst y1
      by_cases hs0 : s.size = 0
      · have g0 : ¬ (0 : Int) < (s.size : Int) := by omega
        have HZ := hide (show s.size ≤ 60100 by omega)
        clear hs0
        go_wp2
        go_ret
        exact RbE.mk' HZ.out HR4.out HM4.out
      · have g0 : (0 : Int) < (s.size : Int) := by omega
        go_wp2_with fail
        refine (rd_below W _ _ a len cap (s.size : Int) (by omega) (by omega) hc hl HR4.out).mono ?_
        rintro e w5 ⟨i, rfl, hi0, hi1, hr5, hm5⟩
        obtain ⟨i, rfl⟩ := Int.eq_ofNat_of_zero_le hi0
        have HR5 := hide (show Rd W w5.drew g a len cap from hr5.drewN 1)
        have HM5 := hide (show Mv g w w5.drew from (HM4.out.trans hm5).drewN 1)
        have i1 : (i : Int) ≤ (s.size : Int) := by omega
        have i2 : (i : Int) + 1 ≤ (s.size : Int) := by omega
        have hwi : IntKind.i64.wrap ((i : Int) + 1) = (i : Int) + 1 := by rw [IntKind.wrap_i64]; omega
        clear hr5 hm5 HR4 HM4 hi0 hi1
        have hz0 : (s.extract 0 i).size = i := by rw [ByteArray.size_extract]; omega
        have hz1 : (s.extract (i + 1) s.size).size = s.size - (i + 1) := by rw [ByteArray.size_extract]; omega
        go_wp2_with fail
        refine wp_region_noPanic ?_
        refine wp_region_held_drew (S := fun _ => True) (by kernel_rfl) trivial (fun _ => ?_)
        refine wpAnyH_take (i := 0) (v := .string s) nat0 (by kernel_rfl) (by kernel_rfl) (by kernel_rfl) (fun _ _ _ h => False.elim h) (Or.inl ⟨by rfl, ?_⟩) trivial ?_
        · intro wx hSw
          go_simp
        simp only [Act.put, List.setIfInBounds_toArray, List.set_cons_zero, List.set_cons_succ]
        refine wpAnyH_take (i := 1) (v := .int .i64 (i : Int)) nat1 (by kernel_rfl) (by kernel_rfl) (by kernel_rfl) (fun _ _ _ h => False.elim h) (Or.inl ⟨by rfl, ?_⟩) trivial ?_
        · intro wx hSw
          go_simp
        simp only [Act.put, List.setIfInBounds_toArray, List.set_cons_zero, List.set_cons_succ]
        refine wpAnyH_take (i := 2) (v := .string (s.extract 0 i)) nat2 (by kernel_rfl) (by kernel_rfl) (by kernel_rfl) (fun _ _ _ h => False.elim h) (Or.inl ⟨by rfl, ?_⟩) trivial ?_
        · intro wx hSw
          go_simp
        simp only [Act.put, List.setIfInBounds_toArray, List.set_cons_zero, List.set_cons_succ]
        refine wpAnyH_take (i := 3) (v := .pointer (some ⟨g, 0, none⟩)) nat3 (by kernel_rfl) (by kernel_rfl) (by kernel_rfl) (fun _ _ _ h => False.elim h) (Or.inl ⟨by rfl, ?_⟩) trivial ?_
        · intro wx hSw
          go_simp
        simp only [Act.put, List.setIfInBounds_toArray, List.set_cons_zero, List.set_cons_succ]
        refine wpAnyH_take (i := 6) (v := .string s) nat6 (by kernel_rfl) (by kernel_rfl) (by kernel_rfl) (fun _ _ _ h => False.elim h) (Or.inl ⟨by rfl, ?_⟩) trivial ?_
        · intro wx hSw
          go_simp
        simp only [Act.put, List.setIfInBounds_toArray, List.set_cons_zero, List.set_cons_succ]
        refine wpAnyH_take (i := 7) (v := .int .i64 (i : Int)) nat7 (by kernel_rfl) (by kernel_rfl) (by kernel_rfl) (fun _ _ _ h => False.elim h) (Or.inl ⟨by rfl, ?_⟩) trivial ?_
        · intro wx hSw
          go_simp
        simp only [Act.put, List.setIfInBounds_toArray, List.set_cons_zero, List.set_cons_succ]
        refine wpAnyH_take (i := 8) (v := .int .i64 ((i : Int) + 1)) nat8 (by kernel_rfl) (by kernel_rfl) (by kernel_rfl) (fun _ _ _ h => False.elim h) (Or.inl ⟨by rfl, ?_⟩) trivial ?_
        · intro wx hSw
          go_simp
        simp only [Act.put, List.setIfInBounds_toArray, List.set_cons_zero, List.set_cons_succ]
        refine wpAnyH_take (i := 9) (v := .string (s.extract (i + 1) s.size)) nat9 (by kernel_rfl) (by kernel_rfl) (by kernel_rfl) (fun _ _ _ h => False.elim h) (Or.inl ⟨by rfl, ?_⟩) trivial ?_
        · intro wx hSw
          go_simp
          intro hh; omega
        simp only [Act.put, List.setIfInBounds_toArray, List.set_cons_zero, List.set_cons_succ]
        refine wpAnyH_ready (rs := [4]) (by kernel_rfl) (by simp) ?_
        refine AllReadyH.cons nat4 (fun K hK => ?_) AllReadyH.nil
        go_simp
        go_at_call 66
        refine (rd_bytes W _ _ a len cap 1 (by omega) (by omega) hc hl HR5.out).mono ?_
        rintro e wq0 ⟨b, rfl, hb, hr0, hm0⟩
        have H0 := hide hr0
        have HX0 := hide (HM5.out.trans hm0)
        have hadd : ∀ wx : World, (Op.stringOp .add (s.extract 0 i) b).run Try.prog wx = .ok (.string (s.extract 0 i ++ b)) wx := fun wx => run_string_add_sum wx _ _ (by omega)
        have hadd2 : ∀ wx : World, (Op.stringOp .add (s.extract 0 i ++ b) (s.extract (i + 1) s.size)).run Try.prog wx = .ok (.string (s.extract 0 i ++ b ++ s.extract (i + 1) s.size)) wx := fun wx => run_string_add_sum wx _ _ (by rw [ByteArray.size_append]; omega)
        have HZ : Hid ((s.extract 0 i ++ b ++ s.extract (i + 1) s.size).size ≤ 60100) := by show _ ≤ _; rw [ByteArray.size_append, ByteArray.size_append]; omega
        refine hK.out _ _ trivial (fun _ => ?_)
        clear hK K hr0 hm0 HR5 HM5
        refine wpAnyH_take (i := 5) (v := .string (s.extract 0 i ++ b)) nat5 (by kernel_rfl) (by kernel_rfl) (by kernel_rfl) (fun _ _ _ h => False.elim h) (Or.inl ⟨by rfl, ?_⟩) trivial ?_
        · intro wx hSw
          go_simp
        simp only [Act.put, List.setIfInBounds_toArray, List.set_cons_zero, List.set_cons_succ]
        refine wpAnyH_take (i := 10) (v := .string (s.extract 0 i ++ b ++ s.extract (i + 1) s.size)) nat10 (by kernel_rfl) (by kernel_rfl) (by kernel_rfl) (fun _ _ _ h => False.elim h) (Or.inl ⟨by rfl, ?_⟩) trivial ?_
        · intro wx hSw
          go_simp
        simp only [Act.put, List.setIfInBounds_toArray, List.set_cons_zero, List.set_cons_succ]
        refine wpAnyH_take (i := 11) (v := .string (s.extract 0 i ++ b ++ s.extract (i + 1) s.size)) nat11 (by kernel_rfl) (by kernel_rfl) (by kernel_rfl) (fun _ _ _ h => False.elim h) (Or.inl ⟨by rfl, ?_⟩) trivial ?_
        · intro wx hSw
          go_simp
        simp only [Act.put, List.setIfInBounds_toArray, List.set_cons_zero, List.set_cons_succ]
        refine wpAnyH_done (by kernel_rfl) ?_ _
        refine NoPanic.normal ?_
        clear hadd hadd2 hz0 hz1
        generalize s.extract 0 i ++ b ++ s.extract (i + 1) s.size = t at *
        go_wp2
        go_ret
        exact RbE.mk' HZ.out H0.out HX0.out
    · have y1' : (y == 1) = false := by simp [y1]
      by_cases y2 : y = 2
      · subst y2
        go_wp2_with fail
        refine (rd_bytes W _ _ a len cap 20 (by omega) (by omega) hc hl HR4.out).mono ?_
        rintro e w5 ⟨b, rfl, hb, hr5, hm5⟩
        have HR5 := hide hr5
        have HM5 := hide (HM4.out.trans hm5)
        have HZ := hide (show b.size ≤ 60100 by omega)
        clear hr5 hm5 HR4 HM4
        go_wp2
        go_ret
        exact RbE.mk' HZ.out HR5.out HM5.out
      · have y2' : (y == 2) = false := by simp [y2]
        have HZ := hide (show s.size ≤ 60100 by omega)
        go_wp2
        go_ret
        exact RbE.mk' HZ.out HR4.out HM4.out

set_option maxHeartbeats 1000000 in
theorem draw_ReadBlock (W w : World) (a : Option Addr) (len cap : Nat) (hc : IsCode W a len) (hl : len ≤ 1048576) (hb : Below W.heap.size W w) :
    Calls Try.prog 11 #[.slice a len cap] w fun e w' => ∃ t : ByteArray, e = .returned (.string t) ∧ t.size ≤ 60100 ∧ Below w.heap.size w w' := by
  go_enter Try.func11, Try.ntmps11
  go_wp2_with fail
  refine (open_rdK w a len cap W hb).mono ?_
  rintro e w1 ⟨rfl, hr, hb1⟩
  obtain ⟨g, hg⟩ : ∃ g, w.heap.size = g := ⟨_, rfl⟩
  rw [hg] at hr ⊢
  have HB1 : Hid (Below g w w1) := by rw [← hg]; exact hb1
  have HR1 := hide hr
  clear hb1 hr
  go_wp2_with fail
  refine (rd_block W _ _ a len cap hc hl HR1.out).mono ?_
  rintro e w2 ⟨t, rfl, ht, hr2, hm2⟩
  have HB2 := hide (HB1.out.trans (hm2.below (by rw [← hg]; exact HB1.out.size) (Nat.le_refl _)))
  clear hr2 hm2 HB1 HR1
  go_wp2
  go_ret
  exact ⟨t, rfl, ht, by rw [hg]; exact HB2.out⟩

set_option maxHeartbeats 1000000 in
theorem draw_BlockSeek (W w : World) (a : Option Addr) (len cap : Nat) (hc : IsCode W a len) (hl : len ≤ 1048576) (hb : Below W.heap.size W w) :
    Calls Try.prog 13 #[.slice a len cap] w fun e w' => ∃ (t u : ByteArray) (q k : Int), e = .returned (.tuple #[.string t, .agg #[.string u, .int .i64 q, .int .i64 k]]) ∧ t.size ≤ 60100 ∧ Below w.heap.size w w' := by
  have hb0 := below_one w (.cells #[.string ⟨#[]⟩, .int .i64 0, .int .i64 0] 34)
  have HX0 := hide (BoxIs.new w #[.string ⟨#[]⟩, .int .i64 0, .int .i64 0] 34 rfl)
  have HW0 := hide (hb.trans (hb0.mono hb.size))
  have HB0 := hide hb0
  clear hb hb0
  go_enter Try.func13, Try.ntmps13
  go_wp2_with fail
  generalize w.alloc (.cells #[.string ⟨#[]⟩, .int .i64 0, .int .i64 0] 34) = W0 at HX0 HB0 HW0 ⊢
  refine (open_rdK W0 a len cap W HW0.out).mono ?_
  rintro e w1 ⟨rfl, hr, hb1⟩
  obtain ⟨g, hg⟩ : ∃ g, W0.heap.size = g := ⟨_, rfl⟩
  have hgl : w.heap.size < g := by rw [← hg]; exact HX0.out.lt
  have HX1 := hide (HX0.out.next hb1)
  rw [hg] at hr ⊢
  have HB1 := hide (HB0.out.trans (hb1.mono HB0.out.size))
  have HR1 := hide hr
  clear hb1 hr HB0 HX0 HW0
  go_wp2_with fail
  refine (rd_block W _ _ a len cap hc hl HR1.out).mono ?_
  rintro e w2 ⟨t, rfl, ht, hr2, hm2⟩
  have HB2 := hide (HB1.out.trans (hm2.below HB1.out.size (Nat.le_of_lt hgl)))
  have HX2 := hide (HX1.out.mv hm2 (Nat.ne_of_lt hgl))
  have HR2 := hide hr2
  clear hr2 hm2 HB1 HR1 HX1
  go_wp2_with fail
  refine (rd_key W _ _ a len cap hc hl HR2.out).mono ?_
  rintro e w3 ⟨u, q, k, rfl, hu, _, _, _, _, hr3, hm3⟩
  have HB3 := hide (HB2.out.trans (hm3.below HB2.out.size (Nat.le_of_lt hgl)))
  have HX3 := hide (HX2.out.mv hm3 (Nat.ne_of_lt hgl))
  clear hr3 hm3 HB2 HR2 HX2
  obtain ⟨x0, x1, x2⟩ : w3.cell? ⟨w.heap.size, 0, none⟩ = some (.string ⟨#[]⟩) ∧ w3.cell? ⟨w.heap.size, 1, none⟩ = some (.int .i64 0) ∧ w3.cell? ⟨w.heap.size, 2, none⟩ = some (.int .i64 0) := ⟨HX3.out.cell 0, HX3.out.cell 1, HX3.out.cell 2⟩
  have xf := HX3.out.free
  have g2 := hide (heap_setCell_same _ w.heap.size 2 _ _ (.int .i64 k) (heap_setCell_same _ w.heap.size 1 _ _ (.int .i64 q) (heap_setCell_same w3 w.heap.size 0 _ _ (.string u) HX3.out)))
  have HB6 := hide (((HB3.out.setCell (p := ⟨w.heap.size, 0, none⟩) (Nat.le_refl _) (.string u)).setCell (p := ⟨w.heap.size, 1, none⟩) (Nat.le_refl _) (.int .i64 q)).setCell (p := ⟨w.heap.size, 2, none⟩) (Nat.le_refl _) (.int .i64 k))
  clear HB3 HX3
  go_wp2
  generalize ((w3.setCell ⟨w.heap.size, 0, none⟩ (.string u)).setCell ⟨w.heap.size, 1, none⟩ (.int .i64 q)).setCell ⟨w.heap.size, 2, none⟩ (.int .i64 k) = w6 at g2 HB6 ⊢
  have k0 : w6.cell? ⟨w.heap.size, 0, none⟩ = some (.string u) := cell_of_row _ _ _ _ _ _ g2.out
  have k1 : w6.cell? ⟨w.heap.size, 1, none⟩ = some (.int .i64 q) := cell_of_row _ _ _ _ _ _ g2.out
  have k2 : w6.cell? ⟨w.heap.size, 2, none⟩ = some (.int .i64 k) := cell_of_row _ _ _ _ _ _ g2.out
  refine bodyPost_ret (v := .tuple #[.string t, .agg #[.string u, .int .i64 q, .int .i64 k]]) (by simp [results, Try.results13, go_sem, k0, k1, k2]) rfl ?_
  exact ⟨t, u, q, k, rfl, ht, HB6.out⟩

end Go.Proofs.Ytljmfdcilnbjaac
