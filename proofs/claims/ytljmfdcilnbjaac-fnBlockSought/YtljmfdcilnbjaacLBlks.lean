/- What the laws on blocks draw: the bytes of a block, some of them hurt. -/
import Derived.Test.YtljmfdcilnbjaacDrawBlk
import Derived.Test.YtljmfdcilnbjaacReg
import Derived.Test.YtljmfdcilnbjaacRBlk
namespace Go.Proofs.Ytljmfdcilnbjaac
set_option maxRecDepth 100000
open Go.RowKit Go.Deep

theorem blkR_size (E : Ents) (n : Nat) (ev : Int) : (blkR E n ev).size ≤ 60000 := by
  unfold blkR
  split
  · rename_i h
    unfold blkOk at h
    rw [Bool.and_eq_true, decide_eq_true_iff] at h
    exact h.2
  · exact Nat.zero_le _

def RbE (W w : World) (g : Nat) (a : Option Addr) (len cap : Nat) (e : Ending) (w' : World) : Prop := ∃ t : ByteArray, e = .returned (.string t) ∧ t.size ≤ 60100 ∧ Rd W w' g a len cap ∧ Mv g w w'
theorem RbE.mk' {W w w' : World} {g : Nat} {a : Option Addr} {len cap : Nat} {t : ByteArray} (ht : t.size ≤ 60100) (hr : Rd W w' g a len cap) (hm : Mv g w w') : RbE W w g a len cap (.returned (.string t)) w' := ⟨t, rfl, ht, hr, hm⟩

theorem below_mv {g : Nat} {w a b : World} (h : Mv g w a) (hb : Below a.heap.size a b) : Mv g w b := h.trans (Mv.of_below hb)

set_option maxHeartbeats 2000000 in
theorem rd_block (W w : World) (g : Nat) (a : Option Addr) (len cap : Nat) (hc : IsCode W a len) (hl : len ≤ 1048576) (h : Rd W w g a len cap) :
    Calls Try.prog 35 #[.pointer (some ⟨g, 0, none⟩)] w fun e w' => RbE W w g a len cap e w' := by
  have hg := h.lt
  go_enter Try.func35, Try.ntmps35
  go_wp2_with fail
  refine (rd_entries W _ _ a len cap 9 (by omega) (by omega) hc hl h).mono ?_
  rintro e w1 ⟨gE, capE, es, rfl, hn, hsz, hown, hr1, hm1⟩
  have HO1 := hide hown
  have HR1 := hide hr1
  have HM1 := hide hm1
  have hn' : es.length ≤ 10 := by omega
  clear hown hr1 hm1 hn hsz
  go_wp2_with fail
  refine (rd_below W _ _ a len cap 5 (by omega) (by omega) hc hl HR1.out).mono ?_
  rintro e w2 ⟨x, rfl, hx0, hx1, hr2, hm2⟩
  have HE2 := hide (HO1.out.mv hm2 hg).entAt
  have HR2 := hide hr2
  have HM2 := hide (HM1.out.trans hm2)
  clear hr2 hm2 HO1 HR1 HM1
  have cb := fun ev wx hx => spec_BlockOf (some ⟨gE, 0, none⟩) es.length capE (entsOf es) ev wx (by omega) hx
  have cb1 := cb (1 + x)
  have hsz := blkR_size (entsOf es) es.length (1 + x)
  generalize blkR (entsOf es) es.length (1 + x) = s at *
  generalize blkOk (entsOf es) es.length (1 + x) = ok at *
  clear cb
  go_wp2_with fail
  refine (cb1 _ HE2.out).mono ?_
  rintro e w3 ⟨rfl, hb3⟩
  have HR3 := hide (HR2.out.keep hb3 HR2.out.lt)
  have HM3 := hide (below_mv HM2.out hb3)
  clear hb3 cb1 HE2 HR2 HM2
  go_wp2_with fail
  refine (rd_below W _ _ a len cap 8 (by omega) (by omega) hc hl HR3.out).mono ?_
  rintro e w4 ⟨y, rfl, hy0, hy1, hr4, hm4⟩
  have HR4 := hide hr4
  have HM4 := hide (HM3.out.trans hm4)
  clear hr4 hm4 HR3 HM3 hx0 hx1 hn'
  by_cases y0 : y = 0
  · subst y0
    go_wp2_with fail
    refine (rd_bytes W _ _ a len cap 2 (by omega) (by omega) hc hl HR4.out).mono ?_
    rintro e w5 ⟨b, rfl, hb, hr5, hm5⟩
    have HR5 := hide hr5
    have HM5 := hide (HM4.out.trans hm5)
    have hadd : ∀ wx : World, (Op.stringOp .add s b).run Try.prog wx = .ok (.string (s ++ b)) wx := fun wx => run_string_add_sum wx _ _ (by omega)
    have hz : (s ++ b).size ≤ 60100 := by rw [ByteArray.size_append]; omega
    have HZ := hide hz
    generalize s ++ b = t at *
    clear hr5 hm5 HR4 HM4 hz
    go_wp2
    go_ret
    exact RbE.mk' HZ.out HR5.out HM5.out
  · have y0' : (y == 0) = false := by simp [y0]
    by_cases y1 : y = 1
    · subst y1
      by_cases hs0 : s.size = 0
      · have g0 : ¬ (0 : Int) < (s.size : Int) := by omega
        have HZ := hide (show s.size ≤ 60100 by omega)
        clear hs0
        go_wp2
        go_ret
        exact RbE.mk' HZ.out HR4.out HM4.out
      · have g0 : (0 : Int) < (s.size : Int) := by omega
        go_wp2_with fail
        refine (rd_below W _ _ a len cap (s.size : Int) (by omega) (by omega) hc hl HR4.out).mono ?_
        rintro e w5 ⟨i, rfl, hi0, hi1, hr5, hm5⟩
        obtain ⟨i, rfl⟩ := Int.eq_ofNat_of_zero_le hi0
        have HR5 := hide (show Rd W w5.drew g a len cap from hr5.drewN 1)
        have HM5 := hide (show Mv g w w5.drew from (HM4.out.trans hm5).drewN 1)
        have i1 : (i : Int) ≤ (s.size : Int) := by omega
        have i2 : (i : Int) + 1 ≤ (s.size : Int) := by omega
        have hwi : IntKind.i64.wrap ((i : Int) + 1) = (i : Int) + 1 := by rw [IntKind.wrap_i64]; omega
        clear hr5 hm5 HR4 HM4 hi0 hi1
        have hz0 : (s.extract 0 i).size = i := by rw [ByteArray.size_extract]; omega
        have hz1 : (s.extract (i + 1) s.size).size = s.size - (i + 1) := by rw [ByteArray.size_extract]; omega
        go_wp2_with fail
        refine wp_region_noPanic ?_
        refine wp_region_held_drew (S := fun _ => True) (by kernel_rfl) trivial (fun _ => ?_)
        refine wpAnyH_take (i := 0) (v := .string s) nat0 (by kernel_rfl) (by kernel_rfl) (by kernel_rfl) (fun _ _ _ h => False.elim h) (Or.inl ⟨by rfl, ?_⟩) trivial ?_
        · intro wx hSw
          go_simp
        simp only [Act.put, List.setIfInBounds_toArray, List.set_cons_zero, List.set_cons_succ]
        refine wpAnyH_take (i := 1) (v := .int .i64 (i : Int)) nat1 (by kernel_rfl) (by kernel_rfl) (by kernel_rfl) (fun _ _ _ h => False.elim h) (Or.inl ⟨by rfl, ?_⟩) trivial ?_
        · intro wx hSw
          go_simp
        simp only [Act.put, List.setIfInBounds_toArray, List.set_cons_zero, List.set_cons_succ]
        refine wpAnyH_take (i := 2) (v := .string (s.extract 0 i)) nat2 (by kernel_rfl) (by kernel_rfl) (by kernel_rfl) (fun _ _ _ h => False.elim h) (Or.inl ⟨by rfl, ?_⟩) trivial ?_
        · intro wx hSw
          go_simp
        simp only [Act.put, List.setIfInBounds_toArray, List.set_cons_zero, List.set_cons_succ]
        refine wpAnyH_take (i := 3) (v := .pointer (some ⟨g, 0, none⟩)) nat3 (by kernel_rfl) (by kernel_rfl) (by kernel_rfl) (fun _ _ _ h => False.elim h) (Or.inl ⟨by rfl, ?_⟩) trivial ?_
        · intro wx hSw
          go_simp
        simp only [Act.put, List.setIfInBounds_toArray, List.set_cons_zero, List.set_cons_succ]
        refine wpAnyH_take (i := 6) (v := .string s) nat6 (by kernel_rfl) (by kernel_rfl) (by kernel_rfl) (fun _ _ _ h => False.elim h) (Or.inl ⟨by rfl, ?_⟩) trivial ?_
        · intro wx hSw
          go_simp
        simp only [Act.put, List.setIfInBounds_toArray, List.set_cons_zero, List.set_cons_succ]
        refine wpAnyH_take (i := 7) (v := .int .i64 (i : Int)) nat7 (by kernel_rfl) (by kernel_rfl) (by kernel_rfl) (fun _ _ _ h => False.elim h) (Or.inl ⟨by rfl, ?_⟩) trivial ?_
        · intro wx hSw
          go_simp
        simp only [Act.put, List.setIfInBounds_toArray, List.set_cons_zero, List.set_cons_succ]
        refine wpAnyH_take (i := 8) (v := .int .i64 ((i : Int) + 1)) nat8 (by kernel_rfl) (by kernel_rfl) (by kernel_rfl) (fun _ _ _ h => False.elim h) (Or.inl ⟨by rfl, ?_⟩) trivial ?_
        · intro wx hSw
          go_simp
        simp only [Act.put, List.setIfInBounds_toArray, List.set_cons_zero, List.set_cons_succ]
        refine wpAnyH_take (i := 9) (v := .string (s.extract (i + 1) s.size)) nat9 (by kernel_rfl) (by kernel_rfl) (by kernel_rfl) (fun _ _ _ h => False.elim h) (Or.inl ⟨by rfl, ?_⟩) trivial ?_
        · intro wx hSw
          go_simp
          intro hh; omega
        simp only [Act.put, List.setIfInBounds_toArray, List.set_cons_zero, List.set_cons_succ]
        refine wpAnyH_ready (rs := [4]) (by kernel_rfl) (by simp) ?_
        refine AllReadyH.cons nat4 (fun K hK => ?_) AllReadyH.nil
        go_simp
        go_at_call 66
        refine (rd_bytes W _ _ a len cap 1 (by omega) (by omega) hc hl HR5.out).mono ?_
        rintro e wq0 ⟨b, rfl, hb, hr0, hm0⟩
        have H0 := hide hr0
        have HX0 := hide (HM5.out.trans hm0)
        have hadd : ∀ wx : World, (Op.stringOp .add (s.extract 0 i) b).run Try.prog wx = .ok (.string (s.extract 0 i ++ b)) wx := fun wx => run_string_add_sum wx _ _ (by omega)
        have hadd2 : ∀ wx : World, (Op.stringOp .add (s.extract 0 i ++ b) (s.extract (i + 1) s.size)).run Try.prog wx = .ok (.string (s.extract 0 i ++ b ++ s.extract (i + 1) s.size)) wx := fun wx => run_string_add_sum wx _ _ (by rw [ByteArray.size_append]; omega)
        have HZ : Hid ((s.extract 0 i ++ b ++ s.extract (i + 1) s.size).size ≤ 60100) := by show _ ≤ _; rw [ByteArray.size_append, ByteArray.size_append]; omega
        refine hK.out _ _ trivial (fun _ => ?_)
        clear hK K hr0 hm0 HR5 HM5
        refine wpAnyH_take (i := 5) (v := .string (s.extract 0 i ++ b)) nat5 (by kernel_rfl) (by kernel_rfl) (by kernel_rfl) (fun _ _ _ h => False.elim h) (Or.inl ⟨by rfl, ?_⟩) trivial ?_
        · intro wx hSw
          go_simp
        simp only [Act.put, List.setIfInBounds_toArray, List.set_cons_zero, List.set_cons_succ]
        refine wpAnyH_take (i := 10) (v := .string (s.extract 0 i ++ b ++ s.extract (i + 1) s.size)) nat10 (by kernel_rfl) (by kernel_rfl) (by kernel_rfl) (fun _ _ _ h => False.elim h) (Or.inl ⟨by rfl, ?_⟩) trivial ?_
        · intro wx hSw
          go_simp
        simp only [Act.put, List.setIfInBounds_toArray, List.set_cons_zero, List.set_cons_succ]
        refine wpAnyH_take (i := 11) (v := .string (s.extract 0 i ++ b ++ s.extract (i + 1) s.size)) nat11 (by kernel_rfl) (by kernel_rfl) (by kernel_rfl) (fun _ _ _ h => False.elim h) (Or.inl ⟨by rfl, ?_⟩) trivial ?_
        · intro wx hSw
          go_simp
        simp only [Act.put, List.setIfInBounds_toArray, List.set_cons_zero, List.set_cons_succ]
        refine wpAnyH_done (by kernel_rfl) ?_ _
        refine NoPanic.normal ?_
        clear hadd hadd2 hz0 hz1
        generalize s.extract 0 i ++ b ++ s.extract (i + 1) s.size = t at *
        go_wp2
        go_ret
        exact RbE.mk' HZ.out H0.out HX0.out
    · have y1' : (y == 1) = false := by simp [y1]
      by_cases y2 : y = 2
      · subst y2
        go_wp2_with fail
        refine (rd_bytes W _ _ a len cap 20 (by omega) (by omega) hc hl HR4.out).mono ?_
        rintro e w5 ⟨b, rfl, hb, hr5, hm5⟩
        have HR5 := hide hr5
        have HM5 := hide (HM4.out.trans hm5)
        have HZ := hide (show b.size ≤ 60100 by omega)
        clear hr5 hm5 HR4 HM4
        go_wp2
        go_ret
        exact RbE.mk' HZ.out HR5.out HM5.out
      · have y2' : (y == 2) = false := by simp [y2]
        have HZ := hide (show s.size ≤ 60100 by omega)
        go_wp2
        go_ret
        exact RbE.mk' HZ.out HR4.out HM4.out

set_option maxHeartbeats 1000000 in
theorem draw_ReadBlock (W w : World) (a : Option Addr) (len cap : Nat) (hc : IsCode W a len) (hl : len ≤ 1048576) (hb : Below W.heap.size W w) :
    Calls Try.prog 11 #[.slice a len cap] w fun e w' => ∃ t : ByteArray, e = .returned (.string t) ∧ t.size ≤ 60100 ∧ Below w.heap.size w w' := by
  go_enter Try.func11, Try.ntmps11
  go_wp2_with fail
  refine (open_rdK w a len cap W hb).mono ?_
  rintro e w1 ⟨rfl, hr, hb1⟩
  obtain ⟨g, hg⟩ : ∃ g, w.heap.size = g := ⟨_, rfl⟩
  rw [hg] at hr ⊢
  have HB1 : Hid (Below g w w1) := by rw [← hg]; exact hb1
  have HR1 := hide hr
  clear hb1 hr
  go_wp2_with fail
  refine (rd_block W _ _ a len cap hc hl HR1.out).mono ?_
  rintro e w2 ⟨t, rfl, ht, hr2, hm2⟩
  have HB2 := hide (HB1.out.trans (hm2.below (by rw [← hg]; exact HB1.out.size) (Nat.le_refl _)))
  clear hr2 hm2 HB1 HR1
  go_wp2
  go_ret
  exact ⟨t, rfl, ht, by rw [hg]; exact HB2.out⟩

set_option maxHeartbeats 1000000 in
theorem draw_BlockSeek (W w : World) (a : Option Addr) (len cap : Nat) (hc : IsCode W a len) (hl : len ≤ 1048576) (hb : Below W.heap.size W w) :
    Calls Try.prog 13 #[.slice a len cap] w fun e w' => ∃ (t u : ByteArray) (q k : Int), e = .returned (.tuple #[.string t, .agg #[.string u, .int .i64 q, .int .i64 k]]) ∧ t.size ≤ 60100 ∧ Below w.heap.size w w' := by
  have hb0 := below_one w (.cells #[.string ⟨#[]⟩, .int .i64 0, .int .i64 0] 34)
  have HX0 := hide (BoxIs.new w #[.string ⟨#[]⟩, .int .i64 0, .int .i64 0] 34 rfl)
  have HW0 := hide (hb.trans (hb0.mono hb.size))
  have HB0 := hide hb0
  clear hb hb0
  go_enter Try.func13, Try.ntmps13
  go_wp2_with fail
  generalize w.alloc (.cells #[.string ⟨#[]⟩, .int .i64 0, .int .i64 0] 34) = W0 at HX0 HB0 HW0 ⊢
  refine (open_rdK W0 a len cap W HW0.out).mono ?_
  rintro e w1 ⟨rfl, hr, hb1⟩
  obtain ⟨g, hg⟩ : ∃ g, W0.heap.size = g := ⟨_, rfl⟩
  have hgl : w.heap.size < g := by rw [← hg]; exact HX0.out.lt
  have HX1 := hide (HX0.out.next hb1)
  rw [hg] at hr ⊢
  have HB1 := hide (HB0.out.trans (hb1.mono HB0.out.size))
  have HR1 := hide hr
  clear hb1 hr HB0 HX0 HW0
  go_wp2_with fail
  refine (rd_block W _ _ a len cap hc hl HR1.out).mono ?_
  rintro e w2 ⟨t, rfl, ht, hr2, hm2⟩
  have HB2 := hide (HB1.out.trans (hm2.below HB1.out.size (Nat.le_of_lt hgl)))
  have HX2 := hide (HX1.out.mv hm2 (Nat.ne_of_lt hgl))
  have HR2 := hide hr2
  clear hr2 hm2 HB1 HR1 HX1
  go_wp2_with fail
  refine (rd_key W _ _ a len cap hc hl HR2.out).mono ?_
  rintro e w3 ⟨u, q, k, rfl, hu, _, _, _, _, hr3, hm3⟩
  have HB3 := hide (HB2.out.trans (hm3.below HB2.out.size (Nat.le_of_lt hgl)))
  have HX3 := hide (HX2.out.mv hm3 (Nat.ne_of_lt hgl))
  clear hr3 hm3 HB2 HR2 HX2
  obtain ⟨x0, x1, x2⟩ : w3.cell? ⟨w.heap.size, 0, none⟩ = some (.string ⟨#[]⟩) ∧ w3.cell? ⟨w.heap.size, 1, none⟩ = some (.int .i64 0) ∧ w3.cell? ⟨w.heap.size, 2, none⟩ = some (.int .i64 0) := ⟨HX3.out.cell 0, HX3.out.cell 1, HX3.out.cell 2⟩
  have xf := HX3.out.free
  have g2 := hide (heap_setCell_same _ w.heap.size 2 _ _ (.int .i64 k) (heap_setCell_same _ w.heap.size 1 _ _ (.int .i64 q) (heap_setCell_same w3 w.heap.size 0 _ _ (.string u) HX3.out)))
  have HB6 := hide (((HB3.out.setCell (p := ⟨w.heap.size, 0, none⟩) (Nat.le_refl _) (.string u)).setCell (p := ⟨w.heap.size, 1, none⟩) (Nat.le_refl _) (.int .i64 q)).setCell (p := ⟨w.heap.size, 2, none⟩) (Nat.le_refl _) (.int .i64 k))
  clear HB3 HX3
  go_wp2
  generalize ((w3.setCell ⟨w.heap.size, 0, none⟩ (.string u)).setCell ⟨w.heap.size, 1, none⟩ (.int .i64 q)).setCell ⟨w.heap.size, 2, none⟩ (.int .i64 k) = w6 at g2 HB6 ⊢
  have k0 : w6.cell? ⟨w.heap.size, 0, none⟩ = some (.string u) := cell_of_row _ _ _ _ _ _ g2.out
  have k1 : w6.cell? ⟨w.heap.size, 1, none⟩ = some (.int .i64 q) := cell_of_row _ _ _ _ _ _ g2.out
  have k2 : w6.cell? ⟨w.heap.size, 2, none⟩ = some (.int .i64 k) := cell_of_row _ _ _ _ _ _ g2.out
  refine bodyPost_ret (v := .tuple #[.string t, .agg #[.string u, .int .i64 q, .int .i64 k]]) (by simp [results, Try.results13, go_sem, k0, k1, k2]) rfl ?_
  exact ⟨t, u, q, k, rfl, ht, HB6.out⟩

end Go.Proofs.Ytljmfdcilnbjaac

/- The laws FnBlockSought and FnBlocks, walked. -/
namespace Go.Proofs.Ytljmfdcilnbjaac
set_option maxRecDepth 100000
open Go.RowKit

theorem ret_tr {a : Bool} (h : a = true) : Ending.returned (.bool a) = .returned (.bool true) := by rw [h]

theorem specRB_c {s : ByteArray} (hs : s.size ≤ 1048576) {es : List En} {b : Bool} (hcan : ∀ (B : Nat) (w : World) (v : Value) (c : Bool), RB s B w v c → c = b ∧ RowE w B v es) (wx : World) :
    Calls Try.prog 12 #[.string s] wx fun e w' => RBc es b wx.heap.size e w' ∧ Below wx.heap.size wx w' := (spec_ReadBlock s hs wx).mono fun e w' h => by
  obtain ⟨⟨v, c, he, hr⟩, hb⟩ := h
  obtain ⟨rfl, ho⟩ := hcan _ _ _ _ hr
  exact ⟨⟨v, he, ho⟩, hb⟩
theorem implRB_c {s : ByteArray} (hs : s.size ≤ 1048576) {es : List En} {b : Bool} (hcan : ∀ (B : Nat) (w : World) (v : Value) (c : Bool), RB s B w v c → c = b ∧ RowE w B v es) (wx : World) :
    Calls Try.prog 9 #[.string s] wx fun e w' => RBc es b wx.heap.size e w' ∧ Below wx.heap.size wx w' := (impl_ReadBlock s hs wx).mono fun e w' h => by
  obtain ⟨⟨v, c, he, hr⟩, hb⟩ := h
  obtain ⟨rfl, ho⟩ := hcan _ _ _ _ hr
  exact ⟨⟨v, he, ho⟩, hb⟩

set_option maxHeartbeats 2000000 in
theorem walk_FnBlockSought (v : Value) {w : World} (hv : IsBytes w v) (_w : World) :
    Calls Try.prog 4 #[v] w fun e w' => e = .returned (.bool true) ∧ Below w.heap.size w w' := by
  obtain ⟨a, len, cap, rfl, hc, hm⟩ := hv
  by_cases hbig : 1048576 < len
  · have hd : decide (1048576 < len) = true := by simp [hbig]
    go_enter Try.func4, Try.ntmps4
    go_wp2_with fail
    refine (laws_bigK a len cap hm _).mono ?_
    rintro e w1 ⟨rfl, rfl⟩
    go_wp2
    go_ret
    exact ⟨rfl, Below.refl _ _⟩
  · have hd : decide (1048576 < len) = false := by simp [hbig]
    have hl : len ≤ 1048576 := by omega
    go_enter Try.func4, Try.ntmps4
    go_wp2_with fail
    refine (laws_bigK a len cap hm _).mono ?_
    rintro e w1 ⟨rfl, rfl⟩
    go_wp2_with fail
    refine (draw_BlockSeek w _ a len cap hc hl (Below.refl _ _)).mono ?_
    rintro e w1 ⟨t, u, q, k, rfl, ht, hB1⟩
    obtain ⟨es, b, hel, hcan⟩ := rb_can t
    have ci := implRB_c (s := t) (by omega) hcan
    have cs2 := fun wx => spec_BlockSeekC t es b u q k hel (specRB_c (s := t) (by omega) hcan) wx
    have ci2 := fun wx => impl_BlockSeekC t es b u q k hel ci wx
    have cq := fun wx x c (h : EntAt wx wx.heap.size x es.length (entsOf es)) => impl_SeekEntry x es.length c (entsOf es) u q k wx (by omega) h
    have ck := fun wx => impl_KeyOk u q k wx
    have hb2 := below_one w1 (.cells #[.string u, .int .i64 q, .int .i64 k] 34)
    have HB2 := hide (hB1.trans (hb2.mono hB1.size))
    have HX2 := hide (BoxIs.new w1 #[.string u, .int .i64 q, .int .i64 k] 34 rfl)
    clear hbig hc hm hd hb2 hB1 hcan hel
    go_wp2_with fail
    generalize w1.alloc (.cells #[.string u, .int .i64 q, .int .i64 k] 34) = W2 at HB2 HX2 ⊢
    refine (ci2 _).mono ?_
    rintro e w3 ⟨⟨r, c, rfl, hbs⟩, hb3⟩
    have HB3 := hide (HB2.out.trans (hb3.mono HB2.out.size))
    have HX3 := hide (HX2.out.next hb3)
    have HBS := hide hbs
    clear hb3 HB2 HX2 ci2 hbs
    obtain ⟨x0, x1, x2⟩ : w3.cell? ⟨w1.heap.size, 0, none⟩ = some (.string u) ∧ w3.cell? ⟨w1.heap.size, 1, none⟩ = some (.int .i64 q) ∧ w3.cell? ⟨w1.heap.size, 2, none⟩ = some (.int .i64 k) := ⟨HX3.out.cell 0, HX3.out.cell 1, HX3.out.cell 2⟩
    go_wp2_with fail
    refine (cs2 _).mono ?_
    rintro e w4 ⟨⟨r', c', rfl, hbs'⟩, hb4⟩
    obtain ⟨rfl, rfl⟩ := bsk_one HBS.out hbs'
    have HB4 := hide (HB3.out.trans (hb4.mono HB3.out.size))
    have HX4 := hide (HX3.out.next hb4)
    clear hb4 HB3 HX3 cs2 hbs' x0 x1 x2
    go_wp2_with fail
    refine (ci _).mono ?_
    rintro e w5 ⟨⟨vv, rfl, ho⟩, hb5⟩
    obtain ⟨aa, cc, rfl, hE⟩ := ho.at
    have HE5 := hide hE
    have HB5 := hide (HB4.out.trans (hb5.mono HB4.out.size))
    have HX5 := hide (HX4.out.next hb5)
    clear hb5 HB4 HX4 ci ho hE
    obtain ⟨x0, x1, x2⟩ : w5.cell? ⟨w1.heap.size, 0, none⟩ = some (.string u) ∧ w5.cell? ⟨w1.heap.size, 1, none⟩ = some (.int .i64 q) ∧ w5.cell? ⟨w1.heap.size, 2, none⟩ = some (.int .i64 k) := ⟨HX5.out.cell 0, HX5.out.cell 1, HX5.out.cell 2⟩
    cases b with
    | false =>
      obtain ⟨rfl, rfl⟩ : c = false ∧ r = 0 := by
        have := HBS.out
        unfold BSk at this
        rwa [if_neg (by simp)] at this
      clear HBS ck cq
      go_wp2
      go_ret
      exact ⟨rfl, HB5.out⟩
    | true =>
      cases hk : keyOkB u q k with
      | false =>
        obtain ⟨rfl, rfl⟩ : c = false ∧ r = 0 := by
          have := HBS.out
          unfold BSk at this
          rwa [if_neg (by simp [hk])] at this
        rw [hk] at ck
        clear HBS cq hk
        go_wp2_with fail
        refine (ck _).mono ?_
        rintro e w6 ⟨rfl, hb6⟩
        have HB6 := hide (HB5.out.trans (hb6.mono HB5.out.size))
        clear hb6 ck HB5 HX5 x0 x1 x2
        go_wp2
        go_ret
        exact ⟨rfl, HB6.out⟩
      | true =>
        obtain ⟨rfl, hrs⟩ : c = true ∧ SeekAt (entsOf es) es.length u q k r := by
          have := HBS.out
          unfold BSk at this
          rwa [if_pos (by simp [hk])] at this
        have HRS := hide hrs
        rw [hk] at ck
        clear HBS hk hrs
        go_wp2_with fail
        refine (ck _).mono ?_
        rintro e w6 ⟨rfl, hb6⟩
        have HB6 := hide (HB5.out.trans (hb6.mono HB5.out.size))
        have HX6 := hide (HX5.out.next hb6)
        have HE6 := hide (HE5.out.keep hb6)
        clear hb6 ck HB5 HX5 HE5 x0 x1 x2
        obtain ⟨x0, x1, x2⟩ : w6.cell? ⟨w1.heap.size, 0, none⟩ = some (.string u) ∧ w6.cell? ⟨w1.heap.size, 1, none⟩ = some (.int .i64 q) ∧ w6.cell? ⟨w1.heap.size, 2, none⟩ = some (.int .i64 k) := ⟨HX6.out.cell 0, HX6.out.cell 1, HX6.out.cell 2⟩
        go_wp2_with fail
        refine (cq _ _ _ HE6.out).mono ?_
        rintro e w7 ⟨⟨r2, rfl, hr2⟩, hb7⟩
        obtain rfl : r2 = r := seekAt_one hr2 HRS.out
        have HB7 := hide (HB6.out.trans (hb7.mono HB6.out.size))
        clear hb7 hr2 HB6 HX6 x0 x1 x2 cq HE6 HRS
        go_wp2
        go_ret
        exact ⟨rfl, HB7.out⟩

theorem laws_sameEntries (a b : Option Addr) (len ca cb : Nat) (E : Ents) (w : World) (hl : len ≤ 1048576) (ha : EntAt w w.heap.size a len E) (hb : EntAt w w.heap.size b len E) :
    Calls Try.prog 10 #[.slice a len ca, .slice b len cb] w fun e w' => e = .returned (.bool true) ∧ Below w.heap.size w w' := by
  have HA := hide ha
  have HB := hide hb
  have HW0 := hide (Below.refl w.heap.size w)
  clear ha hb
  go_enter Try.func10, Try.ntmps10
  go_wp2
  go_loopw [5] (fun i wr => ∃ k : Nat, i = .int .i64 k ∧ k ≤ len ∧ Hid (Below w.heap.size w wr)) (fun i _ => len - (intOf i).toNat)
  case atStart => exact ⟨0, rfl, by omega, HW0⟩
  case round =>
    obtain ⟨k, rfl, hk, HW⟩ := hrel
    by_cases hlt : k < len
    · obtain ⟨g1, o1, rfl, _, c0, c1, c2, c3⟩ := (HA.out.below HW.out).at hlt
      obtain ⟨g2, o2, rfl, _, d0, d1, d2, d3⟩ := (HB.out.below HW.out).at hlt
      have hki : (k : Int) < (len : Int) := by omega
      go_wp2
      go_quiet (fail)
      go_wp2
      exact ⟨⟨k + 1, by go_num, by omega, below_drewN HW.out _⟩, by simp [intOf]; omega⟩
    · obtain rfl : k = len := by omega
      go_wp2
      go_ret
      exact ⟨rfl, HW.out⟩

theorem rb_can2 (s : ByteArray) : ∃ (es : List En) (b : Bool), es.length ≤ 400 ∧ (∀ (B : Nat) (w : World) (v : Value) (c : Bool), RB s B w v c → c = b ∧ RowE w B v es) ∧ (b = true → ∃ m, IsBlk s es m) ∧ (b = false → ∀ es m, ¬ IsBlk s es m) := by
  by_cases hex : ∃ es m, IsBlk s es m
  · obtain ⟨es, m, h⟩ := hex
    refine ⟨es, true, (blkOk_out h.1).2.2.1, fun B w v c hr => ?_, fun _ => ⟨m, h⟩, fun h => by cases h⟩
    rcases hr with ⟨rfl, es', m', h', ho⟩ | ⟨_, _, hn⟩
    · rw [blk_one h h']; exact ⟨rfl, ho⟩
    · exact absurd h (hn es m)
  · refine ⟨[], false, by simp, fun B w v c hr => ?_, fun h => (by cases h), fun _ es m h => hex ⟨es, m, h⟩⟩
    rcases hr with ⟨_, es', m', h', _⟩ | ⟨rfl, rfl, _⟩
    · exact absurd ⟨es', m', h'⟩ hex
    · exact ⟨rfl, RowE.nil _ _⟩

theorem bt_ext (s : ByteArray) (k : Nat) : bt (s.extract k s.size) 0 = bt s k := by
  unfold bt
  rw [ByteArray.data_extract, Array.toList_extract]
  simp only [List.getD, List.extract_eq_drop_take']
  rw [show s.size = s.data.toList.length by simp, List.take_length, List.getElem?_drop, Nat.add_zero]

/-- The last bytes of a block tell how often it begins anew. -/
theorem blk_last {s : ByteArray} {es : List En} {m : Nat} (h : IsBlk s es m) : ∃ d, s.size = d + 4 ∧ bt s d = (m : Int) ∧ blkR (entsOf es) es.length (m : Int) = s ∧ blkOk (entsOf es) es.length (m : Int) = true ∧ m ≤ 16 := by
  obtain ⟨h1, h2, h3, h4, h5, h6⟩ := blk_parts h
  obtain ⟨_, _, _, hm1, hm2, _, _⟩ := blkOk_out h.1
  refine ⟨s.size - 4, by omega, ?_, ?_, h.1, hm2⟩
  · rw [← bt_ext]
    unfold evOf tf4 at h4
    have b0 := bt_bd (s.extract (s.size - 4) s.size) 0
    have b1 := bt_bd (s.extract (s.size - 4) s.size) 1
    have b2 := bt_bd (s.extract (s.size - 4) s.size) 2
    have b3 := bt_bd (s.extract (s.size - 4) s.size) 3
    omega
  · rw [blkR, h.1, Int.toNat_natCast]
    exact h.2

set_option maxHeartbeats 1000000 in
theorem walk_FnBlocks (v : Value) {w : World} (hv : IsBytes w v) (_w : World) :
    Calls Try.prog 3 #[v] w fun e w' => e = .returned (.bool true) ∧ Below w.heap.size w w' := by
  obtain ⟨a, len, cap, rfl, hc, hm⟩ := hv
  by_cases hbig : 1048576 < len
  · have hd : decide (1048576 < len) = true := by simp [hbig]
    go_enter Try.func3, Try.ntmps3
    go_wp2_with fail
    refine (laws_bigK a len cap hm _).mono ?_
    rintro e w1 ⟨rfl, rfl⟩
    go_wp2
    go_ret
    exact ⟨rfl, Below.refl _ _⟩
  · have hd : decide (1048576 < len) = false := by simp [hbig]
    have hl : len ≤ 1048576 := by omega
    go_enter Try.func3, Try.ntmps3
    go_wp2_with fail
    refine (laws_bigK a len cap hm _).mono ?_
    rintro e w1 ⟨rfl, rfl⟩
    go_wp2_with fail
    refine (draw_BlockOf w _ a len cap hc hl (Below.refl _ _)).mono ?_
    rintro e w1 ⟨gE, capE, es, every, rfl, hn10, hE, hB1⟩
    have HE1 := hide hE
    have HB1 := hide hB1
    have ci := fun wx h => impl_BlockOf (some ⟨gE, 0, none⟩) es.length capE (entsOf es) every wx (by omega) h
    have cs := fun wx h => spec_BlockOf (some ⟨gE, 0, none⟩) es.length capE (entsOf es) every wx (by omega) h
    have HOK : Hid (blkOk (entsOf es) es.length every = true → ∃ m, IsBlk (blkR (entsOf es) es.length every) es m) := fun h => by
      have he : everyB every = true := by
        unfold blkOk at h
        rw [Bool.and_eq_true, Bool.and_eq_true] at h
        exact h.1.2
      obtain ⟨m, rfl, _, _⟩ := every_nat he
      exact ⟨m, h, by rw [blkR, h, Int.toNat_natCast]; rfl⟩
    have hAz := blkR_size (entsOf es) es.length every
    clear hE hB1 hm hd hbig
    generalize blkR (entsOf es) es.length every = A at *
    generalize blkOk (entsOf es) es.length every = ok at *
    go_wp2_with fail
    refine (ci _ HE1.out).mono ?_
    rintro e w2 ⟨rfl, hb2⟩
    have HE2 := hide (HE1.out.keep hb2)
    have HB2 := hide (HB1.out.trans (hb2.mono HB1.out.size))
    clear hb2 ci HE1 HB1
    go_wp2_with fail
    refine (cs _ HE2.out).mono ?_
    rintro e w3 ⟨rfl, hb3⟩
    have HE3 := hide (HE2.out.keep hb3)
    have HB3 := hide (HB2.out.trans (hb3.mono HB2.out.size))
    clear hb3 cs HE2 HB2
    cases ok with
    | false =>
      clear HOK HE3
      go_wp2_with fail
      refine (draw_ReadBlock w _ a len cap hc hl HB3.out).mono ?_
      rintro e w6 ⟨t, rfl, ht, hb6⟩
      obtain ⟨x, b', hxl, hcan', hyes', _⟩ := rb_can2 t
      have ci' := implRB_c (s := t) (by omega) hcan'
      have cs' := specRB_c (s := t) (by omega) hcan'
      have HB6 := hide (HB3.out.trans (hb6.mono HB3.out.size))
      clear hb6 HB3 hcan'
      go_wp2_with fail
      refine (ci' _).mono ?_
      rintro e w7 ⟨⟨vx, rfl, hox⟩, hb7⟩
      obtain ⟨ax, cx, rfl, hEx⟩ := hox.at
      have HX7 := hide hEx
      have HB7 := hide (HB6.out.trans (hb7.mono HB6.out.size))
      clear hb7 HB6 ci' hox hEx
      go_wp2_with fail
      refine (cs' _).mono ?_
      rintro e w8 ⟨⟨vy, rfl, _⟩, hb8⟩
      have HX8 := hide (HX7.out.keep hb8)
      have HB8 := hide (HB7.out.trans (hb8.mono HB7.out.size))
      clear hb8 HB7 cs' HX7
      cases b' with
      | false =>
        clear hyes'
        go_wp2
        go_ret
        exact ⟨rfl, HB8.out⟩
      | true =>
        obtain ⟨m', hm'⟩ := hyes' rfl
        obtain ⟨d, hd, hbt, hbR, hbO, hm16⟩ := blk_last hm'
        have hdi : (t.size : Int) - 4 = (d : Int) := by omega
        have hdl : d < t.size := by omega
        have hdl' : (d : Int) < (t.size : Int) := by omega
        have hwm : IntKind.i64.wrap (m' : Int) = (m' : Int) := by rw [IntKind.wrap_i64]; omega
        have hwm8 : wrap64 (m' : Int) = (m' : Int) := by unfold wrap64; omega
        have hx := bt_of t d hdl
        rw [hbt] at hx
        have cb := fun wx h => impl_BlockOf ax x.length cx (entsOf x) (m' : Int) wx (by omega) h
        rw [hbR, hbO] at cb
        have HCB := hide cb
        clear hyes' hm' hbt hbR hbO cb hd
        go_wp2_with fail
        refine (HCB.out _ HX8.out).mono ?_
        rintro e w9 ⟨rfl, hb9⟩
        have HB9 := hide (HB8.out.trans (hb9.mono HB8.out.size))
        clear hb9 HCB HB8 HX8
        go_wp2
        go_ret
        exact ⟨rfl, HB9.out⟩
    | true =>
      obtain ⟨m, hblk⟩ := HOK.out rfl
      obtain ⟨es2, b2, hel2, hcan2, hyes2, hno2⟩ := rb_can2 A
      obtain ⟨rfl, hes⟩ : b2 = true ∧ es2 = es := by
        cases b2 with
        | true => obtain ⟨m2, h2⟩ := hyes2 rfl; exact ⟨rfl, blk_one h2 hblk⟩
        | false => exact absurd hblk (hno2 rfl es m)
      subst hes
      have ca := implRB_c (s := A) (by omega) hcan2
      clear HOK hblk hcan2 hyes2 hno2
      go_wp2_with fail
      refine (ca _).mono ?_
      rintro e w4 ⟨⟨vm, rfl, hom⟩, hb4⟩
      obtain ⟨am, cm, rfl, hEm⟩ := hom.at
      have HE4 := hide (HE3.out.keep hb4)
      have HM4 := hide hEm
      have HB4 := hide (HB3.out.trans (hb4.mono HB3.out.size))
      clear hb4 ca HE3 HB3 hom hEm
      go_wp2_with fail
      refine (laws_sameEntries am (some ⟨gE, 0, none⟩) es2.length cm capE (entsOf es2) w4 (by omega) HM4.out HE4.out).mono ?_
      rintro e w5 ⟨rfl, hb5⟩
      have HB5 := hide (HB4.out.trans (hb5.mono HB4.out.size))
      clear hb5 HB4 HE4 HM4
      go_wp2_with fail
      refine (draw_ReadBlock w _ a len cap hc hl HB5.out).mono ?_
      rintro e w6 ⟨t, rfl, ht, hb6⟩
      obtain ⟨x, b', hxl, hcan', hyes', _⟩ := rb_can2 t
      have ci' := implRB_c (s := t) (by omega) hcan'
      have cs' := specRB_c (s := t) (by omega) hcan'
      have HB6 := hide (HB5.out.trans (hb6.mono HB5.out.size))
      clear hb6 HB5 hcan'
      go_wp2_with fail
      refine (ci' _).mono ?_
      rintro e w7 ⟨⟨vx, rfl, hox⟩, hb7⟩
      obtain ⟨ax, cx, rfl, hEx⟩ := hox.at
      have HX7 := hide hEx
      have HB7 := hide (HB6.out.trans (hb7.mono HB6.out.size))
      clear hb7 HB6 ci' hox hEx
      go_wp2_with fail
      refine (cs' _).mono ?_
      rintro e w8 ⟨⟨vy, rfl, _⟩, hb8⟩
      have HX8 := hide (HX7.out.keep hb8)
      have HB8 := hide (HB7.out.trans (hb8.mono HB7.out.size))
      clear hb8 HB7 cs' HX7
      cases b' with
      | false =>
        clear hyes'
        go_wp2
        go_ret
        exact ⟨rfl, HB8.out⟩
      | true =>
        obtain ⟨m', hm'⟩ := hyes' rfl
        obtain ⟨d, hd, hbt, hbR, hbO, hm16⟩ := blk_last hm'
        have hdi : (t.size : Int) - 4 = (d : Int) := by omega
        have hdl : d < t.size := by omega
        have hdl' : (d : Int) < (t.size : Int) := by omega
        have hwm : IntKind.i64.wrap (m' : Int) = (m' : Int) := by rw [IntKind.wrap_i64]; omega
        have hwm8 : wrap64 (m' : Int) = (m' : Int) := by unfold wrap64; omega
        have hx := bt_of t d hdl
        rw [hbt] at hx
        have cb := fun wx h => impl_BlockOf ax x.length cx (entsOf x) (m' : Int) wx (by omega) h
        rw [hbR, hbO] at cb
        have HCB := hide cb
        clear hyes' hm' hbt hbR hbO cb hd
        go_wp2_with fail
        refine (HCB.out _ HX8.out).mono ?_
        rintro e w9 ⟨rfl, hb9⟩
        have HB9 := hide (HB8.out.trans (hb9.mono HB8.out.size))
        clear hb9 HCB HB8 HX8
        go_wp2
        go_ret
        exact ⟨rfl, HB9.out⟩

end Go.Proofs.Ytljmfdcilnbjaac
