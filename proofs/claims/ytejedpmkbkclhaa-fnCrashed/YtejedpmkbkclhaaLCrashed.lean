/- The law FnCrashed, walked. (By gen_lcrashed.py.) -/
import Derived.Test.YtejedpmkbkclhaaMgOpenDrawL
import Derived.Test.YtejedpmkbkclhaaCrW
import Derived.Test.YtejedpmkbkclhaaCrI
import Derived.Test.YtejedpmkbkclhaaDskO
import Derived.Test.YtejedpmkbkclhaaSyO
import Derived.Test.YtejedpmkbkclhaaInts
import Derived.Deep.DeepCutAuto
import Derived.Deep.LoopGhost
namespace Go.Proofs.Ytejedpmkbkclhaa
set_option maxRecDepth 100000
open Go.RowKit Go.Deep

/-- What the law holds all along: the drawn disk in its box. -/
structure CS (w : World) (D : Nat) (a0 : Option Addr) (p0 : Nat) (a1 : Option Addr) (p1 : Nat) (a2 : Option Addr) (p2 : Nat) (l s : List File1) (q : List DOp1) (x : World) : Prop where
  low : Below w.heap.size w x
  bD : BoxIs x D #[.slice a0 l.length p0, .slice a1 s.length p1, .slice a2 q.length p2] 31
  at_ : DskAt x a0 p0 a1 p1 a2 p2 l s q
  hD : w.heap.size ≤ D
section
variable {w x y : World} {D : Nat} {a0 a1 a2 : Option Addr} {p0 p1 p2 : Nat} {l s : List File1} {q : List DOp1}
theorem CS.next (h : CS w D a0 p0 a1 p1 a2 p2 l s q x) (b : Below x.heap.size x y) : CS w D a0 p0 a1 p1 a2 p2 l s q y := ⟨h.low.trans (b.mono h.low.size), h.bD.next b, h.at_.next b, h.hD⟩
theorem CS.is (h : CS w D a0 p0 a1 p1 a2 p2 l s q x) : DiskIs x (.agg #[.slice a0 l.length p0, .slice a1 s.length p1, .slice a2 q.length p2]) (dc l s q) := h.at_.is
end
/-- The first n places. -/
def upto (n : Nat) : List Int := (List.range n).map fun (i : Nat) => (i : Int)
theorem upto_len (n : Nat) : (upto n).length = n := by simp [upto]
theorem upto_succ (n : Nat) : upto (n + 1) = upto n ++ [(n : Int)] := by simp [upto, List.range_succ]
theorem upto_at {n i : Nat} (h : i < n) : (upto n).getD i 0 = (i : Int) := by simp [upto, h]
theorem crash_right {l s : List File1} {q : List DOp1} {t : Int} (h : dB (dc l s q) = true) (ht : 200000 ≤ t) : crB (dc l s q) (fun i => (upto q.length).getD i 0) q.length t = true ∧ crL (dc l s q) (fun i => (upto q.length).getD i 0) q.length t = l := by
  obtain ⟨h1, h2⟩ := crash_all (c := dc l s q) (K := fun i => (upto q.length).getD i 0) (t := t) h (fun i hi => upto_at hi) ht
  exact ⟨h1, h2.trans (dc_live l s q)⟩
theorem crash_right0 {l s : List File1} {q : List DOp1} (h : dB (dc l s q) = true) : crB (dc l s q) (fun _ => 0) 0 0 = true ∧ crL (dc l s q) (fun _ => 0) 0 0 = s := by
  obtain ⟨h1, h2⟩ := crash_none (c := dc l s q) h (fun _ => 0) (t := 0) (by omega)
  exact ⟨h1, h2.trans (dc_safe l s q)⟩

set_option linter.unusedSimpArgs false in
set_option linter.unusedVariables false in
set_option maxHeartbeats 8000000 in
theorem walk_FnCrashed (v : Value) {w : World} (hv : IsBytes w v) (_w : World) :
    Calls Try.prog 9 #[v] w fun e w' => e = .returned (.bool true) ∧ Below w.heap.size w w' := by
  obtain ⟨a, len, cap, rfl, hc, hm⟩ := hv
  have hi5 : (Try.prog.info? 2).map (fun i => (i.zero, i.size, i.bytes)) = some (some (.int .i64 0), 1, 8) := by kernel_rfl
  by_cases hbig : 1048576 < len
  · have hd : decide (1048576 < len) = true := by simp [hbig]
    go_enter Try.func9, Try.ntmps9
    go_wp2_with fail
    refine (laws_bigO a len cap hm _).mono ?_
    rintro e w1 ⟨rfl, rfl⟩
    go_wp2
    go_ret
    exact ⟨rfl, Below.refl _ _⟩
  · have hd : decide (1048576 < len) = false := by simp [hbig]
    have hl : len ≤ 1048576 := by omega
    go_enter Try.func9, Try.ntmps9
    go_wp2_with fail
    refine (laws_bigO a len cap hm _).mono ?_
    rintro e w1 ⟨rfl, rfl⟩
    go_wp2_with fail
    refine (draw_DiskOk w _ a len cap hc hl (Below.refl _ _)).mono ?_
    rintro e w1 ⟨a0, p0, a1, p1, a2, p2, l, s, q, rfl, hF, hA, hb1⟩
    clear hd
    have hS := hide (⟨hb1.trans ((below_one w1 (.cells #[.slice a0 l.length p0, .slice a1 s.length p1, .slice a2 q.length p2] 31)).mono hb1.size), BoxIs.new w1 #[.slice a0 l.length p0, .slice a1 s.length p1, .slice a2 q.length p2] 31 rfl, hA.next (below_one _ _), hb1.size⟩ : CS w w1.heap.size a0 p0 a1 p1 a2 p2 l s q (w1.alloc (.cells #[.slice a0 l.length p0, .slice a1 s.length p1, .slice a2 q.length p2] 31)))
    have HF := hide hF
    obtain ⟨fl, fs, fq⟩ := fit_dc hF
    have hll := fl.1
    have hsl := fs.1
    have hql := fq.1
    clear hb1 hA hF fl fs fq
    go_upto_region 4 with fail
    generalize w1.alloc (.cells #[.slice a0 l.length p0, .slice a1 s.length p1, .slice a2 q.length p2] 31) = W1 at hS ⊢
    generalize w1.heap.size = D at hS ⊢
    obtain ⟨bv, hbv⟩ : ∃ bv, dB (dc l s q) = bv := ⟨_, rfl⟩
    go_cut [19] (fun t19 wx => t19 = .bool false ∧ Hid (CS w D a0 p0 a1 p1 a2 p2 l s q wx))
    case first =>
      have H0 := hS.out
      clear hS
      refine wp_region_noPanic ?_
      have hb0 : Below W1.heap.size W1 W1.drew := (Below.refl _ _).drew
      have H_0 := H0.next hb0
      refine wp_region_held_drew (S := fun x => BoxIs x D #[.slice a0 l.length p0, .slice a1 s.length p1, .slice a2 q.length p2] 31) (by kernel_rfl) H_0.bD (fun hSz => ?_)
      clear hSz H0
      generalize W1.drew = wq0 at hb0 H_0 ⊢
      clear hb0
      refine wpAnyH_take (i := 0) (v := .agg #[.slice a0 l.length p0, .slice a1 s.length p1, .slice a2 q.length p2]) nat0 (by kernel_rfl) (by kernel_rfl) (by kernel_rfl) (fun _ _ _ h => False.elim h) (Or.inl ⟨by rfl, ?_⟩) H_0.bD ?_
      · intro wx hSw
        have y0 := hSw.cell 0
        have y1 := hSw.cell 1
        have y2 := hSw.cell 2
        simp only [List.getElem?_toArray, List.getElem?_cons_succ, List.getElem?_cons_zero] at y0 y1 y2
        go_simp
      simp only [Act.put, List.setIfInBounds_toArray, List.set_cons_zero, List.set_cons_succ]
      refine wpAnyH_take (i := 2) (v := .agg #[.slice a0 l.length p0, .slice a1 s.length p1, .slice a2 q.length p2]) nat2 (by kernel_rfl) (by kernel_rfl) (by kernel_rfl) (fun _ _ _ h => False.elim h) (Or.inl ⟨by rfl, ?_⟩) H_0.bD ?_
      · intro wx hSw
        have y0 := hSw.cell 0
        have y1 := hSw.cell 1
        have y2 := hSw.cell 2
        simp only [List.getElem?_toArray, List.getElem?_cons_succ, List.getElem?_cons_zero] at y0 y1 y2
        go_simp
      simp only [Act.put, List.setIfInBounds_toArray, List.set_cons_zero, List.set_cons_succ]
      refine wpAnyH_ready (rs := [1]) (by kernel_rfl) (by simp) ?_
      refine AllReadyH.cons nat1 (fun K hK => ?_) AllReadyH.nil
      go_simp
      go_at_call 15
      refine (impl_DiskOk (.agg #[.slice a0 l.length p0, .slice a1 s.length p1, .slice a2 q.length p2]) (dc l s q) wq0 HF.out H_0.is).mono ?_
      rintro e wq1 ⟨rfl, hb1⟩
      rw [hbv]
      have H_1 := H_0.next hb1
      refine hK.out _ _ H_1.bD (fun hSz => ?_)
      clear hK K hSz H_0 hb1
      refine wpAnyH_ready (rs := [3]) (by kernel_rfl) (by simp) ?_
      refine AllReadyH.cons nat3 (fun K hK => ?_) AllReadyH.nil
      go_simp
      go_at_call 13
      refine (spec_DiskOk (.agg #[.slice a0 l.length p0, .slice a1 s.length p1, .slice a2 q.length p2]) (dc l s q) wq1 HF.out H_1.is).mono ?_
      rintro e wq2 ⟨rfl, hb2⟩
      rw [hbv]
      have H_2 := H_1.next hb2
      refine hK.out _ _ H_2.bD (fun hSz => ?_)
      clear hK K hSz H_1 hb2
      refine wpAnyH_take (i := 4) (v := .bool false) nat4 (by kernel_rfl) (by kernel_rfl) (by kernel_rfl) (fun _ _ _ h => False.elim h) (Or.inl ⟨by rfl, ?_⟩) H_2.bD ?_
      · intro wx hSw
        go_simp
        try simp
      simp only [Act.put, List.setIfInBounds_toArray, List.set_cons_zero, List.set_cons_succ]
      refine wpAnyH_done (by kernel_rfl) ?_ _
      refine NoPanic.normal ?_
      go_wp2_with fail
      go_meet
      exact ⟨rfl, hide H_2⟩
    case rest =>
    obtain ⟨rfl, HS⟩ := hcut
    clear hS
    have HI0 : Hid (OwnI (wc.alloc (.cells #[] 2)) wc.heap.size (.slice (some ⟨wc.heap.size, 0, none⟩) 0 0) (upto 0)) := Own.lit wc wc.heap.size 2 [] 0 rfl (Nat.le_refl _) (by decide)
    have HW0 := hide (below_one wc (.cells #[] 2))
    go_wp2
    go_loopw [4, 5] (fun v i wr => ∃ k : Nat, i = .int .i64 k ∧ k ≤ q.length ∧ Hid (OwnI wr wc.heap.size v (upto k)) ∧ Hid (Below wc.heap.size wc wr)) (fun _ i _ => q.length - (intOf i).toNat)
    case atStart => exact ⟨0, rfl, by omega, HI0, HW0⟩
    case round =>
      obtain ⟨k, rfl, hk, HI, HW⟩ := hrel
      clear HI0 HW0
      have y2 := (HS.out.next HW.out).bD.cell 2
      simp only [List.getElem?_toArray, List.getElem?_cons_succ, List.getElem?_cons_zero] at y2
      by_cases hlt : k < q.length
      · have hki : (k : Int) < (q.length : Int) := by omega
        have hown2 := Own.alloc HI.out (.cells #[.int .i64 (k : Int)] 2)
        have hb2 := below_one wr (.cells #[.int .i64 (k : Int)] 2)
        have HB2 := hide (HW.out.trans (hb2.mono HW.out.size))
        have hwz2 := HB2.out.size
        have hul := upto_len k
        clear HI HW hb2
        go_wp2_with (first
          | (at_builtin; refine wpList_append_cell rfl _ _ 45 rfl 2 Try.underlying45 hi5 rfl (by decide) wc.heap.size _ (.int .i64 (k : Int)) ((upto k).map (Value.int .i64)) (by rfl) ⟨wr.heap.size, 0, none⟩ (by rfl) ?c2 hown2 rfl hwz2 ?c1 ?_))
        case c1 => first | omega | (simp; omega)
        case c2 => simp
        intro v' w6 hown' hb'
        have HO6 : Hid (OwnI w6 wc.heap.size v' (upto (k + 1))) := by
          rw [upto_succ]
          show Own _ _ _ _ _
          rw [List.map_append]
          exact hown'
        have HW6 := hide (HB2.out.trans hb')
        clear hown2 hown' hb' HB2 y2
        go_wp2
        exact ⟨⟨k + 1, by go_num, by omega, HO6, HW6⟩, by simp [intOf]; omega⟩
      · obtain rfl : k = q.length := by omega
        have HS2 := hide (HS.out.next HW.out)
        obtain ⟨ga, gc, rfl, hI⟩ := HI.out.at
        rw [upto_len] at hI
        have hul := upto_len q.length
        have HI2 := hide hI
        have hF := HF.out
        clear HS HW HI hI
        have y0 := HS2.out.bD.cell 0
        have y1 := HS2.out.bD.cell 1
        simp only [List.getElem?_toArray, List.getElem?_cons_succ, List.getElem?_cons_zero] at y0 y1
        cases bv with
        | false =>
          have hc1 := crB_disk hbv (fun i => (upto q.length).getD i 0) q.length 1099511627776
          go_wp2_with fail
          rw [hul]
          refine (impl_Crash _ (dc l s q) ga q.length gc (fun i => (upto q.length).getD i 0) 1099511627776 wr hF (by decide) HS2.out.is hql HI2.out).mono ?_
          rintro e w3 ⟨⟨u, rfl, hM⟩, hb3⟩
          rw [hc1.2] at hM
          rw [hc1.1]
          obtain ⟨b0, r0, b1, r1, b2, r2, rfl, hA⟩ := DskAt.made hM
          simp only [List.length_nil] at hA ⊢
          have HS3 := hide ((HS2.out.next hb3).next (below_one w3 (.cells #[.slice b0 0 r0, .slice b1 0 r1, .slice b2 0 r2] 31)))
          have HA3 := hide (hA.next (below_one w3 (.cells #[.slice b0 0 r0, .slice b1 0 r1, .slice b2 0 r2] 31)))
          have HX3 := (BoxIs.new w3 #[.slice b0 0 r0, .slice b1 0 r1, .slice b2 0 r2] 31 rfl).hid
          clear HS2 HI2 hM hb3 hA y0 y1 y2 hc1
          go_upto_region 12 with fail
          generalize w3.alloc (.cells #[.slice b0 0 r0, .slice b1 0 r1, .slice b2 0 r2] 31) = W3 at HS3 HA3 HX3 ⊢
          generalize w3.heap.size = EA at HX3 ⊢
          have y0 := HS3.out.bD.cell 0
          have y1 := HS3.out.bD.cell 1
          have y2 := HS3.out.bD.cell 2
          simp only [List.getElem?_toArray, List.getElem?_cons_succ, List.getElem?_cons_zero] at y0 y1 y2
          have hc2 := crB_disk hbv (fun _ => 0) 0 0
          go_wp2_with fail
          refine (impl_Crash _ (dc l s q) none 0 0 (fun _ => 0) 0 W3 hF (by decide) HS3.out.is (by decide) (.inl rfl)).mono ?_
          rintro e w4 ⟨⟨u, rfl, hM⟩, hb4⟩
          rw [hc2.2] at hM
          rw [hc2.1]
          obtain ⟨c0, t0, c1, t1, c2, t2, rfl, hB⟩ := DskAt.made hM
          simp only [List.length_nil] at hB ⊢
          have HS4 := hide ((HS3.out.next hb4).next (below_one w4 (.cells #[.slice c0 0 t0, .slice c1 0 t1, .slice c2 0 t2] 31)))
          have HA4 := hide ((HA3.out.next hb4).next (below_one w4 (.cells #[.slice c0 0 t0, .slice c1 0 t1, .slice c2 0 t2] 31)))
          have HX4 := ((HX3.out.next hb4).next (below_one w4 (.cells #[.slice c0 0 t0, .slice c1 0 t1, .slice c2 0 t2] 31))).hid
          have HB4 := hide (hB.next (below_one w4 (.cells #[.slice c0 0 t0, .slice c1 0 t1, .slice c2 0 t2] 31)))
          have HY4 := (BoxIs.new w4 #[.slice c0 0 t0, .slice c1 0 t1, .slice c2 0 t2] 31 rfl).hid
          clear HS3 HA3 HX3 hM hb4 hB y0 y1 y2 hc2
          go_upto_region 13 with fail
          generalize w4.alloc (.cells #[.slice c0 0 t0, .slice c1 0 t1, .slice c2 0 t2] 31) = W4 at HS4 HA4 HX4 HB4 HY4 ⊢
          generalize w4.heap.size = EB at HY4 ⊢
          have y0 := HS4.out.bD.cell 0
          have y1 := HS4.out.bD.cell 1
          have y2 := HS4.out.bD.cell 2
          simp only [List.getElem?_toArray, List.getElem?_cons_succ, List.getElem?_cons_zero] at y0 y1 y2
          have hbD := HF
          go_wp2_with fail
          refine (impl_DiskOk _ (dc l s q) W4 hF HS4.out.is).mono ?_
          rintro e w5 ⟨rfl, hb5⟩
          rw [hbv]
          have HS5 := hide (HS4.out.next hb5)
          have HA5 := hide (HA4.out.next hb5)
          have HX5 := (HX4.out.next hb5).hid
          have HB5 := hide (HB4.out.next hb5)
          have HY5 := (HY4.out.next hb5).hid
          clear HS4 HA4 HX4 HB4 HY4 hb5 y0 y1 y2
          have x0 := HX5.out.cell 0
          simp only [List.getElem?_toArray, List.getElem?_cons_succ, List.getElem?_cons_zero] at x0
          go_wp2
          go_ret
          exact ⟨by simp, HS5.out.low⟩
        | true =>
          have hc1 := crash_right hbv (t := 1099511627776) (by omega)
          go_wp2_with fail
          rw [hul]
          refine (impl_Crash _ (dc l s q) ga q.length gc (fun i => (upto q.length).getD i 0) 1099511627776 wr hF (by decide) HS2.out.is hql HI2.out).mono ?_
          rintro e w3 ⟨⟨u, rfl, hM⟩, hb3⟩
          rw [hc1.2] at hM
          rw [hc1.1]
          obtain ⟨b0, r0, b1, r1, b2, r2, rfl, hA⟩ := DskAt.made hM
          simp only [List.length_nil] at hA ⊢
          have HS3 := hide ((HS2.out.next hb3).next (below_one w3 (.cells #[.slice b0 l.length r0, .slice b1 l.length r1, .slice b2 0 r2] 31)))
          have HA3 := hide (hA.next (below_one w3 (.cells #[.slice b0 l.length r0, .slice b1 l.length r1, .slice b2 0 r2] 31)))
          have HX3 := (BoxIs.new w3 #[.slice b0 l.length r0, .slice b1 l.length r1, .slice b2 0 r2] 31 rfl).hid
          clear HS2 HI2 hM hb3 hA y0 y1 y2 hc1
          go_upto_region 12 with fail
          generalize w3.alloc (.cells #[.slice b0 l.length r0, .slice b1 l.length r1, .slice b2 0 r2] 31) = W3 at HS3 HA3 HX3 ⊢
          generalize w3.heap.size = EA at HX3 ⊢
          have y0 := HS3.out.bD.cell 0
          have y1 := HS3.out.bD.cell 1
          have y2 := HS3.out.bD.cell 2
          simp only [List.getElem?_toArray, List.getElem?_cons_succ, List.getElem?_cons_zero] at y0 y1 y2
          have hc2 := crash_right0 hbv
          go_wp2_with fail
          refine (impl_Crash _ (dc l s q) none 0 0 (fun _ => 0) 0 W3 hF (by decide) HS3.out.is (by decide) (.inl rfl)).mono ?_
          rintro e w4 ⟨⟨u, rfl, hM⟩, hb4⟩
          rw [hc2.2] at hM
          rw [hc2.1]
          obtain ⟨c0, t0, c1, t1, c2, t2, rfl, hB⟩ := DskAt.made hM
          simp only [List.length_nil] at hB ⊢
          have HS4 := hide ((HS3.out.next hb4).next (below_one w4 (.cells #[.slice c0 s.length t0, .slice c1 s.length t1, .slice c2 0 t2] 31)))
          have HA4 := hide ((HA3.out.next hb4).next (below_one w4 (.cells #[.slice c0 s.length t0, .slice c1 s.length t1, .slice c2 0 t2] 31)))
          have HX4 := ((HX3.out.next hb4).next (below_one w4 (.cells #[.slice c0 s.length t0, .slice c1 s.length t1, .slice c2 0 t2] 31))).hid
          have HB4 := hide (hB.next (below_one w4 (.cells #[.slice c0 s.length t0, .slice c1 s.length t1, .slice c2 0 t2] 31)))
          have HY4 := (BoxIs.new w4 #[.slice c0 s.length t0, .slice c1 s.length t1, .slice c2 0 t2] 31 rfl).hid
          clear HS3 HA3 HX3 hM hb4 hB y0 y1 y2 hc2
          go_upto_region 13 with fail
          generalize w4.alloc (.cells #[.slice c0 s.length t0, .slice c1 s.length t1, .slice c2 0 t2] 31) = W4 at HS4 HA4 HX4 HB4 HY4 ⊢
          generalize w4.heap.size = EB at HY4 ⊢
          have y0 := HS4.out.bD.cell 0
          have y1 := HS4.out.bD.cell 1
          have y2 := HS4.out.bD.cell 2
          simp only [List.getElem?_toArray, List.getElem?_cons_succ, List.getElem?_cons_zero] at y0 y1 y2
          have hbD := HF
          go_wp2_with fail
          refine (impl_DiskOk _ (dc l s q) W4 hF HS4.out.is).mono ?_
          rintro e w5 ⟨rfl, hb5⟩
          rw [hbv]
          have HS5 := hide (HS4.out.next hb5)
          have HA5 := hide (HA4.out.next hb5)
          have HX5 := (HX4.out.next hb5).hid
          have HB5 := hide (HB4.out.next hb5)
          have HY5 := (HY4.out.next hb5).hid
          clear HS4 HA4 HX4 HB4 HY4 hb5 y0 y1 y2
          have x0 := HX5.out.cell 0
          simp only [List.getElem?_toArray, List.getElem?_cons_succ, List.getElem?_cons_zero] at x0
          have y0 := HS5.out.bD.cell 0
          have y1 := HS5.out.bD.cell 1
          have y2 := HS5.out.bD.cell 2
          simp only [List.getElem?_toArray, List.getElem?_cons_succ, List.getElem?_cons_zero] at y0 y1 y2
          go_wp2_with fail
          refine (impl_Sync _ (dc l s q) w5 hF HS5.out.is).mono ?_
          rintro e w6 ⟨⟨u, rfl, hM⟩, hb6⟩
          rw [(syL_yes hbv).trans (dc_live l s q)] at hM
          obtain ⟨d0, g0, d1, g1, d2, g2, rfl, hS⟩ := DskAt.made hM
          simp only [List.length_nil] at hS ⊢
          have HS6 := hide ((HS5.out.next hb6).next (below_one w6 (.cells #[.slice d0 l.length g0, .slice d1 l.length g1, .slice d2 0 g2] 31)))
          have HA6 := hide ((HA5.out.next hb6).next (below_one w6 (.cells #[.slice d0 l.length g0, .slice d1 l.length g1, .slice d2 0 g2] 31)))
          have HX6 := ((HX5.out.next hb6).next (below_one w6 (.cells #[.slice d0 l.length g0, .slice d1 l.length g1, .slice d2 0 g2] 31))).hid
          have HB6 := hide ((HB5.out.next hb6).next (below_one w6 (.cells #[.slice d0 l.length g0, .slice d1 l.length g1, .slice d2 0 g2] 31)))
          have HY6 := ((HY5.out.next hb6).next (below_one w6 (.cells #[.slice d0 l.length g0, .slice d1 l.length g1, .slice d2 0 g2] 31))).hid
          have HT6 := hide (hS.next (below_one w6 (.cells #[.slice d0 l.length g0, .slice d1 l.length g1, .slice d2 0 g2] 31)))
          have HZ6 := (BoxIs.new w6 #[.slice d0 l.length g0, .slice d1 l.length g1, .slice d2 0 g2] 31 rfl).hid
          clear HS5 HA5 HX5 HB5 HY5 hb6 y0 y1 y2 x0 hM hS
          go_upto_region 18 with fail
          generalize w6.alloc (.cells #[.slice d0 l.length g0, .slice d1 l.length g1, .slice d2 0 g2] 31) = W6 at HS6 HA6 HX6 HB6 HY6 HT6 HZ6 ⊢
          generalize w6.heap.size = ES at HZ6 ⊢
          have y0 := HS6.out.bD.cell 0
          have y1 := HS6.out.bD.cell 1
          have x0 := HX6.out.cell 0
          have x1 := HX6.out.cell 1
          have x2 := HX6.out.cell 2
          have z0 := HY6.out.cell 0
          have z2 := HY6.out.cell 2
          have v1 := HZ6.out.cell 1
          have v2 := HZ6.out.cell 2
          simp only [List.getElem?_toArray, List.getElem?_cons_succ, List.getElem?_cons_zero] at y0 y1 x0 x1 x2 z0 z2 v1 v2
          go_wp2_with fail
          clear y0 y1 x0 x1 x2 z0 z2 v1 v2
          refine (laws_sameFilesL (l := l) (m := l) rfl rfl rfl hll HA6.out.h0 HS6.out.at_.h0).mono ?_
          rintro e w7 ⟨rfl, hb7⟩
          have HS7 := hide (HS6.out.next hb7)
          have HA7 := hide (HA6.out.next hb7)
          have HB7 := hide (HB6.out.next hb7)
          have HT7 := hide (HT6.out.next hb7)
          have HX7 := (HX6.out.next hb7).hid
          have HY7 := (HY6.out.next hb7).hid
          have HZ7 := (HZ6.out.next hb7).hid
          clear HS6 HA6 HB6 HT6 HX6 HY6 HZ6 hb7
          have y0 := HS7.out.bD.cell 0
          have y1 := HS7.out.bD.cell 1
          have x0 := HX7.out.cell 0
          have x1 := HX7.out.cell 1
          have x2 := HX7.out.cell 2
          have z0 := HY7.out.cell 0
          have z2 := HY7.out.cell 2
          have v1 := HZ7.out.cell 1
          have v2 := HZ7.out.cell 2
          simp only [List.getElem?_toArray, List.getElem?_cons_succ, List.getElem?_cons_zero] at y0 y1 x0 x1 x2 z0 z2 v1 v2
          go_wp2_with fail
          clear y0 y1 x0 x1 x2 z0 z2 v1 v2
          refine (laws_sameFilesL (l := l) (m := l) rfl rfl rfl hll HA7.out.h1 HS7.out.at_.h0).mono ?_
          rintro e w8 ⟨rfl, hb8⟩
          have HS8 := hide (HS7.out.next hb8)
          have HA8 := hide (HA7.out.next hb8)
          have HB8 := hide (HB7.out.next hb8)
          have HT8 := hide (HT7.out.next hb8)
          have HX8 := (HX7.out.next hb8).hid
          have HY8 := (HY7.out.next hb8).hid
          have HZ8 := (HZ7.out.next hb8).hid
          clear HS7 HA7 HB7 HT7 HX7 HY7 HZ7 hb8
          have y0 := HS8.out.bD.cell 0
          have y1 := HS8.out.bD.cell 1
          have x0 := HX8.out.cell 0
          have x1 := HX8.out.cell 1
          have x2 := HX8.out.cell 2
          have z0 := HY8.out.cell 0
          have z2 := HY8.out.cell 2
          have v1 := HZ8.out.cell 1
          have v2 := HZ8.out.cell 2
          simp only [List.getElem?_toArray, List.getElem?_cons_succ, List.getElem?_cons_zero] at y0 y1 x0 x1 x2 z0 z2 v1 v2
          go_wp2_with fail
          clear y0 y1 x0 x1 x2 z0 z2 v1 v2
          refine (laws_sameFilesL (l := s) (m := s) rfl rfl rfl hsl HB8.out.h0 HS8.out.at_.h1).mono ?_
          rintro e w9 ⟨rfl, hb9⟩
          have HS9 := hide (HS8.out.next hb9)
          have HA9 := hide (HA8.out.next hb9)
          have HB9 := hide (HB8.out.next hb9)
          have HT9 := hide (HT8.out.next hb9)
          have HX9 := (HX8.out.next hb9).hid
          have HY9 := (HY8.out.next hb9).hid
          have HZ9 := (HZ8.out.next hb9).hid
          clear HS8 HA8 HB8 HT8 HX8 HY8 HZ8 hb9
          have y0 := HS9.out.bD.cell 0
          have y1 := HS9.out.bD.cell 1
          have x0 := HX9.out.cell 0
          have x1 := HX9.out.cell 1
          have x2 := HX9.out.cell 2
          have z0 := HY9.out.cell 0
          have z2 := HY9.out.cell 2
          have v1 := HZ9.out.cell 1
          have v2 := HZ9.out.cell 2
          simp only [List.getElem?_toArray, List.getElem?_cons_succ, List.getElem?_cons_zero] at y0 y1 x0 x1 x2 z0 z2 v1 v2
          go_wp2_with fail
          clear y0 y1 x0 x1 x2 z0 z2 v1 v2
          refine (laws_sameFilesL (l := l) (m := l) rfl rfl rfl hll HT9.out.h1 HS9.out.at_.h0).mono ?_
          rintro e w10 ⟨rfl, hb10⟩
          have HS10 := hide (HS9.out.next hb10)
          have HA10 := hide (HA9.out.next hb10)
          have HB10 := hide (HB9.out.next hb10)
          have HT10 := hide (HT9.out.next hb10)
          have HX10 := (HX9.out.next hb10).hid
          have HY10 := (HY9.out.next hb10).hid
          have HZ10 := (HZ9.out.next hb10).hid
          clear HS9 HA9 HB9 HT9 HX9 HY9 HZ9 hb10
          have y0 := HS10.out.bD.cell 0
          have y1 := HS10.out.bD.cell 1
          have x0 := HX10.out.cell 0
          have x1 := HX10.out.cell 1
          have x2 := HX10.out.cell 2
          have z0 := HY10.out.cell 0
          have z2 := HY10.out.cell 2
          have v1 := HZ10.out.cell 1
          have v2 := HZ10.out.cell 2
          simp only [List.getElem?_toArray, List.getElem?_cons_succ, List.getElem?_cons_zero] at y0 y1 x0 x1 x2 z0 z2 v1 v2
          go_wp2
          go_ret
          exact ⟨by simp, HS10.out.low⟩

end Go.Proofs.Ytejedpmkbkclhaa
