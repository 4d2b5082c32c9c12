/- Replace of both sides, as the law on it asks. -/
import Derived.Test.YtejedpmkbkclhaaRpI
import Derived.Test.YtejedpmkbkclhaaRpS
import Derived.Test.YtejedpmkbkclhaaDrawN
import Derived.Test.YtejedpmkbkclhaaCrW
import Derived.Test.YtejedpmkbkclhaaCrI
import Derived.Test.YtejedpmkbkclhaaDskF
import Derived.Test.YtejedpmkbkclhaaInts
import Derived.Test.YtejedpmkbkclhaaMgSyODoORpPRpQDskRow
import Derived.Test.YtejedpmkbkclhaaDSy
import Derived.Deep.DeepCutAuto
namespace Go.Proofs.Ytejedpmkbkclhaa
set_option maxRecDepth 100000
open Go.RowKit Go.Deep

theorem spec_ReplaceO (v : Value) (c : DiskC) (m d : ByteArray) (w : World) (hf : c.Fit) (hm : m.size ≤ 1048576) (hd : d.size ≤ 1048576) (hv : DiskIs w v c) :
    Calls Try.prog 32 #[v, .string m, .string d] w fun e w' => (∃ u, e = .returned (.tuple #[u, .int .i64 (rpK c m d)]) ∧ DiskOwn w' w.heap.size u (rpC c m d)) ∧ Below w.heap.size w w' :=
  spec_Replace v c m d w hf hm hd hv
theorem impl_ReplaceO (v : Value) (c : DiskC) (m d : ByteArray) (w : World) (hf : c.Fit) (hm : m.size ≤ 1048576) (hd : d.size ≤ 1048576) (hv : DiskIs w v c) :
    Calls Try.prog 33 #[v, .string m, .string d] w fun e w' => (∃ u, e = .returned (.tuple #[u, .int .i64 (rpK c m d)]) ∧ DiskOwn w' w.heap.size u (rpC c m d)) ∧ Below w.heap.size w w' :=
  impl_Replace v c m d w hf hm hd hv

end Go.Proofs.Ytejedpmkbkclhaa

/- The law FnReplaced, walked. (By gen_lreplaced.py.) -/
namespace Go.Proofs.Ytejedpmkbkclhaa
set_option maxRecDepth 100000
open Go.RowKit Go.Deep

/-- What the law holds all along: the synced disk in its box. -/
structure CR (w : World) (D : Nat) (e0 : Option Addr) (g0 : Nat) (e1 : Option Addr) (g1 : Nat) (e2 : Option Addr) (g2 : Nat) (S : List File1) (x : World) : Prop where
  low : Below w.heap.size w x
  bD : BoxIs x D #[.slice e0 S.length g0, .slice e1 S.length g1, .slice e2 0 g2] 31
  at_ : DskAt x e0 g0 e1 g1 e2 g2 S S []
  hD : w.heap.size ≤ D
theorem CR.next {w x y : World} {D : Nat} {e0 e1 e2 : Option Addr} {g0 g1 g2 : Nat} {S : List File1} (h : CR w D e0 g0 e1 g1 e2 g2 S x) (b : Below x.heap.size x y) : CR w D e0 g0 e1 g1 e2 g2 S y := ⟨h.low.trans (b.mono h.low.size), h.bD.next b, h.at_.next b, h.hD⟩
theorem CR.is {w x : World} {D : Nat} {e0 e1 e2 : Option Addr} {g0 g1 g2 : Nat} {S : List File1} (h : CR w D e0 g0 e1 g1 e2 g2 S x) : DiskIs x (.agg #[.slice e0 S.length g0, .slice e1 S.length g1, .slice e2 0 g2]) (dc S S []) := h.at_.is
theorem sy_right (c : DiskC) : dB (dc (syL c) (syL c) []) = true := by
  cases h : dB c with
  | true => exact sync_right h
  | false => rw [syL_no h]; exact none_right
/-- The ops that are kept so far. -/
def KeptB (ks : List Int) (n : Nat) : Prop := (∀ x, x ∈ ks → 0 ≤ x ∧ x < (n : Int)) ∧ ks.Pairwise (· < ·)
theorem kept_nil : KeptB [] 0 := ⟨fun _ h => absurd h List.not_mem_nil, List.Pairwise.nil⟩
theorem kept_skip {ks : List Int} {n : Nat} (h : KeptB ks n) : KeptB ks (n + 1) := ⟨fun x hx => by have := h.1 x hx; omega, h.2⟩
theorem kept_more {ks : List Int} {n : Nat} (h : KeptB ks n) : KeptB (ks ++ [(n : Int)]) (n + 1) := by
  refine ⟨fun x hx => ?_, List.pairwise_append.2 ⟨h.2, List.pairwise_singleton _ _, fun a ha b hb => ?_⟩⟩
  · rcases List.mem_append.1 hx with hx | hx
    · have := h.1 x hx; omega
    · obtain rfl := List.mem_singleton.1 hx; omega
  · obtain rfl := List.mem_singleton.1 hb
    exact (h.1 a ha).2
theorem kept_ups {ks : List Int} (h : KeptB ks 2) : upsB 1 (fun i => ks.getD i 0) ks.length = true := by
  refine upsB_yes fun i hi => ?_
  have hg : ks.getD i 0 = ks[i] := by simp [List.getD, hi]
  have h1 := h.1 _ (List.getElem_mem hi)
  unfold upB
  rw [Bool.and_eq_true, Bool.or_eq_true, decide_eq_true_eq, decide_eq_true_eq, decide_eq_true_eq]
  refine ⟨by show 0 ≤ ks.getD i 0 ∧ ks.getD i 0 ≤ 1; rw [hg]; omega, ?_⟩
  by_cases h0 : i = 0
  · exact .inl h0
  · have hi1 : i - 1 < ks.length := by omega
    have hg1 : ks.getD (i - 1) 0 = ks[i - 1] := by simp [List.getD, hi1]
    have := List.pairwise_iff_getElem.1 h.2 (i - 1) i hi1 hi (by omega)
    exact .inr (by show ks.getD (i - 1) 0 < ks.getD i 0; rw [hg, hg1]; exact this)
theorem crL_fitW (c : DiskC) (K : Nat → Int) (n : Nat) (t : Int) : fitL (crL c K n t) := by
  cases h : crB c K n t with
  | false => unfold crL; rw [h]; exact fitL_nil
  | true =>
    have e : crL c K n t = crS (filesL c.r1 c.n1) c.r2 K n t n := by unfold crL; rw [h]; rfl
    unfold crB at h
    simp only [Bool.and_eq_true, decide_eq_true_eq] at h
    obtain ⟨⟨⟨hd, hu⟩, ht⟩, hfi⟩ := h
    obtain ⟨_, hl1, h200⟩ := dB_parts hd
    have hse := dB_see hd
    have hcr : ∀ k, k ≤ n → CrF (crS (filesL c.r1 c.n1) c.r2 K n t k) k := by
      intro k
      induction k with
      | zero => intro _; exact CrF.start hl1
      | succ k ih =>
        intro hk
        obtain ⟨h0, h1⟩ := ups_at hu (show k < n by omega)
        obtain ⟨h2, h3⟩ := opC_ok hse (K := K) (n := n) t (k := k) h0 (by omega)
        exact (ih (by omega)).step h2 h3
    have hc := hcr n (Nat.le_refl _)
    obtain ⟨h1, h2⟩ := fits_sizes hfi
    rw [e]
    refine ⟨by omega, fun x hx => ⟨?_, ?_⟩⟩
    · have := nameB_size (hc.nm x hx); omega
    · have := sizeF_mem hx; omega
/-- What the law asks of the disk behind the loss of power. -/
structure Aft (S : List File1) (m d : ByteArray) (A : DiskC) (ks : List Int) (t : Int) : Prop where
  ok : crB A (fun i => ks.getD i 0) ks.length t = true
  one : (rfB (dc (crL A (fun i => ks.getD i 0) ks.length t) (crL A (fun i => ks.getD i 0) ks.length t) []) m = rfB (dc S S []) m ∧ rfV (dc (crL A (fun i => ks.getD i 0) ks.length t) (crL A (fun i => ks.getD i 0) ks.length t) []) m = rfV (dc S S []) m) ∨ (rfB (dc (crL A (fun i => ks.getD i 0) ks.length t) (crL A (fun i => ks.getD i 0) ks.length t) []) m = true ∧ rfV (dc (crL A (fun i => ks.getD i 0) ks.length t) (crL A (fun i => ks.getD i 0) ks.length t) []) m = d)
theorem aft_of {S : List File1} {m d : ByteArray} (hd : dB (dc S S []) = true) (hk : rpK (dc S S []) m d = 0) (hn : rfB (dc S S []) (m ++ newB) = false) :
    (rpC (dc S S []) m d).n2 = 2 ∧ dc (filesL (rpC (dc S S []) m d).r0 (rpC (dc S S []) m d).n0) (filesL (rpC (dc S S []) m d).r1 (rpC (dc S S []) m d).n1) (dOpsL (rpC (dc S S []) m d).r2 (rpC (dc S S []) m d).n2) = rpC (dc S S []) m d ∧
    rfB (rpC (dc S S []) m d) m = true ∧ rfV (rpC (dc S S []) m d) m = d ∧ ∀ (ks : List Int) (t : Int), KeptB ks 2 → 0 ≤ t → Aft S m d (rpC (dc S S []) m d) ks t := by
  have h := repl_of hd hk hn
  obtain ⟨h1, h2⟩ := h.seen
  refine ⟨(h.ops rfl).2, by rw [h.ans]; exact copy_doC _ _, h1, h2, fun ks t hks ht => ?_⟩
  obtain ⟨k1, k2⟩ := h.law rfl (by rw [dc_safe, dc_live]) (kept_ups hks) ht
  exact ⟨k1, k2⟩

set_option linter.unusedSimpArgs false in
set_option linter.unusedVariables false in
set_option maxHeartbeats 8000000 in
theorem walk_FnReplaced (v : Value) {w : World} (hv : IsBytes w v) (_w : World) :
    Calls Try.prog 11 #[v] w fun e w' => e = .returned (.bool true) ∧ Below w.heap.size w w' := by
  obtain ⟨a, len, cap, rfl, hc, hm⟩ := hv
  have hi5 : (Try.prog.info? 2).map (fun i => (i.zero, i.size, i.bytes)) = some (some (.int .i64 0), 1, 8) := by kernel_rfl
  by_cases hbig : 1048576 < len
  · have hd : decide (1048576 < len) = true := by simp [hbig]
    go_enter Try.func11, Try.ntmps11
    go_wp2_with fail
    refine (laws_bigO a len cap hm _).mono ?_
    rintro e w1 ⟨rfl, rfl⟩
    go_wp2
    go_ret
    exact ⟨rfl, Below.refl _ _⟩
  · have hd : decide (1048576 < len) = false := by simp [hbig]
    have hl : len ≤ 1048576 := by omega
    go_enter Try.func11, Try.ntmps11
    go_wp2_with fail
    refine (laws_bigO a len cap hm _).mono ?_
    rintro e w1 ⟨rfl, rfl⟩
    go_wp2_with fail
    refine (draw_Replace w _ a len cap hc hl (Below.refl _ _)).mono ?_
    rintro e w1 ⟨a0, p0, a1, p1, a2, p2, l, s, q, m, d, rfl, hF, hms, hds, hA, hb1⟩
    clear hd
    have HC := hide hc
    have HL := hide (hb1.trans ((below_one w1 (.cells #[.slice a0 l.length p0, .slice a1 s.length p1, .slice a2 q.length p2] 31)).mono hb1.size))
    have HX := (BoxIs.new w1 #[.slice a0 l.length p0, .slice a1 s.length p1, .slice a2 q.length p2] 31 rfl).hid
    have HA := hide (hA.next (below_one w1 (.cells #[.slice a0 l.length p0, .slice a1 s.length p1, .slice a2 q.length p2] 31)))
    have HF := hide hF
    have hD := hb1.size
    clear hb1 hA hF hc
    go_upto_region 4 with fail
    generalize w1.alloc (.cells #[.slice a0 l.length p0, .slice a1 s.length p1, .slice a2 q.length p2] 31) = W1 at HL HX HA ⊢
    generalize w1.heap.size = D at HX hD ⊢
    have y0 := HX.out.cell 0
    have y1 := HX.out.cell 1
    have y2 := HX.out.cell 2
    simp only [List.getElem?_toArray, List.getElem?_cons_succ, List.getElem?_cons_zero] at y0 y1 y2
    go_wp2_with fail
    refine (impl_Sync _ (dc l s q) W1 HF.out HA.out.is).mono ?_
    rintro e w2 ⟨⟨u, rfl, hM⟩, hb2⟩
    have HFS := hide (syC_fit HF.out)
    have hrd := sy_right (dc l s q)
    unfold syC at HFS
    generalize syL (dc l s q) = S at hM HFS hrd ⊢
    have hx2 := HX.out.next hb2
    obtain ⟨e0, g0, e1, g1, e2, g2, rfl⟩ := hM.shape
    simp only [List.length_nil] at hM ⊢
    have hrow := hM.row
    have hZ := (hrow.put3 hx2 (.slice e0 S.length g0) (.slice e1 S.length g1) (.slice e2 0 g2)).is.lists
    have hlow := HL.out.trans (hb2.mono HL.out.size)
    have hBox := ((hx2.set 0 (.slice e0 S.length g0)).set 1 (.slice e1 S.length g1)).set 2 (.slice e2 0 g2)
    obtain ⟨_, _, _, _, _, _, e, hZ⟩ := hZ
    rw [dc_live, dc_safe, dc_ops] at e hZ
    simp only [Value.agg.injEq, Array.mk.injEq, List.cons.injEq, and_true, Value.slice.injEq, true_and, List.length_nil] at e
    obtain ⟨⟨rfl, rfl⟩, ⟨rfl, rfl⟩, rfl, rfl⟩ := e
    have HS := hide (⟨below_put3 hlow hD _ _ _, hBox, hZ, hD⟩ : CR w D e0 g0 e1 g1 e2 g2 S (((w2.setCell ⟨D, 0, none⟩ (.slice e0 S.length g0)).setCell ⟨D, 1, none⟩ (.slice e1 S.length g1)).setCell ⟨D, 2, none⟩ (.slice e2 0 g2)))
    have v0 := hx2.cell 0
    have v1 := hx2.cell 1
    have v2 := hx2.cell 2
    have vf := hx2.free
    simp only [List.getElem?_toArray, List.getElem?_cons_succ, List.getElem?_cons_zero] at v0 v1 v2
    have Hrd := hide hrd
    clear HL HX HA HF hM hb2 hx2 hrow hlow hBox hZ y0 y1 y2 hrd
    go_upto_region 5 with fail
    clear v0 v1 v2 vf
    generalize ((w2.setCell ⟨D, 0, none⟩ (.slice e0 S.length g0)).setCell ⟨D, 1, none⟩ (.slice e1 S.length g1)).setCell ⟨D, 2, none⟩ (.slice e2 0 g2) = W2 at HS ⊢
    have hF := HFS.out
    have y0 := HS.out.bD.cell 0
    have y1 := HS.out.bD.cell 1
    have y2 := HS.out.bD.cell 2
    simp only [List.getElem?_toArray, List.getElem?_cons_succ, List.getElem?_cons_zero] at y0 y1 y2
    go_wp2_with fail
    refine (impl_Replace _ (dc S S []) m d W2 hF (by omega) (by omega) HS.out.is).mono ?_
    rintro e w3 ⟨⟨u, rfl, hO⟩, hb3⟩
    have HFA := hide (copyC_fit (rpC_fit hF m d (by omega) (by omega)))
    have HAft := hide (@aft_of S m d Hrd.out)
    obtain ⟨kk, hkk⟩ : ∃ kk, rpK (dc S S []) m d = kk := ⟨_, rfl⟩
    rw [hkk] at HAft ⊢
    obtain ⟨b0, r0, b1, r1, b2, r2, rfl, hA⟩ := hO.is.lists
    obtain ⟨A, hAe⟩ : ∃ A, rpC (dc S S []) m d = A := ⟨_, rfl⟩
    rw [hAe] at HFA HAft hA ⊢
    obtain ⟨LA, hLA⟩ : ∃ LA, filesL A.r0 A.n0 = LA := ⟨_, rfl⟩
    obtain ⟨SA, hSA⟩ : ∃ SA, filesL A.r1 A.n1 = SA := ⟨_, rfl⟩
    obtain ⟨QA, hQA⟩ : ∃ QA, dOpsL A.r2 A.n2 = QA := ⟨_, rfl⟩
    have hqn : QA.length = A.n2 := by rw [← hQA, dOpsL_len]
    rw [hLA, hSA, hQA] at HFA HAft hA ⊢
    have HQN := hide hqn
    have HS3 := hide ((HS.out.next hb3).next (below_one w3 (.cells #[.slice b0 LA.length r0, .slice b1 SA.length r1, .slice b2 QA.length r2] 31)))
    have HA3 := hide (hA.next (below_one w3 (.cells #[.slice b0 LA.length r0, .slice b1 SA.length r1, .slice b2 QA.length r2] 31)))
    have HX3 := (BoxIs.new w3 #[.slice b0 LA.length r0, .slice b1 SA.length r1, .slice b2 QA.length r2] 31 rfl).hid
    clear HS hO hb3 hA y0 y1 y2 hLA hSA hQA hqn
    go_upto_region 6 with fail
    generalize w3.alloc (.cells #[.slice b0 LA.length r0, .slice b1 SA.length r1, .slice b2 QA.length r2] 31) = W3 at HS3 HA3 HX3 ⊢
    generalize w3.heap.size = EA at HX3 ⊢
    have y0 := HS3.out.bD.cell 0
    have y1 := HS3.out.bD.cell 1
    have y2 := HS3.out.bD.cell 2
    simp only [List.getElem?_toArray, List.getElem?_cons_succ, List.getElem?_cons_zero] at y0 y1 y2
    go_wp2_with fail
    refine (spec_Replace _ (dc S S []) m d W3 hF (by omega) (by omega) HS3.out.is).mono ?_
    rintro e w4 ⟨⟨u, rfl, hO⟩, hb4⟩
    rw [hkk]
    rw [hAe] at hO
    clear hkk hAe
    obtain ⟨c0, t0, c1, t1, c2, t2, rfl, _⟩ := hO.is.lists
    obtain ⟨LB, hLB⟩ : ∃ LB, filesL A.r0 A.n0 = LB := ⟨_, rfl⟩
    obtain ⟨SB, hSB⟩ : ∃ SB, filesL A.r1 A.n1 = SB := ⟨_, rfl⟩
    obtain ⟨QB, hQB⟩ : ∃ QB, dOpsL A.r2 A.n2 = QB := ⟨_, rfl⟩
    rw [hLB, hSB, hQB]
    have HS4 := hide ((HS3.out.next hb4).next (below_one w4 (.cells #[.slice c0 LB.length t0, .slice c1 SB.length t1, .slice c2 QB.length t2] 31)))
    have HA4 := hide ((HA3.out.next hb4).next (below_one w4 (.cells #[.slice c0 LB.length t0, .slice c1 SB.length t1, .slice c2 QB.length t2] 31)))
    have HX4 := ((HX3.out.next hb4).next (below_one w4 (.cells #[.slice c0 LB.length t0, .slice c1 SB.length t1, .slice c2 QB.length t2] 31))).hid
    clear HS3 HA3 HX3 hO hb4 y0 y1 y2 hLB hSB hQB
    go_upto_region 7 with fail
    generalize w4.alloc (.cells #[.slice c0 LB.length t0, .slice c1 SB.length t1, .slice c2 QB.length t2] 31) = W4 at HS4 HA4 HX4 ⊢
    generalize w4.heap.size = EB
    by_cases hk0 : kk = 0
    · subst hk0
      have y0 := HS4.out.bD.cell 0
      have y1 := HS4.out.bD.cell 1
      have y2 := HS4.out.bD.cell 2
      simp only [List.getElem?_toArray, List.getElem?_cons_succ, List.getElem?_cons_zero] at y0 y1 y2
      have hsum : ¬ 9223372036854775807 < m.size + (⟨#[46, 110, 101, 119]⟩ : ByteArray).size := by
        have : (⟨#[46, 110, 101, 119]⟩ : ByteArray).size = 4 := rfl
        omega
      go_wp2_with fail
      refine (impl_ReadFile _ (dc S S []) (m ++ newB) W4 (by rw [ByteArray.size_append]; have : newB.size = 4 := rfl; omega) hF HS4.out.is).mono ?_
      rintro e w5 ⟨rfl, hb5⟩
      obtain ⟨bv, hbv⟩ : ∃ bv, rfB (dc S S []) (m ++ newB) = bv := ⟨_, rfl⟩
      rw [hbv] at HAft ⊢
      have HS5 := hide (HS4.out.next hb5)
      have HA5 := hide (HA4.out.next hb5)
      have HX5 := (HX4.out.next hb5).hid
      clear HS4 HA4 HX4 hb5 y0 y1 y2 hsum hbv
      cases bv with
      | true =>
        go_wp2
        go_ret
        exact ⟨by simp, HS5.out.low⟩
      | false =>
        obtain ⟨hn2, hcp, hnow, hnv, hall⟩ := HAft.out (by first | rfl | trivial) (by first | rfl | trivial)
        clear HAft
        have y0 := HS5.out.bD.cell 0
        have y1 := HS5.out.bD.cell 1
        have y2 := HS5.out.bD.cell 2
        simp only [List.getElem?_toArray, List.getElem?_cons_succ, List.getElem?_cons_zero] at y0 y1 y2
        have HQ := hide (HQN.out.trans hn2)
        have HCP := hide hcp
        have HNow := hide hnow
        have HNv := hide hnv
        have HAll := hide hall
        clear hn2 hcp hnow hnv hall HQN
        go_wp2_with fail
        refine (impl_ReadFile _ (dc S S []) m w5 (by omega) hF HS5.out.is).mono ?_
        rintro e w6 ⟨rfl, hb6⟩
        have HS6 := hide (HS5.out.next hb6)
        have HA6 := hide (HA5.out.next hb6)
        have HX6 := (HX5.out.next hb6).hid
        clear HS5 HA5 HX5 hb6 y0 y1 y2
        have HX7 : Hid (BoxIs w6 EA #[.slice b0 LA.length r0, .slice b1 SA.length r1, .slice b2 2 r2] 31) := by have h7 := HX6.out; rw [HQ.out] at h7; exact h7
        have HI0 : Hid (OwnI (w6.alloc (.cells #[] 2)) w6.heap.size (.slice (some ⟨w6.heap.size, 0, none⟩) 0 0) []) := Own.lit w6 w6.heap.size 2 [] 0 rfl (Nat.le_refl _) (by decide)
        have HW0 := hide (below_one w6 (.cells #[] 2))
        clear HX6
        go_wp2
        go_loopw [14, 15] (fun v i wr => ∃ (n : Nat) (ks : List Int), i = .int .i64 (n : Int) ∧ n ≤ 2 ∧ ks.length ≤ n ∧ Hid (KeptB ks n) ∧ Hid (OwnI wr w6.heap.size v ks) ∧ Hid (Below w6.heap.size w6 wr)) (fun _ i _ => 2 - (intOf i).toNat)
        case atStart => exact ⟨0, [], rfl, by omega, by simp, kept_nil, HI0, HW0⟩
        case round =>
          obtain ⟨n, ks, rfl, hn, hkl, HK, HI, HW⟩ := hrel
          clear HI0 HW0
          have x2 := (HX7.out.next HW.out).cell 2
          simp only [List.getElem?_toArray, List.getElem?_cons_succ, List.getElem?_cons_zero] at x2
          by_cases hlt : n < 2
          · have hki : (n : Int) < 2 := by omega
            have hlow := HS6.out.low.trans (HW.out.mono HS6.out.low.size)
            go_upto_region 17 with fail
            go_cut [95] (fun t95 wx => wx = wr ∧ ∃ b : Bool, t95 = .bool b)
            case first =>
              by_cases hln : 0 < len
              · rcases HC.out with h0 | ⟨cb, off, rfl, hcb, hcell⟩
                · omega
                · have hj : n % len < len := Nat.mod_lt _ hln
                  obtain ⟨cx, hcx0, hcx1, hcx⟩ := hcell (n % len) hj
                  have hcw := (hlow.cell (p := ⟨cb, off + n % len, none⟩) hcb).trans hcx
                  have hln' : (0 : Int) < (len : Int) := by omega
                  have hidx : (n : Int) % (len : Int) = ((n % len : Nat) : Int) := by simp
                  have hji : ((n % len : Nat) : Int) < (len : Int) := by omega
                  have hj0 : (0 : Int) ≤ ((n % len : Nat) : Int) := by omega
                  generalize n % len = j at hidx hji hj0 hcw hj
                  have hn8 : (n : Int) % 8 = (n : Int) := by omega
                  have hn0 : (0 : Int) ≤ (n : Int) := by omega
                  clear hcell hcx
                  go_wp2_with fail
                  go_meet
                  exact ⟨rfl, _, rfl⟩
              · obtain rfl : len = 0 := by omega
                go_wp2_with fail
                go_meet
                exact ⟨rfl, _, rfl⟩
            case rest =>
            obtain ⟨rfl, b, rfl⟩ := hcut
            cases b with
            | false =>
              clear x2 hlow
              go_wp2
              exact ⟨⟨n + 1, ks, by go_num, by omega, by omega, kept_skip HK.out, HI, HW⟩, by simp [intOf]; omega⟩
            | true =>
              have hown2 := Own.alloc HI.out (.cells #[.int .i64 (n : Int)] 2)
              have hb2 := below_one wc (.cells #[.int .i64 (n : Int)] 2)
              have HB2 := hide (HW.out.trans (hb2.mono HW.out.size))
              have hwz2 := HB2.out.size
              clear HI HW hb2 x2 hlow
              go_wp2_with (first
                | (at_builtin; refine wpList_append_cell rfl _ _ 45 rfl 2 Try.underlying45 hi5 rfl (by decide) w6.heap.size _ (.int .i64 (n : Int)) (ks.map (Value.int .i64)) (by rfl) ⟨wc.heap.size, 0, none⟩ (by rfl) ?c2 hown2 rfl hwz2 ?c1 ?_))
              case c1 => first | omega | (simp; omega)
              case c2 => simp
              intro v' w7 hown' hb'
              have HO7 : Hid (OwnI w7 w6.heap.size v' (ks ++ [(n : Int)])) := by
                show Own _ _ _ _ _
                rw [List.map_append]
                exact hown'
              have HW7 := hide (HB2.out.trans hb')
              clear hown2 hown' hb' HB2
              go_wp2
              exact ⟨⟨n + 1, ks ++ [(n : Int)], by go_num, by omega, by simp; omega, kept_more HK.out, HO7, HW7⟩, by simp [intOf]; omega⟩
          · obtain rfl : n = 2 := by omega
            have HS7 := hide (HS6.out.next HW.out)
            have HX8 := (HX7.out.next HW.out).hid
            have HA8 := hide (HA6.out.next HW.out)
            obtain ⟨ga, gc, rfl, hI⟩ := HI.out.at
            have HI2 := hide hI
            have ht : (0 : Int) ≤ (len : Int) % 4 := by omega
            have haft := HAll.out ks ((len : Int) % 4) HK.out ht
            clear HS6 HW HI hI HX7 HA6 HAll
            have x0 := HX8.out.cell 0
            have x1 := HX8.out.cell 1
            simp only [List.getElem?_toArray, List.getElem?_cons_succ, List.getElem?_cons_zero] at x0 x1
            go_wp2_with fail
            refine (impl_Crash _ (dc LA SA QA) ga ks.length gc (fun i => ks.getD i 0) ((len : Int) % 4) wr HFA.out (by omega) (by have h9 := HA8.out.is; rw [HQ.out] at h9; exact h9) (by omega) HI2.out).mono ?_
            rintro e w7 ⟨⟨u, rfl, hM⟩, hb7⟩
            rw [HCP.out] at hM ⊢
            obtain ⟨hok, hone⟩ := haft
            have hcf := crL_fitW A (fun i => ks.getD i 0) ks.length ((len : Int) % 4)
            rw [hok]
            generalize crL A (fun i => ks.getD i 0) ks.length ((len : Int) % 4) = CL at hM hone hcf
            have HFC := hide (dc_fit hcf hcf fitQ_nil)
            have HOne := hide hone
            obtain ⟨f0, h0, f1, h1, f2, h2, rfl, hB⟩ := DskAt.made hM
            simp only [List.length_nil] at hB ⊢
            have HS9 := hide ((HS7.out.next hb7).next (below_one w7 (.cells #[.slice f0 CL.length h0, .slice f1 CL.length h1, .slice f2 0 h2] 31)))
            have HA9 := hide ((HA8.out.next hb7).next (below_one w7 (.cells #[.slice f0 CL.length h0, .slice f1 CL.length h1, .slice f2 0 h2] 31)))
            have HX9 := ((HX8.out.next hb7).next (below_one w7 (.cells #[.slice f0 CL.length h0, .slice f1 CL.length h1, .slice f2 0 h2] 31))).hid
            have HB9 := hide (hB.next (below_one w7 (.cells #[.slice f0 CL.length h0, .slice f1 CL.length h1, .slice f2 0 h2] 31)))
            have HY9 := (BoxIs.new w7 #[.slice f0 CL.length h0, .slice f1 CL.length h1, .slice f2 0 h2] 31 rfl).hid
            clear HS7 HX8 HA8 HI2 hM hb7 hB hok hone hcf x0 x1 x2 ht HK
            go_upto_region 20 with fail
            generalize w7.alloc (.cells #[.slice f0 CL.length h0, .slice f1 CL.length h1, .slice f2 0 h2] 31) = W9 at HS9 HA9 HX9 HB9 HY9 ⊢
            generalize w7.heap.size = EC at HY9 ⊢
            have z0 := HY9.out.cell 0
            have z1 := HY9.out.cell 1
            have z2 := HY9.out.cell 2
            simp only [List.getElem?_toArray, List.getElem?_cons_succ, List.getElem?_cons_zero] at z0 z1 z2
            go_wp2_with fail
            refine (impl_ReadFile _ (dc CL CL []) m W9 (by omega) HFC.out HB9.out.is).mono ?_
            rintro e w10 ⟨rfl, hb10⟩
            have HS10 := hide (HS9.out.next hb10)
            have HA10 := hide (HA9.out.next hb10)
            have HX10 := (HX9.out.next hb10).hid
            clear HS9 HA9 HX9 HB9 HY9 hb10 z0 z1 z2
            have x0 := HX10.out.cell 0
            have x1 := HX10.out.cell 1
            have x2 := HX10.out.cell 2
            simp only [List.getElem?_toArray, List.getElem?_cons_succ, List.getElem?_cons_zero] at x0 x1 x2
            go_wp2_with fail
            refine (impl_ReadFile _ (dc LA SA QA) m w10 (by omega) HFA.out (by have h9 := HA10.out.is; rw [HQ.out] at h9; exact h9)).mono ?_
            rintro e w11 ⟨rfl, hb11⟩
            rw [HCP.out, HNow.out, HNv.out]
            have HS11 := hide (HS10.out.next hb11)
            clear HS10 HA10 HX10 hb11 x0 x1 x2
            generalize rfB (dc CL CL []) m = bt at HOne ⊢
            generalize rfV (dc CL CL []) m = vt at HOne ⊢
            generalize rfB (dc S S []) m = bw at HOne ⊢
            generalize rfV (dc S S []) m = vw at HOne ⊢
            rcases HOne.out with ⟨hx, hy⟩ | ⟨hx, hy⟩
            · subst hx
              subst hy
              clear HOne
              go_wp2
              go_ret
              exact ⟨by simp, HS11.out.low⟩
            · subst hx
              subst hy
              clear HOne
              cases bw with
              | true =>
                cases hcmp : (vt.toList == vw.toList) with
                | true =>
                  go_wp2
                  go_ret
                  exact ⟨by simp, HS11.out.low⟩
                | false =>
                  go_wp2
                  go_ret
                  exact ⟨by simp, HS11.out.low⟩
              | false =>
                go_wp2
                go_ret
                exact ⟨by simp, HS11.out.low⟩
    · go_wp2
      go_ret
      exact ⟨by simp, HS4.out.low⟩

end Go.Proofs.Ytejedpmkbkclhaa
