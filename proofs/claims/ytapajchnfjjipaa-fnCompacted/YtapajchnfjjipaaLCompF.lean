/- The law FnCompacted, walked. (By gen_lcompf.py.) -/
import Derived.Test.YtapajchnfjjipaaDrawSn
import Derived.Test.YtapajchnfjjipaaRowArg
import Derived.Test.YtapajchnfjjipaaCompI
import Derived.Test.YtapajchnfjjipaaCmpP
import Derived.Test.YtapajchnfjjipaaVis
import Derived.Test.YtapajchnfjjipaaNeedS
import Derived.Test.YtapajchnfjjipaaSnapsS
import Derived.Test.YtapajchnfjjipaaEntsOkS
import Derived.Test.YtapajchnfjjipaaReg
import Derived.Test.YtapajchnfjjipaaNth
import Derived.Deep.RegionHeld3
namespace Go.Proofs.Ytapajchnfjjipaa
set_option maxRecDepth 100000
open Go.RowKit Go.Deep

set_option maxHeartbeats 1000000 in
theorem laws_sameEntriesF (a b : Option Addr) (len ca cb : Nat) (E : Ents) (w : World) (hl : len ≤ 1048576) (ha : EntAt w w.heap.size a len E) (hb : EntAt w w.heap.size b len E) :
    Calls Try.prog 27 #[.slice a len ca, .slice b len cb] w fun e w' => e = .returned (.bool true) ∧ Below w.heap.size w w' := by
  have HA := hide ha
  have HB := hide hb
  have HW0 := hide (Below.refl w.heap.size w)
  clear ha hb
  go_enter Try.func27, Try.ntmps27
  go_wp2
  go_loopw [5] (fun i wr => ∃ k : Nat, i = .int .i64 k ∧ k ≤ len ∧ Hid (Below w.heap.size w wr)) (fun i _ => len - (intOf i).toNat)
  case atStart => exact ⟨0, rfl, by omega, HW0⟩
  case round =>
    obtain ⟨k, rfl, hk, HW⟩ := hrel
    by_cases hlt : k < len
    · obtain ⟨g1, o1, rfl, _, c0, c1, c2, c3⟩ := (HA.out.below HW.out).at hlt
      obtain ⟨g2, o2, rfl, _, d0, d1, d2, d3⟩ := (HB.out.below HW.out).at hlt
      have hki : (k : Int) < (len : Int) := by omega
      go_wp2
      go_quiet (fail)
      go_wp2
      exact ⟨⟨k + 1, by go_num, by omega, below_drewN HW.out _⟩, by simp [intOf]; omega⟩
    · obtain rfl : k = len := by omega
      go_wp2
      go_ret
      exact ⟨rfl, HW.out⟩

set_option maxHeartbeats 1000000 in
theorem laws_samePairsF (a b : Option Addr) (len ca cb : Nat) (O : Pairs) (w : World) (hl : len ≤ 1048576) (ha : PairAt w w.heap.size a len O) (hb : PairAt w w.heap.size b len O) :
    Calls Try.prog 28 #[.slice a len ca, .slice b len cb] w fun e w' => e = .returned (.bool true) ∧ Below w.heap.size w w' := by
  have HA := ha.hid
  have HB := hb.hid
  clear ha hb
  have HB0 : Hid (Below w.heap.size w w) := Below.refl _ _
  go_enter Try.func28, Try.ntmps28
  go_wp2
  go_loopw [5] (fun i wr => ∃ k : Nat, i = .int .i64 k ∧ k ≤ len ∧ Hid (Below w.heap.size w wr)) (fun i _ => len - (intOf i).toNat)
  case atStart => exact ⟨0, rfl, by omega, HB0⟩
  case round =>
    obtain ⟨k, rfl, hk, HW⟩ := hrel
    clear HB0
    by_cases hlt : k < len
    · obtain ⟨b1, off1, rfl, hb1, c0, c1⟩ := (HA.out.below HW.out).at hlt
      obtain ⟨b2, off2, rfl, hb2, d0, d1⟩ := (HB.out.below HW.out).at hlt
      have hki : (k : Int) < (len : Int) := by omega
      go_wp2
      go_quiet (fail)
      go_wp2
      exact ⟨⟨k + 1, by go_num, by omega, below_drewN HW.out _⟩, by simp [intOf]; omega⟩
    · go_wp2
      go_ret
      exact ⟨rfl, HW.out⟩

theorem pts_seqs {S : Nat → Int} {n : Nat} {p : Int} (h : p ∈ ptsL S n) : p ∈ seqsL S n := by
  unfold ptsL at h
  unfold seqsL
  rcases List.mem_append.1 h with h | h
  · exact List.mem_cons_of_mem _ h
  · rw [List.mem_singleton.1 h]; simp
theorem ints_src {w : World} {g m : Nat} {S : Nat → Int} {B : Nat} (h : IntAt w B (some ⟨g, 0, none⟩) m S) : ∀ j u, ((List.range m).map fun i => Value.int .i64 (S i))[j]? = some u → w.cell? ((⟨g, 0, none⟩ : Addr).add j) = some u := by
  intro j u hu
  have hj : j < m := by
    have := (List.getElem?_eq_some_iff.1 hu).1
    simpa using this
  obtain ⟨b, off, e, _, hc⟩ := h.at hj
  simp only [Option.some.injEq, Addr.mk.injEq, and_true] at e
  obtain ⟨rfl, rfl⟩ := e
  rw [Addr.add_lit]
  rw [hc]
  simpa [hj] using hu

set_option linter.unusedVariables false in
set_option linter.unusedSimpArgs false in
set_option maxHeartbeats 4000000 in
theorem walk_FnCompacted (v : Value) {w : World} (hv : IsBytes w v) (_w : World) :
    Calls Try.prog 7 #[v] w fun e w' => e = .returned (.bool true) ∧ Below w.heap.size w w' := by
  have hi5 : (Try.prog.info? 2).map (fun i => (i.zero, i.size, i.bytes)) = some (some (.int .i64 0), 1, 8) := by kernel_rfl
  obtain ⟨i0, hi0, hz0, hz1, hz2⟩ := info_parts hi5
  obtain ⟨a, len, cap, rfl, hc, hm⟩ := hv
  by_cases hbig : 1048576 < len
  · have hd : decide (1048576 < len) = true := by simp [hbig]
    go_enter Try.func7, Try.ntmps7
    go_wp2_with fail
    refine (laws_bigS a len cap hm _).mono ?_
    rintro e w1 ⟨rfl, rfl⟩
    go_wp2
    go_ret
    exact ⟨rfl, Below.refl _ _⟩
  · have hd : decide (1048576 < len) = false := by simp [hbig]
    have hl : len ≤ 1048576 := by omega
    go_enter Try.func7, Try.ntmps7
    go_wp2_with fail
    refine (laws_bigS a len cap hm _).mono ?_
    rintro e w1 ⟨rfl, rfl⟩
    go_wp2_with fail
    refine (draw_Compacted w _ a len cap hc hl (Below.refl _ _)).mono ?_
    rintro e w1 ⟨gE, n, capE, E, gs, m, cs, S, bottom, rfl, hn, hm2, hE, hI, hB1⟩
    have HE := hE.hid
    have HI := hI.hid
    have HB := hide hB1
    have hn2 : n ≤ 1048576 := by omega
    have hmm : m ≤ 1048576 := by omega
    have cc := fun (wx : World) (h : EntAt wx wx.heap.size (some ⟨gE, 0, none⟩) n E) (k : IntAt wx wx.heap.size (some ⟨gs, 0, none⟩) m S) => impl_Compacted (some ⟨gE, 0, none⟩) n capE E (some ⟨gs, 0, none⟩) m cs S bottom wx hn2 hmm h k
    have cd := fun (wx : World) (h : EntAt wx wx.heap.size (some ⟨gE, 0, none⟩) n E) (k : IntAt wx wx.heap.size (some ⟨gs, 0, none⟩) m S) => spec_Compacted (some ⟨gE, 0, none⟩) n capE E (some ⟨gs, 0, none⟩) m cs S bottom wx hn2 hmm ⟨_, _, rfl⟩ h k
    have ce := fun (wx : World) (h : EntAt wx wx.heap.size (some ⟨gE, 0, none⟩) n E) => spec_EntriesOk (some ⟨gE, 0, none⟩) n capE E wx hn2 h
    have cp := fun (wx : World) (k : IntAt wx wx.heap.size (some ⟨gs, 0, none⟩) m S) => spec_SnapsOk (some ⟨gs, 0, none⟩) m cs S wx hmm k
    clear hE hI hB1 hc hm hd hbig
    obtain ⟨PL, hPL⟩ : ∃ PL, compL E n S m bottom = PL := ⟨_, rfl⟩
    rw [hPL] at cc cd
    obtain ⟨La, hLa⟩ : ∃ La, PL.map (entryAt1 E) = La := ⟨_, rfl⟩
    obtain ⟨A, hA⟩ : ∃ A, La.length = A := ⟨_, rfl⟩
    have hAn : A ≤ n := by rw [← hA, ← hLa, List.length_map, ← hPL]; exact compL_len
    have hA2 : A ≤ 1048576 := by omega
    have HPL := hide hPL
    have HLA := hide hLa
    have HA := hide hA
    rw [hLa] at cc cd
    clear hPL hLa hA
    go_wp2_with fail
    refine (cc _ HE.out HI.out).mono ?_
    rintro e w2 ⟨⟨v2, rfl, ho2⟩, hb2⟩
    have HE := hide (HE.out.next hb2)
    have HI := hide (HI.out.next hb2)
    have HB := hide (HB.out.trans (hb2.mono HB.out.size))
    obtain ⟨pa, pp, rfl, hM2⟩ := ho2.mine
    have HPA : Hid (EntAt w2 w2.heap.size pa A (fnEntry La)) := by rw [← HA.out]; exact entAt_mine hM2
    rw [HA.out]
    clear hb2 ho2 hM2
    go_wp2_with fail
    refine (cd _ HE.out HI.out).mono ?_
    rintro e w3 ⟨⟨v3, rfl, ho3⟩, hb3⟩
    have HE := hide (HE.out.next hb3)
    have HI := hide (HI.out.next hb3)
    have HPA := hide (HPA.out.next hb3)
    have HB := hide (HB.out.trans (hb3.mono HB.out.size))
    obtain ⟨qa, qp, rfl, hqa⟩ := ho3.arg
    rw [HA.out] at hqa ⊢
    clear hb3 ho3
    go_wp2_with fail
    refine (laws_sameEntriesF _ _ A _ _ (fnEntry La) w3 (by omega) HPA.out hqa).mono ?_
    rintro e w4 ⟨rfl, hb4⟩
    have HE := hide (HE.out.next hb4)
    have HI := hide (HI.out.next hb4)
    have HPA := hide (HPA.out.next hb4)
    have HB := hide (HB.out.trans (hb4.mono HB.out.size))
    clear hb4 hqa
    go_wp2_with fail
    refine (ce _ HE.out).mono ?_
    rintro e w6 ⟨rfl, hb6⟩
    have HE := hide (HE.out.next hb6)
    have HI := hide (HI.out.next hb6)
    have HPA := hide (HPA.out.next hb6)
    have HB := hide (HB.out.trans (hb6.mono HB.out.size))
    clear hb6
    cases hok : rowOkB E n with
    | false =>
      go_wp2_with fail
      refine (cd _ HE.out HI.out).mono ?_
      rintro e w7 ⟨⟨v7, rfl, ho7⟩, hb7⟩
      have HE := hide (HE.out.next hb7)
      have HI := hide (HI.out.next hb7)
      have HPA := hide (HPA.out.next hb7)
      have HB := hide (HB.out.trans (hb7.mono HB.out.size))
      obtain ⟨qa, qp, rfl, hqa⟩ := ho7.arg
      rw [HA.out] at hqa ⊢
      clear hb7 ho7
      go_wp2_with fail
      refine (laws_sameEntriesF _ _ A _ _ (fnEntry La) w7 (by omega) HPA.out hqa).mono ?_
      rintro e w8 ⟨rfl, hb8⟩
      have HB := hide (HB.out.trans (hb8.mono HB.out.size))
      clear hb8
      go_wp2
      go_ret
      exact ⟨rfl, HB.out⟩
    | true =>
      go_wp2_with fail
      refine (cp _ HI.out).mono ?_
      rintro e w7 ⟨rfl, hb7⟩
      have HE := hide (HE.out.next hb7)
      have HI := hide (HI.out.next hb7)
      have HPA := hide (HPA.out.next hb7)
      have HB := hide (HB.out.trans (hb7.mono HB.out.size))
      clear hb7
      cases hsn : snapsB S m with
      | false =>
        go_wp2_with fail
        refine (cd _ HE.out HI.out).mono ?_
        rintro e w8 ⟨⟨v8, rfl, ho8⟩, hb8⟩
        have HE := hide (HE.out.next hb8)
        have HI := hide (HI.out.next hb8)
        have HPA := hide (HPA.out.next hb8)
        have HB := hide (HB.out.trans (hb8.mono HB.out.size))
        obtain ⟨qa, qp, rfl, hqa⟩ := ho8.arg
        rw [HA.out] at hqa ⊢
        clear hb8 ho8
        go_wp2_with fail
        refine (laws_sameEntriesF _ _ A _ _ (fnEntry La) w8 (by omega) HPA.out hqa).mono ?_
        rintro e w9 ⟨rfl, hb9⟩
        have HB := hide (HB.out.trans (hb9.mono HB.out.size))
        clear hb9
        go_wp2
        go_ret
        exact ⟨rfl, HB.out⟩
      | true =>
        have hcl : compN E bottom (needN E (seqsL S m) n) = PL := by rw [← HPL.out]; unfold compL; rw [if_pos ⟨hok, hsn⟩]
        have hApl : PL.length = A := by rw [← HA.out, ← HLA.out, List.length_map]
        have HVS : Hid (∀ p, p ∈ ptsL S m → visible (fnEntry La) A p = visible E n p) := by
          intro p hp
          have := vis_same hok hcl (pts_seqs hp)
          rw [hApl] at this
          rw [← HLA.out]
          exact this
        have HRA : Hid (rowOkB (fnEntry La) A = true) := by
          have := sub_rowOk (L := PL) hok (by rw [← hcl]; exact comp_pw E bottom _ n) (by rw [← hcl]; exact comp_lt E bottom _ n) (by rw [hApl]; exact hAn)
          rw [hApl] at this
          show _ = _
          rw [← HLA.out]
          exact this
        have HCA : Hid ((compL (fnEntry La) A S m bottom).map (entryAt1 (fnEntry La)) = La) := by
          have := comp_again hok hsn hcl
          rw [hApl] at this
          show _ = _
          have h2 : compL (fnEntry La) A S m bottom = List.range A := by rw [← HLA.out]; exact this
          rw [h2, ← HA.out]
          exact fnEntry_list La
        clear cc cd ce cp hcl hApl
        have hbA := below_one w7 (.cells #[] 2)
        have HP0 := hide (Own.lit w7 w7.heap.size 2 [] 0 rfl (Nat.le_refl _) (by decide))
        have HIa := hide (HI.out.next hbA)
        have HBA := hide hbA
        have hsl : ((List.range m).map fun i => Value.int .i64 (S i)).length = m := by simp
        have hso : ∀ u ∈ (List.range m).map (fun i => Value.int .i64 (S i)), u.oneCell' = true := fun u hu => by
          obtain ⟨i, _, rfl⟩ := List.mem_map.1 hu
          rfl
        have hsc := ints_src HIa.out
        have hzA : (w7.alloc (.cells #[] 2)).heap.size = w7.heap.size + 1 := by simp
        clear hbA
        go_wp2_with (at_builtin; refine wpList_append_own _ rfl _ _ 22 rfl w7.heap.size 2 i0 _ 1 8 Try.underlying22 hi0 hz0 hz1 hz2 rfl (by decide) _ 0 [] (by rfl) HP0.out ⟨gs, 0, none⟩ m cs ((List.range m).map fun i => Value.int .i64 (S i)) (by rfl) (by rw [hsl, Nat.mul_one]) hsc hso (by unfold maxLen; omega) (by omega) (by rw [hzA]; omega) ?_)
        intro v8 w8 h1 h2 _
        have hP8 : Own w8 w7.heap.size 2 v8 ((List.range m).map fun i => Value.int .i64 (S i)) := by
          show World.ownsRow _ _ _ _ _ _ _
          rw [hsl]
          simpa using h1
        have hb8 : Below w7.heap.size (w7.alloc (.cells #[] 2)) w8 := HP0.out.grownBelow (by omega) h2
        have HB8 := hide ((HBA.out).trans hb8)
        have hz8 := HB8.out.size
        clear h1 h2 hb8 hsc hso HP0 HIa HBA hzA
        go_wp2_with (at_builtin; refine wpList_append_one rfl _ _ 22 rfl 2 Try.underlying22 hi5 rfl (by decide) w7.heap.size _ _ ((List.range m).map fun i => Value.int .i64 (S i)) (by rfl) (by rfl) hP8 rfl (by omega) ?c1 ?_)
        case c1 => rw [hsl]; omega
        intro v9 w9 hP9 hb9
        have hP9' : OwnI w9 w7.heap.size v9 (ptsL S m) := by
          have e : (ptsL S m).map (Value.int .i64) = (List.range m).map (fun i => Value.int .i64 (S i)) ++ [.int .i64 1000000000000] := by simp [ptsL]
          show Own _ _ _ _ _
          rw [e]; exact hP9
        have hb79 : Below w7.heap.size w7 w9 := HB8.out.trans hb9
        have HE := hide ((HE.out.below hb79).mono hb79.size)
        have HI := hide ((HI.out.below hb79).mono hb79.size)
        have HPA := hide ((HPA.out.below hb79).mono hb79.size)
        have HB := hide (HB.out.trans (hb79.mono HB.out.size))
        obtain ⟨pg, pc, hsh⟩ := Own.shape (show Own w9 w7.heap.size 2 v9 ((ptsL S m).map (Value.int .i64)) from hP9') (by simp [ptsL])
        rw [List.length_map] at hsh
        subst hsh
        have HNP : Hid (IntAt w9 w9.heap.size (some ⟨pg, 0, none⟩) (ptsL S m).length (fun i => (ptsL S m).getD i 0)) := by
          obtain ⟨a', c', hv, hat⟩ := hP9'.at
          obtain rfl : a' = some ⟨pg, 0, none⟩ := by simpa using (congrArg (fun v => match v with | .slice a _ _ => a | _ => none) hv).symm
          exact hat
        clear hP8 hP9 hP9' hb9 hb79 HB8 hz8
        obtain ⟨N, hN⟩ : ∃ N, (ptsL S m).length = N := ⟨_, rfl⟩
        rw [hN] at HNP ⊢
        have HN := hide hN
        have hN2 : N ≤ 1001 := by rw [← hN, ptsL_len]; omega
        have HW0 := hide (Below.refl w9.heap.size w9)
        clear hN
        go_wp2
        go_loopw [8] (fun i wr => ∃ k : Nat, i = .int .i64 k ∧ k ≤ N ∧ Hid (Below w9.heap.size w9 wr)) (fun i _ => N - (intOf i).toNat)
        case atStart => exact ⟨0, rfl, Nat.zero_le _, HW0⟩
        case round =>
          obtain ⟨k, rfl, hk, HW⟩ := hrel
          clear HW0
          by_cases hlt : k < N
          · have hkl : k < (ptsL S m).length := by rw [HN.out]; exact hlt
            obtain ⟨p, hp⟩ : ∃ p, (ptsL S m).getD k 0 = p := ⟨_, rfl⟩
            have hpm : p ∈ ptsL S m := by rw [← hp]; simp [List.getD, hkl]
            obtain ⟨g1, o1, e1, hg1, CP⟩ := (HNP.out.below HW.out).at hlt
            simp only [Option.some.injEq, Addr.mk.injEq, and_true] at e1
            obtain ⟨rfl, rfl⟩ := e1
            rw [hp, Nat.zero_add] at CP
            have hki : (k : Int) < (N : Int) := by omega
            have hk0 : (0 : Int) ≤ (k : Int) := by omega
            have cva := fun (wx : World) (h : EntAt wx wx.heap.size pa A (fnEntry La)) => impl_Visible pa A pp (fnEntry La) p wx hA2 h
            have cvl := fun (wx : World) (h : EntAt wx wx.heap.size (some ⟨gE, 0, none⟩) n E) => impl_Visible (some ⟨gE, 0, none⟩) n capE E p wx hn2 h
            rw [HVS.out p hpm] at cva
            have hVN2 : (visible E n p).length ≤ 1048576 := Nat.le_trans visible_len hn2
            generalize visible E n p = VL at cva cvl hVN2
            obtain ⟨VN, hVN1⟩ : ∃ VN, VL.length = VN := ⟨_, rfl⟩
            have HVN := hide hVN1
            have hVN : VN ≤ 1048576 := by rw [← hVN1]; exact hVN2
            have HW := HW.out
            have HE := (HE.out.below HW).mono HW.size
            have HPA := (HPA.out.below HW).mono HW.size
            clear hp hpm hkl hg1 hVN1 hVN2
            go_wp2_with fail
            refine wp_region_noPanic ?_
            have hb0 : Below wr.heap.size wr wr.drew := (Below.refl _ _).drew
            have HE_0 := HE.next hb0
            have HPA_0 := HPA.next hb0
            have CP_0 := keepc hb0 CP
            have HW_0 := HW.trans (hb0.mono HW.size)
            refine wp_region_held_drew (S := fun x => x.cell? ⟨pg, k, none⟩ = some (.int .i64 p)) (by kernel_rfl) CP_0 (fun _ => ?_)
            clear CP HE HPA HW
            generalize wr.drew = wq0 at hb0 HE_0 HPA_0 CP_0 HW_0 ⊢
            clear hb0
            refine wpAnyH_take (i := 0) (v := .slice pa A pp) nat0 (by kernel_rfl) (by kernel_rfl) (by kernel_rfl) (fun _ _ _ h => False.elim h) (Or.inl ⟨by rfl, ?_⟩) CP_0 ?_
            · intro wx hSw
              go_simp
            simp only [Act.put, List.setIfInBounds_toArray, List.set_cons_zero, List.set_cons_succ]
            refine wpAnyH_take (i := 1) (v := .slice (some ⟨pg, 0, none⟩) N pc) nat1 (by kernel_rfl) (by kernel_rfl) (by kernel_rfl) (fun _ _ _ h => False.elim h) (Or.inl ⟨by rfl, ?_⟩) CP_0 ?_
            · intro wx hSw
              go_simp
            simp only [Act.put, List.setIfInBounds_toArray, List.set_cons_zero, List.set_cons_succ]
            refine wpAnyH_take (i := 2) (v := .int .i64 (k : Int)) nat2 (by kernel_rfl) (by kernel_rfl) (by kernel_rfl) (fun _ _ _ h => False.elim h) (Or.inl ⟨by rfl, ?_⟩) CP_0 ?_
            · intro wx hSw
              go_simp
            simp only [Act.put, List.setIfInBounds_toArray, List.set_cons_zero, List.set_cons_succ]
            refine wpAnyH_take (i := 3) (v := .pointer (some ⟨pg, k, none⟩)) nat3 (by kernel_rfl) (by kernel_rfl) (by kernel_rfl) (fun _ _ _ h => False.elim h) (Or.inl ⟨by rfl, ?_⟩) CP_0 ?_
            · intro wx hSw
              go_simp
            simp only [Act.put, List.setIfInBounds_toArray, List.set_cons_zero, List.set_cons_succ]
            refine wpAnyH_take (i := 4) (v := .int .i64 p) nat4 (by kernel_rfl) (by kernel_rfl) (by kernel_rfl) (fun _ _ _ h => False.elim h) (Or.inl ⟨by rfl, ?_⟩) CP_0 ?_
            · intro wx hSw
              have e0 : wx.cell? ⟨pg, k, none⟩ = some (.int .i64 p) := hSw
              go_simp
            simp only [Act.put, List.setIfInBounds_toArray, List.set_cons_zero, List.set_cons_succ]
            refine wpAnyH_take (i := 6) (v := .slice (some ⟨gE, 0, none⟩) n capE) nat6 (by kernel_rfl) (by kernel_rfl) (by kernel_rfl) (fun _ _ _ h => False.elim h) (Or.inl ⟨by rfl, ?_⟩) CP_0 ?_
            · intro wx hSw
              go_simp
            simp only [Act.put, List.setIfInBounds_toArray, List.set_cons_zero, List.set_cons_succ]
            refine wpAnyH_take (i := 7) (v := .slice (some ⟨pg, 0, none⟩) N pc) nat7 (by kernel_rfl) (by kernel_rfl) (by kernel_rfl) (fun _ _ _ h => False.elim h) (Or.inl ⟨by rfl, ?_⟩) CP_0 ?_
            · intro wx hSw
              go_simp
            simp only [Act.put, List.setIfInBounds_toArray, List.set_cons_zero, List.set_cons_succ]
            refine wpAnyH_take (i := 8) (v := .int .i64 (k : Int)) nat8 (by kernel_rfl) (by kernel_rfl) (by kernel_rfl) (fun _ _ _ h => False.elim h) (Or.inl ⟨by rfl, ?_⟩) CP_0 ?_
            · intro wx hSw
              go_simp
            simp only [Act.put, List.setIfInBounds_toArray, List.set_cons_zero, List.set_cons_succ]
            refine wpAnyH_take (i := 9) (v := .pointer (some ⟨pg, k, none⟩)) nat9 (by kernel_rfl) (by kernel_rfl) (by kernel_rfl) (fun _ _ _ h => False.elim h) (Or.inl ⟨by rfl, ?_⟩) CP_0 ?_
            · intro wx hSw
              go_simp
            simp only [Act.put, List.setIfInBounds_toArray, List.set_cons_zero, List.set_cons_succ]
            refine wpAnyH_take (i := 10) (v := .int .i64 p) nat10 (by kernel_rfl) (by kernel_rfl) (by kernel_rfl) (fun _ _ _ h => False.elim h) (Or.inl ⟨by rfl, ?_⟩) CP_0 ?_
            · intro wx hSw
              have e0 : wx.cell? ⟨pg, k, none⟩ = some (.int .i64 p) := hSw
              go_simp
            simp only [Act.put, List.setIfInBounds_toArray, List.set_cons_zero, List.set_cons_succ]
            refine wpAnyH_ready (rs := [5]) (by kernel_rfl) (by simp) ?_
            refine AllReadyH.cons nat5 (fun K hK => ?_) AllReadyH.nil
            go_simp
            go_at_call 29
            refine (cva wq0 HPA_0).mono ?_
            rintro e wq1 ⟨⟨vX, rfl, hoX⟩, hb1⟩
            obtain ⟨Xa, Xp, rfl, hX⟩ := hoX.arg
            rw [HVN.out] at hX ⊢
            clear hoX
            have HE_1 := HE_0.next hb1
            have HPA_1 := HPA_0.next hb1
            have CP_1 := keepc hb1 CP_0
            have HW_1 := HW_0.trans (hb1.mono HW_0.size)
            have VA_1 := hX
            refine hK.out _ _ CP_1 (fun _ => ?_)
            clear hK K hb1 CP_0 HE_0 HPA_0 HW_0
            refine wpAnyH_ready (rs := [11]) (by kernel_rfl) (by simp) ?_
            refine AllReadyH.cons nat11 (fun K hK => ?_) AllReadyH.nil
            go_simp
            go_at_call 29
            refine (cvl wq1 HE_1).mono ?_
            rintro e wq2 ⟨⟨vY, rfl, hoY⟩, hb2⟩
            obtain ⟨Ya, Yp, rfl, hY⟩ := hoY.arg
            rw [HVN.out] at hY ⊢
            clear hoY
            have HE_2 := HE_1.next hb2
            have HPA_2 := HPA_1.next hb2
            have CP_2 := keepc hb2 CP_1
            have HW_2 := HW_1.trans (hb2.mono HW_1.size)
            have VA_2 := VA_1.next hb2
            have VB_2 := hY
            refine hK.out _ _ CP_2 (fun _ => ?_)
            clear hK K hb2 CP_1 HE_1 HPA_1 HW_1 VA_1
            refine wpAnyH_ready (rs := [12]) (by kernel_rfl) (by simp) ?_
            refine AllReadyH.cons nat12 (fun K hK => ?_) AllReadyH.nil
            go_simp
            go_at_call 28
            refine (laws_samePairsF _ _ VN _ _ (fnPair VL) wq2 hVN VA_2 VB_2).mono ?_
            rintro e wq3 ⟨rfl, hb3⟩
            have HE_3 := HE_2.next hb3
            have HPA_3 := HPA_2.next hb3
            have CP_3 := keepc hb3 CP_2
            have HW_3 := HW_2.trans (hb3.mono HW_2.size)
            have VA_3 := VA_2.next hb3
            have VB_3 := VB_2.next hb3
            refine hK.out _ _ CP_3 (fun _ => ?_)
            clear hK K hb3 CP_2 HE_2 HPA_2 HW_2 VA_2 VB_2
            refine wpAnyH_take (i := 13) (v := .bool false) nat13 (by kernel_rfl) (by kernel_rfl) (by kernel_rfl) (fun _ _ _ h => False.elim h) (Or.inl ⟨by rfl, ?_⟩) CP_3 ?_
            · intro wx hSw
              go_simp
            simp only [Act.put, List.setIfInBounds_toArray, List.set_cons_zero, List.set_cons_succ]
            refine wpAnyH_done (by kernel_rfl) ?_ _
            refine NoPanic.normal ?_
            go_wp2
            exact ⟨⟨k + 1, by go_num, by omega, hide HW_3⟩, by simp [intOf]; omega⟩
          · have hkN : k = N := by omega
            have hnl : ¬ ((k : Int) < (N : Int)) := by omega
            have HBw := hide (HB.out.trans (HW.out.mono HB.out.size))
            have HPAw := hide ((HPA.out.below HW.out).mono HW.out.size)
            have HIw := hide ((HI.out.below HW.out).mono HW.out.size)
            have cca := fun (wx : World) (h : EntAt wx wx.heap.size pa A (fnEntry La)) (k : IntAt wx wx.heap.size (some ⟨gs, 0, none⟩) m S) => impl_Compacted pa A pp (fnEntry La) (some ⟨gs, 0, none⟩) m cs S bottom wx hA2 hmm h k
            have cea := fun (wx : World) (h : EntAt wx wx.heap.size pa A (fnEntry La)) => impl_EntriesOk pa A pp (fnEntry La) wx hA2 h
            rw [HCA.out] at cca
            rw [HRA.out] at cea
            have hAi : (A : Int) ≤ (n : Int) := by omega
            clear HW HE HPA HI HNP
            go_wp2_with fail
            refine (cea _ HPAw.out).mono ?_
            rintro e wa ⟨rfl, hba⟩
            have HBw := hide (HBw.out.trans (hba.mono HBw.out.size))
            have HPAw := hide (HPAw.out.next hba)
            have HIw := hide (HIw.out.next hba)
            clear hba
            go_wp2_with fail
            refine (cca _ HPAw.out HIw.out).mono ?_
            rintro e wb ⟨⟨vb, rfl, hob⟩, hbb⟩
            have HBw := hide (HBw.out.trans (hbb.mono HBw.out.size))
            have HPAw := hide (HPAw.out.next hbb)
            obtain ⟨za, zp, rfl, hMz⟩ := hob.mine
            have hza : EntAt wb wb.heap.size za A (fnEntry La) := by rw [← HA.out]; exact entAt_mine hMz
            rw [HA.out]
            clear hbb hob hMz
            go_wp2_with fail
            refine (laws_sameEntriesF _ _ A _ _ (fnEntry La) wb (by omega) hza HPAw.out).mono ?_
            rintro e wc ⟨rfl, hbc⟩
            have HBw := hide (HBw.out.trans (hbc.mono HBw.out.size))
            clear hbc hza
            go_wp2
            go_ret
            exact ⟨rfl, HBw.out⟩

end Go.Proofs.Ytapajchnfjjipaa
