/- Apply of the model. (By gen_applys.py.) -/
import Derived.Test.YtplbhgcibfajaaaApP
import Derived.Test.YtplbhgcibfajaaaReg
import Derived.Test.YtplbhgcibfajaaaNth
import Derived.Deep.RegionHeld3
namespace Go.Proofs.Ytplbhgcibfajaaa
set_option maxRecDepth 100000
open Go.RowKit Go.Deep

/-- The answer where the edit does not fit. -/
theorem bad_endA {c : VersionC} {d : EditC} {w w' : World} (HV : apB c d = false) (h : Below w.heap.size w w') :
    (∃ v, Ending.returned (.tuple #[.agg #[.slice none 0 0, .int .i64 0, .int .i64 0, .int .i64 0], .bool false]) = .returned (.tuple #[v, .bool (apB c d)]) ∧ VersionOwnM w' w.heap.size v (apC c d)) ∧ Below w.heap.size w w' :=
  ⟨⟨_, by rw [HV], by rw [apC_no HV]; exact zeroV_ownM _ _⟩, h⟩

set_option linter.unusedVariables false in
set_option linter.unusedSimpArgs false in
set_option maxHeartbeats 16000000 in
theorem spec_Apply (v e : Value) (c : VersionC) (d : EditC) (w : World) (hf : c.Fit) (hg : d.Fit) (hv : VersionIs w v c) (he : EditIs w e d) :
    Calls Try.prog 9 #[v, e] w fun x w' => (∃ u, x = .returned (.tuple #[u, .bool (apB c d)]) ∧ VersionOwnM w' w.heap.size u (apC c d)) ∧ Below w.heap.size w w' := by
  obtain ⟨a0, p0, rfl, hS⟩ := hv
  obtain ⟨b0, q0, b1, q1, rfl, hA, hU⟩ := he
  have hfn : c.n0 ≤ 1048576 := hf
  obtain ⟨hgn, hgm⟩ : d.n0 ≤ 1048576 ∧ d.n1 ≤ 1048576 := hg
  have hB0 : Below w.heap.size w (((w.alloc (.cells #[.slice a0 c.n0 p0, .int .i64 c.x1, .int .i64 c.x2, .int .i64 c.x3] 32)).alloc (.cells #[.slice b0 d.n0 q0, .slice b1 d.n1 q1, .int .i64 d.x2, .int .i64 d.x3, .int .i64 d.x4] 37)).alloc (.cells #[.slice none 0 0, .int .i64 0, .int .i64 0, .int .i64 0] 32)) := (((Below.refl _ _).alloc (Nat.le_refl _) _).alloc (by simp) _).alloc (by simp <;> omega) _
  have hK0 : BoxIs (((w.alloc (.cells #[.slice a0 c.n0 p0, .int .i64 c.x1, .int .i64 c.x2, .int .i64 c.x3] 32)).alloc (.cells #[.slice b0 d.n0 q0, .slice b1 d.n1 q1, .int .i64 d.x2, .int .i64 d.x3, .int .i64 d.x4] 37)).alloc (.cells #[.slice none 0 0, .int .i64 0, .int .i64 0, .int .i64 0] 32)) w.heap.size #[.slice a0 c.n0 p0, .int .i64 c.x1, .int .i64 c.x2, .int .i64 c.x3] 32 := ((BoxIs.new w _ _ rfl).next (below_one _ _)).next (below_one _ _)
  have hK1 : BoxIs (((w.alloc (.cells #[.slice a0 c.n0 p0, .int .i64 c.x1, .int .i64 c.x2, .int .i64 c.x3] 32)).alloc (.cells #[.slice b0 d.n0 q0, .slice b1 d.n1 q1, .int .i64 d.x2, .int .i64 d.x3, .int .i64 d.x4] 37)).alloc (.cells #[.slice none 0 0, .int .i64 0, .int .i64 0, .int .i64 0] 32)) (w.heap.size + 1) #[.slice b0 d.n0 q0, .slice b1 d.n1 q1, .int .i64 d.x2, .int .i64 d.x3, .int .i64 d.x4] 37 := (BoxIs.new _ _ _ (by simp)).next (below_one _ _)
  have hK2 : BoxIs (((w.alloc (.cells #[.slice a0 c.n0 p0, .int .i64 c.x1, .int .i64 c.x2, .int .i64 c.x3] 32)).alloc (.cells #[.slice b0 d.n0 q0, .slice b1 d.n1 q1, .int .i64 d.x2, .int .i64 d.x3, .int .i64 d.x4] 37)).alloc (.cells #[.slice none 0 0, .int .i64 0, .int .i64 0, .int .i64 0] 32)) (w.heap.size + 1 + 1) #[.slice none 0 0, .int .i64 0, .int .i64 0, .int .i64 0] 32 := BoxIs.new _ _ _ (by simp)
  go_enter Try.func9, Try.ntmps9
  go_wp2_with fail
  generalize ((w.alloc (.cells #[.slice a0 c.n0 p0, .int .i64 c.x1, .int .i64 c.x2, .int .i64 c.x3] 32)).alloc (.cells #[.slice b0 d.n0 q0, .slice b1 d.n1 q1, .int .i64 d.x2, .int .i64 d.x3, .int .i64 d.x4] 37)).alloc (.cells #[.slice none 0 0, .int .i64 0, .int .i64 0, .int .i64 0] 32) = W at hB0 hK0 hK1 hK2 ⊢
  obtain ⟨g1, hg1⟩ : ∃ g, w.heap.size + 1 = g := ⟨_, rfl⟩
  rw [hg1] at hK1 hK2 ⊢
  obtain ⟨g2, hg2⟩ : ∃ g, g1 + 1 = g := ⟨_, rfl⟩
  rw [hg2] at hK2 ⊢
  have hgl := hK2.lt
  have cb := spec_VersionOk (.agg #[.slice a0 c.n0 p0, .int .i64 c.x1, .int .i64 c.x2, .int .i64 c.x3]) c W hf ⟨a0, p0, rfl, (hS.below hB0).mono hB0.size⟩
  have HB0 := hide hB0
  have HK0 := hK0.hid
  have HK1 := hK1.hid
  have HK2 := hK2.hid
  have HS := hS.hid
  have HA := hA.hid
  have HU : Hid (IntAt w w.heap.size b1 d.n1 d.r1) := hU
  clear hB0 hK0 hK1 hK2 hS hA hU
  refine cb.mono ?_
  rintro e w2 ⟨rfl, hb2⟩
  have HC := hide hb2
  clear cb hb2
  have k00 := (HK0.out.next HC.out).cell 0
  have k01 := (HK0.out.next HC.out).cell 1
  have k02 := (HK0.out.next HC.out).cell 2
  have k03 := (HK0.out.next HC.out).cell 3
  have k10 := (HK1.out.next HC.out).cell 0
  have k11 := (HK1.out.next HC.out).cell 1
  have k12 := (HK1.out.next HC.out).cell 2
  have k13 := (HK1.out.next HC.out).cell 3
  have k14 := (HK1.out.next HC.out).cell 4
  simp only [List.getElem?_toArray, List.getElem?_cons_succ, List.getElem?_cons_zero] at k00 k01 k02 k03 k10 k11 k12 k13 k14
  cases hok : versB c with
  | false =>
    have HV : Hid (apB c d = false) := apB_g (by unfold apG; rw [hok]; rfl)
    clear hok
    have p0x := HK2.out.next HC.out
    have z0 := p0x.cell 0
    have z1 := p0x.cell 1
    have z2 := p0x.cell 2
    have z3 := p0x.cell 3
    have zf := p0x.free
    simp only [List.getElem?_toArray, List.getElem?_cons_succ, List.getElem?_cons_zero] at z0 z1 z2 z3
    have HLOW := hide (HB0.out.trans (HC.out.mono HB0.out.size))
    have hle2 : w.heap.size ≤ g2 := by omega
    clear p0x
    go_wp2
    refine bodyPost_ret (v := .tuple #[.agg #[.slice none 0 0, .int .i64 0, .int .i64 0, .int .i64 0], .bool false]) (by simp [results, Try.results9, go_sem, z0, z1, z2, z3]) rfl (bad_endA HV.out ?_)
    exact (((HLOW.out.setCell hle2 _).setCell hle2 _).setCell hle2 _).setCell hle2 _
  | true =>
    have hn30 := (versB_out hok).1.1
    by_cases t1 : d.x2 < c.x1
    · have HV : Hid (apB c d = false) := apB_g (by unfold apG; simp [t1])
      clear hok
      have p0x := HK2.out.next HC.out
      have z0 := p0x.cell 0
      have z1 := p0x.cell 1
      have z2 := p0x.cell 2
      have z3 := p0x.cell 3
      have zf := p0x.free
      simp only [List.getElem?_toArray, List.getElem?_cons_succ, List.getElem?_cons_zero] at z0 z1 z2 z3
      have HLOW := hide (HB0.out.trans (HC.out.mono HB0.out.size))
      have hle2 : w.heap.size ≤ g2 := by omega
      clear p0x
      go_wp2
      refine bodyPost_ret (v := .tuple #[.agg #[.slice none 0 0, .int .i64 0, .int .i64 0, .int .i64 0], .bool false]) (by simp [results, Try.results9, go_sem, z0, z1, z2, z3]) rfl (bad_endA HV.out ?_)
      exact (((HLOW.out.setCell hle2 _).setCell hle2 _).setCell hle2 _).setCell hle2 _
    · skip
      by_cases t2 : d.x3 < c.x2
      · have HV : Hid (apB c d = false) := apB_g (by unfold apG; simp [t2])
        clear hok
        have p0x := HK2.out.next HC.out
        have z0 := p0x.cell 0
        have z1 := p0x.cell 1
        have z2 := p0x.cell 2
        have z3 := p0x.cell 3
        have zf := p0x.free
        simp only [List.getElem?_toArray, List.getElem?_cons_succ, List.getElem?_cons_zero] at z0 z1 z2 z3
        have HLOW := hide (HB0.out.trans (HC.out.mono HB0.out.size))
        have hle2 : w.heap.size ≤ g2 := by omega
        clear p0x
        go_wp2
        refine bodyPost_ret (v := .tuple #[.agg #[.slice none 0 0, .int .i64 0, .int .i64 0, .int .i64 0], .bool false]) (by simp [results, Try.results9, go_sem, z0, z1, z2, z3]) rfl (bad_endA HV.out ?_)
        exact (((HLOW.out.setCell hle2 _).setCell hle2 _).setCell hle2 _).setCell hle2 _
      · skip
        by_cases t3 : d.x4 < c.x3
        · have HV : Hid (apB c d = false) := apB_g (by unfold apG; simp [t3])
          clear hok
          have p0x := HK2.out.next HC.out
          have z0 := p0x.cell 0
          have z1 := p0x.cell 1
          have z2 := p0x.cell 2
          have z3 := p0x.cell 3
          have zf := p0x.free
          simp only [List.getElem?_toArray, List.getElem?_cons_succ, List.getElem?_cons_zero] at z0 z1 z2 z3
          have HLOW := hide (HB0.out.trans (HC.out.mono HB0.out.size))
          have hle2 : w.heap.size ≤ g2 := by omega
          clear p0x
          go_wp2
          refine bodyPost_ret (v := .tuple #[.agg #[.slice none 0 0, .int .i64 0, .int .i64 0, .int .i64 0], .bool false]) (by simp [results, Try.results9, go_sem, z0, z1, z2, z3]) rfl (bad_endA HV.out ?_)
          exact (((HLOW.out.setCell hle2 _).setCell hle2 _).setCell hle2 _).setCell hle2 _
        · skip
          by_cases t4 : (30 : Int) < (d.n0 : Int)
          · have HV : Hid (apB c d = false) := apB_g (by unfold apG; rw [decide_eq_false (show ¬ d.n0 ≤ 30 by omega)]; simp)
            clear hok
            have p0x := HK2.out.next HC.out
            have z0 := p0x.cell 0
            have z1 := p0x.cell 1
            have z2 := p0x.cell 2
            have z3 := p0x.cell 3
            have zf := p0x.free
            simp only [List.getElem?_toArray, List.getElem?_cons_succ, List.getElem?_cons_zero] at z0 z1 z2 z3
            have HLOW := hide (HB0.out.trans (HC.out.mono HB0.out.size))
            have hle2 : w.heap.size ≤ g2 := by omega
            clear p0x
            go_wp2
            refine bodyPost_ret (v := .tuple #[.agg #[.slice none 0 0, .int .i64 0, .int .i64 0, .int .i64 0], .bool false]) (by simp [results, Try.results9, go_sem, z0, z1, z2, z3]) rfl (bad_endA HV.out ?_)
            exact (((HLOW.out.setCell hle2 _).setCell hle2 _).setCell hle2 _).setCell hle2 _
          · skip
            have HG : Hid (apG c d = true) := by show _ = _; unfold apG; simp [hok, t1, t2, t3]; omega
            have hd30 : d.n0 ≤ 30 := by omega
            clear hok
            have hbE := below_one w2 (.cells #[] 59)
            have hE := OwnMeta.lit w2 W.heap.size HC.out.size
            have hbF := below_one (w2.alloc (.cells #[] 59)) (.cells #[.slice (some ⟨w2.heap.size, 0, none⟩) 0 0, .int .i64 d.x2, .int .i64 d.x3, .int .i64 d.x4] 32)
            have hBX := BoxIs.new (w2.alloc (.cells #[] 59)) #[.slice (some ⟨w2.heap.size, 0, none⟩) 0 0, .int .i64 d.x2, .int .i64 d.x3, .int .i64 d.x4] 32 rfl
            have hF1 : (w2.alloc (.cells #[] 59)).heap.size = w2.heap.size + 1 := by simp
            have hCs := HC.out.size
            have HAP : Hid (ApS W (w2.alloc (.cells #[] 59)).heap.size d.x2 d.x3 d.x4 (.slice (some ⟨w2.heap.size, 0, none⟩) 0 0) (leftL c.r0 d.r1 d.n1 0) ((w2.alloc (.cells #[] 59)).alloc (.cells #[.slice (some ⟨w2.heap.size, 0, none⟩) 0 0, .int .i64 d.x2, .int .i64 d.x3, .int .i64 d.x4] 32))) :=
              ⟨(HC.out.trans (hbE.mono HC.out.size)).trans (hbF.mono (by omega)), hE.next hbF, hBX, ⟨_, _, rfl⟩, by omega⟩
            rw [hF1] at HAP
            clear hbE hE hbF hBX hF1
            go_wp2
            generalize (w2.alloc (.cells #[] 59)).alloc (.cells #[.slice (some ⟨w2.heap.size, 0, none⟩) 0 0, .int .i64 d.x2, .int .i64 d.x3, .int .i64 d.x4] 32) = W4 at HAP ⊢
            obtain ⟨F, hFe⟩ : ∃ F, w2.heap.size + 1 = F := ⟨_, rfl⟩
            rw [hFe] at HAP ⊢
            obtain ⟨vE, hvE⟩ : ∃ v : Value, v = .slice (some ⟨w2.heap.size, 0, none⟩) 0 0 := ⟨_, rfl⟩
            rw [← hvE] at HAP
            clear hFe hvE hCs
            clear k00 k01 k02 k03 k10 k11 k12 k13 k14
            go_loopw [7, 8] (fun q i wr => ∃ (k : Nat) (vo : Value), q = .int .i64 (cutN c.r0 d.r1 d.n1 k : Nat) ∧ i = .int .i64 k ∧ k ≤ c.n0 ∧ Hid (ApS W F d.x2 d.x3 d.x4 vo (leftL c.r0 d.r1 d.n1 k) wr)) (fun _ i _ => c.n0 - (intOf i).toNat)
            case atStart => exact ⟨0, vE, rfl, rfl, by omega, HAP⟩
            case round =>
              obtain ⟨k, vo, rfl, rfl, hk, HR⟩ := hrel
              clear HAP HC
              have HCr := hide HR.out.ew
              have hkc := cutN_le c.r0 d.r1 d.n1 k
              have hkl := leftL_len c.r0 d.r1 d.n1 k
              have k00 := (HK0.out.next HCr.out).cell 0
              simp only [List.getElem?_toArray, List.getElem?_cons_succ, List.getElem?_cons_zero] at k00
              by_cases hlt : k < c.n0
              · have hki : (k : Int) < (c.n0 : Int) := by omega
                have HWr := hide (HB0.out.trans (HCr.out.mono HB0.out.size))
                obtain ⟨b, off, rfl, hbw, c0, c1, c2, c3, c4⟩ := (HS.out.below HWr.out).at hlt
                have hbz : b < wr.heap.size := by have := HWr.out.size; omega
                obtain ⟨wo, hwo⟩ : ∃ x, x = wr := ⟨_, rfl⟩
                subst hwo
                have HQ0 : Hid (Below wo.heap.size wo wo) := Below.refl _ _
                go_wp2
                go_loopw [9, 10] (fun s j wq => ∃ m : Nat, s = .bool (cutB d.r1 (c.r0.N k) m) ∧ j = .int .i64 m ∧ m ≤ d.n1 ∧ Hid (Below wo.heap.size wo wq)) (fun _ j _ => d.n1 - (intOf j).toNat)
                case atStart => exact ⟨0, rfl, rfl, by omega, HQ0⟩
                case round =>
                  obtain ⟨m, rfl, rfl, hm, HQ⟩ := hrel
                  obtain ⟨wq, hwq⟩ : ∃ x, x = wr := ⟨_, rfl⟩
                  subst hwq
                  clear HQ0
                  have HK0q := (HK0.out.next (HCr.out.trans (HQ.out.mono HCr.out.size))).hid
                  have HK1q := (HK1.out.next (HCr.out.trans (HQ.out.mono HCr.out.size))).hid
                  have k11 := HK1q.out.cell 1
                  simp only [List.getElem?_toArray, List.getElem?_cons_succ, List.getElem?_cons_zero] at k11
                  have hQs := HQ.out.size
                  by_cases hml : m < d.n1
                  · have hmi : (m : Int) < (d.n1 : Int) := by omega
                    have HWq := hide (HWr.out.trans (HQ.out.mono HWr.out.size))
                    obtain ⟨b', off', rfl, hb', u0⟩ := (HU.out.below HWq.out).at hml
                    have hbq : b' < wq.heap.size := by have := HWq.out.size; omega
                    have hb0q : b < wq.heap.size := by omega
                    have d0 := (HQ.out.cell (p := ⟨b, off + k * 5, none⟩) hbz).trans c0
                    have EW : Below wq.heap.size wq wq := Below.refl _ _
                    clear k00
                    cases hcut : cutB d.r1 (c.r0.N k) m with
                    | false =>
                      have HE : Hid (cutB d.r1 (c.r0.N k) (m + 1) = (d.r1 m == c.r0.N k)) := by show _ = _; rw [cutB, hcut]; rw [Bool.false_or]; rfl
                      clear hcut
                      go_wp2_with fail
                      clear k11
                      refine wp_region_noPanic ?_
                      have hb0 : Below wq.heap.size wq wq.drew := (Below.refl _ _).drew
                      have EW_0 := EW.trans (hb0.mono EW.size)
                      refine wp_region_held_drew (S := fun x => Below wq.heap.size wq x) (by kernel_rfl) EW_0 (fun _ => ?_)
                      clear EW
                      generalize wq.drew = wq0 at hb0 EW_0 ⊢
                      clear hb0
                      refine wpAnyH_take (i := 0) (v := .bool false) nat0 (by kernel_rfl) (by kernel_rfl) (by kernel_rfl) (fun _ _ _ h => False.elim h) (Or.inl ⟨by rfl, ?_⟩) EW_0 ?_
                      · intro wx hSw
                        go_simp
                      simp only [Act.put, List.setIfInBounds_toArray, List.set_cons_zero, List.set_cons_succ]
                      refine wpAnyH_take (i := 1) (v := .bool false) nat1 (by kernel_rfl) (by kernel_rfl) (by kernel_rfl) (fun _ _ _ h => False.elim h) (Or.inl ⟨by rfl, ?_⟩) EW_0 ?_
                      · intro wx hSw
                        go_simp
                      simp only [Act.put, List.setIfInBounds_toArray, List.set_cons_zero, List.set_cons_succ]
                      refine wpAnyH_take (i := 2) (v := .pointer (some ⟨g1, 1, none⟩)) nat2 (by kernel_rfl) (by kernel_rfl) (by kernel_rfl) (fun _ _ _ h => False.elim h) (Or.inl ⟨by rfl, ?_⟩) EW_0 ?_
                      · intro wx hSw
                        go_simp
                      simp only [Act.put, List.setIfInBounds_toArray, List.set_cons_zero, List.set_cons_succ]
                      refine wpAnyH_take (i := 3) (v := .slice (some ⟨b', off', none⟩) d.n1 q1) nat3 (by kernel_rfl) (by kernel_rfl) (by kernel_rfl) (fun _ _ _ h => False.elim h) (Or.inl ⟨by rfl, ?_⟩) EW_0 ?_
                      · intro wx hSw
                        have yl := (HK1q.out.next hSw).cell 1
                        simp only [List.getElem?_toArray, List.getElem?_cons_succ, List.getElem?_cons_zero] at yl
                        go_simp
                      simp only [Act.put, List.setIfInBounds_toArray, List.set_cons_zero, List.set_cons_succ]
                      refine wpAnyH_take (i := 4) (v := .int .i64 (m : Int)) nat4 (by kernel_rfl) (by kernel_rfl) (by kernel_rfl) (fun _ _ _ h => False.elim h) (Or.inl ⟨by rfl, ?_⟩) EW_0 ?_
                      · intro wx hSw
                        go_simp
                      simp only [Act.put, List.setIfInBounds_toArray, List.set_cons_zero, List.set_cons_succ]
                      refine wpAnyH_take (i := 5) (v := .pointer (some ⟨b', off' + m, none⟩)) nat5 (by kernel_rfl) (by kernel_rfl) (by kernel_rfl) (fun _ _ _ h => False.elim h) (Or.inl ⟨by rfl, ?_⟩) EW_0 ?_
                      · intro wx hSw
                        go_simp
                      simp only [Act.put, List.setIfInBounds_toArray, List.set_cons_zero, List.set_cons_succ]
                      refine wpAnyH_take (i := 6) (v := .int .i64 (d.r1 m)) nat6 (by kernel_rfl) (by kernel_rfl) (by kernel_rfl) (fun _ _ _ h => False.elim h) (Or.inl ⟨by rfl, ?_⟩) EW_0 ?_
                      · intro wx hSw
                        have yl := (hSw.cell (p := ⟨b', off' + m, none⟩) hbq).trans u0
                        go_simp
                      simp only [Act.put, List.setIfInBounds_toArray, List.set_cons_zero, List.set_cons_succ]
                      refine wpAnyH_take (i := 7) (v := .pointer (some ⟨w.heap.size, 0, none⟩)) nat7 (by kernel_rfl) (by kernel_rfl) (by kernel_rfl) (fun _ _ _ h => False.elim h) (Or.inl ⟨by rfl, ?_⟩) EW_0 ?_
                      · intro wx hSw
                        go_simp
                      simp only [Act.put, List.setIfInBounds_toArray, List.set_cons_zero, List.set_cons_succ]
                      refine wpAnyH_take (i := 8) (v := .slice (some ⟨b, off, none⟩) c.n0 p0) nat8 (by kernel_rfl) (by kernel_rfl) (by kernel_rfl) (fun _ _ _ h => False.elim h) (Or.inl ⟨by rfl, ?_⟩) EW_0 ?_
                      · intro wx hSw
                        have yl := (HK0q.out.next hSw).cell 0
                        simp only [List.getElem?_toArray, List.getElem?_cons_succ, List.getElem?_cons_zero] at yl
                        go_simp
                      simp only [Act.put, List.setIfInBounds_toArray, List.set_cons_zero, List.set_cons_succ]
                      refine wpAnyH_take (i := 9) (v := .int .i64 (k : Int)) nat9 (by kernel_rfl) (by kernel_rfl) (by kernel_rfl) (fun _ _ _ h => False.elim h) (Or.inl ⟨by rfl, ?_⟩) EW_0 ?_
                      · intro wx hSw
                        go_simp
                      simp only [Act.put, List.setIfInBounds_toArray, List.set_cons_zero, List.set_cons_succ]
                      refine wpAnyH_take (i := 10) (v := .pointer (some ⟨b, off + k * 5, none⟩)) nat10 (by kernel_rfl) (by kernel_rfl) (by kernel_rfl) (fun _ _ _ h => False.elim h) (Or.inl ⟨by rfl, ?_⟩) EW_0 ?_
                      · intro wx hSw
                        go_simp
                      simp only [Act.put, List.setIfInBounds_toArray, List.set_cons_zero, List.set_cons_succ]
                      refine wpAnyH_take (i := 11) (v := .pointer (some ⟨b, off + k * 5, none⟩)) nat11 (by kernel_rfl) (by kernel_rfl) (by kernel_rfl) (fun _ _ _ h => False.elim h) (Or.inl ⟨by rfl, ?_⟩) EW_0 ?_
                      · intro wx hSw
                        go_simp
                      simp only [Act.put, List.setIfInBounds_toArray, List.set_cons_zero, List.set_cons_succ]
                      refine wpAnyH_take (i := 12) (v := .int .i64 (c.r0.N k)) nat12 (by kernel_rfl) (by kernel_rfl) (by kernel_rfl) (fun _ _ _ h => False.elim h) (Or.inl ⟨by rfl, ?_⟩) EW_0 ?_
                      · intro wx hSw
                        have yl := (hSw.cell (p := ⟨b, off + k * 5, none⟩) hb0q).trans d0
                        go_simp
                      simp only [Act.put, List.setIfInBounds_toArray, List.set_cons_zero, List.set_cons_succ]
                      refine wpAnyH_take (i := 13) (v := .bool (d.r1 m == c.r0.N k)) nat13 (by kernel_rfl) (by kernel_rfl) (by kernel_rfl) (fun _ _ _ h => False.elim h) (Or.inl ⟨by rfl, ?_⟩) EW_0 ?_
                      · intro wx hSw
                        go_simp
                      simp only [Act.put, List.setIfInBounds_toArray, List.set_cons_zero, List.set_cons_succ]
                      refine wpAnyH_take (i := 14) (v := .bool (d.r1 m == c.r0.N k)) nat14 (by kernel_rfl) (by kernel_rfl) (by kernel_rfl) (fun _ _ _ h => False.elim h) (Or.inl ⟨by rfl, ?_⟩) EW_0 ?_
                      · intro wx hSw
                        go_simp
                      simp only [Act.put, List.setIfInBounds_toArray, List.set_cons_zero, List.set_cons_succ]
                      refine wpAnyH_take (i := 15) (v := .bool (d.r1 m == c.r0.N k)) nat15 (by kernel_rfl) (by kernel_rfl) (by kernel_rfl) (fun _ _ _ h => False.elim h) (Or.inl ⟨by rfl, ?_⟩) EW_0 ?_
                      · intro wx hSw
                        go_simp
                      simp only [Act.put, List.setIfInBounds_toArray, List.set_cons_zero, List.set_cons_succ]
                      refine wpAnyH_done (by kernel_rfl) ?_ _
                      refine NoPanic.normal ?_
                      have HQ2 := hide (HQ.out.trans (EW_0.mono HQ.out.size))
                      go_wp2
                      exact ⟨⟨m + 1, by rw [HE.out], by go_num, by omega, HQ2⟩, by simp [intOf]; omega⟩
                    | true =>
                      have HE : Hid (cutB d.r1 (c.r0.N k) (m + 1) = true) := by show _ = _; rw [cutB, hcut]; rfl
                      clear hcut
                      go_wp2_with fail
                      clear k11
                      refine wp_region_noPanic ?_
                      have hb0 : Below wq.heap.size wq wq.drew := (Below.refl _ _).drew
                      have EW_0 := EW.trans (hb0.mono EW.size)
                      refine wp_region_held_drew (S := fun x => Below wq.heap.size wq x) (by kernel_rfl) EW_0 (fun _ => ?_)
                      clear EW
                      generalize wq.drew = wq0 at hb0 EW_0 ⊢
                      clear hb0
                      refine wpAnyH_take (i := 0) (v := .bool true) nat0 (by kernel_rfl) (by kernel_rfl) (by kernel_rfl) (fun _ _ _ h => False.elim h) (Or.inl ⟨by rfl, ?_⟩) EW_0 ?_
                      · intro wx hSw
                        go_simp
                      simp only [Act.put, List.setIfInBounds_toArray, List.set_cons_zero, List.set_cons_succ]
                      refine wpAnyH_take (i := 1) (v := .bool true) nat1 (by kernel_rfl) (by kernel_rfl) (by kernel_rfl) (fun _ _ _ h => False.elim h) (Or.inl ⟨by rfl, ?_⟩) EW_0 ?_
                      · intro wx hSw
                        go_simp
                      simp only [Act.put, List.setIfInBounds_toArray, List.set_cons_zero, List.set_cons_succ]
                      refine wpAnyH_take (i := 2) (v := undef) nat2 (by kernel_rfl) (by kernel_rfl) (by kernel_rfl) (fun _ _ _ h => False.elim h) (Or.inr ⟨by rfl, rfl⟩) EW_0 ?_
                      simp only [Act.put, List.setIfInBounds_toArray, List.set_cons_zero, List.set_cons_succ]
                      refine wpAnyH_take (i := 3) (v := undef) nat3 (by kernel_rfl) (by kernel_rfl) (by kernel_rfl) (fun _ _ _ h => False.elim h) (Or.inr ⟨by rfl, rfl⟩) EW_0 ?_
                      simp only [Act.put, List.setIfInBounds_toArray, List.set_cons_zero, List.set_cons_succ]
                      refine wpAnyH_take (i := 4) (v := undef) nat4 (by kernel_rfl) (by kernel_rfl) (by kernel_rfl) (fun _ _ _ h => False.elim h) (Or.inr ⟨by rfl, rfl⟩) EW_0 ?_
                      simp only [Act.put, List.setIfInBounds_toArray, List.set_cons_zero, List.set_cons_succ]
                      refine wpAnyH_take (i := 5) (v := undef) nat5 (by kernel_rfl) (by kernel_rfl) (by kernel_rfl) (fun _ _ _ h => False.elim h) (Or.inr ⟨by rfl, rfl⟩) EW_0 ?_
                      simp only [Act.put, List.setIfInBounds_toArray, List.set_cons_zero, List.set_cons_succ]
                      refine wpAnyH_take (i := 6) (v := undef) nat6 (by kernel_rfl) (by kernel_rfl) (by kernel_rfl) (fun _ _ _ h => False.elim h) (Or.inr ⟨by rfl, rfl⟩) EW_0 ?_
                      simp only [Act.put, List.setIfInBounds_toArray, List.set_cons_zero, List.set_cons_succ]
                      refine wpAnyH_take (i := 7) (v := undef) nat7 (by kernel_rfl) (by kernel_rfl) (by kernel_rfl) (fun _ _ _ h => False.elim h) (Or.inr ⟨by rfl, rfl⟩) EW_0 ?_
                      simp only [Act.put, List.setIfInBounds_toArray, List.set_cons_zero, List.set_cons_succ]
                      refine wpAnyH_take (i := 8) (v := undef) nat8 (by kernel_rfl) (by kernel_rfl) (by kernel_rfl) (fun _ _ _ h => False.elim h) (Or.inr ⟨by rfl, rfl⟩) EW_0 ?_
                      simp only [Act.put, List.setIfInBounds_toArray, List.set_cons_zero, List.set_cons_succ]
                      refine wpAnyH_take (i := 9) (v := undef) nat9 (by kernel_rfl) (by kernel_rfl) (by kernel_rfl) (fun _ _ _ h => False.elim h) (Or.inr ⟨by rfl, rfl⟩) EW_0 ?_
                      simp only [Act.put, List.setIfInBounds_toArray, List.set_cons_zero, List.set_cons_succ]
                      refine wpAnyH_take (i := 10) (v := undef) nat10 (by kernel_rfl) (by kernel_rfl) (by kernel_rfl) (fun _ _ _ h => False.elim h) (Or.inr ⟨by rfl, rfl⟩) EW_0 ?_
                      simp only [Act.put, List.setIfInBounds_toArray, List.set_cons_zero, List.set_cons_succ]
                      refine wpAnyH_take (i := 11) (v := undef) nat11 (by kernel_rfl) (by kernel_rfl) (by kernel_rfl) (fun _ _ _ h => False.elim h) (Or.inr ⟨by rfl, rfl⟩) EW_0 ?_
                      simp only [Act.put, List.setIfInBounds_toArray, List.set_cons_zero, List.set_cons_succ]
                      refine wpAnyH_take (i := 12) (v := undef) nat12 (by kernel_rfl) (by kernel_rfl) (by kernel_rfl) (fun _ _ _ h => False.elim h) (Or.inr ⟨by rfl, rfl⟩) EW_0 ?_
                      simp only [Act.put, List.setIfInBounds_toArray, List.set_cons_zero, List.set_cons_succ]
                      refine wpAnyH_take (i := 13) (v := undef) nat13 (by kernel_rfl) (by kernel_rfl) (by kernel_rfl) (fun _ _ _ h => False.elim h) (Or.inr ⟨by rfl, rfl⟩) EW_0 ?_
                      simp only [Act.put, List.setIfInBounds_toArray, List.set_cons_zero, List.set_cons_succ]
                      refine wpAnyH_take (i := 14) (v := .bool true) nat14 (by kernel_rfl) (by kernel_rfl) (by kernel_rfl) (fun _ _ _ h => False.elim h) (Or.inl ⟨by rfl, ?_⟩) EW_0 ?_
                      · intro wx hSw
                        go_simp
                      simp only [Act.put, List.setIfInBounds_toArray, List.set_cons_zero, List.set_cons_succ]
                      refine wpAnyH_take (i := 15) (v := .bool true) nat15 (by kernel_rfl) (by kernel_rfl) (by kernel_rfl) (fun _ _ _ h => False.elim h) (Or.inl ⟨by rfl, ?_⟩) EW_0 ?_
                      · intro wx hSw
                        go_simp
                      simp only [Act.put, List.setIfInBounds_toArray, List.set_cons_zero, List.set_cons_succ]
                      refine wpAnyH_done (by kernel_rfl) ?_ _
                      refine NoPanic.normal ?_
                      have HQ2 := hide (HQ.out.trans (EW_0.mono HQ.out.size))
                      go_wp2
                      exact ⟨⟨m + 1, by rw [HE.out], by go_num, by omega, HQ2⟩, by simp [intOf]; omega⟩
                  · obtain rfl : m = d.n1 := by omega
                    have HR2 := hide (HR.out.next HQ.out)
                    have HC2 := hide HR2.out.ew
                    have d0 := (HQ.out.cell (p := ⟨b, off + k * 5, none⟩) hbz).trans c0
                    have d1 := (HQ.out.cell (p := ⟨b, off + k * 5 + 1, none⟩) hbz).trans c1
                    have d2 := (HQ.out.cell (p := ⟨b, off + k * 5 + 2, none⟩) hbz).trans c2
                    have d3 := (HQ.out.cell (p := ⟨b, off + k * 5 + 3, none⟩) hbz).trans c3
                    have d4 := (HQ.out.cell (p := ⟨b, off + k * 5 + 4, none⟩) hbz).trans c4
                    clear c0 c1 c2 c3 c4 k00
                    cases hcut : cutB d.r1 (c.r0.N k) d.n1 with
                    | true =>
                      have HL : Hid (leftL c.r0 d.r1 d.n1 (k + 1) = leftL c.r0 d.r1 d.n1 k) := by show _ = _; rw [leftL, if_pos hcut]
                      have HN : Hid (cutN c.r0 d.r1 d.n1 (k + 1) = cutN c.r0 d.r1 d.n1 k + 1) := by show _ = _; rw [cutN, if_pos hcut]
                      have HR3 : Hid (ApS W F d.x2 d.x3 d.x4 vo (leftL c.r0 d.r1 d.n1 (k + 1)) wq) := by show ApS _ _ _ _ _ _ _ _; rw [HL.out]; exact HR2.out
                      clear hcut HR HR2 HQ d0 d1 d2 d3 d4
                      go_wp2
                      exact ⟨⟨k + 1, vo, by rw [HN.out]; go_num, by go_num, by omega, HR3⟩, by simp [intOf]; omega⟩
                    | false =>
                      have HL : Hid (leftL c.r0 d.r1 d.n1 (k + 1) = leftL c.r0 d.r1 d.n1 k ++ [metaAt1 c.r0 k]) := by show _ = _; rw [leftL, if_neg (by rw [hcut]; simp)]
                      have HN : Hid (cutN c.r0 d.r1 d.n1 (k + 1) = cutN c.r0 d.r1 d.n1 k) := by show _ = _; rw [cutN, if_neg (by rw [hcut]; simp)]
                      have hFW := HR2.out.hF
                      have EW := HR2.out.ew
                      have OW := HR2.out.own
                      have XF := HR2.out.bx
                      have hb0W : b < W.heap.size := by have := HB0.out.size; omega
                      have HK0W := HK0
                      have e0 := d0
                      clear hcut HR HR2 HQ
                      go_wp2_with fail
                      have w0 : W.cell? ⟨b, off + k * 5, none⟩ = some (.int .i64 (c.r0.N k)) := (EW.cell (p := ⟨b, off + k * 5, none⟩) hb0W).symm.trans d0
                      have w1 : W.cell? ⟨b, off + k * 5 + 1, none⟩ = some (.int .i64 (c.r0.L k)) := (EW.cell (p := ⟨b, off + k * 5 + 1, none⟩) hb0W).symm.trans d1
                      have w2' : W.cell? ⟨b, off + k * 5 + 2, none⟩ = some (.string (c.r0.F k)) := (EW.cell (p := ⟨b, off + k * 5 + 2, none⟩) hb0W).symm.trans d2
                      have w3 : W.cell? ⟨b, off + k * 5 + 3, none⟩ = some (.string (c.r0.Z k)) := (EW.cell (p := ⟨b, off + k * 5 + 3, none⟩) hb0W).symm.trans d3
                      have w4 : W.cell? ⟨b, off + k * 5 + 4, none⟩ = some (.int .i64 (c.r0.C k)) := (EW.cell (p := ⟨b, off + k * 5 + 4, none⟩) hb0W).symm.trans d4
                      clear d0 d1 d2 d3 d4 e0 k11
                      refine wp_region_noPanic ?_
                      have hb0 : Below wq.heap.size wq wq.drew := (Below.refl _ _).drew
                      have EW_0 := EW.trans (hb0.mono EW.size)
                      have OW_0 := OW.next hb0
                      have XF_0 := XF.next hb0
                      refine wp_region_held_drew (S := fun x => Below W.heap.size W x) (by kernel_rfl) EW_0 (fun _ => ?_)
                      clear EW OW XF
                      generalize wq.drew = wq0 at hb0 EW_0 OW_0 XF_0 ⊢
                      clear hb0
                      refine wpAnyH_take (i := 0) (v := .pointer (some ⟨F, 0, none⟩)) nat0 (by kernel_rfl) (by kernel_rfl) (by kernel_rfl) (fun _ _ _ h => False.elim h) (Or.inl ⟨by rfl, ?_⟩) EW_0 ?_
                      · intro wx hSw
                        go_simp
                      simp only [Act.put, List.setIfInBounds_toArray, List.set_cons_zero, List.set_cons_succ]
                      refine wpAnyH_take (i := 2) (v := .pointer (some ⟨w.heap.size, 0, none⟩)) nat2 (by kernel_rfl) (by kernel_rfl) (by kernel_rfl) (fun _ _ _ h => False.elim h) (Or.inl ⟨by rfl, ?_⟩) EW_0 ?_
                      · intro wx hSw
                        go_simp
                      simp only [Act.put, List.setIfInBounds_toArray, List.set_cons_zero, List.set_cons_succ]
                      refine wpAnyH_take (i := 3) (v := .slice (some ⟨b, off, none⟩) c.n0 p0) nat3 (by kernel_rfl) (by kernel_rfl) (by kernel_rfl) (fun _ _ _ h => False.elim h) (Or.inl ⟨by rfl, ?_⟩) EW_0 ?_
                      · intro wx hSw
                        have yl := (HK0W.out.next hSw).cell 0
                        simp only [List.getElem?_toArray, List.getElem?_cons_succ, List.getElem?_cons_zero] at yl
                        go_simp
                      simp only [Act.put, List.setIfInBounds_toArray, List.set_cons_zero, List.set_cons_succ]
                      refine wpAnyH_take (i := 4) (v := .int .i64 (k : Int)) nat4 (by kernel_rfl) (by kernel_rfl) (by kernel_rfl) (fun _ _ _ h => False.elim h) (Or.inl ⟨by rfl, ?_⟩) EW_0 ?_
                      · intro wx hSw
                        go_simp
                      simp only [Act.put, List.setIfInBounds_toArray, List.set_cons_zero, List.set_cons_succ]
                      refine wpAnyH_take (i := 5) (v := .pointer (some ⟨b, off + k * 5, none⟩)) nat5 (by kernel_rfl) (by kernel_rfl) (by kernel_rfl) (fun _ _ _ h => False.elim h) (Or.inl ⟨by rfl, ?_⟩) EW_0 ?_
                      · intro wx hSw
                        go_simp
                      simp only [Act.put, List.setIfInBounds_toArray, List.set_cons_zero, List.set_cons_succ]
                      refine wpAnyH_take (i := 6) (v := .agg #[.int .i64 (c.r0.N k), .int .i64 (c.r0.L k), .string (c.r0.F k), .string (c.r0.Z k), .int .i64 (c.r0.C k)]) nat6 (by kernel_rfl) (by kernel_rfl) (by kernel_rfl) (fun _ _ _ h => False.elim h) (Or.inl ⟨by rfl, ?_⟩) EW_0 ?_
                      · intro wx hSw
                        have y0 := (hSw.cell (p := ⟨b, off + k * 5, none⟩) hb0W).trans w0
                        have y1 := (hSw.cell (p := ⟨b, off + k * 5 + 1, none⟩) hb0W).trans w1
                        have y2 := (hSw.cell (p := ⟨b, off + k * 5 + 2, none⟩) hb0W).trans w2'
                        have y3 := (hSw.cell (p := ⟨b, off + k * 5 + 3, none⟩) hb0W).trans w3
                        have y4 := (hSw.cell (p := ⟨b, off + k * 5 + 4, none⟩) hb0W).trans w4
                        go_simp
                      simp only [Act.put, List.setIfInBounds_toArray, List.set_cons_zero, List.set_cons_succ]
                      refine wpAnyH_ready (rs := [1, 7]) (by kernel_rfl) (by simp) ?_
                      refine AllReadyH.cons nat1 (fun K hK => ?_) (AllReadyH.cons nat7 (fun K hK => ?_) AllReadyH.nil)
                      · skip
                        have yl : wq0.cell? ⟨F, 0, none⟩ = some (vo) := XF_0.cell 0
                        go_simp
                        refine hK.out _ _ EW_0 (fun _ => ?_)
                        clear hK K yl
                        refine wpAnyH_ready (rs := [7]) (by kernel_rfl) (by simp) ?_
                        refine AllReadyH.cons nat7 (fun K hK => ?_) AllReadyH.nil
                        go_simp
                        have hb2 := below_one wq0 (.cells #[.int .i64 (c.r0.N k), .int .i64 (c.r0.L k), .string (c.r0.F k), .string (c.r0.Z k), .int .i64 (c.r0.C k)] 59)
                        have EW_2 := EW_0.trans (hb2.mono EW_0.size)
                        have OW_2 := OW_0.next hb2
                        have XF_2 := XF_0.next hb2
                        have NB_2 := BoxIs.new wq0 #[.int .i64 (c.r0.N k), .int .i64 (c.r0.L k), .string (c.r0.F k), .string (c.r0.Z k), .int .i64 (c.r0.C k)] 59 rfl
                        refine hK.out _ _ EW_2 (fun _ => ?_)
                        clear hK K EW_0 OW_0 XF_0
                        obtain ⟨G2, hG2⟩ : ∃ G, G = wq0.heap.size := ⟨_, rfl⟩
                        rw [← hG2] at NB_2 ⊢
                        generalize wq0.alloc (.cells #[.int .i64 (c.r0.N k), .int .i64 (c.r0.L k), .string (c.r0.F k), .string (c.r0.Z k), .int .i64 (c.r0.C k)] 59) = wq2 at hb2 EW_2 OW_2 XF_2 NB_2 ⊢
                        clear hG2 hb2
                        refine wpAnyH_ready (rs := [8]) (by kernel_rfl) (by simp) ?_
                        refine AllReadyH.cons nat8 (fun K hK => ?_) AllReadyH.nil
                        skip
                        refine step_append_meta rfl (.tmp 86) (.tmp 92) 30 rfl Try.underlying30 W.heap.size vo (leftL c.r0 d.r1 d.n1 k) [metaAt1 c.r0 k] (by rfl) OW_2 ⟨G2, 0, none⟩ 1 1 (by rfl) rfl (meta_news (e := metaAt1 c.r0 k) NB_2) (by have := EW_2.size; omega) (by omega) ?_
                        intro v' wq3 h1 h2
                        obtain ⟨gs3, cs3, hsv⟩ := h1.some (by simp)
                        obtain rfl : v' = .slice (some ⟨gs3, 0, none⟩) ((leftL c.r0 d.r1 d.n1 k).length + 1) cs3 := by rw [hsv, List.length_append]; rfl
                        clear hsv
                        have hgb := OW_2.grownBelow (by have := EW_2.size; omega) h2
                        have OW_3 := h1
                        have EW_3 := EW_2.trans hgb
                        have XF_3 := OW_2.grownBox XF_2 (by decide) h2
                        refine hK.out _ _ EW_3 (fun _ => ?_)
                        clear hK K EW_2 NB_2 OW_2 XF_2
                        refine wpAnyH_take (i := 9) (v := .pointer (some ⟨F, 0, none⟩)) nat9 (by kernel_rfl) (by kernel_rfl) (by kernel_rfl) (fun _ _ _ h => False.elim h) (Or.inl ⟨by rfl, ?_⟩) EW_3 ?_
                        · intro wx hSw
                          go_simp
                        simp only [Act.put, List.setIfInBounds_toArray, List.set_cons_zero, List.set_cons_succ]
                        refine wpAnyH_ready (rs := [10]) (by kernel_rfl) (by simp) ?_
                        refine AllReadyH.cons nat10 (fun K hK => ?_) AllReadyH.nil
                        skip
                        have yl : wq3.cell? ⟨F, 0, none⟩ = some (vo) := XF_3.cell 0
                        have yf := XF_3.free 0
                        go_simp
                        have EW_4 := EW_3.setCell (p := ⟨F, 0, none⟩) hFW (.slice (some ⟨gs3, 0, none⟩) ((leftL c.r0 d.r1 d.n1 k).length + 1) cs3)
                        have OW_4 := OW_3.setBox XF_3 (by decide) (.slice (some ⟨gs3, 0, none⟩) ((leftL c.r0 d.r1 d.n1 k).length + 1) cs3) (o := 0)
                        have XF_4 := XF_3.set 0 (.slice (some ⟨gs3, 0, none⟩) ((leftL c.r0 d.r1 d.n1 k).length + 1) cs3)
                        refine hK.out _ _ EW_4 (fun _ => ?_)
                        clear hK K yl yf EW_3 OW_3 XF_3
                        generalize wq3.setCell ⟨F, 0, none⟩ (.slice (some ⟨gs3, 0, none⟩) ((leftL c.r0 d.r1 d.n1 k).length + 1) cs3) = wq4 at EW_4 OW_4 XF_4 ⊢
                        refine wpAnyH_done (by kernel_rfl) ?_ _
                        refine NoPanic.normal ?_
                        have HR3 : Hid (ApS W F d.x2 d.x3 d.x4 (.slice (some ⟨gs3, 0, none⟩) ((leftL c.r0 d.r1 d.n1 k).length + 1) cs3) (leftL c.r0 d.r1 d.n1 (k + 1)) wq4) := by show ApS _ _ _ _ _ _ _ _; rw [HL.out]; exact ⟨EW_4, OW_4, XF_4, ⟨_, _, by rw [List.length_append]; rfl⟩, hFW⟩
                        clear EW_4 OW_4 XF_4
                        go_wp2
                        exact ⟨⟨k + 1, _, by rw [HN.out], by go_num, by omega, HR3⟩, by simp [intOf]; omega⟩
                      · go_simp
                        have hb5 := below_one wq0 (.cells #[.int .i64 (c.r0.N k), .int .i64 (c.r0.L k), .string (c.r0.F k), .string (c.r0.Z k), .int .i64 (c.r0.C k)] 59)
                        have EW_5 := EW_0.trans (hb5.mono EW_0.size)
                        have OW_5 := OW_0.next hb5
                        have XF_5 := XF_0.next hb5
                        have NB_5 := BoxIs.new wq0 #[.int .i64 (c.r0.N k), .int .i64 (c.r0.L k), .string (c.r0.F k), .string (c.r0.Z k), .int .i64 (c.r0.C k)] 59 rfl
                        refine hK.out _ _ EW_5 (fun _ => ?_)
                        clear hK K EW_0 OW_0 XF_0
                        obtain ⟨G5, hG5⟩ : ∃ G, G = wq0.heap.size := ⟨_, rfl⟩
                        rw [← hG5] at NB_5 ⊢
                        generalize wq0.alloc (.cells #[.int .i64 (c.r0.N k), .int .i64 (c.r0.L k), .string (c.r0.F k), .string (c.r0.Z k), .int .i64 (c.r0.C k)] 59) = wq5 at hb5 EW_5 OW_5 XF_5 NB_5 ⊢
                        clear hG5 hb5
                        refine wpAnyH_ready (rs := [1]) (by kernel_rfl) (by simp) ?_
                        refine AllReadyH.cons nat1 (fun K hK => ?_) AllReadyH.nil
                        skip
                        have yl : wq5.cell? ⟨F, 0, none⟩ = some (vo) := XF_5.cell 0
                        go_simp
                        refine hK.out _ _ EW_5 (fun _ => ?_)
                        clear hK K yl
                        refine wpAnyH_ready (rs := [8]) (by kernel_rfl) (by simp) ?_
                        refine AllReadyH.cons nat8 (fun K hK => ?_) AllReadyH.nil
                        skip
                        refine step_append_meta rfl (.tmp 86) (.tmp 92) 30 rfl Try.underlying30 W.heap.size vo (leftL c.r0 d.r1 d.n1 k) [metaAt1 c.r0 k] (by rfl) OW_5 ⟨G5, 0, none⟩ 1 1 (by rfl) rfl (meta_news (e := metaAt1 c.r0 k) NB_5) (by have := EW_5.size; omega) (by omega) ?_
                        intro v' wq7 h1 h2
                        obtain ⟨gs7, cs7, hsv⟩ := h1.some (by simp)
                        obtain rfl : v' = .slice (some ⟨gs7, 0, none⟩) ((leftL c.r0 d.r1 d.n1 k).length + 1) cs7 := by rw [hsv, List.length_append]; rfl
                        clear hsv
                        have hgb := OW_5.grownBelow (by have := EW_5.size; omega) h2
                        have OW_7 := h1
                        have EW_7 := EW_5.trans hgb
                        have XF_7 := OW_5.grownBox XF_5 (by decide) h2
                        refine hK.out _ _ EW_7 (fun _ => ?_)
                        clear hK K EW_5 NB_5 OW_5 XF_5
                        refine wpAnyH_take (i := 9) (v := .pointer (some ⟨F, 0, none⟩)) nat9 (by kernel_rfl) (by kernel_rfl) (by kernel_rfl) (fun _ _ _ h => False.elim h) (Or.inl ⟨by rfl, ?_⟩) EW_7 ?_
                        · intro wx hSw
                          go_simp
                        simp only [Act.put, List.setIfInBounds_toArray, List.set_cons_zero, List.set_cons_succ]
                        refine wpAnyH_ready (rs := [10]) (by kernel_rfl) (by simp) ?_
                        refine AllReadyH.cons nat10 (fun K hK => ?_) AllReadyH.nil
                        skip
                        have yl : wq7.cell? ⟨F, 0, none⟩ = some (vo) := XF_7.cell 0
                        have yf := XF_7.free 0
                        go_simp
                        have EW_8 := EW_7.setCell (p := ⟨F, 0, none⟩) hFW (.slice (some ⟨gs7, 0, none⟩) ((leftL c.r0 d.r1 d.n1 k).length + 1) cs7)
                        have OW_8 := OW_7.setBox XF_7 (by decide) (.slice (some ⟨gs7, 0, none⟩) ((leftL c.r0 d.r1 d.n1 k).length + 1) cs7) (o := 0)
                        have XF_8 := XF_7.set 0 (.slice (some ⟨gs7, 0, none⟩) ((leftL c.r0 d.r1 d.n1 k).length + 1) cs7)
                        refine hK.out _ _ EW_8 (fun _ => ?_)
                        clear hK K yl yf EW_7 OW_7 XF_7
                        generalize wq7.setCell ⟨F, 0, none⟩ (.slice (some ⟨gs7, 0, none⟩) ((leftL c.r0 d.r1 d.n1 k).length + 1) cs7) = wq8 at EW_8 OW_8 XF_8 ⊢
                        refine wpAnyH_done (by kernel_rfl) ?_ _
                        refine NoPanic.normal ?_
                        have HR3 : Hid (ApS W F d.x2 d.x3 d.x4 (.slice (some ⟨gs7, 0, none⟩) ((leftL c.r0 d.r1 d.n1 k).length + 1) cs7) (leftL c.r0 d.r1 d.n1 (k + 1)) wq8) := by show ApS _ _ _ _ _ _ _ _; rw [HL.out]; exact ⟨EW_8, OW_8, XF_8, ⟨_, _, by rw [List.length_append]; rfl⟩, hFW⟩
                        clear EW_8 OW_8 XF_8
                        go_wp2
                        exact ⟨⟨k + 1, _, by rw [HN.out], by go_num, by omega, HR3⟩, by simp [intOf]; omega⟩
              · obtain rfl : k = c.n0 := by omega
                have k11 := (HK1.out.next HCr.out).cell 1
                simp only [List.getElem?_toArray, List.getElem?_cons_succ, List.getElem?_cons_zero] at k11
                by_cases hcn : cutN c.r0 d.r1 d.n1 c.n0 = d.n1
                · have hcn' : ¬ ((cutN c.r0 d.r1 d.n1 c.n0 : Nat) : Int) ≠ (d.n1 : Int) := by omega
                  have HCN := hide hcn
                  have HR0 : Hid (ApS W F d.x2 d.x3 d.x4 vo (addsL (leftL c.r0 d.r1 d.n1 c.n0) d.r0 0) wr) := HR
                  clear HR
                  have hll : (leftL c.r0 d.r1 d.n1 c.n0).length ≤ 30 := by omega
                  obtain ⟨l0, hl0⟩ : ∃ l, l = leftL c.r0 d.r1 d.n1 c.n0 := ⟨_, rfl⟩
                  have HL0 := hide hl0
                  rw [← hl0] at HR0 hll
                  clear hl0 hkl
                  rw [hcn]
                  have hdd : ((d.n1 : Int) == (d.n1 : Int)) = true := by simp
                  clear hcn hcn'
                  go_wp2
                  clear k00 k11 hdd
                  go_loopw [11] (fun i wr => ∃ (k : Nat) (vo : Value), i = .int .i64 k ∧ k ≤ d.n0 ∧ Hid (ApS W F d.x2 d.x3 d.x4 vo (addsL l0 d.r0 k) wr)) (fun i _ => d.n0 - (intOf i).toNat)
                  case atStart => exact ⟨0, vo, rfl, by omega, HR0⟩
                  case round =>
                    obtain ⟨k, vo, rfl, hk, HR⟩ := hrel
                    clear HR0 HCr
                    have HCr := hide HR.out.ew
                    have hal := addsL_len l0 d.r0 k
                    have k10 := (HK1.out.next HCr.out).cell 0
                    simp only [List.getElem?_toArray, List.getElem?_cons_succ, List.getElem?_cons_zero] at k10
                    by_cases hlt : k < d.n0
                    · have hki : (k : Int) < (d.n0 : Int) := by omega
                      have HWr := hide (HB0.out.trans (HCr.out.mono HB0.out.size))
                      obtain ⟨b, off, rfl, hbw, c0, c1, c2, c3, c4⟩ := (HA.out.below HWr.out).at hlt
                      have hbz : b < wr.heap.size := by have := HWr.out.size; omega
                      obtain ⟨g, cap, hsh⟩ := HR.out.sh
                      subst hsh
                      have HSTEP : Hid (addsL l0 d.r0 (k + 1) = insM (addsL l0 d.r0 k) (metaAt1 d.r0 k)) := rfl
                      generalize addsL l0 d.r0 k = l at HR HSTEP hal
                      have hll2 : l.length ≤ 60 := by omega
                      clear hal
                      obtain ⟨wo, hwo⟩ : ∃ x, x = wr := ⟨_, rfl⟩
                      subst hwo
                      have HQ0 : Hid (Below wo.heap.size wo wo) := Below.refl _ _
                      go_wp2
                      clear k10
                      go_loopw [12] (fun p wq => ∃ m : Nat, p = .int .i64 m ∧ m ≤ l.length ∧ Hid (∀ j, j < m → ∃ a, l[j]? = some a ∧ ahM a (metaAt1 d.r0 k) = true) ∧ Hid (Below wo.heap.size wo wq)) (fun p _ => l.length - (intOf p).toNat)
                      case atStart => exact ⟨0, rfl, by omega, fun j hj => absurd hj (by omega), HQ0⟩
                      case round =>
                        obtain ⟨m, rfl, hm, HAH, HQ⟩ := hrel
                        obtain ⟨wq, hwq⟩ : ∃ x, x = wr := ⟨_, rfl⟩
                        subst hwq
                        clear HQ0
                        have HRq := hide (HR.out.next HQ.out)
                        have HK1q := (HK1.out.next HRq.out.ew).hid
                        have hbq : b < wq.heap.size := by have := HQ.out.size; omega
                        have d0 := (HQ.out.cell (p := ⟨b, off + k * 5, none⟩) hbz).trans c0
                        have d1 := (HQ.out.cell (p := ⟨b, off + k * 5 + 1, none⟩) hbz).trans c1
                        have d2 := (HQ.out.cell (p := ⟨b, off + k * 5 + 2, none⟩) hbz).trans c2
                        have d3 := (HQ.out.cell (p := ⟨b, off + k * 5 + 3, none⟩) hbz).trans c3
                        have d4 := (HQ.out.cell (p := ⟨b, off + k * 5 + 4, none⟩) hbz).trans c4
                        have EW : Below wq.heap.size wq wq := Below.refl _ _
                        by_cases hml : m < l.length
                        · have hmi : (m : Int) < (l.length : Int) := by omega
                          obtain ⟨e1, he1⟩ : ∃ e, l[m]? = some e := ⟨l[m], List.getElem?_eq_getElem hml⟩
                          obtain ⟨f0, f1, f2, f3, f4⟩ := HRq.out.own.five he1
                          have hgq : g < wq.heap.size := by
                            rcases HRq.out.own.2 with ⟨h0, _⟩ | ⟨g', cap', cur, hv, hg', hh, _⟩
                            · cases h0
                            · simp only [Value.slice.injEq, Option.some.injEq, Addr.mk.injEq, and_true] at hv
                              obtain ⟨rfl, _⟩ := hv
                              exact (Array.getElem?_eq_some_iff.1 hh).1
                          have HXq := HRq.out.bx.hid
                          have HAV : Hid (aheadB e1.n e1.l e1.z (d.r0.N k) (d.r0.L k) (d.r0.F k) = ahM e1 (metaAt1 d.r0 k)) := rfl
                          have cA := fun wx => spec_l12Ahead e1.n e1.l e1.f e1.z e1.c (d.r0.N k) (d.r0.L k) (d.r0.F k) (d.r0.Z k) (d.r0.C k) wx
                          rw [HAV.out] at cA
                          cases hah : ahM e1 (metaAt1 d.r0 k) with
                          | true =>
                            have HAH2 : Hid (∀ j, j < m + 1 → ∃ a, l[j]? = some a ∧ ahM a (metaAt1 d.r0 k) = true) := fun j hj => by
                              rcases Nat.lt_or_eq_of_le (Nat.le_of_lt_succ hj) with h3 | h3
                              · exact HAH.out j h3
                              · subst h3; exact ⟨e1, he1, hah⟩
                            rw [hah] at cA
                            clear hah HAV
                            go_wp2_with fail
                            refine wp_region_noPanic ?_
                            have hb0 : Below wq.heap.size wq wq.drew := (Below.refl _ _).drew
                            have EW_0 := EW.trans (hb0.mono EW.size)
                            refine wp_region_held_drew (S := fun x => Below wq.heap.size wq x) (by kernel_rfl) EW_0 (fun _ => ?_)
                            clear EW
                            generalize wq.drew = wq0 at hb0 EW_0 ⊢
                            clear hb0
                            refine wpAnyH_take (i := 0) (v := .int .i64 (m : Int)) nat0 (by kernel_rfl) (by kernel_rfl) (by kernel_rfl) (fun _ _ _ h => False.elim h) (Or.inl ⟨by rfl, ?_⟩) EW_0 ?_
                            · intro wx hSw
                              go_simp
                            simp only [Act.put, List.setIfInBounds_toArray, List.set_cons_zero, List.set_cons_succ]
                            refine wpAnyH_take (i := 1) (v := .pointer (some ⟨F, 0, none⟩)) nat1 (by kernel_rfl) (by kernel_rfl) (by kernel_rfl) (fun _ _ _ h => False.elim h) (Or.inl ⟨by rfl, ?_⟩) EW_0 ?_
                            · intro wx hSw
                              go_simp
                            simp only [Act.put, List.setIfInBounds_toArray, List.set_cons_zero, List.set_cons_succ]
                            refine wpAnyH_take (i := 2) (v := .slice (some ⟨g, 0, none⟩) l.length cap) nat2 (by kernel_rfl) (by kernel_rfl) (by kernel_rfl) (fun _ _ _ h => False.elim h) (Or.inl ⟨by rfl, ?_⟩) EW_0 ?_
                            · intro wx hSw
                              have yl := (HXq.out.next hSw).cell 0
                              simp only [List.getElem?_toArray, List.getElem?_cons_succ, List.getElem?_cons_zero] at yl
                              go_simp
                            simp only [Act.put, List.setIfInBounds_toArray, List.set_cons_zero, List.set_cons_succ]
                            refine wpAnyH_take (i := 3) (v := .int .i64 (l.length : Int)) nat3 (by kernel_rfl) (by kernel_rfl) (by kernel_rfl) (fun _ _ _ h => False.elim h) (Or.inl ⟨by rfl, ?_⟩) EW_0 ?_
                            · intro wx hSw
                              go_simp
                            simp only [Act.put, List.setIfInBounds_toArray, List.set_cons_zero, List.set_cons_succ]
                            refine wpAnyH_take (i := 4) (v := .bool true) nat4 (by kernel_rfl) (by kernel_rfl) (by kernel_rfl) (fun _ _ _ h => False.elim h) (Or.inl ⟨by rfl, ?_⟩) EW_0 ?_
                            · intro wx hSw
                              go_simp
                            simp only [Act.put, List.setIfInBounds_toArray, List.set_cons_zero, List.set_cons_succ]
                            refine wpAnyH_take (i := 5) (v := .bool true) nat5 (by kernel_rfl) (by kernel_rfl) (by kernel_rfl) (fun _ _ _ h => False.elim h) (Or.inl ⟨by rfl, ?_⟩) EW_0 ?_
                            · intro wx hSw
                              go_simp
                            simp only [Act.put, List.setIfInBounds_toArray, List.set_cons_zero, List.set_cons_succ]
                            refine wpAnyH_take (i := 6) (v := .pointer (some ⟨F, 0, none⟩)) nat6 (by kernel_rfl) (by kernel_rfl) (by kernel_rfl) (fun _ _ _ h => False.elim h) (Or.inl ⟨by rfl, ?_⟩) EW_0 ?_
                            · intro wx hSw
                              go_simp
                            simp only [Act.put, List.setIfInBounds_toArray, List.set_cons_zero, List.set_cons_succ]
                            refine wpAnyH_take (i := 7) (v := .slice (some ⟨g, 0, none⟩) l.length cap) nat7 (by kernel_rfl) (by kernel_rfl) (by kernel_rfl) (fun _ _ _ h => False.elim h) (Or.inl ⟨by rfl, ?_⟩) EW_0 ?_
                            · intro wx hSw
                              have yl := (HXq.out.next hSw).cell 0
                              simp only [List.getElem?_toArray, List.getElem?_cons_succ, List.getElem?_cons_zero] at yl
                              go_simp
                            simp only [Act.put, List.setIfInBounds_toArray, List.set_cons_zero, List.set_cons_succ]
                            refine wpAnyH_take (i := 8) (v := .int .i64 (m : Int)) nat8 (by kernel_rfl) (by kernel_rfl) (by kernel_rfl) (fun _ _ _ h => False.elim h) (Or.inl ⟨by rfl, ?_⟩) EW_0 ?_
                            · intro wx hSw
                              go_simp
                            simp only [Act.put, List.setIfInBounds_toArray, List.set_cons_zero, List.set_cons_succ]
                            refine wpAnyH_take (i := 9) (v := .pointer (some ⟨g, m * 5, none⟩)) nat9 (by kernel_rfl) (by kernel_rfl) (by kernel_rfl) (fun _ _ _ h => False.elim h) (Or.inl ⟨by rfl, ?_⟩) EW_0 ?_
                            · intro wx hSw
                              go_simp
                            simp only [Act.put, List.setIfInBounds_toArray, List.set_cons_zero, List.set_cons_succ]
                            refine wpAnyH_take (i := 10) (v := .agg #[.int .i64 e1.n, .int .i64 e1.l, .string e1.f, .string e1.z, .int .i64 e1.c]) nat10 (by kernel_rfl) (by kernel_rfl) (by kernel_rfl) (fun _ _ _ h => False.elim h) (Or.inl ⟨by rfl, ?_⟩) EW_0 ?_
                            · intro wx hSw
                              have y0 := (hSw.cell (p := ⟨g, m * 5, none⟩) hgq).trans f0
                              have y1 := (hSw.cell (p := ⟨g, m * 5 + 1, none⟩) hgq).trans f1
                              have y2 := (hSw.cell (p := ⟨g, m * 5 + 2, none⟩) hgq).trans f2
                              have y3 := (hSw.cell (p := ⟨g, m * 5 + 3, none⟩) hgq).trans f3
                              have y4 := (hSw.cell (p := ⟨g, m * 5 + 4, none⟩) hgq).trans f4
                              go_simp
                            simp only [Act.put, List.setIfInBounds_toArray, List.set_cons_zero, List.set_cons_succ]
                            refine wpAnyH_take (i := 11) (v := .pointer (some ⟨g1, 0, none⟩)) nat11 (by kernel_rfl) (by kernel_rfl) (by kernel_rfl) (fun _ _ _ h => False.elim h) (Or.inl ⟨by rfl, ?_⟩) EW_0 ?_
                            · intro wx hSw
                              go_simp
                            simp only [Act.put, List.setIfInBounds_toArray, List.set_cons_zero, List.set_cons_succ]
                            refine wpAnyH_take (i := 12) (v := .slice (some ⟨b, off, none⟩) d.n0 q0) nat12 (by kernel_rfl) (by kernel_rfl) (by kernel_rfl) (fun _ _ _ h => False.elim h) (Or.inl ⟨by rfl, ?_⟩) EW_0 ?_
                            · intro wx hSw
                              have yl := (HK1q.out.next hSw).cell 0
                              simp only [List.getElem?_toArray, List.getElem?_cons_succ, List.getElem?_cons_zero] at yl
                              go_simp
                            simp only [Act.put, List.setIfInBounds_toArray, List.set_cons_zero, List.set_cons_succ]
                            refine wpAnyH_take (i := 13) (v := .int .i64 (k : Int)) nat13 (by kernel_rfl) (by kernel_rfl) (by kernel_rfl) (fun _ _ _ h => False.elim h) (Or.inl ⟨by rfl, ?_⟩) EW_0 ?_
                            · intro wx hSw
                              go_simp
                            simp only [Act.put, List.setIfInBounds_toArray, List.set_cons_zero, List.set_cons_succ]
                            refine wpAnyH_take (i := 14) (v := .pointer (some ⟨b, off + k * 5, none⟩)) nat14 (by kernel_rfl) (by kernel_rfl) (by kernel_rfl) (fun _ _ _ h => False.elim h) (Or.inl ⟨by rfl, ?_⟩) EW_0 ?_
                            · intro wx hSw
                              go_simp
                            simp only [Act.put, List.setIfInBounds_toArray, List.set_cons_zero, List.set_cons_succ]
                            refine wpAnyH_take (i := 15) (v := .agg #[.int .i64 (d.r0.N k), .int .i64 (d.r0.L k), .string (d.r0.F k), .string (d.r0.Z k), .int .i64 (d.r0.C k)]) nat15 (by kernel_rfl) (by kernel_rfl) (by kernel_rfl) (fun _ _ _ h => False.elim h) (Or.inl ⟨by rfl, ?_⟩) EW_0 ?_
                            · intro wx hSw
                              have y0 := (hSw.cell (p := ⟨b, off + k * 5, none⟩) hbq).trans d0
                              have y1 := (hSw.cell (p := ⟨b, off + k * 5 + 1, none⟩) hbq).trans d1
                              have y2 := (hSw.cell (p := ⟨b, off + k * 5 + 2, none⟩) hbq).trans d2
                              have y3 := (hSw.cell (p := ⟨b, off + k * 5 + 3, none⟩) hbq).trans d3
                              have y4 := (hSw.cell (p := ⟨b, off + k * 5 + 4, none⟩) hbq).trans d4
                              go_simp
                            simp only [Act.put, List.setIfInBounds_toArray, List.set_cons_zero, List.set_cons_succ]
                            refine wpAnyH_ready (rs := [16]) (by kernel_rfl) (by simp) ?_
                            refine AllReadyH.cons nat16 (fun K hK => ?_) AllReadyH.nil
                            go_simp
                            go_at_call 32
                            refine ((cA _)).mono ?_
                            rintro e wq1 ⟨rfl, hb1⟩
                            have EW_1 := EW_0.trans (hb1.mono EW_0.size)
                            refine hK.out _ _ EW_1 (fun _ => ?_)
                            clear hK K hb1 EW_0
                            refine wpAnyH_take (i := 17) (v := .bool true) nat17 (by kernel_rfl) (by kernel_rfl) (by kernel_rfl) (fun _ _ _ h => False.elim h) (Or.inl ⟨by rfl, ?_⟩) EW_1 ?_
                            · intro wx hSw
                              go_simp
                            simp only [Act.put, List.setIfInBounds_toArray, List.set_cons_zero, List.set_cons_succ]
                            refine wpAnyH_done (by kernel_rfl) ?_ _
                            refine NoPanic.normal ?_
                            have HQ2 := hide (HQ.out.trans (EW_1.mono HQ.out.size))
                            go_wp2
                            exact ⟨⟨m + 1, by go_num, by omega, HAH2, HQ2⟩, by simp [intOf]; omega⟩
                          | false =>
                            have HPOS : Hid (posM l (metaAt1 d.r0 k) = m) := posM_of l _ m HAH.out (.inr ⟨e1, he1, hah⟩)
                            rw [hah] at cA
                            clear hah HAV
                            go_wp2_with fail
                            refine wp_region_noPanic ?_
                            have hb0 : Below wq.heap.size wq wq.drew := (Below.refl _ _).drew
                            have EW_0 := EW.trans (hb0.mono EW.size)
                            refine wp_region_held_drew (S := fun x => Below wq.heap.size wq x) (by kernel_rfl) EW_0 (fun _ => ?_)
                            clear EW
                            generalize wq.drew = wq0 at hb0 EW_0 ⊢
                            clear hb0
                            refine wpAnyH_take (i := 0) (v := .int .i64 (m : Int)) nat0 (by kernel_rfl) (by kernel_rfl) (by kernel_rfl) (fun _ _ _ h => False.elim h) (Or.inl ⟨by rfl, ?_⟩) EW_0 ?_
                            · intro wx hSw
                              go_simp
                            simp only [Act.put, List.setIfInBounds_toArray, List.set_cons_zero, List.set_cons_succ]
                            refine wpAnyH_take (i := 1) (v := .pointer (some ⟨F, 0, none⟩)) nat1 (by kernel_rfl) (by kernel_rfl) (by kernel_rfl) (fun _ _ _ h => False.elim h) (Or.inl ⟨by rfl, ?_⟩) EW_0 ?_
                            · intro wx hSw
                              go_simp
                            simp only [Act.put, List.setIfInBounds_toArray, List.set_cons_zero, List.set_cons_succ]
                            refine wpAnyH_take (i := 2) (v := .slice (some ⟨g, 0, none⟩) l.length cap) nat2 (by kernel_rfl) (by kernel_rfl) (by kernel_rfl) (fun _ _ _ h => False.elim h) (Or.inl ⟨by rfl, ?_⟩) EW_0 ?_
                            · intro wx hSw
                              have yl := (HXq.out.next hSw).cell 0
                              simp only [List.getElem?_toArray, List.getElem?_cons_succ, List.getElem?_cons_zero] at yl
                              go_simp
                            simp only [Act.put, List.setIfInBounds_toArray, List.set_cons_zero, List.set_cons_succ]
                            refine wpAnyH_take (i := 3) (v := .int .i64 (l.length : Int)) nat3 (by kernel_rfl) (by kernel_rfl) (by kernel_rfl) (fun _ _ _ h => False.elim h) (Or.inl ⟨by rfl, ?_⟩) EW_0 ?_
                            · intro wx hSw
                              go_simp
                            simp only [Act.put, List.setIfInBounds_toArray, List.set_cons_zero, List.set_cons_succ]
                            refine wpAnyH_take (i := 4) (v := .bool true) nat4 (by kernel_rfl) (by kernel_rfl) (by kernel_rfl) (fun _ _ _ h => False.elim h) (Or.inl ⟨by rfl, ?_⟩) EW_0 ?_
                            · intro wx hSw
                              go_simp
                            simp only [Act.put, List.setIfInBounds_toArray, List.set_cons_zero, List.set_cons_succ]
                            refine wpAnyH_take (i := 5) (v := .bool true) nat5 (by kernel_rfl) (by kernel_rfl) (by kernel_rfl) (fun _ _ _ h => False.elim h) (Or.inl ⟨by rfl, ?_⟩) EW_0 ?_
                            · intro wx hSw
                              go_simp
                            simp only [Act.put, List.setIfInBounds_toArray, List.set_cons_zero, List.set_cons_succ]
                            refine wpAnyH_take (i := 6) (v := .pointer (some ⟨F, 0, none⟩)) nat6 (by kernel_rfl) (by kernel_rfl) (by kernel_rfl) (fun _ _ _ h => False.elim h) (Or.inl ⟨by rfl, ?_⟩) EW_0 ?_
                            · intro wx hSw
                              go_simp
                            simp only [Act.put, List.setIfInBounds_toArray, List.set_cons_zero, List.set_cons_succ]
                            refine wpAnyH_take (i := 7) (v := .slice (some ⟨g, 0, none⟩) l.length cap) nat7 (by kernel_rfl) (by kernel_rfl) (by kernel_rfl) (fun _ _ _ h => False.elim h) (Or.inl ⟨by rfl, ?_⟩) EW_0 ?_
                            · intro wx hSw
                              have yl := (HXq.out.next hSw).cell 0
                              simp only [List.getElem?_toArray, List.getElem?_cons_succ, List.getElem?_cons_zero] at yl
                              go_simp
                            simp only [Act.put, List.setIfInBounds_toArray, List.set_cons_zero, List.set_cons_succ]
                            refine wpAnyH_take (i := 8) (v := .int .i64 (m : Int)) nat8 (by kernel_rfl) (by kernel_rfl) (by kernel_rfl) (fun _ _ _ h => False.elim h) (Or.inl ⟨by rfl, ?_⟩) EW_0 ?_
                            · intro wx hSw
                              go_simp
                            simp only [Act.put, List.setIfInBounds_toArray, List.set_cons_zero, List.set_cons_succ]
                            refine wpAnyH_take (i := 9) (v := .pointer (some ⟨g, m * 5, none⟩)) nat9 (by kernel_rfl) (by kernel_rfl) (by kernel_rfl) (fun _ _ _ h => False.elim h) (Or.inl ⟨by rfl, ?_⟩) EW_0 ?_
                            · intro wx hSw
                              go_simp
                            simp only [Act.put, List.setIfInBounds_toArray, List.set_cons_zero, List.set_cons_succ]
                            refine wpAnyH_take (i := 10) (v := .agg #[.int .i64 e1.n, .int .i64 e1.l, .string e1.f, .string e1.z, .int .i64 e1.c]) nat10 (by kernel_rfl) (by kernel_rfl) (by kernel_rfl) (fun _ _ _ h => False.elim h) (Or.inl ⟨by rfl, ?_⟩) EW_0 ?_
                            · intro wx hSw
                              have y0 := (hSw.cell (p := ⟨g, m * 5, none⟩) hgq).trans f0
                              have y1 := (hSw.cell (p := ⟨g, m * 5 + 1, none⟩) hgq).trans f1
                              have y2 := (hSw.cell (p := ⟨g, m * 5 + 2, none⟩) hgq).trans f2
                              have y3 := (hSw.cell (p := ⟨g, m * 5 + 3, none⟩) hgq).trans f3
                              have y4 := (hSw.cell (p := ⟨g, m * 5 + 4, none⟩) hgq).trans f4
                              go_simp
                            simp only [Act.put, List.setIfInBounds_toArray, List.set_cons_zero, List.set_cons_succ]
                            refine wpAnyH_take (i := 11) (v := .pointer (some ⟨g1, 0, none⟩)) nat11 (by kernel_rfl) (by kernel_rfl) (by kernel_rfl) (fun _ _ _ h => False.elim h) (Or.inl ⟨by rfl, ?_⟩) EW_0 ?_
                            · intro wx hSw
                              go_simp
                            simp only [Act.put, List.setIfInBounds_toArray, List.set_cons_zero, List.set_cons_succ]
                            refine wpAnyH_take (i := 12) (v := .slice (some ⟨b, off, none⟩) d.n0 q0) nat12 (by kernel_rfl) (by kernel_rfl) (by kernel_rfl) (fun _ _ _ h => False.elim h) (Or.inl ⟨by rfl, ?_⟩) EW_0 ?_
                            · intro wx hSw
                              have yl := (HK1q.out.next hSw).cell 0
                              simp only [List.getElem?_toArray, List.getElem?_cons_succ, List.getElem?_cons_zero] at yl
                              go_simp
                            simp only [Act.put, List.setIfInBounds_toArray, List.set_cons_zero, List.set_cons_succ]
                            refine wpAnyH_take (i := 13) (v := .int .i64 (k : Int)) nat13 (by kernel_rfl) (by kernel_rfl) (by kernel_rfl) (fun _ _ _ h => False.elim h) (Or.inl ⟨by rfl, ?_⟩) EW_0 ?_
                            · intro wx hSw
                              go_simp
                            simp only [Act.put, List.setIfInBounds_toArray, List.set_cons_zero, List.set_cons_succ]
                            refine wpAnyH_take (i := 14) (v := .pointer (some ⟨b, off + k * 5, none⟩)) nat14 (by kernel_rfl) (by kernel_rfl) (by kernel_rfl) (fun _ _ _ h => False.elim h) (Or.inl ⟨by rfl, ?_⟩) EW_0 ?_
                            · intro wx hSw
                              go_simp
                            simp only [Act.put, List.setIfInBounds_toArray, List.set_cons_zero, List.set_cons_succ]
                            refine wpAnyH_take (i := 15) (v := .agg #[.int .i64 (d.r0.N k), .int .i64 (d.r0.L k), .string (d.r0.F k), .string (d.r0.Z k), .int .i64 (d.r0.C k)]) nat15 (by kernel_rfl) (by kernel_rfl) (by kernel_rfl) (fun _ _ _ h => False.elim h) (Or.inl ⟨by rfl, ?_⟩) EW_0 ?_
                            · intro wx hSw
                              have y0 := (hSw.cell (p := ⟨b, off + k * 5, none⟩) hbq).trans d0
                              have y1 := (hSw.cell (p := ⟨b, off + k * 5 + 1, none⟩) hbq).trans d1
                              have y2 := (hSw.cell (p := ⟨b, off + k * 5 + 2, none⟩) hbq).trans d2
                              have y3 := (hSw.cell (p := ⟨b, off + k * 5 + 3, none⟩) hbq).trans d3
                              have y4 := (hSw.cell (p := ⟨b, off + k * 5 + 4, none⟩) hbq).trans d4
                              go_simp
                            simp only [Act.put, List.setIfInBounds_toArray, List.set_cons_zero, List.set_cons_succ]
                            refine wpAnyH_ready (rs := [16]) (by kernel_rfl) (by simp) ?_
                            refine AllReadyH.cons nat16 (fun K hK => ?_) AllReadyH.nil
                            go_simp
                            go_at_call 32
                            refine ((cA _)).mono ?_
                            rintro e wq1 ⟨rfl, hb1⟩
                            have EW_1 := EW_0.trans (hb1.mono EW_0.size)
                            refine hK.out _ _ EW_1 (fun _ => ?_)
                            clear hK K hb1 EW_0
                            refine wpAnyH_take (i := 17) (v := .bool false) nat17 (by kernel_rfl) (by kernel_rfl) (by kernel_rfl) (fun _ _ _ h => False.elim h) (Or.inl ⟨by rfl, ?_⟩) EW_1 ?_
                            · intro wx hSw
                              go_simp
                            simp only [Act.put, List.setIfInBounds_toArray, List.set_cons_zero, List.set_cons_succ]
                            refine wpAnyH_done (by kernel_rfl) ?_ _
                            refine NoPanic.normal ?_
                            have HE2 := hide EW_1
                            have HQn := hide (HQ.out.trans (HE2.out.mono HQ.out.size))
                            have HRn := hide (HRq.out.next HE2.out)
                            have hbn : b < wq1.heap.size := by have := HE2.out.size; omega
                            have n0 := (HE2.out.cell (p := ⟨b, off + k * 5, none⟩) hbq).trans d0
                            have n1 := (HE2.out.cell (p := ⟨b, off + k * 5 + 1, none⟩) hbq).trans d1
                            have n2 := (HE2.out.cell (p := ⟨b, off + k * 5 + 2, none⟩) hbq).trans d2
                            have n3 := (HE2.out.cell (p := ⟨b, off + k * 5 + 3, none⟩) hbq).trans d3
                            have n4 := (HE2.out.cell (p := ⟨b, off + k * 5 + 4, none⟩) hbq).trans d4
                            clear HRq HQ d0 d1 d2 d3 d4 hbq HK1q HXq hgq f0 f1 f2 f3 f4 HE2
                            obtain ⟨wn, hwn⟩ : ∃ x, x = wq1 := ⟨_, rfl⟩
                            subst hwn
                            clear cA
                            clear HAH HR HQn
                            have hgz : g < wn.heap.size ∨ l.length = 0 := by
                              rcases HRn.out.own.2 with ⟨h0, _⟩ | ⟨g', cap', cur, hv, hg', hh, _⟩
                              · cases h0
                              · simp only [Value.slice.injEq, Option.some.injEq, Addr.mk.injEq, and_true] at hv
                                obtain ⟨rfl, _⟩ := hv
                                exact .inl (Array.getElem?_eq_some_iff.1 hh).1
                            have hmi2 : (m : Int) ≤ (l.length : Int) := by omega
                            have hb5 := below_one wn (.cells #[] 59)
                            have HN5 := (OwnMeta.lit wn wn.heap.size (Nat.le_refl _)).hid
                            have HR5 := hide (HRn.out.next hb5)
                            have HD5 := hide hb5
                            have hcapl : l.length ≤ cap := by
                              rcases HRn.out.own.2 with ⟨h0, _⟩ | ⟨g', cap', cur, hv, hg', hh, hle, hcap, _⟩
                              · cases h0
                              · simp only [Value.slice.injEq, Option.some.injEq, Addr.mk.injEq, and_true] at hv
                                obtain ⟨_, _, rfl⟩ := hv
                                exact hle
                            have hcapm : m ≤ cap := Nat.le_trans hm hcapl
                            have hcapL : (l.length : Int) ≤ (cap : Int) := by omega
                            have hcapi : (m : Int) ≤ (cap : Int) := by omega
                            have kF := HR5.out.bx.cell 0
                            simp only [List.getElem?_toArray, List.getElem?_cons_succ, List.getElem?_cons_zero] at kF
                            clear hb5
                            go_wp2_with (first
                              | (at_builtin; refine wpList_append_meta rfl _ _ 30 rfl Try.underlying30 wn.heap.size _ [] (l.take m) (by rfl) HN5.out ⟨g, 0, none⟩ m cap (by rfl) ?c1 (meta_take HR5.out.own) ?c2 ?c3 ?_))
                            case c1 => rw [List.length_take]; omega
                            case c2 => simp
                            case c3 => simp; omega
                            intro v6 w6 hown6 hb6
                            have HD6 := hide (HD5.out.trans hb6)
                            have HR6 := hide (HRn.out.next HD6.out)
                            have HN6 : Hid (OwnMeta w6 wn.heap.size v6 (l.take m)) := hown6
                            clear hown6 hb6 HN5 HR5 HD5 kF
                            have k10 := (HK1.out.next HR6.out.ew).cell 0
                            simp only [List.getElem?_toArray, List.getElem?_cons_succ, List.getElem?_cons_zero] at k10
                            have x0 := (HD6.out.cell (p := ⟨b, off + k * 5, none⟩) hbn).trans n0
                            have x1 := (HD6.out.cell (p := ⟨b, off + k * 5 + 1, none⟩) hbn).trans n1
                            have x2 := (HD6.out.cell (p := ⟨b, off + k * 5 + 2, none⟩) hbn).trans n2
                            have x3 := (HD6.out.cell (p := ⟨b, off + k * 5 + 3, none⟩) hbn).trans n3
                            have x4 := (HD6.out.cell (p := ⟨b, off + k * 5 + 4, none⟩) hbn).trans n4
                            clear n0 n1 n2 n3 n4
                            have hb7 := below_one w6 (.cells #[.int .i64 (d.r0.N k), .int .i64 (d.r0.L k), .string (d.r0.F k), .string (d.r0.Z k), .int .i64 (d.r0.C k)] 59)
                            have HD7 := hide (HD6.out.trans (hb7.mono HD6.out.size))
                            have HN7 := hide (HN6.out.next hb7)
                            have hD6s := HD6.out.size
                            have hNB := BoxIs.new w6 #[.int .i64 (d.r0.N k), .int .i64 (d.r0.L k), .string (d.r0.F k), .string (d.r0.Z k), .int .i64 (d.r0.C k)] 59 rfl
                            have hb7s := hb7.size
                            clear hb7
                            go_wp2_with (first
                              | (at_builtin; refine wpList_append_meta rfl _ _ 30 rfl Try.underlying30 wn.heap.size v6 (l.take m) [metaAt1 d.r0 k] (by rfl) HN7.out ⟨w6.heap.size, 0, none⟩ 1 1 (by rfl) rfl (meta_news (e := metaAt1 d.r0 k) hNB) ?c4 ?c5 ?_))
                            case c4 => omega
                            case c5 => rw [List.length_take]; omega
                            intro v8 w8 hown8 hb8
                            have HD8 := hide (HD7.out.trans hb8)
                            have HR8 := hide (HRn.out.next HD8.out)
                            have HN8 : Hid (OwnMeta w8 wn.heap.size v8 (l.take m ++ [metaAt1 d.r0 k])) := hown8
                            clear hown8 hb8 HN7 HN6 HR6 HD7 HD6 hNB hb7s hD6s x0 x1 x2 x3 x4 k10
                            have kF := HR8.out.bx.cell 0
                            simp only [List.getElem?_toArray, List.getElem?_cons_succ, List.getElem?_cons_zero] at kF
                            have hD8s := HD8.out.size
                            go_wp2_with (first
                              | (at_builtin; refine wpList_append_meta rfl _ _ 30 rfl Try.underlying30 wn.heap.size v8 (l.take m ++ [metaAt1 d.r0 k]) (l.drop m) (by rfl) HN8.out ⟨g, m * 5, none⟩ (l.length - m) (cap - m) (by rfl) ?c6 (meta_drop HR8.out.own hm rfl) ?c7 ?c8 ?_))
                            case c6 => rw [List.length_drop]
                            case c7 => omega
                            case c8 => simp only [List.length_append, List.length_take, List.length_singleton]; omega
                            intro v9 w9 hown9 hb9
                            have HD9 := hide (HD8.out.trans hb9)
                            have HR9 := hide (HRn.out.next HD9.out)
                            have HI : Hid (insM l (metaAt1 d.r0 k) = l.take m ++ [metaAt1 d.r0 k] ++ l.drop m) := by show _ = _; unfold insM; rw [HPOS.out]
                            have HN9 : Hid (OwnMeta w9 W.heap.size v9 (insM l (metaAt1 d.r0 k))) := by show OwnMeta _ _ _ _; rw [HI.out, List.append_assoc, List.singleton_append]; exact hown9.base HRn.out.ew.size
                            clear hown9 hb9 HN8 HR8 HD8 kF hD8s
                            obtain ⟨gs, cs, hsv⟩ := HN9.out.some (by rw [insM_len]; omega)
                            rw [insM_len] at hsv
                            obtain rfl : v9 = .slice (some ⟨gs, 0, none⟩) (l.length + 1) cs := hsv
                            have xF := HR9.out.bx.cell 0
                            have xf := HR9.out.bx.free
                            simp only [List.getElem?_toArray, List.getElem?_cons_succ, List.getElem?_cons_zero] at xF
                            have HR10 : Hid (ApS W F d.x2 d.x3 d.x4 (.slice (some ⟨gs, 0, none⟩) (l.length + 1) cs) (addsL l0 d.r0 (k + 1)) (w9.setCell ⟨F, 0, none⟩ (.slice (some ⟨gs, 0, none⟩) (l.length + 1) cs))) := by
                              show ApS _ _ _ _ _ _ _ _
                              rw [HSTEP.out]
                              exact ⟨HR9.out.ew.setCell (p := ⟨F, 0, none⟩) HR9.out.hF _, HN9.out.setBox HR9.out.bx (by decide) _ (o := 0), HR9.out.bx.set 0 _, ⟨gs, cs, by rw [insM_len]⟩, HR9.out.hF⟩
                            clear HN9 HR9 HD9 HRn
                            go_wp2
                            exact ⟨⟨k + 1, _, by go_num, by omega, HR10⟩, by simp [intOf]; omega⟩
                        · have hmeq : m = l.length := by omega
                          have HPOS : Hid (posM l (metaAt1 d.r0 k) = m) := posM_of l _ _ HAH.out (.inl hmeq)
                          have hnl : ¬ ((m : Int) < (l.length : Int)) := by omega
                          have hnl2 : l.length ≤ m := by omega
                          clear hmeq hml
                          have HXq := HRq.out.bx.hid
                          go_wp2_with fail
                          refine wp_region_noPanic ?_
                          have hb0 : Below wq.heap.size wq wq.drew := (Below.refl _ _).drew
                          have EW_0 := EW.trans (hb0.mono EW.size)
                          refine wp_region_held_drew (S := fun x => Below wq.heap.size wq x) (by kernel_rfl) EW_0 (fun _ => ?_)
                          clear EW
                          generalize wq.drew = wq0 at hb0 EW_0 ⊢
                          clear hb0
                          refine wpAnyH_take (i := 0) (v := .int .i64 (m : Int)) nat0 (by kernel_rfl) (by kernel_rfl) (by kernel_rfl) (fun _ _ _ h => False.elim h) (Or.inl ⟨by rfl, ?_⟩) EW_0 ?_
                          · intro wx hSw
                            go_simp
                          simp only [Act.put, List.setIfInBounds_toArray, List.set_cons_zero, List.set_cons_succ]
                          refine wpAnyH_take (i := 1) (v := .pointer (some ⟨F, 0, none⟩)) nat1 (by kernel_rfl) (by kernel_rfl) (by kernel_rfl) (fun _ _ _ h => False.elim h) (Or.inl ⟨by rfl, ?_⟩) EW_0 ?_
                          · intro wx hSw
                            go_simp
                          simp only [Act.put, List.setIfInBounds_toArray, List.set_cons_zero, List.set_cons_succ]
                          refine wpAnyH_take (i := 2) (v := .slice (some ⟨g, 0, none⟩) l.length cap) nat2 (by kernel_rfl) (by kernel_rfl) (by kernel_rfl) (fun _ _ _ h => False.elim h) (Or.inl ⟨by rfl, ?_⟩) EW_0 ?_
                          · intro wx hSw
                            have yl := (HXq.out.next hSw).cell 0
                            simp only [List.getElem?_toArray, List.getElem?_cons_succ, List.getElem?_cons_zero] at yl
                            go_simp
                          simp only [Act.put, List.setIfInBounds_toArray, List.set_cons_zero, List.set_cons_succ]
                          refine wpAnyH_take (i := 3) (v := .int .i64 (l.length : Int)) nat3 (by kernel_rfl) (by kernel_rfl) (by kernel_rfl) (fun _ _ _ h => False.elim h) (Or.inl ⟨by rfl, ?_⟩) EW_0 ?_
                          · intro wx hSw
                            go_simp
                          simp only [Act.put, List.setIfInBounds_toArray, List.set_cons_zero, List.set_cons_succ]
                          refine wpAnyH_take (i := 4) (v := .bool false) nat4 (by kernel_rfl) (by kernel_rfl) (by kernel_rfl) (fun _ _ _ h => False.elim h) (Or.inl ⟨by rfl, ?_⟩) EW_0 ?_
                          · intro wx hSw
                            go_simp
                          simp only [Act.put, List.setIfInBounds_toArray, List.set_cons_zero, List.set_cons_succ]
                          refine wpAnyH_take (i := 5) (v := .bool false) nat5 (by kernel_rfl) (by kernel_rfl) (by kernel_rfl) (fun _ _ _ h => False.elim h) (Or.inl ⟨by rfl, ?_⟩) EW_0 ?_
                          · intro wx hSw
                            go_simp
                          simp only [Act.put, List.setIfInBounds_toArray, List.set_cons_zero, List.set_cons_succ]
                          refine wpAnyH_take (i := 6) (v := undef) nat6 (by kernel_rfl) (by kernel_rfl) (by kernel_rfl) (fun _ _ _ h => False.elim h) (Or.inr ⟨by rfl, rfl⟩) EW_0 ?_
                          simp only [Act.put, List.setIfInBounds_toArray, List.set_cons_zero, List.set_cons_succ]
                          refine wpAnyH_take (i := 7) (v := undef) nat7 (by kernel_rfl) (by kernel_rfl) (by kernel_rfl) (fun _ _ _ h => False.elim h) (Or.inr ⟨by rfl, rfl⟩) EW_0 ?_
                          simp only [Act.put, List.setIfInBounds_toArray, List.set_cons_zero, List.set_cons_succ]
                          refine wpAnyH_take (i := 8) (v := undef) nat8 (by kernel_rfl) (by kernel_rfl) (by kernel_rfl) (fun _ _ _ h => False.elim h) (Or.inr ⟨by rfl, rfl⟩) EW_0 ?_
                          simp only [Act.put, List.setIfInBounds_toArray, List.set_cons_zero, List.set_cons_succ]
                          refine wpAnyH_take (i := 9) (v := undef) nat9 (by kernel_rfl) (by kernel_rfl) (by kernel_rfl) (fun _ _ _ h => False.elim h) (Or.inr ⟨by rfl, rfl⟩) EW_0 ?_
                          simp only [Act.put, List.setIfInBounds_toArray, List.set_cons_zero, List.set_cons_succ]
                          refine wpAnyH_take (i := 10) (v := undef) nat10 (by kernel_rfl) (by kernel_rfl) (by kernel_rfl) (fun _ _ _ h => False.elim h) (Or.inr ⟨by rfl, rfl⟩) EW_0 ?_
                          simp only [Act.put, List.setIfInBounds_toArray, List.set_cons_zero, List.set_cons_succ]
                          refine wpAnyH_take (i := 11) (v := undef) nat11 (by kernel_rfl) (by kernel_rfl) (by kernel_rfl) (fun _ _ _ h => False.elim h) (Or.inr ⟨by rfl, rfl⟩) EW_0 ?_
                          simp only [Act.put, List.setIfInBounds_toArray, List.set_cons_zero, List.set_cons_succ]
                          refine wpAnyH_take (i := 12) (v := undef) nat12 (by kernel_rfl) (by kernel_rfl) (by kernel_rfl) (fun _ _ _ h => False.elim h) (Or.inr ⟨by rfl, rfl⟩) EW_0 ?_
                          simp only [Act.put, List.setIfInBounds_toArray, List.set_cons_zero, List.set_cons_succ]
                          refine wpAnyH_take (i := 13) (v := undef) nat13 (by kernel_rfl) (by kernel_rfl) (by kernel_rfl) (fun _ _ _ h => False.elim h) (Or.inr ⟨by rfl, rfl⟩) EW_0 ?_
                          simp only [Act.put, List.setIfInBounds_toArray, List.set_cons_zero, List.set_cons_succ]
                          refine wpAnyH_take (i := 14) (v := undef) nat14 (by kernel_rfl) (by kernel_rfl) (by kernel_rfl) (fun _ _ _ h => False.elim h) (Or.inr ⟨by rfl, rfl⟩) EW_0 ?_
                          simp only [Act.put, List.setIfInBounds_toArray, List.set_cons_zero, List.set_cons_succ]
                          refine wpAnyH_take (i := 15) (v := undef) nat15 (by kernel_rfl) (by kernel_rfl) (by kernel_rfl) (fun _ _ _ h => False.elim h) (Or.inr ⟨by rfl, rfl⟩) EW_0 ?_
                          simp only [Act.put, List.setIfInBounds_toArray, List.set_cons_zero, List.set_cons_succ]
                          refine wpAnyH_take (i := 16) (v := undef) nat16 (by kernel_rfl) (by kernel_rfl) (by kernel_rfl) (fun _ _ _ h => False.elim h) (Or.inr ⟨by rfl, rfl⟩) EW_0 ?_
                          simp only [Act.put, List.setIfInBounds_toArray, List.set_cons_zero, List.set_cons_succ]
                          refine wpAnyH_take (i := 17) (v := .bool false) nat17 (by kernel_rfl) (by kernel_rfl) (by kernel_rfl) (fun _ _ _ h => False.elim h) (Or.inl ⟨by rfl, ?_⟩) EW_0 ?_
                          · intro wx hSw
                            go_simp
                          simp only [Act.put, List.setIfInBounds_toArray, List.set_cons_zero, List.set_cons_succ]
                          refine wpAnyH_done (by kernel_rfl) ?_ _
                          refine NoPanic.normal ?_
                          have HE2 := hide EW_0
                          have HQn := hide (HQ.out.trans (HE2.out.mono HQ.out.size))
                          have HRn := hide (HRq.out.next HE2.out)
                          have hbn : b < wq0.heap.size := by have := HE2.out.size; omega
                          have n0 := (HE2.out.cell (p := ⟨b, off + k * 5, none⟩) hbq).trans d0
                          have n1 := (HE2.out.cell (p := ⟨b, off + k * 5 + 1, none⟩) hbq).trans d1
                          have n2 := (HE2.out.cell (p := ⟨b, off + k * 5 + 2, none⟩) hbq).trans d2
                          have n3 := (HE2.out.cell (p := ⟨b, off + k * 5 + 3, none⟩) hbq).trans d3
                          have n4 := (HE2.out.cell (p := ⟨b, off + k * 5 + 4, none⟩) hbq).trans d4
                          clear HRq HQ d0 d1 d2 d3 d4 hbq HK1q HXq HE2 hnl hnl2
                          obtain ⟨wn, hwn⟩ : ∃ x, x = wq0 := ⟨_, rfl⟩
                          subst hwn
                          clear HAH HR HQn
                          have hgz : g < wn.heap.size ∨ l.length = 0 := by
                            rcases HRn.out.own.2 with ⟨h0, _⟩ | ⟨g', cap', cur, hv, hg', hh, _⟩
                            · cases h0
                            · simp only [Value.slice.injEq, Option.some.injEq, Addr.mk.injEq, and_true] at hv
                              obtain ⟨rfl, _⟩ := hv
                              exact .inl (Array.getElem?_eq_some_iff.1 hh).1
                          have hmi2 : (m : Int) ≤ (l.length : Int) := by omega
                          have hb5 := below_one wn (.cells #[] 59)
                          have HN5 := (OwnMeta.lit wn wn.heap.size (Nat.le_refl _)).hid
                          have HR5 := hide (HRn.out.next hb5)
                          have HD5 := hide hb5
                          have hcapl : l.length ≤ cap := by
                            rcases HRn.out.own.2 with ⟨h0, _⟩ | ⟨g', cap', cur, hv, hg', hh, hle, hcap, _⟩
                            · cases h0
                            · simp only [Value.slice.injEq, Option.some.injEq, Addr.mk.injEq, and_true] at hv
                              obtain ⟨_, _, rfl⟩ := hv
                              exact hle
                          have hcapm : m ≤ cap := Nat.le_trans hm hcapl
                          have hcapL : (l.length : Int) ≤ (cap : Int) := by omega
                          have hcapi : (m : Int) ≤ (cap : Int) := by omega
                          have kF := HR5.out.bx.cell 0
                          simp only [List.getElem?_toArray, List.getElem?_cons_succ, List.getElem?_cons_zero] at kF
                          clear hb5
                          go_wp2_with (first
                            | (at_builtin; refine wpList_append_meta rfl _ _ 30 rfl Try.underlying30 wn.heap.size _ [] (l.take m) (by rfl) HN5.out ⟨g, 0, none⟩ m cap (by rfl) ?c1 (meta_take HR5.out.own) ?c2 ?c3 ?_))
                          case c1 => rw [List.length_take]; omega
                          case c2 => simp
                          case c3 => simp; omega
                          intro v6 w6 hown6 hb6
                          have HD6 := hide (HD5.out.trans hb6)
                          have HR6 := hide (HRn.out.next HD6.out)
                          have HN6 : Hid (OwnMeta w6 wn.heap.size v6 (l.take m)) := hown6
                          clear hown6 hb6 HN5 HR5 HD5 kF
                          have k10 := (HK1.out.next HR6.out.ew).cell 0
                          simp only [List.getElem?_toArray, List.getElem?_cons_succ, List.getElem?_cons_zero] at k10
                          have x0 := (HD6.out.cell (p := ⟨b, off + k * 5, none⟩) hbn).trans n0
                          have x1 := (HD6.out.cell (p := ⟨b, off + k * 5 + 1, none⟩) hbn).trans n1
                          have x2 := (HD6.out.cell (p := ⟨b, off + k * 5 + 2, none⟩) hbn).trans n2
                          have x3 := (HD6.out.cell (p := ⟨b, off + k * 5 + 3, none⟩) hbn).trans n3
                          have x4 := (HD6.out.cell (p := ⟨b, off + k * 5 + 4, none⟩) hbn).trans n4
                          clear n0 n1 n2 n3 n4
                          have hb7 := below_one w6 (.cells #[.int .i64 (d.r0.N k), .int .i64 (d.r0.L k), .string (d.r0.F k), .string (d.r0.Z k), .int .i64 (d.r0.C k)] 59)
                          have HD7 := hide (HD6.out.trans (hb7.mono HD6.out.size))
                          have HN7 := hide (HN6.out.next hb7)
                          have hD6s := HD6.out.size
                          have hNB := BoxIs.new w6 #[.int .i64 (d.r0.N k), .int .i64 (d.r0.L k), .string (d.r0.F k), .string (d.r0.Z k), .int .i64 (d.r0.C k)] 59 rfl
                          have hb7s := hb7.size
                          clear hb7
                          go_wp2_with (first
                            | (at_builtin; refine wpList_append_meta rfl _ _ 30 rfl Try.underlying30 wn.heap.size v6 (l.take m) [metaAt1 d.r0 k] (by rfl) HN7.out ⟨w6.heap.size, 0, none⟩ 1 1 (by rfl) rfl (meta_news (e := metaAt1 d.r0 k) hNB) ?c4 ?c5 ?_))
                          case c4 => omega
                          case c5 => rw [List.length_take]; omega
                          intro v8 w8 hown8 hb8
                          have HD8 := hide (HD7.out.trans hb8)
                          have HR8 := hide (HRn.out.next HD8.out)
                          have HN8 : Hid (OwnMeta w8 wn.heap.size v8 (l.take m ++ [metaAt1 d.r0 k])) := hown8
                          clear hown8 hb8 HN7 HN6 HR6 HD7 HD6 hNB hb7s hD6s x0 x1 x2 x3 x4 k10
                          have kF := HR8.out.bx.cell 0
                          simp only [List.getElem?_toArray, List.getElem?_cons_succ, List.getElem?_cons_zero] at kF
                          have hD8s := HD8.out.size
                          rcases Nat.lt_or_ge m cap with hmc | hmc
                          · have hmci : (m : Int) < (cap : Int) := by omega
                            go_wp2_with (first
                              | (at_builtin; refine wpList_append_meta rfl _ _ 30 rfl Try.underlying30 wn.heap.size v8 (l.take m ++ [metaAt1 d.r0 k]) (l.drop m) (by rfl) HN8.out ⟨g, m * 5, none⟩ (l.length - m) (cap - m) (by rfl) ?c6 (meta_drop HR8.out.own hm rfl) ?c7 ?c8 ?_))
                            case c6 => rw [List.length_drop]
                            case c7 => omega
                            case c8 => simp only [List.length_append, List.length_take, List.length_singleton]; omega
                            intro v9 w9 hown9 hb9
                            have HD9 := hide (HD8.out.trans hb9)
                            have HR9 := hide (HRn.out.next HD9.out)
                            have HI : Hid (insM l (metaAt1 d.r0 k) = l.take m ++ [metaAt1 d.r0 k] ++ l.drop m) := by show _ = _; unfold insM; rw [HPOS.out]
                            have HN9 : Hid (OwnMeta w9 W.heap.size v9 (insM l (metaAt1 d.r0 k))) := by show OwnMeta _ _ _ _; rw [HI.out, List.append_assoc, List.singleton_append]; exact hown9.base HRn.out.ew.size
                            clear hown9 hb9 HN8 HR8 HD8 kF hD8s
                            obtain ⟨gs, cs, hsv⟩ := HN9.out.some (by rw [insM_len]; omega)
                            rw [insM_len] at hsv
                            obtain rfl : v9 = .slice (some ⟨gs, 0, none⟩) (l.length + 1) cs := hsv
                            have xF := HR9.out.bx.cell 0
                            have xf := HR9.out.bx.free
                            simp only [List.getElem?_toArray, List.getElem?_cons_succ, List.getElem?_cons_zero] at xF
                            have HR10 : Hid (ApS W F d.x2 d.x3 d.x4 (.slice (some ⟨gs, 0, none⟩) (l.length + 1) cs) (addsL l0 d.r0 (k + 1)) (w9.setCell ⟨F, 0, none⟩ (.slice (some ⟨gs, 0, none⟩) (l.length + 1) cs))) := by
                              show ApS _ _ _ _ _ _ _ _
                              rw [HSTEP.out]
                              exact ⟨HR9.out.ew.setCell (p := ⟨F, 0, none⟩) HR9.out.hF _, HN9.out.setBox HR9.out.bx (by decide) _ (o := 0), HR9.out.bx.set 0 _, ⟨gs, cs, by rw [insM_len]⟩, HR9.out.hF⟩
                            clear HN9 HR9 HD9 HRn
                            go_wp2
                            exact ⟨⟨k + 1, _, by go_num, by omega, HR10⟩, by simp [intOf]; omega⟩
                          · have hdl : l.length ≤ m := by omega
                            obtain rfl : m = cap := by omega
                            go_wp2_with (first
                              | (at_builtin; refine wpList_append_meta rfl _ _ 30 rfl Try.underlying30 wn.heap.size v8 (l.take m ++ [metaAt1 d.r0 k]) (l.drop m) (by rfl) HN8.out ⟨g, 0, none⟩ _ _ (by rfl) ?c6 (fun j u hu => by rw [List.drop_of_length_le hdl] at hu; simp [cellsMeta] at hu) ?c7 ?c8 ?_))
                            case c6 => (try rw [List.length_drop]); (try omega)
                            case c7 => omega
                            case c8 => simp only [List.length_append, List.length_take, List.length_singleton]; omega
                            intro v9 w9 hown9 hb9
                            have HD9 := hide (HD8.out.trans hb9)
                            have HR9 := hide (HRn.out.next HD9.out)
                            have HI : Hid (insM l (metaAt1 d.r0 k) = l.take m ++ [metaAt1 d.r0 k] ++ l.drop m) := by show _ = _; unfold insM; rw [HPOS.out]
                            have HN9 : Hid (OwnMeta w9 W.heap.size v9 (insM l (metaAt1 d.r0 k))) := by show OwnMeta _ _ _ _; rw [HI.out, List.append_assoc, List.singleton_append]; exact hown9.base HRn.out.ew.size
                            clear hown9 hb9 HN8 HR8 HD8 kF hD8s
                            obtain ⟨gs, cs, hsv⟩ := HN9.out.some (by rw [insM_len]; omega)
                            rw [insM_len] at hsv
                            obtain rfl : v9 = .slice (some ⟨gs, 0, none⟩) (l.length + 1) cs := hsv
                            have xF := HR9.out.bx.cell 0
                            have xf := HR9.out.bx.free
                            simp only [List.getElem?_toArray, List.getElem?_cons_succ, List.getElem?_cons_zero] at xF
                            have HR10 : Hid (ApS W F d.x2 d.x3 d.x4 (.slice (some ⟨gs, 0, none⟩) (l.length + 1) cs) (addsL l0 d.r0 (k + 1)) (w9.setCell ⟨F, 0, none⟩ (.slice (some ⟨gs, 0, none⟩) (l.length + 1) cs))) := by
                              show ApS _ _ _ _ _ _ _ _
                              rw [HSTEP.out]
                              exact ⟨HR9.out.ew.setCell (p := ⟨F, 0, none⟩) HR9.out.hF _, HN9.out.setBox HR9.out.bx (by decide) _ (o := 0), HR9.out.bx.set 0 _, ⟨gs, cs, by rw [insM_len]⟩, HR9.out.hF⟩
                            clear HN9 HR9 HD9 HRn
                            go_wp2
                            exact ⟨⟨k + 1, _, by go_num, by omega, HR10⟩, by simp [intOf]; omega⟩
                    · obtain rfl : k = d.n0 := by omega
                      have HAL : Hid (apV c d = vc (addsL l0 d.r0 d.n0) d.x2 d.x3 d.x4) := by show _ = _; unfold apV apL; rw [HL0.out]
                      generalize addsL l0 d.r0 d.n0 = l at HR HAL hal
                      obtain ⟨ar, capr, hvo, hO⟩ := HR.out.own.arg
                      have HX := HR.out.bx.hid
                      have HI : Hid (VersionIs wr (.agg #[.slice ar l.length capr, .int .i64 d.x2, .int .i64 d.x3, .int .i64 d.x4]) (vc l d.x2 d.x3 d.x4)) := ⟨ar, capr, rfl, hO⟩
                      rw [hvo] at HX
                      have hfit : (vc l d.x2 d.x3 d.x4).Fit := by show l.length ≤ 1048576; omega
                      clear hal hll
                      have cb := spec_VersionOk _ _ wr hfit HI.out
                      have y0 := HX.out.cell 0
                      have y1 := HX.out.cell 1
                      have y2 := HX.out.cell 2
                      have y3 := HX.out.cell 3
                      simp only [List.getElem?_toArray, List.getElem?_cons_succ, List.getElem?_cons_zero] at y0 y1 y2 y3
                      clear hO
                      cases hok : versB (vc l d.x2 d.x3 d.x4) with
                      | false =>
                        have HV : Hid (apB c d = false) := apB_end (by rw [HAL.out]; exact hok)
                        rw [hok] at cb
                        clear hok
                        go_wp2_with fail
                        refine cb.mono ?_
                        rintro e w7 ⟨rfl, hb7⟩
                        have HC7 := hide (HR.out.ew.trans (hb7.mono HR.out.ew.size))
                        clear hb7 cb y0 y1 y2 y3 k10
                        have p0x := HK2.out.next HC7.out
                        have z0 := p0x.cell 0
                        have z1 := p0x.cell 1
                        have z2 := p0x.cell 2
                        have z3 := p0x.cell 3
                        have zf := p0x.free
                        simp only [List.getElem?_toArray, List.getElem?_cons_succ, List.getElem?_cons_zero] at z0 z1 z2 z3
                        have HLOW := hide (HB0.out.trans (HC7.out.mono HB0.out.size))
                        have hle2 : w.heap.size ≤ g2 := by omega
                        clear p0x
                        go_wp2
                        refine bodyPost_ret (v := .tuple #[.agg #[.slice none 0 0, .int .i64 0, .int .i64 0, .int .i64 0], .bool false]) (by simp [results, Try.results9, go_sem, z0, z1, z2, z3]) rfl (bad_endA HV.out ?_)
                        exact (((HLOW.out.setCell hle2 _).setCell hle2 _).setCell hle2 _).setCell hle2 _
                      | true =>
                        have HV : Hid (apB c d = true) := apB_yes HG.out HCN.out (by rw [HAL.out]; exact hok)
                        have HCk2 : Hid (apC c d = vc l d.x2 d.x3 d.x4) := by show _ = _; rw [apC_yes HV.out]; exact HAL.out
                        rw [hok] at cb
                        clear hok
                        go_wp2_with fail
                        refine cb.mono ?_
                        rintro e w8 ⟨rfl, hb8⟩
                        have HR8 := hide (HR.out.next hb8)
                        have HX8 := (HX.out.next hb8).hid
                        have hK2x := HK2.out.next HR8.out.ew
                        have z0 := hK2x.cell 0
                        have z1 := hK2x.cell 1
                        have z2 := hK2x.cell 2
                        have z3 := hK2x.cell 3
                        have zf := hK2x.free
                        have r0 := HX8.out.cell 0
                        have r1 := HX8.out.cell 1
                        have r2 := HX8.out.cell 2
                        have r3 := HX8.out.cell 3
                        simp only [List.getElem?_toArray, List.getElem?_cons_succ, List.getElem?_cons_zero] at z0 z1 z2 z3 r0 r1 r2 r3
                        have HLOW := hide (HB0.out.trans (HR8.out.ew.mono HB0.out.size))
                        have hle2 : w.heap.size ≤ g2 := by omega
                        clear hb8 cb y0 y1 y2 y3 k10 hK2x
                        go_wp2
                        refine bodyPost_ret (v := .tuple #[.agg #[.slice ar l.length capr, .int .i64 d.x2, .int .i64 d.x3, .int .i64 d.x4], .bool true]) (by simp [results, Try.results9, go_sem, z0, z1, z2, z3]) rfl ⟨⟨_, by rw [HV.out], ?_⟩, ?_⟩
                        · rw [HCk2.out]
                          have h0 : OwnMeta w8 W.heap.size (.slice ar l.length capr) l := by rw [← hvo]; exact HR8.out.own
                          have how := (((h0.setOther (p := ⟨g2, 0, none⟩) hgl (.slice ar l.length capr)).setOther (p := ⟨g2, 1, none⟩) hgl (.int .i64 d.x2)).setOther (p := ⟨g2, 2, none⟩) hgl (.int .i64 d.x3)).setOther (p := ⟨g2, 3, none⟩) hgl (.int .i64 d.x4)
                          exact ⟨_, l, rfl, how.base HB0.out.size, rfl⟩
                        · exact (((HLOW.out.setCell hle2 _).setCell hle2 _).setCell hle2 _).setCell hle2 _
                · have HV : Hid (apB c d = false) := apB_cut hcn
                  have hcn' : ¬ ((cutN c.r0 d.r1 d.n1 c.n0 : Nat) : Int) = (d.n1 : Int) := by omega
                  have hcb : (((cutN c.r0 d.r1 d.n1 c.n0 : Nat) : Int) == (d.n1 : Int)) = false := by simpa using hcn'
                  skip
                  have p0x := HK2.out.next HCr.out
                  have z0 := p0x.cell 0
                  have z1 := p0x.cell 1
                  have z2 := p0x.cell 2
                  have z3 := p0x.cell 3
                  have zf := p0x.free
                  simp only [List.getElem?_toArray, List.getElem?_cons_succ, List.getElem?_cons_zero] at z0 z1 z2 z3
                  have HLOW := hide (HB0.out.trans (HCr.out.mono HB0.out.size))
                  have hle2 : w.heap.size ≤ g2 := by omega
                  clear p0x
                  go_wp2
                  refine bodyPost_ret (v := .tuple #[.agg #[.slice none 0 0, .int .i64 0, .int .i64 0, .int .i64 0], .bool false]) (by simp [results, Try.results9, go_sem, z0, z1, z2, z3]) rfl (bad_endA HV.out ?_)
                  exact (((HLOW.out.setCell hle2 _).setCell hle2 _).setCell hle2 _).setCell hle2 _
end Go.Proofs.Ytplbhgcibfajaaa
