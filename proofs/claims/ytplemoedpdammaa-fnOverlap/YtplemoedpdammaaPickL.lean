/- PickLevel, of the program and of the model. (By gen_pick.py.) -/
import Derived.Test.YtplemoedpdammaaVersS
namespace Go.Proofs.Ytplemoedpdammaa
set_option maxRecDepth 100000
open Go.RowKit Go.Deep

/-- How many of the first k files are of this level, and their entries together. -/
def cntF (O : Metas) (lv : Int) : Nat → Int
  | 0 => 0
  | k + 1 => if O.L k = lv then cntF O lv k + 1 else cntF O lv k
def sumC (O : Metas) (lv : Int) : Nat → Int
  | 0 => 0
  | k + 1 => if O.L k = lv then sumC O lv k + O.C k else sumC O lv k

theorem cntF_bd (O : Metas) (lv : Int) : ∀ k, 0 ≤ cntF O lv k ∧ cntF O lv k ≤ (k : Int)
  | 0 => ⟨Int.le_refl _, Int.le_refl _⟩
  | k + 1 => by
    have := cntF_bd O lv k
    unfold cntF
    split <;> omega
theorem sumC_bd (O : Metas) (lv : Int) : ∀ k, (∀ i, i < k → 1 ≤ O.C i ∧ O.C i ≤ 400) → 0 ≤ sumC O lv k ∧ sumC O lv k ≤ 400 * (k : Int)
  | 0, _ => ⟨Int.le_refl _, Int.le_refl _⟩
  | k + 1, h => by
    have := sumC_bd O lv k fun i hi => h i (by omega)
    have := h k (by omega)
    unfold sumC
    split <;> omega
theorem cntF_hit {O : Metas} {lv : Int} {k : Nat} (h : O.L k = lv) : cntF O lv (k + 1) = cntF O lv k + 1 := by rw [cntF, if_pos h]
theorem cntF_miss {O : Metas} {lv : Int} {k : Nat} (h : ¬ O.L k = lv) : cntF O lv (k + 1) = cntF O lv k := by rw [cntF, if_neg h]
theorem sumC_hit {O : Metas} {lv : Int} {k : Nat} (h : O.L k = lv) : sumC O lv (k + 1) = sumC O lv k + O.C k := by rw [sumC, if_pos h]
theorem sumC_miss {O : Metas} {lv : Int} {k : Nat} (h : ¬ O.L k = lv) : sumC O lv (k + 1) = sumC O lv k := by rw [sumC, if_neg h]
theorem fileB_count {x0 x1 : Int} {x2 x3 : ByteArray} {x4 nx : Int} (h : fileB x0 x1 x2 x3 x4 nx = true) : 1 ≤ x4 ∧ x4 ≤ 400 := by
  unfold fileB at h
  simp only [Bool.and_eq_true, decide_eq_true_eq] at h
  exact ⟨h.1.2, h.2⟩

/-- The level that is picked, and whether one is. -/
def pickV (c : VersionC) : Int := if versB c then (if 4 ≤ cntF c.r0 0 c.n0 then 0 else if 20 < sumC c.r0 1 c.n0 then 1 else if 200 < sumC c.r0 2 c.n0 then 2 else 0) else 0
def pickB (c : VersionC) : Bool := versB c && (decide (4 ≤ cntF c.r0 0 c.n0) || decide (20 < sumC c.r0 1 c.n0) || decide (200 < sumC c.r0 2 c.n0))

theorem ret_pair {a a' : Int} {b b' : Bool} (h : a = a') (k : b = b') : Ending.returned (.tuple #[.int .i64 a, .bool b]) = .returned (.tuple #[.int .i64 a', .bool b']) := by rw [h, k]

set_option linter.unusedVariables false in
set_option linter.unusedSimpArgs false in
set_option maxHeartbeats 4000000 in
theorem impl_PickLevel (v : Value) (c : VersionC) (w : World) (hf : c.Fit) (hv : VersionIs w v c) :
    Calls Try.prog 34 #[v] w fun e w' => e = .returned (.tuple #[.int .i64 (pickV c), .bool (pickB c)]) ∧ Below w.heap.size w w' := by
  have hvn := hv
  obtain ⟨a0, p0, rfl, hS⟩ := hv
  have hl : c.n0 ≤ 1048576 := hf
  have hb0 := below_one w (.cells #[.slice a0 c.n0 p0, .int .i64 c.x1, .int .i64 c.x2, .int .i64 c.x3] 46)
  have HBb := hide hb0
  have HK := (BoxIs.new w #[.slice a0 c.n0 p0, .int .i64 c.x1, .int .i64 c.x2, .int .i64 c.x3] 46 rfl).hid
  have HV0 := (hvn.next hb0).hid
  have HS := hS.hid
  have hgz : w.heap.size < (w.alloc (.cells #[.slice a0 c.n0 p0, .int .i64 c.x1, .int .i64 c.x2, .int .i64 c.x3] 46)).heap.size := HK.out.lt
  clear hS hvn hb0
  go_enter Try.func34, Try.ntmps34
  go_wp2_with fail
  generalize hW : (w.alloc (.cells #[.slice a0 c.n0 p0, .int .i64 c.x1, .int .i64 c.x2, .int .i64 c.x3] 46)) = W1 at HBb HK HV0 hgz ⊢
  clear hW
  have HC : Hid (Below W1.heap.size W1 W1) := Below.refl _ _
  refine (impl_VersionOk _ c W1 hf HV0.out).mono ?_
  rintro e w2 ⟨rfl, hb2⟩
  have HC := hide (HC.out.trans hb2)
  clear hb2
  cases hok : versB c with
  | false =>
    have HL : Hid (0 = pickV c) := by unfold Hid pickV; rw [hok]; rfl
    have HL2 : Hid (false = pickB c) := by unfold Hid pickB; rw [hok]; rfl
    clear hok
    go_wp2
    refine bodyPost_ret (v := .tuple #[.int .i64 0, .bool false]) (by simp [results, Try.results34, go_sem]) rfl ⟨ret_pair HL.out HL2.out, HBb.out.trans (HC.out.mono HBb.out.size)⟩
  | true =>
    have HL : Hid (pickV c = (if 4 ≤ cntF c.r0 0 c.n0 then 0 else if 20 < sumC c.r0 1 c.n0 then 1 else if 200 < sumC c.r0 2 c.n0 then 2 else 0)) := by unfold Hid pickV; rw [hok]; rfl
    have HL2 : Hid (pickB c = (decide (4 ≤ cntF c.r0 0 c.n0) || decide (20 < sumC c.r0 1 c.n0) || decide (200 < sumC c.r0 2 c.n0))) := by unfold Hid pickB; rw [hok]; rfl
    have HO := hide (versB_out hok)
    have hn30 := (versB_out hok).1.1
    clear hok
    have k0 : w2.cell? ⟨w.heap.size, 0, none⟩ = some (.slice a0 c.n0 p0) := (HK.out.next HC.out).cell 0
    have hb3 : Below w2.heap.size w2 ((w2.alloc (.cells #[.int .i64 0, .int .i64 0, .int .i64 0, .int .i64 0] 101)).alloc (.cells #[.int .i64 0, .int .i64 0, .int .i64 0, .int .i64 0] 101)) := (below_one _ _).alloc (by simp) _
    have k03 := keepc hb3 k0
    have HC3 := hide (HC.out.trans (hb3.mono HC.out.size))
    have HF0 : Hid (BoxIs ((w2.alloc (.cells #[.int .i64 0, .int .i64 0, .int .i64 0, .int .i64 0] 101)).alloc (.cells #[.int .i64 0, .int .i64 0, .int .i64 0, .int .i64 0] 101)) w2.heap.size #[.int .i64 (cntF c.r0 0 0), .int .i64 (cntF c.r0 1 0), .int .i64 (cntF c.r0 2 0), .int .i64 (cntF c.r0 3 0)] 101) := (BoxIs.new w2 _ _ rfl).next (below_one _ _)
    have HG0 : Hid (BoxIs ((w2.alloc (.cells #[.int .i64 0, .int .i64 0, .int .i64 0, .int .i64 0] 101)).alloc (.cells #[.int .i64 0, .int .i64 0, .int .i64 0, .int .i64 0] 101)) (w2.heap.size + 1) #[.int .i64 (sumC c.r0 0 0), .int .i64 (sumC c.r0 1 0), .int .i64 (sumC c.r0 2 0), .int .i64 (sumC c.r0 3 0)] 101) := BoxIs.new _ _ _ (by simp)
    go_wp2_with fail
    clear k0 hb3
    generalize ((w2.alloc (.cells #[.int .i64 0, .int .i64 0, .int .i64 0, .int .i64 0] 101)).alloc (.cells #[.int .i64 0, .int .i64 0, .int .i64 0, .int .i64 0] 101)) = W3 at k03 HC3 HF0 HG0 ⊢
    obtain ⟨FA, hFA⟩ : ∃ x, w2.heap.size = x := ⟨_, rfl⟩
    have hFAW : W1.heap.size ≤ FA := by rw [← hFA]; exact HC.out.size
    rw [hFA] at HF0 HG0 ⊢
    clear hFA HC
    go_loopw [14] (fun i wr => ∃ k : Nat, i = .int .i64 k ∧ k ≤ c.n0 ∧ Hid (BoxIs wr FA #[.int .i64 (cntF c.r0 0 k), .int .i64 (cntF c.r0 1 k), .int .i64 (cntF c.r0 2 k), .int .i64 (cntF c.r0 3 k)] 101) ∧ Hid (BoxIs wr (FA + 1) #[.int .i64 (sumC c.r0 0 k), .int .i64 (sumC c.r0 1 k), .int .i64 (sumC c.r0 2 k), .int .i64 (sumC c.r0 3 k)] 101) ∧ Hid (Below W1.heap.size W1 wr)) (fun i _ => c.n0 - (intOf i).toNat)
    case atStart => exact ⟨0, rfl, by omega, HF0, HG0, HC3⟩
    case round =>
      obtain ⟨k, rfl, hk, HF, HG, HC⟩ := hrel
      clear HF0 HG0 HC3 k03
      have k0 : wr.cell? ⟨w.heap.size, 0, none⟩ = some (.slice a0 c.n0 p0) := (HK.out.next HC.out).cell 0
      have HW1 := hide (HBb.out.trans (HC.out.mono HBb.out.size))
      have hcb := sumC_bd c.r0
      have hcf := cntF_bd c.r0
      by_cases hlt : k < c.n0
      · obtain ⟨b, off, rfl, hb, c0, c1, c2, c3, c4⟩ := (HS.out.below HW1.out).at hlt
        have hlti : (k : Int) < (c.n0 : Int) := by omega
        have hfk := stepB_file (HO.out.2.1 k hlt)
        have hlv := fileB_level hfk
        have hct := fileB_count hfk
        have hall : ∀ i, i < k → 1 ≤ c.r0.C i ∧ c.r0.C i ≤ 400 := fun i hi => fileB_count (stepB_file (HO.out.2.1 i (by omega)))
        obtain ⟨ct1, ct2⟩ := hct
        have hbb := below_one wr (.cells #[.int .i64 (c.r0.N k), .int .i64 (c.r0.L k), .string (c.r0.F k), .string (c.r0.Z k), .int .i64 (c.r0.C k)] 62)
        have hF2 := HF.out.next hbb
        have hG2 := HG.out.next hbb
        have HC2 := hide (HC.out.trans (hbb.mono HC.out.size))
        have hfz := HF.out.lt
        have hgz2 := HG.out.lt
        clear hbb hfk
        by_cases q0 : c.r0.L k = 0
        · skip
          have s0 := sumC_bd c.r0 0 k hall
          have t0 := cntF_bd c.r0 0 k
          have u0 := cntF_hit (O := c.r0) (lv := 0) (k := k) q0
          have v0 := sumC_hit (O := c.r0) (lv := 0) (k := k) q0
          have u1 := cntF_miss (O := c.r0) (lv := 1) (k := k) (by rw [q0]; omega)
          have v1 := sumC_miss (O := c.r0) (lv := 1) (k := k) (by rw [q0]; omega)
          have u2 := cntF_miss (O := c.r0) (lv := 2) (k := k) (by rw [q0]; omega)
          have v2 := sumC_miss (O := c.r0) (lv := 2) (k := k) (by rw [q0]; omega)
          have u3 := cntF_miss (O := c.r0) (lv := 3) (k := k) (by rw [q0]; omega)
          have v3 := sumC_miss (O := c.r0) (lv := 3) (k := k) (by rw [q0]; omega)
          have HU := hide (⟨u0, u1, u2, u3, v0, v1, v2, v3⟩ : cntF c.r0 0 (k + 1) = cntF c.r0 0 k + 1 ∧ cntF c.r0 1 (k + 1) = cntF c.r0 1 k ∧ cntF c.r0 2 (k + 1) = cntF c.r0 2 k ∧ cntF c.r0 3 (k + 1) = cntF c.r0 3 k ∧ sumC c.r0 0 (k + 1) = sumC c.r0 0 k + c.r0.C k ∧ sumC c.r0 1 (k + 1) = sumC c.r0 1 k ∧ sumC c.r0 2 (k + 1) = sumC c.r0 2 k ∧ sumC c.r0 3 (k + 1) = sumC c.r0 3 k)
          clear u0 u1 u2 u3 v0 v1 v2 v3
          obtain ⟨s1, s2⟩ := s0
          obtain ⟨t1, t2⟩ := t0
          have HF9 : Hid (BoxIs ((((wr.setCell ⟨FA, 0, none⟩ (.int .i64 (cntF c.r0 0 k + 1))).setCell ⟨FA + 1, 0, none⟩ (.int .i64 (sumC c.r0 0 k + c.r0.C k))).alloc (.cells #[.int .i64 (c.r0.N k), .int .i64 0, .string (c.r0.F k), .string (c.r0.Z k), .int .i64 (c.r0.C k)] 62)).drew) FA #[.int .i64 (cntF c.r0 0 (k + 1)), .int .i64 (cntF c.r0 1 (k + 1)), .int .i64 (cntF c.r0 2 (k + 1)), .int .i64 (cntF c.r0 3 (k + 1))] 101) := by
            have h : BoxIs ((((wr.setCell ⟨FA, 0, none⟩ (.int .i64 (cntF c.r0 0 k + 1))).setCell ⟨FA + 1, 0, none⟩ (.int .i64 (sumC c.r0 0 k + c.r0.C k))).alloc (.cells #[.int .i64 (c.r0.N k), .int .i64 0, .string (c.r0.F k), .string (c.r0.Z k), .int .i64 (c.r0.C k)] 62)).drew) FA _ 101 := ((HF.out.set 0 (.int .i64 (cntF c.r0 0 k + 1))).set_other (p := ⟨FA + 1, 0, none⟩) (by simp) (.int .i64 (sumC c.r0 0 k + c.r0.C k))).next (below_one _ (.cells #[.int .i64 (c.r0.N k), .int .i64 0, .string (c.r0.F k), .string (c.r0.Z k), .int .i64 (c.r0.C k)] 62)).drew
            obtain ⟨u0, u1, u2, u3, _⟩ := HU.out
            rw [u0, u1, u2, u3]
            simpa [Hid] using h
          have HG9 : Hid (BoxIs ((((wr.setCell ⟨FA, 0, none⟩ (.int .i64 (cntF c.r0 0 k + 1))).setCell ⟨FA + 1, 0, none⟩ (.int .i64 (sumC c.r0 0 k + c.r0.C k))).alloc (.cells #[.int .i64 (c.r0.N k), .int .i64 0, .string (c.r0.F k), .string (c.r0.Z k), .int .i64 (c.r0.C k)] 62)).drew) (FA + 1) #[.int .i64 (sumC c.r0 0 (k + 1)), .int .i64 (sumC c.r0 1 (k + 1)), .int .i64 (sumC c.r0 2 (k + 1)), .int .i64 (sumC c.r0 3 (k + 1))] 101) := by
            have h : BoxIs ((((wr.setCell ⟨FA, 0, none⟩ (.int .i64 (cntF c.r0 0 k + 1))).setCell ⟨FA + 1, 0, none⟩ (.int .i64 (sumC c.r0 0 k + c.r0.C k))).alloc (.cells #[.int .i64 (c.r0.N k), .int .i64 0, .string (c.r0.F k), .string (c.r0.Z k), .int .i64 (c.r0.C k)] 62)).drew) (FA + 1) _ 101 := ((HG.out.set_other (p := ⟨FA, 0, none⟩) (by simp) (.int .i64 (cntF c.r0 0 k + 1))).set 0 (.int .i64 (sumC c.r0 0 k + c.r0.C k))).next (below_one _ (.cells #[.int .i64 (c.r0.N k), .int .i64 0, .string (c.r0.F k), .string (c.r0.Z k), .int .i64 (c.r0.C k)] 62)).drew
            obtain ⟨_, _, _, _, v0, v1, v2, v3⟩ := HU.out
            rw [v0, v1, v2, v3]
            simpa [Hid] using h
          have HC9 : Hid (Below W1.heap.size W1 ((((wr.setCell ⟨FA, 0, none⟩ (.int .i64 (cntF c.r0 0 k + 1))).setCell ⟨FA + 1, 0, none⟩ (.int .i64 (sumC c.r0 0 k + c.r0.C k))).alloc (.cells #[.int .i64 (c.r0.N k), .int .i64 0, .string (c.r0.F k), .string (c.r0.Z k), .int .i64 (c.r0.C k)] 62)).drew)) := (((HC.out.setCell (p := ⟨FA, 0, none⟩) hFAW (.int .i64 (cntF c.r0 0 k + 1))).setCell (p := ⟨FA + 1, 0, none⟩) (Nat.le_succ_of_le hFAW) (.int .i64 (sumC c.r0 0 k + c.r0.C k))).alloc (by have := HC.out.size; simpa [World.setCell] using this) _).drew
          rw [q0] at c1
          have e0 := HF.out.cell 0
          have e1 := HF.out.cell 1
          have e2 := HF.out.cell 2
          have e3 := HF.out.cell 3
          have d0 := HG.out.cell 0
          have d1 := HG.out.cell 1
          have d2 := HG.out.cell 2
          have d3 := HG.out.cell 3
          have ef := HF.out.free
          have df := HG.out.free
          have hne1 : ¬ FA = wr.heap.size := by omega
          have hne2 : ¬ FA + 1 = wr.heap.size := by omega
          simp only [List.getElem?_toArray, List.getElem?_cons_succ, List.getElem?_cons_zero] at e0 d0 e1 d1 e2 d2 e3 d3
          clear hF2 hG2 HC2
          go_wp2_with fail
          go_region
          go_wp2
          exact ⟨⟨k + 1, by go_num, by omega, HF9, HG9, HC9⟩, by simp [intOf]; omega⟩
        by_cases q1 : c.r0.L k = 1
        · skip
          have s1 := sumC_bd c.r0 1 k hall
          have t1 := cntF_bd c.r0 1 k
          have u0 := cntF_miss (O := c.r0) (lv := 0) (k := k) (by rw [q1]; omega)
          have v0 := sumC_miss (O := c.r0) (lv := 0) (k := k) (by rw [q1]; omega)
          have u1 := cntF_hit (O := c.r0) (lv := 1) (k := k) q1
          have v1 := sumC_hit (O := c.r0) (lv := 1) (k := k) q1
          have u2 := cntF_miss (O := c.r0) (lv := 2) (k := k) (by rw [q1]; omega)
          have v2 := sumC_miss (O := c.r0) (lv := 2) (k := k) (by rw [q1]; omega)
          have u3 := cntF_miss (O := c.r0) (lv := 3) (k := k) (by rw [q1]; omega)
          have v3 := sumC_miss (O := c.r0) (lv := 3) (k := k) (by rw [q1]; omega)
          have HU := hide (⟨u0, u1, u2, u3, v0, v1, v2, v3⟩ : cntF c.r0 0 (k + 1) = cntF c.r0 0 k ∧ cntF c.r0 1 (k + 1) = cntF c.r0 1 k + 1 ∧ cntF c.r0 2 (k + 1) = cntF c.r0 2 k ∧ cntF c.r0 3 (k + 1) = cntF c.r0 3 k ∧ sumC c.r0 0 (k + 1) = sumC c.r0 0 k ∧ sumC c.r0 1 (k + 1) = sumC c.r0 1 k + c.r0.C k ∧ sumC c.r0 2 (k + 1) = sumC c.r0 2 k ∧ sumC c.r0 3 (k + 1) = sumC c.r0 3 k)
          clear u0 u1 u2 u3 v0 v1 v2 v3
          obtain ⟨s1, s2⟩ := s1
          obtain ⟨t1, t2⟩ := t1
          have HF9 : Hid (BoxIs ((((wr.setCell ⟨FA, 1, none⟩ (.int .i64 (cntF c.r0 1 k + 1))).setCell ⟨FA + 1, 1, none⟩ (.int .i64 (sumC c.r0 1 k + c.r0.C k))).alloc (.cells #[.int .i64 (c.r0.N k), .int .i64 1, .string (c.r0.F k), .string (c.r0.Z k), .int .i64 (c.r0.C k)] 62)).drew) FA #[.int .i64 (cntF c.r0 0 (k + 1)), .int .i64 (cntF c.r0 1 (k + 1)), .int .i64 (cntF c.r0 2 (k + 1)), .int .i64 (cntF c.r0 3 (k + 1))] 101) := by
            have h : BoxIs ((((wr.setCell ⟨FA, 1, none⟩ (.int .i64 (cntF c.r0 1 k + 1))).setCell ⟨FA + 1, 1, none⟩ (.int .i64 (sumC c.r0 1 k + c.r0.C k))).alloc (.cells #[.int .i64 (c.r0.N k), .int .i64 1, .string (c.r0.F k), .string (c.r0.Z k), .int .i64 (c.r0.C k)] 62)).drew) FA _ 101 := ((HF.out.set 1 (.int .i64 (cntF c.r0 1 k + 1))).set_other (p := ⟨FA + 1, 1, none⟩) (by simp) (.int .i64 (sumC c.r0 1 k + c.r0.C k))).next (below_one _ (.cells #[.int .i64 (c.r0.N k), .int .i64 1, .string (c.r0.F k), .string (c.r0.Z k), .int .i64 (c.r0.C k)] 62)).drew
            obtain ⟨u0, u1, u2, u3, _⟩ := HU.out
            rw [u0, u1, u2, u3]
            simpa [Hid] using h
          have HG9 : Hid (BoxIs ((((wr.setCell ⟨FA, 1, none⟩ (.int .i64 (cntF c.r0 1 k + 1))).setCell ⟨FA + 1, 1, none⟩ (.int .i64 (sumC c.r0 1 k + c.r0.C k))).alloc (.cells #[.int .i64 (c.r0.N k), .int .i64 1, .string (c.r0.F k), .string (c.r0.Z k), .int .i64 (c.r0.C k)] 62)).drew) (FA + 1) #[.int .i64 (sumC c.r0 0 (k + 1)), .int .i64 (sumC c.r0 1 (k + 1)), .int .i64 (sumC c.r0 2 (k + 1)), .int .i64 (sumC c.r0 3 (k + 1))] 101) := by
            have h : BoxIs ((((wr.setCell ⟨FA, 1, none⟩ (.int .i64 (cntF c.r0 1 k + 1))).setCell ⟨FA + 1, 1, none⟩ (.int .i64 (sumC c.r0 1 k + c.r0.C k))).alloc (.cells #[.int .i64 (c.r0.N k), .int .i64 1, .string (c.r0.F k), .string (c.r0.Z k), .int .i64 (c.r0.C k)] 62)).drew) (FA + 1) _ 101 := ((HG.out.set_other (p := ⟨FA, 1, none⟩) (by simp) (.int .i64 (cntF c.r0 1 k + 1))).set 1 (.int .i64 (sumC c.r0 1 k + c.r0.C k))).next (below_one _ (.cells #[.int .i64 (c.r0.N k), .int .i64 1, .string (c.r0.F k), .string (c.r0.Z k), .int .i64 (c.r0.C k)] 62)).drew
            obtain ⟨_, _, _, _, v0, v1, v2, v3⟩ := HU.out
            rw [v0, v1, v2, v3]
            simpa [Hid] using h
          have HC9 : Hid (Below W1.heap.size W1 ((((wr.setCell ⟨FA, 1, none⟩ (.int .i64 (cntF c.r0 1 k + 1))).setCell ⟨FA + 1, 1, none⟩ (.int .i64 (sumC c.r0 1 k + c.r0.C k))).alloc (.cells #[.int .i64 (c.r0.N k), .int .i64 1, .string (c.r0.F k), .string (c.r0.Z k), .int .i64 (c.r0.C k)] 62)).drew)) := (((HC.out.setCell (p := ⟨FA, 1, none⟩) hFAW (.int .i64 (cntF c.r0 1 k + 1))).setCell (p := ⟨FA + 1, 1, none⟩) (Nat.le_succ_of_le hFAW) (.int .i64 (sumC c.r0 1 k + c.r0.C k))).alloc (by have := HC.out.size; simpa [World.setCell] using this) _).drew
          rw [q1] at c1
          have e0 := HF.out.cell 0
          have e1 := HF.out.cell 1
          have e2 := HF.out.cell 2
          have e3 := HF.out.cell 3
          have d0 := HG.out.cell 0
          have d1 := HG.out.cell 1
          have d2 := HG.out.cell 2
          have d3 := HG.out.cell 3
          have ef := HF.out.free
          have df := HG.out.free
          have hne1 : ¬ FA = wr.heap.size := by omega
          have hne2 : ¬ FA + 1 = wr.heap.size := by omega
          simp only [List.getElem?_toArray, List.getElem?_cons_succ, List.getElem?_cons_zero] at e0 d0 e1 d1 e2 d2 e3 d3
          clear hF2 hG2 HC2
          go_wp2_with fail
          go_region
          go_wp2
          exact ⟨⟨k + 1, by go_num, by omega, HF9, HG9, HC9⟩, by simp [intOf]; omega⟩
        by_cases q2 : c.r0.L k = 2
        · skip
          have s2 := sumC_bd c.r0 2 k hall
          have t2 := cntF_bd c.r0 2 k
          have u0 := cntF_miss (O := c.r0) (lv := 0) (k := k) (by rw [q2]; omega)
          have v0 := sumC_miss (O := c.r0) (lv := 0) (k := k) (by rw [q2]; omega)
          have u1 := cntF_miss (O := c.r0) (lv := 1) (k := k) (by rw [q2]; omega)
          have v1 := sumC_miss (O := c.r0) (lv := 1) (k := k) (by rw [q2]; omega)
          have u2 := cntF_hit (O := c.r0) (lv := 2) (k := k) q2
          have v2 := sumC_hit (O := c.r0) (lv := 2) (k := k) q2
          have u3 := cntF_miss (O := c.r0) (lv := 3) (k := k) (by rw [q2]; omega)
          have v3 := sumC_miss (O := c.r0) (lv := 3) (k := k) (by rw [q2]; omega)
          have HU := hide (⟨u0, u1, u2, u3, v0, v1, v2, v3⟩ : cntF c.r0 0 (k + 1) = cntF c.r0 0 k ∧ cntF c.r0 1 (k + 1) = cntF c.r0 1 k ∧ cntF c.r0 2 (k + 1) = cntF c.r0 2 k + 1 ∧ cntF c.r0 3 (k + 1) = cntF c.r0 3 k ∧ sumC c.r0 0 (k + 1) = sumC c.r0 0 k ∧ sumC c.r0 1 (k + 1) = sumC c.r0 1 k ∧ sumC c.r0 2 (k + 1) = sumC c.r0 2 k + c.r0.C k ∧ sumC c.r0 3 (k + 1) = sumC c.r0 3 k)
          clear u0 u1 u2 u3 v0 v1 v2 v3
          obtain ⟨s1, s2⟩ := s2
          obtain ⟨t1, t2⟩ := t2
          have HF9 : Hid (BoxIs ((((wr.setCell ⟨FA, 2, none⟩ (.int .i64 (cntF c.r0 2 k + 1))).setCell ⟨FA + 1, 2, none⟩ (.int .i64 (sumC c.r0 2 k + c.r0.C k))).alloc (.cells #[.int .i64 (c.r0.N k), .int .i64 2, .string (c.r0.F k), .string (c.r0.Z k), .int .i64 (c.r0.C k)] 62)).drew) FA #[.int .i64 (cntF c.r0 0 (k + 1)), .int .i64 (cntF c.r0 1 (k + 1)), .int .i64 (cntF c.r0 2 (k + 1)), .int .i64 (cntF c.r0 3 (k + 1))] 101) := by
            have h : BoxIs ((((wr.setCell ⟨FA, 2, none⟩ (.int .i64 (cntF c.r0 2 k + 1))).setCell ⟨FA + 1, 2, none⟩ (.int .i64 (sumC c.r0 2 k + c.r0.C k))).alloc (.cells #[.int .i64 (c.r0.N k), .int .i64 2, .string (c.r0.F k), .string (c.r0.Z k), .int .i64 (c.r0.C k)] 62)).drew) FA _ 101 := ((HF.out.set 2 (.int .i64 (cntF c.r0 2 k + 1))).set_other (p := ⟨FA + 1, 2, none⟩) (by simp) (.int .i64 (sumC c.r0 2 k + c.r0.C k))).next (below_one _ (.cells #[.int .i64 (c.r0.N k), .int .i64 2, .string (c.r0.F k), .string (c.r0.Z k), .int .i64 (c.r0.C k)] 62)).drew
            obtain ⟨u0, u1, u2, u3, _⟩ := HU.out
            rw [u0, u1, u2, u3]
            simpa [Hid] using h
          have HG9 : Hid (BoxIs ((((wr.setCell ⟨FA, 2, none⟩ (.int .i64 (cntF c.r0 2 k + 1))).setCell ⟨FA + 1, 2, none⟩ (.int .i64 (sumC c.r0 2 k + c.r0.C k))).alloc (.cells #[.int .i64 (c.r0.N k), .int .i64 2, .string (c.r0.F k), .string (c.r0.Z k), .int .i64 (c.r0.C k)] 62)).drew) (FA + 1) #[.int .i64 (sumC c.r0 0 (k + 1)), .int .i64 (sumC c.r0 1 (k + 1)), .int .i64 (sumC c.r0 2 (k + 1)), .int .i64 (sumC c.r0 3 (k + 1))] 101) := by
            have h : BoxIs ((((wr.setCell ⟨FA, 2, none⟩ (.int .i64 (cntF c.r0 2 k + 1))).setCell ⟨FA + 1, 2, none⟩ (.int .i64 (sumC c.r0 2 k + c.r0.C k))).alloc (.cells #[.int .i64 (c.r0.N k), .int .i64 2, .string (c.r0.F k), .string (c.r0.Z k), .int .i64 (c.r0.C k)] 62)).drew) (FA + 1) _ 101 := ((HG.out.set_other (p := ⟨FA, 2, none⟩) (by simp) (.int .i64 (cntF c.r0 2 k + 1))).set 2 (.int .i64 (sumC c.r0 2 k + c.r0.C k))).next (below_one _ (.cells #[.int .i64 (c.r0.N k), .int .i64 2, .string (c.r0.F k), .string (c.r0.Z k), .int .i64 (c.r0.C k)] 62)).drew
            obtain ⟨_, _, _, _, v0, v1, v2, v3⟩ := HU.out
            rw [v0, v1, v2, v3]
            simpa [Hid] using h
          have HC9 : Hid (Below W1.heap.size W1 ((((wr.setCell ⟨FA, 2, none⟩ (.int .i64 (cntF c.r0 2 k + 1))).setCell ⟨FA + 1, 2, none⟩ (.int .i64 (sumC c.r0 2 k + c.r0.C k))).alloc (.cells #[.int .i64 (c.r0.N k), .int .i64 2, .string (c.r0.F k), .string (c.r0.Z k), .int .i64 (c.r0.C k)] 62)).drew)) := (((HC.out.setCell (p := ⟨FA, 2, none⟩) hFAW (.int .i64 (cntF c.r0 2 k + 1))).setCell (p := ⟨FA + 1, 2, none⟩) (Nat.le_succ_of_le hFAW) (.int .i64 (sumC c.r0 2 k + c.r0.C k))).alloc (by have := HC.out.size; simpa [World.setCell] using this) _).drew
          rw [q2] at c1
          have e0 := HF.out.cell 0
          have e1 := HF.out.cell 1
          have e2 := HF.out.cell 2
          have e3 := HF.out.cell 3
          have d0 := HG.out.cell 0
          have d1 := HG.out.cell 1
          have d2 := HG.out.cell 2
          have d3 := HG.out.cell 3
          have ef := HF.out.free
          have df := HG.out.free
          have hne1 : ¬ FA = wr.heap.size := by omega
          have hne2 : ¬ FA + 1 = wr.heap.size := by omega
          simp only [List.getElem?_toArray, List.getElem?_cons_succ, List.getElem?_cons_zero] at e0 d0 e1 d1 e2 d2 e3 d3
          clear hF2 hG2 HC2
          go_wp2_with fail
          go_region
          go_wp2
          exact ⟨⟨k + 1, by go_num, by omega, HF9, HG9, HC9⟩, by simp [intOf]; omega⟩
        have q3 : c.r0.L k = 3 := by omega
        have s3 := sumC_bd c.r0 3 k hall
        have t3 := cntF_bd c.r0 3 k
        have u0 := cntF_miss (O := c.r0) (lv := 0) (k := k) (by rw [q3]; omega)
        have v0 := sumC_miss (O := c.r0) (lv := 0) (k := k) (by rw [q3]; omega)
        have u1 := cntF_miss (O := c.r0) (lv := 1) (k := k) (by rw [q3]; omega)
        have v1 := sumC_miss (O := c.r0) (lv := 1) (k := k) (by rw [q3]; omega)
        have u2 := cntF_miss (O := c.r0) (lv := 2) (k := k) (by rw [q3]; omega)
        have v2 := sumC_miss (O := c.r0) (lv := 2) (k := k) (by rw [q3]; omega)
        have u3 := cntF_hit (O := c.r0) (lv := 3) (k := k) q3
        have v3 := sumC_hit (O := c.r0) (lv := 3) (k := k) q3
        have HU := hide (⟨u0, u1, u2, u3, v0, v1, v2, v3⟩ : cntF c.r0 0 (k + 1) = cntF c.r0 0 k ∧ cntF c.r0 1 (k + 1) = cntF c.r0 1 k ∧ cntF c.r0 2 (k + 1) = cntF c.r0 2 k ∧ cntF c.r0 3 (k + 1) = cntF c.r0 3 k + 1 ∧ sumC c.r0 0 (k + 1) = sumC c.r0 0 k ∧ sumC c.r0 1 (k + 1) = sumC c.r0 1 k ∧ sumC c.r0 2 (k + 1) = sumC c.r0 2 k ∧ sumC c.r0 3 (k + 1) = sumC c.r0 3 k + c.r0.C k)
        clear u0 u1 u2 u3 v0 v1 v2 v3
        obtain ⟨s1, s2⟩ := s3
        obtain ⟨t1, t2⟩ := t3
        have HF9 : Hid (BoxIs ((((wr.setCell ⟨FA, 3, none⟩ (.int .i64 (cntF c.r0 3 k + 1))).setCell ⟨FA + 1, 3, none⟩ (.int .i64 (sumC c.r0 3 k + c.r0.C k))).alloc (.cells #[.int .i64 (c.r0.N k), .int .i64 3, .string (c.r0.F k), .string (c.r0.Z k), .int .i64 (c.r0.C k)] 62)).drew) FA #[.int .i64 (cntF c.r0 0 (k + 1)), .int .i64 (cntF c.r0 1 (k + 1)), .int .i64 (cntF c.r0 2 (k + 1)), .int .i64 (cntF c.r0 3 (k + 1))] 101) := by
          have h : BoxIs ((((wr.setCell ⟨FA, 3, none⟩ (.int .i64 (cntF c.r0 3 k + 1))).setCell ⟨FA + 1, 3, none⟩ (.int .i64 (sumC c.r0 3 k + c.r0.C k))).alloc (.cells #[.int .i64 (c.r0.N k), .int .i64 3, .string (c.r0.F k), .string (c.r0.Z k), .int .i64 (c.r0.C k)] 62)).drew) FA _ 101 := ((HF.out.set 3 (.int .i64 (cntF c.r0 3 k + 1))).set_other (p := ⟨FA + 1, 3, none⟩) (by simp) (.int .i64 (sumC c.r0 3 k + c.r0.C k))).next (below_one _ (.cells #[.int .i64 (c.r0.N k), .int .i64 3, .string (c.r0.F k), .string (c.r0.Z k), .int .i64 (c.r0.C k)] 62)).drew
          obtain ⟨u0, u1, u2, u3, _⟩ := HU.out
          rw [u0, u1, u2, u3]
          simpa [Hid] using h
        have HG9 : Hid (BoxIs ((((wr.setCell ⟨FA, 3, none⟩ (.int .i64 (cntF c.r0 3 k + 1))).setCell ⟨FA + 1, 3, none⟩ (.int .i64 (sumC c.r0 3 k + c.r0.C k))).alloc (.cells #[.int .i64 (c.r0.N k), .int .i64 3, .string (c.r0.F k), .string (c.r0.Z k), .int .i64 (c.r0.C k)] 62)).drew) (FA + 1) #[.int .i64 (sumC c.r0 0 (k + 1)), .int .i64 (sumC c.r0 1 (k + 1)), .int .i64 (sumC c.r0 2 (k + 1)), .int .i64 (sumC c.r0 3 (k + 1))] 101) := by
          have h : BoxIs ((((wr.setCell ⟨FA, 3, none⟩ (.int .i64 (cntF c.r0 3 k + 1))).setCell ⟨FA + 1, 3, none⟩ (.int .i64 (sumC c.r0 3 k + c.r0.C k))).alloc (.cells #[.int .i64 (c.r0.N k), .int .i64 3, .string (c.r0.F k), .string (c.r0.Z k), .int .i64 (c.r0.C k)] 62)).drew) (FA + 1) _ 101 := ((HG.out.set_other (p := ⟨FA, 3, none⟩) (by simp) (.int .i64 (cntF c.r0 3 k + 1))).set 3 (.int .i64 (sumC c.r0 3 k + c.r0.C k))).next (below_one _ (.cells #[.int .i64 (c.r0.N k), .int .i64 3, .string (c.r0.F k), .string (c.r0.Z k), .int .i64 (c.r0.C k)] 62)).drew
          obtain ⟨_, _, _, _, v0, v1, v2, v3⟩ := HU.out
          rw [v0, v1, v2, v3]
          simpa [Hid] using h
        have HC9 : Hid (Below W1.heap.size W1 ((((wr.setCell ⟨FA, 3, none⟩ (.int .i64 (cntF c.r0 3 k + 1))).setCell ⟨FA + 1, 3, none⟩ (.int .i64 (sumC c.r0 3 k + c.r0.C k))).alloc (.cells #[.int .i64 (c.r0.N k), .int .i64 3, .string (c.r0.F k), .string (c.r0.Z k), .int .i64 (c.r0.C k)] 62)).drew)) := (((HC.out.setCell (p := ⟨FA, 3, none⟩) hFAW (.int .i64 (cntF c.r0 3 k + 1))).setCell (p := ⟨FA + 1, 3, none⟩) (Nat.le_succ_of_le hFAW) (.int .i64 (sumC c.r0 3 k + c.r0.C k))).alloc (by have := HC.out.size; simpa [World.setCell] using this) _).drew
        rw [q3] at c1
        have e0 := HF.out.cell 0
        have e1 := HF.out.cell 1
        have e2 := HF.out.cell 2
        have e3 := HF.out.cell 3
        have d0 := HG.out.cell 0
        have d1 := HG.out.cell 1
        have d2 := HG.out.cell 2
        have d3 := HG.out.cell 3
        have ef := HF.out.free
        have df := HG.out.free
        have hne1 : ¬ FA = wr.heap.size := by omega
        have hne2 : ¬ FA + 1 = wr.heap.size := by omega
        simp only [List.getElem?_toArray, List.getElem?_cons_succ, List.getElem?_cons_zero] at e0 d0 e1 d1 e2 d2 e3 d3
        clear hF2 hG2 HC2
        go_wp2_with fail
        go_region
        go_wp2
        exact ⟨⟨k + 1, by go_num, by omega, HF9, HG9, HC9⟩, by simp [intOf]; omega⟩
      · obtain rfl : k = c.n0 := by omega
        have e0 := HF.out.cell 0
        have d1 := HG.out.cell 1
        have d2 := HG.out.cell 2
        simp only [List.getElem?_toArray, List.getElem?_cons_succ, List.getElem?_cons_zero] at e0 d1 d2
        have hnlt : ¬ ((c.n0 : Int) < (c.n0 : Int)) := by omega
        clear hcb hcf k0
        by_cases h1 : 4 ≤ cntF c.r0 0 c.n0
        · skip
          have HV : Hid (0 = pickV c) := by unfold Hid; rw [HL.out]; simp [h1]
          have HV2 : Hid (true = pickB c) := by unfold Hid; rw [HL2.out]; simp [h1]
          go_wp2
          refine bodyPost_ret (v := .tuple #[.int .i64 0, .bool true]) (by simp [results, Try.results34, go_sem]) rfl ⟨ret_pair HV.out HV2.out, HW1.out⟩
        by_cases h2 : 20 < sumC c.r0 1 c.n0
        · skip
          have HV : Hid (1 = pickV c) := by unfold Hid; rw [HL.out]; simp [h1, h2]
          have HV2 : Hid (true = pickB c) := by unfold Hid; rw [HL2.out]; simp [h1, h2]
          go_wp2
          refine bodyPost_ret (v := .tuple #[.int .i64 1, .bool true]) (by simp [results, Try.results34, go_sem]) rfl ⟨ret_pair HV.out HV2.out, HW1.out⟩
        by_cases h3 : 200 < sumC c.r0 2 c.n0
        · skip
          have HV : Hid (2 = pickV c) := by unfold Hid; rw [HL.out]; simp [h1, h2, h3]
          have HV2 : Hid (true = pickB c) := by unfold Hid; rw [HL2.out]; simp [h1, h2, h3]
          go_wp2
          refine bodyPost_ret (v := .tuple #[.int .i64 2, .bool true]) (by simp [results, Try.results34, go_sem]) rfl ⟨ret_pair HV.out HV2.out, HW1.out⟩
        have HV : Hid (0 = pickV c) := by unfold Hid; rw [HL.out]; simp [h1, h2, h3]
        have HV2 : Hid (false = pickB c) := by unfold Hid; rw [HL2.out]; simp [h1, h2, h3]
        go_wp2
        refine bodyPost_ret (v := .tuple #[.int .i64 0, .bool false]) (by simp [results, Try.results34, go_sem]) rfl ⟨ret_pair HV.out HV2.out, HW1.out⟩

set_option linter.unusedVariables false in
set_option linter.unusedSimpArgs false in
set_option maxHeartbeats 4000000 in
theorem spec_PickLevel (v : Value) (c : VersionC) (w : World) (hf : c.Fit) (hv : VersionIs w v c) :
    Calls Try.prog 35 #[v] w fun e w' => e = .returned (.tuple #[.int .i64 (pickV c), .bool (pickB c)]) ∧ Below w.heap.size w w' := by
  have hvn := hv
  obtain ⟨a0, p0, rfl, hS⟩ := hv
  have hl : c.n0 ≤ 1048576 := hf
  have hb0 := below_one w (.cells #[.slice a0 c.n0 p0, .int .i64 c.x1, .int .i64 c.x2, .int .i64 c.x3] 46)
  have HBb := hide hb0
  have HK := (BoxIs.new w #[.slice a0 c.n0 p0, .int .i64 c.x1, .int .i64 c.x2, .int .i64 c.x3] 46 rfl).hid
  have HV0 := (hvn.next hb0).hid
  have HS := hS.hid
  have hgz : w.heap.size < (w.alloc (.cells #[.slice a0 c.n0 p0, .int .i64 c.x1, .int .i64 c.x2, .int .i64 c.x3] 46)).heap.size := HK.out.lt
  clear hS hvn hb0
  go_enter Try.func35, Try.ntmps35
  go_wp2_with fail
  generalize hW : (w.alloc (.cells #[.slice a0 c.n0 p0, .int .i64 c.x1, .int .i64 c.x2, .int .i64 c.x3] 46)) = W1 at HBb HK HV0 hgz ⊢
  clear hW
  have HC : Hid (Below W1.heap.size W1 W1) := Below.refl _ _
  refine (spec_VersionOk _ c W1 hf HV0.out).mono ?_
  rintro e w2 ⟨rfl, hb2⟩
  have HC := hide (HC.out.trans hb2)
  clear hb2
  cases hok : versB c with
  | false =>
    have HL : Hid (0 = pickV c) := by unfold Hid pickV; rw [hok]; rfl
    have HL2 : Hid (false = pickB c) := by unfold Hid pickB; rw [hok]; rfl
    clear hok
    go_wp2
    refine bodyPost_ret (v := .tuple #[.int .i64 0, .bool false]) (by simp [results, Try.results35, go_sem]) rfl ⟨ret_pair HL.out HL2.out, HBb.out.trans (HC.out.mono HBb.out.size)⟩
  | true =>
    have HL : Hid (pickV c = (if 4 ≤ cntF c.r0 0 c.n0 then 0 else if 20 < sumC c.r0 1 c.n0 then 1 else if 200 < sumC c.r0 2 c.n0 then 2 else 0)) := by unfold Hid pickV; rw [hok]; rfl
    have HL2 : Hid (pickB c = (decide (4 ≤ cntF c.r0 0 c.n0) || decide (20 < sumC c.r0 1 c.n0) || decide (200 < sumC c.r0 2 c.n0))) := by unfold Hid pickB; rw [hok]; rfl
    have HO := hide (versB_out hok)
    have hn30 := (versB_out hok).1.1
    clear hok
    have k0 : w2.cell? ⟨w.heap.size, 0, none⟩ = some (.slice a0 c.n0 p0) := (HK.out.next HC.out).cell 0
    have hb3 : Below w2.heap.size w2 (w2.alloc (.cells #[.int .i64 0, .int .i64 0, .int .i64 0, .int .i64 0] 101)) := below_one _ _
    have k03 := keepc hb3 k0
    have HC3 := hide (HC.out.trans (hb3.mono HC.out.size))
    have HG0 : Hid (BoxIs (w2.alloc (.cells #[.int .i64 0, .int .i64 0, .int .i64 0, .int .i64 0] 101)) w2.heap.size #[.int .i64 (sumC c.r0 0 0), .int .i64 (sumC c.r0 1 0), .int .i64 (sumC c.r0 2 0), .int .i64 (sumC c.r0 3 0)] 101) := BoxIs.new w2 _ _ rfl
    go_wp2_with fail
    clear k0 hb3
    generalize (w2.alloc (.cells #[.int .i64 0, .int .i64 0, .int .i64 0, .int .i64 0] 101)) = W3 at k03 HC3 HG0 ⊢
    obtain ⟨FA, hFA⟩ : ∃ x, w2.heap.size = x := ⟨_, rfl⟩
    have hFAW : W1.heap.size ≤ FA := by rw [← hFA]; exact HC.out.size
    rw [hFA] at HG0 ⊢
    clear hFA HC
    go_loopw [4, 6] (fun q i wr => ∃ k : Nat, q = .int .i64 (cntF c.r0 0 k) ∧ i = .int .i64 k ∧ k ≤ c.n0 ∧ Hid (BoxIs wr FA #[.int .i64 (sumC c.r0 0 k), .int .i64 (sumC c.r0 1 k), .int .i64 (sumC c.r0 2 k), .int .i64 (sumC c.r0 3 k)] 101) ∧ Hid (Below W1.heap.size W1 wr)) (fun _ i _ => c.n0 - (intOf i).toNat)
    case atStart => exact ⟨0, rfl, rfl, by omega, HG0, HC3⟩
    case round =>
      obtain ⟨k, rfl, rfl, hk, HG, HC⟩ := hrel
      clear HG0 HC3 k03
      have k0 : wr.cell? ⟨w.heap.size, 0, none⟩ = some (.slice a0 c.n0 p0) := (HK.out.next HC.out).cell 0
      have HW1 := hide (HBb.out.trans (HC.out.mono HBb.out.size))
      have hcb := sumC_bd c.r0
      have hcf := cntF_bd c.r0
      by_cases hlt : k < c.n0
      · obtain ⟨b, off, rfl, hb, c0, c1, c2, c3, c4⟩ := (HS.out.below HW1.out).at hlt
        have hlti : (k : Int) < (c.n0 : Int) := by omega
        have hfk := stepB_file (HO.out.2.1 k hlt)
        have hlv := fileB_level hfk
        have hct := fileB_count hfk
        have hall : ∀ i, i < k → 1 ≤ c.r0.C i ∧ c.r0.C i ≤ 400 := fun i hi => fileB_count (stepB_file (HO.out.2.1 i (by omega)))
        obtain ⟨ct1, ct2⟩ := hct
        clear hfk
        by_cases q0 : c.r0.L k = 0
        · skip
          have s0 := sumC_bd c.r0 0 k hall
          have t0 := cntF_bd c.r0 0 k
          have u0 := cntF_hit (O := c.r0) (lv := 0) (k := k) q0
          have v0 := sumC_hit (O := c.r0) (lv := 0) (k := k) q0
          have u1 := cntF_miss (O := c.r0) (lv := 1) (k := k) (by rw [q0]; omega)
          have v1 := sumC_miss (O := c.r0) (lv := 1) (k := k) (by rw [q0]; omega)
          have u2 := cntF_miss (O := c.r0) (lv := 2) (k := k) (by rw [q0]; omega)
          have v2 := sumC_miss (O := c.r0) (lv := 2) (k := k) (by rw [q0]; omega)
          have u3 := cntF_miss (O := c.r0) (lv := 3) (k := k) (by rw [q0]; omega)
          have v3 := sumC_miss (O := c.r0) (lv := 3) (k := k) (by rw [q0]; omega)
          have HU := hide (⟨u0, u1, u2, u3, v0, v1, v2, v3⟩ : cntF c.r0 0 (k + 1) = cntF c.r0 0 k + 1 ∧ cntF c.r0 1 (k + 1) = cntF c.r0 1 k ∧ cntF c.r0 2 (k + 1) = cntF c.r0 2 k ∧ cntF c.r0 3 (k + 1) = cntF c.r0 3 k ∧ sumC c.r0 0 (k + 1) = sumC c.r0 0 k + c.r0.C k ∧ sumC c.r0 1 (k + 1) = sumC c.r0 1 k ∧ sumC c.r0 2 (k + 1) = sumC c.r0 2 k ∧ sumC c.r0 3 (k + 1) = sumC c.r0 3 k)
          clear u0 u1 u2 u3 v0 v1 v2 v3
          obtain ⟨s1, s2⟩ := s0
          obtain ⟨t1, t2⟩ := t0
          have HG9 : Hid (BoxIs ((wr.setCell ⟨FA, 0, none⟩ (.int .i64 (sumC c.r0 0 k + c.r0.C k))).drew) FA #[.int .i64 (sumC c.r0 0 (k + 1)), .int .i64 (sumC c.r0 1 (k + 1)), .int .i64 (sumC c.r0 2 (k + 1)), .int .i64 (sumC c.r0 3 (k + 1))] 101) := by
            have h : BoxIs ((wr.setCell ⟨FA, 0, none⟩ (.int .i64 (sumC c.r0 0 k + c.r0.C k))).drew) FA _ 101 := HG.out.set 0 (.int .i64 (sumC c.r0 0 k + c.r0.C k))
            obtain ⟨_, _, _, _, v0, v1, v2, v3⟩ := HU.out
            rw [v0, v1, v2, v3]
            simpa [Hid] using h
          have HC9 : Hid (Below W1.heap.size W1 ((wr.setCell ⟨FA, 0, none⟩ (.int .i64 (sumC c.r0 0 k + c.r0.C k))).drew)) := (HC.out.setCell (p := ⟨FA, 0, none⟩) hFAW (.int .i64 (sumC c.r0 0 k + c.r0.C k))).drew
          have HQ9 : Hid (cntF c.r0 0 (k + 1) = cntF c.r0 0 k + 1) := HU.out.1
          rw [q0] at c1
          have d0 := HG.out.cell 0
          have d1 := HG.out.cell 1
          have d2 := HG.out.cell 2
          have d3 := HG.out.cell 3
          have df := HG.out.free
          simp only [List.getElem?_toArray, List.getElem?_cons_succ, List.getElem?_cons_zero] at d0 d1 d2 d3
          go_wp2_with fail
          go_region
          go_wp2
          exact ⟨⟨k + 1, by rw [HQ9.out], by go_num, by omega, HG9, HC9⟩, by simp [intOf]; omega⟩
        by_cases q1 : c.r0.L k = 1
        · skip
          have s1 := sumC_bd c.r0 1 k hall
          have t1 := cntF_bd c.r0 1 k
          have u0 := cntF_miss (O := c.r0) (lv := 0) (k := k) (by rw [q1]; omega)
          have v0 := sumC_miss (O := c.r0) (lv := 0) (k := k) (by rw [q1]; omega)
          have u1 := cntF_hit (O := c.r0) (lv := 1) (k := k) q1
          have v1 := sumC_hit (O := c.r0) (lv := 1) (k := k) q1
          have u2 := cntF_miss (O := c.r0) (lv := 2) (k := k) (by rw [q1]; omega)
          have v2 := sumC_miss (O := c.r0) (lv := 2) (k := k) (by rw [q1]; omega)
          have u3 := cntF_miss (O := c.r0) (lv := 3) (k := k) (by rw [q1]; omega)
          have v3 := sumC_miss (O := c.r0) (lv := 3) (k := k) (by rw [q1]; omega)
          have HU := hide (⟨u0, u1, u2, u3, v0, v1, v2, v3⟩ : cntF c.r0 0 (k + 1) = cntF c.r0 0 k ∧ cntF c.r0 1 (k + 1) = cntF c.r0 1 k + 1 ∧ cntF c.r0 2 (k + 1) = cntF c.r0 2 k ∧ cntF c.r0 3 (k + 1) = cntF c.r0 3 k ∧ sumC c.r0 0 (k + 1) = sumC c.r0 0 k ∧ sumC c.r0 1 (k + 1) = sumC c.r0 1 k + c.r0.C k ∧ sumC c.r0 2 (k + 1) = sumC c.r0 2 k ∧ sumC c.r0 3 (k + 1) = sumC c.r0 3 k)
          clear u0 u1 u2 u3 v0 v1 v2 v3
          obtain ⟨s1, s2⟩ := s1
          obtain ⟨t1, t2⟩ := t1
          have HG9 : Hid (BoxIs ((wr.setCell ⟨FA, 1, none⟩ (.int .i64 (sumC c.r0 1 k + c.r0.C k))).drew) FA #[.int .i64 (sumC c.r0 0 (k + 1)), .int .i64 (sumC c.r0 1 (k + 1)), .int .i64 (sumC c.r0 2 (k + 1)), .int .i64 (sumC c.r0 3 (k + 1))] 101) := by
            have h : BoxIs ((wr.setCell ⟨FA, 1, none⟩ (.int .i64 (sumC c.r0 1 k + c.r0.C k))).drew) FA _ 101 := HG.out.set 1 (.int .i64 (sumC c.r0 1 k + c.r0.C k))
            obtain ⟨_, _, _, _, v0, v1, v2, v3⟩ := HU.out
            rw [v0, v1, v2, v3]
            simpa [Hid] using h
          have HC9 : Hid (Below W1.heap.size W1 ((wr.setCell ⟨FA, 1, none⟩ (.int .i64 (sumC c.r0 1 k + c.r0.C k))).drew)) := (HC.out.setCell (p := ⟨FA, 1, none⟩) hFAW (.int .i64 (sumC c.r0 1 k + c.r0.C k))).drew
          have HQ9 : Hid (cntF c.r0 0 (k + 1) = cntF c.r0 0 k) := HU.out.1
          rw [q1] at c1
          have d0 := HG.out.cell 0
          have d1 := HG.out.cell 1
          have d2 := HG.out.cell 2
          have d3 := HG.out.cell 3
          have df := HG.out.free
          simp only [List.getElem?_toArray, List.getElem?_cons_succ, List.getElem?_cons_zero] at d0 d1 d2 d3
          go_wp2_with fail
          go_region
          go_wp2
          exact ⟨⟨k + 1, by rw [HQ9.out], by go_num, by omega, HG9, HC9⟩, by simp [intOf]; omega⟩
        by_cases q2 : c.r0.L k = 2
        · skip
          have s2 := sumC_bd c.r0 2 k hall
          have t2 := cntF_bd c.r0 2 k
          have u0 := cntF_miss (O := c.r0) (lv := 0) (k := k) (by rw [q2]; omega)
          have v0 := sumC_miss (O := c.r0) (lv := 0) (k := k) (by rw [q2]; omega)
          have u1 := cntF_miss (O := c.r0) (lv := 1) (k := k) (by rw [q2]; omega)
          have v1 := sumC_miss (O := c.r0) (lv := 1) (k := k) (by rw [q2]; omega)
          have u2 := cntF_hit (O := c.r0) (lv := 2) (k := k) q2
          have v2 := sumC_hit (O := c.r0) (lv := 2) (k := k) q2
          have u3 := cntF_miss (O := c.r0) (lv := 3) (k := k) (by rw [q2]; omega)
          have v3 := sumC_miss (O := c.r0) (lv := 3) (k := k) (by rw [q2]; omega)
          have HU := hide (⟨u0, u1, u2, u3, v0, v1, v2, v3⟩ : cntF c.r0 0 (k + 1) = cntF c.r0 0 k ∧ cntF c.r0 1 (k + 1) = cntF c.r0 1 k ∧ cntF c.r0 2 (k + 1) = cntF c.r0 2 k + 1 ∧ cntF c.r0 3 (k + 1) = cntF c.r0 3 k ∧ sumC c.r0 0 (k + 1) = sumC c.r0 0 k ∧ sumC c.r0 1 (k + 1) = sumC c.r0 1 k ∧ sumC c.r0 2 (k + 1) = sumC c.r0 2 k + c.r0.C k ∧ sumC c.r0 3 (k + 1) = sumC c.r0 3 k)
          clear u0 u1 u2 u3 v0 v1 v2 v3
          obtain ⟨s1, s2⟩ := s2
          obtain ⟨t1, t2⟩ := t2
          have HG9 : Hid (BoxIs ((wr.setCell ⟨FA, 2, none⟩ (.int .i64 (sumC c.r0 2 k + c.r0.C k))).drew) FA #[.int .i64 (sumC c.r0 0 (k + 1)), .int .i64 (sumC c.r0 1 (k + 1)), .int .i64 (sumC c.r0 2 (k + 1)), .int .i64 (sumC c.r0 3 (k + 1))] 101) := by
            have h : BoxIs ((wr.setCell ⟨FA, 2, none⟩ (.int .i64 (sumC c.r0 2 k + c.r0.C k))).drew) FA _ 101 := HG.out.set 2 (.int .i64 (sumC c.r0 2 k + c.r0.C k))
            obtain ⟨_, _, _, _, v0, v1, v2, v3⟩ := HU.out
            rw [v0, v1, v2, v3]
            simpa [Hid] using h
          have HC9 : Hid (Below W1.heap.size W1 ((wr.setCell ⟨FA, 2, none⟩ (.int .i64 (sumC c.r0 2 k + c.r0.C k))).drew)) := (HC.out.setCell (p := ⟨FA, 2, none⟩) hFAW (.int .i64 (sumC c.r0 2 k + c.r0.C k))).drew
          have HQ9 : Hid (cntF c.r0 0 (k + 1) = cntF c.r0 0 k) := HU.out.1
          rw [q2] at c1
          have d0 := HG.out.cell 0
          have d1 := HG.out.cell 1
          have d2 := HG.out.cell 2
          have d3 := HG.out.cell 3
          have df := HG.out.free
          simp only [List.getElem?_toArray, List.getElem?_cons_succ, List.getElem?_cons_zero] at d0 d1 d2 d3
          go_wp2_with fail
          go_region
          go_wp2
          exact ⟨⟨k + 1, by rw [HQ9.out], by go_num, by omega, HG9, HC9⟩, by simp [intOf]; omega⟩
        have q3 : c.r0.L k = 3 := by omega
        have s3 := sumC_bd c.r0 3 k hall
        have t3 := cntF_bd c.r0 3 k
        have u0 := cntF_miss (O := c.r0) (lv := 0) (k := k) (by rw [q3]; omega)
        have v0 := sumC_miss (O := c.r0) (lv := 0) (k := k) (by rw [q3]; omega)
        have u1 := cntF_miss (O := c.r0) (lv := 1) (k := k) (by rw [q3]; omega)
        have v1 := sumC_miss (O := c.r0) (lv := 1) (k := k) (by rw [q3]; omega)
        have u2 := cntF_miss (O := c.r0) (lv := 2) (k := k) (by rw [q3]; omega)
        have v2 := sumC_miss (O := c.r0) (lv := 2) (k := k) (by rw [q3]; omega)
        have u3 := cntF_hit (O := c.r0) (lv := 3) (k := k) q3
        have v3 := sumC_hit (O := c.r0) (lv := 3) (k := k) q3
        have HU := hide (⟨u0, u1, u2, u3, v0, v1, v2, v3⟩ : cntF c.r0 0 (k + 1) = cntF c.r0 0 k ∧ cntF c.r0 1 (k + 1) = cntF c.r0 1 k ∧ cntF c.r0 2 (k + 1) = cntF c.r0 2 k ∧ cntF c.r0 3 (k + 1) = cntF c.r0 3 k + 1 ∧ sumC c.r0 0 (k + 1) = sumC c.r0 0 k ∧ sumC c.r0 1 (k + 1) = sumC c.r0 1 k ∧ sumC c.r0 2 (k + 1) = sumC c.r0 2 k ∧ sumC c.r0 3 (k + 1) = sumC c.r0 3 k + c.r0.C k)
        clear u0 u1 u2 u3 v0 v1 v2 v3
        obtain ⟨s1, s2⟩ := s3
        obtain ⟨t1, t2⟩ := t3
        have HG9 : Hid (BoxIs ((wr.setCell ⟨FA, 3, none⟩ (.int .i64 (sumC c.r0 3 k + c.r0.C k))).drew) FA #[.int .i64 (sumC c.r0 0 (k + 1)), .int .i64 (sumC c.r0 1 (k + 1)), .int .i64 (sumC c.r0 2 (k + 1)), .int .i64 (sumC c.r0 3 (k + 1))] 101) := by
          have h : BoxIs ((wr.setCell ⟨FA, 3, none⟩ (.int .i64 (sumC c.r0 3 k + c.r0.C k))).drew) FA _ 101 := HG.out.set 3 (.int .i64 (sumC c.r0 3 k + c.r0.C k))
          obtain ⟨_, _, _, _, v0, v1, v2, v3⟩ := HU.out
          rw [v0, v1, v2, v3]
          simpa [Hid] using h
        have HC9 : Hid (Below W1.heap.size W1 ((wr.setCell ⟨FA, 3, none⟩ (.int .i64 (sumC c.r0 3 k + c.r0.C k))).drew)) := (HC.out.setCell (p := ⟨FA, 3, none⟩) hFAW (.int .i64 (sumC c.r0 3 k + c.r0.C k))).drew
        have HQ9 : Hid (cntF c.r0 0 (k + 1) = cntF c.r0 0 k) := HU.out.1
        rw [q3] at c1
        have d0 := HG.out.cell 0
        have d1 := HG.out.cell 1
        have d2 := HG.out.cell 2
        have d3 := HG.out.cell 3
        have df := HG.out.free
        simp only [List.getElem?_toArray, List.getElem?_cons_succ, List.getElem?_cons_zero] at d0 d1 d2 d3
        go_wp2_with fail
        go_region
        go_wp2
        exact ⟨⟨k + 1, by rw [HQ9.out], by go_num, by omega, HG9, HC9⟩, by simp [intOf]; omega⟩
      · obtain rfl : k = c.n0 := by omega
        have d1 := HG.out.cell 1
        have d2 := HG.out.cell 2
        simp only [List.getElem?_toArray, List.getElem?_cons_succ, List.getElem?_cons_zero] at d1 d2
        have hnlt : ¬ ((c.n0 : Int) < (c.n0 : Int)) := by omega
        clear hcb hcf
        by_cases h1 : 4 ≤ cntF c.r0 0 c.n0
        · skip
          have HV : Hid (0 = pickV c) := by unfold Hid; rw [HL.out]; simp [h1]
          have HV2 : Hid (true = pickB c) := by unfold Hid; rw [HL2.out]; simp [h1]
          go_wp2
          refine bodyPost_ret (v := .tuple #[.int .i64 0, .bool true]) (by simp [results, Try.results35, go_sem]) rfl ⟨ret_pair HV.out HV2.out, HW1.out⟩
        by_cases h2 : 20 < sumC c.r0 1 c.n0
        · skip
          have HV : Hid (1 = pickV c) := by unfold Hid; rw [HL.out]; simp [h1, h2]
          have HV2 : Hid (true = pickB c) := by unfold Hid; rw [HL2.out]; simp [h1, h2]
          go_wp2
          refine bodyPost_ret (v := .tuple #[.int .i64 1, .bool true]) (by simp [results, Try.results35, go_sem]) rfl ⟨ret_pair HV.out HV2.out, HW1.out⟩
        by_cases h3 : 200 < sumC c.r0 2 c.n0
        · skip
          have HV : Hid (2 = pickV c) := by unfold Hid; rw [HL.out]; simp [h1, h2, h3]
          have HV2 : Hid (true = pickB c) := by unfold Hid; rw [HL2.out]; simp [h1, h2, h3]
          go_wp2
          refine bodyPost_ret (v := .tuple #[.int .i64 2, .bool true]) (by simp [results, Try.results35, go_sem]) rfl ⟨ret_pair HV.out HV2.out, HW1.out⟩
        have HV : Hid (0 = pickV c) := by unfold Hid; rw [HL.out]; simp [h1, h2, h3]
        have HV2 : Hid (false = pickB c) := by unfold Hid; rw [HL2.out]; simp [h1, h2, h3]
        go_wp2
        refine bodyPost_ret (v := .tuple #[.int .i64 0, .bool false]) (by simp [results, Try.results35, go_sem]) rfl ⟨ret_pair HV.out HV2.out, HW1.out⟩

end Go.Proofs.Ytplemoedpdammaa
