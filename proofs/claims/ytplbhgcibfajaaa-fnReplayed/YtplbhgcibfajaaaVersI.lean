/- VersionOk of the program. (By gen_vok.py.) -/
import Derived.Test.YtplbhgcibfajaaaVersion
import Derived.Test.YtplbhgcibfajaaaDiffer
import Derived.Test.YtplbhgcibfajaaaFOrd
namespace Go.Proofs.Ytplbhgcibfajaaa
set_option maxRecDepth 100000
open Go.RowKit Go.Deep

/-- File i is right, and stands right behind the one ahead of it. -/
def stepB (O : Metas) (nx : Int) (i : Nat) : Bool := fileB (O.N i) (O.L i) (O.F i) (O.Z i) (O.C i) nx && (i == 0 || aheadB (O.N (i - 1)) (O.L (i - 1)) (O.Z (i - 1)) (O.N i) (O.L i) (O.F i))

/-- A right version. -/
def versB (c : VersionC) : Bool := decide (c.n0 ≤ 30 ∧ 1 ≤ c.x1 ∧ c.x1 ≤ 1000000 ∧ 0 ≤ c.x2 ∧ c.x2 ≤ 1000000000000 ∧ 0 ≤ c.x3 ∧ c.x3 < c.x1) && (List.range c.n0).all (stepB c.r0 c.x1) && nodupB (numsL c.r0 c.n0)

theorem versB_no {c : VersionC} (h : ¬ (c.n0 ≤ 30 ∧ 1 ≤ c.x1 ∧ c.x1 ≤ 1000000 ∧ 0 ≤ c.x2 ∧ c.x2 ≤ 1000000000000 ∧ 0 ≤ c.x3 ∧ c.x3 < c.x1)) : versB c = false := by
  unfold versB; rw [decide_eq_false h, Bool.false_and, Bool.false_and]
theorem versB_step {c : VersionC} (k : Nat) (hk : k < c.n0) (h : stepB c.r0 c.x1 k = false) : versB c = false := by
  rw [Bool.eq_false_iff]
  intro e
  unfold versB at e
  rw [Bool.and_eq_true, Bool.and_eq_true, List.all_eq_true] at e
  rw [e.1.2 k (List.mem_range.2 hk)] at h
  cases h
theorem versB_all {c : VersionC} (h : c.n0 ≤ 30 ∧ 1 ≤ c.x1 ∧ c.x1 ≤ 1000000 ∧ 0 ≤ c.x2 ∧ c.x2 ≤ 1000000000000 ∧ 0 ≤ c.x3 ∧ c.x3 < c.x1) (k : ∀ i, i < c.n0 → stepB c.r0 c.x1 i = true) : versB c = nodupB (numsL c.r0 c.n0) := by
  unfold versB
  rw [decide_eq_true h, Bool.true_and, List.all_eq_true.2 fun i hi => k i (List.mem_range.1 hi), Bool.true_and]
theorem versB_out {c : VersionC} (h : versB c = true) : (c.n0 ≤ 30 ∧ 1 ≤ c.x1 ∧ c.x1 ≤ 1000000 ∧ 0 ≤ c.x2 ∧ c.x2 ≤ 1000000000000 ∧ 0 ≤ c.x3 ∧ c.x3 < c.x1) ∧ (∀ i, i < c.n0 → stepB c.r0 c.x1 i = true) ∧ (numsL c.r0 c.n0).Nodup := by
  unfold versB nodupB at h
  rw [Bool.and_eq_true, Bool.and_eq_true, List.all_eq_true] at h
  exact ⟨of_decide_eq_true h.1.1, fun i hi => h.1.2 i (List.mem_range.2 hi), of_decide_eq_true h.2⟩

theorem fileB_level {x0 x1 : Int} {x2 x3 : ByteArray} {x4 nx : Int} (h : fileB x0 x1 x2 x3 x4 nx = true) : 0 ≤ x1 ∧ x1 ≤ 3 := by
  unfold fileB at h
  simp only [Bool.and_eq_true, decide_eq_true_eq] at h
  obtain ⟨⟨⟨⟨⟨⟨⟨⟨_, _⟩, c⟩, d⟩, _⟩, _⟩, _⟩, _⟩, _⟩ := h
  exact ⟨c, d⟩
theorem stepB_file {O : Metas} {nx : Int} {i : Nat} (h : stepB O nx i = true) : fileB (O.N i) (O.L i) (O.F i) (O.Z i) (O.C i) nx = true := by
  unfold stepB at h; rw [Bool.and_eq_true] at h; exact h.1

theorem vers_box {w w' : World} {a0 : Option Addr} {p0 : Nat} {c : VersionC} {t : TypeId} (hb : Below (w.alloc (.cells #[.slice a0 c.n0 p0, .int .i64 c.x1, .int .i64 c.x2, .int .i64 c.x3] t)).heap.size (w.alloc (.cells #[.slice a0 c.n0 p0, .int .i64 c.x1, .int .i64 c.x2, .int .i64 c.x3] t)) w') :
    w'.cell? ⟨w.heap.size, 0, none⟩ = some (.slice a0 c.n0 p0) ∧ w'.cell? ⟨w.heap.size, 1, none⟩ = some (.int .i64 c.x1) := by
  refine ⟨?_, ?_⟩
  · rw [hb.cell (by simp)]; simp
  · rw [hb.cell (by simp)]; simp

set_option linter.unusedVariables false in
set_option maxHeartbeats 4000000 in
theorem impl_VersionOk (v : Value) (c : VersionC) (w : World) (hf : c.Fit) (hv : VersionIs w v c) :
    Calls Try.prog 27 #[v] w fun e w' => e = .returned (.bool (versB c)) ∧ Below w.heap.size w w' := by
  obtain ⟨a0, p0, rfl, hS⟩ := hv
  have hl : c.n0 ≤ 1048576 := hf
  have HBb := hide (below_one w (.cells #[.slice a0 c.n0 p0, .int .i64 c.x1, .int .i64 c.x2, .int .i64 c.x3] 32))
  by_cases hr : c.n0 ≤ 30 ∧ 1 ≤ c.x1 ∧ c.x1 ≤ 1000000 ∧ 0 ≤ c.x2 ∧ c.x2 ≤ 1000000000000 ∧ 0 ≤ c.x3 ∧ c.x3 < c.x1
  · have HR := hide hr
    obtain ⟨r1, r2, r3, r4, r5, r6, r7⟩ := hr
    have q1 : ¬ ((30 : Int) < (c.n0 : Int)) := by omega
    have q2 : ¬ (c.x1 < 1) := by omega
    have q3 : ¬ ((1000000 : Int) < c.x1) := by omega
    have q4 : ¬ (c.x2 < 0) := by omega
    have q5 : ¬ ((1000000000000 : Int) < c.x2) := by omega
    have q6 : ¬ (c.x3 < 0) := by omega
    have q7 : ¬ (c.x1 ≤ c.x3) := by omega
    have HS := hS.hid
    have HB0 : Hid (Below (w.alloc (.cells #[.slice a0 c.n0 p0, .int .i64 c.x1, .int .i64 c.x2, .int .i64 c.x3] 32)).heap.size (w.alloc (.cells #[.slice a0 c.n0 p0, .int .i64 c.x1, .int .i64 c.x2, .int .i64 c.x3] 32)) (w.alloc (.cells #[.slice a0 c.n0 p0, .int .i64 c.x1, .int .i64 c.x2, .int .i64 c.x3] 32))) := Below.refl _ _
    clear hS
    go_enter Try.func27, Try.ntmps27
    go_wp2
    go_loopw [44] (fun i wr => ∃ k : Nat, i = .int .i64 k ∧ k ≤ c.n0 ∧ Hid (∀ i, i < k → stepB c.r0 c.x1 i = true) ∧ Hid (Below (w.alloc (.cells #[.slice a0 c.n0 p0, .int .i64 c.x1, .int .i64 c.x2, .int .i64 c.x3] 32)).heap.size (w.alloc (.cells #[.slice a0 c.n0 p0, .int .i64 c.x1, .int .i64 c.x2, .int .i64 c.x3] 32)) wr)) (fun i _ => c.n0 - (intOf i).toNat)
    case atStart => exact ⟨0, rfl, by omega, fun _ h => absurd h (by omega), HB0⟩
    case round =>
      obtain ⟨k, rfl, hk, HK, HW⟩ := hrel
      clear HB0 q1 q2 q3 q4 q5 q6 q7 r1 r2 r3 r4 r5 r6 r7
      obtain ⟨v0, v1⟩ := vers_box HW.out
      have hwB := below_of_alloc HW.out
      have HWB := hide hwB
      have hz := hwB.size
      by_cases hlt : k < c.n0
      · have hlti : (k : Int) < (c.n0 : Int) := by omega
        obtain ⟨b, off, rfl, hb, c0, c1, c2, c3, c4⟩ := (HS.out.below hwB).at hlt
        cases hfl : fileB (c.r0.N k) (c.r0.L k) (c.r0.F k) (c.r0.Z k) (c.r0.C k) c.x1 with
        | false =>
          have HV : Hid (false = versB c) := (versB_step k hlt (by unfold stepB; rw [hfl, Bool.false_and])).symm
          have cf := fun wx => (show fileB (c.r0.N k) (c.r0.L k) (c.r0.F k) (c.r0.Z k) (c.r0.C k) c.x1 = false from hfl) ▸ impl_fileOk (c.r0.N k) (c.r0.L k) (c.r0.F k) (c.r0.Z k) (c.r0.C k) c.x1 wx
          clear hfl hwB
          have hb6 := below_one wr (.cells #[.int .i64 (c.r0.N k), .int .i64 (c.r0.L k), .string (c.r0.F k), .string (c.r0.Z k), .int .i64 (c.r0.C k)] 59)
          have v06 := keepc hb6 v0
          have v16 := keepc hb6 v1
          have g0 : (wr.alloc (.cells #[.int .i64 (c.r0.N k), .int .i64 (c.r0.L k), .string (c.r0.F k), .string (c.r0.Z k), .int .i64 (c.r0.C k)] 59)).cell? ⟨wr.heap.size, 0, none⟩ = some (.int .i64 (c.r0.N k)) := by simp
          have g1 : (wr.alloc (.cells #[.int .i64 (c.r0.N k), .int .i64 (c.r0.L k), .string (c.r0.F k), .string (c.r0.Z k), .int .i64 (c.r0.C k)] 59)).cell? ⟨wr.heap.size, 1, none⟩ = some (.int .i64 (c.r0.L k)) := by simp
          have g2 : (wr.alloc (.cells #[.int .i64 (c.r0.N k), .int .i64 (c.r0.L k), .string (c.r0.F k), .string (c.r0.Z k), .int .i64 (c.r0.C k)] 59)).cell? ⟨wr.heap.size, 2, none⟩ = some (.string (c.r0.F k)) := by simp
          have g3 : (wr.alloc (.cells #[.int .i64 (c.r0.N k), .int .i64 (c.r0.L k), .string (c.r0.F k), .string (c.r0.Z k), .int .i64 (c.r0.C k)] 59)).cell? ⟨wr.heap.size, 3, none⟩ = some (.string (c.r0.Z k)) := by simp
          have g4 : (wr.alloc (.cells #[.int .i64 (c.r0.N k), .int .i64 (c.r0.L k), .string (c.r0.F k), .string (c.r0.Z k), .int .i64 (c.r0.C k)] 59)).cell? ⟨wr.heap.size, 4, none⟩ = some (.int .i64 (c.r0.C k)) := by simp
          have HW6 := hide (HW.out.trans (hb6.mono HW.out.size))
          go_wp2_with fail
          clear v0 v1 c0 c1 c2 c3 c4
          generalize wr.alloc (.cells #[.int .i64 (c.r0.N k), .int .i64 (c.r0.L k), .string (c.r0.F k), .string (c.r0.Z k), .int .i64 (c.r0.C k)] 59) = W6 at hb6 v06 v16 g0 g1 g2 g3 g4 HW6 ⊢
          have v0 := v06
          have v1 := v16
          clear v06 v16
          clear hb6
          refine wp_region_noPanic ?_
          refine wp_region_held_drew (S := fun x => Below W6.heap.size W6 x) (by kernel_rfl) (Below.refl _ _).drew (fun hH => ?_)
          have hb0 : Below W6.heap.size W6 W6.drew := hH
          clear hH
          have v0_0 := keepc hb0 v0
          have v1_0 := keepc hb0 v1
          have g0_0 := keepc hb0 g0
          have g1_0 := keepc hb0 g1
          have g2_0 := keepc hb0 g2
          have g3_0 := keepc hb0 g3
          have g4_0 := keepc hb0 g4
          generalize W6.drew = wq0 at hb0 v0_0 v1_0 g0_0 g1_0 g2_0 g3_0 g4_0 ⊢
          refine wpAnyH_restart hb0 ?_
          refine wpAnyH_take (i := 0) (v := .agg #[.int .i64 (c.r0.N k), .int .i64 (c.r0.L k), .string (c.r0.F k), .string (c.r0.Z k), .int .i64 (c.r0.C k)]) nat0 (by kernel_rfl) (by kernel_rfl) (by kernel_rfl) (fun _ _ _ h => False.elim h) (Or.inl ⟨by rfl, ?_⟩) (Below.refl _ _) ?_
          · intro wx hSw
            have hx : Below wq0.heap.size wq0 wx := hSw
            have e0 := keepc hx g0_0
            have e1 := keepc hx g1_0
            have e2 := keepc hx g2_0
            have e3 := keepc hx g3_0
            have e4 := keepc hx g4_0
            go_simp
          simp only [Act.put, List.setIfInBounds_toArray, List.set_cons_zero, List.set_cons_succ]
          refine wpAnyH_take (i := 1) (v := .pointer (some ⟨w.heap.size, 1, none⟩)) nat1 (by kernel_rfl) (by kernel_rfl) (by kernel_rfl) (fun _ _ _ h => False.elim h) (Or.inl ⟨by rfl, ?_⟩) (Below.refl _ _) ?_
          · intro wx hSw
            go_simp
          simp only [Act.put, List.setIfInBounds_toArray, List.set_cons_zero, List.set_cons_succ]
          refine wpAnyH_take (i := 2) (v := .int .i64 c.x1) nat2 (by kernel_rfl) (by kernel_rfl) (by kernel_rfl) (fun _ _ _ h => False.elim h) (Or.inl ⟨by rfl, ?_⟩) (Below.refl _ _) ?_
          · intro wx hSw
            have hx : Below wq0.heap.size wq0 wx := hSw
            have e0 := keepc hx v1_0
            go_simp
          simp only [Act.put, List.setIfInBounds_toArray, List.set_cons_zero, List.set_cons_succ]
          refine wpAnyH_ready (rs := [3]) (by kernel_rfl) (by simp) ?_
          refine AllReadyH.cons nat3 (fun K hK => ?_) AllReadyH.nil
          go_simp
          go_at_call 47
          refine (cf _).mono ?_
          rintro e wq1 ⟨rfl, hb1⟩
          refine hK.out _ _ hb1 (fun _ => ?_)
          clear hK K
          have v0_0_1 := keepc hb1 v0_0
          have v1_0_1 := keepc hb1 v1_0
          have g0_0_1 := keepc hb1 g0_0
          have g1_0_1 := keepc hb1 g1_0
          have g2_0_1 := keepc hb1 g2_0
          have g3_0_1 := keepc hb1 g3_0
          have g4_0_1 := keepc hb1 g4_0
          refine wpAnyH_restart hb1 ?_
          refine wpAnyH_take (i := 4) (v := .bool true) nat4 (by kernel_rfl) (by kernel_rfl) (by kernel_rfl) (fun _ _ _ h => False.elim h) (Or.inl ⟨by rfl, ?_⟩) (Below.refl _ _) ?_
          · intro wx hSw
            go_simp
          simp only [Act.put, List.setIfInBounds_toArray, List.set_cons_zero, List.set_cons_succ]
          refine wpAnyH_take (i := 5) (v := .bool true) nat5 (by kernel_rfl) (by kernel_rfl) (by kernel_rfl) (fun _ _ _ h => False.elim h) (Or.inl ⟨by rfl, ?_⟩) (Below.refl _ _) ?_
          · intro wx hSw
            go_simp
          simp only [Act.put, List.setIfInBounds_toArray, List.set_cons_zero, List.set_cons_succ]
          refine wpAnyH_take (i := 6) (v := undef) nat6 (by kernel_rfl) (by kernel_rfl) (by kernel_rfl) (fun _ _ _ h => False.elim h) (Or.inr ⟨by rfl, rfl⟩) (Below.refl _ _) ?_
          simp only [Act.put, List.setIfInBounds_toArray, List.set_cons_zero, List.set_cons_succ]
          refine wpAnyH_take (i := 7) (v := undef) nat7 (by kernel_rfl) (by kernel_rfl) (by kernel_rfl) (fun _ _ _ h => False.elim h) (Or.inr ⟨by rfl, rfl⟩) (Below.refl _ _) ?_
          simp only [Act.put, List.setIfInBounds_toArray, List.set_cons_zero, List.set_cons_succ]
          refine wpAnyH_take (i := 8) (v := undef) nat8 (by kernel_rfl) (by kernel_rfl) (by kernel_rfl) (fun _ _ _ h => False.elim h) (Or.inr ⟨by rfl, rfl⟩) (Below.refl _ _) ?_
          simp only [Act.put, List.setIfInBounds_toArray, List.set_cons_zero, List.set_cons_succ]
          refine wpAnyH_take (i := 9) (v := undef) nat9 (by kernel_rfl) (by kernel_rfl) (by kernel_rfl) (fun _ _ _ h => False.elim h) (Or.inr ⟨by rfl, rfl⟩) (Below.refl _ _) ?_
          simp only [Act.put, List.setIfInBounds_toArray, List.set_cons_zero, List.set_cons_succ]
          refine wpAnyH_take (i := 10) (v := undef) nat10 (by kernel_rfl) (by kernel_rfl) (by kernel_rfl) (fun _ _ _ h => False.elim h) (Or.inr ⟨by rfl, rfl⟩) (Below.refl _ _) ?_
          simp only [Act.put, List.setIfInBounds_toArray, List.set_cons_zero, List.set_cons_succ]
          refine wpAnyH_take (i := 11) (v := undef) nat11 (by kernel_rfl) (by kernel_rfl) (by kernel_rfl) (fun _ _ _ h => False.elim h) (Or.inr ⟨by rfl, rfl⟩) (Below.refl _ _) ?_
          simp only [Act.put, List.setIfInBounds_toArray, List.set_cons_zero, List.set_cons_succ]
          refine wpAnyH_take (i := 12) (v := undef) nat12 (by kernel_rfl) (by kernel_rfl) (by kernel_rfl) (fun _ _ _ h => False.elim h) (Or.inr ⟨by rfl, rfl⟩) (Below.refl _ _) ?_
          simp only [Act.put, List.setIfInBounds_toArray, List.set_cons_zero, List.set_cons_succ]
          refine wpAnyH_take (i := 13) (v := undef) nat13 (by kernel_rfl) (by kernel_rfl) (by kernel_rfl) (fun _ _ _ h => False.elim h) (Or.inr ⟨by rfl, rfl⟩) (Below.refl _ _) ?_
          simp only [Act.put, List.setIfInBounds_toArray, List.set_cons_zero, List.set_cons_succ]
          refine wpAnyH_take (i := 14) (v := undef) nat14 (by kernel_rfl) (by kernel_rfl) (by kernel_rfl) (fun _ _ _ h => False.elim h) (Or.inr ⟨by rfl, rfl⟩) (Below.refl _ _) ?_
          simp only [Act.put, List.setIfInBounds_toArray, List.set_cons_zero, List.set_cons_succ]
          refine wpAnyH_take (i := 15) (v := undef) nat15 (by kernel_rfl) (by kernel_rfl) (by kernel_rfl) (fun _ _ _ h => False.elim h) (Or.inr ⟨by rfl, rfl⟩) (Below.refl _ _) ?_
          simp only [Act.put, List.setIfInBounds_toArray, List.set_cons_zero, List.set_cons_succ]
          refine wpAnyH_take (i := 16) (v := undef) nat16 (by kernel_rfl) (by kernel_rfl) (by kernel_rfl) (fun _ _ _ h => False.elim h) (Or.inr ⟨by rfl, rfl⟩) (Below.refl _ _) ?_
          simp only [Act.put, List.setIfInBounds_toArray, List.set_cons_zero, List.set_cons_succ]
          refine wpAnyH_take (i := 17) (v := undef) nat17 (by kernel_rfl) (by kernel_rfl) (by kernel_rfl) (fun _ _ _ h => False.elim h) (Or.inr ⟨by rfl, rfl⟩) (Below.refl _ _) ?_
          simp only [Act.put, List.setIfInBounds_toArray, List.set_cons_zero, List.set_cons_succ]
          refine wpAnyH_take (i := 18) (v := undef) nat18 (by kernel_rfl) (by kernel_rfl) (by kernel_rfl) (fun _ _ _ h => False.elim h) (Or.inr ⟨by rfl, rfl⟩) (Below.refl _ _) ?_
          simp only [Act.put, List.setIfInBounds_toArray, List.set_cons_zero, List.set_cons_succ]
          refine wpAnyH_take (i := 19) (v := .bool true) nat19 (by kernel_rfl) (by kernel_rfl) (by kernel_rfl) (fun _ _ _ h => False.elim h) (Or.inl ⟨by rfl, ?_⟩) (Below.refl _ _) ?_
          · intro wx hSw
            go_simp
          simp only [Act.put, List.setIfInBounds_toArray, List.set_cons_zero, List.set_cons_succ]
          refine wpAnyH_done (by kernel_rfl) ?_ _
          refine NoPanic.normal ?_
          have HBL : Below W6.heap.size W6 wq1 := (hb0).trans (hb1.mono (hb0).size)
          have HW7 := hide (HW6.out.trans (HBL.mono HW6.out.size))
          clear HBL HW6
          clear v0_0_1 v1_0_1 g0_0_1 g1_0_1 g2_0_1 g3_0_1 g4_0_1
          go_wp2
          go_ret
          exact ⟨ret_boolE HV.out, below_of_alloc HW7.out⟩
        | true =>
          rcases Nat.eq_zero_or_pos k with rfl | hkp
          · have hst : stepB c.r0 c.x1 0 = true := by unfold stepB; rw [hfl]; rfl
            have HK2 : Hid (∀ i, i < 0 + 1 → stepB c.r0 c.x1 i = true) := fun i hi => by
              rcases Nat.lt_or_eq_of_le (Nat.le_of_lt_succ hi) with h | h
              · exact HK.out i h
              · subst h; exact hst
            have cf := fun wx => (show fileB (c.r0.N 0) (c.r0.L 0) (c.r0.F 0) (c.r0.Z 0) (c.r0.C 0) c.x1 = true from hfl) ▸ impl_fileOk (c.r0.N 0) (c.r0.L 0) (c.r0.F 0) (c.r0.Z 0) (c.r0.C 0) c.x1 wx
            simp only [Nat.zero_mul, Nat.add_zero] at c0 c1 c2 c3 c4
            clear hfl hwB hst
            have hb6 := below_one wr (.cells #[.int .i64 (c.r0.N 0), .int .i64 (c.r0.L 0), .string (c.r0.F 0), .string (c.r0.Z 0), .int .i64 (c.r0.C 0)] 59)
            have v06 := keepc hb6 v0
            have v16 := keepc hb6 v1
            have g0 : (wr.alloc (.cells #[.int .i64 (c.r0.N 0), .int .i64 (c.r0.L 0), .string (c.r0.F 0), .string (c.r0.Z 0), .int .i64 (c.r0.C 0)] 59)).cell? ⟨wr.heap.size, 0, none⟩ = some (.int .i64 (c.r0.N 0)) := by simp
            have g1 : (wr.alloc (.cells #[.int .i64 (c.r0.N 0), .int .i64 (c.r0.L 0), .string (c.r0.F 0), .string (c.r0.Z 0), .int .i64 (c.r0.C 0)] 59)).cell? ⟨wr.heap.size, 1, none⟩ = some (.int .i64 (c.r0.L 0)) := by simp
            have g2 : (wr.alloc (.cells #[.int .i64 (c.r0.N 0), .int .i64 (c.r0.L 0), .string (c.r0.F 0), .string (c.r0.Z 0), .int .i64 (c.r0.C 0)] 59)).cell? ⟨wr.heap.size, 2, none⟩ = some (.string (c.r0.F 0)) := by simp
            have g3 : (wr.alloc (.cells #[.int .i64 (c.r0.N 0), .int .i64 (c.r0.L 0), .string (c.r0.F 0), .string (c.r0.Z 0), .int .i64 (c.r0.C 0)] 59)).cell? ⟨wr.heap.size, 3, none⟩ = some (.string (c.r0.Z 0)) := by simp
            have g4 : (wr.alloc (.cells #[.int .i64 (c.r0.N 0), .int .i64 (c.r0.L 0), .string (c.r0.F 0), .string (c.r0.Z 0), .int .i64 (c.r0.C 0)] 59)).cell? ⟨wr.heap.size, 4, none⟩ = some (.int .i64 (c.r0.C 0)) := by simp
            have HW6 := hide (HW.out.trans (hb6.mono HW.out.size))
            go_wp2_with fail
            clear v0 v1 c0 c1 c2 c3 c4
            generalize wr.alloc (.cells #[.int .i64 (c.r0.N 0), .int .i64 (c.r0.L 0), .string (c.r0.F 0), .string (c.r0.Z 0), .int .i64 (c.r0.C 0)] 59) = W6 at hb6 v06 v16 g0 g1 g2 g3 g4 HW6 ⊢
            have v0 := v06
            have v1 := v16
            clear v06 v16
            clear hb6
            refine wp_region_noPanic ?_
            refine wp_region_held_drew (S := fun x => Below W6.heap.size W6 x) (by kernel_rfl) (Below.refl _ _).drew (fun hH => ?_)
            have hb0 : Below W6.heap.size W6 W6.drew := hH
            clear hH
            have v0_0 := keepc hb0 v0
            have v1_0 := keepc hb0 v1
            have g0_0 := keepc hb0 g0
            have g1_0 := keepc hb0 g1
            have g2_0 := keepc hb0 g2
            have g3_0 := keepc hb0 g3
            have g4_0 := keepc hb0 g4
            generalize W6.drew = wq0 at hb0 v0_0 v1_0 g0_0 g1_0 g2_0 g3_0 g4_0 ⊢
            refine wpAnyH_restart hb0 ?_
            refine wpAnyH_take (i := 0) (v := .agg #[.int .i64 (c.r0.N 0), .int .i64 (c.r0.L 0), .string (c.r0.F 0), .string (c.r0.Z 0), .int .i64 (c.r0.C 0)]) nat0 (by kernel_rfl) (by kernel_rfl) (by kernel_rfl) (fun _ _ _ h => False.elim h) (Or.inl ⟨by rfl, ?_⟩) (Below.refl _ _) ?_
            · intro wx hSw
              have hx : Below wq0.heap.size wq0 wx := hSw
              have e0 := keepc hx g0_0
              have e1 := keepc hx g1_0
              have e2 := keepc hx g2_0
              have e3 := keepc hx g3_0
              have e4 := keepc hx g4_0
              go_simp
            simp only [Act.put, List.setIfInBounds_toArray, List.set_cons_zero, List.set_cons_succ]
            refine wpAnyH_take (i := 1) (v := .pointer (some ⟨w.heap.size, 1, none⟩)) nat1 (by kernel_rfl) (by kernel_rfl) (by kernel_rfl) (fun _ _ _ h => False.elim h) (Or.inl ⟨by rfl, ?_⟩) (Below.refl _ _) ?_
            · intro wx hSw
              go_simp
            simp only [Act.put, List.setIfInBounds_toArray, List.set_cons_zero, List.set_cons_succ]
            refine wpAnyH_take (i := 2) (v := .int .i64 c.x1) nat2 (by kernel_rfl) (by kernel_rfl) (by kernel_rfl) (fun _ _ _ h => False.elim h) (Or.inl ⟨by rfl, ?_⟩) (Below.refl _ _) ?_
            · intro wx hSw
              have hx : Below wq0.heap.size wq0 wx := hSw
              have e0 := keepc hx v1_0
              go_simp
            simp only [Act.put, List.setIfInBounds_toArray, List.set_cons_zero, List.set_cons_succ]
            refine wpAnyH_ready (rs := [3]) (by kernel_rfl) (by simp) ?_
            refine AllReadyH.cons nat3 (fun K hK => ?_) AllReadyH.nil
            go_simp
            go_at_call 47
            refine (cf _).mono ?_
            rintro e wq1 ⟨rfl, hb1⟩
            refine hK.out _ _ hb1 (fun _ => ?_)
            clear hK K
            have v0_0_1 := keepc hb1 v0_0
            have v1_0_1 := keepc hb1 v1_0
            have g0_0_1 := keepc hb1 g0_0
            have g1_0_1 := keepc hb1 g1_0
            have g2_0_1 := keepc hb1 g2_0
            have g3_0_1 := keepc hb1 g3_0
            have g4_0_1 := keepc hb1 g4_0
            refine wpAnyH_restart hb1 ?_
            refine wpAnyH_take (i := 4) (v := .bool false) nat4 (by kernel_rfl) (by kernel_rfl) (by kernel_rfl) (fun _ _ _ h => False.elim h) (Or.inl ⟨by rfl, ?_⟩) (Below.refl _ _) ?_
            · intro wx hSw
              go_simp
            simp only [Act.put, List.setIfInBounds_toArray, List.set_cons_zero, List.set_cons_succ]
            refine wpAnyH_take (i := 5) (v := .bool false) nat5 (by kernel_rfl) (by kernel_rfl) (by kernel_rfl) (fun _ _ _ h => False.elim h) (Or.inl ⟨by rfl, ?_⟩) (Below.refl _ _) ?_
            · intro wx hSw
              go_simp
            simp only [Act.put, List.setIfInBounds_toArray, List.set_cons_zero, List.set_cons_succ]
            refine wpAnyH_take (i := 6) (v := .int .i64 0) nat6 (by kernel_rfl) (by kernel_rfl) (by kernel_rfl) (fun _ _ _ h => False.elim h) (Or.inl ⟨by rfl, ?_⟩) (Below.refl _ _) ?_
            · intro wx hSw
              go_simp
            simp only [Act.put, List.setIfInBounds_toArray, List.set_cons_zero, List.set_cons_succ]
            refine wpAnyH_take (i := 7) (v := .bool false) nat7 (by kernel_rfl) (by kernel_rfl) (by kernel_rfl) (fun _ _ _ h => False.elim h) (Or.inl ⟨by rfl, ?_⟩) (Below.refl _ _) ?_
            · intro wx hSw
              go_simp
            simp only [Act.put, List.setIfInBounds_toArray, List.set_cons_zero, List.set_cons_succ]
            refine wpAnyH_take (i := 8) (v := .bool false) nat8 (by kernel_rfl) (by kernel_rfl) (by kernel_rfl) (fun _ _ _ h => False.elim h) (Or.inl ⟨by rfl, ?_⟩) (Below.refl _ _) ?_
            · intro wx hSw
              go_simp
            simp only [Act.put, List.setIfInBounds_toArray, List.set_cons_zero, List.set_cons_succ]
            refine wpAnyH_take (i := 9) (v := undef) nat9 (by kernel_rfl) (by kernel_rfl) (by kernel_rfl) (fun _ _ _ h => False.elim h) (Or.inr ⟨by rfl, rfl⟩) (Below.refl _ _) ?_
            simp only [Act.put, List.setIfInBounds_toArray, List.set_cons_zero, List.set_cons_succ]
            refine wpAnyH_take (i := 10) (v := undef) nat10 (by kernel_rfl) (by kernel_rfl) (by kernel_rfl) (fun _ _ _ h => False.elim h) (Or.inr ⟨by rfl, rfl⟩) (Below.refl _ _) ?_
            simp only [Act.put, List.setIfInBounds_toArray, List.set_cons_zero, List.set_cons_succ]
            refine wpAnyH_take (i := 11) (v := undef) nat11 (by kernel_rfl) (by kernel_rfl) (by kernel_rfl) (fun _ _ _ h => False.elim h) (Or.inr ⟨by rfl, rfl⟩) (Below.refl _ _) ?_
            simp only [Act.put, List.setIfInBounds_toArray, List.set_cons_zero, List.set_cons_succ]
            refine wpAnyH_take (i := 12) (v := undef) nat12 (by kernel_rfl) (by kernel_rfl) (by kernel_rfl) (fun _ _ _ h => False.elim h) (Or.inr ⟨by rfl, rfl⟩) (Below.refl _ _) ?_
            simp only [Act.put, List.setIfInBounds_toArray, List.set_cons_zero, List.set_cons_succ]
            refine wpAnyH_take (i := 13) (v := undef) nat13 (by kernel_rfl) (by kernel_rfl) (by kernel_rfl) (fun _ _ _ h => False.elim h) (Or.inr ⟨by rfl, rfl⟩) (Below.refl _ _) ?_
            simp only [Act.put, List.setIfInBounds_toArray, List.set_cons_zero, List.set_cons_succ]
            refine wpAnyH_take (i := 14) (v := undef) nat14 (by kernel_rfl) (by kernel_rfl) (by kernel_rfl) (fun _ _ _ h => False.elim h) (Or.inr ⟨by rfl, rfl⟩) (Below.refl _ _) ?_
            simp only [Act.put, List.setIfInBounds_toArray, List.set_cons_zero, List.set_cons_succ]
            refine wpAnyH_take (i := 15) (v := undef) nat15 (by kernel_rfl) (by kernel_rfl) (by kernel_rfl) (fun _ _ _ h => False.elim h) (Or.inr ⟨by rfl, rfl⟩) (Below.refl _ _) ?_
            simp only [Act.put, List.setIfInBounds_toArray, List.set_cons_zero, List.set_cons_succ]
            refine wpAnyH_take (i := 16) (v := undef) nat16 (by kernel_rfl) (by kernel_rfl) (by kernel_rfl) (fun _ _ _ h => False.elim h) (Or.inr ⟨by rfl, rfl⟩) (Below.refl _ _) ?_
            simp only [Act.put, List.setIfInBounds_toArray, List.set_cons_zero, List.set_cons_succ]
            refine wpAnyH_take (i := 17) (v := undef) nat17 (by kernel_rfl) (by kernel_rfl) (by kernel_rfl) (fun _ _ _ h => False.elim h) (Or.inr ⟨by rfl, rfl⟩) (Below.refl _ _) ?_
            simp only [Act.put, List.setIfInBounds_toArray, List.set_cons_zero, List.set_cons_succ]
            refine wpAnyH_take (i := 18) (v := .bool false) nat18 (by kernel_rfl) (by kernel_rfl) (by kernel_rfl) (fun _ _ _ h => False.elim h) (Or.inl ⟨by rfl, ?_⟩) (Below.refl _ _) ?_
            · intro wx hSw
              go_simp
            simp only [Act.put, List.setIfInBounds_toArray, List.set_cons_zero, List.set_cons_succ]
            refine wpAnyH_take (i := 19) (v := .bool false) nat19 (by kernel_rfl) (by kernel_rfl) (by kernel_rfl) (fun _ _ _ h => False.elim h) (Or.inl ⟨by rfl, ?_⟩) (Below.refl _ _) ?_
            · intro wx hSw
              go_simp
            simp only [Act.put, List.setIfInBounds_toArray, List.set_cons_zero, List.set_cons_succ]
            refine wpAnyH_done (by kernel_rfl) ?_ _
            refine NoPanic.normal ?_
            have HBL : Below W6.heap.size W6 wq1 := (hb0).trans (hb1.mono (hb0).size)
            have HW7 := hide (HW6.out.trans (HBL.mono HW6.out.size))
            clear HBL HW6
            clear v0_0_1 v1_0_1 g0_0_1 g1_0_1 g2_0_1 g3_0_1 g4_0_1
            go_wp2
            exact ⟨⟨0 + 1, by go_num, by omega, HK2, HW7⟩, by simp [intOf]; omega⟩
          · obtain ⟨j, rfl⟩ : ∃ j, k = j + 1 := ⟨k - 1, by omega⟩
            obtain ⟨b', off', hbb, hb', e0, e1, e2, e3, e4⟩ := (HS.out.below hwB).at (show j < c.n0 by omega)
            simp only [Option.some.injEq, Addr.mk.injEq, and_true] at hbb
            obtain ⟨rfl, rfl⟩ := hbb
            have hlv := fileB_level hfl
            have hlj := fileB_level (stepB_file (HK.out j (by omega)))
            have hsub2 : IntKind.i64.wrap ((j : Int) + 1 - 1) = (j : Int) := by rw [IntKind.wrap_i64]; omega
            have hsub4 : IntKind.i64.wrap (j : Int) = (j : Int) := by rw [IntKind.wrap_i64]; omega
            have hjl : (j : Int) < (c.n0 : Int) := by omega
            have hj00 : (0 : Int) ≤ (j : Int) := by omega
            have hjp : (0 : Int) < (j : Int) + 1 := by omega
            have hj1l : (j : Int) + 1 < (c.n0 : Int) := by omega
            have hjn : j < c.n0 := by omega
            have hfa := followB_ahead (x0 := c.r0.N j) (x2 := c.r0.F j) (x3 := c.r0.Z j) (y0 := c.r0.N (j + 1)) (y2 := c.r0.F (j + 1)) hlj.1 hlv.1
            cases hah : aheadB (c.r0.N j) (c.r0.L j) (c.r0.Z j) (c.r0.N (j + 1)) (c.r0.L (j + 1)) (c.r0.F (j + 1)) with
            | false =>
              have cm := fun wx => (hfa.trans hah) ▸ impl_mayFollow (c.r0.N j) (c.r0.L j) (c.r0.F j) (c.r0.Z j) (c.r0.C j) (c.r0.N (j + 1)) (c.r0.L (j + 1)) (c.r0.F (j + 1)) (c.r0.Z (j + 1)) (c.r0.C (j + 1)) wx
              have cf := fun wx => (show fileB (c.r0.N (j + 1)) (c.r0.L (j + 1)) (c.r0.F (j + 1)) (c.r0.Z (j + 1)) (c.r0.C (j + 1)) c.x1 = true from hfl) ▸ impl_fileOk (c.r0.N (j + 1)) (c.r0.L (j + 1)) (c.r0.F (j + 1)) (c.r0.Z (j + 1)) (c.r0.C (j + 1)) c.x1 wx
              have hst : stepB c.r0 c.x1 (j + 1) = false := by unfold stepB; rw [hfl, Nat.add_sub_cancel, hah]; rfl
              have HV : Hid (false = versB c) := (versB_step (j + 1) hlt hst).symm
              clear hfl hwB hst hah hfa hlv hlj hkp
              have hb6 := below_one wr (.cells #[.int .i64 (c.r0.N (j + 1)), .int .i64 (c.r0.L (j + 1)), .string (c.r0.F (j + 1)), .string (c.r0.Z (j + 1)), .int .i64 (c.r0.C (j + 1))] 59)
              have v06 := keepc hb6 v0
              have v16 := keepc hb6 v1
              have e06 := keepc hb6 e0
              have e16 := keepc hb6 e1
              have e26 := keepc hb6 e2
              have e36 := keepc hb6 e3
              have e46 := keepc hb6 e4
              have g0 : (wr.alloc (.cells #[.int .i64 (c.r0.N (j + 1)), .int .i64 (c.r0.L (j + 1)), .string (c.r0.F (j + 1)), .string (c.r0.Z (j + 1)), .int .i64 (c.r0.C (j + 1))] 59)).cell? ⟨wr.heap.size, 0, none⟩ = some (.int .i64 (c.r0.N (j + 1))) := by simp
              have g1 : (wr.alloc (.cells #[.int .i64 (c.r0.N (j + 1)), .int .i64 (c.r0.L (j + 1)), .string (c.r0.F (j + 1)), .string (c.r0.Z (j + 1)), .int .i64 (c.r0.C (j + 1))] 59)).cell? ⟨wr.heap.size, 1, none⟩ = some (.int .i64 (c.r0.L (j + 1))) := by simp
              have g2 : (wr.alloc (.cells #[.int .i64 (c.r0.N (j + 1)), .int .i64 (c.r0.L (j + 1)), .string (c.r0.F (j + 1)), .string (c.r0.Z (j + 1)), .int .i64 (c.r0.C (j + 1))] 59)).cell? ⟨wr.heap.size, 2, none⟩ = some (.string (c.r0.F (j + 1))) := by simp
              have g3 : (wr.alloc (.cells #[.int .i64 (c.r0.N (j + 1)), .int .i64 (c.r0.L (j + 1)), .string (c.r0.F (j + 1)), .string (c.r0.Z (j + 1)), .int .i64 (c.r0.C (j + 1))] 59)).cell? ⟨wr.heap.size, 3, none⟩ = some (.string (c.r0.Z (j + 1))) := by simp
              have g4 : (wr.alloc (.cells #[.int .i64 (c.r0.N (j + 1)), .int .i64 (c.r0.L (j + 1)), .string (c.r0.F (j + 1)), .string (c.r0.Z (j + 1)), .int .i64 (c.r0.C (j + 1))] 59)).cell? ⟨wr.heap.size, 4, none⟩ = some (.int .i64 (c.r0.C (j + 1))) := by simp
              have HW6 := hide (HW.out.trans (hb6.mono HW.out.size))
              go_wp2_with fail
              clear v0 v1 c0 c1 c2 c3 c4 e0 e1 e2 e3 e4
              generalize wr.alloc (.cells #[.int .i64 (c.r0.N (j + 1)), .int .i64 (c.r0.L (j + 1)), .string (c.r0.F (j + 1)), .string (c.r0.Z (j + 1)), .int .i64 (c.r0.C (j + 1))] 59) = W6 at hb6 v06 v16 g0 g1 g2 g3 g4 e06 e16 e26 e36 e46 HW6 ⊢
              have v0 := v06
              have v1 := v16
              have e0 := e06
              have e1 := e16
              have e2 := e26
              have e3 := e36
              have e4 := e46
              clear v06 v16 e06 e16 e26 e36 e46
              clear hb6
              refine wp_region_noPanic ?_
              refine wp_region_held_drew (S := fun x => Below W6.heap.size W6 x) (by kernel_rfl) (Below.refl _ _).drew (fun hH => ?_)
              have hb0 : Below W6.heap.size W6 W6.drew := hH
              clear hH
              have v0_0 := keepc hb0 v0
              have v1_0 := keepc hb0 v1
              have g0_0 := keepc hb0 g0
              have g1_0 := keepc hb0 g1
              have g2_0 := keepc hb0 g2
              have g3_0 := keepc hb0 g3
              have g4_0 := keepc hb0 g4
              have e0_0 := keepc hb0 e0
              have e1_0 := keepc hb0 e1
              have e2_0 := keepc hb0 e2
              have e3_0 := keepc hb0 e3
              have e4_0 := keepc hb0 e4
              generalize W6.drew = wq0 at hb0 v0_0 v1_0 g0_0 g1_0 g2_0 g3_0 g4_0 e0_0 e1_0 e2_0 e3_0 e4_0 ⊢
              refine wpAnyH_restart hb0 ?_
              refine wpAnyH_take (i := 0) (v := .agg #[.int .i64 (c.r0.N (j + 1)), .int .i64 (c.r0.L (j + 1)), .string (c.r0.F (j + 1)), .string (c.r0.Z (j + 1)), .int .i64 (c.r0.C (j + 1))]) nat0 (by kernel_rfl) (by kernel_rfl) (by kernel_rfl) (fun _ _ _ h => False.elim h) (Or.inl ⟨by rfl, ?_⟩) (Below.refl _ _) ?_
              · intro wx hSw
                have hx : Below wq0.heap.size wq0 wx := hSw
                have e0 := keepc hx g0_0
                have e1 := keepc hx g1_0
                have e2 := keepc hx g2_0
                have e3 := keepc hx g3_0
                have e4 := keepc hx g4_0
                go_simp
              simp only [Act.put, List.setIfInBounds_toArray, List.set_cons_zero, List.set_cons_succ]
              refine wpAnyH_take (i := 1) (v := .pointer (some ⟨w.heap.size, 1, none⟩)) nat1 (by kernel_rfl) (by kernel_rfl) (by kernel_rfl) (fun _ _ _ h => False.elim h) (Or.inl ⟨by rfl, ?_⟩) (Below.refl _ _) ?_
              · intro wx hSw
                go_simp
              simp only [Act.put, List.setIfInBounds_toArray, List.set_cons_zero, List.set_cons_succ]
              refine wpAnyH_take (i := 2) (v := .int .i64 c.x1) nat2 (by kernel_rfl) (by kernel_rfl) (by kernel_rfl) (fun _ _ _ h => False.elim h) (Or.inl ⟨by rfl, ?_⟩) (Below.refl _ _) ?_
              · intro wx hSw
                have hx : Below wq0.heap.size wq0 wx := hSw
                have e0 := keepc hx v1_0
                go_simp
              simp only [Act.put, List.setIfInBounds_toArray, List.set_cons_zero, List.set_cons_succ]
              refine wpAnyH_ready (rs := [3]) (by kernel_rfl) (by simp) ?_
              refine AllReadyH.cons nat3 (fun K hK => ?_) AllReadyH.nil
              go_simp
              go_at_call 47
              refine (cf _).mono ?_
              rintro e wq1 ⟨rfl, hb1⟩
              refine hK.out _ _ hb1 (fun _ => ?_)
              clear hK K
              have v0_0_1 := keepc hb1 v0_0
              have v1_0_1 := keepc hb1 v1_0
              have g0_0_1 := keepc hb1 g0_0
              have g1_0_1 := keepc hb1 g1_0
              have g2_0_1 := keepc hb1 g2_0
              have g3_0_1 := keepc hb1 g3_0
              have g4_0_1 := keepc hb1 g4_0
              have e0_0_1 := keepc hb1 e0_0
              have e1_0_1 := keepc hb1 e1_0
              have e2_0_1 := keepc hb1 e2_0
              have e3_0_1 := keepc hb1 e3_0
              have e4_0_1 := keepc hb1 e4_0
              refine wpAnyH_restart hb1 ?_
              refine wpAnyH_take (i := 4) (v := .bool false) nat4 (by kernel_rfl) (by kernel_rfl) (by kernel_rfl) (fun _ _ _ h => False.elim h) (Or.inl ⟨by rfl, ?_⟩) (Below.refl _ _) ?_
              · intro wx hSw
                go_simp
              simp only [Act.put, List.setIfInBounds_toArray, List.set_cons_zero, List.set_cons_succ]
              refine wpAnyH_take (i := 5) (v := .bool false) nat5 (by kernel_rfl) (by kernel_rfl) (by kernel_rfl) (fun _ _ _ h => False.elim h) (Or.inl ⟨by rfl, ?_⟩) (Below.refl _ _) ?_
              · intro wx hSw
                go_simp
              simp only [Act.put, List.setIfInBounds_toArray, List.set_cons_zero, List.set_cons_succ]
              refine wpAnyH_take (i := 6) (v := .int .i64 ((j : Int) + 1)) nat6 (by kernel_rfl) (by kernel_rfl) (by kernel_rfl) (fun _ _ _ h => False.elim h) (Or.inl ⟨by rfl, ?_⟩) (Below.refl _ _) ?_
              · intro wx hSw
                go_simp
              simp only [Act.put, List.setIfInBounds_toArray, List.set_cons_zero, List.set_cons_succ]
              refine wpAnyH_take (i := 7) (v := .bool true) nat7 (by kernel_rfl) (by kernel_rfl) (by kernel_rfl) (fun _ _ _ h => False.elim h) (Or.inl ⟨by rfl, ?_⟩) (Below.refl _ _) ?_
              · intro wx hSw
                go_simp
              simp only [Act.put, List.setIfInBounds_toArray, List.set_cons_zero, List.set_cons_succ]
              refine wpAnyH_take (i := 8) (v := .bool true) nat8 (by kernel_rfl) (by kernel_rfl) (by kernel_rfl) (fun _ _ _ h => False.elim h) (Or.inl ⟨by rfl, ?_⟩) (Below.refl _ _) ?_
              · intro wx hSw
                go_simp
              simp only [Act.put, List.setIfInBounds_toArray, List.set_cons_zero, List.set_cons_succ]
              refine wpAnyH_take (i := 9) (v := .pointer (some ⟨w.heap.size, 0, none⟩)) nat9 (by kernel_rfl) (by kernel_rfl) (by kernel_rfl) (fun _ _ _ h => False.elim h) (Or.inl ⟨by rfl, ?_⟩) (Below.refl _ _) ?_
              · intro wx hSw
                go_simp
              simp only [Act.put, List.setIfInBounds_toArray, List.set_cons_zero, List.set_cons_succ]
              refine wpAnyH_take (i := 10) (v := .slice (some ⟨b, off, none⟩) c.n0 p0) nat10 (by kernel_rfl) (by kernel_rfl) (by kernel_rfl) (fun _ _ _ h => False.elim h) (Or.inl ⟨by rfl, ?_⟩) (Below.refl _ _) ?_
              · intro wx hSw
                have hx : Below wq1.heap.size wq1 wx := hSw
                have e0 := keepc hx v0_0_1
                go_simp
              simp only [Act.put, List.setIfInBounds_toArray, List.set_cons_zero, List.set_cons_succ]
              refine wpAnyH_take (i := 11) (v := .int .i64 ((j : Int) + 1)) nat11 (by kernel_rfl) (by kernel_rfl) (by kernel_rfl) (fun _ _ _ h => False.elim h) (Or.inl ⟨by rfl, ?_⟩) (Below.refl _ _) ?_
              · intro wx hSw
                go_simp
              simp only [Act.put, List.setIfInBounds_toArray, List.set_cons_zero, List.set_cons_succ]
              refine wpAnyH_take (i := 12) (v := .int .i64 (j : Int)) nat12 (by kernel_rfl) (by kernel_rfl) (by kernel_rfl) (fun _ _ _ h => False.elim h) (Or.inl ⟨by rfl, ?_⟩) (Below.refl _ _) ?_
              · intro wx hSw
                go_simp
              simp only [Act.put, List.setIfInBounds_toArray, List.set_cons_zero, List.set_cons_succ]
              refine wpAnyH_take (i := 13) (v := .pointer (some ⟨b, off + j * 5, none⟩)) nat13 (by kernel_rfl) (by kernel_rfl) (by kernel_rfl) (fun _ _ _ h => False.elim h) (Or.inl ⟨by rfl, ?_⟩) (Below.refl _ _) ?_
              · intro wx hSw
                go_simp
              simp only [Act.put, List.setIfInBounds_toArray, List.set_cons_zero, List.set_cons_succ]
              refine wpAnyH_take (i := 14) (v := .agg #[.int .i64 (c.r0.N j), .int .i64 (c.r0.L j), .string (c.r0.F j), .string (c.r0.Z j), .int .i64 (c.r0.C j)]) nat14 (by kernel_rfl) (by kernel_rfl) (by kernel_rfl) (fun _ _ _ h => False.elim h) (Or.inl ⟨by rfl, ?_⟩) (Below.refl _ _) ?_
              · intro wx hSw
                have hx : Below wq1.heap.size wq1 wx := hSw
                have e0 := keepc hx e0_0_1
                have e1 := keepc hx e1_0_1
                have e2 := keepc hx e2_0_1
                have e3 := keepc hx e3_0_1
                have e4 := keepc hx e4_0_1
                go_simp
              simp only [Act.put, List.setIfInBounds_toArray, List.set_cons_zero, List.set_cons_succ]
              refine wpAnyH_take (i := 15) (v := .agg #[.int .i64 (c.r0.N (j + 1)), .int .i64 (c.r0.L (j + 1)), .string (c.r0.F (j + 1)), .string (c.r0.Z (j + 1)), .int .i64 (c.r0.C (j + 1))]) nat15 (by kernel_rfl) (by kernel_rfl) (by kernel_rfl) (fun _ _ _ h => False.elim h) (Or.inl ⟨by rfl, ?_⟩) (Below.refl _ _) ?_
              · intro wx hSw
                have hx : Below wq1.heap.size wq1 wx := hSw
                have e0 := keepc hx g0_0_1
                have e1 := keepc hx g1_0_1
                have e2 := keepc hx g2_0_1
                have e3 := keepc hx g3_0_1
                have e4 := keepc hx g4_0_1
                go_simp
              simp only [Act.put, List.setIfInBounds_toArray, List.set_cons_zero, List.set_cons_succ]
              refine wpAnyH_ready (rs := [16]) (by kernel_rfl) (by simp) ?_
              refine AllReadyH.cons nat16 (fun K hK => ?_) AllReadyH.nil
              go_simp
              go_at_call 48
              refine (cm _).mono ?_
              rintro e wq2 ⟨rfl, hb2⟩
              refine hK.out _ _ hb2 (fun _ => ?_)
              clear hK K
              have v0_0_1_2 := keepc hb2 v0_0_1
              have v1_0_1_2 := keepc hb2 v1_0_1
              have g0_0_1_2 := keepc hb2 g0_0_1
              have g1_0_1_2 := keepc hb2 g1_0_1
              have g2_0_1_2 := keepc hb2 g2_0_1
              have g3_0_1_2 := keepc hb2 g3_0_1
              have g4_0_1_2 := keepc hb2 g4_0_1
              have e0_0_1_2 := keepc hb2 e0_0_1
              have e1_0_1_2 := keepc hb2 e1_0_1
              have e2_0_1_2 := keepc hb2 e2_0_1
              have e3_0_1_2 := keepc hb2 e3_0_1
              have e4_0_1_2 := keepc hb2 e4_0_1
              refine wpAnyH_restart hb2 ?_
              refine wpAnyH_take (i := 17) (v := .bool true) nat17 (by kernel_rfl) (by kernel_rfl) (by kernel_rfl) (fun _ _ _ h => False.elim h) (Or.inl ⟨by rfl, ?_⟩) (Below.refl _ _) ?_
              · intro wx hSw
                go_simp
              simp only [Act.put, List.setIfInBounds_toArray, List.set_cons_zero, List.set_cons_succ]
              refine wpAnyH_take (i := 18) (v := .bool true) nat18 (by kernel_rfl) (by kernel_rfl) (by kernel_rfl) (fun _ _ _ h => False.elim h) (Or.inl ⟨by rfl, ?_⟩) (Below.refl _ _) ?_
              · intro wx hSw
                go_simp
              simp only [Act.put, List.setIfInBounds_toArray, List.set_cons_zero, List.set_cons_succ]
              refine wpAnyH_take (i := 19) (v := .bool true) nat19 (by kernel_rfl) (by kernel_rfl) (by kernel_rfl) (fun _ _ _ h => False.elim h) (Or.inl ⟨by rfl, ?_⟩) (Below.refl _ _) ?_
              · intro wx hSw
                go_simp
              simp only [Act.put, List.setIfInBounds_toArray, List.set_cons_zero, List.set_cons_succ]
              refine wpAnyH_done (by kernel_rfl) ?_ _
              refine NoPanic.normal ?_
              have HBL : Below W6.heap.size W6 wq2 := ((hb0).trans (hb1.mono (hb0).size)).trans (hb2.mono ((hb0).trans (hb1.mono (hb0).size)).size)
              have HW7 := hide (HW6.out.trans (HBL.mono HW6.out.size))
              clear HBL HW6
              clear v0_0_1_2 v1_0_1_2 g0_0_1_2 g1_0_1_2 g2_0_1_2 g3_0_1_2 g4_0_1_2 e0_0_1_2 e1_0_1_2 e2_0_1_2 e3_0_1_2 e4_0_1_2
              go_wp2
              go_ret
              exact ⟨ret_boolE HV.out, below_of_alloc HW7.out⟩
            | true =>
              have cm := fun wx => (hfa.trans hah) ▸ impl_mayFollow (c.r0.N j) (c.r0.L j) (c.r0.F j) (c.r0.Z j) (c.r0.C j) (c.r0.N (j + 1)) (c.r0.L (j + 1)) (c.r0.F (j + 1)) (c.r0.Z (j + 1)) (c.r0.C (j + 1)) wx
              have cf := fun wx => (show fileB (c.r0.N (j + 1)) (c.r0.L (j + 1)) (c.r0.F (j + 1)) (c.r0.Z (j + 1)) (c.r0.C (j + 1)) c.x1 = true from hfl) ▸ impl_fileOk (c.r0.N (j + 1)) (c.r0.L (j + 1)) (c.r0.F (j + 1)) (c.r0.Z (j + 1)) (c.r0.C (j + 1)) c.x1 wx
              have hst : stepB c.r0 c.x1 (j + 1) = true := by unfold stepB; rw [hfl, Nat.add_sub_cancel, hah]; rfl
              have HK2 : Hid (∀ i, i < (j + 1) + 1 → stepB c.r0 c.x1 i = true) := fun i hi => by
                rcases Nat.lt_or_eq_of_le (Nat.le_of_lt_succ hi) with h | h
                · exact HK.out i h
                · subst h; exact hst
              clear hfl hwB hst hah hfa hlv hlj hkp
              have hb6 := below_one wr (.cells #[.int .i64 (c.r0.N (j + 1)), .int .i64 (c.r0.L (j + 1)), .string (c.r0.F (j + 1)), .string (c.r0.Z (j + 1)), .int .i64 (c.r0.C (j + 1))] 59)
              have v06 := keepc hb6 v0
              have v16 := keepc hb6 v1
              have e06 := keepc hb6 e0
              have e16 := keepc hb6 e1
              have e26 := keepc hb6 e2
              have e36 := keepc hb6 e3
              have e46 := keepc hb6 e4
              have g0 : (wr.alloc (.cells #[.int .i64 (c.r0.N (j + 1)), .int .i64 (c.r0.L (j + 1)), .string (c.r0.F (j + 1)), .string (c.r0.Z (j + 1)), .int .i64 (c.r0.C (j + 1))] 59)).cell? ⟨wr.heap.size, 0, none⟩ = some (.int .i64 (c.r0.N (j + 1))) := by simp
              have g1 : (wr.alloc (.cells #[.int .i64 (c.r0.N (j + 1)), .int .i64 (c.r0.L (j + 1)), .string (c.r0.F (j + 1)), .string (c.r0.Z (j + 1)), .int .i64 (c.r0.C (j + 1))] 59)).cell? ⟨wr.heap.size, 1, none⟩ = some (.int .i64 (c.r0.L (j + 1))) := by simp
              have g2 : (wr.alloc (.cells #[.int .i64 (c.r0.N (j + 1)), .int .i64 (c.r0.L (j + 1)), .string (c.r0.F (j + 1)), .string (c.r0.Z (j + 1)), .int .i64 (c.r0.C (j + 1))] 59)).cell? ⟨wr.heap.size, 2, none⟩ = some (.string (c.r0.F (j + 1))) := by simp
              have g3 : (wr.alloc (.cells #[.int .i64 (c.r0.N (j + 1)), .int .i64 (c.r0.L (j + 1)), .string (c.r0.F (j + 1)), .string (c.r0.Z (j + 1)), .int .i64 (c.r0.C (j + 1))] 59)).cell? ⟨wr.heap.size, 3, none⟩ = some (.string (c.r0.Z (j + 1))) := by simp
              have g4 : (wr.alloc (.cells #[.int .i64 (c.r0.N (j + 1)), .int .i64 (c.r0.L (j + 1)), .string (c.r0.F (j + 1)), .string (c.r0.Z (j + 1)), .int .i64 (c.r0.C (j + 1))] 59)).cell? ⟨wr.heap.size, 4, none⟩ = some (.int .i64 (c.r0.C (j + 1))) := by simp
              have HW6 := hide (HW.out.trans (hb6.mono HW.out.size))
              go_wp2_with fail
              clear v0 v1 c0 c1 c2 c3 c4 e0 e1 e2 e3 e4
              generalize wr.alloc (.cells #[.int .i64 (c.r0.N (j + 1)), .int .i64 (c.r0.L (j + 1)), .string (c.r0.F (j + 1)), .string (c.r0.Z (j + 1)), .int .i64 (c.r0.C (j + 1))] 59) = W6 at hb6 v06 v16 g0 g1 g2 g3 g4 e06 e16 e26 e36 e46 HW6 ⊢
              have v0 := v06
              have v1 := v16
              have e0 := e06
              have e1 := e16
              have e2 := e26
              have e3 := e36
              have e4 := e46
              clear v06 v16 e06 e16 e26 e36 e46
              clear hb6
              refine wp_region_noPanic ?_
              refine wp_region_held_drew (S := fun x => Below W6.heap.size W6 x) (by kernel_rfl) (Below.refl _ _).drew (fun hH => ?_)
              have hb0 : Below W6.heap.size W6 W6.drew := hH
              clear hH
              have v0_0 := keepc hb0 v0
              have v1_0 := keepc hb0 v1
              have g0_0 := keepc hb0 g0
              have g1_0 := keepc hb0 g1
              have g2_0 := keepc hb0 g2
              have g3_0 := keepc hb0 g3
              have g4_0 := keepc hb0 g4
              have e0_0 := keepc hb0 e0
              have e1_0 := keepc hb0 e1
              have e2_0 := keepc hb0 e2
              have e3_0 := keepc hb0 e3
              have e4_0 := keepc hb0 e4
              generalize W6.drew = wq0 at hb0 v0_0 v1_0 g0_0 g1_0 g2_0 g3_0 g4_0 e0_0 e1_0 e2_0 e3_0 e4_0 ⊢
              refine wpAnyH_restart hb0 ?_
              refine wpAnyH_take (i := 0) (v := .agg #[.int .i64 (c.r0.N (j + 1)), .int .i64 (c.r0.L (j + 1)), .string (c.r0.F (j + 1)), .string (c.r0.Z (j + 1)), .int .i64 (c.r0.C (j + 1))]) nat0 (by kernel_rfl) (by kernel_rfl) (by kernel_rfl) (fun _ _ _ h => False.elim h) (Or.inl ⟨by rfl, ?_⟩) (Below.refl _ _) ?_
              · intro wx hSw
                have hx : Below wq0.heap.size wq0 wx := hSw
                have e0 := keepc hx g0_0
                have e1 := keepc hx g1_0
                have e2 := keepc hx g2_0
                have e3 := keepc hx g3_0
                have e4 := keepc hx g4_0
                go_simp
              simp only [Act.put, List.setIfInBounds_toArray, List.set_cons_zero, List.set_cons_succ]
              refine wpAnyH_take (i := 1) (v := .pointer (some ⟨w.heap.size, 1, none⟩)) nat1 (by kernel_rfl) (by kernel_rfl) (by kernel_rfl) (fun _ _ _ h => False.elim h) (Or.inl ⟨by rfl, ?_⟩) (Below.refl _ _) ?_
              · intro wx hSw
                go_simp
              simp only [Act.put, List.setIfInBounds_toArray, List.set_cons_zero, List.set_cons_succ]
              refine wpAnyH_take (i := 2) (v := .int .i64 c.x1) nat2 (by kernel_rfl) (by kernel_rfl) (by kernel_rfl) (fun _ _ _ h => False.elim h) (Or.inl ⟨by rfl, ?_⟩) (Below.refl _ _) ?_
              · intro wx hSw
                have hx : Below wq0.heap.size wq0 wx := hSw
                have e0 := keepc hx v1_0
                go_simp
              simp only [Act.put, List.setIfInBounds_toArray, List.set_cons_zero, List.set_cons_succ]
              refine wpAnyH_ready (rs := [3]) (by kernel_rfl) (by simp) ?_
              refine AllReadyH.cons nat3 (fun K hK => ?_) AllReadyH.nil
              go_simp
              go_at_call 47
              refine (cf _).mono ?_
              rintro e wq1 ⟨rfl, hb1⟩
              refine hK.out _ _ hb1 (fun _ => ?_)
              clear hK K
              have v0_0_1 := keepc hb1 v0_0
              have v1_0_1 := keepc hb1 v1_0
              have g0_0_1 := keepc hb1 g0_0
              have g1_0_1 := keepc hb1 g1_0
              have g2_0_1 := keepc hb1 g2_0
              have g3_0_1 := keepc hb1 g3_0
              have g4_0_1 := keepc hb1 g4_0
              have e0_0_1 := keepc hb1 e0_0
              have e1_0_1 := keepc hb1 e1_0
              have e2_0_1 := keepc hb1 e2_0
              have e3_0_1 := keepc hb1 e3_0
              have e4_0_1 := keepc hb1 e4_0
              refine wpAnyH_restart hb1 ?_
              refine wpAnyH_take (i := 4) (v := .bool false) nat4 (by kernel_rfl) (by kernel_rfl) (by kernel_rfl) (fun _ _ _ h => False.elim h) (Or.inl ⟨by rfl, ?_⟩) (Below.refl _ _) ?_
              · intro wx hSw
                go_simp
              simp only [Act.put, List.setIfInBounds_toArray, List.set_cons_zero, List.set_cons_succ]
              refine wpAnyH_take (i := 5) (v := .bool false) nat5 (by kernel_rfl) (by kernel_rfl) (by kernel_rfl) (fun _ _ _ h => False.elim h) (Or.inl ⟨by rfl, ?_⟩) (Below.refl _ _) ?_
              · intro wx hSw
                go_simp
              simp only [Act.put, List.setIfInBounds_toArray, List.set_cons_zero, List.set_cons_succ]
              refine wpAnyH_take (i := 6) (v := .int .i64 ((j : Int) + 1)) nat6 (by kernel_rfl) (by kernel_rfl) (by kernel_rfl) (fun _ _ _ h => False.elim h) (Or.inl ⟨by rfl, ?_⟩) (Below.refl _ _) ?_
              · intro wx hSw
                go_simp
              simp only [Act.put, List.setIfInBounds_toArray, List.set_cons_zero, List.set_cons_succ]
              refine wpAnyH_take (i := 7) (v := .bool true) nat7 (by kernel_rfl) (by kernel_rfl) (by kernel_rfl) (fun _ _ _ h => False.elim h) (Or.inl ⟨by rfl, ?_⟩) (Below.refl _ _) ?_
              · intro wx hSw
                go_simp
              simp only [Act.put, List.setIfInBounds_toArray, List.set_cons_zero, List.set_cons_succ]
              refine wpAnyH_take (i := 8) (v := .bool true) nat8 (by kernel_rfl) (by kernel_rfl) (by kernel_rfl) (fun _ _ _ h => False.elim h) (Or.inl ⟨by rfl, ?_⟩) (Below.refl _ _) ?_
              · intro wx hSw
                go_simp
              simp only [Act.put, List.setIfInBounds_toArray, List.set_cons_zero, List.set_cons_succ]
              refine wpAnyH_take (i := 9) (v := .pointer (some ⟨w.heap.size, 0, none⟩)) nat9 (by kernel_rfl) (by kernel_rfl) (by kernel_rfl) (fun _ _ _ h => False.elim h) (Or.inl ⟨by rfl, ?_⟩) (Below.refl _ _) ?_
              · intro wx hSw
                go_simp
              simp only [Act.put, List.setIfInBounds_toArray, List.set_cons_zero, List.set_cons_succ]
              refine wpAnyH_take (i := 10) (v := .slice (some ⟨b, off, none⟩) c.n0 p0) nat10 (by kernel_rfl) (by kernel_rfl) (by kernel_rfl) (fun _ _ _ h => False.elim h) (Or.inl ⟨by rfl, ?_⟩) (Below.refl _ _) ?_
              · intro wx hSw
                have hx : Below wq1.heap.size wq1 wx := hSw
                have e0 := keepc hx v0_0_1
                go_simp
              simp only [Act.put, List.setIfInBounds_toArray, List.set_cons_zero, List.set_cons_succ]
              refine wpAnyH_take (i := 11) (v := .int .i64 ((j : Int) + 1)) nat11 (by kernel_rfl) (by kernel_rfl) (by kernel_rfl) (fun _ _ _ h => False.elim h) (Or.inl ⟨by rfl, ?_⟩) (Below.refl _ _) ?_
              · intro wx hSw
                go_simp
              simp only [Act.put, List.setIfInBounds_toArray, List.set_cons_zero, List.set_cons_succ]
              refine wpAnyH_take (i := 12) (v := .int .i64 (j : Int)) nat12 (by kernel_rfl) (by kernel_rfl) (by kernel_rfl) (fun _ _ _ h => False.elim h) (Or.inl ⟨by rfl, ?_⟩) (Below.refl _ _) ?_
              · intro wx hSw
                go_simp
              simp only [Act.put, List.setIfInBounds_toArray, List.set_cons_zero, List.set_cons_succ]
              refine wpAnyH_take (i := 13) (v := .pointer (some ⟨b, off + j * 5, none⟩)) nat13 (by kernel_rfl) (by kernel_rfl) (by kernel_rfl) (fun _ _ _ h => False.elim h) (Or.inl ⟨by rfl, ?_⟩) (Below.refl _ _) ?_
              · intro wx hSw
                go_simp
              simp only [Act.put, List.setIfInBounds_toArray, List.set_cons_zero, List.set_cons_succ]
              refine wpAnyH_take (i := 14) (v := .agg #[.int .i64 (c.r0.N j), .int .i64 (c.r0.L j), .string (c.r0.F j), .string (c.r0.Z j), .int .i64 (c.r0.C j)]) nat14 (by kernel_rfl) (by kernel_rfl) (by kernel_rfl) (fun _ _ _ h => False.elim h) (Or.inl ⟨by rfl, ?_⟩) (Below.refl _ _) ?_
              · intro wx hSw
                have hx : Below wq1.heap.size wq1 wx := hSw
                have e0 := keepc hx e0_0_1
                have e1 := keepc hx e1_0_1
                have e2 := keepc hx e2_0_1
                have e3 := keepc hx e3_0_1
                have e4 := keepc hx e4_0_1
                go_simp
              simp only [Act.put, List.setIfInBounds_toArray, List.set_cons_zero, List.set_cons_succ]
              refine wpAnyH_take (i := 15) (v := .agg #[.int .i64 (c.r0.N (j + 1)), .int .i64 (c.r0.L (j + 1)), .string (c.r0.F (j + 1)), .string (c.r0.Z (j + 1)), .int .i64 (c.r0.C (j + 1))]) nat15 (by kernel_rfl) (by kernel_rfl) (by kernel_rfl) (fun _ _ _ h => False.elim h) (Or.inl ⟨by rfl, ?_⟩) (Below.refl _ _) ?_
              · intro wx hSw
                have hx : Below wq1.heap.size wq1 wx := hSw
                have e0 := keepc hx g0_0_1
                have e1 := keepc hx g1_0_1
                have e2 := keepc hx g2_0_1
                have e3 := keepc hx g3_0_1
                have e4 := keepc hx g4_0_1
                go_simp
              simp only [Act.put, List.setIfInBounds_toArray, List.set_cons_zero, List.set_cons_succ]
              refine wpAnyH_ready (rs := [16]) (by kernel_rfl) (by simp) ?_
              refine AllReadyH.cons nat16 (fun K hK => ?_) AllReadyH.nil
              go_simp
              go_at_call 48
              refine (cm _).mono ?_
              rintro e wq2 ⟨rfl, hb2⟩
              refine hK.out _ _ hb2 (fun _ => ?_)
              clear hK K
              have v0_0_1_2 := keepc hb2 v0_0_1
              have v1_0_1_2 := keepc hb2 v1_0_1
              have g0_0_1_2 := keepc hb2 g0_0_1
              have g1_0_1_2 := keepc hb2 g1_0_1
              have g2_0_1_2 := keepc hb2 g2_0_1
              have g3_0_1_2 := keepc hb2 g3_0_1
              have g4_0_1_2 := keepc hb2 g4_0_1
              have e0_0_1_2 := keepc hb2 e0_0_1
              have e1_0_1_2 := keepc hb2 e1_0_1
              have e2_0_1_2 := keepc hb2 e2_0_1
              have e3_0_1_2 := keepc hb2 e3_0_1
              have e4_0_1_2 := keepc hb2 e4_0_1
              refine wpAnyH_restart hb2 ?_
              refine wpAnyH_take (i := 17) (v := .bool false) nat17 (by kernel_rfl) (by kernel_rfl) (by kernel_rfl) (fun _ _ _ h => False.elim h) (Or.inl ⟨by rfl, ?_⟩) (Below.refl _ _) ?_
              · intro wx hSw
                go_simp
              simp only [Act.put, List.setIfInBounds_toArray, List.set_cons_zero, List.set_cons_succ]
              refine wpAnyH_take (i := 18) (v := .bool false) nat18 (by kernel_rfl) (by kernel_rfl) (by kernel_rfl) (fun _ _ _ h => False.elim h) (Or.inl ⟨by rfl, ?_⟩) (Below.refl _ _) ?_
              · intro wx hSw
                go_simp
              simp only [Act.put, List.setIfInBounds_toArray, List.set_cons_zero, List.set_cons_succ]
              refine wpAnyH_take (i := 19) (v := .bool false) nat19 (by kernel_rfl) (by kernel_rfl) (by kernel_rfl) (fun _ _ _ h => False.elim h) (Or.inl ⟨by rfl, ?_⟩) (Below.refl _ _) ?_
              · intro wx hSw
                go_simp
              simp only [Act.put, List.setIfInBounds_toArray, List.set_cons_zero, List.set_cons_succ]
              refine wpAnyH_done (by kernel_rfl) ?_ _
              refine NoPanic.normal ?_
              have HBL : Below W6.heap.size W6 wq2 := ((hb0).trans (hb1.mono (hb0).size)).trans (hb2.mono ((hb0).trans (hb1.mono (hb0).size)).size)
              have HW7 := hide (HW6.out.trans (HBL.mono HW6.out.size))
              clear HBL HW6
              clear v0_0_1_2 v1_0_1_2 g0_0_1_2 g1_0_1_2 g2_0_1_2 g3_0_1_2 g4_0_1_2 e0_0_1_2 e1_0_1_2 e2_0_1_2 e3_0_1_2 e4_0_1_2
              go_wp2
              exact ⟨⟨(j + 1) + 1, by go_num, by omega, HK2, HW7⟩, by simp [intOf]; omega⟩
      · obtain rfl : k = c.n0 := by omega
        have HV := hide (versB_all HR.out HK.out).symm
        have hnl := numsL_len c.r0 c.n0
        have hn30 := HR.out.1
        have hlti : ¬ ((c.n0 : Int) < (c.n0 : Int)) := by omega
        go_wp2_with fail
        clear v0 v1
        refine (impl_numsOf a0 c.n0 p0 c.r0 wr hl ((HS.out.below hwB).mono hz)).mono ?_
        rintro e w1 ⟨⟨u, rfl, hu⟩, hb1⟩
        have HU := hide hu.src
        have HW1 := hide (hwB.trans (hb1.mono hz))
        clear hu hb1 hwB
        go_wp2_with fail
        refine (impl_differI u (numsL c.r0 c.n0) w1 HU.out (by omega)).mono ?_
        rintro e w2 ⟨rfl, hb2⟩
        have HW2 := hide (HW1.out.trans (hb2.mono HW1.out.size))
        clear hb2
        go_wp2
        go_ret
        exact ⟨ret_boolE HV.out, HW2.out⟩
  · have HV : Hid (false = versB c) := (versB_no hr).symm
    by_cases q0 : (30 : Int) < (c.n0 : Int)
    · go_enter Try.func27, Try.ntmps27
      go_wp2
      go_ret
      exact ⟨ret_boolE HV.out, HBb.out⟩
    by_cases q1 : c.x1 < 1
    · go_enter Try.func27, Try.ntmps27
      go_wp2
      go_ret
      exact ⟨ret_boolE HV.out, HBb.out⟩
    by_cases q2 : (1000000 : Int) < c.x1
    · go_enter Try.func27, Try.ntmps27
      go_wp2
      go_ret
      exact ⟨ret_boolE HV.out, HBb.out⟩
    by_cases q3 : c.x2 < 0
    · go_enter Try.func27, Try.ntmps27
      go_wp2
      go_ret
      exact ⟨ret_boolE HV.out, HBb.out⟩
    by_cases q4 : (1000000000000 : Int) < c.x2
    · go_enter Try.func27, Try.ntmps27
      go_wp2
      go_ret
      exact ⟨ret_boolE HV.out, HBb.out⟩
    by_cases q5 : c.x3 < 0
    · go_enter Try.func27, Try.ntmps27
      go_wp2
      go_ret
      exact ⟨ret_boolE HV.out, HBb.out⟩
    have q6 : c.x1 ≤ c.x3 := by omega
    go_enter Try.func27, Try.ntmps27
    go_wp2
    go_ret
    exact ⟨ret_boolE HV.out, HBb.out⟩

end Go.Proofs.Ytplbhgcibfajaaa
