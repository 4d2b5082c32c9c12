/- The marks in a row of Int64S: laid and looked for. -/
import Derived.Test.YtplbhgcibfajaaaMark
import Derived.Test.YtplbhgcibfajaaaEdit
import Derived.Test.YtplbhgcibfajaaaMkMeta
import Derived.Test.YtplbhgcibfajaaaMine
import Derived.Test.YtplbhgcibfajaaaApJ
import Derived.Test.YtplbhgcibfajaaaMkBoxVersion
import Derived.Test.YtplbhgcibfajaaaBox
import Derived.Test.YtplbhgcibfajaaaNth
import Derived.Test.YtplbhgcibfajaaaReg
import Derived.Deep.RegionHeld3
import Derived.Deep.DeepCutAuto
namespace Go.Proofs.Ytplbhgcibfajaaa
set_option maxRecDepth 100000
open Go.RowKit

def kdInt64S (j : Nat) : Bool := decide (j % 1 = 0)
theorem kdInt64S_0 (k : Nat) : kdInt64S (k) = true := by unfold kdInt64S; simp <;> omega

set_option maxHeartbeats 2000000 in
theorem laws_markInt64S (K0 : Nat) (kv : Int) (hkv : kv = (K0 : Int)) (hK : 1 ≤ K0 ∧ K0 ≤ 50000000) (a : Option Addr) (len cap g : Nat) (w : World) (hl : len ≤ 1048576) (hg : len = 0 ∨ a = some ⟨g, 0, none⟩) (hw : ∀ j, j < len → (∃ v, w.cell? ⟨g, j, none⟩ = some v) ∧ w.frozen? ⟨g, j, none⟩ = false) :
    Calls Try.prog 41 #[.slice a len cap, .int .i64 kv] w fun e w' => e = .returned (.int .i64 ((K0 + len : Nat) : Int)) ∧ Mk kdInt64S g (len) K0 (len) w w' := by
  have H0 : Hid (Mk kdInt64S g (len) K0 (0) w w) := Mk.start hw
  clear hw
  obtain ⟨hK1, hK2⟩ := hK
  have hK3 : (K0 : Int) ≤ 50000000 := by omega
  have hK4 : (1 : Int) ≤ (K0 : Int) := by omega
  subst hkv
  go_enter Try.func41, Try.ntmps41
  go_wp2
  go_loopw [1, 5] (fun q i wr => ∃ k : Nat, q = .int .i64 ((K0 + k : Nat) : Int) ∧ i = .int .i64 k ∧ k ≤ len ∧ Hid (Mk kdInt64S g (len) K0 (k) w wr)) (fun _ i _ => len - (intOf i).toNat)
  case atStart => exact ⟨0, by simp, rfl, by omega, H0⟩
  case round =>
    obtain ⟨k, rfl, rfl, hk, HR⟩ := hrel
    clear H0
    by_cases hlt : k < len
    · obtain rfl : a = some ⟨g, 0, none⟩ := by
        rcases hg with h | h
        · omega
        · exact h
      have hki : (k : Int) < (len : Int) := by omega
      have hk1 : (k : Int) ≤ 1048576 := by omega
      obtain ⟨⟨v0, c0⟩, f0⟩ := HR.out.wr (k) (by omega)
      have hnx : k + 1 = (k + 1) := by omega
      have HF := fun (y : World) (h : Mk kdInt64S g (len) K0 (k + 1) w y) => (show Hid (Mk kdInt64S g (len) K0 ((k + 1)) w y) from hnx ▸ h)
      go_wp2
      exact ⟨⟨k + 1, by first | go_num | (congr 1; push_cast; omega), by go_num, by omega, HF _ (HR.out.step (c := k) (by omega) (mk_int (kdInt64S_0 k) (by push_cast; omega)))⟩, by simp [intOf]; omega⟩
    · obtain rfl : k = len := by omega
      go_wp2
      go_ret
      exact ⟨by first | rfl | (congr 2; push_cast; omega), HR.out⟩

end Go.Proofs.Ytplbhgcibfajaaa

/- The marks that the laws lay into an edit: two rows, the marks going on; an edit as Apply of the program reads it. -/
namespace Go.Proofs.Ytplbhgcibfajaaa
set_option maxRecDepth 100000
open Go.RowKit Go.Deep

set_option linter.unusedVariables false in
theorem laws_markEdit (K0 : Nat) (kv : Int) (hkv : kv = (K0 : Int)) (hK : 1 ≤ K0 ∧ K0 ≤ 30000000) (a0 : Option Addr) (p0 g0 : Nat) (a1 : Option Addr) (p1 g1 : Nat) (c : EditC) (w : World) (hl : c.Fit) (hg0 : c.n0 = 0 ∨ a0 = some ⟨g0, 0, none⟩) (hw0 : ∀ j, j < c.n0 * 5 → (∃ v, w.cell? ⟨g0, j, none⟩ = some v) ∧ w.frozen? ⟨g0, j, none⟩ = false)
    (hg1 : c.n1 = 0 ∨ a1 = some ⟨g1, 0, none⟩) (hw1 : ∀ j, j < c.n1 → (∃ v, w.cell? ⟨g1, j, none⟩ = some v) ∧ w.frozen? ⟨g1, j, none⟩ = false) (hne : g1 ≠ g0) (h0l : g0 < w.heap.size) (h1l : g1 < w.heap.size) :
    Calls Try.prog 16 #[.agg #[.slice a0 c.n0 p0, .slice a1 c.n1 p1, .int .i64 c.x2, .int .i64 c.x3, .int .i64 c.x4], .int .i64 kv] w fun e w' => e = .returned (.int .i64 ((K0 + c.n0 * 5 + c.n1 : Nat) : Int)) ∧ ∃ wm, Mv g0 w wm ∧ Mv g1 wm w' := by
  obtain ⟨hl0, hl1⟩ := hl
  have hb := below_one w (.cells #[.slice a0 c.n0 p0, .slice a1 c.n1 p1, .int .i64 c.x2, .int .i64 c.x3, .int .i64 c.x4] 37)
  have hB : BoxIs (w.alloc (.cells #[.slice a0 c.n0 p0, .slice a1 c.n1 p1, .int .i64 c.x2, .int .i64 c.x3, .int .i64 c.x4] 37)) w.heap.size #[.slice a0 c.n0 p0, .slice a1 c.n1 p1, .int .i64 c.x2, .int .i64 c.x3, .int .i64 c.x4] 37 := BoxIs.new _ _ _ rfl
  have up : ∀ g n, g < w.heap.size → (∀ j, j < n → (∃ v, w.cell? ⟨g, j, none⟩ = some v) ∧ w.frozen? ⟨g, j, none⟩ = false) → ∀ j, j < n → (∃ v, (w.alloc (.cells #[.slice a0 c.n0 p0, .slice a1 c.n1 p1, .int .i64 c.x2, .int .i64 c.x3, .int .i64 c.x4] 37)).cell? ⟨g, j, none⟩ = some v) ∧ (w.alloc (.cells #[.slice a0 c.n0 p0, .slice a1 c.n1 p1, .int .i64 c.x2, .int .i64 c.x3, .int .i64 c.x4] 37)).frozen? ⟨g, j, none⟩ = false := fun g n hg h j hj => by
    obtain ⟨⟨v, hv⟩, hf⟩ := h j hj
    exact ⟨⟨v, keepc hb hv⟩, (hb.frozen (p := ⟨g, j, none⟩) hg).trans hf⟩
  have hv0 := up g0 _ h0l hw0
  have hv1 := up g1 _ h1l hw1
  have HM := hide (Mv.of_below (g := g0) hb)
  have HB := hB.hid
  have hWl : w.heap.size < (w.alloc (.cells #[.slice a0 c.n0 p0, .slice a1 c.n1 p1, .int .i64 c.x2, .int .i64 c.x3, .int .i64 c.x4] 37)).heap.size := hB.lt
  subst hkv
  clear hw0 hw1 hb hB up
  go_enter Try.func16, Try.ntmps16
  go_wp2_with fail
  generalize w.alloc (.cells #[.slice a0 c.n0 p0, .slice a1 c.n1 p1, .int .i64 c.x2, .int .i64 c.x3, .int .i64 c.x4] 37) = W at hv0 hv1 HM HB hWl ⊢
  refine (laws_markMetaS K0 _ rfl ⟨hK.1, by omega⟩ a0 c.n0 p0 g0 W hl0 hg0 hv0).mono ?_
  rintro e w1 ⟨rfl, hM⟩
  have hmv := hM.mv
  have HM1 := hide (HM.out.trans hmv)
  have HB1 := (HB.out.mv hmv (by omega)).hid
  have hx1 : ∀ j, j < c.n1 → (∃ v, w1.cell? ⟨g1, j, none⟩ = some v) ∧ w1.frozen? ⟨g1, j, none⟩ = false := fun j hj => by
    obtain ⟨⟨v, hv⟩, hf⟩ := hv1 j hj
    exact ⟨⟨v, (hmv.cell (p := ⟨g1, j, none⟩) (Nat.lt_trans h1l hWl) hne).trans hv⟩, (hmv.frozen (p := ⟨g1, j, none⟩) (Nat.lt_trans h1l hWl) hne).trans hf⟩
  have hs1 := hmv.size
  clear hM hmv hv0 hv1 HM HB
  have k0 := HB1.out.cell 0
  have k1 := HB1.out.cell 1
  have k2 := HB1.out.cell 2
  have k3 := HB1.out.cell 3
  have k4 := HB1.out.cell 4
  go_wp2_with fail
  clear k0 k1 k2 k3 k4
  refine (laws_markInt64S (K0 + c.n0 * 5) _ rfl ⟨by omega, by omega⟩ a1 c.n1 p1 g1 w1 hl1 hg1 hx1).mono ?_
  rintro e w2 ⟨rfl, hM⟩
  have HM2 := hide hM.mv
  clear hM hx1
  go_wp2
  go_ret
  exact ⟨rfl, _, HM1.out, HM2.out⟩

/-- A row that an answer owns stays where a box of another type is written. -/
theorem Mine.setBox {w : World} {B : Nat} {ty t : TypeId} {k N : Nat} {a : Option Addr} {p n : Nat} {f : Nat → Value} {cs : Array Value} (h : Mine w B ty k a p n f) (hb : BoxIs w N cs t) (hne : t ≠ ty) (j : Nat) (v : Value) : Mine (w.setCell ⟨N, j, none⟩ v) B ty k a p n f := by
  rcases h with h | ⟨g, cur, ha, hB, hh, hn, hc⟩
  · exact .inl h
  · have hg : N ≠ g := fun e => by
      subst e
      have h1 : w.heap[N]? = some (.cells cs t) := hb
      rw [h1] at hh
      simp only [Option.some.injEq, Obj.cells.injEq] at hh
      exact hne hh.2.1
    exact .inr ⟨g, cur, ha, hB, (show BoxIs w g cur ty from hh).set_other (p := ⟨N, j, none⟩) hg v, hn, hc⟩

theorem EditSrc.is {w : World} {v : Value} {d : EditC} (h : EditSrc w v d) : EditIs w v d := by
  obtain ⟨b0, q0, b1, q1, rfl, h0, h1, _⟩ := h
  exact ⟨b0, q0, b1, q1, rfl, h0, h1⟩
theorem EditSrc.hid {w : World} {v : Value} {d : EditC} (h : EditSrc w v d) : Hid (EditSrc w v d) := h
theorem EditSrc.of_rows {w : World} {c : EditC} {g0 g1 : Nat} (h0 : w.rowIs g0 59 (c.n0 * 5) (metaCell c.r0)) (h1 : w.rowIs g1 2 c.n1 (fun i => .int .i64 (c.r1 i))) : EditSrc w (.agg #[.slice (some ⟨g0, 0, none⟩) c.n0 c.n0, .slice (some ⟨g1, 0, none⟩) c.n1 c.n1, .int .i64 c.x2, .int .i64 c.x3, .int .i64 c.x4]) c :=
  ⟨_, _, _, _, rfl, metaAt_row h0 h0.lt, intAt_row h1 h1.lt, .inr ⟨g1, c.n1, by rw [cutsL_len], h1.lt, fun i hi => by
    rw [cutsL_len] at hi
    have hc := h1.cell hi
    simpa [cutsL, List.getD, hi] using hc⟩⟩

theorem spec_ApplyO (v e : Value) (c : VersionC) (d : EditC) (w : World) (hf : c.Fit) (hg : d.Fit) (hv : VersionIs w v c) (he : EditIs w e d) :
    Calls Try.prog 9 #[v, e] w fun x w' => (∃ u, x = .returned (.tuple #[u, .bool (apB c d)]) ∧ VersionOwn w' w.heap.size u (apC c d)) ∧ Below w.heap.size w w' :=
  (spec_Apply v e c d w hf hg hv he).mono (by rintro x w' ⟨⟨u, hu, ho⟩, hb⟩; exact ⟨⟨u, hu, ho.own⟩, hb⟩)
theorem impl_ApplyO (v e : Value) (c : VersionC) (d : EditC) (w : World) (hf : c.Fit) (hg : d.Fit) (hv : VersionIs w v c) (he : EditSrc w e d) :
    Calls Try.prog 12 #[v, e] w fun x w' => (∃ u, x = .returned (.tuple #[u, .bool (apB c d)]) ∧ VersionOwn w' w.heap.size u (apC c d)) ∧ Below w.heap.size w w' :=
  (impl_Apply v e c d w hf hg hv he).mono (by rintro x w' ⟨⟨u, hu, ho⟩, hb⟩; exact ⟨⟨u, hu, ho.own⟩, hb⟩)

theorem apC_fit (c : VersionC) (d : EditC) : (apC c d).Fit := by
  unfold apC
  by_cases h : apB c d = true
  · rw [if_pos h]
    have hv : versB (apV c d) = true := by unfold apB at h; simp only [Bool.and_eq_true] at h; exact h.2
    have := (versB_sizes hv).1
    unfold VersionC.Fit
    omega
  · rw [if_neg h]
    show (0 : Nat) ≤ 1048576
    omega

end Go.Proofs.Ytplbhgcibfajaaa

/- The law on Apply. (By gen_law2.py.) -/
namespace Go.Proofs.Ytplbhgcibfajaaa
set_option maxRecDepth 100000
open Go.RowKit Go.Deep

set_option linter.unusedSimpArgs false in
set_option linter.unusedVariables false in
set_option maxHeartbeats 4000000 in
theorem walk_Apply {w : World} (v0 : Value) (hv0 : ArgVersion w v0) (v1 : Value) (hv1 : ArgEdit w v1) (_w : World) :
    Calls Try.prog 3 #[v0, v1] w fun e w' => e = .returned (.bool true) ∧ Below w.heap.size w w' := by
  obtain ⟨c0, hI0, hsm0⟩ := hv0
  obtain ⟨a0_0, p0_0, rfl, hr0_0⟩ := hI0
  obtain ⟨c1, hI1, hsm1⟩ := hv1
  obtain ⟨a1_0, p1_0, a1_1, p1_1, rfl, hr1_0, hr1_1⟩ := hI1
  have hB0 : Below w.heap.size w ((w.alloc (.cells #[.slice a0_0 c0.n0 p0_0, .int .i64 c0.x1, .int .i64 c0.x2, .int .i64 c0.x3] 24)).alloc (.cells #[.slice a1_0 c1.n0 p1_0, .slice a1_1 c1.n1 p1_1, .int .i64 c1.x2, .int .i64 c1.x3, .int .i64 c1.x4] 27)) := ((Below.refl _ _).alloc (Nat.le_refl _) _).alloc (by simp <;> omega) _
  have hK0 : BoxIs ((w.alloc (.cells #[.slice a0_0 c0.n0 p0_0, .int .i64 c0.x1, .int .i64 c0.x2, .int .i64 c0.x3] 24)).alloc (.cells #[.slice a1_0 c1.n0 p1_0, .slice a1_1 c1.n1 p1_1, .int .i64 c1.x2, .int .i64 c1.x3, .int .i64 c1.x4] 27)) (w.heap.size) #[.slice a0_0 c0.n0 p0_0, .int .i64 c0.x1, .int .i64 c0.x2, .int .i64 c0.x3] 24 := (BoxIs.new _ _ _ rfl).next ((Below.refl _ _).alloc (Nat.le_refl _) _)
  have hK1 : BoxIs ((w.alloc (.cells #[.slice a0_0 c0.n0 p0_0, .int .i64 c0.x1, .int .i64 c0.x2, .int .i64 c0.x3] 24)).alloc (.cells #[.slice a1_0 c1.n0 p1_0, .slice a1_1 c1.n1 p1_1, .int .i64 c1.x2, .int .i64 c1.x3, .int .i64 c1.x4] 27)) (w.heap.size + 1) #[.slice a1_0 c1.n0 p1_0, .slice a1_1 c1.n1 p1_1, .int .i64 c1.x2, .int .i64 c1.x3, .int .i64 c1.x4] 27 := BoxIs.new _ _ _ (by simp)
  have hV0 : VersionIs ((w.alloc (.cells #[.slice a0_0 c0.n0 p0_0, .int .i64 c0.x1, .int .i64 c0.x2, .int .i64 c0.x3] 24)).alloc (.cells #[.slice a1_0 c1.n0 p1_0, .slice a1_1 c1.n1 p1_1, .int .i64 c1.x2, .int .i64 c1.x3, .int .i64 c1.x4] 27)) (.agg #[.slice a0_0 c0.n0 p0_0, .int .i64 c0.x1, .int .i64 c0.x2, .int .i64 c0.x3]) c0 := (VersionIs.at_old ⟨_, _, rfl, hr0_0⟩ hB0)
  have hV1 : EditIs ((w.alloc (.cells #[.slice a0_0 c0.n0 p0_0, .int .i64 c0.x1, .int .i64 c0.x2, .int .i64 c0.x3] 24)).alloc (.cells #[.slice a1_0 c1.n0 p1_0, .slice a1_1 c1.n1 p1_1, .int .i64 c1.x2, .int .i64 c1.x3, .int .i64 c1.x4] 27)) (.agg #[.slice a1_0 c1.n0 p1_0, .slice a1_1 c1.n1 p1_1, .int .i64 c1.x2, .int .i64 c1.x3, .int .i64 c1.x4]) c1 := (EditIs.at_old ⟨_, _, _, _, rfl, hr1_0, hr1_1⟩ hB0)
  clear hr0_0 hr1_0 hr1_1
  go_enter Try.func3, Try.ntmps3
  go_wp2_with fail
  generalize hWW : (w.alloc (.cells #[.slice a0_0 c0.n0 p0_0, .int .i64 c0.x1, .int .i64 c0.x2, .int .i64 c0.x3] 24)).alloc (.cells #[.slice a1_0 c1.n0 p1_0, .slice a1_1 c1.n1 p1_1, .int .i64 c1.x2, .int .i64 c1.x3, .int .i64 c1.x4] 27) = W at hB0 hK0 hV0 hK1 hV1 ⊢
  clear hWW
  have HB0 : Hid (Below w.heap.size w W) := hB0
  have HK0 : Hid _ := hK0.hid
  have HV0 : Hid _ := hV0.hid
  have hKl0 := hK0.lt
  have HK1 : Hid _ := hK1.hid
  have HV1 : Hid _ := hV1.hid
  have hKl1 := hK1.lt
  clear hB0 hK0 hV0 hK1 hV1
  have HB : Hid (Below W.heap.size W W) := Below.refl _ _
  refine (laws_szVersion (.agg #[.slice a0_0 c0.n0 p0_0, .int .i64 c0.x1, .int .i64 c0.x2, .int .i64 c0.x3]) c0 1048576 W hsm0 (by omega) (by omega) (HV0.out.next HB.out)).mono ?_
  rintro e w0 ⟨⟨l0, rfl, hr0⟩, hb0⟩
  have HB := hide (HB.out.trans (hb0.mono HB.out.size))
  have hsz0 := hb0.size
  clear hb0
  rcases hr0 with hr0 | ⟨hl00, hl10, hf0⟩
  · go_wp2
    go_ret
    exact ⟨rfl, HB0.out.trans (HB.out.mono HB0.out.size)⟩
  · have hln0 : ¬ (l0 < 0) := by omega
    have k1_0 := (HK1.out.next HB.out).cell 0
    have k1_1 := (HK1.out.next HB.out).cell 1
    have k1_2 := (HK1.out.next HB.out).cell 2
    have k1_3 := (HK1.out.next HB.out).cell 3
    have k1_4 := (HK1.out.next HB.out).cell 4
    go_wp2_with fail
    clear k1_0 k1_1 k1_2 k1_3 k1_4
    refine (laws_szEdit (.agg #[.slice a1_0 c1.n0 p1_0, .slice a1_1 c1.n1 p1_1, .int .i64 c1.x2, .int .i64 c1.x3, .int .i64 c1.x4]) c1 l0 w0 hsm1 (by omega) (by omega) (HV1.out.next HB.out)).mono ?_
    rintro e w1 ⟨⟨l1, rfl, hr1⟩, hb1⟩
    have HB := hide (HB.out.trans (hb1.mono HB.out.size))
    have hsz1 := hb1.size
    clear hb1
    rcases hr1 with hr1 | ⟨hl01, hl11, hf1⟩
    · go_wp2
      go_ret
      exact ⟨rfl, HB0.out.trans (HB.out.mono HB0.out.size)⟩
    · have hln1 : ¬ (l1 < 0) := by omega
      have cs := fun (x0 : Value) (x1 : Value) (wx : World) (y0 : VersionIs wx x0 c0) (y1 : EditIs wx x1 c1) => spec_ApplyO x0 x1 c0 c1 wx hf0 hf1 y0 y1
      have ci := fun (x0 : Value) (x1 : Value) (wx : World) (y0 : VersionIs wx x0 c0) (y1 : EditSrc wx x1 c1) => impl_ApplyO x0 x1 c0 c1 wx hf0 hf1 y0 y1
      have hrf : (apC c0 c1).Fit := apC_fit c0 c1
      generalize apC c0 c1 = rc at cs ci hrf
      generalize apB c0 c1 = rb at cs ci hrf
      go_upto_region 8 with fail
      go_cut [6, 7] (fun tp tq wx => ∃ (N : Nat) (a : Option Addr) (p : Nat), tp = .pointer (some ⟨N, 0, none⟩) ∧ tq = .bool rb ∧ w1.heap.size ≤ N ∧ Hid (Below w1.heap.size w1 wx) ∧ Hid (BoxIs wx N #[.slice a rc.n0 p, .int .i64 rc.x1, .int .i64 rc.x2, .int .i64 rc.x3] 32) ∧ Hid (Mine wx w1.heap.size 59 5 a p rc.n0 (metaCell rc.r0)))
      case first =>
        have LO : Below w1.heap.size w1 w1 := Below.refl _ _
        have hWs := HB.out.size
        have K0 := HK0.out.next HB.out
        have K1 := HK1.out.next HB.out
        refine wp_region_noPanic ?_
        have hb0 : Below w1.heap.size w1 w1.drew := (Below.refl _ _).drew
        have LO_0 := LO.trans (hb0.mono LO.size)
        have K0_0 := K0.next hb0
        have K1_0 := K1.next hb0
        refine wp_region_held_drew (S := fun x => BoxIs x (w.heap.size) #[.slice a0_0 c0.n0 p0_0, .int .i64 c0.x1, .int .i64 c0.x2, .int .i64 c0.x3] 24 ∧ BoxIs x (w.heap.size + 1) #[.slice a1_0 c1.n0 p1_0, .slice a1_1 c1.n1 p1_1, .int .i64 c1.x2, .int .i64 c1.x3, .int .i64 c1.x4] 27) (by kernel_rfl) ⟨K0_0, K1_0⟩ (fun hSz => ?_)
        clear hSz K0 K1 LO
        generalize w1.drew = wq0 at hb0 LO_0 K0_0 K1_0 ⊢
        clear hb0
        refine wpAnyH_take (i := 0) (v := .agg #[.slice a0_0 c0.n0 p0_0, .int .i64 c0.x1, .int .i64 c0.x2, .int .i64 c0.x3]) nat0 (by kernel_rfl) (by kernel_rfl) (by kernel_rfl) (fun _ _ _ h => False.elim h) (Or.inl ⟨by rfl, ?_⟩) ⟨K0_0, K1_0⟩ ?_
        · intro wx hSw
          have y0 := hSw.1.cell 0
          have y1 := hSw.1.cell 1
          have y2 := hSw.1.cell 2
          have y3 := hSw.1.cell 3
          simp only [List.getElem?_toArray, List.getElem?_cons_succ, List.getElem?_cons_zero] at y0 y1 y2 y3
          go_simp
        simp only [Act.put, List.setIfInBounds_toArray, List.set_cons_zero, List.set_cons_succ]
        refine wpAnyH_take (i := 2) (v := .agg #[.slice a1_0 c1.n0 p1_0, .slice a1_1 c1.n1 p1_1, .int .i64 c1.x2, .int .i64 c1.x3, .int .i64 c1.x4]) nat2 (by kernel_rfl) (by kernel_rfl) (by kernel_rfl) (fun _ _ _ h => False.elim h) (Or.inl ⟨by rfl, ?_⟩) ⟨K0_0, K1_0⟩ ?_
        · intro wx hSw
          have y0 := hSw.2.cell 0
          have y1 := hSw.2.cell 1
          have y2 := hSw.2.cell 2
          have y3 := hSw.2.cell 3
          have y4 := hSw.2.cell 4
          simp only [List.getElem?_toArray, List.getElem?_cons_succ, List.getElem?_cons_zero] at y0 y1 y2 y3 y4
          go_simp
        simp only [Act.put, List.setIfInBounds_toArray, List.set_cons_zero, List.set_cons_succ]
        refine wpAnyH_ready (rs := [1, 8]) (by kernel_rfl) (by simp) ?_
        refine AllReadyH.cons nat1 (fun K hK => ?_) (AllReadyH.cons nat8 (fun K hK => ?_) AllReadyH.nil)
        · go_simp
          go_at_call 10
          refine (laws_toVersion (.agg #[.slice a0_0 c0.n0 p0_0, .int .i64 c0.x1, .int .i64 c0.x2, .int .i64 c0.x3]) c0 wq0 hf0 (HV0.out.next (HB.out.trans (LO_0.mono HB.out.size)))).mono ?_
          rintro e wq1 ⟨gy1_0, rfl, _, hy1_0, hb1⟩
          have LO_1 := LO_0.trans (hb1.mono LO_0.size)
          have K0_1 := K0_0.next hb1
          have K1_1 := K1_0.next hb1
          have IV0_1 := VersionIs.of_rows hy1_0
          refine hK.out _ _ ⟨K0_1, K1_1⟩ (fun hSz => ?_)
          clear hK K hSz K0_0 K1_0 LO_0 hb1 hy1_0
          refine wpAnyH_ready (rs := [3, 8]) (by kernel_rfl) (by simp) ?_
          refine AllReadyH.cons nat3 (fun K hK => ?_) (AllReadyH.cons nat8 (fun K hK => ?_) AllReadyH.nil)
          · go_simp
            go_at_call 11
            refine (laws_toEdit (.agg #[.slice a1_0 c1.n0 p1_0, .slice a1_1 c1.n1 p1_1, .int .i64 c1.x2, .int .i64 c1.x3, .int .i64 c1.x4]) c1 wq1 hf1 (HV1.out.next (HB.out.trans (LO_1.mono HB.out.size)))).mono ?_
            rintro e wq2 ⟨gy2_0, gy2_1, rfl, _, hy2_0, _, hy2_1, _, hb2⟩
            have LO_2 := LO_1.trans (hb2.mono LO_1.size)
            have K0_2 := K0_1.next hb2
            have K1_2 := K1_1.next hb2
            have IV0_2 := IV0_1.next hb2
            have IV1_2 := EditIs.of_rows hy2_0 hy2_1
            refine hK.out _ _ ⟨K0_2, K1_2⟩ (fun hSz => ?_)
            clear hK K hSz IV0_1 K0_1 K1_1 LO_1 hb2 hy2_0 hy2_1
            refine wpAnyH_ready (rs := [4, 8]) (by kernel_rfl) (by simp) ?_
            refine AllReadyH.cons nat4 (fun K hK => ?_) (AllReadyH.cons nat8 (fun K hK => ?_) AllReadyH.nil)
            · go_simp
              go_at_call 9
              refine (cs (.agg #[.slice (some ⟨gy1_0, 0, none⟩) c0.n0 c0.n0, .int .i64 c0.x1, .int .i64 c0.x2, .int .i64 c0.x3]) (.agg #[.slice (some ⟨gy2_0, 0, none⟩) c1.n0 c1.n0, .slice (some ⟨gy2_1, 0, none⟩) c1.n1 c1.n1, .int .i64 c1.x2, .int .i64 c1.x3, .int .i64 c1.x4]) wq2 IV0_2 IV1_2).mono ?_
              rintro e wq3 ⟨⟨u3, rfl, ho3⟩, hb3⟩
              obtain ⟨ya3, yp3, rfl, hM3⟩ := ho3
              have LO_3 := LO_2.trans (hb3.mono LO_2.size)
              have K0_3 := K0_2.next hb3
              have K1_3 := K1_2.next hb3
              have IV0_3 := IV0_2.next hb3
              have IV1_3 := IV1_2.next hb3
              have HM_3 := (show Mine _ w1.heap.size 59 5 ya3 yp3 rc.n0 (metaCell rc.r0) from hM3.base LO_2.size)
              refine hK.out _ _ ⟨K0_3, K1_3⟩ (fun hSz => ?_)
              clear hK K hSz IV0_2 IV1_2 K0_2 K1_2 LO_2 hb3 hM3
              refine wpAnyH_take (i := 5) (v := .tuple #[.agg #[.slice ya3 rc.n0 yp3, .int .i64 rc.x1, .int .i64 rc.x2, .int .i64 rc.x3], .bool rb]) nat5 (by kernel_rfl) (by kernel_rfl) (by kernel_rfl) (fun _ _ _ h => False.elim h) (Or.inl ⟨by rfl, ?_⟩) ⟨K0_3, K1_3⟩ ?_
              · intro wx hSw
                go_simp
              simp only [Act.put, List.setIfInBounds_toArray, List.set_cons_zero, List.set_cons_succ]
              refine wpAnyH_take (i := 6) (v := .agg #[.slice ya3 rc.n0 yp3, .int .i64 rc.x1, .int .i64 rc.x2, .int .i64 rc.x3]) nat6 (by kernel_rfl) (by kernel_rfl) (by kernel_rfl) (fun _ _ _ h => False.elim h) (Or.inl ⟨by rfl, ?_⟩) ⟨K0_3, K1_3⟩ ?_
              · intro wx hSw
                go_simp
              simp only [Act.put, List.setIfInBounds_toArray, List.set_cons_zero, List.set_cons_succ]
              refine wpAnyH_take (i := 7) (v := .bool rb) nat7 (by kernel_rfl) (by kernel_rfl) (by kernel_rfl) (fun _ _ _ h => False.elim h) (Or.inl ⟨by rfl, ?_⟩) ⟨K0_3, K1_3⟩ ?_
              · intro wx hSw
                go_simp
              simp only [Act.put, List.setIfInBounds_toArray, List.set_cons_zero, List.set_cons_succ]
              refine wpAnyH_ready (rs := [8]) (by kernel_rfl) (by simp) ?_
              refine AllReadyH.cons nat8 (fun K hK => ?_) AllReadyH.nil
              go_simp
              have hlt4 : w1.heap.size ≤ wq3.heap.size := LO_3.size
              have hb4 := below_one wq3 (.cells #[.slice none 0 0, .int .i64 0, .int .i64 0, .int .i64 0] 32)
              have LO_4 := LO_3.trans (hb4.mono LO_3.size)
              have K0_4 := K0_3.next hb4
              have K1_4 := K1_3.next hb4
              have IV0_4 := IV0_3.next hb4
              have IV1_4 := IV1_3.next hb4
              have HM_4 := HM_3.next hb4
              have NB6_4 := BoxIs.new wq3 #[.slice none 0 0, .int .i64 0, .int .i64 0, .int .i64 0] 32 rfl
              refine hK.out _ _ ⟨K0_4, K1_4⟩ (fun hSz => ?_)
              clear hK K hSz HM_3 IV0_3 IV1_3 K0_3 K1_3 LO_3
              obtain ⟨G4, hG4⟩ : ∃ G, G = wq3.heap.size := ⟨_, rfl⟩
              rw [← hG4] at NB6_4 ⊢
              generalize wq3.alloc (.cells #[.slice none 0 0, .int .i64 0, .int .i64 0, .int .i64 0] 32) = wq4 at hb4 LO_4 K0_4 K1_4 IV0_4 IV1_4 HM_4 NB6_4 ⊢
              rw [← hG4] at hlt4
              clear hG4 hb4
              refine wpAnyH_ready (rs := [9]) (by kernel_rfl) (by simp) ?_
              refine AllReadyH.cons nat9 (fun K hK => ?_) AllReadyH.nil
              have y0 := NB6_4.cell 0
              have y1 := NB6_4.cell 1
              have y2 := NB6_4.cell 2
              have y3 := NB6_4.cell 3
              simp only [List.getElem?_toArray, List.getElem?_cons_succ, List.getElem?_cons_zero] at y0 y1 y2 y3
              have yf := NB6_4.free
              go_simp
              clear yf y0 y1 y2 y3
              have LO_5s0 := LO_4.setCell (p := ⟨G4, 0, none⟩) hlt4 (.slice ya3 rc.n0 yp3)
              have K0_5s0 := K0_4.set_other (p := ⟨G4, 0, none⟩) (by show G4 ≠ w.heap.size; omega) (.slice ya3 rc.n0 yp3)
              have K1_5s0 := K1_4.set_other (p := ⟨G4, 0, none⟩) (by show G4 ≠ w.heap.size + 1; omega) (.slice ya3 rc.n0 yp3)
              have HM_5s0 := Mine.setBox HM_4 NB6_4 (by decide) 0 (.slice ya3 rc.n0 yp3)
              have NB6_5s0 := NB6_4.set 0 (.slice ya3 rc.n0 yp3)
              have LO_5s1 := LO_5s0.setCell (p := ⟨G4, 1, none⟩) hlt4 (.int .i64 rc.x1)
              have K0_5s1 := K0_5s0.set_other (p := ⟨G4, 1, none⟩) (by show G4 ≠ w.heap.size; omega) (.int .i64 rc.x1)
              have K1_5s1 := K1_5s0.set_other (p := ⟨G4, 1, none⟩) (by show G4 ≠ w.heap.size + 1; omega) (.int .i64 rc.x1)
              have HM_5s1 := Mine.setBox HM_5s0 NB6_5s0 (by decide) 1 (.int .i64 rc.x1)
              have NB6_5s1 := NB6_5s0.set 1 (.int .i64 rc.x1)
              have LO_5s2 := LO_5s1.setCell (p := ⟨G4, 2, none⟩) hlt4 (.int .i64 rc.x2)
              have K0_5s2 := K0_5s1.set_other (p := ⟨G4, 2, none⟩) (by show G4 ≠ w.heap.size; omega) (.int .i64 rc.x2)
              have K1_5s2 := K1_5s1.set_other (p := ⟨G4, 2, none⟩) (by show G4 ≠ w.heap.size + 1; omega) (.int .i64 rc.x2)
              have HM_5s2 := Mine.setBox HM_5s1 NB6_5s1 (by decide) 2 (.int .i64 rc.x2)
              have NB6_5s2 := NB6_5s1.set 2 (.int .i64 rc.x2)
              have LO_5s3 := LO_5s2.setCell (p := ⟨G4, 3, none⟩) hlt4 (.int .i64 rc.x3)
              have K0_5s3 := K0_5s2.set_other (p := ⟨G4, 3, none⟩) (by show G4 ≠ w.heap.size; omega) (.int .i64 rc.x3)
              have K1_5s3 := K1_5s2.set_other (p := ⟨G4, 3, none⟩) (by show G4 ≠ w.heap.size + 1; omega) (.int .i64 rc.x3)
              have HM_5s3 := Mine.setBox HM_5s2 NB6_5s2 (by decide) 3 (.int .i64 rc.x3)
              have NB6_5s3 := NB6_5s2.set 3 (.int .i64 rc.x3)
              have LO_5 := LO_5s3
              have K0_5 := K0_5s3
              have K1_5 := K1_5s3
              have HM_5 := HM_5s3
              have NB6_5 : BoxIs ((((wq4.setCell ⟨G4, 0, none⟩ (.slice ya3 rc.n0 yp3)).setCell ⟨G4, 1, none⟩ (.int .i64 rc.x1)).setCell ⟨G4, 2, none⟩ (.int .i64 rc.x2)).setCell ⟨G4, 3, none⟩ (.int .i64 rc.x3)) G4 #[.slice ya3 rc.n0 yp3, .int .i64 rc.x1, .int .i64 rc.x2, .int .i64 rc.x3] 32 := NB6_5s3
              refine hK.out _ _ ⟨K0_5, K1_5⟩ (fun hSz => ?_)
              clear hK K hSz HM_4 IV0_4 IV1_4 K0_4 K1_4 LO_4 NB6_4 LO_5s0 LO_5s1 LO_5s2 LO_5s3 K0_5s0 K0_5s1 K0_5s2 K0_5s3 K1_5s0 K1_5s1 K1_5s2 K1_5s3 HM_5s0 HM_5s1 HM_5s2 HM_5s3 NB6_5s0 NB6_5s1 NB6_5s2 NB6_5s3
              generalize (((wq4.setCell ⟨G4, 0, none⟩ (.slice ya3 rc.n0 yp3)).setCell ⟨G4, 1, none⟩ (.int .i64 rc.x1)).setCell ⟨G4, 2, none⟩ (.int .i64 rc.x2)).setCell ⟨G4, 3, none⟩ (.int .i64 rc.x3) = wq5 at LO_5 K0_5 K1_5 HM_5 NB6_5 ⊢
              refine wpAnyH_take (i := 10) (v := .bool rb) nat10 (by kernel_rfl) (by kernel_rfl) (by kernel_rfl) (fun _ _ _ h => False.elim h) (Or.inl ⟨by rfl, ?_⟩) ⟨K0_5, K1_5⟩ ?_
              · intro wx hSw
                go_simp
              simp only [Act.put, List.setIfInBounds_toArray, List.set_cons_zero, List.set_cons_succ]
              refine wpAnyH_done (by kernel_rfl) ?_ _
              refine NoPanic.normal ?_
              go_wp2_with fail
              go_meet
              exact ⟨G4, ya3, yp3, rfl, rfl, hlt4, hide LO_5, hide NB6_5, hide HM_5⟩
            · go_simp
              have hlt6 : w1.heap.size ≤ wq2.heap.size := LO_2.size
              have hb6 := below_one wq2 (.cells #[.slice none 0 0, .int .i64 0, .int .i64 0, .int .i64 0] 32)
              have LO_6 := LO_2.trans (hb6.mono LO_2.size)
              have K0_6 := K0_2.next hb6
              have K1_6 := K1_2.next hb6
              have IV0_6 := IV0_2.next hb6
              have IV1_6 := IV1_2.next hb6
              have NB6_6 := BoxIs.new wq2 #[.slice none 0 0, .int .i64 0, .int .i64 0, .int .i64 0] 32 rfl
              refine hK.out _ _ ⟨K0_6, K1_6⟩ (fun hSz => ?_)
              clear hK K hSz IV0_2 IV1_2 K0_2 K1_2 LO_2
              obtain ⟨G6, hG6⟩ : ∃ G, G = wq2.heap.size := ⟨_, rfl⟩
              rw [← hG6] at NB6_6 ⊢
              generalize wq2.alloc (.cells #[.slice none 0 0, .int .i64 0, .int .i64 0, .int .i64 0] 32) = wq6 at hb6 LO_6 K0_6 K1_6 IV0_6 IV1_6 NB6_6 ⊢
              rw [← hG6] at hlt6
              clear hG6 hb6
              refine wpAnyH_ready (rs := [4]) (by kernel_rfl) (by simp) ?_
              refine AllReadyH.cons nat4 (fun K hK => ?_) AllReadyH.nil
              go_simp
              go_at_call 9
              refine (cs (.agg #[.slice (some ⟨gy1_0, 0, none⟩) c0.n0 c0.n0, .int .i64 c0.x1, .int .i64 c0.x2, .int .i64 c0.x3]) (.agg #[.slice (some ⟨gy2_0, 0, none⟩) c1.n0 c1.n0, .slice (some ⟨gy2_1, 0, none⟩) c1.n1 c1.n1, .int .i64 c1.x2, .int .i64 c1.x3, .int .i64 c1.x4]) wq6 IV0_6 IV1_6).mono ?_
              rintro e wq7 ⟨⟨u7, rfl, ho7⟩, hb7⟩
              obtain ⟨ya7, yp7, rfl, hM7⟩ := ho7
              have LO_7 := LO_6.trans (hb7.mono LO_6.size)
              have K0_7 := K0_6.next hb7
              have K1_7 := K1_6.next hb7
              have IV0_7 := IV0_6.next hb7
              have IV1_7 := IV1_6.next hb7
              have NB6_7 := NB6_6.next hb7
              have HM_7 := (show Mine _ w1.heap.size 59 5 ya7 yp7 rc.n0 (metaCell rc.r0) from hM7.base LO_6.size)
              refine hK.out _ _ ⟨K0_7, K1_7⟩ (fun hSz => ?_)
              clear hK K hSz IV0_6 IV1_6 K0_6 K1_6 LO_6 NB6_6 hb7 hM7
              refine wpAnyH_take (i := 5) (v := .tuple #[.agg #[.slice ya7 rc.n0 yp7, .int .i64 rc.x1, .int .i64 rc.x2, .int .i64 rc.x3], .bool rb]) nat5 (by kernel_rfl) (by kernel_rfl) (by kernel_rfl) (fun _ _ _ h => False.elim h) (Or.inl ⟨by rfl, ?_⟩) ⟨K0_7, K1_7⟩ ?_
              · intro wx hSw
                go_simp
              simp only [Act.put, List.setIfInBounds_toArray, List.set_cons_zero, List.set_cons_succ]
              refine wpAnyH_take (i := 6) (v := .agg #[.slice ya7 rc.n0 yp7, .int .i64 rc.x1, .int .i64 rc.x2, .int .i64 rc.x3]) nat6 (by kernel_rfl) (by kernel_rfl) (by kernel_rfl) (fun _ _ _ h => False.elim h) (Or.inl ⟨by rfl, ?_⟩) ⟨K0_7, K1_7⟩ ?_
              · intro wx hSw
                go_simp
              simp only [Act.put, List.setIfInBounds_toArray, List.set_cons_zero, List.set_cons_succ]
              refine wpAnyH_take (i := 7) (v := .bool rb) nat7 (by kernel_rfl) (by kernel_rfl) (by kernel_rfl) (fun _ _ _ h => False.elim h) (Or.inl ⟨by rfl, ?_⟩) ⟨K0_7, K1_7⟩ ?_
              · intro wx hSw
                go_simp
              simp only [Act.put, List.setIfInBounds_toArray, List.set_cons_zero, List.set_cons_succ]
              refine wpAnyH_ready (rs := [9]) (by kernel_rfl) (by simp) ?_
              refine AllReadyH.cons nat9 (fun K hK => ?_) AllReadyH.nil
              have y0 := NB6_7.cell 0
              have y1 := NB6_7.cell 1
              have y2 := NB6_7.cell 2
              have y3 := NB6_7.cell 3
              simp only [List.getElem?_toArray, List.getElem?_cons_succ, List.getElem?_cons_zero] at y0 y1 y2 y3
              have yf := NB6_7.free
              go_simp
              clear yf y0 y1 y2 y3
              have LO_8s0 := LO_7.setCell (p := ⟨G6, 0, none⟩) hlt6 (.slice ya7 rc.n0 yp7)
              have K0_8s0 := K0_7.set_other (p := ⟨G6, 0, none⟩) (by show G6 ≠ w.heap.size; omega) (.slice ya7 rc.n0 yp7)
              have K1_8s0 := K1_7.set_other (p := ⟨G6, 0, none⟩) (by show G6 ≠ w.heap.size + 1; omega) (.slice ya7 rc.n0 yp7)
              have NB6_8s0 := NB6_7.set 0 (.slice ya7 rc.n0 yp7)
              have HM_8s0 := Mine.setBox HM_7 NB6_7 (by decide) 0 (.slice ya7 rc.n0 yp7)
              have LO_8s1 := LO_8s0.setCell (p := ⟨G6, 1, none⟩) hlt6 (.int .i64 rc.x1)
              have K0_8s1 := K0_8s0.set_other (p := ⟨G6, 1, none⟩) (by show G6 ≠ w.heap.size; omega) (.int .i64 rc.x1)
              have K1_8s1 := K1_8s0.set_other (p := ⟨G6, 1, none⟩) (by show G6 ≠ w.heap.size + 1; omega) (.int .i64 rc.x1)
              have NB6_8s1 := NB6_8s0.set 1 (.int .i64 rc.x1)
              have HM_8s1 := Mine.setBox HM_8s0 NB6_8s0 (by decide) 1 (.int .i64 rc.x1)
              have LO_8s2 := LO_8s1.setCell (p := ⟨G6, 2, none⟩) hlt6 (.int .i64 rc.x2)
              have K0_8s2 := K0_8s1.set_other (p := ⟨G6, 2, none⟩) (by show G6 ≠ w.heap.size; omega) (.int .i64 rc.x2)
              have K1_8s2 := K1_8s1.set_other (p := ⟨G6, 2, none⟩) (by show G6 ≠ w.heap.size + 1; omega) (.int .i64 rc.x2)
              have NB6_8s2 := NB6_8s1.set 2 (.int .i64 rc.x2)
              have HM_8s2 := Mine.setBox HM_8s1 NB6_8s1 (by decide) 2 (.int .i64 rc.x2)
              have LO_8s3 := LO_8s2.setCell (p := ⟨G6, 3, none⟩) hlt6 (.int .i64 rc.x3)
              have K0_8s3 := K0_8s2.set_other (p := ⟨G6, 3, none⟩) (by show G6 ≠ w.heap.size; omega) (.int .i64 rc.x3)
              have K1_8s3 := K1_8s2.set_other (p := ⟨G6, 3, none⟩) (by show G6 ≠ w.heap.size + 1; omega) (.int .i64 rc.x3)
              have NB6_8s3 := NB6_8s2.set 3 (.int .i64 rc.x3)
              have HM_8s3 := Mine.setBox HM_8s2 NB6_8s2 (by decide) 3 (.int .i64 rc.x3)
              have LO_8 := LO_8s3
              have K0_8 := K0_8s3
              have K1_8 := K1_8s3
              have NB6_8 : BoxIs ((((wq7.setCell ⟨G6, 0, none⟩ (.slice ya7 rc.n0 yp7)).setCell ⟨G6, 1, none⟩ (.int .i64 rc.x1)).setCell ⟨G6, 2, none⟩ (.int .i64 rc.x2)).setCell ⟨G6, 3, none⟩ (.int .i64 rc.x3)) G6 #[.slice ya7 rc.n0 yp7, .int .i64 rc.x1, .int .i64 rc.x2, .int .i64 rc.x3] 32 := NB6_8s3
              have HM_8 := HM_8s3
              refine hK.out _ _ ⟨K0_8, K1_8⟩ (fun hSz => ?_)
              clear hK K hSz HM_7 IV0_7 IV1_7 K0_7 K1_7 LO_7 NB6_7 LO_8s0 LO_8s1 LO_8s2 LO_8s3 K0_8s0 K0_8s1 K0_8s2 K0_8s3 K1_8s0 K1_8s1 K1_8s2 K1_8s3 NB6_8s0 NB6_8s1 NB6_8s2 NB6_8s3 HM_8s0 HM_8s1 HM_8s2 HM_8s3
              generalize (((wq7.setCell ⟨G6, 0, none⟩ (.slice ya7 rc.n0 yp7)).setCell ⟨G6, 1, none⟩ (.int .i64 rc.x1)).setCell ⟨G6, 2, none⟩ (.int .i64 rc.x2)).setCell ⟨G6, 3, none⟩ (.int .i64 rc.x3) = wq8 at LO_8 K0_8 K1_8 NB6_8 HM_8 ⊢
              refine wpAnyH_take (i := 10) (v := .bool rb) nat10 (by kernel_rfl) (by kernel_rfl) (by kernel_rfl) (fun _ _ _ h => False.elim h) (Or.inl ⟨by rfl, ?_⟩) ⟨K0_8, K1_8⟩ ?_
              · intro wx hSw
                go_simp
              simp only [Act.put, List.setIfInBounds_toArray, List.set_cons_zero, List.set_cons_succ]
              refine wpAnyH_done (by kernel_rfl) ?_ _
              refine NoPanic.normal ?_
              go_wp2_with fail
              go_meet
              exact ⟨G6, ya7, yp7, rfl, rfl, hlt6, hide LO_8, hide NB6_8, hide HM_8⟩
          · go_simp
            have hlt9 : w1.heap.size ≤ wq1.heap.size := LO_1.size
            have hb9 := below_one wq1 (.cells #[.slice none 0 0, .int .i64 0, .int .i64 0, .int .i64 0] 32)
            have LO_9 := LO_1.trans (hb9.mono LO_1.size)
            have K0_9 := K0_1.next hb9
            have K1_9 := K1_1.next hb9
            have IV0_9 := IV0_1.next hb9
            have NB6_9 := BoxIs.new wq1 #[.slice none 0 0, .int .i64 0, .int .i64 0, .int .i64 0] 32 rfl
            refine hK.out _ _ ⟨K0_9, K1_9⟩ (fun hSz => ?_)
            clear hK K hSz IV0_1 K0_1 K1_1 LO_1
            obtain ⟨G9, hG9⟩ : ∃ G, G = wq1.heap.size := ⟨_, rfl⟩
            rw [← hG9] at NB6_9 ⊢
            generalize wq1.alloc (.cells #[.slice none 0 0, .int .i64 0, .int .i64 0, .int .i64 0] 32) = wq9 at hb9 LO_9 K0_9 K1_9 IV0_9 NB6_9 ⊢
            rw [← hG9] at hlt9
            clear hG9 hb9
            refine wpAnyH_ready (rs := [3]) (by kernel_rfl) (by simp) ?_
            refine AllReadyH.cons nat3 (fun K hK => ?_) AllReadyH.nil
            go_simp
            go_at_call 11
            refine (laws_toEdit (.agg #[.slice a1_0 c1.n0 p1_0, .slice a1_1 c1.n1 p1_1, .int .i64 c1.x2, .int .i64 c1.x3, .int .i64 c1.x4]) c1 wq9 hf1 (HV1.out.next (HB.out.trans (LO_9.mono HB.out.size)))).mono ?_
            rintro e wq10 ⟨gy10_0, gy10_1, rfl, _, hy10_0, _, hy10_1, _, hb10⟩
            have LO_10 := LO_9.trans (hb10.mono LO_9.size)
            have K0_10 := K0_9.next hb10
            have K1_10 := K1_9.next hb10
            have IV0_10 := IV0_9.next hb10
            have NB6_10 := NB6_9.next hb10
            have IV1_10 := EditIs.of_rows hy10_0 hy10_1
            refine hK.out _ _ ⟨K0_10, K1_10⟩ (fun hSz => ?_)
            clear hK K hSz IV0_9 K0_9 K1_9 LO_9 NB6_9 hb10 hy10_0 hy10_1
            refine wpAnyH_ready (rs := [4]) (by kernel_rfl) (by simp) ?_
            refine AllReadyH.cons nat4 (fun K hK => ?_) AllReadyH.nil
            go_simp
            go_at_call 9
            refine (cs (.agg #[.slice (some ⟨gy1_0, 0, none⟩) c0.n0 c0.n0, .int .i64 c0.x1, .int .i64 c0.x2, .int .i64 c0.x3]) (.agg #[.slice (some ⟨gy10_0, 0, none⟩) c1.n0 c1.n0, .slice (some ⟨gy10_1, 0, none⟩) c1.n1 c1.n1, .int .i64 c1.x2, .int .i64 c1.x3, .int .i64 c1.x4]) wq10 IV0_10 IV1_10).mono ?_
            rintro e wq11 ⟨⟨u11, rfl, ho11⟩, hb11⟩
            obtain ⟨ya11, yp11, rfl, hM11⟩ := ho11
            have LO_11 := LO_10.trans (hb11.mono LO_10.size)
            have K0_11 := K0_10.next hb11
            have K1_11 := K1_10.next hb11
            have IV0_11 := IV0_10.next hb11
            have NB6_11 := NB6_10.next hb11
            have IV1_11 := IV1_10.next hb11
            have HM_11 := (show Mine _ w1.heap.size 59 5 ya11 yp11 rc.n0 (metaCell rc.r0) from hM11.base LO_10.size)
            refine hK.out _ _ ⟨K0_11, K1_11⟩ (fun hSz => ?_)
            clear hK K hSz IV0_10 IV1_10 K0_10 K1_10 LO_10 NB6_10 hb11 hM11
            refine wpAnyH_take (i := 5) (v := .tuple #[.agg #[.slice ya11 rc.n0 yp11, .int .i64 rc.x1, .int .i64 rc.x2, .int .i64 rc.x3], .bool rb]) nat5 (by kernel_rfl) (by kernel_rfl) (by kernel_rfl) (fun _ _ _ h => False.elim h) (Or.inl ⟨by rfl, ?_⟩) ⟨K0_11, K1_11⟩ ?_
            · intro wx hSw
              go_simp
            simp only [Act.put, List.setIfInBounds_toArray, List.set_cons_zero, List.set_cons_succ]
            refine wpAnyH_take (i := 6) (v := .agg #[.slice ya11 rc.n0 yp11, .int .i64 rc.x1, .int .i64 rc.x2, .int .i64 rc.x3]) nat6 (by kernel_rfl) (by kernel_rfl) (by kernel_rfl) (fun _ _ _ h => False.elim h) (Or.inl ⟨by rfl, ?_⟩) ⟨K0_11, K1_11⟩ ?_
            · intro wx hSw
              go_simp
            simp only [Act.put, List.setIfInBounds_toArray, List.set_cons_zero, List.set_cons_succ]
            refine wpAnyH_take (i := 7) (v := .bool rb) nat7 (by kernel_rfl) (by kernel_rfl) (by kernel_rfl) (fun _ _ _ h => False.elim h) (Or.inl ⟨by rfl, ?_⟩) ⟨K0_11, K1_11⟩ ?_
            · intro wx hSw
              go_simp
            simp only [Act.put, List.setIfInBounds_toArray, List.set_cons_zero, List.set_cons_succ]
            refine wpAnyH_ready (rs := [9]) (by kernel_rfl) (by simp) ?_
            refine AllReadyH.cons nat9 (fun K hK => ?_) AllReadyH.nil
            have y0 := NB6_11.cell 0
            have y1 := NB6_11.cell 1
            have y2 := NB6_11.cell 2
            have y3 := NB6_11.cell 3
            simp only [List.getElem?_toArray, List.getElem?_cons_succ, List.getElem?_cons_zero] at y0 y1 y2 y3
            have yf := NB6_11.free
            go_simp
            clear yf y0 y1 y2 y3
            have LO_12s0 := LO_11.setCell (p := ⟨G9, 0, none⟩) hlt9 (.slice ya11 rc.n0 yp11)
            have K0_12s0 := K0_11.set_other (p := ⟨G9, 0, none⟩) (by show G9 ≠ w.heap.size; omega) (.slice ya11 rc.n0 yp11)
            have K1_12s0 := K1_11.set_other (p := ⟨G9, 0, none⟩) (by show G9 ≠ w.heap.size + 1; omega) (.slice ya11 rc.n0 yp11)
            have NB6_12s0 := NB6_11.set 0 (.slice ya11 rc.n0 yp11)
            have HM_12s0 := Mine.setBox HM_11 NB6_11 (by decide) 0 (.slice ya11 rc.n0 yp11)
            have LO_12s1 := LO_12s0.setCell (p := ⟨G9, 1, none⟩) hlt9 (.int .i64 rc.x1)
            have K0_12s1 := K0_12s0.set_other (p := ⟨G9, 1, none⟩) (by show G9 ≠ w.heap.size; omega) (.int .i64 rc.x1)
            have K1_12s1 := K1_12s0.set_other (p := ⟨G9, 1, none⟩) (by show G9 ≠ w.heap.size + 1; omega) (.int .i64 rc.x1)
            have NB6_12s1 := NB6_12s0.set 1 (.int .i64 rc.x1)
            have HM_12s1 := Mine.setBox HM_12s0 NB6_12s0 (by decide) 1 (.int .i64 rc.x1)
            have LO_12s2 := LO_12s1.setCell (p := ⟨G9, 2, none⟩) hlt9 (.int .i64 rc.x2)
            have K0_12s2 := K0_12s1.set_other (p := ⟨G9, 2, none⟩) (by show G9 ≠ w.heap.size; omega) (.int .i64 rc.x2)
            have K1_12s2 := K1_12s1.set_other (p := ⟨G9, 2, none⟩) (by show G9 ≠ w.heap.size + 1; omega) (.int .i64 rc.x2)
            have NB6_12s2 := NB6_12s1.set 2 (.int .i64 rc.x2)
            have HM_12s2 := Mine.setBox HM_12s1 NB6_12s1 (by decide) 2 (.int .i64 rc.x2)
            have LO_12s3 := LO_12s2.setCell (p := ⟨G9, 3, none⟩) hlt9 (.int .i64 rc.x3)
            have K0_12s3 := K0_12s2.set_other (p := ⟨G9, 3, none⟩) (by show G9 ≠ w.heap.size; omega) (.int .i64 rc.x3)
            have K1_12s3 := K1_12s2.set_other (p := ⟨G9, 3, none⟩) (by show G9 ≠ w.heap.size + 1; omega) (.int .i64 rc.x3)
            have NB6_12s3 := NB6_12s2.set 3 (.int .i64 rc.x3)
            have HM_12s3 := Mine.setBox HM_12s2 NB6_12s2 (by decide) 3 (.int .i64 rc.x3)
            have LO_12 := LO_12s3
            have K0_12 := K0_12s3
            have K1_12 := K1_12s3
            have NB6_12 : BoxIs ((((wq11.setCell ⟨G9, 0, none⟩ (.slice ya11 rc.n0 yp11)).setCell ⟨G9, 1, none⟩ (.int .i64 rc.x1)).setCell ⟨G9, 2, none⟩ (.int .i64 rc.x2)).setCell ⟨G9, 3, none⟩ (.int .i64 rc.x3)) G9 #[.slice ya11 rc.n0 yp11, .int .i64 rc.x1, .int .i64 rc.x2, .int .i64 rc.x3] 32 := NB6_12s3
            have HM_12 := HM_12s3
            refine hK.out _ _ ⟨K0_12, K1_12⟩ (fun hSz => ?_)
            clear hK K hSz HM_11 IV0_11 IV1_11 K0_11 K1_11 LO_11 NB6_11 LO_12s0 LO_12s1 LO_12s2 LO_12s3 K0_12s0 K0_12s1 K0_12s2 K0_12s3 K1_12s0 K1_12s1 K1_12s2 K1_12s3 NB6_12s0 NB6_12s1 NB6_12s2 NB6_12s3 HM_12s0 HM_12s1 HM_12s2 HM_12s3
            generalize (((wq11.setCell ⟨G9, 0, none⟩ (.slice ya11 rc.n0 yp11)).setCell ⟨G9, 1, none⟩ (.int .i64 rc.x1)).setCell ⟨G9, 2, none⟩ (.int .i64 rc.x2)).setCell ⟨G9, 3, none⟩ (.int .i64 rc.x3) = wq12 at LO_12 K0_12 K1_12 NB6_12 HM_12 ⊢
            refine wpAnyH_take (i := 10) (v := .bool rb) nat10 (by kernel_rfl) (by kernel_rfl) (by kernel_rfl) (fun _ _ _ h => False.elim h) (Or.inl ⟨by rfl, ?_⟩) ⟨K0_12, K1_12⟩ ?_
            · intro wx hSw
              go_simp
            simp only [Act.put, List.setIfInBounds_toArray, List.set_cons_zero, List.set_cons_succ]
            refine wpAnyH_done (by kernel_rfl) ?_ _
            refine NoPanic.normal ?_
            go_wp2_with fail
            go_meet
            exact ⟨G9, ya11, yp11, rfl, rfl, hlt9, hide LO_12, hide NB6_12, hide HM_12⟩
        · go_simp
          have hlt13 : w1.heap.size ≤ wq0.heap.size := LO_0.size
          have hb13 := below_one wq0 (.cells #[.slice none 0 0, .int .i64 0, .int .i64 0, .int .i64 0] 32)
          have LO_13 := LO_0.trans (hb13.mono LO_0.size)
          have K0_13 := K0_0.next hb13
          have K1_13 := K1_0.next hb13
          have NB6_13 := BoxIs.new wq0 #[.slice none 0 0, .int .i64 0, .int .i64 0, .int .i64 0] 32 rfl
          refine hK.out _ _ ⟨K0_13, K1_13⟩ (fun hSz => ?_)
          clear hK K hSz K0_0 K1_0 LO_0
          obtain ⟨G13, hG13⟩ : ∃ G, G = wq0.heap.size := ⟨_, rfl⟩
          rw [← hG13] at NB6_13 ⊢
          generalize wq0.alloc (.cells #[.slice none 0 0, .int .i64 0, .int .i64 0, .int .i64 0] 32) = wq13 at hb13 LO_13 K0_13 K1_13 NB6_13 ⊢
          rw [← hG13] at hlt13
          clear hG13 hb13
          refine wpAnyH_ready (rs := [1]) (by kernel_rfl) (by simp) ?_
          refine AllReadyH.cons nat1 (fun K hK => ?_) AllReadyH.nil
          go_simp
          go_at_call 10
          refine (laws_toVersion (.agg #[.slice a0_0 c0.n0 p0_0, .int .i64 c0.x1, .int .i64 c0.x2, .int .i64 c0.x3]) c0 wq13 hf0 (HV0.out.next (HB.out.trans (LO_13.mono HB.out.size)))).mono ?_
          rintro e wq14 ⟨gy14_0, rfl, _, hy14_0, hb14⟩
          have LO_14 := LO_13.trans (hb14.mono LO_13.size)
          have K0_14 := K0_13.next hb14
          have K1_14 := K1_13.next hb14
          have NB6_14 := NB6_13.next hb14
          have IV0_14 := VersionIs.of_rows hy14_0
          refine hK.out _ _ ⟨K0_14, K1_14⟩ (fun hSz => ?_)
          clear hK K hSz K0_13 K1_13 LO_13 NB6_13 hb14 hy14_0
          refine wpAnyH_ready (rs := [3]) (by kernel_rfl) (by simp) ?_
          refine AllReadyH.cons nat3 (fun K hK => ?_) AllReadyH.nil
          go_simp
          go_at_call 11
          refine (laws_toEdit (.agg #[.slice a1_0 c1.n0 p1_0, .slice a1_1 c1.n1 p1_1, .int .i64 c1.x2, .int .i64 c1.x3, .int .i64 c1.x4]) c1 wq14 hf1 (HV1.out.next (HB.out.trans (LO_14.mono HB.out.size)))).mono ?_
          rintro e wq15 ⟨gy15_0, gy15_1, rfl, _, hy15_0, _, hy15_1, _, hb15⟩
          have LO_15 := LO_14.trans (hb15.mono LO_14.size)
          have K0_15 := K0_14.next hb15
          have K1_15 := K1_14.next hb15
          have NB6_15 := NB6_14.next hb15
          have IV0_15 := IV0_14.next hb15
          have IV1_15 := EditIs.of_rows hy15_0 hy15_1
          refine hK.out _ _ ⟨K0_15, K1_15⟩ (fun hSz => ?_)
          clear hK K hSz IV0_14 K0_14 K1_14 LO_14 NB6_14 hb15 hy15_0 hy15_1
          refine wpAnyH_ready (rs := [4]) (by kernel_rfl) (by simp) ?_
          refine AllReadyH.cons nat4 (fun K hK => ?_) AllReadyH.nil
          go_simp
          go_at_call 9
          refine (cs (.agg #[.slice (some ⟨gy14_0, 0, none⟩) c0.n0 c0.n0, .int .i64 c0.x1, .int .i64 c0.x2, .int .i64 c0.x3]) (.agg #[.slice (some ⟨gy15_0, 0, none⟩) c1.n0 c1.n0, .slice (some ⟨gy15_1, 0, none⟩) c1.n1 c1.n1, .int .i64 c1.x2, .int .i64 c1.x3, .int .i64 c1.x4]) wq15 IV0_15 IV1_15).mono ?_
          rintro e wq16 ⟨⟨u16, rfl, ho16⟩, hb16⟩
          obtain ⟨ya16, yp16, rfl, hM16⟩ := ho16
          have LO_16 := LO_15.trans (hb16.mono LO_15.size)
          have K0_16 := K0_15.next hb16
          have K1_16 := K1_15.next hb16
          have NB6_16 := NB6_15.next hb16
          have IV0_16 := IV0_15.next hb16
          have IV1_16 := IV1_15.next hb16
          have HM_16 := (show Mine _ w1.heap.size 59 5 ya16 yp16 rc.n0 (metaCell rc.r0) from hM16.base LO_15.size)
          refine hK.out _ _ ⟨K0_16, K1_16⟩ (fun hSz => ?_)
          clear hK K hSz IV0_15 IV1_15 K0_15 K1_15 LO_15 NB6_15 hb16 hM16
          refine wpAnyH_take (i := 5) (v := .tuple #[.agg #[.slice ya16 rc.n0 yp16, .int .i64 rc.x1, .int .i64 rc.x2, .int .i64 rc.x3], .bool rb]) nat5 (by kernel_rfl) (by kernel_rfl) (by kernel_rfl) (fun _ _ _ h => False.elim h) (Or.inl ⟨by rfl, ?_⟩) ⟨K0_16, K1_16⟩ ?_
          · intro wx hSw
            go_simp
          simp only [Act.put, List.setIfInBounds_toArray, List.set_cons_zero, List.set_cons_succ]
          refine wpAnyH_take (i := 6) (v := .agg #[.slice ya16 rc.n0 yp16, .int .i64 rc.x1, .int .i64 rc.x2, .int .i64 rc.x3]) nat6 (by kernel_rfl) (by kernel_rfl) (by kernel_rfl) (fun _ _ _ h => False.elim h) (Or.inl ⟨by rfl, ?_⟩) ⟨K0_16, K1_16⟩ ?_
          · intro wx hSw
            go_simp
          simp only [Act.put, List.setIfInBounds_toArray, List.set_cons_zero, List.set_cons_succ]
          refine wpAnyH_take (i := 7) (v := .bool rb) nat7 (by kernel_rfl) (by kernel_rfl) (by kernel_rfl) (fun _ _ _ h => False.elim h) (Or.inl ⟨by rfl, ?_⟩) ⟨K0_16, K1_16⟩ ?_
          · intro wx hSw
            go_simp
          simp only [Act.put, List.setIfInBounds_toArray, List.set_cons_zero, List.set_cons_succ]
          refine wpAnyH_ready (rs := [9]) (by kernel_rfl) (by simp) ?_
          refine AllReadyH.cons nat9 (fun K hK => ?_) AllReadyH.nil
          have y0 := NB6_16.cell 0
          have y1 := NB6_16.cell 1
          have y2 := NB6_16.cell 2
          have y3 := NB6_16.cell 3
          simp only [List.getElem?_toArray, List.getElem?_cons_succ, List.getElem?_cons_zero] at y0 y1 y2 y3
          have yf := NB6_16.free
          go_simp
          clear yf y0 y1 y2 y3
          have LO_17s0 := LO_16.setCell (p := ⟨G13, 0, none⟩) hlt13 (.slice ya16 rc.n0 yp16)
          have K0_17s0 := K0_16.set_other (p := ⟨G13, 0, none⟩) (by show G13 ≠ w.heap.size; omega) (.slice ya16 rc.n0 yp16)
          have K1_17s0 := K1_16.set_other (p := ⟨G13, 0, none⟩) (by show G13 ≠ w.heap.size + 1; omega) (.slice ya16 rc.n0 yp16)
          have NB6_17s0 := NB6_16.set 0 (.slice ya16 rc.n0 yp16)
          have HM_17s0 := Mine.setBox HM_16 NB6_16 (by decide) 0 (.slice ya16 rc.n0 yp16)
          have LO_17s1 := LO_17s0.setCell (p := ⟨G13, 1, none⟩) hlt13 (.int .i64 rc.x1)
          have K0_17s1 := K0_17s0.set_other (p := ⟨G13, 1, none⟩) (by show G13 ≠ w.heap.size; omega) (.int .i64 rc.x1)
          have K1_17s1 := K1_17s0.set_other (p := ⟨G13, 1, none⟩) (by show G13 ≠ w.heap.size + 1; omega) (.int .i64 rc.x1)
          have NB6_17s1 := NB6_17s0.set 1 (.int .i64 rc.x1)
          have HM_17s1 := Mine.setBox HM_17s0 NB6_17s0 (by decide) 1 (.int .i64 rc.x1)
          have LO_17s2 := LO_17s1.setCell (p := ⟨G13, 2, none⟩) hlt13 (.int .i64 rc.x2)
          have K0_17s2 := K0_17s1.set_other (p := ⟨G13, 2, none⟩) (by show G13 ≠ w.heap.size; omega) (.int .i64 rc.x2)
          have K1_17s2 := K1_17s1.set_other (p := ⟨G13, 2, none⟩) (by show G13 ≠ w.heap.size + 1; omega) (.int .i64 rc.x2)
          have NB6_17s2 := NB6_17s1.set 2 (.int .i64 rc.x2)
          have HM_17s2 := Mine.setBox HM_17s1 NB6_17s1 (by decide) 2 (.int .i64 rc.x2)
          have LO_17s3 := LO_17s2.setCell (p := ⟨G13, 3, none⟩) hlt13 (.int .i64 rc.x3)
          have K0_17s3 := K0_17s2.set_other (p := ⟨G13, 3, none⟩) (by show G13 ≠ w.heap.size; omega) (.int .i64 rc.x3)
          have K1_17s3 := K1_17s2.set_other (p := ⟨G13, 3, none⟩) (by show G13 ≠ w.heap.size + 1; omega) (.int .i64 rc.x3)
          have NB6_17s3 := NB6_17s2.set 3 (.int .i64 rc.x3)
          have HM_17s3 := Mine.setBox HM_17s2 NB6_17s2 (by decide) 3 (.int .i64 rc.x3)
          have LO_17 := LO_17s3
          have K0_17 := K0_17s3
          have K1_17 := K1_17s3
          have NB6_17 : BoxIs ((((wq16.setCell ⟨G13, 0, none⟩ (.slice ya16 rc.n0 yp16)).setCell ⟨G13, 1, none⟩ (.int .i64 rc.x1)).setCell ⟨G13, 2, none⟩ (.int .i64 rc.x2)).setCell ⟨G13, 3, none⟩ (.int .i64 rc.x3)) G13 #[.slice ya16 rc.n0 yp16, .int .i64 rc.x1, .int .i64 rc.x2, .int .i64 rc.x3] 32 := NB6_17s3
          have HM_17 := HM_17s3
          refine hK.out _ _ ⟨K0_17, K1_17⟩ (fun hSz => ?_)
          clear hK K hSz HM_16 IV0_16 IV1_16 K0_16 K1_16 LO_16 NB6_16 LO_17s0 LO_17s1 LO_17s2 LO_17s3 K0_17s0 K0_17s1 K0_17s2 K0_17s3 K1_17s0 K1_17s1 K1_17s2 K1_17s3 NB6_17s0 NB6_17s1 NB6_17s2 NB6_17s3 HM_17s0 HM_17s1 HM_17s2 HM_17s3
          generalize (((wq16.setCell ⟨G13, 0, none⟩ (.slice ya16 rc.n0 yp16)).setCell ⟨G13, 1, none⟩ (.int .i64 rc.x1)).setCell ⟨G13, 2, none⟩ (.int .i64 rc.x2)).setCell ⟨G13, 3, none⟩ (.int .i64 rc.x3) = wq17 at LO_17 K0_17 K1_17 NB6_17 HM_17 ⊢
          refine wpAnyH_take (i := 10) (v := .bool rb) nat10 (by kernel_rfl) (by kernel_rfl) (by kernel_rfl) (fun _ _ _ h => False.elim h) (Or.inl ⟨by rfl, ?_⟩) ⟨K0_17, K1_17⟩ ?_
          · intro wx hSw
            go_simp
          simp only [Act.put, List.setIfInBounds_toArray, List.set_cons_zero, List.set_cons_succ]
          refine wpAnyH_done (by kernel_rfl) ?_ _
          refine NoPanic.normal ?_
          go_wp2_with fail
          go_meet
          exact ⟨G13, ya16, yp16, rfl, rfl, hlt13, hide LO_17, hide NB6_17, hide HM_17⟩
      case rest =>
      obtain ⟨Fw, wa, wp, rfl, rfl, hFNw, HBc, HXw, HMw⟩ := hcut
      obtain ⟨Vw, rfl⟩ : ∃ V, V = wc := ⟨_, rfl⟩
      have HB := hide (HB.out.trans (HBc.out.mono HB.out.size))
      have hBw := HBc.out.size
      have hXwl := HXw.out.lt
      clear HBc
      have HCw : Hid (Below Vw.heap.size Vw Vw) := Below.refl _ _
      have k0_0 := (HK0.out.next HB.out).cell 0
      have k0_1 := (HK0.out.next HB.out).cell 1
      have k0_2 := (HK0.out.next HB.out).cell 2
      have k0_3 := (HK0.out.next HB.out).cell 3
      go_wp2_with fail
      clear k0_0 k0_1 k0_2 k0_3
      refine (laws_toVersion (.agg #[.slice a0_0 c0.n0 p0_0, .int .i64 c0.x1, .int .i64 c0.x2, .int .i64 c0.x3]) c0 Vw hf0 (HV0.out.next HB.out)).mono ?_
      rintro e w2 ⟨gx0_0, rfl, hgx0_0, hrowx0_0, hb2⟩
      have HB := hide (HB.out.trans (hb2.mono HB.out.size))
      have HCw := hide (HCw.out.trans (hb2.mono HCw.out.size))
      have hsz2 := hb2.size
      clear hb2
      have hgl0_0 := hrowx0_0.lt
      have hbx0 := below_one w2 (.cells #[.slice (some ⟨gx0_0, 0, none⟩) c0.n0 c0.n0, .int .i64 c0.x1, .int .i64 c0.x2, .int .i64 c0.x3] 32)
      have HIx0 := ((VersionIs.of_rows hrowx0_0).next hbx0).hid
      have HRx0_0 := hidRowB (entRow_below hrowx0_0 hbx0 hgl0_0)
      have HKx0 := (BoxIs.new w2 #[.slice (some ⟨gx0_0, 0, none⟩) c0.n0 c0.n0, .int .i64 c0.x1, .int .i64 c0.x2, .int .i64 c0.x3] 32 rfl).hid
      have HB := hide (HB.out.trans (hbx0.mono HB.out.size))
      have HCw := hide (HCw.out.trans (hbx0.mono HCw.out.size))
      clear hbx0 hrowx0_0
      have k1_0 := (HK1.out.next HB.out).cell 0
      have k1_1 := (HK1.out.next HB.out).cell 1
      have k1_2 := (HK1.out.next HB.out).cell 2
      have k1_3 := (HK1.out.next HB.out).cell 3
      have k1_4 := (HK1.out.next HB.out).cell 4
      go_wp2_with fail
      clear k1_0 k1_1 k1_2 k1_3 k1_4
      generalize hWX : w2.alloc (.cells #[.slice (some ⟨gx0_0, 0, none⟩) c0.n0 c0.n0, .int .i64 c0.x1, .int .i64 c0.x2, .int .i64 c0.x3] 32) = X0 at HIx0 HKx0 HRx0_0 HB HCw ⊢
      clear hWX
      obtain ⟨Fx0, hFx0⟩ : ∃ F, w2.heap.size = F := ⟨_, rfl⟩
      rw [hFx0] at HKx0 hgl0_0 ⊢
      clear hFx0
      have hFxl0 := HKx0.out.lt
      have HCx0 : Hid (Below X0.heap.size X0 X0) := Below.refl _ _
      refine (laws_toEdit (.agg #[.slice a1_0 c1.n0 p1_0, .slice a1_1 c1.n1 p1_1, .int .i64 c1.x2, .int .i64 c1.x3, .int .i64 c1.x4]) c1 X0 hf1 (HV1.out.next HB.out)).mono ?_
      rintro e w3 ⟨gx1_0, gx1_1, rfl, hgx1_0, hrowx1_0, hgx1_1, hrowx1_1, hgo1_0, hb3⟩
      have HB := hide (HB.out.trans (hb3.mono HB.out.size))
      have HCw := hide (HCw.out.trans (hb3.mono HCw.out.size))
      have HCx0 := hide (HCx0.out.trans (hb3.mono HCx0.out.size))
      have hsz3 := hb3.size
      clear hb3
      have hgl1_0 := hrowx1_0.lt
      have hgl1_1 := hrowx1_1.lt
      have hbx1 := below_one w3 (.cells #[.slice (some ⟨gx1_0, 0, none⟩) c1.n0 c1.n0, .slice (some ⟨gx1_1, 0, none⟩) c1.n1 c1.n1, .int .i64 c1.x2, .int .i64 c1.x3, .int .i64 c1.x4] 37)
      have HIx1 := ((EditSrc.of_rows hrowx1_0 hrowx1_1).next hbx1).hid
      have HRx1_0 := hidRowB (entRow_below hrowx1_0 hbx1 hgl1_0)
      have HRx1_1 := hidRowB (entRow_below hrowx1_1 hbx1 hgl1_1)
      have HKx1 := (BoxIs.new w3 #[.slice (some ⟨gx1_0, 0, none⟩) c1.n0 c1.n0, .slice (some ⟨gx1_1, 0, none⟩) c1.n1 c1.n1, .int .i64 c1.x2, .int .i64 c1.x3, .int .i64 c1.x4] 37 rfl).hid
      have HB := hide (HB.out.trans (hbx1.mono HB.out.size))
      have HCw := hide (HCw.out.trans (hbx1.mono HCw.out.size))
      have HCx0 := hide (HCx0.out.trans (hbx1.mono HCx0.out.size))
      clear hbx1 hrowx1_0 hrowx1_1
      have m0_0 := (HKx0.out.next HCx0.out).cell 0
      have m0_1 := (HKx0.out.next HCx0.out).cell 1
      have m0_2 := (HKx0.out.next HCx0.out).cell 2
      have m0_3 := (HKx0.out.next HCx0.out).cell 3
      go_wp2_with fail
      clear m0_0 m0_1 m0_2 m0_3
      generalize hWX : w3.alloc (.cells #[.slice (some ⟨gx1_0, 0, none⟩) c1.n0 c1.n0, .slice (some ⟨gx1_1, 0, none⟩) c1.n1 c1.n1, .int .i64 c1.x2, .int .i64 c1.x3, .int .i64 c1.x4] 37) = X1 at HIx1 HKx1 HRx1_0 HRx1_1 HB HCw HCx0 ⊢
      clear hWX
      obtain ⟨Fx1, hFx1⟩ : ∃ F, w3.heap.size = F := ⟨_, rfl⟩
      rw [hFx1] at HKx1 hgl1_0 hgl1_1 ⊢
      clear hFx1
      have hFxl1 := HKx1.out.lt
      have HCx1 : Hid (Below X1.heap.size X1 X1) := Below.refl _ _
      refine (ci (.agg #[.slice (some ⟨gx0_0, 0, none⟩) c0.n0 c0.n0, .int .i64 c0.x1, .int .i64 c0.x2, .int .i64 c0.x3]) (.agg #[.slice (some ⟨gx1_0, 0, none⟩) c1.n0 c1.n0, .slice (some ⟨gx1_1, 0, none⟩) c1.n1 c1.n1, .int .i64 c1.x2, .int .i64 c1.x3, .int .i64 c1.x4]) X1 (HIx0.out.next HCx0.out) (HIx1.out.next HCx1.out)).mono ?_
      rintro e w4 ⟨⟨ug, rfl, hog⟩, hb4⟩
      have HB := hide (HB.out.trans (hb4.mono HB.out.size))
      have HCw := hide (HCw.out.trans (hb4.mono HCw.out.size))
      have HCx0 := hide (HCx0.out.trans (hb4.mono HCx0.out.size))
      have HCx1 := hide (HCx1.out.trans (hb4.mono HCx1.out.size))
      have hsz4 := hb4.size
      clear hb4
      obtain ⟨ga, gp, rfl, hMg⟩ := hog
      have hBg := hsz4
      have HLg := hide hMg.lt
      have hbb := below_one w4 (.cells #[.slice ga rc.n0 gp, .int .i64 rc.x1, .int .i64 rc.x2, .int .i64 rc.x3] 32)
      have HMg := (hMg.next hbb).hid
      have HXg := (BoxIs.new w4 #[.slice ga rc.n0 gp, .int .i64 rc.x1, .int .i64 rc.x2, .int .i64 rc.x3] 32 rfl).hid
      have HB := hide (HB.out.trans (hbb.mono HB.out.size))
      have HCw := hide (HCw.out.trans (hbb.mono HCw.out.size))
      have HCx0 := hide (HCx0.out.trans (hbb.mono HCx0.out.size))
      have HCx1 := hide (HCx1.out.trans (hbb.mono HCx1.out.size))
      clear hbb hMg
      have kb0 := (HXw.out.next HCw.out).cell 0
      have kb1 := (HXw.out.next HCw.out).cell 1
      have kb2 := (HXw.out.next HCw.out).cell 2
      have kb3 := (HXw.out.next HCw.out).cell 3
      go_wp2_with fail
      clear kb0 kb1 kb2 kb3
      generalize hWX : w4.alloc (.cells #[.slice ga rc.n0 gp, .int .i64 rc.x1, .int .i64 rc.x2, .int .i64 rc.x3] 32) = Vg at HMg HXg HB HCw HCx0 HCx1 ⊢
      clear hWX
      obtain ⟨Fg, hFg⟩ : ∃ F, w4.heap.size = F := ⟨_, rfl⟩
      rw [hFg] at HXg HLg hBg ⊢
      clear hFg
      have hXgl := HXg.out.lt
      have HCg : Hid (Below Vg.heap.size Vg Vg) := Below.refl _ _
      refine (laws_eqVersion _ _ rc Vg hrf (VersionIs.of_mine (HMg.out.next HCg.out)) (VersionIs.of_mine (HMw.out.next HCw.out))).mono ?_
      rintro e w5 ⟨rfl, hb5⟩
      have HB := hide (HB.out.trans (hb5.mono HB.out.size))
      have HCw := hide (HCw.out.trans (hb5.mono HCw.out.size))
      have HCx0 := hide (HCx0.out.trans (hb5.mono HCx0.out.size))
      have HCx1 := hide (HCx1.out.trans (hb5.mono HCx1.out.size))
      have HCg := hide (HCg.out.trans (hb5.mono HCg.out.size))
      have hsz5 := hb5.size
      clear hb5
      go_wp2_with fail
      refine wp_region_noPanic ?_
      refine wp_region_held_drew (S := fun w' => BoxIs w' (w.heap.size) #[.slice a0_0 c0.n0 p0_0, .int .i64 c0.x1, .int .i64 c0.x2, .int .i64 c0.x3] 24 ∧ BoxIs w' Fx0 #[.slice (some ⟨gx0_0, 0, none⟩) c0.n0 c0.n0, .int .i64 c0.x1, .int .i64 c0.x2, .int .i64 c0.x3] 32 ∧ Below w5.heap.size w5 w') (by kernel_rfl) ⟨(HK0.out.next HB.out).next (Below.refl _ _).drew, (HKx0.out.next HCx0.out).next (Below.refl _ _).drew, (Below.refl _ _).drew⟩ (fun hHeld => ?_)
      refine wpAnyH_take (i := 0) (v := .agg #[.slice (some ⟨gx0_0, 0, none⟩) c0.n0 c0.n0, .int .i64 c0.x1, .int .i64 c0.x2, .int .i64 c0.x3]) nat0 (by kernel_rfl) (by kernel_rfl) (by kernel_rfl) (fun _ _ _ h => False.elim h) (Or.inl ⟨by rfl, ?_⟩) hHeld ?_
      · intro wx hSw
        have y0 := hSw.2.1.cell 0
        have y1 := hSw.2.1.cell 1
        have y2 := hSw.2.1.cell 2
        have y3 := hSw.2.1.cell 3
        go_simp
      simp only [Act.put, List.setIfInBounds_toArray, List.set_cons_zero, List.set_cons_succ]
      refine wpAnyH_take (i := 1) (v := .agg #[.slice a0_0 c0.n0 p0_0, .int .i64 c0.x1, .int .i64 c0.x2, .int .i64 c0.x3]) nat1 (by kernel_rfl) (by kernel_rfl) (by kernel_rfl) (fun _ _ _ h => False.elim h) (Or.inl ⟨by rfl, ?_⟩) hHeld ?_
      · intro wx hSw
        have y0 := hSw.1.cell 0
        have y1 := hSw.1.cell 1
        have y2 := hSw.1.cell 2
        have y3 := hSw.1.cell 3
        go_simp
      simp only [Act.put, List.setIfInBounds_toArray, List.set_cons_zero, List.set_cons_succ]
      refine wpAnyH_ready (rs := [2]) (by kernel_rfl) (by simp) ?_
      refine AllReadyH.cons nat2 (fun K hK => ?_) AllReadyH.nil
      go_simp
      go_at_call 10
      have hH0 := HB.out.trans (hHeld.2.2.mono HB.out.size)
      have hX0 := HCx0.out.trans (hHeld.2.2.mono HCx0.out.size)
      refine (laws_toVersion (.agg #[.slice a0_0 c0.n0 p0_0, .int .i64 c0.x1, .int .i64 c0.x2, .int .i64 c0.x3]) c0 _ hf0 (HV0.out.next hH0)).mono ?_
      rintro e wa0 ⟨gy0_0, rfl, _, hrowy0_0, hba0⟩
      have HIy0 := (VersionIs.of_rows hrowy0_0).hid
      have HIz0 := ((HIx0.out.next hX0).next hba0).hid
      refine hK.out _ _ ⟨hHeld.1.next hba0, hHeld.2.1.next hba0, hHeld.2.2.trans (hba0.mono hHeld.2.2.size)⟩ (fun hHeld2 => ?_)
      clear hK K hHeld hH0 hX0 hba0 hrowy0_0
      refine wpAnyH_ready (rs := [3]) (by kernel_rfl) (by simp) ?_
      refine AllReadyH.cons nat3 (fun K hK => ?_) AllReadyH.nil
      go_simp
      go_at_call 13
      refine (laws_eqVersion _ _ c0 _ hf0 HIz0.out HIy0.out).mono ?_
      rintro e wb0 ⟨rfl, hbb0⟩
      refine hK.out _ _ ⟨hHeld2.1.next hbb0, hHeld2.2.1.next hbb0, hHeld2.2.2.trans (hbb0.mono hHeld2.2.2.size)⟩ (fun hHeld3 => ?_)
      clear hK K hHeld2 hbb0 HIz0 HIy0
      refine wpAnyH_take (i := 4) (v := .bool false) nat4 (by kernel_rfl) (by kernel_rfl) (by kernel_rfl) (fun _ _ _ h => False.elim h) (Or.inl ⟨by rfl, ?_⟩) hHeld3 ?_
      · intro wx hSw
        go_simp
      simp only [Act.put, List.setIfInBounds_toArray, List.set_cons_zero, List.set_cons_succ]
      refine wpAnyH_done (by kernel_rfl) ?_ _
      refine NoPanic.normal ?_
      have HB := hide (HB.out.trans (hHeld3.2.2.mono HB.out.size))
      have HCw := hide (HCw.out.trans (hHeld3.2.2.mono HCw.out.size))
      have HCx0 := hide (HCx0.out.trans (hHeld3.2.2.mono HCx0.out.size))
      have HCx1 := hide (HCx1.out.trans (hHeld3.2.2.mono HCx1.out.size))
      have HCg := hide (HCg.out.trans (hHeld3.2.2.mono HCg.out.size))
      clear hHeld3
      go_wp2_with fail
      refine wp_region_noPanic ?_
      refine wp_region_held_drew (S := fun w' => BoxIs w' (w.heap.size + 1) #[.slice a1_0 c1.n0 p1_0, .slice a1_1 c1.n1 p1_1, .int .i64 c1.x2, .int .i64 c1.x3, .int .i64 c1.x4] 27 ∧ BoxIs w' Fx1 #[.slice (some ⟨gx1_0, 0, none⟩) c1.n0 c1.n0, .slice (some ⟨gx1_1, 0, none⟩) c1.n1 c1.n1, .int .i64 c1.x2, .int .i64 c1.x3, .int .i64 c1.x4] 37 ∧ Below wb0.heap.size wb0 w') (by kernel_rfl) ⟨(HK1.out.next HB.out).next (Below.refl _ _).drew, (HKx1.out.next HCx1.out).next (Below.refl _ _).drew, (Below.refl _ _).drew⟩ (fun hHeld => ?_)
      refine wpAnyH_take (i := 0) (v := .agg #[.slice (some ⟨gx1_0, 0, none⟩) c1.n0 c1.n0, .slice (some ⟨gx1_1, 0, none⟩) c1.n1 c1.n1, .int .i64 c1.x2, .int .i64 c1.x3, .int .i64 c1.x4]) nat0 (by kernel_rfl) (by kernel_rfl) (by kernel_rfl) (fun _ _ _ h => False.elim h) (Or.inl ⟨by rfl, ?_⟩) hHeld ?_
      · intro wx hSw
        have y0 := hSw.2.1.cell 0
        have y1 := hSw.2.1.cell 1
        have y2 := hSw.2.1.cell 2
        have y3 := hSw.2.1.cell 3
        have y4 := hSw.2.1.cell 4
        go_simp
      simp only [Act.put, List.setIfInBounds_toArray, List.set_cons_zero, List.set_cons_succ]
      refine wpAnyH_take (i := 1) (v := .agg #[.slice a1_0 c1.n0 p1_0, .slice a1_1 c1.n1 p1_1, .int .i64 c1.x2, .int .i64 c1.x3, .int .i64 c1.x4]) nat1 (by kernel_rfl) (by kernel_rfl) (by kernel_rfl) (fun _ _ _ h => False.elim h) (Or.inl ⟨by rfl, ?_⟩) hHeld ?_
      · intro wx hSw
        have y0 := hSw.1.cell 0
        have y1 := hSw.1.cell 1
        have y2 := hSw.1.cell 2
        have y3 := hSw.1.cell 3
        have y4 := hSw.1.cell 4
        go_simp
      simp only [Act.put, List.setIfInBounds_toArray, List.set_cons_zero, List.set_cons_succ]
      refine wpAnyH_ready (rs := [2]) (by kernel_rfl) (by simp) ?_
      refine AllReadyH.cons nat2 (fun K hK => ?_) AllReadyH.nil
      go_simp
      go_at_call 11
      have hH1 := HB.out.trans (hHeld.2.2.mono HB.out.size)
      have hX1 := HCx1.out.trans (hHeld.2.2.mono HCx1.out.size)
      refine (laws_toEdit (.agg #[.slice a1_0 c1.n0 p1_0, .slice a1_1 c1.n1 p1_1, .int .i64 c1.x2, .int .i64 c1.x3, .int .i64 c1.x4]) c1 _ hf1 (HV1.out.next hH1)).mono ?_
      rintro e wa1 ⟨gy1_0, gy1_1, rfl, _, hrowy1_0, _, hrowy1_1, _, hba1⟩
      have HIy1 := (EditIs.of_rows hrowy1_0 hrowy1_1).hid
      have HIz1 := ((HIx1.out.next hX1).next hba1).hid
      refine hK.out _ _ ⟨hHeld.1.next hba1, hHeld.2.1.next hba1, hHeld.2.2.trans (hba1.mono hHeld.2.2.size)⟩ (fun hHeld2 => ?_)
      clear hK K hHeld hH1 hX1 hba1 hrowy1_0 hrowy1_1
      refine wpAnyH_ready (rs := [3]) (by kernel_rfl) (by simp) ?_
      refine AllReadyH.cons nat3 (fun K hK => ?_) AllReadyH.nil
      go_simp
      go_at_call 14
      refine (laws_eqEdit _ _ c1 _ hf1 HIz1.out.is HIy1.out).mono ?_
      rintro e wb1 ⟨rfl, hbb1⟩
      refine hK.out _ _ ⟨hHeld2.1.next hbb1, hHeld2.2.1.next hbb1, hHeld2.2.2.trans (hbb1.mono hHeld2.2.2.size)⟩ (fun hHeld3 => ?_)
      clear hK K hHeld2 hbb1 HIz1 HIy1
      refine wpAnyH_take (i := 4) (v := .bool false) nat4 (by kernel_rfl) (by kernel_rfl) (by kernel_rfl) (fun _ _ _ h => False.elim h) (Or.inl ⟨by rfl, ?_⟩) hHeld3 ?_
      · intro wx hSw
        go_simp
      simp only [Act.put, List.setIfInBounds_toArray, List.set_cons_zero, List.set_cons_succ]
      refine wpAnyH_done (by kernel_rfl) ?_ _
      refine NoPanic.normal ?_
      have HB := hide (HB.out.trans (hHeld3.2.2.mono HB.out.size))
      have HCw := hide (HCw.out.trans (hHeld3.2.2.mono HCw.out.size))
      have HCx0 := hide (HCx0.out.trans (hHeld3.2.2.mono HCx0.out.size))
      have HCx1 := hide (HCx1.out.trans (hHeld3.2.2.mono HCx1.out.size))
      have HCg := hide (HCg.out.trans (hHeld3.2.2.mono HCg.out.size))
      clear hHeld3
      have ka0 := (HKx0.out.next HCx0.out).cell 0
      have ka1 := (HKx0.out.next HCx0.out).cell 1
      have ka2 := (HKx0.out.next HCx0.out).cell 2
      have ka3 := (HKx0.out.next HCx0.out).cell 3
      go_wp2_with fail
      clear ka0 ka1 ka2 ka3
      have HRn0 := hidRowB (entRow_below HRx0_0.out HCx0.out HRx0_0.out.lt)
      refine (laws_markVersion (1) _ (by first | rfl | (push_cast; omega)) (by have := hf0; unfold VersionC.Fit at this; omega) (some ⟨gx0_0, 0, none⟩) c0.n0 gx0_0 c0 wb1 hf0 (.inr rfl) (rowIs_mark HRn0.out)).mono ?_
      rintro e w6 ⟨rfl, hm0, _⟩
      have HB := hide (HB.out.trans (hm0.below HB.out.size (by omega)))
      have HCw := hide (HCw.out.trans (hm0.below HCw.out.size (by omega)))
      have HMg := ((HMg.out.next HCg.out).mv hm0 (by omega)).hid
      have HXg := ((HXg.out.next HCg.out).mv hm0 (by omega)).hid
      have HCg : Hid (Below w6.heap.size w6 w6) := Below.refl _ _
      have HRx1_0 := hidRowB (rowIs_mv (entRow_below HRx1_0.out HCx1.out HRx1_0.out.lt) hm0 (by omega))
      have HRx1_1 := hidRowB (rowIs_mv (entRow_below HRx1_1.out HCx1.out HRx1_1.out.lt) hm0 (by omega))
      have HKx1 := ((HKx1.out.next HCx1.out).mv hm0 (by omega)).hid
      have HCx1 : Hid (Below w6.heap.size w6 w6) := Below.refl _ _
      have hszm0_0 := hm0.size
      clear HRn0 hm0 HCx0 HRx0_0 HKx0 HIx0
      have ka0 := (HKx1.out.next HCx1.out).cell 0
      have ka1 := (HKx1.out.next HCx1.out).cell 1
      have ka2 := (HKx1.out.next HCx1.out).cell 2
      have ka3 := (HKx1.out.next HCx1.out).cell 3
      have ka4 := (HKx1.out.next HCx1.out).cell 4
      go_wp2_with fail
      clear ka0 ka1 ka2 ka3 ka4
      have HRn0 := hidRowB (entRow_below HRx1_0.out HCx1.out HRx1_0.out.lt)
      have HRn1 := hidRowB (entRow_below HRx1_1.out HCx1.out HRx1_1.out.lt)
      have hfit0 := hf0; unfold VersionC.Fit at hfit0
      have hfit1 := hf1; unfold EditC.Fit at hfit1
      refine (laws_markEdit (1 + c0.n0 * 5) _ (by first | rfl | (push_cast; omega)) (by omega) (some ⟨gx1_0, 0, none⟩) c1.n0 gx1_0 (some ⟨gx1_1, 0, none⟩) c1.n1 gx1_1 c1 w6 hf1 (.inr rfl) (rowIs_mark HRn0.out) (.inr rfl) (rowIs_mark HRn1.out) (by omega) HRn0.out.lt HRn1.out.lt).mono ?_
      rintro e w7 ⟨rfl, wm7, hm0, hm1⟩
      have HB := hide (HB.out.trans (hm0.below HB.out.size (by omega)))
      have HCw := hide (HCw.out.trans (hm0.below HCw.out.size (by omega)))
      have HMg := ((HMg.out.next HCg.out).mv hm0 (by omega)).hid
      have HXg := ((HXg.out.next HCg.out).mv hm0 (by omega)).hid
      have HCg : Hid (Below wm7.heap.size wm7 wm7) := Below.refl _ _
      have hszm1_0 := hm0.size
      have HB := hide (HB.out.trans (hm1.below HB.out.size (by omega)))
      have HCw := hide (HCw.out.trans (hm1.below HCw.out.size (by omega)))
      have HMg := ((HMg.out.next HCg.out).mv hm1 (by omega)).hid
      have HXg := ((HXg.out.next HCg.out).mv hm1 (by omega)).hid
      have HCg : Hid (Below w7.heap.size w7 w7) := Below.refl _ _
      have hszm1_1 := hm1.size
      clear HRn0 hm0 HRn1 hm1 HCx1 HRx1_0 HRx1_1 HKx1 HIx1
      have hfn0 := hf0; unfold VersionC.Fit at hfn0
      have hfn1 := hf1; unfold EditC.Fit at hfn1
      have hposx : ¬ (((1 + c0.n0 * 5 + c1.n0 * 5 + c1.n1 : Nat) : Int) < 0) := by omega
      have ka0 := (HXg.out.next HCg.out).cell 0
      have kb0 := (HXw.out.next HCw.out).cell 0
      have ka1 := (HXg.out.next HCg.out).cell 1
      have kb1 := (HXw.out.next HCw.out).cell 1
      have ka2 := (HXg.out.next HCg.out).cell 2
      have kb2 := (HXw.out.next HCw.out).cell 2
      have ka3 := (HXg.out.next HCg.out).cell 3
      have kb3 := (HXw.out.next HCw.out).cell 3
      go_wp2_with fail
      clear ka0 kb0 ka1 kb1 ka2 kb2 ka3 kb3
      refine (laws_eqVersion _ _ rc w7 hrf (VersionIs.of_mine (HMg.out.next HCg.out)) (VersionIs.of_mine (HMw.out.next HCw.out))).mono ?_
      rintro e w8 ⟨rfl, hb8⟩
      have HB := hide (HB.out.trans (hb8.mono HB.out.size))
      have HCw := hide (HCw.out.trans (hb8.mono HCw.out.size))
      have HCg := hide (HCg.out.trans (hb8.mono HCg.out.size))
      have hsz8 := hb8.size
      clear hb8
      have ka0 := (HXg.out.next HCg.out).cell 0
      have ka1 := (HXg.out.next HCg.out).cell 1
      have ka2 := (HXg.out.next HCg.out).cell 2
      have ka3 := (HXg.out.next HCg.out).cell 3
      go_wp2_with fail
      clear ka0 ka1 ka2 ka3
      obtain ⟨g, hga, hgl, hgw⟩ := (HMg.out.next HCg.out).mark w8.heap.size
      have hCgs := HCg.out.size
      have hCws := HCw.out.size
      have hBs := HB.out.size
      have hXg8 := (HXg.out.next HCg.out).lt
      have hgF : g ≠ Fg := by
        rcases hgl with h | ⟨h, _, _⟩
        · omega
        · have := HLg.out g h; omega
      refine (laws_markVersion 1 1 rfl ⟨by omega, by omega⟩ ga gp g rc w8 hrf hga hgw).mono ?_
      rintro e w9 ⟨rfl, hm, hok⟩
      have HB := hide (HB.out.trans (hm.below HB.out.size (by omega)))
      have HCw := hide (HCw.out.trans (hm.below HCw.out.size (by omega)))
      have HXg := ((HXg.out.next HCg.out).mv hm (fun h => hgF h.symm)).hid
      have HOK := hide hok
      have HCg : Hid (Below w9.heap.size w9 w9) := Below.refl _ _
      clear hm hok hgw hgl hCgs hCws hBs HMg
      have ka0 := (HXg.out.next HCg.out).cell 0
      have ka1 := (HXg.out.next HCg.out).cell 1
      have ka2 := (HXg.out.next HCg.out).cell 2
      have ka3 := (HXg.out.next HCg.out).cell 3
      go_wp2_with fail
      clear ka0 ka1 ka2 ka3
      have hkc := fun j hj => keepc HCg.out (HOK.out j hj)
      refine (laws_heldVersion 1 1 rfl ⟨by omega, by omega⟩ ga gp g rc w9 hrf hga hkc).mono ?_
      rintro e w10 ⟨rfl, hb10⟩
      have HB := hide (HB.out.trans (hb10.mono HB.out.size))
      have HCw := hide (HCw.out.trans (hb10.mono HCw.out.size))
      have HCg := hide (HCg.out.trans (hb10.mono HCg.out.size))
      have hsz10 := hb10.size
      clear hb10
      clear hkc
      have hpos : ¬ (((1 + rc.n0 * 5 : Nat) : Int) < 0) := by omega
      go_upto_region 31 with fail
      go_cut [15, 16] (fun tp tq wx => ∃ (N : Nat) (a : Option Addr) (p : Nat), tp = .pointer (some ⟨N, 0, none⟩) ∧ tq = .bool rb ∧ w10.heap.size ≤ N ∧ Hid (Below w10.heap.size w10 wx) ∧ Hid (BoxIs wx N #[.slice a rc.n0 p, .int .i64 rc.x1, .int .i64 rc.x2, .int .i64 rc.x3] 32) ∧ Hid (Mine wx w10.heap.size 59 5 a p rc.n0 (metaCell rc.r0)))
      case first =>
        have LO : Below w10.heap.size w10 w10 := Below.refl _ _
        have hWs := HB.out.size
        have K0 := HK0.out.next HB.out
        have K1 := HK1.out.next HB.out
        refine wp_region_noPanic ?_
        have hb0 : Below w10.heap.size w10 w10.drew := (Below.refl _ _).drew
        have LO_0 := LO.trans (hb0.mono LO.size)
        have K0_0 := K0.next hb0
        have K1_0 := K1.next hb0
        refine wp_region_held_drew (S := fun x => BoxIs x (w.heap.size) #[.slice a0_0 c0.n0 p0_0, .int .i64 c0.x1, .int .i64 c0.x2, .int .i64 c0.x3] 24 ∧ BoxIs x (w.heap.size + 1) #[.slice a1_0 c1.n0 p1_0, .slice a1_1 c1.n1 p1_1, .int .i64 c1.x2, .int .i64 c1.x3, .int .i64 c1.x4] 27) (by kernel_rfl) ⟨K0_0, K1_0⟩ (fun hSz => ?_)
        clear hSz K0 K1 LO
        generalize w10.drew = wq0 at hb0 LO_0 K0_0 K1_0 ⊢
        clear hb0
        refine wpAnyH_take (i := 0) (v := .agg #[.slice a0_0 c0.n0 p0_0, .int .i64 c0.x1, .int .i64 c0.x2, .int .i64 c0.x3]) nat0 (by kernel_rfl) (by kernel_rfl) (by kernel_rfl) (fun _ _ _ h => False.elim h) (Or.inl ⟨by rfl, ?_⟩) ⟨K0_0, K1_0⟩ ?_
        · intro wx hSw
          have y0 := hSw.1.cell 0
          have y1 := hSw.1.cell 1
          have y2 := hSw.1.cell 2
          have y3 := hSw.1.cell 3
          simp only [List.getElem?_toArray, List.getElem?_cons_succ, List.getElem?_cons_zero] at y0 y1 y2 y3
          go_simp
        simp only [Act.put, List.setIfInBounds_toArray, List.set_cons_zero, List.set_cons_succ]
        refine wpAnyH_take (i := 2) (v := .agg #[.slice a1_0 c1.n0 p1_0, .slice a1_1 c1.n1 p1_1, .int .i64 c1.x2, .int .i64 c1.x3, .int .i64 c1.x4]) nat2 (by kernel_rfl) (by kernel_rfl) (by kernel_rfl) (fun _ _ _ h => False.elim h) (Or.inl ⟨by rfl, ?_⟩) ⟨K0_0, K1_0⟩ ?_
        · intro wx hSw
          have y0 := hSw.2.cell 0
          have y1 := hSw.2.cell 1
          have y2 := hSw.2.cell 2
          have y3 := hSw.2.cell 3
          have y4 := hSw.2.cell 4
          simp only [List.getElem?_toArray, List.getElem?_cons_succ, List.getElem?_cons_zero] at y0 y1 y2 y3 y4
          go_simp
        simp only [Act.put, List.setIfInBounds_toArray, List.set_cons_zero, List.set_cons_succ]
        refine wpAnyH_ready (rs := [1, 8]) (by kernel_rfl) (by simp) ?_
        refine AllReadyH.cons nat1 (fun K hK => ?_) (AllReadyH.cons nat8 (fun K hK => ?_) AllReadyH.nil)
        · go_simp
          go_at_call 10
          refine (laws_toVersion (.agg #[.slice a0_0 c0.n0 p0_0, .int .i64 c0.x1, .int .i64 c0.x2, .int .i64 c0.x3]) c0 wq0 hf0 (HV0.out.next (HB.out.trans (LO_0.mono HB.out.size)))).mono ?_
          rintro e wq1 ⟨gy1_0, rfl, _, hy1_0, hb1⟩
          have LO_1 := LO_0.trans (hb1.mono LO_0.size)
          have K0_1 := K0_0.next hb1
          have K1_1 := K1_0.next hb1
          have IV0_1 := VersionIs.of_rows hy1_0
          refine hK.out _ _ ⟨K0_1, K1_1⟩ (fun hSz => ?_)
          clear hK K hSz K0_0 K1_0 LO_0 hb1 hy1_0
          refine wpAnyH_ready (rs := [3, 8]) (by kernel_rfl) (by simp) ?_
          refine AllReadyH.cons nat3 (fun K hK => ?_) (AllReadyH.cons nat8 (fun K hK => ?_) AllReadyH.nil)
          · go_simp
            go_at_call 11
            refine (laws_toEdit (.agg #[.slice a1_0 c1.n0 p1_0, .slice a1_1 c1.n1 p1_1, .int .i64 c1.x2, .int .i64 c1.x3, .int .i64 c1.x4]) c1 wq1 hf1 (HV1.out.next (HB.out.trans (LO_1.mono HB.out.size)))).mono ?_
            rintro e wq2 ⟨gy2_0, gy2_1, rfl, _, hy2_0, _, hy2_1, _, hb2⟩
            have LO_2 := LO_1.trans (hb2.mono LO_1.size)
            have K0_2 := K0_1.next hb2
            have K1_2 := K1_1.next hb2
            have IV0_2 := IV0_1.next hb2
            have IV1_2 := EditSrc.of_rows hy2_0 hy2_1
            refine hK.out _ _ ⟨K0_2, K1_2⟩ (fun hSz => ?_)
            clear hK K hSz IV0_1 K0_1 K1_1 LO_1 hb2 hy2_0 hy2_1
            refine wpAnyH_ready (rs := [4, 8]) (by kernel_rfl) (by simp) ?_
            refine AllReadyH.cons nat4 (fun K hK => ?_) (AllReadyH.cons nat8 (fun K hK => ?_) AllReadyH.nil)
            · go_simp
              go_at_call 12
              refine (ci (.agg #[.slice (some ⟨gy1_0, 0, none⟩) c0.n0 c0.n0, .int .i64 c0.x1, .int .i64 c0.x2, .int .i64 c0.x3]) (.agg #[.slice (some ⟨gy2_0, 0, none⟩) c1.n0 c1.n0, .slice (some ⟨gy2_1, 0, none⟩) c1.n1 c1.n1, .int .i64 c1.x2, .int .i64 c1.x3, .int .i64 c1.x4]) wq2 IV0_2 IV1_2).mono ?_
              rintro e wq3 ⟨⟨u3, rfl, ho3⟩, hb3⟩
              obtain ⟨ya3, yp3, rfl, hM3⟩ := ho3
              have LO_3 := LO_2.trans (hb3.mono LO_2.size)
              have K0_3 := K0_2.next hb3
              have K1_3 := K1_2.next hb3
              have IV0_3 := IV0_2.next hb3
              have IV1_3 := IV1_2.next hb3
              have HM_3 := (show Mine _ w10.heap.size 59 5 ya3 yp3 rc.n0 (metaCell rc.r0) from hM3.base LO_2.size)
              refine hK.out _ _ ⟨K0_3, K1_3⟩ (fun hSz => ?_)
              clear hK K hSz IV0_2 IV1_2 K0_2 K1_2 LO_2 hb3 hM3
              refine wpAnyH_take (i := 5) (v := .tuple #[.agg #[.slice ya3 rc.n0 yp3, .int .i64 rc.x1, .int .i64 rc.x2, .int .i64 rc.x3], .bool rb]) nat5 (by kernel_rfl) (by kernel_rfl) (by kernel_rfl) (fun _ _ _ h => False.elim h) (Or.inl ⟨by rfl, ?_⟩) ⟨K0_3, K1_3⟩ ?_
              · intro wx hSw
                go_simp
              simp only [Act.put, List.setIfInBounds_toArray, List.set_cons_zero, List.set_cons_succ]
              refine wpAnyH_take (i := 6) (v := .agg #[.slice ya3 rc.n0 yp3, .int .i64 rc.x1, .int .i64 rc.x2, .int .i64 rc.x3]) nat6 (by kernel_rfl) (by kernel_rfl) (by kernel_rfl) (fun _ _ _ h => False.elim h) (Or.inl ⟨by rfl, ?_⟩) ⟨K0_3, K1_3⟩ ?_
              · intro wx hSw
                go_simp
              simp only [Act.put, List.setIfInBounds_toArray, List.set_cons_zero, List.set_cons_succ]
              refine wpAnyH_take (i := 7) (v := .bool rb) nat7 (by kernel_rfl) (by kernel_rfl) (by kernel_rfl) (fun _ _ _ h => False.elim h) (Or.inl ⟨by rfl, ?_⟩) ⟨K0_3, K1_3⟩ ?_
              · intro wx hSw
                go_simp
              simp only [Act.put, List.setIfInBounds_toArray, List.set_cons_zero, List.set_cons_succ]
              refine wpAnyH_ready (rs := [8]) (by kernel_rfl) (by simp) ?_
              refine AllReadyH.cons nat8 (fun K hK => ?_) AllReadyH.nil
              go_simp
              have hlt4 : w10.heap.size ≤ wq3.heap.size := LO_3.size
              have hb4 := below_one wq3 (.cells #[.slice none 0 0, .int .i64 0, .int .i64 0, .int .i64 0] 32)
              have LO_4 := LO_3.trans (hb4.mono LO_3.size)
              have K0_4 := K0_3.next hb4
              have K1_4 := K1_3.next hb4
              have IV0_4 := IV0_3.next hb4
              have IV1_4 := IV1_3.next hb4
              have HM_4 := HM_3.next hb4
              have NB15_4 := BoxIs.new wq3 #[.slice none 0 0, .int .i64 0, .int .i64 0, .int .i64 0] 32 rfl
              refine hK.out _ _ ⟨K0_4, K1_4⟩ (fun hSz => ?_)
              clear hK K hSz HM_3 IV0_3 IV1_3 K0_3 K1_3 LO_3
              obtain ⟨G4, hG4⟩ : ∃ G, G = wq3.heap.size := ⟨_, rfl⟩
              rw [← hG4] at NB15_4 ⊢
              generalize wq3.alloc (.cells #[.slice none 0 0, .int .i64 0, .int .i64 0, .int .i64 0] 32) = wq4 at hb4 LO_4 K0_4 K1_4 IV0_4 IV1_4 HM_4 NB15_4 ⊢
              rw [← hG4] at hlt4
              clear hG4 hb4
              refine wpAnyH_ready (rs := [9]) (by kernel_rfl) (by simp) ?_
              refine AllReadyH.cons nat9 (fun K hK => ?_) AllReadyH.nil
              have y0 := NB15_4.cell 0
              have y1 := NB15_4.cell 1
              have y2 := NB15_4.cell 2
              have y3 := NB15_4.cell 3
              simp only [List.getElem?_toArray, List.getElem?_cons_succ, List.getElem?_cons_zero] at y0 y1 y2 y3
              have yf := NB15_4.free
              go_simp
              clear yf y0 y1 y2 y3
              have LO_5s0 := LO_4.setCell (p := ⟨G4, 0, none⟩) hlt4 (.slice ya3 rc.n0 yp3)
              have K0_5s0 := K0_4.set_other (p := ⟨G4, 0, none⟩) (by show G4 ≠ w.heap.size; omega) (.slice ya3 rc.n0 yp3)
              have K1_5s0 := K1_4.set_other (p := ⟨G4, 0, none⟩) (by show G4 ≠ w.heap.size + 1; omega) (.slice ya3 rc.n0 yp3)
              have HM_5s0 := Mine.setBox HM_4 NB15_4 (by decide) 0 (.slice ya3 rc.n0 yp3)
              have NB15_5s0 := NB15_4.set 0 (.slice ya3 rc.n0 yp3)
              have LO_5s1 := LO_5s0.setCell (p := ⟨G4, 1, none⟩) hlt4 (.int .i64 rc.x1)
              have K0_5s1 := K0_5s0.set_other (p := ⟨G4, 1, none⟩) (by show G4 ≠ w.heap.size; omega) (.int .i64 rc.x1)
              have K1_5s1 := K1_5s0.set_other (p := ⟨G4, 1, none⟩) (by show G4 ≠ w.heap.size + 1; omega) (.int .i64 rc.x1)
              have HM_5s1 := Mine.setBox HM_5s0 NB15_5s0 (by decide) 1 (.int .i64 rc.x1)
              have NB15_5s1 := NB15_5s0.set 1 (.int .i64 rc.x1)
              have LO_5s2 := LO_5s1.setCell (p := ⟨G4, 2, none⟩) hlt4 (.int .i64 rc.x2)
              have K0_5s2 := K0_5s1.set_other (p := ⟨G4, 2, none⟩) (by show G4 ≠ w.heap.size; omega) (.int .i64 rc.x2)
              have K1_5s2 := K1_5s1.set_other (p := ⟨G4, 2, none⟩) (by show G4 ≠ w.heap.size + 1; omega) (.int .i64 rc.x2)
              have HM_5s2 := Mine.setBox HM_5s1 NB15_5s1 (by decide) 2 (.int .i64 rc.x2)
              have NB15_5s2 := NB15_5s1.set 2 (.int .i64 rc.x2)
              have LO_5s3 := LO_5s2.setCell (p := ⟨G4, 3, none⟩) hlt4 (.int .i64 rc.x3)
              have K0_5s3 := K0_5s2.set_other (p := ⟨G4, 3, none⟩) (by show G4 ≠ w.heap.size; omega) (.int .i64 rc.x3)
              have K1_5s3 := K1_5s2.set_other (p := ⟨G4, 3, none⟩) (by show G4 ≠ w.heap.size + 1; omega) (.int .i64 rc.x3)
              have HM_5s3 := Mine.setBox HM_5s2 NB15_5s2 (by decide) 3 (.int .i64 rc.x3)
              have NB15_5s3 := NB15_5s2.set 3 (.int .i64 rc.x3)
              have LO_5 := LO_5s3
              have K0_5 := K0_5s3
              have K1_5 := K1_5s3
              have HM_5 := HM_5s3
              have NB15_5 : BoxIs ((((wq4.setCell ⟨G4, 0, none⟩ (.slice ya3 rc.n0 yp3)).setCell ⟨G4, 1, none⟩ (.int .i64 rc.x1)).setCell ⟨G4, 2, none⟩ (.int .i64 rc.x2)).setCell ⟨G4, 3, none⟩ (.int .i64 rc.x3)) G4 #[.slice ya3 rc.n0 yp3, .int .i64 rc.x1, .int .i64 rc.x2, .int .i64 rc.x3] 32 := NB15_5s3
              refine hK.out _ _ ⟨K0_5, K1_5⟩ (fun hSz => ?_)
              clear hK K hSz HM_4 IV0_4 IV1_4 K0_4 K1_4 LO_4 NB15_4 LO_5s0 LO_5s1 LO_5s2 LO_5s3 K0_5s0 K0_5s1 K0_5s2 K0_5s3 K1_5s0 K1_5s1 K1_5s2 K1_5s3 HM_5s0 HM_5s1 HM_5s2 HM_5s3 NB15_5s0 NB15_5s1 NB15_5s2 NB15_5s3
              generalize (((wq4.setCell ⟨G4, 0, none⟩ (.slice ya3 rc.n0 yp3)).setCell ⟨G4, 1, none⟩ (.int .i64 rc.x1)).setCell ⟨G4, 2, none⟩ (.int .i64 rc.x2)).setCell ⟨G4, 3, none⟩ (.int .i64 rc.x3) = wq5 at LO_5 K0_5 K1_5 HM_5 NB15_5 ⊢
              refine wpAnyH_take (i := 10) (v := .bool rb) nat10 (by kernel_rfl) (by kernel_rfl) (by kernel_rfl) (fun _ _ _ h => False.elim h) (Or.inl ⟨by rfl, ?_⟩) ⟨K0_5, K1_5⟩ ?_
              · intro wx hSw
                go_simp
              simp only [Act.put, List.setIfInBounds_toArray, List.set_cons_zero, List.set_cons_succ]
              refine wpAnyH_done (by kernel_rfl) ?_ _
              refine NoPanic.normal ?_
              go_wp2_with fail
              go_meet
              exact ⟨G4, ya3, yp3, rfl, rfl, hlt4, hide LO_5, hide NB15_5, hide HM_5⟩
            · go_simp
              have hlt6 : w10.heap.size ≤ wq2.heap.size := LO_2.size
              have hb6 := below_one wq2 (.cells #[.slice none 0 0, .int .i64 0, .int .i64 0, .int .i64 0] 32)
              have LO_6 := LO_2.trans (hb6.mono LO_2.size)
              have K0_6 := K0_2.next hb6
              have K1_6 := K1_2.next hb6
              have IV0_6 := IV0_2.next hb6
              have IV1_6 := IV1_2.next hb6
              have NB15_6 := BoxIs.new wq2 #[.slice none 0 0, .int .i64 0, .int .i64 0, .int .i64 0] 32 rfl
              refine hK.out _ _ ⟨K0_6, K1_6⟩ (fun hSz => ?_)
              clear hK K hSz IV0_2 IV1_2 K0_2 K1_2 LO_2
              obtain ⟨G6, hG6⟩ : ∃ G, G = wq2.heap.size := ⟨_, rfl⟩
              rw [← hG6] at NB15_6 ⊢
              generalize wq2.alloc (.cells #[.slice none 0 0, .int .i64 0, .int .i64 0, .int .i64 0] 32) = wq6 at hb6 LO_6 K0_6 K1_6 IV0_6 IV1_6 NB15_6 ⊢
              rw [← hG6] at hlt6
              clear hG6 hb6
              refine wpAnyH_ready (rs := [4]) (by kernel_rfl) (by simp) ?_
              refine AllReadyH.cons nat4 (fun K hK => ?_) AllReadyH.nil
              go_simp
              go_at_call 12
              refine (ci (.agg #[.slice (some ⟨gy1_0, 0, none⟩) c0.n0 c0.n0, .int .i64 c0.x1, .int .i64 c0.x2, .int .i64 c0.x3]) (.agg #[.slice (some ⟨gy2_0, 0, none⟩) c1.n0 c1.n0, .slice (some ⟨gy2_1, 0, none⟩) c1.n1 c1.n1, .int .i64 c1.x2, .int .i64 c1.x3, .int .i64 c1.x4]) wq6 IV0_6 IV1_6).mono ?_
              rintro e wq7 ⟨⟨u7, rfl, ho7⟩, hb7⟩
              obtain ⟨ya7, yp7, rfl, hM7⟩ := ho7
              have LO_7 := LO_6.trans (hb7.mono LO_6.size)
              have K0_7 := K0_6.next hb7
              have K1_7 := K1_6.next hb7
              have IV0_7 := IV0_6.next hb7
              have IV1_7 := IV1_6.next hb7
              have NB15_7 := NB15_6.next hb7
              have HM_7 := (show Mine _ w10.heap.size 59 5 ya7 yp7 rc.n0 (metaCell rc.r0) from hM7.base LO_6.size)
              refine hK.out _ _ ⟨K0_7, K1_7⟩ (fun hSz => ?_)
              clear hK K hSz IV0_6 IV1_6 K0_6 K1_6 LO_6 NB15_6 hb7 hM7
              refine wpAnyH_take (i := 5) (v := .tuple #[.agg #[.slice ya7 rc.n0 yp7, .int .i64 rc.x1, .int .i64 rc.x2, .int .i64 rc.x3], .bool rb]) nat5 (by kernel_rfl) (by kernel_rfl) (by kernel_rfl) (fun _ _ _ h => False.elim h) (Or.inl ⟨by rfl, ?_⟩) ⟨K0_7, K1_7⟩ ?_
              · intro wx hSw
                go_simp
              simp only [Act.put, List.setIfInBounds_toArray, List.set_cons_zero, List.set_cons_succ]
              refine wpAnyH_take (i := 6) (v := .agg #[.slice ya7 rc.n0 yp7, .int .i64 rc.x1, .int .i64 rc.x2, .int .i64 rc.x3]) nat6 (by kernel_rfl) (by kernel_rfl) (by kernel_rfl) (fun _ _ _ h => False.elim h) (Or.inl ⟨by rfl, ?_⟩) ⟨K0_7, K1_7⟩ ?_
              · intro wx hSw
                go_simp
              simp only [Act.put, List.setIfInBounds_toArray, List.set_cons_zero, List.set_cons_succ]
              refine wpAnyH_take (i := 7) (v := .bool rb) nat7 (by kernel_rfl) (by kernel_rfl) (by kernel_rfl) (fun _ _ _ h => False.elim h) (Or.inl ⟨by rfl, ?_⟩) ⟨K0_7, K1_7⟩ ?_
              · intro wx hSw
                go_simp
              simp only [Act.put, List.setIfInBounds_toArray, List.set_cons_zero, List.set_cons_succ]
              refine wpAnyH_ready (rs := [9]) (by kernel_rfl) (by simp) ?_
              refine AllReadyH.cons nat9 (fun K hK => ?_) AllReadyH.nil
              have y0 := NB15_7.cell 0
              have y1 := NB15_7.cell 1
              have y2 := NB15_7.cell 2
              have y3 := NB15_7.cell 3
              simp only [List.getElem?_toArray, List.getElem?_cons_succ, List.getElem?_cons_zero] at y0 y1 y2 y3
              have yf := NB15_7.free
              go_simp
              clear yf y0 y1 y2 y3
              have LO_8s0 := LO_7.setCell (p := ⟨G6, 0, none⟩) hlt6 (.slice ya7 rc.n0 yp7)
              have K0_8s0 := K0_7.set_other (p := ⟨G6, 0, none⟩) (by show G6 ≠ w.heap.size; omega) (.slice ya7 rc.n0 yp7)
              have K1_8s0 := K1_7.set_other (p := ⟨G6, 0, none⟩) (by show G6 ≠ w.heap.size + 1; omega) (.slice ya7 rc.n0 yp7)
              have NB15_8s0 := NB15_7.set 0 (.slice ya7 rc.n0 yp7)
              have HM_8s0 := Mine.setBox HM_7 NB15_7 (by decide) 0 (.slice ya7 rc.n0 yp7)
              have LO_8s1 := LO_8s0.setCell (p := ⟨G6, 1, none⟩) hlt6 (.int .i64 rc.x1)
              have K0_8s1 := K0_8s0.set_other (p := ⟨G6, 1, none⟩) (by show G6 ≠ w.heap.size; omega) (.int .i64 rc.x1)
              have K1_8s1 := K1_8s0.set_other (p := ⟨G6, 1, none⟩) (by show G6 ≠ w.heap.size + 1; omega) (.int .i64 rc.x1)
              have NB15_8s1 := NB15_8s0.set 1 (.int .i64 rc.x1)
              have HM_8s1 := Mine.setBox HM_8s0 NB15_8s0 (by decide) 1 (.int .i64 rc.x1)
              have LO_8s2 := LO_8s1.setCell (p := ⟨G6, 2, none⟩) hlt6 (.int .i64 rc.x2)
              have K0_8s2 := K0_8s1.set_other (p := ⟨G6, 2, none⟩) (by show G6 ≠ w.heap.size; omega) (.int .i64 rc.x2)
              have K1_8s2 := K1_8s1.set_other (p := ⟨G6, 2, none⟩) (by show G6 ≠ w.heap.size + 1; omega) (.int .i64 rc.x2)
              have NB15_8s2 := NB15_8s1.set 2 (.int .i64 rc.x2)
              have HM_8s2 := Mine.setBox HM_8s1 NB15_8s1 (by decide) 2 (.int .i64 rc.x2)
              have LO_8s3 := LO_8s2.setCell (p := ⟨G6, 3, none⟩) hlt6 (.int .i64 rc.x3)
              have K0_8s3 := K0_8s2.set_other (p := ⟨G6, 3, none⟩) (by show G6 ≠ w.heap.size; omega) (.int .i64 rc.x3)
              have K1_8s3 := K1_8s2.set_other (p := ⟨G6, 3, none⟩) (by show G6 ≠ w.heap.size + 1; omega) (.int .i64 rc.x3)
              have NB15_8s3 := NB15_8s2.set 3 (.int .i64 rc.x3)
              have HM_8s3 := Mine.setBox HM_8s2 NB15_8s2 (by decide) 3 (.int .i64 rc.x3)
              have LO_8 := LO_8s3
              have K0_8 := K0_8s3
              have K1_8 := K1_8s3
              have NB15_8 : BoxIs ((((wq7.setCell ⟨G6, 0, none⟩ (.slice ya7 rc.n0 yp7)).setCell ⟨G6, 1, none⟩ (.int .i64 rc.x1)).setCell ⟨G6, 2, none⟩ (.int .i64 rc.x2)).setCell ⟨G6, 3, none⟩ (.int .i64 rc.x3)) G6 #[.slice ya7 rc.n0 yp7, .int .i64 rc.x1, .int .i64 rc.x2, .int .i64 rc.x3] 32 := NB15_8s3
              have HM_8 := HM_8s3
              refine hK.out _ _ ⟨K0_8, K1_8⟩ (fun hSz => ?_)
              clear hK K hSz HM_7 IV0_7 IV1_7 K0_7 K1_7 LO_7 NB15_7 LO_8s0 LO_8s1 LO_8s2 LO_8s3 K0_8s0 K0_8s1 K0_8s2 K0_8s3 K1_8s0 K1_8s1 K1_8s2 K1_8s3 NB15_8s0 NB15_8s1 NB15_8s2 NB15_8s3 HM_8s0 HM_8s1 HM_8s2 HM_8s3
              generalize (((wq7.setCell ⟨G6, 0, none⟩ (.slice ya7 rc.n0 yp7)).setCell ⟨G6, 1, none⟩ (.int .i64 rc.x1)).setCell ⟨G6, 2, none⟩ (.int .i64 rc.x2)).setCell ⟨G6, 3, none⟩ (.int .i64 rc.x3) = wq8 at LO_8 K0_8 K1_8 NB15_8 HM_8 ⊢
              refine wpAnyH_take (i := 10) (v := .bool rb) nat10 (by kernel_rfl) (by kernel_rfl) (by kernel_rfl) (fun _ _ _ h => False.elim h) (Or.inl ⟨by rfl, ?_⟩) ⟨K0_8, K1_8⟩ ?_
              · intro wx hSw
                go_simp
              simp only [Act.put, List.setIfInBounds_toArray, List.set_cons_zero, List.set_cons_succ]
              refine wpAnyH_done (by kernel_rfl) ?_ _
              refine NoPanic.normal ?_
              go_wp2_with fail
              go_meet
              exact ⟨G6, ya7, yp7, rfl, rfl, hlt6, hide LO_8, hide NB15_8, hide HM_8⟩
          · go_simp
            have hlt9 : w10.heap.size ≤ wq1.heap.size := LO_1.size
            have hb9 := below_one wq1 (.cells #[.slice none 0 0, .int .i64 0, .int .i64 0, .int .i64 0] 32)
            have LO_9 := LO_1.trans (hb9.mono LO_1.size)
            have K0_9 := K0_1.next hb9
            have K1_9 := K1_1.next hb9
            have IV0_9 := IV0_1.next hb9
            have NB15_9 := BoxIs.new wq1 #[.slice none 0 0, .int .i64 0, .int .i64 0, .int .i64 0] 32 rfl
            refine hK.out _ _ ⟨K0_9, K1_9⟩ (fun hSz => ?_)
            clear hK K hSz IV0_1 K0_1 K1_1 LO_1
            obtain ⟨G9, hG9⟩ : ∃ G, G = wq1.heap.size := ⟨_, rfl⟩
            rw [← hG9] at NB15_9 ⊢
            generalize wq1.alloc (.cells #[.slice none 0 0, .int .i64 0, .int .i64 0, .int .i64 0] 32) = wq9 at hb9 LO_9 K0_9 K1_9 IV0_9 NB15_9 ⊢
            rw [← hG9] at hlt9
            clear hG9 hb9
            refine wpAnyH_ready (rs := [3]) (by kernel_rfl) (by simp) ?_
            refine AllReadyH.cons nat3 (fun K hK => ?_) AllReadyH.nil
            go_simp
            go_at_call 11
            refine (laws_toEdit (.agg #[.slice a1_0 c1.n0 p1_0, .slice a1_1 c1.n1 p1_1, .int .i64 c1.x2, .int .i64 c1.x3, .int .i64 c1.x4]) c1 wq9 hf1 (HV1.out.next (HB.out.trans (LO_9.mono HB.out.size)))).mono ?_
            rintro e wq10 ⟨gy10_0, gy10_1, rfl, _, hy10_0, _, hy10_1, _, hb10⟩
            have LO_10 := LO_9.trans (hb10.mono LO_9.size)
            have K0_10 := K0_9.next hb10
            have K1_10 := K1_9.next hb10
            have IV0_10 := IV0_9.next hb10
            have NB15_10 := NB15_9.next hb10
            have IV1_10 := EditSrc.of_rows hy10_0 hy10_1
            refine hK.out _ _ ⟨K0_10, K1_10⟩ (fun hSz => ?_)
            clear hK K hSz IV0_9 K0_9 K1_9 LO_9 NB15_9 hb10 hy10_0 hy10_1
            refine wpAnyH_ready (rs := [4]) (by kernel_rfl) (by simp) ?_
            refine AllReadyH.cons nat4 (fun K hK => ?_) AllReadyH.nil
            go_simp
            go_at_call 12
            refine (ci (.agg #[.slice (some ⟨gy1_0, 0, none⟩) c0.n0 c0.n0, .int .i64 c0.x1, .int .i64 c0.x2, .int .i64 c0.x3]) (.agg #[.slice (some ⟨gy10_0, 0, none⟩) c1.n0 c1.n0, .slice (some ⟨gy10_1, 0, none⟩) c1.n1 c1.n1, .int .i64 c1.x2, .int .i64 c1.x3, .int .i64 c1.x4]) wq10 IV0_10 IV1_10).mono ?_
            rintro e wq11 ⟨⟨u11, rfl, ho11⟩, hb11⟩
            obtain ⟨ya11, yp11, rfl, hM11⟩ := ho11
            have LO_11 := LO_10.trans (hb11.mono LO_10.size)
            have K0_11 := K0_10.next hb11
            have K1_11 := K1_10.next hb11
            have IV0_11 := IV0_10.next hb11
            have NB15_11 := NB15_10.next hb11
            have IV1_11 := IV1_10.next hb11
            have HM_11 := (show Mine _ w10.heap.size 59 5 ya11 yp11 rc.n0 (metaCell rc.r0) from hM11.base LO_10.size)
            refine hK.out _ _ ⟨K0_11, K1_11⟩ (fun hSz => ?_)
            clear hK K hSz IV0_10 IV1_10 K0_10 K1_10 LO_10 NB15_10 hb11 hM11
            refine wpAnyH_take (i := 5) (v := .tuple #[.agg #[.slice ya11 rc.n0 yp11, .int .i64 rc.x1, .int .i64 rc.x2, .int .i64 rc.x3], .bool rb]) nat5 (by kernel_rfl) (by kernel_rfl) (by kernel_rfl) (fun _ _ _ h => False.elim h) (Or.inl ⟨by rfl, ?_⟩) ⟨K0_11, K1_11⟩ ?_
            · intro wx hSw
              go_simp
            simp only [Act.put, List.setIfInBounds_toArray, List.set_cons_zero, List.set_cons_succ]
            refine wpAnyH_take (i := 6) (v := .agg #[.slice ya11 rc.n0 yp11, .int .i64 rc.x1, .int .i64 rc.x2, .int .i64 rc.x3]) nat6 (by kernel_rfl) (by kernel_rfl) (by kernel_rfl) (fun _ _ _ h => False.elim h) (Or.inl ⟨by rfl, ?_⟩) ⟨K0_11, K1_11⟩ ?_
            · intro wx hSw
              go_simp
            simp only [Act.put, List.setIfInBounds_toArray, List.set_cons_zero, List.set_cons_succ]
            refine wpAnyH_take (i := 7) (v := .bool rb) nat7 (by kernel_rfl) (by kernel_rfl) (by kernel_rfl) (fun _ _ _ h => False.elim h) (Or.inl ⟨by rfl, ?_⟩) ⟨K0_11, K1_11⟩ ?_
            · intro wx hSw
              go_simp
            simp only [Act.put, List.setIfInBounds_toArray, List.set_cons_zero, List.set_cons_succ]
            refine wpAnyH_ready (rs := [9]) (by kernel_rfl) (by simp) ?_
            refine AllReadyH.cons nat9 (fun K hK => ?_) AllReadyH.nil
            have y0 := NB15_11.cell 0
            have y1 := NB15_11.cell 1
            have y2 := NB15_11.cell 2
            have y3 := NB15_11.cell 3
            simp only [List.getElem?_toArray, List.getElem?_cons_succ, List.getElem?_cons_zero] at y0 y1 y2 y3
            have yf := NB15_11.free
            go_simp
            clear yf y0 y1 y2 y3
            have LO_12s0 := LO_11.setCell (p := ⟨G9, 0, none⟩) hlt9 (.slice ya11 rc.n0 yp11)
            have K0_12s0 := K0_11.set_other (p := ⟨G9, 0, none⟩) (by show G9 ≠ w.heap.size; omega) (.slice ya11 rc.n0 yp11)
            have K1_12s0 := K1_11.set_other (p := ⟨G9, 0, none⟩) (by show G9 ≠ w.heap.size + 1; omega) (.slice ya11 rc.n0 yp11)
            have NB15_12s0 := NB15_11.set 0 (.slice ya11 rc.n0 yp11)
            have HM_12s0 := Mine.setBox HM_11 NB15_11 (by decide) 0 (.slice ya11 rc.n0 yp11)
            have LO_12s1 := LO_12s0.setCell (p := ⟨G9, 1, none⟩) hlt9 (.int .i64 rc.x1)
            have K0_12s1 := K0_12s0.set_other (p := ⟨G9, 1, none⟩) (by show G9 ≠ w.heap.size; omega) (.int .i64 rc.x1)
            have K1_12s1 := K1_12s0.set_other (p := ⟨G9, 1, none⟩) (by show G9 ≠ w.heap.size + 1; omega) (.int .i64 rc.x1)
            have NB15_12s1 := NB15_12s0.set 1 (.int .i64 rc.x1)
            have HM_12s1 := Mine.setBox HM_12s0 NB15_12s0 (by decide) 1 (.int .i64 rc.x1)
            have LO_12s2 := LO_12s1.setCell (p := ⟨G9, 2, none⟩) hlt9 (.int .i64 rc.x2)
            have K0_12s2 := K0_12s1.set_other (p := ⟨G9, 2, none⟩) (by show G9 ≠ w.heap.size; omega) (.int .i64 rc.x2)
            have K1_12s2 := K1_12s1.set_other (p := ⟨G9, 2, none⟩) (by show G9 ≠ w.heap.size + 1; omega) (.int .i64 rc.x2)
            have NB15_12s2 := NB15_12s1.set 2 (.int .i64 rc.x2)
            have HM_12s2 := Mine.setBox HM_12s1 NB15_12s1 (by decide) 2 (.int .i64 rc.x2)
            have LO_12s3 := LO_12s2.setCell (p := ⟨G9, 3, none⟩) hlt9 (.int .i64 rc.x3)
            have K0_12s3 := K0_12s2.set_other (p := ⟨G9, 3, none⟩) (by show G9 ≠ w.heap.size; omega) (.int .i64 rc.x3)
            have K1_12s3 := K1_12s2.set_other (p := ⟨G9, 3, none⟩) (by show G9 ≠ w.heap.size + 1; omega) (.int .i64 rc.x3)
            have NB15_12s3 := NB15_12s2.set 3 (.int .i64 rc.x3)
            have HM_12s3 := Mine.setBox HM_12s2 NB15_12s2 (by decide) 3 (.int .i64 rc.x3)
            have LO_12 := LO_12s3
            have K0_12 := K0_12s3
            have K1_12 := K1_12s3
            have NB15_12 : BoxIs ((((wq11.setCell ⟨G9, 0, none⟩ (.slice ya11 rc.n0 yp11)).setCell ⟨G9, 1, none⟩ (.int .i64 rc.x1)).setCell ⟨G9, 2, none⟩ (.int .i64 rc.x2)).setCell ⟨G9, 3, none⟩ (.int .i64 rc.x3)) G9 #[.slice ya11 rc.n0 yp11, .int .i64 rc.x1, .int .i64 rc.x2, .int .i64 rc.x3] 32 := NB15_12s3
            have HM_12 := HM_12s3
            refine hK.out _ _ ⟨K0_12, K1_12⟩ (fun hSz => ?_)
            clear hK K hSz HM_11 IV0_11 IV1_11 K0_11 K1_11 LO_11 NB15_11 LO_12s0 LO_12s1 LO_12s2 LO_12s3 K0_12s0 K0_12s1 K0_12s2 K0_12s3 K1_12s0 K1_12s1 K1_12s2 K1_12s3 NB15_12s0 NB15_12s1 NB15_12s2 NB15_12s3 HM_12s0 HM_12s1 HM_12s2 HM_12s3
            generalize (((wq11.setCell ⟨G9, 0, none⟩ (.slice ya11 rc.n0 yp11)).setCell ⟨G9, 1, none⟩ (.int .i64 rc.x1)).setCell ⟨G9, 2, none⟩ (.int .i64 rc.x2)).setCell ⟨G9, 3, none⟩ (.int .i64 rc.x3) = wq12 at LO_12 K0_12 K1_12 NB15_12 HM_12 ⊢
            refine wpAnyH_take (i := 10) (v := .bool rb) nat10 (by kernel_rfl) (by kernel_rfl) (by kernel_rfl) (fun _ _ _ h => False.elim h) (Or.inl ⟨by rfl, ?_⟩) ⟨K0_12, K1_12⟩ ?_
            · intro wx hSw
              go_simp
            simp only [Act.put, List.setIfInBounds_toArray, List.set_cons_zero, List.set_cons_succ]
            refine wpAnyH_done (by kernel_rfl) ?_ _
            refine NoPanic.normal ?_
            go_wp2_with fail
            go_meet
            exact ⟨G9, ya11, yp11, rfl, rfl, hlt9, hide LO_12, hide NB15_12, hide HM_12⟩
        · go_simp
          have hlt13 : w10.heap.size ≤ wq0.heap.size := LO_0.size
          have hb13 := below_one wq0 (.cells #[.slice none 0 0, .int .i64 0, .int .i64 0, .int .i64 0] 32)
          have LO_13 := LO_0.trans (hb13.mono LO_0.size)
          have K0_13 := K0_0.next hb13
          have K1_13 := K1_0.next hb13
          have NB15_13 := BoxIs.new wq0 #[.slice none 0 0, .int .i64 0, .int .i64 0, .int .i64 0] 32 rfl
          refine hK.out _ _ ⟨K0_13, K1_13⟩ (fun hSz => ?_)
          clear hK K hSz K0_0 K1_0 LO_0
          obtain ⟨G13, hG13⟩ : ∃ G, G = wq0.heap.size := ⟨_, rfl⟩
          rw [← hG13] at NB15_13 ⊢
          generalize wq0.alloc (.cells #[.slice none 0 0, .int .i64 0, .int .i64 0, .int .i64 0] 32) = wq13 at hb13 LO_13 K0_13 K1_13 NB15_13 ⊢
          rw [← hG13] at hlt13
          clear hG13 hb13
          refine wpAnyH_ready (rs := [1]) (by kernel_rfl) (by simp) ?_
          refine AllReadyH.cons nat1 (fun K hK => ?_) AllReadyH.nil
          go_simp
          go_at_call 10
          refine (laws_toVersion (.agg #[.slice a0_0 c0.n0 p0_0, .int .i64 c0.x1, .int .i64 c0.x2, .int .i64 c0.x3]) c0 wq13 hf0 (HV0.out.next (HB.out.trans (LO_13.mono HB.out.size)))).mono ?_
          rintro e wq14 ⟨gy14_0, rfl, _, hy14_0, hb14⟩
          have LO_14 := LO_13.trans (hb14.mono LO_13.size)
          have K0_14 := K0_13.next hb14
          have K1_14 := K1_13.next hb14
          have NB15_14 := NB15_13.next hb14
          have IV0_14 := VersionIs.of_rows hy14_0
          refine hK.out _ _ ⟨K0_14, K1_14⟩ (fun hSz => ?_)
          clear hK K hSz K0_13 K1_13 LO_13 NB15_13 hb14 hy14_0
          refine wpAnyH_ready (rs := [3]) (by kernel_rfl) (by simp) ?_
          refine AllReadyH.cons nat3 (fun K hK => ?_) AllReadyH.nil
          go_simp
          go_at_call 11
          refine (laws_toEdit (.agg #[.slice a1_0 c1.n0 p1_0, .slice a1_1 c1.n1 p1_1, .int .i64 c1.x2, .int .i64 c1.x3, .int .i64 c1.x4]) c1 wq14 hf1 (HV1.out.next (HB.out.trans (LO_14.mono HB.out.size)))).mono ?_
          rintro e wq15 ⟨gy15_0, gy15_1, rfl, _, hy15_0, _, hy15_1, _, hb15⟩
          have LO_15 := LO_14.trans (hb15.mono LO_14.size)
          have K0_15 := K0_14.next hb15
          have K1_15 := K1_14.next hb15
          have NB15_15 := NB15_14.next hb15
          have IV0_15 := IV0_14.next hb15
          have IV1_15 := EditSrc.of_rows hy15_0 hy15_1
          refine hK.out _ _ ⟨K0_15, K1_15⟩ (fun hSz => ?_)
          clear hK K hSz IV0_14 K0_14 K1_14 LO_14 NB15_14 hb15 hy15_0 hy15_1
          refine wpAnyH_ready (rs := [4]) (by kernel_rfl) (by simp) ?_
          refine AllReadyH.cons nat4 (fun K hK => ?_) AllReadyH.nil
          go_simp
          go_at_call 12
          refine (ci (.agg #[.slice (some ⟨gy14_0, 0, none⟩) c0.n0 c0.n0, .int .i64 c0.x1, .int .i64 c0.x2, .int .i64 c0.x3]) (.agg #[.slice (some ⟨gy15_0, 0, none⟩) c1.n0 c1.n0, .slice (some ⟨gy15_1, 0, none⟩) c1.n1 c1.n1, .int .i64 c1.x2, .int .i64 c1.x3, .int .i64 c1.x4]) wq15 IV0_15 IV1_15).mono ?_
          rintro e wq16 ⟨⟨u16, rfl, ho16⟩, hb16⟩
          obtain ⟨ya16, yp16, rfl, hM16⟩ := ho16
          have LO_16 := LO_15.trans (hb16.mono LO_15.size)
          have K0_16 := K0_15.next hb16
          have K1_16 := K1_15.next hb16
          have NB15_16 := NB15_15.next hb16
          have IV0_16 := IV0_15.next hb16
          have IV1_16 := IV1_15.next hb16
          have HM_16 := (show Mine _ w10.heap.size 59 5 ya16 yp16 rc.n0 (metaCell rc.r0) from hM16.base LO_15.size)
          refine hK.out _ _ ⟨K0_16, K1_16⟩ (fun hSz => ?_)
          clear hK K hSz IV0_15 IV1_15 K0_15 K1_15 LO_15 NB15_15 hb16 hM16
          refine wpAnyH_take (i := 5) (v := .tuple #[.agg #[.slice ya16 rc.n0 yp16, .int .i64 rc.x1, .int .i64 rc.x2, .int .i64 rc.x3], .bool rb]) nat5 (by kernel_rfl) (by kernel_rfl) (by kernel_rfl) (fun _ _ _ h => False.elim h) (Or.inl ⟨by rfl, ?_⟩) ⟨K0_16, K1_16⟩ ?_
          · intro wx hSw
            go_simp
          simp only [Act.put, List.setIfInBounds_toArray, List.set_cons_zero, List.set_cons_succ]
          refine wpAnyH_take (i := 6) (v := .agg #[.slice ya16 rc.n0 yp16, .int .i64 rc.x1, .int .i64 rc.x2, .int .i64 rc.x3]) nat6 (by kernel_rfl) (by kernel_rfl) (by kernel_rfl) (fun _ _ _ h => False.elim h) (Or.inl ⟨by rfl, ?_⟩) ⟨K0_16, K1_16⟩ ?_
          · intro wx hSw
            go_simp
          simp only [Act.put, List.setIfInBounds_toArray, List.set_cons_zero, List.set_cons_succ]
          refine wpAnyH_take (i := 7) (v := .bool rb) nat7 (by kernel_rfl) (by kernel_rfl) (by kernel_rfl) (fun _ _ _ h => False.elim h) (Or.inl ⟨by rfl, ?_⟩) ⟨K0_16, K1_16⟩ ?_
          · intro wx hSw
            go_simp
          simp only [Act.put, List.setIfInBounds_toArray, List.set_cons_zero, List.set_cons_succ]
          refine wpAnyH_ready (rs := [9]) (by kernel_rfl) (by simp) ?_
          refine AllReadyH.cons nat9 (fun K hK => ?_) AllReadyH.nil
          have y0 := NB15_16.cell 0
          have y1 := NB15_16.cell 1
          have y2 := NB15_16.cell 2
          have y3 := NB15_16.cell 3
          simp only [List.getElem?_toArray, List.getElem?_cons_succ, List.getElem?_cons_zero] at y0 y1 y2 y3
          have yf := NB15_16.free
          go_simp
          clear yf y0 y1 y2 y3
          have LO_17s0 := LO_16.setCell (p := ⟨G13, 0, none⟩) hlt13 (.slice ya16 rc.n0 yp16)
          have K0_17s0 := K0_16.set_other (p := ⟨G13, 0, none⟩) (by show G13 ≠ w.heap.size; omega) (.slice ya16 rc.n0 yp16)
          have K1_17s0 := K1_16.set_other (p := ⟨G13, 0, none⟩) (by show G13 ≠ w.heap.size + 1; omega) (.slice ya16 rc.n0 yp16)
          have NB15_17s0 := NB15_16.set 0 (.slice ya16 rc.n0 yp16)
          have HM_17s0 := Mine.setBox HM_16 NB15_16 (by decide) 0 (.slice ya16 rc.n0 yp16)
          have LO_17s1 := LO_17s0.setCell (p := ⟨G13, 1, none⟩) hlt13 (.int .i64 rc.x1)
          have K0_17s1 := K0_17s0.set_other (p := ⟨G13, 1, none⟩) (by show G13 ≠ w.heap.size; omega) (.int .i64 rc.x1)
          have K1_17s1 := K1_17s0.set_other (p := ⟨G13, 1, none⟩) (by show G13 ≠ w.heap.size + 1; omega) (.int .i64 rc.x1)
          have NB15_17s1 := NB15_17s0.set 1 (.int .i64 rc.x1)
          have HM_17s1 := Mine.setBox HM_17s0 NB15_17s0 (by decide) 1 (.int .i64 rc.x1)
          have LO_17s2 := LO_17s1.setCell (p := ⟨G13, 2, none⟩) hlt13 (.int .i64 rc.x2)
          have K0_17s2 := K0_17s1.set_other (p := ⟨G13, 2, none⟩) (by show G13 ≠ w.heap.size; omega) (.int .i64 rc.x2)
          have K1_17s2 := K1_17s1.set_other (p := ⟨G13, 2, none⟩) (by show G13 ≠ w.heap.size + 1; omega) (.int .i64 rc.x2)
          have NB15_17s2 := NB15_17s1.set 2 (.int .i64 rc.x2)
          have HM_17s2 := Mine.setBox HM_17s1 NB15_17s1 (by decide) 2 (.int .i64 rc.x2)
          have LO_17s3 := LO_17s2.setCell (p := ⟨G13, 3, none⟩) hlt13 (.int .i64 rc.x3)
          have K0_17s3 := K0_17s2.set_other (p := ⟨G13, 3, none⟩) (by show G13 ≠ w.heap.size; omega) (.int .i64 rc.x3)
          have K1_17s3 := K1_17s2.set_other (p := ⟨G13, 3, none⟩) (by show G13 ≠ w.heap.size + 1; omega) (.int .i64 rc.x3)
          have NB15_17s3 := NB15_17s2.set 3 (.int .i64 rc.x3)
          have HM_17s3 := Mine.setBox HM_17s2 NB15_17s2 (by decide) 3 (.int .i64 rc.x3)
          have LO_17 := LO_17s3
          have K0_17 := K0_17s3
          have K1_17 := K1_17s3
          have NB15_17 : BoxIs ((((wq16.setCell ⟨G13, 0, none⟩ (.slice ya16 rc.n0 yp16)).setCell ⟨G13, 1, none⟩ (.int .i64 rc.x1)).setCell ⟨G13, 2, none⟩ (.int .i64 rc.x2)).setCell ⟨G13, 3, none⟩ (.int .i64 rc.x3)) G13 #[.slice ya16 rc.n0 yp16, .int .i64 rc.x1, .int .i64 rc.x2, .int .i64 rc.x3] 32 := NB15_17s3
          have HM_17 := HM_17s3
          refine hK.out _ _ ⟨K0_17, K1_17⟩ (fun hSz => ?_)
          clear hK K hSz HM_16 IV0_16 IV1_16 K0_16 K1_16 LO_16 NB15_16 LO_17s0 LO_17s1 LO_17s2 LO_17s3 K0_17s0 K0_17s1 K0_17s2 K0_17s3 K1_17s0 K1_17s1 K1_17s2 K1_17s3 NB15_17s0 NB15_17s1 NB15_17s2 NB15_17s3 HM_17s0 HM_17s1 HM_17s2 HM_17s3
          generalize (((wq16.setCell ⟨G13, 0, none⟩ (.slice ya16 rc.n0 yp16)).setCell ⟨G13, 1, none⟩ (.int .i64 rc.x1)).setCell ⟨G13, 2, none⟩ (.int .i64 rc.x2)).setCell ⟨G13, 3, none⟩ (.int .i64 rc.x3) = wq17 at LO_17 K0_17 K1_17 NB15_17 HM_17 ⊢
          refine wpAnyH_take (i := 10) (v := .bool rb) nat10 (by kernel_rfl) (by kernel_rfl) (by kernel_rfl) (fun _ _ _ h => False.elim h) (Or.inl ⟨by rfl, ?_⟩) ⟨K0_17, K1_17⟩ ?_
          · intro wx hSw
            go_simp
          simp only [Act.put, List.setIfInBounds_toArray, List.set_cons_zero, List.set_cons_succ]
          refine wpAnyH_done (by kernel_rfl) ?_ _
          refine NoPanic.normal ?_
          go_wp2_with fail
          go_meet
          exact ⟨G13, ya16, yp16, rfl, rfl, hlt13, hide LO_17, hide NB15_17, hide HM_17⟩
      case rest =>
      obtain ⟨Fh, ha, hp, rfl, rfl, hFNh, HBc, HXh, HMh⟩ := hcut
      obtain ⟨Vh, rfl⟩ : ∃ V, V = wc := ⟨_, rfl⟩
      have HB := hide (HB.out.trans (HBc.out.mono HB.out.size))
      have HCw := hide (HCw.out.trans (HBc.out.mono HCw.out.size))
      have HCg := hide (HCg.out.trans (HBc.out.mono HCg.out.size))
      have hBh := HBc.out.size
      have hXhl := HXh.out.lt
      clear HBc
      have HCh : Hid (Below Vh.heap.size Vh Vh) := Below.refl _ _
      have ka0 := (HXh.out.next HCh.out).cell 0
      have kb0 := (HXw.out.next HCw.out).cell 0
      have ka1 := (HXh.out.next HCh.out).cell 1
      have kb1 := (HXw.out.next HCw.out).cell 1
      have ka2 := (HXh.out.next HCh.out).cell 2
      have kb2 := (HXw.out.next HCw.out).cell 2
      have ka3 := (HXh.out.next HCh.out).cell 3
      have kb3 := (HXw.out.next HCw.out).cell 3
      go_wp2_with fail
      clear ka0 kb0 ka1 kb1 ka2 kb2 ka3 kb3
      refine (laws_eqVersion _ _ rc Vh hrf (VersionIs.of_mine (HMh.out.next HCh.out)) (VersionIs.of_mine (HMw.out.next HCw.out))).mono ?_
      rintro e w11 ⟨rfl, hb11⟩
      have HB := hide (HB.out.trans (hb11.mono HB.out.size))
      have HCw := hide (HCw.out.trans (hb11.mono HCw.out.size))
      have HCg := hide (HCg.out.trans (hb11.mono HCg.out.size))
      have HCh := hide (HCh.out.trans (hb11.mono HCh.out.size))
      have hsz11 := hb11.size
      clear hb11
      have ka0 := (HXg.out.next HCg.out).cell 0
      have ka1 := (HXg.out.next HCg.out).cell 1
      have ka2 := (HXg.out.next HCg.out).cell 2
      have ka3 := (HXg.out.next HCg.out).cell 3
      go_wp2_with fail
      clear ka0 ka1 ka2 ka3
      have hkc := fun j hj => keepc HCg.out (HOK.out j hj)
      refine (laws_heldVersion 1 1 rfl ⟨by omega, by omega⟩ ga gp g rc w11 hrf hga hkc).mono ?_
      rintro e w12 ⟨rfl, hb12⟩
      have HB := hide (HB.out.trans (hb12.mono HB.out.size))
      have HCw := hide (HCw.out.trans (hb12.mono HCw.out.size))
      have HCg := hide (HCg.out.trans (hb12.mono HCg.out.size))
      have HCh := hide (HCh.out.trans (hb12.mono HCh.out.size))
      have hsz12 := hb12.size
      clear hb12
      clear hkc
      go_wp2
      go_ret
      exact ⟨rfl, HB0.out.trans (HB.out.mono HB0.out.size)⟩

end Go.Proofs.Ytplbhgcibfajaaa
