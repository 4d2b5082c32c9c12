/- The library's slices.Reverse over entries. -/
import Derived.Test.YtapajchnfjjipaaOwnEntry
import Derived.Test.YtapajchnfjjipaaEnts
import Derived.RegionTactic
import Derived.BigRegion
namespace Go.Proofs.Ytapajchnfjjipaa
set_option maxRecDepth 100000
open Go.RowKit Go.Deep

theorem Mine.set {w : World} {B : Nat} {ty : TypeId} {k g p n : Nat} {f : Nat → Value} (h : Mine w B ty k (some ⟨g, 0, none⟩) p n f) (j : Nat) (v : Value) : Mine (w.setCell ⟨g, j, none⟩ v) B ty k (some ⟨g, 0, none⟩) p n (fun i => if i = j then v else f i) := by
  rcases h with ⟨h, _⟩ | ⟨g', cur, ha, hB, hh, hn, hc⟩
  · cases h
  · simp only [Option.some.injEq, Addr.mk.injEq, and_true] at ha
    subst ha
    refine .inr ⟨g, cur.setIfInBounds j v, rfl, hB, BoxIs.set hh j v, by simpa using hn, fun i hi => ?_⟩
    have hs : i < cur.size := by omega
    by_cases e : i = j
    · subst e
      show _ = some (if i = i then v else f i)
      rw [if_pos rfl]; simp [hs]
    · show _ = some (if i = j then v else f i)
      rw [if_neg e, Array.getElem?_setIfInBounds_ne (by omega)]; exact hc i hi
theorem Mine.free {w : World} {B : Nat} {ty : TypeId} {k g p n : Nat} {f : Nat → Value} (h : Mine w B ty k (some ⟨g, 0, none⟩) p n f) (j : Nat) : w.frozen? ⟨g, j, none⟩ = false := by
  rcases h with ⟨h, _⟩ | ⟨g', cur, ha, hB, hh, hn, hc⟩
  · cases h
  · simp only [Option.some.injEq, Addr.mk.injEq, and_true] at ha
    subst ha
    exact BoxIs.free hh j
theorem Mine.cell {w : World} {B : Nat} {ty : TypeId} {k g p n : Nat} {f : Nat → Value} (h : Mine w B ty k (some ⟨g, 0, none⟩) p n f) {j : Nat} (hj : j < n * k) : w.cell? ⟨g, j, none⟩ = some (f j) := by
  rcases h with ⟨h, _⟩ | ⟨g', cur, ha, hB, hh, hn, hc⟩
  · cases h
  · simp only [Option.some.injEq, Addr.mk.injEq, and_true] at ha
    subst ha
    exact (BoxIs.cell hh j).trans (hc j hj)

/-- The place that place e of a row holds behind i rounds of its turning. -/
def revPE (n i e : Nat) : Nat := if e < i ∨ n - i ≤ e then n - 1 - e else e
def revE (E : Ents) (n i : Nat) (c : Nat) : Value := entCell E (revPE n i (c / 4) * 4 + c % 4)
theorem revE_mid0 {E : Ents} {n i e : Nat} (h : i ≤ e) (h2 : e < n - i) : revE E n i (e * 4) = Value.string (E.U e) := by
  unfold revE revPE
  rw [show (e * 4) / 4 = e by omega, show (e * 4) % 4 = 0 by omega, if_neg (by omega)]
  exact entCell0 E e
theorem revE_low0 {E : Ents} {n i m : Nat} (h : i + m + 1 = n) : revE E n (i + 1) (i * 4) = Value.string (E.U m) := by
  unfold revE revPE
  rw [show (i * 4) / 4 = i by omega, show (i * 4) % 4 = 0 by omega, if_pos (by omega), show n - 1 - i = m by omega]
  exact entCell0 E m
theorem revE_high0 {E : Ents} {n i m : Nat} (h : i + m + 1 = n) : revE E n (i + 1) (m * 4) = Value.string (E.U i) := by
  unfold revE revPE
  rw [show (m * 4) / 4 = m by omega, show (m * 4) % 4 = 0 by omega, if_pos (by omega), show n - 1 - m = i by omega]
  exact entCell0 E i
theorem revE_mid1 {E : Ents} {n i e : Nat} (h : i ≤ e) (h2 : e < n - i) : revE E n i (e * 4 + 1) = Value.int .i64 (E.Q e) := by
  unfold revE revPE
  rw [show (e * 4 + 1) / 4 = e by omega, show (e * 4 + 1) % 4 = 1 by omega, if_neg (by omega)]
  exact entCell1 E e
theorem revE_low1 {E : Ents} {n i m : Nat} (h : i + m + 1 = n) : revE E n (i + 1) (i * 4 + 1) = Value.int .i64 (E.Q m) := by
  unfold revE revPE
  rw [show (i * 4 + 1) / 4 = i by omega, show (i * 4 + 1) % 4 = 1 by omega, if_pos (by omega), show n - 1 - i = m by omega]
  exact entCell1 E m
theorem revE_high1 {E : Ents} {n i m : Nat} (h : i + m + 1 = n) : revE E n (i + 1) (m * 4 + 1) = Value.int .i64 (E.Q i) := by
  unfold revE revPE
  rw [show (m * 4 + 1) / 4 = m by omega, show (m * 4 + 1) % 4 = 1 by omega, if_pos (by omega), show n - 1 - m = i by omega]
  exact entCell1 E i
theorem revE_mid2 {E : Ents} {n i e : Nat} (h : i ≤ e) (h2 : e < n - i) : revE E n i (e * 4 + 2) = Value.int .i64 (E.K e) := by
  unfold revE revPE
  rw [show (e * 4 + 2) / 4 = e by omega, show (e * 4 + 2) % 4 = 2 by omega, if_neg (by omega)]
  exact entCell2 E e
theorem revE_low2 {E : Ents} {n i m : Nat} (h : i + m + 1 = n) : revE E n (i + 1) (i * 4 + 2) = Value.int .i64 (E.K m) := by
  unfold revE revPE
  rw [show (i * 4 + 2) / 4 = i by omega, show (i * 4 + 2) % 4 = 2 by omega, if_pos (by omega), show n - 1 - i = m by omega]
  exact entCell2 E m
theorem revE_high2 {E : Ents} {n i m : Nat} (h : i + m + 1 = n) : revE E n (i + 1) (m * 4 + 2) = Value.int .i64 (E.K i) := by
  unfold revE revPE
  rw [show (m * 4 + 2) / 4 = m by omega, show (m * 4 + 2) % 4 = 2 by omega, if_pos (by omega), show n - 1 - m = i by omega]
  exact entCell2 E i
theorem revE_mid3 {E : Ents} {n i e : Nat} (h : i ≤ e) (h2 : e < n - i) : revE E n i (e * 4 + 3) = Value.string (E.X e) := by
  unfold revE revPE
  rw [show (e * 4 + 3) / 4 = e by omega, show (e * 4 + 3) % 4 = 3 by omega, if_neg (by omega)]
  exact entCell3 E e
theorem revE_low3 {E : Ents} {n i m : Nat} (h : i + m + 1 = n) : revE E n (i + 1) (i * 4 + 3) = Value.string (E.X m) := by
  unfold revE revPE
  rw [show (i * 4 + 3) / 4 = i by omega, show (i * 4 + 3) % 4 = 3 by omega, if_pos (by omega), show n - 1 - i = m by omega]
  exact entCell3 E m
theorem revE_high3 {E : Ents} {n i m : Nat} (h : i + m + 1 = n) : revE E n (i + 1) (m * 4 + 3) = Value.string (E.X i) := by
  unfold revE revPE
  rw [show (m * 4 + 3) / 4 = m by omega, show (m * 4 + 3) % 4 = 3 by omega, if_pos (by omega), show n - 1 - m = i by omega]
  exact entCell3 E i
theorem revE_step {E : Ents} {n i m : Nat} (h : i + m + 1 = n) (hl : i < m) (c : Nat) :
    (if c = m * 4 + 3 then Value.string (E.X i) else if c = m * 4 + 2 then Value.int .i64 (E.K i) else if c = m * 4 + 1 then Value.int .i64 (E.Q i) else if c = m * 4 then Value.string (E.U i) else if c = i * 4 + 3 then Value.string (E.X m) else if c = i * 4 + 2 then Value.int .i64 (E.K m) else if c = i * 4 + 1 then Value.int .i64 (E.Q m) else if c = i * 4 then Value.string (E.U m) else revE E n i c) = revE E n (i + 1) c := by
  by_cases xm3 : c = m * 4 + 3
  · subst xm3; rw [if_pos rfl]; exact (revE_high3 h).symm
  rw [if_neg xm3]
  by_cases xm2 : c = m * 4 + 2
  · subst xm2; rw [if_pos rfl]; exact (revE_high2 h).symm
  rw [if_neg xm2]
  by_cases xm1 : c = m * 4 + 1
  · subst xm1; rw [if_pos rfl]; exact (revE_high1 h).symm
  rw [if_neg xm1]
  by_cases xm0 : c = m * 4
  · subst xm0; rw [if_pos rfl]; exact (revE_high0 h).symm
  rw [if_neg xm0]
  by_cases xi3 : c = i * 4 + 3
  · subst xi3; rw [if_pos rfl]; exact (revE_low3 h).symm
  rw [if_neg xi3]
  by_cases xi2 : c = i * 4 + 2
  · subst xi2; rw [if_pos rfl]; exact (revE_low2 h).symm
  rw [if_neg xi2]
  by_cases xi1 : c = i * 4 + 1
  · subst xi1; rw [if_pos rfl]; exact (revE_low1 h).symm
  rw [if_neg xi1]
  by_cases xi0 : c = i * 4
  · subst xi0; rw [if_pos rfl]; exact (revE_low0 h).symm
  rw [if_neg xi0]
  unfold revE revPE
  have hiff : (c / 4 < i ∨ n - i ≤ c / 4) ↔ (c / 4 < i + 1 ∨ n - (i + 1) ≤ c / 4) := by omega
  simp only [hiff]
theorem revE_end {l : List Entry1} {n i m : Nat} (hn : l.length = n) (h : i + m + 1 = n) (hl : ¬ i < m) {c : Nat} (hc : c < n * 4) : revE (fnEntry l) n i c = entCell (fnEntry l.reverse) c := by
  have he : revPE n i (c / 4) = n - 1 - c / 4 := by unfold revPE; split <;> omega
  have hU : ∀ e, e < n → (fnEntry l.reverse).U e = (fnEntry l).U (n - 1 - e) ∧ (fnEntry l.reverse).Q e = (fnEntry l).Q (n - 1 - e) ∧ (fnEntry l.reverse).K e = (fnEntry l).K (n - 1 - e) ∧ (fnEntry l.reverse).X e = (fnEntry l).X (n - 1 - e) := fun e he => by
    have : l.reverse.getD e ⟨⟨#[]⟩, 0, 0, ⟨#[]⟩⟩ = l.getD (n - 1 - e) ⟨⟨#[]⟩, 0, 0, ⟨#[]⟩⟩ := by
      simp only [List.getD]
      rw [List.getElem?_reverse (by omega), hn]
    exact ⟨congrArg Entry1.u this, congrArg Entry1.q this, congrArg Entry1.k this, congrArg Entry1.x this⟩
  obtain ⟨u1, u2, u3, u4⟩ := hU (c / 4) (by omega)
  unfold revE
  rw [he]
  have hm : c = c / 4 * 4 + c % 4 := by omega
  have hlt : c % 4 < 4 := Nat.mod_lt _ (by decide)
  generalize hq : c / 4 = q at u1 u2 u3 u4 hm ⊢
  generalize hr : c % 4 = r at hlt hm ⊢
  subst hm
  match r, hlt with
  | 0, _ => rw [Nat.add_zero, Nat.add_zero, entCell0, entCell0, u1]
  | 1, _ => rw [entCell1, entCell1, u2]
  | 2, _ => rw [entCell2, entCell2, u3]
  | 3, _ => rw [entCell3, entCell3, u4]

set_option linter.unusedVariables false in
set_option maxHeartbeats 2000000 in
theorem lib_ReverseE (g p n : Nat) (E : Ents) (B : Nat) (w : World) (hn : 0 < n) (hl : n ≤ 1000) (h : Mine w B 45 4 (some ⟨g, 0, none⟩) p n (entCell E)) :
    Calls Try.prog 43 #[.slice (some ⟨g, 0, none⟩) n p] w fun e w' => e = .returned (.tuple #[]) ∧ Mv g w w' ∧ ∃ i m, i + m + 1 = n ∧ ¬ i < m ∧ Mine w' B 45 4 (some ⟨g, 0, none⟩) p n (revE E n i) := by
  have HM0 : Hid (Mine w B 45 4 (some ⟨g, 0, none⟩) p n (revE E n 0)) := h.congr fun j hj => by
    unfold revE revPE
    rw [if_neg (by omega), show j / 4 * 4 + j % 4 = j by omega]
  have HV0 : Hid (Mv g w w) := Mv.refl _ _
  obtain ⟨m0, hm0⟩ : ∃ m0, n = m0 + 1 := ⟨n - 1, by omega⟩
  have hw : IntKind.i64.wrap ((n : Int) - 1) = (m0 : Int) := by rw [IntKind.wrap_i64]; omega
  have HE0 : Hid (0 + m0 + 1 = n) := by show _ = _; omega
  clear h hm0
  go_enter Try.func43, Try.ntmps43
  go_wp2
  clear hw
  go_loopw [2, 3] (fun a b wr => ∃ i m : Nat, a = .int .i64 i ∧ b = .int .i64 m ∧ Hid (i + m + 1 = n) ∧ Hid (Mine wr B 45 4 (some ⟨g, 0, none⟩) p n (revE E n i)) ∧ Hid (Mv g w wr)) (fun a _ _ => n - (intOf a).toNat)
  case atStart => exact ⟨0, m0, rfl, rfl, HE0, HM0, HV0⟩
  case round =>
    obtain ⟨i, m, rfl, rfl, HE, HM, HV⟩ := hrel
    clear HM0 HV0 HE0
    have hE := HE.out
    by_cases hlt : i < m
    · have hli : (i : Int) < (m : Int) := by omega
      have hin : (i : Int) < (n : Int) := by omega
      have hmn : (m : Int) < (n : Int) := by omega
      have c0 : wr.cell? ⟨g, i * 4, none⟩ = some (Value.string (E.U i)) := by rw [HM.out.cell (by omega), revE_mid0 (Nat.le_refl _) (by omega)]
      have c1 : wr.cell? ⟨g, i * 4 + 1, none⟩ = some (Value.int .i64 (E.Q i)) := by rw [HM.out.cell (by omega), revE_mid1 (Nat.le_refl _) (by omega)]
      have c2 : wr.cell? ⟨g, i * 4 + 2, none⟩ = some (Value.int .i64 (E.K i)) := by rw [HM.out.cell (by omega), revE_mid2 (Nat.le_refl _) (by omega)]
      have c3 : wr.cell? ⟨g, i * 4 + 3, none⟩ = some (Value.string (E.X i)) := by rw [HM.out.cell (by omega), revE_mid3 (Nat.le_refl _) (by omega)]
      have d0 : wr.cell? ⟨g, m * 4, none⟩ = some (Value.string (E.U m)) := by rw [HM.out.cell (by omega), revE_mid0 (by omega) (by omega)]
      have d1 : wr.cell? ⟨g, m * 4 + 1, none⟩ = some (Value.int .i64 (E.Q m)) := by rw [HM.out.cell (by omega), revE_mid1 (by omega) (by omega)]
      have d2 : wr.cell? ⟨g, m * 4 + 2, none⟩ = some (Value.int .i64 (E.K m)) := by rw [HM.out.cell (by omega), revE_mid2 (by omega) (by omega)]
      have d3 : wr.cell? ⟨g, m * 4 + 3, none⟩ = some (Value.string (E.X m)) := by rw [HM.out.cell (by omega), revE_mid3 (by omega) (by omega)]
      have hf : ∀ j, wr.frozen? ⟨g, j, none⟩ = false := HM.out.free
      have ne00 : ¬ i * 4 = m * 4 := by omega
      have ne01 : ¬ i * 4 = m * 4 + 1 := by omega
      have ne02 : ¬ i * 4 = m * 4 + 2 := by omega
      have ne03 : ¬ i * 4 = m * 4 + 3 := by omega
      have ne10 : ¬ i * 4 + 1 = m * 4 := by omega
      have ne11 : ¬ i * 4 + 1 = m * 4 + 1 := by omega
      have ne12 : ¬ i * 4 + 1 = m * 4 + 2 := by omega
      have ne13 : ¬ i * 4 + 1 = m * 4 + 3 := by omega
      have ne20 : ¬ i * 4 + 2 = m * 4 := by omega
      have ne21 : ¬ i * 4 + 2 = m * 4 + 1 := by omega
      have ne22 : ¬ i * 4 + 2 = m * 4 + 2 := by omega
      have ne23 : ¬ i * 4 + 2 = m * 4 + 3 := by omega
      have ne30 : ¬ i * 4 + 3 = m * 4 := by omega
      have ne31 : ¬ i * 4 + 3 = m * 4 + 1 := by omega
      have ne32 : ¬ i * 4 + 3 = m * 4 + 2 := by omega
      have ne33 : ¬ i * 4 + 3 = m * 4 + 3 := by omega
      have HE2 : Hid (i + 1 + (m - 1) + 1 = n) := by show _ = _; omega
      have HM2 := hide ((((((((((HM.out.set (i * 4) (Value.string (E.U m))).set (i * 4 + 1) (Value.int .i64 (E.Q m))).set (i * 4 + 2) (Value.int .i64 (E.K m))).set (i * 4 + 3) (Value.string (E.X m))).set (m * 4) (Value.string (E.U i))).set (m * 4 + 1) (Value.int .i64 (E.Q i))).set (m * 4 + 2) (Value.int .i64 (E.K i))).set (m * 4 + 3) (Value.string (E.X i))).congr fun c _ => revE_step hE hlt c).next (Below.refl _ _).drew)
      have HV2 := hide (((((((((HV.out.setCell (o := i * 4) (Value.string (E.U m))).setCell (o := i * 4 + 1) (Value.int .i64 (E.Q m))).setCell (o := i * 4 + 2) (Value.int .i64 (E.K m))).setCell (o := i * 4 + 3) (Value.string (E.X m))).setCell (o := m * 4) (Value.string (E.U i))).setCell (o := m * 4 + 1) (Value.int .i64 (E.Q i))).setCell (o := m * 4 + 2) (Value.int .i64 (E.K i))).setCell (o := m * 4 + 3) (Value.string (E.X i))).trans (Mv.of_below (Below.refl _ _).drew))
      clear HM HV HE
      generalize E.U i = ui at *
      generalize E.Q i = qi at *
      generalize E.K i = ki at *
      generalize E.X i = xi at *
      generalize E.U m = um at *
      generalize E.Q m = qm at *
      generalize E.K m = km at *
      generalize E.X m = xm at *
      go_wp2
      go_region
      all_goals
        go_wp2
        exact ⟨⟨i + 1, m - 1, by go_num, by first | go_num | (congr 1; omega), HE2, HM2, HV2⟩, by simp [intOf]; omega⟩
    · have hli : ¬ ((i : Int) < (m : Int)) := by omega
      go_wp2
      refine bodyPost_end (results_none rfl _ _ _) rfl ⟨by simp, HV.out, i, m, HE.out, by omega, HM.out⟩

end Go.Proofs.Ytapajchnfjjipaa
