/- ScanBack of both. -/
import Derived.Test.YtfnhlccpkommoaaScan
import Derived.RegionTactic
import Derived.BigRegion
namespace Go.Proofs.Ytfnhlccpkommoaa
set_option maxRecDepth 100000
open Go.RowKit Go.Deep

theorem Mine.set {w : World} {B : Nat} {ty : TypeId} {k g p n : Nat} {f : Nat → Value} (h : Mine w B ty k (some ⟨g, 0, none⟩) p n f) (j : Nat) (v : Value) : Mine (w.setCell ⟨g, j, none⟩ v) B ty k (some ⟨g, 0, none⟩) p n (fun i => if i = j then v else f i) := by
  rcases h with ⟨h, _⟩ | ⟨g', cur, ha, hB, hh, hn, hc⟩
  · cases h
  · simp only [Option.some.injEq, Addr.mk.injEq, and_true] at ha
    subst ha
    refine .inr ⟨g, cur.setIfInBounds j v, rfl, hB, BoxIs.set hh j v, by simpa using hn, fun i hi => ?_⟩
    have hs : i < cur.size := by omega
    by_cases e : i = j
    · subst e
      show _ = some (if i = i then v else f i)
      rw [if_pos rfl]; simp [hs]
    · show _ = some (if i = j then v else f i)
      rw [if_neg e, Array.getElem?_setIfInBounds_ne (by omega)]; exact hc i hi
theorem Mine.free {w : World} {B : Nat} {ty : TypeId} {k g p n : Nat} {f : Nat → Value} (h : Mine w B ty k (some ⟨g, 0, none⟩) p n f) (j : Nat) : w.frozen? ⟨g, j, none⟩ = false := by
  rcases h with ⟨h, _⟩ | ⟨g', cur, ha, hB, hh, hn, hc⟩
  · cases h
  · simp only [Option.some.injEq, Addr.mk.injEq, and_true] at ha
    subst ha
    exact BoxIs.free hh j
theorem Mine.cell {w : World} {B : Nat} {ty : TypeId} {k g p n : Nat} {f : Nat → Value} (h : Mine w B ty k (some ⟨g, 0, none⟩) p n f) {j : Nat} (hj : j < n * k) : w.cell? ⟨g, j, none⟩ = some (f j) := by
  rcases h with ⟨h, _⟩ | ⟨g', cur, ha, hB, hh, hn, hc⟩
  · cases h
  · simp only [Option.some.injEq, Addr.mk.injEq, and_true] at ha
    subst ha
    exact (BoxIs.cell hh j).trans (hc j hj)

/-- The place that place e of a row holds behind i rounds of its turning. -/
def revP (n i e : Nat) : Nat := if e < i ∨ n - i ≤ e then n - 1 - e else e
def revC (O : Pairs) (n i : Nat) (c : Nat) : Value := pairCell O (revP n i (c / 2) * 2 + c % 2)
theorem pairC0 (O : Pairs) (k : Nat) : pairCell O (k * 2) = .string (O.U k) := by
  unfold pairCell; rw [if_pos (by omega), show k * 2 / 2 = k by omega]
theorem pairC1 (O : Pairs) (k : Nat) : pairCell O (k * 2 + 1) = .string (O.V k) := by
  unfold pairCell; rw [if_neg (by omega), show (k * 2 + 1) / 2 = k by omega]
theorem revC_mid0 {O : Pairs} {n i e : Nat} (h : i ≤ e) (h2 : e < n - i) : revC O n i (e * 2) = .string (O.U e) := by
  unfold revC revP
  rw [show e * 2 / 2 = e by omega, show e * 2 % 2 = 0 by omega, if_neg (by omega), Nat.add_zero, pairC0]
theorem revC_mid1 {O : Pairs} {n i e : Nat} (h : i ≤ e) (h2 : e < n - i) : revC O n i (e * 2 + 1) = .string (O.V e) := by
  unfold revC revP
  rw [show (e * 2 + 1) / 2 = e by omega, show (e * 2 + 1) % 2 = 1 by omega, if_neg (by omega), pairC1]
theorem rev_step {O : Pairs} {n i m : Nat} (h : i + m + 1 = n) (hl : i < m) (c : Nat) :
    (if c = m * 2 + 1 then Value.string (O.V i) else if c = m * 2 then .string (O.U i) else if c = i * 2 + 1 then .string (O.V m) else if c = i * 2 then .string (O.U m) else revC O n i c) = revC O n (i + 1) c := by
  by_cases c1 : c = m * 2 + 1
  · subst c1; rw [if_pos rfl]; unfold revC revP
    rw [show (m * 2 + 1) / 2 = m by omega, show (m * 2 + 1) % 2 = 1 by omega, if_pos (by omega), show n - 1 - m = i by omega, pairC1]
  · rw [if_neg c1]
    by_cases c2 : c = m * 2
    · subst c2; rw [if_pos rfl]; unfold revC revP
      rw [show m * 2 / 2 = m by omega, show m * 2 % 2 = 0 by omega, if_pos (by omega), show n - 1 - m = i by omega, Nat.add_zero, pairC0]
    · rw [if_neg c2]
      by_cases c3 : c = i * 2 + 1
      · subst c3; rw [if_pos rfl]; unfold revC revP
        rw [show (i * 2 + 1) / 2 = i by omega, show (i * 2 + 1) % 2 = 1 by omega, if_pos (by omega), show n - 1 - i = m by omega, pairC1]
      · rw [if_neg c3]
        by_cases c4 : c = i * 2
        · subst c4; rw [if_pos rfl]; unfold revC revP
          rw [show i * 2 / 2 = i by omega, show i * 2 % 2 = 0 by omega, if_pos (by omega), show n - 1 - i = m by omega, Nat.add_zero, pairC0]
        · rw [if_neg c4]
          unfold revC revP
          have hiff : (c / 2 < i ∨ n - i ≤ c / 2) ↔ (c / 2 < i + 1 ∨ n - (i + 1) ≤ c / 2) := by omega
          simp only [hiff]
theorem rev_end {l : List Pair1} {n i m : Nat} (hn : l.length = n) (h : i + m + 1 = n) (hl : ¬ i < m) {c : Nat} (hc : c < n * 2) : revC (fnPair l) n i c = pairCell (fnPair l.reverse) c := by
  have he : revP n i (c / 2) = n - 1 - c / 2 := by unfold revP; split <;> omega
  have hU : ∀ e, e < n → (fnPair l.reverse).U e = (fnPair l).U (n - 1 - e) ∧ (fnPair l.reverse).V e = (fnPair l).V (n - 1 - e) := fun e he => by
    have : l.reverse.getD e ⟨⟨#[]⟩, ⟨#[]⟩⟩ = l.getD (n - 1 - e) ⟨⟨#[]⟩, ⟨#[]⟩⟩ := by
      simp only [List.getD]
      rw [List.getElem?_reverse (by omega), hn]
    exact ⟨congrArg Pair1.u this, congrArg Pair1.v this⟩
  obtain ⟨u1, u2⟩ := hU (c / 2) (by omega)
  unfold revC
  rw [he]
  rcases Nat.mod_two_eq_zero_or_one c with e | e
  · rw [e, Nat.add_zero, pairC0, show c = c / 2 * 2 by omega, pairC0, show c / 2 * 2 / 2 = c / 2 by omega, u1]
  · rw [e, pairC1, show c = c / 2 * 2 + 1 by omega, pairC1, show (c / 2 * 2 + 1) / 2 = c / 2 by omega, u2]

set_option linter.unusedVariables false in
set_option maxHeartbeats 1000000 in
theorem lib_Reverse (g p n : Nat) (O : Pairs) (B : Nat) (w : World) (hn : 0 < n) (hl : n ≤ 1000) (h : Mine w B 38 2 (some ⟨g, 0, none⟩) p n (pairCell O)) :
    Calls Try.prog 43 #[.slice (some ⟨g, 0, none⟩) n p] w fun e w' => e = .returned (.tuple #[]) ∧ Mv g w w' ∧ ∃ i m, i + m + 1 = n ∧ ¬ i < m ∧ Mine w' B 38 2 (some ⟨g, 0, none⟩) p n (revC O n i) := by
  have HM0 : Hid (Mine w B 38 2 (some ⟨g, 0, none⟩) p n (revC O n 0)) := h.congr fun j hj => by
    unfold revC revP
    rw [if_neg (by omega), show j / 2 * 2 + j % 2 = j by omega]
  have HV0 : Hid (Mv g w w) := Mv.refl _ _
  obtain ⟨m0, hm0⟩ : ∃ m0, n = m0 + 1 := ⟨n - 1, by omega⟩
  have hw : IntKind.i64.wrap ((n : Int) - 1) = (m0 : Int) := by rw [IntKind.wrap_i64]; omega
  have HE0 : Hid (0 + m0 + 1 = n) := by show _ = _; omega
  clear h hm0
  go_enter Try.func43, Try.ntmps43
  go_wp2
  clear hw
  go_loopw [2, 3] (fun a b wr => ∃ i m : Nat, a = .int .i64 i ∧ b = .int .i64 m ∧ Hid (i + m + 1 = n) ∧ Hid (Mine wr B 38 2 (some ⟨g, 0, none⟩) p n (revC O n i)) ∧ Hid (Mv g w wr)) (fun a _ _ => n - (intOf a).toNat)
  case atStart => exact ⟨0, m0, rfl, rfl, HE0, HM0, HV0⟩
  case round =>
    obtain ⟨i, m, rfl, rfl, HE, HM, HV⟩ := hrel
    clear HM0 HV0 HE0
    have hE := HE.out
    by_cases hlt : i < m
    · have hli : (i : Int) < (m : Int) := by omega
      have hin : (i : Int) < (n : Int) := by omega
      have hmn : (m : Int) < (n : Int) := by omega
      have c0 : wr.cell? ⟨g, i * 2, none⟩ = some (.string (O.U i)) := by rw [HM.out.cell (by omega), revC_mid0 (Nat.le_refl _) (by omega)]
      have c1 : wr.cell? ⟨g, i * 2 + 1, none⟩ = some (.string (O.V i)) := by rw [HM.out.cell (by omega), revC_mid1 (Nat.le_refl _) (by omega)]
      have d0 : wr.cell? ⟨g, m * 2, none⟩ = some (.string (O.U m)) := by rw [HM.out.cell (by omega), revC_mid0 (by omega) (by omega)]
      have d1 : wr.cell? ⟨g, m * 2 + 1, none⟩ = some (.string (O.V m)) := by rw [HM.out.cell (by omega), revC_mid1 (by omega) (by omega)]
      have hf : ∀ j, wr.frozen? ⟨g, j, none⟩ = false := HM.out.free
      have hne : ¬ i * 2 = m * 2 := by omega
      have hne2 : ¬ i * 2 + 1 = m * 2 := by omega
      have hne3 : ¬ i * 2 = m * 2 + 1 := by omega
      have hne4 : ¬ i * 2 + 1 = m * 2 + 1 := by omega
      have HE2 : Hid (i + 1 + (m - 1) + 1 = n) := by show _ = _; omega
      have HM2 := hide ((((((HM.out.set (i * 2) (.string (O.U m))).set (i * 2 + 1) (.string (O.V m))).set (m * 2) (.string (O.U i))).set (m * 2 + 1) (.string (O.V i))).congr fun c _ => rev_step hE hlt c).next (Below.refl _ _).drew)
      have HV2 := hide (((((HV.out.setCell (o := i * 2) (.string (O.U m))).setCell (o := i * 2 + 1) (.string (O.V m))).setCell (o := m * 2) (.string (O.U i))).setCell (o := m * 2 + 1) (.string (O.V i))).trans (Mv.of_below (Below.refl _ _).drew))
      clear HM HV HE
      go_wp2
      go_region
      all_goals
        go_wp2
        exact ⟨⟨i + 1, m - 1, by go_num, by first | go_num | (congr 1; omega), HE2, HM2, HV2⟩, by simp [intOf]; omega⟩
    · have hli : ¬ ((i : Int) < (m : Int)) := by omega
      go_wp2
      refine bodyPost_end (results_none rfl _ _ _) rfl ⟨by simp, HV.out, i, m, HE.out, by omega, HM.out⟩

theorem lib_Reverse0 (a : Option Addr) (p : Nat) (w : World) :
    Calls Try.prog 43 #[.slice a 0 p] w fun e w' => e = .returned (.tuple #[]) ∧ Below w.heap.size w w' := by
  have HB0 : Hid (Below w.heap.size w w) := Below.refl _ _
  go_enter Try.func43, Try.ntmps43
  go_wp2
  go_loopw [2, 3] (fun a b wr => a = .int .i64 0 ∧ b = .int .i64 (-1) ∧ Hid (Below w.heap.size w wr)) (fun _ _ _ => 0)
  case atStart => exact ⟨rfl, rfl, HB0⟩
  case round =>
    obtain ⟨rfl, rfl, HB⟩ := hrel
    go_wp2
    refine bodyPost_end (results_none rfl _ _ _) rfl ⟨by simp, HB.out⟩

/-- A row of pairs of one's own, as an answer. -/
def MineP (w : World) (B : Nat) (v : Value) (l : List Pair1) : Prop := ∃ a p, v = .slice a l.length p ∧ Mine w B 38 2 a p l.length (pairCell (fnPair l))
theorem MineP.mine {w : World} {B : Nat} {v : Value} {l : List Pair1} (h : MineP w B v l) : ∃ a p, v = .slice a l.length p ∧ Mine w B 38 2 a p l.length (pairCell (fnPair l)) := h

theorem impl_ScanBack (a : Option Addr) (len cap : Nat) (E : Ents) (seq : Int) (fr to : ByteArray) (w : World) (hl : len ≤ 1048576) (hS : EntAt w w.heap.size a len E) :
    Calls Try.prog 19 #[.slice a len cap, .int .i64 seq, .string fr, .string to] w fun e w' => (∃ v, e = .returned v ∧ MineP w' w.heap.size v (scanL E len seq fr to).reverse) ∧ Below w.heap.size w w' := by
  have hvl : (scanL E len seq fr to).length ≤ 1000 := by
    refine Nat.le_trans (rngL_len _ _ _ _) ?_
    unfold visible
    split
    · rename_i h
      have := visL_len E seq len
      have := (rowOk_out h).1
      omega
    · simp
  go_enter Try.func19, Try.ntmps19
  go_wp2_with fail
  refine (impl_Scan a len cap E seq fr to w hl hS).mono ?_
  rintro e W0 ⟨⟨v0, rfl, ho⟩, hB⟩
  generalize hll : scanL E len seq fr to = l at hvl ho
  have HLL := hide hll
  clear hll
  obtain ⟨pa, pp, rfl, hM⟩ := ho.mine
  have HB := hide hB
  have hBz := hB.size
  clear hS ho hB
  rcases Nat.eq_zero_or_pos l.length with h0 | h0
  · have hl0 : l = [] := List.length_eq_zero_iff.1 h0
    subst hl0
    have HM : Hid (MineP W0 w.heap.size (.slice pa 0 pp) ([] : List Pair1).reverse) := ⟨pa, pp, rfl, hM⟩
    clear hM
    go_wp2_with fail
    refine (lib_Reverse0 pa pp W0).mono ?_
    rintro e W1 ⟨rfl, hb1⟩
    have HM1 : Hid (MineP W1 w.heap.size (.slice pa 0 pp) ([] : List Pair1).reverse) := by
      obtain ⟨a', p', hv, hm⟩ := HM.out
      exact ⟨a', p', hv, hm.next hb1⟩
    have HB1 := hide (HB.out.trans (hb1.mono hBz))
    clear HM hb1 HB
    go_wp2
    go_ret
    exact ⟨⟨_, rfl, by rw [HLL.out]; exact HM1.out⟩, HB1.out⟩
  · obtain ⟨g, rfl, hg⟩ : ∃ g, pa = some ⟨g, 0, none⟩ ∧ w.heap.size ≤ g := by
      rcases hM with ⟨_, _, h⟩ | ⟨g, cur, ha, hB, _⟩
      · omega
      · exact ⟨g, ha, hB⟩
    obtain ⟨n, hn⟩ : ∃ n, l.length = n := ⟨_, rfl⟩
    have hrl : l.reverse.length = n := by simp [hn]
    rw [hn] at hvl h0 hM ⊢
    have HN := hide hn
    have HRL := hide hrl
    clear hn hrl
    go_wp2_with fail
    refine (lib_Reverse g pp n (fnPair l) w.heap.size W0 h0 hvl hM).mono ?_
    rintro e W1 ⟨rfl, hv, i, m, hE, hlt, hm⟩
    have HM1 : Hid (MineP W1 w.heap.size (.slice (some ⟨g, 0, none⟩) n pp) l.reverse) := by
      refine ⟨some ⟨g, 0, none⟩, pp, by rw [HRL.out], ?_⟩
      rw [HRL.out]
      exact hm.congr fun c hc => rev_end HN.out hE hlt hc
    have HB1 := hide (HB.out.trans (hv.below hBz hg))
    clear hv hE hlt hm hM HB
    go_wp2
    go_ret
    exact ⟨⟨_, rfl, by rw [HLL.out]; exact HM1.out⟩, HB1.out⟩

set_option linter.unusedVariables false in
set_option maxHeartbeats 1000000 in
theorem spec_ScanBack (a : Option Addr) (len cap : Nat) (E : Ents) (seq : Int) (fr to : ByteArray) (w : World) (hl : len ≤ 1048576) (hS : EntAt w w.heap.size a len E) :
    Calls Try.prog 18 #[.slice a len cap, .int .i64 seq, .string fr, .string to] w fun e w' => (∃ v, e = .returned v ∧ OwnPair w' w.heap.size v (scanL E len seq fr to).reverse) ∧ Below w.heap.size w w' := by
  have hvl : (scanL E len seq fr to).length ≤ 1000 := by
    refine Nat.le_trans (rngL_len _ _ _ _) ?_
    unfold visible
    split
    · rename_i h
      have := visL_len E seq len
      have := (rowOk_out h).1
      omega
    · simp
  go_enter Try.func18, Try.ntmps18
  go_wp2_with fail
  refine (spec_Scan a len cap E seq fr to w hl hS).mono ?_
  rintro e W0 ⟨⟨v0, rfl, ho⟩, hB⟩
  generalize hll : scanL E len seq fr to = l at hvl ho
  have HLL := hide hll
  obtain ⟨pa, pp, rfl, hP⟩ := ho.arg
  have HB := hide hB
  have hBz := hB.size
  have HP := hP.hid
  obtain ⟨n, hn⟩ : ∃ n, l.length = n := ⟨_, rfl⟩
  have HN := hide hn
  rw [hn] at hvl HP ⊢
  have HO0 : Hid (OwnPair (W0.alloc (.cells #[] 38)) W0.heap.size (.slice (some ⟨W0.heap.size, 0, none⟩) 0 0) (l.drop n).reverse) := by
    show OwnPair _ _ _ _
    rw [List.drop_of_length_le (Nat.le_of_eq hn)]
    exact OwnPair.lit W0 _ (Nat.le_refl _)
  have HB0 : Hid (Below W0.heap.size W0 (W0.alloc (.cells #[] 38))) := below_one W0 _
  clear hS ho hB hll hP hn
  have hw : IntKind.i64.wrap ((n : Int) - 1) = (n : Int) - 1 := by rw [IntKind.wrap_i64]; omega
  have hx0 : (n : Int) - 1 + 1 ≤ (n : Int) ∧ (n : Int) ≤ (n : Int) - 1 + 1 := by omega
  go_wp2
  clear hw
  go_loopw [10, 11] (fun v i wr => ∃ (k : Nat) (x : Int), i = .int .i64 x ∧ k ≤ n ∧ (x + 1 ≤ (k : Int) ∧ (k : Int) ≤ x + 1) ∧ Hid (OwnPair wr W0.heap.size v (l.drop k).reverse) ∧ Hid (Below W0.heap.size W0 wr)) (fun _ i _ => (intOf i + 1).toNat)
  case atStart => exact ⟨n, _, rfl, Nat.le_refl _, hx0, HO0, HB0⟩
  case round =>
    obtain ⟨k, x, rfl, hk, ⟨hx1, hx2⟩, HO, HW⟩ := hrel
    clear HO0 HB0 hx0
    by_cases hpos : 0 < k
    · obtain ⟨j, rfl⟩ : ∃ j, k = j + 1 := ⟨k - 1, by omega⟩
      obtain rfl : x = (j : Int) := by omega
      obtain ⟨b', off, rfl, hb', c0, c1⟩ := (HP.out.below HW.out).at (show j < n by omega)
      have hji : (j : Int) < (n : Int) := by omega
      have hwz := HW.out.size
      have hj0 : (0 : Int) ≤ (j : Int) := by omega
      have hsub : IntKind.i64.wrap ((j : Int) - 1) = (j : Int) - 1 := by rw [IntKind.wrap_i64]; omega
      have hsub2 : wrap64 ((j : Int) - 1) = (j : Int) - 1 := by unfold wrap64; omega
      have hxx : (j : Int) - 1 + 1 ≤ (j : Int) ∧ (j : Int) ≤ (j : Int) - 1 + 1 := by omega
      have hjl : j < l.length := by rw [HN.out]; omega
      have hel : pairAt1 (fnPair l) j = l[j] := fnPair_at l j hjl
      have HD : Hid ((l.drop j).reverse = (l.drop (j + 1)).reverse ++ [⟨(fnPair l).U j, (fnPair l).V j⟩]) := by
        show _ = _
        rw [List.drop_eq_getElem_cons hjl, List.reverse_cons, ← hel]
        rfl
      have hdl : ((l.drop (j + 1)).reverse).length ≤ 1000 := by rw [List.length_reverse, List.length_drop, HN.out]; omega
      have hb2 := below_one wr (.cells #[.string ((fnPair l).U j), .string ((fnPair l).V j)] 38)
      have HO3 := hide (HO.out.next hb2)
      have HW3 := hide (HW.out.trans (hb2.mono HW.out.size))
      have HNB := (BoxIs.new wr #[.string ((fnPair l).U j), .string ((fnPair l).V j)] 38 rfl).hid
      clear HO HW hb2 hel hjl hpos hk hx1 hx2
      generalize (l.drop (j + 1)).reverse = lr at hdl HD HO3
      generalize (fnPair l).U j = pu at c0 HD HO3 HW3 HNB
      generalize (fnPair l).V j = pv at c1 HD HO3 HW3 HNB
      go_wp2_with (at_builtin; refine wpList_append_pair rfl _ _ 24 rfl Try.underlying24 W0.heap.size _ lr [⟨pu, pv⟩] (by rfl) HO3.out ⟨wr.heap.size, 0, none⟩ 1 1 (by rfl) rfl (pair_news HNB.out) HW3.out.size ?c1 ?_)
      case c1 => first | omega | (simp; omega)
      intro v' W6 hown hb6
      have HO6 : Hid (OwnPair W6 W0.heap.size v' (l.drop j).reverse) := by show OwnPair _ _ _ _; rw [HD.out]; exact hown
      have HW6 := hide (HW3.out.trans hb6)
      have hjn : j ≤ n := by omega
      clear hown hb6 HO3 HW3 HNB HD c0 c1
      go_wp2
      exact ⟨⟨j, (j : Int) - 1, by first | rfl | (congr 1; omega), hjn, hxx, HO6, HW6⟩, by first | (simp [intOf]; done) | (simp [intOf]; omega)⟩
    · obtain rfl : x = -1 := by omega
      have hk0 : k = 0 := by omega
      have HOv : Hid (OwnPair wr w.heap.size u10 (scanL E len seq fr to).reverse) := by
        show OwnPair _ _ _ _
        rw [HLL.out]
        have := HO.out
        rw [hk0, List.drop_zero] at this
        exact this.base hBz
      have HWv := hide (HB.out.trans (HW.out.mono hBz))
      clear HO HW hk0
      go_wp2
      go_ret
      exact ⟨⟨_, rfl, HOv.out⟩, HWv.out⟩

end Go.Proofs.Ytfnhlccpkommoaa
