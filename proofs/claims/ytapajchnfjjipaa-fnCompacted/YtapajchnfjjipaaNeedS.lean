/- Needed of the model. (By gen_needs.py.) -/
import Derived.Test.YtapajchnfjjipaaRowSort
import Derived.Test.YtapajchnfjjipaaSnapsS
import Derived.Deep.AppendLies
namespace Go.Proofs.Ytapajchnfjjipaa
set_option maxRecDepth 100000
open Go.RowKit Go.Deep

theorem pts_any {E : Ents} {L : List Int} {k q : Nat} {nd : Bool} {p : Int} (h : nd = (L.take q).any fun p => firstB E p k) (hp : L[q]? = some p) : (nd || firstB E p k) = (L.take (q + 1)).any fun p => firstB E p k := by
  rw [List.take_add_one, hp, List.any_append, ← h]
  simp
theorem first_high {E : Ents} {p : Int} {k : Nat} (h : p < E.Q k) : firstB E p k = false := by
  unfold firstB; rw [decide_eq_false (p := E.Q k ≤ p) (by omega), Bool.false_and]
theorem first_0 {E : Ents} {p : Int} (h : ¬ p < E.Q 0) : firstB E p 0 = true := by
  unfold firstB; rw [decide_eq_true (p := E.Q 0 ≤ p) (by omega)]; simp
theorem first_u {E : Ents} {p : Int} {j : Nat} (h : ¬ p < E.Q (j + 1)) (hu : ¬ E.U j = E.U (j + 1)) : firstB E p (j + 1) = true := by
  unfold firstB; rw [decide_eq_true (p := E.Q (j + 1) ≤ p) (by omega), Nat.add_sub_cancel, decide_eq_true (p := E.U j ≠ E.U (j + 1)) hu]; simp
theorem first_q {E : Ents} {p : Int} {j : Nat} (h : ¬ p < E.Q (j + 1)) (hq : p < E.Q j) : firstB E p (j + 1) = true := by
  unfold firstB; rw [decide_eq_true (p := E.Q (j + 1) ≤ p) (by omega), Nat.add_sub_cancel, decide_eq_true hq]; simp
theorem first_n {E : Ents} {p : Int} {j : Nat} (hu : E.U j = E.U (j + 1)) (hq : ¬ p < E.Q j) : firstB E p (j + 1) = false := by
  unfold firstB; rw [Nat.add_sub_cancel, decide_eq_false (p := E.U j ≠ E.U (j + 1)) (fun c => c hu), decide_eq_false hq, decide_eq_false (p := j + 1 = 0) (by omega)]; simp

/-- What the model's walk over a row keeps: its answer's row (block g), the points (block pg). -/
structure NS (w wr : World) (pg g m c : Nat) (L PL : List Int) : Prop where
  ne : g ≠ pg
  own : Own wr w.heap.size 2 (.slice (some ⟨g, 0, none⟩) m c) (L.map (Value.int .i64))
  lt : pg < wr.heap.size
  pts : ∀ (j : Nat) (p : Int), PL[j]? = some p → wr.cell? ⟨pg, j, none⟩ = some (.int .i64 p)
  low : Below w.heap.size w wr
theorem NS.next {w wr wx : World} {pg g m c : Nat} {L PL : List Int} (h : NS w wr pg g m c L PL) (hb : Below wr.heap.size wr wx) : NS w wx pg g m c L PL :=
  ⟨h.ne, h.own.below hb (Nat.le_refl _), Nat.lt_of_lt_of_le h.lt hb.size, fun j p hp => keepc hb (h.pts j p hp), h.low.trans (hb.mono h.low.size)⟩

set_option linter.unusedVariables false in
set_option linter.unusedSimpArgs false in
set_option maxHeartbeats 2000000 in
theorem spec_l14Needed (a : Option Addr) (len cap : Nat) (E : Ents) (b : Option Addr) (n ncap : Nat) (S : Nat → Int) (w : World) (hok : rowOkB E len = true) (hn : n ≤ 20) (hb : ∃ g o, b = some ⟨g, o, none⟩) (hS : EntAt w w.heap.size a len E) (hI : IntAt w w.heap.size b n S) :
    Calls Try.prog 34 #[.slice a len cap, .slice b n ncap] w fun e w' => (∃ v, e = .returned v ∧ OwnI w' w.heap.size v (needL E (seqsL S n) len)) ∧ Below w.heap.size w w' := by
  obtain ⟨bg, bo, rfl⟩ := hb
  have hi5 : (Try.prog.info? 2).map (fun i => (i.zero, i.size, i.bytes)) = some (some (.int .i64 0), 1, 8) := by kernel_rfl
  obtain ⟨i0, hi0, hz0, hz1, hz2⟩ := info_parts hi5
  have HS : Hid (EntAt w w.heap.size a len E) := hS
  have HI : Hid (IntAt w w.heap.size (some ⟨bg, bo, none⟩) n S) := hI
  have HOK := hide hok
  have h4 := (rowOk_out hok).1
  have hb1 := below_one w (.cells #[] 2)
  have hz1' : (w.alloc (.cells #[] 2)).heap.size = w.heap.size + 1 := by simp
  have hb2 := below_one (w.alloc (.cells #[] 2)) (.cells #[] 2)
  have HB2 := hide (hb1.trans (hb2.mono hb1.size))
  have HO0 := hide ((Own.lit w w.heap.size 2 [] 0 rfl (Nat.le_refl _) (by decide)).below hb2 (Nat.le_refl _))
  have HP0 : Hid (Own ((w.alloc (.cells #[] 2)).alloc (.cells #[] 2)) (w.heap.size + 1) 2 (.slice (some ⟨w.heap.size + 1, 0, none⟩) 0 0) []) := by
    have := Own.lit (w.alloc (.cells #[] 2)) (w.heap.size + 1) 2 [] 0 rfl (by omega) (by decide)
    rw [hz1'] at this
    exact this
  have hz2' : ((w.alloc (.cells #[] 2)).alloc (.cells #[] 2)).heap.size = w.heap.size + 2 := by simp
  have hsl : ((List.range n).map fun i => Value.int .i64 (S i)).length = n := by simp
  have hsc : ∀ j u, ((List.range n).map fun i => Value.int .i64 (S i))[j]? = some u → ((w.alloc (.cells #[] 2)).alloc (.cells #[] 2)).cell? ((⟨bg, bo, none⟩ : Addr).add j) = some u := fun j u hu => by
    have hj : j < n := by have := (List.getElem?_eq_some_iff.1 hu).1; simpa using this
    obtain ⟨g', o', hbb, hg', hc⟩ := (HI.out.below HB2.out).at hj
    simp only [Option.some.injEq, Addr.mk.injEq, and_true] at hbb
    obtain ⟨rfl, rfl⟩ := hbb
    rw [Addr.add_lit, hc]
    simpa [hj] using hu
  have hso : ∀ u ∈ (List.range n).map (fun i => Value.int .i64 (S i)), u.oneCell' = true := fun u hu => by
    obtain ⟨i, _, rfl⟩ := List.mem_map.1 hu
    rfl
  clear hb1 hb2 hS hI hok
  go_enter Try.func34, Try.ntmps34
  go_wp2_with (at_builtin; refine wpList_append_own _ rfl _ _ 22 rfl (w.heap.size + 1) 2 i0 _ 1 8 Try.underlying22 hi0 hz0 hz1 hz2 rfl (by decide) _ 0 [] (by rfl) HP0.out ⟨bg, bo, none⟩ n ncap ((List.range n).map fun i => Value.int .i64 (S i)) (by rfl) (by rw [hsl, Nat.mul_one]) hsc hso (by unfold maxLen; omega) (by omega) (by rw [hz2']; omega) ?_)
  intro v3 W3 h1 h2 _
  have hP3 : Own W3 (w.heap.size + 1) 2 v3 ((List.range n).map fun i => Value.int .i64 (S i)) := by
    show World.ownsRow _ _ _ _ _ _ _
    rw [hsl]
    simpa using h1
  have hb3 : Below (w.heap.size + 1) ((w.alloc (.cells #[] 2)).alloc (.cells #[] 2)) W3 := HP0.out.grownBelow (by omega) h2
  have HB3 := hide (HB2.out.trans (hb3.mono (by omega)))
  have HO3 : Hid (Own W3 w.heap.size 2 (.slice (some ⟨w.heap.size, 0, none⟩) 0 0) []) := by
    have ho := HO0.out
    refine ⟨ho.1, .inr ⟨w.heap.size, 0, #[], rfl, Nat.le_refl _, ?_, Nat.le_refl _, by decide, by simp, by simp⟩⟩
    rw [hb3.block _ (by omega)]
    exact (heap_alloc_old _ _ (by simp)).trans (heap_alloc_new w _)
  have hz3 : w.heap.size + 2 ≤ W3.heap.size := by have := hb3.size; omega
  clear h1 h2 hb3 hsc hso HO0 HP0 HB2 hz1' hz2'
  go_wp2_with (at_builtin; refine wpList_append_one rfl _ _ 22 rfl 2 Try.underlying22 hi5 rfl (by decide) (w.heap.size + 1) _ _ ((List.range n).map fun i => Value.int .i64 (S i)) (by rfl) (by rfl) hP3 rfl (by omega) ?c1 ?_)
  case c1 => rw [hsl]; omega
  intro v4 W4 hP4 hb4
  have hz4 := hb4.size
  have hP4' : Own W4 (w.heap.size + 1) 2 v4 ((ptsL S n).map (Value.int .i64)) := by
    have e : (ptsL S n).map (Value.int .i64) = (List.range n).map (fun i => Value.int .i64 (S i)) ++ [.int .i64 1000000000000] := by simp [ptsL]
    rw [e]; exact hP4
  obtain ⟨pg, pc, rfl⟩ := hP4'.shape (by simp [ptsL])
  rw [List.length_map, ptsL_len] at hP4' ⊢
  have hpl := World.ownsRow.lt hP4' pg rfl
  have HN0 : Hid (NS w W4 pg w.heap.size 0 0 (needL E (seqsL S n) 0) (ptsL S n)) := by
    refine ⟨by omega, ?_, hpl.2, fun j p hp => ?_, HB3.out.trans (hb4.mono (by omega))⟩
    · have ho := HO3.out
      refine ⟨ho.1, .inr ⟨w.heap.size, 0, #[], rfl, Nat.le_refl _, ?_, Nat.le_refl _, by decide, by simp, by simp [needL]⟩⟩
      rw [hb4.block _ (by omega)]
      rcases ho.2 with ⟨hn, _⟩ | ⟨g, cap', cur, hv, hg, hh, hle, hcap, hsz, htk⟩
      · cases hn
      · cases hv
        have : cur = #[] := Array.eq_empty_of_size_eq_zero (by simpa using hsz)
        rw [this] at hh
        exact hh
    · have := World.ownsRow.cells hP4' (g := pg) rfl j (.int .i64 p) (by rw [List.getElem?_map, hp]; rfl)
      rw [Addr.add_lit] at this
      simpa using this
  have hpll := ptsL_len S n
  have HPA : Hid (∀ k, k < len → (ptsL S n).any (fun p => firstB E p k) = needA E (seqsL S n) k) := fun k hk => pts_needA HOK.out S n k hk
  clear hP3 hP4 hP4' HO3 HB3 hb4 hz4 hpl hz3 hsl
  generalize ptsL S n = PL at HN0 hpll HPA
  obtain ⟨N, hN⟩ : ∃ N, n + 1 = N := ⟨_, rfl⟩
  rw [hN] at hpll ⊢
  have hN21 : N ≤ 21 := by omega
  have HPL := hide hpll
  clear hN hpll
  go_wp2
  go_loopw [5, 7] (fun v i wr => ∃ (k g m c : Nat), v = .slice (some ⟨g, 0, none⟩) m c ∧ i = .int .i64 k ∧ k ≤ len ∧ Hid (NS w wr pg g m c (needL E (seqsL S n) k) PL)) (fun _ i _ => len - (intOf i).toNat)
  case atStart => exact ⟨0, _, _, _, rfl, rfl, by omega, HN0⟩
  case round =>
    obtain ⟨k, g, m, c, rfl, rfl, hk, HN⟩ := hrel
    clear HN0
    by_cases hlt : k < len
    · have hki : (k : Int) < (len : Int) := by omega
      have HB00 : Hid (Below wr.heap.size wr wr) := Below.refl _ _
      go_wp2
      rename World => wo
      go_loopw [8, 9] (fun nd i wr => ∃ (q : Nat) (b : Bool), nd = .bool b ∧ i = .int .i64 q ∧ q ≤ N ∧ Hid (b = (PL.take q).any fun p => firstB E p k) ∧ Hid (Below wo.heap.size wo wr)) (fun _ i _ => N - (intOf i).toNat)
      case atStart => exact ⟨0, false, rfl, rfl, by omega, rfl, HB00⟩
      case round =>
        obtain ⟨q, nd, rfl, rfl, hq, HA, HB⟩ := hrel
        clear HB00
        by_cases hqN : q < N
        · have hqi : (q : Int) < (N : Int) := by omega
          obtain ⟨p, hp⟩ : ∃ p, PL[q]? = some p := ⟨PL[q]'(by rw [HPL.out]; exact hqN), by simp⟩
          have HNr := HN.out.next HB.out
          have cp := HNr.pts q p hp
          have hbl := HNr.low
          obtain ⟨bE, off, rfl, hbE, c0, c1, c2, c3⟩ := (HS.out.below hbl).at hlt
          have hpq : pg < wr.heap.size := HNr.lt
          by_cases h1 : p < E.Q k
          · have HA2 : Hid (nd = (PL.take (q + 1)).any fun p => firstB E p k) := by
              show _ = _
              rw [← pts_any HA.out hp, first_high h1, Bool.or_false]
            clear HNr hbl hp HA
            go_wp2
            go_quiet (fail)
            go_wp2
            exact ⟨⟨q + 1, nd, rfl, by go_num, by omega, HA2, below_drewN HB.out _⟩, by simp [intOf]; omega⟩
          · have h1' : ¬ (p < E.Q k) := h1
            rcases Nat.eq_zero_or_pos k with hk0 | hk0
            · have HA2 : Hid ((nd || true) = (PL.take (q + 1)).any fun p => firstB E p k) := by
                show _ = _
                rw [← pts_any HA.out hp, hk0, first_0 (by rw [← hk0]; exact h1)]
              have hkz : ((k : Int) == 0) = true := by simp [hk0]
              clear hk0
              clear HNr hbl hp HA
              cases nd with
              | true =>
                go_wp2
                go_quiet (fail)
                go_wp2
                go_quiet (fail)
                go_wp2
                exact ⟨⟨q + 1, true, rfl, by go_num, by omega, HA2, below_drewN HB.out _⟩, by simp [intOf]; omega⟩
              | false =>
                go_wp2
                go_quiet (fail)
                go_wp2
                go_quiet (fail)
                go_wp2
                exact ⟨⟨q + 1, true, rfl, by go_num, by omega, HA2, below_drewN HB.out _⟩, by simp [intOf]; omega⟩
            · obtain ⟨j, hj⟩ : ∃ j, k = j + 1 := ⟨k - 1, by omega⟩
              have hjn : j < len := by omega
              obtain ⟨bE', off', hbb, hbE', e0, e1, e2, e3⟩ := (HS.out.below hbl).at hjn
              simp only [Option.some.injEq, Addr.mk.injEq, and_true] at hbb
              obtain ⟨rfl, rfl⟩ := hbb
              have hsub : IntKind.i64.wrap ((k : Int) - 1) = (j : Int) := by rw [IntKind.wrap_i64]; omega
              have hsub3 : wrap64 ((k : Int) - 1) = (j : Int) := by unfold wrap64; omega
              have hjl : (j : Int) < (len : Int) := by omega
              have hj00 : (0 : Int) ≤ (j : Int) := by omega
              have hkz : ((k : Int) == 0) = false := by simp; omega
              have hkz2 : ¬ ((k : Int) = 0) := by omega
              by_cases h2 : E.U j = E.U k
              · by_cases h3 : p < E.Q j
                · have HA2 : Hid ((nd || true) = (PL.take (q + 1)).any fun p => firstB E p k) := by
                    show _ = _
                    rw [← pts_any HA.out hp, hj, first_q (by rw [← hj]; exact h1) h3]
                  have h2t : ((E.U j).toList == (E.U k).toList) = true := by simp [h2]
                  have h2n : (E.U j).toList = (E.U k).toList := by rw [h2]
                  clear HNr hbl hp HA hj h2
                  cases nd with
                  | true =>
                    go_wp2
                    go_quiet (fail)
                    go_wp2
                    go_quiet (fail)
                    go_wp2
                    exact ⟨⟨q + 1, true, rfl, by go_num, by omega, HA2, below_drewN HB.out _⟩, by simp [intOf]; omega⟩
                  | false =>
                    go_wp2
                    go_quiet (fail)
                    go_wp2
                    go_quiet (fail)
                    go_wp2
                    exact ⟨⟨q + 1, true, rfl, by go_num, by omega, HA2, below_drewN HB.out _⟩, by simp [intOf]; omega⟩
                · have HA2 : Hid ((nd || false) = (PL.take (q + 1)).any fun p => firstB E p k) := by
                    show _ = _
                    rw [← pts_any HA.out hp, hj, first_n (by rw [← hj]; exact h2) h3]
                  have h3' : ¬ (p < E.Q j) := h3
                  have h3d : decide (p < E.Q j) = false := decide_eq_false h3
                  have h2t : ((E.U j).toList == (E.U k).toList) = true := by simp [h2]
                  have h2n : (E.U j).toList = (E.U k).toList := by rw [h2]
                  clear HNr hbl hp HA hj h2 h3
                  cases nd with
                  | true =>
                    go_wp2
                    go_quiet (fail)
                    go_wp2
                    go_quiet (fail)
                    go_wp2
                    exact ⟨⟨q + 1, true, rfl, by go_num, by omega, HA2, below_drewN HB.out _⟩, by simp [intOf]; omega⟩
                  | false =>
                    go_wp2
                    go_quiet (fail)
                    go_wp2
                    go_quiet (fail)
                    go_wp2
                    exact ⟨⟨q + 1, false, rfl, by go_num, by omega, HA2, below_drewN HB.out _⟩, by simp [intOf]; omega⟩
              · have HA2 : Hid ((nd || true) = (PL.take (q + 1)).any fun p => firstB E p k) := by
                  show _ = _
                  rw [← pts_any HA.out hp, hj, first_u (by rw [← hj]; exact h1) (by rw [← hj]; exact h2)]
                have h2n := toList_neL h2
                have h2t : ((E.U j).toList == (E.U k).toList) = false := by simpa using h2n
                clear HNr hbl hp HA hj h2
                cases nd with
                | true =>
                  go_wp2
                  go_quiet (fail)
                  go_wp2
                  go_quiet (fail)
                  go_wp2
                  exact ⟨⟨q + 1, true, rfl, by go_num, by omega, HA2, below_drewN HB.out _⟩, by simp [intOf]; omega⟩
                | false =>
                  go_wp2
                  go_quiet (fail)
                  go_wp2
                  go_quiet (fail)
                  go_wp2
                  exact ⟨⟨q + 1, true, rfl, by go_num, by omega, HA2, below_drewN HB.out _⟩, by simp [intOf]; omega⟩
        · obtain rfl : q = N := by omega
          have HA2 : Hid (nd = needA E (seqsL S n) k) := by
            have := HA.out
            rw [List.take_of_length_le (Nat.le_of_eq HPL.out)] at this
            exact this.trans (HPA.out k hlt)
          have HN2 := hide (HN.out.next HB.out)
          clear HA HN HB
          cases nd with
          | false =>
            have HN3 : Hid (NS w wr pg g m c (needL E (seqsL S n) (k + 1)) PL) := by show NS _ _ _ _ _ _ _ _; rw [needL_no HA2.out.symm]; exact HN2.out
            clear HN2 HA2
            go_wp2
            exact ⟨⟨k + 1, g, m, c, rfl, by go_num, by omega, HN3⟩, by simp [intOf]; omega⟩
          | true =>
            have HU := hide (needL_yes (E := E) (SL := seqsL S n) HA2.out.symm)
            have hnl := needL_len E (seqsL S n) k
            have hml : m = (needL E (seqsL S n) k).length := by
              have := HN2.out.own.2
              rcases this with ⟨hx, _⟩ | ⟨g', cap', cur, hv, _⟩
              · cases hx
              · rw [Value.slice.injEq] at hv
                simpa using hv.2.1
            have hb9 := below_one wr (.cells #[.int .i64 (k : Int)] 2)
            have HN9 := hide (HN2.out.next hb9)
            have hc9 : (wr.alloc (.cells #[.int .i64 (k : Int)] 2)).cell? ⟨wr.heap.size, 0, none⟩ = some (.int .i64 (k : Int)) := by simp
            have hz9 : (wr.alloc (.cells #[.int .i64 (k : Int)] 2)).heap.size = wr.heap.size + 1 := by simp
            have hlw := HN2.out.low.size
            have hpgw := HN2.out.lt
            clear HA2 HN2 hb9
            go_wp2_with (at_builtin; refine wpList_append_lies _ rfl _ _ 22 rfl w.heap.size 2 i0 _ 1 8 Try.underlying22 hi0 hz0 hz1 hz2 rfl (by decide) _ ((needL E (seqsL S n) k).map (Value.int .i64)).length ((needL E (seqsL S n) k).map (Value.int .i64)) (by rfl) HN9.out.own ⟨wr.heap.size, 0, none⟩ 1 1 [.int .i64 (k : Int)] (by rfl) rfl ?c1 ?c2 (by decide) ?c3 ?c4 ?c5 _ hz9 ?_)
            case c1 =>
              intro j u hu
              match j, hu with
              | 0, hu => simp at hu; subst hu; rw [Addr.add_lit]; exact hc9
            case c2 => intro y hy; simp at hy; subst hy; rfl
            case c3 => rw [List.length_map]; unfold maxLen; omega
            case c4 => rw [List.length_map]; omega
            case c5 => rw [hz9]; omega
            intro g2 c2 W2 how hgr hat hlt2
            try rw [List.length_map] at how
            rw [← hml] at how hgr hat ⊢
            have HNE : Hid (NS w W2 pg g2 (m + 1) c2 (needL E (seqsL S n) (k + 1)) PL) := by
              have hne := HN9.out.ne
              have hfar : some pg ≠ (Value.slice (some ⟨g, 0, none⟩) m c).ownBlock := by
                intro e
                have : pg = g := by simpa [Value.ownBlock] using e
                exact hne this.symm
              have hpl := HN9.out.lt
              refine ⟨?_, ?_, Nat.lt_of_lt_of_le hpl hgr.size, fun j p hp => ?_, HN9.out.low.trans (HN9.out.own.grownBelow (by rw [hz9]; omega) hgr)⟩
              · rcases hat with h | h
                · have : g = g2 := by simpa [Value.ownBlock] using h
                  omega
                · rw [hz9] at hpl
                  intro e
                  omega
              · rw [HU.out, List.map_append]
                have e : ((needL E (seqsL S n) k).map (Value.int .i64) ++ [Value.int .i64 (k : Int)]).length = m + 1 := by simp [hml]
                show World.ownsRow _ _ _ _ _ ((needL E (seqsL S n) k).map (Value.int .i64) ++ [Value.int .i64 (k : Int)]).length _
                rw [e]
                exact how
              · rw [World.cell?_of_block (hgr.block pg hpl hfar)]
                exact HN9.out.pts j p hp
            clear how hgr hat hlt2 HN9 hc9 hz9 hml HU
            go_wp2
            exact ⟨⟨k + 1, g2, m + 1, c2, rfl, by go_num, by omega, HNE⟩, by simp [intOf]; omega⟩
    · obtain rfl : k = len := by omega
      have HO : Hid (OwnI wr w.heap.size (.slice (some ⟨g, 0, none⟩) m c) (needL E (seqsL S n) k)) := HN.out.own
      have HW := hide HN.out.low
      go_wp2
      go_ret
      exact ⟨⟨_, rfl, HO.out⟩, HW.out⟩

set_option linter.unusedVariables false in
theorem spec_Needed (a : Option Addr) (len cap : Nat) (E : Ents) (b : Option Addr) (n ncap : Nat) (S : Nat → Int) (w : World) (hl : len ≤ 1048576) (hn : n ≤ 1048576) (hb : ∃ g o, b = some ⟨g, o, none⟩) (hS : EntAt w w.heap.size a len E) (hI : IntAt w w.heap.size b n S) :
    Calls Try.prog 13 #[.slice a len cap, .slice b n ncap] w fun e w' => (∃ v, e = .returned v ∧ OwnI w' w.heap.size v (needed E len S n)) ∧ Below w.heap.size w w' := by
  have HS : Hid (EntAt w w.heap.size a len E) := hS
  have HI : Hid (IntAt w w.heap.size b n S) := hI
  have HBB := hide hb
  clear hb
  cases hok : rowOkB E len with
  | false =>
    have HV : Hid (needed E len S n = []) := by show _ = _; unfold needed; rw [if_neg (by rw [hok]; simp)]
    go_enter Try.func13, Try.ntmps13
    go_wp2_with fail
    refine (hok ▸ spec_EntriesOk a len cap E w hl hS).mono ?_
    rintro e w1 ⟨rfl, hB⟩
    clear hok
    go_wp2
    go_ret
    exact ⟨⟨_, rfl, by rw [HV.out]; exact OwnI.nil _ _⟩, hB⟩
  | true =>
    cases sok : snapsB S n with
    | false =>
      have HV : Hid (needed E len S n = []) := by show _ = _; unfold needed; rw [if_neg (by rw [sok]; simp)]
      go_enter Try.func13, Try.ntmps13
      go_wp2_with fail
      refine (hok ▸ spec_EntriesOk a len cap E w hl hS).mono ?_
      rintro e w1 ⟨rfl, hB⟩
      clear hok hS hI
      go_wp2_with fail
      refine (sok ▸ spec_SnapsOk b n ncap S w1 hn (HI.out.next hB)).mono ?_
      rintro e w2 ⟨rfl, hB2⟩
      have HB := hide (hB.trans (hB2.mono hB.size))
      clear hB hB2 sok
      go_wp2
      go_ret
      exact ⟨⟨_, rfl, by rw [HV.out]; exact OwnI.nil _ _⟩, HB.out⟩
    | true =>
      have HV : Hid (needed E len S n = needL E (seqsL S n) len) := by show _ = _; unfold needed; rw [if_pos ⟨hok, sok⟩]
      have hn20 := (snapsB_out sok).1
      have HOK := hide hok
      go_enter Try.func13, Try.ntmps13
      go_wp2_with fail
      refine (hok ▸ spec_EntriesOk a len cap E w hl hS).mono ?_
      rintro e w1 ⟨rfl, hB⟩
      clear hok hS hI
      go_wp2_with fail
      refine (sok ▸ spec_SnapsOk b n ncap S w1 hn (HI.out.next hB)).mono ?_
      rintro e w2 ⟨rfl, hB2⟩
      have hB12 := hB.trans (hB2.mono hB.size)
      clear hB hB2 sok
      go_wp2_with fail
      refine (spec_l14Needed a len cap E b n ncap S w2 HOK.out hn20 HBB.out ((HS.out.below hB12).mono hB12.size) (HI.out.next hB12)).mono ?_
      rintro e w3 ⟨⟨v, rfl, ho⟩, hB3⟩
      have HO : Hid (OwnI w3 w.heap.size v (needed E len S n)) := by show OwnI _ _ _ _; rw [HV.out]; exact Own.base ho hB12.size
      have HB := hide (hB12.trans (hB3.mono hB12.size))
      clear ho hB12 hB3
      go_wp2
      go_ret
      exact ⟨⟨_, rfl, HO.out⟩, HB.out⟩

end Go.Proofs.Ytapajchnfjjipaa
