/- What DrawCompacted draws. (By gen_dsnaps.py.) -/
import Derived.Test.YtapajchnfjjipaaDrawB
import Derived.Test.YtapajchnfjjipaaInts
import Derived.Test.YtapajchnfjjipaaNeed
namespace Go.Proofs.Ytapajchnfjjipaa
set_option maxRecDepth 100000
open Go.RowKit Go.Deep

set_option linter.unusedVariables false in
set_option maxHeartbeats 4000000 in
set_option maxRecDepth 100000 in
/-- A few drawn snapshots. -/
theorem rd_snaps (W w : World) (g : Nat) (a : Option Addr) (len cap : Nat) (hc : IsCode W a len) (hl : len ≤ 1048576) (h : Rd W w g a len cap) :
    Calls Try.prog 46 #[.pointer (some ⟨g, 0, none⟩)] w fun e w' => ∃ v xs, e = .returned v ∧ (∃ gs c, v = .slice (some ⟨gs, 0, none⟩) (xs : List Int).length c) ∧ xs.length ≤ 3 ∧ OwnI w' w.heap.size v xs ∧ Rd W w' g a len cap ∧ Mv g w w' := by
  have hi5 : (Try.prog.info? 2).map (fun i => (i.zero, i.size, i.bytes)) = some (some (.int .i64 0), 1, 8) := by kernel_rfl
  have hg := h.lt
  go_enter Try.func46, Try.ntmps46
  go_wp2_with fail
  refine (rd_below W _ g a len cap 4 (by omega) (by omega) hc hl (h.keep ((Below.refl _ _).alloc (Nat.le_refl _) _) h.lt)).mono ?_
  rintro e w1 ⟨x, rfl, hx0, hx1, hr, hmv⟩
  have hown : OwnI w1 w.heap.size (.slice (some ⟨w.heap.size, 0, none⟩) 0 0) [] := own_mv (Own.lit w _ _ [] 0 rfl (Nat.le_refl _) (by decide)) hmv hg
  have HR1 := hide hr
  have HM1 := hide (mv_alloc hmv)
  have HO1 := hide hown
  clear hr hmv hown h
  go_wp2
  go_loopw [3, 4, 5] (fun v q i wr => ∃ (k : Nat) (xs : List Int) (s : Int), q = .int .i64 s ∧ i = .int .i64 k ∧ xs.length + k ≤ 3 ∧ 0 ≤ s ∧ s + 6 * (k : Int) ≤ 100 ∧ Hid (OwnI wr w.heap.size v xs) ∧ (∃ gs c, v = .slice (some ⟨gs, 0, none⟩) xs.length c) ∧ Hid (Rd W wr g a len cap) ∧ Hid (Mv g w wr))
    (fun _ _ i _ => (intOf i).toNat)
  case atStart =>
    obtain ⟨k, rfl⟩ := Int.eq_ofNat_of_zero_le hx0
    exact ⟨k, [], 0, rfl, rfl, by simp; omega, by omega, by omega, HO1, ⟨_, _, rfl⟩, HR1, HM1⟩
  case round =>
    obtain ⟨k, xs, s, rfl, rfl, hk, hs0, hs1, HO, ⟨gs, cs, rfl⟩, HR, HM⟩ := hrel
    clear HR1 HM1 HO1
    by_cases hlt : (0 : Int) < (k : Int)
    · obtain ⟨j, rfl⟩ : ∃ j, k = j + 1 := ⟨k - 1, by omega⟩
      go_wp2_with fail
      refine (rd_below W _ g a len cap 6 (by omega) (by omega) hc hl HR.out).mono ?_
      rintro e w2 ⟨x, rfl, hx0, hx1, hr2, hmv2⟩
      have HO2 : Hid (OwnI w2 w.heap.size (.slice (some ⟨gs, 0, none⟩) xs.length cs) xs) := own_mv HO.out hmv2 hg
      have HR2 := hide hr2
      have HM2 := hide (HM.out.trans hmv2)
      have hsz : w.heap.size ≤ w2.heap.size := HM2.out.size
      have hwx : IntKind.i64.wrap (s + x) = s + x := by rw [IntKind.wrap_i64]; omega
      clear hr2 hmv2 HR HM HO
      obtain ⟨n, hn⟩ : ∃ n, xs.length = n := ⟨_, rfl⟩
      have HN := hide hn
      rw [hn] at HO2 hk ⊢
      clear hn
      rcases Nat.eq_zero_or_pos n with hz | hz
      · subst hz
        go_wp2_with (first
          | (at_builtin; refine wpList_append_one rfl _ _ 22 rfl 2 Try.underlying22 hi5 rfl (by decide) w.heap.size _ _ (xs.map (Value.int .i64)) (by rfl) (by rfl) HO2.out rfl hsz ?c1 ?_))
        case c1 => have hxn := HN.out; first | omega | (simp; omega)
        intro v' w4 hown' hb'
        have HR4 := hide (HR2.out.keep hb' hg)
        have HM4 := hide (mv_below HM2.out hb')
        have HO4 : Hid (OwnI w4 w.heap.size v' (xs ++ [s + x])) := by show OwnI _ _ _ _; unfold OwnI; rw [List.map_append]; exact hown'
        obtain ⟨r4, p4, hv4⟩ := Own.shape (show Own w4 w.heap.size 2 v' ((xs ++ [s + x]).map (Value.int .i64)) from HO4.out) (by simp)
        have hv4' : v' = .slice (some ⟨r4, 0, none⟩) (xs ++ [s + x]).length p4 := by rw [hv4]; simp
        have hxn := HN.out
        have HV4 := hide hv4'
        clear HR2 HM2 hown' hb' HO2 hv4 hv4' hxn
        go_wp2
        have hxn := HN.out
        exact ⟨⟨j, xs ++ [s + x], s + x, by first | rfl | (congr 1; omega), by first | rfl | go_num, by simp; omega, by omega, by omega, HO4, ⟨r4, p4, HV4.out⟩, HR4, HM4⟩, by simp [intOf]⟩
      · obtain ⟨t, ht⟩ : ∃ t, t + 1 = n := ⟨n - 1, by omega⟩
        have hz0 : ((n : Int) == 0) = false := by simp; omega
        have hz1 : ¬ ((n : Int) = 0) := by omega
        have hcell : w2.cell? ⟨gs, t, none⟩ = some (.int .i64 (xs.getD t 0)) := by
          obtain ⟨a', c', hv, hat⟩ := HO2.out.at
          obtain rfl : a' = some ⟨gs, 0, none⟩ := by simpa using (congrArg (fun v => match v with | .slice a _ _ => a | _ => none) hv).symm
          obtain ⟨b, off, e1, _, hc1⟩ := hat.at (i := t) (by rw [HN.out]; omega)
          simp only [Option.some.injEq, Addr.mk.injEq, and_true] at e1
          obtain ⟨rfl, rfl⟩ := e1
          rw [Nat.zero_add] at hc1
          exact hc1
        have hlen1 : IntKind.i64.wrap ((n : Int) - 1) = (t : Int) := by rw [IntKind.wrap_i64]; omega
        have hlen2 : wrap64 ((n : Int) - 1) = (t : Int) := by unfold wrap64; omega
        have htl : (t : Int) < (n : Int) := by omega
        have ht0 : (0 : Int) ≤ (t : Int) := by omega
        have HT := hide ht
        have hkj : n + (j + 1) ≤ 3 := hk
        clear ht
        generalize xs.getD t 0 = last at hcell
        by_cases hgt : last < s + x
        · skip
          go_wp2_with (first
            | (at_builtin; refine wpList_append_one rfl _ _ 22 rfl 2 Try.underlying22 hi5 rfl (by decide) w.heap.size _ _ (xs.map (Value.int .i64)) (by rfl) (by rfl) HO2.out rfl hsz ?c1 ?_))
          case c1 => have hxn := HN.out; first | omega | (simp; omega)
          intro v' w4 hown' hb'
          have HR4 := hide (HR2.out.keep hb' hg)
          have HM4 := hide (mv_below HM2.out hb')
          have HO4 : Hid (OwnI w4 w.heap.size v' (xs ++ [s + x])) := by show OwnI _ _ _ _; unfold OwnI; rw [List.map_append]; exact hown'
          obtain ⟨r4, p4, hv4⟩ := Own.shape (show Own w4 w.heap.size 2 v' ((xs ++ [s + x]).map (Value.int .i64)) from HO4.out) (by simp)
          have hv4' : v' = .slice (some ⟨r4, 0, none⟩) (xs ++ [s + x]).length p4 := by rw [hv4]; simp
          have hxn := HN.out
          have HV4 := hide hv4'
          clear HR2 HM2 hown' hb' HO2 hv4 hv4' hxn
          go_wp2
          have hxn := HN.out
          exact ⟨⟨j, xs ++ [s + x], s + x, by first | rfl | (congr 1; omega), by first | rfl | go_num, by simp; omega, by omega, by omega, HO4, ⟨r4, p4, HV4.out⟩, HR4, HM4⟩, by simp [intOf]⟩
        · go_wp2_with fail
          refine (rd_once W _ g a len cap 12 (by omega) (by omega) hc hl HR2.out).mono ?_
          rintro e w3 ⟨b, rfl, hr3, hmv3⟩
          have HO3 : Hid (OwnI w3 w.heap.size (.slice (some ⟨gs, 0, none⟩) n cs) xs) := own_mv HO2.out hmv3 hg
          have HR3 := hide hr3
          have HM3 := hide (HM2.out.trans hmv3)
          have hsz3 : w.heap.size ≤ w3.heap.size := HM3.out.size
          clear hr3 hmv3 HR2 HM2 HO2 hsz hcell
          cases b with
          | true =>
            go_wp2_with (first
              | (at_builtin; refine wpList_append_one rfl _ _ 22 rfl 2 Try.underlying22 hi5 rfl (by decide) w.heap.size _ _ (xs.map (Value.int .i64)) (by rfl) (by rfl) HO3.out rfl hsz3 ?c1 ?_))
            case c1 => have hxn := HN.out; first | omega | (simp; omega)
            intro v' w4 hown' hb'
            have HR4 := hide (HR3.out.keep hb' hg)
            have HM4 := hide (mv_below HM3.out hb')
            have HO4 : Hid (OwnI w4 w.heap.size v' (xs ++ [s + x])) := by show OwnI _ _ _ _; unfold OwnI; rw [List.map_append]; exact hown'
            obtain ⟨r4, p4, hv4⟩ := Own.shape (show Own w4 w.heap.size 2 v' ((xs ++ [s + x]).map (Value.int .i64)) from HO4.out) (by simp)
            have hv4' : v' = .slice (some ⟨r4, 0, none⟩) (xs ++ [s + x]).length p4 := by rw [hv4]; simp
            have hxn := HN.out
            have HV4 := hide hv4'
            clear HR3 HM3 hown' hb' HO3 hv4 hv4' hxn
            go_wp2
            have hxn := HN.out
            exact ⟨⟨j, xs ++ [s + x], s + x, by first | rfl | (congr 1; omega), by first | rfl | go_num, by simp; omega, by omega, by omega, HO4, ⟨r4, p4, HV4.out⟩, HR4, HM4⟩, by simp [intOf]⟩
          | false =>
            go_wp2
            have hxn := HN.out
            exact ⟨⟨j, xs, s + x, by first | rfl | (congr 1; omega), by first | rfl | go_num, by omega, by omega, by omega, HO3, ⟨gs, cs, by rw [hxn]⟩, HR3, HM3⟩, by simp [intOf]⟩
    · obtain rfl : k = 0 := by omega
      go_wp2
      go_ret
      first | exact ⟨_, rfl, xs, ⟨gs, cs, rfl⟩, by omega, HO.out, HR.out, HM.out⟩ | exact ⟨_, xs, rfl, ⟨gs, cs, rfl⟩, by omega, HO.out, HR.out, HM.out⟩

set_option linter.unusedVariables false in
set_option maxHeartbeats 4000000 in
theorem draw_Compacted (W w : World) (a : Option Addr) (len cap : Nat) (hc : IsCode W a len) (hl : len ≤ 1048576) (hb : Below W.heap.size W w) :
    Calls Try.prog 24 #[.slice a len cap] w fun e w' => ∃ gE n capE E gs m cs S bottom, e = .returned (.tuple #[.slice (some ⟨gE, 0, none⟩) n capE, .slice (some ⟨gs, 0, none⟩) m cs, .bool bottom]) ∧ n ≤ 1000 ∧ m ≤ 1000 ∧ EntAt w' w'.heap.size (some ⟨gE, 0, none⟩) n E ∧ IntAt w' w'.heap.size (some ⟨gs, 0, none⟩) m S ∧ Below w.heap.size w w' := by
  go_enter Try.func24, Try.ntmps24
  go_wp2_with fail
  refine (open_rdS w a len cap W hb).mono ?_
  rintro e w1 ⟨rfl, hr, hb1⟩
  obtain ⟨g, hg⟩ : ∃ g, w.heap.size = g := ⟨_, rfl⟩
  have HG := hide hg
  rw [hg] at hr ⊢
  have HB : Hid (Below g w w1) := by rw [← hg]; exact hb1
  have hglt := hr.lt
  have HR := hide hr
  clear hb1 hr hg
  go_wp2_with fail
  refine (rd_entries W _ _ a len cap 14 (by omega) (by omega) hc hl HR.out).mono ?_
  rintro e w2 ⟨gE, capE, es, rfl, hn, hsz, hown, hr2, hm2⟩
  have HB := hide (HB.out.trans (hm2.below (by rw [← HG.out]; exact HB.out.size) (Nat.le_refl _)))
  have HR := hide hr2
  have HO := hide hown
  have hN : es.length ≤ 1000 := by omega
  have hg2 := hr2.lt
  clear hr2 hm2 hown hn hsz
  obtain ⟨n, hnn⟩ : ∃ n, es.length = n := ⟨_, rfl⟩
  have HNN := hide hnn
  rw [hnn] at hN ⊢
  clear hnn
  go_wp2_with fail
  refine (rd_snaps W _ _ a len cap hc hl HR.out).mono ?_
  rintro e w3 ⟨v, xs, rfl, ⟨gs, cs, rfl⟩, hxl, hoi, hr, hm⟩
  have HB := hide (HB.out.trans (hm.below (by rw [← HG.out]; exact HB.out.size) (Nat.le_refl _)))
  have HR := hide hr
  have HO := hide (HO.out.mv hm hglt)
  have HI := hide hoi
  have hg3 := hr.lt
  clear hr hm hoi
  obtain ⟨m, hmm⟩ : ∃ m, xs.length = m := ⟨_, rfl⟩
  have HMM := hide hmm
  rw [hmm] at hxl HI ⊢
  clear hmm
  go_wp2_with fail
  refine (rd_once W _ _ a len cap 2 (by omega) (by omega) hc hl HR.out).mono ?_
  rintro e w4 ⟨bottom, rfl, hr, hm⟩
  have HB := hide (HB.out.trans (hm.below (by rw [← HG.out]; exact HB.out.size) (Nat.le_refl _)))
  have HO := hide (HO.out.mv hm hglt)
  have HI := hide (show OwnI w4 w2.heap.size (.slice (some ⟨gs, 0, none⟩) m cs) xs from own_mv HI.out hm hg2)
  clear hr hm
  have HIA : Hid (IntAt w4 w4.heap.size (some ⟨gs, 0, none⟩) m (fun i => xs.getD i 0)) := by
    obtain ⟨a', c', hv, hat⟩ := HI.out.at
    obtain rfl : a' = some ⟨gs, 0, none⟩ := by simpa using (congrArg (fun v => match v with | .slice a _ _ => a | _ => none) hv).symm
    rw [← HMM.out]
    exact hat
  have hM : m ≤ 1000 := by omega
  go_wp2
  refine bodyPost_ret (v := .tuple #[.slice (some ⟨gE, 0, none⟩) n capE, .slice (some ⟨gs, 0, none⟩) m cs, .bool bottom]) (by simp [results, Try.results24, go_sem]) rfl ⟨gE, n, capE, entsOfS es, gs, m, cs, _, bottom, rfl, hN, hM, by rw [← HNN.out]; exact entAtS HO.out, HIA.out, by rw [HG.out]; exact HB.out⟩

end Go.Proofs.Ytapajchnfjjipaa
