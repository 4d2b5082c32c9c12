/- The law FnSplit, walked. -/
import Derived.Test.YtjcoejabpagaiaaDrawSp
import Derived.Test.YtjcoejabpagaiaaSplI
import Derived.Test.YtjcoejabpagaiaaSplS
import Derived.Laws.StructEq
namespace Go.Proofs.Ytjcoejabpagaiaa
set_option maxRecDepth 100000
open Go.RowKit Go.Deep

theorem laws_sameEntriesP (a b : Option Addr) (len ca cb : Nat) (E : Ents) (w : World) (hl : len ≤ 1048576) (ha : EntAt w w.heap.size a len E) (hb : EntAt w w.heap.size b len E) :
    Calls Try.prog 17 #[.slice a len ca, .slice b len cb] w fun e w' => e = .returned (.bool true) ∧ Below w.heap.size w w' := by
  have HA := hide ha
  have HB := hide hb
  have HW0 := hide (Below.refl w.heap.size w)
  clear ha hb
  go_enter Try.func17, Try.ntmps17
  go_wp2
  go_loopw [5] (fun i wr => ∃ k : Nat, i = .int .i64 k ∧ k ≤ len ∧ Hid (Below w.heap.size w wr)) (fun i _ => len - (intOf i).toNat)
  case atStart => exact ⟨0, rfl, by omega, HW0⟩
  case round =>
    obtain ⟨k, rfl, hk, HW⟩ := hrel
    by_cases hlt : k < len
    · obtain ⟨g1, o1, rfl, _, c0, c1, c2, c3⟩ := (HA.out.below HW.out).at hlt
      obtain ⟨g2, o2, rfl, _, d0, d1, d2, d3⟩ := (HB.out.below HW.out).at hlt
      have hki : (k : Int) < (len : Int) := by omega
      go_wp2
      go_quiet (fail)
      go_wp2
      exact ⟨⟨k + 1, by go_num, by omega, below_drewN HW.out _⟩, by simp [intOf]; omega⟩
    · obtain rfl : k = len := by omega
      go_wp2
      go_ret
      exact ⟨rfl, HW.out⟩

theorem entL_at {E : Ents} {k t : Nat} (h : t < k) : (entrysL E k)[t]? = some (entryAt1 E t) := by simp [entrysL, h]
theorem entL_take {E : Ents} {k m : Nat} (h : m ≤ k) : (entrysL E k).take m = entrysL E m := by
  unfold entrysL
  rw [← List.map_take, List.take_range, Nat.min_eq_left h]
/-- Where a run lies in the row. -/
theorem split_seg {E : Ents} {L : List (List Entry1)} {k i : Nat} {r : List Entry1} (h : SplG E L k) (hr : L[i]? = some r) : (L.take i).flatten = entrysL E (L.take i).flatten.length ∧ 0 < r.length ∧ (L.take i).flatten.length + r.length ≤ k ∧ ∀ j, j < r.length → r[j]? = some (entryAt1 E ((L.take i).flatten.length + j)) := by
  obtain ⟨hi, hri⟩ := List.getElem?_eq_some_iff.1 hr
  have e : L = L.take i ++ (r :: L.drop (i + 1)) := by
    rw [← hri, ← List.drop_eq_getElem_cons hi, List.take_append_drop]
  have hall := h.all
  rw [e, List.flatten_append, List.flatten_cons] at hall
  have hlen := congrArg List.length hall
  rw [List.length_append, List.length_append, entrysL_len] at hlen
  have hne := h.some r (List.mem_of_getElem? hr)
  have hpos : 0 < r.length := List.length_pos_iff.2 hne
  refine ⟨?_, hpos, by omega, fun j hj => ?_⟩
  · have h1 := congrArg (List.take (L.take i).flatten.length) hall
    rw [entL_take (by omega), List.take_append_of_le_length (Nat.le_refl _), List.take_length] at h1
    exact h1
  · have h1 := congrArg (fun l => l[(L.take i).flatten.length + j]?) hall
    rw [entL_at (by omega), List.getElem?_append_right (by omega), Nat.add_sub_cancel_left, List.getElem?_append_left hj] at h1
    exact h1
theorem split_lt {E : Ents} {len : Nat} {L : List (List Entry1)} {i : Nat} (hr : rowOkB E len = true) (h : SplG E L len) (hi : i < L.length) (h0 : 0 < i) : 0 < (L.take i).flatten.length ∧ Op.bytesLess (E.U ((L.take i).flatten.length - 1)).toList (E.U ((L.take i).flatten.length)).toList = true := by
  obtain ⟨s1, s2, s3, s4⟩ := split_seg h (List.getElem?_eq_getElem hi)
  obtain ⟨t1, t2, t3, t4⟩ := split_seg h (List.getElem?_eq_getElem (show 0 < L.length by omega))
  have hpos : 0 < (L.take i).flatten.length := by
    have e : L.take i = L[0] :: (L.take i).drop 1 := by
      have h1 : 0 < (L.take i).length := by rw [List.length_take]; omega
      have h2 := List.drop_eq_getElem_cons h1
      rw [List.drop_zero] at h2
      rw [h2]
      simp
    rw [e, List.flatten_cons, List.length_append]
    omega
  refine ⟨hpos, ?_⟩
  have hc := h.cut i h0 hi
  obtain ⟨_, hent⟩ := rowOk_out hr
  have ho := (hent (L.take i).flatten.length (by omega)).2 hpos
  unfold ordI at ho
  rw [show (L.take i).flatten.length - 1 + 1 = (L.take i).flatten.length by omega] at ho
  cases hb : Op.bytesLess (E.U ((L.take i).flatten.length - 1)).toList (E.U ((L.take i).flatten.length)).toList with
  | true => rfl
  | false =>
    exfalso
    rcases cmpS_cases (E.U ((L.take i).flatten.length - 1)) (E.U ((L.take i).flatten.length)) with ⟨x, _, _⟩ | ⟨_, _, z⟩ | ⟨x, _, _⟩
    · unfold cmpS at x
      rw [hb] at x
      simp only [Bool.false_eq_true, if_false] at x
      split at x <;> omega
    · exact hc z
    · rw [x] at ho
      unfold orI at ho
      rw [if_neg (by omega)] at ho
      omega
theorem ownE_cell {x : World} {B g n c : Nat} {es : List Entry1} (h : OwnEntry x B (.slice (some ⟨g, 0, none⟩) n c) es) {j : Nat} {u : Value} (hj : (cellsEntry es)[j]? = some u) : x.cell? ((⟨g, 0, none⟩ : Addr).add j) = some u := by
  rw [Addr.add_lit]
  show x.cell? ⟨g, 0 + j, none⟩ = some u
  rw [Nat.zero_add]
  rcases h.2 with ⟨hv, _⟩ | ⟨g', cap, cur, hv, hg, hh, hle, hcap, hsz, htake⟩
  · simp at hv
  · simp only [Value.slice.injEq, Option.some.injEq, Addr.mk.injEq, and_true] at hv
    obtain ⟨rfl, rfl, rfl⟩ := hv
    have hb : BoxIs x g cur 43 := hh
    rw [hb.cell j]
    have hl : j < (cellsEntry es).length := (List.getElem?_eq_some_iff.1 hj).1
    rw [cellsEntry_len] at hl
    have h2 : (cur.toList.take (es.length * 4))[j]? = some u := by rw [htake]; exact hj
    rw [List.getElem?_take, if_pos hl] at h2
    simpa using h2
theorem ownE_u {x : World} {B g n c : Nat} {es : List Entry1} (h : OwnEntry x B (.slice (some ⟨g, 0, none⟩) n c) es) {j : Nat} {e : Entry1} (hj : es[j]? = some e) : x.cell? ⟨g, j * 4, none⟩ = some (.string e.u) := by
  have := ownE_cell h (cellsEntry_get es j e hj).1
  rw [Addr.add_lit] at this
  have e2 : (⟨g, 0 + j * 4, none⟩ : Addr) = ⟨g, j * 4, none⟩ := by rw [Nat.zero_add]
  rw [← e2]
  exact this
theorem ent_same {w : World} {B n : Nat} {a : Option Addr} {p : Nat} {E : Ents} (h : OwnEntry w B (.slice a n p) (entrysL E n)) : EntAt w w.heap.size a n E := by
  obtain ⟨a2, p2, hv, hE⟩ := OwnEntry.arg h
  rw [entrysL_len] at hv hE
  simp only [Value.slice.injEq, true_and] at hv
  obtain ⟨rfl, rfl⟩ := hv
  rcases hE with h0 | ⟨b, off, e, hb, hc⟩
  · exact .inl h0
  · refine .inr ⟨b, off, e, hb, fun i hi => ?_⟩
    have h1 := fnEntry_at (entrysL E n) i (by rw [entrysL_len]; exact hi)
    simp only [entrysL, List.getElem_map, List.getElem_range, entryAt1, Entry1.mk.injEq] at h1
    obtain ⟨e0, e1, e2, e3⟩ := h1
    have f0 : (fnEntry (entrysL E n)).U i = E.U i := e0
    have f1 : (fnEntry (entrysL E n)).Q i = E.Q i := e1
    have f2 : (fnEntry (entrysL E n)).K i = E.K i := e2
    have f3 : (fnEntry (entrysL E n)).X i = E.X i := e3
    rw [← f0, ← f1, ← f2, ← f3]
    exact hc i hi

theorem len_le_flat : ∀ {L : List (List Entry1)}, (∀ r, r ∈ L → r ≠ []) → L.length ≤ L.flatten.length
  | [], _ => Nat.le_refl _
  | r :: L, h => by
    have h1 := List.length_pos_iff.2 (h r (List.mem_cons_self ..))
    have h2 := len_le_flat (L := L) fun x hx => h x (List.mem_cons_of_mem _ hx)
    rw [List.flatten_cons, List.length_append, List.length_cons]
    omega
/-- The entries of the first k runs. -/
def fstR (L : List RunV) (k : Nat) : List Entry1 := ((L.take k).map RunV.es).flatten
theorem fstR_succ {L : List RunV} {k : Nat} {r : RunV} (h : L[k]? = some r) : fstR L (k + 1) = fstR L k ++ r.es := by
  obtain ⟨hi, hri⟩ := List.getElem?_eq_some_iff.1 h
  unfold fstR
  rw [List.take_succ_eq_append_getElem hi, List.map_append, List.flatten_append, hri]
  simp

set_option linter.unusedSimpArgs false in
set_option linter.unusedVariables false in
set_option maxHeartbeats 8000000 in
theorem walk_FnSplit (v : Value) {w : World} (hv : IsBytes w v) (_w : World) :
    Calls Try.prog 4 #[v] w fun e w' => e = .returned (.bool true) ∧ Below w.heap.size w w' := by
  obtain ⟨a, len, cap, rfl, hc, hm⟩ := hv
  by_cases hbig : 1048576 < len
  · have hd : decide (1048576 < len) = true := by simp [hbig]
    go_enter Try.func4, Try.ntmps4
    go_wp2_with fail
    refine (laws_bigO a len cap hm _).mono ?_
    rintro e w1 ⟨rfl, rfl⟩
    go_wp2
    go_ret
    exact ⟨rfl, Below.refl _ _⟩
  · have hd : decide (1048576 < len) = false := by simp [hbig]
    have hl : len ≤ 1048576 := by omega
    go_enter Try.func4, Try.ntmps4
    go_wp2_with fail
    refine (laws_bigO a len cap hm _).mono ?_
    rintro e w1 ⟨rfl, rfl⟩
    go_wp2_with fail
    refine (draw_SplitRun w _ a len cap hc hl (Below.refl _ _)).mono ?_
    rintro e w1 ⟨gE, n, capE, E, most, rfl, hn, hm0, hm1, hE, hb1⟩
    clear hd
    have HE := hide hE
    have HB := hide hb1
    clear hE hb1
    go_wp2_with fail
    refine (impl_SplitRun (some ⟨gE, 0, none⟩) n capE E most w1 (by omega) hm0 hm1 HE.out).mono ?_
    rintro e w2 ⟨⟨v, L, rfl, hR, hL⟩, hb2⟩
    obtain ⟨va, vp, hva⟩ := rg_shape (show World.ownsRow _ _ _ _ _ _ _ from hR.row)
    rw [List.length_map] at hva
    subst hva
    have HE2 := hide ((HE.out.below hb2).mono hb2.size)
    have HB2 := hide (HB.out.trans (hb2.mono HB.out.size))
    have HR2 := hide (show OwnRuns w2 w1.heap.size (.slice va L.length vp) L from hR)
    have HL := hide hL
    clear HE HB hR hb2 hL
    go_wp2_with fail
    refine (spec_SplitRun (some ⟨gE, 0, none⟩) n capE E most w2 (by omega) hm0 hm1 HE2.out).mono ?_
    rintro e w3 ⟨⟨v, L2, rfl, hR, hL⟩, hb3⟩
    obtain ⟨vb, vq, hvb⟩ := rg_shape (show World.ownsRow _ _ _ _ _ _ _ from hR.row)
    have hlen : (L2.map RunV.v).length = L.length := by
      have := congrArg List.length (hL.trans HL.out.symm)
      rw [List.length_map, List.length_map] at this
      rw [List.length_map, this]
    rw [hlen] at hvb
    subst hvb
    have HE3 := hide ((HE2.out.below hb3).mono hb3.size)
    have HB3 := hide (HB2.out.trans (hb3.mono HB2.out.size))
    have HR3 := hide (HR2.out.next hb3)
    clear HE2 HB2 HR2 hR hb3 hL hlen L2
    go_wp2_with fail
    refine (spec_EntriesOk (some ⟨gE, 0, none⟩) n capE E w3 (by omega) HE3.out).mono ?_
    rintro e w4 ⟨rfl, hb4⟩
    obtain ⟨bv, hbv⟩ : ∃ bv, rowOkB E n = bv := ⟨_, rfl⟩
    rw [hbv]
    have HBV := hide hbv
    have HE4 := hide ((HE3.out.below hb4).mono hb4.size)
    have HB4 := hide (HB3.out.trans (hb4.mono HB3.out.size))
    have HR4 := hide (HR3.out.next hb4)
    clear HE3 HB3 HR3 hb4 hbv
    cases bv with
    | false =>
      go_wp2
      go_ret
      exact ⟨by simp, HB4.out⟩
    | true =>
      by_cases hm2 : most < 1
      · go_wp2
        go_ret
        exact ⟨by simp, HB4.out⟩
      · have hm3 : 1 ≤ most := by omega
        have HL2 := hide (HL.out.trans (split_yes HBV.out hm3))
        have hn4 := (rowOk_out HBV.out).1
        have HG := hide (fun h : 0 < n => (HL2.out ▸ splG (E := E) hm3 n h : SplG E (L.map RunV.es) n))
        have hLn : n = 0 → L = [] := fun h => by
          have h1 := HL2.out
          rw [h] at h1
          exact List.map_eq_nil_iff.1 h1
        have hLlen : (L.map RunV.es).length = L.length := by simp
        have hLs : L.length ≤ 400 := by
          rcases Nat.eq_zero_or_pos n with h | h
          · rw [hLn h]; simp
          · have h1 := len_le_flat (HG.out h).some
            rw [(HG.out h).all, entrysL_len, hLlen] at h1
            omega
        have HLn := hide hLn
        have HI0 : Hid (OwnEntry (w4.alloc (.cells #[] 43)) w4.heap.size (.slice (some ⟨w4.heap.size, 0, none⟩) 0 0) (fstR L 0)) := OwnEntry.lit w4 w4.heap.size (Nat.le_refl _)
        have HW0 := hide (below_one w4 (.cells #[] 43))
        clear HL hLn
        go_wp2
        go_loopw [7, 8] (fun v7 i wr => ∃ k : Nat, i = .int .i64 (k : Int) ∧ k ≤ L.length ∧ Hid (OwnEntry wr w4.heap.size v7 (fstR L k)) ∧ Hid (Below w4.heap.size w4 wr)) (fun _ i _ => L.length - (intOf i).toNat)
        case atStart => exact ⟨0, rfl, by omega, HI0, HW0⟩
        case round =>
          obtain ⟨k, rfl, hk, HI, HW⟩ := hrel
          clear HI0 HW0
          by_cases hlt : k < L.length
          · have hki : (k : Int) < (L.length : Int) := by omega
            have hn0 : 0 < n := by
              rcases Nat.eq_zero_or_pos n with h | h
              · have := HLn.out h; rw [this] at hlt; simp at hlt
              · exact h
            obtain ⟨r, hr⟩ : ∃ r, L[k]? = some r := ⟨_, List.getElem?_eq_getElem hlt⟩
            have hre : (L.map RunV.es)[k]? = some r.es := by rw [List.getElem?_map, hr]; rfl
            have hrv : (L.map RunV.v)[k]? = some r.v := by rw [List.getElem?_map, hr]; rfl
            have hmem : r ∈ L := List.mem_of_getElem? hr
            obtain ⟨s1, s2, s3, s4⟩ := split_seg (HG.out hn0) hre
            rw [← List.map_take] at s1 s3 s4
            have hT : ((L.take k).map RunV.es).flatten = fstR L k := rfl
            rw [hT] at s1 s3 s4
            have hR5 := HR4.out.next HW.out
            obtain ⟨gr, cr, hva⟩ := rg_some (show World.ownsRow _ _ _ _ _ _ _ from hR5.row) (by have h9 : (L.map RunV.v).length = L.length := List.length_map _; omega)
            simp only [Value.slice.injEq] at hva
            obtain ⟨rfl, hxx, rfl⟩ := hva
            clear hxx
            have hcell := (own_cell hR5.row hrv).1
            have hro := hR5.ent r hmem
            obtain ⟨rb, rc, hrs⟩ := rg_some (show World.ownsRow _ _ _ _ _ _ _ from hro) (by omega)
            have hra : r.a = some ⟨rb, 0, none⟩ := by unfold RunV.v at hrs; simp only [Value.slice.injEq] at hrs; exact hrs.1
            unfold RunV.v at hcell hro
            rw [hra] at hcell hro
            have hru := ownE_u hro (s4 0 s2)
            have hnews := fun j u (hu : (cellsEntry r.es)[j]? = some u) => ownE_cell hro hu
            have hsucc := fstR_succ hr
            have hsr : ((r.es.length : Int) == 0) = false := beq_false_of_ne (by omega)
            have hrl : r.es.length ≤ 400 := by omega
            have hfl : (fstR L k).length ≤ 400 := by omega
            obtain ⟨va7, vp7, rfl⟩ := HI.out.shape
            obtain ⟨m, hmf⟩ : ∃ m, (fstR L k).length = m := ⟨_, rfl⟩
            rw [hmf] at HI hru s1 s3 s4 hfl ⊢
            have HMF := hide hmf
            have hru2 : wr.cell? ⟨rb, 0, none⟩ = some (.string (E.U m)) := by simpa [entryAt1] using hru
            have hkp : 0 < k → 0 < m ∧ Op.bytesLess (E.U (m - 1)).toList (E.U m).toList = true := fun h0 => by
              have h1 := split_lt HBV.out (HG.out hn0) (by rw [hLlen]; exact hlt) h0
              rw [← List.map_take, hT, hmf] at h1
              exact h1
            have hk00 : k = 0 → m = 0 := fun h0 => by subst h0; exact hmf.symm
            have HKP := hide hkp
            have HK0 := hide hk00
            have HNEWS := hide hnews
            have HSU := hide hsucc
            have HS1 := hide s1
            clear hkp hk00 hnews hsucc hru s1 s3 s4 hT hmf hro hre hrv hrs hR5
            go_upto_region 13 with fail
            go_cut [77] (fun t77 wx => t77 = .bool false ∧ ∃ n, wx = wr.drewN n)
            case first =>
              by_cases hk0 : k = 0
              · have hm00 : m = 0 := HK0.out hk0
                clear hcell hk0
                subst hm00
                go_quiet (fail)
                go_wp2_with fail
                go_meet
                exact ⟨rfl, _, rfl⟩
              · obtain ⟨hp, hbl⟩ := HKP.out (by omega)
                obtain ⟨b7, c7, hv7⟩ := rg_some (show World.ownsRow _ _ _ _ _ _ _ from HI.out) (by have := HMF.out; omega)
                simp only [Value.slice.injEq] at hv7
                obtain ⟨rfl, hxx, rfl⟩ := hv7
                clear hxx
                have hau := ownE_u HI.out (j := m - 1) (e := entryAt1 E (m - 1)) (by
                  have h2 := HS1.out
                  have h3 : (entrysL E m)[m - 1]? = some (entryAt1 E (m - 1)) := entL_at (by omega)
                  rw [← h2] at h3
                  exact h3)
                have hau2 : wr.cell? ⟨b7, (m - 1) * 4, none⟩ = some (.string (E.U (m - 1))) := hau
                have hwm : IntKind.i64.wrap ((m : Int) - 1) = ((m - 1 : Nat) : Int) := by rw [IntKind.wrap_i64]; omega
                have hml : ((m - 1 : Nat) : Int) < (m : Int) := by omega
                have hmp : (0 : Int) < (m : Int) := by omega
                have hrp : (0 : Int) < (r.es.length : Int) := by omega
                clear hau hcell
                go_quiet (fail)
                go_wp2_with fail
                go_meet
                exact ⟨by simp [hbl], _, rfl⟩
            case rest =>
            obtain ⟨rfl, nq, rfl⟩ := hcut
            have HI6 := (HI.out.next (below_drewN (Below.refl _ _) nq)).hid
            have HW6 := hide (HW.out.trans ((below_drewN (Below.refl _ _) nq).mono HW.out.size))
            have hnews : ∀ j u, (cellsEntry r.es)[j]? = some u → (wr.drewN nq).cell? ((⟨rb, 0, none⟩ : Addr).add j) = some u := HNEWS.out
            clear HI HW hcell hru2
            generalize wr.drewN nq = w6 at HI6 HW6 hnews ⊢
            have hws := HW6.out.size
            have hk9 : k + 1 ≤ L.length := hlt
            have HK9 := hide hk9
            clear hk9
            have hfr : (fstR L k).length + r.es.length ≤ 1000000 := by have := HMF.out; omega
            go_wp2_with (first
              | (at_builtin; refine wpList_append_entry rfl _ _ 26 rfl Try.underlying26 w4.heap.size _ (fstR L k) r.es (by rfl) HI6.out ⟨rb, 0, none⟩ r.es.length r.p (by rfl) rfl hnews hws hfr ?_))
            intro v' w7 hown hb'
            rw [← HSU.out] at hown
            have HO7 := hown.hid
            have HW7 := hide (HW6.out.trans hb')
            clear HI6 HW6 hnews hws hfr hown hb'
            go_wp2
            exact ⟨⟨k + 1, by go_num, HK9.out, HO7, HW7⟩, by have := HK9.out; simp [intOf]; omega⟩
          · obtain rfl : k = L.length := by omega
            have hall : fstR L L.length = entrysL E n := by
              unfold fstR
              rw [List.take_length]
              rcases Nat.eq_zero_or_pos n with h | h
              · rw [HLn.out h, h]; rfl
              · exact (HG.out h).all
            have hi := HI.out
            rw [hall] at hi
            obtain ⟨va7, vp7, rfl⟩ := hi.shape
            rw [entrysL_len] at hi ⊢
            have HA := hide (ent_same hi)
            have HE5 := hide ((HE4.out.below HW.out).mono HW.out.size)
            have HB5 := hide (HB4.out.trans (HW.out.mono HB4.out.size))
            clear hi HI HW hall
            go_wp2_with fail
            refine (laws_sameEntriesP _ _ n _ _ E wr (by omega) HA.out HE5.out).mono ?_
            rintro e w8 ⟨rfl, hb8⟩
            have HB8 := hide (HB5.out.trans (hb8.mono HB5.out.size))
            clear HA HE5 HB5 hb8
            go_wp2
            go_ret
            exact ⟨rfl, HB8.out⟩

end Go.Proofs.Ytjcoejabpagaiaa
