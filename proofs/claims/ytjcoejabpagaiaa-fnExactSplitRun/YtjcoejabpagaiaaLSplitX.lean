/- The law on SplitRun. -/
import Derived.Test.YtjcoejabpagaiaaSplI
import Derived.Test.YtjcoejabpagaiaaSplS
import Derived.Test.YtjcoejabpagaiaaMkRun
import Derived.Test.YtjcoejabpagaiaaRunsOk
import Derived.Test.YtjcoejabpagaiaaMine
import Derived.Deep.RegionHeld3
namespace Go.Proofs.Ytjcoejabpagaiaa
set_option maxRecDepth 100000
open Go.RowKit Go.Deep

theorem len_flat1 : ∀ {L : List (List Entry1)}, (∀ r, r ∈ L → r ≠ []) → L.length ≤ L.flatten.length
  | [], _ => Nat.le_refl _
  | r :: L, h => by
    have h1 := List.length_pos_iff.2 (h r (List.mem_cons_self ..))
    have h2 := len_flat1 (L := L) fun x hx => h x (List.mem_cons_of_mem _ hx)
    rw [List.flatten_cons, List.length_append, List.length_cons]
    omega
theorem len_flat2 : ∀ {L : List (List Entry1)} {r : List Entry1}, r ∈ L → r.length ≤ L.flatten.length
  | [], _, h => absurd h List.not_mem_nil
  | s :: L, r, h => by
    rw [List.flatten_cons, List.length_append]
    rcases List.mem_cons.1 h with rfl | h
    · omega
    · have := len_flat2 h; omega
/-- How great it may be. -/
theorem splitL_small (E : Ents) (n : Nat) (most : Int) : (splitL E n most).flatten.length ≤ 400 ∧ ∀ r, r ∈ splitL E n most → r ≠ [] := by
  by_cases h : rowOkB E n = true ∧ 1 ≤ most
  · rw [split_yes h.1 h.2]
    have h4 := (rowOk_out h.1).1
    rcases Nat.eq_zero_or_pos n with hn | hn
    · subst hn
      exact ⟨by show ([] : List (List Entry1)).flatten.length ≤ 400; simp, fun r hr => absurd hr List.not_mem_nil⟩
    · have hg := splG (E := E) h.2 n hn
      exact ⟨by rw [hg.all, entrysL_len]; exact h4, hg.some⟩
  · rw [split_no h]
    exact ⟨by simp, fun r hr => absurd hr List.not_mem_nil⟩
/-- The runs by their places. -/
def runsC (RL : List (List Entry1)) : RunsC := ⟨fun i => (RL.getD i []).length, fun i => fnEntry (RL.getD i [])⟩
theorem runs_fit {RL : List (List Entry1)} (h : RL.flatten.length ≤ 400) (hn : ∀ r, r ∈ RL → r ≠ []) : RunFit RL.length (runsC RL) := by
  refine ⟨by have := len_flat1 hn; omega, fun i hi => ?_⟩
  show (RL.getD i []).length ≤ _
  have e : RL.getD i [] = RL[i] := by simp [List.getD, hi]
  rw [e]
  have := len_flat2 (List.getElem_mem hi)
  omega
theorem kO_all {L : List RunV} {RL : List (List Entry1)} (h : L.map RunV.es = RL) : kO L L.length = RL.flatten.length * 4 := by
  unfold kO
  rw [List.take_length, List.length_flatten, ← h, List.map_map]
  rfl
/-- A row of runs as the laws read it. -/
theorem OwnRuns.at_ {w : World} {B : Nat} {v : Value} {L : List RunV} {RL : List (List Entry1)} (h : OwnRuns w B v L) (hl : L.map RunV.es = RL) : ∃ va vp, v = .slice va RL.length vp ∧ RunAt w w.heap.size va RL.length (runsC RL) := by
  obtain ⟨va, vp, hv⟩ := rg_shape (show World.ownsRow _ _ _ _ _ _ _ from h.row)
  have hlen : (L.map RunV.v).length = RL.length := by rw [← hl, List.length_map, List.length_map]
  rw [hlen] at hv
  refine ⟨va, vp, hv, ?_⟩
  rcases Nat.eq_zero_or_pos RL.length with h0 | h0
  · exact .inl h0
  · obtain ⟨g, c, hg⟩ := rg_some (show World.ownsRow _ _ _ _ _ _ _ from h.row) (by omega)
    rw [hv] at hg
    simp only [Value.slice.injEq] at hg
    obtain ⟨rfl, _, rfl⟩ := hg
    subst hv
    refine .inr ⟨g, 0, rfl, (World.ownsRow.lt h.row g (by simp [Value.ownBlock])).2, fun i hi => ?_⟩
    have hiL : i < L.length := by rw [← hl, List.length_map] at hi; exact hi
    have hr : L[i]? = some L[i] := List.getElem?_eq_getElem hiL
    have hc := (own_cell h.row (j := i) (u := L[i].v) (by rw [List.getElem?_map, hr]; rfl)).1
    have he : RL.getD i [] = L[i].es := by rw [← hl]; simp [List.getD, hiL]
    obtain ⟨a2, p2, hva, hE⟩ := OwnEntry.arg (h.ent _ (List.mem_of_getElem? hr))
    unfold RunV.v at hva
    simp only [Value.slice.injEq, true_and] at hva
    refine ⟨L[i].a, L[i].p, ?_, ?_⟩
    · rw [Nat.zero_add]
      show w.cell? ⟨g, i, none⟩ = some (.slice L[i].a (RL.getD i []).length L[i].p)
      rw [he]
      exact hc
    · show EntAt w w.heap.size L[i].a (RL.getD i []).length (fnEntry (RL.getD i []))
      rw [he, hva.1]
      exact hE
/-- .. and as they mark it. -/
theorem OwnRuns.st {w : World} {B : Nat} {va : Option Addr} {n c : Nat} {L : List RunV} (h : OwnRuns w B (.slice va n c) L) (hn : ∀ r, r ∈ L → r.es ≠ []) : ∃ gv, RunSt gv L ∧ (L = [] ∨ va = some ⟨gv, 0, none⟩) ∧ MkR B gv L 0 w w := by
  cases hL : L with
  | nil => exact ⟨0, ⟨fun r hr => absurd hr List.not_mem_nil, fun r hr => absurd hr List.not_mem_nil, fun t u r s hr => by simp at hr⟩, .inl rfl, ⟨Below.refl _ _, fun t r hr => by simp at hr, fun r hr => absurd hr List.not_mem_nil, fun t r ht => by omega⟩⟩
  | cons r0 L0 =>
    rw [← hL]
    obtain ⟨gv, c2, hg⟩ := rg_some (show World.ownsRow _ _ _ _ _ _ _ from h.row) (by rw [hL]; simp)
    have hva : va = some ⟨gv, 0, none⟩ := by simp only [Value.slice.injEq] at hg; exact hg.1
    subst hva
    have hblk : ∀ r, r ∈ L → ∃ g c, r.v = .slice (some ⟨g, 0, none⟩) r.es.length c ∧ r.a = some ⟨g, 0, none⟩ ∧ blkR r = g := fun r hr => by
      obtain ⟨g, c, hg⟩ := rg_some (show World.ownsRow _ _ _ _ _ _ _ from h.ent r hr) (by have := List.length_pos_iff.2 (hn r hr); omega)
      have ha : r.a = some ⟨g, 0, none⟩ := by unfold RunV.v at hg; simp only [Value.slice.injEq] at hg; exact hg.1
      exact ⟨g, c, hg, ha, by unfold blkR; rw [ha]⟩
    refine ⟨gv, ⟨fun r hr => ?_, fun r hr => ?_, fun t u r s hr hs htu => ?_⟩, .inr rfl, ⟨Below.refl _ _, fun t r hr => ?_, fun r hr => ?_, fun t r ht => by omega⟩⟩
    · obtain ⟨g, c, _, h2, h3⟩ := hblk r hr
      rw [h3]; exact h2
    · obtain ⟨g, c, h1, h2, h3⟩ := hblk r hr
      rw [h3]
      intro e
      subst e
      obtain ⟨cur, hc⟩ := rg_type (h.ent r hr) (g := gv) (by rw [h1]; rfl)
      exact rg_far (show World.ownsRow _ _ _ _ _ _ _ from h.row) (show BoxIs w gv cur 43 from hc) (by decide) rfl
    · obtain ⟨g1, c1, a1, _, b1⟩ := hblk r (List.mem_of_getElem? hr)
      obtain ⟨g2, c2, a2, _, b2⟩ := hblk s (List.mem_of_getElem? hs)
      rw [b1, b2]
      intro e
      subst e
      obtain ⟨h1, e1⟩ := List.getElem?_eq_some_iff.1 hr
      obtain ⟨h2, e2⟩ := List.getElem?_eq_some_iff.1 hs
      have key : ∀ i j (hi : i < L.length) (hj : j < L.length), i < j → apartV L[i] L[j] := fun i j hi hj hij => List.pairwise_iff_getElem.1 h.ap i j hi hj hij
      have no : ∀ x y : RunV, x.v.ownBlock = some g1 → y.v.ownBlock = some g1 → ¬ apartV x y := fun x y hx hy hap => by
        rcases hap with q | q
        · rw [hx] at q; cases q
        · rw [hx, hy] at q; exact q rfl
      have hrb : r.v.ownBlock = some g1 := by rw [a1]; rfl
      have hsb : s.v.ownBlock = some g1 := by rw [a2]; rfl
      rcases Nat.lt_or_gt_of_ne htu with q | q
      · have := key t u h1 h2 q
        rw [e1, e2] at this
        exact no r s hrb hsb this
      · have := key u t h2 h1 q
        rw [e1, e2] at this
        exact no s r hsb hrb this
    · exact (own_cell h.row (j := t) (u := r.v) (by rw [List.getElem?_map, hr]; rfl)).1
    · obtain ⟨g, c, h1, h2, h3⟩ := hblk r hr
      have ho := h.ent r hr
      rw [h1] at ho
      rw [h3]
      have hlt := World.ownsRow.lt ho g rfl
      refine ⟨hlt.1, hlt.2, fun j hj => ?_⟩
      rcases ho.2 with ⟨hv, _⟩ | ⟨g', cap, cur, hv, hg2, hh, hle, hcap, hsz, htake⟩
      · simp at hv
      · simp only [Value.slice.injEq, Option.some.injEq, Addr.mk.injEq, and_true] at hv
        obtain ⟨rfl, _, rfl⟩ := hv
        have hb : BoxIs w g cur 43 := hh
        have hj2 : j < cur.size := by rw [hsz]; have := Nat.mul_le_mul_right 4 hle; omega
        exact ⟨⟨cur[j], by rw [hb.cell j]; simp [hj2]⟩, hb.free j⟩
theorem MkR.next {B gv i : Nat} {L : List RunV} {w x y : World} (h : MkR B gv L i w x) (hB : B ≤ x.heap.size) (hb : Below x.heap.size x y) : MkR B gv L i w y :=
  ⟨h.low.trans (hb.mono hB), fun t r hr => keepc hb (h.row t r hr), fun r hr => by
    obtain ⟨h1, h2, h3⟩ := h.wr r hr
    exact ⟨h1, Nat.lt_of_lt_of_le h2 hb.size, fun j hj => by
      obtain ⟨⟨u, hu⟩, hf⟩ := h3 j hj
      exact ⟨⟨u, keepc hb hu⟩, (hb.frozen (p := ⟨blkR r, j, none⟩) h2).trans hf⟩⟩, fun t r ht hr j hj => keepc hb (h.ok t r ht hr j hj)⟩


set_option linter.unusedSimpArgs false in
set_option linter.unusedVariables false in
set_option maxHeartbeats 8000000 in
theorem walk_SplitRun {w : World} (v0 : Value) (hv0 : IsEnts w v0) (i1 : Int) (hi1 : (Lit.int .i64 i1).wf = true) (_w : World) :
    Calls Try.prog 3 #[v0, .int .i64 i1] w fun e w' => e = .returned (.bool true) ∧ Below w.heap.size w w' := by
  obtain ⟨a0, n0, p0, E0, rfl, hm0, hr0, hz0⟩ := hv0
  have HR0 := hr0.hid
  have HZ0 := hide hz0
  have hi2 : -9223372036854775808 ≤ i1 ∧ i1 ≤ 9223372036854775807 := by simp [Lit.wf, IntKind.min, IntKind.max, IntKind.signed, IntKind.bits] at hi1; omega
  have HI := hide hi2
  clear hr0 hz0 hi1 hi2
  have HB : Hid (Below w.heap.size w w) := Below.refl _ _
  go_enter Try.func3, Try.ntmps3
  go_wp2_with fail
  refine (laws_szEntryS a0 n0 p0 E0 1048576 w hm0 HZ0.out (by omega) (by omega) (HR0.out.next HB.out)).mono ?_
  rintro e w0 ⟨⟨l0, rfl, hq0⟩, hb0⟩
  have HB := hide (HB.out.trans (hb0.mono HB.out.size))
  clear hb0
  rcases hq0 with hq0 | ⟨hl00, hl10, hf0⟩
  · go_wp2
    go_ret
    exact ⟨rfl, HB.out⟩
  · have hln0 : ¬ (l0 < 0) := by omega
    have hn0 : n0 ≤ 1048576 := by omega
    have cs := fun (x0 : Option Addr) (wx : World) (y0 : EntAt wx wx.heap.size x0 n0 E0) => spec_SplitRun x0 n0 n0 E0 i1 wx hn0 HI.out.1 HI.out.2 y0
    have ci := fun (x0 : Option Addr) (wx : World) (y0 : EntAt wx wx.heap.size x0 n0 E0) => impl_SplitRun x0 n0 n0 E0 i1 wx hn0 HI.out.1 HI.out.2 y0
    obtain ⟨hfl, hne⟩ := splitL_small E0 n0 i1
    generalize splitL E0 n0 i1 = RL at cs ci hfl hne
    have hfit := runs_fit hfl hne
    have HFit := hide hfit
    have HFl := hide hfl
    have HNe := hide hne
    clear hfit hfl hne
    go_wp2_with fail
    refine (laws_toEntryS a0 n0 p0 E0 w0 hn0 (HR0.out.next HB.out)).mono ?_
    rintro e w1 ⟨rfl, hrow, hb1⟩
    have HB := hide (HB.out.trans (hb1.mono HB.out.size))
    have HT := hidRowB hrow
    clear hb1 hrow
    go_wp2_with fail
    refine (cs (some ⟨w0.heap.size, 0, none⟩) w1 (entAt_row HT.out HT.out.lt)).mono ?_
    rintro e w2 ⟨⟨vw, Lw, rfl, hRw, hLw⟩, hb2⟩
    have HB := hide (HB.out.trans (hb2.mono HB.out.size))
    obtain ⟨wa, wp, rfl, hW⟩ := hRw.at_ hLw
    have HW := hide hW
    have hwX := HB.out.size
    clear hb2 HT hRw hLw hW
    go_wp2_with fail
    refine (laws_toEntryS a0 n0 p0 E0 w2 hn0 (HR0.out.next HB.out)).mono ?_
    rintro e w3 ⟨rfl, hrow, hb3⟩
    have HB := hide (HB.out.trans (hb3.mono HB.out.size))
    have HX := hidRowB hrow
    have HCX := hide hb3
    have hX3 := hrow.lt
    clear hb3 hrow
    go_wp2_with fail
    refine (ci (some ⟨w2.heap.size, 0, none⟩) w3 (entAt_row HX.out HX.out.lt)).mono ?_
    rintro e w4 ⟨⟨vg, L, rfl, hRg, hLg⟩, hb4⟩
    have HB := hide (HB.out.trans (hb4.mono HB.out.size))
    have HX := hide (entRow_below HX.out hb4 hX3)
    have HCX := hide (HCX.out.trans (hb4.mono HCX.out.size))
    have hw4 := hb4.size
    obtain ⟨ga, gp, rfl, hG⟩ := hRg.at_ hLg
    have HRg := hide hRg
    have HLg := hide hLg
    clear hb4 hRg hLg hG
    obtain ⟨X, hXe⟩ : ∃ X, w2.heap.size = X := ⟨_, rfl⟩
    rw [hXe] at HW HX HCX hX3 hwX ⊢
    have hx9 : ∀ {y : World}, Below X w2 y → X ≤ y.heap.size := fun h => by have := h.size; omega
    clear hXe
    go_wp2_with fail
    refine (laws_eqRunS ga wa RL.length gp wp (runsC RL) w4 HFit.out (by obtain ⟨a2, p2, e2, h2⟩ := HRg.out.at_ HLg.out; simp only [Value.slice.injEq, true_and] at e2; rw [e2.1]; exact h2) ((HW.out.below HCX.out).mono (hx9 HCX.out))).mono ?_
    rintro e w5 ⟨rfl, hb5⟩
    have HB := hide (HB.out.trans (hb5.mono HB.out.size))
    have HX := hide (entRow_below HX.out hb5 (by omega))
    have HRg := hide (HRg.out.next hb5)
    have HCX := hide (HCX.out.trans (hb5.mono (hx9 HCX.out)))
    have hw5 := Nat.le_trans hw4 hb5.size
    clear hb5
    go_wp2_with fail
    refine (laws_toEntryS a0 n0 p0 E0 w5 hn0 (HR0.out.next HB.out)).mono ?_
    rintro e w6 ⟨rfl, hrow, hb6⟩
    have HB := hide (HB.out.trans (hb6.mono HB.out.size))
    have HX := hide (entRow_below HX.out hb6 (by omega))
    have HRg := hide (HRg.out.next hb6)
    have HCX := hide (HCX.out.trans (hb6.mono (hx9 HCX.out)))
    have hw6 := Nat.le_trans hw5 hb6.size
    have HT := hidRowB hrow
    clear hb6 hrow
    go_wp2_with fail
    refine (laws_eqEntryS (some ⟨X, 0, none⟩) (some ⟨w5.heap.size, 0, none⟩) n0 n0 n0 E0 w6 hn0 (entAt_row HX.out HX.out.lt) (entAt_row HT.out HT.out.lt)).mono ?_
    rintro e w7 ⟨rfl, hb7⟩
    have HB := hide (HB.out.trans (hb7.mono HB.out.size))
    have HX := hide (entRow_below HX.out hb7 (by omega))
    have HRg := hide (HRg.out.next hb7)
    have HCX := hide (HCX.out.trans (hb7.mono (hx9 HCX.out)))
    have hw7 := Nat.le_trans hw6 hb7.size
    clear hb7 HT
    go_wp2_with fail
    refine (laws_markEntryS 1 1 rfl (by omega) (some ⟨X, 0, none⟩) n0 n0 X w7 hn0 (.inr rfl) (rowIs_mark HX.out)).mono ?_
    rintro e w8 ⟨rfl, hM⟩
    have HB := hide (HB.out.trans (hM.mv.below HB.out.size hwX))
    have HRg : Hid (OwnRuns w8 w3.heap.size (.slice ga RL.length gp) L) := ⟨rg_mv HRg.out.row hM.mv hX3, fun e he => rg_mv (HRg.out.ent e he) hM.mv hX3, HRg.out.ap⟩
    have HCX := hide (HCX.out.trans (hM.mv.below (hx9 HCX.out) (Nat.le_refl _)))
    have hw8 := Nat.le_trans hw7 hM.mv.size
    have hneg : ¬ (((1 + n0 * 4 : Nat) : Int) < 0) := by omega
    clear hM HX
    go_wp2_with fail
    refine (laws_eqRunS ga wa RL.length gp wp (runsC RL) w8 HFit.out (by obtain ⟨a2, p2, e2, h2⟩ := HRg.out.at_ HLg.out; simp only [Value.slice.injEq, true_and] at e2; rw [e2.1]; exact h2) ((HW.out.below HCX.out).mono (hx9 HCX.out))).mono ?_
    rintro e w9 ⟨rfl, hb9⟩
    have HB := hide (HB.out.trans (hb9.mono HB.out.size))
    have HRg := hide (HRg.out.next hb9)
    have HCX := hide (HCX.out.trans (hb9.mono (hx9 HCX.out)))
    have hw9 := Nat.le_trans hw8 hb9.size
    clear hb9
    have hLl : L.length = RL.length := by rw [← HLg.out, List.length_map]
    have hko : kO L L.length = RL.flatten.length * 4 := kO_all HLg.out
    obtain ⟨gv, hst, hva, hmk⟩ := HRg.out.st (fun r hr => HNe.out r.es (by rw [← HLg.out]; exact List.mem_map_of_mem hr))
    have hk6 : kO L L.length ≤ 1000000 := by have := HFl.out; omega
    have hl6 : L.length ≤ 1048576 := by have := HFit.out.1; omega
    obtain ⟨KK, hKK⟩ : ∃ K, kO L L.length = K := ⟨_, rfl⟩
    have cm := laws_markRunS w3.heap.size gv gp ga L w9 hst hva hw9 hl6 hk6 hmk
    have ch := fun wx => fun (hx : MkR w3.heap.size gv L L.length w9 wx) => laws_heldRunS w3.heap.size gv gp ga L w9 wx hst hva hl6 hk6 hx
    rw [hKK, hLl] at cm
    rw [hKK, hLl] at ch
    rw [hLl] at hk6
    have HLl := hide hLl
    clear hLl hko hst hva hmk hk6 hl6 hKK HRg
    go_wp2_with fail
    refine cm.mono ?_
    rintro e w10 ⟨rfl, hM⟩
    have HM := hide hM
    have hX4 : X ≤ w3.heap.size := by omega
    have HB := hide (HB.out.trans (hM.low.mono (by omega)))
    have HCX := hide (HCX.out.trans (hM.low.mono hX4))
    have hw10 := Nat.le_trans hw9 hM.low.size
    clear hM cm
    go_wp2_with fail
    refine (ch w10 HM.out).mono ?_
    rintro e w11 ⟨rfl, hb11⟩
    have HB := hide (HB.out.trans (hb11.mono HB.out.size))
    have HCX := hide (HCX.out.trans (hb11.mono (hx9 HCX.out)))
    have HM := hide (HM.out.next hw10 hb11)
    have hw11 := Nat.le_trans hw10 hb11.size
    have hneg2 : ¬ (((1 + KK : Nat) : Int) < 0) := by omega
    clear hb11
    go_wp2_with fail
    refine (laws_toEntryS a0 n0 p0 E0 w11 hn0 (HR0.out.next HB.out)).mono ?_
    rintro e w12 ⟨rfl, hrow, hb12⟩
    have HB := hide (HB.out.trans (hb12.mono HB.out.size))
    have HCX := hide (HCX.out.trans (hb12.mono (hx9 HCX.out)))
    have HM := hide (HM.out.next hw11 hb12)
    have hw12 := Nat.le_trans hw11 hb12.size
    have HT := hidRowB hrow
    clear hb12 hrow
    go_wp2_with fail
    refine (ci (some ⟨w11.heap.size, 0, none⟩) w12 (entAt_row HT.out HT.out.lt)).mono ?_
    rintro e w13 ⟨⟨vh, Lh, rfl, hRh, hLh⟩, hb13⟩
    have HB := hide (HB.out.trans (hb13.mono HB.out.size))
    have HCX := hide (HCX.out.trans (hb13.mono (hx9 HCX.out)))
    have HM := hide (HM.out.next hw12 hb13)
    have hw13 := Nat.le_trans hw12 hb13.size
    obtain ⟨ha, hp, rfl, hH⟩ := hRh.at_ hLh
    have HH := hide hH
    clear hb13 HT hRh hLh hH
    go_wp2_with fail
    refine (laws_eqRunS ha wa RL.length hp wp (runsC RL) w13 HFit.out HH.out ((HW.out.below HCX.out).mono (hx9 HCX.out))).mono ?_
    rintro e w14 ⟨rfl, hb14⟩
    have HB := hide (HB.out.trans (hb14.mono HB.out.size))
    have HM := hide (HM.out.next hw13 hb14)
    clear hb14 HH HCX
    go_wp2_with fail
    refine (ch w14 HM.out).mono ?_
    rintro e w15 ⟨rfl, hb15⟩
    have HB := hide (HB.out.trans (hb15.mono HB.out.size))
    clear hb15 ch
    go_wp2
    go_ret
    exact ⟨rfl, HB.out⟩

end Go.Proofs.Ytjcoejabpagaiaa
