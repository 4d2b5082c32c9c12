/- The law FnSought, walked. -/
import Derived.Test.YtkopoonkedcpmadDrawEs
import Derived.Test.YtkopoonkedcpmadSeekI
import Derived.Test.YtkopoonkedcpmadSeek
import Derived.Test.YtkopoonkedcpmadKOrd
namespace Go.Proofs.Ytkopoonkedcpmad
open Go.RowKit Go.Deep

def entsOf (es : List En) : Ents := ⟨fun i => (es.getD i ⟨⟨#[]⟩, 0, 0, ⟨#[]⟩⟩).u, fun i => (es.getD i ⟨⟨#[]⟩, 0, 0, ⟨#[]⟩⟩).q, fun i => (es.getD i ⟨⟨#[]⟩, 0, 0, ⟨#[]⟩⟩).k, fun i => (es.getD i ⟨⟨#[]⟩, 0, 0, ⟨#[]⟩⟩).x⟩

theorem OwnE.entAt {w : World} {B g cap : Nat} {es : List En} (h : OwnE w B g cap es) : EntAt w w.heap.size (some ⟨g, 0, none⟩) es.length (entsOf es) := by
  refine .inr ⟨g, 0, rfl, h.lt.2, fun i hi => ?_⟩
  have hg : es[i]? = some (es.getD i ⟨⟨#[]⟩, 0, 0, ⟨#[]⟩⟩) := by rw [List.getD, List.getElem?_eq_getElem hi]; rfl
  obtain ⟨c0, c1, c2, c3⟩ := cellsE_get es i _ hg
  rw [Nat.zero_add]
  exact ⟨h.cell c0, h.cell c1, h.cell c2, h.cell c3⟩

/-- Where the key belongs, what is ahead of it is ahead in the row, and nothing else. -/
theorem sought {E : Ents} {len n : Nat} {u : ByteArray} {q k : Int} (h : rowOkB E len = true) (hk : keyOkB u q k = true) (hp : PlaceAt E len u q k n) (j : Nat) (hj : j < len) : keyCmpI (E.U j) (E.Q j) (E.K j) u q k < 0 ↔ j < n := by
  rw [keyCmp_ok (keyOk_of_ent ((rowOk_out h).2 j hj).1) hk]
  show ordK E u q k j < 0 ↔ j < n
  refine ⟨fun ho => ?_, fun hn => hp.2.1 j hn⟩
  refine Classical.byContradiction fun hn => ?_
  exact hp.2.2 (by omega) (row_mono h hk n j (by omega) hj ho)

theorem laws_bigK (a : Option Addr) (len cap : Nat) (hl : len ≤ maxLen) (w : World) :
    Calls Try.prog 4 #[.slice a len cap] w fun e w' => e = .returned (.bool (decide (1048576 < len))) ∧ w = w' := by
  unfold maxLen at hl
  by_cases h : 1048576 < len
  · have h' : (1048576 : Int) < (len : Int) := by omega
    go_enter Try.func4, Try.ntmps4
    go_wp2
    go_ret
    exact ⟨congrArg (fun b => Ending.returned (.bool b)) (decide_eq_true h).symm, rfl⟩
  · have h' : ¬ ((1048576 : Int) < (len : Int)) := by omega
    go_enter Try.func4, Try.ntmps4
    go_wp2
    go_ret
    exact ⟨rfl, rfl⟩

theorem open_rdK (W : World) (a : Option Addr) (len cap : Nat) (W0 : World) (h0 : Below W0.heap.size W0 W) :
    Calls Try.prog 11 #[.slice a len cap] W fun e w' => e = .returned (.pointer (some ⟨W.heap.size, 0, none⟩)) ∧ Rd W0 w' W.heap.size a len cap ∧ Below W.heap.size W w' := by
  go_enter Try.func11, Try.ntmps11
  go_wp2
  go_ret
  refine ⟨rfl, ⟨h0.size, by simp, h0.trans ((Below.refl _ _).alloc h0.size _), ?_, ⟨0, Nat.zero_le _, ?_⟩, ?_⟩, (Below.refl _ _).alloc (Nat.le_refl _) _⟩
  · simp
  · simp
  · simp

set_option maxHeartbeats 2000000 in
set_option maxRecDepth 100000 in
theorem draw_SeekEntry (W w : World) (a : Option Addr) (len cap : Nat) (hc : IsCode W a len) (hl : len ≤ 1048576) (hb : Below W.heap.size W w) :
    Calls Try.prog 5 #[.slice a len cap] w fun e w' => ∃ gE capE es u q k, e = .returned (.tuple #[.slice (some ⟨gE, 0, none⟩) es.length capE, .agg #[.string u, .int .i64 q, .int .i64 k]]) ∧ (es : List En).length ≤ 10 ∧ es.length ≤ capE ∧ u.size ≤ 45 ∧ EntAt w' w'.heap.size (some ⟨gE, 0, none⟩) es.length (entsOf es) ∧ Below w.heap.size w w' := by
  have hbT := (Below.refl w.heap.size w).alloc (Nat.le_refl _) (.cells #[.string ⟨#[]⟩, .int .i64 0, .int .i64 0] 26)
  have hbW := hb.alloc hb.size (.cells #[.string ⟨#[]⟩, .int .i64 0, .int .i64 0] 26)
  have hT : (w.alloc (.cells #[.string ⟨#[]⟩, .int .i64 0, .int .i64 0] 26)).heap[w.heap.size]? = some (.cells #[.string ⟨#[]⟩, .int .i64 0, .int .i64 0] 26) := heap_alloc_new w _
  have hsz0 : (w.alloc (.cells #[.string ⟨#[]⟩, .int .i64 0, .int .i64 0] 26)).heap.size = w.heap.size + 1 := by simp
  go_enter Try.func5, Try.ntmps5
  go_wp2_with fail
  generalize w.alloc (.cells #[.string ⟨#[]⟩, .int .i64 0, .int .i64 0] 26) = W0 at hbT hbW hT hsz0 ⊢
  refine (open_rdK _ a len cap W hbW).mono ?_
  rintro e w1 ⟨rfl, hr, hb1⟩
  obtain ⟨g, hg⟩ : ∃ g, W0.heap.size = g := ⟨_, rfl⟩
  rw [hg] at hr hsz0 ⊢
  have hgT : w.heap.size < g := by omega
  have HT1 := hide ((hb1.block w.heap.size (by omega)).trans hT)
  have HB1 := hide (hbT.trans (hb1.mono (by omega)))
  have hglt := hr.lt
  have HR1 := hide hr
  clear hb1 hT hbT hbW hg hsz0 hr
  go_wp2_with fail
  refine (rd_entries W _ _ a len cap 9 (by omega) (by omega) hc hl HR1.out).mono ?_
  rintro e w2 ⟨gE, capE, es, rfl, hn, hsz, hown, hr2, hm2⟩
  have HT2 := hide ((hm2.block w.heap.size (by omega) (by omega)).trans HT1.out)
  have HB2 := hide (HB1.out.trans (hm2.below HB1.out.size (by omega)))
  have HR2 := hide hr2
  have HO := hide hown
  have HN := hide hn
  have hw12 : w1.heap.size ≤ w2.heap.size := hm2.size
  clear hr2 hm2 hown HT1 HB1 HR1 hn hsz
  go_wp2_with fail
  refine (rd_key W _ _ a len cap hc hl HR2.out).mono ?_
  rintro e w3 ⟨u, q, k, rfl, hu, _, _, _, _, hr3, hm3⟩
  have hT3 := (hm3.block w.heap.size (by omega) (by omega)).trans HT2.out
  have HB3 := hide (HB2.out.trans (hm3.below HB2.out.size (by omega)))
  have HO3 := hide (HO.out.mv hm3 hglt)
  have hw13 : w1.heap.size ≤ w3.heap.size := Nat.le_trans hw12 hm3.size
  have hc0 : w3.cell? ⟨w.heap.size, 0, none⟩ = some (.string ⟨#[]⟩) := cell_of_row _ _ _ _ _ _ hT3
  have hc1 : w3.cell? ⟨w.heap.size, 1, none⟩ = some (.int .i64 0) := cell_of_row _ _ _ _ _ _ hT3
  have hc2 : w3.cell? ⟨w.heap.size, 2, none⟩ = some (.int .i64 0) := cell_of_row _ _ _ _ _ _ hT3
  have hz0 : w3.frozen? ⟨w.heap.size, 0, none⟩ = false := frozen_of_row _ _ _ _ _ hT3
  have hz1 : w3.frozen? ⟨w.heap.size, 1, none⟩ = false := frozen_of_row _ _ _ _ _ hT3
  have hz2 : w3.frozen? ⟨w.heap.size, 2, none⟩ = false := frozen_of_row _ _ _ _ _ hT3
  have g0 := heap_setCell_same w3 w.heap.size 0 _ _ (.string u) hT3
  have g1 := heap_setCell_same _ w.heap.size 1 _ _ (.int .i64 q) g0
  have g2 := hide (heap_setCell_same _ w.heap.size 2 _ _ (.int .i64 k) g1)
  have hEb := HO3.out.lt
  have HE := hide (((HO3.out.block (heap_setCell_other w3 ⟨w.heap.size, 0, none⟩ gE (.string u) (by show gE ≠ w.heap.size; omega))).block (heap_setCell_other _ ⟨w.heap.size, 1, none⟩ gE (.int .i64 q) (by show gE ≠ w.heap.size; omega))).block (heap_setCell_other _ ⟨w.heap.size, 2, none⟩ gE (.int .i64 k) (by show gE ≠ w.heap.size; omega)))
  have HB6 := hide (((HB3.out.setCell (p := ⟨w.heap.size, 0, none⟩) (Nat.le_refl _) (.string u)).setCell (p := ⟨w.heap.size, 1, none⟩) (Nat.le_refl _) (.int .i64 q)).setCell (p := ⟨w.heap.size, 2, none⟩) (Nat.le_refl _) (.int .i64 k))
  clear hr3 hm3 HT2 HB2 HR2 HO hT3 g0 g1 HB3 HO3
  go_wp2
  generalize ((w3.setCell ⟨w.heap.size, 0, none⟩ (.string u)).setCell ⟨w.heap.size, 1, none⟩ (.int .i64 q)).setCell ⟨w.heap.size, 2, none⟩ (.int .i64 k) = w6 at g2 HE HB6 ⊢
  have k0 : w6.cell? ⟨w.heap.size, 0, none⟩ = some (.string u) := cell_of_row _ _ _ _ _ _ g2.out
  have k1 : w6.cell? ⟨w.heap.size, 1, none⟩ = some (.int .i64 q) := cell_of_row _ _ _ _ _ _ g2.out
  have k2 : w6.cell? ⟨w.heap.size, 2, none⟩ = some (.int .i64 k) := cell_of_row _ _ _ _ _ _ g2.out
  refine bodyPost_ret (v := .tuple #[.slice (some ⟨gE, 0, none⟩) es.length capE, .agg #[.string u, .int .i64 q, .int .i64 k]]) (by simp [results, Try.results5, go_sem, k0, k1, k2]) rfl ?_
  exact ⟨gE, capE, es, u, q, k, rfl, by have := HN.out; omega, HE.out.cap.1, hu, HE.out.entAt, HB6.out⟩

def KBox (w : World) (F : Nat) (u : ByteArray) (q k : Int) : Prop := w.heap[F]? = some (.cells #[.string u, .int .i64 q, .int .i64 k] 26)
theorem KBox.below {w w' : World} {F : Nat} {u : ByteArray} {q k : Int} (h : KBox w F u q k) (hb : Below w.heap.size w w') : KBox w' F u q k := (hb.block F (Array.getElem?_eq_some_iff.1 h).1).trans h
theorem KBox.cells {w : World} {F : Nat} {u : ByteArray} {q k : Int} (h : KBox w F u q k) : w.cell? ⟨F, 0, none⟩ = some (.string u) ∧ w.cell? ⟨F, 1, none⟩ = some (.int .i64 q) ∧ w.cell? ⟨F, 2, none⟩ = some (.int .i64 k) :=
  ⟨cell_of_row _ _ _ _ _ _ h, cell_of_row _ _ _ _ _ _ h, cell_of_row _ _ _ _ _ _ h⟩
theorem EntAt.keep {w w' : World} {a : Option Addr} {n : Nat} {E : Ents} (h : EntAt w w.heap.size a n E) (hb : Below w.heap.size w w') : EntAt w' w'.heap.size a n E := (h.below hb).mono hb.size

set_option maxHeartbeats 4000000 in
set_option maxRecDepth 100000 in
theorem walk_FnSought (v : Value) {w : World} (hv : IsBytes w v) (_w : World) :
    Calls Try.prog 3 #[v] w fun e w' => e = .returned (.bool true) ∧ Below w.heap.size w w' := by
  obtain ⟨a, len, cap, rfl, hc, hm⟩ := hv
  by_cases hbig : 1048576 < len
  · have hd : decide (1048576 < len) = true := by simp [hbig]
    go_enter Try.func3, Try.ntmps3
    go_wp2_with fail
    refine (laws_bigK a len cap hm _).mono ?_
    rintro e w1 ⟨rfl, rfl⟩
    go_wp2
    go_ret
    exact ⟨rfl, Below.refl _ _⟩
  · have hd : decide (1048576 < len) = false := by simp [hbig]
    have hl : len ≤ 1048576 := by omega
    go_enter Try.func3, Try.ntmps3
    go_wp2_with fail
    refine (laws_bigK a len cap hm _).mono ?_
    rintro e w1 ⟨rfl, rfl⟩
    go_wp2_with fail
    refine (draw_SeekEntry w _ a len cap hc hl (Below.refl _ _)).mono ?_
    rintro e w1 ⟨gE, capE, es, u, q, k, rfl, hn10, hcapn, hu, hE, hB1⟩
    obtain ⟨n, hn⟩ : ∃ n, es.length = n := ⟨_, rfl⟩
    generalize entsOf es = E at hE
    rw [hn] at hE hn10 hcapn ⊢
    have hb2 := (Below.refl w1.heap.size w1).alloc (Nat.le_refl _) (.cells #[.string u, .int .i64 q, .int .i64 k] 26)
    have HB2 := hide (hB1.trans (hb2.mono hB1.size))
    have HE2 := hide (hE.keep hb2)
    have HK2 := hide (show KBox (w1.alloc (.cells #[.string u, .int .i64 q, .int .i64 k] 26)) w1.heap.size u q k from heap_alloc_new w1 _)
    clear hbig hc hm hd hb2 hB1 hE hn
    go_wp2_with fail
    generalize w1.alloc (.cells #[.string u, .int .i64 q, .int .i64 k] 26) = W2 at HB2 HE2 HK2 ⊢
    refine (impl_SeekEntry _ n capE E u q k _ (by omega) HE2.out).mono ?_
    rintro e w3 ⟨⟨r, rfl, hr⟩, hb3⟩
    have HB3 := hide (HB2.out.trans (hb3.mono HB2.out.size))
    have HE3 := hide (HE2.out.keep hb3)
    have HK3 := hide (HK2.out.below hb3)
    have HR := hide hr
    obtain ⟨d0, d1, d2⟩ := HK3.out.cells
    clear hb3 HB2 HE2 HK2 hr
    go_wp2_with fail
    clear d0 d1 d2
    refine (spec_SeekEntry _ n capE E u q k _ (by omega) HE3.out).mono ?_
    rintro e w4 ⟨⟨r2, rfl, hr2⟩, hb4⟩
    obtain rfl : r2 = r := seekAt_one hr2 HR.out
    have HB4 := hide (HB3.out.trans (hb4.mono HB3.out.size))
    have HE4 := hide (HE3.out.keep hb4)
    have HK4 := hide (HK3.out.below hb4)
    clear hb4 HB3 HE3 HK3 hr2
    cases hok : (rowOkB E n && keyOkB u q k) with
    | false =>
      obtain rfl : r2 = -1 := by
        have := HR.out
        unfold SeekAt at this
        rwa [if_neg (by rw [hok]; decide)] at this
      obtain ⟨d0, d1, d2⟩ := HK4.out.cells
      go_wp2_with fail
      clear d0 d1 d2
      refine (spec_SeekEntry _ n capE E u q k _ (by omega) HE4.out).mono ?_
      rintro e w5 ⟨⟨r3, rfl, hr3⟩, hb5⟩
      obtain rfl : r3 = -1 := seekAt_one hr3 HR.out
      have HB5 := hide (HB4.out.trans (hb5.mono HB4.out.size))
      have HE5 := hide (HE4.out.keep hb5)
      have HK5 := hide (HK4.out.below hb5)
      clear hb5 HB4 HE4 HK4 hr3 HR
      cases hro : rowOkB E n with
      | false =>
        have ce := fun (wx : World) (hs : EntAt wx wx.heap.size (some ⟨gE, 0, none⟩) n E) => hro ▸ impl_EntriesOk (some ⟨gE, 0, none⟩) n capE E wx (by omega) hs
        clear hro hok
        go_wp2_with fail
        refine (ce _ HE5.out).mono ?_
        rintro e w6 ⟨rfl, hb6⟩
        have HB6 := hide (HB5.out.trans (hb6.mono HB5.out.size))
        clear ce hb6 HB5 HE5 HK5
        go_wp2
        go_ret
        exact ⟨rfl, HB6.out⟩
      | true =>
        have hko : keyOkB u q k = false := by rw [hro, Bool.true_and] at hok; exact hok
        have ce := fun (wx : World) (hs : EntAt wx wx.heap.size (some ⟨gE, 0, none⟩) n E) => hro ▸ impl_EntriesOk (some ⟨gE, 0, none⟩) n capE E wx (by omega) hs
        have ck := fun (wx : World) => hko ▸ impl_KeyOk u q k wx
        clear hro hok hko
        go_wp2_with fail
        refine (ce _ HE5.out).mono ?_
        rintro e w6 ⟨rfl, hb6⟩
        have HB6 := hide (HB5.out.trans (hb6.mono HB5.out.size))
        obtain ⟨d0, d1, d2⟩ := (HK5.out.below hb6).cells
        clear ce hb6 HB5 HE5 HK5
        go_wp2_with fail
        refine (ck _).mono ?_
        rintro e w7 ⟨rfl, hb7⟩
        have HB7 := hide (HB6.out.trans (hb7.mono HB6.out.size))
        clear ck hb7 HB6 d0 d1 d2
        go_wp2
        go_ret
        exact ⟨rfl, HB7.out⟩
    | true =>
      have hrk : rowOkB E n = true ∧ keyOkB u q k = true := by simpa using hok
      obtain ⟨n0, rfl, hp⟩ : ∃ n0 : Nat, r2 = n0 ∧ PlaceAt E n u q k n0 := by
        have := HR.out
        unfold SeekAt at this
        rwa [if_pos hok] at this
      have hn0 : n0 ≤ n := hp.1
      have HP := hide (sought hrk.1 hrk.2 hp)
      clear hok HR hrk hp
      go_wp2
      go_loopw [6] (fun i wr => ∃ j : Nat, i = .int .i64 j ∧ j ≤ n ∧ Hid (Below w4.heap.size w4 wr)) (fun i _ => n - (intOf i).toNat)
      case atStart => exact ⟨0, rfl, by omega, Below.refl _ _⟩
      case round =>
        obtain ⟨j, rfl, hj, HW⟩ := hrel
        by_cases hjn : j < n
        · have hji : (j : Int) < (n : Int) := by omega
          obtain ⟨e0, e1, e2⟩ := (HK4.out.below HW.out).cells
          obtain ⟨b, off, hae, hbl, d0, d1, d2, d3⟩ := (HE4.out.keep HW.out).at hjn
          obtain ⟨rfl, rfl⟩ : gE = b ∧ 0 = off := by injection hae with e; injection e; exact ⟨by assumption, by assumption⟩
          rw [Nat.zero_add] at d0 d1 d2
          have hKl := (Array.getElem?_eq_some_iff.1 (HK4.out.below HW.out)).1
          have hstart : ((fun (w' : World) => w'.cell? ⟨gE, j * 4, none⟩ = some (.string (E.U j)) ∧ w'.cell? ⟨gE, j * 4 + 1, none⟩ = some (.int .i64 (E.Q j)) ∧ w'.cell? ⟨gE, j * 4 + 2, none⟩ = some (.int .i64 (E.K j)) ∧ w'.cell? ⟨w1.heap.size, 0, none⟩ = some (.string u) ∧ w'.cell? ⟨w1.heap.size, 1, none⟩ = some (.int .i64 q) ∧ w'.cell? ⟨w1.heap.size, 2, none⟩ = some (.int .i64 k) ∧ Hid (Below w4.heap.size w4 w' ∧ gE < w'.heap.size ∧ w1.heap.size < w'.heap.size))) wr.drew := ⟨d0, d1, d2, e0, e1, e2, HW.out.drew, hbl, hKl⟩
          clear d0 d1 d2 d3 e0 e1 e2 hae hbl hKl HW
          have hpj := HP.out j hjn
          by_cases hlt : j < n0
          · have hc : keyCmpI (E.U j) (E.Q j) (E.K j) u q k < 0 := hpj.2 hlt
            have hlti : (j : Int) < (n0 : Int) := by omega
            clear hpj
            go_wp2_with fail
            refine wp_region_noPanic ?_
            refine wp_region_held_drew (S := (fun (w' : World) => w'.cell? ⟨gE, j * 4, none⟩ = some (.string (E.U j)) ∧ w'.cell? ⟨gE, j * 4 + 1, none⟩ = some (.int .i64 (E.Q j)) ∧ w'.cell? ⟨gE, j * 4 + 2, none⟩ = some (.int .i64 (E.K j)) ∧ w'.cell? ⟨w1.heap.size, 0, none⟩ = some (.string u) ∧ w'.cell? ⟨w1.heap.size, 1, none⟩ = some (.int .i64 q) ∧ w'.cell? ⟨w1.heap.size, 2, none⟩ = some (.int .i64 k) ∧ Hid (Below w4.heap.size w4 w' ∧ gE < w'.heap.size ∧ w1.heap.size < w'.heap.size))) (by kernel_rfl) hstart (fun hH => ?_)
            clear hstart
            refine wpAnyH_take (i := 0) (v := .slice (some ⟨gE, 0, none⟩) n capE) nat0 (by kernel_rfl) (by kernel_rfl) (by kernel_rfl) (fun _ _ _ h => False.elim h) (Or.inl ⟨by rfl, ?_⟩) hH ?_
            · intro wx hSw
              obtain ⟨c0, c1, c2, b0, b1, b2, _⟩ := hSw
              go_simp
            simp only [Act.put, List.setIfInBounds_toArray, List.set_cons_zero, List.set_cons_succ]
            refine wpAnyH_take (i := 1) (v := .int .i64 j) nat1 (by kernel_rfl) (by kernel_rfl) (by kernel_rfl) (fun _ _ _ h => False.elim h) (Or.inl ⟨by rfl, ?_⟩) hH ?_
            · intro wx hSw
              obtain ⟨c0, c1, c2, b0, b1, b2, _⟩ := hSw
              go_simp
            simp only [Act.put, List.setIfInBounds_toArray, List.set_cons_zero, List.set_cons_succ]
            refine wpAnyH_take (i := 2) (v := .pointer (some ⟨gE, j * 4, none⟩)) nat2 (by kernel_rfl) (by kernel_rfl) (by kernel_rfl) (fun _ _ _ h => False.elim h) (Or.inl ⟨by rfl, ?_⟩) hH ?_
            · intro wx hSw
              obtain ⟨c0, c1, c2, b0, b1, b2, _⟩ := hSw
              go_simp
            simp only [Act.put, List.setIfInBounds_toArray, List.set_cons_zero, List.set_cons_succ]
            refine wpAnyH_take (i := 3) (v := .pointer (some ⟨gE, j * 4, none⟩)) nat3 (by kernel_rfl) (by kernel_rfl) (by kernel_rfl) (fun _ _ _ h => False.elim h) (Or.inl ⟨by rfl, ?_⟩) hH ?_
            · intro wx hSw
              obtain ⟨c0, c1, c2, b0, b1, b2, _⟩ := hSw
              go_simp
            simp only [Act.put, List.setIfInBounds_toArray, List.set_cons_zero, List.set_cons_succ]
            refine wpAnyH_take (i := 4) (v := .agg #[.string (E.U j), .int .i64 (E.Q j), .int .i64 (E.K j)]) nat4 (by kernel_rfl) (by kernel_rfl) (by kernel_rfl) (fun _ _ _ h => False.elim h) (Or.inl ⟨by rfl, ?_⟩) hH ?_
            · intro wx hSw
              obtain ⟨c0, c1, c2, b0, b1, b2, _⟩ := hSw
              go_simp
            simp only [Act.put, List.setIfInBounds_toArray, List.set_cons_zero, List.set_cons_succ]
            refine wpAnyH_take (i := 5) (v := .agg #[.string u, .int .i64 q, .int .i64 k]) nat5 (by kernel_rfl) (by kernel_rfl) (by kernel_rfl) (fun _ _ _ h => False.elim h) (Or.inl ⟨by rfl, ?_⟩) hH ?_
            · intro wx hSw
              obtain ⟨c0, c1, c2, b0, b1, b2, _⟩ := hSw
              go_simp
            simp only [Act.put, List.setIfInBounds_toArray, List.set_cons_zero, List.set_cons_succ]
            refine wpAnyH_take (i := 8) (v := .int .i64 j) nat8 (by kernel_rfl) (by kernel_rfl) (by kernel_rfl) (fun _ _ _ h => False.elim h) (Or.inl ⟨by rfl, ?_⟩) hH ?_
            · intro wx hSw
              obtain ⟨c0, c1, c2, b0, b1, b2, _⟩ := hSw
              go_simp
            simp only [Act.put, List.setIfInBounds_toArray, List.set_cons_zero, List.set_cons_succ]
            refine wpAnyH_take (i := 9) (v := .int .i64 n0) nat9 (by kernel_rfl) (by kernel_rfl) (by kernel_rfl) (fun _ _ _ h => False.elim h) (Or.inl ⟨by rfl, ?_⟩) hH ?_
            · intro wx hSw
              obtain ⟨c0, c1, c2, b0, b1, b2, _⟩ := hSw
              go_simp
            simp only [Act.put, List.setIfInBounds_toArray, List.set_cons_zero, List.set_cons_succ]
            refine wpAnyH_take (i := 10) (v := .bool true) nat10 (by kernel_rfl) (by kernel_rfl) (by kernel_rfl) (fun _ _ _ h => False.elim h) (Or.inl ⟨by rfl, ?_⟩) hH ?_
            · intro wx hSw
              obtain ⟨c0, c1, c2, b0, b1, b2, _⟩ := hSw
              go_simp
            simp only [Act.put, List.setIfInBounds_toArray, List.set_cons_zero, List.set_cons_succ]
            refine wpAnyH_ready (rs := [6]) (by kernel_rfl) (by simp) ?_
            refine AllReadyH.cons nat6 (fun K hK => ?_) AllReadyH.nil
            go_simp
            go_at_call 10
            refine (held_belowE (S := (fun (w' : World) => w'.cell? ⟨gE, j * 4, none⟩ = some (.string (E.U j)) ∧ w'.cell? ⟨gE, j * 4 + 1, none⟩ = some (.int .i64 (E.Q j)) ∧ w'.cell? ⟨gE, j * 4 + 2, none⟩ = some (.int .i64 (E.K j)) ∧ w'.cell? ⟨w1.heap.size, 0, none⟩ = some (.string u) ∧ w'.cell? ⟨w1.heap.size, 1, none⟩ = some (.int .i64 q) ∧ w'.cell? ⟨w1.heap.size, 2, none⟩ = some (.int .i64 k) ∧ Hid (Below w4.heap.size w4 w' ∧ gE < w'.heap.size ∧ w1.heap.size < w'.heap.size))) es_kept hH (impl_KeyCmp _ _ _ _ _ _ _)).mono ?_
            rintro e w6 ⟨rfl, hS6⟩
            refine hK.out _ _ hS6 (fun hH6 => ?_)
            clear hK K hS6 hH
            refine wpAnyH_take (i := 7) (v := .bool true) nat7 (by kernel_rfl) (by kernel_rfl) (by kernel_rfl) (fun _ _ _ h => False.elim h) (Or.inl ⟨by rfl, ?_⟩) hH6 ?_
            · intro wx hSw
              obtain ⟨c0, c1, c2, b0, b1, b2, _⟩ := hSw
              go_simp
            simp only [Act.put, List.setIfInBounds_toArray, List.set_cons_zero, List.set_cons_succ]
            refine wpAnyH_take (i := 11) (v := .bool false) nat11 (by kernel_rfl) (by kernel_rfl) (by kernel_rfl) (fun _ _ _ h => False.elim h) (Or.inl ⟨by rfl, ?_⟩) hH6 ?_
            · intro wx hSw
              obtain ⟨c0, c1, c2, b0, b1, b2, _⟩ := hSw
              go_simp
            simp only [Act.put, List.setIfInBounds_toArray, List.set_cons_zero, List.set_cons_succ]
            refine wpAnyH_done (by kernel_rfl) ?_ _
            refine NoPanic.normal ?_
            have HW6 := hide hH6.2.2.2.2.2.2.out.1
            clear hH6 hc
            go_wp2
            exact ⟨⟨j + 1, by go_num, by omega, HW6⟩, by simp [intOf]; omega⟩
          · have hc : ¬ keyCmpI (E.U j) (E.Q j) (E.K j) u q k < 0 := fun h => hlt (hpj.1 h)
            have hlti : ¬ (j : Int) < (n0 : Int) := by omega
            clear hpj
            go_wp2_with fail
            refine wp_region_noPanic ?_
            refine wp_region_held_drew (S := (fun (w' : World) => w'.cell? ⟨gE, j * 4, none⟩ = some (.string (E.U j)) ∧ w'.cell? ⟨gE, j * 4 + 1, none⟩ = some (.int .i64 (E.Q j)) ∧ w'.cell? ⟨gE, j * 4 + 2, none⟩ = some (.int .i64 (E.K j)) ∧ w'.cell? ⟨w1.heap.size, 0, none⟩ = some (.string u) ∧ w'.cell? ⟨w1.heap.size, 1, none⟩ = some (.int .i64 q) ∧ w'.cell? ⟨w1.heap.size, 2, none⟩ = some (.int .i64 k) ∧ Hid (Below w4.heap.size w4 w' ∧ gE < w'.heap.size ∧ w1.heap.size < w'.heap.size))) (by kernel_rfl) hstart (fun hH => ?_)
            clear hstart
            refine wpAnyH_take (i := 0) (v := .slice (some ⟨gE, 0, none⟩) n capE) nat0 (by kernel_rfl) (by kernel_rfl) (by kernel_rfl) (fun _ _ _ h => False.elim h) (Or.inl ⟨by rfl, ?_⟩) hH ?_
            · intro wx hSw
              obtain ⟨c0, c1, c2, b0, b1, b2, _⟩ := hSw
              go_simp
            simp only [Act.put, List.setIfInBounds_toArray, List.set_cons_zero, List.set_cons_succ]
            refine wpAnyH_take (i := 1) (v := .int .i64 j) nat1 (by kernel_rfl) (by kernel_rfl) (by kernel_rfl) (fun _ _ _ h => False.elim h) (Or.inl ⟨by rfl, ?_⟩) hH ?_
            · intro wx hSw
              obtain ⟨c0, c1, c2, b0, b1, b2, _⟩ := hSw
              go_simp
            simp only [Act.put, List.setIfInBounds_toArray, List.set_cons_zero, List.set_cons_succ]
            refine wpAnyH_take (i := 2) (v := .pointer (some ⟨gE, j * 4, none⟩)) nat2 (by kernel_rfl) (by kernel_rfl) (by kernel_rfl) (fun _ _ _ h => False.elim h) (Or.inl ⟨by rfl, ?_⟩) hH ?_
            · intro wx hSw
              obtain ⟨c0, c1, c2, b0, b1, b2, _⟩ := hSw
              go_simp
            simp only [Act.put, List.setIfInBounds_toArray, List.set_cons_zero, List.set_cons_succ]
            refine wpAnyH_take (i := 3) (v := .pointer (some ⟨gE, j * 4, none⟩)) nat3 (by kernel_rfl) (by kernel_rfl) (by kernel_rfl) (fun _ _ _ h => False.elim h) (Or.inl ⟨by rfl, ?_⟩) hH ?_
            · intro wx hSw
              obtain ⟨c0, c1, c2, b0, b1, b2, _⟩ := hSw
              go_simp
            simp only [Act.put, List.setIfInBounds_toArray, List.set_cons_zero, List.set_cons_succ]
            refine wpAnyH_take (i := 4) (v := .agg #[.string (E.U j), .int .i64 (E.Q j), .int .i64 (E.K j)]) nat4 (by kernel_rfl) (by kernel_rfl) (by kernel_rfl) (fun _ _ _ h => False.elim h) (Or.inl ⟨by rfl, ?_⟩) hH ?_
            · intro wx hSw
              obtain ⟨c0, c1, c2, b0, b1, b2, _⟩ := hSw
              go_simp
            simp only [Act.put, List.setIfInBounds_toArray, List.set_cons_zero, List.set_cons_succ]
            refine wpAnyH_take (i := 5) (v := .agg #[.string u, .int .i64 q, .int .i64 k]) nat5 (by kernel_rfl) (by kernel_rfl) (by kernel_rfl) (fun _ _ _ h => False.elim h) (Or.inl ⟨by rfl, ?_⟩) hH ?_
            · intro wx hSw
              obtain ⟨c0, c1, c2, b0, b1, b2, _⟩ := hSw
              go_simp
            simp only [Act.put, List.setIfInBounds_toArray, List.set_cons_zero, List.set_cons_succ]
            refine wpAnyH_take (i := 8) (v := .int .i64 j) nat8 (by kernel_rfl) (by kernel_rfl) (by kernel_rfl) (fun _ _ _ h => False.elim h) (Or.inl ⟨by rfl, ?_⟩) hH ?_
            · intro wx hSw
              obtain ⟨c0, c1, c2, b0, b1, b2, _⟩ := hSw
              go_simp
            simp only [Act.put, List.setIfInBounds_toArray, List.set_cons_zero, List.set_cons_succ]
            refine wpAnyH_take (i := 9) (v := .int .i64 n0) nat9 (by kernel_rfl) (by kernel_rfl) (by kernel_rfl) (fun _ _ _ h => False.elim h) (Or.inl ⟨by rfl, ?_⟩) hH ?_
            · intro wx hSw
              obtain ⟨c0, c1, c2, b0, b1, b2, _⟩ := hSw
              go_simp
            simp only [Act.put, List.setIfInBounds_toArray, List.set_cons_zero, List.set_cons_succ]
            refine wpAnyH_take (i := 10) (v := .bool false) nat10 (by kernel_rfl) (by kernel_rfl) (by kernel_rfl) (fun _ _ _ h => False.elim h) (Or.inl ⟨by rfl, ?_⟩) hH ?_
            · intro wx hSw
              obtain ⟨c0, c1, c2, b0, b1, b2, _⟩ := hSw
              go_simp
            simp only [Act.put, List.setIfInBounds_toArray, List.set_cons_zero, List.set_cons_succ]
            refine wpAnyH_ready (rs := [6]) (by kernel_rfl) (by simp) ?_
            refine AllReadyH.cons nat6 (fun K hK => ?_) AllReadyH.nil
            go_simp
            go_at_call 10
            refine (held_belowE (S := (fun (w' : World) => w'.cell? ⟨gE, j * 4, none⟩ = some (.string (E.U j)) ∧ w'.cell? ⟨gE, j * 4 + 1, none⟩ = some (.int .i64 (E.Q j)) ∧ w'.cell? ⟨gE, j * 4 + 2, none⟩ = some (.int .i64 (E.K j)) ∧ w'.cell? ⟨w1.heap.size, 0, none⟩ = some (.string u) ∧ w'.cell? ⟨w1.heap.size, 1, none⟩ = some (.int .i64 q) ∧ w'.cell? ⟨w1.heap.size, 2, none⟩ = some (.int .i64 k) ∧ Hid (Below w4.heap.size w4 w' ∧ gE < w'.heap.size ∧ w1.heap.size < w'.heap.size))) es_kept hH (impl_KeyCmp _ _ _ _ _ _ _)).mono ?_
            rintro e w6 ⟨rfl, hS6⟩
            refine hK.out _ _ hS6 (fun hH6 => ?_)
            clear hK K hS6 hH
            refine wpAnyH_take (i := 7) (v := .bool false) nat7 (by kernel_rfl) (by kernel_rfl) (by kernel_rfl) (fun _ _ _ h => False.elim h) (Or.inl ⟨by rfl, ?_⟩) hH6 ?_
            · intro wx hSw
              obtain ⟨c0, c1, c2, b0, b1, b2, _⟩ := hSw
              go_simp
            simp only [Act.put, List.setIfInBounds_toArray, List.set_cons_zero, List.set_cons_succ]
            refine wpAnyH_take (i := 11) (v := .bool false) nat11 (by kernel_rfl) (by kernel_rfl) (by kernel_rfl) (fun _ _ _ h => False.elim h) (Or.inl ⟨by rfl, ?_⟩) hH6 ?_
            · intro wx hSw
              obtain ⟨c0, c1, c2, b0, b1, b2, _⟩ := hSw
              go_simp
            simp only [Act.put, List.setIfInBounds_toArray, List.set_cons_zero, List.set_cons_succ]
            refine wpAnyH_done (by kernel_rfl) ?_ _
            refine NoPanic.normal ?_
            have HW6 := hide hH6.2.2.2.2.2.2.out.1
            clear hH6 hc
            go_wp2
            exact ⟨⟨j + 1, by go_num, by omega, HW6⟩, by simp [intOf]; omega⟩
        · have hji : ¬ (j : Int) < (n : Int) := by omega
          have HBe := hide (HB4.out.trans (HW.out.mono HB4.out.size))
          have hn0i : (n0 : Int) ≤ (n : Int) := by omega
          clear HW
          go_wp2
          go_ret
          exact ⟨rfl, HBe.out⟩

end Go.Proofs.Ytkopoonkedcpmad
