/- What the laws on rows draw: a row of entries. -/
import Derived.Test.YtjcoejabpagaiaaEsOwn
import Derived.Test.YtjcoejabpagaiaaCmp
import Derived.Test.YtjcoejabpagaiaaNth
namespace Go.Proofs.Ytjcoejabpagaiaa
set_option maxRecDepth 100000
open Go.RowKit Go.Deep

theorem held_belowE {P : Program} {f : FuncId} {args : Array Value} {w2 : World} {v : Value} {S : World → Prop} (hk : ∀ a b, S a → Below a.heap.size a b → S b) (hS : S w2)
    (h : Calls P f args w2 fun e w' => e = .returned v ∧ Below w2.heap.size w2 w') : Calls P f args w2 fun e w' => e = .returned v ∧ S w' :=
  h.mono fun _ _ h => ⟨h.1, hk _ _ hS h.2⟩

theorem es_kept {W : World} {g F j : Nat} {a0 a1 a2 b0 b1 b2 : Value} (a b : World)
    (h : a.cell? ⟨g, j * 4, none⟩ = some a0 ∧ a.cell? ⟨g, j * 4 + 1, none⟩ = some a1 ∧ a.cell? ⟨g, j * 4 + 2, none⟩ = some a2 ∧ a.cell? ⟨F, 0, none⟩ = some b0 ∧ a.cell? ⟨F, 1, none⟩ = some b1 ∧ a.cell? ⟨F, 2, none⟩ = some b2 ∧ Hid (Below W.heap.size W a ∧ g < a.heap.size ∧ F < a.heap.size)) (hb : Below a.heap.size a b) :
    b.cell? ⟨g, j * 4, none⟩ = some a0 ∧ b.cell? ⟨g, j * 4 + 1, none⟩ = some a1 ∧ b.cell? ⟨g, j * 4 + 2, none⟩ = some a2 ∧ b.cell? ⟨F, 0, none⟩ = some b0 ∧ b.cell? ⟨F, 1, none⟩ = some b1 ∧ b.cell? ⟨F, 2, none⟩ = some b2 ∧ Hid (Below W.heap.size W b ∧ g < b.heap.size ∧ F < b.heap.size) := by
  obtain ⟨h0, h1, h2, h3, h4, h5, ⟨h6, h7, h8⟩⟩ := h
  have hs := hb.size
  exact ⟨(hb.cell (p := ⟨g, j * 4, none⟩) h7).trans h0, (hb.cell (p := ⟨g, j * 4 + 1, none⟩) h7).trans h1, (hb.cell (p := ⟨g, j * 4 + 2, none⟩) h7).trans h2, (hb.cell (p := ⟨F, 0, none⟩) h8).trans h3, (hb.cell (p := ⟨F, 1, none⟩) h8).trans h4, (hb.cell (p := ⟨F, 2, none⟩) h8).trans h5, h6.trans (hb.mono h6.size), by omega, by omega⟩

def EBox (w : World) (F : Nat) (u : ByteArray) (q k : Int) (x : ByteArray) : Prop := w.heap[F]? = some (.cells #[.string u, .int .i64 q, .int .i64 k, .string x] 43)
theorem EBox.below {w w' : World} {F : Nat} {u x : ByteArray} {q k : Int} (h : EBox w F u q k x) (hb : Below w.heap.size w w') : EBox w' F u q k x := (hb.block F (Array.getElem?_eq_some_iff.1 h).1).trans h
theorem EBox.cells {w : World} {F : Nat} {u x : ByteArray} {q k : Int} (h : EBox w F u q k x) : w.cell? ⟨F, 0, none⟩ = some (.string u) ∧ w.cell? ⟨F, 1, none⟩ = some (.int .i64 q) ∧ w.cell? ⟨F, 2, none⟩ = some (.int .i64 k) ∧ w.cell? ⟨F, 3, none⟩ = some (.string x) :=
  ⟨cell_of_row _ _ _ _ _ _ h, cell_of_row _ _ _ _ _ _ h, cell_of_row _ _ _ _ _ _ h, cell_of_row _ _ _ _ _ _ h⟩

set_option maxHeartbeats 4000000 in
set_option maxRecDepth 100000 in
/-- A few drawn entries. -/
theorem rd_entries (W w : World) (g : Nat) (a : Option Addr) (len cap : Nat) (m : Int) (hm0 : 0 ≤ m) (hm1 : m ≤ 100) (hc : IsCode W a len) (hl : len ≤ 1048576) (h : Rd W w g a len cap) :
    Calls Try.prog 27 #[.pointer (some ⟨g, 0, none⟩), .int .i64 m] w fun e w' => ∃ gE capE es, e = .returned (.slice (some ⟨gE, 0, none⟩) es.length capE) ∧ (es.length : Int) ≤ m + 1 ∧ (∀ e ∈ es, e.u.size ≤ 45 ∧ e.x.size ≤ 5) ∧ OwnE w' w.heap.size gE capE es ∧ Rd W w' g a len cap ∧ Mv g w w' := by
  have hg := h.lt
  go_enter Try.func27, Try.ntmps27
  go_wp2_with fail
  refine (rd_below W _ g a len cap (m + 1) (by omega) (by omega) hc hl (h.keep ((Below.refl _ _).alloc (Nat.le_refl _) _) h.lt)).mono ?_
  rintro e w1 ⟨x, rfl, hx0, hx1, hr, hmv⟩
  have HO1 := hide ((OwnE.lit w w.heap.size (Nat.le_refl _)).mv hmv hg)
  have HR1 := hide hr
  have HM1 := hide (mv_alloc hmv)
  clear hr hmv h
  go_wp2
  go_loopw [5, 6] (fun v i wr => ∃ (k n : Nat) (es : List En) (gE capE : Nat), v = .slice (some ⟨gE, 0, none⟩) n capE ∧ i = .int .i64 k ∧ es.length = n ∧ n + k ≤ m.toNat ∧ Hid (∀ e ∈ es, e.u.size ≤ 45 ∧ e.x.size ≤ 5) ∧ Hid (OwnE wr w.heap.size gE capE es) ∧ Hid (Rd W wr g a len cap) ∧ Hid (Mv g w wr))
    (fun _ i _ => (intOf i).toNat)
  case atStart =>
    obtain ⟨k, rfl⟩ := Int.eq_ofNat_of_zero_le hx0
    exact ⟨k, 0, [], _, _, rfl, rfl, rfl, by omega, fun _ h => by simp at h, HO1, HR1, HM1⟩
  case round =>
    obtain ⟨k, n, es, gE, capE, rfl, rfl, hn, hk, HX, HO, HR, HM⟩ := hrel
    clear HR1 HM1 HO1
    by_cases hlt : (0 : Int) < (k : Int)
    · obtain ⟨k1, rfl⟩ : ∃ k1, k = k1 + 1 := ⟨k - 1, by omega⟩
      go_wp2_with fail
      refine (rd_entry W _ g a len cap hc hl HR.out).mono ?_
      rintro e w2 ⟨u, q, kk, x, rfl, hu, hx, hr2, hm2⟩
      have HO2 := hide (HO.out.mv hm2 hg)
      have HR2 := hide hr2
      have HM2 := hide (HM.out.trans hm2)
      have hw2 : w.heap.size ≤ w2.heap.size := HM2.out.size
      clear hr2 hm2 HR HM HO
      have hnm : n ≤ 100 := by omega
      cases hok : entryOkB u q kk x with
      | false =>
        have ce := fun wx => hok ▸ spec_EntryOk u q kk x wx
        clear hok
        go_wp2_with fail
        refine (ce _).mono ?_
        rintro e w4 ⟨rfl, hb4⟩
        have hb4' := ((Below.refl w2.heap.size w2).alloc (Nat.le_refl _) (.cells #[.string u, .int .i64 q, .int .i64 kk, .string x] 43)).trans (hb4.mono (by simp))
        have HO4 := hide (HO2.out.below hb4' HO2.out.lt.2)
        have HR4 := hide (HR2.out.keep hb4' (by omega))
        have HM4 := hide (mv_below HM2.out (hb4'.mono hw2))
        clear hb4 hb4' ce HO2 HR2 HM2
        go_wp2
        exact ⟨⟨k1, n, es, gE, capE, rfl, by go_num, hn, by omega, HX, HO4, HR4, HM4⟩, by simp [intOf]⟩
      | true =>
        have ce := fun wx => hok ▸ spec_EntryOk u q kk x wx
        clear hok
        go_wp2_with fail
        refine (ce _).mono ?_
        rintro e w4 ⟨rfl, hb4⟩
        have hb4' := ((Below.refl w2.heap.size w2).alloc (Nat.le_refl _) (.cells #[.string u, .int .i64 q, .int .i64 kk, .string x] 43)).trans (hb4.mono (by simp))
        have HO4 := hide (HO2.out.below hb4' HO2.out.lt.2)
        have HR4 := hide (HR2.out.keep hb4' (by omega))
        have HM4 := hide (mv_below HM2.out (hb4'.mono hw2))
        have HE4 := hide (EBox.below (show EBox (w2.alloc (.cells #[.string u, .int .i64 q, .int .i64 kk, .string x] 43)) w2.heap.size u q kk x from heap_alloc_new w2 _) hb4)
        have HS4 : Hid (w.heap.size ≤ w4.heap.size) := Nat.le_trans hw2 hb4'.size
        have hcapn : n ≤ capE := by have := HO4.out.cap.1; omega
        clear hb4 hb4' ce HO2 HR2 HM2
        go_wp2
        go_loopw [8] (fun i wr => ∃ j : Nat, i = .int .i64 j ∧ j ≤ n ∧ Hid (Below w4.heap.size w4 wr)) (fun i _ => n - (intOf i).toNat)
        case atStart => exact ⟨0, rfl, by omega, Below.refl _ _⟩
        case round =>
          obtain ⟨j, rfl, hj, HW⟩ := hrel
          by_cases hjn : j < n
          · obtain ⟨ej, hej⟩ : ∃ ej, es[j]? = some ej := ⟨_, List.getElem?_eq_getElem (by omega)⟩
            obtain ⟨d0, d1, d2, d3⟩ := cellsE_get es j ej hej
            have hgE := HO4.out.lt
            have hFl := (Array.getElem?_eq_some_iff.1 HE4.out).1
            obtain ⟨e0, e1, e2, e3⟩ := (HE4.out.below HW.out).cells
            have hOw := HO4.out.below HW.out hgE.2
            have hwz := HW.out.size
            have hstart : ((fun (w' : World) => w'.cell? ⟨gE, j * 4, none⟩ = some (.string ej.u) ∧ w'.cell? ⟨gE, j * 4 + 1, none⟩ = some (.int .i64 ej.q) ∧ w'.cell? ⟨gE, j * 4 + 2, none⟩ = some (.int .i64 ej.k) ∧ w'.cell? ⟨w2.heap.size, 0, none⟩ = some (.string u) ∧ w'.cell? ⟨w2.heap.size, 1, none⟩ = some (.int .i64 q) ∧ w'.cell? ⟨w2.heap.size, 2, none⟩ = some (.int .i64 kk) ∧ Hid (Below w4.heap.size w4 w' ∧ gE < w'.heap.size ∧ w2.heap.size < w'.heap.size))) wr.drew := ⟨hOw.cell d0, hOw.cell d1, hOw.cell d2, e0, e1, e2, HW.out.drew, by show gE < wr.heap.size; omega, by show w2.heap.size < wr.heap.size; omega⟩
            have hji : (j : Int) < (n : Int) := by omega
            clear d0 d1 d2 d3 e0 e1 e2 e3 hOw hwz hFl hgE hej
            go_wp2_with fail
            refine wp_region_noPanic ?_
            refine wp_region_held_drew (S := (fun (w' : World) => w'.cell? ⟨gE, j * 4, none⟩ = some (.string ej.u) ∧ w'.cell? ⟨gE, j * 4 + 1, none⟩ = some (.int .i64 ej.q) ∧ w'.cell? ⟨gE, j * 4 + 2, none⟩ = some (.int .i64 ej.k) ∧ w'.cell? ⟨w2.heap.size, 0, none⟩ = some (.string u) ∧ w'.cell? ⟨w2.heap.size, 1, none⟩ = some (.int .i64 q) ∧ w'.cell? ⟨w2.heap.size, 2, none⟩ = some (.int .i64 kk) ∧ Hid (Below w4.heap.size w4 w' ∧ gE < w'.heap.size ∧ w2.heap.size < w'.heap.size))) (by kernel_rfl) hstart (fun hH => ?_)
            clear hstart
            refine wpAnyH_take (i := 0) (v := .int .i64 j) nat0 (by kernel_rfl) (by kernel_rfl) (by kernel_rfl) (fun _ _ _ h => False.elim h) (Or.inl ⟨by rfl, ?_⟩) hH ?_
            · intro wx hSw
              obtain ⟨c0, c1, c2, b0, b1, b2, _⟩ := hSw
              go_simp
            simp only [Act.put, List.setIfInBounds_toArray, List.set_cons_zero, List.set_cons_succ]
            refine wpAnyH_take (i := 1) (v := .slice (some ⟨gE, 0, none⟩) n capE) nat1 (by kernel_rfl) (by kernel_rfl) (by kernel_rfl) (fun _ _ _ h => False.elim h) (Or.inl ⟨by rfl, ?_⟩) hH ?_
            · intro wx hSw
              obtain ⟨c0, c1, c2, b0, b1, b2, _⟩ := hSw
              go_simp
            simp only [Act.put, List.setIfInBounds_toArray, List.set_cons_zero, List.set_cons_succ]
            refine wpAnyH_take (i := 2) (v := .int .i64 n) nat2 (by kernel_rfl) (by kernel_rfl) (by kernel_rfl) (fun _ _ _ h => False.elim h) (Or.inl ⟨by rfl, ?_⟩) hH ?_
            · intro wx hSw
              obtain ⟨c0, c1, c2, b0, b1, b2, _⟩ := hSw
              go_simp
            simp only [Act.put, List.setIfInBounds_toArray, List.set_cons_zero, List.set_cons_succ]
            refine wpAnyH_take (i := 3) (v := .bool true) nat3 (by kernel_rfl) (by kernel_rfl) (by kernel_rfl) (fun _ _ _ h => False.elim h) (Or.inl ⟨by rfl, ?_⟩) hH ?_
            · intro wx hSw
              obtain ⟨c0, c1, c2, b0, b1, b2, _⟩ := hSw
              go_simp
            simp only [Act.put, List.setIfInBounds_toArray, List.set_cons_zero, List.set_cons_succ]
            refine wpAnyH_take (i := 4) (v := .bool true) nat4 (by kernel_rfl) (by kernel_rfl) (by kernel_rfl) (fun _ _ _ h => False.elim h) (Or.inl ⟨by rfl, ?_⟩) hH ?_
            · intro wx hSw
              obtain ⟨c0, c1, c2, b0, b1, b2, _⟩ := hSw
              go_simp
            simp only [Act.put, List.setIfInBounds_toArray, List.set_cons_zero, List.set_cons_succ]
            refine wpAnyH_take (i := 5) (v := .slice (some ⟨gE, 0, none⟩) n capE) nat5 (by kernel_rfl) (by kernel_rfl) (by kernel_rfl) (fun _ _ _ h => False.elim h) (Or.inl ⟨by rfl, ?_⟩) hH ?_
            · intro wx hSw
              obtain ⟨c0, c1, c2, b0, b1, b2, _⟩ := hSw
              go_simp
            simp only [Act.put, List.setIfInBounds_toArray, List.set_cons_zero, List.set_cons_succ]
            refine wpAnyH_take (i := 6) (v := .int .i64 j) nat6 (by kernel_rfl) (by kernel_rfl) (by kernel_rfl) (fun _ _ _ h => False.elim h) (Or.inl ⟨by rfl, ?_⟩) hH ?_
            · intro wx hSw
              obtain ⟨c0, c1, c2, b0, b1, b2, _⟩ := hSw
              go_simp
            simp only [Act.put, List.setIfInBounds_toArray, List.set_cons_zero, List.set_cons_succ]
            refine wpAnyH_take (i := 7) (v := .pointer (some ⟨gE, j * 4, none⟩)) nat7 (by kernel_rfl) (by kernel_rfl) (by kernel_rfl) (fun _ _ _ h => False.elim h) (Or.inl ⟨by rfl, ?_⟩) hH ?_
            · intro wx hSw
              obtain ⟨c0, c1, c2, b0, b1, b2, _⟩ := hSw
              go_simp
            simp only [Act.put, List.setIfInBounds_toArray, List.set_cons_zero, List.set_cons_succ]
            refine wpAnyH_take (i := 8) (v := .pointer (some ⟨gE, j * 4, none⟩)) nat8 (by kernel_rfl) (by kernel_rfl) (by kernel_rfl) (fun _ _ _ h => False.elim h) (Or.inl ⟨by rfl, ?_⟩) hH ?_
            · intro wx hSw
              obtain ⟨c0, c1, c2, b0, b1, b2, _⟩ := hSw
              go_simp
            simp only [Act.put, List.setIfInBounds_toArray, List.set_cons_zero, List.set_cons_succ]
            refine wpAnyH_take (i := 9) (v := .agg #[.string ej.u, .int .i64 ej.q, .int .i64 ej.k]) nat9 (by kernel_rfl) (by kernel_rfl) (by kernel_rfl) (fun _ _ _ h => False.elim h) (Or.inl ⟨by rfl, ?_⟩) hH ?_
            · intro wx hSw
              obtain ⟨c0, c1, c2, b0, b1, b2, _⟩ := hSw
              go_simp
            simp only [Act.put, List.setIfInBounds_toArray, List.set_cons_zero, List.set_cons_succ]
            refine wpAnyH_take (i := 10) (v := .pointer (some ⟨w2.heap.size, 0, none⟩)) nat10 (by kernel_rfl) (by kernel_rfl) (by kernel_rfl) (fun _ _ _ h => False.elim h) (Or.inl ⟨by rfl, ?_⟩) hH ?_
            · intro wx hSw
              obtain ⟨c0, c1, c2, b0, b1, b2, _⟩ := hSw
              go_simp
            simp only [Act.put, List.setIfInBounds_toArray, List.set_cons_zero, List.set_cons_succ]
            refine wpAnyH_take (i := 11) (v := .agg #[.string u, .int .i64 q, .int .i64 kk]) nat11 (by kernel_rfl) (by kernel_rfl) (by kernel_rfl) (fun _ _ _ h => False.elim h) (Or.inl ⟨by rfl, ?_⟩) hH ?_
            · intro wx hSw
              obtain ⟨c0, c1, c2, b0, b1, b2, _⟩ := hSw
              go_simp
            simp only [Act.put, List.setIfInBounds_toArray, List.set_cons_zero, List.set_cons_succ]
            refine wpAnyH_ready (rs := [12]) (by kernel_rfl) (by simp) ?_
            refine AllReadyH.cons nat12 (fun K hK => ?_) AllReadyH.nil
            go_simp
            go_at_call 30
            refine (held_belowE (S := (fun (w' : World) => w'.cell? ⟨gE, j * 4, none⟩ = some (.string ej.u) ∧ w'.cell? ⟨gE, j * 4 + 1, none⟩ = some (.int .i64 ej.q) ∧ w'.cell? ⟨gE, j * 4 + 2, none⟩ = some (.int .i64 ej.k) ∧ w'.cell? ⟨w2.heap.size, 0, none⟩ = some (.string u) ∧ w'.cell? ⟨w2.heap.size, 1, none⟩ = some (.int .i64 q) ∧ w'.cell? ⟨w2.heap.size, 2, none⟩ = some (.int .i64 kk) ∧ Hid (Below w4.heap.size w4 w' ∧ gE < w'.heap.size ∧ w2.heap.size < w'.heap.size))) es_kept hH (spec_KeyCmp _ _ _ _ _ _ _)).mono ?_
            rintro e w6 ⟨rfl, hS6⟩
            refine hK.out _ _ hS6 (fun hH6 => ?_)
            clear hK K hS6 hH
            refine wpAnyH_take (i := 13) (v := .bool (decide (keyCmpI ej.u ej.q ej.k u q kk < 0))) nat13 (by kernel_rfl) (by kernel_rfl) (by kernel_rfl) (fun _ _ _ h => False.elim h) (Or.inl ⟨by rfl, ?_⟩) hH6 ?_
            · intro wx hSw
              obtain ⟨c0, c1, c2, b0, b1, b2, _⟩ := hSw
              go_simp
            simp only [Act.put, List.setIfInBounds_toArray, List.set_cons_zero, List.set_cons_succ]
            refine wpAnyH_take (i := 14) (v := .bool (decide (keyCmpI ej.u ej.q ej.k u q kk < 0))) nat14 (by kernel_rfl) (by kernel_rfl) (by kernel_rfl) (fun _ _ _ h => False.elim h) (Or.inl ⟨by rfl, ?_⟩) hH6 ?_
            · intro wx hSw
              obtain ⟨c0, c1, c2, b0, b1, b2, _⟩ := hSw
              go_simp
            simp only [Act.put, List.setIfInBounds_toArray, List.set_cons_zero, List.set_cons_succ]
            refine wpAnyH_done (by kernel_rfl) ?_ _
            refine NoPanic.normal ?_
            obtain ⟨c0, c1, c2, b0, b1, b2, HX6⟩ := hH6

            by_cases hz : keyCmpI ej.u ej.q ej.k u q kk < 0
            · have hzd : decide (keyCmpI ej.u ej.q ej.k u q kk < 0) = true := decide_eq_true hz
              have HW6 := hide HX6.out.1
              clear c0 c1 c2 b0 b1 b2 HX6 HW
              go_wp2
              exact ⟨⟨j + 1, by go_num, by omega, HW6⟩, by simp [intOf]; omega⟩
            · have hzd : decide (keyCmpI ej.u ej.q ej.k u q kk < 0) = false := decide_eq_false hz
              have HW6 := hide HX6.out.1
              have hd : decide ((j : Int) < (n : Int)) = true := by simp [hjn]
              clear HW
              have hstart : ((fun (w' : World) => w'.cell? ⟨gE, j * 4, none⟩ = some (.string ej.u) ∧ w'.cell? ⟨gE, j * 4 + 1, none⟩ = some (.int .i64 ej.q) ∧ w'.cell? ⟨gE, j * 4 + 2, none⟩ = some (.int .i64 ej.k) ∧ w'.cell? ⟨w2.heap.size, 0, none⟩ = some (.string u) ∧ w'.cell? ⟨w2.heap.size, 1, none⟩ = some (.int .i64 q) ∧ w'.cell? ⟨w2.heap.size, 2, none⟩ = some (.int .i64 kk) ∧ Hid (Below w4.heap.size w4 w' ∧ gE < w'.heap.size ∧ w2.heap.size < w'.heap.size))) w6.drew := ⟨c0, c1, c2, b0, b1, b2, HX6.out.1.drew, HX6.out.2.1, HX6.out.2.2⟩
              clear c0 c1 c2 b0 b1 b2 HX6
              by_cases hq : ej.u.toList = u.toList ∧ ej.q = q ∧ ej.k = kk
              · have HQ := hide hq
                clear hq
                go_wp2_with fail
                refine wp_region_noPanic ?_
                refine wp_region_held_drew (S := (fun (w' : World) => w'.cell? ⟨gE, j * 4, none⟩ = some (.string ej.u) ∧ w'.cell? ⟨gE, j * 4 + 1, none⟩ = some (.int .i64 ej.q) ∧ w'.cell? ⟨gE, j * 4 + 2, none⟩ = some (.int .i64 ej.k) ∧ w'.cell? ⟨w2.heap.size, 0, none⟩ = some (.string u) ∧ w'.cell? ⟨w2.heap.size, 1, none⟩ = some (.int .i64 q) ∧ w'.cell? ⟨w2.heap.size, 2, none⟩ = some (.int .i64 kk) ∧ Hid (Below w4.heap.size w4 w' ∧ gE < w'.heap.size ∧ w2.heap.size < w'.heap.size))) (by kernel_rfl) hstart (fun hH => ?_)
                clear hstart
                refine wpAnyH_take (i := 0) (v := .int .i64 j) nat0 (by kernel_rfl) (by kernel_rfl) (by kernel_rfl) (fun _ _ _ h => False.elim h) (Or.inl ⟨by rfl, ?_⟩) hH ?_
                · intro wx hSw
                  obtain ⟨c0, c1, c2, b0, b1, b2, _⟩ := hSw
                  go_simp
                simp only [Act.put, List.setIfInBounds_toArray, List.set_cons_zero, List.set_cons_succ]
                refine wpAnyH_take (i := 1) (v := .slice (some ⟨gE, 0, none⟩) n capE) nat1 (by kernel_rfl) (by kernel_rfl) (by kernel_rfl) (fun _ _ _ h => False.elim h) (Or.inl ⟨by rfl, ?_⟩) hH ?_
                · intro wx hSw
                  obtain ⟨c0, c1, c2, b0, b1, b2, _⟩ := hSw
                  go_simp
                simp only [Act.put, List.setIfInBounds_toArray, List.set_cons_zero, List.set_cons_succ]
                refine wpAnyH_take (i := 2) (v := .int .i64 n) nat2 (by kernel_rfl) (by kernel_rfl) (by kernel_rfl) (fun _ _ _ h => False.elim h) (Or.inl ⟨by rfl, ?_⟩) hH ?_
                · intro wx hSw
                  obtain ⟨c0, c1, c2, b0, b1, b2, _⟩ := hSw
                  go_simp
                simp only [Act.put, List.setIfInBounds_toArray, List.set_cons_zero, List.set_cons_succ]
                refine wpAnyH_take (i := 3) (v := .bool true) nat3 (by kernel_rfl) (by kernel_rfl) (by kernel_rfl) (fun _ _ _ h => False.elim h) (Or.inl ⟨by rfl, ?_⟩) hH ?_
                · intro wx hSw
                  obtain ⟨c0, c1, c2, b0, b1, b2, _⟩ := hSw
                  go_simp
                simp only [Act.put, List.setIfInBounds_toArray, List.set_cons_zero, List.set_cons_succ]
                refine wpAnyH_take (i := 4) (v := .bool true) nat4 (by kernel_rfl) (by kernel_rfl) (by kernel_rfl) (fun _ _ _ h => False.elim h) (Or.inl ⟨by rfl, ?_⟩) hH ?_
                · intro wx hSw
                  obtain ⟨c0, c1, c2, b0, b1, b2, _⟩ := hSw
                  go_simp
                simp only [Act.put, List.setIfInBounds_toArray, List.set_cons_zero, List.set_cons_succ]
                refine wpAnyH_take (i := 5) (v := .slice (some ⟨gE, 0, none⟩) n capE) nat5 (by kernel_rfl) (by kernel_rfl) (by kernel_rfl) (fun _ _ _ h => False.elim h) (Or.inl ⟨by rfl, ?_⟩) hH ?_
                · intro wx hSw
                  obtain ⟨c0, c1, c2, b0, b1, b2, _⟩ := hSw
                  go_simp
                simp only [Act.put, List.setIfInBounds_toArray, List.set_cons_zero, List.set_cons_succ]
                refine wpAnyH_take (i := 6) (v := .int .i64 j) nat6 (by kernel_rfl) (by kernel_rfl) (by kernel_rfl) (fun _ _ _ h => False.elim h) (Or.inl ⟨by rfl, ?_⟩) hH ?_
                · intro wx hSw
                  obtain ⟨c0, c1, c2, b0, b1, b2, _⟩ := hSw
                  go_simp
                simp only [Act.put, List.setIfInBounds_toArray, List.set_cons_zero, List.set_cons_succ]
                refine wpAnyH_take (i := 7) (v := .pointer (some ⟨gE, j * 4, none⟩)) nat7 (by kernel_rfl) (by kernel_rfl) (by kernel_rfl) (fun _ _ _ h => False.elim h) (Or.inl ⟨by rfl, ?_⟩) hH ?_
                · intro wx hSw
                  obtain ⟨c0, c1, c2, b0, b1, b2, _⟩ := hSw
                  go_simp
                simp only [Act.put, List.setIfInBounds_toArray, List.set_cons_zero, List.set_cons_succ]
                refine wpAnyH_take (i := 8) (v := .pointer (some ⟨gE, j * 4, none⟩)) nat8 (by kernel_rfl) (by kernel_rfl) (by kernel_rfl) (fun _ _ _ h => False.elim h) (Or.inl ⟨by rfl, ?_⟩) hH ?_
                · intro wx hSw
                  obtain ⟨c0, c1, c2, b0, b1, b2, _⟩ := hSw
                  go_simp
                simp only [Act.put, List.setIfInBounds_toArray, List.set_cons_zero, List.set_cons_succ]
                refine wpAnyH_take (i := 9) (v := .agg #[.string ej.u, .int .i64 ej.q, .int .i64 ej.k]) nat9 (by kernel_rfl) (by kernel_rfl) (by kernel_rfl) (fun _ _ _ h => False.elim h) (Or.inl ⟨by rfl, ?_⟩) hH ?_
                · intro wx hSw
                  obtain ⟨c0, c1, c2, b0, b1, b2, _⟩ := hSw
                  go_simp
                simp only [Act.put, List.setIfInBounds_toArray, List.set_cons_zero, List.set_cons_succ]
                refine wpAnyH_take (i := 10) (v := .pointer (some ⟨w2.heap.size, 0, none⟩)) nat10 (by kernel_rfl) (by kernel_rfl) (by kernel_rfl) (fun _ _ _ h => False.elim h) (Or.inl ⟨by rfl, ?_⟩) hH ?_
                · intro wx hSw
                  obtain ⟨c0, c1, c2, b0, b1, b2, _⟩ := hSw
                  go_simp
                simp only [Act.put, List.setIfInBounds_toArray, List.set_cons_zero, List.set_cons_succ]
                refine wpAnyH_take (i := 11) (v := .agg #[.string u, .int .i64 q, .int .i64 kk]) nat11 (by kernel_rfl) (by kernel_rfl) (by kernel_rfl) (fun _ _ _ h => False.elim h) (Or.inl ⟨by rfl, ?_⟩) hH ?_
                · intro wx hSw
                  obtain ⟨c0, c1, c2, b0, b1, b2, _⟩ := hSw
                  go_simp
                simp only [Act.put, List.setIfInBounds_toArray, List.set_cons_zero, List.set_cons_succ]
                refine wpAnyH_take (i := 12) (v := .bool true) nat12 (by kernel_rfl) (by kernel_rfl) (by kernel_rfl) (fun _ _ _ h => False.elim h) (Or.inl ⟨by rfl, ?_⟩) hH ?_
                · intro wx hSw
                  clear hSw
                  obtain ⟨p1, p2, p3⟩ := HQ.out
                  go_simp
                simp only [Act.put, List.setIfInBounds_toArray, List.set_cons_zero, List.set_cons_succ]
                refine wpAnyH_take (i := 13) (v := .bool true) nat13 (by kernel_rfl) (by kernel_rfl) (by kernel_rfl) (fun _ _ _ h => False.elim h) (Or.inl ⟨by rfl, ?_⟩) hH ?_
                · intro wx hSw
                  clear hSw
                  go_simp
                simp only [Act.put, List.setIfInBounds_toArray, List.set_cons_zero, List.set_cons_succ]
                refine wpAnyH_done (by kernel_rfl) ?_ _
                refine NoPanic.normal ?_
                have HWZ := hide hH.2.2.2.2.2.2.out.1
                clear hH

                have HO5 := hide (HO4.out.below HWZ.out HO4.out.lt.2)
                have HR5 := hide (HR4.out.keep HWZ.out HR4.out.lt)
                have HM5 := hide (mv_below HM4.out (HWZ.out.mono HS4.out))
                clear HWZ HO4 HR4 HM4
                go_wp2
                exact ⟨⟨k1, n, es, gE, capE, rfl, by go_num, hn, by omega, HX, HO5, HR5, HM5⟩, by simp [intOf]⟩
              · have HQ := hide hq
                clear hq
                go_wp2_with fail
                refine wp_region_noPanic ?_
                refine wp_region_held_drew (S := (fun (w' : World) => w'.cell? ⟨gE, j * 4, none⟩ = some (.string ej.u) ∧ w'.cell? ⟨gE, j * 4 + 1, none⟩ = some (.int .i64 ej.q) ∧ w'.cell? ⟨gE, j * 4 + 2, none⟩ = some (.int .i64 ej.k) ∧ w'.cell? ⟨w2.heap.size, 0, none⟩ = some (.string u) ∧ w'.cell? ⟨w2.heap.size, 1, none⟩ = some (.int .i64 q) ∧ w'.cell? ⟨w2.heap.size, 2, none⟩ = some (.int .i64 kk) ∧ Hid (Below w4.heap.size w4 w' ∧ gE < w'.heap.size ∧ w2.heap.size < w'.heap.size))) (by kernel_rfl) hstart (fun hH => ?_)
                clear hstart
                refine wpAnyH_take (i := 0) (v := .int .i64 j) nat0 (by kernel_rfl) (by kernel_rfl) (by kernel_rfl) (fun _ _ _ h => False.elim h) (Or.inl ⟨by rfl, ?_⟩) hH ?_
                · intro wx hSw
                  obtain ⟨c0, c1, c2, b0, b1, b2, _⟩ := hSw
                  go_simp
                simp only [Act.put, List.setIfInBounds_toArray, List.set_cons_zero, List.set_cons_succ]
                refine wpAnyH_take (i := 1) (v := .slice (some ⟨gE, 0, none⟩) n capE) nat1 (by kernel_rfl) (by kernel_rfl) (by kernel_rfl) (fun _ _ _ h => False.elim h) (Or.inl ⟨by rfl, ?_⟩) hH ?_
                · intro wx hSw
                  obtain ⟨c0, c1, c2, b0, b1, b2, _⟩ := hSw
                  go_simp
                simp only [Act.put, List.setIfInBounds_toArray, List.set_cons_zero, List.set_cons_succ]
                refine wpAnyH_take (i := 2) (v := .int .i64 n) nat2 (by kernel_rfl) (by kernel_rfl) (by kernel_rfl) (fun _ _ _ h => False.elim h) (Or.inl ⟨by rfl, ?_⟩) hH ?_
                · intro wx hSw
                  obtain ⟨c0, c1, c2, b0, b1, b2, _⟩ := hSw
                  go_simp
                simp only [Act.put, List.setIfInBounds_toArray, List.set_cons_zero, List.set_cons_succ]
                refine wpAnyH_take (i := 3) (v := .bool true) nat3 (by kernel_rfl) (by kernel_rfl) (by kernel_rfl) (fun _ _ _ h => False.elim h) (Or.inl ⟨by rfl, ?_⟩) hH ?_
                · intro wx hSw
                  obtain ⟨c0, c1, c2, b0, b1, b2, _⟩ := hSw
                  go_simp
                simp only [Act.put, List.setIfInBounds_toArray, List.set_cons_zero, List.set_cons_succ]
                refine wpAnyH_take (i := 4) (v := .bool true) nat4 (by kernel_rfl) (by kernel_rfl) (by kernel_rfl) (fun _ _ _ h => False.elim h) (Or.inl ⟨by rfl, ?_⟩) hH ?_
                · intro wx hSw
                  obtain ⟨c0, c1, c2, b0, b1, b2, _⟩ := hSw
                  go_simp
                simp only [Act.put, List.setIfInBounds_toArray, List.set_cons_zero, List.set_cons_succ]
                refine wpAnyH_take (i := 5) (v := .slice (some ⟨gE, 0, none⟩) n capE) nat5 (by kernel_rfl) (by kernel_rfl) (by kernel_rfl) (fun _ _ _ h => False.elim h) (Or.inl ⟨by rfl, ?_⟩) hH ?_
                · intro wx hSw
                  obtain ⟨c0, c1, c2, b0, b1, b2, _⟩ := hSw
                  go_simp
                simp only [Act.put, List.setIfInBounds_toArray, List.set_cons_zero, List.set_cons_succ]
                refine wpAnyH_take (i := 6) (v := .int .i64 j) nat6 (by kernel_rfl) (by kernel_rfl) (by kernel_rfl) (fun _ _ _ h => False.elim h) (Or.inl ⟨by rfl, ?_⟩) hH ?_
                · intro wx hSw
                  obtain ⟨c0, c1, c2, b0, b1, b2, _⟩ := hSw
                  go_simp
                simp only [Act.put, List.setIfInBounds_toArray, List.set_cons_zero, List.set_cons_succ]
                refine wpAnyH_take (i := 7) (v := .pointer (some ⟨gE, j * 4, none⟩)) nat7 (by kernel_rfl) (by kernel_rfl) (by kernel_rfl) (fun _ _ _ h => False.elim h) (Or.inl ⟨by rfl, ?_⟩) hH ?_
                · intro wx hSw
                  obtain ⟨c0, c1, c2, b0, b1, b2, _⟩ := hSw
                  go_simp
                simp only [Act.put, List.setIfInBounds_toArray, List.set_cons_zero, List.set_cons_succ]
                refine wpAnyH_take (i := 8) (v := .pointer (some ⟨gE, j * 4, none⟩)) nat8 (by kernel_rfl) (by kernel_rfl) (by kernel_rfl) (fun _ _ _ h => False.elim h) (Or.inl ⟨by rfl, ?_⟩) hH ?_
                · intro wx hSw
                  obtain ⟨c0, c1, c2, b0, b1, b2, _⟩ := hSw
                  go_simp
                simp only [Act.put, List.setIfInBounds_toArray, List.set_cons_zero, List.set_cons_succ]
                refine wpAnyH_take (i := 9) (v := .agg #[.string ej.u, .int .i64 ej.q, .int .i64 ej.k]) nat9 (by kernel_rfl) (by kernel_rfl) (by kernel_rfl) (fun _ _ _ h => False.elim h) (Or.inl ⟨by rfl, ?_⟩) hH ?_
                · intro wx hSw
                  obtain ⟨c0, c1, c2, b0, b1, b2, _⟩ := hSw
                  go_simp
                simp only [Act.put, List.setIfInBounds_toArray, List.set_cons_zero, List.set_cons_succ]
                refine wpAnyH_take (i := 10) (v := .pointer (some ⟨w2.heap.size, 0, none⟩)) nat10 (by kernel_rfl) (by kernel_rfl) (by kernel_rfl) (fun _ _ _ h => False.elim h) (Or.inl ⟨by rfl, ?_⟩) hH ?_
                · intro wx hSw
                  obtain ⟨c0, c1, c2, b0, b1, b2, _⟩ := hSw
                  go_simp
                simp only [Act.put, List.setIfInBounds_toArray, List.set_cons_zero, List.set_cons_succ]
                refine wpAnyH_take (i := 11) (v := .agg #[.string u, .int .i64 q, .int .i64 kk]) nat11 (by kernel_rfl) (by kernel_rfl) (by kernel_rfl) (fun _ _ _ h => False.elim h) (Or.inl ⟨by rfl, ?_⟩) hH ?_
                · intro wx hSw
                  obtain ⟨c0, c1, c2, b0, b1, b2, _⟩ := hSw
                  go_simp
                simp only [Act.put, List.setIfInBounds_toArray, List.set_cons_zero, List.set_cons_succ]
                refine wpAnyH_take (i := 12) (v := .bool false) nat12 (by kernel_rfl) (by kernel_rfl) (by kernel_rfl) (fun _ _ _ h => False.elim h) (Or.inl ⟨by rfl, ?_⟩) hH ?_
                · intro wx hSw
                  clear hSw
                  go_simp
                  exact fun e1 e2 e3 => HQ.out ⟨e1, e2, e3⟩
                simp only [Act.put, List.setIfInBounds_toArray, List.set_cons_zero, List.set_cons_succ]
                refine wpAnyH_take (i := 13) (v := .bool false) nat13 (by kernel_rfl) (by kernel_rfl) (by kernel_rfl) (fun _ _ _ h => False.elim h) (Or.inl ⟨by rfl, ?_⟩) hH ?_
                · intro wx hSw
                  clear hSw
                  go_simp
                simp only [Act.put, List.setIfInBounds_toArray, List.set_cons_zero, List.set_cons_succ]
                refine wpAnyH_done (by kernel_rfl) ?_ _
                refine NoPanic.normal ?_
                have HWZ := hide hH.2.2.2.2.2.2.out.1
                clear hH

                generalize w6.drew = WZ at HWZ ⊢
                clear hz hzd hd hji hjn

                have hz5 := HWZ.out.size
                have HO5 := hide (HO4.out.below HWZ.out HO4.out.lt.2)
                have HE5 := hide (HE4.out.below HWZ.out)
                have HR5 := hide (HR4.out.keep HWZ.out HR4.out.lt)
                have HM5 := hide (mv_below HM4.out (HWZ.out.mono HS4.out))
                have HS5 : Hid (w.heap.size ≤ WZ.heap.size) := by have := HS4.out; show _ ≤ _; omega
                have HP5 : Hid (gE < WZ.heap.size) := HO5.out.lt.2
                have HR5L : Hid (g < WZ.heap.size) := HR5.out.lt
                have hO6 := OwnE.lit WZ WZ.heap.size (Nat.le_refl _)
                have hb6 := (Below.refl WZ.heap.size WZ).alloc (Nat.le_refl _) (.cells #[] 43)
                have hsrc := (HO5.out.below hb6 HO5.out.lt.2).srcTake j
                clear HWZ HO4 HE4 HR4 HM4 HS4 hz5
                go_wp2_with (first
                  | (at_builtin; refine wpList_append_es rfl _ _ 26 rfl Try.underlying26 WZ.heap.size WZ.heap.size 0 [] (es.take j) (by rfl) hO6 ⟨gE, 0, none⟩ j capE (by rfl) ?c1 hsrc ?c2 ?c3 ?_))
                case c1 => rw [List.length_take]; omega
                case c2 => simp
                case c3 => simp; omega
                intro g1 cap1 w8 hO8 hb8
                try simp only [List.length_nil, Nat.zero_add, List.nil_append] at hO8
                try simp only [List.length_nil, Nat.zero_add, List.nil_append]
                have hb8' := hb6.trans hb8
                have HO8 := hide hO8
                have HP8 := hide (HO5.out.below hb8' HO5.out.lt.2)
                have HE8 := hide (HE5.out.below hb8')
                have HR8 := hide (HR5.out.keep hb8' HR5.out.lt)
                have HM8 := hide (mv_below HM5.out (hb8'.mono HS5.out))
                have hz8 : WZ.heap.size ≤ w8.heap.size := hb8'.size
                obtain ⟨c0, c1, c2, c3⟩ := HE8.out.cells
                clear hO6 hsrc hO8 hb6 hb8 hb8' HO5 HE5 HR5 HM5
                have hb9 := (Below.refl w8.heap.size w8).alloc (Nat.le_refl _) (.cells #[.string u, .int .i64 q, .int .i64 kk, .string x] 43)
                have hlt8 := (Array.getElem?_eq_some_iff.1 HE8.out).1
                have hO9 := HO8.out.below hb9 HO8.out.lt.2
                have hlj : (es.take j).length = j := by rw [List.length_take]; omega
                have hsrc := srcOne w8 u q kk x
                go_wp2_with (first
                  | (at_builtin; refine wpList_append_es rfl _ _ 26 rfl Try.underlying26 WZ.heap.size g1 cap1 (es.take j) [⟨u, q, kk, x⟩] (by rw [hlj]; rfl) hO9 ⟨w8.heap.size, 0, none⟩ 1 1 (by rfl) rfl hsrc ?c2 ?c3 ?_))
                case c2 => simp; omega
                case c3 => rw [hlj]; omega
                intro g2 cap2 w10 hO10 hb10
                have hl10 : (es.take j ++ [(⟨u, q, kk, x⟩ : En)]).length = j + 1 := by rw [List.length_append, hlj]; rfl
                have hb10' := (hb9.mono hz8).trans hb10
                have HO10 := hide hO10
                have HP10 := hide ((HP8.out.below hb9 HP8.out.lt.2).block (hb10.block gE (by have := HP8.out.lt.2; have := HP5.out; omega)))
                have HR10 := hide (HR8.out.keep hb10' HR5L.out)
                have HM10 := hide (mv_below HM8.out (hb10'.mono HS5.out))
                have hz10 : WZ.heap.size ≤ w10.heap.size := Nat.le_trans hz8 hb10'.size
                clear hO9 hsrc hO10 hb9 hb10 hb10' HO8 HP8 HE8 HR8 HM8 c0 c1 c2 c3 hlt8 hlj hz8
                try simp only [hl10]
                have hjn1 : j + 1 + (n - j) = n + 1 := by omega
                have hl12 : (es.take j ++ [(⟨u, q, kk, x⟩ : En)] ++ es.drop j).length = n + 1 := by rw [List.length_append, hl10, List.length_drop, hn, hjn1]
                have hX12 : ∀ e ∈ es.take j ++ [(⟨u, q, kk, x⟩ : En)] ++ es.drop j, e.u.size ≤ 45 ∧ e.x.size ≤ 5 := fun e he => by
                  rcases List.mem_append.1 he with h | h
                  · rcases List.mem_append.1 h with h | h
                    · exact HX.out e (List.mem_of_mem_take h)
                    · have e2 := List.mem_singleton.1 h
                      subst e2
                      exact ⟨hu, hx⟩
                  · exact HX.out e (List.mem_of_mem_drop h)
                have eL : es.take j ++ [(⟨u, q, kk, x⟩ : En)] ++ es.drop j = es.take j ++ (⟨u, q, kk, x⟩ : En) :: es.drop j := by simp
                rw [eL] at hl12 hX12
                have HX12 := hide hX12
                clear hX12 eL
                by_cases hcj : capE = j
                · go_wp2_with (at_builtin; refine wpList_append_es rfl _ _ 26 rfl Try.underlying26 WZ.heap.size g2 cap2 (es.take j ++ [⟨u, q, kk, x⟩]) (es.drop j) (by rw [hl10]; rfl) HO10.out ⟨gE, 0, none⟩ (n - j) 0 (by rfl) ?c1 (srcNone (by omega) _) hz10 ?c3 ?_)
                  case c1 => rw [List.length_drop]; omega
                  case c3 => rw [hl10]; omega
                  intro g3 cap3 w12 hO12 hb12
                  have HO12 := hide (hO12.mono HS5.out)
                  have HR12 := hide (HR10.out.keep hb12 HR5L.out)
                  have HM12 := hide (mv_below HM10.out (hb12.mono HS5.out))
                  clear hO12 hb12 HO10 HP10 HR10 HM10 hcj
                  go_wp2
                  exact ⟨⟨k1, n + 1, es.take j ++ ⟨u, q, kk, x⟩ :: es.drop j, g3, cap3, by first | rfl | (rw [hjn1]) | (rw [hl10, hjn1]), by go_num, hl12, by omega, HX12, HO12, HR12, HM12⟩, by simp [intOf]⟩
                · go_wp2_with (at_builtin; refine wpList_append_es rfl _ _ 26 rfl Try.underlying26 WZ.heap.size g2 cap2 (es.take j ++ [⟨u, q, kk, x⟩]) (es.drop j) (by rw [hl10]; rfl) HO10.out ⟨gE, j * 4, none⟩ (n - j) (capE - j) (by rfl) ?c1 (HP10.out.srcDrop j (by omega)) hz10 ?c3 ?_)
                  case c1 => rw [List.length_drop]; omega
                  case c3 => rw [hl10]; omega
                  intro g3 cap3 w12 hO12 hb12
                  have HO12 := hide (hO12.mono HS5.out)
                  have HR12 := hide (HR10.out.keep hb12 HR5L.out)
                  have HM12 := hide (mv_below HM10.out (hb12.mono HS5.out))
                  clear hO12 hb12 HO10 HP10 HR10 HM10 hcj
                  go_wp2
                  exact ⟨⟨k1, n + 1, es.take j ++ ⟨u, q, kk, x⟩ :: es.drop j, g3, cap3, by first | rfl | (rw [hjn1]) | (rw [hl10, hjn1]), by go_num, hl12, by omega, HX12, HO12, HR12, HM12⟩, by simp [intOf]⟩

          · have hd : decide ((j : Int) < (n : Int)) = false := by simp; omega
            have HD := fun (c d : Nat) => below_drewN (below_drewN HW.out c) d
            go_wp2
            go_quiet (fail)
            go_wp2
            go_quiet (fail)

            generalize hWQ : World.drewN _ _ = WZ
            have HWZ : Hid (Below w4.heap.size w4 WZ) := by rw [← hWQ]; exact HD _ _
            clear hd hjn HW HD hWQ

            have hz5 := HWZ.out.size
            have HO5 := hide (HO4.out.below HWZ.out HO4.out.lt.2)
            have HE5 := hide (HE4.out.below HWZ.out)
            have HR5 := hide (HR4.out.keep HWZ.out HR4.out.lt)
            have HM5 := hide (mv_below HM4.out (HWZ.out.mono HS4.out))
            have HS5 : Hid (w.heap.size ≤ WZ.heap.size) := by have := HS4.out; show _ ≤ _; omega
            have HP5 : Hid (gE < WZ.heap.size) := HO5.out.lt.2
            have HR5L : Hid (g < WZ.heap.size) := HR5.out.lt
            have hO6 := OwnE.lit WZ WZ.heap.size (Nat.le_refl _)
            have hb6 := (Below.refl WZ.heap.size WZ).alloc (Nat.le_refl _) (.cells #[] 43)
            have hsrc := (HO5.out.below hb6 HO5.out.lt.2).srcTake j
            clear HWZ HO4 HE4 HR4 HM4 HS4 hz5
            go_wp2_with (first
              | (at_builtin; refine wpList_append_es rfl _ _ 26 rfl Try.underlying26 WZ.heap.size WZ.heap.size 0 [] (es.take j) (by rfl) hO6 ⟨gE, 0, none⟩ j capE (by rfl) ?c1 hsrc ?c2 ?c3 ?_))
            case c1 => rw [List.length_take]; omega
            case c2 => simp
            case c3 => simp; omega
            intro g1 cap1 w8 hO8 hb8
            try simp only [List.length_nil, Nat.zero_add, List.nil_append] at hO8
            try simp only [List.length_nil, Nat.zero_add, List.nil_append]
            have hb8' := hb6.trans hb8
            have HO8 := hide hO8
            have HP8 := hide (HO5.out.below hb8' HO5.out.lt.2)
            have HE8 := hide (HE5.out.below hb8')
            have HR8 := hide (HR5.out.keep hb8' HR5.out.lt)
            have HM8 := hide (mv_below HM5.out (hb8'.mono HS5.out))
            have hz8 : WZ.heap.size ≤ w8.heap.size := hb8'.size
            obtain ⟨c0, c1, c2, c3⟩ := HE8.out.cells
            clear hO6 hsrc hO8 hb6 hb8 hb8' HO5 HE5 HR5 HM5
            have hb9 := (Below.refl w8.heap.size w8).alloc (Nat.le_refl _) (.cells #[.string u, .int .i64 q, .int .i64 kk, .string x] 43)
            have hlt8 := (Array.getElem?_eq_some_iff.1 HE8.out).1
            have hO9 := HO8.out.below hb9 HO8.out.lt.2
            have hlj : (es.take j).length = j := by rw [List.length_take]; omega
            have hsrc := srcOne w8 u q kk x
            go_wp2_with (first
              | (at_builtin; refine wpList_append_es rfl _ _ 26 rfl Try.underlying26 WZ.heap.size g1 cap1 (es.take j) [⟨u, q, kk, x⟩] (by rw [hlj]; rfl) hO9 ⟨w8.heap.size, 0, none⟩ 1 1 (by rfl) rfl hsrc ?c2 ?c3 ?_))
            case c2 => simp; omega
            case c3 => rw [hlj]; omega
            intro g2 cap2 w10 hO10 hb10
            have hl10 : (es.take j ++ [(⟨u, q, kk, x⟩ : En)]).length = j + 1 := by rw [List.length_append, hlj]; rfl
            have hb10' := (hb9.mono hz8).trans hb10
            have HO10 := hide hO10
            have HP10 := hide ((HP8.out.below hb9 HP8.out.lt.2).block (hb10.block gE (by have := HP8.out.lt.2; have := HP5.out; omega)))
            have HR10 := hide (HR8.out.keep hb10' HR5L.out)
            have HM10 := hide (mv_below HM8.out (hb10'.mono HS5.out))
            have hz10 : WZ.heap.size ≤ w10.heap.size := Nat.le_trans hz8 hb10'.size
            clear hO9 hsrc hO10 hb9 hb10 hb10' HO8 HP8 HE8 HR8 HM8 c0 c1 c2 c3 hlt8 hlj hz8
            try simp only [hl10]
            have hjn1 : j + 1 + (n - j) = n + 1 := by omega
            have hl12 : (es.take j ++ [(⟨u, q, kk, x⟩ : En)] ++ es.drop j).length = n + 1 := by rw [List.length_append, hl10, List.length_drop, hn, hjn1]
            have hX12 : ∀ e ∈ es.take j ++ [(⟨u, q, kk, x⟩ : En)] ++ es.drop j, e.u.size ≤ 45 ∧ e.x.size ≤ 5 := fun e he => by
              rcases List.mem_append.1 he with h | h
              · rcases List.mem_append.1 h with h | h
                · exact HX.out e (List.mem_of_mem_take h)
                · have e2 := List.mem_singleton.1 h
                  subst e2
                  exact ⟨hu, hx⟩
              · exact HX.out e (List.mem_of_mem_drop h)
            have eL : es.take j ++ [(⟨u, q, kk, x⟩ : En)] ++ es.drop j = es.take j ++ (⟨u, q, kk, x⟩ : En) :: es.drop j := by simp
            rw [eL] at hl12 hX12
            have HX12 := hide hX12
            clear hX12 eL
            by_cases hcj : capE = j
            · go_wp2_with (at_builtin; refine wpList_append_es rfl _ _ 26 rfl Try.underlying26 WZ.heap.size g2 cap2 (es.take j ++ [⟨u, q, kk, x⟩]) (es.drop j) (by rw [hl10]; rfl) HO10.out ⟨gE, 0, none⟩ (n - j) 0 (by rfl) ?c1 (srcNone (by omega) _) hz10 ?c3 ?_)
              case c1 => rw [List.length_drop]; omega
              case c3 => rw [hl10]; omega
              intro g3 cap3 w12 hO12 hb12
              have HO12 := hide (hO12.mono HS5.out)
              have HR12 := hide (HR10.out.keep hb12 HR5L.out)
              have HM12 := hide (mv_below HM10.out (hb12.mono HS5.out))
              clear hO12 hb12 HO10 HP10 HR10 HM10 hcj
              go_wp2
              exact ⟨⟨k1, n + 1, es.take j ++ ⟨u, q, kk, x⟩ :: es.drop j, g3, cap3, by first | rfl | (rw [hjn1]) | (rw [hl10, hjn1]), by go_num, hl12, by omega, HX12, HO12, HR12, HM12⟩, by simp [intOf]⟩
            · go_wp2_with (at_builtin; refine wpList_append_es rfl _ _ 26 rfl Try.underlying26 WZ.heap.size g2 cap2 (es.take j ++ [⟨u, q, kk, x⟩]) (es.drop j) (by rw [hl10]; rfl) HO10.out ⟨gE, j * 4, none⟩ (n - j) (capE - j) (by rfl) ?c1 (HP10.out.srcDrop j (by omega)) hz10 ?c3 ?_)
              case c1 => rw [List.length_drop]; omega
              case c3 => rw [hl10]; omega
              intro g3 cap3 w12 hO12 hb12
              have HO12 := hide (hO12.mono HS5.out)
              have HR12 := hide (HR10.out.keep hb12 HR5L.out)
              have HM12 := hide (mv_below HM10.out (hb12.mono HS5.out))
              clear hO12 hb12 HO10 HP10 HR10 HM10 hcj
              go_wp2
              exact ⟨⟨k1, n + 1, es.take j ++ ⟨u, q, kk, x⟩ :: es.drop j, g3, cap3, by first | rfl | (rw [hjn1]) | (rw [hl10, hjn1]), by go_num, hl12, by omega, HX12, HO12, HR12, HM12⟩, by simp [intOf]⟩

    · have hk0 : k = 0 := by omega
      subst hk0
      subst hn
      go_wp2_with fail
      refine (rd_once W _ g a len cap 24 (by omega) (by omega) hc hl HR.out).mono ?_
      rintro e w2 ⟨bo, rfl, hr2, hmv2⟩
      have HO2 := hide (HO.out.mv hmv2 hg)
      have HR2 := hide hr2
      have HM2 := hide (HM.out.trans hmv2)
      clear hr2 hmv2 HR HM HO
      cases bo with
      | true =>
        go_wp2_with fail
        refine (rd_entry W _ g a len cap hc hl HR2.out).mono ?_
        rintro e w3 ⟨u, q, kk, x, rfl, hu, hx, hr3, hmv3⟩
        have hO3 := HO2.out.mv hmv3 hg
        have HR3 := hide hr3
        have HM3 := hide (HM2.out.trans hmv3)
        have hsz : w.heap.size ≤ w3.heap.size := HM3.out.size
        have hb4 := (Below.refl w3.heap.size w3).alloc (Nat.le_refl _) (.cells #[.string u, .int .i64 q, .int .i64 kk, .string x] 43)
        have hO4 := hO3.below hb4 hO3.lt.2
        have hsrc := srcOne w3 u q kk x
        clear hr3 hmv3 HR2 HM2 HO2 hO3
        go_wp2_with (first
          | (at_builtin; refine wpList_append_es rfl _ _ 26 rfl Try.underlying26 w.heap.size gE capE es [⟨u, q, kk, x⟩] (by rfl) hO4 ⟨w3.heap.size, 0, none⟩ 1 1 (by rfl) rfl hsrc ?c2 ?c3 ?_))
        case c2 => simp; omega
        case c3 => omega
        intro g3 cap3 w5 hO5 hb5
        have hb5' := (hb4.mono hsz).trans hb5
        have HR5 := hide (HR3.out.keep hb5' hg)
        have HM5 := hide (mv_below HM3.out hb5')
        have HO5 := hide hO5
        clear HR3 HM3 hO4 hb4 hsrc hO5 hb5 hb5'
        go_wp2
        go_ret
        refine ⟨g3, cap3, es ++ [⟨u, q, kk, x⟩], by rw [List.length_append]; rfl, by simp; omega, fun e he => ?_, HO5.out, HR5.out, HM5.out⟩
        rcases List.mem_append.1 he with h | h
        · exact HX.out e h
        · have e2 := List.mem_singleton.1 h
          subst e2
          exact ⟨hu, hx⟩
      | false =>
        go_wp2
        go_ret
        exact ⟨gE, capE, es, rfl, by omega, HX.out, HO2.out, HR2.out, HM2.out⟩

end Go.Proofs.Ytjcoejabpagaiaa
