/- The search by halves. -/
import Derived.Test.YtljmfdcilnbjaacSeekB
namespace Go.Proofs.Ytljmfdcilnbjaac
set_option maxRecDepth 100000
open Go.RowKit Go.Deep

theorem seven_apart {w0 : World} {b g o0 o1 o2 o3 p0 p1 p2 : Nat} {x0 x1 x2 x3 y0 y1 y2 : Value} (hb : b < w0.heap.size) (hg : g < w0.heap.size) (wa wb : World)
    (h : wa.cell? ⟨b, o0, none⟩ = some x0 ∧ wa.cell? ⟨b, o1, none⟩ = some x1 ∧ wa.cell? ⟨b, o2, none⟩ = some x2 ∧ wa.cell? ⟨b, o3, none⟩ = some x3 ∧ wa.cell? ⟨g, p0, none⟩ = some y0 ∧ wa.cell? ⟨g, p1, none⟩ = some y1 ∧ wa.cell? ⟨g, p2, none⟩ = some y2 ∧ Hid (Below w0.heap.size w0 wa ∧ w0.heap.size ≤ wa.heap.size)) (hx : Below wa.heap.size wa wb) :
    wb.cell? ⟨b, o0, none⟩ = some x0 ∧ wb.cell? ⟨b, o1, none⟩ = some x1 ∧ wb.cell? ⟨b, o2, none⟩ = some x2 ∧ wb.cell? ⟨b, o3, none⟩ = some x3 ∧ wb.cell? ⟨g, p0, none⟩ = some y0 ∧ wb.cell? ⟨g, p1, none⟩ = some y1 ∧ wb.cell? ⟨g, p2, none⟩ = some y2 ∧ Hid (Below w0.heap.size w0 wb ∧ w0.heap.size ≤ wb.heap.size) := by
  obtain ⟨c0, c1, c2, c3, d0, d1, d2, hB, hz⟩ := h
  have h1 : b < wa.heap.size := by omega
  have h2 : g < wa.heap.size := by omega
  exact ⟨(hx.cell (p := ⟨b, _, none⟩) h1).trans c0, (hx.cell (p := ⟨b, _, none⟩) h1).trans c1, (hx.cell (p := ⟨b, _, none⟩) h1).trans c2, (hx.cell (p := ⟨b, _, none⟩) h1).trans c3, (hx.cell (p := ⟨g, _, none⟩) h2).trans d0, (hx.cell (p := ⟨g, _, none⟩) h2).trans d1, (hx.cell (p := ⟨g, _, none⟩) h2).trans d2,
    hB.trans (hx.mono hz), Nat.le_trans hz hx.size⟩

set_option linter.unusedSimpArgs false in
set_option maxHeartbeats 4000000 in
set_option maxRecDepth 100000 in
theorem impl_Search (a : Option Addr) (len cap : Nat) (E : Ents) (u : ByteArray) (q k : Int) (w : World) (hl : len ≤ 1048576) (hS : EntAt w w.heap.size a len E) (hm : ∀ i j, i ≤ j → j < len → ordK E u q k j < 0 → ordK E u q k i < 0) :
    Calls Try.prog 44 #[.slice a len cap, .agg #[.string u, .int .i64 q, .int .i64 k], .func (.func 45) #[] #[]] w fun e w' => (∃ (n : Nat) (b : Bool), e = .returned (.tuple #[.int .i64 n, .bool b]) ∧ PlaceAt E len u q k n) ∧ Below w.heap.size w w' := by
  have hB0 : Below w.heap.size w (w.alloc (.cells #[.string u, .int .i64 q, .int .i64 k] 34)) := below1 _ _
  have K0 : (w.alloc (.cells #[.string u, .int .i64 q, .int .i64 k] 34)).cell? ⟨w.heap.size, 0, none⟩ = some (.string u) := by simp
  have K1 : (w.alloc (.cells #[.string u, .int .i64 q, .int .i64 k] 34)).cell? ⟨w.heap.size, 1, none⟩ = some (.int .i64 q) := by simp
  have K2 : (w.alloc (.cells #[.string u, .int .i64 q, .int .i64 k] 34)).cell? ⟨w.heap.size, 2, none⟩ = some (.int .i64 k) := by simp
  have hz0 : (w.alloc (.cells #[.string u, .int .i64 q, .int .i64 k] 34)).heap.size = w.heap.size + 1 := by simp
  have HS : Hid (EntAt (w.alloc (.cells #[.string u, .int .i64 q, .int .i64 k] 34)) (w.alloc (.cells #[.string u, .int .i64 q, .int .i64 k] 34)).heap.size a len E) := (hS.below hB0).mono hB0.size
  have HM : Hid (∀ i j, i ≤ j → j < len → ordK E u q k j < 0 → ordK E u q k i < 0) := hm
  clear hS hm
  go_enter Try.func44, Try.ntmps44
  go_wp2
  generalize w.alloc (.cells #[.string u, .int .i64 q, .int .i64 k] 34) = w0 at hB0 K0 K1 K2 hz0 HS ⊢
  have HB0 : Hid (Below w.heap.size w w0) := hB0
  have hgz : w.heap.size < w0.heap.size := by omega
  have HK : Hid (w0.cell? ⟨w.heap.size, 0, none⟩ = some (.string u) ∧ w0.cell? ⟨w.heap.size, 1, none⟩ = some (.int .i64 q) ∧ w0.cell? ⟨w.heap.size, 2, none⟩ = some (.int .i64 k)) := ⟨K0, K1, K2⟩
  have HW0 : Hid (Below w0.heap.size w0 w0) := Below.refl _ _
  clear hB0 K0 K1 K2 hz0
  go_loopw [9, 10] (fun x y wr => ∃ i j : Nat, x = .int .i64 i ∧ y = .int .i64 j ∧ i ≤ j ∧ j ≤ len ∧ Hid (∀ m, m < i → ordK E u q k m < 0) ∧ Hid (j < len → 0 ≤ ordK E u q k j) ∧ Hid (Below w0.heap.size w0 wr)) (fun x y _ => (intOf y).toNat - (intOf x).toNat)
  case atStart => exact ⟨0, len, rfl, rfl, by omega, by omega, fun _ h => absurd h (by omega), fun h => absurd h (by omega), HW0⟩
  case round =>
    obtain ⟨i, j, rfl, rfl, hij, hj, HL, HJ, HW⟩ := hrel
    clear HW0
    by_cases hlt : i < j
    · obtain ⟨m, hm⟩ : ∃ m, m = (i + j) / 2 := ⟨_, rfl⟩
      have hm1 : i ≤ m := by omega
      have hm2 : m < j := by omega
      have hn : m < len := by omega
      have HMI : Hid (((i : Int) + (j : Int)) / 2 = (m : Int)) := by unfold Hid; omega
      clear hm
      obtain ⟨b, off, rfl, hb, c0, c1, c2, c3⟩ := (HS.out.below HW.out).at hn
      have hni : (m : Int) < (len : Int) := by omega
      have hn00 : (0 : Int) ≤ (m : Int) := by omega
      have hstart : wr.drew.cell? ⟨b, off + m * 4, none⟩ = some (.string (E.U m)) ∧ wr.drew.cell? ⟨b, off + m * 4 + 1, none⟩ = some (.int .i64 (E.Q m)) ∧ wr.drew.cell? ⟨b, off + m * 4 + 2, none⟩ = some (.int .i64 (E.K m)) ∧ wr.drew.cell? ⟨b, off + m * 4 + 3, none⟩ = some (.string (E.X m)) ∧ wr.drew.cell? ⟨w.heap.size, 0, none⟩ = some (.string u) ∧ wr.drew.cell? ⟨w.heap.size, 1, none⟩ = some (.int .i64 q) ∧ wr.drew.cell? ⟨w.heap.size, 2, none⟩ = some (.int .i64 k) ∧ Hid (Below w0.heap.size w0 wr.drew ∧ w0.heap.size ≤ wr.drew.heap.size) := ⟨c0, c1, c2, c3, (HW.out.cell (p := ⟨w.heap.size, 0, none⟩) hgz).trans HK.out.1, (HW.out.cell (p := ⟨w.heap.size, 1, none⟩) hgz).trans HK.out.2.1, (HW.out.cell (p := ⟨w.heap.size, 2, none⟩) hgz).trans HK.out.2.2, HW.out.drew, HW.out.size⟩
      clear c0 c1 c2 c3
      have HKC : Hid (∀ wx : World, Calls Try.prog 45 #[.agg #[.string (E.U m), .int .i64 (E.Q m), .int .i64 (E.K m), .string (E.X m)], .agg #[.string u, .int .i64 q, .int .i64 k]] wx fun e w' => e = .returned (.int .i64 (ordK E u q k m)) ∧ Below wx.heap.size wx w') := fun wx => impl_SeekCmp (E.U m) (E.Q m) (E.K m) (E.X m) u q k wx
      by_cases ho : ordK E u q k m < 0
      · have HL2 : Hid (∀ x, x < m + 1 → ordK E u q k x < 0) := fun x hx => HM.out x m (by omega) hn ho
        generalize ordK E u q k m = od at HKC ho
        go_wp2_with fail
        simp only [HMI.out]
        refine wp_region_noPanic ?_
        refine wp_region_held_drew (S := fun (w' : World) => w'.cell? ⟨b, off + m * 4, none⟩ = some (.string (E.U m)) ∧ w'.cell? ⟨b, off + m * 4 + 1, none⟩ = some (.int .i64 (E.Q m)) ∧ w'.cell? ⟨b, off + m * 4 + 2, none⟩ = some (.int .i64 (E.K m)) ∧ w'.cell? ⟨b, off + m * 4 + 3, none⟩ = some (.string (E.X m)) ∧ w'.cell? ⟨w.heap.size, 0, none⟩ = some (.string u) ∧ w'.cell? ⟨w.heap.size, 1, none⟩ = some (.int .i64 q) ∧ w'.cell? ⟨w.heap.size, 2, none⟩ = some (.int .i64 k) ∧ Hid (Below w0.heap.size w0 w' ∧ w0.heap.size ≤ w'.heap.size)) (by kernel_rfl) hstart (fun hHeld => ?_)
        clear hstart
        refine wpAnyH_take (i := 0) (v := .func (.func 45) #[] #[]) nth0 (by kernel_rfl) (by kernel_rfl) (by kernel_rfl) (fun _ _ _ h => False.elim h) (Or.inl ⟨by rfl, ?_⟩) hHeld ?_
        · intro wx hSw
          go_simp
        simp only [Act.put, List.setIfInBounds_toArray, List.set_cons_zero, List.set_cons_succ]
        refine wpAnyH_take (i := 1) (v := .slice (some ⟨b, off, none⟩) len cap) nth1 (by kernel_rfl) (by kernel_rfl) (by kernel_rfl) (fun _ _ _ h => False.elim h) (Or.inl ⟨by rfl, ?_⟩) hHeld ?_
        · intro wx hSw
          go_simp
        simp only [Act.put, List.setIfInBounds_toArray, List.set_cons_zero, List.set_cons_succ]
        refine wpAnyH_take (i := 2) (v := .int .i64 m) nth2 (by kernel_rfl) (by kernel_rfl) (by kernel_rfl) (fun _ _ _ h => False.elim h) (Or.inl ⟨by rfl, ?_⟩) hHeld ?_
        · intro wx hSw
          go_simp
        simp only [Act.put, List.setIfInBounds_toArray, List.set_cons_zero, List.set_cons_succ]
        refine wpAnyH_take (i := 3) (v := .pointer (some ⟨b, off + m * 4, none⟩)) nth3 (by kernel_rfl) (by kernel_rfl) (by kernel_rfl) (fun _ _ _ h => False.elim h) (Or.inl ⟨by rfl, ?_⟩) hHeld ?_
        · intro wx hSw
          go_simp
        simp only [Act.put, List.setIfInBounds_toArray, List.set_cons_zero, List.set_cons_succ]
        refine wpAnyH_take (i := 4) (v := .agg #[.string (E.U m), .int .i64 (E.Q m), .int .i64 (E.K m), .string (E.X m)]) nth4 (by kernel_rfl) (by kernel_rfl) (by kernel_rfl) (fun _ _ _ h => False.elim h) (Or.inl ⟨by rfl, ?_⟩) hHeld ?_
        · intro wx hSw
          go_simp
        simp only [Act.put, List.setIfInBounds_toArray, List.set_cons_zero, List.set_cons_succ]
        refine wpAnyH_take (i := 5) (v := .agg #[.string u, .int .i64 q, .int .i64 k]) nth5 (by kernel_rfl) (by kernel_rfl) (by kernel_rfl) (fun _ _ _ h => False.elim h) (Or.inl ⟨by rfl, ?_⟩) hHeld ?_
        · intro wx hSw
          go_simp
        simp only [Act.put, List.setIfInBounds_toArray, List.set_cons_zero, List.set_cons_succ]
        refine wpAnyH_ready (rs := [6]) (by kernel_rfl) (by simp) ?_
        refine AllReadyH.cons nth6 (fun K hK => ?_) AllReadyH.nil
        go_simp
        go_at_call 45
        refine (held_callE (S := fun (w' : World) => w'.cell? ⟨b, off + m * 4, none⟩ = some (.string (E.U m)) ∧ w'.cell? ⟨b, off + m * 4 + 1, none⟩ = some (.int .i64 (E.Q m)) ∧ w'.cell? ⟨b, off + m * 4 + 2, none⟩ = some (.int .i64 (E.K m)) ∧ w'.cell? ⟨b, off + m * 4 + 3, none⟩ = some (.string (E.X m)) ∧ w'.cell? ⟨w.heap.size, 0, none⟩ = some (.string u) ∧ w'.cell? ⟨w.heap.size, 1, none⟩ = some (.int .i64 q) ∧ w'.cell? ⟨w.heap.size, 2, none⟩ = some (.int .i64 k) ∧ Hid (Below w0.heap.size w0 w' ∧ w0.heap.size ≤ w'.heap.size)) (fun wa wb h hx => seven_apart (by omega) (by omega) wa wb h hx) hHeld (HKC.out _)).mono ?_
        rintro e w3 ⟨rfl, hSS⟩
        refine hK.out _ _ hSS (fun hHeld2 => ?_)
        clear hK K hSS hHeld
        refine wpAnyH_take (i := 7) (v := .bool true) nth7 (by kernel_rfl) (by kernel_rfl) (by kernel_rfl) (fun _ _ _ h => False.elim h) (Or.inl ⟨by rfl, ?_⟩) hHeld2 ?_
        · intro wx hSw
          go_simp
        simp only [Act.put, List.setIfInBounds_toArray, List.set_cons_zero, List.set_cons_succ]
        refine wpAnyH_done (by kernel_rfl) ?_ _
        refine NoPanic.normal ?_
        have HW2 : Hid (Below w0.heap.size w0 w3) := hHeld2.2.2.2.2.2.2.2.out.1
        clear hHeld2
        go_wp2
        exact ⟨⟨m + 1, j, by go_num, rfl, by omega, hj, HL2, HJ, HW2⟩, by simp [intOf]; omega⟩
      · have HJ2 : Hid (m < len → 0 ≤ ordK E u q k m) := fun _ => by omega
        generalize ordK E u q k m = od at HKC ho
        go_wp2_with fail
        simp only [HMI.out]
        refine wp_region_noPanic ?_
        refine wp_region_held_drew (S := fun (w' : World) => w'.cell? ⟨b, off + m * 4, none⟩ = some (.string (E.U m)) ∧ w'.cell? ⟨b, off + m * 4 + 1, none⟩ = some (.int .i64 (E.Q m)) ∧ w'.cell? ⟨b, off + m * 4 + 2, none⟩ = some (.int .i64 (E.K m)) ∧ w'.cell? ⟨b, off + m * 4 + 3, none⟩ = some (.string (E.X m)) ∧ w'.cell? ⟨w.heap.size, 0, none⟩ = some (.string u) ∧ w'.cell? ⟨w.heap.size, 1, none⟩ = some (.int .i64 q) ∧ w'.cell? ⟨w.heap.size, 2, none⟩ = some (.int .i64 k) ∧ Hid (Below w0.heap.size w0 w' ∧ w0.heap.size ≤ w'.heap.size)) (by kernel_rfl) hstart (fun hHeld => ?_)
        clear hstart
        refine wpAnyH_take (i := 0) (v := .func (.func 45) #[] #[]) nth0 (by kernel_rfl) (by kernel_rfl) (by kernel_rfl) (fun _ _ _ h => False.elim h) (Or.inl ⟨by rfl, ?_⟩) hHeld ?_
        · intro wx hSw
          go_simp
        simp only [Act.put, List.setIfInBounds_toArray, List.set_cons_zero, List.set_cons_succ]
        refine wpAnyH_take (i := 1) (v := .slice (some ⟨b, off, none⟩) len cap) nth1 (by kernel_rfl) (by kernel_rfl) (by kernel_rfl) (fun _ _ _ h => False.elim h) (Or.inl ⟨by rfl, ?_⟩) hHeld ?_
        · intro wx hSw
          go_simp
        simp only [Act.put, List.setIfInBounds_toArray, List.set_cons_zero, List.set_cons_succ]
        refine wpAnyH_take (i := 2) (v := .int .i64 m) nth2 (by kernel_rfl) (by kernel_rfl) (by kernel_rfl) (fun _ _ _ h => False.elim h) (Or.inl ⟨by rfl, ?_⟩) hHeld ?_
        · intro wx hSw
          go_simp
        simp only [Act.put, List.setIfInBounds_toArray, List.set_cons_zero, List.set_cons_succ]
        refine wpAnyH_take (i := 3) (v := .pointer (some ⟨b, off + m * 4, none⟩)) nth3 (by kernel_rfl) (by kernel_rfl) (by kernel_rfl) (fun _ _ _ h => False.elim h) (Or.inl ⟨by rfl, ?_⟩) hHeld ?_
        · intro wx hSw
          go_simp
        simp only [Act.put, List.setIfInBounds_toArray, List.set_cons_zero, List.set_cons_succ]
        refine wpAnyH_take (i := 4) (v := .agg #[.string (E.U m), .int .i64 (E.Q m), .int .i64 (E.K m), .string (E.X m)]) nth4 (by kernel_rfl) (by kernel_rfl) (by kernel_rfl) (fun _ _ _ h => False.elim h) (Or.inl ⟨by rfl, ?_⟩) hHeld ?_
        · intro wx hSw
          go_simp
        simp only [Act.put, List.setIfInBounds_toArray, List.set_cons_zero, List.set_cons_succ]
        refine wpAnyH_take (i := 5) (v := .agg #[.string u, .int .i64 q, .int .i64 k]) nth5 (by kernel_rfl) (by kernel_rfl) (by kernel_rfl) (fun _ _ _ h => False.elim h) (Or.inl ⟨by rfl, ?_⟩) hHeld ?_
        · intro wx hSw
          go_simp
        simp only [Act.put, List.setIfInBounds_toArray, List.set_cons_zero, List.set_cons_succ]
        refine wpAnyH_ready (rs := [6]) (by kernel_rfl) (by simp) ?_
        refine AllReadyH.cons nth6 (fun K hK => ?_) AllReadyH.nil
        go_simp
        go_at_call 45
        refine (held_callE (S := fun (w' : World) => w'.cell? ⟨b, off + m * 4, none⟩ = some (.string (E.U m)) ∧ w'.cell? ⟨b, off + m * 4 + 1, none⟩ = some (.int .i64 (E.Q m)) ∧ w'.cell? ⟨b, off + m * 4 + 2, none⟩ = some (.int .i64 (E.K m)) ∧ w'.cell? ⟨b, off + m * 4 + 3, none⟩ = some (.string (E.X m)) ∧ w'.cell? ⟨w.heap.size, 0, none⟩ = some (.string u) ∧ w'.cell? ⟨w.heap.size, 1, none⟩ = some (.int .i64 q) ∧ w'.cell? ⟨w.heap.size, 2, none⟩ = some (.int .i64 k) ∧ Hid (Below w0.heap.size w0 w' ∧ w0.heap.size ≤ w'.heap.size)) (fun wa wb h hx => seven_apart (by omega) (by omega) wa wb h hx) hHeld (HKC.out _)).mono ?_
        rintro e w3 ⟨rfl, hSS⟩
        refine hK.out _ _ hSS (fun hHeld2 => ?_)
        clear hK K hSS hHeld
        refine wpAnyH_take (i := 7) (v := .bool false) nth7 (by kernel_rfl) (by kernel_rfl) (by kernel_rfl) (fun _ _ _ h => False.elim h) (Or.inl ⟨by rfl, ?_⟩) hHeld2 ?_
        · intro wx hSw
          go_simp
        simp only [Act.put, List.setIfInBounds_toArray, List.set_cons_zero, List.set_cons_succ]
        refine wpAnyH_done (by kernel_rfl) ?_ _
        refine NoPanic.normal ?_
        have HW2 : Hid (Below w0.heap.size w0 w3) := hHeld2.2.2.2.2.2.2.2.out.1
        clear hHeld2
        go_wp2
        exact ⟨⟨i, m, rfl, rfl, by omega, by omega, HL, HJ2, HW2⟩, by simp [intOf]; omega⟩
    · obtain rfl : i = j := by omega
      have HP : Hid (PlaceAt E len u q k i) := ⟨hj, HL.out, fun h => by have := HJ.out h; omega⟩
      clear HL HJ hlt
      by_cases hn : i < len
      · obtain ⟨b, off, rfl, hb, c0, c1, c2, c3⟩ := (HS.out.below HW.out).at hn
        have hni : (i : Int) < (len : Int) := by omega
        have hn00 : (0 : Int) ≤ (i : Int) := by omega
        have hstart : wr.drew.cell? ⟨b, off + i * 4, none⟩ = some (.string (E.U i)) ∧ wr.drew.cell? ⟨b, off + i * 4 + 1, none⟩ = some (.int .i64 (E.Q i)) ∧ wr.drew.cell? ⟨b, off + i * 4 + 2, none⟩ = some (.int .i64 (E.K i)) ∧ wr.drew.cell? ⟨b, off + i * 4 + 3, none⟩ = some (.string (E.X i)) ∧ wr.drew.cell? ⟨w.heap.size, 0, none⟩ = some (.string u) ∧ wr.drew.cell? ⟨w.heap.size, 1, none⟩ = some (.int .i64 q) ∧ wr.drew.cell? ⟨w.heap.size, 2, none⟩ = some (.int .i64 k) ∧ Hid (Below w0.heap.size w0 wr.drew ∧ w0.heap.size ≤ wr.drew.heap.size) := ⟨c0, c1, c2, c3, (HW.out.cell (p := ⟨w.heap.size, 0, none⟩) hgz).trans HK.out.1, (HW.out.cell (p := ⟨w.heap.size, 1, none⟩) hgz).trans HK.out.2.1, (HW.out.cell (p := ⟨w.heap.size, 2, none⟩) hgz).trans HK.out.2.2, HW.out.drew, HW.out.size⟩
        clear c0 c1 c2 c3
        have HKC : Hid (∀ wx : World, Calls Try.prog 45 #[.agg #[.string (E.U i), .int .i64 (E.Q i), .int .i64 (E.K i), .string (E.X i)], .agg #[.string u, .int .i64 q, .int .i64 k]] wx fun e w' => e = .returned (.int .i64 (ordK E u q k i)) ∧ Below wx.heap.size wx w') := fun wx => impl_SeekCmp (E.U i) (E.Q i) (E.K i) (E.X i) u q k wx
        by_cases ho : ordK E u q k i = 0
        · generalize ordK E u q k i = od at HKC ho
          go_wp2_with fail
          refine wp_region_noPanic ?_
          refine wp_region_held_drew (S := fun (w' : World) => w'.cell? ⟨b, off + i * 4, none⟩ = some (.string (E.U i)) ∧ w'.cell? ⟨b, off + i * 4 + 1, none⟩ = some (.int .i64 (E.Q i)) ∧ w'.cell? ⟨b, off + i * 4 + 2, none⟩ = some (.int .i64 (E.K i)) ∧ w'.cell? ⟨b, off + i * 4 + 3, none⟩ = some (.string (E.X i)) ∧ w'.cell? ⟨w.heap.size, 0, none⟩ = some (.string u) ∧ w'.cell? ⟨w.heap.size, 1, none⟩ = some (.int .i64 q) ∧ w'.cell? ⟨w.heap.size, 2, none⟩ = some (.int .i64 k) ∧ Hid (Below w0.heap.size w0 w' ∧ w0.heap.size ≤ w'.heap.size)) (by kernel_rfl) hstart (fun hHeld => ?_)
          clear hstart
          refine wpAnyH_take (i := 0) (v := .int .i64 i) nth0 (by kernel_rfl) (by kernel_rfl) (by kernel_rfl) (fun _ _ _ h => False.elim h) (Or.inl ⟨by rfl, ?_⟩) hHeld ?_
          · intro wx hSw
            go_simp
          simp only [Act.put, List.setIfInBounds_toArray, List.set_cons_zero, List.set_cons_succ]
          refine wpAnyH_take (i := 1) (v := .int .i64 i) nth1 (by kernel_rfl) (by kernel_rfl) (by kernel_rfl) (fun _ _ _ h => False.elim h) (Or.inl ⟨by rfl, ?_⟩) hHeld ?_
          · intro wx hSw
            go_simp
          simp only [Act.put, List.setIfInBounds_toArray, List.set_cons_zero, List.set_cons_succ]
          refine wpAnyH_take (i := 2) (v := .int .i64 len) nth2 (by kernel_rfl) (by kernel_rfl) (by kernel_rfl) (fun _ _ _ h => False.elim h) (Or.inl ⟨by rfl, ?_⟩) hHeld ?_
          · intro wx hSw
            go_simp
          simp only [Act.put, List.setIfInBounds_toArray, List.set_cons_zero, List.set_cons_succ]
          refine wpAnyH_take (i := 3) (v := .bool true) nth3 (by kernel_rfl) (by kernel_rfl) (by kernel_rfl) (fun _ _ _ h => False.elim h) (Or.inl ⟨by rfl, ?_⟩) hHeld ?_
          · intro wx hSw
            go_simp
          simp only [Act.put, List.setIfInBounds_toArray, List.set_cons_zero, List.set_cons_succ]
          refine wpAnyH_take (i := 4) (v := .bool true) nth4 (by kernel_rfl) (by kernel_rfl) (by kernel_rfl) (fun _ _ _ h => False.elim h) (Or.inl ⟨by rfl, ?_⟩) hHeld ?_
          · intro wx hSw
            go_simp
          simp only [Act.put, List.setIfInBounds_toArray, List.set_cons_zero, List.set_cons_succ]
          refine wpAnyH_take (i := 5) (v := .func (.func 45) #[] #[]) nth5 (by kernel_rfl) (by kernel_rfl) (by kernel_rfl) (fun _ _ _ h => False.elim h) (Or.inl ⟨by rfl, ?_⟩) hHeld ?_
          · intro wx hSw
            go_simp
          simp only [Act.put, List.setIfInBounds_toArray, List.set_cons_zero, List.set_cons_succ]
          refine wpAnyH_take (i := 6) (v := .slice (some ⟨b, off, none⟩) len cap) nth6 (by kernel_rfl) (by kernel_rfl) (by kernel_rfl) (fun _ _ _ h => False.elim h) (Or.inl ⟨by rfl, ?_⟩) hHeld ?_
          · intro wx hSw
            go_simp
          simp only [Act.put, List.setIfInBounds_toArray, List.set_cons_zero, List.set_cons_succ]
          refine wpAnyH_take (i := 7) (v := .int .i64 i) nth7 (by kernel_rfl) (by kernel_rfl) (by kernel_rfl) (fun _ _ _ h => False.elim h) (Or.inl ⟨by rfl, ?_⟩) hHeld ?_
          · intro wx hSw
            go_simp
          simp only [Act.put, List.setIfInBounds_toArray, List.set_cons_zero, List.set_cons_succ]
          refine wpAnyH_take (i := 8) (v := .pointer (some ⟨b, off + i * 4, none⟩)) nth8 (by kernel_rfl) (by kernel_rfl) (by kernel_rfl) (fun _ _ _ h => False.elim h) (Or.inl ⟨by rfl, ?_⟩) hHeld ?_
          · intro wx hSw
            go_simp
          simp only [Act.put, List.setIfInBounds_toArray, List.set_cons_zero, List.set_cons_succ]
          refine wpAnyH_take (i := 9) (v := .agg #[.string (E.U i), .int .i64 (E.Q i), .int .i64 (E.K i), .string (E.X i)]) nth9 (by kernel_rfl) (by kernel_rfl) (by kernel_rfl) (fun _ _ _ h => False.elim h) (Or.inl ⟨by rfl, ?_⟩) hHeld ?_
          · intro wx hSw
            go_simp
          simp only [Act.put, List.setIfInBounds_toArray, List.set_cons_zero, List.set_cons_succ]
          refine wpAnyH_take (i := 10) (v := .agg #[.string u, .int .i64 q, .int .i64 k]) nth10 (by kernel_rfl) (by kernel_rfl) (by kernel_rfl) (fun _ _ _ h => False.elim h) (Or.inl ⟨by rfl, ?_⟩) hHeld ?_
          · intro wx hSw
            go_simp
          simp only [Act.put, List.setIfInBounds_toArray, List.set_cons_zero, List.set_cons_succ]
          refine wpAnyH_ready (rs := [11]) (by kernel_rfl) (by simp) ?_
          refine AllReadyH.cons nth11 (fun K hK => ?_) AllReadyH.nil
          go_simp
          go_at_call 45
          refine (held_callE (S := fun (w' : World) => w'.cell? ⟨b, off + i * 4, none⟩ = some (.string (E.U i)) ∧ w'.cell? ⟨b, off + i * 4 + 1, none⟩ = some (.int .i64 (E.Q i)) ∧ w'.cell? ⟨b, off + i * 4 + 2, none⟩ = some (.int .i64 (E.K i)) ∧ w'.cell? ⟨b, off + i * 4 + 3, none⟩ = some (.string (E.X i)) ∧ w'.cell? ⟨w.heap.size, 0, none⟩ = some (.string u) ∧ w'.cell? ⟨w.heap.size, 1, none⟩ = some (.int .i64 q) ∧ w'.cell? ⟨w.heap.size, 2, none⟩ = some (.int .i64 k) ∧ Hid (Below w0.heap.size w0 w' ∧ w0.heap.size ≤ w'.heap.size)) (fun wa wb h hx => seven_apart (by omega) (by omega) wa wb h hx) hHeld (HKC.out _)).mono ?_
          rintro e w3 ⟨rfl, hSS⟩
          refine hK.out _ _ hSS (fun hHeld2 => ?_)
          clear hK K hSS hHeld
          refine wpAnyH_take (i := 12) (v := .bool true) nth12 (by kernel_rfl) (by kernel_rfl) (by kernel_rfl) (fun _ _ _ h => False.elim h) (Or.inl ⟨by rfl, ?_⟩) hHeld2 ?_
          · intro wx hSw
            go_simp
          simp only [Act.put, List.setIfInBounds_toArray, List.set_cons_zero, List.set_cons_succ]
          refine wpAnyH_take (i := 13) (v := .bool true) nth13 (by kernel_rfl) (by kernel_rfl) (by kernel_rfl) (fun _ _ _ h => False.elim h) (Or.inl ⟨by rfl, ?_⟩) hHeld2 ?_
          · intro wx hSw
            go_simp
          simp only [Act.put, List.setIfInBounds_toArray, List.set_cons_zero, List.set_cons_succ]
          refine wpAnyH_take (i := 14) (v := .int .i64 i) nth14 (by kernel_rfl) (by kernel_rfl) (by kernel_rfl) (fun _ _ _ h => False.elim h) (Or.inl ⟨by rfl, ?_⟩) hHeld2 ?_
          · intro wx hSw
            go_simp
          simp only [Act.put, List.setIfInBounds_toArray, List.set_cons_zero, List.set_cons_succ]
          refine wpAnyH_take (i := 15) (v := .bool true) nth15 (by kernel_rfl) (by kernel_rfl) (by kernel_rfl) (fun _ _ _ h => False.elim h) (Or.inl ⟨by rfl, ?_⟩) hHeld2 ?_
          · intro wx hSw
            go_simp
          simp only [Act.put, List.setIfInBounds_toArray, List.set_cons_zero, List.set_cons_succ]
          refine wpAnyH_done (by kernel_rfl) ?_ _
          refine NoPanic.normal ?_
          have HW2 : Hid (Below w0.heap.size w0 w3) := hHeld2.2.2.2.2.2.2.2.out.1
          clear hHeld2
          go_wp2
          refine bodyPost_ret (v := .tuple #[.int .i64 i, .bool true]) (by simp [results, Try.results44, go_sem]) rfl ⟨⟨i, true, rfl, HP.out⟩, HB0.out.trans (HW2.out.mono HB0.out.size)⟩
        · generalize ordK E u q k i = od at HKC ho
          go_wp2_with fail
          refine wp_region_noPanic ?_
          refine wp_region_held_drew (S := fun (w' : World) => w'.cell? ⟨b, off + i * 4, none⟩ = some (.string (E.U i)) ∧ w'.cell? ⟨b, off + i * 4 + 1, none⟩ = some (.int .i64 (E.Q i)) ∧ w'.cell? ⟨b, off + i * 4 + 2, none⟩ = some (.int .i64 (E.K i)) ∧ w'.cell? ⟨b, off + i * 4 + 3, none⟩ = some (.string (E.X i)) ∧ w'.cell? ⟨w.heap.size, 0, none⟩ = some (.string u) ∧ w'.cell? ⟨w.heap.size, 1, none⟩ = some (.int .i64 q) ∧ w'.cell? ⟨w.heap.size, 2, none⟩ = some (.int .i64 k) ∧ Hid (Below w0.heap.size w0 w' ∧ w0.heap.size ≤ w'.heap.size)) (by kernel_rfl) hstart (fun hHeld => ?_)
          clear hstart
          refine wpAnyH_take (i := 0) (v := .int .i64 i) nth0 (by kernel_rfl) (by kernel_rfl) (by kernel_rfl) (fun _ _ _ h => False.elim h) (Or.inl ⟨by rfl, ?_⟩) hHeld ?_
          · intro wx hSw
            go_simp
          simp only [Act.put, List.setIfInBounds_toArray, List.set_cons_zero, List.set_cons_succ]
          refine wpAnyH_take (i := 1) (v := .int .i64 i) nth1 (by kernel_rfl) (by kernel_rfl) (by kernel_rfl) (fun _ _ _ h => False.elim h) (Or.inl ⟨by rfl, ?_⟩) hHeld ?_
          · intro wx hSw
            go_simp
          simp only [Act.put, List.setIfInBounds_toArray, List.set_cons_zero, List.set_cons_succ]
          refine wpAnyH_take (i := 2) (v := .int .i64 len) nth2 (by kernel_rfl) (by kernel_rfl) (by kernel_rfl) (fun _ _ _ h => False.elim h) (Or.inl ⟨by rfl, ?_⟩) hHeld ?_
          · intro wx hSw
            go_simp
          simp only [Act.put, List.setIfInBounds_toArray, List.set_cons_zero, List.set_cons_succ]
          refine wpAnyH_take (i := 3) (v := .bool true) nth3 (by kernel_rfl) (by kernel_rfl) (by kernel_rfl) (fun _ _ _ h => False.elim h) (Or.inl ⟨by rfl, ?_⟩) hHeld ?_
          · intro wx hSw
            go_simp
          simp only [Act.put, List.setIfInBounds_toArray, List.set_cons_zero, List.set_cons_succ]
          refine wpAnyH_take (i := 4) (v := .bool true) nth4 (by kernel_rfl) (by kernel_rfl) (by kernel_rfl) (fun _ _ _ h => False.elim h) (Or.inl ⟨by rfl, ?_⟩) hHeld ?_
          · intro wx hSw
            go_simp
          simp only [Act.put, List.setIfInBounds_toArray, List.set_cons_zero, List.set_cons_succ]
          refine wpAnyH_take (i := 5) (v := .func (.func 45) #[] #[]) nth5 (by kernel_rfl) (by kernel_rfl) (by kernel_rfl) (fun _ _ _ h => False.elim h) (Or.inl ⟨by rfl, ?_⟩) hHeld ?_
          · intro wx hSw
            go_simp
          simp only [Act.put, List.setIfInBounds_toArray, List.set_cons_zero, List.set_cons_succ]
          refine wpAnyH_take (i := 6) (v := .slice (some ⟨b, off, none⟩) len cap) nth6 (by kernel_rfl) (by kernel_rfl) (by kernel_rfl) (fun _ _ _ h => False.elim h) (Or.inl ⟨by rfl, ?_⟩) hHeld ?_
          · intro wx hSw
            go_simp
          simp only [Act.put, List.setIfInBounds_toArray, List.set_cons_zero, List.set_cons_succ]
          refine wpAnyH_take (i := 7) (v := .int .i64 i) nth7 (by kernel_rfl) (by kernel_rfl) (by kernel_rfl) (fun _ _ _ h => False.elim h) (Or.inl ⟨by rfl, ?_⟩) hHeld ?_
          · intro wx hSw
            go_simp
          simp only [Act.put, List.setIfInBounds_toArray, List.set_cons_zero, List.set_cons_succ]
          refine wpAnyH_take (i := 8) (v := .pointer (some ⟨b, off + i * 4, none⟩)) nth8 (by kernel_rfl) (by kernel_rfl) (by kernel_rfl) (fun _ _ _ h => False.elim h) (Or.inl ⟨by rfl, ?_⟩) hHeld ?_
          · intro wx hSw
            go_simp
          simp only [Act.put, List.setIfInBounds_toArray, List.set_cons_zero, List.set_cons_succ]
          refine wpAnyH_take (i := 9) (v := .agg #[.string (E.U i), .int .i64 (E.Q i), .int .i64 (E.K i), .string (E.X i)]) nth9 (by kernel_rfl) (by kernel_rfl) (by kernel_rfl) (fun _ _ _ h => False.elim h) (Or.inl ⟨by rfl, ?_⟩) hHeld ?_
          · intro wx hSw
            go_simp
          simp only [Act.put, List.setIfInBounds_toArray, List.set_cons_zero, List.set_cons_succ]
          refine wpAnyH_take (i := 10) (v := .agg #[.string u, .int .i64 q, .int .i64 k]) nth10 (by kernel_rfl) (by kernel_rfl) (by kernel_rfl) (fun _ _ _ h => False.elim h) (Or.inl ⟨by rfl, ?_⟩) hHeld ?_
          · intro wx hSw
            go_simp
          simp only [Act.put, List.setIfInBounds_toArray, List.set_cons_zero, List.set_cons_succ]
          refine wpAnyH_ready (rs := [11]) (by kernel_rfl) (by simp) ?_
          refine AllReadyH.cons nth11 (fun K hK => ?_) AllReadyH.nil
          go_simp
          go_at_call 45
          refine (held_callE (S := fun (w' : World) => w'.cell? ⟨b, off + i * 4, none⟩ = some (.string (E.U i)) ∧ w'.cell? ⟨b, off + i * 4 + 1, none⟩ = some (.int .i64 (E.Q i)) ∧ w'.cell? ⟨b, off + i * 4 + 2, none⟩ = some (.int .i64 (E.K i)) ∧ w'.cell? ⟨b, off + i * 4 + 3, none⟩ = some (.string (E.X i)) ∧ w'.cell? ⟨w.heap.size, 0, none⟩ = some (.string u) ∧ w'.cell? ⟨w.heap.size, 1, none⟩ = some (.int .i64 q) ∧ w'.cell? ⟨w.heap.size, 2, none⟩ = some (.int .i64 k) ∧ Hid (Below w0.heap.size w0 w' ∧ w0.heap.size ≤ w'.heap.size)) (fun wa wb h hx => seven_apart (by omega) (by omega) wa wb h hx) hHeld (HKC.out _)).mono ?_
          rintro e w3 ⟨rfl, hSS⟩
          refine hK.out _ _ hSS (fun hHeld2 => ?_)
          clear hK K hSS hHeld
          refine wpAnyH_take (i := 12) (v := .bool false) nth12 (by kernel_rfl) (by kernel_rfl) (by kernel_rfl) (fun _ _ _ h => False.elim h) (Or.inl ⟨by rfl, ?_⟩) hHeld2 ?_
          · intro wx hSw
            go_simp
          simp only [Act.put, List.setIfInBounds_toArray, List.set_cons_zero, List.set_cons_succ]
          refine wpAnyH_take (i := 13) (v := .bool false) nth13 (by kernel_rfl) (by kernel_rfl) (by kernel_rfl) (fun _ _ _ h => False.elim h) (Or.inl ⟨by rfl, ?_⟩) hHeld2 ?_
          · intro wx hSw
            go_simp
          simp only [Act.put, List.setIfInBounds_toArray, List.set_cons_zero, List.set_cons_succ]
          refine wpAnyH_take (i := 14) (v := .int .i64 i) nth14 (by kernel_rfl) (by kernel_rfl) (by kernel_rfl) (fun _ _ _ h => False.elim h) (Or.inl ⟨by rfl, ?_⟩) hHeld2 ?_
          · intro wx hSw
            go_simp
          simp only [Act.put, List.setIfInBounds_toArray, List.set_cons_zero, List.set_cons_succ]
          refine wpAnyH_take (i := 15) (v := .bool false) nth15 (by kernel_rfl) (by kernel_rfl) (by kernel_rfl) (fun _ _ _ h => False.elim h) (Or.inl ⟨by rfl, ?_⟩) hHeld2 ?_
          · intro wx hSw
            go_simp
          simp only [Act.put, List.setIfInBounds_toArray, List.set_cons_zero, List.set_cons_succ]
          refine wpAnyH_done (by kernel_rfl) ?_ _
          refine NoPanic.normal ?_
          have HW2 : Hid (Below w0.heap.size w0 w3) := hHeld2.2.2.2.2.2.2.2.out.1
          clear hHeld2
          go_wp2
          refine bodyPost_ret (v := .tuple #[.int .i64 i, .bool false]) (by simp [results, Try.results44, go_sem]) rfl ⟨⟨i, false, rfl, HP.out⟩, HB0.out.trans (HW2.out.mono HB0.out.size)⟩
      · obtain rfl : i = len := by omega
        have hstart : Hid (Below w0.heap.size w0 wr.drew) := HW.out.drew
        clear hn
        go_wp2_with fail
        refine wp_region_noPanic ?_
        refine wp_region_held_drew (S := fun (w' : World) => Hid (Below w0.heap.size w0 w')) (by kernel_rfl) hstart (fun hHeld => ?_)
        clear hstart
        refine wpAnyH_take (i := 0) (v := .int .i64 i) nth0 (by kernel_rfl) (by kernel_rfl) (by kernel_rfl) (fun _ _ _ h => False.elim h) (Or.inl ⟨by rfl, ?_⟩) hHeld ?_
        · intro wx hSw
          go_simp
        simp only [Act.put, List.setIfInBounds_toArray, List.set_cons_zero, List.set_cons_succ]
        refine wpAnyH_take (i := 1) (v := .int .i64 i) nth1 (by kernel_rfl) (by kernel_rfl) (by kernel_rfl) (fun _ _ _ h => False.elim h) (Or.inl ⟨by rfl, ?_⟩) hHeld ?_
        · intro wx hSw
          go_simp
        simp only [Act.put, List.setIfInBounds_toArray, List.set_cons_zero, List.set_cons_succ]
        refine wpAnyH_take (i := 2) (v := .int .i64 i) nth2 (by kernel_rfl) (by kernel_rfl) (by kernel_rfl) (fun _ _ _ h => False.elim h) (Or.inl ⟨by rfl, ?_⟩) hHeld ?_
        · intro wx hSw
          go_simp
        simp only [Act.put, List.setIfInBounds_toArray, List.set_cons_zero, List.set_cons_succ]
        refine wpAnyH_take (i := 3) (v := .bool false) nth3 (by kernel_rfl) (by kernel_rfl) (by kernel_rfl) (fun _ _ _ h => False.elim h) (Or.inl ⟨by rfl, ?_⟩) hHeld ?_
        · intro wx hSw
          go_simp
        simp only [Act.put, List.setIfInBounds_toArray, List.set_cons_zero, List.set_cons_succ]
        refine wpAnyH_take (i := 4) (v := .bool false) nth4 (by kernel_rfl) (by kernel_rfl) (by kernel_rfl) (fun _ _ _ h => False.elim h) (Or.inl ⟨by rfl, ?_⟩) hHeld ?_
        · intro wx hSw
          go_simp
        simp only [Act.put, List.setIfInBounds_toArray, List.set_cons_zero, List.set_cons_succ]
        refine wpAnyH_take (i := 5) (v := undef) nth5 (by kernel_rfl) (by kernel_rfl) (by kernel_rfl) (fun _ _ _ h => False.elim h) (Or.inr ⟨by rfl, rfl⟩) hHeld ?_
        simp only [Act.put, List.setIfInBounds_toArray, List.set_cons_zero, List.set_cons_succ]
        refine wpAnyH_take (i := 6) (v := undef) nth6 (by kernel_rfl) (by kernel_rfl) (by kernel_rfl) (fun _ _ _ h => False.elim h) (Or.inr ⟨by rfl, rfl⟩) hHeld ?_
        simp only [Act.put, List.setIfInBounds_toArray, List.set_cons_zero, List.set_cons_succ]
        refine wpAnyH_take (i := 7) (v := undef) nth7 (by kernel_rfl) (by kernel_rfl) (by kernel_rfl) (fun _ _ _ h => False.elim h) (Or.inr ⟨by rfl, rfl⟩) hHeld ?_
        simp only [Act.put, List.setIfInBounds_toArray, List.set_cons_zero, List.set_cons_succ]
        refine wpAnyH_take (i := 8) (v := undef) nth8 (by kernel_rfl) (by kernel_rfl) (by kernel_rfl) (fun _ _ _ h => False.elim h) (Or.inr ⟨by rfl, rfl⟩) hHeld ?_
        simp only [Act.put, List.setIfInBounds_toArray, List.set_cons_zero, List.set_cons_succ]
        refine wpAnyH_take (i := 9) (v := undef) nth9 (by kernel_rfl) (by kernel_rfl) (by kernel_rfl) (fun _ _ _ h => False.elim h) (Or.inr ⟨by rfl, rfl⟩) hHeld ?_
        simp only [Act.put, List.setIfInBounds_toArray, List.set_cons_zero, List.set_cons_succ]
        refine wpAnyH_take (i := 10) (v := undef) nth10 (by kernel_rfl) (by kernel_rfl) (by kernel_rfl) (fun _ _ _ h => False.elim h) (Or.inr ⟨by rfl, rfl⟩) hHeld ?_
        simp only [Act.put, List.setIfInBounds_toArray, List.set_cons_zero, List.set_cons_succ]
        refine wpAnyH_take (i := 11) (v := undef) nth11 (by kernel_rfl) (by kernel_rfl) (by kernel_rfl) (fun _ _ _ h => False.elim h) (Or.inr ⟨by rfl, rfl⟩) hHeld ?_
        simp only [Act.put, List.setIfInBounds_toArray, List.set_cons_zero, List.set_cons_succ]
        refine wpAnyH_take (i := 12) (v := undef) nth12 (by kernel_rfl) (by kernel_rfl) (by kernel_rfl) (fun _ _ _ h => False.elim h) (Or.inr ⟨by rfl, rfl⟩) hHeld ?_
        simp only [Act.put, List.setIfInBounds_toArray, List.set_cons_zero, List.set_cons_succ]
        refine wpAnyH_take (i := 13) (v := .bool false) nth13 (by kernel_rfl) (by kernel_rfl) (by kernel_rfl) (fun _ _ _ h => False.elim h) (Or.inl ⟨by rfl, ?_⟩) hHeld ?_
        · intro wx hSw
          go_simp
        simp only [Act.put, List.setIfInBounds_toArray, List.set_cons_zero, List.set_cons_succ]
        refine wpAnyH_take (i := 14) (v := .int .i64 i) nth14 (by kernel_rfl) (by kernel_rfl) (by kernel_rfl) (fun _ _ _ h => False.elim h) (Or.inl ⟨by rfl, ?_⟩) hHeld ?_
        · intro wx hSw
          go_simp
        simp only [Act.put, List.setIfInBounds_toArray, List.set_cons_zero, List.set_cons_succ]
        refine wpAnyH_take (i := 15) (v := .bool false) nth15 (by kernel_rfl) (by kernel_rfl) (by kernel_rfl) (fun _ _ _ h => False.elim h) (Or.inl ⟨by rfl, ?_⟩) hHeld ?_
        · intro wx hSw
          go_simp
        simp only [Act.put, List.setIfInBounds_toArray, List.set_cons_zero, List.set_cons_succ]
        refine wpAnyH_done (by kernel_rfl) ?_ _
        refine NoPanic.normal ?_
        clear hHeld
        go_wp2
        refine bodyPost_ret (v := .tuple #[.int .i64 i, .bool false]) (by simp [results, Try.results44, go_sem]) rfl ⟨⟨i, false, rfl, HP.out⟩, HB0.out.trans (HW.out.drew.mono HB0.out.size)⟩

end Go.Proofs.Ytljmfdcilnbjaac
