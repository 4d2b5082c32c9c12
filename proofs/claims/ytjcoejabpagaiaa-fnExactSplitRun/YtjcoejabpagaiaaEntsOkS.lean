/- EntriesOk of the model. -/
import Derived.Test.YtjcoejabpagaiaaEntsOk
namespace Go.Proofs.Ytjcoejabpagaiaa
set_option maxRecDepth 100000
open Go.RowKit Go.Deep

theorem nth0 {α : Type} {x0 : α} {l : List α} : (List.toArray (x0 :: l))[0]? = some x0 := rfl
theorem nth1 {α : Type} {x0 x1 : α} {l : List α} : (List.toArray (x0 :: x1 :: l))[1]? = some x1 := rfl
theorem nth2 {α : Type} {x0 x1 x2 : α} {l : List α} : (List.toArray (x0 :: x1 :: x2 :: l))[2]? = some x2 := rfl
theorem nth3 {α : Type} {x0 x1 x2 x3 : α} {l : List α} : (List.toArray (x0 :: x1 :: x2 :: x3 :: l))[3]? = some x3 := rfl
theorem nth4 {α : Type} {x0 x1 x2 x3 x4 : α} {l : List α} : (List.toArray (x0 :: x1 :: x2 :: x3 :: x4 :: l))[4]? = some x4 := rfl
theorem nth5 {α : Type} {x0 x1 x2 x3 x4 x5 : α} {l : List α} : (List.toArray (x0 :: x1 :: x2 :: x3 :: x4 :: x5 :: l))[5]? = some x5 := rfl
theorem nth6 {α : Type} {x0 x1 x2 x3 x4 x5 x6 : α} {l : List α} : (List.toArray (x0 :: x1 :: x2 :: x3 :: x4 :: x5 :: x6 :: l))[6]? = some x6 := rfl
theorem nth7 {α : Type} {x0 x1 x2 x3 x4 x5 x6 x7 : α} {l : List α} : (List.toArray (x0 :: x1 :: x2 :: x3 :: x4 :: x5 :: x6 :: x7 :: l))[7]? = some x7 := rfl
theorem nth8 {α : Type} {x0 x1 x2 x3 x4 x5 x6 x7 x8 : α} {l : List α} : (List.toArray (x0 :: x1 :: x2 :: x3 :: x4 :: x5 :: x6 :: x7 :: x8 :: l))[8]? = some x8 := rfl
theorem nth9 {α : Type} {x0 x1 x2 x3 x4 x5 x6 x7 x8 x9 : α} {l : List α} : (List.toArray (x0 :: x1 :: x2 :: x3 :: x4 :: x5 :: x6 :: x7 :: x8 :: x9 :: l))[9]? = some x9 := rfl
theorem nth10 {α : Type} {x0 x1 x2 x3 x4 x5 x6 x7 x8 x9 x10 : α} {l : List α} : (List.toArray (x0 :: x1 :: x2 :: x3 :: x4 :: x5 :: x6 :: x7 :: x8 :: x9 :: x10 :: l))[10]? = some x10 := rfl
theorem nth11 {α : Type} {x0 x1 x2 x3 x4 x5 x6 x7 x8 x9 x10 x11 : α} {l : List α} : (List.toArray (x0 :: x1 :: x2 :: x3 :: x4 :: x5 :: x6 :: x7 :: x8 :: x9 :: x10 :: x11 :: l))[11]? = some x11 := rfl
theorem nth12 {α : Type} {x0 x1 x2 x3 x4 x5 x6 x7 x8 x9 x10 x11 x12 : α} {l : List α} : (List.toArray (x0 :: x1 :: x2 :: x3 :: x4 :: x5 :: x6 :: x7 :: x8 :: x9 :: x10 :: x11 :: x12 :: l))[12]? = some x12 := rfl
theorem nth13 {α : Type} {x0 x1 x2 x3 x4 x5 x6 x7 x8 x9 x10 x11 x12 x13 : α} {l : List α} : (List.toArray (x0 :: x1 :: x2 :: x3 :: x4 :: x5 :: x6 :: x7 :: x8 :: x9 :: x10 :: x11 :: x12 :: x13 :: l))[13]? = some x13 := rfl
theorem nth14 {α : Type} {x0 x1 x2 x3 x4 x5 x6 x7 x8 x9 x10 x11 x12 x13 x14 : α} {l : List α} : (List.toArray (x0 :: x1 :: x2 :: x3 :: x4 :: x5 :: x6 :: x7 :: x8 :: x9 :: x10 :: x11 :: x12 :: x13 :: x14 :: l))[14]? = some x14 := rfl
theorem nth15 {α : Type} {x0 x1 x2 x3 x4 x5 x6 x7 x8 x9 x10 x11 x12 x13 x14 x15 : α} {l : List α} : (List.toArray (x0 :: x1 :: x2 :: x3 :: x4 :: x5 :: x6 :: x7 :: x8 :: x9 :: x10 :: x11 :: x12 :: x13 :: x14 :: x15 :: l))[15]? = some x15 := rfl
theorem nth16 {α : Type} {x0 x1 x2 x3 x4 x5 x6 x7 x8 x9 x10 x11 x12 x13 x14 x15 x16 : α} {l : List α} : (List.toArray (x0 :: x1 :: x2 :: x3 :: x4 :: x5 :: x6 :: x7 :: x8 :: x9 :: x10 :: x11 :: x12 :: x13 :: x14 :: x15 :: x16 :: l))[16]? = some x16 := rfl
theorem nth17 {α : Type} {x0 x1 x2 x3 x4 x5 x6 x7 x8 x9 x10 x11 x12 x13 x14 x15 x16 x17 : α} {l : List α} : (List.toArray (x0 :: x1 :: x2 :: x3 :: x4 :: x5 :: x6 :: x7 :: x8 :: x9 :: x10 :: x11 :: x12 :: x13 :: x14 :: x15 :: x16 :: x17 :: l))[17]? = some x17 := rfl
theorem nth18 {α : Type} {x0 x1 x2 x3 x4 x5 x6 x7 x8 x9 x10 x11 x12 x13 x14 x15 x16 x17 x18 : α} {l : List α} : (List.toArray (x0 :: x1 :: x2 :: x3 :: x4 :: x5 :: x6 :: x7 :: x8 :: x9 :: x10 :: x11 :: x12 :: x13 :: x14 :: x15 :: x16 :: x17 :: x18 :: l))[18]? = some x18 := rfl
theorem nth19 {α : Type} {x0 x1 x2 x3 x4 x5 x6 x7 x8 x9 x10 x11 x12 x13 x14 x15 x16 x17 x18 x19 : α} {l : List α} : (List.toArray (x0 :: x1 :: x2 :: x3 :: x4 :: x5 :: x6 :: x7 :: x8 :: x9 :: x10 :: x11 :: x12 :: x13 :: x14 :: x15 :: x16 :: x17 :: x18 :: x19 :: l))[19]? = some x19 := rfl
theorem nth20 {α : Type} {x0 x1 x2 x3 x4 x5 x6 x7 x8 x9 x10 x11 x12 x13 x14 x15 x16 x17 x18 x19 x20 : α} {l : List α} : (List.toArray (x0 :: x1 :: x2 :: x3 :: x4 :: x5 :: x6 :: x7 :: x8 :: x9 :: x10 :: x11 :: x12 :: x13 :: x14 :: x15 :: x16 :: x17 :: x18 :: x19 :: x20 :: l))[20]? = some x20 := rfl
theorem nth21 {α : Type} {x0 x1 x2 x3 x4 x5 x6 x7 x8 x9 x10 x11 x12 x13 x14 x15 x16 x17 x18 x19 x20 x21 : α} {l : List α} : (List.toArray (x0 :: x1 :: x2 :: x3 :: x4 :: x5 :: x6 :: x7 :: x8 :: x9 :: x10 :: x11 :: x12 :: x13 :: x14 :: x15 :: x16 :: x17 :: x18 :: x19 :: x20 :: x21 :: l))[21]? = some x21 := rfl
theorem nth22 {α : Type} {x0 x1 x2 x3 x4 x5 x6 x7 x8 x9 x10 x11 x12 x13 x14 x15 x16 x17 x18 x19 x20 x21 x22 : α} {l : List α} : (List.toArray (x0 :: x1 :: x2 :: x3 :: x4 :: x5 :: x6 :: x7 :: x8 :: x9 :: x10 :: x11 :: x12 :: x13 :: x14 :: x15 :: x16 :: x17 :: x18 :: x19 :: x20 :: x21 :: x22 :: l))[22]? = some x22 := rfl
theorem nth23 {α : Type} {x0 x1 x2 x3 x4 x5 x6 x7 x8 x9 x10 x11 x12 x13 x14 x15 x16 x17 x18 x19 x20 x21 x22 x23 : α} {l : List α} : (List.toArray (x0 :: x1 :: x2 :: x3 :: x4 :: x5 :: x6 :: x7 :: x8 :: x9 :: x10 :: x11 :: x12 :: x13 :: x14 :: x15 :: x16 :: x17 :: x18 :: x19 :: x20 :: x21 :: x22 :: x23 :: l))[23]? = some x23 := rfl
theorem nth24 {α : Type} {x0 x1 x2 x3 x4 x5 x6 x7 x8 x9 x10 x11 x12 x13 x14 x15 x16 x17 x18 x19 x20 x21 x22 x23 x24 : α} {l : List α} : (List.toArray (x0 :: x1 :: x2 :: x3 :: x4 :: x5 :: x6 :: x7 :: x8 :: x9 :: x10 :: x11 :: x12 :: x13 :: x14 :: x15 :: x16 :: x17 :: x18 :: x19 :: x20 :: x21 :: x22 :: x23 :: x24 :: l))[24]? = some x24 := rfl

theorem four_keep {W : World} {b o0 o1 o2 o3 : Nat} {x0 x1 x2 x3 : Value} (wa wb : World)
    (h : wa.cell? ⟨b, o0, none⟩ = some x0 ∧ wa.cell? ⟨b, o1, none⟩ = some x1 ∧ wa.cell? ⟨b, o2, none⟩ = some x2 ∧ wa.cell? ⟨b, o3, none⟩ = some x3 ∧ Hid (Below W.heap.size W wa ∧ b < wa.heap.size)) (hx : Below wa.heap.size wa wb) :
    wb.cell? ⟨b, o0, none⟩ = some x0 ∧ wb.cell? ⟨b, o1, none⟩ = some x1 ∧ wb.cell? ⟨b, o2, none⟩ = some x2 ∧ wb.cell? ⟨b, o3, none⟩ = some x3 ∧ Hid (Below W.heap.size W wb ∧ b < wb.heap.size) := by
  obtain ⟨c0, c1, c2, c3, hB, hz⟩ := h
  exact ⟨(hx.cell (p := ⟨b, _, none⟩) hz).trans c0, (hx.cell (p := ⟨b, _, none⟩) hz).trans c1, (hx.cell (p := ⟨b, _, none⟩) hz).trans c2, (hx.cell (p := ⟨b, _, none⟩) hz).trans c3, hB.trans (hx.mono hB.size), Nat.lt_of_lt_of_le hz hx.size⟩

theorem seven_keep {W : World} {b o0 o1 o2 o3 p0 p1 p2 : Nat} {x0 x1 x2 x3 y0 y1 y2 : Value} (wa wb : World)
    (h : wa.cell? ⟨b, o0, none⟩ = some x0 ∧ wa.cell? ⟨b, o1, none⟩ = some x1 ∧ wa.cell? ⟨b, o2, none⟩ = some x2 ∧ wa.cell? ⟨b, o3, none⟩ = some x3 ∧ wa.cell? ⟨b, p0, none⟩ = some y0 ∧ wa.cell? ⟨b, p1, none⟩ = some y1 ∧ wa.cell? ⟨b, p2, none⟩ = some y2 ∧ Hid (Below W.heap.size W wa ∧ b < wa.heap.size)) (hx : Below wa.heap.size wa wb) :
    wb.cell? ⟨b, o0, none⟩ = some x0 ∧ wb.cell? ⟨b, o1, none⟩ = some x1 ∧ wb.cell? ⟨b, o2, none⟩ = some x2 ∧ wb.cell? ⟨b, o3, none⟩ = some x3 ∧ wb.cell? ⟨b, p0, none⟩ = some y0 ∧ wb.cell? ⟨b, p1, none⟩ = some y1 ∧ wb.cell? ⟨b, p2, none⟩ = some y2 ∧ Hid (Below W.heap.size W wb ∧ b < wb.heap.size) := by
  obtain ⟨c0, c1, c2, c3, d0, d1, d2, hB, hz⟩ := h
  exact ⟨(hx.cell (p := ⟨b, _, none⟩) hz).trans c0, (hx.cell (p := ⟨b, _, none⟩) hz).trans c1, (hx.cell (p := ⟨b, _, none⟩) hz).trans c2, (hx.cell (p := ⟨b, _, none⟩) hz).trans c3, (hx.cell (p := ⟨b, _, none⟩) hz).trans d0, (hx.cell (p := ⟨b, _, none⟩) hz).trans d1, (hx.cell (p := ⟨b, _, none⟩) hz).trans d2, hB.trans (hx.mono hB.size), Nat.lt_of_lt_of_le hz hx.size⟩

theorem keyOk_of_ent {E : Ents} {i : Nat} (h : entOk E i = true) : keyOkB (E.U i) (E.Q i) (E.K i) = true := by
  unfold entOk entryOkB at h
  rw [Bool.and_eq_true, Bool.and_eq_true] at h
  exact h.1.1

set_option linter.unusedSimpArgs false in
set_option maxHeartbeats 4000000 in
set_option maxRecDepth 100000 in
theorem spec_EntriesOk (a : Option Addr) (len cap : Nat) (E : Ents) (w : World) (hl : len ≤ 1048576) (hS : EntAt w w.heap.size a len E) :
    Calls Try.prog 16 #[.slice a len cap] w fun e w' => e = .returned (.bool (rowOkB E len)) ∧ Below w.heap.size w w' := by
  by_cases h4 : len ≤ 400
  · have HS : Hid (EntAt w w.heap.size a len E) := hS
    clear hS
    have h4' : ¬ ((400 : Int) < (len : Int)) := by omega
    have HB0 : Hid (Below w.heap.size w w) := Below.refl _ _
    go_enter Try.func16, Try.ntmps16
    go_wp2
    go_loopw [3] (fun i wr => ∃ k : Nat, i = .int .i64 k ∧ k ≤ len ∧ Hid (∀ i, i < k → entOk E i = true ∧ (0 < i → ordI E (i - 1) < 0)) ∧ Hid (Below w.heap.size w wr)) (fun i _ => len - (intOf i).toNat)
    case atStart => exact ⟨0, rfl, by omega, fun _ h => absurd h (by omega), HB0⟩
    case round =>
      obtain ⟨k, rfl, hk, HK, HW⟩ := hrel
      clear HB0
      by_cases hlt : k < len
      · obtain ⟨b, off, rfl, hb, c0, c1, c2, c3⟩ := (HS.out.below HW.out).at hlt
        have hki : (k : Int) < (len : Int) := by omega
        have hk00 : (0 : Int) ≤ (k : Int) := by omega
        have hwz := HW.out.size
        have hbz : b < wr.heap.size := by omega
        cases he : entOk E k with
        | false =>
          have he' : entryOkB (E.U k) (E.Q k) (E.K k) (E.X k) = false := he
          have hEO : ∀ wx : World, Calls Try.prog 29 #[.agg #[.string (E.U k), .int .i64 (E.Q k), .int .i64 (E.K k), .string (E.X k)]] wx fun e w' => e = .returned (.bool false) ∧ Below wx.heap.size wx w' := fun wx => he' ▸ spec_EntryOk (E.U k) (E.Q k) (E.K k) (E.X k) wx
          have HV : Hid (false = rowOkB E len) := (rowOk_entry k hlt he).symm
          have HEO : Hid (∀ wx : World, Calls Try.prog 29 #[.agg #[.string (E.U k), .int .i64 (E.Q k), .int .i64 (E.K k), .string (E.X k)]] wx fun e w' => e = .returned (.bool false) ∧ Below wx.heap.size wx w') := hEO
          clear hEO he'
          have hstart : wr.drew.cell? ⟨b, off + k * 4, none⟩ = some (.string (E.U k)) ∧ wr.drew.cell? ⟨b, off + k * 4 + 1, none⟩ = some (.int .i64 (E.Q k)) ∧ wr.drew.cell? ⟨b, off + k * 4 + 2, none⟩ = some (.int .i64 (E.K k)) ∧ wr.drew.cell? ⟨b, off + k * 4 + 3, none⟩ = some (.string (E.X k)) ∧ Hid (Below w.heap.size w wr.drew ∧ b < wr.drew.heap.size) := ⟨c0, c1, c2, c3, HW.out.drew, hbz⟩
          clear c0 c1 c2 c3 he
          go_wp2_with fail
          refine wp_region_noPanic ?_
          refine wp_region_held_drew (S := fun (w' : World) => w'.cell? ⟨b, off + k * 4, none⟩ = some (.string (E.U k)) ∧ w'.cell? ⟨b, off + k * 4 + 1, none⟩ = some (.int .i64 (E.Q k)) ∧ w'.cell? ⟨b, off + k * 4 + 2, none⟩ = some (.int .i64 (E.K k)) ∧ w'.cell? ⟨b, off + k * 4 + 3, none⟩ = some (.string (E.X k)) ∧ Hid (Below w.heap.size w w' ∧ b < w'.heap.size)) (by kernel_rfl) hstart (fun hHeld => ?_)
          clear hstart
          refine wpAnyH_take (i := 0) (v := .slice (some ⟨b, off, none⟩) len cap) nth0 (by kernel_rfl) (by kernel_rfl) (by kernel_rfl) (fun _ _ _ h => False.elim h) (Or.inl ⟨by rfl, ?_⟩) hHeld ?_
          · intro wx hSw
            go_simp
          simp only [Act.put, List.setIfInBounds_toArray, List.set_cons_zero, List.set_cons_succ]
          refine wpAnyH_take (i := 1) (v := .int .i64 k) nth1 (by kernel_rfl) (by kernel_rfl) (by kernel_rfl) (fun _ _ _ h => False.elim h) (Or.inl ⟨by rfl, ?_⟩) hHeld ?_
          · intro wx hSw
            go_simp
          simp only [Act.put, List.setIfInBounds_toArray, List.set_cons_zero, List.set_cons_succ]
          refine wpAnyH_take (i := 2) (v := .pointer (some ⟨b, off + k * 4, none⟩)) nth2 (by kernel_rfl) (by kernel_rfl) (by kernel_rfl) (fun _ _ _ h => False.elim h) (Or.inl ⟨by rfl, ?_⟩) hHeld ?_
          · intro wx hSw
            go_simp
          simp only [Act.put, List.setIfInBounds_toArray, List.set_cons_zero, List.set_cons_succ]
          refine wpAnyH_take (i := 3) (v := .agg #[.string (E.U k), .int .i64 (E.Q k), .int .i64 (E.K k), .string (E.X k)]) nth3 (by kernel_rfl) (by kernel_rfl) (by kernel_rfl) (fun _ _ _ h => False.elim h) (Or.inl ⟨by rfl, ?_⟩) hHeld ?_
          · intro wx hSw
            go_simp
          simp only [Act.put, List.setIfInBounds_toArray, List.set_cons_zero, List.set_cons_succ]
          refine wpAnyH_ready (rs := [4]) (by kernel_rfl) (by simp) ?_
          refine AllReadyH.cons nth4 (fun K hK => ?_) AllReadyH.nil
          go_simp
          go_at_call 29
          refine (held_callE (S := fun (w' : World) => w'.cell? ⟨b, off + k * 4, none⟩ = some (.string (E.U k)) ∧ w'.cell? ⟨b, off + k * 4 + 1, none⟩ = some (.int .i64 (E.Q k)) ∧ w'.cell? ⟨b, off + k * 4 + 2, none⟩ = some (.int .i64 (E.K k)) ∧ w'.cell? ⟨b, off + k * 4 + 3, none⟩ = some (.string (E.X k)) ∧ Hid (Below w.heap.size w w' ∧ b < w'.heap.size)) four_keep hHeld (HEO.out _)).mono ?_
          rintro e w2 ⟨rfl, hSS⟩
          refine hK.out _ _ hSS (fun hHeld2 => ?_)
          clear hK K hSS hHeld
          refine wpAnyH_take (i := 5) (v := .bool true) nth5 (by kernel_rfl) (by kernel_rfl) (by kernel_rfl) (fun _ _ _ h => False.elim h) (Or.inl ⟨by rfl, ?_⟩) hHeld2 ?_
          · intro wx hSw
            go_simp
          simp only [Act.put, List.setIfInBounds_toArray, List.set_cons_zero, List.set_cons_succ]
          refine wpAnyH_take (i := 6) (v := .bool true) nth6 (by kernel_rfl) (by kernel_rfl) (by kernel_rfl) (fun _ _ _ h => False.elim h) (Or.inl ⟨by rfl, ?_⟩) hHeld2 ?_
          · intro wx hSw
            go_simp
          simp only [Act.put, List.setIfInBounds_toArray, List.set_cons_zero, List.set_cons_succ]
          refine wpAnyH_take (i := 7) (v := undef) nth7 (by kernel_rfl) (by kernel_rfl) (by kernel_rfl) (fun _ _ _ h => False.elim h) (Or.inr ⟨by rfl, rfl⟩) hHeld2 ?_
          simp only [Act.put, List.setIfInBounds_toArray, List.set_cons_zero, List.set_cons_succ]
          refine wpAnyH_take (i := 8) (v := undef) nth8 (by kernel_rfl) (by kernel_rfl) (by kernel_rfl) (fun _ _ _ h => False.elim h) (Or.inr ⟨by rfl, rfl⟩) hHeld2 ?_
          simp only [Act.put, List.setIfInBounds_toArray, List.set_cons_zero, List.set_cons_succ]
          refine wpAnyH_take (i := 9) (v := undef) nth9 (by kernel_rfl) (by kernel_rfl) (by kernel_rfl) (fun _ _ _ h => False.elim h) (Or.inr ⟨by rfl, rfl⟩) hHeld2 ?_
          simp only [Act.put, List.setIfInBounds_toArray, List.set_cons_zero, List.set_cons_succ]
          refine wpAnyH_take (i := 10) (v := undef) nth10 (by kernel_rfl) (by kernel_rfl) (by kernel_rfl) (fun _ _ _ h => False.elim h) (Or.inr ⟨by rfl, rfl⟩) hHeld2 ?_
          simp only [Act.put, List.setIfInBounds_toArray, List.set_cons_zero, List.set_cons_succ]
          refine wpAnyH_take (i := 11) (v := undef) nth11 (by kernel_rfl) (by kernel_rfl) (by kernel_rfl) (fun _ _ _ h => False.elim h) (Or.inr ⟨by rfl, rfl⟩) hHeld2 ?_
          simp only [Act.put, List.setIfInBounds_toArray, List.set_cons_zero, List.set_cons_succ]
          refine wpAnyH_take (i := 12) (v := undef) nth12 (by kernel_rfl) (by kernel_rfl) (by kernel_rfl) (fun _ _ _ h => False.elim h) (Or.inr ⟨by rfl, rfl⟩) hHeld2 ?_
          simp only [Act.put, List.setIfInBounds_toArray, List.set_cons_zero, List.set_cons_succ]
          refine wpAnyH_take (i := 13) (v := undef) nth13 (by kernel_rfl) (by kernel_rfl) (by kernel_rfl) (fun _ _ _ h => False.elim h) (Or.inr ⟨by rfl, rfl⟩) hHeld2 ?_
          simp only [Act.put, List.setIfInBounds_toArray, List.set_cons_zero, List.set_cons_succ]
          refine wpAnyH_take (i := 14) (v := undef) nth14 (by kernel_rfl) (by kernel_rfl) (by kernel_rfl) (fun _ _ _ h => False.elim h) (Or.inr ⟨by rfl, rfl⟩) hHeld2 ?_
          simp only [Act.put, List.setIfInBounds_toArray, List.set_cons_zero, List.set_cons_succ]
          refine wpAnyH_take (i := 15) (v := undef) nth15 (by kernel_rfl) (by kernel_rfl) (by kernel_rfl) (fun _ _ _ h => False.elim h) (Or.inr ⟨by rfl, rfl⟩) hHeld2 ?_
          simp only [Act.put, List.setIfInBounds_toArray, List.set_cons_zero, List.set_cons_succ]
          refine wpAnyH_take (i := 16) (v := undef) nth16 (by kernel_rfl) (by kernel_rfl) (by kernel_rfl) (fun _ _ _ h => False.elim h) (Or.inr ⟨by rfl, rfl⟩) hHeld2 ?_
          simp only [Act.put, List.setIfInBounds_toArray, List.set_cons_zero, List.set_cons_succ]
          refine wpAnyH_take (i := 17) (v := undef) nth17 (by kernel_rfl) (by kernel_rfl) (by kernel_rfl) (fun _ _ _ h => False.elim h) (Or.inr ⟨by rfl, rfl⟩) hHeld2 ?_
          simp only [Act.put, List.setIfInBounds_toArray, List.set_cons_zero, List.set_cons_succ]
          refine wpAnyH_take (i := 18) (v := undef) nth18 (by kernel_rfl) (by kernel_rfl) (by kernel_rfl) (fun _ _ _ h => False.elim h) (Or.inr ⟨by rfl, rfl⟩) hHeld2 ?_
          simp only [Act.put, List.setIfInBounds_toArray, List.set_cons_zero, List.set_cons_succ]
          refine wpAnyH_take (i := 19) (v := undef) nth19 (by kernel_rfl) (by kernel_rfl) (by kernel_rfl) (fun _ _ _ h => False.elim h) (Or.inr ⟨by rfl, rfl⟩) hHeld2 ?_
          simp only [Act.put, List.setIfInBounds_toArray, List.set_cons_zero, List.set_cons_succ]
          refine wpAnyH_take (i := 20) (v := undef) nth20 (by kernel_rfl) (by kernel_rfl) (by kernel_rfl) (fun _ _ _ h => False.elim h) (Or.inr ⟨by rfl, rfl⟩) hHeld2 ?_
          simp only [Act.put, List.setIfInBounds_toArray, List.set_cons_zero, List.set_cons_succ]
          refine wpAnyH_take (i := 21) (v := undef) nth21 (by kernel_rfl) (by kernel_rfl) (by kernel_rfl) (fun _ _ _ h => False.elim h) (Or.inr ⟨by rfl, rfl⟩) hHeld2 ?_
          simp only [Act.put, List.setIfInBounds_toArray, List.set_cons_zero, List.set_cons_succ]
          refine wpAnyH_take (i := 22) (v := undef) nth22 (by kernel_rfl) (by kernel_rfl) (by kernel_rfl) (fun _ _ _ h => False.elim h) (Or.inr ⟨by rfl, rfl⟩) hHeld2 ?_
          simp only [Act.put, List.setIfInBounds_toArray, List.set_cons_zero, List.set_cons_succ]
          refine wpAnyH_take (i := 23) (v := undef) nth23 (by kernel_rfl) (by kernel_rfl) (by kernel_rfl) (fun _ _ _ h => False.elim h) (Or.inr ⟨by rfl, rfl⟩) hHeld2 ?_
          simp only [Act.put, List.setIfInBounds_toArray, List.set_cons_zero, List.set_cons_succ]
          refine wpAnyH_take (i := 24) (v := .bool true) nth24 (by kernel_rfl) (by kernel_rfl) (by kernel_rfl) (fun _ _ _ h => False.elim h) (Or.inl ⟨by rfl, ?_⟩) hHeld2 ?_
          · intro wx hSw
            go_simp
          simp only [Act.put, List.setIfInBounds_toArray, List.set_cons_zero, List.set_cons_succ]
          refine wpAnyH_done (by kernel_rfl) ?_ _
          refine NoPanic.normal ?_
          have HW2 : Hid (Below w.heap.size w w2) := hHeld2.2.2.2.2.out.1
          clear hHeld2
          go_wp2
          go_ret
          exact ⟨ret_boolE HV.out, HW2.out⟩
        | true =>
          have he' : entryOkB (E.U k) (E.Q k) (E.K k) (E.X k) = true := he
          have hEO : ∀ wx : World, Calls Try.prog 29 #[.agg #[.string (E.U k), .int .i64 (E.Q k), .int .i64 (E.K k), .string (E.X k)]] wx fun e w' => e = .returned (.bool true) ∧ Below wx.heap.size wx w' := fun wx => he' ▸ spec_EntryOk (E.U k) (E.Q k) (E.K k) (E.X k) wx
          have HEO : Hid (∀ wx : World, Calls Try.prog 29 #[.agg #[.string (E.U k), .int .i64 (E.Q k), .int .i64 (E.K k), .string (E.X k)]] wx fun e w' => e = .returned (.bool true) ∧ Below wx.heap.size wx w') := hEO
          clear hEO he'
          rcases Nat.eq_zero_or_pos k with rfl | hk0
          · have HK2 : Hid (∀ i, i < 0 + 1 → entOk E i = true ∧ (0 < i → ordI E (i - 1) < 0)) := fun i hi => by
              obtain rfl : i = 0 := by omega
              exact ⟨he, fun h => absurd h (by omega)⟩
            simp only [Nat.zero_mul, Nat.add_zero] at c0 c1 c2 c3
            have hstart : wr.drew.cell? ⟨b, off, none⟩ = some (.string (E.U 0)) ∧ wr.drew.cell? ⟨b, off + 1, none⟩ = some (.int .i64 (E.Q 0)) ∧ wr.drew.cell? ⟨b, off + 2, none⟩ = some (.int .i64 (E.K 0)) ∧ wr.drew.cell? ⟨b, off + 3, none⟩ = some (.string (E.X 0)) ∧ Hid (Below w.heap.size w wr.drew ∧ b < wr.drew.heap.size) := ⟨c0, c1, c2, c3, HW.out.drew, hbz⟩
            clear c0 c1 c2 c3 he
            go_wp2_with fail
            refine wp_region_noPanic ?_
            refine wp_region_held_drew (S := fun (w' : World) => w'.cell? ⟨b, off, none⟩ = some (.string (E.U 0)) ∧ w'.cell? ⟨b, off + 1, none⟩ = some (.int .i64 (E.Q 0)) ∧ w'.cell? ⟨b, off + 2, none⟩ = some (.int .i64 (E.K 0)) ∧ w'.cell? ⟨b, off + 3, none⟩ = some (.string (E.X 0)) ∧ Hid (Below w.heap.size w w' ∧ b < w'.heap.size)) (by kernel_rfl) hstart (fun hHeld => ?_)
            clear hstart
            refine wpAnyH_take (i := 0) (v := .slice (some ⟨b, off, none⟩) len cap) nth0 (by kernel_rfl) (by kernel_rfl) (by kernel_rfl) (fun _ _ _ h => False.elim h) (Or.inl ⟨by rfl, ?_⟩) hHeld ?_
            · intro wx hSw
              go_simp
            simp only [Act.put, List.setIfInBounds_toArray, List.set_cons_zero, List.set_cons_succ]
            refine wpAnyH_take (i := 1) (v := .int .i64 0) nth1 (by kernel_rfl) (by kernel_rfl) (by kernel_rfl) (fun _ _ _ h => False.elim h) (Or.inl ⟨by rfl, ?_⟩) hHeld ?_
            · intro wx hSw
              go_simp
            simp only [Act.put, List.setIfInBounds_toArray, List.set_cons_zero, List.set_cons_succ]
            refine wpAnyH_take (i := 2) (v := .pointer (some ⟨b, off, none⟩)) nth2 (by kernel_rfl) (by kernel_rfl) (by kernel_rfl) (fun _ _ _ h => False.elim h) (Or.inl ⟨by rfl, ?_⟩) hHeld ?_
            · intro wx hSw
              go_simp
            simp only [Act.put, List.setIfInBounds_toArray, List.set_cons_zero, List.set_cons_succ]
            refine wpAnyH_take (i := 3) (v := .agg #[.string (E.U 0), .int .i64 (E.Q 0), .int .i64 (E.K 0), .string (E.X 0)]) nth3 (by kernel_rfl) (by kernel_rfl) (by kernel_rfl) (fun _ _ _ h => False.elim h) (Or.inl ⟨by rfl, ?_⟩) hHeld ?_
            · intro wx hSw
              go_simp
            simp only [Act.put, List.setIfInBounds_toArray, List.set_cons_zero, List.set_cons_succ]
            refine wpAnyH_ready (rs := [4]) (by kernel_rfl) (by simp) ?_
            refine AllReadyH.cons nth4 (fun K hK => ?_) AllReadyH.nil
            go_simp
            go_at_call 29
            refine (held_callE (S := fun (w' : World) => w'.cell? ⟨b, off, none⟩ = some (.string (E.U 0)) ∧ w'.cell? ⟨b, off + 1, none⟩ = some (.int .i64 (E.Q 0)) ∧ w'.cell? ⟨b, off + 2, none⟩ = some (.int .i64 (E.K 0)) ∧ w'.cell? ⟨b, off + 3, none⟩ = some (.string (E.X 0)) ∧ Hid (Below w.heap.size w w' ∧ b < w'.heap.size)) four_keep hHeld (HEO.out _)).mono ?_
            rintro e w2 ⟨rfl, hSS⟩
            refine hK.out _ _ hSS (fun hHeld2 => ?_)
            clear hK K hSS hHeld
            refine wpAnyH_take (i := 5) (v := .bool false) nth5 (by kernel_rfl) (by kernel_rfl) (by kernel_rfl) (fun _ _ _ h => False.elim h) (Or.inl ⟨by rfl, ?_⟩) hHeld2 ?_
            · intro wx hSw
              go_simp
            simp only [Act.put, List.setIfInBounds_toArray, List.set_cons_zero, List.set_cons_succ]
            refine wpAnyH_take (i := 6) (v := .bool false) nth6 (by kernel_rfl) (by kernel_rfl) (by kernel_rfl) (fun _ _ _ h => False.elim h) (Or.inl ⟨by rfl, ?_⟩) hHeld2 ?_
            · intro wx hSw
              go_simp
            simp only [Act.put, List.setIfInBounds_toArray, List.set_cons_zero, List.set_cons_succ]
            refine wpAnyH_take (i := 7) (v := .int .i64 0) nth7 (by kernel_rfl) (by kernel_rfl) (by kernel_rfl) (fun _ _ _ h => False.elim h) (Or.inl ⟨by rfl, ?_⟩) hHeld2 ?_
            · intro wx hSw
              go_simp
            simp only [Act.put, List.setIfInBounds_toArray, List.set_cons_zero, List.set_cons_succ]
            refine wpAnyH_take (i := 8) (v := .bool false) nth8 (by kernel_rfl) (by kernel_rfl) (by kernel_rfl) (fun _ _ _ h => False.elim h) (Or.inl ⟨by rfl, ?_⟩) hHeld2 ?_
            · intro wx hSw
              go_simp
            simp only [Act.put, List.setIfInBounds_toArray, List.set_cons_zero, List.set_cons_succ]
            refine wpAnyH_take (i := 9) (v := .bool false) nth9 (by kernel_rfl) (by kernel_rfl) (by kernel_rfl) (fun _ _ _ h => False.elim h) (Or.inl ⟨by rfl, ?_⟩) hHeld2 ?_
            · intro wx hSw
              go_simp
            simp only [Act.put, List.setIfInBounds_toArray, List.set_cons_zero, List.set_cons_succ]
            refine wpAnyH_take (i := 10) (v := undef) nth10 (by kernel_rfl) (by kernel_rfl) (by kernel_rfl) (fun _ _ _ h => False.elim h) (Or.inr ⟨by rfl, rfl⟩) hHeld2 ?_
            simp only [Act.put, List.setIfInBounds_toArray, List.set_cons_zero, List.set_cons_succ]
            refine wpAnyH_take (i := 11) (v := undef) nth11 (by kernel_rfl) (by kernel_rfl) (by kernel_rfl) (fun _ _ _ h => False.elim h) (Or.inr ⟨by rfl, rfl⟩) hHeld2 ?_
            simp only [Act.put, List.setIfInBounds_toArray, List.set_cons_zero, List.set_cons_succ]
            refine wpAnyH_take (i := 12) (v := undef) nth12 (by kernel_rfl) (by kernel_rfl) (by kernel_rfl) (fun _ _ _ h => False.elim h) (Or.inr ⟨by rfl, rfl⟩) hHeld2 ?_
            simp only [Act.put, List.setIfInBounds_toArray, List.set_cons_zero, List.set_cons_succ]
            refine wpAnyH_take (i := 13) (v := undef) nth13 (by kernel_rfl) (by kernel_rfl) (by kernel_rfl) (fun _ _ _ h => False.elim h) (Or.inr ⟨by rfl, rfl⟩) hHeld2 ?_
            simp only [Act.put, List.setIfInBounds_toArray, List.set_cons_zero, List.set_cons_succ]
            refine wpAnyH_take (i := 14) (v := undef) nth14 (by kernel_rfl) (by kernel_rfl) (by kernel_rfl) (fun _ _ _ h => False.elim h) (Or.inr ⟨by rfl, rfl⟩) hHeld2 ?_
            simp only [Act.put, List.setIfInBounds_toArray, List.set_cons_zero, List.set_cons_succ]
            refine wpAnyH_take (i := 15) (v := undef) nth15 (by kernel_rfl) (by kernel_rfl) (by kernel_rfl) (fun _ _ _ h => False.elim h) (Or.inr ⟨by rfl, rfl⟩) hHeld2 ?_
            simp only [Act.put, List.setIfInBounds_toArray, List.set_cons_zero, List.set_cons_succ]
            refine wpAnyH_take (i := 16) (v := undef) nth16 (by kernel_rfl) (by kernel_rfl) (by kernel_rfl) (fun _ _ _ h => False.elim h) (Or.inr ⟨by rfl, rfl⟩) hHeld2 ?_
            simp only [Act.put, List.setIfInBounds_toArray, List.set_cons_zero, List.set_cons_succ]
            refine wpAnyH_take (i := 17) (v := undef) nth17 (by kernel_rfl) (by kernel_rfl) (by kernel_rfl) (fun _ _ _ h => False.elim h) (Or.inr ⟨by rfl, rfl⟩) hHeld2 ?_
            simp only [Act.put, List.setIfInBounds_toArray, List.set_cons_zero, List.set_cons_succ]
            refine wpAnyH_take (i := 18) (v := undef) nth18 (by kernel_rfl) (by kernel_rfl) (by kernel_rfl) (fun _ _ _ h => False.elim h) (Or.inr ⟨by rfl, rfl⟩) hHeld2 ?_
            simp only [Act.put, List.setIfInBounds_toArray, List.set_cons_zero, List.set_cons_succ]
            refine wpAnyH_take (i := 19) (v := undef) nth19 (by kernel_rfl) (by kernel_rfl) (by kernel_rfl) (fun _ _ _ h => False.elim h) (Or.inr ⟨by rfl, rfl⟩) hHeld2 ?_
            simp only [Act.put, List.setIfInBounds_toArray, List.set_cons_zero, List.set_cons_succ]
            refine wpAnyH_take (i := 20) (v := undef) nth20 (by kernel_rfl) (by kernel_rfl) (by kernel_rfl) (fun _ _ _ h => False.elim h) (Or.inr ⟨by rfl, rfl⟩) hHeld2 ?_
            simp only [Act.put, List.setIfInBounds_toArray, List.set_cons_zero, List.set_cons_succ]
            refine wpAnyH_take (i := 21) (v := undef) nth21 (by kernel_rfl) (by kernel_rfl) (by kernel_rfl) (fun _ _ _ h => False.elim h) (Or.inr ⟨by rfl, rfl⟩) hHeld2 ?_
            simp only [Act.put, List.setIfInBounds_toArray, List.set_cons_zero, List.set_cons_succ]
            refine wpAnyH_take (i := 22) (v := undef) nth22 (by kernel_rfl) (by kernel_rfl) (by kernel_rfl) (fun _ _ _ h => False.elim h) (Or.inr ⟨by rfl, rfl⟩) hHeld2 ?_
            simp only [Act.put, List.setIfInBounds_toArray, List.set_cons_zero, List.set_cons_succ]
            refine wpAnyH_take (i := 23) (v := .bool false) nth23 (by kernel_rfl) (by kernel_rfl) (by kernel_rfl) (fun _ _ _ h => False.elim h) (Or.inl ⟨by rfl, ?_⟩) hHeld2 ?_
            · intro wx hSw
              go_simp
            simp only [Act.put, List.setIfInBounds_toArray, List.set_cons_zero, List.set_cons_succ]
            refine wpAnyH_take (i := 24) (v := .bool false) nth24 (by kernel_rfl) (by kernel_rfl) (by kernel_rfl) (fun _ _ _ h => False.elim h) (Or.inl ⟨by rfl, ?_⟩) hHeld2 ?_
            · intro wx hSw
              go_simp
            simp only [Act.put, List.setIfInBounds_toArray, List.set_cons_zero, List.set_cons_succ]
            refine wpAnyH_done (by kernel_rfl) ?_ _
            refine NoPanic.normal ?_
            have HW2 : Hid (Below w.heap.size w w2) := hHeld2.2.2.2.2.out.1
            clear hHeld2
            go_wp2
            exact ⟨⟨1, by go_num, by omega, HK2, HW2⟩, by simp [intOf]; omega⟩
          · obtain ⟨j, rfl⟩ : ∃ j, k = j + 1 := ⟨k - 1, by omega⟩
            obtain ⟨b', off', hbb, hb', e0, e1, e2, e3⟩ := (HS.out.below HW.out).at (show j < len by omega)
            simp only [Option.some.injEq, Addr.mk.injEq, and_true] at hbb
            obtain ⟨rfl, rfl⟩ := hbb
            have hkc : keyCmpI (E.U j) (E.Q j) (E.K j) (E.U (j + 1)) (E.Q (j + 1)) (E.K (j + 1)) = ordI E j := keyCmp_ok (keyOk_of_ent (HK.out j (by omega)).1) (keyOk_of_ent he)
            have hsub4 : IntKind.i64.wrap (j : Int) = (j : Int) := by rw [IntKind.wrap_i64]; omega
            have hsub5 : wrap64 (j : Int) = (j : Int) := by unfold wrap64; omega
            have hj00 : (0 : Int) ≤ (j : Int) := by omega
            have hj01 : (0 : Int) ≤ (j : Int) + 1 := by omega
            have hj02 : (j : Int) + 1 < (len : Int) := by omega
            have hjn : j < len := by omega
            have hjn2 : j + 1 < len := hlt
            have hj1 : (0 : Int) < (j : Int) + 1 := by omega
            have hjl : (j : Int) < (len : Int) := by omega
            have hstart : wr.drew.cell? ⟨b, off + (j + 1) * 4, none⟩ = some (.string (E.U (j + 1))) ∧ wr.drew.cell? ⟨b, off + (j + 1) * 4 + 1, none⟩ = some (.int .i64 (E.Q (j + 1))) ∧ wr.drew.cell? ⟨b, off + (j + 1) * 4 + 2, none⟩ = some (.int .i64 (E.K (j + 1))) ∧ wr.drew.cell? ⟨b, off + (j + 1) * 4 + 3, none⟩ = some (.string (E.X (j + 1))) ∧ wr.drew.cell? ⟨b, off + j * 4, none⟩ = some (.string (E.U j)) ∧ wr.drew.cell? ⟨b, off + j * 4 + 1, none⟩ = some (.int .i64 (E.Q j)) ∧ wr.drew.cell? ⟨b, off + j * 4 + 2, none⟩ = some (.int .i64 (E.K j)) ∧ Hid (Below w.heap.size w wr.drew ∧ b < wr.drew.heap.size) := ⟨c0, c1, c2, c3, e0, e1, e2, HW.out.drew, hbz⟩
            clear c0 c1 c2 c3 e0 e1 e2 e3 hb hb' hwz hbz
            have HEO2 := HEO
            have hkc2 : ∀ wx : World, Calls Try.prog 30 #[.agg #[.string (E.U j), .int .i64 (E.Q j), .int .i64 (E.K j)], .agg #[.string (E.U (j + 1)), .int .i64 (E.Q (j + 1)), .int .i64 (E.K (j + 1))]] wx fun e w' => e = .returned (.int .i64 (ordI E j)) ∧ Below wx.heap.size wx w' := fun wx => hkc ▸ spec_KeyCmp (E.U j) (E.Q j) (E.K j) (E.U (j + 1)) (E.Q (j + 1)) (E.K (j + 1)) wx
            have HKC : Hid (∀ wx : World, Calls Try.prog 30 #[.agg #[.string (E.U j), .int .i64 (E.Q j), .int .i64 (E.K j)], .agg #[.string (E.U (j + 1)), .int .i64 (E.Q (j + 1)), .int .i64 (E.K (j + 1))]] wx fun e w' => e = .returned (.int .i64 (ordI E j)) ∧ Below wx.heap.size wx w') := hkc2
            have HW0 : Hid (entOk E (j + 1) = true) := he
            clear hkc hkc2 HEO2 he hk0 hk hlt
            by_cases ho : ordI E j < 0
            · have HK2 : Hid (∀ i, i < j + 1 + 1 → entOk E i = true ∧ (0 < i → ordI E (i - 1) < 0)) := fun i hi => by
                rcases Nat.lt_or_eq_of_le (Nat.le_of_lt_succ hi) with h | h
                · exact HK.out i h
                · subst h; exact ⟨HW0.out, fun _ => by simpa using ho⟩
              have ho2 : ¬ (0 ≤ ordI E j) := by omega
              have HLT : Hid (j + 1 < len) := hjn2
              generalize ordI E j = od at HKC ho ho2
              go_wp2_with fail
              refine wp_region_noPanic ?_
              refine wp_region_held_drew (S := fun (w' : World) => w'.cell? ⟨b, off + (j + 1) * 4, none⟩ = some (.string (E.U (j + 1))) ∧ w'.cell? ⟨b, off + (j + 1) * 4 + 1, none⟩ = some (.int .i64 (E.Q (j + 1))) ∧ w'.cell? ⟨b, off + (j + 1) * 4 + 2, none⟩ = some (.int .i64 (E.K (j + 1))) ∧ w'.cell? ⟨b, off + (j + 1) * 4 + 3, none⟩ = some (.string (E.X (j + 1))) ∧ w'.cell? ⟨b, off + j * 4, none⟩ = some (.string (E.U j)) ∧ w'.cell? ⟨b, off + j * 4 + 1, none⟩ = some (.int .i64 (E.Q j)) ∧ w'.cell? ⟨b, off + j * 4 + 2, none⟩ = some (.int .i64 (E.K j)) ∧ Hid (Below w.heap.size w w' ∧ b < w'.heap.size)) (by kernel_rfl) hstart (fun hHeld => ?_)
              clear hstart
              refine wpAnyH_take (i := 0) (v := .slice (some ⟨b, off, none⟩) len cap) nth0 (by kernel_rfl) (by kernel_rfl) (by kernel_rfl) (fun _ _ _ h => False.elim h) (Or.inl ⟨by rfl, ?_⟩) hHeld ?_
              · intro wx hSw
                go_simp
              simp only [Act.put, List.setIfInBounds_toArray, List.set_cons_zero, List.set_cons_succ]
              refine wpAnyH_take (i := 1) (v := .int .i64 ((j : Int) + 1)) nth1 (by kernel_rfl) (by kernel_rfl) (by kernel_rfl) (fun _ _ _ h => False.elim h) (Or.inl ⟨by rfl, ?_⟩) hHeld ?_
              · intro wx hSw
                go_simp
              simp only [Act.put, List.setIfInBounds_toArray, List.set_cons_zero, List.set_cons_succ]
              refine wpAnyH_take (i := 2) (v := .pointer (some ⟨b, off + (j + 1) * 4, none⟩)) nth2 (by kernel_rfl) (by kernel_rfl) (by kernel_rfl) (fun _ _ _ h => False.elim h) (Or.inl ⟨by rfl, ?_⟩) hHeld ?_
              · intro wx hSw
                go_simp
              simp only [Act.put, List.setIfInBounds_toArray, List.set_cons_zero, List.set_cons_succ]
              refine wpAnyH_take (i := 3) (v := .agg #[.string (E.U (j + 1)), .int .i64 (E.Q (j + 1)), .int .i64 (E.K (j + 1)), .string (E.X (j + 1))]) nth3 (by kernel_rfl) (by kernel_rfl) (by kernel_rfl) (fun _ _ _ h => False.elim h) (Or.inl ⟨by rfl, ?_⟩) hHeld ?_
              · intro wx hSw
                go_simp
              simp only [Act.put, List.setIfInBounds_toArray, List.set_cons_zero, List.set_cons_succ]
              refine wpAnyH_ready (rs := [4]) (by kernel_rfl) (by simp) ?_
              refine AllReadyH.cons nth4 (fun K hK => ?_) AllReadyH.nil
              go_simp
              go_at_call 29
              refine (held_callE (S := fun (w' : World) => w'.cell? ⟨b, off + (j + 1) * 4, none⟩ = some (.string (E.U (j + 1))) ∧ w'.cell? ⟨b, off + (j + 1) * 4 + 1, none⟩ = some (.int .i64 (E.Q (j + 1))) ∧ w'.cell? ⟨b, off + (j + 1) * 4 + 2, none⟩ = some (.int .i64 (E.K (j + 1))) ∧ w'.cell? ⟨b, off + (j + 1) * 4 + 3, none⟩ = some (.string (E.X (j + 1))) ∧ w'.cell? ⟨b, off + j * 4, none⟩ = some (.string (E.U j)) ∧ w'.cell? ⟨b, off + j * 4 + 1, none⟩ = some (.int .i64 (E.Q j)) ∧ w'.cell? ⟨b, off + j * 4 + 2, none⟩ = some (.int .i64 (E.K j)) ∧ Hid (Below w.heap.size w w' ∧ b < w'.heap.size)) seven_keep hHeld (HEO.out _)).mono ?_
              rintro e w2 ⟨rfl, hSS⟩
              refine hK.out _ _ hSS (fun hHeld2 => ?_)
              clear hK K hSS hHeld
              refine wpAnyH_take (i := 5) (v := .bool false) nth5 (by kernel_rfl) (by kernel_rfl) (by kernel_rfl) (fun _ _ _ h => False.elim h) (Or.inl ⟨by rfl, ?_⟩) hHeld2 ?_
              · intro wx hSw
                go_simp
              simp only [Act.put, List.setIfInBounds_toArray, List.set_cons_zero, List.set_cons_succ]
              refine wpAnyH_take (i := 6) (v := .bool false) nth6 (by kernel_rfl) (by kernel_rfl) (by kernel_rfl) (fun _ _ _ h => False.elim h) (Or.inl ⟨by rfl, ?_⟩) hHeld2 ?_
              · intro wx hSw
                go_simp
              simp only [Act.put, List.setIfInBounds_toArray, List.set_cons_zero, List.set_cons_succ]
              refine wpAnyH_take (i := 7) (v := .int .i64 ((j : Int) + 1)) nth7 (by kernel_rfl) (by kernel_rfl) (by kernel_rfl) (fun _ _ _ h => False.elim h) (Or.inl ⟨by rfl, ?_⟩) hHeld2 ?_
              · intro wx hSw
                go_simp
              simp only [Act.put, List.setIfInBounds_toArray, List.set_cons_zero, List.set_cons_succ]
              refine wpAnyH_take (i := 8) (v := .bool true) nth8 (by kernel_rfl) (by kernel_rfl) (by kernel_rfl) (fun _ _ _ h => False.elim h) (Or.inl ⟨by rfl, ?_⟩) hHeld2 ?_
              · intro wx hSw
                go_simp
              simp only [Act.put, List.setIfInBounds_toArray, List.set_cons_zero, List.set_cons_succ]
              refine wpAnyH_take (i := 9) (v := .bool true) nth9 (by kernel_rfl) (by kernel_rfl) (by kernel_rfl) (fun _ _ _ h => False.elim h) (Or.inl ⟨by rfl, ?_⟩) hHeld2 ?_
              · intro wx hSw
                go_simp
              simp only [Act.put, List.setIfInBounds_toArray, List.set_cons_zero, List.set_cons_succ]
              refine wpAnyH_take (i := 10) (v := .slice (some ⟨b, off, none⟩) len cap) nth10 (by kernel_rfl) (by kernel_rfl) (by kernel_rfl) (fun _ _ _ h => False.elim h) (Or.inl ⟨by rfl, ?_⟩) hHeld2 ?_
              · intro wx hSw
                go_simp
              simp only [Act.put, List.setIfInBounds_toArray, List.set_cons_zero, List.set_cons_succ]
              refine wpAnyH_take (i := 11) (v := .int .i64 ((j : Int) + 1)) nth11 (by kernel_rfl) (by kernel_rfl) (by kernel_rfl) (fun _ _ _ h => False.elim h) (Or.inl ⟨by rfl, ?_⟩) hHeld2 ?_
              · intro wx hSw
                go_simp
              simp only [Act.put, List.setIfInBounds_toArray, List.set_cons_zero, List.set_cons_succ]
              refine wpAnyH_take (i := 12) (v := .int .i64 j) nth12 (by kernel_rfl) (by kernel_rfl) (by kernel_rfl) (fun _ _ _ h => False.elim h) (Or.inl ⟨by rfl, ?_⟩) hHeld2 ?_
              · intro wx hSw
                go_simp
              simp only [Act.put, List.setIfInBounds_toArray, List.set_cons_zero, List.set_cons_succ]
              refine wpAnyH_take (i := 13) (v := .pointer (some ⟨b, off + j * 4, none⟩)) nth13 (by kernel_rfl) (by kernel_rfl) (by kernel_rfl) (fun _ _ _ h => False.elim h) (Or.inl ⟨by rfl, ?_⟩) hHeld2 ?_
              · intro wx hSw
                go_simp
              simp only [Act.put, List.setIfInBounds_toArray, List.set_cons_zero, List.set_cons_succ]
              refine wpAnyH_take (i := 14) (v := .pointer (some ⟨b, off + j * 4, none⟩)) nth14 (by kernel_rfl) (by kernel_rfl) (by kernel_rfl) (fun _ _ _ h => False.elim h) (Or.inl ⟨by rfl, ?_⟩) hHeld2 ?_
              · intro wx hSw
                go_simp
              simp only [Act.put, List.setIfInBounds_toArray, List.set_cons_zero, List.set_cons_succ]
              refine wpAnyH_take (i := 15) (v := .agg #[.string (E.U j), .int .i64 (E.Q j), .int .i64 (E.K j)]) nth15 (by kernel_rfl) (by kernel_rfl) (by kernel_rfl) (fun _ _ _ h => False.elim h) (Or.inl ⟨by rfl, ?_⟩) hHeld2 ?_
              · intro wx hSw
                go_simp
              simp only [Act.put, List.setIfInBounds_toArray, List.set_cons_zero, List.set_cons_succ]
              refine wpAnyH_take (i := 16) (v := .slice (some ⟨b, off, none⟩) len cap) nth16 (by kernel_rfl) (by kernel_rfl) (by kernel_rfl) (fun _ _ _ h => False.elim h) (Or.inl ⟨by rfl, ?_⟩) hHeld2 ?_
              · intro wx hSw
                go_simp
              simp only [Act.put, List.setIfInBounds_toArray, List.set_cons_zero, List.set_cons_succ]
              refine wpAnyH_take (i := 17) (v := .int .i64 ((j : Int) + 1)) nth17 (by kernel_rfl) (by kernel_rfl) (by kernel_rfl) (fun _ _ _ h => False.elim h) (Or.inl ⟨by rfl, ?_⟩) hHeld2 ?_
              · intro wx hSw
                go_simp
              simp only [Act.put, List.setIfInBounds_toArray, List.set_cons_zero, List.set_cons_succ]
              refine wpAnyH_take (i := 18) (v := .pointer (some ⟨b, off + (j + 1) * 4, none⟩)) nth18 (by kernel_rfl) (by kernel_rfl) (by kernel_rfl) (fun _ _ _ h => False.elim h) (Or.inl ⟨by rfl, ?_⟩) hHeld2 ?_
              · intro wx hSw
                go_simp
              simp only [Act.put, List.setIfInBounds_toArray, List.set_cons_zero, List.set_cons_succ]
              refine wpAnyH_take (i := 19) (v := .pointer (some ⟨b, off + (j + 1) * 4, none⟩)) nth19 (by kernel_rfl) (by kernel_rfl) (by kernel_rfl) (fun _ _ _ h => False.elim h) (Or.inl ⟨by rfl, ?_⟩) hHeld2 ?_
              · intro wx hSw
                go_simp
              simp only [Act.put, List.setIfInBounds_toArray, List.set_cons_zero, List.set_cons_succ]
              refine wpAnyH_take (i := 20) (v := .agg #[.string (E.U (j + 1)), .int .i64 (E.Q (j + 1)), .int .i64 (E.K (j + 1))]) nth20 (by kernel_rfl) (by kernel_rfl) (by kernel_rfl) (fun _ _ _ h => False.elim h) (Or.inl ⟨by rfl, ?_⟩) hHeld2 ?_
              · intro wx hSw
                go_simp
              simp only [Act.put, List.setIfInBounds_toArray, List.set_cons_zero, List.set_cons_succ]
              refine wpAnyH_ready (rs := [21]) (by kernel_rfl) (by simp) ?_
              refine AllReadyH.cons nth21 (fun K hK => ?_) AllReadyH.nil
              go_simp
              go_at_call 30
              refine (held_callE (S := fun (w' : World) => w'.cell? ⟨b, off + (j + 1) * 4, none⟩ = some (.string (E.U (j + 1))) ∧ w'.cell? ⟨b, off + (j + 1) * 4 + 1, none⟩ = some (.int .i64 (E.Q (j + 1))) ∧ w'.cell? ⟨b, off + (j + 1) * 4 + 2, none⟩ = some (.int .i64 (E.K (j + 1))) ∧ w'.cell? ⟨b, off + (j + 1) * 4 + 3, none⟩ = some (.string (E.X (j + 1))) ∧ w'.cell? ⟨b, off + j * 4, none⟩ = some (.string (E.U j)) ∧ w'.cell? ⟨b, off + j * 4 + 1, none⟩ = some (.int .i64 (E.Q j)) ∧ w'.cell? ⟨b, off + j * 4 + 2, none⟩ = some (.int .i64 (E.K j)) ∧ Hid (Below w.heap.size w w' ∧ b < w'.heap.size)) seven_keep hHeld2 (HKC.out _)).mono ?_
              rintro e w3 ⟨rfl, hSS⟩
              refine hK.out _ _ hSS (fun hHeld3 => ?_)
              clear hK K hSS hHeld2
              refine wpAnyH_take (i := 22) (v := .bool false) nth22 (by kernel_rfl) (by kernel_rfl) (by kernel_rfl) (fun _ _ _ h => False.elim h) (Or.inl ⟨by rfl, ?_⟩) hHeld3 ?_
              · intro wx hSw
                go_simp
              simp only [Act.put, List.setIfInBounds_toArray, List.set_cons_zero, List.set_cons_succ]
              refine wpAnyH_take (i := 23) (v := .bool false) nth23 (by kernel_rfl) (by kernel_rfl) (by kernel_rfl) (fun _ _ _ h => False.elim h) (Or.inl ⟨by rfl, ?_⟩) hHeld3 ?_
              · intro wx hSw
                go_simp
              simp only [Act.put, List.setIfInBounds_toArray, List.set_cons_zero, List.set_cons_succ]
              refine wpAnyH_take (i := 24) (v := .bool false) nth24 (by kernel_rfl) (by kernel_rfl) (by kernel_rfl) (fun _ _ _ h => False.elim h) (Or.inl ⟨by rfl, ?_⟩) hHeld3 ?_
              · intro wx hSw
                go_simp
              simp only [Act.put, List.setIfInBounds_toArray, List.set_cons_zero, List.set_cons_succ]
              refine wpAnyH_done (by kernel_rfl) ?_ _
              refine NoPanic.normal ?_
              have HW2 : Hid (Below w.heap.size w w3) := hHeld3.2.2.2.2.2.2.2.out.1
              clear hHeld3
              go_wp2
              exact ⟨⟨j + 1 + 1, by go_num, HLT.out, HK2, HW2⟩, by have := HLT.out; simp [intOf]; omega⟩
            · have HV : Hid (false = rowOkB E len) := (rowOk_order j hjn2 ho).symm
              have ho2 : 0 ≤ ordI E j := by omega
              generalize ordI E j = od at HKC ho ho2
              go_wp2_with fail
              refine wp_region_noPanic ?_
              refine wp_region_held_drew (S := fun (w' : World) => w'.cell? ⟨b, off + (j + 1) * 4, none⟩ = some (.string (E.U (j + 1))) ∧ w'.cell? ⟨b, off + (j + 1) * 4 + 1, none⟩ = some (.int .i64 (E.Q (j + 1))) ∧ w'.cell? ⟨b, off + (j + 1) * 4 + 2, none⟩ = some (.int .i64 (E.K (j + 1))) ∧ w'.cell? ⟨b, off + (j + 1) * 4 + 3, none⟩ = some (.string (E.X (j + 1))) ∧ w'.cell? ⟨b, off + j * 4, none⟩ = some (.string (E.U j)) ∧ w'.cell? ⟨b, off + j * 4 + 1, none⟩ = some (.int .i64 (E.Q j)) ∧ w'.cell? ⟨b, off + j * 4 + 2, none⟩ = some (.int .i64 (E.K j)) ∧ Hid (Below w.heap.size w w' ∧ b < w'.heap.size)) (by kernel_rfl) hstart (fun hHeld => ?_)
              clear hstart
              refine wpAnyH_take (i := 0) (v := .slice (some ⟨b, off, none⟩) len cap) nth0 (by kernel_rfl) (by kernel_rfl) (by kernel_rfl) (fun _ _ _ h => False.elim h) (Or.inl ⟨by rfl, ?_⟩) hHeld ?_
              · intro wx hSw
                go_simp
              simp only [Act.put, List.setIfInBounds_toArray, List.set_cons_zero, List.set_cons_succ]
              refine wpAnyH_take (i := 1) (v := .int .i64 ((j : Int) + 1)) nth1 (by kernel_rfl) (by kernel_rfl) (by kernel_rfl) (fun _ _ _ h => False.elim h) (Or.inl ⟨by rfl, ?_⟩) hHeld ?_
              · intro wx hSw
                go_simp
              simp only [Act.put, List.setIfInBounds_toArray, List.set_cons_zero, List.set_cons_succ]
              refine wpAnyH_take (i := 2) (v := .pointer (some ⟨b, off + (j + 1) * 4, none⟩)) nth2 (by kernel_rfl) (by kernel_rfl) (by kernel_rfl) (fun _ _ _ h => False.elim h) (Or.inl ⟨by rfl, ?_⟩) hHeld ?_
              · intro wx hSw
                go_simp
              simp only [Act.put, List.setIfInBounds_toArray, List.set_cons_zero, List.set_cons_succ]
              refine wpAnyH_take (i := 3) (v := .agg #[.string (E.U (j + 1)), .int .i64 (E.Q (j + 1)), .int .i64 (E.K (j + 1)), .string (E.X (j + 1))]) nth3 (by kernel_rfl) (by kernel_rfl) (by kernel_rfl) (fun _ _ _ h => False.elim h) (Or.inl ⟨by rfl, ?_⟩) hHeld ?_
              · intro wx hSw
                go_simp
              simp only [Act.put, List.setIfInBounds_toArray, List.set_cons_zero, List.set_cons_succ]
              refine wpAnyH_ready (rs := [4]) (by kernel_rfl) (by simp) ?_
              refine AllReadyH.cons nth4 (fun K hK => ?_) AllReadyH.nil
              go_simp
              go_at_call 29
              refine (held_callE (S := fun (w' : World) => w'.cell? ⟨b, off + (j + 1) * 4, none⟩ = some (.string (E.U (j + 1))) ∧ w'.cell? ⟨b, off + (j + 1) * 4 + 1, none⟩ = some (.int .i64 (E.Q (j + 1))) ∧ w'.cell? ⟨b, off + (j + 1) * 4 + 2, none⟩ = some (.int .i64 (E.K (j + 1))) ∧ w'.cell? ⟨b, off + (j + 1) * 4 + 3, none⟩ = some (.string (E.X (j + 1))) ∧ w'.cell? ⟨b, off + j * 4, none⟩ = some (.string (E.U j)) ∧ w'.cell? ⟨b, off + j * 4 + 1, none⟩ = some (.int .i64 (E.Q j)) ∧ w'.cell? ⟨b, off + j * 4 + 2, none⟩ = some (.int .i64 (E.K j)) ∧ Hid (Below w.heap.size w w' ∧ b < w'.heap.size)) seven_keep hHeld (HEO.out _)).mono ?_
              rintro e w2 ⟨rfl, hSS⟩
              refine hK.out _ _ hSS (fun hHeld2 => ?_)
              clear hK K hSS hHeld
              refine wpAnyH_take (i := 5) (v := .bool false) nth5 (by kernel_rfl) (by kernel_rfl) (by kernel_rfl) (fun _ _ _ h => False.elim h) (Or.inl ⟨by rfl, ?_⟩) hHeld2 ?_
              · intro wx hSw
                go_simp
              simp only [Act.put, List.setIfInBounds_toArray, List.set_cons_zero, List.set_cons_succ]
              refine wpAnyH_take (i := 6) (v := .bool false) nth6 (by kernel_rfl) (by kernel_rfl) (by kernel_rfl) (fun _ _ _ h => False.elim h) (Or.inl ⟨by rfl, ?_⟩) hHeld2 ?_
              · intro wx hSw
                go_simp
              simp only [Act.put, List.setIfInBounds_toArray, List.set_cons_zero, List.set_cons_succ]
              refine wpAnyH_take (i := 7) (v := .int .i64 ((j : Int) + 1)) nth7 (by kernel_rfl) (by kernel_rfl) (by kernel_rfl) (fun _ _ _ h => False.elim h) (Or.inl ⟨by rfl, ?_⟩) hHeld2 ?_
              · intro wx hSw
                go_simp
              simp only [Act.put, List.setIfInBounds_toArray, List.set_cons_zero, List.set_cons_succ]
              refine wpAnyH_take (i := 8) (v := .bool true) nth8 (by kernel_rfl) (by kernel_rfl) (by kernel_rfl) (fun _ _ _ h => False.elim h) (Or.inl ⟨by rfl, ?_⟩) hHeld2 ?_
              · intro wx hSw
                go_simp
              simp only [Act.put, List.setIfInBounds_toArray, List.set_cons_zero, List.set_cons_succ]
              refine wpAnyH_take (i := 9) (v := .bool true) nth9 (by kernel_rfl) (by kernel_rfl) (by kernel_rfl) (fun _ _ _ h => False.elim h) (Or.inl ⟨by rfl, ?_⟩) hHeld2 ?_
              · intro wx hSw
                go_simp
              simp only [Act.put, List.setIfInBounds_toArray, List.set_cons_zero, List.set_cons_succ]
              refine wpAnyH_take (i := 10) (v := .slice (some ⟨b, off, none⟩) len cap) nth10 (by kernel_rfl) (by kernel_rfl) (by kernel_rfl) (fun _ _ _ h => False.elim h) (Or.inl ⟨by rfl, ?_⟩) hHeld2 ?_
              · intro wx hSw
                go_simp
              simp only [Act.put, List.setIfInBounds_toArray, List.set_cons_zero, List.set_cons_succ]
              refine wpAnyH_take (i := 11) (v := .int .i64 ((j : Int) + 1)) nth11 (by kernel_rfl) (by kernel_rfl) (by kernel_rfl) (fun _ _ _ h => False.elim h) (Or.inl ⟨by rfl, ?_⟩) hHeld2 ?_
              · intro wx hSw
                go_simp
              simp only [Act.put, List.setIfInBounds_toArray, List.set_cons_zero, List.set_cons_succ]
              refine wpAnyH_take (i := 12) (v := .int .i64 j) nth12 (by kernel_rfl) (by kernel_rfl) (by kernel_rfl) (fun _ _ _ h => False.elim h) (Or.inl ⟨by rfl, ?_⟩) hHeld2 ?_
              · intro wx hSw
                go_simp
              simp only [Act.put, List.setIfInBounds_toArray, List.set_cons_zero, List.set_cons_succ]
              refine wpAnyH_take (i := 13) (v := .pointer (some ⟨b, off + j * 4, none⟩)) nth13 (by kernel_rfl) (by kernel_rfl) (by kernel_rfl) (fun _ _ _ h => False.elim h) (Or.inl ⟨by rfl, ?_⟩) hHeld2 ?_
              · intro wx hSw
                go_simp
              simp only [Act.put, List.setIfInBounds_toArray, List.set_cons_zero, List.set_cons_succ]
              refine wpAnyH_take (i := 14) (v := .pointer (some ⟨b, off + j * 4, none⟩)) nth14 (by kernel_rfl) (by kernel_rfl) (by kernel_rfl) (fun _ _ _ h => False.elim h) (Or.inl ⟨by rfl, ?_⟩) hHeld2 ?_
              · intro wx hSw
                go_simp
              simp only [Act.put, List.setIfInBounds_toArray, List.set_cons_zero, List.set_cons_succ]
              refine wpAnyH_take (i := 15) (v := .agg #[.string (E.U j), .int .i64 (E.Q j), .int .i64 (E.K j)]) nth15 (by kernel_rfl) (by kernel_rfl) (by kernel_rfl) (fun _ _ _ h => False.elim h) (Or.inl ⟨by rfl, ?_⟩) hHeld2 ?_
              · intro wx hSw
                go_simp
              simp only [Act.put, List.setIfInBounds_toArray, List.set_cons_zero, List.set_cons_succ]
              refine wpAnyH_take (i := 16) (v := .slice (some ⟨b, off, none⟩) len cap) nth16 (by kernel_rfl) (by kernel_rfl) (by kernel_rfl) (fun _ _ _ h => False.elim h) (Or.inl ⟨by rfl, ?_⟩) hHeld2 ?_
              · intro wx hSw
                go_simp
              simp only [Act.put, List.setIfInBounds_toArray, List.set_cons_zero, List.set_cons_succ]
              refine wpAnyH_take (i := 17) (v := .int .i64 ((j : Int) + 1)) nth17 (by kernel_rfl) (by kernel_rfl) (by kernel_rfl) (fun _ _ _ h => False.elim h) (Or.inl ⟨by rfl, ?_⟩) hHeld2 ?_
              · intro wx hSw
                go_simp
              simp only [Act.put, List.setIfInBounds_toArray, List.set_cons_zero, List.set_cons_succ]
              refine wpAnyH_take (i := 18) (v := .pointer (some ⟨b, off + (j + 1) * 4, none⟩)) nth18 (by kernel_rfl) (by kernel_rfl) (by kernel_rfl) (fun _ _ _ h => False.elim h) (Or.inl ⟨by rfl, ?_⟩) hHeld2 ?_
              · intro wx hSw
                go_simp
              simp only [Act.put, List.setIfInBounds_toArray, List.set_cons_zero, List.set_cons_succ]
              refine wpAnyH_take (i := 19) (v := .pointer (some ⟨b, off + (j + 1) * 4, none⟩)) nth19 (by kernel_rfl) (by kernel_rfl) (by kernel_rfl) (fun _ _ _ h => False.elim h) (Or.inl ⟨by rfl, ?_⟩) hHeld2 ?_
              · intro wx hSw
                go_simp
              simp only [Act.put, List.setIfInBounds_toArray, List.set_cons_zero, List.set_cons_succ]
              refine wpAnyH_take (i := 20) (v := .agg #[.string (E.U (j + 1)), .int .i64 (E.Q (j + 1)), .int .i64 (E.K (j + 1))]) nth20 (by kernel_rfl) (by kernel_rfl) (by kernel_rfl) (fun _ _ _ h => False.elim h) (Or.inl ⟨by rfl, ?_⟩) hHeld2 ?_
              · intro wx hSw
                go_simp
              simp only [Act.put, List.setIfInBounds_toArray, List.set_cons_zero, List.set_cons_succ]
              refine wpAnyH_ready (rs := [21]) (by kernel_rfl) (by simp) ?_
              refine AllReadyH.cons nth21 (fun K hK => ?_) AllReadyH.nil
              go_simp
              go_at_call 30
              refine (held_callE (S := fun (w' : World) => w'.cell? ⟨b, off + (j + 1) * 4, none⟩ = some (.string (E.U (j + 1))) ∧ w'.cell? ⟨b, off + (j + 1) * 4 + 1, none⟩ = some (.int .i64 (E.Q (j + 1))) ∧ w'.cell? ⟨b, off + (j + 1) * 4 + 2, none⟩ = some (.int .i64 (E.K (j + 1))) ∧ w'.cell? ⟨b, off + (j + 1) * 4 + 3, none⟩ = some (.string (E.X (j + 1))) ∧ w'.cell? ⟨b, off + j * 4, none⟩ = some (.string (E.U j)) ∧ w'.cell? ⟨b, off + j * 4 + 1, none⟩ = some (.int .i64 (E.Q j)) ∧ w'.cell? ⟨b, off + j * 4 + 2, none⟩ = some (.int .i64 (E.K j)) ∧ Hid (Below w.heap.size w w' ∧ b < w'.heap.size)) seven_keep hHeld2 (HKC.out _)).mono ?_
              rintro e w3 ⟨rfl, hSS⟩
              refine hK.out _ _ hSS (fun hHeld3 => ?_)
              clear hK K hSS hHeld2
              refine wpAnyH_take (i := 22) (v := .bool true) nth22 (by kernel_rfl) (by kernel_rfl) (by kernel_rfl) (fun _ _ _ h => False.elim h) (Or.inl ⟨by rfl, ?_⟩) hHeld3 ?_
              · intro wx hSw
                go_simp
              simp only [Act.put, List.setIfInBounds_toArray, List.set_cons_zero, List.set_cons_succ]
              refine wpAnyH_take (i := 23) (v := .bool true) nth23 (by kernel_rfl) (by kernel_rfl) (by kernel_rfl) (fun _ _ _ h => False.elim h) (Or.inl ⟨by rfl, ?_⟩) hHeld3 ?_
              · intro wx hSw
                go_simp
              simp only [Act.put, List.setIfInBounds_toArray, List.set_cons_zero, List.set_cons_succ]
              refine wpAnyH_take (i := 24) (v := .bool true) nth24 (by kernel_rfl) (by kernel_rfl) (by kernel_rfl) (fun _ _ _ h => False.elim h) (Or.inl ⟨by rfl, ?_⟩) hHeld3 ?_
              · intro wx hSw
                go_simp
              simp only [Act.put, List.setIfInBounds_toArray, List.set_cons_zero, List.set_cons_succ]
              refine wpAnyH_done (by kernel_rfl) ?_ _
              refine NoPanic.normal ?_
              have HW2 : Hid (Below w.heap.size w w3) := hHeld3.2.2.2.2.2.2.2.out.1
              clear hHeld3
              go_wp2
              go_ret
              exact ⟨ret_boolE HV.out, HW2.out⟩
      · obtain rfl : k = len := by omega
        have HV : Hid (true = rowOkB E k) := (rowOk_yes h4 HK.out).symm
        go_wp2
        go_ret
        exact ⟨ret_boolE HV.out, HW.out⟩
  · have h4' : (400 : Int) < (len : Int) := by omega
    have HV : Hid (false = rowOkB E len) := (rowOk_many h4).symm
    go_enter Try.func16, Try.ntmps16
    go_wp2
    go_ret
    exact ⟨ret_boolE HV.out, Below.refl _ _⟩

end Go.Proofs.Ytjcoejabpagaiaa
