/- EntriesOk of the program. -/
import Derived.Test.YtjcoejabpagaiaaEnts
import Derived.Test.YtjcoejabpagaiaaKOrd
namespace Go.Proofs.Ytjcoejabpagaiaa
set_option maxRecDepth 100000
open Go.RowKit Go.Deep

def entOk (E : Ents) (i : Nat) : Bool := entryOkB (E.U i) (E.Q i) (E.K i) (E.X i)
/-- Entry i against the next one. -/
def ordI (E : Ents) (i : Nat) : Int := orI (cmpS (E.U i) (E.U (i + 1))) (cmpI (E.Q (i + 1)) (E.Q i)) (cmpI (E.K (i + 1)) (E.K i))

def rowOkB (E : Ents) (len : Nat) : Bool := decide (len ≤ 400) && (List.range len).all fun i => entOk E i && (decide (i = 0) || decide (ordI E (i - 1) < 0))

theorem rowOk_yes {E : Ents} {len : Nat} (h : len ≤ 400) (h2 : ∀ i, i < len → entOk E i = true ∧ (0 < i → ordI E (i - 1) < 0)) : rowOkB E len = true := by
  unfold rowOkB
  rw [Bool.and_eq_true, List.all_eq_true]
  refine ⟨decide_eq_true h, fun i hi => ?_⟩
  obtain ⟨a, b⟩ := h2 i (List.mem_range.1 hi)
  rw [a, Bool.true_and]
  rcases Nat.eq_zero_or_pos i with h0 | h0
  · simp [h0]
  · simp [b h0]
theorem rowOk_many {E : Ents} {len : Nat} (h : ¬ len ≤ 400) : rowOkB E len = false := by
  unfold rowOkB; rw [decide_eq_false h, Bool.false_and]
theorem rowOk_out {E : Ents} {len : Nat} (h : rowOkB E len = true) : len ≤ 400 ∧ ∀ i, i < len → entOk E i = true ∧ (0 < i → ordI E (i - 1) < 0) := by
  unfold rowOkB at h
  rw [Bool.and_eq_true, List.all_eq_true] at h
  refine ⟨of_decide_eq_true h.1, fun i hi => ?_⟩
  have := h.2 i (List.mem_range.2 hi)
  rw [Bool.and_eq_true, Bool.or_eq_true] at this
  exact ⟨this.1, fun h0 => by rcases this.2 with h1 | h1; exact absurd (of_decide_eq_true h1) (by omega); exact of_decide_eq_true h1⟩
theorem rowOk_entry {E : Ents} {len : Nat} (i : Nat) (hi : i < len) (h : entOk E i = false) : rowOkB E len = false := by
  rw [Bool.eq_false_iff]
  intro e
  rw [((rowOk_out e).2 i hi).1] at h
  cases h
theorem rowOk_order {E : Ents} {len : Nat} (i : Nat) (hi : i + 1 < len) (h : ¬ ordI E i < 0) : rowOkB E len = false := by
  rw [Bool.eq_false_iff]
  intro e
  exact h (((rowOk_out e).2 (i + 1) hi).2 (by omega))

theorem six_keep {W : World} {b1 b2 : Nat} {o1 o2 : Nat} {x0 x1 x2 y0 y1 y2 : Value} {B : Nat} (hb1 : b1 < B) (hb2 : b2 < B) (wa wb : World)
    (h : wa.cell? ⟨b1, o1, none⟩ = some x0 ∧ wa.cell? ⟨b1, o1 + 1, none⟩ = some x1 ∧ wa.cell? ⟨b1, o1 + 2, none⟩ = some x2 ∧ wa.cell? ⟨b2, o2, none⟩ = some y0 ∧ wa.cell? ⟨b2, o2 + 1, none⟩ = some y1 ∧ wa.cell? ⟨b2, o2 + 2, none⟩ = some y2 ∧ Hid (Below W.heap.size W wa ∧ B ≤ wa.heap.size ∧ W.heap.size ≤ B))
    (hx : Below wa.heap.size wa wb) :
    wb.cell? ⟨b1, o1, none⟩ = some x0 ∧ wb.cell? ⟨b1, o1 + 1, none⟩ = some x1 ∧ wb.cell? ⟨b1, o1 + 2, none⟩ = some x2 ∧ wb.cell? ⟨b2, o2, none⟩ = some y0 ∧ wb.cell? ⟨b2, o2 + 1, none⟩ = some y1 ∧ wb.cell? ⟨b2, o2 + 2, none⟩ = some y2 ∧ Hid (Below W.heap.size W wb ∧ B ≤ wb.heap.size ∧ W.heap.size ≤ B) := by
  obtain ⟨c0, c1, c2, d0, d1, d2, hB, hz, hw⟩ := h
  have h1 : b1 < wa.heap.size := by omega
  have h2 : b2 < wa.heap.size := by omega
  exact ⟨(hx.cell (p := ⟨b1, _, none⟩) h1).trans c0, (hx.cell (p := ⟨b1, _, none⟩) h1).trans c1, (hx.cell (p := ⟨b1, _, none⟩) h1).trans c2, (hx.cell (p := ⟨b2, _, none⟩) h2).trans d0, (hx.cell (p := ⟨b2, _, none⟩) h2).trans d1, (hx.cell (p := ⟨b2, _, none⟩) h2).trans d2,
    hB.trans (hx.mono (by omega)), Nat.le_trans hz hx.size, hw⟩

set_option maxHeartbeats 2000000 in
set_option maxRecDepth 100000 in
theorem impl_EntriesOk (a : Option Addr) (len cap : Nat) (E : Ents) (w : World) (hl : len ≤ 1048576) (hS : EntAt w w.heap.size a len E) :
    Calls Try.prog 20 #[.slice a len cap] w fun e w' => e = .returned (.bool (rowOkB E len)) ∧ Below w.heap.size w w' := by
  by_cases h4 : len ≤ 400
  · have HS : Hid (EntAt w w.heap.size a len E) := hS
    clear hS
    have h4' : ¬ ((400 : Int) < (len : Int)) := by omega
    have HB0 : Hid (Below w.heap.size w w) := Below.refl _ _
    go_enter Try.func20, Try.ntmps20
    go_wp2
    go_loopw [10] (fun i wr => ∃ k : Nat, i = .int .i64 k ∧ k ≤ len ∧ Hid (∀ i, i < k → entOk E i = true ∧ (0 < i → ordI E (i - 1) < 0)) ∧ Hid (Below w.heap.size w wr)) (fun i _ => len - (intOf i).toNat)
    case atStart => exact ⟨0, rfl, by omega, fun _ h => absurd h (by omega), HB0⟩
    case round =>
      obtain ⟨k, rfl, hk, HK, HW⟩ := hrel
      clear HB0
      by_cases hlt : k < len
      · obtain ⟨b, off, rfl, hb, c0, c1, c2, c3⟩ := (HS.out.below HW.out).at hlt
        have hki : (k : Int) < (len : Int) := by omega
        have hwz := HW.out.size
        cases he : entOk E k with
        | false =>
          have he' : entryOkB (E.U k) (E.Q k) (E.K k) (E.X k) = false := he
          have HV : Hid (false = rowOkB E len) := (rowOk_entry k hlt he).symm
          go_wp2_with fail
          refine (impl_EntryOk (E.U k) (E.Q k) (E.K k) (E.X k) _).mono ?_
          rintro e w1 ⟨rfl, hb1⟩
          have HB1 : Hid (Below w.heap.size w w1) := (HW.out.alloc hwz _).trans (hb1.mono (by simp; omega))
          clear hb1 c0 c1 c2 c3
          go_wp2
          go_ret
          exact ⟨ret_boolE HV.out, HB1.out⟩
        | true =>
          have he' : entryOkB (E.U k) (E.Q k) (E.K k) (E.X k) = true := he
          rcases Nat.eq_zero_or_pos k with rfl | hk0
          · have HK2 : Hid (∀ i, i < 0 + 1 → entOk E i = true ∧ (0 < i → ordI E (i - 1) < 0)) := fun i hi => by
              obtain rfl : i = 0 := by omega
              exact ⟨he, fun h => absurd h (by omega)⟩
            simp only [Nat.zero_mul, Nat.add_zero] at c0 c1 c2 c3
            go_wp2_with fail
            refine (impl_EntryOk (E.U 0) (E.Q 0) (E.K 0) (E.X 0) _).mono ?_
            rintro e w1 ⟨rfl, hb1⟩
            have HB1 : Hid (Below w.heap.size w w1) := (HW.out.alloc hwz _).trans (hb1.mono (by simp; omega))
            clear hb1 c0 c1 c2 c3
            go_wp2
            go_quiet (fail)
            go_wp2
            exact ⟨⟨1, by go_num, by omega, HK2, below_drewN HB1.out _⟩, by simp [intOf]; omega⟩
          · obtain ⟨j, rfl⟩ : ∃ j, k = j + 1 := ⟨k - 1, by omega⟩
            obtain ⟨b', off', hbb, hb', e0, e1, e2, e3⟩ := (HS.out.below HW.out).at (show j < len by omega)
            simp only [Option.some.injEq, Addr.mk.injEq, and_true] at hbb
            obtain ⟨rfl, rfl⟩ := hbb
            have hsub : IntKind.i64.wrap (((j + 1 : Nat) : Int) - 1) = (j : Int) := by rw [IntKind.wrap_i64]; omega
            have hsub2 : IntKind.i64.wrap ((j : Int) + 1 - 1) = (j : Int) := by rw [IntKind.wrap_i64]; omega
            have hsub3 : wrap64 ((j : Int) + 1 - 1) = (j : Int) := by unfold wrap64; omega
            have hsub4 : IntKind.i64.wrap (j : Int) = (j : Int) := by rw [IntKind.wrap_i64]; omega
            have hsub5 : wrap64 (j : Int) = (j : Int) := by unfold wrap64; omega
            have hjl : (j : Int) < (len : Int) := by omega
            have hj00 : (0 : Int) ≤ (j : Int) := by omega
            have hjn : j < len := by omega
            have hj1 : (0 : Int) < (j : Int) + 1 := by omega
            have hj0 : (0 : Int) < ((j + 1 : Nat) : Int) := by omega
            have hne : wr.heap.size ≠ b := by omega
            go_wp2_with fail
            refine (impl_EntryOk (E.U (j + 1)) (E.Q (j + 1)) (E.K (j + 1)) (E.X (j + 1)) _).mono ?_
            rintro e w1 ⟨rfl, hb1⟩
            have hz1 : wr.heap.size + 1 ≤ w1.heap.size := by have := hb1.size; simpa using this
            have hstart : w1.drew.cell? ⟨b, off + j * 4, none⟩ = some (.string (E.U j)) ∧ w1.drew.cell? ⟨b, off + j * 4 + 1, none⟩ = some (.int .i64 (E.Q j)) ∧ w1.drew.cell? ⟨b, off + j * 4 + 2, none⟩ = some (.int .i64 (E.K j)) ∧ w1.drew.cell? ⟨wr.heap.size, 0, none⟩ = some (.string (E.U (j + 1))) ∧ w1.drew.cell? ⟨wr.heap.size, 1, none⟩ = some (.int .i64 (E.Q (j + 1))) ∧ w1.drew.cell? ⟨wr.heap.size, 2, none⟩ = some (.int .i64 (E.K (j + 1))) ∧ Hid (Below w.heap.size w w1.drew ∧ wr.heap.size + 1 ≤ w1.drew.heap.size ∧ w.heap.size ≤ wr.heap.size + 1) := by
              refine ⟨?_, ?_, ?_, ?_, ?_, ?_, ((HW.out.alloc hwz _).trans (hb1.mono (by simp; omega))).drew, hz1, by omega⟩
              · rw [World.cell?_drew, hb1.cell (by simp; omega), World.cell?_alloc_past _ _ _ (by omega)]; exact e0
              · rw [World.cell?_drew, hb1.cell (by simp; omega), World.cell?_alloc_past _ _ _ (by omega)]; exact e1
              · rw [World.cell?_drew, hb1.cell (by simp; omega), World.cell?_alloc_past _ _ _ (by omega)]; exact e2
              · rw [World.cell?_drew, hb1.cell (by simp)]; simp
              · rw [World.cell?_drew, hb1.cell (by simp)]; simp
              · rw [World.cell?_drew, hb1.cell (by simp)]; simp
            clear hb1 c0 c1 c2 c3 e0 e1 e2 e3
            go_wp2_with fail
            go_region_held3 (fun (w' : World) => w'.cell? ⟨b, off + j * 4, none⟩ = some (.string (E.U j)) ∧ w'.cell? ⟨b, off + j * 4 + 1, none⟩ = some (.int .i64 (E.Q j)) ∧ w'.cell? ⟨b, off + j * 4 + 2, none⟩ = some (.int .i64 (E.K j)) ∧ w'.cell? ⟨wr.heap.size, 0, none⟩ = some (.string (E.U (j + 1))) ∧ w'.cell? ⟨wr.heap.size, 1, none⟩ = some (.int .i64 (E.Q (j + 1))) ∧ w'.cell? ⟨wr.heap.size, 2, none⟩ = some (.int .i64 (E.K (j + 1))) ∧ Hid (Below w.heap.size w w' ∧ wr.heap.size + 1 ≤ w'.heap.size ∧ w.heap.size ≤ wr.heap.size + 1)) (assumption) ((go_at_call 34; refine (held_callE (S := fun (w' : World) => w'.cell? ⟨b, off + j * 4, none⟩ = some (.string (E.U j)) ∧ w'.cell? ⟨b, off + j * 4 + 1, none⟩ = some (.int .i64 (E.Q j)) ∧ w'.cell? ⟨b, off + j * 4 + 2, none⟩ = some (.int .i64 (E.K j)) ∧ w'.cell? ⟨wr.heap.size, 0, none⟩ = some (.string (E.U (j + 1))) ∧ w'.cell? ⟨wr.heap.size, 1, none⟩ = some (.int .i64 (E.Q (j + 1))) ∧ w'.cell? ⟨wr.heap.size, 2, none⟩ = some (.int .i64 (E.K (j + 1))) ∧ Hid (Below w.heap.size w w' ∧ wr.heap.size + 1 ≤ w'.heap.size ∧ w.heap.size ≤ wr.heap.size + 1)) (fun wa wb h hx => six_keep (B := wr.heap.size + 1) (by omega) (by omega) wa wb h hx) (by assumption) (impl_keyOrder _ _ _ _ _ _ _)).mono ?_; rintro e w2 ⟨rfl, hSS⟩))
            all_goals
              have HW2 : Hid (Below w.heap.size w w2) := hSS.2.2.2.2.2.2.1
              clear hSS hstart hsub hsub2 hsub3 hsub4 hsub5
              by_cases ho : ordI E j < 0
              · have ho' : orI (cmpS (E.U j) (E.U (j + 1))) (cmpI (E.Q (j + 1)) (E.Q j)) (cmpI (E.K (j + 1)) (E.K j)) < 0 := ho
                have HK2 : Hid (∀ i, i < j + 1 + 1 → entOk E i = true ∧ (0 < i → ordI E (i - 1) < 0)) := fun i hi => by
                  rcases Nat.lt_or_eq_of_le (Nat.le_of_lt_succ hi) with h | h
                  · exact HK.out i h
                  · subst h; exact ⟨he, fun _ => by simpa using ho⟩
                go_wp2
                exact ⟨⟨j + 1 + 1, by go_num, by omega, HK2, HW2⟩, by simp [intOf]; omega⟩
              · have ho' : ¬ orI (cmpS (E.U j) (E.U (j + 1))) (cmpI (E.Q (j + 1)) (E.Q j)) (cmpI (E.K (j + 1)) (E.K j)) < 0 := ho
                have HV : Hid (false = rowOkB E len) := (rowOk_order j (by omega) ho).symm
                go_wp2
                go_ret
                exact ⟨ret_boolE HV.out, HW2.out⟩
      · obtain rfl : k = len := by omega
        have HV : Hid (true = rowOkB E k) := (rowOk_yes h4 HK.out).symm
        go_wp2
        go_ret
        exact ⟨ret_boolE HV.out, HW.out⟩
  · have h4' : (400 : Int) < (len : Int) := by omega
    have HV : Hid (false = rowOkB E len) := (rowOk_many h4).symm
    go_enter Try.func20, Try.ntmps20
    go_wp2
    go_ret
    exact ⟨ret_boolE HV.out, Below.refl _ _⟩

end Go.Proofs.Ytjcoejabpagaiaa
