/- SeekEntry of the model: the place of a key in a row. -/
import Derived.Test.YtljmfdcilnbjaacEntsOkS
namespace Go.Proofs.Ytljmfdcilnbjaac
set_option maxRecDepth 100000
open Go.RowKit Go.Deep

/-- Entry i against a key. -/
def ordK (E : Ents) (u : ByteArray) (q k : Int) (i : Nat) : Int := orI (cmpS (E.U i) u) (cmpI q (E.Q i)) (cmpI k (E.K i))

/-- The place that is sought: all ahead of it are ahead of the key, it is not. -/
def PlaceAt (E : Ents) (len : Nat) (u : ByteArray) (q k : Int) (n : Nat) : Prop := n ≤ len ∧ (∀ i, i < n → ordK E u q k i < 0) ∧ (n < len → ¬ ordK E u q k n < 0)

/-- What SeekEntry answers. -/
def SeekAt (E : Ents) (len : Nat) (u : ByteArray) (q k : Int) (r : Int) : Prop := if (rowOkB E len && keyOkB u q k) = true then ∃ n : Nat, r = n ∧ PlaceAt E len u q k n else r = -1

theorem seekAt_one {E : Ents} {len : Nat} {u : ByteArray} {q k r s : Int} (h : SeekAt E len u q k r) (g : SeekAt E len u q k s) : r = s := by
  unfold SeekAt at h g
  split at h
  · rename_i hc
    rw [if_pos hc] at g
    obtain ⟨n, rfl, h1, h2, h3⟩ := h
    obtain ⟨m, rfl, g1, g2, g3⟩ := g
    rcases Nat.lt_trichotomy n m with e | e | e
    · exact absurd (g2 n e) (h3 (by omega))
    · rw [e]
    · exact absurd (h2 m e) (g3 (by omega))
  · rename_i hc
    rw [if_neg hc] at g
    rw [h, g]

theorem seek_no {E : Ents} {len : Nat} {u : ByteArray} {q k : Int} (h : rowOkB E len = false ∨ keyOkB u q k = false) : SeekAt E len u q k (-1) := by
  unfold SeekAt
  rw [if_neg]
  rcases h with h | h <;> simp [h]

theorem seek_yes {E : Ents} {len n : Nat} {u : ByteArray} {q k : Int} (h : rowOkB E len = true) (h2 : keyOkB u q k = true) (h3 : PlaceAt E len u q k n) : SeekAt E len u q k n := by
  unfold SeekAt
  rw [if_pos (by rw [h, h2]; rfl)]
  exact ⟨n, rfl, h3⟩

theorem specEntries {E : Ents} {len : Nat} {B : Bool} (he : rowOkB E len = B) {w0 : World} {a : Option Addr} {cap : Nat} (hl : len ≤ 1048576) (hS : Hid (EntAt w0 w0.heap.size a len E)) (w : World) (hB : Below w0.heap.size w0 w) :
    Calls Try.prog 26 #[.slice a len cap] w fun e w' => e = .returned (.bool B) ∧ Below w.heap.size w w' := he ▸ spec_EntriesOk a len cap E w hl ((hS.out.below hB).mono hB.size)

theorem specKeyOk {u : ByteArray} {q k : Int} {B : Bool} (he : keyOkB u q k = B) (w : World) :
    Calls Try.prog 41 #[.agg #[.string u, .int .i64 q, .int .i64 k]] w fun e w' => e = .returned (.bool B) ∧ Below w.heap.size w w' := he ▸ spec_KeyOk u q k w

set_option linter.unusedSimpArgs false in
set_option maxHeartbeats 4000000 in
set_option maxRecDepth 100000 in
theorem spec_SeekEntry (a : Option Addr) (len cap : Nat) (E : Ents) (u : ByteArray) (q k : Int) (w : World) (hl : len ≤ 1048576) (hS : EntAt w w.heap.size a len E) :
    Calls Try.prog 42 #[.slice a len cap, .agg #[.string u, .int .i64 q, .int .i64 k]] w fun e w' => (∃ r, e = .returned (.int .i64 r) ∧ SeekAt E len u q k r) ∧ Below w.heap.size w w' := by
  have hB0 : Below w.heap.size w (w.alloc (.cells #[.string u, .int .i64 q, .int .i64 k] 34)) := below1 _ _
  have K0 : (w.alloc (.cells #[.string u, .int .i64 q, .int .i64 k] 34)).cell? ⟨w.heap.size, 0, none⟩ = some (.string u) := by simp
  have K1 : (w.alloc (.cells #[.string u, .int .i64 q, .int .i64 k] 34)).cell? ⟨w.heap.size, 1, none⟩ = some (.int .i64 q) := by simp
  have K2 : (w.alloc (.cells #[.string u, .int .i64 q, .int .i64 k] 34)).cell? ⟨w.heap.size, 2, none⟩ = some (.int .i64 k) := by simp
  have hz0 : (w.alloc (.cells #[.string u, .int .i64 q, .int .i64 k] 34)).heap.size = w.heap.size + 1 := by simp
  have HS : Hid (EntAt (w.alloc (.cells #[.string u, .int .i64 q, .int .i64 k] 34)) (w.alloc (.cells #[.string u, .int .i64 q, .int .i64 k] 34)).heap.size a len E) := (hS.below hB0).mono hB0.size
  clear hS
  go_enter Try.func42, Try.ntmps42
  go_wp2_with fail
  generalize w.alloc (.cells #[.string u, .int .i64 q, .int .i64 k] 34) = w0 at hB0 K0 K1 K2 hz0 HS ⊢
  have HB0 : Hid (Below w.heap.size w w0) := hB0
  clear hB0
  have hgz : w.heap.size < w0.heap.size := by omega
  cases he : rowOkB E len with
  | false =>
    have HV : Hid (SeekAt E len u q k (-1)) := seek_no (.inl he)
    refine (specEntries he hl HS _ (Below.refl _ _)).mono ?_
    rintro e w1 ⟨rfl, hB1⟩
    have HB1 : Hid (Below w.heap.size w w1) := HB0.out.trans (hB1.mono HB0.out.size)
    clear hB1 K0 K1 K2 hz0
    go_wp2
    go_ret
    exact ⟨⟨_, rfl, HV.out⟩, HB1.out⟩
  | true =>
    refine (specEntries he hl HS _ (Below.refl _ _)).mono ?_
    rintro e w1 ⟨rfl, hB1⟩
    have k0 := (hB1.cell (p := ⟨w.heap.size, 0, none⟩) hgz).trans K0
    have k1 := (hB1.cell (p := ⟨w.heap.size, 1, none⟩) hgz).trans K1
    have k2 := (hB1.cell (p := ⟨w.heap.size, 2, none⟩) hgz).trans K2
    have HB1 : Hid (Below w0.heap.size w0 w1) := hB1
    have HK : Hid (w0.cell? ⟨w.heap.size, 0, none⟩ = some (.string u) ∧ w0.cell? ⟨w.heap.size, 1, none⟩ = some (.int .i64 q) ∧ w0.cell? ⟨w.heap.size, 2, none⟩ = some (.int .i64 k)) := ⟨K0, K1, K2⟩
    clear hB1 K0 K1 K2
    cases hk : keyOkB u q k with
    | false =>
      have HV : Hid (SeekAt E len u q k (-1)) := seek_no (.inr hk)
      go_wp2_with fail
      refine (specKeyOk hk _).mono ?_
      rintro e w2 ⟨rfl, hB2⟩
      have HB2 : Hid (Below w.heap.size w w2) := HB0.out.trans ((HB1.out.trans (hB2.mono HB1.out.size)).mono HB0.out.size)
      clear hB2 k0 k1 k2 hz0
      go_wp2
      go_ret
      exact ⟨⟨_, rfl, HV.out⟩, HB2.out⟩
    | true =>
      have HY : Hid (∀ n, PlaceAt E len u q k n → SeekAt E len u q k n) := fun n h => seek_yes he hk h
      have HO : Hid (∀ i, i < len → keyOkB (E.U i) (E.Q i) (E.K i) = true) := fun i hi => keyOk_of_ent ((rowOk_out he).2 i hi).1
      go_wp2_with fail
      refine (specKeyOk hk _).mono ?_
      rintro e w2 ⟨rfl, hB2⟩
      have HB2 : Hid (Below w0.heap.size w0 w2) := HB1.out.trans (hB2.mono HB1.out.size)
      have HKO : Hid (keyOkB u q k = true) := hk
      clear hB2 HB1 k0 k1 k2 he hk
      go_wp2
      go_loopw [5] (fun i wr => ∃ n : Nat, i = .int .i64 n ∧ n ≤ len ∧ Hid (∀ i, i < n → ordK E u q k i < 0) ∧ Hid (Below w0.heap.size w0 wr)) (fun i _ => len - (intOf i).toNat)
      case atStart => exact ⟨0, rfl, by omega, fun _ h => absurd h (by omega), HB2⟩
      case round =>
        obtain ⟨n, rfl, hn, HL, HW⟩ := hrel
        clear HB2
        by_cases hlt : n < len
        · obtain ⟨b, off, rfl, hb, c0, c1, c2, _⟩ := (HS.out.below HW.out).at hlt
          have hni : (n : Int) < (len : Int) := by omega
          have hn00 : (0 : Int) ≤ (n : Int) := by omega
          have hstart : wr.drew.cell? ⟨b, off + n * 4, none⟩ = some (.string (E.U n)) ∧ wr.drew.cell? ⟨b, off + n * 4 + 1, none⟩ = some (.int .i64 (E.Q n)) ∧ wr.drew.cell? ⟨b, off + n * 4 + 2, none⟩ = some (.int .i64 (E.K n)) ∧ wr.drew.cell? ⟨w.heap.size, 0, none⟩ = some (.string u) ∧ wr.drew.cell? ⟨w.heap.size, 1, none⟩ = some (.int .i64 q) ∧ wr.drew.cell? ⟨w.heap.size, 2, none⟩ = some (.int .i64 k) ∧ Hid (Below w0.heap.size w0 wr.drew ∧ w0.heap.size ≤ wr.drew.heap.size ∧ w0.heap.size ≤ w0.heap.size) := ⟨c0, c1, c2, (HW.out.cell (p := ⟨w.heap.size, 0, none⟩) hgz).trans HK.out.1, (HW.out.cell (p := ⟨w.heap.size, 1, none⟩) hgz).trans HK.out.2.1, (HW.out.cell (p := ⟨w.heap.size, 2, none⟩) hgz).trans HK.out.2.2, HW.out.drew, HW.out.size, Nat.le_refl _⟩
          clear c0 c1 c2
          have hkc : keyCmpI (E.U n) (E.Q n) (E.K n) u q k = ordK E u q k n := keyCmp_ok (HO.out n hlt) HKO.out
          have HKC : Hid (∀ wx : World, Calls Try.prog 50 #[.agg #[.string (E.U n), .int .i64 (E.Q n), .int .i64 (E.K n)], .agg #[.string u, .int .i64 q, .int .i64 k]] wx fun e w' => e = .returned (.int .i64 (ordK E u q k n)) ∧ Below wx.heap.size wx w') := fun wx => hkc ▸ spec_KeyCmp (E.U n) (E.Q n) (E.K n) u q k wx
          clear hkc
          by_cases ho : ordK E u q k n < 0
          · have HL2 : Hid (∀ i, i < n + 1 → ordK E u q k i < 0) := fun i hi => by
              rcases Nat.lt_or_eq_of_le (Nat.le_of_lt_succ hi) with h | h
              · exact HL.out i h
              · subst h; exact ho
            have HLT : Hid (n < len) := hlt
            generalize ordK E u q k n = od at HKC ho
            clear hlt
            go_wp2_with fail
            refine wp_region_noPanic ?_
            refine wp_region_held_drew (S := fun (w' : World) => w'.cell? ⟨b, off + n * 4, none⟩ = some (.string (E.U n)) ∧ w'.cell? ⟨b, off + n * 4 + 1, none⟩ = some (.int .i64 (E.Q n)) ∧ w'.cell? ⟨b, off + n * 4 + 2, none⟩ = some (.int .i64 (E.K n)) ∧ w'.cell? ⟨w.heap.size, 0, none⟩ = some (.string u) ∧ w'.cell? ⟨w.heap.size, 1, none⟩ = some (.int .i64 q) ∧ w'.cell? ⟨w.heap.size, 2, none⟩ = some (.int .i64 k) ∧ Hid (Below w0.heap.size w0 w' ∧ w0.heap.size ≤ w'.heap.size ∧ w0.heap.size ≤ w0.heap.size)) (by kernel_rfl) hstart (fun hHeld => ?_)
            clear hstart
            refine wpAnyH_take (i := 0) (v := .int .i64 n) nth0 (by kernel_rfl) (by kernel_rfl) (by kernel_rfl) (fun _ _ _ h => False.elim h) (Or.inl ⟨by rfl, ?_⟩) hHeld ?_
            · intro wx hSw
              go_simp
            simp only [Act.put, List.setIfInBounds_toArray, List.set_cons_zero, List.set_cons_succ]
            refine wpAnyH_take (i := 1) (v := .slice (some ⟨b, off, none⟩) len cap) nth1 (by kernel_rfl) (by kernel_rfl) (by kernel_rfl) (fun _ _ _ h => False.elim h) (Or.inl ⟨by rfl, ?_⟩) hHeld ?_
            · intro wx hSw
              go_simp
            simp only [Act.put, List.setIfInBounds_toArray, List.set_cons_zero, List.set_cons_succ]
            refine wpAnyH_take (i := 2) (v := .int .i64 len) nth2 (by kernel_rfl) (by kernel_rfl) (by kernel_rfl) (fun _ _ _ h => False.elim h) (Or.inl ⟨by rfl, ?_⟩) hHeld ?_
            · intro wx hSw
              go_simp
            simp only [Act.put, List.setIfInBounds_toArray, List.set_cons_zero, List.set_cons_succ]
            refine wpAnyH_take (i := 3) (v := .bool true) nth3 (by kernel_rfl) (by kernel_rfl) (by kernel_rfl) (fun _ _ _ h => False.elim h) (Or.inl ⟨by rfl, ?_⟩) hHeld ?_
            · intro wx hSw
              go_simp
            simp only [Act.put, List.setIfInBounds_toArray, List.set_cons_zero, List.set_cons_succ]
            refine wpAnyH_take (i := 4) (v := .bool true) nth4 (by kernel_rfl) (by kernel_rfl) (by kernel_rfl) (fun _ _ _ h => False.elim h) (Or.inl ⟨by rfl, ?_⟩) hHeld ?_
            · intro wx hSw
              go_simp
            simp only [Act.put, List.setIfInBounds_toArray, List.set_cons_zero, List.set_cons_succ]
            refine wpAnyH_take (i := 5) (v := .slice (some ⟨b, off, none⟩) len cap) nth5 (by kernel_rfl) (by kernel_rfl) (by kernel_rfl) (fun _ _ _ h => False.elim h) (Or.inl ⟨by rfl, ?_⟩) hHeld ?_
            · intro wx hSw
              go_simp
            simp only [Act.put, List.setIfInBounds_toArray, List.set_cons_zero, List.set_cons_succ]
            refine wpAnyH_take (i := 6) (v := .int .i64 n) nth6 (by kernel_rfl) (by kernel_rfl) (by kernel_rfl) (fun _ _ _ h => False.elim h) (Or.inl ⟨by rfl, ?_⟩) hHeld ?_
            · intro wx hSw
              go_simp
            simp only [Act.put, List.setIfInBounds_toArray, List.set_cons_zero, List.set_cons_succ]
            refine wpAnyH_take (i := 7) (v := .pointer (some ⟨b, off + n * 4, none⟩)) nth7 (by kernel_rfl) (by kernel_rfl) (by kernel_rfl) (fun _ _ _ h => False.elim h) (Or.inl ⟨by rfl, ?_⟩) hHeld ?_
            · intro wx hSw
              go_simp
            simp only [Act.put, List.setIfInBounds_toArray, List.set_cons_zero, List.set_cons_succ]
            refine wpAnyH_take (i := 8) (v := .pointer (some ⟨b, off + n * 4, none⟩)) nth8 (by kernel_rfl) (by kernel_rfl) (by kernel_rfl) (fun _ _ _ h => False.elim h) (Or.inl ⟨by rfl, ?_⟩) hHeld ?_
            · intro wx hSw
              go_simp
            simp only [Act.put, List.setIfInBounds_toArray, List.set_cons_zero, List.set_cons_succ]
            refine wpAnyH_take (i := 9) (v := .agg #[.string (E.U n), .int .i64 (E.Q n), .int .i64 (E.K n)]) nth9 (by kernel_rfl) (by kernel_rfl) (by kernel_rfl) (fun _ _ _ h => False.elim h) (Or.inl ⟨by rfl, ?_⟩) hHeld ?_
            · intro wx hSw
              go_simp
            simp only [Act.put, List.setIfInBounds_toArray, List.set_cons_zero, List.set_cons_succ]
            refine wpAnyH_take (i := 10) (v := .agg #[.string u, .int .i64 q, .int .i64 k]) nth10 (by kernel_rfl) (by kernel_rfl) (by kernel_rfl) (fun _ _ _ h => False.elim h) (Or.inl ⟨by rfl, ?_⟩) hHeld ?_
            · intro wx hSw
              go_simp
            simp only [Act.put, List.setIfInBounds_toArray, List.set_cons_zero, List.set_cons_succ]
            refine wpAnyH_ready (rs := [11]) (by kernel_rfl) (by simp) ?_
            refine AllReadyH.cons nth11 (fun K hK => ?_) AllReadyH.nil
            go_simp
            go_at_call 50
            refine (held_callE (S := fun (w' : World) => w'.cell? ⟨b, off + n * 4, none⟩ = some (.string (E.U n)) ∧ w'.cell? ⟨b, off + n * 4 + 1, none⟩ = some (.int .i64 (E.Q n)) ∧ w'.cell? ⟨b, off + n * 4 + 2, none⟩ = some (.int .i64 (E.K n)) ∧ w'.cell? ⟨w.heap.size, 0, none⟩ = some (.string u) ∧ w'.cell? ⟨w.heap.size, 1, none⟩ = some (.int .i64 q) ∧ w'.cell? ⟨w.heap.size, 2, none⟩ = some (.int .i64 k) ∧ Hid (Below w0.heap.size w0 w' ∧ w0.heap.size ≤ w'.heap.size ∧ w0.heap.size ≤ w0.heap.size)) (fun wa wb h hx => six_keep (B := w0.heap.size) (by omega) (by omega) wa wb h hx) hHeld (HKC.out _)).mono ?_
            rintro e w3 ⟨rfl, hSS⟩
            refine hK.out _ _ hSS (fun hHeld2 => ?_)
            clear hK K hSS hHeld
            refine wpAnyH_take (i := 12) (v := .bool true) nth12 (by kernel_rfl) (by kernel_rfl) (by kernel_rfl) (fun _ _ _ h => False.elim h) (Or.inl ⟨by rfl, ?_⟩) hHeld2 ?_
            · intro wx hSw
              go_simp
            simp only [Act.put, List.setIfInBounds_toArray, List.set_cons_zero, List.set_cons_succ]
            refine wpAnyH_take (i := 13) (v := .bool true) nth13 (by kernel_rfl) (by kernel_rfl) (by kernel_rfl) (fun _ _ _ h => False.elim h) (Or.inl ⟨by rfl, ?_⟩) hHeld2 ?_
            · intro wx hSw
              go_simp
            simp only [Act.put, List.setIfInBounds_toArray, List.set_cons_zero, List.set_cons_succ]
            refine wpAnyH_done (by kernel_rfl) ?_ _
            refine NoPanic.normal ?_
            have HW2 : Hid (Below w0.heap.size w0 w3) := hHeld2.2.2.2.2.2.2.out.1
            clear hHeld2
            go_wp2
            exact ⟨⟨n + 1, by go_num, HLT.out, HL2, HW2⟩, by have := HLT.out; simp [intOf]; omega⟩
          · have HV : Hid (SeekAt E len u q k n) := HY.out n ⟨hn, HL.out, fun _ => ho⟩
            generalize ordK E u q k n = od at HKC ho
            clear hlt
            go_wp2_with fail
            refine wp_region_noPanic ?_
            refine wp_region_held_drew (S := fun (w' : World) => w'.cell? ⟨b, off + n * 4, none⟩ = some (.string (E.U n)) ∧ w'.cell? ⟨b, off + n * 4 + 1, none⟩ = some (.int .i64 (E.Q n)) ∧ w'.cell? ⟨b, off + n * 4 + 2, none⟩ = some (.int .i64 (E.K n)) ∧ w'.cell? ⟨w.heap.size, 0, none⟩ = some (.string u) ∧ w'.cell? ⟨w.heap.size, 1, none⟩ = some (.int .i64 q) ∧ w'.cell? ⟨w.heap.size, 2, none⟩ = some (.int .i64 k) ∧ Hid (Below w0.heap.size w0 w' ∧ w0.heap.size ≤ w'.heap.size ∧ w0.heap.size ≤ w0.heap.size)) (by kernel_rfl) hstart (fun hHeld => ?_)
            clear hstart
            refine wpAnyH_take (i := 0) (v := .int .i64 n) nth0 (by kernel_rfl) (by kernel_rfl) (by kernel_rfl) (fun _ _ _ h => False.elim h) (Or.inl ⟨by rfl, ?_⟩) hHeld ?_
            · intro wx hSw
              go_simp
            simp only [Act.put, List.setIfInBounds_toArray, List.set_cons_zero, List.set_cons_succ]
            refine wpAnyH_take (i := 1) (v := .slice (some ⟨b, off, none⟩) len cap) nth1 (by kernel_rfl) (by kernel_rfl) (by kernel_rfl) (fun _ _ _ h => False.elim h) (Or.inl ⟨by rfl, ?_⟩) hHeld ?_
            · intro wx hSw
              go_simp
            simp only [Act.put, List.setIfInBounds_toArray, List.set_cons_zero, List.set_cons_succ]
            refine wpAnyH_take (i := 2) (v := .int .i64 len) nth2 (by kernel_rfl) (by kernel_rfl) (by kernel_rfl) (fun _ _ _ h => False.elim h) (Or.inl ⟨by rfl, ?_⟩) hHeld ?_
            · intro wx hSw
              go_simp
            simp only [Act.put, List.setIfInBounds_toArray, List.set_cons_zero, List.set_cons_succ]
            refine wpAnyH_take (i := 3) (v := .bool true) nth3 (by kernel_rfl) (by kernel_rfl) (by kernel_rfl) (fun _ _ _ h => False.elim h) (Or.inl ⟨by rfl, ?_⟩) hHeld ?_
            · intro wx hSw
              go_simp
            simp only [Act.put, List.setIfInBounds_toArray, List.set_cons_zero, List.set_cons_succ]
            refine wpAnyH_take (i := 4) (v := .bool true) nth4 (by kernel_rfl) (by kernel_rfl) (by kernel_rfl) (fun _ _ _ h => False.elim h) (Or.inl ⟨by rfl, ?_⟩) hHeld ?_
            · intro wx hSw
              go_simp
            simp only [Act.put, List.setIfInBounds_toArray, List.set_cons_zero, List.set_cons_succ]
            refine wpAnyH_take (i := 5) (v := .slice (some ⟨b, off, none⟩) len cap) nth5 (by kernel_rfl) (by kernel_rfl) (by kernel_rfl) (fun _ _ _ h => False.elim h) (Or.inl ⟨by rfl, ?_⟩) hHeld ?_
            · intro wx hSw
              go_simp
            simp only [Act.put, List.setIfInBounds_toArray, List.set_cons_zero, List.set_cons_succ]
            refine wpAnyH_take (i := 6) (v := .int .i64 n) nth6 (by kernel_rfl) (by kernel_rfl) (by kernel_rfl) (fun _ _ _ h => False.elim h) (Or.inl ⟨by rfl, ?_⟩) hHeld ?_
            · intro wx hSw
              go_simp
            simp only [Act.put, List.setIfInBounds_toArray, List.set_cons_zero, List.set_cons_succ]
            refine wpAnyH_take (i := 7) (v := .pointer (some ⟨b, off + n * 4, none⟩)) nth7 (by kernel_rfl) (by kernel_rfl) (by kernel_rfl) (fun _ _ _ h => False.elim h) (Or.inl ⟨by rfl, ?_⟩) hHeld ?_
            · intro wx hSw
              go_simp
            simp only [Act.put, List.setIfInBounds_toArray, List.set_cons_zero, List.set_cons_succ]
            refine wpAnyH_take (i := 8) (v := .pointer (some ⟨b, off + n * 4, none⟩)) nth8 (by kernel_rfl) (by kernel_rfl) (by kernel_rfl) (fun _ _ _ h => False.elim h) (Or.inl ⟨by rfl, ?_⟩) hHeld ?_
            · intro wx hSw
              go_simp
            simp only [Act.put, List.setIfInBounds_toArray, List.set_cons_zero, List.set_cons_succ]
            refine wpAnyH_take (i := 9) (v := .agg #[.string (E.U n), .int .i64 (E.Q n), .int .i64 (E.K n)]) nth9 (by kernel_rfl) (by kernel_rfl) (by kernel_rfl) (fun _ _ _ h => False.elim h) (Or.inl ⟨by rfl, ?_⟩) hHeld ?_
            · intro wx hSw
              go_simp
            simp only [Act.put, List.setIfInBounds_toArray, List.set_cons_zero, List.set_cons_succ]
            refine wpAnyH_take (i := 10) (v := .agg #[.string u, .int .i64 q, .int .i64 k]) nth10 (by kernel_rfl) (by kernel_rfl) (by kernel_rfl) (fun _ _ _ h => False.elim h) (Or.inl ⟨by rfl, ?_⟩) hHeld ?_
            · intro wx hSw
              go_simp
            simp only [Act.put, List.setIfInBounds_toArray, List.set_cons_zero, List.set_cons_succ]
            refine wpAnyH_ready (rs := [11]) (by kernel_rfl) (by simp) ?_
            refine AllReadyH.cons nth11 (fun K hK => ?_) AllReadyH.nil
            go_simp
            go_at_call 50
            refine (held_callE (S := fun (w' : World) => w'.cell? ⟨b, off + n * 4, none⟩ = some (.string (E.U n)) ∧ w'.cell? ⟨b, off + n * 4 + 1, none⟩ = some (.int .i64 (E.Q n)) ∧ w'.cell? ⟨b, off + n * 4 + 2, none⟩ = some (.int .i64 (E.K n)) ∧ w'.cell? ⟨w.heap.size, 0, none⟩ = some (.string u) ∧ w'.cell? ⟨w.heap.size, 1, none⟩ = some (.int .i64 q) ∧ w'.cell? ⟨w.heap.size, 2, none⟩ = some (.int .i64 k) ∧ Hid (Below w0.heap.size w0 w' ∧ w0.heap.size ≤ w'.heap.size ∧ w0.heap.size ≤ w0.heap.size)) (fun wa wb h hx => six_keep (B := w0.heap.size) (by omega) (by omega) wa wb h hx) hHeld (HKC.out _)).mono ?_
            rintro e w3 ⟨rfl, hSS⟩
            refine hK.out _ _ hSS (fun hHeld2 => ?_)
            clear hK K hSS hHeld
            refine wpAnyH_take (i := 12) (v := .bool false) nth12 (by kernel_rfl) (by kernel_rfl) (by kernel_rfl) (fun _ _ _ h => False.elim h) (Or.inl ⟨by rfl, ?_⟩) hHeld2 ?_
            · intro wx hSw
              go_simp
            simp only [Act.put, List.setIfInBounds_toArray, List.set_cons_zero, List.set_cons_succ]
            refine wpAnyH_take (i := 13) (v := .bool false) nth13 (by kernel_rfl) (by kernel_rfl) (by kernel_rfl) (fun _ _ _ h => False.elim h) (Or.inl ⟨by rfl, ?_⟩) hHeld2 ?_
            · intro wx hSw
              go_simp
            simp only [Act.put, List.setIfInBounds_toArray, List.set_cons_zero, List.set_cons_succ]
            refine wpAnyH_done (by kernel_rfl) ?_ _
            refine NoPanic.normal ?_
            have HW2 : Hid (Below w0.heap.size w0 w3) := hHeld2.2.2.2.2.2.2.out.1
            clear hHeld2
            go_wp2
            go_ret
            exact ⟨⟨_, rfl, HV.out⟩, HB0.out.trans (HW2.out.mono HB0.out.size)⟩
        · obtain rfl : n = len := by omega
          have HV : Hid (SeekAt E n u q k n) := HY.out n ⟨Nat.le_refl _, HL.out, fun h => absurd h (by omega)⟩
          have hstart : Hid (Below w0.heap.size w0 wr.drew) := HW.out.drew
          clear hlt hn
          go_wp2_with fail
          refine wp_region_noPanic ?_
          refine wp_region_held_drew (S := fun (w' : World) => Hid (Below w0.heap.size w0 w')) (by kernel_rfl) hstart (fun hHeld => ?_)
          clear hstart
          refine wpAnyH_take (i := 0) (v := .int .i64 n) nth0 (by kernel_rfl) (by kernel_rfl) (by kernel_rfl) (fun _ _ _ h => False.elim h) (Or.inl ⟨by rfl, ?_⟩) hHeld ?_
          · intro wx hSw
            go_simp
          simp only [Act.put, List.setIfInBounds_toArray, List.set_cons_zero, List.set_cons_succ]
          refine wpAnyH_take (i := 1) (v := .slice a n cap) nth1 (by kernel_rfl) (by kernel_rfl) (by kernel_rfl) (fun _ _ _ h => False.elim h) (Or.inl ⟨by rfl, ?_⟩) hHeld ?_
          · intro wx hSw
            go_simp
          simp only [Act.put, List.setIfInBounds_toArray, List.set_cons_zero, List.set_cons_succ]
          refine wpAnyH_take (i := 2) (v := .int .i64 n) nth2 (by kernel_rfl) (by kernel_rfl) (by kernel_rfl) (fun _ _ _ h => False.elim h) (Or.inl ⟨by rfl, ?_⟩) hHeld ?_
          · intro wx hSw
            go_simp
          simp only [Act.put, List.setIfInBounds_toArray, List.set_cons_zero, List.set_cons_succ]
          refine wpAnyH_take (i := 3) (v := .bool false) nth3 (by kernel_rfl) (by kernel_rfl) (by kernel_rfl) (fun _ _ _ h => False.elim h) (Or.inl ⟨by rfl, ?_⟩) hHeld ?_
          · intro wx hSw
            go_simp
          simp only [Act.put, List.setIfInBounds_toArray, List.set_cons_zero, List.set_cons_succ]
          refine wpAnyH_take (i := 4) (v := .bool false) nth4 (by kernel_rfl) (by kernel_rfl) (by kernel_rfl) (fun _ _ _ h => False.elim h) (Or.inl ⟨by rfl, ?_⟩) hHeld ?_
          · intro wx hSw
            go_simp
          simp only [Act.put, List.setIfInBounds_toArray, List.set_cons_zero, List.set_cons_succ]
          refine wpAnyH_take (i := 5) (v := undef) nth5 (by kernel_rfl) (by kernel_rfl) (by kernel_rfl) (fun _ _ _ h => False.elim h) (Or.inr ⟨by rfl, rfl⟩) hHeld ?_
          simp only [Act.put, List.setIfInBounds_toArray, List.set_cons_zero, List.set_cons_succ]
          refine wpAnyH_take (i := 6) (v := undef) nth6 (by kernel_rfl) (by kernel_rfl) (by kernel_rfl) (fun _ _ _ h => False.elim h) (Or.inr ⟨by rfl, rfl⟩) hHeld ?_
          simp only [Act.put, List.setIfInBounds_toArray, List.set_cons_zero, List.set_cons_succ]
          refine wpAnyH_take (i := 7) (v := undef) nth7 (by kernel_rfl) (by kernel_rfl) (by kernel_rfl) (fun _ _ _ h => False.elim h) (Or.inr ⟨by rfl, rfl⟩) hHeld ?_
          simp only [Act.put, List.setIfInBounds_toArray, List.set_cons_zero, List.set_cons_succ]
          refine wpAnyH_take (i := 8) (v := undef) nth8 (by kernel_rfl) (by kernel_rfl) (by kernel_rfl) (fun _ _ _ h => False.elim h) (Or.inr ⟨by rfl, rfl⟩) hHeld ?_
          simp only [Act.put, List.setIfInBounds_toArray, List.set_cons_zero, List.set_cons_succ]
          refine wpAnyH_take (i := 9) (v := undef) nth9 (by kernel_rfl) (by kernel_rfl) (by kernel_rfl) (fun _ _ _ h => False.elim h) (Or.inr ⟨by rfl, rfl⟩) hHeld ?_
          simp only [Act.put, List.setIfInBounds_toArray, List.set_cons_zero, List.set_cons_succ]
          refine wpAnyH_take (i := 10) (v := undef) nth10 (by kernel_rfl) (by kernel_rfl) (by kernel_rfl) (fun _ _ _ h => False.elim h) (Or.inr ⟨by rfl, rfl⟩) hHeld ?_
          simp only [Act.put, List.setIfInBounds_toArray, List.set_cons_zero, List.set_cons_succ]
          refine wpAnyH_take (i := 11) (v := undef) nth11 (by kernel_rfl) (by kernel_rfl) (by kernel_rfl) (fun _ _ _ h => False.elim h) (Or.inr ⟨by rfl, rfl⟩) hHeld ?_
          simp only [Act.put, List.setIfInBounds_toArray, List.set_cons_zero, List.set_cons_succ]
          refine wpAnyH_take (i := 12) (v := undef) nth12 (by kernel_rfl) (by kernel_rfl) (by kernel_rfl) (fun _ _ _ h => False.elim h) (Or.inr ⟨by rfl, rfl⟩) hHeld ?_
          simp only [Act.put, List.setIfInBounds_toArray, List.set_cons_zero, List.set_cons_succ]
          refine wpAnyH_take (i := 13) (v := .bool false) nth13 (by kernel_rfl) (by kernel_rfl) (by kernel_rfl) (fun _ _ _ h => False.elim h) (Or.inl ⟨by rfl, ?_⟩) hHeld ?_
          · intro wx hSw
            go_simp
          simp only [Act.put, List.setIfInBounds_toArray, List.set_cons_zero, List.set_cons_succ]
          refine wpAnyH_done (by kernel_rfl) ?_ _
          refine NoPanic.normal ?_
          clear hHeld
          go_wp2
          go_ret
          exact ⟨⟨_, rfl, HV.out⟩, HB0.out.trans (HW.out.drew.mono HB0.out.size)⟩

end Go.Proofs.Ytljmfdcilnbjaac
