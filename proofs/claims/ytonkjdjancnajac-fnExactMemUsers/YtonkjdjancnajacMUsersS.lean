/- MemUsers of the model. -/
import Derived.Test.YtonkjdjancnajacMUsers
namespace Go.Proofs.Ytonkjdjancnajac
set_option maxRecDepth 100000
open Go.RowKit Go.Deep

set_option maxHeartbeats 400000 in
theorem spec_MemUsers (a : Option Addr) (len cap : Nat) (E : Ents) (w : World) (hl : len ≤ 1048576) (hS : EntAt w w.heap.size a len E) :
    Calls Try.prog 6 #[.slice a len cap] w fun e w' => (∃ v, e = .returned v ∧ OwnT w' w.heap.size v (memUsers E len)) ∧ Below w.heap.size w w' := by
  have hb0 := below_one w (.cells #[] 9)
  have HO0 : Hid (OwnT (w.alloc (.cells #[] 9)) w.heap.size (.slice (some ⟨w.heap.size, 0, none⟩) 0 0) []) := Own.lit w w.heap.size 9 [] 0 rfl (Nat.le_refl _) (by decide)
  have HB0 := hide hb0
  have HS : Hid (EntAt w w.heap.size a len E) := hS
  have hS1 := (hS.below hb0).mono hb0.size
  have hi5 : (Try.prog.info? 9).map (fun i => (i.zero, i.size, i.bytes)) = some (some (.string ⟨#[]⟩), 1, 16) := by kernel_rfl
  cases hok : rowOkB E len with
  | false =>
    have HV : Hid (memUsers E len = []) := memUsers_no hok
    clear hb0 hS
    go_enter Try.func6, Try.ntmps6
    go_wp2_with fail
    generalize w.alloc (.cells #[] 9) = W at HO0 HB0 hS1 ⊢
    refine (hok ▸ spec_EntriesOk a len cap E W hl hS1).mono ?_
    rintro e w1 ⟨rfl, hB⟩
    have HO1 := hide (HO0.out.next hB)
    have HB1 := hide (HB0.out.trans (hB.mono HB0.out.size))
    clear hok hB hS1
    go_wp2
    go_ret
    exact ⟨⟨_, rfl, by rw [HV.out]; exact HO1.out⟩, HB1.out⟩
  | true =>
    have HV : Hid (memUsers E len = us E len) := memUsers_yes hok
    obtain ⟨h4, hsz⟩ := rowOk_out hok
    have HZ : Hid (∀ i, i < len → entOk E i = true) := fun i hi => (hsz i hi).1
    clear hb0 hS
    go_enter Try.func6, Try.ntmps6
    go_wp2_with fail
    generalize w.alloc (.cells #[] 9) = W at HO0 HB0 hS1 ⊢
    refine (hok ▸ spec_EntriesOk a len cap E W hl hS1).mono ?_
    rintro e w1 ⟨rfl, hB⟩
    have HO1 : Hid (OwnT w1 w.heap.size (.slice (some ⟨w.heap.size, 0, none⟩) 0 0) (us E 0)) := HO0.out.next hB
    have HB1 := hide (HB0.out.trans (hB.mono HB0.out.size))
    clear hok hsz hB hS1 HO0 HB0
    go_wp2
    go_loopw [3, 4] (fun v i wr => ∃ k : Nat, i = .int .i64 k ∧ k ≤ len ∧ Hid (OwnT wr w.heap.size v (us E k)) ∧ Hid (Below w.heap.size w wr)) (fun _ i _ => len - (intOf i).toNat)
    case atStart => exact ⟨0, rfl, by omega, HO1, HB1⟩
    case round =>
      obtain ⟨k, rfl, hk, HO, HW⟩ := hrel
      clear HB1 HO1
      by_cases hlt : k < len
      · obtain ⟨b, off, rfl, hb, c0, c1, c2, c3⟩ := (HS.out.below HW.out).at hlt
        have hki : (k : Int) < (len : Int) := by omega
        have hwz := HW.out.size
        have hsz := (ent_sizes (HZ.out k hlt)).1
        have hul := us_len E k
        have HO1 := hide HO.out
        have HW1 := hide HW.out
        have x0 := c0
        by_cases hnew : k = 0 ∨ E.U (k - 1) ≠ E.U k
        · have HU : Hid (us E (k + 1) = us E k ++ [E.U k]) := by show _ = _; rw [us, if_pos hnew]
          rcases Nat.eq_zero_or_pos k with rfl | hkp
          · simp only [Nat.zero_mul, Nat.add_zero] at x0
            clear hnew HO HW c0 c1 c2 c3
            go_wp2_with fail
            go_quiet (fail)
            generalize hdr : wr.drewN _ = W4
            have hbd : Below wr.heap.size wr W4 := by rw [← hdr]; exact below_drewN (Below.refl _ _) _
            have HO2 := hide (HO1.out.next hbd)
            have HW2 := hide (HW1.out.trans (hbd.mono HW1.out.size))
            have y0 := keepc hbd x0
            clear hdr hbd HO1 HW1 x0
            have hsz5 := HW2.out.size
            have hown := HO2.out
            go_wp2_with (first
              | (at_builtin; refine wpList_append_one rfl _ _ 24 rfl 9 Try.underlying24 hi5 rfl (by decide) w.heap.size _ _ ((us E 0).map Value.string) (by rfl) (by rfl) hown rfl hsz5 ?c1 ?_))
            case c1 => first | omega | (simp; omega)
            intro v' w6 hown' hb'
            have HO6 : Hid (OwnT w6 w.heap.size v' (us E (0 + 1))) := by
              rw [HU.out]
              show Own _ _ _ _ _
              rw [List.map_append]
              exact hown'
            have HW6 := hide (HW2.out.trans hb')
            clear hown hown' hb' HW2 HO2 y0
            go_wp2
            exact ⟨⟨0 + 1, by go_num, by omega, HO6, HW6⟩, by simp [intOf]; omega⟩
          · obtain ⟨j, rfl⟩ : ∃ j, k = j + 1 := ⟨k - 1, by omega⟩
            have hneq : E.U j ≠ E.U (j + 1) := by
              rcases hnew with h | h
              · omega
              · exact h
            obtain ⟨b', off', hbb, hb', e0, e1, e2, e3⟩ := (HS.out.below HW.out).at (show j < len by omega)
            simp only [Option.some.injEq, Addr.mk.injEq, and_true] at hbb
            obtain ⟨rfl, rfl⟩ := hbb
            have hsub2 : IntKind.i64.wrap ((j : Int) + 1 - 1) = (j : Int) := by rw [IntKind.wrap_i64]; omega
            have hsub4 : IntKind.i64.wrap (j : Int) = (j : Int) := by rw [IntKind.wrap_i64]; omega
            have hjl : (j : Int) < (len : Int) := by omega
            have hj00 : (0 : Int) ≤ (j : Int) := by omega
            have hj1l : (j : Int) + 1 < (len : Int) := by omega
            have hj100 : (0 : Int) ≤ (j : Int) + 1 := by omega
            have hjn : j < len := by omega
            have hz0 : ((j : Int) + 1 == 0) = false := by simp; omega
            have hz1 : ¬ ((j : Int) + 1 = 0) := by omega
            clear hnew hkp c0 c1 c2 c3 e1 e2 e3 HO HW
            have hn2 := toList_ne hneq
            go_wp2_with fail
            generalize hu1 : E.U (j + 1) = u1 at *
            generalize hu0 : E.U j = u0 at *
            clear hu1 hu0
            refine wp_region_noPanic ?_
            refine wp_region_held_drew (S := fun x => Below wr.heap.size wr x) (by kernel_rfl) (Below.refl _ _).drew (fun hH => ?_)
            have hb0 : Below wr.heap.size wr wr.drew := hH
            clear hH
            have e0_0 := keepc hb0 e0
            have x0_0 := keepc hb0 x0
            generalize wr.drew = wq0 at hb0 e0_0 x0_0 ⊢
            refine wpAnyH_restart hb0 ?_
            refine wpAnyH_take (i := 0) (v := .int .i64 ((j : Int) + 1)) nat0 (by kernel_rfl) (by kernel_rfl) (by kernel_rfl) (fun _ _ _ h => False.elim h) (Or.inl ⟨by rfl, ?_⟩) (Below.refl _ _) ?_
            · intro wx hSw
              go_simp
            simp only [Act.put, List.setIfInBounds_toArray, List.set_cons_zero, List.set_cons_succ]
            refine wpAnyH_take (i := 1) (v := .bool false) nat1 (by kernel_rfl) (by kernel_rfl) (by kernel_rfl) (fun _ _ _ h => False.elim h) (Or.inl ⟨by rfl, ?_⟩) (Below.refl _ _) ?_
            · intro wx hSw
              go_simp
            simp only [Act.put, List.setIfInBounds_toArray, List.set_cons_zero, List.set_cons_succ]
            refine wpAnyH_take (i := 2) (v := .bool false) nat2 (by kernel_rfl) (by kernel_rfl) (by kernel_rfl) (fun _ _ _ h => False.elim h) (Or.inl ⟨by rfl, ?_⟩) (Below.refl _ _) ?_
            · intro wx hSw
              go_simp
            simp only [Act.put, List.setIfInBounds_toArray, List.set_cons_zero, List.set_cons_succ]
            refine wpAnyH_take (i := 3) (v := .slice (some ⟨b, off, none⟩) len cap) nat3 (by kernel_rfl) (by kernel_rfl) (by kernel_rfl) (fun _ _ _ h => False.elim h) (Or.inl ⟨by rfl, ?_⟩) (Below.refl _ _) ?_
            · intro wx hSw
              go_simp
            simp only [Act.put, List.setIfInBounds_toArray, List.set_cons_zero, List.set_cons_succ]
            refine wpAnyH_take (i := 4) (v := .int .i64 ((j : Int) + 1)) nat4 (by kernel_rfl) (by kernel_rfl) (by kernel_rfl) (fun _ _ _ h => False.elim h) (Or.inl ⟨by rfl, ?_⟩) (Below.refl _ _) ?_
            · intro wx hSw
              go_simp
            simp only [Act.put, List.setIfInBounds_toArray, List.set_cons_zero, List.set_cons_succ]
            refine wpAnyH_take (i := 5) (v := .int .i64 j) nat5 (by kernel_rfl) (by kernel_rfl) (by kernel_rfl) (fun _ _ _ h => False.elim h) (Or.inl ⟨by rfl, ?_⟩) (Below.refl _ _) ?_
            · intro wx hSw
              go_simp
            simp only [Act.put, List.setIfInBounds_toArray, List.set_cons_zero, List.set_cons_succ]
            refine wpAnyH_take (i := 6) (v := .pointer (some ⟨b, off + j * 4, none⟩)) nat6 (by kernel_rfl) (by kernel_rfl) (by kernel_rfl) (fun _ _ _ h => False.elim h) (Or.inl ⟨by rfl, ?_⟩) (Below.refl _ _) ?_
            · intro wx hSw
              go_simp
            simp only [Act.put, List.setIfInBounds_toArray, List.set_cons_zero, List.set_cons_succ]
            refine wpAnyH_take (i := 7) (v := .pointer (some ⟨b, off + j * 4, none⟩)) nat7 (by kernel_rfl) (by kernel_rfl) (by kernel_rfl) (fun _ _ _ h => False.elim h) (Or.inl ⟨by rfl, ?_⟩) (Below.refl _ _) ?_
            · intro wx hSw
              go_simp
            simp only [Act.put, List.setIfInBounds_toArray, List.set_cons_zero, List.set_cons_succ]
            refine wpAnyH_take (i := 8) (v := .pointer (some ⟨b, off + j * 4, none⟩)) nat8 (by kernel_rfl) (by kernel_rfl) (by kernel_rfl) (fun _ _ _ h => False.elim h) (Or.inl ⟨by rfl, ?_⟩) (Below.refl _ _) ?_
            · intro wx hSw
              go_simp
            simp only [Act.put, List.setIfInBounds_toArray, List.set_cons_zero, List.set_cons_succ]
            refine wpAnyH_take (i := 9) (v := .string u0) nat9 (by kernel_rfl) (by kernel_rfl) (by kernel_rfl) (fun _ _ _ h => False.elim h) (Or.inl ⟨by rfl, ?_⟩) (Below.refl _ _) ?_
            · intro wx hSw
              have hx : Below wq0.heap.size wq0 wx := hSw
              have e0 := keepc hx e0_0
              go_simp
            simp only [Act.put, List.setIfInBounds_toArray, List.set_cons_zero, List.set_cons_succ]
            refine wpAnyH_take (i := 10) (v := .slice (some ⟨b, off, none⟩) len cap) nat10 (by kernel_rfl) (by kernel_rfl) (by kernel_rfl) (fun _ _ _ h => False.elim h) (Or.inl ⟨by rfl, ?_⟩) (Below.refl _ _) ?_
            · intro wx hSw
              go_simp
            simp only [Act.put, List.setIfInBounds_toArray, List.set_cons_zero, List.set_cons_succ]
            refine wpAnyH_take (i := 11) (v := .int .i64 ((j : Int) + 1)) nat11 (by kernel_rfl) (by kernel_rfl) (by kernel_rfl) (fun _ _ _ h => False.elim h) (Or.inl ⟨by rfl, ?_⟩) (Below.refl _ _) ?_
            · intro wx hSw
              go_simp
            simp only [Act.put, List.setIfInBounds_toArray, List.set_cons_zero, List.set_cons_succ]
            refine wpAnyH_take (i := 12) (v := .pointer (some ⟨b, off + (j + 1) * 4, none⟩)) nat12 (by kernel_rfl) (by kernel_rfl) (by kernel_rfl) (fun _ _ _ h => False.elim h) (Or.inl ⟨by rfl, ?_⟩) (Below.refl _ _) ?_
            · intro wx hSw
              go_simp
            simp only [Act.put, List.setIfInBounds_toArray, List.set_cons_zero, List.set_cons_succ]
            refine wpAnyH_take (i := 13) (v := .pointer (some ⟨b, off + (j + 1) * 4, none⟩)) nat13 (by kernel_rfl) (by kernel_rfl) (by kernel_rfl) (fun _ _ _ h => False.elim h) (Or.inl ⟨by rfl, ?_⟩) (Below.refl _ _) ?_
            · intro wx hSw
              go_simp
            simp only [Act.put, List.setIfInBounds_toArray, List.set_cons_zero, List.set_cons_succ]
            refine wpAnyH_take (i := 14) (v := .pointer (some ⟨b, off + (j + 1) * 4, none⟩)) nat14 (by kernel_rfl) (by kernel_rfl) (by kernel_rfl) (fun _ _ _ h => False.elim h) (Or.inl ⟨by rfl, ?_⟩) (Below.refl _ _) ?_
            · intro wx hSw
              go_simp
            simp only [Act.put, List.setIfInBounds_toArray, List.set_cons_zero, List.set_cons_succ]
            refine wpAnyH_take (i := 15) (v := .string u1) nat15 (by kernel_rfl) (by kernel_rfl) (by kernel_rfl) (fun _ _ _ h => False.elim h) (Or.inl ⟨by rfl, ?_⟩) (Below.refl _ _) ?_
            · intro wx hSw
              have hx : Below wq0.heap.size wq0 wx := hSw
              have e0 := keepc hx x0_0
              go_simp
            simp only [Act.put, List.setIfInBounds_toArray, List.set_cons_zero, List.set_cons_succ]
            refine wpAnyH_take (i := 16) (v := .bool true) nat16 (by kernel_rfl) (by kernel_rfl) (by kernel_rfl) (fun _ _ _ h => False.elim h) (Or.inl ⟨by rfl, ?_⟩) (Below.refl _ _) ?_
            · intro wx hSw
              go_simp
            simp only [Act.put, List.setIfInBounds_toArray, List.set_cons_zero, List.set_cons_succ]
            refine wpAnyH_take (i := 17) (v := .bool true) nat17 (by kernel_rfl) (by kernel_rfl) (by kernel_rfl) (fun _ _ _ h => False.elim h) (Or.inl ⟨by rfl, ?_⟩) (Below.refl _ _) ?_
            · intro wx hSw
              go_simp
            simp only [Act.put, List.setIfInBounds_toArray, List.set_cons_zero, List.set_cons_succ]
            refine wpAnyH_done (by kernel_rfl) ?_ _
            refine NoPanic.normal ?_
            have HBL : Below wr.heap.size wr wq0 := hb0
            have HO2 := hide (HO1.out.next HBL)
            have HW2 := hide (HW1.out.trans (HBL.mono HW1.out.size))
            have y0 := x0_0
            clear HBL HO1 HW1
            have hsz5 := HW2.out.size
            have hown := HO2.out
            go_wp2_with (first
              | (at_builtin; refine wpList_append_one rfl _ _ 24 rfl 9 Try.underlying24 hi5 rfl (by decide) w.heap.size _ _ ((us E (j + 1)).map Value.string) (by rfl) (by rfl) hown rfl hsz5 ?c1 ?_))
            case c1 => first | omega | (simp; omega)
            intro v' w6 hown' hb'
            have HO6 : Hid (OwnT w6 w.heap.size v' (us E ((j + 1) + 1))) := by
              rw [HU.out]
              show Own _ _ _ _ _
              rw [List.map_append]
              exact hown'
            have HW6 := hide (HW2.out.trans hb')
            clear hown hown' hb' HW2 HO2 y0
            go_wp2
            exact ⟨⟨(j + 1) + 1, by go_num, by omega, HO6, HW6⟩, by simp [intOf]; omega⟩
        · have HU : Hid (us E (k + 1) = us E k) := by show _ = _; rw [us, if_neg hnew, List.append_nil]
          obtain ⟨j, rfl⟩ : ∃ j, k = j + 1 := ⟨k - 1, by omega⟩
          have heq : E.U j = E.U (j + 1) := by
            by_cases h : E.U j = E.U (j + 1)
            · exact h
            · exact absurd (Or.inr h) hnew
          obtain ⟨b', off', hbb, hb', e0, e1, e2, e3⟩ := (HS.out.below HW.out).at (show j < len by omega)
          simp only [Option.some.injEq, Addr.mk.injEq, and_true] at hbb
          obtain ⟨rfl, rfl⟩ := hbb
          have hsub2 : IntKind.i64.wrap ((j : Int) + 1 - 1) = (j : Int) := by rw [IntKind.wrap_i64]; omega
          have hsub4 : IntKind.i64.wrap (j : Int) = (j : Int) := by rw [IntKind.wrap_i64]; omega
          have hjl : (j : Int) < (len : Int) := by omega
          have hj00 : (0 : Int) ≤ (j : Int) := by omega
          have hj1l : (j : Int) + 1 < (len : Int) := by omega
          have hj100 : (0 : Int) ≤ (j : Int) + 1 := by omega
          have hjn : j < len := by omega
          have hz0 : ((j : Int) + 1 == 0) = false := by simp; omega
          have hz1 : ¬ ((j : Int) + 1 = 0) := by omega
          rw [heq] at e0
          clear hnew heq c0 c1 c2 c3 e1 e2 e3 HO HW
          go_wp2_with fail
          generalize hu1 : E.U (j + 1) = u1 at *
          clear hu1
          refine wp_region_noPanic ?_
          refine wp_region_held_drew (S := fun x => Below wr.heap.size wr x) (by kernel_rfl) (Below.refl _ _).drew (fun hH => ?_)
          have hb0 : Below wr.heap.size wr wr.drew := hH
          clear hH
          have e0_0 := keepc hb0 e0
          have x0_0 := keepc hb0 x0
          generalize wr.drew = wq0 at hb0 e0_0 x0_0 ⊢
          refine wpAnyH_restart hb0 ?_
          refine wpAnyH_take (i := 0) (v := .int .i64 ((j : Int) + 1)) nat0 (by kernel_rfl) (by kernel_rfl) (by kernel_rfl) (fun _ _ _ h => False.elim h) (Or.inl ⟨by rfl, ?_⟩) (Below.refl _ _) ?_
          · intro wx hSw
            go_simp
          simp only [Act.put, List.setIfInBounds_toArray, List.set_cons_zero, List.set_cons_succ]
          refine wpAnyH_take (i := 1) (v := .bool false) nat1 (by kernel_rfl) (by kernel_rfl) (by kernel_rfl) (fun _ _ _ h => False.elim h) (Or.inl ⟨by rfl, ?_⟩) (Below.refl _ _) ?_
          · intro wx hSw
            go_simp
          simp only [Act.put, List.setIfInBounds_toArray, List.set_cons_zero, List.set_cons_succ]
          refine wpAnyH_take (i := 2) (v := .bool false) nat2 (by kernel_rfl) (by kernel_rfl) (by kernel_rfl) (fun _ _ _ h => False.elim h) (Or.inl ⟨by rfl, ?_⟩) (Below.refl _ _) ?_
          · intro wx hSw
            go_simp
          simp only [Act.put, List.setIfInBounds_toArray, List.set_cons_zero, List.set_cons_succ]
          refine wpAnyH_take (i := 3) (v := .slice (some ⟨b, off, none⟩) len cap) nat3 (by kernel_rfl) (by kernel_rfl) (by kernel_rfl) (fun _ _ _ h => False.elim h) (Or.inl ⟨by rfl, ?_⟩) (Below.refl _ _) ?_
          · intro wx hSw
            go_simp
          simp only [Act.put, List.setIfInBounds_toArray, List.set_cons_zero, List.set_cons_succ]
          refine wpAnyH_take (i := 4) (v := .int .i64 ((j : Int) + 1)) nat4 (by kernel_rfl) (by kernel_rfl) (by kernel_rfl) (fun _ _ _ h => False.elim h) (Or.inl ⟨by rfl, ?_⟩) (Below.refl _ _) ?_
          · intro wx hSw
            go_simp
          simp only [Act.put, List.setIfInBounds_toArray, List.set_cons_zero, List.set_cons_succ]
          refine wpAnyH_take (i := 5) (v := .int .i64 j) nat5 (by kernel_rfl) (by kernel_rfl) (by kernel_rfl) (fun _ _ _ h => False.elim h) (Or.inl ⟨by rfl, ?_⟩) (Below.refl _ _) ?_
          · intro wx hSw
            go_simp
          simp only [Act.put, List.setIfInBounds_toArray, List.set_cons_zero, List.set_cons_succ]
          refine wpAnyH_take (i := 6) (v := .pointer (some ⟨b, off + j * 4, none⟩)) nat6 (by kernel_rfl) (by kernel_rfl) (by kernel_rfl) (fun _ _ _ h => False.elim h) (Or.inl ⟨by rfl, ?_⟩) (Below.refl _ _) ?_
          · intro wx hSw
            go_simp
          simp only [Act.put, List.setIfInBounds_toArray, List.set_cons_zero, List.set_cons_succ]
          refine wpAnyH_take (i := 7) (v := .pointer (some ⟨b, off + j * 4, none⟩)) nat7 (by kernel_rfl) (by kernel_rfl) (by kernel_rfl) (fun _ _ _ h => False.elim h) (Or.inl ⟨by rfl, ?_⟩) (Below.refl _ _) ?_
          · intro wx hSw
            go_simp
          simp only [Act.put, List.setIfInBounds_toArray, List.set_cons_zero, List.set_cons_succ]
          refine wpAnyH_take (i := 8) (v := .pointer (some ⟨b, off + j * 4, none⟩)) nat8 (by kernel_rfl) (by kernel_rfl) (by kernel_rfl) (fun _ _ _ h => False.elim h) (Or.inl ⟨by rfl, ?_⟩) (Below.refl _ _) ?_
          · intro wx hSw
            go_simp
          simp only [Act.put, List.setIfInBounds_toArray, List.set_cons_zero, List.set_cons_succ]
          refine wpAnyH_take (i := 9) (v := .string u1) nat9 (by kernel_rfl) (by kernel_rfl) (by kernel_rfl) (fun _ _ _ h => False.elim h) (Or.inl ⟨by rfl, ?_⟩) (Below.refl _ _) ?_
          · intro wx hSw
            have hx : Below wq0.heap.size wq0 wx := hSw
            have e0 := keepc hx e0_0
            go_simp
          simp only [Act.put, List.setIfInBounds_toArray, List.set_cons_zero, List.set_cons_succ]
          refine wpAnyH_take (i := 10) (v := .slice (some ⟨b, off, none⟩) len cap) nat10 (by kernel_rfl) (by kernel_rfl) (by kernel_rfl) (fun _ _ _ h => False.elim h) (Or.inl ⟨by rfl, ?_⟩) (Below.refl _ _) ?_
          · intro wx hSw
            go_simp
          simp only [Act.put, List.setIfInBounds_toArray, List.set_cons_zero, List.set_cons_succ]
          refine wpAnyH_take (i := 11) (v := .int .i64 ((j : Int) + 1)) nat11 (by kernel_rfl) (by kernel_rfl) (by kernel_rfl) (fun _ _ _ h => False.elim h) (Or.inl ⟨by rfl, ?_⟩) (Below.refl _ _) ?_
          · intro wx hSw
            go_simp
          simp only [Act.put, List.setIfInBounds_toArray, List.set_cons_zero, List.set_cons_succ]
          refine wpAnyH_take (i := 12) (v := .pointer (some ⟨b, off + (j + 1) * 4, none⟩)) nat12 (by kernel_rfl) (by kernel_rfl) (by kernel_rfl) (fun _ _ _ h => False.elim h) (Or.inl ⟨by rfl, ?_⟩) (Below.refl _ _) ?_
          · intro wx hSw
            go_simp
          simp only [Act.put, List.setIfInBounds_toArray, List.set_cons_zero, List.set_cons_succ]
          refine wpAnyH_take (i := 13) (v := .pointer (some ⟨b, off + (j + 1) * 4, none⟩)) nat13 (by kernel_rfl) (by kernel_rfl) (by kernel_rfl) (fun _ _ _ h => False.elim h) (Or.inl ⟨by rfl, ?_⟩) (Below.refl _ _) ?_
          · intro wx hSw
            go_simp
          simp only [Act.put, List.setIfInBounds_toArray, List.set_cons_zero, List.set_cons_succ]
          refine wpAnyH_take (i := 14) (v := .pointer (some ⟨b, off + (j + 1) * 4, none⟩)) nat14 (by kernel_rfl) (by kernel_rfl) (by kernel_rfl) (fun _ _ _ h => False.elim h) (Or.inl ⟨by rfl, ?_⟩) (Below.refl _ _) ?_
          · intro wx hSw
            go_simp
          simp only [Act.put, List.setIfInBounds_toArray, List.set_cons_zero, List.set_cons_succ]
          refine wpAnyH_take (i := 15) (v := .string u1) nat15 (by kernel_rfl) (by kernel_rfl) (by kernel_rfl) (fun _ _ _ h => False.elim h) (Or.inl ⟨by rfl, ?_⟩) (Below.refl _ _) ?_
          · intro wx hSw
            have hx : Below wq0.heap.size wq0 wx := hSw
            have e0 := keepc hx x0_0
            go_simp
          simp only [Act.put, List.setIfInBounds_toArray, List.set_cons_zero, List.set_cons_succ]
          refine wpAnyH_take (i := 16) (v := .bool false) nat16 (by kernel_rfl) (by kernel_rfl) (by kernel_rfl) (fun _ _ _ h => False.elim h) (Or.inl ⟨by rfl, ?_⟩) (Below.refl _ _) ?_
          · intro wx hSw
            go_simp
          simp only [Act.put, List.setIfInBounds_toArray, List.set_cons_zero, List.set_cons_succ]
          refine wpAnyH_take (i := 17) (v := .bool false) nat17 (by kernel_rfl) (by kernel_rfl) (by kernel_rfl) (fun _ _ _ h => False.elim h) (Or.inl ⟨by rfl, ?_⟩) (Below.refl _ _) ?_
          · intro wx hSw
            go_simp
          simp only [Act.put, List.setIfInBounds_toArray, List.set_cons_zero, List.set_cons_succ]
          refine wpAnyH_done (by kernel_rfl) ?_ _
          refine NoPanic.normal ?_
          have HBL : Below wr.heap.size wr wq0 := hb0
          have HO2 := hide (HO1.out.next HBL)
          have HW2 := hide (HW1.out.trans (HBL.mono HW1.out.size))
          have y0 := x0_0
          clear HBL HO1 HW1
          go_wp2
          exact ⟨⟨j + 1 + 1, by go_num, by omega, by rw [HU.out]; exact HO2, HW2⟩, by simp [intOf]; omega⟩
      · obtain rfl : k = len := by omega
        go_wp2
        go_ret
        exact ⟨⟨_, rfl, by rw [HV.out]; exact HO.out⟩, HW.out⟩

end Go.Proofs.Ytonkjdjancnajac
