/- MemUsers, of the program and of the model. -/
import Derived.Test.YtonkjdjancnajacLEntsOk
import Derived.Test.YtonkjdjancnajacMBytes
import Derived.Test.YtonkjdjancnajacClone
import Derived.Test.YtonkjdjancnajacStrs
import Derived.Test.YtonkjdjancnajacReg
import Derived.Test.YtonkjdjancnajacBox
namespace Go.Proofs.Ytonkjdjancnajac
set_option maxRecDepth 100000
open Go.RowKit Go.Deep

/-- The users of the first entries, each once. -/
def us (E : Ents) : Nat → List ByteArray
  | 0 => []
  | k + 1 => us E k ++ (if k = 0 ∨ E.U (k - 1) ≠ E.U k then [E.U k] else [])
def memUsers (E : Ents) (len : Nat) : List ByteArray := if rowOkB E len = true then us E len else []
theorem memUsers_yes {E : Ents} {len : Nat} (h : rowOkB E len = true) : memUsers E len = us E len := by rw [memUsers, if_pos h]
theorem memUsers_no {E : Ents} {len : Nat} (h : rowOkB E len = false) : memUsers E len = [] := by rw [memUsers, if_neg (by rw [h]; decide)]
theorem us_len (E : Ents) : ∀ k, (us E k).length ≤ k
  | 0 => by simp [us]
  | k + 1 => by
    have := us_len E k
    rw [us, List.length_append]
    split <;> simp <;> omega

/-- A row of texts of one's own. -/
def OwnT (w : World) (B : Nat) (v : Value) (xs : List ByteArray) : Prop := Own w B 9 v (xs.map Value.string)
theorem OwnT.nil (w : World) (B : Nat) : OwnT w B (.slice none 0 0) [] := Own.nil _ _ _
theorem OwnT.next {w w' : World} {B : Nat} {v : Value} {xs : List ByteArray} (h : OwnT w B v xs) (hb : Below w.heap.size w w') : OwnT w' B v xs := Own.below h hb (Nat.le_refl _)

theorem toList_ne {a b : ByteArray} (h : a ≠ b) : ¬ a.toList = b.toList := fun e => h (by
  rw [ByteArray.toList_eq, ByteArray.toList_eq] at e
  exact ByteArray.ext (Array.toList_inj.1 e))

set_option maxHeartbeats 400000 in
theorem impl_MemUsers (a : Option Addr) (len cap : Nat) (E : Ents) (w : World) (hl : len ≤ 1048576) (hS : EntAt w w.heap.size a len E) :
    Calls Try.prog 8 #[.slice a len cap] w fun e w' => (∃ v, e = .returned v ∧ OwnT w' w.heap.size v (memUsers E len)) ∧ Below w.heap.size w w' := by
  cases hok : rowOkB E len with
  | false =>
    have HV : Hid (memUsers E len = []) := memUsers_no hok
    go_enter Try.func8, Try.ntmps8
    go_wp2_with fail
    refine (hok ▸ impl_EntriesOk a len cap E w hl hS).mono ?_
    rintro e w1 ⟨rfl, hB⟩
    clear hok
    go_wp2
    go_ret
    exact ⟨⟨_, rfl, by rw [HV.out]; exact OwnT.nil _ _⟩, hB⟩
  | true =>
    have HV : Hid (memUsers E len = us E len) := memUsers_yes hok
    have HS : Hid (EntAt w w.heap.size a len E) := hS
    obtain ⟨h4, hsz⟩ := rowOk_out hok
    have HZ : Hid (∀ i, i < len → entOk E i = true) := fun i hi => (hsz i hi).1
    have hi5 : (Try.prog.info? 9).map (fun i => (i.zero, i.size, i.bytes)) = some (some (.string ⟨#[]⟩), 1, 16) := by kernel_rfl
    go_enter Try.func8, Try.ntmps8
    go_wp2_with fail
    refine (hok ▸ impl_EntriesOk a len cap E w hl hS).mono ?_
    rintro e w1 ⟨rfl, hB⟩
    have HB : Hid (Below w.heap.size w w1) := hB
    have HO0 : Hid (OwnT w1 w.heap.size (.slice none 0 0) (us E 0)) := OwnT.nil _ _
    clear hok hS hsz hB
    go_wp2
    go_loopw [3, 11] (fun v i wr => ∃ k : Nat, i = .int .i64 k ∧ k ≤ len ∧ Hid (OwnT wr w.heap.size v (us E k)) ∧ Hid (Below w.heap.size w wr)) (fun _ i _ => len - (intOf i).toNat)
    case atStart => exact ⟨0, rfl, by omega, HO0, HB⟩
    case round =>
      obtain ⟨k, rfl, hk, HO, HW⟩ := hrel
      clear HB HO0
      by_cases hlt : k < len
      · obtain ⟨b, off, rfl, hb, c0, c1, c2, c3⟩ := (HS.out.below HW.out).at hlt
        have hki : (k : Int) < (len : Int) := by omega
        have hwz := HW.out.size
        have hsz := (ent_sizes (HZ.out k hlt)).1
        have hul := us_len E k
        have hb1 := below_one wr (.cells #[.string (E.U k), .int .i64 (E.Q k), .int .i64 (E.K k), .string (E.X k)] 51)
        have hX := BoxIs.new wr #[.string (E.U k), .int .i64 (E.Q k), .int .i64 (E.K k), .string (E.X k)] 51 rfl
        have HO1 := hide (HO.out.next hb1)
        have HW1 := hide (HW.out.trans (hb1.mono hwz))
        by_cases hnew : k = 0 ∨ E.U (k - 1) ≠ E.U k
        · have HU : Hid (us E (k + 1) = us E k ++ [E.U k]) := by show _ = _; rw [us, if_pos hnew]
          rcases Nat.eq_zero_or_pos k with rfl | hkp
          · have x0 : (wr.alloc (.cells #[.string (E.U 0), .int .i64 (E.Q 0), .int .i64 (E.K 0), .string (E.X 0)] 51)).cell? ⟨wr.heap.size, 0, none⟩ = some (.string (E.U 0)) := hX.cell 0
            simp only [Nat.zero_mul, Nat.add_zero] at c0 c1 c2 c3
            clear hnew HO HW hX hb1
            go_wp2_with fail
            generalize wr.alloc (.cells #[.string (E.U 0), .int .i64 (E.Q 0), .int .i64 (E.K 0), .string (E.X 0)] 51) = W2 at x0 HO1 HW1 ⊢
            clear c0 c1 c2 c3
            go_quiet (fail)
            generalize hdr : W2.drewN _ = W4
            have hbd : Below W2.heap.size W2 W4 := by rw [← hdr]; exact below_drewN (Below.refl _ _) _
            have HO2 := hide (HO1.out.next hbd)
            have HW2 := hide (HW1.out.trans (hbd.mono HW1.out.size))
            have y0 : W4.cell? ⟨wr.heap.size, 0, none⟩ = some (.string (E.U 0)) := keepc hbd x0
            clear hdr hbd HO1 HW1 x0
            go_wp2_with fail
            refine (strings_Clone (E.U 0) _ (by omega)).mono ?_
            rintro e w5 ⟨rfl, hb5⟩
            have hown := HO2.out.next hb5
            have HW5 := hide (HW2.out.trans (hb5.mono HW2.out.size))
            have hsz5 := HW5.out.size
            clear hb5 HO2 HW2 y0
            go_wp2_with (first
              | (at_builtin; refine wpList_append_one rfl _ _ 24 rfl 9 Try.underlying24 hi5 rfl (by decide) w.heap.size _ _ ((us E 0).map Value.string) (by rfl) (by rfl) hown rfl hsz5 ?c1 ?_))
            case c1 => first | omega | (simp; omega)
            intro v' w6 hown' hb'
            have HO6 : Hid (OwnT w6 w.heap.size v' (us E (0 + 1))) := by
              rw [HU.out]
              show Own _ _ _ _ _
              rw [List.map_append]
              exact hown'
            have HW6 := hide (HW5.out.trans hb')
            clear hown hown' hb' HW5
            go_wp2
            exact ⟨⟨0 + 1, by go_num, by omega, HO6, HW6⟩, by simp [intOf]; omega⟩
          · obtain ⟨j, rfl⟩ : ∃ j, k = j + 1 := ⟨k - 1, by omega⟩
            have hneq : E.U j ≠ E.U (j + 1) := by
              rcases hnew with h | h
              · omega
              · exact h
            obtain ⟨b', off', hbb, hb', e0, e1, e2, e3⟩ := (HS.out.below HW.out).at (show j < len by omega)
            simp only [Option.some.injEq, Addr.mk.injEq, and_true] at hbb
            obtain ⟨rfl, rfl⟩ := hbb
            have hsub2 : IntKind.i64.wrap ((j : Int) + 1 - 1) = (j : Int) := by rw [IntKind.wrap_i64]; omega
            have hsub4 : IntKind.i64.wrap (j : Int) = (j : Int) := by rw [IntKind.wrap_i64]; omega
            have hjl : (j : Int) < (len : Int) := by omega
            have hj00 : (0 : Int) ≤ (j : Int) := by omega
            have hjn : j < len := by omega
            have hz0 : ((j : Int) + 1 == 0) = false := by simp; omega
            have hz1 : ¬ ((j : Int) + 1 = 0) := by omega
            have e0' := keepc hb1 e0
            have x0 : (wr.alloc (.cells #[.string (E.U (j + 1)), .int .i64 (E.Q (j + 1)), .int .i64 (E.K (j + 1)), .string (E.X (j + 1))] 51)).cell? ⟨wr.heap.size, 0, none⟩ = some (.string (E.U (j + 1))) := hX.cell 0
            clear hnew hkp e0 e1 e2 e3 HO HW hX hb1
            go_wp2_with fail
            generalize wr.alloc (.cells #[.string (E.U (j + 1)), .int .i64 (E.Q (j + 1)), .int .i64 (E.K (j + 1)), .string (E.X (j + 1))] 51) = W2 at e0' x0 HO1 HW1 ⊢
            have e0 := e0'
            have hn2 := toList_ne hneq
            generalize hu1 : E.U (j + 1) = u1 at *
            generalize hu0 : E.U j = u0 at *
            clear e0' c0 c1 c2 c3 hu1 hu0
            refine wp_region_noPanic ?_
            refine wp_region_held_drew (S := fun x => Below W2.heap.size W2 x) (by kernel_rfl) (Below.refl _ _).drew (fun hH => ?_)
            have hb0 : Below W2.heap.size W2 W2.drew := hH
            clear hH
            have e0_0 := keepc hb0 e0
            have x0_0 := keepc hb0 x0
            generalize W2.drew = wq0 at hb0 e0_0 x0_0 ⊢
            refine wpAnyH_restart hb0 ?_
            refine wpAnyH_take (i := 0) (v := .int .i64 ((j : Int) + 1)) nat0 (by kernel_rfl) (by kernel_rfl) (by kernel_rfl) (fun _ _ _ h => False.elim h) (Or.inl ⟨by rfl, ?_⟩) (Below.refl _ _) ?_
            · intro wx hSw
              go_simp
            simp only [Act.put, List.setIfInBounds_toArray, List.set_cons_zero, List.set_cons_succ]
            refine wpAnyH_take (i := 1) (v := .bool false) nat1 (by kernel_rfl) (by kernel_rfl) (by kernel_rfl) (fun _ _ _ h => False.elim h) (Or.inl ⟨by rfl, ?_⟩) (Below.refl _ _) ?_
            · intro wx hSw
              go_simp
            simp only [Act.put, List.setIfInBounds_toArray, List.set_cons_zero, List.set_cons_succ]
            refine wpAnyH_take (i := 2) (v := .bool false) nat2 (by kernel_rfl) (by kernel_rfl) (by kernel_rfl) (fun _ _ _ h => False.elim h) (Or.inl ⟨by rfl, ?_⟩) (Below.refl _ _) ?_
            · intro wx hSw
              go_simp
            simp only [Act.put, List.setIfInBounds_toArray, List.set_cons_zero, List.set_cons_succ]
            refine wpAnyH_take (i := 3) (v := .slice (some ⟨b, off, none⟩) len cap) nat3 (by kernel_rfl) (by kernel_rfl) (by kernel_rfl) (fun _ _ _ h => False.elim h) (Or.inl ⟨by rfl, ?_⟩) (Below.refl _ _) ?_
            · intro wx hSw
              go_simp
            simp only [Act.put, List.setIfInBounds_toArray, List.set_cons_zero, List.set_cons_succ]
            refine wpAnyH_take (i := 4) (v := .int .i64 ((j : Int) + 1)) nat4 (by kernel_rfl) (by kernel_rfl) (by kernel_rfl) (fun _ _ _ h => False.elim h) (Or.inl ⟨by rfl, ?_⟩) (Below.refl _ _) ?_
            · intro wx hSw
              go_simp
            simp only [Act.put, List.setIfInBounds_toArray, List.set_cons_zero, List.set_cons_succ]
            refine wpAnyH_take (i := 5) (v := .int .i64 j) nat5 (by kernel_rfl) (by kernel_rfl) (by kernel_rfl) (fun _ _ _ h => False.elim h) (Or.inl ⟨by rfl, ?_⟩) (Below.refl _ _) ?_
            · intro wx hSw
              go_simp
            simp only [Act.put, List.setIfInBounds_toArray, List.set_cons_zero, List.set_cons_succ]
            refine wpAnyH_take (i := 6) (v := .pointer (some ⟨b, off + j * 4, none⟩)) nat6 (by kernel_rfl) (by kernel_rfl) (by kernel_rfl) (fun _ _ _ h => False.elim h) (Or.inl ⟨by rfl, ?_⟩) (Below.refl _ _) ?_
            · intro wx hSw
              go_simp
            simp only [Act.put, List.setIfInBounds_toArray, List.set_cons_zero, List.set_cons_succ]
            refine wpAnyH_take (i := 7) (v := .pointer (some ⟨b, off + j * 4, none⟩)) nat7 (by kernel_rfl) (by kernel_rfl) (by kernel_rfl) (fun _ _ _ h => False.elim h) (Or.inl ⟨by rfl, ?_⟩) (Below.refl _ _) ?_
            · intro wx hSw
              go_simp
            simp only [Act.put, List.setIfInBounds_toArray, List.set_cons_zero, List.set_cons_succ]
            refine wpAnyH_take (i := 8) (v := .pointer (some ⟨b, off + j * 4, none⟩)) nat8 (by kernel_rfl) (by kernel_rfl) (by kernel_rfl) (fun _ _ _ h => False.elim h) (Or.inl ⟨by rfl, ?_⟩) (Below.refl _ _) ?_
            · intro wx hSw
              go_simp
            simp only [Act.put, List.setIfInBounds_toArray, List.set_cons_zero, List.set_cons_succ]
            refine wpAnyH_take (i := 9) (v := .string u0) nat9 (by kernel_rfl) (by kernel_rfl) (by kernel_rfl) (fun _ _ _ h => False.elim h) (Or.inl ⟨by rfl, ?_⟩) (Below.refl _ _) ?_
            · intro wx hSw
              have hx : Below wq0.heap.size wq0 wx := hSw
              have e0 := keepc hx e0_0
              go_simp
            simp only [Act.put, List.setIfInBounds_toArray, List.set_cons_zero, List.set_cons_succ]
            refine wpAnyH_take (i := 10) (v := .pointer (some ⟨wr.heap.size, 0, none⟩)) nat10 (by kernel_rfl) (by kernel_rfl) (by kernel_rfl) (fun _ _ _ h => False.elim h) (Or.inl ⟨by rfl, ?_⟩) (Below.refl _ _) ?_
            · intro wx hSw
              go_simp
            simp only [Act.put, List.setIfInBounds_toArray, List.set_cons_zero, List.set_cons_succ]
            refine wpAnyH_take (i := 11) (v := .pointer (some ⟨wr.heap.size, 0, none⟩)) nat11 (by kernel_rfl) (by kernel_rfl) (by kernel_rfl) (fun _ _ _ h => False.elim h) (Or.inl ⟨by rfl, ?_⟩) (Below.refl _ _) ?_
            · intro wx hSw
              go_simp
            simp only [Act.put, List.setIfInBounds_toArray, List.set_cons_zero, List.set_cons_succ]
            refine wpAnyH_take (i := 12) (v := .string u1) nat12 (by kernel_rfl) (by kernel_rfl) (by kernel_rfl) (fun _ _ _ h => False.elim h) (Or.inl ⟨by rfl, ?_⟩) (Below.refl _ _) ?_
            · intro wx hSw
              have hx : Below wq0.heap.size wq0 wx := hSw
              have e0 := keepc hx x0_0
              go_simp
            simp only [Act.put, List.setIfInBounds_toArray, List.set_cons_zero, List.set_cons_succ]
            refine wpAnyH_take (i := 13) (v := .bool true) nat13 (by kernel_rfl) (by kernel_rfl) (by kernel_rfl) (fun _ _ _ h => False.elim h) (Or.inl ⟨by rfl, ?_⟩) (Below.refl _ _) ?_
            · intro wx hSw
              go_simp
            simp only [Act.put, List.setIfInBounds_toArray, List.set_cons_zero, List.set_cons_succ]
            refine wpAnyH_take (i := 14) (v := .bool true) nat14 (by kernel_rfl) (by kernel_rfl) (by kernel_rfl) (fun _ _ _ h => False.elim h) (Or.inl ⟨by rfl, ?_⟩) (Below.refl _ _) ?_
            · intro wx hSw
              go_simp
            simp only [Act.put, List.setIfInBounds_toArray, List.set_cons_zero, List.set_cons_succ]
            refine wpAnyH_done (by kernel_rfl) ?_ _
            refine NoPanic.normal ?_
            have HBL : Below W2.heap.size W2 wq0 := hb0
            have HO2 := hide (HO1.out.next HBL)
            have HW2 := hide (HW1.out.trans (HBL.mono HW1.out.size))
            have y0 := x0_0
            clear HBL HO1 HW1
            go_wp2_with fail
            refine (strings_Clone u1 _ (by omega)).mono ?_
            rintro e w5 ⟨rfl, hb5⟩
            have hown := HO2.out.next hb5
            have HW5 := hide (HW2.out.trans (hb5.mono HW2.out.size))
            have hsz5 := HW5.out.size
            clear hb5 HO2 HW2 y0
            go_wp2_with (first
              | (at_builtin; refine wpList_append_one rfl _ _ 24 rfl 9 Try.underlying24 hi5 rfl (by decide) w.heap.size _ _ ((us E (j + 1)).map Value.string) (by rfl) (by rfl) hown rfl hsz5 ?c1 ?_))
            case c1 => first | omega | (simp; omega)
            intro v' w6 hown' hb'
            have HO6 : Hid (OwnT w6 w.heap.size v' (us E ((j + 1) + 1))) := by
              rw [HU.out]
              show Own _ _ _ _ _
              rw [List.map_append]
              exact hown'
            have HW6 := hide (HW5.out.trans hb')
            clear hown hown' hb' HW5
            go_wp2
            exact ⟨⟨(j + 1) + 1, by go_num, by omega, HO6, HW6⟩, by simp [intOf]; omega⟩
        · have HU : Hid (us E (k + 1) = us E k) := by show _ = _; rw [us, if_neg hnew, List.append_nil]
          obtain ⟨j, rfl⟩ : ∃ j, k = j + 1 := ⟨k - 1, by omega⟩
          have heq : E.U j = E.U (j + 1) := by
            by_cases h : E.U j = E.U (j + 1)
            · exact h
            · exact absurd (Or.inr h) hnew
          obtain ⟨b', off', hbb, hb', e0, e1, e2, e3⟩ := (HS.out.below HW.out).at (show j < len by omega)
          simp only [Option.some.injEq, Addr.mk.injEq, and_true] at hbb
          obtain ⟨rfl, rfl⟩ := hbb
          have hsub2 : IntKind.i64.wrap ((j : Int) + 1 - 1) = (j : Int) := by rw [IntKind.wrap_i64]; omega
          have hsub4 : IntKind.i64.wrap (j : Int) = (j : Int) := by rw [IntKind.wrap_i64]; omega
          have hjl : (j : Int) < (len : Int) := by omega
          have hj00 : (0 : Int) ≤ (j : Int) := by omega
          have hjn : j < len := by omega
          have hz0 : ((j : Int) + 1 == 0) = false := by simp; omega
          have hz1 : ¬ ((j : Int) + 1 = 0) := by omega
          rw [heq] at e0
          have e0' := keepc hb1 e0
          have x0 : (wr.alloc (.cells #[.string (E.U (j + 1)), .int .i64 (E.Q (j + 1)), .int .i64 (E.K (j + 1)), .string (E.X (j + 1))] 51)).cell? ⟨wr.heap.size, 0, none⟩ = some (.string (E.U (j + 1))) := hX.cell 0
          clear hnew heq e0 e1 e2 e3 HO HW hX hb1
          go_wp2_with fail
          generalize wr.alloc (.cells #[.string (E.U (j + 1)), .int .i64 (E.Q (j + 1)), .int .i64 (E.K (j + 1)), .string (E.X (j + 1))] 51) = W2 at e0' x0 HO1 HW1 ⊢
          have e0 := e0'
          generalize hu1 : E.U (j + 1) = u1 at *
          clear e0' c0 c1 c2 c3 hu1
          refine wp_region_noPanic ?_
          refine wp_region_held_drew (S := fun x => Below W2.heap.size W2 x) (by kernel_rfl) (Below.refl _ _).drew (fun hH => ?_)
          have hb0 : Below W2.heap.size W2 W2.drew := hH
          clear hH
          have e0_0 := keepc hb0 e0
          have x0_0 := keepc hb0 x0
          generalize W2.drew = wq0 at hb0 e0_0 x0_0 ⊢
          refine wpAnyH_restart hb0 ?_
          refine wpAnyH_take (i := 0) (v := .int .i64 ((j : Int) + 1)) nat0 (by kernel_rfl) (by kernel_rfl) (by kernel_rfl) (fun _ _ _ h => False.elim h) (Or.inl ⟨by rfl, ?_⟩) (Below.refl _ _) ?_
          · intro wx hSw
            go_simp
          simp only [Act.put, List.setIfInBounds_toArray, List.set_cons_zero, List.set_cons_succ]
          refine wpAnyH_take (i := 1) (v := .bool false) nat1 (by kernel_rfl) (by kernel_rfl) (by kernel_rfl) (fun _ _ _ h => False.elim h) (Or.inl ⟨by rfl, ?_⟩) (Below.refl _ _) ?_
          · intro wx hSw
            go_simp
          simp only [Act.put, List.setIfInBounds_toArray, List.set_cons_zero, List.set_cons_succ]
          refine wpAnyH_take (i := 2) (v := .bool false) nat2 (by kernel_rfl) (by kernel_rfl) (by kernel_rfl) (fun _ _ _ h => False.elim h) (Or.inl ⟨by rfl, ?_⟩) (Below.refl _ _) ?_
          · intro wx hSw
            go_simp
          simp only [Act.put, List.setIfInBounds_toArray, List.set_cons_zero, List.set_cons_succ]
          refine wpAnyH_take (i := 3) (v := .slice (some ⟨b, off, none⟩) len cap) nat3 (by kernel_rfl) (by kernel_rfl) (by kernel_rfl) (fun _ _ _ h => False.elim h) (Or.inl ⟨by rfl, ?_⟩) (Below.refl _ _) ?_
          · intro wx hSw
            go_simp
          simp only [Act.put, List.setIfInBounds_toArray, List.set_cons_zero, List.set_cons_succ]
          refine wpAnyH_take (i := 4) (v := .int .i64 ((j : Int) + 1)) nat4 (by kernel_rfl) (by kernel_rfl) (by kernel_rfl) (fun _ _ _ h => False.elim h) (Or.inl ⟨by rfl, ?_⟩) (Below.refl _ _) ?_
          · intro wx hSw
            go_simp
          simp only [Act.put, List.setIfInBounds_toArray, List.set_cons_zero, List.set_cons_succ]
          refine wpAnyH_take (i := 5) (v := .int .i64 j) nat5 (by kernel_rfl) (by kernel_rfl) (by kernel_rfl) (fun _ _ _ h => False.elim h) (Or.inl ⟨by rfl, ?_⟩) (Below.refl _ _) ?_
          · intro wx hSw
            go_simp
          simp only [Act.put, List.setIfInBounds_toArray, List.set_cons_zero, List.set_cons_succ]
          refine wpAnyH_take (i := 6) (v := .pointer (some ⟨b, off + j * 4, none⟩)) nat6 (by kernel_rfl) (by kernel_rfl) (by kernel_rfl) (fun _ _ _ h => False.elim h) (Or.inl ⟨by rfl, ?_⟩) (Below.refl _ _) ?_
          · intro wx hSw
            go_simp
          simp only [Act.put, List.setIfInBounds_toArray, List.set_cons_zero, List.set_cons_succ]
          refine wpAnyH_take (i := 7) (v := .pointer (some ⟨b, off + j * 4, none⟩)) nat7 (by kernel_rfl) (by kernel_rfl) (by kernel_rfl) (fun _ _ _ h => False.elim h) (Or.inl ⟨by rfl, ?_⟩) (Below.refl _ _) ?_
          · intro wx hSw
            go_simp
          simp only [Act.put, List.setIfInBounds_toArray, List.set_cons_zero, List.set_cons_succ]
          refine wpAnyH_take (i := 8) (v := .pointer (some ⟨b, off + j * 4, none⟩)) nat8 (by kernel_rfl) (by kernel_rfl) (by kernel_rfl) (fun _ _ _ h => False.elim h) (Or.inl ⟨by rfl, ?_⟩) (Below.refl _ _) ?_
          · intro wx hSw
            go_simp
          simp only [Act.put, List.setIfInBounds_toArray, List.set_cons_zero, List.set_cons_succ]
          refine wpAnyH_take (i := 9) (v := .string u1) nat9 (by kernel_rfl) (by kernel_rfl) (by kernel_rfl) (fun _ _ _ h => False.elim h) (Or.inl ⟨by rfl, ?_⟩) (Below.refl _ _) ?_
          · intro wx hSw
            have hx : Below wq0.heap.size wq0 wx := hSw
            have e0 := keepc hx e0_0
            go_simp
          simp only [Act.put, List.setIfInBounds_toArray, List.set_cons_zero, List.set_cons_succ]
          refine wpAnyH_take (i := 10) (v := .pointer (some ⟨wr.heap.size, 0, none⟩)) nat10 (by kernel_rfl) (by kernel_rfl) (by kernel_rfl) (fun _ _ _ h => False.elim h) (Or.inl ⟨by rfl, ?_⟩) (Below.refl _ _) ?_
          · intro wx hSw
            go_simp
          simp only [Act.put, List.setIfInBounds_toArray, List.set_cons_zero, List.set_cons_succ]
          refine wpAnyH_take (i := 11) (v := .pointer (some ⟨wr.heap.size, 0, none⟩)) nat11 (by kernel_rfl) (by kernel_rfl) (by kernel_rfl) (fun _ _ _ h => False.elim h) (Or.inl ⟨by rfl, ?_⟩) (Below.refl _ _) ?_
          · intro wx hSw
            go_simp
          simp only [Act.put, List.setIfInBounds_toArray, List.set_cons_zero, List.set_cons_succ]
          refine wpAnyH_take (i := 12) (v := .string u1) nat12 (by kernel_rfl) (by kernel_rfl) (by kernel_rfl) (fun _ _ _ h => False.elim h) (Or.inl ⟨by rfl, ?_⟩) (Below.refl _ _) ?_
          · intro wx hSw
            have hx : Below wq0.heap.size wq0 wx := hSw
            have e0 := keepc hx x0_0
            go_simp
          simp only [Act.put, List.setIfInBounds_toArray, List.set_cons_zero, List.set_cons_succ]
          refine wpAnyH_take (i := 13) (v := .bool false) nat13 (by kernel_rfl) (by kernel_rfl) (by kernel_rfl) (fun _ _ _ h => False.elim h) (Or.inl ⟨by rfl, ?_⟩) (Below.refl _ _) ?_
          · intro wx hSw
            go_simp
          simp only [Act.put, List.setIfInBounds_toArray, List.set_cons_zero, List.set_cons_succ]
          refine wpAnyH_take (i := 14) (v := .bool false) nat14 (by kernel_rfl) (by kernel_rfl) (by kernel_rfl) (fun _ _ _ h => False.elim h) (Or.inl ⟨by rfl, ?_⟩) (Below.refl _ _) ?_
          · intro wx hSw
            go_simp
          simp only [Act.put, List.setIfInBounds_toArray, List.set_cons_zero, List.set_cons_succ]
          refine wpAnyH_done (by kernel_rfl) ?_ _
          refine NoPanic.normal ?_
          have HBL : Below W2.heap.size W2 wq0 := hb0
          have HO2 := hide (HO1.out.next HBL)
          have HW2 := hide (HW1.out.trans (HBL.mono HW1.out.size))
          have y0 := x0_0
          clear HBL HO1 HW1
          go_wp2
          exact ⟨⟨j + 1 + 1, by go_num, by omega, by rw [HU.out]; exact HO2, HW2⟩, by simp [intOf]; omega⟩
      · obtain rfl : k = len := by omega
        go_wp2
        go_ret
        exact ⟨⟨_, rfl, by rw [HV.out]; exact HO.out⟩, HW.out⟩

end Go.Proofs.Ytonkjdjancnajac
