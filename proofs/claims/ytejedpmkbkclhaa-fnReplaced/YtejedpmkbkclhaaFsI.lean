/- Names and rows of files, of the program. (By gen_fsi.py.) -/
import Derived.Test.YtejedpmkbkclhaaFsP
import Derived.Test.YtejedpmkbkclhaaNth
import Derived.Test.YtejedpmkbkclhaaReg
import Derived.Test.YtejedpmkbkclhaaMgEntRowBox
import Derived.BigQuiet
import Derived.Deep.DeepCutAuto
import Derived.Deep.RegionHeld3
namespace Go.Proofs.Ytejedpmkbkclhaa
set_option maxRecDepth 100000
open Go.RowKit Go.Deep

theorem nameB_yes {s : ByteArray} (h1 : 1 ≤ s.size) (h2 : s.size ≤ 100) : nameB s = true := by unfold nameB; exact decide_eq_true ⟨h1, h2⟩
theorem nameB_no {s : ByteArray} (h : ¬ (1 ≤ s.size ∧ s.size ≤ 100)) : nameB s = false := by unfold nameB; exact decide_eq_false h
theorem sizeTo_le {O : Files} {m : Nat} : ∀ {k n : Nat}, (∀ i, i < n → (O.D i).size ≤ m) → k ≤ n → sizeTo O k ≤ k * m
  | 0, _, _, _ => by simp [sizeTo]
  | k + 1, n, h, hk => by
    have h1 := sizeTo_le (k := k) h (by omega)
    have h2 := h k (by omega)
    rw [sizeTo, Nat.succ_mul]
    omega
set_option linter.unusedVariables false in
set_option linter.unusedSimpArgs false in
set_option maxHeartbeats 4000000 in
theorem impl_nameOk (s : ByteArray) (w : World) : Calls Try.prog 86 #[.string s] w fun e w' => e = .returned (.bool (nameB s)) ∧ Below w.heap.size w w' := by
  by_cases h1 : 1 ≤ s.size
  · have k1 : (1 : Int) ≤ (s.size : Int) := by omega
    by_cases h2 : s.size ≤ 100
    · have k2 : (s.size : Int) ≤ 100 := by omega
      have HV := hide (nameB_yes h1 h2)
      clear h1 h2
      go_enter Try.func86, Try.ntmps86
      go_wp2
      go_ret
      exact ⟨(congrArg (fun q => Ending.returned (Value.bool q)) HV.out).symm, Below.refl _ _⟩
    · have k2 : ¬ (s.size : Int) ≤ 100 := by omega
      have HV := hide (nameB_no (s := s) (fun h => h2 h.2))
      clear h1 h2
      go_enter Try.func86, Try.ntmps86
      go_wp2
      go_ret
      exact ⟨(congrArg (fun q => Ending.returned (Value.bool q)) HV.out).symm, Below.refl _ _⟩
  · have k1 : ¬ (1 : Int) ≤ (s.size : Int) := by omega
    have HV := hide (nameB_no (s := s) (fun h => h1 h.1))
    clear h1
    go_enter Try.func86, Try.ntmps86
    go_wp2
    go_ret
    exact ⟨(congrArg (fun q => Ending.returned (Value.bool q)) HV.out).symm, Below.refl _ _⟩
set_option linter.unusedVariables false in
set_option linter.unusedSimpArgs false in
set_option maxHeartbeats 4000000 in
theorem spec_l6Name (s : ByteArray) (w : World) : Calls Try.prog 78 #[.string s] w fun e w' => e = .returned (.bool (nameB s)) ∧ Below w.heap.size w w' := by
  by_cases h1 : 1 ≤ s.size
  · have k1 : (1 : Int) ≤ (s.size : Int) := by omega
    by_cases h2 : s.size ≤ 100
    · have k2 : (s.size : Int) ≤ 100 := by omega
      have HV := hide (nameB_yes h1 h2)
      clear h1 h2
      go_enter Try.func78, Try.ntmps78
      go_wp2
      go_ret
      exact ⟨(congrArg (fun q => Ending.returned (Value.bool q)) HV.out).symm, Below.refl _ _⟩
    · have k2 : ¬ (s.size : Int) ≤ 100 := by omega
      have HV := hide (nameB_no (s := s) (fun h => h2 h.2))
      clear h1 h2
      go_enter Try.func78, Try.ntmps78
      go_wp2
      go_ret
      exact ⟨(congrArg (fun q => Ending.returned (Value.bool q)) HV.out).symm, Below.refl _ _⟩
  · have k1 : ¬ (1 : Int) ≤ (s.size : Int) := by omega
    have HV := hide (nameB_no (s := s) (fun h => h1 h.1))
    clear h1
    go_enter Try.func78, Try.ntmps78
    go_wp2
    go_ret
    exact ⟨(congrArg (fun q => Ending.returned (Value.bool q)) HV.out).symm, Below.refl _ _⟩
theorem filesB_many {O : Files} {n : Nat} (h : ¬ n ≤ 60) : filesB O n = false := by unfold filesB; rw [decide_eq_false h]; rfl
theorem filesB_step {O : Files} {k n : Nat} (h : stepF O k = false) (hk : k < n) : filesB O n = false := by unfold filesB; rw [stepsF_stop h hk]; simp
theorem filesB_end {O : Files} {n : Nat} (h1 : n ≤ 60) (h2 : stepsF O n = true) : filesB O n = decide (sizeTo O n ≤ 200000) := by unfold filesB; rw [decide_eq_true h1, h2]; rfl
theorem cmp_geq (x y : ByteArray) : (!Op.bytesLess x.toList y.toList) = !nmL x y := rfl
theorem cmp_leq (x y : ByteArray) : (Op.bytesLess y.toList x.toList || y.toList == x.toList) = !nmL x y := by
  show (nmL y x || _) = _
  cases h : nmL x y
  · cases k : nmL y x
    · rw [nmL_tri h k]; simp
    · rfl
  · rw [nmL_asymm h]
    cases e : (y.toList == x.toList)
    · rfl
    · have := toListF_inj (eq_of_beq e)
      rw [this, nmL_irr] at h; cases h
theorem stepF_name {O : Files} {k : Nat} (h : nameB (O.N k) = false) : stepF O k = false := by unfold stepF; rw [h]; rfl
theorem stepF_zero {O : Files} {k : Nat} (hk : k = 0) (h : nameB (O.N k) = true) : stepF O k = true := by subst hk; unfold stepF; rw [h]; rfl
theorem stepF_pos {O : Files} {k : Nat} (h : nameB (O.N k) = true) (hk : k ≠ 0) : stepF O k = nmL (O.N (k - 1)) (O.N k) := by unfold stepF; rw [h, decide_eq_false hk]; simp
set_option linter.unusedVariables false in
set_option linter.unusedSimpArgs false in
set_option maxHeartbeats 4000000 in
theorem impl_filesOk (a : Option Addr) (n cap : Nat) (O : Files) (w : World) (hz : ∀ i, i < n → (O.D i).size ≤ 10000000) (hn : n ≤ 1048576) (hS : FileAt w w.heap.size a n O) :
    Calls Try.prog 82 #[.slice a n cap] w fun e w' => e = .returned (.bool (filesB O n)) ∧ Below w.heap.size w w' := by
  have HS := hS.hid
  have HZ := hide hz
  clear hS hz
  by_cases h60 : n ≤ 60
  · have k60 : ¬ (60 : Int) < (n : Int) := by omega
    go_enter Try.func82, Try.ntmps82
    go_wp2
    go_loopw [3, 11] (fun z i wr => ∃ k : Nat, z = .int .i64 ((sizeTo O k : Nat) : Int) ∧ i = .int .i64 k ∧ k ≤ n ∧ stepsF O k = true ∧ Hid (Below w.heap.size w wr)) (fun _ i _ => n - (intOf i).toNat)
    case atStart => exact ⟨0, rfl, rfl, by omega, rfl, (Below.refl _ _ : Below w.heap.size w w)⟩
    case round =>
      obtain ⟨k, rfl, rfl, hk, hst, HW⟩ := hrel
      have HST := hide hst
      clear hst
      by_cases hlt : k < n
      · have hki : (k : Int) < (n : Int) := by omega
        obtain ⟨b, off, rfl, hb, c0, c1⟩ := (HS.out.next HW.out).at hlt
        have hprev : k ≠ 0 → wr.cell? ⟨b, off + (k - 1) * 2, none⟩ = some (.string (O.N (k - 1))) := fun hk0 => by
          obtain ⟨b', off', hbo, _, c2, _⟩ := (HS.out.next HW.out).at (show k - 1 < n by omega)
          simp only [Option.some.injEq, Addr.mk.injEq, and_true] at hbo
          obtain ⟨rfl, rfl⟩ := hbo
          exact c2
        have HPV := hide hprev
        clear hprev
        have hbF := below_one wr (.cells #[.string (O.N k), .string (O.D k)] 96)
        have HG := (BoxIs.new wr #[.string (O.N k), .string (O.D k)] 96 rfl).hid
        go_upto_region 7 with fail
        generalize hA : wr.alloc (.cells #[.string (O.N k), .string (O.D k)] 96) = wa at hbF HG ⊢
        clear hA
        obtain ⟨G, hG⟩ : ∃ G, wr.heap.size = G := ⟨_, rfl⟩
        have hbG : b < G := by omega
        have HBF := hide hbF
        rw [hG] at HG ⊢
        clear hG hbF c0 c1
        go_cut [34] (fun t wx => t = .bool (!stepF O k) ∧ Hid (Below wr.heap.size wr wx) ∧ Hid (BoxIs wx G #[.string (O.N k), .string (O.D k)] 96))
        case first =>
          cases hnb : nameB (O.N k) with
          | false =>
            have HSF := hide (stepF_name hnb)
            have HNM : Hid (∀ W, Calls Try.prog 86 #[.string (O.N k)] W fun e w' => e = .returned (.bool false) ∧ Below W.heap.size W w') := fun W => by have := impl_nameOk (O.N k) W; rwa [hnb] at this
            clear hnb
            have LO := HBF.out
            have hG := HG.out
            refine wp_region_noPanic ?_
            have hb0 : Below wa.heap.size wa wa.drew := (Below.refl _ _).drew
            have LO_0 := LO.trans (hb0.mono LO.size)
            have hG_0 := hG.next hb0
            refine wp_region_held_drew (S := fun x => BoxIs x G #[.string (O.N k), .string (O.D k)] 96 ∧ Below wr.heap.size wr x) (by kernel_rfl) ⟨hG_0, LO_0⟩ (fun hSz => ?_)
            clear hSz LO hG
            generalize wa.drew = wq0 at hb0 LO_0 hG_0 ⊢
            clear hb0
            refine wpAnyH_take (i := 0) (v := .pointer (some ⟨G, 0, none⟩)) nat0 (by kernel_rfl) (by kernel_rfl) (by kernel_rfl) (fun _ _ _ h => False.elim h) (Or.inl ⟨by rfl, ?_⟩) ⟨hG_0, LO_0⟩ ?_
            · intro wx hSw
              go_simp
            simp only [Act.put, List.setIfInBounds_toArray, List.set_cons_zero, List.set_cons_succ]
            refine wpAnyH_take (i := 1) (v := .string (O.N k)) nat1 (by kernel_rfl) (by kernel_rfl) (by kernel_rfl) (fun _ _ _ h => False.elim h) (Or.inl ⟨by rfl, ?_⟩) ⟨hG_0, LO_0⟩ ?_
            · intro wx hSw
              have y0 := hSw.1.cell 0
              simp only [List.getElem?_toArray, List.getElem?_cons_succ, List.getElem?_cons_zero] at y0
              go_simp
            simp only [Act.put, List.setIfInBounds_toArray, List.set_cons_zero, List.set_cons_succ]
            refine wpAnyH_ready (rs := [2]) (by kernel_rfl) (by simp) ?_
            refine AllReadyH.cons nat2 (fun K hK => ?_) AllReadyH.nil
            go_simp
            go_at_call 86
            refine (HNM.out wq0).mono ?_
            rintro e wq1 ⟨rfl, hb1⟩
            have LO_1 := LO_0.trans (hb1.mono LO_0.size)
            have hG_1 := hG_0.next hb1
            refine hK.out _ _ ⟨hG_1, LO_1⟩ (fun hSz => ?_)
            clear hK K hSz LO_0 hG_0 hb1
            refine wpAnyH_take (i := 3) (v := .bool true) nat3 (by kernel_rfl) (by kernel_rfl) (by kernel_rfl) (fun _ _ _ h => False.elim h) (Or.inl ⟨by rfl, ?_⟩) ⟨hG_1, LO_1⟩ ?_
            · intro wx hSw
              go_simp
            simp only [Act.put, List.setIfInBounds_toArray, List.set_cons_zero, List.set_cons_succ]
            refine wpAnyH_take (i := 4) (v := .bool true) nat4 (by kernel_rfl) (by kernel_rfl) (by kernel_rfl) (fun _ _ _ h => False.elim h) (Or.inl ⟨by rfl, ?_⟩) ⟨hG_1, LO_1⟩ ?_
            · intro wx hSw
              go_simp
            simp only [Act.put, List.setIfInBounds_toArray, List.set_cons_zero, List.set_cons_succ]
            refine wpAnyH_take (i := 5) (v := undef) nat5 (by kernel_rfl) (by kernel_rfl) (by kernel_rfl) (fun _ _ _ h => False.elim h) (Or.inr ⟨by rfl, rfl⟩) ⟨hG_1, LO_1⟩ ?_
            simp only [Act.put, List.setIfInBounds_toArray, List.set_cons_zero, List.set_cons_succ]
            refine wpAnyH_take (i := 6) (v := undef) nat6 (by kernel_rfl) (by kernel_rfl) (by kernel_rfl) (fun _ _ _ h => False.elim h) (Or.inr ⟨by rfl, rfl⟩) ⟨hG_1, LO_1⟩ ?_
            simp only [Act.put, List.setIfInBounds_toArray, List.set_cons_zero, List.set_cons_succ]
            refine wpAnyH_take (i := 7) (v := undef) nat7 (by kernel_rfl) (by kernel_rfl) (by kernel_rfl) (fun _ _ _ h => False.elim h) (Or.inr ⟨by rfl, rfl⟩) ⟨hG_1, LO_1⟩ ?_
            simp only [Act.put, List.setIfInBounds_toArray, List.set_cons_zero, List.set_cons_succ]
            refine wpAnyH_take (i := 8) (v := undef) nat8 (by kernel_rfl) (by kernel_rfl) (by kernel_rfl) (fun _ _ _ h => False.elim h) (Or.inr ⟨by rfl, rfl⟩) ⟨hG_1, LO_1⟩ ?_
            simp only [Act.put, List.setIfInBounds_toArray, List.set_cons_zero, List.set_cons_succ]
            refine wpAnyH_take (i := 9) (v := undef) nat9 (by kernel_rfl) (by kernel_rfl) (by kernel_rfl) (fun _ _ _ h => False.elim h) (Or.inr ⟨by rfl, rfl⟩) ⟨hG_1, LO_1⟩ ?_
            simp only [Act.put, List.setIfInBounds_toArray, List.set_cons_zero, List.set_cons_succ]
            refine wpAnyH_take (i := 10) (v := undef) nat10 (by kernel_rfl) (by kernel_rfl) (by kernel_rfl) (fun _ _ _ h => False.elim h) (Or.inr ⟨by rfl, rfl⟩) ⟨hG_1, LO_1⟩ ?_
            simp only [Act.put, List.setIfInBounds_toArray, List.set_cons_zero, List.set_cons_succ]
            refine wpAnyH_take (i := 11) (v := undef) nat11 (by kernel_rfl) (by kernel_rfl) (by kernel_rfl) (fun _ _ _ h => False.elim h) (Or.inr ⟨by rfl, rfl⟩) ⟨hG_1, LO_1⟩ ?_
            simp only [Act.put, List.setIfInBounds_toArray, List.set_cons_zero, List.set_cons_succ]
            refine wpAnyH_take (i := 12) (v := undef) nat12 (by kernel_rfl) (by kernel_rfl) (by kernel_rfl) (fun _ _ _ h => False.elim h) (Or.inr ⟨by rfl, rfl⟩) ⟨hG_1, LO_1⟩ ?_
            simp only [Act.put, List.setIfInBounds_toArray, List.set_cons_zero, List.set_cons_succ]
            refine wpAnyH_take (i := 13) (v := undef) nat13 (by kernel_rfl) (by kernel_rfl) (by kernel_rfl) (fun _ _ _ h => False.elim h) (Or.inr ⟨by rfl, rfl⟩) ⟨hG_1, LO_1⟩ ?_
            simp only [Act.put, List.setIfInBounds_toArray, List.set_cons_zero, List.set_cons_succ]
            refine wpAnyH_take (i := 14) (v := undef) nat14 (by kernel_rfl) (by kernel_rfl) (by kernel_rfl) (fun _ _ _ h => False.elim h) (Or.inr ⟨by rfl, rfl⟩) ⟨hG_1, LO_1⟩ ?_
            simp only [Act.put, List.setIfInBounds_toArray, List.set_cons_zero, List.set_cons_succ]
            refine wpAnyH_take (i := 15) (v := undef) nat15 (by kernel_rfl) (by kernel_rfl) (by kernel_rfl) (fun _ _ _ h => False.elim h) (Or.inr ⟨by rfl, rfl⟩) ⟨hG_1, LO_1⟩ ?_
            simp only [Act.put, List.setIfInBounds_toArray, List.set_cons_zero, List.set_cons_succ]
            refine wpAnyH_take (i := 16) (v := undef) nat16 (by kernel_rfl) (by kernel_rfl) (by kernel_rfl) (fun _ _ _ h => False.elim h) (Or.inr ⟨by rfl, rfl⟩) ⟨hG_1, LO_1⟩ ?_
            simp only [Act.put, List.setIfInBounds_toArray, List.set_cons_zero, List.set_cons_succ]
            refine wpAnyH_take (i := 17) (v := undef) nat17 (by kernel_rfl) (by kernel_rfl) (by kernel_rfl) (fun _ _ _ h => False.elim h) (Or.inr ⟨by rfl, rfl⟩) ⟨hG_1, LO_1⟩ ?_
            simp only [Act.put, List.setIfInBounds_toArray, List.set_cons_zero, List.set_cons_succ]
            refine wpAnyH_take (i := 18) (v := .bool true) nat18 (by kernel_rfl) (by kernel_rfl) (by kernel_rfl) (fun _ _ _ h => False.elim h) (Or.inl ⟨by rfl, ?_⟩) ⟨hG_1, LO_1⟩ ?_
            · intro wx hSw
              go_simp
            simp only [Act.put, List.setIfInBounds_toArray, List.set_cons_zero, List.set_cons_succ]
            refine wpAnyH_done (by kernel_rfl) ?_ _
            refine NoPanic.normal ?_
            go_wp2_with fail
            go_meet
            exact ⟨by rw [HSF.out]; rfl, hide LO_1, hide hG_1⟩
          | true =>
            have HNM : Hid (∀ W, Calls Try.prog 86 #[.string (O.N k)] W fun e w' => e = .returned (.bool true) ∧ Below W.heap.size W w') := fun W => by have := impl_nameOk (O.N k) W; rwa [hnb] at this
            by_cases hk0 : k = 0
            · have HSF := hide (stepF_zero hk0 hnb)
              have hkz : ¬ (0 : Int) < (k : Int) := by omega
              clear hnb hk0
              have LO := HBF.out
              have hG := HG.out
              refine wp_region_noPanic ?_
              have hb0 : Below wa.heap.size wa wa.drew := (Below.refl _ _).drew
              have LO_0 := LO.trans (hb0.mono LO.size)
              have hG_0 := hG.next hb0
              refine wp_region_held_drew (S := fun x => BoxIs x G #[.string (O.N k), .string (O.D k)] 96 ∧ Below wr.heap.size wr x) (by kernel_rfl) ⟨hG_0, LO_0⟩ (fun hSz => ?_)
              clear hSz LO hG
              generalize wa.drew = wq0 at hb0 LO_0 hG_0 ⊢
              clear hb0
              refine wpAnyH_take (i := 0) (v := .pointer (some ⟨G, 0, none⟩)) nat0 (by kernel_rfl) (by kernel_rfl) (by kernel_rfl) (fun _ _ _ h => False.elim h) (Or.inl ⟨by rfl, ?_⟩) ⟨hG_0, LO_0⟩ ?_
              · intro wx hSw
                go_simp
              simp only [Act.put, List.setIfInBounds_toArray, List.set_cons_zero, List.set_cons_succ]
              refine wpAnyH_take (i := 1) (v := .string (O.N k)) nat1 (by kernel_rfl) (by kernel_rfl) (by kernel_rfl) (fun _ _ _ h => False.elim h) (Or.inl ⟨by rfl, ?_⟩) ⟨hG_0, LO_0⟩ ?_
              · intro wx hSw
                have y0 := hSw.1.cell 0
                simp only [List.getElem?_toArray, List.getElem?_cons_succ, List.getElem?_cons_zero] at y0
                go_simp
              simp only [Act.put, List.setIfInBounds_toArray, List.set_cons_zero, List.set_cons_succ]
              refine wpAnyH_ready (rs := [2]) (by kernel_rfl) (by simp) ?_
              refine AllReadyH.cons nat2 (fun K hK => ?_) AllReadyH.nil
              go_simp
              go_at_call 86
              refine (HNM.out wq0).mono ?_
              rintro e wq1 ⟨rfl, hb1⟩
              have LO_1 := LO_0.trans (hb1.mono LO_0.size)
              have hG_1 := hG_0.next hb1
              refine hK.out _ _ ⟨hG_1, LO_1⟩ (fun hSz => ?_)
              clear hK K hSz LO_0 hG_0 hb1
              refine wpAnyH_take (i := 3) (v := .bool false) nat3 (by kernel_rfl) (by kernel_rfl) (by kernel_rfl) (fun _ _ _ h => False.elim h) (Or.inl ⟨by rfl, ?_⟩) ⟨hG_1, LO_1⟩ ?_
              · intro wx hSw
                go_simp
              simp only [Act.put, List.setIfInBounds_toArray, List.set_cons_zero, List.set_cons_succ]
              refine wpAnyH_take (i := 4) (v := .bool false) nat4 (by kernel_rfl) (by kernel_rfl) (by kernel_rfl) (fun _ _ _ h => False.elim h) (Or.inl ⟨by rfl, ?_⟩) ⟨hG_1, LO_1⟩ ?_
              · intro wx hSw
                go_simp
              simp only [Act.put, List.setIfInBounds_toArray, List.set_cons_zero, List.set_cons_succ]
              refine wpAnyH_take (i := 5) (v := .int .i64 ((k : Int))) nat5 (by kernel_rfl) (by kernel_rfl) (by kernel_rfl) (fun _ _ _ h => False.elim h) (Or.inl ⟨by rfl, ?_⟩) ⟨hG_1, LO_1⟩ ?_
              · intro wx hSw
                go_simp
              simp only [Act.put, List.setIfInBounds_toArray, List.set_cons_zero, List.set_cons_succ]
              refine wpAnyH_take (i := 6) (v := .bool false) nat6 (by kernel_rfl) (by kernel_rfl) (by kernel_rfl) (fun _ _ _ h => False.elim h) (Or.inl ⟨by rfl, ?_⟩) ⟨hG_1, LO_1⟩ ?_
              · intro wx hSw
                go_simp
                try omega
              simp only [Act.put, List.setIfInBounds_toArray, List.set_cons_zero, List.set_cons_succ]
              refine wpAnyH_take (i := 7) (v := .bool false) nat7 (by kernel_rfl) (by kernel_rfl) (by kernel_rfl) (fun _ _ _ h => False.elim h) (Or.inl ⟨by rfl, ?_⟩) ⟨hG_1, LO_1⟩ ?_
              · intro wx hSw
                go_simp
              simp only [Act.put, List.setIfInBounds_toArray, List.set_cons_zero, List.set_cons_succ]
              refine wpAnyH_take (i := 8) (v := undef) nat8 (by kernel_rfl) (by kernel_rfl) (by kernel_rfl) (fun _ _ _ h => False.elim h) (Or.inr ⟨by rfl, rfl⟩) ⟨hG_1, LO_1⟩ ?_
              simp only [Act.put, List.setIfInBounds_toArray, List.set_cons_zero, List.set_cons_succ]
              refine wpAnyH_take (i := 9) (v := undef) nat9 (by kernel_rfl) (by kernel_rfl) (by kernel_rfl) (fun _ _ _ h => False.elim h) (Or.inr ⟨by rfl, rfl⟩) ⟨hG_1, LO_1⟩ ?_
              simp only [Act.put, List.setIfInBounds_toArray, List.set_cons_zero, List.set_cons_succ]
              refine wpAnyH_take (i := 10) (v := undef) nat10 (by kernel_rfl) (by kernel_rfl) (by kernel_rfl) (fun _ _ _ h => False.elim h) (Or.inr ⟨by rfl, rfl⟩) ⟨hG_1, LO_1⟩ ?_
              simp only [Act.put, List.setIfInBounds_toArray, List.set_cons_zero, List.set_cons_succ]
              refine wpAnyH_take (i := 11) (v := undef) nat11 (by kernel_rfl) (by kernel_rfl) (by kernel_rfl) (fun _ _ _ h => False.elim h) (Or.inr ⟨by rfl, rfl⟩) ⟨hG_1, LO_1⟩ ?_
              simp only [Act.put, List.setIfInBounds_toArray, List.set_cons_zero, List.set_cons_succ]
              refine wpAnyH_take (i := 12) (v := undef) nat12 (by kernel_rfl) (by kernel_rfl) (by kernel_rfl) (fun _ _ _ h => False.elim h) (Or.inr ⟨by rfl, rfl⟩) ⟨hG_1, LO_1⟩ ?_
              simp only [Act.put, List.setIfInBounds_toArray, List.set_cons_zero, List.set_cons_succ]
              refine wpAnyH_take (i := 13) (v := undef) nat13 (by kernel_rfl) (by kernel_rfl) (by kernel_rfl) (fun _ _ _ h => False.elim h) (Or.inr ⟨by rfl, rfl⟩) ⟨hG_1, LO_1⟩ ?_
              simp only [Act.put, List.setIfInBounds_toArray, List.set_cons_zero, List.set_cons_succ]
              refine wpAnyH_take (i := 14) (v := undef) nat14 (by kernel_rfl) (by kernel_rfl) (by kernel_rfl) (fun _ _ _ h => False.elim h) (Or.inr ⟨by rfl, rfl⟩) ⟨hG_1, LO_1⟩ ?_
              simp only [Act.put, List.setIfInBounds_toArray, List.set_cons_zero, List.set_cons_succ]
              refine wpAnyH_take (i := 15) (v := undef) nat15 (by kernel_rfl) (by kernel_rfl) (by kernel_rfl) (fun _ _ _ h => False.elim h) (Or.inr ⟨by rfl, rfl⟩) ⟨hG_1, LO_1⟩ ?_
              simp only [Act.put, List.setIfInBounds_toArray, List.set_cons_zero, List.set_cons_succ]
              refine wpAnyH_take (i := 16) (v := undef) nat16 (by kernel_rfl) (by kernel_rfl) (by kernel_rfl) (fun _ _ _ h => False.elim h) (Or.inr ⟨by rfl, rfl⟩) ⟨hG_1, LO_1⟩ ?_
              simp only [Act.put, List.setIfInBounds_toArray, List.set_cons_zero, List.set_cons_succ]
              refine wpAnyH_take (i := 17) (v := .bool false) nat17 (by kernel_rfl) (by kernel_rfl) (by kernel_rfl) (fun _ _ _ h => False.elim h) (Or.inl ⟨by rfl, ?_⟩) ⟨hG_1, LO_1⟩ ?_
              · intro wx hSw
                go_simp
              simp only [Act.put, List.setIfInBounds_toArray, List.set_cons_zero, List.set_cons_succ]
              refine wpAnyH_take (i := 18) (v := .bool false) nat18 (by kernel_rfl) (by kernel_rfl) (by kernel_rfl) (fun _ _ _ h => False.elim h) (Or.inl ⟨by rfl, ?_⟩) ⟨hG_1, LO_1⟩ ?_
              · intro wx hSw
                go_simp
              simp only [Act.put, List.setIfInBounds_toArray, List.set_cons_zero, List.set_cons_succ]
              refine wpAnyH_done (by kernel_rfl) ?_ _
              refine NoPanic.normal ?_
              go_wp2_with fail
              go_meet
              exact ⟨by rw [HSF.out]; rfl, hide LO_1, hide hG_1⟩
            · have HSF := hide (stepF_pos hnb hk0)
              have hsub : IntKind.i64.wrap ((k : Int) - 1) = ((k - 1 : Nat) : Int) := by rw [IntKind.wrap_i64]; omega
              have hkp : (0 : Int) < (k : Int) := by omega
              have hk1 : ((k - 1 : Nat) : Int) < (n : Int) := by omega
              have hk2 : k - 1 < n := by omega
              clear hnb
              have LO := HBF.out
              have hG := HG.out
              refine wp_region_noPanic ?_
              have hb0 : Below wa.heap.size wa wa.drew := (Below.refl _ _).drew
              have LO_0 := LO.trans (hb0.mono LO.size)
              have hG_0 := hG.next hb0
              refine wp_region_held_drew (S := fun x => BoxIs x G #[.string (O.N k), .string (O.D k)] 96 ∧ Below wr.heap.size wr x) (by kernel_rfl) ⟨hG_0, LO_0⟩ (fun hSz => ?_)
              clear hSz LO hG
              generalize wa.drew = wq0 at hb0 LO_0 hG_0 ⊢
              clear hb0
              refine wpAnyH_take (i := 0) (v := .pointer (some ⟨G, 0, none⟩)) nat0 (by kernel_rfl) (by kernel_rfl) (by kernel_rfl) (fun _ _ _ h => False.elim h) (Or.inl ⟨by rfl, ?_⟩) ⟨hG_0, LO_0⟩ ?_
              · intro wx hSw
                go_simp
              simp only [Act.put, List.setIfInBounds_toArray, List.set_cons_zero, List.set_cons_succ]
              refine wpAnyH_take (i := 1) (v := .string (O.N k)) nat1 (by kernel_rfl) (by kernel_rfl) (by kernel_rfl) (fun _ _ _ h => False.elim h) (Or.inl ⟨by rfl, ?_⟩) ⟨hG_0, LO_0⟩ ?_
              · intro wx hSw
                have y0 := hSw.1.cell 0
                simp only [List.getElem?_toArray, List.getElem?_cons_succ, List.getElem?_cons_zero] at y0
                go_simp
              simp only [Act.put, List.setIfInBounds_toArray, List.set_cons_zero, List.set_cons_succ]
              refine wpAnyH_ready (rs := [2]) (by kernel_rfl) (by simp) ?_
              refine AllReadyH.cons nat2 (fun K hK => ?_) AllReadyH.nil
              go_simp
              go_at_call 86
              refine (HNM.out wq0).mono ?_
              rintro e wq1 ⟨rfl, hb1⟩
              have LO_1 := LO_0.trans (hb1.mono LO_0.size)
              have hG_1 := hG_0.next hb1
              refine hK.out _ _ ⟨hG_1, LO_1⟩ (fun hSz => ?_)
              clear hK K hSz LO_0 hG_0 hb1
              refine wpAnyH_take (i := 3) (v := .bool false) nat3 (by kernel_rfl) (by kernel_rfl) (by kernel_rfl) (fun _ _ _ h => False.elim h) (Or.inl ⟨by rfl, ?_⟩) ⟨hG_1, LO_1⟩ ?_
              · intro wx hSw
                go_simp
              simp only [Act.put, List.setIfInBounds_toArray, List.set_cons_zero, List.set_cons_succ]
              refine wpAnyH_take (i := 4) (v := .bool false) nat4 (by kernel_rfl) (by kernel_rfl) (by kernel_rfl) (fun _ _ _ h => False.elim h) (Or.inl ⟨by rfl, ?_⟩) ⟨hG_1, LO_1⟩ ?_
              · intro wx hSw
                go_simp
              simp only [Act.put, List.setIfInBounds_toArray, List.set_cons_zero, List.set_cons_succ]
              refine wpAnyH_take (i := 5) (v := .int .i64 ((k : Int))) nat5 (by kernel_rfl) (by kernel_rfl) (by kernel_rfl) (fun _ _ _ h => False.elim h) (Or.inl ⟨by rfl, ?_⟩) ⟨hG_1, LO_1⟩ ?_
              · intro wx hSw
                go_simp
              simp only [Act.put, List.setIfInBounds_toArray, List.set_cons_zero, List.set_cons_succ]
              refine wpAnyH_take (i := 6) (v := .bool true) nat6 (by kernel_rfl) (by kernel_rfl) (by kernel_rfl) (fun _ _ _ h => False.elim h) (Or.inl ⟨by rfl, ?_⟩) ⟨hG_1, LO_1⟩ ?_
              · intro wx hSw
                go_simp
                try omega
              simp only [Act.put, List.setIfInBounds_toArray, List.set_cons_zero, List.set_cons_succ]
              refine wpAnyH_take (i := 7) (v := .bool true) nat7 (by kernel_rfl) (by kernel_rfl) (by kernel_rfl) (fun _ _ _ h => False.elim h) (Or.inl ⟨by rfl, ?_⟩) ⟨hG_1, LO_1⟩ ?_
              · intro wx hSw
                go_simp
              simp only [Act.put, List.setIfInBounds_toArray, List.set_cons_zero, List.set_cons_succ]
              refine wpAnyH_take (i := 8) (v := .slice (some ⟨b, off, none⟩) n cap) nat8 (by kernel_rfl) (by kernel_rfl) (by kernel_rfl) (fun _ _ _ h => False.elim h) (Or.inl ⟨by rfl, ?_⟩) ⟨hG_1, LO_1⟩ ?_
              · intro wx hSw
                go_simp
              simp only [Act.put, List.setIfInBounds_toArray, List.set_cons_zero, List.set_cons_succ]
              refine wpAnyH_take (i := 9) (v := .int .i64 ((k : Int))) nat9 (by kernel_rfl) (by kernel_rfl) (by kernel_rfl) (fun _ _ _ h => False.elim h) (Or.inl ⟨by rfl, ?_⟩) ⟨hG_1, LO_1⟩ ?_
              · intro wx hSw
                go_simp
              simp only [Act.put, List.setIfInBounds_toArray, List.set_cons_zero, List.set_cons_succ]
              refine wpAnyH_take (i := 10) (v := .int .i64 (((k - 1 : Nat) : Int))) nat10 (by kernel_rfl) (by kernel_rfl) (by kernel_rfl) (fun _ _ _ h => False.elim h) (Or.inl ⟨by rfl, ?_⟩) ⟨hG_1, LO_1⟩ ?_
              · intro wx hSw
                go_simp
                try exact hsub
              simp only [Act.put, List.setIfInBounds_toArray, List.set_cons_zero, List.set_cons_succ]
              refine wpAnyH_take (i := 11) (v := .pointer (some ⟨b, off + (k - 1) * 2, none⟩)) nat11 (by kernel_rfl) (by kernel_rfl) (by kernel_rfl) (fun _ _ _ h => False.elim h) (Or.inl ⟨by rfl, ?_⟩) ⟨hG_1, LO_1⟩ ?_
              · intro wx hSw
                go_simp
              simp only [Act.put, List.setIfInBounds_toArray, List.set_cons_zero, List.set_cons_succ]
              refine wpAnyH_take (i := 12) (v := .pointer (some ⟨b, off + (k - 1) * 2, none⟩)) nat12 (by kernel_rfl) (by kernel_rfl) (by kernel_rfl) (fun _ _ _ h => False.elim h) (Or.inl ⟨by rfl, ?_⟩) ⟨hG_1, LO_1⟩ ?_
              · intro wx hSw
                go_simp
              simp only [Act.put, List.setIfInBounds_toArray, List.set_cons_zero, List.set_cons_succ]
              refine wpAnyH_take (i := 13) (v := .string (O.N (k - 1))) nat13 (by kernel_rfl) (by kernel_rfl) (by kernel_rfl) (fun _ _ _ h => False.elim h) (Or.inl ⟨by rfl, ?_⟩) ⟨hG_1, LO_1⟩ ?_
              · intro wx hSw
                have y0 := (hSw.2.cell (p := ⟨b, _, none⟩) hb).trans (HPV.out hk0)
                go_simp
              simp only [Act.put, List.setIfInBounds_toArray, List.set_cons_zero, List.set_cons_succ]
              refine wpAnyH_take (i := 14) (v := .pointer (some ⟨G, 0, none⟩)) nat14 (by kernel_rfl) (by kernel_rfl) (by kernel_rfl) (fun _ _ _ h => False.elim h) (Or.inl ⟨by rfl, ?_⟩) ⟨hG_1, LO_1⟩ ?_
              · intro wx hSw
                go_simp
              simp only [Act.put, List.setIfInBounds_toArray, List.set_cons_zero, List.set_cons_succ]
              refine wpAnyH_take (i := 15) (v := .string (O.N k)) nat15 (by kernel_rfl) (by kernel_rfl) (by kernel_rfl) (fun _ _ _ h => False.elim h) (Or.inl ⟨by rfl, ?_⟩) ⟨hG_1, LO_1⟩ ?_
              · intro wx hSw
                have y0 := hSw.1.cell 0
                simp only [List.getElem?_toArray, List.getElem?_cons_succ, List.getElem?_cons_zero] at y0
                go_simp
              simp only [Act.put, List.setIfInBounds_toArray, List.set_cons_zero, List.set_cons_succ]
              refine wpAnyH_take (i := 16) (v := .bool (!nmL (O.N (k - 1)) (O.N k))) nat16 (by kernel_rfl) (by kernel_rfl) (by kernel_rfl) (fun _ _ _ h => False.elim h) (Or.inl ⟨by rfl, ?_⟩) ⟨hG_1, LO_1⟩ ?_
              · intro wx hSw
                go_simp
                first | rfl | exact cmp_geq _ _ | exact cmp_leq _ _
              simp only [Act.put, List.setIfInBounds_toArray, List.set_cons_zero, List.set_cons_succ]
              refine wpAnyH_take (i := 17) (v := .bool (!nmL (O.N (k - 1)) (O.N k))) nat17 (by kernel_rfl) (by kernel_rfl) (by kernel_rfl) (fun _ _ _ h => False.elim h) (Or.inl ⟨by rfl, ?_⟩) ⟨hG_1, LO_1⟩ ?_
              · intro wx hSw
                go_simp
              simp only [Act.put, List.setIfInBounds_toArray, List.set_cons_zero, List.set_cons_succ]
              refine wpAnyH_take (i := 18) (v := .bool (!nmL (O.N (k - 1)) (O.N k))) nat18 (by kernel_rfl) (by kernel_rfl) (by kernel_rfl) (fun _ _ _ h => False.elim h) (Or.inl ⟨by rfl, ?_⟩) ⟨hG_1, LO_1⟩ ?_
              · intro wx hSw
                go_simp
              simp only [Act.put, List.setIfInBounds_toArray, List.set_cons_zero, List.set_cons_succ]
              refine wpAnyH_done (by kernel_rfl) ?_ _
              refine NoPanic.normal ?_
              go_wp2_with fail
              go_meet
              exact ⟨by rw [HSF.out], hide LO_1, hide hG_1⟩
        case rest =>
        obtain ⟨rfl, HW1, HG2⟩ := hcut
        obtain ⟨w1, rfl⟩ : ∃ x, x = wc := ⟨_, rfl⟩
        have HW2 := hide (HW.out.trans (HW1.out.mono HW.out.size))
        cases hsf : stepF O k with
        | false =>
          have HV := hide (filesB_step hsf hlt)
          clear hsf
          go_wp2
          go_ret
          exact ⟨(congrArg (fun q => Ending.returned (Value.bool q)) HV.out).symm, HW2.out⟩
        | true =>
          have HST2 : Hid (stepsF O (k + 1) = true) := by show _ = _; rw [stepsF_succ, HST.out, hsf]; rfl
          have hb1 := sizeTo_le HZ.out hk
          have hb2 := HZ.out k hlt
          have hb3 : k * 10000000 ≤ 60 * 10000000 := Nat.mul_le_mul_right _ (by omega)
          have hadd : IntKind.i64.wrap (((sizeTo O k : Nat) : Int) + ((O.D k).size : Int)) = ((sizeTo O (k + 1) : Nat) : Int) := by rw [IntKind.wrap_i64, sizeTo]; omega
          clear hsf hb1 hb2 hb3
          have g1 := HG2.out.cell 1
          simp only [List.getElem?_toArray, List.getElem?_cons_succ, List.getElem?_cons_zero] at g1
          go_wp2
          exact ⟨⟨k + 1, by first | rfl | rw [hadd], by go_num, by omega, HST2.out, HW2⟩, by simp [intOf]; omega⟩
      · obtain rfl : k = n := by omega
        have HV := hide (filesB_end h60 HST.out)
        by_cases hsz : sizeTo O k ≤ 200000
        · have hq : ((sizeTo O k : Nat) : Int) ≤ 200000 := by omega
          have HV2 : Hid (filesB O k = true) := by show _ = _; rw [HV.out]; exact decide_eq_true hsz
          clear hsz
          go_wp2
          go_ret
          exact ⟨(congrArg (fun q => Ending.returned (Value.bool q)) HV2.out).symm, HW.out⟩
        · have hq : ¬ ((sizeTo O k : Nat) : Int) ≤ 200000 := by omega
          have HV2 : Hid (filesB O k = false) := by show _ = _; rw [HV.out]; exact decide_eq_false hsz
          clear hsz
          go_wp2
          go_ret
          exact ⟨(congrArg (fun q => Ending.returned (Value.bool q)) HV2.out).symm, HW.out⟩
  · have k60 : (60 : Int) < (n : Int) := by omega
    have HV := hide (filesB_many (O := O) h60)
    go_enter Try.func82, Try.ntmps82
    go_wp2
    go_ret
    exact ⟨(congrArg (fun q => Ending.returned (Value.bool q)) HV.out).symm, Below.refl _ _⟩
set_option linter.unusedVariables false in
set_option linter.unusedSimpArgs false in
set_option maxHeartbeats 4000000 in
theorem spec_l6Files (a : Option Addr) (n cap : Nat) (O : Files) (w : World) (hz : ∀ i, i < n → (O.D i).size ≤ 90000000) (hn : n ≤ 1048576) (hS : FileAt w w.heap.size a n O) :
    Calls Try.prog 41 #[.slice a n cap] w fun e w' => e = .returned (.bool (filesB O n)) ∧ Below w.heap.size w w' := by
  have HS := hS.hid
  have HZ := hide hz
  clear hS hz
  by_cases h60 : n ≤ 60
  · have k60 : ¬ (60 : Int) < (n : Int) := by omega
    go_enter Try.func41, Try.ntmps41
    go_wp2
    go_loopw [3, 4] (fun z i wr => ∃ k : Nat, z = .int .i64 ((sizeTo O k : Nat) : Int) ∧ i = .int .i64 k ∧ k ≤ n ∧ stepsF O k = true ∧ Hid (Below w.heap.size w wr)) (fun _ i _ => n - (intOf i).toNat)
    case atStart => exact ⟨0, rfl, rfl, by omega, rfl, (Below.refl _ _ : Below w.heap.size w w)⟩
    case round =>
      obtain ⟨k, rfl, rfl, hk, hst, HW⟩ := hrel
      have HST := hide hst
      clear hst
      by_cases hlt : k < n
      · have hki : (k : Int) < (n : Int) := by omega
        obtain ⟨b, off, rfl, hb, c0, c1⟩ := (HS.out.next HW.out).at hlt
        have hprev : k ≠ 0 → wr.cell? ⟨b, off + (k - 1) * 2, none⟩ = some (.string (O.N (k - 1))) := fun hk0 => by
          obtain ⟨b', off', hbo, _, c2, _⟩ := (HS.out.next HW.out).at (show k - 1 < n by omega)
          simp only [Option.some.injEq, Addr.mk.injEq, and_true] at hbo
          obtain ⟨rfl, rfl⟩ := hbo
          exact c2
        have HPV := hide hprev
        clear hprev
        go_upto_region 7 with fail
        go_cut [38] (fun t wx => t = .bool (!stepF O k) ∧ Hid (Below wr.heap.size wr wx))
        case first =>
          cases hnb : nameB (O.N k) with
          | false =>
            have HSF := hide (stepF_name hnb)
            have HNM : Hid (∀ W, Calls Try.prog 78 #[.string (O.N k)] W fun e w' => e = .returned (.bool false) ∧ Below W.heap.size W w') := fun W => by have := spec_l6Name (O.N k) W; rwa [hnb] at this
            clear hnb
            have LO : Below wr.heap.size wr wr := Below.refl _ _
            refine wp_region_noPanic ?_
            have hb0 : Below wr.heap.size wr wr.drew := (Below.refl _ _).drew
            have LO_0 := LO.trans (hb0.mono LO.size)
            refine wp_region_held_drew (S := fun x => Below wr.heap.size wr x) (by kernel_rfl) LO_0 (fun hSz => ?_)
            clear hSz LO
            generalize wr.drew = wq0 at hb0 LO_0 ⊢
            clear hb0
            refine wpAnyH_take (i := 0) (v := .slice (some ⟨b, off, none⟩) n cap) nat0 (by kernel_rfl) (by kernel_rfl) (by kernel_rfl) (fun _ _ _ h => False.elim h) (Or.inl ⟨by rfl, ?_⟩) LO_0 ?_
            · intro wx hSw
              go_simp
            simp only [Act.put, List.setIfInBounds_toArray, List.set_cons_zero, List.set_cons_succ]
            refine wpAnyH_take (i := 1) (v := .int .i64 ((k : Int))) nat1 (by kernel_rfl) (by kernel_rfl) (by kernel_rfl) (fun _ _ _ h => False.elim h) (Or.inl ⟨by rfl, ?_⟩) LO_0 ?_
            · intro wx hSw
              go_simp
            simp only [Act.put, List.setIfInBounds_toArray, List.set_cons_zero, List.set_cons_succ]
            refine wpAnyH_take (i := 2) (v := .pointer (some ⟨b, off + k * 2, none⟩)) nat2 (by kernel_rfl) (by kernel_rfl) (by kernel_rfl) (fun _ _ _ h => False.elim h) (Or.inl ⟨by rfl, ?_⟩) LO_0 ?_
            · intro wx hSw
              go_simp
            simp only [Act.put, List.setIfInBounds_toArray, List.set_cons_zero, List.set_cons_succ]
            refine wpAnyH_take (i := 3) (v := .pointer (some ⟨b, off + k * 2, none⟩)) nat3 (by kernel_rfl) (by kernel_rfl) (by kernel_rfl) (fun _ _ _ h => False.elim h) (Or.inl ⟨by rfl, ?_⟩) LO_0 ?_
            · intro wx hSw
              go_simp
            simp only [Act.put, List.setIfInBounds_toArray, List.set_cons_zero, List.set_cons_succ]
            refine wpAnyH_take (i := 4) (v := .string (O.N k)) nat4 (by kernel_rfl) (by kernel_rfl) (by kernel_rfl) (fun _ _ _ h => False.elim h) (Or.inl ⟨by rfl, ?_⟩) LO_0 ?_
            · intro wx hSw
              have y0 := (hSw.cell (p := ⟨b, _, none⟩) hb).trans c0
              go_simp
            simp only [Act.put, List.setIfInBounds_toArray, List.set_cons_zero, List.set_cons_succ]
            refine wpAnyH_ready (rs := [5]) (by kernel_rfl) (by simp) ?_
            refine AllReadyH.cons nat5 (fun K hK => ?_) AllReadyH.nil
            go_simp
            go_at_call 78
            refine (HNM.out wq0).mono ?_
            rintro e wq1 ⟨rfl, hb1⟩
            have LO_1 := LO_0.trans (hb1.mono LO_0.size)
            refine hK.out _ _ LO_1 (fun hSz => ?_)
            clear hK K hSz LO_0 hb1
            refine wpAnyH_take (i := 6) (v := .bool true) nat6 (by kernel_rfl) (by kernel_rfl) (by kernel_rfl) (fun _ _ _ h => False.elim h) (Or.inl ⟨by rfl, ?_⟩) LO_1 ?_
            · intro wx hSw
              go_simp
            simp only [Act.put, List.setIfInBounds_toArray, List.set_cons_zero, List.set_cons_succ]
            refine wpAnyH_take (i := 7) (v := .bool true) nat7 (by kernel_rfl) (by kernel_rfl) (by kernel_rfl) (fun _ _ _ h => False.elim h) (Or.inl ⟨by rfl, ?_⟩) LO_1 ?_
            · intro wx hSw
              go_simp
            simp only [Act.put, List.setIfInBounds_toArray, List.set_cons_zero, List.set_cons_succ]
            refine wpAnyH_take (i := 8) (v := undef) nat8 (by kernel_rfl) (by kernel_rfl) (by kernel_rfl) (fun _ _ _ h => False.elim h) (Or.inr ⟨by rfl, rfl⟩) LO_1 ?_
            simp only [Act.put, List.setIfInBounds_toArray, List.set_cons_zero, List.set_cons_succ]
            refine wpAnyH_take (i := 9) (v := undef) nat9 (by kernel_rfl) (by kernel_rfl) (by kernel_rfl) (fun _ _ _ h => False.elim h) (Or.inr ⟨by rfl, rfl⟩) LO_1 ?_
            simp only [Act.put, List.setIfInBounds_toArray, List.set_cons_zero, List.set_cons_succ]
            refine wpAnyH_take (i := 10) (v := undef) nat10 (by kernel_rfl) (by kernel_rfl) (by kernel_rfl) (fun _ _ _ h => False.elim h) (Or.inr ⟨by rfl, rfl⟩) LO_1 ?_
            simp only [Act.put, List.setIfInBounds_toArray, List.set_cons_zero, List.set_cons_succ]
            refine wpAnyH_take (i := 11) (v := undef) nat11 (by kernel_rfl) (by kernel_rfl) (by kernel_rfl) (fun _ _ _ h => False.elim h) (Or.inr ⟨by rfl, rfl⟩) LO_1 ?_
            simp only [Act.put, List.setIfInBounds_toArray, List.set_cons_zero, List.set_cons_succ]
            refine wpAnyH_take (i := 12) (v := undef) nat12 (by kernel_rfl) (by kernel_rfl) (by kernel_rfl) (fun _ _ _ h => False.elim h) (Or.inr ⟨by rfl, rfl⟩) LO_1 ?_
            simp only [Act.put, List.setIfInBounds_toArray, List.set_cons_zero, List.set_cons_succ]
            refine wpAnyH_take (i := 13) (v := undef) nat13 (by kernel_rfl) (by kernel_rfl) (by kernel_rfl) (fun _ _ _ h => False.elim h) (Or.inr ⟨by rfl, rfl⟩) LO_1 ?_
            simp only [Act.put, List.setIfInBounds_toArray, List.set_cons_zero, List.set_cons_succ]
            refine wpAnyH_take (i := 14) (v := undef) nat14 (by kernel_rfl) (by kernel_rfl) (by kernel_rfl) (fun _ _ _ h => False.elim h) (Or.inr ⟨by rfl, rfl⟩) LO_1 ?_
            simp only [Act.put, List.setIfInBounds_toArray, List.set_cons_zero, List.set_cons_succ]
            refine wpAnyH_take (i := 15) (v := undef) nat15 (by kernel_rfl) (by kernel_rfl) (by kernel_rfl) (fun _ _ _ h => False.elim h) (Or.inr ⟨by rfl, rfl⟩) LO_1 ?_
            simp only [Act.put, List.setIfInBounds_toArray, List.set_cons_zero, List.set_cons_succ]
            refine wpAnyH_take (i := 16) (v := undef) nat16 (by kernel_rfl) (by kernel_rfl) (by kernel_rfl) (fun _ _ _ h => False.elim h) (Or.inr ⟨by rfl, rfl⟩) LO_1 ?_
            simp only [Act.put, List.setIfInBounds_toArray, List.set_cons_zero, List.set_cons_succ]
            refine wpAnyH_take (i := 17) (v := undef) nat17 (by kernel_rfl) (by kernel_rfl) (by kernel_rfl) (fun _ _ _ h => False.elim h) (Or.inr ⟨by rfl, rfl⟩) LO_1 ?_
            simp only [Act.put, List.setIfInBounds_toArray, List.set_cons_zero, List.set_cons_succ]
            refine wpAnyH_take (i := 18) (v := undef) nat18 (by kernel_rfl) (by kernel_rfl) (by kernel_rfl) (fun _ _ _ h => False.elim h) (Or.inr ⟨by rfl, rfl⟩) LO_1 ?_
            simp only [Act.put, List.setIfInBounds_toArray, List.set_cons_zero, List.set_cons_succ]
            refine wpAnyH_take (i := 19) (v := undef) nat19 (by kernel_rfl) (by kernel_rfl) (by kernel_rfl) (fun _ _ _ h => False.elim h) (Or.inr ⟨by rfl, rfl⟩) LO_1 ?_
            simp only [Act.put, List.setIfInBounds_toArray, List.set_cons_zero, List.set_cons_succ]
            refine wpAnyH_take (i := 20) (v := undef) nat20 (by kernel_rfl) (by kernel_rfl) (by kernel_rfl) (fun _ _ _ h => False.elim h) (Or.inr ⟨by rfl, rfl⟩) LO_1 ?_
            simp only [Act.put, List.setIfInBounds_toArray, List.set_cons_zero, List.set_cons_succ]
            refine wpAnyH_take (i := 21) (v := undef) nat21 (by kernel_rfl) (by kernel_rfl) (by kernel_rfl) (fun _ _ _ h => False.elim h) (Or.inr ⟨by rfl, rfl⟩) LO_1 ?_
            simp only [Act.put, List.setIfInBounds_toArray, List.set_cons_zero, List.set_cons_succ]
            refine wpAnyH_take (i := 22) (v := undef) nat22 (by kernel_rfl) (by kernel_rfl) (by kernel_rfl) (fun _ _ _ h => False.elim h) (Or.inr ⟨by rfl, rfl⟩) LO_1 ?_
            simp only [Act.put, List.setIfInBounds_toArray, List.set_cons_zero, List.set_cons_succ]
            refine wpAnyH_take (i := 23) (v := undef) nat23 (by kernel_rfl) (by kernel_rfl) (by kernel_rfl) (fun _ _ _ h => False.elim h) (Or.inr ⟨by rfl, rfl⟩) LO_1 ?_
            simp only [Act.put, List.setIfInBounds_toArray, List.set_cons_zero, List.set_cons_succ]
            refine wpAnyH_take (i := 24) (v := .bool true) nat24 (by kernel_rfl) (by kernel_rfl) (by kernel_rfl) (fun _ _ _ h => False.elim h) (Or.inl ⟨by rfl, ?_⟩) LO_1 ?_
            · intro wx hSw
              go_simp
            simp only [Act.put, List.setIfInBounds_toArray, List.set_cons_zero, List.set_cons_succ]
            refine wpAnyH_done (by kernel_rfl) ?_ _
            refine NoPanic.normal ?_
            go_wp2_with fail
            go_meet
            exact ⟨by rw [HSF.out]; rfl, hide LO_1⟩
          | true =>
            have HNM : Hid (∀ W, Calls Try.prog 78 #[.string (O.N k)] W fun e w' => e = .returned (.bool true) ∧ Below W.heap.size W w') := fun W => by have := spec_l6Name (O.N k) W; rwa [hnb] at this
            by_cases hk0 : k = 0
            · have HSF := hide (stepF_zero hk0 hnb)
              have hkz : ¬ (0 : Int) < (k : Int) := by omega
              clear hnb hk0
              have LO : Below wr.heap.size wr wr := Below.refl _ _
              refine wp_region_noPanic ?_
              have hb0 : Below wr.heap.size wr wr.drew := (Below.refl _ _).drew
              have LO_0 := LO.trans (hb0.mono LO.size)
              refine wp_region_held_drew (S := fun x => Below wr.heap.size wr x) (by kernel_rfl) LO_0 (fun hSz => ?_)
              clear hSz LO
              generalize wr.drew = wq0 at hb0 LO_0 ⊢
              clear hb0
              refine wpAnyH_take (i := 0) (v := .slice (some ⟨b, off, none⟩) n cap) nat0 (by kernel_rfl) (by kernel_rfl) (by kernel_rfl) (fun _ _ _ h => False.elim h) (Or.inl ⟨by rfl, ?_⟩) LO_0 ?_
              · intro wx hSw
                go_simp
              simp only [Act.put, List.setIfInBounds_toArray, List.set_cons_zero, List.set_cons_succ]
              refine wpAnyH_take (i := 1) (v := .int .i64 ((k : Int))) nat1 (by kernel_rfl) (by kernel_rfl) (by kernel_rfl) (fun _ _ _ h => False.elim h) (Or.inl ⟨by rfl, ?_⟩) LO_0 ?_
              · intro wx hSw
                go_simp
              simp only [Act.put, List.setIfInBounds_toArray, List.set_cons_zero, List.set_cons_succ]
              refine wpAnyH_take (i := 2) (v := .pointer (some ⟨b, off + k * 2, none⟩)) nat2 (by kernel_rfl) (by kernel_rfl) (by kernel_rfl) (fun _ _ _ h => False.elim h) (Or.inl ⟨by rfl, ?_⟩) LO_0 ?_
              · intro wx hSw
                go_simp
              simp only [Act.put, List.setIfInBounds_toArray, List.set_cons_zero, List.set_cons_succ]
              refine wpAnyH_take (i := 3) (v := .pointer (some ⟨b, off + k * 2, none⟩)) nat3 (by kernel_rfl) (by kernel_rfl) (by kernel_rfl) (fun _ _ _ h => False.elim h) (Or.inl ⟨by rfl, ?_⟩) LO_0 ?_
              · intro wx hSw
                go_simp
              simp only [Act.put, List.setIfInBounds_toArray, List.set_cons_zero, List.set_cons_succ]
              refine wpAnyH_take (i := 4) (v := .string (O.N k)) nat4 (by kernel_rfl) (by kernel_rfl) (by kernel_rfl) (fun _ _ _ h => False.elim h) (Or.inl ⟨by rfl, ?_⟩) LO_0 ?_
              · intro wx hSw
                have y0 := (hSw.cell (p := ⟨b, _, none⟩) hb).trans c0
                go_simp
              simp only [Act.put, List.setIfInBounds_toArray, List.set_cons_zero, List.set_cons_succ]
              refine wpAnyH_ready (rs := [5]) (by kernel_rfl) (by simp) ?_
              refine AllReadyH.cons nat5 (fun K hK => ?_) AllReadyH.nil
              go_simp
              go_at_call 78
              refine (HNM.out wq0).mono ?_
              rintro e wq1 ⟨rfl, hb1⟩
              have LO_1 := LO_0.trans (hb1.mono LO_0.size)
              refine hK.out _ _ LO_1 (fun hSz => ?_)
              clear hK K hSz LO_0 hb1
              refine wpAnyH_take (i := 6) (v := .bool false) nat6 (by kernel_rfl) (by kernel_rfl) (by kernel_rfl) (fun _ _ _ h => False.elim h) (Or.inl ⟨by rfl, ?_⟩) LO_1 ?_
              · intro wx hSw
                go_simp
              simp only [Act.put, List.setIfInBounds_toArray, List.set_cons_zero, List.set_cons_succ]
              refine wpAnyH_take (i := 7) (v := .bool false) nat7 (by kernel_rfl) (by kernel_rfl) (by kernel_rfl) (fun _ _ _ h => False.elim h) (Or.inl ⟨by rfl, ?_⟩) LO_1 ?_
              · intro wx hSw
                go_simp
              simp only [Act.put, List.setIfInBounds_toArray, List.set_cons_zero, List.set_cons_succ]
              refine wpAnyH_take (i := 8) (v := .int .i64 ((k : Int))) nat8 (by kernel_rfl) (by kernel_rfl) (by kernel_rfl) (fun _ _ _ h => False.elim h) (Or.inl ⟨by rfl, ?_⟩) LO_1 ?_
              · intro wx hSw
                go_simp
              simp only [Act.put, List.setIfInBounds_toArray, List.set_cons_zero, List.set_cons_succ]
              refine wpAnyH_take (i := 9) (v := .bool false) nat9 (by kernel_rfl) (by kernel_rfl) (by kernel_rfl) (fun _ _ _ h => False.elim h) (Or.inl ⟨by rfl, ?_⟩) LO_1 ?_
              · intro wx hSw
                go_simp
                try omega
              simp only [Act.put, List.setIfInBounds_toArray, List.set_cons_zero, List.set_cons_succ]
              refine wpAnyH_take (i := 10) (v := .bool false) nat10 (by kernel_rfl) (by kernel_rfl) (by kernel_rfl) (fun _ _ _ h => False.elim h) (Or.inl ⟨by rfl, ?_⟩) LO_1 ?_
              · intro wx hSw
                go_simp
              simp only [Act.put, List.setIfInBounds_toArray, List.set_cons_zero, List.set_cons_succ]
              refine wpAnyH_take (i := 11) (v := undef) nat11 (by kernel_rfl) (by kernel_rfl) (by kernel_rfl) (fun _ _ _ h => False.elim h) (Or.inr ⟨by rfl, rfl⟩) LO_1 ?_
              simp only [Act.put, List.setIfInBounds_toArray, List.set_cons_zero, List.set_cons_succ]
              refine wpAnyH_take (i := 12) (v := undef) nat12 (by kernel_rfl) (by kernel_rfl) (by kernel_rfl) (fun _ _ _ h => False.elim h) (Or.inr ⟨by rfl, rfl⟩) LO_1 ?_
              simp only [Act.put, List.setIfInBounds_toArray, List.set_cons_zero, List.set_cons_succ]
              refine wpAnyH_take (i := 13) (v := undef) nat13 (by kernel_rfl) (by kernel_rfl) (by kernel_rfl) (fun _ _ _ h => False.elim h) (Or.inr ⟨by rfl, rfl⟩) LO_1 ?_
              simp only [Act.put, List.setIfInBounds_toArray, List.set_cons_zero, List.set_cons_succ]
              refine wpAnyH_take (i := 14) (v := undef) nat14 (by kernel_rfl) (by kernel_rfl) (by kernel_rfl) (fun _ _ _ h => False.elim h) (Or.inr ⟨by rfl, rfl⟩) LO_1 ?_
              simp only [Act.put, List.setIfInBounds_toArray, List.set_cons_zero, List.set_cons_succ]
              refine wpAnyH_take (i := 15) (v := undef) nat15 (by kernel_rfl) (by kernel_rfl) (by kernel_rfl) (fun _ _ _ h => False.elim h) (Or.inr ⟨by rfl, rfl⟩) LO_1 ?_
              simp only [Act.put, List.setIfInBounds_toArray, List.set_cons_zero, List.set_cons_succ]
              refine wpAnyH_take (i := 16) (v := undef) nat16 (by kernel_rfl) (by kernel_rfl) (by kernel_rfl) (fun _ _ _ h => False.elim h) (Or.inr ⟨by rfl, rfl⟩) LO_1 ?_
              simp only [Act.put, List.setIfInBounds_toArray, List.set_cons_zero, List.set_cons_succ]
              refine wpAnyH_take (i := 17) (v := undef) nat17 (by kernel_rfl) (by kernel_rfl) (by kernel_rfl) (fun _ _ _ h => False.elim h) (Or.inr ⟨by rfl, rfl⟩) LO_1 ?_
              simp only [Act.put, List.setIfInBounds_toArray, List.set_cons_zero, List.set_cons_succ]
              refine wpAnyH_take (i := 18) (v := undef) nat18 (by kernel_rfl) (by kernel_rfl) (by kernel_rfl) (fun _ _ _ h => False.elim h) (Or.inr ⟨by rfl, rfl⟩) LO_1 ?_
              simp only [Act.put, List.setIfInBounds_toArray, List.set_cons_zero, List.set_cons_succ]
              refine wpAnyH_take (i := 19) (v := undef) nat19 (by kernel_rfl) (by kernel_rfl) (by kernel_rfl) (fun _ _ _ h => False.elim h) (Or.inr ⟨by rfl, rfl⟩) LO_1 ?_
              simp only [Act.put, List.setIfInBounds_toArray, List.set_cons_zero, List.set_cons_succ]
              refine wpAnyH_take (i := 20) (v := undef) nat20 (by kernel_rfl) (by kernel_rfl) (by kernel_rfl) (fun _ _ _ h => False.elim h) (Or.inr ⟨by rfl, rfl⟩) LO_1 ?_
              simp only [Act.put, List.setIfInBounds_toArray, List.set_cons_zero, List.set_cons_succ]
              refine wpAnyH_take (i := 21) (v := undef) nat21 (by kernel_rfl) (by kernel_rfl) (by kernel_rfl) (fun _ _ _ h => False.elim h) (Or.inr ⟨by rfl, rfl⟩) LO_1 ?_
              simp only [Act.put, List.setIfInBounds_toArray, List.set_cons_zero, List.set_cons_succ]
              refine wpAnyH_take (i := 22) (v := undef) nat22 (by kernel_rfl) (by kernel_rfl) (by kernel_rfl) (fun _ _ _ h => False.elim h) (Or.inr ⟨by rfl, rfl⟩) LO_1 ?_
              simp only [Act.put, List.setIfInBounds_toArray, List.set_cons_zero, List.set_cons_succ]
              refine wpAnyH_take (i := 23) (v := .bool false) nat23 (by kernel_rfl) (by kernel_rfl) (by kernel_rfl) (fun _ _ _ h => False.elim h) (Or.inl ⟨by rfl, ?_⟩) LO_1 ?_
              · intro wx hSw
                go_simp
              simp only [Act.put, List.setIfInBounds_toArray, List.set_cons_zero, List.set_cons_succ]
              refine wpAnyH_take (i := 24) (v := .bool false) nat24 (by kernel_rfl) (by kernel_rfl) (by kernel_rfl) (fun _ _ _ h => False.elim h) (Or.inl ⟨by rfl, ?_⟩) LO_1 ?_
              · intro wx hSw
                go_simp
              simp only [Act.put, List.setIfInBounds_toArray, List.set_cons_zero, List.set_cons_succ]
              refine wpAnyH_done (by kernel_rfl) ?_ _
              refine NoPanic.normal ?_
              go_wp2_with fail
              go_meet
              exact ⟨by rw [HSF.out]; rfl, hide LO_1⟩
            · have HSF := hide (stepF_pos hnb hk0)
              have hsub : IntKind.i64.wrap ((k : Int) - 1) = ((k - 1 : Nat) : Int) := by rw [IntKind.wrap_i64]; omega
              have hkp : (0 : Int) < (k : Int) := by omega
              have hk1 : ((k - 1 : Nat) : Int) < (n : Int) := by omega
              have hk2 : k - 1 < n := by omega
              clear hnb
              have LO : Below wr.heap.size wr wr := Below.refl _ _
              refine wp_region_noPanic ?_
              have hb0 : Below wr.heap.size wr wr.drew := (Below.refl _ _).drew
              have LO_0 := LO.trans (hb0.mono LO.size)
              refine wp_region_held_drew (S := fun x => Below wr.heap.size wr x) (by kernel_rfl) LO_0 (fun hSz => ?_)
              clear hSz LO
              generalize wr.drew = wq0 at hb0 LO_0 ⊢
              clear hb0
              refine wpAnyH_take (i := 0) (v := .slice (some ⟨b, off, none⟩) n cap) nat0 (by kernel_rfl) (by kernel_rfl) (by kernel_rfl) (fun _ _ _ h => False.elim h) (Or.inl ⟨by rfl, ?_⟩) LO_0 ?_
              · intro wx hSw
                go_simp
              simp only [Act.put, List.setIfInBounds_toArray, List.set_cons_zero, List.set_cons_succ]
              refine wpAnyH_take (i := 1) (v := .int .i64 ((k : Int))) nat1 (by kernel_rfl) (by kernel_rfl) (by kernel_rfl) (fun _ _ _ h => False.elim h) (Or.inl ⟨by rfl, ?_⟩) LO_0 ?_
              · intro wx hSw
                go_simp
              simp only [Act.put, List.setIfInBounds_toArray, List.set_cons_zero, List.set_cons_succ]
              refine wpAnyH_take (i := 2) (v := .pointer (some ⟨b, off + k * 2, none⟩)) nat2 (by kernel_rfl) (by kernel_rfl) (by kernel_rfl) (fun _ _ _ h => False.elim h) (Or.inl ⟨by rfl, ?_⟩) LO_0 ?_
              · intro wx hSw
                go_simp
              simp only [Act.put, List.setIfInBounds_toArray, List.set_cons_zero, List.set_cons_succ]
              refine wpAnyH_take (i := 3) (v := .pointer (some ⟨b, off + k * 2, none⟩)) nat3 (by kernel_rfl) (by kernel_rfl) (by kernel_rfl) (fun _ _ _ h => False.elim h) (Or.inl ⟨by rfl, ?_⟩) LO_0 ?_
              · intro wx hSw
                go_simp
              simp only [Act.put, List.setIfInBounds_toArray, List.set_cons_zero, List.set_cons_succ]
              refine wpAnyH_take (i := 4) (v := .string (O.N k)) nat4 (by kernel_rfl) (by kernel_rfl) (by kernel_rfl) (fun _ _ _ h => False.elim h) (Or.inl ⟨by rfl, ?_⟩) LO_0 ?_
              · intro wx hSw
                have y0 := (hSw.cell (p := ⟨b, _, none⟩) hb).trans c0
                go_simp
              simp only [Act.put, List.setIfInBounds_toArray, List.set_cons_zero, List.set_cons_succ]
              refine wpAnyH_ready (rs := [5]) (by kernel_rfl) (by simp) ?_
              refine AllReadyH.cons nat5 (fun K hK => ?_) AllReadyH.nil
              go_simp
              go_at_call 78
              refine (HNM.out wq0).mono ?_
              rintro e wq1 ⟨rfl, hb1⟩
              have LO_1 := LO_0.trans (hb1.mono LO_0.size)
              refine hK.out _ _ LO_1 (fun hSz => ?_)
              clear hK K hSz LO_0 hb1
              refine wpAnyH_take (i := 6) (v := .bool false) nat6 (by kernel_rfl) (by kernel_rfl) (by kernel_rfl) (fun _ _ _ h => False.elim h) (Or.inl ⟨by rfl, ?_⟩) LO_1 ?_
              · intro wx hSw
                go_simp
              simp only [Act.put, List.setIfInBounds_toArray, List.set_cons_zero, List.set_cons_succ]
              refine wpAnyH_take (i := 7) (v := .bool false) nat7 (by kernel_rfl) (by kernel_rfl) (by kernel_rfl) (fun _ _ _ h => False.elim h) (Or.inl ⟨by rfl, ?_⟩) LO_1 ?_
              · intro wx hSw
                go_simp
              simp only [Act.put, List.setIfInBounds_toArray, List.set_cons_zero, List.set_cons_succ]
              refine wpAnyH_take (i := 8) (v := .int .i64 ((k : Int))) nat8 (by kernel_rfl) (by kernel_rfl) (by kernel_rfl) (fun _ _ _ h => False.elim h) (Or.inl ⟨by rfl, ?_⟩) LO_1 ?_
              · intro wx hSw
                go_simp
              simp only [Act.put, List.setIfInBounds_toArray, List.set_cons_zero, List.set_cons_succ]
              refine wpAnyH_take (i := 9) (v := .bool true) nat9 (by kernel_rfl) (by kernel_rfl) (by kernel_rfl) (fun _ _ _ h => False.elim h) (Or.inl ⟨by rfl, ?_⟩) LO_1 ?_
              · intro wx hSw
                go_simp
                try omega
              simp only [Act.put, List.setIfInBounds_toArray, List.set_cons_zero, List.set_cons_succ]
              refine wpAnyH_take (i := 10) (v := .bool true) nat10 (by kernel_rfl) (by kernel_rfl) (by kernel_rfl) (fun _ _ _ h => False.elim h) (Or.inl ⟨by rfl, ?_⟩) LO_1 ?_
              · intro wx hSw
                go_simp
              simp only [Act.put, List.setIfInBounds_toArray, List.set_cons_zero, List.set_cons_succ]
              refine wpAnyH_take (i := 11) (v := .slice (some ⟨b, off, none⟩) n cap) nat11 (by kernel_rfl) (by kernel_rfl) (by kernel_rfl) (fun _ _ _ h => False.elim h) (Or.inl ⟨by rfl, ?_⟩) LO_1 ?_
              · intro wx hSw
                go_simp
              simp only [Act.put, List.setIfInBounds_toArray, List.set_cons_zero, List.set_cons_succ]
              refine wpAnyH_take (i := 12) (v := .int .i64 ((k : Int))) nat12 (by kernel_rfl) (by kernel_rfl) (by kernel_rfl) (fun _ _ _ h => False.elim h) (Or.inl ⟨by rfl, ?_⟩) LO_1 ?_
              · intro wx hSw
                go_simp
              simp only [Act.put, List.setIfInBounds_toArray, List.set_cons_zero, List.set_cons_succ]
              refine wpAnyH_take (i := 13) (v := .pointer (some ⟨b, off + k * 2, none⟩)) nat13 (by kernel_rfl) (by kernel_rfl) (by kernel_rfl) (fun _ _ _ h => False.elim h) (Or.inl ⟨by rfl, ?_⟩) LO_1 ?_
              · intro wx hSw
                go_simp
              simp only [Act.put, List.setIfInBounds_toArray, List.set_cons_zero, List.set_cons_succ]
              refine wpAnyH_take (i := 14) (v := .pointer (some ⟨b, off + k * 2, none⟩)) nat14 (by kernel_rfl) (by kernel_rfl) (by kernel_rfl) (fun _ _ _ h => False.elim h) (Or.inl ⟨by rfl, ?_⟩) LO_1 ?_
              · intro wx hSw
                go_simp
              simp only [Act.put, List.setIfInBounds_toArray, List.set_cons_zero, List.set_cons_succ]
              refine wpAnyH_take (i := 15) (v := .string (O.N k)) nat15 (by kernel_rfl) (by kernel_rfl) (by kernel_rfl) (fun _ _ _ h => False.elim h) (Or.inl ⟨by rfl, ?_⟩) LO_1 ?_
              · intro wx hSw
                have y0 := (hSw.cell (p := ⟨b, _, none⟩) hb).trans c0
                go_simp
              simp only [Act.put, List.setIfInBounds_toArray, List.set_cons_zero, List.set_cons_succ]
              refine wpAnyH_take (i := 16) (v := .slice (some ⟨b, off, none⟩) n cap) nat16 (by kernel_rfl) (by kernel_rfl) (by kernel_rfl) (fun _ _ _ h => False.elim h) (Or.inl ⟨by rfl, ?_⟩) LO_1 ?_
              · intro wx hSw
                go_simp
              simp only [Act.put, List.setIfInBounds_toArray, List.set_cons_zero, List.set_cons_succ]
              refine wpAnyH_take (i := 17) (v := .int .i64 ((k : Int))) nat17 (by kernel_rfl) (by kernel_rfl) (by kernel_rfl) (fun _ _ _ h => False.elim h) (Or.inl ⟨by rfl, ?_⟩) LO_1 ?_
              · intro wx hSw
                go_simp
              simp only [Act.put, List.setIfInBounds_toArray, List.set_cons_zero, List.set_cons_succ]
              refine wpAnyH_take (i := 18) (v := .int .i64 (((k - 1 : Nat) : Int))) nat18 (by kernel_rfl) (by kernel_rfl) (by kernel_rfl) (fun _ _ _ h => False.elim h) (Or.inl ⟨by rfl, ?_⟩) LO_1 ?_
              · intro wx hSw
                go_simp
                try exact hsub
              simp only [Act.put, List.setIfInBounds_toArray, List.set_cons_zero, List.set_cons_succ]
              refine wpAnyH_take (i := 19) (v := .pointer (some ⟨b, off + (k - 1) * 2, none⟩)) nat19 (by kernel_rfl) (by kernel_rfl) (by kernel_rfl) (fun _ _ _ h => False.elim h) (Or.inl ⟨by rfl, ?_⟩) LO_1 ?_
              · intro wx hSw
                go_simp
              simp only [Act.put, List.setIfInBounds_toArray, List.set_cons_zero, List.set_cons_succ]
              refine wpAnyH_take (i := 20) (v := .pointer (some ⟨b, off + (k - 1) * 2, none⟩)) nat20 (by kernel_rfl) (by kernel_rfl) (by kernel_rfl) (fun _ _ _ h => False.elim h) (Or.inl ⟨by rfl, ?_⟩) LO_1 ?_
              · intro wx hSw
                go_simp
              simp only [Act.put, List.setIfInBounds_toArray, List.set_cons_zero, List.set_cons_succ]
              refine wpAnyH_take (i := 21) (v := .string (O.N (k - 1))) nat21 (by kernel_rfl) (by kernel_rfl) (by kernel_rfl) (fun _ _ _ h => False.elim h) (Or.inl ⟨by rfl, ?_⟩) LO_1 ?_
              · intro wx hSw
                have y0 := (hSw.cell (p := ⟨b, _, none⟩) hb).trans (HPV.out hk0)
                go_simp
              simp only [Act.put, List.setIfInBounds_toArray, List.set_cons_zero, List.set_cons_succ]
              refine wpAnyH_take (i := 22) (v := .bool (!nmL (O.N (k - 1)) (O.N k))) nat22 (by kernel_rfl) (by kernel_rfl) (by kernel_rfl) (fun _ _ _ h => False.elim h) (Or.inl ⟨by rfl, ?_⟩) LO_1 ?_
              · intro wx hSw
                go_simp
                first | rfl | exact cmp_geq _ _ | exact cmp_leq _ _
              simp only [Act.put, List.setIfInBounds_toArray, List.set_cons_zero, List.set_cons_succ]
              refine wpAnyH_take (i := 23) (v := .bool (!nmL (O.N (k - 1)) (O.N k))) nat23 (by kernel_rfl) (by kernel_rfl) (by kernel_rfl) (fun _ _ _ h => False.elim h) (Or.inl ⟨by rfl, ?_⟩) LO_1 ?_
              · intro wx hSw
                go_simp
              simp only [Act.put, List.setIfInBounds_toArray, List.set_cons_zero, List.set_cons_succ]
              refine wpAnyH_take (i := 24) (v := .bool (!nmL (O.N (k - 1)) (O.N k))) nat24 (by kernel_rfl) (by kernel_rfl) (by kernel_rfl) (fun _ _ _ h => False.elim h) (Or.inl ⟨by rfl, ?_⟩) LO_1 ?_
              · intro wx hSw
                go_simp
              simp only [Act.put, List.setIfInBounds_toArray, List.set_cons_zero, List.set_cons_succ]
              refine wpAnyH_done (by kernel_rfl) ?_ _
              refine NoPanic.normal ?_
              go_wp2_with fail
              go_meet
              exact ⟨by rw [HSF.out], hide LO_1⟩
        case rest =>
        obtain ⟨rfl, HW1⟩ := hcut
        obtain ⟨w1, rfl⟩ : ∃ x, x = wc := ⟨_, rfl⟩
        have HW2 := hide (HW.out.trans (HW1.out.mono HW.out.size))
        have c1q := (HW1.out.cell (p := ⟨b, off + k * 2 + 1, none⟩) hb).trans c1
        cases hsf : stepF O k with
        | false =>
          have HV := hide (filesB_step hsf hlt)
          clear hsf
          go_wp2
          go_ret
          exact ⟨(congrArg (fun q => Ending.returned (Value.bool q)) HV.out).symm, HW2.out⟩
        | true =>
          have HST2 : Hid (stepsF O (k + 1) = true) := by show _ = _; rw [stepsF_succ, HST.out, hsf]; rfl
          have hb1 := sizeTo_le HZ.out hk
          have hb2 := HZ.out k hlt
          have hb3 : k * 90000000 ≤ 60 * 90000000 := Nat.mul_le_mul_right _ (by omega)
          have hadd : IntKind.i64.wrap (((sizeTo O k : Nat) : Int) + ((O.D k).size : Int)) = ((sizeTo O (k + 1) : Nat) : Int) := by rw [IntKind.wrap_i64, sizeTo]; omega
          clear hsf hb1 hb2 hb3
          go_wp2
          exact ⟨⟨k + 1, by first | rfl | rw [hadd], by go_num, by omega, HST2.out, HW2⟩, by simp [intOf]; omega⟩
      · obtain rfl : k = n := by omega
        have HV := hide (filesB_end h60 HST.out)
        by_cases hsz : sizeTo O k ≤ 200000
        · have hq : ((sizeTo O k : Nat) : Int) ≤ 200000 := by omega
          have HV2 : Hid (filesB O k = true) := by show _ = _; rw [HV.out]; exact decide_eq_true hsz
          clear hsz
          go_wp2
          go_ret
          exact ⟨(congrArg (fun q => Ending.returned (Value.bool q)) HV2.out).symm, HW.out⟩
        · have hq : ¬ ((sizeTo O k : Nat) : Int) ≤ 200000 := by omega
          have HV2 : Hid (filesB O k = false) := by show _ = _; rw [HV.out]; exact decide_eq_false hsz
          clear hsz
          go_wp2
          go_ret
          exact ⟨(congrArg (fun q => Ending.returned (Value.bool q)) HV2.out).symm, HW.out⟩
  · have k60 : (60 : Int) < (n : Int) := by omega
    have HV := hide (filesB_many (O := O) h60)
    go_enter Try.func41, Try.ntmps41
    go_wp2
    go_ret
    exact ⟨(congrArg (fun q => Ending.returned (Value.bool q)) HV.out).symm, Below.refl _ _⟩

end Go.Proofs.Ytejedpmkbkclhaa
