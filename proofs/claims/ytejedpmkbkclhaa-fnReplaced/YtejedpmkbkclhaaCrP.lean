/- What a crash leaves: lists; tornAt of the program. (By gen_crp.py.) -/
import Derived.Test.YtejedpmkbkclhaaDskO
import Derived.Test.YtejedpmkbkclhaaRis
namespace Go.Proofs.Ytejedpmkbkclhaa
set_option maxRecDepth 100000
open Go.RowKit Go.Deep Go.Maps

/-- The first bytes of a text. -/
def tkB (d : ByteArray) (t : Int) : ByteArray := if t < (d.size : Int) then d.extract 0 t.toNat else d
theorem tkB_cut {d : ByteArray} {t : Int} (h : t < (d.size : Int)) : tkB d t = d.extract 0 t.toNat := if_pos h
theorem tkB_all {d : ByteArray} {t : Int} (h : ¬ t < (d.size : Int)) : tkB d t = d := if_neg h
theorem tkB_size (d : ByteArray) (t : Int) : (tkB d t).size ≤ d.size := by
  unfold tkB
  split
  · rw [ByteArray.size_extract]; omega
  · exact Nat.le_refl _
/-- An op of which only the first bytes got there. -/
def tornO (o : DOp1) (t : Int) : DOp1 := if o.k = 1 then ⟨o.k, o.n, o.t, tkB o.d t⟩ else o
theorem tornO_form {o : DOp1} (t : Int) (h : formB o = true) : formB (tornO o t) = true := by
  unfold tornO
  split
  · rename_i hk
    unfold formB at h ⊢
    rw [if_pos hk] at h
    simp only [hk, if_true]
    rw [hk] at *
    exact h
  · exact h
theorem tornO_size (o : DOp1) (t : Int) : (tornO o t).d.size ≤ o.d.size := by
  unfold tornO
  split
  · exact tkB_size _ _
  · exact Nat.le_refl _
/-- The op that is done k-th; the files behind k of them. -/
def opC (O : DOps) (K : Nat → Int) (n : Nat) (t : Int) (k : Nat) : DOp1 := if k + 1 = n then tornO (opAt O (K k).toNat) t else opAt O (K k).toNat
def crS (S : List File1) (O : DOps) (K : Nat → Int) (n : Nat) (t : Int) : Nat → List File1
  | 0 => S
  | k + 1 => doF (crS S O K n t k) (opC O K n t k)
/-- A right disk's ops. -/
theorem dB_see {c : DiskC} (h : dB c = true) : seeB (filesL c.r1 c.n1) c.r2 c.n2 = true := by
  unfold dB diskB at h
  simp only [Bool.and_eq_true] at h
  exact h.1.2
theorem see_at {S : List File1} {O : DOps} {n i : Nat} (h : seeB S O n = true) (hi : i < n) : formB (opAt O i) = true ∧ fitsB (doF (seeF S O i) (opAt O i)) = true := by
  cases e : (formB (opAt O i) && doB (seeF S O i) (opAt O i) && fitsB (doF (seeF S O i) (opAt O i))) with
  | true =>
    simp only [Bool.and_eq_true] at e
    exact ⟨e.1.1, e.2⟩
  | false => rw [seeB_stop e hi] at h; cases h
theorem see_data {S : List File1} {O : DOps} {n i : Nat} (h : seeB S O n = true) (hi : i < n) : (opAt O i).d.size ≤ 200000 := by
  obtain ⟨h1, h2⟩ := see_at h hi
  obtain ⟨h3, _⟩ := fits_sizes h2
  rcases form_k h1 with hk | hk | hk
  · unfold doF at h3
    rw [if_pos hk, sizeF_put, ByteArray.size_append] at h3
    omega
  · unfold formB at h1
    rw [Bool.and_eq_true, if_neg (by omega), if_pos hk, Bool.and_eq_true, decide_eq_true_eq] at h1
    omega
  · unfold formB at h1
    rw [Bool.and_eq_true, if_neg (by omega), if_neg (by omega), if_pos hk, Bool.and_eq_true, decide_eq_true_eq, decide_eq_true_eq] at h1
    omega
/-- The kept ops are right ones. -/
theorem opC_ok {S : List File1} {O : DOps} {m : Nat} (h : seeB S O m = true) {K : Nat → Int} {n : Nat} (t : Int) {k : Nat} (h0 : 0 ≤ K k) (h1 : K k < (m : Int)) : formB (opC O K n t k) = true ∧ (opC O K n t k).d.size ≤ 200000 := by
  have hi : (K k).toNat < m := by omega
  obtain ⟨h2, _⟩ := see_at h hi
  have h3 := see_data h hi
  unfold opC
  split
  · exact ⟨tornO_form t h2, Nat.le_trans (tornO_size _ _) h3⟩
  · exact ⟨h2, h3⟩
/-- What is so of the files all along. -/
structure CrF (l : List File1) (k : Nat) : Prop where
  ris : RisF l
  nm : ∀ f, f ∈ l → nameB f.n = true
  sz : sizeF l ≤ 200000 + k * 200000
  len : l.length ≤ 60 + k
theorem CrF.step {l : List File1} {k : Nat} (h : CrF l k) {o : DOp1} (hf : formB o = true) (hd : o.d.size ≤ 200000) : CrF (doF l o) (k + 1) :=
  ⟨risF_do h.ris o, names_do hf h.nm, by have h1 := sizeF_do h.ris o; have h2 := h.sz; omega, by have h1 := do_len l o; have h2 := h.len; omega⟩
theorem CrF.start {O : Files} {n : Nat} (h : filesB O n = true) : CrF (filesL O n) 0 := by
  obtain ⟨h1, h2, h3, h4⟩ := filesB_ris h
  exact ⟨h1, fun f hf => by obtain ⟨i, hi, rfl⟩ := List.mem_map.1 hf; exact h2 i (List.mem_range.1 hi), by omega, by rw [filesL_len]; omega⟩
/-- The answer of Crash. -/
def crB (c : DiskC) (K : Nat → Int) (n : Nat) (t : Int) : Bool := dB c && upsB ((c.n2 : Int) - 1) K n && decide (0 ≤ t) && fitsB (crS (filesL c.r1 c.n1) c.r2 K n t n)
def crL (c : DiskC) (K : Nat → Int) (n : Nat) (t : Int) : List File1 := if crB c K n t then crS (filesL c.r1 c.n1) c.r2 K n t n else []
theorem crB_disk {c : DiskC} (h : dB c = false) (K : Nat → Int) (n : Nat) (t : Int) : crB c K n t = false ∧ crL c K n t = [] := by
  have : crB c K n t = false := by unfold crB; rw [h]; rfl
  exact ⟨this, by unfold crL; rw [this]; rfl⟩
theorem crB_ups {c : DiskC} {K : Nat → Int} {n : Nat} (h : upsB ((c.n2 : Int) - 1) K n = false) (t : Int) : crB c K n t = false ∧ crL c K n t = [] := by
  have : crB c K n t = false := by unfold crB; rw [h]; simp
  exact ⟨this, by unfold crL; rw [this]; rfl⟩
theorem crB_torn (c : DiskC) (K : Nat → Int) (n : Nat) {t : Int} (h : ¬ 0 ≤ t) : crB c K n t = false ∧ crL c K n t = [] := by
  have : crB c K n t = false := by unfold crB; rw [decide_eq_false h]; simp
  exact ⟨this, by unfold crL; rw [this]; rfl⟩
theorem crB_full {c : DiskC} {K : Nat → Int} {n : Nat} {t : Int} (h : fitsB (crS (filesL c.r1 c.n1) c.r2 K n t n) = false) : crB c K n t = false ∧ crL c K n t = [] := by
  have : crB c K n t = false := by unfold crB; rw [h]; simp
  exact ⟨this, by unfold crL; rw [this]; rfl⟩
theorem crB_yes {c : DiskC} {K : Nat → Int} {n : Nat} {t : Int} (h1 : dB c = true) (h2 : upsB ((c.n2 : Int) - 1) K n = true) (h3 : 0 ≤ t) (h4 : fitsB (crS (filesL c.r1 c.n1) c.r2 K n t n) = true) : crB c K n t = true ∧ crL c K n t = crS (filesL c.r1 c.n1) c.r2 K n t n := by
  have : crB c K n t = true := by unfold crB; rw [h1, h2, decide_eq_true h3, h4]; rfl
  exact ⟨this, by unfold crL; rw [this]; rfl⟩
theorem ups_at {M : Int} {K : Nat → Int} {n : Nat} (h : upsB M K n = true) {k : Nat} (hk : k < n) : 0 ≤ K k ∧ K k ≤ M := by
  have h1 := upsB_out h k hk
  unfold upB at h1
  rw [Bool.and_eq_true, decide_eq_true_eq] at h1
  exact h1.1
/-- No more than there are. -/
theorem ups_len {M : Int} {K : Nat → Int} {n : Nat} (h : upsB M K n = true) (hM : M ≤ 199) : n ≤ 200 := by
  have key : ∀ k, k < n → (k : Int) ≤ K k := by
    intro k
    induction k with
    | zero => intro hk; exact (ups_at h hk).1
    | succ k ih =>
      intro hk
      have h1 := upsB_out h (k + 1) hk
      unfold upB at h1
      rw [Bool.and_eq_true, Bool.or_eq_true, decide_eq_true_eq, decide_eq_true_eq, decide_eq_true_eq] at h1
      have h2 := ih (by omega)
      rcases h1.2 with h3 | h3
      · omega
      · have h4 : k + 1 - 1 = k := by omega
        rw [h4] at h3
        omega
  by_cases hn : n = 0
  · omega
  · have h1 := key (n - 1) (by omega)
    have h2 := (ups_at h (show n - 1 < n by omega)).2
    omega

set_option linter.unusedVariables false in
set_option linter.unusedSimpArgs false in
set_option maxHeartbeats 4000000 in
theorem impl_tornAt_app (n d : ByteArray) (t : Int) (w : World) (ht : 0 ≤ t) (ht2 : t ≤ 9223372036854775807) (hd : d.size ≤ 100000000) :
    Calls Try.prog 66 #[.iface 122 (.agg #[.string n, .string d]), .int .i64 t] w fun e w' => e = .returned (.iface 122 (.agg #[.string n, .string (tkB d t)])) ∧ Below w.heap.size w w' := by
  have htapp : ∀ w, (Instr.typeAssert (.iface 122 (.agg #[.string n, .string d])) 79 122 true).run Try.prog w = .ok (.tuple #[.agg #[.string n, .string d], .bool true]) w := fun _ => by kernel_rfl
  have hb := below_one w (.cells #[.string n, .string d] 122)
  have hC := BoxIs.new w #[.string n, .string d] 122 rfl
  by_cases h : t < (d.size : Int)
  · have HV := hide (tkB_cut h)
    go_enter Try.func66, Try.ntmps66
    go_upto_region 6 with fail
    generalize w.alloc (.cells #[.string n, .string d] 122) = W at hb hC ⊢
    clear htapp
    refine wp_region_noPanic ?_
    have hb0 : Below W.heap.size W W.drew := (Below.refl _ _).drew
    have hb_0 := hb.trans (hb0.mono hb.size)
    have hC_0 := hC.next hb0
    refine wp_region_held_drew (S := fun x => BoxIs x w.heap.size #[.string n, .string d] 122) (by kernel_rfl) hC_0 (fun hSz => ?_)
    clear hSz hC hb
    generalize W.drew = wq0 at hb0 hb_0 hC_0 ⊢
    clear hb0
    refine wpAnyH_take (i := 0) (v := .pointer (some ⟨w.heap.size, 0, none⟩)) nat0 (by kernel_rfl) (by kernel_rfl) (by kernel_rfl) (fun _ _ _ h => False.elim h) (Or.inl ⟨by rfl, ?_⟩) hC_0 ?_
    · intro wx hSw
      go_simp
    simp only [Act.put, List.setIfInBounds_toArray, List.set_cons_zero, List.set_cons_succ]
    refine wpAnyH_take (i := 1) (v := .string n) nat1 (by kernel_rfl) (by kernel_rfl) (by kernel_rfl) (fun _ _ _ h => False.elim h) (Or.inl ⟨by rfl, ?_⟩) hC_0 ?_
    · intro wx hSw
      have y0 := hSw.cell 0
      simp only [List.getElem?_toArray, List.getElem?_cons_succ, List.getElem?_cons_zero] at y0
      go_simp
    simp only [Act.put, List.setIfInBounds_toArray, List.set_cons_zero, List.set_cons_succ]
    refine wpAnyH_take (i := 2) (v := .pointer (some ⟨w.heap.size, 1, none⟩)) nat2 (by kernel_rfl) (by kernel_rfl) (by kernel_rfl) (fun _ _ _ h => False.elim h) (Or.inl ⟨by rfl, ?_⟩) hC_0 ?_
    · intro wx hSw
      go_simp
    simp only [Act.put, List.setIfInBounds_toArray, List.set_cons_zero, List.set_cons_succ]
    refine wpAnyH_take (i := 3) (v := .string d) nat3 (by kernel_rfl) (by kernel_rfl) (by kernel_rfl) (fun _ _ _ h => False.elim h) (Or.inl ⟨by rfl, ?_⟩) hC_0 ?_
    · intro wx hSw
      have y0 := hSw.cell 1
      simp only [List.getElem?_toArray, List.getElem?_cons_succ, List.getElem?_cons_zero] at y0
      go_simp
    simp only [Act.put, List.setIfInBounds_toArray, List.set_cons_zero, List.set_cons_succ]
    refine wpAnyH_take (i := 4) (v := .pointer (some ⟨w.heap.size, 1, none⟩)) nat4 (by kernel_rfl) (by kernel_rfl) (by kernel_rfl) (fun _ _ _ h => False.elim h) (Or.inl ⟨by rfl, ?_⟩) hC_0 ?_
    · intro wx hSw
      go_simp
    simp only [Act.put, List.setIfInBounds_toArray, List.set_cons_zero, List.set_cons_succ]
    refine wpAnyH_take (i := 5) (v := .string d) nat5 (by kernel_rfl) (by kernel_rfl) (by kernel_rfl) (fun _ _ _ h => False.elim h) (Or.inl ⟨by rfl, ?_⟩) hC_0 ?_
    · intro wx hSw
      have y0 := hSw.cell 1
      simp only [List.getElem?_toArray, List.getElem?_cons_succ, List.getElem?_cons_zero] at y0
      go_simp
    simp only [Act.put, List.setIfInBounds_toArray, List.set_cons_zero, List.set_cons_succ]
    refine wpAnyH_take (i := 6) (v := .int .i64 (((d.size : Nat) : Int))) nat6 (by kernel_rfl) (by kernel_rfl) (by kernel_rfl) (fun _ _ _ h => False.elim h) (Or.inl ⟨by rfl, ?_⟩) hC_0 ?_
    · intro wx hSw
      go_simp
    simp only [Act.put, List.setIfInBounds_toArray, List.set_cons_zero, List.set_cons_succ]
    refine wpAnyH_take (i := 7) (v := .int .i64 t) nat7 (by kernel_rfl) (by kernel_rfl) (by kernel_rfl) (fun _ _ _ h => False.elim h) (Or.inl ⟨by rfl, ?_⟩) hC_0 ?_
    · intro wx hSw
      go_simp
    simp only [Act.put, List.setIfInBounds_toArray, List.set_cons_zero, List.set_cons_succ]
    refine wpAnyH_take (i := 8) (v := .int .i64 t) nat8 (by kernel_rfl) (by kernel_rfl) (by kernel_rfl) (fun _ _ _ h => False.elim h) (Or.inl ⟨by rfl, ?_⟩) hC_0 ?_
    · intro wx hSw
      go_simp
    simp only [Act.put, List.setIfInBounds_toArray, List.set_cons_zero, List.set_cons_succ]
    refine wpAnyH_take (i := 9) (v := .string ((d.extract 0 t.toNat))) nat9 (by kernel_rfl) (by kernel_rfl) (by kernel_rfl) (fun _ _ _ h => False.elim h) (Or.inl ⟨by rfl, ?_⟩) hC_0 ?_
    · intro wx hSw
      go_simp
      intro hh; omega
    simp only [Act.put, List.setIfInBounds_toArray, List.set_cons_zero, List.set_cons_succ]
    refine wpAnyH_take (i := 10) (v := .agg #[.string n, .string ((d.extract 0 t.toNat))]) nat10 (by kernel_rfl) (by kernel_rfl) (by kernel_rfl) (fun _ _ _ h => False.elim h) (Or.inl ⟨by rfl, ?_⟩) hC_0 ?_
    · intro wx hSw
      go_simp
    simp only [Act.put, List.setIfInBounds_toArray, List.set_cons_zero, List.set_cons_succ]
    refine wpAnyH_take (i := 11) (v := .iface 122 (.agg #[.string n, .string (d.extract 0 t.toNat)])) nat11 (by kernel_rfl) (by kernel_rfl) (by kernel_rfl) (fun _ _ _ h => False.elim h) (Or.inl ⟨by rfl, ?_⟩) hC_0 ?_
    · intro wx hSw
      go_simp
    simp only [Act.put, List.setIfInBounds_toArray, List.set_cons_zero, List.set_cons_succ]
    refine wpAnyH_take (i := 12) (v := .iface 122 (.agg #[.string n, .string (d.extract 0 t.toNat)])) nat12 (by kernel_rfl) (by kernel_rfl) (by kernel_rfl) (fun _ _ _ h => False.elim h) (Or.inl ⟨by rfl, ?_⟩) hC_0 ?_
    · intro wx hSw
      go_simp
    simp only [Act.put, List.setIfInBounds_toArray, List.set_cons_zero, List.set_cons_succ]
    refine wpAnyH_done (by kernel_rfl) ?_ _
    refine NoPanic.normal ?_
    have HB := hide hb_0
    clear hb_0 hC_0
    go_wp2
    go_ret
    exact ⟨by rw [HV.out]; rfl, HB.out⟩
  · have HV := hide (tkB_all h)
    have hx0 : d.extract 0 d.size = d := by simp
    have hx1 : d.extract 0 ((d.size : Int)).toNat = d := by simp
    have hle : (d.size : Int) ≤ t := by omega
    go_enter Try.func66, Try.ntmps66
    go_upto_region 6 with fail
    generalize w.alloc (.cells #[.string n, .string d] 122) = W at hb hC ⊢
    clear htapp
    refine wp_region_noPanic ?_
    have hb0 : Below W.heap.size W W.drew := (Below.refl _ _).drew
    have hb_0 := hb.trans (hb0.mono hb.size)
    have hC_0 := hC.next hb0
    refine wp_region_held_drew (S := fun x => BoxIs x w.heap.size #[.string n, .string d] 122) (by kernel_rfl) hC_0 (fun hSz => ?_)
    clear hSz hC hb
    generalize W.drew = wq0 at hb0 hb_0 hC_0 ⊢
    clear hb0
    refine wpAnyH_take (i := 0) (v := .pointer (some ⟨w.heap.size, 0, none⟩)) nat0 (by kernel_rfl) (by kernel_rfl) (by kernel_rfl) (fun _ _ _ h => False.elim h) (Or.inl ⟨by rfl, ?_⟩) hC_0 ?_
    · intro wx hSw
      go_simp
    simp only [Act.put, List.setIfInBounds_toArray, List.set_cons_zero, List.set_cons_succ]
    refine wpAnyH_take (i := 1) (v := .string n) nat1 (by kernel_rfl) (by kernel_rfl) (by kernel_rfl) (fun _ _ _ h => False.elim h) (Or.inl ⟨by rfl, ?_⟩) hC_0 ?_
    · intro wx hSw
      have y0 := hSw.cell 0
      simp only [List.getElem?_toArray, List.getElem?_cons_succ, List.getElem?_cons_zero] at y0
      go_simp
    simp only [Act.put, List.setIfInBounds_toArray, List.set_cons_zero, List.set_cons_succ]
    refine wpAnyH_take (i := 2) (v := .pointer (some ⟨w.heap.size, 1, none⟩)) nat2 (by kernel_rfl) (by kernel_rfl) (by kernel_rfl) (fun _ _ _ h => False.elim h) (Or.inl ⟨by rfl, ?_⟩) hC_0 ?_
    · intro wx hSw
      go_simp
    simp only [Act.put, List.setIfInBounds_toArray, List.set_cons_zero, List.set_cons_succ]
    refine wpAnyH_take (i := 3) (v := .string d) nat3 (by kernel_rfl) (by kernel_rfl) (by kernel_rfl) (fun _ _ _ h => False.elim h) (Or.inl ⟨by rfl, ?_⟩) hC_0 ?_
    · intro wx hSw
      have y0 := hSw.cell 1
      simp only [List.getElem?_toArray, List.getElem?_cons_succ, List.getElem?_cons_zero] at y0
      go_simp
    simp only [Act.put, List.setIfInBounds_toArray, List.set_cons_zero, List.set_cons_succ]
    refine wpAnyH_take (i := 4) (v := .pointer (some ⟨w.heap.size, 1, none⟩)) nat4 (by kernel_rfl) (by kernel_rfl) (by kernel_rfl) (fun _ _ _ h => False.elim h) (Or.inl ⟨by rfl, ?_⟩) hC_0 ?_
    · intro wx hSw
      go_simp
    simp only [Act.put, List.setIfInBounds_toArray, List.set_cons_zero, List.set_cons_succ]
    refine wpAnyH_take (i := 5) (v := .string d) nat5 (by kernel_rfl) (by kernel_rfl) (by kernel_rfl) (fun _ _ _ h => False.elim h) (Or.inl ⟨by rfl, ?_⟩) hC_0 ?_
    · intro wx hSw
      have y0 := hSw.cell 1
      simp only [List.getElem?_toArray, List.getElem?_cons_succ, List.getElem?_cons_zero] at y0
      go_simp
    simp only [Act.put, List.setIfInBounds_toArray, List.set_cons_zero, List.set_cons_succ]
    refine wpAnyH_take (i := 6) (v := .int .i64 (((d.size : Nat) : Int))) nat6 (by kernel_rfl) (by kernel_rfl) (by kernel_rfl) (fun _ _ _ h => False.elim h) (Or.inl ⟨by rfl, ?_⟩) hC_0 ?_
    · intro wx hSw
      go_simp
    simp only [Act.put, List.setIfInBounds_toArray, List.set_cons_zero, List.set_cons_succ]
    refine wpAnyH_take (i := 7) (v := .int .i64 t) nat7 (by kernel_rfl) (by kernel_rfl) (by kernel_rfl) (fun _ _ _ h => False.elim h) (Or.inl ⟨by rfl, ?_⟩) hC_0 ?_
    · intro wx hSw
      go_simp
    simp only [Act.put, List.setIfInBounds_toArray, List.set_cons_zero, List.set_cons_succ]
    refine wpAnyH_take (i := 8) (v := .int .i64 (((d.size : Nat) : Int))) nat8 (by kernel_rfl) (by kernel_rfl) (by kernel_rfl) (fun _ _ _ h => False.elim h) (Or.inl ⟨by rfl, ?_⟩) hC_0 ?_
    · intro wx hSw
      go_simp
    simp only [Act.put, List.setIfInBounds_toArray, List.set_cons_zero, List.set_cons_succ]
    refine wpAnyH_take (i := 9) (v := .string d) nat9 (by kernel_rfl) (by kernel_rfl) (by kernel_rfl) (fun _ _ _ h => False.elim h) (Or.inl ⟨by rfl, ?_⟩) hC_0 ?_
    · intro wx hSw
      go_simp
    simp only [Act.put, List.setIfInBounds_toArray, List.set_cons_zero, List.set_cons_succ]
    refine wpAnyH_take (i := 10) (v := .agg #[.string n, .string d]) nat10 (by kernel_rfl) (by kernel_rfl) (by kernel_rfl) (fun _ _ _ h => False.elim h) (Or.inl ⟨by rfl, ?_⟩) hC_0 ?_
    · intro wx hSw
      go_simp
    simp only [Act.put, List.setIfInBounds_toArray, List.set_cons_zero, List.set_cons_succ]
    refine wpAnyH_take (i := 11) (v := .iface 122 (.agg #[.string n, .string d])) nat11 (by kernel_rfl) (by kernel_rfl) (by kernel_rfl) (fun _ _ _ h => False.elim h) (Or.inl ⟨by rfl, ?_⟩) hC_0 ?_
    · intro wx hSw
      go_simp
    simp only [Act.put, List.setIfInBounds_toArray, List.set_cons_zero, List.set_cons_succ]
    refine wpAnyH_take (i := 12) (v := .iface 122 (.agg #[.string n, .string d])) nat12 (by kernel_rfl) (by kernel_rfl) (by kernel_rfl) (fun _ _ _ h => False.elim h) (Or.inl ⟨by rfl, ?_⟩) hC_0 ?_
    · intro wx hSw
      go_simp
    simp only [Act.put, List.setIfInBounds_toArray, List.set_cons_zero, List.set_cons_succ]
    refine wpAnyH_done (by kernel_rfl) ?_ _
    refine NoPanic.normal ?_
    have HB := hide hb_0
    clear hb_0 hC_0
    go_wp2
    go_ret
    exact ⟨by rw [HV.out]; rfl, HB.out⟩
set_option linter.unusedVariables false in
set_option linter.unusedSimpArgs false in
set_option maxHeartbeats 4000000 in
theorem impl_tornAt (o : DOp1) (t : Int) (w : World) (hk : o.k = 1 ∨ o.k = 2 ∨ o.k = 3) (ht : 0 ≤ t) (ht2 : t ≤ 9223372036854775807) (hd : o.d.size ≤ 100000000) :
    Calls Try.prog 66 #[chgV o, .int .i64 t] w fun e w' => e = .returned (chgV (tornO o t)) ∧ Below w.heap.size w w' := by
  rcases hk with h | h | h
  · have e1 : chgV o = .iface 122 (.agg #[.string o.n, .string o.d]) := by unfold chgV; rw [if_pos h]
    have e2 : chgV (tornO o t) = .iface 122 (.agg #[.string o.n, .string (tkB o.d t)]) := by unfold tornO chgV; rw [if_pos h]; simp only [h, if_true]
    rw [e1, e2]
    exact impl_tornAt_app o.n o.d t w ht ht2 hd
  · have e1 : chgV o = .iface 124 (.agg #[.string o.n, .string o.t]) := by unfold chgV; rw [if_neg (by omega), if_pos h]
    have e2 : tornO o t = o := by unfold tornO; rw [if_neg (by omega)]
    rw [e2, e1]
    have htapp : ∀ w, (Instr.typeAssert (.iface 124 (.agg #[.string o.n, .string o.t])) 79 122 true).run Try.prog w = .ok (.tuple #[.agg #[.string ⟨#[]⟩, .string ⟨#[]⟩], .bool false]) w := fun _ => by kernel_rfl
    go_enter Try.func66, Try.ntmps66
    go_wp2
    go_ret
    exact ⟨rfl, Below.refl _ _⟩
  · have e1 : chgV o = .iface 126 (.agg #[.string o.n]) := by unfold chgV; rw [if_neg (by omega), if_neg (by omega)]
    have e2 : tornO o t = o := by unfold tornO; rw [if_neg (by omega)]
    rw [e2, e1]
    have htapp : ∀ w, (Instr.typeAssert (.iface 126 (.agg #[.string o.n])) 79 122 true).run Try.prog w = .ok (.tuple #[.agg #[.string ⟨#[]⟩, .string ⟨#[]⟩], .bool false]) w := fun _ => by kernel_rfl
    go_enter Try.func66, Try.ntmps66
    go_wp2
    go_ret
    exact ⟨rfl, Below.refl _ _⟩

end Go.Proofs.Ytejedpmkbkclhaa
