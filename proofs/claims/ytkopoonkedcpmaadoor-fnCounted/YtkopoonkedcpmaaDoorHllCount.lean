/- HllCount, of the program and of the model, and its law. -/
import Derived.Test.YtkopoonkedcpmaaDoorHllOk
import Derived.Test.YtkopoonkedcpmaaDoorNth
import Derived.Deep.RegionHeld3
namespace Go.Proofs.YtkopoonkedcpmaaDoor
open Go.RowKit

/-- What one register adds: 2 to the (40 - r), r at most 40. -/
def part (r : Int) : Int := 2 ^ (40 - (min r 40).toNat)
def psum (l : List Int) : Int := (l.map part).foldr (· + ·) 0
def zcount (l : List Int) : Int := ((l.filter fun r => r == 0).length : Int)
def fewSum : Nat → Int → Int
  | 0, _ => 0
  | n + 1, k => 64000 / k + fewSum n (k + 1)
def few (z : Int) : Int := fewSum (64 - z.toNat) (z + 1) / 1000
def rawOf (l : List Int) : Int := 3193052135805681664 / (1000 * psum l)
def hllCount (s : ByteArray) : Int :=
  if hllB s then (if 160 < rawOf (numsOf s) ∨ zcount (numsOf s) = 0 then rawOf (numsOf s) else few (zcount (numsOf s))) else -1

theorem part_bd (r : Int) : 1 ≤ part r ∧ part r ≤ 1099511627776 := by
  unfold part
  have h : 40 - (min r 40).toNat ≤ 40 := by omega
  generalize 40 - (min r 40).toNat = n at h
  have h1 : (2 : Nat) ^ n ≤ 2 ^ 40 := Nat.pow_le_pow_right (by omega) h
  have h2 : 0 < (2 : Nat) ^ n := Nat.pow_pos (by omega)
  have e : ((2 : Int) ^ n) = ((2 ^ n : Nat) : Int) := by simp
  rw [e]
  have : (2 : Nat) ^ 40 = 1099511627776 := by decide
  omega

theorem psum_cons (a : Int) (l : List Int) : psum (a :: l) = part a + psum l := rfl
theorem psum_append (a b : List Int) : psum (a ++ b) = psum a + psum b := by
  induction a with
  | nil => simp [psum]
  | cons x a ih => rw [List.cons_append, psum_cons, psum_cons, ih]; omega
theorem psum_bd (l : List Int) : (l.length : Int) ≤ psum l ∧ psum l ≤ 1099511627776 * (l.length : Int) := by
  induction l with
  | nil => simp [psum]
  | cons x a ih =>
    have := part_bd x
    rw [psum_cons]
    simp only [List.length_cons, Int.natCast_add, Int.natCast_one]
    omega
theorem psum_take (l : List Int) (k : Nat) (x : Int) (h : l[k]? = some x) : psum (l.take (k + 1)) = psum (l.take k) + part x := by
  have e : l.take (k + 1) = l.take k ++ [x] := by
    have hk := (List.getElem?_eq_some_iff.1 h)
    obtain ⟨hk, hx⟩ := hk
    rw [List.take_succ_eq_append_getElem hk, hx]
  rw [e, psum_append]
  simp [psum]
theorem zcount_take (l : List Int) (k : Nat) (x : Int) (h : l[k]? = some x) : zcount (l.take (k + 1)) = zcount (l.take k) + if x = 0 then 1 else 0 := by
  have e : l.take (k + 1) = l.take k ++ [x] := by
    obtain ⟨hk, hx⟩ := (List.getElem?_eq_some_iff.1 h)
    rw [List.take_succ_eq_append_getElem hk, hx]
  rw [e]
  unfold zcount
  rw [List.filter_append, List.length_append]
  by_cases hx : x = 0
  · subst hx; simp
  · simp [hx]
theorem zcount_bd (l : List Int) : 0 ≤ zcount l ∧ zcount l ≤ l.length := by
  unfold zcount
  have := List.length_filter_le (fun r : Int => r == 0) l
  omega
theorem psum_take_bd (l : List Int) (k : Nat) : 0 ≤ psum (l.take k) ∧ psum (l.take k) ≤ 1099511627776 * (k : Int) := by
  have := psum_bd (l.take k)
  have h : (l.take k).length ≤ k := List.length_take_le _ _
  omega

theorem fewSum_bd (n : Nat) (k : Int) (h : 1 ≤ k) : 0 ≤ fewSum n k ∧ fewSum n k ≤ 64000 * n := by
  induction n generalizing k with
  | zero => simp [fewSum]
  | succ n ih =>
    have := ih (k + 1) (by omega)
    have h1 : 0 ≤ 64000 / k := Int.ediv_nonneg (by omega) (by omega)
    have h2 : 64000 / k ≤ 64000 := Int.ediv_le_self _ (by omega)
    unfold fewSum
    omega

theorem ret_intH {k : IntKind} {a b : Int} (h : a = b) : Ending.returned (.int k a) = .returned (.int k b) := by rw [h]

set_option maxHeartbeats 1000000 in
theorem impl_fewOf (z : Int) (h0 : 0 ≤ z) (h1 : z ≤ 64) (w : World) :
    Calls Tryd.prog 32 #[.int .i64 z] w fun e w' => e = .returned (.int .i64 (few z)) ∧ w = w' := by
  go_enter Tryd.func32, Tryd.ntmps32
  go_wp2
  go_loop [3, 4] (fun s k => ∃ (i x : Int), s = .int .i64 x ∧ k = .int .i64 i ∧ 1 ≤ i ∧ i ≤ 65 ∧ 0 ≤ x ∧ x ≤ 64000 * (i - 1) ∧ Hid (fewSum (64 - z.toNat) (z + 1) = x + fewSum (65 - i.toNat) i)) (fun _ i => (65 - intOf i).toNat)
  case atStart => exact ⟨z + 1, 0, rfl, rfl, by omega, by omega, by omega, by omega, by
    show fewSum _ _ = _
    rw [show 65 - (z + 1).toNat = 64 - z.toNat by omega]; simp⟩
  case round =>
    obtain ⟨i, x, rfl, rfl, hi1, hi2, hx0, hx1, HF⟩ := hrel
    by_cases hlt : i ≤ 64
    · have hd0 : 0 ≤ 64000 / i := Int.ediv_nonneg (by omega) (by omega)
      have hd1 : 64000 / i ≤ 64000 := Int.ediv_le_self _ (by omega)
      have HF2 : Hid (fewSum (64 - z.toNat) (z + 1) = x + 64000 / i + fewSum (65 - (i + 1).toNat) (i + 1)) := by
        have := HF.out
        rw [show 65 - i.toNat = (65 - (i + 1).toNat) + 1 by omega, fewSum] at this
        show _ = _
        omega
      clear HF
      obtain ⟨q, hq⟩ : ∃ q, 64000 / i = q := ⟨_, rfl⟩
      rw [hq] at hd0 hd1 HF2
      go_wp2
      go_round
      case rel => exact ⟨i + 1, x + 64000 / i, by rw [hq], rfl, by omega, by omega, by omega, by omega, by rw [hq]; exact HF2⟩
      case measure => simp [intOf]; omega
    · obtain rfl : i = 65 := by omega
      have HF2 : Hid (few z = x / 1000) := by
        have := HF.out
        show few z = _
        unfold few
        rw [this]; simp [fewSum]
      go_wp2
      go_ret
      exact ⟨ret_intH HF2.out.symm, rfl⟩

theorem wrap64_within (n : Int) (h : -9223372036854775808 ≤ n ∧ n ≤ 9223372036854775807) : wrap64 n = n := by unfold wrap64; omega

theorem part_eq (r : Int) (h : 0 ≤ r) : wrap64 (2 ^ (40 - if 40 < r then 40 else r).toNat) = part r := by
  have hb := part_bd r
  have e : part r = 2 ^ (40 - if 40 < r then 40 else r).toNat := by
    unfold part
    congr 1
    split <;> omega
  rw [← e]
  exact wrap64_within _ (by omega)

theorem index_regs {l : List Int} (hl : IsRegs l) {k : Nat} {r : Int} (hr : l[k]? = some r) (w : World) :
    (Instr.index 36 (.agg (vals l)) (.int .i64 (k : Int))).run Tryd.prog w = .ok (.int .u8 r) w := by
  refine idx_arr (P := Tryd.prog) _ 5 64 _ k _ Tryd.underlying36 (by kernel_rfl) (fun w => by simp [go_sem]) ?_ ?_ w
  · have := (List.getElem?_eq_some_iff.1 hr).1
    rw [hl.1] at this
    exact this
  · rw [vals_get, hr]; rfl

theorem quo_raw (x : Int) (h0 : 64 ≤ x) (h1 : x ≤ 70368744177664) : wrap64 ((3193052135805681664 : Int).tdiv (1000 * x)) = 3193052135805681664 / (1000 * x) := by
  have e : (3193052135805681664 : Int).tdiv (1000 * x) = 3193052135805681664 / (1000 * x) := Int.tdiv_eq_ediv_of_nonneg (by omega)
  have h2 : 0 ≤ 3193052135805681664 / (1000 * x) := Int.ediv_nonneg (by omega) (by omega)
  have h3 : 3193052135805681664 / (1000 * x) ≤ 3193052135805681664 := Int.ediv_le_self _ (by omega)
  rw [e]
  exact wrap64_within _ (by omega)

set_option maxHeartbeats 1000000 in
set_option maxRecDepth 100000 in
theorem impl_raw (l : List Int) (hl : IsRegs l) (w : World) :
    Calls Tryd.prog 30 #[.agg (vals l)] w fun e w' => e = .returned (.int .i64 (rawOf l)) ∧ Below w.heap.size w w' := by
  have HL := hide hl
  have E1 := hide (heap_alloc_new w (.cells (vals l) 36))
  clear hl
  go_enter Tryd.func30, Tryd.ntmps30
  go_wp2_with (refine wpList_load_row rfl 36 _ rfl w.heap.size rfl 36 (vals l) (0, 0) _ E1.out Tryd.underlying36 rfl (regs_size HL.out) ?_)
  go_loop [3, 7] (fun s i => ∃ (k : Nat) (x : Int), s = .int .i64 x ∧ i = .int .i64 k ∧ k ≤ 64 ∧ 0 ≤ x ∧ x ≤ 1099511627776 * (k : Int) ∧ Hid (x = psum (l.take k))) (fun _ i => 64 - (intOf i).toNat)
  case atStart => exact ⟨0, 0, rfl, rfl, by omega, by omega, by omega, rfl⟩
  case round =>
    obtain ⟨k, x, rfl, rfl, hk, hx0, hx1, HX⟩ := hrel
    by_cases hlt : k < 64
    · obtain ⟨r, hr⟩ : ∃ r, l[k]? = some r := ⟨_, List.getElem?_eq_getElem (by rw [HL.out.1]; exact hlt)⟩
      have hrb := HL.out.2 r (List.mem_of_getElem? hr)
      obtain ⟨hr0, hr1⟩ := hrb
      have hix := index_regs HL.out hr
      have hp := psum_take l k r hr
      rw [← HX.out] at hp
      have HP := hide hp
      have PE := hide (part_eq r hr0)
      have PB := part_bd r
      clear hp hr HX
      go_wp2
      rw [PE.out, wrap64_within _ (by omega)]
      exact ⟨⟨k + 1, x + part r, rfl, by go_num, by omega, by omega, by omega, HP.out.symm⟩, by simp [intOf]; omega⟩
    · obtain rfl : k = 64 := by omega
      have hx : x = psum l := by rw [HX.out, List.take_of_length_le (by rw [HL.out.1]; omega)]
      have hb := psum_bd l
      rw [HL.out.1, ← hx] at hb
      have HQ := hide (quo_raw x (by omega) (by omega))
      have HV : Hid (rawOf l = 3193052135805681664 / (1000 * x)) := by show rawOf l = _; rw [hx]; rfl
      have hx64 : 64 ≤ x := by omega
      have hx65 : x ≤ 70368744177664 := by omega
      clear hx hb hx0 hx1 HX
      go_wp2
      go_ret
      exact ⟨ret_intH (by rw [HV.out]), (Below.refl _ _).alloc (Nat.le_refl _) _⟩

set_option maxHeartbeats 1000000 in
set_option maxRecDepth 100000 in
theorem impl_zeros (l : List Int) (hl : IsRegs l) (w : World) :
    Calls Tryd.prog 31 #[.agg (vals l)] w fun e w' => e = .returned (.int .i64 (zcount l)) ∧ Below w.heap.size w w' := by
  have HL := hide hl
  have E1 := hide (heap_alloc_new w (.cells (vals l) 36))
  clear hl
  go_enter Tryd.func31, Tryd.ntmps31
  go_wp2_with (refine wpList_load_row rfl 36 _ rfl w.heap.size rfl 36 (vals l) (0, 0) _ E1.out Tryd.underlying36 rfl (regs_size HL.out) ?_)
  go_loop [3, 7] (fun s i => ∃ (k : Nat) (x : Int), s = .int .i64 x ∧ i = .int .i64 k ∧ k ≤ 64 ∧ 0 ≤ x ∧ x ≤ (k : Int) ∧ Hid (x = zcount (l.take k))) (fun _ i => 64 - (intOf i).toNat)
  case atStart => exact ⟨0, 0, rfl, rfl, by omega, by omega, by omega, rfl⟩
  case round =>
    obtain ⟨k, x, rfl, rfl, hk, hx0, hx1, HX⟩ := hrel
    by_cases hlt : k < 64
    · obtain ⟨r, hr⟩ : ∃ r, l[k]? = some r := ⟨_, List.getElem?_eq_getElem (by rw [HL.out.1]; exact hlt)⟩
      have hix := index_regs HL.out hr
      have hp := zcount_take l k r hr
      rw [← HX.out] at hp
      by_cases h0 : r = 0
      · subst h0
        rw [if_pos rfl] at hp
        have HP := hide hp
        clear hp hr HX
        go_wp2
        go_round
        case rel => exact ⟨k + 1, x + 1, rfl, by go_num, by omega, by omega, by omega, HP.out.symm⟩
        case measure => simp [intOf]; omega
      · rw [if_neg h0, Int.add_zero] at hp
        have HP := hide hp
        have h0' : (r == 0) = false := by simp [h0]
        clear hp hr HX
        go_wp2
        go_round
        case rel => exact ⟨k + 1, x, rfl, by go_num, by omega, by omega, by omega, HP.out.symm⟩
        case measure => simp [intOf]; omega
    · obtain rfl : k = 64 := by omega
      have hx : x = zcount l := by rw [HX.out, List.take_of_length_le (by rw [HL.out.1]; omega)]
      have HV := hide hx
      clear hx HX
      go_wp2
      go_ret
      exact ⟨ret_intH HV.out, (Below.refl _ _).alloc (Nat.le_refl _) _⟩

theorem hllCount_no {s : ByteArray} (h : hllB s = false) : hllCount s = -1 := by unfold hllCount; rw [h]; rfl
theorem hllCount_raw {s : ByteArray} (h : hllB s = true) (h2 : 160 < rawOf (numsOf s) ∨ zcount (numsOf s) = 0) : hllCount s = rawOf (numsOf s) := by
  unfold hllCount; rw [h, if_pos rfl, if_pos h2]
theorem hllCount_few {s : ByteArray} (h : hllB s = true) (h2 : ¬ (160 < rawOf (numsOf s) ∨ zcount (numsOf s) = 0)) : hllCount s = few (zcount (numsOf s)) := by
  unfold hllCount; rw [h, if_pos rfl, if_neg h2]

theorem rawOf_bd {l : List Int} (hl : IsRegs l) : 0 ≤ rawOf l ∧ rawOf l ≤ 3193052135805681664 := by
  have hb := psum_bd l
  rw [hl.1] at hb
  unfold rawOf
  exact ⟨Int.ediv_nonneg (by omega) (by omega), Int.ediv_le_self _ (by omega)⟩

theorem regs_kept {W : World} {g : Nat} {cs : Array Value} {t : TypeId} (a b : World) (h : a.heap[g]? = some (.cells cs t) ∧ Hid (Below W.heap.size W a)) (hb : Below a.heap.size a b) : b.heap[g]? = some (.cells cs t) ∧ Hid (Below W.heap.size W b) :=
  ⟨(hb.block g (Array.getElem?_eq_some_iff.1 h.1).1).trans h.1, h.2.out.trans (hb.mono h.2.out.size)⟩

set_option maxHeartbeats 2000000 in
set_option maxRecDepth 100000 in
theorem impl_HllCount (s : ByteArray) (w : World) :
    Calls Tryd.prog 16 #[.string s] w fun e w' => e = .returned (.int .i64 (hllCount s)) ∧ Below w.heap.size w w' := by
  have hz := zero_regs
  cases hs : hllB s with
  | false =>
    have HV := hide (hllCount_no hs)
    go_enter Tryd.func16, Tryd.ntmps16
    go_wp2_with fail
    refine (impl_regs_no s hs _).mono ?_
    rintro e w1 ⟨⟨l, rfl, hl⟩, hb1⟩
    obtain ⟨s1, W2, st1, e1, b1, z1, _⟩ := regs_var hb1 hl
    have B1 := hide b1
    clear e1 b1 z1 hl hb1
    go_wp2
    go_ret
    exact ⟨ret_intH HV.out.symm, B1.out⟩
  | true =>
    have hl := hllB_out hs
    go_enter Tryd.func16, Tryd.ntmps16
    go_wp2_with fail
    refine (impl_regs_yes s hs _).mono ?_
    rintro e w1 ⟨rfl, hb1⟩
    obtain ⟨s1, W2, st1, e1, b1, z1, _⟩ := regs_var hb1 hl
    have HL := hide hl
    have hstart : W2.drew.heap[w1.heap.size]? = some (.cells (vals (numsOf s)) 36) ∧ Hid (Below w.heap.size w W2.drew) := ⟨e1, b1.drew⟩
    clear e1 b1 z1 hl hb1
    go_wp2_with fail
    refine wp_region_noPanic ?_
    refine wp_region_held_drew (S := fun (w' : World) => w'.heap[w1.heap.size]? = some (.cells (vals (numsOf s)) 36) ∧ Hid (Below w.heap.size w w')) (by kernel_rfl) hstart (fun hH => ?_)
    clear hstart
    refine wpAnyH_take (i := 0) (v := .agg (vals (numsOf s))) nat0 (by kernel_rfl) (by kernel_rfl) (by kernel_rfl) (fun _ _ _ h => False.elim h) (Or.inl ⟨by rfl, ?_⟩) hH ?_
    · intro wx hSw
      exact exec_load_row wx _ _ 36 _ rfl w1.heap.size rfl 36 (vals (numsOf s)) (0, 0) _ hSw.1 Tryd.underlying36 rfl (regs_size HL.out)
    simp only [Act.put, List.setIfInBounds_toArray, List.set_cons_zero, List.set_cons_succ]
    refine wpAnyH_take (i := 2) (v := .agg (vals (numsOf s))) nat2 (by kernel_rfl) (by kernel_rfl) (by kernel_rfl) (fun _ _ _ h => False.elim h) (Or.inl ⟨by rfl, ?_⟩) hH ?_
    · intro wx hSw
      exact exec_load_row wx _ _ 36 _ rfl w1.heap.size rfl 36 (vals (numsOf s)) (0, 0) _ hSw.1 Tryd.underlying36 rfl (regs_size HL.out)
    simp only [Act.put, List.setIfInBounds_toArray, List.set_cons_zero, List.set_cons_succ]
    refine wpAnyH_ready (rs := [1]) (by kernel_rfl) (by simp) ?_
    refine AllReadyH.cons nat1 (fun K hK => ?_) AllReadyH.nil
    go_simp
    go_at_call 30
    refine (held_below (S := (fun (w' : World) => w'.heap[w1.heap.size]? = some (.cells (vals (numsOf s)) 36) ∧ Hid (Below w.heap.size w w'))) regs_kept hH (impl_raw _ HL.out _)).mono ?_
    rintro e w2 ⟨rfl, hS2⟩
    refine hK.out _ _ hS2 (fun hH2 => ?_)
    clear hK K hS2 hH
    refine wpAnyH_ready (rs := [3]) (by kernel_rfl) (by simp) ?_
    refine AllReadyH.cons nat3 (fun K hK => ?_) AllReadyH.nil
    go_simp
    go_at_call 31
    refine (held_below (S := (fun (w' : World) => w'.heap[w1.heap.size]? = some (.cells (vals (numsOf s)) 36) ∧ Hid (Below w.heap.size w w'))) regs_kept hH2 (impl_zeros _ HL.out _)).mono ?_
    rintro e w3 ⟨rfl, hS3⟩
    refine hK.out _ _ hS3 (fun hH3 => ?_)
    clear hK K hS3 hH2
    refine wpAnyH_take (i := 4) (v := .int .i64 (rawOf (numsOf s))) nat4 (by kernel_rfl) (by kernel_rfl) (by kernel_rfl) (fun _ _ _ h => False.elim h) (Or.inl ⟨by rfl, ?_⟩) hH3 ?_
    · intro wx hSw
      go_simp
    simp only [Act.put, List.setIfInBounds_toArray, List.set_cons_zero, List.set_cons_succ]
    refine wpAnyH_take (i := 5) (v := .int .i64 (zcount (numsOf s))) nat5 (by kernel_rfl) (by kernel_rfl) (by kernel_rfl) (fun _ _ _ h => False.elim h) (Or.inl ⟨by rfl, ?_⟩) hH3 ?_
    · intro wx hSw
      go_simp
    simp only [Act.put, List.setIfInBounds_toArray, List.set_cons_zero, List.set_cons_succ]
    refine wpAnyH_done (by kernel_rfl) ?_ _
    refine NoPanic.normal ?_
    have HB := hide hH3.2.out
    clear hH3
    have hzb := zcount_bd (numsOf s)
    rw [HL.out.1] at hzb
    obtain ⟨hz0, hz1⟩ := hzb
    by_cases hr : 160 < rawOf (numsOf s)
    · have HV := hide (hllCount_raw hs (Or.inl hr))
      go_wp2
      go_ret
      exact ⟨ret_intH HV.out.symm, HB.out⟩
    · by_cases h0 : zcount (numsOf s) = 0
      · have HV := hide (hllCount_raw hs (Or.inr h0))
        have h0' : (zcount (numsOf s) == 0) = true := by rw [h0]; rfl
        clear h0
        go_wp2
        go_ret
        exact ⟨ret_intH HV.out.symm, HB.out⟩
      · have HV := hide (hllCount_few hs (by omega))
        have h0' : (zcount (numsOf s) == 0) = false := by simp [h0]
        clear h0
        have hf := fun wx => impl_fewOf (zcount (numsOf s)) hz0 hz1 wx
        go_wp2_with fail
        refine (hf _).mono ?_
        rintro e w4 ⟨rfl, rfl⟩
        go_wp2
        go_ret
        exact ⟨ret_intH HV.out.symm, HB.out⟩

set_option maxHeartbeats 2000000 in
set_option maxRecDepth 100000 in
theorem spec_HllCount (s : ByteArray) (w : World) :
    Calls Tryd.prog 17 #[.string s] w fun e w' => e = .returned (.int .i64 (hllCount s)) ∧ w = w' := by
  cases hs : hllB s with
  | false =>
    have HV := hide (hllCount_no hs)
    have cs := hs ▸ spec_HllOk s
    clear hs
    go_enter Tryd.func17, Tryd.ntmps17
    go_wp2_with fail
    refine (cs _).mono ?_
    rintro e w1 ⟨rfl, rfl⟩
    go_wp2
    go_ret
    exact ⟨ret_intH HV.out.symm, rfl⟩
  | true =>
    have HL := hide (hllB_out hs)
    have cs := hs ▸ spec_HllOk s
    have h64 : s.size = 64 := by rw [← numsOf_len]; exact HL.out.1
    have HS := hide hs
    clear hs
    go_enter Tryd.func17, Tryd.ntmps17
    go_wp2_with fail
    refine (cs _).mono ?_
    rintro e w1 ⟨rfl, rfl⟩
    clear cs
    go_wp2
    go_loop [3, 4, 5] (fun x z i => ∃ (k : Nat) (y v : Int), x = .int .i64 y ∧ z = .int .i64 v ∧ i = .int .i64 k ∧ k ≤ 64 ∧ 0 ≤ y ∧ y ≤ 1099511627776 * (k : Int) ∧ 0 ≤ v ∧ v ≤ (k : Int) ∧ Hid (y = psum ((numsOf s).take k) ∧ v = zcount ((numsOf s).take k))) (fun _ _ i => 64 - (intOf i).toNat)
    case atStart => exact ⟨0, 0, 0, rfl, rfl, rfl, by omega, by omega, by omega, by omega, by omega, rfl, rfl⟩
    case round =>
      obtain ⟨k, y, v, rfl, rfl, rfl, hk, hy0, hy1, hv0, hv1, HX⟩ := hrel
      by_cases hlt : k < 64
      · have hks : k < s.size := by omega
        have hr := numsOf_get s k hks
        have hrb := HL.out.2 _ (List.mem_of_getElem? hr)
        obtain ⟨hr0, hr1⟩ := hrb
        have hp := psum_take _ k _ hr
        have hq := zcount_take _ k _ hr
        rw [← HX.out.1] at hp
        rw [← HX.out.2] at hq
        have PE := hide (part_eq _ hr0)
        have PB := part_bd (((s[k]'hks).toNat : Nat) : Int)
        by_cases h0 : (((s[k]'hks).toNat : Nat) : Int) = 0
        · rw [if_pos h0] at hq
          have HP := hide hp
          have HQ := hide hq
          clear hp hr HX hq
          have hp0 : part (((s[k]'hks).toNat : Nat) : Int) = 1099511627776 := by rw [h0]; decide
          rw [hp0] at HP
          clear PE PB hp0
          go_wp2
          exact ⟨⟨k + 1, y + 1099511627776, v + 1, rfl, rfl, by go_num, by omega, by omega, by omega, by omega, by omega, HP.out.symm, HQ.out.symm⟩, by simp [intOf]; omega⟩
        · rw [if_neg h0, Int.add_zero] at hq
          have HP := hide hp
          have HQ := hide hq
          have h0' : ((((s[k]'hks).toNat : Nat) : Int) == 0) = false := by simp only [beq_eq_false_iff_ne]; exact h0
          clear hp hr HX hq h0
          go_wp2
          rw [PE.out, wrap64_within _ (by omega)]
          exact ⟨⟨k + 1, y + part (((s[k]'hks).toNat : Nat) : Int), v, rfl, rfl, by go_num, by omega, by omega, by omega, by omega, by omega, HP.out.symm, HQ.out.symm⟩, by simp [intOf]; omega⟩
      · obtain rfl : k = 64 := by omega
        have hy : y = psum (numsOf s) := by rw [HX.out.1, List.take_of_length_le (by rw [HL.out.1]; omega)]
        have hv : v = zcount (numsOf s) := by rw [HX.out.2, List.take_of_length_le (by rw [HL.out.1]; omega)]
        have hb := psum_bd (numsOf s)
        rw [HL.out.1, ← hy] at hb
        have HQ := hide (quo_raw y (by omega) (by omega))
        have HR : Hid (rawOf (numsOf s) = 3193052135805681664 / (1000 * y)) := by show rawOf _ = _; rw [hy]; rfl
        have hy64 : 64 ≤ y := by omega
        have hy65 : y ≤ 70368744177664 := by omega
        have HVV := hide hv
        clear hy hb hy0 hy1 HX hv hlt hk
        by_cases hr : 160 < 3193052135805681664 / (1000 * y)
        · have HV := hide (hllCount_raw HS.out (Or.inl (by rw [HR.out]; exact hr)))
          go_wp2
          go_ret
          exact ⟨ret_intH (by rw [HV.out, HR.out]), rfl⟩
        · by_cases h0 : v = 0
          · have HV := hide (hllCount_raw HS.out (Or.inr (by rw [← HVV.out]; exact h0)))
            have h0' : (v == 0) = true := by rw [h0]; rfl
            clear h0
            go_wp2
            go_ret
            exact ⟨ret_intH (by rw [HV.out, HR.out]), rfl⟩
          · have HV := hide (hllCount_few HS.out (by rw [HR.out, ← HVV.out]; omega))
            have h0' : (v == 0) = false := by simp [h0]
            clear h0
            go_wp2
            go_loop [7, 8] (fun s k => ∃ (i x : Int), s = .int .i64 x ∧ k = .int .i64 i ∧ 1 ≤ i ∧ i ≤ 65 ∧ 0 ≤ x ∧ x ≤ 64000 * (i - 1) ∧ Hid (fewSum (64 - v.toNat) (v + 1) = x + fewSum (65 - i.toNat) i)) (fun _ i => (65 - intOf i).toNat)
            case atStart => exact ⟨v + 1, 0, rfl, rfl, by omega, by omega, by omega, by omega, by
              show fewSum _ _ = _
              rw [show 65 - (v + 1).toNat = 64 - v.toNat by omega]; simp⟩
            case round =>
              obtain ⟨i, x, rfl, rfl, hi1, hi2, hx0, hx1, HF⟩ := hrel
              by_cases hlt : i ≤ 64
              · have hd0 : 0 ≤ 64000 / i := Int.ediv_nonneg (by omega) (by omega)
                have hd1 : 64000 / i ≤ 64000 := Int.ediv_le_self _ (by omega)
                have HF2 : Hid (fewSum (64 - v.toNat) (v + 1) = x + 64000 / i + fewSum (65 - (i + 1).toNat) (i + 1)) := by
                  have := HF.out
                  rw [show 65 - i.toNat = (65 - (i + 1).toNat) + 1 by omega, fewSum] at this
                  show _ = _
                  omega
                clear HF
                obtain ⟨q, hq⟩ : ∃ q, 64000 / i = q := ⟨_, rfl⟩
                rw [hq] at hd0 hd1 HF2
                go_wp2
                go_round
                case rel => exact ⟨i + 1, x + 64000 / i, by rw [hq], rfl, by omega, by omega, by omega, by omega, by rw [hq]; exact HF2⟩
                case measure => simp [intOf]; omega
              · obtain rfl : i = 65 := by omega
                have HF2 : Hid (few v = x / 1000) := by
                  have := HF.out
                  show few v = _
                  unfold few
                  rw [this]; simp [fewSum]
                go_wp2
                go_ret
                exact ⟨ret_intH (by rw [HV.out, ← HVV.out, HF2.out]), rfl⟩

end Go.Proofs.YtkopoonkedcpmaaDoor
