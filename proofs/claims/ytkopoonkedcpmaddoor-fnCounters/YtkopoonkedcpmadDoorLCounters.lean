/- The law FnCounters, walked. -/
import Derived.Test.YtkopoonkedcpmadDoorDrawU
import Derived.Test.YtkopoonkedcpmadDoorHllOf
import Derived.Test.YtkopoonkedcpmadDoorHllMerge
namespace Go.Proofs.YtkopoonkedcpmadDoor
open Go.RowKit Go.Deep

theorem laws_bigN (a : Option Addr) (len cap : Nat) (hl : len ≤ maxLen) (w : World) :
    Calls Tryd.prog 4 #[.slice a len cap] w fun e w' => e = .returned (.bool (decide (1048576 < len))) ∧ w = w' := by
  unfold maxLen at hl
  by_cases h : 1048576 < len
  · have h' : (1048576 : Int) < (len : Int) := by omega
    go_enter Tryd.func4, Tryd.ntmps4
    go_wp2
    go_ret
    exact ⟨congrArg (fun b => Ending.returned (.bool b)) (decide_eq_true h).symm, rfl⟩
  · have h' : ¬ ((1048576 : Int) < (len : Int)) := by omega
    go_enter Tryd.func4, Tryd.ntmps4
    go_wp2
    go_ret
    exact ⟨rfl, rfl⟩

theorem open_rdN (W : World) (a : Option Addr) (len cap : Nat) (W0 : World) (h0 : Below W0.heap.size W0 W) :
    Calls Tryd.prog 11 #[.slice a len cap] W fun e w' => e = .returned (.pointer (some ⟨W.heap.size, 0, none⟩)) ∧ Rd W0 w' W.heap.size a len cap ∧ Below W.heap.size W w' := by
  go_enter Tryd.func11, Tryd.ntmps11
  go_wp2
  go_ret
  refine ⟨rfl, ⟨h0.size, by simp, h0.trans ((Below.refl _ _).alloc h0.size _), ?_, ⟨0, Nat.zero_le _, ?_⟩, ?_⟩, (Below.refl _ _).alloc (Nat.le_refl _) _⟩
  · simp
  · simp
  · simp

theorem draw_HllOf (W w : World) (a : Option Addr) (len cap : Nat) (hc : IsCode W a len) (hl : len ≤ 1048576) (hb : Below W.heap.size W w) :
    Calls Tryd.prog 5 #[.slice a len cap] w fun e w' => ∃ va n vc S, e = .returned (.slice va n vc) ∧ n ≤ 15 ∧ StrAt w' w'.heap.size va n S ∧ n ≤ vc ∧ (va = none ∧ n = 0 ∨ ∃ g, va = some ⟨g, 0, none⟩) ∧ Below w.heap.size w w' := by
  go_enter Tryd.func5, Tryd.ntmps5
  go_wp2_with fail
  refine (open_rdN _ a len cap W hb).mono ?_
  rintro e w1 ⟨rfl, hr, hb1⟩
  go_wp2_with fail
  refine (rd_users W _ _ a len cap 14 (by omega) (by omega) hc hl hr).mono ?_
  rintro e w2 ⟨v, xs, rfl, hx, hxx, hown, hr2, hm2⟩
  obtain ⟨va, vc, hv, hS, hcap, hform⟩ := hown.strs
  have hb3 := hide (hb1.trans (hm2.below hb1.size (Nat.le_refl _)))
  have HS := hide hS
  have HX := hide hx
  have HF := hide hform
  clear hr hr2 hm2 hb1 hc hown hS hx hform
  subst hv
  go_wp2
  go_ret
  exact ⟨va, xs.length, vc, _, rfl, by have := HX.out; omega, HS.out, hcap, HF.out, hb3.out⟩

theorem regs_get {l : List Int} (h : IsRegs l) {i : Nat} (hi : i < 64) : ∃ x, l[i]? = some x ∧ 0 ≤ x := by
  have hl : i < l.length := by rw [h.1]; exact hi
  exact ⟨l[i], List.getElem?_eq_getElem hl, (h.2 _ (List.getElem_mem hl)).1⟩

theorem regs_ext {l m : List Int} (hl : IsRegs l) (hm : IsRegs m) (h : ∀ (i : Nat) (x y : Int), l[i]? = some x → m[i]? = some y → x = y) : l = m :=
  list_of_all (by rw [hl.1, hm.1]) fun i hi => by
    obtain ⟨x, hx, _⟩ := regs_get hl (i := i) (by rw [hm.1] at hi; exact hi)
    obtain ⟨y, hy, _⟩ := regs_get hm (i := i) (by rw [hm.1] at hi; exact hi)
    rw [hx, hy, h i x y hx hy]

theorem regs_lt {l : List Int} (hl : IsRegs l) {i : Nat} {x : Int} (h : l[i]? = some x) : i < 64 := by
  have := (List.getElem?_eq_some_iff.1 h).1
  rw [hl.1] at this; exact this

theorem mrg_comm {l m : List Int} (hl : IsRegs l) (hm : IsRegs m) : mrg l m = mrg m l :=
  regs_ext (mrg_is hl hm) (mrg_is hm hl) fun i x y hx hy => by
    have hi := regs_lt (mrg_is hl hm) hx
    obtain ⟨a, ha, _⟩ := regs_get hl hi
    obtain ⟨b, hb, _⟩ := regs_get hm hi
    rw [mrg_get ha hb] at hx
    rw [mrg_get hb ha] at hy
    simp only [Option.some.injEq] at hx hy
    rw [← hx, ← hy]
    split <;> split <;> omega

theorem mrg_self {l : List Int} (hl : IsRegs l) : mrg l l = l :=
  regs_ext (mrg_is hl hl) hl fun i x y hx hy => by
    rw [mrg_get hy hy, if_neg (by omega)] at hx
    simpa using hx.symm

theorem mrg_absorb {l m : List Int} (hl : IsRegs l) (hm : IsRegs m) : mrg (mrg l m) l = mrg l m :=
  regs_ext (mrg_is (mrg_is hl hm) hl) (mrg_is hl hm) fun i x y hx hy => by
    have hi := regs_lt (mrg_is hl hm) hy
    obtain ⟨a, ha, _⟩ := regs_get hl hi
    rw [mrg_get hy ha] at hx
    obtain ⟨b, hb, _⟩ := regs_get hm hi
    rw [mrg_get ha hb] at hy
    simp only [Option.some.injEq] at hx hy
    rw [← hx]
    split
    · rw [← hy] at *; split <;> omega
    · rfl

theorem mrg_zeros {l : List Int} (hl : IsRegs l) : mrg l zeros = l :=
  regs_ext (mrg_is hl zeros_is) hl fun i x y hx hy => by
    have hi := regs_lt hl hy
    obtain ⟨y', hy', h0⟩ := regs_get hl hi
    rw [hy] at hy'
    obtain rfl : y = y' := by simpa using hy'
    have hz : zeros[i]? = some 0 := by unfold zeros; rw [List.getElem?_replicate, if_pos hi]
    rw [mrg_get hy hz, if_neg (by omega)] at hx
    simpa using hx.symm

theorem addL_get {l : List Int} (u : ByteArray) {i : Nat} {x : Int} (hx : l[i]? = some x) :
    (addL l u)[i]? = some (if hashN u % 64 = i ∧ x < (rankOf (hashN u / 64) : Nat) then ((rankOf (hashN u / 64) : Nat) : Int) else x) := by
  by_cases e : hashN u % 64 = i
  · subst e
    rw [addL_at hx, List.getElem?_set_self (List.getElem?_eq_some_iff.1 hx).1]
    by_cases h : x < (rankOf (hashN u / 64) : Nat)
    · rw [if_pos h, if_pos ⟨rfl, h⟩]
    · rw [if_neg h, if_neg (fun k => h k.2)]
  · unfold addL
    rw [List.getElem?_set_ne e, hx, if_neg (fun k => e k.1)]

theorem mrg_addR {l m : List Int} (hl : IsRegs l) (hm : IsRegs m) (u : ByteArray) : mrg l (addL m u) = addL (mrg l m) u :=
  regs_ext (mrg_is hl (addL_is hm u)) (addL_is (mrg_is hl hm) u) fun i x y hx hy => by
    have hi := regs_lt (mrg_is hl (addL_is hm u)) hx
    obtain ⟨a, ha, _⟩ := regs_get hl hi
    obtain ⟨b, hb, _⟩ := regs_get hm hi
    rw [mrg_get ha (addL_get u hb)] at hx
    rw [addL_get u (mrg_get ha hb)] at hy
    simp only [Option.some.injEq] at hx hy
    rw [← hx, ← hy]
    by_cases e : hashN u % 64 = i
    · simp only [e, true_and]
      (repeat' split) <;> omega
    · simp [e]

theorem regs_two (S : Nat → ByteArray) (k : Nat) : ∀ d, mrg (regsTo S k) (regsTo (fun i => S (k + i)) d) = regsTo S (k + d)
  | 0 => mrg_zeros (regsTo_is S k)
  | d + 1 => by
    have ih := regs_two S k d
    show mrg _ (addL (regsTo (fun i => S (k + i)) d) (S (k + d))) = addL (regsTo S (k + d)) (S (k + d))
    rw [mrg_addR (regsTo_is S k) (regsTo_is _ d), ih]

theorem usersB_front {S : Nat → ByteArray} {n k : Nat} (h : usersB S n = true) (hk : k ≤ n) : usersB S k = true := by
  obtain ⟨h1, h2⟩ := usersB_out h
  exact usersB_yes (by omega) fun i hi => h2 i (by omega)
theorem usersB_back {S : Nat → ByteArray} {n k : Nat} (h : usersB S n = true) : usersB (fun i => S (k + i)) (n - k) = true := by
  obtain ⟨h1, h2⟩ := usersB_out h
  exact usersB_yes (by omega) fun i hi => h2 (k + i) (by omega)

theorem StrAt.front {w : World} {B : Nat} {a : Option Addr} {n k : Nat} {S : Nat → ByteArray} (h : StrAt w B a n S) (hk : k ≤ n) : StrAt w B a k S := by
  rcases h with h | ⟨b, off, e, hB, hc⟩
  · exact .inl (by omega)
  · exact .inr ⟨b, off, e, hB, fun i hi => hc i (by omega)⟩
theorem StrAt.back {w : World} {B : Nat} {g n k : Nat} {S : Nat → ByteArray} (h : StrAt w B (some ⟨g, 0, none⟩) n S) (hk : k < n) : StrAt w B (some ⟨g, k, none⟩) (n - k) (fun i => S (k + i)) := by
  rcases h with h | ⟨b, off, e, hB, hc⟩
  · omega
  · have e1 : g = b := by injection e with e; injection e
    have e2 : 0 = off := by injection e with e; injection e
    subst e1 e2
    exact .inr ⟨g, k, rfl, hB, fun i hi => by have := hc (k + i) (by omega); rwa [Nat.zero_add] at this⟩

theorem StrAt.tail {w : World} {B : Nat} {va : Option Addr} {n k : Nat} {S : Nat → ByteArray} (h : StrAt w B va n S) (hf : va = none ∧ n = 0 ∨ ∃ g, va = some ⟨g, 0, none⟩) (hk : k ≤ n) :
    StrAt w B (Option.map (fun x => x.add k) va) (n - k) (fun i => S (k + i)) := by
  by_cases e : k = n
  · exact .inl (by omega)
  · rcases hf with ⟨_, h0⟩ | ⟨g, rfl⟩
    · omega
    · have := h.back (k := k) (by omega)
      have ea : (⟨g, 0, none⟩ : Addr).add k = ⟨g, k, none⟩ := by unfold Addr.add; split <;> simp_all
      show StrAt w B (some ((⟨g, 0, none⟩ : Addr).add k)) _ _
      rw [ea]; exact this

theorem ne_emptyN {s : ByteArray} (h : s.size ≠ 0) : s.toList.isEmpty = false := by
  rw [ByteArray.toList_eq]
  cases hd : s.data.toList with
  | nil =>
    have e : s.size = s.data.toList.length := by simp
    rw [hd] at e
    exact absurd e h
  | cons => rfl

set_option maxHeartbeats 4000000 in
set_option maxRecDepth 100000 in
theorem walk_FnCounters (v : Value) {w : World} (hv : IsBytes w v) (_w : World) (hT : TabAt w) :
    Calls Tryd.prog 3 #[v] w fun e w' => e = .returned (.bool true) ∧ Below w.heap.size w w' := by
  obtain ⟨a, len, cap, rfl, hc, hm⟩ := hv
  have HT := hide hT
  clear hT
  by_cases hbig : 1048576 < len
  · have hd : decide (1048576 < len) = true := by simp [hbig]
    go_enter Tryd.func3, Tryd.ntmps3
    go_wp2_with fail
    refine (laws_bigN a len cap hm _).mono ?_
    rintro e w1 ⟨rfl, rfl⟩
    go_wp2
    go_ret
    exact ⟨rfl, Below.refl _ _⟩
  · have hd : decide (1048576 < len) = false := by simp [hbig]
    have hl : len ≤ 1048576 := by omega
    go_enter Tryd.func3, Tryd.ntmps3
    go_wp2_with fail
    refine (laws_bigN a len cap hm _).mono ?_
    rintro e w1 ⟨rfl, rfl⟩
    go_wp2_with fail
    refine (draw_HllOf w _ a len cap hc hl (Below.refl _ _)).mono ?_
    rintro e w1 ⟨va, n, vc, S, rfl, hn, hS, hcap, hform, hB1⟩
    have HB1 := hide hB1
    have HS := hide hS
    have HF := hide hform
    clear hbig hc hm hd hB1 hS hform
    cases hu : usersB S n with
    | false =>
      have hA := hllOf_no hu
      have ci := fun (wx : World) (hs : StrAt wx wx.heap.size va n S) (ht : TabAt wx) => hA ▸ impl_HllOf va n vc S wx (by omega) hs ht
      have cs := fun (wx : World) (hs : StrAt wx wx.heap.size va n S) => hA ▸ spec_HllOf va n vc S wx (by omega) hs
      have cu := fun (wx : World) (hs : StrAt wx wx.heap.size va n S) => hu ▸ impl_UsersOk va n vc S wx (by omega) hs
      clear hA hu
      go_wp2_with fail
      refine (ci _ HS.out (HT.out.below HB1.out HT.out.pos)).mono ?_
      rintro e w2 ⟨rfl, hb2⟩
      have HB2 := hide (HB1.out.trans (hb2.mono HB1.out.size))
      have HS2 := hide ((HS.out.below hb2).mono hb2.size)
      clear hb2 ci
      go_wp2_with fail
      refine (cs _ HS2.out).mono ?_
      rintro e w3 ⟨rfl, hb3⟩
      have HB3 := hide (HB2.out.trans (hb3.mono HB2.out.size))
      have HS3 := hide ((HS2.out.below hb3).mono hb3.size)
      clear hb3
      go_wp2_with fail
      refine (cs _ HS3.out).mono ?_
      rintro e w4 ⟨rfl, hb4⟩
      have HB4 := hide (HB3.out.trans (hb4.mono HB3.out.size))
      have HS4 := hide ((HS3.out.below hb4).mono hb4.size)
      clear hb4 cs
      go_wp2_with fail
      refine (cu _ HS4.out).mono ?_
      rintro e w5 ⟨rfl, rfl⟩
      go_wp2
      go_ret
      exact ⟨rfl, HB4.out⟩
    | true =>
      have hA := hllOf_yes hu
      have HU := hide hu
      have RA := hide (regsTo_is S n)
      obtain ⟨A, hAe⟩ : ∃ A, strOfNums (regsTo S n) = A := ⟨_, rfl⟩
      rw [hAe] at hA
      have hA64 : A.size = 64 := by rw [← hAe, strOfNums_size]; exact RA.out.1
      have hne := ne_emptyN (s := A) (by omega)
      have ci := fun (wx : World) (hs : StrAt wx wx.heap.size va n S) (ht : TabAt wx) => hA ▸ impl_HllOf va n vc S wx (by omega) hs ht
      have cs := fun (wx : World) (hs : StrAt wx wx.heap.size va n S) => hA ▸ spec_HllOf va n vc S wx (by omega) hs
      have HA := hide hAe
      clear hA hu hAe
      go_wp2_with fail
      refine (ci _ HS.out (HT.out.below HB1.out HT.out.pos)).mono ?_
      rintro e w2 ⟨rfl, hb2⟩
      have HB2 := hide (HB1.out.trans (hb2.mono HB1.out.size))
      have HS2 := hide ((HS.out.below hb2).mono hb2.size)
      clear hb2 ci
      go_wp2_with fail
      refine (cs _ HS2.out).mono ?_
      rintro e w3 ⟨rfl, hb3⟩
      have HB3 := hide (HB2.out.trans (hb3.mono HB2.out.size))
      have HS3 := hide ((HS2.out.below hb3).mono hb3.size)
      clear hb3 cs
      obtain ⟨k, hk⟩ : ∃ k, len % (n + 1) = k := ⟨_, rfl⟩
      have hkn : k ≤ n := by have := Nat.mod_lt len (show 0 < n + 1 by omega); omega
      have hkI : (len : Int) % ((n : Int) + 1) = (k : Int) := by rw [← hk]; simp
      clear hk
      have HAk := hide (hllOf_yes (usersB_front HU.out hkn))
      have hAk := HAk.out
      obtain ⟨B1, hB1e⟩ : ∃ B1, strOfNums (regsTo S k) = B1 := ⟨_, rfl⟩
      have hBk := hllOf_yes (usersB_back (k := k) HU.out)
      obtain ⟨B2, hB2e⟩ : ∃ B2, strOfNums (regsTo (fun i => S (k + i)) (n - k)) = B2 := ⟨_, rfl⟩
      have R1 := hide (regsTo_is S k)
      have R2 := hide (regsTo_is (fun i => S (k + i)) (n - k))
      have b1 : hllB B1 = true := by rw [← hB1e]; exact hllB_regs R1.out
      have b2 : hllB B2 = true := by rw [← hB2e]; exact hllB_regs R2.out
      have bA : hllB A = true := by rw [← HA.out]; exact hllB_regs RA.out
      have n1 : numsOf B1 = regsTo S k := by rw [← hB1e]; exact nums_regs R1.out
      have n2 : numsOf B2 = regsTo (fun i => S (k + i)) (n - k) := by rw [← hB2e]; exact nums_regs R2.out
      have nA : numsOf A = regsTo S n := by rw [← HA.out]; exact nums_regs RA.out
      have htwo : mrg (regsTo S k) (regsTo (fun i => S (k + i)) (n - k)) = regsTo S n := by rw [regs_two S k (n - k), show k + (n - k) = n by omega]
      have m12 : hllMerge B1 B2 = A := by rw [hllMerge_yes b1 b2, n1, n2, htwo, HA.out]
      have m21 : hllMerge B2 B1 = A := by rw [hllMerge_yes b2 b1, n1, n2, mrg_comm R2.out R1.out, htwo, HA.out]
      have mAA : hllMerge A A = A := by rw [hllMerge_yes bA bA, nA, mrg_self RA.out, HA.out]
      have mA1 : hllMerge A B1 = A := by
        rw [hllMerge_yes bA b1, nA, n1]
        conv => lhs; rw [← htwo]
        rw [mrg_absorb R1.out R2.out, htwo, HA.out]
      rw [hB1e] at hAk
      rw [hB2e] at hBk
      have c1 := fun (wx : World) (hs : StrAt wx wx.heap.size va k S) (ht : TabAt wx) => hAk ▸ impl_HllOf va k vc S wx (by omega) hs ht
      have k12 := m12 ▸ impl_HllMerge B1 B2
      have k21 := m21 ▸ impl_HllMerge B2 B1
      have kAA := mAA ▸ impl_HllMerge A A
      have kA1 := mA1 ▸ impl_HllMerge A B1
      have kOk := bA ▸ impl_HllOk A
      have HBk := hide hBk
      clear hAk hB1e hB2e hBk b1 b2 bA n1 n2 nA htwo m12 m21 mAA mA1
      go_wp2_with fail
      refine (c1 _ (HS3.out.front hkn) (HT.out.below HB3.out HT.out.pos)).mono ?_
      rintro e w4 ⟨rfl, hb4⟩
      have HB4 := hide (HB3.out.trans (hb4.mono HB3.out.size))
      have HS4 := hide ((HS3.out.below hb4).mono hb4.size)
      clear hb4 c1
      have c2 := fun (X : Option Addr) (C : Nat) (wx : World) (hs : StrAt wx wx.heap.size X (n - k) (fun i => S (k + i))) (ht : TabAt wx) => HBk.out ▸ impl_HllOf X (n - k) C (fun i => S (k + i)) wx (by omega) hs ht
      have HC2 := hide c2
      have HTL := hide (HS4.out.tail HF.out hkn)
      have HT4 := hide (HT.out.below HB4.out HT.out.pos)
      clear c2
      go_wp2_with fail
      · rename_i hv
        refine (HC2.out _ _ _ (.inl (by omega)) HT4.out).mono ?_
        rintro e w5 ⟨rfl, hb5⟩
        have HB5 := hide (HB4.out.trans (hb5.mono HB4.out.size))
        clear hb5
        go_wp2_with fail
        refine (k12 _).mono ?_
        rintro e w6 ⟨rfl, hb6⟩
        have HB6 := hide (HB5.out.trans (hb6.mono HB5.out.size))
        clear hb6
        go_wp2_with fail
        refine (k21 _).mono ?_
        rintro e w7 ⟨rfl, hb7⟩
        have HB7 := hide (HB6.out.trans (hb7.mono HB6.out.size))
        clear hb7
        go_wp2_with fail
        refine (kAA _).mono ?_
        rintro e w8 ⟨rfl, hb8⟩
        have HB8 := hide (HB7.out.trans (hb8.mono HB7.out.size))
        clear hb8
        go_wp2_with fail
        refine (kA1 _).mono ?_
        rintro e w9 ⟨rfl, hb9⟩
        have HB9 := hide (HB8.out.trans (hb9.mono HB8.out.size))
        clear hb9
        go_wp2_with fail
        refine (kOk _).mono ?_
        rintro e w10 ⟨rfl, hb10⟩
        have HB10 := hide (HB9.out.trans (hb10.mono HB9.out.size))
        clear hb10
        go_wp2
        go_ret
        exact ⟨rfl, HB10.out⟩
      · refine (HC2.out _ _ _ HTL.out HT4.out).mono ?_
        rintro e w5 ⟨rfl, hb5⟩
        have HB5 := hide (HB4.out.trans (hb5.mono HB4.out.size))
        clear hb5
        go_wp2_with fail
        refine (k12 _).mono ?_
        rintro e w6 ⟨rfl, hb6⟩
        have HB6 := hide (HB5.out.trans (hb6.mono HB5.out.size))
        clear hb6
        go_wp2_with fail
        refine (k21 _).mono ?_
        rintro e w7 ⟨rfl, hb7⟩
        have HB7 := hide (HB6.out.trans (hb7.mono HB6.out.size))
        clear hb7
        go_wp2_with fail
        refine (kAA _).mono ?_
        rintro e w8 ⟨rfl, hb8⟩
        have HB8 := hide (HB7.out.trans (hb8.mono HB7.out.size))
        clear hb8
        go_wp2_with fail
        refine (kA1 _).mono ?_
        rintro e w9 ⟨rfl, hb9⟩
        have HB9 := hide (HB8.out.trans (hb9.mono HB8.out.size))
        clear hb9
        go_wp2_with fail
        refine (kOk _).mono ?_
        rintro e w10 ⟨rfl, hb10⟩
        have HB10 := hide (HB9.out.trans (hb10.mono HB9.out.size))
        clear hb10
        go_wp2
        go_ret
        exact ⟨rfl, HB10.out⟩

end Go.Proofs.YtkopoonkedcpmadDoor
