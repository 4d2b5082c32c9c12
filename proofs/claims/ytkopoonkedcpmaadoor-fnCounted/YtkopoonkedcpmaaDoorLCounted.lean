/- The law FnCounted, walked. -/
import Derived.Test.YtkopoonkedcpmaaDoorDrawHll
import Derived.Test.YtkopoonkedcpmaaDoorHllMerge
import Derived.Test.YtkopoonkedcpmaaDoorHllCount
namespace Go.Proofs.YtkopoonkedcpmaaDoor
open Go.RowKit Go.Deep

theorem laws_bigC (a : Option Addr) (len cap : Nat) (hl : len ≤ maxLen) (w : World) :
    Calls Tryd.prog 13 #[.slice a len cap] w fun e w' => e = .returned (.bool (decide (1048576 < len))) ∧ w = w' := by
  unfold maxLen at hl
  by_cases h : 1048576 < len
  · have h' : (1048576 : Int) < (len : Int) := by omega
    go_enter Tryd.func13, Tryd.ntmps13
    go_wp2
    go_ret
    exact ⟨congrArg (fun b => Ending.returned (.bool b)) (decide_eq_true h).symm, rfl⟩
  · have h' : ¬ ((1048576 : Int) < (len : Int)) := by omega
    go_enter Tryd.func13, Tryd.ntmps13
    go_wp2
    go_ret
    exact ⟨rfl, rfl⟩

theorem open_rdC (W : World) (a : Option Addr) (len cap : Nat) (W0 : World) (h0 : Below W0.heap.size W0 W) :
    Calls Tryd.prog 27 #[.slice a len cap] W fun e w' => e = .returned (.pointer (some ⟨W.heap.size, 0, none⟩)) ∧ Rd W0 w' W.heap.size a len cap ∧ Below W.heap.size W w' := by
  go_enter Tryd.func27, Tryd.ntmps27
  go_wp2
  go_ret
  refine ⟨rfl, ⟨h0.size, by simp, h0.trans ((Below.refl _ _).alloc h0.size _), ?_, ⟨0, Nat.zero_le _, ?_⟩, ?_⟩, (Below.refl _ _).alloc (Nat.le_refl _) _⟩
  · simp
  · simp
  · simp

theorem draw_HllAdd (W w : World) (a : Option Addr) (len cap : Nat) (hc : IsCode W a len) (hl : len ≤ 1048576) (hb : Below W.heap.size W w) :
    Calls Tryd.prog 14 #[.slice a len cap] w fun e w' => ∃ s u : ByteArray, e = .returned (.tuple #[.string s, .string u]) ∧ s.size ≤ 65 ∧ u.size ≤ 4 ∧ Below w.heap.size w w' := by
  go_enter Tryd.func14, Tryd.ntmps14
  go_wp2_with fail
  refine (open_rdC _ a len cap W hb).mono ?_
  rintro e w1 ⟨rfl, hr, hb1⟩
  go_wp2_with fail
  refine (rd_hll W _ _ a len cap hc hl hr).mono ?_
  rintro e w2 ⟨s, rfl, hs, hr2, hm2⟩
  go_wp2_with fail
  refine (rd_text W _ _ a len cap hc hl hr2).mono ?_
  rintro e w3 ⟨u, rfl, hu, hr3, hm3⟩
  have hb3 := hide (hb1.trans ((hm2.trans hm3).below hb1.size (Nat.le_refl _)))
  clear hr hr2 hr3 hm2 hm3 hb1 hc
  go_wp2
  go_ret2
  exact ⟨s, u, rfl, hs, hu, hb3.out⟩

theorem addL_twice {l : List Int} (h : IsRegs l) (u : ByteArray) : addL (addL l u) u = addL l u := by
  have hp : hashN u % 64 < l.length := by rw [h.1]; omega
  obtain ⟨x, hx⟩ : ∃ x, l[hashN u % 64]? = some x := ⟨_, List.getElem?_eq_getElem hp⟩
  rw [addL_at hx]
  obtain ⟨z, hz⟩ : ∃ z, (if x < (rankOf (hashN u / 64) : Nat) then ((rankOf (hashN u / 64) : Nat) : Int) else x) = z := ⟨_, rfl⟩
  rw [hz]
  have hz2 : (l.set (hashN u % 64) z)[hashN u % 64]? = some z := List.getElem?_set_self hp
  rw [addL_at hz2, if_neg (by rw [← hz]; split <;> omega), set_same hz2]

theorem addL_ge {l : List Int} (u : ByteArray) {i : Nat} {x : Int} (hx : l[i]? = some x) : ∃ y, (addL l u)[i]? = some y ∧ x ≤ y := by
  by_cases e : hashN u % 64 = i
  · subst e
    rw [addL_at hx, List.getElem?_set_self (List.getElem?_eq_some_iff.1 hx).1]
    exact ⟨_, rfl, by split <;> omega⟩
  · unfold addL
    rw [List.getElem?_set_ne e]
    exact ⟨x, hx, Int.le_refl _⟩

theorem mrg_addL {l : List Int} (h : IsRegs l) (u : ByteArray) : mrg (addL l u) l = addL l u := by
  have h2 := addL_is h u
  refine list_of_all (by rw [mrg_len (by rw [h2.1, h.1]), h.1, h2.1]) fun i hi => ?_
  obtain ⟨x, hx⟩ : ∃ x, l[i]? = some x := ⟨_, List.getElem?_eq_getElem (by rw [h.1]; rw [h2.1] at hi; exact hi)⟩
  obtain ⟨y, hy, hxy⟩ := addL_ge u hx
  rw [mrg_get hy hx, hy, if_neg (by omega)]

theorem count_zeros : hllCount (strOfNums zeros) = 0 := by
  have hb := hllB_regs zeros_is
  have hn := nums_regs zeros_is
  unfold hllCount
  rw [hb, hn]
  decide +kernel

theorem ne_empty {s : ByteArray} (h : s.size ≠ 0) : s.toList.isEmpty = false := by
  rw [ByteArray.toList_eq]
  cases hd : s.data.toList with
  | nil =>
    have e : s.size = s.data.toList.length := by simp
    rw [hd] at e
    exact absurd e h
  | cons => rfl

set_option maxHeartbeats 4000000 in
set_option maxRecDepth 100000 in
theorem walk_FnCounted (v : Value) {w : World} (hv : IsBytes w v) (_w : World) (hT : TabAt w) :
    Calls Tryd.prog 5 #[v] w fun e w' => e = .returned (.bool true) ∧ Below w.heap.size w w' := by
  obtain ⟨a, len, cap, rfl, hc, hm⟩ := hv
  have HT := hide hT
  clear hT
  by_cases hbig : 1048576 < len
  · have hd : decide (1048576 < len) = true := by simp [hbig]
    go_enter Tryd.func5, Tryd.ntmps5
    go_wp2_with fail
    refine (laws_bigC a len cap hm _).mono ?_
    rintro e w1 ⟨rfl, rfl⟩
    go_wp2
    go_ret
    exact ⟨rfl, Below.refl _ _⟩
  · have hd : decide (1048576 < len) = false := by simp [hbig]
    have hl : len ≤ 1048576 := by omega
    go_enter Tryd.func5, Tryd.ntmps5
    go_wp2_with fail
    refine (laws_bigC a len cap hm _).mono ?_
    rintro e w1 ⟨rfl, rfl⟩
    go_wp2_with fail
    refine (draw_HllAdd w _ a len cap hc hl (Below.refl _ _)).mono ?_
    rintro e w1 ⟨h, u, rfl, hs, hu, hB1⟩
    have HB1 := hide hB1
    clear hbig hc hm hd hl hB1
    have hul : u.size ≤ maxLen := by unfold maxLen; omega
    by_cases hno : hllB h = false ∨ userB u = false
    · have hA := hllAdd_no hno
      have ci := fun (wx : World) (ht : TabAt wx) => hA ▸ impl_HllAdd h u hul wx ht
      have cs := hA ▸ spec_HllAdd h u hul
      clear hno hA
      go_wp2_with fail
      refine (ci _ (HT.out.below HB1.out HT.out.pos)).mono ?_
      rintro e w2 ⟨rfl, hb2⟩
      have HB2 := hide (HB1.out.trans (hb2.mono HB1.out.size))
      clear hb2 ci
      go_wp2_with fail
      refine (cs _).mono ?_
      rintro e w3 ⟨rfl, hb3⟩
      have HB3 := hide (HB2.out.trans (hb3.mono HB2.out.size))
      clear hb3
      go_wp2_with fail
      refine (cs _).mono ?_
      rintro e w4 ⟨rfl, hb4⟩
      have HB4 := hide (HB3.out.trans (hb4.mono HB3.out.size))
      clear hb4
      go_wp2
      go_ret
      exact ⟨rfl, HB4.out⟩
    · have hh : hllB h = true := by cases e : hllB h; exact absurd (Or.inl e) hno; rfl
      have hub : userB u = true := by cases e : userB u; exact absurd (Or.inr e) hno; rfl
      have RL := hide (hllB_out hh)
      have RA := hide (addL_is RL.out u)
      have hA := hllAdd_yes hh hub
      obtain ⟨A, hAe⟩ : ∃ A, strOfNums (addL (numsOf h) u) = A := ⟨_, rfl⟩
      have hnA : numsOf A = addL (numsOf h) u := by rw [← hAe]; exact nums_regs RA.out
      have hAB : hllB A = true := by rw [← hAe]; exact hllB_regs RA.out
      have hA64 : A.size = 64 := by rw [← numsOf_len, hnA]; exact RA.out.1
      have hh64 : h.size = 64 := by rw [← numsOf_len]; exact RL.out.1
      have hAA : hllAdd A u = A := by rw [hllAdd_yes hAB hub, hnA, addL_twice RL.out, hAe]
      have hMA : hllMerge A h = A := by rw [hllMerge_yes hAB hh, hnA, mrg_addL RL.out, hAe]
      rw [hAe] at hA
      have ci := fun (wx : World) (ht : TabAt wx) => hA ▸ impl_HllAdd h u hul wx ht
      have cs := hA ▸ spec_HllAdd h u hul
      have ci2 := fun (wx : World) (ht : TabAt wx) => hAA ▸ impl_HllAdd A u hul wx ht
      have cm := hMA ▸ impl_HllMerge A h
      have hne := ne_empty (s := A) (by omega)
      have HGE : Hid (∀ i (h1 : i < A.size) (h2 : i < h.size), ¬ ((((A[i]'h1).toNat : Nat) : Int) < (((h[i]'h2).toNat : Nat) : Int))) := fun i h1 h2 => by
        have e2 := numsOf_get h i h2
        obtain ⟨y, hy, hxy⟩ := addL_ge u e2
        have e1 := numsOf_get A i h1
        rw [hnA, hy] at e1
        simp only [Option.some.injEq] at e1
        omega
      have hcz := count_zeros
      have cz := fun (wx : World) => hcz ▸ impl_HllCount (strOfNums zeros) wx
      have hz0 : hllOf (fun _ => ⟨#[]⟩) 0 = strOfNums zeros := hllOf_yes (usersB_yes (by omega) fun i hi => absurd hi (by omega))
      have ch := fun (wx : World) (ht : TabAt wx) => hz0 ▸ impl_HllOf none 0 0 (fun _ => ⟨#[]⟩) wx (by omega) (Or.inl rfl) ht
      clear hno hA hAA hMA hnA hAe hAB hcz hz0
      go_wp2_with fail
      refine (ci _ (HT.out.below HB1.out HT.out.pos)).mono ?_
      rintro e w2 ⟨rfl, hb2⟩
      have HB2 := hide (HB1.out.trans (hb2.mono HB1.out.size))
      clear hb2 ci
      go_wp2_with fail
      refine (cs _).mono ?_
      rintro e w3 ⟨rfl, hb3⟩
      have HB3 := hide (HB2.out.trans (hb3.mono HB2.out.size))
      clear hb3 cs
      go_wp2_with fail
      refine (ci2 _ (HT.out.below HB3.out HT.out.pos)).mono ?_
      rintro e w4 ⟨rfl, hb4⟩
      have HB4 := hide (HB3.out.trans (hb4.mono HB3.out.size))
      clear hb4 ci2
      go_wp2_with fail
      refine (cm _).mono ?_
      rintro e w5 ⟨rfl, hb5⟩
      have HB5 := hide (HB4.out.trans (hb5.mono HB4.out.size))
      clear hb5 cm
      go_wp2_with fail
      refine (impl_HllCount A _).mono ?_
      rintro e w6 ⟨rfl, hb6⟩
      have HB6 := hide (HB5.out.trans (hb6.mono HB5.out.size))
      clear hb6
      go_wp2_with fail
      refine (spec_HllCount A _).mono ?_
      rintro e w7 ⟨rfl, rfl⟩
      generalize hllCount A = cA
      go_wp2
      go_loopw [6] (fun i wr => ∃ k : Nat, i = .int .i64 k ∧ k ≤ 64 ∧ Hid (Below w.heap.size w wr)) (fun i _ => 64 - (intOf i).toNat)
      case atStart => exact ⟨0, rfl, by omega, HB6⟩
      case round =>
        obtain ⟨k, rfl, hk, HB⟩ := hrel
        by_cases hlt : k < 64
        · have hkA : k < A.size := by omega
          have hkh : k < h.size := by omega
          have hge := HGE.out k hkA hkh
          go_wp2
          go_quiet (fail)
          go_wp2
          exact ⟨⟨k + 1, by go_num, by omega, below_drewN HB.out _⟩, by simp [intOf]; omega⟩
        · obtain rfl : k = 64 := by omega
          go_wp2_with fail
          refine (ch _ (HT.out.below HB.out HT.out.pos)).mono ?_
          rintro e w8 ⟨rfl, hb8⟩
          have HB8 := hide (HB.out.trans (hb8.mono HB.out.size))
          clear hb8 ch
          go_wp2_with fail
          refine (cz _).mono ?_
          rintro e w9 ⟨rfl, hb9⟩
          have HB9 := hide (HB8.out.trans (hb9.mono HB8.out.size))
          clear hb9 cz
          go_wp2
          go_ret
          exact ⟨rfl, HB9.out⟩

end Go.Proofs.YtkopoonkedcpmaaDoor
