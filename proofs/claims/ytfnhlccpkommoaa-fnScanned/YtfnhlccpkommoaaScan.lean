/- Scan of both. (By gen_scan.py.) -/
import Derived.Test.YtfnhlccpkommoaaVisS
import Derived.Deep.RegionHeld3
namespace Go.Proofs.Ytfnhlccpkommoaa
set_option maxRecDepth 100000
open Go.RowKit Go.Deep

/-- Is a user between the bounds. -/
def inR (fr to u : ByteArray) : Bool := !(Op.bytesLess u.toList fr.toList) && (decide (to = ⟨#[]⟩) || Op.bytesLess u.toList to.toList)
/-- Those of the first k pairs that are between the bounds. -/
def rngL (O : Pairs) (fr to : ByteArray) : Nat → List Pair1
  | 0 => []
  | k + 1 => rngL O fr to k ++ (if inR fr to (O.U k) = true then [⟨O.U k, O.V k⟩] else [])
theorem rngL_len (O : Pairs) (fr to : ByteArray) : ∀ k, (rngL O fr to k).length ≤ k
  | 0 => by simp [rngL]
  | k + 1 => by
    have := rngL_len O fr to k
    rw [rngL, List.length_append]
    split <;> simp <;> omega
theorem rngL_yes {O : Pairs} {fr to : ByteArray} {k : Nat} (h : inR fr to (O.U k) = true) : rngL O fr to (k + 1) = rngL O fr to k ++ [⟨O.U k, O.V k⟩] := by rw [rngL, if_pos h]
theorem rngL_no {O : Pairs} {fr to : ByteArray} {k : Nat} (h : inR fr to (O.U k) = false) : rngL O fr to (k + 1) = rngL O fr to k := by rw [rngL, if_neg (by rw [h]; decide), List.append_nil]
def scanL (E : Ents) (len : Nat) (seq : Int) (fr to : ByteArray) : List Pair1 := rngL (fnPair (visible E len seq)) fr to (visible E len seq).length
theorem scanL_len {E : Ents} {len : Nat} {seq : Int} {fr to : ByteArray} : (scanL E len seq fr to).length ≤ len := Nat.le_trans (rngL_len _ _ _ _) visible_len
theorem inR_low {fr to u : ByteArray} (h : Op.bytesLess u.toList fr.toList = true) : inR fr to u = false := by unfold inR; rw [h]; rfl
theorem inR_all {fr to u : ByteArray} (h : Op.bytesLess u.toList fr.toList = false) (h2 : to = ⟨#[]⟩) : inR fr to u = true := by unfold inR; rw [h, decide_eq_true h2]; rfl
theorem inR_is {fr to u : ByteArray} (h : Op.bytesLess u.toList fr.toList = false) (h2 : ¬ to = ⟨#[]⟩) : inR fr to u = Op.bytesLess u.toList to.toList := by unfold inR; rw [h, decide_eq_false h2]; simp
theorem ge_true {x y : ByteArray} (h : Op.bytesLess x.toList y.toList = false) : (Op.bytesLess y.toList x.toList || y.toList == x.toList) = true := by
  cases k : Op.bytesLess y.toList x.toList with
  | true => rfl
  | false => rw [less_tri _ _ h k]; simp
theorem ge_false {x y : ByteArray} (h : Op.bytesLess x.toList y.toList = true) : (Op.bytesLess y.toList x.toList || y.toList == x.toList) = false := by
  rw [less_asymm _ _ h, Bool.false_or]
  have : ¬ y.toList = x.toList := fun e => by rw [e] at h; rw [less_asymm _ _ h] at h; cases h
  simpa using this
theorem to_empty {t : ByteArray} (h : ¬ t = ⟨#[]⟩) : (t.toList == (⟨#[]⟩ : ByteArray).toList) = false := by
  have := toList_neL h
  simpa using this

set_option linter.unusedVariables false in
set_option linter.unusedSimpArgs false in
set_option maxHeartbeats 2000000 in
theorem impl_Scan (a : Option Addr) (len cap : Nat) (E : Ents) (seq : Int) (fr to : ByteArray) (w : World) (hl : len ≤ 1048576) (hS : EntAt w w.heap.size a len E) :
    Calls Try.prog 12 #[.slice a len cap, .int .i64 seq, .string fr, .string to] w fun e w' => (∃ v, e = .returned v ∧ OwnPair w' w.heap.size v (scanL E len seq fr to)) ∧ Below w.heap.size w w' := by
  have hvl : (visible E len seq).length ≤ 1000 := by
    unfold visible
    split
    · rename_i h
      have := visL_len E seq len
      have := (rowOk_out h).1
      omega
    · simp
  have HSC : Hid (scanL E len seq fr to = rngL (fnPair (visible E len seq)) fr to (visible E len seq).length) := rfl
  go_enter Try.func12, Try.ntmps12
  go_wp2_with fail
  refine (impl_Visible a len cap E seq w hl hS).mono ?_
  rintro e W0 ⟨⟨v0, rfl, ho⟩, hB⟩
  obtain ⟨pa, pp, rfl, hP⟩ := ho.arg
  have HP := hP.hid
  have HB := hide hB
  have HT : Hid (w.heap.size ≤ w.heap.size) := Nat.le_refl _
  have HO0 : Hid (OwnPair W0 W0.heap.size (.slice none 0 0) (rngL (fnPair (visible E len seq)) fr to 0)) := OwnPair.nil _ _
  have HB0 : Hid (Below W0.heap.size W0 W0) := Below.refl _ _
  clear hS ho hP hB HT
  generalize (visible E len seq).length = n at hvl HSC HP ⊢
  generalize fnPair (visible E len seq) = O at HSC HP HO0
  go_wp2
  go_loopw [9, 16] (fun v i wr => ∃ k : Nat, i = .int .i64 k ∧ k ≤ n ∧ Hid (OwnPair wr W0.heap.size v (rngL O fr to k)) ∧ Hid (Below W0.heap.size W0 wr)) (fun _ i _ => n - (intOf i).toNat)
  case atStart => exact ⟨0, rfl, by omega, HO0, HB0⟩
  case round =>
    obtain ⟨k, rfl, hk, HO, HW⟩ := hrel
    clear HO0 HB0
    by_cases hlt : k < n
    · obtain ⟨b', off, rfl, hb', c0, c1⟩ := (HP.out.below HW.out).at hlt
      have hki : (k : Int) < (n : Int) := by omega
      have hwz := HW.out.size
      have hb1 := below_one wr (.cells #[.string (O.U k), .string (O.V k)] 38)
      have HO1 := hide (HO.out.next hb1)
      have HW1 := hide (HW.out.trans (hb1.mono hwz))
      clear HO HW hb1
      cases hf : Op.bytesLess (O.U k).toList fr.toList with
      | true =>
        have hg := ge_false hf
        have hU : rngL O fr to (k + 1) = rngL O fr to k := rngL_no (inR_low hf)
        have HO2 : Hid (OwnPair (wr.alloc (.cells #[.string (O.U k), .string (O.V k)] 38)) W0.heap.size u9 (rngL O fr to (k + 1))) := by rw [hU]; exact HO1.out
        clear hU HO1
        go_wp2
        exact ⟨⟨k + 1, by go_num, by omega, HO2, HW1⟩, by simp [intOf]; omega⟩
      | false =>
        have hg := ge_true hf
        by_cases ht : to = ⟨#[]⟩
        · have ht4 : to.toList.isEmpty = true := by rw [ht, ByteArray.toList_eq]; rfl
          have ht5 := hide ht
          clear ht
          have HU := hide (rngL_yes (O := O) (fr := fr) (to := to) (k := k) (inR_all hf ht5.out))
          have hb2 := below_one (wr.alloc (.cells #[.string (O.U k), .string (O.V k)] 38)) (.cells #[.string (O.U k), .string (O.V k)] 38)
          have HO3 := hide (HO1.out.next hb2)
          have HW3 := hide (HW1.out.trans (hb2.mono HW1.out.size))
          have HNB := (BoxIs.new (wr.alloc (.cells #[.string (O.U k), .string (O.V k)] 38)) #[.string (O.U k), .string (O.V k)] 38 (g := (wr.heap.size + 1)) (by simp)).hid
          have hrl := rngL_len O fr to k
          clear HO1 HW1 hb2
          go_wp2_with (at_builtin; refine wpList_append_pair rfl _ _ 24 rfl Try.underlying24 W0.heap.size _ (rngL O fr to k) [⟨O.U k, O.V k⟩] (by rfl) HO3.out ⟨(wr.heap.size + 1), 0, none⟩ 1 1 (by rfl) rfl (pair_news HNB.out) HW3.out.size ?c1 ?_)
          case c1 => first | omega | (simp; omega)
          intro v' W6 hown hb6
          have HO6 : Hid (OwnPair W6 W0.heap.size v' (rngL O fr to (k + 1))) := by show OwnPair _ _ _ _; rw [HU.out]; exact hown
          have HW6 := hide (HW3.out.trans hb6)
          clear hown hb6 HO3 HW3 HNB HU
          go_wp2
          exact ⟨⟨k + 1, by go_num, by omega, HO6, HW6⟩, by simp [intOf]; omega⟩
        · have ht4 : to.toList.isEmpty = false := by have h := to_empty ht; simpa using h
          cases hu : Op.bytesLess (O.U k).toList to.toList with
          | true =>
            have HU := hide (rngL_yes (O := O) (fr := fr) (to := to) (k := k) ((inR_is hf ht).trans hu))
            have hb2 := below_one (wr.alloc (.cells #[.string (O.U k), .string (O.V k)] 38)) (.cells #[.string (O.U k), .string (O.V k)] 38)
            have HO3 := hide (HO1.out.next hb2)
            have HW3 := hide (HW1.out.trans (hb2.mono HW1.out.size))
            have HNB := (BoxIs.new (wr.alloc (.cells #[.string (O.U k), .string (O.V k)] 38)) #[.string (O.U k), .string (O.V k)] 38 (g := (wr.heap.size + 1)) (by simp)).hid
            have hrl := rngL_len O fr to k
            clear HO1 HW1 hb2
            go_wp2_with (at_builtin; refine wpList_append_pair rfl _ _ 24 rfl Try.underlying24 W0.heap.size _ (rngL O fr to k) [⟨O.U k, O.V k⟩] (by rfl) HO3.out ⟨(wr.heap.size + 1), 0, none⟩ 1 1 (by rfl) rfl (pair_news HNB.out) HW3.out.size ?c1 ?_)
            case c1 => first | omega | (simp; omega)
            intro v' W6 hown hb6
            have HO6 : Hid (OwnPair W6 W0.heap.size v' (rngL O fr to (k + 1))) := by show OwnPair _ _ _ _; rw [HU.out]; exact hown
            have HW6 := hide (HW3.out.trans hb6)
            clear hown hb6 HO3 HW3 HNB HU
            go_wp2
            exact ⟨⟨k + 1, by go_num, by omega, HO6, HW6⟩, by simp [intOf]; omega⟩
          | false =>
            have hU : rngL O fr to (k + 1) = rngL O fr to k := rngL_no ((inR_is hf ht).trans hu)
            have HO2 : Hid (OwnPair (wr.alloc (.cells #[.string (O.U k), .string (O.V k)] 38)) W0.heap.size u9 (rngL O fr to (k + 1))) := by rw [hU]; exact HO1.out
            clear hU HO1
            go_wp2
            exact ⟨⟨k + 1, by go_num, by omega, HO2, HW1⟩, by simp [intOf]; omega⟩
    · obtain rfl : k = n := by omega
      have HOv : Hid (OwnPair wr w.heap.size u9 (scanL E len seq fr to)) := by show OwnPair _ _ _ _; rw [HSC.out]; exact HO.out.base HB.out.size
      have HWv := hide (HB.out.trans (HW.out.mono HB.out.size))
      clear HO HW
      go_wp2
      go_ret
      exact ⟨⟨_, rfl, HOv.out⟩, HWv.out⟩

set_option linter.unusedVariables false in
set_option linter.unusedSimpArgs false in
set_option maxHeartbeats 2000000 in
theorem spec_l13Range (pa : Option Addr) (n pp : Nat) (O : Pairs) (fr to : ByteArray) (w : World) (hvl : n ≤ 1000) (hP : PairAt w w.heap.size pa n O) :
    Calls Try.prog 36 #[.slice pa n pp, .string fr, .string to] w fun e w' => (∃ v, e = .returned v ∧ OwnPair w' w.heap.size v (rngL O fr to n)) ∧ Below w.heap.size w w' := by
  have HP := hP.hid
  have HO0 : Hid (OwnPair (w.alloc (.cells #[] 38)) w.heap.size (.slice (some ⟨w.heap.size, 0, none⟩) 0 0) (rngL O fr to 0)) := OwnPair.lit w _ (Nat.le_refl _)
  have HB0 : Hid (Below w.heap.size w (w.alloc (.cells #[] 38))) := below_one w _
  clear hP
  go_enter Try.func36, Try.ntmps36
  go_wp2
  go_loopw [7, 8] (fun v i wr => ∃ k : Nat, i = .int .i64 k ∧ k ≤ n ∧ Hid (OwnPair wr w.heap.size v (rngL O fr to k)) ∧ Hid (Below w.heap.size w wr)) (fun _ i _ => n - (intOf i).toNat)
  case atStart => exact ⟨0, rfl, by omega, HO0, HB0⟩
  case round =>
    obtain ⟨k, rfl, hk, HO, HW⟩ := hrel
    clear HO0 HB0
    by_cases hlt : k < n
    · obtain ⟨b', off, rfl, hb', c0, c1⟩ := (HP.out.below HW.out).at hlt
      have hki : (k : Int) < (n : Int) := by omega
      have hwz := HW.out.size
      have HO1 := HO
      have HW1 := HW
      clear HO HW
      cases hf : Op.bytesLess (O.U k).toList fr.toList with
      | true =>
        have hg := ge_false hf
        have hU : rngL O fr to (k + 1) = rngL O fr to k := rngL_no (inR_low hf)
        have HO2 : Hid (OwnPair wr w.heap.size u7 (rngL O fr to (k + 1))) := by rw [hU]; exact HO1.out
        clear hU HO1
        go_wp2
        exact ⟨⟨k + 1, by go_num, by omega, HO2, HW1⟩, by simp [intOf]; omega⟩
      | false =>
        have hg := ge_true hf
        by_cases ht : to = ⟨#[]⟩
        · have ht4 : to.toList.isEmpty = true := by rw [ht, ByteArray.toList_eq]; rfl
          have ht5 := hide ht
          clear ht
          have HU := hide (rngL_yes (O := O) (fr := fr) (to := to) (k := k) (inR_all hf ht5.out))
          have hb2 := below_one wr (.cells #[.string (O.U k), .string (O.V k)] 38)
          have HO3 := hide (HO1.out.next hb2)
          have HW3 := hide (HW1.out.trans (hb2.mono HW1.out.size))
          have HNB := (BoxIs.new wr #[.string (O.U k), .string (O.V k)] 38 (g := wr.heap.size) (by simp)).hid
          have hrl := rngL_len O fr to k
          clear HO1 HW1 hb2
          go_wp2_with (at_builtin; refine wpList_append_pair rfl _ _ 24 rfl Try.underlying24 w.heap.size _ (rngL O fr to k) [⟨O.U k, O.V k⟩] (by rfl) HO3.out ⟨wr.heap.size, 0, none⟩ 1 1 (by rfl) rfl (pair_news HNB.out) HW3.out.size ?c1 ?_)
          case c1 => first | omega | (simp; omega)
          intro v' W6 hown hb6
          have HO6 : Hid (OwnPair W6 w.heap.size v' (rngL O fr to (k + 1))) := by show OwnPair _ _ _ _; rw [HU.out]; exact hown
          have HW6 := hide (HW3.out.trans hb6)
          clear hown hb6 HO3 HW3 HNB HU
          go_wp2
          exact ⟨⟨k + 1, by go_num, by omega, HO6, HW6⟩, by simp [intOf]; omega⟩
        · have ht4 : to.toList.isEmpty = false := by have h := to_empty ht; simpa using h
          cases hu : Op.bytesLess (O.U k).toList to.toList with
          | true =>
            have HU := hide (rngL_yes (O := O) (fr := fr) (to := to) (k := k) ((inR_is hf ht).trans hu))
            have hb2 := below_one wr (.cells #[.string (O.U k), .string (O.V k)] 38)
            have HO3 := hide (HO1.out.next hb2)
            have HW3 := hide (HW1.out.trans (hb2.mono HW1.out.size))
            have HNB := (BoxIs.new wr #[.string (O.U k), .string (O.V k)] 38 (g := wr.heap.size) (by simp)).hid
            have hrl := rngL_len O fr to k
            clear HO1 HW1 hb2
            go_wp2_with (at_builtin; refine wpList_append_pair rfl _ _ 24 rfl Try.underlying24 w.heap.size _ (rngL O fr to k) [⟨O.U k, O.V k⟩] (by rfl) HO3.out ⟨wr.heap.size, 0, none⟩ 1 1 (by rfl) rfl (pair_news HNB.out) HW3.out.size ?c1 ?_)
            case c1 => first | omega | (simp; omega)
            intro v' W6 hown hb6
            have HO6 : Hid (OwnPair W6 w.heap.size v' (rngL O fr to (k + 1))) := by show OwnPair _ _ _ _; rw [HU.out]; exact hown
            have HW6 := hide (HW3.out.trans hb6)
            clear hown hb6 HO3 HW3 HNB HU
            go_wp2
            exact ⟨⟨k + 1, by go_num, by omega, HO6, HW6⟩, by simp [intOf]; omega⟩
          | false =>
            have hU : rngL O fr to (k + 1) = rngL O fr to k := rngL_no ((inR_is hf ht).trans hu)
            have HO2 : Hid (OwnPair wr w.heap.size u7 (rngL O fr to (k + 1))) := by rw [hU]; exact HO1.out
            clear hU HO1
            go_wp2
            exact ⟨⟨k + 1, by go_num, by omega, HO2, HW1⟩, by simp [intOf]; omega⟩
    · obtain rfl : k = n := by omega
      go_wp2
      go_ret
      exact ⟨⟨_, rfl, HO.out⟩, HW.out⟩

theorem spec_Scan (a : Option Addr) (len cap : Nat) (E : Ents) (seq : Int) (fr to : ByteArray) (w : World) (hl : len ≤ 1048576) (hS : EntAt w w.heap.size a len E) :
    Calls Try.prog 10 #[.slice a len cap, .int .i64 seq, .string fr, .string to] w fun e w' => (∃ v, e = .returned v ∧ OwnPair w' w.heap.size v (scanL E len seq fr to)) ∧ Below w.heap.size w w' := by
  cases hok : rowOkB E len with
  | false =>
    have HV : Hid (scanL E len seq fr to = []) := by show scanL _ _ _ _ _ = _; unfold scanL; rw [visible_no hok]; rfl
    go_enter Try.func10, Try.ntmps10
    go_wp2_with fail
    refine (hok ▸ spec_EntriesOk a len cap E w hl hS).mono ?_
    rintro e w1 ⟨rfl, hB⟩
    clear hok
    go_wp2
    go_ret
    exact ⟨⟨_, rfl, by rw [HV.out]; exact OwnPair.nil _ _⟩, hB⟩
  | true =>
    have HV : Hid (scanL E len seq fr to = rngL (fnPair (visL E seq len)) fr to (visL E seq len).length) := by show scanL _ _ _ _ _ = _; unfold scanL; rw [visible_yes hok]
    have HS : Hid (EntAt w w.heap.size a len E) := hS
    have h4 := (rowOk_out hok).1
    go_enter Try.func10, Try.ntmps10
    go_wp2_with fail
    refine (hok ▸ spec_EntriesOk a len cap E w hl hS).mono ?_
    rintro e w1 ⟨rfl, hB⟩
    clear hok hS
    go_wp2_with fail
    refine (spec_l13Visible a len cap E seq w1 (by omega) ((HS.out.below hB).mono hB.size)).mono ?_
    rintro e w2 ⟨⟨v, rfl, ho⟩, hB2⟩
    obtain ⟨pa, pp, rfl, hP⟩ := ho.arg
    have hvl := visL_len E seq len
    have hB12 := hB.trans (hB2.mono hB.size)
    clear hB hB2 ho
    go_wp2_with fail
    refine (spec_l13Range pa _ pp _ fr to w2 (by omega) hP).mono ?_
    rintro e w3 ⟨⟨v, rfl, ho⟩, hB3⟩
    have HO := hide (HV.out.symm ▸ ho.base hB12.size)
    have HB := hide (hB12.trans (hB3.mono hB12.size))
    clear ho hB12 hB3 hP
    go_wp2
    go_ret
    exact ⟨⟨_, rfl, HO.out⟩, HB.out⟩

end Go.Proofs.Ytfnhlccpkommoaa
