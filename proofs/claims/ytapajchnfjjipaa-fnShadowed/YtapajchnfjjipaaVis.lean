/- Visible of the program. (By gen_vis.py.) -/
import Derived.Test.YtapajchnfjjipaaLEntsOk
import Derived.Test.YtapajchnfjjipaaLook
import Derived.Test.YtapajchnfjjipaaOwnPair
import Derived.Test.YtapajchnfjjipaaClone
namespace Go.Proofs.Ytapajchnfjjipaa
set_option maxRecDepth 100000
open Go.RowKit Go.Deep

theorem ent_szV {E : Ents} {i : Nat} (h : entOk E i = true) : (E.U i).size ≤ 40 ∧ (E.X i).size ≤ 200 := by
  unfold entOk entryOkB at h
  simp only [Bool.and_eq_true, decide_eq_true_eq] at h
  exact ⟨(keyOk_iff.1 h.1.1).2.1, h.1.2⟩

/-- The user that was looked at last, ahead of place k. -/
def lastA (E : Ents) (seq : Int) : Nat → ByteArray
  | 0 => ⟨#[]⟩
  | k + 1 => lkp seq (lastA E seq k) (E.U k) (E.Q k)
/-- Is place k looked at. -/
def lkA (E : Ents) (seq : Int) (k : Nat) : Bool := lk seq (lastA E seq k) (E.U k) (E.Q k)
/-- What is visible of the first k entries. -/
def visL (E : Ents) (seq : Int) : Nat → List Pair1
  | 0 => []
  | k + 1 => visL E seq k ++ (if lkA E seq k = true ∧ E.K k = 1 then [⟨E.U k, E.X k⟩] else [])
def visible (E : Ents) (len : Nat) (seq : Int) : List Pair1 := if rowOkB E len = true then visL E seq len else []
theorem visible_yes {E : Ents} {len : Nat} {seq : Int} (h : rowOkB E len = true) : visible E len seq = visL E seq len := by rw [visible, if_pos h]
theorem visible_no {E : Ents} {len : Nat} {seq : Int} (h : rowOkB E len = false) : visible E len seq = [] := by rw [visible, if_neg (by rw [h]; decide)]
theorem visL_len (E : Ents) (seq : Int) : ∀ k, (visL E seq k).length ≤ k
  | 0 => by simp [visL]
  | k + 1 => by
    have := visL_len E seq k
    rw [visL, List.length_append]
    split <;> simp <;> omega
theorem visible_len {E : Ents} {len : Nat} {seq : Int} : (visible E len seq).length ≤ len := by
  unfold visible; split
  · exact visL_len _ _ _
  · simp
theorem visL_put {E : Ents} {seq : Int} {k : Nat} (h : lkA E seq k = true) (h2 : E.K k = 1) : visL E seq (k + 1) = visL E seq k ++ [⟨E.U k, E.X k⟩] := by rw [visL, if_pos ⟨h, h2⟩]
theorem visL_not {E : Ents} {seq : Int} {k : Nat} (h : ¬ (lkA E seq k = true ∧ E.K k = 1)) : visL E seq (k + 1) = visL E seq k := by rw [visL, if_neg h, List.append_nil]

set_option linter.unusedVariables false in
set_option linter.unusedSimpArgs false in
set_option maxHeartbeats 4000000 in
theorem impl_Visible (a : Option Addr) (len cap : Nat) (E : Ents) (seq : Int) (w : World) (hl : len ≤ 1048576) (hS : EntAt w w.heap.size a len E) :
    Calls Try.prog 29 #[.slice a len cap, .int .i64 seq] w fun e w' => (∃ v, e = .returned v ∧ OwnPair w' w.heap.size v (visible E len seq)) ∧ Below w.heap.size w w' := by
  cases hok : rowOkB E len with
  | false =>
    have HV : Hid (visible E len seq = []) := visible_no hok
    go_enter Try.func29, Try.ntmps29
    go_wp2_with fail
    refine (hok ▸ impl_EntriesOk a len cap E w hl hS).mono ?_
    rintro e w1 ⟨rfl, hB⟩
    clear hok
    go_wp2
    go_ret
    exact ⟨⟨_, rfl, by rw [HV.out]; exact OwnPair.nil _ _⟩, hB⟩
  | true =>
    have HV : Hid (visible E len seq = visL E seq len) := visible_yes hok
    have HS : Hid (EntAt w w.heap.size a len E) := hS
    obtain ⟨h4, hsz⟩ := rowOk_out hok
    have HZ : Hid (∀ i, i < len → entOk E i = true) := fun i hi => (hsz i hi).1
    go_enter Try.func29, Try.ntmps29
    go_wp2_with fail
    refine (hok ▸ impl_EntriesOk a len cap E w hl hS).mono ?_
    rintro e w1 ⟨rfl, hB⟩
    clear hok hS hsz
    go_wp2_with fail
    refine (impl_lookedAt seq w1).mono ?_
    rintro e w2 ⟨⟨g, b, rfl, hgB, hg, hb⟩, hB2⟩
    have HEW : Hid (Below w.heap.size w w2) := hB.trans (hB2.mono hB.size)
    have HGB0 : Hid (BoxIs w2 g #[.string (lastA E seq 0)] 9) := hg
    have HBB0 := hb.hid
    have hBg : w.heap.size ≤ g := by have := hB.size; omega
    have HO0 : Hid (OwnPair w2 w.heap.size (.slice none 0 0) (visL E seq 0)) := OwnPair.nil _ _
    clear hg hb hB hB2 hgB
    go_wp2
    go_loopw [5, 16] (fun v i wr => ∃ k : Nat, i = .int .i64 k ∧ k ≤ len ∧ Hid (OwnPair wr w.heap.size v (visL E seq k)) ∧ Hid (BoxIs wr g #[.string (lastA E seq k)] 9) ∧ Hid (BoxIs wr b #[.int .i64 seq] 2) ∧ Hid (Below w.heap.size w wr)) (fun _ i _ => len - (intOf i).toNat)
    case atStart => exact ⟨0, rfl, by omega, HO0, HGB0, HBB0, HEW⟩
    case round =>
      obtain ⟨k, rfl, hk, HO, HG, HBb, HW⟩ := hrel
      clear HO0 HGB0 HBB0 HEW
      by_cases hlt : k < len
      · obtain ⟨b', off, rfl, hb', c0, c1, c2, c3⟩ := (HS.out.below HW.out).at hlt
        have hki : (k : Int) < (len : Int) := by omega
        have hwz := HW.out.size
        obtain ⟨hz0, hz1⟩ := ent_szV (HZ.out k hlt)
        have hb1 := below_one wr (.cells #[.string (E.U k), .int .i64 (E.Q k), .int .i64 (E.K k), .string (E.X k)] 45)
        have HX := (BoxIs.new wr #[.string (E.U k), .int .i64 (E.Q k), .int .i64 (E.K k), .string (E.X k)] 45 rfl).hid
        have HO1 := hide (HO.out.next hb1)
        have HG1 := hide (HG.out.next hb1)
        have HBb1 := hide (HBb.out.next hb1)
        have HW1 := hide (HW.out.trans (hb1.mono hwz))
        clear HO HG HBb HW hb1
        go_wp2_with fail
        generalize wr.alloc (.cells #[.string (E.U k), .int .i64 (E.Q k), .int .i64 (E.K k), .string (E.X k)] 45) = W2 at HX HO1 HG1 HBb1 HW1 ⊢
        have hwX : wr.heap.size < W2.heap.size := HX.out.lt
        have hW2 := HW1.out.size
        have hc := impl_look (lastA E seq k) (E.U k) (E.Q k) (E.K k) seq W2 w.heap.size g b hBg hW2 HG1.out HBb1.out
        cases hv : lkA E seq k with
        | false =>
          rw [show lk seq (lastA E seq k) (E.U k) (E.Q k) = false from hv] at hc
          have hU : visL E seq (k + 1) = visL E seq k := visL_not (by rw [hv]; simp)
          refine hc.mono ?_
          rintro e w3 ⟨rfl, hs, _, hg3⟩
          have HO3 : Hid (OwnPair w3 w.heap.size u5 (visL E seq (k + 1))) := by rw [hU]; exact ownsRow_sm HO1.out hs (by decide)
          have HG3 : Hid (BoxIs w3 g #[.string (lastA E seq (k + 1))] 9) := hg3
          have HBb3 := hide (HBb1.out.sm hs (by decide))
          have HW3 := hide (HW1.out.trans hs.below)
          clear hs hg3 HX HO1 HG1 HBb1 HW1 hU hc c0 c1 c2 c3 hv
          go_wp2
          exact ⟨⟨k + 1, by go_num, by omega, HO3, HG3, HBb3, HW3⟩, by simp [intOf]; omega⟩
        | true =>
          rw [show lk seq (lastA E seq k) (E.U k) (E.Q k) = true from hv] at hc
          by_cases hK : E.K k = 1
          · have hU : visL E seq (k + 1) = visL E seq k ++ [⟨E.U k, E.X k⟩] := visL_put hv hK
            have HU := hide hU
            refine hc.mono ?_
            rintro e w3 ⟨rfl, hs, _, hg3⟩
            have OW : OwnPair w3 w.heap.size u5 (visL E seq k) := ownsRow_sm HO1.out hs (by decide)
            have GB : BoxIs w3 g #[.string (lastA E seq (k + 1))] 9 := hg3
            have BB := HBb1.out.sm hs (by decide)
            have XB := HX.out.sm hs (by decide)
            have EW := HW1.out.trans hs.below
            have x2 : w3.cell? ⟨wr.heap.size, 2, none⟩ = some (.int .i64 (E.K k)) := XB.cell 2
            have HH : Hid (OwnPair w3 w.heap.size u5 (visL E seq k) ∧ BoxIs w3 g #[.string (lastA E seq (k + 1))] 9 ∧ BoxIs w3 b #[.int .i64 seq] 2 ∧ BoxIs w3 wr.heap.size #[.string (E.U k), .int .i64 (E.Q k), .int .i64 (E.K k), .string (E.X k)] 45 ∧ Below w.heap.size w w3) := ⟨OW, GB, BB, XB, EW⟩
            clear hs hg3 HX HO1 HG1 HBb1 HW1 hU hc c0 c1 c2 c3 hv OW GB BB XB EW
            go_wp2_with fail
            obtain ⟨OW, GB, BB, XB, EW⟩ := HH.out
            clear HH x2
            refine wp_region_noPanic ?_
            have hb0 : Below w3.heap.size w3 w3.drew := (Below.refl _ _).drew
            have EW_0 := EW.trans (hb0.mono EW.size)
            have OW_0 := OW.next hb0
            have XB_0 := XB.next hb0
            have GB_0 := GB.next hb0
            have BB_0 := BB.next hb0
            refine wp_region_held_drew (S := fun x => BoxIs x wr.heap.size #[.string (E.U k), .int .i64 (E.Q k), .int .i64 (E.K k), .string (E.X k)] 45) (by kernel_rfl) XB_0 (fun _ => ?_)
            clear BB EW GB OW XB
            generalize w3.drew = wq0 at hb0 EW_0 OW_0 XB_0 GB_0 BB_0 ⊢
            clear hb0
            refine wpAnyH_take (i := 0) (v := u5) nat0 (by kernel_rfl) (by kernel_rfl) (by kernel_rfl) (fun _ _ _ h => False.elim h) (Or.inl ⟨by rfl, ?_⟩) XB_0 ?_
            · intro wx hSw
              go_simp
            simp only [Act.put, List.setIfInBounds_toArray, List.set_cons_zero, List.set_cons_succ]
            refine wpAnyH_take (i := 1) (v := .pointer (some ⟨wr.heap.size, 0, none⟩)) nat1 (by kernel_rfl) (by kernel_rfl) (by kernel_rfl) (fun _ _ _ h => False.elim h) (Or.inl ⟨by rfl, ?_⟩) XB_0 ?_
            · intro wx hSw
              go_simp
            simp only [Act.put, List.setIfInBounds_toArray, List.set_cons_zero, List.set_cons_succ]
            refine wpAnyH_take (i := 2) (v := .pointer (some ⟨wr.heap.size, 0, none⟩)) nat2 (by kernel_rfl) (by kernel_rfl) (by kernel_rfl) (fun _ _ _ h => False.elim h) (Or.inl ⟨by rfl, ?_⟩) XB_0 ?_
            · intro wx hSw
              go_simp
            simp only [Act.put, List.setIfInBounds_toArray, List.set_cons_zero, List.set_cons_succ]
            refine wpAnyH_take (i := 3) (v := .string (E.U k)) nat3 (by kernel_rfl) (by kernel_rfl) (by kernel_rfl) (fun _ _ _ h => False.elim h) (Or.inl ⟨by rfl, ?_⟩) XB_0 ?_
            · intro wx hSw
              have hx : BoxIs wx wr.heap.size #[.string (E.U k), .int .i64 (E.Q k), .int .i64 (E.K k), .string (E.X k)] 45 := hSw
              have e0 := hx.cell 0
              simp only [List.getElem?_toArray, List.getElem?_cons_succ, List.getElem?_cons_zero] at e0
              go_simp
            simp only [Act.put, List.setIfInBounds_toArray, List.set_cons_zero, List.set_cons_succ]
            refine wpAnyH_take (i := 5) (v := .pointer (some ⟨wr.heap.size, 3, none⟩)) nat5 (by kernel_rfl) (by kernel_rfl) (by kernel_rfl) (fun _ _ _ h => False.elim h) (Or.inl ⟨by rfl, ?_⟩) XB_0 ?_
            · intro wx hSw
              go_simp
            simp only [Act.put, List.setIfInBounds_toArray, List.set_cons_zero, List.set_cons_succ]
            refine wpAnyH_take (i := 6) (v := .string (E.X k)) nat6 (by kernel_rfl) (by kernel_rfl) (by kernel_rfl) (fun _ _ _ h => False.elim h) (Or.inl ⟨by rfl, ?_⟩) XB_0 ?_
            · intro wx hSw
              have hx : BoxIs wx wr.heap.size #[.string (E.U k), .int .i64 (E.Q k), .int .i64 (E.K k), .string (E.X k)] 45 := hSw
              have e0 := hx.cell 3
              simp only [List.getElem?_toArray, List.getElem?_cons_succ, List.getElem?_cons_zero] at e0
              go_simp
            simp only [Act.put, List.setIfInBounds_toArray, List.set_cons_zero, List.set_cons_succ]
            refine wpAnyH_ready (rs := [4]) (by kernel_rfl) (by simp) ?_
            refine AllReadyH.cons nat4 (fun K hK => ?_) AllReadyH.nil
            go_simp
            go_at_call 51
            refine ((strings_Clone (E.U k) _ (by omega))).mono ?_
            rintro e wq1 ⟨rfl, hb1⟩
            have EW_1 := EW_0.trans (hb1.mono EW_0.size)
            have OW_1 := OW_0.next hb1
            have XB_1 := XB_0.next hb1
            have GB_1 := GB_0.next hb1
            have BB_1 := BB_0.next hb1
            refine hK.out _ _ XB_1 (fun _ => ?_)
            clear hK K hb1 BB_0 EW_0 GB_0 OW_0 XB_0
            refine wpAnyH_ready (rs := [7]) (by kernel_rfl) (by simp) ?_
            refine AllReadyH.cons nat7 (fun K hK => ?_) AllReadyH.nil
            go_simp
            go_at_call 51
            refine ((strings_Clone (E.X k) _ (by omega))).mono ?_
            rintro e wq2 ⟨rfl, hb2⟩
            have EW_2 := EW_1.trans (hb2.mono EW_1.size)
            have OW_2 := OW_1.next hb2
            have XB_2 := XB_1.next hb2
            have GB_2 := GB_1.next hb2
            have BB_2 := BB_1.next hb2
            refine hK.out _ _ XB_2 (fun _ => ?_)
            clear hK K hb2 BB_1 EW_1 GB_1 OW_1 XB_1
            refine wpAnyH_take (i := 8) (v := .agg #[.string (E.U k), .string (E.X k)]) nat8 (by kernel_rfl) (by kernel_rfl) (by kernel_rfl) (fun _ _ _ h => False.elim h) (Or.inl ⟨by rfl, ?_⟩) XB_2 ?_
            · intro wx hSw
              go_simp
            simp only [Act.put, List.setIfInBounds_toArray, List.set_cons_zero, List.set_cons_succ]
            refine wpAnyH_ready (rs := [9]) (by kernel_rfl) (by simp) ?_
            refine AllReadyH.cons nat9 (fun K hK => ?_) AllReadyH.nil
            go_simp
            have hb3 := below_one wq2 (.cells #[.string (E.U k), .string (E.X k)] 74)
            have EW_3 := EW_2.trans (hb3.mono EW_2.size)
            have OW_3 := OW_2.next hb3
            have XB_3 := XB_2.next hb3
            have GB_3 := GB_2.next hb3
            have BB_3 := BB_2.next hb3
            have NB_3 := BoxIs.new wq2 #[.string (E.U k), .string (E.X k)] 74 rfl
            refine hK.out _ _ XB_3 (fun _ => ?_)
            clear hK K BB_2 EW_2 GB_2 OW_2 XB_2
            obtain ⟨G3, hG3⟩ : ∃ G, G = wq2.heap.size := ⟨_, rfl⟩
            rw [← hG3] at NB_3 ⊢
            generalize wq2.alloc (.cells #[.string (E.U k), .string (E.X k)] 74) = wq3 at hb3 EW_3 OW_3 XB_3 GB_3 BB_3 NB_3 ⊢
            clear hG3 hb3
            refine wpAnyH_ready (rs := [10]) (by kernel_rfl) (by simp) ?_
            refine AllReadyH.cons nat10 (fun K hK => ?_) AllReadyH.nil
            skip
            refine step_append_pair rfl (.tmp 30) (.tmp 39) 47 rfl Try.underlying47 w.heap.size u5 (visL E seq k) [⟨E.U k, E.X k⟩] (by rfl) OW_3 ⟨G3, 0, none⟩ 1 1 (by rfl) rfl (pair_news NB_3) (by have := EW_3.size; omega) (by have := visL_len E seq k; omega) ?_
            intro v' wq4 h1 h2
            have hgb := OW_3.grownBelow (by have := EW_3.size; omega) h2
            have OW_4 := h1
            have EW_4 := EW_3.trans hgb
            have XB_4 := OW_3.grownBox XB_3 (by decide) h2
            have GB_4 := OW_3.grownBox GB_3 (by decide) h2
            have BB_4 := OW_3.grownBox BB_3 (by decide) h2
            refine hK.out _ _ XB_4 (fun _ => ?_)
            clear hK K BB_3 EW_3 GB_3 NB_3 OW_3 XB_3
            refine wpAnyH_take (i := 11) (v := v') nat11 (by kernel_rfl) (by kernel_rfl) (by kernel_rfl) (fun _ _ _ h => False.elim h) (Or.inl ⟨by rfl, ?_⟩) XB_4 ?_
            · intro wx hSw
              go_simp
            simp only [Act.put, List.setIfInBounds_toArray, List.set_cons_zero, List.set_cons_succ]
            refine wpAnyH_done (by kernel_rfl) ?_ _
            refine NoPanic.normal ?_
            have HEW := hide EW_4
            have HOW : Hid (OwnPair wq4 w.heap.size v' (visL E seq (k + 1))) := by show OwnPair _ _ _ _; rw [HU.out]; exact OW_4
            have HGB := GB_4.hid
            have HBB := BB_4.hid
            clear BB_4 EW_4 GB_4 OW_4 XB_4
            go_wp2
            exact ⟨⟨k + 1, by go_num, by omega, HOW, HGB, HBB, HEW⟩, by simp [intOf]; omega⟩
          · have hU : visL E seq (k + 1) = visL E seq k := visL_not (by intro h; exact hK h.2)
            refine hc.mono ?_
            rintro e w3 ⟨rfl, hs, _, hg3⟩
            have HO3 : Hid (OwnPair w3 w.heap.size u5 (visL E seq (k + 1))) := by rw [hU]; exact ownsRow_sm HO1.out hs (by decide)
            have HG3 : Hid (BoxIs w3 g #[.string (lastA E seq (k + 1))] 9) := hg3
            have HBb3 := hide (HBb1.out.sm hs (by decide))
            have HW3 := hide (HW1.out.trans hs.below)
            have x2 : w3.cell? ⟨wr.heap.size, 2, none⟩ = some (.int .i64 (E.K k)) := (HX.out.sm hs (by decide)).cell 2
            have hK2 : (E.K k == 1) = false := by simp [hK]
            clear hs hg3 HX HO1 HG1 HBb1 HW1 hU hc c0 c1 c2 c3 hv
            go_wp2
            exact ⟨⟨k + 1, by go_num, by omega, HO3, HG3, HBb3, HW3⟩, by simp [intOf]; omega⟩
      · obtain rfl : k = len := by omega
        have HOv := hide (HV.out.symm ▸ HO.out)
        go_wp2
        go_ret
        exact ⟨⟨_, rfl, HOv.out⟩, HW.out⟩

end Go.Proofs.Ytapajchnfjjipaa
