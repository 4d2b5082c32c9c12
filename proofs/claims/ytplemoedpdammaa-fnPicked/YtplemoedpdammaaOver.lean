/- Overlapping, of the program and of the model. (By gen_over.py.) -/
import Derived.Test.YtplemoedpdammaaVersS
namespace Go.Proofs.Ytplemoedpdammaa
set_option maxRecDepth 100000
open Go.RowKit Go.Deep

theorem OwnI.base {w : World} {B B' : Nat} {v : Value} {l : List Int} (h : OwnI w B v l) (hB : B' ≤ B) : OwnI w B' v l := by
  refine ⟨h.1, ?_⟩
  rcases h.2 with hn | ⟨g, cap, cur, hv, hg, r⟩
  · exact .inl hn
  · exact .inr ⟨g, cap, cur, hv, Nat.le_trans hB hg, r⟩

theorem sLe_not (x y : ByteArray) : sLe x y = !(Op.bytesLess y.toList x.toList) := by
  unfold sLe
  cases h : Op.bytesLess x.toList y.toList with
  | true => rw [less_asymm _ _ h]; rfl
  | false =>
    cases k : Op.bytesLess y.toList x.toList with
    | true =>
      have : ¬ x.toList = y.toList := fun e => by rw [e, bytesLess_irrefl] at k; cases k
      simp [this]
    | false => rw [less_tri _ _ h k]; simp

/-- File i is of this level and has users between the bounds. -/
def overB (O : Metas) (lv : Int) (fr to : ByteArray) (i : Nat) : Bool := decide (O.L i = lv) && sLe (O.F i) to && sLe fr (O.Z i)
/-- The numbers of those among the first k files. -/
def overN (O : Metas) (lv : Int) (fr to : ByteArray) : Nat → List Int
  | 0 => []
  | k + 1 => if overB O lv fr to k then overN O lv fr to k ++ [O.N k] else overN O lv fr to k
theorem overN_len (O : Metas) (lv : Int) (fr to : ByteArray) : ∀ k, (overN O lv fr to k).length ≤ k
  | 0 => Nat.le_refl _
  | k + 1 => by
    have := overN_len O lv fr to k
    unfold overN
    split
    · simp; omega
    · omega
def overL (c : VersionC) (lv : Int) (fr to : ByteArray) : List Int := if versB c then overN c.r0 lv fr to c.n0 else []

theorem overL_len {c : VersionC} {lv : Int} {fr to : ByteArray} (hf : c.Fit) : (overL c lv fr to).length ≤ 1048576 := by
  unfold overL
  split
  · exact Nat.le_trans (overN_len _ _ _ _ _) hf
  · simp

set_option linter.unusedVariables false in
set_option maxHeartbeats 4000000 in
theorem impl_Overlapping (v : Value) (c : VersionC) (lv : Int) (fr to : ByteArray) (w : World) (hf : c.Fit) (hv : VersionIs w v c) :
    Calls Try.prog 30 #[v, .int .i64 lv, .string fr, .string to] w fun e w' => (∃ u, e = .returned u ∧ OwnI w' w.heap.size u (overL c lv fr to)) ∧ Below w.heap.size w w' := by
  have hi5 : (Try.prog.info? 2).map (fun i => (i.zero, i.size, i.bytes)) = some (some (.int .i64 0), 1, 8) := by kernel_rfl
  have hvn := hv
  obtain ⟨a0, p0, rfl, hS⟩ := hv
  have hl : c.n0 ≤ 1048576 := hf
  have hb0 := below_one w (.cells #[.slice a0 c.n0 p0, .int .i64 c.x1, .int .i64 c.x2, .int .i64 c.x3] 46)
  have HBb := hide hb0
  have HK := (BoxIs.new w #[.slice a0 c.n0 p0, .int .i64 c.x1, .int .i64 c.x2, .int .i64 c.x3] 46 rfl).hid
  have HV0 := (hvn.next hb0).hid
  have HS := hS.hid
  have hgz : w.heap.size < (w.alloc (.cells #[.slice a0 c.n0 p0, .int .i64 c.x1, .int .i64 c.x2, .int .i64 c.x3] 46)).heap.size := HK.out.lt
  clear hS hvn hb0
  go_enter Try.func30, Try.ntmps30
  go_wp2_with fail
  generalize hW : (w.alloc (.cells #[.slice a0 c.n0 p0, .int .i64 c.x1, .int .i64 c.x2, .int .i64 c.x3] 46)) = W1 at HBb HK HV0 hgz ⊢
  clear hW
  have HO : Hid (OwnI W1 W1.heap.size (.slice none 0 0) (overN c.r0 lv fr to 0)) := OwnI.nil _ _
  have HC : Hid (Below W1.heap.size W1 W1) := Below.refl _ _
  have hz1 : W1.heap.size ≤ W1.heap.size := Nat.le_refl _
  obtain ⟨o0, ho0⟩ : ∃ x : Value, x = .slice none 0 0 := ⟨_, rfl⟩
  rw [← ho0] at HO
  refine (impl_VersionOk _ c W1 hf HV0.out).mono ?_
  rintro e w2 ⟨rfl, hb2⟩
  have HO := hide (HO.out.next hb2)
  have HC := hide (HC.out.trans hb2)
  clear hb2
  cases hok : versB c with
  | false =>
    have HL : Hid (overL c lv fr to = []) := by unfold Hid overL; rw [hok]; rfl
    clear hok
    go_wp2
    go_ret
    exact ⟨⟨_, rfl, by rw [HL.out]; exact OwnI.nil _ _⟩, HBb.out.trans (HC.out.mono HBb.out.size)⟩
  | true =>
    have HL : Hid (overL c lv fr to = overN c.r0 lv fr to c.n0) := by unfold Hid overL; rw [hok]; rfl
    have hn30 := (versB_out hok).1.1
    clear hok
    have k0 : w2.cell? ⟨w.heap.size, 0, none⟩ = some (.slice a0 c.n0 p0) := (HK.out.next HC.out).cell 0
    go_wp2
    clear k0
    go_loopw [9, 18] (fun u i wr => ∃ k : Nat, i = .int .i64 k ∧ k ≤ c.n0 ∧ Hid (OwnI wr W1.heap.size u (overN c.r0 lv fr to k)) ∧ Hid (Below W1.heap.size W1 wr)) (fun _ i _ => c.n0 - (intOf i).toNat)
    case atStart => exact ⟨0, rfl, by omega, by subst ho0; exact HO, HC⟩
    case round =>
      obtain ⟨k, rfl, hk, HO1, HC1⟩ := hrel
      clear HO HC
      have k0 : wr.cell? ⟨w.heap.size, 0, none⟩ = some (.slice a0 c.n0 p0) := (HK.out.next HC1.out).cell 0
      have HW1 := hide (HBb.out.trans (HC1.out.mono HBb.out.size))
      by_cases hlt : k < c.n0
      · obtain ⟨b, off, rfl, hb, c0, c1, c2, c3, c4⟩ := (HS.out.below HW1.out).at hlt
        have hlti : (k : Int) < (c.n0 : Int) := by omega
        have hbb := below_one wr (.cells #[.int .i64 (c.r0.N k), .int .i64 (c.r0.L k), .string (c.r0.F k), .string (c.r0.Z k), .int .i64 (c.r0.C k)] 62)
        have hown := HO1.out.next hbb
        have HC2 := hide (HC1.out.trans (hbb.mono HC1.out.size))
        have hul := overN_len c.r0 lv fr to k
        clear hbb
        by_cases q1 : c.r0.L k = lv
        · obtain rfl : lv = c.r0.L k := q1.symm
          cases q2 : sLe (c.r0.F k) to with
          | false =>
            have HE : Hid (overN c.r0 (c.r0.L k) fr to (k + 1) = overN c.r0 (c.r0.L k) fr to k) := by show _ = _; rw [overN, if_neg]; unfold overB; simp [q2]
            have HO2 := hide (HE.out.symm ▸ hown)
            unfold sLe at q2
            clear hown HO1 HC1
            go_wp2
            exact ⟨⟨k + 1, by go_num, by omega, HO2, HC2⟩, by simp [intOf]; omega⟩
          | true =>
            cases q3 : Op.bytesLess (c.r0.Z k).toList fr.toList with
            | true =>
              have q3b : sLe fr (c.r0.Z k) = false := by rw [sLe_not, q3]; rfl
              have HE : Hid (overN c.r0 (c.r0.L k) fr to (k + 1) = overN c.r0 (c.r0.L k) fr to k) := by show _ = _; rw [overN, if_neg]; unfold overB; simp [q3b]
              have HO2 := hide (HE.out.symm ▸ hown)
              unfold sLe at q2
              clear q3b
              clear hown HO1 HC1
              go_wp2
              exact ⟨⟨k + 1, by go_num, by omega, HO2, HC2⟩, by simp [intOf]; omega⟩
            | false =>
              have q3b : sLe fr (c.r0.Z k) = true := by rw [sLe_not, q3]; rfl
              have HE : Hid (overN c.r0 (c.r0.L k) fr to (k + 1) = overN c.r0 (c.r0.L k) fr to k ++ [c.r0.N k]) := by show _ = _; rw [overN, if_pos]; unfold overB; simp [q2, q3b]
              have hwz : W1.heap.size ≤ (wr.alloc (.cells #[.int .i64 (c.r0.N k), .int .i64 (c.r0.L k), .string (c.r0.F k), .string (c.r0.Z k), .int .i64 (c.r0.C k)] 62)).heap.size := HC2.out.size
              have hown2 := Own.alloc hown (.cells #[.int .i64 (c.r0.N k)] 2)
              have hb2 := below_one (wr.alloc (.cells #[.int .i64 (c.r0.N k), .int .i64 (c.r0.L k), .string (c.r0.F k), .string (c.r0.Z k), .int .i64 (c.r0.C k)] 62)) (.cells #[.int .i64 (c.r0.N k)] 2)
              have HC3 := hide (HC2.out.trans (hb2.mono hwz))
              have hwz2 := Nat.le_trans hwz hb2.size
              unfold sLe at q2
              clear q3b
              clear hown hb2 HC2 HO1 HC1
              go_wp2_with (first
                | (at_builtin; refine wpList_append_cell rfl _ _ 56 rfl 2 Try.underlying56 hi5 rfl (by decide) W1.heap.size _ (.int .i64 (c.r0.N k)) ((overN c.r0 (c.r0.L k) fr to k).map (Value.int .i64)) (by rfl) ⟨wr.heap.size + 1, 0, none⟩ (by rfl) ?c2 hown2 rfl hwz2 ?c1 ?_))
              case c1 => first | omega | (simp; omega)
              try (case c2 => simp)
              intro v' w6 hown' hb'
              have HO6 : Hid (OwnI w6 W1.heap.size v' (overN c.r0 (c.r0.L k) fr to (k + 1))) := by
                rw [HE.out]
                show Own _ _ _ _ _
                rw [List.map_append]
                exact hown'
              have HC6 := hide (HC3.out.trans hb')
              clear hown2 hown' hb' HC3 HE
              go_wp2
              exact ⟨⟨k + 1, by go_num, by omega, HO6, HC6⟩, by simp [intOf]; omega⟩
        · skip
          have HE : Hid (overN c.r0 lv fr to (k + 1) = overN c.r0 lv fr to k) := by show _ = _; rw [overN, if_neg]; unfold overB; simp [q1]
          have HO2 := hide (HE.out.symm ▸ hown)
          clear hown HO1 HC1
          go_wp2
          exact ⟨⟨k + 1, by go_num, by omega, HO2, HC2⟩, by simp [intOf]; omega⟩
      · obtain rfl : k = c.n0 := by omega
        go_wp2
        go_ret
        exact ⟨⟨_, rfl, by rw [HL.out]; exact HO1.out.base HBb.out.size⟩, HW1.out⟩

set_option linter.unusedVariables false in
set_option maxHeartbeats 4000000 in
theorem spec_Overlapping (v : Value) (c : VersionC) (lv : Int) (fr to : ByteArray) (w : World) (hf : c.Fit) (hv : VersionIs w v c) :
    Calls Try.prog 32 #[v, .int .i64 lv, .string fr, .string to] w fun e w' => (∃ u, e = .returned u ∧ OwnI w' w.heap.size u (overL c lv fr to)) ∧ Below w.heap.size w w' := by
  have hi5 : (Try.prog.info? 2).map (fun i => (i.zero, i.size, i.bytes)) = some (some (.int .i64 0), 1, 8) := by kernel_rfl
  have hvn := hv
  obtain ⟨a0, p0, rfl, hS⟩ := hv
  have hl : c.n0 ≤ 1048576 := hf
  have hb0 := below_one w (.cells #[.slice a0 c.n0 p0, .int .i64 c.x1, .int .i64 c.x2, .int .i64 c.x3] 46)
  have HBb := hide hb0
  have HK := (BoxIs.new w #[.slice a0 c.n0 p0, .int .i64 c.x1, .int .i64 c.x2, .int .i64 c.x3] 46 rfl).hid
  have HV0 := (hvn.next hb0).hid
  have HS := hS.hid
  have hgz : w.heap.size < (w.alloc (.cells #[.slice a0 c.n0 p0, .int .i64 c.x1, .int .i64 c.x2, .int .i64 c.x3] 46)).heap.size := HK.out.lt
  clear hS hvn hb0
  go_enter Try.func32, Try.ntmps32
  go_wp2_with fail
  generalize hW : (w.alloc (.cells #[.slice a0 c.n0 p0, .int .i64 c.x1, .int .i64 c.x2, .int .i64 c.x3] 46)) = W1 at HBb HK HV0 hgz ⊢
  have hsz : w.heap.size + 1 = W1.heap.size := by rw [← hW]; simp
  simp only [hsz]
  clear hW hsz
  have hbx := below_one W1 (.cells #[] 2)
  have HO : Hid (OwnI (W1.alloc (.cells #[] 2)) W1.heap.size (.slice (some ⟨W1.heap.size, 0, none⟩) 0 0) (overN c.r0 lv fr to 0)) := Own.lit W1 W1.heap.size 2 [] 0 rfl (Nat.le_refl _) (by decide)
  have HC := hide hbx
  have HVx := (HV0.out.next hbx).hid
  clear hbx
  generalize hX : W1.alloc (.cells #[] 2) = X1 at HO HC HVx ⊢
  clear hX
  refine (spec_VersionOk _ c X1 hf HVx.out).mono ?_
  rintro e w2 ⟨rfl, hb2⟩
  have HO := hide (HO.out.next hb2)
  have HC := hide (HC.out.trans (hb2.mono HC.out.size))
  clear hb2
  cases hok : versB c with
  | false =>
    have HL : Hid (overL c lv fr to = []) := by unfold Hid overL; rw [hok]; rfl
    clear hok
    go_wp2
    go_ret
    exact ⟨⟨_, rfl, by rw [HL.out]; exact HO.out.base HBb.out.size⟩, HBb.out.trans (HC.out.mono HBb.out.size)⟩
  | true =>
    have HL : Hid (overL c lv fr to = overN c.r0 lv fr to c.n0) := by unfold Hid overL; rw [hok]; rfl
    have hn30 := (versB_out hok).1.1
    clear hok
    have k0 : w2.cell? ⟨w.heap.size, 0, none⟩ = some (.slice a0 c.n0 p0) := (HK.out.next HC.out).cell 0
    go_wp2
    clear k0
    go_loopw [9, 10] (fun u i wr => ∃ k : Nat, i = .int .i64 k ∧ k ≤ c.n0 ∧ Hid (OwnI wr W1.heap.size u (overN c.r0 lv fr to k)) ∧ Hid (Below W1.heap.size W1 wr)) (fun _ i _ => c.n0 - (intOf i).toNat)
    case atStart => exact ⟨0, rfl, by omega, HO, HC⟩
    case round =>
      obtain ⟨k, rfl, hk, HO1, HC1⟩ := hrel
      clear HO HC
      have k0 : wr.cell? ⟨w.heap.size, 0, none⟩ = some (.slice a0 c.n0 p0) := (HK.out.next HC1.out).cell 0
      have HW1 := hide (HBb.out.trans (HC1.out.mono HBb.out.size))
      by_cases hlt : k < c.n0
      · obtain ⟨b, off, rfl, hb, c0, c1, c2, c3, c4⟩ := (HS.out.below HW1.out).at hlt
        have hlti : (k : Int) < (c.n0 : Int) := by omega
        have hbb := below_one wr (.cells #[.int .i64 (c.r0.N k), .int .i64 (c.r0.L k), .string (c.r0.F k), .string (c.r0.Z k), .int .i64 (c.r0.C k)] 62)
        have hown := HO1.out.next hbb
        have HC2 := hide (HC1.out.trans (hbb.mono HC1.out.size))
        have hul := overN_len c.r0 lv fr to k
        clear hbb
        by_cases q1 : c.r0.L k = lv
        · obtain rfl : lv = c.r0.L k := q1.symm
          cases q2 : sLe (c.r0.F k) to with
          | false =>
            have HE : Hid (overN c.r0 (c.r0.L k) fr to (k + 1) = overN c.r0 (c.r0.L k) fr to k) := by show _ = _; rw [overN, if_neg]; unfold overB; simp [q2]
            have HO2 := hide (HE.out.symm ▸ hown)
            unfold sLe at q2
            clear hown HO1 HC1
            go_wp2
            exact ⟨⟨k + 1, by go_num, by omega, HO2, HC2⟩, by simp [intOf]; omega⟩
          | true =>
            cases q3 : sLe fr (c.r0.Z k) with
            | false =>
              have HE : Hid (overN c.r0 (c.r0.L k) fr to (k + 1) = overN c.r0 (c.r0.L k) fr to k) := by show _ = _; rw [overN, if_neg]; unfold overB; simp [q3]
              have HO2 := hide (HE.out.symm ▸ hown)
              unfold sLe at q2 q3
              clear hown HO1 HC1
              go_wp2
              exact ⟨⟨k + 1, by go_num, by omega, HO2, HC2⟩, by simp [intOf]; omega⟩
            | true =>
              have HE : Hid (overN c.r0 (c.r0.L k) fr to (k + 1) = overN c.r0 (c.r0.L k) fr to k ++ [c.r0.N k]) := by show _ = _; rw [overN, if_pos]; unfold overB; simp [q2, q3]
              have hwz : W1.heap.size ≤ (wr.alloc (.cells #[.int .i64 (c.r0.N k), .int .i64 (c.r0.L k), .string (c.r0.F k), .string (c.r0.Z k), .int .i64 (c.r0.C k)] 62)).heap.size := HC2.out.size
              have hown2 := Own.alloc hown (.cells #[.int .i64 (c.r0.N k)] 2)
              have hb2 := below_one (wr.alloc (.cells #[.int .i64 (c.r0.N k), .int .i64 (c.r0.L k), .string (c.r0.F k), .string (c.r0.Z k), .int .i64 (c.r0.C k)] 62)) (.cells #[.int .i64 (c.r0.N k)] 2)
              have HC3 := hide (HC2.out.trans (hb2.mono hwz))
              have hwz2 := Nat.le_trans hwz hb2.size
              unfold sLe at q2 q3
              clear hown hb2 HC2 HO1 HC1
              go_wp2_with (first
                | (at_builtin; refine wpList_append_cell rfl _ _ 56 rfl 2 Try.underlying56 hi5 rfl (by decide) W1.heap.size _ (.int .i64 (c.r0.N k)) ((overN c.r0 (c.r0.L k) fr to k).map (Value.int .i64)) (by rfl) ⟨wr.heap.size + 1, 0, none⟩ (by rfl) ?c2 hown2 rfl hwz2 ?c1 ?_))
              case c1 => first | omega | (simp; omega)
              try (case c2 => simp)
              intro v' w6 hown' hb'
              have HO6 : Hid (OwnI w6 W1.heap.size v' (overN c.r0 (c.r0.L k) fr to (k + 1))) := by
                rw [HE.out]
                show Own _ _ _ _ _
                rw [List.map_append]
                exact hown'
              have HC6 := hide (HC3.out.trans hb')
              clear hown2 hown' hb' HC3 HE
              go_wp2
              exact ⟨⟨k + 1, by go_num, by omega, HO6, HC6⟩, by simp [intOf]; omega⟩
        · skip
          have HE : Hid (overN c.r0 lv fr to (k + 1) = overN c.r0 lv fr to k) := by show _ = _; rw [overN, if_neg]; unfold overB; simp [q1]
          have HO2 := hide (HE.out.symm ▸ hown)
          clear hown HO1 HC1
          go_wp2
          exact ⟨⟨k + 1, by go_num, by omega, HO2, HC2⟩, by simp [intOf]; omega⟩
      · obtain rfl : k = c.n0 := by omega
        go_wp2
        go_ret
        exact ⟨⟨_, rfl, by rw [HL.out]; exact HO1.out.base HBb.out.size⟩, HW1.out⟩

end Go.Proofs.Ytplemoedpdammaa
