/- Overlapping, of the program and of the model. (By gen_over.py.) -/
import Derived.Test.YtplemoedpdammaaVersS
import Derived.Test.YtplemoedpdammaaPickL
import Derived.Test.YtplemoedpdammaaDrawQ
import Derived.Test.YtplemoedpdammaaVerO
import Derived.Test.YtplemoedpdammaaReg
import Derived.Test.YtplemoedpdammaaNth
import Derived.Test.YtplemoedpdammaaBox
import Derived.Test.YtplemoedpdammaaVerP
namespace Go.Proofs.Ytplemoedpdammaa
set_option maxRecDepth 100000
open Go.RowKit Go.Deep

theorem OwnI.base {w : World} {B B' : Nat} {v : Value} {l : List Int} (h : OwnI w B v l) (hB : B' ≤ B) : OwnI w B' v l := by
  refine ⟨h.1, ?_⟩
  rcases h.2 with hn | ⟨g, cap, cur, hv, hg, r⟩
  · exact .inl hn
  · exact .inr ⟨g, cap, cur, hv, Nat.le_trans hB hg, r⟩

theorem sLe_not (x y : ByteArray) : sLe x y = !(Op.bytesLess y.toList x.toList) := by
  unfold sLe
  cases h : Op.bytesLess x.toList y.toList with
  | true => rw [less_asymm _ _ h]; rfl
  | false =>
    cases k : Op.bytesLess y.toList x.toList with
    | true =>
      have : ¬ x.toList = y.toList := fun e => by rw [e, bytesLess_irrefl] at k; cases k
      simp [this]
    | false => rw [less_tri _ _ h k]; simp

/-- File i is of this level and has users between the bounds. -/
def overB (O : Metas) (lv : Int) (fr tq : ByteArray) (i : Nat) : Bool := decide (O.L i = lv) && sLe (O.F i) tq && sLe fr (O.Z i)
/-- The numbers of those among the first k files. -/
def overN (O : Metas) (lv : Int) (fr tq : ByteArray) : Nat → List Int
  | 0 => []
  | k + 1 => if overB O lv fr tq k then overN O lv fr tq k ++ [O.N k] else overN O lv fr tq k
theorem overN_len (O : Metas) (lv : Int) (fr tq : ByteArray) : ∀ k, (overN O lv fr tq k).length ≤ k
  | 0 => Nat.le_refl _
  | k + 1 => by
    have := overN_len O lv fr tq k
    unfold overN
    split
    · simp; omega
    · omega
def overL (c : VersionC) (lv : Int) (fr tq : ByteArray) : List Int := if versB c then overN c.r0 lv fr tq c.n0 else []

theorem overL_len {c : VersionC} {lv : Int} {fr tq : ByteArray} (hf : c.Fit) : (overL c lv fr tq).length ≤ 1048576 := by
  unfold overL
  split
  · exact Nat.le_trans (overN_len _ _ _ _ _) hf
  · simp

set_option linter.unusedVariables false in
set_option maxHeartbeats 4000000 in
theorem impl_Overlapping (v : Value) (c : VersionC) (lv : Int) (fr tq : ByteArray) (w : World) (hf : c.Fit) (hv : VersionIs w v c) :
    Calls Try.prog 30 #[v, .int .i64 lv, .string fr, .string tq] w fun e w' => (∃ u, e = .returned u ∧ OwnI w' w.heap.size u (overL c lv fr tq)) ∧ Below w.heap.size w w' := by
  have hi5 : (Try.prog.info? 2).map (fun i => (i.zero, i.size, i.bytes)) = some (some (.int .i64 0), 1, 8) := by kernel_rfl
  have hvn := hv
  obtain ⟨a0, p0, rfl, hS⟩ := hv
  have hl : c.n0 ≤ 1048576 := hf
  have hb0 := below_one w (.cells #[.slice a0 c.n0 p0, .int .i64 c.x1, .int .i64 c.x2, .int .i64 c.x3] 46)
  have HBb := hide hb0
  have HK := (BoxIs.new w #[.slice a0 c.n0 p0, .int .i64 c.x1, .int .i64 c.x2, .int .i64 c.x3] 46 rfl).hid
  have HV0 := (hvn.next hb0).hid
  have HS := hS.hid
  have hgz : w.heap.size < (w.alloc (.cells #[.slice a0 c.n0 p0, .int .i64 c.x1, .int .i64 c.x2, .int .i64 c.x3] 46)).heap.size := HK.out.lt
  clear hS hvn hb0
  go_enter Try.func30, Try.ntmps30
  go_wp2_with fail
  generalize hW : (w.alloc (.cells #[.slice a0 c.n0 p0, .int .i64 c.x1, .int .i64 c.x2, .int .i64 c.x3] 46)) = W1 at HBb HK HV0 hgz ⊢
  clear hW
  have HO : Hid (OwnI W1 W1.heap.size (.slice none 0 0) (overN c.r0 lv fr tq 0)) := OwnI.nil _ _
  have HC : Hid (Below W1.heap.size W1 W1) := Below.refl _ _
  have hz1 : W1.heap.size ≤ W1.heap.size := Nat.le_refl _
  obtain ⟨o0, ho0⟩ : ∃ x : Value, x = .slice none 0 0 := ⟨_, rfl⟩
  rw [← ho0] at HO
  refine (impl_VersionOk _ c W1 hf HV0.out).mono ?_
  rintro e w2 ⟨rfl, hb2⟩
  have HO := hide (HO.out.next hb2)
  have HC := hide (HC.out.trans hb2)
  clear hb2
  cases hok : versB c with
  | false =>
    have HL : Hid (overL c lv fr tq = []) := by unfold Hid overL; rw [hok]; rfl
    clear hok
    go_wp2
    go_ret
    exact ⟨⟨_, rfl, by rw [HL.out]; exact OwnI.nil _ _⟩, HBb.out.trans (HC.out.mono HBb.out.size)⟩
  | true =>
    have HL : Hid (overL c lv fr tq = overN c.r0 lv fr tq c.n0) := by unfold Hid overL; rw [hok]; rfl
    have hn30 := (versB_out hok).1.1
    clear hok
    have k0 : w2.cell? ⟨w.heap.size, 0, none⟩ = some (.slice a0 c.n0 p0) := (HK.out.next HC.out).cell 0
    go_wp2
    clear k0
    go_loopw [9, 18] (fun u i wr => ∃ k : Nat, i = .int .i64 k ∧ k ≤ c.n0 ∧ Hid (OwnI wr W1.heap.size u (overN c.r0 lv fr tq k)) ∧ Hid (Below W1.heap.size W1 wr)) (fun _ i _ => c.n0 - (intOf i).toNat)
    case atStart => exact ⟨0, rfl, by omega, by subst ho0; exact HO, HC⟩
    case round =>
      obtain ⟨k, rfl, hk, HO1, HC1⟩ := hrel
      clear HO HC
      have k0 : wr.cell? ⟨w.heap.size, 0, none⟩ = some (.slice a0 c.n0 p0) := (HK.out.next HC1.out).cell 0
      have HW1 := hide (HBb.out.trans (HC1.out.mono HBb.out.size))
      by_cases hlt : k < c.n0
      · obtain ⟨b, off, rfl, hb, c0, c1, c2, c3, c4⟩ := (HS.out.below HW1.out).at hlt
        have hlti : (k : Int) < (c.n0 : Int) := by omega
        have hbb := below_one wr (.cells #[.int .i64 (c.r0.N k), .int .i64 (c.r0.L k), .string (c.r0.F k), .string (c.r0.Z k), .int .i64 (c.r0.C k)] 62)
        have hown := HO1.out.next hbb
        have HC2 := hide (HC1.out.trans (hbb.mono HC1.out.size))
        have hul := overN_len c.r0 lv fr tq k
        clear hbb
        by_cases q1 : c.r0.L k = lv
        · obtain rfl : lv = c.r0.L k := q1.symm
          cases q2 : sLe (c.r0.F k) tq with
          | false =>
            have HE : Hid (overN c.r0 (c.r0.L k) fr tq (k + 1) = overN c.r0 (c.r0.L k) fr tq k) := by show _ = _; rw [overN, if_neg]; unfold overB; simp [q2]
            have HO2 := hide (HE.out.symm ▸ hown)
            unfold sLe at q2
            clear hown HO1 HC1
            go_wp2
            exact ⟨⟨k + 1, by go_num, by omega, HO2, HC2⟩, by simp [intOf]; omega⟩
          | true =>
            cases q3 : Op.bytesLess (c.r0.Z k).toList fr.toList with
            | true =>
              have q3b : sLe fr (c.r0.Z k) = false := by rw [sLe_not, q3]; rfl
              have HE : Hid (overN c.r0 (c.r0.L k) fr tq (k + 1) = overN c.r0 (c.r0.L k) fr tq k) := by show _ = _; rw [overN, if_neg]; unfold overB; simp [q3b]
              have HO2 := hide (HE.out.symm ▸ hown)
              unfold sLe at q2
              clear q3b
              clear hown HO1 HC1
              go_wp2
              exact ⟨⟨k + 1, by go_num, by omega, HO2, HC2⟩, by simp [intOf]; omega⟩
            | false =>
              have q3b : sLe fr (c.r0.Z k) = true := by rw [sLe_not, q3]; rfl
              have HE : Hid (overN c.r0 (c.r0.L k) fr tq (k + 1) = overN c.r0 (c.r0.L k) fr tq k ++ [c.r0.N k]) := by show _ = _; rw [overN, if_pos]; unfold overB; simp [q2, q3b]
              have hwz : W1.heap.size ≤ (wr.alloc (.cells #[.int .i64 (c.r0.N k), .int .i64 (c.r0.L k), .string (c.r0.F k), .string (c.r0.Z k), .int .i64 (c.r0.C k)] 62)).heap.size := HC2.out.size
              have hown2 := Own.alloc hown (.cells #[.int .i64 (c.r0.N k)] 2)
              have hb2 := below_one (wr.alloc (.cells #[.int .i64 (c.r0.N k), .int .i64 (c.r0.L k), .string (c.r0.F k), .string (c.r0.Z k), .int .i64 (c.r0.C k)] 62)) (.cells #[.int .i64 (c.r0.N k)] 2)
              have HC3 := hide (HC2.out.trans (hb2.mono hwz))
              have hwz2 := Nat.le_trans hwz hb2.size
              unfold sLe at q2
              clear q3b
              clear hown hb2 HC2 HO1 HC1
              go_wp2_with (first
                | (at_builtin; refine wpList_append_cell rfl _ _ 56 rfl 2 Try.underlying56 hi5 rfl (by decide) W1.heap.size _ (.int .i64 (c.r0.N k)) ((overN c.r0 (c.r0.L k) fr tq k).map (Value.int .i64)) (by rfl) ⟨wr.heap.size + 1, 0, none⟩ (by rfl) ?c2 hown2 rfl hwz2 ?c1 ?_))
              case c1 => first | omega | (simp; omega)
              try (case c2 => simp)
              intro v' w6 hown' hb'
              have HO6 : Hid (OwnI w6 W1.heap.size v' (overN c.r0 (c.r0.L k) fr tq (k + 1))) := by
                rw [HE.out]
                show Own _ _ _ _ _
                rw [List.map_append]
                exact hown'
              have HC6 := hide (HC3.out.trans hb')
              clear hown2 hown' hb' HC3 HE
              go_wp2
              exact ⟨⟨k + 1, by go_num, by omega, HO6, HC6⟩, by simp [intOf]; omega⟩
        · skip
          have HE : Hid (overN c.r0 lv fr tq (k + 1) = overN c.r0 lv fr tq k) := by show _ = _; rw [overN, if_neg]; unfold overB; simp [q1]
          have HO2 := hide (HE.out.symm ▸ hown)
          clear hown HO1 HC1
          go_wp2
          exact ⟨⟨k + 1, by go_num, by omega, HO2, HC2⟩, by simp [intOf]; omega⟩
      · obtain rfl : k = c.n0 := by omega
        go_wp2
        go_ret
        exact ⟨⟨_, rfl, by rw [HL.out]; exact HO1.out.base HBb.out.size⟩, HW1.out⟩

set_option linter.unusedVariables false in
set_option maxHeartbeats 4000000 in
theorem spec_Overlapping (v : Value) (c : VersionC) (lv : Int) (fr tq : ByteArray) (w : World) (hf : c.Fit) (hv : VersionIs w v c) :
    Calls Try.prog 32 #[v, .int .i64 lv, .string fr, .string tq] w fun e w' => (∃ u, e = .returned u ∧ OwnI w' w.heap.size u (overL c lv fr tq)) ∧ Below w.heap.size w w' := by
  have hi5 : (Try.prog.info? 2).map (fun i => (i.zero, i.size, i.bytes)) = some (some (.int .i64 0), 1, 8) := by kernel_rfl
  have hvn := hv
  obtain ⟨a0, p0, rfl, hS⟩ := hv
  have hl : c.n0 ≤ 1048576 := hf
  have hb0 := below_one w (.cells #[.slice a0 c.n0 p0, .int .i64 c.x1, .int .i64 c.x2, .int .i64 c.x3] 46)
  have HBb := hide hb0
  have HK := (BoxIs.new w #[.slice a0 c.n0 p0, .int .i64 c.x1, .int .i64 c.x2, .int .i64 c.x3] 46 rfl).hid
  have HV0 := (hvn.next hb0).hid
  have HS := hS.hid
  have hgz : w.heap.size < (w.alloc (.cells #[.slice a0 c.n0 p0, .int .i64 c.x1, .int .i64 c.x2, .int .i64 c.x3] 46)).heap.size := HK.out.lt
  clear hS hvn hb0
  go_enter Try.func32, Try.ntmps32
  go_wp2_with fail
  generalize hW : (w.alloc (.cells #[.slice a0 c.n0 p0, .int .i64 c.x1, .int .i64 c.x2, .int .i64 c.x3] 46)) = W1 at HBb HK HV0 hgz ⊢
  have hsz : w.heap.size + 1 = W1.heap.size := by rw [← hW]; simp
  simp only [hsz]
  clear hW hsz
  have hbx := below_one W1 (.cells #[] 2)
  have HO : Hid (OwnI (W1.alloc (.cells #[] 2)) W1.heap.size (.slice (some ⟨W1.heap.size, 0, none⟩) 0 0) (overN c.r0 lv fr tq 0)) := Own.lit W1 W1.heap.size 2 [] 0 rfl (Nat.le_refl _) (by decide)
  have HC := hide hbx
  have HVx := (HV0.out.next hbx).hid
  clear hbx
  generalize hX : W1.alloc (.cells #[] 2) = X1 at HO HC HVx ⊢
  clear hX
  refine (spec_VersionOk _ c X1 hf HVx.out).mono ?_
  rintro e w2 ⟨rfl, hb2⟩
  have HO := hide (HO.out.next hb2)
  have HC := hide (HC.out.trans (hb2.mono HC.out.size))
  clear hb2
  cases hok : versB c with
  | false =>
    have HL : Hid (overL c lv fr tq = []) := by unfold Hid overL; rw [hok]; rfl
    clear hok
    go_wp2
    go_ret
    exact ⟨⟨_, rfl, by rw [HL.out]; exact HO.out.base HBb.out.size⟩, HBb.out.trans (HC.out.mono HBb.out.size)⟩
  | true =>
    have HL : Hid (overL c lv fr tq = overN c.r0 lv fr tq c.n0) := by unfold Hid overL; rw [hok]; rfl
    have hn30 := (versB_out hok).1.1
    clear hok
    have k0 : w2.cell? ⟨w.heap.size, 0, none⟩ = some (.slice a0 c.n0 p0) := (HK.out.next HC.out).cell 0
    go_wp2
    clear k0
    go_loopw [9, 10] (fun u i wr => ∃ k : Nat, i = .int .i64 k ∧ k ≤ c.n0 ∧ Hid (OwnI wr W1.heap.size u (overN c.r0 lv fr tq k)) ∧ Hid (Below W1.heap.size W1 wr)) (fun _ i _ => c.n0 - (intOf i).toNat)
    case atStart => exact ⟨0, rfl, by omega, HO, HC⟩
    case round =>
      obtain ⟨k, rfl, hk, HO1, HC1⟩ := hrel
      clear HO HC
      have k0 : wr.cell? ⟨w.heap.size, 0, none⟩ = some (.slice a0 c.n0 p0) := (HK.out.next HC1.out).cell 0
      have HW1 := hide (HBb.out.trans (HC1.out.mono HBb.out.size))
      by_cases hlt : k < c.n0
      · obtain ⟨b, off, rfl, hb, c0, c1, c2, c3, c4⟩ := (HS.out.below HW1.out).at hlt
        have hlti : (k : Int) < (c.n0 : Int) := by omega
        have hbb := below_one wr (.cells #[.int .i64 (c.r0.N k), .int .i64 (c.r0.L k), .string (c.r0.F k), .string (c.r0.Z k), .int .i64 (c.r0.C k)] 62)
        have hown := HO1.out.next hbb
        have HC2 := hide (HC1.out.trans (hbb.mono HC1.out.size))
        have hul := overN_len c.r0 lv fr tq k
        clear hbb
        by_cases q1 : c.r0.L k = lv
        · obtain rfl : lv = c.r0.L k := q1.symm
          cases q2 : sLe (c.r0.F k) tq with
          | false =>
            have HE : Hid (overN c.r0 (c.r0.L k) fr tq (k + 1) = overN c.r0 (c.r0.L k) fr tq k) := by show _ = _; rw [overN, if_neg]; unfold overB; simp [q2]
            have HO2 := hide (HE.out.symm ▸ hown)
            unfold sLe at q2
            clear hown HO1 HC1
            go_wp2
            exact ⟨⟨k + 1, by go_num, by omega, HO2, HC2⟩, by simp [intOf]; omega⟩
          | true =>
            cases q3 : sLe fr (c.r0.Z k) with
            | false =>
              have HE : Hid (overN c.r0 (c.r0.L k) fr tq (k + 1) = overN c.r0 (c.r0.L k) fr tq k) := by show _ = _; rw [overN, if_neg]; unfold overB; simp [q3]
              have HO2 := hide (HE.out.symm ▸ hown)
              unfold sLe at q2 q3
              clear hown HO1 HC1
              go_wp2
              exact ⟨⟨k + 1, by go_num, by omega, HO2, HC2⟩, by simp [intOf]; omega⟩
            | true =>
              have HE : Hid (overN c.r0 (c.r0.L k) fr tq (k + 1) = overN c.r0 (c.r0.L k) fr tq k ++ [c.r0.N k]) := by show _ = _; rw [overN, if_pos]; unfold overB; simp [q2, q3]
              have hwz : W1.heap.size ≤ (wr.alloc (.cells #[.int .i64 (c.r0.N k), .int .i64 (c.r0.L k), .string (c.r0.F k), .string (c.r0.Z k), .int .i64 (c.r0.C k)] 62)).heap.size := HC2.out.size
              have hown2 := Own.alloc hown (.cells #[.int .i64 (c.r0.N k)] 2)
              have hb2 := below_one (wr.alloc (.cells #[.int .i64 (c.r0.N k), .int .i64 (c.r0.L k), .string (c.r0.F k), .string (c.r0.Z k), .int .i64 (c.r0.C k)] 62)) (.cells #[.int .i64 (c.r0.N k)] 2)
              have HC3 := hide (HC2.out.trans (hb2.mono hwz))
              have hwz2 := Nat.le_trans hwz hb2.size
              unfold sLe at q2 q3
              clear hown hb2 HC2 HO1 HC1
              go_wp2_with (first
                | (at_builtin; refine wpList_append_cell rfl _ _ 56 rfl 2 Try.underlying56 hi5 rfl (by decide) W1.heap.size _ (.int .i64 (c.r0.N k)) ((overN c.r0 (c.r0.L k) fr tq k).map (Value.int .i64)) (by rfl) ⟨wr.heap.size + 1, 0, none⟩ (by rfl) ?c2 hown2 rfl hwz2 ?c1 ?_))
              case c1 => first | omega | (simp; omega)
              try (case c2 => simp)
              intro v' w6 hown' hb'
              have HO6 : Hid (OwnI w6 W1.heap.size v' (overN c.r0 (c.r0.L k) fr tq (k + 1))) := by
                rw [HE.out]
                show Own _ _ _ _ _
                rw [List.map_append]
                exact hown'
              have HC6 := hide (HC3.out.trans hb')
              clear hown2 hown' hb' HC3 HE
              go_wp2
              exact ⟨⟨k + 1, by go_num, by omega, HO6, HC6⟩, by simp [intOf]; omega⟩
        · skip
          have HE : Hid (overN c.r0 lv fr tq (k + 1) = overN c.r0 lv fr tq k) := by show _ = _; rw [overN, if_neg]; unfold overB; simp [q1]
          have HO2 := hide (HE.out.symm ▸ hown)
          clear hown HO1 HC1
          go_wp2
          exact ⟨⟨k + 1, by go_num, by omega, HO2, HC2⟩, by simp [intOf]; omega⟩
      · obtain rfl : k = c.n0 := by omega
        go_wp2
        go_ret
        exact ⟨⟨_, rfl, by rw [HL.out]; exact HO1.out.base HBb.out.size⟩, HW1.out⟩

end Go.Proofs.Ytplemoedpdammaa

/- What is picked has a table; of a level but the first at most one table has a user. No walk. -/
namespace Go.Proofs.Ytplemoedpdammaa
set_option maxRecDepth 100000
open Go.RowKit

theorem cntF_ex {O : Metas} {lv : Int} : ∀ {k : Nat}, 0 < cntF O lv k → ∃ i, i < k ∧ O.L i = lv
  | 0, h => by simp [cntF] at h
  | k + 1, h => by
    by_cases h1 : O.L k = lv
    · exact ⟨k, by omega, h1⟩
    · rw [cntF_miss h1] at h
      obtain ⟨i, hi, e⟩ := cntF_ex h
      exact ⟨i, by omega, e⟩
theorem sumC_ex {O : Metas} {lv : Int} : ∀ {k : Nat}, 0 < sumC O lv k → ∃ i, i < k ∧ O.L i = lv
  | 0, h => by simp [sumC] at h
  | k + 1, h => by
    by_cases h1 : O.L k = lv
    · exact ⟨k, by omega, h1⟩
    · rw [sumC_miss h1] at h
      obtain ⟨i, hi, e⟩ := sumC_ex h
      exact ⟨i, by omega, e⟩
/-- A level that is picked has a table. -/
theorem pick_has {c : VersionC} (h : pickB c = true) : ∃ i, i < c.n0 ∧ c.r0.L i = pickV c := by
  unfold pickB at h
  rw [Bool.and_eq_true] at h
  obtain ⟨hv, h⟩ := h
  unfold pickV
  rw [if_pos hv]
  by_cases h1 : 4 ≤ cntF c.r0 0 c.n0
  · rw [if_pos h1]
    exact cntF_ex (by omega)
  · rw [if_neg h1]
    by_cases h2 : 20 < sumC c.r0 1 c.n0
    · rw [if_pos h2]
      exact sumC_ex (by omega)
    · rw [if_neg h2]
      by_cases h3 : 200 < sumC c.r0 2 c.n0
      · rw [if_pos h3]
        exact sumC_ex (by omega)
      · simp [h1, h2, h3] at h

theorem sLt_le {x y : ByteArray} : sLe x y = true ↔ sLt y x = false := by
  rw [sLe_not]; unfold sLt
  cases Op.bytesLess y.toList x.toList <;> simp
theorem sLt_trans {x y z : ByteArray} (h : sLt x y = true) (k : sLt y z = true) : sLt x z = true := less_trans _ _ _ h k
theorem sLt_le_lt {x y z : ByteArray} (h : sLt x y = true) (k : sLe y z = true) : sLt x z = true := by
  unfold sLe at k
  rw [Bool.or_eq_true] at k
  rcases k with k | k
  · exact sLt_trans h k
  · have e : y.toList = z.toList := by simpa using k
    unfold sLt at h ⊢
    rw [← e]; exact h
theorem sLe_trans {x y z : ByteArray} (h : sLe x y = true) (k : sLe y z = true) : sLe x z = true := by
  unfold sLe at h
  rw [Bool.or_eq_true] at h
  rcases h with h | h
  · have := sLt_le_lt (x := x) (y := y) (z := z) h k
    unfold sLe; unfold sLt at this; rw [this]; rfl
  · have e : x.toList = y.toList := by simpa using h
    unfold sLe at k ⊢
    rw [e]; exact k

/-- Two files of a right version: the former's level is lower, or it is the same one, and not the first, and all of the former lies ahead. -/
theorem chain_far {O : Metas} {nx : Int} {n : Nat} (h : ∀ i, i < n → stepB O nx i = true) {i : Nat} : ∀ (t : Nat), i + t + 1 < n → O.L i < O.L (i + t + 1) ∨ (O.L i = O.L (i + t + 1) ∧ (0 < O.L i → sLt (O.Z i) (O.F (i + t + 1)) = true))
  | 0, hj => by
    have h1 := h (i + 1) hj
    unfold stepB at h1
    simp only [Bool.and_eq_true, Bool.or_eq_true] at h1
    have h2 := h1.2
    rcases h2 with h2 | h2
    · simp at h2
    · simp only [Nat.add_sub_cancel] at h2
      unfold aheadB at h2
      by_cases e : O.L i = O.L (i + 1)
      · rw [if_pos e] at h2
        refine .inr ⟨e, fun hp => ?_⟩
        rw [if_neg (by omega)] at h2
        exact h2
      · rw [if_neg e] at h2
        exact .inl (of_decide_eq_true h2)
  | t + 1, hj => by
    have h0 := chain_far h (i := i) t (by omega)
    have h1 := chain_far h (i := i + t + 1) 0 (by omega)
    have hm := stepB_file (h (i + t + 1) (by omega))
    have hz : sLe (O.F (i + t + 1)) (O.Z (i + t + 1)) = true := by
      unfold fileB at hm
      simp only [Bool.and_eq_true] at hm
      exact hm.1.1.2
    have e : i + (t + 1) + 1 = i + t + 1 + 0 + 1 := by omega
    rw [e]
    rcases h0 with h0 | ⟨h0, k0⟩
    · rcases h1 with h1 | ⟨h1, k1⟩
      · exact .inl (by omega)
      · exact .inl (by omega)
    · rcases h1 with h1 | ⟨h1, k1⟩
      · exact .inl (by omega)
      · refine .inr ⟨by omega, fun hp => ?_⟩
        exact sLt_trans (sLt_le_lt (k0 hp) hz) (k1 (by omega))
theorem over_two {O : Metas} {nx : Int} {n : Nat} (h : ∀ i, i < n → stepB O nx i = true) {lv : Int} {tq : ByteArray} (hlv : lv ≠ 0) {i j : Nat} (hi : i < j) (hj : j < n) (oi : overB O lv tq tq i = true) (oj : overB O lv tq tq j = true) : False := by
  unfold overB at oi oj
  simp only [Bool.and_eq_true, decide_eq_true_eq] at oi oj
  obtain ⟨⟨li, fi⟩, zi⟩ := oi
  obtain ⟨⟨lj, fj⟩, zj⟩ := oj
  obtain ⟨t, rfl⟩ : ∃ t, j = i + t + 1 := ⟨j - i - 1, by omega⟩
  have hl := fileB_level (stepB_file (h i (by omega)))
  rcases chain_far h t hj with h1 | ⟨h1, h2⟩
  · omega
  · have h3 := h2 (by omega)
    have h4 := sLt_le_lt h3 fj
    have h5 := sLt_le.1 zi
    rw [h4] at h5; cases h5
theorem over_one {O : Metas} {nx : Int} {n : Nat} (h : ∀ i, i < n → stepB O nx i = true) {lv : Int} {tq : ByteArray} (hlv : lv ≠ 0) : ∀ k, k ≤ n → (overN O lv tq tq k).length ≤ 1 ∧ ((overN O lv tq tq k).length = 1 → ∃ i, i < k ∧ overB O lv tq tq i = true)
  | 0, _ => ⟨by simp [overN], fun e => by simp [overN] at e⟩
  | k + 1, hk => by
    obtain ⟨h1, h2⟩ := over_one h hlv k (by omega)
    rw [overN]
    by_cases ho : overB O lv tq tq k = true
    · rw [if_pos ho]
      have h3 : (overN O lv tq tq k).length = 0 := by
        by_cases e : (overN O lv tq tq k).length = 1
        · obtain ⟨i, hi, oi⟩ := h2 e
          exact (over_two h hlv hi (by omega) oi ho).elim
        · omega
      exact ⟨by rw [List.length_append, h3]; exact Nat.le_refl 1, fun _ => ⟨k, by omega, ho⟩⟩
    · rw [if_neg ho]
      exact ⟨h1, fun e => by obtain ⟨i, hi, oi⟩ := h2 e; exact ⟨i, by omega, oi⟩⟩
theorem over_more {O : Metas} {lv : Int} {fr tq : ByteArray} (hft : sLe fr tq = true) : ∀ k, (overN O lv tq tq k).length ≤ (overN O lv fr tq k).length
  | 0 => Nat.le_refl _
  | k + 1 => by
    have h1 := over_more hft k (O := O) (lv := lv)
    rw [overN, overN]
    by_cases ho : overB O lv tq tq k = true
    · have ho2 : overB O lv fr tq k = true := by
        unfold overB at ho ⊢
        simp only [Bool.and_eq_true] at ho ⊢
        exact ⟨ho.1, sLe_trans hft ho.2⟩
      rw [if_pos ho, if_pos ho2]
      simp; omega
    · rw [if_neg ho]
      split
      · simp; omega
      · exact h1
/-- What the law on Overlapping tells. -/
theorem over_law (c : VersionC) (lv : Int) (fr tq : ByteArray) : (lv = 0 ∨ (overL c lv tq tq).length ≤ 1) ∧ (sLt tq fr = true ∨ (overL c lv tq tq).length ≤ (overL c lv fr tq).length) := by
  constructor
  · by_cases h0 : lv = 0
    · exact .inl h0
    · refine .inr ?_
      unfold overL
      split
      · next hv => exact (over_one (versB_out hv).2.1 h0 _ (Nat.le_refl _)).1
      · simp
  · by_cases h0 : sLt tq fr = true
    · exact .inl h0
    · refine .inr ?_
      have h1 : sLe fr tq = true := sLt_le.2 (by simpa using h0)
      unfold overL
      split
      · exact over_more h1 _
      · exact Nat.le_refl _

end Go.Proofs.Ytplemoedpdammaa

/- The laws FnPicked and FnOverlap, walked. -/
namespace Go.Proofs.Ytplemoedpdammaa
set_option maxRecDepth 100000
open Go.RowKit Go.Deep

/-- A version of one's own is this version. -/
theorem versionIs_own {w : World} {B : Nat} {a : Option Addr} {c : Nat} {l : List Meta1} {nx sq lg : Int} (h : OwnMeta w B (.slice a l.length c) l) : VersionIs w (.agg #[.slice a l.length c, .int .i64 nx, .int .i64 sq, .int .i64 lg]) (vc l nx sq lg) := by
  obtain ⟨a0, p0, hva, hM⟩ := h.arg
  simp only [Value.slice.injEq, true_and] at hva
  obtain ⟨rfl, rfl⟩ := hva
  exact ⟨a, c, rfl, hM⟩

theorem laws_sameIntsV (a b : Option Addr) (len ca cb : Nat) (S : Nat → Int) (w : World) (hl : len ≤ 1048576) (ha : IntAt w w.heap.size a len S) (hb : IntAt w w.heap.size b len S) :
    Calls Try.prog 31 #[.slice a len ca, .slice b len cb] w fun e w' => e = .returned (.bool true) ∧ Below w.heap.size w w' := by
  have HA := hide ha
  have HB := hide hb
  have HW0 := hide (Below.refl w.heap.size w)
  clear ha hb
  go_enter Try.func31, Try.ntmps31
  go_wp2
  go_loopw [5] (fun i wr => ∃ k : Nat, i = .int .i64 k ∧ k ≤ len ∧ Hid (Below w.heap.size w wr)) (fun i _ => len - (intOf i).toNat)
  case atStart => exact ⟨0, rfl, by omega, HW0⟩
  case round =>
    obtain ⟨k, rfl, hk, HW⟩ := hrel
    by_cases hlt : k < len
    · obtain ⟨g1, o1, rfl, _, c0⟩ := (HA.out.below HW.out).at hlt
      obtain ⟨g2, o2, rfl, _, d0⟩ := (HB.out.below HW.out).at hlt
      have hki : (k : Int) < (len : Int) := by omega
      go_wp2
      go_quiet (fail)
      go_wp2
      exact ⟨⟨k + 1, by go_num, by omega, below_drewN HW.out _⟩, by simp [intOf]; omega⟩
    · obtain rfl : k = len := by omega
      go_wp2
      go_ret
      exact ⟨rfl, HW.out⟩

set_option maxHeartbeats 4000000 in
theorem walk_FnPicked (v : Value) {w : World} (hv : IsBytes w v) (_w : World) :
    Calls Try.prog 7 #[v] w fun e w' => e = .returned (.bool true) ∧ Below w.heap.size w w' := by
  obtain ⟨a, len, cap, rfl, hc, hm⟩ := hv
  by_cases hbig : 1048576 < len
  · have hd : decide (1048576 < len) = true := by simp [hbig]
    go_enter Try.func7, Try.ntmps7
    go_wp2_with fail
    refine (laws_bigO a len cap hm _).mono ?_
    rintro e w1 ⟨rfl, rfl⟩
    go_wp2
    go_ret
    exact ⟨rfl, Below.refl _ _⟩
  · have hd : decide (1048576 < len) = false := by simp [hbig]
    have hl : len ≤ 1048576 := by omega
    go_enter Try.func7, Try.ntmps7
    go_wp2_with fail
    refine (laws_bigO a len cap hm _).mono ?_
    rintro e w1 ⟨rfl, rfl⟩
    go_wp2_with fail
    refine (draw_PickLevel w _ a len cap hc hl (Below.refl _ _)).mono ?_
    rintro e w1 ⟨a1, c1, l, nx, sq, lg, rfl, ho, hll, hb1⟩
    have hX := (BoxIs.new w1 #[.slice a1 l.length c1, .int .i64 nx, .int .i64 sq, .int .i64 lg] 46 rfl).hid
    have HB := hide (hb1.trans ((below_one w1 (.cells #[.slice a1 l.length c1, .int .i64 nx, .int .i64 sq, .int .i64 lg] 46)).mono hb1.size))
    have HO := (ho.next (below_one w1 (.cells #[.slice a1 l.length c1, .int .i64 nx, .int .i64 sq, .int .i64 lg] 46))).hid
    clear ho hb1 hd
    go_wp2_with fail
    generalize w1.alloc (.cells #[.slice a1 l.length c1, .int .i64 nx, .int .i64 sq, .int .i64 lg] 46) = W1 at hX HB HO ⊢
    generalize w1.heap.size = E at hX ⊢
    have y0 := hX.out.cell 0
    have y1 := hX.out.cell 1
    have y2 := hX.out.cell 2
    have y3 := hX.out.cell 3
    simp only [List.getElem?_toArray, List.getElem?_cons_succ, List.getElem?_cons_zero] at y0 y1 y2 y3
    have cI := impl_PickLevel (.agg #[.slice a1 l.length c1, .int .i64 nx, .int .i64 sq, .int .i64 lg]) (vc l nx sq lg) W1 (by show l.length ≤ 1048576; omega) (versionIs_own HO.out)
    have HP := hide (@pick_has (vc l nx sq lg))
    generalize hpv : pickV (vc l nx sq lg) = P at cI HP
    generalize hpb : pickB (vc l nx sq lg) = b at cI HP
    go_wp2_with fail
    refine cI.mono ?_
    rintro e w2 ⟨rfl, hb2⟩
    have cS := spec_PickLevel (.agg #[.slice a1 l.length c1, .int .i64 nx, .int .i64 sq, .int .i64 lg]) (vc l nx sq lg) w2 (by show l.length ≤ 1048576; omega) (versionIs_own (HO.out.next hb2))
    rw [hpv, hpb] at cS
    have hX2 := (hX.out.next hb2).hid
    have HB2 := hide (HB.out.trans (hb2.mono HB.out.size))
    have HO2 := (HO.out.next hb2).hid
    clear hX HB HO hb2 y0 y1 y2 y3 cI hpv hpb
    have y0 := hX2.out.cell 0
    have y1 := hX2.out.cell 1
    have y2 := hX2.out.cell 2
    have y3 := hX2.out.cell 3
    simp only [List.getElem?_toArray, List.getElem?_cons_succ, List.getElem?_cons_zero] at y0 y1 y2 y3
    go_wp2_with fail
    refine cS.mono ?_
    rintro e w3 ⟨rfl, hb3⟩
    have hX3 := (hX2.out.next hb3).hid
    have HB3 := hide (HB2.out.trans (hb3.mono HB2.out.size))
    have HO3 := (HO2.out.next hb3).hid
    clear hX2 HB2 HO2 hb3 y0 y1 y2 y3 cS
    cases b with
    | false =>
      go_wp2
      go_ret
      exact ⟨rfl, HB3.out⟩
    | true =>
      obtain ⟨i0, hi0, hLi⟩ := HP.out rfl
      have HL := hide hLi
      have hi1 : i0 < l.length := hi0
      clear HP hLi hi0
      go_wp2
      go_loopg [8] l.length (fun k v wr => ∃ i : Nat, v = .int .i64 (i : Int) ∧ i + k = l.length ∧ i ≤ i0 ∧ wr = w3)
      case atStart => exact ⟨0, rfl, by omega, by omega, rfl⟩
      case round =>
        obtain ⟨i, rfl, hik, hi, rfl⟩ := hrel
        have y0 := hX3.out.cell 0
        simp only [List.getElem?_toArray, List.getElem?_cons_zero] at y0
        obtain ⟨a0, p0, hva, hM⟩ := HO3.out.arg
        simp only [Value.slice.injEq, true_and] at hva
        obtain ⟨rfl, rfl⟩ := hva
        have hil : i < l.length := by omega
        obtain ⟨b, off, rfl, hbl, c0, c1', c2, c3, c4⟩ := hM.at hil
        have hik' : (i : Int) < (l.length : Int) := by omega
        by_cases he : (fnMeta l).L i = P
        · rw [he] at c1'
          go_wp2
          go_ret
          exact ⟨rfl, HB3.out⟩
        · have hne : i ≠ i0 := fun e => he (by rw [e]; exact HL.out)
          have hw : IntKind.i64.wrap ((i : Int) + 1) = ((i + 1 : Nat) : Int) := by rw [IntKind.wrap_i64]; omega
          clear HL hM
          go_wp2
          go_roundg (gk - 1)
          case measure => omega
          case rel => exact ⟨i + 1, rfl, by omega, by omega, rfl⟩

end Go.Proofs.Ytplemoedpdammaa

/- What the law on the texts of versions draws: bytes. (By gen_drawr.py.) -/
namespace Go.Proofs.Ytplemoedpdammaa
set_option maxRecDepth 100000
open Go.RowKit Go.Deep

theorem sect_le (s : ByteArray) : (sect s).size ≤ s.size + 20 := by
  have h1 := putTextV_size s
  unfold sect
  rw [ByteArray.size_append, fx4_size]
  omega
theorem versT_le (l : List Meta1) (x y z : Int) : (versT (vc l x y z)).size ≤ 70000 := by
  cases h : versB (vc l x y z) with
  | true =>
    obtain ⟨h1, h2, _⟩ := ver_put h rfl
    have h3 := sect_le (vB (versT (vc l x y z)))
    rw [← h1] at h3
    omega
  | false => unfold versT; rw [h]; exact Nat.zero_le _

set_option linter.unusedVariables false in
set_option linter.unusedSimpArgs false in
set_option maxHeartbeats 4000000 in
theorem draw_ReadVersion (W w : World) (a : Option Addr) (len cap : Nat) (hc : IsCode W a len) (hl : len ≤ 1048576) (hb : Below W.heap.size W w) :
    Calls Try.prog 27 #[.slice a len cap] w fun e w' => (∃ s : ByteArray, e = .returned (.string s) ∧ s.size ≤ 1048576) ∧ Below w.heap.size w w' := by
  go_enter Try.func27, Try.ntmps27
  go_wp2_with fail
  refine (open_rdO w a len cap W hb).mono ?_
  rintro e w1 ⟨rfl, hr, hb1⟩
  have hgl := hr.lt
  go_wp2_with fail
  refine (rd_version W _ _ a len cap hc hl hr).mono ?_
  rintro e w2 ⟨a1, c1, l, nx, sq, lg, rfl, ho, hll, hn0, hn1, hs0, hs1, hr2, hm2⟩
  have hlow2 := hb1.trans (hm2.below hb1.size (Nat.le_refl _))
  have cT := spec_VersionText (.agg #[.slice a1 l.length c1, .int .i64 nx, .int .i64 sq, .int .i64 lg]) (vc l nx sq lg) w2 (by show l.length ≤ 1048576; omega) (versionIs_own ho)
  have hsz := versT_le l nx sq lg
  generalize versT (vc l nx sq lg) = s at cT hsz
  clear hr hb1 hm2
  go_wp2_with fail
  refine cT.mono ?_
  rintro e w3 ⟨rfl, hb3⟩
  have hr3 := hr2.mv hb3
  have hlow3 := hlow2.trans (hb3.mono hlow2.size)
  clear hr2 hlow2 hb3 ho cT
  go_wp2_with fail
  refine (rd_below W _ _ a len cap 6 (by omega) (by omega) hc hl hr3).mono ?_
  rintro e w4 ⟨x, rfl, hx0, hx1, hr4, hm4⟩
  have hlow4 := hlow3.trans (hm4.below hlow3.size (Nat.le_refl _))
  clear hr3 hlow3 hm4
  by_cases e0 : x = 0
  · subst e0
    go_wp2_with fail
    refine (rd_bytes W _ _ a len cap 2 (by omega) (by omega) hc hl hr4).mono ?_
    rintro e w5 ⟨u, rfl, hu, hr5, hm5⟩
    have HL := hide (hlow4.trans (hm5.below hlow4.size (Nat.le_refl _)))
    clear hr4 hr5 hlow4 hm5
    have hz : (s ++ u).size ≤ 1048576 := by rw [ByteArray.size_append]; omega
    go_wp2
    go_ret
    exact ⟨⟨_, rfl, hz⟩, HL.out⟩
  · have g0 : (x == 0) = false := by simpa using e0
    by_cases e1 : x = 1
    · subst e1
      by_cases hs00 : 0 < s.size
      · have hsi : (0 : Int) < (s.size : Int) := by omega
        go_wp2_with fail
        refine (rd_below W _ _ a len cap (s.size : Int) (by omega) (by omega) hc hl hr4).mono ?_
        rintro e w5 ⟨k, rfl, hk0, hk1, hr5, hm5⟩
        obtain ⟨k, rfl⟩ := Int.eq_ofNat_of_zero_le hk0
        have RD := hr5
        have LO := hlow4.trans (hm5.below hlow4.size (Nat.le_refl _))
        have hkl : k < s.size := by omega
        have hk2 : (k : Int) ≤ (s.size : Int) := by omega
        have hk3 : (k : Int) + 1 ≤ (s.size : Int) := by omega
        have hwk : IntKind.i64.wrap ((k : Int) + 1) = ((k + 1 : Nat) : Int) := by rw [IntKind.wrap_i64]; omega
        clear hr4 hlow4 hr5 hm5
        go_upto_region 9 with fail
        refine wp_region_noPanic ?_
        have hb0 : Below w5.heap.size w5 w5.drew := (Below.refl _ _).drew
        have RD_0 := RD.mv hb0
        have LO_0 := LO.trans (hb0.mono LO.size)
        refine wp_region_held_drew (S := fun _ => True) (by kernel_rfl) trivial (fun hSz => ?_)
        clear hSz LO RD
        generalize w5.drew = wq0 at hb0 RD_0 LO_0 ⊢
        clear hb0
        refine wpAnyH_take (i := 0) (v := .string s) nat0 (by kernel_rfl) (by kernel_rfl) (by kernel_rfl) (fun _ _ _ h => False.elim h) (Or.inl ⟨by rfl, ?_⟩) trivial ?_
        · intro wx hSw
          go_simp
        simp only [Act.put, List.setIfInBounds_toArray, List.set_cons_zero, List.set_cons_succ]
        refine wpAnyH_take (i := 1) (v := .int .i64 ((k : Int))) nat1 (by kernel_rfl) (by kernel_rfl) (by kernel_rfl) (fun _ _ _ h => False.elim h) (Or.inl ⟨by rfl, ?_⟩) trivial ?_
        · intro wx hSw
          go_simp
        simp only [Act.put, List.setIfInBounds_toArray, List.set_cons_zero, List.set_cons_succ]
        refine wpAnyH_take (i := 2) (v := .string (s.extract 0 k)) nat2 (by kernel_rfl) (by kernel_rfl) (by kernel_rfl) (fun _ _ _ h => False.elim h) (Or.inl ⟨by rfl, ?_⟩) trivial ?_
        · intro wx hSw
          go_simp
        simp only [Act.put, List.setIfInBounds_toArray, List.set_cons_zero, List.set_cons_succ]
        refine wpAnyH_take (i := 3) (v := .pointer (some ⟨w.heap.size, 0, none⟩)) nat3 (by kernel_rfl) (by kernel_rfl) (by kernel_rfl) (fun _ _ _ h => False.elim h) (Or.inl ⟨by rfl, ?_⟩) trivial ?_
        · intro wx hSw
          go_simp
        simp only [Act.put, List.setIfInBounds_toArray, List.set_cons_zero, List.set_cons_succ]
        refine wpAnyH_take (i := 6) (v := .string s) nat6 (by kernel_rfl) (by kernel_rfl) (by kernel_rfl) (fun _ _ _ h => False.elim h) (Or.inl ⟨by rfl, ?_⟩) trivial ?_
        · intro wx hSw
          go_simp
        simp only [Act.put, List.setIfInBounds_toArray, List.set_cons_zero, List.set_cons_succ]
        refine wpAnyH_take (i := 7) (v := .int .i64 ((k : Int))) nat7 (by kernel_rfl) (by kernel_rfl) (by kernel_rfl) (fun _ _ _ h => False.elim h) (Or.inl ⟨by rfl, ?_⟩) trivial ?_
        · intro wx hSw
          go_simp
        simp only [Act.put, List.setIfInBounds_toArray, List.set_cons_zero, List.set_cons_succ]
        refine wpAnyH_take (i := 8) (v := .int .i64 (((k + 1 : Nat) : Int))) nat8 (by kernel_rfl) (by kernel_rfl) (by kernel_rfl) (fun _ _ _ h => False.elim h) (Or.inl ⟨by rfl, ?_⟩) trivial ?_
        · intro wx hSw
          go_simp
        simp only [Act.put, List.setIfInBounds_toArray, List.set_cons_zero, List.set_cons_succ]
        refine wpAnyH_take (i := 9) (v := .string (s.extract (k + 1) s.size)) nat9 (by kernel_rfl) (by kernel_rfl) (by kernel_rfl) (fun _ _ _ h => False.elim h) (Or.inl ⟨by rfl, ?_⟩) trivial ?_
        · intro wx hSw
          go_simp
          intro hh
          omega
        simp only [Act.put, List.setIfInBounds_toArray, List.set_cons_zero, List.set_cons_succ]
        refine wpAnyH_ready (rs := [4]) (by kernel_rfl) (by simp) ?_
        refine AllReadyH.cons nat4 (fun K hK => ?_) AllReadyH.nil
        go_simp
        go_at_call 64
        refine (rd_bytes W _ _ a len cap 1 (by omega) (by omega) hc hl RD_0).mono ?_
        rintro e wq1 ⟨u1, rfl, hu1, hr1, hb1⟩
        have hz1 : (s.extract 0 k ++ u1 ++ s.extract (k + 1) s.size).size ≤ 1048576 := by simp only [ByteArray.size_append, ByteArray.size_extract]; omega
        have hy1 : (s.extract 0 k).size + u1.size ≤ 1048576 := by simp only [ByteArray.size_extract]; omega
        have hx1 : (s.extract 0 k).size + u1.size + (s.extract (k + 1) s.size).size ≤ 1048576 := by simp only [ByteArray.size_extract]; omega
        have RD_1 := hr1
        have LO_1 := LO_0.trans (hb1.below LO_0.size (Nat.le_refl _))
        refine hK.out _ _ trivial (fun hSz => ?_)
        clear hK K hSz LO_0 RD_0 hb1
        refine wpAnyH_take (i := 5) (v := .string (s.extract 0 k ++ u1)) nat5 (by kernel_rfl) (by kernel_rfl) (by kernel_rfl) (fun _ _ _ h => False.elim h) (Or.inl ⟨by rfl, ?_⟩) trivial ?_
        · intro wx hSw
          go_simp
          omega
        simp only [Act.put, List.setIfInBounds_toArray, List.set_cons_zero, List.set_cons_succ]
        refine wpAnyH_take (i := 10) (v := .string (s.extract 0 k ++ u1 ++ s.extract (k + 1) s.size)) nat10 (by kernel_rfl) (by kernel_rfl) (by kernel_rfl) (fun _ _ _ h => False.elim h) (Or.inl ⟨by rfl, ?_⟩) trivial ?_
        · intro wx hSw
          go_simp
          omega
        simp only [Act.put, List.setIfInBounds_toArray, List.set_cons_zero, List.set_cons_succ]
        refine wpAnyH_take (i := 11) (v := .string (s.extract 0 k ++ u1 ++ s.extract (k + 1) s.size)) nat11 (by kernel_rfl) (by kernel_rfl) (by kernel_rfl) (fun _ _ _ h => False.elim h) (Or.inl ⟨by rfl, ?_⟩) trivial ?_
        · intro wx hSw
          go_simp
        simp only [Act.put, List.setIfInBounds_toArray, List.set_cons_zero, List.set_cons_succ]
        refine wpAnyH_done (by kernel_rfl) ?_ _
        refine NoPanic.normal ?_
        go_wp2
        go_ret
        exact ⟨⟨_, rfl, hz1⟩, LO_1⟩
      · have hsi : ¬ ((0 : Int) < (s.size : Int)) := by omega
        have HL := hide hlow4
        clear hr4 hlow4
        go_wp2
        go_ret
        exact ⟨⟨_, rfl, by omega⟩, HL.out⟩
    · have g1 : (x == 1) = false := by simpa using e1
      by_cases e2 : x = 2
      · subst e2
        go_wp2_with fail
        refine (rd_bytes W _ _ a len cap 9 (by omega) (by omega) hc hl hr4).mono ?_
        rintro e w5 ⟨u, rfl, hu, hr5, hm5⟩
        have LO := hlow4.trans (hm5.below hlow4.size (Nat.le_refl _))
        have hsl := sect_le u
        clear hr4 hr5 hlow4 hm5
        go_wp2_with fail
        refine (spec_section u (by omega) w5).mono ?_
        rintro e w6 ⟨rfl, hb6⟩
        have HL := hide (LO.trans (hb6.mono LO.size))
        clear LO hb6
        go_wp2
        go_ret
        exact ⟨⟨_, rfl, by omega⟩, HL.out⟩
      · have g2 : (x == 2) = false := by simpa using e2
        have HL := hide hlow4
        clear hr4 hlow4
        go_wp2
        go_ret
        exact ⟨⟨_, rfl, by omega⟩, HL.out⟩

end Go.Proofs.Ytplemoedpdammaa

/- ReadVersion of the program. (By gen_readv.py.) -/
namespace Go.Proofs.Ytplemoedpdammaa
set_option maxRecDepth 100000
open Go.RowKit Go.Deep

theorem rdr_number_szV (r : ByteArray) : (rnum r).2.1.size ≤ r.size := (rnum_bd r).1
theorem rdr_text_szV (r : ByteArray) : (rtext r).2.1.size ≤ r.size := (rtext_bd r).1
/-- While files are read: the reader in block gr, the version in block F, its row from block F + 1 on, the answer's box as it was laid. -/
structure RvS (w : World) (gr F : Nat) (x1 x2 x3 : Int) (v vo : Value) (ms : List Meta1) (r : ByteArray) (x : World) : Prop where
  rd : ∃ l, RdrAt x gr r l
  bx : BoxIs x F #[v, .int .i64 x1, .int .i64 x2, .int .i64 x3] 46
  res : BoxIs x w.heap.size #[.slice none 0 0, .int .i64 0, .int .i64 0, .int .i64 0] 46
  own : OwnMeta x (F + 1) vo ms
  low : Below w.heap.size w x
  rz : r.size ≤ 1048576
  hB : F + 1 ≤ x.heap.size
  n1 : w.heap.size < gr
  n2 : gr < F

section
variable {w : World} {gr F : Nat} {x1 x2 x3 : Int} {v vo : Value} {ms : List Meta1} {r : ByteArray} {x : World}
theorem RvS.drew (h : RvS w gr F x1 x2 x3 v vo ms r x) : RvS w gr F x1 x2 x3 v vo ms r x.drew := by
  obtain ⟨l, hl⟩ := h.rd
  exact ⟨⟨l, hl.lt, hl.c0, hl.c1, hl.f0, hl.f1⟩, h.bx, h.res, h.own, h.low.drew, h.rz, h.hB, h.n1, h.n2⟩
theorem RvS.call (h : RvS w gr F x1 x2 x3 v vo ms r x) {y : World} {r' : ByteArray} (hr : ∃ l, RdrAt y gr r' l) (hm : Mv gr x y) (hz : r'.size ≤ r.size) : RvS w gr F x1 x2 x3 v vo ms r' y := by
  have := h.n1; have := h.n2
  exact ⟨hr, h.bx.mv hm (by omega), h.res.mv hm (by omega), h.own.mv hm (by omega), h.low.trans (hm.below h.low.size (by omega)), Nat.le_trans hz h.rz, Nat.le_trans h.hB hm.size, h.n1, h.n2⟩
theorem RvS.laid (h : RvS w gr F x1 x2 x3 v vo ms r x) (o : Obj) : RvS w gr F x1 x2 x3 v vo ms r (x.alloc o) := by
  have hb := below_one x o
  obtain ⟨l, hl⟩ := h.rd
  exact ⟨⟨l, hl.below hb hl.lt⟩, h.bx.next hb, h.res.next hb, h.own.next hb, h.low.trans (hb.mono h.low.size), h.rz, Nat.le_trans h.hB hb.size, h.n1, h.n2⟩
theorem RvS.app (h : RvS w gr F x1 x2 x3 v vo ms r x) {y : World} {v' : Value} {es : List Meta1} (how : OwnMeta y (F + 1) v' es) (hgr : x.grownBy y vo.ownBlock) : RvS w gr F x1 x2 x3 v v' es r y := by
  have := h.n1; have := h.n2
  have hb := h.own.grownBelow h.hB hgr
  obtain ⟨l, hl⟩ := h.rd
  exact ⟨⟨l, hl.below hb (by omega)⟩, h.bx.below hb (by omega), h.res.below hb (by omega), how, h.low.trans (hb.mono (by omega)), h.rz, Nat.le_trans h.hB hb.size, h.n1, h.n2⟩
theorem RvS.put (h : RvS w gr F x1 x2 x3 v vo ms r x) : RvS w gr F x1 x2 x3 vo vo ms r (x.setCell ⟨F, 0, none⟩ vo) := by
  have h1 := h.n1; have h2 := h.n2
  have hb : Below F x (x.setCell ⟨F, 0, none⟩ vo) := (Below.refl _ _).setCell (p := ⟨F, 0, none⟩) (Nat.le_refl _) _
  have hm : Mv F x (x.setCell ⟨F, 0, none⟩ vo) := (Mv.refl _ _).setCell _
  obtain ⟨l, hl⟩ := h.rd
  exact ⟨⟨l, hl.below hb h2⟩, h.bx.set 0 vo, h.res.below hb (by omega), h.own.mv hm (by omega), h.low.trans (hb.mono (by omega)), h.rz, Nat.le_trans h.hB hm.size, h.n1, h.n2⟩
end

theorem vN_min (s : ByteArray) : min (rnum (v3 s)).1 31 = ((vN s : Nat) : Int) := by
  have := (rnum_bd (v3 s)).2.1
  unfold vN
  split <;> omega

set_option linter.unusedVariables false in
set_option linter.unusedSimpArgs false in
set_option maxHeartbeats 4000000 in
theorem impl_ReadVersion (s : ByteArray) (hs : s.size ≤ 1048576) (w : World) :
    Calls Try.prog 23 #[.string s] w fun e w' => (∃ v, e = .returned (.tuple #[v, .bool (vOk s)]) ∧ VersionOwn w' w.heap.size v (readV s)) ∧ Below w.heap.size w w' := by
  obtain ⟨zB, z1, z2, z3, z4⟩ := v_size s
  have c0 := fun w g m h => rdr_text w g s m hs h
  have c1 := fun w g m h => rdr_number w g (vB s) m (by omega) h
  have c2 := fun w g m h => rdr_number w g (v1 s) m (by omega) h
  have c3 := fun w g m h => rdr_number w g (v2 s) m (by omega) h
  have c4 := fun w g m h => rdr_number w g (v3 s) m (by omega) h
  rw [show (rtext s).1 = vB s from rfl] at c0
  rw [show (rnum (vB s)).2.1 = v1 s from rfl] at c1
  rw [show (rnum (v1 s)).2.1 = v2 s from rfl] at c2
  rw [show (rnum (v2 s)).2.1 = v3 s from rfl] at c3
  rw [show (rnum (v3 s)).2.1 = v4 s from rfl] at c4
  have hmin := vN_min s
  have hm31 := vN_le s
  have HC : Hid (vC s = vc (rdv (v4 s) (vN s)).1 (rnum (vB s)).1 (rnum (v1 s)).1 (rnum (v2 s)).1) := rfl
  have HVO : Hid (vOk s = (versB (vC s) && decide (versT (vC s) = s))) := rfl
  obtain ⟨x1, hx1⟩ : ∃ x, x = (rnum (vB s)).1 := ⟨_, rfl⟩
  obtain ⟨x2, hx2⟩ : ∃ x, x = (rnum (v1 s)).1 := ⟨_, rfl⟩
  obtain ⟨x3, hx3⟩ : ∃ x, x = (rnum (v2 s)).1 := ⟨_, rfl⟩
  obtain ⟨nn, hnn⟩ : ∃ x, x = (rnum (v3 s)).1 := ⟨_, rfl⟩
  obtain ⟨m, hm⟩ : ∃ x, x = vN s := ⟨_, rfl⟩
  rw [← hx1] at c1 HC
  rw [← hx2] at c2 HC
  rw [← hx3] at c3 HC
  rw [← hnn] at c4 hmin
  rw [← hm] at hmin hm31 HC
  have hN : RdrAt ((w.alloc (.cells #[.slice none 0 0, .int .i64 0, .int .i64 0, .int .i64 0] 46)).alloc (.cells #[.string s, .bool false] 83)) (w.heap.size + 1) s false := by
    have e : (w.alloc (.cells #[.slice none 0 0, .int .i64 0, .int .i64 0, .int .i64 0] 46)).heap.size = w.heap.size + 1 := by simp
    rw [← e]
    exact RdrAt.new _ _ _
  have hF : BoxIs ((w.alloc (.cells #[.slice none 0 0, .int .i64 0, .int .i64 0, .int .i64 0] 46)).alloc (.cells #[.string s, .bool false] 83)) w.heap.size #[.slice none 0 0, .int .i64 0, .int .i64 0, .int .i64 0] 46 :=
    (BoxIs.new w _ _ rfl).below ((Below.refl _ _).alloc (Nat.le_refl _) _) (by simp)
  have hB0 : Below w.heap.size w ((w.alloc (.cells #[.slice none 0 0, .int .i64 0, .int .i64 0, .int .i64 0] 46)).alloc (.cells #[.string s, .bool false] 83)) := ((Below.refl _ _).alloc (Nat.le_refl _) _).alloc (by simp) _
  have HZ3 : Hid ((v3 s).size ≤ 1048576) := by show _ ≤ _; omega
  clear hx1 hx2 hx3 hnn hm zB z1 z2 z3 z4
  go_enter Try.func23, Try.ntmps23
  go_wp2_with fail
  generalize (w.alloc (.cells #[.slice none 0 0, .int .i64 0, .int .i64 0, .int .i64 0] 46)).alloc (.cells #[.string s, .bool false] 83) = W at hN hF hB0 ⊢
  refine (c0 _ _ _ hN).mono ?_
  rintro e w0 ⟨rfl, hN0, hM0⟩
  have hF0 := hF.mv hM0 (by omega)
  have hB00 := hB0.trans (hM0.below hB0.size (by omega))
  have hlt0 := hN0.lt
  clear c0 hN hF hB0 hM0 hN0
  have hb1 := below_one w0 (.cells #[.string (vB s), .bool false] 83)
  have hR1 := RdrAt.new w0 (vB s) false
  have hF1 := hF0.next hb1
  have hB1 := hB00.trans (hb1.mono hB00.size)
  clear hb1 hF0 hB00
  go_wp2_with fail
  generalize w0.alloc (.cells #[.string (vB s), .bool false] 83) = W1 at hR1 hF1 hB1 ⊢
  obtain ⟨gr, hgr⟩ : ∃ g, w0.heap.size = g := ⟨_, rfl⟩
  rw [hgr] at hR1 hlt0 ⊢
  clear hgr
  refine (c1 _ _ _ hR1).mono ?_
  rintro e w1 ⟨rfl, hR2, hM2⟩
  have hF2 := hF1.mv hM2 (by omega)
  have hB2 := hB1.trans (hM2.below hB1.size (by omega))
  clear c1 hR1 hF1 hB1 hM2
  go_wp2_with fail
  refine (c2 _ _ _ hR2).mono ?_
  rintro e w2 ⟨rfl, hR3, hM3⟩
  have hF3 := hF2.mv hM3 (by omega)
  have hB3 := hB2.trans (hM3.below hB2.size (by omega))
  clear c2 hR2 hF2 hB2 hM3
  go_wp2_with fail
  refine (c3 _ _ _ hR3).mono ?_
  rintro e w3 ⟨rfl, hR4, hM4⟩
  have hF4 := hF3.mv hM4 (by omega)
  have hB4 := hB3.trans (hM4.below hB3.size (by omega))
  have hlt4 := hR4.lt
  clear c3 hR3 hF3 hB3 hM4
  have hb5 := below_one w3 (.cells #[.slice none 0 0, .int .i64 x1, .int .i64 x2, .int .i64 x3] 46)
  have HS5 : Hid (RvS w gr w3.heap.size x1 x2 x3 (.slice none 0 0) (.slice none 0 0) (rdv (v4 s) 0).1 (v3 s) (w3.alloc (.cells #[.slice none 0 0, .int .i64 x1, .int .i64 x2, .int .i64 x3] 46))) :=
    ⟨⟨_, hR4.below hb5 hlt4⟩, BoxIs.new w3 _ _ rfl, hF4.next hb5, OwnMeta.nil _ _, hB4.trans (hb5.mono hB4.size), HZ3.out, by simp, by omega, hlt4⟩
  clear hb5 hR4 hF4 hB4
  go_wp2_with fail
  generalize w3.alloc (.cells #[.slice none 0 0, .int .i64 x1, .int .i64 x2, .int .i64 x3] 46) = W5 at HS5 ⊢
  obtain ⟨F, hFe⟩ : ∃ F, w3.heap.size = F := ⟨_, rfl⟩
  rw [hFe] at HS5 hlt4 ⊢
  clear hFe
  obtain ⟨l5, hl5⟩ := HS5.out.rd
  refine (c4 _ _ _ hl5).mono ?_
  rintro e w6 ⟨rfl, hR6, hM6⟩
  have HS6 : Hid (RvS w gr F x1 x2 x3 (.slice none 0 0) (.slice none 0 0) (rdv (v4 s) 0).1 (rdv (v4 s) 0).2 w6) := by
    rw [rdv_z]
    exact HS5.out.call ⟨_, hR6⟩ hM6 (v4_le s)
  clear c4 hl5 hR6 hM6 HS5
  go_wp2
  clear hmin
  go_loopw [17] (fun i wr => ∃ (k : Nat) (vo : Value), i = .int .i64 k ∧ k ≤ m ∧ Hid (RvS w gr F x1 x2 x3 vo vo (rdv (v4 s) k).1 (rdv (v4 s) k).2 wr)) (fun i _ => m - (intOf i).toNat)
  case atStart => exact ⟨0, _, rfl, by omega, HS6⟩
  case round =>
    obtain ⟨k, vo, rfl, hk, HR0⟩ := hrel
    clear HS6
    by_cases hlt : k < m
    · have hki : (k : Int) < (m : Int) := by omega
      have HSTEP : ∀ {v' : Value} {y : World}, Hid (RvS w gr F x1 x2 x3 v' v' ((rdv (v4 s) k).1 ++ [mtAt (rdv (v4 s) k).2]) (mtR (rdv (v4 s) k).2) y) → Hid (RvS w gr F x1 x2 x3 v' v' (rdv (v4 s) (k + 1)).1 (rdv (v4 s) (k + 1)).2 y) := fun h => by
        rw [rdv_s1, rdv_s2]
        exact h
      have hrd := rdv_len (v4 s) k
      have HR := hide HR0.out.drew
      clear HR0
      generalize hRe : (rdv (v4 s) k).2 = R at HR HSTEP
      clear hRe HC HVO
      have hRz := HR.out.rz
      obtain ⟨y1, y2, y3, y4, y5⟩ := mt_size R
      have D0 := fun w g m h => rdr_number w g R m hRz h
      have D1 := fun w g m h => rdr_number w g (mt1 R) m (by omega) h
      have D2 := fun w g m h => rdr_text w g (mt2 R) m (by omega) h
      have D3 := fun w g m h => rdr_text w g (mt3 R) m (by omega) h
      have D4 := fun w g m h => rdr_number w g (mt4 R) m (by omega) h
      have s0 : (mt1 R).size ≤ R.size := by rw [mt1_def]; exact (rnum_bd _).1
      have s1 : (mt2 R).size ≤ (mt1 R).size := by rw [mt2_def]; exact (rnum_bd _).1
      have s2 : (mt3 R).size ≤ (mt2 R).size := by rw [mt3_def]; exact (rtext_bd _).1
      have s3 : (mt4 R).size ≤ (mt3 R).size := by rw [mt4_def]; exact (rtext_bd _).1
      have s4 : (mtR R).size ≤ (mt4 R).size := by rw [mtR_def]; exact (rnum_bd _).1
      simp only [← mt1_def] at D0
      simp only [← mt2_def] at D1
      simp only [← mt3_def] at D2
      simp only [← mt4_def] at D3
      simp only [← mtR_def] at D4
      have HAT : Hid (mtAt R = ⟨(rnum R).1, (rnum (mt1 R)).1, (rtext (mt2 R)).1, (rtext (mt3 R)).1, (rnum (mt4 R)).1⟩) := by show _ = _; rw [mtAt]
      generalize mtAt R = M at HSTEP HAT
      generalize (rnum R).1 = m0 at D0 HAT
      generalize (rnum (mt1 R)).1 = m1 at D1 HAT
      generalize (rtext (mt2 R)).1 = m2 at D2 HAT
      generalize (rtext (mt3 R)).1 = m3 at D3 HAT
      generalize (rnum (mt4 R)).1 = m4 at D4 HAT
      rw [HAT.out] at HSTEP
      generalize mt1 R = R1 at *
      generalize mt2 R = R2 at *
      generalize mt3 R = R3 at *
      generalize mt4 R = R4 at *
      generalize mtR R = R5 at *
      have S0 := hide s0; have S1 := hide s1; have S2 := hide s2; have S3 := hide s3; have S4 := hide s4
      clear HAT y1 y2 y3 y4 y5 s0 s1 s2 s3 s4 hRz
      go_wp2_with fail
      refine wp_region_noPanic ?_
      refine wp_region_held_drew (S := fun _ => True) (by kernel_rfl) trivial (fun _ => ?_)
      refine wpAnyH_take (i := 0) (v := .pointer (some ⟨F, 0, none⟩)) nat0 (by kernel_rfl) (by kernel_rfl) (by kernel_rfl) (fun _ _ _ h => False.elim h) (Or.inl ⟨by rfl, ?_⟩) trivial ?_
      · intro wx hSw
        go_simp
      simp only [Act.put, List.setIfInBounds_toArray, List.set_cons_zero, List.set_cons_succ]
      refine wpAnyH_ready (rs := [1, 2]) (by kernel_rfl) (by simp) ?_
      refine AllReadyH.cons nat1 (fun K hK => ?_) (AllReadyH.cons nat2 (fun K hK => ?_) AllReadyH.nil)
      · have yl := HR.out.bx.cell 0
        simp only [List.getElem?_toArray, List.getElem?_cons_succ, List.getElem?_cons_zero] at yl
        go_simp
        refine hK.out _ _ trivial (fun _ => ?_)
        clear hK K yl
        refine wpAnyH_ready (rs := [2]) (by kernel_rfl) (by simp) ?_
        refine AllReadyH.cons nat2 (fun K hK => ?_) AllReadyH.nil
        go_simp
        go_at_call 54
        obtain ⟨l1, hl1⟩ := HR.out.rd
        refine (D0 _ _ _ hl1).mono ?_
        rintro e wq1 ⟨rfl, hr1, hm1⟩
        refine hK.out _ _ trivial (fun _ => ?_)
        clear hK K
        have H1 := hide (HR.out.call ⟨_, hr1⟩ hm1 S0.out)
        clear hr1 hm1 hl1 HR
        refine wpAnyH_ready (rs := [3]) (by kernel_rfl) (by simp) ?_
        refine AllReadyH.cons nat3 (fun K hK => ?_) AllReadyH.nil
        go_simp
        go_at_call 54
        obtain ⟨l2, hl2⟩ := H1.out.rd
        refine (D1 _ _ _ hl2).mono ?_
        rintro e wq2 ⟨rfl, hr2, hm2⟩
        refine hK.out _ _ trivial (fun _ => ?_)
        clear hK K
        have H2 := hide (H1.out.call ⟨_, hr2⟩ hm2 S1.out)
        clear hr2 hm2 hl2 H1
        refine wpAnyH_ready (rs := [4]) (by kernel_rfl) (by simp) ?_
        refine AllReadyH.cons nat4 (fun K hK => ?_) AllReadyH.nil
        go_simp
        go_at_call 53
        obtain ⟨l3, hl3⟩ := H2.out.rd
        refine (D2 _ _ _ hl3).mono ?_
        rintro e wq3 ⟨rfl, hr3, hm3⟩
        refine hK.out _ _ trivial (fun _ => ?_)
        clear hK K
        have H3 := hide (H2.out.call ⟨_, hr3⟩ hm3 S2.out)
        clear hr3 hm3 hl3 H2
        refine wpAnyH_ready (rs := [5]) (by kernel_rfl) (by simp) ?_
        refine AllReadyH.cons nat5 (fun K hK => ?_) AllReadyH.nil
        go_simp
        go_at_call 53
        obtain ⟨l4, hl4⟩ := H3.out.rd
        refine (D3 _ _ _ hl4).mono ?_
        rintro e wq4 ⟨rfl, hr4, hm4⟩
        refine hK.out _ _ trivial (fun _ => ?_)
        clear hK K
        have H4 := hide (H3.out.call ⟨_, hr4⟩ hm4 S3.out)
        clear hr4 hm4 hl4 H3
        refine wpAnyH_ready (rs := [6]) (by kernel_rfl) (by simp) ?_
        refine AllReadyH.cons nat6 (fun K hK => ?_) AllReadyH.nil
        go_simp
        go_at_call 54
        obtain ⟨l5, hl5⟩ := H4.out.rd
        refine (D4 _ _ _ hl5).mono ?_
        rintro e wq5 ⟨rfl, hr5, hm5⟩
        refine hK.out _ _ trivial (fun _ => ?_)
        clear hK K
        have H5 := hide (H4.out.call ⟨_, hr5⟩ hm5 S4.out)
        clear hr5 hm5 hl5 H4
        refine wpAnyH_take (i := 7) (v := .agg #[.int .i64 m0, .int .i64 m1, .string m2, .string m3, .int .i64 m4]) nat7 (by kernel_rfl) (by kernel_rfl) (by kernel_rfl) (fun _ _ _ h => False.elim h) (Or.inl ⟨by rfl, ?_⟩) trivial ?_
        · intro wx hSw
          go_simp
        simp only [Act.put, List.setIfInBounds_toArray, List.set_cons_zero, List.set_cons_succ]
        refine wpAnyH_ready (rs := [8]) (by kernel_rfl) (by simp) ?_
        refine AllReadyH.cons nat8 (fun K hK => ?_) AllReadyH.nil
        go_simp
        refine hK.out _ _ trivial (fun _ => ?_)
        clear hK K
        have hsrc6 : BoxIs (wq5.alloc (.cells #[.int .i64 m0, .int .i64 m1, .string m2, .string m3, .int .i64 m4] 62)) wq5.heap.size #[.int .i64 m0, .int .i64 m1, .string m2, .string m3, .int .i64 m4] 62 := BoxIs.new _ _ _ rfl
        have H6 := hide (H5.out.laid (.cells #[.int .i64 m0, .int .i64 m1, .string m2, .string m3, .int .i64 m4] 62))
        generalize wq5.alloc (.cells #[.int .i64 m0, .int .i64 m1, .string m2, .string m3, .int .i64 m4] 62) = wq6 at H6 hsrc6 ⊢
        clear H5
        refine wpAnyH_ready (rs := [9]) (by kernel_rfl) (by simp) ?_
        refine AllReadyH.cons nat9 (fun K hK => ?_) AllReadyH.nil
        refine step_append_meta rfl (.tmp 20) (.tmp 27) 44 rfl Try.underlying44 (F + 1) vo _ [⟨m0, m1, m2, m3, m4⟩] (by rfl) H6.out.own ⟨wq5.heap.size, 0, none⟩ 1 1 (by rfl) rfl (meta_news (e := ⟨m0, m1, m2, m3, m4⟩) hsrc6) H6.out.hB (by rw [hrd]; omega) ?_
        intro v' wq7 how7 hgr7
        obtain ⟨ga7, ca7, hsv7⟩ := how7.some (by simp)
        rw [List.length_append, hrd] at hsv7
        obtain rfl : v' = .slice (some ⟨ga7, 0, none⟩) (k + 1) ca7 := hsv7
        have H7 := hide (H6.out.app how7 hgr7)
        refine hK.out _ _ trivial (fun _ => ?_)
        clear hK K how7 hgr7 H6 hsrc6
        simp only [Act.put, List.setIfInBounds_toArray, List.set_cons_zero, List.set_cons_succ]
        refine wpAnyH_take (i := 10) (v := .pointer (some ⟨F, 0, none⟩)) nat10 (by kernel_rfl) (by kernel_rfl) (by kernel_rfl) (fun _ _ _ h => False.elim h) (Or.inl ⟨by rfl, ?_⟩) trivial ?_
        · intro wx hSw
          go_simp
        simp only [Act.put, List.setIfInBounds_toArray, List.set_cons_zero, List.set_cons_succ]
        refine wpAnyH_ready (rs := [11]) (by kernel_rfl) (by simp) ?_
        refine AllReadyH.cons nat11 (fun K hK => ?_) AllReadyH.nil
        have yl := H7.out.bx.cell 0
        simp only [List.getElem?_toArray, List.getElem?_cons_succ, List.getElem?_cons_zero] at yl
        have yf := H7.out.bx.free
        go_simp
        refine hK.out _ _ trivial (fun _ => ?_)
        have H8 := hide H7.out.put
        clear hK K yl yf H7
        generalize wq7.setCell ⟨F, 0, none⟩ (.slice (some ⟨ga7, 0, none⟩) (k + 1) ca7) = wq8 at H8 ⊢
        refine wpAnyH_done (by kernel_rfl) ?_ _
        refine NoPanic.normal ?_
        go_wp2
        exact ⟨⟨k + 1, _, by go_num, by omega, HSTEP H8⟩, by simp [intOf]; omega⟩
      · go_simp
        go_at_call 54
        obtain ⟨l9, hl9⟩ := HR.out.rd
        refine (D0 _ _ _ hl9).mono ?_
        rintro e wq9 ⟨rfl, hr9, hm9⟩
        refine hK.out _ _ trivial (fun _ => ?_)
        clear hK K
        have H9 := hide (HR.out.call ⟨_, hr9⟩ hm9 S0.out)
        clear hr9 hm9 hl9 HR
        refine wpAnyH_ready (rs := [1, 3]) (by kernel_rfl) (by simp) ?_
        refine AllReadyH.cons nat1 (fun K hK => ?_) (AllReadyH.cons nat3 (fun K hK => ?_) AllReadyH.nil)
        · have yl := H9.out.bx.cell 0
          simp only [List.getElem?_toArray, List.getElem?_cons_succ, List.getElem?_cons_zero] at yl
          go_simp
          refine hK.out _ _ trivial (fun _ => ?_)
          clear hK K yl
          refine wpAnyH_ready (rs := [3]) (by kernel_rfl) (by simp) ?_
          refine AllReadyH.cons nat3 (fun K hK => ?_) AllReadyH.nil
          go_simp
          go_at_call 54
          obtain ⟨l11, hl11⟩ := H9.out.rd
          refine (D1 _ _ _ hl11).mono ?_
          rintro e wq11 ⟨rfl, hr11, hm11⟩
          refine hK.out _ _ trivial (fun _ => ?_)
          clear hK K
          have H11 := hide (H9.out.call ⟨_, hr11⟩ hm11 S1.out)
          clear hr11 hm11 hl11 H9
          refine wpAnyH_ready (rs := [4]) (by kernel_rfl) (by simp) ?_
          refine AllReadyH.cons nat4 (fun K hK => ?_) AllReadyH.nil
          go_simp
          go_at_call 53
          obtain ⟨l12, hl12⟩ := H11.out.rd
          refine (D2 _ _ _ hl12).mono ?_
          rintro e wq12 ⟨rfl, hr12, hm12⟩
          refine hK.out _ _ trivial (fun _ => ?_)
          clear hK K
          have H12 := hide (H11.out.call ⟨_, hr12⟩ hm12 S2.out)
          clear hr12 hm12 hl12 H11
          refine wpAnyH_ready (rs := [5]) (by kernel_rfl) (by simp) ?_
          refine AllReadyH.cons nat5 (fun K hK => ?_) AllReadyH.nil
          go_simp
          go_at_call 53
          obtain ⟨l13, hl13⟩ := H12.out.rd
          refine (D3 _ _ _ hl13).mono ?_
          rintro e wq13 ⟨rfl, hr13, hm13⟩
          refine hK.out _ _ trivial (fun _ => ?_)
          clear hK K
          have H13 := hide (H12.out.call ⟨_, hr13⟩ hm13 S3.out)
          clear hr13 hm13 hl13 H12
          refine wpAnyH_ready (rs := [6]) (by kernel_rfl) (by simp) ?_
          refine AllReadyH.cons nat6 (fun K hK => ?_) AllReadyH.nil
          go_simp
          go_at_call 54
          obtain ⟨l14, hl14⟩ := H13.out.rd
          refine (D4 _ _ _ hl14).mono ?_
          rintro e wq14 ⟨rfl, hr14, hm14⟩
          refine hK.out _ _ trivial (fun _ => ?_)
          clear hK K
          have H14 := hide (H13.out.call ⟨_, hr14⟩ hm14 S4.out)
          clear hr14 hm14 hl14 H13
          refine wpAnyH_take (i := 7) (v := .agg #[.int .i64 m0, .int .i64 m1, .string m2, .string m3, .int .i64 m4]) nat7 (by kernel_rfl) (by kernel_rfl) (by kernel_rfl) (fun _ _ _ h => False.elim h) (Or.inl ⟨by rfl, ?_⟩) trivial ?_
          · intro wx hSw
            go_simp
          simp only [Act.put, List.setIfInBounds_toArray, List.set_cons_zero, List.set_cons_succ]
          refine wpAnyH_ready (rs := [8]) (by kernel_rfl) (by simp) ?_
          refine AllReadyH.cons nat8 (fun K hK => ?_) AllReadyH.nil
          go_simp
          refine hK.out _ _ trivial (fun _ => ?_)
          clear hK K
          have hsrc15 : BoxIs (wq14.alloc (.cells #[.int .i64 m0, .int .i64 m1, .string m2, .string m3, .int .i64 m4] 62)) wq14.heap.size #[.int .i64 m0, .int .i64 m1, .string m2, .string m3, .int .i64 m4] 62 := BoxIs.new _ _ _ rfl
          have H15 := hide (H14.out.laid (.cells #[.int .i64 m0, .int .i64 m1, .string m2, .string m3, .int .i64 m4] 62))
          generalize wq14.alloc (.cells #[.int .i64 m0, .int .i64 m1, .string m2, .string m3, .int .i64 m4] 62) = wq15 at H15 hsrc15 ⊢
          clear H14
          refine wpAnyH_ready (rs := [9]) (by kernel_rfl) (by simp) ?_
          refine AllReadyH.cons nat9 (fun K hK => ?_) AllReadyH.nil
          refine step_append_meta rfl (.tmp 20) (.tmp 27) 44 rfl Try.underlying44 (F + 1) vo _ [⟨m0, m1, m2, m3, m4⟩] (by rfl) H15.out.own ⟨wq14.heap.size, 0, none⟩ 1 1 (by rfl) rfl (meta_news (e := ⟨m0, m1, m2, m3, m4⟩) hsrc15) H15.out.hB (by rw [hrd]; omega) ?_
          intro v' wq16 how16 hgr16
          obtain ⟨ga16, ca16, hsv16⟩ := how16.some (by simp)
          rw [List.length_append, hrd] at hsv16
          obtain rfl : v' = .slice (some ⟨ga16, 0, none⟩) (k + 1) ca16 := hsv16
          have H16 := hide (H15.out.app how16 hgr16)
          refine hK.out _ _ trivial (fun _ => ?_)
          clear hK K how16 hgr16 H15 hsrc15
          simp only [Act.put, List.setIfInBounds_toArray, List.set_cons_zero, List.set_cons_succ]
          refine wpAnyH_take (i := 10) (v := .pointer (some ⟨F, 0, none⟩)) nat10 (by kernel_rfl) (by kernel_rfl) (by kernel_rfl) (fun _ _ _ h => False.elim h) (Or.inl ⟨by rfl, ?_⟩) trivial ?_
          · intro wx hSw
            go_simp
          simp only [Act.put, List.setIfInBounds_toArray, List.set_cons_zero, List.set_cons_succ]
          refine wpAnyH_ready (rs := [11]) (by kernel_rfl) (by simp) ?_
          refine AllReadyH.cons nat11 (fun K hK => ?_) AllReadyH.nil
          have yl := H16.out.bx.cell 0
          simp only [List.getElem?_toArray, List.getElem?_cons_succ, List.getElem?_cons_zero] at yl
          have yf := H16.out.bx.free
          go_simp
          refine hK.out _ _ trivial (fun _ => ?_)
          have H17 := hide H16.out.put
          clear hK K yl yf H16
          generalize wq16.setCell ⟨F, 0, none⟩ (.slice (some ⟨ga16, 0, none⟩) (k + 1) ca16) = wq17 at H17 ⊢
          refine wpAnyH_done (by kernel_rfl) ?_ _
          refine NoPanic.normal ?_
          go_wp2
          exact ⟨⟨k + 1, _, by go_num, by omega, HSTEP H17⟩, by simp [intOf]; omega⟩
        · go_simp
          go_at_call 54
          obtain ⟨l18, hl18⟩ := H9.out.rd
          refine (D1 _ _ _ hl18).mono ?_
          rintro e wq18 ⟨rfl, hr18, hm18⟩
          refine hK.out _ _ trivial (fun _ => ?_)
          clear hK K
          have H18 := hide (H9.out.call ⟨_, hr18⟩ hm18 S1.out)
          clear hr18 hm18 hl18 H9
          refine wpAnyH_ready (rs := [1, 4]) (by kernel_rfl) (by simp) ?_
          refine AllReadyH.cons nat1 (fun K hK => ?_) (AllReadyH.cons nat4 (fun K hK => ?_) AllReadyH.nil)
          · have yl := H18.out.bx.cell 0
            simp only [List.getElem?_toArray, List.getElem?_cons_succ, List.getElem?_cons_zero] at yl
            go_simp
            refine hK.out _ _ trivial (fun _ => ?_)
            clear hK K yl
            refine wpAnyH_ready (rs := [4]) (by kernel_rfl) (by simp) ?_
            refine AllReadyH.cons nat4 (fun K hK => ?_) AllReadyH.nil
            go_simp
            go_at_call 53
            obtain ⟨l20, hl20⟩ := H18.out.rd
            refine (D2 _ _ _ hl20).mono ?_
            rintro e wq20 ⟨rfl, hr20, hm20⟩
            refine hK.out _ _ trivial (fun _ => ?_)
            clear hK K
            have H20 := hide (H18.out.call ⟨_, hr20⟩ hm20 S2.out)
            clear hr20 hm20 hl20 H18
            refine wpAnyH_ready (rs := [5]) (by kernel_rfl) (by simp) ?_
            refine AllReadyH.cons nat5 (fun K hK => ?_) AllReadyH.nil
            go_simp
            go_at_call 53
            obtain ⟨l21, hl21⟩ := H20.out.rd
            refine (D3 _ _ _ hl21).mono ?_
            rintro e wq21 ⟨rfl, hr21, hm21⟩
            refine hK.out _ _ trivial (fun _ => ?_)
            clear hK K
            have H21 := hide (H20.out.call ⟨_, hr21⟩ hm21 S3.out)
            clear hr21 hm21 hl21 H20
            refine wpAnyH_ready (rs := [6]) (by kernel_rfl) (by simp) ?_
            refine AllReadyH.cons nat6 (fun K hK => ?_) AllReadyH.nil
            go_simp
            go_at_call 54
            obtain ⟨l22, hl22⟩ := H21.out.rd
            refine (D4 _ _ _ hl22).mono ?_
            rintro e wq22 ⟨rfl, hr22, hm22⟩
            refine hK.out _ _ trivial (fun _ => ?_)
            clear hK K
            have H22 := hide (H21.out.call ⟨_, hr22⟩ hm22 S4.out)
            clear hr22 hm22 hl22 H21
            refine wpAnyH_take (i := 7) (v := .agg #[.int .i64 m0, .int .i64 m1, .string m2, .string m3, .int .i64 m4]) nat7 (by kernel_rfl) (by kernel_rfl) (by kernel_rfl) (fun _ _ _ h => False.elim h) (Or.inl ⟨by rfl, ?_⟩) trivial ?_
            · intro wx hSw
              go_simp
            simp only [Act.put, List.setIfInBounds_toArray, List.set_cons_zero, List.set_cons_succ]
            refine wpAnyH_ready (rs := [8]) (by kernel_rfl) (by simp) ?_
            refine AllReadyH.cons nat8 (fun K hK => ?_) AllReadyH.nil
            go_simp
            refine hK.out _ _ trivial (fun _ => ?_)
            clear hK K
            have hsrc23 : BoxIs (wq22.alloc (.cells #[.int .i64 m0, .int .i64 m1, .string m2, .string m3, .int .i64 m4] 62)) wq22.heap.size #[.int .i64 m0, .int .i64 m1, .string m2, .string m3, .int .i64 m4] 62 := BoxIs.new _ _ _ rfl
            have H23 := hide (H22.out.laid (.cells #[.int .i64 m0, .int .i64 m1, .string m2, .string m3, .int .i64 m4] 62))
            generalize wq22.alloc (.cells #[.int .i64 m0, .int .i64 m1, .string m2, .string m3, .int .i64 m4] 62) = wq23 at H23 hsrc23 ⊢
            clear H22
            refine wpAnyH_ready (rs := [9]) (by kernel_rfl) (by simp) ?_
            refine AllReadyH.cons nat9 (fun K hK => ?_) AllReadyH.nil
            refine step_append_meta rfl (.tmp 20) (.tmp 27) 44 rfl Try.underlying44 (F + 1) vo _ [⟨m0, m1, m2, m3, m4⟩] (by rfl) H23.out.own ⟨wq22.heap.size, 0, none⟩ 1 1 (by rfl) rfl (meta_news (e := ⟨m0, m1, m2, m3, m4⟩) hsrc23) H23.out.hB (by rw [hrd]; omega) ?_
            intro v' wq24 how24 hgr24
            obtain ⟨ga24, ca24, hsv24⟩ := how24.some (by simp)
            rw [List.length_append, hrd] at hsv24
            obtain rfl : v' = .slice (some ⟨ga24, 0, none⟩) (k + 1) ca24 := hsv24
            have H24 := hide (H23.out.app how24 hgr24)
            refine hK.out _ _ trivial (fun _ => ?_)
            clear hK K how24 hgr24 H23 hsrc23
            simp only [Act.put, List.setIfInBounds_toArray, List.set_cons_zero, List.set_cons_succ]
            refine wpAnyH_take (i := 10) (v := .pointer (some ⟨F, 0, none⟩)) nat10 (by kernel_rfl) (by kernel_rfl) (by kernel_rfl) (fun _ _ _ h => False.elim h) (Or.inl ⟨by rfl, ?_⟩) trivial ?_
            · intro wx hSw
              go_simp
            simp only [Act.put, List.setIfInBounds_toArray, List.set_cons_zero, List.set_cons_succ]
            refine wpAnyH_ready (rs := [11]) (by kernel_rfl) (by simp) ?_
            refine AllReadyH.cons nat11 (fun K hK => ?_) AllReadyH.nil
            have yl := H24.out.bx.cell 0
            simp only [List.getElem?_toArray, List.getElem?_cons_succ, List.getElem?_cons_zero] at yl
            have yf := H24.out.bx.free
            go_simp
            refine hK.out _ _ trivial (fun _ => ?_)
            have H25 := hide H24.out.put
            clear hK K yl yf H24
            generalize wq24.setCell ⟨F, 0, none⟩ (.slice (some ⟨ga24, 0, none⟩) (k + 1) ca24) = wq25 at H25 ⊢
            refine wpAnyH_done (by kernel_rfl) ?_ _
            refine NoPanic.normal ?_
            go_wp2
            exact ⟨⟨k + 1, _, by go_num, by omega, HSTEP H25⟩, by simp [intOf]; omega⟩
          · go_simp
            go_at_call 53
            obtain ⟨l26, hl26⟩ := H18.out.rd
            refine (D2 _ _ _ hl26).mono ?_
            rintro e wq26 ⟨rfl, hr26, hm26⟩
            refine hK.out _ _ trivial (fun _ => ?_)
            clear hK K
            have H26 := hide (H18.out.call ⟨_, hr26⟩ hm26 S2.out)
            clear hr26 hm26 hl26 H18
            refine wpAnyH_ready (rs := [1, 5]) (by kernel_rfl) (by simp) ?_
            refine AllReadyH.cons nat1 (fun K hK => ?_) (AllReadyH.cons nat5 (fun K hK => ?_) AllReadyH.nil)
            · have yl := H26.out.bx.cell 0
              simp only [List.getElem?_toArray, List.getElem?_cons_succ, List.getElem?_cons_zero] at yl
              go_simp
              refine hK.out _ _ trivial (fun _ => ?_)
              clear hK K yl
              refine wpAnyH_ready (rs := [5]) (by kernel_rfl) (by simp) ?_
              refine AllReadyH.cons nat5 (fun K hK => ?_) AllReadyH.nil
              go_simp
              go_at_call 53
              obtain ⟨l28, hl28⟩ := H26.out.rd
              refine (D3 _ _ _ hl28).mono ?_
              rintro e wq28 ⟨rfl, hr28, hm28⟩
              refine hK.out _ _ trivial (fun _ => ?_)
              clear hK K
              have H28 := hide (H26.out.call ⟨_, hr28⟩ hm28 S3.out)
              clear hr28 hm28 hl28 H26
              refine wpAnyH_ready (rs := [6]) (by kernel_rfl) (by simp) ?_
              refine AllReadyH.cons nat6 (fun K hK => ?_) AllReadyH.nil
              go_simp
              go_at_call 54
              obtain ⟨l29, hl29⟩ := H28.out.rd
              refine (D4 _ _ _ hl29).mono ?_
              rintro e wq29 ⟨rfl, hr29, hm29⟩
              refine hK.out _ _ trivial (fun _ => ?_)
              clear hK K
              have H29 := hide (H28.out.call ⟨_, hr29⟩ hm29 S4.out)
              clear hr29 hm29 hl29 H28
              refine wpAnyH_take (i := 7) (v := .agg #[.int .i64 m0, .int .i64 m1, .string m2, .string m3, .int .i64 m4]) nat7 (by kernel_rfl) (by kernel_rfl) (by kernel_rfl) (fun _ _ _ h => False.elim h) (Or.inl ⟨by rfl, ?_⟩) trivial ?_
              · intro wx hSw
                go_simp
              simp only [Act.put, List.setIfInBounds_toArray, List.set_cons_zero, List.set_cons_succ]
              refine wpAnyH_ready (rs := [8]) (by kernel_rfl) (by simp) ?_
              refine AllReadyH.cons nat8 (fun K hK => ?_) AllReadyH.nil
              go_simp
              refine hK.out _ _ trivial (fun _ => ?_)
              clear hK K
              have hsrc30 : BoxIs (wq29.alloc (.cells #[.int .i64 m0, .int .i64 m1, .string m2, .string m3, .int .i64 m4] 62)) wq29.heap.size #[.int .i64 m0, .int .i64 m1, .string m2, .string m3, .int .i64 m4] 62 := BoxIs.new _ _ _ rfl
              have H30 := hide (H29.out.laid (.cells #[.int .i64 m0, .int .i64 m1, .string m2, .string m3, .int .i64 m4] 62))
              generalize wq29.alloc (.cells #[.int .i64 m0, .int .i64 m1, .string m2, .string m3, .int .i64 m4] 62) = wq30 at H30 hsrc30 ⊢
              clear H29
              refine wpAnyH_ready (rs := [9]) (by kernel_rfl) (by simp) ?_
              refine AllReadyH.cons nat9 (fun K hK => ?_) AllReadyH.nil
              refine step_append_meta rfl (.tmp 20) (.tmp 27) 44 rfl Try.underlying44 (F + 1) vo _ [⟨m0, m1, m2, m3, m4⟩] (by rfl) H30.out.own ⟨wq29.heap.size, 0, none⟩ 1 1 (by rfl) rfl (meta_news (e := ⟨m0, m1, m2, m3, m4⟩) hsrc30) H30.out.hB (by rw [hrd]; omega) ?_
              intro v' wq31 how31 hgr31
              obtain ⟨ga31, ca31, hsv31⟩ := how31.some (by simp)
              rw [List.length_append, hrd] at hsv31
              obtain rfl : v' = .slice (some ⟨ga31, 0, none⟩) (k + 1) ca31 := hsv31
              have H31 := hide (H30.out.app how31 hgr31)
              refine hK.out _ _ trivial (fun _ => ?_)
              clear hK K how31 hgr31 H30 hsrc30
              simp only [Act.put, List.setIfInBounds_toArray, List.set_cons_zero, List.set_cons_succ]
              refine wpAnyH_take (i := 10) (v := .pointer (some ⟨F, 0, none⟩)) nat10 (by kernel_rfl) (by kernel_rfl) (by kernel_rfl) (fun _ _ _ h => False.elim h) (Or.inl ⟨by rfl, ?_⟩) trivial ?_
              · intro wx hSw
                go_simp
              simp only [Act.put, List.setIfInBounds_toArray, List.set_cons_zero, List.set_cons_succ]
              refine wpAnyH_ready (rs := [11]) (by kernel_rfl) (by simp) ?_
              refine AllReadyH.cons nat11 (fun K hK => ?_) AllReadyH.nil
              have yl := H31.out.bx.cell 0
              simp only [List.getElem?_toArray, List.getElem?_cons_succ, List.getElem?_cons_zero] at yl
              have yf := H31.out.bx.free
              go_simp
              refine hK.out _ _ trivial (fun _ => ?_)
              have H32 := hide H31.out.put
              clear hK K yl yf H31
              generalize wq31.setCell ⟨F, 0, none⟩ (.slice (some ⟨ga31, 0, none⟩) (k + 1) ca31) = wq32 at H32 ⊢
              refine wpAnyH_done (by kernel_rfl) ?_ _
              refine NoPanic.normal ?_
              go_wp2
              exact ⟨⟨k + 1, _, by go_num, by omega, HSTEP H32⟩, by simp [intOf]; omega⟩
            · go_simp
              go_at_call 53
              obtain ⟨l33, hl33⟩ := H26.out.rd
              refine (D3 _ _ _ hl33).mono ?_
              rintro e wq33 ⟨rfl, hr33, hm33⟩
              refine hK.out _ _ trivial (fun _ => ?_)
              clear hK K
              have H33 := hide (H26.out.call ⟨_, hr33⟩ hm33 S3.out)
              clear hr33 hm33 hl33 H26
              refine wpAnyH_ready (rs := [1, 6]) (by kernel_rfl) (by simp) ?_
              refine AllReadyH.cons nat1 (fun K hK => ?_) (AllReadyH.cons nat6 (fun K hK => ?_) AllReadyH.nil)
              · have yl := H33.out.bx.cell 0
                simp only [List.getElem?_toArray, List.getElem?_cons_succ, List.getElem?_cons_zero] at yl
                go_simp
                refine hK.out _ _ trivial (fun _ => ?_)
                clear hK K yl
                refine wpAnyH_ready (rs := [6]) (by kernel_rfl) (by simp) ?_
                refine AllReadyH.cons nat6 (fun K hK => ?_) AllReadyH.nil
                go_simp
                go_at_call 54
                obtain ⟨l35, hl35⟩ := H33.out.rd
                refine (D4 _ _ _ hl35).mono ?_
                rintro e wq35 ⟨rfl, hr35, hm35⟩
                refine hK.out _ _ trivial (fun _ => ?_)
                clear hK K
                have H35 := hide (H33.out.call ⟨_, hr35⟩ hm35 S4.out)
                clear hr35 hm35 hl35 H33
                refine wpAnyH_take (i := 7) (v := .agg #[.int .i64 m0, .int .i64 m1, .string m2, .string m3, .int .i64 m4]) nat7 (by kernel_rfl) (by kernel_rfl) (by kernel_rfl) (fun _ _ _ h => False.elim h) (Or.inl ⟨by rfl, ?_⟩) trivial ?_
                · intro wx hSw
                  go_simp
                simp only [Act.put, List.setIfInBounds_toArray, List.set_cons_zero, List.set_cons_succ]
                refine wpAnyH_ready (rs := [8]) (by kernel_rfl) (by simp) ?_
                refine AllReadyH.cons nat8 (fun K hK => ?_) AllReadyH.nil
                go_simp
                refine hK.out _ _ trivial (fun _ => ?_)
                clear hK K
                have hsrc36 : BoxIs (wq35.alloc (.cells #[.int .i64 m0, .int .i64 m1, .string m2, .string m3, .int .i64 m4] 62)) wq35.heap.size #[.int .i64 m0, .int .i64 m1, .string m2, .string m3, .int .i64 m4] 62 := BoxIs.new _ _ _ rfl
                have H36 := hide (H35.out.laid (.cells #[.int .i64 m0, .int .i64 m1, .string m2, .string m3, .int .i64 m4] 62))
                generalize wq35.alloc (.cells #[.int .i64 m0, .int .i64 m1, .string m2, .string m3, .int .i64 m4] 62) = wq36 at H36 hsrc36 ⊢
                clear H35
                refine wpAnyH_ready (rs := [9]) (by kernel_rfl) (by simp) ?_
                refine AllReadyH.cons nat9 (fun K hK => ?_) AllReadyH.nil
                refine step_append_meta rfl (.tmp 20) (.tmp 27) 44 rfl Try.underlying44 (F + 1) vo _ [⟨m0, m1, m2, m3, m4⟩] (by rfl) H36.out.own ⟨wq35.heap.size, 0, none⟩ 1 1 (by rfl) rfl (meta_news (e := ⟨m0, m1, m2, m3, m4⟩) hsrc36) H36.out.hB (by rw [hrd]; omega) ?_
                intro v' wq37 how37 hgr37
                obtain ⟨ga37, ca37, hsv37⟩ := how37.some (by simp)
                rw [List.length_append, hrd] at hsv37
                obtain rfl : v' = .slice (some ⟨ga37, 0, none⟩) (k + 1) ca37 := hsv37
                have H37 := hide (H36.out.app how37 hgr37)
                refine hK.out _ _ trivial (fun _ => ?_)
                clear hK K how37 hgr37 H36 hsrc36
                simp only [Act.put, List.setIfInBounds_toArray, List.set_cons_zero, List.set_cons_succ]
                refine wpAnyH_take (i := 10) (v := .pointer (some ⟨F, 0, none⟩)) nat10 (by kernel_rfl) (by kernel_rfl) (by kernel_rfl) (fun _ _ _ h => False.elim h) (Or.inl ⟨by rfl, ?_⟩) trivial ?_
                · intro wx hSw
                  go_simp
                simp only [Act.put, List.setIfInBounds_toArray, List.set_cons_zero, List.set_cons_succ]
                refine wpAnyH_ready (rs := [11]) (by kernel_rfl) (by simp) ?_
                refine AllReadyH.cons nat11 (fun K hK => ?_) AllReadyH.nil
                have yl := H37.out.bx.cell 0
                simp only [List.getElem?_toArray, List.getElem?_cons_succ, List.getElem?_cons_zero] at yl
                have yf := H37.out.bx.free
                go_simp
                refine hK.out _ _ trivial (fun _ => ?_)
                have H38 := hide H37.out.put
                clear hK K yl yf H37
                generalize wq37.setCell ⟨F, 0, none⟩ (.slice (some ⟨ga37, 0, none⟩) (k + 1) ca37) = wq38 at H38 ⊢
                refine wpAnyH_done (by kernel_rfl) ?_ _
                refine NoPanic.normal ?_
                go_wp2
                exact ⟨⟨k + 1, _, by go_num, by omega, HSTEP H38⟩, by simp [intOf]; omega⟩
              · go_simp
                go_at_call 54
                obtain ⟨l39, hl39⟩ := H33.out.rd
                refine (D4 _ _ _ hl39).mono ?_
                rintro e wq39 ⟨rfl, hr39, hm39⟩
                refine hK.out _ _ trivial (fun _ => ?_)
                clear hK K
                have H39 := hide (H33.out.call ⟨_, hr39⟩ hm39 S4.out)
                clear hr39 hm39 hl39 H33
                refine wpAnyH_take (i := 7) (v := .agg #[.int .i64 m0, .int .i64 m1, .string m2, .string m3, .int .i64 m4]) nat7 (by kernel_rfl) (by kernel_rfl) (by kernel_rfl) (fun _ _ _ h => False.elim h) (Or.inl ⟨by rfl, ?_⟩) trivial ?_
                · intro wx hSw
                  go_simp
                simp only [Act.put, List.setIfInBounds_toArray, List.set_cons_zero, List.set_cons_succ]
                refine wpAnyH_ready (rs := [1, 8]) (by kernel_rfl) (by simp) ?_
                refine AllReadyH.cons nat1 (fun K hK => ?_) (AllReadyH.cons nat8 (fun K hK => ?_) AllReadyH.nil)
                · have yl := H39.out.bx.cell 0
                  simp only [List.getElem?_toArray, List.getElem?_cons_succ, List.getElem?_cons_zero] at yl
                  go_simp
                  refine hK.out _ _ trivial (fun _ => ?_)
                  clear hK K yl
                  refine wpAnyH_ready (rs := [8]) (by kernel_rfl) (by simp) ?_
                  refine AllReadyH.cons nat8 (fun K hK => ?_) AllReadyH.nil
                  go_simp
                  refine hK.out _ _ trivial (fun _ => ?_)
                  clear hK K
                  have hsrc41 : BoxIs (wq39.alloc (.cells #[.int .i64 m0, .int .i64 m1, .string m2, .string m3, .int .i64 m4] 62)) wq39.heap.size #[.int .i64 m0, .int .i64 m1, .string m2, .string m3, .int .i64 m4] 62 := BoxIs.new _ _ _ rfl
                  have H41 := hide (H39.out.laid (.cells #[.int .i64 m0, .int .i64 m1, .string m2, .string m3, .int .i64 m4] 62))
                  generalize wq39.alloc (.cells #[.int .i64 m0, .int .i64 m1, .string m2, .string m3, .int .i64 m4] 62) = wq41 at H41 hsrc41 ⊢
                  clear H39
                  refine wpAnyH_ready (rs := [9]) (by kernel_rfl) (by simp) ?_
                  refine AllReadyH.cons nat9 (fun K hK => ?_) AllReadyH.nil
                  refine step_append_meta rfl (.tmp 20) (.tmp 27) 44 rfl Try.underlying44 (F + 1) vo _ [⟨m0, m1, m2, m3, m4⟩] (by rfl) H41.out.own ⟨wq39.heap.size, 0, none⟩ 1 1 (by rfl) rfl (meta_news (e := ⟨m0, m1, m2, m3, m4⟩) hsrc41) H41.out.hB (by rw [hrd]; omega) ?_
                  intro v' wq42 how42 hgr42
                  obtain ⟨ga42, ca42, hsv42⟩ := how42.some (by simp)
                  rw [List.length_append, hrd] at hsv42
                  obtain rfl : v' = .slice (some ⟨ga42, 0, none⟩) (k + 1) ca42 := hsv42
                  have H42 := hide (H41.out.app how42 hgr42)
                  refine hK.out _ _ trivial (fun _ => ?_)
                  clear hK K how42 hgr42 H41 hsrc41
                  simp only [Act.put, List.setIfInBounds_toArray, List.set_cons_zero, List.set_cons_succ]
                  refine wpAnyH_take (i := 10) (v := .pointer (some ⟨F, 0, none⟩)) nat10 (by kernel_rfl) (by kernel_rfl) (by kernel_rfl) (fun _ _ _ h => False.elim h) (Or.inl ⟨by rfl, ?_⟩) trivial ?_
                  · intro wx hSw
                    go_simp
                  simp only [Act.put, List.setIfInBounds_toArray, List.set_cons_zero, List.set_cons_succ]
                  refine wpAnyH_ready (rs := [11]) (by kernel_rfl) (by simp) ?_
                  refine AllReadyH.cons nat11 (fun K hK => ?_) AllReadyH.nil
                  have yl := H42.out.bx.cell 0
                  simp only [List.getElem?_toArray, List.getElem?_cons_succ, List.getElem?_cons_zero] at yl
                  have yf := H42.out.bx.free
                  go_simp
                  refine hK.out _ _ trivial (fun _ => ?_)
                  have H43 := hide H42.out.put
                  clear hK K yl yf H42
                  generalize wq42.setCell ⟨F, 0, none⟩ (.slice (some ⟨ga42, 0, none⟩) (k + 1) ca42) = wq43 at H43 ⊢
                  refine wpAnyH_done (by kernel_rfl) ?_ _
                  refine NoPanic.normal ?_
                  go_wp2
                  exact ⟨⟨k + 1, _, by go_num, by omega, HSTEP H43⟩, by simp [intOf]; omega⟩
                · go_simp
                  refine hK.out _ _ trivial (fun _ => ?_)
                  clear hK K
                  have hsrc44 : BoxIs (wq39.alloc (.cells #[.int .i64 m0, .int .i64 m1, .string m2, .string m3, .int .i64 m4] 62)) wq39.heap.size #[.int .i64 m0, .int .i64 m1, .string m2, .string m3, .int .i64 m4] 62 := BoxIs.new _ _ _ rfl
                  have H44 := hide (H39.out.laid (.cells #[.int .i64 m0, .int .i64 m1, .string m2, .string m3, .int .i64 m4] 62))
                  generalize wq39.alloc (.cells #[.int .i64 m0, .int .i64 m1, .string m2, .string m3, .int .i64 m4] 62) = wq44 at H44 hsrc44 ⊢
                  clear H39
                  refine wpAnyH_ready (rs := [1]) (by kernel_rfl) (by simp) ?_
                  refine AllReadyH.cons nat1 (fun K hK => ?_) AllReadyH.nil
                  have yl := H44.out.bx.cell 0
                  simp only [List.getElem?_toArray, List.getElem?_cons_succ, List.getElem?_cons_zero] at yl
                  go_simp
                  refine hK.out _ _ trivial (fun _ => ?_)
                  clear hK K yl
                  refine wpAnyH_ready (rs := [9]) (by kernel_rfl) (by simp) ?_
                  refine AllReadyH.cons nat9 (fun K hK => ?_) AllReadyH.nil
                  refine step_append_meta rfl (.tmp 20) (.tmp 27) 44 rfl Try.underlying44 (F + 1) vo _ [⟨m0, m1, m2, m3, m4⟩] (by rfl) H44.out.own ⟨wq39.heap.size, 0, none⟩ 1 1 (by rfl) rfl (meta_news (e := ⟨m0, m1, m2, m3, m4⟩) hsrc44) H44.out.hB (by rw [hrd]; omega) ?_
                  intro v' wq46 how46 hgr46
                  obtain ⟨ga46, ca46, hsv46⟩ := how46.some (by simp)
                  rw [List.length_append, hrd] at hsv46
                  obtain rfl : v' = .slice (some ⟨ga46, 0, none⟩) (k + 1) ca46 := hsv46
                  have H46 := hide (H44.out.app how46 hgr46)
                  refine hK.out _ _ trivial (fun _ => ?_)
                  clear hK K how46 hgr46 H44 hsrc44
                  simp only [Act.put, List.setIfInBounds_toArray, List.set_cons_zero, List.set_cons_succ]
                  refine wpAnyH_take (i := 10) (v := .pointer (some ⟨F, 0, none⟩)) nat10 (by kernel_rfl) (by kernel_rfl) (by kernel_rfl) (fun _ _ _ h => False.elim h) (Or.inl ⟨by rfl, ?_⟩) trivial ?_
                  · intro wx hSw
                    go_simp
                  simp only [Act.put, List.setIfInBounds_toArray, List.set_cons_zero, List.set_cons_succ]
                  refine wpAnyH_ready (rs := [11]) (by kernel_rfl) (by simp) ?_
                  refine AllReadyH.cons nat11 (fun K hK => ?_) AllReadyH.nil
                  have yl := H46.out.bx.cell 0
                  simp only [List.getElem?_toArray, List.getElem?_cons_succ, List.getElem?_cons_zero] at yl
                  have yf := H46.out.bx.free
                  go_simp
                  refine hK.out _ _ trivial (fun _ => ?_)
                  have H47 := hide H46.out.put
                  clear hK K yl yf H46
                  generalize wq46.setCell ⟨F, 0, none⟩ (.slice (some ⟨ga46, 0, none⟩) (k + 1) ca46) = wq47 at H47 ⊢
                  refine wpAnyH_done (by kernel_rfl) ?_ _
                  refine NoPanic.normal ?_
                  go_wp2
                  exact ⟨⟨k + 1, _, by go_num, by omega, HSTEP H47⟩, by simp [intOf]; omega⟩
    · obtain rfl : k = m := by omega
      have HCk : Hid (vC s = vc (rdv (v4 s) k).1 x1 x2 x3) := HC.out
      have hrd := rdv_len (v4 s) k
      have HR := HR0
      clear HR0 HC
      generalize (rdv (v4 s) k).1 = ms at HR HCk hrd
      generalize (rdv (v4 s) k).2 = R at HR
      subst hrd
      obtain ⟨ar, cap, hvo, hO⟩ := HR.out.own.arg
      subst hvo
      have HI : Hid (VersionIs wr (.agg #[.slice ar ms.length cap, .int .i64 x1, .int .i64 x2, .int .i64 x3]) (vc ms x1 x2 x3)) := ⟨ar, cap, rfl, hO⟩
      have hfit : (vc ms x1 x2 x3).Fit := by show ms.length ≤ 1048576; omega
      have cb := impl_VersionOk _ _ wr hfit HI.out
      have ct := fun (wx : World) (hb : Below wr.heap.size wr wx) => impl_VersionText _ _ wx hfit (HI.out.next hb)
      have o0 := HR.out.res.cell 0
      have o1 := HR.out.res.cell 1
      have o2 := HR.out.res.cell 2
      have o3 := HR.out.res.cell 3
      have of := HR.out.res.free
      have y0 := HR.out.bx.cell 0
      have y1 := HR.out.bx.cell 1
      have y2 := HR.out.bx.cell 2
      have y3 := HR.out.bx.cell 3
      simp only [List.getElem?_toArray, List.getElem?_cons_succ, List.getElem?_cons_zero] at o0 o1 o2 o3 y0 y1 y2 y3
      have HVOk : Hid (vOk s = (versB (vc ms x1 x2 x3) && decide (versT (vc ms x1 x2 x3) = s))) := by show _ = _; rw [HVO.out, HCk.out]
      clear hO HVO
      cases hok : versB (vc ms x1 x2 x3) with
      | false =>
        have HV : Hid (vOk s = false) := by show _ = _; rw [HVOk.out, hok, Bool.false_and]
        rw [hok] at cb
        clear hok HVOk ct
        go_wp2_with fail
        refine cb.mono ?_
        rintro e w7 ⟨rfl, hb7⟩
        have p0 := HR.out.res.next hb7
        have q0 := p0.cell 0
        have q1 := p0.cell 1
        have q2 := p0.cell 2
        have q3 := p0.cell 3
        have qf := p0.free
        simp only [List.getElem?_toArray, List.getElem?_cons_succ, List.getElem?_cons_zero] at q0 q1 q2 q3
        have HB7 : Hid (Below w.heap.size w w7) := HR.out.low.trans (hb7.mono HR.out.low.size)
        clear p0 hb7 cb o0 o1 o2 o3 of y0 y1 y2 y3
        go_wp2
        refine bodyPost_ret (v := .tuple #[.agg #[.slice none 0 0, .int .i64 0, .int .i64 0, .int .i64 0], .bool false]) (by simp [results, Try.results23, go_sem, q0, q1, q2, q3]) rfl ⟨⟨_, by rw [HV.out], by rw [readV_no HV.out]; exact zeroV_own _ _⟩, ?_⟩
        exact (((HB7.out.setCell (Nat.le_refl _) _).setCell (Nat.le_refl _) _).setCell (Nat.le_refl _) _).setCell (Nat.le_refl _) _
      | true =>
        rw [hok] at cb
        by_cases ht : versT (vc ms x1 x2 x3) = s
        · have HV : Hid (vOk s = true) := by show _ = _; rw [HVOk.out, hok, ht]; simp
          rw [ht] at ct
          have HCk2 : Hid (readV s = vc ms x1 x2 x3) := by show _ = _; rw [readV_yes HV.out]; exact HCk.out
          clear hok HVOk ht HCk
          go_wp2_with fail
          refine cb.mono ?_
          rintro e w7 ⟨rfl, hb7⟩
          have y0 := (HR.out.bx.next hb7).cell 0
          have y1 := (HR.out.bx.next hb7).cell 1
          have y2 := (HR.out.bx.next hb7).cell 2
          have y3 := (HR.out.bx.next hb7).cell 3
          simp only [List.getElem?_toArray, List.getElem?_cons_succ, List.getElem?_cons_zero] at y0 y1 y2 y3
          clear cb o0 o1 o2 o3 of
          go_wp2_with fail
          refine (ct _ hb7).mono ?_
          rintro e w8 ⟨rfl, hb8⟩
          have hb8' := hb7.trans (hb8.mono hb7.size)
          have p0 := HR.out.res.next hb8'
          have p1 := HR.out.bx.next hb8'
          have q0 := p0.cell 0
          have q1 := p0.cell 1
          have q2 := p0.cell 2
          have q3 := p0.cell 3
          have qf := p0.free
          have r0 := p1.cell 0
          have r1 := p1.cell 1
          have r2 := p1.cell 2
          have r3 := p1.cell 3
          simp only [List.getElem?_toArray, List.getElem?_cons_succ, List.getElem?_cons_zero] at q0 q1 q2 q3 r0 r1 r2 r3
          have HB8 : Hid (Below w.heap.size w w8) := HR.out.low.trans (hb8'.mono HR.out.low.size)
          have HOW : Hid (OwnMeta w8 (F + 1) (.slice ar ms.length cap) ms) := HR.out.own.next hb8'
          have hn1 := HR.out.n1
          have hn2 := HR.out.n2
          clear p0 p1 hb7 hb8 hb8' ct y0 y1 y2 y3
          go_wp2
          refine bodyPost_ret (v := .tuple #[.agg #[.slice ar ms.length cap, .int .i64 x1, .int .i64 x2, .int .i64 x3], .bool true]) (by simp [results, Try.results23, go_sem, q0, q1, q2, q3]) rfl ⟨⟨_, by rw [HV.out], ?_⟩, ?_⟩
          · rw [HCk2.out]
            have how : OwnMeta ((((w8.setCell ⟨w.heap.size, 0, none⟩ (.slice ar ms.length cap)).setCell ⟨w.heap.size, 1, none⟩ (.int .i64 x1)).setCell ⟨w.heap.size, 2, none⟩ (.int .i64 x2)).setCell ⟨w.heap.size, 3, none⟩ (.int .i64 x3)) (F + 1) (.slice ar ms.length cap) ms :=
              ((((HOW.out.setOther (p := ⟨w.heap.size, 0, none⟩) (by show w.heap.size < F + 1; omega) _).setOther (p := ⟨w.heap.size, 1, none⟩) (by show w.heap.size < F + 1; omega) _).setOther (p := ⟨w.heap.size, 2, none⟩) (by show w.heap.size < F + 1; omega) _).setOther (p := ⟨w.heap.size, 3, none⟩) (by show w.heap.size < F + 1; omega) _)
            obtain ⟨a2, p2, hv2, hM2⟩ := (how.base (B' := w.heap.size) (by omega)).mine
            exact ⟨a2, p2, by rw [hv2]; rfl, hM2⟩
          · exact (((HB8.out.setCell (Nat.le_refl _) _).setCell (Nat.le_refl _) _).setCell (Nat.le_refl _) _).setCell (Nat.le_refl _) _
        · have HV : Hid (vOk s = false) := by show _ = _; rw [HVOk.out, hok, decide_eq_false ht]; rfl
          clear hok HVOk HCk
          generalize versT (vc ms x1 x2 x3) = T at ct ht
          have hu2 := toList_neV ht
          have hu1 : (T.toList == s.toList) = false := by simpa using hu2
          clear ht
          go_wp2_with fail
          refine cb.mono ?_
          rintro e w7 ⟨rfl, hb7⟩
          have y0 := (HR.out.bx.next hb7).cell 0
          have y1 := (HR.out.bx.next hb7).cell 1
          have y2 := (HR.out.bx.next hb7).cell 2
          have y3 := (HR.out.bx.next hb7).cell 3
          simp only [List.getElem?_toArray, List.getElem?_cons_succ, List.getElem?_cons_zero] at y0 y1 y2 y3
          clear cb o0 o1 o2 o3 of
          go_wp2_with fail
          refine (ct _ hb7).mono ?_
          rintro e w8 ⟨rfl, hb8⟩
          have hb8' := hb7.trans (hb8.mono hb7.size)
          have p0 := HR.out.res.next hb8'
          have q0 := p0.cell 0
          have q1 := p0.cell 1
          have q2 := p0.cell 2
          have q3 := p0.cell 3
          have qf := p0.free
          simp only [List.getElem?_toArray, List.getElem?_cons_succ, List.getElem?_cons_zero] at q0 q1 q2 q3
          have HB8 : Hid (Below w.heap.size w w8) := HR.out.low.trans (hb8'.mono HR.out.low.size)
          clear p0 hb7 hb8 hb8' ct y0 y1 y2 y3
          go_wp2
          refine bodyPost_ret (v := .tuple #[.agg #[.slice none 0 0, .int .i64 0, .int .i64 0, .int .i64 0], .bool false]) (by simp [results, Try.results23, go_sem, q0, q1, q2, q3]) rfl ⟨⟨_, by rw [HV.out], by rw [readV_no HV.out]; exact zeroV_own _ _⟩, ?_⟩
          exact (((HB8.out.setCell (Nat.le_refl _) _).setCell (Nat.le_refl _) _).setCell (Nat.le_refl _) _).setCell (Nat.le_refl _) _

end Go.Proofs.Ytplemoedpdammaa

/- A number of at most 10 to the 12, and a section, as the model reads them. (By gen_readvs.py once.) -/
namespace Go.Proofs.Ytplemoedpdammaa
set_option maxRecDepth 100000
open Go.RowKit Go.Deep

theorem crc_bdV (s : ByteArray) : 0 ≤ crc s ∧ crc s ≤ 4294967295 := by
  have h := cfold_bd s.data.toList 4294967295 (by omega) (by omega)
  unfold crc
  exact xor_u32_bd _ _ h.1 h.2 (by omega) (by omega)
theorem vB_le (s : ByteArray) : (vB s).size ≤ 60000 := by
  unfold vB
  cases h : rtx s with
  | none => rw [rtext_none h]; exact Nat.zero_le _
  | some x =>
    obtain ⟨k, e⟩ := x
    obtain ⟨m, rfl, h1, h2⟩ := rtx_some h
    rw [rtext_some h]
    simp only [ByteArray.size_extract]
    omega
theorem takeVar_noneV {s : ByteArray} (h : tva s 10 0 0 = none) : takeVar s = .tuple #[.int .u64 0, .string ⟨#[]⟩, .bool false] := by rw [takeVar, h]
theorem takeVar_someV {s : ByteArray} {n : Int} {k : Nat} (h : tva s 10 0 0 = some (n, k)) : takeVar s = .tuple #[.int .u64 n, .string (s.extract k s.size), .bool true] := by rw [takeVar, h]

set_option maxHeartbeats 1000000 in
theorem spec_l12Int (s : ByteArray) (hs : s.size ≤ 1048576) (w : World) :
    Calls Try.prog 66 #[.string s] w fun e w' => e = .returned (.tuple #[.int .i64 (li s).1, .string (li s).2.1, .bool (li s).2.2]) ∧ Below w.heap.size w w' := by
  have c := fun wx => spec_TakeVar s (by unfold maxLen; omega) wx
  cases hv : tva s 10 0 0 with
  | none =>
    rw [takeVar_noneV hv] at c
    rw [li_none hv]
    clear hv
    go_enter Try.func66, Try.ntmps66
    go_wp2_with fail
    refine (c _).mono ?_
    rintro e w1 ⟨rfl, hb⟩
    go_wp2
    go_ret3
    exact ⟨rfl, hb⟩
  | some x =>
    obtain ⟨n, k⟩ := x
    have h0 := (put_take s hv).1
    rw [takeVar_someV hv] at c
    by_cases hn : 1000000000000 < n
    · rw [li_big hv hn]
      clear hv
      go_enter Try.func66, Try.ntmps66
      go_wp2_with fail
      refine (c _).mono ?_
      rintro e w1 ⟨rfl, hb⟩
      go_wp2
      go_ret3
      exact ⟨rfl, hb⟩
    · rw [li_some hv hn]
      have hw : IntKind.i64.wrap n = n := by rw [IntKind.wrap_i64]; omega
      have hw2 : wrap64 n = n := by unfold wrap64; omega
      clear hv
      generalize s.extract k s.size = R at c ⊢
      go_enter Try.func66, Try.ntmps66
      go_wp2_with fail
      refine (c _).mono ?_
      rintro e w1 ⟨rfl, hb⟩
      go_wp2
      go_ret3
      exact ⟨rfl, hb⟩

set_option maxHeartbeats 1000000 in
theorem spec_l10Take (s : ByteArray) (hs : s.size ≤ 1048576) (w : World) :
    Calls Try.prog 65 #[.string s, .int .i64 0] w fun e w' => (∃ b ok, e = .returned (.tuple #[.string b, .bool ok]) ∧ (ok = true → b = vB s) ∧ (s = sect (vB s) → ok = true) ∧ b.size ≤ 60000) ∧ Below w.heap.size w w' := by
  have hB := vB_le s
  have hnn : ¬ ((s.size : Int) < 0) := by omega
  have hx0 : s.extract 0 s.size = s := ByteArray.extract_zero_size
  have ct := fun wx => spec_TakeText s hs wx
  rw [takeText_rtV s] at ct
  have hS : s = sect (vB s) → rtext s = (vB s, fx4 (crc (vB s)), false) := fun h => by
    have := rtext_putV (vB s) (fx4 (crc (vB s))) hB
    unfold sect at h
    rw [← h] at this
    exact this
  have hrz := (rtext_bd s).1
  have hV : Hid (vB s = (rtext s).1) := rfl
  cases hl : (rtext s).2.2 with
  | true =>
    have HN : Hid (s = sect (vB s) → false = true) := fun h => by have := hS h; rw [this] at hl; cases hl
    simp only [hl, Bool.not_true] at ct
    generalize (rtext s).1 = b at ct hV
    generalize (rtext s).2.1 = r at ct hrz
    have cf := fun wx => spec_TakeFixed r wx
    have HN2 := HN
    clear hS hl
    by_cases h4 : r.size < 4
    · rw [takeFixed, if_pos h4] at cf
      go_enter Try.func65, Try.ntmps65
      go_wp2_with fail
      refine (ct _).mono ?_
      rintro e w1 ⟨rfl, hb1⟩
      go_wp2_with fail
      refine (cf _).mono ?_
      rintro e w2 ⟨rfl, hb2⟩
      have HBB := hide (hb1.trans (hb2.mono hb1.size))
      clear ct cf hb1 hb2
      go_wp2
      go_ret2
      exact ⟨⟨_, _, rfl, fun h => Bool.noConfusion h, HN2.out, by decide⟩, HBB.out⟩
    · rw [takeFixed, if_neg h4] at cf
      go_enter Try.func65, Try.ntmps65
      go_wp2_with fail
      refine (ct _).mono ?_
      rintro e w1 ⟨rfl, hb1⟩
      go_wp2_with fail
      refine (cf _).mono ?_
      rintro e w2 ⟨rfl, hb2⟩
      have HBB := hide (hb1.trans (hb2.mono hb1.size))
      clear ct cf hb1 hb2
      go_wp2
      go_ret2
      exact ⟨⟨_, _, rfl, fun h => Bool.noConfusion h, HN2.out, by decide⟩, HBB.out⟩
  | false =>
    simp only [hl, Bool.not_false] at ct
    have HS : Hid (s = sect (vB s) → (rtext s).2.1 = fx4 (crc (vB s))) := fun h => by rw [hS h]
    rw [hV.out] at hB HS ⊢
    generalize (rtext s).1 = b at ct hB HS ⊢
    generalize (rtext s).2.1 = r at ct hrz HS
    have cf := fun wx => spec_TakeFixed r wx
    have cc := fun wx => spec_Crc b (by unfold maxLen; omega) wx
    have hcb := crc_bdV b
    clear hS hl hV
    by_cases h4 : r.size < 4
    · have HN : Hid (s = sect b → false = true) := fun h => by have := HS.out h; rw [this, fx4_size] at h4; omega
      rw [takeFixed, if_pos h4] at cf
      clear HS
      go_enter Try.func65, Try.ntmps65
      go_wp2_with fail
      refine (ct _).mono ?_
      rintro e w1 ⟨rfl, hb1⟩
      go_wp2_with fail
      refine (cf _).mono ?_
      rintro e w2 ⟨rfl, hb2⟩
      have HBB := hide (hb1.trans (hb2.mono hb1.size))
      clear ct cf cc hb1 hb2
      go_wp2
      go_ret2
      exact ⟨⟨_, _, rfl, fun h => Bool.noConfusion h, HN.out, by decide⟩, HBB.out⟩
    · rw [takeFixed, if_neg h4] at cf
      generalize r.extract 4 r.size = r2 at cf
      by_cases hc : tf4 r = crc b
      · clear HS
        rw [hc] at cf
        generalize crc b = c at *
        go_enter Try.func65, Try.ntmps65
        go_wp2_with fail
        refine (ct _).mono ?_
        rintro e w1 ⟨rfl, hb1⟩
        go_wp2_with fail
        refine (cf _).mono ?_
        rintro e w2 ⟨rfl, hb2⟩
        have HBB := hide (hb1.trans (hb2.mono hb1.size))
        clear ct cf hb1 hb2
        go_wp2_with fail
        refine (cc _).mono ?_
        rintro e w3 ⟨rfl, rfl⟩
        clear cc
        go_wp2
        go_ret2
        exact ⟨⟨_, _, rfl, fun _ => rfl, fun _ => rfl, hB⟩, HBB.out⟩
      · have HN : Hid (s = sect b → false = true) := fun h => by
          have := HS.out h
          rw [this] at hc
          have e := tf4_fx4 (crc b) hcb.1 (by omega) ⟨#[]⟩
          rw [append_nilV] at e
          exact absurd e hc
        clear HS
        generalize tf4 r = d at *
        generalize crc b = c at *
        go_enter Try.func65, Try.ntmps65
        go_wp2_with fail
        refine (ct _).mono ?_
        rintro e w1 ⟨rfl, hb1⟩
        go_wp2_with fail
        refine (cf _).mono ?_
        rintro e w2 ⟨rfl, hb2⟩
        have HBB := hide (hb1.trans (hb2.mono hb1.size))
        clear ct cf hb1 hb2
        go_wp2_with fail
        refine (cc _).mono ?_
        rintro e w3 ⟨rfl, rfl⟩
        clear cc
        go_wp2
        go_ret2
        exact ⟨⟨_, _, rfl, fun h => Bool.noConfusion h, HN.out, by decide⟩, HBB.out⟩

end Go.Proofs.Ytplemoedpdammaa

/- What the walks of ReadVersion of the model share. (By gen_readvs2.py.) -/
namespace Go.Proofs.Ytplemoedpdammaa
set_option maxRecDepth 100000
open Go.RowKit Go.Deep

/-- 'append(v, m)', m just laid. -/
theorem wpList_append_m1 {w : World} {ops : Array Oper} {rest : List Oper} {o : Oper} {a : Act} {Q : Exit → Act → World → Prop} (hgd : o.guard = none) (s x : Operand) (t : TypeId)
    (ho : o.op = .call { callee := .builtin .append, args := #[s, x], argTypes := #[t, t] }) (ht : Try.prog.underlying t = some (.slice 62))
    (B : Nat) (v : Value) (es : List Meta1) (m : Meta1) (hs : a.eval s = v) (hx : a.eval x = .slice (some ⟨w.heap.size, 0, none⟩) 1 1) (hown : OwnMeta w B v es) (hB : B ≤ w.heap.size) (hlen : es.length < 1000000)
    (h : ∀ v' w', OwnMeta w' B v' (es ++ [m]) → Below B w w' → wpList Try.prog ops Q rest (a.put o.dst v') w') :
    wpList Try.prog ops Q (o :: rest) a (w.alloc (.cells #[.int .i64 m.n, .int .i64 m.l, .string m.f, .string m.z, .int .i64 m.c] 62)) := by
  have hb := below_one w (.cells #[.int .i64 m.n, .int .i64 m.l, .string m.f, .string m.z, .int .i64 m.c] 62)
  refine wpList_append_meta hgd s x t ho ht B v es [m] hs (hown.next hb) ⟨w.heap.size, 0, none⟩ 1 1 hx rfl (meta_news (BoxIs.new w _ _ rfl)) (Nat.le_trans hB hb.size) (by omega) ?_
  intro v' w' h1 h2
  exact h v' w' h1 ((hb.mono hB).trans h2)

/-- While the model reads files. -/
structure SvS (w : World) (F : Nat) (x1 x2 x3 : Int) (v vo : Value) (ms : List Meta1) (x : World) : Prop where
  bx : BoxIs x F #[v, .int .i64 x1, .int .i64 x2, .int .i64 x3] 46
  res : BoxIs x w.heap.size #[.slice none 0 0, .int .i64 0, .int .i64 0, .int .i64 0] 46
  own : OwnMeta x (F + 1) vo ms
  low : Below w.heap.size w x
  hB : F + 1 ≤ x.heap.size
  n2 : w.heap.size < F
section
variable {w : World} {F : Nat} {x1 x2 x3 : Int} {v vo : Value} {ms : List Meta1} {x : World}
theorem SvS.next (h : SvS w F x1 x2 x3 v vo ms x) {y : World} (hb : Below x.heap.size x y) : SvS w F x1 x2 x3 v vo ms y :=
  ⟨h.bx.next hb, h.res.next hb, h.own.next hb, h.low.trans (hb.mono h.low.size), Nat.le_trans h.hB hb.size, h.n2⟩
theorem SvS.app (h : SvS w F x1 x2 x3 v vo ms x) {y : World} {v' : Value} {es : List Meta1} (how : OwnMeta y (F + 1) v' es) (hb : Below (F + 1) x y) : SvS w F x1 x2 x3 v v' es y := by
  have := h.n2
  exact ⟨h.bx.below hb (by omega), h.res.below hb (by omega), how, h.low.trans (hb.mono (by omega)), Nat.le_trans h.hB hb.size, h.n2⟩
theorem SvS.put (h : SvS w F x1 x2 x3 v vo ms x) : SvS w F x1 x2 x3 vo vo ms (x.setCell ⟨F, 0, none⟩ vo) := by
  have h2 := h.n2
  have hb : Below F x (x.setCell ⟨F, 0, none⟩ vo) := (Below.refl _ _).setCell (p := ⟨F, 0, none⟩) (Nat.le_refl _) _
  have hm : Mv F x (x.setCell ⟨F, 0, none⟩ vo) := (Mv.refl _ _).setCell _
  exact ⟨h.bx.set 0 vo, h.res.below hb (by omega), h.own.mv hm (by omega), h.low.trans (hb.mono (by omega)), Nat.le_trans h.hB hm.size, h.n2⟩
end
theorem takeText_empty : takeText ⟨#[]⟩ = .tuple #[.string ⟨#[]⟩, .string ⟨#[]⟩, .bool false] := rfl
theorem li_empty : li ⟨#[]⟩ = (0, ⟨#[]⟩, false) := rfl
theorem rtext_lost {r : ByteArray} (h : (rtext r).2.2 = true) : rtext r = (⟨#[]⟩, ⟨#[]⟩, true) := by
  cases hx : rtx r with
  | none => exact rtext_none hx
  | some x => obtain ⟨k, e⟩ := x; rw [rtext_some hx] at h; cases h
theorem vOk_lost {s : ByteArray} (h : vOk s = true → False) : vOk s = false := Bool.eq_false_iff.2 h

/-- The answer where there is no version. -/
theorem bad_endV {s : ByteArray} {w w' : World} (HV : vOk s = false) (h : Below w.heap.size w w') :
    (∃ v, Ending.returned (.tuple #[.agg #[.slice none 0 0, .int .i64 0, .int .i64 0, .int .i64 0], .bool false]) = .returned (.tuple #[v, .bool (vOk s)]) ∧ VersionOwn w' w.heap.size v (readV s)) ∧ Below w.heap.size w w' :=
  ⟨⟨_, by rw [HV], by rw [readV_no HV]; exact zeroV_own _ _⟩, h⟩


end Go.Proofs.Ytplemoedpdammaa

/- ReadVersion of the model: where the head is right. (By gen_readvs2.py.) -/
namespace Go.Proofs.Ytplemoedpdammaa
set_option maxRecDepth 100000
open Go.RowKit Go.Deep

set_option linter.unusedVariables false in
set_option linter.unusedSimpArgs false in
set_option maxHeartbeats 8000000 in
theorem spec_ReadVersion_loop (s : ByteArray) (hs : s.size ≤ 1048576) (hsec : sect (vB s) = s) (h0 : (li (vB s)).2.2 = true) (h1 : (li (v1 s)).2.2 = true) (h2 : (li (v2 s)).2.2 = true) (h3 : (li (v3 s)).2.2 = true) (hn : (rnum (v3 s)).1 ≤ 30) (w : World) :
    Calls Try.prog 28 #[.string s] w fun e w' => (∃ v, e = .returned (.tuple #[v, .bool (vOk s)]) ∧ VersionOwn w' w.heap.size v (readV s)) ∧ Below w.heap.size w w' := by
  obtain ⟨zB, z1, z2, z3, z4⟩ := v_size s
  have hvB := vB_le s
  have hb0 := below_one w (.cells #[.slice none 0 0, .int .i64 0, .int .i64 0, .int .i64 0] 46)
  have hf0 := BoxIs.new w #[.slice none 0 0, .int .i64 0, .int .i64 0, .int .i64 0] 46 rfl
  have cE := fun wx => spec_l12Int ⟨#[]⟩ (by decide) wx
  simp only [li_empty] at cE
  go_enter Try.func28, Try.ntmps28
  go_wp2_with fail
  generalize w.alloc (.cells #[.slice none 0 0, .int .i64 0, .int .i64 0, .int .i64 0] 46) = W at hb0 hf0 ⊢
  refine (spec_l10Take s hs W).mono ?_
  rintro e w1 ⟨⟨b, ok, rfl, hok1, hok2, hbz⟩, hb1⟩
  have hf1 := hf0.next hb1
  have hB1 := hb0.trans (hb1.mono hb0.size)
  clear hb0 hf0 hb1
  obtain rfl := hok2 hsec.symm
  obtain rfl := hok1 rfl
  clear hok1 hok2 hbz
  go_wp2_with fail
  refine (spec_section (vB s) (by omega) _).mono ?_
  rintro e w2 ⟨rfl, hb2⟩
  have hf2 := hf1.next hb2
  have hB2 := hB1.trans (hb2.mono hB1.size)
  clear hb2 hf1 hB1
  rw [hsec]
  have HSEC : Hid (s = sect (vB s)) := hsec.symm
  clear hsec
  have C0 := fun wx => spec_l12Int (vB s) (by omega) wx
  have C1 := fun wx => spec_l12Int (v1 s) (by omega) wx
  have C2 := fun wx => spec_l12Int (v2 s) (by omega) wx
  have C3 := fun wx => spec_l12Int (v3 s) (by omega) wx
  have Z4 : Hid ((v4 s).size ≤ 1048576) := by show _ ≤ _; omega
  have F1 : Hid (vOk s = true → (li (vB s)).2.2 = true ∧ (li (v1 s)).2.2 = true ∧ (li (v2 s)).2.2 = true ∧ (li (v3 s)).2.2 = true ∧ (rnum (v3 s)).1 ≤ 30 ∧ (∀ j, j < vN s → mtS (rdv (v4 s) j).2 = true) ∧ (rdv (v4 s) (vN s)).2.size = 0 ∧ versB (vC s) = true) := fun h => by
    obtain ⟨_, _, a, b, c, d, e, f, g⟩ := ver_ok h
    exact ⟨a, b, c, d, e, f, g, (vOk_out h).1⟩
  have F2 : Hid ((li (vB s)).2.2 = true → (li (v1 s)).2.2 = true → (li (v2 s)).2.2 = true → (li (v3 s)).2.2 = true → (rnum (v3 s)).1 ≤ 30 → (∀ j, j < vN s → mtS (rdv (v4 s) j).2 = true) → (rdv (v4 s) (vN s)).2.size = 0 → versB (vC s) = true → vOk s = true) := fun a b c d e f g h => ver_back HSEC.out a b c d e f g h
  have F3 : Hid (vC s = vc (rdv (v4 s) (vN s)).1 (rnum (vB s)).1 (rnum (v1 s)).1 (rnum (v2 s)).1) := by show _ = _; rw [vC, vL]
  have F5 : Hid ((li (v3 s)).2.2 = true → (rnum (v3 s)).1 ≤ 30 → (rnum (v3 s)).1 = ((vN s : Nat) : Int)) := fun a b => by
    have h0 := (li_rnum a).2.2.1
    unfold vN; rw [if_pos (by omega)]; omega
  have E0 : Hid ((li (vB s)).2.2 = true → li (vB s) = ((rnum (vB s)).1, v1 s, true)) := fun h => by rw [v1_def]; exact (li_rnum h).1
  have E1 : Hid ((li (v1 s)).2.2 = true → li (v1 s) = ((rnum (v1 s)).1, v2 s, true)) := fun h => by rw [v2_def]; exact (li_rnum h).1
  have E2 : Hid ((li (v2 s)).2.2 = true → li (v2 s) = ((rnum (v2 s)).1, v3 s, true)) := fun h => by rw [v3_def]; exact (li_rnum h).1
  have E3 : Hid ((li (v3 s)).2.2 = true → li (v3 s) = ((rnum (v3 s)).1, v4 s, true)) := fun h => by rw [v4_def]; exact (li_rnum h).1
  clear zB z1 z2 z3 z4 hvB
  generalize (rnum (vB s)).1 = x1 at *
  generalize (rnum (v1 s)).1 = x2 at *
  generalize (rnum (v2 s)).1 = x3 at *
  generalize (rnum (v3 s)).1 = nn at *
  generalize v4 s = A4 at *
  generalize v3 s = A3 at *
  generalize v2 s = A2 at *
  generalize v1 s = A1 at *
  generalize vB s = AB at *
  generalize vN s = m at *
  have e0 := E0.out h0
  simp only [e0] at C0
  have e1 := E1.out h1
  simp only [e1] at C1
  have e2 := E2.out h2
  simp only [e2] at C2
  have e3 := E3.out h3
  simp only [e3] at C3
  have hN := F5.out h3 hn
  subst hN
  have hns : ¬ (30 : Int) < (m : Int) := by omega
  have HN30 : Hid (m ≤ 30) := by show _ ≤ _; omega
  have HBACK : Hid ((∀ j, j < m → mtS (rdv A4 j).2 = true) → (rdv A4 m).2.size = 0 → versB (vC s) = true → vOk s = true) := fun a b c => F2.out h0 h1 h2 h3 hn a b c
  have HC := F3
  have HM1 : Hid (vOk s = true → (∀ j, j < m → mtS (rdv A4 j).2 = true) ∧ (rdv A4 m).2.size = 0 ∧ versB (vC s) = true) := fun h => (F1.out h).2.2.2.2.2
  clear e0 e1 e2 e3 h0 h1 h2 h3 E0 E1 E2 E3 F1 F2 F3 F5 hn
  go_wp2_with fail
  refine (C0 _).mono ?_
  rintro e wc0 ⟨rfl, hbc⟩
  have hfc0 := hf2.next hbc
  have hBc0 := hB2.trans (hbc.mono hB2.size)
  clear hbc
  go_wp2_with fail
  refine (C1 _).mono ?_
  rintro e wc1 ⟨rfl, hbc⟩
  have hfc1 := hfc0.next hbc
  have hBc1 := hBc0.trans (hbc.mono hBc0.size)
  clear hbc
  go_wp2_with fail
  refine (C2 _).mono ?_
  rintro e wc2 ⟨rfl, hbc⟩
  have hfc2 := hfc1.next hbc
  have hBc2 := hBc1.trans (hbc.mono hBc1.size)
  clear hbc
  go_wp2_with fail
  refine (C3 _).mono ?_
  rintro e wc3 ⟨rfl, hbc⟩
  have hfc3 := hfc2.next hbc
  have hBc3 := hBc2.trans (hbc.mono hBc2.size)
  clear hbc
  have hltc := hfc3.lt
  have hb5 := below_one wc3 (.cells #[.slice none 0 0, .int .i64 x1, .int .i64 x2, .int .i64 x3] 46)
  have HS5 : Hid (SvS w wc3.heap.size x1 x2 x3 (.slice none 0 0) (.slice none 0 0) (rdv A4 0).1 (wc3.alloc (.cells #[.slice none 0 0, .int .i64 x1, .int .i64 x2, .int .i64 x3] 46))) :=
    ⟨BoxIs.new wc3 _ _ rfl, hfc3.next hb5, OwnMeta.nil _ _, hBc3.trans (hb5.mono hBc3.size), by simp, hltc⟩
  clear hb5 C0 C1 C2 C3 hf2 hB2 hfc0 hBc0 hfc1 hBc1 hfc2 hBc2 hfc3 hBc3 hltc
  go_wp2
  generalize wc3.alloc (.cells #[.slice none 0 0, .int .i64 x1, .int .i64 x2, .int .i64 x3] 46) = W5 at HS5 ⊢
  obtain ⟨F, hFe⟩ : ∃ F, wc3.heap.size = F := ⟨_, rfl⟩
  rw [hFe] at HS5 ⊢
  clear hFe
  go_loopw [16, 19] (fun r i wr => ∃ (k : Nat) (vo : Value), r = .string (rdv A4 k).2 ∧ i = .int .i64 k ∧ k ≤ m ∧ Hid (∀ j, j < k → mtS (rdv A4 j).2 = true) ∧ Hid (SvS w F x1 x2 x3 vo vo (rdv A4 k).1 wr)) (fun _ i _ => m - (intOf i).toNat)
  case atStart => exact ⟨0, _, by rw [rdv_z], rfl, Nat.zero_le _, fun j hj => absurd hj (by omega), HS5⟩
  case round =>
    obtain ⟨k, vo, rfl, rfl, hk, HM, HR⟩ := hrel
    clear HS5
    have hN30 := HN30.out
    by_cases hlt : k < m
    · have hki : (k : Int) < (m : Int) := by omega
      have hrd := rdv_len A4 k
      have hRz := rdv_size A4 k
      have HSTEP1 : Hid ((rdv A4 (k + 1)).1 = (rdv A4 k).1 ++ [mtAt (rdv A4 k).2]) := rdv_s1 _ _
      have HSTEP2 : Hid ((rdv A4 (k + 1)).2 = mtR (rdv A4 k).2) := rdv_s2 _ _
      have HLOST : Hid (mtS (rdv A4 k).2 = false → vOk s = false) := fun h => vOk_lost fun h2 => by
        have := (HM1.out h2).1 k hlt
        rw [this] at h; cases h
      have HM2 : Hid (mtS (rdv A4 k).2 = true → ∀ j, j < k + 1 → mtS (rdv A4 j).2 = true) := fun h j hj => by
        rcases Nat.lt_or_eq_of_le (Nat.le_of_lt_succ hj) with h3 | h3
        · exact HM.out j h3
        · subst h3; exact h
      clear HM
      generalize hRe : (rdv A4 k).2 = R at HSTEP1 HSTEP2 HLOST HM2 hRz ⊢
      clear hRe HC HBACK
      have hR4 : R.size ≤ 1048576 := Nat.le_trans hRz Z4.out
      clear hRz
      obtain ⟨y1, y2, y3, y4, y5⟩ := mt_size R
      have D0 := fun wx => spec_l12Int R (by omega) wx
      have D1 := fun wx => spec_l12Int (mt1 R) (by omega) wx
      have D2 := fun wx => spec_TakeText (mt2 R) (by omega) wx
      have D3 := fun wx => spec_TakeText (mt3 R) (by omega) wx
      have D4 := fun wx => spec_l12Int (mt4 R) (by omega) wx
      have tE := fun wx => spec_TakeText ⟨#[]⟩ (by decide) wx
      simp only [takeText_empty] at tE
      simp only [takeText_rtV] at D2 D3
      simp only [← mt3_def] at D2
      simp only [← mt4_def] at D3
      have L0 : Hid ((li R).2.2 = false → vOk s = false) := fun h => HLOST.out (by unfold mtS; rw [h]; simp)
      have L1 : Hid ((li (mt1 R)).2.2 = false → vOk s = false) := fun h => HLOST.out (by unfold mtS; rw [h]; simp)
      have L2 : Hid ((rtext (mt2 R)).2.2 = true → vOk s = false) := fun h => HLOST.out (by unfold mtS; rw [h]; simp)
      have L3 : Hid ((rtext (mt3 R)).2.2 = true → vOk s = false) := fun h => HLOST.out (by unfold mtS; rw [h]; simp)
      have L4 : Hid ((li (mt4 R)).2.2 = false → vOk s = false) := fun h => HLOST.out (by unfold mtS; rw [h]; simp)
      have HM3 : Hid ((li R).2.2 = true → (li (mt1 R)).2.2 = true → (rtext (mt2 R)).2.2 = false → (rtext (mt3 R)).2.2 = false → (li (mt4 R)).2.2 = true → ∀ j, j < k + 1 → mtS (rdv A4 j).2 = true) := fun a b c d e => HM2.out (by unfold mtS; rw [a, b, c, d, e]; rfl)
      have G0 : Hid ((li R).2.2 = true → li R = ((rnum R).1, mt1 R, true)) := fun h => by rw [mt1_def]; exact (li_rnum h).1
      have G1 : Hid ((li (mt1 R)).2.2 = true → li (mt1 R) = ((rnum (mt1 R)).1, mt2 R, true)) := fun h => by rw [mt2_def]; exact (li_rnum h).1
      have G4 : Hid ((li (mt4 R)).2.2 = true → li (mt4 R) = ((rnum (mt4 R)).1, mtR R, true)) := fun h => by rw [mtR_def]; exact (li_rnum h).1
      have T2 : Hid ((rtext (mt2 R)).2.2 = true → (rtext (mt2 R)).1 = ⟨#[]⟩ ∧ mt3 R = ⟨#[]⟩) := fun h => by rw [mt3_def, rtext_lost h]; exact ⟨rfl, rfl⟩
      have T3 : Hid ((rtext (mt3 R)).2.2 = true → (rtext (mt3 R)).1 = ⟨#[]⟩ ∧ mt4 R = ⟨#[]⟩) := fun h => by rw [mt4_def, rtext_lost h]; exact ⟨rfl, rfl⟩
      have HAT : Hid (mtAt R = ⟨(rnum R).1, (rnum (mt1 R)).1, (rtext (mt2 R)).1, (rtext (mt3 R)).1, (rnum (mt4 R)).1⟩) := by show _ = _; rw [mtAt]
      clear y1 y2 y3 y4 y5 hR4 HLOST HM2
      have HRD := hide hrd
      have HLT := hide hlt
      clear hrd hlt hk hN30 hns
      generalize mtAt R = M at *
      generalize (rnum R).1 = m0 at *
      generalize (rnum (mt1 R)).1 = m1 at *
      generalize (rtext (mt2 R)).1 = m2 at *
      generalize (rtext (mt3 R)).1 = m3 at *
      generalize (rnum (mt4 R)).1 = m4 at *
      generalize mtR R = R5 at *
      generalize mt4 R = R4 at *
      generalize mt3 R = R3 at *
      generalize mt2 R = R2 at *
      generalize mt1 R = R1 at *
      cases d0 : (li R).2.2 with
      | false =>
        have HV : Hid (vOk s = false) := L0.out d0
        have e0 := li_lost d0
        simp only [e0] at D0
        go_wp2_with fail
        refine (D0 _).mono ?_
        rintro e wd0 ⟨rfl, hbd⟩
        have HR0 := hide (HR.out.next hbd)
        clear hbd HR hki
        go_wp2_with fail
        refine (cE _).mono ?_
        rintro e wd1 ⟨rfl, hbd⟩
        have HR1 := hide (HR0.out.next hbd)
        clear hbd HR0
        go_wp2_with fail
        refine (tE _).mono ?_
        rintro e wd2 ⟨rfl, hbd⟩
        have HR2 := hide (HR1.out.next hbd)
        clear hbd HR1
        go_wp2_with fail
        refine (tE _).mono ?_
        rintro e wd3 ⟨rfl, hbd⟩
        have HR3 := hide (HR2.out.next hbd)
        clear hbd HR2
        go_wp2_with fail
        refine (cE _).mono ?_
        rintro e wd4 ⟨rfl, hbd⟩
        have HR4 := hide (HR3.out.next hbd)
        clear hbd HR3
        clear D0 D1 D2 D3 D4 cE tE HSTEP1 HSTEP2 HM3 L0 L1 L2 L3 L4 G0 G1 G4 T2 T3
        have p0 := HR4.out.res
        have q0 := p0.cell 0
        have q1 := p0.cell 1
        have q2 := p0.cell 2
        have q3 := p0.cell 3
        have qf := p0.free
        simp only [List.getElem?_toArray, List.getElem?_cons_succ, List.getElem?_cons_zero] at q0 q1 q2 q3
        clear p0
        go_wp2
        refine bodyPost_ret (v := .tuple #[.agg #[.slice none 0 0, .int .i64 0, .int .i64 0, .int .i64 0], .bool false]) (by simp [results, Try.results28, go_sem, q0, q1, q2, q3]) rfl (bad_endV HV.out ?_)
        exact (((HR4.out.low.setCell (Nat.le_refl _) _).setCell (Nat.le_refl _) _).setCell (Nat.le_refl _) _).setCell (Nat.le_refl _) _
      | true =>
        have e0 := G0.out d0
        simp only [e0] at D0
        cases d1 : (li R1).2.2 with
        | false =>
          have HV : Hid (vOk s = false) := L1.out d1
          have e1 := li_lost d1
          simp only [e1] at D1
          go_wp2_with fail
          refine (D0 _).mono ?_
          rintro e wd0 ⟨rfl, hbd⟩
          have HR0 := hide (HR.out.next hbd)
          clear hbd HR hki
          go_wp2_with fail
          refine (D1 _).mono ?_
          rintro e wd1 ⟨rfl, hbd⟩
          have HR1 := hide (HR0.out.next hbd)
          clear hbd HR0
          go_wp2_with fail
          refine (tE _).mono ?_
          rintro e wd2 ⟨rfl, hbd⟩
          have HR2 := hide (HR1.out.next hbd)
          clear hbd HR1
          go_wp2_with fail
          refine (tE _).mono ?_
          rintro e wd3 ⟨rfl, hbd⟩
          have HR3 := hide (HR2.out.next hbd)
          clear hbd HR2
          go_wp2_with fail
          refine (cE _).mono ?_
          rintro e wd4 ⟨rfl, hbd⟩
          have HR4 := hide (HR3.out.next hbd)
          clear hbd HR3
          clear D0 D1 D2 D3 D4 cE tE HSTEP1 HSTEP2 HM3 L0 L1 L2 L3 L4 G0 G1 G4 T2 T3
          have p0 := HR4.out.res
          have q0 := p0.cell 0
          have q1 := p0.cell 1
          have q2 := p0.cell 2
          have q3 := p0.cell 3
          have qf := p0.free
          simp only [List.getElem?_toArray, List.getElem?_cons_succ, List.getElem?_cons_zero] at q0 q1 q2 q3
          clear p0
          go_wp2
          refine bodyPost_ret (v := .tuple #[.agg #[.slice none 0 0, .int .i64 0, .int .i64 0, .int .i64 0], .bool false]) (by simp [results, Try.results28, go_sem, q0, q1, q2, q3]) rfl (bad_endV HV.out ?_)
          exact (((HR4.out.low.setCell (Nat.le_refl _) _).setCell (Nat.le_refl _) _).setCell (Nat.le_refl _) _).setCell (Nat.le_refl _) _
        | true =>
          have e1 := G1.out d1
          simp only [e1] at D1
          cases d2 : (rtext R2).2.2 with
          | true =>
            have HV : Hid (vOk s = false) := L2.out d2
            obtain ⟨q2, r2⟩ := T2.out d2
            simp only [d2, q2, r2, Bool.not_true] at D2
            clear q2 r2
            go_wp2_with fail
            refine (D0 _).mono ?_
            rintro e wd0 ⟨rfl, hbd⟩
            have HR0 := hide (HR.out.next hbd)
            clear hbd HR hki
            go_wp2_with fail
            refine (D1 _).mono ?_
            rintro e wd1 ⟨rfl, hbd⟩
            have HR1 := hide (HR0.out.next hbd)
            clear hbd HR0
            go_wp2_with fail
            refine (D2 _).mono ?_
            rintro e wd2 ⟨rfl, hbd⟩
            have HR2 := hide (HR1.out.next hbd)
            clear hbd HR1
            go_wp2_with fail
            refine (tE _).mono ?_
            rintro e wd3 ⟨rfl, hbd⟩
            have HR3 := hide (HR2.out.next hbd)
            clear hbd HR2
            go_wp2_with fail
            refine (cE _).mono ?_
            rintro e wd4 ⟨rfl, hbd⟩
            have HR4 := hide (HR3.out.next hbd)
            clear hbd HR3
            clear D0 D1 D2 D3 D4 cE tE HSTEP1 HSTEP2 HM3 L0 L1 L2 L3 L4 G0 G1 G4 T2 T3
            have p0 := HR4.out.res
            have q0 := p0.cell 0
            have q1 := p0.cell 1
            have q2 := p0.cell 2
            have q3 := p0.cell 3
            have qf := p0.free
            simp only [List.getElem?_toArray, List.getElem?_cons_succ, List.getElem?_cons_zero] at q0 q1 q2 q3
            clear p0
            go_wp2
            refine bodyPost_ret (v := .tuple #[.agg #[.slice none 0 0, .int .i64 0, .int .i64 0, .int .i64 0], .bool false]) (by simp [results, Try.results28, go_sem, q0, q1, q2, q3]) rfl (bad_endV HV.out ?_)
            exact (((HR4.out.low.setCell (Nat.le_refl _) _).setCell (Nat.le_refl _) _).setCell (Nat.le_refl _) _).setCell (Nat.le_refl _) _
          | false =>
            simp only [d2, Bool.not_false] at D2
            cases d3 : (rtext R3).2.2 with
            | true =>
              have HV : Hid (vOk s = false) := L3.out d3
              obtain ⟨q3, r3⟩ := T3.out d3
              simp only [d3, q3, r3, Bool.not_true] at D3
              clear q3 r3
              go_wp2_with fail
              refine (D0 _).mono ?_
              rintro e wd0 ⟨rfl, hbd⟩
              have HR0 := hide (HR.out.next hbd)
              clear hbd HR hki
              go_wp2_with fail
              refine (D1 _).mono ?_
              rintro e wd1 ⟨rfl, hbd⟩
              have HR1 := hide (HR0.out.next hbd)
              clear hbd HR0
              go_wp2_with fail
              refine (D2 _).mono ?_
              rintro e wd2 ⟨rfl, hbd⟩
              have HR2 := hide (HR1.out.next hbd)
              clear hbd HR1
              go_wp2_with fail
              refine (D3 _).mono ?_
              rintro e wd3 ⟨rfl, hbd⟩
              have HR3 := hide (HR2.out.next hbd)
              clear hbd HR2
              go_wp2_with fail
              refine (cE _).mono ?_
              rintro e wd4 ⟨rfl, hbd⟩
              have HR4 := hide (HR3.out.next hbd)
              clear hbd HR3
              clear D0 D1 D2 D3 D4 cE tE HSTEP1 HSTEP2 HM3 L0 L1 L2 L3 L4 G0 G1 G4 T2 T3
              have p0 := HR4.out.res
              have q0 := p0.cell 0
              have q1 := p0.cell 1
              have q2 := p0.cell 2
              have q3 := p0.cell 3
              have qf := p0.free
              simp only [List.getElem?_toArray, List.getElem?_cons_succ, List.getElem?_cons_zero] at q0 q1 q2 q3
              clear p0
              go_wp2
              refine bodyPost_ret (v := .tuple #[.agg #[.slice none 0 0, .int .i64 0, .int .i64 0, .int .i64 0], .bool false]) (by simp [results, Try.results28, go_sem, q0, q1, q2, q3]) rfl (bad_endV HV.out ?_)
              exact (((HR4.out.low.setCell (Nat.le_refl _) _).setCell (Nat.le_refl _) _).setCell (Nat.le_refl _) _).setCell (Nat.le_refl _) _
            | false =>
              simp only [d3, Bool.not_false] at D3
              cases d4 : (li R4).2.2 with
              | false =>
                have HV : Hid (vOk s = false) := L4.out d4
                have e4 := li_lost d4
                simp only [e4] at D4
                go_wp2_with fail
                refine (D0 _).mono ?_
                rintro e wd0 ⟨rfl, hbd⟩
                have HR0 := hide (HR.out.next hbd)
                clear hbd HR hki
                go_wp2_with fail
                refine (D1 _).mono ?_
                rintro e wd1 ⟨rfl, hbd⟩
                have HR1 := hide (HR0.out.next hbd)
                clear hbd HR0
                go_wp2_with fail
                refine (D2 _).mono ?_
                rintro e wd2 ⟨rfl, hbd⟩
                have HR2 := hide (HR1.out.next hbd)
                clear hbd HR1
                go_wp2_with fail
                refine (D3 _).mono ?_
                rintro e wd3 ⟨rfl, hbd⟩
                have HR3 := hide (HR2.out.next hbd)
                clear hbd HR2
                go_wp2_with fail
                refine (D4 _).mono ?_
                rintro e wd4 ⟨rfl, hbd⟩
                have HR4 := hide (HR3.out.next hbd)
                clear hbd HR3
                clear D0 D1 D2 D3 D4 cE tE HSTEP1 HSTEP2 HM3 L0 L1 L2 L3 L4 G0 G1 G4 T2 T3
                have p0 := HR4.out.res
                have q0 := p0.cell 0
                have q1 := p0.cell 1
                have q2 := p0.cell 2
                have q3 := p0.cell 3
                have qf := p0.free
                simp only [List.getElem?_toArray, List.getElem?_cons_succ, List.getElem?_cons_zero] at q0 q1 q2 q3
                clear p0
                go_wp2
                refine bodyPost_ret (v := .tuple #[.agg #[.slice none 0 0, .int .i64 0, .int .i64 0, .int .i64 0], .bool false]) (by simp [results, Try.results28, go_sem, q0, q1, q2, q3]) rfl (bad_endV HV.out ?_)
                exact (((HR4.out.low.setCell (Nat.le_refl _) _).setCell (Nat.le_refl _) _).setCell (Nat.le_refl _) _).setCell (Nat.le_refl _) _
              | true =>
                have e4 := G4.out d4
                simp only [e4] at D4
                have HM4 := hide (HM3.out d0 d1 d2 d3 d4)
                clear HM3 cE tE L0 L1 L2 L3 L4 G0 G1 G4 T2 T3 d0 d1 d2 d3 d4 e0 e1 e4
                go_wp2_with fail
                refine (D0 _).mono ?_
                rintro e wd0 ⟨rfl, hbd⟩
                have HR0 := hide (HR.out.next hbd)
                clear hbd HR hki
                go_wp2_with fail
                refine (D1 _).mono ?_
                rintro e wd1 ⟨rfl, hbd⟩
                have HR1 := hide (HR0.out.next hbd)
                clear hbd HR0
                go_wp2_with fail
                refine (D2 _).mono ?_
                rintro e wd2 ⟨rfl, hbd⟩
                have HR2 := hide (HR1.out.next hbd)
                clear hbd HR1
                go_wp2_with fail
                refine (D3 _).mono ?_
                rintro e wd3 ⟨rfl, hbd⟩
                have HR3 := hide (HR2.out.next hbd)
                clear hbd HR2
                go_wp2_with fail
                refine (D4 _).mono ?_
                rintro e wd4 ⟨rfl, hbd⟩
                have HR4 := hide (HR3.out.next hbd)
                clear hbd HR3
                clear D0 D1 D2 D3 D4
                have hx1 := HR4.out.bx.cell 0
                simp only [List.getElem?_toArray, List.getElem?_cons_succ, List.getElem?_cons_zero] at hx1
                go_wp2_with (first
                  | (at_builtin; refine wpList_append_m1 rfl _ _ 44 rfl Try.underlying44 (F + 1) vo (rdv A4 k).1 ⟨m0, m1, m2, m3, m4⟩ (by rfl) (by rfl) HR4.out.own HR4.out.hB ?c1 ?_))
                case c1 => have := HRD.out; have := HLT.out; have := HN30.out; omega
                intro v' w6 hown' hb'
                obtain ⟨ga, ca, hsv⟩ := hown'.some (by simp)
                rw [List.length_append, HRD.out] at hsv
                obtain rfl : v' = .slice (some ⟨ga, 0, none⟩) (k + 1) ca := hsv
                have HR6 := hide (HR4.out.app hown' hb')
                have hx2 := HR6.out.bx.cell 0
                have xf := HR6.out.bx.free
                simp only [List.getElem?_toArray, List.getElem?_cons_succ, List.getElem?_cons_zero] at hx2
                have HR7 : Hid (SvS w F x1 x2 x3 (.slice (some ⟨ga, 0, none⟩) (k + 1) ca) (.slice (some ⟨ga, 0, none⟩) (k + 1) ca) (rdv A4 (k + 1)).1 (w6.setCell ⟨F, 0, none⟩ (.slice (some ⟨ga, 0, none⟩) (k + 1) ca))) := by
                  rw [HSTEP1.out, HAT.out]
                  exact HR6.out.put
                clear hown' hb' HR4 HR6 hx1
                have hlt := HLT.out
                have hN30 := HN30.out
                go_wp2
                exact ⟨⟨k + 1, _, by rw [HSTEP2.out], by go_num, by omega, HM4, HR7⟩, by simp [intOf]; omega⟩
    · obtain rfl : k = m := by omega
      have HCk := HC
      have HBk : Hid ((rdv A4 k).2.size = 0 → versB (vC s) = true → vOk s = true) := fun a b => HBACK.out (fun j hj => HM.out j hj) a b
      have HZK : Hid (vOk s = true → (rdv A4 k).2.size = 0 ∧ versB (vC s) = true) := fun h => (HM1.out h).2
      have hrd := rdv_len A4 k
      clear HC HBACK HM HM1 HSEC
      generalize (rdv A4 k).1 = ms at HR HCk hrd
      generalize (rdv A4 k).2 = R at HBk HZK ⊢
      subst hrd
      rw [HCk.out] at HBk HZK
      obtain ⟨ar, cap, hvo, hO⟩ := HR.out.own.arg
      subst hvo
      have HI : Hid (VersionIs wr (.agg #[.slice ar ms.length cap, .int .i64 x1, .int .i64 x2, .int .i64 x3]) (vc ms x1 x2 x3)) := ⟨ar, cap, rfl, hO⟩
      have hfit : (vc ms x1 x2 x3).Fit := by show ms.length ≤ 1048576; omega
      have cb := spec_VersionOk _ _ wr hfit HI.out
      have y0 := HR.out.bx.cell 0
      have y1 := HR.out.bx.cell 1
      have y2 := HR.out.bx.cell 2
      have y3 := HR.out.bx.cell 3
      simp only [List.getElem?_toArray, List.getElem?_cons_succ, List.getElem?_cons_zero] at y0 y1 y2 y3
      have he := isEmpty_size R
      clear hO
      by_cases hz : R.size = 0
      · cases hok : versB (vc ms x1 x2 x3) with
        | false =>
          have HV : Hid (vOk s = false) := vOk_lost fun h => by have := (HZK.out h).2; rw [hok] at this; cases this
          rw [hok] at cb
          clear hok HBk HZK
          go_wp2_with fail
          refine cb.mono ?_
          rintro e w7 ⟨rfl, hb7⟩
          have HR7 := hide (HR.out.next hb7)
          clear hb7 cb y0 y1 y2 y3 HR
          have p0 := HR7.out.res
          have q0 := p0.cell 0
          have q1 := p0.cell 1
          have q2 := p0.cell 2
          have q3 := p0.cell 3
          have qf := p0.free
          simp only [List.getElem?_toArray, List.getElem?_cons_succ, List.getElem?_cons_zero] at q0 q1 q2 q3
          clear p0
          go_wp2
          refine bodyPost_ret (v := .tuple #[.agg #[.slice none 0 0, .int .i64 0, .int .i64 0, .int .i64 0], .bool false]) (by simp [results, Try.results28, go_sem, q0, q1, q2, q3]) rfl (bad_endV HV.out ?_)
          exact (((HR7.out.low.setCell (Nat.le_refl _) _).setCell (Nat.le_refl _) _).setCell (Nat.le_refl _) _).setCell (Nat.le_refl _) _
        | true =>
          have HV : Hid (vOk s = true) := HBk.out hz hok
          have HCk2 : Hid (readV s = vc ms x1 x2 x3) := by show _ = _; rw [readV_yes HV.out]; exact HCk.out
          rw [hok] at cb
          clear hok HBk HZK
          go_wp2_with fail
          refine cb.mono ?_
          rintro e w8 ⟨rfl, hb8⟩
          have HR8 := hide (HR.out.next hb8)
          have q0 := HR8.out.res.cell 0
          have q1 := HR8.out.res.cell 1
          have q2 := HR8.out.res.cell 2
          have q3 := HR8.out.res.cell 3
          have qf := HR8.out.res.free
          have r0 := HR8.out.bx.cell 0
          have r1 := HR8.out.bx.cell 1
          have r2 := HR8.out.bx.cell 2
          have r3 := HR8.out.bx.cell 3
          simp only [List.getElem?_toArray, List.getElem?_cons_succ, List.getElem?_cons_zero] at q0 q1 q2 q3 r0 r1 r2 r3
          have hn2 := HR8.out.n2
          clear hb8 cb y0 y1 y2 y3 HR
          go_wp2
          refine bodyPost_ret (v := .tuple #[.agg #[.slice ar ms.length cap, .int .i64 x1, .int .i64 x2, .int .i64 x3], .bool true]) (by simp [results, Try.results28, go_sem, q0, q1, q2, q3]) rfl ⟨⟨_, by rw [HV.out], ?_⟩, ?_⟩
          · rw [HCk2.out]
            have how : OwnMeta ((((w8.setCell ⟨w.heap.size, 0, none⟩ (.slice ar ms.length cap)).setCell ⟨w.heap.size, 1, none⟩ (.int .i64 x1)).setCell ⟨w.heap.size, 2, none⟩ (.int .i64 x2)).setCell ⟨w.heap.size, 3, none⟩ (.int .i64 x3)) (F + 1) (.slice ar ms.length cap) ms :=
              ((((HR8.out.own.setOther (p := ⟨w.heap.size, 0, none⟩) (by show w.heap.size < F + 1; omega) _).setOther (p := ⟨w.heap.size, 1, none⟩) (by show w.heap.size < F + 1; omega) _).setOther (p := ⟨w.heap.size, 2, none⟩) (by show w.heap.size < F + 1; omega) _).setOther (p := ⟨w.heap.size, 3, none⟩) (by show w.heap.size < F + 1; omega) _)
            obtain ⟨a2, p2, hv2, hM2⟩ := (how.base (B' := w.heap.size) (by omega)).mine
            exact ⟨a2, p2, by rw [hv2]; rfl, hM2⟩
          · exact (((HR8.out.low.setCell (Nat.le_refl _) _).setCell (Nat.le_refl _) _).setCell (Nat.le_refl _) _).setCell (Nat.le_refl _) _
      · have HV : Hid (vOk s = false) := vOk_lost fun h => hz (HZK.out h).1
        have HR7 := HR
        clear HBk HZK cb y0 y1 y2 y3 HR
        have p0 := HR7.out.res
        have q0 := p0.cell 0
        have q1 := p0.cell 1
        have q2 := p0.cell 2
        have q3 := p0.cell 3
        have qf := p0.free
        simp only [List.getElem?_toArray, List.getElem?_cons_succ, List.getElem?_cons_zero] at q0 q1 q2 q3
        clear p0
        go_wp2
        refine bodyPost_ret (v := .tuple #[.agg #[.slice none 0 0, .int .i64 0, .int .i64 0, .int .i64 0], .bool false]) (by simp [results, Try.results28, go_sem, q0, q1, q2, q3]) rfl (bad_endV HV.out ?_)
        exact (((HR7.out.low.setCell (Nat.le_refl _) _).setCell (Nat.le_refl _) _).setCell (Nat.le_refl _) _).setCell (Nat.le_refl _) _

end Go.Proofs.Ytplemoedpdammaa

/- ReadVersion of the model. (By gen_readvs.py.) -/
namespace Go.Proofs.Ytplemoedpdammaa
set_option maxRecDepth 100000
open Go.RowKit Go.Deep

set_option linter.unusedVariables false in
set_option linter.unusedSimpArgs false in
set_option maxHeartbeats 8000000 in
theorem spec_ReadVersion_sec (s : ByteArray) (hs : s.size ≤ 1048576) (hsec : ¬ sect (vB s) = s) (w : World) :
    Calls Try.prog 28 #[.string s] w fun e w' => (∃ v, e = .returned (.tuple #[v, .bool (vOk s)]) ∧ VersionOwn w' w.heap.size v (readV s)) ∧ Below w.heap.size w w' := by
  obtain ⟨zB, z1, z2, z3, z4⟩ := v_size s
  have hvB := vB_le s
  have hb0 := below_one w (.cells #[.slice none 0 0, .int .i64 0, .int .i64 0, .int .i64 0] 46)
  have hf0 := BoxIs.new w #[.slice none 0 0, .int .i64 0, .int .i64 0, .int .i64 0] 46 rfl
  have cE := fun wx => spec_l12Int ⟨#[]⟩ (by decide) wx
  simp only [li_empty] at cE
  go_enter Try.func28, Try.ntmps28
  go_wp2_with fail
  generalize w.alloc (.cells #[.slice none 0 0, .int .i64 0, .int .i64 0, .int .i64 0] 46) = W at hb0 hf0 ⊢
  refine (spec_l10Take s hs W).mono ?_
  rintro e w1 ⟨⟨b, ok, rfl, hok1, hok2, hbz⟩, hb1⟩
  have hf1 := hf0.next hb1
  have hB1 := hb0.trans (hb1.mono hb0.size)
  clear hb0 hf0 hb1
  have HV : Hid (vOk s = false) := vOk_lost fun h => hsec (ver_ok h).1.symm
  cases ok with
  | false =>
    have HB1 := hide hB1
    have HF1 := hf1.hid
    clear hok1 hok2 hB1 hf1 cE hsec zB z1 z2 z3 z4 hvB
    have p0 := HF1.out
    have q0 := p0.cell 0
    have q1 := p0.cell 1
    have q2 := p0.cell 2
    have q3 := p0.cell 3
    have qf := p0.free
    simp only [List.getElem?_toArray, List.getElem?_cons_succ, List.getElem?_cons_zero] at q0 q1 q2 q3
    clear p0
    go_wp2
    refine bodyPost_ret (v := .tuple #[.agg #[.slice none 0 0, .int .i64 0, .int .i64 0, .int .i64 0], .bool false]) (by simp [results, Try.results28, go_sem, q0, q1, q2, q3]) rfl (bad_endV HV.out ?_)
    exact (((HB1.out.setCell (Nat.le_refl _) _).setCell (Nat.le_refl _) _).setCell (Nat.le_refl _) _).setCell (Nat.le_refl _) _
  | true =>
    obtain rfl := hok1 rfl
    clear hok1 hok2 hbz
    go_wp2_with fail
    refine (spec_section (vB s) (by omega) _).mono ?_
    rintro e w2 ⟨rfl, hb2⟩
    have HFL := (hf1.next hb2).hid
    have HBL := hide (hB1.trans (hb2.mono hB1.size))
    generalize sect (vB s) = T at hsec ⊢
    have hu2 := toList_neV hsec
    have hu1 : (T.toList == s.toList) = false := by simpa using hu2
    clear hb2 hf1 hB1 hsec cE zB z1 z2 z3 z4 hvB
    generalize vB s = AB at *
    have p0 := HFL.out
    have q0 := p0.cell 0
    have q1 := p0.cell 1
    have q2 := p0.cell 2
    have q3 := p0.cell 3
    have qf := p0.free
    simp only [List.getElem?_toArray, List.getElem?_cons_succ, List.getElem?_cons_zero] at q0 q1 q2 q3
    clear p0
    go_wp2
    refine bodyPost_ret (v := .tuple #[.agg #[.slice none 0 0, .int .i64 0, .int .i64 0, .int .i64 0], .bool false]) (by simp [results, Try.results28, go_sem, q0, q1, q2, q3]) rfl (bad_endV HV.out ?_)
    exact (((HBL.out.setCell (Nat.le_refl _) _).setCell (Nat.le_refl _) _).setCell (Nat.le_refl _) _).setCell (Nat.le_refl _) _

set_option linter.unusedVariables false in
set_option linter.unusedSimpArgs false in
set_option maxHeartbeats 8000000 in
theorem spec_ReadVersion_0 (s : ByteArray) (hs : s.size ≤ 1048576) (hsec : sect (vB s) = s)  (h0 : (li (vB s)).2.2 = false) (w : World) :
    Calls Try.prog 28 #[.string s] w fun e w' => (∃ v, e = .returned (.tuple #[v, .bool (vOk s)]) ∧ VersionOwn w' w.heap.size v (readV s)) ∧ Below w.heap.size w w' := by
  obtain ⟨zB, z1, z2, z3, z4⟩ := v_size s
  have hvB := vB_le s
  have hb0 := below_one w (.cells #[.slice none 0 0, .int .i64 0, .int .i64 0, .int .i64 0] 46)
  have hf0 := BoxIs.new w #[.slice none 0 0, .int .i64 0, .int .i64 0, .int .i64 0] 46 rfl
  have cE := fun wx => spec_l12Int ⟨#[]⟩ (by decide) wx
  simp only [li_empty] at cE
  go_enter Try.func28, Try.ntmps28
  go_wp2_with fail
  generalize w.alloc (.cells #[.slice none 0 0, .int .i64 0, .int .i64 0, .int .i64 0] 46) = W at hb0 hf0 ⊢
  refine (spec_l10Take s hs W).mono ?_
  rintro e w1 ⟨⟨b, ok, rfl, hok1, hok2, hbz⟩, hb1⟩
  have hf1 := hf0.next hb1
  have hB1 := hb0.trans (hb1.mono hb0.size)
  clear hb0 hf0 hb1
  obtain rfl := hok2 hsec.symm
  obtain rfl := hok1 rfl
  clear hok1 hok2 hbz
  go_wp2_with fail
  refine (spec_section (vB s) (by omega) _).mono ?_
  rintro e w2 ⟨rfl, hb2⟩
  have hf2 := hf1.next hb2
  have hB2 := hB1.trans (hb2.mono hB1.size)
  clear hb2 hf1 hB1
  rw [hsec]
  have HSEC : Hid (s = sect (vB s)) := hsec.symm
  clear hsec
  have C0 := fun wx => spec_l12Int (vB s) (by omega) wx
  have C1 := fun wx => spec_l12Int (v1 s) (by omega) wx
  have C2 := fun wx => spec_l12Int (v2 s) (by omega) wx
  have C3 := fun wx => spec_l12Int (v3 s) (by omega) wx
  have Z4 : Hid ((v4 s).size ≤ 1048576) := by show _ ≤ _; omega
  have F1 : Hid (vOk s = true → (li (vB s)).2.2 = true ∧ (li (v1 s)).2.2 = true ∧ (li (v2 s)).2.2 = true ∧ (li (v3 s)).2.2 = true ∧ (rnum (v3 s)).1 ≤ 30 ∧ (∀ j, j < vN s → mtS (rdv (v4 s) j).2 = true) ∧ (rdv (v4 s) (vN s)).2.size = 0 ∧ versB (vC s) = true) := fun h => by
    obtain ⟨_, _, a, b, c, d, e, f, g⟩ := ver_ok h
    exact ⟨a, b, c, d, e, f, g, (vOk_out h).1⟩
  have F2 : Hid ((li (vB s)).2.2 = true → (li (v1 s)).2.2 = true → (li (v2 s)).2.2 = true → (li (v3 s)).2.2 = true → (rnum (v3 s)).1 ≤ 30 → (∀ j, j < vN s → mtS (rdv (v4 s) j).2 = true) → (rdv (v4 s) (vN s)).2.size = 0 → versB (vC s) = true → vOk s = true) := fun a b c d e f g h => ver_back HSEC.out a b c d e f g h
  have F3 : Hid (vC s = vc (rdv (v4 s) (vN s)).1 (rnum (vB s)).1 (rnum (v1 s)).1 (rnum (v2 s)).1) := by show _ = _; rw [vC, vL]
  have F5 : Hid ((li (v3 s)).2.2 = true → (rnum (v3 s)).1 ≤ 30 → (rnum (v3 s)).1 = ((vN s : Nat) : Int)) := fun a b => by
    have h0 := (li_rnum a).2.2.1
    unfold vN; rw [if_pos (by omega)]; omega
  have E0 : Hid ((li (vB s)).2.2 = true → li (vB s) = ((rnum (vB s)).1, v1 s, true)) := fun h => by rw [v1_def]; exact (li_rnum h).1
  have E1 : Hid ((li (v1 s)).2.2 = true → li (v1 s) = ((rnum (v1 s)).1, v2 s, true)) := fun h => by rw [v2_def]; exact (li_rnum h).1
  have E2 : Hid ((li (v2 s)).2.2 = true → li (v2 s) = ((rnum (v2 s)).1, v3 s, true)) := fun h => by rw [v3_def]; exact (li_rnum h).1
  have E3 : Hid ((li (v3 s)).2.2 = true → li (v3 s) = ((rnum (v3 s)).1, v4 s, true)) := fun h => by rw [v4_def]; exact (li_rnum h).1
  clear zB z1 z2 z3 z4 hvB
  generalize (rnum (vB s)).1 = x1 at *
  generalize (rnum (v1 s)).1 = x2 at *
  generalize (rnum (v2 s)).1 = x3 at *
  generalize (rnum (v3 s)).1 = nn at *
  generalize v4 s = A4 at *
  generalize v3 s = A3 at *
  generalize v2 s = A2 at *
  generalize v1 s = A1 at *
  generalize vB s = AB at *
  generalize vN s = m at *
  have e0 := li_lost h0
  simp only [e0] at C0
  have HV : Hid (vOk s = false) := vOk_lost fun h => by have := (F1.out h).1; rw [h0] at this; cases this
  go_wp2_with fail
  refine (C0 _).mono ?_
  rintro e wc0 ⟨rfl, hbc⟩
  have hfc0 := hf2.next hbc
  have hBc0 := hB2.trans (hbc.mono hB2.size)
  clear hbc
  go_wp2_with fail
  refine (cE _).mono ?_
  rintro e wc1 ⟨rfl, hbc⟩
  have hfc1 := hfc0.next hbc
  have hBc1 := hBc0.trans (hbc.mono hBc0.size)
  clear hbc
  go_wp2_with fail
  refine (cE _).mono ?_
  rintro e wc2 ⟨rfl, hbc⟩
  have hfc2 := hfc1.next hbc
  have hBc2 := hBc1.trans (hbc.mono hBc1.size)
  clear hbc
  go_wp2_with fail
  refine (cE _).mono ?_
  rintro e wc3 ⟨rfl, hbc⟩
  have hfc3 := hfc2.next hbc
  have hBc3 := hBc2.trans (hbc.mono hBc2.size)
  clear hbc
  have HBL := hide hBc3
  have HFL := hfc3.hid
  clear C0 C1 C2 C3 cE hf2 hB2 E0 E1 E2 E3 F1 F2 F3 F5 Z4 HSEC h0 e0 hfc0 hBc0 hfc1 hBc1 hfc2 hBc2 hfc3 hBc3
  have p0 := HFL.out
  have q0 := p0.cell 0
  have q1 := p0.cell 1
  have q2 := p0.cell 2
  have q3 := p0.cell 3
  have qf := p0.free
  simp only [List.getElem?_toArray, List.getElem?_cons_succ, List.getElem?_cons_zero] at q0 q1 q2 q3
  clear p0
  go_wp2
  refine bodyPost_ret (v := .tuple #[.agg #[.slice none 0 0, .int .i64 0, .int .i64 0, .int .i64 0], .bool false]) (by simp [results, Try.results28, go_sem, q0, q1, q2, q3]) rfl (bad_endV HV.out ?_)
  exact (((HBL.out.setCell (Nat.le_refl _) _).setCell (Nat.le_refl _) _).setCell (Nat.le_refl _) _).setCell (Nat.le_refl _) _

set_option linter.unusedVariables false in
set_option linter.unusedSimpArgs false in
set_option maxHeartbeats 8000000 in
theorem spec_ReadVersion_1 (s : ByteArray) (hs : s.size ≤ 1048576) (hsec : sect (vB s) = s) (h0 : (li (vB s)).2.2 = true) (h1 : (li (v1 s)).2.2 = false) (w : World) :
    Calls Try.prog 28 #[.string s] w fun e w' => (∃ v, e = .returned (.tuple #[v, .bool (vOk s)]) ∧ VersionOwn w' w.heap.size v (readV s)) ∧ Below w.heap.size w w' := by
  obtain ⟨zB, z1, z2, z3, z4⟩ := v_size s
  have hvB := vB_le s
  have hb0 := below_one w (.cells #[.slice none 0 0, .int .i64 0, .int .i64 0, .int .i64 0] 46)
  have hf0 := BoxIs.new w #[.slice none 0 0, .int .i64 0, .int .i64 0, .int .i64 0] 46 rfl
  have cE := fun wx => spec_l12Int ⟨#[]⟩ (by decide) wx
  simp only [li_empty] at cE
  go_enter Try.func28, Try.ntmps28
  go_wp2_with fail
  generalize w.alloc (.cells #[.slice none 0 0, .int .i64 0, .int .i64 0, .int .i64 0] 46) = W at hb0 hf0 ⊢
  refine (spec_l10Take s hs W).mono ?_
  rintro e w1 ⟨⟨b, ok, rfl, hok1, hok2, hbz⟩, hb1⟩
  have hf1 := hf0.next hb1
  have hB1 := hb0.trans (hb1.mono hb0.size)
  clear hb0 hf0 hb1
  obtain rfl := hok2 hsec.symm
  obtain rfl := hok1 rfl
  clear hok1 hok2 hbz
  go_wp2_with fail
  refine (spec_section (vB s) (by omega) _).mono ?_
  rintro e w2 ⟨rfl, hb2⟩
  have hf2 := hf1.next hb2
  have hB2 := hB1.trans (hb2.mono hB1.size)
  clear hb2 hf1 hB1
  rw [hsec]
  have HSEC : Hid (s = sect (vB s)) := hsec.symm
  clear hsec
  have C0 := fun wx => spec_l12Int (vB s) (by omega) wx
  have C1 := fun wx => spec_l12Int (v1 s) (by omega) wx
  have C2 := fun wx => spec_l12Int (v2 s) (by omega) wx
  have C3 := fun wx => spec_l12Int (v3 s) (by omega) wx
  have Z4 : Hid ((v4 s).size ≤ 1048576) := by show _ ≤ _; omega
  have F1 : Hid (vOk s = true → (li (vB s)).2.2 = true ∧ (li (v1 s)).2.2 = true ∧ (li (v2 s)).2.2 = true ∧ (li (v3 s)).2.2 = true ∧ (rnum (v3 s)).1 ≤ 30 ∧ (∀ j, j < vN s → mtS (rdv (v4 s) j).2 = true) ∧ (rdv (v4 s) (vN s)).2.size = 0 ∧ versB (vC s) = true) := fun h => by
    obtain ⟨_, _, a, b, c, d, e, f, g⟩ := ver_ok h
    exact ⟨a, b, c, d, e, f, g, (vOk_out h).1⟩
  have F2 : Hid ((li (vB s)).2.2 = true → (li (v1 s)).2.2 = true → (li (v2 s)).2.2 = true → (li (v3 s)).2.2 = true → (rnum (v3 s)).1 ≤ 30 → (∀ j, j < vN s → mtS (rdv (v4 s) j).2 = true) → (rdv (v4 s) (vN s)).2.size = 0 → versB (vC s) = true → vOk s = true) := fun a b c d e f g h => ver_back HSEC.out a b c d e f g h
  have F3 : Hid (vC s = vc (rdv (v4 s) (vN s)).1 (rnum (vB s)).1 (rnum (v1 s)).1 (rnum (v2 s)).1) := by show _ = _; rw [vC, vL]
  have F5 : Hid ((li (v3 s)).2.2 = true → (rnum (v3 s)).1 ≤ 30 → (rnum (v3 s)).1 = ((vN s : Nat) : Int)) := fun a b => by
    have h0 := (li_rnum a).2.2.1
    unfold vN; rw [if_pos (by omega)]; omega
  have E0 : Hid ((li (vB s)).2.2 = true → li (vB s) = ((rnum (vB s)).1, v1 s, true)) := fun h => by rw [v1_def]; exact (li_rnum h).1
  have E1 : Hid ((li (v1 s)).2.2 = true → li (v1 s) = ((rnum (v1 s)).1, v2 s, true)) := fun h => by rw [v2_def]; exact (li_rnum h).1
  have E2 : Hid ((li (v2 s)).2.2 = true → li (v2 s) = ((rnum (v2 s)).1, v3 s, true)) := fun h => by rw [v3_def]; exact (li_rnum h).1
  have E3 : Hid ((li (v3 s)).2.2 = true → li (v3 s) = ((rnum (v3 s)).1, v4 s, true)) := fun h => by rw [v4_def]; exact (li_rnum h).1
  clear zB z1 z2 z3 z4 hvB
  generalize (rnum (vB s)).1 = x1 at *
  generalize (rnum (v1 s)).1 = x2 at *
  generalize (rnum (v2 s)).1 = x3 at *
  generalize (rnum (v3 s)).1 = nn at *
  generalize v4 s = A4 at *
  generalize v3 s = A3 at *
  generalize v2 s = A2 at *
  generalize v1 s = A1 at *
  generalize vB s = AB at *
  generalize vN s = m at *
  have e0 := E0.out h0
  simp only [e0] at C0
  have e1 := li_lost h1
  simp only [e1] at C1
  have HV : Hid (vOk s = false) := vOk_lost fun h => by have := (F1.out h).2.1; rw [h1] at this; cases this
  go_wp2_with fail
  refine (C0 _).mono ?_
  rintro e wc0 ⟨rfl, hbc⟩
  have hfc0 := hf2.next hbc
  have hBc0 := hB2.trans (hbc.mono hB2.size)
  clear hbc
  go_wp2_with fail
  refine (C1 _).mono ?_
  rintro e wc1 ⟨rfl, hbc⟩
  have hfc1 := hfc0.next hbc
  have hBc1 := hBc0.trans (hbc.mono hBc0.size)
  clear hbc
  go_wp2_with fail
  refine (cE _).mono ?_
  rintro e wc2 ⟨rfl, hbc⟩
  have hfc2 := hfc1.next hbc
  have hBc2 := hBc1.trans (hbc.mono hBc1.size)
  clear hbc
  go_wp2_with fail
  refine (cE _).mono ?_
  rintro e wc3 ⟨rfl, hbc⟩
  have hfc3 := hfc2.next hbc
  have hBc3 := hBc2.trans (hbc.mono hBc2.size)
  clear hbc
  have HBL := hide hBc3
  have HFL := hfc3.hid
  clear C0 C1 C2 C3 cE hf2 hB2 E0 E1 E2 E3 F1 F2 F3 F5 Z4 HSEC h0 e0 h1 e1 hfc0 hBc0 hfc1 hBc1 hfc2 hBc2 hfc3 hBc3
  have p0 := HFL.out
  have q0 := p0.cell 0
  have q1 := p0.cell 1
  have q2 := p0.cell 2
  have q3 := p0.cell 3
  have qf := p0.free
  simp only [List.getElem?_toArray, List.getElem?_cons_succ, List.getElem?_cons_zero] at q0 q1 q2 q3
  clear p0
  go_wp2
  refine bodyPost_ret (v := .tuple #[.agg #[.slice none 0 0, .int .i64 0, .int .i64 0, .int .i64 0], .bool false]) (by simp [results, Try.results28, go_sem, q0, q1, q2, q3]) rfl (bad_endV HV.out ?_)
  exact (((HBL.out.setCell (Nat.le_refl _) _).setCell (Nat.le_refl _) _).setCell (Nat.le_refl _) _).setCell (Nat.le_refl _) _

set_option linter.unusedVariables false in
set_option linter.unusedSimpArgs false in
set_option maxHeartbeats 8000000 in
theorem spec_ReadVersion_2 (s : ByteArray) (hs : s.size ≤ 1048576) (hsec : sect (vB s) = s) (h0 : (li (vB s)).2.2 = true) (h1 : (li (v1 s)).2.2 = true) (h2 : (li (v2 s)).2.2 = false) (w : World) :
    Calls Try.prog 28 #[.string s] w fun e w' => (∃ v, e = .returned (.tuple #[v, .bool (vOk s)]) ∧ VersionOwn w' w.heap.size v (readV s)) ∧ Below w.heap.size w w' := by
  obtain ⟨zB, z1, z2, z3, z4⟩ := v_size s
  have hvB := vB_le s
  have hb0 := below_one w (.cells #[.slice none 0 0, .int .i64 0, .int .i64 0, .int .i64 0] 46)
  have hf0 := BoxIs.new w #[.slice none 0 0, .int .i64 0, .int .i64 0, .int .i64 0] 46 rfl
  have cE := fun wx => spec_l12Int ⟨#[]⟩ (by decide) wx
  simp only [li_empty] at cE
  go_enter Try.func28, Try.ntmps28
  go_wp2_with fail
  generalize w.alloc (.cells #[.slice none 0 0, .int .i64 0, .int .i64 0, .int .i64 0] 46) = W at hb0 hf0 ⊢
  refine (spec_l10Take s hs W).mono ?_
  rintro e w1 ⟨⟨b, ok, rfl, hok1, hok2, hbz⟩, hb1⟩
  have hf1 := hf0.next hb1
  have hB1 := hb0.trans (hb1.mono hb0.size)
  clear hb0 hf0 hb1
  obtain rfl := hok2 hsec.symm
  obtain rfl := hok1 rfl
  clear hok1 hok2 hbz
  go_wp2_with fail
  refine (spec_section (vB s) (by omega) _).mono ?_
  rintro e w2 ⟨rfl, hb2⟩
  have hf2 := hf1.next hb2
  have hB2 := hB1.trans (hb2.mono hB1.size)
  clear hb2 hf1 hB1
  rw [hsec]
  have HSEC : Hid (s = sect (vB s)) := hsec.symm
  clear hsec
  have C0 := fun wx => spec_l12Int (vB s) (by omega) wx
  have C1 := fun wx => spec_l12Int (v1 s) (by omega) wx
  have C2 := fun wx => spec_l12Int (v2 s) (by omega) wx
  have C3 := fun wx => spec_l12Int (v3 s) (by omega) wx
  have Z4 : Hid ((v4 s).size ≤ 1048576) := by show _ ≤ _; omega
  have F1 : Hid (vOk s = true → (li (vB s)).2.2 = true ∧ (li (v1 s)).2.2 = true ∧ (li (v2 s)).2.2 = true ∧ (li (v3 s)).2.2 = true ∧ (rnum (v3 s)).1 ≤ 30 ∧ (∀ j, j < vN s → mtS (rdv (v4 s) j).2 = true) ∧ (rdv (v4 s) (vN s)).2.size = 0 ∧ versB (vC s) = true) := fun h => by
    obtain ⟨_, _, a, b, c, d, e, f, g⟩ := ver_ok h
    exact ⟨a, b, c, d, e, f, g, (vOk_out h).1⟩
  have F2 : Hid ((li (vB s)).2.2 = true → (li (v1 s)).2.2 = true → (li (v2 s)).2.2 = true → (li (v3 s)).2.2 = true → (rnum (v3 s)).1 ≤ 30 → (∀ j, j < vN s → mtS (rdv (v4 s) j).2 = true) → (rdv (v4 s) (vN s)).2.size = 0 → versB (vC s) = true → vOk s = true) := fun a b c d e f g h => ver_back HSEC.out a b c d e f g h
  have F3 : Hid (vC s = vc (rdv (v4 s) (vN s)).1 (rnum (vB s)).1 (rnum (v1 s)).1 (rnum (v2 s)).1) := by show _ = _; rw [vC, vL]
  have F5 : Hid ((li (v3 s)).2.2 = true → (rnum (v3 s)).1 ≤ 30 → (rnum (v3 s)).1 = ((vN s : Nat) : Int)) := fun a b => by
    have h0 := (li_rnum a).2.2.1
    unfold vN; rw [if_pos (by omega)]; omega
  have E0 : Hid ((li (vB s)).2.2 = true → li (vB s) = ((rnum (vB s)).1, v1 s, true)) := fun h => by rw [v1_def]; exact (li_rnum h).1
  have E1 : Hid ((li (v1 s)).2.2 = true → li (v1 s) = ((rnum (v1 s)).1, v2 s, true)) := fun h => by rw [v2_def]; exact (li_rnum h).1
  have E2 : Hid ((li (v2 s)).2.2 = true → li (v2 s) = ((rnum (v2 s)).1, v3 s, true)) := fun h => by rw [v3_def]; exact (li_rnum h).1
  have E3 : Hid ((li (v3 s)).2.2 = true → li (v3 s) = ((rnum (v3 s)).1, v4 s, true)) := fun h => by rw [v4_def]; exact (li_rnum h).1
  clear zB z1 z2 z3 z4 hvB
  generalize (rnum (vB s)).1 = x1 at *
  generalize (rnum (v1 s)).1 = x2 at *
  generalize (rnum (v2 s)).1 = x3 at *
  generalize (rnum (v3 s)).1 = nn at *
  generalize v4 s = A4 at *
  generalize v3 s = A3 at *
  generalize v2 s = A2 at *
  generalize v1 s = A1 at *
  generalize vB s = AB at *
  generalize vN s = m at *
  have e0 := E0.out h0
  simp only [e0] at C0
  have e1 := E1.out h1
  simp only [e1] at C1
  have e2 := li_lost h2
  simp only [e2] at C2
  have HV : Hid (vOk s = false) := vOk_lost fun h => by have := (F1.out h).2.2.1; rw [h2] at this; cases this
  go_wp2_with fail
  refine (C0 _).mono ?_
  rintro e wc0 ⟨rfl, hbc⟩
  have hfc0 := hf2.next hbc
  have hBc0 := hB2.trans (hbc.mono hB2.size)
  clear hbc
  go_wp2_with fail
  refine (C1 _).mono ?_
  rintro e wc1 ⟨rfl, hbc⟩
  have hfc1 := hfc0.next hbc
  have hBc1 := hBc0.trans (hbc.mono hBc0.size)
  clear hbc
  go_wp2_with fail
  refine (C2 _).mono ?_
  rintro e wc2 ⟨rfl, hbc⟩
  have hfc2 := hfc1.next hbc
  have hBc2 := hBc1.trans (hbc.mono hBc1.size)
  clear hbc
  go_wp2_with fail
  refine (cE _).mono ?_
  rintro e wc3 ⟨rfl, hbc⟩
  have hfc3 := hfc2.next hbc
  have hBc3 := hBc2.trans (hbc.mono hBc2.size)
  clear hbc
  have HBL := hide hBc3
  have HFL := hfc3.hid
  clear C0 C1 C2 C3 cE hf2 hB2 E0 E1 E2 E3 F1 F2 F3 F5 Z4 HSEC h0 e0 h1 e1 h2 e2 hfc0 hBc0 hfc1 hBc1 hfc2 hBc2 hfc3 hBc3
  have p0 := HFL.out
  have q0 := p0.cell 0
  have q1 := p0.cell 1
  have q2 := p0.cell 2
  have q3 := p0.cell 3
  have qf := p0.free
  simp only [List.getElem?_toArray, List.getElem?_cons_succ, List.getElem?_cons_zero] at q0 q1 q2 q3
  clear p0
  go_wp2
  refine bodyPost_ret (v := .tuple #[.agg #[.slice none 0 0, .int .i64 0, .int .i64 0, .int .i64 0], .bool false]) (by simp [results, Try.results28, go_sem, q0, q1, q2, q3]) rfl (bad_endV HV.out ?_)
  exact (((HBL.out.setCell (Nat.le_refl _) _).setCell (Nat.le_refl _) _).setCell (Nat.le_refl _) _).setCell (Nat.le_refl _) _

set_option linter.unusedVariables false in
set_option linter.unusedSimpArgs false in
set_option maxHeartbeats 8000000 in
theorem spec_ReadVersion_3 (s : ByteArray) (hs : s.size ≤ 1048576) (hsec : sect (vB s) = s) (h0 : (li (vB s)).2.2 = true) (h1 : (li (v1 s)).2.2 = true) (h2 : (li (v2 s)).2.2 = true) (h3 : (li (v3 s)).2.2 = false) (w : World) :
    Calls Try.prog 28 #[.string s] w fun e w' => (∃ v, e = .returned (.tuple #[v, .bool (vOk s)]) ∧ VersionOwn w' w.heap.size v (readV s)) ∧ Below w.heap.size w w' := by
  obtain ⟨zB, z1, z2, z3, z4⟩ := v_size s
  have hvB := vB_le s
  have hb0 := below_one w (.cells #[.slice none 0 0, .int .i64 0, .int .i64 0, .int .i64 0] 46)
  have hf0 := BoxIs.new w #[.slice none 0 0, .int .i64 0, .int .i64 0, .int .i64 0] 46 rfl
  have cE := fun wx => spec_l12Int ⟨#[]⟩ (by decide) wx
  simp only [li_empty] at cE
  go_enter Try.func28, Try.ntmps28
  go_wp2_with fail
  generalize w.alloc (.cells #[.slice none 0 0, .int .i64 0, .int .i64 0, .int .i64 0] 46) = W at hb0 hf0 ⊢
  refine (spec_l10Take s hs W).mono ?_
  rintro e w1 ⟨⟨b, ok, rfl, hok1, hok2, hbz⟩, hb1⟩
  have hf1 := hf0.next hb1
  have hB1 := hb0.trans (hb1.mono hb0.size)
  clear hb0 hf0 hb1
  obtain rfl := hok2 hsec.symm
  obtain rfl := hok1 rfl
  clear hok1 hok2 hbz
  go_wp2_with fail
  refine (spec_section (vB s) (by omega) _).mono ?_
  rintro e w2 ⟨rfl, hb2⟩
  have hf2 := hf1.next hb2
  have hB2 := hB1.trans (hb2.mono hB1.size)
  clear hb2 hf1 hB1
  rw [hsec]
  have HSEC : Hid (s = sect (vB s)) := hsec.symm
  clear hsec
  have C0 := fun wx => spec_l12Int (vB s) (by omega) wx
  have C1 := fun wx => spec_l12Int (v1 s) (by omega) wx
  have C2 := fun wx => spec_l12Int (v2 s) (by omega) wx
  have C3 := fun wx => spec_l12Int (v3 s) (by omega) wx
  have Z4 : Hid ((v4 s).size ≤ 1048576) := by show _ ≤ _; omega
  have F1 : Hid (vOk s = true → (li (vB s)).2.2 = true ∧ (li (v1 s)).2.2 = true ∧ (li (v2 s)).2.2 = true ∧ (li (v3 s)).2.2 = true ∧ (rnum (v3 s)).1 ≤ 30 ∧ (∀ j, j < vN s → mtS (rdv (v4 s) j).2 = true) ∧ (rdv (v4 s) (vN s)).2.size = 0 ∧ versB (vC s) = true) := fun h => by
    obtain ⟨_, _, a, b, c, d, e, f, g⟩ := ver_ok h
    exact ⟨a, b, c, d, e, f, g, (vOk_out h).1⟩
  have F2 : Hid ((li (vB s)).2.2 = true → (li (v1 s)).2.2 = true → (li (v2 s)).2.2 = true → (li (v3 s)).2.2 = true → (rnum (v3 s)).1 ≤ 30 → (∀ j, j < vN s → mtS (rdv (v4 s) j).2 = true) → (rdv (v4 s) (vN s)).2.size = 0 → versB (vC s) = true → vOk s = true) := fun a b c d e f g h => ver_back HSEC.out a b c d e f g h
  have F3 : Hid (vC s = vc (rdv (v4 s) (vN s)).1 (rnum (vB s)).1 (rnum (v1 s)).1 (rnum (v2 s)).1) := by show _ = _; rw [vC, vL]
  have F5 : Hid ((li (v3 s)).2.2 = true → (rnum (v3 s)).1 ≤ 30 → (rnum (v3 s)).1 = ((vN s : Nat) : Int)) := fun a b => by
    have h0 := (li_rnum a).2.2.1
    unfold vN; rw [if_pos (by omega)]; omega
  have E0 : Hid ((li (vB s)).2.2 = true → li (vB s) = ((rnum (vB s)).1, v1 s, true)) := fun h => by rw [v1_def]; exact (li_rnum h).1
  have E1 : Hid ((li (v1 s)).2.2 = true → li (v1 s) = ((rnum (v1 s)).1, v2 s, true)) := fun h => by rw [v2_def]; exact (li_rnum h).1
  have E2 : Hid ((li (v2 s)).2.2 = true → li (v2 s) = ((rnum (v2 s)).1, v3 s, true)) := fun h => by rw [v3_def]; exact (li_rnum h).1
  have E3 : Hid ((li (v3 s)).2.2 = true → li (v3 s) = ((rnum (v3 s)).1, v4 s, true)) := fun h => by rw [v4_def]; exact (li_rnum h).1
  clear zB z1 z2 z3 z4 hvB
  generalize (rnum (vB s)).1 = x1 at *
  generalize (rnum (v1 s)).1 = x2 at *
  generalize (rnum (v2 s)).1 = x3 at *
  generalize (rnum (v3 s)).1 = nn at *
  generalize v4 s = A4 at *
  generalize v3 s = A3 at *
  generalize v2 s = A2 at *
  generalize v1 s = A1 at *
  generalize vB s = AB at *
  generalize vN s = m at *
  have e0 := E0.out h0
  simp only [e0] at C0
  have e1 := E1.out h1
  simp only [e1] at C1
  have e2 := E2.out h2
  simp only [e2] at C2
  have e3 := li_lost h3
  simp only [e3] at C3
  have HV : Hid (vOk s = false) := vOk_lost fun h => by have := (F1.out h).2.2.2.1; rw [h3] at this; cases this
  go_wp2_with fail
  refine (C0 _).mono ?_
  rintro e wc0 ⟨rfl, hbc⟩
  have hfc0 := hf2.next hbc
  have hBc0 := hB2.trans (hbc.mono hB2.size)
  clear hbc
  go_wp2_with fail
  refine (C1 _).mono ?_
  rintro e wc1 ⟨rfl, hbc⟩
  have hfc1 := hfc0.next hbc
  have hBc1 := hBc0.trans (hbc.mono hBc0.size)
  clear hbc
  go_wp2_with fail
  refine (C2 _).mono ?_
  rintro e wc2 ⟨rfl, hbc⟩
  have hfc2 := hfc1.next hbc
  have hBc2 := hBc1.trans (hbc.mono hBc1.size)
  clear hbc
  go_wp2_with fail
  refine (C3 _).mono ?_
  rintro e wc3 ⟨rfl, hbc⟩
  have hfc3 := hfc2.next hbc
  have hBc3 := hBc2.trans (hbc.mono hBc2.size)
  clear hbc
  have HBL := hide hBc3
  have HFL := hfc3.hid
  clear C0 C1 C2 C3 cE hf2 hB2 E0 E1 E2 E3 F1 F2 F3 F5 Z4 HSEC h0 e0 h1 e1 h2 e2 h3 e3 hfc0 hBc0 hfc1 hBc1 hfc2 hBc2 hfc3 hBc3
  have p0 := HFL.out
  have q0 := p0.cell 0
  have q1 := p0.cell 1
  have q2 := p0.cell 2
  have q3 := p0.cell 3
  have qf := p0.free
  simp only [List.getElem?_toArray, List.getElem?_cons_succ, List.getElem?_cons_zero] at q0 q1 q2 q3
  clear p0
  go_wp2
  refine bodyPost_ret (v := .tuple #[.agg #[.slice none 0 0, .int .i64 0, .int .i64 0, .int .i64 0], .bool false]) (by simp [results, Try.results28, go_sem, q0, q1, q2, q3]) rfl (bad_endV HV.out ?_)
  exact (((HBL.out.setCell (Nat.le_refl _) _).setCell (Nat.le_refl _) _).setCell (Nat.le_refl _) _).setCell (Nat.le_refl _) _

set_option linter.unusedVariables false in
set_option linter.unusedSimpArgs false in
set_option maxHeartbeats 8000000 in
theorem spec_ReadVersion_many (s : ByteArray) (hs : s.size ≤ 1048576) (hsec : sect (vB s) = s) (h0 : (li (vB s)).2.2 = true) (h1 : (li (v1 s)).2.2 = true) (h2 : (li (v2 s)).2.2 = true) (h3 : (li (v3 s)).2.2 = true) (hn : ¬ (rnum (v3 s)).1 ≤ 30) (w : World) :
    Calls Try.prog 28 #[.string s] w fun e w' => (∃ v, e = .returned (.tuple #[v, .bool (vOk s)]) ∧ VersionOwn w' w.heap.size v (readV s)) ∧ Below w.heap.size w w' := by
  obtain ⟨zB, z1, z2, z3, z4⟩ := v_size s
  have hvB := vB_le s
  have hb0 := below_one w (.cells #[.slice none 0 0, .int .i64 0, .int .i64 0, .int .i64 0] 46)
  have hf0 := BoxIs.new w #[.slice none 0 0, .int .i64 0, .int .i64 0, .int .i64 0] 46 rfl
  have cE := fun wx => spec_l12Int ⟨#[]⟩ (by decide) wx
  simp only [li_empty] at cE
  go_enter Try.func28, Try.ntmps28
  go_wp2_with fail
  generalize w.alloc (.cells #[.slice none 0 0, .int .i64 0, .int .i64 0, .int .i64 0] 46) = W at hb0 hf0 ⊢
  refine (spec_l10Take s hs W).mono ?_
  rintro e w1 ⟨⟨b, ok, rfl, hok1, hok2, hbz⟩, hb1⟩
  have hf1 := hf0.next hb1
  have hB1 := hb0.trans (hb1.mono hb0.size)
  clear hb0 hf0 hb1
  obtain rfl := hok2 hsec.symm
  obtain rfl := hok1 rfl
  clear hok1 hok2 hbz
  go_wp2_with fail
  refine (spec_section (vB s) (by omega) _).mono ?_
  rintro e w2 ⟨rfl, hb2⟩
  have hf2 := hf1.next hb2
  have hB2 := hB1.trans (hb2.mono hB1.size)
  clear hb2 hf1 hB1
  rw [hsec]
  have HSEC : Hid (s = sect (vB s)) := hsec.symm
  clear hsec
  have C0 := fun wx => spec_l12Int (vB s) (by omega) wx
  have C1 := fun wx => spec_l12Int (v1 s) (by omega) wx
  have C2 := fun wx => spec_l12Int (v2 s) (by omega) wx
  have C3 := fun wx => spec_l12Int (v3 s) (by omega) wx
  have Z4 : Hid ((v4 s).size ≤ 1048576) := by show _ ≤ _; omega
  have F1 : Hid (vOk s = true → (li (vB s)).2.2 = true ∧ (li (v1 s)).2.2 = true ∧ (li (v2 s)).2.2 = true ∧ (li (v3 s)).2.2 = true ∧ (rnum (v3 s)).1 ≤ 30 ∧ (∀ j, j < vN s → mtS (rdv (v4 s) j).2 = true) ∧ (rdv (v4 s) (vN s)).2.size = 0 ∧ versB (vC s) = true) := fun h => by
    obtain ⟨_, _, a, b, c, d, e, f, g⟩ := ver_ok h
    exact ⟨a, b, c, d, e, f, g, (vOk_out h).1⟩
  have F2 : Hid ((li (vB s)).2.2 = true → (li (v1 s)).2.2 = true → (li (v2 s)).2.2 = true → (li (v3 s)).2.2 = true → (rnum (v3 s)).1 ≤ 30 → (∀ j, j < vN s → mtS (rdv (v4 s) j).2 = true) → (rdv (v4 s) (vN s)).2.size = 0 → versB (vC s) = true → vOk s = true) := fun a b c d e f g h => ver_back HSEC.out a b c d e f g h
  have F3 : Hid (vC s = vc (rdv (v4 s) (vN s)).1 (rnum (vB s)).1 (rnum (v1 s)).1 (rnum (v2 s)).1) := by show _ = _; rw [vC, vL]
  have F5 : Hid ((li (v3 s)).2.2 = true → (rnum (v3 s)).1 ≤ 30 → (rnum (v3 s)).1 = ((vN s : Nat) : Int)) := fun a b => by
    have h0 := (li_rnum a).2.2.1
    unfold vN; rw [if_pos (by omega)]; omega
  have E0 : Hid ((li (vB s)).2.2 = true → li (vB s) = ((rnum (vB s)).1, v1 s, true)) := fun h => by rw [v1_def]; exact (li_rnum h).1
  have E1 : Hid ((li (v1 s)).2.2 = true → li (v1 s) = ((rnum (v1 s)).1, v2 s, true)) := fun h => by rw [v2_def]; exact (li_rnum h).1
  have E2 : Hid ((li (v2 s)).2.2 = true → li (v2 s) = ((rnum (v2 s)).1, v3 s, true)) := fun h => by rw [v3_def]; exact (li_rnum h).1
  have E3 : Hid ((li (v3 s)).2.2 = true → li (v3 s) = ((rnum (v3 s)).1, v4 s, true)) := fun h => by rw [v4_def]; exact (li_rnum h).1
  clear zB z1 z2 z3 z4 hvB
  generalize (rnum (vB s)).1 = x1 at *
  generalize (rnum (v1 s)).1 = x2 at *
  generalize (rnum (v2 s)).1 = x3 at *
  generalize (rnum (v3 s)).1 = nn at *
  generalize v4 s = A4 at *
  generalize v3 s = A3 at *
  generalize v2 s = A2 at *
  generalize v1 s = A1 at *
  generalize vB s = AB at *
  generalize vN s = m at *
  have e0 := E0.out h0
  simp only [e0] at C0
  have e1 := E1.out h1
  simp only [e1] at C1
  have e2 := E2.out h2
  simp only [e2] at C2
  have e3 := E3.out h3
  simp only [e3] at C3
  have hns : (30 : Int) < nn := by omega
  have HV : Hid (vOk s = false) := vOk_lost fun h => by have := (F1.out h).2.2.2.2.1; omega
  clear hn
  go_wp2_with fail
  refine (C0 _).mono ?_
  rintro e wc0 ⟨rfl, hbc⟩
  have hfc0 := hf2.next hbc
  have hBc0 := hB2.trans (hbc.mono hB2.size)
  clear hbc
  go_wp2_with fail
  refine (C1 _).mono ?_
  rintro e wc1 ⟨rfl, hbc⟩
  have hfc1 := hfc0.next hbc
  have hBc1 := hBc0.trans (hbc.mono hBc0.size)
  clear hbc
  go_wp2_with fail
  refine (C2 _).mono ?_
  rintro e wc2 ⟨rfl, hbc⟩
  have hfc2 := hfc1.next hbc
  have hBc2 := hBc1.trans (hbc.mono hBc1.size)
  clear hbc
  go_wp2_with fail
  refine (C3 _).mono ?_
  rintro e wc3 ⟨rfl, hbc⟩
  have hfc3 := hfc2.next hbc
  have hBc3 := hBc2.trans (hbc.mono hBc2.size)
  clear hbc
  have HBL := hide hBc3
  have HFL := hfc3.hid
  clear C0 C1 C2 C3 cE hf2 hB2 E0 E1 E2 E3 F1 F2 F3 F5 Z4 HSEC h0 e0 h1 e1 h2 e2 h3 e3 hfc0 hBc0 hfc1 hBc1 hfc2 hBc2 hfc3 hBc3
  have p0 := HFL.out
  have q0 := p0.cell 0
  have q1 := p0.cell 1
  have q2 := p0.cell 2
  have q3 := p0.cell 3
  have qf := p0.free
  simp only [List.getElem?_toArray, List.getElem?_cons_succ, List.getElem?_cons_zero] at q0 q1 q2 q3
  clear p0
  go_wp2
  refine bodyPost_ret (v := .tuple #[.agg #[.slice none 0 0, .int .i64 0, .int .i64 0, .int .i64 0], .bool false]) (by simp [results, Try.results28, go_sem, q0, q1, q2, q3]) rfl (bad_endV HV.out ?_)
  exact (((HBL.out.setCell (Nat.le_refl _) _).setCell (Nat.le_refl _) _).setCell (Nat.le_refl _) _).setCell (Nat.le_refl _) _

end Go.Proofs.Ytplemoedpdammaa

/- ReadVersion of the model. (By gen_readvs2.py.) -/
namespace Go.Proofs.Ytplemoedpdammaa
set_option maxRecDepth 100000
open Go.RowKit Go.Deep

theorem spec_ReadVersion (s : ByteArray) (hs : s.size ≤ 1048576) (w : World) :
    Calls Try.prog 28 #[.string s] w fun e w' => (∃ v, e = .returned (.tuple #[v, .bool (vOk s)]) ∧ VersionOwn w' w.heap.size v (readV s)) ∧ Below w.heap.size w w' := by
  by_cases hsec : sect (vB s) = s
  · cases h0 : (li (vB s)).2.2 with
    | false => exact spec_ReadVersion_0 s hs hsec h0 w
    | true =>
      cases h1 : (li (v1 s)).2.2 with
      | false => exact spec_ReadVersion_1 s hs hsec h0 h1 w
      | true =>
        cases h2 : (li (v2 s)).2.2 with
        | false => exact spec_ReadVersion_2 s hs hsec h0 h1 h2 w
        | true =>
          cases h3 : (li (v3 s)).2.2 with
          | false => exact spec_ReadVersion_3 s hs hsec h0 h1 h2 h3 w
          | true =>
            by_cases hn : (rnum (v3 s)).1 ≤ 30
            · exact spec_ReadVersion_loop s hs hsec h0 h1 h2 h3 hn w
            · exact spec_ReadVersion_many s hs hsec h0 h1 h2 h3 hn w
  · exact spec_ReadVersion_sec s hs hsec w

end Go.Proofs.Ytplemoedpdammaa

/- The law FnVersionTexts, walked. -/
namespace Go.Proofs.Ytplemoedpdammaa
set_option maxRecDepth 100000
open Go.RowKit Go.Deep

theorem laws_sameMetasV (a b : Option Addr) (len ca cb : Nat) (O : Metas) (w : World) (hl : len ≤ 1048576) (ha : MetaAt w w.heap.size a len O) (hb : MetaAt w w.heap.size b len O) :
    Calls Try.prog 26 #[.slice a len ca, .slice b len cb] w fun e w' => e = .returned (.bool true) ∧ Below w.heap.size w w' := by
  have HA := hide ha
  have HB := hide hb
  have HW0 := hide (Below.refl w.heap.size w)
  clear ha hb
  go_enter Try.func26, Try.ntmps26
  go_wp2
  go_loopw [5] (fun i wr => ∃ k : Nat, i = .int .i64 k ∧ k ≤ len ∧ Hid (Below w.heap.size w wr)) (fun i _ => len - (intOf i).toNat)
  case atStart => exact ⟨0, rfl, by omega, HW0⟩
  case round =>
    obtain ⟨k, rfl, hk, HW⟩ := hrel
    by_cases hlt : k < len
    · obtain ⟨g1, o1, rfl, _, c0, c1, c2, c3, c4⟩ := (HA.out.below HW.out).at hlt
      obtain ⟨g2, o2, rfl, _, d0, d1, d2, d3, d4⟩ := (HB.out.below HW.out).at hlt
      have hki : (k : Int) < (len : Int) := by omega
      go_wp2
      go_quiet (fail)
      go_wp2
      exact ⟨⟨k + 1, by go_num, by omega, below_drewN HW.out _⟩, by simp [intOf]; omega⟩
    · obtain rfl : k = len := by omega
      go_wp2
      go_ret
      exact ⟨rfl, HW.out⟩

theorem vOk_empty : vOk ⟨#[]⟩ = false := by
  cases h : vOk ⟨#[]⟩ with
  | false => rfl
  | true =>
    unfold vOk at h
    rw [Bool.and_eq_true] at h
    have h1 := of_decide_eq_true h.2
    unfold versT at h1
    rw [if_pos h.1] at h1
    have h2 := congrArg ByteArray.size h1
    have h3 := putTextV_size (rowsT (vC ⟨#[]⟩).r0 (headT (vC ⟨#[]⟩)) (vC ⟨#[]⟩).n0)
    unfold sect at h2
    rw [ByteArray.size_append, fx4_size] at h2
    have h4 : (⟨#[]⟩ : ByteArray).size = 0 := rfl
    omega
/-- A version comes back from its text. -/
theorem ver_round (l : List Meta1) (x y z : Int) : vOk (versT (vc l x y z)) = versB (vc l x y z) ∧ (versB (vc l x y z) = true → readV (versT (vc l x y z)) = vc l x y z) := by
  cases h : versB (vc l x y z) with
  | true =>
    obtain ⟨_, _, h3, h4, _⟩ := ver_put h rfl
    refine ⟨h4, fun _ => ?_⟩
    unfold readV
    rw [if_pos h4, h3]
  | false =>
    refine ⟨?_, fun e => by cases e⟩
    have e : versT (vc l x y z) = ⟨#[]⟩ := by unfold versT; rw [h]; rfl
    rw [e]; exact vOk_empty
/-- What is read has just the bytes that it was read from. -/
theorem ver_read (s : ByteArray) (h : vOk s = true) : versT (readV s) = s := by
  have h' := h
  unfold vOk at h'
  rw [Bool.and_eq_true] at h'
  unfold readV
  rw [if_pos h]
  exact of_decide_eq_true h'.2
theorem readV_fitN (s : ByteArray) : (readV s).n0 ≤ 1048576 := readV_fit s

set_option linter.unusedSimpArgs false in
set_option maxHeartbeats 4000000 in
theorem walk_FnVersionTexts (v : Value) {w : World} (hv : IsBytes w v) (_w : World) :
    Calls Try.prog 5 #[v] w fun e w' => e = .returned (.bool true) ∧ Below w.heap.size w w' := by
  obtain ⟨a, len, cap, rfl, hc, hm⟩ := hv
  by_cases hbig : 1048576 < len
  · have hd : decide (1048576 < len) = true := by simp [hbig]
    go_enter Try.func5, Try.ntmps5
    go_wp2_with fail
    refine (laws_bigO a len cap hm _).mono ?_
    rintro e w1 ⟨rfl, rfl⟩
    go_wp2
    go_ret
    exact ⟨rfl, Below.refl _ _⟩
  · have hd : decide (1048576 < len) = false := by simp [hbig]
    have hl : len ≤ 1048576 := by omega
    go_enter Try.func5, Try.ntmps5
    go_wp2_with fail
    refine (laws_bigO a len cap hm _).mono ?_
    rintro e w1 ⟨rfl, rfl⟩
    go_wp2_with fail
    refine (draw_VersionText w _ a len cap hc hl (Below.refl _ _)).mono ?_
    rintro e w1 ⟨a1, c1, l, nx, sq, lg, rfl, ho, hll, hb1⟩
    have hX := (BoxIs.new w1 #[.slice a1 l.length c1, .int .i64 nx, .int .i64 sq, .int .i64 lg] 46 rfl).hid
    have HB := hide (hb1.trans ((below_one w1 (.cells #[.slice a1 l.length c1, .int .i64 nx, .int .i64 sq, .int .i64 lg] 46)).mono hb1.size))
    have HO := (ho.next (below_one w1 (.cells #[.slice a1 l.length c1, .int .i64 nx, .int .i64 sq, .int .i64 lg] 46))).hid
    have hfit : (vc l nx sq lg).Fit := by show l.length ≤ 1048576; omega
    have HF := hide hfit
    have hsz := versT_le l nx sq lg
    have HRN := hide (ver_round l nx sq lg)
    obtain ⟨S, hS⟩ : ∃ S, versT (vc l nx sq lg) = S := ⟨_, rfl⟩
    obtain ⟨ok, hok⟩ : ∃ ok, versB (vc l nx sq lg) = ok := ⟨_, rfl⟩
    rw [hS] at hsz
    rw [hS, hok] at HRN
    have HS := hide hS
    have HOK := hide hok
    clear ho hb1 hd hS hok hfit
    go_wp2_with fail
    generalize w1.alloc (.cells #[.slice a1 l.length c1, .int .i64 nx, .int .i64 sq, .int .i64 lg] 46) = W1 at hX HB HO ⊢
    generalize w1.heap.size = E at hX ⊢
    have y0 := hX.out.cell 0
    have y1 := hX.out.cell 1
    have y2 := hX.out.cell 2
    have y3 := hX.out.cell 3
    simp only [List.getElem?_toArray, List.getElem?_cons_succ, List.getElem?_cons_zero] at y0 y1 y2 y3
    go_wp2_with fail
    refine (HS.out ▸ impl_VersionText (.agg #[.slice a1 l.length c1, .int .i64 nx, .int .i64 sq, .int .i64 lg]) (vc l nx sq lg) W1 HF.out (versionIs_own HO.out)).mono ?_
    rintro e w2 ⟨rfl, hb2⟩
    have hX2 := (hX.out.next hb2).hid
    have HB2 := hide (HB.out.trans (hb2.mono HB.out.size))
    have HO2 := (HO.out.next hb2).hid
    clear hX HB HO hb2 y0 y1 y2 y3
    go_wp2_with fail
    refine (HRN.out.1 ▸ impl_ReadVersion S (by omega) w2).mono ?_
    rintro e w3 ⟨⟨u, rfl, hu⟩, hb3⟩
    obtain ⟨ua, up, rfl, hum⟩ := hu
    have hX3 := hX2.out.next hb3
    have HB3 := HB2.out.trans (hb3.mono HB2.out.size)
    have HO3 := HO2.out.next hb3
    obtain ⟨R, hR⟩ : ∃ R, readV S = R := ⟨_, rfl⟩
    have HRN2 := hide (HRN.out.2)
    rw [hR] at hum HRN2 ⊢
    have hfitR : R.n0 ≤ 1048576 := by rw [← hR]; exact readV_fitN S
    have hY := (BoxIs.new w3 #[.slice ua R.n0 up, .int .i64 R.x1, .int .i64 R.x2, .int .i64 R.x3] 46 rfl).hid
    have hX4 := (hX3.next (below_one w3 (.cells #[.slice ua R.n0 up, .int .i64 R.x1, .int .i64 R.x2, .int .i64 R.x3] 46))).hid
    have HB4 := hide (HB3.trans ((below_one w3 (.cells #[.slice ua R.n0 up, .int .i64 R.x1, .int .i64 R.x2, .int .i64 R.x3] 46)).mono HB3.size))
    have HO4 := (HO3.next (below_one w3 (.cells #[.slice ua R.n0 up, .int .i64 R.x1, .int .i64 R.x2, .int .i64 R.x3] 46))).hid
    have HU4 := (hum.next (below_one w3 (.cells #[.slice ua R.n0 up, .int .i64 R.x1, .int .i64 R.x2, .int .i64 R.x3] 46))).hid
    clear hX2 HB2 HO2 hb3 hX3 HB3 HO3 hum hR HRN
    go_upto_region 6 with fail
    generalize w3.alloc (.cells #[.slice ua R.n0 up, .int .i64 R.x1, .int .i64 R.x2, .int .i64 R.x3] 46) = W4 at hY hX4 HB4 HO4 HU4 ⊢
    generalize w3.heap.size = Y at hY ⊢
    have y0 := hX4.out.cell 0
    have y1 := hX4.out.cell 1
    have y2 := hX4.out.cell 2
    have y3 := hX4.out.cell 3
    simp only [List.getElem?_toArray, List.getElem?_cons_succ, List.getElem?_cons_zero] at y0 y1 y2 y3
    go_wp2_with fail
    refine (HS.out ▸ spec_VersionText (.agg #[.slice a1 l.length c1, .int .i64 nx, .int .i64 sq, .int .i64 lg]) (vc l nx sq lg) W4 HF.out (versionIs_own HO4.out)).mono ?_
    rintro e w5 ⟨rfl, hb5⟩
    have hX5 := (hX4.out.next hb5).hid
    have hY5 := (hY.out.next hb5).hid
    have HB5 := hide (HB4.out.trans (hb5.mono HB4.out.size))
    have HO5 := (HO4.out.next hb5).hid
    have HU5 := (HU4.out.next hb5).hid
    clear hX4 hY HB4 HO4 HU4 hb5 y0 y1 y2 y3
    have y0 := hX5.out.cell 0
    have y1 := hX5.out.cell 1
    have y2 := hX5.out.cell 2
    have y3 := hX5.out.cell 3
    simp only [List.getElem?_toArray, List.getElem?_cons_succ, List.getElem?_cons_zero] at y0 y1 y2 y3
    go_wp2_with fail
    refine (HOK.out ▸ impl_VersionOk (.agg #[.slice a1 l.length c1, .int .i64 nx, .int .i64 sq, .int .i64 lg]) (vc l nx sq lg) w5 HF.out (versionIs_own HO5.out)).mono ?_
    rintro e w6 ⟨rfl, hb6⟩
    have hX6 := (hX5.out.next hb6).hid
    have hY6 := (hY5.out.next hb6).hid
    have HB6 := hide (HB5.out.trans (hb6.mono HB5.out.size))
    have HO6 := (HO5.out.next hb6).hid
    have HU6 := (HU5.out.next hb6).hid
    clear hX5 hY5 HB5 HO5 HU5 hb6 y0 y1 y2 y3
    cases ok with
    | false =>
      clear HRN2 hX6 hY6 HO6 HU6
      go_upto_region 8 with fail
      go_wp2_with fail
      refine (draw_ReadVersion w _ a len cap hc hl HB6.out).mono ?_
      rintro e w8 ⟨⟨t, rfl, ht⟩, hb8⟩
      have HB8 := hide (HB6.out.trans (hb8.mono HB6.out.size))
      obtain ⟨f, hf⟩ : ∃ f, vOk t = f := ⟨_, rfl⟩
      have HFK := hide hf
      have HVR := hide (ver_read t)
      rw [hf] at HVR
      clear HB6 hb8 hf
      go_wp2_with fail
      refine (HFK.out ▸ impl_ReadVersion t ht w8).mono ?_
      rintro e w9 ⟨⟨u2, rfl, hu2⟩, hb9⟩
      obtain ⟨ta, tp, rfl, htm⟩ := hu2
      have HB9 := HB8.out.trans (hb9.mono HB8.out.size)
      have hfitT := readV_fitN t
      generalize readV t = T at htm hfitT HVR ⊢
      have hZ := (BoxIs.new w9 #[.slice ta T.n0 tp, .int .i64 T.x1, .int .i64 T.x2, .int .i64 T.x3] 46 rfl).hid
      have HB10 := hide (HB9.trans ((below_one w9 (.cells #[.slice ta T.n0 tp, .int .i64 T.x1, .int .i64 T.x2, .int .i64 T.x3] 46)).mono HB9.size))
      have HT10 := (htm.next (below_one w9 (.cells #[.slice ta T.n0 tp, .int .i64 T.x1, .int .i64 T.x2, .int .i64 T.x3] 46))).hid
      clear HB8 hb9 HB9 htm
      go_upto_region 10 with fail
      generalize w9.alloc (.cells #[.slice ta T.n0 tp, .int .i64 T.x1, .int .i64 T.x2, .int .i64 T.x3] 46) = W10 at hZ HB10 HT10 ⊢
      generalize w9.heap.size = Z at hZ ⊢
      go_wp2_with fail
      refine (HFK.out ▸ spec_ReadVersion t ht W10).mono ?_
      rintro e w11 ⟨⟨u3, rfl, hu3⟩, hb11⟩
      obtain ⟨sa, sp, rfl, hsm⟩ := hu3
      have hZ11 := hZ.out.next hb11
      have HB11 := HB10.out.trans (hb11.mono HB10.out.size)
      have HT11 := HT10.out.next hb11
      generalize readV t = T2 at hsm ⊢
      have hZ12 := (hZ11.next (below_one w11 (.cells #[.slice sa T2.n0 sp, .int .i64 T2.x1, .int .i64 T2.x2, .int .i64 T2.x3] 46))).hid
      have HB12 := hide (HB11.trans ((below_one w11 (.cells #[.slice sa T2.n0 sp, .int .i64 T2.x1, .int .i64 T2.x2, .int .i64 T2.x3] 46)).mono HB11.size))
      have HT12 := (HT11.next (below_one w11 (.cells #[.slice sa T2.n0 sp, .int .i64 T2.x1, .int .i64 T2.x2, .int .i64 T2.x3] 46))).hid
      clear hZ HB10 HT10 hb11 hZ11 HB11 HT11 hsm
      go_upto_region 11 with fail
      generalize w11.alloc (.cells #[.slice sa T2.n0 sp, .int .i64 T2.x1, .int .i64 T2.x2, .int .i64 T2.x3] 46) = W12 at hZ12 HB12 HT12 ⊢
      cases f with
      | false =>
        go_wp2
        go_ret
        exact ⟨rfl, HB12.out⟩
      | true =>
        have z0 := hZ12.out.cell 0
        have z1 := hZ12.out.cell 1
        have z2 := hZ12.out.cell 2
        have z3 := hZ12.out.cell 3
        simp only [List.getElem?_toArray, List.getElem?_cons_succ, List.getElem?_cons_zero] at z0 z1 z2 z3
        go_wp2_with fail
        refine ((HVR.out (by trivial)) ▸ impl_VersionText (.agg #[.slice ta T.n0 tp, .int .i64 T.x1, .int .i64 T.x2, .int .i64 T.x3]) T W12 hfitT (VersionIs.of_mine HT12.out)).mono ?_
        rintro e w13 ⟨rfl, hb13⟩
        have HB13 := hide (HB12.out.trans (hb13.mono HB12.out.size))
        clear HB12 hb13 z0 z1 z2 z3
        go_wp2
        go_ret
        exact ⟨rfl, HB13.out⟩
    | true =>
      obtain rfl := HRN2.out rfl
      have y0 := hX6.out.cell 0
      have y1 := hX6.out.cell 1
      have y2 := hX6.out.cell 2
      have y3 := hX6.out.cell 3
      have z0 := hY6.out.cell 0
      have z1 := hY6.out.cell 1
      have z2 := hY6.out.cell 2
      have z3 := hY6.out.cell 3
      simp only [List.getElem?_toArray, List.getElem?_cons_succ, List.getElem?_cons_zero] at y0 y1 y2 y3 z0 z1 z2 z3
      go_wp2_with fail
      obtain ⟨a0, p0, hva, hM⟩ := HO6.out.arg
      simp only [Value.slice.injEq, true_and] at hva
      obtain ⟨rfl, rfl⟩ := hva
      refine (laws_sameMetasV ua a1 l.length up c1 (fnMeta l) w6 (by omega) (metaAt_mine HU6.out) hM).mono ?_
      rintro e w7 ⟨rfl, hb7⟩
      have hX7 := (hX6.out.next hb7).hid
      have hY7 := (hY6.out.next hb7).hid
      have HB7 := hide (HB6.out.trans (hb7.mono HB6.out.size))
      clear hX6 hY6 HB6 HO6 HU6 hb7 hM HRN2 y0 y1 y2 y3 z0 z1 z2 z3
      have y1 := hX7.out.cell 1
      have y2 := hX7.out.cell 2
      have y3 := hX7.out.cell 3
      have z1 := hY7.out.cell 1
      have z2 := hY7.out.cell 2
      have z3 := hY7.out.cell 3
      simp only [List.getElem?_toArray, List.getElem?_cons_succ, List.getElem?_cons_zero] at y1 y2 y3 z1 z2 z3
      have e1 : (vc l nx sq lg).x1 = nx := rfl
      have e2 : (vc l nx sq lg).x2 = sq := rfl
      have e3 : (vc l nx sq lg).x3 = lg := rfl
      rw [e1] at z1
      rw [e2] at z2
      rw [e3] at z3
      go_upto_region 8 with fail
      have HB6 := HB7
      clear hX7 hY7 y1 y2 y3 z1 z2 z3 HB7
      go_wp2_with fail
      refine (draw_ReadVersion w _ a len cap hc hl HB6.out).mono ?_
      rintro e w8 ⟨⟨t, rfl, ht⟩, hb8⟩
      have HB8 := hide (HB6.out.trans (hb8.mono HB6.out.size))
      obtain ⟨f, hf⟩ : ∃ f, vOk t = f := ⟨_, rfl⟩
      have HFK := hide hf
      have HVR := hide (ver_read t)
      rw [hf] at HVR
      clear HB6 hb8 hf
      go_wp2_with fail
      refine (HFK.out ▸ impl_ReadVersion t ht w8).mono ?_
      rintro e w9 ⟨⟨u2, rfl, hu2⟩, hb9⟩
      obtain ⟨ta, tp, rfl, htm⟩ := hu2
      have HB9 := HB8.out.trans (hb9.mono HB8.out.size)
      have hfitT := readV_fitN t
      generalize readV t = T at htm hfitT HVR ⊢
      have hZ := (BoxIs.new w9 #[.slice ta T.n0 tp, .int .i64 T.x1, .int .i64 T.x2, .int .i64 T.x3] 46 rfl).hid
      have HB10 := hide (HB9.trans ((below_one w9 (.cells #[.slice ta T.n0 tp, .int .i64 T.x1, .int .i64 T.x2, .int .i64 T.x3] 46)).mono HB9.size))
      have HT10 := (htm.next (below_one w9 (.cells #[.slice ta T.n0 tp, .int .i64 T.x1, .int .i64 T.x2, .int .i64 T.x3] 46))).hid
      clear HB8 hb9 HB9 htm
      go_upto_region 10 with fail
      generalize w9.alloc (.cells #[.slice ta T.n0 tp, .int .i64 T.x1, .int .i64 T.x2, .int .i64 T.x3] 46) = W10 at hZ HB10 HT10 ⊢
      generalize w9.heap.size = Z at hZ ⊢
      go_wp2_with fail
      refine (HFK.out ▸ spec_ReadVersion t ht W10).mono ?_
      rintro e w11 ⟨⟨u3, rfl, hu3⟩, hb11⟩
      obtain ⟨sa, sp, rfl, hsm⟩ := hu3
      have hZ11 := hZ.out.next hb11
      have HB11 := HB10.out.trans (hb11.mono HB10.out.size)
      have HT11 := HT10.out.next hb11
      generalize readV t = T2 at hsm ⊢
      have hZ12 := (hZ11.next (below_one w11 (.cells #[.slice sa T2.n0 sp, .int .i64 T2.x1, .int .i64 T2.x2, .int .i64 T2.x3] 46))).hid
      have HB12 := hide (HB11.trans ((below_one w11 (.cells #[.slice sa T2.n0 sp, .int .i64 T2.x1, .int .i64 T2.x2, .int .i64 T2.x3] 46)).mono HB11.size))
      have HT12 := (HT11.next (below_one w11 (.cells #[.slice sa T2.n0 sp, .int .i64 T2.x1, .int .i64 T2.x2, .int .i64 T2.x3] 46))).hid
      clear hZ HB10 HT10 hb11 hZ11 HB11 HT11 hsm
      go_upto_region 11 with fail
      generalize w11.alloc (.cells #[.slice sa T2.n0 sp, .int .i64 T2.x1, .int .i64 T2.x2, .int .i64 T2.x3] 46) = W12 at hZ12 HB12 HT12 ⊢
      cases f with
      | false =>
        go_wp2
        go_ret
        exact ⟨rfl, HB12.out⟩
      | true =>
        have z0 := hZ12.out.cell 0
        have z1 := hZ12.out.cell 1
        have z2 := hZ12.out.cell 2
        have z3 := hZ12.out.cell 3
        simp only [List.getElem?_toArray, List.getElem?_cons_succ, List.getElem?_cons_zero] at z0 z1 z2 z3
        go_wp2_with fail
        refine ((HVR.out (by trivial)) ▸ impl_VersionText (.agg #[.slice ta T.n0 tp, .int .i64 T.x1, .int .i64 T.x2, .int .i64 T.x3]) T W12 hfitT (VersionIs.of_mine HT12.out)).mono ?_
        rintro e w13 ⟨rfl, hb13⟩
        have HB13 := hide (HB12.out.trans (hb13.mono HB12.out.size))
        clear HB12 hb13 z0 z1 z2 z3
        go_wp2
        go_ret
        exact ⟨rfl, HB13.out⟩

end Go.Proofs.Ytplemoedpdammaa
