/- VersionText, of the program and of the model; sections. (By gen_vtext.py.) -/
import Derived.Test.YtplemoedpdammaaVersS
import Derived.Test.YtplemoedpdammaaText
import Derived.Test.YtplemoedpdammaaCrc
import Derived.Test.YtplemoedpdammaaFixed
namespace Go.Proofs.Ytplemoedpdammaa
set_option maxRecDepth 100000
open Go.RowKit Go.Deep

theorem putTextV_size (s : ByteArray) : s.size + 1 ≤ (putText s).size ∧ (putText s).size ≤ s.size + 10 := by
  have := pv_size s.size
  rw [putText, ByteArray.size_append]; omega
theorem ret_strV {a b : ByteArray} (h : a = b) : Ending.returned (.string a) = .returned (.string b) := by rw [h]
theorem empty_app (s : ByteArray) : (⟨#[]⟩ : ByteArray) ++ s = s := by
  apply ByteArray.ext; simp

/-- A section: a text and its sum. -/
def sect (s : ByteArray) : ByteArray := putText s ++ fx4 (crc s)

set_option maxHeartbeats 1000000 in
theorem impl_section (s : ByteArray) (hs : s.size ≤ 1000000) (w : World) :
    Calls Try.prog 52 #[.string s] w fun e w' => e = .returned (.string (sect s)) ∧ Below w.heap.size w w' := by
  have hp := putTextV_size s
  have hf := fx4_size (crc s)
  have HB0 : Hid (Below w.heap.size w w) := Below.refl _ _
  have ha : ∀ wx : World, (Op.stringOp .add (putText s) (fx4 (crc s))).run Try.prog wx = .ok (.string (sect s)) wx := fun wx => run_string_add_sum wx _ _ (by omega)
  go_enter Try.func52, Try.ntmps52
  go_wp2_with fail
  refine (impl_PutText s (by omega) _).mono ?_
  rintro e w1 ⟨rfl, hb1⟩
  have HB1 := hide (HB0.out.trans hb1)
  clear hb1 HB0
  go_wp2_with fail
  refine (impl_Crc s (by unfold maxLen; omega) _).mono ?_
  rintro e w2 ⟨rfl, rfl⟩
  go_wp2_with fail
  refine (impl_PutFixed (crc s) _).mono ?_
  rintro e w3 ⟨rfl, hb3⟩
  have HB3 := hide (HB1.out.trans (hb3.mono HB1.out.size))
  clear hb3 HB1
  generalize fx4 (crc s) = c4 at *
  generalize putText s = q4 at *
  go_wp2
  go_ret
  exact ⟨rfl, HB3.out⟩

set_option maxHeartbeats 1000000 in
theorem spec_section (s : ByteArray) (hs : s.size ≤ 1000000) (w : World) :
    Calls Try.prog 58 #[.string s] w fun e w' => e = .returned (.string (sect s)) ∧ Below w.heap.size w w' := by
  have hp := putTextV_size s
  have hf := fx4_size (crc s)
  have HB0 : Hid (Below w.heap.size w w) := Below.refl _ _
  have ha : ∀ wx : World, (Op.stringOp .add (putText s) (fx4 (crc s))).run Try.prog wx = .ok (.string (sect s)) wx := fun wx => run_string_add_sum wx _ _ (by omega)
  go_enter Try.func58, Try.ntmps58
  go_wp2_with fail
  refine (spec_PutText s (by omega) _).mono ?_
  rintro e w1 ⟨rfl, hb1⟩
  have HB1 := hide (HB0.out.trans hb1)
  clear hb1 HB0
  go_wp2_with fail
  refine (spec_Crc s (by unfold maxLen; omega) _).mono ?_
  rintro e w2 ⟨rfl, rfl⟩
  go_wp2_with fail
  refine (spec_PutFixed (crc s) _).mono ?_
  rintro e w3 ⟨rfl, hb3⟩
  have HB3 := hide (HB1.out.trans (hb3.mono HB1.out.size))
  clear hb3 HB1
  generalize fx4 (crc s) = c4 at *
  generalize putText s = q4 at *
  go_wp2
  go_ret
  exact ⟨rfl, HB3.out⟩

/-- The bytes of file i. -/
def rowT (O : Metas) (i : Nat) : ByteArray := pv (O.N i) ++ pv (O.L i) ++ putText (O.F i) ++ putText (O.Z i) ++ pv (O.C i)
def headT (c : VersionC) : ByteArray := pv c.x1 ++ pv c.x2 ++ pv c.x3 ++ pv (c.n0 : Int)
/-- The bytes of the first k files, behind those of s. -/
def rowsT (O : Metas) (s : ByteArray) : Nat → ByteArray
  | 0 => s
  | k + 1 => rowsT O s k ++ rowT O k
def versT (c : VersionC) : ByteArray := if versB c then sect (rowsT c.r0 (headT c) c.n0) else ⟨#[]⟩

theorem fileB_users {x0 x1 : Int} {x2 x3 : ByteArray} {x4 nx : Int} (h : fileB x0 x1 x2 x3 x4 nx = true) : x2.size ≤ 40 ∧ x3.size ≤ 40 ∧ 1 ≤ x0 ∧ x0 < nx ∧ 0 ≤ x1 ∧ x1 ≤ 3 ∧ 1 ≤ x4 ∧ x4 ≤ 400 := by
  unfold fileB at h
  simp only [Bool.and_eq_true, decide_eq_true_eq] at h
  obtain ⟨⟨⟨⟨⟨⟨⟨⟨a, b⟩, c⟩, d⟩, e⟩, f⟩, _⟩, g⟩, i⟩ := h
  exact ⟨(userB_bd e).2, (userB_bd f).2, a, b, c, d, g, i⟩
theorem rowT_size {O : Metas} {i : Nat} {nx : Int} (h : stepB O nx i = true) : (rowT O i).size ≤ 130 := by
  have h1 := fileB_users (stepB_file h)
  have h2 := putTextV_size (O.F i)
  have h3 := putTextV_size (O.Z i)
  have h4 := pv_size (O.N i)
  have h5 := pv_size (O.L i)
  have h6 := pv_size (O.C i)
  unfold rowT
  simp only [ByteArray.size_append]
  omega
theorem headT_size (c : VersionC) : (headT c).size ≤ 40 := by
  have h1 := pv_size c.x1
  have h2 := pv_size c.x2
  have h3 := pv_size c.x3
  have h4 := pv_size (c.n0 : Int)
  unfold headT
  simp only [ByteArray.size_append]
  omega
theorem rowsT_size {O : Metas} {s : ByteArray} {nx : Int} : ∀ k, (∀ i, i < k → stepB O nx i = true) → (rowsT O s k).size ≤ s.size + 130 * k
  | 0, _ => by simp [rowsT]
  | k + 1, h => by
    have h1 := rowsT_size (s := s) k fun i hi => h i (by omega)
    have h2 := rowT_size (h k (by omega))
    rw [rowsT, ByteArray.size_append]
    omega

set_option linter.unusedVariables false in
set_option linter.unusedSimpArgs false in
set_option maxHeartbeats 4000000 in
theorem impl_VersionText (v : Value) (c : VersionC) (w : World) (hf : c.Fit) (hv : VersionIs w v c) :
    Calls Try.prog 22 #[v] w fun e w' => e = .returned (.string (versT c)) ∧ Below w.heap.size w w' := by
  have hvn := hv
  obtain ⟨a0, p0, rfl, hS⟩ := hv
  have hl : c.n0 ≤ 1048576 := hf
  have hb0 := below_one w (.cells #[.slice a0 c.n0 p0, .int .i64 c.x1, .int .i64 c.x2, .int .i64 c.x3] 46)
  have HBb := hide hb0
  have HK := (BoxIs.new w #[.slice a0 c.n0 p0, .int .i64 c.x1, .int .i64 c.x2, .int .i64 c.x3] 46 rfl).hid
  have HV0 := (hvn.next hb0).hid
  have HS := hS.hid
  have hgz : w.heap.size < (w.alloc (.cells #[.slice a0 c.n0 p0, .int .i64 c.x1, .int .i64 c.x2, .int .i64 c.x3] 46)).heap.size := HK.out.lt
  clear hS hvn hb0
  go_enter Try.func22, Try.ntmps22
  go_wp2_with fail
  generalize hW : (w.alloc (.cells #[.slice a0 c.n0 p0, .int .i64 c.x1, .int .i64 c.x2, .int .i64 c.x3] 46)) = W1 at HBb HK HV0 hgz ⊢
  clear hW
  have HC : Hid (Below W1.heap.size W1 W1) := Below.refl _ _
  refine (impl_VersionOk _ c W1 hf HV0.out).mono ?_
  rintro e w2 ⟨rfl, hb2⟩
  have HC := hide (HC.out.trans hb2)
  clear hb2
  cases hok : versB c with
  | false =>
    have HL : Hid (⟨#[]⟩ = versT c) := by unfold Hid versT; rw [hok]; rfl
    clear hok
    go_wp2
    go_ret
    exact ⟨ret_strV HL.out, HBb.out.trans (HC.out.mono HBb.out.size)⟩
  | true =>
    have HL : Hid (sect (rowsT c.r0 (headT c) c.n0) = versT c) := by unfold Hid versT; rw [hok]; rfl
    obtain ⟨⟨r1, r2, r3, r4, r5, r6, r7⟩, hst, _⟩ := versB_out hok
    have HO := hide hst
    clear hok hst
    have m1 : IntKind.u64.wrap c.x1 = c.x1 := by rw [IntKind.wrap_u64]; omega
    have m2 : IntKind.u64.wrap c.x2 = c.x2 := by rw [IntKind.wrap_u64]; omega
    have m3 : IntKind.u64.wrap c.x3 = c.x3 := by rw [IntKind.wrap_u64]; omega
    have m4 : IntKind.u64.wrap (c.n0 : Int) = (c.n0 : Int) := by rw [IntKind.wrap_u64]; omega
    have s1 := pv_size c.x1
    have s2 := pv_size c.x2
    have s3 := pv_size c.x3
    have s4 := pv_size (c.n0 : Int)
    have hH := headT_size c
    have HH : Hid (headT c = pv c.x1 ++ pv c.x2 ++ pv c.x3 ++ pv (c.n0 : Int)) := rfl
    have d1 : ∀ wx : World, (Op.stringOp .add (pv c.x1) (pv c.x2)).run Try.prog wx = .ok (.string (pv c.x1 ++ pv c.x2)) wx := fun wx => run_string_add_sum wx _ _ (by omega)
    have d2 : ∀ wx : World, (Op.stringOp .add (pv c.x1 ++ pv c.x2) (pv c.x3)).run Try.prog wx = .ok (.string (pv c.x1 ++ pv c.x2 ++ pv c.x3)) wx := fun wx => run_string_add_sum wx _ _ (by rw [ByteArray.size_append]; omega)
    have d3 : ∀ wx : World, (Op.stringOp .add (pv c.x1 ++ pv c.x2 ++ pv c.x3) (pv (c.n0 : Int))).run Try.prog wx = .ok (.string (pv c.x1 ++ pv c.x2 ++ pv c.x3 ++ pv (c.n0 : Int))) wx := fun wx => run_string_add_sum wx _ _ (by rw [ByteArray.size_append, ByteArray.size_append]; omega)
    have k0 : w2.cell? ⟨w.heap.size, 0, none⟩ = some (.slice a0 c.n0 p0) := (HK.out.next HC.out).cell 0
    have k1 : w2.cell? ⟨w.heap.size, 1, none⟩ = some (.int .i64 c.x1) := (HK.out.next HC.out).cell 1
    have k2 : w2.cell? ⟨w.heap.size, 2, none⟩ = some (.int .i64 c.x2) := (HK.out.next HC.out).cell 2
    have k3 : w2.cell? ⟨w.heap.size, 3, none⟩ = some (.int .i64 c.x3) := (HK.out.next HC.out).cell 3
    have d0 : ∀ wx : World, (Op.stringOp .add ⟨#[]⟩ (pv c.x1)).run Try.prog wx = .ok (.string (pv c.x1)) wx := fun wx => by
      have h := run_string_add_sum (P := Try.prog) wx ⟨#[]⟩ (pv c.x1) (by have : (⟨#[]⟩ : ByteArray).size = 0 := rfl; omega)
      rwa [empty_app] at h
    have hb3 := below_one w2 (.cells #[.int .i64 c.x1, .int .i64 c.x2, .int .i64 c.x3, .int .i64 (c.n0 : Int)] 2)
    have HC3 := hide (HC.out.trans (hb3.mono HC.out.size))
    have HX3 := (BoxIs.new w2 #[.int .i64 c.x1, .int .i64 c.x2, .int .i64 c.x3, .int .i64 (c.n0 : Int)] 2 rfl).hid
    go_wp2
    clear k0 k1 k2 k3 HC hb3
    generalize w2.alloc (.cells #[.int .i64 c.x1, .int .i64 c.x2, .int .i64 c.x3, .int .i64 (c.n0 : Int)] 2) = W3 at HC3 HX3 ⊢
    obtain ⟨FX, hFX⟩ : ∃ x, w2.heap.size = x := ⟨_, rfl⟩
    rw [hFX] at HX3 ⊢
    clear hFX
    have HD3 : Hid (Below W3.heap.size W3 W3) := Below.refl _ _
    refine wp_loop_rounds 5 ?_
    rw [rounds_succ]
    have l0 := (HX3.out.next HD3.out).cell 0
    simp only [List.getElem?_toArray, List.getElem?_cons_succ, List.getElem?_cons_zero] at l0
    go_wp2_with fail
    clear l0
    refine (impl_PutVar c.x1 (by omega) (by omega) _).mono ?_
    rintro e wp0 ⟨rfl, hbp⟩
    have HD3 := hide (HD3.out.trans (hbp.mono HD3.out.size))
    clear hbp
    go_wp2
    rw [rounds_succ]
    have l1 := (HX3.out.next HD3.out).cell 1
    simp only [List.getElem?_toArray, List.getElem?_cons_succ, List.getElem?_cons_zero] at l1
    go_wp2_with fail
    clear l1
    refine (impl_PutVar c.x2 (by omega) (by omega) _).mono ?_
    rintro e wp1 ⟨rfl, hbp⟩
    have HD3 := hide (HD3.out.trans (hbp.mono HD3.out.size))
    clear hbp
    go_wp2
    rw [rounds_succ]
    have l2 := (HX3.out.next HD3.out).cell 2
    simp only [List.getElem?_toArray, List.getElem?_cons_succ, List.getElem?_cons_zero] at l2
    go_wp2_with fail
    clear l2
    refine (impl_PutVar c.x3 (by omega) (by omega) _).mono ?_
    rintro e wp2 ⟨rfl, hbp⟩
    have HD3 := hide (HD3.out.trans (hbp.mono HD3.out.size))
    clear hbp
    go_wp2
    rw [rounds_succ]
    have l3 := (HX3.out.next HD3.out).cell 3
    simp only [List.getElem?_toArray, List.getElem?_cons_succ, List.getElem?_cons_zero] at l3
    go_wp2_with fail
    clear l3
    refine (impl_PutVar (c.n0 : Int) (by omega) (by omega) _).mono ?_
    rintro e wp3 ⟨rfl, hbp⟩
    have HD3 := hide (HD3.out.trans (hbp.mono HD3.out.size))
    clear hbp
    go_wp2
    have HC9 := hide (HC3.out.trans (HD3.out.mono HC3.out.size))
    have k0 : wp3.cell? ⟨w.heap.size, 0, none⟩ = some (.slice a0 c.n0 p0) := (HK.out.next HC9.out).cell 0
    rw [rounds_succ]
    rw [← HH.out]
    go_wp2
    clear HX3 HD3 HC3 k0 d0 d1 d2 d3 m1 m2 m3 m4 s1 s2 s3 s4
    have HT0 : Hid (headT c = rowsT c.r0 (headT c) 0) := rfl
    generalize headT c = T at *
    go_loopw [3, 35] (fun s i wr => ∃ k : Nat, s = .string (rowsT c.r0 T k) ∧ i = .int .i64 k ∧ k ≤ c.n0 ∧ Hid (Below W1.heap.size W1 wr)) (fun _ i _ => c.n0 - (intOf i).toNat)
    case atStart => exact ⟨0, congrArg Value.string HT0.out, rfl, by omega, HC9⟩
    case round =>
      obtain ⟨k, rfl, rfl, hk, HC⟩ := hrel
      clear HC9 HT0
      have HW1 := hide (HBb.out.trans (HC.out.mono HBb.out.size))
      have hsz := rowsT_size (O := c.r0) (s := T) k fun i hi => HO.out i (by omega)
      by_cases hlt : k < c.n0
      · obtain ⟨b, off, rfl, hb, c0, c1, c2, c3, c4⟩ := (HS.out.below HW1.out).at hlt
        have hlti : (k : Int) < (c.n0 : Int) := by omega
        have hki : (k : Int) ≤ 30 := by omega
        obtain ⟨u1, u2, u3, u4, u5, u6, u7, u8⟩ := fileB_users (stepB_file (HO.out k hlt))
        have z1 := pv_size (c.r0.N k)
        have z2 := pv_size (c.r0.L k)
        have z3 := putTextV_size (c.r0.F k)
        have z4 := putTextV_size (c.r0.Z k)
        have z5 := pv_size (c.r0.C k)
        have n1 : IntKind.u64.wrap (c.r0.N k) = c.r0.N k := by rw [IntKind.wrap_u64]; omega
        have n2 : IntKind.u64.wrap (c.r0.L k) = c.r0.L k := by rw [IntKind.wrap_u64]; omega
        have n3 : IntKind.u64.wrap (c.r0.C k) = c.r0.C k := by rw [IntKind.wrap_u64]; omega
        have HT2 : Hid (rowsT c.r0 T (k + 1) = rowsT c.r0 T k ++ (pv (c.r0.N k) ++ pv (c.r0.L k) ++ putText (c.r0.F k) ++ putText (c.r0.Z k) ++ pv (c.r0.C k))) := rfl
        have hbb := below_one wr (.cells #[.int .i64 (c.r0.N k), .int .i64 (c.r0.L k), .string (c.r0.F k), .string (c.r0.Z k), .int .i64 (c.r0.C k)] 62)
        have HC2 := hide (HC.out.trans (hbb.mono HC.out.size))
        have HX2 := (BoxIs.new wr #[.int .i64 (c.r0.N k), .int .i64 (c.r0.L k), .string (c.r0.F k), .string (c.r0.Z k), .int .i64 (c.r0.C k)] 62 rfl).hid
        go_wp2_with fail
        generalize wr.alloc (.cells #[.int .i64 (c.r0.N k), .int .i64 (c.r0.L k), .string (c.r0.F k), .string (c.r0.Z k), .int .i64 (c.r0.C k)] 62) = W6 at hbb HC2 HX2 ⊢
        obtain ⟨FX, hFX⟩ : ∃ x, wr.heap.size = x := ⟨_, rfl⟩
        rw [hFX] at HX2 ⊢
        have x0 := HX2.out.cell 0
        have x1 := HX2.out.cell 1
        have x2 := HX2.out.cell 2
        have x3 := HX2.out.cell 3
        have x4 := HX2.out.cell 4
        simp only [List.getElem?_toArray, List.getElem?_cons_succ, List.getElem?_cons_zero] at x0 x1 x2 x3 x4
        clear hbb hFX c0 c1 c2 c3 c4 HC HX2
        generalize hR : rowsT c.r0 T k = R at *
        generalize hA1 : pv (c.r0.N k) = A1 at *
        generalize hA2 : pv (c.r0.L k) = A2 at *
        generalize hA3 : putText (c.r0.F k) = A3 at *
        generalize hA4 : putText (c.r0.Z k) = A4 at *
        generalize hA5 : pv (c.r0.C k) = A5 at *
        have ca1 := fun wx => hA1 ▸ impl_PutVar (c.r0.N k) (by omega) (by omega) wx
        have ca2 := fun wx => hA2 ▸ impl_PutVar (c.r0.L k) (by omega) (by omega) wx
        have ca3 := fun wx => hA3 ▸ impl_PutText (c.r0.F k) (by omega) wx
        have ca4 := fun wx => hA4 ▸ impl_PutText (c.r0.Z k) (by omega) wx
        have ca5 := fun wx => hA5 ▸ impl_PutVar (c.r0.C k) (by omega) (by omega) wx
        clear hA1 hA2 hA3 hA4 hA5 hR
        have e1 : ∀ wx : World, (Op.stringOp .add (A1) A2).run Try.prog wx = .ok (.string (A1 ++ A2)) wx := fun wx => run_string_add_sum wx _ _ (by first | omega | (simp only [ByteArray.size_append]; omega))
        have e2 : ∀ wx : World, (Op.stringOp .add (A1 ++ A2) A3).run Try.prog wx = .ok (.string (A1 ++ A2 ++ A3)) wx := fun wx => run_string_add_sum wx _ _ (by first | omega | (simp only [ByteArray.size_append]; omega))
        have e3 : ∀ wx : World, (Op.stringOp .add (A1 ++ A2 ++ A3) A4).run Try.prog wx = .ok (.string (A1 ++ A2 ++ A3 ++ A4)) wx := fun wx => run_string_add_sum wx _ _ (by first | omega | (simp only [ByteArray.size_append]; omega))
        have e4 : ∀ wx : World, (Op.stringOp .add (A1 ++ A2 ++ A3 ++ A4) A5).run Try.prog wx = .ok (.string (A1 ++ A2 ++ A3 ++ A4 ++ A5)) wx := fun wx => run_string_add_sum wx _ _ (by first | omega | (simp only [ByteArray.size_append]; omega))
        have e5 : ∀ wx : World, (Op.stringOp .add R (A1 ++ A2 ++ A3 ++ A4 ++ A5)).run Try.prog wx = .ok (.string (R ++ (A1 ++ A2 ++ A3 ++ A4 ++ A5))) wx := fun wx => run_string_add_sum wx _ _ (by first | omega | (simp only [ByteArray.size_append]; omega))
        refine wp_region_noPanic ?_
        refine wp_region_held_drew (S := fun x => Below W6.heap.size W6 x) (by kernel_rfl) (Below.refl _ _).drew (fun hH => ?_)
        have hb0 : Below W6.heap.size W6 W6.drew := hH
        clear hH
        have x0_0 := keepc hb0 x0
        have x1_0 := keepc hb0 x1
        have x2_0 := keepc hb0 x2
        have x3_0 := keepc hb0 x3
        have x4_0 := keepc hb0 x4
        generalize W6.drew = wq0 at hb0 x0_0 x1_0 x2_0 x3_0 x4_0 ⊢
        refine wpAnyH_restart hb0 ?_
        refine wpAnyH_take (i := 0) (v := .string R) nat0 (by kernel_rfl) (by kernel_rfl) (by kernel_rfl) (fun _ _ _ h => False.elim h) (Or.inl ⟨by rfl, ?_⟩) (Below.refl _ _) ?_
        · intro wx hSw
          go_simp
        simp only [Act.put, List.setIfInBounds_toArray, List.set_cons_zero, List.set_cons_succ]
        refine wpAnyH_take (i := 1) (v := .pointer (some ⟨FX, 0, none⟩)) nat1 (by kernel_rfl) (by kernel_rfl) (by kernel_rfl) (fun _ _ _ h => False.elim h) (Or.inl ⟨by rfl, ?_⟩) (Below.refl _ _) ?_
        · intro wx hSw
          go_simp
        simp only [Act.put, List.setIfInBounds_toArray, List.set_cons_zero, List.set_cons_succ]
        refine wpAnyH_take (i := 2) (v := .int .i64 (c.r0.N k)) nat2 (by kernel_rfl) (by kernel_rfl) (by kernel_rfl) (fun _ _ _ h => False.elim h) (Or.inl ⟨by rfl, ?_⟩) (Below.refl _ _) ?_
        · intro wx hSw
          have hx : Below wq0.heap.size wq0 wx := hSw
          have e0 := keepc hx x0_0
          go_simp
        simp only [Act.put, List.setIfInBounds_toArray, List.set_cons_zero, List.set_cons_succ]
        refine wpAnyH_take (i := 3) (v := .int .u64 (c.r0.N k)) nat3 (by kernel_rfl) (by kernel_rfl) (by kernel_rfl) (fun _ _ _ h => False.elim h) (Or.inl ⟨by rfl, ?_⟩) (Below.refl _ _) ?_
        · intro wx hSw
          go_simp
        simp only [Act.put, List.setIfInBounds_toArray, List.set_cons_zero, List.set_cons_succ]
        refine wpAnyH_take (i := 5) (v := .pointer (some ⟨FX, 1, none⟩)) nat5 (by kernel_rfl) (by kernel_rfl) (by kernel_rfl) (fun _ _ _ h => False.elim h) (Or.inl ⟨by rfl, ?_⟩) (Below.refl _ _) ?_
        · intro wx hSw
          go_simp
        simp only [Act.put, List.setIfInBounds_toArray, List.set_cons_zero, List.set_cons_succ]
        refine wpAnyH_take (i := 6) (v := .int .i64 (c.r0.L k)) nat6 (by kernel_rfl) (by kernel_rfl) (by kernel_rfl) (fun _ _ _ h => False.elim h) (Or.inl ⟨by rfl, ?_⟩) (Below.refl _ _) ?_
        · intro wx hSw
          have hx : Below wq0.heap.size wq0 wx := hSw
          have e0 := keepc hx x1_0
          go_simp
        simp only [Act.put, List.setIfInBounds_toArray, List.set_cons_zero, List.set_cons_succ]
        refine wpAnyH_take (i := 7) (v := .int .u64 (c.r0.L k)) nat7 (by kernel_rfl) (by kernel_rfl) (by kernel_rfl) (fun _ _ _ h => False.elim h) (Or.inl ⟨by rfl, ?_⟩) (Below.refl _ _) ?_
        · intro wx hSw
          go_simp
        simp only [Act.put, List.setIfInBounds_toArray, List.set_cons_zero, List.set_cons_succ]
        refine wpAnyH_take (i := 10) (v := .pointer (some ⟨FX, 2, none⟩)) nat10 (by kernel_rfl) (by kernel_rfl) (by kernel_rfl) (fun _ _ _ h => False.elim h) (Or.inl ⟨by rfl, ?_⟩) (Below.refl _ _) ?_
        · intro wx hSw
          go_simp
        simp only [Act.put, List.setIfInBounds_toArray, List.set_cons_zero, List.set_cons_succ]
        refine wpAnyH_take (i := 11) (v := .string (c.r0.F k)) nat11 (by kernel_rfl) (by kernel_rfl) (by kernel_rfl) (fun _ _ _ h => False.elim h) (Or.inl ⟨by rfl, ?_⟩) (Below.refl _ _) ?_
        · intro wx hSw
          have hx : Below wq0.heap.size wq0 wx := hSw
          have e0 := keepc hx x2_0
          go_simp
        simp only [Act.put, List.setIfInBounds_toArray, List.set_cons_zero, List.set_cons_succ]
        refine wpAnyH_take (i := 14) (v := .pointer (some ⟨FX, 3, none⟩)) nat14 (by kernel_rfl) (by kernel_rfl) (by kernel_rfl) (fun _ _ _ h => False.elim h) (Or.inl ⟨by rfl, ?_⟩) (Below.refl _ _) ?_
        · intro wx hSw
          go_simp
        simp only [Act.put, List.setIfInBounds_toArray, List.set_cons_zero, List.set_cons_succ]
        refine wpAnyH_take (i := 15) (v := .string (c.r0.Z k)) nat15 (by kernel_rfl) (by kernel_rfl) (by kernel_rfl) (fun _ _ _ h => False.elim h) (Or.inl ⟨by rfl, ?_⟩) (Below.refl _ _) ?_
        · intro wx hSw
          have hx : Below wq0.heap.size wq0 wx := hSw
          have e0 := keepc hx x3_0
          go_simp
        simp only [Act.put, List.setIfInBounds_toArray, List.set_cons_zero, List.set_cons_succ]
        refine wpAnyH_take (i := 18) (v := .pointer (some ⟨FX, 4, none⟩)) nat18 (by kernel_rfl) (by kernel_rfl) (by kernel_rfl) (fun _ _ _ h => False.elim h) (Or.inl ⟨by rfl, ?_⟩) (Below.refl _ _) ?_
        · intro wx hSw
          go_simp
        simp only [Act.put, List.setIfInBounds_toArray, List.set_cons_zero, List.set_cons_succ]
        refine wpAnyH_take (i := 19) (v := .int .i64 (c.r0.C k)) nat19 (by kernel_rfl) (by kernel_rfl) (by kernel_rfl) (fun _ _ _ h => False.elim h) (Or.inl ⟨by rfl, ?_⟩) (Below.refl _ _) ?_
        · intro wx hSw
          have hx : Below wq0.heap.size wq0 wx := hSw
          have e0 := keepc hx x4_0
          go_simp
        simp only [Act.put, List.setIfInBounds_toArray, List.set_cons_zero, List.set_cons_succ]
        refine wpAnyH_take (i := 20) (v := .int .u64 (c.r0.C k)) nat20 (by kernel_rfl) (by kernel_rfl) (by kernel_rfl) (fun _ _ _ h => False.elim h) (Or.inl ⟨by rfl, ?_⟩) (Below.refl _ _) ?_
        · intro wx hSw
          go_simp
        simp only [Act.put, List.setIfInBounds_toArray, List.set_cons_zero, List.set_cons_succ]
        refine wpAnyH_ready (rs := [4]) (by kernel_rfl) (by simp) ?_
        refine AllReadyH.cons nat4 (fun K hK => ?_) AllReadyH.nil
        go_simp
        go_at_call 50
        refine (ca1 _).mono ?_
        rintro e wq1 ⟨rfl, hb1⟩
        refine hK.out _ _ hb1 (fun _ => ?_)
        clear hK K
        have x0_0_1 := keepc hb1 x0_0
        have x1_0_1 := keepc hb1 x1_0
        have x2_0_1 := keepc hb1 x2_0
        have x3_0_1 := keepc hb1 x3_0
        have x4_0_1 := keepc hb1 x4_0
        refine wpAnyH_restart hb1 ?_
        refine wpAnyH_ready (rs := [8]) (by kernel_rfl) (by simp) ?_
        refine AllReadyH.cons nat8 (fun K hK => ?_) AllReadyH.nil
        go_simp
        go_at_call 50
        refine (ca2 _).mono ?_
        rintro e wq2 ⟨rfl, hb2⟩
        refine hK.out _ _ hb2 (fun _ => ?_)
        clear hK K
        have x0_0_1_2 := keepc hb2 x0_0_1
        have x1_0_1_2 := keepc hb2 x1_0_1
        have x2_0_1_2 := keepc hb2 x2_0_1
        have x3_0_1_2 := keepc hb2 x3_0_1
        have x4_0_1_2 := keepc hb2 x4_0_1
        refine wpAnyH_restart hb2 ?_
        refine wpAnyH_take (i := 9) (v := .string (A1 ++ A2)) nat9 (by kernel_rfl) (by kernel_rfl) (by kernel_rfl) (fun _ _ _ h => False.elim h) (Or.inl ⟨by rfl, ?_⟩) (Below.refl _ _) ?_
        · intro wx hSw
          go_simp
        simp only [Act.put, List.setIfInBounds_toArray, List.set_cons_zero, List.set_cons_succ]
        refine wpAnyH_ready (rs := [12]) (by kernel_rfl) (by simp) ?_
        refine AllReadyH.cons nat12 (fun K hK => ?_) AllReadyH.nil
        go_simp
        go_at_call 51
        refine (ca3 _).mono ?_
        rintro e wq3 ⟨rfl, hb3⟩
        refine hK.out _ _ hb3 (fun _ => ?_)
        clear hK K
        have x0_0_1_2_3 := keepc hb3 x0_0_1_2
        have x1_0_1_2_3 := keepc hb3 x1_0_1_2
        have x2_0_1_2_3 := keepc hb3 x2_0_1_2
        have x3_0_1_2_3 := keepc hb3 x3_0_1_2
        have x4_0_1_2_3 := keepc hb3 x4_0_1_2
        refine wpAnyH_restart hb3 ?_
        refine wpAnyH_take (i := 13) (v := .string (A1 ++ A2 ++ A3)) nat13 (by kernel_rfl) (by kernel_rfl) (by kernel_rfl) (fun _ _ _ h => False.elim h) (Or.inl ⟨by rfl, ?_⟩) (Below.refl _ _) ?_
        · intro wx hSw
          go_simp
        simp only [Act.put, List.setIfInBounds_toArray, List.set_cons_zero, List.set_cons_succ]
        refine wpAnyH_ready (rs := [16]) (by kernel_rfl) (by simp) ?_
        refine AllReadyH.cons nat16 (fun K hK => ?_) AllReadyH.nil
        go_simp
        go_at_call 51
        refine (ca4 _).mono ?_
        rintro e wq4 ⟨rfl, hb4⟩
        refine hK.out _ _ hb4 (fun _ => ?_)
        clear hK K
        have x0_0_1_2_3_4 := keepc hb4 x0_0_1_2_3
        have x1_0_1_2_3_4 := keepc hb4 x1_0_1_2_3
        have x2_0_1_2_3_4 := keepc hb4 x2_0_1_2_3
        have x3_0_1_2_3_4 := keepc hb4 x3_0_1_2_3
        have x4_0_1_2_3_4 := keepc hb4 x4_0_1_2_3
        refine wpAnyH_restart hb4 ?_
        refine wpAnyH_take (i := 17) (v := .string (A1 ++ A2 ++ A3 ++ A4)) nat17 (by kernel_rfl) (by kernel_rfl) (by kernel_rfl) (fun _ _ _ h => False.elim h) (Or.inl ⟨by rfl, ?_⟩) (Below.refl _ _) ?_
        · intro wx hSw
          go_simp
        simp only [Act.put, List.setIfInBounds_toArray, List.set_cons_zero, List.set_cons_succ]
        refine wpAnyH_ready (rs := [21]) (by kernel_rfl) (by simp) ?_
        refine AllReadyH.cons nat21 (fun K hK => ?_) AllReadyH.nil
        go_simp
        go_at_call 50
        refine (ca5 _).mono ?_
        rintro e wq5 ⟨rfl, hb5⟩
        refine hK.out _ _ hb5 (fun _ => ?_)
        clear hK K
        have x0_0_1_2_3_4_5 := keepc hb5 x0_0_1_2_3_4
        have x1_0_1_2_3_4_5 := keepc hb5 x1_0_1_2_3_4
        have x2_0_1_2_3_4_5 := keepc hb5 x2_0_1_2_3_4
        have x3_0_1_2_3_4_5 := keepc hb5 x3_0_1_2_3_4
        have x4_0_1_2_3_4_5 := keepc hb5 x4_0_1_2_3_4
        refine wpAnyH_restart hb5 ?_
        refine wpAnyH_take (i := 22) (v := .string (A1 ++ A2 ++ A3 ++ A4 ++ A5)) nat22 (by kernel_rfl) (by kernel_rfl) (by kernel_rfl) (fun _ _ _ h => False.elim h) (Or.inl ⟨by rfl, ?_⟩) (Below.refl _ _) ?_
        · intro wx hSw
          go_simp
        simp only [Act.put, List.setIfInBounds_toArray, List.set_cons_zero, List.set_cons_succ]
        refine wpAnyH_take (i := 23) (v := .string (R ++ (A1 ++ A2 ++ A3 ++ A4 ++ A5))) nat23 (by kernel_rfl) (by kernel_rfl) (by kernel_rfl) (fun _ _ _ h => False.elim h) (Or.inl ⟨by rfl, ?_⟩) (Below.refl _ _) ?_
        · intro wx hSw
          go_simp
        simp only [Act.put, List.setIfInBounds_toArray, List.set_cons_zero, List.set_cons_succ]
        refine wpAnyH_take (i := 24) (v := .string (R ++ (A1 ++ A2 ++ A3 ++ A4 ++ A5))) nat24 (by kernel_rfl) (by kernel_rfl) (by kernel_rfl) (fun _ _ _ h => False.elim h) (Or.inl ⟨by rfl, ?_⟩) (Below.refl _ _) ?_
        · intro wx hSw
          go_simp
        simp only [Act.put, List.setIfInBounds_toArray, List.set_cons_zero, List.set_cons_succ]
        refine wpAnyH_done (by kernel_rfl) ?_ _
        refine NoPanic.normal ?_
        have HBL : Below W6.heap.size W6 wq5 := (((((hb0).trans (hb1.mono (hb0).size)).trans (hb2.mono ((hb0).trans (hb1.mono (hb0).size)).size)).trans (hb3.mono (((hb0).trans (hb1.mono (hb0).size)).trans (hb2.mono ((hb0).trans (hb1.mono (hb0).size)).size)).size)).trans (hb4.mono ((((hb0).trans (hb1.mono (hb0).size)).trans (hb2.mono ((hb0).trans (hb1.mono (hb0).size)).size)).trans (hb3.mono (((hb0).trans (hb1.mono (hb0).size)).trans (hb2.mono ((hb0).trans (hb1.mono (hb0).size)).size)).size)).size)).trans (hb5.mono (((((hb0).trans (hb1.mono (hb0).size)).trans (hb2.mono ((hb0).trans (hb1.mono (hb0).size)).size)).trans (hb3.mono (((hb0).trans (hb1.mono (hb0).size)).trans (hb2.mono ((hb0).trans (hb1.mono (hb0).size)).size)).size)).trans (hb4.mono ((((hb0).trans (hb1.mono (hb0).size)).trans (hb2.mono ((hb0).trans (hb1.mono (hb0).size)).size)).trans (hb3.mono (((hb0).trans (hb1.mono (hb0).size)).trans (hb2.mono ((hb0).trans (hb1.mono (hb0).size)).size)).size)).size)).size)
        have HC7 := hide (HC2.out.trans (HBL.mono HC2.out.size))
        clear HBL
        clear x0_0_1_2_3_4_5 x1_0_1_2_3_4_5 x2_0_1_2_3_4_5 x3_0_1_2_3_4_5 x4_0_1_2_3_4_5
        have HT3 : Hid (R ++ (A1 ++ A2 ++ A3 ++ A4 ++ A5) = rowsT c.r0 T (k + 1)) := by unfold Hid; rw [HT2.out]
        go_wp2
        exact ⟨⟨k + 1, by rw [HT3.out], by go_num, by omega, HC7⟩, by simp [intOf]; omega⟩
      · obtain rfl : k = c.n0 := by omega
        have hnlt : ¬ ((c.n0 : Int) < (c.n0 : Int)) := by omega
        go_wp2_with fail
        refine (impl_section _ (by omega) _).mono ?_
        rintro e w9 ⟨rfl, hb9⟩
        have HW9 := hide (HW1.out.trans (hb9.mono HW1.out.size))
        clear hb9
        go_wp2
        go_ret
        exact ⟨ret_strV HL.out, HW9.out⟩

set_option linter.unusedVariables false in
set_option linter.unusedSimpArgs false in
set_option maxHeartbeats 4000000 in
theorem spec_VersionText (v : Value) (c : VersionC) (w : World) (hf : c.Fit) (hv : VersionIs w v c) :
    Calls Try.prog 24 #[v] w fun e w' => e = .returned (.string (versT c)) ∧ Below w.heap.size w w' := by
  have hvn := hv
  obtain ⟨a0, p0, rfl, hS⟩ := hv
  have hl : c.n0 ≤ 1048576 := hf
  have hb0 := below_one w (.cells #[.slice a0 c.n0 p0, .int .i64 c.x1, .int .i64 c.x2, .int .i64 c.x3] 46)
  have HBb := hide hb0
  have HK := (BoxIs.new w #[.slice a0 c.n0 p0, .int .i64 c.x1, .int .i64 c.x2, .int .i64 c.x3] 46 rfl).hid
  have HV0 := (hvn.next hb0).hid
  have HS := hS.hid
  have hgz : w.heap.size < (w.alloc (.cells #[.slice a0 c.n0 p0, .int .i64 c.x1, .int .i64 c.x2, .int .i64 c.x3] 46)).heap.size := HK.out.lt
  clear hS hvn hb0
  go_enter Try.func24, Try.ntmps24
  go_wp2_with fail
  generalize hW : (w.alloc (.cells #[.slice a0 c.n0 p0, .int .i64 c.x1, .int .i64 c.x2, .int .i64 c.x3] 46)) = W1 at HBb HK HV0 hgz ⊢
  clear hW
  have HC : Hid (Below W1.heap.size W1 W1) := Below.refl _ _
  refine (spec_VersionOk _ c W1 hf HV0.out).mono ?_
  rintro e w2 ⟨rfl, hb2⟩
  have HC := hide (HC.out.trans hb2)
  clear hb2
  cases hok : versB c with
  | false =>
    have HL : Hid (⟨#[]⟩ = versT c) := by unfold Hid versT; rw [hok]; rfl
    clear hok
    go_wp2
    go_ret
    exact ⟨ret_strV HL.out, HBb.out.trans (HC.out.mono HBb.out.size)⟩
  | true =>
    have HL : Hid (sect (rowsT c.r0 (headT c) c.n0) = versT c) := by unfold Hid versT; rw [hok]; rfl
    obtain ⟨⟨r1, r2, r3, r4, r5, r6, r7⟩, hst, _⟩ := versB_out hok
    have HO := hide hst
    clear hok hst
    have m1 : IntKind.u64.wrap c.x1 = c.x1 := by rw [IntKind.wrap_u64]; omega
    have m2 : IntKind.u64.wrap c.x2 = c.x2 := by rw [IntKind.wrap_u64]; omega
    have m3 : IntKind.u64.wrap c.x3 = c.x3 := by rw [IntKind.wrap_u64]; omega
    have m4 : IntKind.u64.wrap (c.n0 : Int) = (c.n0 : Int) := by rw [IntKind.wrap_u64]; omega
    have s1 := pv_size c.x1
    have s2 := pv_size c.x2
    have s3 := pv_size c.x3
    have s4 := pv_size (c.n0 : Int)
    have hH := headT_size c
    have HH : Hid (headT c = pv c.x1 ++ pv c.x2 ++ pv c.x3 ++ pv (c.n0 : Int)) := rfl
    have d1 : ∀ wx : World, (Op.stringOp .add (pv c.x1) (pv c.x2)).run Try.prog wx = .ok (.string (pv c.x1 ++ pv c.x2)) wx := fun wx => run_string_add_sum wx _ _ (by omega)
    have d2 : ∀ wx : World, (Op.stringOp .add (pv c.x1 ++ pv c.x2) (pv c.x3)).run Try.prog wx = .ok (.string (pv c.x1 ++ pv c.x2 ++ pv c.x3)) wx := fun wx => run_string_add_sum wx _ _ (by rw [ByteArray.size_append]; omega)
    have d3 : ∀ wx : World, (Op.stringOp .add (pv c.x1 ++ pv c.x2 ++ pv c.x3) (pv (c.n0 : Int))).run Try.prog wx = .ok (.string (pv c.x1 ++ pv c.x2 ++ pv c.x3 ++ pv (c.n0 : Int))) wx := fun wx => run_string_add_sum wx _ _ (by rw [ByteArray.size_append, ByteArray.size_append]; omega)
    have k0 : w2.cell? ⟨w.heap.size, 0, none⟩ = some (.slice a0 c.n0 p0) := (HK.out.next HC.out).cell 0
    have k1 : w2.cell? ⟨w.heap.size, 1, none⟩ = some (.int .i64 c.x1) := (HK.out.next HC.out).cell 1
    have k2 : w2.cell? ⟨w.heap.size, 2, none⟩ = some (.int .i64 c.x2) := (HK.out.next HC.out).cell 2
    have k3 : w2.cell? ⟨w.heap.size, 3, none⟩ = some (.int .i64 c.x3) := (HK.out.next HC.out).cell 3
    go_wp2_with fail
    refine wp_region_noPanic ?_
    refine wp_region_held_drew (S := fun x => Below w2.heap.size w2 x) (by kernel_rfl) (Below.refl _ _).drew (fun hH => ?_)
    have hb0 : Below w2.heap.size w2 w2.drew := hH
    clear hH
    have k0_0 := keepc hb0 k0
    have k1_0 := keepc hb0 k1
    have k2_0 := keepc hb0 k2
    have k3_0 := keepc hb0 k3
    generalize w2.drew = wq0 at hb0 k0_0 k1_0 k2_0 k3_0 ⊢
    refine wpAnyH_restart hb0 ?_
    refine wpAnyH_take (i := 0) (v := .pointer (some ⟨w.heap.size, 1, none⟩)) nat0 (by kernel_rfl) (by kernel_rfl) (by kernel_rfl) (fun _ _ _ h => False.elim h) (Or.inl ⟨by rfl, ?_⟩) (Below.refl _ _) ?_
    · intro wx hSw
      go_simp
    simp only [Act.put, List.setIfInBounds_toArray, List.set_cons_zero, List.set_cons_succ]
    refine wpAnyH_take (i := 1) (v := .int .i64 c.x1) nat1 (by kernel_rfl) (by kernel_rfl) (by kernel_rfl) (fun _ _ _ h => False.elim h) (Or.inl ⟨by rfl, ?_⟩) (Below.refl _ _) ?_
    · intro wx hSw
      have hx : Below wq0.heap.size wq0 wx := hSw
      have e0 := keepc hx k1_0
      go_simp
    simp only [Act.put, List.setIfInBounds_toArray, List.set_cons_zero, List.set_cons_succ]
    refine wpAnyH_take (i := 2) (v := .int .u64 c.x1) nat2 (by kernel_rfl) (by kernel_rfl) (by kernel_rfl) (fun _ _ _ h => False.elim h) (Or.inl ⟨by rfl, ?_⟩) (Below.refl _ _) ?_
    · intro wx hSw
      go_simp
    simp only [Act.put, List.setIfInBounds_toArray, List.set_cons_zero, List.set_cons_succ]
    refine wpAnyH_take (i := 4) (v := .pointer (some ⟨w.heap.size, 2, none⟩)) nat4 (by kernel_rfl) (by kernel_rfl) (by kernel_rfl) (fun _ _ _ h => False.elim h) (Or.inl ⟨by rfl, ?_⟩) (Below.refl _ _) ?_
    · intro wx hSw
      go_simp
    simp only [Act.put, List.setIfInBounds_toArray, List.set_cons_zero, List.set_cons_succ]
    refine wpAnyH_take (i := 5) (v := .int .i64 c.x2) nat5 (by kernel_rfl) (by kernel_rfl) (by kernel_rfl) (fun _ _ _ h => False.elim h) (Or.inl ⟨by rfl, ?_⟩) (Below.refl _ _) ?_
    · intro wx hSw
      have hx : Below wq0.heap.size wq0 wx := hSw
      have e0 := keepc hx k2_0
      go_simp
    simp only [Act.put, List.setIfInBounds_toArray, List.set_cons_zero, List.set_cons_succ]
    refine wpAnyH_take (i := 6) (v := .int .u64 c.x2) nat6 (by kernel_rfl) (by kernel_rfl) (by kernel_rfl) (fun _ _ _ h => False.elim h) (Or.inl ⟨by rfl, ?_⟩) (Below.refl _ _) ?_
    · intro wx hSw
      go_simp
    simp only [Act.put, List.setIfInBounds_toArray, List.set_cons_zero, List.set_cons_succ]
    refine wpAnyH_take (i := 9) (v := .pointer (some ⟨w.heap.size, 3, none⟩)) nat9 (by kernel_rfl) (by kernel_rfl) (by kernel_rfl) (fun _ _ _ h => False.elim h) (Or.inl ⟨by rfl, ?_⟩) (Below.refl _ _) ?_
    · intro wx hSw
      go_simp
    simp only [Act.put, List.setIfInBounds_toArray, List.set_cons_zero, List.set_cons_succ]
    refine wpAnyH_take (i := 10) (v := .int .i64 c.x3) nat10 (by kernel_rfl) (by kernel_rfl) (by kernel_rfl) (fun _ _ _ h => False.elim h) (Or.inl ⟨by rfl, ?_⟩) (Below.refl _ _) ?_
    · intro wx hSw
      have hx : Below wq0.heap.size wq0 wx := hSw
      have e0 := keepc hx k3_0
      go_simp
    simp only [Act.put, List.setIfInBounds_toArray, List.set_cons_zero, List.set_cons_succ]
    refine wpAnyH_take (i := 11) (v := .int .u64 c.x3) nat11 (by kernel_rfl) (by kernel_rfl) (by kernel_rfl) (fun _ _ _ h => False.elim h) (Or.inl ⟨by rfl, ?_⟩) (Below.refl _ _) ?_
    · intro wx hSw
      go_simp
    simp only [Act.put, List.setIfInBounds_toArray, List.set_cons_zero, List.set_cons_succ]
    refine wpAnyH_take (i := 14) (v := .pointer (some ⟨w.heap.size, 0, none⟩)) nat14 (by kernel_rfl) (by kernel_rfl) (by kernel_rfl) (fun _ _ _ h => False.elim h) (Or.inl ⟨by rfl, ?_⟩) (Below.refl _ _) ?_
    · intro wx hSw
      go_simp
    simp only [Act.put, List.setIfInBounds_toArray, List.set_cons_zero, List.set_cons_succ]
    refine wpAnyH_take (i := 15) (v := .slice a0 c.n0 p0) nat15 (by kernel_rfl) (by kernel_rfl) (by kernel_rfl) (fun _ _ _ h => False.elim h) (Or.inl ⟨by rfl, ?_⟩) (Below.refl _ _) ?_
    · intro wx hSw
      have hx : Below wq0.heap.size wq0 wx := hSw
      have e0 := keepc hx k0_0
      go_simp
    simp only [Act.put, List.setIfInBounds_toArray, List.set_cons_zero, List.set_cons_succ]
    refine wpAnyH_take (i := 16) (v := .int .i64 (c.n0 : Int)) nat16 (by kernel_rfl) (by kernel_rfl) (by kernel_rfl) (fun _ _ _ h => False.elim h) (Or.inl ⟨by rfl, ?_⟩) (Below.refl _ _) ?_
    · intro wx hSw
      go_simp
    simp only [Act.put, List.setIfInBounds_toArray, List.set_cons_zero, List.set_cons_succ]
    refine wpAnyH_take (i := 17) (v := .int .u64 (c.n0 : Int)) nat17 (by kernel_rfl) (by kernel_rfl) (by kernel_rfl) (fun _ _ _ h => False.elim h) (Or.inl ⟨by rfl, ?_⟩) (Below.refl _ _) ?_
    · intro wx hSw
      go_simp
    simp only [Act.put, List.setIfInBounds_toArray, List.set_cons_zero, List.set_cons_succ]
    refine wpAnyH_ready (rs := [3]) (by kernel_rfl) (by simp) ?_
    refine AllReadyH.cons nat3 (fun K hK => ?_) AllReadyH.nil
    go_simp
    go_at_call 56
    refine (spec_PutVar c.x1 (by omega) (by omega) _).mono ?_
    rintro e wq1 ⟨rfl, hb1⟩
    refine hK.out _ _ hb1 (fun _ => ?_)
    clear hK K
    have k0_0_1 := keepc hb1 k0_0
    have k1_0_1 := keepc hb1 k1_0
    have k2_0_1 := keepc hb1 k2_0
    have k3_0_1 := keepc hb1 k3_0
    refine wpAnyH_restart hb1 ?_
    refine wpAnyH_ready (rs := [7]) (by kernel_rfl) (by simp) ?_
    refine AllReadyH.cons nat7 (fun K hK => ?_) AllReadyH.nil
    go_simp
    go_at_call 56
    refine (spec_PutVar c.x2 (by omega) (by omega) _).mono ?_
    rintro e wq2 ⟨rfl, hb2⟩
    refine hK.out _ _ hb2 (fun _ => ?_)
    clear hK K
    have k0_0_1_2 := keepc hb2 k0_0_1
    have k1_0_1_2 := keepc hb2 k1_0_1
    have k2_0_1_2 := keepc hb2 k2_0_1
    have k3_0_1_2 := keepc hb2 k3_0_1
    refine wpAnyH_restart hb2 ?_
    refine wpAnyH_take (i := 8) (v := .string (pv c.x1 ++ pv c.x2)) nat8 (by kernel_rfl) (by kernel_rfl) (by kernel_rfl) (fun _ _ _ h => False.elim h) (Or.inl ⟨by rfl, ?_⟩) (Below.refl _ _) ?_
    · intro wx hSw
      go_simp
    simp only [Act.put, List.setIfInBounds_toArray, List.set_cons_zero, List.set_cons_succ]
    refine wpAnyH_ready (rs := [12]) (by kernel_rfl) (by simp) ?_
    refine AllReadyH.cons nat12 (fun K hK => ?_) AllReadyH.nil
    go_simp
    go_at_call 56
    refine (spec_PutVar c.x3 (by omega) (by omega) _).mono ?_
    rintro e wq3 ⟨rfl, hb3⟩
    refine hK.out _ _ hb3 (fun _ => ?_)
    clear hK K
    have k0_0_1_2_3 := keepc hb3 k0_0_1_2
    have k1_0_1_2_3 := keepc hb3 k1_0_1_2
    have k2_0_1_2_3 := keepc hb3 k2_0_1_2
    have k3_0_1_2_3 := keepc hb3 k3_0_1_2
    refine wpAnyH_restart hb3 ?_
    refine wpAnyH_take (i := 13) (v := .string (pv c.x1 ++ pv c.x2 ++ pv c.x3)) nat13 (by kernel_rfl) (by kernel_rfl) (by kernel_rfl) (fun _ _ _ h => False.elim h) (Or.inl ⟨by rfl, ?_⟩) (Below.refl _ _) ?_
    · intro wx hSw
      go_simp
    simp only [Act.put, List.setIfInBounds_toArray, List.set_cons_zero, List.set_cons_succ]
    refine wpAnyH_ready (rs := [18]) (by kernel_rfl) (by simp) ?_
    refine AllReadyH.cons nat18 (fun K hK => ?_) AllReadyH.nil
    go_simp
    go_at_call 56
    refine (spec_PutVar (c.n0 : Int) (by omega) (by omega) _).mono ?_
    rintro e wq4 ⟨rfl, hb4⟩
    refine hK.out _ _ hb4 (fun _ => ?_)
    clear hK K
    have k0_0_1_2_3_4 := keepc hb4 k0_0_1_2_3
    have k1_0_1_2_3_4 := keepc hb4 k1_0_1_2_3
    have k2_0_1_2_3_4 := keepc hb4 k2_0_1_2_3
    have k3_0_1_2_3_4 := keepc hb4 k3_0_1_2_3
    refine wpAnyH_restart hb4 ?_
    refine wpAnyH_take (i := 19) (v := .string (pv c.x1 ++ pv c.x2 ++ pv c.x3 ++ pv (c.n0 : Int))) nat19 (by kernel_rfl) (by kernel_rfl) (by kernel_rfl) (fun _ _ _ h => False.elim h) (Or.inl ⟨by rfl, ?_⟩) (Below.refl _ _) ?_
    · intro wx hSw
      go_simp
    simp only [Act.put, List.setIfInBounds_toArray, List.set_cons_zero, List.set_cons_succ]
    refine wpAnyH_take (i := 20) (v := .string (pv c.x1 ++ pv c.x2 ++ pv c.x3 ++ pv (c.n0 : Int))) nat20 (by kernel_rfl) (by kernel_rfl) (by kernel_rfl) (fun _ _ _ h => False.elim h) (Or.inl ⟨by rfl, ?_⟩) (Below.refl _ _) ?_
    · intro wx hSw
      go_simp
    simp only [Act.put, List.setIfInBounds_toArray, List.set_cons_zero, List.set_cons_succ]
    refine wpAnyH_done (by kernel_rfl) ?_ _
    refine NoPanic.normal ?_
    have HBL : Below w2.heap.size w2 wq4 := ((((hb0).trans (hb1.mono (hb0).size)).trans (hb2.mono ((hb0).trans (hb1.mono (hb0).size)).size)).trans (hb3.mono (((hb0).trans (hb1.mono (hb0).size)).trans (hb2.mono ((hb0).trans (hb1.mono (hb0).size)).size)).size)).trans (hb4.mono ((((hb0).trans (hb1.mono (hb0).size)).trans (hb2.mono ((hb0).trans (hb1.mono (hb0).size)).size)).trans (hb3.mono (((hb0).trans (hb1.mono (hb0).size)).trans (hb2.mono ((hb0).trans (hb1.mono (hb0).size)).size)).size)).size)
    have HC9 := hide (HC.out.trans (HBL.mono HC.out.size))
    clear HBL
    clear k0_0_1_2_3_4 k1_0_1_2_3_4 k2_0_1_2_3_4 k3_0_1_2_3_4
    rw [← HH.out]
    clear k0 k1 k2 k3 HC d1 d2 d3 m1 m2 m3 m4 s1 s2 s3 s4
    go_wp2
    have HT0 : Hid (headT c = rowsT c.r0 (headT c) 0) := rfl
    generalize headT c = T at *
    go_loopw [3, 4] (fun s i wr => ∃ k : Nat, s = .string (rowsT c.r0 T k) ∧ i = .int .i64 k ∧ k ≤ c.n0 ∧ Hid (Below W1.heap.size W1 wr)) (fun _ i _ => c.n0 - (intOf i).toNat)
    case atStart => exact ⟨0, congrArg Value.string HT0.out, rfl, by omega, HC9⟩
    case round =>
      obtain ⟨k, rfl, rfl, hk, HC⟩ := hrel
      clear HC9 HT0
      have HW1 := hide (HBb.out.trans (HC.out.mono HBb.out.size))
      have hsz := rowsT_size (O := c.r0) (s := T) k fun i hi => HO.out i (by omega)
      by_cases hlt : k < c.n0
      · obtain ⟨b, off, rfl, hb, c0, c1, c2, c3, c4⟩ := (HS.out.below HW1.out).at hlt
        have hlti : (k : Int) < (c.n0 : Int) := by omega
        have hki : (k : Int) ≤ 30 := by omega
        obtain ⟨u1, u2, u3, u4, u5, u6, u7, u8⟩ := fileB_users (stepB_file (HO.out k hlt))
        have z1 := pv_size (c.r0.N k)
        have z2 := pv_size (c.r0.L k)
        have z3 := putTextV_size (c.r0.F k)
        have z4 := putTextV_size (c.r0.Z k)
        have z5 := pv_size (c.r0.C k)
        have n1 : IntKind.u64.wrap (c.r0.N k) = c.r0.N k := by rw [IntKind.wrap_u64]; omega
        have n2 : IntKind.u64.wrap (c.r0.L k) = c.r0.L k := by rw [IntKind.wrap_u64]; omega
        have n3 : IntKind.u64.wrap (c.r0.C k) = c.r0.C k := by rw [IntKind.wrap_u64]; omega
        have HT2 : Hid (rowsT c.r0 T (k + 1) = rowsT c.r0 T k ++ (pv (c.r0.N k) ++ pv (c.r0.L k) ++ putText (c.r0.F k) ++ putText (c.r0.Z k) ++ pv (c.r0.C k))) := rfl
        have hbb := below_one wr (.cells #[.int .i64 (c.r0.N k), .int .i64 (c.r0.L k), .string (c.r0.F k), .string (c.r0.Z k), .int .i64 (c.r0.C k)] 62)
        have HC2 := hide (HC.out.trans (hbb.mono HC.out.size))
        have HX2 := (BoxIs.new wr #[.int .i64 (c.r0.N k), .int .i64 (c.r0.L k), .string (c.r0.F k), .string (c.r0.Z k), .int .i64 (c.r0.C k)] 62 rfl).hid
        have k0 : wr.cell? ⟨w.heap.size, 0, none⟩ = some (.slice (some ⟨b, off, none⟩) c.n0 p0) := (HK.out.next HC.out).cell 0
        go_wp2_with fail
        generalize wr.alloc (.cells #[.int .i64 (c.r0.N k), .int .i64 (c.r0.L k), .string (c.r0.F k), .string (c.r0.Z k), .int .i64 (c.r0.C k)] 62) = W6 at hbb HC2 HX2 ⊢
        obtain ⟨FX, hFX⟩ : ∃ x, wr.heap.size = x := ⟨_, rfl⟩
        rw [hFX] at HX2 ⊢
        have x0 := HX2.out.cell 0
        have x1 := HX2.out.cell 1
        have x2 := HX2.out.cell 2
        have x3 := HX2.out.cell 3
        have x4 := HX2.out.cell 4
        simp only [List.getElem?_toArray, List.getElem?_cons_succ, List.getElem?_cons_zero] at x0 x1 x2 x3 x4
        clear hbb hFX c0 c1 c2 c3 c4 HC HX2 k0
        generalize hR : rowsT c.r0 T k = R at *
        generalize hA1 : pv (c.r0.N k) = A1 at *
        generalize hA2 : pv (c.r0.L k) = A2 at *
        generalize hA3 : putText (c.r0.F k) = A3 at *
        generalize hA4 : putText (c.r0.Z k) = A4 at *
        generalize hA5 : pv (c.r0.C k) = A5 at *
        have ca1 := fun wx => hA1 ▸ spec_PutVar (c.r0.N k) (by omega) (by omega) wx
        have ca2 := fun wx => hA2 ▸ spec_PutVar (c.r0.L k) (by omega) (by omega) wx
        have ca3 := fun wx => hA3 ▸ spec_PutText (c.r0.F k) (by omega) wx
        have ca4 := fun wx => hA4 ▸ spec_PutText (c.r0.Z k) (by omega) wx
        have ca5 := fun wx => hA5 ▸ spec_PutVar (c.r0.C k) (by omega) (by omega) wx
        clear hA1 hA2 hA3 hA4 hA5 hR
        have e1 : ∀ wx : World, (Op.stringOp .add (R) A1).run Try.prog wx = .ok (.string (R ++ A1)) wx := fun wx => run_string_add_sum wx _ _ (by first | omega | (simp only [ByteArray.size_append]; omega))
        have e2 : ∀ wx : World, (Op.stringOp .add (R ++ A1) A2).run Try.prog wx = .ok (.string (R ++ A1 ++ A2)) wx := fun wx => run_string_add_sum wx _ _ (by first | omega | (simp only [ByteArray.size_append]; omega))
        have e3 : ∀ wx : World, (Op.stringOp .add (R ++ A1 ++ A2) A3).run Try.prog wx = .ok (.string (R ++ A1 ++ A2 ++ A3)) wx := fun wx => run_string_add_sum wx _ _ (by first | omega | (simp only [ByteArray.size_append]; omega))
        have e4 : ∀ wx : World, (Op.stringOp .add (R ++ A1 ++ A2 ++ A3) A4).run Try.prog wx = .ok (.string (R ++ A1 ++ A2 ++ A3 ++ A4)) wx := fun wx => run_string_add_sum wx _ _ (by first | omega | (simp only [ByteArray.size_append]; omega))
        have e5 : ∀ wx : World, (Op.stringOp .add (R ++ A1 ++ A2 ++ A3 ++ A4) A5).run Try.prog wx = .ok (.string (R ++ A1 ++ A2 ++ A3 ++ A4 ++ A5)) wx := fun wx => run_string_add_sum wx _ _ (by first | omega | (simp only [ByteArray.size_append]; omega))
        refine wp_region_noPanic ?_
        refine wp_region_held_drew (S := fun x => Below W6.heap.size W6 x) (by kernel_rfl) (Below.refl _ _).drew (fun hH => ?_)
        have hb0 : Below W6.heap.size W6 W6.drew := hH
        clear hH
        have x0_0 := keepc hb0 x0
        have x1_0 := keepc hb0 x1
        have x2_0 := keepc hb0 x2
        have x3_0 := keepc hb0 x3
        have x4_0 := keepc hb0 x4
        generalize W6.drew = wq0 at hb0 x0_0 x1_0 x2_0 x3_0 x4_0 ⊢
        refine wpAnyH_restart hb0 ?_
        refine wpAnyH_take (i := 0) (v := .string R) nat0 (by kernel_rfl) (by kernel_rfl) (by kernel_rfl) (fun _ _ _ h => False.elim h) (Or.inl ⟨by rfl, ?_⟩) (Below.refl _ _) ?_
        · intro wx hSw
          go_simp
        simp only [Act.put, List.setIfInBounds_toArray, List.set_cons_zero, List.set_cons_succ]
        refine wpAnyH_take (i := 1) (v := .pointer (some ⟨FX, 0, none⟩)) nat1 (by kernel_rfl) (by kernel_rfl) (by kernel_rfl) (fun _ _ _ h => False.elim h) (Or.inl ⟨by rfl, ?_⟩) (Below.refl _ _) ?_
        · intro wx hSw
          go_simp
        simp only [Act.put, List.setIfInBounds_toArray, List.set_cons_zero, List.set_cons_succ]
        refine wpAnyH_take (i := 2) (v := .int .i64 (c.r0.N k)) nat2 (by kernel_rfl) (by kernel_rfl) (by kernel_rfl) (fun _ _ _ h => False.elim h) (Or.inl ⟨by rfl, ?_⟩) (Below.refl _ _) ?_
        · intro wx hSw
          have hx : Below wq0.heap.size wq0 wx := hSw
          have e0 := keepc hx x0_0
          go_simp
        simp only [Act.put, List.setIfInBounds_toArray, List.set_cons_zero, List.set_cons_succ]
        refine wpAnyH_take (i := 3) (v := .int .u64 (c.r0.N k)) nat3 (by kernel_rfl) (by kernel_rfl) (by kernel_rfl) (fun _ _ _ h => False.elim h) (Or.inl ⟨by rfl, ?_⟩) (Below.refl _ _) ?_
        · intro wx hSw
          go_simp
        simp only [Act.put, List.setIfInBounds_toArray, List.set_cons_zero, List.set_cons_succ]
        refine wpAnyH_take (i := 6) (v := .pointer (some ⟨FX, 1, none⟩)) nat6 (by kernel_rfl) (by kernel_rfl) (by kernel_rfl) (fun _ _ _ h => False.elim h) (Or.inl ⟨by rfl, ?_⟩) (Below.refl _ _) ?_
        · intro wx hSw
          go_simp
        simp only [Act.put, List.setIfInBounds_toArray, List.set_cons_zero, List.set_cons_succ]
        refine wpAnyH_take (i := 7) (v := .int .i64 (c.r0.L k)) nat7 (by kernel_rfl) (by kernel_rfl) (by kernel_rfl) (fun _ _ _ h => False.elim h) (Or.inl ⟨by rfl, ?_⟩) (Below.refl _ _) ?_
        · intro wx hSw
          have hx : Below wq0.heap.size wq0 wx := hSw
          have e0 := keepc hx x1_0
          go_simp
        simp only [Act.put, List.setIfInBounds_toArray, List.set_cons_zero, List.set_cons_succ]
        refine wpAnyH_take (i := 8) (v := .int .u64 (c.r0.L k)) nat8 (by kernel_rfl) (by kernel_rfl) (by kernel_rfl) (fun _ _ _ h => False.elim h) (Or.inl ⟨by rfl, ?_⟩) (Below.refl _ _) ?_
        · intro wx hSw
          go_simp
        simp only [Act.put, List.setIfInBounds_toArray, List.set_cons_zero, List.set_cons_succ]
        refine wpAnyH_take (i := 11) (v := .pointer (some ⟨FX, 2, none⟩)) nat11 (by kernel_rfl) (by kernel_rfl) (by kernel_rfl) (fun _ _ _ h => False.elim h) (Or.inl ⟨by rfl, ?_⟩) (Below.refl _ _) ?_
        · intro wx hSw
          go_simp
        simp only [Act.put, List.setIfInBounds_toArray, List.set_cons_zero, List.set_cons_succ]
        refine wpAnyH_take (i := 12) (v := .string (c.r0.F k)) nat12 (by kernel_rfl) (by kernel_rfl) (by kernel_rfl) (fun _ _ _ h => False.elim h) (Or.inl ⟨by rfl, ?_⟩) (Below.refl _ _) ?_
        · intro wx hSw
          have hx : Below wq0.heap.size wq0 wx := hSw
          have e0 := keepc hx x2_0
          go_simp
        simp only [Act.put, List.setIfInBounds_toArray, List.set_cons_zero, List.set_cons_succ]
        refine wpAnyH_take (i := 15) (v := .pointer (some ⟨FX, 3, none⟩)) nat15 (by kernel_rfl) (by kernel_rfl) (by kernel_rfl) (fun _ _ _ h => False.elim h) (Or.inl ⟨by rfl, ?_⟩) (Below.refl _ _) ?_
        · intro wx hSw
          go_simp
        simp only [Act.put, List.setIfInBounds_toArray, List.set_cons_zero, List.set_cons_succ]
        refine wpAnyH_take (i := 16) (v := .string (c.r0.Z k)) nat16 (by kernel_rfl) (by kernel_rfl) (by kernel_rfl) (fun _ _ _ h => False.elim h) (Or.inl ⟨by rfl, ?_⟩) (Below.refl _ _) ?_
        · intro wx hSw
          have hx : Below wq0.heap.size wq0 wx := hSw
          have e0 := keepc hx x3_0
          go_simp
        simp only [Act.put, List.setIfInBounds_toArray, List.set_cons_zero, List.set_cons_succ]
        refine wpAnyH_take (i := 19) (v := .pointer (some ⟨FX, 4, none⟩)) nat19 (by kernel_rfl) (by kernel_rfl) (by kernel_rfl) (fun _ _ _ h => False.elim h) (Or.inl ⟨by rfl, ?_⟩) (Below.refl _ _) ?_
        · intro wx hSw
          go_simp
        simp only [Act.put, List.setIfInBounds_toArray, List.set_cons_zero, List.set_cons_succ]
        refine wpAnyH_take (i := 20) (v := .int .i64 (c.r0.C k)) nat20 (by kernel_rfl) (by kernel_rfl) (by kernel_rfl) (fun _ _ _ h => False.elim h) (Or.inl ⟨by rfl, ?_⟩) (Below.refl _ _) ?_
        · intro wx hSw
          have hx : Below wq0.heap.size wq0 wx := hSw
          have e0 := keepc hx x4_0
          go_simp
        simp only [Act.put, List.setIfInBounds_toArray, List.set_cons_zero, List.set_cons_succ]
        refine wpAnyH_take (i := 21) (v := .int .u64 (c.r0.C k)) nat21 (by kernel_rfl) (by kernel_rfl) (by kernel_rfl) (fun _ _ _ h => False.elim h) (Or.inl ⟨by rfl, ?_⟩) (Below.refl _ _) ?_
        · intro wx hSw
          go_simp
        simp only [Act.put, List.setIfInBounds_toArray, List.set_cons_zero, List.set_cons_succ]
        refine wpAnyH_ready (rs := [4]) (by kernel_rfl) (by simp) ?_
        refine AllReadyH.cons nat4 (fun K hK => ?_) AllReadyH.nil
        go_simp
        go_at_call 56
        refine (ca1 _).mono ?_
        rintro e wq1 ⟨rfl, hb1⟩
        refine hK.out _ _ hb1 (fun _ => ?_)
        clear hK K
        have x0_0_1 := keepc hb1 x0_0
        have x1_0_1 := keepc hb1 x1_0
        have x2_0_1 := keepc hb1 x2_0
        have x3_0_1 := keepc hb1 x3_0
        have x4_0_1 := keepc hb1 x4_0
        refine wpAnyH_restart hb1 ?_
        refine wpAnyH_take (i := 5) (v := .string (R ++ A1)) nat5 (by kernel_rfl) (by kernel_rfl) (by kernel_rfl) (fun _ _ _ h => False.elim h) (Or.inl ⟨by rfl, ?_⟩) (Below.refl _ _) ?_
        · intro wx hSw
          go_simp
        simp only [Act.put, List.setIfInBounds_toArray, List.set_cons_zero, List.set_cons_succ]
        refine wpAnyH_ready (rs := [9]) (by kernel_rfl) (by simp) ?_
        refine AllReadyH.cons nat9 (fun K hK => ?_) AllReadyH.nil
        go_simp
        go_at_call 56
        refine (ca2 _).mono ?_
        rintro e wq2 ⟨rfl, hb2⟩
        refine hK.out _ _ hb2 (fun _ => ?_)
        clear hK K
        have x0_0_1_2 := keepc hb2 x0_0_1
        have x1_0_1_2 := keepc hb2 x1_0_1
        have x2_0_1_2 := keepc hb2 x2_0_1
        have x3_0_1_2 := keepc hb2 x3_0_1
        have x4_0_1_2 := keepc hb2 x4_0_1
        refine wpAnyH_restart hb2 ?_
        refine wpAnyH_take (i := 10) (v := .string (R ++ A1 ++ A2)) nat10 (by kernel_rfl) (by kernel_rfl) (by kernel_rfl) (fun _ _ _ h => False.elim h) (Or.inl ⟨by rfl, ?_⟩) (Below.refl _ _) ?_
        · intro wx hSw
          go_simp
        simp only [Act.put, List.setIfInBounds_toArray, List.set_cons_zero, List.set_cons_succ]
        refine wpAnyH_ready (rs := [13]) (by kernel_rfl) (by simp) ?_
        refine AllReadyH.cons nat13 (fun K hK => ?_) AllReadyH.nil
        go_simp
        go_at_call 57
        refine (ca3 _).mono ?_
        rintro e wq3 ⟨rfl, hb3⟩
        refine hK.out _ _ hb3 (fun _ => ?_)
        clear hK K
        have x0_0_1_2_3 := keepc hb3 x0_0_1_2
        have x1_0_1_2_3 := keepc hb3 x1_0_1_2
        have x2_0_1_2_3 := keepc hb3 x2_0_1_2
        have x3_0_1_2_3 := keepc hb3 x3_0_1_2
        have x4_0_1_2_3 := keepc hb3 x4_0_1_2
        refine wpAnyH_restart hb3 ?_
        refine wpAnyH_take (i := 14) (v := .string (R ++ A1 ++ A2 ++ A3)) nat14 (by kernel_rfl) (by kernel_rfl) (by kernel_rfl) (fun _ _ _ h => False.elim h) (Or.inl ⟨by rfl, ?_⟩) (Below.refl _ _) ?_
        · intro wx hSw
          go_simp
        simp only [Act.put, List.setIfInBounds_toArray, List.set_cons_zero, List.set_cons_succ]
        refine wpAnyH_ready (rs := [17]) (by kernel_rfl) (by simp) ?_
        refine AllReadyH.cons nat17 (fun K hK => ?_) AllReadyH.nil
        go_simp
        go_at_call 57
        refine (ca4 _).mono ?_
        rintro e wq4 ⟨rfl, hb4⟩
        refine hK.out _ _ hb4 (fun _ => ?_)
        clear hK K
        have x0_0_1_2_3_4 := keepc hb4 x0_0_1_2_3
        have x1_0_1_2_3_4 := keepc hb4 x1_0_1_2_3
        have x2_0_1_2_3_4 := keepc hb4 x2_0_1_2_3
        have x3_0_1_2_3_4 := keepc hb4 x3_0_1_2_3
        have x4_0_1_2_3_4 := keepc hb4 x4_0_1_2_3
        refine wpAnyH_restart hb4 ?_
        refine wpAnyH_take (i := 18) (v := .string (R ++ A1 ++ A2 ++ A3 ++ A4)) nat18 (by kernel_rfl) (by kernel_rfl) (by kernel_rfl) (fun _ _ _ h => False.elim h) (Or.inl ⟨by rfl, ?_⟩) (Below.refl _ _) ?_
        · intro wx hSw
          go_simp
        simp only [Act.put, List.setIfInBounds_toArray, List.set_cons_zero, List.set_cons_succ]
        refine wpAnyH_ready (rs := [22]) (by kernel_rfl) (by simp) ?_
        refine AllReadyH.cons nat22 (fun K hK => ?_) AllReadyH.nil
        go_simp
        go_at_call 56
        refine (ca5 _).mono ?_
        rintro e wq5 ⟨rfl, hb5⟩
        refine hK.out _ _ hb5 (fun _ => ?_)
        clear hK K
        have x0_0_1_2_3_4_5 := keepc hb5 x0_0_1_2_3_4
        have x1_0_1_2_3_4_5 := keepc hb5 x1_0_1_2_3_4
        have x2_0_1_2_3_4_5 := keepc hb5 x2_0_1_2_3_4
        have x3_0_1_2_3_4_5 := keepc hb5 x3_0_1_2_3_4
        have x4_0_1_2_3_4_5 := keepc hb5 x4_0_1_2_3_4
        refine wpAnyH_restart hb5 ?_
        refine wpAnyH_take (i := 23) (v := .string (R ++ A1 ++ A2 ++ A3 ++ A4 ++ A5)) nat23 (by kernel_rfl) (by kernel_rfl) (by kernel_rfl) (fun _ _ _ h => False.elim h) (Or.inl ⟨by rfl, ?_⟩) (Below.refl _ _) ?_
        · intro wx hSw
          go_simp
        simp only [Act.put, List.setIfInBounds_toArray, List.set_cons_zero, List.set_cons_succ]
        refine wpAnyH_take (i := 24) (v := .string (R ++ A1 ++ A2 ++ A3 ++ A4 ++ A5)) nat24 (by kernel_rfl) (by kernel_rfl) (by kernel_rfl) (fun _ _ _ h => False.elim h) (Or.inl ⟨by rfl, ?_⟩) (Below.refl _ _) ?_
        · intro wx hSw
          go_simp
        simp only [Act.put, List.setIfInBounds_toArray, List.set_cons_zero, List.set_cons_succ]
        refine wpAnyH_done (by kernel_rfl) ?_ _
        refine NoPanic.normal ?_
        have HBL : Below W6.heap.size W6 wq5 := (((((hb0).trans (hb1.mono (hb0).size)).trans (hb2.mono ((hb0).trans (hb1.mono (hb0).size)).size)).trans (hb3.mono (((hb0).trans (hb1.mono (hb0).size)).trans (hb2.mono ((hb0).trans (hb1.mono (hb0).size)).size)).size)).trans (hb4.mono ((((hb0).trans (hb1.mono (hb0).size)).trans (hb2.mono ((hb0).trans (hb1.mono (hb0).size)).size)).trans (hb3.mono (((hb0).trans (hb1.mono (hb0).size)).trans (hb2.mono ((hb0).trans (hb1.mono (hb0).size)).size)).size)).size)).trans (hb5.mono (((((hb0).trans (hb1.mono (hb0).size)).trans (hb2.mono ((hb0).trans (hb1.mono (hb0).size)).size)).trans (hb3.mono (((hb0).trans (hb1.mono (hb0).size)).trans (hb2.mono ((hb0).trans (hb1.mono (hb0).size)).size)).size)).trans (hb4.mono ((((hb0).trans (hb1.mono (hb0).size)).trans (hb2.mono ((hb0).trans (hb1.mono (hb0).size)).size)).trans (hb3.mono (((hb0).trans (hb1.mono (hb0).size)).trans (hb2.mono ((hb0).trans (hb1.mono (hb0).size)).size)).size)).size)).size)
        have HC7 := hide (HC2.out.trans (HBL.mono HC2.out.size))
        clear HBL
        clear x0_0_1_2_3_4_5 x1_0_1_2_3_4_5 x2_0_1_2_3_4_5 x3_0_1_2_3_4_5 x4_0_1_2_3_4_5
        have HT3 : Hid (R ++ A1 ++ A2 ++ A3 ++ A4 ++ A5 = rowsT c.r0 T (k + 1)) := by unfold Hid; rw [HT2.out]; simp only [ByteArray.append_assoc]
        go_wp2
        exact ⟨⟨k + 1, by rw [HT3.out], by go_num, by omega, HC7⟩, by simp [intOf]; omega⟩
      · obtain rfl : k = c.n0 := by omega
        have hnlt : ¬ ((c.n0 : Int) < (c.n0 : Int)) := by omega
        have k0 : wr.cell? ⟨w.heap.size, 0, none⟩ = some (.slice a0 c.n0 p0) := (HK.out.next HC.out).cell 0
        go_wp2_with fail
        refine (spec_section _ (by omega) _).mono ?_
        rintro e w9 ⟨rfl, hb9⟩
        have HW9 := hide (HW1.out.trans (hb9.mono HW1.out.size))
        clear hb9
        go_wp2
        go_ret
        exact ⟨ret_strV HL.out, HW9.out⟩

end Go.Proofs.Ytplemoedpdammaa
