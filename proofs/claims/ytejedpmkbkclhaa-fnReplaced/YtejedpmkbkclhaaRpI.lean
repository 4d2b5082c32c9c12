/- Replace of the program. (By gen_rpi.py.) -/
import Derived.Test.YtejedpmkbkclhaaInsD
import Derived.Test.YtejedpmkbkclhaaMgSyODoORpPRpQDskRow
import Derived.Test.YtejedpmkbkclhaaDskF
namespace Go.Proofs.Ytejedpmkbkclhaa
set_option maxRecDepth 100000
open Go.RowKit Go.Deep Go.Maps

set_option linter.unusedVariables false in
set_option linter.unusedSimpArgs false in
set_option maxHeartbeats 8000000 in
theorem impl_Replace (v : Value) (c : DiskC) (m d : ByteArray) (w : World) (hf : c.Fit) (hm : m.size ≤ 1048576) (hd : d.size ≤ 1048576) (hv : DiskIs w v c) :
    Calls Try.prog 33 #[v, .string m, .string d] w fun e w' => (∃ u, e = .returned (.tuple #[u, .int .i64 (rpK c m d)]) ∧ DiskOwn w' w.heap.size u (rpC c m d)) ∧ Below w.heap.size w w' := by
  obtain ⟨a0, p0, a1, p1, a2, p2, rfl, hS0, hS1, hS2⟩ := hv
  have hB : Below w.heap.size w ((w.alloc (.cells #[.slice a0 c.n0 p0, .slice a1 c.n1 p1, .slice a2 c.n2 p2] 31)).alloc (.cells #[.slice none 0 0, .slice none 0 0, .slice none 0 0] 31)) := ((Below.refl _ _).alloc (Nat.le_refl _) _).alloc (by simp) _
  have hP := (BoxIs.new w #[.slice a0 c.n0 p0, .slice a1 c.n1 p1, .slice a2 c.n2 p2] 31 rfl).next (below_one _ (.cells #[.slice none 0 0, .slice none 0 0, .slice none 0 0] 31))
  have hR := BoxIs.new (w.alloc (.cells #[.slice a0 c.n0 p0, .slice a1 c.n1 p1, .slice a2 c.n2 p2] 31)) #[.slice none 0 0, .slice none 0 0, .slice none 0 0] 31 (g := w.heap.size + 1) (by simp)
  have hD : DiskIs ((w.alloc (.cells #[.slice a0 c.n0 p0, .slice a1 c.n1 p1, .slice a2 c.n2 p2] 31)).alloc (.cells #[.slice none 0 0, .slice none 0 0, .slice none 0 0] 31)) (.agg #[.slice a0 c.n0 p0, .slice a1 c.n1 p1, .slice a2 c.n2 p2]) c := DiskIs.at_old ⟨a0, p0, a1, p1, a2, p2, rfl, hS0, hS1, hS2⟩ hB
  have g0 := hP.cell 0
  have g1 := hP.cell 1
  have g2 := hP.cell 2
  simp only [List.getElem?_toArray, List.getElem?_cons_succ, List.getElem?_cons_zero] at g0 g1 g2
  have HB := hide hB
  have HP := hP.hid
  have HR := hR.hid
  have HD := hD.hid
  obtain ⟨⟨hn0, hn1, hn2⟩, hz0, hz1, hz2⟩ := id hf
  have HZ0 := hide hz0
  have HZ1 := hide hz1
  have HZ2 := hide hz2
  have HFT := hide hf
  have HOF := hide (ops_fit c hm hd)
  clear hS0 hS1 hS2 hB hP hR hD hz0 hz1 hz2 hf
  go_enter Try.func33, Try.ntmps33
  go_wp2_with fail
  clear g0 g1 g2
  generalize (w.alloc (.cells #[.slice a0 c.n0 p0, .slice a1 c.n1 p1, .slice a2 c.n2 p2] 31)).alloc (.cells #[.slice none 0 0, .slice none 0 0, .slice none 0 0] 31) = W at HB HP HR HD ⊢
  have hFW := HR.out.lt
  refine (impl_seenOn _ c W HFT.out HD.out).mono ?_
  rintro e w1 ⟨⟨p, rfl, hp⟩, hb1⟩
  have HB1 := hide (HB.out.trans (hb1.mono HB.out.size))
  have HP1 := (HP.out.next hb1).hid
  have HR1 := (HR.out.next hb1).hid
  have HD1 := (HD.out.next hb1).hid
  have hW1 := hb1.size
  clear hb1 HB HP HR HD
  cases hd0 : dB c with
  | false =>
    obtain ⟨q1, q2⟩ := rp_no hd0 m d
    have HQ1 := hide q1
    have HQ2 := hide q2
    have HL := hide (below_put3 (F := w.heap.size + 1) HB1.out (by omega) (.slice none 0 0) (.slice none 0 0) (.slice none 0 0))
    have r0 := HR1.out.cell 0
    have r1 := HR1.out.cell 1
    have r2 := HR1.out.cell 2
    have rf := HR1.out.free
    simp only [List.getElem?_toArray, List.getElem?_cons_succ, List.getElem?_cons_zero] at r0 r1 r2
    clear hd0 hp q1 q2 HB1 HR1 HP1 HD1
    go_wp2
    refine bodyPost_ret (v := .tuple #[.agg #[.slice none 0 0, .slice none 0 0, .slice none 0 0], .int .i64 1]) (by simp [results, Try.results33, go_sem, r0, r1, r2]) rfl ⟨⟨_, ret_tupI rfl HQ1.out.symm, own_eq (made_nil _ _).own HQ2.out⟩, HL.out⟩
  | true =>
    have HDD := hide hd0
    obtain ⟨hl0, hl1, h200⟩ := dB_parts hd0
    have h60 := (filesB_ris hl0).2.2.1
    have h61 := (filesB_ris hl1).2.2.1
    clear hl0 hl1
    obtain ⟨f, b, V, rfl, hF, hRo, _, _⟩ := hp hd0
    obtain ⟨F, hFn⟩ : ∃ F, m ++ (⟨#[46, 110, 101, 119]⟩ : ByteArray) = F := ⟨_, rfl⟩
    have hFs : F.size ≤ 1048580 := by rw [← hFn, ByteArray.size_append]; have : (⟨#[46, 110, 101, 119]⟩ : ByteArray).size = 4 := rfl; omega
    have hnm : F.size ≤ maxLen := by unfold maxLen; omega
    have hbA := below_one w1 (.cells #[.int .i64 1, .string F, .string ⟨#[]⟩, .string d, .int .i64 2, .string F, .string m, .string ⟨#[]⟩] 40)
    have hF1 := hF.next hbA
    obtain ⟨va, vc, hva⟩ := hF.valShape F
    have hlk := look2_own hF1.mp hnm
    rw [hva] at hlk
    have c0 := hF1.bx.cell 0
    simp only [List.getElem?_toArray, List.getElem?_cons_succ, List.getElem?_cons_zero] at c0
    have HOP : Hid (opsRp c m d = (if (lkF (filesL c.r0 c.n0) F).isSome then [⟨3, F, ⟨#[]⟩, ⟨#[]⟩⟩] else []) ++ [⟨1, F, ⟨#[]⟩, d⟩, ⟨2, F, m, ⟨#[]⟩⟩]) := by show _ = _; unfold opsRp newB; rw [hFn]
    generalize hold : (lkF (filesL c.r0 c.n0) F).getD ⟨#[]⟩ = old at hva hlk
    generalize hsm : (lkF (filesL c.r0 c.n0) F).isSome = sm at hlk HOP
    have hx1 := BoxIs.new w1 #[.int .i64 1, .string F, .string ⟨#[]⟩, .string d, .int .i64 2, .string F, .string m, .string ⟨#[]⟩] 40 rfl
    have hbB := hbA.trans ((below_one (w1.alloc (.cells #[.int .i64 1, .string F, .string ⟨#[]⟩, .string d, .int .i64 2, .string F, .string m, .string ⟨#[]⟩] 40)) (.cells #[.slice va old.size vc] 98)).mono hbA.size)
    have HX := (hx1.next (below_one _ (.cells #[.slice va old.size vc] 98))).hid
    have HB2 := hide (HB1.out.trans (hbB.mono HB1.out.size))
    have HP2 := (HP1.out.next hbB).hid
    have HR2 := (HR1.out.next hbB).hid
    have HD2 := (HD1.out.next hbB).hid
    clear hp hd0 hold hRo hF hF1 hnm hbA hbB hx1 HB1 HP1 HR1 HD1 hva
    cases sm with
    | false =>
      have hO : OwnDOp ((w1.alloc (.cells #[.int .i64 1, .string F, .string ⟨#[]⟩, .string d, .int .i64 2, .string F, .string m, .string ⟨#[]⟩] 40)).alloc (.cells #[.slice va old.size vc] 98)) w1.heap.size (.slice (some ⟨w1.heap.size, 0, none⟩) 2 2) [⟨1, F, ⟨#[]⟩, d⟩, ⟨2, F, m, ⟨#[]⟩⟩] := ⟨rfl, .inr ⟨w1.heap.size, 2, #[.int .i64 1, .string F, .string ⟨#[]⟩, .string d, .int .i64 2, .string F, .string m, .string ⟨#[]⟩], rfl, Nat.le_refl _, HX.out, Nat.le_refl _, by decide, rfl, rfl⟩⟩
      obtain ⟨os, hos⟩ : ∃ os : List DOp1, os = [⟨1, F, ⟨#[]⟩, d⟩, ⟨2, F, m, ⟨#[]⟩⟩] := ⟨_, rfl⟩
      rw [← hos] at hO
      have HLEN : Hid (os.length = 2) := by rw [hos]; rfl
      have HOP2 : Hid (os = opsRp c m d) := by show _ = _; rw [HOP.out, hos]; rfl
      obtain ⟨a, pp, hv2, hAt⟩ := hO.arg
      rw [HLEN.out] at hAt hv2
      obtain ⟨rfl, hpp⟩ : a = some ⟨w1.heap.size, 0, none⟩ ∧ True := by injection hv2 with h1 h2 h3; exact ⟨h1.symm, trivial⟩

      have hbN := below_one ((w1.alloc (.cells #[.int .i64 1, .string F, .string ⟨#[]⟩, .string d, .int .i64 2, .string F, .string m, .string ⟨#[]⟩] 40)).alloc (.cells #[.slice va old.size vc] 98)) (.cells #[.slice a0 c.n0 p0, .slice a1 c.n1 p1, .slice a2 c.n2 p2] 31)
      have hWN : w.heap.size + 1 < ((w1.alloc (.cells #[.int .i64 1, .string F, .string ⟨#[]⟩, .string d, .int .i64 2, .string F, .string m, .string ⟨#[]⟩] 40)).alloc (.cells #[.slice va old.size vc] 98)).heap.size := HR2.out.lt
      have HBN := hide (HB2.out.trans (hbN.mono HB2.out.size))
      have HPN := (HP2.out.next hbN).hid
      have HRN := (HR2.out.next hbN).hid
      have HDN := (HD2.out.next hbN).hid
      have HNB := (BoxIs.new ((w1.alloc (.cells #[.int .i64 1, .string F, .string ⟨#[]⟩, .string d, .int .i64 2, .string F, .string m, .string ⟨#[]⟩] 40)).alloc (.cells #[.slice va old.size vc] 98)) #[.slice a0 c.n0 p0, .slice a1 c.n1 p1, .slice a2 c.n2 p2] 31 rfl).hid
      have HON := hide (hAt.below hbN)
      have HDC := hide (fun (wr : World) (h : Below ((w1.alloc (.cells #[.int .i64 1, .string F, .string ⟨#[]⟩, .string d, .int .i64 2, .string F, .string m, .string ⟨#[]⟩] 40)).alloc (.cells #[.slice va old.size vc] 98)).heap.size (((w1.alloc (.cells #[.int .i64 1, .string F, .string ⟨#[]⟩, .string d, .int .i64 2, .string F, .string m, .string ⟨#[]⟩] 40)).alloc (.cells #[.slice va old.size vc] 98)).alloc (.cells #[.slice a0 c.n0 p0, .slice a1 c.n1 p1, .slice a2 c.n2 p2] 31)) wr) => (HD2.out.next (hbN.trans h) : DiskIs wr (.agg #[.slice a0 c.n0 p0, .slice a1 c.n1 p1, .slice a2 c.n2 p2]) c))
      have s0 := HP2.out.cell 0
      have s1 := HP2.out.cell 1
      have s2 := HP2.out.cell 2
      simp only [List.getElem?_toArray, List.getElem?_cons_succ, List.getElem?_cons_zero] at s0 s1 s2
      clear hO hos hAt hbN HB2 HP2 HR2 HD2 HOP
      go_wp2_with fail
      clear s0 s1 s2
      generalize ((w1.alloc (.cells #[.int .i64 1, .string F, .string ⟨#[]⟩, .string d, .int .i64 2, .string F, .string m, .string ⟨#[]⟩] 40)).alloc (.cells #[.slice va old.size vc] 98)).alloc (.cells #[.slice a0 c.n0 p0, .slice a1 c.n1 p1, .slice a2 c.n2 p2] 31) = WN at HBN HPN HRN HDN HNB HON HDC ⊢
      generalize (some ⟨w1.heap.size, 0, none⟩ : Option Addr) = a at HON ⊢
      have hszA : ((w1.alloc (.cells #[.int .i64 1, .string F, .string ⟨#[]⟩, .string d, .int .i64 2, .string F, .string m, .string ⟨#[]⟩] 40)).alloc (.cells #[.slice va old.size vc] 98)).heap.size = w1.heap.size + 1 + 1 := by simp
      rw [hszA] at hWN HNB HON HDC
      clear hszA
      generalize hN : w1.heap.size + 1 + 1 = N at *
      clear hN
      go_loopw [54] (fun i wr => ∃ (k : Nat) (x : DiskC) (x0 : Option Addr) (y0 : Nat) (x1 : Option Addr) (y1 : Nat) (x2 : Option Addr) (y2 : Nat), i = .int .i64 k ∧ k ≤ 2 ∧ Hid x.Fit ∧ Hid (runD c os = runD x (os.drop k)) ∧ Hid (BoxIs wr N #[.slice x0 x.n0 y0, .slice x1 x.n1 y1, .slice x2 x.n2 y2] 31) ∧ Hid (DiskIs wr (.agg #[.slice x0 x.n0 y0, .slice x1 x.n1 y1, .slice x2 x.n2 y2]) x) ∧ Hid (k = 0 ∨ DiskOwn wr w.heap.size (.agg #[.slice x0 x.n0 y0, .slice x1 x.n1 y1, .slice x2 x.n2 y2]) x) ∧ Hid (Below N WN wr)) (fun i _ => 2 - (intOf i).toNat)
      case atStart => exact ⟨0, c, a0, p0, a1, p1, a2, p2, rfl, by omega, HFT, rfl, HNB, HDN, .inl rfl, Below.refl _ _⟩
      case round =>
        obtain ⟨k, x, x0, y0, x1, y1, x2, y2, rfl, hk, HFX, HRUN, HNX, HDX, HOX, HC⟩ := hrel
        clear HNB HDN
        have hNr : N ≤ wr.heap.size := Nat.le_of_lt HNX.out.lt
        by_cases hlt : k < 2
        · have hki : (k : Int) < 2 := by omega
          obtain ⟨bb, off, ha, hbb, c0, c1, c2, c3⟩ := (HON.out.below HC.out).at hlt
          subst ha
          have hkl : k < os.length := by rw [HLEN.out]; exact hlt
          have hat := fnDOp_at os k hkl
          have hdr := List.drop_eq_getElem_cons hkl
          rw [← hat] at hdr
          have hfit := HOF.out os[k] (by rw [← HOP2.out]; exact List.getElem_mem hkl)
          rw [← hat] at hfit
          have hrun := HRUN.out
          rw [hdr] at hrun
          simp only [dOpAt1] at hrun hfit
          clear hdr hat HRUN
          generalize (fnDOp os).K k = ok at c0 hrun hfit
          generalize (fnDOp os).N k = om at c1 hrun hfit
          generalize (fnDOp os).T k = ot at c2 hrun hfit
          generalize (fnDOp os).D k = od at c3 hrun hfit
          obtain ⟨z1, z2, z3⟩ := hfit
          have HRUN := hide hrun
          have hbO := below_one wr (.cells #[.int .i64 ok, .string om, .string ot, .string od] 40)
          have HNO := (HNX.out.next hbO).hid
          have HDO := (HDX.out.next hbO).hid
          have HCO := hide (HC.out.trans (hbO.mono hNr))
          have n0 := HNO.out.cell 0
          have n1 := HNO.out.cell 1
          have n2 := HNO.out.cell 2
          simp only [List.getElem?_toArray, List.getElem?_cons_succ, List.getElem?_cons_zero] at n0 n1 n2
          clear hrun hbO HNX HDX HOX HC
          go_wp2_with fail
          clear n0 n1 n2 c0 c1 c2 c3
          refine (impl_Do (.agg #[.slice x0 x.n0 y0, .slice x1 x.n1 y1, .slice x2 x.n2 y2]) x ok om ot od _ HFX.out z1 z2 z3 HDO.out).mono ?_
          rintro e w5 ⟨⟨u, rfl, hM⟩, hb5⟩
          have hO5 : DiskOwn w5 _ u (doC x ⟨ok, om, ot, od⟩) := hM.own
          obtain ⟨b0, r0, b1, r1, b2, r2, rfl⟩ := hO5.shape
          have hN5 := HNO.out.next hb5
          have hC5 := HCO.out.trans (hb5.mono (by have := HNO.out.lt; omega))
          have hbU := below_one w5 (.cells #[.slice b0 (doC x ⟨ok, om, ot, od⟩).n0 r0, .slice b1 (doC x ⟨ok, om, ot, od⟩).n1 r1, .slice b2 (doC x ⟨ok, om, ot, od⟩).n2 r2] 31)
          have hN6 := hN5.next hbU
          have hC6 := hC5.trans (hbU.mono (Nat.le_of_lt hN5.lt))
          have HO6 := ((hO5.next2 hbU).base2 (B' := w.heap.size) (by have := HNO.out.lt; omega)).hid
          generalize hqe : doK x ⟨ok, om, ot, od⟩ = q
          have HQE := hide hqe
          have HFN := hide (doC_fit (o := ⟨ok, om, ot, od⟩) HFX.out z2 z3)
          clear hqe hM hO5 HNO HDO HCO hb5
          by_cases hq : q = 0
          · subst hq
            have HRD := hide (runD_done HQE.out (os.drop (k + 1)))
            have k0 := hN6.cell 0
            have k1 := hN6.cell 1
            have k2 := hN6.cell 2
            have kf := hN6.free
            simp only [List.getElem?_toArray, List.getElem?_cons_succ, List.getElem?_cons_zero] at k0 k1 k2
            have hN7 : BoxIs ((((w5.alloc (.cells #[.slice b0 (doC x ⟨ok, om, ot, od⟩).n0 r0, .slice b1 (doC x ⟨ok, om, ot, od⟩).n1 r1, .slice b2 (doC x ⟨ok, om, ot, od⟩).n2 r2] 31)).setCell ⟨N, 0, none⟩ (.slice b0 (doC x ⟨ok, om, ot, od⟩).n0 r0)).setCell ⟨N, 1, none⟩ (.slice b1 (doC x ⟨ok, om, ot, od⟩).n1 r1)).setCell ⟨N, 2, none⟩ (.slice b2 (doC x ⟨ok, om, ot, od⟩).n2 r2)) N #[.slice b0 (doC x ⟨ok, om, ot, od⟩).n0 r0, .slice b1 (doC x ⟨ok, om, ot, od⟩).n1 r1, .slice b2 (doC x ⟨ok, om, ot, od⟩).n2 r2] 31 := ((hN6.set 0 _).set 1 _).set 2 _
            have HN7 := hN7.hid
            have HO7 := (own_put3 HO6.out hN6 (.slice b0 (doC x ⟨ok, om, ot, od⟩).n0 r0) (.slice b1 (doC x ⟨ok, om, ot, od⟩).n1 r1) (.slice b2 (doC x ⟨ok, om, ot, od⟩).n2 r2)).hid
            have HC7 := hide (below_put3 (F := N) hC6 (Nat.le_refl _) (.slice b0 (doC x ⟨ok, om, ot, od⟩).n0 r0) (.slice b1 (doC x ⟨ok, om, ot, od⟩).n1 r1) (.slice b2 (doC x ⟨ok, om, ot, od⟩).n2 r2))
            clear hN5 hC5 hbU hN6 hC6 HO6 hN7
            go_wp2
            exact ⟨⟨k + 1, doC x ⟨ok, om, ot, od⟩, b0, r0, b1, r1, b2, r2, by go_num, by omega, HFN, HRUN.out.trans HRD.out, HN7, HO7.out.is, .inr HO7.out, HC7⟩, by simp [intOf]; omega⟩
          · have HRF := hide (HRUN.out.trans (runD_fail (c := x) (o := ⟨ok, om, ot, od⟩) (by rw [HQE.out]; exact hq) (os.drop (k + 1))))
            obtain ⟨q1, q2⟩ := rp_fail HDD.out (show runD c (opsRp c m d) = (q, x) by rw [← HOP2.out, HRF.out, HQE.out]) hq
            have HQ1 := hide q1
            have HQ2 := hide q2
            have s0 := (HPN.out.below hC6 (by omega)).cell 0
            have s1 := (HPN.out.below hC6 (by omega)).cell 1
            have s2 := (HPN.out.below hC6 (by omega)).cell 2
            simp only [List.getElem?_toArray, List.getElem?_cons_succ, List.getElem?_cons_zero] at s0 s1 s2
            have HDW := (HDC.out _ hC6).hid
            have HB6 := hide (HBN.out.trans (hC6.mono (by omega)))
            have HR6 := (HRN.out.below hC6 hWN).hid
            have hw6 : w.heap.size + 1 < (w5.alloc (.cells #[.slice b0 (doC x ⟨ok, om, ot, od⟩).n0 r0, .slice b1 (doC x ⟨ok, om, ot, od⟩).n1 r1, .slice b2 (doC x ⟨ok, om, ot, od⟩).n2 r2] 31)).heap.size := HR6.out.lt
            clear q1 q2 hN5 hC5 hbU hN6 hC6 HO6 HFN HQE HRF HRUN HFX
            go_wp2_with fail
            clear s0 s1 s2
            generalize w5.alloc (.cells #[.slice b0 (doC x ⟨ok, om, ot, od⟩).n0 r0, .slice b1 (doC x ⟨ok, om, ot, od⟩).n1 r1, .slice b2 (doC x ⟨ok, om, ot, od⟩).n2 r2] 31) = w6 at HDW HB6 HR6 hw6 ⊢
            refine (impl_copyDisk (.agg #[.slice a0 c.n0 p0, .slice a1 c.n1 p1, .slice a2 c.n2 p2]) c w6 (by omega) (by omega) (by omega) (fun i hi => by have := HZ0.out i hi; omega) (fun i hi => by have := HZ1.out i hi; omega) (fun i hi => by have := HZ2.out i hi; omega) HDW.out).mono ?_
            rintro e w8 ⟨⟨u8, rfl, ho8⟩, hb8⟩
            have hR8 := HR6.out.next hb8
            obtain ⟨v0, v1, v2, rfl, m0, m1, m2, m3⟩ := ho8
            obtain ⟨v0a, v0n, v0p, rfl⟩ := m0.shapeN
            obtain ⟨v1a, v1n, v1p, rfl⟩ := m1.shapeN
            obtain ⟨v2a, v2n, v2p, rfl⟩ := m2.shapeN
            have hMd : DiskMade w8 w6.heap.size (.agg #[.slice v0a v0n v0p, .slice v1a v1n v1p, .slice v2a v2n v2p]) (filesL c.r0 c.n0) (filesL c.r1 c.n1) (dOpsL c.r2 c.n2) := ⟨_, _, _, rfl, m0, m1, m2, m3⟩
            have HM := (hMd.put3 (F := w.heap.size + 1) (by omega) (.slice v0a v0n v0p) (.slice v1a v1n v1p) (.slice v2a v2n v2p)).hid
            have HL := hide (below_put3 (F := w.heap.size + 1) (HB6.out.trans (hb8.mono HB6.out.size)) (by omega) (.slice v0a v0n v0p) (.slice v1a v1n v1p) (.slice v2a v2n v2p))
            have hbase : w.heap.size ≤ w6.heap.size := by omega
            have t0 := hR8.cell 0
            have t1 := hR8.cell 1
            have t2 := hR8.cell 2
            have tf := hR8.free
            simp only [List.getElem?_toArray, List.getElem?_cons_succ, List.getElem?_cons_zero] at t0 t1 t2
            clear hMd m0 m1 m2 m3 hR8 hb8 HB6 HR6 HDW
            go_wp2
            refine bodyPost_ret (v := .tuple #[.agg #[.slice v0a v0n v0p, .slice v1a v1n v1p, .slice v2a v2n v2p], .int .i64 q]) (by simp [results, Try.results33, go_sem, t0, t1, t2]) rfl ⟨⟨_, ret_tupI rfl HQ1.out.symm, own_eq (HM.out.base hbase).own HQ2.out⟩, HL.out⟩
        · have hkL : k = 2 := by omega
          have hdr : os.drop k = [] := List.drop_eq_nil_of_le (by rw [HLEN.out]; omega)
          obtain ⟨q1, q2⟩ := rp_yes (x := x) HDD.out (show runD c (opsRp c m d) = (0, x) by rw [← HOP2.out, HRUN.out, hdr]; rfl)
          have HQ1 := hide q1
          have HQ2 := hide q2
          have hOw : DiskOwn wr w.heap.size (.agg #[.slice x0 x.n0 y0, .slice x1 x.n1 y1, .slice x2 x.n2 y2]) x := HOX.out.resolve_left (by omega)
          have hRr := HRN.out.below HC.out hWN
          have n0 := HNX.out.cell 0
          have n1 := HNX.out.cell 1
          have n2 := HNX.out.cell 2
          have t0 := hRr.cell 0
          have t1 := hRr.cell 1
          have t2 := hRr.cell 2
          have tf := hRr.free
          simp only [List.getElem?_toArray, List.getElem?_cons_succ, List.getElem?_cons_zero] at n0 n1 n2 t0 t1 t2
          have HO2 := (own_put3 hOw hRr (.slice x0 x.n0 y0) (.slice x1 x.n1 y1) (.slice x2 x.n2 y2)).hid
          have HL := hide (below_put3 (F := w.heap.size + 1) (HBN.out.trans (HC.out.mono (by omega))) (by omega) (.slice x0 x.n0 y0) (.slice x1 x.n1 y1) (.slice x2 x.n2 y2))
          have hki : ¬ (k : Int) < 2 := by omega
          clear q1 q2 hdr hOw hRr HRUN HNX HDX HOX HC HFX hkL
          go_wp2
          refine bodyPost_ret (v := .tuple #[.agg #[.slice x0 x.n0 y0, .slice x1 x.n1 y1, .slice x2 x.n2 y2], .int .i64 0]) (by simp [results, Try.results33, go_sem, t0, t1, t2]) rfl ⟨⟨_, ret_tupI rfl HQ1.out.symm, own_eq HO2.out HQ2.out⟩, HL.out⟩
    | true =>
      have hb3 := below_one ((w1.alloc (.cells #[.int .i64 1, .string F, .string ⟨#[]⟩, .string d, .int .i64 2, .string F, .string m, .string ⟨#[]⟩] 40)).alloc (.cells #[.slice va old.size vc] 98)) (.cells #[.int .i64 3, .string F, .string ⟨#[]⟩, .string ⟨#[]⟩] 40)
      have hX3 := HX.out.next hb3
      have hY3 := BoxIs.new ((w1.alloc (.cells #[.int .i64 1, .string F, .string ⟨#[]⟩, .string d, .int .i64 2, .string F, .string m, .string ⟨#[]⟩] 40)).alloc (.cells #[.slice va old.size vc] 98)) #[.int .i64 3, .string F, .string ⟨#[]⟩, .string ⟨#[]⟩] 40 rfl
      have HB3 := hide (HB2.out.trans (hb3.mono HB2.out.size))
      have HP3 := (HP2.out.next hb3).hid
      have HR3 := (HR2.out.next hb3).hid
      have HD3 := (HD2.out.next hb3).hid
      have HI := hide (impl_InsertDOp w1.heap.size ((w1.alloc (.cells #[.int .i64 1, .string F, .string ⟨#[]⟩, .string d, .int .i64 2, .string F, .string m, .string ⟨#[]⟩] 40)).alloc (.cells #[.slice va old.size vc] 98)).heap.size ⟨3, F, ⟨#[]⟩, ⟨#[]⟩⟩ ⟨1, F, ⟨#[]⟩, d⟩ ⟨2, F, m, ⟨#[]⟩⟩ _ hX3.lt hY3.lt (fun j v hj => by rw [Addr.add_lit, Nat.zero_add, hX3.cell]; simpa [cellsDOp] using hj) (fun j v hj => by rw [Addr.add_lit, Nat.zero_add, hY3.cell]; simpa [cellsDOp] using hj))
      clear hb3 hX3 hY3 HB2 HP2 HR2 HD2 HX
      have hsz3 : ((w1.alloc (.cells #[.int .i64 1, .string F, .string ⟨#[]⟩, .string d, .int .i64 2, .string F, .string m, .string ⟨#[]⟩] 40)).alloc (.cells #[.slice va old.size vc] 98)).heap.size = w1.heap.size + 1 + 1 := by simp
      rw [hsz3] at HI
      clear hsz3
      go_wp2_with fail
      trace_state
      refine HI.out.mono ?_
      rintro e w4 ⟨⟨u, rfl, hO⟩, hb4⟩
      have HB2 := hide (HB3.out.trans (hb4.mono HB3.out.size))
      have HP2 := (HP3.out.next hb4).hid
      have HR2 := (HR3.out.next hb4).hid
      have HD2 := (HD3.out.next hb4).hid
      obtain ⟨os, hos⟩ : ∃ os : List DOp1, os = [⟨3, F, ⟨#[]⟩, ⟨#[]⟩⟩, ⟨1, F, ⟨#[]⟩, d⟩, ⟨2, F, m, ⟨#[]⟩⟩] := ⟨_, rfl⟩
      rw [← hos] at hO
      have HLEN : Hid (os.length = 3) := by rw [hos]; rfl
      have HOP2 : Hid (os = opsRp c m d) := by show _ = _; rw [HOP.out, hos]; rfl
      obtain ⟨a, pp, rfl, hAt⟩ := hO.arg
      rw [HLEN.out] at hAt ⊢
      clear hb4 HB3 HP3 HR3 HD3 HI

      have hbN := below_one w4 (.cells #[.slice a0 c.n0 p0, .slice a1 c.n1 p1, .slice a2 c.n2 p2] 31)
      have hWN : w.heap.size + 1 < w4.heap.size := HR2.out.lt
      have HBN := hide (HB2.out.trans (hbN.mono HB2.out.size))
      have HPN := (HP2.out.next hbN).hid
      have HRN := (HR2.out.next hbN).hid
      have HDN := (HD2.out.next hbN).hid
      have HNB := (BoxIs.new w4 #[.slice a0 c.n0 p0, .slice a1 c.n1 p1, .slice a2 c.n2 p2] 31 rfl).hid
      have HON := hide (hAt.below hbN)
      have HDC := hide (fun (wr : World) (h : Below w4.heap.size (w4.alloc (.cells #[.slice a0 c.n0 p0, .slice a1 c.n1 p1, .slice a2 c.n2 p2] 31)) wr) => (HD2.out.next (hbN.trans h) : DiskIs wr (.agg #[.slice a0 c.n0 p0, .slice a1 c.n1 p1, .slice a2 c.n2 p2]) c))
      have s0 := HP2.out.cell 0
      have s1 := HP2.out.cell 1
      have s2 := HP2.out.cell 2
      simp only [List.getElem?_toArray, List.getElem?_cons_succ, List.getElem?_cons_zero] at s0 s1 s2
      clear hO hos hAt hbN HB2 HP2 HR2 HD2 HOP
      go_wp2_with fail
      clear s0 s1 s2
      generalize w4.alloc (.cells #[.slice a0 c.n0 p0, .slice a1 c.n1 p1, .slice a2 c.n2 p2] 31) = WN at HBN HPN HRN HDN HNB HON HDC ⊢
      generalize hN : w4.heap.size = N at *
      clear hN
      go_loopw [54] (fun i wr => ∃ (k : Nat) (x : DiskC) (x0 : Option Addr) (y0 : Nat) (x1 : Option Addr) (y1 : Nat) (x2 : Option Addr) (y2 : Nat), i = .int .i64 k ∧ k ≤ 3 ∧ Hid x.Fit ∧ Hid (runD c os = runD x (os.drop k)) ∧ Hid (BoxIs wr N #[.slice x0 x.n0 y0, .slice x1 x.n1 y1, .slice x2 x.n2 y2] 31) ∧ Hid (DiskIs wr (.agg #[.slice x0 x.n0 y0, .slice x1 x.n1 y1, .slice x2 x.n2 y2]) x) ∧ Hid (k = 0 ∨ DiskOwn wr w.heap.size (.agg #[.slice x0 x.n0 y0, .slice x1 x.n1 y1, .slice x2 x.n2 y2]) x) ∧ Hid (Below N WN wr)) (fun i _ => 3 - (intOf i).toNat)
      case atStart => exact ⟨0, c, a0, p0, a1, p1, a2, p2, rfl, by omega, HFT, rfl, HNB, HDN, .inl rfl, Below.refl _ _⟩
      case round =>
        obtain ⟨k, x, x0, y0, x1, y1, x2, y2, rfl, hk, HFX, HRUN, HNX, HDX, HOX, HC⟩ := hrel
        clear HNB HDN
        have hNr : N ≤ wr.heap.size := Nat.le_of_lt HNX.out.lt
        by_cases hlt : k < 3
        · have hki : (k : Int) < 3 := by omega
          obtain ⟨bb, off, ha, hbb, c0, c1, c2, c3⟩ := (HON.out.below HC.out).at hlt
          subst ha
          have hkl : k < os.length := by rw [HLEN.out]; exact hlt
          have hat := fnDOp_at os k hkl
          have hdr := List.drop_eq_getElem_cons hkl
          rw [← hat] at hdr
          have hfit := HOF.out os[k] (by rw [← HOP2.out]; exact List.getElem_mem hkl)
          rw [← hat] at hfit
          have hrun := HRUN.out
          rw [hdr] at hrun
          simp only [dOpAt1] at hrun hfit
          clear hdr hat HRUN
          generalize (fnDOp os).K k = ok at c0 hrun hfit
          generalize (fnDOp os).N k = om at c1 hrun hfit
          generalize (fnDOp os).T k = ot at c2 hrun hfit
          generalize (fnDOp os).D k = od at c3 hrun hfit
          obtain ⟨z1, z2, z3⟩ := hfit
          have HRUN := hide hrun
          have hbO := below_one wr (.cells #[.int .i64 ok, .string om, .string ot, .string od] 40)
          have HNO := (HNX.out.next hbO).hid
          have HDO := (HDX.out.next hbO).hid
          have HCO := hide (HC.out.trans (hbO.mono hNr))
          have n0 := HNO.out.cell 0
          have n1 := HNO.out.cell 1
          have n2 := HNO.out.cell 2
          simp only [List.getElem?_toArray, List.getElem?_cons_succ, List.getElem?_cons_zero] at n0 n1 n2
          clear hrun hbO HNX HDX HOX HC
          go_wp2_with fail
          clear n0 n1 n2 c0 c1 c2 c3
          refine (impl_Do (.agg #[.slice x0 x.n0 y0, .slice x1 x.n1 y1, .slice x2 x.n2 y2]) x ok om ot od _ HFX.out z1 z2 z3 HDO.out).mono ?_
          rintro e w5 ⟨⟨u, rfl, hM⟩, hb5⟩
          have hO5 : DiskOwn w5 _ u (doC x ⟨ok, om, ot, od⟩) := hM.own
          obtain ⟨b0, r0, b1, r1, b2, r2, rfl⟩ := hO5.shape
          have hN5 := HNO.out.next hb5
          have hC5 := HCO.out.trans (hb5.mono (by have := HNO.out.lt; omega))
          have hbU := below_one w5 (.cells #[.slice b0 (doC x ⟨ok, om, ot, od⟩).n0 r0, .slice b1 (doC x ⟨ok, om, ot, od⟩).n1 r1, .slice b2 (doC x ⟨ok, om, ot, od⟩).n2 r2] 31)
          have hN6 := hN5.next hbU
          have hC6 := hC5.trans (hbU.mono (Nat.le_of_lt hN5.lt))
          have HO6 := ((hO5.next2 hbU).base2 (B' := w.heap.size) (by have := HNO.out.lt; omega)).hid
          generalize hqe : doK x ⟨ok, om, ot, od⟩ = q
          have HQE := hide hqe
          have HFN := hide (doC_fit (o := ⟨ok, om, ot, od⟩) HFX.out z2 z3)
          clear hqe hM hO5 HNO HDO HCO hb5
          by_cases hq : q = 0
          · subst hq
            have HRD := hide (runD_done HQE.out (os.drop (k + 1)))
            have k0 := hN6.cell 0
            have k1 := hN6.cell 1
            have k2 := hN6.cell 2
            have kf := hN6.free
            simp only [List.getElem?_toArray, List.getElem?_cons_succ, List.getElem?_cons_zero] at k0 k1 k2
            have hN7 : BoxIs ((((w5.alloc (.cells #[.slice b0 (doC x ⟨ok, om, ot, od⟩).n0 r0, .slice b1 (doC x ⟨ok, om, ot, od⟩).n1 r1, .slice b2 (doC x ⟨ok, om, ot, od⟩).n2 r2] 31)).setCell ⟨N, 0, none⟩ (.slice b0 (doC x ⟨ok, om, ot, od⟩).n0 r0)).setCell ⟨N, 1, none⟩ (.slice b1 (doC x ⟨ok, om, ot, od⟩).n1 r1)).setCell ⟨N, 2, none⟩ (.slice b2 (doC x ⟨ok, om, ot, od⟩).n2 r2)) N #[.slice b0 (doC x ⟨ok, om, ot, od⟩).n0 r0, .slice b1 (doC x ⟨ok, om, ot, od⟩).n1 r1, .slice b2 (doC x ⟨ok, om, ot, od⟩).n2 r2] 31 := ((hN6.set 0 _).set 1 _).set 2 _
            have HN7 := hN7.hid
            have HO7 := (own_put3 HO6.out hN6 (.slice b0 (doC x ⟨ok, om, ot, od⟩).n0 r0) (.slice b1 (doC x ⟨ok, om, ot, od⟩).n1 r1) (.slice b2 (doC x ⟨ok, om, ot, od⟩).n2 r2)).hid
            have HC7 := hide (below_put3 (F := N) hC6 (Nat.le_refl _) (.slice b0 (doC x ⟨ok, om, ot, od⟩).n0 r0) (.slice b1 (doC x ⟨ok, om, ot, od⟩).n1 r1) (.slice b2 (doC x ⟨ok, om, ot, od⟩).n2 r2))
            clear hN5 hC5 hbU hN6 hC6 HO6 hN7
            go_wp2
            exact ⟨⟨k + 1, doC x ⟨ok, om, ot, od⟩, b0, r0, b1, r1, b2, r2, by go_num, by omega, HFN, HRUN.out.trans HRD.out, HN7, HO7.out.is, .inr HO7.out, HC7⟩, by simp [intOf]; omega⟩
          · have HRF := hide (HRUN.out.trans (runD_fail (c := x) (o := ⟨ok, om, ot, od⟩) (by rw [HQE.out]; exact hq) (os.drop (k + 1))))
            obtain ⟨q1, q2⟩ := rp_fail HDD.out (show runD c (opsRp c m d) = (q, x) by rw [← HOP2.out, HRF.out, HQE.out]) hq
            have HQ1 := hide q1
            have HQ2 := hide q2
            have s0 := (HPN.out.below hC6 (by omega)).cell 0
            have s1 := (HPN.out.below hC6 (by omega)).cell 1
            have s2 := (HPN.out.below hC6 (by omega)).cell 2
            simp only [List.getElem?_toArray, List.getElem?_cons_succ, List.getElem?_cons_zero] at s0 s1 s2
            have HDW := (HDC.out _ hC6).hid
            have HB6 := hide (HBN.out.trans (hC6.mono (by omega)))
            have HR6 := (HRN.out.below hC6 hWN).hid
            have hw6 : w.heap.size + 1 < (w5.alloc (.cells #[.slice b0 (doC x ⟨ok, om, ot, od⟩).n0 r0, .slice b1 (doC x ⟨ok, om, ot, od⟩).n1 r1, .slice b2 (doC x ⟨ok, om, ot, od⟩).n2 r2] 31)).heap.size := HR6.out.lt
            clear q1 q2 hN5 hC5 hbU hN6 hC6 HO6 HFN HQE HRF HRUN HFX
            go_wp2_with fail
            clear s0 s1 s2
            generalize w5.alloc (.cells #[.slice b0 (doC x ⟨ok, om, ot, od⟩).n0 r0, .slice b1 (doC x ⟨ok, om, ot, od⟩).n1 r1, .slice b2 (doC x ⟨ok, om, ot, od⟩).n2 r2] 31) = w6 at HDW HB6 HR6 hw6 ⊢
            refine (impl_copyDisk (.agg #[.slice a0 c.n0 p0, .slice a1 c.n1 p1, .slice a2 c.n2 p2]) c w6 (by omega) (by omega) (by omega) (fun i hi => by have := HZ0.out i hi; omega) (fun i hi => by have := HZ1.out i hi; omega) (fun i hi => by have := HZ2.out i hi; omega) HDW.out).mono ?_
            rintro e w8 ⟨⟨u8, rfl, ho8⟩, hb8⟩
            have hR8 := HR6.out.next hb8
            obtain ⟨v0, v1, v2, rfl, m0, m1, m2, m3⟩ := ho8
            obtain ⟨v0a, v0n, v0p, rfl⟩ := m0.shapeN
            obtain ⟨v1a, v1n, v1p, rfl⟩ := m1.shapeN
            obtain ⟨v2a, v2n, v2p, rfl⟩ := m2.shapeN
            have hMd : DiskMade w8 w6.heap.size (.agg #[.slice v0a v0n v0p, .slice v1a v1n v1p, .slice v2a v2n v2p]) (filesL c.r0 c.n0) (filesL c.r1 c.n1) (dOpsL c.r2 c.n2) := ⟨_, _, _, rfl, m0, m1, m2, m3⟩
            have HM := (hMd.put3 (F := w.heap.size + 1) (by omega) (.slice v0a v0n v0p) (.slice v1a v1n v1p) (.slice v2a v2n v2p)).hid
            have HL := hide (below_put3 (F := w.heap.size + 1) (HB6.out.trans (hb8.mono HB6.out.size)) (by omega) (.slice v0a v0n v0p) (.slice v1a v1n v1p) (.slice v2a v2n v2p))
            have hbase : w.heap.size ≤ w6.heap.size := by omega
            have t0 := hR8.cell 0
            have t1 := hR8.cell 1
            have t2 := hR8.cell 2
            have tf := hR8.free
            simp only [List.getElem?_toArray, List.getElem?_cons_succ, List.getElem?_cons_zero] at t0 t1 t2
            clear hMd m0 m1 m2 m3 hR8 hb8 HB6 HR6 HDW
            go_wp2
            refine bodyPost_ret (v := .tuple #[.agg #[.slice v0a v0n v0p, .slice v1a v1n v1p, .slice v2a v2n v2p], .int .i64 q]) (by simp [results, Try.results33, go_sem, t0, t1, t2]) rfl ⟨⟨_, ret_tupI rfl HQ1.out.symm, own_eq (HM.out.base hbase).own HQ2.out⟩, HL.out⟩
        · have hkL : k = 3 := by omega
          have hdr : os.drop k = [] := List.drop_eq_nil_of_le (by rw [HLEN.out]; omega)
          obtain ⟨q1, q2⟩ := rp_yes (x := x) HDD.out (show runD c (opsRp c m d) = (0, x) by rw [← HOP2.out, HRUN.out, hdr]; rfl)
          have HQ1 := hide q1
          have HQ2 := hide q2
          have hOw : DiskOwn wr w.heap.size (.agg #[.slice x0 x.n0 y0, .slice x1 x.n1 y1, .slice x2 x.n2 y2]) x := HOX.out.resolve_left (by omega)
          have hRr := HRN.out.below HC.out hWN
          have n0 := HNX.out.cell 0
          have n1 := HNX.out.cell 1
          have n2 := HNX.out.cell 2
          have t0 := hRr.cell 0
          have t1 := hRr.cell 1
          have t2 := hRr.cell 2
          have tf := hRr.free
          simp only [List.getElem?_toArray, List.getElem?_cons_succ, List.getElem?_cons_zero] at n0 n1 n2 t0 t1 t2
          have HO2 := (own_put3 hOw hRr (.slice x0 x.n0 y0) (.slice x1 x.n1 y1) (.slice x2 x.n2 y2)).hid
          have HL := hide (below_put3 (F := w.heap.size + 1) (HBN.out.trans (HC.out.mono (by omega))) (by omega) (.slice x0 x.n0 y0) (.slice x1 x.n1 y1) (.slice x2 x.n2 y2))
          have hki : ¬ (k : Int) < 3 := by omega
          clear q1 q2 hdr hOw hRr HRUN HNX HDX HOX HC HFX hkL
          go_wp2
          refine bodyPost_ret (v := .tuple #[.agg #[.slice x0 x.n0 y0, .slice x1 x.n1 y1, .slice x2 x.n2 y2], .int .i64 0]) (by simp [results, Try.results33, go_sem, t0, t1, t2]) rfl ⟨⟨_, ret_tupI rfl HQ1.out.symm, own_eq HO2.out HQ2.out⟩, HL.out⟩
end Go.Proofs.Ytejedpmkbkclhaa
