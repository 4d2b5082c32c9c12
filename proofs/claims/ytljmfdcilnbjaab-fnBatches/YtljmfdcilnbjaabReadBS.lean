/- ReadBatch of the model. -/
import Derived.Test.YtljmfdcilnbjaabReadB
namespace Go.Proofs.Ytljmfdcilnbjaab
set_option maxRecDepth 100000
open Go.RowKit Go.Deep

/-- 'append(v, u)', u an op that was just laid. -/
theorem wpList_append_ob {w : World} {ops : Array Oper} {rest : List Oper} {o : Oper} {a : Act} {Q : Exit → Act → World → Prop} (hgd : o.guard = none) (s x : Operand) (t : TypeId)
    (ho : o.op = .call { callee := .builtin .append, args := #[s, x], argTypes := #[t, t] }) (ht : Try.prog.underlying t = some (.slice 40))
    (B : Nat) (v : Value) (os : List Ob) (ob : Ob) (hs : a.eval s = v) (hx : a.eval x = .slice (some ⟨w.heap.size, 0, none⟩) 1 1) (hown : OwnO w B v os) (hB : B ≤ w.heap.size) (hlen : os.length < 1000000)
    (h : ∀ g cap w', OwnO w' B (.slice (some ⟨g, 0, none⟩) (os.length + 1) cap) (os ++ [ob]) → Below B w w' → wpList Try.prog ops Q rest (a.put o.dst (.slice (some ⟨g, 0, none⟩) (os.length + 1) cap)) w') :
    wpList Try.prog ops Q (o :: rest) a (w.alloc (.cells #[.int .i64 ob.k, .string ob.u, .string ob.x] 40)) := by
  obtain ⟨i0, hi0, hz0, hz1, hz2⟩ := info_parts op_info
  have hb := below_one w (.cells #[.int .i64 ob.k, .string ob.u, .string ob.x] 40)
  have hown1 : (w.alloc (.cells #[.int .i64 ob.k, .string ob.u, .string ob.x] 40)).ownsRow B 40 3 v os.length (cellsO os) := own_next hown hb
  have hB1 := Nat.le_trans hB hb.size
  refine wpList_append_lies (P := Try.prog) _ hgd s x t ho B 40 i0 _ 3 40 ht hi0 hz0 hz1 hz2 rfl (by decide) v os.length (cellsO os) hs hown1 ⟨w.heap.size, 0, none⟩ 1 1 (cellsO [ob]) hx rfl (srcOb w ob) (cellsO_one _) (by decide) (by unfold maxLen; omega) (by omega) hB1 _ rfl ?_
  intro g cap w' how hgr _ _
  refine h g cap w' ?_ ((hb.mono hB).trans ((Below.refl B _).grown hgr hB1 fun k hk => (World.ownsRow.lt hown1 k hk).1))
  unfold OwnO
  rw [cellsO_append, List.length_append]
  exact how

/-- While the model reads ops: the batch in block F, its row from block F + 1 on, the answer's box as it was laid. -/
structure SbS (w : World) (F : Nat) (q : Int) (v vo : Value) (os : List Ob) (x : World) : Prop where
  bx : BoxIs x F #[.int .i64 q, v] 26
  res : BoxIs x w.heap.size #[.int .i64 0, .slice none 0 0] 26
  own : OwnO x (F + 1) vo os
  low : Below w.heap.size w x
  hB : F + 1 ≤ x.heap.size
  n2 : w.heap.size < F

theorem SbS.next {w : World} {F : Nat} {q : Int} {v vo : Value} {os : List Ob} {x y : World} (h : SbS w F q v vo os x) (hb : Below x.heap.size x y) : SbS w F q v vo os y :=
  ⟨h.bx.next hb, h.res.next hb, own_next h.own hb, h.low.trans (hb.mono h.low.size), Nat.le_trans h.hB hb.size, h.n2⟩
theorem SbS.app {w : World} {F : Nat} {q : Int} {v vo vo' : Value} {os os' : List Ob} {x y : World} (h : SbS w F q v vo os x) (how : OwnO y (F + 1) vo' os') (hb : Below (F + 1) x y) : SbS w F q v vo' os' y := by
  have := h.n2
  exact ⟨h.bx.below hb (by omega), h.res.below hb (by omega), how, h.low.trans (hb.mono (by omega)), Nat.le_trans h.hB hb.size, h.n2⟩
theorem SbS.put {w : World} {F : Nat} {q : Int} {v vo : Value} {os : List Ob} {x : World} (h : SbS w F q v vo os x) : SbS w F q vo vo os (x.setCell ⟨F, 1, none⟩ vo) := by
  have h2 := h.n2
  have hb : Below F x (x.setCell ⟨F, 1, none⟩ vo) := (Below.refl _ _).setCell (p := ⟨F, 1, none⟩) (Nat.le_refl _) _
  have hm : Mv F x (x.setCell ⟨F, 1, none⟩ vo) := (Mv.refl _ _).setCell _
  exact ⟨heap_setCell_same x F 1 _ _ vo h.bx, h.res.below hb (by omega), own_mvR h.own hm (by omega), h.low.trans (hb.mono (by omega)), Nat.le_trans h.hB hm.size, h.n2⟩

def badB : Value := .tuple #[.agg #[.int .i64 0, .slice none 0 0], .bool false]

/-- The answer where there is no batch. -/
theorem bad_end {s : ByteArray} {w w' : World} (HV : readB s = (false, 0, [])) (h : Below w.heap.size w w') :
    (∃ v, Ending.returned badB = .returned (.tuple #[.agg #[.int .i64 (readB s).2.1, v], .bool (readB s).1]) ∧ OwnO w' w.heap.size v (readB s).2.2) ∧ Below w.heap.size w w' :=
  ⟨⟨.slice none 0 0, by rw [HV]; rfl, by rw [HV]; exact OwnO.nil _ _⟩, h⟩

theorem rbyte_at {r : ByteArray} (h : r.size ≠ 0) : rbyte r = (bt r 0, r.extract 1 r.size, false) := by rw [rbyte, if_neg h]

set_option maxHeartbeats 2000000 in
/-- The model's loop and what is behind it. -/
theorem spec_ReadBatch_loop (s : ByteArray) (hs : s.size ≤ 1048576) (w : World) (n1 : Int) (k1 : Nat) (r1 : ByteArray) (n2 : Int) (k2 : Nat) (r0 : ByteArray) (h1 : tva s 10 0 0 = some (n1, k1)) (e1 : s.extract k1 s.size = r1) (h2 : tva r1 10 0 0 = some (n2, k2)) (e2 : r1.extract k2 r1.size = r0)
    (hc1 : ¬ 1000000000000 < n1) (hc2 : ¬ 20 < n2) :
    Calls Try.prog 14 #[.string s] w fun e w' => (∃ v, e = .returned (.tuple #[.agg #[.int .i64 (readB s).2.1, v], .bool (readB s).1]) ∧ OwnO w' w.heap.size v (readB s).2.2) ∧ Below w.heap.size w w' := by
  have t1 := takeVar_some h1 e1
  have t2 := takeVar_some h2 e2
  have p1 := tva_nonneg s 10 0 0 h1 (by omega)
  have p2 := tva_nonneg r1 10 0 0 h2 (by omega)
  have y1 : rnum s = (n1, r1, false) := by rw [rnum_some h1 (by omega), e1]
  have y2 : rnum r1 = (n2, r0, false) := by rw [rnum_some h2 (by omega), e2]
  have zr1 : r1.size ≤ s.size := by rw [← e1]; simp
  have zr0 : r0.size ≤ r1.size := by rw [← e2]; simp
  have hzr : r0.size ≤ 1048576 := by omega
  obtain ⟨m, rfl⟩ := Int.eq_ofNat_of_zero_le p2
  have hm20 : m ≤ 20 := by omega
  have hm : rdm (m : Int) = m := by unfold rdm; rw [if_pos (by omega)]; simp
  have HY : Hid ((!((rdo r0 m).2.2) && decide ((rdo r0 m).2.1.size = 0)) = true → batchOkB n1 (rdo r0 m).1.length (opsOf (rdo r0 m).1) = true → readB s = (true, n1, (rdo r0 m).1)) := fun ha hb => by
    have := readB_yes (s := s)
    simp only [y1, y2, hm, Bool.false_or] at this
    exact this ha hb
  have HN1 : Hid ((!((rdo r0 m).2.2) && decide ((rdo r0 m).2.1.size = 0)) = false → readB s = (false, 0, [])) := fun ha => by
    have := readB_no1 (s := s)
    simp only [y1, y2, hm, Bool.false_or] at this
    exact this ha
  have HN2 : Hid (batchOkB n1 (rdo r0 m).1.length (opsOf (rdo r0 m).1) = false → readB s = (false, 0, [])) := fun ha => by
    have := readB_no2 (s := s)
    simp only [y1, y2, hm] at this
    exact this ha
  have hw1 : IntKind.i64.wrap n1 = n1 := by rw [IntKind.wrap_i64]; omega
  have hi64 : wrap64 n1 = n1 := by unfold wrap64; omega
  have c1 := fun wx => spec_TakeVar s (by unfold maxLen; omega) wx
  have c2 := fun wx => spec_TakeVar r1 (by unfold maxLen; omega) wx
  rw [t1] at c1
  rw [t2] at c2
  clear h1 e1 h2 e2 t1 t2 y1 y2 hm p2
  have hB0 := below_one w (.cells #[.int .i64 0, .slice none 0 0] 26)
  have hF0 := BoxIs.new w #[.int .i64 0, .slice none 0 0] 26 rfl
  go_enter Try.func14, Try.ntmps14
  go_wp2_with fail
  generalize w.alloc (.cells #[.int .i64 0, .slice none 0 0] 26) = W at hB0 hF0 ⊢
  refine (c1 _).mono ?_
  rintro e w1 ⟨rfl, hb1⟩
  have hF1 := hF0.next hb1
  have hB1 := hB0.trans (hb1.mono hB0.size)
  clear c1 hb1
  go_wp2_with fail
  refine (c2 _).mono ?_
  rintro e w2 ⟨rfl, hb2⟩
  have hF2 := hF1.next hb2
  have hB2 := hB1.trans (hb2.mono hB1.size)
  have hlt2 := hF2.lt
  clear c2 hb2 hF0 hB0 hF1 hB1
  have hb3 := below_one w2 (.cells #[.int .i64 n1, .slice none 0 0] 26)
  have H3 : Hid (SbS w w2.heap.size n1 (.slice none 0 0) (.slice none 0 0) (rdo r0 0).1 (w2.alloc (.cells #[.int .i64 n1, .slice none 0 0] 26))) :=
    ⟨BoxIs.new w2 _ _ rfl, hF2.next hb3, OwnO.nil _ _, hB2.trans (hb3.mono hB2.size), by simp, hlt2⟩
  clear hb3 hF2 hB2
  go_wp2
  generalize w2.alloc (.cells #[.int .i64 n1, .slice none 0 0] 26) = W3 at H3 ⊢
  obtain ⟨F, hFe⟩ : ∃ F, w2.heap.size = F := ⟨_, rfl⟩
  rw [hFe] at H3 hlt2 ⊢
  clear hFe hw1 hi64
  go_loopw [8, 11] (fun r i wr => ∃ (k : Nat) (vo : Value), r = .string (rdo r0 k).2.1 ∧ i = .int .u64 k ∧ k ≤ m ∧ Hid ((rdo r0 k).2.2 = false) ∧ Hid (SbS w F n1 vo vo (rdo r0 k).1 wr)) (fun _ i _ => m - (intOf i).toNat)
  case atStart => exact ⟨0, _, rfl, rfl, by omega, rfl, H3⟩
  case round =>
    obtain ⟨k, vo, rfl, rfl, hk, HL, HR⟩ := hrel
    clear H3
    have hrd := rdo_len r0 k
    have hRz := rdo_size r0 k
    have o0 : wr.cell? ⟨w.heap.size, 0, none⟩ = some (.int .i64 0) := HR.out.res.cell 0
    have o1 : wr.cell? ⟨w.heap.size, 1, none⟩ = some (.slice none 0 0) := HR.out.res.cell 1
    have of := HR.out.res.free
    by_cases hlt : k < m
    · have hki : (k : Int) < (m : Int) := by omega
      have HLOST : Hid (obLost (rdo r0 k).2.1 = true → readB s = (false, 0, [])) := fun h => HN1.out (by
        have : (rdo r0 (k + 1)).2.2 = true := by simp [rdo, h]
        rw [rdo_lost r0 this m (by omega)]; rfl)
      have HS1 : Hid ((rdo r0 (k + 1)).1 = (rdo r0 k).1 ++ [obAt (rdo r0 k).2.1]) := rfl
      have HS2 : Hid ((rdo r0 (k + 1)).2.1 = obRest (rdo r0 k).2.1) := rfl
      have HS3 : Hid ((rdo r0 (k + 1)).2.2 = ((rdo r0 k).2.2 || obLost (rdo r0 k).2.1)) := rfl
      generalize hRe : (rdo r0 k).2.1 = R at HLOST HS1 HS2 HS3 hRz ⊢
      clear hRe HY HN1 HN2
      have he := isEmpty_size R
      by_cases hz : R.size = 0
      · have HV : Hid (readB s = (false, 0, [])) := HLOST.out (by unfold obLost rbyte; rw [if_pos hz]; rfl)
        clear HLOST HS1 HS2 HS3
        go_wp2
        refine bodyPost_ret (v := badB) (by simp [results, Try.results14, go_sem, o0, o1, badB]) rfl (bad_end HV.out ?_)
        exact (HR.out.low.setCell (Nat.le_refl _) _).setCell (Nat.le_refl _) _
      · have hrb := rbyte_at hz
        have h3 : 0 < R.size := by omega
        have h31 : (0 : Int) < (R.size : Int) := by omega
        have h32 : (1 : Int) ≤ (R.size : Int) := by omega
        have hbd := bt_bd R 0
        have hb0 := bt_of R 0 h3
        obtain ⟨T1, hT1⟩ : ∃ T1, R.extract 1 R.size = T1 := ⟨_, rfl⟩
        have zT1 : T1.size ≤ R.size := by rw [← hT1]; simp
        have zT2 := rtext_bd T1
        have zT3 := rtext_bd (rtext T1).2.1
        have c3 := fun wx => takeText_rt T1 ▸ spec_TakeText T1 (by omega) wx
        have c4 := fun wx => takeText_rt (rtext T1).2.1 ▸ spec_TakeText (rtext T1).2.1 (by omega) wx
        rw [hT1] at hrb
        have hOL : obLost R = ((rtext T1).2.2 || (rtext (rtext T1).2.1).2.2) := by unfold obLost; rw [hrb]; rfl
        have hOA : obAt R = ⟨bt R 0, (rtext T1).1, (rtext (rtext T1).2.1).1⟩ := by unfold obAt; rw [hrb]
        have hOR : obRest R = (rtext (rtext T1).2.1).2.1 := by unfold obRest; rw [hrb]
        rw [hOL] at HLOST HS3
        rw [hOA] at HS1
        rw [hOR] at HS2
        clear hOL hOA hOR hrb zT3
        generalize rtext (rtext T1).2.1 = b at *
        generalize rtext T1 = a at *
        obtain ⟨ua, ra, la⟩ := a
        obtain ⟨ub, rb, lb⟩ := b
        simp only at c3 c4 HLOST HS1 HS2 HS3 zT2
        have hq1 : IntKind.i64.wrap (bt R 0) = bt R 0 := by rw [IntKind.wrap_i64]; omega
        go_wp2_with fail
        refine (c3 _).mono ?_
        rintro e w4 ⟨rfl, hb4⟩
        clear c3 o0 o1 of
        go_wp2_with fail
        refine (c4 _).mono ?_
        rintro e w5 ⟨rfl, hb5⟩
        have HR5 := hide (HR.out.next (hb4.trans (hb5.mono hb4.size)))
        have q0 : w5.cell? ⟨w.heap.size, 0, none⟩ = some (.int .i64 0) := HR5.out.res.cell 0
        have q1 : w5.cell? ⟨w.heap.size, 1, none⟩ = some (.slice none 0 0) := HR5.out.res.cell 1
        have qf := HR5.out.res.free
        clear c4 hb4 hb5 HR
        cases la with
        | true =>
          have HV : Hid (readB s = (false, 0, [])) := HLOST.out rfl
          clear HLOST HS1 HS2 HS3
          go_wp2
          refine bodyPost_ret (v := badB) (by simp [results, Try.results14, go_sem, q0, q1, badB]) rfl (bad_end HV.out ?_)
          exact (HR5.out.low.setCell (Nat.le_refl _) _).setCell (Nat.le_refl _) _
        | false =>
          cases lb with
          | true =>
            have HV : Hid (readB s = (false, 0, [])) := HLOST.out rfl
            clear HLOST HS1 HS2 HS3
            go_wp2
            refine bodyPost_ret (v := badB) (by simp [results, Try.results14, go_sem, q0, q1, badB]) rfl (bad_end HV.out ?_)
            exact (HR5.out.low.setCell (Nat.le_refl _) _).setCell (Nat.le_refl _) _
          | false =>
            have x1 : w5.cell? ⟨F, 1, none⟩ = some vo := HR5.out.bx.cell 1
            clear HLOST q0 q1 qf
            go_wp2_with (first
              | (at_builtin; refine wpList_append_ob rfl _ _ 24 rfl Try.underlying24 (F + 1) vo (rdo r0 k).1 ⟨bt R 0, ua, ub⟩ (by rfl) (by rfl) HR5.out.own HR5.out.hB ?c1 ?_))
            case c1 => omega
            intro g cp w6 hown' hb'
            have HR6 := hide (HR5.out.app hown' hb')
            have x2 : w6.cell? ⟨F, 1, none⟩ = some vo := HR6.out.bx.cell 1
            have xf := HR6.out.bx.free
            have HL2 : Hid ((rdo r0 (k + 1)).2.2 = false) := by
              show _ = false
              rw [HS3.out, HL.out]; rfl
            have HR7 : Hid (SbS w F n1 (.slice (some ⟨g, 0, none⟩) (k + 1) cp) (.slice (some ⟨g, 0, none⟩) (k + 1) cp) (rdo r0 (k + 1)).1 (w6.setCell ⟨F, 1, none⟩ (.slice (some ⟨g, 0, none⟩) (k + 1) cp))) := by
              rw [HS1.out]
              exact HR6.out.put
            clear hown' hb' HR5 x1
            go_wp2
            exact ⟨⟨k + 1, _, by rw [HS2.out], by go_num, by omega, HL2, HR7⟩, by simp [intOf]; omega⟩
    · obtain rfl : k = m := by omega
      obtain ⟨ar, cap, hvo, hO⟩ := HR.out.own.ops
      subst hvo
      have HO : Hid (OpAt wr wr.heap.size ar (rdo r0 k).1.length (opsOf (rdo r0 k).1)) := hO
      have cb := fun (wx : World) (h : OpAt wx wx.heap.size ar (rdo r0 k).1.length (opsOf (rdo r0 k).1)) => spec_BatchOk n1 ar (rdo r0 k).1.length cap (opsOf (rdo r0 k).1) wx (by rw [hrd]; omega) h
      have x0 : wr.cell? ⟨F, 0, none⟩ = some (.int .i64 n1) := HR.out.bx.cell 0
      have x1 : wr.cell? ⟨F, 1, none⟩ = some (.slice ar (rdo r0 k).1.length cap) := HR.out.bx.cell 1
      have hll := HL.out
      rw [hll] at HY HN1
      clear hO HL hll hRz
      generalize rdo r0 k = D at *
      obtain ⟨os, R, lD⟩ := D
      simp only at *
      generalize hLN : os.length = LN at *
      clear hLN
      obtain rfl : LN = k := hrd
      have he := isEmpty_size R
      by_cases hz : R.size = 0
      · cases hok : batchOkB n1 LN (opsOf os) with
        | false =>
          have HV : Hid (readB s = (false, 0, [])) := HN2.out hok
          rw [hok] at cb
          clear HN1 HN2 HY hok o0 o1 of
          go_wp2_with fail
          refine (cb _ HO.out).mono ?_
          rintro e w7 ⟨rfl, hb7⟩
          have HR7 := hide (HR.out.next hb7)
          have q0 : w7.cell? ⟨w.heap.size, 0, none⟩ = some (.int .i64 0) := HR7.out.res.cell 0
          have q1 : w7.cell? ⟨w.heap.size, 1, none⟩ = some (.slice none 0 0) := HR7.out.res.cell 1
          have qf := HR7.out.res.free
          clear hb7 cb x0 x1 HR HO
          go_wp2
          refine bodyPost_ret (v := badB) (by simp [results, Try.results14, go_sem, q0, q1, badB]) rfl (bad_end HV.out ?_)
          exact (HR7.out.low.setCell (Nat.le_refl _) _).setCell (Nat.le_refl _) _
        | true =>
          have HV : Hid (readB s = (true, n1, os)) := HY.out (by simp [hz]) hok
          rw [hok] at cb
          clear HN1 HN2 HY hok o0 o1 of
          go_wp2_with fail
          refine (cb _ HO.out).mono ?_
          rintro e w7 ⟨rfl, hb7⟩
          have HR7 := hide (HR.out.next hb7)
          have q0 : w7.cell? ⟨w.heap.size, 0, none⟩ = some (.int .i64 0) := HR7.out.res.cell 0
          have q1 : w7.cell? ⟨w.heap.size, 1, none⟩ = some (.slice none 0 0) := HR7.out.res.cell 1
          have qf := HR7.out.res.free
          have y0 : w7.cell? ⟨F, 0, none⟩ = some (.int .i64 n1) := HR7.out.bx.cell 0
          have y1 : w7.cell? ⟨F, 1, none⟩ = some (.slice ar LN cap) := HR7.out.bx.cell 1
          clear hb7 cb x0 x1 HR HO
          go_wp2
          refine bodyPost_ret (v := .tuple #[.agg #[.int .i64 n1, .slice ar LN cap], .bool true]) (by simp [results, Try.results14, go_sem, q0, q1]) rfl ⟨⟨.slice ar LN cap, by rw [HV.out], ?_⟩, ?_⟩
          · rw [HV.out]
            refine own_mono (B := F + 1) (own_block HR7.out.own fun g hg hB => ?_) (by omega)
            have hne : g ≠ w.heap.size := by omega
            rw [Below.heap_setCell _ _ _ _ (by simpa using hne), Below.heap_setCell _ _ _ _ (by simpa using hne)]
          · exact (HR7.out.low.setCell (Nat.le_refl _) _).setCell (Nat.le_refl _) _
      · have HV : Hid (readB s = (false, 0, [])) := HN1.out (by simp [hz])
        clear HN1 HN2 HY cb x0 x1
        go_wp2
        refine bodyPost_ret (v := badB) (by simp [results, Try.results14, go_sem, o0, o1, badB]) rfl (bad_end HV.out ?_)
        exact (HR.out.low.setCell (Nat.le_refl _) _).setCell (Nat.le_refl _) _

set_option maxHeartbeats 2000000 in
theorem spec_ReadBatch (s : ByteArray) (hs : s.size ≤ 1048576) (w : World) :
    Calls Try.prog 14 #[.string s] w fun e w' => (∃ v, e = .returned (.tuple #[.agg #[.int .i64 (readB s).2.1, v], .bool (readB s).1]) ∧ OwnO w' w.heap.size v (readB s).2.2) ∧ Below w.heap.size w w' := by
  have hB0 := below_one w (.cells #[.int .i64 0, .slice none 0 0] 26)
  have hF0 := BoxIs.new w #[.int .i64 0, .slice none 0 0] 26 rfl
  have cE := fun wx => takeVar_empty ▸ spec_TakeVar ⟨#[]⟩ (by decide) wx
  have lost1 : (rnum s).2.2 = true → readB s = (false, 0, []) := fun h => readB_no1 (by simp [h])
  have lost2 : (rnum (rnum s).2.1).2.2 = true → readB s = (false, 0, []) := fun h => readB_no1 (by simp [h])
  cases h1 : tva s 10 0 0 with
  | none =>
    have HV : Hid (readB s = (false, 0, [])) := lost1 (by rw [rnum_none h1])
    have c1 := fun wx => takeVar_none h1 ▸ spec_TakeVar s (by unfold maxLen; omega) wx
    clear h1 lost1 lost2
    go_enter Try.func14, Try.ntmps14
    go_wp2_with fail
    generalize w.alloc (.cells #[.int .i64 0, .slice none 0 0] 26) = W at hB0 hF0 ⊢
    refine (c1 _).mono ?_
    rintro e w1 ⟨rfl, hb1⟩
    have hF1 := hF0.next hb1
    have hB1 := hB0.trans (hb1.mono hB0.size)
    clear c1 hb1
    go_wp2_with fail
    refine (cE _).mono ?_
    rintro e w2 ⟨rfl, hb2⟩
    have hF2 := hF1.next hb2
    have HB2 := hide (hB1.trans (hb2.mono hB1.size))
    have q0 : w2.cell? ⟨w.heap.size, 0, none⟩ = some (.int .i64 0) := hF2.cell 0
    have q1 : w2.cell? ⟨w.heap.size, 1, none⟩ = some (.slice none 0 0) := hF2.cell 1
    have qf := hF2.free
    clear cE hb2 hF0 hB0 hF1 hB1 hF2
    go_wp2
    refine bodyPost_ret (v := badB) (by simp [results, Try.results14, go_sem, q0, q1, badB]) rfl (bad_end HV.out ?_)
    exact (HB2.out.setCell (Nat.le_refl _) _).setCell (Nat.le_refl _) _
  | some x =>
    obtain ⟨n1, k1⟩ := x
    obtain ⟨r1, e1⟩ : ∃ r1, s.extract k1 s.size = r1 := ⟨_, rfl⟩
    have zr1 : r1.size ≤ s.size := by rw [← e1]; simp
    have c1 := fun wx => takeVar_some h1 e1 ▸ spec_TakeVar s (by unfold maxLen; omega) wx
    have pn := tva_nonneg s 10 0 0 h1 (by omega)
    cases h2 : tva r1 10 0 0 with
    | none =>
      have HV : Hid (readB s = (false, 0, [])) := by
        by_cases hn : 9223372036854775807 < n1
        · exact lost1 (by rw [rnum_big h1 hn])
        · exact lost2 (by rw [rnum_some h1 hn]; show (rnum (s.extract k1 s.size)).2.2 = true; rw [e1, rnum_none h2])
      have c2 := fun wx => takeVar_none h2 ▸ spec_TakeVar r1 (by unfold maxLen; omega) wx
      clear h1 h2 lost1 lost2 e1 cE
      go_enter Try.func14, Try.ntmps14
      go_wp2_with fail
      generalize w.alloc (.cells #[.int .i64 0, .slice none 0 0] 26) = W at hB0 hF0 ⊢
      refine (c1 _).mono ?_
      rintro e w1 ⟨rfl, hb1⟩
      have hF1 := hF0.next hb1
      have hB1 := hB0.trans (hb1.mono hB0.size)
      clear c1 hb1
      go_wp2_with fail
      refine (c2 _).mono ?_
      rintro e w2 ⟨rfl, hb2⟩
      have hF2 := hF1.next hb2
      have HB2 := hide (hB1.trans (hb2.mono hB1.size))
      have q0 : w2.cell? ⟨w.heap.size, 0, none⟩ = some (.int .i64 0) := hF2.cell 0
      have q1 : w2.cell? ⟨w.heap.size, 1, none⟩ = some (.slice none 0 0) := hF2.cell 1
      have qf := hF2.free
      clear c2 hb2 hF0 hB0 hF1 hB1 hF2
      go_wp2
      refine bodyPost_ret (v := badB) (by simp [results, Try.results14, go_sem, q0, q1, badB]) rfl (bad_end HV.out ?_)
      exact (HB2.out.setCell (Nat.le_refl _) _).setCell (Nat.le_refl _) _
    | some y =>
      obtain ⟨n2, k2⟩ := y
      obtain ⟨r0, e2⟩ : ∃ r0, r1.extract k2 r1.size = r0 := ⟨_, rfl⟩
      by_cases hc : 1000000000000 < n1 ∨ 20 < n2
      · have pn2 := tva_nonneg r1 10 0 0 h2 (by omega)
        have HV : Hid (readB s = (false, 0, [])) := by
          by_cases hn : 9223372036854775807 < n1
          · exact lost1 (by rw [rnum_big h1 hn])
          · have y1 : rnum s = (n1, r1, false) := by rw [rnum_some h1 hn, e1]
            by_cases hn2 : 9223372036854775807 < n2
            · exact lost2 (by rw [y1]; show (rnum r1).2.2 = true; rw [rnum_big h2 hn2])
            · have y2 : rnum r1 = (n2, r0, false) := by rw [rnum_some h2 hn2, e2]
              refine readB_no2 ?_
              simp only [y1, y2]
              refine batchOk_no ?_
              rw [rdo_len]
              rintro ⟨_, g2, _, g4⟩
              rcases hc with hc | hc
              · omega
              · unfold rdm at g2
                split at g2 <;> omega
        have c2 := fun wx => takeVar_some h2 e2 ▸ spec_TakeVar r1 (by unfold maxLen; omega) wx
        clear h1 h2 lost1 lost2 e1 e2 cE
        by_cases hc1 : 1000000000000 < n1
        · clear hc
          go_enter Try.func14, Try.ntmps14
          go_wp2_with fail
          generalize w.alloc (.cells #[.int .i64 0, .slice none 0 0] 26) = W at hB0 hF0 ⊢
          refine (c1 _).mono ?_
          rintro e w1 ⟨rfl, hb1⟩
          have hF1 := hF0.next hb1
          have hB1 := hB0.trans (hb1.mono hB0.size)
          clear c1 hb1
          go_wp2_with fail
          refine (c2 _).mono ?_
          rintro e w2 ⟨rfl, hb2⟩
          have hF2 := hF1.next hb2
          have HB2 := hide (hB1.trans (hb2.mono hB1.size))
          have q0 : w2.cell? ⟨w.heap.size, 0, none⟩ = some (.int .i64 0) := hF2.cell 0
          have q1 : w2.cell? ⟨w.heap.size, 1, none⟩ = some (.slice none 0 0) := hF2.cell 1
          have qf := hF2.free
          clear c2 hb2 hF0 hB0 hF1 hB1 hF2
          go_wp2
          refine bodyPost_ret (v := badB) (by simp [results, Try.results14, go_sem, q0, q1, badB]) rfl (bad_end HV.out ?_)
          exact (HB2.out.setCell (Nat.le_refl _) _).setCell (Nat.le_refl _) _
        · have hc2 : 20 < n2 := by omega
          clear hc
          go_enter Try.func14, Try.ntmps14
          go_wp2_with fail
          generalize w.alloc (.cells #[.int .i64 0, .slice none 0 0] 26) = W at hB0 hF0 ⊢
          refine (c1 _).mono ?_
          rintro e w1 ⟨rfl, hb1⟩
          have hF1 := hF0.next hb1
          have hB1 := hB0.trans (hb1.mono hB0.size)
          clear c1 hb1
          go_wp2_with fail
          refine (c2 _).mono ?_
          rintro e w2 ⟨rfl, hb2⟩
          have hF2 := hF1.next hb2
          have HB2 := hide (hB1.trans (hb2.mono hB1.size))
          have q0 : w2.cell? ⟨w.heap.size, 0, none⟩ = some (.int .i64 0) := hF2.cell 0
          have q1 : w2.cell? ⟨w.heap.size, 1, none⟩ = some (.slice none 0 0) := hF2.cell 1
          have qf := hF2.free
          clear c2 hb2 hF0 hB0 hF1 hB1 hF2
          go_wp2
          refine bodyPost_ret (v := badB) (by simp [results, Try.results14, go_sem, q0, q1, badB]) rfl (bad_end HV.out ?_)
          exact (HB2.out.setCell (Nat.le_refl _) _).setCell (Nat.le_refl _) _
      · exact spec_ReadBatch_loop s hs w n1 k1 r1 n2 k2 r0 h1 e1 h2 e2 (fun h => hc (.inl h)) (fun h => hc (.inr h))

end Go.Proofs.Ytljmfdcilnbjaab
