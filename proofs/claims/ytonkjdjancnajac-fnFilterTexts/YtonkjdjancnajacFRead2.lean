/- ReadFilter of the program: by its small reader. -/
import Derived.Test.YtonkjdjancnajacFRead
import Derived.Test.YtonkjdjancnajacRdr
import Derived.Test.YtonkjdjancnajacBox
namespace Go.Proofs.Ytonkjdjancnajac
set_option maxRecDepth 100000
open Go.RowKit

/-- What the reader finds, put together. -/
def readF (s : ByteArray) : Value :=
  let a := rnum s
  let b := rnum a.2.1
  let c := rnum b.2.1
  let d := rtext c.2.1
  if (!(((false || a.2.2) || b.2.2 || c.2.2) || d.2.2) && decide (d.2.1.size = 0)) = true ∧ filterOkB a.1 b.1 c.1 d.1 = true
  then .tuple #[.agg #[.int .i64 a.1, .int .i64 b.1, .int .i64 c.1, .string d.1], .bool true] else badF

theorem rnum_empty : rnum ⟨#[]⟩ = (0, ⟨#[]⟩, true) := rnum_none tva_empty

theorem rnum_cases (r : ByteArray) : (rnum r).2.2 = true ∨ ∃ n k, tva r 10 0 0 = some (n, k) ∧ rnum r = (n, r.extract k r.size, false) := by
  cases h : tva r 10 0 0 with
  | none => rw [rnum_none h]; exact .inl rfl
  | some x =>
    obtain ⟨n, k⟩ := x
    by_cases hn : 9223372036854775807 < n
    · rw [rnum_big h hn]; exact .inl rfl
    · exact .inr ⟨n, k, rfl, rnum_some h hn⟩

theorem rtext_cases (r : ByteArray) : (rtext r).2.2 = true ∨ ∃ m k : Nat, tva r 10 0 0 = some ((m : Int), k) ∧ ¬ (60000 < (m : Int) ∨ (r.size : Int) < k + m) ∧ rtext r = (r.extract k (k + m), r.extract (k + m) r.size, false) := by
  cases h : rtx r with
  | none => rw [rtext_none h]; exact .inl rfl
  | some x =>
    obtain ⟨k, e⟩ := x
    obtain ⟨m, rfl, h1, h2⟩ := rtx_some h
    exact .inr ⟨m, k, h1, h2, rtext_some h⟩

/-- All that the reader finds there is a way through ReadFilter. -/
theorem rf_of_yes {s : ByteArray} {n1 n2 n3 : Int} {r1 r2 r3 bs r4 : ByteArray} (h1 : rnum s = (n1, r1, false)) (h2 : rnum r1 = (n2, r2, false)) (h3 : rnum r2 = (n3, r3, false)) (h4 : rtext r3 = (bs, r4, false)) (h5 : r4.size = 0) (h6 : filterOkB n1 n2 n3 bs = true) :
    RF s (.tuple #[.agg #[.int .i64 n1, .int .i64 n2, .int .i64 n3, .string bs], .bool true]) := by
  obtain h | ⟨n1', k1, t1, e1⟩ := rnum_cases s
  · rw [h1] at h; cases h
  obtain h | ⟨n2', k2, t2, e2⟩ := rnum_cases r1
  · rw [h2] at h; cases h
  obtain h | ⟨n3', k3, t3, e3⟩ := rnum_cases r2
  · rw [h3] at h; cases h
  obtain h | ⟨m, k, t4, t5, e4⟩ := rtext_cases r3
  · rw [h4] at h; cases h
  rw [h1] at e1; rw [h2] at e2; rw [h3] at e3; rw [h4] at e4
  simp only [Prod.mk.injEq, and_true] at e1 e2 e3 e4
  obtain ⟨rfl, e1⟩ := e1
  obtain ⟨rfl, e2⟩ := e2
  obtain ⟨rfl, e3⟩ := e3
  obtain ⟨e4, e5⟩ := e4
  rw [e5] at h5
  have hk : k + m = r3.size := by simp at h5; omega
  exact .ok n1 k1 r1 n2 k2 r2 n3 k3 r3 m k bs t1 e1.symm t2 e2.symm t3 e3.symm t4 t5 hk (by rw [e4, hk]) h6

/-- A way through ReadFilter that tells a filter is one on which the reader finds all. -/
theorem rf_yes {s : ByteArray} {v : Value} (h : RF s v) : v = readF s := by
  have lost : ∀ {n : Int} {k : Nat} {r t : ByteArray}, tva t 10 0 0 = some (n, k) → t.extract k t.size = r → (rnum t).2.2 = true ∨ rnum t = (n, r, false) := by
    intro n k r t h1 h2
    obtain h | ⟨n', k', h3, h4⟩ := rnum_cases t
    · exact .inl h
    · rw [h1] at h3
      simp only [Option.some.injEq, Prod.mk.injEq] at h3
      obtain ⟨rfl, rfl⟩ := h3
      exact .inr (by rw [h4, h2])
  have no1 : (rnum s).2.2 = true → badF = readF s := fun h => by rw [readF]; simp [h]
  have no2 : (rnum (rnum s).2.1).2.2 = true → badF = readF s := fun h => by rw [readF]; simp [h]
  have no3 : (rnum (rnum (rnum s).2.1).2.1).2.2 = true → badF = readF s := fun h => by rw [readF]; simp [h]
  have no4 : (rtext (rnum (rnum (rnum s).2.1).2.1).2.1).2.2 = true → badF = readF s := fun h => by rw [readF]; simp [h]
  have no5 : (rtext (rnum (rnum (rnum s).2.1).2.1).2.1).2.1.size ≠ 0 → badF = readF s := fun h => by rw [readF]; simp [h]
  have no6 : filterOkB (rnum s).1 (rnum (rnum s).2.1).1 (rnum (rnum (rnum s).2.1).2.1).1 (rtext (rnum (rnum (rnum s).2.1).2.1).2.1).1 = false → badF = readF s := fun h => by rw [readF]; simp [h]
  cases h
  case f1 h1 => exact no1 (by rw [rnum_none h1])
  case f2 n1 k1 r1 h1 e1 h2 =>
    obtain h | h := lost h1 e1
    · exact no1 h
    · exact no2 (by rw [h, rnum_none h2])
  case f3 n1 k1 r1 n2 k2 r2 h1 e1 h2 e2 h3 =>
    obtain h | h := lost h1 e1
    · exact no1 h
    obtain h' | h' := lost h2 e2
    · exact no2 (by rw [h]; exact h')
    · exact no3 (by rw [h]; show (rnum (rnum r1).2.1).2.2 = true; rw [h', rnum_none h3])
  case f4 n1 k1 r1 n2 k2 r2 n3 k3 r3 h1 e1 h2 e2 h3 e3 h4 =>
    obtain h | h := lost h1 e1
    · exact no1 h
    obtain h' | h' := lost h2 e2
    · exact no2 (by rw [h]; exact h')
    obtain h'' | h'' := lost h3 e3
    · exact no3 (by rw [h]; show (rnum (rnum r1).2.1).2.2 = true; rw [h']; exact h'')
    · refine no4 ?_
      rw [h]; show (rtext (rnum (rnum r1).2.1).2.1).2.2 = true
      rw [h']; show (rtext (rnum r2).2.1).2.2 = true
      rw [h'']; show (rtext r3).2.2 = true
      obtain hq | ⟨m, k, t4, t5, _⟩ := rtext_cases r3
      · exact hq
      · exact absurd (h4 _ _ t4) t5
  case f5 n1 k1 r1 n2 k2 r2 n3 k3 r3 m k h1 e1 h2 e2 h3 e3 h4 h5 h6 =>
    obtain h | h := lost h1 e1
    · exact no1 h
    obtain h' | h' := lost h2 e2
    · exact no2 (by rw [h]; exact h')
    obtain h'' | h'' := lost h3 e3
    · exact no3 (by rw [h]; show (rnum (rnum r1).2.1).2.2 = true; rw [h']; exact h'')
    · refine no5 ?_
      rw [h]; show (rtext (rnum (rnum r1).2.1).2.1).2.1.size ≠ 0
      rw [h']; show (rtext (rnum r2).2.1).2.1.size ≠ 0
      rw [h'']; show (rtext r3).2.1.size ≠ 0
      obtain hq | ⟨m', k', t4, t5, t6⟩ := rtext_cases r3
      · have : rtx r3 = some (k, k + m) := by rw [rtx, h4]; simp only [if_neg h5]; simp
        rw [rtext_some this] at hq; cases hq
      · rw [h4] at t4
        simp only [Option.some.injEq, Prod.mk.injEq] at t4
        obtain ⟨t4, rfl⟩ := t4
        obtain rfl : m' = m := by omega
        rw [t6]
        simp
        omega
  case f6 n1 k1 r1 n2 k2 r2 n3 k3 r3 m k bs h1 e1 h2 e2 h3 e3 h4 h5 h6 e4 h7 =>
    obtain h | h := lost h1 e1
    · exact no1 h
    obtain h' | h' := lost h2 e2
    · exact no2 (by rw [h]; exact h')
    obtain h'' | h'' := lost h3 e3
    · exact no3 (by rw [h]; show (rnum (rnum r1).2.1).2.2 = true; rw [h']; exact h'')
    · refine no6 ?_
      have : rtext r3 = (bs, ⟨#[]⟩, false) := by
        have : rtx r3 = some (k, k + m) := by rw [rtx, h4]; simp only [if_neg h5]; simp
        rw [rtext_some this, h6, e4, extract_all r3 r3.size rfl]
      simp only [h, h', h'', this]
      exact h7
  case ok n1 k1 r1 n2 k2 r2 n3 k3 r3 m k bs h1 e1 h2 e2 h3 e3 h4 h5 h6 e4 h7 =>
    obtain ⟨p0, p1, p2, p3, p4, p5, _⟩ := filterOk_bd h7
    have y1 : rnum s = (n1, r1, false) := by rw [rnum_some h1 (by omega), e1]
    have y2 : rnum r1 = (n2, r2, false) := by rw [rnum_some h2 (by omega), e2]
    have y3 : rnum r2 = (n3, r3, false) := by rw [rnum_some h3 (by omega), e3]
    have y4 : rtext r3 = (bs, ⟨#[]⟩, false) := by
      have : rtx r3 = some (k, k + m) := by rw [rtx, h4]; simp only [if_neg h5]; simp
      rw [rtext_some this, h6, e4, extract_all r3 r3.size rfl]
    rw [readF]
    simp only [y1, y2, y3, y4]
    have h0 : (⟨#[]⟩ : ByteArray).size = 0 := rfl
    rw [h0]
    simp [h7]

set_option maxHeartbeats 4000000 in
theorem impl_ReadFilterR (s : ByteArray) (hs : s.size ≤ 1048576) (w : World) :
    Calls Try.prog 17 #[.string s] w fun e w' => e = .returned (readF s) ∧ Below w.heap.size w w' := by
  obtain ⟨a, ha⟩ : ∃ a, rnum s = a := ⟨_, rfl⟩
  obtain ⟨b, hb⟩ : ∃ b, rnum a.2.1 = b := ⟨_, rfl⟩
  obtain ⟨c, hc⟩ : ∃ c, rnum b.2.1 = c := ⟨_, rfl⟩
  obtain ⟨d, hd⟩ : ∃ d, rtext c.2.1 = d := ⟨_, rfl⟩
  have za := (rnum_bd s).1
  rw [ha] at za
  have zb := (rnum_bd a.2.1).1
  rw [hb] at zb
  have zc := (rnum_bd b.2.1).1
  rw [hc] at zc
  have zd := (rtext_bd c.2.1)
  rw [hd] at zd
  have hR : readF s = if (!(((false || a.2.2) || b.2.2 || c.2.2) || d.2.2) && decide (d.2.1.size = 0)) = true ∧ filterOkB a.1 b.1 c.1 d.1 = true
      then .tuple #[.agg #[.int .i64 a.1, .int .i64 b.1, .int .i64 c.1, .string d.1], .bool true] else badF := by
    rw [readF]; simp only [ha, hb, hc, hd]
  have c1 := fun w g m h => ha ▸ rdr_number w g s m hs h
  have c2 := fun w g m h => hb ▸ rdr_number w g a.2.1 m (by omega) h
  have c3 := fun w g m h => hc ▸ rdr_number w g b.2.1 m (by omega) h
  have c4 := fun w g m h => hd ▸ rdr_text w g c.2.1 m (by omega) h
  obtain ⟨n1, r1, l1⟩ := a
  obtain ⟨n2, r2, l2⟩ := b
  obtain ⟨n3, r3, l3⟩ := c
  obtain ⟨bs, r4, l4⟩ := d
  clear ha hb hc hd
  simp only at c1 c2 c3 c4 za zb zc zd hR
  have HR : Hid _ := hide hR
  clear hR
  have hN : RdrAt ((w.alloc (.cells #[.int .i64 0, .int .i64 0, .int .i64 0, .string ⟨#[]⟩] 36)).alloc (.cells #[.string s, .bool false] 62)) (w.heap.size + 1) s false := by
    have e : (w.alloc (.cells #[.int .i64 0, .int .i64 0, .int .i64 0, .string ⟨#[]⟩] 36)).heap.size = w.heap.size + 1 := by simp
    rw [← e]
    exact RdrAt.new _ _ _
  have hF : BoxIs ((w.alloc (.cells #[.int .i64 0, .int .i64 0, .int .i64 0, .string ⟨#[]⟩] 36)).alloc (.cells #[.string s, .bool false] 62)) w.heap.size #[.int .i64 0, .int .i64 0, .int .i64 0, .string ⟨#[]⟩] 36 :=
    (BoxIs.new w _ _ rfl).below ((Below.refl _ _).alloc (Nat.le_refl _) _) (by simp)
  have hB0 : Below w.heap.size w ((w.alloc (.cells #[.int .i64 0, .int .i64 0, .int .i64 0, .string ⟨#[]⟩] 36)).alloc (.cells #[.string s, .bool false] 62)) := ((Below.refl _ _).alloc (Nat.le_refl _) _).alloc (by simp) _
  go_enter Try.func17, Try.ntmps17
  go_wp2_with fail
  generalize (w.alloc (.cells #[.int .i64 0, .int .i64 0, .int .i64 0, .string ⟨#[]⟩] 36)).alloc (.cells #[.string s, .bool false] 62) = W at hN hF hB0 ⊢
  refine (c1 _ _ _ hN).mono ?_
  rintro e w1 ⟨rfl, hN1, hM1⟩
  clear c1
  go_wp2_with fail
  refine (c2 _ _ _ hN1).mono ?_
  rintro e w2 ⟨rfl, hN2, hM2⟩
  clear c2 hN1
  go_wp2_with fail
  refine (c3 _ _ _ hN2).mono ?_
  rintro e w3 ⟨rfl, hN3, hM3⟩
  clear c3 hN2
  go_wp2_with fail
  refine (c4 _ _ _ hN3).mono ?_
  rintro e w4 ⟨rfl, hN4, hM4⟩
  clear c4 hN3 hN
  have hM := ((hM1.trans hM2).trans hM3).trans hM4
  have HF : Hid _ := (hF.mv hM (by omega)).hid
  have HB : Hid (Below w.heap.size w w4) := hB0.trans (hM.below hB0.size (by omega))
  have HN : Hid (RdrAt w4 (w.heap.size + 1) r4 ((((false || l1) || l2) || l3) || l4)) := hN4
  have hlt := hN4.lt
  have hbox := (BoxIs.new w4 #[.int .i64 n1, .int .i64 n2, .int .i64 n3, .string bs] 36 rfl)
  have hb5 := (Below.refl w4.heap.size w4).alloc (Nat.le_refl _) (.cells #[.int .i64 n1, .int .i64 n2, .int .i64 n3, .string bs] 36)
  clear hM hM1 hM2 hM3 hM4 hN4 hF hB0
  go_wp2_with fail
  generalize w4.alloc (.cells #[.int .i64 n1, .int .i64 n2, .int .i64 n3, .string bs] 36) = W5 at hbox hb5 ⊢
  have HB5 : Hid (Below w.heap.size w W5) := HB.out.trans (hb5.mono HB.out.size)
  have HF5 : Hid _ := (HF.out.next hb5).hid
  have HN5 : Hid _ := hide (HN.out.below hb5 hlt)
  clear HB HF HN hb5
  have hbox0 : W5.cell? ⟨w4.heap.size, 0, none⟩ = some (.int .i64 n1) := hbox.cell 0
  have hbox1 : W5.cell? ⟨w4.heap.size, 1, none⟩ = some (.int .i64 n2) := hbox.cell 1
  have hbox2 : W5.cell? ⟨w4.heap.size, 2, none⟩ = some (.int .i64 n3) := hbox.cell 2
  have hbox3 : W5.cell? ⟨w4.heap.size, 3, none⟩ = some (.string bs) := hbox.cell 3
  have HX : Hid _ := hbox.hid
  have o0 : W5.cell? ⟨w.heap.size, 0, none⟩ = some (.int .i64 0) := HF5.out.cell 0
  have o1 : W5.cell? ⟨w.heap.size, 1, none⟩ = some (.int .i64 0) := HF5.out.cell 1
  have o2 : W5.cell? ⟨w.heap.size, 2, none⟩ = some (.int .i64 0) := HF5.out.cell 2
  have o3 : W5.cell? ⟨w.heap.size, 3, none⟩ = some (.string ⟨#[]⟩) := HF5.out.cell 3
  have of := HF5.out.free
  clear hbox
  cases hall : (!((((false || l1) || l2) || l3) || l4) && decide (r4.size = 0)) with
  | false =>
    have cd := fun (w' : World) (h : RdrAt w' (w.heap.size + 1) r4 ((((false || l1) || l2) || l3) || l4)) => hall ▸ rdr_done w' (w.heap.size + 1) r4 _ h
    have HV : Hid (badF = readF s) := by rw [HR.out, if_neg (by rw [hall]; rintro ⟨h, _⟩; cases h)]; rfl
    clear hall HR
    refine (cd _ HN5.out).mono ?_
    rintro e w6 ⟨rfl, rfl⟩
    clear cd
    go_wp2
    refine bodyPost_ret (v := badF) (by simp [results, Try.results17, go_sem, o0, o1, o2, o3, badF]) rfl ⟨by rw [HV.out], ?_⟩
    exact ((((HB5.out.setCell (Nat.le_refl _) _).setCell (Nat.le_refl _) _).setCell (Nat.le_refl _) _).setCell (Nat.le_refl _) _)
  | true =>
    have cd := fun (w' : World) (h : RdrAt w' (w.heap.size + 1) r4 ((((false || l1) || l2) || l3) || l4)) => hall ▸ rdr_done w' (w.heap.size + 1) r4 _ h
    cases hok : filterOkB n1 n2 n3 bs with
    | false =>
      have co := fun wx => hok ▸ impl_FilterOk n1 n2 n3 bs (by unfold maxLen; omega) wx
      have HV : Hid (badF = readF s) := by rw [HR.out, if_neg (by rw [hok]; rintro ⟨_, h⟩; cases h)]; rfl
      clear hall HR hok
      refine (cd _ HN5.out).mono ?_
      rintro e w6 ⟨rfl, rfl⟩
      clear cd
      go_wp2_with fail
      refine (co _).mono ?_
      rintro e w7 ⟨rfl, hb7⟩
      have HB7 : Hid (Below w.heap.size w w7) := HB5.out.trans (hb7.mono HB5.out.size)
      have hF7 := HF5.out.next hb7
      have q0 : w7.cell? ⟨w.heap.size, 0, none⟩ = some (.int .i64 0) := hF7.cell 0
      have q1 : w7.cell? ⟨w.heap.size, 1, none⟩ = some (.int .i64 0) := hF7.cell 1
      have q2 : w7.cell? ⟨w.heap.size, 2, none⟩ = some (.int .i64 0) := hF7.cell 2
      have q3 : w7.cell? ⟨w.heap.size, 3, none⟩ = some (.string ⟨#[]⟩) := hF7.cell 3
      have qf := hF7.free
      clear hb7 hF7 HB5 co o0 o1 o2 o3 of hbox0 hbox1 hbox2 hbox3
      go_wp2
      refine bodyPost_ret (v := badF) (by simp [results, Try.results17, go_sem, q0, q1, q2, q3, badF]) rfl ⟨by rw [HV.out], ?_⟩
      exact ((((HB7.out.setCell (Nat.le_refl _) _).setCell (Nat.le_refl _) _).setCell (Nat.le_refl _) _).setCell (Nat.le_refl _) _)
    | true =>
      have co := fun wx => hok ▸ impl_FilterOk n1 n2 n3 bs (by unfold maxLen; omega) wx
      have HV : Hid (.tuple #[.agg #[.int .i64 n1, .int .i64 n2, .int .i64 n3, .string bs], .bool true] = readF s) := by rw [HR.out, if_pos ⟨hall, hok⟩]; rfl
      clear hall HR hok
      refine (cd _ HN5.out).mono ?_
      rintro e w6 ⟨rfl, rfl⟩
      clear cd
      go_wp2_with fail
      refine (co _).mono ?_
      rintro e w7 ⟨rfl, hb7⟩
      have HB7 : Hid (Below w.heap.size w w7) := HB5.out.trans (hb7.mono HB5.out.size)
      have hF7 := HF5.out.next hb7
      have hX7 := HX.out.next hb7
      have q0 : w7.cell? ⟨w.heap.size, 0, none⟩ = some (.int .i64 0) := hF7.cell 0
      have q1 : w7.cell? ⟨w.heap.size, 1, none⟩ = some (.int .i64 0) := hF7.cell 1
      have q2 : w7.cell? ⟨w.heap.size, 2, none⟩ = some (.int .i64 0) := hF7.cell 2
      have q3 : w7.cell? ⟨w.heap.size, 3, none⟩ = some (.string ⟨#[]⟩) := hF7.cell 3
      have qf := hF7.free
      have x0 : w7.cell? ⟨w4.heap.size, 0, none⟩ = some (.int .i64 n1) := hX7.cell 0
      have x1 : w7.cell? ⟨w4.heap.size, 1, none⟩ = some (.int .i64 n2) := hX7.cell 1
      have x2 : w7.cell? ⟨w4.heap.size, 2, none⟩ = some (.int .i64 n3) := hX7.cell 2
      have x3 : w7.cell? ⟨w4.heap.size, 3, none⟩ = some (.string bs) := hX7.cell 3
      clear hb7 hF7 hX7 HB5 co o0 o1 o2 o3 of hbox0 hbox1 hbox2 hbox3
      go_wp2
      refine bodyPost_ret (v := .tuple #[.agg #[.int .i64 n1, .int .i64 n2, .int .i64 n3, .string bs], .bool true]) (by simp [results, Try.results17, go_sem, q0, q1, q2, q3]) rfl ⟨by rw [HV.out], ?_⟩
      exact ((((HB7.out.setCell (Nat.le_refl _) _).setCell (Nat.le_refl _) _).setCell (Nat.le_refl _) _).setCell (Nat.le_refl _) _)

theorem impl_ReadFilter (s : ByteArray) (hs : s.size ≤ 1048576) {v : Value} (h : RF s v) (w : World) :
    Calls Try.prog 17 #[.string s] w fun e w' => e = .returned v ∧ Below w.heap.size w w' := by
  rw [rf_yes h]
  exact impl_ReadFilterR s hs w

end Go.Proofs.Ytonkjdjancnajac
