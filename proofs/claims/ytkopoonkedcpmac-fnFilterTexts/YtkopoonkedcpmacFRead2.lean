/- ReadFilter of the program. -/
import Derived.Test.YtkopoonkedcpmacFRead
import Derived.Deep.RegionHeld3
namespace Go.Proofs.Ytkopoonkedcpmac
open Go.RowKit

theorem wrap64_small {n : Int} (h0 : 0 ≤ n) (h1 : n < 18446744073709551616) (h2 : 0 ≤ wrap64 n) : wrap64 n = n := by
  unfold wrap64 at *; omega

theorem filterOk_wrap {n1 n2 n3 : Int} {bs : ByteArray} (a1 : 0 ≤ n1) (b1 : n1 < 18446744073709551616) (a2 : 0 ≤ n2) (b2 : n2 < 18446744073709551616) (a3 : 0 ≤ n3) (b3 : n3 < 18446744073709551616) (h : filterOkB n1 n2 n3 bs = false) :
    filterOkB (wrap64 n1) (wrap64 n2) (wrap64 n3) bs = false := by
  rw [Bool.eq_false_iff]
  intro e
  obtain ⟨c1, _, c2, _, c3, _, _⟩ := filterOk_bd e
  rw [wrap64_small a1 b1 c1, wrap64_small a2 b2 c2, wrap64_small a3 b3 c3, h] at e
  cases e

/-- A call behind which what S says still holds. -/
theorem held_callS {P : Program} {f : FuncId} {args : Array Value} {w2 : World} {v : Value} {S : World → Prop} (hk : ∀ a b, S a → Below a.heap.size a b → S b) (hS : S w2)
    (h : Calls P f args w2 fun e w' => e = .returned v ∧ Below w2.heap.size w2 w') : Calls P f args w2 fun e w' => e = .returned v ∧ S w' ∧ Hid (Below w2.heap.size w2 w') :=
  h.mono fun _ _ h => ⟨h.1, hk _ _ hS h.2, h.2⟩

theorem keepG {W : World} {b : Nat} {x0 x1 x2 : Value} (hbW : b < W.heap.size) (wa wb : World) (h : wa.cell? ⟨b, 0, none⟩ = some x0 ∧ wa.cell? ⟨b, 1, none⟩ = some x1 ∧ wa.cell? ⟨b, 2, none⟩ = some x2 ∧ Hid (Below W.heap.size W wa)) (hb : Below W.heap.size wa wb) :
    wb.cell? ⟨b, 0, none⟩ = some x0 ∧ wb.cell? ⟨b, 1, none⟩ = some x1 ∧ wb.cell? ⟨b, 2, none⟩ = some x2 ∧ Hid (Below W.heap.size W wb) := by
  obtain ⟨c0, c1, c2, hB⟩ := h
  refine ⟨?_, ?_, ?_, hB.out.trans hb⟩
  · rw [hb.cell (p := ⟨b, 0, none⟩) hbW]; exact c0
  · rw [hb.cell (p := ⟨b, 1, none⟩) hbW]; exact c1
  · rw [hb.cell (p := ⟨b, 2, none⟩) hbW]; exact c2

theorem keepG_call {W : World} {b : Nat} {x0 x1 x2 : Value} (hbW : b < W.heap.size) (wa wb : World) (h : wa.cell? ⟨b, 0, none⟩ = some x0 ∧ wa.cell? ⟨b, 1, none⟩ = some x1 ∧ wa.cell? ⟨b, 2, none⟩ = some x2 ∧ Hid (Below W.heap.size W wa)) (hb : Below wa.heap.size wa wb) :
    wb.cell? ⟨b, 0, none⟩ = some x0 ∧ wb.cell? ⟨b, 1, none⟩ = some x1 ∧ wb.cell? ⟨b, 2, none⟩ = some x2 ∧ Hid (Below W.heap.size W wb) :=
  keepG hbW wa wb h (hb.mono h.2.2.2.out.size)

theorem below_alloc_drew (W : World) (o : Obj) : Below W.heap.size W.drew (W.alloc o).drew :=
  ⟨rfl, rfl, rfl, by show W.heap.size ≤ (W.alloc o).heap.size; simp, fun k hk => Below.heap_alloc W o k hk⟩

theorem below_set4 (W w1 : World) (x0 x1 x2 x3 : Value) : Below W.heap.size w1 ((((w1.setCell ⟨W.heap.size, 0, none⟩ x0).setCell ⟨W.heap.size, 1, none⟩ x1).setCell ⟨W.heap.size, 2, none⟩ x2).setCell ⟨W.heap.size, 3, none⟩ x3) :=
  ((((Below.refl _ _).setCell (p := ⟨W.heap.size, 0, none⟩) (Nat.le_refl _) _).setCell (p := ⟨W.heap.size, 1, none⟩) (Nat.le_refl _) _).setCell (p := ⟨W.heap.size, 2, none⟩) (Nat.le_refl _) _).setCell (p := ⟨W.heap.size, 3, none⟩) (Nat.le_refl _) _

theorem kbox_held {W w1 : World} {x0 x1 x2 x3 : Value} {T : TypeId} (h : Hid (Below (W.alloc (.cells #[x0, x1, x2, x3] T)).drew.heap.size (W.alloc (.cells #[x0, x1, x2, x3] T)).drew w1)) :
    w1.cell? ⟨W.heap.size, 0, none⟩ = some x0 ∧ w1.cell? ⟨W.heap.size, 1, none⟩ = some x1 ∧ w1.cell? ⟨W.heap.size, 2, none⟩ = some x2 ∧ w1.cell? ⟨W.heap.size, 3, none⟩ = some x3 ∧ (∀ o, w1.frozen? ⟨W.heap.size, o, none⟩ = false) ∧ W.heap.size < w1.heap.size := by
  have hz : W.heap.size < (W.alloc (.cells #[x0, x1, x2, x3] T)).drew.heap.size := by show W.heap.size < (W.alloc _).heap.size; simp
  refine ⟨?_, ?_, ?_, ?_, fun o => ?_, Nat.lt_of_lt_of_le hz h.out.size⟩
  · rw [h.out.cell (p := ⟨W.heap.size, 0, none⟩) hz, World.cell?_drew]; simp
  · rw [h.out.cell (p := ⟨W.heap.size, 1, none⟩) hz, World.cell?_drew]; simp
  · rw [h.out.cell (p := ⟨W.heap.size, 2, none⟩) hz, World.cell?_drew]; simp
  · rw [h.out.cell (p := ⟨W.heap.size, 3, none⟩) hz, World.cell?_drew]; simp
  · rw [h.out.frozen (p := ⟨W.heap.size, o, none⟩) hz]
    show (W.alloc _).frozen? _ = false
    exact World.frozen?_alloc_at _ _ _ _ rfl

set_option maxHeartbeats 4000000 in
set_option maxRecDepth 100000 in
theorem impl_ReadFilter_f6 (s : ByteArray) (hs : s.size ≤ 1048576) (hm : s.size ≤ maxLen) (n1 : Int) (k1 : Nat) (r1 : ByteArray) (n2 : Int) (k2 : Nat) (r2 : ByteArray) (n3 : Int) (k3 : Nat) (r3 : ByteArray) (m k : Nat) (bs : ByteArray) (h1 : tva s 10 0 0 = some (n1, k1)) (e1 : s.extract k1 s.size = r1) (h2 : tva r1 10 0 0 = some (n2, k2)) (e2 : r1.extract k2 r1.size = r2)
    (h3 : tva r2 10 0 0 = some (n3, k3)) (e3 : r2.extract k3 r2.size = r3) (h4 : tva r3 10 0 0 = some ((m : Int), k)) (h5 : ¬ (60000 < (m : Int) ∨ (r3.size : Int) < k + m)) (h6 : k + m = r3.size) (e4 : r3.extract k r3.size = bs) (h7 : filterOkB n1 n2 n3 bs = false) (w : World) :
    Calls Try.prog 20 #[.string s] w fun e w' => e = .returned (badF) ∧ Below w.heap.size w w' := by
  have t1 := varAt_some h1
  obtain ⟨u1, v1⟩ := tva_le s 10 0 0 h1
  have z1 : ((k1 : Int) == 0) = false := by simp; omega
  have q1 : (k1 : Int) ≤ (s.size : Int) := by omega
  have t2 := varAt_some h2
  obtain ⟨u2, v2⟩ := tva_le r1 10 0 0 h2
  have z2 : ((k2 : Int) == 0) = false := by simp; omega
  have q2 : (k2 : Int) ≤ (r1.size : Int) := by omega
  have t3 := varAt_some h3
  obtain ⟨u3, v3⟩ := tva_le r2 10 0 0 h3
  have z3 : ((k3 : Int) == 0) = false := by simp; omega
  have q3 : (k3 : Int) ≤ (r2.size : Int) := by omega
  have hr1 : r1.size ≤ 1048576 := by rw [← e1]; have := extract_size_le s k1; omega
  have hm1 : r1.size ≤ maxLen := by unfold maxLen; omega
  have hr2 : r2.size ≤ 1048576 := by rw [← e2]; have := extract_size_le r1 k2; omega
  have hm2 : r2.size ≤ maxLen := by unfold maxLen; omega
  have hr3 : r3.size ≤ 1048576 := by rw [← e3]; have := extract_size_le r2 k3; omega
  have H4 : Hid (tva r3 10 0 0 = some ((m : Int), k)) := h4
  have H5 : Hid (¬ (60000 < (m : Int) ∨ (r3.size : Int) < k + m)) := h5
  have hcl : bs.size ≤ 281474976710656 := by rw [← e4]; simp; omega
  have hbs : bs.size ≤ maxLen := by unfold maxLen; omega
  have g4 : r3.extract k ((k : Int) + (m : Int)).toNat = bs := by rw [show ((k : Int) + (m : Int)).toNat = r3.size by omega, e4]
  have g6 : (k : Int) + (m : Int) ≤ (r3.size : Int) := by omega
  have g7 : (r3.size : Int) ≤ (k : Int) + (m : Int) := by omega
  have g8 : (k : Int) ≤ (k : Int) + (m : Int) := by omega
  obtain ⟨a1, b1, _⟩ := put_take s h1
  obtain ⟨a2, b2, _⟩ := put_take r1 h2
  obtain ⟨a3, b3, _⟩ := put_take r2 h3
  have hq := filterOk_wrap a1 b1 a2 b2 a3 b3 h7
  clear h1 h2 h3 h4 h5 h6 h7 a1 b1 a2 b2 a3 b3 e4
  go_enter Try.func20, Try.ntmps20
  go_wp2
  refine wp_loop_rounds 4 ?_
  rw [rounds_succ]
  go_wp2_with fail
  refine (impl_varAt_x s hm _).mono ?_
  rintro e w1 ⟨rfl, rfl⟩
  go_wp2
  rw [rounds_succ]
  go_wp2_with fail
  refine (impl_varAt_x r1 hm1 _).mono ?_
  rintro e w1 ⟨rfl, rfl⟩
  go_wp2
  rw [rounds_succ]
  go_wp2_with fail
  refine (impl_varAt_x r2 hm2 _).mono ?_
  rintro e w1 ⟨rfl, rfl⟩
  go_wp2
  rw [rounds_succ]
  go_wp2_with fail
  refine (impl_textAt_yes_x r3 hr3 m k H4.out H5.out _).mono ?_
  rintro e w1 ⟨rfl, rfl⟩
  go_wp2_with fail
  have hstart : ((w.alloc (.cells #[.int .i64 0, .int .i64 0, .int .i64 0, .string ⟨#[]⟩] 25)).alloc (.cells #[.int .i64 (wrap64 n1), .int .i64 (wrap64 n2), .int .i64 (wrap64 n3)] 64)).drew.cell? ⟨w.heap.size + 1, 0, none⟩ = some (.int .i64 (wrap64 n1)) ∧ ((w.alloc (.cells #[.int .i64 0, .int .i64 0, .int .i64 0, .string ⟨#[]⟩] 25)).alloc (.cells #[.int .i64 (wrap64 n1), .int .i64 (wrap64 n2), .int .i64 (wrap64 n3)] 64)).drew.cell? ⟨w.heap.size + 1, 1, none⟩ = some (.int .i64 (wrap64 n2)) ∧ ((w.alloc (.cells #[.int .i64 0, .int .i64 0, .int .i64 0, .string ⟨#[]⟩] 25)).alloc (.cells #[.int .i64 (wrap64 n1), .int .i64 (wrap64 n2), .int .i64 (wrap64 n3)] 64)).drew.cell? ⟨w.heap.size + 1, 2, none⟩ = some (.int .i64 (wrap64 n3)) ∧ Hid (Below ((w.alloc (.cells #[.int .i64 0, .int .i64 0, .int .i64 0, .string ⟨#[]⟩] 25)).alloc (.cells #[.int .i64 (wrap64 n1), .int .i64 (wrap64 n2), .int .i64 (wrap64 n3)] 64)).heap.size ((w.alloc (.cells #[.int .i64 0, .int .i64 0, .int .i64 0, .string ⟨#[]⟩] 25)).alloc (.cells #[.int .i64 (wrap64 n1), .int .i64 (wrap64 n2), .int .i64 (wrap64 n3)] 64)) ((w.alloc (.cells #[.int .i64 0, .int .i64 0, .int .i64 0, .string ⟨#[]⟩] 25)).alloc (.cells #[.int .i64 (wrap64 n1), .int .i64 (wrap64 n2), .int .i64 (wrap64 n3)] 64)).drew) := by
    refine ⟨?_, ?_, ?_, (Below.refl _ _).drew⟩
    · rw [World.cell?_drew]; simp
    · rw [World.cell?_drew]; simp
    · rw [World.cell?_drew]; simp
  have hres : (∀ o, ((w.alloc (.cells #[.int .i64 0, .int .i64 0, .int .i64 0, .string ⟨#[]⟩] 25)).alloc (.cells #[.int .i64 (wrap64 n1), .int .i64 (wrap64 n2), .int .i64 (wrap64 n3)] 64)).cell? ⟨w.heap.size, o, none⟩ = (w.alloc (.cells #[.int .i64 0, .int .i64 0, .int .i64 0, .string ⟨#[]⟩] 25)).cell? ⟨w.heap.size, o, none⟩) ∧ (∀ o, ((w.alloc (.cells #[.int .i64 0, .int .i64 0, .int .i64 0, .string ⟨#[]⟩] 25)).alloc (.cells #[.int .i64 (wrap64 n1), .int .i64 (wrap64 n2), .int .i64 (wrap64 n3)] 64)).frozen? ⟨w.heap.size, o, none⟩ = false) ∧ w.heap.size + 2 = ((w.alloc (.cells #[.int .i64 0, .int .i64 0, .int .i64 0, .string ⟨#[]⟩] 25)).alloc (.cells #[.int .i64 (wrap64 n1), .int .i64 (wrap64 n2), .int .i64 (wrap64 n3)] 64)).heap.size ∧ Below w.heap.size w ((w.alloc (.cells #[.int .i64 0, .int .i64 0, .int .i64 0, .string ⟨#[]⟩] 25)).alloc (.cells #[.int .i64 (wrap64 n1), .int .i64 (wrap64 n2), .int .i64 (wrap64 n3)] 64)) := by
    refine ⟨fun o => ?_, fun o => ?_, by simp, ((Below.refl _ _).alloc (Nat.le_refl _) _).alloc (by simp) _⟩
    · rw [World.cell?_alloc_past _ _ _ (by simp)]
    · rw [World.frozen?_alloc_past _ _ _ (by simp)]
      exact World.frozen?_alloc_at _ _ _ _ rfl
  have hbW := hres.2.2.1
  have HRES : Hid _ := hres
  clear hres
  generalize ((w.alloc (.cells #[.int .i64 0, .int .i64 0, .int .i64 0, .string ⟨#[]⟩] 25)).alloc (.cells #[.int .i64 (wrap64 n1), .int .i64 (wrap64 n2), .int .i64 (wrap64 n3)] 64)) = W at hstart HRES hbW ⊢
  have hbW : w.heap.size + 1 < W.heap.size := by omega
  go_region_held3 (fun (w' : World) => w'.cell? ⟨w.heap.size + 1, 0, none⟩ = some (.int .i64 (wrap64 n1)) ∧ w'.cell? ⟨w.heap.size + 1, 1, none⟩ = some (.int .i64 (wrap64 n2)) ∧ w'.cell? ⟨w.heap.size + 1, 2, none⟩ = some (.int .i64 (wrap64 n3)) ∧ Hid (Below W.heap.size W w')) (first | assumption | exact keepG hbW _ _ hstart (below_alloc_drew _ _) | exact keepG hbW _ _ hS ((Below.refl _ _).alloc hS.2.2.2.out.size _) | exact keepG hbW _ _ hS (below_set4 _ _ _ _ _ _)) ((go_at_call 44; refine (held_callS (S := (fun (w' : World) => w'.cell? ⟨w.heap.size + 1, 0, none⟩ = some (.int .i64 (wrap64 n1)) ∧ w'.cell? ⟨w.heap.size + 1, 1, none⟩ = some (.int .i64 (wrap64 n2)) ∧ w'.cell? ⟨w.heap.size + 1, 2, none⟩ = some (.int .i64 (wrap64 n3)) ∧ Hid (Below W.heap.size W w'))) (fun a b => keepG_call hbW a b) (by assumption) (strings_Clone _ _ hcl)).mono ?_; rintro e w1 ⟨rfl, hS, hbel⟩; (first | (have hkb := kbox_held hbel; obtain ⟨kb0, kb1, kb2, kb3, kbf, kbz⟩ := hkb) | skip)))
  all_goals
    obtain ⟨hC0, hF0, hz0, hB0⟩ := HRES.out
    have hBW := hS.2.2.2.out
    clear hstart HRES hbel
    go_wp2_with fail
    refine (impl_FilterOk _ _ _ _ hbs _).mono ?_
    rintro e w2 ⟨rfl, hK⟩
    have hB : Below W.heap.size W w2 := by first | exact (hBW.alloc hBW.size _).trans (hK.mono (by have := hBW.size; simp; omega)) | exact (hBW.trans (below_set4 _ _ _ _ _ _)).trans (hK.mono (by have := hBW.size; simp [World.setCell]; omega))
    obtain ⟨hC, hF, hZ⟩ := bfacts hB
    have hB2 : Below w.heap.size w w2 := hB0.trans (hB.mono (by omega))
    have d0 : w2.cell? ⟨w.heap.size, 0, none⟩ = some (.int .i64 0) := by rw [hC _ _ (by omega), hC0]; simp
    have d1 : w2.cell? ⟨w.heap.size, 1, none⟩ = some (.int .i64 0) := by rw [hC _ _ (by omega), hC0]; simp
    have d2 : w2.cell? ⟨w.heap.size, 2, none⟩ = some (.int .i64 0) := by rw [hC _ _ (by omega), hC0]; simp
    have d3 : w2.cell? ⟨w.heap.size, 3, none⟩ = some (.string ⟨#[]⟩) := by rw [hC _ _ (by omega), hC0]; simp
    have hfr : ∀ o, w2.frozen? ⟨w.heap.size, o, none⟩ = false := fun o => by rw [hF _ _ (by omega)]; exact hF0 o
    clear hK hC hF hZ hB hB0 hC0 hF0 hBW hS
    go_wp2
    refine bodyPost_ret (v := badF) (by simp [results, Try.results20, go_sem, d0, d1, d2, d3, badF]) rfl ⟨rfl, ?_⟩
    exact (((hB2.setCell (Nat.le_refl _) _).setCell (Nat.le_refl _) _).setCell (Nat.le_refl _) _).setCell (Nat.le_refl _) _

set_option maxHeartbeats 4000000 in
set_option maxRecDepth 100000 in
theorem impl_ReadFilter_ok (s : ByteArray) (hs : s.size ≤ 1048576) (hm : s.size ≤ maxLen) (n1 : Int) (k1 : Nat) (r1 : ByteArray) (n2 : Int) (k2 : Nat) (r2 : ByteArray) (n3 : Int) (k3 : Nat) (r3 : ByteArray) (m k : Nat) (bs : ByteArray) (h1 : tva s 10 0 0 = some (n1, k1)) (e1 : s.extract k1 s.size = r1) (h2 : tva r1 10 0 0 = some (n2, k2)) (e2 : r1.extract k2 r1.size = r2)
    (h3 : tva r2 10 0 0 = some (n3, k3)) (e3 : r2.extract k3 r2.size = r3) (h4 : tva r3 10 0 0 = some ((m : Int), k)) (h5 : ¬ (60000 < (m : Int) ∨ (r3.size : Int) < k + m)) (h6 : k + m = r3.size) (e4 : r3.extract k r3.size = bs) (h7 : filterOkB n1 n2 n3 bs = true) (w : World) :
    Calls Try.prog 20 #[.string s] w fun e w' => e = .returned (.tuple #[.agg #[.int .i64 n1, .int .i64 n2, .int .i64 n3, .string bs], .bool true]) ∧ Below w.heap.size w w' := by
  have t1 := varAt_some h1
  obtain ⟨u1, v1⟩ := tva_le s 10 0 0 h1
  have z1 : ((k1 : Int) == 0) = false := by simp; omega
  have q1 : (k1 : Int) ≤ (s.size : Int) := by omega
  have t2 := varAt_some h2
  obtain ⟨u2, v2⟩ := tva_le r1 10 0 0 h2
  have z2 : ((k2 : Int) == 0) = false := by simp; omega
  have q2 : (k2 : Int) ≤ (r1.size : Int) := by omega
  have t3 := varAt_some h3
  obtain ⟨u3, v3⟩ := tva_le r2 10 0 0 h3
  have z3 : ((k3 : Int) == 0) = false := by simp; omega
  have q3 : (k3 : Int) ≤ (r2.size : Int) := by omega
  have hr1 : r1.size ≤ 1048576 := by rw [← e1]; have := extract_size_le s k1; omega
  have hm1 : r1.size ≤ maxLen := by unfold maxLen; omega
  have hr2 : r2.size ≤ 1048576 := by rw [← e2]; have := extract_size_le r1 k2; omega
  have hm2 : r2.size ≤ maxLen := by unfold maxLen; omega
  have hr3 : r3.size ≤ 1048576 := by rw [← e3]; have := extract_size_le r2 k3; omega
  have H4 : Hid (tva r3 10 0 0 = some ((m : Int), k)) := h4
  have H5 : Hid (¬ (60000 < (m : Int) ∨ (r3.size : Int) < k + m)) := h5
  have hcl : bs.size ≤ 281474976710656 := by rw [← e4]; simp; omega
  have hbs : bs.size ≤ maxLen := by unfold maxLen; omega
  have g4 : r3.extract k ((k : Int) + (m : Int)).toNat = bs := by rw [show ((k : Int) + (m : Int)).toNat = r3.size by omega, e4]
  have g6 : (k : Int) + (m : Int) ≤ (r3.size : Int) := by omega
  have g7 : (r3.size : Int) ≤ (k : Int) + (m : Int) := by omega
  have g8 : (k : Int) ≤ (k : Int) + (m : Int) := by omega
  obtain ⟨p0, p1, p2, p3, p4, p5, _⟩ := filterOk_bd h7
  have x1 : wrap64 n1 = n1 := wrap64_small p0 (by omega) (by unfold wrap64; omega)
  have x2 : wrap64 n2 = n2 := wrap64_small p2 (by omega) (by unfold wrap64; omega)
  have x3 : wrap64 n3 = n3 := wrap64_small p4 (by omega) (by unfold wrap64; omega)
  clear h1 h2 h3 h4 h5 h6 e4 p0 p1 p2 p3 p4 p5
  go_enter Try.func20, Try.ntmps20
  go_wp2
  refine wp_loop_rounds 4 ?_
  rw [rounds_succ]
  go_wp2_with fail
  refine (impl_varAt_x s hm _).mono ?_
  rintro e w1 ⟨rfl, rfl⟩
  go_wp2
  rw [rounds_succ]
  go_wp2_with fail
  refine (impl_varAt_x r1 hm1 _).mono ?_
  rintro e w1 ⟨rfl, rfl⟩
  go_wp2
  rw [rounds_succ]
  go_wp2_with fail
  refine (impl_varAt_x r2 hm2 _).mono ?_
  rintro e w1 ⟨rfl, rfl⟩
  go_wp2
  rw [rounds_succ]
  go_wp2_with fail
  refine (impl_textAt_yes_x r3 hr3 m k H4.out H5.out _).mono ?_
  rintro e w1 ⟨rfl, rfl⟩
  go_wp2_with fail
  have hstart : ((w.alloc (.cells #[.int .i64 0, .int .i64 0, .int .i64 0, .string ⟨#[]⟩] 25)).alloc (.cells #[.int .i64 n1, .int .i64 n2, .int .i64 n3] 64)).drew.cell? ⟨w.heap.size + 1, 0, none⟩ = some (.int .i64 n1) ∧ ((w.alloc (.cells #[.int .i64 0, .int .i64 0, .int .i64 0, .string ⟨#[]⟩] 25)).alloc (.cells #[.int .i64 n1, .int .i64 n2, .int .i64 n3] 64)).drew.cell? ⟨w.heap.size + 1, 1, none⟩ = some (.int .i64 n2) ∧ ((w.alloc (.cells #[.int .i64 0, .int .i64 0, .int .i64 0, .string ⟨#[]⟩] 25)).alloc (.cells #[.int .i64 n1, .int .i64 n2, .int .i64 n3] 64)).drew.cell? ⟨w.heap.size + 1, 2, none⟩ = some (.int .i64 n3) ∧ Hid (Below ((w.alloc (.cells #[.int .i64 0, .int .i64 0, .int .i64 0, .string ⟨#[]⟩] 25)).alloc (.cells #[.int .i64 n1, .int .i64 n2, .int .i64 n3] 64)).heap.size ((w.alloc (.cells #[.int .i64 0, .int .i64 0, .int .i64 0, .string ⟨#[]⟩] 25)).alloc (.cells #[.int .i64 n1, .int .i64 n2, .int .i64 n3] 64)) ((w.alloc (.cells #[.int .i64 0, .int .i64 0, .int .i64 0, .string ⟨#[]⟩] 25)).alloc (.cells #[.int .i64 n1, .int .i64 n2, .int .i64 n3] 64)).drew) := by
    refine ⟨?_, ?_, ?_, (Below.refl _ _).drew⟩
    · rw [World.cell?_drew]; simp
    · rw [World.cell?_drew]; simp
    · rw [World.cell?_drew]; simp
  have hres : (∀ o, ((w.alloc (.cells #[.int .i64 0, .int .i64 0, .int .i64 0, .string ⟨#[]⟩] 25)).alloc (.cells #[.int .i64 n1, .int .i64 n2, .int .i64 n3] 64)).cell? ⟨w.heap.size, o, none⟩ = (w.alloc (.cells #[.int .i64 0, .int .i64 0, .int .i64 0, .string ⟨#[]⟩] 25)).cell? ⟨w.heap.size, o, none⟩) ∧ (∀ o, ((w.alloc (.cells #[.int .i64 0, .int .i64 0, .int .i64 0, .string ⟨#[]⟩] 25)).alloc (.cells #[.int .i64 n1, .int .i64 n2, .int .i64 n3] 64)).frozen? ⟨w.heap.size, o, none⟩ = false) ∧ w.heap.size + 2 = ((w.alloc (.cells #[.int .i64 0, .int .i64 0, .int .i64 0, .string ⟨#[]⟩] 25)).alloc (.cells #[.int .i64 n1, .int .i64 n2, .int .i64 n3] 64)).heap.size ∧ Below w.heap.size w ((w.alloc (.cells #[.int .i64 0, .int .i64 0, .int .i64 0, .string ⟨#[]⟩] 25)).alloc (.cells #[.int .i64 n1, .int .i64 n2, .int .i64 n3] 64)) := by
    refine ⟨fun o => ?_, fun o => ?_, by simp, ((Below.refl _ _).alloc (Nat.le_refl _) _).alloc (by simp) _⟩
    · rw [World.cell?_alloc_past _ _ _ (by simp)]
    · rw [World.frozen?_alloc_past _ _ _ (by simp)]
      exact World.frozen?_alloc_at _ _ _ _ rfl
  have hbW := hres.2.2.1
  have HRES : Hid _ := hres
  clear hres
  generalize ((w.alloc (.cells #[.int .i64 0, .int .i64 0, .int .i64 0, .string ⟨#[]⟩] 25)).alloc (.cells #[.int .i64 n1, .int .i64 n2, .int .i64 n3] 64)) = W at hstart HRES hbW ⊢
  have hbW : w.heap.size + 1 < W.heap.size := by omega
  go_region_held3 (fun (w' : World) => w'.cell? ⟨w.heap.size + 1, 0, none⟩ = some (.int .i64 n1) ∧ w'.cell? ⟨w.heap.size + 1, 1, none⟩ = some (.int .i64 n2) ∧ w'.cell? ⟨w.heap.size + 1, 2, none⟩ = some (.int .i64 n3) ∧ Hid (Below W.heap.size W w')) (first | assumption | exact keepG hbW _ _ hstart (below_alloc_drew _ _) | exact keepG hbW _ _ hS ((Below.refl _ _).alloc hS.2.2.2.out.size _) | exact keepG hbW _ _ hS (below_set4 _ _ _ _ _ _)) ((go_at_call 44; refine (held_callS (S := (fun (w' : World) => w'.cell? ⟨w.heap.size + 1, 0, none⟩ = some (.int .i64 n1) ∧ w'.cell? ⟨w.heap.size + 1, 1, none⟩ = some (.int .i64 n2) ∧ w'.cell? ⟨w.heap.size + 1, 2, none⟩ = some (.int .i64 n3) ∧ Hid (Below W.heap.size W w'))) (fun a b => keepG_call hbW a b) (by assumption) (strings_Clone _ _ hcl)).mono ?_; rintro e w1 ⟨rfl, hS, hbel⟩; (first | (have hkb := kbox_held hbel; obtain ⟨kb0, kb1, kb2, kb3, kbf, kbz⟩ := hkb) | skip)))
  all_goals
    obtain ⟨hC0, hF0, hz0, hB0⟩ := HRES.out
    have hBW := hS.2.2.2.out
    clear hstart HRES hbel
    go_wp2_with fail
    refine (impl_FilterOk _ _ _ _ hbs _).mono ?_
    rintro e w2 ⟨rfl, hK⟩
    have hB : Below W.heap.size W w2 := by first | exact (hBW.alloc hBW.size _).trans (hK.mono (by have := hBW.size; simp; omega)) | exact (hBW.trans (below_set4 _ _ _ _ _ _)).trans (hK.mono (by have := hBW.size; simp [World.setCell]; omega))
    obtain ⟨hC, hF, hZ⟩ := bfacts hB
    have hB2 : Below w.heap.size w w2 := hB0.trans (hB.mono (by omega))
    have d0 : w2.cell? ⟨w.heap.size, 0, none⟩ = some (.int .i64 0) := by rw [hC _ _ (by omega), hC0]; simp
    have d1 : w2.cell? ⟨w.heap.size, 1, none⟩ = some (.int .i64 0) := by rw [hC _ _ (by omega), hC0]; simp
    have d2 : w2.cell? ⟨w.heap.size, 2, none⟩ = some (.int .i64 0) := by rw [hC _ _ (by omega), hC0]; simp
    have d3 : w2.cell? ⟨w.heap.size, 3, none⟩ = some (.string ⟨#[]⟩) := by rw [hC _ _ (by omega), hC0]; simp
    have hfr : ∀ o, w2.frozen? ⟨w.heap.size, o, none⟩ = false := fun o => by rw [hF _ _ (by omega)]; exact hF0 o
    obtain ⟨hC2, hF2, hZ2⟩ := bfacts hK
    clear hK hC hF hZ hB hB0 hC0 hF0 hBW hS hF2 hZ2
    go_wp2
    refine bodyPost_ret (v := .tuple #[.agg #[.int .i64 n1, .int .i64 n2, .int .i64 n3, .string bs], .bool true]) (by simp [results, Try.results20, go_sem, d0, d1, d2, d3]) rfl ⟨rfl, ?_⟩
    exact (((hB2.setCell (Nat.le_refl _) _).setCell (Nat.le_refl _) _).setCell (Nat.le_refl _) _).setCell (Nat.le_refl _) _

set_option maxHeartbeats 2000000 in
set_option maxRecDepth 100000 in
theorem impl_ReadFilter (s : ByteArray) (hs : s.size ≤ 1048576) {v : Value} (h : RF s v) (w : World) :
    Calls Try.prog 20 #[.string s] w fun e w' => e = .returned v ∧ Below w.heap.size w w' := by
  have hm : s.size ≤ maxLen := by unfold maxLen; omega
  cases h
  case f1 h1 =>
    have t1 := varAt_none h1
    clear h1
    go_enter Try.func20, Try.ntmps20
    go_wp2
    refine wp_loop_rounds 4 ?_
    rw [rounds_succ]
    go_wp2_with fail
    refine (impl_varAt_x s hm _).mono ?_
    rintro e w1 ⟨rfl, rfl⟩
    go_wp2
    refine bodyPost_ret (v := badF) (by simp [results, Try.results20, go_sem, badF]) rfl ⟨rfl, ?_⟩
    go_grown
  case f2 n1 k1 r1 h1 e1 h2 =>
    have t1 := varAt_some h1
    obtain ⟨u1, v1⟩ := tva_le s 10 0 0 h1
    have z1 : ((k1 : Int) == 0) = false := by simp; omega
    have q1 : (k1 : Int) ≤ (s.size : Int) := by omega
    have t2 := varAt_none h2
    have hr1 : r1.size ≤ 1048576 := by rw [← e1]; have := extract_size_le s k1; omega
    have hm1 : r1.size ≤ maxLen := by unfold maxLen; omega
    clear h1 h2
    go_enter Try.func20, Try.ntmps20
    go_wp2
    refine wp_loop_rounds 4 ?_
    rw [rounds_succ]
    go_wp2_with fail
    refine (impl_varAt_x s hm _).mono ?_
    rintro e w1 ⟨rfl, rfl⟩
    go_wp2
    rw [rounds_succ]
    go_wp2_with fail
    refine (impl_varAt_x r1 hm1 _).mono ?_
    rintro e w1 ⟨rfl, rfl⟩
    go_wp2
    refine bodyPost_ret (v := badF) (by simp [results, Try.results20, go_sem, badF]) rfl ⟨rfl, ?_⟩
    go_grown
  case f3 n1 k1 r1 n2 k2 r2 h1 e1 h2 e2 h3 =>
    have t1 := varAt_some h1
    obtain ⟨u1, v1⟩ := tva_le s 10 0 0 h1
    have z1 : ((k1 : Int) == 0) = false := by simp; omega
    have q1 : (k1 : Int) ≤ (s.size : Int) := by omega
    have t2 := varAt_some h2
    obtain ⟨u2, v2⟩ := tva_le r1 10 0 0 h2
    have z2 : ((k2 : Int) == 0) = false := by simp; omega
    have q2 : (k2 : Int) ≤ (r1.size : Int) := by omega
    have t3 := varAt_none h3
    have hr1 : r1.size ≤ 1048576 := by rw [← e1]; have := extract_size_le s k1; omega
    have hm1 : r1.size ≤ maxLen := by unfold maxLen; omega
    have hr2 : r2.size ≤ 1048576 := by rw [← e2]; have := extract_size_le r1 k2; omega
    have hm2 : r2.size ≤ maxLen := by unfold maxLen; omega
    clear h1 h2 h3
    go_enter Try.func20, Try.ntmps20
    go_wp2
    refine wp_loop_rounds 4 ?_
    rw [rounds_succ]
    go_wp2_with fail
    refine (impl_varAt_x s hm _).mono ?_
    rintro e w1 ⟨rfl, rfl⟩
    go_wp2
    rw [rounds_succ]
    go_wp2_with fail
    refine (impl_varAt_x r1 hm1 _).mono ?_
    rintro e w1 ⟨rfl, rfl⟩
    go_wp2
    rw [rounds_succ]
    go_wp2_with fail
    refine (impl_varAt_x r2 hm2 _).mono ?_
    rintro e w1 ⟨rfl, rfl⟩
    go_wp2
    refine bodyPost_ret (v := badF) (by simp [results, Try.results20, go_sem, badF]) rfl ⟨rfl, ?_⟩
    go_grown
  case f4 n1 k1 r1 n2 k2 r2 n3 k3 r3 h1 e1 h2 e2 h3 e3 h4 =>
    have t1 := varAt_some h1
    obtain ⟨u1, v1⟩ := tva_le s 10 0 0 h1
    have z1 : ((k1 : Int) == 0) = false := by simp; omega
    have q1 : (k1 : Int) ≤ (s.size : Int) := by omega
    have t2 := varAt_some h2
    obtain ⟨u2, v2⟩ := tva_le r1 10 0 0 h2
    have z2 : ((k2 : Int) == 0) = false := by simp; omega
    have q2 : (k2 : Int) ≤ (r1.size : Int) := by omega
    have t3 := varAt_some h3
    obtain ⟨u3, v3⟩ := tva_le r2 10 0 0 h3
    have z3 : ((k3 : Int) == 0) = false := by simp; omega
    have q3 : (k3 : Int) ≤ (r2.size : Int) := by omega
    have hr1 : r1.size ≤ 1048576 := by rw [← e1]; have := extract_size_le s k1; omega
    have hm1 : r1.size ≤ maxLen := by unfold maxLen; omega
    have hr2 : r2.size ≤ 1048576 := by rw [← e2]; have := extract_size_le r1 k2; omega
    have hm2 : r2.size ≤ maxLen := by unfold maxLen; omega
    have hr3 : r3.size ≤ 1048576 := by rw [← e3]; have := extract_size_le r2 k3; omega
    have H4 : Hid (NoText r3) := h4
    clear h1 h2 h3 h4
    go_enter Try.func20, Try.ntmps20
    go_wp2
    refine wp_loop_rounds 4 ?_
    rw [rounds_succ]
    go_wp2_with fail
    refine (impl_varAt_x s hm _).mono ?_
    rintro e w1 ⟨rfl, rfl⟩
    go_wp2
    rw [rounds_succ]
    go_wp2_with fail
    refine (impl_varAt_x r1 hm1 _).mono ?_
    rintro e w1 ⟨rfl, rfl⟩
    go_wp2
    rw [rounds_succ]
    go_wp2_with fail
    refine (impl_varAt_x r2 hm2 _).mono ?_
    rintro e w1 ⟨rfl, rfl⟩
    go_wp2
    rw [rounds_succ]
    go_wp2_with fail
    refine (impl_textAt_no_x r3 hr3 H4.out _).mono ?_
    rintro e w1 ⟨rfl, rfl⟩
    go_wp2
    refine bodyPost_ret (v := badF) (by simp [results, Try.results20, go_sem, badF]) rfl ⟨rfl, ?_⟩
    go_grown
  case f5 n1 k1 r1 n2 k2 r2 n3 k3 r3 m k h1 e1 h2 e2 h3 e3 h4 h5 h6 =>
    have t1 := varAt_some h1
    obtain ⟨u1, v1⟩ := tva_le s 10 0 0 h1
    have z1 : ((k1 : Int) == 0) = false := by simp; omega
    have q1 : (k1 : Int) ≤ (s.size : Int) := by omega
    have t2 := varAt_some h2
    obtain ⟨u2, v2⟩ := tva_le r1 10 0 0 h2
    have z2 : ((k2 : Int) == 0) = false := by simp; omega
    have q2 : (k2 : Int) ≤ (r1.size : Int) := by omega
    have t3 := varAt_some h3
    obtain ⟨u3, v3⟩ := tva_le r2 10 0 0 h3
    have z3 : ((k3 : Int) == 0) = false := by simp; omega
    have q3 : (k3 : Int) ≤ (r2.size : Int) := by omega
    have hr1 : r1.size ≤ 1048576 := by rw [← e1]; have := extract_size_le s k1; omega
    have hm1 : r1.size ≤ maxLen := by unfold maxLen; omega
    have hr2 : r2.size ≤ 1048576 := by rw [← e2]; have := extract_size_le r1 k2; omega
    have hm2 : r2.size ≤ maxLen := by unfold maxLen; omega
    have hr3 : r3.size ≤ 1048576 := by rw [← e3]; have := extract_size_le r2 k3; omega
    have H4 : Hid (tva r3 10 0 0 = some ((m : Int), k)) := h4
    have H5 : Hid (¬ (60000 < (m : Int) ∨ (r3.size : Int) < k + m)) := h5
    have g6 : (k : Int) + (m : Int) < (r3.size : Int) := by omega
    clear h1 h2 h3 h4 h5 h6
    go_enter Try.func20, Try.ntmps20
    go_wp2
    refine wp_loop_rounds 4 ?_
    rw [rounds_succ]
    go_wp2_with fail
    refine (impl_varAt_x s hm _).mono ?_
    rintro e w1 ⟨rfl, rfl⟩
    go_wp2
    rw [rounds_succ]
    go_wp2_with fail
    refine (impl_varAt_x r1 hm1 _).mono ?_
    rintro e w1 ⟨rfl, rfl⟩
    go_wp2
    rw [rounds_succ]
    go_wp2_with fail
    refine (impl_varAt_x r2 hm2 _).mono ?_
    rintro e w1 ⟨rfl, rfl⟩
    go_wp2
    rw [rounds_succ]
    go_wp2_with fail
    refine (impl_textAt_yes_x r3 hr3 m k H4.out H5.out _).mono ?_
    rintro e w1 ⟨rfl, rfl⟩
    go_wp2
    refine bodyPost_ret (v := badF) (by simp [results, Try.results20, go_sem, badF]) rfl ⟨rfl, ?_⟩
    go_grown
  case f6 n1 k1 r1 n2 k2 r2 n3 k3 r3 m k bs h1 e1 h2 e2 h3 e3 h4 h5 h6 e4 h7 => exact impl_ReadFilter_f6 s hs hm n1 k1 r1 n2 k2 r2 n3 k3 r3 m k bs h1 e1 h2 e2 h3 e3 h4 h5 h6 e4 h7 w
  case ok n1 k1 r1 n2 k2 r2 n3 k3 r3 m k bs h1 e1 h2 e2 h3 e3 h4 h5 h6 e4 h7 => exact impl_ReadFilter_ok s hs hm n1 k1 r1 n2 k2 r2 n3 k3 r3 m k bs h1 e1 h2 e2 h3 e3 h4 h5 h6 e4 h7 w

end Go.Proofs.Ytkopoonkedcpmac
