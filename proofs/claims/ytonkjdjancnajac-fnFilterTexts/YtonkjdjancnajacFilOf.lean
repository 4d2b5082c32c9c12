/- FilterOf of the model ends, does not panic, and tells a filter of few bytes. -/
import Derived.Test.YtonkjdjancnajacRibOf
import Derived.Test.YtonkjdjancnajacDrawMay
namespace Go.Proofs.Ytonkjdjancnajac
set_option maxRecDepth 100000
open Go.RowKit Go.Deep

theorem fil_ends {w w' : World} {k s p : Int} {b : ByteArray} {ok : Bool} (h : b.size ≤ 1000) (hb : Below w.heap.size w w') :
    ∃ k' s' p' b' ok', Ending.returned (.tuple #[.agg #[.int .i64 k, .int .i64 s, .int .i64 p, .string b], .bool ok]) = .returned (.tuple #[.agg #[.int .i64 k', .int .i64 s', .int .i64 p', .string b'], .bool ok']) ∧ b'.size ≤ 1000 ∧ Below w.heap.size w w' := ⟨k, s, p, b, ok, rfl, h, hb⟩

/-- An answer of a filter and a flag, the filter's bits few. -/
def FilEnd (w : World) (e : Ending) (w' : World) : Prop := ∃ k s p b ok, e = .returned (.tuple #[.agg #[.int .i64 k, .int .i64 s, .int .i64 p, .string b], .bool ok]) ∧ b.size ≤ 1000 ∧ Below w.heap.size w w'

set_option maxHeartbeats 2000000 in
set_option maxRecDepth 100000 in
theorem spec_FilterOf_ends (a : Option Addr) (len cap : Nat) (S : Nat → ByteArray) (kd : Nat) (w : World) (hl : len ≤ 1048576) (hkd : kd ≤ 2) (hS : StrAt w w.heap.size a len S) :
    Calls Try.prog 52 #[.slice a len cap, .int .i64 kd] w fun e w' => FilEnd w e w' := by
  have HS := hide hS
  have hb0 := (Below.refl w.heap.size w).alloc (Nat.le_refl _) (.cells (fCells 0 0 0 ⟨#[]⟩) 36)
  have hT0 := FAt.new w 0 0 0 ⟨#[]⟩
  have cu := spec_UsersOk a len cap S (w.alloc (.cells #[.int .i64 0, .int .i64 0, .int .i64 0, .string ⟨#[]⟩] 36)) hl ((hS.below hb0).mono (by simp))
  clear hS
  cases hu : usersB S len with
  | false =>
    rw [hu] at cu
    go_enter Try.func52, Try.ntmps52
    go_wp2_with fail
    refine cu.mono ?_
    rintro e w1 ⟨rfl, rfl⟩
    go_wp2
    refine bodyPost_ret (v := badB) (by simp [results, Try.results52, go_sem, badB]) rfl ?_
    exact fil_ends (by decide) ((Below.refl _ _).alloc (Nat.le_refl _) _)
  | true =>
    rw [hu] at cu
    have ci := fun wx => spec_l1InB kd 0 2 wx
    rw [decide_eq_true (show (0 : Int) ≤ (kd : Int) ∧ (kd : Int) ≤ 2 by omega)] at ci
    have hl400 := (usersB_out hu).1
    have hV := bloomV_yes (S := S) (len := len) (per := 10) hu (by omega) (by omega)
    have hbz := bloomBits_size S len 10
    have hbd := sizeB_bd (len := len) (per := 10) hl400 (by omega)
    have HBB := hide (show (bloomBits S len 10).size ≤ 1000 by omega)
    generalize bloomBits S len 10 = bb at hV HBB
    obtain ⟨pr, hpe⟩ : ∃ pr : Int, ((probesB 10 : Nat) : Int) = pr := ⟨_, rfl⟩
    rw [hpe] at hV
    have cb := fun (wx : World) (hs : StrAt wx wx.heap.size a len S) => hV ▸ spec_BloomOf a len cap S 10 wx hl hs
    have HT0 := hide hT0
    have HB0 := hide hb0
    clear hu hV hbz hbd hpe hT0 hb0
    have hk3 : kd = 0 ∨ kd = 1 ∨ kd = 2 := by omega
    rcases hk3 with rfl | rfl | rfl
    · go_enter Try.func52, Try.ntmps52
      go_wp2_with fail
      refine cu.mono ?_
      rintro e w1 ⟨rfl, rfl⟩
      go_wp2_with fail
      refine (ci _).mono ?_
      rintro e w1 ⟨rfl, rfl⟩
      clear cu ci cb
      go_wp2
      refine bodyPost_ret (v := .tuple #[.agg #[.int .i64 0, .int .i64 0, .int .i64 0, .string ⟨#[]⟩], .bool true]) (by simp [results, Try.results52, go_sem]) rfl ?_
      exact fil_ends (by decide) ((Below.refl _ _).alloc (Nat.le_refl _) _)
    · go_enter Try.func52, Try.ntmps52
      go_wp2_with fail
      refine cu.mono ?_
      rintro e w1 ⟨rfl, rfl⟩
      go_wp2_with fail
      refine (ci _).mono ?_
      rintro e w1 ⟨rfl, rfl⟩
      clear cu ci
      go_wp2
      generalize w.alloc (.cells (fCells 0 0 0 ⟨#[]⟩) 36) = W0 at HT0 HB0 ⊢
      go_loopw [6] (fun i wr => i = .int .i64 0 ∧ Hid (FAt wr w.heap.size 0 0 0 ⟨#[]⟩) ∧ Hid (Below w.heap.size w wr)) (fun _ _ => 0)
      case atStart => exact ⟨rfl, HT0, HB0⟩
      case round =>
        obtain ⟨rfl, HT, HL⟩ := hrel
        clear HT0 HB0
        go_wp2_with fail
        refine (cb _ ((HS.out.below HL.out).mono HL.out.size)).mono ?_
        rintro e w5 ⟨rfl, hb5⟩
        have hT5 := HT.out.below hb5
        have HB5 := hide (HL.out.trans (hb5.mono HL.out.size))
        obtain ⟨k0, k1, k2, k3⟩ := hT5.cells
        have f0 : w5.frozen? ⟨w.heap.size, 0, none⟩ = false := frozen_of_row _ _ _ _ _ hT5
        have f1 : w5.frozen? ⟨w.heap.size, 1, none⟩ = false := frozen_of_row _ _ _ _ _ hT5
        have f2 : w5.frozen? ⟨w.heap.size, 2, none⟩ = false := frozen_of_row _ _ _ _ _ hT5
        have f3 : w5.frozen? ⟨w.heap.size, 3, none⟩ = false := frozen_of_row _ _ _ _ _ hT5
        obtain ⟨c0, c1, c2, c3⟩ := (hT5.set 1 0 pr bb).cells
        have C0 := hide c0
        have C1 := hide c1
        have C2 := hide c2
        have C3 := hide c3
        clear c0 c1 c2 c3
        clear hT5 hb5 HL HT cb HS
        go_wp2
        refine bodyPost_ret (v := .tuple #[.agg #[.int .i64 1, .int .i64 0, .int .i64 pr, .string bb], .bool true]) (by simp [results, Try.results52, go_sem, C0.out, C1.out, C2.out, C3.out]) rfl ?_
        exact fil_ends HBB.out (Below.setCell (Below.setCell (Below.setCell (Below.setCell HB5.out (Nat.le_refl _) _) (Nat.le_refl _) _) (Nat.le_refl _) _) (Nat.le_refl _) _)
    · have cr := fun (sd : Nat) (hsd : sd ≤ 3) (wx : World) (hs : StrAt wx wx.heap.size a len S) => spec_RibbonOf_ends a len cap S sd wx hl hsd hs
      have CR := hide cr
      clear cr
      go_enter Try.func52, Try.ntmps52
      go_wp2_with fail
      refine cu.mono ?_
      rintro e w1 ⟨rfl, rfl⟩
      go_wp2_with fail
      refine (ci _).mono ?_
      rintro e w1 ⟨rfl, rfl⟩
      clear cu ci
      go_wp2
      generalize w.alloc (.cells (fCells 0 0 0 ⟨#[]⟩) 36) = W0 at HT0 HB0 ⊢
      go_loopw [6] (fun i wr => ∃ k : Nat, i = .int .i64 k ∧ k ≤ 4 ∧ Hid (FAt wr w.heap.size 0 0 0 ⟨#[]⟩) ∧ Hid (Below w.heap.size w wr)) (fun i _ => 4 - (intOf i).toNat)
      case atStart => exact ⟨0, rfl, by omega, HT0, HB0⟩
      case round =>
        obtain ⟨k, rfl, hk, HT, HL⟩ := hrel
        clear HT0 HB0
        by_cases hlt : k < 4
        · go_wp2_with fail
          refine (CR.out k (by omega) _ ((HS.out.below HL.out).mono HL.out.size)).mono ?_
          rintro e w2 ⟨rk, rs, rp, rb, ok, rfl, hrb, hb2⟩
          have hT2 := HT.out.below hb2
          have HB2 := hide (HL.out.trans (hb2.mono HL.out.size))
          have HRB := hide hrb
          have hb3 := (Below.refl w2.heap.size w2).alloc (Nat.le_refl _) (.cells #[.int .i64 rk, .int .i64 rs, .int .i64 rp, .string rb] 36)
          have hT3 := hT2.below hb3
          have HB3 := hide (HB2.out.trans (hb3.mono HB2.out.size))
          have hlt2 := hT2.lt
          cases ok with
          | true =>
            obtain ⟨k0, k1, k2, k3⟩ := hT2.cells
            have f0 : w2.frozen? ⟨w.heap.size, 0, none⟩ = false := frozen_of_row _ _ _ _ _ hT2
            have f1 : w2.frozen? ⟨w.heap.size, 1, none⟩ = false := frozen_of_row _ _ _ _ _ hT2
            have f2 : w2.frozen? ⟨w.heap.size, 2, none⟩ = false := frozen_of_row _ _ _ _ _ hT2
            have f3 : w2.frozen? ⟨w.heap.size, 3, none⟩ = false := frozen_of_row _ _ _ _ _ hT2
            obtain ⟨c0, c1, c2, c3⟩ := ((hT2.set rk rs rp rb).below ((Below.refl _ _).alloc (Nat.le_refl _) (.cells #[.int .i64 rk, .int .i64 rs, .int .i64 rp, .string rb] 36))).cells
            have C0 := hide c0
            have C1 := hide c1
            have C2 := hide c2
            have C3 := hide c3
            clear c0 c1 c2 c3
            clear hT2 hT3 hb2 hb3 HL HT cb hrb
            go_wp2
            refine bodyPost_ret (v := .tuple #[.agg #[.int .i64 rk, .int .i64 rs, .int .i64 rp, .string rb], .bool true]) (by simp [results, Try.results52, go_sem, C0.out, C1.out, C2.out, C3.out]) rfl ?_
            exact fil_ends HRB.out (Below.alloc (Below.setCell (Below.setCell (Below.setCell (Below.setCell HB2.out (Nat.le_refl _) _) (Nat.le_refl _) _) (Nat.le_refl _) _) (Nat.le_refl _) _) (by simpa [World.setCell] using Nat.le_of_lt hlt2) _)
          | false =>
            have HT3 := hide hT3
            clear hT2 hT3 hb2 hb3 HL HT hrb
            go_wp2
            exact ⟨⟨k + 1, by go_num, by omega, HT3, HB3⟩, by simp [intOf]; omega⟩
        · have hk4 : ¬ (k : Int) < 4 := by omega
          go_wp2_with fail
          refine (cb _ ((HS.out.below HL.out).mono HL.out.size)).mono ?_
          rintro e w5 ⟨rfl, hb5⟩
          have hT5 := HT.out.below hb5
          have HB5 := hide (HL.out.trans (hb5.mono HL.out.size))
          obtain ⟨k0, k1, k2, k3⟩ := hT5.cells
          have f0 : w5.frozen? ⟨w.heap.size, 0, none⟩ = false := frozen_of_row _ _ _ _ _ hT5
          have f1 : w5.frozen? ⟨w.heap.size, 1, none⟩ = false := frozen_of_row _ _ _ _ _ hT5
          have f2 : w5.frozen? ⟨w.heap.size, 2, none⟩ = false := frozen_of_row _ _ _ _ _ hT5
          have f3 : w5.frozen? ⟨w.heap.size, 3, none⟩ = false := frozen_of_row _ _ _ _ _ hT5
          obtain ⟨c0, c1, c2, c3⟩ := (hT5.set 1 0 pr bb).cells
          have C0 := hide c0
          have C1 := hide c1
          have C2 := hide c2
          have C3 := hide c3
          clear c0 c1 c2 c3
          clear hT5 hb5 HL HT cb HS
          go_wp2
          refine bodyPost_ret (v := .tuple #[.agg #[.int .i64 1, .int .i64 0, .int .i64 pr, .string bb], .bool true]) (by simp [results, Try.results52, go_sem, C0.out, C1.out, C2.out, C3.out]) rfl ?_
          exact fil_ends HBB.out (Below.setCell (Below.setCell (Below.setCell (Below.setCell HB5.out (Nat.le_refl _) _) (Nat.le_refl _) _) (Nat.le_refl _) _) (Nat.le_refl _) _)

end Go.Proofs.Ytonkjdjancnajac
