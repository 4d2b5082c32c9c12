/- BloomOf, of the model. -/
import Derived.Test.YtonkjdjancnajacBloomOf
namespace Go.Proofs.Ytonkjdjancnajac
set_option maxRecDepth 100000
open Go.RowKit Go.Deep

theorem bytesOf_get (B : Nat → Bool) (n i : Nat) (h : i < n) : (bytesOf B n)[i]? = some (byteAt B i) := by simp [bytesOf, h]
theorem bytesOf_len (B : Nat → Bool) (n : Nat) : (bytesOf B n).length = n := by simp [bytesOf]
theorem bytesOf_set (B : Nat → Bool) (n b : Nat) : (bytesOf B n).set (b / 8) ((packN (fun r => B (8 * (b / 8) + r)) 8 ||| 2 ^ (b % 8) : Nat) : Int) = bytesOf (bset B b) n := by
  apply List.ext_getElem?
  intro q
  by_cases hq : q < n
  · rw [bytesOf_get _ _ _ hq]
    have hb := bset_block B 8 b q (by omega)
    by_cases e : b / 8 = q
    · subst e
      rw [List.getElem?_set_self (by rw [bytesOf_len]; exact hq)]
      unfold byteAt
      rw [hb, if_pos rfl]
    · rw [List.getElem?_set_ne e, bytesOf_get _ _ _ hq]
      unfold byteAt
      rw [hb, if_neg (fun h => e h.symm)]
  · rw [List.getElem?_eq_none (by rw [List.length_set, bytesOf_len]; omega), List.getElem?_eq_none (by rw [bytesOf_len]; omega)]

theorem bytesOf_none (n : Nat) : bytesOf noBits n = List.replicate n 0 := by
  apply List.ext_getElem?
  intro i
  by_cases h : i < n
  · rw [bytesOf_get _ _ _ h, List.getElem?_replicate, if_pos h]
    unfold byteAt noBits
    rw [packN_none]; rfl
  · rw [List.getElem?_eq_none (by rw [bytesOf_len]; omega), List.getElem?_eq_none (by simp; omega)]

theorem pow8 (r : Nat) (h : r < 8) : (2 : Nat) ^ r < 256 ∧ (2 : Int) ^ r % 256 = ((2 ^ r : Nat) : Int) := by
  have hp : (2 : Nat) ^ r < 2 ^ 8 := Nat.pow_lt_pow_right (by omega) h
  have e : ((2 : Int) ^ r) = ((2 ^ r : Nat) : Int) := by simp
  rw [e]
  generalize (2 : Nat) ^ r = P at hp
  omega

theorem div8_lt {b n : Nat} (h : (b : Int) < 8 * (n : Int)) : b / 8 < n := by omega
theorem byte_or (B : Nat → Bool) (b : Nat) : bits .or .u8 (byteAt B (b / 8)) (2 ^ (b % 8) % 256) = ((packN (fun r => B (8 * (b / 8) + r)) 8 ||| 2 ^ (b % 8) : Nat) : Int) := by
  have hp := pow8 (b % 8) (Nat.mod_lt _ (by omega))
  have hl : packN (fun r => B (8 * (b / 8) + r)) 8 < 256 := packN_lt (fun r => B (8 * (b / 8) + r)) 8
  rw [hp.2]
  unfold byteAt
  generalize packN (fun r => B (8 * (b / 8) + r)) 8 = y at hl ⊢
  exact u8_or_nat _ _ hl hp.1

theorem spec_l1InB (x a b : Int) (w : World) :
    Calls Try.prog 58 #[.int .i64 x, .int .i64 a, .int .i64 b] w fun e w' => e = .returned (.bool (decide (a ≤ x ∧ x ≤ b))) ∧ w = w' := by
  by_cases h1 : a ≤ x
  · by_cases h2 : x ≤ b
    · go_enter Try.func58, Try.ntmps58
      go_wp2
      go_ret
      exact ⟨by simp [h1, h2], rfl⟩
    · go_enter Try.func58, Try.ntmps58
      go_wp2
      go_ret
      exact ⟨by simp [h2], rfl⟩
  · go_enter Try.func58, Try.ntmps58
    go_wp2
    go_ret
    exact ⟨by simp; omega, rfl⟩

set_option maxHeartbeats 4000000 in
set_option maxRecDepth 100000 in
theorem spec_BloomOf (a : Option Addr) (len cap : Nat) (S : Nat → ByteArray) (per : Int) (w : World) (hl : len ≤ 1048576) (hS : StrAt w w.heap.size a len S) :
    Calls Try.prog 67 #[.slice a len cap, .int .i64 per] w fun e w' => e = .returned (bloomV S len per) ∧ Below w.heap.size w w' := by
  have HS := hide hS
  have hS1 := (hS.below ((Below.refl w.heap.size w).alloc (Nat.le_refl _) (.cells #[.int .i64 0, .int .i64 0, .int .i64 0, .string ⟨#[]⟩] 36))).mono (B' := (w.alloc (.cells #[.int .i64 0, .int .i64 0, .int .i64 0, .string ⟨#[]⟩] 36)).heap.size) (by simp)
  have cu := spec_UsersOk a len cap S _ hl hS1
  clear hS hS1
  cases hu : usersB S len with
  | false =>
    have HV := hide (bloomV_no (S := S) (len := len) (per := per) (fun h => by rw [hu] at h; cases h.1))
    rw [hu] at cu
    go_enter Try.func67, Try.ntmps67
    go_wp2_with fail
    refine cu.mono ?_
    rintro e w1 ⟨rfl, rfl⟩
    go_wp2
    refine bodyPost_ret (v := badB) (by simp [results, Try.results67, go_sem, badB]) rfl ⟨by rw [HV.out], ?_⟩
    exact (Below.refl _ _).alloc (Nat.le_refl _) _
  | true =>
    rw [hu] at cu
    by_cases hp : 1 ≤ per ∧ per ≤ 20
    · have ci := fun wx => spec_l1InB per 1 20 wx
      rw [decide_eq_true hp] at ci
      obtain ⟨P, rfl⟩ := Int.eq_ofNat_of_zero_le (show 0 ≤ per by omega)
      have HV := hide (bloomV_yes (per := P) hu (by omega) (by omega))
      have HU := hide (usersB_out hu)
      have hsz := sizeB_bd HU.out.1 (show P ≤ 20 by omega)
      have hpr := probesB_bd P
      have hP20 : P ≤ 20 := by omega
      have hP1 : 1 ≤ P := by omega
      have hl400 := HU.out.1
      have HSz : Hid (sizeB len P = (max 64 (P * len) + 7) / 8) := rfl
      have HPr : Hid (probesB P = min (max (69 * P / 100) 1) 30) := rfl
      have HBt : Hid (bloomBits S len P = strOfNums (bytesOf (addU S (sizeB len P) (probesB P) len) (sizeB len P))) := rfl
      obtain ⟨T, hTe⟩ : ∃ T, P * len = T := ⟨_, rfl⟩
      have hT8 : T ≤ 8000 := by rw [← hTe]; exact Nat.mul_le_mul hP20 hl400
      have hTI : (len : Int) * (P : Int) = (T : Int) := by rw [← hTe, Int.mul_comm]; simp
      rw [hTe] at HSz
      generalize sizeB len P = n at *
      generalize probesB P = pr at *
      obtain ⟨M, hMe⟩ : ∃ M : Nat, M = max 64 T := ⟨_, rfl⟩
      obtain ⟨q, hqe⟩ : ∃ q : Nat, q = 69 * P / 100 := ⟨_, rfl⟩
      have hM8 : M ≤ 8000 := by omega
      have hM1 : (if (64 : Int) < (T : Int) then (T : Int) else 64) = (M : Int) := by split <;> omega
      have hn1 : ((M : Int) + 7) / 8 = (n : Int) := by have := HSz.out; omega
      have hq1 : (P : Int) * 69 / 100 = (q : Int) := by omega
      have hm1 : (if (1 : Int) < (q : Int) then (q : Int) else 1) = (pr : Int) := by have := HPr.out; split <;> omega
      obtain ⟨hpr1, hpr2⟩ := hpr
      obtain ⟨hn8, hn1000⟩ := hsz
      have hmk := mk_bytes n hn1000
      clear HSz HPr hMe hqe hu hTe hp
      obtain ⟨W2, hW2⟩ : ∃ W2, (w.alloc (.cells #[.int .i64 0, .int .i64 0, .int .i64 0, .string ⟨#[]⟩] 36)).alloc (.cells (madeCells #[.int .u8 0] n) 5) = W2 := ⟨_, rfl⟩
      have E0 := hide (heap_alloc2_old w (.cells #[.int .i64 0, .int .i64 0, .int .i64 0, .string ⟨#[]⟩] 36) (.cells (madeCells #[.int .u8 0] n) 5))
      have E1 := hide (made_row (w.alloc (.cells #[.int .i64 0, .int .i64 0, .int .i64 0, .string ⟨#[]⟩] 36)) n)
      have EB := hide (((Below.refl w.heap.size w).alloc (Nat.le_refl _) (.cells #[.int .i64 0, .int .i64 0, .int .i64 0, .string ⟨#[]⟩] 36)).alloc (by simp) (.cells (madeCells #[.int .u8 0] n) 5))
      rw [hW2] at E0 E1 EB
      rw [← bytesOf_none, show (w.alloc (.cells #[.int .i64 0, .int .i64 0, .int .i64 0, .string ⟨#[]⟩] 36)).heap.size = w.heap.size + 1 by simp] at E1
      go_enter Try.func67, Try.ntmps67
      go_wp2_with fail
      refine cu.mono ?_
      rintro e w1 ⟨rfl, rfl⟩
      go_wp2_with fail
      refine (ci _).mono ?_
      rintro e w1 ⟨rfl, rfl⟩
      clear cu ci
      go_wp2_with fail
      clear hW2 hmk
      simp only [hn1, hq1]
      clear hn1 hq1 hm1 hM1 hTI
      go_loopw [9] (fun i wr => ∃ k : Nat, i = .int .i64 k ∧ k ≤ len ∧ Hid (FRow wr (w.heap.size + 1) (bytesOf (addU S n pr k) n)) ∧ Hid (Only (w.heap.size + 1) W2 wr)) (fun i _ => len - (intOf i).toNat)
      case atStart => exact ⟨0, rfl, by omega, E1, Only.refl _ _⟩
      case round =>
        obtain ⟨k, rfl, hk, HG, HO⟩ := hrel
        have HBr := hide (Only.below EB.out HO.out (by omega))
        by_cases hlt : k < len
        · obtain ⟨bb, off, rfl, hbb, hc⟩ := HS.out.at hlt
          have hus := (userB_bd (HU.out.2 k hlt)).2
          have HC := hide hc
          clear hc
          go_wp2
          go_loopw [10] (fun i wx => ∃ j : Nat, i = .int .i64 j ∧ j ≤ pr ∧ Hid (FRow wx (w.heap.size + 1) (bytesOf (addP (addU S n pr k) (S k) n j) n)) ∧ Hid (Only (w.heap.size + 1) W2 wx)) (fun i _ => pr - (intOf i).toNat)
          case atStart => exact ⟨0, rfl, by omega, HG, HO⟩
          case round =>
            obtain ⟨j, rfl, hj, HG2, HO2⟩ := hrel
            have HB2 := hide (Only.below EB.out HO2.out (by omega))
            by_cases hjp : j < pr
            · have hc : wr.cell? ⟨bb, off + k, none⟩ = some (.string (S k)) := by rw [HB2.out.cell (p := ⟨bb, off + k, none⟩) hbb]; exact HC.out
              have hb0 : 0 ≤ probeAt (S k) j % (8 * (n : Int)) := Int.emod_nonneg _ (by omega)
              have hb1 : probeAt (S k) j % (8 * (n : Int)) < 8 * (n : Int) := Int.emod_lt_of_pos _ (by omega)
              obtain ⟨b, hb⟩ := Int.eq_ofNat_of_zero_le hb0
              have hbe : (probeAt (S k) j % (8 * n : Nat)).toNat = b := by
                rw [show ((8 * n : Nat) : Int) = 8 * (n : Int) by omega, hb]; rfl
              have c3 := fun wy => spec_l3Place (S k) j (8 * (n : Int)) (by unfold maxLen; omega) (by omega) (by omega) (by omega) wy
              rw [hb] at c3 hb1
              have hset := bytesOf_set (addP (addU S n pr k) (S k) n j) n b
              have hAP : bset (addP (addU S n pr k) (S k) n j) b = addP (addU S n pr k) (S k) n (j + 1) := by rw [addP, hbe]
              rw [hAP] at hset
              have hbn := div8_lt hb1
              obtain ⟨hcell, hfree⟩ := HG2.out (b / 8) _ (bytesOf_get _ _ _ hbn)
              have hrow := HG2.out.set (b / 8) ((packN (fun r => addP (addU S n pr k) (S k) n j (8 * (b / 8) + r)) 8 ||| 2 ^ (b % 8) : Nat) : Int) (by rw [bytesOf_len]; exact hbn)
              rw [hset] at hrow
              have hor := byte_or (addP (addU S n pr k) (S k) n j) b
              have hq1 : (b : Int) / 8 = ((b / 8 : Nat) : Int) := by omega
              have hr1 : (b : Int) % 8 = ((b % 8 : Nat) : Int) := by omega
              have hr8 : b % 8 < 8 := Nat.mod_lt _ (by omega)
              generalize (packN (fun r => addP (addU S n pr k) (S k) n j (8 * (b / 8) + r)) 8 ||| 2 ^ (b % 8) : Nat) = z at *
              generalize byteAt (addP (addU S n pr k) (S k) n j) (b / 8) = x at *
              obtain ⟨qq, hqe⟩ : ∃ qq, b / 8 = qq := ⟨_, rfl⟩
              obtain ⟨r, hre⟩ : ∃ r, b % 8 = r := ⟨_, rfl⟩
              rw [hqe] at hbn hcell hfree hq1 hrow
              rw [hre] at hor hr1 hr8
              have HR3 := hide hrow
              have HO3 := hide (HO2.out.trans (Only.setCell (w.heap.size + 1) qq wr (.int .u8 z)))
              have HC3 := hide c3
              clear hrow c3 hset hAP hbe hqe hre hb hb0 HG2 HO2 HB2
              go_wp2_with fail
              refine (HC3.out _).mono ?_
              rintro e w4 ⟨rfl, rfl⟩
              go_wp2
              exact ⟨⟨j + 1, by go_num, by omega, HR3, HO3⟩, by simp [intOf]; omega⟩
            · obtain rfl : j = pr := by omega
              have HG3 : Hid (FRow wr (w.heap.size + 1) (bytesOf (addU S n j (k + 1)) n)) := HG2.out
              go_wp2
              exact ⟨⟨k + 1, by go_num, by omega, HG3, HO2⟩, by simp [intOf]; omega⟩
        · obtain rfl : k = len := by omega
          have hct := HG.out.text n
          rw [bytesOf_len] at hct
          have er : wr.heap[w.heap.size]? = some (.cells #[.int .i64 0, .int .i64 0, .int .i64 0, .string ⟨#[]⟩] 36) := (HO.out.block _ (by omega)).trans E0.out
          have k0 : wr.cell? ⟨w.heap.size, 0, none⟩ = some (.int .i64 0) := cell_of_row _ _ _ _ _ _ er
          have k1 : wr.cell? ⟨w.heap.size, 1, none⟩ = some (.int .i64 0) := cell_of_row _ _ _ _ _ _ er
          have k2 : wr.cell? ⟨w.heap.size, 2, none⟩ = some (.int .i64 0) := cell_of_row _ _ _ _ _ _ er
          have k3 : wr.cell? ⟨w.heap.size, 3, none⟩ = some (.string ⟨#[]⟩) := cell_of_row _ _ _ _ _ _ er
          have f0 : wr.frozen? ⟨w.heap.size, 0, none⟩ = false := frozen_of_row _ _ _ _ _ er
          have f1 : wr.frozen? ⟨w.heap.size, 1, none⟩ = false := frozen_of_row _ _ _ _ _ er
          have f2 : wr.frozen? ⟨w.heap.size, 2, none⟩ = false := frozen_of_row _ _ _ _ _ er
          have f3 : wr.frozen? ⟨w.heap.size, 3, none⟩ = false := frozen_of_row _ _ _ _ _ er
          have HBt2 : Hid (strOfNums (bytesOf (addU S n pr k) n) = bloomBits S k P) := HBt.out.symm
          generalize strOfNums (bytesOf (addU S n pr k) n) = bt' at HBt2 hct
          have hc4 := four_set k0 k1 k2 k3 (.int .i64 1) (.int .i64 0) (.int .i64 pr) (.string bt')
          obtain ⟨c0, c1, c2, c3⟩ := hc4
          have C0 := hide c0
          have C1 := hide c1
          have C2 := hide c2
          have C3 := hide c3
          clear c0 c1 c2 c3 er HG
          go_wp2
          refine bodyPost_ret (v := .tuple #[.agg #[.int .i64 1, .int .i64 0, .int .i64 pr, .string bt'], .bool true]) (by simp [results, Try.results67, go_sem, C0.out, C1.out, C2.out, C3.out]) rfl ⟨by rw [HV.out, HBt2.out], ?_⟩
          exact Below.setCell (Below.setCell (Below.setCell (Below.setCell HBr.out (Nat.le_refl _) _) (Nat.le_refl _) _) (Nat.le_refl _) _) (Nat.le_refl _) _
    · have ci := fun wx => spec_l1InB per 1 20 wx
      rw [decide_eq_false hp] at ci
      have HV := hide (bloomV_no (S := S) (len := len) (per := per) (fun h => hp h.2))
      clear hp
      go_enter Try.func67, Try.ntmps67
      go_wp2_with fail
      refine cu.mono ?_
      rintro e w1 ⟨rfl, rfl⟩
      go_wp2_with fail
      refine (ci _).mono ?_
      rintro e w1 ⟨rfl, rfl⟩
      go_wp2
      refine bodyPost_ret (v := badB) (by simp [results, Try.results67, go_sem, badB]) rfl ⟨by rw [HV.out], ?_⟩
      exact (Below.refl _ _).alloc (Nat.le_refl _) _

end Go.Proofs.Ytonkjdjancnajac
