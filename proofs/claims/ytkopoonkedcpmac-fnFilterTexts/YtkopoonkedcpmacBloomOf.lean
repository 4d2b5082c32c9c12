/- BloomOf, of the program. -/
import Derived.Test.YtkopoonkedcpmacBloom
namespace Go.Proofs.Ytkopoonkedcpmac
open Go.RowKit Go.Deep

/-- How many bytes, how many probes. -/
def sizeB (len per : Nat) : Nat := (max 64 (per * len) + 7) / 8
def probesB (per : Nat) : Nat := min (max (69 * per / 100) 1) 30
theorem sizeB_bd {len per : Nat} (h1 : len ≤ 400) (h2 : per ≤ 20) : 8 ≤ sizeB len per ∧ sizeB len per ≤ 1000 := by
  have : per * len ≤ 20 * 400 := Nat.mul_le_mul h2 h1
  unfold sizeB; omega
theorem probesB_bd (per : Nat) : 1 ≤ probesB per ∧ probesB per ≤ 30 := by unfold probesB; omega

def bloomBits (S : Nat → ByteArray) (len per : Nat) : ByteArray := strOfNums (bytesOf (addU S (sizeB len per) (probesB per) len) (sizeB len per))
def badB : Value := .tuple #[.agg #[.int .i64 0, .int .i64 0, .int .i64 0, .string ⟨#[]⟩], .bool false]
/-- What BloomOf tells. -/
def bloomV (S : Nat → ByteArray) (len : Nat) (per : Int) : Value :=
  if usersB S len = true ∧ 1 ≤ per ∧ per ≤ 20 then .tuple #[.agg #[.int .i64 1, .int .i64 0, .int .i64 (probesB per.toNat : Nat), .string (bloomBits S len per.toNat)], .bool true] else badB
theorem bloomV_no {S : Nat → ByteArray} {len : Nat} {per : Int} (h : ¬ (usersB S len = true ∧ 1 ≤ per ∧ per ≤ 20)) : bloomV S len per = badB := by unfold bloomV; rw [if_neg h]
theorem bloomV_yes {S : Nat → ByteArray} {len per : Nat} (h : usersB S len = true) (h1 : 1 ≤ per) (h2 : per ≤ 20) :
    bloomV S len per = .tuple #[.agg #[.int .i64 1, .int .i64 0, .int .i64 (probesB per : Nat), .string (bloomBits S len per)], .bool true] := by
  unfold bloomV; rw [if_pos ⟨h, by omega, by omega⟩, Int.toNat_natCast]

theorem zero_words (w : World) : (zeroValue 49).run Try.prog w = .ok (.agg (wordsOf noBits)) w := (zero_of_info words_info).1 w

theorem bytesOf_size (B : Nat → Bool) (n : Nat) : (strOfNums (bytesOf B n)).size = n := by rw [strOfNums_size]; simp [bytesOf]

theorem four_set {w : World} {g : Nat} {a0 a1 a2 a3 : Value} (k0 : w.cell? ⟨g, 0, none⟩ = some a0) (k1 : w.cell? ⟨g, 1, none⟩ = some a1) (k2 : w.cell? ⟨g, 2, none⟩ = some a2) (k3 : w.cell? ⟨g, 3, none⟩ = some a3) (v0 v1 v2 v3 : Value) :
    ((((w.setCell ⟨g, 0, none⟩ v0).setCell ⟨g, 1, none⟩ v1).setCell ⟨g, 2, none⟩ v2).setCell ⟨g, 3, none⟩ v3).cell? ⟨g, 0, none⟩ = some v0 ∧
    ((((w.setCell ⟨g, 0, none⟩ v0).setCell ⟨g, 1, none⟩ v1).setCell ⟨g, 2, none⟩ v2).setCell ⟨g, 3, none⟩ v3).cell? ⟨g, 1, none⟩ = some v1 ∧
    ((((w.setCell ⟨g, 0, none⟩ v0).setCell ⟨g, 1, none⟩ v1).setCell ⟨g, 2, none⟩ v2).setCell ⟨g, 3, none⟩ v3).cell? ⟨g, 2, none⟩ = some v2 ∧
    ((((w.setCell ⟨g, 0, none⟩ v0).setCell ⟨g, 1, none⟩ v1).setCell ⟨g, 2, none⟩ v2).setCell ⟨g, 3, none⟩ v3).cell? ⟨g, 3, none⟩ = some v3 := by
  have n : ∀ i j : Nat, i ≠ j → (⟨g, i, none⟩ : Addr) ≠ ⟨g, j, none⟩ := fun i j h e => h (Addr.mk.inj e).2.1
  refine ⟨?_, ?_, ?_, ?_⟩
  · rw [World.cell?_setCell_other (h := n _ _ (by omega)), World.cell?_setCell_other (h := n _ _ (by omega)), World.cell?_setCell_other (h := n _ _ (by omega))]
    exact World.cell?_setCell_same _ _ _ k0
  · rw [World.cell?_setCell_other (h := n _ _ (by omega)), World.cell?_setCell_other (h := n _ _ (by omega))]
    exact World.cell?_setCell_same _ _ _ (u := a1) (by rw [World.cell?_setCell_other (h := n _ _ (by omega))]; exact k1)
  · rw [World.cell?_setCell_other (h := n _ _ (by omega))]
    exact World.cell?_setCell_same _ _ _ (u := a2) (by rw [World.cell?_setCell_other (h := n _ _ (by omega)), World.cell?_setCell_other (h := n _ _ (by omega))]; exact k2)
  · exact World.cell?_setCell_same _ _ _ (u := a3) (by rw [World.cell?_setCell_other (h := n _ _ (by omega)), World.cell?_setCell_other (h := n _ _ (by omega)), World.cell?_setCell_other (h := n _ _ (by omega))]; exact k3)

set_option maxHeartbeats 2000000 in
set_option maxRecDepth 100000 in
theorem impl_BloomOf (a : Option Addr) (len cap : Nat) (S : Nat → ByteArray) (per : Int) (w : World) (hl : len ≤ 1048576) (hS : StrAt w w.heap.size a len S) :
    Calls Try.prog 10 #[.slice a len cap, .int .i64 per] w fun e w' => e = .returned (bloomV S len per) ∧ Below w.heap.size w w' := by
  have HS := hide hS
  have hS1 := (hS.below ((Below.refl w.heap.size w).alloc (Nat.le_refl _) (.cells #[.int .i64 0, .int .i64 0, .int .i64 0, .string ⟨#[]⟩] 25))).mono (B' := (w.alloc (.cells #[.int .i64 0, .int .i64 0, .int .i64 0, .string ⟨#[]⟩] 25)).heap.size) (by simp)
  have cu := impl_UsersOk a len cap S _ hl hS1
  clear hS hS1
  cases hu : usersB S len with
  | false =>
    have HV := hide (bloomV_no (S := S) (len := len) (per := per) (fun h => by rw [hu] at h; cases h.1))
    rw [hu] at cu
    go_enter Try.func10, Try.ntmps10
    go_wp2_with fail
    refine cu.mono ?_
    rintro e w1 ⟨rfl, rfl⟩
    go_wp2
    refine bodyPost_ret (v := badB) (by simp [results, Try.results10, go_sem, badB]) rfl ⟨by rw [HV.out], ?_⟩
    exact (Below.refl _ _).alloc (Nat.le_refl _) _
  | true =>
    rw [hu] at cu
    by_cases hp1 : per < 1
    · have HV := hide (bloomV_no (S := S) (len := len) (per := per) (fun h => by omega))
      go_enter Try.func10, Try.ntmps10
      go_wp2_with fail
      refine cu.mono ?_
      rintro e w1 ⟨rfl, rfl⟩
      go_wp2
      refine bodyPost_ret (v := badB) (by simp [results, Try.results10, go_sem, badB]) rfl ⟨by rw [HV.out], ?_⟩
      exact (Below.refl _ _).alloc (Nat.le_refl _) _
    · by_cases hp2 : (20 : Int) < per
      · have HV := hide (bloomV_no (S := S) (len := len) (per := per) (fun h => by omega))
        go_enter Try.func10, Try.ntmps10
        go_wp2_with fail
        refine cu.mono ?_
        rintro e w1 ⟨rfl, rfl⟩
        go_wp2
        refine bodyPost_ret (v := badB) (by simp [results, Try.results10, go_sem, badB]) rfl ⟨by rw [HV.out], ?_⟩
        exact (Below.refl _ _).alloc (Nat.le_refl _) _
      · obtain ⟨P, rfl⟩ := Int.eq_ofNat_of_zero_le (show 0 ≤ per by omega)
        have HV := hide (bloomV_yes (per := P) hu (by omega) (by omega))
        have HU := hide (usersB_out hu)
        have hsz := sizeB_bd HU.out.1 (show P ≤ 20 by omega)
        have hpr := probesB_bd P
        have hP20 : P ≤ 20 := by omega
        have hP1 : 1 ≤ P := by omega
        have hl400 := HU.out.1
        have HSz : Hid (sizeB len P = (max 64 (P * len) + 7) / 8) := rfl
        have HPr : Hid (probesB P = min (max (69 * P / 100) 1) 30) := rfl
        have HBt : Hid (bloomBits S len P = strOfNums (bytesOf (addU S (sizeB len P) (probesB P) len) (sizeB len P))) := rfl
        obtain ⟨T, hTe⟩ : ∃ T, P * len = T := ⟨_, rfl⟩
        have hT8 : T ≤ 8000 := by rw [← hTe]; exact Nat.mul_le_mul hP20 hl400
        have hTI : (P : Int) * (len : Int) = (T : Int) := by rw [← hTe]; simp
        rw [hTe] at HSz
        generalize sizeB len P = n at *
        generalize probesB P = pr at *
        obtain ⟨M, hMe⟩ : ∃ M : Nat, M = max 64 T := ⟨_, rfl⟩
        obtain ⟨q, hqe⟩ : ∃ q : Nat, q = 69 * P / 100 := ⟨_, rfl⟩
        have hM8 : M ≤ 8000 := by omega
        have hM1 : (if (64 : Int) < (T : Int) then (T : Int) else 64) = (M : Int) := by split <;> omega
        have hn1 : ((M : Int) + 8 - 1) / 8 = (n : Int) := by have := HSz.out; omega
        have hq1 : 69 * (P : Int) / 100 = (q : Int) := by omega
        have hm1 : (if (q : Int) < 1 then 1 else (q : Int)) = (pr : Int) := by have := HPr.out; split <;> omega
        obtain ⟨hpr1, hpr2⟩ := hpr
        clear HSz HPr hMe hqe
        have hz := zero_words
        have hmf : ∀ (fn : Fn) (first cap : Array Value) (w : World), (Instr.makeFunc fn first cap).run Try.prog w = .ok (.func fn first cap) w := fun _ _ _ _ => rfl
        clear hu hTe
        go_enter Try.func10, Try.ntmps10
        go_wp2_with fail
        refine cu.mono ?_
        rintro e w1 ⟨rfl, rfl⟩
        clear cu
        obtain ⟨W2, hW2⟩ : ∃ W2, (w.alloc (.cells #[.int .i64 0, .int .i64 0, .int .i64 0, .string ⟨#[]⟩] 25)).alloc (.cells (wordsOf noBits) 49) = W2 := ⟨_, rfl⟩
        have E0 := hide (heap_alloc2_old w (.cells #[.int .i64 0, .int .i64 0, .int .i64 0, .string ⟨#[]⟩] 25) (.cells (wordsOf noBits) 49))
        have E1 := hide (heap_alloc2_new w (.cells #[.int .i64 0, .int .i64 0, .int .i64 0, .string ⟨#[]⟩] 25) (.cells (wordsOf noBits) 49))
        have EB := hide (((Below.refl w.heap.size w).alloc (Nat.le_refl _) (.cells #[.int .i64 0, .int .i64 0, .int .i64 0, .string ⟨#[]⟩] 25)).alloc (by simp) (.cells (wordsOf noBits) 49))
        rw [hW2] at E0 E1 EB
        go_wp2_with fail
        clear hW2
        simp only [hn1, hq1]
        clear hn1 hq1 hm1 hM1 hTI
        go_loopw [40] (fun i wr => ∃ k : Nat, i = .int .i64 k ∧ k ≤ len ∧ Hid (wr.heap[w.heap.size + 1]? = some (.cells (wordsOf (addU S n pr k)) 49)) ∧ Hid (Only (w.heap.size + 1) W2 wr)) (fun i _ => len - (intOf i).toNat)
        case atStart => exact ⟨0, rfl, by omega, E1, Only.refl _ _⟩
        case round =>
          obtain ⟨k, rfl, hk, HG, HO⟩ := hrel
          have HBr := hide (Only.below EB.out HO.out (by omega))
          by_cases hlt : k < len
          · obtain ⟨b, off, rfl, _, hc⟩ := (HS.out.below HBr.out).at hlt
            have hus := (userB_bd (HU.out.2 k hlt)).2
            go_wp2_with fail
            refine (impl_everyProbe_set (addU S n pr k) (S k) pr n (by unfold maxLen; omega) hpr2 (by omega) hsz.2 _ _ HG.out).mono ?_
            rintro e w3 ⟨rfl, hg3, ho3⟩
            have HG3 : Hid (w3.heap[w.heap.size + 1]? = some (.cells (wordsOf (addU S n pr (k + 1))) 49)) := hg3
            have HO3 := hide (HO.out.trans ho3)
            clear hg3 ho3
            go_wp2
            exact ⟨⟨k + 1, by go_num, by omega, HG3, HO3⟩, by simp [intOf]; omega⟩
          · obtain rfl : k = len := by omega
            have hwt := impl_wordText (addU S n pr k) n hsz.2 wr _ HG.out
            have HW := hide hwt
            have er : wr.heap[w.heap.size]? = some (.cells #[.int .i64 0, .int .i64 0, .int .i64 0, .string ⟨#[]⟩] 25) := (HO.out.block _ (by omega)).trans E0.out
            have ER := hide er
            clear hwt er
            go_wp2_with fail
            refine HW.out.mono ?_
            rintro e w5 ⟨rfl, hb5⟩
            have hb6 := HBr.out.trans (hb5.mono HBr.out.size)
            have e5 : w5.heap[w.heap.size]? = some (.cells #[.int .i64 0, .int .i64 0, .int .i64 0, .string ⟨#[]⟩] 25) := (hb5.block _ (Array.getElem?_eq_some_iff.1 ER.out).1).trans ER.out
            have k0 : w5.cell? ⟨w.heap.size, 0, none⟩ = some (.int .i64 0) := cell_of_row _ _ _ _ _ _ e5
            have k1 : w5.cell? ⟨w.heap.size, 1, none⟩ = some (.int .i64 0) := cell_of_row _ _ _ _ _ _ e5
            have k2 : w5.cell? ⟨w.heap.size, 2, none⟩ = some (.int .i64 0) := cell_of_row _ _ _ _ _ _ e5
            have k3 : w5.cell? ⟨w.heap.size, 3, none⟩ = some (.string ⟨#[]⟩) := cell_of_row _ _ _ _ _ _ e5
            have f0 : w5.frozen? ⟨w.heap.size, 0, none⟩ = false := frozen_of_row _ _ _ _ _ e5
            have f1 : w5.frozen? ⟨w.heap.size, 1, none⟩ = false := frozen_of_row _ _ _ _ _ e5
            have f2 : w5.frozen? ⟨w.heap.size, 2, none⟩ = false := frozen_of_row _ _ _ _ _ e5
            have f3 : w5.frozen? ⟨w.heap.size, 3, none⟩ = false := frozen_of_row _ _ _ _ _ e5
            have B6 := hide hb6
            have HBt2 : Hid (strOfNums (bytesOf (addU S n pr k) n) = bloomBits S k P) := HBt.out.symm
            generalize strOfNums (bytesOf (addU S n pr k) n) = bt' at HBt2 ⊢
            clear hb5 hb6 e5
            have hc4 := four_set k0 k1 k2 k3 (.int .i64 1) (.int .i64 0) (.int .i64 pr) (.string bt')
            obtain ⟨c0, c1, c2, c3⟩ := hc4
            have C0 := hide c0
            have C1 := hide c1
            have C2 := hide c2
            have C3 := hide c3
            clear c0 c1 c2 c3
            go_wp2
            refine bodyPost_ret (v := .tuple #[.agg #[.int .i64 1, .int .i64 0, .int .i64 pr, .string bt'], .bool true]) (by simp [results, Try.results10, go_sem, C0.out, C1.out, C2.out, C3.out]) rfl ⟨by rw [HV.out, HBt2.out], ?_⟩
            exact Below.setCell (Below.setCell (Below.setCell (Below.setCell B6.out (Nat.le_refl _) _) (Nat.le_refl _) _) (Nat.le_refl _) _) (Nat.le_refl _) _

end Go.Proofs.Ytkopoonkedcpmac
