/- BloomMay, of the program and of the model. -/
import Derived.Test.YtonkjdjancnajacProbe
namespace Go.Proofs.Ytonkjdjancnajac
set_option maxRecDepth 100000
open Go.RowKit

/-- Bit r of a byte. -/
def bitB (x : Int) (r : Nat) : Bool := x / 2 ^ r % 2 == 1
/-- Bit b of a text. -/
def bitAt (bs : ByteArray) (b : Int) : Bool := bitB (bt bs (b / 8).toNat) (b % 8).toNat

def mayB (bs user : ByteArray) (pr : Int) : Bool := (List.range pr.toNat).all fun k => bitAt bs (probeAt user k % (8 * bs.size))

theorem mayB_yes {bs user : ByteArray} {pr : Int} (h : ∀ k, k < pr.toNat → bitAt bs (probeAt user k % (8 * bs.size)) = true) : mayB bs user pr = true := by
  unfold mayB
  rw [List.all_eq_true]
  exact fun k hk => h k (List.mem_range.1 hk)
theorem mayB_no {bs user : ByteArray} {pr : Int} (k : Nat) (hk : k < pr.toNat) (h : bitAt bs (probeAt user k % (8 * bs.size)) = false) : mayB bs user pr = false := by
  rw [Bool.eq_false_iff]
  intro e
  unfold mayB at e
  rw [List.all_eq_true] at e
  rw [e k (List.mem_range.2 hk)] at h
  cases h

def bloomMayB (kd sd pr : Int) (bs user : ByteArray) : Bool := if kd = 1 ∧ filterOkB kd sd pr bs = true then mayB bs user pr else true

theorem and_one_u8 (x : Int) (h0 : 0 ≤ x) (h1 : x ≤ 255) : bits .and .u8 x 1 = x % 2 := by
  rw [u8_and x 1 h0 (by omega) (by omega) (by omega)]
  rw [show (1 : Int).toNat = 1 from rfl, Nat.and_one_is_mod]
  omega

theorem ret_boolB {a b : Bool} (h : a = b) : Ending.returned (.bool a) = .returned (.bool b) := by rw [h]

/-- What the walk needs of one probe: its byte, its bit. -/
theorem probe_parts (bs : ByteArray) (p : Int) (hs : 1 ≤ bs.size) : ∃ q r : Nat, p % (8 * bs.size) / 8 = q ∧ p % (8 * bs.size) % 8 = r ∧ q < bs.size ∧ r < 8 := by
  have h0 : 0 ≤ p % (8 * bs.size) := Int.emod_nonneg _ (by omega)
  have h1 : p % (8 * bs.size) < 8 * bs.size := Int.emod_lt_of_pos _ (by omega)
  generalize p % (8 * bs.size) = b at h0 h1
  obtain ⟨B, rfl⟩ := Int.eq_ofNat_of_zero_le h0
  exact ⟨B / 8, B % 8, by omega, by omega, by omega, by omega⟩

theorem bloom_no {kd sd pr : Int} {bs user : ByteArray} (h : ¬ kd = 1) : bloomMayB kd sd pr bs user = true := by unfold bloomMayB; rw [if_neg (fun e => h e.1)]
theorem bloom_bad {kd sd pr : Int} {bs user : ByteArray} (h : filterOkB kd sd pr bs = false) : bloomMayB kd sd pr bs user = true := by unfold bloomMayB; rw [if_neg (fun e => by rw [h] at e; exact absurd e.2 (by simp))]
theorem bloom_yes {sd pr : Int} {bs user : ByteArray} (h : filterOkB 1 sd pr bs = true) : bloomMayB 1 sd pr bs user = mayB bs user pr := by unfold bloomMayB; rw [if_pos ⟨rfl, h⟩]

theorem bloomOk_bd {sd pr : Int} {bs : ByteArray} (h : filterOkB 1 sd pr bs = true) : sd = 0 ∧ 1 ≤ pr ∧ pr ≤ 30 ∧ 1 ≤ bs.size ∧ bs.size ≤ 1000 := of_decide_eq_true (p := sd = 0 ∧ 1 ≤ pr ∧ pr ≤ 30 ∧ 1 ≤ bs.size ∧ bs.size ≤ 1000) h

end Go.Proofs.Ytonkjdjancnajac
