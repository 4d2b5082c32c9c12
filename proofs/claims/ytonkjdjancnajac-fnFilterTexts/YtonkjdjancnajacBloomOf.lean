/- BloomOf, of the program. -/
import Derived.Test.YtonkjdjancnajacBloom
namespace Go.Proofs.Ytonkjdjancnajac
set_option maxRecDepth 100000
open Go.RowKit Go.Deep

/-- How many bytes, how many probes. -/
def sizeB (len per : Nat) : Nat := (max 64 (per * len) + 7) / 8
def probesB (per : Nat) : Nat := min (max (69 * per / 100) 1) 30
theorem sizeB_bd {len per : Nat} (h1 : len ≤ 400) (h2 : per ≤ 20) : 8 ≤ sizeB len per ∧ sizeB len per ≤ 1000 := by
  have : per * len ≤ 20 * 400 := Nat.mul_le_mul h2 h1
  unfold sizeB; omega
theorem probesB_bd (per : Nat) : 1 ≤ probesB per ∧ probesB per ≤ 30 := by unfold probesB; omega

def bloomBits (S : Nat → ByteArray) (len per : Nat) : ByteArray := strOfNums (bytesOf (addU S (sizeB len per) (probesB per) len) (sizeB len per))
def badB : Value := .tuple #[.agg #[.int .i64 0, .int .i64 0, .int .i64 0, .string ⟨#[]⟩], .bool false]
/-- What BloomOf tells. -/
def bloomV (S : Nat → ByteArray) (len : Nat) (per : Int) : Value :=
  if usersB S len = true ∧ 1 ≤ per ∧ per ≤ 20 then .tuple #[.agg #[.int .i64 1, .int .i64 0, .int .i64 (probesB per.toNat : Nat), .string (bloomBits S len per.toNat)], .bool true] else badB
theorem bloomV_no {S : Nat → ByteArray} {len : Nat} {per : Int} (h : ¬ (usersB S len = true ∧ 1 ≤ per ∧ per ≤ 20)) : bloomV S len per = badB := by unfold bloomV; rw [if_neg h]
theorem bloomV_yes {S : Nat → ByteArray} {len per : Nat} (h : usersB S len = true) (h1 : 1 ≤ per) (h2 : per ≤ 20) :
    bloomV S len per = .tuple #[.agg #[.int .i64 1, .int .i64 0, .int .i64 (probesB per : Nat), .string (bloomBits S len per)], .bool true] := by
  unfold bloomV; rw [if_pos ⟨h, by omega, by omega⟩, Int.toNat_natCast]

theorem bytesOf_size (B : Nat → Bool) (n : Nat) : (strOfNums (bytesOf B n)).size = n := by rw [strOfNums_size]; simp [bytesOf]

theorem four_set {w : World} {g : Nat} {a0 a1 a2 a3 : Value} (k0 : w.cell? ⟨g, 0, none⟩ = some a0) (k1 : w.cell? ⟨g, 1, none⟩ = some a1) (k2 : w.cell? ⟨g, 2, none⟩ = some a2) (k3 : w.cell? ⟨g, 3, none⟩ = some a3) (v0 v1 v2 v3 : Value) :
    ((((w.setCell ⟨g, 0, none⟩ v0).setCell ⟨g, 1, none⟩ v1).setCell ⟨g, 2, none⟩ v2).setCell ⟨g, 3, none⟩ v3).cell? ⟨g, 0, none⟩ = some v0 ∧
    ((((w.setCell ⟨g, 0, none⟩ v0).setCell ⟨g, 1, none⟩ v1).setCell ⟨g, 2, none⟩ v2).setCell ⟨g, 3, none⟩ v3).cell? ⟨g, 1, none⟩ = some v1 ∧
    ((((w.setCell ⟨g, 0, none⟩ v0).setCell ⟨g, 1, none⟩ v1).setCell ⟨g, 2, none⟩ v2).setCell ⟨g, 3, none⟩ v3).cell? ⟨g, 2, none⟩ = some v2 ∧
    ((((w.setCell ⟨g, 0, none⟩ v0).setCell ⟨g, 1, none⟩ v1).setCell ⟨g, 2, none⟩ v2).setCell ⟨g, 3, none⟩ v3).cell? ⟨g, 3, none⟩ = some v3 := by
  have n : ∀ i j : Nat, i ≠ j → (⟨g, i, none⟩ : Addr) ≠ ⟨g, j, none⟩ := fun i j h e => h (Addr.mk.inj e).2.1
  refine ⟨?_, ?_, ?_, ?_⟩
  · rw [World.cell?_setCell_other (h := n _ _ (by omega)), World.cell?_setCell_other (h := n _ _ (by omega)), World.cell?_setCell_other (h := n _ _ (by omega))]
    exact World.cell?_setCell_same _ _ _ k0
  · rw [World.cell?_setCell_other (h := n _ _ (by omega)), World.cell?_setCell_other (h := n _ _ (by omega))]
    exact World.cell?_setCell_same _ _ _ (u := a1) (by rw [World.cell?_setCell_other (h := n _ _ (by omega))]; exact k1)
  · rw [World.cell?_setCell_other (h := n _ _ (by omega))]
    exact World.cell?_setCell_same _ _ _ (u := a2) (by rw [World.cell?_setCell_other (h := n _ _ (by omega)), World.cell?_setCell_other (h := n _ _ (by omega))]; exact k2)
  · exact World.cell?_setCell_same _ _ _ (u := a3) (by rw [World.cell?_setCell_other (h := n _ _ (by omega)), World.cell?_setCell_other (h := n _ _ (by omega)), World.cell?_setCell_other (h := n _ _ (by omega))]; exact k3)

end Go.Proofs.Ytonkjdjancnajac
