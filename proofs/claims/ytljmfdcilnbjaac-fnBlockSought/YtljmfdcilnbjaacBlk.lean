/- The bytes of a block. -/
import Derived.Test.YtljmfdcilnbjaacWBlk
import Derived.Test.YtljmfdcilnbjaacEntsOk
import Derived.Test.YtljmfdcilnbjaacShape
namespace Go.Proofs.Ytljmfdcilnbjaac
set_option maxRecDepth 100000
open Go.RowKit

/-- The text of a key of the row. -/
def ktx (E : Ents) (i : Nat) : ByteArray := keyText (E.U i) (E.Q i) (E.K i)
def ahd (E : Ents) : Nat → ByteArray
  | 0 => ⟨#[]⟩
  | i + 1 => ktx E i
/-- The bytes of the first entries. -/
def bod (E : Ents) (m : Nat) : Nat → ByteArray
  | 0 => ⟨#[]⟩
  | i + 1 => bod E m i ++ entT m i (ahd E i) (ktx E i) (E.X i)
/-- The places at which it begins anew. -/
def beg (E : Ents) (m : Nat) : Nat → List Int
  | 0 => []
  | i + 1 => begT m i (bod E m i) (beg E m i)
def blkT (E : Ents) (m n : Nat) : ByteArray := bod E m n ++ fxs (beg E m n) ++ fx4 (beg E m n).length ++ fx4 m
def blkOk (E : Ents) (len : Nat) (every : Int) : Bool := rowOkB E len && decide (len ≠ 0) && everyB every && decide ((blkT E every.toNat len).size ≤ 60000)
/-- What BlockOf answers. -/
def blkR (E : Ents) (len : Nat) (every : Int) : ByteArray := if blkOk E len every then blkT E every.toNat len else ⟨#[]⟩

theorem ktSize (u : ByteArray) (q k : Int) : (keyText u q k).size ≤ 48 := by
  unfold keyText
  split
  · rename_i h
    have := keyOk_iff.1 h
    rw [ByteArray.size_append, ByteArray.size_append, fx4_size, fx4_size]; omega
  · decide

theorem entT_size (m p : Nat) (ah kt x : ByteArray) : (entT m p ah kt x).size ≤ 30 + kt.size + x.size := by
  unfold entT
  have h1 := pv_size (shw (basT m p ah) kt)
  have h2 := putTextSz (kt.extract (shw (basT m p ah) kt) kt.size)
  have h3 := putTextSz x
  rw [ByteArray.size_append, ByteArray.size_append]
  rw [ByteArray.size_extract] at h2
  omega

theorem entOk_x {E : Ents} {i : Nat} (h : entOk E i = true) : (E.X i).size ≤ 200 := by
  unfold entOk entryOkB at h
  simp only [Bool.and_eq_true, decide_eq_true_eq] at h
  exact h.1.2

theorem ahd_size (E : Ents) (i : Nat) : (ahd E i).size ≤ 48 := by
  cases i with
  | zero => show (⟨#[]⟩ : ByteArray).size ≤ 48; decide
  | succ i => exact ktSize _ _ _

theorem bod_size {E : Ents} {m n : Nat} (h : ∀ i, i < n → entOk E i = true) : ∀ k, k ≤ n → (bod E m k).size ≤ 280 * k
  | 0, _ => Nat.zero_le _
  | k + 1, hk => by
    have h1 := bod_size (m := m) h k (by omega)
    have h2 := entT_size m k (ahd E k) (ktx E k) (E.X k)
    have h3 := ktSize (E.U k) (E.Q k) (E.K k)
    have h4 := entOk_x (h k (by omega))
    rw [bod, ByteArray.size_append]
    unfold ktx at *
    omega

theorem beg_len (E : Ents) (m : Nat) : ∀ k, (beg E m k).length ≤ k
  | 0 => Nat.le_refl _
  | k + 1 => by
    have := beg_len E m k
    rw [beg, begT]
    split
    · rw [List.length_append]; simp; omega
    · omega

theorem blkT_size (E : Ents) (m n : Nat) : (blkT E m n).size = (bod E m n).size + 4 * (beg E m n).length + 8 := by
  rw [blkT, ByteArray.size_append, ByteArray.size_append, ByteArray.size_append, fx4_size, fx4_size, fxs_size]

theorem blkOk_row {E : Ents} {len : Nat} {every : Int} (h : rowOkB E len = false) : blkOk E len every = false := by simp [blkOk, h]
theorem blkOk_len {E : Ents} {every : Int} : blkOk E 0 every = false := by simp [blkOk]
theorem blkOk_every {E : Ents} {len : Nat} {every : Int} (h : everyB every = false) : blkOk E len every = false := by simp [blkOk, h]
theorem blkOk_great {E : Ents} {len : Nat} {every : Int} (h : 60000 < (blkT E every.toNat len).size) : blkOk E len every = false := by
  unfold blkOk
  rw [decide_eq_false (p := (blkT E every.toNat len).size ≤ 60000) (by omega), Bool.and_false]
theorem blkOk_yes {E : Ents} {len : Nat} {every : Int} (h1 : rowOkB E len = true) (h2 : len ≠ 0) (h3 : everyB every = true) (h4 : (blkT E every.toNat len).size ≤ 60000) : blkOk E len every = true := by simp [blkOk, h1, h2, h3, h4]

theorem ret_blkN {E : Ents} {len : Nat} {every : Int} (h : blkOk E len every = false) : Ending.returned (.tuple #[.string ⟨#[]⟩, .bool false]) = .returned (.tuple #[.string (blkR E len every), .bool (blkOk E len every)]) := by
  rw [blkR, h]; rfl
theorem ret_blkY {E : Ents} {len : Nat} {every : Int} {s : ByteArray} (h : blkOk E len every = true) (hs : s = blkT E every.toNat len) : Ending.returned (.tuple #[.string s, .bool true]) = .returned (.tuple #[.string (blkR E len every), .bool (blkOk E len every)]) := by
  rw [blkR, h, hs]; rfl

theorem implEntriesB {E : Ents} {len : Nat} {a : Option Addr} {cap : Nat} {w0 : World} (hl : len ≤ 1048576) (hS : EntAt w0 w0.heap.size a len E) (w : World) (hB : Below w0.heap.size w0 w) :
    Calls Try.prog 21 #[.slice a len cap] w fun e w' => e = .returned (.bool (rowOkB E len)) ∧ Below w.heap.size w w' := impl_EntriesOk a len cap E w hl ((hS.below hB).mono hB.size)

end Go.Proofs.Ytljmfdcilnbjaac
