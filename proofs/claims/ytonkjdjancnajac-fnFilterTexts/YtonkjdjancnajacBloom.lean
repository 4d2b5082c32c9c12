/- BloomOf of the program: bits of words, set by a closure. -/
import Derived.Test.YtonkjdjancnajacBits
import Derived.Test.YtonkjdjancnajacProbe
import Derived.Test.YtonkjdjancnajacUsers
import Derived.Test.YtonkjdjancnajacRegs
import Derived.Test.YtonkjdjancnajacFRow
namespace Go.Proofs.Ytonkjdjancnajac
set_option maxRecDepth 100000
open Go.RowKit Go.Deep

def wordAt (B : Nat → Bool) (q : Nat) : Int := (packN (fun r => B (64 * q + r)) 64 : Nat)
def byteAt (B : Nat → Bool) (j : Nat) : Int := (packN (fun r => B (8 * j + r)) 8 : Nat)
/-- 125 words. -/
def wordsOf (B : Nat → Bool) : Array Value := ((List.range 125).map fun q => Value.int .u64 (wordAt B q)).toArray
def bytesOf (B : Nat → Bool) (n : Nat) : List Int := (List.range n).map (byteAt B)
def noBits : Nat → Bool := fun _ => false

theorem wordAt_bd (B : Nat → Bool) (q : Nat) : 0 ≤ wordAt B q ∧ wordAt B q < 18446744073709551616 := by
  have := packN_lt (fun r => B (64 * q + r)) 64
  unfold wordAt; omega
theorem byteAt_bd (B : Nat → Bool) (q : Nat) : 0 ≤ byteAt B q ∧ byteAt B q ≤ 255 := by
  have := packN_lt (fun r => B (8 * q + r)) 8
  unfold byteAt; omega
theorem wordsOf_size (B : Nat → Bool) : (wordsOf B).size = 125 := by simp [wordsOf]
theorem wordsOf_get (B : Nat → Bool) (q : Nat) (h : q < 125) : (wordsOf B)[q]? = some (.int .u64 (wordAt B q)) := by
  simp [wordsOf, h]
theorem wordsOf_one (B : Nat → Bool) : (wordsOf B).all (·.oneCell') = true := by
  rw [Array.all_eq_true_iff_forall_mem]
  intro v hv
  simp [wordsOf] at hv
  obtain ⟨q, _, rfl⟩ := hv
  rfl
theorem wordsOf_set (B : Nat → Bool) (b : Nat) : (wordsOf B).setIfInBounds (b / 64) (.int .u64 ((packN (fun r => B (64 * (b / 64) + r)) 64 ||| 2 ^ (b % 64) : Nat) : Int)) = wordsOf (bset B b) := by
  apply Array.ext_getElem?
  intro q
  rw [Array.getElem?_setIfInBounds]
  by_cases hq : q < 125
  · rw [wordsOf_get _ _ hq, wordsOf_get _ _ hq]
    have hb := bset_block B 64 b q (by omega)
    by_cases e : b / 64 = q
    · subst e
      rw [if_pos rfl, if_pos (by rw [wordsOf_size]; exact hq)]
      unfold wordAt
      rw [hb, if_pos rfl]
    · rw [if_neg e]
      unfold wordAt
      rw [hb, if_neg (fun h => e h.symm)]
  · have h1 : (wordsOf B)[q]? = none := by simp [wordsOf]; omega
    have h2 : (wordsOf (bset B b))[q]? = none := by simp [wordsOf]; omega
    rw [h1, h2, wordsOf_size]
    by_cases e : b / 64 = q
    · subst e; simp [hq]
    · simp [e]

/-- The bits of the first k probes of a user besides. -/
def addP (B : Nat → Bool) (u : ByteArray) (n : Nat) : Nat → Nat → Bool
  | 0 => B
  | k + 1 => bset (addP B u n k) (probeAt u k % (8 * n : Nat)).toNat

/-- The bits of the first k users. -/
def addU (S : Nat → ByteArray) (n pr : Nat) : Nat → Nat → Bool
  | 0 => noBits
  | k + 1 => addP (addU S n pr k) (S k) n pr

theorem mv_set {g o : Nat} {W w : World} {v : Value} (h : ∀ k, k < W.heap.size → k ≠ g → w.heap[k]? = W.heap[k]?) : ∀ k, k < W.heap.size → k ≠ g → (w.setCell ⟨g, o, none⟩ v).heap[k]? = W.heap[k]? := fun k hk hg => by
  rw [heap_setCell_other _ _ _ _ (by simpa using hg)]; exact h k hk hg

/-- Only block g's cells may have turned. -/
structure Only (g : Nat) (w w' : World) : Prop where
  os : w'.os = w.os
  tape : w'.tape = w.tape
  output : w'.output = w.output
  size : w'.heap.size = w.heap.size
  block : ∀ k, k ≠ g → w'.heap[k]? = w.heap[k]?

theorem Only.refl (g : Nat) (w : World) : Only g w w := ⟨rfl, rfl, rfl, rfl, fun _ _ => rfl⟩
theorem Only.trans {g : Nat} {a b c : World} (h : Only g a b) (k : Only g b c) : Only g a c :=
  ⟨k.os.trans h.os, k.tape.trans h.tape, k.output.trans h.output, k.size.trans h.size, fun i hg => (k.block i hg).trans (h.block i hg)⟩
theorem Only.setCell (g o : Nat) (w : World) (v : Value) : Only g w (w.setCell ⟨g, o, none⟩ v) :=
  ⟨rfl, rfl, rfl, by simp [World.setCell], fun k hk => heap_setCell_other _ _ _ _ (by simpa using hk)⟩
theorem Only.below {g B : Nat} {W w w' : World} (hb : Below B W w) (h : Only g w w') (hg : B ≤ g) : Below B W w' :=
  ⟨h.os.trans hb.os, h.tape.trans hb.tape, h.output.trans hb.output, by rw [h.size]; exact hb.size, fun k hk => (h.block k (by omega)).trans (hb.block k hk)⟩

theorem made_row (w : World) (n : Nat) : FRow (w.alloc (.cells (madeCells #[.int .u8 0] n) 5)) w.heap.size (List.replicate n 0) := fun i x hx => by
  have h := World.rowIs_made w (.int .u8 0) n 5
  rw [List.getElem?_replicate] at hx
  by_cases hi : i < n
  · rw [if_pos hi] at hx
    obtain rfl : 0 = x := by simpa using hx
    exact ⟨h.cell hi, h.frozen i⟩
  · rw [if_neg hi] at hx; cases hx

theorem mk_bytes (n : Nat) (hn : n ≤ 1000) (w : World) : (Instr.makeSlice 33 (.int .i64 (n : Int)) (.int .i64 (n : Int))).run Try.prog w = .ok (.slice (some ⟨w.heap.size, 0, none⟩) n n) (w.alloc (.cells (madeCells #[.int .u8 0] n) 5)) :=
  run_make_row' 33 5 (.int .u8 0) 1 Try.underlying33 (by kernel_rfl) rfl .i64 .i64 n (by omega) (by omega) w

theorem byte_of_word (B : Nat → Bool) (k : Nat) : IntKind.u8.wrap (wordAt B (k / 8) / 2 ^ (8 * (k % 8))) = byteAt B k := by
  have h := packN_byte B k
  have e : IntKind.u8.wrap (wordAt B (k / 8) / 2 ^ (8 * (k % 8))) = wordAt B (k / 8) / 2 ^ (8 * (k % 8)) % 256 := by simp [IntKind.wrap, IntKind.signed, IntKind.bits]
  rw [e]
  unfold wordAt byteAt
  rw [← h, show ((2 : Int) ^ (8 * (k % 8))) = ((2 ^ (8 * (k % 8)) : Nat) : Int) by simp]
  simp

end Go.Proofs.Ytonkjdjancnajac
