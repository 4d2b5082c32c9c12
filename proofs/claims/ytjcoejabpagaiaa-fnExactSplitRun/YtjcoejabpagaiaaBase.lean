/- Plain facts on bytes and worlds, for the walks of the seat. No program in sight. -/
import Derived.WalkKit
import Derived.ProofKit
import Derived.OpenShut
import Derived.ShutString
import Derived.Below
import Derived.ChangeOld
import Derived.Laws.BytesArg
import Derived.Laws.BitsAllLaws
import Derived.WalkLawsBesides
import Derived.BigQuiet
import Derived.Deep.QuietTactic
import Derived.Handy
import Derived.Deep.RegionWith
namespace Go.Proofs.Ytjcoejabpagaiaa
set_option maxRecDepth 100000
open Go.RowKit

theorem hide {p : Prop} (h : p) : Hid p := h

/-- Byte i of a text, as a number (0 where there is none). -/
def bt (s : ByteArray) (i : Nat) : Int := ((s.data.toList.getD i 0).toNat : Int)

theorem bt_of (s : ByteArray) (i : Nat) (h : i < s.size) : (((s[i]'h).toNat : Nat) : Int) = bt s i := by
  have : (s[i]'h) = s.data.toList.getD i 0 := by
    simp only [List.getD, ByteArray.getElem_eq_getElem_data]
    rw [List.getElem?_eq_getElem (by simpa using h)]; simp
  rw [bt, this]

theorem bt_bd (s : ByteArray) (i : Nat) : 0 ≤ bt s i ∧ bt s i ≤ 255 := by
  unfold bt
  have := UInt8.toNat_lt (s.data.toList.getD i 0)
  omega

theorem or_nat (a q k : Nat) (h : a < 2 ^ k) : a ||| 2 ^ k * q = a + 2 ^ k * q := by
  rw [Nat.or_comm, ← Nat.two_pow_add_eq_or_of_lt h, Nat.add_comm]

theorem or_u32 (a q : Int) (k : Nat) (h0 : 0 ≤ a) (h1 : a < 2 ^ k) (hq : 0 ≤ q) (hb : a + 2 ^ k * q < 4294967296) : bits .or .u32 a (2 ^ k * q) = a + 2 ^ k * q := by
  obtain ⟨A, rfl⟩ := Int.eq_ofNat_of_zero_le h0
  obtain ⟨Q, rfl⟩ := Int.eq_ofNat_of_zero_le hq
  have e : ((2 : Int) ^ k * (Q : Int)) = ((2 ^ k * Q : Nat) : Int) := by simp
  have hA : A < 2 ^ k := by
    have : ((A : Nat) : Int) < ((2 ^ k : Nat) : Int) := by simpa using h1
    omega
  have hs : A + 2 ^ k * Q < 4294967296 := by
    rw [e] at hb; omega
  rw [e, u32_or_nat A (2 ^ k * Q) (by omega) (by omega), or_nat A Q k hA]
  omega

theorem or_u64 (a q : Int) (k : Nat) (h0 : 0 ≤ a) (h1 : a < 2 ^ k) (hq : 0 ≤ q) (hb : a + 2 ^ k * q < 18446744073709551616) : bits .or .u64 a (2 ^ k * q) = a + 2 ^ k * q := by
  obtain ⟨A, rfl⟩ := Int.eq_ofNat_of_zero_le h0
  obtain ⟨Q, rfl⟩ := Int.eq_ofNat_of_zero_le hq
  have e : ((2 : Int) ^ k * (Q : Int)) = ((2 ^ k * Q : Nat) : Int) := by simp
  have hA : A < 2 ^ k := by
    have : ((A : Nat) : Int) < ((2 ^ k : Nat) : Int) := by simpa using h1
    omega
  have hs : A + 2 ^ k * Q < 18446744073709551616 := by
    rw [e] at hb; omega
  rw [e, u64_or_nat A (2 ^ k * Q) (by omega) (by omega), or_nat A Q k hA]
  omega

/-- The four bytes of a number, the lowest first. -/
def fx4 (x : Int) : ByteArray := strOfNums [x % 256, x / 256 % 256, x / 65536 % 256, x / 16777216 % 256]

theorem fx4_size (x : Int) : (fx4 x).size = 4 := by simp [fx4, strOfNums_size]

/-- The number whose four bytes a text begins with. -/
def tf4 (s : ByteArray) : Int := bt s 0 + 256 * bt s 1 + 65536 * bt s 2 + 16777216 * bt s 3

theorem tf4_bd (s : ByteArray) : 0 ≤ tf4 s ∧ tf4 s ≤ 4294967295 := by
  have h0 := bt_bd s 0; have h1 := bt_bd s 1; have h2 := bt_bd s 2; have h3 := bt_bd s 3
  unfold tf4; omega

/-- As the Go text puts the four bytes together. -/
theorem tf4_of (a b c d : Int) (ha : 0 ≤ a ∧ a ≤ 255) (hb : 0 ≤ b ∧ b ≤ 255) (hc : 0 ≤ c ∧ c ≤ 255) (hd : 0 ≤ d ∧ d ≤ 255) :
    bits .or .u32 (bits .or .u32 (bits .or .u32 (a % 4294967296) (b % 4294967296 * 256 % 4294967296)) (c % 4294967296 * 65536 % 4294967296)) (d % 4294967296 * 16777216 % 4294967296)
      = a + 256 * b + 65536 * c + 16777216 * d := by
  have e0 : a % 4294967296 = a := by omega
  have e1 : b % 4294967296 * 256 % 4294967296 = 2 ^ 8 * b := by omega
  have e2 : c % 4294967296 * 65536 % 4294967296 = 2 ^ 16 * c := by omega
  have e3 : d % 4294967296 * 16777216 % 4294967296 = 2 ^ 24 * d := by omega
  rw [e0, e1, e2, e3, or_u32 a b 8 (by omega) (by omega) (by omega) (by omega), or_u32 _ c 16 (by omega) (by omega) (by omega) (by omega), or_u32 _ d 24 (by omega) (by omega) (by omega) (by omega)]
  omega

/-- What a conversion of four fresh byte cells gives. -/
theorem conv4 {P : Program} (src e dst : TypeId) (hs : P.underlying src = some (.slice e)) (he : P.underlying e = some (.int .u8)) (hd : P.underlying dst = some .string) (w : World) (a b c d : Int) :
    (convert src dst (.slice (some ⟨w.heap.size, 0, none⟩) 4 4)).run P (w.alloc (.cells #[.int .u8 a, .int .u8 b, .int .u8 c, .int .u8 d] e)) = .ok (.string (strOfNums [a, b, c, d])) (w.alloc (.cells #[.int .u8 a, .int .u8 b, .int .u8 c, .int .u8 d] e)) := by
  refine run_convert_bytes_arg (P := P) _ src e hs he w.heap.size 0 4 4 [a, b, c, d] rfl (fun i hi => ?_) dst hd
  rcases i with _ | _ | _ | _ | i <;> first | omega | simp

theorem and2 {a b : Bool} (h : a = true) (k : b = true) : (a && b) = true := by rw [h, k]; rfl

/-- A call behind others: of what was there at the first one nothing has turned. -/
theorem calls_from {P : Program} {f : FuncId} {args : Array Value} {W w : World} {v : Value} (hb : Below W.heap.size W w) (h : Calls P f args w fun e w' => e = .returned v ∧ Below w.heap.size w w') :
    Calls P f args w fun e w' => e = .returned v ∧ Below W.heap.size W w' :=
  h.mono fun _ _ h => ⟨h.1, hb.trans (h.2.mono hb.size)⟩

/-- What was there at W, behind calls that turned nothing of it. -/
theorem bfacts {W w1 : World} (hb : Below W.heap.size W w1) : (∀ b o, b < W.heap.size → w1.cell? ⟨b, o, none⟩ = W.cell? ⟨b, o, none⟩) ∧ (∀ b o, b < W.heap.size → w1.frozen? ⟨b, o, none⟩ = W.frozen? ⟨b, o, none⟩) ∧ W.heap.size ≤ w1.heap.size :=
  ⟨fun b o h => hb.cell (p := ⟨b, o, none⟩) h, fun b o h => hb.frozen (p := ⟨b, o, none⟩) h, hb.size⟩

theorem below_of_alloc {w w1 : World} {o : Obj} (hb : Below (w.alloc o).heap.size (w.alloc o) w1) : Below w.heap.size w w1 :=
  ((Below.refl _ _).alloc (Nat.le_refl _) o).trans (hb.mono (by simp))

/-- Two limbs of an ending. -/
theorem ret_int {k : IntKind} {a b : Int} (h : a = b) : Ending.returned (.int k a) = .returned (.int k b) := by rw [h]

/-- 'a[:k]' of an array variable of one-cell elements. -/
theorem slice_arr {P : Program} (t e : TypeId) (n : Nat) (ht : P.underlying t = some (.array n e)) (hs : (P.info? e).map (·.size) = some 1) (a : Addr) (k : Nat) (hk : k ≤ n) (W : World) :
    (Instr.sliceAt t (.pointer (some a)) none (some (.int .i64 (k : Int))) none).run P W = .ok (.slice (some a) k n) W := by
  have hn : P.arrayLen t = n := by simp [Program.arrayLen, ht]
  have hel : P.elem t = e := by simp [Program.elem, ht]
  obtain ⟨i, hi, hi1⟩ := Option.map_eq_some_iff.1 hs
  rw [run_sliceAt_array_h W t a (by rw [hn, hel]; exact ht) .i64 (k : Int) (by omega) (by omega), hn, hel]
  have hz : (sizeOf e).run P W = .ok 1 W := by simp [sizeOf, typeInfo, hi, hi1]
  rw [hz]
  simp only [Result.andThen, slicedAt, Int.toNat_natCast, Nat.zero_mul, Nat.sub_zero]
  split
  · rfl
  · simp [Addr.add]

end Go.Proofs.Ytjcoejabpagaiaa
