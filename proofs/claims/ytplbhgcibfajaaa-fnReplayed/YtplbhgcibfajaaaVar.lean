/- PutVar, of the program and of the model: groups of seven bits, the lowest first. -/
import Derived.Test.YtplbhgcibfajaaaRows
import Derived.Test.YtplbhgcibfajaaaOwn
namespace Go.Proofs.Ytplbhgcibfajaaa
set_option maxRecDepth 100000
open Go.RowKit

/-- The groups of n, at most f + 1 of them. -/
def pvs : Nat → Int → List Int
  | 0, n => [n]
  | f + 1, n => if n < 128 then [n] else (n % 128 + 128) :: pvs f (n / 128)

theorem pvs_lt (f : Nat) (n : Int) (h : n < 128) : pvs f n = [n] := by
  cases f with
  | zero => rfl
  | succ f => simp [pvs, h]
theorem pvs_ge (f : Nat) (n : Int) (h : ¬ n < 128) : pvs (f + 1) n = (n % 128 + 128) :: pvs f (n / 128) := by simp [pvs, h]
theorem pvs_len (f : Nat) (n : Int) : 1 ≤ (pvs f n).length ∧ (pvs f n).length ≤ f + 1 := by
  induction f generalizing n with
  | zero => simp [pvs]
  | succ f ih =>
    simp only [pvs]
    split
    · simp
    · simp; have := ih (n / 128); omega

/-- A number of 64 bits has ten groups at most. -/
def pv (n : Int) : ByteArray := strOfNums (pvs 9 n)

/-- The ten cells behind the groups that were made. -/
def cells10 (xs : List Int) : Array Value := (xs.map (Value.int .u8) ++ List.replicate (10 - xs.length) (Value.int .u8 0)).toArray

theorem or128_fin : ∀ a : Fin 256, (a.val ||| 128) = a.val % 128 + 128 := by decide +kernel
theorem or128 (m : Int) : bits .or .u8 (m % 256) 128 = m % 128 + 128 := by
  rw [u8_or (m % 256) 128 (by omega) (by omega) (by omega) (by omega)]
  have := or128_fin ⟨(m % 256).toNat, by omega⟩
  simp only at this
  rw [show (128 : Int).toNat = 128 from rfl, this]
  omega

theorem cells10_at (xs : List Int) (h : xs.length ≤ 9) : (cells10 xs)[xs.length]? = some (.int .u8 0) := by
  unfold cells10
  rw [List.getElem?_toArray, List.getElem?_append_right (by simp)]
  simp only [List.length_map, Nat.sub_self]
  rw [List.getElem?_replicate_of_lt (by omega)]

theorem cells10_set (xs : List Int) (b : Int) (h : xs.length ≤ 9) : (cells10 xs).setIfInBounds xs.length (.int .u8 b) = cells10 (xs ++ [b]) := by
  apply Array.toList_inj.1
  unfold cells10
  simp only [Array.toList_setIfInBounds, List.map_append, List.length_append, List.map_cons, List.map_nil, List.length_cons, List.length_nil]
  have e : 10 - xs.length = (9 - xs.length) + 1 := by omega
  rw [e, List.replicate_succ]
  have e2 : 10 - (xs.length + (0 + 1)) = 9 - xs.length := by omega
  rw [e2]
  rw [List.set_append_right _ _ (by simp)]
  simp

theorem cells10_cell (w : World) (T : TypeId) (xs : List Int) (h : xs.length ≤ 9) : (w.alloc (.cells (cells10 xs) T)).cell? ⟨w.heap.size, xs.length, none⟩ = some (.int .u8 0) := by
  rw [World.cell?_alloc_at _ _ _ _ rfl]
  exact cells10_at xs h

theorem conv_cells10 {P : Program} (src e dst : TypeId) (hs : P.underlying src = some (.slice e)) (he : P.underlying e = some (.int .u8)) (hd : P.underlying dst = some .string) (w : World) (T : TypeId) (c : Nat) (xs : List Int) (n : Nat) (hn : xs.length = n) :
    (convert src dst (.slice (some ⟨w.heap.size, 0, none⟩) n c)).run P (w.alloc (.cells (cells10 xs) T)) = .ok (.string (strOfNums xs)) (w.alloc (.cells (cells10 xs) T)) := by
  refine run_convert_bytes_arg (P := P) _ src e hs he w.heap.size 0 n c xs hn (fun i hi => ?_) dst hd
  rw [World.cell?_alloc_at _ _ _ _ rfl]
  unfold cells10
  rw [List.getElem?_toArray, List.getElem?_append_left (by simp; omega)]
  rw [List.getElem?_map, List.getD]
  have : i < xs.length := by omega
  simp [List.getElem?_eq_getElem this]

end Go.Proofs.Ytplbhgcibfajaaa
