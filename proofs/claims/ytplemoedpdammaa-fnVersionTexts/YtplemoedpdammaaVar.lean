/- PutVar, of the program and of the model: groups of seven bits, the lowest first. -/
import Derived.Test.YtplemoedpdammaaRows
import Derived.Test.YtplemoedpdammaaOwn
namespace Go.Proofs.Ytplemoedpdammaa
set_option maxRecDepth 100000
open Go.RowKit

/-- The groups of n, at most f + 1 of them. -/
def pvs : Nat → Int → List Int
  | 0, n => [n]
  | f + 1, n => if n < 128 then [n] else (n % 128 + 128) :: pvs f (n / 128)

theorem pvs_lt (f : Nat) (n : Int) (h : n < 128) : pvs f n = [n] := by
  cases f with
  | zero => rfl
  | succ f => simp [pvs, h]
theorem pvs_ge (f : Nat) (n : Int) (h : ¬ n < 128) : pvs (f + 1) n = (n % 128 + 128) :: pvs f (n / 128) := by simp [pvs, h]
theorem pvs_len (f : Nat) (n : Int) : 1 ≤ (pvs f n).length ∧ (pvs f n).length ≤ f + 1 := by
  induction f generalizing n with
  | zero => simp [pvs]
  | succ f ih =>
    simp only [pvs]
    split
    · simp
    · simp; have := ih (n / 128); omega

/-- A number of 64 bits has ten groups at most. -/
def pv (n : Int) : ByteArray := strOfNums (pvs 9 n)

set_option maxRecDepth 100000 in
theorem spec_PutVar (n : Int) (h0 : 0 ≤ n) (h1 : n < 18446744073709551616) (w : World) :
    Calls Try.prog 56 #[.int .u64 n] w fun e w' => e = .returned (.string (pv n)) ∧ Below w.heap.size w w' := by
  have hi5 : (Try.prog.info? 5).map (fun i => (i.zero, i.size, i.bytes)) = some (some (.int .u8 0), 1, 1) := by kernel_rfl
  have hconv := conv_own (P := Try.prog) 33 5 9 Try.underlying33 Try.underlying5 Try.underlying9
  go_enter Try.func56, Try.ntmps56
  go_wp2
  go_loopw [0, 3] (fun x v wr => ∃ (f : Nat) (m : Int) (xs : List Int), x = .int .u64 m ∧ 0 ≤ m ∧ m < 128 ^ (f + 1) ∧ m < 18446744073709551616 ∧ f ≤ 9 ∧ xs.length + f = 9 ∧ Own wr w.heap.size 5 v (xs.map (Value.int .u8)) ∧ Below w.heap.size w wr ∧ Hid (pvs 9 n = xs ++ pvs f m))
    (fun x _ _ => (intOf x).toNat)
  case atStart => exact ⟨9, n, [], rfl, h0, by omega, h1, by omega, rfl, Own.lit w _ _ [] 0 rfl (Nat.le_refl _) (by decide), (Below.refl _ _).alloc (Nat.le_refl _) _, rfl⟩
  case round =>
    obtain ⟨f, m, xs, rfl, hm0, hm1, hm2, hf, hlen, hown, hb, HP⟩ := hrel
    have hsz := hb.size
    by_cases hlt : m < 128
    · go_wp2_with (first
        | (at_builtin; refine wpList_append_one rfl _ _ 33 rfl 5 Try.underlying33 hi5 rfl (by decide) w.heap.size _ _ (xs.map (Value.int .u8)) (by rfl) (by rfl) hown rfl hsz ?c1 ?_))
      case c1 => first | omega | (simp; omega)
      intro v' w1 hown' hb'
      have hw := hb.trans hb'
      have hc := hconv w1 w.heap.size v' (xs ++ [m]) (by simpa using hown')
      have he : xs ++ [m] = pvs 9 n := by rw [HP.out, pvs_lt f m hlt]
      rw [he] at hc
      clear hconv he hown hown' hb hb'
      go_wp2
      go_ret
      exact ⟨rfl, hw⟩
    · go_wp2_with (first
        | (at_builtin; refine wpList_append_one rfl _ _ 33 rfl 5 Try.underlying33 hi5 rfl (by decide) w.heap.size _ _ (xs.map (Value.int .u8)) (by rfl) (by rfl) hown rfl hsz ?c1 ?_))
      case c1 => first | omega | (simp; omega)
      intro v' w1 hown' hb'
      have hw := hb.trans hb'
      obtain ⟨g, rfl⟩ : ∃ g, f = g + 1 := by
        cases f with
        | zero => exact absurd hm1 (by omega)
        | succ g => exact ⟨g, rfl⟩
      have hpow : (128 : Int) ^ (g + 1 + 1) = 128 * 128 ^ (g + 1) := by rw [Int.pow_succ, Int.mul_comm]
      have hq : m / 128 < 128 ^ (g + 1) := by rw [hpow] at hm1; omega
      have he : pvs 9 n = (xs ++ [m % 128 + 128]) ++ pvs g (m / 128) := by rw [HP.out, pvs_ge g m (by omega)]; simp
      have HE : Hid (pvs 9 n = (xs ++ [m % 128 + 128]) ++ pvs g (m / 128)) := he
      clear hconv he hown hb hb' hpow HP
      go_wp2
      go_roundw
      case rel => exact ⟨g, m / 128, xs ++ [m % 128 + 128], rfl, by omega, hq, by omega, by omega, by simp; omega, by simpa using hown', hw, HE⟩
      case measure => simp [intOf]; omega

/-- The ten cells behind the groups that were made. -/
def cells10 (xs : List Int) : Array Value := (xs.map (Value.int .u8) ++ List.replicate (10 - xs.length) (Value.int .u8 0)).toArray

theorem or128_fin : ∀ a : Fin 256, (a.val ||| 128) = a.val % 128 + 128 := by decide +kernel
theorem or128 (m : Int) : bits .or .u8 (m % 256) 128 = m % 128 + 128 := by
  rw [u8_or (m % 256) 128 (by omega) (by omega) (by omega) (by omega)]
  have := or128_fin ⟨(m % 256).toNat, by omega⟩
  simp only at this
  rw [show (128 : Int).toNat = 128 from rfl, this]
  omega

theorem cells10_at (xs : List Int) (h : xs.length ≤ 9) : (cells10 xs)[xs.length]? = some (.int .u8 0) := by
  unfold cells10
  rw [List.getElem?_toArray, List.getElem?_append_right (by simp)]
  simp only [List.length_map, Nat.sub_self]
  rw [List.getElem?_replicate_of_lt (by omega)]

theorem cells10_set (xs : List Int) (b : Int) (h : xs.length ≤ 9) : (cells10 xs).setIfInBounds xs.length (.int .u8 b) = cells10 (xs ++ [b]) := by
  apply Array.toList_inj.1
  unfold cells10
  simp only [Array.toList_setIfInBounds, List.map_append, List.length_append, List.map_cons, List.map_nil, List.length_cons, List.length_nil]
  have e : 10 - xs.length = (9 - xs.length) + 1 := by omega
  rw [e, List.replicate_succ]
  have e2 : 10 - (xs.length + (0 + 1)) = 9 - xs.length := by omega
  rw [e2]
  rw [List.set_append_right _ _ (by simp)]
  simp

theorem cells10_cell (w : World) (T : TypeId) (xs : List Int) (h : xs.length ≤ 9) : (w.alloc (.cells (cells10 xs) T)).cell? ⟨w.heap.size, xs.length, none⟩ = some (.int .u8 0) := by
  rw [World.cell?_alloc_at _ _ _ _ rfl]
  exact cells10_at xs h

theorem conv_cells10 {P : Program} (src e dst : TypeId) (hs : P.underlying src = some (.slice e)) (he : P.underlying e = some (.int .u8)) (hd : P.underlying dst = some .string) (w : World) (T : TypeId) (c : Nat) (xs : List Int) (n : Nat) (hn : xs.length = n) :
    (convert src dst (.slice (some ⟨w.heap.size, 0, none⟩) n c)).run P (w.alloc (.cells (cells10 xs) T)) = .ok (.string (strOfNums xs)) (w.alloc (.cells (cells10 xs) T)) := by
  refine run_convert_bytes_arg (P := P) _ src e hs he w.heap.size 0 n c xs hn (fun i hi => ?_) dst hd
  rw [World.cell?_alloc_at _ _ _ _ rfl]
  unfold cells10
  rw [List.getElem?_toArray, List.getElem?_append_left (by simp; omega)]
  rw [List.getElem?_map, List.getD]
  have : i < xs.length := by omega
  simp [List.getElem?_eq_getElem this]

set_option maxRecDepth 100000 in
theorem impl_PutVar (n : Int) (h0 : 0 ≤ n) (h1 : n < 18446744073709551616) (w : World) :
    Calls Try.prog 50 #[.int .u64 n] w fun e w' => e = .returned (.string (pv n)) ∧ Below w.heap.size w w' := by
  have hconv := conv_cells10 (P := Try.prog) 33 5 9 Try.underlying33 Try.underlying5 Try.underlying9 w 112
  go_enter Try.func50, Try.ntmps50
  go_wp2
  go_loopw [0, 4] (fun x i wr => ∃ (f : Nat) (m : Int) (xs : List Int), x = .int .u64 m ∧ i = .int .i64 xs.length ∧ 0 ≤ m ∧ m < 128 ^ (f + 1) ∧ m < 18446744073709551616 ∧ f ≤ 9 ∧ xs.length + f = 9 ∧ wr = w.alloc (.cells (cells10 xs) 112) ∧ Hid (pvs 9 n = xs ++ pvs f m))
    (fun x _ _ => (intOf x).toNat)
  case atStart => exact ⟨9, n, [], rfl, rfl, h0, by omega, h1, by omega, rfl, rfl, rfl⟩
  case round =>
    obtain ⟨f, m, xs, rfl, rfl, hm0, hm1, hm2, hf, hlen, rfl, HP⟩ := hrel
    have hcell := cells10_cell w 112 xs (by omega)
    have hl9 : xs.length ≤ 9 := by omega
    by_cases hlt : m < 128
    · have hC := cells10_set xs m (by omega)
      have hc := hconv 10 (xs ++ [m]) (xs.length + 1) (by simp)
      have he : xs ++ [m] = pvs 9 n := by rw [HP.out, pvs_lt f m hlt]
      rw [he] at hc hC
      have hsl := slice_arr (P := Try.prog) 112 5 10 Try.underlying112 (by kernel_rfl) ⟨w.heap.size, 0, none⟩ (xs.length + 1) (by omega)
      rw [show (((xs.length + 1 : Nat)) : Int) = (xs.length : Int) + 1 from by omega] at hsl
      clear hconv he
      go_wp2
      go_ret
      exact ⟨rfl, (Below.refl _ _).alloc (Nat.le_refl _) _⟩
    · have hC := cells10_set xs (m % 128 + 128) (by omega)
      obtain ⟨g, rfl⟩ : ∃ g, f = g + 1 := by
        cases f with
        | zero => exact absurd hm1 (by omega)
        | succ g => exact ⟨g, rfl⟩
      have hpow : (128 : Int) ^ (g + 1 + 1) = 128 * 128 ^ (g + 1) := by rw [Int.pow_succ, Int.mul_comm]
      have hq : m / 128 < 128 ^ (g + 1) := by rw [hpow] at hm1; omega
      have he : pvs 9 n = (xs ++ [m % 128 + 128]) ++ pvs g (m / 128) := by rw [HP.out, pvs_ge g m hlt]; simp
      have HE : Hid (pvs 9 n = (xs ++ [m % 128 + 128]) ++ pvs g (m / 128)) := he
      have HC : Hid ((cells10 xs).setIfInBounds xs.length (.int .u8 (m % 128 + 128)) = cells10 (xs ++ [m % 128 + 128])) := hC
      clear hconv he hpow HP hC
      go_wp2
      refine ⟨⟨g, m / 128, xs ++ [m % 128 + 128], rfl, by simp, by omega, hq, by omega, by omega, by simp; omega, ?_, HE⟩, by simp [intOf]; omega⟩
      rw [or128 m, HC.out]

end Go.Proofs.Ytplemoedpdammaa
