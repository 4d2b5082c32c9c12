/- The law FnSums: a byte with one bit turned over gives another sum. -/
import Derived.Test.YtdiglhphoplplaaDraw
import Derived.Test.YtdiglhphoplplaaCrc
import Derived.Laws.IdiomStrings
namespace Go.Proofs.Ytdiglhphoplplaa
open Go.RowKit

theorem laws_bigS (a : Option Addr) (len cap : Nat) (hl : len ≤ maxLen) (w : World) :
    Calls Try.prog 11 #[.slice a len cap] w fun e w' => e = .returned (.bool (decide (1048576 < len))) ∧ w = w' := by
  unfold maxLen at hl
  by_cases h : 1048576 < len
  · have h' : (1048576 : Int) < (len : Int) := by omega
    go_enter Try.func11, Try.ntmps11
    go_wp2
    go_ret
    exact ⟨congrArg (fun b => Ending.returned (.bool b)) (decide_eq_true h).symm, rfl⟩
  · have h' : ¬ ((1048576 : Int) < (len : Int)) := by omega
    go_enter Try.func11, Try.ntmps11
    go_wp2
    go_ret
    exact ⟨rfl, rfl⟩

theorem open_rdS (W : World) (a : Option Addr) (len cap : Nat) (W0 : World) (h0 : Below W0.heap.size W0 W) :
    Calls Try.prog 28 #[.slice a len cap] W fun e w' => e = .returned (.pointer (some ⟨W.heap.size, 0, none⟩)) ∧ Rd W0 w' W.heap.size a len cap ∧ Below W.heap.size W w' := by
  go_enter Try.func28, Try.ntmps28
  go_wp2
  go_ret
  refine ⟨rfl, ⟨h0.size, by simp, h0.trans ((Below.refl _ _).alloc h0.size _), ?_, ⟨0, Nat.zero_le _, ?_⟩, ?_⟩, (Below.refl _ _).alloc (Nat.le_refl _) _⟩
  · simp
  · simp
  · simp

theorem draw_Crc (W w : World) (a : Option Addr) (len cap : Nat) (hc : IsCode W a len) (hl : len ≤ 1048576) (hb : Below W.heap.size W w) :
    Calls Try.prog 12 #[.slice a len cap] w fun e w' => ∃ s : ByteArray, e = .returned (.string s) ∧ s.size ≤ 20 ∧ Below w.heap.size w w' := by
  go_enter Try.func12, Try.ntmps12
  go_wp2_with fail
  refine (open_rdS _ a len cap W hb).mono ?_
  rintro e w1 ⟨rfl, hr, hb1⟩
  go_wp2_with fail
  refine (rd_bytes W _ _ a len cap 20 (by omega) (by omega) hc hl hr).mono ?_
  rintro e w2 ⟨s, rfl, hs, hr2, hm⟩
  have hb2 := hb1.trans (hm.below hb1.size (Nat.le_refl _))
  clear hr hr2 hm hb1 hc
  go_wp2
  go_ret
  exact ⟨s, rfl, by omega, hb2⟩

/-- The bytes of a text as numbers, one of them another one. -/
def turned (s : ByteArray) (k : Nat) (x : Int) : ByteArray := strOfNums ((s.data.toList.map fun b => (b.toNat : Int)).set k x)

theorem turned_size (s : ByteArray) (k : Nat) (x : Int) : (turned s k x).size = s.size := by
  unfold turned
  rw [strOfNums_size]
  simp

theorem turned_data (s : ByteArray) (k : Nat) (x : Int) : (turned s k x).data.toList = s.data.toList.set k (UInt8.ofNat x.toNat) := by
  unfold turned
  rw [strOfNums_data, List.map_set, List.map_map]
  congr 1
  rw [List.map_congr_left (g := id)]
  · simp
  · intro b _
    simp

theorem set_split {α : Type} (l : List α) (k : Nat) (x : α) (h : k < l.length) : l.set k x = l.take k ++ x :: l.drop (k + 1) := by
  rw [List.set_eq_take_append_cons_drop, if_pos h]

theorem crc_turned (s : ByteArray) (k : Nat) (x : Int) (h : k < s.size) (h0 : 0 ≤ x) (h1 : x ≤ 255) (hne : x ≠ ((s[k]'h).toNat : Int)) : crc (turned s k x) ≠ crc s := by
  intro e
  have hl : k < s.data.toList.length := by simpa using h
  have b1 := cfold_bd (turned s k x).data.toList 4294967295 (by omega) (by omega)
  have b2 := cfold_bd s.data.toList 4294967295 (by omega) (by omega)
  have e2 := xor_u32_inj _ _ 4294967295 b1.1 b1.2 b2.1 b2.2 (by omega) (by omega) e
  rw [turned_data, set_split _ _ _ hl] at e2
  have e3 : s.data.toList = s.data.toList.take k ++ (s[k]'h) :: s.data.toList.drop (k + 1) := by
    rw [← drop_at s k h, List.take_append_drop]
  have hx : UInt8.ofNat x.toNat ≠ s[k]'h := by
    intro hx
    apply hne
    rw [← hx]
    simp
    omega
  refine cfold_ne (s.data.toList.take k) (s.data.toList.drop (k + 1)) (UInt8.ofNat x.toNat) (s[k]'h) 4294967295 (by omega) (by omega) hx ?_
  rw [e2]
  exact congrArg (fun l => cfold l 4294967295) e3

theorem bit_turned : ∀ b : Fin 256, ∀ j : Fin 8, b.val ^^^ 2 ^ j.val ≠ b.val ∧ b.val ^^^ 2 ^ j.val < 256 := by decide +kernel

theorem bit_turned_int (b : Int) (j : Nat) (h0 : 0 ≤ b) (h1 : b ≤ 255) (hj : j < 8) : bits .xor .u8 b (2 ^ j) ≠ b ∧ 0 ≤ bits .xor .u8 b (2 ^ j) ∧ bits .xor .u8 b (2 ^ j) ≤ 255 := by
  have hp : (2 : Nat) ^ j < 256 := by
    have : (2 : Nat) ^ j ≤ 2 ^ 7 := Nat.pow_le_pow_right (by omega) (by omega)
    omega
  obtain ⟨B, rfl⟩ := Int.eq_ofNat_of_zero_le h0
  have e : ((2 : Int) ^ j) = ((2 ^ j : Nat) : Int) := by simp
  rw [e, u8_xor_nat B (2 ^ j) (by omega) hp]
  have := bit_turned ⟨B, by omega⟩ ⟨j, hj⟩
  simp only at this
  omega

theorem bit_turned_mod (b : Int) (j : Nat) (h0 : 0 ≤ b) (h1 : b ≤ 255) (hj : j < 8) : bits .xor .u8 b (2 ^ j % 256) ≠ b ∧ 0 ≤ bits .xor .u8 b (2 ^ j % 256) ∧ bits .xor .u8 b (2 ^ j % 256) ≤ 255 := by
  have e : (2 : Int) ^ j % 256 = 2 ^ j := by
    have : j = 0 ∨ j = 1 ∨ j = 2 ∨ j = 3 ∨ j = 4 ∨ j = 5 ∨ j = 6 ∨ j = 7 := by omega
    rcases this with rfl | rfl | rfl | rfl | rfl | rfl | rfl | rfl <;> rfl
  rw [e]
  exact bit_turned_int b j h0 h1 hj

/-- A fresh row of a text's bytes. -/
structure Fresh (W w : World) (s : ByteArray) : Prop where
  cell : ∀ i (h : i < s.size), w.cell? ⟨W.heap.size, i, none⟩ = some (.int .u8 ((s[i]'h).toNat : Int))
  free : ∀ i, i < s.size → w.frozen? ⟨W.heap.size, i, none⟩ = false
  low : Below W.heap.size W w

theorem fresh_bytes (w : World) (s : ByteArray) : ∃ (C : Nat) (w1 : World), (convert 9 25 (.string s)).run Try.prog w = .ok (.slice (some ⟨w.heap.size, 0, none⟩) s.size C) w1 ∧ Fresh w w1 s := by
  refine ⟨_, _, run_bytes_of_string (P := Try.prog) w 9 25 5 s Try.underlying9 Try.underlying25 Try.underlying5, ?_⟩
  have hsz : s.size ≤ (bytesRow s (grownCap w s.size 0 5)).size := by unfold bytesRow; simp
  have hz : w.drew.heap.size = w.heap.size := rfl
  refine ⟨fun i h => ?_, fun i h => ?_, ?_⟩
  · rw [← hz, World.cell?_alloc_mark]
    unfold bytesRow
    rw [Array.getElem?_append_left (by simpa using h), Array.getElem?_map, Array.getElem?_eq_getElem (by simpa using h)]
    rfl
  · rw [← hz, World.frozen?_alloc_mark]
    simp
    omega
  · exact (Below.drew (Below.refl _ _)).alloc (Nat.le_refl _) _

theorem back_text {W w1 : World} {s : ByteArray} {C k : Nat} (h : Fresh W w1 s) (hk : k < s.size) (x : Int) :
    (convert 25 9 (.slice (some ⟨W.heap.size, 0, none⟩) s.size C)).run Try.prog (w1.setCell ⟨W.heap.size, k, none⟩ (.int .u8 x)) = .ok (.string (turned s k x)) (w1.setCell ⟨W.heap.size, k, none⟩ (.int .u8 x)) := by
  refine run_convert_bytes_arg (P := Try.prog) _ 25 5 Try.underlying25 Try.underlying5 W.heap.size 0 s.size C _ (by simp) (fun i hi => ?_) 9 Try.underlying9
  rw [Nat.zero_add]
  have hl : i < s.data.toList.length := by simpa using hi
  by_cases e : k = i
  · subst e
    have hc := h.cell k hk
    rw [World.cell?_setCell_same (h := hc)]
    have e : ((s.data.toList.map fun b => (b.toNat : Int)).set k x)[k]? = some x := by rw [List.getElem?_set, if_pos rfl, if_pos (by simpa using hl)]
    rw [List.getD, e]; rfl
  · rw [World.cell?_setCell_other (h := by intro h; exact e (Addr.mk.inj h).2.1), h.cell i hi]
    have e : ((s.data.toList.map fun b => (b.toNat : Int)).set k x)[i]? = some (((s[i]'hi).toNat : Nat) : Int) := by
      rw [List.getElem?_set, if_neg e, List.getElem?_map, List.getElem?_eq_getElem hl]; rfl
    rw [List.getD, e]; rfl

end Go.Proofs.Ytdiglhphoplplaa
