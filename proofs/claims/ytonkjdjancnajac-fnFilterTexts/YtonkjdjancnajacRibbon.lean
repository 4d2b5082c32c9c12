/- RibbonMay, of the program and of the model: a user's equation. -/
import Derived.Test.YtonkjdjancnajacTz16
import Derived.Test.YtonkjdjancnajacHash
import Derived.Test.YtonkjdjancnajacFilter
import Derived.Test.YtonkjdjancnajacFRow
import Derived.Test.YtonkjdjancnajacNth
import Derived.Deep.RegionHeld3
namespace Go.Proofs.Ytonkjdjancnajac
set_option maxRecDepth 100000
open Go.RowKit

/-- Byte i of a text. -/
def bn (bs : ByteArray) (i : Nat) : Nat := (bs.data.toList.getD i 0).toNat
theorem bn_lt (bs : ByteArray) (i : Nat) : bn bs i < 256 := UInt8.toNat_lt _
theorem nums_bn (bs : ByteArray) (i : Nat) (h : i < bs.size) : (numsOf bs)[i]? = some (bn bs i : Int) := by
  have h' : i < bs.data.toList.length := by simpa using h
  simp only [numsOf, List.getElem?_map, bn, List.getD]
  rw [List.getElem?_eq_getElem h']
  rfl

def placeOf (h n : Nat) : Nat := h / 4294967296 % (n - 15)
def rowOf (h : Nat) : Nat := h % 65536 ||| 1
def sumOf (h : Nat) : Nat := h / 65536 % 128
theorem rowOf_lt (h : Nat) : rowOf h < 65536 := Nat.or_lt_two_pow (n := 16) (by omega) (by omega)
theorem placeOf_lt (h n : Nat) (hn : 16 ≤ n) : placeOf h n + 16 ≤ n := by
  have : h / 4294967296 % (n - 15) < n - 15 := Nat.mod_lt _ (by omega)
  unfold placeOf; omega

def hashS (seed : Int) (u : ByteArray) : Nat := (hash seed u).toNat
theorem hashS_eq (seed : Int) (u : ByteArray) : hash seed u = (hashS seed u : Int) := by
  have := hash_bd seed u
  unfold hashS; omega
theorem hashS_lt (seed : Int) (u : ByteArray) : hashS seed u < 18446744073709551616 := by
  have := hash_bd seed u
  unfold hashS; omega

theorem wrap64_in (n : Int) (h : -9223372036854775808 ≤ n ∧ n ≤ 9223372036854775807) : wrap64 n = n := by unfold wrap64; omega

theorem place_eq (H n : Nat) (hn : 16 ≤ n) (hn2 : n ≤ 1000) (d : Int) (hd : d = (n : Int) - 15) : wrap64 ((H : Int) / 4294967296 % d) = (placeOf H n : Nat) := by
  have e : (H : Int) / 4294967296 % d = ((H / 4294967296 % (n - 15) : Nat) : Int) := by
    rw [hd, show (n : Int) - 15 = ((n - 15 : Nat) : Int) by omega]
    simp
  have h1 : H / 4294967296 % (n - 15) < n - 15 := Nat.mod_lt _ (by omega)
  rw [e, wrap64_in _ (by omega)]
  rfl

theorem row_eq16 (H : Nat) : bits .or .u16 (IntKind.u16.wrap (H : Int)) 1 = (rowOf H : Nat) := by
  have e : IntKind.u16.wrap (H : Int) = ((H % 65536 : Nat) : Int) := by
    have : IntKind.u16.wrap (H : Int) = (H : Int) % 65536 := by simp [IntKind.wrap, IntKind.signed, IntKind.bits]
    omega
  rw [e]
  exact u16_or_nat (H % 65536) 1 (by omega) (by omega)

theorem row_eq64 (H : Nat) : bits .or .u64 ((H : Int) % 65536) 1 = (rowOf H : Nat) := by
  have e : (H : Int) % 65536 = ((H % 65536 : Nat) : Int) := by omega
  rw [e]
  exact u64_or_nat (H % 65536) 1 (by omega) (by omega)

theorem sum_eq (H : Nat) : (H : Int) / 65536 % 128 = (sumOf H : Nat) := by unfold sumOf; omega

set_option maxHeartbeats 1000000 in
theorem spec_l4Row (u : ByteArray) (sd n : Nat) (hu : u.size ≤ maxLen) (hs : sd ≤ 3) (hn : 16 ≤ n) (hn2 : n ≤ 1000) (w : World) :
    Calls Try.prog 75 #[.string u, .int .i64 sd, .int .i64 n] w fun e w' =>
      e = .returned (.tuple #[.int .i64 (placeOf (hashS sd u) n : Nat), .int .u64 (rowOf (hashS sd u) : Nat), .int .u64 (sumOf (hashS sd u) : Nat)]) ∧ w = w' := by
  have hH := fun wx => spec_Hash sd u hu (by omega) (by omega) wx
  rw [hashS_eq] at hH
  have hlt := hashS_lt sd u
  generalize hashS sd u = H at *
  have HS := hide hH
  clear hH
  go_enter Try.func75, Try.ntmps75
  go_wp2_with fail
  refine (HS.out _).mono ?_
  rintro e w1 ⟨rfl, rfl⟩
  go_wp2
  refine bodyPost_ret (v := .tuple #[.int .i64 (wrap64 ((H : Int) / 4294967296 % ((n : Int) - 15))), .int .u64 (bits .or .u64 ((H : Int) % 65536) 1), .int .u64 ((H : Int) / 65536 % 128)]) (by simp [results, Try.results75]) rfl ⟨?_, rfl⟩
  rw [place_eq H n hn hn2 _ rfl, row_eq64, sum_eq]

/-- Whether a user's equation holds. -/
def eqnB (sd : Int) (bs u : ByteArray) : Bool := xb (bn bs) (placeOf (hashS sd u) bs.size) (rowOf (hashS sd u)) 16 == sumOf (hashS sd u)
def ribB (kd sd pr : Int) (bs u : ByteArray) : Bool := if kd = 2 ∧ filterOkB kd sd pr bs = true then eqnB sd bs u else true
theorem rib_no {kd sd pr : Int} {bs u : ByteArray} (h : ¬ kd = 2) : ribB kd sd pr bs u = true := by unfold ribB; rw [if_neg (fun e => h e.1)]
theorem rib_bad {kd sd pr : Int} {bs u : ByteArray} (h : filterOkB kd sd pr bs = false) : ribB kd sd pr bs u = true := by unfold ribB; rw [if_neg (fun e => by rw [h] at e; exact absurd e.2 (by simp))]
theorem rib_yes {sd pr : Int} {bs u : ByteArray} (h : filterOkB 2 sd pr bs = true) : ribB 2 sd pr bs u = eqnB sd bs u := by unfold ribB; rw [if_pos ⟨rfl, h⟩]
theorem ribOk_bd {sd pr : Int} {bs : ByteArray} (h : filterOkB 2 sd pr bs = true) : pr = 0 ∧ 0 ≤ sd ∧ sd ≤ 3 ∧ 20 ≤ bs.size ∧ bs.size ≤ 600 := by
  have e : filterOkB 2 sd pr bs = (decide (pr = 0 ∧ 0 ≤ sd ∧ sd ≤ 3 ∧ 20 ≤ bs.size ∧ bs.size ≤ 600) && sumsB bs) := rfl
  rw [e, Bool.and_eq_true] at h
  exact of_decide_eq_true h.1

theorem ret_boolR {a b : Bool} (h : a = b) : Ending.returned (.bool a) = .returned (.bool b) := by rw [h]

theorem rib_kept {W : World} {g h : Nat} {a b c d : Value} (hgh : g < h) (wa wb : World)
    (hS : wa.cell? ⟨g, 3, none⟩ = some a ∧ wa.cell? ⟨h, 0, none⟩ = some b ∧ wa.cell? ⟨h, 1, none⟩ = some c ∧ wa.cell? ⟨h, 2, none⟩ = some d ∧ Hid (Below W.heap.size W wa ∧ h < wa.heap.size)) (hb : Below wa.heap.size wa wb) :
    wb.cell? ⟨g, 3, none⟩ = some a ∧ wb.cell? ⟨h, 0, none⟩ = some b ∧ wb.cell? ⟨h, 1, none⟩ = some c ∧ wb.cell? ⟨h, 2, none⟩ = some d ∧ Hid (Below W.heap.size W wb ∧ h < wb.heap.size) := by
  obtain ⟨c0, c1, c2, c3, hB, hz⟩ := hS
  exact ⟨(hb.cell (p := ⟨g, _, none⟩) (by show g < _; omega)).trans c0, (hb.cell (p := ⟨h, _, none⟩) hz).trans c1, (hb.cell (p := ⟨h, _, none⟩) hz).trans c2, (hb.cell (p := ⟨h, _, none⟩) hz).trans c3, hB.trans (hb.mono hB.size), Nat.lt_of_lt_of_le hz hb.size⟩

end Go.Proofs.Ytonkjdjancnajac
