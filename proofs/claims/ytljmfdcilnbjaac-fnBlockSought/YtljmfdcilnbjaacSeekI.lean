/- SeekEntry of the program. -/
import Derived.Test.YtljmfdcilnbjaacSeekF
namespace Go.Proofs.Ytljmfdcilnbjaac
set_option maxRecDepth 100000
open Go.RowKit Go.Deep

theorem implEntries {E : Ents} {len : Nat} {B : Bool} (he : rowOkB E len = B) {w0 : World} {a : Option Addr} {cap : Nat} (hl : len ≤ 1048576) (hS : Hid (EntAt w0 w0.heap.size a len E)) (w : World) (hB : Below w0.heap.size w0 w) :
    Calls Try.prog 21 #[.slice a len cap] w fun e w' => e = .returned (.bool B) ∧ Below w.heap.size w w' := he ▸ impl_EntriesOk a len cap E w hl ((hS.out.below hB).mono hB.size)

theorem implKeyOk {u : ByteArray} {q k : Int} {B : Bool} (he : keyOkB u q k = B) (w : World) :
    Calls Try.prog 16 #[.agg #[.string u, .int .i64 q, .int .i64 k]] w fun e w' => e = .returned (.bool B) ∧ Below w.heap.size w w' := he ▸ impl_KeyOk u q k w

theorem implSearch {a : Option Addr} {len cap : Nat} {E : Ents} {u : ByteArray} {q k : Int} (hl : len ≤ 1048576) {w0 : World} (hS : Hid (EntAt w0 w0.heap.size a len E)) (he : Hid (rowOkB E len = true)) (hk : Hid (keyOkB u q k = true)) (w : World) (hB : Below w0.heap.size w0 w) :
    Calls Try.prog 44 #[.slice a len cap, .agg #[.string u, .int .i64 q, .int .i64 k], .func (.func 45) #[] #[]] w fun e w' => (∃ (n : Nat) (b : Bool), e = .returned (.tuple #[.int .i64 n, .bool b]) ∧ PlaceAt E len u q k n) ∧ Below w.heap.size w w' :=
  impl_Search a len cap E u q k w hl ((hS.out.below hB).mono hB.size) (fun i j => row_mono he.out hk.out i j)

set_option maxHeartbeats 1000000 in
theorem impl_SeekEntry (a : Option Addr) (len cap : Nat) (E : Ents) (u : ByteArray) (q k : Int) (w : World) (hl : len ≤ 1048576) (hS : EntAt w w.heap.size a len E) :
    Calls Try.prog 17 #[.slice a len cap, .agg #[.string u, .int .i64 q, .int .i64 k]] w fun e w' => (∃ r, e = .returned (.int .i64 r) ∧ SeekAt E len u q k r) ∧ Below w.heap.size w w' := by
  have hB0 : Below w.heap.size w (w.alloc (.cells #[.string u, .int .i64 q, .int .i64 k] 34)) := below1 _ _
  have K0 : (w.alloc (.cells #[.string u, .int .i64 q, .int .i64 k] 34)).cell? ⟨w.heap.size, 0, none⟩ = some (.string u) := by simp
  have K1 : (w.alloc (.cells #[.string u, .int .i64 q, .int .i64 k] 34)).cell? ⟨w.heap.size, 1, none⟩ = some (.int .i64 q) := by simp
  have K2 : (w.alloc (.cells #[.string u, .int .i64 q, .int .i64 k] 34)).cell? ⟨w.heap.size, 2, none⟩ = some (.int .i64 k) := by simp
  have hz0 : (w.alloc (.cells #[.string u, .int .i64 q, .int .i64 k] 34)).heap.size = w.heap.size + 1 := by simp
  have HS : Hid (EntAt (w.alloc (.cells #[.string u, .int .i64 q, .int .i64 k] 34)) (w.alloc (.cells #[.string u, .int .i64 q, .int .i64 k] 34)).heap.size a len E) := (hS.below hB0).mono hB0.size
  clear hS
  go_enter Try.func17, Try.ntmps17
  go_wp2_with fail
  generalize w.alloc (.cells #[.string u, .int .i64 q, .int .i64 k] 34) = w0 at hB0 K0 K1 K2 hz0 HS ⊢
  have HB0 : Hid (Below w.heap.size w w0) := hB0
  clear hB0
  have hgz : w.heap.size < w0.heap.size := by omega
  cases he : rowOkB E len with
  | false =>
    have HV : Hid (SeekAt E len u q k (-1)) := seek_no (.inl he)
    refine (implEntries he hl HS _ (Below.refl _ _)).mono ?_
    rintro e w1 ⟨rfl, hB1⟩
    have HB1 : Hid (Below w.heap.size w w1) := HB0.out.trans (hB1.mono HB0.out.size)
    clear hB1 K0 K1 K2 hz0
    go_wp2
    go_ret
    exact ⟨⟨_, rfl, HV.out⟩, HB1.out⟩
  | true =>
    refine (implEntries he hl HS _ (Below.refl _ _)).mono ?_
    rintro e w1 ⟨rfl, hB1⟩
    have k0 := (hB1.cell (p := ⟨w.heap.size, 0, none⟩) hgz).trans K0
    have k1 := (hB1.cell (p := ⟨w.heap.size, 1, none⟩) hgz).trans K1
    have k2 := (hB1.cell (p := ⟨w.heap.size, 2, none⟩) hgz).trans K2
    have HB1 : Hid (Below w0.heap.size w0 w1) := hB1
    have HK : Hid (w0.cell? ⟨w.heap.size, 0, none⟩ = some (.string u) ∧ w0.cell? ⟨w.heap.size, 1, none⟩ = some (.int .i64 q) ∧ w0.cell? ⟨w.heap.size, 2, none⟩ = some (.int .i64 k)) := ⟨K0, K1, K2⟩
    clear hB1 K0 K1 K2
    cases hk : keyOkB u q k with
    | false =>
      have HV : Hid (SeekAt E len u q k (-1)) := seek_no (.inr hk)
      go_wp2_with fail
      refine (implKeyOk hk _).mono ?_
      rintro e w2 ⟨rfl, hB2⟩
      have HB2 : Hid (Below w.heap.size w w2) := HB0.out.trans ((HB1.out.trans (hB2.mono HB1.out.size)).mono HB0.out.size)
      clear hB2 k0 k1 k2 hz0
      go_wp2
      go_ret
      exact ⟨⟨_, rfl, HV.out⟩, HB2.out⟩
    | true =>
      have HY : Hid (∀ n, PlaceAt E len u q k n → SeekAt E len u q k n) := fun n h => seek_yes he hk h
      have HE : Hid (rowOkB E len = true) := he
      have HKO : Hid (keyOkB u q k = true) := hk
      go_wp2_with fail
      refine (implKeyOk hk _).mono ?_
      rintro e w2 ⟨rfl, hB2⟩
      have HB2 : Hid (Below w0.heap.size w0 w2) := HB1.out.trans (hB2.mono HB1.out.size)
      have l0 := (HB2.out.cell (p := ⟨w.heap.size, 0, none⟩) hgz).trans HK.out.1
      have l1 := (HB2.out.cell (p := ⟨w.heap.size, 1, none⟩) hgz).trans HK.out.2.1
      have l2 := (HB2.out.cell (p := ⟨w.heap.size, 2, none⟩) hgz).trans HK.out.2.2
      clear hB2 HB1 k0 k1 k2 he hk
      go_wp2_with fail
      refine (implSearch hl HS HE HKO _ HB2.out).mono ?_
      rintro e w3 ⟨⟨n, b, rfl, hp⟩, hB3⟩
      have HV : Hid (SeekAt E len u q k n) := HY.out n hp
      have HB3 : Hid (Below w.heap.size w w3) := HB0.out.trans ((HB2.out.trans (hB3.mono HB2.out.size)).mono HB0.out.size)
      clear hB3 hp l0 l1 l2
      go_wp2
      go_ret
      exact ⟨⟨_, rfl, HV.out⟩, HB3.out⟩

end Go.Proofs.Ytljmfdcilnbjaac
