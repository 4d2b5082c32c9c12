/- MemBytes, of the program and of the model, and its law. -/
import Derived.Test.YtonkjdjancnajaaLEntsOk
namespace Go.Proofs.Ytonkjdjancnajaa
set_option maxRecDepth 100000
open Go.RowKit Go.Deep

/-- The bytes of the first entries of a row. -/
def mb (E : Ents) : Nat → Int
  | 0 => 0
  | k + 1 => mb E k + (((E.U k).size : Int) + ((E.X k).size : Int) + 24)

theorem ent_sizes {E : Ents} {i : Nat} (h : entOk E i = true) : (E.U i).size ≤ 40 ∧ (E.X i).size ≤ 200 := by
  unfold entOk entryOkB at h
  simp only [Bool.and_eq_true, decide_eq_true_eq] at h
  exact ⟨(keyOk_iff.1 h.1.1).2.1, h.1.2⟩

theorem mb_bd {E : Ents} {len : Nat} (h : rowOkB E len = true) : ∀ k, k ≤ len → 0 ≤ mb E k ∧ mb E k ≤ 264 * (k : Int)
  | 0, _ => by simp [mb]
  | k + 1, hk => by
    have h1 := mb_bd h k (by omega)
    have h2 := ent_sizes ((rowOk_out h).2 k (by omega)).1
    simp only [mb]
    omega

def memBytes (E : Ents) (len : Nat) : Int := if rowOkB E len = true then mb E len else -1
theorem memBytes_yes {E : Ents} {len : Nat} (h : rowOkB E len = true) : memBytes E len = mb E len := by rw [memBytes, if_pos h]
theorem memBytes_no {E : Ents} {len : Nat} (h : rowOkB E len = false) : memBytes E len = -1 := by rw [memBytes, if_neg (by rw [h]; decide)]

theorem ret_i64 {a b : Int} (h : a = b) : Ending.returned (.int .i64 a) = .returned (.int .i64 b) := by rw [h]

set_option maxHeartbeats 2000000 in
theorem impl_MemBytes (a : Option Addr) (len cap : Nat) (E : Ents) (w : World) (hl : len ≤ 1048576) (hS : EntAt w w.heap.size a len E) :
    Calls Try.prog 28 #[.slice a len cap] w fun e w' => e = .returned (.int .i64 (memBytes E len)) ∧ Below w.heap.size w w' := by
  cases hok : rowOkB E len with
  | false =>
    have HV : Hid (-1 = memBytes E len) := (memBytes_no hok).symm
    go_enter Try.func28, Try.ntmps28
    go_wp2_with fail
    refine (hok ▸ impl_EntriesOk a len cap E w hl hS).mono ?_
    rintro e w1 ⟨rfl, hB⟩
    clear hok
    go_wp2
    go_ret
    exact ⟨ret_i64 HV.out, hB⟩
  | true =>
    have HV : Hid (mb E len = memBytes E len) := (memBytes_yes hok).symm
    have HS : Hid (EntAt w w.heap.size a len E) := hS
    have hbd := mb_bd hok
    have HO : Hid (rowOkB E len = true) := hok
    obtain ⟨h4, hsz⟩ := rowOk_out hok
    have HZ : Hid (∀ i, i < len → entOk E i = true) := fun i hi => (hsz i hi).1
    have HD : Hid (∀ k, k ≤ len → 0 ≤ mb E k ∧ mb E k ≤ 264 * (k : Int)) := hbd
    go_enter Try.func28, Try.ntmps28
    go_wp2_with fail
    refine (hok ▸ impl_EntriesOk a len cap E w hl hS).mono ?_
    rintro e w1 ⟨rfl, hB⟩
    have HB : Hid (Below w.heap.size w w1) := hB
    clear hok hS hbd hsz hB
    go_wp2
    go_loopw [3, 11] (fun s i wr => ∃ k : Nat, i = .int .i64 k ∧ s = .int .i64 (mb E k) ∧ k ≤ len ∧ Hid (Below w.heap.size w wr)) (fun _ i _ => len - (intOf i).toNat)
    case atStart => exact ⟨0, rfl, rfl, by omega, HB⟩
    case round =>
      obtain ⟨k, rfl, rfl, hk, HW⟩ := hrel
      clear HB
      by_cases hlt : k < len
      · obtain ⟨b, off, rfl, hb, c0, c1, c2, c3⟩ := (HS.out.below HW.out).at hlt
        have hki : (k : Int) < (len : Int) := by omega
        have hwz := HW.out.size
        obtain ⟨m0, m1⟩ := HD.out k hk
        have m2 : mb E k ≤ 200000 := by omega
        obtain ⟨s0, s1⟩ := ent_sizes (HZ.out k hlt)
        have HM : Hid (mb E (k + 1) = mb E k + (((E.U k).size : Int) + ((E.X k).size : Int) + 24)) := rfl
        clear m1
        go_wp2
        refine ⟨⟨k + 1, by go_num, by rw [HM.out], by omega, HW.out.alloc hwz _⟩, by simp [intOf]; omega⟩
      · obtain rfl : k = len := by omega
        go_wp2
        go_ret
        exact ⟨ret_i64 HV.out, HW.out⟩

set_option maxHeartbeats 2000000 in
theorem spec_MemBytes (a : Option Addr) (len cap : Nat) (E : Ents) (w : World) (hl : len ≤ 1048576) (hS : EntAt w w.heap.size a len E) :
    Calls Try.prog 26 #[.slice a len cap] w fun e w' => e = .returned (.int .i64 (memBytes E len)) ∧ Below w.heap.size w w' := by
  cases hok : rowOkB E len with
  | false =>
    have HV : Hid (-1 = memBytes E len) := (memBytes_no hok).symm
    go_enter Try.func26, Try.ntmps26
    go_wp2_with fail
    refine (hok ▸ spec_EntriesOk a len cap E w hl hS).mono ?_
    rintro e w1 ⟨rfl, hB⟩
    clear hok
    go_wp2
    go_ret
    exact ⟨ret_i64 HV.out, hB⟩
  | true =>
    have HV : Hid (mb E len = memBytes E len) := (memBytes_yes hok).symm
    have HS : Hid (EntAt w w.heap.size a len E) := hS
    have hbd := mb_bd hok
    obtain ⟨h4, hsz⟩ := rowOk_out hok
    have HZ : Hid (∀ i, i < len → entOk E i = true) := fun i hi => (hsz i hi).1
    have HD : Hid (∀ k, k ≤ len → 0 ≤ mb E k ∧ mb E k ≤ 264 * (k : Int)) := hbd
    go_enter Try.func26, Try.ntmps26
    go_wp2_with fail
    refine (hok ▸ spec_EntriesOk a len cap E w hl hS).mono ?_
    rintro e w1 ⟨rfl, hB⟩
    have HB : Hid (Below w.heap.size w w1) := hB
    clear hok hS hbd hsz hB
    go_wp2
    go_loopw [3, 4] (fun s i wr => ∃ k : Nat, i = .int .i64 k ∧ s = .int .i64 (mb E k) ∧ k ≤ len ∧ Hid (Below w.heap.size w wr)) (fun _ i _ => len - (intOf i).toNat)
    case atStart => exact ⟨0, rfl, rfl, by omega, HB⟩
    case round =>
      obtain ⟨k, rfl, rfl, hk, HW⟩ := hrel
      clear HB
      by_cases hlt : k < len
      · obtain ⟨b, off, rfl, hb, c0, c1, c2, c3⟩ := (HS.out.below HW.out).at hlt
        have hki : (k : Int) < (len : Int) := by omega
        obtain ⟨m0, m1⟩ := HD.out k hk
        have m2 : mb E k ≤ 200000 := by omega
        obtain ⟨s0, s1⟩ := ent_sizes (HZ.out k hlt)
        have HM : Hid (mb E (k + 1) = mb E k + (((E.U k).size : Int) + ((E.X k).size : Int) + 24)) := rfl
        clear m1
        go_wp2
        go_quiet (fail)
        go_wp2
        refine ⟨⟨k + 1, by go_num, by rw [HM.out]; go_num, by omega, below_drewN HW.out _⟩, by simp [intOf]; omega⟩
      · obtain rfl : k = len := by omega
        go_wp2
        go_ret
        exact ⟨ret_i64 HV.out, HW.out⟩

end Go.Proofs.Ytonkjdjancnajaa
