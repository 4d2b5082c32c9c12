/- The law FnSums, walked. -/
import Derived.Test.YtdiglhphoplplaaLSums
namespace Go.Proofs.Ytdiglhphoplplaa
open Go.RowKit

theorem crc_nine : crc ⟨#[49, 50, 51, 52, 53, 54, 55, 56, 57]⟩ = 3808858755 := by decide +kernel

set_option maxHeartbeats 4000000 in
set_option maxRecDepth 100000 in
theorem walk_FnSums (v : Value) {w : World} (hv : IsBytes w v) (_w : World) :
    Calls Try.prog 4 #[v] w fun e w' => e = .returned (.bool true) ∧ Below w.heap.size w w' := by
  obtain ⟨a, len, cap, rfl, hc, hm⟩ := hv
  by_cases hbig : 1048576 < len
  · have hd : decide (1048576 < len) = true := by simp [hbig]
    go_enter Try.func4, Try.ntmps4
    go_wp2_with fail
    refine (laws_bigS a len cap hm _).mono ?_
    rintro e w1 ⟨rfl, rfl⟩
    go_wp2
    go_ret
    exact ⟨rfl, Below.refl _ _⟩
  · have hd : decide (1048576 < len) = false := by simp [hbig]
    have hl : len ≤ 1048576 := by omega
    have hnine := crc_nine
    go_enter Try.func4, Try.ntmps4
    go_wp2_with fail
    refine (laws_bigS a len cap hm _).mono ?_
    rintro e w1 ⟨rfl, rfl⟩
    go_wp2_with fail
    refine (draw_Crc w _ a len cap hc hl (Below.refl _ _)).mono ?_
    rintro e w1 ⟨s, rfl, hs, hB1⟩
    clear hbig hc hm hd hl
    go_wp2_with fail
    refine (impl_Crc s (by unfold maxLen; omega) _).mono ?_
    rintro e w2 ⟨rfl, rfl⟩
    go_wp2_with fail
    refine (spec_Crc s (by unfold maxLen; omega) _).mono ?_
    rintro e w2 ⟨rfl, rfl⟩
    go_wp2_with fail
    refine (impl_Crc _ ?hs9 _).mono ?_
    case hs9 => show 9 ≤ maxLen; unfold maxLen; omega
    rintro e w2 ⟨rfl, rfl⟩
    go_wp2
    clear hnine
    have HB1 : Hid _ := hB1
    clear hB1
    obtain ⟨c, hcrc⟩ : ∃ c, crc s = c := ⟨_, rfl⟩
    rw [hcrc]
    have HC : Hid (crc s = c) := hcrc
    clear hcrc
    go_loopw [5] (fun i wr => ∃ k : Nat, i = .int .i64 k ∧ k ≤ s.size ∧ Hid (Below w.heap.size w wr)) (fun i _ => s.size - (intOf i).toNat)
    case atStart => exact ⟨0, rfl, by omega, HB1⟩
    case round =>
      obtain ⟨k, rfl, hk, HB⟩ := hrel
      clear HB1
      by_cases hlt : k < s.size
      · have hlt' : (k : Int) < (s.size : Int) := by omega
        have h30 : (k : Int) < 30 := by omega
        go_wp2
        go_loopw [6] (fun i wr => ∃ j : Nat, i = .int .i64 j ∧ j ≤ 8 ∧ Hid (Below w.heap.size w wr)) (fun i _ => 8 - (intOf i).toNat)
        case atStart => exact ⟨0, rfl, by omega, HB⟩
        case round =>
          obtain ⟨j, rfl, hj, HB2⟩ := hrel
          clear HB
          by_cases hjlt : j < 8
          · obtain ⟨C, W1, hcv, hfresh⟩ := fresh_bytes wr s
            obtain ⟨b, hb⟩ : ∃ b, (((s[k]'hlt).toNat : Nat) : Int) = b := ⟨_, rfl⟩
            have hbb := bt_bd s k
            rw [← bt_of s k hlt, hb] at hbb
            have hcell := hfresh.cell k hlt
            rw [hb] at hcell
            have hfr := hfresh.free k hlt
            obtain ⟨x, hx⟩ : ∃ x, bits .xor .u8 b (2 ^ j % 256) = x := ⟨_, rfl⟩
            have hbx := bit_turned_mod b j hbb.1 hbb.2 hjlt
            rw [hx] at hbx
            have hback := back_text (C := C) hfresh hlt x
            have hne := crc_turned s k x hlt hbx.2.1 hbx.2.2 (by rw [hb]; exact hbx.1)
            rw [HC.out] at hne
            have hlow := hfresh.low
            have htz := turned_size s k x
            generalize turned s k x = t at hback hne htz
            have HNE : Hid (crc t ≠ c) := hne
            have hne' : (crc t == c) = false := by simp [hne]
            clear hne
            have HL : Hid (Below wr.heap.size wr W1) := hlow
            clear hlow hfresh
            go_wp2_with fail
            refine (impl_Crc t (by unfold maxLen; omega) _).mono ?_
            rintro e w3 ⟨rfl, rfl⟩
            have HB3 : Hid (Below w.heap.size w (W1.setCell ⟨wr.heap.size, k, none⟩ (.int .u8 x))) := (HB2.out.trans (HL.out.mono HB2.out.size)).setCell (p := ⟨wr.heap.size, k, none⟩) HB2.out.size _
            clear hcv hback hcell hfr
            go_wp2
            exact ⟨⟨j + 1, by go_num, by omega, HB3⟩, by simp [intOf]; omega⟩
          · go_wp2
            exact ⟨⟨k + 1, by go_num, by omega, HB2⟩, by simp [intOf]; omega⟩
      · go_wp2
        go_ret
        exact ⟨rfl, HB.out⟩

end Go.Proofs.Ytdiglhphoplplaa
