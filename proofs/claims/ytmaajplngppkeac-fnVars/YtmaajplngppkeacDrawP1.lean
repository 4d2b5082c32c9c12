/- What the laws of chapter 1 draw. -/
import Derived.Test.YtmaajplngppkeacDraw
import Derived.Test.YtmaajplngppkeacText
import Derived.Test.YtmaajplngppkeacFixed
namespace Go.Proofs.Ytmaajplngppkeac
open Go.RowKit

/-- The reader that is opened over what came in. -/
theorem open_rd (W : World) (a : Option Addr) (len cap : Nat) (W0 : World) (h0 : Below W0.heap.size W0 W) :
    Calls Try.prog 45 #[.slice a len cap] W fun e w' => e = .returned (.pointer (some ⟨W.heap.size, 0, none⟩)) ∧ Rd W0 w' W.heap.size a len cap ∧ Below W.heap.size W w' := by
  go_enter Try.func45, Try.ntmps45
  go_wp2
  go_ret
  refine ⟨rfl, ⟨h0.size, by simp, h0.trans ((Below.refl _ _).alloc h0.size _), ?_, ⟨0, Nat.zero_le _, ?_⟩, ?_⟩, (Below.refl _ _).alloc (Nat.le_refl _) _⟩
  · simp
  · simp
  · simp

theorem draw_PutFixed (W w : World) (a : Option Addr) (len cap : Nat) (hc : IsCode W a len) (hl : len ≤ 1048576) (hb : Below W.heap.size W w) :
    Calls Try.prog 16 #[.slice a len cap] w fun e w' => ∃ x : Int, e = .returned (.int .u32 x) ∧ 0 ≤ x ∧ x ≤ 4294967295 ∧ Below w.heap.size w w' := by
  go_enter Try.func16, Try.ntmps16
  go_wp2_with fail
  refine (open_rd _ a len cap W hb).mono ?_
  rintro e w1 ⟨rfl, hr, hb1⟩
  go_wp2_with fail
  refine (rd_word W _ _ a len cap hc hl hr).mono ?_
  rintro e w2 ⟨x, rfl, hx0, hx1, hr2, hm⟩
  have hb2 := hb1.trans (hm.below hb1.size (Nat.le_refl _))
  clear hr hr2 hm hb1 hc
  go_wp2
  go_ret
  exact ⟨_, rfl, Int.emod_nonneg _ (by omega), by omega, hb2⟩

theorem draw_PutVar (W w : World) (a : Option Addr) (len cap : Nat) (hc : IsCode W a len) (hl : len ≤ 1048576) (hb : Below W.heap.size W w) :
    Calls Try.prog 10 #[.slice a len cap] w fun e w' => ∃ x : Int, e = .returned (.int .u64 x) ∧ 0 ≤ x ∧ x ≤ 18446744073709551615 ∧ Below w.heap.size w w' := by
  go_enter Try.func10, Try.ntmps10
  go_wp2_with fail
  refine (open_rd _ a len cap W hb).mono ?_
  rintro e w1 ⟨rfl, hr, hb1⟩
  go_wp2_with fail
  refine (rd_number W _ _ a len cap hc hl hr).mono ?_
  rintro e w2 ⟨x, rfl, hx0, hx1, hr2, hm⟩
  have hb2 := hb1.trans (hm.below hb1.size (Nat.le_refl _))
  clear hr hr2 hm hb1 hc
  go_wp2
  go_ret
  exact ⟨_, rfl, hx0, hx1, hb2⟩

theorem draw_PutText (W w : World) (a : Option Addr) (len cap : Nat) (hc : IsCode W a len) (hl : len ≤ 1048576) (hb : Below W.heap.size W w) :
    Calls Try.prog 20 #[.slice a len cap] w fun e w' => ∃ s : ByteArray, e = .returned (.string s) ∧ s.size ≤ 200 ∧ Below w.heap.size w w' := by
  go_enter Try.func20, Try.ntmps20
  go_wp2_with fail
  refine (open_rd _ a len cap W hb).mono ?_
  rintro e w1 ⟨rfl, hr, hb1⟩
  go_wp2_with fail
  refine (rd_once W _ _ a len cap 4 (by omega) (by omega) hc hl hr).mono ?_
  rintro e w2 ⟨o, rfl, hr2, hm⟩
  have hb2 := hb1.trans (hm.below hb1.size (Nat.le_refl _))
  have hz := hb2.size
  clear hr hm hb1
  cases o
  · go_wp2_with fail
    refine (rd_text W _ _ a len cap hc hl hr2).mono ?_
    rintro e w3 ⟨s, rfl, hs, hr3, hm3⟩
    have hb3 := hb2.trans (hm3.below hz (Nat.le_refl _))
    clear hr2 hr3 hm3 hb2 hc
    go_wp2
    go_ret
    exact ⟨s, rfl, by omega, hb3⟩
  · go_wp2_with fail
    refine (rd_bytes W _ _ a len cap 200 (by omega) (by omega) hc hl hr2).mono ?_
    rintro e w3 ⟨s, rfl, hs, hr3, hm3⟩
    have hb3 := hb2.trans (hm3.below hz (Nat.le_refl _))
    clear hr2 hr3 hm3 hb2 hc
    go_wp2
    go_ret
    exact ⟨s, rfl, by omega, hb3⟩

set_option maxHeartbeats 1000000 in
theorem draw_TakeText (W w : World) (a : Option Addr) (len cap : Nat) (hc : IsCode W a len) (hl : len ≤ 1048576) (hb : Below W.heap.size W w) :
    Calls Try.prog 23 #[.slice a len cap] w fun e w' => ∃ s : ByteArray, e = .returned (.string s) ∧ s.size ≤ 1000 ∧ Below w.heap.size w w' := by
  go_enter Try.func23, Try.ntmps23
  go_wp2_with fail
  refine (open_rd _ a len cap W hb).mono ?_
  rintro e w1 ⟨rfl, hr, hb1⟩
  go_wp2_with fail
  refine (rd_once W _ _ a len cap 3 (by omega) (by omega) hc hl hr).mono ?_
  rintro e w2 ⟨o, rfl, hr2, hm⟩
  have hb2 := hb1.trans (hm.below hb1.size (Nat.le_refl _))
  have hz := hb2.size
  clear hr hm hb1
  cases o
  · go_wp2_with fail
    refine (rd_text W _ _ a len cap hc hl hr2).mono ?_
    rintro e w3 ⟨s, rfl, hs, hr3, hm3⟩
    have hb3 := hb2.trans (hm3.below hz (Nat.le_refl _))
    have hp := pv_size s.size
    go_wp2_with fail
    refine (spec_PutText s (by omega) _).mono ?_
    rintro e w4 ⟨rfl, hb4⟩
    have hr4 := hr3.mv hb4
    have hb4' := hb3.trans (hb4.mono hb3.size)
    have hz4 := hb4'.size
    have hsz : (putText s).size ≤ 14 := by rw [putText, ByteArray.size_append]; omega
    go_wp2_with fail
    refine (rd_bytes W _ _ a len cap 3 (by omega) (by omega) hc hl hr4).mono ?_
    rintro e w5 ⟨t, rfl, ht, hr5, hm5⟩
    have hb5 := hb4'.trans (hm5.below hz4 (Nat.le_refl _))
    clear hr2 hr3 hm3 hb2 hc hr4 hb4 hb4' hr5 hm5 hb3 hp
    go_wp2
    go_ret
    exact ⟨_, rfl, by rw [ByteArray.size_append]; omega, hb5⟩
  · go_wp2_with fail
    refine (rd_number W _ _ a len cap hc hl hr2).mono ?_
    rintro e w3 ⟨n, rfl, hn0, hn1, hr3, hm3⟩
    have hb3 := hb2.trans (hm3.below hz (Nat.le_refl _))
    have hp := pv_size n
    go_wp2_with fail
    refine (spec_PutVar n hn0 (by omega) _).mono ?_
    rintro e w4 ⟨rfl, hb4⟩
    have hr4 := hr3.mv hb4
    have hb4' := hb3.trans (hb4.mono hb3.size)
    have hz4 := hb4'.size
    go_wp2_with fail
    refine (rd_bytes W _ _ a len cap 9 (by omega) (by omega) hc hl hr4).mono ?_
    rintro e w5 ⟨t, rfl, ht, hr5, hm5⟩
    have hb5 := hb4'.trans (hm5.below hz4 (Nat.le_refl _))
    clear hr2 hr3 hm3 hb2 hc hr4 hb4 hb4' hr5 hm5 hb3
    go_wp2
    go_ret
    exact ⟨_, rfl, by rw [ByteArray.size_append]; omega, hb5⟩

end Go.Proofs.Ytmaajplngppkeac
