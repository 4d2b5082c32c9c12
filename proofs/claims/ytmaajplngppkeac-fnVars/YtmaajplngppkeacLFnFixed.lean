/- The law FnFixed. -/
import Derived.Test.YtmaajplngppkeacDrawP1
import Derived.Test.YtmaajplngppkeacCanon
namespace Go.Proofs.Ytmaajplngppkeac
open Go.RowKit

theorem laws_big (a : Option Addr) (len cap : Nat) (hl : len ≤ maxLen) (w : World) :
    Calls Try.prog 9 #[.slice a len cap] w fun e w' => e = .returned (.bool (decide (1048576 < len))) ∧ w = w' := by
  unfold maxLen at hl
  by_cases h : 1048576 < len
  · have h' : (1048576 : Int) < (len : Int) := by omega
    go_enter Try.func9, Try.ntmps9
    go_wp2
    go_ret
    exact ⟨congrArg (fun b => Ending.returned (.bool b)) (decide_eq_true h).symm, rfl⟩
  · have h' : ¬ ((1048576 : Int) < (len : Int)) := by omega
    go_enter Try.func9, Try.ntmps9
    go_wp2
    go_ret
    exact ⟨rfl, rfl⟩

theorem takeText_parts (s : ByteArray) : ∃ a r b, takeText s = .tuple #[.string a, .string r, .bool b] := by
  unfold takeText
  split
  · exact ⟨_, _, _, rfl⟩
  · split <;> exact ⟨_, _, _, rfl⟩

theorem takeFixed_put (x : Int) (h0 : 0 ≤ x) (h1 : x < 4294967296) (r : ByteArray) : takeFixed (fx4 x ++ r) = .tuple #[.int .u32 x, .string r, .bool true] := by
  have hz := fx4_size x
  have he := extract_behind (fx4 x) r
  rw [hz] at he
  rw [takeFixed, if_neg (by rw [ByteArray.size_append]; omega), tf4_fx4 x h0 h1, he]

set_option maxHeartbeats 2000000 in
set_option maxRecDepth 100000 in
theorem walk_FnFixed (v : Value) {w : World} (hv : IsBytes w v) (_w : World) :
    Calls Try.prog 4 #[v] w fun e w' => e = .returned (.bool true) ∧ Below w.heap.size w w' := by
  obtain ⟨a, len, cap, rfl, hc, hm⟩ := hv
  by_cases hbig : 1048576 < len
  · have hd : decide (1048576 < len) = true := by simp [hbig]
    go_enter Try.func4, Try.ntmps4
    go_wp2_with fail
    refine (laws_big a len cap hm _).mono ?_
    rintro e w1 ⟨rfl, rfl⟩
    go_wp2
    go_ret
    exact ⟨rfl, Below.refl _ _⟩
  · have hd : decide (1048576 < len) = false := by simp [hbig]
    have hl : len ≤ 1048576 := by omega
    go_enter Try.func4, Try.ntmps4
    go_wp2_with fail
    refine (laws_big a len cap hm _).mono ?_
    rintro e w1 ⟨rfl, rfl⟩
    go_wp2_with fail
    refine (draw_PutFixed w _ a len cap hc hl (Below.refl _ _)).mono ?_
    rintro e w1 ⟨x, rfl, hx0, hx1, hB⟩
    have e1 := takeFixed_put x hx0 (by omega)
    have s4 := fx4_size x
    go_wp2_with fail
    refine (calls_from hB (impl_PutFixed x _)).mono ?_
    clear hB
    rintro e w2 ⟨rfl, hB⟩
    go_wp2_with fail
    refine (calls_from hB (impl_TakeFixed _ ?hs5 _)).mono ?_
    case hs5 =>
      rw [ByteArray.size_append, s4]
      show 4 + 1 ≤ 281474976710656
      omega
    clear hB
    rintro e w3 ⟨rfl, hB⟩
    go_wp2_with fail
    refine (calls_from hB (spec_PutFixed x _)).mono ?_
    clear hB
    rintro e w4 ⟨rfl, hB⟩
    clear e1
    go_wp2_with fail
    refine (draw_PutText w _ a len cap hc hl hB).mono ?_
    rintro e w5 ⟨t, rfl, ht, hB5⟩
    have hB := hB.trans (hB5.mono hB.size)
    have e2 := fun r => takeText_put t r (by omega)
    have hps : (putText t).size ≤ 300 := by have := pv_size t.size; rw [putText, ByteArray.size_append]; omega
    clear hB5
    go_wp2_with fail
    refine (calls_from hB (impl_PutText t (by omega) _)).mono ?_
    clear hB
    rintro e w6 ⟨rfl, hB⟩
    go_wp2_with fail
    refine (calls_from hB (impl_TakeText _ ?hs6 _)).mono ?_
    case hs6 =>
      rw [ByteArray.size_append]
      show (putText t).size + 1 ≤ 1048576
      omega
    clear hB
    rintro e w7 ⟨rfl, hB⟩
    go_wp2_with fail
    refine (draw_TakeText w _ a len cap hc hl hB).mono ?_
    rintro e w8 ⟨b, rfl, hb, hB8⟩
    have hB := hB.trans (hB8.mono hB.size)
    clear hB8 e2
    obtain ⟨v', more, good, hv'⟩ := takeText_parts b
    go_wp2_with fail
    refine (calls_from hB (impl_TakeText b (by omega) _)).mono ?_
    clear hB
    rintro e w9 ⟨rfl, hB⟩
    go_wp2_with fail
    refine (calls_from hB (spec_TakeText b (by omega) _)).mono ?_
    clear hB
    rintro e w10 ⟨rfl, hB⟩
    cases good
    · go_wp2
      go_ret
      exact ⟨rfl, hB⟩
    · obtain ⟨hj, hvs⟩ := put_takeText hv'
      go_wp2_with fail
      refine (calls_from hB (impl_PutText v' (by omega) _)).mono ?_
      clear hB
      rintro e w11 ⟨rfl, hB⟩
      have hps2 : (putText v').size ≤ 70000 := by have := pv_size v'.size; rw [putText, ByteArray.size_append]; omega
      have hms : more.size ≤ 1000 := by have := congrArg ByteArray.size hj; rw [ByteArray.size_append] at this; omega
      clear hv'
      go_wp2
      go_ret
      exact ⟨rfl, hB⟩

end Go.Proofs.Ytmaajplngppkeac
