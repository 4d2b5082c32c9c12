/- What the laws on Bloom filters draw. -/
import Derived.Test.YtkopoonkedcpmacDrawU
import Derived.Test.YtkopoonkedcpmacBloomOfS
namespace Go.Proofs.Ytkopoonkedcpmac
open Go.RowKit Go.Deep

theorem laws_bigB (a : Option Addr) (len cap : Nat) (hl : len ≤ maxLen) (w : World) :
    Calls Try.prog 13 #[.slice a len cap] w fun e w' => e = .returned (.bool (decide (1048576 < len))) ∧ w = w' := by
  unfold maxLen at hl
  by_cases h : 1048576 < len
  · have h' : (1048576 : Int) < (len : Int) := by omega
    go_enter Try.func13, Try.ntmps13
    go_wp2
    go_ret
    exact ⟨congrArg (fun b => Ending.returned (.bool b)) (decide_eq_true h).symm, rfl⟩
  · have h' : ¬ ((1048576 : Int) < (len : Int)) := by omega
    go_enter Try.func13, Try.ntmps13
    go_wp2
    go_ret
    exact ⟨rfl, rfl⟩

theorem open_rdB (W : World) (a : Option Addr) (len cap : Nat) (W0 : World) (h0 : Below W0.heap.size W0 W) :
    Calls Try.prog 31 #[.slice a len cap] W fun e w' => e = .returned (.pointer (some ⟨W.heap.size, 0, none⟩)) ∧ Rd W0 w' W.heap.size a len cap ∧ Below W.heap.size W w' := by
  go_enter Try.func31, Try.ntmps31
  go_wp2
  go_ret
  refine ⟨rfl, ⟨h0.size, by simp, h0.trans ((Below.refl _ _).alloc h0.size _), ?_, ⟨0, Nat.zero_le _, ?_⟩, ?_⟩, (Below.refl _ _).alloc (Nat.le_refl _) _⟩
  · simp
  · simp
  · simp

theorem draw_BloomOf (W w : World) (a : Option Addr) (len cap : Nat) (hc : IsCode W a len) (hl : len ≤ 1048576) (hb : Below W.heap.size W w) :
    Calls Try.prog 14 #[.slice a len cap] w fun e w' => ∃ va n vc S per, e = .returned (.tuple #[.slice va n vc, .int .i64 per]) ∧ n ≤ 13 ∧ -9223372036854775808 ≤ per ∧ per ≤ 9223372036854775807 ∧ StrAt w' w'.heap.size va n S ∧ n ≤ vc ∧ (va = none ∧ n = 0 ∨ ∃ g, va = some ⟨g, 0, none⟩) ∧ Below w.heap.size w w' := by
  go_enter Try.func14, Try.ntmps14
  go_wp2_with fail
  refine (open_rdB _ a len cap W hb).mono ?_
  rintro e w1 ⟨rfl, hr, hb1⟩
  go_wp2_with fail
  refine (rd_users W _ _ a len cap 12 (by omega) (by omega) hc hl hr).mono ?_
  rintro e w2 ⟨v, xs, rfl, hx, hxx, hown, hr2, hm2⟩
  have HX := hide hx
  have HR2 := hide hr2
  have hg1 := hr.lt
  have HM2 := hide hm2
  have HB1 := hide hb1
  have HO := hide hown
  clear hx hr hr2 hm2 hown hb1
  go_wp2_with fail
  refine (rd_off W _ _ a len cap 1 20 (by omega) (by omega) (by omega) hc hl HR2.out).mono ?_
  rintro e w3 ⟨per, rfl, hp0, hp1, hr3, hm3⟩
  have hown : OwnS w3 w1.heap.size v xs := own_mv HO.out hm3 hg1
  obtain ⟨va, vc, hv, hS, hcap, hform⟩ := hown.strs
  have hb3 := hide (HB1.out.trans ((HM2.out.trans hm3).below HB1.out.size (Nat.le_refl _)))
  have HS := hide hS
  have HF := hide hform
  clear hr3 hm3 HM2 HB1 HR2 HO hc hown hS hform
  subst hv
  go_wp2
  refine bodyPost_ret (v := .tuple #[.slice va xs.length vc, .int .i64 per]) (by simp [results, Try.results14, go_sem]) rfl ?_
  exact ⟨va, xs.length, vc, _, per, rfl, by have := HX.out; omega, hp0, hp1, HS.out, hcap, HF.out, hb3.out⟩

end Go.Proofs.Ytkopoonkedcpmac
