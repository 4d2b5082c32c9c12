/- The law on WriteLog. -/
import Derived.Test.YtonkjdjancnajaaWLogS
namespace Go.Proofs.Ytonkjdjancnajaa
set_option maxRecDepth 100000
open Go.RowKit

theorem walk_WriteLog (a : Int) (_ha : (Lit.int .i64 a).wf = true) (s : ByteArray) (_h : s.size ≤ maxLen) (w : World) :
    Calls Try.prog 7 #[.int .i64 a, .string s] w fun e w' => e = .returned (.bool true) ∧ Below w.heap.size w w' := by
  by_cases hbig : (1048576 : Int) < (s.size : Int)
  · go_enter Try.func7, Try.ntmps7
    go_wp2
    go_ret
    exact ⟨rfl, Below.refl _ _⟩
  · have cs := fun wx => spec_WriteLog a s wx
    have ci := fun wx => impl_WriteLog a s wx
    generalize writeLog a s = T at cs ci
    go_enter Try.func7, Try.ntmps7
    go_wp2_with fail
    refine (cs _).mono ?_
    rintro e w1 ⟨rfl, hb1⟩
    clear cs
    go_wp2_with fail
    refine (ci _).mono ?_
    rintro e w2 ⟨rfl, hb2⟩
    have hB := hb1.trans (hb2.mono hb1.size)
    clear ci hb1 hb2
    go_wp2
    go_ret
    exact ⟨rfl, hB⟩

end Go.Proofs.Ytonkjdjancnajaa
