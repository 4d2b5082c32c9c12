/- The library's FormatInt at base 10, as a function of this program. -/
import Derived.Shelf.Strconv.Itoa4
import Derived.Lib.LaidTab
import Derived.Test.YtplemoedpdammaaDoorReg
import Derived.Test.YtplemoedpdammaaDoorFNum
import Derived.Test.YtplemoedpdammaaDoorRows
namespace Go.Proofs.YtplemoedpdammaaDoor
set_option maxRecDepth 100000
open Go.RowKit Go.Sort Go.Lib Go.Shelf

def l173_ren : Go.Shelf.Ren := ⟨fun | 173 => 8 | 246 => 9 | 283 => 10 | 284 => 11 | 285 => 12 | 286 => 13 | 129 => 15 | 317 => 14 | 318 => 16 | 319 => 17 | 320 => 18 | 337 => 19 | 338 => 20 | n => n, fun | 2 => 2 | 3 => 3 | 9 => 9 | 4 => 4 | 171 => 29 | 0 => 0 | 53 => 30 | 37 => 27 | 5 => 5 | 173 => 33 | 212 => 37 | 51 => 38 | 20 => 20 | 213 => 39 | 46 => 41 | 232 => 44 | 233 => 45 | n => n, fun | 17 => 0 | 18 => 1 | 19 => 2 | n => n⟩
theorem l173 : Go.Proofs.LaysM.n173 Tryd.prog l173_ren := {
  mixed := by kernel_rfl
  f129 := Tryd.func15.trans (congrArg some (by kernel_rfl))
  f173 := Tryd.func8.trans (congrArg some (by kernel_rfl))
  f246 := Tryd.func9.trans (congrArg some (by kernel_rfl))
  f283 := Tryd.func10.trans (congrArg some (by kernel_rfl))
  f284 := Tryd.func11.trans (congrArg some (by kernel_rfl))
  f285 := Tryd.func12.trans (congrArg some (by kernel_rfl))
  f286 := Tryd.func13.trans (congrArg some (by kernel_rfl))
  f317 := Tryd.func14.trans (congrArg some (by kernel_rfl))
  f318 := Tryd.func16.trans (congrArg some (by kernel_rfl))
  f319 := Tryd.func17.trans (congrArg some (by kernel_rfl))
  f320 := Tryd.func18.trans (congrArg some (by kernel_rfl))
  f337 := Tryd.func19.trans (congrArg some (by kernel_rfl))
  f338 := Tryd.func20.trans (congrArg some (by kernel_rfl))
  t0 := Tryd.underlying0
  a0 := Tryd.isAgg0
  z0 := Tryd.sizeOf0
  v0 := Tryd.zeroValue0
  t2 := Tryd.underlying2
  a2 := Tryd.isAgg2
  z2 := Tryd.sizeOf2
  v2 := Tryd.zeroValue2
  t3 := Tryd.underlying3
  a3 := Tryd.isAgg3
  z3 := Tryd.sizeOf3
  v3 := Tryd.zeroValue3
  t4 := Tryd.underlying4
  a4 := Tryd.isAgg4
  z4 := Tryd.sizeOf4
  v4 := Tryd.zeroValue4
  t5 := Tryd.underlying5
  a5 := Tryd.isAgg5
  z5 := Tryd.sizeOf5
  v5 := Tryd.zeroValue5
  t9 := Tryd.underlying9
  a9 := Tryd.isAgg9
  z9 := Tryd.sizeOf9
  v9 := Tryd.zeroValue9
  t20 := Tryd.underlying20
  a20 := Tryd.isAgg20
  z20 := Tryd.sizeOf20
  v20 := Tryd.zeroValue20
  t37 := Tryd.underlying27
  a37 := Tryd.isAgg27
  z37 := Tryd.sizeOf27
  v37 := Tryd.zeroValue27
  t46 := Tryd.underlying41
  a46 := Tryd.isAgg41
  z46 := Tryd.sizeOf41
  v46 := Tryd.zeroValue41
  t51 := Tryd.underlying38
  a51 := Tryd.isAgg38
  z51 := Tryd.sizeOf38
  v51 := Tryd.zeroValue38
  t53 := Tryd.underlying30
  a53 := Tryd.isAgg30
  z53 := Tryd.sizeOf30
  v53 := Tryd.zeroValue30
  t171 := Tryd.underlying29
  a171 := Tryd.isAgg29
  z171 := Tryd.sizeOf29
  v171 := Tryd.zeroValue29
  t173 := Tryd.underlying33
  a173 := Tryd.isAgg33
  z173 := Tryd.sizeOf33
  v173 := Tryd.zeroValue33
  t212 := Tryd.underlying37
  a212 := Tryd.isAgg37
  z212 := Tryd.sizeOf37
  v212 := Tryd.zeroValue37
  t213 := Tryd.underlying39
  a213 := Tryd.isAgg39
  z213 := Tryd.sizeOf39
  t232 := Tryd.underlying44
  a232 := Tryd.isAgg44
  z232 := Tryd.sizeOf44
  v232 := Tryd.zeroValue44
  t233 := Tryd.underlying45
  a233 := Tryd.isAgg45
  z233 := Tryd.sizeOf45
  v233 := Tryd.zeroValue45
  g17 := by kernel_rfl
  g18 := by kernel_rfl
  g19 := by kernel_rfl
  i0 := by kernel_rfl
  i2 := by kernel_rfl
  i3 := by kernel_rfl
  i4 := by kernel_rfl
  i5 := by kernel_rfl
  i9 := by kernel_rfl
  i20 := by kernel_rfl
  i37 := by kernel_rfl
  i46 := by kernel_rfl
  i51 := by kernel_rfl
  i53 := by kernel_rfl
  i171 := by kernel_rfl
  i173 := by kernel_rfl
  i212 := by kernel_rfl
  i232 := by kernel_rfl
  i233 := by kernel_rfl
  m17 := by kernel_rfl
  m18 := by kernel_rfl
  m19 := by kernel_rfl }

/-- The library's table of powers of ten in its variable. -/
def TabAt (w : World) : Prop := Go.Lib.TabIs Tryd.prog w "internal/strconv.uint64pow10" .u64 Go.Lib.pow10Tab

theorem pow10_named : ∃ g, Tryd.prog.globalNamed "internal/strconv.uint64pow10" = some g := ⟨_, l173.m17⟩
theorem TabAt.below {w w' : World} (h : TabAt w) (hb : Below w.heap.size w w') : TabAt w' := by
  obtain ⟨g, hg⟩ := pow10_named
  unfold TabAt Go.Lib.TabIs World.var? at h ⊢
  rw [hg] at h ⊢
  simp only [Option.bind_some] at h ⊢
  have hlt : g < w.heap.size := by
    rcases Nat.lt_or_ge g w.heap.size with k | k
    · exact k
    · rw [Array.getElem?_eq_none k] at h; cases h
  rw [hb.block g hlt]
  exact h

theorem below_growN (w : World) (n : Nat) (os : Array Obj) : Below w.heap.size w (grow (w.drewN n) os) := by
  refine ⟨rfl, rfl, rfl, by simp [grow], fun k hk => ?_⟩
  simp [grow, Array.getElem?_append, hk]

/-- strconv.FormatInt at base 10. -/
theorem lib_FormatInt10 (n : Nat) (h : n ≤ 1000000) (w : World) (hT : TabAt w) :
    Calls Tryd.prog 8 #[.int .i64 n, .int .i64 10] w fun e w' => e = .returned (.string (decT n)) ∧ Below w.heap.size w w' := by
  refine (Any.strconv_FormatInt_10 l173 n (by omega) (by omega) w hT).mono ?_
  rintro e w' ⟨rfl, k, os, rfl⟩
  refine ⟨?_, below_growN _ _ _⟩
  unfold decT Go.Lib.itoa
  rw [if_neg (by omega)]
  rfl

end Go.Proofs.YtplemoedpdammaaDoor
