/- The order of files, of the program: fileOrder (as slices.SortFunc asks of a comparing function), mayFollow. -/
import Derived.Test.YtplbhgcibfajaaaMetaF
import Derived.Test.YtplbhgcibfajaaaReg
import Derived.Sort.Grow
namespace Go.Proofs.Ytplbhgcibfajaaa
set_option maxRecDepth 100000
open Go.RowKit Go.Deep Go.Sort

def or2 (a b : Int) : Int := if a = 0 then b else a

theorem impl_Or2 (a b : Int) (g : Nat) (w : World) (h0 : w.cell? ⟨g, 0, none⟩ = some (.int .i64 a)) (h1 : w.cell? ⟨g, 1, none⟩ = some (.int .i64 b)) :
    Calls Try.prog 74 #[.slice (some ⟨g, 0, none⟩) 2 2] w fun e w' => e = .returned (.int .i64 (or2 a b)) ∧ w = w' := by
  unfold or2
  by_cases ha : a = 0
  · rw [if_pos ha]
    subst ha
    by_cases hb : b = 0
    · subst hb
      go_enter Try.func74, Try.ntmps74
      go_wp2
      refine wp_loop_rounds 3 ?_
      iterate 3 (rw [rounds_succ]; go_wp2)
      go_ret
      exact ⟨rfl, rfl⟩
    · have hb' : (b == 0) = false := by simp [hb]
      clear hb
      go_enter Try.func74, Try.ntmps74
      go_wp2
      refine wp_loop_rounds 3 ?_
      iterate 2 (rw [rounds_succ]; go_wp2)
      go_ret
      exact ⟨rfl, rfl⟩
  · rw [if_neg ha]
    have ha' : (a == 0) = false := by simp [ha]
    clear ha
    go_enter Try.func74, Try.ntmps74
    go_wp2
    refine wp_loop_rounds 3 ?_
    iterate 1 (rw [rounds_succ]; go_wp2)
    go_ret
    exact ⟨rfl, rfl⟩

theorem impl_Or2_new (a b : Int) (W : World) :
    Calls Try.prog 74 #[.slice (some ⟨W.heap.size, 0, none⟩) 2 2] (W.alloc (.cells #[.int .i64 a, .int .i64 b] 3)).drew fun e w' => e = .returned (.int .i64 (or2 a b)) ∧ (W.alloc (.cells #[.int .i64 a, .int .i64 b] 3)).drew = w' :=
  impl_Or2 a b W.heap.size _ (by rw [World.cell?_drew, World.cell?_alloc_at _ _ _ _ rfl]; rfl) (by rw [World.cell?_drew, World.cell?_alloc_at _ _ _ _ rfl]; rfl)

/-- fileOrder's number. -/
def fOrd (x0 x1 : Int) (x2 : ByteArray) (y0 y1 : Int) (y2 : ByteArray) : Int := if x1 = 0 ∧ y1 = 0 then cmpI y0 x0 else or2 (cmpI x1 y1) (cmpS x2 y2)

set_option maxHeartbeats 2000000 in
theorem impl_fileOrder (x0 x1 : Int) (x2 x3 : ByteArray) (x4 y0 y1 : Int) (y2 y3 : ByteArray) (y4 : Int) (w : World) :
    Calls Try.prog 59 #[.agg #[.int .i64 x0, .int .i64 x1, .string x2, .string x3, .int .i64 x4], .agg #[.int .i64 y0, .int .i64 y1, .string y2, .string y3, .int .i64 y4]] w fun e w' => e = .returned (.int .i64 (fOrd x0 x1 x2 y0 y1 y2)) ∧ ∃ n os, w' = grow (w.drewN n) os := by
  by_cases h : x1 = 0 ∧ y1 = 0
  · have HV : Hid (cmpI y0 x0 = fOrd x0 x1 x2 y0 y1 y2) := by unfold Hid fOrd; rw [if_pos h]
    obtain ⟨rfl, rfl⟩ := h
    go_enter Try.func59, Try.ntmps59
    go_wp2_with fail
    refine (impl_CompareI _ _ _).mono ?_
    rintro e w1 ⟨rfl, rfl⟩
    go_wp2
    go_ret
    exact ⟨ret_int HV.out, 0, #[.cells #[.int .i64 x0, .int .i64 0, .string x2, .string x3, .int .i64 x4] 59, .cells #[.int .i64 y0, .int .i64 0, .string y2, .string y3, .int .i64 y4] 59], by
      rw [alloc_eq_grow, alloc_eq_grow, grow_grow]; rfl⟩
  · have HV : Hid (or2 (cmpI x1 y1) (cmpS x2 y2) = fOrd x0 x1 x2 y0 y1 y2) := by unfold Hid fOrd; rw [if_neg h]
    have hh : ((x1 == 0) = true → (y1 == 0) = false) := by simpa using fun a b => h ⟨a, b⟩
    have a1 : ((w.alloc (.cells #[.int .i64 x0, .int .i64 x1, .string x2, .string x3, .int .i64 x4] 59)).alloc (.cells #[.int .i64 y0, .int .i64 y1, .string y2, .string y3, .int .i64 y4] 59)).cell? ⟨w.heap.size, 1, none⟩ = some (.int .i64 x1) := by simp
    have a2 : ((w.alloc (.cells #[.int .i64 x0, .int .i64 x1, .string x2, .string x3, .int .i64 x4] 59)).alloc (.cells #[.int .i64 y0, .int .i64 y1, .string y2, .string y3, .int .i64 y4] 59)).cell? ⟨w.heap.size, 2, none⟩ = some (.string x2) := by simp
    have b1 : ((w.alloc (.cells #[.int .i64 x0, .int .i64 x1, .string x2, .string x3, .int .i64 x4] 59)).alloc (.cells #[.int .i64 y0, .int .i64 y1, .string y2, .string y3, .int .i64 y4] 59)).cell? ⟨w.heap.size + 1, 1, none⟩ = some (.int .i64 y1) := by simp
    have b2 : ((w.alloc (.cells #[.int .i64 x0, .int .i64 x1, .string x2, .string x3, .int .i64 x4] 59)).alloc (.cells #[.int .i64 y0, .int .i64 y1, .string y2, .string y3, .int .i64 y4] 59)).cell? ⟨w.heap.size + 1, 2, none⟩ = some (.string y2) := by simp
    cases hx : (x1 == 0) with
    | true =>
      have hy := hh hx
      obtain rfl : x1 = 0 := by simpa using hx
      clear h hh hx
      go_enter Try.func59, Try.ntmps59
      go_wp2
      generalize hW : (w.alloc (.cells #[.int .i64 x0, .int .i64 0, .string x2, .string x3, .int .i64 x4] 59)).alloc (.cells #[.int .i64 y0, .int .i64 y1, .string y2, .string y3, .int .i64 y4] 59) = W at a1 a2 b1 b2 ⊢
      go_region_held3 (fun (w' : World) => w'.cell? ⟨w.heap.size, 1, none⟩ = some (.int .i64 0) ∧ w'.cell? ⟨w.heap.size, 2, none⟩ = some (.string x2) ∧ w'.cell? ⟨w.heap.size + 1, 1, none⟩ = some (.int .i64 y1) ∧ w'.cell? ⟨w.heap.size + 1, 2, none⟩ = some (.string y2)) (go_keep) (first
        | (go_at_call 75; refine (impl_CompareS _ _ _).mono ?_; rintro e w1 ⟨rfl, rfl⟩)
        | (go_at_call 68; refine (impl_CompareI _ _ _).mono ?_; rintro e w1 ⟨rfl, rfl⟩)
        | (go_at_call 74; refine (impl_Or2_new _ _ _).mono ?_; rintro e w1 ⟨rfl, rfl⟩))
      all_goals go_wp2
      all_goals go_ret
      all_goals subst hW
      all_goals exact ⟨ret_int HV.out, 1, #[.cells #[.int .i64 x0, .int .i64 0, .string x2, .string x3, .int .i64 x4] 59, .cells #[.int .i64 y0, .int .i64 y1, .string y2, .string y3, .int .i64 y4] 59, .cells #[.int .i64 (cmpI 0 y1), .int .i64 (cmpS x2 y2)] 3], by
        rw [alloc_eq_grow, alloc_eq_grow, alloc_eq_grow, grow_grow, grow_grow]; rfl⟩
    | false =>
      clear h hh
      go_enter Try.func59, Try.ntmps59
      go_wp2
      generalize hW : (w.alloc (.cells #[.int .i64 x0, .int .i64 x1, .string x2, .string x3, .int .i64 x4] 59)).alloc (.cells #[.int .i64 y0, .int .i64 y1, .string y2, .string y3, .int .i64 y4] 59) = W at a1 a2 b1 b2 ⊢
      go_region_held3 (fun (w' : World) => w'.cell? ⟨w.heap.size, 1, none⟩ = some (.int .i64 x1) ∧ w'.cell? ⟨w.heap.size, 2, none⟩ = some (.string x2) ∧ w'.cell? ⟨w.heap.size + 1, 1, none⟩ = some (.int .i64 y1) ∧ w'.cell? ⟨w.heap.size + 1, 2, none⟩ = some (.string y2)) (go_keep) (first
        | (go_at_call 75; refine (impl_CompareS _ _ _).mono ?_; rintro e w1 ⟨rfl, rfl⟩)
        | (go_at_call 68; refine (impl_CompareI _ _ _).mono ?_; rintro e w1 ⟨rfl, rfl⟩)
        | (go_at_call 74; refine (impl_Or2_new _ _ _).mono ?_; rintro e w1 ⟨rfl, rfl⟩))
      all_goals go_wp2
      all_goals go_ret
      all_goals subst hW
      all_goals exact ⟨ret_int HV.out, 1, #[.cells #[.int .i64 x0, .int .i64 x1, .string x2, .string x3, .int .i64 x4] 59, .cells #[.int .i64 y0, .int .i64 y1, .string y2, .string y3, .int .i64 y4] 59, .cells #[.int .i64 (cmpI x1 y1), .int .i64 (cmpS x2 y2)] 3], by
        rw [alloc_eq_grow, alloc_eq_grow, alloc_eq_grow, grow_grow, grow_grow]; rfl⟩

theorem below_grow (w : World) (n : Nat) (os : Array Obj) : Below w.heap.size w (grow (w.drewN n) os) := by
  refine ⟨rfl, rfl, rfl, by simp [grow], fun k hk => ?_⟩
  simp [grow, Array.getElem?_append, hk]

/-- mayFollow's answer. -/
def followB (x0 x1 : Int) (x2 x3 : ByteArray) (y0 y1 : Int) (y2 : ByteArray) : Bool := if x1 = y1 ∧ 0 < x1 then sLt x3 y2 else decide (fOrd x0 x1 x2 y0 y1 y2 < 0)

theorem cmpI_neg (x y : Int) : cmpI x y < 0 ↔ x < y := by
  rcases cmpI_cases x y with ⟨a, _, l⟩ | ⟨a, _, l⟩ | ⟨a, _, l⟩ <;> rw [a] <;> omega

/-- Of two files at right levels it is the model's. -/
theorem followB_ahead {x0 x1 : Int} {x2 x3 : ByteArray} {y0 y1 : Int} {y2 : ByteArray} (hx : 0 ≤ x1) (_hy : 0 ≤ y1) : followB x0 x1 x2 x3 y0 y1 y2 = aheadB x0 x1 x3 y0 y1 y2 := by
  unfold followB aheadB
  by_cases h : x1 = y1
  · subst h
    by_cases h0 : x1 = 0
    · subst h0
      rw [if_neg (by omega), if_pos rfl, if_pos rfl, fOrd, if_pos ⟨rfl, rfl⟩]
      simp [cmpI_neg]
    · rw [if_pos ⟨rfl, by omega⟩, if_pos rfl, if_neg h0]
  · rw [if_neg (fun k => h k.1), if_neg h, fOrd, if_neg (fun k => h (k.1.trans k.2.symm))]
    have hne : cmpI x1 y1 ≠ 0 := by
      rcases cmpI_cases x1 y1 with ⟨a, _, l⟩ | ⟨a, _, l⟩ | ⟨a, _, l⟩
      · rw [a]; decide
      · exact absurd l h
      · rw [a]; decide
    rw [or2, if_neg hne]
    simp [cmpI_neg]

set_option maxHeartbeats 2000000 in
theorem impl_mayFollow (x0 x1 : Int) (x2 x3 : ByteArray) (x4 y0 y1 : Int) (y2 y3 : ByteArray) (y4 : Int) (w : World) :
    Calls Try.prog 48 #[.agg #[.int .i64 x0, .int .i64 x1, .string x2, .string x3, .int .i64 x4], .agg #[.int .i64 y0, .int .i64 y1, .string y2, .string y3, .int .i64 y4]] w fun e w' => e = .returned (.bool (followB x0 x1 x2 x3 y0 y1 y2)) ∧ Below w.heap.size w w' := by
  have HB1 : Hid (Below w.heap.size w ((w.alloc (.cells #[.int .i64 x0, .int .i64 x1, .string x2, .string x3, .int .i64 x4] 59)).alloc (.cells #[.int .i64 y0, .int .i64 y1, .string y2, .string y3, .int .i64 y4] 59))) := (below_one _ _).alloc (by simp) _
  by_cases h1 : x1 = y1
  · subst h1
    by_cases h2 : 0 < x1
    · have HV : Hid (Op.bytesLess x3.toList y2.toList = followB x0 x1 x2 x3 y0 x1 y2) := by unfold Hid followB; rw [if_pos ⟨rfl, h2⟩]; rfl
      go_enter Try.func48, Try.ntmps48
      go_wp2
      go_ret
      exact ⟨ret_boolE HV.out, HB1.out⟩
    · have HV : Hid (decide (fOrd x0 x1 x2 y0 x1 y2 < 0) = followB x0 x1 x2 x3 y0 x1 y2) := by unfold Hid followB; rw [if_neg (fun k => h2 k.2)]
      go_enter Try.func48, Try.ntmps48
      go_wp2_with fail
      refine (impl_fileOrder _ _ _ _ _ _ _ _ _ _ _).mono ?_
      rintro e w1 ⟨rfl, n, os, rfl⟩
      have HB2 := hide (HB1.out.trans ((below_grow _ n os).mono HB1.out.size))
      clear HB1
      generalize grow _ os = w2 at HB2 ⊢
      go_wp2
      go_ret
      exact ⟨ret_boolE HV.out, HB2.out⟩
  · have HV : Hid (decide (fOrd x0 x1 x2 y0 y1 y2 < 0) = followB x0 x1 x2 x3 y0 y1 y2) := by unfold Hid followB; rw [if_neg (fun k => h1 k.1)]
    go_enter Try.func48, Try.ntmps48
    go_wp2_with fail
    refine (impl_fileOrder _ _ _ _ _ _ _ _ _ _ _).mono ?_
    rintro e w1 ⟨rfl, n, os, rfl⟩
    have HB2 := hide (HB1.out.trans ((below_grow _ n os).mono HB1.out.size))
    clear HB1
    generalize grow _ os = w2 at HB2 ⊢
    go_wp2
    go_ret
    exact ⟨ret_boolE HV.out, HB2.out⟩

end Go.Proofs.Ytplbhgcibfajaaa
