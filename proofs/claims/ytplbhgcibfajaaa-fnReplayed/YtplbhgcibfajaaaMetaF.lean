/- One file of a version, and two of them: fileOk, mayFollow of the program, l12Meta, l12Ahead of the model. (By gen_metaf.py.) -/
import Derived.Test.YtplbhgcibfajaaaMetas
import Derived.Test.YtplbhgcibfajaaaUsers
import Derived.Test.YtplbhgcibfajaaaKOrd
import Derived.Test.YtplbhgcibfajaaaIn1
namespace Go.Proofs.Ytplbhgcibfajaaa
set_option maxRecDepth 100000
open Go.RowKit Go.Deep

def sLt (x y : ByteArray) : Bool := Op.bytesLess x.toList y.toList
def sLe (x y : ByteArray) : Bool := Op.bytesLess x.toList y.toList || x.toList == y.toList

/-- A file that is right by itself, its number below nx. -/
def fileB (x0 x1 : Int) (x2 x3 : ByteArray) (x4 nx : Int) : Bool := decide (1 ≤ x0) && decide (x0 < nx) && decide (0 ≤ x1) && decide (x1 ≤ 3) && userB x2 && userB x3 && sLe x2 x3 && decide (1 ≤ x4) && decide (x4 ≤ 400)
/-- The model's: without the number's bound. -/
def metaB (x0 x1 : Int) (x2 x3 : ByteArray) (x4 : Int) : Bool := decide (1 ≤ x0 ∧ x0 ≤ 1000000) && decide (0 ≤ x1 ∧ x1 ≤ 3) && userB x2 && userB x3 && sLe x2 x3 && decide (1 ≤ x4 ∧ x4 ≤ 400)

theorem fileB_meta {x0 x1 : Int} {x2 x3 : ByteArray} {x4 nx : Int} (h : nx ≤ 1000000) : fileB x0 x1 x2 x3 x4 nx = (metaB x0 x1 x2 x3 x4 && decide (x0 < nx)) := by
  unfold fileB metaB
  rw [Bool.eq_iff_iff]
  simp only [Bool.and_eq_true, decide_eq_true_eq]
  constructor
  · rintro ⟨⟨⟨⟨⟨⟨⟨⟨a, b⟩, c⟩, d⟩, e⟩, f⟩, g⟩, i⟩, j⟩
    exact ⟨⟨⟨⟨⟨⟨⟨a, by omega⟩, c, d⟩, e⟩, f⟩, g⟩, i, j⟩, b⟩
  · rintro ⟨⟨⟨⟨⟨⟨⟨a, _⟩, c, d⟩, e⟩, f⟩, g⟩, i, j⟩, b⟩
    exact ⟨⟨⟨⟨⟨⟨⟨⟨a, b⟩, c⟩, d⟩, e⟩, f⟩, g⟩, i⟩, j⟩

set_option maxHeartbeats 2000000 in
theorem impl_fileOk (x0 x1 : Int) (x2 x3 : ByteArray) (x4 nx : Int) (w : World) :
    Calls Try.prog 47 #[.agg #[.int .i64 x0, .int .i64 x1, .string x2, .string x3, .int .i64 x4], .int .i64 nx] w fun e w' => e = .returned (.bool (fileB x0 x1 x2 x3 x4 nx)) ∧ Below w.heap.size w w' := by
  have HB1 : Hid (Below w.heap.size w (w.alloc (.cells #[.int .i64 x0, .int .i64 x1, .string x2, .string x3, .int .i64 x4] 59))) := below1 _ _
  by_cases q0 : 1 ≤ x0
  · skip
    by_cases q1 : x0 < nx
    · skip
      by_cases q2 : 0 ≤ x1
      · skip
        by_cases q3 : x1 ≤ 3
        · skip
          cases q4 : userB x2 with
          | true =>
            cases q5 : userB x3 with
            | true =>
              cases q6 : sLe x2 x3 with
              | true =>
                by_cases q7 : 1 ≤ x4
                · skip
                  by_cases q8 : x4 ≤ 400
                  · skip
                    have HV : Hid (true = fileB x0 x1 x2 x3 x4 nx) := by unfold Hid fileB; simp [q0, q1, q2, q3, q4, q5, q6, q7, q8]
                    have u4 := fun wx => q4 ▸ impl_userOk x2 wx
                    have u5 := fun wx => q5 ▸ impl_userOk x3 wx
                    unfold sLe at q6
                    clear q4 q5
                    go_enter Try.func47, Try.ntmps47
                    go_wp2_with fail
                    refine (u4 _).mono ?_
                    rintro e w4 ⟨rfl, rfl⟩
                    clear u4
                    go_wp2_with fail
                    refine (u5 _).mono ?_
                    rintro e w5 ⟨rfl, rfl⟩
                    clear u5
                    go_wp2
                    go_ret
                    first | exact ⟨ret_boolE HV.out, HB1.out⟩ | (refine ⟨ret_boolE (Eq.trans ?_ HV.out), HB1.out⟩; simp <;> omega)
                  · skip
                    have HV : Hid (false = fileB x0 x1 x2 x3 x4 nx) := by unfold Hid fileB; simp [q0, q1, q2, q3, q4, q5, q6, q7, q8]
                    have u4 := fun wx => q4 ▸ impl_userOk x2 wx
                    have u5 := fun wx => q5 ▸ impl_userOk x3 wx
                    unfold sLe at q6
                    clear q4 q5
                    go_enter Try.func47, Try.ntmps47
                    go_wp2_with fail
                    refine (u4 _).mono ?_
                    rintro e w4 ⟨rfl, rfl⟩
                    clear u4
                    go_wp2_with fail
                    refine (u5 _).mono ?_
                    rintro e w5 ⟨rfl, rfl⟩
                    clear u5
                    go_wp2
                    go_ret
                    first | exact ⟨ret_boolE HV.out, HB1.out⟩ | (refine ⟨ret_boolE (Eq.trans ?_ HV.out), HB1.out⟩; simp <;> omega)
                · skip
                  have HV : Hid (false = fileB x0 x1 x2 x3 x4 nx) := by unfold Hid fileB; simp [q0, q1, q2, q3, q4, q5, q6, q7]
                  have u4 := fun wx => q4 ▸ impl_userOk x2 wx
                  have u5 := fun wx => q5 ▸ impl_userOk x3 wx
                  unfold sLe at q6
                  clear q4 q5
                  go_enter Try.func47, Try.ntmps47
                  go_wp2_with fail
                  refine (u4 _).mono ?_
                  rintro e w4 ⟨rfl, rfl⟩
                  clear u4
                  go_wp2_with fail
                  refine (u5 _).mono ?_
                  rintro e w5 ⟨rfl, rfl⟩
                  clear u5
                  go_wp2
                  go_ret
                  first | exact ⟨ret_boolE HV.out, HB1.out⟩ | (refine ⟨ret_boolE (Eq.trans ?_ HV.out), HB1.out⟩; simp <;> omega)
              | false =>
                have HV : Hid (false = fileB x0 x1 x2 x3 x4 nx) := by unfold Hid fileB; simp [q0, q1, q2, q3, q4, q5, q6]
                have u4 := fun wx => q4 ▸ impl_userOk x2 wx
                have u5 := fun wx => q5 ▸ impl_userOk x3 wx
                unfold sLe at q6
                clear q4 q5
                go_enter Try.func47, Try.ntmps47
                go_wp2_with fail
                refine (u4 _).mono ?_
                rintro e w4 ⟨rfl, rfl⟩
                clear u4
                go_wp2_with fail
                refine (u5 _).mono ?_
                rintro e w5 ⟨rfl, rfl⟩
                clear u5
                go_wp2
                go_ret
                exact ⟨ret_boolE HV.out, HB1.out⟩
            | false =>
              have HV : Hid (false = fileB x0 x1 x2 x3 x4 nx) := by unfold Hid fileB; simp [q0, q1, q2, q3, q4, q5]
              have u4 := fun wx => q4 ▸ impl_userOk x2 wx
              have u5 := fun wx => q5 ▸ impl_userOk x3 wx
              clear q4 q5
              go_enter Try.func47, Try.ntmps47
              go_wp2_with fail
              refine (u4 _).mono ?_
              rintro e w4 ⟨rfl, rfl⟩
              clear u4
              go_wp2_with fail
              refine (u5 _).mono ?_
              rintro e w5 ⟨rfl, rfl⟩
              clear u5
              go_wp2
              go_ret
              exact ⟨ret_boolE HV.out, HB1.out⟩
          | false =>
            have HV : Hid (false = fileB x0 x1 x2 x3 x4 nx) := by unfold Hid fileB; simp [q0, q1, q2, q3, q4]
            have u4 := fun wx => q4 ▸ impl_userOk x2 wx
            clear q4
            go_enter Try.func47, Try.ntmps47
            go_wp2_with fail
            refine (u4 _).mono ?_
            rintro e w4 ⟨rfl, rfl⟩
            clear u4
            go_wp2
            go_ret
            exact ⟨ret_boolE HV.out, HB1.out⟩
        · skip
          have HV : Hid (false = fileB x0 x1 x2 x3 x4 nx) := by unfold Hid fileB; simp [q0, q1, q2, q3]
          skip
          go_enter Try.func47, Try.ntmps47
          go_wp2
          go_ret
          first | exact ⟨ret_boolE HV.out, HB1.out⟩ | (refine ⟨ret_boolE (Eq.trans ?_ HV.out), HB1.out⟩; simp <;> omega)
      · skip
        have HV : Hid (false = fileB x0 x1 x2 x3 x4 nx) := by unfold Hid fileB; simp [q0, q1, q2]
        skip
        go_enter Try.func47, Try.ntmps47
        go_wp2
        go_ret
        first | exact ⟨ret_boolE HV.out, HB1.out⟩ | (refine ⟨ret_boolE (Eq.trans ?_ HV.out), HB1.out⟩; simp <;> omega)
    · skip
      have HV : Hid (false = fileB x0 x1 x2 x3 x4 nx) := by unfold Hid fileB; simp [q0, q1]
      skip
      go_enter Try.func47, Try.ntmps47
      go_wp2
      go_ret
      first | exact ⟨ret_boolE HV.out, HB1.out⟩ | (refine ⟨ret_boolE (Eq.trans ?_ HV.out), HB1.out⟩; simp <;> omega)
  · skip
    have HV : Hid (false = fileB x0 x1 x2 x3 x4 nx) := by unfold Hid fileB; simp [q0]
    skip
    go_enter Try.func47, Try.ntmps47
    go_wp2
    go_ret
    first | exact ⟨ret_boolE HV.out, HB1.out⟩ | (refine ⟨ret_boolE (Eq.trans ?_ HV.out), HB1.out⟩; simp <;> omega)

set_option maxHeartbeats 2000000 in
theorem spec_l12Meta (x0 x1 : Int) (x2 x3 : ByteArray) (x4 : Int) (w : World) :
    Calls Try.prog 55 #[.agg #[.int .i64 x0, .int .i64 x1, .string x2, .string x3, .int .i64 x4]] w fun e w' => e = .returned (.bool (metaB x0 x1 x2 x3 x4)) ∧ Below w.heap.size w w' := by
  have HB1 : Hid (Below w.heap.size w (w.alloc (.cells #[.int .i64 x0, .int .i64 x1, .string x2, .string x3, .int .i64 x4] 59))) := below1 _ _
  by_cases q0 : (1 : Int) ≤ x0 ∧ x0 ≤ 1000000
  · skip
    by_cases q1 : (0 : Int) ≤ x1 ∧ x1 ≤ 3
    · skip
      cases q2 : userB x2 with
      | true =>
        cases q3 : userB x3 with
        | true =>
          cases q4 : sLe x2 x3 with
          | true =>
            by_cases q5 : (1 : Int) ≤ x4 ∧ x4 ≤ 400
            · skip
              have HV : Hid (true = metaB x0 x1 x2 x3 x4) := by unfold Hid metaB; simp [q0, q1, q2, q3, q4, q5]
              have u0 := fun wx => (show decide (1 ≤ x0 ∧ x0 ≤ 1000000) = true from decide_eq_true q0) ▸ spec_l1In x0 1 1000000 wx
              have u1 := fun wx => (show decide (0 ≤ x1 ∧ x1 ≤ 3) = true from decide_eq_true q1) ▸ spec_l1In x1 0 3 wx
              have u2 := fun wx => q2 ▸ spec_l2User x2 wx
              have u3 := fun wx => q3 ▸ spec_l2User x3 wx
              have u5 := fun wx => (show decide (1 ≤ x4 ∧ x4 ≤ 400) = true from decide_eq_true q5) ▸ spec_l1In x4 1 400 wx
              unfold sLe at q4
              clear q0 q1 q2 q3 q5
              go_enter Try.func55, Try.ntmps55
              go_wp2_with fail
              refine (u0 _).mono ?_
              rintro e w0 ⟨rfl, rfl⟩
              clear u0
              go_wp2_with fail
              refine (u1 _).mono ?_
              rintro e w1 ⟨rfl, rfl⟩
              clear u1
              go_wp2_with fail
              refine (u2 _).mono ?_
              rintro e w2 ⟨rfl, rfl⟩
              clear u2
              go_wp2_with fail
              refine (u3 _).mono ?_
              rintro e w3 ⟨rfl, rfl⟩
              clear u3
              go_wp2_with fail
              refine (u5 _).mono ?_
              rintro e w5 ⟨rfl, rfl⟩
              clear u5
              go_wp2
              go_ret
              exact ⟨ret_boolE HV.out, HB1.out⟩
            · skip
              have HV : Hid (false = metaB x0 x1 x2 x3 x4) := by unfold Hid metaB; simp [q0, q1, q2, q3, q4, q5]
              have u0 := fun wx => (show decide (1 ≤ x0 ∧ x0 ≤ 1000000) = true from decide_eq_true q0) ▸ spec_l1In x0 1 1000000 wx
              have u1 := fun wx => (show decide (0 ≤ x1 ∧ x1 ≤ 3) = true from decide_eq_true q1) ▸ spec_l1In x1 0 3 wx
              have u2 := fun wx => q2 ▸ spec_l2User x2 wx
              have u3 := fun wx => q3 ▸ spec_l2User x3 wx
              have u5 := fun wx => (show decide (1 ≤ x4 ∧ x4 ≤ 400) = false from decide_eq_false q5) ▸ spec_l1In x4 1 400 wx
              unfold sLe at q4
              clear q0 q1 q2 q3 q5
              go_enter Try.func55, Try.ntmps55
              go_wp2_with fail
              refine (u0 _).mono ?_
              rintro e w0 ⟨rfl, rfl⟩
              clear u0
              go_wp2_with fail
              refine (u1 _).mono ?_
              rintro e w1 ⟨rfl, rfl⟩
              clear u1
              go_wp2_with fail
              refine (u2 _).mono ?_
              rintro e w2 ⟨rfl, rfl⟩
              clear u2
              go_wp2_with fail
              refine (u3 _).mono ?_
              rintro e w3 ⟨rfl, rfl⟩
              clear u3
              go_wp2_with fail
              refine (u5 _).mono ?_
              rintro e w5 ⟨rfl, rfl⟩
              clear u5
              go_wp2
              go_ret
              exact ⟨ret_boolE HV.out, HB1.out⟩
          | false =>
            have HV : Hid (false = metaB x0 x1 x2 x3 x4) := by unfold Hid metaB; simp [q0, q1, q2, q3, q4]
            have u0 := fun wx => (show decide (1 ≤ x0 ∧ x0 ≤ 1000000) = true from decide_eq_true q0) ▸ spec_l1In x0 1 1000000 wx
            have u1 := fun wx => (show decide (0 ≤ x1 ∧ x1 ≤ 3) = true from decide_eq_true q1) ▸ spec_l1In x1 0 3 wx
            have u2 := fun wx => q2 ▸ spec_l2User x2 wx
            have u3 := fun wx => q3 ▸ spec_l2User x3 wx
            unfold sLe at q4
            clear q0 q1 q2 q3
            go_enter Try.func55, Try.ntmps55
            go_wp2_with fail
            refine (u0 _).mono ?_
            rintro e w0 ⟨rfl, rfl⟩
            clear u0
            go_wp2_with fail
            refine (u1 _).mono ?_
            rintro e w1 ⟨rfl, rfl⟩
            clear u1
            go_wp2_with fail
            refine (u2 _).mono ?_
            rintro e w2 ⟨rfl, rfl⟩
            clear u2
            go_wp2_with fail
            refine (u3 _).mono ?_
            rintro e w3 ⟨rfl, rfl⟩
            clear u3
            go_wp2
            go_ret
            exact ⟨ret_boolE HV.out, HB1.out⟩
        | false =>
          have HV : Hid (false = metaB x0 x1 x2 x3 x4) := by unfold Hid metaB; simp [q0, q1, q2, q3]
          have u0 := fun wx => (show decide (1 ≤ x0 ∧ x0 ≤ 1000000) = true from decide_eq_true q0) ▸ spec_l1In x0 1 1000000 wx
          have u1 := fun wx => (show decide (0 ≤ x1 ∧ x1 ≤ 3) = true from decide_eq_true q1) ▸ spec_l1In x1 0 3 wx
          have u2 := fun wx => q2 ▸ spec_l2User x2 wx
          have u3 := fun wx => q3 ▸ spec_l2User x3 wx
          clear q0 q1 q2 q3
          go_enter Try.func55, Try.ntmps55
          go_wp2_with fail
          refine (u0 _).mono ?_
          rintro e w0 ⟨rfl, rfl⟩
          clear u0
          go_wp2_with fail
          refine (u1 _).mono ?_
          rintro e w1 ⟨rfl, rfl⟩
          clear u1
          go_wp2_with fail
          refine (u2 _).mono ?_
          rintro e w2 ⟨rfl, rfl⟩
          clear u2
          go_wp2_with fail
          refine (u3 _).mono ?_
          rintro e w3 ⟨rfl, rfl⟩
          clear u3
          go_wp2
          go_ret
          exact ⟨ret_boolE HV.out, HB1.out⟩
      | false =>
        have HV : Hid (false = metaB x0 x1 x2 x3 x4) := by unfold Hid metaB; simp [q0, q1, q2]
        have u0 := fun wx => (show decide (1 ≤ x0 ∧ x0 ≤ 1000000) = true from decide_eq_true q0) ▸ spec_l1In x0 1 1000000 wx
        have u1 := fun wx => (show decide (0 ≤ x1 ∧ x1 ≤ 3) = true from decide_eq_true q1) ▸ spec_l1In x1 0 3 wx
        have u2 := fun wx => q2 ▸ spec_l2User x2 wx
        clear q0 q1 q2
        go_enter Try.func55, Try.ntmps55
        go_wp2_with fail
        refine (u0 _).mono ?_
        rintro e w0 ⟨rfl, rfl⟩
        clear u0
        go_wp2_with fail
        refine (u1 _).mono ?_
        rintro e w1 ⟨rfl, rfl⟩
        clear u1
        go_wp2_with fail
        refine (u2 _).mono ?_
        rintro e w2 ⟨rfl, rfl⟩
        clear u2
        go_wp2
        go_ret
        exact ⟨ret_boolE HV.out, HB1.out⟩
    · skip
      have HV : Hid (false = metaB x0 x1 x2 x3 x4) := by unfold Hid metaB; simp [q0, q1]
      have u0 := fun wx => (show decide (1 ≤ x0 ∧ x0 ≤ 1000000) = true from decide_eq_true q0) ▸ spec_l1In x0 1 1000000 wx
      have u1 := fun wx => (show decide (0 ≤ x1 ∧ x1 ≤ 3) = false from decide_eq_false q1) ▸ spec_l1In x1 0 3 wx
      clear q0 q1
      go_enter Try.func55, Try.ntmps55
      go_wp2_with fail
      refine (u0 _).mono ?_
      rintro e w0 ⟨rfl, rfl⟩
      clear u0
      go_wp2_with fail
      refine (u1 _).mono ?_
      rintro e w1 ⟨rfl, rfl⟩
      clear u1
      go_wp2
      go_ret
      exact ⟨ret_boolE HV.out, HB1.out⟩
  · skip
    have HV : Hid (false = metaB x0 x1 x2 x3 x4) := by unfold Hid metaB; simp [q0]
    have u0 := fun wx => (show decide (1 ≤ x0 ∧ x0 ≤ 1000000) = false from decide_eq_false q0) ▸ spec_l1In x0 1 1000000 wx
    clear q0
    go_enter Try.func55, Try.ntmps55
    go_wp2_with fail
    refine (u0 _).mono ?_
    rintro e w0 ⟨rfl, rfl⟩
    clear u0
    go_wp2
    go_ret
    exact ⟨ret_boolE HV.out, HB1.out⟩

/-- The model's order of two files. -/
def aheadB (x0 x1 : Int) (x3 : ByteArray) (y0 y1 : Int) (y2 : ByteArray) : Bool := if x1 = y1 then (if x1 = 0 then decide (y0 < x0) else sLt x3 y2) else decide (x1 < y1)

set_option maxHeartbeats 2000000 in
theorem spec_l12Ahead (x0 x1 : Int) (x2 x3 : ByteArray) (x4 y0 y1 : Int) (y2 y3 : ByteArray) (y4 : Int) (w : World) :
    Calls Try.prog 32 #[.agg #[.int .i64 x0, .int .i64 x1, .string x2, .string x3, .int .i64 x4], .agg #[.int .i64 y0, .int .i64 y1, .string y2, .string y3, .int .i64 y4]] w fun e w' => e = .returned (.bool (aheadB x0 x1 x3 y0 y1 y2)) ∧ Below w.heap.size w w' := by
  have HB1 : Hid (Below w.heap.size w ((w.alloc (.cells #[.int .i64 x0, .int .i64 x1, .string x2, .string x3, .int .i64 x4] 59)).alloc (.cells #[.int .i64 y0, .int .i64 y1, .string y2, .string y3, .int .i64 y4] 59))) := (below1 _ _).alloc (by simp) _
  by_cases h1 : x1 = y1
  · subst h1
    by_cases h2 : x1 = 0
    · subst h2
      have HV : Hid (decide (y0 < x0) = aheadB x0 0 x3 y0 0 y2) := by unfold Hid aheadB; simp
      go_enter Try.func32, Try.ntmps32
      go_wp2
      go_ret
      exact ⟨ret_boolE HV.out, HB1.out⟩
    · have HV : Hid (Op.bytesLess x3.toList y2.toList = aheadB x0 x1 x3 y0 x1 y2) := by unfold Hid aheadB sLt; simp [h2]
      go_enter Try.func32, Try.ntmps32
      go_wp2
      go_ret
      exact ⟨ret_boolE HV.out, HB1.out⟩
  · have HV : Hid (decide (x1 < y1) = aheadB x0 x1 x3 y0 y1 y2) := by unfold Hid aheadB; simp [h1]
    go_enter Try.func32, Try.ntmps32
    go_wp2
    go_ret
    exact ⟨ret_boolE HV.out, HB1.out⟩

end Go.Proofs.Ytplbhgcibfajaaa
