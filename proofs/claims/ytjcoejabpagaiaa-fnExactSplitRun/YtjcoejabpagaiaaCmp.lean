/- KeyCmp, of the program and of the model. -/
import Derived.Test.YtjcoejabpagaiaaKeys
import Derived.Deep.RegionHeld3
namespace Go.Proofs.Ytjcoejabpagaiaa
set_option maxRecDepth 100000
open Go.RowKit

def cmpS (x y : ByteArray) : Int := if Op.bytesLess x.toList y.toList = true then -1 else if (x.toList == y.toList) = true then 0 else 1
def cmpI (x y : Int) : Int := if x < y then -1 else if x = y then 0 else 1

theorem impl_CompareS (x y : ByteArray) (w : World) :
    Calls Try.prog 44 #[.string x, .string y] w fun e w' => e = .returned (.int .i64 (cmpS x y)) ∧ w = w' := by
  cases hl : Op.bytesLess x.toList y.toList with
  | true =>
    have HL : Hid (cmpS x y = -1) := by unfold Hid cmpS; rw [if_pos hl]
    go_enter Try.func44, Try.ntmps44
    go_wp2
    go_ret
    exact ⟨ret_int HL.out.symm, rfl⟩
  | false =>
    cases he : (x.toList == y.toList) with
    | true =>
      have HL : Hid (cmpS x y = 0) := by unfold Hid cmpS; rw [if_neg (by simp [hl]), if_pos he]
      go_enter Try.func44, Try.ntmps44
      go_wp2
      go_ret
      exact ⟨ret_int HL.out.symm, rfl⟩
    | false =>
      have HL : Hid (cmpS x y = 1) := by unfold Hid cmpS; rw [if_neg (by simp [hl]), if_neg (by simp [he])]
      go_enter Try.func44, Try.ntmps44
      go_wp2
      go_ret
      exact ⟨ret_int HL.out.symm, rfl⟩

theorem impl_CompareI (x y : Int) (w : World) :
    Calls Try.prog 45 #[.int .i64 x, .int .i64 y] w fun e w' => e = .returned (.int .i64 (cmpI x y)) ∧ w = w' := by
  unfold cmpI
  by_cases h1 : x < y
  · rw [if_pos h1]
    go_enter Try.func45, Try.ntmps45
    go_wp2
    go_ret
    exact ⟨rfl, rfl⟩
  · rw [if_neg h1]
    by_cases h2 : x = y
    · rw [if_pos h2]
      subst h2
      go_enter Try.func45, Try.ntmps45
      go_wp2
      go_ret
      exact ⟨rfl, rfl⟩
    · rw [if_neg h2]
      have h3 : y < x := by omega
      go_enter Try.func45, Try.ntmps45
      go_wp2
      go_ret
      exact ⟨rfl, rfl⟩

def orI (a b c : Int) : Int := if a = 0 then (if b = 0 then c else b) else a

theorem impl_Or (a b c : Int) (g : Nat) (w : World) (h0 : w.cell? ⟨g, 0, none⟩ = some (.int .i64 a)) (h1 : w.cell? ⟨g, 1, none⟩ = some (.int .i64 b)) (h2 : w.cell? ⟨g, 2, none⟩ = some (.int .i64 c)) :
    Calls Try.prog 43 #[.slice (some ⟨g, 0, none⟩) 3 3] w fun e w' => e = .returned (.int .i64 (orI a b c)) ∧ w = w' := by
  unfold orI
  by_cases ha : a = 0
  · rw [if_pos ha]
    subst ha
    by_cases hb : b = 0
    · rw [if_pos hb]
      subst hb
      by_cases hc : c = 0
      · subst hc
        go_enter Try.func43, Try.ntmps43
        go_wp2
        refine wp_loop_rounds 4 ?_
        iterate 4 (rw [rounds_succ]; go_wp2)
        go_ret
        exact ⟨rfl, rfl⟩
      · have hc' : (c == 0) = false := by simp [hc]
        clear hc
        go_enter Try.func43, Try.ntmps43
        go_wp2
        refine wp_loop_rounds 4 ?_
        iterate 3 (rw [rounds_succ]; go_wp2)
        go_ret
        exact ⟨rfl, rfl⟩
    · rw [if_neg hb]
      have hb' : (b == 0) = false := by simp [hb]
      clear hb
      go_enter Try.func43, Try.ntmps43
      go_wp2
      refine wp_loop_rounds 4 ?_
      iterate 2 (rw [rounds_succ]; go_wp2)
      go_ret
      exact ⟨rfl, rfl⟩
  · rw [if_neg ha]
    have ha' : (a == 0) = false := by simp [ha]
    clear ha
    go_enter Try.func43, Try.ntmps43
    go_wp2
    refine wp_loop_rounds 4 ?_
    iterate 1 (rw [rounds_succ]; go_wp2)
    go_ret
    exact ⟨rfl, rfl⟩

theorem impl_Or_new (a b c : Int) (W : World) :
    Calls Try.prog 43 #[.slice (some ⟨W.heap.size, 0, none⟩) 3 3] (W.alloc (.cells #[.int .i64 a, .int .i64 b, .int .i64 c] 3)).drew fun e w' => e = .returned (.int .i64 (orI a b c)) ∧ (W.alloc (.cells #[.int .i64 a, .int .i64 b, .int .i64 c] 3)).drew = w' :=
  impl_Or a b c W.heap.size _ (by rw [World.cell?_drew, World.cell?_alloc_at _ _ _ _ rfl]; rfl) (by rw [World.cell?_drew, World.cell?_alloc_at _ _ _ _ rfl]; rfl) (by rw [World.cell?_drew, World.cell?_alloc_at _ _ _ _ rfl]; rfl)

set_option maxHeartbeats 1000000 in
theorem impl_keyOrder (ua : ByteArray) (qa ka : Int) (ub : ByteArray) (qb kb : Int) (w : World) :
    Calls Try.prog 34 #[.agg #[.string ua, .int .i64 qa, .int .i64 ka], .agg #[.string ub, .int .i64 qb, .int .i64 kb]] w fun e w' => e = .returned (.int .i64 (orI (cmpS ua ub) (cmpI qb qa) (cmpI kb ka))) ∧ Below w.heap.size w w' := by
  go_enter Try.func34, Try.ntmps34
  go_wp2
  have hb : Below w.heap.size w ((w.alloc (.cells #[.string ua, .int .i64 qa, .int .i64 ka] 41)).alloc (.cells #[.string ub, .int .i64 qb, .int .i64 kb] 41)) := ((Below.refl _ _).alloc (Nat.le_refl _) _).alloc (by simp) _
  have a0 : ((w.alloc (.cells #[.string ua, .int .i64 qa, .int .i64 ka] 41)).alloc (.cells #[.string ub, .int .i64 qb, .int .i64 kb] 41)).cell? ⟨w.heap.size, 0, none⟩ = some (.string ua) := by simp
  have a1 : ((w.alloc (.cells #[.string ua, .int .i64 qa, .int .i64 ka] 41)).alloc (.cells #[.string ub, .int .i64 qb, .int .i64 kb] 41)).cell? ⟨w.heap.size, 1, none⟩ = some (.int .i64 qa) := by simp
  have a2 : ((w.alloc (.cells #[.string ua, .int .i64 qa, .int .i64 ka] 41)).alloc (.cells #[.string ub, .int .i64 qb, .int .i64 kb] 41)).cell? ⟨w.heap.size, 2, none⟩ = some (.int .i64 ka) := by simp
  have b0 : ((w.alloc (.cells #[.string ua, .int .i64 qa, .int .i64 ka] 41)).alloc (.cells #[.string ub, .int .i64 qb, .int .i64 kb] 41)).cell? ⟨w.heap.size + 1, 0, none⟩ = some (.string ub) := by simp
  have b1 : ((w.alloc (.cells #[.string ua, .int .i64 qa, .int .i64 ka] 41)).alloc (.cells #[.string ub, .int .i64 qb, .int .i64 kb] 41)).cell? ⟨w.heap.size + 1, 1, none⟩ = some (.int .i64 qb) := by simp
  have b2 : ((w.alloc (.cells #[.string ua, .int .i64 qa, .int .i64 ka] 41)).alloc (.cells #[.string ub, .int .i64 qb, .int .i64 kb] 41)).cell? ⟨w.heap.size + 1, 2, none⟩ = some (.int .i64 kb) := by simp
  generalize (w.alloc (.cells #[.string ua, .int .i64 qa, .int .i64 ka] 41)).alloc (.cells #[.string ub, .int .i64 qb, .int .i64 kb] 41) = W at hb a0 a1 a2 b0 b1 b2 ⊢
  go_region_held3 (fun (w' : World) => w'.cell? ⟨w.heap.size, 0, none⟩ = some (.string ua) ∧ w'.cell? ⟨w.heap.size, 1, none⟩ = some (.int .i64 qa) ∧ w'.cell? ⟨w.heap.size, 2, none⟩ = some (.int .i64 ka) ∧ w'.cell? ⟨w.heap.size + 1, 0, none⟩ = some (.string ub) ∧ w'.cell? ⟨w.heap.size + 1, 1, none⟩ = some (.int .i64 qb) ∧ w'.cell? ⟨w.heap.size + 1, 2, none⟩ = some (.int .i64 kb)) (go_keep) (first
    | (go_at_call 44; refine (impl_CompareS _ _ _).mono ?_; rintro e w1 ⟨rfl, rfl⟩)
    | (go_at_call 45; refine (impl_CompareI _ _ _).mono ?_; rintro e w1 ⟨rfl, rfl⟩)
    | (go_at_call 43; refine (impl_Or_new _ _ _ _).mono ?_; rintro e w1 ⟨rfl, rfl⟩))
  all_goals go_wp2
  all_goals go_ret
  all_goals exact ⟨rfl, hb.trans (((Below.refl _ _).alloc (Nat.le_refl _) _).drew.mono hb.size)⟩

def keyCmpI (ua : ByteArray) (qa ka : Int) (ub : ByteArray) (qb kb : Int) : Int := if keyOkB ua qa ka && keyOkB ub qb kb then orI (cmpS ua ub) (cmpI qb qa) (cmpI kb ka) else 0

theorem bytesLess_irrefl : ∀ x : List UInt8, Op.bytesLess x x = false
  | [] => rfl
  | a :: x => by simp [Op.bytesLess, bytesLess_irrefl x]

theorem spec_KeyCmp (ua : ByteArray) (qa ka : Int) (ub : ByteArray) (qb kb : Int) (w : World) :
    Calls Try.prog 30 #[.agg #[.string ua, .int .i64 qa, .int .i64 ka], .agg #[.string ub, .int .i64 qb, .int .i64 kb]] w fun e w' => e = .returned (.int .i64 (keyCmpI ua qa ka ub qb kb)) ∧ Below w.heap.size w w' := by
  have hB := Below.refl ((w.alloc (.cells #[.string ua, .int .i64 qa, .int .i64 ka] 41)).alloc (.cells #[.string ub, .int .i64 qb, .int .i64 kb] 41)).heap.size ((w.alloc (.cells #[.string ua, .int .i64 qa, .int .i64 ka] 41)).alloc (.cells #[.string ub, .int .i64 qb, .int .i64 kb] 41))
  cases ha : keyOkB ua qa ka with
  | false =>
    have HF : Hid (keyCmpI ua qa ka ub qb kb = 0) := by simp [Hid, keyCmpI, ha]
    go_enter Try.func30, Try.ntmps30
    go_wp2_with fail
    refine (calls_from hB (spec_KeyOk ua qa ka _)).mono ?_
    try clear hC hF hZ
    clear hB
    rintro e w1 ⟨rfl, hB⟩
    obtain ⟨hC, hF, hZ⟩ := bfacts hB
    go_wp2
    go_ret
    exact ⟨ret_int HF.out.symm, below_of_alloc (below_of_alloc hB)⟩
  | true =>
    cases hb : keyOkB ub qb kb with
    | false =>
      have HF : Hid (keyCmpI ua qa ka ub qb kb = 0) := by simp [Hid, keyCmpI, hb]
      go_enter Try.func30, Try.ntmps30
      go_wp2_with fail
      refine (calls_from hB (spec_KeyOk ua qa ka _)).mono ?_
      try clear hC hF hZ
      clear hB
      rintro e w1 ⟨rfl, hB⟩
      obtain ⟨hC, hF, hZ⟩ := bfacts hB
      go_wp2_with fail
      refine (calls_from hB (spec_KeyOk ub qb kb _)).mono ?_
      try clear hC hF hZ
      clear hB
      rintro e w1 ⟨rfl, hB⟩
      obtain ⟨hC, hF, hZ⟩ := bfacts hB
      go_wp2
      go_ret
      exact ⟨ret_int HF.out.symm, below_of_alloc (below_of_alloc hB)⟩
    | true =>
      have HF : Hid (keyCmpI ua qa ka ub qb kb = orI (cmpS ua ub) (cmpI qb qa) (cmpI kb ka)) := by simp [Hid, keyCmpI, ha, hb]
      cases hl : Op.bytesLess ua.toList ub.toList with
      | true =>
        have he : (ua.toList == ub.toList) = false := by
          rw [beq_eq_false_iff_ne]; intro e; rw [e, bytesLess_irrefl] at hl; cases hl
        have HV : Hid (keyCmpI ua qa ka ub qb kb = -1) := by simp [Hid, HF.out, cmpS, orI, hl]
        go_enter Try.func30, Try.ntmps30
        go_wp2_with fail
        refine (calls_from hB (spec_KeyOk ua qa ka _)).mono ?_
        try clear hC hF hZ
        clear hB
        rintro e w1 ⟨rfl, hB⟩
        obtain ⟨hC, hF, hZ⟩ := bfacts hB
        go_wp2_with fail
        refine (calls_from hB (spec_KeyOk ub qb kb _)).mono ?_
        try clear hC hF hZ
        clear hB
        rintro e w1 ⟨rfl, hB⟩
        obtain ⟨hC, hF, hZ⟩ := bfacts hB
        go_wp2
        go_ret
        exact ⟨ret_int HV.out.symm, below_of_alloc (below_of_alloc hB)⟩
      | false =>
        cases he : (ua.toList == ub.toList) with
        | false =>
          have HV : Hid (keyCmpI ua qa ka ub qb kb = 1) := by simp only [Hid, HF.out, cmpS, orI, hl, he]; simp
          go_enter Try.func30, Try.ntmps30
          go_wp2_with fail
          refine (calls_from hB (spec_KeyOk ua qa ka _)).mono ?_
          try clear hC hF hZ
          clear hB
          rintro e w1 ⟨rfl, hB⟩
          obtain ⟨hC, hF, hZ⟩ := bfacts hB
          go_wp2_with fail
          refine (calls_from hB (spec_KeyOk ub qb kb _)).mono ?_
          try clear hC hF hZ
          clear hB
          rintro e w1 ⟨rfl, hB⟩
          obtain ⟨hC, hF, hZ⟩ := bfacts hB
          go_wp2
          go_ret
          exact ⟨ret_int HV.out.symm, below_of_alloc (below_of_alloc hB)⟩
        | true =>
          have HC : Hid (cmpS ua ub = 0) := by simp only [Hid, cmpS, hl, he]; simp
          rcases Int.lt_trichotomy qa qb with hq | hq | hq
          · have hq1 : (qa == qb) = false := by simp; omega
            have hq2 : ¬ (qb < qa) := by omega
            have HV : Hid (keyCmpI ua qa ka ub qb kb = 1) := by (unfold Hid; rw [HF.out, HC.out]; unfold orI cmpI; (repeat' split) <;> omega)
            go_enter Try.func30, Try.ntmps30
            go_wp2_with fail
            refine (calls_from hB (spec_KeyOk ua qa ka _)).mono ?_
            try clear hC hF hZ
            clear hB
            rintro e w1 ⟨rfl, hB⟩
            obtain ⟨hC, hF, hZ⟩ := bfacts hB
            go_wp2_with fail
            refine (calls_from hB (spec_KeyOk ub qb kb _)).mono ?_
            try clear hC hF hZ
            clear hB
            rintro e w1 ⟨rfl, hB⟩
            obtain ⟨hC, hF, hZ⟩ := bfacts hB
            go_wp2
            go_ret
            exact ⟨ret_int HV.out.symm, below_of_alloc (below_of_alloc hB)⟩
          · subst hq
            rcases Int.lt_trichotomy ka kb with hk | hk | hk
            · have hk1 : (ka == kb) = false := by simp; omega
              have hk2 : ¬ (kb < ka) := by omega
              have HV : Hid (keyCmpI ua qa ka ub qa kb = 1) := by (unfold Hid; rw [HF.out, HC.out]; unfold orI cmpI; (repeat' split) <;> omega)
              go_enter Try.func30, Try.ntmps30
              go_wp2_with fail
              refine (calls_from hB (spec_KeyOk ua qa ka _)).mono ?_
              try clear hC hF hZ
              clear hB
              rintro e w1 ⟨rfl, hB⟩
              obtain ⟨hC, hF, hZ⟩ := bfacts hB
              go_wp2_with fail
              refine (calls_from hB (spec_KeyOk ub qa kb _)).mono ?_
              try clear hC hF hZ
              clear hB
              rintro e w1 ⟨rfl, hB⟩
              obtain ⟨hC, hF, hZ⟩ := bfacts hB
              go_wp2
              go_ret
              exact ⟨ret_int HV.out.symm, below_of_alloc (below_of_alloc hB)⟩
            · subst hk
              have HV : Hid (keyCmpI ua qa ka ub qa ka = 0) := by (unfold Hid; rw [HF.out, HC.out]; unfold orI cmpI; (repeat' split) <;> omega)
              go_enter Try.func30, Try.ntmps30
              go_wp2_with fail
              refine (calls_from hB (spec_KeyOk ua qa ka _)).mono ?_
              try clear hC hF hZ
              clear hB
              rintro e w1 ⟨rfl, hB⟩
              obtain ⟨hC, hF, hZ⟩ := bfacts hB
              go_wp2_with fail
              refine (calls_from hB (spec_KeyOk ub qa ka _)).mono ?_
              try clear hC hF hZ
              clear hB
              rintro e w1 ⟨rfl, hB⟩
              obtain ⟨hC, hF, hZ⟩ := bfacts hB
              go_wp2
              go_ret
              exact ⟨ret_int HV.out.symm, below_of_alloc (below_of_alloc hB)⟩
            · have hk1 : (ka == kb) = false := by simp; omega
              have HV : Hid (keyCmpI ua qa ka ub qa kb = -1) := by (unfold Hid; rw [HF.out, HC.out]; unfold orI cmpI; (repeat' split) <;> omega)
              go_enter Try.func30, Try.ntmps30
              go_wp2_with fail
              refine (calls_from hB (spec_KeyOk ua qa ka _)).mono ?_
              try clear hC hF hZ
              clear hB
              rintro e w1 ⟨rfl, hB⟩
              obtain ⟨hC, hF, hZ⟩ := bfacts hB
              go_wp2_with fail
              refine (calls_from hB (spec_KeyOk ub qa kb _)).mono ?_
              try clear hC hF hZ
              clear hB
              rintro e w1 ⟨rfl, hB⟩
              obtain ⟨hC, hF, hZ⟩ := bfacts hB
              go_wp2
              go_ret
              exact ⟨ret_int HV.out.symm, below_of_alloc (below_of_alloc hB)⟩
          · have hq1 : (qa == qb) = false := by simp; omega
            have HV : Hid (keyCmpI ua qa ka ub qb kb = -1) := by (unfold Hid; rw [HF.out, HC.out]; unfold orI cmpI; (repeat' split) <;> omega)
            go_enter Try.func30, Try.ntmps30
            go_wp2_with fail
            refine (calls_from hB (spec_KeyOk ua qa ka _)).mono ?_
            try clear hC hF hZ
            clear hB
            rintro e w1 ⟨rfl, hB⟩
            obtain ⟨hC, hF, hZ⟩ := bfacts hB
            go_wp2_with fail
            refine (calls_from hB (spec_KeyOk ub qb kb _)).mono ?_
            try clear hC hF hZ
            clear hB
            rintro e w1 ⟨rfl, hB⟩
            obtain ⟨hC, hF, hZ⟩ := bfacts hB
            go_wp2
            go_ret
            exact ⟨ret_int HV.out.symm, below_of_alloc (below_of_alloc hB)⟩

end Go.Proofs.Ytjcoejabpagaiaa
