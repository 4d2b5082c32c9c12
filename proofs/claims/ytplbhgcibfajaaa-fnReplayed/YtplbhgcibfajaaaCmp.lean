/- KeyCmp, of the program and of the model. -/
import Derived.Test.YtplbhgcibfajaaaKeys
import Derived.Deep.RegionHeld3
namespace Go.Proofs.Ytplbhgcibfajaaa
set_option maxRecDepth 100000
open Go.RowKit

def cmpS (x y : ByteArray) : Int := if Op.bytesLess x.toList y.toList = true then -1 else if (x.toList == y.toList) = true then 0 else 1
def cmpI (x y : Int) : Int := if x < y then -1 else if x = y then 0 else 1

theorem impl_CompareS (x y : ByteArray) (w : World) :
    Calls Try.prog 75 #[.string x, .string y] w fun e w' => e = .returned (.int .i64 (cmpS x y)) ∧ w = w' := by
  cases hl : Op.bytesLess x.toList y.toList with
  | true =>
    have HL : Hid (cmpS x y = -1) := by unfold Hid cmpS; rw [if_pos hl]
    go_enter Try.func75, Try.ntmps75
    go_wp2
    go_ret
    exact ⟨ret_int HL.out.symm, rfl⟩
  | false =>
    cases he : (x.toList == y.toList) with
    | true =>
      have HL : Hid (cmpS x y = 0) := by unfold Hid cmpS; rw [if_neg (by simp [hl]), if_pos he]
      go_enter Try.func75, Try.ntmps75
      go_wp2
      go_ret
      exact ⟨ret_int HL.out.symm, rfl⟩
    | false =>
      have HL : Hid (cmpS x y = 1) := by unfold Hid cmpS; rw [if_neg (by simp [hl]), if_neg (by simp [he])]
      go_enter Try.func75, Try.ntmps75
      go_wp2
      go_ret
      exact ⟨ret_int HL.out.symm, rfl⟩

theorem impl_CompareI (x y : Int) (w : World) :
    Calls Try.prog 68 #[.int .i64 x, .int .i64 y] w fun e w' => e = .returned (.int .i64 (cmpI x y)) ∧ w = w' := by
  unfold cmpI
  by_cases h1 : x < y
  · rw [if_pos h1]
    go_enter Try.func68, Try.ntmps68
    go_wp2
    go_ret
    exact ⟨rfl, rfl⟩
  · rw [if_neg h1]
    by_cases h2 : x = y
    · rw [if_pos h2]
      subst h2
      go_enter Try.func68, Try.ntmps68
      go_wp2
      go_ret
      exact ⟨rfl, rfl⟩
    · rw [if_neg h2]
      have h3 : y < x := by omega
      go_enter Try.func68, Try.ntmps68
      go_wp2
      go_ret
      exact ⟨rfl, rfl⟩

def orI (a b c : Int) : Int := if a = 0 then (if b = 0 then c else b) else a

theorem impl_Or (a b c : Int) (g : Nat) (w : World) (h0 : w.cell? ⟨g, 0, none⟩ = some (.int .i64 a)) (h1 : w.cell? ⟨g, 1, none⟩ = some (.int .i64 b)) (h2 : w.cell? ⟨g, 2, none⟩ = some (.int .i64 c)) :
    Calls Try.prog 74 #[.slice (some ⟨g, 0, none⟩) 3 3] w fun e w' => e = .returned (.int .i64 (orI a b c)) ∧ w = w' := by
  unfold orI
  by_cases ha : a = 0
  · rw [if_pos ha]
    subst ha
    by_cases hb : b = 0
    · rw [if_pos hb]
      subst hb
      by_cases hc : c = 0
      · subst hc
        go_enter Try.func74, Try.ntmps74
        go_wp2
        refine wp_loop_rounds 4 ?_
        iterate 4 (rw [rounds_succ]; go_wp2)
        go_ret
        exact ⟨rfl, rfl⟩
      · have hc' : (c == 0) = false := by simp [hc]
        clear hc
        go_enter Try.func74, Try.ntmps74
        go_wp2
        refine wp_loop_rounds 4 ?_
        iterate 3 (rw [rounds_succ]; go_wp2)
        go_ret
        exact ⟨rfl, rfl⟩
    · rw [if_neg hb]
      have hb' : (b == 0) = false := by simp [hb]
      clear hb
      go_enter Try.func74, Try.ntmps74
      go_wp2
      refine wp_loop_rounds 4 ?_
      iterate 2 (rw [rounds_succ]; go_wp2)
      go_ret
      exact ⟨rfl, rfl⟩
  · rw [if_neg ha]
    have ha' : (a == 0) = false := by simp [ha]
    clear ha
    go_enter Try.func74, Try.ntmps74
    go_wp2
    refine wp_loop_rounds 4 ?_
    iterate 1 (rw [rounds_succ]; go_wp2)
    go_ret
    exact ⟨rfl, rfl⟩

theorem impl_Or_new (a b c : Int) (W : World) :
    Calls Try.prog 74 #[.slice (some ⟨W.heap.size, 0, none⟩) 3 3] (W.alloc (.cells #[.int .i64 a, .int .i64 b, .int .i64 c] 3)).drew fun e w' => e = .returned (.int .i64 (orI a b c)) ∧ (W.alloc (.cells #[.int .i64 a, .int .i64 b, .int .i64 c] 3)).drew = w' :=
  impl_Or a b c W.heap.size _ (by rw [World.cell?_drew, World.cell?_alloc_at _ _ _ _ rfl]; rfl) (by rw [World.cell?_drew, World.cell?_alloc_at _ _ _ _ rfl]; rfl) (by rw [World.cell?_drew, World.cell?_alloc_at _ _ _ _ rfl]; rfl)

def keyCmpI (ua : ByteArray) (qa ka : Int) (ub : ByteArray) (qb kb : Int) : Int := if keyOkB ua qa ka && keyOkB ub qb kb then orI (cmpS ua ub) (cmpI qb qa) (cmpI kb ka) else 0

theorem bytesLess_irrefl : ∀ x : List UInt8, Op.bytesLess x x = false
  | [] => rfl
  | a :: x => by simp [Op.bytesLess, bytesLess_irrefl x]

end Go.Proofs.Ytplbhgcibfajaaa
