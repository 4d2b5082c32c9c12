/- Overlapping, of the program and of the model. (By gen_over.py.) -/
import Derived.Test.YtplbhgcibfajaaaVersS
namespace Go.Proofs.Ytplbhgcibfajaaa
set_option maxRecDepth 100000
open Go.RowKit Go.Deep

theorem OwnI.base {w : World} {B B' : Nat} {v : Value} {l : List Int} (h : OwnI w B v l) (hB : B' ≤ B) : OwnI w B' v l := by
  refine ⟨h.1, ?_⟩
  rcases h.2 with hn | ⟨g, cap, cur, hv, hg, r⟩
  · exact .inl hn
  · exact .inr ⟨g, cap, cur, hv, Nat.le_trans hB hg, r⟩

theorem sLe_not (x y : ByteArray) : sLe x y = !(Op.bytesLess y.toList x.toList) := by
  unfold sLe
  cases h : Op.bytesLess x.toList y.toList with
  | true => rw [less_asymm _ _ h]; rfl
  | false =>
    cases k : Op.bytesLess y.toList x.toList with
    | true =>
      have : ¬ x.toList = y.toList := fun e => by rw [e, bytesLess_irrefl] at k; cases k
      simp [this]
    | false => rw [less_tri _ _ h k]; simp

/-- File i is of this level and has users between the bounds. -/
def overB (O : Metas) (lv : Int) (fr tq : ByteArray) (i : Nat) : Bool := decide (O.L i = lv) && sLe (O.F i) tq && sLe fr (O.Z i)
/-- The numbers of those among the first k files. -/
def overN (O : Metas) (lv : Int) (fr tq : ByteArray) : Nat → List Int
  | 0 => []
  | k + 1 => if overB O lv fr tq k then overN O lv fr tq k ++ [O.N k] else overN O lv fr tq k
theorem overN_len (O : Metas) (lv : Int) (fr tq : ByteArray) : ∀ k, (overN O lv fr tq k).length ≤ k
  | 0 => Nat.le_refl _
  | k + 1 => by
    have := overN_len O lv fr tq k
    unfold overN
    split
    · simp; omega
    · omega
def overL (c : VersionC) (lv : Int) (fr tq : ByteArray) : List Int := if versB c then overN c.r0 lv fr tq c.n0 else []

theorem overL_len {c : VersionC} {lv : Int} {fr tq : ByteArray} (hf : c.Fit) : (overL c lv fr tq).length ≤ 1048576 := by
  unfold overL
  split
  · exact Nat.le_trans (overN_len _ _ _ _ _) hf
  · simp

end Go.Proofs.Ytplbhgcibfajaaa
