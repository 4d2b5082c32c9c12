/- The law's bound, the reader opened, a row that was drawn. (The same as in DrawSc: never import both.) -/
import Derived.Test.YtapajchnfjjipaaDrawEs
namespace Go.Proofs.Ytapajchnfjjipaa
set_option maxRecDepth 100000
open Go.RowKit Go.Deep

theorem laws_bigS (a : Option Addr) (len cap : Nat) (hl : len ≤ maxLen) (w : World) :
    Calls Try.prog 23 #[.slice a len cap] w fun e w' => e = .returned (.bool (decide (1048576 < len))) ∧ w = w' := by
  unfold maxLen at hl
  by_cases h : 1048576 < len
  · have h' : (1048576 : Int) < (len : Int) := by omega
    go_enter Try.func23, Try.ntmps23
    go_wp2
    go_ret
    exact ⟨congrArg (fun b => Ending.returned (.bool b)) (decide_eq_true h).symm, rfl⟩
  · have h' : ¬ ((1048576 : Int) < (len : Int)) := by omega
    go_enter Try.func23, Try.ntmps23
    go_wp2
    go_ret
    exact ⟨rfl, rfl⟩

theorem open_rdS (W : World) (a : Option Addr) (len cap : Nat) (W0 : World) (h0 : Below W0.heap.size W0 W) :
    Calls Try.prog 44 #[.slice a len cap] W fun e w' => e = .returned (.pointer (some ⟨W.heap.size, 0, none⟩)) ∧ Rd W0 w' W.heap.size a len cap ∧ Below W.heap.size W w' := by
  go_enter Try.func44, Try.ntmps44
  go_wp2
  go_ret
  refine ⟨rfl, ⟨h0.size, by simp, h0.trans ((Below.refl _ _).alloc h0.size _), ?_, ⟨0, Nat.zero_le _, ?_⟩, ?_⟩, (Below.refl _ _).alloc (Nat.le_refl _) _⟩
  · simp
  · simp
  · simp

def entsOfS (es : List En) : Ents := ⟨fun i => (es.getD i ⟨⟨#[]⟩, 0, 0, ⟨#[]⟩⟩).u, fun i => (es.getD i ⟨⟨#[]⟩, 0, 0, ⟨#[]⟩⟩).q, fun i => (es.getD i ⟨⟨#[]⟩, 0, 0, ⟨#[]⟩⟩).k, fun i => (es.getD i ⟨⟨#[]⟩, 0, 0, ⟨#[]⟩⟩).x⟩
theorem entAtS {w : World} {B g cap : Nat} {es : List En} (h : OwnE w B g cap es) : EntAt w w.heap.size (some ⟨g, 0, none⟩) es.length (entsOfS es) := by
  refine .inr ⟨g, 0, rfl, h.lt.2, fun i hi => ?_⟩
  have hg : es[i]? = some (es.getD i ⟨⟨#[]⟩, 0, 0, ⟨#[]⟩⟩) := by rw [List.getD, List.getElem?_eq_getElem hi]; rfl
  obtain ⟨c0, c1, c2, c3⟩ := cellsE_get es i _ hg
  rw [Nat.zero_add]
  exact ⟨h.cell c0, h.cell c1, h.cell c2, h.cell c3⟩

end Go.Proofs.Ytapajchnfjjipaa
