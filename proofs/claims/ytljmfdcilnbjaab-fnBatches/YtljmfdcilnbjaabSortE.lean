/- slices.SortFunc at the entries of a batch's ops: the row holds them in the order of their keys. -/
import Derived.Test.YtljmfdcilnbjaabSlS
import Derived.Test.YtljmfdcilnbjaabSortW
namespace Go.Proofs.Ytljmfdcilnbjaab
set_option maxRecDepth 100000
open Go.RowKit Go.Deep Go.Sort

/-- The places of ops, in the order of their entries' keys. -/
def sortB (O : Ops) (q : Int) (l : List Nat) : List Nat := l.mergeSort fun x y => !(ltOf (cfB O q)) y x

theorem sortB_len (O : Ops) (q : Int) (l : List Nat) : (sortB O q l).length = l.length := List.length_mergeSort l

set_option maxHeartbeats 1000000 in
theorem sort_entries (O : Ops) (q : Int) (l : List Nat) (n B g cap : Nat) (w : World) (hn : l.length = n) (hown : OwnE w B g cap (l.map (opEn O q))) (hz : n ≤ 1000) :
    Calls Try.prog 28 #[.slice (some ⟨g, 0, none⟩) n cap, .func (.func 29) #[] #[]] w fun e w' =>
      e = .returned (.tuple #[]) ∧ OwnE w' B g cap ((sortB O q l).map (opEn O q)) ∧ Below B w w' := by
  have eg : ∀ args w, (callFunc 29 args).run Try.prog w = .ok (.enter 29 args) w := enters_of Try.func29 (by kernel_rfl) rfl
  have hcmp : Go.Proofs.CmpLays Try.prog 29 #[] (encB O q) 4 (cfB O q) g 0 l.toArray.size w := fun m os dk _ x y => impl_entryOrder _ _ _ _ _ _ _ _ _
  have h1 : ∀ x, ∀ v ∈ encB O q x, v.oneCell' = true := fun x v hv => by
    simp only [encB, List.mem_cons, List.not_mem_nil, or_false] at hv
    rcases hv with rfl | rfl | rfl | rfl <;> rfl
  have hcon := Go.Proofs.AnyQ.slices_SortFunc_total lsort 4 Try.isAgg52 Try.sizeOf52 (encB O q) (fun _ => rfl) h1 (cfB O q) (cfB_swo O q) 29 #[] g 0 cap l.toArray w eg hcmp hown.holds hown.lt.2 (by simp; omega) (cfB_one O q)
  rw [List.size_toArray, hn] at hcon
  refine Calls.mono hcon ?_
  rintro e w' ⟨rfl, k, os, rfl⟩
  exact ⟨rfl, hown.sorted (sortB_len O q l) os, sortW_below _ _ _ hown.lt.1 hown.lt.2⟩

end Go.Proofs.Ytljmfdcilnbjaab
