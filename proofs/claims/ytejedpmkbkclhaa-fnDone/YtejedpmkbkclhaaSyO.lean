/- Sync of both sides, as the law on it asks. -/
import Derived.Test.YtejedpmkbkclhaaDSy
import Derived.Test.YtejedpmkbkclhaaMkDisk
namespace Go.Proofs.Ytejedpmkbkclhaa
set_option maxRecDepth 100000
open Go.RowKit Go.Deep

/-- A list of files that fits. -/
def fitL (l : List File1) : Prop := l.length ≤ 1048576 ∧ ∀ x, x ∈ l → x.n.size ≤ 1048576 ∧ x.d.size ≤ 1048576
def fitQ (q : List DOp1) : Prop := q.length ≤ 1048576 ∧ ∀ x, x ∈ q → x.n.size ≤ 1048576 ∧ x.t.size ≤ 1048576 ∧ x.d.size ≤ 1048576
theorem fitL_nil : fitL [] := ⟨Nat.zero_le _, fun x h => by cases h⟩
theorem fitQ_nil : fitQ [] := ⟨Nat.zero_le _, fun x h => by cases h⟩
theorem fitL_files {O : Files} {n : Nat} (hn : n ≤ 1048576) (h : ∀ i, i < n → (O.N i).size ≤ 1048576 ∧ (O.D i).size ≤ 1048576) : fitL (filesL O n) :=
  ⟨by rw [filesL_len]; exact hn, fun x hx => by obtain ⟨i, hi, rfl⟩ := List.mem_map.1 hx; exact h i (List.mem_range.1 hi)⟩
theorem fitQ_ops {O : DOps} {n : Nat} (hn : n ≤ 1048576) (h : ∀ i, i < n → (O.N i).size ≤ 1048576 ∧ (O.T i).size ≤ 1048576 ∧ (O.D i).size ≤ 1048576) : fitQ (dOpsL O n) :=
  ⟨by rw [dOpsL_len]; exact hn, fun x hx => by obtain ⟨i, hi, rfl⟩ := List.mem_map.1 hx; exact h i (List.mem_range.1 hi)⟩
theorem dc_fit {l s : List File1} {q : List DOp1} (hl : fitL l) (hs : fitL s) (hq : fitQ q) : (dc l s q).Fit := by
  refine ⟨⟨hl.1, hs.1, hq.1⟩, fun i hi => ?_, fun i hi => ?_, fun i hi => ?_⟩
  · have h1 : i < l.length := hi
    have h2 := hl.2 _ (List.getElem_mem h1)
    have h3 := fnFile_at l i h1
    rw [← h3] at h2; exact h2
  · have h1 : i < s.length := hi
    have h2 := hs.2 _ (List.getElem_mem h1)
    have h3 := fnFile_at s i h1
    rw [← h3] at h2; exact h2
  · have h1 : i < q.length := hi
    have h2 := hq.2 _ (List.getElem_mem h1)
    have h3 := fnDOp_at q i h1
    rw [← h3] at h2; exact h2
def syC (c : DiskC) : DiskC := dc (syL c) (syL c) []
theorem syL_fit {c : DiskC} (hf : c.Fit) : fitL (syL c) := by
  unfold syL
  split
  · exact fitL_files hf.1.1 hf.2.1
  · exact fitL_nil
theorem syC_fit {c : DiskC} (hf : c.Fit) : (syC c).Fit := dc_fit (syL_fit hf) (syL_fit hf) fitQ_nil
theorem spec_SyncO (v : Value) (c : DiskC) (w : World) (hf : c.Fit) (hv : DiskIs w v c) :
    Calls Try.prog 23 #[v] w fun e w' => (∃ u, e = .returned u ∧ DiskOwn w' w.heap.size u (syC c)) ∧ Below w.heap.size w w' :=
  (spec_Sync v c w hf hv).mono (by rintro e w' ⟨⟨u, hu, ho⟩, hb⟩; exact ⟨⟨u, hu, ho.own⟩, hb⟩)
theorem impl_SyncO (v : Value) (c : DiskC) (w : World) (hf : c.Fit) (hv : DiskIs w v c) :
    Calls Try.prog 24 #[v] w fun e w' => (∃ u, e = .returned u ∧ DiskOwn w' w.heap.size u (syC c)) ∧ Below w.heap.size w w' :=
  (impl_Sync v c w hf hv).mono (by rintro e w' ⟨⟨u, hu, ho⟩, hb⟩; exact ⟨⟨u, hu, ho.own⟩, hb⟩)

end Go.Proofs.Ytejedpmkbkclhaa
