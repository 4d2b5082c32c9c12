/- Replace of both sides, as the law on it asks. -/
import Derived.Test.YtejedpmkbkclhaaRpI
import Derived.Test.YtejedpmkbkclhaaRpS
namespace Go.Proofs.Ytejedpmkbkclhaa
set_option maxRecDepth 100000
open Go.RowKit Go.Deep

theorem spec_ReplaceO (v : Value) (c : DiskC) (m d : ByteArray) (w : World) (hf : c.Fit) (hm : m.size ≤ 1048576) (hd : d.size ≤ 1048576) (hv : DiskIs w v c) :
    Calls Try.prog 32 #[v, .string m, .string d] w fun e w' => (∃ u, e = .returned (.tuple #[u, .int .i64 (rpK c m d)]) ∧ DiskOwn w' w.heap.size u (rpC c m d)) ∧ Below w.heap.size w w' :=
  spec_Replace v c m d w hf hm hd hv
theorem impl_ReplaceO (v : Value) (c : DiskC) (m d : ByteArray) (w : World) (hf : c.Fit) (hm : m.size ≤ 1048576) (hd : d.size ≤ 1048576) (hv : DiskIs w v c) :
    Calls Try.prog 33 #[v, .string m, .string d] w fun e w' => (∃ u, e = .returned (.tuple #[u, .int .i64 (rpK c m d)]) ∧ DiskOwn w' w.heap.size u (rpC c m d)) ∧ Below w.heap.size w w' :=
  impl_Replace v c m d w hf hm hd hv

end Go.Proofs.Ytejedpmkbkclhaa
