/- The law FnBlooms, walked. -/
import Derived.Test.YtonkjdjancnajacBlooms
import Derived.Test.YtonkjdjancnajacDrawBloom
import Derived.Test.YtonkjdjancnajacNth
import Derived.Deep.RegionHeld3
namespace Go.Proofs.Ytonkjdjancnajac
set_option maxRecDepth 100000
open Go.RowKit Go.Deep

/-- A filter in a box, as it lies. -/
abbrev fCells (kd sd pr : Int) (bs : ByteArray) : Array Value := #[.int .i64 kd, .int .i64 sd, .int .i64 pr, .string bs]
def FAt (w : World) (F : Nat) (kd sd pr : Int) (bs : ByteArray) : Prop := w.heap[F]? = some (.cells (fCells kd sd pr bs) 36)
theorem FAt.new (w : World) (kd sd pr : Int) (bs : ByteArray) : FAt (w.alloc (.cells (fCells kd sd pr bs) 36)) w.heap.size kd sd pr bs := heap_alloc_new w _
theorem FAt.lt {w : World} {F : Nat} {kd sd pr : Int} {bs : ByteArray} (h : FAt w F kd sd pr bs) : F < w.heap.size := (Array.getElem?_eq_some_iff.1 h).1
theorem FAt.below {w w' : World} {F : Nat} {kd sd pr : Int} {bs : ByteArray} (h : FAt w F kd sd pr bs) (hb : Below w.heap.size w w') : FAt w' F kd sd pr bs := (hb.block F h.lt).trans h
theorem FAt.cells {w : World} {F : Nat} {kd sd pr : Int} {bs : ByteArray} (h : FAt w F kd sd pr bs) : w.cell? ⟨F, 0, none⟩ = some (.int .i64 kd) ∧ w.cell? ⟨F, 1, none⟩ = some (.int .i64 sd) ∧ w.cell? ⟨F, 2, none⟩ = some (.int .i64 pr) ∧ w.cell? ⟨F, 3, none⟩ = some (.string bs) :=
  ⟨cell_of_row _ _ _ _ _ _ h, cell_of_row _ _ _ _ _ _ h, cell_of_row _ _ _ _ _ _ h, cell_of_row _ _ _ _ _ _ h⟩

theorem filter_size (kd sd pr : Int) (bs : ByteArray) : (Try.prog.info? 36).map (·.size) = some (fCells kd sd pr bs).size := by
  have h : (Try.prog.info? 36).map (·.size) = some 4 := by kernel_rfl
  exact h

theorem blo_kept {W : World} {F g k n : Nat} {pr : Int} {bs s : ByteArray} {S : Nat → ByteArray} {va : Option Addr} (a b : World)
    (h : FAt a F 1 0 pr bs ∧ a.cell? ⟨g, k, none⟩ = some (.string s) ∧ Hid (Below W.heap.size W a ∧ StrAt a a.heap.size va n S ∧ g < a.heap.size)) (hb : Below a.heap.size a b) :
    FAt b F 1 0 pr bs ∧ b.cell? ⟨g, k, none⟩ = some (.string s) ∧ Hid (Below W.heap.size W b ∧ StrAt b b.heap.size va n S ∧ g < b.heap.size) :=
  ⟨h.1.below hb, (hb.cell (p := ⟨g, k, none⟩) h.2.2.out.2.2).trans h.2.1, h.2.2.out.1.trans (hb.mono h.2.2.out.1.size), (h.2.2.out.2.1.below hb).mono hb.size, by have := h.2.2.out.2.2; have := hb.size; omega⟩

theorem StrAt.keep {w w' : World} {a : Option Addr} {n : Nat} {S : Nat → ByteArray} (h : StrAt w w.heap.size a n S) (hb : Below w.heap.size w w') : StrAt w' w'.heap.size a n S := (h.below hb).mono hb.size

end Go.Proofs.Ytonkjdjancnajac
