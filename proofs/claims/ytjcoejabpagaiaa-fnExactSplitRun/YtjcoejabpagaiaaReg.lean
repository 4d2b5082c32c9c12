/- A region that draws its order, walked by hand: from any point on, what the world at hand holds may be leaned on. No program in sight. -/
import Derived.Test.YtjcoejabpagaiaaBase
import Derived.Test.YtjcoejabpagaiaaNth
import Derived.Deep.RegionHeld3
namespace Go.Proofs.Ytjcoejabpagaiaa
set_option maxRecDepth 100000
open Go.RowKit

theorem wpAnyH_strong {P : Program} {md : Region.Mode} {ops : Array Oper} {Q : Exit → Act → World → Prop} {S S' : World → Prop} (hS : ∀ w, S' w → S w) :
    ∀ (fuel : Nat) (listed : Array Bool) (a : Act) (w : World), wpAnyH P md ops Q S' fuel listed a w → wpAnyH P md ops Q S fuel listed a w
  | 0, _, _, _, h => h
  | fuel + 1, _, _, _, h => ⟨h.1, fun i hi => wpOp_mono (fun a' w' h' => ⟨hS _ h'.1, wpAnyH_strong hS fuel _ a' w' h'.2⟩) (h.2 i hi)⟩

theorem wpAnyH_restart {P : Program} {md : Region.Mode} {ops : Array Oper} {Q : Exit → Act → World → Prop} {W : World} {fuel : Nat} {listed : Array Bool} {a : Act} {w : World} (hW : Below W.heap.size W w)
    (h : wpAnyH P md ops Q (fun x => Below w.heap.size w x) fuel listed a w) : wpAnyH P md ops Q (fun x => Below W.heap.size W x) fuel listed a w :=
  wpAnyH_strong (fun _ hx => hW.trans (hx.mono hW.size)) _ _ _ _ h

/-- What a cell held it holds still. -/
theorem keepc {W w : World} (hb : Below W.heap.size W w) {b o : Nat} {v : Value} (h : W.cell? ⟨b, o, none⟩ = some v) : w.cell? ⟨b, o, none⟩ = some v :=
  (hb.cell (p := ⟨b, o, none⟩) (World.block_lt_of_cell? _ ⟨b, o, none⟩ h)).trans h

theorem below_one (w : World) (o : Obj) : Below w.heap.size w (w.alloc o) := (Below.refl _ _).alloc (Nat.le_refl _) _

/-- What a conversion of one byte cell gives. -/
theorem conv_one {P : Program} (src e dst : TypeId) (hs : P.underlying src = some (.slice e)) (he : P.underlying e = some (.int .u8)) (hd : P.underlying dst = some .string) (W : World) (g : Nat) (x : Int) (h : W.cell? ⟨g, 0, none⟩ = some (.int .u8 x)) :
    (convert src dst (.slice (some ⟨g, 0, none⟩) 1 1)).run P W = .ok (.string (strOfNums [x])) W := by
  refine run_convert_bytes_arg (P := P) _ src e hs he g 0 1 1 [x] rfl (fun i hi => ?_) dst hd
  rcases i with _ | i
  · simpa using h
  · omega

end Go.Proofs.Ytjcoejabpagaiaa
