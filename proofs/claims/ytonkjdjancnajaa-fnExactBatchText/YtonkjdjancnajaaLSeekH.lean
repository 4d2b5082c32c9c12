/- A row behind its name. -/
import Derived.Test.YtonkjdjancnajaaEnts
namespace Go.Proofs.Ytonkjdjancnajaa
set_option maxRecDepth 100000
open Go.RowKit Go.Deep

theorem hidRowB {w : World} {g n : Nat} {t : TypeId} {f : Nat → Value} (h : w.rowIs g t n f) : Hid (w.rowIs g t n f) := h

end Go.Proofs.Ytonkjdjancnajaa
