/- What the laws of chapter 2 draw: keys, two keys, texts of keys. -/
import Derived.Test.YtljmfdcilnbjaacDrawP1
import Derived.Test.YtljmfdcilnbjaacDrawP2
import Derived.Test.YtljmfdcilnbjaacKText
namespace Go.Proofs.Ytljmfdcilnbjaac
set_option maxRecDepth 100000
open Go.RowKit

theorem keyText_size (u : ByteArray) (q k : Int) : (keyText u q k).size ≤ 48 := by
  unfold keyText
  split
  · rename_i h
    obtain ⟨_, k2, _⟩ := keyOk_iff.1 h
    rw [ByteArray.size_append, ByteArray.size_append, fx4_size, fx4_size]
    omega
  · show 0 ≤ 48; omega

end Go.Proofs.Ytljmfdcilnbjaac
