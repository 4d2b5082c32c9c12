/- Numbers in decimal, and the names of files. No walk. -/
import Derived.Test.YtplemoedpdammaaDoorReg
import Derived.Lib.ItoaNum
namespace Go.Proofs.YtplemoedpdammaaDoor
set_option maxRecDepth 100000
open Go.RowKit

/-- A number in decimal. -/
def decT (n : Nat) : ByteArray := ⟨(Go.Lib.decDigits n).toArray⟩

theorem decT_small {n : Nat} (h : n < 10) : decT n = strOfNums [48 + (n : Int)] := by
  unfold decT
  rw [Go.Lib.decDigits_one h]
  simp only [strOfNums, List.map]
  congr 2

theorem decT_big {n : Nat} (h : ¬ n < 10) : decT n = decT (n / 10) ++ strOfNums [48 + ((n % 10 : Nat) : Int)] := by
  unfold decT
  have e : (48 + ((n % 10 : Nat) : Int)).toNat = 48 + n % 10 := by omega
  rw [Go.Lib.decDigits, dif_neg h]
  apply ByteArray.ext
  simp only [strOfNums, List.map_cons, List.map_nil, e]
  simp

end Go.Proofs.YtplemoedpdammaaDoor
