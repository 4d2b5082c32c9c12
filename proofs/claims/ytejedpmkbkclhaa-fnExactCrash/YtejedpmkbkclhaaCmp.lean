/- KeyCmp, of the program and of the model. -/
import Derived.Test.YtejedpmkbkclhaaKeys
import Derived.Deep.RegionHeld3
namespace Go.Proofs.Ytejedpmkbkclhaa
set_option maxRecDepth 100000
open Go.RowKit

def cmpS (x y : ByteArray) : Int := if Op.bytesLess x.toList y.toList = true then -1 else if (x.toList == y.toList) = true then 0 else 1
def cmpI (x y : Int) : Int := if x < y then -1 else if x = y then 0 else 1

def orI (a b c : Int) : Int := if a = 0 then (if b = 0 then c else b) else a

def keyCmpI (ua : ByteArray) (qa ka : Int) (ub : ByteArray) (qb kb : Int) : Int := if keyOkB ua qa ka && keyOkB ub qb kb then orI (cmpS ua ub) (cmpI qb qa) (cmpI kb ka) else 0

theorem bytesLess_irrefl : ∀ x : List UInt8, Op.bytesLess x x = false
  | [] => rfl
  | a :: x => by simp [Op.bytesLess, bytesLess_irrefl x]

end Go.Proofs.Ytejedpmkbkclhaa
