/-
  The walk of math/bits' Len64.
-/
import Derived.Test.YtbebdeaeegcfkaaSeg
import Derived.Lib.BitFns
import Derived.Lib.Small
import Derived.Lib.Walk
namespace Go.Proofs.Ytbebdeaeegcfkaa
open Go.RowKit

/-- How many bits a number has. -/
def blen (v : Int) : Nat := Go.bitLen v.toNat
end Go.Proofs.Ytbebdeaeegcfkaa
