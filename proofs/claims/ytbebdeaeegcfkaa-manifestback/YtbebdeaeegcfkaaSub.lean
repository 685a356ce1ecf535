/-
  The walk of the program's Sub.
-/
import Derived.Test.YtbebdeaeegcfkaaCmp
import Derived.Test.YtbebdeaeegcfkaaJWiden
import Derived.Deep.RegionWith
import Derived.Deep.LoopGhost
namespace Go.Proofs.Ytbebdeaeegcfkaa
open Go.RowKit

/-- The borrow, under a name. -/
def bor (x y : Int) : Int := if x < y then 1 else 0
end Go.Proofs.Ytbebdeaeegcfkaa
