/-
  The walk of the program's Sub.
-/
import Derived.Test.YthpobmgnpgogaaaCmp
import Derived.Test.YthpobmgnpgogaaaJWiden
import Derived.Deep.RegionWith
import Derived.Deep.LoopGhost
namespace Go.Proofs.Ythpobmgnpgogaaa
open Go.RowKit

/-- The borrow, under a name. -/
def bor (x y : Int) : Int := if x < y then 1 else 0
end Go.Proofs.Ythpobmgnpgogaaa
