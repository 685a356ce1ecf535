/-
  The walk of the program's Sub.
-/
import Derived.Test.YtenmfkdnfhgkaaaCmp
import Derived.Test.YtenmfkdnfhgkaaaJWiden
import Derived.Deep.RegionWith
import Derived.Deep.LoopGhost
namespace Go.Proofs.Ytenmfkdnfhgkaaa
open Go.RowKit

/-- The borrow, under a name. -/
def bor (x y : Int) : Int := if x < y then 1 else 0
end Go.Proofs.Ytenmfkdnfhgkaaa
