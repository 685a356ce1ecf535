/-
  The walk of the program's Sub.
-/
import Derived.Test.YtekjjlmhdkhmjaaCmp
import Derived.Test.YtekjjlmhdkhmjaaJWiden
import Derived.Deep.RegionWith
import Derived.Deep.LoopGhost
namespace Go.Proofs.Ytekjjlmhdkhmjaa
open Go.RowKit

/-- The borrow, under a name. -/
def bor (x y : Int) : Int := if x < y then 1 else 0
end Go.Proofs.Ytekjjlmhdkhmjaa
