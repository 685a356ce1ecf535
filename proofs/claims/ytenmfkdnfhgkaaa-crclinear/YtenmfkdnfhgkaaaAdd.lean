/-
  The walk of the program's Add.
-/
import Derived.Test.YtenmfkdnfhgkaaaBare
import Derived.Test.YtenmfkdnfhgkaaaJWiden
import Derived.Test.YtenmfkdnfhgkaaaJSmall
import Derived.Deep.RegionHeld3
import Derived.Deep.RegionWith
import Derived.Deep.LoopGhost
namespace Go.Proofs.Ytenmfkdnfhgkaaa
open Go.RowKit

end Go.Proofs.Ytenmfkdnfhgkaaa
