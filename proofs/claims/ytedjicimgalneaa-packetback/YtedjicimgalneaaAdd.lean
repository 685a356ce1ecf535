/-
  The walk of the program's Add.
-/
import Derived.Test.YtedjicimgalneaaBare
import Derived.Test.YtedjicimgalneaaJWiden
import Derived.Test.YtedjicimgalneaaJSmall
import Derived.Deep.RegionHeld3
import Derived.Deep.RegionWith
import Derived.Deep.LoopGhost
namespace Go.Proofs.Ytedjicimgalneaa
open Go.RowKit

end Go.Proofs.Ytedjicimgalneaa
