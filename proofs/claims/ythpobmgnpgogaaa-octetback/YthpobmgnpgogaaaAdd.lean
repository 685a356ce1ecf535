/-
  The walk of the program's Add.
-/
import Derived.Test.YthpobmgnpgogaaaBare
import Derived.Test.YthpobmgnpgogaaaJWiden
import Derived.Test.YthpobmgnpgogaaaJSmall
import Derived.Deep.RegionHeld3
import Derived.Deep.RegionWith
import Derived.Deep.LoopGhost
namespace Go.Proofs.Ythpobmgnpgogaaa
open Go.RowKit

end Go.Proofs.Ythpobmgnpgogaaa
