/-
  The walk of the program's Add.
-/
import Derived.Test.YtbebdeaeegcfkaaBare
import Derived.Test.YtbebdeaeegcfkaaJWiden
import Derived.Test.YtbebdeaeegcfkaaJSmall
import Derived.Deep.RegionHeld3
import Derived.Deep.RegionWith
import Derived.Deep.LoopGhost
namespace Go.Proofs.Ytbebdeaeegcfkaa
open Go.RowKit

end Go.Proofs.Ytbebdeaeegcfkaa
