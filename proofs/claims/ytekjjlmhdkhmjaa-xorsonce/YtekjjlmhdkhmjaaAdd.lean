/-
  The walk of the program's Add.
-/
import Derived.Test.YtekjjlmhdkhmjaaBare
import Derived.Test.YtekjjlmhdkhmjaaJWiden
import Derived.Test.YtekjjlmhdkhmjaaJSmall
import Derived.Deep.RegionHeld3
import Derived.Deep.RegionWith
import Derived.Deep.LoopGhost
namespace Go.Proofs.Ytekjjlmhdkhmjaa
open Go.RowKit

end Go.Proofs.Ytekjjlmhdkhmjaa
