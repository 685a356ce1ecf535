/-
  Joined: Halves RMul.
-/
import Derived.Test.YtekjjlmhdkhmjaaJoin
import Derived.Deep.RegionHeld3
import Derived.Deep.RegionWith
import Derived.Deep.CutRange
import Derived.Test.YtekjjlmhdkhmjaaJRefA
import Derived.Test.YtekjjlmhdkhmjaaProd
import Derived.Deep.AppendSrc
import Derived.Deep.RegionLaw
namespace Go.Proofs.Ytekjjlmhdkhmjaa
open Go.RowKit
end Go.Proofs.Ytekjjlmhdkhmjaa
