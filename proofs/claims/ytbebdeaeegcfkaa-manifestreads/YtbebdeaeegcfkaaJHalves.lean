/-
  Joined: Halves RMul.
-/
import Derived.Test.YtbebdeaeegcfkaaJoin
import Derived.Deep.RegionHeld3
import Derived.Deep.RegionWith
import Derived.Deep.CutRange
import Derived.Test.YtbebdeaeegcfkaaJRefA
import Derived.Test.YtbebdeaeegcfkaaProd
import Derived.Deep.AppendSrc
import Derived.Deep.RegionLaw
namespace Go.Proofs.Ytbebdeaeegcfkaa
open Go.RowKit
end Go.Proofs.Ytbebdeaeegcfkaa
