/-
  Joined: Halves RMul.
-/
import Derived.Test.YtedjicimgalneaaJoin
import Derived.Deep.RegionHeld3
import Derived.Deep.RegionWith
import Derived.Deep.CutRange
import Derived.Test.YtedjicimgalneaaJRefA
import Derived.Test.YtedjicimgalneaaProd
import Derived.Deep.AppendSrc
import Derived.Deep.RegionLaw
namespace Go.Proofs.Ytedjicimgalneaa
open Go.RowKit
end Go.Proofs.Ytedjicimgalneaa
