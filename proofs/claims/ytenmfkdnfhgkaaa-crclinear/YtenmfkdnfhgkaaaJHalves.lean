/-
  Joined: Halves RMul.
-/
import Derived.Test.YtenmfkdnfhgkaaaJoin
import Derived.Deep.RegionHeld3
import Derived.Deep.RegionWith
import Derived.Deep.CutRange
import Derived.Test.YtenmfkdnfhgkaaaJRefA
import Derived.Test.YtenmfkdnfhgkaaaProd
import Derived.Deep.AppendSrc
import Derived.Deep.RegionLaw
namespace Go.Proofs.Ytenmfkdnfhgkaaa
open Go.RowKit
end Go.Proofs.Ytenmfkdnfhgkaaa
