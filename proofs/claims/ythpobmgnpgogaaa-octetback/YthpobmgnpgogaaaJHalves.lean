/-
  Joined: Halves RMul.
-/
import Derived.Test.YthpobmgnpgogaaaJoin
import Derived.Deep.RegionHeld3
import Derived.Deep.RegionWith
import Derived.Deep.CutRange
import Derived.Test.YthpobmgnpgogaaaJRefA
import Derived.Test.YthpobmgnpgogaaaProd
import Derived.Deep.AppendSrc
import Derived.Deep.RegionLaw
namespace Go.Proofs.Ythpobmgnpgogaaa
open Go.RowKit
end Go.Proofs.Ythpobmgnpgogaaa
