/-
  The walk of the program's Len.
-/
import Derived.Test.YthpobmgnpgogaaaBare
import Derived.Test.YthpobmgnpgogaaaLen
namespace Go.Proofs.Ythpobmgnpgogaaa
open Go.RowKit

end Go.Proofs.Ythpobmgnpgogaaa
