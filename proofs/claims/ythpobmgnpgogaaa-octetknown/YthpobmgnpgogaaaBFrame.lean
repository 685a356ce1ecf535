/-
  What a reading of an argument hands the walks: bytes.
-/
import Derived.Test.YthpobmgnpgogaaaFrame
import Derived.Test.YthpobmgnpgogaaaJWiden
namespace Go.Proofs.Ythpobmgnpgogaaa
open Go.ChangeShapes Go.WideShapes Go.ChangeAt Go.RowKit

end Go.Proofs.Ythpobmgnpgogaaa
