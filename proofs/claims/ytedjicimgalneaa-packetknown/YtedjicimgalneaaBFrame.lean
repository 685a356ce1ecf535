/-
  What a reading of an argument hands the walks: bytes.
-/
import Derived.Test.YtedjicimgalneaaFrame
import Derived.Test.YtedjicimgalneaaJWiden
namespace Go.Proofs.Ytedjicimgalneaa
open Go.ChangeShapes Go.WideShapes Go.ChangeAt Go.RowKit

end Go.Proofs.Ytedjicimgalneaa
