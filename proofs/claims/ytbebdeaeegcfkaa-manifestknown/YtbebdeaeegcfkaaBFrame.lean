/-
  What a reading of an argument hands the walks: bytes.
-/
import Derived.Test.YtbebdeaeegcfkaaFrame
import Derived.Test.YtbebdeaeegcfkaaJWiden
namespace Go.Proofs.Ytbebdeaeegcfkaa
open Go.ChangeShapes Go.WideShapes Go.ChangeAt Go.RowKit

end Go.Proofs.Ytbebdeaeegcfkaa
