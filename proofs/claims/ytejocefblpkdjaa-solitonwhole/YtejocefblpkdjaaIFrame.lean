/-
  What a reading of an argument hands the walks: whole numbers.
-/
import Derived.Test.YtejocefblpkdjaaFrame
import Derived.Test.YtejocefblpkdjaaJWiden
namespace Go.Proofs.Ytejocefblpkdjaa
open Go.ChangeShapes Go.WideShapes Go.ChangeAt Go.RowKit

end Go.Proofs.Ytejocefblpkdjaa
