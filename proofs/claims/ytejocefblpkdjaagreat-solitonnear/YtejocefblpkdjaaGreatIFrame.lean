/-
  What a reading of an argument hands the walks: whole numbers.
-/
import Derived.Test.YtejocefblpkdjaaGreatFrame
import Derived.Test.YtejocefblpkdjaaGreatJWiden
namespace Go.Proofs.YtejocefblpkdjaaGreat
open Go.ChangeShapes Go.WideShapes Go.ChangeAt Go.RowKit

end Go.Proofs.YtejocefblpkdjaaGreat
