/-
  The walks of the program's byHalves, Mul, Karatsuba, Square, Grow.
-/
import Derived.Test.YtfcpaejeppedoaaJQLong
import Derived.Test.YtfcpaejeppedoaaJEnds
import Derived.Laws.EntriesVeiled
namespace Go.Proofs.Ytfcpaejeppedoaa
open Go.RowKit

end Go.Proofs.Ytfcpaejeppedoaa
