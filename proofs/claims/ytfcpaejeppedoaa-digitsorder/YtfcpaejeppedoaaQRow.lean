/-
  The walks of the program's takeRow and giveBack: a row taken off a list of one's own, and given back.
-/
import Derived.Test.YtfcpaejeppedoaaTRows
import Derived.Test.YtfcpaejeppedoaaSub
import Derived.Test.YtfcpaejeppedoaaJWiden
namespace Go.Proofs.Ytfcpaejeppedoaa
open Go.RowKit

end Go.Proofs.Ytfcpaejeppedoaa
