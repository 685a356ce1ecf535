/-
  The walks of the document's quotients, the small ones: bit, twice, less.
-/
import Derived.Test.YtfcpaejeppedoaaDoorSchool
import Derived.Test.YtfcpaejeppedoaaDoorJWiden
import Derived.Test.YtfcpaejeppedoaaDoorJRefA
import Derived.Test.YtfcpaejeppedoaaDoorJRefD
import Derived.Test.YtfcpaejeppedoaaDoorRefF
namespace Go.Proofs.YtfcpaejeppedoaaDoor
open Go.RowKit

end Go.Proofs.YtfcpaejeppedoaaDoor
