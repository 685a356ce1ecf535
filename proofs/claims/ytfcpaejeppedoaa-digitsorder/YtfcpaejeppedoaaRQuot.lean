/-
  The walks of the document's quotients, the small ones: bit, twice, less.
-/
import Derived.Test.YtfcpaejeppedoaaSchool
import Derived.Test.YtfcpaejeppedoaaJWiden
import Derived.Test.YtfcpaejeppedoaaJRefA
import Derived.Test.YtfcpaejeppedoaaJRefD
import Derived.Test.YtfcpaejeppedoaaRefF
namespace Go.Proofs.Ytfcpaejeppedoaa
open Go.RowKit

end Go.Proofs.Ytfcpaejeppedoaa
