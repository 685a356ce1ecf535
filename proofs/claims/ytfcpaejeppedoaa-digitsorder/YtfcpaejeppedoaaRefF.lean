/-
  The walk of the document's Down.
-/
import Derived.Test.YtfcpaejeppedoaaJRefA
import Derived.Test.YtfcpaejeppedoaaJDown
namespace Go.Proofs.Ytfcpaejeppedoaa
open Go.RowKit

end Go.Proofs.Ytfcpaejeppedoaa
