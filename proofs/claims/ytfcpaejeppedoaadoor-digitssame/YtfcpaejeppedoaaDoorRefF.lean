/-
  The walk of the document's Down.
-/
import Derived.Test.YtfcpaejeppedoaaDoorJRefA
import Derived.Test.YtfcpaejeppedoaaDoorJDown
namespace Go.Proofs.YtfcpaejeppedoaaDoor
open Go.RowKit

end Go.Proofs.YtfcpaejeppedoaaDoor
