/-
  The walks of the program's cut, crossOnly and join: what a product by halves is put together of.
-/
import Derived.Test.YtfcpaejeppedoaaDoorSchool
import Derived.Test.YtfcpaejeppedoaaDoorJDown
import Derived.Test.YtfcpaejeppedoaaDoorSub
import Derived.Deep.QuietTactic
import Derived.BigQuiet
namespace Go.Proofs.YtfcpaejeppedoaaDoor
open Go.RowKit

end Go.Proofs.YtfcpaejeppedoaaDoor
