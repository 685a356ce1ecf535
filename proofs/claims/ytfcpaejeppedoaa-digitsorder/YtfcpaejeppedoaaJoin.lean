/-
  The walks of the program's cut, crossOnly and join: what a product by halves is put together of.
-/
import Derived.Test.YtfcpaejeppedoaaSchool
import Derived.Test.YtfcpaejeppedoaaJDown
import Derived.Test.YtfcpaejeppedoaaSub
import Derived.Deep.QuietTactic
import Derived.BigQuiet
namespace Go.Proofs.Ytfcpaejeppedoaa
open Go.RowKit

end Go.Proofs.Ytfcpaejeppedoaa
