/-
  The walks of the program's cut, crossOnly and join: what a product by halves is put together of.
-/
import Derived.Test.YtedjicimgalneaaSchool
import Derived.Test.YtedjicimgalneaaAdd
import Derived.Test.YtedjicimgalneaaSub
import Derived.Deep.QuietTactic
import Derived.BigQuiet
namespace Go.Proofs.Ytedjicimgalneaa
open Go.RowKit

end Go.Proofs.Ytedjicimgalneaa
