/-
  The walks of the program's cut, crossOnly and join: what a product by halves is put together of.
-/
import Derived.Test.YtbebdeaeegcfkaaSchool
import Derived.Test.YtbebdeaeegcfkaaAdd
import Derived.Test.YtbebdeaeegcfkaaSub
import Derived.Deep.QuietTactic
import Derived.BigQuiet
namespace Go.Proofs.Ytbebdeaeegcfkaa
open Go.RowKit

end Go.Proofs.Ytbebdeaeegcfkaa
