/-
  The walks of the program's cut, crossOnly and join: what a product by halves is put together of.
-/
import Derived.Test.YthpobmgnpgogaaaSchool
import Derived.Test.YthpobmgnpgogaaaAdd
import Derived.Test.YthpobmgnpgogaaaSub
import Derived.Deep.QuietTactic
import Derived.BigQuiet
namespace Go.Proofs.Ythpobmgnpgogaaa
open Go.RowKit

end Go.Proofs.Ythpobmgnpgogaaa
