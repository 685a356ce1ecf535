/-
  The walks of the program's cut, crossOnly and join: what a product by halves is put together of.
-/
import Derived.Test.YtenmfkdnfhgkaaaSchool
import Derived.Test.YtenmfkdnfhgkaaaAdd
import Derived.Test.YtenmfkdnfhgkaaaSub
import Derived.Deep.QuietTactic
import Derived.BigQuiet
namespace Go.Proofs.Ytenmfkdnfhgkaaa
open Go.RowKit

end Go.Proofs.Ytenmfkdnfhgkaaa
