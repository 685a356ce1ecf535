/-
  The walk of the program's Len.
-/
import Derived.Test.YtenmfkdnfhgkaaaBare
import Derived.Test.YtenmfkdnfhgkaaaLen
namespace Go.Proofs.Ytenmfkdnfhgkaaa
open Go.RowKit

end Go.Proofs.Ytenmfkdnfhgkaaa
