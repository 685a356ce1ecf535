/-
  The walks of the document's quotients, the small ones: bit, twice, less.
-/
import Derived.Test.YtblmkddjlfienaaSchool
import Derived.Test.YtblmkddjlfienaaJWiden
import Derived.Test.YtblmkddjlfienaaJRefA
import Derived.Test.YtblmkddjlfienaaJRefD
import Derived.Test.YtblmkddjlfienaaRefF
namespace Go.Proofs.Ytblmkddjlfienaa
open Go.RowKit

end Go.Proofs.Ytblmkddjlfienaa
