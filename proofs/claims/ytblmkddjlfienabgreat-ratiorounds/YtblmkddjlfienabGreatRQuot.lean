/-
  The walks of the document's quotients, the small ones: bit, twice, less.
-/
import Derived.Test.YtblmkddjlfienabGreatSchool
import Derived.Test.YtblmkddjlfienabGreatJWiden
import Derived.Test.YtblmkddjlfienabGreatJRefA
import Derived.Test.YtblmkddjlfienabGreatJRefD
import Derived.Test.YtblmkddjlfienabGreatRefF
namespace Go.Proofs.YtblmkddjlfienabGreat
open Go.RowKit

end Go.Proofs.YtblmkddjlfienabGreat
