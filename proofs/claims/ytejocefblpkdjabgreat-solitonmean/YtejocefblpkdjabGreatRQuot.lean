/-
  The walks of the document's quotients, the small ones: bit, twice, less.
-/
import Derived.Test.YtejocefblpkdjabGreatSchool
import Derived.Test.YtejocefblpkdjabGreatJWiden
import Derived.Test.YtejocefblpkdjabGreatJRefA
import Derived.Test.YtejocefblpkdjabGreatJRefD
import Derived.Test.YtejocefblpkdjabGreatRefF
namespace Go.Proofs.YtejocefblpkdjabGreat
open Go.RowKit

end Go.Proofs.YtejocefblpkdjabGreat
