/-
  The walks of the document's quotients, the small ones: bit, twice, less.
-/
import Derived.Test.YtejocefblpkdjaaGreatSchool
import Derived.Test.YtejocefblpkdjaaGreatJWiden
import Derived.Test.YtejocefblpkdjaaGreatJRefA
import Derived.Test.YtejocefblpkdjaaGreatJRefD
import Derived.Test.YtejocefblpkdjaaGreatRefF
namespace Go.Proofs.YtejocefblpkdjaaGreat
open Go.RowKit

end Go.Proofs.YtejocefblpkdjaaGreat
