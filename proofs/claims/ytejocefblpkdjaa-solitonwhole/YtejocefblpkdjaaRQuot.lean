/-
  The walks of the document's quotients, the small ones: bit, twice, less.
-/
import Derived.Test.YtejocefblpkdjaaSchool
import Derived.Test.YtejocefblpkdjaaJWiden
import Derived.Test.YtejocefblpkdjaaJRefA
import Derived.Test.YtejocefblpkdjaaJRefD
import Derived.Test.YtejocefblpkdjaaRefF
namespace Go.Proofs.Ytejocefblpkdjaa
open Go.RowKit

end Go.Proofs.Ytejocefblpkdjaa
