/-
  The walk of the document's Down.
-/
import Derived.Test.YtejocefblpkdjaaJRefA
import Derived.Test.YtejocefblpkdjaaJDown
namespace Go.Proofs.Ytejocefblpkdjaa
open Go.RowKit

end Go.Proofs.Ytejocefblpkdjaa
