/-
  The walk of the document's Down.
-/
import Derived.Test.YtejocefblpkdjaaGreatJRefA
import Derived.Test.YtejocefblpkdjaaGreatJDown
namespace Go.Proofs.YtejocefblpkdjaaGreat
open Go.RowKit

end Go.Proofs.YtejocefblpkdjaaGreat
