/-
  The walk of the document's Down.
-/
import Derived.Test.YtejocefblpkdjabGreatJRefA
import Derived.Test.YtejocefblpkdjabGreatJDown
namespace Go.Proofs.YtejocefblpkdjabGreat
open Go.RowKit

end Go.Proofs.YtejocefblpkdjabGreat
