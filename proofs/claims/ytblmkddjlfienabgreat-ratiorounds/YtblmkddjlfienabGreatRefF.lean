/-
  The walk of the document's Down.
-/
import Derived.Test.YtblmkddjlfienabGreatJRefA
import Derived.Test.YtblmkddjlfienabGreatJDown
namespace Go.Proofs.YtblmkddjlfienabGreat
open Go.RowKit

end Go.Proofs.YtblmkddjlfienabGreat
