/-
  The walk of the document's Down.
-/
import Derived.Test.YtblmkddjlfienaaJRefA
import Derived.Test.YtblmkddjlfienaaJDown
namespace Go.Proofs.Ytblmkddjlfienaa
open Go.RowKit

end Go.Proofs.Ytblmkddjlfienaa
