/-
  The walk of the program's Len.
-/
import Derived.Test.YtbebdeaeegcfkaaBare
import Derived.Test.YtbebdeaeegcfkaaLen
namespace Go.Proofs.Ytbebdeaeegcfkaa
open Go.RowKit

end Go.Proofs.Ytbebdeaeegcfkaa
