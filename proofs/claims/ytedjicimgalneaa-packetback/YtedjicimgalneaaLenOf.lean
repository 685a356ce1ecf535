/-
  The walk of the program's Len.
-/
import Derived.Test.YtedjicimgalneaaBare
import Derived.Test.YtedjicimgalneaaLen
namespace Go.Proofs.Ytedjicimgalneaa
open Go.RowKit

end Go.Proofs.Ytedjicimgalneaa
