/-
  The walk of the program's School: products by rows of digits.
-/
import Derived.Test.YtekjjlmhdkhmjaaTRows
import Derived.Test.YtekjjlmhdkhmjaaJWiden
import Derived.Deep.Draws
import Derived.Laws.IdiomRangeMap
import Derived.Laws.IdiomCopy
namespace Go.Proofs.Ytekjjlmhdkhmjaa
open Go.RowKit

end Go.Proofs.Ytekjjlmhdkhmjaa
