/-
  The walk of the program's Len.
-/
import Derived.Test.YtekjjlmhdkhmjaaBare
import Derived.Test.YtekjjlmhdkhmjaaLen
namespace Go.Proofs.Ytekjjlmhdkhmjaa
open Go.RowKit

end Go.Proofs.Ytekjjlmhdkhmjaa
