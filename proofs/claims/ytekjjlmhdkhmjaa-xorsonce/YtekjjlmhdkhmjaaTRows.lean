/-
  The walks of the program's addRow and addAt: sums into a list of one's own.
-/
import Derived.Test.YtekjjlmhdkhmjaaJRefA
import Derived.Test.YtekjjlmhdkhmjaaProd
namespace Go.Proofs.Ytekjjlmhdkhmjaa
open Go.RowKit

end Go.Proofs.Ytekjjlmhdkhmjaa
