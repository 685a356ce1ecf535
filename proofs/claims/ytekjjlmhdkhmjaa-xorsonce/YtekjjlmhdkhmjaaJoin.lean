/-
  The walks of the program's cut, crossOnly and join: what a product by halves is put together of.
-/
import Derived.Test.YtekjjlmhdkhmjaaSchool
import Derived.Test.YtekjjlmhdkhmjaaAdd
import Derived.Test.YtekjjlmhdkhmjaaSub
import Derived.Deep.QuietTactic
import Derived.BigQuiet
namespace Go.Proofs.Ytekjjlmhdkhmjaa
open Go.RowKit

end Go.Proofs.Ytekjjlmhdkhmjaa
