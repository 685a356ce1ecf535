/-
  Moves by bits: plain arithmetic on words.
-/
import Derived.Test.YtekjjlmhdkhmjaaNum
import Derived.Laws.Bits64
import Derived.Laws.Bits64b
namespace Go.Proofs.Ytekjjlmhdkhmjaa

end Go.Proofs.Ytekjjlmhdkhmjaa
