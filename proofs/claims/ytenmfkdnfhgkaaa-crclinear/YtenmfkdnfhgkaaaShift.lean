/-
  Moves by bits: plain arithmetic on words.
-/
import Derived.Test.YtenmfkdnfhgkaaaNum
import Derived.Laws.Bits64
import Derived.Laws.Bits64b
namespace Go.Proofs.Ytenmfkdnfhgkaaa

end Go.Proofs.Ytenmfkdnfhgkaaa
