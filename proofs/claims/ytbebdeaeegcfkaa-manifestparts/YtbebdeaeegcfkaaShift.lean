/-
  Moves by bits: plain arithmetic on words.
-/
import Derived.Test.YtbebdeaeegcfkaaNum
import Derived.Laws.Bits64
import Derived.Laws.Bits64b
namespace Go.Proofs.Ytbebdeaeegcfkaa

end Go.Proofs.Ytbebdeaeegcfkaa
