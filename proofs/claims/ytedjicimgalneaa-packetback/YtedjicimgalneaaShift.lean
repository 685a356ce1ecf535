/-
  Moves by bits: plain arithmetic on words.
-/
import Derived.Test.YtedjicimgalneaaNum
import Derived.Laws.Bits64
import Derived.Laws.Bits64b
namespace Go.Proofs.Ytedjicimgalneaa

end Go.Proofs.Ytedjicimgalneaa
