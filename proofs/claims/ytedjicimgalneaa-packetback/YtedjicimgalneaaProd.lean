/-
  The walks of what two digits come to: math/bits' Mul64, and the document's own way.
-/
import Derived.Test.YtedjicimgalneaaJSmall
import Derived.Lib.Mul64
import Derived.Laws.Bits64b
namespace Go.Proofs.Ytedjicimgalneaa
open Go.RowKit Go.Lib

end Go.Proofs.Ytedjicimgalneaa
