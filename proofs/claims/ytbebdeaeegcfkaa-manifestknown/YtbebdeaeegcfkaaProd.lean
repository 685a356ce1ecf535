/-
  The walks of what two digits come to: math/bits' Mul64, and the document's own way.
-/
import Derived.Test.YtbebdeaeegcfkaaJSmall
import Derived.Lib.Mul64
import Derived.Laws.Bits64b
namespace Go.Proofs.Ytbebdeaeegcfkaa
open Go.RowKit Go.Lib

end Go.Proofs.Ytbebdeaeegcfkaa
