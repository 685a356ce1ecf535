/-
  The walk of the program's takeOff: one digit of a quotient, and what is left behind it.
-/
import Derived.Test.YtfcpaejeppedoaaQGuess
import Derived.Test.YtfcpaejeppedoaaQRow
namespace Go.Proofs.Ytfcpaejeppedoaa
open Go.RowKit

end Go.Proofs.Ytfcpaejeppedoaa
