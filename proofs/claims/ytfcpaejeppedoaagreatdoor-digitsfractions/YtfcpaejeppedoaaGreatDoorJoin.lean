/-
  The walks of the program's cut, crossOnly and join: what a product by halves is put together of.
-/
import Derived.Test.YtfcpaejeppedoaaGreatDoorSchool
import Derived.Test.YtfcpaejeppedoaaGreatDoorJDown
import Derived.Test.YtfcpaejeppedoaaGreatDoorSub
import Derived.Deep.QuietTactic
import Derived.BigQuiet
namespace Go.Proofs.YtfcpaejeppedoaaGreatDoor
open Go.RowKit

end Go.Proofs.YtfcpaejeppedoaaGreatDoor
