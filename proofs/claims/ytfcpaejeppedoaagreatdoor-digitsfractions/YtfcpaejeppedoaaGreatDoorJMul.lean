/-
  Joined: Mul Power PowerNo.
-/
import Derived.Test.YtfcpaejeppedoaaGreatDoorJQLong
import Derived.Test.YtfcpaejeppedoaaGreatDoorJEnds
import Derived.Laws.EntriesVeiled
import Derived.Test.YtfcpaejeppedoaaGreatDoorJLenOf
import Derived.Test.YtfcpaejeppedoaaGreatDoorJCmp
namespace Go.Proofs.YtfcpaejeppedoaaGreatDoor
open Go.RowKit
end Go.Proofs.YtfcpaejeppedoaaGreatDoor
namespace Go.Proofs.YtfcpaejeppedoaaGreatDoor
open Go.RowKit Go.Shelf
attribute [local go_sem] Oper.semAt_some
attribute [local go_sem] Oper.semAt_some
end Go.Proofs.YtfcpaejeppedoaaGreatDoor
