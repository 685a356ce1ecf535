/-
  Joined: Mul Power PowerNo.
-/
import Derived.Test.YtfcpaejeppedoaaDoorJQLong
import Derived.Test.YtfcpaejeppedoaaDoorJEnds
import Derived.Laws.EntriesVeiled
import Derived.Test.YtfcpaejeppedoaaDoorJLenOf
import Derived.Test.YtfcpaejeppedoaaDoorJCmp
namespace Go.Proofs.YtfcpaejeppedoaaDoor
open Go.RowKit
end Go.Proofs.YtfcpaejeppedoaaDoor
namespace Go.Proofs.YtfcpaejeppedoaaDoor
open Go.RowKit Go.Shelf
attribute [local go_sem] Oper.semAt_some
attribute [local go_sem] Oper.semAt_some
end Go.Proofs.YtfcpaejeppedoaaDoor
