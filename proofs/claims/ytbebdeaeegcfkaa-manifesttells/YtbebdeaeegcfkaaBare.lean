/-
  The walks of slices.Backward, as a range goes over it, and of the program's bare.
-/
import Derived.Test.YtbebdeaeegcfkaaSeg
import Derived.RangeFuncNested
import Derived.RangeFuncBound
import Derived.RangeFuncCalls
import Derived.RangeFuncLeaves
import Derived.RangeFuncBox
import Derived.Shelf.Abstract
import Derived.OwnWalkIn
import Derived.TacticsInMore
import Derived.LoopNIn
import Derived.LoopIn
namespace Go.Proofs.Ytbebdeaeegcfkaa
open Go.RowKit Go.Shelf

attribute [local go_sem] Oper.semAt_some

/-- The places that have come when k rounds are over, from the end of len. -/
def upto (len k : Nat) : List Nat := (List.range k).map fun j => len - 1 - j
abbrev Place (len : Nat) := { j : Nat // j < len }
end Go.Proofs.Ytbebdeaeegcfkaa
