/-
  What a reading of the arguments hands the walks.
-/
import Derived.Test.YtejocefblpkdjaaGreatSeg
import Derived.ProofKit
import Derived.OpenShut
import Derived.ShutString
import Derived.ChangeOld
import Derived.Below
namespace Go.Proofs.YtejocefblpkdjaaGreat
open Go.ChangeShapes Go.WideShapes Go.ChangeAt Go.RowKit

theorem own : ownKnob Tryz.prog.godebug = none := by kernel_rfl
end Go.Proofs.YtejocefblpkdjaaGreat
