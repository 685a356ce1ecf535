/-
  The words of layer 9's laws: both Opens of any bytes, opened, awake.
-/
import Derived.Test.YtedjicimgalneaaJCTab
import Derived.Lib.SlBytesConst
namespace Go.Proofs.Ytedjicimgalneaa
open Go.RowKit

/-- What Open answers to any bytes. -/
def openB (f : Nat → Nat) (bs : List Int) : List Int × Int := if bs.length < 4 then ([], 7) else openZ f (bs.take (bs.length - 4)) (bs.drop (bs.length - 4))
end Go.Proofs.Ytedjicimgalneaa
