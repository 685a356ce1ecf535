/-
  Joined: RefD Whole.
-/
import Derived.Test.YtedjicimgalneaaJSmall
import Derived.Test.YtedjicimgalneaaJRefA
import Derived.Test.YtedjicimgalneaaShift
import Derived.Deep.QuietTactic
import Derived.BigQuiet
import Derived.Test.YtedjicimgalneaaJWiden
namespace Go.Proofs.Ytedjicimgalneaa
open Go.RowKit
def sgn (below : Bool) (v : Int) : Int := if below then -v else v
def Canon (below : Bool) (zs : List Int) : Prop := Norm zs ∧ (below = true → zs ≠ [])
end Go.Proofs.Ytedjicimgalneaa
