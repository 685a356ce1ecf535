/-
  Joined: RefD Whole.
-/
import Derived.Test.YtbebdeaeegcfkaaJSmall
import Derived.Test.YtbebdeaeegcfkaaJRefA
import Derived.Test.YtbebdeaeegcfkaaShift
import Derived.Deep.QuietTactic
import Derived.BigQuiet
import Derived.Test.YtbebdeaeegcfkaaJWiden
namespace Go.Proofs.Ytbebdeaeegcfkaa
open Go.RowKit
def sgn (below : Bool) (v : Int) : Int := if below then -v else v
def Canon (below : Bool) (zs : List Int) : Prop := Norm zs ∧ (below = true → zs ≠ [])
end Go.Proofs.Ytbebdeaeegcfkaa
