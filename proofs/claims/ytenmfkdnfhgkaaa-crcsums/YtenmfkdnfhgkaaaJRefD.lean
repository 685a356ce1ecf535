/-
  Joined: RefD Whole.
-/
import Derived.Test.YtenmfkdnfhgkaaaJSmall
import Derived.Test.YtenmfkdnfhgkaaaJRefA
import Derived.Test.YtenmfkdnfhgkaaaShift
import Derived.Deep.QuietTactic
import Derived.BigQuiet
import Derived.Test.YtenmfkdnfhgkaaaJWiden
namespace Go.Proofs.Ytenmfkdnfhgkaaa
open Go.RowKit
def sgn (below : Bool) (v : Int) : Int := if below then -v else v
def Canon (below : Bool) (zs : List Int) : Prop := Norm zs ∧ (below = true → zs ≠ [])
end Go.Proofs.Ytenmfkdnfhgkaaa
