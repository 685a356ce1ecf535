/-
  Joined: RefD Whole.
-/
import Derived.Test.YtekjjlmhdkhmjaaJSmall
import Derived.Test.YtekjjlmhdkhmjaaJRefA
import Derived.Test.YtekjjlmhdkhmjaaShift
import Derived.Deep.QuietTactic
import Derived.BigQuiet
import Derived.Test.YtekjjlmhdkhmjaaJWiden
namespace Go.Proofs.Ytekjjlmhdkhmjaa
open Go.RowKit
def sgn (below : Bool) (v : Int) : Int := if below then -v else v
def Canon (below : Bool) (zs : List Int) : Prop := Norm zs ∧ (below = true → zs ≠ [])
end Go.Proofs.Ytekjjlmhdkhmjaa
