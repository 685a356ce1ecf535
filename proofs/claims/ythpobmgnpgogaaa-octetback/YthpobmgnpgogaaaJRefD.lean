/-
  Joined: RefD Whole.
-/
import Derived.Test.YthpobmgnpgogaaaJSmall
import Derived.Test.YthpobmgnpgogaaaJRefA
import Derived.Test.YthpobmgnpgogaaaShift
import Derived.Deep.QuietTactic
import Derived.BigQuiet
import Derived.Test.YthpobmgnpgogaaaJWiden
namespace Go.Proofs.Ythpobmgnpgogaaa
open Go.RowKit
def sgn (below : Bool) (v : Int) : Int := if below then -v else v
def Canon (below : Bool) (zs : List Int) : Prop := Norm zs ∧ (below = true → zs ≠ [])
end Go.Proofs.Ythpobmgnpgogaaa
