/-
  Joined: RefD Whole FracL FracP.
-/
import Derived.Test.YtfcpaejeppedoaaJSmall
import Derived.Test.YtfcpaejeppedoaaJRefA
import Derived.Test.YtfcpaejeppedoaaShift
import Derived.Deep.QuietTactic
import Derived.BigQuiet
import Derived.Test.YtfcpaejeppedoaaJWiden
import Derived.Test.YtfcpaejeppedoaaJNum
namespace Go.Proofs.Ytfcpaejeppedoaa
open Go.RowKit
def sgn (below : Bool) (v : Int) : Int := if below then -v else v
def Canon (below : Bool) (zs : List Int) : Prop := Norm zs ∧ (below = true → zs ≠ [])
def LowL (b : Bool) (xs ds : List Int) : Prop := Canon b xs ∧ Norm ds ∧ Low (sgn b (val xs)) (val ds)
def ratL (b : Bool) (xs ds : List Int) : Rat := Rat.divInt (sgn b (val xs)) (val ds)
def roundN (n d : Int) : Int := if d < 2 * (n % d) ∨ (2 * (n % d) = d ∧ n / d % 2 = 1) then n / d + 1 else n / d
end Go.Proofs.Ytfcpaejeppedoaa
namespace Go.Proofs.Ytfcpaejeppedoaa
end Go.Proofs.Ytfcpaejeppedoaa
