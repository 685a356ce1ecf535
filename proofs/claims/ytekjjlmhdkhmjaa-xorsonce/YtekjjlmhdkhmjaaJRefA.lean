/-
  Joined: RefA RefC TBare.
-/
import Derived.Test.YtekjjlmhdkhmjaaJWiden
import Derived.Test.YtekjjlmhdkhmjaaEnds
import Derived.Test.YtekjjlmhdkhmjaaLen
import Derived.Test.YtekjjlmhdkhmjaaLenOf
namespace Go.Proofs.Ytekjjlmhdkhmjaa
open Go.RowKit
def slLen : Value → Nat
  | .slice _ l _ => l
  | _ => 0
end Go.Proofs.Ytekjjlmhdkhmjaa
namespace Go.Proofs.Ytekjjlmhdkhmjaa
open Go.RowKit
end Go.Proofs.Ytekjjlmhdkhmjaa
namespace Go.Proofs.Ytekjjlmhdkhmjaa
open Go.RowKit
end Go.Proofs.Ytekjjlmhdkhmjaa
