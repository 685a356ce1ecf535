/-
  Joined: RefA RefC TBare.
-/
import Derived.Test.YtedjicimgalneaaJWiden
import Derived.Test.YtedjicimgalneaaEnds
import Derived.Test.YtedjicimgalneaaLen
import Derived.Test.YtedjicimgalneaaLenOf
namespace Go.Proofs.Ytedjicimgalneaa
open Go.RowKit
def slLen : Value → Nat
  | .slice _ l _ => l
  | _ => 0
end Go.Proofs.Ytedjicimgalneaa
namespace Go.Proofs.Ytedjicimgalneaa
open Go.RowKit
end Go.Proofs.Ytedjicimgalneaa
namespace Go.Proofs.Ytedjicimgalneaa
open Go.RowKit
end Go.Proofs.Ytedjicimgalneaa
