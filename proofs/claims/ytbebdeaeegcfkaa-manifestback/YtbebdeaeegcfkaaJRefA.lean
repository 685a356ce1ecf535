/-
  Joined: RefA RefC TBare.
-/
import Derived.Test.YtbebdeaeegcfkaaJWiden
import Derived.Test.YtbebdeaeegcfkaaEnds
import Derived.Test.YtbebdeaeegcfkaaLen
import Derived.Test.YtbebdeaeegcfkaaLenOf
namespace Go.Proofs.Ytbebdeaeegcfkaa
open Go.RowKit
def slLen : Value → Nat
  | .slice _ l _ => l
  | _ => 0
end Go.Proofs.Ytbebdeaeegcfkaa
namespace Go.Proofs.Ytbebdeaeegcfkaa
open Go.RowKit
end Go.Proofs.Ytbebdeaeegcfkaa
namespace Go.Proofs.Ytbebdeaeegcfkaa
open Go.RowKit
end Go.Proofs.Ytbebdeaeegcfkaa
