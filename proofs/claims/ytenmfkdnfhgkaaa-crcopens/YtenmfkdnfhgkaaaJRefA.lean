/-
  Joined: RefA RefC TBare.
-/
import Derived.Test.YtenmfkdnfhgkaaaJWiden
import Derived.Test.YtenmfkdnfhgkaaaEnds
import Derived.Test.YtenmfkdnfhgkaaaLen
import Derived.Test.YtenmfkdnfhgkaaaLenOf
namespace Go.Proofs.Ytenmfkdnfhgkaaa
open Go.RowKit
def slLen : Value → Nat
  | .slice _ l _ => l
  | _ => 0
end Go.Proofs.Ytenmfkdnfhgkaaa
namespace Go.Proofs.Ytenmfkdnfhgkaaa
open Go.RowKit
end Go.Proofs.Ytenmfkdnfhgkaaa
namespace Go.Proofs.Ytenmfkdnfhgkaaa
open Go.RowKit
end Go.Proofs.Ytenmfkdnfhgkaaa
