/-
  Joined: RefA RefC TBare.
-/
import Derived.Test.YthpobmgnpgogaaaJWiden
import Derived.Test.YthpobmgnpgogaaaEnds
import Derived.Test.YthpobmgnpgogaaaLen
import Derived.Test.YthpobmgnpgogaaaLenOf
namespace Go.Proofs.Ythpobmgnpgogaaa
open Go.RowKit
def slLen : Value → Nat
  | .slice _ l _ => l
  | _ => 0
end Go.Proofs.Ythpobmgnpgogaaa
namespace Go.Proofs.Ythpobmgnpgogaaa
open Go.RowKit
end Go.Proofs.Ythpobmgnpgogaaa
namespace Go.Proofs.Ythpobmgnpgogaaa
open Go.RowKit
end Go.Proofs.Ythpobmgnpgogaaa
