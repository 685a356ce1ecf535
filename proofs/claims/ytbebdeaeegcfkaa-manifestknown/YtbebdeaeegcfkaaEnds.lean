/-
  The walks of the program's Trim, One, Check, Of.
-/
import Derived.Test.YtbebdeaeegcfkaaBare
import Derived.Test.YtbebdeaeegcfkaaJWiden
import Derived.Test.YtbebdeaeegcfkaaJSmall
namespace Go.Proofs.Ytbebdeaeegcfkaa
open Go.RowKit

/-- What Check and its like come to: 0 (OK), or 6 (ErrForm). -/
def formOf (zs : List Int) : Int := if zs = [] ∨ zs[zs.length - 1]?.getD 0 ≠ 0 then 0 else 6

end Go.Proofs.Ytbebdeaeegcfkaa
