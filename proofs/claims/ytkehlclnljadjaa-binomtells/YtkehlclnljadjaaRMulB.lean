/-
  The walk of the document's Mul.
-/
import Derived.Test.YtkehlclnljadjaaJHalves
import Derived.Deep.DeepCutAuto
namespace Go.Proofs.Ytkehlclnljadjaa
open Go.RowKit

end Go.Proofs.Ytkehlclnljadjaa
