/-
  Moves by bits: plain arithmetic on words.
-/
import Derived.Test.YthpobmgnpgogaaaNum
import Derived.Laws.Bits64
import Derived.Laws.Bits64b
namespace Go.Proofs.Ythpobmgnpgogaaa

end Go.Proofs.Ythpobmgnpgogaaa
