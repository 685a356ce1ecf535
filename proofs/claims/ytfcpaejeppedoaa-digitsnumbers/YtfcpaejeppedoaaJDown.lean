/-
  Joined: Down Add.
-/
import Derived.Test.YtfcpaejeppedoaaJEnds
import Derived.Deep.RegionWith
import Derived.Deep.RegionHeld3
import Derived.Deep.LoopGhost
import Derived.Test.YtfcpaejeppedoaaJBare
import Derived.Test.YtfcpaejeppedoaaJWiden
import Derived.Test.YtfcpaejeppedoaaJSmall
namespace Go.Proofs.Ytfcpaejeppedoaa
open Go.RowKit
theorem down_word (x y : Int) (r : Nat) (hr : r < 64) (hx : 0 ≤ x ∧ x < 18446744073709551616) (hy : 0 ≤ y) :
    bits .or .u64 (x / 2 ^ r) (IntKind.u64.wrap (y * 2 ^ (64 - r))) = x / 2 ^ r + (y % 2 ^ r) * 2 ^ (64 - r) ∧ 0 ≤ x / 2 ^ r + (y % 2 ^ r) * 2 ^ (64 - r) ∧ x / 2 ^ r + (y % 2 ^ r) * 2 ^ (64 - r) < 18446744073709551616 := by
  have hs := shr_word x (64 - r) (by omega) hx
  rw [show 64 - (64 - r) = r by omega] at hs
  obtain ⟨e1, _, _⟩ := shl_parts y (64 - r) (by omega) hy
  rw [show 64 - (64 - r) = r by omega] at e1
  have hu := up_low y (x / 2 ^ r) (64 - r) (by omega) hy hs.1 hs.2
  rw [e1] at hu
  exact hu
end Go.Proofs.Ytfcpaejeppedoaa
