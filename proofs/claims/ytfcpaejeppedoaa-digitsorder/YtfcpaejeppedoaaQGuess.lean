/-
  The walk of the program's guess: one digit of a quotient, by the highest digits, with a goto back to the step that corrects it.
-/
import Derived.Test.YtfcpaejeppedoaaDiv64
import Derived.Test.YtfcpaejeppedoaaProd
import Derived.Test.YtfcpaejeppedoaaJNum
import Derived.ScopeJumps
import Derived.WalkMore
namespace Go.Proofs.Ytfcpaejeppedoaa
open Go.RowKit

theorem Guess.high {u v U3 V2 S ru rv u2 u1 u0 v1 v0 : Int} (h : Guess u v U3 V2 S ru rv u2 u1 u0 v1 v0) : u2 ≤ v1 := by
  refine Classical.byContradiction fun hc => ?_
  have s0 := Int.le_of_lt h.S0
  have a : (V2 + 1) * S ≤ (v1 + 1) * 18446744073709551616 * S := Int.mul_le_mul_of_nonneg_right (by have := h.eV; have := h.hv0'; omega) s0
  have b : (v1 + 1) * 18446744073709551616 * 18446744073709551616 * S ≤ U3 * S := Int.mul_le_mul_of_nonneg_right (by have := h.eU; have := h.hu1; have := h.hu0; omega) s0
  have e : (v1 + 1) * 18446744073709551616 * 18446744073709551616 * S = (v1 + 1) * 18446744073709551616 * S * 18446744073709551616 := by ac_rfl
  rw [Int.add_mul, Int.one_mul] at a
  have := h.fit; have := h.eu; have := h.ev; have := h.ru0; have := h.rv1
  generalize (v1 + 1) * 18446744073709551616 * S = T at *
  generalize (v1 + 1) * 18446744073709551616 * 18446744073709551616 * S = T' at *
  omega

/-- What holds at the label: q is no less than the digit, and leaves ov digits and r of the two highest. -/
def GuessAt (u v u2 u1 v1 q r ov : Int) : Prop := 0 ≤ q ∧ q < 18446744073709551616 ∧ 0 ≤ r ∧ r < 18446744073709551616 ∧ (ov = 0 ∨ ov = 1) ∧ ov * 18446744073709551616 + r = u2 * 18446744073709551616 + u1 - q * v1 ∧ u / v ≤ q

end Go.Proofs.Ytfcpaejeppedoaa
