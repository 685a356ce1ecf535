/-
  The walk of the document's Add.
-/
import Derived.Test.YtfdlhjnnbhfapaaRefA
namespace Go.Proofs.Ytfdlhjnnbhfapaa
open Go.RowKit

theorem val_take_next (zs : List Int) (k : Nat) : val (zs.take (k + 1)) = val (zs.take k) + pw k * zs[k]?.getD 0 := by
  by_cases h : k < zs.length
  · exact val_take_succ zs k h
  · rw [List.take_of_length_le (by omega), List.take_of_length_le (by omega), List.getElem?_eq_none (by omega)]
    simp
/-- One step of the document's sum. -/
theorem rsum_step {xs ys ss : List Int} {k : Nat} {c : Int} (e : val ss + pw k * c = val (xs.take k) + val (ys.take k)) (c' t : Int) (h : xs[k]?.getD 0 + ys[k]?.getD 0 + c = t + 18446744073709551616 * c') :
    val ss + pw k * t + pw (k + 1) * c' = val (xs.take (k + 1)) + val (ys.take (k + 1)) := by
  rw [val_take_next, val_take_next, pw_succ]
  have m : pw k * (xs[k]?.getD 0 + ys[k]?.getD 0 + c) = pw k * (t + 18446744073709551616 * c') := by rw [h]
  rw [Int.mul_add, Int.mul_add, Int.mul_add, ← Int.mul_assoc, Int.mul_comm (pw k) 18446744073709551616] at m
  omega

end Go.Proofs.Ytfdlhjnnbhfapaa
