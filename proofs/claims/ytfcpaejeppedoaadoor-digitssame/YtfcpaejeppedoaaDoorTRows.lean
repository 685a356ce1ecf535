/-
  The walks of the program's addRow and addAt: sums into a list of one's own.
-/
import Derived.Test.YtfcpaejeppedoaaDoorJRefA
import Derived.Test.YtfcpaejeppedoaaDoorProd
namespace Go.Proofs.YtfcpaejeppedoaaDoor
open Go.RowKit

theorem row_step {P ys : List Int} {i k : Nat} {x c t wd c' : Int} (h : i + k < P.length) (hk : k < ys.length) (e : val P + pw (i + k) * c = t + pw i * (x * val (ys.take k)))
    (key : wd + 18446744073709551616 * c' = P[i + k]?.getD 0 + x * ys[k]?.getD 0 + c) : val (P.set (i + k) wd) + pw (i + k + 1) * c' = t + pw i * (x * val (ys.take (k + 1))) := by
  have e1 : pw i * (x * val (ys.take (k + 1))) = pw i * (x * val (ys.take k)) + pw (i + k) * (x * ys[k]?.getD 0) := by
    rw [val_take_succ ys k hk, Int.mul_add, Int.mul_add, pw_add, Int.mul_assoc, Int.mul_left_comm x]
  have e2 := val_set h wd
  have e3 : pw (i + k) * (wd + 18446744073709551616 * c') = pw (i + k) * (P[i + k]?.getD 0 + x * ys[k]?.getD 0 + c) := by rw [key]
  rw [e1, e2, pw_succ]
  generalize pw (i + k) = q at *
  generalize x * ys[k]?.getD 0 = xy at *
  generalize P[i + k]?.getD 0 = s at *
  rw [Int.mul_add, Int.mul_add, Int.mul_add] at e3
  rw [Int.mul_sub, Int.mul_comm 18446744073709551616 q, Int.mul_assoc]
  omega

theorem Norm.drop {zs : List Int} (h : Norm zs) : ∀ k, Norm (zs.drop k)
  | 0 => h
  | k + 1 => by
    by_cases hk : k < zs.length
    · have := Norm.drop h k
      rw [List.drop_eq_getElem_cons hk] at this
      exact this.tail
    · rw [List.drop_eq_nil_of_le (by omega)]; exact norm_nil
end Go.Proofs.YtfcpaejeppedoaaDoor
