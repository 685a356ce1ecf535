/-
  The walks of the program's addRow and addAt: sums into a list of one's own.
-/
import Derived.Test.YtbebdeaeegcfkaaJRefA
import Derived.Test.YtbebdeaeegcfkaaProd
namespace Go.Proofs.Ytbebdeaeegcfkaa
open Go.RowKit

theorem Norm.drop {zs : List Int} (h : Norm zs) : ∀ k, Norm (zs.drop k)
  | 0 => h
  | k + 1 => by
    by_cases hk : k < zs.length
    · have := Norm.drop h k
      rw [List.drop_eq_getElem_cons hk] at this
      exact this.tail
    · rw [List.drop_eq_nil_of_le (by omega)]; exact norm_nil
end Go.Proofs.Ytbebdeaeegcfkaa
