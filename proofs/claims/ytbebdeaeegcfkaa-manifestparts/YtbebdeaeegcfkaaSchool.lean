/-
  The walk of the program's School: products by rows of digits.
-/
import Derived.Test.YtbebdeaeegcfkaaTRows
import Derived.Test.YtbebdeaeegcfkaaJWiden
import Derived.Deep.Draws
import Derived.Laws.IdiomRangeMap
import Derived.Laws.IdiomCopy
namespace Go.Proofs.Ytbebdeaeegcfkaa
open Go.RowKit

/-- The list from its place k on. -/
theorem Seg.drop {lo : Nat} {W : World} {b off len cap : Nat} {zs : List Int} (h : Seg lo W (.slice (some ⟨b, off, none⟩) len cap) zs) (k : Nat) (hk : k ≤ len) : Seg lo W (.slice (some ⟨b, off + k, none⟩) (len - k) (cap - k)) (zs.drop k) := by
  obtain ⟨hw, a', cap', e, h1, h3⟩ := h
  simp only [Value.slice.injEq] at e
  obtain ⟨rfl, rfl, rfl⟩ := e
  have hl : (zs.drop k).length = zs.length - k := List.length_drop
  refine ⟨hw.drop k, _, _, by rw [hl], by rw [hl]; omega, fun hz => ?_⟩
  have hp : 0 < zs.length - k := by rw [← hl]; exact List.length_pos_iff.2 hz
  obtain ⟨b', off', e1, e2, e3, e4, e5⟩ := h3 (List.length_pos_iff.1 (by omega))
  simp only [Option.some.injEq, Addr.mk.injEq] at e1
  obtain ⟨rfl, rfl, _⟩ := e1
  refine ⟨b, off + k, rfl, e2, e3, fun j hj => ?_, fun j hj => ?_⟩
  · rw [hl] at hj
    rw [Nat.add_assoc, e4 (k + j) (by omega), List.getElem?_drop]
  · rw [hl] at hj
    rw [Nat.add_assoc]; exact e5 (k + j) (by omega)
end Go.Proofs.Ytbebdeaeegcfkaa
