/-
  Joined: Small RefB.
-/
import Derived.Test.YtbebdeaeegcfkaaSeg
import Derived.Shelf.Spec.BitsCarry
namespace Go.Proofs.Ytbebdeaeegcfkaa
open Go.RowKit
theorem Seg.at {lo : Nat} {W : World} {a : Option Addr} {len cap : Nat} {zs : List Int} (h : Seg lo W (.slice a len cap) zs) (i : Nat) :
    len = zs.length ∧ (i < len → ∃ b off, a = some ⟨b, off, none⟩ ∧ W.cell? ⟨b, off + i, none⟩ = some (.int .u64 (zs[i]?.getD 0))) ∧ (len ≤ i → zs[i]?.getD 0 = 0) := by
  obtain ⟨hw, a', cap', e, h1, h3⟩ := h
  simp only [Value.slice.injEq] at e
  obtain ⟨rfl, rfl, rfl⟩ := e
  refine ⟨rfl, fun hi => ?_, fun hi => by rw [List.getElem?_eq_none hi]; rfl⟩
  obtain ⟨b, off, e1, _, _, e4, _⟩ := h3 (by intro e; rw [e] at hi; simp at hi)
  exact ⟨b, off, e1, e4 i hi⟩
def cmpI (x y : Int) : Int := if x < y then -1 else if y < x then 1 else 0
end Go.Proofs.Ytbebdeaeegcfkaa
