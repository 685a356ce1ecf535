/-
  The walk of the program's Cmp.
-/
import Derived.Test.YtbebdeaeegcfkaaBare
import Derived.Test.YtbebdeaeegcfkaaJSmall
import Derived.Stop.RegionWithIn
import Derived.Deep.RegionHeld3
namespace Go.Proofs.Ytbebdeaeegcfkaa
open Go.RowKit Go.Shelf

attribute [local go_sem] Oper.semAt_some

theorem Seg.other {lo : Nat} {W : World} {sv : Value} {zs : List Int} (h : Seg lo W sv zs) {B : Nat} {t : TypeId} {v : Value} (hB : Boxed W B t v) (hv : ∀ z, v ≠ .int .u64 z) (u : Value) : Seg lo (W.setCell ⟨B, 0, none⟩ u) sv zs := by
  obtain ⟨hw, a, cap, e, h1, h3⟩ := h
  refine ⟨hw, a, cap, e, h1, fun hz => ?_⟩
  obtain ⟨b, off, e1, e2, e3, e4, e5⟩ := h3 hz
  have hne : b ≠ B := by
    intro e
    subst e
    have hc := e4 0 (List.length_pos_iff.2 hz)
    have hb : W.heap[b]? = some (.cells #[v] t) := hB
    simp only [World.cell?, hb] at hc
    cases off with
    | zero => simp at hc; exact hv _ hc
    | succ k => simp at hc
  exact ⟨b, off, e1, e2, by simpa [World.setCell] using e3, fun j hj => by rw [World.cell?_setCell_other _ _ _ _ (by intro h; injection h with h1 h2; exact hne h1.symm)]; exact e4 j hj, fun j hj => by rw [World.frozen?_setCell]; exact e5 j hj⟩
end Go.Proofs.Ytbebdeaeegcfkaa
