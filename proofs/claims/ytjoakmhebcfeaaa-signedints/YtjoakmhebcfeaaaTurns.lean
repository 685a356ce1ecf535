/-
  One block turns, what else lay there lies as it lay.
-/
import Derived.Test.YtjoakmhebcfeaaaWiden
namespace Go.Proofs.Ytjoakmhebcfeaaa
open Go.RowKit

/-- One block turns; what else lay there lies as it lay. -/
structure Turns (b : Nat) (W W' : World) : Prop where
  below : Below b W W'
  other : ∀ k, k ≠ b → k < W.heap.size → W'.heap[k]? = W.heap[k]?
theorem Turns.refl (b : Nat) (W : World) : Turns b W W := ⟨Below.refl _ _, fun _ _ _ => rfl⟩
theorem Turns.trans {b : Nat} {A B C : World} (h : Turns b A B) (k : Turns b B C) : Turns b A C := ⟨h.below.trans k.below, fun i hi hl => (k.other i hi (Nat.lt_of_lt_of_le hl h.below.size)).trans (h.other i hi hl)⟩
theorem Turns.of_below {b : Nat} {A B : World} (hb : b ≤ A.heap.size) (h : Below A.heap.size A B) : Turns b A B := ⟨h.mono hb, fun k _ hl => h.block k hl⟩
theorem Turns.setCell {b : Nat} {A B : World} (h : Turns b A B) (o : Nat) (v : Value) : Turns b A (B.setCell ⟨b, o, none⟩ v) :=
  ⟨h.below.setCell (p := ⟨b, o, none⟩) (Nat.le_refl _) v, fun k hk hl => (Below.heap_setCell _ _ _ _ (by show k ≠ b; exact hk)).trans (h.other k hk hl)⟩
theorem Turns.drew {b : Nat} {A B : World} (h : Turns b A B) : Turns b A B.drew := ⟨h.below.drew, h.other⟩
/-- A list in another block. -/
theorem Seg.turns {lo b g o len cap : Nat} {A B : World} {zs : List Int} (h : Seg lo A (.slice (some ⟨g, o, none⟩) len cap) zs) (ht : Turns b A B) (hg : g ≠ b) : Seg lo B (.slice (some ⟨g, o, none⟩) len cap) zs := by
  obtain ⟨hw, a', cap', e, h1, h3⟩ := h
  refine ⟨hw, a', cap', e, h1, fun hz => ?_⟩
  obtain ⟨b', off', e1, e2, e3, e4, e5⟩ := h3 hz
  simp only [Value.slice.injEq] at e
  obtain ⟨ea, _, _⟩ := e
  rw [e1] at ea
  simp only [Option.some.injEq, Addr.mk.injEq] at ea
  obtain ⟨rfl, rfl, _⟩ := ea
  have hk := ht.other g hg e3
  exact ⟨g, o, e1, e2, Nat.lt_of_lt_of_le e3 ht.below.size, fun j hj => (World.cell?_of_block (a := ⟨g, o + j, none⟩) hk).trans (e4 j hj), fun j hj => (World.frozen?_of_block (a := ⟨g, o + j, none⟩) hk).trans (e5 j hj)⟩
theorem Seg.turns_lo {lo b : Nat} {A B : World} {sv : Value} {zs : List Int} (h : Seg lo A sv zs) (ht : Turns b A B) (hg : b < lo) : Seg lo B sv zs := by
  obtain ⟨hw, a', cap', e, h1, h3⟩ := h
  refine ⟨hw, a', cap', e, h1, fun hz => ?_⟩
  obtain ⟨g, o, e1, e2, e3, e4, e5⟩ := h3 hz
  have hk := ht.other g (by omega) e3
  exact ⟨g, o, e1, e2, Nat.lt_of_lt_of_le e3 ht.below.size, fun j hj => (World.cell?_of_block (a := ⟨g, o + j, none⟩) hk).trans (e4 j hj), fun j hj => (World.frozen?_of_block (a := ⟨g, o + j, none⟩) hk).trans (e5 j hj)⟩
/-- Two fields, stored. -/
theorem turns2 (g : Nat) (W : World) (u v : Value) : Turns g W ((W.setCell ⟨g, 0, none⟩ u).setCell ⟨g, 1, none⟩ v) := ((Turns.refl g W).setCell 0 u).setCell 1 v
end Go.Proofs.Ytjoakmhebcfeaaa
