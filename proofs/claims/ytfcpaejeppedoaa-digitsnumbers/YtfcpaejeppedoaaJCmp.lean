/-
  Joined: Cmp Kept.
-/
import Derived.Test.YtfcpaejeppedoaaJBare
import Derived.Test.YtfcpaejeppedoaaJSmall
import Derived.Stop.RegionWithIn
import Derived.Deep.RegionHeld3
namespace Go.Proofs.Ytfcpaejeppedoaa
open Go.RowKit Go.Shelf
attribute [local go_sem] Oper.semAt_some
theorem Seg.other {lo : Nat} {W : World} {sv : Value} {zs : List Int} (h : Seg lo W sv zs) {B : Nat} {t : TypeId} {v : Value} (hB : Boxed W B t v) (hv : ∀ z, v ≠ .int .u64 z) (u : Value) : Seg lo (W.setCell ⟨B, 0, none⟩ u) sv zs := by
  obtain ⟨hw, a, cap, e, h1, h3⟩ := h
  refine ⟨hw, a, cap, e, h1, fun hz => ?_⟩
  obtain ⟨b, off, e1, e2, e3, e4, e5⟩ := h3 hz
  have hne : b ≠ B := by
    intro e
    subst e
    have hc := e4 0 (List.length_pos_iff.2 hz)
    have hb : W.heap[b]? = some (.cells #[v] t) := hB
    simp only [World.cell?, hb] at hc
    cases off with
    | zero => simp at hc; exact hv _ hc
    | succ k => simp at hc
  exact ⟨b, off, e1, e2, by simpa [World.setCell] using e3, fun j hj => by rw [World.cell?_setCell_other _ _ _ _ (by intro h; injection h with h1 h2; exact hne h1.symm)]; exact e4 j hj, fun j hj => by rw [World.frozen?_setCell]; exact e5 j hj⟩
theorem Boxed.belowed {W W' : World} {B : Nat} {t : TypeId} {v : Value} (h : Boxed W B t v) {N : Nat} (hb : Below N W W') (hN : B < N) : Boxed W' B t v := (hb.block B hN).trans h
theorem Seg.kept {lo : Nat} {W W' : World} {row : Option Nat} {sv : Value} {zs : List Int} (h : Seg lo W sv zs) (hg : W.grownBy W' row) (hr : ∀ r, row = some r → ∃ o : Obj, W.heap[r]? = some o ∧ o.isCells = false) : Seg lo W' sv zs := by
  obtain ⟨hw, a, cap, e, h1, h3⟩ := h
  refine ⟨hw, a, cap, e, h1, fun hz => ?_⟩
  obtain ⟨b, off, e1, e2, e3, e4, e5⟩ := h3 hz
  exact ⟨b, off, e1, e2, Nat.lt_of_lt_of_le e3 hg.size, fun j hj => cell_kept (e4 j hj) hg hr, fun j hj => (frozen_kept (e4 j hj) hg hr).trans (e5 j hj)⟩
theorem keepsFrom_below {B : Nat} {W W' : World} (h : Below W.heap.size W W') : KeepsFrom B W W' := ⟨h.size, fun k _ _ hk _ => (h.block k (Array.getElem?_eq_some_iff.1 hk).1).trans hk⟩
theorem Seg.aside {lo : Nat} {W : World} {a : Option Addr} {n c : Nat} {zs : List Int} (h : Seg lo W (.slice a n c) zs) {B : Nat} (hne : zs ≠ [] → ∀ b o, a = some ⟨b, o, none⟩ → b ≠ B) (o : Nat) (u : Value) : Seg lo (W.setCell ⟨B, o, none⟩ u) (.slice a n c) zs := by
  obtain ⟨hw, a', cap, e, h1, h3⟩ := h
  refine ⟨hw, a', cap, e, h1, fun hz => ?_⟩
  obtain ⟨b, off, e1, e2, e3, e4, e5⟩ := h3 hz
  have hb : b ≠ B := hne hz b off (by simp only [Value.slice.injEq] at e; rw [e.1, e1])
  exact ⟨b, off, e1, e2, by simpa [World.setCell] using e3, fun j hj => by rw [World.cell?_setCell_other _ _ _ _ (by intro h; injection h with h1 h2; exact hb h1.symm)]; exact e4 j hj, fun j hj => by rw [World.frozen?_setCell]; exact e5 j hj⟩
theorem Seg.under {lo N : Nat} {W W' : World} {a : Option Addr} {n c : Nat} {zs : List Int} (h : Seg lo W (.slice a n c) zs) (hN : zs ≠ [] → ∀ b o, a = some ⟨b, o, none⟩ → b < N) (hb : Below N W W') : Seg lo W' (.slice a n c) zs := by
  obtain ⟨hw, a', cap, e, h1, h3⟩ := h
  refine ⟨hw, a', cap, e, h1, fun hz => ?_⟩
  obtain ⟨b, off, e1, e2, e3, e4, e5⟩ := h3 hz
  have hbN : b < N := hN hz b off (by simp only [Value.slice.injEq] at e; rw [e.1, e1])
  exact ⟨b, off, e1, e2, Nat.lt_of_lt_of_le e3 hb.size, fun j hj => (hb.cell (p := ⟨b, off + j, none⟩) hbN).trans (e4 j hj), fun j hj => (hb.frozen (p := ⟨b, off + j, none⟩) hbN).trans (e5 j hj)⟩
theorem Boxed.aside {W : World} {B B' : Nat} {t : TypeId} {v : Value} (h : Boxed W B t v) (hne : B ≠ B') (o : Nat) (u : Value) : Boxed (W.setCell ⟨B', o, none⟩ u) B t v := by
  exact (Below.heap_setCell W ⟨B', o, none⟩ u B hne).trans h
end Go.Proofs.Ytfcpaejeppedoaa
