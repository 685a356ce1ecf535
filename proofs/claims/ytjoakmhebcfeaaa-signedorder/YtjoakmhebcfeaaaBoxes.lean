/-
  Blocks that stand: variables of a struct that lie in memory.
-/
import Derived.Test.YtjoakmhebcfeaaaWKit
namespace Go.Proofs.Ytjoakmhebcfeaaa
open Go.RowKit

/-- A block that stands. -/
structure Box (W : World) (k : Nat) (o : Obj) : Prop where
  lt : k < W.heap.size
  what : W.heap[k]? = some o
theorem Box.new (w : World) (o : Obj) : Box (w.alloc o) w.heap.size o := ⟨by simp, World.alloc_heap_new w o⟩
theorem Box.below {W W' : World} {k : Nat} {o : Obj} (h : Box W k o) (hb : Below W.heap.size W W') : Box W' k o := ⟨Nat.lt_of_lt_of_le h.lt hb.size, (hb.block k h.lt).trans h.what⟩
theorem Box.under {W W' : World} {k N : Nat} {o : Obj} (h : Box W k o) (hb : Below N W W') (hk : k < N) : Box W' k o := ⟨Nat.lt_of_lt_of_le h.lt hb.size, (hb.block k hk).trans h.what⟩
theorem Box.above {W W' : World} {k hi : Nat} {o : Obj} (h : Box W k o) (hk : ∀ k, hi ≤ k → W'.heap[k]? = W.heap[k]?) (hs : W.heap.size ≤ W'.heap.size) (hh : hi ≤ k) : Box W' k o := ⟨Nat.lt_of_lt_of_le h.lt hs, (hk k hh).trans h.what⟩
theorem Box.turns {W W' : World} {k g : Nat} {o : Obj} (h : Box W k o) (ht : Turns g W W') (hk : k ≠ g) : Box W' k o := ⟨Nat.lt_of_lt_of_le h.lt ht.below.size, (ht.other k hk h.lt).trans h.what⟩
theorem Box.two {W : World} {k : Nat} {u v : Value} {t : TypeId} (h : Box W k (.cells #[u, v] t (0, 0))) : W.cell? ⟨k, 0, none⟩ = some u ∧ W.cell? ⟨k, 1, none⟩ = some v ∧ W.frozen? ⟨k, 0, none⟩ = false ∧ W.frozen? ⟨k, 1, none⟩ = false := two_cells h.what (Below.refl W.heap.size W) h.lt
theorem Box.set2 {W : World} {k : Nat} {u v : Value} {t : TypeId} (u' v' : Value) (h : Box W k (.cells #[u, v] t (0, 0))) : Box ((W.setCell ⟨k, 0, none⟩ u').setCell ⟨k, 1, none⟩ v') k (.cells #[u', v'] t (0, 0)) := ⟨Nat.lt_of_lt_of_le h.lt (turns2 k W u' v').below.size, turned2 u' v' h.what⟩
theorem Box.drew {W : World} {k : Nat} {o : Obj} (h : Box W k o) : Box W.drew k o := ⟨h.lt, h.what⟩
/-- A block that is new, at a place that is named. -/
theorem Box.put {w : World} {k : Nat} (o : Obj) (hk : w.heap.size = k) : Box (w.alloc o) k o := hk ▸ Box.new w o
/-- The cells of a struct of two fields, as a region's condition. -/
theorem Box.cells {W : World} {k : Nat} {u v : Value} {t : TypeId} (h : Box W k (.cells #[u, v] t (0, 0))) : W.cell? ⟨k, 0, none⟩ = some u ∧ W.cell? ⟨k, 1, none⟩ = some v := ⟨h.two.1, h.two.2.1⟩
/-- One block more. -/
theorem _root_.Go.RowKit.Below.a1 {A B : World} (h : Below A.heap.size A B) (o : Obj) : Below A.heap.size A (B.alloc o) := h.alloc h.size o
end Go.Proofs.Ytjoakmhebcfeaaa
