/-
  Lists that are written out; SameNat where two are the same.
-/
import Derived.Test.YtjoakmhebcfeaaaKit
namespace Go.Proofs.Ytjoakmhebcfeaaa
open Go.RowKit

/-- A list that is written out. -/
theorem seg_lit (w : World) (zs : List Int) (hw : Words zs) : Seg w.heap.size (w.alloc (.cells (zs.map (Value.int .u64)).toArray 41)) (.slice (some ⟨w.heap.size, 0, none⟩) zs.length zs.length) zs := by
  have hh : (w.alloc (.cells (zs.map (Value.int .u64)).toArray 41)).heap[w.heap.size]? = some (.cells (zs.map (Value.int .u64)).toArray 41 (0, 0)) := World.alloc_heap_new w _
  refine ⟨hw, _, _, rfl, Nat.le_refl _, fun _ => ⟨_, 0, rfl, Nat.le_refl _, by simp, fun j hj => ?_, fun j _ => frozen_of_heap hh _⟩⟩
  rw [cell_of_heap hh, Nat.zero_add]
  simp [hj]
/-- Words, told by reckoning. -/
def wordsB (zs : List Int) : Bool := zs.all fun z => decide (0 ≤ z) && decide (z < 18446744073709551616)
theorem words_of {zs : List Int} (h : wordsB zs = true) : Words zs := fun z hz => by
  have := List.all_eq_true.1 h z hz
  simpa using this
theorem seg_at (w : World) {N : Nat} (hN : w.heap.size = N) (zs : List Int) (hw : wordsB zs = true) : Seg N (w.alloc (.cells (zs.map (Value.int .u64)).toArray 41)) (.slice (some ⟨N, 0, none⟩) zs.length zs.length) zs := by
  subst hN; exact seg_lit w zs (words_of hw)
theorem Seg.alloc {lo : Nat} {W : World} {sv : Value} {zs : List Int} (h : Seg lo W sv zs) (o : Obj) : Seg lo (W.alloc o) sv zs := h.below ((Below.refl _ _).alloc (Nat.le_refl _) o)
theorem hw_below {w w' : World} (h : w' = w) : Below w.heap.size w w' := by rw [h]; exact Below.refl _ _
theorem same_len {lo lo' : Nat} {a b : Option Addr} {n m ca cb : Nat} {xs ys : List Int} {w : World} (ha : Seg lo w (.slice a n ca) xs) (hb : Seg lo' w (.slice b m cb) ys) (e : xs = ys) (hl : xs.length ≤ 1000000) :
    Calls Try.prog 35 #[.slice a n ca, .slice b m cb] w fun e w' => e = .returned (.bool true) ∧ Below w.heap.size w w' := by
  subst e
  obtain ⟨rfl, _⟩ := ha.len
  obtain ⟨rfl, _⟩ := hb.len
  exact same_yes ha hb hl
end Go.Proofs.Ytjoakmhebcfeaaa
