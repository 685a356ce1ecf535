/-
  Joined: RDiv RGcd QWords FracQ.
-/
import Derived.Test.YtejocefblpkdjabGreatRQuot
import Derived.Deep.CutRange
import Derived.Laws.MakeOwn
import Derived.Test.YtejocefblpkdjabGreatJWiden
import Derived.Test.YtejocefblpkdjabGreatJKit
import Derived.Test.YtejocefblpkdjabGreatJRefD
namespace Go.Proofs.YtejocefblpkdjabGreat
open Go.RowKit
theorem len_below {zs : List Int} {m : Nat} (hw : Words zs) (hn : Norm zs) (h : val zs < pw m) : zs.length ≤ m := by
  by_cases e : zs = []
  · subst e; simp
  · have a := norm_val hw hn e
    rcases Nat.lt_or_ge m zs.length with h1 | h1
    · have := pw_mono (m := m) (n := zs.length - 1) (by omega)
      omega
    · exact h1
theorem words_zeros_lit (n : Nat) (w : World) : Seg w.heap.size (w.alloc (.cells (madeCells (Value.int .u64 0).cells (n * 1)) 71)) (.slice (some ⟨w.heap.size, 0, none⟩) n n) (List.replicate n 0) := by
  have hh : (w.alloc (.cells (madeCells (Value.int .u64 0).cells (n * 1)) 71)).heap[w.heap.size]? = some (.cells (madeCells (Value.int .u64 0).cells (n * 1)) 71 (0, 0)) := World.alloc_heap_new w _
  have hl : (List.replicate n (0 : Int)).length = n := List.length_replicate
  refine ⟨Words.zeros n, _, _, by rw [hl], by rw [hl]; exact Nat.le_refl _, fun _ => ⟨_, 0, rfl, Nat.le_refl _, by simp, fun j hj => ?_, fun j _ => frozen_of_heap hh _⟩⟩
  rw [hl] at hj
  rw [cell_of_heap hh, Nat.zero_add]
  simp [madeCells, Value.cells, Nat.mod_one, hj]
theorem make_any (n : Nat) (hn : n ≤ 100000) : ∃ Z : Obj, (∀ w : World, (Instr.makeSlice 27 (.int .i64 n) (.int .i64 n)).run Tryz.prog w = .ok (.slice (some ⟨w.heap.size, 0, none⟩) n n) (w.alloc Z)) ∧ (∀ w : World, Seg w.heap.size (w.alloc Z) (.slice (some ⟨w.heap.size, 0, none⟩) n n) (List.replicate n 0)) := by
  obtain ⟨i0, hi, hz0, hz1, hz2⟩ := info_parts infoU64
  refine ⟨.cells (madeCells (Value.int .u64 0).cells (n * 1)) 71, fun w => ?_, words_zeros_lit n⟩
  have := run_make (P := Tryz.prog) w 27 71 i0 (.int .u64 0) Tryz.underlying27 hi hz0 .i64 .i64 n n (by omega) (Int.le_refl _) (by rw [hz2]; omega) (by omega)
  rw [Int.toNat_natCast, hz1] at this
  exact this
def cellsOf (W : World) : Value → List Int
  | .slice (some a) len _ => (List.range len).map fun j => intOf ((W.cell? ⟨a.block, a.off + j, none⟩).getD (.int .u64 0))
  | _ => []
theorem Seg.cells {lo : Nat} {W : World} {a : Option Addr} {len cap : Nat} {zs : List Int} (h : Seg lo W (.slice a len cap) zs) : cellsOf W (.slice a len cap) = zs := by
  obtain ⟨hl, _⟩ := h.len
  by_cases h0 : len = 0
  · have hz : zs = [] := List.length_eq_zero_iff.1 (by omega)
    rw [hz, h0]
    cases a <;> rfl
  · obtain ⟨b, off, rfl, _, _⟩ := h.row (by omega)
    apply List.ext_getElem
    · simp [cellsOf, hl]
    · intro j h1 h2
      have := (h.cell (j := j) (by omega)).1
      simp [cellsOf, this, intOf, h2]
def gcdI (a b : Int) : Int := (Nat.gcd a.toNat b.toNat : Nat)
theorem gcdI_zero (a : Int) (h : 0 ≤ a) : gcdI a 0 = a := by
  unfold gcdI
  rw [show (0 : Int).toNat = 0 from rfl, Nat.gcd_zero_right]
  omega
theorem gcdI_step {a b : Int} (ha : 0 ≤ a) (hb : 0 < b) : gcdI b (a % b) = gcdI a b := by
  obtain ⟨a, rfl⟩ := Int.eq_ofNat_of_zero_le ha
  obtain ⟨b, rfl⟩ := Int.eq_ofNat_of_zero_le (Int.le_of_lt hb)
  unfold gcdI
  rw [← Int.natCast_emod, Int.toNat_natCast, Int.toNat_natCast, Int.toNat_natCast, Nat.gcd_comm b, ← Nat.gcd_rec, Nat.gcd_comm]
def errZ (b : Int) : Int := if b = 0 then 5 else 0
def remZ (a b : Int) : Int := if b = 0 then 0 else a % b
def dvdB (a b : Int) : Bool := if a = 0 then decide (b = 0) else decide (b % a = 0)
theorem errZ_pos {b : Int} (h : 0 < b) : errZ b = 0 := if_neg (by omega)
theorem remZ_pos (a : Int) {b : Int} (h : 0 < b) : remZ a b = a % b := if_neg (by omega)
theorem remZ_word {a x : Int} (hx : 0 ≤ x ∧ x < 18446744073709551616) : 0 ≤ remZ a x ∧ remZ a x < 18446744073709551616 := by
  unfold remZ
  split
  · decide
  · have := Int.emod_nonneg a (show x ≠ 0 by omega)
    have := Int.emod_lt_of_pos a (show 0 < x by omega)
    omega
def Apart (a1 a2 : Option Addr) (xs ys : List Int) : Prop := xs ≠ [] → ys ≠ [] → ∀ b1 o1 b2 o2, a1 = some ⟨b1, o1, none⟩ → a2 = some ⟨b2, o2, none⟩ → b1 ≠ b2
theorem apart_of {lo hi : Nat} {W : World} {a1 a2 : Option Addr} {n c : Nat} {xs ys : List Int} (h1 : xs ≠ [] → ∀ b o, a1 = some ⟨b, o, none⟩ → b < hi) (S : Seg lo W (.slice a2 n c) ys) (hle : hi ≤ lo) : Apart a1 a2 xs ys := fun hx hy b1 o1 b2 o2 e1 e2 => by
  have a := h1 hx b1 o1 e1
  obtain ⟨hl, _⟩ := S.len
  obtain ⟨b', o', e3, h2, _⟩ := S.row (by rw [hl]; exact List.length_pos_iff.2 hy)
  rw [e2] at e3
  simp only [Option.some.injEq, Addr.mk.injEq] at e3
  omega
theorem apart_nil_left (a1 a2 : Option Addr) (ys : List Int) : Apart a1 a2 [] ys := fun h => absurd rfl h
structure OverT (lo : Nat) (a : Option Addr) (zs : List Int) (w w' : World) : Prop where
  below : Below lo w w'
  other : ∀ k, (zs ≠ [] → ∀ b o, a = some ⟨b, o, none⟩ → k ≠ b) → k < w.heap.size → w'.heap[k]? = w.heap[k]?
end Go.Proofs.YtejocefblpkdjabGreat
namespace Go.Proofs.YtejocefblpkdjabGreat
theorem gcdI_gcd {a b : Int} (ha : 0 ≤ a) (hb : 0 ≤ b) : gcdI a b = (Int.gcd a b : Int) := by
  unfold gcdI Int.gcd
  rw [show a.toNat = a.natAbs by omega, show b.toNat = b.natAbs by omega]
end Go.Proofs.YtejocefblpkdjabGreat
