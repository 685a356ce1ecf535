/-
  The walk of the examples that every statement of layer 1 tries first.
-/
import Derived.Test.YtfcndibfbficbaaAdd
import Derived.Test.YtfcndibfbficbaaSub
import Derived.Test.YtfcndibfbficbaaUp
import Derived.Test.YtfcndibfbficbaaDown
import Derived.Test.YtfcndibfbficbaaLenOf
import Derived.Test.YtfcndibfbficbaaEnds
import Derived.Test.YtfcndibfbficbaaKit
namespace Go.Proofs.Ytfcndibfbficbaa
open Go.RowKit

/-- A list that is written out. -/
theorem seg_lit (w : World) (zs : List Int) (hw : Words zs) : Seg w.heap.size (w.alloc (.cells (zs.map (Value.int .u64)).toArray 34)) (.slice (some ⟨w.heap.size, 0, none⟩) zs.length zs.length) zs := by
  have hh : (w.alloc (.cells (zs.map (Value.int .u64)).toArray 34)).heap[w.heap.size]? = some (.cells (zs.map (Value.int .u64)).toArray 34 (0, 0)) := World.alloc_heap_new w _
  refine ⟨hw, _, _, rfl, Nat.le_refl _, fun _ => ⟨_, 0, rfl, Nat.le_refl _, by simp, fun j hj => ?_, fun j _ => frozen_of_heap hh _⟩⟩
  rw [cell_of_heap hh, Nat.zero_add]
  simp [hj]
theorem words_1 {a : Int} (h : 0 ≤ a ∧ a < 18446744073709551616) : Words [a] := Words.cons h Words.nil
theorem words_2 {a b : Int} (h : 0 ≤ a ∧ a < 18446744073709551616) (h' : 0 ≤ b ∧ b < 18446744073709551616) : Words [a, b] := Words.cons h (words_1 h')
theorem words_3 {a b c : Int} (h : 0 ≤ a ∧ a < 18446744073709551616) (h' : 0 ≤ b ∧ b < 18446744073709551616) (h'' : 0 ≤ c ∧ c < 18446744073709551616) : Words [a, b, c] := Words.cons h (words_2 h' h'')
theorem Seg.alloc {lo : Nat} {W : World} {sv : Value} {zs : List Int} (h : Seg lo W sv zs) (o : Obj) : Seg lo (W.alloc o) sv zs := h.below ((Below.refl _ _).alloc (Nat.le_refl _) o)
theorem is_len {lo lo' : Nat} {a b : Option Addr} {n m ca cb : Nat} {xs : List Int} {w : World} (ha : Seg lo w (.slice a n ca) xs) (hb : Seg lo' w (.slice b m cb) xs) (hl : xs.length ≤ 1000000) :
    Calls Try.prog 34 #[.slice a n ca, .int .i64 0, .slice b m cb] w fun e w' => e = .returned (.bool true) ∧ Below w.heap.size w w' := by
  obtain ⟨rfl, _⟩ := ha.len
  obtain ⟨rfl, _⟩ := hb.len
  exact is_yes ha hb hl
theorem seg1 (w : World) {N : Nat} (hN : w.heap.size = N) (a : Int) (h : 0 ≤ a ∧ a < 18446744073709551616) : Seg N (w.alloc (.cells #[.int .u64 a] 34)) (.slice (some ⟨N, 0, none⟩) 1 1) [a] := by subst hN; exact seg_lit w [a] (words_1 h)
theorem seg2 (w : World) {N : Nat} (hN : w.heap.size = N) (a b : Int) (h : 0 ≤ a ∧ a < 18446744073709551616) (h' : 0 ≤ b ∧ b < 18446744073709551616) : Seg N (w.alloc (.cells #[.int .u64 a, .int .u64 b] 34)) (.slice (some ⟨N, 0, none⟩) 2 2) [a, b] := by subst hN; exact seg_lit w [a, b] (words_2 h h')
theorem seg3 (w : World) {N : Nat} (hN : w.heap.size = N) (a b c : Int) (h : 0 ≤ a ∧ a < 18446744073709551616) (h' : 0 ≤ b ∧ b < 18446744073709551616) (h'' : 0 ≤ c ∧ c < 18446744073709551616) : Seg N (w.alloc (.cells #[.int .u64 a, .int .u64 b, .int .u64 c] 34)) (.slice (some ⟨N, 0, none⟩) 3 3) [a, b, c] := by subst hN; exact seg_lit w [a, b, c] (words_3 h h' h'')
theorem val1 (a : Int) : val [a] = a := by simp [val]
theorem val2 (a b : Int) : val [a, b] = a + 18446744073709551616 * b := by simp [val]
theorem norm1 {a : Int} (h : a ≠ 0) : Norm [a] := .inr (by simpa using h)
theorem norm2 {a b : Int} (h : b ≠ 0) : Norm [a, b] := .inr (by simpa using h)

/-- One new block. -/
theorem below1 {n : Nat} {w W : World} (h : Below n w W) (hn : n ≤ W.heap.size) (o : Obj) : Below n w (W.alloc o) ∧ n ≤ (W.alloc o).heap.size := ⟨h.alloc hn o, by simp; omega⟩

set_option maxRecDepth 100000 in
set_option maxHeartbeats 1000000 in
theorem awake_any (w : World) : Calls Try.prog 10 #[] w fun e w' => e = .returned (.bool true) ∧ Below w.heap.size w w' := by
  go_enter Try.func10, Try.ntmps10
  go_wp2_with fail
  have s1 := (seg2 w rfl 0 1 (by decide) (by decide)).alloc (.cells #[.int .u64 1] 34)
  have s2 := seg1 (w.alloc (.cells #[.int .u64 0, .int .u64 1] 34)) (N := w.heap.size + 1) (by simp) 1 (by decide)
  have hB : Below w.heap.size w ((w.alloc (.cells #[.int .u64 0, .int .u64 1] 34)).alloc (.cells #[.int .u64 1] 34)) := ((Below.refl _ w).alloc (Nat.le_refl _) _).alloc (by simp) _
  refine (sub_yes s1 s2 (by simp) (by simp) (by rw [val1, val2]; decide)).mono ?_
  rintro e w1 ⟨a1, c1, z1, rfl, hs1, hn1, hv1, _, hb1⟩
  obtain rfl : z1 = [18446744073709551615] := norm_unique hs1.words (words_1 (by decide)) hn1 (norm1 (by decide)) (by rw [hv1, val1, val2, val1]; decide)
  replace hB := hB.trans (hb1.mono hB.size)
  replace hs1 : Seg 0 w1 (.slice a1 1 c1) [18446744073709551615] := hs1.mono (Nat.zero_le _)
  clear hv1 hn1 hb1 s1 s2
  go_wp2_with fail
  have s1 := seg1 w1 rfl 1 (by decide)
  refine (up_yes s1 (by simp) 65 (by decide) (by rw [val1]; decide)).mono ?_
  rintro e w2 ⟨a2, c2, z2, rfl, hs2, hn2, hv2, _, hb2⟩
  obtain rfl : z2 = [0, 2] := norm_unique hs2.words (words_2 (by decide) (by decide)) hn2 (norm2 (by decide)) (by rw [hv2, val1, val2]; decide)
  have hb2' : Below w1.heap.size w1 w2 := ((Below.refl _ w1).alloc (Nat.le_refl _) _).trans (hb2.mono (by simp))
  replace hs1 := hs1.below hb2'
  replace hB := hB.trans (hb2'.mono hB.size)
  replace hs2 : Seg 0 w2 (.slice a2 2 c2) [0, 2] := hs2.mono (Nat.zero_le _)
  clear hv2 hn2 hb2 hb2' s1
  go_wp2_with fail
  have s1 := (seg1 w2 rfl 18446744073709551615 (by decide)).alloc (.cells #[.int .u64 1] 34)
  have s2 := seg1 (w2.alloc (.cells #[.int .u64 18446744073709551615] 34)) (N := w2.heap.size + 1) (by simp) 1 (by decide)
  refine (add_any s1 s2 (by simp) (by simp)).mono ?_
  rintro e w3 ⟨a3, c3, z3, rfl, hs3, hn3, hv3, _, hb3⟩
  obtain rfl : z3 = [0, 1] := norm_unique hs3.words (words_2 (by decide) (by decide)) hn3 (norm2 (by decide)) (by rw [hv3, val1, val1, val2]; decide)
  have hb3' : Below w2.heap.size w2 w3 := (((Below.refl _ w2).alloc (Nat.le_refl _) _).alloc (by simp) _).trans (hb3.mono (by simp; omega))
  replace hs1 := hs1.below hb3'
  replace hs2 := hs2.below hb3'
  replace hB := hB.trans (hb3'.mono hB.size)
  replace hs3 : Seg 0 w3 (.slice a3 2 c3) [0, 1] := hs3.mono (Nat.zero_le _)
  clear hv3 hn3 hb3 hb3' s1 s2
  go_wp2_with fail
  have s1 := seg2 w3 rfl 0 1 (by decide) (by decide)
  refine (is_len (hs3.alloc _) s1 (by simp)).mono ?_
  rintro e w4 ⟨rfl, hb4⟩
  have hb4' : Below w3.heap.size w3 w4 := ((Below.refl _ w3).alloc (Nat.le_refl _) _).trans (hb4.mono (by simp))
  replace hs1 := hs1.below hb4'
  replace hs2 := hs2.below hb4'
  replace hB := hB.trans (hb4'.mono hB.size)
  clear hb4 hb4' s1 hs3
  go_wp2_with fail
  have s1 := seg1 w4 rfl 18446744073709551615 (by decide)
  refine (is_len (hs1.alloc _) s1 (by simp)).mono ?_
  rintro e w5 ⟨rfl, hb5⟩
  have hb5' : Below w4.heap.size w4 w5 := ((Below.refl _ w4).alloc (Nat.le_refl _) _).trans (hb5.mono (by simp))
  replace hs2 := hs2.below hb5'
  replace hB := hB.trans (hb5'.mono hB.size)
  clear hb5 hb5' s1 hs1
  go_wp2_with fail
  have s1 := seg2 w5 rfl 0 2 (by decide) (by decide)
  refine (is_len (hs2.alloc _) s1 (by simp)).mono ?_
  rintro e w6 ⟨rfl, hb6⟩
  have hb6' : Below w5.heap.size w5 w6 := ((Below.refl _ w5).alloc (Nat.le_refl _) _).trans (hb6.mono (by simp))
  replace hB := hB.trans (hb6'.mono hB.size)
  clear hb6 hb6' s1 hs2
  go_wp2_with fail
  have s1 := seg2 w6 rfl 0 1 (by decide) (by decide)
  have hlen := len_any s1 (by simp)
  rw [show blen (val [0, 1]) = 65 by rw [val2]; decide] at hlen
  refine hlen.mono ?_
  rintro e w7 ⟨rfl, hb7⟩
  have hb7' : Below w6.heap.size w6 w7 := ((Below.refl _ w6).alloc (Nat.le_refl _) _).trans (hb7.mono (by simp))
  replace hB := hB.trans (hb7'.mono hB.size)
  clear hb7 hb7' s1 hlen
  go_wp2_with fail
  have s1 := seg2 w7 rfl 1 0 (by decide) (by decide)
  have hck := check_any (zs := [1, 0]) s1 (by simp)
  rw [show formOf [1, 0] = 6 by decide] at hck
  refine hck.mono ?_
  rintro e w8 ⟨rfl, hb8⟩
  have hb8' : Below w7.heap.size w7 w8 := ((Below.refl _ w7).alloc (Nat.le_refl _) _).trans (hb8.mono (by simp))
  replace hB := hB.trans (hb8'.mono hB.size)
  clear hb8 hb8' s1 hck
  go_wp2
  go_ret
  exact ⟨rfl, hB⟩
#print axioms awake_any
end Go.Proofs.Ytfcndibfbficbaa
