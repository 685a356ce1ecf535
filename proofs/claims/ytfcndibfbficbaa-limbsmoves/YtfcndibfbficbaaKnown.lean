/-
  The walk of LimbsKnown: the chapter's examples.
-/
import Derived.Test.YtfcndibfbficbaaAwake
namespace Go.Proofs.Ytfcndibfbficbaa
open Go.RowKit

set_option maxRecDepth 100000 in
set_option maxHeartbeats 4000000 in
theorem known_any (w : World) : Calls Try.prog 5 #[] w fun e w' => e = .returned (.bool true) ∧ Below w.heap.size w w' := by
  have hB := Below.refl w.heap.size w
  go_enter Try.func5, Try.ntmps5
  go_wp2_with fail
  have s1 := (seg1 w (N := w.heap.size) rfl 1 (by decide)).alloc (.cells #[.int .u64 2] 34)
  have s2 := seg1 (w.alloc (.cells #[.int .u64 1] 34)) (N := w.heap.size + 1) (by simp) 2 (by decide)
  have hA := (((Below.refl w.heap.size w).alloc (Nat.le_refl _) (.cells #[.int .u64 1] 34)).alloc (by simp) (.cells #[.int .u64 2] 34))
  refine (sub_no s1 s2 (by simp) (by simp) (by rw [val1, val1]; decide)).mono ?_
  rintro e w1 ⟨rfl, hb⟩
  have hbb : Below w.heap.size w w1 := hA.trans (hb.mono hA.size)
  replace hB := hB.trans (hbb.mono hB.size)
  clear hb hbb hA s1 s2 
  go_wp2_with fail
  have s1 := (seg1 w1 (N := w1.heap.size) rfl 5 (by decide)).alloc (.cells #[.int .u64 5] 34)
  have s2 := seg1 (w1.alloc (.cells #[.int .u64 5] 34)) (N := w1.heap.size + 1) (by simp) 5 (by decide)
  have hA := (((Below.refl w1.heap.size w1).alloc (Nat.le_refl _) (.cells #[.int .u64 5] 34)).alloc (by simp) (.cells #[.int .u64 5] 34))
  refine (sub_yes s1 s2 (by simp) (by simp) (by rw [val1]; decide)).mono ?_
  rintro e w2 ⟨a1, c1, z, rfl, hs, hn, hv, _, hb⟩
  obtain rfl : z = [] := norm_unique hs.words Words.nil hn norm_nil (by rw [hv]; rw [val1, val_nil]; decide)
  have d1 : Seg 0 w2 (.slice a1 0 c1) [] := hs.mono (Nat.zero_le _)
  have hbb : Below w1.heap.size w1 w2 := hA.trans (hb.mono hA.size)
  replace hB := hB.trans (hbb.mono hB.size)
  clear hb hbb hA s1 s2 hs hn hv
  go_wp2_with fail
  have s1 := seg1 w2 (N := w2.heap.size) rfl 18446744073709551615 (by decide)
  have hA := ((Below.refl w2.heap.size w2).alloc (Nat.le_refl _) (.cells #[.int .u64 18446744073709551615] 34))
  replace d1 := d1.below hA
  refine (up_yes s1 (by simp) 4 (by decide) (by rw [val1]; decide)).mono ?_
  rintro e w3 ⟨a2, c2, z, rfl, hs, hn, hv, _, hb⟩
  obtain rfl : z = [18446744073709551600, 15] := norm_unique hs.words (words_2 (by decide) (by decide)) hn (norm2 (by decide)) (by rw [hv]; rw [val1, val2]; decide)
  have d2 : Seg 0 w3 (.slice a2 2 c2) [18446744073709551600, 15] := hs.mono (Nat.zero_le _)
  have hbb : Below w2.heap.size w2 w3 := hA.trans (hb.mono hA.size)
  replace d1 := d1.below hb
  replace hB := hB.trans (hbb.mono hB.size)
  clear hb hbb hA s1 hs hn hv
  go_wp2_with fail
  have s1 := seg2 w3 (N := w3.heap.size) rfl 0 1 (by decide) (by decide)
  have hA := ((Below.refl w3.heap.size w3).alloc (Nat.le_refl _) (.cells #[.int .u64 0, .int .u64 1] 34))
  replace d1 := d1.below hA
  replace d2 := d2.below hA
  refine (down_yes s1 (by simp) 1 (by decide)).mono ?_
  rintro e w4 ⟨a3, c3, z, rfl, hs, hn, hv, _, hb⟩
  obtain rfl : z = [9223372036854775808] := norm_unique hs.words (words_1 (by decide)) hn (norm1 (by decide)) (by rw [hv]; rw [val1, val2]; decide)
  have d3 : Seg 0 w4 (.slice a3 1 c3) [9223372036854775808] := hs.mono (Nat.zero_le _)
  have hbb : Below w3.heap.size w3 w4 := hA.trans (hb.mono hA.size)
  replace d1 := d1.below hb
  replace d2 := d2.below hb
  replace hB := hB.trans (hbb.mono hB.size)
  clear hb hbb hA s1 hs hn hv
  go_wp2_with fail
  have s1 := seg1 w4 (N := w4.heap.size) rfl 7 (by decide)
  have hA := ((Below.refl w4.heap.size w4).alloc (Nat.le_refl _) (.cells #[.int .u64 7] 34))
  replace d1 := d1.below hA
  replace d2 := d2.below hA
  replace d3 := d3.below hA
  refine (down_yes s1 (by simp) 3 (by decide)).mono ?_
  rintro e w5 ⟨a4, c4, z, rfl, hs, hn, hv, _, hb⟩
  obtain rfl : z = [] := norm_unique hs.words Words.nil hn norm_nil (by rw [hv]; rw [val1, val_nil]; decide)
  have d4 : Seg 0 w5 (.slice a4 0 c4) [] := hs.mono (Nat.zero_le _)
  have hbb : Below w4.heap.size w4 w5 := hA.trans (hb.mono hA.size)
  replace d1 := d1.below hb
  replace d2 := d2.below hb
  replace d3 := d3.below hb
  replace hB := hB.trans (hbb.mono hB.size)
  clear hb hbb hA s1 hs hn hv
  go_wp2_with fail
  have s1 := seg1 w5 (N := w5.heap.size) rfl 1 (by decide)
  have hA := ((Below.refl w5.heap.size w5).alloc (Nat.le_refl _) (.cells #[.int .u64 1] 34))
  replace d1 := d1.below hA
  replace d2 := d2.below hA
  replace d3 := d3.below hA
  replace d4 := d4.below hA
  refine (up_no _ (-1) (by decide) _).mono ?_
  rintro e w6 ⟨rfl, hw⟩
  have hb : Below (w5.alloc (.cells #[.int .u64 1] 34)).heap.size (w5.alloc (.cells #[.int .u64 1] 34)) w6 := by rw [hw]; exact Below.refl _ _
  clear hw
  have hbb : Below w5.heap.size w5 w6 := hA.trans (hb.mono hA.size)
  replace d1 := d1.below hb
  replace d2 := d2.below hb
  replace d3 := d3.below hb
  replace d4 := d4.below hb
  replace hB := hB.trans (hbb.mono hB.size)
  clear hb hbb hA s1 
  go_wp2_with fail
  have s1 := seg1 w6 (N := w6.heap.size) rfl 7 (by decide)
  have hA := ((Below.refl w6.heap.size w6).alloc (Nat.le_refl _) (.cells #[.int .u64 7] 34))
  replace d1 := d1.below hA
  replace d2 := d2.below hA
  replace d3 := d3.below hA
  replace d4 := d4.below hA
  have ho := one_yes s1 (by simp) (by rw [val1]; decide)
  rw [val1] at ho
  refine ho.mono ?_
  rintro e w7 ⟨rfl, hb⟩
  have hbb : Below w6.heap.size w6 w7 := hA.trans (hb.mono hA.size)
  replace d1 := d1.below hb
  replace d2 := d2.below hb
  replace d3 := d3.below hb
  replace d4 := d4.below hb
  replace hB := hB.trans (hbb.mono hB.size)
  clear hb hbb hA s1 ho
  go_wp2_with fail
  have s1 := seg2 w7 (N := w7.heap.size) rfl 0 1 (by decide) (by decide)
  have hA := ((Below.refl w7.heap.size w7).alloc (Nat.le_refl _) (.cells #[.int .u64 0, .int .u64 1] 34))
  replace d1 := d1.below hA
  replace d2 := d2.below hA
  replace d3 := d3.below hA
  replace d4 := d4.below hA
  refine (one_no s1 (by simp) (by rw [val2]; decide)).mono ?_
  rintro e w8 ⟨rfl, hb⟩
  have hbb : Below w7.heap.size w7 w8 := hA.trans (hb.mono hA.size)
  replace d1 := d1.below hb
  replace d2 := d2.below hb
  replace d3 := d3.below hb
  replace d4 := d4.below hb
  replace hB := hB.trans (hbb.mono hB.size)
  clear hb hbb hA s1 
  go_wp2_with fail
  have hA := Below.refl w8.heap.size w8
  replace d2 := d2.below hA
  replace d3 := d3.below hA
  replace d4 := d4.below hA
  replace d1 := d1.below hA
  refine (is_len d1 (Seg.nil 0 _) (by simp)).mono ?_
  rintro e w9 ⟨rfl, hb⟩
  have hbb : Below w8.heap.size w8 w9 := hA.trans (hb.mono hA.size)
  replace d2 := d2.below hb
  replace d3 := d3.below hb
  replace d4 := d4.below hb
  replace hB := hB.trans (hbb.mono hB.size)
  clear hb hbb hA  d1
  go_wp2_with fail
  have s1 := seg2 w9 (N := w9.heap.size) rfl 18446744073709551600 15 (by decide) (by decide)
  have hA := ((Below.refl w9.heap.size w9).alloc (Nat.le_refl _) (.cells #[.int .u64 18446744073709551600, .int .u64 15] 34))
  replace d3 := d3.below hA
  replace d4 := d4.below hA
  replace d2 := d2.below hA
  refine (is_len d2 s1 (by simp)).mono ?_
  rintro e w10 ⟨rfl, hb⟩
  have hbb : Below w9.heap.size w9 w10 := hA.trans (hb.mono hA.size)
  replace d3 := d3.below hb
  replace d4 := d4.below hb
  replace hB := hB.trans (hbb.mono hB.size)
  clear hb hbb hA s1 d2
  go_wp2_with fail
  have s1 := seg1 w10 (N := w10.heap.size) rfl 9223372036854775808 (by decide)
  have hA := ((Below.refl w10.heap.size w10).alloc (Nat.le_refl _) (.cells #[.int .u64 9223372036854775808] 34))
  replace d4 := d4.below hA
  replace d3 := d3.below hA
  refine (is_len d3 s1 (by simp)).mono ?_
  rintro e w11 ⟨rfl, hb⟩
  have hbb : Below w10.heap.size w10 w11 := hA.trans (hb.mono hA.size)
  replace d4 := d4.below hb
  replace hB := hB.trans (hbb.mono hB.size)
  clear hb hbb hA s1 d3
  go_wp2_with fail
  have hA := Below.refl w11.heap.size w11
  replace d4 := d4.below hA
  refine (is_len d4 (Seg.nil 0 _) (by simp)).mono ?_
  rintro e w12 ⟨rfl, hb⟩
  have hbb : Below w11.heap.size w11 w12 := hA.trans (hb.mono hA.size)
  replace hB := hB.trans (hbb.mono hB.size)
  clear hb hbb hA  d4
  go_wp2_with fail
  have hA := Below.refl w12.heap.size w12
  refine (awake_any _).mono ?_
  rintro e w13 ⟨rfl, hb⟩
  have hbb : Below w12.heap.size w12 w13 := hA.trans (hb.mono hA.size)
  replace hB := hB.trans (hbb.mono hB.size)
  clear hb hbb hA  
  go_wp2_with fail
  have hA := Below.refl w13.heap.size w13
  refine (add_any (Seg.nil 0 _) (Seg.nil 0 _) (by simp) (by simp)).mono ?_
  rintro e w14 ⟨a5, c5, z, rfl, hs, hn, hv, _, hb⟩
  obtain rfl : z = [] := norm_unique hs.words Words.nil hn norm_nil (by rw [hv]; rw [val_nil]; decide)
  have hbb : Below w13.heap.size w13 w14 := hA.trans (hb.mono hA.size)
  replace hB := hB.trans (hbb.mono hB.size)
  clear hb hbb hA  hs hn hv
  go_wp2_with fail
  have hA := Below.refl w14.heap.size w14
  have hl := len_any (Seg.nil 0 w14) (by simp)
  rw [show blen (val []) = 0 by decide] at hl
  refine hl.mono ?_
  rintro e w15 ⟨rfl, hb⟩
  have hbb : Below w14.heap.size w14 w15 := hA.trans (hb.mono hA.size)
  replace hB := hB.trans (hbb.mono hB.size)
  clear hb hbb hA  hl
  go_wp2_with fail
  have s1 := seg1 w15 (N := w15.heap.size) rfl 1 (by decide)
  have hA := ((Below.refl w15.heap.size w15).alloc (Nat.le_refl _) (.cells #[.int .u64 1] 34))
  have hl := len_any s1 (by simp)
  rw [show blen (val [1]) = 1 by rw [val1]; decide] at hl
  refine hl.mono ?_
  rintro e w16 ⟨rfl, hb⟩
  have hbb : Below w15.heap.size w15 w16 := hA.trans (hb.mono hA.size)
  replace hB := hB.trans (hbb.mono hB.size)
  clear hb hbb hA s1 hl
  go_wp2_with fail
  have s1 := seg3 w16 (N := w16.heap.size) rfl 1 0 0 (by decide) (by decide) (by decide)
  have hA := ((Below.refl w16.heap.size w16).alloc (Nat.le_refl _) (.cells #[.int .u64 1, .int .u64 0, .int .u64 0] 34))
  refine (trim_any s1 (by simp)).mono ?_
  rintro e w17 ⟨a6, c6, z, rfl, hs, hn, hv, _, hb⟩
  obtain rfl : z = [1] := norm_unique hs.words (words_1 (by decide)) hn (norm1 (by decide)) (by rw [hv]; simp [val])
  have d5 : Seg 0 w17 (.slice a6 1 c6) [1] := hs.mono (Nat.zero_le _)
  have hbb : Below w16.heap.size w16 w17 := hA.trans (hb.mono hA.size)
  replace hB := hB.trans (hbb.mono hB.size)
  clear hb hbb hA s1 hs hn hv
  go_wp2_with fail
  have s1 := seg1 w17 (N := w17.heap.size) rfl 1 (by decide)
  have hA := ((Below.refl w17.heap.size w17).alloc (Nat.le_refl _) (.cells #[.int .u64 1] 34))
  replace d5 := d5.below hA
  refine (is_len d5 s1 (by simp)).mono ?_
  rintro e w18 ⟨rfl, hb⟩
  have hbb : Below w17.heap.size w17 w18 := hA.trans (hb.mono hA.size)
  replace hB := hB.trans (hbb.mono hB.size)
  clear hb hbb hA s1 d5
  go_wp2
  go_ret
  exact ⟨rfl, hB⟩
#print axioms known_any
end Go.Proofs.Ytfcndibfbficbaa
