/-
  The walks of the examples that every statement of layer 2 tries first, and of TimesKnown.
-/
import Derived.Test.YtmgngkmdfccjaaaLits
namespace Go.Proofs.Ytmgngkmdfccjaaa
open Go.RowKit

set_option maxRecDepth 100000 in
set_option maxHeartbeats 2000000 in
/-- Some of the chapter's examples. -/
theorem awake_any (w : World) : Calls Try.prog 10 #[] w fun e w' => e = .returned (.bool true) ∧ Below w.heap.size w w' := by
  have hB := Below.refl w.heap.size w
  go_enter Try.func10, Try.ntmps10
  go_wp2_with (go_at_call 23; refine (ofl_any _ _ _ _).mono ?_; rintro e w' ⟨rfl, rfl⟩)
  have s1 : Seg (w.heap.size) (w.alloc (.cells #[.int .u64 1, .int .u64 2, .int .u64 3] 24)) (.slice (some ⟨w.heap.size, 0, none⟩) 3 3) [1, 2, 3] := seg_at w (N := w.heap.size) rfl [1, 2, 3] rfl
  replace s1 := s1.alloc (.cells #[.int .u64 4, .int .u64 5] 24)
  have s2 : Seg (w.heap.size + 1) ((w.alloc (.cells #[.int .u64 1, .int .u64 2, .int .u64 3] 24)).alloc (.cells #[.int .u64 4, .int .u64 5] 24)) (.slice (some ⟨w.heap.size + 1, 0, none⟩) 2 2) [4, 5] := seg_at (w.alloc (.cells #[.int .u64 1, .int .u64 2, .int .u64 3] 24)) (N := w.heap.size + 1) (by simp) [4, 5] rfl
  have hA := (((Below.refl w.heap.size w).alloc (Nat.le_refl _) (.cells #[.int .u64 1, .int .u64 2, .int .u64 3] 24)).alloc (by simp) (.cells #[.int .u64 4, .int .u64 5] 24))
  refine (kara_yes s1 s2 (by decide) (by decide) 2 (by decide) (by decide)).mono ?_
  rintro e w1 ⟨a1, c1, z1, rfl, S1, N1, v1, l1, hb⟩
  have V1 : Hid (val z1 = val [1, 2, 3] * val [4, 5]) := v1
  have b1 : z1.length ≤ 5 := by simp only [List.length_cons, List.length_nil] at l1; omega
  have hbb : Below w.heap.size w w1 := hA.trans (hb.mono hA.size)
  replace hB := hB.trans (hbb.mono hB.size)
  clear hb hbb hA s1 s2 v1 l1
  go_wp2_with (go_at_call 23; refine (ofl_any _ _ _ _).mono ?_; rintro e w' ⟨rfl, rfl⟩)
  have s1 : Seg (w1.heap.size) (w1.alloc (.cells #[.int .u64 18446744073709551615] 24)) (.slice (some ⟨w1.heap.size, 0, none⟩) 1 1) [18446744073709551615] := seg_at w1 (N := w1.heap.size) rfl [18446744073709551615] rfl
  replace s1 := s1.alloc (.cells #[.int .u64 18446744073709551615] 24)
  have s2 : Seg (w1.heap.size + 1) ((w1.alloc (.cells #[.int .u64 18446744073709551615] 24)).alloc (.cells #[.int .u64 18446744073709551615] 24)) (.slice (some ⟨w1.heap.size + 1, 0, none⟩) 1 1) [18446744073709551615] := seg_at (w1.alloc (.cells #[.int .u64 18446744073709551615] 24)) (N := w1.heap.size + 1) (by simp) [18446744073709551615] rfl
  have hA := (((Below.refl w1.heap.size w1).alloc (Nat.le_refl _) (.cells #[.int .u64 18446744073709551615] 24)).alloc (by simp) (.cells #[.int .u64 18446744073709551615] 24))
  replace S1 := S1.below hA
  refine (school_any s1 s2 (by decide) (by decide)).mono ?_
  rintro e w2 ⟨a2, c2, z2, rfl, S2, N2, v2, l2, hb⟩
  have V2 : Hid (val z2 = val [18446744073709551615] * val [18446744073709551615]) := v2
  have b2 : z2.length ≤ 2 := by simp only [List.length_cons, List.length_nil] at l2; omega
  have hbb : Below w1.heap.size w1 w2 := hA.trans (hb.mono hA.size)
  replace S1 := S1.below hb
  replace hB := hB.trans (hbb.mono hB.size)
  clear hb hbb hA s1 s2 v2 l2
  go_wp2_with (go_at_call 23; refine (ofl_any _ _ _ _).mono ?_; rintro e w' ⟨rfl, rfl⟩)
  have s1 : Seg (w2.heap.size) (w2.alloc (.cells #[.int .u64 1, .int .u64 18446744073709551614] 24)) (.slice (some ⟨w2.heap.size, 0, none⟩) 2 2) [1, 18446744073709551614] := seg_at w2 (N := w2.heap.size) rfl [1, 18446744073709551614] rfl
  have hA := ((Below.refl w2.heap.size w2).alloc (Nat.le_refl _) (.cells #[.int .u64 1, .int .u64 18446744073709551614] 24))
  replace S1 := S1.below hA
  replace S2 := S2.below hA
  refine (same_len S2 s1 (norm_unique S2.words s1.words N2 (.inr (by decide)) (by rw [V2.out]; decide)) (by omega)).mono ?_
  rintro e w3 ⟨rfl, hb⟩
  have hbb : Below w2.heap.size w2 w3 := hA.trans (hb.mono hA.size)
  replace S1 := S1.below hb
  replace S2 := S2.below hb
  replace hB := hB.trans (hbb.mono hB.size)
  clear hb hbb hA s1 
  go_wp2_with (go_at_call 23; refine (ofl_any _ _ _ _).mono ?_; rintro e w' ⟨rfl, rfl⟩)
  have s1 : Seg (w3.heap.size) (w3.alloc (.cells #[.int .u64 4, .int .u64 13, .int .u64 22, .int .u64 15] 24)) (.slice (some ⟨w3.heap.size, 0, none⟩) 4 4) [4, 13, 22, 15] := seg_at w3 (N := w3.heap.size) rfl [4, 13, 22, 15] rfl
  have hA := ((Below.refl w3.heap.size w3).alloc (Nat.le_refl _) (.cells #[.int .u64 4, .int .u64 13, .int .u64 22, .int .u64 15] 24))
  replace S1 := S1.below hA
  replace S2 := S2.below hA
  refine (same_len S1 s1 (norm_unique S1.words s1.words N1 (.inr (by decide)) (by rw [V1.out]; decide)) (by omega)).mono ?_
  rintro e w4 ⟨rfl, hb⟩
  have hbb : Below w3.heap.size w3 w4 := hA.trans (hb.mono hA.size)
  replace S1 := S1.below hb
  replace S2 := S2.below hb
  replace hB := hB.trans (hbb.mono hB.size)
  clear hb hbb hA s1 
  go_wp2
  go_ret
  exact ⟨rfl, hB⟩

set_option maxRecDepth 100000 in
set_option maxHeartbeats 4000000 in
/-- The chapter's examples. -/
theorem known_any (w : World) : Calls Try.prog 5 #[] w fun e w' => e = .returned (.bool true) ∧ Below w.heap.size w w' := by
  have hB := Below.refl w.heap.size w
  go_enter Try.func5, Try.ntmps5
  go_wp2_with (go_at_call 23; refine (ofl_any _ _ _ _).mono ?_; rintro e w' ⟨rfl, rfl⟩)
  have s1 : Seg (w.heap.size) (w.alloc (.cells #[.int .u64 1] 24)) (.slice (some ⟨w.heap.size, 0, none⟩) 1 1) [1] := seg_at w (N := w.heap.size) rfl [1] rfl
  replace s1 := s1.alloc (.cells #[.int .u64 1] 24)
  have s2 : Seg (w.heap.size + 1) ((w.alloc (.cells #[.int .u64 1] 24)).alloc (.cells #[.int .u64 1] 24)) (.slice (some ⟨w.heap.size + 1, 0, none⟩) 1 1) [1] := seg_at (w.alloc (.cells #[.int .u64 1] 24)) (N := w.heap.size + 1) (by simp) [1] rfl
  have hA := (((Below.refl w.heap.size w).alloc (Nat.le_refl _) (.cells #[.int .u64 1] 24)).alloc (by simp) (.cells #[.int .u64 1] 24))
  refine (kara_no _ _ _ 1 (by decide)).mono ?_
  rintro e w1 ⟨rfl, hw⟩
  have hb := hw_below hw
  clear hw
  have hbb : Below w.heap.size w w1 := hA.trans (hb.mono hA.size)
  replace hB := hB.trans (hbb.mono hB.size)
  clear hb hbb hA s1 s2 
  go_wp2_with (go_at_call 23; refine (ofl_any _ _ _ _).mono ?_; rintro e w' ⟨rfl, rfl⟩)
  have s1 : Seg (w1.heap.size) (w1.alloc (.cells #[.int .u64 2] 24)) (.slice (some ⟨w1.heap.size, 0, none⟩) 1 1) [2] := seg_at w1 (N := w1.heap.size) rfl [2] rfl
  have hA := ((Below.refl w1.heap.size w1).alloc (Nat.le_refl _) (.cells #[.int .u64 2] 24))
  refine (power_int s1 64 (by decide) (by decide) (by decide) (by decide)).mono ?_
  rintro e w2 ⟨a1, c1, z1, rfl, S1, N1, v1, l1, hb⟩
  have V1 : Hid (val z1 = val [2] ^ 64) := v1
  have b1 : z1.length ≤ 100 := by simp only [List.length_cons, List.length_nil] at l1; omega
  have hbb : Below w1.heap.size w1 w2 := hA.trans (hb.mono hA.size)
  replace hB := hB.trans (hbb.mono hB.size)
  clear hb hbb hA s1 v1 l1
  go_wp2_with (go_at_call 23; refine (ofl_any _ _ _ _).mono ?_; rintro e w' ⟨rfl, rfl⟩)
  have hA := Below.refl w2.heap.size w2
  refine (power_int (Seg.nil 0 _) 0 (by decide) (by decide) (by decide) (by decide)).mono ?_
  rintro e w3 ⟨a2, c2, z2, rfl, S2, N2, v2, l2, hb⟩
  have V2 : Hid (val z2 = 1) := v2
  have b2 : z2.length ≤ 100 := by simp only [List.length_nil] at l2; omega
  have hbb : Below w2.heap.size w2 w3 := hA.trans (hb.mono hA.size)
  replace S1 := S1.below hb
  replace hB := hB.trans (hbb.mono hB.size)
  clear hb hbb hA  v2 l2
  go_wp2_with (go_at_call 23; refine (ofl_any _ _ _ _).mono ?_; rintro e w' ⟨rfl, rfl⟩)
  have s1 : Seg (w3.heap.size) (w3.alloc (.cells #[.int .u64 3] 24)) (.slice (some ⟨w3.heap.size, 0, none⟩) 1 1) [3] := seg_at w3 (N := w3.heap.size) rfl [3] rfl
  have hA := ((Below.refl w3.heap.size w3).alloc (Nat.le_refl _) (.cells #[.int .u64 3] 24))
  replace S1 := S1.below hA
  replace S2 := S2.below hA
  refine (power_range _ _ _ (-1) (by decide) _).mono ?_
  rintro e w4 ⟨rfl, hb⟩
  have hbb : Below w3.heap.size w3 w4 := hA.trans (hb.mono hA.size)
  replace S1 := S1.below hb
  replace S2 := S2.below hb
  replace hB := hB.trans (hbb.mono hB.size)
  clear hb hbb hA s1 
  go_wp2_with (go_at_call 23; refine (ofl_any _ _ _ _).mono ?_; rintro e w' ⟨rfl, rfl⟩)
  have s1 : Seg (w4.heap.size) (w4.alloc (.cells #[.int .u64 0, .int .u64 0, .int .u64 0, .int .u64 0, .int .u64 1] 24)) (.slice (some ⟨w4.heap.size, 0, none⟩) 5 5) [0, 0, 0, 0, 1] := seg_at w4 (N := w4.heap.size) rfl [0, 0, 0, 0, 1] rfl
  have hA := ((Below.refl w4.heap.size w4).alloc (Nat.le_refl _) (.cells #[.int .u64 0, .int .u64 0, .int .u64 0, .int .u64 0, .int .u64 1] 24))
  replace S1 := S1.below hA
  replace S2 := S2.below hA
  refine (power_long_int s1 (by decide) 65536 (by decide) (by decide) (by decide)).mono ?_
  rintro e w5 ⟨rfl, hb⟩
  have hbb : Below w4.heap.size w4 w5 := hA.trans (hb.mono hA.size)
  replace S1 := S1.below hb
  replace S2 := S2.below hb
  replace hB := hB.trans (hbb.mono hB.size)
  clear hb hbb hA s1 
  go_wp2_with (go_at_call 23; refine (ofl_any _ _ _ _).mono ?_; rintro e w' ⟨rfl, rfl⟩)
  have s1 : Seg (w5.heap.size) (w5.alloc (.cells #[.int .u64 2] 24)) (.slice (some ⟨w5.heap.size, 0, none⟩) 1 1) [2] := seg_at w5 (N := w5.heap.size) rfl [2] rfl
  have hA := ((Below.refl w5.heap.size w5).alloc (Nat.le_refl _) (.cells #[.int .u64 2] 24))
  replace S1 := S1.below hA
  replace S2 := S2.below hA
  refine (power_range _ _ _ 65537 (by decide) _).mono ?_
  rintro e w6 ⟨rfl, hb⟩
  have hbb : Below w5.heap.size w5 w6 := hA.trans (hb.mono hA.size)
  replace S1 := S1.below hb
  replace S2 := S2.below hb
  replace hB := hB.trans (hbb.mono hB.size)
  clear hb hbb hA s1 
  go_wp2_with (go_at_call 23; refine (ofl_any _ _ _ _).mono ?_; rintro e w' ⟨rfl, rfl⟩)
  have s1 : Seg (w6.heap.size) (w6.alloc (.cells #[.int .u64 0, .int .u64 1] 24)) (.slice (some ⟨w6.heap.size, 0, none⟩) 2 2) [0, 1] := seg_at w6 (N := w6.heap.size) rfl [0, 1] rfl
  replace s1 := s1.alloc (.cells #[.int .u64 0, .int .u64 0, .int .u64 1] 24)
  have s2 : Seg (w6.heap.size + 1) ((w6.alloc (.cells #[.int .u64 0, .int .u64 1] 24)).alloc (.cells #[.int .u64 0, .int .u64 0, .int .u64 1] 24)) (.slice (some ⟨w6.heap.size + 1, 0, none⟩) 3 3) [0, 0, 1] := seg_at (w6.alloc (.cells #[.int .u64 0, .int .u64 1] 24)) (N := w6.heap.size + 1) (by simp) [0, 0, 1] rfl
  have hA := (((Below.refl w6.heap.size w6).alloc (Nat.le_refl _) (.cells #[.int .u64 0, .int .u64 1] 24)).alloc (by simp) (.cells #[.int .u64 0, .int .u64 0, .int .u64 1] 24))
  replace S1 := S1.below hA
  replace S2 := S2.below hA
  refine (mul_any s1 s2 (by decide) (by decide)).mono ?_
  rintro e w7 ⟨a3, c3, z3, rfl, S3, N3, v3, l3, hb⟩
  have V3 : Hid (val z3 = val [0, 1] * val [0, 0, 1]) := v3
  have b3 : z3.length ≤ 5 := by simp only [List.length_cons, List.length_nil] at l3; omega
  have hbb : Below w6.heap.size w6 w7 := hA.trans (hb.mono hA.size)
  replace S1 := S1.below hb
  replace S2 := S2.below hb
  replace hB := hB.trans (hbb.mono hB.size)
  clear hb hbb hA s1 s2 v3 l3
  go_wp2_with (go_at_call 23; refine (ofl_any _ _ _ _).mono ?_; rintro e w' ⟨rfl, rfl⟩)
  have s1 : Seg (w7.heap.size) (w7.alloc (.cells #[.int .u64 0, .int .u64 0, .int .u64 0, .int .u64 1] 24)) (.slice (some ⟨w7.heap.size, 0, none⟩) 4 4) [0, 0, 0, 1] := seg_at w7 (N := w7.heap.size) rfl [0, 0, 0, 1] rfl
  have hA := ((Below.refl w7.heap.size w7).alloc (Nat.le_refl _) (.cells #[.int .u64 0, .int .u64 0, .int .u64 0, .int .u64 1] 24))
  replace S1 := S1.below hA
  replace S2 := S2.below hA
  replace S3 := S3.below hA
  refine (same_len S3 s1 (norm_unique S3.words s1.words N3 (.inr (by decide)) (by rw [V3.out]; decide)) (by omega)).mono ?_
  rintro e w8 ⟨rfl, hb⟩
  have hbb : Below w7.heap.size w7 w8 := hA.trans (hb.mono hA.size)
  replace S1 := S1.below hb
  replace S2 := S2.below hb
  replace S3 := S3.below hb
  replace hB := hB.trans (hbb.mono hB.size)
  clear hb hbb hA s1 
  go_wp2_with (go_at_call 23; refine (ofl_any _ _ _ _).mono ?_; rintro e w' ⟨rfl, rfl⟩)
  have s1 : Seg (w8.heap.size) (w8.alloc (.cells #[.int .u64 3] 24)) (.slice (some ⟨w8.heap.size, 0, none⟩) 1 1) [3] := seg_at w8 (N := w8.heap.size) rfl [3] rfl
  have hA := ((Below.refl w8.heap.size w8).alloc (Nat.le_refl _) (.cells #[.int .u64 3] 24))
  replace S1 := S1.below hA
  replace S2 := S2.below hA
  replace S3 := S3.below hA
  refine (square_any s1 (by decide)).mono ?_
  rintro e w9 ⟨a4, c4, z4, rfl, S4, N4, v4, l4, hb⟩
  have V4 : Hid (val z4 = val [3] * val [3]) := v4
  have b4 : z4.length ≤ 2 := by simp only [List.length_cons, List.length_nil] at l4; omega
  have hbb : Below w8.heap.size w8 w9 := hA.trans (hb.mono hA.size)
  replace S1 := S1.below hb
  replace S2 := S2.below hb
  replace S3 := S3.below hb
  replace hB := hB.trans (hbb.mono hB.size)
  clear hb hbb hA s1 v4 l4
  go_wp2_with (go_at_call 23; refine (ofl_any _ _ _ _).mono ?_; rintro e w' ⟨rfl, rfl⟩)
  have s1 : Seg (w9.heap.size) (w9.alloc (.cells #[.int .u64 9] 24)) (.slice (some ⟨w9.heap.size, 0, none⟩) 1 1) [9] := seg_at w9 (N := w9.heap.size) rfl [9] rfl
  have hA := ((Below.refl w9.heap.size w9).alloc (Nat.le_refl _) (.cells #[.int .u64 9] 24))
  replace S1 := S1.below hA
  replace S2 := S2.below hA
  replace S3 := S3.below hA
  replace S4 := S4.below hA
  refine (same_len S4 s1 (norm_unique S4.words s1.words N4 (.inr (by decide)) (by rw [V4.out]; decide)) (by omega)).mono ?_
  rintro e w10 ⟨rfl, hb⟩
  have hbb : Below w9.heap.size w9 w10 := hA.trans (hb.mono hA.size)
  replace S1 := S1.below hb
  replace S2 := S2.below hb
  replace S3 := S3.below hb
  replace S4 := S4.below hb
  replace hB := hB.trans (hbb.mono hB.size)
  clear hb hbb hA s1 
  go_wp2_with (go_at_call 23; refine (ofl_any _ _ _ _).mono ?_; rintro e w' ⟨rfl, rfl⟩)
  have s1 : Seg (w10.heap.size) (w10.alloc (.cells #[.int .u64 5, .int .u64 7] 24)) (.slice (some ⟨w10.heap.size, 0, none⟩) 2 2) [5, 7] := seg_at w10 (N := w10.heap.size) rfl [5, 7] rfl
  have hA := ((Below.refl w10.heap.size w10).alloc (Nat.le_refl _) (.cells #[.int .u64 5, .int .u64 7] 24))
  replace S1 := S1.below hA
  replace S2 := S2.below hA
  replace S3 := S3.below hA
  replace S4 := S4.below hA
  refine (tgrow_any s1 (by decide) 2 (by decide)).mono ?_
  rintro e w11 ⟨a5, c5, z5, rfl, S5, N5, v5, l5, hb⟩
  have V5 : Hid (val z5 = val [5, 7] * 2) := v5
  have b5 : z5.length ≤ 3 := by simp only [List.length_cons, List.length_nil] at l5; omega
  have hbb : Below w10.heap.size w10 w11 := hA.trans (hb.mono hA.size)
  replace S1 := S1.below hb
  replace S2 := S2.below hb
  replace S3 := S3.below hb
  replace S4 := S4.below hb
  replace hB := hB.trans (hbb.mono hB.size)
  clear hb hbb hA s1 v5 l5
  go_wp2_with (go_at_call 23; refine (ofl_any _ _ _ _).mono ?_; rintro e w' ⟨rfl, rfl⟩)
  have s1 : Seg (w11.heap.size) (w11.alloc (.cells #[.int .u64 10, .int .u64 14] 24)) (.slice (some ⟨w11.heap.size, 0, none⟩) 2 2) [10, 14] := seg_at w11 (N := w11.heap.size) rfl [10, 14] rfl
  have hA := ((Below.refl w11.heap.size w11).alloc (Nat.le_refl _) (.cells #[.int .u64 10, .int .u64 14] 24))
  replace S1 := S1.below hA
  replace S2 := S2.below hA
  replace S3 := S3.below hA
  replace S4 := S4.below hA
  replace S5 := S5.below hA
  refine (same_len S5 s1 (norm_unique S5.words s1.words N5 (.inr (by decide)) (by rw [V5.out]; decide)) (by omega)).mono ?_
  rintro e w12 ⟨rfl, hb⟩
  have hbb : Below w11.heap.size w11 w12 := hA.trans (hb.mono hA.size)
  replace S1 := S1.below hb
  replace S2 := S2.below hb
  replace S3 := S3.below hb
  replace S4 := S4.below hb
  replace S5 := S5.below hb
  replace hB := hB.trans (hbb.mono hB.size)
  clear hb hbb hA s1 
  go_wp2_with (go_at_call 23; refine (ofl_any _ _ _ _).mono ?_; rintro e w' ⟨rfl, rfl⟩)
  have s1 : Seg (w12.heap.size) (w12.alloc (.cells #[.int .u64 5] 24)) (.slice (some ⟨w12.heap.size, 0, none⟩) 1 1) [5] := seg_at w12 (N := w12.heap.size) rfl [5] rfl
  have hA := ((Below.refl w12.heap.size w12).alloc (Nat.le_refl _) (.cells #[.int .u64 5] 24))
  replace S1 := S1.below hA
  replace S2 := S2.below hA
  replace S3 := S3.below hA
  replace S4 := S4.below hA
  replace S5 := S5.below hA
  refine (mul_any (Seg.nil 0 _) s1 (by decide) (by decide)).mono ?_
  rintro e w13 ⟨a6, c6, z6, rfl, S6, N6, v6, l6, hb⟩
  have V6 : Hid (val z6 = 0) := by rw [Hid, v6, val_nil, Int.zero_mul]
  have b6 : z6.length ≤ 1 := by simp only [List.length_cons, List.length_nil] at l6; omega
  have hbb : Below w12.heap.size w12 w13 := hA.trans (hb.mono hA.size)
  replace S1 := S1.below hb
  replace S2 := S2.below hb
  replace S3 := S3.below hb
  replace S4 := S4.below hb
  replace S5 := S5.below hb
  replace hB := hB.trans (hbb.mono hB.size)
  clear hb hbb hA s1 v6 l6
  obtain rfl : z6 = [] := norm_unique S6.words Words.nil N6 norm_nil (by rw [V6.out]; rfl)
  go_wp2_with (go_at_call 23; refine (ofl_any _ _ _ _).mono ?_; rintro e w' ⟨rfl, rfl⟩)
  have hA := Below.refl w13.heap.size w13
  refine (awake_any _).mono ?_
  rintro e w14 ⟨rfl, hb⟩
  have hbb : Below w13.heap.size w13 w14 := hA.trans (hb.mono hA.size)
  replace S1 := S1.below hb
  replace S2 := S2.below hb
  replace S3 := S3.below hb
  replace S4 := S4.below hb
  replace S5 := S5.below hb
  replace S6 := S6.below hb
  replace hB := hB.trans (hbb.mono hB.size)
  clear hb hbb hA  
  go_wp2_with (go_at_call 23; refine (ofl_any _ _ _ _).mono ?_; rintro e w' ⟨rfl, rfl⟩)
  have s1 : Seg (w14.heap.size) (w14.alloc (.cells #[.int .u64 0, .int .u64 1] 24)) (.slice (some ⟨w14.heap.size, 0, none⟩) 2 2) [0, 1] := seg_at w14 (N := w14.heap.size) rfl [0, 1] rfl
  have hA := ((Below.refl w14.heap.size w14).alloc (Nat.le_refl _) (.cells #[.int .u64 0, .int .u64 1] 24))
  replace S1 := S1.below hA
  replace S2 := S2.below hA
  replace S3 := S3.below hA
  replace S4 := S4.below hA
  replace S5 := S5.below hA
  replace S6 := S6.below hA
  refine (same_len S1 s1 (norm_unique S1.words s1.words N1 (.inr (by decide)) (by rw [V1.out]; decide)) (by omega)).mono ?_
  rintro e w15 ⟨rfl, hb⟩
  have hbb : Below w14.heap.size w14 w15 := hA.trans (hb.mono hA.size)
  replace S1 := S1.below hb
  replace S2 := S2.below hb
  replace S3 := S3.below hb
  replace S4 := S4.below hb
  replace S5 := S5.below hb
  replace S6 := S6.below hb
  replace hB := hB.trans (hbb.mono hB.size)
  clear hb hbb hA s1 
  go_wp2_with (go_at_call 23; refine (ofl_any _ _ _ _).mono ?_; rintro e w' ⟨rfl, rfl⟩)
  have s1 : Seg (w15.heap.size) (w15.alloc (.cells #[.int .u64 1] 24)) (.slice (some ⟨w15.heap.size, 0, none⟩) 1 1) [1] := seg_at w15 (N := w15.heap.size) rfl [1] rfl
  have hA := ((Below.refl w15.heap.size w15).alloc (Nat.le_refl _) (.cells #[.int .u64 1] 24))
  replace S1 := S1.below hA
  replace S2 := S2.below hA
  replace S3 := S3.below hA
  replace S4 := S4.below hA
  replace S5 := S5.below hA
  replace S6 := S6.below hA
  refine (same_len S2 s1 (norm_unique S2.words s1.words N2 (.inr (by decide)) (by rw [V2.out]; decide)) (by omega)).mono ?_
  rintro e w16 ⟨rfl, hb⟩
  have hbb : Below w15.heap.size w15 w16 := hA.trans (hb.mono hA.size)
  replace S1 := S1.below hb
  replace S2 := S2.below hb
  replace S3 := S3.below hb
  replace S4 := S4.below hb
  replace S5 := S5.below hb
  replace S6 := S6.below hb
  replace hB := hB.trans (hbb.mono hB.size)
  clear hb hbb hA s1 
  go_wp2
  go_ret
  exact ⟨rfl, hB⟩
#print axioms known_any
end Go.Proofs.Ytmgngkmdfccjaaa
