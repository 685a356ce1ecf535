/-
  The walks of the examples that every statement of layer 3 tries first, and of QuotKnown.
-/
import Derived.Test.YtfdlhjnnbhfapaaQLaw
namespace Go.Proofs.Ytfdlhjnnbhfapaa
open Go.RowKit

set_option maxRecDepth 100000 in
set_option maxHeartbeats 2000000 in
/-- Some of the chapter's examples. -/
theorem awake_any (w : World) : Calls Try.prog 10 #[] w fun e w' => e = .returned (.bool true) ∧ Below w.heap.size w w' := by
  have hB := Below.refl w.heap.size w
  go_enter Try.func10, Try.ntmps10
  go_wp2_with fail
  have s1 : Seg (w.heap.size) (w.alloc (.cells #[.int .u64 7] 24)) (.slice (some ⟨w.heap.size, 0, none⟩) 1 1) [7] := seg_at w (N := w.heap.size) rfl [7] rfl
  replace s1 := s1.alloc (.cells #[.int .u64 2] 24)
  replace s1 := s1.alloc (.cells #[.int .u64 3] 24)
  replace s1 := s1.alloc (.cells #[.int .u64 1] 24)
  have s2 : Seg (w.heap.size + 1) ((w.alloc (.cells #[.int .u64 7] 24)).alloc (.cells #[.int .u64 2] 24)) (.slice (some ⟨w.heap.size + 1, 0, none⟩) 1 1) [2] := seg_at (w.alloc (.cells #[.int .u64 7] 24)) (N := w.heap.size + 1) (by simp) [2] rfl
  replace s2 := s2.alloc (.cells #[.int .u64 3] 24)
  replace s2 := s2.alloc (.cells #[.int .u64 1] 24)
  have s3 : Seg (w.heap.size + 2) (((w.alloc (.cells #[.int .u64 7] 24)).alloc (.cells #[.int .u64 2] 24)).alloc (.cells #[.int .u64 3] 24)) (.slice (some ⟨w.heap.size + 2, 0, none⟩) 1 1) [3] := seg_at ((w.alloc (.cells #[.int .u64 7] 24)).alloc (.cells #[.int .u64 2] 24)) (N := w.heap.size + 2) (by simp) [3] rfl
  replace s3 := s3.alloc (.cells #[.int .u64 1] 24)
  have s4 : Seg (w.heap.size + 3) ((((w.alloc (.cells #[.int .u64 7] 24)).alloc (.cells #[.int .u64 2] 24)).alloc (.cells #[.int .u64 3] 24)).alloc (.cells #[.int .u64 1] 24)) (.slice (some ⟨w.heap.size + 3, 0, none⟩) 1 1) [1] := seg_at (((w.alloc (.cells #[.int .u64 7] 24)).alloc (.cells #[.int .u64 2] 24)).alloc (.cells #[.int .u64 3] 24)) (N := w.heap.size + 3) (by simp) [1] rfl
  have hA := (((((Below.refl w.heap.size w).alloc (Nat.le_refl _) (.cells #[.int .u64 7] 24)).alloc (by simp) (.cells #[.int .u64 2] 24)).alloc (by simp; omega) (.cells #[.int .u64 3] 24)).alloc (by simp; omega) (.cells #[.int .u64 1] 24))
  refine (ldiv_yes s1 s2 s3 s4 (by decide) (by decide) (by decide) (.inr (by decide)) (.inr (by decide)) (by decide) (by decide)).mono ?_
  rintro e w1 ⟨rfl, hb⟩
  have hbb : Below w.heap.size w w1 := hA.trans (hb.mono hA.size)
  replace hB := hB.trans (hbb.mono hB.size)
  clear hb hbb hA s1 s2 s3 s4 
  go_wp2_with fail
  have s1 : Seg (w1.heap.size) (w1.alloc (.cells #[.int .u64 0, .int .u64 0, .int .u64 1] 24)) (.slice (some ⟨w1.heap.size, 0, none⟩) 3 3) [0, 0, 1] := seg_at w1 (N := w1.heap.size) rfl [0, 0, 1] rfl
  replace s1 := s1.alloc (.cells #[.int .u64 18446744073709551615, .int .u64 1] 24)
  replace s1 := s1.alloc (.cells #[.int .u64 9223372036854775808] 24)
  replace s1 := s1.alloc (.cells #[.int .u64 9223372036854775808] 24)
  have s2 : Seg (w1.heap.size + 1) ((w1.alloc (.cells #[.int .u64 0, .int .u64 0, .int .u64 1] 24)).alloc (.cells #[.int .u64 18446744073709551615, .int .u64 1] 24)) (.slice (some ⟨w1.heap.size + 1, 0, none⟩) 2 2) [18446744073709551615, 1] := seg_at (w1.alloc (.cells #[.int .u64 0, .int .u64 0, .int .u64 1] 24)) (N := w1.heap.size + 1) (by simp) [18446744073709551615, 1] rfl
  replace s2 := s2.alloc (.cells #[.int .u64 9223372036854775808] 24)
  replace s2 := s2.alloc (.cells #[.int .u64 9223372036854775808] 24)
  have s3 : Seg (w1.heap.size + 2) (((w1.alloc (.cells #[.int .u64 0, .int .u64 0, .int .u64 1] 24)).alloc (.cells #[.int .u64 18446744073709551615, .int .u64 1] 24)).alloc (.cells #[.int .u64 9223372036854775808] 24)) (.slice (some ⟨w1.heap.size + 2, 0, none⟩) 1 1) [9223372036854775808] := seg_at ((w1.alloc (.cells #[.int .u64 0, .int .u64 0, .int .u64 1] 24)).alloc (.cells #[.int .u64 18446744073709551615, .int .u64 1] 24)) (N := w1.heap.size + 2) (by simp) [9223372036854775808] rfl
  replace s3 := s3.alloc (.cells #[.int .u64 9223372036854775808] 24)
  have s4 : Seg (w1.heap.size + 3) ((((w1.alloc (.cells #[.int .u64 0, .int .u64 0, .int .u64 1] 24)).alloc (.cells #[.int .u64 18446744073709551615, .int .u64 1] 24)).alloc (.cells #[.int .u64 9223372036854775808] 24)).alloc (.cells #[.int .u64 9223372036854775808] 24)) (.slice (some ⟨w1.heap.size + 3, 0, none⟩) 1 1) [9223372036854775808] := seg_at (((w1.alloc (.cells #[.int .u64 0, .int .u64 0, .int .u64 1] 24)).alloc (.cells #[.int .u64 18446744073709551615, .int .u64 1] 24)).alloc (.cells #[.int .u64 9223372036854775808] 24)) (N := w1.heap.size + 3) (by simp) [9223372036854775808] rfl
  have hA := (((((Below.refl w1.heap.size w1).alloc (Nat.le_refl _) (.cells #[.int .u64 0, .int .u64 0, .int .u64 1] 24)).alloc (by simp) (.cells #[.int .u64 18446744073709551615, .int .u64 1] 24)).alloc (by simp; omega) (.cells #[.int .u64 9223372036854775808] 24)).alloc (by simp; omega) (.cells #[.int .u64 9223372036854775808] 24))
  refine (ldiv_yes s1 s2 s3 s4 (by decide) (by decide) (by decide) (.inr (by decide)) (.inr (by decide)) (by decide) (by decide)).mono ?_
  rintro e w2 ⟨rfl, hb⟩
  have hbb : Below w1.heap.size w1 w2 := hA.trans (hb.mono hA.size)
  replace hB := hB.trans (hbb.mono hB.size)
  clear hb hbb hA s1 s2 s3 s4 
  go_wp2_with fail
  have s1 : Seg (w2.heap.size) (w2.alloc (.cells #[.int .u64 12] 24)) (.slice (some ⟨w2.heap.size, 0, none⟩) 1 1) [12] := seg_at w2 (N := w2.heap.size) rfl [12] rfl
  replace s1 := s1.alloc (.cells #[.int .u64 18] 24)
  have s2 : Seg (w2.heap.size + 1) ((w2.alloc (.cells #[.int .u64 12] 24)).alloc (.cells #[.int .u64 18] 24)) (.slice (some ⟨w2.heap.size + 1, 0, none⟩) 1 1) [18] := seg_at (w2.alloc (.cells #[.int .u64 12] 24)) (N := w2.heap.size + 1) (by simp) [18] rfl
  have hA := (((Below.refl w2.heap.size w2).alloc (Nat.le_refl _) (.cells #[.int .u64 12] 24)).alloc (by simp) (.cells #[.int .u64 18] 24))
  refine (qgcd_len s1 s2 (by decide) (by decide)).mono ?_
  rintro e w3 ⟨a1, c1, z1, rfl, S1, N1, v1, l1, hb⟩
  have V1 : Hid (val z1 = 6) := by rw [Hid, v1]; decide
  have b1 : z1.length ≤ 1 := by simp only [List.length_cons, List.length_nil] at l1; omega
  have hbb : Below w2.heap.size w2 w3 := hA.trans (hb.mono hA.size)
  replace hB := hB.trans (hbb.mono hB.size)
  clear hb hbb hA s1 s2 v1 l1
  go_wp2_with fail
  have s1 : Seg (w3.heap.size) (w3.alloc (.cells #[.int .u64 6] 24)) (.slice (some ⟨w3.heap.size, 0, none⟩) 1 1) [6] := seg_at w3 (N := w3.heap.size) rfl [6] rfl
  have hA := ((Below.refl w3.heap.size w3).alloc (Nat.le_refl _) (.cells #[.int .u64 6] 24))
  replace S1 := S1.below hA
  refine (same_len S1 s1 (norm_unique S1.words s1.words N1 (.inr (by decide)) (by rw [V1.out]; decide)) (by omega)).mono ?_
  rintro e w4 ⟨rfl, hb⟩
  have hbb : Below w3.heap.size w3 w4 := hA.trans (hb.mono hA.size)
  replace S1 := S1.below hb
  replace hB := hB.trans (hbb.mono hB.size)
  clear hb hbb hA s1 
  go_wp2
  go_ret
  exact ⟨rfl, hB⟩

set_option maxRecDepth 100000 in
set_option maxHeartbeats 4000000 in
/-- The chapter's examples. -/
theorem known_any (w : World) : Calls Try.prog 5 #[] w fun e w' => e = .returned (.bool true) ∧ Below w.heap.size w w' := by
  have hB := Below.refl w.heap.size w
  go_enter Try.func5, Try.ntmps5
  go_wp2_with fail
  have s1 : Seg (w.heap.size) (w.alloc (.cells #[.int .u64 1] 24)) (.slice (some ⟨w.heap.size, 0, none⟩) 1 1) [1] := seg_at w (N := w.heap.size) rfl [1] rfl
  have hA := ((Below.refl w.heap.size w).alloc (Nat.le_refl _) (.cells #[.int .u64 1] 24))
  refine (qdiv_zero s1 (Seg.nil 0 _) (by decide) (by decide) rfl).mono ?_
  rintro e w1 ⟨a0, b0, c0, d0, rfl, hb⟩
  have hbb : Below w.heap.size w w1 := hA.trans (hb.mono hA.size)
  replace hB := hB.trans (hbb.mono hB.size)
  clear hb hbb hA s1 
  go_wp2_with fail
  have s1 : Seg (w1.heap.size) (w1.alloc (.cells #[.int .u64 0, .int .u64 1] 24)) (.slice (some ⟨w1.heap.size, 0, none⟩) 2 2) [0, 1] := seg_at w1 (N := w1.heap.size) rfl [0, 1] rfl
  have hA := ((Below.refl w1.heap.size w1).alloc (Nat.le_refl _) (.cells #[.int .u64 0, .int .u64 1] 24))
  refine (qpart_yes s1 (by decide) 2 (by decide)).mono ?_
  rintro e w2 ⟨a1, c1, z1, rfl, S1, N1, v1, l1, hb⟩
  have V1 : Hid (val z1 = 9223372036854775808) := by rw [Hid, v1]; decide
  have b1 : z1.length ≤ 2 := l1
  have hbb : Below w1.heap.size w1 w2 := hA.trans (hb.mono hA.size)
  replace hB := hB.trans (hbb.mono hB.size)
  clear hb hbb hA s1 v1 l1
  rw [show val [0, 1] % 2 = 0 by decide]
  go_wp2_with fail
  have s1 : Seg (w2.heap.size) (w2.alloc (.cells #[.int .u64 9] 24)) (.slice (some ⟨w2.heap.size, 0, none⟩) 1 1) [9] := seg_at w2 (N := w2.heap.size) rfl [9] rfl
  have hA := ((Below.refl w2.heap.size w2).alloc (Nat.le_refl _) (.cells #[.int .u64 9] 24))
  replace S1 := S1.below hA
  refine (qpart_zero s1 (by decide)).mono ?_
  rintro e w3 ⟨a9, c9, rfl, hb⟩
  have hbb : Below w2.heap.size w2 w3 := hA.trans (hb.mono hA.size)
  replace S1 := S1.below hb
  replace hB := hB.trans (hbb.mono hB.size)
  clear hb hbb hA s1 
  go_wp2_with fail
  have s1 : Seg (w3.heap.size) (w3.alloc (.cells #[.int .u64 0, .int .u64 1] 24)) (.slice (some ⟨w3.heap.size, 0, none⟩) 2 2) [0, 1] := seg_at w3 (N := w3.heap.size) rfl [0, 1] rfl
  replace s1 := s1.alloc (.cells #[.int .u64 3] 24)
  replace s1 := s1.alloc (.cells #[.int .u64 6148914691236517205] 24)
  replace s1 := s1.alloc (.cells #[.int .u64 1] 24)
  have s2 : Seg (w3.heap.size + 1) ((w3.alloc (.cells #[.int .u64 0, .int .u64 1] 24)).alloc (.cells #[.int .u64 3] 24)) (.slice (some ⟨w3.heap.size + 1, 0, none⟩) 1 1) [3] := seg_at (w3.alloc (.cells #[.int .u64 0, .int .u64 1] 24)) (N := w3.heap.size + 1) (by simp) [3] rfl
  replace s2 := s2.alloc (.cells #[.int .u64 6148914691236517205] 24)
  replace s2 := s2.alloc (.cells #[.int .u64 1] 24)
  have s3 : Seg (w3.heap.size + 2) (((w3.alloc (.cells #[.int .u64 0, .int .u64 1] 24)).alloc (.cells #[.int .u64 3] 24)).alloc (.cells #[.int .u64 6148914691236517205] 24)) (.slice (some ⟨w3.heap.size + 2, 0, none⟩) 1 1) [6148914691236517205] := seg_at ((w3.alloc (.cells #[.int .u64 0, .int .u64 1] 24)).alloc (.cells #[.int .u64 3] 24)) (N := w3.heap.size + 2) (by simp) [6148914691236517205] rfl
  replace s3 := s3.alloc (.cells #[.int .u64 1] 24)
  have s4 : Seg (w3.heap.size + 3) ((((w3.alloc (.cells #[.int .u64 0, .int .u64 1] 24)).alloc (.cells #[.int .u64 3] 24)).alloc (.cells #[.int .u64 6148914691236517205] 24)).alloc (.cells #[.int .u64 1] 24)) (.slice (some ⟨w3.heap.size + 3, 0, none⟩) 1 1) [1] := seg_at (((w3.alloc (.cells #[.int .u64 0, .int .u64 1] 24)).alloc (.cells #[.int .u64 3] 24)).alloc (.cells #[.int .u64 6148914691236517205] 24)) (N := w3.heap.size + 3) (by simp) [1] rfl
  have hA := (((((Below.refl w3.heap.size w3).alloc (Nat.le_refl _) (.cells #[.int .u64 0, .int .u64 1] 24)).alloc (by simp) (.cells #[.int .u64 3] 24)).alloc (by simp; omega) (.cells #[.int .u64 6148914691236517205] 24)).alloc (by simp; omega) (.cells #[.int .u64 1] 24))
  replace S1 := S1.below hA
  refine (ldiv_yes s1 s2 s3 s4 (by decide) (by decide) (by decide) (.inr (by decide)) (.inr (by decide)) (by decide) (by decide)).mono ?_
  rintro e w4 ⟨rfl, hb⟩
  have hbb : Below w3.heap.size w3 w4 := hA.trans (hb.mono hA.size)
  replace S1 := S1.below hb
  replace hB := hB.trans (hbb.mono hB.size)
  clear hb hbb hA s1 s2 s3 s4 
  go_wp2_with fail
  have s1 : Seg (w4.heap.size) (w4.alloc (.cells #[.int .u64 5] 24)) (.slice (some ⟨w4.heap.size, 0, none⟩) 1 1) [5] := seg_at w4 (N := w4.heap.size) rfl [5] rfl
  replace s1 := s1.alloc (.cells #[.int .u64 0, .int .u64 1] 24)
  replace s1 := s1.alloc (.cells #[.int .u64 5] 24)
  have s2 : Seg (w4.heap.size + 1) ((w4.alloc (.cells #[.int .u64 5] 24)).alloc (.cells #[.int .u64 0, .int .u64 1] 24)) (.slice (some ⟨w4.heap.size + 1, 0, none⟩) 2 2) [0, 1] := seg_at (w4.alloc (.cells #[.int .u64 5] 24)) (N := w4.heap.size + 1) (by simp) [0, 1] rfl
  replace s2 := s2.alloc (.cells #[.int .u64 5] 24)
  have s3 : Seg (w4.heap.size + 2) (((w4.alloc (.cells #[.int .u64 5] 24)).alloc (.cells #[.int .u64 0, .int .u64 1] 24)).alloc (.cells #[.int .u64 5] 24)) (.slice (some ⟨w4.heap.size + 2, 0, none⟩) 1 1) [5] := seg_at ((w4.alloc (.cells #[.int .u64 5] 24)).alloc (.cells #[.int .u64 0, .int .u64 1] 24)) (N := w4.heap.size + 2) (by simp) [5] rfl
  have hA := ((((Below.refl w4.heap.size w4).alloc (Nat.le_refl _) (.cells #[.int .u64 5] 24)).alloc (by simp) (.cells #[.int .u64 0, .int .u64 1] 24)).alloc (by simp; omega) (.cells #[.int .u64 5] 24))
  replace S1 := S1.below hA
  refine (ldiv_yes s1 s2 (Seg.nil 0 _) s3 (by decide) (by decide) (by decide) norm_nil (.inr (by decide)) (by decide) (by decide)).mono ?_
  rintro e w5 ⟨rfl, hb⟩
  have hbb : Below w4.heap.size w4 w5 := hA.trans (hb.mono hA.size)
  replace S1 := S1.below hb
  replace hB := hB.trans (hbb.mono hB.size)
  clear hb hbb hA s1 s2 s3 
  go_wp2_with fail
  have s1 : Seg (w5.heap.size) (w5.alloc (.cells #[.int .u64 9223372036854775808] 24)) (.slice (some ⟨w5.heap.size, 0, none⟩) 1 1) [9223372036854775808] := seg_at w5 (N := w5.heap.size) rfl [9223372036854775808] rfl
  have hA := ((Below.refl w5.heap.size w5).alloc (Nat.le_refl _) (.cells #[.int .u64 9223372036854775808] 24))
  replace S1 := S1.below hA
  refine (same_len S1 s1 (norm_unique S1.words s1.words N1 (.inr (by decide)) (by rw [V1.out]; decide)) (by omega)).mono ?_
  rintro e w6 ⟨rfl, hb⟩
  have hbb : Below w5.heap.size w5 w6 := hA.trans (hb.mono hA.size)
  replace S1 := S1.below hb
  replace hB := hB.trans (hbb.mono hB.size)
  clear hb hbb hA s1 
  go_wp2_with fail
  have s1 : Seg (w6.heap.size) (w6.alloc (.cells #[.int .u64 4] 24)) (.slice (some ⟨w6.heap.size, 0, none⟩) 1 1) [4] := seg_at w6 (N := w6.heap.size) rfl [4] rfl
  have hA := ((Below.refl w6.heap.size w6).alloc (Nat.le_refl _) (.cells #[.int .u64 4] 24))
  replace S1 := S1.below hA
  refine (qgcd_len (Seg.nil 0 _) s1 (by decide) (by decide)).mono ?_
  rintro e w7 ⟨a2, c2, z2, rfl, S2, N2, v2, l2, hb⟩
  have V2 : Hid (val z2 = 4) := by rw [Hid, v2]; decide
  have b2 : z2.length ≤ 1 := by simp only [List.length_cons, List.length_nil] at l2; omega
  have hbb : Below w6.heap.size w6 w7 := hA.trans (hb.mono hA.size)
  replace S1 := S1.below hb
  replace hB := hB.trans (hbb.mono hB.size)
  clear hb hbb hA s1 v2 l2
  go_wp2_with fail
  have s1 : Seg (w7.heap.size) (w7.alloc (.cells #[.int .u64 4] 24)) (.slice (some ⟨w7.heap.size, 0, none⟩) 1 1) [4] := seg_at w7 (N := w7.heap.size) rfl [4] rfl
  have hA := ((Below.refl w7.heap.size w7).alloc (Nat.le_refl _) (.cells #[.int .u64 4] 24))
  replace S1 := S1.below hA
  replace S2 := S2.below hA
  refine (same_len S2 s1 (norm_unique S2.words s1.words N2 (.inr (by decide)) (by rw [V2.out]; decide)) (by omega)).mono ?_
  rintro e w8 ⟨rfl, hb⟩
  have hbb : Below w7.heap.size w7 w8 := hA.trans (hb.mono hA.size)
  replace S1 := S1.below hb
  replace S2 := S2.below hb
  replace hB := hB.trans (hbb.mono hB.size)
  clear hb hbb hA s1 
  go_wp2_with fail
  have hA := Below.refl w8.heap.size w8
  refine (qgcd_len (Seg.nil 0 _) (Seg.nil 0 _) (by decide) (by decide)).mono ?_
  rintro e w9 ⟨a3, c3, z3, rfl, S3, N3, v3, l3, hb⟩
  have V3 : Hid (val z3 = 0) := by rw [Hid, v3]; decide
  have b3 : z3.length ≤ 1 := by simp only [List.length_nil] at l3; omega
  have hbb : Below w8.heap.size w8 w9 := hA.trans (hb.mono hA.size)
  replace S1 := S1.below hb
  replace S2 := S2.below hb
  replace hB := hB.trans (hbb.mono hB.size)
  clear hb hbb hA  v3 l3
  obtain rfl : z3 = [] := norm_unique S3.words Words.nil N3 norm_nil (by rw [V3.out]; rfl)
  go_wp2_with fail
  have s1 : Seg (w9.heap.size) (w9.alloc (.cells #[.int .u64 3] 24)) (.slice (some ⟨w9.heap.size, 0, none⟩) 1 1) [3] := seg_at w9 (N := w9.heap.size) rfl [3] rfl
  replace s1 := s1.alloc (.cells #[.int .u64 9] 24)
  have s2 : Seg (w9.heap.size + 1) ((w9.alloc (.cells #[.int .u64 3] 24)).alloc (.cells #[.int .u64 9] 24)) (.slice (some ⟨w9.heap.size + 1, 0, none⟩) 1 1) [9] := seg_at (w9.alloc (.cells #[.int .u64 3] 24)) (N := w9.heap.size + 1) (by simp) [9] rfl
  have hA := (((Below.refl w9.heap.size w9).alloc (Nat.le_refl _) (.cells #[.int .u64 3] 24)).alloc (by simp) (.cells #[.int .u64 9] 24))
  replace S1 := S1.below hA
  replace S2 := S2.below hA
  replace S3 := S3.below hA
  have hv := qdivides_any s1 s2 (by decide) (by decide)
  rw [show dvdB (val [3]) (val [9]) = true by decide] at hv
  refine (hv).mono ?_
  rintro e w10 ⟨rfl, hb⟩
  have hbb : Below w9.heap.size w9 w10 := hA.trans (hb.mono hA.size)
  replace S1 := S1.below hb
  replace S2 := S2.below hb
  replace S3 := S3.below hb
  replace hB := hB.trans (hbb.mono hB.size)
  clear hb hbb hA s1 s2 hv
  go_wp2_with fail
  have s1 : Seg (w10.heap.size) (w10.alloc (.cells #[.int .u64 1] 24)) (.slice (some ⟨w10.heap.size, 0, none⟩) 1 1) [1] := seg_at w10 (N := w10.heap.size) rfl [1] rfl
  have hA := ((Below.refl w10.heap.size w10).alloc (Nat.le_refl _) (.cells #[.int .u64 1] 24))
  replace S1 := S1.below hA
  replace S2 := S2.below hA
  replace S3 := S3.below hA
  have hv := qdivides_any (Seg.nil 0 _) s1 (by decide) (by decide)
  rw [show dvdB (val []) (val [1]) = false by decide] at hv
  refine (hv).mono ?_
  rintro e w11 ⟨rfl, hb⟩
  have hbb : Below w10.heap.size w10 w11 := hA.trans (hb.mono hA.size)
  replace S1 := S1.below hb
  replace S2 := S2.below hb
  replace S3 := S3.below hb
  replace hB := hB.trans (hbb.mono hB.size)
  clear hb hbb hA s1 hv
  go_wp2_with fail
  have hA := Below.refl w11.heap.size w11
  have hv := qdivides_any (w := w11) (Seg.nil 0 _) (Seg.nil 0 _) (by decide) (by decide)
  rw [show dvdB (val []) (val []) = true by decide] at hv
  refine (hv).mono ?_
  rintro e w12 ⟨rfl, hb⟩
  have hbb : Below w11.heap.size w11 w12 := hA.trans (hb.mono hA.size)
  replace S1 := S1.below hb
  replace S2 := S2.below hb
  replace S3 := S3.below hb
  replace hB := hB.trans (hbb.mono hB.size)
  clear hb hbb hA  hv
  go_wp2_with fail
  have hA := Below.refl w12.heap.size w12
  refine (awake_any _).mono ?_
  rintro e w13 ⟨rfl, hb⟩
  have hbb : Below w12.heap.size w12 w13 := hA.trans (hb.mono hA.size)
  replace S1 := S1.below hb
  replace S2 := S2.below hb
  replace S3 := S3.below hb
  replace hB := hB.trans (hbb.mono hB.size)
  clear hb hbb hA  
  go_wp2
  go_ret
  exact ⟨rfl, hB⟩
end Go.Proofs.Ytfdlhjnnbhfapaa
