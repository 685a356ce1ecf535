/-
  The walk of SignedInts.
-/
import Derived.Test.YtjoakmhebcfeaaaSLaw
namespace Go.Proofs.Ytjoakmhebcfeaaa
open Go.RowKit

theorem prod_small {p q : Int} (hp : -1073741824 ≤ p ∧ p < 1073741824) (hq : -1073741824 ≤ q ∧ q < 1073741824) : -9223372036854775808 ≤ p * q ∧ p * q < 9223372036854775808 := by
  have h1 := Int.mul_nonneg (show 0 ≤ 1073741824 - p by omega) (show 0 ≤ 1073741824 - q by omega)
  have h2 := Int.mul_nonneg (show 0 ≤ 1073741824 + p by omega) (show 0 ≤ 1073741824 + q by omega)
  have h3 := Int.mul_nonneg (show 0 ≤ 1073741824 - p by omega) (show 0 ≤ 1073741824 + q by omega)
  have h4 := Int.mul_nonneg (show 0 ≤ 1073741824 + p by omega) (show 0 ≤ 1073741824 - q by omega)
  rw [Int.sub_mul, Int.mul_sub, Int.mul_sub] at h1
  rw [Int.add_mul, Int.mul_add, Int.mul_add] at h2
  rw [Int.sub_mul, Int.mul_add, Int.mul_add] at h3
  rw [Int.add_mul, Int.mul_sub, Int.mul_sub] at h4
  omega

set_option maxRecDepth 100000 in
set_option maxHeartbeats 4000000 in
theorem sints_lt (x y : Int) (hx : -9223372036854775808 ≤ x ∧ x < 9223372036854775808) (hy : -9223372036854775808 ≤ y ∧ y < 9223372036854775808) (w : World) (hxy : x < y) : Calls Try.prog 8 #[.int .i64 x, .int .i64 y] w fun e w' => e = .returned (.bool true) ∧ Below w.heap.size w w' := by
  have hB := Below.refl w.heap.size w
  have hne : (x == y) = false := beq_eq_false_iff_ne.2 (by omega)
  obtain ⟨p, hp⟩ : ∃ p, x / 8589934592 = p := ⟨_, rfl⟩
  obtain ⟨q, hq⟩ : ∃ q, y / 8589934592 = q := ⟨_, rfl⟩
  have bp : -1073741824 ≤ p ∧ p < 1073741824 := by omega
  have bq : -1073741824 ≤ q ∧ q < 1073741824 := by omega
  have hm := hide (prod_small bp bq)
  have i1 : IntKind.i64.wrap (p + q) = p + q := by rw [IntKind.wrap_i64]; omega
  have i2 : IntKind.i64.wrap (p - q) = p - q := by rw [IntKind.wrap_i64]; omega
  have i3 : IntKind.i64.wrap (p * q) = p * q := by have := hm.out; rw [IntKind.wrap_i64]; omega
  go_enter Try.func8, Try.ntmps8
  go_wp2_with fail
  have hA := Below.refl w.heap.size w
  refine (sawake_any _).mono ?_
  rintro e w1 ⟨rfl, hb⟩
  have hbb : Below w.heap.size w w1 := hA.trans (hb.mono hA.size)
  replace hB := hB.trans (hbb.mono hB.size)
  clear hb hbb hA  
  go_wp2_with fail
  have hA := Below.refl w1.heap.size w1
  refine (sof_any x hx _).mono ?_
  rintro e w2 ⟨g1, a1, c1, z1, rfl, S1, N1, v1, l1, hb⟩
  have V1 : Hid (sgn g1 (val z1) = x) := v1
  have b1 : z1.length ≤ 1 := by omega
  have hbb : Below w1.heap.size w1 w2 := hA.trans (hb.mono hA.size)
  replace hB := hB.trans (hbb.mono hB.size)
  clear hb hbb hA  v1 l1
  go_wp2_with fail
  have hA := Below.refl w2.heap.size w2
  refine (sis_yes g1 (x) S1 N1 (by omega) (V1.out) hx).mono ?_
  rintro e w3 ⟨rfl, hb⟩
  have hbb : Below w2.heap.size w2 w3 := hA.trans (hb.mono hA.size)
  replace S1 := S1.below hb
  replace hB := hB.trans (hbb.mono hB.size)
  clear hb hbb hA  
  clear S1
  go_wp2_with fail
  have hA := Below.refl w3.heap.size w3
  refine (sof_any x hx _).mono ?_
  rintro e w4 ⟨g2, a2, c2, z2, rfl, S2, N2, v2, l2, hb⟩
  have V2 : Hid (sgn g2 (val z2) = x) := v2
  have b2 : z2.length ≤ 1 := by omega
  have hbb : Below w3.heap.size w3 w4 := hA.trans (hb.mono hA.size)
  replace hB := hB.trans (hbb.mono hB.size)
  clear hb hbb hA  v2 l2
  go_wp2_with fail
  have hA := Below.refl w4.heap.size w4
  refine (sof_any y hy _).mono ?_
  rintro e w5 ⟨g3, a3, c3, z3, rfl, S3, N3, v3, l3, hb⟩
  have V3 : Hid (sgn g3 (val z3) = y) := v3
  have b3 : z3.length ≤ 1 := by omega
  have hbb : Below w4.heap.size w4 w5 := hA.trans (hb.mono hA.size)
  replace S2 := S2.below hb
  replace hB := hB.trans (hbb.mono hB.size)
  clear hb hbb hA  v3 l3
  go_wp2_with fail
  have hA := Below.refl w5.heap.size w5
  have hc := scmp_any g2 g3 S2 S3 (by omega) (by omega)
  rw [V2.out, V3.out, cmpI_lt hxy] at hc
  refine (hc).mono ?_
  rintro e w6 ⟨rfl, hb⟩
  have hbb : Below w5.heap.size w5 w6 := hA.trans (hb.mono hA.size)
  replace S2 := S2.below hb
  replace S3 := S3.below hb
  replace hB := hB.trans (hbb.mono hB.size)
  clear hb hbb hA  hc
  clear S2 S3
  go_wp2_with fail
  have hA := Below.refl w6.heap.size w6
  refine (sof_any p (by omega) _).mono ?_
  rintro e w7 ⟨g4, a4, c4, z4, rfl, S4, N4, v4, l4, hb⟩
  have V4 : Hid (sgn g4 (val z4) = p) := v4
  have b4 : z4.length ≤ 1 := by omega
  have hbb : Below w6.heap.size w6 w7 := hA.trans (hb.mono hA.size)
  replace hB := hB.trans (hbb.mono hB.size)
  clear hb hbb hA  v4 l4
  go_wp2_with fail
  have hA := Below.refl w7.heap.size w7
  refine (sof_any q (by omega) _).mono ?_
  rintro e w8 ⟨g5, a5, c5, z5, rfl, S5, N5, v5, l5, hb⟩
  have V5 : Hid (sgn g5 (val z5) = q) := v5
  have b5 : z5.length ≤ 1 := by omega
  have hbb : Below w7.heap.size w7 w8 := hA.trans (hb.mono hA.size)
  replace S4 := S4.below hb
  replace hB := hB.trans (hbb.mono hB.size)
  clear hb hbb hA  v5 l5
  go_wp2_with fail
  have hA := Below.refl w8.heap.size w8
  refine (sadd_any g4 g5 S4 S5 (by omega) (by omega)).mono ?_
  rintro e w9 ⟨g6, a6, c6, z6, rfl, S6, N6, v6, l6, hb⟩
  have V6 : Hid (sgn g6 (val z6) = p + q) := by rw [Hid, v6, V4.out, V5.out]
  have b6 : z6.length ≤ 3 := by omega
  have hbb : Below w8.heap.size w8 w9 := hA.trans (hb.mono hA.size)
  replace S4 := S4.below hb
  replace S5 := S5.below hb
  replace hB := hB.trans (hbb.mono hB.size)
  clear hb hbb hA  v6 l6
  go_wp2_with fail
  have hA := Below.refl w9.heap.size w9
  refine (sis_yes g6 (p + q) S6 N6 (by omega) (V6.out) (by omega)).mono ?_
  rintro e w10 ⟨rfl, hb⟩
  have hbb : Below w9.heap.size w9 w10 := hA.trans (hb.mono hA.size)
  replace S4 := S4.below hb
  replace S5 := S5.below hb
  replace S6 := S6.below hb
  replace hB := hB.trans (hbb.mono hB.size)
  clear hb hbb hA  
  clear S4 S5 S6
  go_wp2_with fail
  have hA := Below.refl w10.heap.size w10
  refine (sof_any p (by omega) _).mono ?_
  rintro e w11 ⟨g7, a7, c7, z7, rfl, S7, N7, v7, l7, hb⟩
  have V7 : Hid (sgn g7 (val z7) = p) := v7
  have b7 : z7.length ≤ 1 := by omega
  have hbb : Below w10.heap.size w10 w11 := hA.trans (hb.mono hA.size)
  replace hB := hB.trans (hbb.mono hB.size)
  clear hb hbb hA  v7 l7
  go_wp2_with fail
  have hA := Below.refl w11.heap.size w11
  refine (sof_any q (by omega) _).mono ?_
  rintro e w12 ⟨g8, a8, c8, z8, rfl, S8, N8, v8, l8, hb⟩
  have V8 : Hid (sgn g8 (val z8) = q) := v8
  have b8 : z8.length ≤ 1 := by omega
  have hbb : Below w11.heap.size w11 w12 := hA.trans (hb.mono hA.size)
  replace S7 := S7.below hb
  replace hB := hB.trans (hbb.mono hB.size)
  clear hb hbb hA  v8 l8
  go_wp2_with fail
  have hA := Below.refl w12.heap.size w12
  refine (ssub_any g7 g8 S7 S8 (by omega) (by omega)).mono ?_
  rintro e w13 ⟨g9, a9, c9, z9, rfl, S9, N9, v9, l9, hb⟩
  have V9 : Hid (sgn g9 (val z9) = p - q) := by rw [Hid, v9, V7.out, V8.out]
  have b9 : z9.length ≤ 3 := by omega
  have hbb : Below w12.heap.size w12 w13 := hA.trans (hb.mono hA.size)
  replace S7 := S7.below hb
  replace S8 := S8.below hb
  replace hB := hB.trans (hbb.mono hB.size)
  clear hb hbb hA  v9 l9
  go_wp2_with fail
  have hA := Below.refl w13.heap.size w13
  refine (sis_yes g9 (p - q) S9 N9 (by omega) (V9.out) (by omega)).mono ?_
  rintro e w14 ⟨rfl, hb⟩
  have hbb : Below w13.heap.size w13 w14 := hA.trans (hb.mono hA.size)
  replace S7 := S7.below hb
  replace S8 := S8.below hb
  replace S9 := S9.below hb
  replace hB := hB.trans (hbb.mono hB.size)
  clear hb hbb hA  
  clear S7 S8 S9
  go_wp2_with fail
  have hA := Below.refl w14.heap.size w14
  refine (sof_any p (by omega) _).mono ?_
  rintro e w15 ⟨g10, a10, c10, z10, rfl, S10, N10, v10, l10, hb⟩
  have V10 : Hid (sgn g10 (val z10) = p) := v10
  have b10 : z10.length ≤ 1 := by omega
  have hbb : Below w14.heap.size w14 w15 := hA.trans (hb.mono hA.size)
  replace hB := hB.trans (hbb.mono hB.size)
  clear hb hbb hA  v10 l10
  go_wp2_with fail
  have hA := Below.refl w15.heap.size w15
  refine (sof_any q (by omega) _).mono ?_
  rintro e w16 ⟨g11, a11, c11, z11, rfl, S11, N11, v11, l11, hb⟩
  have V11 : Hid (sgn g11 (val z11) = q) := v11
  have b11 : z11.length ≤ 1 := by omega
  have hbb : Below w15.heap.size w15 w16 := hA.trans (hb.mono hA.size)
  replace S10 := S10.below hb
  replace hB := hB.trans (hbb.mono hB.size)
  clear hb hbb hA  v11 l11
  go_wp2_with fail
  have hA := Below.refl w16.heap.size w16
  refine (smul_any g10 g11 S10 S11 (by omega) (by omega)).mono ?_
  rintro e w17 ⟨g12, a12, c12, z12, rfl, S12, N12, v12, l12, hb⟩
  have V12 : Hid (sgn g12 (val z12) = p * q) := by rw [Hid, v12, V10.out, V11.out]
  have b12 : z12.length ≤ 3 := by omega
  have hbb : Below w16.heap.size w16 w17 := hA.trans (hb.mono hA.size)
  replace S10 := S10.below hb
  replace S11 := S11.below hb
  replace hB := hB.trans (hbb.mono hB.size)
  clear hb hbb hA  v12 l12
  go_wp2_with fail
  have hA := Below.refl w17.heap.size w17
  refine (sis_yes g12 (p * q) S12 N12 (by omega) (V12.out) hm.out).mono ?_
  rintro e w18 ⟨rfl, hb⟩
  have hbb : Below w17.heap.size w17 w18 := hA.trans (hb.mono hA.size)
  replace S10 := S10.below hb
  replace S11 := S11.below hb
  replace S12 := S12.below hb
  replace hB := hB.trans (hbb.mono hB.size)
  clear hb hbb hA  
  clear S10 S11 S12
  go_wp2
  go_ret
  exact ⟨rfl, hB⟩

set_option maxRecDepth 100000 in
set_option maxHeartbeats 4000000 in
theorem sints_gt (x y : Int) (hx : -9223372036854775808 ≤ x ∧ x < 9223372036854775808) (hy : -9223372036854775808 ≤ y ∧ y < 9223372036854775808) (w : World) (hxy : y < x) : Calls Try.prog 8 #[.int .i64 x, .int .i64 y] w fun e w' => e = .returned (.bool true) ∧ Below w.heap.size w w' := by
  have hB := Below.refl w.heap.size w
  have hne : (x == y) = false := beq_eq_false_iff_ne.2 (by omega)
  have hnl : ¬ x < y := by omega
  obtain ⟨p, hp⟩ : ∃ p, x / 8589934592 = p := ⟨_, rfl⟩
  obtain ⟨q, hq⟩ : ∃ q, y / 8589934592 = q := ⟨_, rfl⟩
  have bp : -1073741824 ≤ p ∧ p < 1073741824 := by omega
  have bq : -1073741824 ≤ q ∧ q < 1073741824 := by omega
  have hm := hide (prod_small bp bq)
  have i1 : IntKind.i64.wrap (p + q) = p + q := by rw [IntKind.wrap_i64]; omega
  have i2 : IntKind.i64.wrap (p - q) = p - q := by rw [IntKind.wrap_i64]; omega
  have i3 : IntKind.i64.wrap (p * q) = p * q := by have := hm.out; rw [IntKind.wrap_i64]; omega
  go_enter Try.func8, Try.ntmps8
  go_wp2_with fail
  have hA := Below.refl w.heap.size w
  refine (sawake_any _).mono ?_
  rintro e w1 ⟨rfl, hb⟩
  have hbb : Below w.heap.size w w1 := hA.trans (hb.mono hA.size)
  replace hB := hB.trans (hbb.mono hB.size)
  clear hb hbb hA  
  go_wp2_with fail
  have hA := Below.refl w1.heap.size w1
  refine (sof_any x hx _).mono ?_
  rintro e w2 ⟨g1, a1, c1, z1, rfl, S1, N1, v1, l1, hb⟩
  have V1 : Hid (sgn g1 (val z1) = x) := v1
  have b1 : z1.length ≤ 1 := by omega
  have hbb : Below w1.heap.size w1 w2 := hA.trans (hb.mono hA.size)
  replace hB := hB.trans (hbb.mono hB.size)
  clear hb hbb hA  v1 l1
  go_wp2_with fail
  have hA := Below.refl w2.heap.size w2
  refine (sis_yes g1 (x) S1 N1 (by omega) (V1.out) hx).mono ?_
  rintro e w3 ⟨rfl, hb⟩
  have hbb : Below w2.heap.size w2 w3 := hA.trans (hb.mono hA.size)
  replace S1 := S1.below hb
  replace hB := hB.trans (hbb.mono hB.size)
  clear hb hbb hA  
  clear S1
  go_wp2_with fail
  have hA := Below.refl w3.heap.size w3
  refine (sof_any x hx _).mono ?_
  rintro e w4 ⟨g2, a2, c2, z2, rfl, S2, N2, v2, l2, hb⟩
  have V2 : Hid (sgn g2 (val z2) = x) := v2
  have b2 : z2.length ≤ 1 := by omega
  have hbb : Below w3.heap.size w3 w4 := hA.trans (hb.mono hA.size)
  replace hB := hB.trans (hbb.mono hB.size)
  clear hb hbb hA  v2 l2
  go_wp2_with fail
  have hA := Below.refl w4.heap.size w4
  refine (sof_any y hy _).mono ?_
  rintro e w5 ⟨g3, a3, c3, z3, rfl, S3, N3, v3, l3, hb⟩
  have V3 : Hid (sgn g3 (val z3) = y) := v3
  have b3 : z3.length ≤ 1 := by omega
  have hbb : Below w4.heap.size w4 w5 := hA.trans (hb.mono hA.size)
  replace S2 := S2.below hb
  replace hB := hB.trans (hbb.mono hB.size)
  clear hb hbb hA  v3 l3
  go_wp2_with fail
  have hA := Below.refl w5.heap.size w5
  have hc := scmp_any g2 g3 S2 S3 (by omega) (by omega)
  rw [V2.out, V3.out, cmpI_gt hxy] at hc
  refine (hc).mono ?_
  rintro e w6 ⟨rfl, hb⟩
  have hbb : Below w5.heap.size w5 w6 := hA.trans (hb.mono hA.size)
  replace S2 := S2.below hb
  replace S3 := S3.below hb
  replace hB := hB.trans (hbb.mono hB.size)
  clear hb hbb hA  hc
  clear S2 S3
  go_wp2_with fail
  have hA := Below.refl w6.heap.size w6
  refine (sof_any p (by omega) _).mono ?_
  rintro e w7 ⟨g4, a4, c4, z4, rfl, S4, N4, v4, l4, hb⟩
  have V4 : Hid (sgn g4 (val z4) = p) := v4
  have b4 : z4.length ≤ 1 := by omega
  have hbb : Below w6.heap.size w6 w7 := hA.trans (hb.mono hA.size)
  replace hB := hB.trans (hbb.mono hB.size)
  clear hb hbb hA  v4 l4
  go_wp2_with fail
  have hA := Below.refl w7.heap.size w7
  refine (sof_any q (by omega) _).mono ?_
  rintro e w8 ⟨g5, a5, c5, z5, rfl, S5, N5, v5, l5, hb⟩
  have V5 : Hid (sgn g5 (val z5) = q) := v5
  have b5 : z5.length ≤ 1 := by omega
  have hbb : Below w7.heap.size w7 w8 := hA.trans (hb.mono hA.size)
  replace S4 := S4.below hb
  replace hB := hB.trans (hbb.mono hB.size)
  clear hb hbb hA  v5 l5
  go_wp2_with fail
  have hA := Below.refl w8.heap.size w8
  refine (sadd_any g4 g5 S4 S5 (by omega) (by omega)).mono ?_
  rintro e w9 ⟨g6, a6, c6, z6, rfl, S6, N6, v6, l6, hb⟩
  have V6 : Hid (sgn g6 (val z6) = p + q) := by rw [Hid, v6, V4.out, V5.out]
  have b6 : z6.length ≤ 3 := by omega
  have hbb : Below w8.heap.size w8 w9 := hA.trans (hb.mono hA.size)
  replace S4 := S4.below hb
  replace S5 := S5.below hb
  replace hB := hB.trans (hbb.mono hB.size)
  clear hb hbb hA  v6 l6
  go_wp2_with fail
  have hA := Below.refl w9.heap.size w9
  refine (sis_yes g6 (p + q) S6 N6 (by omega) (V6.out) (by omega)).mono ?_
  rintro e w10 ⟨rfl, hb⟩
  have hbb : Below w9.heap.size w9 w10 := hA.trans (hb.mono hA.size)
  replace S4 := S4.below hb
  replace S5 := S5.below hb
  replace S6 := S6.below hb
  replace hB := hB.trans (hbb.mono hB.size)
  clear hb hbb hA  
  clear S4 S5 S6
  go_wp2_with fail
  have hA := Below.refl w10.heap.size w10
  refine (sof_any p (by omega) _).mono ?_
  rintro e w11 ⟨g7, a7, c7, z7, rfl, S7, N7, v7, l7, hb⟩
  have V7 : Hid (sgn g7 (val z7) = p) := v7
  have b7 : z7.length ≤ 1 := by omega
  have hbb : Below w10.heap.size w10 w11 := hA.trans (hb.mono hA.size)
  replace hB := hB.trans (hbb.mono hB.size)
  clear hb hbb hA  v7 l7
  go_wp2_with fail
  have hA := Below.refl w11.heap.size w11
  refine (sof_any q (by omega) _).mono ?_
  rintro e w12 ⟨g8, a8, c8, z8, rfl, S8, N8, v8, l8, hb⟩
  have V8 : Hid (sgn g8 (val z8) = q) := v8
  have b8 : z8.length ≤ 1 := by omega
  have hbb : Below w11.heap.size w11 w12 := hA.trans (hb.mono hA.size)
  replace S7 := S7.below hb
  replace hB := hB.trans (hbb.mono hB.size)
  clear hb hbb hA  v8 l8
  go_wp2_with fail
  have hA := Below.refl w12.heap.size w12
  refine (ssub_any g7 g8 S7 S8 (by omega) (by omega)).mono ?_
  rintro e w13 ⟨g9, a9, c9, z9, rfl, S9, N9, v9, l9, hb⟩
  have V9 : Hid (sgn g9 (val z9) = p - q) := by rw [Hid, v9, V7.out, V8.out]
  have b9 : z9.length ≤ 3 := by omega
  have hbb : Below w12.heap.size w12 w13 := hA.trans (hb.mono hA.size)
  replace S7 := S7.below hb
  replace S8 := S8.below hb
  replace hB := hB.trans (hbb.mono hB.size)
  clear hb hbb hA  v9 l9
  go_wp2_with fail
  have hA := Below.refl w13.heap.size w13
  refine (sis_yes g9 (p - q) S9 N9 (by omega) (V9.out) (by omega)).mono ?_
  rintro e w14 ⟨rfl, hb⟩
  have hbb : Below w13.heap.size w13 w14 := hA.trans (hb.mono hA.size)
  replace S7 := S7.below hb
  replace S8 := S8.below hb
  replace S9 := S9.below hb
  replace hB := hB.trans (hbb.mono hB.size)
  clear hb hbb hA  
  clear S7 S8 S9
  go_wp2_with fail
  have hA := Below.refl w14.heap.size w14
  refine (sof_any p (by omega) _).mono ?_
  rintro e w15 ⟨g10, a10, c10, z10, rfl, S10, N10, v10, l10, hb⟩
  have V10 : Hid (sgn g10 (val z10) = p) := v10
  have b10 : z10.length ≤ 1 := by omega
  have hbb : Below w14.heap.size w14 w15 := hA.trans (hb.mono hA.size)
  replace hB := hB.trans (hbb.mono hB.size)
  clear hb hbb hA  v10 l10
  go_wp2_with fail
  have hA := Below.refl w15.heap.size w15
  refine (sof_any q (by omega) _).mono ?_
  rintro e w16 ⟨g11, a11, c11, z11, rfl, S11, N11, v11, l11, hb⟩
  have V11 : Hid (sgn g11 (val z11) = q) := v11
  have b11 : z11.length ≤ 1 := by omega
  have hbb : Below w15.heap.size w15 w16 := hA.trans (hb.mono hA.size)
  replace S10 := S10.below hb
  replace hB := hB.trans (hbb.mono hB.size)
  clear hb hbb hA  v11 l11
  go_wp2_with fail
  have hA := Below.refl w16.heap.size w16
  refine (smul_any g10 g11 S10 S11 (by omega) (by omega)).mono ?_
  rintro e w17 ⟨g12, a12, c12, z12, rfl, S12, N12, v12, l12, hb⟩
  have V12 : Hid (sgn g12 (val z12) = p * q) := by rw [Hid, v12, V10.out, V11.out]
  have b12 : z12.length ≤ 3 := by omega
  have hbb : Below w16.heap.size w16 w17 := hA.trans (hb.mono hA.size)
  replace S10 := S10.below hb
  replace S11 := S11.below hb
  replace hB := hB.trans (hbb.mono hB.size)
  clear hb hbb hA  v12 l12
  go_wp2_with fail
  have hA := Below.refl w17.heap.size w17
  refine (sis_yes g12 (p * q) S12 N12 (by omega) (V12.out) hm.out).mono ?_
  rintro e w18 ⟨rfl, hb⟩
  have hbb : Below w17.heap.size w17 w18 := hA.trans (hb.mono hA.size)
  replace S10 := S10.below hb
  replace S11 := S11.below hb
  replace S12 := S12.below hb
  replace hB := hB.trans (hbb.mono hB.size)
  clear hb hbb hA  
  clear S10 S11 S12
  go_wp2
  go_ret
  exact ⟨rfl, hB⟩

set_option maxRecDepth 100000 in
set_option maxHeartbeats 1000000 in
theorem sints_eq (x : Int) (hx : -9223372036854775808 ≤ x ∧ x < 9223372036854775808) (w : World)  : Calls Try.prog 8 #[.int .i64 x, .int .i64 x] w fun e w' => e = .returned (.bool true) ∧ Below w.heap.size w w' := by
  have hB := Below.refl w.heap.size w
  obtain ⟨p, hp⟩ : ∃ p, x / 8589934592 = p := ⟨_, rfl⟩
  have bp : -1073741824 ≤ p ∧ p < 1073741824 := by omega
  have hm := hide (prod_small bp bp)
  have i1 : IntKind.i64.wrap (p + p) = p + p := by rw [IntKind.wrap_i64]; omega
  have i2 : IntKind.i64.wrap 0 = 0 := by decide
  have i4 : p - p = 0 := by omega
  have i3 : IntKind.i64.wrap (p * p) = p * p := by have := hm.out; rw [IntKind.wrap_i64]; omega
  go_enter Try.func8, Try.ntmps8
  go_wp2_with fail
  have hA := Below.refl w.heap.size w
  refine (sawake_any _).mono ?_
  rintro e w1 ⟨rfl, hb⟩
  have hbb : Below w.heap.size w w1 := hA.trans (hb.mono hA.size)
  replace hB := hB.trans (hbb.mono hB.size)
  clear hb hbb hA  
  go_wp2_with fail
  have hA := Below.refl w1.heap.size w1
  refine (sof_any x hx _).mono ?_
  rintro e w2 ⟨g1, a1, c1, z1, rfl, S1, N1, v1, l1, hb⟩
  have V1 : Hid (sgn g1 (val z1) = x) := v1
  have b1 : z1.length ≤ 1 := by omega
  have hbb : Below w1.heap.size w1 w2 := hA.trans (hb.mono hA.size)
  replace hB := hB.trans (hbb.mono hB.size)
  clear hb hbb hA  v1 l1
  go_wp2_with fail
  have hA := Below.refl w2.heap.size w2
  refine (sis_yes g1 (x) S1 N1 (by omega) (V1.out) hx).mono ?_
  rintro e w3 ⟨rfl, hb⟩
  have hbb : Below w2.heap.size w2 w3 := hA.trans (hb.mono hA.size)
  replace S1 := S1.below hb
  replace hB := hB.trans (hbb.mono hB.size)
  clear hb hbb hA  
  clear S1
  go_wp2_with fail
  have hA := Below.refl w3.heap.size w3
  refine (sof_any x hx _).mono ?_
  rintro e w4 ⟨g2, a2, c2, z2, rfl, S2, N2, v2, l2, hb⟩
  have V2 : Hid (sgn g2 (val z2) = x) := v2
  have b2 : z2.length ≤ 1 := by omega
  have hbb : Below w3.heap.size w3 w4 := hA.trans (hb.mono hA.size)
  replace hB := hB.trans (hbb.mono hB.size)
  clear hb hbb hA  v2 l2
  go_wp2_with fail
  have hA := Below.refl w4.heap.size w4
  refine (sof_any x hx _).mono ?_
  rintro e w5 ⟨g3, a3, c3, z3, rfl, S3, N3, v3, l3, hb⟩
  have V3 : Hid (sgn g3 (val z3) = x) := v3
  have b3 : z3.length ≤ 1 := by omega
  have hbb : Below w4.heap.size w4 w5 := hA.trans (hb.mono hA.size)
  replace S2 := S2.below hb
  replace hB := hB.trans (hbb.mono hB.size)
  clear hb hbb hA  v3 l3
  go_wp2_with fail
  have hA := Below.refl w5.heap.size w5
  have hc := scmp_any g2 g3 S2 S3 (by omega) (by omega)
  rw [V2.out, V3.out, cmpI_eq] at hc
  refine (hc).mono ?_
  rintro e w6 ⟨rfl, hb⟩
  have hbb : Below w5.heap.size w5 w6 := hA.trans (hb.mono hA.size)
  replace S2 := S2.below hb
  replace S3 := S3.below hb
  replace hB := hB.trans (hbb.mono hB.size)
  clear hb hbb hA  hc
  clear S2 S3
  go_wp2_with fail
  have hA := Below.refl w6.heap.size w6
  refine (sof_any p (by omega) _).mono ?_
  rintro e w7 ⟨g4, a4, c4, z4, rfl, S4, N4, v4, l4, hb⟩
  have V4 : Hid (sgn g4 (val z4) = p) := v4
  have b4 : z4.length ≤ 1 := by omega
  have hbb : Below w6.heap.size w6 w7 := hA.trans (hb.mono hA.size)
  replace hB := hB.trans (hbb.mono hB.size)
  clear hb hbb hA  v4 l4
  go_wp2_with fail
  have hA := Below.refl w7.heap.size w7
  refine (sof_any p (by omega) _).mono ?_
  rintro e w8 ⟨g5, a5, c5, z5, rfl, S5, N5, v5, l5, hb⟩
  have V5 : Hid (sgn g5 (val z5) = p) := v5
  have b5 : z5.length ≤ 1 := by omega
  have hbb : Below w7.heap.size w7 w8 := hA.trans (hb.mono hA.size)
  replace S4 := S4.below hb
  replace hB := hB.trans (hbb.mono hB.size)
  clear hb hbb hA  v5 l5
  go_wp2_with fail
  have hA := Below.refl w8.heap.size w8
  refine (sadd_any g4 g5 S4 S5 (by omega) (by omega)).mono ?_
  rintro e w9 ⟨g6, a6, c6, z6, rfl, S6, N6, v6, l6, hb⟩
  have V6 : Hid (sgn g6 (val z6) = p + p) := by rw [Hid, v6, V4.out, V5.out]
  have b6 : z6.length ≤ 3 := by omega
  have hbb : Below w8.heap.size w8 w9 := hA.trans (hb.mono hA.size)
  replace S4 := S4.below hb
  replace S5 := S5.below hb
  replace hB := hB.trans (hbb.mono hB.size)
  clear hb hbb hA  v6 l6
  go_wp2_with fail
  have hA := Below.refl w9.heap.size w9
  refine (sis_yes g6 (p + p) S6 N6 (by omega) (V6.out) (by omega)).mono ?_
  rintro e w10 ⟨rfl, hb⟩
  have hbb : Below w9.heap.size w9 w10 := hA.trans (hb.mono hA.size)
  replace S4 := S4.below hb
  replace S5 := S5.below hb
  replace S6 := S6.below hb
  replace hB := hB.trans (hbb.mono hB.size)
  clear hb hbb hA  
  clear S4 S5 S6
  go_wp2_with fail
  have hA := Below.refl w10.heap.size w10
  refine (sof_any p (by omega) _).mono ?_
  rintro e w11 ⟨g7, a7, c7, z7, rfl, S7, N7, v7, l7, hb⟩
  have V7 : Hid (sgn g7 (val z7) = p) := v7
  have b7 : z7.length ≤ 1 := by omega
  have hbb : Below w10.heap.size w10 w11 := hA.trans (hb.mono hA.size)
  replace hB := hB.trans (hbb.mono hB.size)
  clear hb hbb hA  v7 l7
  go_wp2_with fail
  have hA := Below.refl w11.heap.size w11
  refine (sof_any p (by omega) _).mono ?_
  rintro e w12 ⟨g8, a8, c8, z8, rfl, S8, N8, v8, l8, hb⟩
  have V8 : Hid (sgn g8 (val z8) = p) := v8
  have b8 : z8.length ≤ 1 := by omega
  have hbb : Below w11.heap.size w11 w12 := hA.trans (hb.mono hA.size)
  replace S7 := S7.below hb
  replace hB := hB.trans (hbb.mono hB.size)
  clear hb hbb hA  v8 l8
  go_wp2_with fail
  have hA := Below.refl w12.heap.size w12
  refine (ssub_any g7 g8 S7 S8 (by omega) (by omega)).mono ?_
  rintro e w13 ⟨g9, a9, c9, z9, rfl, S9, N9, v9, l9, hb⟩
  have V9 : Hid (sgn g9 (val z9) = p - p) := by rw [Hid, v9, V7.out, V8.out]
  have b9 : z9.length ≤ 3 := by omega
  have hbb : Below w12.heap.size w12 w13 := hA.trans (hb.mono hA.size)
  replace S7 := S7.below hb
  replace S8 := S8.below hb
  replace hB := hB.trans (hbb.mono hB.size)
  clear hb hbb hA  v9 l9
  go_wp2_with fail
  have hA := Below.refl w13.heap.size w13
  refine (sis_yes g9 0 S9 N9 (by omega) (by rw [V9.out]; omega) (by decide)).mono ?_
  rintro e w14 ⟨rfl, hb⟩
  have hbb : Below w13.heap.size w13 w14 := hA.trans (hb.mono hA.size)
  replace S7 := S7.below hb
  replace S8 := S8.below hb
  replace S9 := S9.below hb
  replace hB := hB.trans (hbb.mono hB.size)
  clear hb hbb hA  
  clear S7 S8 S9
  go_wp2_with fail
  have hA := Below.refl w14.heap.size w14
  refine (sof_any p (by omega) _).mono ?_
  rintro e w15 ⟨g10, a10, c10, z10, rfl, S10, N10, v10, l10, hb⟩
  have V10 : Hid (sgn g10 (val z10) = p) := v10
  have b10 : z10.length ≤ 1 := by omega
  have hbb : Below w14.heap.size w14 w15 := hA.trans (hb.mono hA.size)
  replace hB := hB.trans (hbb.mono hB.size)
  clear hb hbb hA  v10 l10
  go_wp2_with fail
  have hA := Below.refl w15.heap.size w15
  refine (sof_any p (by omega) _).mono ?_
  rintro e w16 ⟨g11, a11, c11, z11, rfl, S11, N11, v11, l11, hb⟩
  have V11 : Hid (sgn g11 (val z11) = p) := v11
  have b11 : z11.length ≤ 1 := by omega
  have hbb : Below w15.heap.size w15 w16 := hA.trans (hb.mono hA.size)
  replace S10 := S10.below hb
  replace hB := hB.trans (hbb.mono hB.size)
  clear hb hbb hA  v11 l11
  go_wp2_with fail
  have hA := Below.refl w16.heap.size w16
  refine (smul_any g10 g11 S10 S11 (by omega) (by omega)).mono ?_
  rintro e w17 ⟨g12, a12, c12, z12, rfl, S12, N12, v12, l12, hb⟩
  have V12 : Hid (sgn g12 (val z12) = p * p) := by rw [Hid, v12, V10.out, V11.out]
  have b12 : z12.length ≤ 3 := by omega
  have hbb : Below w16.heap.size w16 w17 := hA.trans (hb.mono hA.size)
  replace S10 := S10.below hb
  replace S11 := S11.below hb
  replace hB := hB.trans (hbb.mono hB.size)
  clear hb hbb hA  v12 l12
  go_wp2_with fail
  have hA := Below.refl w17.heap.size w17
  refine (sis_yes g12 (p * p) S12 N12 (by omega) (V12.out) hm.out).mono ?_
  rintro e w18 ⟨rfl, hb⟩
  have hbb : Below w17.heap.size w17 w18 := hA.trans (hb.mono hA.size)
  replace S10 := S10.below hb
  replace S11 := S11.below hb
  replace S12 := S12.below hb
  replace hB := hB.trans (hbb.mono hB.size)
  clear hb hbb hA  
  clear S10 S11 S12
  go_wp2
  go_ret
  exact ⟨rfl, hB⟩

/-- SignedInts. -/
theorem sints_any (x : Int) (hx : -9223372036854775808 ≤ x ∧ x ≤ 9223372036854775807) (y : Int) (hy : -9223372036854775808 ≤ y ∧ y ≤ 9223372036854775807) (w : World) : Calls Try.prog 8 #[.int .i64 x, .int .i64 y] w fun e w' => e = .returned (.bool true) ∧ Below w.heap.size w w' := by
  rcases Int.lt_trichotomy x y with h | h | h
  · exact sints_lt x y (by omega) (by omega) w h
  · subst h; exact sints_eq x (by omega) w
  · exact sints_gt x y (by omega) (by omega) w h
end Go.Proofs.Ytjoakmhebcfeaaa
