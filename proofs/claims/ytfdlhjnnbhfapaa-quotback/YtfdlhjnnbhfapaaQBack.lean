/-
  The walk of QuotBack.
-/
import Derived.Test.YtfdlhjnnbhfapaaQKnown
namespace Go.Proofs.Ytfdlhjnnbhfapaa
open Go.RowKit

set_option maxHeartbeats 400000 in
/-- long(a, b). -/
theorem qlong_any (a b : Option Addr) (la ca lb cb : Nat) (w : World) : Calls Try.prog 9 #[.slice a la ca, .slice b lb cb] w fun e w' => e = .returned (.bool (decide (24 < la ∨ 24 < lb))) ∧ w' = w := by
  have h1 := longNat_any a la ca 24 w
  have h2 := longNat_any b lb cb 24 w
  by_cases hl : 24 < la
  · rw [decide_eq_true (show (24 : Int) < (la : Int) by omega)] at h1
    rw [decide_eq_true (Or.inl hl)]
    clear hl
    go_enter Try.func9, Try.ntmps9
    go_wp2_with fail
    refine h1.mono ?_
    rintro e w' ⟨rfl, rfl⟩
    go_wp2
    go_ret
    exact ⟨rfl, rfl⟩
  · rw [decide_eq_false (show ¬ (24 : Int) < (la : Int) by omega)] at h1
    have e : decide (24 < la ∨ 24 < lb) = decide ((24 : Int) < (lb : Int)) := by simp [hl]; omega
    rw [e]
    clear hl e
    generalize decide ((24 : Int) < (lb : Int)) = t at *
    go_enter Try.func9, Try.ntmps9
    go_wp2_with fail
    refine h1.mono ?_
    rintro e w' ⟨rfl, rfl⟩
    go_wp2_with fail
    refine h2.mono ?_
    rintro e w' ⟨rfl, rfl⟩
    go_wp2
    go_ret
    exact ⟨rfl, rfl⟩

set_option maxRecDepth 100000 in
set_option maxHeartbeats 1000000 in
/-- Where a list is long. -/
theorem back_long (a b : Option Addr) (la ca lb cb : Nat) (x : Int) (w : World) (h : 24 < la ∨ 24 < lb) :
    Calls Try.prog 6 #[.slice a la ca, .slice b lb cb, .int .u64 x] w fun e w' => e = .returned (.bool true) ∧ Below w.heap.size w w' := by
  have l1 := fun w => qlong_any a b la ca lb cb w
  rw [decide_eq_true h] at l1
  clear h
  have L1 := hide l1
  clear l1
  go_enter Try.func6, Try.ntmps6
  go_wp2_with fail
  refine (known_any w).mono ?_
  rintro e w1 ⟨rfl, hb1⟩
  go_wp2_with fail
  refine (L1.out _).mono ?_
  rintro e w2 ⟨rfl, rfl⟩
  go_wp2
  go_ret
  exact ⟨rfl, hb1⟩

set_option maxRecDepth 100000 in
set_option maxHeartbeats 4000000 in
theorem back_00 {a b : Option Addr} {ca cb : Nat} {xs ys : List Int} {w : World} (A : Seg 0 w (.slice a xs.length ca) xs) (B : Seg 0 w (.slice b ys.length cb) ys) (hx : xs.length ≤ 24) (hy : ys.length ≤ 24) (x : Int) (hb0 : Hid (0 < val ys)) (hx0 : 0 < x ∧ x < 18446744073709551616) :
    Calls Try.prog 6 #[.slice a xs.length ca, .slice b ys.length cb, .int .u64 x] w fun e w' => e = .returned (.bool true) ∧ Below w.heap.size w w' := by
  have l1 := fun w => qlong_any a b xs.length ca ys.length cb w
  rw [decide_eq_false (show ¬ (24 < xs.length ∨ 24 < ys.length) by omega)] at l1
  have L1 := hide l1
  clear l1
  have hB := Below.refl w.heap.size w
  go_enter Try.func6, Try.ntmps6
  go_wp2_with fail
  have hA := Below.refl w.heap.size w
  refine (known_any _).mono ?_
  rintro e w1 ⟨rfl, hb⟩
  have hbb : Below w.heap.size w w1 := hA.trans (hb.mono hA.size)
  replace A := A.below hb
  replace B := B.below hb
  replace hB := hB.trans (hbb.mono hB.size)
  clear hb hbb hA  
  go_wp2_with fail
  have hA := Below.refl w1.heap.size w1
  refine (L1.out _).mono ?_
  rintro e w2 ⟨rfl, hw⟩
  have hb := hw_below hw
  clear hw
  have hbb : Below w1.heap.size w1 w2 := hA.trans (hb.mono hA.size)
  replace A := A.below hb
  replace B := B.below hb
  replace hB := hB.trans (hbb.mono hB.size)
  clear hb hbb hA  
  go_wp2_with fail
  have hA := Below.refl w2.heap.size w2
  refine (qdiv_yes A B (by omega) (by omega) hb0.out).mono ?_
  rintro e w3 ⟨a1, a2, c1, c2, z1, z2, rfl, S1, S2, N1, N2, v1, v2, l1, l2, hb⟩
  have V1 : Hid (val z1 = val xs / val ys) := v1
  have V2 : Hid (val z2 = val xs % val ys) := v2
  have b1 : z1.length ≤ 24 := by omega
  have b2 : z2.length ≤ 24 := by omega
  have hbb : Below w2.heap.size w2 w3 := hA.trans (hb.mono hA.size)
  replace A := A.below hb
  replace B := B.below hb
  replace hB := hB.trans (hbb.mono hB.size)
  clear hb hbb hA  v1 v2 l1 l2
  go_wp2_with fail
  have hA := Below.refl w3.heap.size w3
  refine (trim_any B (by omega)).mono ?_
  rintro e w4 ⟨a3, c3, z3, rfl, S3, N3, v3, l3, hb⟩
  have V3 : Hid (val z3 = val ys) := v3
  have b3 : z3.length ≤ 24 := by omega
  have hbb : Below w3.heap.size w3 w4 := hA.trans (hb.mono hA.size)
  replace A := A.below hb
  replace B := B.below hb
  replace S1 := S1.below hb
  replace S2 := S2.below hb
  replace hB := hB.trans (hbb.mono hB.size)
  clear hb hbb hA  v3 l3
  have hz3 : ((z3.length : Int) == 0) = false := by rw [len_zero S3.words N3, V3.out]; exact decide_eq_false (by have := hb0.out; omega)
  go_wp2_with fail
  have hA := Below.refl w4.heap.size w4
  have hc := cmp_any S2 B (by omega) (by omega)
  rw [V2.out, cmpI_lt (Int.emod_lt_of_pos _ hb0.out)] at hc
  refine (hc).mono ?_
  rintro e w5 ⟨rfl, hb⟩
  have hbb : Below w4.heap.size w4 w5 := hA.trans (hb.mono hA.size)
  replace A := A.below hb
  replace B := B.below hb
  replace S1 := S1.below hb
  replace S2 := S2.below hb
  replace S3 := S3.below hb
  replace hB := hB.trans (hbb.mono hB.size)
  clear hb hbb hA  hc
  go_wp2_with fail
  have hA := Below.refl w5.heap.size w5
  refine (school_any S1 B (by omega) (by omega)).mono ?_
  rintro e w6 ⟨a4, c4, z4, rfl, S4, N4, v4, l4, hb⟩
  have V4 : Hid (val z4 = val xs / val ys * val ys) := by rw [Hid, v4, V1.out]
  have b4 : z4.length ≤ 48 := by omega
  have hbb : Below w5.heap.size w5 w6 := hA.trans (hb.mono hA.size)
  replace A := A.below hb
  replace B := B.below hb
  replace S1 := S1.below hb
  replace S2 := S2.below hb
  replace S3 := S3.below hb
  replace hB := hB.trans (hbb.mono hB.size)
  clear hb hbb hA  v4 l4
  go_wp2_with fail
  have hA := Below.refl w6.heap.size w6
  refine (add_any S4 S2 (by omega) (by omega)).mono ?_
  rintro e w7 ⟨a5, c5, z5, rfl, S5, N5, v5, l5, hb⟩
  have V5 : Hid (val z5 = val xs) := by rw [Hid, v5, V4.out, V2.out]; exact Int.ediv_mul_add_emod _ _
  have b5 : z5.length ≤ 49 := by omega
  have hbb : Below w6.heap.size w6 w7 := hA.trans (hb.mono hA.size)
  replace A := A.below hb
  replace B := B.below hb
  replace S1 := S1.below hb
  replace S2 := S2.below hb
  replace S3 := S3.below hb
  replace S4 := S4.below hb
  replace hB := hB.trans (hbb.mono hB.size)
  clear hb hbb hA  v5 l5
  go_wp2_with fail
  have hA := Below.refl w7.heap.size w7
  refine (trim_any A (by omega)).mono ?_
  rintro e w8 ⟨a6, c6, z6, rfl, S6, N6, v6, l6, hb⟩
  have V6 : Hid (val z6 = val xs) := v6
  have b6 : z6.length ≤ 24 := by omega
  have hbb : Below w7.heap.size w7 w8 := hA.trans (hb.mono hA.size)
  replace A := A.below hb
  replace B := B.below hb
  replace S1 := S1.below hb
  replace S2 := S2.below hb
  replace S3 := S3.below hb
  replace S4 := S4.below hb
  replace S5 := S5.below hb
  replace hB := hB.trans (hbb.mono hB.size)
  clear hb hbb hA  v6 l6
  go_wp2_with fail
  have hA := Below.refl w8.heap.size w8
  refine (same_len S5 S6 (norm_unique S5.words S6.words N5 N6 (by rw [V5.out, V6.out])) (by omega)).mono ?_
  rintro e w9 ⟨rfl, hb⟩
  have hbb : Below w8.heap.size w8 w9 := hA.trans (hb.mono hA.size)
  replace A := A.below hb
  replace B := B.below hb
  replace S1 := S1.below hb
  replace S2 := S2.below hb
  replace S3 := S3.below hb
  replace S4 := S4.below hb
  replace S5 := S5.below hb
  replace S6 := S6.below hb
  replace hB := hB.trans (hbb.mono hB.size)
  clear hb hbb hA  
  go_wp2_with fail
  have hA := Below.refl w9.heap.size w9
  refine (qpart_yes A (by omega) x hx0).mono ?_
  rintro e w10 ⟨a7, c7, z7, rfl, S7, N7, v7, l7, hb⟩
  have V7 : Hid (val z7 = val xs / x) := v7
  have b7 : z7.length ≤ 24 := by omega
  have HM := hide (Int.emod_lt_of_pos (val xs) hx0.1)
  have HM0 := hide (Int.emod_nonneg (val xs) (show x ≠ 0 by omega))
  have hbb : Below w9.heap.size w9 w10 := hA.trans (hb.mono hA.size)
  replace A := A.below hb
  replace B := B.below hb
  replace S1 := S1.below hb
  replace S2 := S2.below hb
  replace S3 := S3.below hb
  replace S4 := S4.below hb
  replace S5 := S5.below hb
  replace S6 := S6.below hb
  replace hB := hB.trans (hbb.mono hB.size)
  clear hb hbb hA  v7 l7
  have hxz : (x == 0) = false := beq_eq_false_iff_ne.2 (by omega)
  obtain ⟨m, hm⟩ : ∃ m, val xs % x = m := ⟨_, rfl⟩
  have HMM := hide hm
  rw [hm]
  have hm1 : m < x := by rw [← hm]; exact HM.out
  have hm0 : 0 ≤ m := by rw [← hm]; exact HM0.out
  clear hm
  go_wp2_with fail
  have hA := Below.refl w10.heap.size w10
  refine (of_any x ⟨by omega, hx0.2⟩ _).mono ?_
  rintro e w11 ⟨a8, c8, z8, rfl, S8, N8, v8, l8, hb⟩
  have V8 : Hid (val z8 = x) := v8
  have b8 : z8.length ≤ 1 := by omega
  have hbb : Below w10.heap.size w10 w11 := hA.trans (hb.mono hA.size)
  replace A := A.below hb
  replace B := B.below hb
  replace S1 := S1.below hb
  replace S2 := S2.below hb
  replace S3 := S3.below hb
  replace S4 := S4.below hb
  replace S5 := S5.below hb
  replace S6 := S6.below hb
  replace S7 := S7.below hb
  replace hB := hB.trans (hbb.mono hB.size)
  clear hb hbb hA  v8 l8
  go_wp2_with fail
  have hA := Below.refl w11.heap.size w11
  refine (school_any S7 S8 (by omega) (by omega)).mono ?_
  rintro e w12 ⟨a9, c9, z9, rfl, S9, N9, v9, l9, hb⟩
  have V9 : Hid (val z9 = val xs / x * x) := by rw [Hid, v9, V7.out, V8.out]
  have b9 : z9.length ≤ 25 := by omega
  have hbb : Below w11.heap.size w11 w12 := hA.trans (hb.mono hA.size)
  replace A := A.below hb
  replace B := B.below hb
  replace S1 := S1.below hb
  replace S2 := S2.below hb
  replace S3 := S3.below hb
  replace S4 := S4.below hb
  replace S5 := S5.below hb
  replace S6 := S6.below hb
  replace S7 := S7.below hb
  replace S8 := S8.below hb
  replace hB := hB.trans (hbb.mono hB.size)
  clear hb hbb hA  v9 l9
  go_wp2_with fail
  have hA := Below.refl w12.heap.size w12
  refine (of_any m ⟨hm0, by omega⟩ _).mono ?_
  rintro e w13 ⟨a10, c10, z10, rfl, S10, N10, v10, l10, hb⟩
  have V10 : Hid (val z10 = m) := v10
  have b10 : z10.length ≤ 1 := by omega
  have hbb : Below w12.heap.size w12 w13 := hA.trans (hb.mono hA.size)
  replace A := A.below hb
  replace B := B.below hb
  replace S1 := S1.below hb
  replace S2 := S2.below hb
  replace S3 := S3.below hb
  replace S4 := S4.below hb
  replace S5 := S5.below hb
  replace S6 := S6.below hb
  replace S7 := S7.below hb
  replace S8 := S8.below hb
  replace S9 := S9.below hb
  replace hB := hB.trans (hbb.mono hB.size)
  clear hb hbb hA  v10 l10
  go_wp2_with fail
  have hA := Below.refl w13.heap.size w13
  refine (add_any S9 S10 (by omega) (by omega)).mono ?_
  rintro e w14 ⟨a11, c11, z11, rfl, S11, N11, v11, l11, hb⟩
  have V11 : Hid (val z11 = val xs) := by rw [Hid, v11, V9.out, V10.out, ← HMM.out]; exact Int.ediv_mul_add_emod _ _
  have b11 : z11.length ≤ 26 := by omega
  have hbb : Below w13.heap.size w13 w14 := hA.trans (hb.mono hA.size)
  replace A := A.below hb
  replace B := B.below hb
  replace S1 := S1.below hb
  replace S2 := S2.below hb
  replace S3 := S3.below hb
  replace S4 := S4.below hb
  replace S5 := S5.below hb
  replace S6 := S6.below hb
  replace S7 := S7.below hb
  replace S8 := S8.below hb
  replace S9 := S9.below hb
  replace S10 := S10.below hb
  replace hB := hB.trans (hbb.mono hB.size)
  clear hb hbb hA  v11 l11
  go_wp2_with fail
  have hA := Below.refl w14.heap.size w14
  refine (trim_any A (by omega)).mono ?_
  rintro e w15 ⟨a12, c12, z12, rfl, S12, N12, v12, l12, hb⟩
  have V12 : Hid (val z12 = val xs) := v12
  have b12 : z12.length ≤ 24 := by omega
  have hbb : Below w14.heap.size w14 w15 := hA.trans (hb.mono hA.size)
  replace A := A.below hb
  replace B := B.below hb
  replace S1 := S1.below hb
  replace S2 := S2.below hb
  replace S3 := S3.below hb
  replace S4 := S4.below hb
  replace S5 := S5.below hb
  replace S6 := S6.below hb
  replace S7 := S7.below hb
  replace S8 := S8.below hb
  replace S9 := S9.below hb
  replace S10 := S10.below hb
  replace S11 := S11.below hb
  replace hB := hB.trans (hbb.mono hB.size)
  clear hb hbb hA  v12 l12
  go_wp2_with fail
  have hA := Below.refl w15.heap.size w15
  refine (same_len S11 S12 (norm_unique S11.words S12.words N11 N12 (by rw [V11.out, V12.out])) (by omega)).mono ?_
  rintro e w16 ⟨rfl, hb⟩
  have hbb : Below w15.heap.size w15 w16 := hA.trans (hb.mono hA.size)
  replace A := A.below hb
  replace B := B.below hb
  replace S1 := S1.below hb
  replace S2 := S2.below hb
  replace S3 := S3.below hb
  replace S4 := S4.below hb
  replace S5 := S5.below hb
  replace S6 := S6.below hb
  replace S7 := S7.below hb
  replace S8 := S8.below hb
  replace S9 := S9.below hb
  replace S10 := S10.below hb
  replace S11 := S11.below hb
  replace S12 := S12.below hb
  replace hB := hB.trans (hbb.mono hB.size)
  clear hb hbb hA  
  go_wp2
  go_ret
  exact ⟨rfl, hB⟩

set_option maxRecDepth 100000 in
set_option maxHeartbeats 4000000 in
theorem back_01 {a b : Option Addr} {ca cb : Nat} {xs ys : List Int} {w : World} (A : Seg 0 w (.slice a xs.length ca) xs) (B : Seg 0 w (.slice b ys.length cb) ys) (hx : xs.length ≤ 24) (hy : ys.length ≤ 24) (hb0 : Hid (0 < val ys)) :
    Calls Try.prog 6 #[.slice a xs.length ca, .slice b ys.length cb, .int .u64 0] w fun e w' => e = .returned (.bool true) ∧ Below w.heap.size w w' := by
  have l1 := fun w => qlong_any a b xs.length ca ys.length cb w
  rw [decide_eq_false (show ¬ (24 < xs.length ∨ 24 < ys.length) by omega)] at l1
  have L1 := hide l1
  clear l1
  have hB := Below.refl w.heap.size w
  go_enter Try.func6, Try.ntmps6
  go_wp2_with fail
  have hA := Below.refl w.heap.size w
  refine (known_any _).mono ?_
  rintro e w1 ⟨rfl, hb⟩
  have hbb : Below w.heap.size w w1 := hA.trans (hb.mono hA.size)
  replace A := A.below hb
  replace B := B.below hb
  replace hB := hB.trans (hbb.mono hB.size)
  clear hb hbb hA  
  go_wp2_with fail
  have hA := Below.refl w1.heap.size w1
  refine (L1.out _).mono ?_
  rintro e w2 ⟨rfl, hw⟩
  have hb := hw_below hw
  clear hw
  have hbb : Below w1.heap.size w1 w2 := hA.trans (hb.mono hA.size)
  replace A := A.below hb
  replace B := B.below hb
  replace hB := hB.trans (hbb.mono hB.size)
  clear hb hbb hA  
  go_wp2_with fail
  have hA := Below.refl w2.heap.size w2
  refine (qdiv_yes A B (by omega) (by omega) hb0.out).mono ?_
  rintro e w3 ⟨a1, a2, c1, c2, z1, z2, rfl, S1, S2, N1, N2, v1, v2, l1, l2, hb⟩
  have V1 : Hid (val z1 = val xs / val ys) := v1
  have V2 : Hid (val z2 = val xs % val ys) := v2
  have b1 : z1.length ≤ 24 := by omega
  have b2 : z2.length ≤ 24 := by omega
  have hbb : Below w2.heap.size w2 w3 := hA.trans (hb.mono hA.size)
  replace A := A.below hb
  replace B := B.below hb
  replace hB := hB.trans (hbb.mono hB.size)
  clear hb hbb hA  v1 v2 l1 l2
  go_wp2_with fail
  have hA := Below.refl w3.heap.size w3
  refine (trim_any B (by omega)).mono ?_
  rintro e w4 ⟨a3, c3, z3, rfl, S3, N3, v3, l3, hb⟩
  have V3 : Hid (val z3 = val ys) := v3
  have b3 : z3.length ≤ 24 := by omega
  have hbb : Below w3.heap.size w3 w4 := hA.trans (hb.mono hA.size)
  replace A := A.below hb
  replace B := B.below hb
  replace S1 := S1.below hb
  replace S2 := S2.below hb
  replace hB := hB.trans (hbb.mono hB.size)
  clear hb hbb hA  v3 l3
  have hz3 : ((z3.length : Int) == 0) = false := by rw [len_zero S3.words N3, V3.out]; exact decide_eq_false (by have := hb0.out; omega)
  go_wp2_with fail
  have hA := Below.refl w4.heap.size w4
  have hc := cmp_any S2 B (by omega) (by omega)
  rw [V2.out, cmpI_lt (Int.emod_lt_of_pos _ hb0.out)] at hc
  refine (hc).mono ?_
  rintro e w5 ⟨rfl, hb⟩
  have hbb : Below w4.heap.size w4 w5 := hA.trans (hb.mono hA.size)
  replace A := A.below hb
  replace B := B.below hb
  replace S1 := S1.below hb
  replace S2 := S2.below hb
  replace S3 := S3.below hb
  replace hB := hB.trans (hbb.mono hB.size)
  clear hb hbb hA  hc
  go_wp2_with fail
  have hA := Below.refl w5.heap.size w5
  refine (school_any S1 B (by omega) (by omega)).mono ?_
  rintro e w6 ⟨a4, c4, z4, rfl, S4, N4, v4, l4, hb⟩
  have V4 : Hid (val z4 = val xs / val ys * val ys) := by rw [Hid, v4, V1.out]
  have b4 : z4.length ≤ 48 := by omega
  have hbb : Below w5.heap.size w5 w6 := hA.trans (hb.mono hA.size)
  replace A := A.below hb
  replace B := B.below hb
  replace S1 := S1.below hb
  replace S2 := S2.below hb
  replace S3 := S3.below hb
  replace hB := hB.trans (hbb.mono hB.size)
  clear hb hbb hA  v4 l4
  go_wp2_with fail
  have hA := Below.refl w6.heap.size w6
  refine (add_any S4 S2 (by omega) (by omega)).mono ?_
  rintro e w7 ⟨a5, c5, z5, rfl, S5, N5, v5, l5, hb⟩
  have V5 : Hid (val z5 = val xs) := by rw [Hid, v5, V4.out, V2.out]; exact Int.ediv_mul_add_emod _ _
  have b5 : z5.length ≤ 49 := by omega
  have hbb : Below w6.heap.size w6 w7 := hA.trans (hb.mono hA.size)
  replace A := A.below hb
  replace B := B.below hb
  replace S1 := S1.below hb
  replace S2 := S2.below hb
  replace S3 := S3.below hb
  replace S4 := S4.below hb
  replace hB := hB.trans (hbb.mono hB.size)
  clear hb hbb hA  v5 l5
  go_wp2_with fail
  have hA := Below.refl w7.heap.size w7
  refine (trim_any A (by omega)).mono ?_
  rintro e w8 ⟨a6, c6, z6, rfl, S6, N6, v6, l6, hb⟩
  have V6 : Hid (val z6 = val xs) := v6
  have b6 : z6.length ≤ 24 := by omega
  have hbb : Below w7.heap.size w7 w8 := hA.trans (hb.mono hA.size)
  replace A := A.below hb
  replace B := B.below hb
  replace S1 := S1.below hb
  replace S2 := S2.below hb
  replace S3 := S3.below hb
  replace S4 := S4.below hb
  replace S5 := S5.below hb
  replace hB := hB.trans (hbb.mono hB.size)
  clear hb hbb hA  v6 l6
  go_wp2_with fail
  have hA := Below.refl w8.heap.size w8
  refine (same_len S5 S6 (norm_unique S5.words S6.words N5 N6 (by rw [V5.out, V6.out])) (by omega)).mono ?_
  rintro e w9 ⟨rfl, hb⟩
  have hbb : Below w8.heap.size w8 w9 := hA.trans (hb.mono hA.size)
  replace A := A.below hb
  replace B := B.below hb
  replace S1 := S1.below hb
  replace S2 := S2.below hb
  replace S3 := S3.below hb
  replace S4 := S4.below hb
  replace S5 := S5.below hb
  replace S6 := S6.below hb
  replace hB := hB.trans (hbb.mono hB.size)
  clear hb hbb hA  
  go_wp2_with fail
  have hA := Below.refl w9.heap.size w9
  refine (qpart_zero A (by omega)).mono ?_
  rintro e w10 ⟨a7, c7, rfl, hb⟩
  have hbb : Below w9.heap.size w9 w10 := hA.trans (hb.mono hA.size)
  replace A := A.below hb
  replace B := B.below hb
  replace S1 := S1.below hb
  replace S2 := S2.below hb
  replace S3 := S3.below hb
  replace S4 := S4.below hb
  replace S5 := S5.below hb
  replace S6 := S6.below hb
  replace hB := hB.trans (hbb.mono hB.size)
  clear hb hbb hA  
  go_wp2
  go_ret
  exact ⟨rfl, hB⟩

set_option maxRecDepth 100000 in
set_option maxHeartbeats 4000000 in
theorem back_10 {a b : Option Addr} {ca cb : Nat} {xs ys : List Int} {w : World} (A : Seg 0 w (.slice a xs.length ca) xs) (B : Seg 0 w (.slice b ys.length cb) ys) (hx : xs.length ≤ 24) (hy : ys.length ≤ 24) (x : Int) (hb0 : Hid (val ys = 0)) (hx0 : 0 < x ∧ x < 18446744073709551616) :
    Calls Try.prog 6 #[.slice a xs.length ca, .slice b ys.length cb, .int .u64 x] w fun e w' => e = .returned (.bool true) ∧ Below w.heap.size w w' := by
  have l1 := fun w => qlong_any a b xs.length ca ys.length cb w
  rw [decide_eq_false (show ¬ (24 < xs.length ∨ 24 < ys.length) by omega)] at l1
  have L1 := hide l1
  clear l1
  have hB := Below.refl w.heap.size w
  go_enter Try.func6, Try.ntmps6
  go_wp2_with fail
  have hA := Below.refl w.heap.size w
  refine (known_any _).mono ?_
  rintro e w1 ⟨rfl, hb⟩
  have hbb : Below w.heap.size w w1 := hA.trans (hb.mono hA.size)
  replace A := A.below hb
  replace B := B.below hb
  replace hB := hB.trans (hbb.mono hB.size)
  clear hb hbb hA  
  go_wp2_with fail
  have hA := Below.refl w1.heap.size w1
  refine (L1.out _).mono ?_
  rintro e w2 ⟨rfl, hw⟩
  have hb := hw_below hw
  clear hw
  have hbb : Below w1.heap.size w1 w2 := hA.trans (hb.mono hA.size)
  replace A := A.below hb
  replace B := B.below hb
  replace hB := hB.trans (hbb.mono hB.size)
  clear hb hbb hA  
  go_wp2_with fail
  have hA := Below.refl w2.heap.size w2
  refine (qdiv_zero A B (by omega) (by omega) hb0.out).mono ?_
  rintro e w3 ⟨a0, d0, c0, e0, rfl, hb⟩
  have hbb : Below w2.heap.size w2 w3 := hA.trans (hb.mono hA.size)
  replace A := A.below hb
  replace B := B.below hb
  replace hB := hB.trans (hbb.mono hB.size)
  clear hb hbb hA  
  go_wp2_with fail
  have hA := Below.refl w3.heap.size w3
  refine (trim_any B (by omega)).mono ?_
  rintro e w4 ⟨a1, c1, z1, rfl, S1, N1, v1, l1, hb⟩
  have V1 : Hid (val z1 = 0) := by rw [Hid, v1, hb0.out]
  have b1 : z1.length ≤ 24 := by omega
  have hbb : Below w3.heap.size w3 w4 := hA.trans (hb.mono hA.size)
  replace A := A.below hb
  replace B := B.below hb
  replace hB := hB.trans (hbb.mono hB.size)
  clear hb hbb hA  v1 l1
  obtain rfl : z1 = [] := norm_unique S1.words Words.nil N1 norm_nil (by rw [V1.out]; rfl)
  go_wp2_with fail
  have hA := Below.refl w4.heap.size w4
  refine (qpart_yes A (by omega) x hx0).mono ?_
  rintro e w5 ⟨a6, c6, z6, rfl, S6, N6, v6, l6, hb⟩
  have V6 : Hid (val z6 = val xs / x) := v6
  have b6 : z6.length ≤ 24 := by omega
  have HM := hide (Int.emod_lt_of_pos (val xs) hx0.1)
  have HM0 := hide (Int.emod_nonneg (val xs) (show x ≠ 0 by omega))
  have hbb : Below w4.heap.size w4 w5 := hA.trans (hb.mono hA.size)
  replace A := A.below hb
  replace B := B.below hb
  replace S1 := S1.below hb
  replace hB := hB.trans (hbb.mono hB.size)
  clear hb hbb hA  v6 l6
  have hxz : (x == 0) = false := beq_eq_false_iff_ne.2 (by omega)
  obtain ⟨m, hm⟩ : ∃ m, val xs % x = m := ⟨_, rfl⟩
  have HMM := hide hm
  rw [hm]
  have hm1 : m < x := by rw [← hm]; exact HM.out
  have hm0 : 0 ≤ m := by rw [← hm]; exact HM0.out
  clear hm
  go_wp2_with fail
  have hA := Below.refl w5.heap.size w5
  refine (of_any x ⟨by omega, hx0.2⟩ _).mono ?_
  rintro e w6 ⟨a7, c7, z7, rfl, S7, N7, v7, l7, hb⟩
  have V7 : Hid (val z7 = x) := v7
  have b7 : z7.length ≤ 1 := by omega
  have hbb : Below w5.heap.size w5 w6 := hA.trans (hb.mono hA.size)
  replace A := A.below hb
  replace B := B.below hb
  replace S1 := S1.below hb
  replace S6 := S6.below hb
  replace hB := hB.trans (hbb.mono hB.size)
  clear hb hbb hA  v7 l7
  go_wp2_with fail
  have hA := Below.refl w6.heap.size w6
  refine (school_any S6 S7 (by omega) (by omega)).mono ?_
  rintro e w7 ⟨a8, c8, z8, rfl, S8, N8, v8, l8, hb⟩
  have V8 : Hid (val z8 = val xs / x * x) := by rw [Hid, v8, V6.out, V7.out]
  have b8 : z8.length ≤ 25 := by omega
  have hbb : Below w6.heap.size w6 w7 := hA.trans (hb.mono hA.size)
  replace A := A.below hb
  replace B := B.below hb
  replace S1 := S1.below hb
  replace S6 := S6.below hb
  replace S7 := S7.below hb
  replace hB := hB.trans (hbb.mono hB.size)
  clear hb hbb hA  v8 l8
  go_wp2_with fail
  have hA := Below.refl w7.heap.size w7
  refine (of_any m ⟨hm0, by omega⟩ _).mono ?_
  rintro e w8 ⟨a9, c9, z9, rfl, S9, N9, v9, l9, hb⟩
  have V9 : Hid (val z9 = m) := v9
  have b9 : z9.length ≤ 1 := by omega
  have hbb : Below w7.heap.size w7 w8 := hA.trans (hb.mono hA.size)
  replace A := A.below hb
  replace B := B.below hb
  replace S1 := S1.below hb
  replace S6 := S6.below hb
  replace S7 := S7.below hb
  replace S8 := S8.below hb
  replace hB := hB.trans (hbb.mono hB.size)
  clear hb hbb hA  v9 l9
  go_wp2_with fail
  have hA := Below.refl w8.heap.size w8
  refine (add_any S8 S9 (by omega) (by omega)).mono ?_
  rintro e w9 ⟨a10, c10, z10, rfl, S10, N10, v10, l10, hb⟩
  have V10 : Hid (val z10 = val xs) := by rw [Hid, v10, V8.out, V9.out, ← HMM.out]; exact Int.ediv_mul_add_emod _ _
  have b10 : z10.length ≤ 26 := by omega
  have hbb : Below w8.heap.size w8 w9 := hA.trans (hb.mono hA.size)
  replace A := A.below hb
  replace B := B.below hb
  replace S1 := S1.below hb
  replace S6 := S6.below hb
  replace S7 := S7.below hb
  replace S8 := S8.below hb
  replace S9 := S9.below hb
  replace hB := hB.trans (hbb.mono hB.size)
  clear hb hbb hA  v10 l10
  go_wp2_with fail
  have hA := Below.refl w9.heap.size w9
  refine (trim_any A (by omega)).mono ?_
  rintro e w10 ⟨a11, c11, z11, rfl, S11, N11, v11, l11, hb⟩
  have V11 : Hid (val z11 = val xs) := v11
  have b11 : z11.length ≤ 24 := by omega
  have hbb : Below w9.heap.size w9 w10 := hA.trans (hb.mono hA.size)
  replace A := A.below hb
  replace B := B.below hb
  replace S1 := S1.below hb
  replace S6 := S6.below hb
  replace S7 := S7.below hb
  replace S8 := S8.below hb
  replace S9 := S9.below hb
  replace S10 := S10.below hb
  replace hB := hB.trans (hbb.mono hB.size)
  clear hb hbb hA  v11 l11
  go_wp2_with fail
  have hA := Below.refl w10.heap.size w10
  refine (same_len S10 S11 (norm_unique S10.words S11.words N10 N11 (by rw [V10.out, V11.out])) (by omega)).mono ?_
  rintro e w11 ⟨rfl, hb⟩
  have hbb : Below w10.heap.size w10 w11 := hA.trans (hb.mono hA.size)
  replace A := A.below hb
  replace B := B.below hb
  replace S1 := S1.below hb
  replace S6 := S6.below hb
  replace S7 := S7.below hb
  replace S8 := S8.below hb
  replace S9 := S9.below hb
  replace S10 := S10.below hb
  replace S11 := S11.below hb
  replace hB := hB.trans (hbb.mono hB.size)
  clear hb hbb hA  
  go_wp2
  go_ret
  exact ⟨rfl, hB⟩

set_option maxRecDepth 100000 in
set_option maxHeartbeats 4000000 in
theorem back_11 {a b : Option Addr} {ca cb : Nat} {xs ys : List Int} {w : World} (A : Seg 0 w (.slice a xs.length ca) xs) (B : Seg 0 w (.slice b ys.length cb) ys) (hx : xs.length ≤ 24) (hy : ys.length ≤ 24) (hb0 : Hid (val ys = 0)) :
    Calls Try.prog 6 #[.slice a xs.length ca, .slice b ys.length cb, .int .u64 0] w fun e w' => e = .returned (.bool true) ∧ Below w.heap.size w w' := by
  have l1 := fun w => qlong_any a b xs.length ca ys.length cb w
  rw [decide_eq_false (show ¬ (24 < xs.length ∨ 24 < ys.length) by omega)] at l1
  have L1 := hide l1
  clear l1
  have hB := Below.refl w.heap.size w
  go_enter Try.func6, Try.ntmps6
  go_wp2_with fail
  have hA := Below.refl w.heap.size w
  refine (known_any _).mono ?_
  rintro e w1 ⟨rfl, hb⟩
  have hbb : Below w.heap.size w w1 := hA.trans (hb.mono hA.size)
  replace A := A.below hb
  replace B := B.below hb
  replace hB := hB.trans (hbb.mono hB.size)
  clear hb hbb hA  
  go_wp2_with fail
  have hA := Below.refl w1.heap.size w1
  refine (L1.out _).mono ?_
  rintro e w2 ⟨rfl, hw⟩
  have hb := hw_below hw
  clear hw
  have hbb : Below w1.heap.size w1 w2 := hA.trans (hb.mono hA.size)
  replace A := A.below hb
  replace B := B.below hb
  replace hB := hB.trans (hbb.mono hB.size)
  clear hb hbb hA  
  go_wp2_with fail
  have hA := Below.refl w2.heap.size w2
  refine (qdiv_zero A B (by omega) (by omega) hb0.out).mono ?_
  rintro e w3 ⟨a0, d0, c0, e0, rfl, hb⟩
  have hbb : Below w2.heap.size w2 w3 := hA.trans (hb.mono hA.size)
  replace A := A.below hb
  replace B := B.below hb
  replace hB := hB.trans (hbb.mono hB.size)
  clear hb hbb hA  
  go_wp2_with fail
  have hA := Below.refl w3.heap.size w3
  refine (trim_any B (by omega)).mono ?_
  rintro e w4 ⟨a1, c1, z1, rfl, S1, N1, v1, l1, hb⟩
  have V1 : Hid (val z1 = 0) := by rw [Hid, v1, hb0.out]
  have b1 : z1.length ≤ 24 := by omega
  have hbb : Below w3.heap.size w3 w4 := hA.trans (hb.mono hA.size)
  replace A := A.below hb
  replace B := B.below hb
  replace hB := hB.trans (hbb.mono hB.size)
  clear hb hbb hA  v1 l1
  obtain rfl : z1 = [] := norm_unique S1.words Words.nil N1 norm_nil (by rw [V1.out]; rfl)
  go_wp2_with fail
  have hA := Below.refl w4.heap.size w4
  refine (qpart_zero A (by omega)).mono ?_
  rintro e w5 ⟨a7, c7, rfl, hb⟩
  have hbb : Below w4.heap.size w4 w5 := hA.trans (hb.mono hA.size)
  replace A := A.below hb
  replace B := B.below hb
  replace S1 := S1.below hb
  replace hB := hB.trans (hbb.mono hB.size)
  clear hb hbb hA  
  go_wp2
  go_ret
  exact ⟨rfl, hB⟩

theorem back_any {a b : Option Addr} {la ca lb cb : Nat} {xs ys : List Int} {w : World} (A : Seg 0 w (.slice a la ca) xs) (B : Seg 0 w (.slice b lb cb) ys) (x : Int) (hx : 0 ≤ x ∧ x < 18446744073709551616) :
    Calls Try.prog 6 #[.slice a la ca, .slice b lb cb, .int .u64 x] w fun e w' => e = .returned (.bool true) ∧ Below w.heap.size w w' := by
  by_cases h : 24 < la ∨ 24 < lb
  · exact back_long a b la ca lb cb x w h
  · obtain ⟨rfl, _⟩ := A.len
    obtain ⟨rfl, _⟩ := B.len
    have py := val_nonneg B.words
    by_cases hb : val ys = 0
    · by_cases h0 : x = 0
      · subst h0; exact back_11 A B (by omega) (by omega) hb
      · exact back_10 A B (by omega) (by omega) x hb ⟨by omega, hx.2⟩
    · have hb' : 0 < val ys := by omega
      by_cases h0 : x = 0
      · subst h0; exact back_01 A B (by omega) (by omega) hb'
      · exact back_00 A B (by omega) (by omega) x hb' ⟨by omega, hx.2⟩
end Go.Proofs.Ytfdlhjnnbhfapaa
