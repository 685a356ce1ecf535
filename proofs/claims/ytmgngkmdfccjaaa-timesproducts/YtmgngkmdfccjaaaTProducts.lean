/-
  The walk of TimesProducts.
-/
import Derived.Test.YtmgngkmdfccjaaaTKnown
namespace Go.Proofs.Ytmgngkmdfccjaaa
open Go.RowKit

set_option maxRecDepth 100000 in
set_option maxHeartbeats 1000000 in
/-- Where a list is long. -/
theorem products_long (a : Option Addr) (la ca : Nat) (b : Option Addr) (lb cb : Nat) (k : Int) (x : Int) (w : World) (h : 40 < la ∨ 40 < lb) :
    Calls Try.prog 3 #[.slice a la ca, .slice b lb cb, .int .i64 k, .int .u64 x] w fun e w' => e = .returned (.bool true) ∧ Below w.heap.size w w' := by
  have q0 := fun w => longNat_any a la ca 40 w
  have q1 := fun w => longNat_any b lb cb 40 w
  by_cases g0 : 40 < la
  · rw [decide_eq_true (show (40 : Int) < (la : Int) by omega)] at q0
    have Q0 := hide q0
    clear h g0 q0 q1
    go_enter Try.func3, Try.ntmps3
    go_wp2_with fail
    refine (Q0.out _).mono ?_
    rintro e w2 ⟨rfl, rfl⟩
    go_wp2_with fail
    refine (awake_any _).mono ?_
    rintro e w3 ⟨rfl, hb3⟩
    go_wp2
    go_ret
    exact ⟨rfl, hb3⟩
  · rw [decide_eq_false (show ¬ (40 : Int) < (la : Int) by omega)] at q0
    have Q0 := hide q0
    clear q0
    rw [decide_eq_true (show (40 : Int) < (lb : Int) by omega)] at q1
    have Q1 := hide q1
    clear h q1
    go_enter Try.func3, Try.ntmps3
    go_wp2_with fail
    refine (Q0.out _).mono ?_
    rintro e w2 ⟨rfl, rfl⟩
    go_wp2_with fail
    refine (Q1.out _).mono ?_
    rintro e w2 ⟨rfl, rfl⟩
    go_wp2_with fail
    refine (awake_any _).mono ?_
    rintro e w3 ⟨rfl, hb3⟩
    go_wp2
    go_ret
    exact ⟨rfl, hb3⟩

set_option maxRecDepth 100000 in
set_option maxHeartbeats 4000000 in
theorem products_yes {a : Option Addr} {ca : Nat} {xs : List Int} {b : Option Addr} {cb : Nat} {ys : List Int} {w : World} (A : Seg 0 w (.slice a xs.length ca) xs) (B : Seg 0 w (.slice b ys.length cb) ys) (hx : xs.length ≤ 40) (hy : ys.length ≤ 40) (k : Int) (x : Int) (hx' : 0 ≤ x ∧ x < 18446744073709551616) (hl : 2 ≤ k ∧ k ≤ 1000) :
    Calls Try.prog 3 #[.slice a xs.length ca, .slice b ys.length cb, .int .i64 k, .int .u64 x] w fun e w' => e = .returned (.bool true) ∧ Below w.heap.size w w' := by
  have q0 := fun w => longNat_any a xs.length ca 40 w
  rw [decide_eq_false (show ¬ (40 : Int) < (xs.length : Int) by omega)] at q0
  have Q0 := hide q0
  have px := val_nonneg A.words
  have q1 := fun w => longNat_any b ys.length cb 40 w
  rw [decide_eq_false (show ¬ (40 : Int) < (ys.length : Int) by omega)] at q1
  have Q1 := hide q1
  have py := val_nonneg B.words
  clear q0 q1
  have hB := Below.refl w.heap.size w
  go_enter Try.func3, Try.ntmps3
  go_wp2_with (go_at_call 23; refine (ofl_any _ _ _ _).mono ?_; rintro e w' ⟨rfl, rfl⟩)
  have hA := Below.refl w.heap.size w
  refine (Q0.out _).mono ?_
  rintro e w1 ⟨rfl, hw⟩
  have hb := hw_below hw
  clear hw
  have hbb : Below w.heap.size w w1 := hA.trans (hb.mono hA.size)
  replace A := A.below hb
  replace B := B.below hb
  have z1 := hbb.size
  replace hB := hB.trans (hbb.mono hB.size)
  clear hb hbb hA  
  go_wp2_with (go_at_call 23; refine (ofl_any _ _ _ _).mono ?_; rintro e w' ⟨rfl, rfl⟩)
  have hA := Below.refl w1.heap.size w1
  refine (Q1.out _).mono ?_
  rintro e w2 ⟨rfl, hw⟩
  have hb := hw_below hw
  clear hw
  have hbb : Below w1.heap.size w1 w2 := hA.trans (hb.mono hA.size)
  replace A := A.below hb
  replace B := B.below hb
  have z2 := hbb.size
  replace hB := hB.trans (hbb.mono hB.size)
  clear hb hbb hA  
  go_wp2_with (go_at_call 23; refine (ofl_any _ _ _ _).mono ?_; rintro e w' ⟨rfl, rfl⟩)
  have hA := Below.refl w2.heap.size w2
  refine (copy_any A (by omega)).mono ?_
  rintro e w3 ⟨ai, ci, rfl, I, hb⟩
  have hbb : Below w2.heap.size w2 w3 := hA.trans (hb.mono hA.size)
  replace A := A.below hb
  replace B := B.below hb
  have z3 := hbb.size
  replace hB := hB.trans (hbb.mono hB.size)
  clear hb hbb hA  
  go_wp2_with (go_at_call 23; refine (ofl_any _ _ _ _).mono ?_; rintro e w' ⟨rfl, rfl⟩)
  have hA := Below.refl w3.heap.size w3
  refine (copy_any B (by omega)).mono ?_
  rintro e w4 ⟨aj, cj, rfl, J, hb⟩
  have hbb : Below w3.heap.size w3 w4 := hA.trans (hb.mono hA.size)
  replace A := A.below hb
  replace B := B.below hb
  replace I := I.below hb
  have z4 := hbb.size
  replace hB := hB.trans (hbb.mono hB.size)
  clear hb hbb hA  
  have A3 := A
  have B3 := B
  have I3 := I
  have J3 := J
  have h3 := Below.refl w4.heap.size w4
  go_wp2_with (go_at_call 23; refine (ofl_any _ _ _ _).mono ?_; rintro e w' ⟨rfl, rfl⟩)
  have hA := Below.refl w4.heap.size w4
  refine (rmul_any A B (by omega) (by omega)).mono ?_
  rintro e w5 ⟨a1, c1, z1, rfl, S1, N1, v1, l1, hb⟩
  have V1 : Hid (val z1 = val xs * val ys) := v1
  have b1 : z1.length ≤ 80 := by omega
  have hbb : Below w4.heap.size w4 w5 := hA.trans (hb.mono hA.size)
  replace A := A.below hb
  replace B := B.below hb
  replace I := I.below hb
  replace J := J.below hb
  have z5 := hbb.size
  replace hB := hB.trans (hbb.mono hB.size)
  replace h3 := h3.trans (hbb.mono h3.size)
  clear hb hbb hA  v1 l1
  go_wp2_with (go_at_call 23; refine (ofl_any _ _ _ _).mono ?_; rintro e w' ⟨rfl, rfl⟩)
  have hA := Below.refl w5.heap.size w5
  refine (school_any I J (by omega) (by omega)).mono ?_
  rintro e w6 ⟨a2, c2, z2, rfl, S2, N2, v2, l2, hb⟩
  have V2 : Hid (val z2 = val xs * val ys) := v2
  have b2 : z2.length ≤ 80 := by omega
  have hbb : Below w5.heap.size w5 w6 := hA.trans (hb.mono hA.size)
  replace A := A.below hb
  replace B := B.below hb
  replace I := I.below hb
  replace J := J.below hb
  replace S1 := S1.below hb
  have z6 := hbb.size
  replace hB := hB.trans (hbb.mono hB.size)
  replace h3 := h3.trans (hbb.mono h3.size)
  clear hb hbb hA  v2 l2
  have R2 := S2.block
  go_wp2_with (go_at_call 23; refine (ofl_any _ _ _ _).mono ?_; rintro e w' ⟨rfl, rfl⟩)
  have hA := Below.refl w6.heap.size w6
  refine (mul_any I J (by omega) (by omega)).mono ?_
  rintro e w7 ⟨a3, c3, z3, rfl, S3, N3, v3, l3, hb⟩
  have V3 : Hid (val z3 = val xs * val ys) := v3
  have b3 : z3.length ≤ 80 := by omega
  have hbb : Below w6.heap.size w6 w7 := hA.trans (hb.mono hA.size)
  replace A := A.below hb
  replace B := B.below hb
  replace I := I.below hb
  replace J := J.below hb
  replace S1 := S1.below hb
  replace S2 := S2.below hb
  have z7 := hbb.size
  replace hB := hB.trans (hbb.mono hB.size)
  replace h3 := h3.trans (hbb.mono h3.size)
  clear hb hbb hA  v3 l3
  have R3 := S3.block
  go_wp2_with (go_at_call 23; refine (ofl_any _ _ _ _).mono ?_; rintro e w' ⟨rfl, rfl⟩)
  have hA := Below.refl w7.heap.size w7
  refine (kara_yes I J (by omega) (by omega) k hl.1 hl.2).mono ?_
  rintro e w8 ⟨a4, c4, z4, rfl, S4, N4, v4, l4, hb⟩
  have V4 : Hid (val z4 = val xs * val ys) := v4
  have b4 : z4.length ≤ 80 := by omega
  have hbb : Below w7.heap.size w7 w8 := hA.trans (hb.mono hA.size)
  replace A := A.below hb
  replace B := B.below hb
  replace I := I.below hb
  replace J := J.below hb
  replace S1 := S1.below hb
  replace S2 := S2.below hb
  replace S3 := S3.below hb
  have z8 := hbb.size
  replace hB := hB.trans (hbb.mono hB.size)
  replace h3 := h3.trans (hbb.mono h3.size)
  clear hb hbb hA  v4 l4
  have R4 := S4.block
  go_wp2_with (go_at_call 23; refine (ofl_any _ _ _ _).mono ?_; rintro e w' ⟨rfl, rfl⟩)
  have hA := Below.refl w8.heap.size w8
  refine (same_len S2 S1 (norm_unique S2.words S1.words N2 N1 (by rw [V2.out, V1.out])) (by omega)).mono ?_
  rintro e w9 ⟨rfl, hb⟩
  have hbb : Below w8.heap.size w8 w9 := hA.trans (hb.mono hA.size)
  replace A := A.below hb
  replace B := B.below hb
  replace I := I.below hb
  replace J := J.below hb
  replace S1 := S1.below hb
  replace S2 := S2.below hb
  replace S3 := S3.below hb
  replace S4 := S4.below hb
  have z9 := hbb.size
  replace hB := hB.trans (hbb.mono hB.size)
  replace h3 := h3.trans (hbb.mono h3.size)
  clear hb hbb hA  
  go_wp2_with (go_at_call 23; refine (ofl_any _ _ _ _).mono ?_; rintro e w' ⟨rfl, rfl⟩)
  have hA := Below.refl w9.heap.size w9
  refine (same_len S3 S1 (norm_unique S3.words S1.words N3 N1 (by rw [V3.out, V1.out])) (by omega)).mono ?_
  rintro e w10 ⟨rfl, hb⟩
  have hbb : Below w9.heap.size w9 w10 := hA.trans (hb.mono hA.size)
  replace A := A.below hb
  replace B := B.below hb
  replace I := I.below hb
  replace J := J.below hb
  replace S1 := S1.below hb
  replace S2 := S2.below hb
  replace S3 := S3.below hb
  replace S4 := S4.below hb
  have z10 := hbb.size
  replace hB := hB.trans (hbb.mono hB.size)
  replace h3 := h3.trans (hbb.mono h3.size)
  clear hb hbb hA  
  go_wp2_with (go_at_call 23; refine (ofl_any _ _ _ _).mono ?_; rintro e w' ⟨rfl, rfl⟩)
  have hA := Below.refl w10.heap.size w10
  refine (same_len S4 S1 (norm_unique S4.words S1.words N4 N1 (by rw [V4.out, V1.out])) (by omega)).mono ?_
  rintro e w11 ⟨rfl, hb⟩
  have hbb : Below w10.heap.size w10 w11 := hA.trans (hb.mono hA.size)
  replace A := A.below hb
  replace B := B.below hb
  replace I := I.below hb
  replace J := J.below hb
  replace S1 := S1.below hb
  replace S2 := S2.below hb
  replace S3 := S3.below hb
  replace S4 := S4.below hb
  have z11 := hbb.size
  replace hB := hB.trans (hbb.mono hB.size)
  replace h3 := h3.trans (hbb.mono h3.size)
  clear hb hbb hA  
  go_wp2_with (go_at_call 23; refine (ofl_any _ _ _ _).mono ?_; rintro e w' ⟨rfl, rfl⟩)
  have hA := Below.refl w11.heap.size w11
  refine (square_any I (by omega)).mono ?_
  rintro e w12 ⟨a5, c5, z5, rfl, S5, N5, v5, l5, hb⟩
  have V5 : Hid (val z5 = val xs * val xs) := v5
  have b5 : z5.length ≤ 80 := by omega
  have hbb : Below w11.heap.size w11 w12 := hA.trans (hb.mono hA.size)
  replace A := A.below hb
  replace B := B.below hb
  replace I := I.below hb
  replace J := J.below hb
  replace S1 := S1.below hb
  replace S2 := S2.below hb
  replace S3 := S3.below hb
  replace S4 := S4.below hb
  have z12 := hbb.size
  replace hB := hB.trans (hbb.mono hB.size)
  replace h3 := h3.trans (hbb.mono h3.size)
  clear hb hbb hA  v5 l5
  have R5 := S5.block
  go_wp2_with (go_at_call 23; refine (ofl_any _ _ _ _).mono ?_; rintro e w' ⟨rfl, rfl⟩)
  have hA := Below.refl w12.heap.size w12
  refine (tgrow_any I (by omega) x hx').mono ?_
  rintro e w13 ⟨a6, c6, z6, rfl, S6, N6, v6, l6, hb⟩
  have V6 : Hid (val z6 = val xs * x) := v6
  have b6 : z6.length ≤ 41 := by omega
  have hbb : Below w12.heap.size w12 w13 := hA.trans (hb.mono hA.size)
  replace A := A.below hb
  replace B := B.below hb
  replace I := I.below hb
  replace J := J.below hb
  replace S1 := S1.below hb
  replace S2 := S2.below hb
  replace S3 := S3.below hb
  replace S4 := S4.below hb
  replace S5 := S5.below hb
  have z13 := hbb.size
  replace hB := hB.trans (hbb.mono hB.size)
  replace h3 := h3.trans (hbb.mono h3.size)
  clear hb hbb hA  v6 l6
  have R6 := S6.block
  go_wp2_with (go_at_call 23; refine (ofl_any _ _ _ _).mono ?_; rintro e w' ⟨rfl, rfl⟩)
  have hA := Below.refl w13.heap.size w13
  refine (rmul_any A A (by omega) (by omega)).mono ?_
  rintro e w14 ⟨a7, c7, z7, rfl, S7, N7, v7, l7, hb⟩
  have V7 : Hid (val z7 = val xs * val xs) := v7
  have b7 : z7.length ≤ 80 := by omega
  have hbb : Below w13.heap.size w13 w14 := hA.trans (hb.mono hA.size)
  replace A := A.below hb
  replace B := B.below hb
  replace I := I.below hb
  replace J := J.below hb
  replace S1 := S1.below hb
  replace S2 := S2.below hb
  replace S3 := S3.below hb
  replace S4 := S4.below hb
  replace S5 := S5.below hb
  replace S6 := S6.below hb
  have z14 := hbb.size
  replace hB := hB.trans (hbb.mono hB.size)
  replace h3 := h3.trans (hbb.mono h3.size)
  clear hb hbb hA  v7 l7
  go_wp2_with (go_at_call 23; refine (ofl_any _ _ _ _).mono ?_; rintro e w' ⟨rfl, rfl⟩)
  have hA := Below.refl w14.heap.size w14
  refine (same_len S5 S7 (norm_unique S5.words S7.words N5 N7 (by rw [V5.out, V7.out])) (by omega)).mono ?_
  rintro e w15 ⟨rfl, hb⟩
  have hbb : Below w14.heap.size w14 w15 := hA.trans (hb.mono hA.size)
  replace A := A.below hb
  replace B := B.below hb
  replace I := I.below hb
  replace J := J.below hb
  replace S1 := S1.below hb
  replace S2 := S2.below hb
  replace S3 := S3.below hb
  replace S4 := S4.below hb
  replace S5 := S5.below hb
  replace S6 := S6.below hb
  replace S7 := S7.below hb
  have z15 := hbb.size
  replace hB := hB.trans (hbb.mono hB.size)
  replace h3 := h3.trans (hbb.mono h3.size)
  clear hb hbb hA  
  go_wp2_with (go_at_call 23; refine (ofl_any _ _ _ _).mono ?_; rintro e w' ⟨rfl, rfl⟩)
  have hA := Below.refl w15.heap.size w15
  refine (rgrow_any A (by omega) x hx').mono ?_
  rintro e w16 ⟨a8, c8, z8, rfl, S8, N8, v8, l8, hb⟩
  have V8 : Hid (val z8 = val xs * x) := v8
  have b8 : z8.length ≤ 41 := by omega
  have hbb : Below w15.heap.size w15 w16 := hA.trans (hb.mono hA.size)
  replace A := A.below hb
  replace B := B.below hb
  replace I := I.below hb
  replace J := J.below hb
  replace S1 := S1.below hb
  replace S2 := S2.below hb
  replace S3 := S3.below hb
  replace S4 := S4.below hb
  replace S5 := S5.below hb
  replace S6 := S6.below hb
  replace S7 := S7.below hb
  have z16 := hbb.size
  replace hB := hB.trans (hbb.mono hB.size)
  replace h3 := h3.trans (hbb.mono h3.size)
  clear hb hbb hA  v8 l8
  go_wp2_with (go_at_call 23; refine (ofl_any _ _ _ _).mono ?_; rintro e w' ⟨rfl, rfl⟩)
  have hA := Below.refl w16.heap.size w16
  refine (same_len S6 S8 (norm_unique S6.words S8.words N6 N8 (by rw [V6.out, V8.out])) (by omega)).mono ?_
  rintro e w17 ⟨rfl, hb⟩
  have hbb : Below w16.heap.size w16 w17 := hA.trans (hb.mono hA.size)
  replace A := A.below hb
  replace B := B.below hb
  replace I := I.below hb
  replace J := J.below hb
  replace S1 := S1.below hb
  replace S2 := S2.below hb
  replace S3 := S3.below hb
  replace S4 := S4.below hb
  replace S5 := S5.below hb
  replace S6 := S6.below hb
  replace S7 := S7.below hb
  replace S8 := S8.below hb
  have z17 := hbb.size
  replace hB := hB.trans (hbb.mono hB.size)
  replace h3 := h3.trans (hbb.mono h3.size)
  clear hb hbb hA  
  clear A B I J S1 S7 S8
  go_wp2_with (go_at_call 23; refine (ofl_any _ _ _ _).mono ?_; rintro e w' ⟨rfl, rfl⟩)
  refine (over_fr S2 (by omega) w6.heap.size R2).mono ?_
  rintro e w18 ⟨rfl, hlo, hhi⟩
  replace S3 := S3.above (fun k hk => hhi k (by omega)) hlo.size
  replace S4 := S4.above (fun k hk => hhi k (by omega)) hlo.size
  replace S5 := S5.above (fun k hk => hhi k (by omega)) hlo.size
  replace S6 := S6.above (fun k hk => hhi k (by omega)) hlo.size
  replace hB := hB.trans (hlo.mono (by omega))
  replace h3 := h3.trans (hlo.mono (by omega))
  have z18 := hlo.size
  clear hlo hhi S2 R2
  go_wp2_with (go_at_call 23; refine (ofl_any _ _ _ _).mono ?_; rintro e w' ⟨rfl, rfl⟩)
  refine (over_fr S3 (by omega) w7.heap.size R3).mono ?_
  rintro e w19 ⟨rfl, hlo, hhi⟩
  replace S4 := S4.above (fun k hk => hhi k (by omega)) hlo.size
  replace S5 := S5.above (fun k hk => hhi k (by omega)) hlo.size
  replace S6 := S6.above (fun k hk => hhi k (by omega)) hlo.size
  replace hB := hB.trans (hlo.mono (by omega))
  replace h3 := h3.trans (hlo.mono (by omega))
  have z19 := hlo.size
  clear hlo hhi S3 R3
  go_wp2_with (go_at_call 23; refine (ofl_any _ _ _ _).mono ?_; rintro e w' ⟨rfl, rfl⟩)
  refine (over_fr S4 (by omega) w8.heap.size R4).mono ?_
  rintro e w20 ⟨rfl, hlo, hhi⟩
  replace S5 := S5.above (fun k hk => hhi k (by omega)) hlo.size
  replace S6 := S6.above (fun k hk => hhi k (by omega)) hlo.size
  replace hB := hB.trans (hlo.mono (by omega))
  replace h3 := h3.trans (hlo.mono (by omega))
  have z20 := hlo.size
  clear hlo hhi S4 R4
  go_wp2_with (go_at_call 23; refine (ofl_any _ _ _ _).mono ?_; rintro e w' ⟨rfl, rfl⟩)
  refine (over_fr S5 (by omega) w12.heap.size R5).mono ?_
  rintro e w21 ⟨rfl, hlo, hhi⟩
  replace S6 := S6.above (fun k hk => hhi k (by omega)) hlo.size
  replace hB := hB.trans (hlo.mono (by omega))
  replace h3 := h3.trans (hlo.mono (by omega))
  have z21 := hlo.size
  clear hlo hhi S5 R5
  go_wp2_with (go_at_call 23; refine (ofl_any _ _ _ _).mono ?_; rintro e w' ⟨rfl, rfl⟩)
  refine (over_fr S6 (by omega) w13.heap.size R6).mono ?_
  rintro e w22 ⟨rfl, hlo, hhi⟩
  replace hB := hB.trans (hlo.mono (by omega))
  replace h3 := h3.trans (hlo.mono (by omega))
  have z22 := hlo.size
  clear hlo hhi S6 R6
  have A := A3.below h3
  have B := B3.below h3
  have I := I3.below h3
  have J := J3.below h3
  go_wp2_with (go_at_call 23; refine (ofl_any _ _ _ _).mono ?_; rintro e w' ⟨rfl, rfl⟩)
  have hA := Below.refl w22.heap.size w22
  refine (same_len I A rfl (by omega)).mono ?_
  rintro e w23 ⟨rfl, hb⟩
  have hbb : Below w22.heap.size w22 w23 := hA.trans (hb.mono hA.size)
  replace A := A.below hb
  replace B := B.below hb
  replace I := I.below hb
  replace J := J.below hb
  have z23 := hbb.size
  replace hB := hB.trans (hbb.mono hB.size)
  replace h3 := h3.trans (hbb.mono h3.size)
  clear hb hbb hA  
  go_wp2_with (go_at_call 23; refine (ofl_any _ _ _ _).mono ?_; rintro e w' ⟨rfl, rfl⟩)
  have hA := Below.refl w23.heap.size w23
  refine (same_len J B rfl (by omega)).mono ?_
  rintro e w24 ⟨rfl, hb⟩
  have hbb : Below w23.heap.size w23 w24 := hA.trans (hb.mono hA.size)
  replace A := A.below hb
  replace B := B.below hb
  replace I := I.below hb
  replace J := J.below hb
  have z24 := hbb.size
  replace hB := hB.trans (hbb.mono hB.size)
  replace h3 := h3.trans (hbb.mono h3.size)
  clear hb hbb hA  
  go_wp2_with (go_at_call 23; refine (ofl_any _ _ _ _).mono ?_; rintro e w' ⟨rfl, rfl⟩)
  have hA := Below.refl w24.heap.size w24
  refine (awake_any _).mono ?_
  rintro e w25 ⟨rfl, hb⟩
  have hbb : Below w24.heap.size w24 w25 := hA.trans (hb.mono hA.size)
  replace A := A.below hb
  replace B := B.below hb
  replace I := I.below hb
  replace J := J.below hb
  have z25 := hbb.size
  replace hB := hB.trans (hbb.mono hB.size)
  replace h3 := h3.trans (hbb.mono h3.size)
  clear hb hbb hA  
  go_wp2
  go_ret
  exact ⟨rfl, hB⟩

set_option maxRecDepth 100000 in
set_option maxHeartbeats 4000000 in
theorem products_low {a : Option Addr} {ca : Nat} {xs : List Int} {b : Option Addr} {cb : Nat} {ys : List Int} {w : World} (A : Seg 0 w (.slice a xs.length ca) xs) (B : Seg 0 w (.slice b ys.length cb) ys) (hx : xs.length ≤ 40) (hy : ys.length ≤ 40) (k : Int) (x : Int) (hx' : 0 ≤ x ∧ x < 18446744073709551616) (hl : k < 2) :
    Calls Try.prog 3 #[.slice a xs.length ca, .slice b ys.length cb, .int .i64 k, .int .u64 x] w fun e w' => e = .returned (.bool true) ∧ Below w.heap.size w w' := by
  have q0 := fun w => longNat_any a xs.length ca 40 w
  rw [decide_eq_false (show ¬ (40 : Int) < (xs.length : Int) by omega)] at q0
  have Q0 := hide q0
  have px := val_nonneg A.words
  have q1 := fun w => longNat_any b ys.length cb 40 w
  rw [decide_eq_false (show ¬ (40 : Int) < (ys.length : Int) by omega)] at q1
  have Q1 := hide q1
  have py := val_nonneg B.words
  clear q0 q1
  have hB := Below.refl w.heap.size w
  go_enter Try.func3, Try.ntmps3
  go_wp2_with (go_at_call 23; refine (ofl_any _ _ _ _).mono ?_; rintro e w' ⟨rfl, rfl⟩)
  have hA := Below.refl w.heap.size w
  refine (Q0.out _).mono ?_
  rintro e w1 ⟨rfl, hw⟩
  have hb := hw_below hw
  clear hw
  have hbb : Below w.heap.size w w1 := hA.trans (hb.mono hA.size)
  replace A := A.below hb
  replace B := B.below hb
  have z1 := hbb.size
  replace hB := hB.trans (hbb.mono hB.size)
  clear hb hbb hA  
  go_wp2_with (go_at_call 23; refine (ofl_any _ _ _ _).mono ?_; rintro e w' ⟨rfl, rfl⟩)
  have hA := Below.refl w1.heap.size w1
  refine (Q1.out _).mono ?_
  rintro e w2 ⟨rfl, hw⟩
  have hb := hw_below hw
  clear hw
  have hbb : Below w1.heap.size w1 w2 := hA.trans (hb.mono hA.size)
  replace A := A.below hb
  replace B := B.below hb
  have z2 := hbb.size
  replace hB := hB.trans (hbb.mono hB.size)
  clear hb hbb hA  
  go_wp2_with (go_at_call 23; refine (ofl_any _ _ _ _).mono ?_; rintro e w' ⟨rfl, rfl⟩)
  have hA := Below.refl w2.heap.size w2
  refine (copy_any A (by omega)).mono ?_
  rintro e w3 ⟨ai, ci, rfl, I, hb⟩
  have hbb : Below w2.heap.size w2 w3 := hA.trans (hb.mono hA.size)
  replace A := A.below hb
  replace B := B.below hb
  have z3 := hbb.size
  replace hB := hB.trans (hbb.mono hB.size)
  clear hb hbb hA  
  go_wp2_with (go_at_call 23; refine (ofl_any _ _ _ _).mono ?_; rintro e w' ⟨rfl, rfl⟩)
  have hA := Below.refl w3.heap.size w3
  refine (copy_any B (by omega)).mono ?_
  rintro e w4 ⟨aj, cj, rfl, J, hb⟩
  have hbb : Below w3.heap.size w3 w4 := hA.trans (hb.mono hA.size)
  replace A := A.below hb
  replace B := B.below hb
  replace I := I.below hb
  have z4 := hbb.size
  replace hB := hB.trans (hbb.mono hB.size)
  clear hb hbb hA  
  have A3 := A
  have B3 := B
  have I3 := I
  have J3 := J
  have h3 := Below.refl w4.heap.size w4
  go_wp2_with (go_at_call 23; refine (ofl_any _ _ _ _).mono ?_; rintro e w' ⟨rfl, rfl⟩)
  have hA := Below.refl w4.heap.size w4
  refine (rmul_any A B (by omega) (by omega)).mono ?_
  rintro e w5 ⟨a1, c1, z1, rfl, S1, N1, v1, l1, hb⟩
  have V1 : Hid (val z1 = val xs * val ys) := v1
  have b1 : z1.length ≤ 80 := by omega
  have hbb : Below w4.heap.size w4 w5 := hA.trans (hb.mono hA.size)
  replace A := A.below hb
  replace B := B.below hb
  replace I := I.below hb
  replace J := J.below hb
  have z5 := hbb.size
  replace hB := hB.trans (hbb.mono hB.size)
  replace h3 := h3.trans (hbb.mono h3.size)
  clear hb hbb hA  v1 l1
  go_wp2_with (go_at_call 23; refine (ofl_any _ _ _ _).mono ?_; rintro e w' ⟨rfl, rfl⟩)
  have hA := Below.refl w5.heap.size w5
  refine (school_any I J (by omega) (by omega)).mono ?_
  rintro e w6 ⟨a2, c2, z2, rfl, S2, N2, v2, l2, hb⟩
  have V2 : Hid (val z2 = val xs * val ys) := v2
  have b2 : z2.length ≤ 80 := by omega
  have hbb : Below w5.heap.size w5 w6 := hA.trans (hb.mono hA.size)
  replace A := A.below hb
  replace B := B.below hb
  replace I := I.below hb
  replace J := J.below hb
  replace S1 := S1.below hb
  have z6 := hbb.size
  replace hB := hB.trans (hbb.mono hB.size)
  replace h3 := h3.trans (hbb.mono h3.size)
  clear hb hbb hA  v2 l2
  have R2 := S2.block
  go_wp2_with (go_at_call 23; refine (ofl_any _ _ _ _).mono ?_; rintro e w' ⟨rfl, rfl⟩)
  have hA := Below.refl w6.heap.size w6
  refine (mul_any I J (by omega) (by omega)).mono ?_
  rintro e w7 ⟨a3, c3, z3, rfl, S3, N3, v3, l3, hb⟩
  have V3 : Hid (val z3 = val xs * val ys) := v3
  have b3 : z3.length ≤ 80 := by omega
  have hbb : Below w6.heap.size w6 w7 := hA.trans (hb.mono hA.size)
  replace A := A.below hb
  replace B := B.below hb
  replace I := I.below hb
  replace J := J.below hb
  replace S1 := S1.below hb
  replace S2 := S2.below hb
  have z7 := hbb.size
  replace hB := hB.trans (hbb.mono hB.size)
  replace h3 := h3.trans (hbb.mono h3.size)
  clear hb hbb hA  v3 l3
  have R3 := S3.block
  go_wp2_with (go_at_call 23; refine (ofl_any _ _ _ _).mono ?_; rintro e w' ⟨rfl, rfl⟩)
  have hA := Below.refl w7.heap.size w7
  refine (kara_no _ _ _ k (by omega)).mono ?_
  rintro e w8 ⟨rfl, hw⟩
  have hb := hw_below hw
  clear hw
  have hbb : Below w7.heap.size w7 w8 := hA.trans (hb.mono hA.size)
  replace A := A.below hb
  replace B := B.below hb
  replace I := I.below hb
  replace J := J.below hb
  replace S1 := S1.below hb
  replace S2 := S2.below hb
  replace S3 := S3.below hb
  have z8 := hbb.size
  replace hB := hB.trans (hbb.mono hB.size)
  replace h3 := h3.trans (hbb.mono h3.size)
  clear hb hbb hA  
  go_wp2_with (go_at_call 23; refine (ofl_any _ _ _ _).mono ?_; rintro e w' ⟨rfl, rfl⟩)
  have hA := Below.refl w8.heap.size w8
  refine (same_len S2 S1 (norm_unique S2.words S1.words N2 N1 (by rw [V2.out, V1.out])) (by omega)).mono ?_
  rintro e w9 ⟨rfl, hb⟩
  have hbb : Below w8.heap.size w8 w9 := hA.trans (hb.mono hA.size)
  replace A := A.below hb
  replace B := B.below hb
  replace I := I.below hb
  replace J := J.below hb
  replace S1 := S1.below hb
  replace S2 := S2.below hb
  replace S3 := S3.below hb
  have z9 := hbb.size
  replace hB := hB.trans (hbb.mono hB.size)
  replace h3 := h3.trans (hbb.mono h3.size)
  clear hb hbb hA  
  go_wp2_with (go_at_call 23; refine (ofl_any _ _ _ _).mono ?_; rintro e w' ⟨rfl, rfl⟩)
  have hA := Below.refl w9.heap.size w9
  refine (same_len S3 S1 (norm_unique S3.words S1.words N3 N1 (by rw [V3.out, V1.out])) (by omega)).mono ?_
  rintro e w10 ⟨rfl, hb⟩
  have hbb : Below w9.heap.size w9 w10 := hA.trans (hb.mono hA.size)
  replace A := A.below hb
  replace B := B.below hb
  replace I := I.below hb
  replace J := J.below hb
  replace S1 := S1.below hb
  replace S2 := S2.below hb
  replace S3 := S3.below hb
  have z10 := hbb.size
  replace hB := hB.trans (hbb.mono hB.size)
  replace h3 := h3.trans (hbb.mono h3.size)
  clear hb hbb hA  
  go_wp2_with (go_at_call 23; refine (ofl_any _ _ _ _).mono ?_; rintro e w' ⟨rfl, rfl⟩)
  have hA := Below.refl w10.heap.size w10
  refine (square_any I (by omega)).mono ?_
  rintro e w11 ⟨a5, c5, z5, rfl, S5, N5, v5, l5, hb⟩
  have V5 : Hid (val z5 = val xs * val xs) := v5
  have b5 : z5.length ≤ 80 := by omega
  have hbb : Below w10.heap.size w10 w11 := hA.trans (hb.mono hA.size)
  replace A := A.below hb
  replace B := B.below hb
  replace I := I.below hb
  replace J := J.below hb
  replace S1 := S1.below hb
  replace S2 := S2.below hb
  replace S3 := S3.below hb
  have z11 := hbb.size
  replace hB := hB.trans (hbb.mono hB.size)
  replace h3 := h3.trans (hbb.mono h3.size)
  clear hb hbb hA  v5 l5
  have R5 := S5.block
  go_wp2_with (go_at_call 23; refine (ofl_any _ _ _ _).mono ?_; rintro e w' ⟨rfl, rfl⟩)
  have hA := Below.refl w11.heap.size w11
  refine (tgrow_any I (by omega) x hx').mono ?_
  rintro e w12 ⟨a6, c6, z6, rfl, S6, N6, v6, l6, hb⟩
  have V6 : Hid (val z6 = val xs * x) := v6
  have b6 : z6.length ≤ 41 := by omega
  have hbb : Below w11.heap.size w11 w12 := hA.trans (hb.mono hA.size)
  replace A := A.below hb
  replace B := B.below hb
  replace I := I.below hb
  replace J := J.below hb
  replace S1 := S1.below hb
  replace S2 := S2.below hb
  replace S3 := S3.below hb
  replace S5 := S5.below hb
  have z12 := hbb.size
  replace hB := hB.trans (hbb.mono hB.size)
  replace h3 := h3.trans (hbb.mono h3.size)
  clear hb hbb hA  v6 l6
  have R6 := S6.block
  go_wp2_with (go_at_call 23; refine (ofl_any _ _ _ _).mono ?_; rintro e w' ⟨rfl, rfl⟩)
  have hA := Below.refl w12.heap.size w12
  refine (rmul_any A A (by omega) (by omega)).mono ?_
  rintro e w13 ⟨a7, c7, z7, rfl, S7, N7, v7, l7, hb⟩
  have V7 : Hid (val z7 = val xs * val xs) := v7
  have b7 : z7.length ≤ 80 := by omega
  have hbb : Below w12.heap.size w12 w13 := hA.trans (hb.mono hA.size)
  replace A := A.below hb
  replace B := B.below hb
  replace I := I.below hb
  replace J := J.below hb
  replace S1 := S1.below hb
  replace S2 := S2.below hb
  replace S3 := S3.below hb
  replace S5 := S5.below hb
  replace S6 := S6.below hb
  have z13 := hbb.size
  replace hB := hB.trans (hbb.mono hB.size)
  replace h3 := h3.trans (hbb.mono h3.size)
  clear hb hbb hA  v7 l7
  go_wp2_with (go_at_call 23; refine (ofl_any _ _ _ _).mono ?_; rintro e w' ⟨rfl, rfl⟩)
  have hA := Below.refl w13.heap.size w13
  refine (same_len S5 S7 (norm_unique S5.words S7.words N5 N7 (by rw [V5.out, V7.out])) (by omega)).mono ?_
  rintro e w14 ⟨rfl, hb⟩
  have hbb : Below w13.heap.size w13 w14 := hA.trans (hb.mono hA.size)
  replace A := A.below hb
  replace B := B.below hb
  replace I := I.below hb
  replace J := J.below hb
  replace S1 := S1.below hb
  replace S2 := S2.below hb
  replace S3 := S3.below hb
  replace S5 := S5.below hb
  replace S6 := S6.below hb
  replace S7 := S7.below hb
  have z14 := hbb.size
  replace hB := hB.trans (hbb.mono hB.size)
  replace h3 := h3.trans (hbb.mono h3.size)
  clear hb hbb hA  
  go_wp2_with (go_at_call 23; refine (ofl_any _ _ _ _).mono ?_; rintro e w' ⟨rfl, rfl⟩)
  have hA := Below.refl w14.heap.size w14
  refine (rgrow_any A (by omega) x hx').mono ?_
  rintro e w15 ⟨a8, c8, z8, rfl, S8, N8, v8, l8, hb⟩
  have V8 : Hid (val z8 = val xs * x) := v8
  have b8 : z8.length ≤ 41 := by omega
  have hbb : Below w14.heap.size w14 w15 := hA.trans (hb.mono hA.size)
  replace A := A.below hb
  replace B := B.below hb
  replace I := I.below hb
  replace J := J.below hb
  replace S1 := S1.below hb
  replace S2 := S2.below hb
  replace S3 := S3.below hb
  replace S5 := S5.below hb
  replace S6 := S6.below hb
  replace S7 := S7.below hb
  have z15 := hbb.size
  replace hB := hB.trans (hbb.mono hB.size)
  replace h3 := h3.trans (hbb.mono h3.size)
  clear hb hbb hA  v8 l8
  go_wp2_with (go_at_call 23; refine (ofl_any _ _ _ _).mono ?_; rintro e w' ⟨rfl, rfl⟩)
  have hA := Below.refl w15.heap.size w15
  refine (same_len S6 S8 (norm_unique S6.words S8.words N6 N8 (by rw [V6.out, V8.out])) (by omega)).mono ?_
  rintro e w16 ⟨rfl, hb⟩
  have hbb : Below w15.heap.size w15 w16 := hA.trans (hb.mono hA.size)
  replace A := A.below hb
  replace B := B.below hb
  replace I := I.below hb
  replace J := J.below hb
  replace S1 := S1.below hb
  replace S2 := S2.below hb
  replace S3 := S3.below hb
  replace S5 := S5.below hb
  replace S6 := S6.below hb
  replace S7 := S7.below hb
  replace S8 := S8.below hb
  have z16 := hbb.size
  replace hB := hB.trans (hbb.mono hB.size)
  replace h3 := h3.trans (hbb.mono h3.size)
  clear hb hbb hA  
  clear A B I J S1 S7 S8
  go_wp2_with (go_at_call 23; refine (ofl_any _ _ _ _).mono ?_; rintro e w' ⟨rfl, rfl⟩)
  refine (over_fr S2 (by omega) w6.heap.size R2).mono ?_
  rintro e w17 ⟨rfl, hlo, hhi⟩
  replace S3 := S3.above (fun k hk => hhi k (by omega)) hlo.size
  replace S5 := S5.above (fun k hk => hhi k (by omega)) hlo.size
  replace S6 := S6.above (fun k hk => hhi k (by omega)) hlo.size
  replace hB := hB.trans (hlo.mono (by omega))
  replace h3 := h3.trans (hlo.mono (by omega))
  have z17 := hlo.size
  clear hlo hhi S2 R2
  go_wp2_with (go_at_call 23; refine (ofl_any _ _ _ _).mono ?_; rintro e w' ⟨rfl, rfl⟩)
  refine (over_fr S3 (by omega) w7.heap.size R3).mono ?_
  rintro e w18 ⟨rfl, hlo, hhi⟩
  replace S5 := S5.above (fun k hk => hhi k (by omega)) hlo.size
  replace S6 := S6.above (fun k hk => hhi k (by omega)) hlo.size
  replace hB := hB.trans (hlo.mono (by omega))
  replace h3 := h3.trans (hlo.mono (by omega))
  have z18 := hlo.size
  clear hlo hhi S3 R3
  go_wp2_with (go_at_call 23; refine (ofl_any _ _ _ _).mono ?_; rintro e w' ⟨rfl, rfl⟩)
  refine (over_fr (Seg.nil w18.heap.size _) (by simp) 0 (fun h => absurd rfl h)).mono ?_
  rintro e w19 ⟨rfl, hlo, hhi⟩
  replace hB := hB.trans (hlo.mono (by omega))
  replace h3 := h3.trans (hlo.mono (by omega))
  replace S5 := S5.above (fun k _ => hhi k (Nat.zero_le _)) hlo.size
  replace S6 := S6.above (fun k _ => hhi k (Nat.zero_le _)) hlo.size
  have z19 := hlo.size
  clear hlo hhi
  go_wp2_with (go_at_call 23; refine (ofl_any _ _ _ _).mono ?_; rintro e w' ⟨rfl, rfl⟩)
  refine (over_fr S5 (by omega) w11.heap.size R5).mono ?_
  rintro e w20 ⟨rfl, hlo, hhi⟩
  replace S6 := S6.above (fun k hk => hhi k (by omega)) hlo.size
  replace hB := hB.trans (hlo.mono (by omega))
  replace h3 := h3.trans (hlo.mono (by omega))
  have z20 := hlo.size
  clear hlo hhi S5 R5
  go_wp2_with (go_at_call 23; refine (ofl_any _ _ _ _).mono ?_; rintro e w' ⟨rfl, rfl⟩)
  refine (over_fr S6 (by omega) w12.heap.size R6).mono ?_
  rintro e w21 ⟨rfl, hlo, hhi⟩
  replace hB := hB.trans (hlo.mono (by omega))
  replace h3 := h3.trans (hlo.mono (by omega))
  have z21 := hlo.size
  clear hlo hhi S6 R6
  have A := A3.below h3
  have B := B3.below h3
  have I := I3.below h3
  have J := J3.below h3
  go_wp2_with (go_at_call 23; refine (ofl_any _ _ _ _).mono ?_; rintro e w' ⟨rfl, rfl⟩)
  have hA := Below.refl w21.heap.size w21
  refine (same_len I A rfl (by omega)).mono ?_
  rintro e w22 ⟨rfl, hb⟩
  have hbb : Below w21.heap.size w21 w22 := hA.trans (hb.mono hA.size)
  replace A := A.below hb
  replace B := B.below hb
  replace I := I.below hb
  replace J := J.below hb
  have z22 := hbb.size
  replace hB := hB.trans (hbb.mono hB.size)
  replace h3 := h3.trans (hbb.mono h3.size)
  clear hb hbb hA  
  go_wp2_with (go_at_call 23; refine (ofl_any _ _ _ _).mono ?_; rintro e w' ⟨rfl, rfl⟩)
  have hA := Below.refl w22.heap.size w22
  refine (same_len J B rfl (by omega)).mono ?_
  rintro e w23 ⟨rfl, hb⟩
  have hbb : Below w22.heap.size w22 w23 := hA.trans (hb.mono hA.size)
  replace A := A.below hb
  replace B := B.below hb
  replace I := I.below hb
  replace J := J.below hb
  have z23 := hbb.size
  replace hB := hB.trans (hbb.mono hB.size)
  replace h3 := h3.trans (hbb.mono h3.size)
  clear hb hbb hA  
  go_wp2_with (go_at_call 23; refine (ofl_any _ _ _ _).mono ?_; rintro e w' ⟨rfl, rfl⟩)
  have hA := Below.refl w23.heap.size w23
  refine (awake_any _).mono ?_
  rintro e w24 ⟨rfl, hb⟩
  have hbb : Below w23.heap.size w23 w24 := hA.trans (hb.mono hA.size)
  replace A := A.below hb
  replace B := B.below hb
  replace I := I.below hb
  replace J := J.below hb
  have z24 := hbb.size
  replace hB := hB.trans (hbb.mono hB.size)
  replace h3 := h3.trans (hbb.mono h3.size)
  clear hb hbb hA  
  go_wp2
  go_ret
  exact ⟨rfl, hB⟩

set_option maxRecDepth 100000 in
set_option maxHeartbeats 4000000 in
theorem products_high {a : Option Addr} {ca : Nat} {xs : List Int} {b : Option Addr} {cb : Nat} {ys : List Int} {w : World} (A : Seg 0 w (.slice a xs.length ca) xs) (B : Seg 0 w (.slice b ys.length cb) ys) (hx : xs.length ≤ 40) (hy : ys.length ≤ 40) (k : Int) (x : Int) (hx' : 0 ≤ x ∧ x < 18446744073709551616) (hl : 1000 < k) :
    Calls Try.prog 3 #[.slice a xs.length ca, .slice b ys.length cb, .int .i64 k, .int .u64 x] w fun e w' => e = .returned (.bool true) ∧ Below w.heap.size w w' := by
  have q0 := fun w => longNat_any a xs.length ca 40 w
  rw [decide_eq_false (show ¬ (40 : Int) < (xs.length : Int) by omega)] at q0
  have Q0 := hide q0
  have px := val_nonneg A.words
  have q1 := fun w => longNat_any b ys.length cb 40 w
  rw [decide_eq_false (show ¬ (40 : Int) < (ys.length : Int) by omega)] at q1
  have Q1 := hide q1
  have py := val_nonneg B.words
  clear q0 q1
  have hB := Below.refl w.heap.size w
  go_enter Try.func3, Try.ntmps3
  go_wp2_with (go_at_call 23; refine (ofl_any _ _ _ _).mono ?_; rintro e w' ⟨rfl, rfl⟩)
  have hA := Below.refl w.heap.size w
  refine (Q0.out _).mono ?_
  rintro e w1 ⟨rfl, hw⟩
  have hb := hw_below hw
  clear hw
  have hbb : Below w.heap.size w w1 := hA.trans (hb.mono hA.size)
  replace A := A.below hb
  replace B := B.below hb
  have z1 := hbb.size
  replace hB := hB.trans (hbb.mono hB.size)
  clear hb hbb hA  
  go_wp2_with (go_at_call 23; refine (ofl_any _ _ _ _).mono ?_; rintro e w' ⟨rfl, rfl⟩)
  have hA := Below.refl w1.heap.size w1
  refine (Q1.out _).mono ?_
  rintro e w2 ⟨rfl, hw⟩
  have hb := hw_below hw
  clear hw
  have hbb : Below w1.heap.size w1 w2 := hA.trans (hb.mono hA.size)
  replace A := A.below hb
  replace B := B.below hb
  have z2 := hbb.size
  replace hB := hB.trans (hbb.mono hB.size)
  clear hb hbb hA  
  go_wp2_with (go_at_call 23; refine (ofl_any _ _ _ _).mono ?_; rintro e w' ⟨rfl, rfl⟩)
  have hA := Below.refl w2.heap.size w2
  refine (copy_any A (by omega)).mono ?_
  rintro e w3 ⟨ai, ci, rfl, I, hb⟩
  have hbb : Below w2.heap.size w2 w3 := hA.trans (hb.mono hA.size)
  replace A := A.below hb
  replace B := B.below hb
  have z3 := hbb.size
  replace hB := hB.trans (hbb.mono hB.size)
  clear hb hbb hA  
  go_wp2_with (go_at_call 23; refine (ofl_any _ _ _ _).mono ?_; rintro e w' ⟨rfl, rfl⟩)
  have hA := Below.refl w3.heap.size w3
  refine (copy_any B (by omega)).mono ?_
  rintro e w4 ⟨aj, cj, rfl, J, hb⟩
  have hbb : Below w3.heap.size w3 w4 := hA.trans (hb.mono hA.size)
  replace A := A.below hb
  replace B := B.below hb
  replace I := I.below hb
  have z4 := hbb.size
  replace hB := hB.trans (hbb.mono hB.size)
  clear hb hbb hA  
  have A3 := A
  have B3 := B
  have I3 := I
  have J3 := J
  have h3 := Below.refl w4.heap.size w4
  go_wp2_with (go_at_call 23; refine (ofl_any _ _ _ _).mono ?_; rintro e w' ⟨rfl, rfl⟩)
  have hA := Below.refl w4.heap.size w4
  refine (rmul_any A B (by omega) (by omega)).mono ?_
  rintro e w5 ⟨a1, c1, z1, rfl, S1, N1, v1, l1, hb⟩
  have V1 : Hid (val z1 = val xs * val ys) := v1
  have b1 : z1.length ≤ 80 := by omega
  have hbb : Below w4.heap.size w4 w5 := hA.trans (hb.mono hA.size)
  replace A := A.below hb
  replace B := B.below hb
  replace I := I.below hb
  replace J := J.below hb
  have z5 := hbb.size
  replace hB := hB.trans (hbb.mono hB.size)
  replace h3 := h3.trans (hbb.mono h3.size)
  clear hb hbb hA  v1 l1
  go_wp2_with (go_at_call 23; refine (ofl_any _ _ _ _).mono ?_; rintro e w' ⟨rfl, rfl⟩)
  have hA := Below.refl w5.heap.size w5
  refine (school_any I J (by omega) (by omega)).mono ?_
  rintro e w6 ⟨a2, c2, z2, rfl, S2, N2, v2, l2, hb⟩
  have V2 : Hid (val z2 = val xs * val ys) := v2
  have b2 : z2.length ≤ 80 := by omega
  have hbb : Below w5.heap.size w5 w6 := hA.trans (hb.mono hA.size)
  replace A := A.below hb
  replace B := B.below hb
  replace I := I.below hb
  replace J := J.below hb
  replace S1 := S1.below hb
  have z6 := hbb.size
  replace hB := hB.trans (hbb.mono hB.size)
  replace h3 := h3.trans (hbb.mono h3.size)
  clear hb hbb hA  v2 l2
  have R2 := S2.block
  go_wp2_with (go_at_call 23; refine (ofl_any _ _ _ _).mono ?_; rintro e w' ⟨rfl, rfl⟩)
  have hA := Below.refl w6.heap.size w6
  refine (mul_any I J (by omega) (by omega)).mono ?_
  rintro e w7 ⟨a3, c3, z3, rfl, S3, N3, v3, l3, hb⟩
  have V3 : Hid (val z3 = val xs * val ys) := v3
  have b3 : z3.length ≤ 80 := by omega
  have hbb : Below w6.heap.size w6 w7 := hA.trans (hb.mono hA.size)
  replace A := A.below hb
  replace B := B.below hb
  replace I := I.below hb
  replace J := J.below hb
  replace S1 := S1.below hb
  replace S2 := S2.below hb
  have z7 := hbb.size
  replace hB := hB.trans (hbb.mono hB.size)
  replace h3 := h3.trans (hbb.mono h3.size)
  clear hb hbb hA  v3 l3
  have R3 := S3.block
  go_wp2_with (go_at_call 23; refine (ofl_any _ _ _ _).mono ?_; rintro e w' ⟨rfl, rfl⟩)
  have hA := Below.refl w7.heap.size w7
  refine (kara_no _ _ _ k (by omega)).mono ?_
  rintro e w8 ⟨rfl, hw⟩
  have hb := hw_below hw
  clear hw
  have hbb : Below w7.heap.size w7 w8 := hA.trans (hb.mono hA.size)
  replace A := A.below hb
  replace B := B.below hb
  replace I := I.below hb
  replace J := J.below hb
  replace S1 := S1.below hb
  replace S2 := S2.below hb
  replace S3 := S3.below hb
  have z8 := hbb.size
  replace hB := hB.trans (hbb.mono hB.size)
  replace h3 := h3.trans (hbb.mono h3.size)
  clear hb hbb hA  
  go_wp2_with (go_at_call 23; refine (ofl_any _ _ _ _).mono ?_; rintro e w' ⟨rfl, rfl⟩)
  have hA := Below.refl w8.heap.size w8
  refine (same_len S2 S1 (norm_unique S2.words S1.words N2 N1 (by rw [V2.out, V1.out])) (by omega)).mono ?_
  rintro e w9 ⟨rfl, hb⟩
  have hbb : Below w8.heap.size w8 w9 := hA.trans (hb.mono hA.size)
  replace A := A.below hb
  replace B := B.below hb
  replace I := I.below hb
  replace J := J.below hb
  replace S1 := S1.below hb
  replace S2 := S2.below hb
  replace S3 := S3.below hb
  have z9 := hbb.size
  replace hB := hB.trans (hbb.mono hB.size)
  replace h3 := h3.trans (hbb.mono h3.size)
  clear hb hbb hA  
  go_wp2_with (go_at_call 23; refine (ofl_any _ _ _ _).mono ?_; rintro e w' ⟨rfl, rfl⟩)
  have hA := Below.refl w9.heap.size w9
  refine (same_len S3 S1 (norm_unique S3.words S1.words N3 N1 (by rw [V3.out, V1.out])) (by omega)).mono ?_
  rintro e w10 ⟨rfl, hb⟩
  have hbb : Below w9.heap.size w9 w10 := hA.trans (hb.mono hA.size)
  replace A := A.below hb
  replace B := B.below hb
  replace I := I.below hb
  replace J := J.below hb
  replace S1 := S1.below hb
  replace S2 := S2.below hb
  replace S3 := S3.below hb
  have z10 := hbb.size
  replace hB := hB.trans (hbb.mono hB.size)
  replace h3 := h3.trans (hbb.mono h3.size)
  clear hb hbb hA  
  go_wp2_with (go_at_call 23; refine (ofl_any _ _ _ _).mono ?_; rintro e w' ⟨rfl, rfl⟩)
  have hA := Below.refl w10.heap.size w10
  refine (square_any I (by omega)).mono ?_
  rintro e w11 ⟨a5, c5, z5, rfl, S5, N5, v5, l5, hb⟩
  have V5 : Hid (val z5 = val xs * val xs) := v5
  have b5 : z5.length ≤ 80 := by omega
  have hbb : Below w10.heap.size w10 w11 := hA.trans (hb.mono hA.size)
  replace A := A.below hb
  replace B := B.below hb
  replace I := I.below hb
  replace J := J.below hb
  replace S1 := S1.below hb
  replace S2 := S2.below hb
  replace S3 := S3.below hb
  have z11 := hbb.size
  replace hB := hB.trans (hbb.mono hB.size)
  replace h3 := h3.trans (hbb.mono h3.size)
  clear hb hbb hA  v5 l5
  have R5 := S5.block
  go_wp2_with (go_at_call 23; refine (ofl_any _ _ _ _).mono ?_; rintro e w' ⟨rfl, rfl⟩)
  have hA := Below.refl w11.heap.size w11
  refine (tgrow_any I (by omega) x hx').mono ?_
  rintro e w12 ⟨a6, c6, z6, rfl, S6, N6, v6, l6, hb⟩
  have V6 : Hid (val z6 = val xs * x) := v6
  have b6 : z6.length ≤ 41 := by omega
  have hbb : Below w11.heap.size w11 w12 := hA.trans (hb.mono hA.size)
  replace A := A.below hb
  replace B := B.below hb
  replace I := I.below hb
  replace J := J.below hb
  replace S1 := S1.below hb
  replace S2 := S2.below hb
  replace S3 := S3.below hb
  replace S5 := S5.below hb
  have z12 := hbb.size
  replace hB := hB.trans (hbb.mono hB.size)
  replace h3 := h3.trans (hbb.mono h3.size)
  clear hb hbb hA  v6 l6
  have R6 := S6.block
  go_wp2_with (go_at_call 23; refine (ofl_any _ _ _ _).mono ?_; rintro e w' ⟨rfl, rfl⟩)
  have hA := Below.refl w12.heap.size w12
  refine (rmul_any A A (by omega) (by omega)).mono ?_
  rintro e w13 ⟨a7, c7, z7, rfl, S7, N7, v7, l7, hb⟩
  have V7 : Hid (val z7 = val xs * val xs) := v7
  have b7 : z7.length ≤ 80 := by omega
  have hbb : Below w12.heap.size w12 w13 := hA.trans (hb.mono hA.size)
  replace A := A.below hb
  replace B := B.below hb
  replace I := I.below hb
  replace J := J.below hb
  replace S1 := S1.below hb
  replace S2 := S2.below hb
  replace S3 := S3.below hb
  replace S5 := S5.below hb
  replace S6 := S6.below hb
  have z13 := hbb.size
  replace hB := hB.trans (hbb.mono hB.size)
  replace h3 := h3.trans (hbb.mono h3.size)
  clear hb hbb hA  v7 l7
  go_wp2_with (go_at_call 23; refine (ofl_any _ _ _ _).mono ?_; rintro e w' ⟨rfl, rfl⟩)
  have hA := Below.refl w13.heap.size w13
  refine (same_len S5 S7 (norm_unique S5.words S7.words N5 N7 (by rw [V5.out, V7.out])) (by omega)).mono ?_
  rintro e w14 ⟨rfl, hb⟩
  have hbb : Below w13.heap.size w13 w14 := hA.trans (hb.mono hA.size)
  replace A := A.below hb
  replace B := B.below hb
  replace I := I.below hb
  replace J := J.below hb
  replace S1 := S1.below hb
  replace S2 := S2.below hb
  replace S3 := S3.below hb
  replace S5 := S5.below hb
  replace S6 := S6.below hb
  replace S7 := S7.below hb
  have z14 := hbb.size
  replace hB := hB.trans (hbb.mono hB.size)
  replace h3 := h3.trans (hbb.mono h3.size)
  clear hb hbb hA  
  go_wp2_with (go_at_call 23; refine (ofl_any _ _ _ _).mono ?_; rintro e w' ⟨rfl, rfl⟩)
  have hA := Below.refl w14.heap.size w14
  refine (rgrow_any A (by omega) x hx').mono ?_
  rintro e w15 ⟨a8, c8, z8, rfl, S8, N8, v8, l8, hb⟩
  have V8 : Hid (val z8 = val xs * x) := v8
  have b8 : z8.length ≤ 41 := by omega
  have hbb : Below w14.heap.size w14 w15 := hA.trans (hb.mono hA.size)
  replace A := A.below hb
  replace B := B.below hb
  replace I := I.below hb
  replace J := J.below hb
  replace S1 := S1.below hb
  replace S2 := S2.below hb
  replace S3 := S3.below hb
  replace S5 := S5.below hb
  replace S6 := S6.below hb
  replace S7 := S7.below hb
  have z15 := hbb.size
  replace hB := hB.trans (hbb.mono hB.size)
  replace h3 := h3.trans (hbb.mono h3.size)
  clear hb hbb hA  v8 l8
  go_wp2_with (go_at_call 23; refine (ofl_any _ _ _ _).mono ?_; rintro e w' ⟨rfl, rfl⟩)
  have hA := Below.refl w15.heap.size w15
  refine (same_len S6 S8 (norm_unique S6.words S8.words N6 N8 (by rw [V6.out, V8.out])) (by omega)).mono ?_
  rintro e w16 ⟨rfl, hb⟩
  have hbb : Below w15.heap.size w15 w16 := hA.trans (hb.mono hA.size)
  replace A := A.below hb
  replace B := B.below hb
  replace I := I.below hb
  replace J := J.below hb
  replace S1 := S1.below hb
  replace S2 := S2.below hb
  replace S3 := S3.below hb
  replace S5 := S5.below hb
  replace S6 := S6.below hb
  replace S7 := S7.below hb
  replace S8 := S8.below hb
  have z16 := hbb.size
  replace hB := hB.trans (hbb.mono hB.size)
  replace h3 := h3.trans (hbb.mono h3.size)
  clear hb hbb hA  
  clear A B I J S1 S7 S8
  go_wp2_with (go_at_call 23; refine (ofl_any _ _ _ _).mono ?_; rintro e w' ⟨rfl, rfl⟩)
  refine (over_fr S2 (by omega) w6.heap.size R2).mono ?_
  rintro e w17 ⟨rfl, hlo, hhi⟩
  replace S3 := S3.above (fun k hk => hhi k (by omega)) hlo.size
  replace S5 := S5.above (fun k hk => hhi k (by omega)) hlo.size
  replace S6 := S6.above (fun k hk => hhi k (by omega)) hlo.size
  replace hB := hB.trans (hlo.mono (by omega))
  replace h3 := h3.trans (hlo.mono (by omega))
  have z17 := hlo.size
  clear hlo hhi S2 R2
  go_wp2_with (go_at_call 23; refine (ofl_any _ _ _ _).mono ?_; rintro e w' ⟨rfl, rfl⟩)
  refine (over_fr S3 (by omega) w7.heap.size R3).mono ?_
  rintro e w18 ⟨rfl, hlo, hhi⟩
  replace S5 := S5.above (fun k hk => hhi k (by omega)) hlo.size
  replace S6 := S6.above (fun k hk => hhi k (by omega)) hlo.size
  replace hB := hB.trans (hlo.mono (by omega))
  replace h3 := h3.trans (hlo.mono (by omega))
  have z18 := hlo.size
  clear hlo hhi S3 R3
  go_wp2_with (go_at_call 23; refine (ofl_any _ _ _ _).mono ?_; rintro e w' ⟨rfl, rfl⟩)
  refine (over_fr (Seg.nil w18.heap.size _) (by simp) 0 (fun h => absurd rfl h)).mono ?_
  rintro e w19 ⟨rfl, hlo, hhi⟩
  replace hB := hB.trans (hlo.mono (by omega))
  replace h3 := h3.trans (hlo.mono (by omega))
  replace S5 := S5.above (fun k _ => hhi k (Nat.zero_le _)) hlo.size
  replace S6 := S6.above (fun k _ => hhi k (Nat.zero_le _)) hlo.size
  have z19 := hlo.size
  clear hlo hhi
  go_wp2_with (go_at_call 23; refine (ofl_any _ _ _ _).mono ?_; rintro e w' ⟨rfl, rfl⟩)
  refine (over_fr S5 (by omega) w11.heap.size R5).mono ?_
  rintro e w20 ⟨rfl, hlo, hhi⟩
  replace S6 := S6.above (fun k hk => hhi k (by omega)) hlo.size
  replace hB := hB.trans (hlo.mono (by omega))
  replace h3 := h3.trans (hlo.mono (by omega))
  have z20 := hlo.size
  clear hlo hhi S5 R5
  go_wp2_with (go_at_call 23; refine (ofl_any _ _ _ _).mono ?_; rintro e w' ⟨rfl, rfl⟩)
  refine (over_fr S6 (by omega) w12.heap.size R6).mono ?_
  rintro e w21 ⟨rfl, hlo, hhi⟩
  replace hB := hB.trans (hlo.mono (by omega))
  replace h3 := h3.trans (hlo.mono (by omega))
  have z21 := hlo.size
  clear hlo hhi S6 R6
  have A := A3.below h3
  have B := B3.below h3
  have I := I3.below h3
  have J := J3.below h3
  go_wp2_with (go_at_call 23; refine (ofl_any _ _ _ _).mono ?_; rintro e w' ⟨rfl, rfl⟩)
  have hA := Below.refl w21.heap.size w21
  refine (same_len I A rfl (by omega)).mono ?_
  rintro e w22 ⟨rfl, hb⟩
  have hbb : Below w21.heap.size w21 w22 := hA.trans (hb.mono hA.size)
  replace A := A.below hb
  replace B := B.below hb
  replace I := I.below hb
  replace J := J.below hb
  have z22 := hbb.size
  replace hB := hB.trans (hbb.mono hB.size)
  replace h3 := h3.trans (hbb.mono h3.size)
  clear hb hbb hA  
  go_wp2_with (go_at_call 23; refine (ofl_any _ _ _ _).mono ?_; rintro e w' ⟨rfl, rfl⟩)
  have hA := Below.refl w22.heap.size w22
  refine (same_len J B rfl (by omega)).mono ?_
  rintro e w23 ⟨rfl, hb⟩
  have hbb : Below w22.heap.size w22 w23 := hA.trans (hb.mono hA.size)
  replace A := A.below hb
  replace B := B.below hb
  replace I := I.below hb
  replace J := J.below hb
  have z23 := hbb.size
  replace hB := hB.trans (hbb.mono hB.size)
  replace h3 := h3.trans (hbb.mono h3.size)
  clear hb hbb hA  
  go_wp2_with (go_at_call 23; refine (ofl_any _ _ _ _).mono ?_; rintro e w' ⟨rfl, rfl⟩)
  have hA := Below.refl w23.heap.size w23
  refine (awake_any _).mono ?_
  rintro e w24 ⟨rfl, hb⟩
  have hbb : Below w23.heap.size w23 w24 := hA.trans (hb.mono hA.size)
  replace A := A.below hb
  replace B := B.below hb
  replace I := I.below hb
  replace J := J.below hb
  have z24 := hbb.size
  replace hB := hB.trans (hbb.mono hB.size)
  replace h3 := h3.trans (hbb.mono h3.size)
  clear hb hbb hA  
  go_wp2
  go_ret
  exact ⟨rfl, hB⟩

theorem products_any {a b : Option Addr} {la ca lb cb : Nat} {xs ys : List Int} {w : World} (A : Seg 0 w (.slice a la ca) xs) (B : Seg 0 w (.slice b lb cb) ys) (k : Int) (_ : -9223372036854775808 ≤ k ∧ k ≤ 9223372036854775807) (x : Int) (hx : 0 ≤ x ∧ x < 18446744073709551616) :
    Calls Try.prog 3 #[.slice a la ca, .slice b lb cb, .int .i64 k, .int .u64 x] w fun e w' => e = .returned (.bool true) ∧ Below w.heap.size w w' := by
  by_cases h : 40 < la ∨ 40 < lb
  · exact products_long a la ca b lb cb k x w h
  · obtain ⟨rfl, _⟩ := A.len
    obtain ⟨rfl, _⟩ := B.len
    by_cases h1 : k < 2
    · exact products_low A B (by omega) (by omega) k x hx h1
    · by_cases h2 : 1000 < k
      · exact products_high A B (by omega) (by omega) k x hx h2
      · exact products_yes A B (by omega) (by omega) k x hx (by omega)
#print axioms products_any
end Go.Proofs.Ytmgngkmdfccjaaa
