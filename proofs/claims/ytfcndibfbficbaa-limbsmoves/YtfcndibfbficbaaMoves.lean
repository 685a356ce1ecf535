/-
  The walk of LimbsMoves.
-/
import Derived.Test.YtfcndibfbficbaaRefE
import Derived.Test.YtfcndibfbficbaaRefF
import Derived.Test.YtfcndibfbficbaaBack
namespace Go.Proofs.Ytfcndibfbficbaa
open Go.RowKit

/-- The document's Up, be n 0 or not. -/
theorem rup_any {lo : Nat} {a : Option Addr} {cap : Nat} {zs : List Int} {w : World} (h : Seg lo w (.slice a zs.length cap) zs) (hl : zs.length ≤ 10000) (bits : Nat) (hbits : bits ≤ 16777216) :
    Calls Try.prog 23 #[.slice a zs.length cap, .int .i64 bits] w fun e w' => ∃ (a' : Option Addr) (cap' : Nat) (us : List Int), e = .returned (.tuple #[.slice a' us.length cap', .int .i64 0]) ∧ Seg w.heap.size w' (.slice a' us.length cap') us ∧ Norm us ∧ val us = val zs * 2 ^ bits ∧ us.length ≤ zs.length + bits / 64 + 1 ∧ Below w.heap.size w w' := by
  by_cases h0 : val zs = 0
  · refine (rup_zero h hl bits hbits h0).mono ?_
    rintro e w' ⟨rfl, hb⟩
    exact ⟨none, 0, [], rfl, Seg.nil _ _, norm_nil, by rw [h0, val_nil, Int.zero_mul], Nat.zero_le _, hb⟩
  · exact rup_yes h hl bits hbits h0

set_option maxRecDepth 100000 in
set_option maxHeartbeats 1000000 in
/-- LimbsMoves, where the list is long, or the bits are many. -/
theorem moves_long (a : Option Addr) (la ca : Nat) (b x : Int) (w : World) (h : 60 < la ∨ (5000 < b ∧ b ≤ 16777216)) :
    Calls Try.prog 4 #[.slice a la ca, .int .i64 b, .int .u64 x] w fun e w' => e = .returned (.bool true) ∧ Below w.heap.size w w' := by
  have l1 := fun w => long_any a none la ca 0 0 w
  by_cases hl : 60 < la
  · rw [decide_eq_true (Or.inl hl)] at l1
    clear h hl
    have L1 := hide l1
    clear l1
    go_enter Try.func4, Try.ntmps4
    go_wp2_with fail
    refine (L1.out _).mono ?_
    rintro e w2 ⟨rfl, rfl⟩
    go_wp2_with fail
    refine (awake_any _).mono ?_
    rintro e w1 ⟨rfl, hb1⟩
    go_wp2
    go_ret
    exact ⟨rfl, hb1⟩
  · rw [decide_eq_false (show ¬ (60 < la ∨ 60 < 0) by omega)] at l1
    obtain ⟨g1, g2⟩ := h.resolve_left hl
    clear h hl
    have L1 := hide l1
    clear l1
    go_enter Try.func4, Try.ntmps4
    go_wp2_with fail
    refine (L1.out _).mono ?_
    rintro e w2 ⟨rfl, rfl⟩
    go_wp2_with fail
    refine (awake_any _).mono ?_
    rintro e w1 ⟨rfl, hb1⟩
    go_wp2
    go_ret
    exact ⟨rfl, hb1⟩

set_option maxRecDepth 100000 in
set_option maxHeartbeats 8000000 in
theorem moves_ok_one {a : Option Addr} {ca : Nat} {zs : List Int} {w : World} (A : Seg 0 w (.slice a zs.length ca) zs) (hz : zs.length ≤ 60) (b : Nat) (hb : b ≤ 5000) (x : Int) (hx : 0 ≤ x ∧ x < 18446744073709551616) (h1 : Hid (val zs < 18446744073709551616)) :
    Calls Try.prog 4 #[.slice a zs.length ca, .int .i64 b, .int .u64 x] w fun e w' => e = .returned (.bool true) ∧ Below w.heap.size w w' := by
  have g1 : ¬ (5000 : Int) < (b : Int) := by omega
  have l1 := fun w => long_any a none zs.length ca 0 0 w
  rw [decide_eq_false (show ¬ (60 < zs.length ∨ 60 < 0) by omega)] at l1
  have L1 := hide l1
  clear l1
  have hB := Below.refl w.heap.size w
  go_enter Try.func4, Try.ntmps4
  go_wp2_with fail
  have hA := Below.refl w.heap.size w
  refine (L1.out _).mono ?_
  rintro e w1 ⟨rfl, hw⟩
  have hb := hw_below hw
  clear hw
  have hbb : Below w.heap.size w w1 := hA.trans (hb.mono hA.size)
  replace A := A.below hb
  have z1 := hbb.size
  replace hB := hB.trans (hbb.mono hB.size)
  clear hb hbb hA  
  go_wp2_with fail
  have hA := Below.refl w1.heap.size w1
  refine (copy_any A (by omega)).mono ?_
  rintro e w2 ⟨ai, ci, rfl, I, hb⟩
  have hbb : Below w1.heap.size w1 w2 := hA.trans (hb.mono hA.size)
  replace A := A.below hb
  have z2 := hbb.size
  replace hB := hB.trans (hbb.mono hB.size)
  clear hb hbb hA  
  have A2 := A
  have I2 := I
  have h2 := Below.refl w2.heap.size w2
  go_wp2_with fail
  have hA := Below.refl w2.heap.size w2
  refine (up_any I (by omega) b (by omega)).mono ?_
  rintro e w3 ⟨a1, c1, z1, rfl, S1, N1, v1, l1, hb⟩
  have V1 : Hid (val z1 = val zs * 2 ^ b) := v1
  have b1 : z1.length ≤ 140 := by omega
  have hbb : Below w2.heap.size w2 w3 := hA.trans (hb.mono hA.size)
  replace A := A.below hb
  replace I := I.below hb
  have z3 := hbb.size
  replace hB := hB.trans (hbb.mono hB.size)
  replace h2 := h2.trans (hbb.mono h2.size)
  clear hb hbb hA  v1 l1
  have R1 := S1.block
  go_wp2_with fail
  have hA := Below.refl w3.heap.size w3
  refine (rup_any A (by omega) b (by omega)).mono ?_
  rintro e w4 ⟨a2, c2, z2, rfl, S2, N2, v2, l2, hb⟩
  have V2 : Hid (val z2 = val zs * 2 ^ b) := v2
  have b2 : z2.length ≤ 140 := by omega
  have hbb : Below w3.heap.size w3 w4 := hA.trans (hb.mono hA.size)
  replace A := A.below hb
  replace I := I.below hb
  replace S1 := S1.below hb
  have z4 := hbb.size
  replace hB := hB.trans (hbb.mono hB.size)
  replace h2 := h2.trans (hbb.mono h2.size)
  clear hb hbb hA  v2 l2
  go_wp2_with fail
  have hA := Below.refl w4.heap.size w4
  refine (down_yes I (by omega) b (by omega)).mono ?_
  rintro e w5 ⟨a3, c3, z3, rfl, S3, N3, v3, l3, hb⟩
  have V3 : Hid (val z3 = val zs / 2 ^ b) := v3
  have b3 : z3.length ≤ 60 := by omega
  have hbb : Below w4.heap.size w4 w5 := hA.trans (hb.mono hA.size)
  replace A := A.below hb
  replace I := I.below hb
  replace S1 := S1.below hb
  replace S2 := S2.below hb
  have z5 := hbb.size
  replace hB := hB.trans (hbb.mono hB.size)
  replace h2 := h2.trans (hbb.mono h2.size)
  clear hb hbb hA  v3 l3
  have R3 := S3.block
  go_wp2_with fail
  have hA := Below.refl w5.heap.size w5
  refine (rdown_yes A (by omega) b (by omega)).mono ?_
  rintro e w6 ⟨a4, c4, z4, rfl, S4, N4, v4, l4, hb⟩
  have V4 : Hid (val z4 = val zs / 2 ^ b) := v4
  have b4 : z4.length ≤ 60 := by omega
  have hbb : Below w5.heap.size w5 w6 := hA.trans (hb.mono hA.size)
  replace A := A.below hb
  replace I := I.below hb
  replace S1 := S1.below hb
  replace S2 := S2.below hb
  replace S3 := S3.below hb
  have z6 := hbb.size
  replace hB := hB.trans (hbb.mono hB.size)
  replace h2 := h2.trans (hbb.mono h2.size)
  clear hb hbb hA  v4 l4
  go_wp2_with fail
  have hA := Below.refl w6.heap.size w6
  refine (trim_any I (by omega)).mono ?_
  rintro e w7 ⟨a5, c5, z5, rfl, S5, N5, v5, l5, hb⟩
  have V5 : Hid (val z5 = val zs) := v5
  have b5 : z5.length ≤ 60 := by omega
  have hbb : Below w6.heap.size w6 w7 := hA.trans (hb.mono hA.size)
  replace A := A.below hb
  replace I := I.below hb
  replace S1 := S1.below hb
  replace S2 := S2.below hb
  replace S3 := S3.below hb
  replace S4 := S4.below hb
  have z7 := hbb.size
  replace hB := hB.trans (hbb.mono hB.size)
  replace h2 := h2.trans (hbb.mono h2.size)
  clear hb hbb hA  v5 l5
  have R5 := S5.block
  go_wp2_with fail
  have hA := Below.refl w7.heap.size w7
  refine (one_yes I (by omega) h1.out).mono ?_
  rintro e w8 ⟨rfl, hb⟩
  have hbb : Below w7.heap.size w7 w8 := hA.trans (hb.mono hA.size)
  replace A := A.below hb
  replace I := I.below hb
  replace S1 := S1.below hb
  replace S2 := S2.below hb
  replace S3 := S3.below hb
  replace S4 := S4.below hb
  replace S5 := S5.below hb
  have z8 := hbb.size
  replace hB := hB.trans (hbb.mono hB.size)
  replace h2 := h2.trans (hbb.mono h2.size)
  clear hb hbb hA  
  go_wp2_with fail
  have hA := Below.refl w8.heap.size w8
  refine (rone_yes A (by omega) h1.out).mono ?_
  rintro e w9 ⟨rfl, hb⟩
  have hbb : Below w8.heap.size w8 w9 := hA.trans (hb.mono hA.size)
  replace A := A.below hb
  replace I := I.below hb
  replace S1 := S1.below hb
  replace S2 := S2.below hb
  replace S3 := S3.below hb
  replace S4 := S4.below hb
  replace S5 := S5.below hb
  have z9 := hbb.size
  replace hB := hB.trans (hbb.mono hB.size)
  replace h2 := h2.trans (hbb.mono h2.size)
  clear hb hbb hA  
  go_wp2_with fail
  have hA := Below.refl w9.heap.size w9
  refine (same_len S1 S2 (norm_unique S1.words S2.words N1 N2 (by rw [V1.out, V2.out])) (by omega)).mono ?_
  rintro e w10 ⟨rfl, hb⟩
  have hbb : Below w9.heap.size w9 w10 := hA.trans (hb.mono hA.size)
  replace A := A.below hb
  replace I := I.below hb
  replace S1 := S1.below hb
  replace S2 := S2.below hb
  replace S3 := S3.below hb
  replace S4 := S4.below hb
  replace S5 := S5.below hb
  have z10 := hbb.size
  replace hB := hB.trans (hbb.mono hB.size)
  replace h2 := h2.trans (hbb.mono h2.size)
  clear hb hbb hA  
  go_wp2_with fail
  have hA := Below.refl w10.heap.size w10
  refine (same_len S3 S4 (norm_unique S3.words S4.words N3 N4 (by rw [V3.out, V4.out])) (by omega)).mono ?_
  rintro e w11 ⟨rfl, hb⟩
  have hbb : Below w10.heap.size w10 w11 := hA.trans (hb.mono hA.size)
  replace A := A.below hb
  replace I := I.below hb
  replace S1 := S1.below hb
  replace S2 := S2.below hb
  replace S3 := S3.below hb
  replace S4 := S4.below hb
  replace S5 := S5.below hb
  have z11 := hbb.size
  replace hB := hB.trans (hbb.mono hB.size)
  replace h2 := h2.trans (hbb.mono h2.size)
  clear hb hbb hA  
  go_wp2_with fail
  have hA := Below.refl w11.heap.size w11
  refine (rtrim_any A (by omega)).mono ?_
  rintro e w12 ⟨a6, c6, z6, rfl, S6, N6, v6, l6, hb⟩
  have V6 : Hid (val z6 = val zs) := v6
  have b6 : z6.length ≤ 60 := by omega
  have hbb : Below w11.heap.size w11 w12 := hA.trans (hb.mono hA.size)
  replace A := A.below hb
  replace I := I.below hb
  replace S1 := S1.below hb
  replace S2 := S2.below hb
  replace S3 := S3.below hb
  replace S4 := S4.below hb
  replace S5 := S5.below hb
  have z12 := hbb.size
  replace hB := hB.trans (hbb.mono hB.size)
  replace h2 := h2.trans (hbb.mono h2.size)
  clear hb hbb hA  v6 l6
  go_wp2_with fail
  have hA := Below.refl w12.heap.size w12
  refine (same_len S5 S6 (norm_unique S5.words S6.words N5 N6 (by rw [V5.out, V6.out])) (by omega)).mono ?_
  rintro e w13 ⟨rfl, hb⟩
  have hbb : Below w12.heap.size w12 w13 := hA.trans (hb.mono hA.size)
  replace A := A.below hb
  replace I := I.below hb
  replace S1 := S1.below hb
  replace S2 := S2.below hb
  replace S3 := S3.below hb
  replace S4 := S4.below hb
  replace S5 := S5.below hb
  replace S6 := S6.below hb
  have z13 := hbb.size
  replace hB := hB.trans (hbb.mono hB.size)
  replace h2 := h2.trans (hbb.mono h2.size)
  clear hb hbb hA  
  go_wp2_with fail
  have hA := Below.refl w13.heap.size w13
  refine (check_any I (by omega)).mono ?_
  rintro e w14 ⟨rfl, hb⟩
  have hbb : Below w13.heap.size w13 w14 := hA.trans (hb.mono hA.size)
  replace A := A.below hb
  replace I := I.below hb
  replace S1 := S1.below hb
  replace S2 := S2.below hb
  replace S3 := S3.below hb
  replace S4 := S4.below hb
  replace S5 := S5.below hb
  replace S6 := S6.below hb
  have z14 := hbb.size
  replace hB := hB.trans (hbb.mono hB.size)
  replace h2 := h2.trans (hbb.mono h2.size)
  clear hb hbb hA  
  go_wp2_with fail
  have hA := Below.refl w14.heap.size w14
  refine (rcheck_any A (by omega)).mono ?_
  rintro e w15 ⟨rfl, hw⟩
  have hb := hw_below hw
  clear hw
  have hbb : Below w14.heap.size w14 w15 := hA.trans (hb.mono hA.size)
  replace A := A.below hb
  replace I := I.below hb
  replace S1 := S1.below hb
  replace S2 := S2.below hb
  replace S3 := S3.below hb
  replace S4 := S4.below hb
  replace S5 := S5.below hb
  replace S6 := S6.below hb
  have z15 := hbb.size
  replace hB := hB.trans (hbb.mono hB.size)
  replace h2 := h2.trans (hbb.mono h2.size)
  clear hb hbb hA  
  go_wp2_with fail
  have hA := Below.refl w15.heap.size w15
  refine (of_any x hx _).mono ?_
  rintro e w16 ⟨a7, c7, z7, rfl, S7, N7, v7, l7, hb⟩
  have V7 : Hid (val z7 = x) := v7
  have b7 : z7.length ≤ 1 := by omega
  have hbb : Below w15.heap.size w15 w16 := hA.trans (hb.mono hA.size)
  replace A := A.below hb
  replace I := I.below hb
  replace S1 := S1.below hb
  replace S2 := S2.below hb
  replace S3 := S3.below hb
  replace S4 := S4.below hb
  replace S5 := S5.below hb
  replace S6 := S6.below hb
  have z16 := hbb.size
  replace hB := hB.trans (hbb.mono hB.size)
  replace h2 := h2.trans (hbb.mono h2.size)
  clear hb hbb hA  v7 l7
  go_wp2_with fail
  have hA := Below.refl w16.heap.size w16
  refine (rof_any x hx _).mono ?_
  rintro e w17 ⟨a8, c8, z8, rfl, S8, N8, v8, l8, hb⟩
  have V8 : Hid (val z8 = x) := v8
  have b8 : z8.length ≤ 1 := by omega
  have hbb : Below w16.heap.size w16 w17 := hA.trans (hb.mono hA.size)
  replace A := A.below hb
  replace I := I.below hb
  replace S1 := S1.below hb
  replace S2 := S2.below hb
  replace S3 := S3.below hb
  replace S4 := S4.below hb
  replace S5 := S5.below hb
  replace S6 := S6.below hb
  replace S7 := S7.below hb
  have z17 := hbb.size
  replace hB := hB.trans (hbb.mono hB.size)
  replace h2 := h2.trans (hbb.mono h2.size)
  clear hb hbb hA  v8 l8
  go_wp2_with fail
  have hA := Below.refl w17.heap.size w17
  refine (same_len S7 S8 (norm_unique S7.words S8.words N7 N8 (by rw [V7.out, V8.out])) (by omega)).mono ?_
  rintro e w18 ⟨rfl, hb⟩
  have hbb : Below w17.heap.size w17 w18 := hA.trans (hb.mono hA.size)
  replace A := A.below hb
  replace I := I.below hb
  replace S1 := S1.below hb
  replace S2 := S2.below hb
  replace S3 := S3.below hb
  replace S4 := S4.below hb
  replace S5 := S5.below hb
  replace S6 := S6.below hb
  replace S7 := S7.below hb
  replace S8 := S8.below hb
  have z18 := hbb.size
  replace hB := hB.trans (hbb.mono hB.size)
  replace h2 := h2.trans (hbb.mono h2.size)
  clear hb hbb hA  
  clear A I S6 S7 S8 S2 S4
  go_wp2_with fail
  refine (over_fr S1 (by omega) w3.heap.size R1).mono ?_
  rintro e w19 ⟨rfl, hlo, hhi⟩
  replace S3 := S3.above (fun k hk => hhi k (by omega)) hlo.size
  replace S5 := S5.above (fun k hk => hhi k (by omega)) hlo.size
  replace hB := hB.trans (hlo.mono (by omega))
  replace h2 := h2.trans (hlo.mono (by omega))
  have z19 := hlo.size
  clear hlo hhi S1 R1
  go_wp2_with fail
  refine (over_fr S3 (by omega) w5.heap.size R3).mono ?_
  rintro e w20 ⟨rfl, hlo, hhi⟩
  replace S5 := S5.above (fun k hk => hhi k (by omega)) hlo.size
  replace hB := hB.trans (hlo.mono (by omega))
  replace h2 := h2.trans (hlo.mono (by omega))
  have z20 := hlo.size
  clear hlo hhi S3 R3
  go_wp2_with fail
  refine (over_fr S5 (by omega) w7.heap.size R5).mono ?_
  rintro e w21 ⟨rfl, hlo, hhi⟩
  replace hB := hB.trans (hlo.mono (by omega))
  replace h2 := h2.trans (hlo.mono (by omega))
  have z21 := hlo.size
  clear hlo hhi S5 R5
  have A := A2.below h2
  have I := I2.below h2
  go_wp2_with fail
  have hA := Below.refl w21.heap.size w21
  refine (same_len I A rfl (by omega)).mono ?_
  rintro e w22 ⟨rfl, hb⟩
  have hbb : Below w21.heap.size w21 w22 := hA.trans (hb.mono hA.size)
  replace A := A.below hb
  replace I := I.below hb
  have z22 := hbb.size
  replace hB := hB.trans (hbb.mono hB.size)
  replace h2 := h2.trans (hbb.mono h2.size)
  clear hb hbb hA  
  go_wp2_with fail
  have hA := Below.refl w22.heap.size w22
  refine (awake_any _).mono ?_
  rintro e w23 ⟨rfl, hb⟩
  have hbb : Below w22.heap.size w22 w23 := hA.trans (hb.mono hA.size)
  replace A := A.below hb
  replace I := I.below hb
  have z23 := hbb.size
  replace hB := hB.trans (hbb.mono hB.size)
  replace h2 := h2.trans (hbb.mono h2.size)
  clear hb hbb hA  
  go_wp2
  go_ret
  exact ⟨rfl, hB⟩

set_option maxRecDepth 100000 in
set_option maxHeartbeats 8000000 in
theorem moves_ok_more {a : Option Addr} {ca : Nat} {zs : List Int} {w : World} (A : Seg 0 w (.slice a zs.length ca) zs) (hz : zs.length ≤ 60) (b : Nat) (hb : b ≤ 5000) (x : Int) (hx : 0 ≤ x ∧ x < 18446744073709551616) (h1 : Hid (18446744073709551616 ≤ val zs)) :
    Calls Try.prog 4 #[.slice a zs.length ca, .int .i64 b, .int .u64 x] w fun e w' => e = .returned (.bool true) ∧ Below w.heap.size w w' := by
  have g1 : ¬ (5000 : Int) < (b : Int) := by omega
  have l1 := fun w => long_any a none zs.length ca 0 0 w
  rw [decide_eq_false (show ¬ (60 < zs.length ∨ 60 < 0) by omega)] at l1
  have L1 := hide l1
  clear l1
  have hB := Below.refl w.heap.size w
  go_enter Try.func4, Try.ntmps4
  go_wp2_with fail
  have hA := Below.refl w.heap.size w
  refine (L1.out _).mono ?_
  rintro e w1 ⟨rfl, hw⟩
  have hb := hw_below hw
  clear hw
  have hbb : Below w.heap.size w w1 := hA.trans (hb.mono hA.size)
  replace A := A.below hb
  have z1 := hbb.size
  replace hB := hB.trans (hbb.mono hB.size)
  clear hb hbb hA  
  go_wp2_with fail
  have hA := Below.refl w1.heap.size w1
  refine (copy_any A (by omega)).mono ?_
  rintro e w2 ⟨ai, ci, rfl, I, hb⟩
  have hbb : Below w1.heap.size w1 w2 := hA.trans (hb.mono hA.size)
  replace A := A.below hb
  have z2 := hbb.size
  replace hB := hB.trans (hbb.mono hB.size)
  clear hb hbb hA  
  have A2 := A
  have I2 := I
  have h2 := Below.refl w2.heap.size w2
  go_wp2_with fail
  have hA := Below.refl w2.heap.size w2
  refine (up_any I (by omega) b (by omega)).mono ?_
  rintro e w3 ⟨a1, c1, z1, rfl, S1, N1, v1, l1, hb⟩
  have V1 : Hid (val z1 = val zs * 2 ^ b) := v1
  have b1 : z1.length ≤ 140 := by omega
  have hbb : Below w2.heap.size w2 w3 := hA.trans (hb.mono hA.size)
  replace A := A.below hb
  replace I := I.below hb
  have z3 := hbb.size
  replace hB := hB.trans (hbb.mono hB.size)
  replace h2 := h2.trans (hbb.mono h2.size)
  clear hb hbb hA  v1 l1
  have R1 := S1.block
  go_wp2_with fail
  have hA := Below.refl w3.heap.size w3
  refine (rup_any A (by omega) b (by omega)).mono ?_
  rintro e w4 ⟨a2, c2, z2, rfl, S2, N2, v2, l2, hb⟩
  have V2 : Hid (val z2 = val zs * 2 ^ b) := v2
  have b2 : z2.length ≤ 140 := by omega
  have hbb : Below w3.heap.size w3 w4 := hA.trans (hb.mono hA.size)
  replace A := A.below hb
  replace I := I.below hb
  replace S1 := S1.below hb
  have z4 := hbb.size
  replace hB := hB.trans (hbb.mono hB.size)
  replace h2 := h2.trans (hbb.mono h2.size)
  clear hb hbb hA  v2 l2
  go_wp2_with fail
  have hA := Below.refl w4.heap.size w4
  refine (down_yes I (by omega) b (by omega)).mono ?_
  rintro e w5 ⟨a3, c3, z3, rfl, S3, N3, v3, l3, hb⟩
  have V3 : Hid (val z3 = val zs / 2 ^ b) := v3
  have b3 : z3.length ≤ 60 := by omega
  have hbb : Below w4.heap.size w4 w5 := hA.trans (hb.mono hA.size)
  replace A := A.below hb
  replace I := I.below hb
  replace S1 := S1.below hb
  replace S2 := S2.below hb
  have z5 := hbb.size
  replace hB := hB.trans (hbb.mono hB.size)
  replace h2 := h2.trans (hbb.mono h2.size)
  clear hb hbb hA  v3 l3
  have R3 := S3.block
  go_wp2_with fail
  have hA := Below.refl w5.heap.size w5
  refine (rdown_yes A (by omega) b (by omega)).mono ?_
  rintro e w6 ⟨a4, c4, z4, rfl, S4, N4, v4, l4, hb⟩
  have V4 : Hid (val z4 = val zs / 2 ^ b) := v4
  have b4 : z4.length ≤ 60 := by omega
  have hbb : Below w5.heap.size w5 w6 := hA.trans (hb.mono hA.size)
  replace A := A.below hb
  replace I := I.below hb
  replace S1 := S1.below hb
  replace S2 := S2.below hb
  replace S3 := S3.below hb
  have z6 := hbb.size
  replace hB := hB.trans (hbb.mono hB.size)
  replace h2 := h2.trans (hbb.mono h2.size)
  clear hb hbb hA  v4 l4
  go_wp2_with fail
  have hA := Below.refl w6.heap.size w6
  refine (trim_any I (by omega)).mono ?_
  rintro e w7 ⟨a5, c5, z5, rfl, S5, N5, v5, l5, hb⟩
  have V5 : Hid (val z5 = val zs) := v5
  have b5 : z5.length ≤ 60 := by omega
  have hbb : Below w6.heap.size w6 w7 := hA.trans (hb.mono hA.size)
  replace A := A.below hb
  replace I := I.below hb
  replace S1 := S1.below hb
  replace S2 := S2.below hb
  replace S3 := S3.below hb
  replace S4 := S4.below hb
  have z7 := hbb.size
  replace hB := hB.trans (hbb.mono hB.size)
  replace h2 := h2.trans (hbb.mono h2.size)
  clear hb hbb hA  v5 l5
  have R5 := S5.block
  go_wp2_with fail
  have hA := Below.refl w7.heap.size w7
  refine (one_no I (by omega) h1.out).mono ?_
  rintro e w8 ⟨rfl, hb⟩
  have hbb : Below w7.heap.size w7 w8 := hA.trans (hb.mono hA.size)
  replace A := A.below hb
  replace I := I.below hb
  replace S1 := S1.below hb
  replace S2 := S2.below hb
  replace S3 := S3.below hb
  replace S4 := S4.below hb
  replace S5 := S5.below hb
  have z8 := hbb.size
  replace hB := hB.trans (hbb.mono hB.size)
  replace h2 := h2.trans (hbb.mono h2.size)
  clear hb hbb hA  
  go_wp2_with fail
  have hA := Below.refl w8.heap.size w8
  refine (rone_no A (by omega) h1.out).mono ?_
  rintro e w9 ⟨rfl, hb⟩
  have hbb : Below w8.heap.size w8 w9 := hA.trans (hb.mono hA.size)
  replace A := A.below hb
  replace I := I.below hb
  replace S1 := S1.below hb
  replace S2 := S2.below hb
  replace S3 := S3.below hb
  replace S4 := S4.below hb
  replace S5 := S5.below hb
  have z9 := hbb.size
  replace hB := hB.trans (hbb.mono hB.size)
  replace h2 := h2.trans (hbb.mono h2.size)
  clear hb hbb hA  
  go_wp2_with fail
  have hA := Below.refl w9.heap.size w9
  refine (same_len S1 S2 (norm_unique S1.words S2.words N1 N2 (by rw [V1.out, V2.out])) (by omega)).mono ?_
  rintro e w10 ⟨rfl, hb⟩
  have hbb : Below w9.heap.size w9 w10 := hA.trans (hb.mono hA.size)
  replace A := A.below hb
  replace I := I.below hb
  replace S1 := S1.below hb
  replace S2 := S2.below hb
  replace S3 := S3.below hb
  replace S4 := S4.below hb
  replace S5 := S5.below hb
  have z10 := hbb.size
  replace hB := hB.trans (hbb.mono hB.size)
  replace h2 := h2.trans (hbb.mono h2.size)
  clear hb hbb hA  
  go_wp2_with fail
  have hA := Below.refl w10.heap.size w10
  refine (same_len S3 S4 (norm_unique S3.words S4.words N3 N4 (by rw [V3.out, V4.out])) (by omega)).mono ?_
  rintro e w11 ⟨rfl, hb⟩
  have hbb : Below w10.heap.size w10 w11 := hA.trans (hb.mono hA.size)
  replace A := A.below hb
  replace I := I.below hb
  replace S1 := S1.below hb
  replace S2 := S2.below hb
  replace S3 := S3.below hb
  replace S4 := S4.below hb
  replace S5 := S5.below hb
  have z11 := hbb.size
  replace hB := hB.trans (hbb.mono hB.size)
  replace h2 := h2.trans (hbb.mono h2.size)
  clear hb hbb hA  
  go_wp2_with fail
  have hA := Below.refl w11.heap.size w11
  refine (rtrim_any A (by omega)).mono ?_
  rintro e w12 ⟨a6, c6, z6, rfl, S6, N6, v6, l6, hb⟩
  have V6 : Hid (val z6 = val zs) := v6
  have b6 : z6.length ≤ 60 := by omega
  have hbb : Below w11.heap.size w11 w12 := hA.trans (hb.mono hA.size)
  replace A := A.below hb
  replace I := I.below hb
  replace S1 := S1.below hb
  replace S2 := S2.below hb
  replace S3 := S3.below hb
  replace S4 := S4.below hb
  replace S5 := S5.below hb
  have z12 := hbb.size
  replace hB := hB.trans (hbb.mono hB.size)
  replace h2 := h2.trans (hbb.mono h2.size)
  clear hb hbb hA  v6 l6
  go_wp2_with fail
  have hA := Below.refl w12.heap.size w12
  refine (same_len S5 S6 (norm_unique S5.words S6.words N5 N6 (by rw [V5.out, V6.out])) (by omega)).mono ?_
  rintro e w13 ⟨rfl, hb⟩
  have hbb : Below w12.heap.size w12 w13 := hA.trans (hb.mono hA.size)
  replace A := A.below hb
  replace I := I.below hb
  replace S1 := S1.below hb
  replace S2 := S2.below hb
  replace S3 := S3.below hb
  replace S4 := S4.below hb
  replace S5 := S5.below hb
  replace S6 := S6.below hb
  have z13 := hbb.size
  replace hB := hB.trans (hbb.mono hB.size)
  replace h2 := h2.trans (hbb.mono h2.size)
  clear hb hbb hA  
  go_wp2_with fail
  have hA := Below.refl w13.heap.size w13
  refine (check_any I (by omega)).mono ?_
  rintro e w14 ⟨rfl, hb⟩
  have hbb : Below w13.heap.size w13 w14 := hA.trans (hb.mono hA.size)
  replace A := A.below hb
  replace I := I.below hb
  replace S1 := S1.below hb
  replace S2 := S2.below hb
  replace S3 := S3.below hb
  replace S4 := S4.below hb
  replace S5 := S5.below hb
  replace S6 := S6.below hb
  have z14 := hbb.size
  replace hB := hB.trans (hbb.mono hB.size)
  replace h2 := h2.trans (hbb.mono h2.size)
  clear hb hbb hA  
  go_wp2_with fail
  have hA := Below.refl w14.heap.size w14
  refine (rcheck_any A (by omega)).mono ?_
  rintro e w15 ⟨rfl, hw⟩
  have hb := hw_below hw
  clear hw
  have hbb : Below w14.heap.size w14 w15 := hA.trans (hb.mono hA.size)
  replace A := A.below hb
  replace I := I.below hb
  replace S1 := S1.below hb
  replace S2 := S2.below hb
  replace S3 := S3.below hb
  replace S4 := S4.below hb
  replace S5 := S5.below hb
  replace S6 := S6.below hb
  have z15 := hbb.size
  replace hB := hB.trans (hbb.mono hB.size)
  replace h2 := h2.trans (hbb.mono h2.size)
  clear hb hbb hA  
  go_wp2_with fail
  have hA := Below.refl w15.heap.size w15
  refine (of_any x hx _).mono ?_
  rintro e w16 ⟨a7, c7, z7, rfl, S7, N7, v7, l7, hb⟩
  have V7 : Hid (val z7 = x) := v7
  have b7 : z7.length ≤ 1 := by omega
  have hbb : Below w15.heap.size w15 w16 := hA.trans (hb.mono hA.size)
  replace A := A.below hb
  replace I := I.below hb
  replace S1 := S1.below hb
  replace S2 := S2.below hb
  replace S3 := S3.below hb
  replace S4 := S4.below hb
  replace S5 := S5.below hb
  replace S6 := S6.below hb
  have z16 := hbb.size
  replace hB := hB.trans (hbb.mono hB.size)
  replace h2 := h2.trans (hbb.mono h2.size)
  clear hb hbb hA  v7 l7
  go_wp2_with fail
  have hA := Below.refl w16.heap.size w16
  refine (rof_any x hx _).mono ?_
  rintro e w17 ⟨a8, c8, z8, rfl, S8, N8, v8, l8, hb⟩
  have V8 : Hid (val z8 = x) := v8
  have b8 : z8.length ≤ 1 := by omega
  have hbb : Below w16.heap.size w16 w17 := hA.trans (hb.mono hA.size)
  replace A := A.below hb
  replace I := I.below hb
  replace S1 := S1.below hb
  replace S2 := S2.below hb
  replace S3 := S3.below hb
  replace S4 := S4.below hb
  replace S5 := S5.below hb
  replace S6 := S6.below hb
  replace S7 := S7.below hb
  have z17 := hbb.size
  replace hB := hB.trans (hbb.mono hB.size)
  replace h2 := h2.trans (hbb.mono h2.size)
  clear hb hbb hA  v8 l8
  go_wp2_with fail
  have hA := Below.refl w17.heap.size w17
  refine (same_len S7 S8 (norm_unique S7.words S8.words N7 N8 (by rw [V7.out, V8.out])) (by omega)).mono ?_
  rintro e w18 ⟨rfl, hb⟩
  have hbb : Below w17.heap.size w17 w18 := hA.trans (hb.mono hA.size)
  replace A := A.below hb
  replace I := I.below hb
  replace S1 := S1.below hb
  replace S2 := S2.below hb
  replace S3 := S3.below hb
  replace S4 := S4.below hb
  replace S5 := S5.below hb
  replace S6 := S6.below hb
  replace S7 := S7.below hb
  replace S8 := S8.below hb
  have z18 := hbb.size
  replace hB := hB.trans (hbb.mono hB.size)
  replace h2 := h2.trans (hbb.mono h2.size)
  clear hb hbb hA  
  clear A I S6 S7 S8 S2 S4
  go_wp2_with fail
  refine (over_fr S1 (by omega) w3.heap.size R1).mono ?_
  rintro e w19 ⟨rfl, hlo, hhi⟩
  replace S3 := S3.above (fun k hk => hhi k (by omega)) hlo.size
  replace S5 := S5.above (fun k hk => hhi k (by omega)) hlo.size
  replace hB := hB.trans (hlo.mono (by omega))
  replace h2 := h2.trans (hlo.mono (by omega))
  have z19 := hlo.size
  clear hlo hhi S1 R1
  go_wp2_with fail
  refine (over_fr S3 (by omega) w5.heap.size R3).mono ?_
  rintro e w20 ⟨rfl, hlo, hhi⟩
  replace S5 := S5.above (fun k hk => hhi k (by omega)) hlo.size
  replace hB := hB.trans (hlo.mono (by omega))
  replace h2 := h2.trans (hlo.mono (by omega))
  have z20 := hlo.size
  clear hlo hhi S3 R3
  go_wp2_with fail
  refine (over_fr S5 (by omega) w7.heap.size R5).mono ?_
  rintro e w21 ⟨rfl, hlo, hhi⟩
  replace hB := hB.trans (hlo.mono (by omega))
  replace h2 := h2.trans (hlo.mono (by omega))
  have z21 := hlo.size
  clear hlo hhi S5 R5
  have A := A2.below h2
  have I := I2.below h2
  go_wp2_with fail
  have hA := Below.refl w21.heap.size w21
  refine (same_len I A rfl (by omega)).mono ?_
  rintro e w22 ⟨rfl, hb⟩
  have hbb : Below w21.heap.size w21 w22 := hA.trans (hb.mono hA.size)
  replace A := A.below hb
  replace I := I.below hb
  have z22 := hbb.size
  replace hB := hB.trans (hbb.mono hB.size)
  replace h2 := h2.trans (hbb.mono h2.size)
  clear hb hbb hA  
  go_wp2_with fail
  have hA := Below.refl w22.heap.size w22
  refine (awake_any _).mono ?_
  rintro e w23 ⟨rfl, hb⟩
  have hbb : Below w22.heap.size w22 w23 := hA.trans (hb.mono hA.size)
  replace A := A.below hb
  replace I := I.below hb
  have z23 := hbb.size
  replace hB := hB.trans (hbb.mono hB.size)
  replace h2 := h2.trans (hbb.mono h2.size)
  clear hb hbb hA  
  go_wp2
  go_ret
  exact ⟨rfl, hB⟩

set_option maxRecDepth 100000 in
set_option maxHeartbeats 8000000 in
theorem moves_no_one {a : Option Addr} {ca : Nat} {zs : List Int} {w : World} (A : Seg 0 w (.slice a zs.length ca) zs) (hz : zs.length ≤ 60) (b : Int) (hb0 : Hid (¬ (0 ≤ b ∧ b ≤ 16777216))) (x : Int) (hx : 0 ≤ x ∧ x < 18446744073709551616) (h1 : Hid (val zs < 18446744073709551616)) :
    Calls Try.prog 4 #[.slice a zs.length ca, .int .i64 b, .int .u64 x] w fun e w' => e = .returned (.bool true) ∧ Below w.heap.size w w' := by
  by_cases g1 : (5000 : Int) < b
  · have g2 : ¬ b ≤ (16777216 : Int) := by have := hb0.out; omega
    have l1 := fun w => long_any a none zs.length ca 0 0 w
    rw [decide_eq_false (show ¬ (60 < zs.length ∨ 60 < 0) by omega)] at l1
    have L1 := hide l1
    clear l1
    have hB := Below.refl w.heap.size w
    go_enter Try.func4, Try.ntmps4
    go_wp2_with fail
    have hA := Below.refl w.heap.size w
    refine (L1.out _).mono ?_
    rintro e w1 ⟨rfl, hw⟩
    have hb := hw_below hw
    clear hw
    have hbb : Below w.heap.size w w1 := hA.trans (hb.mono hA.size)
    replace A := A.below hb
    have z1 := hbb.size
    replace hB := hB.trans (hbb.mono hB.size)
    clear hb hbb hA  
    go_wp2_with fail
    have hA := Below.refl w1.heap.size w1
    refine (copy_any A (by omega)).mono ?_
    rintro e w2 ⟨ai, ci, rfl, I, hb⟩
    have hbb : Below w1.heap.size w1 w2 := hA.trans (hb.mono hA.size)
    replace A := A.below hb
    have z2 := hbb.size
    replace hB := hB.trans (hbb.mono hB.size)
    clear hb hbb hA  
    have A2 := A
    have I2 := I
    have h2 := Below.refl w2.heap.size w2
    go_wp2_with fail
    have hA := Below.refl w2.heap.size w2
    refine (up_no _ b hb0.out _).mono ?_
    rintro e w3 ⟨rfl, hw⟩
    have hb := hw_below hw
    clear hw
    have hbb : Below w2.heap.size w2 w3 := hA.trans (hb.mono hA.size)
    replace A := A.below hb
    replace I := I.below hb
    have z3 := hbb.size
    replace hB := hB.trans (hbb.mono hB.size)
    replace h2 := h2.trans (hbb.mono h2.size)
    clear hb hbb hA  
    go_wp2_with fail
    have hA := Below.refl w3.heap.size w3
    refine (rup_no _ b hb0.out _).mono ?_
    rintro e w4 ⟨rfl, hw⟩
    have hb := hw_below hw
    clear hw
    have hbb : Below w3.heap.size w3 w4 := hA.trans (hb.mono hA.size)
    replace A := A.below hb
    replace I := I.below hb
    have z4 := hbb.size
    replace hB := hB.trans (hbb.mono hB.size)
    replace h2 := h2.trans (hbb.mono h2.size)
    clear hb hbb hA  
    go_wp2_with fail
    have hA := Below.refl w4.heap.size w4
    refine (down_no _ b hb0.out _).mono ?_
    rintro e w5 ⟨rfl, hw⟩
    have hb := hw_below hw
    clear hw
    have hbb : Below w4.heap.size w4 w5 := hA.trans (hb.mono hA.size)
    replace A := A.below hb
    replace I := I.below hb
    have z5 := hbb.size
    replace hB := hB.trans (hbb.mono hB.size)
    replace h2 := h2.trans (hbb.mono h2.size)
    clear hb hbb hA  
    go_wp2_with fail
    have hA := Below.refl w5.heap.size w5
    refine (rdown_no _ b hb0.out _).mono ?_
    rintro e w6 ⟨rfl, hw⟩
    have hb := hw_below hw
    clear hw
    have hbb : Below w5.heap.size w5 w6 := hA.trans (hb.mono hA.size)
    replace A := A.below hb
    replace I := I.below hb
    have z6 := hbb.size
    replace hB := hB.trans (hbb.mono hB.size)
    replace h2 := h2.trans (hbb.mono h2.size)
    clear hb hbb hA  
    go_wp2_with fail
    have hA := Below.refl w6.heap.size w6
    refine (trim_any I (by omega)).mono ?_
    rintro e w7 ⟨a5, c5, z5, rfl, S5, N5, v5, l5, hb⟩
    have V5 : Hid (val z5 = val zs) := v5
    have b5 : z5.length ≤ 60 := by omega
    have hbb : Below w6.heap.size w6 w7 := hA.trans (hb.mono hA.size)
    replace A := A.below hb
    replace I := I.below hb
    have z7 := hbb.size
    replace hB := hB.trans (hbb.mono hB.size)
    replace h2 := h2.trans (hbb.mono h2.size)
    clear hb hbb hA  v5 l5
    have R5 := S5.block
    go_wp2_with fail
    have hA := Below.refl w7.heap.size w7
    refine (one_yes I (by omega) h1.out).mono ?_
    rintro e w8 ⟨rfl, hb⟩
    have hbb : Below w7.heap.size w7 w8 := hA.trans (hb.mono hA.size)
    replace A := A.below hb
    replace I := I.below hb
    replace S5 := S5.below hb
    have z8 := hbb.size
    replace hB := hB.trans (hbb.mono hB.size)
    replace h2 := h2.trans (hbb.mono h2.size)
    clear hb hbb hA  
    go_wp2_with fail
    have hA := Below.refl w8.heap.size w8
    refine (rone_yes A (by omega) h1.out).mono ?_
    rintro e w9 ⟨rfl, hb⟩
    have hbb : Below w8.heap.size w8 w9 := hA.trans (hb.mono hA.size)
    replace A := A.below hb
    replace I := I.below hb
    replace S5 := S5.below hb
    have z9 := hbb.size
    replace hB := hB.trans (hbb.mono hB.size)
    replace h2 := h2.trans (hbb.mono h2.size)
    clear hb hbb hA  
    go_wp2_with fail
    have hA := Below.refl w9.heap.size w9
    refine (same_len (Seg.nil 0 _) (Seg.nil 0 _) rfl (by simp)).mono ?_
    rintro e w10 ⟨rfl, hb⟩
    have hbb : Below w9.heap.size w9 w10 := hA.trans (hb.mono hA.size)
    replace A := A.below hb
    replace I := I.below hb
    replace S5 := S5.below hb
    have z10 := hbb.size
    replace hB := hB.trans (hbb.mono hB.size)
    replace h2 := h2.trans (hbb.mono h2.size)
    clear hb hbb hA  
    go_wp2_with fail
    have hA := Below.refl w10.heap.size w10
    refine (same_len (Seg.nil 0 _) (Seg.nil 0 _) rfl (by simp)).mono ?_
    rintro e w11 ⟨rfl, hb⟩
    have hbb : Below w10.heap.size w10 w11 := hA.trans (hb.mono hA.size)
    replace A := A.below hb
    replace I := I.below hb
    replace S5 := S5.below hb
    have z11 := hbb.size
    replace hB := hB.trans (hbb.mono hB.size)
    replace h2 := h2.trans (hbb.mono h2.size)
    clear hb hbb hA  
    go_wp2_with fail
    have hA := Below.refl w11.heap.size w11
    refine (rtrim_any A (by omega)).mono ?_
    rintro e w12 ⟨a6, c6, z6, rfl, S6, N6, v6, l6, hb⟩
    have V6 : Hid (val z6 = val zs) := v6
    have b6 : z6.length ≤ 60 := by omega
    have hbb : Below w11.heap.size w11 w12 := hA.trans (hb.mono hA.size)
    replace A := A.below hb
    replace I := I.below hb
    replace S5 := S5.below hb
    have z12 := hbb.size
    replace hB := hB.trans (hbb.mono hB.size)
    replace h2 := h2.trans (hbb.mono h2.size)
    clear hb hbb hA  v6 l6
    go_wp2_with fail
    have hA := Below.refl w12.heap.size w12
    refine (same_len S5 S6 (norm_unique S5.words S6.words N5 N6 (by rw [V5.out, V6.out])) (by omega)).mono ?_
    rintro e w13 ⟨rfl, hb⟩
    have hbb : Below w12.heap.size w12 w13 := hA.trans (hb.mono hA.size)
    replace A := A.below hb
    replace I := I.below hb
    replace S5 := S5.below hb
    replace S6 := S6.below hb
    have z13 := hbb.size
    replace hB := hB.trans (hbb.mono hB.size)
    replace h2 := h2.trans (hbb.mono h2.size)
    clear hb hbb hA  
    go_wp2_with fail
    have hA := Below.refl w13.heap.size w13
    refine (check_any I (by omega)).mono ?_
    rintro e w14 ⟨rfl, hb⟩
    have hbb : Below w13.heap.size w13 w14 := hA.trans (hb.mono hA.size)
    replace A := A.below hb
    replace I := I.below hb
    replace S5 := S5.below hb
    replace S6 := S6.below hb
    have z14 := hbb.size
    replace hB := hB.trans (hbb.mono hB.size)
    replace h2 := h2.trans (hbb.mono h2.size)
    clear hb hbb hA  
    go_wp2_with fail
    have hA := Below.refl w14.heap.size w14
    refine (rcheck_any A (by omega)).mono ?_
    rintro e w15 ⟨rfl, hw⟩
    have hb := hw_below hw
    clear hw
    have hbb : Below w14.heap.size w14 w15 := hA.trans (hb.mono hA.size)
    replace A := A.below hb
    replace I := I.below hb
    replace S5 := S5.below hb
    replace S6 := S6.below hb
    have z15 := hbb.size
    replace hB := hB.trans (hbb.mono hB.size)
    replace h2 := h2.trans (hbb.mono h2.size)
    clear hb hbb hA  
    go_wp2_with fail
    have hA := Below.refl w15.heap.size w15
    refine (of_any x hx _).mono ?_
    rintro e w16 ⟨a7, c7, z7, rfl, S7, N7, v7, l7, hb⟩
    have V7 : Hid (val z7 = x) := v7
    have b7 : z7.length ≤ 1 := by omega
    have hbb : Below w15.heap.size w15 w16 := hA.trans (hb.mono hA.size)
    replace A := A.below hb
    replace I := I.below hb
    replace S5 := S5.below hb
    replace S6 := S6.below hb
    have z16 := hbb.size
    replace hB := hB.trans (hbb.mono hB.size)
    replace h2 := h2.trans (hbb.mono h2.size)
    clear hb hbb hA  v7 l7
    go_wp2_with fail
    have hA := Below.refl w16.heap.size w16
    refine (rof_any x hx _).mono ?_
    rintro e w17 ⟨a8, c8, z8, rfl, S8, N8, v8, l8, hb⟩
    have V8 : Hid (val z8 = x) := v8
    have b8 : z8.length ≤ 1 := by omega
    have hbb : Below w16.heap.size w16 w17 := hA.trans (hb.mono hA.size)
    replace A := A.below hb
    replace I := I.below hb
    replace S5 := S5.below hb
    replace S6 := S6.below hb
    replace S7 := S7.below hb
    have z17 := hbb.size
    replace hB := hB.trans (hbb.mono hB.size)
    replace h2 := h2.trans (hbb.mono h2.size)
    clear hb hbb hA  v8 l8
    go_wp2_with fail
    have hA := Below.refl w17.heap.size w17
    refine (same_len S7 S8 (norm_unique S7.words S8.words N7 N8 (by rw [V7.out, V8.out])) (by omega)).mono ?_
    rintro e w18 ⟨rfl, hb⟩
    have hbb : Below w17.heap.size w17 w18 := hA.trans (hb.mono hA.size)
    replace A := A.below hb
    replace I := I.below hb
    replace S5 := S5.below hb
    replace S6 := S6.below hb
    replace S7 := S7.below hb
    replace S8 := S8.below hb
    have z18 := hbb.size
    replace hB := hB.trans (hbb.mono hB.size)
    replace h2 := h2.trans (hbb.mono h2.size)
    clear hb hbb hA  
    clear A I S6 S7 S8
    go_wp2_with fail
    refine (over_fr (Seg.nil w18.heap.size _) (by simp) 0 (fun h => absurd rfl h)).mono ?_
    rintro e w19 ⟨rfl, hlo, hhi⟩
    replace hB := hB.trans (hlo.mono (by omega))
    replace h2 := h2.trans (hlo.mono (by omega))
    replace S5 := S5.above (fun k _ => hhi k (Nat.zero_le _)) hlo.size
    have z19 := hlo.size
    clear hlo hhi
    go_wp2_with fail
    refine (over_fr (Seg.nil w19.heap.size _) (by simp) 0 (fun h => absurd rfl h)).mono ?_
    rintro e w20 ⟨rfl, hlo, hhi⟩
    replace hB := hB.trans (hlo.mono (by omega))
    replace h2 := h2.trans (hlo.mono (by omega))
    replace S5 := S5.above (fun k _ => hhi k (Nat.zero_le _)) hlo.size
    have z20 := hlo.size
    clear hlo hhi
    go_wp2_with fail
    refine (over_fr S5 (by omega) w7.heap.size R5).mono ?_
    rintro e w21 ⟨rfl, hlo, hhi⟩
    replace hB := hB.trans (hlo.mono (by omega))
    replace h2 := h2.trans (hlo.mono (by omega))
    have z21 := hlo.size
    clear hlo hhi S5 R5
    have A := A2.below h2
    have I := I2.below h2
    go_wp2_with fail
    have hA := Below.refl w21.heap.size w21
    refine (same_len I A rfl (by omega)).mono ?_
    rintro e w22 ⟨rfl, hb⟩
    have hbb : Below w21.heap.size w21 w22 := hA.trans (hb.mono hA.size)
    replace A := A.below hb
    replace I := I.below hb
    have z22 := hbb.size
    replace hB := hB.trans (hbb.mono hB.size)
    replace h2 := h2.trans (hbb.mono h2.size)
    clear hb hbb hA  
    go_wp2_with fail
    have hA := Below.refl w22.heap.size w22
    refine (awake_any _).mono ?_
    rintro e w23 ⟨rfl, hb⟩
    have hbb : Below w22.heap.size w22 w23 := hA.trans (hb.mono hA.size)
    replace A := A.below hb
    replace I := I.below hb
    have z23 := hbb.size
    replace hB := hB.trans (hbb.mono hB.size)
    replace h2 := h2.trans (hbb.mono h2.size)
    clear hb hbb hA  
    go_wp2
    go_ret
    exact ⟨rfl, hB⟩
  · skip
    have l1 := fun w => long_any a none zs.length ca 0 0 w
    rw [decide_eq_false (show ¬ (60 < zs.length ∨ 60 < 0) by omega)] at l1
    have L1 := hide l1
    clear l1
    have hB := Below.refl w.heap.size w
    go_enter Try.func4, Try.ntmps4
    go_wp2_with fail
    have hA := Below.refl w.heap.size w
    refine (L1.out _).mono ?_
    rintro e w1 ⟨rfl, hw⟩
    have hb := hw_below hw
    clear hw
    have hbb : Below w.heap.size w w1 := hA.trans (hb.mono hA.size)
    replace A := A.below hb
    have z1 := hbb.size
    replace hB := hB.trans (hbb.mono hB.size)
    clear hb hbb hA  
    go_wp2_with fail
    have hA := Below.refl w1.heap.size w1
    refine (copy_any A (by omega)).mono ?_
    rintro e w2 ⟨ai, ci, rfl, I, hb⟩
    have hbb : Below w1.heap.size w1 w2 := hA.trans (hb.mono hA.size)
    replace A := A.below hb
    have z2 := hbb.size
    replace hB := hB.trans (hbb.mono hB.size)
    clear hb hbb hA  
    have A2 := A
    have I2 := I
    have h2 := Below.refl w2.heap.size w2
    go_wp2_with fail
    have hA := Below.refl w2.heap.size w2
    refine (up_no _ b hb0.out _).mono ?_
    rintro e w3 ⟨rfl, hw⟩
    have hb := hw_below hw
    clear hw
    have hbb : Below w2.heap.size w2 w3 := hA.trans (hb.mono hA.size)
    replace A := A.below hb
    replace I := I.below hb
    have z3 := hbb.size
    replace hB := hB.trans (hbb.mono hB.size)
    replace h2 := h2.trans (hbb.mono h2.size)
    clear hb hbb hA  
    go_wp2_with fail
    have hA := Below.refl w3.heap.size w3
    refine (rup_no _ b hb0.out _).mono ?_
    rintro e w4 ⟨rfl, hw⟩
    have hb := hw_below hw
    clear hw
    have hbb : Below w3.heap.size w3 w4 := hA.trans (hb.mono hA.size)
    replace A := A.below hb
    replace I := I.below hb
    have z4 := hbb.size
    replace hB := hB.trans (hbb.mono hB.size)
    replace h2 := h2.trans (hbb.mono h2.size)
    clear hb hbb hA  
    go_wp2_with fail
    have hA := Below.refl w4.heap.size w4
    refine (down_no _ b hb0.out _).mono ?_
    rintro e w5 ⟨rfl, hw⟩
    have hb := hw_below hw
    clear hw
    have hbb : Below w4.heap.size w4 w5 := hA.trans (hb.mono hA.size)
    replace A := A.below hb
    replace I := I.below hb
    have z5 := hbb.size
    replace hB := hB.trans (hbb.mono hB.size)
    replace h2 := h2.trans (hbb.mono h2.size)
    clear hb hbb hA  
    go_wp2_with fail
    have hA := Below.refl w5.heap.size w5
    refine (rdown_no _ b hb0.out _).mono ?_
    rintro e w6 ⟨rfl, hw⟩
    have hb := hw_below hw
    clear hw
    have hbb : Below w5.heap.size w5 w6 := hA.trans (hb.mono hA.size)
    replace A := A.below hb
    replace I := I.below hb
    have z6 := hbb.size
    replace hB := hB.trans (hbb.mono hB.size)
    replace h2 := h2.trans (hbb.mono h2.size)
    clear hb hbb hA  
    go_wp2_with fail
    have hA := Below.refl w6.heap.size w6
    refine (trim_any I (by omega)).mono ?_
    rintro e w7 ⟨a5, c5, z5, rfl, S5, N5, v5, l5, hb⟩
    have V5 : Hid (val z5 = val zs) := v5
    have b5 : z5.length ≤ 60 := by omega
    have hbb : Below w6.heap.size w6 w7 := hA.trans (hb.mono hA.size)
    replace A := A.below hb
    replace I := I.below hb
    have z7 := hbb.size
    replace hB := hB.trans (hbb.mono hB.size)
    replace h2 := h2.trans (hbb.mono h2.size)
    clear hb hbb hA  v5 l5
    have R5 := S5.block
    go_wp2_with fail
    have hA := Below.refl w7.heap.size w7
    refine (one_yes I (by omega) h1.out).mono ?_
    rintro e w8 ⟨rfl, hb⟩
    have hbb : Below w7.heap.size w7 w8 := hA.trans (hb.mono hA.size)
    replace A := A.below hb
    replace I := I.below hb
    replace S5 := S5.below hb
    have z8 := hbb.size
    replace hB := hB.trans (hbb.mono hB.size)
    replace h2 := h2.trans (hbb.mono h2.size)
    clear hb hbb hA  
    go_wp2_with fail
    have hA := Below.refl w8.heap.size w8
    refine (rone_yes A (by omega) h1.out).mono ?_
    rintro e w9 ⟨rfl, hb⟩
    have hbb : Below w8.heap.size w8 w9 := hA.trans (hb.mono hA.size)
    replace A := A.below hb
    replace I := I.below hb
    replace S5 := S5.below hb
    have z9 := hbb.size
    replace hB := hB.trans (hbb.mono hB.size)
    replace h2 := h2.trans (hbb.mono h2.size)
    clear hb hbb hA  
    go_wp2_with fail
    have hA := Below.refl w9.heap.size w9
    refine (same_len (Seg.nil 0 _) (Seg.nil 0 _) rfl (by simp)).mono ?_
    rintro e w10 ⟨rfl, hb⟩
    have hbb : Below w9.heap.size w9 w10 := hA.trans (hb.mono hA.size)
    replace A := A.below hb
    replace I := I.below hb
    replace S5 := S5.below hb
    have z10 := hbb.size
    replace hB := hB.trans (hbb.mono hB.size)
    replace h2 := h2.trans (hbb.mono h2.size)
    clear hb hbb hA  
    go_wp2_with fail
    have hA := Below.refl w10.heap.size w10
    refine (same_len (Seg.nil 0 _) (Seg.nil 0 _) rfl (by simp)).mono ?_
    rintro e w11 ⟨rfl, hb⟩
    have hbb : Below w10.heap.size w10 w11 := hA.trans (hb.mono hA.size)
    replace A := A.below hb
    replace I := I.below hb
    replace S5 := S5.below hb
    have z11 := hbb.size
    replace hB := hB.trans (hbb.mono hB.size)
    replace h2 := h2.trans (hbb.mono h2.size)
    clear hb hbb hA  
    go_wp2_with fail
    have hA := Below.refl w11.heap.size w11
    refine (rtrim_any A (by omega)).mono ?_
    rintro e w12 ⟨a6, c6, z6, rfl, S6, N6, v6, l6, hb⟩
    have V6 : Hid (val z6 = val zs) := v6
    have b6 : z6.length ≤ 60 := by omega
    have hbb : Below w11.heap.size w11 w12 := hA.trans (hb.mono hA.size)
    replace A := A.below hb
    replace I := I.below hb
    replace S5 := S5.below hb
    have z12 := hbb.size
    replace hB := hB.trans (hbb.mono hB.size)
    replace h2 := h2.trans (hbb.mono h2.size)
    clear hb hbb hA  v6 l6
    go_wp2_with fail
    have hA := Below.refl w12.heap.size w12
    refine (same_len S5 S6 (norm_unique S5.words S6.words N5 N6 (by rw [V5.out, V6.out])) (by omega)).mono ?_
    rintro e w13 ⟨rfl, hb⟩
    have hbb : Below w12.heap.size w12 w13 := hA.trans (hb.mono hA.size)
    replace A := A.below hb
    replace I := I.below hb
    replace S5 := S5.below hb
    replace S6 := S6.below hb
    have z13 := hbb.size
    replace hB := hB.trans (hbb.mono hB.size)
    replace h2 := h2.trans (hbb.mono h2.size)
    clear hb hbb hA  
    go_wp2_with fail
    have hA := Below.refl w13.heap.size w13
    refine (check_any I (by omega)).mono ?_
    rintro e w14 ⟨rfl, hb⟩
    have hbb : Below w13.heap.size w13 w14 := hA.trans (hb.mono hA.size)
    replace A := A.below hb
    replace I := I.below hb
    replace S5 := S5.below hb
    replace S6 := S6.below hb
    have z14 := hbb.size
    replace hB := hB.trans (hbb.mono hB.size)
    replace h2 := h2.trans (hbb.mono h2.size)
    clear hb hbb hA  
    go_wp2_with fail
    have hA := Below.refl w14.heap.size w14
    refine (rcheck_any A (by omega)).mono ?_
    rintro e w15 ⟨rfl, hw⟩
    have hb := hw_below hw
    clear hw
    have hbb : Below w14.heap.size w14 w15 := hA.trans (hb.mono hA.size)
    replace A := A.below hb
    replace I := I.below hb
    replace S5 := S5.below hb
    replace S6 := S6.below hb
    have z15 := hbb.size
    replace hB := hB.trans (hbb.mono hB.size)
    replace h2 := h2.trans (hbb.mono h2.size)
    clear hb hbb hA  
    go_wp2_with fail
    have hA := Below.refl w15.heap.size w15
    refine (of_any x hx _).mono ?_
    rintro e w16 ⟨a7, c7, z7, rfl, S7, N7, v7, l7, hb⟩
    have V7 : Hid (val z7 = x) := v7
    have b7 : z7.length ≤ 1 := by omega
    have hbb : Below w15.heap.size w15 w16 := hA.trans (hb.mono hA.size)
    replace A := A.below hb
    replace I := I.below hb
    replace S5 := S5.below hb
    replace S6 := S6.below hb
    have z16 := hbb.size
    replace hB := hB.trans (hbb.mono hB.size)
    replace h2 := h2.trans (hbb.mono h2.size)
    clear hb hbb hA  v7 l7
    go_wp2_with fail
    have hA := Below.refl w16.heap.size w16
    refine (rof_any x hx _).mono ?_
    rintro e w17 ⟨a8, c8, z8, rfl, S8, N8, v8, l8, hb⟩
    have V8 : Hid (val z8 = x) := v8
    have b8 : z8.length ≤ 1 := by omega
    have hbb : Below w16.heap.size w16 w17 := hA.trans (hb.mono hA.size)
    replace A := A.below hb
    replace I := I.below hb
    replace S5 := S5.below hb
    replace S6 := S6.below hb
    replace S7 := S7.below hb
    have z17 := hbb.size
    replace hB := hB.trans (hbb.mono hB.size)
    replace h2 := h2.trans (hbb.mono h2.size)
    clear hb hbb hA  v8 l8
    go_wp2_with fail
    have hA := Below.refl w17.heap.size w17
    refine (same_len S7 S8 (norm_unique S7.words S8.words N7 N8 (by rw [V7.out, V8.out])) (by omega)).mono ?_
    rintro e w18 ⟨rfl, hb⟩
    have hbb : Below w17.heap.size w17 w18 := hA.trans (hb.mono hA.size)
    replace A := A.below hb
    replace I := I.below hb
    replace S5 := S5.below hb
    replace S6 := S6.below hb
    replace S7 := S7.below hb
    replace S8 := S8.below hb
    have z18 := hbb.size
    replace hB := hB.trans (hbb.mono hB.size)
    replace h2 := h2.trans (hbb.mono h2.size)
    clear hb hbb hA  
    clear A I S6 S7 S8
    go_wp2_with fail
    refine (over_fr (Seg.nil w18.heap.size _) (by simp) 0 (fun h => absurd rfl h)).mono ?_
    rintro e w19 ⟨rfl, hlo, hhi⟩
    replace hB := hB.trans (hlo.mono (by omega))
    replace h2 := h2.trans (hlo.mono (by omega))
    replace S5 := S5.above (fun k _ => hhi k (Nat.zero_le _)) hlo.size
    have z19 := hlo.size
    clear hlo hhi
    go_wp2_with fail
    refine (over_fr (Seg.nil w19.heap.size _) (by simp) 0 (fun h => absurd rfl h)).mono ?_
    rintro e w20 ⟨rfl, hlo, hhi⟩
    replace hB := hB.trans (hlo.mono (by omega))
    replace h2 := h2.trans (hlo.mono (by omega))
    replace S5 := S5.above (fun k _ => hhi k (Nat.zero_le _)) hlo.size
    have z20 := hlo.size
    clear hlo hhi
    go_wp2_with fail
    refine (over_fr S5 (by omega) w7.heap.size R5).mono ?_
    rintro e w21 ⟨rfl, hlo, hhi⟩
    replace hB := hB.trans (hlo.mono (by omega))
    replace h2 := h2.trans (hlo.mono (by omega))
    have z21 := hlo.size
    clear hlo hhi S5 R5
    have A := A2.below h2
    have I := I2.below h2
    go_wp2_with fail
    have hA := Below.refl w21.heap.size w21
    refine (same_len I A rfl (by omega)).mono ?_
    rintro e w22 ⟨rfl, hb⟩
    have hbb : Below w21.heap.size w21 w22 := hA.trans (hb.mono hA.size)
    replace A := A.below hb
    replace I := I.below hb
    have z22 := hbb.size
    replace hB := hB.trans (hbb.mono hB.size)
    replace h2 := h2.trans (hbb.mono h2.size)
    clear hb hbb hA  
    go_wp2_with fail
    have hA := Below.refl w22.heap.size w22
    refine (awake_any _).mono ?_
    rintro e w23 ⟨rfl, hb⟩
    have hbb : Below w22.heap.size w22 w23 := hA.trans (hb.mono hA.size)
    replace A := A.below hb
    replace I := I.below hb
    have z23 := hbb.size
    replace hB := hB.trans (hbb.mono hB.size)
    replace h2 := h2.trans (hbb.mono h2.size)
    clear hb hbb hA  
    go_wp2
    go_ret
    exact ⟨rfl, hB⟩

set_option maxRecDepth 100000 in
set_option maxHeartbeats 8000000 in
theorem moves_no_more {a : Option Addr} {ca : Nat} {zs : List Int} {w : World} (A : Seg 0 w (.slice a zs.length ca) zs) (hz : zs.length ≤ 60) (b : Int) (hb0 : Hid (¬ (0 ≤ b ∧ b ≤ 16777216))) (x : Int) (hx : 0 ≤ x ∧ x < 18446744073709551616) (h1 : Hid (18446744073709551616 ≤ val zs)) :
    Calls Try.prog 4 #[.slice a zs.length ca, .int .i64 b, .int .u64 x] w fun e w' => e = .returned (.bool true) ∧ Below w.heap.size w w' := by
  by_cases g1 : (5000 : Int) < b
  · have g2 : ¬ b ≤ (16777216 : Int) := by have := hb0.out; omega
    have l1 := fun w => long_any a none zs.length ca 0 0 w
    rw [decide_eq_false (show ¬ (60 < zs.length ∨ 60 < 0) by omega)] at l1
    have L1 := hide l1
    clear l1
    have hB := Below.refl w.heap.size w
    go_enter Try.func4, Try.ntmps4
    go_wp2_with fail
    have hA := Below.refl w.heap.size w
    refine (L1.out _).mono ?_
    rintro e w1 ⟨rfl, hw⟩
    have hb := hw_below hw
    clear hw
    have hbb : Below w.heap.size w w1 := hA.trans (hb.mono hA.size)
    replace A := A.below hb
    have z1 := hbb.size
    replace hB := hB.trans (hbb.mono hB.size)
    clear hb hbb hA  
    go_wp2_with fail
    have hA := Below.refl w1.heap.size w1
    refine (copy_any A (by omega)).mono ?_
    rintro e w2 ⟨ai, ci, rfl, I, hb⟩
    have hbb : Below w1.heap.size w1 w2 := hA.trans (hb.mono hA.size)
    replace A := A.below hb
    have z2 := hbb.size
    replace hB := hB.trans (hbb.mono hB.size)
    clear hb hbb hA  
    have A2 := A
    have I2 := I
    have h2 := Below.refl w2.heap.size w2
    go_wp2_with fail
    have hA := Below.refl w2.heap.size w2
    refine (up_no _ b hb0.out _).mono ?_
    rintro e w3 ⟨rfl, hw⟩
    have hb := hw_below hw
    clear hw
    have hbb : Below w2.heap.size w2 w3 := hA.trans (hb.mono hA.size)
    replace A := A.below hb
    replace I := I.below hb
    have z3 := hbb.size
    replace hB := hB.trans (hbb.mono hB.size)
    replace h2 := h2.trans (hbb.mono h2.size)
    clear hb hbb hA  
    go_wp2_with fail
    have hA := Below.refl w3.heap.size w3
    refine (rup_no _ b hb0.out _).mono ?_
    rintro e w4 ⟨rfl, hw⟩
    have hb := hw_below hw
    clear hw
    have hbb : Below w3.heap.size w3 w4 := hA.trans (hb.mono hA.size)
    replace A := A.below hb
    replace I := I.below hb
    have z4 := hbb.size
    replace hB := hB.trans (hbb.mono hB.size)
    replace h2 := h2.trans (hbb.mono h2.size)
    clear hb hbb hA  
    go_wp2_with fail
    have hA := Below.refl w4.heap.size w4
    refine (down_no _ b hb0.out _).mono ?_
    rintro e w5 ⟨rfl, hw⟩
    have hb := hw_below hw
    clear hw
    have hbb : Below w4.heap.size w4 w5 := hA.trans (hb.mono hA.size)
    replace A := A.below hb
    replace I := I.below hb
    have z5 := hbb.size
    replace hB := hB.trans (hbb.mono hB.size)
    replace h2 := h2.trans (hbb.mono h2.size)
    clear hb hbb hA  
    go_wp2_with fail
    have hA := Below.refl w5.heap.size w5
    refine (rdown_no _ b hb0.out _).mono ?_
    rintro e w6 ⟨rfl, hw⟩
    have hb := hw_below hw
    clear hw
    have hbb : Below w5.heap.size w5 w6 := hA.trans (hb.mono hA.size)
    replace A := A.below hb
    replace I := I.below hb
    have z6 := hbb.size
    replace hB := hB.trans (hbb.mono hB.size)
    replace h2 := h2.trans (hbb.mono h2.size)
    clear hb hbb hA  
    go_wp2_with fail
    have hA := Below.refl w6.heap.size w6
    refine (trim_any I (by omega)).mono ?_
    rintro e w7 ⟨a5, c5, z5, rfl, S5, N5, v5, l5, hb⟩
    have V5 : Hid (val z5 = val zs) := v5
    have b5 : z5.length ≤ 60 := by omega
    have hbb : Below w6.heap.size w6 w7 := hA.trans (hb.mono hA.size)
    replace A := A.below hb
    replace I := I.below hb
    have z7 := hbb.size
    replace hB := hB.trans (hbb.mono hB.size)
    replace h2 := h2.trans (hbb.mono h2.size)
    clear hb hbb hA  v5 l5
    have R5 := S5.block
    go_wp2_with fail
    have hA := Below.refl w7.heap.size w7
    refine (one_no I (by omega) h1.out).mono ?_
    rintro e w8 ⟨rfl, hb⟩
    have hbb : Below w7.heap.size w7 w8 := hA.trans (hb.mono hA.size)
    replace A := A.below hb
    replace I := I.below hb
    replace S5 := S5.below hb
    have z8 := hbb.size
    replace hB := hB.trans (hbb.mono hB.size)
    replace h2 := h2.trans (hbb.mono h2.size)
    clear hb hbb hA  
    go_wp2_with fail
    have hA := Below.refl w8.heap.size w8
    refine (rone_no A (by omega) h1.out).mono ?_
    rintro e w9 ⟨rfl, hb⟩
    have hbb : Below w8.heap.size w8 w9 := hA.trans (hb.mono hA.size)
    replace A := A.below hb
    replace I := I.below hb
    replace S5 := S5.below hb
    have z9 := hbb.size
    replace hB := hB.trans (hbb.mono hB.size)
    replace h2 := h2.trans (hbb.mono h2.size)
    clear hb hbb hA  
    go_wp2_with fail
    have hA := Below.refl w9.heap.size w9
    refine (same_len (Seg.nil 0 _) (Seg.nil 0 _) rfl (by simp)).mono ?_
    rintro e w10 ⟨rfl, hb⟩
    have hbb : Below w9.heap.size w9 w10 := hA.trans (hb.mono hA.size)
    replace A := A.below hb
    replace I := I.below hb
    replace S5 := S5.below hb
    have z10 := hbb.size
    replace hB := hB.trans (hbb.mono hB.size)
    replace h2 := h2.trans (hbb.mono h2.size)
    clear hb hbb hA  
    go_wp2_with fail
    have hA := Below.refl w10.heap.size w10
    refine (same_len (Seg.nil 0 _) (Seg.nil 0 _) rfl (by simp)).mono ?_
    rintro e w11 ⟨rfl, hb⟩
    have hbb : Below w10.heap.size w10 w11 := hA.trans (hb.mono hA.size)
    replace A := A.below hb
    replace I := I.below hb
    replace S5 := S5.below hb
    have z11 := hbb.size
    replace hB := hB.trans (hbb.mono hB.size)
    replace h2 := h2.trans (hbb.mono h2.size)
    clear hb hbb hA  
    go_wp2_with fail
    have hA := Below.refl w11.heap.size w11
    refine (rtrim_any A (by omega)).mono ?_
    rintro e w12 ⟨a6, c6, z6, rfl, S6, N6, v6, l6, hb⟩
    have V6 : Hid (val z6 = val zs) := v6
    have b6 : z6.length ≤ 60 := by omega
    have hbb : Below w11.heap.size w11 w12 := hA.trans (hb.mono hA.size)
    replace A := A.below hb
    replace I := I.below hb
    replace S5 := S5.below hb
    have z12 := hbb.size
    replace hB := hB.trans (hbb.mono hB.size)
    replace h2 := h2.trans (hbb.mono h2.size)
    clear hb hbb hA  v6 l6
    go_wp2_with fail
    have hA := Below.refl w12.heap.size w12
    refine (same_len S5 S6 (norm_unique S5.words S6.words N5 N6 (by rw [V5.out, V6.out])) (by omega)).mono ?_
    rintro e w13 ⟨rfl, hb⟩
    have hbb : Below w12.heap.size w12 w13 := hA.trans (hb.mono hA.size)
    replace A := A.below hb
    replace I := I.below hb
    replace S5 := S5.below hb
    replace S6 := S6.below hb
    have z13 := hbb.size
    replace hB := hB.trans (hbb.mono hB.size)
    replace h2 := h2.trans (hbb.mono h2.size)
    clear hb hbb hA  
    go_wp2_with fail
    have hA := Below.refl w13.heap.size w13
    refine (check_any I (by omega)).mono ?_
    rintro e w14 ⟨rfl, hb⟩
    have hbb : Below w13.heap.size w13 w14 := hA.trans (hb.mono hA.size)
    replace A := A.below hb
    replace I := I.below hb
    replace S5 := S5.below hb
    replace S6 := S6.below hb
    have z14 := hbb.size
    replace hB := hB.trans (hbb.mono hB.size)
    replace h2 := h2.trans (hbb.mono h2.size)
    clear hb hbb hA  
    go_wp2_with fail
    have hA := Below.refl w14.heap.size w14
    refine (rcheck_any A (by omega)).mono ?_
    rintro e w15 ⟨rfl, hw⟩
    have hb := hw_below hw
    clear hw
    have hbb : Below w14.heap.size w14 w15 := hA.trans (hb.mono hA.size)
    replace A := A.below hb
    replace I := I.below hb
    replace S5 := S5.below hb
    replace S6 := S6.below hb
    have z15 := hbb.size
    replace hB := hB.trans (hbb.mono hB.size)
    replace h2 := h2.trans (hbb.mono h2.size)
    clear hb hbb hA  
    go_wp2_with fail
    have hA := Below.refl w15.heap.size w15
    refine (of_any x hx _).mono ?_
    rintro e w16 ⟨a7, c7, z7, rfl, S7, N7, v7, l7, hb⟩
    have V7 : Hid (val z7 = x) := v7
    have b7 : z7.length ≤ 1 := by omega
    have hbb : Below w15.heap.size w15 w16 := hA.trans (hb.mono hA.size)
    replace A := A.below hb
    replace I := I.below hb
    replace S5 := S5.below hb
    replace S6 := S6.below hb
    have z16 := hbb.size
    replace hB := hB.trans (hbb.mono hB.size)
    replace h2 := h2.trans (hbb.mono h2.size)
    clear hb hbb hA  v7 l7
    go_wp2_with fail
    have hA := Below.refl w16.heap.size w16
    refine (rof_any x hx _).mono ?_
    rintro e w17 ⟨a8, c8, z8, rfl, S8, N8, v8, l8, hb⟩
    have V8 : Hid (val z8 = x) := v8
    have b8 : z8.length ≤ 1 := by omega
    have hbb : Below w16.heap.size w16 w17 := hA.trans (hb.mono hA.size)
    replace A := A.below hb
    replace I := I.below hb
    replace S5 := S5.below hb
    replace S6 := S6.below hb
    replace S7 := S7.below hb
    have z17 := hbb.size
    replace hB := hB.trans (hbb.mono hB.size)
    replace h2 := h2.trans (hbb.mono h2.size)
    clear hb hbb hA  v8 l8
    go_wp2_with fail
    have hA := Below.refl w17.heap.size w17
    refine (same_len S7 S8 (norm_unique S7.words S8.words N7 N8 (by rw [V7.out, V8.out])) (by omega)).mono ?_
    rintro e w18 ⟨rfl, hb⟩
    have hbb : Below w17.heap.size w17 w18 := hA.trans (hb.mono hA.size)
    replace A := A.below hb
    replace I := I.below hb
    replace S5 := S5.below hb
    replace S6 := S6.below hb
    replace S7 := S7.below hb
    replace S8 := S8.below hb
    have z18 := hbb.size
    replace hB := hB.trans (hbb.mono hB.size)
    replace h2 := h2.trans (hbb.mono h2.size)
    clear hb hbb hA  
    clear A I S6 S7 S8
    go_wp2_with fail
    refine (over_fr (Seg.nil w18.heap.size _) (by simp) 0 (fun h => absurd rfl h)).mono ?_
    rintro e w19 ⟨rfl, hlo, hhi⟩
    replace hB := hB.trans (hlo.mono (by omega))
    replace h2 := h2.trans (hlo.mono (by omega))
    replace S5 := S5.above (fun k _ => hhi k (Nat.zero_le _)) hlo.size
    have z19 := hlo.size
    clear hlo hhi
    go_wp2_with fail
    refine (over_fr (Seg.nil w19.heap.size _) (by simp) 0 (fun h => absurd rfl h)).mono ?_
    rintro e w20 ⟨rfl, hlo, hhi⟩
    replace hB := hB.trans (hlo.mono (by omega))
    replace h2 := h2.trans (hlo.mono (by omega))
    replace S5 := S5.above (fun k _ => hhi k (Nat.zero_le _)) hlo.size
    have z20 := hlo.size
    clear hlo hhi
    go_wp2_with fail
    refine (over_fr S5 (by omega) w7.heap.size R5).mono ?_
    rintro e w21 ⟨rfl, hlo, hhi⟩
    replace hB := hB.trans (hlo.mono (by omega))
    replace h2 := h2.trans (hlo.mono (by omega))
    have z21 := hlo.size
    clear hlo hhi S5 R5
    have A := A2.below h2
    have I := I2.below h2
    go_wp2_with fail
    have hA := Below.refl w21.heap.size w21
    refine (same_len I A rfl (by omega)).mono ?_
    rintro e w22 ⟨rfl, hb⟩
    have hbb : Below w21.heap.size w21 w22 := hA.trans (hb.mono hA.size)
    replace A := A.below hb
    replace I := I.below hb
    have z22 := hbb.size
    replace hB := hB.trans (hbb.mono hB.size)
    replace h2 := h2.trans (hbb.mono h2.size)
    clear hb hbb hA  
    go_wp2_with fail
    have hA := Below.refl w22.heap.size w22
    refine (awake_any _).mono ?_
    rintro e w23 ⟨rfl, hb⟩
    have hbb : Below w22.heap.size w22 w23 := hA.trans (hb.mono hA.size)
    replace A := A.below hb
    replace I := I.below hb
    have z23 := hbb.size
    replace hB := hB.trans (hbb.mono hB.size)
    replace h2 := h2.trans (hbb.mono h2.size)
    clear hb hbb hA  
    go_wp2
    go_ret
    exact ⟨rfl, hB⟩
  · skip
    have l1 := fun w => long_any a none zs.length ca 0 0 w
    rw [decide_eq_false (show ¬ (60 < zs.length ∨ 60 < 0) by omega)] at l1
    have L1 := hide l1
    clear l1
    have hB := Below.refl w.heap.size w
    go_enter Try.func4, Try.ntmps4
    go_wp2_with fail
    have hA := Below.refl w.heap.size w
    refine (L1.out _).mono ?_
    rintro e w1 ⟨rfl, hw⟩
    have hb := hw_below hw
    clear hw
    have hbb : Below w.heap.size w w1 := hA.trans (hb.mono hA.size)
    replace A := A.below hb
    have z1 := hbb.size
    replace hB := hB.trans (hbb.mono hB.size)
    clear hb hbb hA  
    go_wp2_with fail
    have hA := Below.refl w1.heap.size w1
    refine (copy_any A (by omega)).mono ?_
    rintro e w2 ⟨ai, ci, rfl, I, hb⟩
    have hbb : Below w1.heap.size w1 w2 := hA.trans (hb.mono hA.size)
    replace A := A.below hb
    have z2 := hbb.size
    replace hB := hB.trans (hbb.mono hB.size)
    clear hb hbb hA  
    have A2 := A
    have I2 := I
    have h2 := Below.refl w2.heap.size w2
    go_wp2_with fail
    have hA := Below.refl w2.heap.size w2
    refine (up_no _ b hb0.out _).mono ?_
    rintro e w3 ⟨rfl, hw⟩
    have hb := hw_below hw
    clear hw
    have hbb : Below w2.heap.size w2 w3 := hA.trans (hb.mono hA.size)
    replace A := A.below hb
    replace I := I.below hb
    have z3 := hbb.size
    replace hB := hB.trans (hbb.mono hB.size)
    replace h2 := h2.trans (hbb.mono h2.size)
    clear hb hbb hA  
    go_wp2_with fail
    have hA := Below.refl w3.heap.size w3
    refine (rup_no _ b hb0.out _).mono ?_
    rintro e w4 ⟨rfl, hw⟩
    have hb := hw_below hw
    clear hw
    have hbb : Below w3.heap.size w3 w4 := hA.trans (hb.mono hA.size)
    replace A := A.below hb
    replace I := I.below hb
    have z4 := hbb.size
    replace hB := hB.trans (hbb.mono hB.size)
    replace h2 := h2.trans (hbb.mono h2.size)
    clear hb hbb hA  
    go_wp2_with fail
    have hA := Below.refl w4.heap.size w4
    refine (down_no _ b hb0.out _).mono ?_
    rintro e w5 ⟨rfl, hw⟩
    have hb := hw_below hw
    clear hw
    have hbb : Below w4.heap.size w4 w5 := hA.trans (hb.mono hA.size)
    replace A := A.below hb
    replace I := I.below hb
    have z5 := hbb.size
    replace hB := hB.trans (hbb.mono hB.size)
    replace h2 := h2.trans (hbb.mono h2.size)
    clear hb hbb hA  
    go_wp2_with fail
    have hA := Below.refl w5.heap.size w5
    refine (rdown_no _ b hb0.out _).mono ?_
    rintro e w6 ⟨rfl, hw⟩
    have hb := hw_below hw
    clear hw
    have hbb : Below w5.heap.size w5 w6 := hA.trans (hb.mono hA.size)
    replace A := A.below hb
    replace I := I.below hb
    have z6 := hbb.size
    replace hB := hB.trans (hbb.mono hB.size)
    replace h2 := h2.trans (hbb.mono h2.size)
    clear hb hbb hA  
    go_wp2_with fail
    have hA := Below.refl w6.heap.size w6
    refine (trim_any I (by omega)).mono ?_
    rintro e w7 ⟨a5, c5, z5, rfl, S5, N5, v5, l5, hb⟩
    have V5 : Hid (val z5 = val zs) := v5
    have b5 : z5.length ≤ 60 := by omega
    have hbb : Below w6.heap.size w6 w7 := hA.trans (hb.mono hA.size)
    replace A := A.below hb
    replace I := I.below hb
    have z7 := hbb.size
    replace hB := hB.trans (hbb.mono hB.size)
    replace h2 := h2.trans (hbb.mono h2.size)
    clear hb hbb hA  v5 l5
    have R5 := S5.block
    go_wp2_with fail
    have hA := Below.refl w7.heap.size w7
    refine (one_no I (by omega) h1.out).mono ?_
    rintro e w8 ⟨rfl, hb⟩
    have hbb : Below w7.heap.size w7 w8 := hA.trans (hb.mono hA.size)
    replace A := A.below hb
    replace I := I.below hb
    replace S5 := S5.below hb
    have z8 := hbb.size
    replace hB := hB.trans (hbb.mono hB.size)
    replace h2 := h2.trans (hbb.mono h2.size)
    clear hb hbb hA  
    go_wp2_with fail
    have hA := Below.refl w8.heap.size w8
    refine (rone_no A (by omega) h1.out).mono ?_
    rintro e w9 ⟨rfl, hb⟩
    have hbb : Below w8.heap.size w8 w9 := hA.trans (hb.mono hA.size)
    replace A := A.below hb
    replace I := I.below hb
    replace S5 := S5.below hb
    have z9 := hbb.size
    replace hB := hB.trans (hbb.mono hB.size)
    replace h2 := h2.trans (hbb.mono h2.size)
    clear hb hbb hA  
    go_wp2_with fail
    have hA := Below.refl w9.heap.size w9
    refine (same_len (Seg.nil 0 _) (Seg.nil 0 _) rfl (by simp)).mono ?_
    rintro e w10 ⟨rfl, hb⟩
    have hbb : Below w9.heap.size w9 w10 := hA.trans (hb.mono hA.size)
    replace A := A.below hb
    replace I := I.below hb
    replace S5 := S5.below hb
    have z10 := hbb.size
    replace hB := hB.trans (hbb.mono hB.size)
    replace h2 := h2.trans (hbb.mono h2.size)
    clear hb hbb hA  
    go_wp2_with fail
    have hA := Below.refl w10.heap.size w10
    refine (same_len (Seg.nil 0 _) (Seg.nil 0 _) rfl (by simp)).mono ?_
    rintro e w11 ⟨rfl, hb⟩
    have hbb : Below w10.heap.size w10 w11 := hA.trans (hb.mono hA.size)
    replace A := A.below hb
    replace I := I.below hb
    replace S5 := S5.below hb
    have z11 := hbb.size
    replace hB := hB.trans (hbb.mono hB.size)
    replace h2 := h2.trans (hbb.mono h2.size)
    clear hb hbb hA  
    go_wp2_with fail
    have hA := Below.refl w11.heap.size w11
    refine (rtrim_any A (by omega)).mono ?_
    rintro e w12 ⟨a6, c6, z6, rfl, S6, N6, v6, l6, hb⟩
    have V6 : Hid (val z6 = val zs) := v6
    have b6 : z6.length ≤ 60 := by omega
    have hbb : Below w11.heap.size w11 w12 := hA.trans (hb.mono hA.size)
    replace A := A.below hb
    replace I := I.below hb
    replace S5 := S5.below hb
    have z12 := hbb.size
    replace hB := hB.trans (hbb.mono hB.size)
    replace h2 := h2.trans (hbb.mono h2.size)
    clear hb hbb hA  v6 l6
    go_wp2_with fail
    have hA := Below.refl w12.heap.size w12
    refine (same_len S5 S6 (norm_unique S5.words S6.words N5 N6 (by rw [V5.out, V6.out])) (by omega)).mono ?_
    rintro e w13 ⟨rfl, hb⟩
    have hbb : Below w12.heap.size w12 w13 := hA.trans (hb.mono hA.size)
    replace A := A.below hb
    replace I := I.below hb
    replace S5 := S5.below hb
    replace S6 := S6.below hb
    have z13 := hbb.size
    replace hB := hB.trans (hbb.mono hB.size)
    replace h2 := h2.trans (hbb.mono h2.size)
    clear hb hbb hA  
    go_wp2_with fail
    have hA := Below.refl w13.heap.size w13
    refine (check_any I (by omega)).mono ?_
    rintro e w14 ⟨rfl, hb⟩
    have hbb : Below w13.heap.size w13 w14 := hA.trans (hb.mono hA.size)
    replace A := A.below hb
    replace I := I.below hb
    replace S5 := S5.below hb
    replace S6 := S6.below hb
    have z14 := hbb.size
    replace hB := hB.trans (hbb.mono hB.size)
    replace h2 := h2.trans (hbb.mono h2.size)
    clear hb hbb hA  
    go_wp2_with fail
    have hA := Below.refl w14.heap.size w14
    refine (rcheck_any A (by omega)).mono ?_
    rintro e w15 ⟨rfl, hw⟩
    have hb := hw_below hw
    clear hw
    have hbb : Below w14.heap.size w14 w15 := hA.trans (hb.mono hA.size)
    replace A := A.below hb
    replace I := I.below hb
    replace S5 := S5.below hb
    replace S6 := S6.below hb
    have z15 := hbb.size
    replace hB := hB.trans (hbb.mono hB.size)
    replace h2 := h2.trans (hbb.mono h2.size)
    clear hb hbb hA  
    go_wp2_with fail
    have hA := Below.refl w15.heap.size w15
    refine (of_any x hx _).mono ?_
    rintro e w16 ⟨a7, c7, z7, rfl, S7, N7, v7, l7, hb⟩
    have V7 : Hid (val z7 = x) := v7
    have b7 : z7.length ≤ 1 := by omega
    have hbb : Below w15.heap.size w15 w16 := hA.trans (hb.mono hA.size)
    replace A := A.below hb
    replace I := I.below hb
    replace S5 := S5.below hb
    replace S6 := S6.below hb
    have z16 := hbb.size
    replace hB := hB.trans (hbb.mono hB.size)
    replace h2 := h2.trans (hbb.mono h2.size)
    clear hb hbb hA  v7 l7
    go_wp2_with fail
    have hA := Below.refl w16.heap.size w16
    refine (rof_any x hx _).mono ?_
    rintro e w17 ⟨a8, c8, z8, rfl, S8, N8, v8, l8, hb⟩
    have V8 : Hid (val z8 = x) := v8
    have b8 : z8.length ≤ 1 := by omega
    have hbb : Below w16.heap.size w16 w17 := hA.trans (hb.mono hA.size)
    replace A := A.below hb
    replace I := I.below hb
    replace S5 := S5.below hb
    replace S6 := S6.below hb
    replace S7 := S7.below hb
    have z17 := hbb.size
    replace hB := hB.trans (hbb.mono hB.size)
    replace h2 := h2.trans (hbb.mono h2.size)
    clear hb hbb hA  v8 l8
    go_wp2_with fail
    have hA := Below.refl w17.heap.size w17
    refine (same_len S7 S8 (norm_unique S7.words S8.words N7 N8 (by rw [V7.out, V8.out])) (by omega)).mono ?_
    rintro e w18 ⟨rfl, hb⟩
    have hbb : Below w17.heap.size w17 w18 := hA.trans (hb.mono hA.size)
    replace A := A.below hb
    replace I := I.below hb
    replace S5 := S5.below hb
    replace S6 := S6.below hb
    replace S7 := S7.below hb
    replace S8 := S8.below hb
    have z18 := hbb.size
    replace hB := hB.trans (hbb.mono hB.size)
    replace h2 := h2.trans (hbb.mono h2.size)
    clear hb hbb hA  
    clear A I S6 S7 S8
    go_wp2_with fail
    refine (over_fr (Seg.nil w18.heap.size _) (by simp) 0 (fun h => absurd rfl h)).mono ?_
    rintro e w19 ⟨rfl, hlo, hhi⟩
    replace hB := hB.trans (hlo.mono (by omega))
    replace h2 := h2.trans (hlo.mono (by omega))
    replace S5 := S5.above (fun k _ => hhi k (Nat.zero_le _)) hlo.size
    have z19 := hlo.size
    clear hlo hhi
    go_wp2_with fail
    refine (over_fr (Seg.nil w19.heap.size _) (by simp) 0 (fun h => absurd rfl h)).mono ?_
    rintro e w20 ⟨rfl, hlo, hhi⟩
    replace hB := hB.trans (hlo.mono (by omega))
    replace h2 := h2.trans (hlo.mono (by omega))
    replace S5 := S5.above (fun k _ => hhi k (Nat.zero_le _)) hlo.size
    have z20 := hlo.size
    clear hlo hhi
    go_wp2_with fail
    refine (over_fr S5 (by omega) w7.heap.size R5).mono ?_
    rintro e w21 ⟨rfl, hlo, hhi⟩
    replace hB := hB.trans (hlo.mono (by omega))
    replace h2 := h2.trans (hlo.mono (by omega))
    have z21 := hlo.size
    clear hlo hhi S5 R5
    have A := A2.below h2
    have I := I2.below h2
    go_wp2_with fail
    have hA := Below.refl w21.heap.size w21
    refine (same_len I A rfl (by omega)).mono ?_
    rintro e w22 ⟨rfl, hb⟩
    have hbb : Below w21.heap.size w21 w22 := hA.trans (hb.mono hA.size)
    replace A := A.below hb
    replace I := I.below hb
    have z22 := hbb.size
    replace hB := hB.trans (hbb.mono hB.size)
    replace h2 := h2.trans (hbb.mono h2.size)
    clear hb hbb hA  
    go_wp2_with fail
    have hA := Below.refl w22.heap.size w22
    refine (awake_any _).mono ?_
    rintro e w23 ⟨rfl, hb⟩
    have hbb : Below w22.heap.size w22 w23 := hA.trans (hb.mono hA.size)
    replace A := A.below hb
    replace I := I.below hb
    have z23 := hbb.size
    replace hB := hB.trans (hbb.mono hB.size)
    replace h2 := h2.trans (hbb.mono h2.size)
    clear hb hbb hA  
    go_wp2
    go_ret
    exact ⟨rfl, hB⟩

theorem moves_any {a : Option Addr} {la ca : Nat} {zs : List Int} {w : World} (A : Seg 0 w (.slice a la ca) zs) (b : Int) (_hb : -9223372036854775808 ≤ b ∧ b ≤ 9223372036854775807) (x : Int) (hx : 0 ≤ x ∧ x < 18446744073709551616) :
    Calls Try.prog 4 #[.slice a la ca, .int .i64 b, .int .u64 x] w fun e w' => e = .returned (.bool true) ∧ Below w.heap.size w w' := by
  by_cases h : 60 < la ∨ (5000 < b ∧ b ≤ 16777216)
  · exact moves_long a la ca b x w h
  · obtain ⟨rfl, _⟩ := A.len
    by_cases hv : 0 ≤ b ∧ b ≤ 16777216
    · obtain ⟨n, rfl⟩ := Int.eq_ofNat_of_zero_le hv.1
      by_cases h1 : val zs < 18446744073709551616
      · exact moves_ok_one A (by omega) n (by omega) x hx h1
      · exact moves_ok_more A (by omega) n (by omega) x hx (show 18446744073709551616 ≤ val zs by omega)
    · by_cases h1 : val zs < 18446744073709551616
      · exact moves_no_one A (by omega) b hv x hx h1
      · exact moves_no_more A (by omega) b hv x hx (show 18446744073709551616 ≤ val zs by omega)
#print axioms moves_any
end Go.Proofs.Ytfcndibfbficbaa
