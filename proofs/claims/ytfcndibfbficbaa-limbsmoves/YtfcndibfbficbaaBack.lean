/-
  The walk of LimbsBack.
-/
import Derived.Test.YtfcndibfbficbaaSums
namespace Go.Proofs.Ytfcndibfbficbaa
open Go.RowKit

theorem mul_div_two (v : Int) (s : Nat) : v * 2 ^ s / 2 ^ s = v := Int.mul_ediv_cancel _ (by have := two_pos s; omega)
theorem blen_shl {v : Int} (s : Nat) (h0 : 0 ≤ v) (h : v ≠ 0) : blen (v * 2 ^ s) = blen v + s := by
  obtain ⟨n, rfl⟩ := Int.eq_ofNat_of_zero_le h0
  have e : ((n : Int) * 2 ^ s).toNat = n * 2 ^ s := by
    rw [show ((2 : Int) ^ s) = ((2 ^ s : Nat) : Int) by simp, ← Int.natCast_mul]; rfl
  unfold blen
  rw [e, Go.bitLen_shift (n * 2 ^ s) s (by rw [Nat.mul_div_cancel _ (Nat.two_pow_pos s)]; omega), Nat.mul_div_cancel _ (Nat.two_pow_pos s)]
  simp; omega
theorem blen_le_words {zs : List Int} (hw : Words zs) : blen (val zs) ≤ 64 * zs.length := by
  have h1 := val_lt hw
  rw [pw_two] at h1
  unfold blen Go.bitLen
  split
  · omega
  · rename_i h
    have := (Nat.log2_lt h).2 (show (val zs).toNat < 2 ^ (64 * zs.length) by omega)
    omega
theorem blen_pos {v : Int} (h0 : 0 ≤ v) (h : v ≠ 0) : 0 < blen v := by
  unfold blen Go.bitLen
  rw [if_neg (by omega)]
  omega
/-- Up(n, bits), be n 0 or not. -/
theorem up_any {lo : Nat} {sv : Value} {zs : List Int} {w : World} (h : Seg lo w sv zs) (hl : zs.length ≤ 10000) (bits : Nat) (hbits : bits ≤ 16777216) :
    Calls Try.prog 22 #[sv, .int .i64 bits] w fun e w' => ∃ (a : Option Addr) (cap : Nat) (us : List Int), e = .returned (.tuple #[.slice a us.length cap, .int .i64 0]) ∧ Seg w.heap.size w' (.slice a us.length cap) us ∧ Norm us ∧ val us = val zs * 2 ^ bits ∧ us.length ≤ zs.length + bits / 64 + 1 ∧ Below w.heap.size w w' := by
  by_cases h0 : val zs = 0
  · refine (up_zero h hl bits hbits h0).mono ?_
    rintro e w' ⟨rfl, hb⟩
    exact ⟨none, 0, [], rfl, Seg.nil _ _, norm_nil, by rw [h0, val_nil, Int.zero_mul], Nat.zero_le _, hb⟩
  · exact up_yes h hl bits hbits h0

set_option maxRecDepth 100000 in
set_option maxHeartbeats 1000000 in
/-- LimbsBack, where the list is long. -/
theorem back_long (a : Option Addr) (la ca : Nat) (x y : Int) (w : World) (h : 60 < la) :
    Calls Try.prog 8 #[.slice a la ca, .int .i64 x, .int .i64 y] w fun e w' => e = .returned (.bool true) ∧ Below w.heap.size w w' := by
  have l1 := fun w => long_any a none la ca 0 0 w
  rw [decide_eq_true (Or.inl h)] at l1
  clear h
  have L1 := hide l1
  clear l1
  go_enter Try.func8, Try.ntmps8
  go_wp2_with fail
  refine (awake_any w).mono ?_
  rintro e w1 ⟨rfl, hb1⟩
  go_wp2_with fail
  refine (L1.out _).mono ?_
  rintro e w2 ⟨rfl, rfl⟩
  go_wp2
  go_ret
  exact ⟨rfl, hb1⟩

set_option maxRecDepth 100000 in
set_option maxHeartbeats 4000000 in
theorem back_zero {a : Option Addr} {ca : Nat} {zs : List Int} {w : World} (A : Seg 0 w (.slice a zs.length ca) zs) (hz : zs.length ≤ 60) (x y : Int) (hx : -9223372036854775808 ≤ x ∧ x ≤ 9223372036854775807) (hy : -9223372036854775808 ≤ y ∧ y ≤ 9223372036854775807) (H0 : Hid (val zs = 0)) :
    Calls Try.prog 8 #[.slice a zs.length ca, .int .i64 x, .int .i64 y] w fun e w' => e = .returned (.bool true) ∧ Below w.heap.size w w' := by
  have l1 := fun w => long_any a none zs.length ca 0 0 w
  rw [decide_eq_false (show ¬ (60 < zs.length ∨ 60 < 0) by omega)] at l1
  have L1 := hide l1
  clear l1
  have hB := Below.refl w.heap.size w
  go_enter Try.func8, Try.ntmps8
  go_wp2_with fail
  have hA := Below.refl w.heap.size w
  refine (awake_any _).mono ?_
  rintro e w1 ⟨rfl, hb⟩
  have hbb : Below w.heap.size w w1 := hA.trans (hb.mono hA.size)
  replace A := A.below hb
  replace hB := hB.trans (hbb.mono hB.size)
  clear hb hbb hA  
  go_wp2_with fail
  have hA := Below.refl w1.heap.size w1
  refine (L1.out _).mono ?_
  rintro e w2 ⟨rfl, hw⟩
  have hb := hw_below hw
  clear hw
  have hbb : Below w1.heap.size w1 w2 := hA.trans (hb.mono hA.size)
  replace A := A.below hb
  replace hB := hB.trans (hbb.mono hB.size)
  clear hb hbb hA  
  go_wp2_with fail
  have hA := Below.refl w2.heap.size w2
  refine (pick_any x hx.1 hx.2 _).mono ?_
  rintro e w3 ⟨s, hs, rfl, hw⟩
  have hb := hw_below hw
  clear hw
  have hbb : Below w2.heap.size w2 w3 := hA.trans (hb.mono hA.size)
  replace A := A.below hb
  replace hB := hB.trans (hbb.mono hB.size)
  clear hb hbb hA  
  go_wp2_with fail
  have hA := Below.refl w3.heap.size w3
  refine (pick_any y hy.1 hy.2 _).mono ?_
  rintro e w4 ⟨t, ht, rfl, hw⟩
  have hb := hw_below hw
  clear hw
  have hbb : Below w3.heap.size w3 w4 := hA.trans (hb.mono hA.size)
  replace A := A.below hb
  replace hB := hB.trans (hbb.mono hB.size)
  clear hb hbb hA  
  go_wp2_with fail
  have hA := Below.refl w4.heap.size w4
  refine (up_any A (by omega) s (by omega)).mono ?_
  rintro e w5 ⟨a1, c1, z1, rfl, S1, N1, v1, l1, hb⟩
  have V1 : Hid (val z1 = val zs * 2 ^ s) := v1
  have b1 : z1.length ≤ 92 := by omega
  have hbb : Below w4.heap.size w4 w5 := hA.trans (hb.mono hA.size)
  replace A := A.below hb
  replace hB := hB.trans (hbb.mono hB.size)
  clear hb hbb hA  v1 l1
  go_wp2_with fail
  have hA := Below.refl w5.heap.size w5
  refine (down_yes S1 (by omega) s (by omega)).mono ?_
  rintro e w6 ⟨a2, c2, z2, rfl, S2, N2, v2, l2, hb⟩
  have V2 : Hid (val z2 = val zs) := by rw [Hid, v2, V1.out]; exact mul_div_two _ _
  have b2 : z2.length ≤ 92 := by omega
  have hbb : Below w5.heap.size w5 w6 := hA.trans (hb.mono hA.size)
  replace A := A.below hb
  replace S1 := S1.below hb
  replace hB := hB.trans (hbb.mono hB.size)
  clear hb hbb hA  v2 l2
  go_wp2_with fail
  have hA := Below.refl w6.heap.size w6
  refine (up_any S1 (by omega) t (by omega)).mono ?_
  rintro e w7 ⟨a3, c3, z3, rfl, S3, N3, v3, l3, hb⟩
  have V3 : Hid (val z3 = val zs * 2 ^ (s + t)) := by rw [Hid, v3, V1.out, Int.pow_add, Int.mul_assoc]
  have b3 : z3.length ≤ 124 := by omega
  have hbb : Below w6.heap.size w6 w7 := hA.trans (hb.mono hA.size)
  replace A := A.below hb
  replace S1 := S1.below hb
  replace S2 := S2.below hb
  replace hB := hB.trans (hbb.mono hB.size)
  clear hb hbb hA  v3 l3
  go_wp2_with fail
  have hA := Below.refl w7.heap.size w7
  rw [show ((s : Int) + (t : Int)) = ((s + t : Nat) : Int) by omega]
  refine (up_any A (by omega) (s + t) (by omega)).mono ?_
  rintro e w8 ⟨a4, c4, z4, rfl, S4, N4, v4, l4, hb⟩
  have V4 : Hid (val z4 = val zs * 2 ^ (s + t)) := v4
  have b4 : z4.length ≤ 124 := by omega
  have hbb : Below w7.heap.size w7 w8 := hA.trans (hb.mono hA.size)
  replace A := A.below hb
  replace S1 := S1.below hb
  replace S2 := S2.below hb
  replace S3 := S3.below hb
  replace hB := hB.trans (hbb.mono hB.size)
  clear hb hbb hA  v4 l4
  go_wp2_with fail
  have hA := Below.refl w8.heap.size w8
  rw [show ((s : Int) + (t : Int)) = ((s + t : Nat) : Int) by omega]
  refine (down_yes S3 (by omega) (s + t) (by omega)).mono ?_
  rintro e w9 ⟨a5, c5, z5, rfl, S5, N5, v5, l5, hb⟩
  have V5 : Hid (val z5 = val zs) := by rw [Hid, v5, V3.out]; exact mul_div_two _ _
  have b5 : z5.length ≤ 124 := by omega
  have hbb : Below w8.heap.size w8 w9 := hA.trans (hb.mono hA.size)
  replace A := A.below hb
  replace S1 := S1.below hb
  replace S2 := S2.below hb
  replace S3 := S3.below hb
  replace S4 := S4.below hb
  replace hB := hB.trans (hbb.mono hB.size)
  clear hb hbb hA  v5 l5
  go_wp2_with fail
  have hA := Below.refl w9.heap.size w9
  refine (up_any A (by omega) 1 (by omega)).mono ?_
  rintro e w10 ⟨a6, c6, z6, rfl, S6, N6, v6, l6, hb⟩
  have V6 : Hid (val z6 = val zs * 2 ^ 1) := v6
  have b6 : z6.length ≤ 62 := by omega
  have hbb : Below w9.heap.size w9 w10 := hA.trans (hb.mono hA.size)
  replace A := A.below hb
  replace S1 := S1.below hb
  replace S2 := S2.below hb
  replace S3 := S3.below hb
  replace S4 := S4.below hb
  replace S5 := S5.below hb
  replace hB := hB.trans (hbb.mono hB.size)
  clear hb hbb hA  v6 l6
  go_wp2_with fail
  have hA := Below.refl w10.heap.size w10
  refine (fine_yes S1 N1 (by omega)).mono ?_
  rintro e w11 ⟨rfl, hw⟩
  have hb := hw_below hw
  clear hw
  have hbb : Below w10.heap.size w10 w11 := hA.trans (hb.mono hA.size)
  replace A := A.below hb
  replace S1 := S1.below hb
  replace S2 := S2.below hb
  replace S3 := S3.below hb
  replace S4 := S4.below hb
  replace S5 := S5.below hb
  replace S6 := S6.below hb
  replace hB := hB.trans (hbb.mono hB.size)
  clear hb hbb hA  
  go_wp2_with fail
  have hA := Below.refl w11.heap.size w11
  refine (fine_yes S2 N2 (by omega)).mono ?_
  rintro e w12 ⟨rfl, hw⟩
  have hb := hw_below hw
  clear hw
  have hbb : Below w11.heap.size w11 w12 := hA.trans (hb.mono hA.size)
  replace A := A.below hb
  replace S1 := S1.below hb
  replace S2 := S2.below hb
  replace S3 := S3.below hb
  replace S4 := S4.below hb
  replace S5 := S5.below hb
  replace S6 := S6.below hb
  replace hB := hB.trans (hbb.mono hB.size)
  clear hb hbb hA  
  go_wp2_with fail
  have hA := Below.refl w12.heap.size w12
  have hl := len_any A (by omega)
  rw [H0.out, blen_zero] at hl
  refine (hl).mono ?_
  rintro e w13 ⟨rfl, hb⟩
  have hbb : Below w12.heap.size w12 w13 := hA.trans (hb.mono hA.size)
  replace A := A.below hb
  replace S1 := S1.below hb
  replace S2 := S2.below hb
  replace S3 := S3.below hb
  replace S4 := S4.below hb
  replace S5 := S5.below hb
  replace S6 := S6.below hb
  replace hB := hB.trans (hbb.mono hB.size)
  clear hb hbb hA  hl
  go_wp2_with fail
  have hA := Below.refl w13.heap.size w13
  refine (trim_any A (by omega)).mono ?_
  rintro e w14 ⟨a7, c7, z7, rfl, S7, N7, v7, l7, hb⟩
  have V7 : Hid (val z7 = val zs) := v7
  have b7 : z7.length ≤ 60 := by omega
  have hbb : Below w13.heap.size w13 w14 := hA.trans (hb.mono hA.size)
  replace A := A.below hb
  replace S1 := S1.below hb
  replace S2 := S2.below hb
  replace S3 := S3.below hb
  replace S4 := S4.below hb
  replace S5 := S5.below hb
  replace S6 := S6.below hb
  replace hB := hB.trans (hbb.mono hB.size)
  clear hb hbb hA  v7 l7
  go_wp2_with fail
  have hA := Below.refl w14.heap.size w14
  refine (same_len S2 S7 (norm_unique S2.words S7.words N2 N7 (by rw [V2.out, V7.out])) (by omega)).mono ?_
  rintro e w15 ⟨rfl, hb⟩
  have hbb : Below w14.heap.size w14 w15 := hA.trans (hb.mono hA.size)
  replace A := A.below hb
  replace S1 := S1.below hb
  replace S2 := S2.below hb
  replace S3 := S3.below hb
  replace S4 := S4.below hb
  replace S5 := S5.below hb
  replace S6 := S6.below hb
  replace S7 := S7.below hb
  replace hB := hB.trans (hbb.mono hB.size)
  clear hb hbb hA  
  go_wp2_with fail
  have hA := Below.refl w15.heap.size w15
  refine (same_len S3 S4 (norm_unique S3.words S4.words N3 N4 (by rw [V3.out, V4.out])) (by omega)).mono ?_
  rintro e w16 ⟨rfl, hb⟩
  have hbb : Below w15.heap.size w15 w16 := hA.trans (hb.mono hA.size)
  replace A := A.below hb
  replace S1 := S1.below hb
  replace S2 := S2.below hb
  replace S3 := S3.below hb
  replace S4 := S4.below hb
  replace S5 := S5.below hb
  replace S6 := S6.below hb
  replace S7 := S7.below hb
  replace hB := hB.trans (hbb.mono hB.size)
  clear hb hbb hA  
  go_wp2_with fail
  have hA := Below.refl w16.heap.size w16
  refine (same_len S5 S2 (norm_unique S5.words S2.words N5 N2 (by rw [V5.out, V2.out])) (by omega)).mono ?_
  rintro e w17 ⟨rfl, hb⟩
  have hbb : Below w16.heap.size w16 w17 := hA.trans (hb.mono hA.size)
  replace A := A.below hb
  replace S1 := S1.below hb
  replace S2 := S2.below hb
  replace S3 := S3.below hb
  replace S4 := S4.below hb
  replace S5 := S5.below hb
  replace S6 := S6.below hb
  replace S7 := S7.below hb
  replace hB := hB.trans (hbb.mono hB.size)
  clear hb hbb hA  
  go_wp2_with fail
  have hA := Below.refl w17.heap.size w17
  refine (add_any A A (by omega) (by omega)).mono ?_
  rintro e w18 ⟨a8, c8, z8, rfl, S8, N8, v8, l8, hb⟩
  have V8 : Hid (val z8 = val zs + val zs) := v8
  have b8 : z8.length ≤ 61 := by omega
  have hbb : Below w17.heap.size w17 w18 := hA.trans (hb.mono hA.size)
  replace A := A.below hb
  replace S1 := S1.below hb
  replace S2 := S2.below hb
  replace S3 := S3.below hb
  replace S4 := S4.below hb
  replace S5 := S5.below hb
  replace S6 := S6.below hb
  replace S7 := S7.below hb
  replace hB := hB.trans (hbb.mono hB.size)
  clear hb hbb hA  v8 l8
  go_wp2_with fail
  have hA := Below.refl w18.heap.size w18
  refine (same_len S6 S8 (norm_unique S6.words S8.words N6 N8 (by rw [V6.out, V8.out]; omega)) (by omega)).mono ?_
  rintro e w19 ⟨rfl, hb⟩
  have hbb : Below w18.heap.size w18 w19 := hA.trans (hb.mono hA.size)
  replace A := A.below hb
  replace S1 := S1.below hb
  replace S2 := S2.below hb
  replace S3 := S3.below hb
  replace S4 := S4.below hb
  replace S5 := S5.below hb
  replace S6 := S6.below hb
  replace S7 := S7.below hb
  replace S8 := S8.below hb
  replace hB := hB.trans (hbb.mono hB.size)
  clear hb hbb hA  
  go_wp2
  go_ret
  exact ⟨rfl, hB⟩

set_option maxRecDepth 100000 in
set_option maxHeartbeats 4000000 in
theorem back_more {a : Option Addr} {ca : Nat} {zs : List Int} {w : World} (A : Seg 0 w (.slice a zs.length ca) zs) (hz : zs.length ≤ 60) (x y : Int) (hx : -9223372036854775808 ≤ x ∧ x ≤ 9223372036854775807) (hy : -9223372036854775808 ≤ y ∧ y ≤ 9223372036854775807) (H0 : Hid (val zs ≠ 0)) :
    Calls Try.prog 8 #[.slice a zs.length ca, .int .i64 x, .int .i64 y] w fun e w' => e = .returned (.bool true) ∧ Below w.heap.size w w' := by
  have l1 := fun w => long_any a none zs.length ca 0 0 w
  rw [decide_eq_false (show ¬ (60 < zs.length ∨ 60 < 0) by omega)] at l1
  have L1 := hide l1
  clear l1
  have bp : (0 : Int) < (blen (val zs) : Int) := by have := blen_pos (val_nonneg A.words) H0.out; omega
  have bq : (blen (val zs) : Int) ≤ 3840 := by have := blen_le_words A.words; omega
  have hB := Below.refl w.heap.size w
  go_enter Try.func8, Try.ntmps8
  go_wp2_with fail
  have hA := Below.refl w.heap.size w
  refine (awake_any _).mono ?_
  rintro e w1 ⟨rfl, hb⟩
  have hbb : Below w.heap.size w w1 := hA.trans (hb.mono hA.size)
  replace A := A.below hb
  replace hB := hB.trans (hbb.mono hB.size)
  clear hb hbb hA  
  go_wp2_with fail
  have hA := Below.refl w1.heap.size w1
  refine (L1.out _).mono ?_
  rintro e w2 ⟨rfl, hw⟩
  have hb := hw_below hw
  clear hw
  have hbb : Below w1.heap.size w1 w2 := hA.trans (hb.mono hA.size)
  replace A := A.below hb
  replace hB := hB.trans (hbb.mono hB.size)
  clear hb hbb hA  
  go_wp2_with fail
  have hA := Below.refl w2.heap.size w2
  refine (pick_any x hx.1 hx.2 _).mono ?_
  rintro e w3 ⟨s, hs, rfl, hw⟩
  have hb := hw_below hw
  clear hw
  have hbb : Below w2.heap.size w2 w3 := hA.trans (hb.mono hA.size)
  replace A := A.below hb
  replace hB := hB.trans (hbb.mono hB.size)
  clear hb hbb hA  
  go_wp2_with fail
  have hA := Below.refl w3.heap.size w3
  refine (pick_any y hy.1 hy.2 _).mono ?_
  rintro e w4 ⟨t, ht, rfl, hw⟩
  have hb := hw_below hw
  clear hw
  have hbb : Below w3.heap.size w3 w4 := hA.trans (hb.mono hA.size)
  replace A := A.below hb
  replace hB := hB.trans (hbb.mono hB.size)
  clear hb hbb hA  
  go_wp2_with fail
  have hA := Below.refl w4.heap.size w4
  refine (up_any A (by omega) s (by omega)).mono ?_
  rintro e w5 ⟨a1, c1, z1, rfl, S1, N1, v1, l1, hb⟩
  have V1 : Hid (val z1 = val zs * 2 ^ s) := v1
  have b1 : z1.length ≤ 92 := by omega
  have hbb : Below w4.heap.size w4 w5 := hA.trans (hb.mono hA.size)
  replace A := A.below hb
  replace hB := hB.trans (hbb.mono hB.size)
  clear hb hbb hA  v1 l1
  go_wp2_with fail
  have hA := Below.refl w5.heap.size w5
  refine (down_yes S1 (by omega) s (by omega)).mono ?_
  rintro e w6 ⟨a2, c2, z2, rfl, S2, N2, v2, l2, hb⟩
  have V2 : Hid (val z2 = val zs) := by rw [Hid, v2, V1.out]; exact mul_div_two _ _
  have b2 : z2.length ≤ 92 := by omega
  have hbb : Below w5.heap.size w5 w6 := hA.trans (hb.mono hA.size)
  replace A := A.below hb
  replace S1 := S1.below hb
  replace hB := hB.trans (hbb.mono hB.size)
  clear hb hbb hA  v2 l2
  go_wp2_with fail
  have hA := Below.refl w6.heap.size w6
  refine (up_any S1 (by omega) t (by omega)).mono ?_
  rintro e w7 ⟨a3, c3, z3, rfl, S3, N3, v3, l3, hb⟩
  have V3 : Hid (val z3 = val zs * 2 ^ (s + t)) := by rw [Hid, v3, V1.out, Int.pow_add, Int.mul_assoc]
  have b3 : z3.length ≤ 124 := by omega
  have hbb : Below w6.heap.size w6 w7 := hA.trans (hb.mono hA.size)
  replace A := A.below hb
  replace S1 := S1.below hb
  replace S2 := S2.below hb
  replace hB := hB.trans (hbb.mono hB.size)
  clear hb hbb hA  v3 l3
  go_wp2_with fail
  have hA := Below.refl w7.heap.size w7
  rw [show ((s : Int) + (t : Int)) = ((s + t : Nat) : Int) by omega]
  refine (up_any A (by omega) (s + t) (by omega)).mono ?_
  rintro e w8 ⟨a4, c4, z4, rfl, S4, N4, v4, l4, hb⟩
  have V4 : Hid (val z4 = val zs * 2 ^ (s + t)) := v4
  have b4 : z4.length ≤ 124 := by omega
  have hbb : Below w7.heap.size w7 w8 := hA.trans (hb.mono hA.size)
  replace A := A.below hb
  replace S1 := S1.below hb
  replace S2 := S2.below hb
  replace S3 := S3.below hb
  replace hB := hB.trans (hbb.mono hB.size)
  clear hb hbb hA  v4 l4
  go_wp2_with fail
  have hA := Below.refl w8.heap.size w8
  rw [show ((s : Int) + (t : Int)) = ((s + t : Nat) : Int) by omega]
  refine (down_yes S3 (by omega) (s + t) (by omega)).mono ?_
  rintro e w9 ⟨a5, c5, z5, rfl, S5, N5, v5, l5, hb⟩
  have V5 : Hid (val z5 = val zs) := by rw [Hid, v5, V3.out]; exact mul_div_two _ _
  have b5 : z5.length ≤ 124 := by omega
  have hbb : Below w8.heap.size w8 w9 := hA.trans (hb.mono hA.size)
  replace A := A.below hb
  replace S1 := S1.below hb
  replace S2 := S2.below hb
  replace S3 := S3.below hb
  replace S4 := S4.below hb
  replace hB := hB.trans (hbb.mono hB.size)
  clear hb hbb hA  v5 l5
  go_wp2_with fail
  have hA := Below.refl w9.heap.size w9
  refine (up_any A (by omega) 1 (by omega)).mono ?_
  rintro e w10 ⟨a6, c6, z6, rfl, S6, N6, v6, l6, hb⟩
  have V6 : Hid (val z6 = val zs * 2 ^ 1) := v6
  have b6 : z6.length ≤ 62 := by omega
  have hbb : Below w9.heap.size w9 w10 := hA.trans (hb.mono hA.size)
  replace A := A.below hb
  replace S1 := S1.below hb
  replace S2 := S2.below hb
  replace S3 := S3.below hb
  replace S4 := S4.below hb
  replace S5 := S5.below hb
  replace hB := hB.trans (hbb.mono hB.size)
  clear hb hbb hA  v6 l6
  go_wp2_with fail
  have hA := Below.refl w10.heap.size w10
  refine (fine_yes S1 N1 (by omega)).mono ?_
  rintro e w11 ⟨rfl, hw⟩
  have hb := hw_below hw
  clear hw
  have hbb : Below w10.heap.size w10 w11 := hA.trans (hb.mono hA.size)
  replace A := A.below hb
  replace S1 := S1.below hb
  replace S2 := S2.below hb
  replace S3 := S3.below hb
  replace S4 := S4.below hb
  replace S5 := S5.below hb
  replace S6 := S6.below hb
  replace hB := hB.trans (hbb.mono hB.size)
  clear hb hbb hA  
  go_wp2_with fail
  have hA := Below.refl w11.heap.size w11
  refine (fine_yes S2 N2 (by omega)).mono ?_
  rintro e w12 ⟨rfl, hw⟩
  have hb := hw_below hw
  clear hw
  have hbb : Below w11.heap.size w11 w12 := hA.trans (hb.mono hA.size)
  replace A := A.below hb
  replace S1 := S1.below hb
  replace S2 := S2.below hb
  replace S3 := S3.below hb
  replace S4 := S4.below hb
  replace S5 := S5.below hb
  replace S6 := S6.below hb
  replace hB := hB.trans (hbb.mono hB.size)
  clear hb hbb hA  
  go_wp2_with fail
  have hA := Below.refl w12.heap.size w12
  refine (len_any A (by omega)).mono ?_
  rintro e w13 ⟨rfl, hb⟩
  have hbb : Below w12.heap.size w12 w13 := hA.trans (hb.mono hA.size)
  replace A := A.below hb
  replace S1 := S1.below hb
  replace S2 := S2.below hb
  replace S3 := S3.below hb
  replace S4 := S4.below hb
  replace S5 := S5.below hb
  replace S6 := S6.below hb
  replace hB := hB.trans (hbb.mono hB.size)
  clear hb hbb hA  
  go_wp2_with fail
  have hA := Below.refl w13.heap.size w13
  have hl := len_any S1 (by omega)
  rw [V1.out, blen_shl s (val_nonneg A.words) H0.out] at hl
  rw [show ((blen (val zs) + s : Nat) : Int) = (blen (val zs) : Int) + (s : Int) by omega] at hl
  refine (hl).mono ?_
  rintro e w14 ⟨rfl, hb⟩
  have hbb : Below w13.heap.size w13 w14 := hA.trans (hb.mono hA.size)
  replace A := A.below hb
  replace S1 := S1.below hb
  replace S2 := S2.below hb
  replace S3 := S3.below hb
  replace S4 := S4.below hb
  replace S5 := S5.below hb
  replace S6 := S6.below hb
  replace hB := hB.trans (hbb.mono hB.size)
  clear hb hbb hA  hl
  go_wp2_with fail
  have hA := Below.refl w14.heap.size w14
  refine (trim_any A (by omega)).mono ?_
  rintro e w15 ⟨a7, c7, z7, rfl, S7, N7, v7, l7, hb⟩
  have V7 : Hid (val z7 = val zs) := v7
  have b7 : z7.length ≤ 60 := by omega
  have hbb : Below w14.heap.size w14 w15 := hA.trans (hb.mono hA.size)
  replace A := A.below hb
  replace S1 := S1.below hb
  replace S2 := S2.below hb
  replace S3 := S3.below hb
  replace S4 := S4.below hb
  replace S5 := S5.below hb
  replace S6 := S6.below hb
  replace hB := hB.trans (hbb.mono hB.size)
  clear hb hbb hA  v7 l7
  go_wp2_with fail
  have hA := Below.refl w15.heap.size w15
  refine (same_len S2 S7 (norm_unique S2.words S7.words N2 N7 (by rw [V2.out, V7.out])) (by omega)).mono ?_
  rintro e w16 ⟨rfl, hb⟩
  have hbb : Below w15.heap.size w15 w16 := hA.trans (hb.mono hA.size)
  replace A := A.below hb
  replace S1 := S1.below hb
  replace S2 := S2.below hb
  replace S3 := S3.below hb
  replace S4 := S4.below hb
  replace S5 := S5.below hb
  replace S6 := S6.below hb
  replace S7 := S7.below hb
  replace hB := hB.trans (hbb.mono hB.size)
  clear hb hbb hA  
  go_wp2_with fail
  have hA := Below.refl w16.heap.size w16
  refine (same_len S3 S4 (norm_unique S3.words S4.words N3 N4 (by rw [V3.out, V4.out])) (by omega)).mono ?_
  rintro e w17 ⟨rfl, hb⟩
  have hbb : Below w16.heap.size w16 w17 := hA.trans (hb.mono hA.size)
  replace A := A.below hb
  replace S1 := S1.below hb
  replace S2 := S2.below hb
  replace S3 := S3.below hb
  replace S4 := S4.below hb
  replace S5 := S5.below hb
  replace S6 := S6.below hb
  replace S7 := S7.below hb
  replace hB := hB.trans (hbb.mono hB.size)
  clear hb hbb hA  
  go_wp2_with fail
  have hA := Below.refl w17.heap.size w17
  refine (same_len S5 S2 (norm_unique S5.words S2.words N5 N2 (by rw [V5.out, V2.out])) (by omega)).mono ?_
  rintro e w18 ⟨rfl, hb⟩
  have hbb : Below w17.heap.size w17 w18 := hA.trans (hb.mono hA.size)
  replace A := A.below hb
  replace S1 := S1.below hb
  replace S2 := S2.below hb
  replace S3 := S3.below hb
  replace S4 := S4.below hb
  replace S5 := S5.below hb
  replace S6 := S6.below hb
  replace S7 := S7.below hb
  replace hB := hB.trans (hbb.mono hB.size)
  clear hb hbb hA  
  go_wp2_with fail
  have hA := Below.refl w18.heap.size w18
  refine (add_any A A (by omega) (by omega)).mono ?_
  rintro e w19 ⟨a8, c8, z8, rfl, S8, N8, v8, l8, hb⟩
  have V8 : Hid (val z8 = val zs + val zs) := v8
  have b8 : z8.length ≤ 61 := by omega
  have hbb : Below w18.heap.size w18 w19 := hA.trans (hb.mono hA.size)
  replace A := A.below hb
  replace S1 := S1.below hb
  replace S2 := S2.below hb
  replace S3 := S3.below hb
  replace S4 := S4.below hb
  replace S5 := S5.below hb
  replace S6 := S6.below hb
  replace S7 := S7.below hb
  replace hB := hB.trans (hbb.mono hB.size)
  clear hb hbb hA  v8 l8
  go_wp2_with fail
  have hA := Below.refl w19.heap.size w19
  refine (same_len S6 S8 (norm_unique S6.words S8.words N6 N8 (by rw [V6.out, V8.out]; omega)) (by omega)).mono ?_
  rintro e w20 ⟨rfl, hb⟩
  have hbb : Below w19.heap.size w19 w20 := hA.trans (hb.mono hA.size)
  replace A := A.below hb
  replace S1 := S1.below hb
  replace S2 := S2.below hb
  replace S3 := S3.below hb
  replace S4 := S4.below hb
  replace S5 := S5.below hb
  replace S6 := S6.below hb
  replace S7 := S7.below hb
  replace S8 := S8.below hb
  replace hB := hB.trans (hbb.mono hB.size)
  clear hb hbb hA  
  go_wp2
  go_ret
  exact ⟨rfl, hB⟩

theorem back_any {a : Option Addr} {la ca : Nat} {zs : List Int} {w : World} (A : Seg 0 w (.slice a la ca) zs) (x : Int) (hx : -9223372036854775808 ≤ x ∧ x ≤ 9223372036854775807) (y : Int) (hy : -9223372036854775808 ≤ y ∧ y ≤ 9223372036854775807) :
    Calls Try.prog 8 #[.slice a la ca, .int .i64 x, .int .i64 y] w fun e w' => e = .returned (.bool true) ∧ Below w.heap.size w w' := by
  by_cases h : 60 < la
  · exact back_long a la ca x y w h
  · obtain ⟨rfl, _⟩ := A.len
    by_cases h0 : val zs = 0
    · exact back_zero A (by omega) x y hx hy h0
    · exact back_more A (by omega) x y hx hy h0
#print axioms back_any
end Go.Proofs.Ytfcndibfbficbaa
