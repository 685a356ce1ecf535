/-
  The walk of TimesRing.
-/
import Derived.Test.YtmgngkmdfccjaaaTKnown
namespace Go.Proofs.Ytmgngkmdfccjaaa
open Go.RowKit

set_option maxRecDepth 100000 in
set_option maxHeartbeats 1000000 in
/-- Where a list is long. -/
theorem ring_long (a : Option Addr) (la ca : Nat) (b : Option Addr) (lb cb : Nat) (c : Option Addr) (lc cc : Nat) (k : Int) (w : World) (h : 12 < la ∨ 12 < lb ∨ 12 < lc) :
    Calls Try.prog 6 #[.slice a la ca, .slice b lb cb, .slice c lc cc, .int .i64 k] w fun e w' => e = .returned (.bool true) ∧ Below w.heap.size w w' := by
  have q0 := fun w => longNat_any a la ca 12 w
  have q1 := fun w => longNat_any b lb cb 12 w
  have q2 := fun w => longNat_any c lc cc 12 w
  by_cases g0 : 12 < la
  · rw [decide_eq_true (show (12 : Int) < (la : Int) by omega)] at q0
    have Q0 := hide q0
    clear h g0 q0 q1 q2
    go_enter Try.func6, Try.ntmps6
    go_wp2_with fail
    refine (known_any w).mono ?_
    rintro e w1 ⟨rfl, hb1⟩
    go_wp2_with fail
    refine (Q0.out _).mono ?_
    rintro e w2 ⟨rfl, rfl⟩
    go_wp2
    go_ret
    exact ⟨rfl, hb1⟩
  · rw [decide_eq_false (show ¬ (12 : Int) < (la : Int) by omega)] at q0
    have Q0 := hide q0
    clear q0
    by_cases g1 : 12 < lb
    · rw [decide_eq_true (show (12 : Int) < (lb : Int) by omega)] at q1
      have Q1 := hide q1
      clear h g1 q1 q2
      go_enter Try.func6, Try.ntmps6
      go_wp2_with fail
      refine (known_any w).mono ?_
      rintro e w1 ⟨rfl, hb1⟩
      go_wp2_with fail
      refine (Q0.out _).mono ?_
      rintro e w2 ⟨rfl, rfl⟩
      go_wp2_with fail
      refine (Q1.out _).mono ?_
      rintro e w2 ⟨rfl, rfl⟩
      go_wp2
      go_ret
      exact ⟨rfl, hb1⟩
    · rw [decide_eq_false (show ¬ (12 : Int) < (lb : Int) by omega)] at q1
      have Q1 := hide q1
      clear q1
      rw [decide_eq_true (show (12 : Int) < (lc : Int) by omega)] at q2
      have Q2 := hide q2
      clear h q2
      go_enter Try.func6, Try.ntmps6
      go_wp2_with fail
      refine (known_any w).mono ?_
      rintro e w1 ⟨rfl, hb1⟩
      go_wp2_with fail
      refine (Q0.out _).mono ?_
      rintro e w2 ⟨rfl, rfl⟩
      go_wp2_with fail
      refine (Q1.out _).mono ?_
      rintro e w2 ⟨rfl, rfl⟩
      go_wp2_with fail
      refine (Q2.out _).mono ?_
      rintro e w2 ⟨rfl, rfl⟩
      go_wp2
      go_ret
      exact ⟨rfl, hb1⟩

set_option maxRecDepth 100000 in
set_option maxHeartbeats 4000000 in
theorem ring_short {a : Option Addr} {ca : Nat} {xs : List Int} {b : Option Addr} {cb : Nat} {ys : List Int} {c : Option Addr} {cc : Nat} {zs : List Int} {w : World} (A : Seg 0 w (.slice a xs.length ca) xs) (B : Seg 0 w (.slice b ys.length cb) ys) (C : Seg 0 w (.slice c zs.length cc) zs) (hx : xs.length ≤ 12) (hy : ys.length ≤ 12) (hz : zs.length ≤ 12) (k : Int) (hk : -9223372036854775808 ≤ k ∧ k ≤ 9223372036854775807) :
    Calls Try.prog 6 #[.slice a xs.length ca, .slice b ys.length cb, .slice c zs.length cc, .int .i64 k] w fun e w' => e = .returned (.bool true) ∧ Below w.heap.size w w' := by
  have q0 := fun w => longNat_any a xs.length ca 12 w
  rw [decide_eq_false (show ¬ (12 : Int) < (xs.length : Int) by omega)] at q0
  have Q0 := hide q0
  have px := val_nonneg A.words
  have q1 := fun w => longNat_any b ys.length cb 12 w
  rw [decide_eq_false (show ¬ (12 : Int) < (ys.length : Int) by omega)] at q1
  have Q1 := hide q1
  have py := val_nonneg B.words
  have q2 := fun w => longNat_any c zs.length cc 12 w
  rw [decide_eq_false (show ¬ (12 : Int) < (zs.length : Int) by omega)] at q2
  have Q2 := hide q2
  have pz := val_nonneg C.words
  clear q0 q1 q2
  have hB := Below.refl w.heap.size w
  go_enter Try.func6, Try.ntmps6
  go_wp2_with (go_at_call 23; refine (ofl_any _ _ _ _).mono ?_; rintro e w' ⟨rfl, rfl⟩)
  have hA := Below.refl w.heap.size w
  refine (known_any _).mono ?_
  rintro e w1 ⟨rfl, hb⟩
  have hbb : Below w.heap.size w w1 := hA.trans (hb.mono hA.size)
  replace A := A.below hb
  replace B := B.below hb
  replace C := C.below hb
  replace hB := hB.trans (hbb.mono hB.size)
  clear hb hbb hA  
  go_wp2_with (go_at_call 23; refine (ofl_any _ _ _ _).mono ?_; rintro e w' ⟨rfl, rfl⟩)
  have hA := Below.refl w1.heap.size w1
  refine (Q0.out _).mono ?_
  rintro e w2 ⟨rfl, hw⟩
  have hb := hw_below hw
  clear hw
  have hbb : Below w1.heap.size w1 w2 := hA.trans (hb.mono hA.size)
  replace A := A.below hb
  replace B := B.below hb
  replace C := C.below hb
  replace hB := hB.trans (hbb.mono hB.size)
  clear hb hbb hA  
  go_wp2_with (go_at_call 23; refine (ofl_any _ _ _ _).mono ?_; rintro e w' ⟨rfl, rfl⟩)
  have hA := Below.refl w2.heap.size w2
  refine (Q1.out _).mono ?_
  rintro e w3 ⟨rfl, hw⟩
  have hb := hw_below hw
  clear hw
  have hbb : Below w2.heap.size w2 w3 := hA.trans (hb.mono hA.size)
  replace A := A.below hb
  replace B := B.below hb
  replace C := C.below hb
  replace hB := hB.trans (hbb.mono hB.size)
  clear hb hbb hA  
  go_wp2_with (go_at_call 23; refine (ofl_any _ _ _ _).mono ?_; rintro e w' ⟨rfl, rfl⟩)
  have hA := Below.refl w3.heap.size w3
  refine (Q2.out _).mono ?_
  rintro e w4 ⟨rfl, hw⟩
  have hb := hw_below hw
  clear hw
  have hbb : Below w3.heap.size w3 w4 := hA.trans (hb.mono hA.size)
  replace A := A.below hb
  replace B := B.below hb
  replace C := C.below hb
  replace hB := hB.trans (hbb.mono hB.size)
  clear hb hbb hA  
  go_wp2_with (go_at_call 23; refine (ofl_any _ _ _ _).mono ?_; rintro e w' ⟨rfl, rfl⟩)
  have hA := Below.refl w4.heap.size w4
  refine (pick_below 8 (.inl rfl) k hk.1 hk.2 _).mono ?_
  rintro e w5 ⟨p, hp, rfl, hw⟩
  have hb := hw_below hw
  clear hw
  have hbb : Below w4.heap.size w4 w5 := hA.trans (hb.mono hA.size)
  replace A := A.below hb
  replace B := B.below hb
  replace C := C.below hb
  replace hB := hB.trans (hbb.mono hB.size)
  clear hb hbb hA  
  go_wp2_with (go_at_call 23; refine (ofl_any _ _ _ _).mono ?_; rintro e w' ⟨rfl, rfl⟩)
  have hA := Below.refl w5.heap.size w5
  refine (mul_any A B (by omega) (by omega)).mono ?_
  rintro e w6 ⟨a1, c1, z1, rfl, S1, N1, v1, l1, hb⟩
  have V1 : Hid (val z1 = val xs * val ys) := v1
  have b1 : z1.length ≤ 24 := by omega
  have hbb : Below w5.heap.size w5 w6 := hA.trans (hb.mono hA.size)
  replace A := A.below hb
  replace B := B.below hb
  replace C := C.below hb
  replace hB := hB.trans (hbb.mono hB.size)
  clear hb hbb hA  v1 l1
  go_wp2_with (go_at_call 23; refine (ofl_any _ _ _ _).mono ?_; rintro e w' ⟨rfl, rfl⟩)
  have hA := Below.refl w6.heap.size w6
  refine (mul_any B A (by omega) (by omega)).mono ?_
  rintro e w7 ⟨a2, c2, z2, rfl, S2, N2, v2, l2, hb⟩
  have V2 : Hid (val z2 = val ys * val xs) := v2
  have b2 : z2.length ≤ 24 := by omega
  have hbb : Below w6.heap.size w6 w7 := hA.trans (hb.mono hA.size)
  replace A := A.below hb
  replace B := B.below hb
  replace C := C.below hb
  replace S1 := S1.below hb
  replace hB := hB.trans (hbb.mono hB.size)
  clear hb hbb hA  v2 l2
  go_wp2_with (go_at_call 23; refine (ofl_any _ _ _ _).mono ?_; rintro e w' ⟨rfl, rfl⟩)
  have hA := Below.refl w7.heap.size w7
  refine (mul_any S1 C (by omega) (by omega)).mono ?_
  rintro e w8 ⟨a3, c3, z3, rfl, S3, N3, v3, l3, hb⟩
  have V3 : Hid (val z3 = val xs * val ys * val zs) := by rw [Hid, v3, V1.out]
  have b3 : z3.length ≤ 36 := by omega
  have hbb : Below w7.heap.size w7 w8 := hA.trans (hb.mono hA.size)
  replace A := A.below hb
  replace B := B.below hb
  replace C := C.below hb
  replace S1 := S1.below hb
  replace S2 := S2.below hb
  replace hB := hB.trans (hbb.mono hB.size)
  clear hb hbb hA  v3 l3
  go_wp2_with (go_at_call 23; refine (ofl_any _ _ _ _).mono ?_; rintro e w' ⟨rfl, rfl⟩)
  have hA := Below.refl w8.heap.size w8
  refine (mul_any B C (by omega) (by omega)).mono ?_
  rintro e w9 ⟨a4, c4, z4, rfl, S4, N4, v4, l4, hb⟩
  have V4 : Hid (val z4 = val ys * val zs) := v4
  have b4 : z4.length ≤ 24 := by omega
  have hbb : Below w8.heap.size w8 w9 := hA.trans (hb.mono hA.size)
  replace A := A.below hb
  replace B := B.below hb
  replace C := C.below hb
  replace S1 := S1.below hb
  replace S2 := S2.below hb
  replace S3 := S3.below hb
  replace hB := hB.trans (hbb.mono hB.size)
  clear hb hbb hA  v4 l4
  go_wp2_with (go_at_call 23; refine (ofl_any _ _ _ _).mono ?_; rintro e w' ⟨rfl, rfl⟩)
  have hA := Below.refl w9.heap.size w9
  refine (mul_any A S4 (by omega) (by omega)).mono ?_
  rintro e w10 ⟨a5, c5, z5, rfl, S5, N5, v5, l5, hb⟩
  have V5 : Hid (val z5 = val xs * (val ys * val zs)) := by rw [Hid, v5, V4.out]
  have b5 : z5.length ≤ 36 := by omega
  have hbb : Below w9.heap.size w9 w10 := hA.trans (hb.mono hA.size)
  replace A := A.below hb
  replace B := B.below hb
  replace C := C.below hb
  replace S1 := S1.below hb
  replace S2 := S2.below hb
  replace S3 := S3.below hb
  replace S4 := S4.below hb
  replace hB := hB.trans (hbb.mono hB.size)
  clear hb hbb hA  v5 l5
  go_wp2_with (go_at_call 23; refine (ofl_any _ _ _ _).mono ?_; rintro e w' ⟨rfl, rfl⟩)
  have hA := Below.refl w10.heap.size w10
  refine (add_any B C (by omega) (by omega)).mono ?_
  rintro e w11 ⟨a6, c6, z6, rfl, S6, N6, v6, l6, hb⟩
  have V6 : Hid (val z6 = val ys + val zs) := v6
  have b6 : z6.length ≤ 13 := by omega
  have hbb : Below w10.heap.size w10 w11 := hA.trans (hb.mono hA.size)
  replace A := A.below hb
  replace B := B.below hb
  replace C := C.below hb
  replace S1 := S1.below hb
  replace S2 := S2.below hb
  replace S3 := S3.below hb
  replace S4 := S4.below hb
  replace S5 := S5.below hb
  replace hB := hB.trans (hbb.mono hB.size)
  clear hb hbb hA  v6 l6
  go_wp2_with (go_at_call 23; refine (ofl_any _ _ _ _).mono ?_; rintro e w' ⟨rfl, rfl⟩)
  have hA := Below.refl w11.heap.size w11
  refine (mul_any A S6 (by omega) (by omega)).mono ?_
  rintro e w12 ⟨a7, c7, z7, rfl, S7, N7, v7, l7, hb⟩
  have V7 : Hid (val z7 = val xs * (val ys + val zs)) := by rw [Hid, v7, V6.out]
  have b7 : z7.length ≤ 25 := by omega
  have hbb : Below w11.heap.size w11 w12 := hA.trans (hb.mono hA.size)
  replace A := A.below hb
  replace B := B.below hb
  replace C := C.below hb
  replace S1 := S1.below hb
  replace S2 := S2.below hb
  replace S3 := S3.below hb
  replace S4 := S4.below hb
  replace S5 := S5.below hb
  replace S6 := S6.below hb
  replace hB := hB.trans (hbb.mono hB.size)
  clear hb hbb hA  v7 l7
  go_wp2_with (go_at_call 23; refine (ofl_any _ _ _ _).mono ?_; rintro e w' ⟨rfl, rfl⟩)
  have hA := Below.refl w12.heap.size w12
  refine (mul_any A C (by omega) (by omega)).mono ?_
  rintro e w13 ⟨a8, c8, z8, rfl, S8, N8, v8, l8, hb⟩
  have V8 : Hid (val z8 = val xs * val zs) := v8
  have b8 : z8.length ≤ 24 := by omega
  have hbb : Below w12.heap.size w12 w13 := hA.trans (hb.mono hA.size)
  replace A := A.below hb
  replace B := B.below hb
  replace C := C.below hb
  replace S1 := S1.below hb
  replace S2 := S2.below hb
  replace S3 := S3.below hb
  replace S4 := S4.below hb
  replace S5 := S5.below hb
  replace S6 := S6.below hb
  replace S7 := S7.below hb
  replace hB := hB.trans (hbb.mono hB.size)
  clear hb hbb hA  v8 l8
  go_wp2_with (go_at_call 23; refine (ofl_any _ _ _ _).mono ?_; rintro e w' ⟨rfl, rfl⟩)
  have hA := Below.refl w13.heap.size w13
  refine (add_any S1 S8 (by omega) (by omega)).mono ?_
  rintro e w14 ⟨a9, c9, z9, rfl, S9, N9, v9, l9, hb⟩
  have V9 : Hid (val z9 = val xs * val ys + val xs * val zs) := by rw [Hid, v9, V1.out, V8.out]
  have b9 : z9.length ≤ 25 := by omega
  have hbb : Below w13.heap.size w13 w14 := hA.trans (hb.mono hA.size)
  replace A := A.below hb
  replace B := B.below hb
  replace C := C.below hb
  replace S1 := S1.below hb
  replace S2 := S2.below hb
  replace S3 := S3.below hb
  replace S4 := S4.below hb
  replace S5 := S5.below hb
  replace S6 := S6.below hb
  replace S7 := S7.below hb
  replace S8 := S8.below hb
  replace hB := hB.trans (hbb.mono hB.size)
  clear hb hbb hA  v9 l9
  go_wp2_with (go_at_call 23; refine (ofl_any _ _ _ _).mono ?_; rintro e w' ⟨rfl, rfl⟩)
  have hA := Below.refl w14.heap.size w14
  refine (add_any B C (by omega) (by omega)).mono ?_
  rintro e w15 ⟨a10, c10, z10, rfl, S10, N10, v10, l10, hb⟩
  have V10 : Hid (val z10 = val ys + val zs) := v10
  have b10 : z10.length ≤ 13 := by omega
  have hbb : Below w14.heap.size w14 w15 := hA.trans (hb.mono hA.size)
  replace A := A.below hb
  replace B := B.below hb
  replace C := C.below hb
  replace S1 := S1.below hb
  replace S2 := S2.below hb
  replace S3 := S3.below hb
  replace S4 := S4.below hb
  replace S5 := S5.below hb
  replace S6 := S6.below hb
  replace S7 := S7.below hb
  replace S8 := S8.below hb
  replace S9 := S9.below hb
  replace hB := hB.trans (hbb.mono hB.size)
  clear hb hbb hA  v10 l10
  go_wp2_with (go_at_call 23; refine (ofl_any _ _ _ _).mono ?_; rintro e w' ⟨rfl, rfl⟩)
  have hA := Below.refl w15.heap.size w15
  refine (kara_yes A S10 (by omega) (by omega) (2 + (p : Int)) (by omega) (by omega)).mono ?_
  rintro e w16 ⟨a11, c11, z11, rfl, S11, N11, v11, l11, hb⟩
  have V11 : Hid (val z11 = val xs * (val ys + val zs)) := by rw [Hid, v11, V10.out]
  have b11 : z11.length ≤ 25 := by omega
  have hbb : Below w15.heap.size w15 w16 := hA.trans (hb.mono hA.size)
  replace A := A.below hb
  replace B := B.below hb
  replace C := C.below hb
  replace S1 := S1.below hb
  replace S2 := S2.below hb
  replace S3 := S3.below hb
  replace S4 := S4.below hb
  replace S5 := S5.below hb
  replace S6 := S6.below hb
  replace S7 := S7.below hb
  replace S8 := S8.below hb
  replace S9 := S9.below hb
  replace S10 := S10.below hb
  replace hB := hB.trans (hbb.mono hB.size)
  clear hb hbb hA  v11 l11
  go_wp2_with (go_at_call 23; refine (ofl_any _ _ _ _).mono ?_; rintro e w' ⟨rfl, rfl⟩)
  have hA := Below.refl w16.heap.size w16
  refine (same_len S1 S2 (norm_unique S1.words S2.words N1 N2 (by rw [V1.out, V2.out]; exact Int.mul_comm _ _)) (by omega)).mono ?_
  rintro e w17 ⟨rfl, hb⟩
  have hbb : Below w16.heap.size w16 w17 := hA.trans (hb.mono hA.size)
  replace A := A.below hb
  replace B := B.below hb
  replace C := C.below hb
  replace S1 := S1.below hb
  replace S2 := S2.below hb
  replace S3 := S3.below hb
  replace S4 := S4.below hb
  replace S5 := S5.below hb
  replace S6 := S6.below hb
  replace S7 := S7.below hb
  replace S8 := S8.below hb
  replace S9 := S9.below hb
  replace S10 := S10.below hb
  replace S11 := S11.below hb
  replace hB := hB.trans (hbb.mono hB.size)
  clear hb hbb hA  
  go_wp2_with (go_at_call 23; refine (ofl_any _ _ _ _).mono ?_; rintro e w' ⟨rfl, rfl⟩)
  have hA := Below.refl w17.heap.size w17
  refine (same_len S3 S5 (norm_unique S3.words S5.words N3 N5 (by rw [V3.out, V5.out]; exact Int.mul_assoc _ _ _)) (by omega)).mono ?_
  rintro e w18 ⟨rfl, hb⟩
  have hbb : Below w17.heap.size w17 w18 := hA.trans (hb.mono hA.size)
  replace A := A.below hb
  replace B := B.below hb
  replace C := C.below hb
  replace S1 := S1.below hb
  replace S2 := S2.below hb
  replace S3 := S3.below hb
  replace S4 := S4.below hb
  replace S5 := S5.below hb
  replace S6 := S6.below hb
  replace S7 := S7.below hb
  replace S8 := S8.below hb
  replace S9 := S9.below hb
  replace S10 := S10.below hb
  replace S11 := S11.below hb
  replace hB := hB.trans (hbb.mono hB.size)
  clear hb hbb hA  
  go_wp2_with (go_at_call 23; refine (ofl_any _ _ _ _).mono ?_; rintro e w' ⟨rfl, rfl⟩)
  have hA := Below.refl w18.heap.size w18
  refine (same_len S7 S9 (norm_unique S7.words S9.words N7 N9 (by rw [V7.out, V9.out]; exact Int.mul_add _ _ _)) (by omega)).mono ?_
  rintro e w19 ⟨rfl, hb⟩
  have hbb : Below w18.heap.size w18 w19 := hA.trans (hb.mono hA.size)
  replace A := A.below hb
  replace B := B.below hb
  replace C := C.below hb
  replace S1 := S1.below hb
  replace S2 := S2.below hb
  replace S3 := S3.below hb
  replace S4 := S4.below hb
  replace S5 := S5.below hb
  replace S6 := S6.below hb
  replace S7 := S7.below hb
  replace S8 := S8.below hb
  replace S9 := S9.below hb
  replace S10 := S10.below hb
  replace S11 := S11.below hb
  replace hB := hB.trans (hbb.mono hB.size)
  clear hb hbb hA  
  go_wp2_with (go_at_call 23; refine (ofl_any _ _ _ _).mono ?_; rintro e w' ⟨rfl, rfl⟩)
  have hA := Below.refl w19.heap.size w19
  refine (same_len S11 S7 (norm_unique S11.words S7.words N11 N7 (by rw [V11.out, V7.out])) (by omega)).mono ?_
  rintro e w20 ⟨rfl, hb⟩
  have hbb : Below w19.heap.size w19 w20 := hA.trans (hb.mono hA.size)
  replace A := A.below hb
  replace B := B.below hb
  replace C := C.below hb
  replace S1 := S1.below hb
  replace S2 := S2.below hb
  replace S3 := S3.below hb
  replace S4 := S4.below hb
  replace S5 := S5.below hb
  replace S6 := S6.below hb
  replace S7 := S7.below hb
  replace S8 := S8.below hb
  replace S9 := S9.below hb
  replace S10 := S10.below hb
  replace S11 := S11.below hb
  replace hB := hB.trans (hbb.mono hB.size)
  clear hb hbb hA  
  go_wp2_with (go_at_call 23; refine (ofl_any _ _ _ _).mono ?_; rintro e w' ⟨rfl, rfl⟩)
  have s1 : Seg (w20.heap.size) (w20.alloc (.cells #[.int .u64 1] 24)) (.slice (some ⟨w20.heap.size, 0, none⟩) 1 1) [1] := seg_at w20 (N := w20.heap.size) rfl [1] rfl
  have hA := ((Below.refl w20.heap.size w20).alloc (Nat.le_refl _) (.cells #[.int .u64 1] 24))
  replace A := A.below hA
  replace B := B.below hA
  replace C := C.below hA
  replace S1 := S1.below hA
  replace S2 := S2.below hA
  replace S3 := S3.below hA
  replace S4 := S4.below hA
  replace S5 := S5.below hA
  replace S6 := S6.below hA
  replace S7 := S7.below hA
  replace S8 := S8.below hA
  replace S9 := S9.below hA
  replace S10 := S10.below hA
  replace S11 := S11.below hA
  refine (mul_any A s1 (by omega) (by decide)).mono ?_
  rintro e w21 ⟨a12, c12, z12, rfl, S12, N12, v12, l12, hb⟩
  have V12 : Hid (val z12 = val xs) := by rw [Hid, v12, show val [1] = 1 from rfl, Int.mul_one]
  have b12 : z12.length ≤ 13 := by simp only [List.length_cons, List.length_nil] at l12; omega
  have hbb : Below w20.heap.size w20 w21 := hA.trans (hb.mono hA.size)
  replace A := A.below hb
  replace B := B.below hb
  replace C := C.below hb
  replace S1 := S1.below hb
  replace S2 := S2.below hb
  replace S3 := S3.below hb
  replace S4 := S4.below hb
  replace S5 := S5.below hb
  replace S6 := S6.below hb
  replace S7 := S7.below hb
  replace S8 := S8.below hb
  replace S9 := S9.below hb
  replace S10 := S10.below hb
  replace S11 := S11.below hb
  replace hB := hB.trans (hbb.mono hB.size)
  clear hb hbb hA s1 v12 l12
  go_wp2_with (go_at_call 23; refine (ofl_any _ _ _ _).mono ?_; rintro e w' ⟨rfl, rfl⟩)
  have hA := Below.refl w21.heap.size w21
  refine (trim_any A (by omega)).mono ?_
  rintro e w22 ⟨a13, c13, z13, rfl, S13, N13, v13, l13, hb⟩
  have V13 : Hid (val z13 = val xs) := v13
  have b13 : z13.length ≤ 12 := by omega
  have hbb : Below w21.heap.size w21 w22 := hA.trans (hb.mono hA.size)
  replace A := A.below hb
  replace B := B.below hb
  replace C := C.below hb
  replace S1 := S1.below hb
  replace S2 := S2.below hb
  replace S3 := S3.below hb
  replace S4 := S4.below hb
  replace S5 := S5.below hb
  replace S6 := S6.below hb
  replace S7 := S7.below hb
  replace S8 := S8.below hb
  replace S9 := S9.below hb
  replace S10 := S10.below hb
  replace S11 := S11.below hb
  replace S12 := S12.below hb
  replace hB := hB.trans (hbb.mono hB.size)
  clear hb hbb hA  v13 l13
  go_wp2_with (go_at_call 23; refine (ofl_any _ _ _ _).mono ?_; rintro e w' ⟨rfl, rfl⟩)
  have hA := Below.refl w22.heap.size w22
  refine (same_len S12 S13 (norm_unique S12.words S13.words N12 N13 (by rw [V12.out, V13.out])) (by omega)).mono ?_
  rintro e w23 ⟨rfl, hb⟩
  have hbb : Below w22.heap.size w22 w23 := hA.trans (hb.mono hA.size)
  replace A := A.below hb
  replace B := B.below hb
  replace C := C.below hb
  replace S1 := S1.below hb
  replace S2 := S2.below hb
  replace S3 := S3.below hb
  replace S4 := S4.below hb
  replace S5 := S5.below hb
  replace S6 := S6.below hb
  replace S7 := S7.below hb
  replace S8 := S8.below hb
  replace S9 := S9.below hb
  replace S10 := S10.below hb
  replace S11 := S11.below hb
  replace S12 := S12.below hb
  replace S13 := S13.below hb
  replace hB := hB.trans (hbb.mono hB.size)
  clear hb hbb hA  
  go_wp2_with (go_at_call 23; refine (ofl_any _ _ _ _).mono ?_; rintro e w' ⟨rfl, rfl⟩)
  have s1 : Seg (w23.heap.size) (w23.alloc (.cells #[.int .u64 1] 24)) (.slice (some ⟨w23.heap.size, 0, none⟩) 1 1) [1] := seg_at w23 (N := w23.heap.size) rfl [1] rfl
  have hA := ((Below.refl w23.heap.size w23).alloc (Nat.le_refl _) (.cells #[.int .u64 1] 24))
  replace A := A.below hA
  replace B := B.below hA
  replace C := C.below hA
  replace S1 := S1.below hA
  replace S2 := S2.below hA
  replace S3 := S3.below hA
  replace S4 := S4.below hA
  replace S5 := S5.below hA
  replace S6 := S6.below hA
  replace S7 := S7.below hA
  replace S8 := S8.below hA
  replace S9 := S9.below hA
  replace S10 := S10.below hA
  replace S11 := S11.below hA
  replace S12 := S12.below hA
  replace S13 := S13.below hA
  refine (school_any s1 A (by decide) (by omega)).mono ?_
  rintro e w24 ⟨a14, c14, z14, rfl, S14, N14, v14, l14, hb⟩
  have V14 : Hid (val z14 = val xs) := by rw [Hid, v14, show val [1] = 1 from rfl, Int.one_mul]
  have b14 : z14.length ≤ 13 := by simp only [List.length_cons, List.length_nil] at l14; omega
  have hbb : Below w23.heap.size w23 w24 := hA.trans (hb.mono hA.size)
  replace A := A.below hb
  replace B := B.below hb
  replace C := C.below hb
  replace S1 := S1.below hb
  replace S2 := S2.below hb
  replace S3 := S3.below hb
  replace S4 := S4.below hb
  replace S5 := S5.below hb
  replace S6 := S6.below hb
  replace S7 := S7.below hb
  replace S8 := S8.below hb
  replace S9 := S9.below hb
  replace S10 := S10.below hb
  replace S11 := S11.below hb
  replace S12 := S12.below hb
  replace S13 := S13.below hb
  replace hB := hB.trans (hbb.mono hB.size)
  clear hb hbb hA s1 v14 l14
  go_wp2_with (go_at_call 23; refine (ofl_any _ _ _ _).mono ?_; rintro e w' ⟨rfl, rfl⟩)
  have hA := Below.refl w24.heap.size w24
  refine (trim_any A (by omega)).mono ?_
  rintro e w25 ⟨a15, c15, z15, rfl, S15, N15, v15, l15, hb⟩
  have V15 : Hid (val z15 = val xs) := v15
  have b15 : z15.length ≤ 12 := by omega
  have hbb : Below w24.heap.size w24 w25 := hA.trans (hb.mono hA.size)
  replace A := A.below hb
  replace B := B.below hb
  replace C := C.below hb
  replace S1 := S1.below hb
  replace S2 := S2.below hb
  replace S3 := S3.below hb
  replace S4 := S4.below hb
  replace S5 := S5.below hb
  replace S6 := S6.below hb
  replace S7 := S7.below hb
  replace S8 := S8.below hb
  replace S9 := S9.below hb
  replace S10 := S10.below hb
  replace S11 := S11.below hb
  replace S12 := S12.below hb
  replace S13 := S13.below hb
  replace S14 := S14.below hb
  replace hB := hB.trans (hbb.mono hB.size)
  clear hb hbb hA  v15 l15
  go_wp2_with (go_at_call 23; refine (ofl_any _ _ _ _).mono ?_; rintro e w' ⟨rfl, rfl⟩)
  have hA := Below.refl w25.heap.size w25
  refine (same_len S14 S15 (norm_unique S14.words S15.words N14 N15 (by rw [V14.out, V15.out])) (by omega)).mono ?_
  rintro e w26 ⟨rfl, hb⟩
  have hbb : Below w25.heap.size w25 w26 := hA.trans (hb.mono hA.size)
  replace A := A.below hb
  replace B := B.below hb
  replace C := C.below hb
  replace S1 := S1.below hb
  replace S2 := S2.below hb
  replace S3 := S3.below hb
  replace S4 := S4.below hb
  replace S5 := S5.below hb
  replace S6 := S6.below hb
  replace S7 := S7.below hb
  replace S8 := S8.below hb
  replace S9 := S9.below hb
  replace S10 := S10.below hb
  replace S11 := S11.below hb
  replace S12 := S12.below hb
  replace S13 := S13.below hb
  replace S14 := S14.below hb
  replace S15 := S15.below hb
  replace hB := hB.trans (hbb.mono hB.size)
  clear hb hbb hA  
  go_wp2_with (go_at_call 23; refine (ofl_any _ _ _ _).mono ?_; rintro e w' ⟨rfl, rfl⟩)
  have hA := Below.refl w26.heap.size w26
  refine (tgrow_any A (by omega) 2 (by decide)).mono ?_
  rintro e w27 ⟨a16, c16, z16, rfl, S16, N16, v16, l16, hb⟩
  have V16 : Hid (val z16 = val xs * 2) := v16
  have b16 : z16.length ≤ 13 := by omega
  have hbb : Below w26.heap.size w26 w27 := hA.trans (hb.mono hA.size)
  replace A := A.below hb
  replace B := B.below hb
  replace C := C.below hb
  replace S1 := S1.below hb
  replace S2 := S2.below hb
  replace S3 := S3.below hb
  replace S4 := S4.below hb
  replace S5 := S5.below hb
  replace S6 := S6.below hb
  replace S7 := S7.below hb
  replace S8 := S8.below hb
  replace S9 := S9.below hb
  replace S10 := S10.below hb
  replace S11 := S11.below hb
  replace S12 := S12.below hb
  replace S13 := S13.below hb
  replace S14 := S14.below hb
  replace S15 := S15.below hb
  replace hB := hB.trans (hbb.mono hB.size)
  clear hb hbb hA  v16 l16
  go_wp2_with (go_at_call 23; refine (ofl_any _ _ _ _).mono ?_; rintro e w' ⟨rfl, rfl⟩)
  have hA := Below.refl w27.heap.size w27
  refine (add_any A A (by omega) (by omega)).mono ?_
  rintro e w28 ⟨a17, c17, z17, rfl, S17, N17, v17, l17, hb⟩
  have V17 : Hid (val z17 = val xs + val xs) := v17
  have b17 : z17.length ≤ 13 := by omega
  have hbb : Below w27.heap.size w27 w28 := hA.trans (hb.mono hA.size)
  replace A := A.below hb
  replace B := B.below hb
  replace C := C.below hb
  replace S1 := S1.below hb
  replace S2 := S2.below hb
  replace S3 := S3.below hb
  replace S4 := S4.below hb
  replace S5 := S5.below hb
  replace S6 := S6.below hb
  replace S7 := S7.below hb
  replace S8 := S8.below hb
  replace S9 := S9.below hb
  replace S10 := S10.below hb
  replace S11 := S11.below hb
  replace S12 := S12.below hb
  replace S13 := S13.below hb
  replace S14 := S14.below hb
  replace S15 := S15.below hb
  replace S16 := S16.below hb
  replace hB := hB.trans (hbb.mono hB.size)
  clear hb hbb hA  v17 l17
  go_wp2_with (go_at_call 23; refine (ofl_any _ _ _ _).mono ?_; rintro e w' ⟨rfl, rfl⟩)
  have hA := Below.refl w28.heap.size w28
  refine (same_len S16 S17 (norm_unique S16.words S17.words N16 N17 (by rw [V16.out, V17.out]; omega)) (by omega)).mono ?_
  rintro e w29 ⟨rfl, hb⟩
  have hbb : Below w28.heap.size w28 w29 := hA.trans (hb.mono hA.size)
  replace A := A.below hb
  replace B := B.below hb
  replace C := C.below hb
  replace S1 := S1.below hb
  replace S2 := S2.below hb
  replace S3 := S3.below hb
  replace S4 := S4.below hb
  replace S5 := S5.below hb
  replace S6 := S6.below hb
  replace S7 := S7.below hb
  replace S8 := S8.below hb
  replace S9 := S9.below hb
  replace S10 := S10.below hb
  replace S11 := S11.below hb
  replace S12 := S12.below hb
  replace S13 := S13.below hb
  replace S14 := S14.below hb
  replace S15 := S15.below hb
  replace S16 := S16.below hb
  replace S17 := S17.below hb
  replace hB := hB.trans (hbb.mono hB.size)
  clear hb hbb hA  
  go_wp2
  go_ret
  exact ⟨rfl, hB⟩

theorem ring_any {a b c : Option Addr} {la ca lb cb lc cc : Nat} {xs ys zs : List Int} {w : World} (A : Seg 0 w (.slice a la ca) xs) (B : Seg 0 w (.slice b lb cb) ys) (C : Seg 0 w (.slice c lc cc) zs) (k : Int) (hk : -9223372036854775808 ≤ k ∧ k ≤ 9223372036854775807) :
    Calls Try.prog 6 #[.slice a la ca, .slice b lb cb, .slice c lc cc, .int .i64 k] w fun e w' => e = .returned (.bool true) ∧ Below w.heap.size w w' := by
  by_cases h : 12 < la ∨ 12 < lb ∨ 12 < lc
  · exact ring_long a la ca b lb cb c lc cc k w h
  · obtain ⟨rfl, _⟩ := A.len
    obtain ⟨rfl, _⟩ := B.len
    obtain ⟨rfl, _⟩ := C.len
    exact ring_short A B C (by omega) (by omega) (by omega) k hk
#print axioms ring_any
end Go.Proofs.Ytmgngkmdfccjaaa
