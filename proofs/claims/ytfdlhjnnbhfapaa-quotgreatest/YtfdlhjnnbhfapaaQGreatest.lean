/-
  The walk of QuotGreatest.
-/
import Derived.Test.YtfdlhjnnbhfapaaQKnown
namespace Go.Proofs.Ytfdlhjnnbhfapaa
open Go.RowKit

theorem dvdB_gcd_left {x y : Int} (hx : 0 ≤ x) : dvdB (gcdI x y) x = true := by
  obtain ⟨x, rfl⟩ := Int.eq_ofNat_of_zero_le hx
  unfold dvdB gcdI
  rw [Int.toNat_natCast]
  have hd := Nat.gcd_dvd_left x y.toNat
  split
  · rename_i h
    have h' : Nat.gcd x y.toNat = 0 := by omega
    rw [h'] at hd
    have := Nat.eq_zero_of_zero_dvd hd
    rw [this]; rfl
  · rw [← Int.natCast_emod, Nat.mod_eq_zero_of_dvd hd]; rfl
theorem gcdI_rest {x y : Int} (hx : 0 ≤ x) : x % gcdI x y = 0 := by
  obtain ⟨x, rfl⟩ := Int.eq_ofNat_of_zero_le hx
  unfold gcdI
  rw [Int.toNat_natCast, ← Int.natCast_emod, Nat.mod_eq_zero_of_dvd (Nat.gcd_dvd_left x y.toNat)]; rfl
theorem gcdI_mul {x y z : Int} (hx : 0 ≤ x) (hy : 0 ≤ y) (hz : 0 ≤ z) : gcdI (x * z) (y * z) = gcdI x y * z := by
  obtain ⟨x, rfl⟩ := Int.eq_ofNat_of_zero_le hx
  obtain ⟨y, rfl⟩ := Int.eq_ofNat_of_zero_le hy
  obtain ⟨z, rfl⟩ := Int.eq_ofNat_of_zero_le hz
  unfold gcdI
  rw [← Int.natCast_mul, ← Int.natCast_mul, Int.toNat_natCast, Int.toNat_natCast, Int.toNat_natCast, Int.toNat_natCast, Nat.gcd_mul_right, Int.natCast_mul]
theorem gcdI_null {x y : Int} (hx : 0 ≤ x) (hy : 0 ≤ y) (h : gcdI x y = 0) : x = 0 ∧ y = 0 := by
  obtain ⟨x, rfl⟩ := Int.eq_ofNat_of_zero_le hx
  obtain ⟨y, rfl⟩ := Int.eq_ofNat_of_zero_le hy
  unfold gcdI at h
  rw [Int.toNat_natCast, Int.toNat_natCast] at h
  have h' : Nat.gcd x y = 0 := by omega
  have := Nat.gcd_eq_zero_iff.1 h'
  omega
theorem gcdI_coprime {x y : Int} (hx : 0 ≤ x) (hy : 0 ≤ y) (h : 0 < gcdI x y) : gcdI (x / gcdI x y) (y / gcdI x y) = 1 := by
  obtain ⟨x, rfl⟩ := Int.eq_ofNat_of_zero_le hx
  obtain ⟨y, rfl⟩ := Int.eq_ofNat_of_zero_le hy
  unfold gcdI at *
  rw [Int.toNat_natCast, Int.toNat_natCast] at *
  rw [← Int.natCast_ediv, ← Int.natCast_ediv, Int.toNat_natCast, Int.toNat_natCast, Nat.gcd_div (Nat.gcd_dvd_left x y) (Nat.gcd_dvd_right x y), Nat.div_self (by omega)]
  rfl

set_option maxRecDepth 100000 in
set_option maxHeartbeats 1000000 in
/-- Where a list is long. -/
theorem greatest_long (a : Option Addr) (la ca : Nat) (b : Option Addr) (lb cb : Nat) (c : Option Addr) (lc cc : Nat) (w : World) (h : 5 < la ∨ 5 < lb ∨ 5 < lc) :
    Calls Try.prog 8 #[.slice a la ca, .slice b lb cb, .slice c lc cc] w fun e w' => e = .returned (.bool true) ∧ Below w.heap.size w w' := by
  have q0 := fun w => longNat_any a la ca 5 w
  have q1 := fun w => longNat_any b lb cb 5 w
  have q2 := fun w => longNat_any c lc cc 5 w
  by_cases g0 : 5 < la
  · rw [decide_eq_true (show (5 : Int) < (la : Int) by omega)] at q0
    have Q0 := hide q0
    clear h g0 q0 q1 q2
    go_enter Try.func8, Try.ntmps8
    go_wp2_with fail
    refine (awake_any w).mono ?_
    rintro e w1 ⟨rfl, hb1⟩
    go_wp2_with fail
    refine (Q0.out _).mono ?_
    rintro e w2 ⟨rfl, rfl⟩
    go_wp2
    go_ret
    exact ⟨rfl, hb1⟩
  · rw [decide_eq_false (show ¬ (5 : Int) < (la : Int) by omega)] at q0
    have Q0 := hide q0
    clear q0
    by_cases g1 : 5 < lb
    · rw [decide_eq_true (show (5 : Int) < (lb : Int) by omega)] at q1
      have Q1 := hide q1
      clear h g1 q1 q2
      go_enter Try.func8, Try.ntmps8
      go_wp2_with fail
      refine (awake_any w).mono ?_
      rintro e w1 ⟨rfl, hb1⟩
      go_wp2_with fail
      refine (Q0.out _).mono ?_
      rintro e w2 ⟨rfl, rfl⟩
      go_wp2_with fail
      refine (Q1.out _).mono ?_
      rintro e w2 ⟨rfl, rfl⟩
      go_wp2
      go_ret
      exact ⟨rfl, hb1⟩
    · rw [decide_eq_false (show ¬ (5 : Int) < (lb : Int) by omega)] at q1
      have Q1 := hide q1
      clear q1
      rw [decide_eq_true (show (5 : Int) < (lc : Int) by omega)] at q2
      have Q2 := hide q2
      clear h q2
      go_enter Try.func8, Try.ntmps8
      go_wp2_with fail
      refine (awake_any w).mono ?_
      rintro e w1 ⟨rfl, hb1⟩
      go_wp2_with fail
      refine (Q0.out _).mono ?_
      rintro e w2 ⟨rfl, rfl⟩
      go_wp2_with fail
      refine (Q1.out _).mono ?_
      rintro e w2 ⟨rfl, rfl⟩
      go_wp2_with fail
      refine (Q2.out _).mono ?_
      rintro e w2 ⟨rfl, rfl⟩
      go_wp2
      go_ret
      exact ⟨rfl, hb1⟩

set_option maxRecDepth 100000 in
set_option maxHeartbeats 4000000 in
theorem greatest_zero {a : Option Addr} {ca : Nat} {xs : List Int} {b : Option Addr} {cb : Nat} {ys : List Int} {c : Option Addr} {cc : Nat} {zs : List Int} {w : World} (A : Seg 0 w (.slice a xs.length ca) xs) (B : Seg 0 w (.slice b ys.length cb) ys) (C : Seg 0 w (.slice c zs.length cc) zs) (hx : xs.length ≤ 5) (hy : ys.length ≤ 5) (hz : zs.length ≤ 5) (hg0 : Hid (gcdI (val xs) (val ys) = 0)) :
    Calls Try.prog 8 #[.slice a xs.length ca, .slice b ys.length cb, .slice c zs.length cc] w fun e w' => e = .returned (.bool true) ∧ Below w.heap.size w w' := by
  have q0 := fun w => longNat_any a xs.length ca 5 w
  rw [decide_eq_false (show ¬ (5 : Int) < (xs.length : Int) by omega)] at q0
  have Q0 := hide q0
  have px := val_nonneg A.words
  have q1 := fun w => longNat_any b ys.length cb 5 w
  rw [decide_eq_false (show ¬ (5 : Int) < (ys.length : Int) by omega)] at q1
  have Q1 := hide q1
  have py := val_nonneg B.words
  have q2 := fun w => longNat_any c zs.length cc 5 w
  rw [decide_eq_false (show ¬ (5 : Int) < (zs.length : Int) by omega)] at q2
  have Q2 := hide q2
  have pz := val_nonneg C.words
  clear q0 q1 q2
  have hB := Below.refl w.heap.size w
  go_enter Try.func8, Try.ntmps8
  go_wp2_with fail
  have hA := Below.refl w.heap.size w
  refine (awake_any _).mono ?_
  rintro e w1 ⟨rfl, hb⟩
  have hbb : Below w.heap.size w w1 := hA.trans (hb.mono hA.size)
  replace A := A.below hb
  replace B := B.below hb
  replace C := C.below hb
  replace hB := hB.trans (hbb.mono hB.size)
  clear hb hbb hA  
  go_wp2_with fail
  have hA := Below.refl w1.heap.size w1
  refine (Q0.out _).mono ?_
  rintro e w2 ⟨rfl, hw⟩
  have hb := hw_below hw
  clear hw
  have hbb : Below w1.heap.size w1 w2 := hA.trans (hb.mono hA.size)
  replace A := A.below hb
  replace B := B.below hb
  replace C := C.below hb
  replace hB := hB.trans (hbb.mono hB.size)
  clear hb hbb hA  
  go_wp2_with fail
  have hA := Below.refl w2.heap.size w2
  refine (Q1.out _).mono ?_
  rintro e w3 ⟨rfl, hw⟩
  have hb := hw_below hw
  clear hw
  have hbb : Below w2.heap.size w2 w3 := hA.trans (hb.mono hA.size)
  replace A := A.below hb
  replace B := B.below hb
  replace C := C.below hb
  replace hB := hB.trans (hbb.mono hB.size)
  clear hb hbb hA  
  go_wp2_with fail
  have hA := Below.refl w3.heap.size w3
  refine (Q2.out _).mono ?_
  rintro e w4 ⟨rfl, hw⟩
  have hb := hw_below hw
  clear hw
  have hbb : Below w3.heap.size w3 w4 := hA.trans (hb.mono hA.size)
  replace A := A.below hb
  replace B := B.below hb
  replace C := C.below hb
  replace hB := hB.trans (hbb.mono hB.size)
  clear hb hbb hA  
  go_wp2_with fail
  have hA := Below.refl w4.heap.size w4
  refine (qgcd_len A B (by omega) (by omega)).mono ?_
  rintro e w5 ⟨a1, c1, z1, rfl, S1, N1, v1, l1, hb⟩
  have V1 : Hid (val z1 = gcdI (val xs) (val ys)) := v1
  have b1 : z1.length ≤ 5 := by omega
  have hbb : Below w4.heap.size w4 w5 := hA.trans (hb.mono hA.size)
  replace A := A.below hb
  replace B := B.below hb
  replace C := C.below hb
  replace hB := hB.trans (hbb.mono hB.size)
  clear hb hbb hA  v1 l1
  go_wp2_with fail
  have hA := Below.refl w5.heap.size w5
  refine (qgcd_len B A (by omega) (by omega)).mono ?_
  rintro e w6 ⟨a2, c2, z2, rfl, S2, N2, v2, l2, hb⟩
  have V2 : Hid (val z2 = gcdI (val xs) (val ys)) := by rw [Hid, v2]; exact gcdI_comm _ _
  have b2 : z2.length ≤ 5 := by omega
  have hbb : Below w5.heap.size w5 w6 := hA.trans (hb.mono hA.size)
  replace A := A.below hb
  replace B := B.below hb
  replace C := C.below hb
  replace S1 := S1.below hb
  replace hB := hB.trans (hbb.mono hB.size)
  clear hb hbb hA  v2 l2
  go_wp2_with fail
  have hA := Below.refl w6.heap.size w6
  refine (same_len S1 S2 (norm_unique S1.words S2.words N1 N2 (by rw [V1.out, V2.out])) (by omega)).mono ?_
  rintro e w7 ⟨rfl, hb⟩
  have hbb : Below w6.heap.size w6 w7 := hA.trans (hb.mono hA.size)
  replace A := A.below hb
  replace B := B.below hb
  replace C := C.below hb
  replace S1 := S1.below hb
  replace S2 := S2.below hb
  replace hB := hB.trans (hbb.mono hB.size)
  clear hb hbb hA  
  go_wp2_with fail
  have hA := Below.refl w7.heap.size w7
  have hv := qdivides_any S1 A (by omega) (by omega)
  rw [V1.out, dvdB_gcd_left px] at hv
  refine (hv).mono ?_
  rintro e w8 ⟨rfl, hb⟩
  have hbb : Below w7.heap.size w7 w8 := hA.trans (hb.mono hA.size)
  replace A := A.below hb
  replace B := B.below hb
  replace C := C.below hb
  replace S1 := S1.below hb
  replace S2 := S2.below hb
  replace hB := hB.trans (hbb.mono hB.size)
  clear hb hbb hA  hv
  go_wp2_with fail
  have hA := Below.refl w8.heap.size w8
  have hv := qdivides_any S1 B (by omega) (by omega)
  rw [V1.out, gcdI_comm, dvdB_gcd_left py] at hv
  refine (hv).mono ?_
  rintro e w9 ⟨rfl, hb⟩
  have hbb : Below w8.heap.size w8 w9 := hA.trans (hb.mono hA.size)
  replace A := A.below hb
  replace B := B.below hb
  replace C := C.below hb
  replace S1 := S1.below hb
  replace S2 := S2.below hb
  replace hB := hB.trans (hbb.mono hB.size)
  clear hb hbb hA  hv
  go_wp2_with fail
  have hA := Below.refl w9.heap.size w9
  refine (school_any A C (by omega) (by omega)).mono ?_
  rintro e w10 ⟨a3, c3, z3, rfl, S3, N3, v3, l3, hb⟩
  have V3 : Hid (val z3 = val xs * val zs) := v3
  have b3 : z3.length ≤ 10 := by omega
  have hbb : Below w9.heap.size w9 w10 := hA.trans (hb.mono hA.size)
  replace A := A.below hb
  replace B := B.below hb
  replace C := C.below hb
  replace S1 := S1.below hb
  replace S2 := S2.below hb
  replace hB := hB.trans (hbb.mono hB.size)
  clear hb hbb hA  v3 l3
  go_wp2_with fail
  have hA := Below.refl w10.heap.size w10
  refine (school_any B C (by omega) (by omega)).mono ?_
  rintro e w11 ⟨a4, c4, z4, rfl, S4, N4, v4, l4, hb⟩
  have V4 : Hid (val z4 = val ys * val zs) := v4
  have b4 : z4.length ≤ 10 := by omega
  have hbb : Below w10.heap.size w10 w11 := hA.trans (hb.mono hA.size)
  replace A := A.below hb
  replace B := B.below hb
  replace C := C.below hb
  replace S1 := S1.below hb
  replace S2 := S2.below hb
  replace S3 := S3.below hb
  replace hB := hB.trans (hbb.mono hB.size)
  clear hb hbb hA  v4 l4
  go_wp2_with fail
  have hA := Below.refl w11.heap.size w11
  refine (qgcd_len S3 S4 (by omega) (by omega)).mono ?_
  rintro e w12 ⟨a5, c5, z5, rfl, S5, N5, v5, l5, hb⟩
  have V5 : Hid (val z5 = gcdI (val xs) (val ys) * val zs) := by rw [Hid, v5, V3.out, V4.out]; exact gcdI_mul px py pz
  have b5 : z5.length ≤ 10 := by omega
  have hbb : Below w11.heap.size w11 w12 := hA.trans (hb.mono hA.size)
  replace A := A.below hb
  replace B := B.below hb
  replace C := C.below hb
  replace S1 := S1.below hb
  replace S2 := S2.below hb
  replace S3 := S3.below hb
  replace S4 := S4.below hb
  replace hB := hB.trans (hbb.mono hB.size)
  clear hb hbb hA  v5 l5
  go_wp2_with fail
  have hA := Below.refl w12.heap.size w12
  refine (school_any S1 C (by omega) (by omega)).mono ?_
  rintro e w13 ⟨a6, c6, z6, rfl, S6, N6, v6, l6, hb⟩
  have V6 : Hid (val z6 = gcdI (val xs) (val ys) * val zs) := by rw [Hid, v6, V1.out]
  have b6 : z6.length ≤ 10 := by omega
  have hbb : Below w12.heap.size w12 w13 := hA.trans (hb.mono hA.size)
  replace A := A.below hb
  replace B := B.below hb
  replace C := C.below hb
  replace S1 := S1.below hb
  replace S2 := S2.below hb
  replace S3 := S3.below hb
  replace S4 := S4.below hb
  replace S5 := S5.below hb
  replace hB := hB.trans (hbb.mono hB.size)
  clear hb hbb hA  v6 l6
  go_wp2_with fail
  have hA := Below.refl w13.heap.size w13
  refine (same_len S5 S6 (norm_unique S5.words S6.words N5 N6 (by rw [V5.out, V6.out])) (by omega)).mono ?_
  rintro e w14 ⟨rfl, hb⟩
  have hbb : Below w13.heap.size w13 w14 := hA.trans (hb.mono hA.size)
  replace A := A.below hb
  replace B := B.below hb
  replace C := C.below hb
  replace S1 := S1.below hb
  replace S2 := S2.below hb
  replace S3 := S3.below hb
  replace S4 := S4.below hb
  replace S5 := S5.below hb
  replace S6 := S6.below hb
  replace hB := hB.trans (hbb.mono hB.size)
  clear hb hbb hA  
  obtain rfl : z1 = [] := norm_unique S1.words Words.nil N1 norm_nil (by rw [V1.out, hg0.out]; rfl)
  go_wp2_with fail
  have hA := Below.refl w14.heap.size w14
  refine (trim_any A (by omega)).mono ?_
  rintro e w15 ⟨a7, c7, z7, rfl, S7, N7, v7, l7, hb⟩
  have V7 : Hid (val z7 = 0) := by rw [Hid, v7]; exact (gcdI_null px py hg0.out).1
  have b7 : z7.length ≤ 5 := by omega
  have hbb : Below w14.heap.size w14 w15 := hA.trans (hb.mono hA.size)
  replace A := A.below hb
  replace B := B.below hb
  replace C := C.below hb
  replace S1 := S1.below hb
  replace S2 := S2.below hb
  replace S3 := S3.below hb
  replace S4 := S4.below hb
  replace S5 := S5.below hb
  replace S6 := S6.below hb
  replace hB := hB.trans (hbb.mono hB.size)
  clear hb hbb hA  v7 l7
  obtain rfl : z7 = [] := norm_unique S7.words Words.nil N7 norm_nil (by rw [V7.out]; rfl)
  go_wp2_with fail
  have hA := Below.refl w15.heap.size w15
  refine (trim_any B (by omega)).mono ?_
  rintro e w16 ⟨a8, c8, z8, rfl, S8, N8, v8, l8, hb⟩
  have V8 : Hid (val z8 = 0) := by rw [Hid, v8]; exact (gcdI_null px py hg0.out).2
  have b8 : z8.length ≤ 5 := by omega
  have hbb : Below w15.heap.size w15 w16 := hA.trans (hb.mono hA.size)
  replace A := A.below hb
  replace B := B.below hb
  replace C := C.below hb
  replace S1 := S1.below hb
  replace S2 := S2.below hb
  replace S3 := S3.below hb
  replace S4 := S4.below hb
  replace S5 := S5.below hb
  replace S6 := S6.below hb
  replace S7 := S7.below hb
  replace hB := hB.trans (hbb.mono hB.size)
  clear hb hbb hA  v8 l8
  obtain rfl : z8 = [] := norm_unique S8.words Words.nil N8 norm_nil (by rw [V8.out]; rfl)
  go_wp2
  go_ret
  exact ⟨rfl, hB⟩

set_option maxRecDepth 100000 in
set_option maxHeartbeats 4000000 in
theorem greatest_some {a : Option Addr} {ca : Nat} {xs : List Int} {b : Option Addr} {cb : Nat} {ys : List Int} {c : Option Addr} {cc : Nat} {zs : List Int} {w : World} (A : Seg 0 w (.slice a xs.length ca) xs) (B : Seg 0 w (.slice b ys.length cb) ys) (C : Seg 0 w (.slice c zs.length cc) zs) (hx : xs.length ≤ 5) (hy : ys.length ≤ 5) (hz : zs.length ≤ 5) (hg0 : Hid (0 < gcdI (val xs) (val ys))) :
    Calls Try.prog 8 #[.slice a xs.length ca, .slice b ys.length cb, .slice c zs.length cc] w fun e w' => e = .returned (.bool true) ∧ Below w.heap.size w w' := by
  have q0 := fun w => longNat_any a xs.length ca 5 w
  rw [decide_eq_false (show ¬ (5 : Int) < (xs.length : Int) by omega)] at q0
  have Q0 := hide q0
  have px := val_nonneg A.words
  have q1 := fun w => longNat_any b ys.length cb 5 w
  rw [decide_eq_false (show ¬ (5 : Int) < (ys.length : Int) by omega)] at q1
  have Q1 := hide q1
  have py := val_nonneg B.words
  have q2 := fun w => longNat_any c zs.length cc 5 w
  rw [decide_eq_false (show ¬ (5 : Int) < (zs.length : Int) by omega)] at q2
  have Q2 := hide q2
  have pz := val_nonneg C.words
  clear q0 q1 q2
  have hB := Below.refl w.heap.size w
  go_enter Try.func8, Try.ntmps8
  go_wp2_with fail
  have hA := Below.refl w.heap.size w
  refine (awake_any _).mono ?_
  rintro e w1 ⟨rfl, hb⟩
  have hbb : Below w.heap.size w w1 := hA.trans (hb.mono hA.size)
  replace A := A.below hb
  replace B := B.below hb
  replace C := C.below hb
  replace hB := hB.trans (hbb.mono hB.size)
  clear hb hbb hA  
  go_wp2_with fail
  have hA := Below.refl w1.heap.size w1
  refine (Q0.out _).mono ?_
  rintro e w2 ⟨rfl, hw⟩
  have hb := hw_below hw
  clear hw
  have hbb : Below w1.heap.size w1 w2 := hA.trans (hb.mono hA.size)
  replace A := A.below hb
  replace B := B.below hb
  replace C := C.below hb
  replace hB := hB.trans (hbb.mono hB.size)
  clear hb hbb hA  
  go_wp2_with fail
  have hA := Below.refl w2.heap.size w2
  refine (Q1.out _).mono ?_
  rintro e w3 ⟨rfl, hw⟩
  have hb := hw_below hw
  clear hw
  have hbb : Below w2.heap.size w2 w3 := hA.trans (hb.mono hA.size)
  replace A := A.below hb
  replace B := B.below hb
  replace C := C.below hb
  replace hB := hB.trans (hbb.mono hB.size)
  clear hb hbb hA  
  go_wp2_with fail
  have hA := Below.refl w3.heap.size w3
  refine (Q2.out _).mono ?_
  rintro e w4 ⟨rfl, hw⟩
  have hb := hw_below hw
  clear hw
  have hbb : Below w3.heap.size w3 w4 := hA.trans (hb.mono hA.size)
  replace A := A.below hb
  replace B := B.below hb
  replace C := C.below hb
  replace hB := hB.trans (hbb.mono hB.size)
  clear hb hbb hA  
  go_wp2_with fail
  have hA := Below.refl w4.heap.size w4
  refine (qgcd_len A B (by omega) (by omega)).mono ?_
  rintro e w5 ⟨a1, c1, z1, rfl, S1, N1, v1, l1, hb⟩
  have V1 : Hid (val z1 = gcdI (val xs) (val ys)) := v1
  have b1 : z1.length ≤ 5 := by omega
  have hbb : Below w4.heap.size w4 w5 := hA.trans (hb.mono hA.size)
  replace A := A.below hb
  replace B := B.below hb
  replace C := C.below hb
  replace hB := hB.trans (hbb.mono hB.size)
  clear hb hbb hA  v1 l1
  go_wp2_with fail
  have hA := Below.refl w5.heap.size w5
  refine (qgcd_len B A (by omega) (by omega)).mono ?_
  rintro e w6 ⟨a2, c2, z2, rfl, S2, N2, v2, l2, hb⟩
  have V2 : Hid (val z2 = gcdI (val xs) (val ys)) := by rw [Hid, v2]; exact gcdI_comm _ _
  have b2 : z2.length ≤ 5 := by omega
  have hbb : Below w5.heap.size w5 w6 := hA.trans (hb.mono hA.size)
  replace A := A.below hb
  replace B := B.below hb
  replace C := C.below hb
  replace S1 := S1.below hb
  replace hB := hB.trans (hbb.mono hB.size)
  clear hb hbb hA  v2 l2
  go_wp2_with fail
  have hA := Below.refl w6.heap.size w6
  refine (same_len S1 S2 (norm_unique S1.words S2.words N1 N2 (by rw [V1.out, V2.out])) (by omega)).mono ?_
  rintro e w7 ⟨rfl, hb⟩
  have hbb : Below w6.heap.size w6 w7 := hA.trans (hb.mono hA.size)
  replace A := A.below hb
  replace B := B.below hb
  replace C := C.below hb
  replace S1 := S1.below hb
  replace S2 := S2.below hb
  replace hB := hB.trans (hbb.mono hB.size)
  clear hb hbb hA  
  go_wp2_with fail
  have hA := Below.refl w7.heap.size w7
  have hv := qdivides_any S1 A (by omega) (by omega)
  rw [V1.out, dvdB_gcd_left px] at hv
  refine (hv).mono ?_
  rintro e w8 ⟨rfl, hb⟩
  have hbb : Below w7.heap.size w7 w8 := hA.trans (hb.mono hA.size)
  replace A := A.below hb
  replace B := B.below hb
  replace C := C.below hb
  replace S1 := S1.below hb
  replace S2 := S2.below hb
  replace hB := hB.trans (hbb.mono hB.size)
  clear hb hbb hA  hv
  go_wp2_with fail
  have hA := Below.refl w8.heap.size w8
  have hv := qdivides_any S1 B (by omega) (by omega)
  rw [V1.out, gcdI_comm, dvdB_gcd_left py] at hv
  refine (hv).mono ?_
  rintro e w9 ⟨rfl, hb⟩
  have hbb : Below w8.heap.size w8 w9 := hA.trans (hb.mono hA.size)
  replace A := A.below hb
  replace B := B.below hb
  replace C := C.below hb
  replace S1 := S1.below hb
  replace S2 := S2.below hb
  replace hB := hB.trans (hbb.mono hB.size)
  clear hb hbb hA  hv
  go_wp2_with fail
  have hA := Below.refl w9.heap.size w9
  refine (school_any A C (by omega) (by omega)).mono ?_
  rintro e w10 ⟨a3, c3, z3, rfl, S3, N3, v3, l3, hb⟩
  have V3 : Hid (val z3 = val xs * val zs) := v3
  have b3 : z3.length ≤ 10 := by omega
  have hbb : Below w9.heap.size w9 w10 := hA.trans (hb.mono hA.size)
  replace A := A.below hb
  replace B := B.below hb
  replace C := C.below hb
  replace S1 := S1.below hb
  replace S2 := S2.below hb
  replace hB := hB.trans (hbb.mono hB.size)
  clear hb hbb hA  v3 l3
  go_wp2_with fail
  have hA := Below.refl w10.heap.size w10
  refine (school_any B C (by omega) (by omega)).mono ?_
  rintro e w11 ⟨a4, c4, z4, rfl, S4, N4, v4, l4, hb⟩
  have V4 : Hid (val z4 = val ys * val zs) := v4
  have b4 : z4.length ≤ 10 := by omega
  have hbb : Below w10.heap.size w10 w11 := hA.trans (hb.mono hA.size)
  replace A := A.below hb
  replace B := B.below hb
  replace C := C.below hb
  replace S1 := S1.below hb
  replace S2 := S2.below hb
  replace S3 := S3.below hb
  replace hB := hB.trans (hbb.mono hB.size)
  clear hb hbb hA  v4 l4
  go_wp2_with fail
  have hA := Below.refl w11.heap.size w11
  refine (qgcd_len S3 S4 (by omega) (by omega)).mono ?_
  rintro e w12 ⟨a5, c5, z5, rfl, S5, N5, v5, l5, hb⟩
  have V5 : Hid (val z5 = gcdI (val xs) (val ys) * val zs) := by rw [Hid, v5, V3.out, V4.out]; exact gcdI_mul px py pz
  have b5 : z5.length ≤ 10 := by omega
  have hbb : Below w11.heap.size w11 w12 := hA.trans (hb.mono hA.size)
  replace A := A.below hb
  replace B := B.below hb
  replace C := C.below hb
  replace S1 := S1.below hb
  replace S2 := S2.below hb
  replace S3 := S3.below hb
  replace S4 := S4.below hb
  replace hB := hB.trans (hbb.mono hB.size)
  clear hb hbb hA  v5 l5
  go_wp2_with fail
  have hA := Below.refl w12.heap.size w12
  refine (school_any S1 C (by omega) (by omega)).mono ?_
  rintro e w13 ⟨a6, c6, z6, rfl, S6, N6, v6, l6, hb⟩
  have V6 : Hid (val z6 = gcdI (val xs) (val ys) * val zs) := by rw [Hid, v6, V1.out]
  have b6 : z6.length ≤ 10 := by omega
  have hbb : Below w12.heap.size w12 w13 := hA.trans (hb.mono hA.size)
  replace A := A.below hb
  replace B := B.below hb
  replace C := C.below hb
  replace S1 := S1.below hb
  replace S2 := S2.below hb
  replace S3 := S3.below hb
  replace S4 := S4.below hb
  replace S5 := S5.below hb
  replace hB := hB.trans (hbb.mono hB.size)
  clear hb hbb hA  v6 l6
  go_wp2_with fail
  have hA := Below.refl w13.heap.size w13
  refine (same_len S5 S6 (norm_unique S5.words S6.words N5 N6 (by rw [V5.out, V6.out])) (by omega)).mono ?_
  rintro e w14 ⟨rfl, hb⟩
  have hbb : Below w13.heap.size w13 w14 := hA.trans (hb.mono hA.size)
  replace A := A.below hb
  replace B := B.below hb
  replace C := C.below hb
  replace S1 := S1.below hb
  replace S2 := S2.below hb
  replace S3 := S3.below hb
  replace S4 := S4.below hb
  replace S5 := S5.below hb
  replace S6 := S6.below hb
  replace hB := hB.trans (hbb.mono hB.size)
  clear hb hbb hA  
  have hz1 : ((z1.length : Int) == 0) = false := by rw [len_zero S1.words N1, V1.out]; exact decide_eq_false (by have := hg0.out; omega)
  have HG : Hid (0 < val z1) := by rw [Hid, V1.out]; exact hg0.out
  go_wp2_with fail
  have hA := Below.refl w14.heap.size w14
  refine (qdiv_yes A S1 (by omega) (by omega) HG.out).mono ?_
  rintro e w15 ⟨a7, a8, c7, c8, z7, z8, rfl, S7, S8, N7, N8, v7, v8, l7, l8, hb⟩
  have V7 : Hid (val z7 = val xs / gcdI (val xs) (val ys)) := by rw [Hid, v7, V1.out]
  have V8 : Hid (val z8 = 0) := by rw [Hid, v8, V1.out]; exact gcdI_rest px
  have b7 : z7.length ≤ 5 := by omega
  have hbb : Below w14.heap.size w14 w15 := hA.trans (hb.mono hA.size)
  replace A := A.below hb
  replace B := B.below hb
  replace C := C.below hb
  replace S1 := S1.below hb
  replace S2 := S2.below hb
  replace S3 := S3.below hb
  replace S4 := S4.below hb
  replace S5 := S5.below hb
  replace S6 := S6.below hb
  replace hB := hB.trans (hbb.mono hB.size)
  clear hb hbb hA  v7 v8 l7 l8
  obtain rfl : z8 = [] := norm_unique S8.words Words.nil N8 norm_nil (by rw [V8.out]; rfl)
  go_wp2_with fail
  have hA := Below.refl w15.heap.size w15
  refine (qdiv_yes B S1 (by omega) (by omega) HG.out).mono ?_
  rintro e w16 ⟨a9, a10, c9, c10, z9, z10, rfl, S9, S10, N9, N10, v9, v10, l9, l10, hb⟩
  have V9 : Hid (val z9 = val ys / gcdI (val xs) (val ys)) := by rw [Hid, v9, V1.out]
  have V10 : Hid (val z10 = 0) := by rw [Hid, v10, V1.out]; exact by rw [gcdI_comm]; exact gcdI_rest py
  have b9 : z9.length ≤ 5 := by omega
  have hbb : Below w15.heap.size w15 w16 := hA.trans (hb.mono hA.size)
  replace A := A.below hb
  replace B := B.below hb
  replace C := C.below hb
  replace S1 := S1.below hb
  replace S2 := S2.below hb
  replace S3 := S3.below hb
  replace S4 := S4.below hb
  replace S5 := S5.below hb
  replace S6 := S6.below hb
  replace S7 := S7.below hb
  replace S8 := S8.below hb
  replace hB := hB.trans (hbb.mono hB.size)
  clear hb hbb hA  v9 v10 l9 l10
  obtain rfl : z10 = [] := norm_unique S10.words Words.nil N10 norm_nil (by rw [V10.out]; rfl)
  go_wp2_with fail
  have hA := Below.refl w16.heap.size w16
  refine (qgcd_len S7 S9 (by omega) (by omega)).mono ?_
  rintro e w17 ⟨a11, c11, z11, rfl, S11, N11, v11, l11, hb⟩
  have V11 : Hid (val z11 = 1) := by rw [Hid, v11, V7.out, V9.out]; exact gcdI_coprime px py hg0.out
  have b11 : z11.length ≤ 5 := by omega
  have hbb : Below w16.heap.size w16 w17 := hA.trans (hb.mono hA.size)
  replace A := A.below hb
  replace B := B.below hb
  replace C := C.below hb
  replace S1 := S1.below hb
  replace S2 := S2.below hb
  replace S3 := S3.below hb
  replace S4 := S4.below hb
  replace S5 := S5.below hb
  replace S6 := S6.below hb
  replace S7 := S7.below hb
  replace S8 := S8.below hb
  replace S9 := S9.below hb
  replace S10 := S10.below hb
  replace hB := hB.trans (hbb.mono hB.size)
  clear hb hbb hA  v11 l11
  go_wp2_with fail
  have hA := Below.refl w17.heap.size w17
  have ho := one_yes S11 (by omega) (by rw [V11.out]; decide)
  rw [V11.out] at ho
  refine (ho).mono ?_
  rintro e w18 ⟨rfl, hb⟩
  have hbb : Below w17.heap.size w17 w18 := hA.trans (hb.mono hA.size)
  replace A := A.below hb
  replace B := B.below hb
  replace C := C.below hb
  replace S1 := S1.below hb
  replace S2 := S2.below hb
  replace S3 := S3.below hb
  replace S4 := S4.below hb
  replace S5 := S5.below hb
  replace S6 := S6.below hb
  replace S7 := S7.below hb
  replace S8 := S8.below hb
  replace S9 := S9.below hb
  replace S10 := S10.below hb
  replace S11 := S11.below hb
  replace hB := hB.trans (hbb.mono hB.size)
  clear hb hbb hA  ho
  go_wp2
  go_ret
  exact ⟨rfl, hB⟩

theorem greatest_any {a b c : Option Addr} {la ca lb cb lc cc : Nat} {xs ys zs : List Int} {w : World} (A : Seg 0 w (.slice a la ca) xs) (B : Seg 0 w (.slice b lb cb) ys) (C : Seg 0 w (.slice c lc cc) zs) :
    Calls Try.prog 8 #[.slice a la ca, .slice b lb cb, .slice c lc cc] w fun e w' => e = .returned (.bool true) ∧ Below w.heap.size w w' := by
  by_cases h : 5 < la ∨ 5 < lb ∨ 5 < lc
  · exact greatest_long a la ca b lb cb c lc cc w h
  · obtain ⟨rfl, _⟩ := A.len
    obtain ⟨rfl, _⟩ := B.len
    obtain ⟨rfl, _⟩ := C.len
    have pg := gcdI_nonneg (val xs) (val ys)
    by_cases hg : gcdI (val xs) (val ys) = 0
    · exact greatest_zero A B C (by omega) (by omega) (by omega) hg
    · exact greatest_some A B C (by omega) (by omega) (by omega) (show 0 < gcdI (val xs) (val ys) by omega)
end Go.Proofs.Ytfdlhjnnbhfapaa
