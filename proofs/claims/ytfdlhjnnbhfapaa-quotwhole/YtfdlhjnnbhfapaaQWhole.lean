/-
  The walk of QuotWhole.
-/
import Derived.Test.YtfdlhjnnbhfapaaQKnown
namespace Go.Proofs.Ytfdlhjnnbhfapaa
open Go.RowKit

theorem whole_div {x y z : Int} (h0 : 0 ≤ z) (h : z < y) : (x * y + z) / y = x ∧ (x * y + z) % y = z := by
  have hy : 0 < y := by omega
  exact (Int.ediv_emod_unique hy).2 ⟨by rw [Int.mul_comm x y]; omega, h0, h⟩
theorem dvdB_mul (x y : Int) : dvdB y (x * y) = true := by
  unfold dvdB
  split
  · rename_i h; rw [h, Int.mul_zero]; rfl
  · rw [Int.mul_emod_left]; rfl
theorem dvdB_rest {x y z : Int} (h0 : 0 ≤ z) (h : z < y) : dvdB y (x * y + z) = decide (z = 0) := by
  unfold dvdB
  rw [if_neg (by omega), (whole_div h0 h).2]

set_option maxRecDepth 100000 in
set_option maxHeartbeats 1000000 in
/-- Where a list is long. -/
theorem whole_long (a : Option Addr) (la ca : Nat) (b : Option Addr) (lb cb : Nat) (c : Option Addr) (lc cc : Nat) (w : World) (h : 16 < la ∨ 16 < lb ∨ 16 < lc) :
    Calls Try.prog 7 #[.slice a la ca, .slice b lb cb, .slice c lc cc] w fun e w' => e = .returned (.bool true) ∧ Below w.heap.size w w' := by
  have q0 := fun w => longNat_any a la ca 16 w
  have q1 := fun w => longNat_any b lb cb 16 w
  have q2 := fun w => longNat_any c lc cc 16 w
  by_cases g0 : 16 < la
  · rw [decide_eq_true (show (16 : Int) < (la : Int) by omega)] at q0
    have Q0 := hide q0
    clear h g0 q0 q1 q2
    go_enter Try.func7, Try.ntmps7
    go_wp2_with fail
    refine (awake_any w).mono ?_
    rintro e w1 ⟨rfl, hb1⟩
    go_wp2_with fail
    refine (Q0.out _).mono ?_
    rintro e w2 ⟨rfl, rfl⟩
    go_wp2
    go_ret
    exact ⟨rfl, hb1⟩
  · rw [decide_eq_false (show ¬ (16 : Int) < (la : Int) by omega)] at q0
    have Q0 := hide q0
    clear q0
    by_cases g1 : 16 < lb
    · rw [decide_eq_true (show (16 : Int) < (lb : Int) by omega)] at q1
      have Q1 := hide q1
      clear h g1 q1 q2
      go_enter Try.func7, Try.ntmps7
      go_wp2_with fail
      refine (awake_any w).mono ?_
      rintro e w1 ⟨rfl, hb1⟩
      go_wp2_with fail
      refine (Q0.out _).mono ?_
      rintro e w2 ⟨rfl, rfl⟩
      go_wp2_with fail
      refine (Q1.out _).mono ?_
      rintro e w2 ⟨rfl, rfl⟩
      go_wp2
      go_ret
      exact ⟨rfl, hb1⟩
    · rw [decide_eq_false (show ¬ (16 : Int) < (lb : Int) by omega)] at q1
      have Q1 := hide q1
      clear q1
      rw [decide_eq_true (show (16 : Int) < (lc : Int) by omega)] at q2
      have Q2 := hide q2
      clear h q2
      go_enter Try.func7, Try.ntmps7
      go_wp2_with fail
      refine (awake_any w).mono ?_
      rintro e w1 ⟨rfl, hb1⟩
      go_wp2_with fail
      refine (Q0.out _).mono ?_
      rintro e w2 ⟨rfl, rfl⟩
      go_wp2_with fail
      refine (Q1.out _).mono ?_
      rintro e w2 ⟨rfl, rfl⟩
      go_wp2_with fail
      refine (Q2.out _).mono ?_
      rintro e w2 ⟨rfl, rfl⟩
      go_wp2
      go_ret
      exact ⟨rfl, hb1⟩

set_option maxRecDepth 100000 in
set_option maxHeartbeats 4000000 in
theorem whole_zero {a : Option Addr} {ca : Nat} {xs : List Int} {b : Option Addr} {cb : Nat} {ys : List Int} {c : Option Addr} {cc : Nat} {zs : List Int} {w : World} (A : Seg 0 w (.slice a xs.length ca) xs) (B : Seg 0 w (.slice b ys.length cb) ys) (C : Seg 0 w (.slice c zs.length cc) zs) (hx : xs.length ≤ 16) (hy : ys.length ≤ 16) (hz : zs.length ≤ 16) (hb0 : Hid (val ys = 0)) :
    Calls Try.prog 7 #[.slice a xs.length ca, .slice b ys.length cb, .slice c zs.length cc] w fun e w' => e = .returned (.bool true) ∧ Below w.heap.size w w' := by
  have q0 := fun w => longNat_any a xs.length ca 16 w
  rw [decide_eq_false (show ¬ (16 : Int) < (xs.length : Int) by omega)] at q0
  have Q0 := hide q0
  have px := val_nonneg A.words
  have q1 := fun w => longNat_any b ys.length cb 16 w
  rw [decide_eq_false (show ¬ (16 : Int) < (ys.length : Int) by omega)] at q1
  have Q1 := hide q1
  have py := val_nonneg B.words
  have q2 := fun w => longNat_any c zs.length cc 16 w
  rw [decide_eq_false (show ¬ (16 : Int) < (zs.length : Int) by omega)] at q2
  have Q2 := hide q2
  have pz := val_nonneg C.words
  clear q0 q1 q2
  have hB := Below.refl w.heap.size w
  go_enter Try.func7, Try.ntmps7
  go_wp2_with fail
  have hA := Below.refl w.heap.size w
  refine (awake_any _).mono ?_
  rintro e w1 ⟨rfl, hb⟩
  have hbb : Below w.heap.size w w1 := hA.trans (hb.mono hA.size)
  replace A := A.below hb
  replace B := B.below hb
  replace C := C.below hb
  replace hB := hB.trans (hbb.mono hB.size)
  clear hb hbb hA  
  go_wp2_with fail
  have hA := Below.refl w1.heap.size w1
  refine (Q0.out _).mono ?_
  rintro e w2 ⟨rfl, hw⟩
  have hb := hw_below hw
  clear hw
  have hbb : Below w1.heap.size w1 w2 := hA.trans (hb.mono hA.size)
  replace A := A.below hb
  replace B := B.below hb
  replace C := C.below hb
  replace hB := hB.trans (hbb.mono hB.size)
  clear hb hbb hA  
  go_wp2_with fail
  have hA := Below.refl w2.heap.size w2
  refine (Q1.out _).mono ?_
  rintro e w3 ⟨rfl, hw⟩
  have hb := hw_below hw
  clear hw
  have hbb : Below w2.heap.size w2 w3 := hA.trans (hb.mono hA.size)
  replace A := A.below hb
  replace B := B.below hb
  replace C := C.below hb
  replace hB := hB.trans (hbb.mono hB.size)
  clear hb hbb hA  
  go_wp2_with fail
  have hA := Below.refl w3.heap.size w3
  refine (Q2.out _).mono ?_
  rintro e w4 ⟨rfl, hw⟩
  have hb := hw_below hw
  clear hw
  have hbb : Below w3.heap.size w3 w4 := hA.trans (hb.mono hA.size)
  replace A := A.below hb
  replace B := B.below hb
  replace C := C.below hb
  replace hB := hB.trans (hbb.mono hB.size)
  clear hb hbb hA  
  go_wp2_with fail
  have hA := Below.refl w4.heap.size w4
  refine (trim_any B (by omega)).mono ?_
  rintro e w5 ⟨a1, c1, z1, rfl, S1, N1, v1, l1, hb⟩
  have V1 : Hid (val z1 = 0) := by rw [Hid, v1, hb0.out]
  have b1 : z1.length ≤ 16 := by omega
  have hbb : Below w4.heap.size w4 w5 := hA.trans (hb.mono hA.size)
  replace A := A.below hb
  replace B := B.below hb
  replace C := C.below hb
  replace hB := hB.trans (hbb.mono hB.size)
  clear hb hbb hA  v1 l1
  obtain rfl : z1 = [] := norm_unique S1.words Words.nil N1 norm_nil (by rw [V1.out]; rfl)
  go_wp2
  go_ret
  exact ⟨rfl, hB⟩

set_option maxRecDepth 100000 in
set_option maxHeartbeats 4000000 in
theorem whole_more {a : Option Addr} {ca : Nat} {xs : List Int} {b : Option Addr} {cb : Nat} {ys : List Int} {c : Option Addr} {cc : Nat} {zs : List Int} {w : World} (A : Seg 0 w (.slice a xs.length ca) xs) (B : Seg 0 w (.slice b ys.length cb) ys) (C : Seg 0 w (.slice c zs.length cc) zs) (hx : xs.length ≤ 16) (hy : ys.length ≤ 16) (hz : zs.length ≤ 16) (hb0 : Hid (0 < val ys)) (hc1 : 0 ≤ cmpI (val zs) (val ys)) :
    Calls Try.prog 7 #[.slice a xs.length ca, .slice b ys.length cb, .slice c zs.length cc] w fun e w' => e = .returned (.bool true) ∧ Below w.heap.size w w' := by
  have q0 := fun w => longNat_any a xs.length ca 16 w
  rw [decide_eq_false (show ¬ (16 : Int) < (xs.length : Int) by omega)] at q0
  have Q0 := hide q0
  have px := val_nonneg A.words
  have q1 := fun w => longNat_any b ys.length cb 16 w
  rw [decide_eq_false (show ¬ (16 : Int) < (ys.length : Int) by omega)] at q1
  have Q1 := hide q1
  have py := val_nonneg B.words
  have q2 := fun w => longNat_any c zs.length cc 16 w
  rw [decide_eq_false (show ¬ (16 : Int) < (zs.length : Int) by omega)] at q2
  have Q2 := hide q2
  have pz := val_nonneg C.words
  clear q0 q1 q2
  have hB := Below.refl w.heap.size w
  go_enter Try.func7, Try.ntmps7
  go_wp2_with fail
  have hA := Below.refl w.heap.size w
  refine (awake_any _).mono ?_
  rintro e w1 ⟨rfl, hb⟩
  have hbb : Below w.heap.size w w1 := hA.trans (hb.mono hA.size)
  replace A := A.below hb
  replace B := B.below hb
  replace C := C.below hb
  replace hB := hB.trans (hbb.mono hB.size)
  clear hb hbb hA  
  go_wp2_with fail
  have hA := Below.refl w1.heap.size w1
  refine (Q0.out _).mono ?_
  rintro e w2 ⟨rfl, hw⟩
  have hb := hw_below hw
  clear hw
  have hbb : Below w1.heap.size w1 w2 := hA.trans (hb.mono hA.size)
  replace A := A.below hb
  replace B := B.below hb
  replace C := C.below hb
  replace hB := hB.trans (hbb.mono hB.size)
  clear hb hbb hA  
  go_wp2_with fail
  have hA := Below.refl w2.heap.size w2
  refine (Q1.out _).mono ?_
  rintro e w3 ⟨rfl, hw⟩
  have hb := hw_below hw
  clear hw
  have hbb : Below w2.heap.size w2 w3 := hA.trans (hb.mono hA.size)
  replace A := A.below hb
  replace B := B.below hb
  replace C := C.below hb
  replace hB := hB.trans (hbb.mono hB.size)
  clear hb hbb hA  
  go_wp2_with fail
  have hA := Below.refl w3.heap.size w3
  refine (Q2.out _).mono ?_
  rintro e w4 ⟨rfl, hw⟩
  have hb := hw_below hw
  clear hw
  have hbb : Below w3.heap.size w3 w4 := hA.trans (hb.mono hA.size)
  replace A := A.below hb
  replace B := B.below hb
  replace C := C.below hb
  replace hB := hB.trans (hbb.mono hB.size)
  clear hb hbb hA  
  go_wp2_with fail
  have hA := Below.refl w4.heap.size w4
  refine (trim_any B (by omega)).mono ?_
  rintro e w5 ⟨a1, c1, z1, rfl, S1, N1, v1, l1, hb⟩
  have V1 : Hid (val z1 = val ys) := v1
  have b1 : z1.length ≤ 16 := by omega
  have hbb : Below w4.heap.size w4 w5 := hA.trans (hb.mono hA.size)
  replace A := A.below hb
  replace B := B.below hb
  replace C := C.below hb
  replace hB := hB.trans (hbb.mono hB.size)
  clear hb hbb hA  v1 l1
  have hz1 : ((z1.length : Int) == 0) = false := by rw [len_zero S1.words N1, V1.out]; exact decide_eq_false (by have := hb0.out; omega)
  go_wp2_with fail
  have hA := Below.refl w5.heap.size w5
  refine (school_any A B (by omega) (by omega)).mono ?_
  rintro e w6 ⟨a2, c2, z2, rfl, S2, N2, v2, l2, hb⟩
  have V2 : Hid (val z2 = val xs * val ys) := v2
  have b2 : z2.length ≤ 32 := by omega
  have hbb : Below w5.heap.size w5 w6 := hA.trans (hb.mono hA.size)
  replace A := A.below hb
  replace B := B.below hb
  replace C := C.below hb
  replace S1 := S1.below hb
  replace hB := hB.trans (hbb.mono hB.size)
  clear hb hbb hA  v2 l2
  go_wp2_with fail
  have hA := Below.refl w6.heap.size w6
  refine (trim_any A (by omega)).mono ?_
  rintro e w7 ⟨a3, c3, z3, rfl, S3, N3, v3, l3, hb⟩
  have V3 : Hid (val z3 = val xs) := v3
  have b3 : z3.length ≤ 16 := by omega
  have hbb : Below w6.heap.size w6 w7 := hA.trans (hb.mono hA.size)
  replace A := A.below hb
  replace B := B.below hb
  replace C := C.below hb
  replace S1 := S1.below hb
  replace S2 := S2.below hb
  replace hB := hB.trans (hbb.mono hB.size)
  clear hb hbb hA  v3 l3
  go_wp2_with fail
  have hA := Below.refl w7.heap.size w7
  refine (ldiv_yes S2 B S3 (Seg.nil 0 _) (by omega) (by omega) hb0.out N3 norm_nil (by rw [V2.out, V3.out]; exact (Int.mul_ediv_cancel _ (by have := hb0.out; omega)).symm) (by rw [V2.out, val_nil]; exact (Int.mul_emod_left _ _).symm)).mono ?_
  rintro e w8 ⟨rfl, hb⟩
  have hbb : Below w7.heap.size w7 w8 := hA.trans (hb.mono hA.size)
  replace A := A.below hb
  replace B := B.below hb
  replace C := C.below hb
  replace S1 := S1.below hb
  replace S2 := S2.below hb
  replace S3 := S3.below hb
  replace hB := hB.trans (hbb.mono hB.size)
  clear hb hbb hA  
  go_wp2_with fail
  have hA := Below.refl w8.heap.size w8
  have hv := qdivides_any B S2 (by omega) (by omega)
  rw [V2.out, dvdB_mul] at hv
  refine (hv).mono ?_
  rintro e w9 ⟨rfl, hb⟩
  have hbb : Below w8.heap.size w8 w9 := hA.trans (hb.mono hA.size)
  replace A := A.below hb
  replace B := B.below hb
  replace C := C.below hb
  replace S1 := S1.below hb
  replace S2 := S2.below hb
  replace S3 := S3.below hb
  replace hB := hB.trans (hbb.mono hB.size)
  clear hb hbb hA  hv
  go_wp2_with fail
  have hA := Below.refl w9.heap.size w9
  have hc := cmp_any C B (by omega) (by omega)
  refine (hc).mono ?_
  rintro e w10 ⟨rfl, hb⟩
  have hbb : Below w9.heap.size w9 w10 := hA.trans (hb.mono hA.size)
  replace A := A.below hb
  replace B := B.below hb
  replace C := C.below hb
  replace S1 := S1.below hb
  replace S2 := S2.below hb
  replace S3 := S3.below hb
  replace hB := hB.trans (hbb.mono hB.size)
  clear hb hbb hA  hc
  go_wp2
  go_ret
  exact ⟨rfl, hB⟩

set_option maxRecDepth 100000 in
set_option maxHeartbeats 4000000 in
theorem whole_less {a : Option Addr} {ca : Nat} {xs : List Int} {b : Option Addr} {cb : Nat} {ys : List Int} {c : Option Addr} {cc : Nat} {zs : List Int} {w : World} (A : Seg 0 w (.slice a xs.length ca) xs) (B : Seg 0 w (.slice b ys.length cb) ys) (C : Seg 0 w (.slice c zs.length cc) zs) (hx : xs.length ≤ 16) (hy : ys.length ≤ 16) (hz : zs.length ≤ 16) (hb0 : Hid (0 < val ys)) (hc0 : Hid (val zs < val ys)) :
    Calls Try.prog 7 #[.slice a xs.length ca, .slice b ys.length cb, .slice c zs.length cc] w fun e w' => e = .returned (.bool true) ∧ Below w.heap.size w w' := by
  have q0 := fun w => longNat_any a xs.length ca 16 w
  rw [decide_eq_false (show ¬ (16 : Int) < (xs.length : Int) by omega)] at q0
  have Q0 := hide q0
  have px := val_nonneg A.words
  have q1 := fun w => longNat_any b ys.length cb 16 w
  rw [decide_eq_false (show ¬ (16 : Int) < (ys.length : Int) by omega)] at q1
  have Q1 := hide q1
  have py := val_nonneg B.words
  have q2 := fun w => longNat_any c zs.length cc 16 w
  rw [decide_eq_false (show ¬ (16 : Int) < (zs.length : Int) by omega)] at q2
  have Q2 := hide q2
  have pz := val_nonneg C.words
  clear q0 q1 q2
  have hB := Below.refl w.heap.size w
  go_enter Try.func7, Try.ntmps7
  go_wp2_with fail
  have hA := Below.refl w.heap.size w
  refine (awake_any _).mono ?_
  rintro e w1 ⟨rfl, hb⟩
  have hbb : Below w.heap.size w w1 := hA.trans (hb.mono hA.size)
  replace A := A.below hb
  replace B := B.below hb
  replace C := C.below hb
  replace hB := hB.trans (hbb.mono hB.size)
  clear hb hbb hA  
  go_wp2_with fail
  have hA := Below.refl w1.heap.size w1
  refine (Q0.out _).mono ?_
  rintro e w2 ⟨rfl, hw⟩
  have hb := hw_below hw
  clear hw
  have hbb : Below w1.heap.size w1 w2 := hA.trans (hb.mono hA.size)
  replace A := A.below hb
  replace B := B.below hb
  replace C := C.below hb
  replace hB := hB.trans (hbb.mono hB.size)
  clear hb hbb hA  
  go_wp2_with fail
  have hA := Below.refl w2.heap.size w2
  refine (Q1.out _).mono ?_
  rintro e w3 ⟨rfl, hw⟩
  have hb := hw_below hw
  clear hw
  have hbb : Below w2.heap.size w2 w3 := hA.trans (hb.mono hA.size)
  replace A := A.below hb
  replace B := B.below hb
  replace C := C.below hb
  replace hB := hB.trans (hbb.mono hB.size)
  clear hb hbb hA  
  go_wp2_with fail
  have hA := Below.refl w3.heap.size w3
  refine (Q2.out _).mono ?_
  rintro e w4 ⟨rfl, hw⟩
  have hb := hw_below hw
  clear hw
  have hbb : Below w3.heap.size w3 w4 := hA.trans (hb.mono hA.size)
  replace A := A.below hb
  replace B := B.below hb
  replace C := C.below hb
  replace hB := hB.trans (hbb.mono hB.size)
  clear hb hbb hA  
  go_wp2_with fail
  have hA := Below.refl w4.heap.size w4
  refine (trim_any B (by omega)).mono ?_
  rintro e w5 ⟨a1, c1, z1, rfl, S1, N1, v1, l1, hb⟩
  have V1 : Hid (val z1 = val ys) := v1
  have b1 : z1.length ≤ 16 := by omega
  have hbb : Below w4.heap.size w4 w5 := hA.trans (hb.mono hA.size)
  replace A := A.below hb
  replace B := B.below hb
  replace C := C.below hb
  replace hB := hB.trans (hbb.mono hB.size)
  clear hb hbb hA  v1 l1
  have hz1 : ((z1.length : Int) == 0) = false := by rw [len_zero S1.words N1, V1.out]; exact decide_eq_false (by have := hb0.out; omega)
  go_wp2_with fail
  have hA := Below.refl w5.heap.size w5
  refine (school_any A B (by omega) (by omega)).mono ?_
  rintro e w6 ⟨a2, c2, z2, rfl, S2, N2, v2, l2, hb⟩
  have V2 : Hid (val z2 = val xs * val ys) := v2
  have b2 : z2.length ≤ 32 := by omega
  have hbb : Below w5.heap.size w5 w6 := hA.trans (hb.mono hA.size)
  replace A := A.below hb
  replace B := B.below hb
  replace C := C.below hb
  replace S1 := S1.below hb
  replace hB := hB.trans (hbb.mono hB.size)
  clear hb hbb hA  v2 l2
  go_wp2_with fail
  have hA := Below.refl w6.heap.size w6
  refine (trim_any A (by omega)).mono ?_
  rintro e w7 ⟨a3, c3, z3, rfl, S3, N3, v3, l3, hb⟩
  have V3 : Hid (val z3 = val xs) := v3
  have b3 : z3.length ≤ 16 := by omega
  have hbb : Below w6.heap.size w6 w7 := hA.trans (hb.mono hA.size)
  replace A := A.below hb
  replace B := B.below hb
  replace C := C.below hb
  replace S1 := S1.below hb
  replace S2 := S2.below hb
  replace hB := hB.trans (hbb.mono hB.size)
  clear hb hbb hA  v3 l3
  go_wp2_with fail
  have hA := Below.refl w7.heap.size w7
  refine (ldiv_yes S2 B S3 (Seg.nil 0 _) (by omega) (by omega) hb0.out N3 norm_nil (by rw [V2.out, V3.out]; exact (Int.mul_ediv_cancel _ (by have := hb0.out; omega)).symm) (by rw [V2.out, val_nil]; exact (Int.mul_emod_left _ _).symm)).mono ?_
  rintro e w8 ⟨rfl, hb⟩
  have hbb : Below w7.heap.size w7 w8 := hA.trans (hb.mono hA.size)
  replace A := A.below hb
  replace B := B.below hb
  replace C := C.below hb
  replace S1 := S1.below hb
  replace S2 := S2.below hb
  replace S3 := S3.below hb
  replace hB := hB.trans (hbb.mono hB.size)
  clear hb hbb hA  
  go_wp2_with fail
  have hA := Below.refl w8.heap.size w8
  have hv := qdivides_any B S2 (by omega) (by omega)
  rw [V2.out, dvdB_mul] at hv
  refine (hv).mono ?_
  rintro e w9 ⟨rfl, hb⟩
  have hbb : Below w8.heap.size w8 w9 := hA.trans (hb.mono hA.size)
  replace A := A.below hb
  replace B := B.below hb
  replace C := C.below hb
  replace S1 := S1.below hb
  replace S2 := S2.below hb
  replace S3 := S3.below hb
  replace hB := hB.trans (hbb.mono hB.size)
  clear hb hbb hA  hv
  go_wp2_with fail
  have hA := Below.refl w9.heap.size w9
  have hc := cmp_any C B (by omega) (by omega)
  rw [cmpI_lt hc0.out] at hc
  refine (hc).mono ?_
  rintro e w10 ⟨rfl, hb⟩
  have hbb : Below w9.heap.size w9 w10 := hA.trans (hb.mono hA.size)
  replace A := A.below hb
  replace B := B.below hb
  replace C := C.below hb
  replace S1 := S1.below hb
  replace S2 := S2.below hb
  replace S3 := S3.below hb
  replace hB := hB.trans (hbb.mono hB.size)
  clear hb hbb hA  hc
  go_wp2_with fail
  have hA := Below.refl w10.heap.size w10
  refine (trim_any C (by omega)).mono ?_
  rintro e w11 ⟨a4, c4, z4, rfl, S4, N4, v4, l4, hb⟩
  have V4 : Hid (val z4 = val zs) := v4
  have b4 : z4.length ≤ 16 := by omega
  have hbb : Below w10.heap.size w10 w11 := hA.trans (hb.mono hA.size)
  replace A := A.below hb
  replace B := B.below hb
  replace C := C.below hb
  replace S1 := S1.below hb
  replace S2 := S2.below hb
  replace S3 := S3.below hb
  replace hB := hB.trans (hbb.mono hB.size)
  clear hb hbb hA  v4 l4
  have hz4 : ((z4.length : Int) == 0) = decide (val zs = 0) := by rw [len_zero S4.words N4, V4.out]
  go_wp2_with fail
  have hA := Below.refl w11.heap.size w11
  refine (add_any S2 C (by omega) (by omega)).mono ?_
  rintro e w12 ⟨a5, c5, z5, rfl, S5, N5, v5, l5, hb⟩
  have V5 : Hid (val z5 = val xs * val ys + val zs) := by rw [Hid, v5, V2.out]
  have b5 : z5.length ≤ 33 := by omega
  have hbb : Below w11.heap.size w11 w12 := hA.trans (hb.mono hA.size)
  replace A := A.below hb
  replace B := B.below hb
  replace C := C.below hb
  replace S1 := S1.below hb
  replace S2 := S2.below hb
  replace S3 := S3.below hb
  replace S4 := S4.below hb
  replace hB := hB.trans (hbb.mono hB.size)
  clear hb hbb hA  v5 l5
  go_wp2_with fail
  have hA := Below.refl w12.heap.size w12
  refine (trim_any A (by omega)).mono ?_
  rintro e w13 ⟨a6, c6, z6, rfl, S6, N6, v6, l6, hb⟩
  have V6 : Hid (val z6 = val xs) := v6
  have b6 : z6.length ≤ 16 := by omega
  have hbb : Below w12.heap.size w12 w13 := hA.trans (hb.mono hA.size)
  replace A := A.below hb
  replace B := B.below hb
  replace C := C.below hb
  replace S1 := S1.below hb
  replace S2 := S2.below hb
  replace S3 := S3.below hb
  replace S4 := S4.below hb
  replace S5 := S5.below hb
  replace hB := hB.trans (hbb.mono hB.size)
  clear hb hbb hA  v6 l6
  go_wp2_with fail
  have hA := Below.refl w13.heap.size w13
  refine (ldiv_yes S5 B S6 S4 (by omega) (by omega) hb0.out N6 N4 (by rw [V5.out, V6.out]; exact (whole_div pz hc0.out).1.symm) (by rw [V5.out, V4.out]; exact (whole_div pz hc0.out).2.symm)).mono ?_
  rintro e w14 ⟨rfl, hb⟩
  have hbb : Below w13.heap.size w13 w14 := hA.trans (hb.mono hA.size)
  replace A := A.below hb
  replace B := B.below hb
  replace C := C.below hb
  replace S1 := S1.below hb
  replace S2 := S2.below hb
  replace S3 := S3.below hb
  replace S4 := S4.below hb
  replace S5 := S5.below hb
  replace S6 := S6.below hb
  replace hB := hB.trans (hbb.mono hB.size)
  clear hb hbb hA  
  go_wp2_with fail
  have hA := Below.refl w14.heap.size w14
  refine (add_any S2 C (by omega) (by omega)).mono ?_
  rintro e w15 ⟨a7, c7, z7, rfl, S7, N7, v7, l7, hb⟩
  have V7 : Hid (val z7 = val xs * val ys + val zs) := by rw [Hid, v7, V2.out]
  have b7 : z7.length ≤ 33 := by omega
  have hbb : Below w14.heap.size w14 w15 := hA.trans (hb.mono hA.size)
  replace A := A.below hb
  replace B := B.below hb
  replace C := C.below hb
  replace S1 := S1.below hb
  replace S2 := S2.below hb
  replace S3 := S3.below hb
  replace S4 := S4.below hb
  replace S5 := S5.below hb
  replace S6 := S6.below hb
  replace hB := hB.trans (hbb.mono hB.size)
  clear hb hbb hA  v7 l7
  go_wp2_with fail
  have hA := Below.refl w15.heap.size w15
  have hv := qdivides_any B S7 (by omega) (by omega)
  rw [V7.out, dvdB_rest pz hc0.out] at hv
  refine (hv).mono ?_
  rintro e w16 ⟨rfl, hb⟩
  have hbb : Below w15.heap.size w15 w16 := hA.trans (hb.mono hA.size)
  replace A := A.below hb
  replace B := B.below hb
  replace C := C.below hb
  replace S1 := S1.below hb
  replace S2 := S2.below hb
  replace S3 := S3.below hb
  replace S4 := S4.below hb
  replace S5 := S5.below hb
  replace S6 := S6.below hb
  replace S7 := S7.below hb
  replace hB := hB.trans (hbb.mono hB.size)
  clear hb hbb hA  hv
  go_wp2
  go_ret
  exact ⟨rfl, hB⟩

theorem whole_any {a b c : Option Addr} {la ca lb cb lc cc : Nat} {xs ys zs : List Int} {w : World} (A : Seg 0 w (.slice a la ca) xs) (B : Seg 0 w (.slice b lb cb) ys) (C : Seg 0 w (.slice c lc cc) zs) :
    Calls Try.prog 7 #[.slice a la ca, .slice b lb cb, .slice c lc cc] w fun e w' => e = .returned (.bool true) ∧ Below w.heap.size w w' := by
  by_cases h : 16 < la ∨ 16 < lb ∨ 16 < lc
  · exact whole_long a la ca b lb cb c lc cc w h
  · obtain ⟨rfl, _⟩ := A.len
    obtain ⟨rfl, _⟩ := B.len
    obtain ⟨rfl, _⟩ := C.len
    have py := val_nonneg B.words
    by_cases hb : val ys = 0
    · exact whole_zero A B C (by omega) (by omega) (by omega) hb
    · by_cases hc : val zs < val ys
      · exact whole_less A B C (by omega) (by omega) (by omega) (show 0 < val ys by omega) hc
      · refine whole_more A B C (by omega) (by omega) (by omega) (show 0 < val ys by omega) ?_
        unfold cmpI
        rw [if_neg hc]
        split <;> decide
end Go.Proofs.Ytfdlhjnnbhfapaa
