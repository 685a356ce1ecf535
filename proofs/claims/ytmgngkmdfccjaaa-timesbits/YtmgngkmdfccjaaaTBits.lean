/-
  The walk of TimesBits.
-/
import Derived.Test.YtmgngkmdfccjaaaTKnown
namespace Go.Proofs.Ytmgngkmdfccjaaa
open Go.RowKit

theorem formOf_norm {zs : List Int} (h : Norm zs) : formOf zs = 0 := if_pos h
theorem len_at {lo : Nat} {sv : Value} {zs : List Int} {w : World} (h : Seg lo w sv zs) (hl : zs.length ≤ 10000) (n : Nat) (e : blen (val zs) = n) :
    Calls Try.prog 28 #[sv] w fun e w' => e = .returned (.int .i64 n) ∧ Below w.heap.size w w' := by
  rw [← e]; exact len_any h hl
theorem cmpI_mul {x y z : Int} (h : 0 < x) : cmpI (x * y) (x * z) = cmpI y z := by
  rcases Int.lt_trichotomy y z with g | g | g
  · rw [cmpI_lt g, cmpI_lt (Int.mul_lt_mul_of_pos_left g h)]
  · rw [g, cmpI_eq, cmpI_eq]
  · rw [cmpI_gt g, cmpI_gt (Int.mul_lt_mul_of_pos_left g h)]
theorem blen_lt {v k : Nat} (h : v < 2 ^ k) : blen v ≤ k := by
  unfold blen Go.bitLen
  rw [Int.toNat_natCast]
  split
  · omega
  · rename_i h0
    have := (Nat.log2_lt h0).2 h
    omega
theorem blen_ge {v k : Nat} (h : 2 ^ k ≤ v) : k + 1 ≤ blen v := by
  unfold blen Go.bitLen
  rw [Int.toNat_natCast]
  have hp := Nat.two_pow_pos k
  rw [if_neg (by omega)]
  have := (Nat.le_log2 (n := v) (k := k) (by omega)).2 h
  omega
theorem blen_low {v : Nat} (h : 0 < v) : 2 ^ (blen v - 1) ≤ v := by
  unfold blen Go.bitLen
  rw [Int.toNat_natCast, if_neg (by omega), Nat.add_sub_cancel]
  exact Nat.log2_self_le (by omega)
/-- How many bits a product has. -/
theorem blen_mul {x y : Int} (hx : 0 < x) (hy : 0 < y) : blen (x * y) = blen x + blen y ∨ blen (x * y) + 1 = blen x + blen y := by
  obtain ⟨x, rfl⟩ := Int.eq_ofNat_of_zero_le (Int.le_of_lt hx)
  obtain ⟨y, rfl⟩ := Int.eq_ofNat_of_zero_le (Int.le_of_lt hy)
  have a := lt_blen x
  have b := lt_blen y
  have c := blen_low (v := x) (by omega)
  have d := blen_low (v := y) (by omega)
  have e1 := blen_pos hx
  have e2 := blen_pos hy
  rw [← Int.natCast_mul]
  have up : x * y < 2 ^ (blen x + blen y) := by rw [Nat.pow_add]; exact Nat.mul_lt_mul'' a b
  have lo : 2 ^ (blen (x : Int) - 1 + (blen (y : Int) - 1)) ≤ x * y := by rw [Nat.pow_add]; exact Nat.mul_le_mul c d
  have u := blen_lt up
  have l := blen_ge lo
  omega
theorem blen_words_le {zs : List Int} (hw : Words zs) : blen (val zs) ≤ 64 * zs.length := by
  obtain ⟨k, hk, hnk, hvk⟩ := norm_upto (zs := zs) zs.length (Nat.le_refl _) (fun j h1 h2 => by omega)
  have := (blen_len (hw.take k) hnk).2
  rw [hvk, List.length_take] at this
  omega

set_option maxRecDepth 100000 in
set_option maxHeartbeats 1000000 in
/-- Where a list is long. -/
theorem bits_long (a : Option Addr) (la ca : Nat) (b : Option Addr) (lb cb : Nat) (c : Option Addr) (lc cc : Nat) (w : World) (h : 20 < la ∨ 20 < lb ∨ 20 < lc) :
    Calls Try.prog 7 #[.slice a la ca, .slice b lb cb, .slice c lc cc] w fun e w' => e = .returned (.bool true) ∧ Below w.heap.size w w' := by
  have q0 := fun w => longNat_any a la ca 20 w
  have q1 := fun w => longNat_any b lb cb 20 w
  have q2 := fun w => longNat_any c lc cc 20 w
  by_cases g0 : 20 < la
  · rw [decide_eq_true (show (20 : Int) < (la : Int) by omega)] at q0
    have Q0 := hide q0
    clear h g0 q0 q1 q2
    go_enter Try.func7, Try.ntmps7
    go_wp2_with fail
    refine (known_any w).mono ?_
    rintro e w1 ⟨rfl, hb1⟩
    go_wp2_with fail
    refine (Q0.out _).mono ?_
    rintro e w2 ⟨rfl, rfl⟩
    go_wp2
    go_ret
    exact ⟨rfl, hb1⟩
  · rw [decide_eq_false (show ¬ (20 : Int) < (la : Int) by omega)] at q0
    have Q0 := hide q0
    clear q0
    by_cases g1 : 20 < lb
    · rw [decide_eq_true (show (20 : Int) < (lb : Int) by omega)] at q1
      have Q1 := hide q1
      clear h g1 q1 q2
      go_enter Try.func7, Try.ntmps7
      go_wp2_with fail
      refine (known_any w).mono ?_
      rintro e w1 ⟨rfl, hb1⟩
      go_wp2_with fail
      refine (Q0.out _).mono ?_
      rintro e w2 ⟨rfl, rfl⟩
      go_wp2_with fail
      refine (Q1.out _).mono ?_
      rintro e w2 ⟨rfl, rfl⟩
      go_wp2
      go_ret
      exact ⟨rfl, hb1⟩
    · rw [decide_eq_false (show ¬ (20 : Int) < (lb : Int) by omega)] at q1
      have Q1 := hide q1
      clear q1
      rw [decide_eq_true (show (20 : Int) < (lc : Int) by omega)] at q2
      have Q2 := hide q2
      clear h q2
      go_enter Try.func7, Try.ntmps7
      go_wp2_with fail
      refine (known_any w).mono ?_
      rintro e w1 ⟨rfl, hb1⟩
      go_wp2_with fail
      refine (Q0.out _).mono ?_
      rintro e w2 ⟨rfl, rfl⟩
      go_wp2_with fail
      refine (Q1.out _).mono ?_
      rintro e w2 ⟨rfl, rfl⟩
      go_wp2_with fail
      refine (Q2.out _).mono ?_
      rintro e w2 ⟨rfl, rfl⟩
      go_wp2
      go_ret
      exact ⟨rfl, hb1⟩

set_option maxRecDepth 100000 in
set_option maxHeartbeats 4000000 in
theorem bits_zero {a : Option Addr} {ca : Nat} {xs : List Int} {b : Option Addr} {cb : Nat} {ys : List Int} {c : Option Addr} {cc : Nat} {zs : List Int} {w : World} (A : Seg 0 w (.slice a xs.length ca) xs) (B : Seg 0 w (.slice b ys.length cb) ys) (C : Seg 0 w (.slice c zs.length cc) zs) (hx : xs.length ≤ 20) (hy : ys.length ≤ 20) (hz : zs.length ≤ 20) (HX : Hid (blen (val xs) = 0)) (HP : Hid (blen (val xs * val ys) = 0)) :
    Calls Try.prog 7 #[.slice a xs.length ca, .slice b ys.length cb, .slice c zs.length cc] w fun e w' => e = .returned (.bool true) ∧ Below w.heap.size w w' := by
  have q0 := fun w => longNat_any a xs.length ca 20 w
  rw [decide_eq_false (show ¬ (20 : Int) < (xs.length : Int) by omega)] at q0
  have Q0 := hide q0
  have px := val_nonneg A.words
  have q1 := fun w => longNat_any b ys.length cb 20 w
  rw [decide_eq_false (show ¬ (20 : Int) < (ys.length : Int) by omega)] at q1
  have Q1 := hide q1
  have py := val_nonneg B.words
  have q2 := fun w => longNat_any c zs.length cc 20 w
  rw [decide_eq_false (show ¬ (20 : Int) < (zs.length : Int) by omega)] at q2
  have Q2 := hide q2
  have pz := val_nonneg C.words
  clear q0 q1 q2
  have hB := Below.refl w.heap.size w
  go_enter Try.func7, Try.ntmps7
  go_wp2_with (go_at_call 23; refine (ofl_any _ _ _ _).mono ?_; rintro e w' ⟨rfl, rfl⟩)
  have hA := Below.refl w.heap.size w
  refine (known_any _).mono ?_
  rintro e w1 ⟨rfl, hb⟩
  have hbb : Below w.heap.size w w1 := hA.trans (hb.mono hA.size)
  replace A := A.below hb
  replace B := B.below hb
  replace C := C.below hb
  replace hB := hB.trans (hbb.mono hB.size)
  clear hb hbb hA  
  go_wp2_with (go_at_call 23; refine (ofl_any _ _ _ _).mono ?_; rintro e w' ⟨rfl, rfl⟩)
  have hA := Below.refl w1.heap.size w1
  refine (Q0.out _).mono ?_
  rintro e w2 ⟨rfl, hw⟩
  have hb := hw_below hw
  clear hw
  have hbb : Below w1.heap.size w1 w2 := hA.trans (hb.mono hA.size)
  replace A := A.below hb
  replace B := B.below hb
  replace C := C.below hb
  replace hB := hB.trans (hbb.mono hB.size)
  clear hb hbb hA  
  go_wp2_with (go_at_call 23; refine (ofl_any _ _ _ _).mono ?_; rintro e w' ⟨rfl, rfl⟩)
  have hA := Below.refl w2.heap.size w2
  refine (Q1.out _).mono ?_
  rintro e w3 ⟨rfl, hw⟩
  have hb := hw_below hw
  clear hw
  have hbb : Below w2.heap.size w2 w3 := hA.trans (hb.mono hA.size)
  replace A := A.below hb
  replace B := B.below hb
  replace C := C.below hb
  replace hB := hB.trans (hbb.mono hB.size)
  clear hb hbb hA  
  go_wp2_with (go_at_call 23; refine (ofl_any _ _ _ _).mono ?_; rintro e w' ⟨rfl, rfl⟩)
  have hA := Below.refl w3.heap.size w3
  refine (Q2.out _).mono ?_
  rintro e w4 ⟨rfl, hw⟩
  have hb := hw_below hw
  clear hw
  have hbb : Below w3.heap.size w3 w4 := hA.trans (hb.mono hA.size)
  replace A := A.below hb
  replace B := B.below hb
  replace C := C.below hb
  replace hB := hB.trans (hbb.mono hB.size)
  clear hb hbb hA  
  go_wp2_with (go_at_call 23; refine (ofl_any _ _ _ _).mono ?_; rintro e w' ⟨rfl, rfl⟩)
  have hA := Below.refl w4.heap.size w4
  refine (mul_any A B (by omega) (by omega)).mono ?_
  rintro e w5 ⟨a1, c1, z1, rfl, S1, N1, v1, l1, hb⟩
  have V1 : Hid (val z1 = val xs * val ys) := v1
  have b1 : z1.length ≤ 40 := by omega
  have hbb : Below w4.heap.size w4 w5 := hA.trans (hb.mono hA.size)
  replace A := A.below hb
  replace B := B.below hb
  replace C := C.below hb
  replace hB := hB.trans (hbb.mono hB.size)
  clear hb hbb hA  v1 l1
  go_wp2_with (go_at_call 23; refine (ofl_any _ _ _ _).mono ?_; rintro e w' ⟨rfl, rfl⟩)
  have hA := Below.refl w5.heap.size w5
  refine (mul_any A C (by omega) (by omega)).mono ?_
  rintro e w6 ⟨a2, c2, z2, rfl, S2, N2, v2, l2, hb⟩
  have V2 : Hid (val z2 = val xs * val zs) := v2
  have b2 : z2.length ≤ 40 := by omega
  have hbb : Below w5.heap.size w5 w6 := hA.trans (hb.mono hA.size)
  replace A := A.below hb
  replace B := B.below hb
  replace C := C.below hb
  replace S1 := S1.below hb
  replace hB := hB.trans (hbb.mono hB.size)
  clear hb hbb hA  v2 l2
  go_wp2_with (go_at_call 23; refine (ofl_any _ _ _ _).mono ?_; rintro e w' ⟨rfl, rfl⟩)
  have hA := Below.refl w6.heap.size w6
  have hf := check_any S1 (by omega)
  rw [formOf_norm N1] at hf
  refine (hf).mono ?_
  rintro e w7 ⟨rfl, hb⟩
  have hbb : Below w6.heap.size w6 w7 := hA.trans (hb.mono hA.size)
  replace A := A.below hb
  replace B := B.below hb
  replace C := C.below hb
  replace S1 := S1.below hb
  replace S2 := S2.below hb
  replace hB := hB.trans (hbb.mono hB.size)
  clear hb hbb hA  hf
  go_wp2_with (go_at_call 23; refine (ofl_any _ _ _ _).mono ?_; rintro e w' ⟨rfl, rfl⟩)
  have hA := Below.refl w7.heap.size w7
  have hf := check_any S2 (by omega)
  rw [formOf_norm N2] at hf
  refine (hf).mono ?_
  rintro e w8 ⟨rfl, hb⟩
  have hbb : Below w7.heap.size w7 w8 := hA.trans (hb.mono hA.size)
  replace A := A.below hb
  replace B := B.below hb
  replace C := C.below hb
  replace S1 := S1.below hb
  replace S2 := S2.below hb
  replace hB := hB.trans (hbb.mono hB.size)
  clear hb hbb hA  hf
  go_wp2_with (go_at_call 23; refine (ofl_any _ _ _ _).mono ?_; rintro e w' ⟨rfl, rfl⟩)
  have hA := Below.refl w8.heap.size w8
  refine (square_any A (by omega)).mono ?_
  rintro e w9 ⟨a3, c3, z3, rfl, S3, N3, v3, l3, hb⟩
  have V3 : Hid (val z3 = val xs * val xs) := v3
  have b3 : z3.length ≤ 40 := by omega
  have hbb : Below w8.heap.size w8 w9 := hA.trans (hb.mono hA.size)
  replace A := A.below hb
  replace B := B.below hb
  replace C := C.below hb
  replace S1 := S1.below hb
  replace S2 := S2.below hb
  replace hB := hB.trans (hbb.mono hB.size)
  clear hb hbb hA  v3 l3
  go_wp2_with (go_at_call 23; refine (ofl_any _ _ _ _).mono ?_; rintro e w' ⟨rfl, rfl⟩)
  have hA := Below.refl w9.heap.size w9
  have hf := check_any S3 (by omega)
  rw [formOf_norm N3] at hf
  refine (hf).mono ?_
  rintro e w10 ⟨rfl, hb⟩
  have hbb : Below w9.heap.size w9 w10 := hA.trans (hb.mono hA.size)
  replace A := A.below hb
  replace B := B.below hb
  replace C := C.below hb
  replace S1 := S1.below hb
  replace S2 := S2.below hb
  replace S3 := S3.below hb
  replace hB := hB.trans (hbb.mono hB.size)
  clear hb hbb hA  hf
  go_wp2_with (go_at_call 23; refine (ofl_any _ _ _ _).mono ?_; rintro e w' ⟨rfl, rfl⟩)
  have hA := Below.refl w10.heap.size w10
  refine (len_at A (by omega) 0 HX.out).mono ?_
  rintro e w11 ⟨rfl, hb⟩
  have hbb : Below w10.heap.size w10 w11 := hA.trans (hb.mono hA.size)
  replace A := A.below hb
  replace B := B.below hb
  replace C := C.below hb
  replace S1 := S1.below hb
  replace S2 := S2.below hb
  replace S3 := S3.below hb
  replace hB := hB.trans (hbb.mono hB.size)
  clear hb hbb hA  
  go_wp2_with (go_at_call 23; refine (ofl_any _ _ _ _).mono ?_; rintro e w' ⟨rfl, rfl⟩)
  have hA := Below.refl w11.heap.size w11
  refine (len_at A (by omega) 0 HX.out).mono ?_
  rintro e w12 ⟨rfl, hb⟩
  have hbb : Below w11.heap.size w11 w12 := hA.trans (hb.mono hA.size)
  replace A := A.below hb
  replace B := B.below hb
  replace C := C.below hb
  replace S1 := S1.below hb
  replace S2 := S2.below hb
  replace S3 := S3.below hb
  replace hB := hB.trans (hbb.mono hB.size)
  clear hb hbb hA  
  go_wp2_with (go_at_call 23; refine (ofl_any _ _ _ _).mono ?_; rintro e w' ⟨rfl, rfl⟩)
  have hA := Below.refl w12.heap.size w12
  refine (len_at S1 (by omega) 0 (by rw [V1.out]; exact HP.out)).mono ?_
  rintro e w13 ⟨rfl, hb⟩
  have hbb : Below w12.heap.size w12 w13 := hA.trans (hb.mono hA.size)
  replace A := A.below hb
  replace B := B.below hb
  replace C := C.below hb
  replace S1 := S1.below hb
  replace S2 := S2.below hb
  replace S3 := S3.below hb
  replace hB := hB.trans (hbb.mono hB.size)
  clear hb hbb hA  
  go_wp2
  go_ret
  exact ⟨rfl, hB⟩

set_option maxRecDepth 100000 in
set_option maxHeartbeats 4000000 in
theorem bits_none {a : Option Addr} {ca : Nat} {xs : List Int} {b : Option Addr} {cb : Nat} {ys : List Int} {c : Option Addr} {cc : Nat} {zs : List Int} {w : World} (A : Seg 0 w (.slice a xs.length ca) xs) (B : Seg 0 w (.slice b ys.length cb) ys) (C : Seg 0 w (.slice c zs.length cc) zs) (hx : xs.length ≤ 20) (hy : ys.length ≤ 20) (hz : zs.length ≤ 20) (nx : Nat) (HX : Hid (blen (val xs) = nx)) (h0x : 0 < nx ∧ nx ≤ 10000) (HY : Hid (blen (val ys) = 0)) (hx0 : Hid (0 < val xs)) (HP : Hid (blen (val xs * val ys) = 0)) :
    Calls Try.prog 7 #[.slice a xs.length ca, .slice b ys.length cb, .slice c zs.length cc] w fun e w' => e = .returned (.bool true) ∧ Below w.heap.size w w' := by
  have q0 := fun w => longNat_any a xs.length ca 20 w
  rw [decide_eq_false (show ¬ (20 : Int) < (xs.length : Int) by omega)] at q0
  have Q0 := hide q0
  have px := val_nonneg A.words
  have q1 := fun w => longNat_any b ys.length cb 20 w
  rw [decide_eq_false (show ¬ (20 : Int) < (ys.length : Int) by omega)] at q1
  have Q1 := hide q1
  have py := val_nonneg B.words
  have q2 := fun w => longNat_any c zs.length cc 20 w
  rw [decide_eq_false (show ¬ (20 : Int) < (zs.length : Int) by omega)] at q2
  have Q2 := hide q2
  have pz := val_nonneg C.words
  clear q0 q1 q2
  have e0 : ((nx : Int) == 0) = false := beq_eq_false_iff_ne.2 (by omega)
  have hB := Below.refl w.heap.size w
  go_enter Try.func7, Try.ntmps7
  go_wp2_with (go_at_call 23; refine (ofl_any _ _ _ _).mono ?_; rintro e w' ⟨rfl, rfl⟩)
  have hA := Below.refl w.heap.size w
  refine (known_any _).mono ?_
  rintro e w1 ⟨rfl, hb⟩
  have hbb : Below w.heap.size w w1 := hA.trans (hb.mono hA.size)
  replace A := A.below hb
  replace B := B.below hb
  replace C := C.below hb
  replace hB := hB.trans (hbb.mono hB.size)
  clear hb hbb hA  
  go_wp2_with (go_at_call 23; refine (ofl_any _ _ _ _).mono ?_; rintro e w' ⟨rfl, rfl⟩)
  have hA := Below.refl w1.heap.size w1
  refine (Q0.out _).mono ?_
  rintro e w2 ⟨rfl, hw⟩
  have hb := hw_below hw
  clear hw
  have hbb : Below w1.heap.size w1 w2 := hA.trans (hb.mono hA.size)
  replace A := A.below hb
  replace B := B.below hb
  replace C := C.below hb
  replace hB := hB.trans (hbb.mono hB.size)
  clear hb hbb hA  
  go_wp2_with (go_at_call 23; refine (ofl_any _ _ _ _).mono ?_; rintro e w' ⟨rfl, rfl⟩)
  have hA := Below.refl w2.heap.size w2
  refine (Q1.out _).mono ?_
  rintro e w3 ⟨rfl, hw⟩
  have hb := hw_below hw
  clear hw
  have hbb : Below w2.heap.size w2 w3 := hA.trans (hb.mono hA.size)
  replace A := A.below hb
  replace B := B.below hb
  replace C := C.below hb
  replace hB := hB.trans (hbb.mono hB.size)
  clear hb hbb hA  
  go_wp2_with (go_at_call 23; refine (ofl_any _ _ _ _).mono ?_; rintro e w' ⟨rfl, rfl⟩)
  have hA := Below.refl w3.heap.size w3
  refine (Q2.out _).mono ?_
  rintro e w4 ⟨rfl, hw⟩
  have hb := hw_below hw
  clear hw
  have hbb : Below w3.heap.size w3 w4 := hA.trans (hb.mono hA.size)
  replace A := A.below hb
  replace B := B.below hb
  replace C := C.below hb
  replace hB := hB.trans (hbb.mono hB.size)
  clear hb hbb hA  
  go_wp2_with (go_at_call 23; refine (ofl_any _ _ _ _).mono ?_; rintro e w' ⟨rfl, rfl⟩)
  have hA := Below.refl w4.heap.size w4
  refine (mul_any A B (by omega) (by omega)).mono ?_
  rintro e w5 ⟨a1, c1, z1, rfl, S1, N1, v1, l1, hb⟩
  have V1 : Hid (val z1 = val xs * val ys) := v1
  have b1 : z1.length ≤ 40 := by omega
  have hbb : Below w4.heap.size w4 w5 := hA.trans (hb.mono hA.size)
  replace A := A.below hb
  replace B := B.below hb
  replace C := C.below hb
  replace hB := hB.trans (hbb.mono hB.size)
  clear hb hbb hA  v1 l1
  go_wp2_with (go_at_call 23; refine (ofl_any _ _ _ _).mono ?_; rintro e w' ⟨rfl, rfl⟩)
  have hA := Below.refl w5.heap.size w5
  refine (mul_any A C (by omega) (by omega)).mono ?_
  rintro e w6 ⟨a2, c2, z2, rfl, S2, N2, v2, l2, hb⟩
  have V2 : Hid (val z2 = val xs * val zs) := v2
  have b2 : z2.length ≤ 40 := by omega
  have hbb : Below w5.heap.size w5 w6 := hA.trans (hb.mono hA.size)
  replace A := A.below hb
  replace B := B.below hb
  replace C := C.below hb
  replace S1 := S1.below hb
  replace hB := hB.trans (hbb.mono hB.size)
  clear hb hbb hA  v2 l2
  go_wp2_with (go_at_call 23; refine (ofl_any _ _ _ _).mono ?_; rintro e w' ⟨rfl, rfl⟩)
  have hA := Below.refl w6.heap.size w6
  have hf := check_any S1 (by omega)
  rw [formOf_norm N1] at hf
  refine (hf).mono ?_
  rintro e w7 ⟨rfl, hb⟩
  have hbb : Below w6.heap.size w6 w7 := hA.trans (hb.mono hA.size)
  replace A := A.below hb
  replace B := B.below hb
  replace C := C.below hb
  replace S1 := S1.below hb
  replace S2 := S2.below hb
  replace hB := hB.trans (hbb.mono hB.size)
  clear hb hbb hA  hf
  go_wp2_with (go_at_call 23; refine (ofl_any _ _ _ _).mono ?_; rintro e w' ⟨rfl, rfl⟩)
  have hA := Below.refl w7.heap.size w7
  have hf := check_any S2 (by omega)
  rw [formOf_norm N2] at hf
  refine (hf).mono ?_
  rintro e w8 ⟨rfl, hb⟩
  have hbb : Below w7.heap.size w7 w8 := hA.trans (hb.mono hA.size)
  replace A := A.below hb
  replace B := B.below hb
  replace C := C.below hb
  replace S1 := S1.below hb
  replace S2 := S2.below hb
  replace hB := hB.trans (hbb.mono hB.size)
  clear hb hbb hA  hf
  go_wp2_with (go_at_call 23; refine (ofl_any _ _ _ _).mono ?_; rintro e w' ⟨rfl, rfl⟩)
  have hA := Below.refl w8.heap.size w8
  refine (square_any A (by omega)).mono ?_
  rintro e w9 ⟨a3, c3, z3, rfl, S3, N3, v3, l3, hb⟩
  have V3 : Hid (val z3 = val xs * val xs) := v3
  have b3 : z3.length ≤ 40 := by omega
  have hbb : Below w8.heap.size w8 w9 := hA.trans (hb.mono hA.size)
  replace A := A.below hb
  replace B := B.below hb
  replace C := C.below hb
  replace S1 := S1.below hb
  replace S2 := S2.below hb
  replace hB := hB.trans (hbb.mono hB.size)
  clear hb hbb hA  v3 l3
  go_wp2_with (go_at_call 23; refine (ofl_any _ _ _ _).mono ?_; rintro e w' ⟨rfl, rfl⟩)
  have hA := Below.refl w9.heap.size w9
  have hf := check_any S3 (by omega)
  rw [formOf_norm N3] at hf
  refine (hf).mono ?_
  rintro e w10 ⟨rfl, hb⟩
  have hbb : Below w9.heap.size w9 w10 := hA.trans (hb.mono hA.size)
  replace A := A.below hb
  replace B := B.below hb
  replace C := C.below hb
  replace S1 := S1.below hb
  replace S2 := S2.below hb
  replace S3 := S3.below hb
  replace hB := hB.trans (hbb.mono hB.size)
  clear hb hbb hA  hf
  go_wp2_with (go_at_call 23; refine (ofl_any _ _ _ _).mono ?_; rintro e w' ⟨rfl, rfl⟩)
  have hA := Below.refl w10.heap.size w10
  refine (len_at A (by omega) nx HX.out).mono ?_
  rintro e w11 ⟨rfl, hb⟩
  have hbb : Below w10.heap.size w10 w11 := hA.trans (hb.mono hA.size)
  replace A := A.below hb
  replace B := B.below hb
  replace C := C.below hb
  replace S1 := S1.below hb
  replace S2 := S2.below hb
  replace S3 := S3.below hb
  replace hB := hB.trans (hbb.mono hB.size)
  clear hb hbb hA  
  go_wp2_with (go_at_call 23; refine (ofl_any _ _ _ _).mono ?_; rintro e w' ⟨rfl, rfl⟩)
  have hA := Below.refl w11.heap.size w11
  have hc := cmp_any S1 S2 (by omega) (by omega)
  rw [V1.out, V2.out, cmpI_mul hx0.out] at hc
  refine (hc).mono ?_
  rintro e w12 ⟨rfl, hb⟩
  have hbb : Below w11.heap.size w11 w12 := hA.trans (hb.mono hA.size)
  replace A := A.below hb
  replace B := B.below hb
  replace C := C.below hb
  replace S1 := S1.below hb
  replace S2 := S2.below hb
  replace S3 := S3.below hb
  replace hB := hB.trans (hbb.mono hB.size)
  clear hb hbb hA  hc
  go_wp2_with (go_at_call 23; refine (ofl_any _ _ _ _).mono ?_; rintro e w' ⟨rfl, rfl⟩)
  have hA := Below.refl w12.heap.size w12
  refine (cmp_any B C (by omega) (by omega)).mono ?_
  rintro e w13 ⟨rfl, hb⟩
  have hbb : Below w12.heap.size w12 w13 := hA.trans (hb.mono hA.size)
  replace A := A.below hb
  replace B := B.below hb
  replace C := C.below hb
  replace S1 := S1.below hb
  replace S2 := S2.below hb
  replace S3 := S3.below hb
  replace hB := hB.trans (hbb.mono hB.size)
  clear hb hbb hA  
  go_wp2_with (go_at_call 23; refine (ofl_any _ _ _ _).mono ?_; rintro e w' ⟨rfl, rfl⟩)
  have hA := Below.refl w13.heap.size w13
  refine (len_at A (by omega) nx HX.out).mono ?_
  rintro e w14 ⟨rfl, hb⟩
  have hbb : Below w13.heap.size w13 w14 := hA.trans (hb.mono hA.size)
  replace A := A.below hb
  replace B := B.below hb
  replace C := C.below hb
  replace S1 := S1.below hb
  replace S2 := S2.below hb
  replace S3 := S3.below hb
  replace hB := hB.trans (hbb.mono hB.size)
  clear hb hbb hA  
  go_wp2_with (go_at_call 23; refine (ofl_any _ _ _ _).mono ?_; rintro e w' ⟨rfl, rfl⟩)
  have hA := Below.refl w14.heap.size w14
  refine (len_at B (by omega) 0 HY.out).mono ?_
  rintro e w15 ⟨rfl, hb⟩
  have hbb : Below w14.heap.size w14 w15 := hA.trans (hb.mono hA.size)
  replace A := A.below hb
  replace B := B.below hb
  replace C := C.below hb
  replace S1 := S1.below hb
  replace S2 := S2.below hb
  replace S3 := S3.below hb
  replace hB := hB.trans (hbb.mono hB.size)
  clear hb hbb hA  
  go_wp2_with (go_at_call 23; refine (ofl_any _ _ _ _).mono ?_; rintro e w' ⟨rfl, rfl⟩)
  have hA := Below.refl w15.heap.size w15
  refine (len_at S1 (by omega) 0 (by rw [V1.out]; exact HP.out)).mono ?_
  rintro e w16 ⟨rfl, hb⟩
  have hbb : Below w15.heap.size w15 w16 := hA.trans (hb.mono hA.size)
  replace A := A.below hb
  replace B := B.below hb
  replace C := C.below hb
  replace S1 := S1.below hb
  replace S2 := S2.below hb
  replace S3 := S3.below hb
  replace hB := hB.trans (hbb.mono hB.size)
  clear hb hbb hA  
  go_wp2
  go_ret
  exact ⟨rfl, hB⟩

set_option maxRecDepth 100000 in
set_option maxHeartbeats 4000000 in
theorem bits_full {a : Option Addr} {ca : Nat} {xs : List Int} {b : Option Addr} {cb : Nat} {ys : List Int} {c : Option Addr} {cc : Nat} {zs : List Int} {w : World} (A : Seg 0 w (.slice a xs.length ca) xs) (B : Seg 0 w (.slice b ys.length cb) ys) (C : Seg 0 w (.slice c zs.length cc) zs) (hx : xs.length ≤ 20) (hy : ys.length ≤ 20) (hz : zs.length ≤ 20) (nx ny np : Nat) (HX : Hid (blen (val xs) = nx)) (h0x : 0 < nx ∧ nx ≤ 10000) (HY : Hid (blen (val ys) = ny)) (h0y : 0 < ny ∧ ny ≤ 10000) (hx0 : Hid (0 < val xs)) (HP : Hid (blen (val xs * val ys) = np)) (hE : np = nx + ny) :
    Calls Try.prog 7 #[.slice a xs.length ca, .slice b ys.length cb, .slice c zs.length cc] w fun e w' => e = .returned (.bool true) ∧ Below w.heap.size w w' := by
  have q0 := fun w => longNat_any a xs.length ca 20 w
  rw [decide_eq_false (show ¬ (20 : Int) < (xs.length : Int) by omega)] at q0
  have Q0 := hide q0
  have px := val_nonneg A.words
  have q1 := fun w => longNat_any b ys.length cb 20 w
  rw [decide_eq_false (show ¬ (20 : Int) < (ys.length : Int) by omega)] at q1
  have Q1 := hide q1
  have py := val_nonneg B.words
  have q2 := fun w => longNat_any c zs.length cc 20 w
  rw [decide_eq_false (show ¬ (20 : Int) < (zs.length : Int) by omega)] at q2
  have Q2 := hide q2
  have pz := val_nonneg C.words
  clear q0 q1 q2
  have e0 : ((nx : Int) == 0) = false := beq_eq_false_iff_ne.2 (by omega)
  have e1 : ((ny : Int) == 0) = false := beq_eq_false_iff_ne.2 (by omega)
  have e2 : ((np : Int) == (nx : Int) + (ny : Int)) = true := beq_iff_eq.2 (by omega)
  clear hE
  have hB := Below.refl w.heap.size w
  go_enter Try.func7, Try.ntmps7
  go_wp2_with (go_at_call 23; refine (ofl_any _ _ _ _).mono ?_; rintro e w' ⟨rfl, rfl⟩)
  have hA := Below.refl w.heap.size w
  refine (known_any _).mono ?_
  rintro e w1 ⟨rfl, hb⟩
  have hbb : Below w.heap.size w w1 := hA.trans (hb.mono hA.size)
  replace A := A.below hb
  replace B := B.below hb
  replace C := C.below hb
  replace hB := hB.trans (hbb.mono hB.size)
  clear hb hbb hA  
  go_wp2_with (go_at_call 23; refine (ofl_any _ _ _ _).mono ?_; rintro e w' ⟨rfl, rfl⟩)
  have hA := Below.refl w1.heap.size w1
  refine (Q0.out _).mono ?_
  rintro e w2 ⟨rfl, hw⟩
  have hb := hw_below hw
  clear hw
  have hbb : Below w1.heap.size w1 w2 := hA.trans (hb.mono hA.size)
  replace A := A.below hb
  replace B := B.below hb
  replace C := C.below hb
  replace hB := hB.trans (hbb.mono hB.size)
  clear hb hbb hA  
  go_wp2_with (go_at_call 23; refine (ofl_any _ _ _ _).mono ?_; rintro e w' ⟨rfl, rfl⟩)
  have hA := Below.refl w2.heap.size w2
  refine (Q1.out _).mono ?_
  rintro e w3 ⟨rfl, hw⟩
  have hb := hw_below hw
  clear hw
  have hbb : Below w2.heap.size w2 w3 := hA.trans (hb.mono hA.size)
  replace A := A.below hb
  replace B := B.below hb
  replace C := C.below hb
  replace hB := hB.trans (hbb.mono hB.size)
  clear hb hbb hA  
  go_wp2_with (go_at_call 23; refine (ofl_any _ _ _ _).mono ?_; rintro e w' ⟨rfl, rfl⟩)
  have hA := Below.refl w3.heap.size w3
  refine (Q2.out _).mono ?_
  rintro e w4 ⟨rfl, hw⟩
  have hb := hw_below hw
  clear hw
  have hbb : Below w3.heap.size w3 w4 := hA.trans (hb.mono hA.size)
  replace A := A.below hb
  replace B := B.below hb
  replace C := C.below hb
  replace hB := hB.trans (hbb.mono hB.size)
  clear hb hbb hA  
  go_wp2_with (go_at_call 23; refine (ofl_any _ _ _ _).mono ?_; rintro e w' ⟨rfl, rfl⟩)
  have hA := Below.refl w4.heap.size w4
  refine (mul_any A B (by omega) (by omega)).mono ?_
  rintro e w5 ⟨a1, c1, z1, rfl, S1, N1, v1, l1, hb⟩
  have V1 : Hid (val z1 = val xs * val ys) := v1
  have b1 : z1.length ≤ 40 := by omega
  have hbb : Below w4.heap.size w4 w5 := hA.trans (hb.mono hA.size)
  replace A := A.below hb
  replace B := B.below hb
  replace C := C.below hb
  replace hB := hB.trans (hbb.mono hB.size)
  clear hb hbb hA  v1 l1
  go_wp2_with (go_at_call 23; refine (ofl_any _ _ _ _).mono ?_; rintro e w' ⟨rfl, rfl⟩)
  have hA := Below.refl w5.heap.size w5
  refine (mul_any A C (by omega) (by omega)).mono ?_
  rintro e w6 ⟨a2, c2, z2, rfl, S2, N2, v2, l2, hb⟩
  have V2 : Hid (val z2 = val xs * val zs) := v2
  have b2 : z2.length ≤ 40 := by omega
  have hbb : Below w5.heap.size w5 w6 := hA.trans (hb.mono hA.size)
  replace A := A.below hb
  replace B := B.below hb
  replace C := C.below hb
  replace S1 := S1.below hb
  replace hB := hB.trans (hbb.mono hB.size)
  clear hb hbb hA  v2 l2
  go_wp2_with (go_at_call 23; refine (ofl_any _ _ _ _).mono ?_; rintro e w' ⟨rfl, rfl⟩)
  have hA := Below.refl w6.heap.size w6
  have hf := check_any S1 (by omega)
  rw [formOf_norm N1] at hf
  refine (hf).mono ?_
  rintro e w7 ⟨rfl, hb⟩
  have hbb : Below w6.heap.size w6 w7 := hA.trans (hb.mono hA.size)
  replace A := A.below hb
  replace B := B.below hb
  replace C := C.below hb
  replace S1 := S1.below hb
  replace S2 := S2.below hb
  replace hB := hB.trans (hbb.mono hB.size)
  clear hb hbb hA  hf
  go_wp2_with (go_at_call 23; refine (ofl_any _ _ _ _).mono ?_; rintro e w' ⟨rfl, rfl⟩)
  have hA := Below.refl w7.heap.size w7
  have hf := check_any S2 (by omega)
  rw [formOf_norm N2] at hf
  refine (hf).mono ?_
  rintro e w8 ⟨rfl, hb⟩
  have hbb : Below w7.heap.size w7 w8 := hA.trans (hb.mono hA.size)
  replace A := A.below hb
  replace B := B.below hb
  replace C := C.below hb
  replace S1 := S1.below hb
  replace S2 := S2.below hb
  replace hB := hB.trans (hbb.mono hB.size)
  clear hb hbb hA  hf
  go_wp2_with (go_at_call 23; refine (ofl_any _ _ _ _).mono ?_; rintro e w' ⟨rfl, rfl⟩)
  have hA := Below.refl w8.heap.size w8
  refine (square_any A (by omega)).mono ?_
  rintro e w9 ⟨a3, c3, z3, rfl, S3, N3, v3, l3, hb⟩
  have V3 : Hid (val z3 = val xs * val xs) := v3
  have b3 : z3.length ≤ 40 := by omega
  have hbb : Below w8.heap.size w8 w9 := hA.trans (hb.mono hA.size)
  replace A := A.below hb
  replace B := B.below hb
  replace C := C.below hb
  replace S1 := S1.below hb
  replace S2 := S2.below hb
  replace hB := hB.trans (hbb.mono hB.size)
  clear hb hbb hA  v3 l3
  go_wp2_with (go_at_call 23; refine (ofl_any _ _ _ _).mono ?_; rintro e w' ⟨rfl, rfl⟩)
  have hA := Below.refl w9.heap.size w9
  have hf := check_any S3 (by omega)
  rw [formOf_norm N3] at hf
  refine (hf).mono ?_
  rintro e w10 ⟨rfl, hb⟩
  have hbb : Below w9.heap.size w9 w10 := hA.trans (hb.mono hA.size)
  replace A := A.below hb
  replace B := B.below hb
  replace C := C.below hb
  replace S1 := S1.below hb
  replace S2 := S2.below hb
  replace S3 := S3.below hb
  replace hB := hB.trans (hbb.mono hB.size)
  clear hb hbb hA  hf
  go_wp2_with (go_at_call 23; refine (ofl_any _ _ _ _).mono ?_; rintro e w' ⟨rfl, rfl⟩)
  have hA := Below.refl w10.heap.size w10
  refine (len_at A (by omega) nx HX.out).mono ?_
  rintro e w11 ⟨rfl, hb⟩
  have hbb : Below w10.heap.size w10 w11 := hA.trans (hb.mono hA.size)
  replace A := A.below hb
  replace B := B.below hb
  replace C := C.below hb
  replace S1 := S1.below hb
  replace S2 := S2.below hb
  replace S3 := S3.below hb
  replace hB := hB.trans (hbb.mono hB.size)
  clear hb hbb hA  
  go_wp2_with (go_at_call 23; refine (ofl_any _ _ _ _).mono ?_; rintro e w' ⟨rfl, rfl⟩)
  have hA := Below.refl w11.heap.size w11
  have hc := cmp_any S1 S2 (by omega) (by omega)
  rw [V1.out, V2.out, cmpI_mul hx0.out] at hc
  refine (hc).mono ?_
  rintro e w12 ⟨rfl, hb⟩
  have hbb : Below w11.heap.size w11 w12 := hA.trans (hb.mono hA.size)
  replace A := A.below hb
  replace B := B.below hb
  replace C := C.below hb
  replace S1 := S1.below hb
  replace S2 := S2.below hb
  replace S3 := S3.below hb
  replace hB := hB.trans (hbb.mono hB.size)
  clear hb hbb hA  hc
  go_wp2_with (go_at_call 23; refine (ofl_any _ _ _ _).mono ?_; rintro e w' ⟨rfl, rfl⟩)
  have hA := Below.refl w12.heap.size w12
  refine (cmp_any B C (by omega) (by omega)).mono ?_
  rintro e w13 ⟨rfl, hb⟩
  have hbb : Below w12.heap.size w12 w13 := hA.trans (hb.mono hA.size)
  replace A := A.below hb
  replace B := B.below hb
  replace C := C.below hb
  replace S1 := S1.below hb
  replace S2 := S2.below hb
  replace S3 := S3.below hb
  replace hB := hB.trans (hbb.mono hB.size)
  clear hb hbb hA  
  go_wp2_with (go_at_call 23; refine (ofl_any _ _ _ _).mono ?_; rintro e w' ⟨rfl, rfl⟩)
  have hA := Below.refl w13.heap.size w13
  refine (len_at A (by omega) nx HX.out).mono ?_
  rintro e w14 ⟨rfl, hb⟩
  have hbb : Below w13.heap.size w13 w14 := hA.trans (hb.mono hA.size)
  replace A := A.below hb
  replace B := B.below hb
  replace C := C.below hb
  replace S1 := S1.below hb
  replace S2 := S2.below hb
  replace S3 := S3.below hb
  replace hB := hB.trans (hbb.mono hB.size)
  clear hb hbb hA  
  go_wp2_with (go_at_call 23; refine (ofl_any _ _ _ _).mono ?_; rintro e w' ⟨rfl, rfl⟩)
  have hA := Below.refl w14.heap.size w14
  refine (len_at B (by omega) ny HY.out).mono ?_
  rintro e w15 ⟨rfl, hb⟩
  have hbb : Below w14.heap.size w14 w15 := hA.trans (hb.mono hA.size)
  replace A := A.below hb
  replace B := B.below hb
  replace C := C.below hb
  replace S1 := S1.below hb
  replace S2 := S2.below hb
  replace S3 := S3.below hb
  replace hB := hB.trans (hbb.mono hB.size)
  clear hb hbb hA  
  go_wp2_with (go_at_call 23; refine (ofl_any _ _ _ _).mono ?_; rintro e w' ⟨rfl, rfl⟩)
  have hA := Below.refl w15.heap.size w15
  refine (len_at A (by omega) nx HX.out).mono ?_
  rintro e w16 ⟨rfl, hb⟩
  have hbb : Below w15.heap.size w15 w16 := hA.trans (hb.mono hA.size)
  replace A := A.below hb
  replace B := B.below hb
  replace C := C.below hb
  replace S1 := S1.below hb
  replace S2 := S2.below hb
  replace S3 := S3.below hb
  replace hB := hB.trans (hbb.mono hB.size)
  clear hb hbb hA  
  go_wp2_with (go_at_call 23; refine (ofl_any _ _ _ _).mono ?_; rintro e w' ⟨rfl, rfl⟩)
  have hA := Below.refl w16.heap.size w16
  refine (len_at B (by omega) ny HY.out).mono ?_
  rintro e w17 ⟨rfl, hb⟩
  have hbb : Below w16.heap.size w16 w17 := hA.trans (hb.mono hA.size)
  replace A := A.below hb
  replace B := B.below hb
  replace C := C.below hb
  replace S1 := S1.below hb
  replace S2 := S2.below hb
  replace S3 := S3.below hb
  replace hB := hB.trans (hbb.mono hB.size)
  clear hb hbb hA  
  go_wp2_with (go_at_call 23; refine (ofl_any _ _ _ _).mono ?_; rintro e w' ⟨rfl, rfl⟩)
  have hA := Below.refl w17.heap.size w17
  refine (len_at S1 (by omega) np (by rw [V1.out]; exact HP.out)).mono ?_
  rintro e w18 ⟨rfl, hb⟩
  have hbb : Below w17.heap.size w17 w18 := hA.trans (hb.mono hA.size)
  replace A := A.below hb
  replace B := B.below hb
  replace C := C.below hb
  replace S1 := S1.below hb
  replace S2 := S2.below hb
  replace S3 := S3.below hb
  replace hB := hB.trans (hbb.mono hB.size)
  clear hb hbb hA  
  go_wp2
  go_ret
  exact ⟨rfl, hB⟩

set_option maxRecDepth 100000 in
set_option maxHeartbeats 4000000 in
theorem bits_less {a : Option Addr} {ca : Nat} {xs : List Int} {b : Option Addr} {cb : Nat} {ys : List Int} {c : Option Addr} {cc : Nat} {zs : List Int} {w : World} (A : Seg 0 w (.slice a xs.length ca) xs) (B : Seg 0 w (.slice b ys.length cb) ys) (C : Seg 0 w (.slice c zs.length cc) zs) (hx : xs.length ≤ 20) (hy : ys.length ≤ 20) (hz : zs.length ≤ 20) (nx ny np : Nat) (HX : Hid (blen (val xs) = nx)) (h0x : 0 < nx ∧ nx ≤ 10000) (HY : Hid (blen (val ys) = ny)) (h0y : 0 < ny ∧ ny ≤ 10000) (hx0 : Hid (0 < val xs)) (HP : Hid (blen (val xs * val ys) = np)) (hE : np + 1 = nx + ny) :
    Calls Try.prog 7 #[.slice a xs.length ca, .slice b ys.length cb, .slice c zs.length cc] w fun e w' => e = .returned (.bool true) ∧ Below w.heap.size w w' := by
  have q0 := fun w => longNat_any a xs.length ca 20 w
  rw [decide_eq_false (show ¬ (20 : Int) < (xs.length : Int) by omega)] at q0
  have Q0 := hide q0
  have px := val_nonneg A.words
  have q1 := fun w => longNat_any b ys.length cb 20 w
  rw [decide_eq_false (show ¬ (20 : Int) < (ys.length : Int) by omega)] at q1
  have Q1 := hide q1
  have py := val_nonneg B.words
  have q2 := fun w => longNat_any c zs.length cc 20 w
  rw [decide_eq_false (show ¬ (20 : Int) < (zs.length : Int) by omega)] at q2
  have Q2 := hide q2
  have pz := val_nonneg C.words
  clear q0 q1 q2
  have e0 : ((nx : Int) == 0) = false := beq_eq_false_iff_ne.2 (by omega)
  have e1 : ((ny : Int) == 0) = false := beq_eq_false_iff_ne.2 (by omega)
  have e2 : ((np : Int) == (nx : Int) + (ny : Int)) = false := beq_eq_false_iff_ne.2 (by omega)
  have e3 : ((np : Int) == (nx : Int) + (ny : Int) - 1) = true := beq_iff_eq.2 (by omega)
  clear hE
  have hB := Below.refl w.heap.size w
  go_enter Try.func7, Try.ntmps7
  go_wp2_with (go_at_call 23; refine (ofl_any _ _ _ _).mono ?_; rintro e w' ⟨rfl, rfl⟩)
  have hA := Below.refl w.heap.size w
  refine (known_any _).mono ?_
  rintro e w1 ⟨rfl, hb⟩
  have hbb : Below w.heap.size w w1 := hA.trans (hb.mono hA.size)
  replace A := A.below hb
  replace B := B.below hb
  replace C := C.below hb
  replace hB := hB.trans (hbb.mono hB.size)
  clear hb hbb hA  
  go_wp2_with (go_at_call 23; refine (ofl_any _ _ _ _).mono ?_; rintro e w' ⟨rfl, rfl⟩)
  have hA := Below.refl w1.heap.size w1
  refine (Q0.out _).mono ?_
  rintro e w2 ⟨rfl, hw⟩
  have hb := hw_below hw
  clear hw
  have hbb : Below w1.heap.size w1 w2 := hA.trans (hb.mono hA.size)
  replace A := A.below hb
  replace B := B.below hb
  replace C := C.below hb
  replace hB := hB.trans (hbb.mono hB.size)
  clear hb hbb hA  
  go_wp2_with (go_at_call 23; refine (ofl_any _ _ _ _).mono ?_; rintro e w' ⟨rfl, rfl⟩)
  have hA := Below.refl w2.heap.size w2
  refine (Q1.out _).mono ?_
  rintro e w3 ⟨rfl, hw⟩
  have hb := hw_below hw
  clear hw
  have hbb : Below w2.heap.size w2 w3 := hA.trans (hb.mono hA.size)
  replace A := A.below hb
  replace B := B.below hb
  replace C := C.below hb
  replace hB := hB.trans (hbb.mono hB.size)
  clear hb hbb hA  
  go_wp2_with (go_at_call 23; refine (ofl_any _ _ _ _).mono ?_; rintro e w' ⟨rfl, rfl⟩)
  have hA := Below.refl w3.heap.size w3
  refine (Q2.out _).mono ?_
  rintro e w4 ⟨rfl, hw⟩
  have hb := hw_below hw
  clear hw
  have hbb : Below w3.heap.size w3 w4 := hA.trans (hb.mono hA.size)
  replace A := A.below hb
  replace B := B.below hb
  replace C := C.below hb
  replace hB := hB.trans (hbb.mono hB.size)
  clear hb hbb hA  
  go_wp2_with (go_at_call 23; refine (ofl_any _ _ _ _).mono ?_; rintro e w' ⟨rfl, rfl⟩)
  have hA := Below.refl w4.heap.size w4
  refine (mul_any A B (by omega) (by omega)).mono ?_
  rintro e w5 ⟨a1, c1, z1, rfl, S1, N1, v1, l1, hb⟩
  have V1 : Hid (val z1 = val xs * val ys) := v1
  have b1 : z1.length ≤ 40 := by omega
  have hbb : Below w4.heap.size w4 w5 := hA.trans (hb.mono hA.size)
  replace A := A.below hb
  replace B := B.below hb
  replace C := C.below hb
  replace hB := hB.trans (hbb.mono hB.size)
  clear hb hbb hA  v1 l1
  go_wp2_with (go_at_call 23; refine (ofl_any _ _ _ _).mono ?_; rintro e w' ⟨rfl, rfl⟩)
  have hA := Below.refl w5.heap.size w5
  refine (mul_any A C (by omega) (by omega)).mono ?_
  rintro e w6 ⟨a2, c2, z2, rfl, S2, N2, v2, l2, hb⟩
  have V2 : Hid (val z2 = val xs * val zs) := v2
  have b2 : z2.length ≤ 40 := by omega
  have hbb : Below w5.heap.size w5 w6 := hA.trans (hb.mono hA.size)
  replace A := A.below hb
  replace B := B.below hb
  replace C := C.below hb
  replace S1 := S1.below hb
  replace hB := hB.trans (hbb.mono hB.size)
  clear hb hbb hA  v2 l2
  go_wp2_with (go_at_call 23; refine (ofl_any _ _ _ _).mono ?_; rintro e w' ⟨rfl, rfl⟩)
  have hA := Below.refl w6.heap.size w6
  have hf := check_any S1 (by omega)
  rw [formOf_norm N1] at hf
  refine (hf).mono ?_
  rintro e w7 ⟨rfl, hb⟩
  have hbb : Below w6.heap.size w6 w7 := hA.trans (hb.mono hA.size)
  replace A := A.below hb
  replace B := B.below hb
  replace C := C.below hb
  replace S1 := S1.below hb
  replace S2 := S2.below hb
  replace hB := hB.trans (hbb.mono hB.size)
  clear hb hbb hA  hf
  go_wp2_with (go_at_call 23; refine (ofl_any _ _ _ _).mono ?_; rintro e w' ⟨rfl, rfl⟩)
  have hA := Below.refl w7.heap.size w7
  have hf := check_any S2 (by omega)
  rw [formOf_norm N2] at hf
  refine (hf).mono ?_
  rintro e w8 ⟨rfl, hb⟩
  have hbb : Below w7.heap.size w7 w8 := hA.trans (hb.mono hA.size)
  replace A := A.below hb
  replace B := B.below hb
  replace C := C.below hb
  replace S1 := S1.below hb
  replace S2 := S2.below hb
  replace hB := hB.trans (hbb.mono hB.size)
  clear hb hbb hA  hf
  go_wp2_with (go_at_call 23; refine (ofl_any _ _ _ _).mono ?_; rintro e w' ⟨rfl, rfl⟩)
  have hA := Below.refl w8.heap.size w8
  refine (square_any A (by omega)).mono ?_
  rintro e w9 ⟨a3, c3, z3, rfl, S3, N3, v3, l3, hb⟩
  have V3 : Hid (val z3 = val xs * val xs) := v3
  have b3 : z3.length ≤ 40 := by omega
  have hbb : Below w8.heap.size w8 w9 := hA.trans (hb.mono hA.size)
  replace A := A.below hb
  replace B := B.below hb
  replace C := C.below hb
  replace S1 := S1.below hb
  replace S2 := S2.below hb
  replace hB := hB.trans (hbb.mono hB.size)
  clear hb hbb hA  v3 l3
  go_wp2_with (go_at_call 23; refine (ofl_any _ _ _ _).mono ?_; rintro e w' ⟨rfl, rfl⟩)
  have hA := Below.refl w9.heap.size w9
  have hf := check_any S3 (by omega)
  rw [formOf_norm N3] at hf
  refine (hf).mono ?_
  rintro e w10 ⟨rfl, hb⟩
  have hbb : Below w9.heap.size w9 w10 := hA.trans (hb.mono hA.size)
  replace A := A.below hb
  replace B := B.below hb
  replace C := C.below hb
  replace S1 := S1.below hb
  replace S2 := S2.below hb
  replace S3 := S3.below hb
  replace hB := hB.trans (hbb.mono hB.size)
  clear hb hbb hA  hf
  go_wp2_with (go_at_call 23; refine (ofl_any _ _ _ _).mono ?_; rintro e w' ⟨rfl, rfl⟩)
  have hA := Below.refl w10.heap.size w10
  refine (len_at A (by omega) nx HX.out).mono ?_
  rintro e w11 ⟨rfl, hb⟩
  have hbb : Below w10.heap.size w10 w11 := hA.trans (hb.mono hA.size)
  replace A := A.below hb
  replace B := B.below hb
  replace C := C.below hb
  replace S1 := S1.below hb
  replace S2 := S2.below hb
  replace S3 := S3.below hb
  replace hB := hB.trans (hbb.mono hB.size)
  clear hb hbb hA  
  go_wp2_with (go_at_call 23; refine (ofl_any _ _ _ _).mono ?_; rintro e w' ⟨rfl, rfl⟩)
  have hA := Below.refl w11.heap.size w11
  have hc := cmp_any S1 S2 (by omega) (by omega)
  rw [V1.out, V2.out, cmpI_mul hx0.out] at hc
  refine (hc).mono ?_
  rintro e w12 ⟨rfl, hb⟩
  have hbb : Below w11.heap.size w11 w12 := hA.trans (hb.mono hA.size)
  replace A := A.below hb
  replace B := B.below hb
  replace C := C.below hb
  replace S1 := S1.below hb
  replace S2 := S2.below hb
  replace S3 := S3.below hb
  replace hB := hB.trans (hbb.mono hB.size)
  clear hb hbb hA  hc
  go_wp2_with (go_at_call 23; refine (ofl_any _ _ _ _).mono ?_; rintro e w' ⟨rfl, rfl⟩)
  have hA := Below.refl w12.heap.size w12
  refine (cmp_any B C (by omega) (by omega)).mono ?_
  rintro e w13 ⟨rfl, hb⟩
  have hbb : Below w12.heap.size w12 w13 := hA.trans (hb.mono hA.size)
  replace A := A.below hb
  replace B := B.below hb
  replace C := C.below hb
  replace S1 := S1.below hb
  replace S2 := S2.below hb
  replace S3 := S3.below hb
  replace hB := hB.trans (hbb.mono hB.size)
  clear hb hbb hA  
  go_wp2_with (go_at_call 23; refine (ofl_any _ _ _ _).mono ?_; rintro e w' ⟨rfl, rfl⟩)
  have hA := Below.refl w13.heap.size w13
  refine (len_at A (by omega) nx HX.out).mono ?_
  rintro e w14 ⟨rfl, hb⟩
  have hbb : Below w13.heap.size w13 w14 := hA.trans (hb.mono hA.size)
  replace A := A.below hb
  replace B := B.below hb
  replace C := C.below hb
  replace S1 := S1.below hb
  replace S2 := S2.below hb
  replace S3 := S3.below hb
  replace hB := hB.trans (hbb.mono hB.size)
  clear hb hbb hA  
  go_wp2_with (go_at_call 23; refine (ofl_any _ _ _ _).mono ?_; rintro e w' ⟨rfl, rfl⟩)
  have hA := Below.refl w14.heap.size w14
  refine (len_at B (by omega) ny HY.out).mono ?_
  rintro e w15 ⟨rfl, hb⟩
  have hbb : Below w14.heap.size w14 w15 := hA.trans (hb.mono hA.size)
  replace A := A.below hb
  replace B := B.below hb
  replace C := C.below hb
  replace S1 := S1.below hb
  replace S2 := S2.below hb
  replace S3 := S3.below hb
  replace hB := hB.trans (hbb.mono hB.size)
  clear hb hbb hA  
  go_wp2_with (go_at_call 23; refine (ofl_any _ _ _ _).mono ?_; rintro e w' ⟨rfl, rfl⟩)
  have hA := Below.refl w15.heap.size w15
  refine (len_at A (by omega) nx HX.out).mono ?_
  rintro e w16 ⟨rfl, hb⟩
  have hbb : Below w15.heap.size w15 w16 := hA.trans (hb.mono hA.size)
  replace A := A.below hb
  replace B := B.below hb
  replace C := C.below hb
  replace S1 := S1.below hb
  replace S2 := S2.below hb
  replace S3 := S3.below hb
  replace hB := hB.trans (hbb.mono hB.size)
  clear hb hbb hA  
  go_wp2_with (go_at_call 23; refine (ofl_any _ _ _ _).mono ?_; rintro e w' ⟨rfl, rfl⟩)
  have hA := Below.refl w16.heap.size w16
  refine (len_at B (by omega) ny HY.out).mono ?_
  rintro e w17 ⟨rfl, hb⟩
  have hbb : Below w16.heap.size w16 w17 := hA.trans (hb.mono hA.size)
  replace A := A.below hb
  replace B := B.below hb
  replace C := C.below hb
  replace S1 := S1.below hb
  replace S2 := S2.below hb
  replace S3 := S3.below hb
  replace hB := hB.trans (hbb.mono hB.size)
  clear hb hbb hA  
  go_wp2_with (go_at_call 23; refine (ofl_any _ _ _ _).mono ?_; rintro e w' ⟨rfl, rfl⟩)
  have hA := Below.refl w17.heap.size w17
  refine (len_at S1 (by omega) np (by rw [V1.out]; exact HP.out)).mono ?_
  rintro e w18 ⟨rfl, hb⟩
  have hbb : Below w17.heap.size w17 w18 := hA.trans (hb.mono hA.size)
  replace A := A.below hb
  replace B := B.below hb
  replace C := C.below hb
  replace S1 := S1.below hb
  replace S2 := S2.below hb
  replace S3 := S3.below hb
  replace hB := hB.trans (hbb.mono hB.size)
  clear hb hbb hA  
  go_wp2_with (go_at_call 23; refine (ofl_any _ _ _ _).mono ?_; rintro e w' ⟨rfl, rfl⟩)
  have hA := Below.refl w18.heap.size w18
  refine (len_at S1 (by omega) np (by rw [V1.out]; exact HP.out)).mono ?_
  rintro e w19 ⟨rfl, hb⟩
  have hbb : Below w18.heap.size w18 w19 := hA.trans (hb.mono hA.size)
  replace A := A.below hb
  replace B := B.below hb
  replace C := C.below hb
  replace S1 := S1.below hb
  replace S2 := S2.below hb
  replace S3 := S3.below hb
  replace hB := hB.trans (hbb.mono hB.size)
  clear hb hbb hA  
  go_wp2
  go_ret
  exact ⟨rfl, hB⟩

theorem bits_any {a b c : Option Addr} {la ca lb cb lc cc : Nat} {xs ys zs : List Int} {w : World} (A : Seg 0 w (.slice a la ca) xs) (B : Seg 0 w (.slice b lb cb) ys) (C : Seg 0 w (.slice c lc cc) zs) :
    Calls Try.prog 7 #[.slice a la ca, .slice b lb cb, .slice c lc cc] w fun e w' => e = .returned (.bool true) ∧ Below w.heap.size w w' := by
  by_cases h : 20 < la ∨ 20 < lb ∨ 20 < lc
  · exact bits_long a la ca b lb cb c lc cc w h
  · obtain ⟨rfl, _⟩ := A.len
    obtain ⟨rfl, _⟩ := B.len
    obtain ⟨rfl, _⟩ := C.len
    have px := val_nonneg A.words
    have py := val_nonneg B.words
    have lx := blen_words_le A.words
    have ly := blen_words_le B.words
    by_cases hx : val xs = 0
    · exact bits_zero A B C (by omega) (by omega) (by omega) (by rw [Hid, hx]; rfl) (by rw [Hid, hx, Int.zero_mul]; rfl)
    · have hx0 : 0 < val xs := by omega
      have bx := blen_pos hx0
      by_cases hy : val ys = 0
      · exact bits_none A B C (by omega) (by omega) (by omega) _ rfl (by omega) (by rw [Hid, hy]; rfl) hx0 (by rw [Hid, hy, Int.mul_zero]; rfl)
      · have hy0 : 0 < val ys := by omega
        have by' := blen_pos hy0
        rcases blen_mul hx0 hy0 with e | e
        · exact bits_full A B C (by omega) (by omega) (by omega) _ _ _ rfl (by omega) rfl (by omega) hx0 rfl e
        · exact bits_less A B C (by omega) (by omega) (by omega) _ _ _ rfl (by omega) rfl (by omega) hx0 rfl e
#print axioms bits_any
end Go.Proofs.Ytmgngkmdfccjaaa
