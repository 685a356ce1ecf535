/-
  The walk of QuotDivides.
-/
import Derived.Test.YtfdlhjnnbhfapaaQBack
namespace Go.Proofs.Ytfdlhjnnbhfapaa
open Go.RowKit

theorem remz_len {ys rs : List Int} {a : Int} (hy : Words ys) (hr : Words rs) (nr : Norm rs) (e : val rs = remZ a (val ys)) : rs.length ≤ ys.length := by
  by_cases h : val ys = 0
  · rw [h, remZ_zero] at e
    obtain rfl : rs = [] := norm_unique hr Words.nil nr norm_nil (by rw [e, val_nil])
    exact Nat.zero_le _
  · have hp : 0 < val ys := by have := val_nonneg hy; omega
    rw [remZ_pos _ hp] at e
    exact emod_len hy hr nr hp e

set_option maxRecDepth 100000 in
set_option maxHeartbeats 1000000 in
/-- Where a list is long. -/
theorem divides_long (a b : Option Addr) (la ca lb cb : Nat) (x : Int) (w : World) (h : 24 < la ∨ 24 < lb) :
    Calls Try.prog 3 #[.slice a la ca, .slice b lb cb, .int .u64 x] w fun e w' => e = .returned (.bool true) ∧ Below w.heap.size w w' := by
  have l1 := fun w => qlong_any a b la ca lb cb w
  rw [decide_eq_true h] at l1
  clear h
  have L1 := hide l1
  clear l1
  go_enter Try.func3, Try.ntmps3
  go_wp2_with fail
  refine (L1.out _).mono ?_
  rintro e w2 ⟨rfl, rfl⟩
  go_wp2_with fail
  refine (awake_any _).mono ?_
  rintro e w3 ⟨rfl, hb3⟩
  go_wp2
  go_ret
  exact ⟨rfl, hb3⟩

set_option maxRecDepth 100000 in
set_option maxHeartbeats 4000000 in
theorem divides_short {a b : Option Addr} {ca cb : Nat} {xs ys : List Int} {w : World} (A : Seg 0 w (.slice a xs.length ca) xs) (B : Seg 0 w (.slice b ys.length cb) ys) (hx : xs.length ≤ 24) (hy : ys.length ≤ 24) (x : Int) (hx' : 0 ≤ x ∧ x < 18446744073709551616) :
    Calls Try.prog 3 #[.slice a xs.length ca, .slice b ys.length cb, .int .u64 x] w fun e w' => e = .returned (.bool true) ∧ Below w.heap.size w w' := by
  have l1 := fun w => qlong_any a b xs.length ca ys.length cb w
  rw [decide_eq_false (show ¬ (24 < xs.length ∨ 24 < ys.length) by omega)] at l1
  have L1 := hide l1
  clear l1
  have wx := A.words
  have wy := B.words
  have hB := Below.refl w.heap.size w
  go_enter Try.func3, Try.ntmps3
  go_wp2_with fail
  have hA := Below.refl w.heap.size w
  refine (L1.out _).mono ?_
  rintro e w1 ⟨rfl, hw⟩
  have hb := hw_below hw
  clear hw
  have hbb : Below w.heap.size w w1 := hA.trans (hb.mono hA.size)
  replace A := A.below hb
  replace B := B.below hb
  have z1 := hbb.size
  replace hB := hB.trans (hbb.mono hB.size)
  clear hb hbb hA  
  go_wp2_with fail
  have hA := Below.refl w1.heap.size w1
  refine (copy_any A (by omega)).mono ?_
  rintro e w2 ⟨ai, ci, rfl, I, hb⟩
  have hbb : Below w1.heap.size w1 w2 := hA.trans (hb.mono hA.size)
  replace A := A.below hb
  replace B := B.below hb
  have z2 := hbb.size
  replace hB := hB.trans (hbb.mono hB.size)
  clear hb hbb hA  
  go_wp2_with fail
  have hA := Below.refl w2.heap.size w2
  refine (copy_any B (by omega)).mono ?_
  rintro e w3 ⟨aj, cj, rfl, J, hb⟩
  have hbb : Below w2.heap.size w2 w3 := hA.trans (hb.mono hA.size)
  replace A := A.below hb
  replace B := B.below hb
  replace I := I.below hb
  have z3 := hbb.size
  replace hB := hB.trans (hbb.mono hB.size)
  clear hb hbb hA  
  have A3 := A
  have B3 := B
  have I3 := I
  have J3 := J
  have h3 := Below.refl w3.heap.size w3
  go_wp2_with fail
  have hA := Below.refl w3.heap.size w3
  refine (qdiv_all I J (by omega) (by omega)).mono ?_
  rintro e w4 ⟨a1, a2, c1, c2, z1, z2, rfl, S1, S2, N1, N2, v1, v2, AP, hb⟩
  have V1 : Hid (val z1 = val xs / val ys) := v1
  have V2 : Hid (val z2 = remZ (val xs) (val ys)) := v2
  have b1 : z1.length ≤ 24 := Nat.le_trans (ediv_len wx S1.words N1 v1) hx
  have b2 : z2.length ≤ 24 := Nat.le_trans (remz_len wy S2.words N2 v2) hy
  have hbb : Below w3.heap.size w3 w4 := hA.trans (hb.mono hA.size)
  replace A := A.below hb
  replace B := B.below hb
  replace I := I.below hb
  replace J := J.below hb
  have z4 := hbb.size
  replace hB := hB.trans (hbb.mono hB.size)
  replace h3 := h3.trans (hbb.mono h3.size)
  clear hb hbb hA  v1 v2
  have R1 := S1.block
  have R2 := S2.block
  go_wp2_with fail
  have hA := Below.refl w4.heap.size w4
  refine (rdiv_all A B (by omega) (by omega)).mono ?_
  rintro e w5 ⟨a3, a4, c3, c4, z3, z4, rfl, S3, S4, N3, N4, v3, v4, hb⟩
  have V3 : Hid (val z3 = val xs / val ys) := v3
  have V4 : Hid (val z4 = remZ (val xs) (val ys)) := v4
  have b3 : z3.length ≤ 24 := Nat.le_trans (ediv_len wx S3.words N3 v3) hx
  have b4 : z4.length ≤ 24 := Nat.le_trans (remz_len wy S4.words N4 v4) hy
  have hbb : Below w4.heap.size w4 w5 := hA.trans (hb.mono hA.size)
  replace A := A.below hb
  replace B := B.below hb
  replace I := I.below hb
  replace J := J.below hb
  replace S1 := S1.below hb
  replace S2 := S2.below hb
  have z5 := hbb.size
  replace hB := hB.trans (hbb.mono hB.size)
  replace h3 := h3.trans (hbb.mono h3.size)
  clear hb hbb hA  v3 v4
  go_wp2_with fail
  have hA := Below.refl w5.heap.size w5
  refine (qpart_all I (by omega) x hx').mono ?_
  rintro e w6 ⟨a5, c5, z5, rfl, S5, N5, v5, hb⟩
  have V5 : Hid (val z5 = val xs / x) := v5
  have b5 : z5.length ≤ 24 := Nat.le_trans (ediv_len wx S5.words N5 v5) hx
  have hbb : Below w5.heap.size w5 w6 := hA.trans (hb.mono hA.size)
  replace A := A.below hb
  replace B := B.below hb
  replace I := I.below hb
  replace J := J.below hb
  replace S1 := S1.below hb
  replace S2 := S2.below hb
  replace S3 := S3.below hb
  replace S4 := S4.below hb
  have z6 := hbb.size
  replace hB := hB.trans (hbb.mono hB.size)
  replace h3 := h3.trans (hbb.mono h3.size)
  clear hb hbb hA  v5
  go_wp2_with fail
  have hA := Below.refl w6.heap.size w6
  refine (rpart_all A (by omega) x hx').mono ?_
  rintro e w7 ⟨a6, c6, z6, rfl, S6, N6, v6, hb⟩
  have V6 : Hid (val z6 = val xs / x) := v6
  have b6 : z6.length ≤ 24 := Nat.le_trans (ediv_len wx S6.words N6 v6) hx
  have hbb : Below w6.heap.size w6 w7 := hA.trans (hb.mono hA.size)
  replace A := A.below hb
  replace B := B.below hb
  replace I := I.below hb
  replace J := J.below hb
  replace S1 := S1.below hb
  replace S2 := S2.below hb
  replace S3 := S3.below hb
  replace S4 := S4.below hb
  replace S5 := S5.below hb
  have z7 := hbb.size
  replace hB := hB.trans (hbb.mono hB.size)
  replace h3 := h3.trans (hbb.mono h3.size)
  clear hb hbb hA  v6
  go_wp2_with fail
  have hA := Below.refl w7.heap.size w7
  refine (same_len S1 S3 (norm_unique S1.words S3.words N1 N3 (by rw [V1.out, V3.out])) (by omega)).mono ?_
  rintro e w8 ⟨rfl, hb⟩
  have hbb : Below w7.heap.size w7 w8 := hA.trans (hb.mono hA.size)
  replace A := A.below hb
  replace B := B.below hb
  replace I := I.below hb
  replace J := J.below hb
  replace S1 := S1.below hb
  replace S2 := S2.below hb
  replace S3 := S3.below hb
  replace S4 := S4.below hb
  replace S5 := S5.below hb
  replace S6 := S6.below hb
  have z8 := hbb.size
  replace hB := hB.trans (hbb.mono hB.size)
  replace h3 := h3.trans (hbb.mono h3.size)
  clear hb hbb hA  
  go_wp2_with fail
  have hA := Below.refl w8.heap.size w8
  refine (same_len S2 S4 (norm_unique S2.words S4.words N2 N4 (by rw [V2.out, V4.out])) (by omega)).mono ?_
  rintro e w9 ⟨rfl, hb⟩
  have hbb : Below w8.heap.size w8 w9 := hA.trans (hb.mono hA.size)
  replace A := A.below hb
  replace B := B.below hb
  replace I := I.below hb
  replace J := J.below hb
  replace S1 := S1.below hb
  replace S2 := S2.below hb
  replace S3 := S3.below hb
  replace S4 := S4.below hb
  replace S5 := S5.below hb
  replace S6 := S6.below hb
  have z9 := hbb.size
  replace hB := hB.trans (hbb.mono hB.size)
  replace h3 := h3.trans (hbb.mono h3.size)
  clear hb hbb hA  
  go_wp2_with fail
  have hA := Below.refl w9.heap.size w9
  refine (same_len S5 S6 (norm_unique S5.words S6.words N5 N6 (by rw [V5.out, V6.out])) (by omega)).mono ?_
  rintro e w10 ⟨rfl, hb⟩
  have hbb : Below w9.heap.size w9 w10 := hA.trans (hb.mono hA.size)
  replace A := A.below hb
  replace B := B.below hb
  replace I := I.below hb
  replace J := J.below hb
  replace S1 := S1.below hb
  replace S2 := S2.below hb
  replace S3 := S3.below hb
  replace S4 := S4.below hb
  replace S5 := S5.below hb
  replace S6 := S6.below hb
  have z10 := hbb.size
  replace hB := hB.trans (hbb.mono hB.size)
  replace h3 := h3.trans (hbb.mono h3.size)
  clear hb hbb hA  
  go_wp2_with fail
  have hA := Below.refl w10.heap.size w10
  refine (qdivides_any I J (by omega) (by omega)).mono ?_
  rintro e w11 ⟨rfl, hb⟩
  have hbb : Below w10.heap.size w10 w11 := hA.trans (hb.mono hA.size)
  replace A := A.below hb
  replace B := B.below hb
  replace I := I.below hb
  replace J := J.below hb
  replace S1 := S1.below hb
  replace S2 := S2.below hb
  replace S3 := S3.below hb
  replace S4 := S4.below hb
  replace S5 := S5.below hb
  replace S6 := S6.below hb
  have z11 := hbb.size
  replace hB := hB.trans (hbb.mono hB.size)
  replace h3 := h3.trans (hbb.mono h3.size)
  clear hb hbb hA  
  go_wp2_with fail
  have hA := Below.refl w11.heap.size w11
  refine (rdivides_any A B (by omega) (by omega)).mono ?_
  rintro e w12 ⟨rfl, hb⟩
  have hbb : Below w11.heap.size w11 w12 := hA.trans (hb.mono hA.size)
  replace A := A.below hb
  replace B := B.below hb
  replace I := I.below hb
  replace J := J.below hb
  replace S1 := S1.below hb
  replace S2 := S2.below hb
  replace S3 := S3.below hb
  replace S4 := S4.below hb
  replace S5 := S5.below hb
  replace S6 := S6.below hb
  have z12 := hbb.size
  replace hB := hB.trans (hbb.mono hB.size)
  replace h3 := h3.trans (hbb.mono h3.size)
  clear hb hbb hA  
  clear A B I J S3 S4 S6
  go_wp2_with fail
  refine (over_ot S1 (by omega)).mono ?_
  rintro e w13 ⟨rfl, ho⟩
  replace S2 := S2.overt ho AP
  replace S5 := S5.overt ho (apart_of R1 S5 (by omega))
  replace hB := hB.trans (ho.below.mono (by omega))
  replace h3 := h3.trans (ho.below.mono (by omega))
  have z13 := ho.below.size
  clear ho S1
  go_wp2_with fail
  refine (over_ot S2 (by omega)).mono ?_
  rintro e w14 ⟨rfl, ho⟩
  replace S5 := S5.overt ho (apart_of R2 S5 (by omega))
  replace hB := hB.trans (ho.below.mono (by omega))
  replace h3 := h3.trans (ho.below.mono (by omega))
  have z14 := ho.below.size
  clear ho S2
  go_wp2_with fail
  refine (over_ot S5 (by omega)).mono ?_
  rintro e w15 ⟨rfl, ho⟩
  replace hB := hB.trans (ho.below.mono (by omega))
  replace h3 := h3.trans (ho.below.mono (by omega))
  have z15 := ho.below.size
  clear ho S5
  have A := A3.below h3
  have B := B3.below h3
  have I := I3.below h3
  have J := J3.below h3
  go_wp2_with fail
  have hA := Below.refl w15.heap.size w15
  refine (same_len I A rfl (by omega)).mono ?_
  rintro e w16 ⟨rfl, hb⟩
  have hbb : Below w15.heap.size w15 w16 := hA.trans (hb.mono hA.size)
  replace A := A.below hb
  replace B := B.below hb
  replace I := I.below hb
  replace J := J.below hb
  have z16 := hbb.size
  replace hB := hB.trans (hbb.mono hB.size)
  replace h3 := h3.trans (hbb.mono h3.size)
  clear hb hbb hA  
  go_wp2_with fail
  have hA := Below.refl w16.heap.size w16
  refine (same_len J B rfl (by omega)).mono ?_
  rintro e w17 ⟨rfl, hb⟩
  have hbb : Below w16.heap.size w16 w17 := hA.trans (hb.mono hA.size)
  replace A := A.below hb
  replace B := B.below hb
  replace I := I.below hb
  replace J := J.below hb
  have z17 := hbb.size
  replace hB := hB.trans (hbb.mono hB.size)
  replace h3 := h3.trans (hbb.mono h3.size)
  clear hb hbb hA  
  go_wp2_with fail
  have hA := Below.refl w17.heap.size w17
  refine (awake_any _).mono ?_
  rintro e w18 ⟨rfl, hb⟩
  have hbb : Below w17.heap.size w17 w18 := hA.trans (hb.mono hA.size)
  replace A := A.below hb
  replace B := B.below hb
  replace I := I.below hb
  replace J := J.below hb
  have z18 := hbb.size
  replace hB := hB.trans (hbb.mono hB.size)
  replace h3 := h3.trans (hbb.mono h3.size)
  clear hb hbb hA  
  go_wp2
  go_ret
  exact ⟨rfl, hB⟩

theorem divides_any {a b : Option Addr} {la ca lb cb : Nat} {xs ys : List Int} {w : World} (A : Seg 0 w (.slice a la ca) xs) (B : Seg 0 w (.slice b lb cb) ys) (x : Int) (hx : 0 ≤ x ∧ x < 18446744073709551616) :
    Calls Try.prog 3 #[.slice a la ca, .slice b lb cb, .int .u64 x] w fun e w' => e = .returned (.bool true) ∧ Below w.heap.size w w' := by
  by_cases h : 24 < la ∨ 24 < lb
  · exact divides_long a b la ca lb cb x w h
  · obtain ⟨rfl, _⟩ := A.len
    obtain ⟨rfl, _⟩ := B.len
    exact divides_short A B (by omega) (by omega) x hx
end Go.Proofs.Ytfdlhjnnbhfapaa
