/-
  The walk of LimbsReckons.
-/
import Derived.Test.YtfcndibfbficbaaRefD
import Derived.Test.YtfcndibfbficbaaSums
namespace Go.Proofs.Ytfcndibfbficbaa
open Go.RowKit

set_option maxRecDepth 100000 in
set_option maxHeartbeats 1000000 in
/-- LimbsReckons, where a list is long. -/
theorem reckons_long (a b : Option Addr) (la ca lb cb : Nat) (w : World) (h : 60 < la ∨ 60 < lb) :
    Calls Try.prog 3 #[.slice a la ca, .slice b lb cb] w fun e w' => e = .returned (.bool true) ∧ Below w.heap.size w w' := by
  have l1 := fun w => long_any a b la ca lb cb w
  rw [decide_eq_true h] at l1
  clear h
  have L1 := hide l1
  clear l1
  go_enter Try.func3, Try.ntmps3
  go_wp2_with fail
  refine (L1.out _).mono ?_
  rintro e w2 ⟨rfl, rfl⟩
  go_wp2_with fail
  refine (awake_any _).mono ?_
  rintro e w1 ⟨rfl, hb1⟩
  go_wp2
  go_ret
  exact ⟨rfl, hb1⟩

set_option maxRecDepth 100000 in
set_option maxHeartbeats 4000000 in
theorem reckons_yes {a b : Option Addr} {ca cb : Nat} {xs ys : List Int} {w : World} (A : Seg 0 w (.slice a xs.length ca) xs) (B : Seg 0 w (.slice b ys.length cb) ys) (hx : xs.length ≤ 60) (hy : ys.length ≤ 60) (h : Hid (val ys ≤ val xs)) :
    Calls Try.prog 3 #[.slice a xs.length ca, .slice b ys.length cb] w fun e w' => e = .returned (.bool true) ∧ Below w.heap.size w w' := by
  have l1 := fun w => long_any a b xs.length ca ys.length cb w
  rw [decide_eq_false (show ¬ (60 < xs.length ∨ 60 < ys.length) by omega)] at l1
  have L1 := hide l1
  clear l1
  have hB := Below.refl w.heap.size w
  go_enter Try.func3, Try.ntmps3
  go_wp2_with fail
  have hA := Below.refl w.heap.size w
  refine (L1.out _).mono ?_
  rintro e w1 ⟨rfl, hw⟩
  have hb := hw_below hw
  clear hw
  have hbb : Below w.heap.size w w1 := hA.trans (hb.mono hA.size)
  replace A := A.below hb
  replace B := B.below hb
  have z1 := hbb.size
  replace hB := hB.trans (hbb.mono hB.size)
  clear hb hbb hA  
  go_wp2_with fail
  have hA := Below.refl w1.heap.size w1
  refine (copy_any A (by omega)).mono ?_
  rintro e w2 ⟨ai, ci, rfl, I, hb⟩
  have hbb : Below w1.heap.size w1 w2 := hA.trans (hb.mono hA.size)
  replace A := A.below hb
  replace B := B.below hb
  have z2 := hbb.size
  replace hB := hB.trans (hbb.mono hB.size)
  clear hb hbb hA  
  go_wp2_with fail
  have hA := Below.refl w2.heap.size w2
  refine (copy_any B (by omega)).mono ?_
  rintro e w3 ⟨aj, cj, rfl, J, hb⟩
  have hbb : Below w2.heap.size w2 w3 := hA.trans (hb.mono hA.size)
  replace A := A.below hb
  replace B := B.below hb
  replace I := I.below hb
  have z3 := hbb.size
  replace hB := hB.trans (hbb.mono hB.size)
  clear hb hbb hA  
  have A3 := A
  have B3 := B
  have I3 := I
  have J3 := J
  have h3 := Below.refl w3.heap.size w3
  go_wp2_with fail
  have hA := Below.refl w3.heap.size w3
  refine (add_any I J (by omega) (by omega)).mono ?_
  rintro e w4 ⟨a1, c1, z1, rfl, S1, N1, v1, l1, hb⟩
  have V1 : Hid (val z1 = val xs + val ys) := v1
  have b1 : z1.length ≤ 61 := by omega
  have hbb : Below w3.heap.size w3 w4 := hA.trans (hb.mono hA.size)
  replace A := A.below hb
  replace B := B.below hb
  replace I := I.below hb
  replace J := J.below hb
  have z4 := hbb.size
  replace hB := hB.trans (hbb.mono hB.size)
  replace h3 := h3.trans (hbb.mono h3.size)
  clear hb hbb hA  v1 l1
  have R1 := S1.block
  go_wp2_with fail
  have hA := Below.refl w4.heap.size w4
  refine (sub_yes I J (by omega) (by omega) h.out).mono ?_
  rintro e w5 ⟨a2, c2, z2, rfl, S2, N2, v2, l2, hb⟩
  have V2 : Hid (val z2 = val xs - val ys) := v2
  have b2 : z2.length ≤ 60 := by omega
  have hbb : Below w4.heap.size w4 w5 := hA.trans (hb.mono hA.size)
  replace A := A.below hb
  replace B := B.below hb
  replace I := I.below hb
  replace J := J.below hb
  replace S1 := S1.below hb
  have z5 := hbb.size
  replace hB := hB.trans (hbb.mono hB.size)
  replace h3 := h3.trans (hbb.mono h3.size)
  clear hb hbb hA  v2 l2
  have R2 := S2.block
  go_wp2_with fail
  have hA := Below.refl w5.heap.size w5
  refine (rsub_yes A B (by omega) (by omega) h.out).mono ?_
  rintro e w6 ⟨a3, c3, z3, rfl, S3, N3, v3, l3, hb⟩
  have V3 : Hid (val z3 = val xs - val ys) := v3
  have b3 : z3.length ≤ 60 := by omega
  have hbb : Below w5.heap.size w5 w6 := hA.trans (hb.mono hA.size)
  replace A := A.below hb
  replace B := B.below hb
  replace I := I.below hb
  replace J := J.below hb
  replace S1 := S1.below hb
  replace S2 := S2.below hb
  have z6 := hbb.size
  replace hB := hB.trans (hbb.mono hB.size)
  replace h3 := h3.trans (hbb.mono h3.size)
  clear hb hbb hA  v3 l3
  go_wp2_with fail
  have hA := Below.refl w6.heap.size w6
  refine (radd_any A B (by omega) (by omega)).mono ?_
  rintro e w7 ⟨a4, c4, z4, rfl, S4, N4, v4, l4, hb⟩
  have V4 : Hid (val z4 = val xs + val ys) := v4
  have b4 : z4.length ≤ 61 := by omega
  have hbb : Below w6.heap.size w6 w7 := hA.trans (hb.mono hA.size)
  replace A := A.below hb
  replace B := B.below hb
  replace I := I.below hb
  replace J := J.below hb
  replace S1 := S1.below hb
  replace S2 := S2.below hb
  replace S3 := S3.below hb
  have z7 := hbb.size
  replace hB := hB.trans (hbb.mono hB.size)
  replace h3 := h3.trans (hbb.mono h3.size)
  clear hb hbb hA  v4 l4
  go_wp2_with fail
  have hA := Below.refl w7.heap.size w7
  refine (same_len S1 S4 (norm_unique S1.words S4.words N1 N4 (by rw [V1.out, V4.out])) (by omega)).mono ?_
  rintro e w8 ⟨rfl, hb⟩
  have hbb : Below w7.heap.size w7 w8 := hA.trans (hb.mono hA.size)
  replace A := A.below hb
  replace B := B.below hb
  replace I := I.below hb
  replace J := J.below hb
  replace S1 := S1.below hb
  replace S2 := S2.below hb
  replace S3 := S3.below hb
  replace S4 := S4.below hb
  have z8 := hbb.size
  replace hB := hB.trans (hbb.mono hB.size)
  replace h3 := h3.trans (hbb.mono h3.size)
  clear hb hbb hA  
  go_wp2_with fail
  have hA := Below.refl w8.heap.size w8
  refine (same_len S2 S3 (norm_unique S2.words S3.words N2 N3 (by rw [V2.out, V3.out])) (by omega)).mono ?_
  rintro e w9 ⟨rfl, hb⟩
  have hbb : Below w8.heap.size w8 w9 := hA.trans (hb.mono hA.size)
  replace A := A.below hb
  replace B := B.below hb
  replace I := I.below hb
  replace J := J.below hb
  replace S1 := S1.below hb
  replace S2 := S2.below hb
  replace S3 := S3.below hb
  replace S4 := S4.below hb
  have z9 := hbb.size
  replace hB := hB.trans (hbb.mono hB.size)
  replace h3 := h3.trans (hbb.mono h3.size)
  clear hb hbb hA  
  go_wp2_with fail
  have hA := Below.refl w9.heap.size w9
  refine (cmp_any I J (by omega) (by omega)).mono ?_
  rintro e w10 ⟨rfl, hb⟩
  have hbb : Below w9.heap.size w9 w10 := hA.trans (hb.mono hA.size)
  replace A := A.below hb
  replace B := B.below hb
  replace I := I.below hb
  replace J := J.below hb
  replace S1 := S1.below hb
  replace S2 := S2.below hb
  replace S3 := S3.below hb
  replace S4 := S4.below hb
  have z10 := hbb.size
  replace hB := hB.trans (hbb.mono hB.size)
  replace h3 := h3.trans (hbb.mono h3.size)
  clear hb hbb hA  
  go_wp2_with fail
  have hA := Below.refl w10.heap.size w10
  refine (rcmp_any A B (by omega) (by omega)).mono ?_
  rintro e w11 ⟨rfl, hw⟩
  have hb := hw_below hw
  clear hw
  have hbb : Below w10.heap.size w10 w11 := hA.trans (hb.mono hA.size)
  replace A := A.below hb
  replace B := B.below hb
  replace I := I.below hb
  replace J := J.below hb
  replace S1 := S1.below hb
  replace S2 := S2.below hb
  replace S3 := S3.below hb
  replace S4 := S4.below hb
  have z11 := hbb.size
  replace hB := hB.trans (hbb.mono hB.size)
  replace h3 := h3.trans (hbb.mono h3.size)
  clear hb hbb hA  
  go_wp2_with fail
  have hA := Below.refl w11.heap.size w11
  refine (len_any I (by omega)).mono ?_
  rintro e w12 ⟨rfl, hb⟩
  have hbb : Below w11.heap.size w11 w12 := hA.trans (hb.mono hA.size)
  replace A := A.below hb
  replace B := B.below hb
  replace I := I.below hb
  replace J := J.below hb
  replace S1 := S1.below hb
  replace S2 := S2.below hb
  replace S3 := S3.below hb
  replace S4 := S4.below hb
  have z12 := hbb.size
  replace hB := hB.trans (hbb.mono hB.size)
  replace h3 := h3.trans (hbb.mono h3.size)
  clear hb hbb hA  
  go_wp2_with fail
  have hA := Below.refl w12.heap.size w12
  refine (rlen_any A (by omega)).mono ?_
  rintro e w13 ⟨rfl, hb⟩
  have hbb : Below w12.heap.size w12 w13 := hA.trans (hb.mono hA.size)
  replace A := A.below hb
  replace B := B.below hb
  replace I := I.below hb
  replace J := J.below hb
  replace S1 := S1.below hb
  replace S2 := S2.below hb
  replace S3 := S3.below hb
  replace S4 := S4.below hb
  have z13 := hbb.size
  replace hB := hB.trans (hbb.mono hB.size)
  replace h3 := h3.trans (hbb.mono h3.size)
  clear hb hbb hA  
  clear A B I J S4 S3
  go_wp2_with fail
  refine (over_fr S1 (by omega) w4.heap.size R1).mono ?_
  rintro e w14 ⟨rfl, hlo, hhi⟩
  replace S2 := S2.above (fun k hk => hhi k (by omega)) hlo.size
  replace hB := hB.trans (hlo.mono (by omega))
  replace h3 := h3.trans (hlo.mono (by omega))
  have z14 := hlo.size
  clear hlo hhi S1 R1
  go_wp2_with fail
  refine (over_fr S2 (by omega) w5.heap.size R2).mono ?_
  rintro e w15 ⟨rfl, hlo, hhi⟩
  replace hB := hB.trans (hlo.mono (by omega))
  replace h3 := h3.trans (hlo.mono (by omega))
  have z15 := hlo.size
  clear hlo hhi S2 R2
  have A := A3.below h3
  have B := B3.below h3
  have I := I3.below h3
  have J := J3.below h3
  go_wp2_with fail
  have hA := Below.refl w15.heap.size w15
  refine (same_len I A rfl (by omega)).mono ?_
  rintro e w16 ⟨rfl, hb⟩
  have hbb : Below w15.heap.size w15 w16 := hA.trans (hb.mono hA.size)
  replace A := A.below hb
  replace B := B.below hb
  replace I := I.below hb
  replace J := J.below hb
  have z16 := hbb.size
  replace hB := hB.trans (hbb.mono hB.size)
  replace h3 := h3.trans (hbb.mono h3.size)
  clear hb hbb hA  
  go_wp2_with fail
  have hA := Below.refl w16.heap.size w16
  refine (same_len J B rfl (by omega)).mono ?_
  rintro e w17 ⟨rfl, hb⟩
  have hbb : Below w16.heap.size w16 w17 := hA.trans (hb.mono hA.size)
  replace A := A.below hb
  replace B := B.below hb
  replace I := I.below hb
  replace J := J.below hb
  have z17 := hbb.size
  replace hB := hB.trans (hbb.mono hB.size)
  replace h3 := h3.trans (hbb.mono h3.size)
  clear hb hbb hA  
  go_wp2_with fail
  have hA := Below.refl w17.heap.size w17
  refine (awake_any _).mono ?_
  rintro e w18 ⟨rfl, hb⟩
  have hbb : Below w17.heap.size w17 w18 := hA.trans (hb.mono hA.size)
  replace A := A.below hb
  replace B := B.below hb
  replace I := I.below hb
  replace J := J.below hb
  have z18 := hbb.size
  replace hB := hB.trans (hbb.mono hB.size)
  replace h3 := h3.trans (hbb.mono h3.size)
  clear hb hbb hA  
  go_wp2
  go_ret
  exact ⟨rfl, hB⟩

set_option maxRecDepth 100000 in
set_option maxHeartbeats 4000000 in
theorem reckons_no {a b : Option Addr} {ca cb : Nat} {xs ys : List Int} {w : World} (A : Seg 0 w (.slice a xs.length ca) xs) (B : Seg 0 w (.slice b ys.length cb) ys) (hx : xs.length ≤ 60) (hy : ys.length ≤ 60) (h : Hid (val xs < val ys)) :
    Calls Try.prog 3 #[.slice a xs.length ca, .slice b ys.length cb] w fun e w' => e = .returned (.bool true) ∧ Below w.heap.size w w' := by
  have l1 := fun w => long_any a b xs.length ca ys.length cb w
  rw [decide_eq_false (show ¬ (60 < xs.length ∨ 60 < ys.length) by omega)] at l1
  have L1 := hide l1
  clear l1
  have hB := Below.refl w.heap.size w
  go_enter Try.func3, Try.ntmps3
  go_wp2_with fail
  have hA := Below.refl w.heap.size w
  refine (L1.out _).mono ?_
  rintro e w1 ⟨rfl, hw⟩
  have hb := hw_below hw
  clear hw
  have hbb : Below w.heap.size w w1 := hA.trans (hb.mono hA.size)
  replace A := A.below hb
  replace B := B.below hb
  have z1 := hbb.size
  replace hB := hB.trans (hbb.mono hB.size)
  clear hb hbb hA  
  go_wp2_with fail
  have hA := Below.refl w1.heap.size w1
  refine (copy_any A (by omega)).mono ?_
  rintro e w2 ⟨ai, ci, rfl, I, hb⟩
  have hbb : Below w1.heap.size w1 w2 := hA.trans (hb.mono hA.size)
  replace A := A.below hb
  replace B := B.below hb
  have z2 := hbb.size
  replace hB := hB.trans (hbb.mono hB.size)
  clear hb hbb hA  
  go_wp2_with fail
  have hA := Below.refl w2.heap.size w2
  refine (copy_any B (by omega)).mono ?_
  rintro e w3 ⟨aj, cj, rfl, J, hb⟩
  have hbb : Below w2.heap.size w2 w3 := hA.trans (hb.mono hA.size)
  replace A := A.below hb
  replace B := B.below hb
  replace I := I.below hb
  have z3 := hbb.size
  replace hB := hB.trans (hbb.mono hB.size)
  clear hb hbb hA  
  have A3 := A
  have B3 := B
  have I3 := I
  have J3 := J
  have h3 := Below.refl w3.heap.size w3
  go_wp2_with fail
  have hA := Below.refl w3.heap.size w3
  refine (add_any I J (by omega) (by omega)).mono ?_
  rintro e w4 ⟨a1, c1, z1, rfl, S1, N1, v1, l1, hb⟩
  have V1 : Hid (val z1 = val xs + val ys) := v1
  have b1 : z1.length ≤ 61 := by omega
  have hbb : Below w3.heap.size w3 w4 := hA.trans (hb.mono hA.size)
  replace A := A.below hb
  replace B := B.below hb
  replace I := I.below hb
  replace J := J.below hb
  have z4 := hbb.size
  replace hB := hB.trans (hbb.mono hB.size)
  replace h3 := h3.trans (hbb.mono h3.size)
  clear hb hbb hA  v1 l1
  have R1 := S1.block
  go_wp2_with fail
  have hA := Below.refl w4.heap.size w4
  refine (sub_no I J (by omega) (by omega) h.out).mono ?_
  rintro e w5 ⟨rfl, hb⟩
  have hbb : Below w4.heap.size w4 w5 := hA.trans (hb.mono hA.size)
  replace A := A.below hb
  replace B := B.below hb
  replace I := I.below hb
  replace J := J.below hb
  replace S1 := S1.below hb
  have z5 := hbb.size
  replace hB := hB.trans (hbb.mono hB.size)
  replace h3 := h3.trans (hbb.mono h3.size)
  clear hb hbb hA  
  go_wp2_with fail
  have hA := Below.refl w5.heap.size w5
  refine (rsub_no A B (by omega) (by omega) h.out).mono ?_
  rintro e w6 ⟨rfl, hw⟩
  have hb := hw_below hw
  clear hw
  have hbb : Below w5.heap.size w5 w6 := hA.trans (hb.mono hA.size)
  replace A := A.below hb
  replace B := B.below hb
  replace I := I.below hb
  replace J := J.below hb
  replace S1 := S1.below hb
  have z6 := hbb.size
  replace hB := hB.trans (hbb.mono hB.size)
  replace h3 := h3.trans (hbb.mono h3.size)
  clear hb hbb hA  
  go_wp2_with fail
  have hA := Below.refl w6.heap.size w6
  refine (radd_any A B (by omega) (by omega)).mono ?_
  rintro e w7 ⟨a4, c4, z4, rfl, S4, N4, v4, l4, hb⟩
  have V4 : Hid (val z4 = val xs + val ys) := v4
  have b4 : z4.length ≤ 61 := by omega
  have hbb : Below w6.heap.size w6 w7 := hA.trans (hb.mono hA.size)
  replace A := A.below hb
  replace B := B.below hb
  replace I := I.below hb
  replace J := J.below hb
  replace S1 := S1.below hb
  have z7 := hbb.size
  replace hB := hB.trans (hbb.mono hB.size)
  replace h3 := h3.trans (hbb.mono h3.size)
  clear hb hbb hA  v4 l4
  go_wp2_with fail
  have hA := Below.refl w7.heap.size w7
  refine (same_len S1 S4 (norm_unique S1.words S4.words N1 N4 (by rw [V1.out, V4.out])) (by omega)).mono ?_
  rintro e w8 ⟨rfl, hb⟩
  have hbb : Below w7.heap.size w7 w8 := hA.trans (hb.mono hA.size)
  replace A := A.below hb
  replace B := B.below hb
  replace I := I.below hb
  replace J := J.below hb
  replace S1 := S1.below hb
  replace S4 := S4.below hb
  have z8 := hbb.size
  replace hB := hB.trans (hbb.mono hB.size)
  replace h3 := h3.trans (hbb.mono h3.size)
  clear hb hbb hA  
  go_wp2_with fail
  have hA := Below.refl w8.heap.size w8
  refine (same_len (Seg.nil 0 _) (Seg.nil 0 _) rfl (by simp)).mono ?_
  rintro e w9 ⟨rfl, hb⟩
  have hbb : Below w8.heap.size w8 w9 := hA.trans (hb.mono hA.size)
  replace A := A.below hb
  replace B := B.below hb
  replace I := I.below hb
  replace J := J.below hb
  replace S1 := S1.below hb
  replace S4 := S4.below hb
  have z9 := hbb.size
  replace hB := hB.trans (hbb.mono hB.size)
  replace h3 := h3.trans (hbb.mono h3.size)
  clear hb hbb hA  
  go_wp2_with fail
  have hA := Below.refl w9.heap.size w9
  refine (cmp_any I J (by omega) (by omega)).mono ?_
  rintro e w10 ⟨rfl, hb⟩
  have hbb : Below w9.heap.size w9 w10 := hA.trans (hb.mono hA.size)
  replace A := A.below hb
  replace B := B.below hb
  replace I := I.below hb
  replace J := J.below hb
  replace S1 := S1.below hb
  replace S4 := S4.below hb
  have z10 := hbb.size
  replace hB := hB.trans (hbb.mono hB.size)
  replace h3 := h3.trans (hbb.mono h3.size)
  clear hb hbb hA  
  go_wp2_with fail
  have hA := Below.refl w10.heap.size w10
  refine (rcmp_any A B (by omega) (by omega)).mono ?_
  rintro e w11 ⟨rfl, hw⟩
  have hb := hw_below hw
  clear hw
  have hbb : Below w10.heap.size w10 w11 := hA.trans (hb.mono hA.size)
  replace A := A.below hb
  replace B := B.below hb
  replace I := I.below hb
  replace J := J.below hb
  replace S1 := S1.below hb
  replace S4 := S4.below hb
  have z11 := hbb.size
  replace hB := hB.trans (hbb.mono hB.size)
  replace h3 := h3.trans (hbb.mono h3.size)
  clear hb hbb hA  
  go_wp2_with fail
  have hA := Below.refl w11.heap.size w11
  refine (len_any I (by omega)).mono ?_
  rintro e w12 ⟨rfl, hb⟩
  have hbb : Below w11.heap.size w11 w12 := hA.trans (hb.mono hA.size)
  replace A := A.below hb
  replace B := B.below hb
  replace I := I.below hb
  replace J := J.below hb
  replace S1 := S1.below hb
  replace S4 := S4.below hb
  have z12 := hbb.size
  replace hB := hB.trans (hbb.mono hB.size)
  replace h3 := h3.trans (hbb.mono h3.size)
  clear hb hbb hA  
  go_wp2_with fail
  have hA := Below.refl w12.heap.size w12
  refine (rlen_any A (by omega)).mono ?_
  rintro e w13 ⟨rfl, hb⟩
  have hbb : Below w12.heap.size w12 w13 := hA.trans (hb.mono hA.size)
  replace A := A.below hb
  replace B := B.below hb
  replace I := I.below hb
  replace J := J.below hb
  replace S1 := S1.below hb
  replace S4 := S4.below hb
  have z13 := hbb.size
  replace hB := hB.trans (hbb.mono hB.size)
  replace h3 := h3.trans (hbb.mono h3.size)
  clear hb hbb hA  
  clear A B I J S4
  go_wp2_with fail
  refine (over_fr S1 (by omega) w4.heap.size R1).mono ?_
  rintro e w14 ⟨rfl, hlo, hhi⟩
  replace hB := hB.trans (hlo.mono (by omega))
  replace h3 := h3.trans (hlo.mono (by omega))
  have z14 := hlo.size
  clear hlo hhi S1 R1
  go_wp2_with fail
  refine (over_fr (Seg.nil w14.heap.size _) (by simp) 0 (fun h => absurd rfl h)).mono ?_
  rintro e w15 ⟨rfl, hlo, _⟩
  replace hB := hB.trans (hlo.mono (by omega))
  replace h3 := h3.trans (hlo.mono (by omega))
  have z15 := hlo.size
  clear hlo
  have A := A3.below h3
  have B := B3.below h3
  have I := I3.below h3
  have J := J3.below h3
  go_wp2_with fail
  have hA := Below.refl w15.heap.size w15
  refine (same_len I A rfl (by omega)).mono ?_
  rintro e w16 ⟨rfl, hb⟩
  have hbb : Below w15.heap.size w15 w16 := hA.trans (hb.mono hA.size)
  replace A := A.below hb
  replace B := B.below hb
  replace I := I.below hb
  replace J := J.below hb
  have z16 := hbb.size
  replace hB := hB.trans (hbb.mono hB.size)
  replace h3 := h3.trans (hbb.mono h3.size)
  clear hb hbb hA  
  go_wp2_with fail
  have hA := Below.refl w16.heap.size w16
  refine (same_len J B rfl (by omega)).mono ?_
  rintro e w17 ⟨rfl, hb⟩
  have hbb : Below w16.heap.size w16 w17 := hA.trans (hb.mono hA.size)
  replace A := A.below hb
  replace B := B.below hb
  replace I := I.below hb
  replace J := J.below hb
  have z17 := hbb.size
  replace hB := hB.trans (hbb.mono hB.size)
  replace h3 := h3.trans (hbb.mono h3.size)
  clear hb hbb hA  
  go_wp2_with fail
  have hA := Below.refl w17.heap.size w17
  refine (awake_any _).mono ?_
  rintro e w18 ⟨rfl, hb⟩
  have hbb : Below w17.heap.size w17 w18 := hA.trans (hb.mono hA.size)
  replace A := A.below hb
  replace B := B.below hb
  replace I := I.below hb
  replace J := J.below hb
  have z18 := hbb.size
  replace hB := hB.trans (hbb.mono hB.size)
  replace h3 := h3.trans (hbb.mono h3.size)
  clear hb hbb hA  
  go_wp2
  go_ret
  exact ⟨rfl, hB⟩

theorem reckons_any {a b : Option Addr} {la ca lb cb : Nat} {xs ys : List Int} {w : World} (A : Seg 0 w (.slice a la ca) xs) (B : Seg 0 w (.slice b lb cb) ys) :
    Calls Try.prog 3 #[.slice a la ca, .slice b lb cb] w fun e w' => e = .returned (.bool true) ∧ Below w.heap.size w w' := by
  by_cases h : 60 < la ∨ 60 < lb
  · exact reckons_long a b la ca lb cb w h
  · obtain ⟨rfl, _⟩ := A.len
    obtain ⟨rfl, _⟩ := B.len
    by_cases h0 : val ys ≤ val xs
    · exact reckons_yes A B (by omega) (by omega) h0
    · exact reckons_no A B (by omega) (by omega) (show val xs < val ys by omega)
#print axioms reckons_any
end Go.Proofs.Ytfcndibfbficbaa
