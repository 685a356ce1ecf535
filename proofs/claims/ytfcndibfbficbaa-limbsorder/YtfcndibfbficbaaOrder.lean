/-
  The walk of LimbsOrder.
-/
import Derived.Test.YtfcndibfbficbaaSums
namespace Go.Proofs.Ytfcndibfbficbaa
open Go.RowKit

theorem blen_mono {u v : Int} (_h0 : 0 ≤ u) (h : u ≤ v) : blen u ≤ blen v := by
  unfold blen Go.bitLen
  split
  · omega
  · rename_i hu
    rw [if_neg (by omega)]
    have h1 := Nat.log2_self_le hu
    have h2 : v.toNat < 2 ^ (v.toNat.log2 + 1) := Nat.lt_log2_self
    rcases Nat.lt_or_ge v.toNat.log2 u.toNat.log2 with h3 | h3
    · have := Nat.pow_le_pow_right (n := 2) (by decide) (show v.toNat.log2 + 1 ≤ u.toNat.log2 by omega)
      omega
    · omega
theorem cmpI_bounds (x y : Int) : -1 ≤ cmpI x y ∧ cmpI x y ≤ 1 := by
  unfold cmpI
  split
  · decide
  · split <;> decide

set_option maxRecDepth 100000 in
set_option maxHeartbeats 1000000 in
/-- LimbsOrder, where a list is long. -/
theorem order_long (a b c : Option Addr) (la ca lb cb lc cc : Nat) (w : World) (h : 60 < la ∨ 60 < lb ∨ 60 < lc) :
    Calls Try.prog 7 #[.slice a la ca, .slice b lb cb, .slice c lc cc] w fun e w' => e = .returned (.bool true) ∧ Below w.heap.size w w' := by
  have l1 := fun w => long_any a b la ca lb cb w
  have l2 := fun w => long_any c none lc cc 0 0 w
  by_cases h1 : 60 < la ∨ 60 < lb
  · rw [decide_eq_true h1] at l1
    clear h h1 l2
    have L1 := hide l1
    clear l1
    go_enter Try.func7, Try.ntmps7
    go_wp2_with fail
    refine (awake_any w).mono ?_
    rintro e w1 ⟨rfl, hb1⟩
    go_wp2_with fail
    refine (L1.out _).mono ?_
    rintro e w2 ⟨rfl, rfl⟩
    go_wp2
    go_ret
    exact ⟨rfl, hb1⟩
  · rw [decide_eq_false h1] at l1
    rw [decide_eq_true (show 60 < lc ∨ 60 < 0 by omega)] at l2
    clear h h1
    have L1 := hide l1
    have L2 := hide l2
    clear l1 l2
    go_enter Try.func7, Try.ntmps7
    go_wp2_with fail
    refine (awake_any w).mono ?_
    rintro e w1 ⟨rfl, hb1⟩
    go_wp2_with fail
    refine (L1.out _).mono ?_
    rintro e w2 ⟨rfl, rfl⟩
    go_wp2_with fail
    refine (L2.out _).mono ?_
    rintro e w2 ⟨rfl, rfl⟩
    go_wp2
    go_ret
    exact ⟨rfl, hb1⟩

set_option maxRecDepth 100000 in
set_option maxHeartbeats 4000000 in
theorem order_lt_lt {a b c : Option Addr} {ca cb cc : Nat} {xs ys zs : List Int} {w : World} (A : Seg 0 w (.slice a xs.length ca) xs) (B : Seg 0 w (.slice b ys.length cb) ys) (C : Seg 0 w (.slice c zs.length cc) zs) (hx : xs.length ≤ 60) (hy : ys.length ≤ 60) (hz : zs.length ≤ 60) (h : Hid (val xs < val ys)) (k : Hid (val ys < val zs)) :
    Calls Try.prog 7 #[.slice a xs.length ca, .slice b ys.length cb, .slice c zs.length cc] w fun e w' => e = .returned (.bool true) ∧ Below w.heap.size w w' := by
  have l1 := fun w => long_any a b xs.length ca ys.length cb w
  have l2 := fun w => long_any c none zs.length cc 0 0 w
  rw [decide_eq_false (show ¬ (60 < xs.length ∨ 60 < ys.length) by omega)] at l1
  rw [decide_eq_false (show ¬ (60 < zs.length ∨ 60 < 0) by omega)] at l2
  have L1 := hide l1
  have L2 := hide l2
  clear l1 l2
  have bl : (blen (val xs) : Int) ≤ (blen (val ys) : Int) := by have := blen_mono (val_nonneg A.words) (show val xs ≤ val ys by have := h.out; omega); omega
  have hB := Below.refl w.heap.size w
  go_enter Try.func7, Try.ntmps7
  go_wp2_with fail
  have hA := Below.refl w.heap.size w
  refine (awake_any _).mono ?_
  rintro e w1 ⟨rfl, hb⟩
  have hbb : Below w.heap.size w w1 := hA.trans (hb.mono hA.size)
  replace A := A.below hb
  replace B := B.below hb
  replace C := C.below hb
  replace hB := hB.trans (hbb.mono hB.size)
  clear hb hbb hA  
  go_wp2_with fail
  have hA := Below.refl w1.heap.size w1
  refine (L1.out _).mono ?_
  rintro e w2 ⟨rfl, hw⟩
  have hb := hw_below hw
  clear hw
  have hbb : Below w1.heap.size w1 w2 := hA.trans (hb.mono hA.size)
  replace A := A.below hb
  replace B := B.below hb
  replace C := C.below hb
  replace hB := hB.trans (hbb.mono hB.size)
  clear hb hbb hA  
  go_wp2_with fail
  have hA := Below.refl w2.heap.size w2
  refine (L2.out _).mono ?_
  rintro e w3 ⟨rfl, hw⟩
  have hb := hw_below hw
  clear hw
  have hbb : Below w2.heap.size w2 w3 := hA.trans (hb.mono hA.size)
  replace A := A.below hb
  replace B := B.below hb
  replace C := C.below hb
  replace hB := hB.trans (hbb.mono hB.size)
  clear hb hbb hA  
  go_wp2_with fail
  have hA := Below.refl w3.heap.size w3
  have hc := cmp_any A B (by omega) (by omega)
  rw [cmpI_lt h.out] at hc
  refine (hc).mono ?_
  rintro e w4 ⟨rfl, hb⟩
  have hbb : Below w3.heap.size w3 w4 := hA.trans (hb.mono hA.size)
  replace A := A.below hb
  replace B := B.below hb
  replace C := C.below hb
  replace hB := hB.trans (hbb.mono hB.size)
  clear hb hbb hA  hc
  go_wp2_with fail
  have hA := Below.refl w4.heap.size w4
  have hc := cmp_any B A (by omega) (by omega)
  rw [cmpI_gt h.out] at hc
  refine (hc).mono ?_
  rintro e w5 ⟨rfl, hb⟩
  have hbb : Below w4.heap.size w4 w5 := hA.trans (hb.mono hA.size)
  replace A := A.below hb
  replace B := B.below hb
  replace C := C.below hb
  replace hB := hB.trans (hbb.mono hB.size)
  clear hb hbb hA  hc
  go_wp2_with fail
  have hA := Below.refl w5.heap.size w5
  have hc := cmp_any B C (by omega) (by omega)
  rw [cmpI_lt k.out] at hc
  refine (hc).mono ?_
  rintro e w6 ⟨rfl, hb⟩
  have hbb : Below w5.heap.size w5 w6 := hA.trans (hb.mono hA.size)
  replace A := A.below hb
  replace B := B.below hb
  replace C := C.below hb
  replace hB := hB.trans (hbb.mono hB.size)
  clear hb hbb hA  hc
  go_wp2_with fail
  have hA := Below.refl w6.heap.size w6
  refine (sub_no A B (by omega) (by omega) h.out).mono ?_
  rintro e w7 ⟨rfl, hb⟩
  have hbb : Below w6.heap.size w6 w7 := hA.trans (hb.mono hA.size)
  replace A := A.below hb
  replace B := B.below hb
  replace C := C.below hb
  replace hB := hB.trans (hbb.mono hB.size)
  clear hb hbb hA  
  go_wp2_with fail
  have hA := Below.refl w7.heap.size w7
  refine (trim_any A (by omega)).mono ?_
  rintro e w8 ⟨a1, c1, z1, rfl, S1, N1, v1, l1, hb⟩
  have V1 : Hid (val z1 = val xs) := v1
  have b1 : z1.length ≤ 60 := by omega
  have hbb : Below w7.heap.size w7 w8 := hA.trans (hb.mono hA.size)
  replace A := A.below hb
  replace B := B.below hb
  replace C := C.below hb
  replace hB := hB.trans (hbb.mono hB.size)
  clear hb hbb hA  v1 l1
  go_wp2_with fail
  have hA := Below.refl w8.heap.size w8
  refine (trim_any B (by omega)).mono ?_
  rintro e w9 ⟨a2, c2, z2, rfl, S2, N2, v2, l2, hb⟩
  have V2 : Hid (val z2 = val ys) := v2
  have b2 : z2.length ≤ 60 := by omega
  have hbb : Below w8.heap.size w8 w9 := hA.trans (hb.mono hA.size)
  replace A := A.below hb
  replace B := B.below hb
  replace C := C.below hb
  replace S1 := S1.below hb
  replace hB := hB.trans (hbb.mono hB.size)
  clear hb hbb hA  v2 l2
  go_wp2_with fail
  have hA := Below.refl w9.heap.size w9
  refine (same_no S1 S2 (by omega) (by intro e; have e1 := V1.out; have e2 := V2.out; rw [e] at e1; have := h.out; omega)).mono ?_
  rintro e w10 ⟨rfl, hb⟩
  have hbb : Below w9.heap.size w9 w10 := hA.trans (hb.mono hA.size)
  replace A := A.below hb
  replace B := B.below hb
  replace C := C.below hb
  replace S1 := S1.below hb
  replace S2 := S2.below hb
  replace hB := hB.trans (hbb.mono hB.size)
  clear hb hbb hA  
  go_wp2_with fail
  have hA := Below.refl w10.heap.size w10
  have hc := cmp_any A C (by omega) (by omega)
  rw [cmpI_lt (Int.lt_trans h.out k.out)] at hc
  refine (hc).mono ?_
  rintro e w11 ⟨rfl, hb⟩
  have hbb : Below w10.heap.size w10 w11 := hA.trans (hb.mono hA.size)
  replace A := A.below hb
  replace B := B.below hb
  replace C := C.below hb
  replace S1 := S1.below hb
  replace S2 := S2.below hb
  replace hB := hB.trans (hbb.mono hB.size)
  clear hb hbb hA  hc
  go_wp2_with fail
  have hA := Below.refl w11.heap.size w11
  refine (add_any A C (by omega) (by omega)).mono ?_
  rintro e w12 ⟨a3, c3, z3, rfl, S3, N3, v3, l3, hb⟩
  have V3 : Hid (val z3 = val xs + val zs) := v3
  have b3 : z3.length ≤ 61 := by omega
  have hbb : Below w11.heap.size w11 w12 := hA.trans (hb.mono hA.size)
  replace A := A.below hb
  replace B := B.below hb
  replace C := C.below hb
  replace S1 := S1.below hb
  replace S2 := S2.below hb
  replace hB := hB.trans (hbb.mono hB.size)
  clear hb hbb hA  v3 l3
  go_wp2_with fail
  have hA := Below.refl w12.heap.size w12
  refine (add_any B C (by omega) (by omega)).mono ?_
  rintro e w13 ⟨a4, c4, z4, rfl, S4, N4, v4, l4, hb⟩
  have V4 : Hid (val z4 = val ys + val zs) := v4
  have b4 : z4.length ≤ 61 := by omega
  have hbb : Below w12.heap.size w12 w13 := hA.trans (hb.mono hA.size)
  replace A := A.below hb
  replace B := B.below hb
  replace C := C.below hb
  replace S1 := S1.below hb
  replace S2 := S2.below hb
  replace S3 := S3.below hb
  replace hB := hB.trans (hbb.mono hB.size)
  clear hb hbb hA  v4 l4
  go_wp2_with fail
  have hA := Below.refl w13.heap.size w13
  have hc := cmp_any S3 S4 (by omega) (by omega)
  rw [cmpI_lt (show val z3 < val z4 by have := h.out; have := V3.out; have := V4.out; omega)] at hc
  refine (hc).mono ?_
  rintro e w14 ⟨rfl, hb⟩
  have hbb : Below w13.heap.size w13 w14 := hA.trans (hb.mono hA.size)
  replace A := A.below hb
  replace B := B.below hb
  replace C := C.below hb
  replace S1 := S1.below hb
  replace S2 := S2.below hb
  replace S3 := S3.below hb
  replace S4 := S4.below hb
  replace hB := hB.trans (hbb.mono hB.size)
  clear hb hbb hA  hc
  go_wp2_with fail
  have hA := Below.refl w14.heap.size w14
  refine (len_any A (by omega)).mono ?_
  rintro e w15 ⟨rfl, hb⟩
  have hbb : Below w14.heap.size w14 w15 := hA.trans (hb.mono hA.size)
  replace A := A.below hb
  replace B := B.below hb
  replace C := C.below hb
  replace S1 := S1.below hb
  replace S2 := S2.below hb
  replace S3 := S3.below hb
  replace S4 := S4.below hb
  replace hB := hB.trans (hbb.mono hB.size)
  clear hb hbb hA  
  go_wp2_with fail
  have hA := Below.refl w15.heap.size w15
  refine (len_any B (by omega)).mono ?_
  rintro e w16 ⟨rfl, hb⟩
  have hbb : Below w15.heap.size w15 w16 := hA.trans (hb.mono hA.size)
  replace A := A.below hb
  replace B := B.below hb
  replace C := C.below hb
  replace S1 := S1.below hb
  replace S2 := S2.below hb
  replace S3 := S3.below hb
  replace S4 := S4.below hb
  replace hB := hB.trans (hbb.mono hB.size)
  clear hb hbb hA  
  go_wp2
  go_ret
  exact ⟨rfl, hB⟩

set_option maxRecDepth 100000 in
set_option maxHeartbeats 4000000 in
theorem order_lt_ge {a b c : Option Addr} {ca cb cc : Nat} {xs ys zs : List Int} {w : World} (A : Seg 0 w (.slice a xs.length ca) xs) (B : Seg 0 w (.slice b ys.length cb) ys) (C : Seg 0 w (.slice c zs.length cc) zs) (hx : xs.length ≤ 60) (hy : ys.length ≤ 60) (hz : zs.length ≤ 60) (h : Hid (val xs < val ys)) (k : ¬ cmpI (val ys) (val zs) < 0) :
    Calls Try.prog 7 #[.slice a xs.length ca, .slice b ys.length cb, .slice c zs.length cc] w fun e w' => e = .returned (.bool true) ∧ Below w.heap.size w w' := by
  have l1 := fun w => long_any a b xs.length ca ys.length cb w
  have l2 := fun w => long_any c none zs.length cc 0 0 w
  rw [decide_eq_false (show ¬ (60 < xs.length ∨ 60 < ys.length) by omega)] at l1
  rw [decide_eq_false (show ¬ (60 < zs.length ∨ 60 < 0) by omega)] at l2
  have L1 := hide l1
  have L2 := hide l2
  clear l1 l2
  have bl : (blen (val xs) : Int) ≤ (blen (val ys) : Int) := by have := blen_mono (val_nonneg A.words) (show val xs ≤ val ys by have := h.out; omega); omega
  have hB := Below.refl w.heap.size w
  go_enter Try.func7, Try.ntmps7
  go_wp2_with fail
  have hA := Below.refl w.heap.size w
  refine (awake_any _).mono ?_
  rintro e w1 ⟨rfl, hb⟩
  have hbb : Below w.heap.size w w1 := hA.trans (hb.mono hA.size)
  replace A := A.below hb
  replace B := B.below hb
  replace C := C.below hb
  replace hB := hB.trans (hbb.mono hB.size)
  clear hb hbb hA  
  go_wp2_with fail
  have hA := Below.refl w1.heap.size w1
  refine (L1.out _).mono ?_
  rintro e w2 ⟨rfl, hw⟩
  have hb := hw_below hw
  clear hw
  have hbb : Below w1.heap.size w1 w2 := hA.trans (hb.mono hA.size)
  replace A := A.below hb
  replace B := B.below hb
  replace C := C.below hb
  replace hB := hB.trans (hbb.mono hB.size)
  clear hb hbb hA  
  go_wp2_with fail
  have hA := Below.refl w2.heap.size w2
  refine (L2.out _).mono ?_
  rintro e w3 ⟨rfl, hw⟩
  have hb := hw_below hw
  clear hw
  have hbb : Below w2.heap.size w2 w3 := hA.trans (hb.mono hA.size)
  replace A := A.below hb
  replace B := B.below hb
  replace C := C.below hb
  replace hB := hB.trans (hbb.mono hB.size)
  clear hb hbb hA  
  go_wp2_with fail
  have hA := Below.refl w3.heap.size w3
  have hc := cmp_any A B (by omega) (by omega)
  rw [cmpI_lt h.out] at hc
  refine (hc).mono ?_
  rintro e w4 ⟨rfl, hb⟩
  have hbb : Below w3.heap.size w3 w4 := hA.trans (hb.mono hA.size)
  replace A := A.below hb
  replace B := B.below hb
  replace C := C.below hb
  replace hB := hB.trans (hbb.mono hB.size)
  clear hb hbb hA  hc
  go_wp2_with fail
  have hA := Below.refl w4.heap.size w4
  have hc := cmp_any B A (by omega) (by omega)
  rw [cmpI_gt h.out] at hc
  refine (hc).mono ?_
  rintro e w5 ⟨rfl, hb⟩
  have hbb : Below w4.heap.size w4 w5 := hA.trans (hb.mono hA.size)
  replace A := A.below hb
  replace B := B.below hb
  replace C := C.below hb
  replace hB := hB.trans (hbb.mono hB.size)
  clear hb hbb hA  hc
  go_wp2_with fail
  have hA := Below.refl w5.heap.size w5
  have hc := cmp_any B C (by omega) (by omega)
  refine (hc).mono ?_
  rintro e w6 ⟨rfl, hb⟩
  have hbb : Below w5.heap.size w5 w6 := hA.trans (hb.mono hA.size)
  replace A := A.below hb
  replace B := B.below hb
  replace C := C.below hb
  replace hB := hB.trans (hbb.mono hB.size)
  clear hb hbb hA  hc
  go_wp2_with fail
  have hA := Below.refl w6.heap.size w6
  refine (sub_no A B (by omega) (by omega) h.out).mono ?_
  rintro e w7 ⟨rfl, hb⟩
  have hbb : Below w6.heap.size w6 w7 := hA.trans (hb.mono hA.size)
  replace A := A.below hb
  replace B := B.below hb
  replace C := C.below hb
  replace hB := hB.trans (hbb.mono hB.size)
  clear hb hbb hA  
  go_wp2_with fail
  have hA := Below.refl w7.heap.size w7
  refine (trim_any A (by omega)).mono ?_
  rintro e w8 ⟨a1, c1, z1, rfl, S1, N1, v1, l1, hb⟩
  have V1 : Hid (val z1 = val xs) := v1
  have b1 : z1.length ≤ 60 := by omega
  have hbb : Below w7.heap.size w7 w8 := hA.trans (hb.mono hA.size)
  replace A := A.below hb
  replace B := B.below hb
  replace C := C.below hb
  replace hB := hB.trans (hbb.mono hB.size)
  clear hb hbb hA  v1 l1
  go_wp2_with fail
  have hA := Below.refl w8.heap.size w8
  refine (trim_any B (by omega)).mono ?_
  rintro e w9 ⟨a2, c2, z2, rfl, S2, N2, v2, l2, hb⟩
  have V2 : Hid (val z2 = val ys) := v2
  have b2 : z2.length ≤ 60 := by omega
  have hbb : Below w8.heap.size w8 w9 := hA.trans (hb.mono hA.size)
  replace A := A.below hb
  replace B := B.below hb
  replace C := C.below hb
  replace S1 := S1.below hb
  replace hB := hB.trans (hbb.mono hB.size)
  clear hb hbb hA  v2 l2
  go_wp2_with fail
  have hA := Below.refl w9.heap.size w9
  refine (same_no S1 S2 (by omega) (by intro e; have e1 := V1.out; have e2 := V2.out; rw [e] at e1; have := h.out; omega)).mono ?_
  rintro e w10 ⟨rfl, hb⟩
  have hbb : Below w9.heap.size w9 w10 := hA.trans (hb.mono hA.size)
  replace A := A.below hb
  replace B := B.below hb
  replace C := C.below hb
  replace S1 := S1.below hb
  replace S2 := S2.below hb
  replace hB := hB.trans (hbb.mono hB.size)
  clear hb hbb hA  
  go_wp2_with fail
  have hA := Below.refl w10.heap.size w10
  refine (add_any A C (by omega) (by omega)).mono ?_
  rintro e w11 ⟨a3, c3, z3, rfl, S3, N3, v3, l3, hb⟩
  have V3 : Hid (val z3 = val xs + val zs) := v3
  have b3 : z3.length ≤ 61 := by omega
  have hbb : Below w10.heap.size w10 w11 := hA.trans (hb.mono hA.size)
  replace A := A.below hb
  replace B := B.below hb
  replace C := C.below hb
  replace S1 := S1.below hb
  replace S2 := S2.below hb
  replace hB := hB.trans (hbb.mono hB.size)
  clear hb hbb hA  v3 l3
  go_wp2_with fail
  have hA := Below.refl w11.heap.size w11
  refine (add_any B C (by omega) (by omega)).mono ?_
  rintro e w12 ⟨a4, c4, z4, rfl, S4, N4, v4, l4, hb⟩
  have V4 : Hid (val z4 = val ys + val zs) := v4
  have b4 : z4.length ≤ 61 := by omega
  have hbb : Below w11.heap.size w11 w12 := hA.trans (hb.mono hA.size)
  replace A := A.below hb
  replace B := B.below hb
  replace C := C.below hb
  replace S1 := S1.below hb
  replace S2 := S2.below hb
  replace S3 := S3.below hb
  replace hB := hB.trans (hbb.mono hB.size)
  clear hb hbb hA  v4 l4
  go_wp2_with fail
  have hA := Below.refl w12.heap.size w12
  have hc := cmp_any S3 S4 (by omega) (by omega)
  rw [cmpI_lt (show val z3 < val z4 by have := h.out; have := V3.out; have := V4.out; omega)] at hc
  refine (hc).mono ?_
  rintro e w13 ⟨rfl, hb⟩
  have hbb : Below w12.heap.size w12 w13 := hA.trans (hb.mono hA.size)
  replace A := A.below hb
  replace B := B.below hb
  replace C := C.below hb
  replace S1 := S1.below hb
  replace S2 := S2.below hb
  replace S3 := S3.below hb
  replace S4 := S4.below hb
  replace hB := hB.trans (hbb.mono hB.size)
  clear hb hbb hA  hc
  go_wp2_with fail
  have hA := Below.refl w13.heap.size w13
  refine (len_any A (by omega)).mono ?_
  rintro e w14 ⟨rfl, hb⟩
  have hbb : Below w13.heap.size w13 w14 := hA.trans (hb.mono hA.size)
  replace A := A.below hb
  replace B := B.below hb
  replace C := C.below hb
  replace S1 := S1.below hb
  replace S2 := S2.below hb
  replace S3 := S3.below hb
  replace S4 := S4.below hb
  replace hB := hB.trans (hbb.mono hB.size)
  clear hb hbb hA  
  go_wp2_with fail
  have hA := Below.refl w14.heap.size w14
  refine (len_any B (by omega)).mono ?_
  rintro e w15 ⟨rfl, hb⟩
  have hbb : Below w14.heap.size w14 w15 := hA.trans (hb.mono hA.size)
  replace A := A.below hb
  replace B := B.below hb
  replace C := C.below hb
  replace S1 := S1.below hb
  replace S2 := S2.below hb
  replace S3 := S3.below hb
  replace S4 := S4.below hb
  replace hB := hB.trans (hbb.mono hB.size)
  clear hb hbb hA  
  go_wp2
  go_ret
  exact ⟨rfl, hB⟩

set_option maxRecDepth 100000 in
set_option maxHeartbeats 4000000 in
theorem order_eq {a b c : Option Addr} {ca cb cc : Nat} {xs ys zs : List Int} {w : World} (A : Seg 0 w (.slice a xs.length ca) xs) (B : Seg 0 w (.slice b ys.length cb) ys) (C : Seg 0 w (.slice c zs.length cc) zs) (hx : xs.length ≤ 60) (hy : ys.length ≤ 60) (hz : zs.length ≤ 60) (h : Hid (val xs = val ys)) :
    Calls Try.prog 7 #[.slice a xs.length ca, .slice b ys.length cb, .slice c zs.length cc] w fun e w' => e = .returned (.bool true) ∧ Below w.heap.size w w' := by
  have l1 := fun w => long_any a b xs.length ca ys.length cb w
  have l2 := fun w => long_any c none zs.length cc 0 0 w
  rw [decide_eq_false (show ¬ (60 < xs.length ∨ 60 < ys.length) by omega)] at l1
  rw [decide_eq_false (show ¬ (60 < zs.length ∨ 60 < 0) by omega)] at l2
  have L1 := hide l1
  have L2 := hide l2
  clear l1 l2
  have bl : (blen (val xs) : Int) ≤ (blen (val ys) : Int) := by have := blen_mono (val_nonneg A.words) (show val xs ≤ val ys by have := h.out; omega); omega
  have hB := Below.refl w.heap.size w
  go_enter Try.func7, Try.ntmps7
  go_wp2_with fail
  have hA := Below.refl w.heap.size w
  refine (awake_any _).mono ?_
  rintro e w1 ⟨rfl, hb⟩
  have hbb : Below w.heap.size w w1 := hA.trans (hb.mono hA.size)
  replace A := A.below hb
  replace B := B.below hb
  replace C := C.below hb
  replace hB := hB.trans (hbb.mono hB.size)
  clear hb hbb hA  
  go_wp2_with fail
  have hA := Below.refl w1.heap.size w1
  refine (L1.out _).mono ?_
  rintro e w2 ⟨rfl, hw⟩
  have hb := hw_below hw
  clear hw
  have hbb : Below w1.heap.size w1 w2 := hA.trans (hb.mono hA.size)
  replace A := A.below hb
  replace B := B.below hb
  replace C := C.below hb
  replace hB := hB.trans (hbb.mono hB.size)
  clear hb hbb hA  
  go_wp2_with fail
  have hA := Below.refl w2.heap.size w2
  refine (L2.out _).mono ?_
  rintro e w3 ⟨rfl, hw⟩
  have hb := hw_below hw
  clear hw
  have hbb : Below w2.heap.size w2 w3 := hA.trans (hb.mono hA.size)
  replace A := A.below hb
  replace B := B.below hb
  replace C := C.below hb
  replace hB := hB.trans (hbb.mono hB.size)
  clear hb hbb hA  
  go_wp2_with fail
  have hA := Below.refl w3.heap.size w3
  have hc := cmp_any A B (by omega) (by omega)
  rw [(h.out.symm ▸ cmpI_eq _ : cmpI (val xs) (val ys) = 0)] at hc
  refine (hc).mono ?_
  rintro e w4 ⟨rfl, hb⟩
  have hbb : Below w3.heap.size w3 w4 := hA.trans (hb.mono hA.size)
  replace A := A.below hb
  replace B := B.below hb
  replace C := C.below hb
  replace hB := hB.trans (hbb.mono hB.size)
  clear hb hbb hA  hc
  go_wp2_with fail
  have hA := Below.refl w4.heap.size w4
  have hc := cmp_any B A (by omega) (by omega)
  rw [(h.out ▸ cmpI_eq _ : cmpI (val ys) (val xs) = 0)] at hc
  refine (hc).mono ?_
  rintro e w5 ⟨rfl, hb⟩
  have hbb : Below w4.heap.size w4 w5 := hA.trans (hb.mono hA.size)
  replace A := A.below hb
  replace B := B.below hb
  replace C := C.below hb
  replace hB := hB.trans (hbb.mono hB.size)
  clear hb hbb hA  hc
  go_wp2_with fail
  have hA := Below.refl w5.heap.size w5
  have hc := cmp_any B C (by omega) (by omega)
  refine (hc).mono ?_
  rintro e w6 ⟨rfl, hb⟩
  have hbb : Below w5.heap.size w5 w6 := hA.trans (hb.mono hA.size)
  replace A := A.below hb
  replace B := B.below hb
  replace C := C.below hb
  replace hB := hB.trans (hbb.mono hB.size)
  clear hb hbb hA  hc
  go_wp2_with fail
  have hA := Below.refl w6.heap.size w6
  refine (sub_yes A B (by omega) (by omega) (by have := h.out; omega)).mono ?_
  rintro e w7 ⟨_, _, _, rfl, _, _, _, _, hb⟩
  have hbb : Below w6.heap.size w6 w7 := hA.trans (hb.mono hA.size)
  replace A := A.below hb
  replace B := B.below hb
  replace C := C.below hb
  replace hB := hB.trans (hbb.mono hB.size)
  clear hb hbb hA  
  go_wp2_with fail
  have hA := Below.refl w7.heap.size w7
  refine (trim_any A (by omega)).mono ?_
  rintro e w8 ⟨a1, c1, z1, rfl, S1, N1, v1, l1, hb⟩
  have V1 : Hid (val z1 = val xs) := v1
  have b1 : z1.length ≤ 60 := by omega
  have hbb : Below w7.heap.size w7 w8 := hA.trans (hb.mono hA.size)
  replace A := A.below hb
  replace B := B.below hb
  replace C := C.below hb
  replace hB := hB.trans (hbb.mono hB.size)
  clear hb hbb hA  v1 l1
  go_wp2_with fail
  have hA := Below.refl w8.heap.size w8
  refine (trim_any B (by omega)).mono ?_
  rintro e w9 ⟨a2, c2, z2, rfl, S2, N2, v2, l2, hb⟩
  have V2 : Hid (val z2 = val ys) := v2
  have b2 : z2.length ≤ 60 := by omega
  have hbb : Below w8.heap.size w8 w9 := hA.trans (hb.mono hA.size)
  replace A := A.below hb
  replace B := B.below hb
  replace C := C.below hb
  replace S1 := S1.below hb
  replace hB := hB.trans (hbb.mono hB.size)
  clear hb hbb hA  v2 l2
  go_wp2_with fail
  have hA := Below.refl w9.heap.size w9
  refine (same_len S1 S2 (norm_unique S1.words S2.words N1 N2 (by rw [V1.out, V2.out]; exact h.out)) (by omega)).mono ?_
  rintro e w10 ⟨rfl, hb⟩
  have hbb : Below w9.heap.size w9 w10 := hA.trans (hb.mono hA.size)
  replace A := A.below hb
  replace B := B.below hb
  replace C := C.below hb
  replace S1 := S1.below hb
  replace S2 := S2.below hb
  replace hB := hB.trans (hbb.mono hB.size)
  clear hb hbb hA  
  go_wp2_with fail
  have hA := Below.refl w10.heap.size w10
  refine (add_any A C (by omega) (by omega)).mono ?_
  rintro e w11 ⟨a3, c3, z3, rfl, S3, N3, v3, l3, hb⟩
  have V3 : Hid (val z3 = val xs + val zs) := v3
  have b3 : z3.length ≤ 61 := by omega
  have hbb : Below w10.heap.size w10 w11 := hA.trans (hb.mono hA.size)
  replace A := A.below hb
  replace B := B.below hb
  replace C := C.below hb
  replace S1 := S1.below hb
  replace S2 := S2.below hb
  replace hB := hB.trans (hbb.mono hB.size)
  clear hb hbb hA  v3 l3
  go_wp2_with fail
  have hA := Below.refl w11.heap.size w11
  refine (add_any B C (by omega) (by omega)).mono ?_
  rintro e w12 ⟨a4, c4, z4, rfl, S4, N4, v4, l4, hb⟩
  have V4 : Hid (val z4 = val ys + val zs) := v4
  have b4 : z4.length ≤ 61 := by omega
  have hbb : Below w11.heap.size w11 w12 := hA.trans (hb.mono hA.size)
  replace A := A.below hb
  replace B := B.below hb
  replace C := C.below hb
  replace S1 := S1.below hb
  replace S2 := S2.below hb
  replace S3 := S3.below hb
  replace hB := hB.trans (hbb.mono hB.size)
  clear hb hbb hA  v4 l4
  go_wp2_with fail
  have hA := Below.refl w12.heap.size w12
  have hc := cmp_any S3 S4 (by omega) (by omega)
  rw [show val z3 = val z4 by (have := h.out; have := V3.out; have := V4.out; omega), cmpI_eq] at hc
  refine (hc).mono ?_
  rintro e w13 ⟨rfl, hb⟩
  have hbb : Below w12.heap.size w12 w13 := hA.trans (hb.mono hA.size)
  replace A := A.below hb
  replace B := B.below hb
  replace C := C.below hb
  replace S1 := S1.below hb
  replace S2 := S2.below hb
  replace S3 := S3.below hb
  replace S4 := S4.below hb
  replace hB := hB.trans (hbb.mono hB.size)
  clear hb hbb hA  hc
  go_wp2_with fail
  have hA := Below.refl w13.heap.size w13
  refine (len_any A (by omega)).mono ?_
  rintro e w14 ⟨rfl, hb⟩
  have hbb : Below w13.heap.size w13 w14 := hA.trans (hb.mono hA.size)
  replace A := A.below hb
  replace B := B.below hb
  replace C := C.below hb
  replace S1 := S1.below hb
  replace S2 := S2.below hb
  replace S3 := S3.below hb
  replace S4 := S4.below hb
  replace hB := hB.trans (hbb.mono hB.size)
  clear hb hbb hA  
  go_wp2_with fail
  have hA := Below.refl w14.heap.size w14
  refine (len_any B (by omega)).mono ?_
  rintro e w15 ⟨rfl, hb⟩
  have hbb : Below w14.heap.size w14 w15 := hA.trans (hb.mono hA.size)
  replace A := A.below hb
  replace B := B.below hb
  replace C := C.below hb
  replace S1 := S1.below hb
  replace S2 := S2.below hb
  replace S3 := S3.below hb
  replace S4 := S4.below hb
  replace hB := hB.trans (hbb.mono hB.size)
  clear hb hbb hA  
  go_wp2
  go_ret
  exact ⟨rfl, hB⟩

set_option maxRecDepth 100000 in
set_option maxHeartbeats 4000000 in
theorem order_gt_le {a b c : Option Addr} {ca cb cc : Nat} {xs ys zs : List Int} {w : World} (A : Seg 0 w (.slice a xs.length ca) xs) (B : Seg 0 w (.slice b ys.length cb) ys) (C : Seg 0 w (.slice c zs.length cc) zs) (hx : xs.length ≤ 60) (hy : ys.length ≤ 60) (hz : zs.length ≤ 60) (h : Hid (val ys < val xs)) (bl : (blen (val xs) : Int) ≤ (blen (val ys) : Int)) :
    Calls Try.prog 7 #[.slice a xs.length ca, .slice b ys.length cb, .slice c zs.length cc] w fun e w' => e = .returned (.bool true) ∧ Below w.heap.size w w' := by
  have l1 := fun w => long_any a b xs.length ca ys.length cb w
  have l2 := fun w => long_any c none zs.length cc 0 0 w
  rw [decide_eq_false (show ¬ (60 < xs.length ∨ 60 < ys.length) by omega)] at l1
  rw [decide_eq_false (show ¬ (60 < zs.length ∨ 60 < 0) by omega)] at l2
  have L1 := hide l1
  have L2 := hide l2
  clear l1 l2
  have hB := Below.refl w.heap.size w
  go_enter Try.func7, Try.ntmps7
  go_wp2_with fail
  have hA := Below.refl w.heap.size w
  refine (awake_any _).mono ?_
  rintro e w1 ⟨rfl, hb⟩
  have hbb : Below w.heap.size w w1 := hA.trans (hb.mono hA.size)
  replace A := A.below hb
  replace B := B.below hb
  replace C := C.below hb
  replace hB := hB.trans (hbb.mono hB.size)
  clear hb hbb hA  
  go_wp2_with fail
  have hA := Below.refl w1.heap.size w1
  refine (L1.out _).mono ?_
  rintro e w2 ⟨rfl, hw⟩
  have hb := hw_below hw
  clear hw
  have hbb : Below w1.heap.size w1 w2 := hA.trans (hb.mono hA.size)
  replace A := A.below hb
  replace B := B.below hb
  replace C := C.below hb
  replace hB := hB.trans (hbb.mono hB.size)
  clear hb hbb hA  
  go_wp2_with fail
  have hA := Below.refl w2.heap.size w2
  refine (L2.out _).mono ?_
  rintro e w3 ⟨rfl, hw⟩
  have hb := hw_below hw
  clear hw
  have hbb : Below w2.heap.size w2 w3 := hA.trans (hb.mono hA.size)
  replace A := A.below hb
  replace B := B.below hb
  replace C := C.below hb
  replace hB := hB.trans (hbb.mono hB.size)
  clear hb hbb hA  
  go_wp2_with fail
  have hA := Below.refl w3.heap.size w3
  have hc := cmp_any A B (by omega) (by omega)
  rw [cmpI_gt h.out] at hc
  refine (hc).mono ?_
  rintro e w4 ⟨rfl, hb⟩
  have hbb : Below w3.heap.size w3 w4 := hA.trans (hb.mono hA.size)
  replace A := A.below hb
  replace B := B.below hb
  replace C := C.below hb
  replace hB := hB.trans (hbb.mono hB.size)
  clear hb hbb hA  hc
  go_wp2_with fail
  have hA := Below.refl w4.heap.size w4
  have hc := cmp_any B A (by omega) (by omega)
  rw [cmpI_lt h.out] at hc
  refine (hc).mono ?_
  rintro e w5 ⟨rfl, hb⟩
  have hbb : Below w4.heap.size w4 w5 := hA.trans (hb.mono hA.size)
  replace A := A.below hb
  replace B := B.below hb
  replace C := C.below hb
  replace hB := hB.trans (hbb.mono hB.size)
  clear hb hbb hA  hc
  go_wp2_with fail
  have hA := Below.refl w5.heap.size w5
  have hc := cmp_any B C (by omega) (by omega)
  refine (hc).mono ?_
  rintro e w6 ⟨rfl, hb⟩
  have hbb : Below w5.heap.size w5 w6 := hA.trans (hb.mono hA.size)
  replace A := A.below hb
  replace B := B.below hb
  replace C := C.below hb
  replace hB := hB.trans (hbb.mono hB.size)
  clear hb hbb hA  hc
  go_wp2_with fail
  have hA := Below.refl w6.heap.size w6
  refine (sub_yes A B (by omega) (by omega) (by have := h.out; omega)).mono ?_
  rintro e w7 ⟨_, _, _, rfl, _, _, _, _, hb⟩
  have hbb : Below w6.heap.size w6 w7 := hA.trans (hb.mono hA.size)
  replace A := A.below hb
  replace B := B.below hb
  replace C := C.below hb
  replace hB := hB.trans (hbb.mono hB.size)
  clear hb hbb hA  
  go_wp2_with fail
  have hA := Below.refl w7.heap.size w7
  refine (trim_any A (by omega)).mono ?_
  rintro e w8 ⟨a1, c1, z1, rfl, S1, N1, v1, l1, hb⟩
  have V1 : Hid (val z1 = val xs) := v1
  have b1 : z1.length ≤ 60 := by omega
  have hbb : Below w7.heap.size w7 w8 := hA.trans (hb.mono hA.size)
  replace A := A.below hb
  replace B := B.below hb
  replace C := C.below hb
  replace hB := hB.trans (hbb.mono hB.size)
  clear hb hbb hA  v1 l1
  go_wp2_with fail
  have hA := Below.refl w8.heap.size w8
  refine (trim_any B (by omega)).mono ?_
  rintro e w9 ⟨a2, c2, z2, rfl, S2, N2, v2, l2, hb⟩
  have V2 : Hid (val z2 = val ys) := v2
  have b2 : z2.length ≤ 60 := by omega
  have hbb : Below w8.heap.size w8 w9 := hA.trans (hb.mono hA.size)
  replace A := A.below hb
  replace B := B.below hb
  replace C := C.below hb
  replace S1 := S1.below hb
  replace hB := hB.trans (hbb.mono hB.size)
  clear hb hbb hA  v2 l2
  go_wp2_with fail
  have hA := Below.refl w9.heap.size w9
  refine (same_no S1 S2 (by omega) (by intro e; have e1 := V1.out; have e2 := V2.out; rw [e] at e1; have := h.out; omega)).mono ?_
  rintro e w10 ⟨rfl, hb⟩
  have hbb : Below w9.heap.size w9 w10 := hA.trans (hb.mono hA.size)
  replace A := A.below hb
  replace B := B.below hb
  replace C := C.below hb
  replace S1 := S1.below hb
  replace S2 := S2.below hb
  replace hB := hB.trans (hbb.mono hB.size)
  clear hb hbb hA  
  go_wp2_with fail
  have hA := Below.refl w10.heap.size w10
  refine (add_any A C (by omega) (by omega)).mono ?_
  rintro e w11 ⟨a3, c3, z3, rfl, S3, N3, v3, l3, hb⟩
  have V3 : Hid (val z3 = val xs + val zs) := v3
  have b3 : z3.length ≤ 61 := by omega
  have hbb : Below w10.heap.size w10 w11 := hA.trans (hb.mono hA.size)
  replace A := A.below hb
  replace B := B.below hb
  replace C := C.below hb
  replace S1 := S1.below hb
  replace S2 := S2.below hb
  replace hB := hB.trans (hbb.mono hB.size)
  clear hb hbb hA  v3 l3
  go_wp2_with fail
  have hA := Below.refl w11.heap.size w11
  refine (add_any B C (by omega) (by omega)).mono ?_
  rintro e w12 ⟨a4, c4, z4, rfl, S4, N4, v4, l4, hb⟩
  have V4 : Hid (val z4 = val ys + val zs) := v4
  have b4 : z4.length ≤ 61 := by omega
  have hbb : Below w11.heap.size w11 w12 := hA.trans (hb.mono hA.size)
  replace A := A.below hb
  replace B := B.below hb
  replace C := C.below hb
  replace S1 := S1.below hb
  replace S2 := S2.below hb
  replace S3 := S3.below hb
  replace hB := hB.trans (hbb.mono hB.size)
  clear hb hbb hA  v4 l4
  go_wp2_with fail
  have hA := Below.refl w12.heap.size w12
  have hc := cmp_any S3 S4 (by omega) (by omega)
  rw [cmpI_gt (show val z4 < val z3 by have := h.out; have := V3.out; have := V4.out; omega)] at hc
  refine (hc).mono ?_
  rintro e w13 ⟨rfl, hb⟩
  have hbb : Below w12.heap.size w12 w13 := hA.trans (hb.mono hA.size)
  replace A := A.below hb
  replace B := B.below hb
  replace C := C.below hb
  replace S1 := S1.below hb
  replace S2 := S2.below hb
  replace S3 := S3.below hb
  replace S4 := S4.below hb
  replace hB := hB.trans (hbb.mono hB.size)
  clear hb hbb hA  hc
  go_wp2_with fail
  have hA := Below.refl w13.heap.size w13
  refine (len_any A (by omega)).mono ?_
  rintro e w14 ⟨rfl, hb⟩
  have hbb : Below w13.heap.size w13 w14 := hA.trans (hb.mono hA.size)
  replace A := A.below hb
  replace B := B.below hb
  replace C := C.below hb
  replace S1 := S1.below hb
  replace S2 := S2.below hb
  replace S3 := S3.below hb
  replace S4 := S4.below hb
  replace hB := hB.trans (hbb.mono hB.size)
  clear hb hbb hA  
  go_wp2_with fail
  have hA := Below.refl w14.heap.size w14
  refine (len_any B (by omega)).mono ?_
  rintro e w15 ⟨rfl, hb⟩
  have hbb : Below w14.heap.size w14 w15 := hA.trans (hb.mono hA.size)
  replace A := A.below hb
  replace B := B.below hb
  replace C := C.below hb
  replace S1 := S1.below hb
  replace S2 := S2.below hb
  replace S3 := S3.below hb
  replace S4 := S4.below hb
  replace hB := hB.trans (hbb.mono hB.size)
  clear hb hbb hA  
  go_wp2
  go_ret
  exact ⟨rfl, hB⟩

set_option maxRecDepth 100000 in
set_option maxHeartbeats 4000000 in
theorem order_gt_gt {a b c : Option Addr} {ca cb cc : Nat} {xs ys zs : List Int} {w : World} (A : Seg 0 w (.slice a xs.length ca) xs) (B : Seg 0 w (.slice b ys.length cb) ys) (C : Seg 0 w (.slice c zs.length cc) zs) (hx : xs.length ≤ 60) (hy : ys.length ≤ 60) (hz : zs.length ≤ 60) (h : Hid (val ys < val xs)) (bl : ¬ (blen (val xs) : Int) ≤ (blen (val ys) : Int)) :
    Calls Try.prog 7 #[.slice a xs.length ca, .slice b ys.length cb, .slice c zs.length cc] w fun e w' => e = .returned (.bool true) ∧ Below w.heap.size w w' := by
  have l1 := fun w => long_any a b xs.length ca ys.length cb w
  have l2 := fun w => long_any c none zs.length cc 0 0 w
  rw [decide_eq_false (show ¬ (60 < xs.length ∨ 60 < ys.length) by omega)] at l1
  rw [decide_eq_false (show ¬ (60 < zs.length ∨ 60 < 0) by omega)] at l2
  have L1 := hide l1
  have L2 := hide l2
  clear l1 l2
  have hB := Below.refl w.heap.size w
  go_enter Try.func7, Try.ntmps7
  go_wp2_with fail
  have hA := Below.refl w.heap.size w
  refine (awake_any _).mono ?_
  rintro e w1 ⟨rfl, hb⟩
  have hbb : Below w.heap.size w w1 := hA.trans (hb.mono hA.size)
  replace A := A.below hb
  replace B := B.below hb
  replace C := C.below hb
  replace hB := hB.trans (hbb.mono hB.size)
  clear hb hbb hA  
  go_wp2_with fail
  have hA := Below.refl w1.heap.size w1
  refine (L1.out _).mono ?_
  rintro e w2 ⟨rfl, hw⟩
  have hb := hw_below hw
  clear hw
  have hbb : Below w1.heap.size w1 w2 := hA.trans (hb.mono hA.size)
  replace A := A.below hb
  replace B := B.below hb
  replace C := C.below hb
  replace hB := hB.trans (hbb.mono hB.size)
  clear hb hbb hA  
  go_wp2_with fail
  have hA := Below.refl w2.heap.size w2
  refine (L2.out _).mono ?_
  rintro e w3 ⟨rfl, hw⟩
  have hb := hw_below hw
  clear hw
  have hbb : Below w2.heap.size w2 w3 := hA.trans (hb.mono hA.size)
  replace A := A.below hb
  replace B := B.below hb
  replace C := C.below hb
  replace hB := hB.trans (hbb.mono hB.size)
  clear hb hbb hA  
  go_wp2_with fail
  have hA := Below.refl w3.heap.size w3
  have hc := cmp_any A B (by omega) (by omega)
  rw [cmpI_gt h.out] at hc
  refine (hc).mono ?_
  rintro e w4 ⟨rfl, hb⟩
  have hbb : Below w3.heap.size w3 w4 := hA.trans (hb.mono hA.size)
  replace A := A.below hb
  replace B := B.below hb
  replace C := C.below hb
  replace hB := hB.trans (hbb.mono hB.size)
  clear hb hbb hA  hc
  go_wp2_with fail
  have hA := Below.refl w4.heap.size w4
  have hc := cmp_any B A (by omega) (by omega)
  rw [cmpI_lt h.out] at hc
  refine (hc).mono ?_
  rintro e w5 ⟨rfl, hb⟩
  have hbb : Below w4.heap.size w4 w5 := hA.trans (hb.mono hA.size)
  replace A := A.below hb
  replace B := B.below hb
  replace C := C.below hb
  replace hB := hB.trans (hbb.mono hB.size)
  clear hb hbb hA  hc
  go_wp2_with fail
  have hA := Below.refl w5.heap.size w5
  have hc := cmp_any B C (by omega) (by omega)
  refine (hc).mono ?_
  rintro e w6 ⟨rfl, hb⟩
  have hbb : Below w5.heap.size w5 w6 := hA.trans (hb.mono hA.size)
  replace A := A.below hb
  replace B := B.below hb
  replace C := C.below hb
  replace hB := hB.trans (hbb.mono hB.size)
  clear hb hbb hA  hc
  go_wp2_with fail
  have hA := Below.refl w6.heap.size w6
  refine (sub_yes A B (by omega) (by omega) (by have := h.out; omega)).mono ?_
  rintro e w7 ⟨_, _, _, rfl, _, _, _, _, hb⟩
  have hbb : Below w6.heap.size w6 w7 := hA.trans (hb.mono hA.size)
  replace A := A.below hb
  replace B := B.below hb
  replace C := C.below hb
  replace hB := hB.trans (hbb.mono hB.size)
  clear hb hbb hA  
  go_wp2_with fail
  have hA := Below.refl w7.heap.size w7
  refine (trim_any A (by omega)).mono ?_
  rintro e w8 ⟨a1, c1, z1, rfl, S1, N1, v1, l1, hb⟩
  have V1 : Hid (val z1 = val xs) := v1
  have b1 : z1.length ≤ 60 := by omega
  have hbb : Below w7.heap.size w7 w8 := hA.trans (hb.mono hA.size)
  replace A := A.below hb
  replace B := B.below hb
  replace C := C.below hb
  replace hB := hB.trans (hbb.mono hB.size)
  clear hb hbb hA  v1 l1
  go_wp2_with fail
  have hA := Below.refl w8.heap.size w8
  refine (trim_any B (by omega)).mono ?_
  rintro e w9 ⟨a2, c2, z2, rfl, S2, N2, v2, l2, hb⟩
  have V2 : Hid (val z2 = val ys) := v2
  have b2 : z2.length ≤ 60 := by omega
  have hbb : Below w8.heap.size w8 w9 := hA.trans (hb.mono hA.size)
  replace A := A.below hb
  replace B := B.below hb
  replace C := C.below hb
  replace S1 := S1.below hb
  replace hB := hB.trans (hbb.mono hB.size)
  clear hb hbb hA  v2 l2
  go_wp2_with fail
  have hA := Below.refl w9.heap.size w9
  refine (same_no S1 S2 (by omega) (by intro e; have e1 := V1.out; have e2 := V2.out; rw [e] at e1; have := h.out; omega)).mono ?_
  rintro e w10 ⟨rfl, hb⟩
  have hbb : Below w9.heap.size w9 w10 := hA.trans (hb.mono hA.size)
  replace A := A.below hb
  replace B := B.below hb
  replace C := C.below hb
  replace S1 := S1.below hb
  replace S2 := S2.below hb
  replace hB := hB.trans (hbb.mono hB.size)
  clear hb hbb hA  
  go_wp2_with fail
  have hA := Below.refl w10.heap.size w10
  refine (add_any A C (by omega) (by omega)).mono ?_
  rintro e w11 ⟨a3, c3, z3, rfl, S3, N3, v3, l3, hb⟩
  have V3 : Hid (val z3 = val xs + val zs) := v3
  have b3 : z3.length ≤ 61 := by omega
  have hbb : Below w10.heap.size w10 w11 := hA.trans (hb.mono hA.size)
  replace A := A.below hb
  replace B := B.below hb
  replace C := C.below hb
  replace S1 := S1.below hb
  replace S2 := S2.below hb
  replace hB := hB.trans (hbb.mono hB.size)
  clear hb hbb hA  v3 l3
  go_wp2_with fail
  have hA := Below.refl w11.heap.size w11
  refine (add_any B C (by omega) (by omega)).mono ?_
  rintro e w12 ⟨a4, c4, z4, rfl, S4, N4, v4, l4, hb⟩
  have V4 : Hid (val z4 = val ys + val zs) := v4
  have b4 : z4.length ≤ 61 := by omega
  have hbb : Below w11.heap.size w11 w12 := hA.trans (hb.mono hA.size)
  replace A := A.below hb
  replace B := B.below hb
  replace C := C.below hb
  replace S1 := S1.below hb
  replace S2 := S2.below hb
  replace S3 := S3.below hb
  replace hB := hB.trans (hbb.mono hB.size)
  clear hb hbb hA  v4 l4
  go_wp2_with fail
  have hA := Below.refl w12.heap.size w12
  have hc := cmp_any S3 S4 (by omega) (by omega)
  rw [cmpI_gt (show val z4 < val z3 by have := h.out; have := V3.out; have := V4.out; omega)] at hc
  refine (hc).mono ?_
  rintro e w13 ⟨rfl, hb⟩
  have hbb : Below w12.heap.size w12 w13 := hA.trans (hb.mono hA.size)
  replace A := A.below hb
  replace B := B.below hb
  replace C := C.below hb
  replace S1 := S1.below hb
  replace S2 := S2.below hb
  replace S3 := S3.below hb
  replace S4 := S4.below hb
  replace hB := hB.trans (hbb.mono hB.size)
  clear hb hbb hA  hc
  go_wp2_with fail
  have hA := Below.refl w13.heap.size w13
  refine (len_any A (by omega)).mono ?_
  rintro e w14 ⟨rfl, hb⟩
  have hbb : Below w13.heap.size w13 w14 := hA.trans (hb.mono hA.size)
  replace A := A.below hb
  replace B := B.below hb
  replace C := C.below hb
  replace S1 := S1.below hb
  replace S2 := S2.below hb
  replace S3 := S3.below hb
  replace S4 := S4.below hb
  replace hB := hB.trans (hbb.mono hB.size)
  clear hb hbb hA  
  go_wp2_with fail
  have hA := Below.refl w14.heap.size w14
  refine (len_any B (by omega)).mono ?_
  rintro e w15 ⟨rfl, hb⟩
  have hbb : Below w14.heap.size w14 w15 := hA.trans (hb.mono hA.size)
  replace A := A.below hb
  replace B := B.below hb
  replace C := C.below hb
  replace S1 := S1.below hb
  replace S2 := S2.below hb
  replace S3 := S3.below hb
  replace S4 := S4.below hb
  replace hB := hB.trans (hbb.mono hB.size)
  clear hb hbb hA  
  go_wp2
  go_ret
  exact ⟨rfl, hB⟩
end Go.Proofs.Ytfcndibfbficbaa
