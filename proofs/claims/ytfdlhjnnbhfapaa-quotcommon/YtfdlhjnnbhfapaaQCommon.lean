/-
  The walk of QuotCommon.
-/
import Derived.Test.YtfdlhjnnbhfapaaQKnown
namespace Go.Proofs.Ytfdlhjnnbhfapaa
open Go.RowKit

set_option maxRecDepth 100000 in
set_option maxHeartbeats 1000000 in
/-- Where a list is long. -/
theorem common_long (a : Option Addr) (la ca : Nat) (b : Option Addr) (lb cb : Nat) (w : World) (h : 8 < la ∨ 8 < lb) :
    Calls Try.prog 4 #[.slice a la ca, .slice b lb cb] w fun e w' => e = .returned (.bool true) ∧ Below w.heap.size w w' := by
  have q0 := fun w => longNat_any a la ca 8 w
  have q1 := fun w => longNat_any b lb cb 8 w
  by_cases g0 : 8 < la
  · rw [decide_eq_true (show (8 : Int) < (la : Int) by omega)] at q0
    have Q0 := hide q0
    clear h g0 q0 q1
    go_enter Try.func4, Try.ntmps4
    go_wp2_with fail
    refine (Q0.out _).mono ?_
    rintro e w2 ⟨rfl, rfl⟩
    go_wp2_with fail
    refine (awake_any _).mono ?_
    rintro e w3 ⟨rfl, hb3⟩
    go_wp2
    go_ret
    exact ⟨rfl, hb3⟩
  · rw [decide_eq_false (show ¬ (8 : Int) < (la : Int) by omega)] at q0
    have Q0 := hide q0
    clear q0
    rw [decide_eq_true (show (8 : Int) < (lb : Int) by omega)] at q1
    have Q1 := hide q1
    clear h q1
    go_enter Try.func4, Try.ntmps4
    go_wp2_with fail
    refine (Q0.out _).mono ?_
    rintro e w2 ⟨rfl, rfl⟩
    go_wp2_with fail
    refine (Q1.out _).mono ?_
    rintro e w2 ⟨rfl, rfl⟩
    go_wp2_with fail
    refine (awake_any _).mono ?_
    rintro e w3 ⟨rfl, hb3⟩
    go_wp2
    go_ret
    exact ⟨rfl, hb3⟩

set_option maxRecDepth 100000 in
set_option maxHeartbeats 4000000 in
theorem common_short {a : Option Addr} {ca : Nat} {xs : List Int} {b : Option Addr} {cb : Nat} {ys : List Int} {w : World} (A : Seg 0 w (.slice a xs.length ca) xs) (B : Seg 0 w (.slice b ys.length cb) ys) (hx : xs.length ≤ 8) (hy : ys.length ≤ 8) :
    Calls Try.prog 4 #[.slice a xs.length ca, .slice b ys.length cb] w fun e w' => e = .returned (.bool true) ∧ Below w.heap.size w w' := by
  have q0 := fun w => longNat_any a xs.length ca 8 w
  rw [decide_eq_false (show ¬ (8 : Int) < (xs.length : Int) by omega)] at q0
  have Q0 := hide q0
  have px := val_nonneg A.words
  have q1 := fun w => longNat_any b ys.length cb 8 w
  rw [decide_eq_false (show ¬ (8 : Int) < (ys.length : Int) by omega)] at q1
  have Q1 := hide q1
  have py := val_nonneg B.words
  clear q0 q1
  have hB := Below.refl w.heap.size w
  go_enter Try.func4, Try.ntmps4
  go_wp2_with fail
  have hA := Below.refl w.heap.size w
  refine (Q0.out _).mono ?_
  rintro e w1 ⟨rfl, hw⟩
  have hb := hw_below hw
  clear hw
  have hbb : Below w.heap.size w w1 := hA.trans (hb.mono hA.size)
  replace A := A.below hb
  replace B := B.below hb
  have z1 := hbb.size
  replace hB := hB.trans (hbb.mono hB.size)
  clear hb hbb hA  
  go_wp2_with fail
  have hA := Below.refl w1.heap.size w1
  refine (Q1.out _).mono ?_
  rintro e w2 ⟨rfl, hw⟩
  have hb := hw_below hw
  clear hw
  have hbb : Below w1.heap.size w1 w2 := hA.trans (hb.mono hA.size)
  replace A := A.below hb
  replace B := B.below hb
  have z2 := hbb.size
  replace hB := hB.trans (hbb.mono hB.size)
  clear hb hbb hA  
  go_wp2_with fail
  have hA := Below.refl w2.heap.size w2
  refine (copy_any A (by omega)).mono ?_
  rintro e w3 ⟨ai, ci, rfl, I, hb⟩
  have hbb : Below w2.heap.size w2 w3 := hA.trans (hb.mono hA.size)
  replace A := A.below hb
  replace B := B.below hb
  have z3 := hbb.size
  replace hB := hB.trans (hbb.mono hB.size)
  clear hb hbb hA  
  go_wp2_with fail
  have hA := Below.refl w3.heap.size w3
  refine (copy_any B (by omega)).mono ?_
  rintro e w4 ⟨aj, cj, rfl, J, hb⟩
  have hbb : Below w3.heap.size w3 w4 := hA.trans (hb.mono hA.size)
  replace A := A.below hb
  replace B := B.below hb
  replace I := I.below hb
  have z4 := hbb.size
  replace hB := hB.trans (hbb.mono hB.size)
  clear hb hbb hA  
  have A3 := A
  have B3 := B
  have I3 := I
  have J3 := J
  have h3 := Below.refl w4.heap.size w4
  go_wp2_with fail
  have hA := Below.refl w4.heap.size w4
  refine (qgcd_len I J (by omega) (by omega)).mono ?_
  rintro e w5 ⟨a1, c1, z1, rfl, S1, N1, v1, l1, hb⟩
  have V1 : Hid (val z1 = gcdI (val xs) (val ys)) := v1
  have b1 : z1.length ≤ 8 := by omega
  have hbb : Below w4.heap.size w4 w5 := hA.trans (hb.mono hA.size)
  replace A := A.below hb
  replace B := B.below hb
  replace I := I.below hb
  replace J := J.below hb
  have z5 := hbb.size
  replace hB := hB.trans (hbb.mono hB.size)
  replace h3 := h3.trans (hbb.mono h3.size)
  clear hb hbb hA  v1 l1
  go_wp2_with fail
  have hA := Below.refl w5.heap.size w5
  refine (rgcd_any A B (by omega) (by omega)).mono ?_
  rintro e w6 ⟨a2, c2, z2, rfl, S2, N2, v2, l2, hb⟩
  have V2 : Hid (val z2 = gcdI (val xs) (val ys)) := v2
  have b2 : z2.length ≤ 8 := by omega
  have hbb : Below w5.heap.size w5 w6 := hA.trans (hb.mono hA.size)
  replace A := A.below hb
  replace B := B.below hb
  replace I := I.below hb
  replace J := J.below hb
  replace S1 := S1.below hb
  have z6 := hbb.size
  replace hB := hB.trans (hbb.mono hB.size)
  replace h3 := h3.trans (hbb.mono h3.size)
  clear hb hbb hA  v2 l2
  go_wp2_with fail
  have hA := Below.refl w6.heap.size w6
  refine (same_len S1 S2 (norm_unique S1.words S2.words N1 N2 (by rw [V1.out, V2.out])) (by omega)).mono ?_
  rintro e w7 ⟨rfl, hb⟩
  have hbb : Below w6.heap.size w6 w7 := hA.trans (hb.mono hA.size)
  replace A := A.below hb
  replace B := B.below hb
  replace I := I.below hb
  replace J := J.below hb
  replace S1 := S1.below hb
  replace S2 := S2.below hb
  have z7 := hbb.size
  replace hB := hB.trans (hbb.mono hB.size)
  replace h3 := h3.trans (hbb.mono h3.size)
  clear hb hbb hA  
  clear A B I J S2
  go_wp2_with fail
  refine (over_ot S1 (by omega)).mono ?_
  rintro e w8 ⟨rfl, ho⟩
  replace hB := hB.trans (ho.below.mono (by omega))
  replace h3 := h3.trans (ho.below.mono (by omega))
  have z8 := ho.below.size
  clear ho S1
  have A := A3.below h3
  have B := B3.below h3
  have I := I3.below h3
  have J := J3.below h3
  go_wp2_with fail
  have hA := Below.refl w8.heap.size w8
  refine (same_len I A rfl (by omega)).mono ?_
  rintro e w9 ⟨rfl, hb⟩
  have hbb : Below w8.heap.size w8 w9 := hA.trans (hb.mono hA.size)
  replace A := A.below hb
  replace B := B.below hb
  replace I := I.below hb
  replace J := J.below hb
  have z9 := hbb.size
  replace hB := hB.trans (hbb.mono hB.size)
  replace h3 := h3.trans (hbb.mono h3.size)
  clear hb hbb hA  
  go_wp2_with fail
  have hA := Below.refl w9.heap.size w9
  refine (same_len J B rfl (by omega)).mono ?_
  rintro e w10 ⟨rfl, hb⟩
  have hbb : Below w9.heap.size w9 w10 := hA.trans (hb.mono hA.size)
  replace A := A.below hb
  replace B := B.below hb
  replace I := I.below hb
  replace J := J.below hb
  have z10 := hbb.size
  replace hB := hB.trans (hbb.mono hB.size)
  replace h3 := h3.trans (hbb.mono h3.size)
  clear hb hbb hA  
  go_wp2_with fail
  have hA := Below.refl w10.heap.size w10
  refine (awake_any _).mono ?_
  rintro e w11 ⟨rfl, hb⟩
  have hbb : Below w10.heap.size w10 w11 := hA.trans (hb.mono hA.size)
  replace A := A.below hb
  replace B := B.below hb
  replace I := I.below hb
  replace J := J.below hb
  have z11 := hbb.size
  replace hB := hB.trans (hbb.mono hB.size)
  replace h3 := h3.trans (hbb.mono h3.size)
  clear hb hbb hA  
  go_wp2
  go_ret
  exact ⟨rfl, hB⟩

theorem common_any {a b : Option Addr} {la ca lb cb : Nat} {xs ys : List Int} {w : World} (A : Seg 0 w (.slice a la ca) xs) (B : Seg 0 w (.slice b lb cb) ys) :
    Calls Try.prog 4 #[.slice a la ca, .slice b lb cb] w fun e w' => e = .returned (.bool true) ∧ Below w.heap.size w w' := by
  by_cases h : 8 < la ∨ 8 < lb
  · exact common_long a la ca b lb cb w h
  · obtain ⟨rfl, _⟩ := A.len
    obtain ⟨rfl, _⟩ := B.len
    exact common_short A B (by omega) (by omega)
end Go.Proofs.Ytfdlhjnnbhfapaa
