/-
  The walk of TimesPowers.
-/
import Derived.Test.YtmgngkmdfccjaaaTSums
namespace Go.Proofs.Ytmgngkmdfccjaaa
open Go.RowKit

set_option maxRecDepth 100000 in
set_option maxHeartbeats 1000000 in
/-- Where a list is long. -/
theorem powers_long (a : Option Addr) (la ca : Nat) (n : Int) (w : World) (h : 6 < la) :
    Calls Try.prog 4 #[.slice a la ca, .int .i64 n] w fun e w' => e = .returned (.bool true) ∧ Below w.heap.size w w' := by
  have q0 := fun w => longNat_any a la ca 6 w
  rw [decide_eq_true (show (6 : Int) < (la : Int) by omega)] at q0
  have Q0 := hide q0
  clear h q0
  go_enter Try.func4, Try.ntmps4
  go_wp2_with fail
  refine (Q0.out _).mono ?_
  rintro e w2 ⟨rfl, rfl⟩
  go_wp2_with fail
  refine (awake_any _).mono ?_
  rintro e w3 ⟨rfl, hb3⟩
  go_wp2
  go_ret
  exact ⟨rfl, hb3⟩

set_option maxRecDepth 100000 in
set_option maxHeartbeats 4000000 in
theorem powers_skip {a : Option Addr} {ca : Nat} {xs : List Int} {w : World} (A : Seg 0 w (.slice a xs.length ca) xs) (hx : xs.length ≤ 6) (n : Int) (hl : 40 < n ∧ n ≤ 65536) :
    Calls Try.prog 4 #[.slice a xs.length ca, .int .i64 n] w fun e w' => e = .returned (.bool true) ∧ Below w.heap.size w w' := by
  have q0 := fun w => longNat_any a xs.length ca 6 w
  rw [decide_eq_false (show ¬ (6 : Int) < (xs.length : Int) by omega)] at q0
  have Q0 := hide q0
  have px := val_nonneg A.words
  clear q0
  have hB := Below.refl w.heap.size w
  go_enter Try.func4, Try.ntmps4
  go_wp2_with (go_at_call 23; refine (ofl_any _ _ _ _).mono ?_; rintro e w' ⟨rfl, rfl⟩)
  have hA := Below.refl w.heap.size w
  refine (Q0.out _).mono ?_
  rintro e w1 ⟨rfl, hw⟩
  have hb := hw_below hw
  clear hw
  have hbb : Below w.heap.size w w1 := hA.trans (hb.mono hA.size)
  replace A := A.below hb
  replace hB := hB.trans (hbb.mono hB.size)
  clear hb hbb hA  
  go_wp2_with (go_at_call 23; refine (ofl_any _ _ _ _).mono ?_; rintro e w' ⟨rfl, rfl⟩)
  have hA := Below.refl w1.heap.size w1
  refine (awake_any _).mono ?_
  rintro e w2 ⟨rfl, hb⟩
  have hbb : Below w1.heap.size w1 w2 := hA.trans (hb.mono hA.size)
  replace A := A.below hb
  replace hB := hB.trans (hbb.mono hB.size)
  clear hb hbb hA  
  go_wp2
  go_ret
  exact ⟨rfl, hB⟩

set_option maxRecDepth 100000 in
set_option maxHeartbeats 4000000 in
theorem powers_yes {a : Option Addr} {ca : Nat} {xs : List Int} {w : World} (A : Seg 0 w (.slice a xs.length ca) xs) (hx : xs.length ≤ 6) (n : Int) (hl : 0 ≤ n ∧ n ≤ 40) :
    Calls Try.prog 4 #[.slice a xs.length ca, .int .i64 n] w fun e w' => e = .returned (.bool true) ∧ Below w.heap.size w w' := by
  have q0 := fun w => longNat_any a xs.length ca 6 w
  rw [decide_eq_false (show ¬ (6 : Int) < (xs.length : Int) by omega)] at q0
  have Q0 := hide q0
  have px := val_nonneg A.words
  clear q0
  have lx := Nat.le_trans (blen_words_le A.words) (show 64 * xs.length ≤ 384 by omega)
  have BF := hide (bits_fit (M := 40) (L := 384) hl.1 hl.2 lx)
  have PF := hide (Nat.le_trans (pow_fit (l := xs.length) (m := n) (M := 7) (k := 6) (by omega) (by omega) (by omega)) (show 7 * 2 ^ (6 + 1) ≤ 4000 by decide))
  have LF := hide (len_small (l := xs.length) (L := 6) (m := n.toNat) (k := 40) (b := 2000) (by omega) (by omega) (by decide))
  clear lx
  have hB := Below.refl w.heap.size w
  go_enter Try.func4, Try.ntmps4
  go_wp2_with (go_at_call 23; refine (ofl_any _ _ _ _).mono ?_; rintro e w' ⟨rfl, rfl⟩)
  have hA := Below.refl w.heap.size w
  refine (Q0.out _).mono ?_
  rintro e w1 ⟨rfl, hw⟩
  have hb := hw_below hw
  clear hw
  have hbb : Below w.heap.size w w1 := hA.trans (hb.mono hA.size)
  replace A := A.below hb
  have z1 := hbb.size
  replace hB := hB.trans (hbb.mono hB.size)
  clear hb hbb hA  
  go_wp2_with (go_at_call 23; refine (ofl_any _ _ _ _).mono ?_; rintro e w' ⟨rfl, rfl⟩)
  have hA := Below.refl w1.heap.size w1
  refine (copy_any A (by omega)).mono ?_
  rintro e w2 ⟨ai, ci, rfl, I, hb⟩
  have hbb : Below w1.heap.size w1 w2 := hA.trans (hb.mono hA.size)
  replace A := A.below hb
  have z2 := hbb.size
  replace hB := hB.trans (hbb.mono hB.size)
  clear hb hbb hA  
  have A3 := A
  have I3 := I
  have h3 := Below.refl w2.heap.size w2
  go_wp2_with (go_at_call 23; refine (ofl_any _ _ _ _).mono ?_; rintro e w' ⟨rfl, rfl⟩)
  have hA := Below.refl w2.heap.size w2
  refine (power_int I n hl.1 (by omega) (by have := BF.out; omega) PF.out).mono ?_
  rintro e w3 ⟨a1, c1, z1, rfl, S1, N1, v1, l1, hb⟩
  have V1 := hide v1
  have b1 : z1.length ≤ 2000 := Nat.le_trans l1 LF.out
  have hbb : Below w2.heap.size w2 w3 := hA.trans (hb.mono hA.size)
  replace A := A.below hb
  replace I := I.below hb
  have z3 := hbb.size
  replace hB := hB.trans (hbb.mono hB.size)
  replace h3 := h3.trans (hbb.mono h3.size)
  clear hb hbb hA  v1 l1
  have R1 := S1.block
  go_wp2_with (go_at_call 23; refine (ofl_any _ _ _ _).mono ?_; rintro e w' ⟨rfl, rfl⟩)
  have hA := Below.refl w3.heap.size w3
  refine (rpower_int A n hl.1 (by omega) (by have := BF.out; omega) (by omega) LF.out).mono ?_
  rintro e w4 ⟨a2, c2, z2, rfl, S2, N2, v2, l2, hb⟩
  have V2 := hide v2
  have hbb : Below w3.heap.size w3 w4 := hA.trans (hb.mono hA.size)
  replace A := A.below hb
  replace I := I.below hb
  replace S1 := S1.below hb
  have z4 := hbb.size
  replace hB := hB.trans (hbb.mono hB.size)
  replace h3 := h3.trans (hbb.mono h3.size)
  clear hb hbb hA  v2 l2
  go_wp2_with (go_at_call 23; refine (ofl_any _ _ _ _).mono ?_; rintro e w' ⟨rfl, rfl⟩)
  have hA := Below.refl w4.heap.size w4
  refine (same_len S1 S2 (norm_unique S1.words S2.words N1 N2 (by rw [V1.out, V2.out])) (by omega)).mono ?_
  rintro e w5 ⟨rfl, hb⟩
  have hbb : Below w4.heap.size w4 w5 := hA.trans (hb.mono hA.size)
  replace A := A.below hb
  replace I := I.below hb
  replace S1 := S1.below hb
  replace S2 := S2.below hb
  have z5 := hbb.size
  replace hB := hB.trans (hbb.mono hB.size)
  replace h3 := h3.trans (hbb.mono h3.size)
  clear hb hbb hA  
  clear A I S2
  go_wp2_with (go_at_call 23; refine (ofl_any _ _ _ _).mono ?_; rintro e w' ⟨rfl, rfl⟩)
  refine (over_fr S1 (by omega) w3.heap.size R1).mono ?_
  rintro e w6 ⟨rfl, hlo, hhi⟩
  replace hB := hB.trans (hlo.mono (by omega))
  replace h3 := h3.trans (hlo.mono (by omega))
  have z6 := hlo.size
  clear hlo hhi S1 R1
  have A := A3.below h3
  have I := I3.below h3
  go_wp2_with (go_at_call 23; refine (ofl_any _ _ _ _).mono ?_; rintro e w' ⟨rfl, rfl⟩)
  have hA := Below.refl w6.heap.size w6
  refine (same_len I A rfl (by omega)).mono ?_
  rintro e w7 ⟨rfl, hb⟩
  have hbb : Below w6.heap.size w6 w7 := hA.trans (hb.mono hA.size)
  replace A := A.below hb
  replace I := I.below hb
  have z7 := hbb.size
  replace hB := hB.trans (hbb.mono hB.size)
  replace h3 := h3.trans (hbb.mono h3.size)
  clear hb hbb hA  
  go_wp2_with (go_at_call 23; refine (ofl_any _ _ _ _).mono ?_; rintro e w' ⟨rfl, rfl⟩)
  have hA := Below.refl w7.heap.size w7
  refine (awake_any _).mono ?_
  rintro e w8 ⟨rfl, hb⟩
  have hbb : Below w7.heap.size w7 w8 := hA.trans (hb.mono hA.size)
  replace A := A.below hb
  replace I := I.below hb
  have z8 := hbb.size
  replace hB := hB.trans (hbb.mono hB.size)
  replace h3 := h3.trans (hbb.mono h3.size)
  clear hb hbb hA  
  go_wp2
  go_ret
  exact ⟨rfl, hB⟩

set_option maxRecDepth 100000 in
set_option maxHeartbeats 4000000 in
theorem powers_low {a : Option Addr} {ca : Nat} {xs : List Int} {w : World} (A : Seg 0 w (.slice a xs.length ca) xs) (hx : xs.length ≤ 6) (n : Int) (hl : n < 0) :
    Calls Try.prog 4 #[.slice a xs.length ca, .int .i64 n] w fun e w' => e = .returned (.bool true) ∧ Below w.heap.size w w' := by
  have q0 := fun w => longNat_any a xs.length ca 6 w
  rw [decide_eq_false (show ¬ (6 : Int) < (xs.length : Int) by omega)] at q0
  have Q0 := hide q0
  have px := val_nonneg A.words
  clear q0
  have hB := Below.refl w.heap.size w
  go_enter Try.func4, Try.ntmps4
  go_wp2_with (go_at_call 23; refine (ofl_any _ _ _ _).mono ?_; rintro e w' ⟨rfl, rfl⟩)
  have hA := Below.refl w.heap.size w
  refine (Q0.out _).mono ?_
  rintro e w1 ⟨rfl, hw⟩
  have hb := hw_below hw
  clear hw
  have hbb : Below w.heap.size w w1 := hA.trans (hb.mono hA.size)
  replace A := A.below hb
  have z1 := hbb.size
  replace hB := hB.trans (hbb.mono hB.size)
  clear hb hbb hA  
  go_wp2_with (go_at_call 23; refine (ofl_any _ _ _ _).mono ?_; rintro e w' ⟨rfl, rfl⟩)
  have hA := Below.refl w1.heap.size w1
  refine (copy_any A (by omega)).mono ?_
  rintro e w2 ⟨ai, ci, rfl, I, hb⟩
  have hbb : Below w1.heap.size w1 w2 := hA.trans (hb.mono hA.size)
  replace A := A.below hb
  have z2 := hbb.size
  replace hB := hB.trans (hbb.mono hB.size)
  clear hb hbb hA  
  have A3 := A
  have I3 := I
  have h3 := Below.refl w2.heap.size w2
  go_wp2_with (go_at_call 23; refine (ofl_any _ _ _ _).mono ?_; rintro e w' ⟨rfl, rfl⟩)
  have hA := Below.refl w2.heap.size w2
  refine (power_range _ _ _ n (by omega) _).mono ?_
  rintro e w3 ⟨rfl, hb⟩
  have hbb : Below w2.heap.size w2 w3 := hA.trans (hb.mono hA.size)
  replace A := A.below hb
  replace I := I.below hb
  have z3 := hbb.size
  replace hB := hB.trans (hbb.mono hB.size)
  replace h3 := h3.trans (hbb.mono h3.size)
  clear hb hbb hA  
  go_wp2_with (go_at_call 23; refine (ofl_any _ _ _ _).mono ?_; rintro e w' ⟨rfl, rfl⟩)
  have hA := Below.refl w3.heap.size w3
  refine (rpower_range _ _ _ n (by omega) _).mono ?_
  rintro e w4 ⟨rfl, hw⟩
  have hb := hw_below hw
  clear hw
  have hbb : Below w3.heap.size w3 w4 := hA.trans (hb.mono hA.size)
  replace A := A.below hb
  replace I := I.below hb
  have z4 := hbb.size
  replace hB := hB.trans (hbb.mono hB.size)
  replace h3 := h3.trans (hbb.mono h3.size)
  clear hb hbb hA  
  go_wp2_with (go_at_call 23; refine (ofl_any _ _ _ _).mono ?_; rintro e w' ⟨rfl, rfl⟩)
  have hA := Below.refl w4.heap.size w4
  refine (same_len (Seg.nil 0 _) (Seg.nil 0 _) rfl (by simp)).mono ?_
  rintro e w5 ⟨rfl, hb⟩
  have hbb : Below w4.heap.size w4 w5 := hA.trans (hb.mono hA.size)
  replace A := A.below hb
  replace I := I.below hb
  have z5 := hbb.size
  replace hB := hB.trans (hbb.mono hB.size)
  replace h3 := h3.trans (hbb.mono h3.size)
  clear hb hbb hA  
  clear A I
  go_wp2_with (go_at_call 23; refine (ofl_any _ _ _ _).mono ?_; rintro e w' ⟨rfl, rfl⟩)
  refine (over_fr (Seg.nil w5.heap.size _) (by simp) 0 (fun h => absurd rfl h)).mono ?_
  rintro e w6 ⟨rfl, hlo, _⟩
  replace hB := hB.trans (hlo.mono (by omega))
  replace h3 := h3.trans (hlo.mono (by omega))
  have z6 := hlo.size
  clear hlo
  have A := A3.below h3
  have I := I3.below h3
  go_wp2_with (go_at_call 23; refine (ofl_any _ _ _ _).mono ?_; rintro e w' ⟨rfl, rfl⟩)
  have hA := Below.refl w6.heap.size w6
  refine (same_len I A rfl (by omega)).mono ?_
  rintro e w7 ⟨rfl, hb⟩
  have hbb : Below w6.heap.size w6 w7 := hA.trans (hb.mono hA.size)
  replace A := A.below hb
  replace I := I.below hb
  have z7 := hbb.size
  replace hB := hB.trans (hbb.mono hB.size)
  replace h3 := h3.trans (hbb.mono h3.size)
  clear hb hbb hA  
  go_wp2_with (go_at_call 23; refine (ofl_any _ _ _ _).mono ?_; rintro e w' ⟨rfl, rfl⟩)
  have hA := Below.refl w7.heap.size w7
  refine (awake_any _).mono ?_
  rintro e w8 ⟨rfl, hb⟩
  have hbb : Below w7.heap.size w7 w8 := hA.trans (hb.mono hA.size)
  replace A := A.below hb
  replace I := I.below hb
  have z8 := hbb.size
  replace hB := hB.trans (hbb.mono hB.size)
  replace h3 := h3.trans (hbb.mono h3.size)
  clear hb hbb hA  
  go_wp2
  go_ret
  exact ⟨rfl, hB⟩

set_option maxRecDepth 100000 in
set_option maxHeartbeats 4000000 in
theorem powers_high {a : Option Addr} {ca : Nat} {xs : List Int} {w : World} (A : Seg 0 w (.slice a xs.length ca) xs) (hx : xs.length ≤ 6) (n : Int) (hl : 65536 < n) :
    Calls Try.prog 4 #[.slice a xs.length ca, .int .i64 n] w fun e w' => e = .returned (.bool true) ∧ Below w.heap.size w w' := by
  have q0 := fun w => longNat_any a xs.length ca 6 w
  rw [decide_eq_false (show ¬ (6 : Int) < (xs.length : Int) by omega)] at q0
  have Q0 := hide q0
  have px := val_nonneg A.words
  clear q0
  have hB := Below.refl w.heap.size w
  go_enter Try.func4, Try.ntmps4
  go_wp2_with (go_at_call 23; refine (ofl_any _ _ _ _).mono ?_; rintro e w' ⟨rfl, rfl⟩)
  have hA := Below.refl w.heap.size w
  refine (Q0.out _).mono ?_
  rintro e w1 ⟨rfl, hw⟩
  have hb := hw_below hw
  clear hw
  have hbb : Below w.heap.size w w1 := hA.trans (hb.mono hA.size)
  replace A := A.below hb
  have z1 := hbb.size
  replace hB := hB.trans (hbb.mono hB.size)
  clear hb hbb hA  
  go_wp2_with (go_at_call 23; refine (ofl_any _ _ _ _).mono ?_; rintro e w' ⟨rfl, rfl⟩)
  have hA := Below.refl w1.heap.size w1
  refine (copy_any A (by omega)).mono ?_
  rintro e w2 ⟨ai, ci, rfl, I, hb⟩
  have hbb : Below w1.heap.size w1 w2 := hA.trans (hb.mono hA.size)
  replace A := A.below hb
  have z2 := hbb.size
  replace hB := hB.trans (hbb.mono hB.size)
  clear hb hbb hA  
  have A3 := A
  have I3 := I
  have h3 := Below.refl w2.heap.size w2
  go_wp2_with (go_at_call 23; refine (ofl_any _ _ _ _).mono ?_; rintro e w' ⟨rfl, rfl⟩)
  have hA := Below.refl w2.heap.size w2
  refine (power_range _ _ _ n (by omega) _).mono ?_
  rintro e w3 ⟨rfl, hb⟩
  have hbb : Below w2.heap.size w2 w3 := hA.trans (hb.mono hA.size)
  replace A := A.below hb
  replace I := I.below hb
  have z3 := hbb.size
  replace hB := hB.trans (hbb.mono hB.size)
  replace h3 := h3.trans (hbb.mono h3.size)
  clear hb hbb hA  
  go_wp2_with (go_at_call 23; refine (ofl_any _ _ _ _).mono ?_; rintro e w' ⟨rfl, rfl⟩)
  have hA := Below.refl w3.heap.size w3
  refine (rpower_range _ _ _ n (by omega) _).mono ?_
  rintro e w4 ⟨rfl, hw⟩
  have hb := hw_below hw
  clear hw
  have hbb : Below w3.heap.size w3 w4 := hA.trans (hb.mono hA.size)
  replace A := A.below hb
  replace I := I.below hb
  have z4 := hbb.size
  replace hB := hB.trans (hbb.mono hB.size)
  replace h3 := h3.trans (hbb.mono h3.size)
  clear hb hbb hA  
  go_wp2_with (go_at_call 23; refine (ofl_any _ _ _ _).mono ?_; rintro e w' ⟨rfl, rfl⟩)
  have hA := Below.refl w4.heap.size w4
  refine (same_len (Seg.nil 0 _) (Seg.nil 0 _) rfl (by simp)).mono ?_
  rintro e w5 ⟨rfl, hb⟩
  have hbb : Below w4.heap.size w4 w5 := hA.trans (hb.mono hA.size)
  replace A := A.below hb
  replace I := I.below hb
  have z5 := hbb.size
  replace hB := hB.trans (hbb.mono hB.size)
  replace h3 := h3.trans (hbb.mono h3.size)
  clear hb hbb hA  
  clear A I
  go_wp2_with (go_at_call 23; refine (ofl_any _ _ _ _).mono ?_; rintro e w' ⟨rfl, rfl⟩)
  refine (over_fr (Seg.nil w5.heap.size _) (by simp) 0 (fun h => absurd rfl h)).mono ?_
  rintro e w6 ⟨rfl, hlo, _⟩
  replace hB := hB.trans (hlo.mono (by omega))
  replace h3 := h3.trans (hlo.mono (by omega))
  have z6 := hlo.size
  clear hlo
  have A := A3.below h3
  have I := I3.below h3
  go_wp2_with (go_at_call 23; refine (ofl_any _ _ _ _).mono ?_; rintro e w' ⟨rfl, rfl⟩)
  have hA := Below.refl w6.heap.size w6
  refine (same_len I A rfl (by omega)).mono ?_
  rintro e w7 ⟨rfl, hb⟩
  have hbb : Below w6.heap.size w6 w7 := hA.trans (hb.mono hA.size)
  replace A := A.below hb
  replace I := I.below hb
  have z7 := hbb.size
  replace hB := hB.trans (hbb.mono hB.size)
  replace h3 := h3.trans (hbb.mono h3.size)
  clear hb hbb hA  
  go_wp2_with (go_at_call 23; refine (ofl_any _ _ _ _).mono ?_; rintro e w' ⟨rfl, rfl⟩)
  have hA := Below.refl w7.heap.size w7
  refine (awake_any _).mono ?_
  rintro e w8 ⟨rfl, hb⟩
  have hbb : Below w7.heap.size w7 w8 := hA.trans (hb.mono hA.size)
  replace A := A.below hb
  replace I := I.below hb
  have z8 := hbb.size
  replace hB := hB.trans (hbb.mono hB.size)
  replace h3 := h3.trans (hbb.mono h3.size)
  clear hb hbb hA  
  go_wp2
  go_ret
  exact ⟨rfl, hB⟩

theorem powers_any {a : Option Addr} {la ca : Nat} {xs : List Int} {w : World} (A : Seg 0 w (.slice a la ca) xs) (n : Int) (_ : -9223372036854775808 ≤ n ∧ n ≤ 9223372036854775807) :
    Calls Try.prog 4 #[.slice a la ca, .int .i64 n] w fun e w' => e = .returned (.bool true) ∧ Below w.heap.size w w' := by
  by_cases h : 6 < la
  · exact powers_long a la ca n w h
  · obtain ⟨rfl, _⟩ := A.len
    by_cases h1 : n < 0
    · exact powers_low A (by omega) n h1
    · by_cases h2 : 65536 < n
      · exact powers_high A (by omega) n h2
      · by_cases h3 : 40 < n
        · exact powers_skip A (by omega) n (by omega)
        · exact powers_yes A (by omega) n (by omega)
#print axioms powers_any
end Go.Proofs.Ytmgngkmdfccjaaa
