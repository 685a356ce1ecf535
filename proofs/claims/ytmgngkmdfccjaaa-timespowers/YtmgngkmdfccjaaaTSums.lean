/-
  The walk of TimesSums.
-/
import Derived.Test.YtmgngkmdfccjaaaTBits
namespace Go.Proofs.Ytmgngkmdfccjaaa
open Go.RowKit

theorem bits_fit {m M : Int} {b L : Nat} (h0 : 0 ≤ m) (h : m ≤ M) (hb : b ≤ L) : m * (b : Int) ≤ M * (L : Int) := Int.mul_le_mul h (by omega) (by omega) (by omega)
theorem pow_fit {l M k : Nat} {m : Int} (hl : l + 1 ≤ M) (h0 : 0 ≤ m) (hm : m < ((2 ^ k : Nat) : Int)) : (l + 1) * 2 ^ (blen m + 1) ≤ M * 2 ^ (k + 1) := by
  obtain ⟨n, rfl⟩ := Int.eq_ofNat_of_zero_le h0
  have := blen_lt (v := n) (k := k) (by omega)
  exact Nat.mul_le_mul hl (Nat.pow_le_pow_right (by decide) (by omega))
theorem len_small {l L m k b : Nat} (hl : l ≤ L) (hm : m ≤ k) (h : L * k + 1 ≤ b) : l * m + 1 ≤ b := by
  have := Nat.mul_le_mul hl hm
  omega
theorem pow_times (x : Int) (m : Nat) : ∀ n : Nat, x ^ (m * n) = (x ^ m) ^ n
  | 0 => by rw [Nat.mul_zero, Int.pow_zero, Int.pow_zero]
  | n + 1 => by rw [Nat.mul_succ, Int.pow_add, pow_times x m n, Int.pow_succ]
theorem small_product (m n : Nat) (hm : (m : Int) < 10) (hn : (n : Int) < 10) : m ≤ 9 ∧ n ≤ 9 ∧ 0 ≤ (m : Int) * (n : Int) ∧ (m : Int) * (n : Int) ≤ 81 ∧ IntKind.i64.wrap ((m : Int) * (n : Int)) = (m : Int) * (n : Int) ∧ Hid (((m : Int) * (n : Int)).toNat = m * n) := by
  have h : m * n ≤ 9 * 9 := Nat.mul_le_mul (by omega) (by omega)
  rw [← Int.natCast_mul, Hid, Int.toNat_natCast, IntKind.wrap_i64]
  omega

set_option maxRecDepth 100000 in
set_option maxHeartbeats 1000000 in
/-- Where a list is long. -/
theorem psums_long (a : Option Addr) (la ca : Nat) (k : Int) (j : Int) (w : World) (h : 4 < la) :
    Calls Try.prog 8 #[.slice a la ca, .int .i64 k, .int .i64 j] w fun e w' => e = .returned (.bool true) ∧ Below w.heap.size w w' := by
  have q0 := fun w => longNat_any a la ca 4 w
  rw [decide_eq_true (show (4 : Int) < (la : Int) by omega)] at q0
  have Q0 := hide q0
  clear h q0
  go_enter Try.func8, Try.ntmps8
  go_wp2_with fail
  refine (awake_any w).mono ?_
  rintro e w1 ⟨rfl, hb1⟩
  go_wp2_with fail
  refine (Q0.out _).mono ?_
  rintro e w2 ⟨rfl, rfl⟩
  go_wp2
  go_ret
  exact ⟨rfl, hb1⟩

set_option maxRecDepth 100000 in
set_option maxHeartbeats 4000000 in
theorem psums_short {a : Option Addr} {ca : Nat} {xs : List Int} {w : World} (A : Seg 0 w (.slice a xs.length ca) xs) (hx : xs.length ≤ 4) (k : Int) (j : Int) (hk : -9223372036854775808 ≤ k ∧ k ≤ 9223372036854775807) (hj : -9223372036854775808 ≤ j ∧ j ≤ 9223372036854775807) :
    Calls Try.prog 8 #[.slice a xs.length ca, .int .i64 k, .int .i64 j] w fun e w' => e = .returned (.bool true) ∧ Below w.heap.size w w' := by
  have q0 := fun w => longNat_any a xs.length ca 4 w
  rw [decide_eq_false (show ¬ (4 : Int) < (xs.length : Int) by omega)] at q0
  have Q0 := hide q0
  have px := val_nonneg A.words
  clear q0
  have lx := Nat.le_trans (blen_words_le A.words) (show 64 * xs.length ≤ 256 by omega)
  have hB := Below.refl w.heap.size w
  go_enter Try.func8, Try.ntmps8
  go_wp2_with (go_at_call 23; refine (ofl_any _ _ _ _).mono ?_; rintro e w' ⟨rfl, rfl⟩)
  have hA := Below.refl w.heap.size w
  refine (awake_any _).mono ?_
  rintro e w1 ⟨rfl, hb⟩
  have hbb : Below w.heap.size w w1 := hA.trans (hb.mono hA.size)
  replace A := A.below hb
  replace hB := hB.trans (hbb.mono hB.size)
  clear hb hbb hA  
  go_wp2_with (go_at_call 23; refine (ofl_any _ _ _ _).mono ?_; rintro e w' ⟨rfl, rfl⟩)
  have hA := Below.refl w1.heap.size w1
  refine (Q0.out _).mono ?_
  rintro e w2 ⟨rfl, hw⟩
  have hb := hw_below hw
  clear hw
  have hbb : Below w1.heap.size w1 w2 := hA.trans (hb.mono hA.size)
  replace A := A.below hb
  replace hB := hB.trans (hbb.mono hB.size)
  clear hb hbb hA  
  go_wp2_with (go_at_call 23; refine (ofl_any _ _ _ _).mono ?_; rintro e w' ⟨rfl, rfl⟩)
  have hA := Below.refl w2.heap.size w2
  refine (pick_below 10 (.inr rfl) k hk.1 hk.2 _).mono ?_
  rintro e w3 ⟨m, hm, rfl, hw⟩
  have hb := hw_below hw
  clear hw
  have hbb : Below w2.heap.size w2 w3 := hA.trans (hb.mono hA.size)
  replace A := A.below hb
  replace hB := hB.trans (hbb.mono hB.size)
  clear hb hbb hA  
  go_wp2_with (go_at_call 23; refine (ofl_any _ _ _ _).mono ?_; rintro e w' ⟨rfl, rfl⟩)
  have hA := Below.refl w3.heap.size w3
  refine (pick_below 10 (.inr rfl) j hj.1 hj.2 _).mono ?_
  rintro e w4 ⟨n, hn, rfl, hw⟩
  have hb := hw_below hw
  clear hw
  have hbb : Below w3.heap.size w3 w4 := hA.trans (hb.mono hA.size)
  replace A := A.below hb
  replace hB := hB.trans (hbb.mono hB.size)
  clear hb hbb hA  
  obtain ⟨f1, f2, hmn, hmn1, hw, HMN⟩ := small_product m n hm hn
  have b1 := hide (bits_fit (m := (m : Int)) (M := 9) (L := 256) (by omega) (by omega) lx)
  have b2 := hide (bits_fit (m := (n : Int)) (M := 9) (L := 256) (by omega) (by omega) lx)
  have b3 := hide (bits_fit (m := (m : Int) + (n : Int)) (M := 18) (L := 256) (by omega) (by omega) lx)
  have b4 := hide (bits_fit (m := (m : Int) * (n : Int)) (M := 81) (L := 256) hmn hmn1 lx)
  go_wp2_with (go_at_call 23; refine (ofl_any _ _ _ _).mono ?_; rintro e w' ⟨rfl, rfl⟩)
  have hA := Below.refl w4.heap.size w4
  refine (power_int A (m : Int) (by omega) (by omega) (by have := b1.out; omega) (Nat.le_trans (pow_fit (M := 5) (k := 4) (by omega) (by omega) (by omega)) (by decide))).mono ?_
  rintro e w5 ⟨a1, c1, z1, rfl, S1, N1, v1, l1, hb⟩
  have V1 : Hid (val z1 = val xs ^ m) := v1
  have B1 : Hid (z1.length ≤ 37) := Nat.le_trans l1 (len_small (k := 9) hx (by omega) (by decide))
  have hbb : Below w4.heap.size w4 w5 := hA.trans (hb.mono hA.size)
  replace A := A.below hb
  replace hB := hB.trans (hbb.mono hB.size)
  clear hb hbb hA  v1 l1
  go_wp2_with (go_at_call 23; refine (ofl_any _ _ _ _).mono ?_; rintro e w' ⟨rfl, rfl⟩)
  have hA := Below.refl w5.heap.size w5
  refine (power_int A (n : Int) (by omega) (by omega) (by have := b2.out; omega) (Nat.le_trans (pow_fit (M := 5) (k := 4) (by omega) (by omega) (by omega)) (by decide))).mono ?_
  rintro e w6 ⟨a2, c2, z2, rfl, S2, N2, v2, l2, hb⟩
  have V2 : Hid (val z2 = val xs ^ n) := v2
  have B2 : Hid (z2.length ≤ 37) := Nat.le_trans l2 (len_small (k := 9) hx (by omega) (by decide))
  have hbb : Below w5.heap.size w5 w6 := hA.trans (hb.mono hA.size)
  replace A := A.below hb
  replace S1 := S1.below hb
  replace hB := hB.trans (hbb.mono hB.size)
  clear hb hbb hA  v2 l2
  go_wp2_with (go_at_call 23; refine (ofl_any _ _ _ _).mono ?_; rintro e w' ⟨rfl, rfl⟩)
  have hA := Below.refl w6.heap.size w6
  refine (power_int A ((m : Int) + (n : Int)) (by omega) (by omega) (by have := b3.out; omega) (Nat.le_trans (pow_fit (M := 5) (k := 5) (by omega) (by omega) (by omega)) (by decide))).mono ?_
  rintro e w7 ⟨a3, c3, z3, rfl, S3, N3, v3, l3, hb⟩
  have V3 : Hid (val z3 = val xs ^ (m + n)) := by rw [Hid, v3, show ((m : Int) + (n : Int)).toNat = m + n by omega]
  have B3 : Hid (z3.length ≤ 73) := Nat.le_trans l3 (len_small (k := 18) hx (by omega) (by decide))
  have hbb : Below w6.heap.size w6 w7 := hA.trans (hb.mono hA.size)
  replace A := A.below hb
  replace S1 := S1.below hb
  replace S2 := S2.below hb
  replace hB := hB.trans (hbb.mono hB.size)
  clear hb hbb hA  v3 l3
  have lz := Nat.le_trans (blen_words_le S1.words) (show 64 * z1.length ≤ 2368 by have := B1.out; omega)
  have b5 := hide (bits_fit (m := (n : Int)) (M := 9) (L := 2368) (by omega) (by omega) lz)
  have hz1 : z1.length ≤ 37 := B1.out
  go_wp2_with (go_at_call 23; refine (ofl_any _ _ _ _).mono ?_; rintro e w' ⟨rfl, rfl⟩)
  have hA := Below.refl w7.heap.size w7
  refine (power_int S1 (n : Int) (by omega) (by omega) (by have := b5.out; omega) (Nat.le_trans (pow_fit (M := 38) (k := 4) (by omega) (by omega) (by omega)) (by decide))).mono ?_
  rintro e w8 ⟨a4, c4, z4, rfl, S4, N4, v4, l4, hb⟩
  have V4 : Hid (val z4 = val xs ^ (m * n)) := by rw [Hid, v4, V1.out, Int.toNat_natCast, ← pow_times]
  have B4 : Hid (z4.length ≤ 334) := Nat.le_trans l4 (len_small (k := 9) hz1 (by omega) (by decide))
  have hbb : Below w7.heap.size w7 w8 := hA.trans (hb.mono hA.size)
  replace A := A.below hb
  replace S1 := S1.below hb
  replace S2 := S2.below hb
  replace S3 := S3.below hb
  replace hB := hB.trans (hbb.mono hB.size)
  clear hb hbb hA  v4 l4
  go_wp2_with (go_at_call 23; refine (ofl_any _ _ _ _).mono ?_; rintro e w' ⟨rfl, rfl⟩)
  have hA := Below.refl w8.heap.size w8
  refine (power_int A ((m : Int) * (n : Int)) hmn (by omega) (by have := b4.out; omega) (Nat.le_trans (pow_fit (M := 5) (k := 7) (by omega) (by omega) (by omega)) (by decide))).mono ?_
  rintro e w9 ⟨a5, c5, z5, rfl, S5, N5, v5, l5, hb⟩
  have V5 : Hid (val z5 = val xs ^ (m * n)) := by rw [Hid, v5, HMN.out]
  have B5 : Hid (z5.length ≤ 325) := Nat.le_trans l5 (len_small (k := 81) hx (by omega) (by decide))
  have hbb : Below w8.heap.size w8 w9 := hA.trans (hb.mono hA.size)
  replace A := A.below hb
  replace S1 := S1.below hb
  replace S2 := S2.below hb
  replace S3 := S3.below hb
  replace S4 := S4.below hb
  replace hB := hB.trans (hbb.mono hB.size)
  clear hb hbb hA  v5 l5
  have hz2 : z2.length ≤ 37 := B2.out
  go_wp2_with (go_at_call 23; refine (ofl_any _ _ _ _).mono ?_; rintro e w' ⟨rfl, rfl⟩)
  have hA := Below.refl w9.heap.size w9
  refine (mul_any S1 S2 (by omega) (by omega)).mono ?_
  rintro e w10 ⟨a6, c6, z6, rfl, S6, N6, v6, l6, hb⟩
  have V6 : Hid (val z6 = val xs ^ (m + n)) := by rw [Hid, v6, V1.out, V2.out, ← Int.pow_add]
  have b6 : z6.length ≤ 74 := by omega
  have hbb : Below w9.heap.size w9 w10 := hA.trans (hb.mono hA.size)
  replace A := A.below hb
  replace S1 := S1.below hb
  replace S2 := S2.below hb
  replace S3 := S3.below hb
  replace S4 := S4.below hb
  replace S5 := S5.below hb
  replace hB := hB.trans (hbb.mono hB.size)
  clear hb hbb hA  v6 l6
  have hz3 : z3.length ≤ 73 := B3.out
  have hz4 : z4.length ≤ 334 := B4.out
  go_wp2_with (go_at_call 23; refine (ofl_any _ _ _ _).mono ?_; rintro e w' ⟨rfl, rfl⟩)
  have hA := Below.refl w10.heap.size w10
  refine (same_len S6 S3 (norm_unique S6.words S3.words N6 N3 (by rw [V6.out, V3.out])) (by omega)).mono ?_
  rintro e w11 ⟨rfl, hb⟩
  have hbb : Below w10.heap.size w10 w11 := hA.trans (hb.mono hA.size)
  replace A := A.below hb
  replace S1 := S1.below hb
  replace S2 := S2.below hb
  replace S3 := S3.below hb
  replace S4 := S4.below hb
  replace S5 := S5.below hb
  replace S6 := S6.below hb
  replace hB := hB.trans (hbb.mono hB.size)
  clear hb hbb hA  
  go_wp2_with (go_at_call 23; refine (ofl_any _ _ _ _).mono ?_; rintro e w' ⟨rfl, rfl⟩)
  have hA := Below.refl w11.heap.size w11
  refine (same_len S4 S5 (norm_unique S4.words S5.words N4 N5 (by rw [V4.out, V5.out])) (by omega)).mono ?_
  rintro e w12 ⟨rfl, hb⟩
  have hbb : Below w11.heap.size w11 w12 := hA.trans (hb.mono hA.size)
  replace A := A.below hb
  replace S1 := S1.below hb
  replace S2 := S2.below hb
  replace S3 := S3.below hb
  replace S4 := S4.below hb
  replace S5 := S5.below hb
  replace S6 := S6.below hb
  replace hB := hB.trans (hbb.mono hB.size)
  clear hb hbb hA  
  go_wp2
  go_ret
  exact ⟨rfl, hB⟩

theorem psums_any {a : Option Addr} {la ca : Nat} {xs : List Int} {w : World} (A : Seg 0 w (.slice a la ca) xs) (k : Int) (hk : -9223372036854775808 ≤ k ∧ k ≤ 9223372036854775807) (j : Int) (hj : -9223372036854775808 ≤ j ∧ j ≤ 9223372036854775807) :
    Calls Try.prog 8 #[.slice a la ca, .int .i64 k, .int .i64 j] w fun e w' => e = .returned (.bool true) ∧ Below w.heap.size w w' := by
  by_cases h : 4 < la
  · exact psums_long a la ca k j w h
  · obtain ⟨rfl, _⟩ := A.len
    exact psums_short A (by omega) k j hk hj
#print axioms psums_any
end Go.Proofs.Ytmgngkmdfccjaaa
