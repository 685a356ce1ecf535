/-
  The walk of LimbsSums.
-/
import Derived.Test.YtfcndibfbficbaaKnown
namespace Go.Proofs.Ytfcndibfbficbaa
open Go.RowKit

theorem hw_below {w w' : World} (h : w' = w) : Below w.heap.size w w' := by rw [h]; exact Below.refl _ _
theorem same_len {lo lo' : Nat} {a b : Option Addr} {n m ca cb : Nat} {xs ys : List Int} {w : World} (ha : Seg lo w (.slice a n ca) xs) (hb : Seg lo' w (.slice b m cb) ys) (e : xs = ys) (hl : xs.length ≤ 1000000) :
    Calls Try.prog 15 #[.slice a n ca, .slice b m cb] w fun e w' => e = .returned (.bool true) ∧ Below w.heap.size w w' := by
  subst e
  obtain ⟨rfl, _⟩ := ha.len
  obtain ⟨rfl, _⟩ := hb.len
  exact same_yes ha hb hl

set_option maxRecDepth 100000 in
set_option maxHeartbeats 1000000 in
/-- LimbsSums, where a list is long. -/
theorem sums_long (a b c : Option Addr) (la ca lb cb lc cc : Nat) (w : World) (h : 60 < la ∨ 60 < lb ∨ 60 < lc) :
    Calls Try.prog 6 #[.slice a la ca, .slice b lb cb, .slice c lc cc] w fun e w' => e = .returned (.bool true) ∧ Below w.heap.size w w' := by
  have l1 := fun w => long_any a b la ca lb cb w
  have l2 := fun w => long_any c none lc cc 0 0 w
  by_cases h1 : 60 < la ∨ 60 < lb
  · rw [decide_eq_true h1] at l1
    clear h h1 l2
    have L1 := hide l1
    clear l1
    go_enter Try.func6, Try.ntmps6
    go_wp2_with fail
    refine (known_any w).mono ?_
    rintro e w1 ⟨rfl, hb1⟩
    go_wp2_with fail
    refine (L1.out _).mono ?_
    rintro e w2 ⟨rfl, rfl⟩
    go_wp2
    go_ret
    exact ⟨rfl, hb1⟩
  · rw [decide_eq_false h1] at l1
    rw [decide_eq_true (show 60 < lc ∨ 60 < 0 by omega)] at l2
    clear h h1
    have L1 := hide l1
    have L2 := hide l2
    clear l1 l2
    go_enter Try.func6, Try.ntmps6
    go_wp2_with fail
    refine (known_any w).mono ?_
    rintro e w1 ⟨rfl, hb1⟩
    go_wp2_with fail
    refine (L1.out _).mono ?_
    rintro e w2 ⟨rfl, rfl⟩
    go_wp2_with fail
    refine (L2.out _).mono ?_
    rintro e w2 ⟨rfl, rfl⟩
    go_wp2
    go_ret
    exact ⟨rfl, hb1⟩

set_option maxRecDepth 100000 in
set_option maxHeartbeats 4000000 in
/-- LimbsSums, where no list is long. -/
theorem sums_short {a b c : Option Addr} {ca cb cc : Nat} {xs ys zs : List Int} {w : World} (A : Seg 0 w (.slice a xs.length ca) xs) (B : Seg 0 w (.slice b ys.length cb) ys) (C : Seg 0 w (.slice c zs.length cc) zs) (hx : xs.length ≤ 60) (hy : ys.length ≤ 60) (hz : zs.length ≤ 60) :
    Calls Try.prog 6 #[.slice a xs.length ca, .slice b ys.length cb, .slice c zs.length cc] w fun e w' => e = .returned (.bool true) ∧ Below w.heap.size w w' := by
  have l1 := fun w => long_any a b xs.length ca ys.length cb w
  have l2 := fun w => long_any c none zs.length cc 0 0 w
  rw [decide_eq_false (show ¬ (60 < xs.length ∨ 60 < ys.length) by omega)] at l1
  rw [decide_eq_false (show ¬ (60 < zs.length ∨ 60 < 0) by omega)] at l2
  have L1 := hide l1
  have L2 := hide l2
  clear l1 l2
  have px := val_nonneg A.words
  have py := val_nonneg B.words
  have pz := val_nonneg C.words
  have hB := Below.refl w.heap.size w
  go_enter Try.func6, Try.ntmps6
  go_wp2_with fail
  have hA := Below.refl w.heap.size w
  refine (known_any _).mono ?_
  rintro e w1 ⟨rfl, hb⟩
  have hbb : Below w.heap.size w w1 := hA.trans (hb.mono hA.size)
  replace A := A.below hb
  replace B := B.below hb
  replace C := C.below hb
  replace hB := hB.trans (hbb.mono hB.size)
  clear hb hbb hA  
  go_wp2_with fail
  have hA := Below.refl w1.heap.size w1
  refine (L1.out _).mono ?_
  rintro e w2 ⟨rfl, hw⟩
  have hb := hw_below hw
  clear hw
  have hbb : Below w1.heap.size w1 w2 := hA.trans (hb.mono hA.size)
  replace A := A.below hb
  replace B := B.below hb
  replace C := C.below hb
  replace hB := hB.trans (hbb.mono hB.size)
  clear hb hbb hA  
  go_wp2_with fail
  have hA := Below.refl w2.heap.size w2
  refine (L2.out _).mono ?_
  rintro e w3 ⟨rfl, hw⟩
  have hb := hw_below hw
  clear hw
  have hbb : Below w2.heap.size w2 w3 := hA.trans (hb.mono hA.size)
  replace A := A.below hb
  replace B := B.below hb
  replace C := C.below hb
  replace hB := hB.trans (hbb.mono hB.size)
  clear hb hbb hA  
  go_wp2_with fail
  have hA := Below.refl w3.heap.size w3
  refine (add_any A B (by omega) (by omega)).mono ?_
  rintro e w4 ⟨a1, c1, z1, rfl, S1, N1, v1, l1, hb⟩
  have V1 : Hid (val z1 = val xs + val ys) := v1
  have b1 : z1.length ≤ 61 := by omega
  have hbb : Below w3.heap.size w3 w4 := hA.trans (hb.mono hA.size)
  replace A := A.below hb
  replace B := B.below hb
  replace C := C.below hb
  replace hB := hB.trans (hbb.mono hB.size)
  clear hb hbb hA  v1 l1
  go_wp2_with fail
  have hA := Below.refl w4.heap.size w4
  refine (add_any B A (by omega) (by omega)).mono ?_
  rintro e w5 ⟨a2, c2, z2, rfl, S2, N2, v2, l2, hb⟩
  have V2 : Hid (val z2 = val ys + val xs) := v2
  have b2 : z2.length ≤ 61 := by omega
  have hbb : Below w4.heap.size w4 w5 := hA.trans (hb.mono hA.size)
  replace A := A.below hb
  replace B := B.below hb
  replace C := C.below hb
  replace S1 := S1.below hb
  replace hB := hB.trans (hbb.mono hB.size)
  clear hb hbb hA  v2 l2
  go_wp2_with fail
  have hA := Below.refl w5.heap.size w5
  refine (sub_yes S1 B (by omega) (by omega) (by have := V1.out; omega)).mono ?_
  rintro e w6 ⟨a3, c3, z3, rfl, S3, N3, v3, l3, hb⟩
  have V3 : Hid (val z3 = val xs) := by have := V1.out; rw [Hid]; omega
  have b3 : z3.length ≤ 61 := by omega
  have hbb : Below w5.heap.size w5 w6 := hA.trans (hb.mono hA.size)
  replace A := A.below hb
  replace B := B.below hb
  replace C := C.below hb
  replace S1 := S1.below hb
  replace S2 := S2.below hb
  replace hB := hB.trans (hbb.mono hB.size)
  clear hb hbb hA  v3 l3
  go_wp2_with fail
  have s1 := seg1 w6 (N := w6.heap.size) rfl 1 (by decide)
  have hA := ((Below.refl w6.heap.size w6).alloc (Nat.le_refl _) (.cells #[.int .u64 1] 34))
  replace A := A.below hA
  replace B := B.below hA
  replace C := C.below hA
  replace S1 := S1.below hA
  replace S2 := S2.below hA
  replace S3 := S3.below hA
  refine (add_any S1 s1 (by omega) (by simp)).mono ?_
  rintro e w7 ⟨a4, c4, z4, rfl, S4, N4, v4, l4, hb⟩
  have V4 : Hid (val z4 = val xs + val ys + 1) := by have := V1.out; rw [val1] at v4; rw [Hid]; omega
  have b4 : z4.length ≤ 62 := by simp only [List.length_cons, List.length_nil] at l4; omega
  have hbb : Below w6.heap.size w6 w7 := hA.trans (hb.mono hA.size)
  replace A := A.below hb
  replace B := B.below hb
  replace C := C.below hb
  replace S1 := S1.below hb
  replace S2 := S2.below hb
  replace S3 := S3.below hb
  replace hB := hB.trans (hbb.mono hB.size)
  clear hb hbb hA s1 v4 l4
  go_wp2_with fail
  have hA := Below.refl w7.heap.size w7
  refine (sub_no A S4 (by omega) (by omega) (by have := V4.out; omega)).mono ?_
  rintro e w8 ⟨rfl, hb⟩
  have hbb : Below w7.heap.size w7 w8 := hA.trans (hb.mono hA.size)
  replace A := A.below hb
  replace B := B.below hb
  replace C := C.below hb
  replace S1 := S1.below hb
  replace S2 := S2.below hb
  replace S3 := S3.below hb
  replace S4 := S4.below hb
  replace hB := hB.trans (hbb.mono hB.size)
  clear hb hbb hA  
  go_wp2_with fail
  have hA := Below.refl w8.heap.size w8
  refine (same_len S1 S2 (norm_unique S1.words S2.words N1 N2 (by rw [V1.out, V2.out]; omega)) (by omega)).mono ?_
  rintro e w9 ⟨rfl, hb⟩
  have hbb : Below w8.heap.size w8 w9 := hA.trans (hb.mono hA.size)
  replace A := A.below hb
  replace B := B.below hb
  replace C := C.below hb
  replace S1 := S1.below hb
  replace S2 := S2.below hb
  replace S3 := S3.below hb
  replace S4 := S4.below hb
  replace hB := hB.trans (hbb.mono hB.size)
  clear hb hbb hA  
  go_wp2_with fail
  have hA := Below.refl w9.heap.size w9
  refine (trim_any A (by omega)).mono ?_
  rintro e w10 ⟨a5, c5, z5, rfl, S5, N5, v5, l5, hb⟩
  have V5 : Hid (val z5 = val xs) := v5
  have b5 : z5.length ≤ 60 := by omega
  have hbb : Below w9.heap.size w9 w10 := hA.trans (hb.mono hA.size)
  replace A := A.below hb
  replace B := B.below hb
  replace C := C.below hb
  replace S1 := S1.below hb
  replace S2 := S2.below hb
  replace S3 := S3.below hb
  replace S4 := S4.below hb
  replace hB := hB.trans (hbb.mono hB.size)
  clear hb hbb hA  v5 l5
  go_wp2_with fail
  have hA := Below.refl w10.heap.size w10
  refine (same_len S3 S5 (norm_unique S3.words S5.words N3 N5 (by rw [V3.out, V5.out])) (by omega)).mono ?_
  rintro e w11 ⟨rfl, hb⟩
  have hbb : Below w10.heap.size w10 w11 := hA.trans (hb.mono hA.size)
  replace A := A.below hb
  replace B := B.below hb
  replace C := C.below hb
  replace S1 := S1.below hb
  replace S2 := S2.below hb
  replace S3 := S3.below hb
  replace S4 := S4.below hb
  replace S5 := S5.below hb
  replace hB := hB.trans (hbb.mono hB.size)
  clear hb hbb hA  
  go_wp2_with fail
  have hA := Below.refl w11.heap.size w11
  refine (fine_yes S1 N1 (by omega)).mono ?_
  rintro e w12 ⟨rfl, hw⟩
  have hb := hw_below hw
  clear hw
  have hbb : Below w11.heap.size w11 w12 := hA.trans (hb.mono hA.size)
  replace A := A.below hb
  replace B := B.below hb
  replace C := C.below hb
  replace S1 := S1.below hb
  replace S2 := S2.below hb
  replace S3 := S3.below hb
  replace S4 := S4.below hb
  replace S5 := S5.below hb
  replace hB := hB.trans (hbb.mono hB.size)
  clear hb hbb hA  
  go_wp2_with fail
  have hA := Below.refl w12.heap.size w12
  refine (fine_yes S3 N3 (by omega)).mono ?_
  rintro e w13 ⟨rfl, hw⟩
  have hb := hw_below hw
  clear hw
  have hbb : Below w12.heap.size w12 w13 := hA.trans (hb.mono hA.size)
  replace A := A.below hb
  replace B := B.below hb
  replace C := C.below hb
  replace S1 := S1.below hb
  replace S2 := S2.below hb
  replace S3 := S3.below hb
  replace S4 := S4.below hb
  replace S5 := S5.below hb
  replace hB := hB.trans (hbb.mono hB.size)
  clear hb hbb hA  
  go_wp2_with fail
  have hA := Below.refl w13.heap.size w13
  refine (add_any S1 C (by omega) (by omega)).mono ?_
  rintro e w14 ⟨a6, c6, z6, rfl, S6, N6, v6, l6, hb⟩
  have V6 : Hid (val z6 = val xs + val ys + val zs) := by have := V1.out; rw [Hid]; omega
  have b6 : z6.length ≤ 62 := by omega
  have hbb : Below w13.heap.size w13 w14 := hA.trans (hb.mono hA.size)
  replace A := A.below hb
  replace B := B.below hb
  replace C := C.below hb
  replace S1 := S1.below hb
  replace S2 := S2.below hb
  replace S3 := S3.below hb
  replace S4 := S4.below hb
  replace S5 := S5.below hb
  replace hB := hB.trans (hbb.mono hB.size)
  clear hb hbb hA  v6 l6
  go_wp2_with fail
  have hA := Below.refl w14.heap.size w14
  refine (add_any B C (by omega) (by omega)).mono ?_
  rintro e w15 ⟨a7, c7, z7, rfl, S7, N7, v7, l7, hb⟩
  have V7 : Hid (val z7 = val ys + val zs) := v7
  have b7 : z7.length ≤ 61 := by omega
  have hbb : Below w14.heap.size w14 w15 := hA.trans (hb.mono hA.size)
  replace A := A.below hb
  replace B := B.below hb
  replace C := C.below hb
  replace S1 := S1.below hb
  replace S2 := S2.below hb
  replace S3 := S3.below hb
  replace S4 := S4.below hb
  replace S5 := S5.below hb
  replace S6 := S6.below hb
  replace hB := hB.trans (hbb.mono hB.size)
  clear hb hbb hA  v7 l7
  go_wp2_with fail
  have hA := Below.refl w15.heap.size w15
  refine (add_any A S7 (by omega) (by omega)).mono ?_
  rintro e w16 ⟨a8, c8, z8, rfl, S8, N8, v8, l8, hb⟩
  have V8 : Hid (val z8 = val xs + (val ys + val zs)) := by have := V7.out; rw [Hid]; omega
  have b8 : z8.length ≤ 62 := by omega
  have hbb : Below w15.heap.size w15 w16 := hA.trans (hb.mono hA.size)
  replace A := A.below hb
  replace B := B.below hb
  replace C := C.below hb
  replace S1 := S1.below hb
  replace S2 := S2.below hb
  replace S3 := S3.below hb
  replace S4 := S4.below hb
  replace S5 := S5.below hb
  replace S6 := S6.below hb
  replace S7 := S7.below hb
  replace hB := hB.trans (hbb.mono hB.size)
  clear hb hbb hA  v8 l8
  go_wp2_with fail
  have hA := Below.refl w16.heap.size w16
  refine (same_len S6 S8 (norm_unique S6.words S8.words N6 N8 (by rw [V6.out, V8.out]; omega)) (by omega)).mono ?_
  rintro e w17 ⟨rfl, hb⟩
  have hbb : Below w16.heap.size w16 w17 := hA.trans (hb.mono hA.size)
  replace A := A.below hb
  replace B := B.below hb
  replace C := C.below hb
  replace S1 := S1.below hb
  replace S2 := S2.below hb
  replace S3 := S3.below hb
  replace S4 := S4.below hb
  replace S5 := S5.below hb
  replace S6 := S6.below hb
  replace S7 := S7.below hb
  replace S8 := S8.below hb
  replace hB := hB.trans (hbb.mono hB.size)
  clear hb hbb hA  
  go_wp2_with fail
  have hA := Below.refl w17.heap.size w17
  refine (add_any A (Seg.nil 0 _) (by omega) (by simp)).mono ?_
  rintro e w18 ⟨a9, c9, z9, rfl, S9, N9, v9, l9, hb⟩
  have V9 : Hid (val z9 = val xs) := by rw [val_nil] at v9; rw [Hid]; omega
  have b9 : z9.length ≤ 61 := by simp only [List.length_nil] at l9; omega
  have hbb : Below w17.heap.size w17 w18 := hA.trans (hb.mono hA.size)
  replace A := A.below hb
  replace B := B.below hb
  replace C := C.below hb
  replace S1 := S1.below hb
  replace S2 := S2.below hb
  replace S3 := S3.below hb
  replace S4 := S4.below hb
  replace S5 := S5.below hb
  replace S6 := S6.below hb
  replace S7 := S7.below hb
  replace S8 := S8.below hb
  replace hB := hB.trans (hbb.mono hB.size)
  clear hb hbb hA  v9 l9
  go_wp2_with fail
  have hA := Below.refl w18.heap.size w18
  refine (trim_any A (by omega)).mono ?_
  rintro e w19 ⟨a10, c10, z10, rfl, S10, N10, v10, l10, hb⟩
  have V10 : Hid (val z10 = val xs) := v10
  have b10 : z10.length ≤ 60 := by omega
  have hbb : Below w18.heap.size w18 w19 := hA.trans (hb.mono hA.size)
  replace A := A.below hb
  replace B := B.below hb
  replace C := C.below hb
  replace S1 := S1.below hb
  replace S2 := S2.below hb
  replace S3 := S3.below hb
  replace S4 := S4.below hb
  replace S5 := S5.below hb
  replace S6 := S6.below hb
  replace S7 := S7.below hb
  replace S8 := S8.below hb
  replace S9 := S9.below hb
  replace hB := hB.trans (hbb.mono hB.size)
  clear hb hbb hA  v10 l10
  go_wp2_with fail
  have hA := Below.refl w19.heap.size w19
  refine (same_len S9 S10 (norm_unique S9.words S10.words N9 N10 (by rw [V9.out, V10.out])) (by omega)).mono ?_
  rintro e w20 ⟨rfl, hb⟩
  have hbb : Below w19.heap.size w19 w20 := hA.trans (hb.mono hA.size)
  replace A := A.below hb
  replace B := B.below hb
  replace C := C.below hb
  replace S1 := S1.below hb
  replace S2 := S2.below hb
  replace S3 := S3.below hb
  replace S4 := S4.below hb
  replace S5 := S5.below hb
  replace S6 := S6.below hb
  replace S7 := S7.below hb
  replace S8 := S8.below hb
  replace S9 := S9.below hb
  replace S10 := S10.below hb
  replace hB := hB.trans (hbb.mono hB.size)
  clear hb hbb hA  
  go_wp2
  go_ret
  exact ⟨rfl, hB⟩
#print axioms sums_short
end Go.Proofs.Ytfcndibfbficbaa
