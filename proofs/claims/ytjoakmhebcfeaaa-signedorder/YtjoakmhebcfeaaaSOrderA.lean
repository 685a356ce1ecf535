/-
  The walk of SignedOrder, where the first is less than the second, and that not less than the third.
-/
import Derived.Test.YtjoakmhebcfeaaaSRing
namespace Go.Proofs.Ytjoakmhebcfeaaa
open Go.RowKit

set_option maxRecDepth 100000 in
set_option maxHeartbeats 6000000 in
theorem sorder_lt {a c e : Option Addr} {ca cc ce : Nat} {xs ys zs : List Int} {w : World} (b : Bool) (A : Seg 0 w (.slice a xs.length ca) xs) (d : Bool) (B : Seg 0 w (.slice c ys.length cc) ys) (f : Bool) (C : Seg 0 w (.slice e zs.length ce) zs) (hx : xs.length ≤ 10) (hy : ys.length ≤ 10) (hz : zs.length ≤ 10) (x y z : Int) (EX : Hid (sgn b (val xs) = x)) (EY : Hid (sgn d (val ys) = y)) (EZ : Hid (sgn f (val zs) = z)) (hxy : Hid (x < y)) (hyz : Hid (z ≤ y)) :
    Calls Try.prog 7 #[.agg #[.bool b, .slice a xs.length ca], .agg #[.bool d, .slice c ys.length cc], .agg #[.bool f, .slice e zs.length ce]] w fun e w' => e = .returned (.bool true) ∧ Below w.heap.size w w' := by
  have K1 : Hid (cmpI x y = -1) := cmpI_lt hxy.out
  have K2 : Hid (cmpI y x = 1) := cmpI_gt hxy.out
  obtain ⟨t, et⟩ : ∃ t, cmpI y z = t := ⟨_, rfl⟩
  have ht : ¬ t < 0 := by rw [← et]; have := hyz.out; rcases Int.lt_or_eq_of_le this with h | h; rw [cmpI_gt h]; decide; rw [h, cmpI_eq]; decide
  have K3 := hide et
  clear et
  obtain ⟨s, es⟩ : ∃ s, cmpI z 0 = s := ⟨_, rfl⟩
  have hs := hide es
  have sb1 : -1 ≤ s := by rw [← es]; rcases cmpI_three z 0 with h | h | h <;> rw [h] <;> decide
  have sb2 : s ≤ 1 := by rw [← es]; rcases cmpI_three z 0 with h | h | h <;> rw [h] <;> decide
  clear es
  have hn : Hid ((-1 : Int) * s = -s) := by rw [Hid]; omega
  have hw : IntKind.i64.wrap (-s) = -s := by rw [IntKind.wrap_i64]; omega
  have l1 := fun w => longNat_bel a xs.length ca 10 w
  rw [decide_eq_false (show ¬ ((10 : Int) < (xs.length : Int)) by omega)] at l1
  have L1 := hide l1
  clear l1
  have l2 := fun w => longNat_bel c ys.length cc 10 w
  rw [decide_eq_false (show ¬ ((10 : Int) < (ys.length : Int)) by omega)] at l2
  have L2 := hide l2
  clear l2
  have l3 := fun w => longNat_bel e zs.length ce 10 w
  rw [decide_eq_false (show ¬ ((10 : Int) < (zs.length : Int)) by omega)] at l3
  have L3 := hide l3
  clear l3
  have hB := Below.refl w.heap.size w
  go_enter Try.func7, Try.ntmps7
  have hA := Below.refl w.heap.size w
  have hq : Below w.heap.size w (w.alloc (.cells #[.bool b, .slice a xs.length ca] 25)) := (Below.refl _ _).alloc (Nat.le_refl _) _
  replace A := A.below hq
  replace B := B.below hq
  replace C := C.below hq
  have E1 : Box (w.alloc (.cells #[.bool b, .slice a xs.length ca] 25)) (w.heap.size) (.cells #[.bool b, .slice a xs.length ca] 25) := Box.put (.cells #[.bool b, .slice a xs.length ca] 25) rfl
  replace hA := hA.trans (hq.mono hA.size)
  clear hq
  have hq : Below (w.alloc (.cells #[.bool b, .slice a xs.length ca] 25)).heap.size (w.alloc (.cells #[.bool b, .slice a xs.length ca] 25)) ((w.alloc (.cells #[.bool b, .slice a xs.length ca] 25)).alloc (.cells #[.bool d, .slice c ys.length cc] 25)) := (Below.refl _ _).alloc (Nat.le_refl _) _
  replace A := A.below hq
  replace B := B.below hq
  replace C := C.below hq
  replace E1 := E1.below hq
  have E2 : Box ((w.alloc (.cells #[.bool b, .slice a xs.length ca] 25)).alloc (.cells #[.bool d, .slice c ys.length cc] 25)) (w.heap.size + 1) (.cells #[.bool d, .slice c ys.length cc] 25) := Box.put (.cells #[.bool d, .slice c ys.length cc] 25) (by simp)
  replace hA := hA.trans (hq.mono hA.size)
  clear hq
  have hq : Below ((w.alloc (.cells #[.bool b, .slice a xs.length ca] 25)).alloc (.cells #[.bool d, .slice c ys.length cc] 25)).heap.size ((w.alloc (.cells #[.bool b, .slice a xs.length ca] 25)).alloc (.cells #[.bool d, .slice c ys.length cc] 25)) (((w.alloc (.cells #[.bool b, .slice a xs.length ca] 25)).alloc (.cells #[.bool d, .slice c ys.length cc] 25)).alloc (.cells #[.bool f, .slice e zs.length ce] 25)) := (Below.refl _ _).alloc (Nat.le_refl _) _
  replace A := A.below hq
  replace B := B.below hq
  replace C := C.below hq
  replace E1 := E1.below hq
  replace E2 := E2.below hq
  have E3 : Box (((w.alloc (.cells #[.bool b, .slice a xs.length ca] 25)).alloc (.cells #[.bool d, .slice c ys.length cc] 25)).alloc (.cells #[.bool f, .slice e zs.length ce] 25)) (w.heap.size + 2) (.cells #[.bool f, .slice e zs.length ce] 25) := Box.put (.cells #[.bool f, .slice e zs.length ce] 25) (by simp)
  replace hA := hA.trans (hq.mono hA.size)
  clear hq
  go_wp2_with fail
  refine (sknown_any _).mono ?_
  rintro e w1 ⟨rfl, hb⟩
  replace A := A.below hb
  replace B := B.below hb
  replace C := C.below hb
  replace E1 := E1.below hb
  replace E2 := E2.below hb
  replace E3 := E3.below hb
  replace hA := hA.trans (hb.mono hA.size)
  replace hB := hB.trans (hA.mono hB.size)
  have zw1 := hA.size
  clear hb hA  
  have hA := Below.refl w1.heap.size w1
  obtain ⟨k0, k1, f0, f1⟩ := E1.two
  go_wp2_with fail
  clear k0 f0 k1 f1
  refine (L1.out _).mono ?_
  rintro e w2 ⟨rfl, hb⟩
  replace A := A.below hb
  replace B := B.below hb
  replace C := C.below hb
  replace E1 := E1.below hb
  replace E2 := E2.below hb
  replace E3 := E3.below hb
  replace hA := hA.trans (hb.mono hA.size)
  replace hB := hB.trans (hA.mono hB.size)
  have zw2 := hA.size
  clear hb hA  
  have hA := Below.refl w2.heap.size w2
  obtain ⟨k0, k1, f0, f1⟩ := E2.two
  go_wp2_with fail
  clear k0 f0 k1 f1
  refine (L2.out _).mono ?_
  rintro e w3 ⟨rfl, hb⟩
  replace A := A.below hb
  replace B := B.below hb
  replace C := C.below hb
  replace E1 := E1.below hb
  replace E2 := E2.below hb
  replace E3 := E3.below hb
  replace hA := hA.trans (hb.mono hA.size)
  replace hB := hB.trans (hA.mono hB.size)
  have zw3 := hA.size
  clear hb hA  
  have hA := Below.refl w3.heap.size w3
  obtain ⟨k0, k1, f0, f1⟩ := E3.two
  go_wp2_with fail
  clear k0 f0 k1 f1
  refine (L3.out _).mono ?_
  rintro e w4 ⟨rfl, hb⟩
  replace A := A.below hb
  replace B := B.below hb
  replace C := C.below hb
  replace E1 := E1.below hb
  replace E2 := E2.below hb
  replace E3 := E3.below hb
  replace hA := hA.trans (hb.mono hA.size)
  replace hB := hB.trans (hA.mono hB.size)
  have zw4 := hA.size
  clear hb hA  
  go_wp2_with fail
  replace A := A.drew
  replace B := B.drew
  replace C := C.drew
  have qE1 := E1.lt
  replace E1 := E1.drew
  have qE2 := E2.lt
  replace E2 := E2.drew
  have qE3 := E3.lt
  replace E3 := E3.drew
  refine wp_yields 15 [.is (.pointer (some ⟨w.heap.size, 0, none⟩)), .is (.bool b), .is (.pointer (some ⟨w.heap.size, 1, none⟩)), .is (.slice a xs.length ca), .whole w4.heap.size (sgn b (val xs)) 10, .is (.pointer (some ⟨w.heap.size + 1, 0, none⟩)), .is (.bool d), .is (.pointer (some ⟨w.heap.size + 1, 1, none⟩)), .is (.slice c ys.length cc), .whole w4.heap.size (sgn d (val ys)) 10, .is (.pointer (some ⟨w.heap.size + 2, 0, none⟩)), .is (.bool f), .is (.pointer (some ⟨w.heap.size + 2, 1, none⟩)), .is (.slice e zs.length ce), .whole w4.heap.size (sgn f (val zs)) 10] (by kernel_rfl) (by kernel_rfl) (lt_cons ?_ (lt_cons ?_ (lt_cons ?_ (lt_cons ?_ (lt_cons ?_ (lt_cons ?_ (lt_cons ?_ (lt_cons ?_ (lt_cons ?_ (lt_cons ?_ (lt_cons ?_ (lt_cons ?_ (lt_cons ?_ (lt_cons ?_ (lt_cons ?_ lt_nil))))))))))))))) ?_
  case refine_1 =>
    refine OpDoes.mk rfl ?_
    intro vs V hV hd K hK
    have d11 : vs 11 = .bool f := hd 11 (by decide) (by kernel_rfl)
    have d13 : vs 13 = .slice e zs.length ce := hd 13 (by decide) (by kernel_rfl)
    simp only [laidIn, List.getElem_toArray, List.getElem_cons_zero, List.getElem_cons_succ, List.getElem?_toArray, List.getElem?_cons_zero, List.getElem?_cons_succ, if_true, Act.put, List.setIfInBounds_toArray, List.set_cons_zero, List.set_cons_succ] at hK ⊢
    simp only [d11, d13] at hK ⊢
    go_simp
    go_at_call 12
    refine (smake_any (C.below hV) (by omega) f).mono ?_
    rintro e V' ⟨g3, a3, c3, z3, rfl, S3, N3, v3, l3, hb⟩
    exact hK.out _ _ hb ⟨_, _, _, _, rfl, S3.mono hV.size, N3, v3, by omega⟩ (fresh_apart _ _ (fun k hk => (seg_blockOf S3 hk).1))
  case refine_2 =>
    refine OpDoes.mk rfl ?_
    intro vs V hV hd K hK
    have d12 : vs 12 = .pointer (some ⟨w.heap.size + 2, 1, none⟩) := hd 12 (by decide) (by kernel_rfl)
    have hcc := (E3.below hV).two
    have k0 := hcc.1
    have k1 := hcc.2.1
    clear hcc
    simp only [laidIn, List.getElem_toArray, List.getElem_cons_zero, List.getElem_cons_succ, List.getElem?_toArray, List.getElem?_cons_zero, List.getElem?_cons_succ, if_true, Act.put, List.setIfInBounds_toArray, List.set_cons_zero, List.set_cons_succ] at hK ⊢
    simp only [d12] at hK ⊢
    go_simp
    exact hK.out _ _ (Below.refl _ _) rfl (not_fresh rfl)
  case refine_3 =>
    refine OpDoes.mk rfl ?_
    intro vs V hV hd K hK
    simp only [laidIn, List.getElem_toArray, List.getElem_cons_zero, List.getElem_cons_succ, List.getElem?_toArray, List.getElem?_cons_zero, List.getElem?_cons_succ, if_true, Act.put, List.setIfInBounds_toArray, List.set_cons_zero, List.set_cons_succ] at hK ⊢
    go_simp
    exact hK.out _ _ (Below.refl _ _) rfl (not_fresh rfl)
  case refine_4 =>
    refine OpDoes.mk rfl ?_
    intro vs V hV hd K hK
    have d10 : vs 10 = .pointer (some ⟨w.heap.size + 2, 0, none⟩) := hd 10 (by decide) (by kernel_rfl)
    have hcc := (E3.below hV).two
    have k0 := hcc.1
    have k1 := hcc.2.1
    clear hcc
    simp only [laidIn, List.getElem_toArray, List.getElem_cons_zero, List.getElem_cons_succ, List.getElem?_toArray, List.getElem?_cons_zero, List.getElem?_cons_succ, if_true, Act.put, List.setIfInBounds_toArray, List.set_cons_zero, List.set_cons_succ] at hK ⊢
    simp only [d10] at hK ⊢
    go_simp
    exact hK.out _ _ (Below.refl _ _) rfl (not_fresh rfl)
  case refine_5 =>
    refine OpDoes.mk rfl ?_
    intro vs V hV hd K hK
    simp only [laidIn, List.getElem_toArray, List.getElem_cons_zero, List.getElem_cons_succ, List.getElem?_toArray, List.getElem?_cons_zero, List.getElem?_cons_succ, if_true, Act.put, List.setIfInBounds_toArray, List.set_cons_zero, List.set_cons_succ] at hK ⊢
    go_simp
    exact hK.out _ _ (Below.refl _ _) rfl (not_fresh rfl)
  case refine_6 =>
    refine OpDoes.mk rfl ?_
    intro vs V hV hd K hK
    have d6 : vs 6 = .bool d := hd 6 (by decide) (by kernel_rfl)
    have d8 : vs 8 = .slice c ys.length cc := hd 8 (by decide) (by kernel_rfl)
    simp only [laidIn, List.getElem_toArray, List.getElem_cons_zero, List.getElem_cons_succ, List.getElem?_toArray, List.getElem?_cons_zero, List.getElem?_cons_succ, if_true, Act.put, List.setIfInBounds_toArray, List.set_cons_zero, List.set_cons_succ] at hK ⊢
    simp only [d6, d8] at hK ⊢
    go_simp
    go_at_call 12
    refine (smake_any (B.below hV) (by omega) d).mono ?_
    rintro e V' ⟨g2, a2, c2, z2, rfl, S2, N2, v2, l2, hb⟩
    exact hK.out _ _ hb ⟨_, _, _, _, rfl, S2.mono hV.size, N2, v2, by omega⟩ (fresh_apart _ _ (fun k hk => (seg_blockOf S2 hk).1))
  case refine_7 =>
    refine OpDoes.mk rfl ?_
    intro vs V hV hd K hK
    have d7 : vs 7 = .pointer (some ⟨w.heap.size + 1, 1, none⟩) := hd 7 (by decide) (by kernel_rfl)
    have hcc := (E2.below hV).two
    have k0 := hcc.1
    have k1 := hcc.2.1
    clear hcc
    simp only [laidIn, List.getElem_toArray, List.getElem_cons_zero, List.getElem_cons_succ, List.getElem?_toArray, List.getElem?_cons_zero, List.getElem?_cons_succ, if_true, Act.put, List.setIfInBounds_toArray, List.set_cons_zero, List.set_cons_succ] at hK ⊢
    simp only [d7] at hK ⊢
    go_simp
    exact hK.out _ _ (Below.refl _ _) rfl (not_fresh rfl)
  case refine_8 =>
    refine OpDoes.mk rfl ?_
    intro vs V hV hd K hK
    simp only [laidIn, List.getElem_toArray, List.getElem_cons_zero, List.getElem_cons_succ, List.getElem?_toArray, List.getElem?_cons_zero, List.getElem?_cons_succ, if_true, Act.put, List.setIfInBounds_toArray, List.set_cons_zero, List.set_cons_succ] at hK ⊢
    go_simp
    exact hK.out _ _ (Below.refl _ _) rfl (not_fresh rfl)
  case refine_9 =>
    refine OpDoes.mk rfl ?_
    intro vs V hV hd K hK
    have d5 : vs 5 = .pointer (some ⟨w.heap.size + 1, 0, none⟩) := hd 5 (by decide) (by kernel_rfl)
    have hcc := (E2.below hV).two
    have k0 := hcc.1
    have k1 := hcc.2.1
    clear hcc
    simp only [laidIn, List.getElem_toArray, List.getElem_cons_zero, List.getElem_cons_succ, List.getElem?_toArray, List.getElem?_cons_zero, List.getElem?_cons_succ, if_true, Act.put, List.setIfInBounds_toArray, List.set_cons_zero, List.set_cons_succ] at hK ⊢
    simp only [d5] at hK ⊢
    go_simp
    exact hK.out _ _ (Below.refl _ _) rfl (not_fresh rfl)
  case refine_10 =>
    refine OpDoes.mk rfl ?_
    intro vs V hV hd K hK
    simp only [laidIn, List.getElem_toArray, List.getElem_cons_zero, List.getElem_cons_succ, List.getElem?_toArray, List.getElem?_cons_zero, List.getElem?_cons_succ, if_true, Act.put, List.setIfInBounds_toArray, List.set_cons_zero, List.set_cons_succ] at hK ⊢
    go_simp
    exact hK.out _ _ (Below.refl _ _) rfl (not_fresh rfl)
  case refine_11 =>
    refine OpDoes.mk rfl ?_
    intro vs V hV hd K hK
    have d1 : vs 1 = .bool b := hd 1 (by decide) (by kernel_rfl)
    have d3 : vs 3 = .slice a xs.length ca := hd 3 (by decide) (by kernel_rfl)
    simp only [laidIn, List.getElem_toArray, List.getElem_cons_zero, List.getElem_cons_succ, List.getElem?_toArray, List.getElem?_cons_zero, List.getElem?_cons_succ, if_true, Act.put, List.setIfInBounds_toArray, List.set_cons_zero, List.set_cons_succ] at hK ⊢
    simp only [d1, d3] at hK ⊢
    go_simp
    go_at_call 12
    refine (smake_any (A.below hV) (by omega) b).mono ?_
    rintro e V' ⟨g1, a1, c1, z1, rfl, S1, N1, v1, l1, hb⟩
    exact hK.out _ _ hb ⟨_, _, _, _, rfl, S1.mono hV.size, N1, v1, by omega⟩ (fresh_apart _ _ (fun k hk => (seg_blockOf S1 hk).1))
  case refine_12 =>
    refine OpDoes.mk rfl ?_
    intro vs V hV hd K hK
    have d2 : vs 2 = .pointer (some ⟨w.heap.size, 1, none⟩) := hd 2 (by decide) (by kernel_rfl)
    have hcc := (E1.below hV).two
    have k0 := hcc.1
    have k1 := hcc.2.1
    clear hcc
    simp only [laidIn, List.getElem_toArray, List.getElem_cons_zero, List.getElem_cons_succ, List.getElem?_toArray, List.getElem?_cons_zero, List.getElem?_cons_succ, if_true, Act.put, List.setIfInBounds_toArray, List.set_cons_zero, List.set_cons_succ] at hK ⊢
    simp only [d2] at hK ⊢
    go_simp
    exact hK.out _ _ (Below.refl _ _) rfl (not_fresh rfl)
  case refine_13 =>
    refine OpDoes.mk rfl ?_
    intro vs V hV hd K hK
    simp only [laidIn, List.getElem_toArray, List.getElem_cons_zero, List.getElem_cons_succ, List.getElem?_toArray, List.getElem?_cons_zero, List.getElem?_cons_succ, if_true, Act.put, List.setIfInBounds_toArray, List.set_cons_zero, List.set_cons_succ] at hK ⊢
    go_simp
    exact hK.out _ _ (Below.refl _ _) rfl (not_fresh rfl)
  case refine_14 =>
    refine OpDoes.mk rfl ?_
    intro vs V hV hd K hK
    have d0 : vs 0 = .pointer (some ⟨w.heap.size, 0, none⟩) := hd 0 (by decide) (by kernel_rfl)
    have hcc := (E1.below hV).two
    have k0 := hcc.1
    have k1 := hcc.2.1
    clear hcc
    simp only [laidIn, List.getElem_toArray, List.getElem_cons_zero, List.getElem_cons_succ, List.getElem?_toArray, List.getElem?_cons_zero, List.getElem?_cons_succ, if_true, Act.put, List.setIfInBounds_toArray, List.set_cons_zero, List.set_cons_succ] at hK ⊢
    simp only [d0] at hK ⊢
    go_simp
    exact hK.out _ _ (Below.refl _ _) rfl (not_fresh rfl)
  case refine_15 =>
    refine OpDoes.mk rfl ?_
    intro vs V hV hd K hK
    simp only [laidIn, List.getElem_toArray, List.getElem_cons_zero, List.getElem?_toArray, List.getElem?_cons_zero, List.getElem?_cons_succ, if_true, Act.put, List.setIfInBounds_toArray, List.set_cons_zero, List.set_cons_succ] at hK ⊢
    go_simp
    exact hK.out _ _ (Below.refl _ _) rfl (not_fresh rfl)
  case refine_16 =>
    intro vs V hV hR hne fuel
    have d0 : vs 0 = .pointer (some ⟨w.heap.size, 0, none⟩) := hR 0 (by decide)
    have d1 : vs 1 = .bool b := hR 1 (by decide)
    have d2 : vs 2 = .pointer (some ⟨w.heap.size, 1, none⟩) := hR 2 (by decide)
    have d3 : vs 3 = .slice a xs.length ca := hR 3 (by decide)
    obtain ⟨g1, a1, c1, z1, d4, S1, N1, v1, b1⟩ := (show (Yield.whole w4.heap.size (sgn b (val xs)) 10).At (vs 4) V from hR 4 (by decide))
    have d5 : vs 5 = .pointer (some ⟨w.heap.size + 1, 0, none⟩) := hR 5 (by decide)
    have d6 : vs 6 = .bool d := hR 6 (by decide)
    have d7 : vs 7 = .pointer (some ⟨w.heap.size + 1, 1, none⟩) := hR 7 (by decide)
    have d8 : vs 8 = .slice c ys.length cc := hR 8 (by decide)
    obtain ⟨g2, a2, c2, z2, d9, S2, N2, v2, b2⟩ := (show (Yield.whole w4.heap.size (sgn d (val ys)) 10).At (vs 9) V from hR 9 (by decide))
    have d10 : vs 10 = .pointer (some ⟨w.heap.size + 2, 0, none⟩) := hR 10 (by decide)
    have d11 : vs 11 = .bool f := hR 11 (by decide)
    have d12 : vs 12 = .pointer (some ⟨w.heap.size + 2, 1, none⟩) := hR 12 (by decide)
    have d13 : vs 13 = .slice e zs.length ce := hR 13 (by decide)
    obtain ⟨g3, a3, c3, z3, d14, S3, N3, v3, b3⟩ := (show (Yield.whole w4.heap.size (sgn f (val zs)) 10).At (vs 14) V from hR 14 (by decide))
    have PS1_S2 := hide (by have h := hne 4 9 (by decide) (by decide) rfl rfl (by decide); rw [d4, d9] at h; exact h : Apart _ _)
    have PS1_S3 := hide (by have h := hne 4 14 (by decide) (by decide) rfl rfl (by decide); rw [d4, d14] at h; exact h : Apart _ _)
    have PS2_S1 := hide (by have h := hne 9 4 (by decide) (by decide) rfl rfl (by decide); rw [d9, d4] at h; exact h : Apart _ _)
    have PS2_S3 := hide (by have h := hne 9 14 (by decide) (by decide) rfl rfl (by decide); rw [d9, d14] at h; exact h : Apart _ _)
    have PS3_S1 := hide (by have h := hne 14 4 (by decide) (by decide) rfl rfl (by decide); rw [d14, d4] at h; exact h : Apart _ _)
    have PS3_S2 := hide (by have h := hne 14 9 (by decide) (by decide) rfl rfl (by decide); rw [d14, d9] at h; exact h : Apart _ _)
    replace A := A.below hV
    replace B := B.below hV
    replace C := C.below hV
    replace E1 := E1.below hV
    replace E2 := E2.below hV
    replace E3 := E3.below hV
    have hr := hV
    simp only [laidIn, List.getElem?_toArray, List.getElem?_cons_zero, List.getElem?_cons_succ, if_true, Act.put, List.setIfInBounds_toArray, List.set_cons_zero, List.set_cons_succ]
    simp only [d0, d1, d2, d3, d4, d5, d6, d7, d8, d9, d10, d11, d12, d13, d14]
    clear hR hne hV d0 d1 d2 d3 d4 d5 d6 d7 d8 d9 d10 d11 d12 d13 d14
    clear vs
    show wpAny _ _ _ _ (fuel + 3) _ _ _
    have hcc := E1.two
    have k0 := hcc.1
    have k1 := hcc.2.1
    have f0 := hcc.2.2.1
    have f1 := hcc.2.2.2
    clear hcc
    refine wpAny_all (rs := [15]) (by kernel_rfl) (by simp) (fun i hi => ?_)
    obtain rfl : i = 15 := by simpa using hi
    clear hi
    refine wpOp_step rfl (fun K hK => ?_)
    simp only [List.getElem_toArray, List.getElem_cons_zero, List.getElem_cons_succ]
    rw [if_pos (by rfl)]
    go_simp
    refine hK _ _ ?_
    clear hK k0 k1 f0 f1
    have hT := turns2 (w.heap.size) V (.bool g1) (.slice a1 z1.length c1)
    replace A := A.besides E1 slice_noInt hT
    replace B := B.besides E1 slice_noInt hT
    replace C := C.besides E1 slice_noInt hT
    replace S1 := S1.besides E1 slice_noInt hT
    replace S2 := S2.besides E1 slice_noInt hT
    replace S3 := S3.besides E1 slice_noInt hT
    replace E2 := E2.turns hT (by omega)
    replace E3 := E3.turns hT (by omega)
    replace E1 := E1.set2 (.bool g1) (.slice a1 z1.length c1)
    have hr0 := hT.below
    obtain ⟨X1, hX⟩ : ∃ X, (V.setCell ⟨w.heap.size, 0, none⟩ (.bool g1)).setCell ⟨w.heap.size, 1, none⟩ (.slice a1 z1.length c1) = X := ⟨_, rfl⟩
    rw [hX] at A B C S1 S2 S3 E1 E2 E3 hr0 ⊢
    clear hX hT
    have hcc := E2.two
    have k0 := hcc.1
    have k1 := hcc.2.1
    have f0 := hcc.2.2.1
    have f1 := hcc.2.2.2
    clear hcc
    refine wpAny_all (rs := [16]) (by kernel_rfl) (by simp) (fun i hi => ?_)
    obtain rfl : i = 16 := by simpa using hi
    clear hi
    refine wpOp_step rfl (fun K hK => ?_)
    simp only [List.getElem_toArray, List.getElem_cons_zero, List.getElem_cons_succ]
    rw [if_pos (by rfl)]
    go_simp
    refine hK _ _ ?_
    clear hK k0 k1 f0 f1
    have hT := turns2 (w.heap.size + 1) X1 (.bool g2) (.slice a2 z2.length c2)
    replace A := A.besides E2 slice_noInt hT
    replace B := B.besides E2 slice_noInt hT
    replace C := C.besides E2 slice_noInt hT
    replace S1 := S1.besides E2 slice_noInt hT
    replace S2 := S2.besides E2 slice_noInt hT
    replace S3 := S3.besides E2 slice_noInt hT
    replace E1 := E1.turns hT (by omega)
    replace E3 := E3.turns hT (by omega)
    replace E2 := E2.set2 (.bool g2) (.slice a2 z2.length c2)
    have hr1 := hT.below
    obtain ⟨X2, hX⟩ : ∃ X, (X1.setCell ⟨w.heap.size + 1, 0, none⟩ (.bool g2)).setCell ⟨w.heap.size + 1, 1, none⟩ (.slice a2 z2.length c2) = X := ⟨_, rfl⟩
    rw [hX] at A B C S1 S2 S3 E1 E2 E3 hr1 ⊢
    clear hX hT
    have hcc := E3.two
    have k0 := hcc.1
    have k1 := hcc.2.1
    have f0 := hcc.2.2.1
    have f1 := hcc.2.2.2
    clear hcc
    refine wpAny_all (rs := [17]) (by kernel_rfl) (by simp) (fun i hi => ?_)
    obtain rfl : i = 17 := by simpa using hi
    clear hi
    refine wpOp_step rfl (fun K hK => ?_)
    simp only [List.getElem_toArray, List.getElem_cons_zero, List.getElem_cons_succ]
    rw [if_pos (by rfl)]
    go_simp
    refine hK _ _ ?_
    clear hK k0 k1 f0 f1
    have hT := turns2 (w.heap.size + 2) X2 (.bool g3) (.slice a3 z3.length c3)
    replace A := A.besides E3 slice_noInt hT
    replace B := B.besides E3 slice_noInt hT
    replace C := C.besides E3 slice_noInt hT
    replace S1 := S1.besides E3 slice_noInt hT
    replace S2 := S2.besides E3 slice_noInt hT
    replace S3 := S3.besides E3 slice_noInt hT
    replace E1 := E1.turns hT (by omega)
    replace E2 := E2.turns hT (by omega)
    replace E3 := E3.set2 (.bool g3) (.slice a3 z3.length c3)
    have hr2 := hT.below
    obtain ⟨X3, hX⟩ : ∃ X, (X2.setCell ⟨w.heap.size + 2, 0, none⟩ (.bool g3)).setCell ⟨w.heap.size + 2, 1, none⟩ (.slice a3 z3.length c3) = X := ⟨_, rfl⟩
    rw [hX] at A B C S1 S2 S3 E1 E2 E3 hr2 ⊢
    clear hX hT
    refine wpAny_done (by kernel_rfl) ?_ _
    replace hB := hB.trans ((Below.trans (Below.drew (Below.refl w4.heap.size w4)) hr).mono hB.size)
    replace hB := hB.trans (hr0.mono (by omega))
    replace hB := hB.trans (hr1.mono (by omega))
    replace hB := hB.trans (hr2.mono (by omega))
    clear hr hr0 hr1 hr2
    rw [EX.out] at v1
    rw [EY.out] at v2
    rw [EZ.out] at v3
    have V1 := hide v1
    clear v1
    have V2 := hide v2
    clear v2
    have V3 := hide v3
    clear v3
    clear A B C
    have hA := Below.refl X3.heap.size X3
    obtain ⟨k0, k1, f0, f1⟩ := E1.two
    obtain ⟨k2, k3, f2, f3⟩ := E2.two
    go_wp2_with fail
    clear k0 f0 k1 f1 k2 f2 k3 f3
    have hc := scmp_any g1 g2 S1 S2 (by omega) (by omega)
    rw [V1.out, V2.out, K1.out] at hc
    refine (hc).mono ?_
    rintro e w5 ⟨rfl, hb⟩
    replace E1 := E1.below hb
    replace E2 := E2.below hb
    replace E3 := E3.below hb
    replace S1 := S1.below hb
    replace S2 := S2.below hb
    replace S3 := S3.below hb
    replace hA := hA.trans (hb.mono hA.size)
    replace hB := hB.trans (hA.mono hB.size)
    have zw5 := hA.size
    clear hb hA hc 
    have hA := Below.refl w5.heap.size w5
    obtain ⟨k0, k1, f0, f1⟩ := E1.two
    obtain ⟨k2, k3, f2, f3⟩ := E2.two
    go_wp2_with fail
    clear k0 f0 k1 f1 k2 f2 k3 f3
    have hc := scmp_any g2 g1 S2 S1 (by omega) (by omega)
    rw [V2.out, V1.out, K2.out] at hc
    refine (hc).mono ?_
    rintro e w6 ⟨rfl, hb⟩
    replace E1 := E1.below hb
    replace E2 := E2.below hb
    replace E3 := E3.below hb
    replace S1 := S1.below hb
    replace S2 := S2.below hb
    replace S3 := S3.below hb
    replace hA := hA.trans (hb.mono hA.size)
    replace hB := hB.trans (hA.mono hB.size)
    have zw6 := hA.size
    clear hb hA hc 
    have hA := Below.refl w6.heap.size w6
    obtain ⟨k0, k1, f0, f1⟩ := E1.two
    obtain ⟨k2, k3, f2, f3⟩ := E2.two
    go_wp2_with fail
    clear k0 f0 k1 f1 k2 f2 k3 f3
    refine (samew_no g1 g2 S1 S2 (by omega) (fun h => by obtain ⟨h1, h2⟩ := h; have e1 := V1.out; have e2 := V2.out; have := hxy.out; rw [h1, h2, e2] at e1; omega)).mono ?_
    rintro e w7 ⟨rfl, hb⟩
    replace E1 := E1.below hb
    replace E2 := E2.below hb
    replace E3 := E3.below hb
    replace S1 := S1.below hb
    replace S2 := S2.below hb
    replace S3 := S3.below hb
    replace hA := hA.trans (hb.mono hA.size)
    replace hB := hB.trans (hA.mono hB.size)
    have zw7 := hA.size
    clear hb hA  
    have hA := Below.refl w7.heap.size w7
    obtain ⟨k0, k1, f0, f1⟩ := E2.two
    obtain ⟨k2, k3, f2, f3⟩ := E3.two
    go_wp2_with fail
    clear k0 f0 k1 f1 k2 f2 k3 f3
    have hc := scmp_any g2 g3 S2 S3 (by omega) (by omega)
    rw [V2.out, V3.out, K3.out] at hc
    refine (hc).mono ?_
    rintro e w8 ⟨rfl, hb⟩
    replace E1 := E1.below hb
    replace E2 := E2.below hb
    replace E3 := E3.below hb
    replace S1 := S1.below hb
    replace S2 := S2.below hb
    replace S3 := S3.below hb
    replace hA := hA.trans (hb.mono hA.size)
    replace hB := hB.trans (hA.mono hB.size)
    have zw8 := hA.size
    clear hb hA hc 
    go_wp2_with fail
    replace E1 := E1.drew
    replace E2 := E2.drew
    replace E3 := E3.drew
    replace S1 := S1.drew
    replace S2 := S2.drew
    replace S3 := S3.drew
    have hr := Below.refl w8.drew.heap.size w8.drew
    have hkeep : ∀ V : World, Below w8.drew.heap.size w8.drew V → (V.cell? ⟨w.heap.size, 0, none⟩ = some (.bool g1) ∧ V.cell? ⟨w.heap.size, 1, none⟩ = some (.slice a1 z1.length c1)) ∧ (V.cell? ⟨w.heap.size + 1, 0, none⟩ = some (.bool g2) ∧ V.cell? ⟨w.heap.size + 1, 1, none⟩ = some (.slice a2 z2.length c2)) ∧ (V.cell? ⟨w.heap.size + 2, 0, none⟩ = some (.bool g3) ∧ V.cell? ⟨w.heap.size + 2, 1, none⟩ = some (.slice a3 z3.length c3)) := fun V hV => ⟨(E1.below hV).cells, (E2.below hV).cells, (E3.below hV).cells⟩
    have t0 : Hid True := trivial
    go_region_held3 (fun V : World => (V.cell? ⟨w.heap.size, 0, none⟩ = some (.bool g1) ∧ V.cell? ⟨w.heap.size, 1, none⟩ = some (.slice a1 z1.length c1)) ∧ (V.cell? ⟨w.heap.size + 1, 0, none⟩ = some (.bool g2) ∧ V.cell? ⟨w.heap.size + 1, 1, none⟩ = some (.slice a2 z2.length c2)) ∧ (V.cell? ⟨w.heap.size + 2, 0, none⟩ = some (.bool g3) ∧ V.cell? ⟨w.heap.size + 2, 1, none⟩ = some (.slice a3 z3.length c3)))
      (first | exact hkeep _ hr | exact hkeep _ (hr.a1 _) | exact hkeep _ ((hr.a1 _).a1 _) | exact hkeep _ (((hr.a1 _).a1 _).a1 _) | exact hkeep _ ((((hr.a1 _).a1 _).a1 _).a1 _))
      (first
      | (clear t0
         go_at_call 24
         refine (sadd_any g1 g3 S1 S3 (by omega) (by omega)).mono ?_
         rintro e w9 ⟨g4, a4, c4, z4, rfl, S4, N4, v4, l4, hb⟩
         have V4 : Hid (sgn g4 (val z4) = x + z) := by rw [Hid, v4, V1.out, V3.out]
         have b4 : z4.length ≤ 11 := by omega
         replace E1 := E1.below hb
         replace E2 := E2.below hb
         replace E3 := E3.below hb
         replace S1 := S1.below hb
         replace S2 := S2.below hb
         replace S3 := S3.below hb
         replace hr := hr.trans (hb.mono hr.size)
         have zw9 := hb.size
         clear hb v4 l4
         have t1 : Hid True := trivial)
      | (clear t1
         go_at_call 24
         refine (sadd_any g2 g3 S2 S3 (by omega) (by omega)).mono ?_
         rintro e w10 ⟨g5, a5, c5, z5, rfl, S5, N5, v5, l5, hb⟩
         have V5 : Hid (sgn g5 (val z5) = y + z) := by rw [Hid, v5, V2.out, V3.out]
         have b5 : z5.length ≤ 11 := by omega
         replace E1 := E1.below hb
         replace E2 := E2.below hb
         replace E3 := E3.below hb
         replace S1 := S1.below hb
         replace S2 := S2.below hb
         replace S3 := S3.below hb
         replace S4 := S4.below hb
         replace hr := hr.trans (hb.mono hr.size)
         have zw10 := hb.size
         clear hb v5 l5
         have t2 : Hid True := trivial)
      | (clear t2
         go_at_call 32
         have hc := scmp_any g4 g5 S4 S5 (by omega) (by omega)
         rw [V4.out, V5.out, cmpI_addr, K1.out] at hc
         refine (hc).mono ?_
         rintro e w11 ⟨rfl, hb⟩
         replace E1 := E1.below hb
         replace E2 := E2.below hb
         replace E3 := E3.below hb
         replace S1 := S1.below hb
         replace S2 := S2.below hb
         replace S3 := S3.below hb
         replace S4 := S4.below hb
         replace S5 := S5.below hb
         replace hr := hr.trans (hb.mono hr.size)
         have zw11 := hb.size
         clear hb hc
         have t3 : Hid True := trivial)
      | (clear t3
         go_at_call 26
         refine (smul_any g1 g3 S1 S3 (by omega) (by omega)).mono ?_
         rintro e w12 ⟨g6, a6, c6, z6, rfl, S6, N6, v6, l6, hb⟩
         have V6 : Hid (sgn g6 (val z6) = x * z) := by rw [Hid, v6, V1.out, V3.out]
         have b6 : z6.length ≤ 20 := by omega
         replace E1 := E1.below hb
         replace E2 := E2.below hb
         replace E3 := E3.below hb
         replace S1 := S1.below hb
         replace S2 := S2.below hb
         replace S3 := S3.below hb
         replace S4 := S4.below hb
         replace S5 := S5.below hb
         replace hr := hr.trans (hb.mono hr.size)
         have zw12 := hb.size
         clear hb v6 l6
         have t4 : Hid True := trivial)
      | (clear t4
         go_at_call 26
         refine (smul_any g2 g3 S2 S3 (by omega) (by omega)).mono ?_
         rintro e w13 ⟨g7, a7, c7, z7, rfl, S7, N7, v7, l7, hb⟩
         have V7 : Hid (sgn g7 (val z7) = y * z) := by rw [Hid, v7, V2.out, V3.out]
         have b7 : z7.length ≤ 20 := by omega
         replace E1 := E1.below hb
         replace E2 := E2.below hb
         replace E3 := E3.below hb
         replace S1 := S1.below hb
         replace S2 := S2.below hb
         replace S3 := S3.below hb
         replace S4 := S4.below hb
         replace S5 := S5.below hb
         replace S6 := S6.below hb
         replace hr := hr.trans (hb.mono hr.size)
         have zw13 := hb.size
         clear hb v7 l7
         have t5 : Hid True := trivial)
      | (clear t5
         go_at_call 32
         have hc := scmp_any g6 g7 S6 S7 (by omega) (by omega)
         rw [V6.out, V7.out, cmpI_mulr, K1.out, hs.out, hn.out] at hc
         refine (hc).mono ?_
         rintro e w14 ⟨rfl, hb⟩
         replace E1 := E1.below hb
         replace E2 := E2.below hb
         replace E3 := E3.below hb
         replace S1 := S1.below hb
         replace S2 := S2.below hb
         replace S3 := S3.below hb
         replace S4 := S4.below hb
         replace S5 := S5.below hb
         replace S6 := S6.below hb
         replace S7 := S7.below hb
         replace hr := hr.trans (hb.mono hr.size)
         have zw14 := hb.size
         clear hb hc
         have t6 : Hid True := trivial)
      | (clear t6
         go_at_call 22
         have hc := ssign_any g3 S3 (by omega)
         rw [V3.out, hs.out] at hc
         refine (hc).mono ?_
         rintro e w15 ⟨rfl, hb⟩
         replace E1 := E1.below hb
         replace E2 := E2.below hb
         replace E3 := E3.below hb
         replace S1 := S1.below hb
         replace S2 := S2.below hb
         replace S3 := S3.below hb
         replace S4 := S4.below hb
         replace S5 := S5.below hb
         replace S6 := S6.below hb
         replace S7 := S7.below hb
         replace hr := hr.trans (hb.mono hr.size)
         have zw15 := hb.size
         clear hb hc
         have t7 : Hid True := trivial)
      | (clear t7
         go_at_call 25
         refine (ssub_any g1 g2 S1 S2 (by omega) (by omega)).mono ?_
         rintro e w16 ⟨g8, a8, c8, z8, rfl, S8, N8, v8, l8, hb⟩
         have V8 : Hid (sgn g8 (val z8) = x - y) := by rw [Hid, v8, V1.out, V2.out]
         have b8 : z8.length ≤ 11 := by omega
         replace E1 := E1.below hb
         replace E2 := E2.below hb
         replace E3 := E3.below hb
         replace S1 := S1.below hb
         replace S2 := S2.below hb
         replace S3 := S3.below hb
         replace S4 := S4.below hb
         replace S5 := S5.below hb
         replace S6 := S6.below hb
         replace S7 := S7.below hb
         replace hr := hr.trans (hb.mono hr.size)
         have zw16 := hb.size
         clear hb v8 l8
         have t8 : Hid True := trivial)
      | (clear t8
         go_at_call 22
         have hc := ssign_any g8 S8 (by omega)
         rw [V8.out, cmpI_sub, K1.out] at hc
         refine (hc).mono ?_
         rintro e w17 ⟨rfl, hb⟩
         replace E1 := E1.below hb
         replace E2 := E2.below hb
         replace E3 := E3.below hb
         replace S1 := S1.below hb
         replace S2 := S2.below hb
         replace S3 := S3.below hb
         replace S4 := S4.below hb
         replace S5 := S5.below hb
         replace S6 := S6.below hb
         replace S7 := S7.below hb
         replace S8 := S8.below hb
         replace hr := hr.trans (hb.mono hr.size)
         have zw17 := hb.size
         clear hb hc
         have t9 : Hid True := trivial))
    replace hB := hB.trans ((Below.trans (Below.drew (Below.refl w8.heap.size w8)) hr).mono hB.size)
    clear hr hkeep t9 
    go_wp2
    go_ret
    exact ⟨rfl, hB⟩

end Go.Proofs.Ytjoakmhebcfeaaa
