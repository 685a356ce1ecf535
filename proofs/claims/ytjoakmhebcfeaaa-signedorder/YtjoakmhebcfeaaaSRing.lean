/-
  The walk of SignedRing.
-/
import Derived.Test.YtjoakmhebcfeaaaSForms
import Derived.Test.YtjoakmhebcfeaaaDrawnK
import Derived.Test.YtjoakmhebcfeaaaSKnown
namespace Go.Proofs.Ytjoakmhebcfeaaa
open Go.RowKit

theorem longNat_bel (a : Option Addr) (len cap : Nat) (most : Int) (w : World) : Calls Try.prog 36 #[.slice a len cap, .int .i64 most] w fun e w' => e = .returned (.bool (decide (most < (len : Int)))) ∧ Below w.heap.size w w' :=
  (longNat_any a len cap most w).mono (fun _ _ h => ⟨h.1, h.2 ▸ Below.refl _ _⟩)
theorem cmpI_mul0 (x y : Int) : cmpI (x * y) 0 = cmpI x 0 * cmpI y 0 := by
  rcases Int.lt_trichotomy x 0 with hx | hx | hx <;> rcases Int.lt_trichotomy y 0 with hy | hy | hy
  · rw [cmpI_lt hx, cmpI_lt hy, cmpI_gt (Int.mul_pos_of_neg_of_neg hx hy)]; rfl
  · subst hy; simp [cmpI]
  · rw [cmpI_lt hx, cmpI_gt hy, cmpI_lt (Int.mul_neg_of_neg_of_pos hx hy)]; rfl
  · subst hx; simp [cmpI]
  · subst hx; simp [cmpI]
  · subst hx; simp [cmpI]
  · rw [cmpI_gt hx, cmpI_lt hy, cmpI_lt (Int.mul_neg_of_pos_of_neg hx hy)]; rfl
  · subst hy; simp [cmpI]
  · rw [cmpI_gt hx, cmpI_gt hy, cmpI_gt (Int.mul_pos hx hy)]; rfl
theorem cmpI_three (x y : Int) : cmpI x y = -1 ∨ cmpI x y = 0 ∨ cmpI x y = 1 := by
  rcases Int.lt_trichotomy x y with h | h | h
  · exact Or.inl (cmpI_lt h)
  · exact Or.inr (Or.inl (by rw [h, cmpI_eq]))
  · exact Or.inr (Or.inr (cmpI_gt h))
theorem cmpI_addr (x y z : Int) : cmpI (x + z) (y + z) = cmpI x y := by
  rw [← cmpI_sub (x + z), ← cmpI_sub x, show x + z - (y + z) = x - y by omega]
theorem cmpI_mulr (x y z : Int) : cmpI (x * z) (y * z) = cmpI x y * cmpI z 0 := by
  rw [← cmpI_sub (x * z), ← Int.sub_mul, cmpI_mul0, cmpI_sub]

set_option maxRecDepth 100000 in
set_option maxHeartbeats 6000000 in
theorem sring_short {a c e : Option Addr} {ca cc ce : Nat} {xs ys zs : List Int} {w : World} (b : Bool) (A : Seg 0 w (.slice a xs.length ca) xs) (d : Bool) (B : Seg 0 w (.slice c ys.length cc) ys) (f : Bool) (C : Seg 0 w (.slice e zs.length ce) zs) (hx : xs.length ≤ 10) (hy : ys.length ≤ 10) (hz : zs.length ≤ 10) :
    Calls Try.prog 6 #[.agg #[.bool b, .slice a xs.length ca], .agg #[.bool d, .slice c ys.length cc], .agg #[.bool f, .slice e zs.length ce]] w fun e w' => e = .returned (.bool true) ∧ Below w.heap.size w w' := by
  obtain ⟨x, ex⟩ : ∃ x, sgn b (val xs) = x := ⟨_, rfl⟩
  obtain ⟨y, ey⟩ : ∃ y, sgn d (val ys) = y := ⟨_, rfl⟩
  obtain ⟨z, ez⟩ : ∃ z, sgn f (val zs) = z := ⟨_, rfl⟩
  obtain ⟨p, ep⟩ : ∃ p, cmpI x 0 = p := ⟨_, rfl⟩
  obtain ⟨q, eq⟩ : ∃ q, cmpI y 0 = q := ⟨_, rfl⟩
  have hw : IntKind.i64.wrap (p * q) = p * q := by
    rw [← ep, ← eq]
    rcases cmpI_three x 0 with h | h | h <;> rcases cmpI_three y 0 with h' | h' | h' <;> rw [h, h'] <;> decide
  have hp := hide ep
  have hq := hide eq
  clear ep eq
  have EX := hide ex
  have EY := hide ey
  have EZ := hide ez
  clear ex ey ez
  have l1 := fun w => longNat_bel a xs.length ca 10 w
  rw [decide_eq_false (show ¬ ((10 : Int) < (xs.length : Int)) by omega)] at l1
  have L1 := hide l1
  clear l1
  have l2 := fun w => longNat_bel c ys.length cc 10 w
  rw [decide_eq_false (show ¬ ((10 : Int) < (ys.length : Int)) by omega)] at l2
  have L2 := hide l2
  clear l2
  have l3 := fun w => longNat_bel e zs.length ce 10 w
  rw [decide_eq_false (show ¬ ((10 : Int) < (zs.length : Int)) by omega)] at l3
  have L3 := hide l3
  clear l3
  have hB := Below.refl w.heap.size w
  go_enter Try.func6, Try.ntmps6
  have hA := Below.refl w.heap.size w
  have hq : Below w.heap.size w (w.alloc (.cells #[.bool b, .slice a xs.length ca] 25)) := (Below.refl _ _).alloc (Nat.le_refl _) _
  replace A := A.below hq
  replace B := B.below hq
  replace C := C.below hq
  have E1 : Box (w.alloc (.cells #[.bool b, .slice a xs.length ca] 25)) (w.heap.size) (.cells #[.bool b, .slice a xs.length ca] 25) := Box.put (.cells #[.bool b, .slice a xs.length ca] 25) rfl
  replace hA := hA.trans (hq.mono hA.size)
  clear hq
  have hq : Below (w.alloc (.cells #[.bool b, .slice a xs.length ca] 25)).heap.size (w.alloc (.cells #[.bool b, .slice a xs.length ca] 25)) ((w.alloc (.cells #[.bool b, .slice a xs.length ca] 25)).alloc (.cells #[.bool d, .slice c ys.length cc] 25)) := (Below.refl _ _).alloc (Nat.le_refl _) _
  replace A := A.below hq
  replace B := B.below hq
  replace C := C.below hq
  replace E1 := E1.below hq
  have E2 : Box ((w.alloc (.cells #[.bool b, .slice a xs.length ca] 25)).alloc (.cells #[.bool d, .slice c ys.length cc] 25)) (w.heap.size + 1) (.cells #[.bool d, .slice c ys.length cc] 25) := Box.put (.cells #[.bool d, .slice c ys.length cc] 25) (by simp)
  replace hA := hA.trans (hq.mono hA.size)
  clear hq
  have hq : Below ((w.alloc (.cells #[.bool b, .slice a xs.length ca] 25)).alloc (.cells #[.bool d, .slice c ys.length cc] 25)).heap.size ((w.alloc (.cells #[.bool b, .slice a xs.length ca] 25)).alloc (.cells #[.bool d, .slice c ys.length cc] 25)) (((w.alloc (.cells #[.bool b, .slice a xs.length ca] 25)).alloc (.cells #[.bool d, .slice c ys.length cc] 25)).alloc (.cells #[.bool f, .slice e zs.length ce] 25)) := (Below.refl _ _).alloc (Nat.le_refl _) _
  replace A := A.below hq
  replace B := B.below hq
  replace C := C.below hq
  replace E1 := E1.below hq
  replace E2 := E2.below hq
  have E3 : Box (((w.alloc (.cells #[.bool b, .slice a xs.length ca] 25)).alloc (.cells #[.bool d, .slice c ys.length cc] 25)).alloc (.cells #[.bool f, .slice e zs.length ce] 25)) (w.heap.size + 2) (.cells #[.bool f, .slice e zs.length ce] 25) := Box.put (.cells #[.bool f, .slice e zs.length ce] 25) (by simp)
  replace hA := hA.trans (hq.mono hA.size)
  clear hq
  go_wp2_with fail
  refine (sknown_any _).mono ?_
  rintro e w1 ⟨rfl, hb⟩
  replace A := A.below hb
  replace B := B.below hb
  replace C := C.below hb
  replace E1 := E1.below hb
  replace E2 := E2.below hb
  replace E3 := E3.below hb
  replace hA := hA.trans (hb.mono hA.size)
  replace hB := hB.trans (hA.mono hB.size)
  have zw1 := hA.size
  clear hb hA  
  have hA := Below.refl w1.heap.size w1
  obtain ⟨k0, k1, f0, f1⟩ := E1.two
  go_wp2_with fail
  clear k0 f0 k1 f1
  refine (L1.out _).mono ?_
  rintro e w2 ⟨rfl, hb⟩
  replace A := A.below hb
  replace B := B.below hb
  replace C := C.below hb
  replace E1 := E1.below hb
  replace E2 := E2.below hb
  replace E3 := E3.below hb
  replace hA := hA.trans (hb.mono hA.size)
  replace hB := hB.trans (hA.mono hB.size)
  have zw2 := hA.size
  clear hb hA  
  have hA := Below.refl w2.heap.size w2
  obtain ⟨k0, k1, f0, f1⟩ := E2.two
  go_wp2_with fail
  clear k0 f0 k1 f1
  refine (L2.out _).mono ?_
  rintro e w3 ⟨rfl, hb⟩
  replace A := A.below hb
  replace B := B.below hb
  replace C := C.below hb
  replace E1 := E1.below hb
  replace E2 := E2.below hb
  replace E3 := E3.below hb
  replace hA := hA.trans (hb.mono hA.size)
  replace hB := hB.trans (hA.mono hB.size)
  have zw3 := hA.size
  clear hb hA  
  have hA := Below.refl w3.heap.size w3
  obtain ⟨k0, k1, f0, f1⟩ := E3.two
  go_wp2_with fail
  clear k0 f0 k1 f1
  refine (L3.out _).mono ?_
  rintro e w4 ⟨rfl, hb⟩
  replace A := A.below hb
  replace B := B.below hb
  replace C := C.below hb
  replace E1 := E1.below hb
  replace E2 := E2.below hb
  replace E3 := E3.below hb
  replace hA := hA.trans (hb.mono hA.size)
  replace hB := hB.trans (hA.mono hB.size)
  have zw4 := hA.size
  clear hb hA  
  go_wp2_with fail
  replace A := A.drew
  replace B := B.drew
  replace C := C.drew
  have qE1 := E1.lt
  replace E1 := E1.drew
  have qE2 := E2.lt
  replace E2 := E2.drew
  have qE3 := E3.lt
  replace E3 := E3.drew
  refine wp_yields 15 [.is (.pointer (some ⟨w.heap.size, 0, none⟩)), .is (.bool b), .is (.pointer (some ⟨w.heap.size, 1, none⟩)), .is (.slice a xs.length ca), .whole w4.heap.size (sgn b (val xs)) 10, .is (.pointer (some ⟨w.heap.size + 1, 0, none⟩)), .is (.bool d), .is (.pointer (some ⟨w.heap.size + 1, 1, none⟩)), .is (.slice c ys.length cc), .whole w4.heap.size (sgn d (val ys)) 10, .is (.pointer (some ⟨w.heap.size + 2, 0, none⟩)), .is (.bool f), .is (.pointer (some ⟨w.heap.size + 2, 1, none⟩)), .is (.slice e zs.length ce), .whole w4.heap.size (sgn f (val zs)) 10] (by kernel_rfl) (by kernel_rfl) (lt_cons ?_ (lt_cons ?_ (lt_cons ?_ (lt_cons ?_ (lt_cons ?_ (lt_cons ?_ (lt_cons ?_ (lt_cons ?_ (lt_cons ?_ (lt_cons ?_ (lt_cons ?_ (lt_cons ?_ (lt_cons ?_ (lt_cons ?_ (lt_cons ?_ lt_nil))))))))))))))) ?_
  case refine_1 =>
    refine OpDoes.mk rfl ?_
    intro vs V hV hd K hK
    have d11 : vs 11 = .bool f := hd 11 (by decide) (by kernel_rfl)
    have d13 : vs 13 = .slice e zs.length ce := hd 13 (by decide) (by kernel_rfl)
    simp only [laidIn, List.getElem_toArray, List.getElem_cons_zero, List.getElem_cons_succ, List.getElem?_toArray, List.getElem?_cons_zero, List.getElem?_cons_succ, if_true, Act.put, List.setIfInBounds_toArray, List.set_cons_zero, List.set_cons_succ] at hK ⊢
    simp only [d11, d13] at hK ⊢
    go_simp
    go_at_call 12
    refine (smake_any (C.below hV) (by omega) f).mono ?_
    rintro e V' ⟨g3, a3, c3, z3, rfl, S3, N3, v3, l3, hb⟩
    exact hK.out _ _ hb ⟨_, _, _, _, rfl, S3.mono hV.size, N3, v3, by omega⟩ (fresh_apart _ _ (fun k hk => (seg_blockOf S3 hk).1))
  case refine_2 =>
    refine OpDoes.mk rfl ?_
    intro vs V hV hd K hK
    have d12 : vs 12 = .pointer (some ⟨w.heap.size + 2, 1, none⟩) := hd 12 (by decide) (by kernel_rfl)
    have hcc := (E3.below hV).two
    have k0 := hcc.1
    have k1 := hcc.2.1
    clear hcc
    simp only [laidIn, List.getElem_toArray, List.getElem_cons_zero, List.getElem_cons_succ, List.getElem?_toArray, List.getElem?_cons_zero, List.getElem?_cons_succ, if_true, Act.put, List.setIfInBounds_toArray, List.set_cons_zero, List.set_cons_succ] at hK ⊢
    simp only [d12] at hK ⊢
    go_simp
    exact hK.out _ _ (Below.refl _ _) rfl (not_fresh rfl)
  case refine_3 =>
    refine OpDoes.mk rfl ?_
    intro vs V hV hd K hK
    simp only [laidIn, List.getElem_toArray, List.getElem_cons_zero, List.getElem_cons_succ, List.getElem?_toArray, List.getElem?_cons_zero, List.getElem?_cons_succ, if_true, Act.put, List.setIfInBounds_toArray, List.set_cons_zero, List.set_cons_succ] at hK ⊢
    go_simp
    exact hK.out _ _ (Below.refl _ _) rfl (not_fresh rfl)
  case refine_4 =>
    refine OpDoes.mk rfl ?_
    intro vs V hV hd K hK
    have d10 : vs 10 = .pointer (some ⟨w.heap.size + 2, 0, none⟩) := hd 10 (by decide) (by kernel_rfl)
    have hcc := (E3.below hV).two
    have k0 := hcc.1
    have k1 := hcc.2.1
    clear hcc
    simp only [laidIn, List.getElem_toArray, List.getElem_cons_zero, List.getElem_cons_succ, List.getElem?_toArray, List.getElem?_cons_zero, List.getElem?_cons_succ, if_true, Act.put, List.setIfInBounds_toArray, List.set_cons_zero, List.set_cons_succ] at hK ⊢
    simp only [d10] at hK ⊢
    go_simp
    exact hK.out _ _ (Below.refl _ _) rfl (not_fresh rfl)
  case refine_5 =>
    refine OpDoes.mk rfl ?_
    intro vs V hV hd K hK
    simp only [laidIn, List.getElem_toArray, List.getElem_cons_zero, List.getElem_cons_succ, List.getElem?_toArray, List.getElem?_cons_zero, List.getElem?_cons_succ, if_true, Act.put, List.setIfInBounds_toArray, List.set_cons_zero, List.set_cons_succ] at hK ⊢
    go_simp
    exact hK.out _ _ (Below.refl _ _) rfl (not_fresh rfl)
  case refine_6 =>
    refine OpDoes.mk rfl ?_
    intro vs V hV hd K hK
    have d6 : vs 6 = .bool d := hd 6 (by decide) (by kernel_rfl)
    have d8 : vs 8 = .slice c ys.length cc := hd 8 (by decide) (by kernel_rfl)
    simp only [laidIn, List.getElem_toArray, List.getElem_cons_zero, List.getElem_cons_succ, List.getElem?_toArray, List.getElem?_cons_zero, List.getElem?_cons_succ, if_true, Act.put, List.setIfInBounds_toArray, List.set_cons_zero, List.set_cons_succ] at hK ⊢
    simp only [d6, d8] at hK ⊢
    go_simp
    go_at_call 12
    refine (smake_any (B.below hV) (by omega) d).mono ?_
    rintro e V' ⟨g2, a2, c2, z2, rfl, S2, N2, v2, l2, hb⟩
    exact hK.out _ _ hb ⟨_, _, _, _, rfl, S2.mono hV.size, N2, v2, by omega⟩ (fresh_apart _ _ (fun k hk => (seg_blockOf S2 hk).1))
  case refine_7 =>
    refine OpDoes.mk rfl ?_
    intro vs V hV hd K hK
    have d7 : vs 7 = .pointer (some ⟨w.heap.size + 1, 1, none⟩) := hd 7 (by decide) (by kernel_rfl)
    have hcc := (E2.below hV).two
    have k0 := hcc.1
    have k1 := hcc.2.1
    clear hcc
    simp only [laidIn, List.getElem_toArray, List.getElem_cons_zero, List.getElem_cons_succ, List.getElem?_toArray, List.getElem?_cons_zero, List.getElem?_cons_succ, if_true, Act.put, List.setIfInBounds_toArray, List.set_cons_zero, List.set_cons_succ] at hK ⊢
    simp only [d7] at hK ⊢
    go_simp
    exact hK.out _ _ (Below.refl _ _) rfl (not_fresh rfl)
  case refine_8 =>
    refine OpDoes.mk rfl ?_
    intro vs V hV hd K hK
    simp only [laidIn, List.getElem_toArray, List.getElem_cons_zero, List.getElem_cons_succ, List.getElem?_toArray, List.getElem?_cons_zero, List.getElem?_cons_succ, if_true, Act.put, List.setIfInBounds_toArray, List.set_cons_zero, List.set_cons_succ] at hK ⊢
    go_simp
    exact hK.out _ _ (Below.refl _ _) rfl (not_fresh rfl)
  case refine_9 =>
    refine OpDoes.mk rfl ?_
    intro vs V hV hd K hK
    have d5 : vs 5 = .pointer (some ⟨w.heap.size + 1, 0, none⟩) := hd 5 (by decide) (by kernel_rfl)
    have hcc := (E2.below hV).two
    have k0 := hcc.1
    have k1 := hcc.2.1
    clear hcc
    simp only [laidIn, List.getElem_toArray, List.getElem_cons_zero, List.getElem_cons_succ, List.getElem?_toArray, List.getElem?_cons_zero, List.getElem?_cons_succ, if_true, Act.put, List.setIfInBounds_toArray, List.set_cons_zero, List.set_cons_succ] at hK ⊢
    simp only [d5] at hK ⊢
    go_simp
    exact hK.out _ _ (Below.refl _ _) rfl (not_fresh rfl)
  case refine_10 =>
    refine OpDoes.mk rfl ?_
    intro vs V hV hd K hK
    simp only [laidIn, List.getElem_toArray, List.getElem_cons_zero, List.getElem_cons_succ, List.getElem?_toArray, List.getElem?_cons_zero, List.getElem?_cons_succ, if_true, Act.put, List.setIfInBounds_toArray, List.set_cons_zero, List.set_cons_succ] at hK ⊢
    go_simp
    exact hK.out _ _ (Below.refl _ _) rfl (not_fresh rfl)
  case refine_11 =>
    refine OpDoes.mk rfl ?_
    intro vs V hV hd K hK
    have d1 : vs 1 = .bool b := hd 1 (by decide) (by kernel_rfl)
    have d3 : vs 3 = .slice a xs.length ca := hd 3 (by decide) (by kernel_rfl)
    simp only [laidIn, List.getElem_toArray, List.getElem_cons_zero, List.getElem_cons_succ, List.getElem?_toArray, List.getElem?_cons_zero, List.getElem?_cons_succ, if_true, Act.put, List.setIfInBounds_toArray, List.set_cons_zero, List.set_cons_succ] at hK ⊢
    simp only [d1, d3] at hK ⊢
    go_simp
    go_at_call 12
    refine (smake_any (A.below hV) (by omega) b).mono ?_
    rintro e V' ⟨g1, a1, c1, z1, rfl, S1, N1, v1, l1, hb⟩
    exact hK.out _ _ hb ⟨_, _, _, _, rfl, S1.mono hV.size, N1, v1, by omega⟩ (fresh_apart _ _ (fun k hk => (seg_blockOf S1 hk).1))
  case refine_12 =>
    refine OpDoes.mk rfl ?_
    intro vs V hV hd K hK
    have d2 : vs 2 = .pointer (some ⟨w.heap.size, 1, none⟩) := hd 2 (by decide) (by kernel_rfl)
    have hcc := (E1.below hV).two
    have k0 := hcc.1
    have k1 := hcc.2.1
    clear hcc
    simp only [laidIn, List.getElem_toArray, List.getElem_cons_zero, List.getElem_cons_succ, List.getElem?_toArray, List.getElem?_cons_zero, List.getElem?_cons_succ, if_true, Act.put, List.setIfInBounds_toArray, List.set_cons_zero, List.set_cons_succ] at hK ⊢
    simp only [d2] at hK ⊢
    go_simp
    exact hK.out _ _ (Below.refl _ _) rfl (not_fresh rfl)
  case refine_13 =>
    refine OpDoes.mk rfl ?_
    intro vs V hV hd K hK
    simp only [laidIn, List.getElem_toArray, List.getElem_cons_zero, List.getElem_cons_succ, List.getElem?_toArray, List.getElem?_cons_zero, List.getElem?_cons_succ, if_true, Act.put, List.setIfInBounds_toArray, List.set_cons_zero, List.set_cons_succ] at hK ⊢
    go_simp
    exact hK.out _ _ (Below.refl _ _) rfl (not_fresh rfl)
  case refine_14 =>
    refine OpDoes.mk rfl ?_
    intro vs V hV hd K hK
    have d0 : vs 0 = .pointer (some ⟨w.heap.size, 0, none⟩) := hd 0 (by decide) (by kernel_rfl)
    have hcc := (E1.below hV).two
    have k0 := hcc.1
    have k1 := hcc.2.1
    clear hcc
    simp only [laidIn, List.getElem_toArray, List.getElem_cons_zero, List.getElem_cons_succ, List.getElem?_toArray, List.getElem?_cons_zero, List.getElem?_cons_succ, if_true, Act.put, List.setIfInBounds_toArray, List.set_cons_zero, List.set_cons_succ] at hK ⊢
    simp only [d0] at hK ⊢
    go_simp
    exact hK.out _ _ (Below.refl _ _) rfl (not_fresh rfl)
  case refine_15 =>
    refine OpDoes.mk rfl ?_
    intro vs V hV hd K hK
    simp only [laidIn, List.getElem_toArray, List.getElem_cons_zero, List.getElem?_toArray, List.getElem?_cons_zero, List.getElem?_cons_succ, if_true, Act.put, List.setIfInBounds_toArray, List.set_cons_zero, List.set_cons_succ] at hK ⊢
    go_simp
    exact hK.out _ _ (Below.refl _ _) rfl (not_fresh rfl)
  case refine_16 =>
    intro vs V hV hR hne fuel
    have d0 : vs 0 = .pointer (some ⟨w.heap.size, 0, none⟩) := hR 0 (by decide)
    have d1 : vs 1 = .bool b := hR 1 (by decide)
    have d2 : vs 2 = .pointer (some ⟨w.heap.size, 1, none⟩) := hR 2 (by decide)
    have d3 : vs 3 = .slice a xs.length ca := hR 3 (by decide)
    obtain ⟨g1, a1, c1, z1, d4, S1, N1, v1, b1⟩ := (show (Yield.whole w4.heap.size (sgn b (val xs)) 10).At (vs 4) V from hR 4 (by decide))
    have d5 : vs 5 = .pointer (some ⟨w.heap.size + 1, 0, none⟩) := hR 5 (by decide)
    have d6 : vs 6 = .bool d := hR 6 (by decide)
    have d7 : vs 7 = .pointer (some ⟨w.heap.size + 1, 1, none⟩) := hR 7 (by decide)
    have d8 : vs 8 = .slice c ys.length cc := hR 8 (by decide)
    obtain ⟨g2, a2, c2, z2, d9, S2, N2, v2, b2⟩ := (show (Yield.whole w4.heap.size (sgn d (val ys)) 10).At (vs 9) V from hR 9 (by decide))
    have d10 : vs 10 = .pointer (some ⟨w.heap.size + 2, 0, none⟩) := hR 10 (by decide)
    have d11 : vs 11 = .bool f := hR 11 (by decide)
    have d12 : vs 12 = .pointer (some ⟨w.heap.size + 2, 1, none⟩) := hR 12 (by decide)
    have d13 : vs 13 = .slice e zs.length ce := hR 13 (by decide)
    obtain ⟨g3, a3, c3, z3, d14, S3, N3, v3, b3⟩ := (show (Yield.whole w4.heap.size (sgn f (val zs)) 10).At (vs 14) V from hR 14 (by decide))
    have PS1_S2 := hide (by have h := hne 4 9 (by decide) (by decide) rfl rfl (by decide); rw [d4, d9] at h; exact h : Apart _ _)
    have PS1_S3 := hide (by have h := hne 4 14 (by decide) (by decide) rfl rfl (by decide); rw [d4, d14] at h; exact h : Apart _ _)
    have PS2_S1 := hide (by have h := hne 9 4 (by decide) (by decide) rfl rfl (by decide); rw [d9, d4] at h; exact h : Apart _ _)
    have PS2_S3 := hide (by have h := hne 9 14 (by decide) (by decide) rfl rfl (by decide); rw [d9, d14] at h; exact h : Apart _ _)
    have PS3_S1 := hide (by have h := hne 14 4 (by decide) (by decide) rfl rfl (by decide); rw [d14, d4] at h; exact h : Apart _ _)
    have PS3_S2 := hide (by have h := hne 14 9 (by decide) (by decide) rfl rfl (by decide); rw [d14, d9] at h; exact h : Apart _ _)
    replace A := A.below hV
    replace B := B.below hV
    replace C := C.below hV
    replace E1 := E1.below hV
    replace E2 := E2.below hV
    replace E3 := E3.below hV
    have hr := hV
    simp only [laidIn, List.getElem?_toArray, List.getElem?_cons_zero, List.getElem?_cons_succ, if_true, Act.put, List.setIfInBounds_toArray, List.set_cons_zero, List.set_cons_succ]
    simp only [d0, d1, d2, d3, d4, d5, d6, d7, d8, d9, d10, d11, d12, d13, d14]
    clear hR hne hV d0 d1 d2 d3 d4 d5 d6 d7 d8 d9 d10 d11 d12 d13 d14
    clear vs
    show wpAny _ _ _ _ (fuel + 3) _ _ _
    have hcc := E1.two
    have k0 := hcc.1
    have k1 := hcc.2.1
    have f0 := hcc.2.2.1
    have f1 := hcc.2.2.2
    clear hcc
    refine wpAny_all (rs := [15]) (by kernel_rfl) (by simp) (fun i hi => ?_)
    obtain rfl : i = 15 := by simpa using hi
    clear hi
    refine wpOp_step rfl (fun K hK => ?_)
    simp only [List.getElem_toArray, List.getElem_cons_zero, List.getElem_cons_succ]
    rw [if_pos (by rfl)]
    go_simp
    refine hK _ _ ?_
    clear hK k0 k1 f0 f1
    have hT := turns2 (w.heap.size) V (.bool g1) (.slice a1 z1.length c1)
    replace A := A.besides E1 slice_noInt hT
    replace B := B.besides E1 slice_noInt hT
    replace C := C.besides E1 slice_noInt hT
    replace S1 := S1.besides E1 slice_noInt hT
    replace S2 := S2.besides E1 slice_noInt hT
    replace S3 := S3.besides E1 slice_noInt hT
    replace E2 := E2.turns hT (by omega)
    replace E3 := E3.turns hT (by omega)
    replace E1 := E1.set2 (.bool g1) (.slice a1 z1.length c1)
    have hr0 := hT.below
    obtain ⟨X1, hX⟩ : ∃ X, (V.setCell ⟨w.heap.size, 0, none⟩ (.bool g1)).setCell ⟨w.heap.size, 1, none⟩ (.slice a1 z1.length c1) = X := ⟨_, rfl⟩
    rw [hX] at A B C S1 S2 S3 E1 E2 E3 hr0 ⊢
    clear hX hT
    have hcc := E2.two
    have k0 := hcc.1
    have k1 := hcc.2.1
    have f0 := hcc.2.2.1
    have f1 := hcc.2.2.2
    clear hcc
    refine wpAny_all (rs := [16]) (by kernel_rfl) (by simp) (fun i hi => ?_)
    obtain rfl : i = 16 := by simpa using hi
    clear hi
    refine wpOp_step rfl (fun K hK => ?_)
    simp only [List.getElem_toArray, List.getElem_cons_zero, List.getElem_cons_succ]
    rw [if_pos (by rfl)]
    go_simp
    refine hK _ _ ?_
    clear hK k0 k1 f0 f1
    have hT := turns2 (w.heap.size + 1) X1 (.bool g2) (.slice a2 z2.length c2)
    replace A := A.besides E2 slice_noInt hT
    replace B := B.besides E2 slice_noInt hT
    replace C := C.besides E2 slice_noInt hT
    replace S1 := S1.besides E2 slice_noInt hT
    replace S2 := S2.besides E2 slice_noInt hT
    replace S3 := S3.besides E2 slice_noInt hT
    replace E1 := E1.turns hT (by omega)
    replace E3 := E3.turns hT (by omega)
    replace E2 := E2.set2 (.bool g2) (.slice a2 z2.length c2)
    have hr1 := hT.below
    obtain ⟨X2, hX⟩ : ∃ X, (X1.setCell ⟨w.heap.size + 1, 0, none⟩ (.bool g2)).setCell ⟨w.heap.size + 1, 1, none⟩ (.slice a2 z2.length c2) = X := ⟨_, rfl⟩
    rw [hX] at A B C S1 S2 S3 E1 E2 E3 hr1 ⊢
    clear hX hT
    have hcc := E3.two
    have k0 := hcc.1
    have k1 := hcc.2.1
    have f0 := hcc.2.2.1
    have f1 := hcc.2.2.2
    clear hcc
    refine wpAny_all (rs := [17]) (by kernel_rfl) (by simp) (fun i hi => ?_)
    obtain rfl : i = 17 := by simpa using hi
    clear hi
    refine wpOp_step rfl (fun K hK => ?_)
    simp only [List.getElem_toArray, List.getElem_cons_zero, List.getElem_cons_succ]
    rw [if_pos (by rfl)]
    go_simp
    refine hK _ _ ?_
    clear hK k0 k1 f0 f1
    have hT := turns2 (w.heap.size + 2) X2 (.bool g3) (.slice a3 z3.length c3)
    replace A := A.besides E3 slice_noInt hT
    replace B := B.besides E3 slice_noInt hT
    replace C := C.besides E3 slice_noInt hT
    replace S1 := S1.besides E3 slice_noInt hT
    replace S2 := S2.besides E3 slice_noInt hT
    replace S3 := S3.besides E3 slice_noInt hT
    replace E1 := E1.turns hT (by omega)
    replace E2 := E2.turns hT (by omega)
    replace E3 := E3.set2 (.bool g3) (.slice a3 z3.length c3)
    have hr2 := hT.below
    obtain ⟨X3, hX⟩ : ∃ X, (X2.setCell ⟨w.heap.size + 2, 0, none⟩ (.bool g3)).setCell ⟨w.heap.size + 2, 1, none⟩ (.slice a3 z3.length c3) = X := ⟨_, rfl⟩
    rw [hX] at A B C S1 S2 S3 E1 E2 E3 hr2 ⊢
    clear hX hT
    refine wpAny_done (by kernel_rfl) ?_ _
    replace hB := hB.trans ((Below.trans (Below.drew (Below.refl w4.heap.size w4)) hr).mono hB.size)
    replace hB := hB.trans (hr0.mono (by omega))
    replace hB := hB.trans (hr1.mono (by omega))
    replace hB := hB.trans (hr2.mono (by omega))
    clear hr hr0 hr1 hr2
    rw [EX.out] at v1
    rw [EY.out] at v2
    rw [EZ.out] at v3
    have V1 := hide v1
    clear v1
    have V2 := hide v2
    clear v2
    have V3 := hide v3
    clear v3
    clear A B C
    have hA := Below.refl X3.heap.size X3
    obtain ⟨k0, k1, f0, f1⟩ := E1.two
    obtain ⟨k2, k3, f2, f3⟩ := E2.two
    go_wp2_with fail
    clear k0 f0 k1 f1 k2 f2 k3 f3
    refine (sadd_any g1 g2 S1 S2 (by omega) (by omega)).mono ?_
    rintro e w5 ⟨g4, a4, c4, z4, rfl, S4, N4, v4, l4, hb⟩
    have V4 : Hid (sgn g4 (val z4) = x + y) := by rw [Hid, v4, V1.out, V2.out]
    have b4 : z4.length ≤ 11 := by omega
    replace E1 := E1.below hb
    replace E2 := E2.below hb
    replace E3 := E3.below hb
    replace S1 := S1.below hb
    replace S2 := S2.below hb
    replace S3 := S3.below hb
    replace hA := hA.trans (hb.mono hA.size)
    replace hB := hB.trans (hA.mono hB.size)
    have zw5 := hA.size
    clear hb hA v4 l4 
    have hA := Below.refl w5.heap.size w5
    have hq : Below w5.heap.size w5 (w5.alloc (.cells #[.bool g4, .slice a4 z4.length c4] 25)) := (Below.refl _ _).alloc (Nat.le_refl _) _
    replace E1 := E1.below hq
    replace E2 := E2.below hq
    replace E3 := E3.below hq
    replace S1 := S1.below hq
    replace S2 := S2.below hq
    replace S3 := S3.below hq
    replace S4 := S4.below hq
    have E4 : Box (w5.alloc (.cells #[.bool g4, .slice a4 z4.length c4] 25)) (w5.heap.size) (.cells #[.bool g4, .slice a4 z4.length c4] 25) := Box.put (.cells #[.bool g4, .slice a4 z4.length c4] 25) rfl
    replace hA := hA.trans (hq.mono hA.size)
    clear hq
    go_wp2_with fail
    obtain ⟨y1, hname⟩ : ∃ u, (w5.alloc (.cells #[.bool g4, .slice a4 z4.length c4] 25)) = u := ⟨_, rfl⟩
    rw [hname] at hA E1 E2 E3 S1 S2 S3 S4 E4 ⊢
    replace hB := hB.trans (hA.mono hB.size)
    clear hname hA
    replace E1 := E1.drew
    replace E2 := E2.drew
    replace E3 := E3.drew
    replace S1 := S1.drew
    replace S2 := S2.drew
    replace S3 := S3.drew
    replace S4 := S4.drew
    replace E4 := E4.drew
    have hr := Below.refl y1.drew.heap.size y1.drew
    have hkeep : ∀ V : World, Below y1.drew.heap.size y1.drew V → (V.cell? ⟨w.heap.size, 0, none⟩ = some (.bool g1) ∧ V.cell? ⟨w.heap.size, 1, none⟩ = some (.slice a1 z1.length c1)) ∧ (V.cell? ⟨w.heap.size + 1, 0, none⟩ = some (.bool g2) ∧ V.cell? ⟨w.heap.size + 1, 1, none⟩ = some (.slice a2 z2.length c2)) ∧ (V.cell? ⟨w.heap.size + 2, 0, none⟩ = some (.bool g3) ∧ V.cell? ⟨w.heap.size + 2, 1, none⟩ = some (.slice a3 z3.length c3)) ∧ (V.cell? ⟨w5.heap.size, 0, none⟩ = some (.bool g4) ∧ V.cell? ⟨w5.heap.size, 1, none⟩ = some (.slice a4 z4.length c4)) := fun V hV => ⟨(E1.below hV).cells, (E2.below hV).cells, (E3.below hV).cells, (E4.below hV).cells⟩
    have t0 : Hid True := trivial
    go_region_held3 (fun V : World => (V.cell? ⟨w.heap.size, 0, none⟩ = some (.bool g1) ∧ V.cell? ⟨w.heap.size, 1, none⟩ = some (.slice a1 z1.length c1)) ∧ (V.cell? ⟨w.heap.size + 1, 0, none⟩ = some (.bool g2) ∧ V.cell? ⟨w.heap.size + 1, 1, none⟩ = some (.slice a2 z2.length c2)) ∧ (V.cell? ⟨w.heap.size + 2, 0, none⟩ = some (.bool g3) ∧ V.cell? ⟨w.heap.size + 2, 1, none⟩ = some (.slice a3 z3.length c3)) ∧ (V.cell? ⟨w5.heap.size, 0, none⟩ = some (.bool g4) ∧ V.cell? ⟨w5.heap.size, 1, none⟩ = some (.slice a4 z4.length c4)))
      (first | exact hkeep _ hr | exact hkeep _ (hr.a1 _) | exact hkeep _ ((hr.a1 _).a1 _) | exact hkeep _ (((hr.a1 _).a1 _).a1 _) | exact hkeep _ ((((hr.a1 _).a1 _).a1 _).a1 _))
      (first
      | (clear t0
         go_at_call 24
         refine (sadd_any g2 g1 S2 S1 (by omega) (by omega)).mono ?_
         rintro e w6 ⟨g5, a5, c5, z5, rfl, S5, N5, v5, l5, hb⟩
         have V5 : Hid (sgn g5 (val z5) = y + x) := by rw [Hid, v5, V2.out, V1.out]
         have b5 : z5.length ≤ 11 := by omega
         replace E1 := E1.below hb
         replace E2 := E2.below hb
         replace E3 := E3.below hb
         replace S1 := S1.below hb
         replace S2 := S2.below hb
         replace S3 := S3.below hb
         replace S4 := S4.below hb
         replace E4 := E4.below hb
         replace hr := hr.trans (hb.mono hr.size)
         have zw6 := hb.size
         clear hb v5 l5
         have t1 : Hid True := trivial)
      | (clear t1
         go_at_call 16
         refine (samew_can g4 g5 S4 S5 N4 N5 (by rw [V4.out, V5.out]; exact Int.add_comm _ _) (by omega)).mono ?_
         rintro e w7 ⟨rfl, hb⟩
         replace E1 := E1.below hb
         replace E2 := E2.below hb
         replace E3 := E3.below hb
         replace S1 := S1.below hb
         replace S2 := S2.below hb
         replace S3 := S3.below hb
         replace S4 := S4.below hb
         replace E4 := E4.below hb
         replace S5 := S5.below hb
         replace hr := hr.trans (hb.mono hr.size)
         have zw7 := hb.size
         clear hb 
         have t2 : Hid True := trivial)
      | (clear t2
         go_at_call 24
         refine (sadd_any g4 g3 S4 S3 (by omega) (by omega)).mono ?_
         rintro e w8 ⟨g6, a6, c6, z6, rfl, S6, N6, v6, l6, hb⟩
         have V6 : Hid (sgn g6 (val z6) = x + y + z) := by rw [Hid, v6, V4.out, V3.out]
         have b6 : z6.length ≤ 12 := by omega
         replace E1 := E1.below hb
         replace E2 := E2.below hb
         replace E3 := E3.below hb
         replace S1 := S1.below hb
         replace S2 := S2.below hb
         replace S3 := S3.below hb
         replace S4 := S4.below hb
         replace E4 := E4.below hb
         replace S5 := S5.below hb
         replace hr := hr.trans (hb.mono hr.size)
         have zw8 := hb.size
         clear hb v6 l6
         have t3 : Hid True := trivial)
      | (clear t3
         go_at_call 24
         refine (sadd_any g2 g3 S2 S3 (by omega) (by omega)).mono ?_
         rintro e w9 ⟨g7, a7, c7, z7, rfl, S7, N7, v7, l7, hb⟩
         have V7 : Hid (sgn g7 (val z7) = y + z) := by rw [Hid, v7, V2.out, V3.out]
         have b7 : z7.length ≤ 11 := by omega
         replace E1 := E1.below hb
         replace E2 := E2.below hb
         replace E3 := E3.below hb
         replace S1 := S1.below hb
         replace S2 := S2.below hb
         replace S3 := S3.below hb
         replace S4 := S4.below hb
         replace E4 := E4.below hb
         replace S5 := S5.below hb
         replace S6 := S6.below hb
         replace hr := hr.trans (hb.mono hr.size)
         have zw9 := hb.size
         clear hb v7 l7
         have t4 : Hid True := trivial)
      | (clear t4
         go_at_call 24
         refine (sadd_any g1 g7 S1 S7 (by omega) (by omega)).mono ?_
         rintro e w10 ⟨g8, a8, c8, z8, rfl, S8, N8, v8, l8, hb⟩
         have V8 : Hid (sgn g8 (val z8) = x + (y + z)) := by rw [Hid, v8, V1.out, V7.out]
         have b8 : z8.length ≤ 12 := by omega
         replace E1 := E1.below hb
         replace E2 := E2.below hb
         replace E3 := E3.below hb
         replace S1 := S1.below hb
         replace S2 := S2.below hb
         replace S3 := S3.below hb
         replace S4 := S4.below hb
         replace E4 := E4.below hb
         replace S5 := S5.below hb
         replace S6 := S6.below hb
         replace S7 := S7.below hb
         replace hr := hr.trans (hb.mono hr.size)
         have zw10 := hb.size
         clear hb v8 l8
         have t5 : Hid True := trivial)
      | (clear t5
         go_at_call 16
         refine (samew_can g6 g8 S6 S8 N6 N8 (by rw [V6.out, V8.out]; exact Int.add_assoc _ _ _) (by omega)).mono ?_
         rintro e w11 ⟨rfl, hb⟩
         replace E1 := E1.below hb
         replace E2 := E2.below hb
         replace E3 := E3.below hb
         replace S1 := S1.below hb
         replace S2 := S2.below hb
         replace S3 := S3.below hb
         replace S4 := S4.below hb
         replace E4 := E4.below hb
         replace S5 := S5.below hb
         replace S6 := S6.below hb
         replace S7 := S7.below hb
         replace S8 := S8.below hb
         replace hr := hr.trans (hb.mono hr.size)
         have zw11 := hb.size
         clear hb 
         have t6 : Hid True := trivial)
      | (clear t6
         go_at_call 25
         refine (ssub_any g4 g2 S4 S2 (by omega) (by omega)).mono ?_
         rintro e w12 ⟨g9, a9, c9, z9, rfl, S9, N9, v9, l9, hb⟩
         have V9 : Hid (sgn g9 (val z9) = x + y - y) := by rw [Hid, v9, V4.out, V2.out]
         have b9 : z9.length ≤ 12 := by omega
         replace E1 := E1.below hb
         replace E2 := E2.below hb
         replace E3 := E3.below hb
         replace S1 := S1.below hb
         replace S2 := S2.below hb
         replace S3 := S3.below hb
         replace S4 := S4.below hb
         replace E4 := E4.below hb
         replace S5 := S5.below hb
         replace S6 := S6.below hb
         replace S7 := S7.below hb
         replace S8 := S8.below hb
         replace hr := hr.trans (hb.mono hr.size)
         have zw12 := hb.size
         clear hb v9 l9
         have t7 : Hid True := trivial)
      | (clear t7
         go_at_call 16
         refine (samew_can g9 g1 S9 S1 N9 N1 (by rw [V9.out, V1.out]; omega) (by omega)).mono ?_
         rintro e w13 ⟨rfl, hb⟩
         replace E1 := E1.below hb
         replace E2 := E2.below hb
         replace E3 := E3.below hb
         replace S1 := S1.below hb
         replace S2 := S2.below hb
         replace S3 := S3.below hb
         replace S4 := S4.below hb
         replace E4 := E4.below hb
         replace S5 := S5.below hb
         replace S6 := S6.below hb
         replace S7 := S7.below hb
         replace S8 := S8.below hb
         replace S9 := S9.below hb
         replace hr := hr.trans (hb.mono hr.size)
         have zw13 := hb.size
         clear hb 
         have t8 : Hid True := trivial)
      | (clear t8
         go_at_call 27
         refine (sneg_any g1 S1 (by omega)).mono ?_
         rintro e w14 ⟨g10, a10, c10, z10, rfl, S10, N10, v10, l10, hb⟩
         have V10 : Hid (sgn g10 (val z10) = -x) := by rw [Hid, v10, V1.out]
         have b10 : z10.length ≤ 10 := by omega
         replace E1 := E1.below hb
         replace E2 := E2.below hb
         replace E3 := E3.below hb
         replace S1 := S1.below hb
         replace S2 := S2.below hb
         replace S3 := S3.below hb
         replace S4 := S4.below hb
         replace E4 := E4.below hb
         replace S5 := S5.below hb
         replace S6 := S6.below hb
         replace S7 := S7.below hb
         replace S8 := S8.below hb
         replace S9 := S9.below hb
         replace hr := hr.trans (hb.mono hr.size)
         have zw14 := hb.size
         clear hb v10 l10
         have t9 : Hid True := trivial)
      | (clear t9
         go_at_call 24
         refine (sadd_any g1 g10 S1 S10 (by omega) (by omega)).mono ?_
         rintro e w15 ⟨g11, a11, c11, z11, rfl, S11, N11, v11, l11, hb⟩
         have V11 : Hid (sgn g11 (val z11) = x + -x) := by rw [Hid, v11, V1.out, V10.out]
         have b11 : z11.length ≤ 11 := by omega
         replace E1 := E1.below hb
         replace E2 := E2.below hb
         replace E3 := E3.below hb
         replace S1 := S1.below hb
         replace S2 := S2.below hb
         replace S3 := S3.below hb
         replace S4 := S4.below hb
         replace E4 := E4.below hb
         replace S5 := S5.below hb
         replace S6 := S6.below hb
         replace S7 := S7.below hb
         replace S8 := S8.below hb
         replace S9 := S9.below hb
         replace S10 := S10.below hb
         replace hr := hr.trans (hb.mono hr.size)
         have zw15 := hb.size
         clear hb v11 l11
         have t10 : Hid True := trivial)
      | (clear t10
         go_at_call 34
         refine (sis_yes g11 0 S11 N11 (by omega) (by rw [V11.out]; omega) (by decide)).mono ?_
         rintro e w16 ⟨rfl, hb⟩
         replace E1 := E1.below hb
         replace E2 := E2.below hb
         replace E3 := E3.below hb
         replace S1 := S1.below hb
         replace S2 := S2.below hb
         replace S3 := S3.below hb
         replace S4 := S4.below hb
         replace E4 := E4.below hb
         replace S5 := S5.below hb
         replace S6 := S6.below hb
         replace S7 := S7.below hb
         replace S8 := S8.below hb
         replace S9 := S9.below hb
         replace S10 := S10.below hb
         replace S11 := S11.below hb
         replace hr := hr.trans (hb.mono hr.size)
         have zw16 := hb.size
         clear hb 
         have t11 : Hid True := trivial))
    replace hB := hB.trans ((Below.trans (Below.drew (Below.refl y1.heap.size y1)) hr).mono hB.size)
    clear hr hkeep t11 
    clear S5 S6 S7 S8 S9 S10 S11
    have hA := Below.refl w16.heap.size w16
    obtain ⟨k0, k1, f0, f1⟩ := E1.two
    obtain ⟨k2, k3, f2, f3⟩ := E2.two
    go_wp2_with fail
    clear k0 f0 k1 f1 k2 f2 k3 f3
    refine (smul_any g1 g2 S1 S2 (by omega) (by omega)).mono ?_
    rintro e w17 ⟨g12, a12, c12, z12, rfl, S12, N12, v12, l12, hb⟩
    have V12 : Hid (sgn g12 (val z12) = x * y) := by rw [Hid, v12, V1.out, V2.out]
    have b12 : z12.length ≤ 20 := by omega
    replace E1 := E1.below hb
    replace E2 := E2.below hb
    replace E3 := E3.below hb
    replace S1 := S1.below hb
    replace S2 := S2.below hb
    replace S3 := S3.below hb
    replace S4 := S4.below hb
    replace E4 := E4.below hb
    replace hA := hA.trans (hb.mono hA.size)
    replace hB := hB.trans (hA.mono hB.size)
    have zw17 := hA.size
    clear hb hA v12 l12 
    have hA := Below.refl w17.heap.size w17
    have hq : Below w17.heap.size w17 (w17.alloc (.cells #[.bool g12, .slice a12 z12.length c12] 25)) := (Below.refl _ _).alloc (Nat.le_refl _) _
    replace E1 := E1.below hq
    replace E2 := E2.below hq
    replace E3 := E3.below hq
    replace S1 := S1.below hq
    replace S2 := S2.below hq
    replace S3 := S3.below hq
    replace S4 := S4.below hq
    replace E4 := E4.below hq
    replace S12 := S12.below hq
    have E5 : Box (w17.alloc (.cells #[.bool g12, .slice a12 z12.length c12] 25)) (w17.heap.size) (.cells #[.bool g12, .slice a12 z12.length c12] 25) := Box.put (.cells #[.bool g12, .slice a12 z12.length c12] 25) rfl
    replace hA := hA.trans (hq.mono hA.size)
    clear hq
    go_wp2_with fail
    obtain ⟨y2, hname⟩ : ∃ u, (w17.alloc (.cells #[.bool g12, .slice a12 z12.length c12] 25)) = u := ⟨_, rfl⟩
    rw [hname] at hA E1 E2 E3 S1 S2 S3 S4 E4 S12 E5 ⊢
    replace hB := hB.trans (hA.mono hB.size)
    clear hname hA
    replace E1 := E1.drew
    replace E2 := E2.drew
    replace E3 := E3.drew
    replace S1 := S1.drew
    replace S2 := S2.drew
    replace S3 := S3.drew
    replace S4 := S4.drew
    replace E4 := E4.drew
    replace S12 := S12.drew
    replace E5 := E5.drew
    have hr := Below.refl y2.drew.heap.size y2.drew
    have hkeep : ∀ V : World, Below y2.drew.heap.size y2.drew V → (V.cell? ⟨w.heap.size, 0, none⟩ = some (.bool g1) ∧ V.cell? ⟨w.heap.size, 1, none⟩ = some (.slice a1 z1.length c1)) ∧ (V.cell? ⟨w.heap.size + 1, 0, none⟩ = some (.bool g2) ∧ V.cell? ⟨w.heap.size + 1, 1, none⟩ = some (.slice a2 z2.length c2)) ∧ (V.cell? ⟨w.heap.size + 2, 0, none⟩ = some (.bool g3) ∧ V.cell? ⟨w.heap.size + 2, 1, none⟩ = some (.slice a3 z3.length c3)) ∧ (V.cell? ⟨w5.heap.size, 0, none⟩ = some (.bool g4) ∧ V.cell? ⟨w5.heap.size, 1, none⟩ = some (.slice a4 z4.length c4)) ∧ (V.cell? ⟨w17.heap.size, 0, none⟩ = some (.bool g12) ∧ V.cell? ⟨w17.heap.size, 1, none⟩ = some (.slice a12 z12.length c12)) := fun V hV => ⟨(E1.below hV).cells, (E2.below hV).cells, (E3.below hV).cells, (E4.below hV).cells, (E5.below hV).cells⟩
    have t0 : Hid True := trivial
    go_region_held3 (fun V : World => (V.cell? ⟨w.heap.size, 0, none⟩ = some (.bool g1) ∧ V.cell? ⟨w.heap.size, 1, none⟩ = some (.slice a1 z1.length c1)) ∧ (V.cell? ⟨w.heap.size + 1, 0, none⟩ = some (.bool g2) ∧ V.cell? ⟨w.heap.size + 1, 1, none⟩ = some (.slice a2 z2.length c2)) ∧ (V.cell? ⟨w.heap.size + 2, 0, none⟩ = some (.bool g3) ∧ V.cell? ⟨w.heap.size + 2, 1, none⟩ = some (.slice a3 z3.length c3)) ∧ (V.cell? ⟨w5.heap.size, 0, none⟩ = some (.bool g4) ∧ V.cell? ⟨w5.heap.size, 1, none⟩ = some (.slice a4 z4.length c4)) ∧ (V.cell? ⟨w17.heap.size, 0, none⟩ = some (.bool g12) ∧ V.cell? ⟨w17.heap.size, 1, none⟩ = some (.slice a12 z12.length c12)))
      (first | exact hkeep _ hr | exact hkeep _ (hr.a1 _) | exact hkeep _ ((hr.a1 _).a1 _) | exact hkeep _ (((hr.a1 _).a1 _).a1 _) | exact hkeep _ ((((hr.a1 _).a1 _).a1 _).a1 _))
      (first
      | (clear t0
         go_at_call 26
         refine (smul_any g2 g1 S2 S1 (by omega) (by omega)).mono ?_
         rintro e w18 ⟨g13, a13, c13, z13, rfl, S13, N13, v13, l13, hb⟩
         have V13 : Hid (sgn g13 (val z13) = y * x) := by rw [Hid, v13, V2.out, V1.out]
         have b13 : z13.length ≤ 20 := by omega
         replace E1 := E1.below hb
         replace E2 := E2.below hb
         replace E3 := E3.below hb
         replace S1 := S1.below hb
         replace S2 := S2.below hb
         replace S3 := S3.below hb
         replace S4 := S4.below hb
         replace E4 := E4.below hb
         replace S12 := S12.below hb
         replace E5 := E5.below hb
         replace hr := hr.trans (hb.mono hr.size)
         have zw18 := hb.size
         clear hb v13 l13
         have t1 : Hid True := trivial)
      | (clear t1
         go_at_call 16
         refine (samew_can g12 g13 S12 S13 N12 N13 (by rw [V12.out, V13.out]; exact Int.mul_comm _ _) (by omega)).mono ?_
         rintro e w19 ⟨rfl, hb⟩
         replace E1 := E1.below hb
         replace E2 := E2.below hb
         replace E3 := E3.below hb
         replace S1 := S1.below hb
         replace S2 := S2.below hb
         replace S3 := S3.below hb
         replace S4 := S4.below hb
         replace E4 := E4.below hb
         replace S12 := S12.below hb
         replace E5 := E5.below hb
         replace S13 := S13.below hb
         replace hr := hr.trans (hb.mono hr.size)
         have zw19 := hb.size
         clear hb 
         have t2 : Hid True := trivial)
      | (clear t2
         go_at_call 26
         refine (smul_any g12 g3 S12 S3 (by omega) (by omega)).mono ?_
         rintro e w20 ⟨g14, a14, c14, z14, rfl, S14, N14, v14, l14, hb⟩
         have V14 : Hid (sgn g14 (val z14) = x * y * z) := by rw [Hid, v14, V12.out, V3.out]
         have b14 : z14.length ≤ 30 := by omega
         replace E1 := E1.below hb
         replace E2 := E2.below hb
         replace E3 := E3.below hb
         replace S1 := S1.below hb
         replace S2 := S2.below hb
         replace S3 := S3.below hb
         replace S4 := S4.below hb
         replace E4 := E4.below hb
         replace S12 := S12.below hb
         replace E5 := E5.below hb
         replace S13 := S13.below hb
         replace hr := hr.trans (hb.mono hr.size)
         have zw20 := hb.size
         clear hb v14 l14
         have t3 : Hid True := trivial)
      | (clear t3
         go_at_call 26
         refine (smul_any g2 g3 S2 S3 (by omega) (by omega)).mono ?_
         rintro e w21 ⟨g15, a15, c15, z15, rfl, S15, N15, v15, l15, hb⟩
         have V15 : Hid (sgn g15 (val z15) = y * z) := by rw [Hid, v15, V2.out, V3.out]
         have b15 : z15.length ≤ 20 := by omega
         replace E1 := E1.below hb
         replace E2 := E2.below hb
         replace E3 := E3.below hb
         replace S1 := S1.below hb
         replace S2 := S2.below hb
         replace S3 := S3.below hb
         replace S4 := S4.below hb
         replace E4 := E4.below hb
         replace S12 := S12.below hb
         replace E5 := E5.below hb
         replace S13 := S13.below hb
         replace S14 := S14.below hb
         replace hr := hr.trans (hb.mono hr.size)
         have zw21 := hb.size
         clear hb v15 l15
         have t4 : Hid True := trivial)
      | (clear t4
         go_at_call 26
         refine (smul_any g1 g15 S1 S15 (by omega) (by omega)).mono ?_
         rintro e w22 ⟨g16, a16, c16, z16, rfl, S16, N16, v16, l16, hb⟩
         have V16 : Hid (sgn g16 (val z16) = x * (y * z)) := by rw [Hid, v16, V1.out, V15.out]
         have b16 : z16.length ≤ 30 := by omega
         replace E1 := E1.below hb
         replace E2 := E2.below hb
         replace E3 := E3.below hb
         replace S1 := S1.below hb
         replace S2 := S2.below hb
         replace S3 := S3.below hb
         replace S4 := S4.below hb
         replace E4 := E4.below hb
         replace S12 := S12.below hb
         replace E5 := E5.below hb
         replace S13 := S13.below hb
         replace S14 := S14.below hb
         replace S15 := S15.below hb
         replace hr := hr.trans (hb.mono hr.size)
         have zw22 := hb.size
         clear hb v16 l16
         have t5 : Hid True := trivial)
      | (clear t5
         go_at_call 16
         refine (samew_can g14 g16 S14 S16 N14 N16 (by rw [V14.out, V16.out]; exact Int.mul_assoc _ _ _) (by omega)).mono ?_
         rintro e w23 ⟨rfl, hb⟩
         replace E1 := E1.below hb
         replace E2 := E2.below hb
         replace E3 := E3.below hb
         replace S1 := S1.below hb
         replace S2 := S2.below hb
         replace S3 := S3.below hb
         replace S4 := S4.below hb
         replace E4 := E4.below hb
         replace S12 := S12.below hb
         replace E5 := E5.below hb
         replace S13 := S13.below hb
         replace S14 := S14.below hb
         replace S15 := S15.below hb
         replace S16 := S16.below hb
         replace hr := hr.trans (hb.mono hr.size)
         have zw23 := hb.size
         clear hb 
         have t6 : Hid True := trivial)
      | (clear t6
         go_at_call 26
         refine (smul_any g4 g3 S4 S3 (by omega) (by omega)).mono ?_
         rintro e w24 ⟨g17, a17, c17, z17, rfl, S17, N17, v17, l17, hb⟩
         have V17 : Hid (sgn g17 (val z17) = (x + y) * z) := by rw [Hid, v17, V4.out, V3.out]
         have b17 : z17.length ≤ 21 := by omega
         replace E1 := E1.below hb
         replace E2 := E2.below hb
         replace E3 := E3.below hb
         replace S1 := S1.below hb
         replace S2 := S2.below hb
         replace S3 := S3.below hb
         replace S4 := S4.below hb
         replace E4 := E4.below hb
         replace S12 := S12.below hb
         replace E5 := E5.below hb
         replace S13 := S13.below hb
         replace S14 := S14.below hb
         replace S15 := S15.below hb
         replace S16 := S16.below hb
         replace hr := hr.trans (hb.mono hr.size)
         have zw24 := hb.size
         clear hb v17 l17
         have t7 : Hid True := trivial)
      | (clear t7
         go_at_call 26
         refine (smul_any g1 g3 S1 S3 (by omega) (by omega)).mono ?_
         rintro e w25 ⟨g18, a18, c18, z18, rfl, S18, N18, v18, l18, hb⟩
         have V18 : Hid (sgn g18 (val z18) = x * z) := by rw [Hid, v18, V1.out, V3.out]
         have b18 : z18.length ≤ 20 := by omega
         replace E1 := E1.below hb
         replace E2 := E2.below hb
         replace E3 := E3.below hb
         replace S1 := S1.below hb
         replace S2 := S2.below hb
         replace S3 := S3.below hb
         replace S4 := S4.below hb
         replace E4 := E4.below hb
         replace S12 := S12.below hb
         replace E5 := E5.below hb
         replace S13 := S13.below hb
         replace S14 := S14.below hb
         replace S15 := S15.below hb
         replace S16 := S16.below hb
         replace S17 := S17.below hb
         replace hr := hr.trans (hb.mono hr.size)
         have zw25 := hb.size
         clear hb v18 l18
         have t8 : Hid True := trivial)
      | (clear t8
         go_at_call 26
         refine (smul_any g2 g3 S2 S3 (by omega) (by omega)).mono ?_
         rintro e w26 ⟨g19, a19, c19, z19, rfl, S19, N19, v19, l19, hb⟩
         have V19 : Hid (sgn g19 (val z19) = y * z) := by rw [Hid, v19, V2.out, V3.out]
         have b19 : z19.length ≤ 20 := by omega
         replace E1 := E1.below hb
         replace E2 := E2.below hb
         replace E3 := E3.below hb
         replace S1 := S1.below hb
         replace S2 := S2.below hb
         replace S3 := S3.below hb
         replace S4 := S4.below hb
         replace E4 := E4.below hb
         replace S12 := S12.below hb
         replace E5 := E5.below hb
         replace S13 := S13.below hb
         replace S14 := S14.below hb
         replace S15 := S15.below hb
         replace S16 := S16.below hb
         replace S17 := S17.below hb
         replace S18 := S18.below hb
         replace hr := hr.trans (hb.mono hr.size)
         have zw26 := hb.size
         clear hb v19 l19
         have t9 : Hid True := trivial)
      | (clear t9
         go_at_call 24
         refine (sadd_any g18 g19 S18 S19 (by omega) (by omega)).mono ?_
         rintro e w27 ⟨g20, a20, c20, z20, rfl, S20, N20, v20, l20, hb⟩
         have V20 : Hid (sgn g20 (val z20) = x * z + y * z) := by rw [Hid, v20, V18.out, V19.out]
         have b20 : z20.length ≤ 21 := by omega
         replace E1 := E1.below hb
         replace E2 := E2.below hb
         replace E3 := E3.below hb
         replace S1 := S1.below hb
         replace S2 := S2.below hb
         replace S3 := S3.below hb
         replace S4 := S4.below hb
         replace E4 := E4.below hb
         replace S12 := S12.below hb
         replace E5 := E5.below hb
         replace S13 := S13.below hb
         replace S14 := S14.below hb
         replace S15 := S15.below hb
         replace S16 := S16.below hb
         replace S17 := S17.below hb
         replace S18 := S18.below hb
         replace S19 := S19.below hb
         replace hr := hr.trans (hb.mono hr.size)
         have zw27 := hb.size
         clear hb v20 l20
         have t10 : Hid True := trivial)
      | (clear t10
         go_at_call 16
         refine (samew_can g17 g20 S17 S20 N17 N20 (by rw [V17.out, V20.out]; exact Int.add_mul _ _ _) (by omega)).mono ?_
         rintro e w28 ⟨rfl, hb⟩
         replace E1 := E1.below hb
         replace E2 := E2.below hb
         replace E3 := E3.below hb
         replace S1 := S1.below hb
         replace S2 := S2.below hb
         replace S3 := S3.below hb
         replace S4 := S4.below hb
         replace E4 := E4.below hb
         replace S12 := S12.below hb
         replace E5 := E5.below hb
         replace S13 := S13.below hb
         replace S14 := S14.below hb
         replace S15 := S15.below hb
         replace S16 := S16.below hb
         replace S17 := S17.below hb
         replace S18 := S18.below hb
         replace S19 := S19.below hb
         replace S20 := S20.below hb
         replace hr := hr.trans (hb.mono hr.size)
         have zw28 := hb.size
         clear hb 
         have t11 : Hid True := trivial)
      | (clear t11
         go_at_call 27
         refine (sneg_any g1 S1 (by omega)).mono ?_
         rintro e w29 ⟨g21, a21, c21, z21, rfl, S21, N21, v21, l21, hb⟩
         have V21 : Hid (sgn g21 (val z21) = -x) := by rw [Hid, v21, V1.out]
         have b21 : z21.length ≤ 10 := by omega
         replace E1 := E1.below hb
         replace E2 := E2.below hb
         replace E3 := E3.below hb
         replace S1 := S1.below hb
         replace S2 := S2.below hb
         replace S3 := S3.below hb
         replace S4 := S4.below hb
         replace E4 := E4.below hb
         replace S12 := S12.below hb
         replace E5 := E5.below hb
         replace S13 := S13.below hb
         replace S14 := S14.below hb
         replace S15 := S15.below hb
         replace S16 := S16.below hb
         replace S17 := S17.below hb
         replace S18 := S18.below hb
         replace S19 := S19.below hb
         replace S20 := S20.below hb
         replace hr := hr.trans (hb.mono hr.size)
         have zw29 := hb.size
         clear hb v21 l21
         have t12 : Hid True := trivial)
      | (clear t12
         go_at_call 26
         refine (smul_any g21 g2 S21 S2 (by omega) (by omega)).mono ?_
         rintro e w30 ⟨g22, a22, c22, z22, rfl, S22, N22, v22, l22, hb⟩
         have V22 : Hid (sgn g22 (val z22) = -x * y) := by rw [Hid, v22, V21.out, V2.out]
         have b22 : z22.length ≤ 20 := by omega
         replace E1 := E1.below hb
         replace E2 := E2.below hb
         replace E3 := E3.below hb
         replace S1 := S1.below hb
         replace S2 := S2.below hb
         replace S3 := S3.below hb
         replace S4 := S4.below hb
         replace E4 := E4.below hb
         replace S12 := S12.below hb
         replace E5 := E5.below hb
         replace S13 := S13.below hb
         replace S14 := S14.below hb
         replace S15 := S15.below hb
         replace S16 := S16.below hb
         replace S17 := S17.below hb
         replace S18 := S18.below hb
         replace S19 := S19.below hb
         replace S20 := S20.below hb
         replace S21 := S21.below hb
         replace hr := hr.trans (hb.mono hr.size)
         have zw30 := hb.size
         clear hb v22 l22
         have t13 : Hid True := trivial)
      | (clear t13
         go_at_call 27
         refine (sneg_any g12 S12 (by omega)).mono ?_
         rintro e w31 ⟨g23, a23, c23, z23, rfl, S23, N23, v23, l23, hb⟩
         have V23 : Hid (sgn g23 (val z23) = -(x * y)) := by rw [Hid, v23, V12.out]
         have b23 : z23.length ≤ 20 := by omega
         replace E1 := E1.below hb
         replace E2 := E2.below hb
         replace E3 := E3.below hb
         replace S1 := S1.below hb
         replace S2 := S2.below hb
         replace S3 := S3.below hb
         replace S4 := S4.below hb
         replace E4 := E4.below hb
         replace S12 := S12.below hb
         replace E5 := E5.below hb
         replace S13 := S13.below hb
         replace S14 := S14.below hb
         replace S15 := S15.below hb
         replace S16 := S16.below hb
         replace S17 := S17.below hb
         replace S18 := S18.below hb
         replace S19 := S19.below hb
         replace S20 := S20.below hb
         replace S21 := S21.below hb
         replace S22 := S22.below hb
         replace hr := hr.trans (hb.mono hr.size)
         have zw31 := hb.size
         clear hb v23 l23
         have t14 : Hid True := trivial)
      | (clear t14
         go_at_call 16
         refine (samew_can g22 g23 S22 S23 N22 N23 (by rw [V22.out, V23.out]; exact Int.neg_mul _ _) (by omega)).mono ?_
         rintro e w32 ⟨rfl, hb⟩
         replace E1 := E1.below hb
         replace E2 := E2.below hb
         replace E3 := E3.below hb
         replace S1 := S1.below hb
         replace S2 := S2.below hb
         replace S3 := S3.below hb
         replace S4 := S4.below hb
         replace E4 := E4.below hb
         replace S12 := S12.below hb
         replace E5 := E5.below hb
         replace S13 := S13.below hb
         replace S14 := S14.below hb
         replace S15 := S15.below hb
         replace S16 := S16.below hb
         replace S17 := S17.below hb
         replace S18 := S18.below hb
         replace S19 := S19.below hb
         replace S20 := S20.below hb
         replace S21 := S21.below hb
         replace S22 := S22.below hb
         replace S23 := S23.below hb
         replace hr := hr.trans (hb.mono hr.size)
         have zw32 := hb.size
         clear hb 
         have t15 : Hid True := trivial))
    replace hB := hB.trans ((Below.trans (Below.drew (Below.refl y2.heap.size y2)) hr).mono hB.size)
    clear hr hkeep t15 
    clear S13 S14 S15 S16 S17 S18 S19 S20 S21 S22 S23
    go_wp2_with fail
    replace E1 := E1.drew
    replace E2 := E2.drew
    replace E3 := E3.drew
    replace S1 := S1.drew
    replace S2 := S2.drew
    replace S3 := S3.drew
    replace S4 := S4.drew
    replace E4 := E4.drew
    replace S12 := S12.drew
    replace E5 := E5.drew
    have hr := Below.refl w32.drew.heap.size w32.drew
    have hkeep : ∀ V : World, Below w32.drew.heap.size w32.drew V → (V.cell? ⟨w.heap.size, 0, none⟩ = some (.bool g1) ∧ V.cell? ⟨w.heap.size, 1, none⟩ = some (.slice a1 z1.length c1)) ∧ (V.cell? ⟨w.heap.size + 1, 0, none⟩ = some (.bool g2) ∧ V.cell? ⟨w.heap.size + 1, 1, none⟩ = some (.slice a2 z2.length c2)) ∧ (V.cell? ⟨w.heap.size + 2, 0, none⟩ = some (.bool g3) ∧ V.cell? ⟨w.heap.size + 2, 1, none⟩ = some (.slice a3 z3.length c3)) ∧ (V.cell? ⟨w17.heap.size, 0, none⟩ = some (.bool g12) ∧ V.cell? ⟨w17.heap.size, 1, none⟩ = some (.slice a12 z12.length c12)) := fun V hV => ⟨(E1.below hV).cells, (E2.below hV).cells, (E3.below hV).cells, (E5.below hV).cells⟩
    have t0 : Hid True := trivial
    go_region_held3 (fun V : World => (V.cell? ⟨w.heap.size, 0, none⟩ = some (.bool g1) ∧ V.cell? ⟨w.heap.size, 1, none⟩ = some (.slice a1 z1.length c1)) ∧ (V.cell? ⟨w.heap.size + 1, 0, none⟩ = some (.bool g2) ∧ V.cell? ⟨w.heap.size + 1, 1, none⟩ = some (.slice a2 z2.length c2)) ∧ (V.cell? ⟨w.heap.size + 2, 0, none⟩ = some (.bool g3) ∧ V.cell? ⟨w.heap.size + 2, 1, none⟩ = some (.slice a3 z3.length c3)) ∧ (V.cell? ⟨w17.heap.size, 0, none⟩ = some (.bool g12) ∧ V.cell? ⟨w17.heap.size, 1, none⟩ = some (.slice a12 z12.length c12)))
      (first | exact hkeep _ hr | exact hkeep _ (hr.a1 _) | exact hkeep _ ((hr.a1 _).a1 _) | exact hkeep _ (((hr.a1 _).a1 _).a1 _) | exact hkeep _ ((((hr.a1 _).a1 _).a1 _).a1 _))
      (first
      | (clear t0
         go_at_call 13
         refine (sof_any 1 (by decide) _).mono ?_
         rintro e w33 ⟨g24, a24, c24, z24, rfl, S24, N24, v24, l24, hb⟩
         have V24 : Hid (sgn g24 (val z24) = (1 : Int)) := v24
         have b24 : z24.length ≤ 1 := by omega
         replace E1 := E1.below hb
         replace E2 := E2.below hb
         replace E3 := E3.below hb
         replace S1 := S1.below hb
         replace S2 := S2.below hb
         replace S3 := S3.below hb
         replace S4 := S4.below hb
         replace E4 := E4.below hb
         replace S12 := S12.below hb
         replace E5 := E5.below hb
         replace hr := hr.trans (hb.mono hr.size)
         have zw33 := hb.size
         clear hb v24 l24
         have t1 : Hid True := trivial)
      | (clear t1
         go_at_call 26
         refine (smul_any g1 g24 S1 S24 (by omega) (by omega)).mono ?_
         rintro e w34 ⟨g25, a25, c25, z25, rfl, S25, N25, v25, l25, hb⟩
         have V25 : Hid (sgn g25 (val z25) = x * 1) := by rw [Hid, v25, V1.out, V24.out]
         have b25 : z25.length ≤ 11 := by omega
         replace E1 := E1.below hb
         replace E2 := E2.below hb
         replace E3 := E3.below hb
         replace S1 := S1.below hb
         replace S2 := S2.below hb
         replace S3 := S3.below hb
         replace S4 := S4.below hb
         replace E4 := E4.below hb
         replace S12 := S12.below hb
         replace E5 := E5.below hb
         replace S24 := S24.below hb
         replace hr := hr.trans (hb.mono hr.size)
         have zw34 := hb.size
         clear hb v25 l25
         have t2 : Hid True := trivial)
      | (clear t2
         go_at_call 16
         refine (samew_can g25 g1 S25 S1 N25 N1 (by rw [V25.out, V1.out]; exact Int.mul_one _) (by omega)).mono ?_
         rintro e w35 ⟨rfl, hb⟩
         replace E1 := E1.below hb
         replace E2 := E2.below hb
         replace E3 := E3.below hb
         replace S1 := S1.below hb
         replace S2 := S2.below hb
         replace S3 := S3.below hb
         replace S4 := S4.below hb
         replace E4 := E4.below hb
         replace S12 := S12.below hb
         replace E5 := E5.below hb
         replace S24 := S24.below hb
         replace S25 := S25.below hb
         replace hr := hr.trans (hb.mono hr.size)
         have zw35 := hb.size
         clear hb 
         have t3 : Hid True := trivial)
      | (clear t3
         go_at_call 22
         have hc := ssign_any g12 S12 (by omega)
         rw [V12.out, cmpI_mul0, hp.out, hq.out] at hc
         refine (hc).mono ?_
         rintro e w36 ⟨rfl, hb⟩
         replace E1 := E1.below hb
         replace E2 := E2.below hb
         replace E3 := E3.below hb
         replace S1 := S1.below hb
         replace S2 := S2.below hb
         replace S3 := S3.below hb
         replace S4 := S4.below hb
         replace E4 := E4.below hb
         replace S12 := S12.below hb
         replace E5 := E5.below hb
         replace S24 := S24.below hb
         replace S25 := S25.below hb
         replace hr := hr.trans (hb.mono hr.size)
         have zw36 := hb.size
         clear hb hc
         have t4 : Hid True := trivial)
      | (clear t4
         go_at_call 22
         have hc := ssign_any g1 S1 (by omega)
         rw [V1.out, hp.out] at hc
         refine (hc).mono ?_
         rintro e w37 ⟨rfl, hb⟩
         replace E1 := E1.below hb
         replace E2 := E2.below hb
         replace E3 := E3.below hb
         replace S1 := S1.below hb
         replace S2 := S2.below hb
         replace S3 := S3.below hb
         replace S4 := S4.below hb
         replace E4 := E4.below hb
         replace S12 := S12.below hb
         replace E5 := E5.below hb
         replace S24 := S24.below hb
         replace S25 := S25.below hb
         replace hr := hr.trans (hb.mono hr.size)
         have zw37 := hb.size
         clear hb hc
         have t5 : Hid True := trivial)
      | (clear t5
         go_at_call 22
         have hc := ssign_any g2 S2 (by omega)
         rw [V2.out, hq.out] at hc
         refine (hc).mono ?_
         rintro e w38 ⟨rfl, hb⟩
         replace E1 := E1.below hb
         replace E2 := E2.below hb
         replace E3 := E3.below hb
         replace S1 := S1.below hb
         replace S2 := S2.below hb
         replace S3 := S3.below hb
         replace S4 := S4.below hb
         replace E4 := E4.below hb
         replace S12 := S12.below hb
         replace E5 := E5.below hb
         replace S24 := S24.below hb
         replace S25 := S25.below hb
         replace hr := hr.trans (hb.mono hr.size)
         have zw38 := hb.size
         clear hb hc
         have t6 : Hid True := trivial))
    replace hB := hB.trans ((Below.trans (Below.drew (Below.refl w32.heap.size w32)) hr).mono hB.size)
    clear hr hkeep t6 
    go_wp2
    go_ret
    exact ⟨rfl, hB⟩

set_option maxRecDepth 100000 in
set_option maxHeartbeats 2000000 in
theorem sring_long (b : Bool) (a : Option Addr) (n ca : Nat) (d : Bool) (c : Option Addr) (m cc : Nat) (f : Bool) (e : Option Addr) (k ce : Nat) (w : World) (h : 10 < n ∨ 10 < m ∨ 10 < k) :
    Calls Try.prog 6 #[.agg #[.bool b, .slice a n ca], .agg #[.bool d, .slice c m cc], .agg #[.bool f, .slice e k ce]] w fun e w' => e = .returned (.bool true) ∧ Below w.heap.size w w' := by
  obtain ⟨e1, e2, e3, hA, hz⟩ := three_new w (.cells #[.bool b, .slice a n ca] 25) (.cells #[.bool d, .slice c m cc] 25) (.cells #[.bool f, .slice e k ce] 25)
  have HZ := hide hz
  clear hz
  by_cases h0 : 10 < n
  · have l1 := fun w => longNat_bel a n ca 10 w
    rw [decide_eq_true (show ((10 : Int) < (n : Int)) by omega)] at l1
    have L1 := hide l1
    clear l1
    clear h 
    clear h0
    go_enter Try.func6, Try.ntmps6
    go_wp2_with fail
    refine (sknown_any _).mono ?_
    rintro e w1 ⟨rfl, hb⟩
    have hW := hb
    replace hA := hA.trans (hb.mono hA.size)
    clear hb
    have hcc := two_cells e1 hW (by have := HZ.out; omega)
    have k0 := hcc.1
    have k1 := hcc.2.1
    clear hcc
    go_wp2_with fail
    clear k0 k1
    refine (L1.out _).mono ?_
    rintro e w2 ⟨rfl, hb⟩
    replace hW := hW.trans (hb.mono hW.size)
    replace hA := hA.trans (hb.mono hA.size)
    clear hb
    go_wp2
    go_ret
    exact ⟨rfl, hA⟩
  by_cases h1 : 10 < m
  · have l1 := fun w => longNat_bel a n ca 10 w
    rw [decide_eq_false (show ¬ ((10 : Int) < (n : Int)) by omega)] at l1
    have L1 := hide l1
    clear l1
    have l2 := fun w => longNat_bel c m cc 10 w
    rw [decide_eq_true (show ((10 : Int) < (m : Int)) by omega)] at l2
    have L2 := hide l2
    clear l2
    clear h h0
    clear h1
    go_enter Try.func6, Try.ntmps6
    go_wp2_with fail
    refine (sknown_any _).mono ?_
    rintro e w1 ⟨rfl, hb⟩
    have hW := hb
    replace hA := hA.trans (hb.mono hA.size)
    clear hb
    have hcc := two_cells e1 hW (by have := HZ.out; omega)
    have k0 := hcc.1
    have k1 := hcc.2.1
    clear hcc
    go_wp2_with fail
    clear k0 k1
    refine (L1.out _).mono ?_
    rintro e w2 ⟨rfl, hb⟩
    replace hW := hW.trans (hb.mono hW.size)
    replace hA := hA.trans (hb.mono hA.size)
    clear hb
    have hcc := two_cells e2 hW (by have := HZ.out; omega)
    have k0 := hcc.1
    have k1 := hcc.2.1
    clear hcc
    go_wp2_with fail
    clear k0 k1
    refine (L2.out _).mono ?_
    rintro e w3 ⟨rfl, hb⟩
    replace hW := hW.trans (hb.mono hW.size)
    replace hA := hA.trans (hb.mono hA.size)
    clear hb
    go_wp2
    go_ret
    exact ⟨rfl, hA⟩
  have l1 := fun w => longNat_bel a n ca 10 w
  rw [decide_eq_false (show ¬ ((10 : Int) < (n : Int)) by omega)] at l1
  have L1 := hide l1
  clear l1
  have l2 := fun w => longNat_bel c m cc 10 w
  rw [decide_eq_false (show ¬ ((10 : Int) < (m : Int)) by omega)] at l2
  have L2 := hide l2
  clear l2
  have l3 := fun w => longNat_bel e k ce 10 w
  rw [decide_eq_true (show ((10 : Int) < (k : Int)) by omega)] at l3
  have L3 := hide l3
  clear l3
  clear h h0 h1
  go_enter Try.func6, Try.ntmps6
  go_wp2_with fail
  refine (sknown_any _).mono ?_
  rintro e w1 ⟨rfl, hb⟩
  have hW := hb
  replace hA := hA.trans (hb.mono hA.size)
  clear hb
  have hcc := two_cells e1 hW (by have := HZ.out; omega)
  have k0 := hcc.1
  have k1 := hcc.2.1
  clear hcc
  go_wp2_with fail
  clear k0 k1
  refine (L1.out _).mono ?_
  rintro e w2 ⟨rfl, hb⟩
  replace hW := hW.trans (hb.mono hW.size)
  replace hA := hA.trans (hb.mono hA.size)
  clear hb
  have hcc := two_cells e2 hW (by have := HZ.out; omega)
  have k0 := hcc.1
  have k1 := hcc.2.1
  clear hcc
  go_wp2_with fail
  clear k0 k1
  refine (L2.out _).mono ?_
  rintro e w3 ⟨rfl, hb⟩
  replace hW := hW.trans (hb.mono hW.size)
  replace hA := hA.trans (hb.mono hA.size)
  clear hb
  have hcc := two_cells e3 hW (by have := HZ.out; omega)
  have k0 := hcc.1
  have k1 := hcc.2.1
  clear hcc
  go_wp2_with fail
  clear k0 k1
  refine (L3.out _).mono ?_
  rintro e w4 ⟨rfl, hb⟩
  replace hW := hW.trans (hb.mono hW.size)
  replace hA := hA.trans (hb.mono hA.size)
  clear hb
  go_wp2
  go_ret
  exact ⟨rfl, hA⟩

theorem sring_any {a c e : Option Addr} {n ca m cc k ce : Nat} {xs ys zs : List Int} {w : World} (b : Bool) (A : Seg 0 w (.slice a n ca) xs) (d : Bool) (B : Seg 0 w (.slice c m cc) ys) (f : Bool) (C : Seg 0 w (.slice e k ce) zs) :
    Calls Try.prog 6 #[.agg #[.bool b, .slice a n ca], .agg #[.bool d, .slice c m cc], .agg #[.bool f, .slice e k ce]] w fun e w' => e = .returned (.bool true) ∧ Below w.heap.size w w' := by
  by_cases h : 10 < n ∨ 10 < m ∨ 10 < k
  · exact sring_long b a n ca d c m cc f e k ce w h
  · obtain ⟨rfl, _⟩ := A.len
    obtain ⟨rfl, _⟩ := B.len
    obtain ⟨rfl, _⟩ := C.len
    exact sring_short b A d B f C (by omega) (by omega) (by omega)
end Go.Proofs.Ytjoakmhebcfeaaa
