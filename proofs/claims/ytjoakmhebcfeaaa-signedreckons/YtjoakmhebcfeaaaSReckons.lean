/-
  The walk of SignedReckons.
-/
import Derived.Test.YtjoakmhebcfeaaaSForms
import Derived.Test.YtjoakmhebcfeaaaDrawnK
namespace Go.Proofs.Ytjoakmhebcfeaaa
open Go.RowKit

set_option maxRecDepth 100000 in
set_option maxHeartbeats 4000000 in
theorem sreckons_short {a c : Option Addr} {ca cc : Nat} {xs ys : List Int} {w : World} (b : Bool) (A : Seg 0 w (.slice a xs.length ca) xs) (d : Bool) (B : Seg 0 w (.slice c ys.length cc) ys) (hx : xs.length ≤ 30) (hy : ys.length ≤ 30) :
    Calls Try.prog 4 #[.agg #[.bool b, .slice a xs.length ca], .agg #[.bool d, .slice c ys.length cc]] w fun e w' => e = .returned (.bool true) ∧ Below w.heap.size w w' := by
  have l1 := fun w => slong_any b a xs.length ca w
  rw [decide_eq_false (show ¬ (30 < xs.length) by omega)] at l1
  have L1 := hide l1
  clear l1
  have l2 := fun w => slong_any d c ys.length cc w
  rw [decide_eq_false (show ¬ (30 < ys.length) by omega)] at l2
  have L2 := hide l2
  clear l2
  have hB := Below.refl w.heap.size w
  go_enter Try.func4, Try.ntmps4
  have hA := Below.refl w.heap.size w
  have hq : Below w.heap.size w (w.alloc (.cells #[.bool b, .slice a xs.length ca] 25)) := (Below.refl _ _).alloc (Nat.le_refl _) _
  replace A := A.below hq
  replace B := B.below hq
  have E1 : Box (w.alloc (.cells #[.bool b, .slice a xs.length ca] 25)) (w.heap.size) (.cells #[.bool b, .slice a xs.length ca] 25) := Box.put (.cells #[.bool b, .slice a xs.length ca] 25) rfl
  replace hA := hA.trans (hq.mono hA.size)
  clear hq
  have hq : Below (w.alloc (.cells #[.bool b, .slice a xs.length ca] 25)).heap.size (w.alloc (.cells #[.bool b, .slice a xs.length ca] 25)) ((w.alloc (.cells #[.bool b, .slice a xs.length ca] 25)).alloc (.cells #[.bool d, .slice c ys.length cc] 25)) := (Below.refl _ _).alloc (Nat.le_refl _) _
  replace A := A.below hq
  replace B := B.below hq
  replace E1 := E1.below hq
  have E2 : Box ((w.alloc (.cells #[.bool b, .slice a xs.length ca] 25)).alloc (.cells #[.bool d, .slice c ys.length cc] 25)) (w.heap.size + 1) (.cells #[.bool d, .slice c ys.length cc] 25) := Box.put (.cells #[.bool d, .slice c ys.length cc] 25) (by simp)
  replace hA := hA.trans (hq.mono hA.size)
  clear hq
  go_wp2_with fail
  refine (L1.out _).mono ?_
  rintro e w1 ⟨rfl, hb⟩
  replace A := A.below hb
  replace B := B.below hb
  replace E1 := E1.below hb
  replace E2 := E2.below hb
  replace hA := hA.trans (hb.mono hA.size)
  replace hB := hB.trans (hA.mono hB.size)
  have zw1 := hA.size
  clear hb hA  
  have hA := Below.refl w1.heap.size w1
  obtain ⟨k0, k1, f0, f1⟩ := E1.two
  obtain ⟨k2, k3, f2, f3⟩ := E2.two
  go_wp2_with fail
  clear k0 f0 k1 f1 k2 f2 k3 f3
  refine (L2.out _).mono ?_
  rintro e w2 ⟨rfl, hb⟩
  replace A := A.below hb
  replace B := B.below hb
  replace E1 := E1.below hb
  replace E2 := E2.below hb
  replace hA := hA.trans (hb.mono hA.size)
  replace hB := hB.trans (hA.mono hB.size)
  have zw2 := hA.size
  clear hb hA  
  go_wp2_with fail
  replace A := A.drew
  replace B := B.drew
  have qE1 := E1.lt
  replace E1 := E1.drew
  have qE2 := E2.lt
  replace E2 := E2.drew
  refine wp_yields 6 [.is (.agg #[.bool b, .slice a xs.length ca]), .copy 0 b xs, .is (.agg #[.bool d, .slice c ys.length cc]), .copy 0 d ys, .new w2.heap.size (.cells #[.bool false, .slice none 0 0] 25), .new w2.heap.size (.cells #[.bool false, .slice none 0 0] 25)] (by kernel_rfl) (by kernel_rfl) (lt_cons ?_ (lt_cons ?_ (lt_cons ?_ (lt_cons ?_ (lt_cons ?_ (lt_cons ?_ lt_nil)))))) ?_
  case refine_1 =>
    refine OpDoes.mk rfl ?_
    intro vs V hV hd K hK
    simp only [laidIn, List.getElem_toArray, List.getElem_cons_zero, List.getElem_cons_succ, List.getElem?_toArray, List.getElem?_cons_zero, List.getElem?_cons_succ, if_true, Act.put, List.setIfInBounds_toArray, List.set_cons_zero, List.set_cons_succ] at hK ⊢
    go_simp
    exact hK.out _ _ ((Below.refl _ _).a1 _) ⟨_, rfl, Box.new _ _, hV.size⟩ (fresh_apart _ _ (fresh_new _))
  case refine_2 =>
    refine OpDoes.mk rfl ?_
    intro vs V hV hd K hK
    simp only [laidIn, List.getElem_toArray, List.getElem_cons_zero, List.getElem_cons_succ, List.getElem?_toArray, List.getElem?_cons_zero, List.getElem?_cons_succ, if_true, Act.put, List.setIfInBounds_toArray, List.set_cons_zero, List.set_cons_succ] at hK ⊢
    go_simp
    exact hK.out _ _ ((Below.refl _ _).a1 _) ⟨_, rfl, Box.new _ _, hV.size⟩ (fresh_apart _ _ (fresh_new _))
  case refine_3 =>
    refine OpDoes.mk rfl ?_
    intro vs V hV hd K hK
    have d2 : vs 2 = .agg #[.bool d, .slice c ys.length cc] := hd 2 (by decide) (by kernel_rfl)
    simp only [laidIn, List.getElem_toArray, List.getElem_cons_zero, List.getElem_cons_succ, List.getElem?_toArray, List.getElem?_cons_zero, List.getElem?_cons_succ, if_true, Act.put, List.setIfInBounds_toArray, List.set_cons_zero, List.set_cons_succ] at hK ⊢
    simp only [d2] at hK ⊢
    go_simp
    go_at_call 11
    refine (copyw_any d (B.below hV) (by omega)).mono ?_
    rintro e V' ⟨a9, c9, rfl, J, hb⟩
    exact hK.out _ _ hb ⟨_, _, rfl, J.mono (Nat.zero_le _)⟩ (fresh_apart _ _ (fun k hk => (seg_blockOf J hk).1))
  case refine_4 =>
    refine OpDoes.mk rfl ?_
    intro vs V hV hd K hK
    have hcc := (E2.below hV).two
    have k0 := hcc.1
    have k1 := hcc.2.1
    clear hcc
    simp only [laidIn, List.getElem_toArray, List.getElem_cons_zero, List.getElem_cons_succ, List.getElem?_toArray, List.getElem?_cons_zero, List.getElem?_cons_succ, if_true, Act.put, List.setIfInBounds_toArray, List.set_cons_zero, List.set_cons_succ] at hK ⊢
    go_simp
    exact hK.out _ _ (Below.refl _ _) rfl (not_fresh rfl)
  case refine_5 =>
    refine OpDoes.mk rfl ?_
    intro vs V hV hd K hK
    have d0 : vs 0 = .agg #[.bool b, .slice a xs.length ca] := hd 0 (by decide) (by kernel_rfl)
    simp only [laidIn, List.getElem_toArray, List.getElem_cons_zero, List.getElem_cons_succ, List.getElem?_toArray, List.getElem?_cons_zero, List.getElem?_cons_succ, if_true, Act.put, List.setIfInBounds_toArray, List.set_cons_zero, List.set_cons_succ] at hK ⊢
    simp only [d0] at hK ⊢
    go_simp
    go_at_call 11
    refine (copyw_any b (A.below hV) (by omega)).mono ?_
    rintro e V' ⟨a0, c0, rfl, I, hb⟩
    exact hK.out _ _ hb ⟨_, _, rfl, I.mono (Nat.zero_le _)⟩ (fresh_apart _ _ (fun k hk => (seg_blockOf I hk).1))
  case refine_6 =>
    refine OpDoes.mk rfl ?_
    intro vs V hV hd K hK
    have hcc := (E1.below hV).two
    have k0 := hcc.1
    have k1 := hcc.2.1
    clear hcc
    simp only [laidIn, List.getElem_toArray, List.getElem_cons_zero, List.getElem?_toArray, List.getElem?_cons_zero, List.getElem?_cons_succ, if_true, Act.put, List.setIfInBounds_toArray, List.set_cons_zero, List.set_cons_succ] at hK ⊢
    go_simp
    exact hK.out _ _ (Below.refl _ _) rfl (not_fresh rfl)
  case refine_7 =>
    intro vs V hV hR hne fuel
    have d0 : vs 0 = .agg #[.bool b, .slice a xs.length ca] := hR 0 (by decide)
    obtain ⟨a0, c0, d1, I⟩ := (show (Yield.copy 0 b xs).At (vs 1) V from hR 1 (by decide))
    have d2 : vs 2 = .agg #[.bool d, .slice c ys.length cc] := hR 2 (by decide)
    obtain ⟨a9, c9, d3, J⟩ := (show (Yield.copy 0 d ys).At (vs 3) V from hR 3 (by decide))
    obtain ⟨k_E3, d4, E3, l_E3⟩ := (show (Yield.new w2.heap.size (.cells #[.bool false, .slice none 0 0] 25)).At (vs 4) V from hR 4 (by decide))
    obtain ⟨k_E4, d5, E4, l_E4⟩ := (show (Yield.new w2.heap.size (.cells #[.bool false, .slice none 0 0] 25)).At (vs 5) V from hR 5 (by decide))
    have n_E3_E4 : k_E3 ≠ k_E4 := new_apart (by have h := hne 4 5 (by decide) (by decide) rfl rfl (by decide); rw [d4, d5] at h; exact h)
    replace A := A.below hV
    replace B := B.below hV
    replace E1 := E1.below hV
    replace E2 := E2.below hV
    have hr := hV
    simp only [laidIn, List.getElem?_toArray, List.getElem?_cons_zero, List.getElem?_cons_succ, if_true, Act.put, List.setIfInBounds_toArray, List.set_cons_zero, List.set_cons_succ]
    simp only [d0, d1, d2, d3, d4, d5]
    clear hR hne hV d0 d1 d2 d3 d4 d5
    clear vs
    show wpAny _ _ _ _ (fuel + 2) _ _ _
    have hcc := E3.two
    have k0 := hcc.1
    have k1 := hcc.2.1
    have f0 := hcc.2.2.1
    have f1 := hcc.2.2.2
    clear hcc
    refine wpAny_all (rs := [6]) (by kernel_rfl) (by simp) (fun i hi => ?_)
    obtain rfl : i = 6 := by simpa using hi
    clear hi
    refine wpOp_step rfl (fun K hK => ?_)
    simp only [List.getElem_toArray, List.getElem_cons_zero, List.getElem_cons_succ]
    rw [if_pos (by rfl)]
    go_simp
    refine hK _ _ ?_
    clear hK k0 k1 f0 f1
    have hT := turns2 (k_E3) V (.bool b) (.slice a0 xs.length c0)
    replace A := A.besides E3 slice_noInt hT
    replace B := B.besides E3 slice_noInt hT
    replace I := I.besides E3 slice_noInt hT
    replace J := J.besides E3 slice_noInt hT
    replace E1 := E1.turns hT (by omega)
    replace E2 := E2.turns hT (by omega)
    replace E4 := E4.turns hT (by omega)
    replace E3 := E3.set2 (.bool b) (.slice a0 xs.length c0)
    have hr0 := hT.below
    obtain ⟨X1, hX⟩ : ∃ X, (V.setCell ⟨k_E3, 0, none⟩ (.bool b)).setCell ⟨k_E3, 1, none⟩ (.slice a0 xs.length c0) = X := ⟨_, rfl⟩
    rw [hX] at A B I J E1 E2 E3 E4 hr0 ⊢
    clear hX hT
    have hcc := E4.two
    have k0 := hcc.1
    have k1 := hcc.2.1
    have f0 := hcc.2.2.1
    have f1 := hcc.2.2.2
    clear hcc
    refine wpAny_all (rs := [7]) (by kernel_rfl) (by simp) (fun i hi => ?_)
    obtain rfl : i = 7 := by simpa using hi
    clear hi
    refine wpOp_step rfl (fun K hK => ?_)
    simp only [List.getElem_toArray, List.getElem_cons_zero, List.getElem_cons_succ]
    rw [if_pos (by rfl)]
    go_simp
    refine hK _ _ ?_
    clear hK k0 k1 f0 f1
    have hT := turns2 (k_E4) X1 (.bool d) (.slice a9 ys.length c9)
    replace A := A.besides E4 slice_noInt hT
    replace B := B.besides E4 slice_noInt hT
    replace I := I.besides E4 slice_noInt hT
    replace J := J.besides E4 slice_noInt hT
    replace E1 := E1.turns hT (by omega)
    replace E2 := E2.turns hT (by omega)
    replace E3 := E3.turns hT (by omega)
    replace E4 := E4.set2 (.bool d) (.slice a9 ys.length c9)
    have hr1 := hT.below
    obtain ⟨X2, hX⟩ : ∃ X, (X1.setCell ⟨k_E4, 0, none⟩ (.bool d)).setCell ⟨k_E4, 1, none⟩ (.slice a9 ys.length c9) = X := ⟨_, rfl⟩
    rw [hX] at A B I J E1 E2 E3 E4 hr1 ⊢
    clear hX hT
    refine wpAny_done (by kernel_rfl) ?_ _
    replace hB := hB.trans ((Below.trans (Below.drew (Below.refl w2.heap.size w2)) hr).mono hB.size)
    replace hB := hB.trans (hr0.mono (by omega))
    replace hB := hB.trans (hr1.mono (by omega))
    clear hr hr0 hr1
    have A_u := A
    have B_u := B
    have E1_u := E1
    have E2_u := E2
    have I_u := I
    have J_u := J
    have E3_u := E3
    have E4_u := E4
    have hu := Below.refl X2.heap.size X2
    have zu_hB := hB.size
    go_wp2_with fail
    replace A := A.drew
    replace B := B.drew
    have qE1 := E1.lt
    replace E1 := E1.drew
    have qE2 := E2.lt
    replace E2 := E2.drew
    replace I := I.drew
    replace J := J.drew
    have qE3 := E3.lt
    replace E3 := E3.drew
    have qE4 := E4.lt
    replace E4 := E4.drew
    refine wp_yields 15 [.is (.agg #[.bool b, .slice a0 xs.length c0]), .is (.agg #[.bool d, .slice a9 ys.length c9]), .whole X2.heap.size (sgn b (val xs) + sgn d (val ys)) 31, .is (.agg #[.bool b, .slice a0 xs.length c0]), .is (.agg #[.bool d, .slice a9 ys.length c9]), .whole X2.heap.size (sgn b (val xs) - sgn d (val ys)) 31, .is (.agg #[.bool b, .slice a0 xs.length c0]), .is (.agg #[.bool d, .slice a9 ys.length c9]), .whole X2.heap.size (sgn b (val xs) * sgn d (val ys)) 60, .is (.agg #[.bool b, .slice a0 xs.length c0]), .whole X2.heap.size (-sgn b (val xs)) 30, .new X2.heap.size (.cells #[.bool false, .slice none 0 0] 25), .new X2.heap.size (.cells #[.bool false, .slice none 0 0] 25), .new X2.heap.size (.cells #[.bool false, .slice none 0 0] 25), .new X2.heap.size (.cells #[.bool false, .slice none 0 0] 25)] (by kernel_rfl) (by kernel_rfl) (lt_cons ?_ (lt_cons ?_ (lt_cons ?_ (lt_cons ?_ (lt_cons ?_ (lt_cons ?_ (lt_cons ?_ (lt_cons ?_ (lt_cons ?_ (lt_cons ?_ (lt_cons ?_ (lt_cons ?_ (lt_cons ?_ (lt_cons ?_ (lt_cons ?_ lt_nil))))))))))))))) ?_
    case refine_1 =>
      refine OpDoes.mk rfl ?_
      intro vs V hV hd K hK
      simp only [laidIn, List.getElem_toArray, List.getElem_cons_zero, List.getElem_cons_succ, List.getElem?_toArray, List.getElem?_cons_zero, List.getElem?_cons_succ, if_true, Act.put, List.setIfInBounds_toArray, List.set_cons_zero, List.set_cons_succ] at hK ⊢
      go_simp
      exact hK.out _ _ ((Below.refl _ _).a1 _) ⟨_, rfl, Box.new _ _, hV.size⟩ (fresh_apart _ _ (fresh_new _))
    case refine_2 =>
      refine OpDoes.mk rfl ?_
      intro vs V hV hd K hK
      simp only [laidIn, List.getElem_toArray, List.getElem_cons_zero, List.getElem_cons_succ, List.getElem?_toArray, List.getElem?_cons_zero, List.getElem?_cons_succ, if_true, Act.put, List.setIfInBounds_toArray, List.set_cons_zero, List.set_cons_succ] at hK ⊢
      go_simp
      exact hK.out _ _ ((Below.refl _ _).a1 _) ⟨_, rfl, Box.new _ _, hV.size⟩ (fresh_apart _ _ (fresh_new _))
    case refine_3 =>
      refine OpDoes.mk rfl ?_
      intro vs V hV hd K hK
      simp only [laidIn, List.getElem_toArray, List.getElem_cons_zero, List.getElem_cons_succ, List.getElem?_toArray, List.getElem?_cons_zero, List.getElem?_cons_succ, if_true, Act.put, List.setIfInBounds_toArray, List.set_cons_zero, List.set_cons_succ] at hK ⊢
      go_simp
      exact hK.out _ _ ((Below.refl _ _).a1 _) ⟨_, rfl, Box.new _ _, hV.size⟩ (fresh_apart _ _ (fresh_new _))
    case refine_4 =>
      refine OpDoes.mk rfl ?_
      intro vs V hV hd K hK
      simp only [laidIn, List.getElem_toArray, List.getElem_cons_zero, List.getElem_cons_succ, List.getElem?_toArray, List.getElem?_cons_zero, List.getElem?_cons_succ, if_true, Act.put, List.setIfInBounds_toArray, List.set_cons_zero, List.set_cons_succ] at hK ⊢
      go_simp
      exact hK.out _ _ ((Below.refl _ _).a1 _) ⟨_, rfl, Box.new _ _, hV.size⟩ (fresh_apart _ _ (fresh_new _))
    case refine_5 =>
      refine OpDoes.mk rfl ?_
      intro vs V hV hd K hK
      have d9 : vs 9 = .agg #[.bool b, .slice a0 xs.length c0] := hd 9 (by decide) (by kernel_rfl)
      simp only [laidIn, List.getElem_toArray, List.getElem_cons_zero, List.getElem_cons_succ, List.getElem?_toArray, List.getElem?_cons_zero, List.getElem?_cons_succ, if_true, Act.put, List.setIfInBounds_toArray, List.set_cons_zero, List.set_cons_succ] at hK ⊢
      simp only [d9] at hK ⊢
      go_simp
      go_at_call 27
      refine (sneg_any b (I.below hV) (by omega)).mono ?_
      rintro e V' ⟨g4, a4, c4, z4, rfl, S4, N4, v4, l4, hb⟩
      exact hK.out _ _ hb ⟨_, _, _, _, rfl, S4.mono hV.size, N4, v4, by omega⟩ (fresh_apart _ _ (fun k hk => (seg_blockOf S4 hk).1))
    case refine_6 =>
      refine OpDoes.mk rfl ?_
      intro vs V hV hd K hK
      have hcc := (E3.below hV).two
      have k0 := hcc.1
      have k1 := hcc.2.1
      clear hcc
      simp only [laidIn, List.getElem_toArray, List.getElem_cons_zero, List.getElem_cons_succ, List.getElem?_toArray, List.getElem?_cons_zero, List.getElem?_cons_succ, if_true, Act.put, List.setIfInBounds_toArray, List.set_cons_zero, List.set_cons_succ] at hK ⊢
      go_simp
      exact hK.out _ _ (Below.refl _ _) rfl (not_fresh rfl)
    case refine_7 =>
      refine OpDoes.mk rfl ?_
      intro vs V hV hd K hK
      have d6 : vs 6 = .agg #[.bool b, .slice a0 xs.length c0] := hd 6 (by decide) (by kernel_rfl)
      have d7 : vs 7 = .agg #[.bool d, .slice a9 ys.length c9] := hd 7 (by decide) (by kernel_rfl)
      simp only [laidIn, List.getElem_toArray, List.getElem_cons_zero, List.getElem_cons_succ, List.getElem?_toArray, List.getElem?_cons_zero, List.getElem?_cons_succ, if_true, Act.put, List.setIfInBounds_toArray, List.set_cons_zero, List.set_cons_succ] at hK ⊢
      simp only [d6, d7] at hK ⊢
      go_simp
      go_at_call 26
      refine (smul_any b d (I.below hV) (J.below hV) (by omega) (by omega)).mono ?_
      rintro e V' ⟨g3, a3, c3, z3, rfl, S3, N3, v3, l3, hb⟩
      exact hK.out _ _ hb ⟨_, _, _, _, rfl, S3.mono hV.size, N3, v3, by omega⟩ (fresh_apart _ _ (fun k hk => (seg_blockOf S3 hk).1))
    case refine_8 =>
      refine OpDoes.mk rfl ?_
      intro vs V hV hd K hK
      have hcc := (E4.below hV).two
      have k0 := hcc.1
      have k1 := hcc.2.1
      clear hcc
      simp only [laidIn, List.getElem_toArray, List.getElem_cons_zero, List.getElem_cons_succ, List.getElem?_toArray, List.getElem?_cons_zero, List.getElem?_cons_succ, if_true, Act.put, List.setIfInBounds_toArray, List.set_cons_zero, List.set_cons_succ] at hK ⊢
      go_simp
      exact hK.out _ _ (Below.refl _ _) rfl (not_fresh rfl)
    case refine_9 =>
      refine OpDoes.mk rfl ?_
      intro vs V hV hd K hK
      have hcc := (E3.below hV).two
      have k0 := hcc.1
      have k1 := hcc.2.1
      clear hcc
      simp only [laidIn, List.getElem_toArray, List.getElem_cons_zero, List.getElem_cons_succ, List.getElem?_toArray, List.getElem?_cons_zero, List.getElem?_cons_succ, if_true, Act.put, List.setIfInBounds_toArray, List.set_cons_zero, List.set_cons_succ] at hK ⊢
      go_simp
      exact hK.out _ _ (Below.refl _ _) rfl (not_fresh rfl)
    case refine_10 =>
      refine OpDoes.mk rfl ?_
      intro vs V hV hd K hK
      have d3 : vs 3 = .agg #[.bool b, .slice a0 xs.length c0] := hd 3 (by decide) (by kernel_rfl)
      have d4 : vs 4 = .agg #[.bool d, .slice a9 ys.length c9] := hd 4 (by decide) (by kernel_rfl)
      simp only [laidIn, List.getElem_toArray, List.getElem_cons_zero, List.getElem_cons_succ, List.getElem?_toArray, List.getElem?_cons_zero, List.getElem?_cons_succ, if_true, Act.put, List.setIfInBounds_toArray, List.set_cons_zero, List.set_cons_succ] at hK ⊢
      simp only [d3, d4] at hK ⊢
      go_simp
      go_at_call 25
      refine (ssub_any b d (I.below hV) (J.below hV) (by omega) (by omega)).mono ?_
      rintro e V' ⟨g2, a2, c2, z2, rfl, S2, N2, v2, l2, hb⟩
      exact hK.out _ _ hb ⟨_, _, _, _, rfl, S2.mono hV.size, N2, v2, by omega⟩ (fresh_apart _ _ (fun k hk => (seg_blockOf S2 hk).1))
    case refine_11 =>
      refine OpDoes.mk rfl ?_
      intro vs V hV hd K hK
      have hcc := (E4.below hV).two
      have k0 := hcc.1
      have k1 := hcc.2.1
      clear hcc
      simp only [laidIn, List.getElem_toArray, List.getElem_cons_zero, List.getElem_cons_succ, List.getElem?_toArray, List.getElem?_cons_zero, List.getElem?_cons_succ, if_true, Act.put, List.setIfInBounds_toArray, List.set_cons_zero, List.set_cons_succ] at hK ⊢
      go_simp
      exact hK.out _ _ (Below.refl _ _) rfl (not_fresh rfl)
    case refine_12 =>
      refine OpDoes.mk rfl ?_
      intro vs V hV hd K hK
      have hcc := (E3.below hV).two
      have k0 := hcc.1
      have k1 := hcc.2.1
      clear hcc
      simp only [laidIn, List.getElem_toArray, List.getElem_cons_zero, List.getElem_cons_succ, List.getElem?_toArray, List.getElem?_cons_zero, List.getElem?_cons_succ, if_true, Act.put, List.setIfInBounds_toArray, List.set_cons_zero, List.set_cons_succ] at hK ⊢
      go_simp
      exact hK.out _ _ (Below.refl _ _) rfl (not_fresh rfl)
    case refine_13 =>
      refine OpDoes.mk rfl ?_
      intro vs V hV hd K hK
      have d0 : vs 0 = .agg #[.bool b, .slice a0 xs.length c0] := hd 0 (by decide) (by kernel_rfl)
      have d1 : vs 1 = .agg #[.bool d, .slice a9 ys.length c9] := hd 1 (by decide) (by kernel_rfl)
      simp only [laidIn, List.getElem_toArray, List.getElem_cons_zero, List.getElem_cons_succ, List.getElem?_toArray, List.getElem?_cons_zero, List.getElem?_cons_succ, if_true, Act.put, List.setIfInBounds_toArray, List.set_cons_zero, List.set_cons_succ] at hK ⊢
      simp only [d0, d1] at hK ⊢
      go_simp
      go_at_call 24
      refine (sadd_any b d (I.below hV) (J.below hV) (by omega) (by omega)).mono ?_
      rintro e V' ⟨g1, a1, c1, z1, rfl, S1, N1, v1, l1, hb⟩
      exact hK.out _ _ hb ⟨_, _, _, _, rfl, S1.mono hV.size, N1, v1, by omega⟩ (fresh_apart _ _ (fun k hk => (seg_blockOf S1 hk).1))
    case refine_14 =>
      refine OpDoes.mk rfl ?_
      intro vs V hV hd K hK
      have hcc := (E4.below hV).two
      have k0 := hcc.1
      have k1 := hcc.2.1
      clear hcc
      simp only [laidIn, List.getElem_toArray, List.getElem_cons_zero, List.getElem_cons_succ, List.getElem?_toArray, List.getElem?_cons_zero, List.getElem?_cons_succ, if_true, Act.put, List.setIfInBounds_toArray, List.set_cons_zero, List.set_cons_succ] at hK ⊢
      go_simp
      exact hK.out _ _ (Below.refl _ _) rfl (not_fresh rfl)
    case refine_15 =>
      refine OpDoes.mk rfl ?_
      intro vs V hV hd K hK
      have hcc := (E3.below hV).two
      have k0 := hcc.1
      have k1 := hcc.2.1
      clear hcc
      simp only [laidIn, List.getElem_toArray, List.getElem_cons_zero, List.getElem?_toArray, List.getElem?_cons_zero, List.getElem?_cons_succ, if_true, Act.put, List.setIfInBounds_toArray, List.set_cons_zero, List.set_cons_succ] at hK ⊢
      go_simp
      exact hK.out _ _ (Below.refl _ _) rfl (not_fresh rfl)
    case refine_16 =>
      intro vs V hV hR hne fuel
      have d0 : vs 0 = .agg #[.bool b, .slice a0 xs.length c0] := hR 0 (by decide)
      have d1 : vs 1 = .agg #[.bool d, .slice a9 ys.length c9] := hR 1 (by decide)
      obtain ⟨g1, a1, c1, z1, d2, S1, N1, v1, b1⟩ := (show (Yield.whole X2.heap.size (sgn b (val xs) + sgn d (val ys)) 31).At (vs 2) V from hR 2 (by decide))
      have d3 : vs 3 = .agg #[.bool b, .slice a0 xs.length c0] := hR 3 (by decide)
      have d4 : vs 4 = .agg #[.bool d, .slice a9 ys.length c9] := hR 4 (by decide)
      obtain ⟨g2, a2, c2, z2, d5, S2, N2, v2, b2⟩ := (show (Yield.whole X2.heap.size (sgn b (val xs) - sgn d (val ys)) 31).At (vs 5) V from hR 5 (by decide))
      have d6 : vs 6 = .agg #[.bool b, .slice a0 xs.length c0] := hR 6 (by decide)
      have d7 : vs 7 = .agg #[.bool d, .slice a9 ys.length c9] := hR 7 (by decide)
      obtain ⟨g3, a3, c3, z3, d8, S3, N3, v3, b3⟩ := (show (Yield.whole X2.heap.size (sgn b (val xs) * sgn d (val ys)) 60).At (vs 8) V from hR 8 (by decide))
      have d9 : vs 9 = .agg #[.bool b, .slice a0 xs.length c0] := hR 9 (by decide)
      obtain ⟨g4, a4, c4, z4, d10, S4, N4, v4, b4⟩ := (show (Yield.whole X2.heap.size (-sgn b (val xs)) 30).At (vs 10) V from hR 10 (by decide))
      obtain ⟨k_E5, d11, E5, l_E5⟩ := (show (Yield.new X2.heap.size (.cells #[.bool false, .slice none 0 0] 25)).At (vs 11) V from hR 11 (by decide))
      obtain ⟨k_E6, d12, E6, l_E6⟩ := (show (Yield.new X2.heap.size (.cells #[.bool false, .slice none 0 0] 25)).At (vs 12) V from hR 12 (by decide))
      obtain ⟨k_E7, d13, E7, l_E7⟩ := (show (Yield.new X2.heap.size (.cells #[.bool false, .slice none 0 0] 25)).At (vs 13) V from hR 13 (by decide))
      obtain ⟨k_E8, d14, E8, l_E8⟩ := (show (Yield.new X2.heap.size (.cells #[.bool false, .slice none 0 0] 25)).At (vs 14) V from hR 14 (by decide))
      have n_E5_E6 : k_E5 ≠ k_E6 := new_apart (by have h := hne 11 12 (by decide) (by decide) rfl rfl (by decide); rw [d11, d12] at h; exact h)
      have n_E5_E7 : k_E5 ≠ k_E7 := new_apart (by have h := hne 11 13 (by decide) (by decide) rfl rfl (by decide); rw [d11, d13] at h; exact h)
      have n_E5_E8 : k_E5 ≠ k_E8 := new_apart (by have h := hne 11 14 (by decide) (by decide) rfl rfl (by decide); rw [d11, d14] at h; exact h)
      have n_E6_E7 : k_E6 ≠ k_E7 := new_apart (by have h := hne 12 13 (by decide) (by decide) rfl rfl (by decide); rw [d12, d13] at h; exact h)
      have n_E6_E8 : k_E6 ≠ k_E8 := new_apart (by have h := hne 12 14 (by decide) (by decide) rfl rfl (by decide); rw [d12, d14] at h; exact h)
      have n_E7_E8 : k_E7 ≠ k_E8 := new_apart (by have h := hne 13 14 (by decide) (by decide) rfl rfl (by decide); rw [d13, d14] at h; exact h)
      have PS1_S2 := hide (by have h := hne 2 5 (by decide) (by decide) rfl rfl (by decide); rw [d2, d5] at h; exact h : Apart _ _)
      have PS1_S3 := hide (by have h := hne 2 8 (by decide) (by decide) rfl rfl (by decide); rw [d2, d8] at h; exact h : Apart _ _)
      have PS1_S4 := hide (by have h := hne 2 10 (by decide) (by decide) rfl rfl (by decide); rw [d2, d10] at h; exact h : Apart _ _)
      have PS2_S1 := hide (by have h := hne 5 2 (by decide) (by decide) rfl rfl (by decide); rw [d5, d2] at h; exact h : Apart _ _)
      have PS2_S3 := hide (by have h := hne 5 8 (by decide) (by decide) rfl rfl (by decide); rw [d5, d8] at h; exact h : Apart _ _)
      have PS2_S4 := hide (by have h := hne 5 10 (by decide) (by decide) rfl rfl (by decide); rw [d5, d10] at h; exact h : Apart _ _)
      have PS3_S1 := hide (by have h := hne 8 2 (by decide) (by decide) rfl rfl (by decide); rw [d8, d2] at h; exact h : Apart _ _)
      have PS3_S2 := hide (by have h := hne 8 5 (by decide) (by decide) rfl rfl (by decide); rw [d8, d5] at h; exact h : Apart _ _)
      have PS3_S4 := hide (by have h := hne 8 10 (by decide) (by decide) rfl rfl (by decide); rw [d8, d10] at h; exact h : Apart _ _)
      have PS4_S1 := hide (by have h := hne 10 2 (by decide) (by decide) rfl rfl (by decide); rw [d10, d2] at h; exact h : Apart _ _)
      have PS4_S2 := hide (by have h := hne 10 5 (by decide) (by decide) rfl rfl (by decide); rw [d10, d5] at h; exact h : Apart _ _)
      have PS4_S3 := hide (by have h := hne 10 8 (by decide) (by decide) rfl rfl (by decide); rw [d10, d8] at h; exact h : Apart _ _)
      replace A := A.below hV
      replace B := B.below hV
      replace E1 := E1.below hV
      replace E2 := E2.below hV
      replace I := I.below hV
      replace J := J.below hV
      replace E3 := E3.below hV
      replace E4 := E4.below hV
      have hr := hV
      simp only [laidIn, List.getElem?_toArray, List.getElem?_cons_zero, List.getElem?_cons_succ, if_true, Act.put, List.setIfInBounds_toArray, List.set_cons_zero, List.set_cons_succ]
      simp only [d0, d1, d2, d3, d4, d5, d6, d7, d8, d9, d10, d11, d12, d13, d14]
      clear hR hne hV d0 d1 d2 d3 d4 d5 d6 d7 d8 d9 d10 d11 d12 d13 d14
      clear vs
      show wpAny _ _ _ _ (fuel + 4) _ _ _
      have hcc := E5.two
      have k0 := hcc.1
      have k1 := hcc.2.1
      have f0 := hcc.2.2.1
      have f1 := hcc.2.2.2
      clear hcc
      refine wpAny_all (rs := [15]) (by kernel_rfl) (by simp) (fun i hi => ?_)
      obtain rfl : i = 15 := by simpa using hi
      clear hi
      refine wpOp_step rfl (fun K hK => ?_)
      simp only [List.getElem_toArray, List.getElem_cons_zero, List.getElem_cons_succ]
      rw [if_pos (by rfl)]
      go_simp
      refine hK _ _ ?_
      clear hK k0 k1 f0 f1
      have hT := turns2 (k_E5) V (.bool g1) (.slice a1 z1.length c1)
      replace A := A.besides E5 slice_noInt hT
      replace B := B.besides E5 slice_noInt hT
      replace I := I.besides E5 slice_noInt hT
      replace J := J.besides E5 slice_noInt hT
      replace S1 := S1.besides E5 slice_noInt hT
      replace S2 := S2.besides E5 slice_noInt hT
      replace S3 := S3.besides E5 slice_noInt hT
      replace S4 := S4.besides E5 slice_noInt hT
      replace E1 := E1.turns hT (by omega)
      replace E2 := E2.turns hT (by omega)
      replace E3 := E3.turns hT (by omega)
      replace E4 := E4.turns hT (by omega)
      replace E6 := E6.turns hT (by omega)
      replace E7 := E7.turns hT (by omega)
      replace E8 := E8.turns hT (by omega)
      replace E5 := E5.set2 (.bool g1) (.slice a1 z1.length c1)
      have hr0 := hT.below
      obtain ⟨X3, hX⟩ : ∃ X, (V.setCell ⟨k_E5, 0, none⟩ (.bool g1)).setCell ⟨k_E5, 1, none⟩ (.slice a1 z1.length c1) = X := ⟨_, rfl⟩
      rw [hX] at A B I J S1 S2 S3 S4 E1 E2 E3 E4 E5 E6 E7 E8 hr0 ⊢
      clear hX hT
      have hcc := E6.two
      have k0 := hcc.1
      have k1 := hcc.2.1
      have f0 := hcc.2.2.1
      have f1 := hcc.2.2.2
      clear hcc
      refine wpAny_all (rs := [16]) (by kernel_rfl) (by simp) (fun i hi => ?_)
      obtain rfl : i = 16 := by simpa using hi
      clear hi
      refine wpOp_step rfl (fun K hK => ?_)
      simp only [List.getElem_toArray, List.getElem_cons_zero, List.getElem_cons_succ]
      rw [if_pos (by rfl)]
      go_simp
      refine hK _ _ ?_
      clear hK k0 k1 f0 f1
      have hT := turns2 (k_E6) X3 (.bool g2) (.slice a2 z2.length c2)
      replace A := A.besides E6 slice_noInt hT
      replace B := B.besides E6 slice_noInt hT
      replace I := I.besides E6 slice_noInt hT
      replace J := J.besides E6 slice_noInt hT
      replace S1 := S1.besides E6 slice_noInt hT
      replace S2 := S2.besides E6 slice_noInt hT
      replace S3 := S3.besides E6 slice_noInt hT
      replace S4 := S4.besides E6 slice_noInt hT
      replace E1 := E1.turns hT (by omega)
      replace E2 := E2.turns hT (by omega)
      replace E3 := E3.turns hT (by omega)
      replace E4 := E4.turns hT (by omega)
      replace E5 := E5.turns hT (by omega)
      replace E7 := E7.turns hT (by omega)
      replace E8 := E8.turns hT (by omega)
      replace E6 := E6.set2 (.bool g2) (.slice a2 z2.length c2)
      have hr1 := hT.below
      obtain ⟨X4, hX⟩ : ∃ X, (X3.setCell ⟨k_E6, 0, none⟩ (.bool g2)).setCell ⟨k_E6, 1, none⟩ (.slice a2 z2.length c2) = X := ⟨_, rfl⟩
      rw [hX] at A B I J S1 S2 S3 S4 E1 E2 E3 E4 E5 E6 E7 E8 hr1 ⊢
      clear hX hT
      have hcc := E7.two
      have k0 := hcc.1
      have k1 := hcc.2.1
      have f0 := hcc.2.2.1
      have f1 := hcc.2.2.2
      clear hcc
      refine wpAny_all (rs := [17]) (by kernel_rfl) (by simp) (fun i hi => ?_)
      obtain rfl : i = 17 := by simpa using hi
      clear hi
      refine wpOp_step rfl (fun K hK => ?_)
      simp only [List.getElem_toArray, List.getElem_cons_zero, List.getElem_cons_succ]
      rw [if_pos (by rfl)]
      go_simp
      refine hK _ _ ?_
      clear hK k0 k1 f0 f1
      have hT := turns2 (k_E7) X4 (.bool g3) (.slice a3 z3.length c3)
      replace A := A.besides E7 slice_noInt hT
      replace B := B.besides E7 slice_noInt hT
      replace I := I.besides E7 slice_noInt hT
      replace J := J.besides E7 slice_noInt hT
      replace S1 := S1.besides E7 slice_noInt hT
      replace S2 := S2.besides E7 slice_noInt hT
      replace S3 := S3.besides E7 slice_noInt hT
      replace S4 := S4.besides E7 slice_noInt hT
      replace E1 := E1.turns hT (by omega)
      replace E2 := E2.turns hT (by omega)
      replace E3 := E3.turns hT (by omega)
      replace E4 := E4.turns hT (by omega)
      replace E5 := E5.turns hT (by omega)
      replace E6 := E6.turns hT (by omega)
      replace E8 := E8.turns hT (by omega)
      replace E7 := E7.set2 (.bool g3) (.slice a3 z3.length c3)
      have hr2 := hT.below
      obtain ⟨X5, hX⟩ : ∃ X, (X4.setCell ⟨k_E7, 0, none⟩ (.bool g3)).setCell ⟨k_E7, 1, none⟩ (.slice a3 z3.length c3) = X := ⟨_, rfl⟩
      rw [hX] at A B I J S1 S2 S3 S4 E1 E2 E3 E4 E5 E6 E7 E8 hr2 ⊢
      clear hX hT
      have hcc := E8.two
      have k0 := hcc.1
      have k1 := hcc.2.1
      have f0 := hcc.2.2.1
      have f1 := hcc.2.2.2
      clear hcc
      refine wpAny_all (rs := [18]) (by kernel_rfl) (by simp) (fun i hi => ?_)
      obtain rfl : i = 18 := by simpa using hi
      clear hi
      refine wpOp_step rfl (fun K hK => ?_)
      simp only [List.getElem_toArray, List.getElem_cons_zero, List.getElem_cons_succ]
      rw [if_pos (by rfl)]
      go_simp
      refine hK _ _ ?_
      clear hK k0 k1 f0 f1
      have hT := turns2 (k_E8) X5 (.bool g4) (.slice a4 z4.length c4)
      replace A := A.besides E8 slice_noInt hT
      replace B := B.besides E8 slice_noInt hT
      replace I := I.besides E8 slice_noInt hT
      replace J := J.besides E8 slice_noInt hT
      replace S1 := S1.besides E8 slice_noInt hT
      replace S2 := S2.besides E8 slice_noInt hT
      replace S3 := S3.besides E8 slice_noInt hT
      replace S4 := S4.besides E8 slice_noInt hT
      replace E1 := E1.turns hT (by omega)
      replace E2 := E2.turns hT (by omega)
      replace E3 := E3.turns hT (by omega)
      replace E4 := E4.turns hT (by omega)
      replace E5 := E5.turns hT (by omega)
      replace E6 := E6.turns hT (by omega)
      replace E7 := E7.turns hT (by omega)
      replace E8 := E8.set2 (.bool g4) (.slice a4 z4.length c4)
      have hr3 := hT.below
      obtain ⟨X6, hX⟩ : ∃ X, (X5.setCell ⟨k_E8, 0, none⟩ (.bool g4)).setCell ⟨k_E8, 1, none⟩ (.slice a4 z4.length c4) = X := ⟨_, rfl⟩
      rw [hX] at A B I J S1 S2 S3 S4 E1 E2 E3 E4 E5 E6 E7 E8 hr3 ⊢
      clear hX hT
      refine wpAny_done (by kernel_rfl) ?_ _
      replace hB := hB.trans ((Below.trans (Below.drew (Below.refl X2.heap.size X2)) hr).mono hB.size)
      replace hB := hB.trans (hr0.mono (by omega))
      replace hB := hB.trans (hr1.mono (by omega))
      replace hB := hB.trans (hr2.mono (by omega))
      replace hB := hB.trans (hr3.mono (by omega))
      replace hu := hu.trans ((Below.trans (Below.drew (Below.refl X2.heap.size X2)) hr).mono hu.size)
      replace hu := hu.trans (hr0.mono (by omega))
      replace hu := hu.trans (hr1.mono (by omega))
      replace hu := hu.trans (hr2.mono (by omega))
      replace hu := hu.trans (hr3.mono (by omega))
      clear hr hr0 hr1 hr2 hr3
      have V1 := hide v1
      clear v1
      have V2 := hide v2
      clear v2
      have V3 := hide v3
      clear v3
      have V4 := hide v4
      clear v4
      go_wp2_with fail
      replace A := A.drew
      replace B := B.drew
      replace E1 := E1.drew
      replace E2 := E2.drew
      replace I := I.drew
      replace J := J.drew
      replace E3 := E3.drew
      replace E4 := E4.drew
      replace S1 := S1.drew
      replace S2 := S2.drew
      replace S3 := S3.drew
      replace S4 := S4.drew
      replace E5 := E5.drew
      replace E6 := E6.drew
      replace E7 := E7.drew
      replace E8 := E8.drew
      have hr := Below.refl X6.drew.heap.size X6.drew
      have hkeep : ∀ V : World, Below X6.drew.heap.size X6.drew V → (V.cell? ⟨w.heap.size, 0, none⟩ = some (.bool b) ∧ V.cell? ⟨w.heap.size, 1, none⟩ = some (.slice a xs.length ca)) ∧ (V.cell? ⟨w.heap.size + 1, 0, none⟩ = some (.bool d) ∧ V.cell? ⟨w.heap.size + 1, 1, none⟩ = some (.slice c ys.length cc)) ∧ (V.cell? ⟨k_E3, 0, none⟩ = some (.bool b) ∧ V.cell? ⟨k_E3, 1, none⟩ = some (.slice a0 xs.length c0)) ∧ (V.cell? ⟨k_E4, 0, none⟩ = some (.bool d) ∧ V.cell? ⟨k_E4, 1, none⟩ = some (.slice a9 ys.length c9)) ∧ (V.cell? ⟨k_E5, 0, none⟩ = some (.bool g1) ∧ V.cell? ⟨k_E5, 1, none⟩ = some (.slice a1 z1.length c1)) ∧ (V.cell? ⟨k_E6, 0, none⟩ = some (.bool g2) ∧ V.cell? ⟨k_E6, 1, none⟩ = some (.slice a2 z2.length c2)) ∧ (V.cell? ⟨k_E7, 0, none⟩ = some (.bool g3) ∧ V.cell? ⟨k_E7, 1, none⟩ = some (.slice a3 z3.length c3)) ∧ (V.cell? ⟨k_E8, 0, none⟩ = some (.bool g4) ∧ V.cell? ⟨k_E8, 1, none⟩ = some (.slice a4 z4.length c4)) := fun V hV => ⟨(E1.below hV).cells, (E2.below hV).cells, (E3.below hV).cells, (E4.below hV).cells, (E5.below hV).cells, (E6.below hV).cells, (E7.below hV).cells, (E8.below hV).cells⟩
      have t0 : Hid True := trivial
      go_region_held3 (fun V : World => (V.cell? ⟨w.heap.size, 0, none⟩ = some (.bool b) ∧ V.cell? ⟨w.heap.size, 1, none⟩ = some (.slice a xs.length ca)) ∧ (V.cell? ⟨w.heap.size + 1, 0, none⟩ = some (.bool d) ∧ V.cell? ⟨w.heap.size + 1, 1, none⟩ = some (.slice c ys.length cc)) ∧ (V.cell? ⟨k_E3, 0, none⟩ = some (.bool b) ∧ V.cell? ⟨k_E3, 1, none⟩ = some (.slice a0 xs.length c0)) ∧ (V.cell? ⟨k_E4, 0, none⟩ = some (.bool d) ∧ V.cell? ⟨k_E4, 1, none⟩ = some (.slice a9 ys.length c9)) ∧ (V.cell? ⟨k_E5, 0, none⟩ = some (.bool g1) ∧ V.cell? ⟨k_E5, 1, none⟩ = some (.slice a1 z1.length c1)) ∧ (V.cell? ⟨k_E6, 0, none⟩ = some (.bool g2) ∧ V.cell? ⟨k_E6, 1, none⟩ = some (.slice a2 z2.length c2)) ∧ (V.cell? ⟨k_E7, 0, none⟩ = some (.bool g3) ∧ V.cell? ⟨k_E7, 1, none⟩ = some (.slice a3 z3.length c3)) ∧ (V.cell? ⟨k_E8, 0, none⟩ = some (.bool g4) ∧ V.cell? ⟨k_E8, 1, none⟩ = some (.slice a4 z4.length c4)))
        (first | exact hkeep _ hr | exact hkeep _ (hr.a1 _) | exact hkeep _ ((hr.a1 _).a1 _) | exact hkeep _ (((hr.a1 _).a1 _).a1 _) | exact hkeep _ ((((hr.a1 _).a1 _).a1 _).a1 _))
        (first
        | (clear t0
           go_at_call 28
           refine (iadd_any b d A B (by omega) (by omega)).mono ?_
           rintro e w3 ⟨g5, a5, c5, z5, rfl, S5, N5, v5, l5, hb⟩
           have V5 : Hid (sgn g5 (val z5) = sgn b (val xs) + sgn d (val ys)) := v5
           have b5 : z5.length ≤ 31 := by omega
           replace A := A.below hb
           replace B := B.below hb
           replace E1 := E1.below hb
           replace E2 := E2.below hb
           replace I := I.below hb
           replace J := J.below hb
           replace E3 := E3.below hb
           replace E4 := E4.below hb
           replace S1 := S1.below hb
           replace S2 := S2.below hb
           replace S3 := S3.below hb
           replace S4 := S4.below hb
           replace E5 := E5.below hb
           replace E6 := E6.below hb
           replace E7 := E7.below hb
           replace E8 := E8.below hb
           replace hr := hr.trans (hb.mono hr.size)
           have zw3 := hb.size
           clear hb v5 l5
           have t1 : Hid True := trivial)
        | (clear t1
           go_at_call 16
           refine (samew_can g1 g5 S1 S5 N1 N5 (by rw [V1.out, V5.out]) (by omega)).mono ?_
           rintro e w4 ⟨rfl, hb⟩
           replace A := A.below hb
           replace B := B.below hb
           replace E1 := E1.below hb
           replace E2 := E2.below hb
           replace I := I.below hb
           replace J := J.below hb
           replace E3 := E3.below hb
           replace E4 := E4.below hb
           replace S1 := S1.below hb
           replace S2 := S2.below hb
           replace S3 := S3.below hb
           replace S4 := S4.below hb
           replace E5 := E5.below hb
           replace E6 := E6.below hb
           replace E7 := E7.below hb
           replace E8 := E8.below hb
           replace S5 := S5.below hb
           replace hr := hr.trans (hb.mono hr.size)
           have zw4 := hb.size
           clear hb 
           have t2 : Hid True := trivial)
        | (clear t2
           go_at_call 29
           refine (isub_any b d A B (by omega) (by omega)).mono ?_
           rintro e w5 ⟨g6, a6, c6, z6, rfl, S6, N6, v6, l6, hb⟩
           have V6 : Hid (sgn g6 (val z6) = sgn b (val xs) - sgn d (val ys)) := v6
           have b6 : z6.length ≤ 31 := by omega
           replace A := A.below hb
           replace B := B.below hb
           replace E1 := E1.below hb
           replace E2 := E2.below hb
           replace I := I.below hb
           replace J := J.below hb
           replace E3 := E3.below hb
           replace E4 := E4.below hb
           replace S1 := S1.below hb
           replace S2 := S2.below hb
           replace S3 := S3.below hb
           replace S4 := S4.below hb
           replace E5 := E5.below hb
           replace E6 := E6.below hb
           replace E7 := E7.below hb
           replace E8 := E8.below hb
           replace S5 := S5.below hb
           replace hr := hr.trans (hb.mono hr.size)
           have zw5 := hb.size
           clear hb v6 l6
           have t3 : Hid True := trivial)
        | (clear t3
           go_at_call 16
           refine (samew_can g2 g6 S2 S6 N2 N6 (by rw [V2.out, V6.out]) (by omega)).mono ?_
           rintro e w6 ⟨rfl, hb⟩
           replace A := A.below hb
           replace B := B.below hb
           replace E1 := E1.below hb
           replace E2 := E2.below hb
           replace I := I.below hb
           replace J := J.below hb
           replace E3 := E3.below hb
           replace E4 := E4.below hb
           replace S1 := S1.below hb
           replace S2 := S2.below hb
           replace S3 := S3.below hb
           replace S4 := S4.below hb
           replace E5 := E5.below hb
           replace E6 := E6.below hb
           replace E7 := E7.below hb
           replace E8 := E8.below hb
           replace S5 := S5.below hb
           replace S6 := S6.below hb
           replace hr := hr.trans (hb.mono hr.size)
           have zw6 := hb.size
           clear hb 
           have t4 : Hid True := trivial)
        | (clear t4
           go_at_call 30
           refine (imul_any b d A B (by omega) (by omega)).mono ?_
           rintro e w7 ⟨g7, a7, c7, z7, rfl, S7, N7, v7, l7, hb⟩
           have V7 : Hid (sgn g7 (val z7) = sgn b (val xs) * sgn d (val ys)) := v7
           have b7 : z7.length ≤ 60 := by omega
           replace A := A.below hb
           replace B := B.below hb
           replace E1 := E1.below hb
           replace E2 := E2.below hb
           replace I := I.below hb
           replace J := J.below hb
           replace E3 := E3.below hb
           replace E4 := E4.below hb
           replace S1 := S1.below hb
           replace S2 := S2.below hb
           replace S3 := S3.below hb
           replace S4 := S4.below hb
           replace E5 := E5.below hb
           replace E6 := E6.below hb
           replace E7 := E7.below hb
           replace E8 := E8.below hb
           replace S5 := S5.below hb
           replace S6 := S6.below hb
           replace hr := hr.trans (hb.mono hr.size)
           have zw7 := hb.size
           clear hb v7 l7
           have t5 : Hid True := trivial)
        | (clear t5
           go_at_call 16
           refine (samew_can g3 g7 S3 S7 N3 N7 (by rw [V3.out, V7.out]) (by omega)).mono ?_
           rintro e w8 ⟨rfl, hb⟩
           replace A := A.below hb
           replace B := B.below hb
           replace E1 := E1.below hb
           replace E2 := E2.below hb
           replace I := I.below hb
           replace J := J.below hb
           replace E3 := E3.below hb
           replace E4 := E4.below hb
           replace S1 := S1.below hb
           replace S2 := S2.below hb
           replace S3 := S3.below hb
           replace S4 := S4.below hb
           replace E5 := E5.below hb
           replace E6 := E6.below hb
           replace E7 := E7.below hb
           replace E8 := E8.below hb
           replace S5 := S5.below hb
           replace S6 := S6.below hb
           replace S7 := S7.below hb
           replace hr := hr.trans (hb.mono hr.size)
           have zw8 := hb.size
           clear hb 
           have t6 : Hid True := trivial)
        | (clear t6
           go_at_call 31
           refine (ineg_any b A (by omega)).mono ?_
           rintro e w9 ⟨g8, a8, c8, z8, rfl, S8, N8, v8, l8, hb⟩
           have V8 : Hid (sgn g8 (val z8) = -sgn b (val xs)) := v8
           have b8 : z8.length ≤ 30 := by omega
           replace A := A.below hb
           replace B := B.below hb
           replace E1 := E1.below hb
           replace E2 := E2.below hb
           replace I := I.below hb
           replace J := J.below hb
           replace E3 := E3.below hb
           replace E4 := E4.below hb
           replace S1 := S1.below hb
           replace S2 := S2.below hb
           replace S3 := S3.below hb
           replace S4 := S4.below hb
           replace E5 := E5.below hb
           replace E6 := E6.below hb
           replace E7 := E7.below hb
           replace E8 := E8.below hb
           replace S5 := S5.below hb
           replace S6 := S6.below hb
           replace S7 := S7.below hb
           replace hr := hr.trans (hb.mono hr.size)
           have zw9 := hb.size
           clear hb v8 l8
           have t7 : Hid True := trivial)
        | (clear t7
           go_at_call 16
           refine (samew_can g4 g8 S4 S8 N4 N8 (by rw [V4.out, V8.out]) (by omega)).mono ?_
           rintro e w10 ⟨rfl, hb⟩
           replace A := A.below hb
           replace B := B.below hb
           replace E1 := E1.below hb
           replace E2 := E2.below hb
           replace I := I.below hb
           replace J := J.below hb
           replace E3 := E3.below hb
           replace E4 := E4.below hb
           replace S1 := S1.below hb
           replace S2 := S2.below hb
           replace S3 := S3.below hb
           replace S4 := S4.below hb
           replace E5 := E5.below hb
           replace E6 := E6.below hb
           replace E7 := E7.below hb
           replace E8 := E8.below hb
           replace S5 := S5.below hb
           replace S6 := S6.below hb
           replace S7 := S7.below hb
           replace S8 := S8.below hb
           replace hr := hr.trans (hb.mono hr.size)
           have zw10 := hb.size
           clear hb 
           have t8 : Hid True := trivial)
        | (clear t8
           go_at_call 32
           refine (scmp_any b d I J (by omega) (by omega)).mono ?_
           rintro e w11 ⟨rfl, hb⟩
           replace A := A.below hb
           replace B := B.below hb
           replace E1 := E1.below hb
           replace E2 := E2.below hb
           replace I := I.below hb
           replace J := J.below hb
           replace E3 := E3.below hb
           replace E4 := E4.below hb
           replace S1 := S1.below hb
           replace S2 := S2.below hb
           replace S3 := S3.below hb
           replace S4 := S4.below hb
           replace E5 := E5.below hb
           replace E6 := E6.below hb
           replace E7 := E7.below hb
           replace E8 := E8.below hb
           replace S5 := S5.below hb
           replace S6 := S6.below hb
           replace S7 := S7.below hb
           replace S8 := S8.below hb
           replace hr := hr.trans (hb.mono hr.size)
           have zw11 := hb.size
           clear hb 
           have t9 : Hid True := trivial)
        | (clear t9
           go_at_call 33
           refine (icmp_any b d A B (by omega) (by omega)).mono ?_
           rintro e w12 ⟨rfl, hb⟩
           replace A := A.below hb
           replace B := B.below hb
           replace E1 := E1.below hb
           replace E2 := E2.below hb
           replace I := I.below hb
           replace J := J.below hb
           replace E3 := E3.below hb
           replace E4 := E4.below hb
           replace S1 := S1.below hb
           replace S2 := S2.below hb
           replace S3 := S3.below hb
           replace S4 := S4.below hb
           replace E5 := E5.below hb
           replace E6 := E6.below hb
           replace E7 := E7.below hb
           replace E8 := E8.below hb
           replace S5 := S5.below hb
           replace S6 := S6.below hb
           replace S7 := S7.below hb
           replace S8 := S8.below hb
           replace hr := hr.trans (hb.mono hr.size)
           have zw12 := hb.size
           clear hb 
           have t10 : Hid True := trivial))
      replace hB := hB.trans ((Below.trans (Below.drew (Below.refl X6.heap.size X6)) hr).mono hB.size)
      replace hu := hu.trans ((Below.trans (Below.drew (Below.refl X6.heap.size X6)) hr).mono hu.size)
      clear hr hkeep t10 
      clear S5 S6 S7 S8
      obtain ⟨k0, k1, f0, f1⟩ := E5.two
      go_wp2_with fail
      clear k0 f0 k1 f1
      refine (over_spares g1 S1 (by omega)).mono ?_
      rintro e w13 ⟨rfl, hsp⟩
      replace S2 := S2.spares hsp PS1_S2.out
      replace S3 := S3.spares hsp PS1_S3.out
      replace S4 := S4.spares hsp PS1_S4.out
      replace E6 := E6.spares hsp (seg_offBox S1 E6 slice_noInt)
      replace E7 := E7.spares hsp (seg_offBox S1 E7 slice_noInt)
      replace E8 := E8.spares hsp (seg_offBox S1 E8 slice_noInt)
      replace hB := hB.trans (hsp.below (fun k hk => by have := (seg_blockOf S1 hk).1; omega))
      replace hu := hu.trans (hsp.below (fun k hk => by have := (seg_blockOf S1 hk).1; omega))
      clear hsp S1
      clear A B E1 E2 I J E3 E4 E5
      obtain ⟨k0, k1, f0, f1⟩ := E6.two
      go_wp2_with fail
      clear k0 f0 k1 f1
      refine (over_spares g2 S2 (by omega)).mono ?_
      rintro e w14 ⟨rfl, hsp⟩
      replace S3 := S3.spares hsp PS2_S3.out
      replace S4 := S4.spares hsp PS2_S4.out
      replace E7 := E7.spares hsp (seg_offBox S2 E7 slice_noInt)
      replace E8 := E8.spares hsp (seg_offBox S2 E8 slice_noInt)
      replace hB := hB.trans (hsp.below (fun k hk => by have := (seg_blockOf S2 hk).1; omega))
      replace hu := hu.trans (hsp.below (fun k hk => by have := (seg_blockOf S2 hk).1; omega))
      clear hsp S2
      clear E6
      obtain ⟨k0, k1, f0, f1⟩ := E7.two
      go_wp2_with fail
      clear k0 f0 k1 f1
      refine (over_spares g3 S3 (by omega)).mono ?_
      rintro e w15 ⟨rfl, hsp⟩
      replace S4 := S4.spares hsp PS3_S4.out
      replace E8 := E8.spares hsp (seg_offBox S3 E8 slice_noInt)
      replace hB := hB.trans (hsp.below (fun k hk => by have := (seg_blockOf S3 hk).1; omega))
      replace hu := hu.trans (hsp.below (fun k hk => by have := (seg_blockOf S3 hk).1; omega))
      clear hsp S3
      clear E7
      obtain ⟨k0, k1, f0, f1⟩ := E8.two
      go_wp2_with fail
      clear k0 f0 k1 f1
      refine (over_spares g4 S4 (by omega)).mono ?_
      rintro e w16 ⟨rfl, hsp⟩
      replace hB := hB.trans (hsp.below (fun k hk => by have := (seg_blockOf S4 hk).1; omega))
      replace hu := hu.trans (hsp.below (fun k hk => by have := (seg_blockOf S4 hk).1; omega))
      clear hsp S4
      clear E8
      have A := A_u.below hu
      have B := B_u.below hu
      have I := I_u.below hu
      have J := J_u.below hu
      have E1 := E1_u.below hu
      have E2 := E2_u.below hu
      have E3 := E3_u.below hu
      have E4 := E4_u.below hu
      have hA := Below.refl w16.heap.size w16
      obtain ⟨k0, k1, f0, f1⟩ := E1.two
      obtain ⟨k2, k3, f2, f3⟩ := E3.two
      go_wp2_with fail
      clear k0 f0 k1 f1 k2 f2 k3 f3
      refine (samew_yes b I A (by omega)).mono ?_
      rintro e w17 ⟨rfl, hb⟩
      replace A := A.below hb
      replace B := B.below hb
      replace I := I.below hb
      replace J := J.below hb
      replace E1 := E1.below hb
      replace E2 := E2.below hb
      replace E3 := E3.below hb
      replace E4 := E4.below hb
      replace hA := hA.trans (hb.mono hA.size)
      replace hB := hB.trans (hA.mono hB.size)
      replace hu := hu.trans (hA.mono hu.size)
      have zw17 := hA.size
      clear hb hA  
      have hA := Below.refl w17.heap.size w17
      obtain ⟨k0, k1, f0, f1⟩ := E2.two
      obtain ⟨k2, k3, f2, f3⟩ := E4.two
      go_wp2_with fail
      clear k0 f0 k1 f1 k2 f2 k3 f3
      refine (samew_yes d J B (by omega)).mono ?_
      rintro e w18 ⟨rfl, hb⟩
      replace A := A.below hb
      replace B := B.below hb
      replace I := I.below hb
      replace J := J.below hb
      replace E1 := E1.below hb
      replace E2 := E2.below hb
      replace E3 := E3.below hb
      replace E4 := E4.below hb
      replace hA := hA.trans (hb.mono hA.size)
      replace hB := hB.trans (hA.mono hB.size)
      replace hu := hu.trans (hA.mono hu.size)
      have zw18 := hA.size
      clear hb hA  
      have hA := Below.refl w18.heap.size w18
      go_wp2_with fail
      refine (sawake_any _).mono ?_
      rintro e w19 ⟨rfl, hb⟩
      replace A := A.below hb
      replace B := B.below hb
      replace I := I.below hb
      replace J := J.below hb
      replace E1 := E1.below hb
      replace E2 := E2.below hb
      replace E3 := E3.below hb
      replace E4 := E4.below hb
      replace hA := hA.trans (hb.mono hA.size)
      replace hB := hB.trans (hA.mono hB.size)
      replace hu := hu.trans (hA.mono hu.size)
      have zw19 := hA.size
      clear hb hA  
      go_wp2
      go_ret
      exact ⟨rfl, hB⟩

set_option maxRecDepth 100000 in
set_option maxHeartbeats 1000000 in
theorem sreckons_long (b : Bool) (a : Option Addr) (n ca : Nat) (d : Bool) (c : Option Addr) (m cc : Nat) (w : World) (h : 30 < n ∨ 30 < m) :
    Calls Try.prog 4 #[.agg #[.bool b, .slice a n ca], .agg #[.bool d, .slice c m cc]] w fun e w' => e = .returned (.bool true) ∧ Below w.heap.size w w' := by
  have hA := ((Below.refl w.heap.size w).alloc (Nat.le_refl _) (.cells #[.bool b, .slice a n ca] 25)).alloc (by simp) (.cells #[.bool d, .slice c m cc] 25)
  obtain ⟨_, e2, _, hz⟩ := two_new w (.cells #[.bool b, .slice a n ca] 25) (.cells #[.bool d, .slice c m cc] 25)
  have HZ := hide hz
  clear hz
  by_cases hn : 30 < n
  · have l1 := fun w => slong_any b a n ca w
    rw [decide_eq_true hn] at l1
    have L1 := hide l1
    clear l1 h hn
    go_enter Try.func4, Try.ntmps4
    go_wp2_with fail
    refine (L1.out _).mono ?_
    rintro e w1 ⟨rfl, hb⟩
    replace hA := hA.trans (hb.mono hA.size)
    go_wp2_with fail
    refine (sawake_any _).mono ?_
    rintro e w2 ⟨rfl, hb2⟩
    replace hA := hA.trans (hb2.mono hA.size)
    go_wp2
    go_ret
    exact ⟨rfl, hA⟩
  · have hm : 30 < m := by omega
    have l1 := fun w => slong_any b a n ca w
    rw [decide_eq_false hn] at l1
    have L1 := hide l1
    have l2 := fun w => slong_any d c m cc w
    rw [decide_eq_true hm] at l2
    have L2 := hide l2
    clear l1 l2 h hn hm
    go_enter Try.func4, Try.ntmps4
    go_wp2_with fail
    refine (L1.out _).mono ?_
    rintro e w1 ⟨rfl, hb⟩
    obtain ⟨k0, k1, _, _⟩ := two_cells e2 hb (by have := HZ.out; omega)
    replace hA := hA.trans (hb.mono hA.size)
    go_wp2_with fail
    refine (L2.out _).mono ?_
    rintro e w2 ⟨rfl, hb2⟩
    replace hA := hA.trans (hb2.mono hA.size)
    clear k0 k1
    go_wp2_with fail
    refine (sawake_any _).mono ?_
    rintro e w3 ⟨rfl, hb3⟩
    replace hA := hA.trans (hb3.mono hA.size)
    go_wp2
    go_ret
    exact ⟨rfl, hA⟩

theorem sreckons_any {a c : Option Addr} {n ca m cc : Nat} {xs ys : List Int} {w : World} (b : Bool) (A : Seg 0 w (.slice a n ca) xs) (d : Bool) (B : Seg 0 w (.slice c m cc) ys) :
    Calls Try.prog 4 #[.agg #[.bool b, .slice a n ca], .agg #[.bool d, .slice c m cc]] w fun e w' => e = .returned (.bool true) ∧ Below w.heap.size w w' := by
  by_cases h : 30 < n ∨ 30 < m
  · exact sreckons_long b a n ca d c m cc w h
  · obtain ⟨rfl, _⟩ := A.len
    obtain ⟨rfl, _⟩ := B.len
    exact sreckons_short b A d B (by omega) (by omega)
end Go.Proofs.Ytjoakmhebcfeaaa
