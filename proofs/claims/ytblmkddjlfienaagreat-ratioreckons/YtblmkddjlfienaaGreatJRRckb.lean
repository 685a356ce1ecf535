/-
  Joined: RRckb RRckc RReckons.
-/
import Derived.Test.YtblmkddjlfienaaGreatJKPower
/-
  The walk of RatioReckons.
-/
namespace Go.Proofs.YtblmkddjlfienaaGreat
open Go.RowKit

set_option maxRecDepth 100000 in
set_option maxHeartbeats 4000000 in
theorem lrreckons_b {a1 e1 : Option Addr} {c1 t1 : Nat} {x1 y1 : List Int} {a2 e2 : Option Addr} {c2 t2 : Nat} {x2 y2 : List Int} {w : World} (g1 : Bool) (F1 : Fr 0 w a1 c1 x1 e1 t1 y1) (g2 : Bool) (F2 : Fr 0 w a2 c2 x2 e2 t2 y2) (hl1 : x1.length ≤ 5 ∧ y1.length ≤ 5) (hl2 : x2.length ≤ 5 ∧ y2.length ≤ 5) (N : Int) (hN : (-12 ≤ N ∧ N ≤ 12) ∨ N < -10000 ∨ 10000 < N) (hc1 : 12 < N) (hc3 : ¬ N ≤ 10000) (hc4 : -10000 ≤ N) :
    Calls Tryz.prog 4 #[.agg #[.bool g1, .slice a1 x1.length c1, .slice e1 y1.length t1], .agg #[.bool g2, .slice a2 x2.length c2, .slice e2 y2.length t2], .int .i64 N] w fun e w' => e = .returned (.bool true) ∧ Below w.heap.size w w' := by
  have HL := long_no [⟨g1, a1, c1, x1, e1, t1, y1⟩, ⟨g2, a2, c2, x2, e2, t2, y2⟩] (by simp) (fun r hr => by
    simp only [List.mem_cons, List.not_mem_nil, or_false] at hr
    rcases hr with rfl | rfl
    · exact hl1
    · exact hl2)
  obtain ⟨cv, hcv⟩ : ∃ v, cmpS g1 x1 y1 g2 x2 y2 = v := ⟨_, rfl⟩
  obtain ⟨ce, hce⟩ : ∃ v, cmpE g1 x1 y1 g2 x2 y2 = v := ⟨_, rfl⟩
  obtain ⟨cf, hcf⟩ : ∃ v, formR g1 x1 y1 = v := ⟨_, rfl⟩
  have HC := hide hcv
  have HE := hide hce
  have HF := hide hcf
  clear hcv hce hcf
  have hB := Below.refl w.heap.size w
  go_enter Tryz.func4, Tryz.ntmps4
  have hs0 := Nat.le_refl w.heap.size
  have hq : Below w.heap.size w (w.alloc (.cells #[.bool g1, .slice a1 x1.length c1, .slice e1 y1.length t1] 30)) := (Below.refl _ _).alloc (Nat.le_refl _) _
  replace F1 := F1.below hq
  replace F2 := F2.below hq
  have E1 : Box (w.alloc (.cells #[.bool g1, .slice a1 x1.length c1, .slice e1 y1.length t1] 30)) (w.heap.size) (.cells #[.bool g1, .slice a1 x1.length c1, .slice e1 y1.length t1] 30) := Box.put (.cells #[.bool g1, .slice a1 x1.length c1, .slice e1 y1.length t1] 30) rfl
  replace hs0 := Nat.le_trans hs0 hq.size
  replace hB := hB.trans (hq.mono hB.size)
  clear hq
  have hq : Below (w.alloc (.cells #[.bool g1, .slice a1 x1.length c1, .slice e1 y1.length t1] 30)).heap.size (w.alloc (.cells #[.bool g1, .slice a1 x1.length c1, .slice e1 y1.length t1] 30)) ((w.alloc (.cells #[.bool g1, .slice a1 x1.length c1, .slice e1 y1.length t1] 30)).alloc (.cells #[.bool g2, .slice a2 x2.length c2, .slice e2 y2.length t2] 30)) := (Below.refl _ _).alloc (Nat.le_refl _) _
  replace F1 := F1.below hq
  replace F2 := F2.below hq
  replace E1 := E1.below hq
  have E2 : Box ((w.alloc (.cells #[.bool g1, .slice a1 x1.length c1, .slice e1 y1.length t1] 30)).alloc (.cells #[.bool g2, .slice a2 x2.length c2, .slice e2 y2.length t2] 30)) (w.heap.size + 1) (.cells #[.bool g2, .slice a2 x2.length c2, .slice e2 y2.length t2] 30) := Box.put (.cells #[.bool g2, .slice a2 x2.length c2, .slice e2 y2.length t2] 30) (by simp)
  replace hs0 := Nat.le_trans hs0 hq.size
  replace hB := hB.trans (hq.mono hB.size)
  clear hq
  have hq : Below ((w.alloc (.cells #[.bool g1, .slice a1 x1.length c1, .slice e1 y1.length t1] 30)).alloc (.cells #[.bool g2, .slice a2 x2.length c2, .slice e2 y2.length t2] 30)).heap.size ((w.alloc (.cells #[.bool g1, .slice a1 x1.length c1, .slice e1 y1.length t1] 30)).alloc (.cells #[.bool g2, .slice a2 x2.length c2, .slice e2 y2.length t2] 30)) (((w.alloc (.cells #[.bool g1, .slice a1 x1.length c1, .slice e1 y1.length t1] 30)).alloc (.cells #[.bool g2, .slice a2 x2.length c2, .slice e2 y2.length t2] 30)).alloc (.cells #[.bool g1, .slice a1 x1.length c1, .slice e1 y1.length t1, .bool g2, .slice a2 x2.length c2, .slice e2 y2.length t2] 30)) := (Below.refl _ _).alloc (Nat.le_refl _) _
  replace F1 := F1.below hq
  replace F2 := F2.below hq
  replace E1 := E1.below hq
  replace E2 := E2.below hq
  have L0 : Box (((w.alloc (.cells #[.bool g1, .slice a1 x1.length c1, .slice e1 y1.length t1] 30)).alloc (.cells #[.bool g2, .slice a2 x2.length c2, .slice e2 y2.length t2] 30)).alloc (.cells #[.bool g1, .slice a1 x1.length c1, .slice e1 y1.length t1, .bool g2, .slice a2 x2.length c2, .slice e2 y2.length t2] 30)) (w.heap.size + 2) (.cells #[.bool g1, .slice a1 x1.length c1, .slice e1 y1.length t1, .bool g2, .slice a2 x2.length c2, .slice e2 y2.length t2] 30) := Box.put (.cells #[.bool g1, .slice a1 x1.length c1, .slice e1 y1.length t1, .bool g2, .slice a2 x2.length c2, .slice e2 y2.length t2] 30) (by simp)
  replace hs0 := Nat.le_trans hs0 hq.size
  replace hB := hB.trans (hq.mono hB.size)
  clear hq
  go_wp2_with fail
  obtain ⟨u1, hname⟩ : ∃ u, (((w.alloc (.cells #[.bool g1, .slice a1 x1.length c1, .slice e1 y1.length t1] 30)).alloc (.cells #[.bool g2, .slice a2 x2.length c2, .slice e2 y2.length t2] 30)).alloc (.cells #[.bool g1, .slice a1 x1.length c1, .slice e1 y1.length t1, .bool g2, .slice a2 x2.length c2, .slice e2 y2.length t2] 30)) = u := ⟨_, rfl⟩
  rw [hname] at hs0 hB F1 F2 E1 E2 L0 ⊢
  have zh1 := hB.size
  have zs1 := hs0
  clear hname hs0
  have R := row_box (rs := [⟨g1, a1, c1, x1, e1, t1, y1⟩, ⟨g2, a2, c2, x2, e2, t2, y2⟩]) (k := w.heap.size + 2) L0 (fun r hr => by
      simp only [List.mem_cons, List.not_mem_nil, or_false] at hr
      rcases hr with rfl | rfl
      · exact F1.mono (Nat.zero_le _)
      · exact F2.mono (Nat.zero_le _))
  refine (lrlong_any (cap := 2) R false HL).mono ?_
  rintro e w2 ⟨rfl, hb⟩
  replace F1 := F1.below hb
  replace F2 := F2.below hb
  replace E1 := E1.below hb
  replace E2 := E2.below hb
  replace L0 := L0.below hb
  replace hB := hB.trans (hb.mono hB.size)
  have zz2 := hb.size
  have zh2 := hB.size
  clear hb
  clear R
  clear L0
  obtain ⟨k0, k1, k2, f0, f1, f2⟩ := E1.three
  obtain ⟨k3, k4, k5, f3, f4, f5⟩ := E2.three
  go_wp2_with fail
  clear k0 k1 k2 f0 f1 f2 k3 k4 k5 f3 f4 f5
  replace F1 := F1.drew
  replace F2 := F2.drew
  have qE1 := E1.lt
  replace E1 := E1.drew
  have qE2 := E2.lt
  replace E2 := E2.drew
  refine wp_yields 6 [.is (.agg #[.bool g1, .slice a1 x1.length c1, .slice e1 y1.length t1]), (Yield.copyr w2.heap.size g1 x1 y1), .is (.agg #[.bool g2, .slice a2 x2.length c2, .slice e2 y2.length t2]), (Yield.copyr w2.heap.size g2 x2 y2), (.new w2.heap.size (.cells #[.bool false, .slice none 0 0, .slice none 0 0] 30)), (.new w2.heap.size (.cells #[.bool false, .slice none 0 0, .slice none 0 0] 30))] (by kernel_rfl) (by kernel_rfl) (lt_cons ?_ (lt_cons ?_ (lt_cons ?_ (lt_cons ?_ (lt_cons ?_ (lt_cons ?_ lt_nil)))))) ?_
  case refine_1 =>
    refine OpDoes.mk rfl ?_
    intro vs V hV hd K hK
    simp only [laidIn, List.getElem_toArray, List.getElem_cons_zero, List.getElem_cons_succ, List.getElem?_toArray, List.getElem?_cons_zero, List.getElem?_cons_succ, if_true, Act.put, List.setIfInBounds_toArray, List.set_cons_zero, List.set_cons_succ] at hK ⊢
    go_simp
    exact hK.out _ _ ((Below.refl _ _).a1 _) ⟨_, rfl, Box.new _ _, hV.size⟩ (fresh_apart _ _ (fresh_new _))
  case refine_2 =>
    refine OpDoes.mk rfl ?_
    intro vs V hV hd K hK
    simp only [laidIn, List.getElem_toArray, List.getElem_cons_zero, List.getElem_cons_succ, List.getElem?_toArray, List.getElem?_cons_zero, List.getElem?_cons_succ, if_true, Act.put, List.setIfInBounds_toArray, List.set_cons_zero, List.set_cons_succ] at hK ⊢
    go_simp
    exact hK.out _ _ ((Below.refl _ _).a1 _) ⟨_, rfl, Box.new _ _, hV.size⟩ (fresh_apart _ _ (fresh_new _))
  case refine_3 =>
    refine OpDoes.mk rfl ?_
    intro vs V hV hd K hK
    have d2 : vs 2 = .agg #[.bool g2, .slice a2 x2.length c2, .slice e2 y2.length t2] := hd 2 (by decide) (by kernel_rfl)
    simp only [laidIn, List.getElem_toArray, List.getElem_cons_zero, List.getElem_cons_succ, List.getElem?_toArray, List.getElem?_cons_zero, List.getElem?_cons_succ, if_true, Act.put, List.setIfInBounds_toArray, List.set_cons_zero, List.set_cons_succ] at hK ⊢
    simp only [d2] at hK ⊢
    go_simp
    go_at_call 9
    refine (copyr_any g2 (F2.below hV) (by omega) (by omega)).mono ?_
    rintro e V' ⟨a4, c4, e4, t4, rfl, F4, hb⟩
    exact hK.out _ _ hb ⟨_, _, _, _, rfl, F4.mono hV.size⟩ (not_fresh rfl)
  case refine_4 =>
    refine OpDoes.mk rfl ?_
    intro vs V hV hd K hK
    have hcc := (E2.below hV).three
    have k0 := hcc.1
    have k1 := hcc.2.1
    have k2 := hcc.2.2.1
    clear hcc
    simp only [laidIn, List.getElem_toArray, List.getElem_cons_zero, List.getElem_cons_succ, List.getElem?_toArray, List.getElem?_cons_zero, List.getElem?_cons_succ, if_true, Act.put, List.setIfInBounds_toArray, List.set_cons_zero, List.set_cons_succ] at hK ⊢
    go_simp
    exact hK.out _ _ (Below.refl _ _) rfl (not_fresh rfl)
  case refine_5 =>
    refine OpDoes.mk rfl ?_
    intro vs V hV hd K hK
    have d0 : vs 0 = .agg #[.bool g1, .slice a1 x1.length c1, .slice e1 y1.length t1] := hd 0 (by decide) (by kernel_rfl)
    simp only [laidIn, List.getElem_toArray, List.getElem_cons_zero, List.getElem_cons_succ, List.getElem?_toArray, List.getElem?_cons_zero, List.getElem?_cons_succ, if_true, Act.put, List.setIfInBounds_toArray, List.set_cons_zero, List.set_cons_succ] at hK ⊢
    simp only [d0] at hK ⊢
    go_simp
    go_at_call 9
    refine (copyr_any g1 (F1.below hV) (by omega) (by omega)).mono ?_
    rintro e V' ⟨a3, c3, e3, t3, rfl, F3, hb⟩
    exact hK.out _ _ hb ⟨_, _, _, _, rfl, F3.mono hV.size⟩ (not_fresh rfl)
  case refine_6 =>
    refine OpDoes.mk rfl ?_
    intro vs V hV hd K hK
    have hcc := (E1.below hV).three
    have k0 := hcc.1
    have k1 := hcc.2.1
    have k2 := hcc.2.2.1
    clear hcc
    simp only [laidIn, List.getElem_toArray, List.getElem_cons_zero, List.getElem?_toArray, List.getElem?_cons_zero, List.getElem?_cons_succ, if_true, Act.put, List.setIfInBounds_toArray, List.set_cons_zero, List.set_cons_succ] at hK ⊢
    go_simp
    exact hK.out _ _ (Below.refl _ _) rfl (not_fresh rfl)
  case refine_7 =>
    intro vs Y1 hV hR hne fuel
    have d0 : vs 0 = .agg #[.bool g1, .slice a1 x1.length c1, .slice e1 y1.length t1] := hR 0 (by decide)
    have hh := fun (P : Prop) => Yield.copyr_elim P (show ((Yield.copyr w2.heap.size g1 x1 y1) : Yield).At (vs 1) Y1 from hR 1 (by decide))
    refine hh _ ?_
    intro a3 c3 e3 t3 d1 F3
    clear hh
    have d2 : vs 2 = .agg #[.bool g2, .slice a2 x2.length c2, .slice e2 y2.length t2] := hR 2 (by decide)
    have hh := fun (P : Prop) => Yield.copyr_elim P (show ((Yield.copyr w2.heap.size g2 x2 y2) : Yield).At (vs 3) Y1 from hR 3 (by decide))
    refine hh _ ?_
    intro a4 c4 e4 t4 d3 F4
    clear hh
    obtain ⟨k_E92, d4, E92, l_E92⟩ := (show ((.new w2.heap.size (.cells #[.bool false, .slice none 0 0, .slice none 0 0] 30)) : Yield).At (vs 4) Y1 from hR 4 (by decide))
    obtain ⟨k_E93, d5, E93, l_E93⟩ := (show ((.new w2.heap.size (.cells #[.bool false, .slice none 0 0, .slice none 0 0] 30)) : Yield).At (vs 5) Y1 from hR 5 (by decide))
    have n_E92_E93 : k_E92 ≠ k_E93 := new_apart (by have h := hne 4 5 (by decide) (by decide) rfl rfl (by decide); rw [d4, d5] at h; exact h)
    replace F1 := F1.below hV
    replace F2 := F2.below hV
    replace E1 := E1.below hV
    replace E2 := E2.below hV
    have hr := hV
    simp only [laidIn, List.getElem?_toArray, List.getElem?_cons_zero, List.getElem?_cons_succ, if_true, Act.put, List.setIfInBounds_toArray, List.set_cons_zero, List.set_cons_succ]
    simp only [d0, d1, d2, d3, d4, d5]
    clear hR hne hV d0 d1 d2 d3 d4 d5
    clear vs
    show wpAny _ _ _ _ (fuel + 2) _ _ _
    refine wpAny_all (rs := [6]) (by kernel_rfl) (by simp) (fun i hi => ?_)
    obtain rfl : i = 6 := by simpa using hi
    clear hi
    have hcc := E92.three
    have k0 := hcc.1
    have k1 := hcc.2.1
    have k2 := hcc.2.2.1
    have f0 := hcc.2.2.2.1
    have f1 := hcc.2.2.2.2.1
    have f2 := hcc.2.2.2.2.2
    clear hcc
    refine wpOp_step rfl (fun K hK => ?_)
    simp only [List.getElem_toArray, List.getElem_cons_zero, List.getElem_cons_succ]
    rw [if_pos (by rfl)]
    go_simp
    refine hK _ _ ?_
    clear hK k0 f0 k1 f1 k2 f2
    have hT := ((((Turns.refl (k_E92) Y1).setCell 0 (.bool g1)).setCell 1 (.slice a3 x1.length c3)).setCell 2 (.slice e3 y1.length t3))
    replace F1 := F1.beside E92 (noWord3 (fun _ e => by cases e) (fun _ e => by cases e) (fun _ e => by cases e)) hT
    replace F2 := F2.beside E92 (noWord3 (fun _ e => by cases e) (fun _ e => by cases e) (fun _ e => by cases e)) hT
    replace E1 := E1.turns hT (by omega)
    replace E2 := E2.turns hT (by omega)
    replace F3 := F3.beside E92 (noWord3 (fun _ e => by cases e) (fun _ e => by cases e) (fun _ e => by cases e)) hT
    replace F4 := F4.beside E92 (noWord3 (fun _ e => by cases e) (fun _ e => by cases e) (fun _ e => by cases e)) hT
    replace E93 := E93.turns hT (by omega)
    replace E92 : Box (((Y1.setCell ⟨k_E92, 0, none⟩ (.bool g1)).setCell ⟨k_E92, 1, none⟩ (.slice a3 x1.length c3)).setCell ⟨k_E92, 2, none⟩ (.slice e3 y1.length t3)) (k_E92) (.cells #[.bool g1, .slice a3 x1.length c3, .slice e3 y1.length t3] 30) := ⟨Nat.lt_of_lt_of_le E92.lt hT.below.size, (heap_setCell_same _ _ 2 _ _ _ (heap_setCell_same _ _ 1 _ _ _ (heap_setCell_same _ _ 0 _ _ _ E92.what)))⟩
    have hr6 := hT.below
    obtain ⟨X1, hX⟩ : ∃ X, (((Y1.setCell ⟨k_E92, 0, none⟩ (.bool g1)).setCell ⟨k_E92, 1, none⟩ (.slice a3 x1.length c3)).setCell ⟨k_E92, 2, none⟩ (.slice e3 y1.length t3)) = X := ⟨_, rfl⟩
    rw [hX] at F1 F2 E1 E2 F3 F4 E92 E93 hr6 ⊢
    clear hX hT
    refine wpAny_all (rs := [7]) (by kernel_rfl) (by simp) (fun i hi => ?_)
    obtain rfl : i = 7 := by simpa using hi
    clear hi
    have hcc := E93.three
    have k0 := hcc.1
    have k1 := hcc.2.1
    have k2 := hcc.2.2.1
    have f0 := hcc.2.2.2.1
    have f1 := hcc.2.2.2.2.1
    have f2 := hcc.2.2.2.2.2
    clear hcc
    refine wpOp_step rfl (fun K hK => ?_)
    simp only [List.getElem_toArray, List.getElem_cons_zero, List.getElem_cons_succ]
    rw [if_pos (by rfl)]
    go_simp
    refine hK _ _ ?_
    clear hK k0 f0 k1 f1 k2 f2
    have hT := ((((Turns.refl (k_E93) X1).setCell 0 (.bool g2)).setCell 1 (.slice a4 x2.length c4)).setCell 2 (.slice e4 y2.length t4))
    replace F1 := F1.beside E93 (noWord3 (fun _ e => by cases e) (fun _ e => by cases e) (fun _ e => by cases e)) hT
    replace F2 := F2.beside E93 (noWord3 (fun _ e => by cases e) (fun _ e => by cases e) (fun _ e => by cases e)) hT
    replace E1 := E1.turns hT (by omega)
    replace E2 := E2.turns hT (by omega)
    replace F3 := F3.beside E93 (noWord3 (fun _ e => by cases e) (fun _ e => by cases e) (fun _ e => by cases e)) hT
    replace F4 := F4.beside E93 (noWord3 (fun _ e => by cases e) (fun _ e => by cases e) (fun _ e => by cases e)) hT
    replace E92 := E92.turns hT (by omega)
    replace E93 : Box (((X1.setCell ⟨k_E93, 0, none⟩ (.bool g2)).setCell ⟨k_E93, 1, none⟩ (.slice a4 x2.length c4)).setCell ⟨k_E93, 2, none⟩ (.slice e4 y2.length t4)) (k_E93) (.cells #[.bool g2, .slice a4 x2.length c4, .slice e4 y2.length t4] 30) := ⟨Nat.lt_of_lt_of_le E93.lt hT.below.size, (heap_setCell_same _ _ 2 _ _ _ (heap_setCell_same _ _ 1 _ _ _ (heap_setCell_same _ _ 0 _ _ _ E93.what)))⟩
    have hr7 := hT.below
    obtain ⟨X2, hX⟩ : ∃ X, (((X1.setCell ⟨k_E93, 0, none⟩ (.bool g2)).setCell ⟨k_E93, 1, none⟩ (.slice a4 x2.length c4)).setCell ⟨k_E93, 2, none⟩ (.slice e4 y2.length t4)) = X := ⟨_, rfl⟩
    rw [hX] at F1 F2 E1 E2 F3 F4 E92 E93 hr7 ⊢
    clear hX hT
    refine wpAny_done (by kernel_rfl) ?_ _
    replace hB := hB.trans ((Below.trans (Below.drew (Below.refl w2.heap.size w2)) hr).mono hB.size)
    replace hB := hB.trans (hr6.mono (by omega))
    replace hB := hB.trans (hr7.mono (by omega))
    have zz2_2 := hr.size
    have zi1 := hB.size
    have zy2_6 := hr6.size
    have zy2_7 := hr7.size
    clear hr hr6 hr7
    have F1_M := F1
    have F2_M := F2
    have E1_M := E1
    have E2_M := E2
    have F3_M := F3
    have F4_M := F4
    have E92_M := E92
    have E93_M := E93
    have hM := Below.refl X2.heap.size X2
    obtain ⟨k0, k1, k2, f0, f1, f2⟩ := E92.three
    obtain ⟨k3, k4, k5, f3, f4, f5⟩ := E93.three
    go_wp2_with fail
    clear k0 k1 k2 f0 f1 f2 k3 k4 k5 f3 f4 f5
    refine (psub_all g1 g2 F3 F4 hl1 hl2).mono ?_
    rintro e w3 ⟨g5, a5, c5, x5, e5, t5, y5, r5, rfl, F5, P5, I5, hb⟩
    replace F1 := F1.below hb
    replace F2 := F2.below hb
    replace E1 := E1.below hb
    replace E2 := E2.below hb
    replace F3 := F3.below hb
    replace F4 := F4.below hb
    replace E92 := E92.below hb
    replace E93 := E93.below hb
    replace hB := hB.trans (hb.mono hB.size)
    replace hM := hM.trans (hb.mono hM.size)
    have zz3 := hb.size
    have zh3 := hB.size
    clear hb
    obtain ⟨k0, k1, k2, f0, f1, f2⟩ := E1.three
    obtain ⟨k3, k4, k5, f3, f4, f5⟩ := E2.three
    have qE1 := E1.lt
    have qE2 := E2.lt
    have qE92 := E92.lt
    have qE93 := E93.lt
    have hs0 := Nat.le_refl w3.heap.size
    have hq : Below w3.heap.size w3 (w3.alloc (.cells #[.bool g5, .slice a5 x5.length c5, .slice e5 y5.length t5] 30)) := (Below.refl _ _).alloc (Nat.le_refl _) _
    replace F1 := F1.below hq
    replace F2 := F2.below hq
    replace E1 := E1.below hq
    replace E2 := E2.below hq
    replace F3 := F3.below hq
    replace F4 := F4.below hq
    replace E92 := E92.below hq
    replace E93 := E93.below hq
    replace F5 := F5.below hq
    have EX : Box (w3.alloc (.cells #[.bool g5, .slice a5 x5.length c5, .slice e5 y5.length t5] 30)) (w3.heap.size) (.cells #[.bool g5, .slice a5 x5.length c5, .slice e5 y5.length t5] 30) := Box.put (.cells #[.bool g5, .slice a5 x5.length c5, .slice e5 y5.length t5] 30) rfl
    replace hs0 := Nat.le_trans hs0 hq.size
    replace hB := hB.trans (hq.mono hB.size)
    replace hM := hM.trans (hq.mono hM.size)
    clear hq
    go_wp2_with fail
    clear k0 k1 k2 f0 f1 f2 k3 k4 k5 f3 f4 f5
    obtain ⟨u4, hname⟩ : ∃ u, (w3.alloc (.cells #[.bool g5, .slice a5 x5.length c5, .slice e5 y5.length t5] 30)) = u := ⟨_, rfl⟩
    rw [hname] at hs0 hB hM F1 F2 E1 E2 F3 F4 E92 E93 F5 EX ⊢
    have zh4 := hB.size
    have zs4 := hs0
    clear hname hs0
    refine (ksub_all g1 g2 F1 F2 hl1 hl2).mono ?_
    rintro e w5 ⟨g6, a6, c6, x6, e6, t6, y6, r6, rfl, F6, P6, I6, hb⟩
    replace F1 := F1.below hb
    replace F2 := F2.below hb
    replace E1 := E1.below hb
    replace E2 := E2.below hb
    replace F3 := F3.below hb
    replace F4 := F4.below hb
    replace E92 := E92.below hb
    replace E93 := E93.below hb
    replace F5 := F5.below hb
    replace EX := EX.below hb
    replace hB := hB.trans (hb.mono hB.size)
    replace hM := hM.trans (hb.mono hM.size)
    have zz5 := hb.size
    have zh5 := hB.size
    clear hb
    obtain ⟨k0, k1, k2, f0, f1, f2⟩ := EX.three
    have qE1 := E1.lt
    have qE2 := E2.lt
    have qE92 := E92.lt
    have qE93 := E93.lt
    have qEX := EX.lt
    have hs0 := Nat.le_refl w5.heap.size
    have hq : Below w5.heap.size w5 (w5.alloc (.cells #[.bool g6, .slice a6 x6.length c6, .slice e6 y6.length t6] 30)) := (Below.refl _ _).alloc (Nat.le_refl _) _
    replace F1 := F1.below hq
    replace F2 := F2.below hq
    replace E1 := E1.below hq
    replace E2 := E2.below hq
    replace F3 := F3.below hq
    replace F4 := F4.below hq
    replace E92 := E92.below hq
    replace E93 := E93.below hq
    replace F5 := F5.below hq
    replace EX := EX.below hq
    replace F6 := F6.below hq
    have EY : Box (w5.alloc (.cells #[.bool g6, .slice a6 x6.length c6, .slice e6 y6.length t6] 30)) (w5.heap.size) (.cells #[.bool g6, .slice a6 x6.length c6, .slice e6 y6.length t6] 30) := Box.put (.cells #[.bool g6, .slice a6 x6.length c6, .slice e6 y6.length t6] 30) rfl
    replace hs0 := Nat.le_trans hs0 hq.size
    replace hB := hB.trans (hq.mono hB.size)
    replace hM := hM.trans (hq.mono hM.size)
    clear hq
    go_wp2_with fail
    clear k0 k1 k2 f0 f1 f2
    obtain ⟨u6, hname⟩ : ∃ u, (w5.alloc (.cells #[.bool g6, .slice a6 x6.length c6, .slice e6 y6.length t6] 30)) = u := ⟨_, rfl⟩
    rw [hname] at hs0 hB hM F1 F2 E1 E2 F3 F4 E92 E93 F5 EX F6 EY ⊢
    have zh6 := hB.size
    have zs6 := hs0
    clear hname hs0
    refine (lrlike_ans F5 F6 P5 I5 I6 (by omega) (by omega)).mono ?_
    rintro e w7 ⟨rfl, hov, hst⟩
    replace E1 := hst _ _ _ (noWord3 (fun _ e => by cases e) (fun _ e => by cases e) (fun _ e => by cases e)) E1
    replace E2 := hst _ _ _ (noWord3 (fun _ e => by cases e) (fun _ e => by cases e) (fun _ e => by cases e)) E2
    replace E92 := hst _ _ _ (noWord3 (fun _ e => by cases e) (fun _ e => by cases e) (fun _ e => by cases e)) E92
    replace E93 := hst _ _ _ (noWord3 (fun _ e => by cases e) (fun _ e => by cases e) (fun _ e => by cases e)) E93
    replace EX := hst _ _ _ (noWord3 (fun _ e => by cases e) (fun _ e => by cases e) (fun _ e => by cases e)) EX
    replace EY := hst _ _ _ (noWord3 (fun _ e => by cases e) (fun _ e => by cases e) (fun _ e => by cases e)) EY
    replace hB := hB.trans (hov.mono (by omega))
    replace hM := hM.trans (hov.mono (by omega))
    have zz7 := hov.size
    have zh7 := hB.size
    clear hov hst F1 F2 F3 F4 F5 F6
    have F1 := F1_M.below hM
    have F2 := F2_M.below hM
    have F3 := F3_M.below hM
    have F4 := F4_M.below hM
    clear P5 I5 P6 I6
    obtain ⟨k0, k1, k2, f0, f1, f2⟩ := E92.three
    obtain ⟨k3, k4, k5, f3, f4, f5⟩ := E93.three
    go_wp2_with fail
    clear k0 k1 k2 f0 f1 f2 k3 k4 k5 f3 f4 f5
    refine (pdiv_all g1 g2 F3 F4 hl1 hl2).mono ?_
    rintro e w8 ⟨g7, a7, c7, x7, e7, t7, y7, r7, rfl, F7, P7, I7, hb⟩
    replace E1 := E1.below hb
    replace E2 := E2.below hb
    replace E92 := E92.below hb
    replace E93 := E93.below hb
    replace EX := EX.below hb
    replace EY := EY.below hb
    replace F1 := F1.below hb
    replace F2 := F2.below hb
    replace F3 := F3.below hb
    replace F4 := F4.below hb
    replace hB := hB.trans (hb.mono hB.size)
    replace hM := hM.trans (hb.mono hM.size)
    have zz8 := hb.size
    have zh8 := hB.size
    clear hb
    obtain ⟨k0, k1, k2, f0, f1, f2⟩ := E1.three
    obtain ⟨k3, k4, k5, f3, f4, f5⟩ := E2.three
    obtain ⟨k6, k7, k8, f6, f7, f8⟩ := EX.three
    have qE1 := E1.lt
    have qE2 := E2.lt
    have qE92 := E92.lt
    have qE93 := E93.lt
    have qEX := EX.lt
    have qEY := EY.lt
    have hs0 := Nat.le_refl w8.heap.size
    have hT := ((((Turns.refl (w3.heap.size) w8).setCell 0 (.bool g7)).setCell 1 (.slice a7 x7.length c7)).setCell 2 (.slice e7 y7.length t7))
    replace E1 := E1.turns hT (by omega)
    replace E2 := E2.turns hT (by omega)
    replace E92 := E92.turns hT (by omega)
    replace E93 := E93.turns hT (by omega)
    replace EY := EY.turns hT (by omega)
    replace F1 := F1.beside EX (noWord3 (fun _ e => by cases e) (fun _ e => by cases e) (fun _ e => by cases e)) hT
    replace F2 := F2.beside EX (noWord3 (fun _ e => by cases e) (fun _ e => by cases e) (fun _ e => by cases e)) hT
    replace F3 := F3.beside EX (noWord3 (fun _ e => by cases e) (fun _ e => by cases e) (fun _ e => by cases e)) hT
    replace F4 := F4.beside EX (noWord3 (fun _ e => by cases e) (fun _ e => by cases e) (fun _ e => by cases e)) hT
    replace F7 := F7.beside EX (noWord3 (fun _ e => by cases e) (fun _ e => by cases e) (fun _ e => by cases e)) hT
    replace EX : Box (((w8.setCell ⟨w3.heap.size, 0, none⟩ (.bool g7)).setCell ⟨w3.heap.size, 1, none⟩ (.slice a7 x7.length c7)).setCell ⟨w3.heap.size, 2, none⟩ (.slice e7 y7.length t7)) (w3.heap.size) (.cells #[.bool g7, .slice a7 x7.length c7, .slice e7 y7.length t7] 30) := ⟨Nat.lt_of_lt_of_le EX.lt hT.below.size, (heap_setCell_same _ _ 2 _ _ _ (heap_setCell_same _ _ 1 _ _ _ (heap_setCell_same _ _ 0 _ _ _ EX.what)))⟩
    replace hB := hB.trans (hT.below.mono (by omega))
    replace hM := hM.trans (hT.below.mono (by omega))
    replace hs0 := Nat.le_trans hs0 hT.below.size
    clear hT
    go_wp2_with fail
    clear k0 k1 k2 f0 f1 f2 k3 k4 k5 f3 f4 f5 k6 k7 k8 f6 f7 f8
    obtain ⟨u9, hname⟩ : ∃ u, (((w8.setCell ⟨w3.heap.size, 0, none⟩ (.bool g7)).setCell ⟨w3.heap.size, 1, none⟩ (.slice a7 x7.length c7)).setCell ⟨w3.heap.size, 2, none⟩ (.slice e7 y7.length t7)) = u := ⟨_, rfl⟩
    rw [hname] at hs0 hB hM E1 E2 E92 E93 EX EY F1 F2 F3 F4 F7 ⊢
    have zh9 := hB.size
    have zs9 := hs0
    clear hname hs0
    refine (kdiv_all g1 g2 F1 F2 hl1 hl2).mono ?_
    rintro e w10 ⟨g8, a8, c8, x8, e8, t8, y8, r8, rfl, F8, P8, I8, hb⟩
    replace E1 := E1.below hb
    replace E2 := E2.below hb
    replace E92 := E92.below hb
    replace E93 := E93.below hb
    replace EX := EX.below hb
    replace EY := EY.below hb
    replace F1 := F1.below hb
    replace F2 := F2.below hb
    replace F3 := F3.below hb
    replace F4 := F4.below hb
    replace F7 := F7.below hb
    replace hB := hB.trans (hb.mono hB.size)
    replace hM := hM.trans (hb.mono hM.size)
    have zz10 := hb.size
    have zh10 := hB.size
    clear hb
    obtain ⟨k0, k1, k2, f0, f1, f2⟩ := EX.three
    obtain ⟨k3, k4, k5, f3, f4, f5⟩ := EY.three
    have qE1 := E1.lt
    have qE2 := E2.lt
    have qE92 := E92.lt
    have qE93 := E93.lt
    have qEX := EX.lt
    have qEY := EY.lt
    have hs0 := Nat.le_refl w10.heap.size
    have hT := ((((Turns.refl (w5.heap.size) w10).setCell 0 (.bool g8)).setCell 1 (.slice a8 x8.length c8)).setCell 2 (.slice e8 y8.length t8))
    replace E1 := E1.turns hT (by omega)
    replace E2 := E2.turns hT (by omega)
    replace E92 := E92.turns hT (by omega)
    replace E93 := E93.turns hT (by omega)
    replace EX := EX.turns hT (by omega)
    replace F1 := F1.beside EY (noWord3 (fun _ e => by cases e) (fun _ e => by cases e) (fun _ e => by cases e)) hT
    replace F2 := F2.beside EY (noWord3 (fun _ e => by cases e) (fun _ e => by cases e) (fun _ e => by cases e)) hT
    replace F3 := F3.beside EY (noWord3 (fun _ e => by cases e) (fun _ e => by cases e) (fun _ e => by cases e)) hT
    replace F4 := F4.beside EY (noWord3 (fun _ e => by cases e) (fun _ e => by cases e) (fun _ e => by cases e)) hT
    replace F7 := F7.beside EY (noWord3 (fun _ e => by cases e) (fun _ e => by cases e) (fun _ e => by cases e)) hT
    replace F8 := F8.beside EY (noWord3 (fun _ e => by cases e) (fun _ e => by cases e) (fun _ e => by cases e)) hT
    replace EY : Box (((w10.setCell ⟨w5.heap.size, 0, none⟩ (.bool g8)).setCell ⟨w5.heap.size, 1, none⟩ (.slice a8 x8.length c8)).setCell ⟨w5.heap.size, 2, none⟩ (.slice e8 y8.length t8)) (w5.heap.size) (.cells #[.bool g8, .slice a8 x8.length c8, .slice e8 y8.length t8] 30) := ⟨Nat.lt_of_lt_of_le EY.lt hT.below.size, (heap_setCell_same _ _ 2 _ _ _ (heap_setCell_same _ _ 1 _ _ _ (heap_setCell_same _ _ 0 _ _ _ EY.what)))⟩
    replace hB := hB.trans (hT.below.mono (by omega))
    replace hM := hM.trans (hT.below.mono (by omega))
    replace hs0 := Nat.le_trans hs0 hT.below.size
    clear hT
    go_wp2_with fail
    clear k0 k1 k2 f0 f1 f2 k3 k4 k5 f3 f4 f5
    obtain ⟨u11, hname⟩ : ∃ u, (((w10.setCell ⟨w5.heap.size, 0, none⟩ (.bool g8)).setCell ⟨w5.heap.size, 1, none⟩ (.slice a8 x8.length c8)).setCell ⟨w5.heap.size, 2, none⟩ (.slice e8 y8.length t8)) = u := ⟨_, rfl⟩
    rw [hname] at hs0 hB hM E1 E2 E92 E93 EX EY F1 F2 F3 F4 F7 F8 ⊢
    have zh11 := hB.size
    have zs11 := hs0
    clear hname hs0
    refine (lrlike_ans F7 F8 P7 I7 I8 (by omega) (by omega)).mono ?_
    rintro e w12 ⟨rfl, hov, hst⟩
    replace E1 := hst _ _ _ (noWord3 (fun _ e => by cases e) (fun _ e => by cases e) (fun _ e => by cases e)) E1
    replace E2 := hst _ _ _ (noWord3 (fun _ e => by cases e) (fun _ e => by cases e) (fun _ e => by cases e)) E2
    replace E92 := hst _ _ _ (noWord3 (fun _ e => by cases e) (fun _ e => by cases e) (fun _ e => by cases e)) E92
    replace E93 := hst _ _ _ (noWord3 (fun _ e => by cases e) (fun _ e => by cases e) (fun _ e => by cases e)) E93
    replace EX := hst _ _ _ (noWord3 (fun _ e => by cases e) (fun _ e => by cases e) (fun _ e => by cases e)) EX
    replace EY := hst _ _ _ (noWord3 (fun _ e => by cases e) (fun _ e => by cases e) (fun _ e => by cases e)) EY
    replace hB := hB.trans (hov.mono (by omega))
    replace hM := hM.trans (hov.mono (by omega))
    have zz12 := hov.size
    have zh12 := hB.size
    clear hov hst F1 F2 F3 F4 F7 F8
    have F1 := F1_M.below hM
    have F2 := F2_M.below hM
    have F3 := F3_M.below hM
    have F4 := F4_M.below hM
    clear P7 I7 P8 I8
    obtain ⟨k0, k1, k2, f0, f1, f2⟩ := E92.three
    obtain ⟨k3, k4, k5, f3, f4, f5⟩ := E93.three
    go_wp2_with fail
    clear k0 k1 k2 f0 f1 f2 k3 k4 k5 f3 f4 f5
    refine (ppower_all g1 F3 hl1 N hN).mono ?_
    rintro e w13 ⟨g9, a9, c9, x9, e9, t9, y9, r9, rfl, F9, P9, I9, hb⟩
    replace E1 := E1.below hb
    replace E2 := E2.below hb
    replace E92 := E92.below hb
    replace E93 := E93.below hb
    replace EX := EX.below hb
    replace EY := EY.below hb
    replace F1 := F1.below hb
    replace F2 := F2.below hb
    replace F3 := F3.below hb
    replace F4 := F4.below hb
    replace hB := hB.trans (hb.mono hB.size)
    replace hM := hM.trans (hb.mono hM.size)
    have zz13 := hb.size
    have zh13 := hB.size
    clear hb
    obtain ⟨k0, k1, k2, f0, f1, f2⟩ := E1.three
    obtain ⟨k3, k4, k5, f3, f4, f5⟩ := E2.three
    obtain ⟨k6, k7, k8, f6, f7, f8⟩ := EX.three
    have qE1 := E1.lt
    have qE2 := E2.lt
    have qE92 := E92.lt
    have qE93 := E93.lt
    have qEX := EX.lt
    have qEY := EY.lt
    have hs0 := Nat.le_refl w13.heap.size
    have hT := ((((Turns.refl (w3.heap.size) w13).setCell 0 (.bool g9)).setCell 1 (.slice a9 x9.length c9)).setCell 2 (.slice e9 y9.length t9))
    replace E1 := E1.turns hT (by omega)
    replace E2 := E2.turns hT (by omega)
    replace E92 := E92.turns hT (by omega)
    replace E93 := E93.turns hT (by omega)
    replace EY := EY.turns hT (by omega)
    replace F1 := F1.beside EX (noWord3 (fun _ e => by cases e) (fun _ e => by cases e) (fun _ e => by cases e)) hT
    replace F2 := F2.beside EX (noWord3 (fun _ e => by cases e) (fun _ e => by cases e) (fun _ e => by cases e)) hT
    replace F3 := F3.beside EX (noWord3 (fun _ e => by cases e) (fun _ e => by cases e) (fun _ e => by cases e)) hT
    replace F4 := F4.beside EX (noWord3 (fun _ e => by cases e) (fun _ e => by cases e) (fun _ e => by cases e)) hT
    replace F9 := F9.beside EX (noWord3 (fun _ e => by cases e) (fun _ e => by cases e) (fun _ e => by cases e)) hT
    replace EX : Box (((w13.setCell ⟨w3.heap.size, 0, none⟩ (.bool g9)).setCell ⟨w3.heap.size, 1, none⟩ (.slice a9 x9.length c9)).setCell ⟨w3.heap.size, 2, none⟩ (.slice e9 y9.length t9)) (w3.heap.size) (.cells #[.bool g9, .slice a9 x9.length c9, .slice e9 y9.length t9] 30) := ⟨Nat.lt_of_lt_of_le EX.lt hT.below.size, (heap_setCell_same _ _ 2 _ _ _ (heap_setCell_same _ _ 1 _ _ _ (heap_setCell_same _ _ 0 _ _ _ EX.what)))⟩
    replace hB := hB.trans (hT.below.mono (by omega))
    replace hM := hM.trans (hT.below.mono (by omega))
    replace hs0 := Nat.le_trans hs0 hT.below.size
    clear hT
    go_wp2_with fail
    clear k0 k1 k2 f0 f1 f2 k3 k4 k5 f3 f4 f5 k6 k7 k8 f6 f7 f8
    obtain ⟨u14, hname⟩ : ∃ u, (((w13.setCell ⟨w3.heap.size, 0, none⟩ (.bool g9)).setCell ⟨w3.heap.size, 1, none⟩ (.slice a9 x9.length c9)).setCell ⟨w3.heap.size, 2, none⟩ (.slice e9 y9.length t9)) = u := ⟨_, rfl⟩
    rw [hname] at hs0 hB hM E1 E2 E92 E93 EX EY F1 F2 F3 F4 F9 ⊢
    have zh14 := hB.size
    have zs14 := hs0
    clear hname hs0
    refine (kpower_all g1 F1 hl1 N hN).mono ?_
    rintro e w15 ⟨g10, a10, c10, x10, e10, t10, y10, r10, rfl, F10, P10, I10, hb⟩
    replace E1 := E1.below hb
    replace E2 := E2.below hb
    replace E92 := E92.below hb
    replace E93 := E93.below hb
    replace EX := EX.below hb
    replace EY := EY.below hb
    replace F1 := F1.below hb
    replace F2 := F2.below hb
    replace F3 := F3.below hb
    replace F4 := F4.below hb
    replace F9 := F9.below hb
    replace hB := hB.trans (hb.mono hB.size)
    replace hM := hM.trans (hb.mono hM.size)
    have zz15 := hb.size
    have zh15 := hB.size
    clear hb
    obtain ⟨k0, k1, k2, f0, f1, f2⟩ := EX.three
    obtain ⟨k3, k4, k5, f3, f4, f5⟩ := EY.three
    have qE1 := E1.lt
    have qE2 := E2.lt
    have qE92 := E92.lt
    have qE93 := E93.lt
    have qEX := EX.lt
    have qEY := EY.lt
    have hs0 := Nat.le_refl w15.heap.size
    have hT := ((((Turns.refl (w5.heap.size) w15).setCell 0 (.bool g10)).setCell 1 (.slice a10 x10.length c10)).setCell 2 (.slice e10 y10.length t10))
    replace E1 := E1.turns hT (by omega)
    replace E2 := E2.turns hT (by omega)
    replace E92 := E92.turns hT (by omega)
    replace E93 := E93.turns hT (by omega)
    replace EX := EX.turns hT (by omega)
    replace F1 := F1.beside EY (noWord3 (fun _ e => by cases e) (fun _ e => by cases e) (fun _ e => by cases e)) hT
    replace F2 := F2.beside EY (noWord3 (fun _ e => by cases e) (fun _ e => by cases e) (fun _ e => by cases e)) hT
    replace F3 := F3.beside EY (noWord3 (fun _ e => by cases e) (fun _ e => by cases e) (fun _ e => by cases e)) hT
    replace F4 := F4.beside EY (noWord3 (fun _ e => by cases e) (fun _ e => by cases e) (fun _ e => by cases e)) hT
    replace F9 := F9.beside EY (noWord3 (fun _ e => by cases e) (fun _ e => by cases e) (fun _ e => by cases e)) hT
    replace F10 := F10.beside EY (noWord3 (fun _ e => by cases e) (fun _ e => by cases e) (fun _ e => by cases e)) hT
    replace EY : Box (((w15.setCell ⟨w5.heap.size, 0, none⟩ (.bool g10)).setCell ⟨w5.heap.size, 1, none⟩ (.slice a10 x10.length c10)).setCell ⟨w5.heap.size, 2, none⟩ (.slice e10 y10.length t10)) (w5.heap.size) (.cells #[.bool g10, .slice a10 x10.length c10, .slice e10 y10.length t10] 30) := ⟨Nat.lt_of_lt_of_le EY.lt hT.below.size, (heap_setCell_same _ _ 2 _ _ _ (heap_setCell_same _ _ 1 _ _ _ (heap_setCell_same _ _ 0 _ _ _ EY.what)))⟩
    replace hB := hB.trans (hT.below.mono (by omega))
    replace hM := hM.trans (hT.below.mono (by omega))
    replace hs0 := Nat.le_trans hs0 hT.below.size
    clear hT
    go_wp2_with fail
    clear k0 k1 k2 f0 f1 f2 k3 k4 k5 f3 f4 f5
    obtain ⟨u16, hname⟩ : ∃ u, (((w15.setCell ⟨w5.heap.size, 0, none⟩ (.bool g10)).setCell ⟨w5.heap.size, 1, none⟩ (.slice a10 x10.length c10)).setCell ⟨w5.heap.size, 2, none⟩ (.slice e10 y10.length t10)) = u := ⟨_, rfl⟩
    rw [hname] at hs0 hB hM E1 E2 E92 E93 EX EY F1 F2 F3 F4 F9 F10 ⊢
    have zh16 := hB.size
    have zs16 := hs0
    clear hname hs0
    refine (lrlike_ans F9 F10 P9 I9 I10 (by omega) (by omega)).mono ?_
    rintro e w17 ⟨rfl, hov, hst⟩
    replace E1 := hst _ _ _ (noWord3 (fun _ e => by cases e) (fun _ e => by cases e) (fun _ e => by cases e)) E1
    replace E2 := hst _ _ _ (noWord3 (fun _ e => by cases e) (fun _ e => by cases e) (fun _ e => by cases e)) E2
    replace E92 := hst _ _ _ (noWord3 (fun _ e => by cases e) (fun _ e => by cases e) (fun _ e => by cases e)) E92
    replace E93 := hst _ _ _ (noWord3 (fun _ e => by cases e) (fun _ e => by cases e) (fun _ e => by cases e)) E93
    replace EX := hst _ _ _ (noWord3 (fun _ e => by cases e) (fun _ e => by cases e) (fun _ e => by cases e)) EX
    replace EY := hst _ _ _ (noWord3 (fun _ e => by cases e) (fun _ e => by cases e) (fun _ e => by cases e)) EY
    replace hB := hB.trans (hov.mono (by omega))
    replace hM := hM.trans (hov.mono (by omega))
    have zz17 := hov.size
    have zh17 := hB.size
    clear hov hst F1 F2 F3 F4 F9 F10
    have F1 := F1_M.below hM
    have F2 := F2_M.below hM
    have F3 := F3_M.below hM
    have F4 := F4_M.below hM
    clear P9 I9 P10 I10
    obtain ⟨k0, k1, k2, f0, f1, f2⟩ := E92.three
    obtain ⟨k3, k4, k5, f3, f4, f5⟩ := E93.three
    go_wp2_with fail
    clear k0 k1 k2 f0 f1 f2 k3 k4 k5 f3 f4 f5
    have hk := pcmp_all g1 g2 F3 F4 hl1 hl2
    rw [HC.out, HE.out] at hk
    refine (hk).mono ?_
    rintro e w18 ⟨rfl, hb⟩
    replace E1 := E1.below hb
    replace E2 := E2.below hb
    replace E92 := E92.below hb
    replace E93 := E93.below hb
    replace EX := EX.below hb
    replace EY := EY.below hb
    replace F1 := F1.below hb
    replace F2 := F2.below hb
    replace F3 := F3.below hb
    replace F4 := F4.below hb
    replace hB := hB.trans (hb.mono hB.size)
    replace hM := hM.trans (hb.mono hM.size)
    have zz18 := hb.size
    have zh18 := hB.size
    clear hb
    clear hk
    obtain ⟨k0, k1, k2, f0, f1, f2⟩ := E1.three
    obtain ⟨k3, k4, k5, f3, f4, f5⟩ := E2.three
    go_wp2_with fail
    clear k0 k1 k2 f0 f1 f2 k3 k4 k5 f3 f4 f5
    have hk := kcmp_all g1 g2 F1 F2 hl1 hl2
    rw [HC.out, HE.out] at hk
    refine (hk).mono ?_
    rintro e w19 ⟨rfl, hb⟩
    replace E1 := E1.below hb
    replace E2 := E2.below hb
    replace E92 := E92.below hb
    replace E93 := E93.below hb
    replace EX := EX.below hb
    replace EY := EY.below hb
    replace F1 := F1.below hb
    replace F2 := F2.below hb
    replace F3 := F3.below hb
    replace F4 := F4.below hb
    replace hB := hB.trans (hb.mono hB.size)
    replace hM := hM.trans (hb.mono hM.size)
    have zz19 := hb.size
    have zh19 := hB.size
    clear hb
    clear hk
    obtain ⟨k0, k1, k2, f0, f1, f2⟩ := E92.three
    go_wp2_with fail
    clear k0 k1 k2 f0 f1 f2
    have hk := pround_all g1 F3 hl1
    unfold RndSaid at hk
    rw [HF.out] at hk
    refine (hk).mono ?_
    rintro e w20 ⟨g30, a30, c30, z30, rfl, S30, N30, V30, b30, hb⟩
    replace E1 := E1.below hb
    replace E2 := E2.below hb
    replace E92 := E92.below hb
    replace E93 := E93.below hb
    replace EX := EX.below hb
    replace EY := EY.below hb
    replace F1 := F1.below hb
    replace F2 := F2.below hb
    replace F3 := F3.below hb
    replace F4 := F4.below hb
    replace hB := hB.trans (hb.mono hB.size)
    replace hM := hM.trans (hb.mono hM.size)
    have zz20 := hb.size
    have zh20 := hB.size
    clear hb
    clear hk
    obtain ⟨k0, k1, k2, f0, f1, f2⟩ := E1.three
    have qE1 := E1.lt
    have qE2 := E2.lt
    have qE92 := E92.lt
    have qE93 := E93.lt
    have qEX := EX.lt
    have qEY := EY.lt
    have hs0 := Nat.le_refl w20.heap.size
    have hq : Below w20.heap.size w20 (w20.alloc (.cells #[.bool g30, .slice a30 z30.length c30] 28)) := (Below.refl _ _).alloc (Nat.le_refl _) _
    replace E1 := E1.below hq
    replace E2 := E2.below hq
    replace E92 := E92.below hq
    replace E93 := E93.below hq
    replace EX := EX.below hq
    replace EY := EY.below hq
    replace F1 := F1.below hq
    replace F2 := F2.below hq
    replace F3 := F3.below hq
    replace F4 := F4.below hq
    replace S30 := S30.below hq
    have EP30 : Box (w20.alloc (.cells #[.bool g30, .slice a30 z30.length c30] 28)) (w20.heap.size) (.cells #[.bool g30, .slice a30 z30.length c30] 28) := Box.put (.cells #[.bool g30, .slice a30 z30.length c30] 28) rfl
    replace hs0 := Nat.le_trans hs0 hq.size
    replace hB := hB.trans (hq.mono hB.size)
    replace hM := hM.trans (hq.mono hM.size)
    clear hq
    go_wp2_with fail
    clear k0 k1 k2 f0 f1 f2
    obtain ⟨u21, hname⟩ : ∃ u, (w20.alloc (.cells #[.bool g30, .slice a30 z30.length c30] 28)) = u := ⟨_, rfl⟩
    rw [hname] at hs0 hB hM E1 E2 E92 E93 EX EY F1 F2 F3 F4 S30 EP30 ⊢
    have zh21 := hB.size
    have zs21 := hs0
    clear hname hs0
    have hk := kround_all g1 F1 hl1
    unfold RndSaid at hk
    rw [HF.out] at hk
    refine (hk).mono ?_
    rintro e w22 ⟨g31, a31, c31, z31, rfl, S31, N31, V31, b31, hb⟩
    replace E1 := E1.below hb
    replace E2 := E2.below hb
    replace E92 := E92.below hb
    replace E93 := E93.below hb
    replace EX := EX.below hb
    replace EY := EY.below hb
    replace F1 := F1.below hb
    replace F2 := F2.below hb
    replace F3 := F3.below hb
    replace F4 := F4.below hb
    replace S30 := S30.below hb
    replace EP30 := EP30.below hb
    replace hB := hB.trans (hb.mono hB.size)
    replace hM := hM.trans (hb.mono hM.size)
    have zz22 := hb.size
    have zh22 := hB.size
    clear hb
    clear hk
    obtain ⟨k0, k1, f0, f1⟩ := EP30.two
    have qE1 := E1.lt
    have qE2 := E2.lt
    have qE92 := E92.lt
    have qE93 := E93.lt
    have qEX := EX.lt
    have qEY := EY.lt
    have qEP30 := EP30.lt
    have hs0 := Nat.le_refl w22.heap.size
    have hq : Below w22.heap.size w22 (w22.alloc (.cells #[.bool g31, .slice a31 z31.length c31] 28)) := (Below.refl _ _).alloc (Nat.le_refl _) _
    replace E1 := E1.below hq
    replace E2 := E2.below hq
    replace E92 := E92.below hq
    replace E93 := E93.below hq
    replace EX := EX.below hq
    replace EY := EY.below hq
    replace F1 := F1.below hq
    replace F2 := F2.below hq
    replace F3 := F3.below hq
    replace F4 := F4.below hq
    replace S30 := S30.below hq
    replace EP30 := EP30.below hq
    replace S31 := S31.below hq
    have EP31 : Box (w22.alloc (.cells #[.bool g31, .slice a31 z31.length c31] 28)) (w22.heap.size) (.cells #[.bool g31, .slice a31 z31.length c31] 28) := Box.put (.cells #[.bool g31, .slice a31 z31.length c31] 28) rfl
    replace hs0 := Nat.le_trans hs0 hq.size
    replace hB := hB.trans (hq.mono hB.size)
    replace hM := hM.trans (hq.mono hM.size)
    clear hq
    go_wp2_with fail
    clear k0 k1 f0 f1
    obtain ⟨u23, hname⟩ : ∃ u, (w22.alloc (.cells #[.bool g31, .slice a31 z31.length c31] 28)) = u := ⟨_, rfl⟩
    rw [hname] at hs0 hB hM E1 E2 E92 E93 EX EY F1 F2 F3 F4 S30 EP30 S31 EP31 ⊢
    have zh23 := hB.size
    have zs23 := hs0
    clear hname hs0
    refine (samew_can g30 g31 S30 S31 N30 N31 (V30.out.trans V31.out.symm) (by omega)).mono ?_
    rintro e w24 ⟨rfl, hb⟩
    replace E1 := E1.below hb
    replace E2 := E2.below hb
    replace E92 := E92.below hb
    replace E93 := E93.below hb
    replace EX := EX.below hb
    replace EY := EY.below hb
    replace F1 := F1.below hb
    replace F2 := F2.below hb
    replace F3 := F3.below hb
    replace F4 := F4.below hb
    replace S30 := S30.below hb
    replace EP30 := EP30.below hb
    replace S31 := S31.below hb
    replace EP31 := EP31.below hb
    replace hB := hB.trans (hb.mono hB.size)
    replace hM := hM.trans (hb.mono hM.size)
    have zz24 := hb.size
    have zh24 := hB.size
    clear hb
    obtain ⟨k0, k1, f0, f1⟩ := EP30.two
    go_wp2_with fail
    clear k0 k1 f0 f1
    refine (overn_stay S30 (by omega)).mono ?_
    rintro e w25 ⟨rfl, hov, hst⟩
    replace E1 := hst _ _ _ (noWord3 (fun _ e => by cases e) (fun _ e => by cases e) (fun _ e => by cases e)) E1
    replace E2 := hst _ _ _ (noWord3 (fun _ e => by cases e) (fun _ e => by cases e) (fun _ e => by cases e)) E2
    replace E92 := hst _ _ _ (noWord3 (fun _ e => by cases e) (fun _ e => by cases e) (fun _ e => by cases e)) E92
    replace E93 := hst _ _ _ (noWord3 (fun _ e => by cases e) (fun _ e => by cases e) (fun _ e => by cases e)) E93
    replace EX := hst _ _ _ (noWord3 (fun _ e => by cases e) (fun _ e => by cases e) (fun _ e => by cases e)) EX
    replace EY := hst _ _ _ (noWord3 (fun _ e => by cases e) (fun _ e => by cases e) (fun _ e => by cases e)) EY
    replace EP30 := hst _ _ _ (noWord2 (fun _ e => by cases e) (fun _ e => by cases e)) EP30
    replace EP31 := hst _ _ _ (noWord2 (fun _ e => by cases e) (fun _ e => by cases e)) EP31
    replace hB := hB.trans (hov.mono (by omega))
    replace hM := hM.trans (hov.mono (by omega))
    have zz25 := hov.size
    have zh25 := hB.size
    clear hov hst F1 F2 F3 F4 S30 S31
    have F1 := F1_M.below hM
    have F2 := F2_M.below hM
    have F3 := F3_M.below hM
    have F4 := F4_M.below hM
    obtain ⟨k0, k1, k2, f0, f1, f2⟩ := E1.three
    obtain ⟨k3, k4, k5, f3, f4, f5⟩ := E92.three
    go_wp2_with fail
    clear k0 k1 k2 f0 f1 f2 k3 k4 k5 f3 f4 f5
    refine (samer_yes g1 F3 F1 (by omega) (by omega)).mono ?_
    rintro e w26 ⟨rfl, hb⟩
    replace E1 := E1.below hb
    replace E2 := E2.below hb
    replace E92 := E92.below hb
    replace E93 := E93.below hb
    replace EX := EX.below hb
    replace EY := EY.below hb
    replace EP30 := EP30.below hb
    replace EP31 := EP31.below hb
    replace F1 := F1.below hb
    replace F2 := F2.below hb
    replace F3 := F3.below hb
    replace F4 := F4.below hb
    replace hB := hB.trans (hb.mono hB.size)
    replace hM := hM.trans (hb.mono hM.size)
    have zz26 := hb.size
    have zh26 := hB.size
    clear hb
    obtain ⟨k0, k1, k2, f0, f1, f2⟩ := E2.three
    obtain ⟨k3, k4, k5, f3, f4, f5⟩ := E93.three
    go_wp2_with fail
    clear k0 k1 k2 f0 f1 f2 k3 k4 k5 f3 f4 f5
    refine (samer_yes g2 F4 F2 (by omega) (by omega)).mono ?_
    rintro e w27 ⟨rfl, hb⟩
    replace E1 := E1.below hb
    replace E2 := E2.below hb
    replace E92 := E92.below hb
    replace E93 := E93.below hb
    replace EX := EX.below hb
    replace EY := EY.below hb
    replace EP30 := EP30.below hb
    replace EP31 := EP31.below hb
    replace F1 := F1.below hb
    replace F2 := F2.below hb
    replace F3 := F3.below hb
    replace F4 := F4.below hb
    replace hB := hB.trans (hb.mono hB.size)
    replace hM := hM.trans (hb.mono hM.size)
    have zz27 := hb.size
    have zh27 := hB.size
    clear hb
    go_wp2_with fail
    refine (lrawake_any _).mono ?_
    rintro e w28 ⟨rfl, hb⟩
    replace E1 := E1.below hb
    replace E2 := E2.below hb
    replace E92 := E92.below hb
    replace E93 := E93.below hb
    replace EX := EX.below hb
    replace EY := EY.below hb
    replace EP30 := EP30.below hb
    replace EP31 := EP31.below hb
    replace F1 := F1.below hb
    replace F2 := F2.below hb
    replace F3 := F3.below hb
    replace F4 := F4.below hb
    replace hB := hB.trans (hb.mono hB.size)
    replace hM := hM.trans (hb.mono hM.size)
    have zz28 := hb.size
    have zh28 := hB.size
    clear hb
    go_wp2
    go_ret
    exact ⟨rfl, hB⟩

end Go.Proofs.YtblmkddjlfienaaGreat

/-
  The walk of RatioReckons.
-/
namespace Go.Proofs.YtblmkddjlfienaaGreat
open Go.RowKit

set_option maxRecDepth 100000 in
set_option maxHeartbeats 4000000 in
theorem lrreckons_c {a1 e1 : Option Addr} {c1 t1 : Nat} {x1 y1 : List Int} {a2 e2 : Option Addr} {c2 t2 : Nat} {x2 y2 : List Int} {w : World} (g1 : Bool) (F1 : Fr 0 w a1 c1 x1 e1 t1 y1) (g2 : Bool) (F2 : Fr 0 w a2 c2 x2 e2 t2 y2) (hl1 : x1.length ≤ 5 ∧ y1.length ≤ 5) (hl2 : x2.length ≤ 5 ∧ y2.length ≤ 5) (N : Int) (hN : (-12 ≤ N ∧ N ≤ 12) ∨ N < -10000 ∨ 10000 < N) (hc1 : ¬ 12 < N) (hc2 : N < -12) (hc3 : ¬ -10000 ≤ N) :
    Calls Tryz.prog 4 #[.agg #[.bool g1, .slice a1 x1.length c1, .slice e1 y1.length t1], .agg #[.bool g2, .slice a2 x2.length c2, .slice e2 y2.length t2], .int .i64 N] w fun e w' => e = .returned (.bool true) ∧ Below w.heap.size w w' := by
  have HL := long_no [⟨g1, a1, c1, x1, e1, t1, y1⟩, ⟨g2, a2, c2, x2, e2, t2, y2⟩] (by simp) (fun r hr => by
    simp only [List.mem_cons, List.not_mem_nil, or_false] at hr
    rcases hr with rfl | rfl
    · exact hl1
    · exact hl2)
  obtain ⟨cv, hcv⟩ : ∃ v, cmpS g1 x1 y1 g2 x2 y2 = v := ⟨_, rfl⟩
  obtain ⟨ce, hce⟩ : ∃ v, cmpE g1 x1 y1 g2 x2 y2 = v := ⟨_, rfl⟩
  obtain ⟨cf, hcf⟩ : ∃ v, formR g1 x1 y1 = v := ⟨_, rfl⟩
  have HC := hide hcv
  have HE := hide hce
  have HF := hide hcf
  clear hcv hce hcf
  have hB := Below.refl w.heap.size w
  go_enter Tryz.func4, Tryz.ntmps4
  have hs0 := Nat.le_refl w.heap.size
  have hq : Below w.heap.size w (w.alloc (.cells #[.bool g1, .slice a1 x1.length c1, .slice e1 y1.length t1] 30)) := (Below.refl _ _).alloc (Nat.le_refl _) _
  replace F1 := F1.below hq
  replace F2 := F2.below hq
  have E1 : Box (w.alloc (.cells #[.bool g1, .slice a1 x1.length c1, .slice e1 y1.length t1] 30)) (w.heap.size) (.cells #[.bool g1, .slice a1 x1.length c1, .slice e1 y1.length t1] 30) := Box.put (.cells #[.bool g1, .slice a1 x1.length c1, .slice e1 y1.length t1] 30) rfl
  replace hs0 := Nat.le_trans hs0 hq.size
  replace hB := hB.trans (hq.mono hB.size)
  clear hq
  have hq : Below (w.alloc (.cells #[.bool g1, .slice a1 x1.length c1, .slice e1 y1.length t1] 30)).heap.size (w.alloc (.cells #[.bool g1, .slice a1 x1.length c1, .slice e1 y1.length t1] 30)) ((w.alloc (.cells #[.bool g1, .slice a1 x1.length c1, .slice e1 y1.length t1] 30)).alloc (.cells #[.bool g2, .slice a2 x2.length c2, .slice e2 y2.length t2] 30)) := (Below.refl _ _).alloc (Nat.le_refl _) _
  replace F1 := F1.below hq
  replace F2 := F2.below hq
  replace E1 := E1.below hq
  have E2 : Box ((w.alloc (.cells #[.bool g1, .slice a1 x1.length c1, .slice e1 y1.length t1] 30)).alloc (.cells #[.bool g2, .slice a2 x2.length c2, .slice e2 y2.length t2] 30)) (w.heap.size + 1) (.cells #[.bool g2, .slice a2 x2.length c2, .slice e2 y2.length t2] 30) := Box.put (.cells #[.bool g2, .slice a2 x2.length c2, .slice e2 y2.length t2] 30) (by simp)
  replace hs0 := Nat.le_trans hs0 hq.size
  replace hB := hB.trans (hq.mono hB.size)
  clear hq
  have hq : Below ((w.alloc (.cells #[.bool g1, .slice a1 x1.length c1, .slice e1 y1.length t1] 30)).alloc (.cells #[.bool g2, .slice a2 x2.length c2, .slice e2 y2.length t2] 30)).heap.size ((w.alloc (.cells #[.bool g1, .slice a1 x1.length c1, .slice e1 y1.length t1] 30)).alloc (.cells #[.bool g2, .slice a2 x2.length c2, .slice e2 y2.length t2] 30)) (((w.alloc (.cells #[.bool g1, .slice a1 x1.length c1, .slice e1 y1.length t1] 30)).alloc (.cells #[.bool g2, .slice a2 x2.length c2, .slice e2 y2.length t2] 30)).alloc (.cells #[.bool g1, .slice a1 x1.length c1, .slice e1 y1.length t1, .bool g2, .slice a2 x2.length c2, .slice e2 y2.length t2] 30)) := (Below.refl _ _).alloc (Nat.le_refl _) _
  replace F1 := F1.below hq
  replace F2 := F2.below hq
  replace E1 := E1.below hq
  replace E2 := E2.below hq
  have L0 : Box (((w.alloc (.cells #[.bool g1, .slice a1 x1.length c1, .slice e1 y1.length t1] 30)).alloc (.cells #[.bool g2, .slice a2 x2.length c2, .slice e2 y2.length t2] 30)).alloc (.cells #[.bool g1, .slice a1 x1.length c1, .slice e1 y1.length t1, .bool g2, .slice a2 x2.length c2, .slice e2 y2.length t2] 30)) (w.heap.size + 2) (.cells #[.bool g1, .slice a1 x1.length c1, .slice e1 y1.length t1, .bool g2, .slice a2 x2.length c2, .slice e2 y2.length t2] 30) := Box.put (.cells #[.bool g1, .slice a1 x1.length c1, .slice e1 y1.length t1, .bool g2, .slice a2 x2.length c2, .slice e2 y2.length t2] 30) (by simp)
  replace hs0 := Nat.le_trans hs0 hq.size
  replace hB := hB.trans (hq.mono hB.size)
  clear hq
  go_wp2_with fail
  obtain ⟨u1, hname⟩ : ∃ u, (((w.alloc (.cells #[.bool g1, .slice a1 x1.length c1, .slice e1 y1.length t1] 30)).alloc (.cells #[.bool g2, .slice a2 x2.length c2, .slice e2 y2.length t2] 30)).alloc (.cells #[.bool g1, .slice a1 x1.length c1, .slice e1 y1.length t1, .bool g2, .slice a2 x2.length c2, .slice e2 y2.length t2] 30)) = u := ⟨_, rfl⟩
  rw [hname] at hs0 hB F1 F2 E1 E2 L0 ⊢
  have zh1 := hB.size
  have zs1 := hs0
  clear hname hs0
  have R := row_box (rs := [⟨g1, a1, c1, x1, e1, t1, y1⟩, ⟨g2, a2, c2, x2, e2, t2, y2⟩]) (k := w.heap.size + 2) L0 (fun r hr => by
      simp only [List.mem_cons, List.not_mem_nil, or_false] at hr
      rcases hr with rfl | rfl
      · exact F1.mono (Nat.zero_le _)
      · exact F2.mono (Nat.zero_le _))
  refine (lrlong_any (cap := 2) R false HL).mono ?_
  rintro e w2 ⟨rfl, hb⟩
  replace F1 := F1.below hb
  replace F2 := F2.below hb
  replace E1 := E1.below hb
  replace E2 := E2.below hb
  replace L0 := L0.below hb
  replace hB := hB.trans (hb.mono hB.size)
  have zz2 := hb.size
  have zh2 := hB.size
  clear hb
  clear R
  clear L0
  obtain ⟨k0, k1, k2, f0, f1, f2⟩ := E1.three
  obtain ⟨k3, k4, k5, f3, f4, f5⟩ := E2.three
  go_wp2_with fail
  clear k0 k1 k2 f0 f1 f2 k3 k4 k5 f3 f4 f5
  replace F1 := F1.drew
  replace F2 := F2.drew
  have qE1 := E1.lt
  replace E1 := E1.drew
  have qE2 := E2.lt
  replace E2 := E2.drew
  refine wp_yields 6 [.is (.agg #[.bool g1, .slice a1 x1.length c1, .slice e1 y1.length t1]), (Yield.copyr w2.heap.size g1 x1 y1), .is (.agg #[.bool g2, .slice a2 x2.length c2, .slice e2 y2.length t2]), (Yield.copyr w2.heap.size g2 x2 y2), (.new w2.heap.size (.cells #[.bool false, .slice none 0 0, .slice none 0 0] 30)), (.new w2.heap.size (.cells #[.bool false, .slice none 0 0, .slice none 0 0] 30))] (by kernel_rfl) (by kernel_rfl) (lt_cons ?_ (lt_cons ?_ (lt_cons ?_ (lt_cons ?_ (lt_cons ?_ (lt_cons ?_ lt_nil)))))) ?_
  case refine_1 =>
    refine OpDoes.mk rfl ?_
    intro vs V hV hd K hK
    simp only [laidIn, List.getElem_toArray, List.getElem_cons_zero, List.getElem_cons_succ, List.getElem?_toArray, List.getElem?_cons_zero, List.getElem?_cons_succ, if_true, Act.put, List.setIfInBounds_toArray, List.set_cons_zero, List.set_cons_succ] at hK ⊢
    go_simp
    exact hK.out _ _ ((Below.refl _ _).a1 _) ⟨_, rfl, Box.new _ _, hV.size⟩ (fresh_apart _ _ (fresh_new _))
  case refine_2 =>
    refine OpDoes.mk rfl ?_
    intro vs V hV hd K hK
    simp only [laidIn, List.getElem_toArray, List.getElem_cons_zero, List.getElem_cons_succ, List.getElem?_toArray, List.getElem?_cons_zero, List.getElem?_cons_succ, if_true, Act.put, List.setIfInBounds_toArray, List.set_cons_zero, List.set_cons_succ] at hK ⊢
    go_simp
    exact hK.out _ _ ((Below.refl _ _).a1 _) ⟨_, rfl, Box.new _ _, hV.size⟩ (fresh_apart _ _ (fresh_new _))
  case refine_3 =>
    refine OpDoes.mk rfl ?_
    intro vs V hV hd K hK
    have d2 : vs 2 = .agg #[.bool g2, .slice a2 x2.length c2, .slice e2 y2.length t2] := hd 2 (by decide) (by kernel_rfl)
    simp only [laidIn, List.getElem_toArray, List.getElem_cons_zero, List.getElem_cons_succ, List.getElem?_toArray, List.getElem?_cons_zero, List.getElem?_cons_succ, if_true, Act.put, List.setIfInBounds_toArray, List.set_cons_zero, List.set_cons_succ] at hK ⊢
    simp only [d2] at hK ⊢
    go_simp
    go_at_call 9
    refine (copyr_any g2 (F2.below hV) (by omega) (by omega)).mono ?_
    rintro e V' ⟨a4, c4, e4, t4, rfl, F4, hb⟩
    exact hK.out _ _ hb ⟨_, _, _, _, rfl, F4.mono hV.size⟩ (not_fresh rfl)
  case refine_4 =>
    refine OpDoes.mk rfl ?_
    intro vs V hV hd K hK
    have hcc := (E2.below hV).three
    have k0 := hcc.1
    have k1 := hcc.2.1
    have k2 := hcc.2.2.1
    clear hcc
    simp only [laidIn, List.getElem_toArray, List.getElem_cons_zero, List.getElem_cons_succ, List.getElem?_toArray, List.getElem?_cons_zero, List.getElem?_cons_succ, if_true, Act.put, List.setIfInBounds_toArray, List.set_cons_zero, List.set_cons_succ] at hK ⊢
    go_simp
    exact hK.out _ _ (Below.refl _ _) rfl (not_fresh rfl)
  case refine_5 =>
    refine OpDoes.mk rfl ?_
    intro vs V hV hd K hK
    have d0 : vs 0 = .agg #[.bool g1, .slice a1 x1.length c1, .slice e1 y1.length t1] := hd 0 (by decide) (by kernel_rfl)
    simp only [laidIn, List.getElem_toArray, List.getElem_cons_zero, List.getElem_cons_succ, List.getElem?_toArray, List.getElem?_cons_zero, List.getElem?_cons_succ, if_true, Act.put, List.setIfInBounds_toArray, List.set_cons_zero, List.set_cons_succ] at hK ⊢
    simp only [d0] at hK ⊢
    go_simp
    go_at_call 9
    refine (copyr_any g1 (F1.below hV) (by omega) (by omega)).mono ?_
    rintro e V' ⟨a3, c3, e3, t3, rfl, F3, hb⟩
    exact hK.out _ _ hb ⟨_, _, _, _, rfl, F3.mono hV.size⟩ (not_fresh rfl)
  case refine_6 =>
    refine OpDoes.mk rfl ?_
    intro vs V hV hd K hK
    have hcc := (E1.below hV).three
    have k0 := hcc.1
    have k1 := hcc.2.1
    have k2 := hcc.2.2.1
    clear hcc
    simp only [laidIn, List.getElem_toArray, List.getElem_cons_zero, List.getElem?_toArray, List.getElem?_cons_zero, List.getElem?_cons_succ, if_true, Act.put, List.setIfInBounds_toArray, List.set_cons_zero, List.set_cons_succ] at hK ⊢
    go_simp
    exact hK.out _ _ (Below.refl _ _) rfl (not_fresh rfl)
  case refine_7 =>
    intro vs Y1 hV hR hne fuel
    have d0 : vs 0 = .agg #[.bool g1, .slice a1 x1.length c1, .slice e1 y1.length t1] := hR 0 (by decide)
    have hh := fun (P : Prop) => Yield.copyr_elim P (show ((Yield.copyr w2.heap.size g1 x1 y1) : Yield).At (vs 1) Y1 from hR 1 (by decide))
    refine hh _ ?_
    intro a3 c3 e3 t3 d1 F3
    clear hh
    have d2 : vs 2 = .agg #[.bool g2, .slice a2 x2.length c2, .slice e2 y2.length t2] := hR 2 (by decide)
    have hh := fun (P : Prop) => Yield.copyr_elim P (show ((Yield.copyr w2.heap.size g2 x2 y2) : Yield).At (vs 3) Y1 from hR 3 (by decide))
    refine hh _ ?_
    intro a4 c4 e4 t4 d3 F4
    clear hh
    obtain ⟨k_E92, d4, E92, l_E92⟩ := (show ((.new w2.heap.size (.cells #[.bool false, .slice none 0 0, .slice none 0 0] 30)) : Yield).At (vs 4) Y1 from hR 4 (by decide))
    obtain ⟨k_E93, d5, E93, l_E93⟩ := (show ((.new w2.heap.size (.cells #[.bool false, .slice none 0 0, .slice none 0 0] 30)) : Yield).At (vs 5) Y1 from hR 5 (by decide))
    have n_E92_E93 : k_E92 ≠ k_E93 := new_apart (by have h := hne 4 5 (by decide) (by decide) rfl rfl (by decide); rw [d4, d5] at h; exact h)
    replace F1 := F1.below hV
    replace F2 := F2.below hV
    replace E1 := E1.below hV
    replace E2 := E2.below hV
    have hr := hV
    simp only [laidIn, List.getElem?_toArray, List.getElem?_cons_zero, List.getElem?_cons_succ, if_true, Act.put, List.setIfInBounds_toArray, List.set_cons_zero, List.set_cons_succ]
    simp only [d0, d1, d2, d3, d4, d5]
    clear hR hne hV d0 d1 d2 d3 d4 d5
    clear vs
    show wpAny _ _ _ _ (fuel + 2) _ _ _
    refine wpAny_all (rs := [6]) (by kernel_rfl) (by simp) (fun i hi => ?_)
    obtain rfl : i = 6 := by simpa using hi
    clear hi
    have hcc := E92.three
    have k0 := hcc.1
    have k1 := hcc.2.1
    have k2 := hcc.2.2.1
    have f0 := hcc.2.2.2.1
    have f1 := hcc.2.2.2.2.1
    have f2 := hcc.2.2.2.2.2
    clear hcc
    refine wpOp_step rfl (fun K hK => ?_)
    simp only [List.getElem_toArray, List.getElem_cons_zero, List.getElem_cons_succ]
    rw [if_pos (by rfl)]
    go_simp
    refine hK _ _ ?_
    clear hK k0 f0 k1 f1 k2 f2
    have hT := ((((Turns.refl (k_E92) Y1).setCell 0 (.bool g1)).setCell 1 (.slice a3 x1.length c3)).setCell 2 (.slice e3 y1.length t3))
    replace F1 := F1.beside E92 (noWord3 (fun _ e => by cases e) (fun _ e => by cases e) (fun _ e => by cases e)) hT
    replace F2 := F2.beside E92 (noWord3 (fun _ e => by cases e) (fun _ e => by cases e) (fun _ e => by cases e)) hT
    replace E1 := E1.turns hT (by omega)
    replace E2 := E2.turns hT (by omega)
    replace F3 := F3.beside E92 (noWord3 (fun _ e => by cases e) (fun _ e => by cases e) (fun _ e => by cases e)) hT
    replace F4 := F4.beside E92 (noWord3 (fun _ e => by cases e) (fun _ e => by cases e) (fun _ e => by cases e)) hT
    replace E93 := E93.turns hT (by omega)
    replace E92 : Box (((Y1.setCell ⟨k_E92, 0, none⟩ (.bool g1)).setCell ⟨k_E92, 1, none⟩ (.slice a3 x1.length c3)).setCell ⟨k_E92, 2, none⟩ (.slice e3 y1.length t3)) (k_E92) (.cells #[.bool g1, .slice a3 x1.length c3, .slice e3 y1.length t3] 30) := ⟨Nat.lt_of_lt_of_le E92.lt hT.below.size, (heap_setCell_same _ _ 2 _ _ _ (heap_setCell_same _ _ 1 _ _ _ (heap_setCell_same _ _ 0 _ _ _ E92.what)))⟩
    have hr6 := hT.below
    obtain ⟨X1, hX⟩ : ∃ X, (((Y1.setCell ⟨k_E92, 0, none⟩ (.bool g1)).setCell ⟨k_E92, 1, none⟩ (.slice a3 x1.length c3)).setCell ⟨k_E92, 2, none⟩ (.slice e3 y1.length t3)) = X := ⟨_, rfl⟩
    rw [hX] at F1 F2 E1 E2 F3 F4 E92 E93 hr6 ⊢
    clear hX hT
    refine wpAny_all (rs := [7]) (by kernel_rfl) (by simp) (fun i hi => ?_)
    obtain rfl : i = 7 := by simpa using hi
    clear hi
    have hcc := E93.three
    have k0 := hcc.1
    have k1 := hcc.2.1
    have k2 := hcc.2.2.1
    have f0 := hcc.2.2.2.1
    have f1 := hcc.2.2.2.2.1
    have f2 := hcc.2.2.2.2.2
    clear hcc
    refine wpOp_step rfl (fun K hK => ?_)
    simp only [List.getElem_toArray, List.getElem_cons_zero, List.getElem_cons_succ]
    rw [if_pos (by rfl)]
    go_simp
    refine hK _ _ ?_
    clear hK k0 f0 k1 f1 k2 f2
    have hT := ((((Turns.refl (k_E93) X1).setCell 0 (.bool g2)).setCell 1 (.slice a4 x2.length c4)).setCell 2 (.slice e4 y2.length t4))
    replace F1 := F1.beside E93 (noWord3 (fun _ e => by cases e) (fun _ e => by cases e) (fun _ e => by cases e)) hT
    replace F2 := F2.beside E93 (noWord3 (fun _ e => by cases e) (fun _ e => by cases e) (fun _ e => by cases e)) hT
    replace E1 := E1.turns hT (by omega)
    replace E2 := E2.turns hT (by omega)
    replace F3 := F3.beside E93 (noWord3 (fun _ e => by cases e) (fun _ e => by cases e) (fun _ e => by cases e)) hT
    replace F4 := F4.beside E93 (noWord3 (fun _ e => by cases e) (fun _ e => by cases e) (fun _ e => by cases e)) hT
    replace E92 := E92.turns hT (by omega)
    replace E93 : Box (((X1.setCell ⟨k_E93, 0, none⟩ (.bool g2)).setCell ⟨k_E93, 1, none⟩ (.slice a4 x2.length c4)).setCell ⟨k_E93, 2, none⟩ (.slice e4 y2.length t4)) (k_E93) (.cells #[.bool g2, .slice a4 x2.length c4, .slice e4 y2.length t4] 30) := ⟨Nat.lt_of_lt_of_le E93.lt hT.below.size, (heap_setCell_same _ _ 2 _ _ _ (heap_setCell_same _ _ 1 _ _ _ (heap_setCell_same _ _ 0 _ _ _ E93.what)))⟩
    have hr7 := hT.below
    obtain ⟨X2, hX⟩ : ∃ X, (((X1.setCell ⟨k_E93, 0, none⟩ (.bool g2)).setCell ⟨k_E93, 1, none⟩ (.slice a4 x2.length c4)).setCell ⟨k_E93, 2, none⟩ (.slice e4 y2.length t4)) = X := ⟨_, rfl⟩
    rw [hX] at F1 F2 E1 E2 F3 F4 E92 E93 hr7 ⊢
    clear hX hT
    refine wpAny_done (by kernel_rfl) ?_ _
    replace hB := hB.trans ((Below.trans (Below.drew (Below.refl w2.heap.size w2)) hr).mono hB.size)
    replace hB := hB.trans (hr6.mono (by omega))
    replace hB := hB.trans (hr7.mono (by omega))
    have zz2_2 := hr.size
    have zi1 := hB.size
    have zy2_6 := hr6.size
    have zy2_7 := hr7.size
    clear hr hr6 hr7
    have F1_M := F1
    have F2_M := F2
    have E1_M := E1
    have E2_M := E2
    have F3_M := F3
    have F4_M := F4
    have E92_M := E92
    have E93_M := E93
    have hM := Below.refl X2.heap.size X2
    obtain ⟨k0, k1, k2, f0, f1, f2⟩ := E92.three
    obtain ⟨k3, k4, k5, f3, f4, f5⟩ := E93.three
    go_wp2_with fail
    clear k0 k1 k2 f0 f1 f2 k3 k4 k5 f3 f4 f5
    refine (psub_all g1 g2 F3 F4 hl1 hl2).mono ?_
    rintro e w3 ⟨g5, a5, c5, x5, e5, t5, y5, r5, rfl, F5, P5, I5, hb⟩
    replace F1 := F1.below hb
    replace F2 := F2.below hb
    replace E1 := E1.below hb
    replace E2 := E2.below hb
    replace F3 := F3.below hb
    replace F4 := F4.below hb
    replace E92 := E92.below hb
    replace E93 := E93.below hb
    replace hB := hB.trans (hb.mono hB.size)
    replace hM := hM.trans (hb.mono hM.size)
    have zz3 := hb.size
    have zh3 := hB.size
    clear hb
    obtain ⟨k0, k1, k2, f0, f1, f2⟩ := E1.three
    obtain ⟨k3, k4, k5, f3, f4, f5⟩ := E2.three
    have qE1 := E1.lt
    have qE2 := E2.lt
    have qE92 := E92.lt
    have qE93 := E93.lt
    have hs0 := Nat.le_refl w3.heap.size
    have hq : Below w3.heap.size w3 (w3.alloc (.cells #[.bool g5, .slice a5 x5.length c5, .slice e5 y5.length t5] 30)) := (Below.refl _ _).alloc (Nat.le_refl _) _
    replace F1 := F1.below hq
    replace F2 := F2.below hq
    replace E1 := E1.below hq
    replace E2 := E2.below hq
    replace F3 := F3.below hq
    replace F4 := F4.below hq
    replace E92 := E92.below hq
    replace E93 := E93.below hq
    replace F5 := F5.below hq
    have EX : Box (w3.alloc (.cells #[.bool g5, .slice a5 x5.length c5, .slice e5 y5.length t5] 30)) (w3.heap.size) (.cells #[.bool g5, .slice a5 x5.length c5, .slice e5 y5.length t5] 30) := Box.put (.cells #[.bool g5, .slice a5 x5.length c5, .slice e5 y5.length t5] 30) rfl
    replace hs0 := Nat.le_trans hs0 hq.size
    replace hB := hB.trans (hq.mono hB.size)
    replace hM := hM.trans (hq.mono hM.size)
    clear hq
    go_wp2_with fail
    clear k0 k1 k2 f0 f1 f2 k3 k4 k5 f3 f4 f5
    obtain ⟨u4, hname⟩ : ∃ u, (w3.alloc (.cells #[.bool g5, .slice a5 x5.length c5, .slice e5 y5.length t5] 30)) = u := ⟨_, rfl⟩
    rw [hname] at hs0 hB hM F1 F2 E1 E2 F3 F4 E92 E93 F5 EX ⊢
    have zh4 := hB.size
    have zs4 := hs0
    clear hname hs0
    refine (ksub_all g1 g2 F1 F2 hl1 hl2).mono ?_
    rintro e w5 ⟨g6, a6, c6, x6, e6, t6, y6, r6, rfl, F6, P6, I6, hb⟩
    replace F1 := F1.below hb
    replace F2 := F2.below hb
    replace E1 := E1.below hb
    replace E2 := E2.below hb
    replace F3 := F3.below hb
    replace F4 := F4.below hb
    replace E92 := E92.below hb
    replace E93 := E93.below hb
    replace F5 := F5.below hb
    replace EX := EX.below hb
    replace hB := hB.trans (hb.mono hB.size)
    replace hM := hM.trans (hb.mono hM.size)
    have zz5 := hb.size
    have zh5 := hB.size
    clear hb
    obtain ⟨k0, k1, k2, f0, f1, f2⟩ := EX.three
    have qE1 := E1.lt
    have qE2 := E2.lt
    have qE92 := E92.lt
    have qE93 := E93.lt
    have qEX := EX.lt
    have hs0 := Nat.le_refl w5.heap.size
    have hq : Below w5.heap.size w5 (w5.alloc (.cells #[.bool g6, .slice a6 x6.length c6, .slice e6 y6.length t6] 30)) := (Below.refl _ _).alloc (Nat.le_refl _) _
    replace F1 := F1.below hq
    replace F2 := F2.below hq
    replace E1 := E1.below hq
    replace E2 := E2.below hq
    replace F3 := F3.below hq
    replace F4 := F4.below hq
    replace E92 := E92.below hq
    replace E93 := E93.below hq
    replace F5 := F5.below hq
    replace EX := EX.below hq
    replace F6 := F6.below hq
    have EY : Box (w5.alloc (.cells #[.bool g6, .slice a6 x6.length c6, .slice e6 y6.length t6] 30)) (w5.heap.size) (.cells #[.bool g6, .slice a6 x6.length c6, .slice e6 y6.length t6] 30) := Box.put (.cells #[.bool g6, .slice a6 x6.length c6, .slice e6 y6.length t6] 30) rfl
    replace hs0 := Nat.le_trans hs0 hq.size
    replace hB := hB.trans (hq.mono hB.size)
    replace hM := hM.trans (hq.mono hM.size)
    clear hq
    go_wp2_with fail
    clear k0 k1 k2 f0 f1 f2
    obtain ⟨u6, hname⟩ : ∃ u, (w5.alloc (.cells #[.bool g6, .slice a6 x6.length c6, .slice e6 y6.length t6] 30)) = u := ⟨_, rfl⟩
    rw [hname] at hs0 hB hM F1 F2 E1 E2 F3 F4 E92 E93 F5 EX F6 EY ⊢
    have zh6 := hB.size
    have zs6 := hs0
    clear hname hs0
    refine (lrlike_ans F5 F6 P5 I5 I6 (by omega) (by omega)).mono ?_
    rintro e w7 ⟨rfl, hov, hst⟩
    replace E1 := hst _ _ _ (noWord3 (fun _ e => by cases e) (fun _ e => by cases e) (fun _ e => by cases e)) E1
    replace E2 := hst _ _ _ (noWord3 (fun _ e => by cases e) (fun _ e => by cases e) (fun _ e => by cases e)) E2
    replace E92 := hst _ _ _ (noWord3 (fun _ e => by cases e) (fun _ e => by cases e) (fun _ e => by cases e)) E92
    replace E93 := hst _ _ _ (noWord3 (fun _ e => by cases e) (fun _ e => by cases e) (fun _ e => by cases e)) E93
    replace EX := hst _ _ _ (noWord3 (fun _ e => by cases e) (fun _ e => by cases e) (fun _ e => by cases e)) EX
    replace EY := hst _ _ _ (noWord3 (fun _ e => by cases e) (fun _ e => by cases e) (fun _ e => by cases e)) EY
    replace hB := hB.trans (hov.mono (by omega))
    replace hM := hM.trans (hov.mono (by omega))
    have zz7 := hov.size
    have zh7 := hB.size
    clear hov hst F1 F2 F3 F4 F5 F6
    have F1 := F1_M.below hM
    have F2 := F2_M.below hM
    have F3 := F3_M.below hM
    have F4 := F4_M.below hM
    clear P5 I5 P6 I6
    obtain ⟨k0, k1, k2, f0, f1, f2⟩ := E92.three
    obtain ⟨k3, k4, k5, f3, f4, f5⟩ := E93.three
    go_wp2_with fail
    clear k0 k1 k2 f0 f1 f2 k3 k4 k5 f3 f4 f5
    refine (pdiv_all g1 g2 F3 F4 hl1 hl2).mono ?_
    rintro e w8 ⟨g7, a7, c7, x7, e7, t7, y7, r7, rfl, F7, P7, I7, hb⟩
    replace E1 := E1.below hb
    replace E2 := E2.below hb
    replace E92 := E92.below hb
    replace E93 := E93.below hb
    replace EX := EX.below hb
    replace EY := EY.below hb
    replace F1 := F1.below hb
    replace F2 := F2.below hb
    replace F3 := F3.below hb
    replace F4 := F4.below hb
    replace hB := hB.trans (hb.mono hB.size)
    replace hM := hM.trans (hb.mono hM.size)
    have zz8 := hb.size
    have zh8 := hB.size
    clear hb
    obtain ⟨k0, k1, k2, f0, f1, f2⟩ := E1.three
    obtain ⟨k3, k4, k5, f3, f4, f5⟩ := E2.three
    obtain ⟨k6, k7, k8, f6, f7, f8⟩ := EX.three
    have qE1 := E1.lt
    have qE2 := E2.lt
    have qE92 := E92.lt
    have qE93 := E93.lt
    have qEX := EX.lt
    have qEY := EY.lt
    have hs0 := Nat.le_refl w8.heap.size
    have hT := ((((Turns.refl (w3.heap.size) w8).setCell 0 (.bool g7)).setCell 1 (.slice a7 x7.length c7)).setCell 2 (.slice e7 y7.length t7))
    replace E1 := E1.turns hT (by omega)
    replace E2 := E2.turns hT (by omega)
    replace E92 := E92.turns hT (by omega)
    replace E93 := E93.turns hT (by omega)
    replace EY := EY.turns hT (by omega)
    replace F1 := F1.beside EX (noWord3 (fun _ e => by cases e) (fun _ e => by cases e) (fun _ e => by cases e)) hT
    replace F2 := F2.beside EX (noWord3 (fun _ e => by cases e) (fun _ e => by cases e) (fun _ e => by cases e)) hT
    replace F3 := F3.beside EX (noWord3 (fun _ e => by cases e) (fun _ e => by cases e) (fun _ e => by cases e)) hT
    replace F4 := F4.beside EX (noWord3 (fun _ e => by cases e) (fun _ e => by cases e) (fun _ e => by cases e)) hT
    replace F7 := F7.beside EX (noWord3 (fun _ e => by cases e) (fun _ e => by cases e) (fun _ e => by cases e)) hT
    replace EX : Box (((w8.setCell ⟨w3.heap.size, 0, none⟩ (.bool g7)).setCell ⟨w3.heap.size, 1, none⟩ (.slice a7 x7.length c7)).setCell ⟨w3.heap.size, 2, none⟩ (.slice e7 y7.length t7)) (w3.heap.size) (.cells #[.bool g7, .slice a7 x7.length c7, .slice e7 y7.length t7] 30) := ⟨Nat.lt_of_lt_of_le EX.lt hT.below.size, (heap_setCell_same _ _ 2 _ _ _ (heap_setCell_same _ _ 1 _ _ _ (heap_setCell_same _ _ 0 _ _ _ EX.what)))⟩
    replace hB := hB.trans (hT.below.mono (by omega))
    replace hM := hM.trans (hT.below.mono (by omega))
    replace hs0 := Nat.le_trans hs0 hT.below.size
    clear hT
    go_wp2_with fail
    clear k0 k1 k2 f0 f1 f2 k3 k4 k5 f3 f4 f5 k6 k7 k8 f6 f7 f8
    obtain ⟨u9, hname⟩ : ∃ u, (((w8.setCell ⟨w3.heap.size, 0, none⟩ (.bool g7)).setCell ⟨w3.heap.size, 1, none⟩ (.slice a7 x7.length c7)).setCell ⟨w3.heap.size, 2, none⟩ (.slice e7 y7.length t7)) = u := ⟨_, rfl⟩
    rw [hname] at hs0 hB hM E1 E2 E92 E93 EX EY F1 F2 F3 F4 F7 ⊢
    have zh9 := hB.size
    have zs9 := hs0
    clear hname hs0
    refine (kdiv_all g1 g2 F1 F2 hl1 hl2).mono ?_
    rintro e w10 ⟨g8, a8, c8, x8, e8, t8, y8, r8, rfl, F8, P8, I8, hb⟩
    replace E1 := E1.below hb
    replace E2 := E2.below hb
    replace E92 := E92.below hb
    replace E93 := E93.below hb
    replace EX := EX.below hb
    replace EY := EY.below hb
    replace F1 := F1.below hb
    replace F2 := F2.below hb
    replace F3 := F3.below hb
    replace F4 := F4.below hb
    replace F7 := F7.below hb
    replace hB := hB.trans (hb.mono hB.size)
    replace hM := hM.trans (hb.mono hM.size)
    have zz10 := hb.size
    have zh10 := hB.size
    clear hb
    obtain ⟨k0, k1, k2, f0, f1, f2⟩ := EX.three
    obtain ⟨k3, k4, k5, f3, f4, f5⟩ := EY.three
    have qE1 := E1.lt
    have qE2 := E2.lt
    have qE92 := E92.lt
    have qE93 := E93.lt
    have qEX := EX.lt
    have qEY := EY.lt
    have hs0 := Nat.le_refl w10.heap.size
    have hT := ((((Turns.refl (w5.heap.size) w10).setCell 0 (.bool g8)).setCell 1 (.slice a8 x8.length c8)).setCell 2 (.slice e8 y8.length t8))
    replace E1 := E1.turns hT (by omega)
    replace E2 := E2.turns hT (by omega)
    replace E92 := E92.turns hT (by omega)
    replace E93 := E93.turns hT (by omega)
    replace EX := EX.turns hT (by omega)
    replace F1 := F1.beside EY (noWord3 (fun _ e => by cases e) (fun _ e => by cases e) (fun _ e => by cases e)) hT
    replace F2 := F2.beside EY (noWord3 (fun _ e => by cases e) (fun _ e => by cases e) (fun _ e => by cases e)) hT
    replace F3 := F3.beside EY (noWord3 (fun _ e => by cases e) (fun _ e => by cases e) (fun _ e => by cases e)) hT
    replace F4 := F4.beside EY (noWord3 (fun _ e => by cases e) (fun _ e => by cases e) (fun _ e => by cases e)) hT
    replace F7 := F7.beside EY (noWord3 (fun _ e => by cases e) (fun _ e => by cases e) (fun _ e => by cases e)) hT
    replace F8 := F8.beside EY (noWord3 (fun _ e => by cases e) (fun _ e => by cases e) (fun _ e => by cases e)) hT
    replace EY : Box (((w10.setCell ⟨w5.heap.size, 0, none⟩ (.bool g8)).setCell ⟨w5.heap.size, 1, none⟩ (.slice a8 x8.length c8)).setCell ⟨w5.heap.size, 2, none⟩ (.slice e8 y8.length t8)) (w5.heap.size) (.cells #[.bool g8, .slice a8 x8.length c8, .slice e8 y8.length t8] 30) := ⟨Nat.lt_of_lt_of_le EY.lt hT.below.size, (heap_setCell_same _ _ 2 _ _ _ (heap_setCell_same _ _ 1 _ _ _ (heap_setCell_same _ _ 0 _ _ _ EY.what)))⟩
    replace hB := hB.trans (hT.below.mono (by omega))
    replace hM := hM.trans (hT.below.mono (by omega))
    replace hs0 := Nat.le_trans hs0 hT.below.size
    clear hT
    go_wp2_with fail
    clear k0 k1 k2 f0 f1 f2 k3 k4 k5 f3 f4 f5
    obtain ⟨u11, hname⟩ : ∃ u, (((w10.setCell ⟨w5.heap.size, 0, none⟩ (.bool g8)).setCell ⟨w5.heap.size, 1, none⟩ (.slice a8 x8.length c8)).setCell ⟨w5.heap.size, 2, none⟩ (.slice e8 y8.length t8)) = u := ⟨_, rfl⟩
    rw [hname] at hs0 hB hM E1 E2 E92 E93 EX EY F1 F2 F3 F4 F7 F8 ⊢
    have zh11 := hB.size
    have zs11 := hs0
    clear hname hs0
    refine (lrlike_ans F7 F8 P7 I7 I8 (by omega) (by omega)).mono ?_
    rintro e w12 ⟨rfl, hov, hst⟩
    replace E1 := hst _ _ _ (noWord3 (fun _ e => by cases e) (fun _ e => by cases e) (fun _ e => by cases e)) E1
    replace E2 := hst _ _ _ (noWord3 (fun _ e => by cases e) (fun _ e => by cases e) (fun _ e => by cases e)) E2
    replace E92 := hst _ _ _ (noWord3 (fun _ e => by cases e) (fun _ e => by cases e) (fun _ e => by cases e)) E92
    replace E93 := hst _ _ _ (noWord3 (fun _ e => by cases e) (fun _ e => by cases e) (fun _ e => by cases e)) E93
    replace EX := hst _ _ _ (noWord3 (fun _ e => by cases e) (fun _ e => by cases e) (fun _ e => by cases e)) EX
    replace EY := hst _ _ _ (noWord3 (fun _ e => by cases e) (fun _ e => by cases e) (fun _ e => by cases e)) EY
    replace hB := hB.trans (hov.mono (by omega))
    replace hM := hM.trans (hov.mono (by omega))
    have zz12 := hov.size
    have zh12 := hB.size
    clear hov hst F1 F2 F3 F4 F7 F8
    have F1 := F1_M.below hM
    have F2 := F2_M.below hM
    have F3 := F3_M.below hM
    have F4 := F4_M.below hM
    clear P7 I7 P8 I8
    obtain ⟨k0, k1, k2, f0, f1, f2⟩ := E92.three
    obtain ⟨k3, k4, k5, f3, f4, f5⟩ := E93.three
    go_wp2_with fail
    clear k0 k1 k2 f0 f1 f2 k3 k4 k5 f3 f4 f5
    refine (ppower_all g1 F3 hl1 N hN).mono ?_
    rintro e w13 ⟨g9, a9, c9, x9, e9, t9, y9, r9, rfl, F9, P9, I9, hb⟩
    replace E1 := E1.below hb
    replace E2 := E2.below hb
    replace E92 := E92.below hb
    replace E93 := E93.below hb
    replace EX := EX.below hb
    replace EY := EY.below hb
    replace F1 := F1.below hb
    replace F2 := F2.below hb
    replace F3 := F3.below hb
    replace F4 := F4.below hb
    replace hB := hB.trans (hb.mono hB.size)
    replace hM := hM.trans (hb.mono hM.size)
    have zz13 := hb.size
    have zh13 := hB.size
    clear hb
    obtain ⟨k0, k1, k2, f0, f1, f2⟩ := E1.three
    obtain ⟨k3, k4, k5, f3, f4, f5⟩ := E2.three
    obtain ⟨k6, k7, k8, f6, f7, f8⟩ := EX.three
    have qE1 := E1.lt
    have qE2 := E2.lt
    have qE92 := E92.lt
    have qE93 := E93.lt
    have qEX := EX.lt
    have qEY := EY.lt
    have hs0 := Nat.le_refl w13.heap.size
    have hT := ((((Turns.refl (w3.heap.size) w13).setCell 0 (.bool g9)).setCell 1 (.slice a9 x9.length c9)).setCell 2 (.slice e9 y9.length t9))
    replace E1 := E1.turns hT (by omega)
    replace E2 := E2.turns hT (by omega)
    replace E92 := E92.turns hT (by omega)
    replace E93 := E93.turns hT (by omega)
    replace EY := EY.turns hT (by omega)
    replace F1 := F1.beside EX (noWord3 (fun _ e => by cases e) (fun _ e => by cases e) (fun _ e => by cases e)) hT
    replace F2 := F2.beside EX (noWord3 (fun _ e => by cases e) (fun _ e => by cases e) (fun _ e => by cases e)) hT
    replace F3 := F3.beside EX (noWord3 (fun _ e => by cases e) (fun _ e => by cases e) (fun _ e => by cases e)) hT
    replace F4 := F4.beside EX (noWord3 (fun _ e => by cases e) (fun _ e => by cases e) (fun _ e => by cases e)) hT
    replace F9 := F9.beside EX (noWord3 (fun _ e => by cases e) (fun _ e => by cases e) (fun _ e => by cases e)) hT
    replace EX : Box (((w13.setCell ⟨w3.heap.size, 0, none⟩ (.bool g9)).setCell ⟨w3.heap.size, 1, none⟩ (.slice a9 x9.length c9)).setCell ⟨w3.heap.size, 2, none⟩ (.slice e9 y9.length t9)) (w3.heap.size) (.cells #[.bool g9, .slice a9 x9.length c9, .slice e9 y9.length t9] 30) := ⟨Nat.lt_of_lt_of_le EX.lt hT.below.size, (heap_setCell_same _ _ 2 _ _ _ (heap_setCell_same _ _ 1 _ _ _ (heap_setCell_same _ _ 0 _ _ _ EX.what)))⟩
    replace hB := hB.trans (hT.below.mono (by omega))
    replace hM := hM.trans (hT.below.mono (by omega))
    replace hs0 := Nat.le_trans hs0 hT.below.size
    clear hT
    go_wp2_with fail
    clear k0 k1 k2 f0 f1 f2 k3 k4 k5 f3 f4 f5 k6 k7 k8 f6 f7 f8
    obtain ⟨u14, hname⟩ : ∃ u, (((w13.setCell ⟨w3.heap.size, 0, none⟩ (.bool g9)).setCell ⟨w3.heap.size, 1, none⟩ (.slice a9 x9.length c9)).setCell ⟨w3.heap.size, 2, none⟩ (.slice e9 y9.length t9)) = u := ⟨_, rfl⟩
    rw [hname] at hs0 hB hM E1 E2 E92 E93 EX EY F1 F2 F3 F4 F9 ⊢
    have zh14 := hB.size
    have zs14 := hs0
    clear hname hs0
    refine (kpower_all g1 F1 hl1 N hN).mono ?_
    rintro e w15 ⟨g10, a10, c10, x10, e10, t10, y10, r10, rfl, F10, P10, I10, hb⟩
    replace E1 := E1.below hb
    replace E2 := E2.below hb
    replace E92 := E92.below hb
    replace E93 := E93.below hb
    replace EX := EX.below hb
    replace EY := EY.below hb
    replace F1 := F1.below hb
    replace F2 := F2.below hb
    replace F3 := F3.below hb
    replace F4 := F4.below hb
    replace F9 := F9.below hb
    replace hB := hB.trans (hb.mono hB.size)
    replace hM := hM.trans (hb.mono hM.size)
    have zz15 := hb.size
    have zh15 := hB.size
    clear hb
    obtain ⟨k0, k1, k2, f0, f1, f2⟩ := EX.three
    obtain ⟨k3, k4, k5, f3, f4, f5⟩ := EY.three
    have qE1 := E1.lt
    have qE2 := E2.lt
    have qE92 := E92.lt
    have qE93 := E93.lt
    have qEX := EX.lt
    have qEY := EY.lt
    have hs0 := Nat.le_refl w15.heap.size
    have hT := ((((Turns.refl (w5.heap.size) w15).setCell 0 (.bool g10)).setCell 1 (.slice a10 x10.length c10)).setCell 2 (.slice e10 y10.length t10))
    replace E1 := E1.turns hT (by omega)
    replace E2 := E2.turns hT (by omega)
    replace E92 := E92.turns hT (by omega)
    replace E93 := E93.turns hT (by omega)
    replace EX := EX.turns hT (by omega)
    replace F1 := F1.beside EY (noWord3 (fun _ e => by cases e) (fun _ e => by cases e) (fun _ e => by cases e)) hT
    replace F2 := F2.beside EY (noWord3 (fun _ e => by cases e) (fun _ e => by cases e) (fun _ e => by cases e)) hT
    replace F3 := F3.beside EY (noWord3 (fun _ e => by cases e) (fun _ e => by cases e) (fun _ e => by cases e)) hT
    replace F4 := F4.beside EY (noWord3 (fun _ e => by cases e) (fun _ e => by cases e) (fun _ e => by cases e)) hT
    replace F9 := F9.beside EY (noWord3 (fun _ e => by cases e) (fun _ e => by cases e) (fun _ e => by cases e)) hT
    replace F10 := F10.beside EY (noWord3 (fun _ e => by cases e) (fun _ e => by cases e) (fun _ e => by cases e)) hT
    replace EY : Box (((w15.setCell ⟨w5.heap.size, 0, none⟩ (.bool g10)).setCell ⟨w5.heap.size, 1, none⟩ (.slice a10 x10.length c10)).setCell ⟨w5.heap.size, 2, none⟩ (.slice e10 y10.length t10)) (w5.heap.size) (.cells #[.bool g10, .slice a10 x10.length c10, .slice e10 y10.length t10] 30) := ⟨Nat.lt_of_lt_of_le EY.lt hT.below.size, (heap_setCell_same _ _ 2 _ _ _ (heap_setCell_same _ _ 1 _ _ _ (heap_setCell_same _ _ 0 _ _ _ EY.what)))⟩
    replace hB := hB.trans (hT.below.mono (by omega))
    replace hM := hM.trans (hT.below.mono (by omega))
    replace hs0 := Nat.le_trans hs0 hT.below.size
    clear hT
    go_wp2_with fail
    clear k0 k1 k2 f0 f1 f2 k3 k4 k5 f3 f4 f5
    obtain ⟨u16, hname⟩ : ∃ u, (((w15.setCell ⟨w5.heap.size, 0, none⟩ (.bool g10)).setCell ⟨w5.heap.size, 1, none⟩ (.slice a10 x10.length c10)).setCell ⟨w5.heap.size, 2, none⟩ (.slice e10 y10.length t10)) = u := ⟨_, rfl⟩
    rw [hname] at hs0 hB hM E1 E2 E92 E93 EX EY F1 F2 F3 F4 F9 F10 ⊢
    have zh16 := hB.size
    have zs16 := hs0
    clear hname hs0
    refine (lrlike_ans F9 F10 P9 I9 I10 (by omega) (by omega)).mono ?_
    rintro e w17 ⟨rfl, hov, hst⟩
    replace E1 := hst _ _ _ (noWord3 (fun _ e => by cases e) (fun _ e => by cases e) (fun _ e => by cases e)) E1
    replace E2 := hst _ _ _ (noWord3 (fun _ e => by cases e) (fun _ e => by cases e) (fun _ e => by cases e)) E2
    replace E92 := hst _ _ _ (noWord3 (fun _ e => by cases e) (fun _ e => by cases e) (fun _ e => by cases e)) E92
    replace E93 := hst _ _ _ (noWord3 (fun _ e => by cases e) (fun _ e => by cases e) (fun _ e => by cases e)) E93
    replace EX := hst _ _ _ (noWord3 (fun _ e => by cases e) (fun _ e => by cases e) (fun _ e => by cases e)) EX
    replace EY := hst _ _ _ (noWord3 (fun _ e => by cases e) (fun _ e => by cases e) (fun _ e => by cases e)) EY
    replace hB := hB.trans (hov.mono (by omega))
    replace hM := hM.trans (hov.mono (by omega))
    have zz17 := hov.size
    have zh17 := hB.size
    clear hov hst F1 F2 F3 F4 F9 F10
    have F1 := F1_M.below hM
    have F2 := F2_M.below hM
    have F3 := F3_M.below hM
    have F4 := F4_M.below hM
    clear P9 I9 P10 I10
    obtain ⟨k0, k1, k2, f0, f1, f2⟩ := E92.three
    obtain ⟨k3, k4, k5, f3, f4, f5⟩ := E93.three
    go_wp2_with fail
    clear k0 k1 k2 f0 f1 f2 k3 k4 k5 f3 f4 f5
    have hk := pcmp_all g1 g2 F3 F4 hl1 hl2
    rw [HC.out, HE.out] at hk
    refine (hk).mono ?_
    rintro e w18 ⟨rfl, hb⟩
    replace E1 := E1.below hb
    replace E2 := E2.below hb
    replace E92 := E92.below hb
    replace E93 := E93.below hb
    replace EX := EX.below hb
    replace EY := EY.below hb
    replace F1 := F1.below hb
    replace F2 := F2.below hb
    replace F3 := F3.below hb
    replace F4 := F4.below hb
    replace hB := hB.trans (hb.mono hB.size)
    replace hM := hM.trans (hb.mono hM.size)
    have zz18 := hb.size
    have zh18 := hB.size
    clear hb
    clear hk
    obtain ⟨k0, k1, k2, f0, f1, f2⟩ := E1.three
    obtain ⟨k3, k4, k5, f3, f4, f5⟩ := E2.three
    go_wp2_with fail
    clear k0 k1 k2 f0 f1 f2 k3 k4 k5 f3 f4 f5
    have hk := kcmp_all g1 g2 F1 F2 hl1 hl2
    rw [HC.out, HE.out] at hk
    refine (hk).mono ?_
    rintro e w19 ⟨rfl, hb⟩
    replace E1 := E1.below hb
    replace E2 := E2.below hb
    replace E92 := E92.below hb
    replace E93 := E93.below hb
    replace EX := EX.below hb
    replace EY := EY.below hb
    replace F1 := F1.below hb
    replace F2 := F2.below hb
    replace F3 := F3.below hb
    replace F4 := F4.below hb
    replace hB := hB.trans (hb.mono hB.size)
    replace hM := hM.trans (hb.mono hM.size)
    have zz19 := hb.size
    have zh19 := hB.size
    clear hb
    clear hk
    obtain ⟨k0, k1, k2, f0, f1, f2⟩ := E92.three
    go_wp2_with fail
    clear k0 k1 k2 f0 f1 f2
    have hk := pround_all g1 F3 hl1
    unfold RndSaid at hk
    rw [HF.out] at hk
    refine (hk).mono ?_
    rintro e w20 ⟨g30, a30, c30, z30, rfl, S30, N30, V30, b30, hb⟩
    replace E1 := E1.below hb
    replace E2 := E2.below hb
    replace E92 := E92.below hb
    replace E93 := E93.below hb
    replace EX := EX.below hb
    replace EY := EY.below hb
    replace F1 := F1.below hb
    replace F2 := F2.below hb
    replace F3 := F3.below hb
    replace F4 := F4.below hb
    replace hB := hB.trans (hb.mono hB.size)
    replace hM := hM.trans (hb.mono hM.size)
    have zz20 := hb.size
    have zh20 := hB.size
    clear hb
    clear hk
    obtain ⟨k0, k1, k2, f0, f1, f2⟩ := E1.three
    have qE1 := E1.lt
    have qE2 := E2.lt
    have qE92 := E92.lt
    have qE93 := E93.lt
    have qEX := EX.lt
    have qEY := EY.lt
    have hs0 := Nat.le_refl w20.heap.size
    have hq : Below w20.heap.size w20 (w20.alloc (.cells #[.bool g30, .slice a30 z30.length c30] 28)) := (Below.refl _ _).alloc (Nat.le_refl _) _
    replace E1 := E1.below hq
    replace E2 := E2.below hq
    replace E92 := E92.below hq
    replace E93 := E93.below hq
    replace EX := EX.below hq
    replace EY := EY.below hq
    replace F1 := F1.below hq
    replace F2 := F2.below hq
    replace F3 := F3.below hq
    replace F4 := F4.below hq
    replace S30 := S30.below hq
    have EP30 : Box (w20.alloc (.cells #[.bool g30, .slice a30 z30.length c30] 28)) (w20.heap.size) (.cells #[.bool g30, .slice a30 z30.length c30] 28) := Box.put (.cells #[.bool g30, .slice a30 z30.length c30] 28) rfl
    replace hs0 := Nat.le_trans hs0 hq.size
    replace hB := hB.trans (hq.mono hB.size)
    replace hM := hM.trans (hq.mono hM.size)
    clear hq
    go_wp2_with fail
    clear k0 k1 k2 f0 f1 f2
    obtain ⟨u21, hname⟩ : ∃ u, (w20.alloc (.cells #[.bool g30, .slice a30 z30.length c30] 28)) = u := ⟨_, rfl⟩
    rw [hname] at hs0 hB hM E1 E2 E92 E93 EX EY F1 F2 F3 F4 S30 EP30 ⊢
    have zh21 := hB.size
    have zs21 := hs0
    clear hname hs0
    have hk := kround_all g1 F1 hl1
    unfold RndSaid at hk
    rw [HF.out] at hk
    refine (hk).mono ?_
    rintro e w22 ⟨g31, a31, c31, z31, rfl, S31, N31, V31, b31, hb⟩
    replace E1 := E1.below hb
    replace E2 := E2.below hb
    replace E92 := E92.below hb
    replace E93 := E93.below hb
    replace EX := EX.below hb
    replace EY := EY.below hb
    replace F1 := F1.below hb
    replace F2 := F2.below hb
    replace F3 := F3.below hb
    replace F4 := F4.below hb
    replace S30 := S30.below hb
    replace EP30 := EP30.below hb
    replace hB := hB.trans (hb.mono hB.size)
    replace hM := hM.trans (hb.mono hM.size)
    have zz22 := hb.size
    have zh22 := hB.size
    clear hb
    clear hk
    obtain ⟨k0, k1, f0, f1⟩ := EP30.two
    have qE1 := E1.lt
    have qE2 := E2.lt
    have qE92 := E92.lt
    have qE93 := E93.lt
    have qEX := EX.lt
    have qEY := EY.lt
    have qEP30 := EP30.lt
    have hs0 := Nat.le_refl w22.heap.size
    have hq : Below w22.heap.size w22 (w22.alloc (.cells #[.bool g31, .slice a31 z31.length c31] 28)) := (Below.refl _ _).alloc (Nat.le_refl _) _
    replace E1 := E1.below hq
    replace E2 := E2.below hq
    replace E92 := E92.below hq
    replace E93 := E93.below hq
    replace EX := EX.below hq
    replace EY := EY.below hq
    replace F1 := F1.below hq
    replace F2 := F2.below hq
    replace F3 := F3.below hq
    replace F4 := F4.below hq
    replace S30 := S30.below hq
    replace EP30 := EP30.below hq
    replace S31 := S31.below hq
    have EP31 : Box (w22.alloc (.cells #[.bool g31, .slice a31 z31.length c31] 28)) (w22.heap.size) (.cells #[.bool g31, .slice a31 z31.length c31] 28) := Box.put (.cells #[.bool g31, .slice a31 z31.length c31] 28) rfl
    replace hs0 := Nat.le_trans hs0 hq.size
    replace hB := hB.trans (hq.mono hB.size)
    replace hM := hM.trans (hq.mono hM.size)
    clear hq
    go_wp2_with fail
    clear k0 k1 f0 f1
    obtain ⟨u23, hname⟩ : ∃ u, (w22.alloc (.cells #[.bool g31, .slice a31 z31.length c31] 28)) = u := ⟨_, rfl⟩
    rw [hname] at hs0 hB hM E1 E2 E92 E93 EX EY F1 F2 F3 F4 S30 EP30 S31 EP31 ⊢
    have zh23 := hB.size
    have zs23 := hs0
    clear hname hs0
    refine (samew_can g30 g31 S30 S31 N30 N31 (V30.out.trans V31.out.symm) (by omega)).mono ?_
    rintro e w24 ⟨rfl, hb⟩
    replace E1 := E1.below hb
    replace E2 := E2.below hb
    replace E92 := E92.below hb
    replace E93 := E93.below hb
    replace EX := EX.below hb
    replace EY := EY.below hb
    replace F1 := F1.below hb
    replace F2 := F2.below hb
    replace F3 := F3.below hb
    replace F4 := F4.below hb
    replace S30 := S30.below hb
    replace EP30 := EP30.below hb
    replace S31 := S31.below hb
    replace EP31 := EP31.below hb
    replace hB := hB.trans (hb.mono hB.size)
    replace hM := hM.trans (hb.mono hM.size)
    have zz24 := hb.size
    have zh24 := hB.size
    clear hb
    obtain ⟨k0, k1, f0, f1⟩ := EP30.two
    go_wp2_with fail
    clear k0 k1 f0 f1
    refine (overn_stay S30 (by omega)).mono ?_
    rintro e w25 ⟨rfl, hov, hst⟩
    replace E1 := hst _ _ _ (noWord3 (fun _ e => by cases e) (fun _ e => by cases e) (fun _ e => by cases e)) E1
    replace E2 := hst _ _ _ (noWord3 (fun _ e => by cases e) (fun _ e => by cases e) (fun _ e => by cases e)) E2
    replace E92 := hst _ _ _ (noWord3 (fun _ e => by cases e) (fun _ e => by cases e) (fun _ e => by cases e)) E92
    replace E93 := hst _ _ _ (noWord3 (fun _ e => by cases e) (fun _ e => by cases e) (fun _ e => by cases e)) E93
    replace EX := hst _ _ _ (noWord3 (fun _ e => by cases e) (fun _ e => by cases e) (fun _ e => by cases e)) EX
    replace EY := hst _ _ _ (noWord3 (fun _ e => by cases e) (fun _ e => by cases e) (fun _ e => by cases e)) EY
    replace EP30 := hst _ _ _ (noWord2 (fun _ e => by cases e) (fun _ e => by cases e)) EP30
    replace EP31 := hst _ _ _ (noWord2 (fun _ e => by cases e) (fun _ e => by cases e)) EP31
    replace hB := hB.trans (hov.mono (by omega))
    replace hM := hM.trans (hov.mono (by omega))
    have zz25 := hov.size
    have zh25 := hB.size
    clear hov hst F1 F2 F3 F4 S30 S31
    have F1 := F1_M.below hM
    have F2 := F2_M.below hM
    have F3 := F3_M.below hM
    have F4 := F4_M.below hM
    obtain ⟨k0, k1, k2, f0, f1, f2⟩ := E1.three
    obtain ⟨k3, k4, k5, f3, f4, f5⟩ := E92.three
    go_wp2_with fail
    clear k0 k1 k2 f0 f1 f2 k3 k4 k5 f3 f4 f5
    refine (samer_yes g1 F3 F1 (by omega) (by omega)).mono ?_
    rintro e w26 ⟨rfl, hb⟩
    replace E1 := E1.below hb
    replace E2 := E2.below hb
    replace E92 := E92.below hb
    replace E93 := E93.below hb
    replace EX := EX.below hb
    replace EY := EY.below hb
    replace EP30 := EP30.below hb
    replace EP31 := EP31.below hb
    replace F1 := F1.below hb
    replace F2 := F2.below hb
    replace F3 := F3.below hb
    replace F4 := F4.below hb
    replace hB := hB.trans (hb.mono hB.size)
    replace hM := hM.trans (hb.mono hM.size)
    have zz26 := hb.size
    have zh26 := hB.size
    clear hb
    obtain ⟨k0, k1, k2, f0, f1, f2⟩ := E2.three
    obtain ⟨k3, k4, k5, f3, f4, f5⟩ := E93.three
    go_wp2_with fail
    clear k0 k1 k2 f0 f1 f2 k3 k4 k5 f3 f4 f5
    refine (samer_yes g2 F4 F2 (by omega) (by omega)).mono ?_
    rintro e w27 ⟨rfl, hb⟩
    replace E1 := E1.below hb
    replace E2 := E2.below hb
    replace E92 := E92.below hb
    replace E93 := E93.below hb
    replace EX := EX.below hb
    replace EY := EY.below hb
    replace EP30 := EP30.below hb
    replace EP31 := EP31.below hb
    replace F1 := F1.below hb
    replace F2 := F2.below hb
    replace F3 := F3.below hb
    replace F4 := F4.below hb
    replace hB := hB.trans (hb.mono hB.size)
    replace hM := hM.trans (hb.mono hM.size)
    have zz27 := hb.size
    have zh27 := hB.size
    clear hb
    go_wp2_with fail
    refine (lrawake_any _).mono ?_
    rintro e w28 ⟨rfl, hb⟩
    replace E1 := E1.below hb
    replace E2 := E2.below hb
    replace E92 := E92.below hb
    replace E93 := E93.below hb
    replace EX := EX.below hb
    replace EY := EY.below hb
    replace EP30 := EP30.below hb
    replace EP31 := EP31.below hb
    replace F1 := F1.below hb
    replace F2 := F2.below hb
    replace F3 := F3.below hb
    replace F4 := F4.below hb
    replace hB := hB.trans (hb.mono hB.size)
    replace hM := hM.trans (hb.mono hM.size)
    have zz28 := hb.size
    have zh28 := hB.size
    clear hb
    go_wp2
    go_ret
    exact ⟨rfl, hB⟩

end Go.Proofs.YtblmkddjlfienaaGreat

/-
  The walk of RatioReckons.
-/
namespace Go.Proofs.YtblmkddjlfienaaGreat
open Go.RowKit

theorem lrreckons_any {a1 e1 : Option Addr} {c1 t1 : Nat} {x1 y1 : List Int} {a2 e2 : Option Addr} {c2 t2 : Nat} {x2 y2 : List Int} {w : World} (g1 : Bool) (F1 : Fr 0 w a1 c1 x1 e1 t1 y1) (g2 : Bool) (F2 : Fr 0 w a2 c2 x2 e2 t2 y2) (N : Int) (_hN : -9223372036854775808 ≤ N ∧ N ≤ 9223372036854775807) :
    Calls Tryz.prog 4 #[.agg #[.bool g1, .slice a1 x1.length c1, .slice e1 y1.length t1], .agg #[.bool g2, .slice a2 x2.length c2, .slice e2 y2.length t2], .int .i64 N] w fun e w' => e = .returned (.bool true) ∧ Below w.heap.size w w' := by
  by_cases h1 : x1.length ≤ 5 ∧ y1.length ≤ 5
  · by_cases h2 : x2.length ≤ 5 ∧ y2.length ≤ 5
    · by_cases k1 : 12 < N
      · by_cases k2 : N ≤ 10000
        · exact lrreckons_up g1 F1 g2 F2 h1 h2 N k1 k2 (by omega)
        · exact lrreckons_b g1 F1 g2 F2 h1 h2 N (by omega) k1 k2 (by omega)
      · by_cases k2 : N < -12
        · by_cases k3 : -10000 ≤ N
          · exact lrreckons_down g1 F1 g2 F2 h1 h2 N k1 k2 (by omega) k3
          · exact lrreckons_c g1 F1 g2 F2 h1 h2 N (by omega) k1 k2 k3
        · exact lrreckons_a g1 F1 g2 F2 h1 h2 N (by omega) k1 k2
    · exact lrreckons_long g1 F1 g2 F2 N (long_yes _ ⟨_, List.mem_cons_of_mem _ (List.mem_cons_self ..), h2⟩)
  · exact lrreckons_long g1 F1 g2 F2 N (long_yes _ ⟨_, List.mem_cons_self .., h1⟩)
end Go.Proofs.YtblmkddjlfienaaGreat

