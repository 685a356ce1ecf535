/-
  SolitonKnown.
-/
import Derived.Test.YtejocefblpkdjaaGreatJSAdd
import Derived.Test.YtejocefblpkdjaaGreatJRatB
import Derived.Test.YtejocefblpkdjaaGreatRoundHeld
namespace Go.Proofs.YtejocefblpkdjaaGreat
open Go.RowKit

set_option maxRecDepth 100000 in
set_option maxHeartbeats 4000000 in
theorem ltKnown_any (w : World) : Calls Tryz.prog 5 #[] w fun e w' => e = .returned (.bool true) ∧ Below w.heap.size w w' := by
  have hB := Below.refl w.heap.size w
  go_enter Tryz.func5, Tryz.ntmps5
  go_wp2_with fail
  have hk := tsIdeal_any 1 7 w
  rw [show idealS 1 7 = ([7], 0) by decide +kernel] at hk
  refine (hk).mono ?_
  rintro e w1 ⟨a1, n1, c1, rfl, Z1, hb⟩
  clear hk
  dsimp only at Z1 ⊢
  obtain rfl : n1 = 1 := Z1.len.1
  replace hB := hB.trans (hb.mono hB.size)
  have zz1 := hb.size
  have zh1 := hB.size
  clear hb
  go_wp2_with fail
  have hk := fun W : World => tsIdeal_any 4 1 W
  rw [show idealS 4 1 = ([], 13) by decide +kernel] at hk
  refine (hk _).mono ?_
  rintro e w2 ⟨a2, n2, c2, rfl, Z2, hb⟩
  clear hk
  dsimp only at Z2 ⊢
  clear Z2
  replace Z1 := Z1.below hb
  replace hB := hB.trans (hb.mono hB.size)
  have zz2 := hb.size
  have zh2 := hB.size
  clear hb
  go_wp2_with fail
  have hk := fun W : World => tsIdeal_any 0 5 W
  rw [show idealS 0 5 = ([], 3) by decide +kernel] at hk
  refine (hk _).mono ?_
  rintro e w3 ⟨a3, n3, c3, rfl, Z3, hb⟩
  clear hk
  dsimp only at Z3 ⊢
  clear Z3
  replace Z1 := Z1.below hb
  replace hB := hB.trans (hb.mono hB.size)
  have zz3 := hb.size
  have zh3 := hB.size
  clear hb
  go_wp2_with fail
  refine (lt_part_any 1 4 (by decide) (by decide) (by decide) _).mono ?_
  rintro e w4 ⟨g4, a4, c4, x4, e4, t4, y4, rfl, F4, P4, I4, hb⟩
  replace I4 : Is g4 x4 y4 (Rat.divInt 1 4) (1) := I4.mono (by omega)
  replace Z1 := Z1.below hb
  replace hB := hB.trans (hb.mono hB.size)
  have zz4 := hb.size
  have zh4 := hB.size
  clear hb
  go_wp2_with fail
  have hk := tsRobust_any g4 (F4.mono (Nat.zero_le _)) ⟨by have := I4.lu; omega, by have := I4.ld; omega⟩ 3 60 4
  rw [robustS_is I4 F4.up.words F4.down.words, show robQ (Rat.divInt 1 4) 3 60 4 = ([], 3) by decide +kernel] at hk
  refine (hk).mono ?_
  rintro e w5 ⟨a5, n5, c5, rfl, Z5, hb⟩
  clear hk
  dsimp only at Z5 ⊢
  clear Z5
  replace Z1 := Z1.below hb
  replace F4 := F4.below hb
  replace hB := hB.trans (hb.mono hB.size)
  have zz5 := hb.size
  have zh5 := hB.size
  clear hb
  clear I4
  clear F4
  go_wp2_with fail
  refine (lt_part_any (-1) 4 (by decide) (by decide) (by decide) _).mono ?_
  rintro e w6 ⟨g6, a6, c6, x6, e6, t6, y6, rfl, F6, P6, I6, hb⟩
  replace I6 : Is g6 x6 y6 (Rat.divInt (-1) 4) (1) := I6.mono (by omega)
  replace Z1 := Z1.below hb
  replace hB := hB.trans (hb.mono hB.size)
  have zz6 := hb.size
  have zh6 := hB.size
  clear hb
  go_wp2_with fail
  have hk := tsRobust_any g6 (F6.mono (Nat.zero_le _)) ⟨by have := I6.lu; omega, by have := I6.ld; omega⟩ 3 60 2
  rw [robustS_is I6 F6.up.words F6.down.words, show robQ (Rat.divInt (-1) 4) 3 60 2 = ([], 3) by decide +kernel] at hk
  refine (hk).mono ?_
  rintro e w7 ⟨a7, n7, c7, rfl, Z7, hb⟩
  clear hk
  dsimp only at Z7 ⊢
  clear Z7
  replace Z1 := Z1.below hb
  replace F6 := F6.below hb
  replace hB := hB.trans (hb.mono hB.size)
  have zz7 := hb.size
  have zh7 := hB.size
  clear hb
  clear I6
  clear F6
  have hs0 := Nat.le_refl w7.heap.size
  have hq := below_new w7 (.cells #[.int .i64 1, .int .i64 3] 3)
  replace Z1 := Z1.below hq
  have L8 := Box.put (w := w7) (k := (w7.heap.size)) (.cells #[.int .i64 1, .int .i64 3] 3) rfl
  replace hs0 := Nat.le_trans hs0 hq.size
  replace hB := hB.trans (hq.mono hB.size)
  clear hq
  go_wp2_with fail
  obtain ⟨u8, hname⟩ := nm hB
  rw [hname] at hs0 hB Z1 L8 ⊢
  have zh8 := hB.size
  have zs8 := hs0
  clear hname hs0
  have Z8 := intz_box L8 [1, 3] (by unfold Nums; decide) rfl rfl
  have hk := (tsmean_any Z8).mono (fun _ _ h => h.2 (by decide +kernel))
  refine (hk).mono ?_
  rintro e w9 ⟨g9, a9, c9, x9, e9, t9, y9, rfl, F9, P9, I9, hb⟩
  replace I9 : Is g9 x9 y9 (Rat.divInt 7 4) (1) := I9.to (by decide +kernel)
  replace Z1 := Z1.below hb
  replace L8 := L8.below hb
  replace hB := hB.trans (hb.mono hB.size)
  have zz9 := hb.size
  have zh9 := hB.size
  clear hb
  clear hk
  clear Z8
  clear L8
  have hs0 := Nat.le_refl w9.heap.size
  have hq := below_new w9 (.cells #[.bool g9, .slice a9 x9.length c9, .slice e9 y9.length t9] 27)
  replace Z1 := Z1.below hq
  replace F9 := F9.below hq
  have E9 := Box.put (w := w9) (k := (w9.heap.size)) (.cells #[.bool g9, .slice a9 x9.length c9, .slice e9 y9.length t9] 27) rfl
  replace hs0 := Nat.le_trans hs0 hq.size
  replace hB := hB.trans (hq.mono hB.size)
  clear hq
  go_wp2_with fail
  obtain ⟨u10, hname⟩ := nm hB
  rw [hname] at hs0 hB Z1 F9 E9 ⊢
  have zh10 := hB.size
  have zs10 := hs0
  clear hname hs0
  have hk := fun W : World => (tsmean_any (Intz.nil 0 W)).mono (fun _ _ h => h.1 (by decide +kernel))
  refine (hk _).mono ?_
  rintro e w11 ⟨rfl, hb⟩
  replace Z1 := Z1.below hb
  replace F9 := F9.below hb
  replace E9 := E9.below hb
  replace hB := hB.trans (hb.mono hB.size)
  have zz11 := hb.size
  have zh11 := hB.size
  clear hb
  clear hk
  have qE9 := E9.lt
  have hs0 := Nat.le_refl w11.heap.size
  have hq := below_new w11 (.cells #[.bool false, .slice none 0 0, .slice none 0 0] 27)
  replace Z1 := Z1.below hq
  replace F9 := F9.below hq
  replace E9 := E9.below hq
  have Z10 := Box.put (w := w11) (k := (w11.heap.size)) (.cells #[.bool false, .slice none 0 0, .slice none 0 0] 27) rfl
  replace hs0 := Nat.le_trans hs0 hq.size
  replace hB := hB.trans (hq.mono hB.size)
  clear hq
  have hq := below_new (w11.alloc (.cells #[.bool false, .slice none 0 0, .slice none 0 0] 27)) (.cells #[.int .i64 7] 3)
  replace Z1 := Z1.below hq
  replace F9 := F9.below hq
  replace E9 := E9.below hq
  replace Z10 := Z10.below hq
  have L11 := Box.put (w := (w11.alloc (.cells #[.bool false, .slice none 0 0, .slice none 0 0] 27))) (k := (w11.heap.size + 1)) (.cells #[.int .i64 7] 3) (by simp)
  replace hs0 := Nat.le_trans hs0 hq.size
  replace hB := hB.trans (hq.mono hB.size)
  clear hq
  go_wp2_with fail
  obtain ⟨u12, hname⟩ := nm hB
  rw [hname] at hs0 hB Z1 F9 E9 Z10 L11 ⊢
  have zh12 := hB.size
  have zs12 := hs0
  clear hname hs0
  have Z11 := intz_box L11 [7] (by unfold Nums; decide) rfl rfl
  have hk := lt_is_any Z1 Z11 (by decide) 0
  rw [decide_eq_true ⟨rfl, rfl⟩] at hk
  refine (hk).mono ?_
  rintro e w13 ⟨rfl, hb⟩
  replace Z1 := Z1.below hb
  replace F9 := F9.below hb
  replace E9 := E9.below hb
  replace Z10 := Z10.below hb
  replace L11 := L11.below hb
  replace hB := hB.trans (hb.mono hB.size)
  have zz13 := hb.size
  have zh13 := hB.size
  clear hb
  clear hk
  clear Z11
  clear L11
  clear Z1
  obtain ⟨k0, k1, k2, f0, f1, f2⟩ := E9.three
  go_wp2_with fail
  clear k0 k1 k2 f0 f1 f2
  replace F9 := F9.drew
  have qE9 := E9.lt
  replace E9 := E9.drew
  replace Z10 := Z10.drew
  have hr := Below.refl w13.drew.heap.size w13.drew
  have hkeep : ∀ V : World, Below w13.drew.heap.size w13.drew V → V.cell? ⟨w9.heap.size, 0, none⟩ = some (.bool g9) ∧ V.cell? ⟨w9.heap.size, 1, none⟩ = some (.slice a9 x9.length c9) ∧ V.cell? ⟨w9.heap.size, 2, none⟩ = some (.slice e9 y9.length t9) := fun V hV => ⟨(E9.below hV).three.1, (E9.below hV).three.2.1, (E9.below hV).three.2.2.1⟩
  refine wp_region_held_drew (S := fun V : World => V.cell? ⟨w9.heap.size, 0, none⟩ = some (.bool g9) ∧ V.cell? ⟨w9.heap.size, 1, none⟩ = some (.slice a9 x9.length c9) ∧ V.cell? ⟨w9.heap.size, 2, none⟩ = some (.slice e9 y9.length t9)) (by kernel_rfl) (hkeep _ hr) (fun hHeld => ?_)
  refine wpAnyH_ready (rs := [0]) (by kernel_rfl) (by simp) ?_
  refine AllReadyH.cons rfl (fun K hK => ?_) AllReadyH.nil
  go_simp
  go_at_call 10
  refine (lt_awake_any _).mono ?_
  rintro e w14 ⟨rfl, hb⟩
  replace F9 := F9.below hb
  replace E9 := E9.below hb
  replace Z10 := Z10.below hb
  replace hr := hr.trans (hb.mono hr.size)
  have zw14 := hb.size
  clear hb
  dsimp only
  clear hHeld
  refine hK.out _ _ (hkeep _ hr) (fun hHeld => ?_)
  clear hK K
  try simp only [Act.put, List.setIfInBounds_toArray, List.set_cons_zero, List.set_cons_succ, List.getElem_toArray, List.getElem_cons_zero, List.getElem_cons_succ]
  refine wpAnyH_take (i := 1) (v := ?_) rfl (by kernel_rfl) (by kernel_rfl) (by kernel_rfl) (fun _ _ _ h => h) (Or.inl ⟨by rfl, ?_⟩) (by assumption) ?_
  rotate_left
  · intro w hSw
    try dsimp only at hSw
    go_simp
    try with_reducible rfl
  simp only [Act.put, lz7, lz8, lz9, lz1, lz2, lz3]
  refine wpAnyH_take (i := 2) (v := ?_) rfl (by kernel_rfl) (by kernel_rfl) (by kernel_rfl) (fun _ _ _ h => h) (Or.inl ⟨by rfl, ?_⟩) (by assumption) ?_
  rotate_left
  · intro w hSw
    try dsimp only at hSw
    go_simp
    try with_reducible rfl
  simp only [Act.put, lz7, lz8, lz9, lz1, lz2, lz3]
  refine wpAnyH_take (i := 3) (v := ?_) rfl (by kernel_rfl) (by kernel_rfl) (by kernel_rfl) (fun _ _ _ h => h) (Or.inl ⟨by rfl, ?_⟩) (by assumption) ?_
  rotate_left
  · intro w hSw
    try dsimp only at hSw
    go_simp
    try with_reducible rfl
  simp only [Act.put, lz7, lz8, lz9, lz1, lz2, lz3]
  refine wpAnyH_take (i := 4) (v := ?_) rfl (by kernel_rfl) (by kernel_rfl) (by kernel_rfl) (fun _ _ _ h => h) (Or.inl ⟨by rfl, ?_⟩) (by assumption) ?_
  rotate_left
  · intro w hSw
    try dsimp only at hSw
    go_simp
    try with_reducible rfl
  simp only [Act.put, lz7, lz8, lz9, lz1, lz2, lz3]
  refine wpAnyH_take (i := 5) (v := ?_) rfl (by kernel_rfl) (by kernel_rfl) (by kernel_rfl) (fun _ _ _ h => h) (Or.inl ⟨by rfl, ?_⟩) (by assumption) ?_
  rotate_left
  · intro w hSw
    try dsimp only at hSw
    go_simp
    try with_reducible rfl
  simp only [Act.put, lz7, lz8, lz9, lz1, lz2, lz3]
  refine wpAnyH_take (i := 6) (v := ?_) rfl (by kernel_rfl) (by kernel_rfl) (by kernel_rfl) (fun _ _ _ h => h) (Or.inl ⟨by rfl, ?_⟩) (by assumption) ?_
  rotate_left
  · intro w hSw
    try dsimp only at hSw
    go_simp
    try with_reducible rfl
  simp only [Act.put, lz7, lz8, lz9, lz1, lz2, lz3]
  refine wpAnyH_take (i := 7) (v := ?_) rfl (by kernel_rfl) (by kernel_rfl) (by kernel_rfl) (fun _ _ _ h => h) (Or.inl ⟨by rfl, ?_⟩) (by assumption) ?_
  rotate_left
  · intro w hSw
    try dsimp only at hSw
    go_simp
    try with_reducible rfl
  simp only [Act.put, lz7, lz8, lz9, lz1, lz2, lz3]
  refine wpAnyH_take (i := 8) (v := ?_) rfl (by kernel_rfl) (by kernel_rfl) (by kernel_rfl) (fun _ _ _ h => h) (Or.inl ⟨by rfl, ?_⟩) (by assumption) ?_
  rotate_left
  · intro w hSw
    try dsimp only at hSw
    go_simp
    try with_reducible rfl
  simp only [Act.put, lz7, lz8, lz9, lz1, lz2, lz3]
  refine wpAnyH_take (i := 9) (v := ?_) rfl (by kernel_rfl) (by kernel_rfl) (by kernel_rfl) (fun _ _ _ h => h) (Or.inl ⟨by rfl, ?_⟩) (by assumption) ?_
  rotate_left
  · intro w hSw
    try dsimp only at hSw
    go_simp
    try with_reducible rfl
  simp only [Act.put, lz7, lz8, lz9, lz1, lz2, lz3]
  refine wpAnyH_ready (rs := [10]) (by kernel_rfl) (by simp) ?_
  refine AllReadyH.cons rfl (fun K hK => ?_) AllReadyH.nil
  go_simp
  go_at_call 26
  refine (lt_part_any 7 4 (by decide) (by decide) (by decide) _).mono ?_
  rintro e w15 ⟨g12, a12, c12, x12, e12, t12, y12, rfl, F12, P12, I12, hb⟩
  replace I12 : Is g12 x12 y12 (Rat.divInt 7 4) (1) := I12.mono (by omega)
  replace F9 := F9.below hb
  replace E9 := E9.below hb
  replace Z10 := Z10.below hb
  replace hr := hr.trans (hb.mono hr.size)
  have zw15 := hb.size
  clear hb
  dsimp only
  clear hHeld
  refine hK.out _ _ (hkeep _ hr) (fun hHeld => ?_)
  clear hK K
  try simp only [Act.put, List.setIfInBounds_toArray, List.set_cons_zero, List.set_cons_succ, List.getElem_toArray, List.getElem_cons_zero, List.getElem_cons_succ]
  refine wpAnyH_ready (rs := [11]) (by kernel_rfl) (by simp) ?_
  refine AllReadyH.cons rfl (fun K hK => ?_) AllReadyH.nil
  go_simp
  go_at_call 18
  refine (samer_is F9 F12 I9 I12 (by decide)).mono ?_
  rintro e w16 ⟨rfl, hb⟩
  replace F9 := F9.below hb
  replace E9 := E9.below hb
  replace Z10 := Z10.below hb
  replace F12 := F12.below hb
  replace hr := hr.trans (hb.mono hr.size)
  have zw16 := hb.size
  clear hb
  dsimp only
  clear hHeld
  refine hK.out _ _ (hkeep _ hr) (fun hHeld => ?_)
  clear hK K
  try simp only [Act.put, List.setIfInBounds_toArray, List.set_cons_zero, List.set_cons_succ, List.getElem_toArray, List.getElem_cons_zero, List.getElem_cons_succ]
  refine wpAnyH_take (i := 12) (v := ?_) rfl (by kernel_rfl) (by kernel_rfl) (by kernel_rfl) (fun _ _ _ h => h) (Or.inl ⟨by rfl, ?_⟩) (by assumption) ?_
  rotate_left
  · intro w hSw
    try dsimp only at hSw
    go_simp
    try with_reducible rfl
  simp only [Act.put, lz7, lz8, lz9, lz1, lz2, lz3]
  refine wpAnyH_take (i := 13) (v := ?_) rfl (by kernel_rfl) (by kernel_rfl) (by kernel_rfl) (fun _ _ _ h => h) (Or.inl ⟨by rfl, ?_⟩) (by assumption) ?_
  rotate_left
  · intro w hSw
    try dsimp only at hSw
    go_simp
    try with_reducible rfl
  simp only [Act.put, lz7, lz8, lz9, lz1, lz2, lz3]
  refine wpAnyH_take (i := 14) (v := ?_) rfl (by kernel_rfl) (by kernel_rfl) (by kernel_rfl) (fun _ _ _ h => h) (Or.inl ⟨by rfl, ?_⟩) (by assumption) ?_
  rotate_left
  · intro w hSw
    try dsimp only at hSw
    go_simp
    try with_reducible rfl
  simp only [Act.put, lz7, lz8, lz9, lz1, lz2, lz3]
  refine wpAnyH_take (i := 15) (v := ?_) rfl (by kernel_rfl) (by kernel_rfl) (by kernel_rfl) (fun _ _ _ h => h) (Or.inl ⟨by rfl, ?_⟩) (by assumption) ?_
  rotate_left
  · intro w hSw
    try dsimp only at hSw
    go_simp
    try with_reducible rfl
  simp only [Act.put, lz7, lz8, lz9, lz1, lz2, lz3]
  refine wpAnyH_take (i := 16) (v := ?_) rfl (by kernel_rfl) (by kernel_rfl) (by kernel_rfl) (fun _ _ _ h => h) (Or.inl ⟨by rfl, ?_⟩) (by assumption) ?_
  rotate_left
  · intro w hSw
    try dsimp only at hSw
    go_simp
    try with_reducible rfl
  simp only [Act.put, lz7, lz8, lz9, lz1, lz2, lz3]
  refine wpAnyH_take (i := 17) (v := ?_) rfl (by kernel_rfl) (by kernel_rfl) (by kernel_rfl) (fun _ _ _ h => h) (Or.inl ⟨by rfl, ?_⟩) (by assumption) ?_
  rotate_left
  · intro w hSw
    try dsimp only at hSw
    go_simp
    try with_reducible rfl
  simp only [Act.put, lz7, lz8, lz9, lz1, lz2, lz3]
  refine wpAnyH_ready (rs := [18]) (by kernel_rfl) (by simp) ?_
  refine AllReadyH.cons rfl (fun K hK => ?_) AllReadyH.nil
  go_simp
  have hq := below_new w16 (.cells #[.int .i64 1, .int .i64 2] 3)
  replace F9 := F9.below hq
  replace E9 := E9.below hq
  replace Z10 := Z10.below hq
  replace F12 := F12.below hq
  have B1 := Box.new w16 (.cells #[.int .i64 1, .int .i64 2] 3)
  replace hr := hr.trans (hq.mono hr.size)
  have zw16 := hq.size
  clear hq
  skip
  clear hHeld
  refine hK.out _ _ (hkeep _ hr) (fun hHeld => ?_)
  clear hK K
  try simp only [Act.put, List.setIfInBounds_toArray, List.set_cons_zero, List.set_cons_succ, List.getElem_toArray, List.getElem_cons_zero, List.getElem_cons_succ]
  refine wpAnyH_ready (rs := [19]) (by kernel_rfl) (by simp) ?_
  refine AllReadyH.cons rfl (fun K hK => ?_) AllReadyH.nil
  go_simp
  go_at_call 22
  have hk := tscheck_any (intz_box B1 [1, 2] (by unfold Nums; decide) rfl rfl) 1
  rw [show chkT [1, 2] 1 = 13 by decide +kernel] at hk
  refine (hk).mono ?_
  rintro e w18 ⟨rfl, hb⟩
  clear hk
  replace F9 := F9.below hb
  replace E9 := E9.below hb
  replace Z10 := Z10.below hb
  replace F12 := F12.below hb
  replace B1 := B1.below hb
  replace hr := hr.trans (hb.mono hr.size)
  have zw18 := hb.size
  clear hb
  dsimp only
  clear hHeld
  refine hK.out _ _ (hkeep _ hr) (fun hHeld => ?_)
  clear hK K
  try simp only [Act.put, List.setIfInBounds_toArray, List.set_cons_zero, List.set_cons_succ, List.getElem_toArray, List.getElem_cons_zero, List.getElem_cons_succ]
  refine wpAnyH_take (i := 20) (v := ?_) rfl (by kernel_rfl) (by kernel_rfl) (by kernel_rfl) (fun _ _ _ h => h) (Or.inl ⟨by rfl, ?_⟩) (by assumption) ?_
  rotate_left
  · intro w hSw
    try dsimp only at hSw
    go_simp
    try with_reducible rfl
  simp only [Act.put, lz7, lz8, lz9, lz1, lz2, lz3]
  refine wpAnyH_take (i := 21) (v := ?_) rfl (by kernel_rfl) (by kernel_rfl) (by kernel_rfl) (fun _ _ _ h => h) (Or.inl ⟨by rfl, ?_⟩) (by assumption) ?_
  rotate_left
  · intro w hSw
    try dsimp only at hSw
    go_simp
    try with_reducible rfl
  simp only [Act.put, lz7, lz8, lz9, lz1, lz2, lz3]
  refine wpAnyH_take (i := 22) (v := ?_) rfl (by kernel_rfl) (by kernel_rfl) (by kernel_rfl) (fun _ _ _ h => h) (Or.inl ⟨by rfl, ?_⟩) (by assumption) ?_
  rotate_left
  · intro w hSw
    try dsimp only at hSw
    go_simp
    try with_reducible rfl
  simp only [Act.put, lz7, lz8, lz9, lz1, lz2, lz3]
  refine wpAnyH_ready (rs := [23]) (by kernel_rfl) (by simp) ?_
  refine AllReadyH.cons rfl (fun K hK => ?_) AllReadyH.nil
  go_simp
  have hq := below_new w18 (.cells #[.int .i64 0, .int .i64 0] 3)
  replace F9 := F9.below hq
  replace E9 := E9.below hq
  replace Z10 := Z10.below hq
  replace F12 := F12.below hq
  replace B1 := B1.below hq
  have B2 := Box.new w18 (.cells #[.int .i64 0, .int .i64 0] 3)
  replace hr := hr.trans (hq.mono hr.size)
  have zw18 := hq.size
  clear hq
  skip
  clear hHeld
  refine hK.out _ _ (hkeep _ hr) (fun hHeld => ?_)
  clear hK K
  try simp only [Act.put, List.setIfInBounds_toArray, List.set_cons_zero, List.set_cons_succ, List.getElem_toArray, List.getElem_cons_zero, List.getElem_cons_succ]
  refine wpAnyH_ready (rs := [24]) (by kernel_rfl) (by simp) ?_
  refine AllReadyH.cons rfl (fun K hK => ?_) AllReadyH.nil
  go_simp
  go_at_call 22
  have hk := tscheck_any (intz_box B2 [0, 0] (by unfold Nums; decide) rfl rfl) 2
  rw [show chkT [0, 0] 2 = 13 by decide +kernel] at hk
  refine (hk).mono ?_
  rintro e w20 ⟨rfl, hb⟩
  clear hk
  replace F9 := F9.below hb
  replace E9 := E9.below hb
  replace Z10 := Z10.below hb
  replace F12 := F12.below hb
  replace B1 := B1.below hb
  replace B2 := B2.below hb
  replace hr := hr.trans (hb.mono hr.size)
  have zw20 := hb.size
  clear hb
  dsimp only
  clear hHeld
  refine hK.out _ _ (hkeep _ hr) (fun hHeld => ?_)
  clear hK K
  try simp only [Act.put, List.setIfInBounds_toArray, List.set_cons_zero, List.set_cons_succ, List.getElem_toArray, List.getElem_cons_zero, List.getElem_cons_succ]
  refine wpAnyH_take (i := 25) (v := ?_) rfl (by kernel_rfl) (by kernel_rfl) (by kernel_rfl) (fun _ _ _ h => h) (Or.inl ⟨by rfl, ?_⟩) (by assumption) ?_
  rotate_left
  · intro w hSw
    try dsimp only at hSw
    go_simp
    try with_reducible rfl
  simp only [Act.put, lz7, lz8, lz9, lz1, lz2, lz3]
  refine wpAnyH_take (i := 26) (v := ?_) rfl (by kernel_rfl) (by kernel_rfl) (by kernel_rfl) (fun _ _ _ h => h) (Or.inl ⟨by rfl, ?_⟩) (by assumption) ?_
  rotate_left
  · intro w hSw
    try dsimp only at hSw
    go_simp
    try with_reducible rfl
  simp only [Act.put, lz7, lz8, lz9, lz1, lz2, lz3]
  refine wpAnyH_take (i := 27) (v := ?_) rfl (by kernel_rfl) (by kernel_rfl) (by kernel_rfl) (fun _ _ _ h => h) (Or.inl ⟨by rfl, ?_⟩) (by assumption) ?_
  rotate_left
  · intro w hSw
    try dsimp only at hSw
    go_simp
    try with_reducible rfl
  simp only [Act.put, lz7, lz8, lz1, lz2, lz3]
  refine wpAnyH_done (by kernel_rfl) ?_ _
  clear hHeld
  replace hB := hB.trans ((Below.trans (Below.drew (Below.refl w13.heap.size w13)) hr).mono hB.size)
  have zi_20 := hB.size
  clear hr hkeep
  go_wp2
  go_ret
  exact ⟨rfl, hB⟩
end Go.Proofs.YtejocefblpkdjaaGreat
