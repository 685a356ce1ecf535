/-
  Joined: DigVp2 DigVz DigVa.
-/
import Derived.Test.YtfcpaejeppedoaaGreatDoorJSigB
namespace Go.Proofs.YtfcpaejeppedoaaGreatDoor
open Go.RowKit
set_option maxRecDepth 100000 in
set_option maxHeartbeats 8000000 in
theorem jread_plain2 (s : ByteArray) (w : World) (hS : s.size ≤ 400) (hm : (0 < s.size ∧ (octs s)[0]?.getD 0 ≠ 45)) (HYS : Hid (∃ j, j < s.size ∧ (octs s)[j]?.getD 0 = 47)) : Calls Tryz.prog 10 #[.string s] w fun e w' => ReadSaid (octs s) w e w' := by
  have HLEN := hide (octs_len s)
  have hB := Below.refl w.heap.size w
  go_enter Tryz.func10, Tryz.ntmps10
  have HB : Hid ((octs s).length ≤ 10000) := by rw [Hid, HLEN.out]; omega
  have h2 : ¬ (10000 : Int) < (s.size : Int) := by omega
  have HP : Hid (∀ k, Stroke (octs s) k → Parsed (octs s) false (octs s) k) := fun k st => by
    refine ⟨rfl, fun _ h => ?_, st⟩
    obtain ⟨_, h0⟩ := hm
    apply h0
    cases hx : octs s with
    | nil => rw [hx] at h; cases h
    | cons z zs => rw [hx] at h; simpa using h
  obtain ⟨hz0, y0, hy45, hb0⟩ : 0 < s.size ∧ ∃ y : Int, y ≠ 45 ∧ ∀ h : 0 < s.size, (((s[0]'h).toNat : Nat) : Int) = y := ⟨hm.1, _, hm.2, fun h => octs_at s 0 h⟩
  clear hm
  have hs0 := Nat.le_refl w.heap.size
  have hq := below_new w (.cells #[.bool false, .slice none 0 0, .slice none 0 0] 27)
  have E2 := Box.put (w := w) (k := (w.heap.size)) (.cells #[.bool false, .slice none 0 0, .slice none 0 0] 27) rfl
  replace hs0 := Nat.le_trans hs0 hq.size
  replace hB := hB.trans (hq.mono hB.size)
  clear hq
  have hq := below_new (w.alloc (.cells #[.bool false, .slice none 0 0, .slice none 0 0] 27)) (.cells #[.int .i64 0, .int .i64 0] 35)
  replace E2 := E2.below hq
  have E3 := Box.put (w := (w.alloc (.cells #[.bool false, .slice none 0 0, .slice none 0 0] 27))) (k := (w.heap.size + 1)) (.cells #[.int .i64 0, .int .i64 0] 35) (by simp)
  replace hs0 := Nat.le_trans hs0 hq.size
  replace hB := hB.trans (hq.mono hB.size)
  clear hq
  have hq := below_new ((w.alloc (.cells #[.bool false, .slice none 0 0, .slice none 0 0] 27)).alloc (.cells #[.int .i64 0, .int .i64 0] 35)) (.cells #[.int .i64 6, .int .i64 0] 35)
  replace E2 := E2.below hq
  replace E3 := E3.below hq
  have E4 := Box.put (w := ((w.alloc (.cells #[.bool false, .slice none 0 0, .slice none 0 0] 27)).alloc (.cells #[.int .i64 0, .int .i64 0] 35))) (k := (w.heap.size + 2)) (.cells #[.int .i64 6, .int .i64 0] 35) (by simp)
  replace hs0 := Nat.le_trans hs0 hq.size
  replace hB := hB.trans (hq.mono hB.size)
  clear hq
  go_wp2_with fail
  obtain ⟨u1, hname⟩ := nm hB
  rw [hname] at hs0 hB E2 E3 E4 ⊢
  have zh1 := hB.size
  have zs1 := hs0
  clear hname hs0
  go_loopw [7] (fun kv wq => ∃ (k : Nat), kv = .int .i64 k ∧ k ≤ s.size ∧ Hid (∀ j, j < k → (octs s)[j]?.getD 0 ≠ 47) ∧ Box wq (w.heap.size) (.cells #[.bool false, .slice none 0 0, .slice none 0 0] 27) ∧ Box wq (w.heap.size + 1) (.cells #[.int .i64 0, .int .i64 0] 35) ∧ Box wq (w.heap.size + 2) (.cells #[.int .i64 6, .int .i64 0] 35) ∧ Below w.heap.size w wq) (fun kv _ => s.size - (intOf kv).toNat)
  case atStart => exact ⟨0, rfl, Nat.zero_le _, fun j hj => absurd hj (Nat.not_lt_zero j), E2, E3, E4, hB⟩
  case round =>
    clear E2 E3 E4 hB
    obtain ⟨k, rfl, hk, HJ, E2, E3, E4, hB⟩ := hrel
    have zB := hB.size
    have hge : (0 : Int) ≤ (k : Int) := by omega
    have hw1 : IntKind.i64.wrap ((k : Int) + 1) = (k : Int) + 1 := by rw [IntKind.wrap_i64]; omega
    by_cases hlt : k < s.size
    · skip
      have hlt2 : (k : Int) < (s.size : Int) := by omega
      obtain ⟨y, hy⟩ : ∃ y, (octs s)[k]?.getD 0 = y := ⟨_, rfl⟩
      have hby : ∀ h : k < s.size, (((s[k]'h).toNat : Nat) : Int) = y := fun h => by rw [octs_at, hy]
      by_cases h47 : y = 47
      · skip
        have hbyk : (octs s)[k]?.getD 0 = 47 := hy.trans h47
        have HST : Hid (Parsed (octs s) false (octs s) k) := HP.out k ⟨by rw [octs_len]; omega, HJ.out, Or.inr (hy.trans h47)⟩
        subst h47
        clear hy HJ
        clear hbyk
        obtain ⟨T1, hT1⟩ : ∃ T, s.extract 0 k = T := ⟨_, rfl⟩
        have HO1 : Hid (octs T1 = (octs s).take k) := by rw [Hid, ← hT1, octs_extract, List.drop_zero, Nat.sub_zero]
        have sz1 : T1.size ≤ 400 := by rw [← octs_len, HO1.out, List.length_take, octs_len]; omega
        go_wp2_with fail
        refine (jget_any T1 _ (Or.inl (by omega))).mono ?_
        rintro e w2 ⟨a1, c1, z1, e1, p1, rfl, S1, I1, L1, hb⟩
        replace E2 := E2.below hb
        replace E3 := E3.below hb
        replace E4 := E4.below hb
        replace hB := hB.trans (hb.mono hB.size)
        have zz2 := hb.size
        have zh2 := hB.size
        clear hb
        have l1 : z1.length ≤ 800 := by rw [octs_len] at L1; omega
        rw [HO1.out] at I1
        clear hT1 L1
        rcases I1.parts with ⟨n1, x1, G1⟩ | ⟨rfl, rfl, N1, G1⟩
        · skip
          obtain ⟨T2, hT2⟩ : ∃ T, s.extract (k + 1) s.size = T := ⟨_, rfl⟩
          have HO2 : Hid (octs T2 = (octs s).drop (k + 1)) := by rw [Hid, ← hT2, octs_extract, List.take_of_length_le (by rw [List.length_drop, octs_len]; omega)]
          have sz2 : T2.size ≤ 400 := by rw [← octs_len, HO2.out, List.length_drop, octs_len]; omega
          have qE2 := E2.lt
          have qE3 := E3.lt
          have qE4 := E4.lt
          have hs0 := Nat.le_refl w2.heap.size
          have hq := below_new w2 (.cells #[.int .i64 e1, .int .i64 p1] 35)
          replace E2 := E2.below hq
          replace E3 := E3.below hq
          replace E4 := E4.below hq
          replace S1 := S1.below hq
          have E9 := Box.put (w := w2) (k := (w2.heap.size)) (.cells #[.int .i64 e1, .int .i64 p1] 35) rfl
          replace hs0 := Nat.le_trans hs0 hq.size
          replace hB := hB.trans (hq.mono hB.size)
          clear hq
          have hq := below_new (w2.alloc (.cells #[.int .i64 e1, .int .i64 p1] 35)) (.cells #[.int .u64 1] 42)
          replace E2 := E2.below hq
          replace E3 := E3.below hq
          replace E4 := E4.below hq
          replace S1 := S1.below hq
          replace E9 := E9.below hq
          have EM := Box.put (w := (w2.alloc (.cells #[.int .i64 e1, .int .i64 p1] 35))) (k := (w2.heap.size + 1)) (.cells #[.int .u64 1] 42) (by simp)
          replace hs0 := Nat.le_trans hs0 hq.size
          replace hB := hB.trans (hq.mono hB.size)
          clear hq
          go_wp2_with fail
          obtain ⟨u3, hname⟩ := nm hB
          rw [hname] at hs0 hB E2 E3 E4 S1 E9 EM ⊢
          have zh3 := hB.size
          have zs3 := hs0
          clear hname hs0
          refine (jget_any T2 _ (Or.inl (by omega))).mono ?_
          rintro e w4 ⟨a2, c2, z2, e2, p2, rfl, S2, I2, L2, hb⟩
          replace E2 := E2.below hb
          replace E3 := E3.below hb
          replace E4 := E4.below hb
          replace S1 := S1.below hb
          replace E9 := E9.below hb
          replace EM := EM.below hb
          replace hB := hB.trans (hb.mono hB.size)
          have zz4 := hb.size
          have zh4 := hB.size
          clear hb
          have l2 : z2.length ≤ 800 := by rw [octs_len] at L2; omega
          rw [HO2.out] at I2
          clear hT2 L2
          have HLT : Hid (k < (octs s).length) := by rw [Hid, octs_len]; exact hlt
          rcases I2.parts with ⟨n2, x2, G2⟩ | ⟨rfl, rfl, N2, G2⟩
          · skip
            have n2b : (e2 == 0) = false := beq_eq_false_iff_ne.2 n2
            have qE2 := E2.lt
            have qE3 := E3.lt
            have qE4 := E4.lt
            have qE9 := E9.lt
            have qEM := EM.lt
            have hs0 := Nat.le_refl w4.heap.size
            have hq := below_new w4 (.cells #[.int .i64 e2, .int .i64 p2] 35)
            replace E2 := E2.below hq
            replace E3 := E3.below hq
            replace E4 := E4.below hq
            replace S1 := S1.below hq
            replace E9 := E9.below hq
            replace EM := EM.below hq
            replace S2 := S2.below hq
            have E12 := Box.put (w := w4) (k := (w4.heap.size)) (.cells #[.int .i64 e2, .int .i64 p2] 35) rfl
            replace hs0 := Nat.le_trans hs0 hq.size
            replace hB := hB.trans (hq.mono hB.size)
            clear hq
            go_wp2_with fail
            obtain ⟨u5, hname⟩ := nm hB
            rw [hname] at hs0 hB E2 E3 E4 S1 E9 EM S2 E12 ⊢
            have zh5 := hB.size
            have zs5 := hs0
            clear hname hs0
            obtain ⟨k0, k1, k2, f0, f1, f2⟩ := E2.three
            obtain ⟨k3, k4, f3, f4⟩ := E3.two
            obtain ⟨k5, k6, f5, f6⟩ := E4.two
            have qE2 := E2.lt
            have qE3 := E3.lt
            have qE4 := E4.lt
            go_region
            all_goals
              go_wp2
              refine bodyPost_ret (v := .tuple #[.agg #[.bool false, .slice none 0 0, .slice none 0 0], .agg #[.int .i64 6, .int .i64 0]]) (by simp [results, Tryz.f10, go_sem, k0, k1, k2, k3, k4]) rfl ?_
              refine ⟨false, none, 0, [], none, 0, [], 6, 0, rfl, ⟨Seg.nil _ _, Seg.nil _ _⟩, .bad HB.out (HST.out.badDown HB.out HLT.out G2), ?_⟩
              repeat (first | exact hB | refine Below.drew ?_ | refine Below.setCell ?_ (by simp) _)
          · skip
            have n1b : (e1 == 0) = false := beq_eq_false_iff_ne.2 n1
            obtain ⟨k0, k1, f0, f1⟩ := E9.two
            have qE2 := E2.lt
            have qE3 := E3.lt
            have qE4 := E4.lt
            have qE9 := E9.lt
            have qEM := EM.lt
            have hs0 := Nat.le_refl w4.heap.size
            have hq := below_new w4 (.cells #[.int .i64 0, .int .i64 0] 35)
            replace E2 := E2.below hq
            replace E3 := E3.below hq
            replace E4 := E4.below hq
            replace S1 := S1.below hq
            replace E9 := E9.below hq
            replace EM := EM.below hq
            replace S2 := S2.below hq
            have E12 := Box.put (w := w4) (k := (w4.heap.size)) (.cells #[.int .i64 0, .int .i64 0] 35) rfl
            replace hs0 := Nat.le_trans hs0 hq.size
            replace hB := hB.trans (hq.mono hB.size)
            clear hq
            go_wp2_with fail
            clear k0 k1 f0 f1
            obtain ⟨u5, hname⟩ := nm hB
            rw [hname] at hs0 hB E2 E3 E4 S1 E9 EM S2 E12 ⊢
            have zh5 := hB.size
            have zs5 := hs0
            clear hname hs0
            obtain ⟨k0, k1, k2, f0, f1, f2⟩ := E2.three
            obtain ⟨k3, k4, f3, f4⟩ := E3.two
            obtain ⟨k5, k6, f5, f6⟩ := E4.two
            have qE2 := E2.lt
            have qE3 := E3.lt
            have qE4 := E4.lt
            go_region
            all_goals
              go_wp2
              refine bodyPost_ret (v := .tuple #[.agg #[.bool false, .slice none 0 0, .slice none 0 0], .agg #[.int .i64 6, .int .i64 0]]) (by simp [results, Tryz.f10, go_sem, k0, k1, k2, k3, k4]) rfl ?_
              refine ⟨false, none, 0, [], none, 0, [], 6, 0, rfl, ⟨Seg.nil _ _, Seg.nil _ _⟩, .bad HB.out (HST.out.badUp HB.out G1), ?_⟩
              repeat (first | exact hB | refine Below.drew ?_ | refine Below.setCell ?_ (by simp) _)
        · skip
          obtain ⟨T2, hT2⟩ : ∃ T, s.extract (k + 1) s.size = T := ⟨_, rfl⟩
          have HO2 : Hid (octs T2 = (octs s).drop (k + 1)) := by rw [Hid, ← hT2, octs_extract, List.take_of_length_le (by rw [List.length_drop, octs_len]; omega)]
          have sz2 : T2.size ≤ 400 := by rw [← octs_len, HO2.out, List.length_drop, octs_len]; omega
          have qE2 := E2.lt
          have qE3 := E3.lt
          have qE4 := E4.lt
          have hs0 := Nat.le_refl w2.heap.size
          have hq := below_new w2 (.cells #[.int .i64 0, .int .i64 0] 35)
          replace E2 := E2.below hq
          replace E3 := E3.below hq
          replace E4 := E4.below hq
          replace S1 := S1.below hq
          have E9 := Box.put (w := w2) (k := (w2.heap.size)) (.cells #[.int .i64 0, .int .i64 0] 35) rfl
          replace hs0 := Nat.le_trans hs0 hq.size
          replace hB := hB.trans (hq.mono hB.size)
          clear hq
          have hq := below_new (w2.alloc (.cells #[.int .i64 0, .int .i64 0] 35)) (.cells #[.int .u64 1] 42)
          replace E2 := E2.below hq
          replace E3 := E3.below hq
          replace E4 := E4.below hq
          replace S1 := S1.below hq
          replace E9 := E9.below hq
          have EM := Box.put (w := (w2.alloc (.cells #[.int .i64 0, .int .i64 0] 35))) (k := (w2.heap.size + 1)) (.cells #[.int .u64 1] 42) (by simp)
          replace hs0 := Nat.le_trans hs0 hq.size
          replace hB := hB.trans (hq.mono hB.size)
          clear hq
          go_wp2_with fail
          obtain ⟨u3, hname⟩ := nm hB
          rw [hname] at hs0 hB E2 E3 E4 S1 E9 EM ⊢
          have zh3 := hB.size
          have zs3 := hs0
          clear hname hs0
          refine (jget_any T2 _ (Or.inl (by omega))).mono ?_
          rintro e w4 ⟨a2, c2, z2, e2, p2, rfl, S2, I2, L2, hb⟩
          replace E2 := E2.below hb
          replace E3 := E3.below hb
          replace E4 := E4.below hb
          replace S1 := S1.below hb
          replace E9 := E9.below hb
          replace EM := EM.below hb
          replace hB := hB.trans (hb.mono hB.size)
          have zz4 := hb.size
          have zh4 := hB.size
          clear hb
          have l2 : z2.length ≤ 800 := by rw [octs_len] at L2; omega
          rw [HO2.out] at I2
          clear hT2 L2
          have HLT : Hid (k < (octs s).length) := by rw [Hid, octs_len]; exact hlt
          rcases I2.parts with ⟨n2, x2, G2⟩ | ⟨rfl, rfl, N2, G2⟩
          · skip
            have n2b : (e2 == 0) = false := beq_eq_false_iff_ne.2 n2
            have qE2 := E2.lt
            have qE3 := E3.lt
            have qE4 := E4.lt
            have qE9 := E9.lt
            have qEM := EM.lt
            have hs0 := Nat.le_refl w4.heap.size
            have hq := below_new w4 (.cells #[.int .i64 e2, .int .i64 p2] 35)
            replace E2 := E2.below hq
            replace E3 := E3.below hq
            replace E4 := E4.below hq
            replace S1 := S1.below hq
            replace E9 := E9.below hq
            replace EM := EM.below hq
            replace S2 := S2.below hq
            have E12 := Box.put (w := w4) (k := (w4.heap.size)) (.cells #[.int .i64 e2, .int .i64 p2] 35) rfl
            replace hs0 := Nat.le_trans hs0 hq.size
            replace hB := hB.trans (hq.mono hB.size)
            clear hq
            go_wp2_with fail
            obtain ⟨u5, hname⟩ := nm hB
            rw [hname] at hs0 hB E2 E3 E4 S1 E9 EM S2 E12 ⊢
            have zh5 := hB.size
            have zs5 := hs0
            clear hname hs0
            obtain ⟨k0, k1, k2, f0, f1, f2⟩ := E2.three
            obtain ⟨k3, k4, f3, f4⟩ := E3.two
            obtain ⟨k5, k6, f5, f6⟩ := E4.two
            have qE2 := E2.lt
            have qE3 := E3.lt
            have qE4 := E4.lt
            go_region
            all_goals
              go_wp2
              refine bodyPost_ret (v := .tuple #[.agg #[.bool false, .slice none 0 0, .slice none 0 0], .agg #[.int .i64 6, .int .i64 0]]) (by simp [results, Tryz.f10, go_sem, k0, k1, k2, k3, k4]) rfl ?_
              refine ⟨false, none, 0, [], none, 0, [], 6, 0, rfl, ⟨Seg.nil _ _, Seg.nil _ _⟩, .bad HB.out (HST.out.badDown HB.out HLT.out G2), ?_⟩
              repeat (first | exact hB | refine Below.drew ?_ | refine Below.setCell ?_ (by simp) _)
          · skip
            have HG1 := hide G1
            clear G1
            have G1 := HG1
            have HG2 := hide G2
            clear G2
            by_cases hz : z2 = []
            · skip
              have hzl : (z2.length : Int) = 0 := by rw [hz]; rfl
              have HG3 : Hid (getZ ((octs s).drop (k + 1)) = .ok 0) := by rw [Hid, HG2.out, hz]; rfl
              clear hz
              obtain ⟨k0, k1, f0, f1⟩ := E9.two
              have qE2 := E2.lt
              have qE3 := E3.lt
              have qE4 := E4.lt
              have qE9 := E9.lt
              have qEM := EM.lt
              have hs0 := Nat.le_refl w4.heap.size
              have hq := below_new w4 (.cells #[.int .i64 0, .int .i64 0] 35)
              replace E2 := E2.below hq
              replace E3 := E3.below hq
              replace E4 := E4.below hq
              replace S1 := S1.below hq
              replace E9 := E9.below hq
              replace EM := EM.below hq
              replace S2 := S2.below hq
              have E12 := Box.put (w := w4) (k := (w4.heap.size)) (.cells #[.int .i64 0, .int .i64 0] 35) rfl
              replace hs0 := Nat.le_trans hs0 hq.size
              replace hB := hB.trans (hq.mono hB.size)
              clear hq
              go_wp2_with fail
              clear k0 k1 f0 f1
              obtain ⟨u5, hname⟩ := nm hB
              rw [hname] at hs0 hB E2 E3 E4 S1 E9 EM S2 E12 ⊢
              have zh5 := hB.size
              have zs5 := hs0
              clear hname hs0
              obtain ⟨k0, k1, k2, f0, f1, f2⟩ := E2.three
              obtain ⟨k3, k4, f3, f4⟩ := E3.two
              obtain ⟨k5, k6, f5, f6⟩ := E4.two
              have qE2 := E2.lt
              have qE3 := E3.lt
              have qE4 := E4.lt
              go_region
              all_goals
                go_wp2
                refine bodyPost_ret (v := .tuple #[.agg #[.bool false, .slice none 0 0, .slice none 0 0], .agg #[.int .i64 6, .int .i64 0]]) (by simp [results, Tryz.f10, go_sem, k0, k1, k2, k3, k4]) rfl ?_
                refine ⟨false, none, 0, [], none, 0, [], 6, 0, rfl, ⟨Seg.nil _ _, Seg.nil _ _⟩, .bad HB.out (HST.out.badZero HB.out HLT.out HG3.out), ?_⟩
                repeat (first | exact hB | refine Below.drew ?_ | refine Below.setCell ?_ (by simp) _)
            · skip
              have hzl : ¬ (z2.length : Int) = 0 := by have := List.length_pos_iff.2 hz; omega
              clear hz
              obtain ⟨k0, k1, f0, f1⟩ := E9.two
              have qE2 := E2.lt
              have qE3 := E3.lt
              have qE4 := E4.lt
              have qE9 := E9.lt
              have qEM := EM.lt
              have hs0 := Nat.le_refl w4.heap.size
              have hq := below_new w4 (.cells #[.int .i64 0, .int .i64 0] 35)
              replace E2 := E2.below hq
              replace E3 := E3.below hq
              replace E4 := E4.below hq
              replace S1 := S1.below hq
              replace E9 := E9.below hq
              replace EM := EM.below hq
              replace S2 := S2.below hq
              have E12 := Box.put (w := w4) (k := (w4.heap.size)) (.cells #[.int .i64 0, .int .i64 0] 35) rfl
              replace hs0 := Nat.le_trans hs0 hq.size
              replace hB := hB.trans (hq.mono hB.size)
              clear hq
              go_wp2_with fail
              clear k0 k1 f0 f1
              obtain ⟨u5, hname⟩ := nm hB
              rw [hname] at hs0 hB E2 E3 E4 S1 E9 EM S2 E12 ⊢
              have zh5 := hB.size
              have zs5 := hs0
              clear hname hs0
              refine (imake_any S1 (by omega) false).mono ?_
              rintro e w6 ⟨b3, a3, c3, y3, rfl, S3, C3, V3, l3, hb⟩
              replace E2 := E2.below hb
              replace E3 := E3.below hb
              replace E4 := E4.below hb
              replace S1 := S1.below hb
              replace E9 := E9.below hb
              replace EM := EM.below hb
              replace S2 := S2.below hb
              replace E12 := E12.below hb
              replace hB := hB.trans (hb.mono hB.size)
              have zz6 := hb.size
              have zh6 := hB.size
              clear hb
              have HV3 := hide V3
              clear V3
              by_cases hf : formR b3 y3 z2 = 0
              · skip
                obtain ⟨tz, htz⟩ : ∃ t, textZ b3 (val y3) (val z2) = t := ⟨_, rfl⟩
                have HTZ := hide htz
                have htO : Octs tz := by rw [← htz]; exact textZ_octs _ _ _
                clear htz
                have hteq : ((strOfNums tz).toList == s.toList) = decide (tz = octs s) := by rw [str_eq, octs_str htO]
                have HF := hide hf
                clear hf
                have qE2 := E2.lt
                have qE3 := E3.lt
                have qE4 := E4.lt
                have qE9 := E9.lt
                have qEM := EM.lt
                have qE12 := E12.lt
                have hs0 := Nat.le_refl w6.heap.size
                have hq := below_new w6 (.cells #[.bool b3, .slice a3 y3.length c3, .slice a2 z2.length c2] 27)
                replace E2 := E2.below hq
                replace E3 := E3.below hq
                replace E4 := E4.below hq
                replace S1 := S1.below hq
                replace E9 := E9.below hq
                replace EM := EM.below hq
                replace S2 := S2.below hq
                replace E12 := E12.below hq
                replace S3 := S3.below hq
                have E13 := Box.put (w := w6) (k := (w6.heap.size)) (.cells #[.bool b3, .slice a3 y3.length c3, .slice a2 z2.length c2] 27) rfl
                replace hs0 := Nat.le_trans hs0 hq.size
                replace hB := hB.trans (hq.mono hB.size)
                clear hq
                go_wp2_with fail
                obtain ⟨u7, hname⟩ := nm hB
                rw [hname] at hs0 hB E2 E3 E4 S1 E9 EM S2 E12 S3 E13 ⊢
                have zh7 := hB.size
                have zs7 := hs0
                clear hname hs0
                have hk := jtext_ok (lo := 0) b3 ⟨S3.mono (Nat.zero_le _), S2.mono (Nat.zero_le _)⟩ (by omega) (by first | omega | simp) HF.out
                rw [HTZ.out] at hk
                refine (hk).mono ?_
                rintro e w8 ⟨rfl, hb⟩
                replace E2 := E2.below hb
                replace E3 := E3.below hb
                replace E4 := E4.below hb
                replace S1 := S1.below hb
                replace E9 := E9.below hb
                replace EM := EM.below hb
                replace S2 := S2.below hb
                replace E12 := E12.below hb
                replace S3 := S3.below hb
                replace E13 := E13.below hb
                replace hB := hB.trans (hb.mono hB.size)
                have zz8 := hb.size
                have zh8 := hB.size
                clear hb
                clear hk
                by_cases ht : tz = octs s
                · skip
                  rw [decide_eq_true ht] at hteq
                  have HT := hide ht
                  clear ht
                  obtain ⟨k0, k1, k2, f0, f1, f2⟩ := E2.three
                  obtain ⟨k3, k4, f3, f4⟩ := E3.two
                  obtain ⟨k5, k6, k7, f5, f6, f7⟩ := E13.three
                  have qE2 := E2.lt
                  have qE3 := E3.lt
                  have qE4 := E4.lt
                  have qE9 := E9.lt
                  have qEM := EM.lt
                  have qE12 := E12.lt
                  have qE13 := E13.lt
                  have hs0 := Nat.le_refl w8.heap.size
                  have hT := turns3 (w.heap.size) w8 (.bool b3) (.slice a3 y3.length c3) (.slice a2 z2.length c2)
                  replace E3 := E3.turns hT (by omega)
                  replace E4 := E4.turns hT (by omega)
                  replace S1 := S1.beside E2 (noWord3 (fun _ e => by cases e) (fun _ e => by cases e) (fun _ e => by cases e)) hT
                  replace E9 := E9.turns hT (by omega)
                  replace EM := EM.turns hT (by omega)
                  replace S2 := S2.beside E2 (noWord3 (fun _ e => by cases e) (fun _ e => by cases e) (fun _ e => by cases e)) hT
                  replace E12 := E12.turns hT (by omega)
                  replace S3 := S3.beside E2 (noWord3 (fun _ e => by cases e) (fun _ e => by cases e) (fun _ e => by cases e)) hT
                  replace E13 := E13.turns hT (by omega)
                  replace E2 := Box.set3 (.bool b3) (.slice a3 y3.length c3) (.slice a2 z2.length c2) E2
                  replace hB := hB.trans (hT.below.mono (by omega))
                  replace hs0 := Nat.le_trans hs0 hT.below.size
                  clear hT
                  have hT := (((Turns.refl (w.heap.size + 1) (((w8.setCell ⟨w.heap.size, 0, none⟩ (.bool b3)).setCell ⟨w.heap.size, 1, none⟩ (.slice a3 y3.length c3)).setCell ⟨w.heap.size, 2, none⟩ (.slice a2 z2.length c2))).setCell 0 (.int .i64 0)).setCell 1 (.int .i64 0))
                  replace E2 := E2.turns hT (by omega)
                  replace E4 := E4.turns hT (by omega)
                  replace S1 := S1.beside E3 (noWord2 (fun _ e => by cases e) (fun _ e => by cases e)) hT
                  replace E9 := E9.turns hT (by omega)
                  replace EM := EM.turns hT (by omega)
                  replace S2 := S2.beside E3 (noWord2 (fun _ e => by cases e) (fun _ e => by cases e)) hT
                  replace E12 := E12.turns hT (by omega)
                  replace S3 := S3.beside E3 (noWord2 (fun _ e => by cases e) (fun _ e => by cases e)) hT
                  replace E13 := E13.turns hT (by omega)
                  replace E3 : Box (((((w8.setCell ⟨w.heap.size, 0, none⟩ (.bool b3)).setCell ⟨w.heap.size, 1, none⟩ (.slice a3 y3.length c3)).setCell ⟨w.heap.size, 2, none⟩ (.slice a2 z2.length c2)).setCell ⟨w.heap.size + 1, 0, none⟩ (.int .i64 0)).setCell ⟨w.heap.size + 1, 1, none⟩ (.int .i64 0)) (w.heap.size + 1) (.cells #[.int .i64 0, .int .i64 0] 35) := ⟨Nat.lt_of_lt_of_le E3.lt hT.below.size, (heap_setCell_same _ _ 1 _ _ _ (heap_setCell_same _ _ 0 _ _ _ E3.what))⟩
                  replace hB := hB.trans (hT.below.mono (by omega))
                  replace hs0 := Nat.le_trans hs0 hT.below.size
                  clear hT
                  go_wp2
                  clear k0 k1 k2 f0 f1 f2 k3 k4 f3 f4 k5 k6 k7 f5 f6 f7
                  have r2 := E2.three
                  have r3 := E3.two
                  refine bodyPost_ret (v := .tuple #[.agg #[.bool b3, .slice a3 y3.length c3, .slice a2 z2.length c2], .agg #[.int .i64 0, .int .i64 0]]) (by simp [results, Tryz.f10, go_sem, r2.1, r2.2.1, r2.2.2.1, r3.1, r3.2.1]) rfl ?_
                  exact ⟨b3, _, _, y3, _, _, z2, 0, 0, rfl, ⟨S3.mono (by omega), S2.mono (by omega)⟩, .ok ((formR_low S3.words S2.words).1 HF.out) (HTZ.out.trans HT.out) HB.out, hB⟩
                · skip
                  rw [decide_eq_false ht] at hteq
                  have HT := hide ht
                  clear ht
                  go_wp2_with fail
                  obtain ⟨k0, k1, k2, f0, f1, f2⟩ := E2.three
                  obtain ⟨k3, k4, f3, f4⟩ := E3.two
                  obtain ⟨k5, k6, f5, f6⟩ := E4.two
                  have qE2 := E2.lt
                  have qE3 := E3.lt
                  have qE4 := E4.lt
                  go_region
                  all_goals
                    go_wp2
                    refine bodyPost_ret (v := .tuple #[.agg #[.bool false, .slice none 0 0, .slice none 0 0], .agg #[.int .i64 6, .int .i64 0]]) (by simp [results, Tryz.f10, go_sem, k0, k1, k2, k3, k4]) rfl ?_
                    refine ⟨false, none, 0, [], none, 0, [], 6, 0, rfl, ⟨Seg.nil _ _, Seg.nil _ _⟩, .bad HB.out (HST.out.badForm HB.out G1.out (Or.inl ⟨HLT.out, HG2.out⟩) S2.words N2 S3.words C3 HV3.out (fun h => HT.out (HTZ.out.symm.trans h.2))), ?_⟩
                    repeat (first | exact hB | refine Below.drew ?_ | refine Below.setCell ?_ (by simp) _)
              · skip
                have HF := hide hf
                clear hf
                have qE2 := E2.lt
                have qE3 := E3.lt
                have qE4 := E4.lt
                have qE9 := E9.lt
                have qEM := EM.lt
                have qE12 := E12.lt
                have hs0 := Nat.le_refl w6.heap.size
                have hq := below_new w6 (.cells #[.bool b3, .slice a3 y3.length c3, .slice a2 z2.length c2] 27)
                replace E2 := E2.below hq
                replace E3 := E3.below hq
                replace E4 := E4.below hq
                replace S1 := S1.below hq
                replace E9 := E9.below hq
                replace EM := EM.below hq
                replace S2 := S2.below hq
                replace E12 := E12.below hq
                replace S3 := S3.below hq
                have E13 := Box.put (w := w6) (k := (w6.heap.size)) (.cells #[.bool b3, .slice a3 y3.length c3, .slice a2 z2.length c2] 27) rfl
                replace hs0 := Nat.le_trans hs0 hq.size
                replace hB := hB.trans (hq.mono hB.size)
                clear hq
                go_wp2_with fail
                obtain ⟨u7, hname⟩ := nm hB
                rw [hname] at hs0 hB E2 E3 E4 S1 E9 EM S2 E12 S3 E13 ⊢
                have zh7 := hB.size
                have zs7 := hs0
                clear hname hs0
                refine (jtext_no (lo := 0) b3 ⟨S3.mono (Nat.zero_le _), S2.mono (Nat.zero_le _)⟩ (by omega) (by first | omega | simp) HF.out).mono ?_
                rintro e w8 ⟨rfl, hb⟩
                replace E2 := E2.below hb
                replace E3 := E3.below hb
                replace E4 := E4.below hb
                replace S1 := S1.below hb
                replace E9 := E9.below hb
                replace EM := EM.below hb
                replace S2 := S2.below hb
                replace E12 := E12.below hb
                replace S3 := S3.below hb
                replace E13 := E13.below hb
                replace hB := hB.trans (hb.mono hB.size)
                have zz8 := hb.size
                have zh8 := hB.size
                clear hb
                go_wp2_with fail
                obtain ⟨k0, k1, k2, f0, f1, f2⟩ := E2.three
                obtain ⟨k3, k4, f3, f4⟩ := E3.two
                obtain ⟨k5, k6, f5, f6⟩ := E4.two
                have qE2 := E2.lt
                have qE3 := E3.lt
                have qE4 := E4.lt
                go_region
                all_goals
                  go_wp2
                  refine bodyPost_ret (v := .tuple #[.agg #[.bool false, .slice none 0 0, .slice none 0 0], .agg #[.int .i64 6, .int .i64 0]]) (by simp [results, Tryz.f10, go_sem, k0, k1, k2, k3, k4]) rfl ?_
                  refine ⟨false, none, 0, [], none, 0, [], 6, 0, rfl, ⟨Seg.nil _ _, Seg.nil _ _⟩, .bad HB.out (HST.out.badForm HB.out G1.out (Or.inl ⟨HLT.out, HG2.out⟩) S2.words N2 S3.words C3 HV3.out (fun h => HF.out h.1)), ?_⟩
                  repeat (first | exact hB | refine Below.drew ?_ | refine Below.setCell ?_ (by simp) _)
      · have HJ2 : Hid (∀ j, j < k + 1 → (octs s)[j]?.getD 0 ≠ 47) := by
          rw [Hid]
          intro j hj
          by_cases e : j = k
          · rw [e, hy]; exact h47
          · exact HJ.out j (by omega)
        have hms : s.size - (k + 1) < s.size - k := by omega
        clear hy
        go_wp2
        refine ⟨⟨k + 1, by simp, by omega, HJ2, E2, E3, E4, hB⟩, by simpa [intOf] using hms⟩
    · skip
      have HJX := HJ
      have hlt2 : ¬ (k : Int) < (s.size : Int) := by omega
      have HST : Hid (Parsed (octs s) false (octs s) k) := HP.out k ⟨by rw [octs_len]; omega, HJ.out, Or.inl (by rw [octs_len]; omega)⟩
      clear HJ
      obtain ⟨j, hj, hjb⟩ := HYS.out
      exact absurd hjb (HJX.out j (by omega))
set_option maxRecDepth 100000 in
set_option maxHeartbeats 8000000 in
theorem jread_zero (s : ByteArray) (w : World) (hz0 : s.size = 0) : Calls Tryz.prog 10 #[.string s] w fun e w' => ReadSaid (octs s) w e w' := by
  have hS : s.size ≤ 400 := by omega
  have HLEN := hide (octs_len s)
  have hB := Below.refl w.heap.size w
  go_enter Tryz.func10, Tryz.ntmps10
  have HB : Hid ((octs s).length ≤ 10000) := by rw [Hid, HLEN.out]; omega
  have h2 : ¬ (10000 : Int) < (s.size : Int) := by omega
  have HP : Hid (∀ k, Stroke (octs s) k → Parsed (octs s) false (octs s) k) := fun k st => by
    refine ⟨rfl, fun _ h => ?_, st⟩
    have hx := List.length_eq_zero_iff.1 (HLEN.out.trans hz0)
    simp [hx] at h
  have hs0 := Nat.le_refl w.heap.size
  have hq := below_new w (.cells #[.bool false, .slice none 0 0, .slice none 0 0] 27)
  have E2 := Box.put (w := w) (k := (w.heap.size)) (.cells #[.bool false, .slice none 0 0, .slice none 0 0] 27) rfl
  replace hs0 := Nat.le_trans hs0 hq.size
  replace hB := hB.trans (hq.mono hB.size)
  clear hq
  have hq := below_new (w.alloc (.cells #[.bool false, .slice none 0 0, .slice none 0 0] 27)) (.cells #[.int .i64 0, .int .i64 0] 35)
  replace E2 := E2.below hq
  have E3 := Box.put (w := (w.alloc (.cells #[.bool false, .slice none 0 0, .slice none 0 0] 27))) (k := (w.heap.size + 1)) (.cells #[.int .i64 0, .int .i64 0] 35) (by simp)
  replace hs0 := Nat.le_trans hs0 hq.size
  replace hB := hB.trans (hq.mono hB.size)
  clear hq
  have hq := below_new ((w.alloc (.cells #[.bool false, .slice none 0 0, .slice none 0 0] 27)).alloc (.cells #[.int .i64 0, .int .i64 0] 35)) (.cells #[.int .i64 6, .int .i64 0] 35)
  replace E2 := E2.below hq
  replace E3 := E3.below hq
  have E4 := Box.put (w := ((w.alloc (.cells #[.bool false, .slice none 0 0, .slice none 0 0] 27)).alloc (.cells #[.int .i64 0, .int .i64 0] 35))) (k := (w.heap.size + 2)) (.cells #[.int .i64 6, .int .i64 0] 35) (by simp)
  replace hs0 := Nat.le_trans hs0 hq.size
  replace hB := hB.trans (hq.mono hB.size)
  clear hq
  go_wp2_with fail
  obtain ⟨u1, hname⟩ := nm hB
  rw [hname] at hs0 hB E2 E3 E4 ⊢
  have zh1 := hB.size
  have zs1 := hs0
  clear hname hs0
  go_loopw [7] (fun kv wq => ∃ (k : Nat), kv = .int .i64 k ∧ k ≤ s.size ∧ Hid (∀ j, j < k → (octs s)[j]?.getD 0 ≠ 47) ∧ Box wq (w.heap.size) (.cells #[.bool false, .slice none 0 0, .slice none 0 0] 27) ∧ Box wq (w.heap.size + 1) (.cells #[.int .i64 0, .int .i64 0] 35) ∧ Box wq (w.heap.size + 2) (.cells #[.int .i64 6, .int .i64 0] 35) ∧ Below w.heap.size w wq) (fun kv _ => s.size - (intOf kv).toNat)
  case atStart => exact ⟨0, rfl, Nat.zero_le _, fun j hj => absurd hj (Nat.not_lt_zero j), E2, E3, E4, hB⟩
  case round =>
    clear E2 E3 E4 hB
    obtain ⟨k, rfl, hk, HJ, E2, E3, E4, hB⟩ := hrel
    have zB := hB.size
    have hge : (0 : Int) ≤ (k : Int) := by omega
    have hw1 : IntKind.i64.wrap ((k : Int) + 1) = (k : Int) + 1 := by rw [IntKind.wrap_i64]; omega
    by_cases hlt : k < s.size
    · exfalso; omega
    · skip
      have HJX := HJ
      have hlt2 : ¬ (k : Int) < (s.size : Int) := by omega
      have HST : Hid (Parsed (octs s) false (octs s) k) := HP.out k ⟨by rw [octs_len]; omega, HJ.out, Or.inl (by rw [octs_len]; omega)⟩
      clear HJ
      obtain ⟨T1, hT1⟩ : ∃ T, s.extract 0 k = T := ⟨_, rfl⟩
      have HO1 : Hid (octs T1 = (octs s).take k) := by rw [Hid, ← hT1, octs_extract, List.drop_zero, Nat.sub_zero]
      have sz1 : T1.size ≤ 400 := by rw [← octs_len, HO1.out, List.length_take, octs_len]; omega
      go_wp2_with fail
      refine (jget_any T1 _ (Or.inl (by omega))).mono ?_
      rintro e w2 ⟨a1, c1, z1, e1, p1, rfl, S1, I1, L1, hb⟩
      replace E2 := E2.below hb
      replace E3 := E3.below hb
      replace E4 := E4.below hb
      replace hB := hB.trans (hb.mono hB.size)
      have zz2 := hb.size
      have zh2 := hB.size
      clear hb
      have l1 : z1.length ≤ 800 := by rw [octs_len] at L1; omega
      rw [HO1.out] at I1
      clear hT1 L1
      rcases I1.parts with ⟨n1, x1, G1⟩ | ⟨rfl, rfl, N1, G1⟩
      · skip
        have n1b : (e1 == 0) = false := beq_eq_false_iff_ne.2 n1
        have qE2 := E2.lt
        have qE3 := E3.lt
        have qE4 := E4.lt
        have hs0 := Nat.le_refl w2.heap.size
        have hq := below_new w2 (.cells #[.int .i64 e1, .int .i64 p1] 35)
        replace E2 := E2.below hq
        replace E3 := E3.below hq
        replace E4 := E4.below hq
        replace S1 := S1.below hq
        have E9 := Box.put (w := w2) (k := (w2.heap.size)) (.cells #[.int .i64 e1, .int .i64 p1] 35) rfl
        replace hs0 := Nat.le_trans hs0 hq.size
        replace hB := hB.trans (hq.mono hB.size)
        clear hq
        have hq := below_new (w2.alloc (.cells #[.int .i64 e1, .int .i64 p1] 35)) (.cells #[.int .u64 1] 42)
        replace E2 := E2.below hq
        replace E3 := E3.below hq
        replace E4 := E4.below hq
        replace S1 := S1.below hq
        replace E9 := E9.below hq
        have EM := Box.put (w := (w2.alloc (.cells #[.int .i64 e1, .int .i64 p1] 35))) (k := (w2.heap.size + 1)) (.cells #[.int .u64 1] 42) (by simp)
        replace hs0 := Nat.le_trans hs0 hq.size
        replace hB := hB.trans (hq.mono hB.size)
        clear hq
        go_wp2_with fail
        obtain ⟨u3, hname⟩ := nm hB
        rw [hname] at hs0 hB E2 E3 E4 S1 E9 EM ⊢
        have zh3 := hB.size
        have zs3 := hs0
        clear hname hs0
        obtain ⟨k0, k1, k2, f0, f1, f2⟩ := E2.three
        obtain ⟨k3, k4, f3, f4⟩ := E3.two
        obtain ⟨k5, k6, f5, f6⟩ := E4.two
        have qE2 := E2.lt
        have qE3 := E3.lt
        have qE4 := E4.lt
        go_region
        all_goals
          go_wp2
          refine bodyPost_ret (v := .tuple #[.agg #[.bool false, .slice none 0 0, .slice none 0 0], .agg #[.int .i64 6, .int .i64 0]]) (by simp [results, Tryz.f10, go_sem, k0, k1, k2, k3, k4]) rfl ?_
          refine ⟨false, none, 0, [], none, 0, [], 6, 0, rfl, ⟨Seg.nil _ _, Seg.nil _ _⟩, .bad HB.out (HST.out.badUp HB.out G1), ?_⟩
          repeat (first | exact hB | refine Below.drew ?_ | refine Below.setCell ?_ (by simp) _)
      · skip
        have qE2 := E2.lt
        have qE3 := E3.lt
        have qE4 := E4.lt
        have hs0 := Nat.le_refl w2.heap.size
        have hq := below_new w2 (.cells #[.int .i64 0, .int .i64 0] 35)
        replace E2 := E2.below hq
        replace E3 := E3.below hq
        replace E4 := E4.below hq
        replace S1 := S1.below hq
        have E9 := Box.put (w := w2) (k := (w2.heap.size)) (.cells #[.int .i64 0, .int .i64 0] 35) rfl
        replace hs0 := Nat.le_trans hs0 hq.size
        replace hB := hB.trans (hq.mono hB.size)
        clear hq
        have hq := below_new (w2.alloc (.cells #[.int .i64 0, .int .i64 0] 35)) (.cells #[.int .u64 1] 42)
        replace E2 := E2.below hq
        replace E3 := E3.below hq
        replace E4 := E4.below hq
        replace S1 := S1.below hq
        replace E9 := E9.below hq
        have EM := Box.put (w := (w2.alloc (.cells #[.int .i64 0, .int .i64 0] 35))) (k := (w2.heap.size + 1)) (.cells #[.int .u64 1] 42) (by simp)
        replace hs0 := Nat.le_trans hs0 hq.size
        replace hB := hB.trans (hq.mono hB.size)
        clear hq
        go_wp2_with fail
        obtain ⟨u3, hname⟩ := nm hB
        rw [hname] at hs0 hB E2 E3 E4 S1 E9 EM ⊢
        have zh3 := hB.size
        have zs3 := hs0
        clear hname hs0
        have SD : Seg (w2.heap.size + 1) _ (.slice (some ⟨w2.heap.size + 1, 0, none⟩) [1].length 1) [1] := seg_one EM
        have HG1 := hide G1
        clear G1
        have G1 := HG1
        refine (imake_any S1 (by omega) false).mono ?_
        rintro e w4 ⟨b3, a3, c3, y3, rfl, S3, C3, V3, l3, hb⟩
        replace E2 := E2.below hb
        replace E3 := E3.below hb
        replace E4 := E4.below hb
        replace S1 := S1.below hb
        replace E9 := E9.below hb
        replace EM := EM.below hb
        replace SD := SD.below hb
        replace hB := hB.trans (hb.mono hB.size)
        have zz4 := hb.size
        have zh4 := hB.size
        clear hb
        have HV3 := hide V3
        clear V3
        by_cases hf : formR b3 y3 [1] = 0
        · skip
          obtain ⟨tz, htz⟩ : ∃ t, textZ b3 (val y3) (val [1]) = t := ⟨_, rfl⟩
          have HTZ := hide htz
          have htO : Octs tz := by rw [← htz]; exact textZ_octs _ _ _
          clear htz
          have hteq : ((strOfNums tz).toList == s.toList) = decide (tz = octs s) := by rw [str_eq, octs_str htO]
          have HF := hide hf
          clear hf
          have qE2 := E2.lt
          have qE3 := E3.lt
          have qE4 := E4.lt
          have qE9 := E9.lt
          have qEM := EM.lt
          have hs0 := Nat.le_refl w4.heap.size
          have hq := below_new w4 (.cells #[.bool b3, .slice a3 y3.length c3, .slice (some ⟨w2.heap.size + 1, 0, none⟩) 1 1] 27)
          replace E2 := E2.below hq
          replace E3 := E3.below hq
          replace E4 := E4.below hq
          replace S1 := S1.below hq
          replace E9 := E9.below hq
          replace EM := EM.below hq
          replace SD := SD.below hq
          replace S3 := S3.below hq
          have E13 := Box.put (w := w4) (k := (w4.heap.size)) (.cells #[.bool b3, .slice a3 y3.length c3, .slice (some ⟨w2.heap.size + 1, 0, none⟩) 1 1] 27) rfl
          replace hs0 := Nat.le_trans hs0 hq.size
          replace hB := hB.trans (hq.mono hB.size)
          clear hq
          go_wp2_with fail
          obtain ⟨u5, hname⟩ := nm hB
          rw [hname] at hs0 hB E2 E3 E4 S1 E9 EM SD S3 E13 ⊢
          have zh5 := hB.size
          have zs5 := hs0
          clear hname hs0
          have hk := jtext_ok (lo := 0) b3 ⟨S3.mono (Nat.zero_le _), SD.mono (Nat.zero_le _)⟩ (by omega) (by first | omega | simp) HF.out
          rw [HTZ.out] at hk
          refine (hk).mono ?_
          rintro e w6 ⟨rfl, hb⟩
          replace E2 := E2.below hb
          replace E3 := E3.below hb
          replace E4 := E4.below hb
          replace S1 := S1.below hb
          replace E9 := E9.below hb
          replace EM := EM.below hb
          replace SD := SD.below hb
          replace S3 := S3.below hb
          replace E13 := E13.below hb
          replace hB := hB.trans (hb.mono hB.size)
          have zz6 := hb.size
          have zh6 := hB.size
          clear hb
          clear hk
          by_cases ht : tz = octs s
          · skip
            rw [decide_eq_true ht] at hteq
            have HT := hide ht
            clear ht
            obtain ⟨k0, k1, k2, f0, f1, f2⟩ := E2.three
            obtain ⟨k3, k4, f3, f4⟩ := E3.two
            obtain ⟨k5, k6, k7, f5, f6, f7⟩ := E13.three
            have qE2 := E2.lt
            have qE3 := E3.lt
            have qE4 := E4.lt
            have qE9 := E9.lt
            have qEM := EM.lt
            have qE13 := E13.lt
            have hs0 := Nat.le_refl w6.heap.size
            have hT := turns3 (w.heap.size) w6 (.bool b3) (.slice a3 y3.length c3) (.slice (some ⟨w2.heap.size + 1, 0, none⟩) 1 1)
            replace E3 := E3.turns hT (by omega)
            replace E4 := E4.turns hT (by omega)
            replace S1 := S1.beside E2 (noWord3 (fun _ e => by cases e) (fun _ e => by cases e) (fun _ e => by cases e)) hT
            replace E9 := E9.turns hT (by omega)
            replace EM := EM.turns hT (by omega)
            replace SD := SD.beside E2 (noWord3 (fun _ e => by cases e) (fun _ e => by cases e) (fun _ e => by cases e)) hT
            replace S3 := S3.beside E2 (noWord3 (fun _ e => by cases e) (fun _ e => by cases e) (fun _ e => by cases e)) hT
            replace E13 := E13.turns hT (by omega)
            replace E2 := Box.set3 (.bool b3) (.slice a3 y3.length c3) (.slice (some ⟨w2.heap.size + 1, 0, none⟩) 1 1) E2
            replace hB := hB.trans (hT.below.mono (by omega))
            replace hs0 := Nat.le_trans hs0 hT.below.size
            clear hT
            have hT := (((Turns.refl (w.heap.size + 1) (((w6.setCell ⟨w.heap.size, 0, none⟩ (.bool b3)).setCell ⟨w.heap.size, 1, none⟩ (.slice a3 y3.length c3)).setCell ⟨w.heap.size, 2, none⟩ (.slice (some ⟨w2.heap.size + 1, 0, none⟩) 1 1))).setCell 0 (.int .i64 0)).setCell 1 (.int .i64 0))
            replace E2 := E2.turns hT (by omega)
            replace E4 := E4.turns hT (by omega)
            replace S1 := S1.beside E3 (noWord2 (fun _ e => by cases e) (fun _ e => by cases e)) hT
            replace E9 := E9.turns hT (by omega)
            replace EM := EM.turns hT (by omega)
            replace SD := SD.beside E3 (noWord2 (fun _ e => by cases e) (fun _ e => by cases e)) hT
            replace S3 := S3.beside E3 (noWord2 (fun _ e => by cases e) (fun _ e => by cases e)) hT
            replace E13 := E13.turns hT (by omega)
            replace E3 : Box (((((w6.setCell ⟨w.heap.size, 0, none⟩ (.bool b3)).setCell ⟨w.heap.size, 1, none⟩ (.slice a3 y3.length c3)).setCell ⟨w.heap.size, 2, none⟩ (.slice (some ⟨w2.heap.size + 1, 0, none⟩) 1 1)).setCell ⟨w.heap.size + 1, 0, none⟩ (.int .i64 0)).setCell ⟨w.heap.size + 1, 1, none⟩ (.int .i64 0)) (w.heap.size + 1) (.cells #[.int .i64 0, .int .i64 0] 35) := ⟨Nat.lt_of_lt_of_le E3.lt hT.below.size, (heap_setCell_same _ _ 1 _ _ _ (heap_setCell_same _ _ 0 _ _ _ E3.what))⟩
            replace hB := hB.trans (hT.below.mono (by omega))
            replace hs0 := Nat.le_trans hs0 hT.below.size
            clear hT
            go_wp2
            clear k0 k1 k2 f0 f1 f2 k3 k4 f3 f4 k5 k6 k7 f5 f6 f7
            have r2 := E2.three
            have r3 := E3.two
            refine bodyPost_ret (v := .tuple #[.agg #[.bool b3, .slice a3 y3.length c3, .slice (some ⟨w2.heap.size + 1, 0, none⟩) 1 1], .agg #[.int .i64 0, .int .i64 0]]) (by simp [results, Tryz.f10, go_sem, r2.1, r2.2.1, r2.2.2.1, r3.1, r3.2.1]) rfl ?_
            exact ⟨b3, _, _, y3, _, _, [1], 0, 0, rfl, ⟨S3.mono (by omega), SD.mono (by omega)⟩, .ok ((formR_low S3.words SD.words).1 HF.out) (HTZ.out.trans HT.out) HB.out, hB⟩
          · skip
            rw [decide_eq_false ht] at hteq
            have HT := hide ht
            clear ht
            go_wp2_with fail
            obtain ⟨k0, k1, k2, f0, f1, f2⟩ := E2.three
            obtain ⟨k3, k4, f3, f4⟩ := E3.two
            obtain ⟨k5, k6, f5, f6⟩ := E4.two
            have qE2 := E2.lt
            have qE3 := E3.lt
            have qE4 := E4.lt
            go_region
            all_goals
              go_wp2
              refine bodyPost_ret (v := .tuple #[.agg #[.bool false, .slice none 0 0, .slice none 0 0], .agg #[.int .i64 6, .int .i64 0]]) (by simp [results, Tryz.f10, go_sem, k0, k1, k2, k3, k4]) rfl ?_
              refine ⟨false, none, 0, [], none, 0, [], 6, 0, rfl, ⟨Seg.nil _ _, Seg.nil _ _⟩, .bad HB.out (HST.out.badForm HB.out G1.out (Or.inr ⟨by rw [octs_len]; omega, by decide⟩) SD.words (Or.inr (by decide)) S3.words C3 HV3.out (fun h => HT.out (HTZ.out.symm.trans h.2))), ?_⟩
              repeat (first | exact hB | refine Below.drew ?_ | refine Below.setCell ?_ (by simp) _)
        · skip
          have HF := hide hf
          clear hf
          have qE2 := E2.lt
          have qE3 := E3.lt
          have qE4 := E4.lt
          have qE9 := E9.lt
          have qEM := EM.lt
          have hs0 := Nat.le_refl w4.heap.size
          have hq := below_new w4 (.cells #[.bool b3, .slice a3 y3.length c3, .slice (some ⟨w2.heap.size + 1, 0, none⟩) 1 1] 27)
          replace E2 := E2.below hq
          replace E3 := E3.below hq
          replace E4 := E4.below hq
          replace S1 := S1.below hq
          replace E9 := E9.below hq
          replace EM := EM.below hq
          replace SD := SD.below hq
          replace S3 := S3.below hq
          have E13 := Box.put (w := w4) (k := (w4.heap.size)) (.cells #[.bool b3, .slice a3 y3.length c3, .slice (some ⟨w2.heap.size + 1, 0, none⟩) 1 1] 27) rfl
          replace hs0 := Nat.le_trans hs0 hq.size
          replace hB := hB.trans (hq.mono hB.size)
          clear hq
          go_wp2_with fail
          obtain ⟨u5, hname⟩ := nm hB
          rw [hname] at hs0 hB E2 E3 E4 S1 E9 EM SD S3 E13 ⊢
          have zh5 := hB.size
          have zs5 := hs0
          clear hname hs0
          refine (jtext_no (lo := 0) b3 ⟨S3.mono (Nat.zero_le _), SD.mono (Nat.zero_le _)⟩ (by omega) (by first | omega | simp) HF.out).mono ?_
          rintro e w6 ⟨rfl, hb⟩
          replace E2 := E2.below hb
          replace E3 := E3.below hb
          replace E4 := E4.below hb
          replace S1 := S1.below hb
          replace E9 := E9.below hb
          replace EM := EM.below hb
          replace SD := SD.below hb
          replace S3 := S3.below hb
          replace E13 := E13.below hb
          replace hB := hB.trans (hb.mono hB.size)
          have zz6 := hb.size
          have zh6 := hB.size
          clear hb
          go_wp2_with fail
          obtain ⟨k0, k1, k2, f0, f1, f2⟩ := E2.three
          obtain ⟨k3, k4, f3, f4⟩ := E3.two
          obtain ⟨k5, k6, f5, f6⟩ := E4.two
          have qE2 := E2.lt
          have qE3 := E3.lt
          have qE4 := E4.lt
          go_region
          all_goals
            go_wp2
            refine bodyPost_ret (v := .tuple #[.agg #[.bool false, .slice none 0 0, .slice none 0 0], .agg #[.int .i64 6, .int .i64 0]]) (by simp [results, Tryz.f10, go_sem, k0, k1, k2, k3, k4]) rfl ?_
            refine ⟨false, none, 0, [], none, 0, [], 6, 0, rfl, ⟨Seg.nil _ _, Seg.nil _ _⟩, .bad HB.out (HST.out.badForm HB.out G1.out (Or.inr ⟨by rw [octs_len]; omega, by decide⟩) SD.words (Or.inr (by decide)) S3.words C3 HV3.out (fun h => HF.out h.1)), ?_⟩
            repeat (first | exact hB | refine Below.drew ?_ | refine Below.setCell ?_ (by simp) _)
theorem jread_any (s : ByteArray) (w : World) (hl : s.size ≤ 400 ∨ 10000 < s.size) : Calls Tryz.prog 10 #[.string s] w fun e w' => ReadSaid (octs s) w e w' := by
  have part : ∀ R : ByteArray, (∀ j, j < R.size → (octs R)[j]?.getD 0 ≠ 47) ∨ (∃ j, j < R.size ∧ (octs R)[j]?.getD 0 = 47) := fun R => by
    by_cases h : ∃ j, j < R.size ∧ (octs R)[j]?.getD 0 = 47
    · exact Or.inr h
    · exact Or.inl fun j hj e => h ⟨j, hj, e⟩
  rcases hl with hl | hl
  · by_cases h0 : s.size = 0
    · exact jread_zero s w h0
    · by_cases h1 : (octs s)[0]?.getD 0 = 45
      · rcases part (s.extract 1 s.size) with h | h
        · exact jread_minus1 s _ w hl (by omega) h1 rfl h
        · exact jread_minus2 s _ w hl (by omega) h1 rfl h
      · rcases part s with h | h
        · exact jread_plain1 s w hl ⟨by omega, h1⟩ h
        · exact jread_plain2 s w hl ⟨by omega, h1⟩ h
  · exact jread_long s w hl
end Go.Proofs.YtfcpaejeppedoaaGreatDoor
