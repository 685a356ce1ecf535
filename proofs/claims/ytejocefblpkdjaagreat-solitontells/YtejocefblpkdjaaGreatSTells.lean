/-
  SolitonTells.
-/
import Derived.Test.YtejocefblpkdjaaGreatJSAdd
namespace Go.Proofs.YtejocefblpkdjaaGreat
open Go.RowKit

theorem fr_none (W : World) : Fr 0 W none 0 [] none 0 [] := ⟨Seg.nil _ _, Seg.nil _ _⟩
set_option maxRecDepth 100000 in
set_option maxHeartbeats 4000000 in
theorem lttells_no {lo : Nat} {a : Option Addr} {n c : Nat} {zs : List Int} {w : World} (XT : Intz lo w (.slice a n c) zs) (k : Int) (hl : n ≤ 200) (h : ¬ chkT zs 65536 = 0) :
    Calls Tryz.prog 4 #[.slice a n c, .int .i64 k] w fun e w' => e = .returned (.bool true) ∧ Below w.heap.size w w' := by
  have hd : decide (200 < (n : Int)) = false := decide_eq_false (by omega)
  obtain ⟨r, HR⟩ : ∃ r, Hid (chkT zs k = r) := ⟨_, rfl⟩
  obtain ⟨t, HT⟩ : ∃ t, Hid (totT zs = t) := ⟨_, rfl⟩
  have HC := hide h
  clear h
  have hB := Below.refl w.heap.size w
  go_enter Tryz.func4, Tryz.ntmps4
  go_wp2_with fail
  refine (copyi_far XT (by omega)).mono ?_
  rintro e w1 ⟨a0, c0, rfl, XI, hb⟩
  replace XT := XT.below hb
  replace hB := hB.trans (hb.mono hB.size)
  have zz1 := hb.size
  have zh1 := hB.size
  clear hb
  go_wp2_with fail
  have hk := (tsmean_any XI).mono (fun _ _ h => h.1 HC.out)
  refine (hk).mono ?_
  rintro e w2 ⟨rfl, hb⟩
  replace XT := XT.below hb
  replace XI := XI.below hb
  replace hB := hB.trans (hb.mono hB.size)
  have zz2 := hb.size
  have zh2 := hB.size
  clear hb
  clear hk
  have hs0 := Nat.le_refl w2.heap.size
  have hq := below_new w2 (.cells #[.bool false, .slice none 0 0, .slice none 0 0] 27)
  replace XT := XT.below hq
  replace XI := XI.below hq
  have E1 := Box.put (w := w2) (k := (w2.heap.size)) (.cells #[.bool false, .slice none 0 0, .slice none 0 0] 27) rfl
  replace hs0 := Nat.le_trans hs0 hq.size
  replace hB := hB.trans (hq.mono hB.size)
  clear hq
  go_wp2_with fail
  obtain ⟨u3, hname⟩ := nm hB
  rw [hname] at hs0 hB XT XI E1 ⊢
  have zh3 := hB.size
  have zs3 := hs0
  clear hname hs0
  have hk := (dsmean_any XT).mono (fun _ _ h => h.1 HC.out)
  refine (hk).mono ?_
  rintro e w4 ⟨rfl, hb⟩
  replace XT := XT.below hb
  replace XI := XI.below hb
  replace E1 := E1.below hb
  replace hB := hB.trans (hb.mono hB.size)
  have zz4 := hb.size
  have zh4 := hB.size
  clear hb
  clear hk
  have qE1 := E1.lt
  have hs0 := Nat.le_refl w4.heap.size
  have hq := below_new w4 (.cells #[.bool false, .slice none 0 0, .slice none 0 0] 27)
  replace XT := XT.below hq
  replace XI := XI.below hq
  replace E1 := E1.below hq
  have E2 := Box.put (w := w4) (k := (w4.heap.size)) (.cells #[.bool false, .slice none 0 0, .slice none 0 0] 27) rfl
  replace hs0 := Nat.le_trans hs0 hq.size
  replace hB := hB.trans (hq.mono hB.size)
  clear hq
  go_wp2_with fail
  obtain ⟨u5, hname⟩ := nm hB
  rw [hname] at hs0 hB XT XI E1 E2 ⊢
  have zh5 := hB.size
  have zs5 := hs0
  clear hname hs0
  have hk := tscheck_any XI k
  rw [HR.out] at hk
  refine (hk).mono ?_
  rintro e w6 ⟨rfl, hb⟩
  replace XT := XT.below hb
  replace XI := XI.below hb
  replace E1 := E1.below hb
  replace E2 := E2.below hb
  replace hB := hB.trans (hb.mono hB.size)
  have zz6 := hb.size
  have zh6 := hB.size
  clear hb
  clear hk
  go_wp2_with fail
  have hk := dscheck_any XT k
  rw [HR.out] at hk
  refine (hk).mono ?_
  rintro e w7 ⟨rfl, hb⟩
  replace XT := XT.below hb
  replace XI := XI.below hb
  replace E1 := E1.below hb
  replace E2 := E2.below hb
  replace hB := hB.trans (hb.mono hB.size)
  have zz7 := hb.size
  have zh7 := hB.size
  clear hb
  clear hk
  go_wp2_with fail
  have hk := tstotal_any XI (by omega)
  rw [HT.out] at hk
  refine (hk).mono ?_
  rintro e w8 ⟨rfl, hb⟩
  replace XT := XT.below hb
  replace XI := XI.below hb
  replace E1 := E1.below hb
  replace E2 := E2.below hb
  replace hB := hB.trans (hb.mono hB.size)
  have zz8 := hb.size
  have zh8 := hB.size
  clear hb
  clear hk
  go_wp2_with fail
  have hk := dstotal_any XT (by omega)
  rw [HT.out] at hk
  refine (hk).mono ?_
  rintro e w9 ⟨rfl, hb⟩
  replace XT := XT.below hb
  replace XI := XI.below hb
  replace E1 := E1.below hb
  replace E2 := E2.below hb
  replace hB := hB.trans (hb.mono hB.size)
  have zz9 := hb.size
  have zh9 := hB.size
  clear hb
  clear hk
  obtain ⟨k0, k1, k2, f0, f1, f2⟩ := E1.three
  obtain ⟨k3, k4, k5, f3, f4, f5⟩ := E2.three
  go_wp2_with fail
  clear k0 k1 k2 f0 f1 f2 k3 k4 k5 f3 f4 f5
  refine (samer_yes false (fr_none _) (fr_none _) (by decide) (by decide)).mono ?_
  rintro e w10 ⟨rfl, hb⟩
  replace XT := XT.below hb
  replace XI := XI.below hb
  replace E1 := E1.below hb
  replace E2 := E2.below hb
  replace hB := hB.trans (hb.mono hB.size)
  have zz10 := hb.size
  have zh10 := hB.size
  clear hb
  go_wp2_with fail
  have hk := sameints_any XI XT (by omega)
  rw [decide_eq_true rfl] at hk
  refine (hk).mono ?_
  rintro e w11 ⟨rfl, hb⟩
  replace XT := XT.below hb
  replace XI := XI.below hb
  replace E1 := E1.below hb
  replace E2 := E2.below hb
  replace hB := hB.trans (hb.mono hB.size)
  have zz11 := hb.size
  have zh11 := hB.size
  clear hb
  clear hk
  go_wp2_with fail
  refine (lt_awake_any _).mono ?_
  rintro e w12 ⟨rfl, hb⟩
  replace XT := XT.below hb
  replace XI := XI.below hb
  replace E1 := E1.below hb
  replace E2 := E2.below hb
  replace hB := hB.trans (hb.mono hB.size)
  have zz12 := hb.size
  have zh12 := hB.size
  clear hb
  go_wp2
  go_ret
  exact ⟨rfl, hB⟩

set_option maxRecDepth 100000 in
set_option maxHeartbeats 4000000 in
theorem lttells_yes {lo : Nat} {a : Option Addr} {n c : Nat} {zs : List Int} {w : World} (XT : Intz lo w (.slice a n c) zs) (k : Int) (hl : n ≤ 200) (h : chkT zs 65536 = 0) :
    Calls Tryz.prog 4 #[.slice a n c, .int .i64 k] w fun e w' => e = .returned (.bool true) ∧ Below w.heap.size w w' := by
  have hd : decide (200 < (n : Int)) = false := decide_eq_false (by omega)
  obtain ⟨r, HR⟩ : ∃ r, Hid (chkT zs k = r) := ⟨_, rfl⟩
  obtain ⟨t, HT⟩ : ∃ t, Hid (totT zs = t) := ⟨_, rfl⟩
  have HC := hide h
  clear h
  have hB := Below.refl w.heap.size w
  go_enter Tryz.func4, Tryz.ntmps4
  go_wp2_with fail
  refine (copyi_far XT (by omega)).mono ?_
  rintro e w1 ⟨a0, c0, rfl, XI, hb⟩
  replace XT := XT.below hb
  replace hB := hB.trans (hb.mono hB.size)
  have zz1 := hb.size
  have zh1 := hB.size
  clear hb
  go_wp2_with fail
  have hk := (tsmean_any XI).mono (fun _ _ h => h.2 HC.out)
  refine (hk).mono ?_
  rintro e w2 ⟨g1, a1, c1, x1, e1, t1, y1, rfl, F1, P1, I1, hb⟩
  replace I1 : Is g1 x1 y1 (Rat.divInt (wsum zs zs.length) (totT zs)) (1) := I1.mono (by omega)
  replace XT := XT.below hb
  replace XI := XI.below hb
  replace hB := hB.trans (hb.mono hB.size)
  have zz2 := hb.size
  have zh2 := hB.size
  clear hb
  clear hk
  have hs0 := Nat.le_refl w2.heap.size
  have hq := below_new w2 (.cells #[.bool g1, .slice a1 x1.length c1, .slice e1 y1.length t1] 27)
  replace XT := XT.below hq
  replace XI := XI.below hq
  replace F1 := F1.below hq
  have E1 := Box.put (w := w2) (k := (w2.heap.size)) (.cells #[.bool g1, .slice a1 x1.length c1, .slice e1 y1.length t1] 27) rfl
  replace hs0 := Nat.le_trans hs0 hq.size
  replace hB := hB.trans (hq.mono hB.size)
  clear hq
  go_wp2_with fail
  obtain ⟨u3, hname⟩ := nm hB
  rw [hname] at hs0 hB XT XI F1 E1 ⊢
  have zh3 := hB.size
  have zs3 := hs0
  clear hname hs0
  have hk := (dsmean_any XT).mono (fun _ _ h => h.2 HC.out)
  refine (hk).mono ?_
  rintro e w4 ⟨g2, a2, c2, x2, e2, t2, y2, rfl, F2, P2, I2, hb⟩
  replace I2 : Is g2 x2 y2 (Rat.divInt (wsum zs zs.length) (totT zs)) (1) := I2.mono (by omega)
  replace XT := XT.below hb
  replace XI := XI.below hb
  replace F1 := F1.below hb
  replace E1 := E1.below hb
  replace hB := hB.trans (hb.mono hB.size)
  have zz4 := hb.size
  have zh4 := hB.size
  clear hb
  clear hk
  have qE1 := E1.lt
  have hs0 := Nat.le_refl w4.heap.size
  have hq := below_new w4 (.cells #[.bool g2, .slice a2 x2.length c2, .slice e2 y2.length t2] 27)
  replace XT := XT.below hq
  replace XI := XI.below hq
  replace F1 := F1.below hq
  replace E1 := E1.below hq
  replace F2 := F2.below hq
  have E2 := Box.put (w := w4) (k := (w4.heap.size)) (.cells #[.bool g2, .slice a2 x2.length c2, .slice e2 y2.length t2] 27) rfl
  replace hs0 := Nat.le_trans hs0 hq.size
  replace hB := hB.trans (hq.mono hB.size)
  clear hq
  go_wp2_with fail
  obtain ⟨u5, hname⟩ := nm hB
  rw [hname] at hs0 hB XT XI F1 E1 F2 E2 ⊢
  have zh5 := hB.size
  have zs5 := hs0
  clear hname hs0
  have hk := tscheck_any XI k
  rw [HR.out] at hk
  refine (hk).mono ?_
  rintro e w6 ⟨rfl, hb⟩
  replace XT := XT.below hb
  replace XI := XI.below hb
  replace F1 := F1.below hb
  replace E1 := E1.below hb
  replace F2 := F2.below hb
  replace E2 := E2.below hb
  replace hB := hB.trans (hb.mono hB.size)
  have zz6 := hb.size
  have zh6 := hB.size
  clear hb
  clear hk
  go_wp2_with fail
  have hk := dscheck_any XT k
  rw [HR.out] at hk
  refine (hk).mono ?_
  rintro e w7 ⟨rfl, hb⟩
  replace XT := XT.below hb
  replace XI := XI.below hb
  replace F1 := F1.below hb
  replace E1 := E1.below hb
  replace F2 := F2.below hb
  replace E2 := E2.below hb
  replace hB := hB.trans (hb.mono hB.size)
  have zz7 := hb.size
  have zh7 := hB.size
  clear hb
  clear hk
  go_wp2_with fail
  have hk := tstotal_any XI (by omega)
  rw [HT.out] at hk
  refine (hk).mono ?_
  rintro e w8 ⟨rfl, hb⟩
  replace XT := XT.below hb
  replace XI := XI.below hb
  replace F1 := F1.below hb
  replace E1 := E1.below hb
  replace F2 := F2.below hb
  replace E2 := E2.below hb
  replace hB := hB.trans (hb.mono hB.size)
  have zz8 := hb.size
  have zh8 := hB.size
  clear hb
  clear hk
  go_wp2_with fail
  have hk := dstotal_any XT (by omega)
  rw [HT.out] at hk
  refine (hk).mono ?_
  rintro e w9 ⟨rfl, hb⟩
  replace XT := XT.below hb
  replace XI := XI.below hb
  replace F1 := F1.below hb
  replace E1 := E1.below hb
  replace F2 := F2.below hb
  replace E2 := E2.below hb
  replace hB := hB.trans (hb.mono hB.size)
  have zz9 := hb.size
  have zh9 := hB.size
  clear hb
  clear hk
  obtain ⟨k0, k1, k2, f0, f1, f2⟩ := E1.three
  obtain ⟨k3, k4, k5, f3, f4, f5⟩ := E2.three
  go_wp2_with fail
  clear k0 k1 k2 f0 f1 f2 k3 k4 k5 f3 f4 f5
  refine (samer_is F1 F2 I1 I2 (by decide)).mono ?_
  rintro e w10 ⟨rfl, hb⟩
  replace XT := XT.below hb
  replace XI := XI.below hb
  replace F1 := F1.below hb
  replace E1 := E1.below hb
  replace F2 := F2.below hb
  replace E2 := E2.below hb
  replace hB := hB.trans (hb.mono hB.size)
  have zz10 := hb.size
  have zh10 := hB.size
  clear hb
  go_wp2_with fail
  have hk := sameints_any XI XT (by omega)
  rw [decide_eq_true rfl] at hk
  refine (hk).mono ?_
  rintro e w11 ⟨rfl, hb⟩
  replace XT := XT.below hb
  replace XI := XI.below hb
  replace F1 := F1.below hb
  replace E1 := E1.below hb
  replace F2 := F2.below hb
  replace E2 := E2.below hb
  replace hB := hB.trans (hb.mono hB.size)
  have zz11 := hb.size
  have zh11 := hB.size
  clear hb
  clear hk
  go_wp2_with fail
  refine (lt_awake_any _).mono ?_
  rintro e w12 ⟨rfl, hb⟩
  replace XT := XT.below hb
  replace XI := XI.below hb
  replace F1 := F1.below hb
  replace E1 := E1.below hb
  replace F2 := F2.below hb
  replace E2 := E2.below hb
  replace hB := hB.trans (hb.mono hB.size)
  have zz12 := hb.size
  have zh12 := hB.size
  clear hb
  go_wp2
  go_ret
  exact ⟨rfl, hB⟩

set_option maxRecDepth 100000 in
set_option maxHeartbeats 4000000 in
theorem lttells_long (a : Option Addr) (n c : Nat) (k : Int) (w : World) (h : 200 < n) :
    Calls Tryz.prog 4 #[.slice a n c, .int .i64 k] w fun e w' => e = .returned (.bool true) ∧ Below w.heap.size w w' := by
  have hd : decide (200 < (n : Int)) = true := decide_eq_true (by omega)
  have hc := lt_awake_any w
  go_enter Tryz.func4, Tryz.ntmps4
  go_wp2_with fail
  refine hc.mono ?_
  rintro e w1 ⟨rfl, b1⟩
  have HB := hide b1
  clear hc b1
  go_wp2
  go_ret
  exact ⟨rfl, HB.out⟩
theorem lttells_any {lo : Nat} {a : Option Addr} {n c : Nat} {zs : List Int} {w : World} (XT : Intz lo w (.slice a n c) zs) (k : Int) (_ : -9223372036854775808 ≤ k ∧ k ≤ 9223372036854775807) :
    Calls Tryz.prog 4 #[.slice a n c, .int .i64 k] w fun e w' => e = .returned (.bool true) ∧ Below w.heap.size w w' := by
  by_cases h : 200 < n
  · exact lttells_long a n c k w h
  · by_cases h2 : chkT zs 65536 = 0
    · exact lttells_yes XT k (by omega) h2
    · exact lttells_no XT k (by omega) h2
end Go.Proofs.YtejocefblpkdjaaGreat
