/-
  Joined: SWords SAwake SSpike.
-/
import Derived.Test.YtejocefblpkdjaaGreatJSAdd
import Derived.Test.YtejocefblpkdjaaGreatJRatB
import Derived.Test.YtejocefblpkdjaaGreatSKit
import Derived.Test.YtejocefblpkdjaaGreatJKit
import Derived.Test.YtejocefblpkdjaaGreatRoundHeld
namespace Go.Proofs.YtejocefblpkdjaaGreat
open Go.RowKit
theorem intz_box {W : World} {k n : Nat} {cs : Array Value} {t : TypeId} (E : Box W k (.cells cs t (0, 0))) (zs : List Int) (hz : Nums zs) (hn : zs.length = n) (h : cs = (zs.map (Value.int .i64)).toArray) : Intz k W (.slice (some ⟨k, 0, none⟩) n n) zs := by
  subst h hn
  refine ⟨hz, _, _, rfl, Nat.le_refl _, fun _ => ⟨k, 0, rfl, Nat.le_refl _, E.lt, fun j hj => ?_, fun j hj => frozen_of_heap E.what _⟩⟩
  rw [cell_of_heap E.what]
  simp [hj]
set_option maxRecDepth 100000 in
set_option maxHeartbeats 1000000 in
theorem lt_is_any {lo lo2 : Nat} {a p : Option Addr} {n c m d : Nat} {zs ys : List Int} {w : World} (X : Intz lo w (.slice a n c) zs) (Y : Intz lo2 w (.slice p m d) ys) (hl : n ≤ 17592186044416) (e : Int) :
    Calls Tryz.prog 27 #[.slice a n c, .int .i64 e, .slice p m d] w fun r w' => r = .returned (.bool (decide (e = 0 ∧ zs = ys))) ∧ Below w.heap.size w w' := by
  have hc := sameints_any X Y hl
  by_cases h : e = 0
  · subst h
    rw [show decide ((0 : Int) = 0 ∧ zs = ys) = decide (zs = ys) by simp]
    obtain ⟨r, hr⟩ : ∃ r, decide (zs = ys) = r := ⟨_, rfl⟩
    rw [hr] at hc ⊢
    clear hr
    go_enter Tryz.func27, Tryz.ntmps27
    go_wp2_with fail
    refine hc.mono ?_
    rintro e w1 ⟨rfl, b1⟩
    have HB := hide b1
    clear hc b1
    go_wp2
    go_ret
    exact ⟨rfl, HB.out⟩
  · rw [decide_eq_false (fun h' => h h'.1)]
    have he : (e == 0) = false := beq_eq_false_iff_ne.2 h
    clear hc
    go_enter Tryz.func27, Tryz.ntmps27
    go_wp2
    go_ret
    exact ⟨rfl, Below.refl _ _⟩
set_option maxRecDepth 100000 in
set_option maxHeartbeats 4000000 in
theorem lt_near_any (z s : Int) (hz : -9223372036854775808 ≤ z ∧ z < 9223372036854775808) (hs : -9223372036854775808 ≤ s ∧ s < 9223372036854775808) {a1 e1 : Option Addr} {c1 t1 : Nat} {x1 y1 : List Int} {w : World} (g1 : Bool) (F1 : Fr 0 w a1 c1 x1 e1 t1 y1) {q : Rat} (I1 : Is g1 x1 y1 q 12) (hq : z = wtQ s q) :
    Calls Tryz.prog 29 #[.int .i64 z, .int .i64 s, .agg #[.bool g1, .slice a1 x1.length c1, .slice e1 y1.length t1]] w fun e w' => e = .returned (.bool true) ∧ Below w.heap.size w w' := by
  obtain ⟨cv, HC, hcv⟩ : ∃ cv, Hid (cmpR (absR (Rat.divInt s 1 * q - Rat.divInt z 1)) (Rat.divInt 1 2) = cv) ∧ cv ≤ 0 := ⟨_, rfl, by rw [hq]; exact far_q (Rat.divInt s 1 * q)⟩
  have hcd : decide (cv ≤ 0) = true := decide_eq_true hcv
  clear hq
  have hB := Below.refl w.heap.size w
  go_enter Tryz.func29, Tryz.ntmps29
  have hs0 := Nat.le_refl w.heap.size
  have hq := below_new w (.cells #[.bool g1, .slice a1 x1.length c1, .slice e1 y1.length t1] 27)
  replace F1 := F1.below hq
  have E1 := Box.put (w := w) (k := (w.heap.size)) (.cells #[.bool g1, .slice a1 x1.length c1, .slice e1 y1.length t1] 27) rfl
  replace hs0 := Nat.le_trans hs0 hq.size
  replace hB := hB.trans (hq.mono hB.size)
  clear hq
  go_wp2_with fail
  obtain ⟨u1, hname⟩ := nm hB
  rw [hname] at hs0 hB F1 E1 ⊢
  have zh1 := hB.size
  have zs1 := hs0
  clear hname hs0
  replace F1 := F1.drew
  have qE1 := E1.lt
  replace E1 := E1.drew
  refine wp_yieldsZ 9 7 [.is (.int .i64 s), (Yield.frac u1.heap.size (Rat.divInt s 1) (1)), .is (.agg #[.bool g1, .slice a1 x1.length c1, .slice e1 y1.length t1]), (Yield.row 2 12 [Rat.divInt s 1, q]), (Yield.fracE u1.heap.size (Rat.divInt s 1 * q) (27)), (Yield.fracE u1.heap.size (Rat.divInt s 1 * q) (27)), (Yield.frac u1.heap.size (Rat.divInt s 1 * q) (27)), .is (.int .i64 0), (.new u1.heap.size (.cells #[.bool false, .slice none 0 0, .slice none 0 0] 27))] (.int .i64 0) rfl (by kernel_rfl) (by kernel_rfl) (lt_cons ?_ (lt_cons ?_ (lt_cons ?_ (lt_cons ?_ (lt_cons ?_ (lt_cons ?_ (lt_cons ?_ (lt_cons ?_ (lt_cons ?_ lt_nil))))))))) ?_
  case refine_1 =>
    refine OpDoes.mk rfl ?_
    intro vs V hV hd K hK
    simp only [laidIn, lz1, lz2, lz3, lz4, lz5, lz6, if_true, Act.put, lz7, lz8, lz9] at hK ⊢
    go_simp
    exact hK.out _ _ ((Below.refl _ _).a1 _) ⟨_, rfl, Box.new _ _, hV.size⟩ (fresh_apart _ _ (fresh_new _))
  case refine_2 =>
    refine OpDoes.mk rfl ?_
    intro vs V hV hd K hK
    have hh := fun (P : Prop) => Yield.fracE_elim P (show ((Yield.fracE u1.heap.size (Rat.divInt s 1 * q) (27)) : Yield).At (vs 5) V from hd 5 (by decide) (by kernel_rfl))
    refine hh _ ?_
    intro g5 a5 c5 x5 e5 t5 y5 d5 F5 P5 I5
    clear hh
    simp only [laidIn, lz1, lz2, lz3, lz4, lz5, lz6, if_true, Act.put, lz7, lz8, lz9] at hK ⊢
    simp only [d5] at hK ⊢
    go_simp
    exact hK.out _ _ (Below.refl _ _) rfl (not_fresh rfl)
  case refine_3 =>
    refine OpDoes.mk rfl ?_
    intro vs V hV hd K hK
    have hh := fun (P : Prop) => Yield.fracE_elim P (show ((Yield.fracE u1.heap.size (Rat.divInt s 1 * q) (27)) : Yield).At (vs 5) V from hd 5 (by decide) (by kernel_rfl))
    refine hh _ ?_
    intro g5 a5 c5 x5 e5 t5 y5 d5 F5 P5 I5
    clear hh
    simp only [laidIn, lz1, lz2, lz3, lz4, lz5, lz6, if_true, Act.put, lz7, lz8, lz9] at hK ⊢
    simp only [d5] at hK ⊢
    go_simp
    exact hK.out _ _ (Below.refl _ _) ⟨_, _, _, _, _, _, _, rfl, F5, P5, I5⟩ (not_fresh rfl)
  case refine_4 =>
    refine OpDoes.mk rfl ?_
    intro vs V hV hd K hK
    have hh := fun (P : Prop) => Yield.fracE_elim P (show ((Yield.fracE u1.heap.size (Rat.divInt s 1 * q) (27)) : Yield).At (vs 4) V from hd 4 (by decide) (by kernel_rfl))
    refine hh _ ?_
    intro g3 a3 c3 x3 e3 t3 y3 d4 F3 P3 I3
    clear hh
    simp only [laidIn, lz1, lz2, lz3, lz4, lz5, lz6, if_true, Act.put, lz7, lz8, lz9] at hK ⊢
    simp only [d4] at hK ⊢
    go_simp
    exact hK.out _ _ (Below.refl _ _) ⟨_, _, _, _, _, _, _, rfl, F3, P3, I3⟩ (not_fresh rfl)
  case refine_5 =>
    refine OpDoes.mk rfl ?_
    intro vs V hV hd K hK
    have hh := fun (P : Prop) => Yield.row_elim P (show ((Yield.row 2 12 [Rat.divInt s 1, q]) : Yield).At (vs 3) V from hd 3 (by decide) (by kernel_rfl))
    refine hh _ ?_
    intro k4 r4 d3 J4 R4 L4 G4 Q4
    clear hh
    simp only [laidIn, lz1, lz2, lz3, lz4, lz5, lz6, if_true, Act.put, lz7, lz8, lz9] at hK ⊢
    simp only [d3] at hK ⊢
    go_simp
    go_at_call 53
    refine (pmul_row J4 R4 L4 G4 Q4 (by omega) (by omega)).mono ?_
    rintro e V' ⟨g3, a3, c3, x3, e3, t3, y3, rfl, F3, P3, I3, hb⟩
    replace I3 : Is g3 x3 y3 (Rat.divInt s 1 * q) (27) := (I3.mono (by omega)).to (two_mul _ _)
    exact hK.out _ _ hb ⟨_, _, _, _, _, _, _, rfl, F3.mono hV.size, P3, I3⟩ (not_fresh rfl)
  case refine_6 =>
    refine OpDoes.mk rfl ?_
    intro vs V hV hd K hK
    have hh := fun (P : Prop) => Yield.frac_elim P (show ((Yield.frac u1.heap.size (Rat.divInt s 1) (1)) : Yield).At (vs 1) V from hd 1 (by decide) (by kernel_rfl))
    refine hh _ ?_
    intro g2 a2 c2 x2 e2 t2 y2 d1 F2 P2 I2
    clear hh
    have d2 : vs 2 = .agg #[.bool g1, .slice a1 x1.length c1, .slice e1 y1.length t1] := hd 2 (by decide) (by kernel_rfl)
    simp only [laidIn, lz1, lz2, lz3, lz4, lz5, lz6, if_true, Act.put, lz7, lz8, lz9] at hK ⊢
    simp only [d1, d2] at hK ⊢
    go_simp
    exact hK.out _ _ ((Below.refl _ _).a1 _) (Yield.row_two ⟨g2, a2, c2, x2, e2, t2, y2⟩ ⟨g1, a1, c1, x1, e1, t1, y1⟩ (F2.mono (Nat.zero_le _)) I2 ((F1.below hV).mono (Nat.zero_le _)) I1 (by omega) (by omega)) (not_fresh rfl)
  case refine_7 =>
    refine OpDoes.mk rfl ?_
    intro vs V hV hd K hK
    have hcc := (E1.below hV).three
    have k0 := hcc.1
    have k1 := hcc.2.1
    have k2 := hcc.2.2.1
    clear hcc
    simp only [laidIn, lz1, lz2, lz3, lz4, lz5, lz6, if_true, Act.put, lz7, lz8, lz9] at hK ⊢
    go_simp
    exact hK.out _ _ (Below.refl _ _) rfl (not_fresh rfl)
  case refine_8 =>
    refine OpDoes.mk rfl ?_
    intro vs V hV hd K hK
    have d0 : vs 0 = .int .i64 s := hd 0 (by decide) (by kernel_rfl)
    simp only [laidIn, lz1, lz2, lz3, lz4, lz5, lz6, if_true, Act.put, lz7, lz8, lz9] at hK ⊢
    simp only [d0] at hK ⊢
    go_simp
    go_at_call 26
    refine (lt_part_any s 1 hs (by decide) (by decide) _).mono ?_
    rintro e V' ⟨g2, a2, c2, x2, e2, t2, y2, rfl, F2, P2, I2, hb⟩
    replace I2 : Is g2 x2 y2 (Rat.divInt s 1) (1) := I2.mono (by omega)
    exact hK.out _ _ hb ⟨_, _, _, _, _, _, _, rfl, F2.mono hV.size, P2, I2⟩ (not_fresh rfl)
  case refine_9 =>
    refine OpDoes.mk rfl ?_
    intro vs V hV hd K hK
    simp only [laidIn, lz1, lz2, lz4, lz5, lz6, if_true, Act.put, lz7, lz8, lz9] at hK ⊢
    go_simp
    exact hK.out _ _ (Below.refl _ _) rfl (not_fresh rfl)
  case refine_10 =>
    intro vs Y1 hV hR hne fuel
    have d0 : vs 0 = .int .i64 s := hR 0 (by decide)
    have hh := fun (P : Prop) => Yield.frac_elim P (show ((Yield.frac u1.heap.size (Rat.divInt s 1) (1)) : Yield).At (vs 1) Y1 from hR 1 (by decide))
    refine hh _ ?_
    intro g2 a2 c2 x2 e2 t2 y2 d1 F2 P2 I2
    clear hh
    have d2 : vs 2 = .agg #[.bool g1, .slice a1 x1.length c1, .slice e1 y1.length t1] := hR 2 (by decide)
    have hh := fun (P : Prop) => Yield.row_elim P (show ((Yield.row 2 12 [Rat.divInt s 1, q]) : Yield).At (vs 3) Y1 from hR 3 (by decide))
    refine hh _ ?_
    intro k4 r4 d3 J4 R4 L4 G4 Q4
    clear hh
    have hh := fun (P : Prop) => Yield.fracE_elim P (show ((Yield.fracE u1.heap.size (Rat.divInt s 1 * q) (27)) : Yield).At (vs 4) Y1 from hR 4 (by decide))
    refine hh _ ?_
    intro g3 a3 c3 x3 e3 t3 y3 d4 F3 P3 I3
    clear hh
    have hh := fun (P : Prop) => Yield.fracE_elim P (show ((Yield.fracE u1.heap.size (Rat.divInt s 1 * q) (27)) : Yield).At (vs 5) Y1 from hR 5 (by decide))
    refine hh _ ?_
    intro g5 a5 c5 x5 e5 t5 y5 d5 F5 P5 I5
    clear hh
    have hh := fun (P : Prop) => Yield.frac_elim P (show ((Yield.frac u1.heap.size (Rat.divInt s 1 * q) (27)) : Yield).At (vs 6) Y1 from hR 6 (by decide))
    refine hh _ ?_
    intro g6 a6 c6 x6 e6 t6 y6 d6 F6 P6 I6
    clear hh
    have d7 : vs 7 = .int .i64 0 := hR 7 (by decide)
    obtain ⟨k_E91, d8, E91, l_E91⟩ := (show ((.new u1.heap.size (.cells #[.bool false, .slice none 0 0, .slice none 0 0] 27)) : Yield).At (vs 8) Y1 from hR 8 (by decide))
    replace F1 := F1.below hV
    replace E1 := E1.below hV
    have hr := hV
    clear hR hne hV
    have hcc := E91.three
    have k0 := hcc.1
    have k1 := hcc.2.1
    have k2 := hcc.2.2.1
    have f0 := hcc.2.2.2.1
    have f1 := hcc.2.2.2.2.1
    have f2 := hcc.2.2.2.2.2
    clear hcc
    apply mp_of
    case f =>
      intro hgoal
      constructor
      · skip
        simp only [laidIn, lz4, lz5, lz6, if_true, Act.put, lz7, lz8, lz9]
        simp only [d0, d1, d2, d3, d4, d5, d6, d7, d8]
        show wpAny _ _ _ _ (fuel + 2) _ _ _
        refine wpAny_all (rs := [9]) (by kernel_rfl) (by simp) (fun i hi => ?_)
        obtain rfl : i = 9 := by simpa using hi
        clear hi
        refine wpOp_step rfl (fun K hK => ?_)
        simp only [lz1, lz2, lz3]
        rw [if_pos (by rfl)]
        go_simp
        refine hK _ _ ?_
        clear hK
        refine wpAny_all (rs := [10]) (by kernel_rfl) (by simp) (fun i hi => ?_)
        obtain rfl : i = 10 := by simpa using hi
        clear hi
        refine wpOp_step rfl (fun K hK => ?_)
        simp only [lz1, lz2, lz3]
        rw [if_pos (by rfl)]
        go_simp
        refine hK _ _ ?_
        clear hK
        refine wpAny_done (by kernel_rfl) ?_ _
        exact hgoal
      · skip
        simp only [laidIn, lz4, lz5, lz6, if_true, Act.put, lz7, lz8, lz9, Bool.false_eq_true, if_false, show ((0 : Nat) != 7) = true from rfl, show ((1 : Nat) != 7) = true from rfl, show ((2 : Nat) != 7) = true from rfl, show ((3 : Nat) != 7) = true from rfl, show ((4 : Nat) != 7) = true from rfl, show ((5 : Nat) != 7) = true from rfl, show ((6 : Nat) != 7) = true from rfl, show ((7 : Nat) != 7) = false from rfl, show ((8 : Nat) != 7) = true from rfl]
        simp only [d0, d1, d2, d3, d4, d5, d6, d8]
        show wpAny _ _ _ _ (fuel + 3) _ _ _
        refine wpAny_all (rs := [7, 9]) (by kernel_rfl) (by simp) (fun i hi => ?_)
        rcases (show i = 7 ∨ i = 9 by simpa using hi) with rfl | rfl
        · clear hi
          refine wpOp_step rfl (fun K hK => ?_)
          simp only [lz1, lz2, lz3]
          rw [if_pos (by rfl)]
          go_simp
          refine hK _ _ ?_
          clear hK
          refine wpAny_all (rs := [9]) (by kernel_rfl) (by simp) (fun i hi => ?_)
          obtain rfl : i = 9 := by simpa using hi
          clear hi
          refine wpOp_step rfl (fun K hK => ?_)
          simp only [lz1, lz2, lz3]
          rw [if_pos (by rfl)]
          go_simp
          refine hK _ _ ?_
          clear hK
          refine wpAny_all (rs := [10]) (by kernel_rfl) (by simp) (fun i hi => ?_)
          obtain rfl : i = 10 := by simpa using hi
          clear hi
          refine wpOp_step rfl (fun K hK => ?_)
          simp only [lz1, lz2, lz3]
          rw [if_pos (by rfl)]
          go_simp
          refine hK _ _ ?_
          clear hK
          refine wpAny_done (by kernel_rfl) ?_ _
          exact hgoal
        · clear hi
          refine wpOp_step rfl (fun K hK => ?_)
          simp only [lz1, lz2, lz3]
          rw [if_pos (by rfl)]
          go_simp
          refine hK _ _ ?_
          clear hK
          refine wpAny_all (rs := [7]) (by kernel_rfl) (by simp) (fun i hi => ?_)
          obtain rfl : i = 7 := by simpa using hi
          clear hi
          refine wpOp_step rfl (fun K hK => ?_)
          simp only [lz1, lz2, lz3]
          rw [if_pos (by rfl)]
          go_simp
          refine hK _ _ ?_
          clear hK
          refine wpAny_all (rs := [10]) (by kernel_rfl) (by simp) (fun i hi => ?_)
          obtain rfl : i = 10 := by simpa using hi
          clear hi
          refine wpOp_step rfl (fun K hK => ?_)
          simp only [lz1, lz2, lz3]
          rw [if_pos (by rfl)]
          go_simp
          refine hK _ _ ?_
          clear hK
          refine wpAny_done (by kernel_rfl) ?_ _
          exact hgoal
    case p =>
      clear k0 f0 k1 f1 k2 f2
      have hT := turns3 (k_E91) Y1 (.bool g6) (.slice a6 x6.length c6) (.slice e6 y6.length t6)
      replace F1 := F1.beside E91 (noWord3 (fun _ e => by cases e) (fun _ e => by cases e) (fun _ e => by cases e)) hT
      replace E1 := E1.turns hT (by omega)
      replace F2 := F2.beside E91 (noWord3 (fun _ e => by cases e) (fun _ e => by cases e) (fun _ e => by cases e)) hT
      replace F3 := F3.beside E91 (noWord3 (fun _ e => by cases e) (fun _ e => by cases e) (fun _ e => by cases e)) hT
      replace F5 := F5.beside E91 (noWord3 (fun _ e => by cases e) (fun _ e => by cases e) (fun _ e => by cases e)) hT
      replace F6 := F6.beside E91 (noWord3 (fun _ e => by cases e) (fun _ e => by cases e) (fun _ e => by cases e)) hT
      replace E91 := Box.set3 (.bool g6) (.slice a6 x6.length c6) (.slice e6 y6.length t6) E91
      have hr9 := hT.below
      obtain ⟨X1, hX⟩ := nm hT.below
      rw [hX] at F1 E1 F2 F3 F5 F6 E91 hr9 ⊢
      clear hX hT
      replace hB := hB.trans ((Below.trans (Below.drew (Below.refl u1.heap.size u1)) hr).mono hB.size)
      replace hB := hB.trans (hr9.mono (by omega))
      have zz1_1 := hr.size
      have zi1 := hB.size
      have zy1_9 := hr9.size
      clear hr hr9
      clear d0 d1 d2 d3 d4 d5 d6 d7 d8
      clear vs
      clear F1 E1 F2 F3 F5
      obtain ⟨k0, k1, k2, f0, f1, f2⟩ := E91.three
      go_wp2_with fail
      clear k0 k1 k2 f0 f1 f2
      have qE91 := E91.lt
      replace E91 := E91.drew
      replace F6 := F6.drew
      refine wp_yieldsZ 8 6 [.is (.agg #[.bool g6, .slice a6 x6.length c6, .slice e6 y6.length t6]), .is (.int .i64 z), (Yield.frac X1.heap.size (Rat.divInt z 1) (1)), (Yield.fracE X1.heap.size (Rat.divInt s 1 * q - Rat.divInt z 1) (29)), (Yield.fracE X1.heap.size (Rat.divInt s 1 * q - Rat.divInt z 1) (29)), (Yield.frac X1.heap.size (Rat.divInt s 1 * q - Rat.divInt z 1) (29)), .is (.int .i64 0), (.new X1.heap.size (.cells #[.bool false, .slice none 0 0, .slice none 0 0] 27))] (.int .i64 0) rfl (by kernel_rfl) (by kernel_rfl) (lt_cons ?_ (lt_cons ?_ (lt_cons ?_ (lt_cons ?_ (lt_cons ?_ (lt_cons ?_ (lt_cons ?_ (lt_cons ?_ lt_nil)))))))) ?_
      case refine_1 =>
        refine OpDoes.mk rfl ?_
        intro vs V hV hd K hK
        simp only [laidIn, lz1, lz2, lz3, lz4, lz5, lz6, if_true, Act.put, lz7, lz8, lz9] at hK ⊢
        go_simp
        exact hK.out _ _ ((Below.refl _ _).a1 _) ⟨_, rfl, Box.new _ _, hV.size⟩ (fresh_apart _ _ (fresh_new _))
      case refine_2 =>
        refine OpDoes.mk rfl ?_
        intro vs V hV hd K hK
        have hh := fun (P : Prop) => Yield.fracE_elim P (show ((Yield.fracE X1.heap.size (Rat.divInt s 1 * q - Rat.divInt z 1) (29)) : Yield).At (vs 4) V from hd 4 (by decide) (by kernel_rfl))
        refine hh _ ?_
        intro g9 a9 c9 x9 e9 t9 y9 d4 F9 P9 I9
        clear hh
        simp only [laidIn, lz1, lz2, lz3, lz4, lz5, lz6, if_true, Act.put, lz7, lz8, lz9] at hK ⊢
        simp only [d4] at hK ⊢
        go_simp
        exact hK.out _ _ (Below.refl _ _) rfl (not_fresh rfl)
      case refine_3 =>
        refine OpDoes.mk rfl ?_
        intro vs V hV hd K hK
        have hh := fun (P : Prop) => Yield.fracE_elim P (show ((Yield.fracE X1.heap.size (Rat.divInt s 1 * q - Rat.divInt z 1) (29)) : Yield).At (vs 4) V from hd 4 (by decide) (by kernel_rfl))
        refine hh _ ?_
        intro g9 a9 c9 x9 e9 t9 y9 d4 F9 P9 I9
        clear hh
        simp only [laidIn, lz1, lz2, lz3, lz4, lz5, lz6, if_true, Act.put, lz7, lz8, lz9] at hK ⊢
        simp only [d4] at hK ⊢
        go_simp
        exact hK.out _ _ (Below.refl _ _) ⟨_, _, _, _, _, _, _, rfl, F9, P9, I9⟩ (not_fresh rfl)
      case refine_4 =>
        refine OpDoes.mk rfl ?_
        intro vs V hV hd K hK
        have hh := fun (P : Prop) => Yield.fracE_elim P (show ((Yield.fracE X1.heap.size (Rat.divInt s 1 * q - Rat.divInt z 1) (29)) : Yield).At (vs 3) V from hd 3 (by decide) (by kernel_rfl))
        refine hh _ ?_
        intro g8 a8 c8 x8 e8 t8 y8 d3 F8 P8 I8
        clear hh
        simp only [laidIn, lz1, lz2, lz3, lz4, lz5, lz6, if_true, Act.put, lz7, lz8, lz9] at hK ⊢
        simp only [d3] at hK ⊢
        go_simp
        exact hK.out _ _ (Below.refl _ _) ⟨_, _, _, _, _, _, _, rfl, F8, P8, I8⟩ (not_fresh rfl)
      case refine_5 =>
        refine OpDoes.mk rfl ?_
        intro vs V hV hd K hK
        have d0 : vs 0 = .agg #[.bool g6, .slice a6 x6.length c6, .slice e6 y6.length t6] := hd 0 (by decide) (by kernel_rfl)
        have hh := fun (P : Prop) => Yield.frac_elim P (show ((Yield.frac X1.heap.size (Rat.divInt z 1) (1)) : Yield).At (vs 2) V from hd 2 (by decide) (by kernel_rfl))
        refine hh _ ?_
        intro g7 a7 c7 x7 e7 t7 y7 d2 F7 P7 I7
        clear hh
        simp only [laidIn, lz1, lz2, lz3, lz4, lz5, lz6, if_true, Act.put, lz7, lz8, lz9] at hK ⊢
        simp only [d0, d2] at hK ⊢
        go_simp
        go_at_call 54
        refine (psub_ok g6 g7 (F6.below hV) F7 ⟨I6.lu, I6.ld⟩ ⟨I7.lu, I7.ld⟩ (by omega) (by omega) (I6.good (F6.below hV).up.words (F6.below hV).down.words) (I7.good F7.up.words F7.down.words)).mono ?_
        rintro e V' ⟨g8, a8, c8, x8, e8, t8, y8, rfl, F8, P8, I8, hb⟩
        replace I8 : Is g8 x8 y8 (Rat.divInt s 1 * q - Rat.divInt z 1) (29) := (I8.mono (by omega)).to (by rw [I6.rat, I7.rat])
        exact hK.out _ _ hb ⟨_, _, _, _, _, _, _, rfl, F8.mono hV.size, P8, I8⟩ (not_fresh rfl)
      case refine_6 =>
        refine OpDoes.mk rfl ?_
        intro vs V hV hd K hK
        have d1 : vs 1 = .int .i64 z := hd 1 (by decide) (by kernel_rfl)
        simp only [laidIn, lz1, lz2, lz3, lz4, lz5, lz6, if_true, Act.put, lz7, lz8, lz9] at hK ⊢
        simp only [d1] at hK ⊢
        go_simp
        go_at_call 26
        refine (lt_part_any z 1 hz (by decide) (by decide) _).mono ?_
        rintro e V' ⟨g7, a7, c7, x7, e7, t7, y7, rfl, F7, P7, I7, hb⟩
        replace I7 : Is g7 x7 y7 (Rat.divInt z 1) (1) := I7.mono (by omega)
        exact hK.out _ _ hb ⟨_, _, _, _, _, _, _, rfl, F7.mono hV.size, P7, I7⟩ (not_fresh rfl)
      case refine_7 =>
        refine OpDoes.mk rfl ?_
        intro vs V hV hd K hK
        simp only [laidIn, lz1, lz2, lz3, lz4, lz5, lz6, if_true, Act.put, lz7, lz8, lz9] at hK ⊢
        go_simp
        exact hK.out _ _ (Below.refl _ _) rfl (not_fresh rfl)
      case refine_8 =>
        refine OpDoes.mk rfl ?_
        intro vs V hV hd K hK
        have hcc := (E91.below hV).three
        have k0 := hcc.1
        have k1 := hcc.2.1
        have k2 := hcc.2.2.1
        clear hcc
        simp only [laidIn, lz1, lz2, lz4, lz5, lz6, if_true, Act.put, lz7, lz8, lz9] at hK ⊢
        go_simp
        exact hK.out _ _ (Below.refl _ _) rfl (not_fresh rfl)
      case refine_9 =>
        intro vs Y2 hV hR hne fuel
        have d0 : vs 0 = .agg #[.bool g6, .slice a6 x6.length c6, .slice e6 y6.length t6] := hR 0 (by decide)
        have d1 : vs 1 = .int .i64 z := hR 1 (by decide)
        have hh := fun (P : Prop) => Yield.frac_elim P (show ((Yield.frac X1.heap.size (Rat.divInt z 1) (1)) : Yield).At (vs 2) Y2 from hR 2 (by decide))
        refine hh _ ?_
        intro g7 a7 c7 x7 e7 t7 y7 d2 F7 P7 I7
        clear hh
        have hh := fun (P : Prop) => Yield.fracE_elim P (show ((Yield.fracE X1.heap.size (Rat.divInt s 1 * q - Rat.divInt z 1) (29)) : Yield).At (vs 3) Y2 from hR 3 (by decide))
        refine hh _ ?_
        intro g8 a8 c8 x8 e8 t8 y8 d3 F8 P8 I8
        clear hh
        have hh := fun (P : Prop) => Yield.fracE_elim P (show ((Yield.fracE X1.heap.size (Rat.divInt s 1 * q - Rat.divInt z 1) (29)) : Yield).At (vs 4) Y2 from hR 4 (by decide))
        refine hh _ ?_
        intro g9 a9 c9 x9 e9 t9 y9 d4 F9 P9 I9
        clear hh
        have hh := fun (P : Prop) => Yield.frac_elim P (show ((Yield.frac X1.heap.size (Rat.divInt s 1 * q - Rat.divInt z 1) (29)) : Yield).At (vs 5) Y2 from hR 5 (by decide))
        refine hh _ ?_
        intro g10 a10 c10 x10 e10 t10 y10 d5 F10 P10 I10
        clear hh
        have d6 : vs 6 = .int .i64 0 := hR 6 (by decide)
        obtain ⟨k_E92, d7, E92, l_E92⟩ := (show ((.new X1.heap.size (.cells #[.bool false, .slice none 0 0, .slice none 0 0] 27)) : Yield).At (vs 7) Y2 from hR 7 (by decide))
        replace E91 := E91.below hV
        replace F6 := F6.below hV
        have hr := hV
        clear hR hne hV
        have hcc := E92.three
        have k0 := hcc.1
        have k1 := hcc.2.1
        have k2 := hcc.2.2.1
        have f0 := hcc.2.2.2.1
        have f1 := hcc.2.2.2.2.1
        have f2 := hcc.2.2.2.2.2
        clear hcc
        apply mp_of
        case f =>
          intro hgoal
          constructor
          · skip
            simp only [laidIn, lz4, lz5, lz6, if_true, Act.put, lz7, lz8, lz9]
            simp only [d0, d1, d2, d3, d4, d5, d6, d7]
            show wpAny _ _ _ _ (fuel + 2) _ _ _
            refine wpAny_all (rs := [8]) (by kernel_rfl) (by simp) (fun i hi => ?_)
            obtain rfl : i = 8 := by simpa using hi
            clear hi
            refine wpOp_step rfl (fun K hK => ?_)
            simp only [lz1, lz2, lz3]
            rw [if_pos (by rfl)]
            go_simp
            refine hK _ _ ?_
            clear hK
            refine wpAny_all (rs := [9]) (by kernel_rfl) (by simp) (fun i hi => ?_)
            obtain rfl : i = 9 := by simpa using hi
            clear hi
            refine wpOp_step rfl (fun K hK => ?_)
            simp only [lz1, lz2, lz3]
            rw [if_pos (by rfl)]
            go_simp
            refine hK _ _ ?_
            clear hK
            refine wpAny_done (by kernel_rfl) ?_ _
            exact hgoal
          · skip
            simp only [laidIn, lz4, lz5, lz6, if_true, Act.put, lz7, lz8, lz9, Bool.false_eq_true, if_false, show ((0 : Nat) != 6) = true from rfl, show ((1 : Nat) != 6) = true from rfl, show ((2 : Nat) != 6) = true from rfl, show ((3 : Nat) != 6) = true from rfl, show ((4 : Nat) != 6) = true from rfl, show ((5 : Nat) != 6) = true from rfl, show ((6 : Nat) != 6) = false from rfl, show ((7 : Nat) != 6) = true from rfl]
            simp only [d0, d1, d2, d3, d4, d5, d7]
            show wpAny _ _ _ _ (fuel + 3) _ _ _
            refine wpAny_all (rs := [6, 8]) (by kernel_rfl) (by simp) (fun i hi => ?_)
            rcases (show i = 6 ∨ i = 8 by simpa using hi) with rfl | rfl
            · clear hi
              refine wpOp_step rfl (fun K hK => ?_)
              simp only [lz1, lz2, lz3]
              rw [if_pos (by rfl)]
              go_simp
              refine hK _ _ ?_
              clear hK
              refine wpAny_all (rs := [8]) (by kernel_rfl) (by simp) (fun i hi => ?_)
              obtain rfl : i = 8 := by simpa using hi
              clear hi
              refine wpOp_step rfl (fun K hK => ?_)
              simp only [lz1, lz2, lz3]
              rw [if_pos (by rfl)]
              go_simp
              refine hK _ _ ?_
              clear hK
              refine wpAny_all (rs := [9]) (by kernel_rfl) (by simp) (fun i hi => ?_)
              obtain rfl : i = 9 := by simpa using hi
              clear hi
              refine wpOp_step rfl (fun K hK => ?_)
              simp only [lz1, lz2, lz3]
              rw [if_pos (by rfl)]
              go_simp
              refine hK _ _ ?_
              clear hK
              refine wpAny_done (by kernel_rfl) ?_ _
              exact hgoal
            · clear hi
              refine wpOp_step rfl (fun K hK => ?_)
              simp only [lz1, lz2, lz3]
              rw [if_pos (by rfl)]
              go_simp
              refine hK _ _ ?_
              clear hK
              refine wpAny_all (rs := [6]) (by kernel_rfl) (by simp) (fun i hi => ?_)
              obtain rfl : i = 6 := by simpa using hi
              clear hi
              refine wpOp_step rfl (fun K hK => ?_)
              simp only [lz1, lz2, lz3]
              rw [if_pos (by rfl)]
              go_simp
              refine hK _ _ ?_
              clear hK
              refine wpAny_all (rs := [9]) (by kernel_rfl) (by simp) (fun i hi => ?_)
              obtain rfl : i = 9 := by simpa using hi
              clear hi
              refine wpOp_step rfl (fun K hK => ?_)
              simp only [lz1, lz2, lz3]
              rw [if_pos (by rfl)]
              go_simp
              refine hK _ _ ?_
              clear hK
              refine wpAny_done (by kernel_rfl) ?_ _
              exact hgoal
        case p =>
          clear k0 f0 k1 f1 k2 f2
          have hT := turns3 (k_E92) Y2 (.bool g10) (.slice a10 x10.length c10) (.slice e10 y10.length t10)
          replace E91 := E91.turns hT (by omega)
          replace F6 := F6.beside E92 (noWord3 (fun _ e => by cases e) (fun _ e => by cases e) (fun _ e => by cases e)) hT
          replace F7 := F7.beside E92 (noWord3 (fun _ e => by cases e) (fun _ e => by cases e) (fun _ e => by cases e)) hT
          replace F8 := F8.beside E92 (noWord3 (fun _ e => by cases e) (fun _ e => by cases e) (fun _ e => by cases e)) hT
          replace F9 := F9.beside E92 (noWord3 (fun _ e => by cases e) (fun _ e => by cases e) (fun _ e => by cases e)) hT
          replace F10 := F10.beside E92 (noWord3 (fun _ e => by cases e) (fun _ e => by cases e) (fun _ e => by cases e)) hT
          replace E92 := Box.set3 (.bool g10) (.slice a10 x10.length c10) (.slice e10 y10.length t10) E92
          have hr8 := hT.below
          obtain ⟨X2, hX⟩ := nm hT.below
          rw [hX] at E91 F6 F7 F8 F9 F10 E92 hr8 ⊢
          clear hX hT
          replace hB := hB.trans ((Below.trans (Below.drew (Below.refl X1.heap.size X1)) hr).mono hB.size)
          replace hB := hB.trans (hr8.mono (by omega))
          have zz1_2 := hr.size
          have zi2 := hB.size
          have zy2_8 := hr8.size
          clear hr hr8
          clear d0 d1 d2 d3 d4 d5 d6 d7
          clear vs
          clear E91 F6 F7 F8 F9
          have ID := I10.abs F10.up.words
          obtain ⟨k0, k1, k2, f0, f1, f2⟩ := E92.three
          have qE92 := E92.lt
          have hs0 := Nat.le_refl X2.heap.size
          have hT := ((Turns.refl (k_E92) X2).setCell 0 (.bool false))
          replace F10 := F10.beside E92 (noWord3 (fun _ e => by cases e) (fun _ e => by cases e) (fun _ e => by cases e)) hT
          replace E92 : Box (X2.setCell ⟨k_E92, 0, none⟩ (.bool false)) (k_E92) (.cells #[.bool false, .slice a10 x10.length c10, .slice e10 y10.length t10] 27) := ⟨Nat.lt_of_lt_of_le E92.lt hT.below.size, (heap_setCell_same _ _ 0 _ _ _ E92.what)⟩
          replace hB := hB.trans (hT.below.mono (by omega))
          replace hs0 := Nat.le_trans hs0 hT.below.size
          clear hT
          go_wp2_with fail
          clear k0 k1 k2 f0 f1 f2
          obtain ⟨u2, hname⟩ := nm hB
          rw [hname] at hs0 hB E92 F10 ⊢
          have zh2 := hB.size
          have zs2 := hs0
          clear hname hs0
          have qE92 := E92.lt
          replace E92 := E92.drew
          replace F10 := F10.drew
          refine wp_yields 4 [.is (.agg #[.bool false, .slice a10 x10.length c10, .slice e10 y10.length t10]), (Yield.frac u2.heap.size (Rat.divInt 1 2) (1)), (.is (.tuple #[.int .i64 cv, .int .i64 0])), .is (.tuple #[.int .i64 cv, .int .i64 0])] (by kernel_rfl) (by kernel_rfl) (lt_cons ?_ (lt_cons ?_ (lt_cons ?_ (lt_cons ?_ lt_nil)))) ?_
          case refine_1 =>
            refine OpDoes.mk rfl ?_
            intro vs V hV hd K hK
            have d2 : vs 2 = .tuple #[.int .i64 cv, .int .i64 0] := hd 2 (by decide) (by kernel_rfl)
            simp only [laidIn, lz1, lz2, lz3, lz4, lz5, lz6, if_true, Act.put, lz7, lz8, lz9] at hK ⊢
            simp only [d2] at hK ⊢
            go_simp
            exact hK.out _ _ (Below.refl _ _) rfl (not_fresh rfl)
          case refine_2 =>
            refine OpDoes.mk rfl ?_
            intro vs V hV hd K hK
            have d0 : vs 0 = .agg #[.bool false, .slice a10 x10.length c10, .slice e10 y10.length t10] := hd 0 (by decide) (by kernel_rfl)
            have hh := fun (P : Prop) => Yield.frac_elim P (show ((Yield.frac u2.heap.size (Rat.divInt 1 2) (1)) : Yield).At (vs 1) V from hd 1 (by decide) (by kernel_rfl))
            refine hh _ ?_
            intro g11 a11 c11 x11 e11 t11 y11 d1 F11 P11 I11
            clear hh
            simp only [laidIn, lz1, lz2, lz3, lz4, lz5, lz6, if_true, Act.put, lz7, lz8, lz9] at hK ⊢
            simp only [d0, d1] at hK ⊢
            go_simp
            go_at_call 55
            have hc := pcmp_ok false g11 (F10.below hV) F11 ID I11 (by omega)
            rw [HC.out] at hc
            refine (hc).mono ?_
            rintro e V' ⟨rfl, hb⟩
            exact hK.out _ _ hb rfl (not_fresh rfl)
          case refine_3 =>
            refine OpDoes.mk rfl ?_
            intro vs V hV hd K hK
            simp only [laidIn, lz1, lz2, lz3, lz4, lz5, lz6, if_true, Act.put, lz7, lz8, lz9] at hK ⊢
            go_simp
            go_at_call 26
            refine (lt_part_any 1 2 (by decide) (by decide) (by decide) _).mono ?_
            rintro e V' ⟨g11, a11, c11, x11, e11, t11, y11, rfl, F11, P11, I11, hb⟩
            replace I11 : Is g11 x11 y11 (Rat.divInt 1 2) (1) := I11.mono (by omega)
            exact hK.out _ _ hb ⟨_, _, _, _, _, _, _, rfl, F11.mono hV.size, P11, I11⟩ (not_fresh rfl)
          case refine_4 =>
            refine OpDoes.mk rfl ?_
            intro vs V hV hd K hK
            have hcc := (E92.below hV).three
            have k0 := hcc.1
            have k1 := hcc.2.1
            have k2 := hcc.2.2.1
            clear hcc
            simp only [laidIn, lz1, lz2, lz4, lz5, lz6, if_true, Act.put, lz7, lz8, lz9] at hK ⊢
            go_simp
            exact hK.out _ _ (Below.refl _ _) rfl (not_fresh rfl)
          case refine_5 =>
            intro vs Y3 hV hR hne fuel
            have d0 : vs 0 = .agg #[.bool false, .slice a10 x10.length c10, .slice e10 y10.length t10] := hR 0 (by decide)
            have hh := fun (P : Prop) => Yield.frac_elim P (show ((Yield.frac u2.heap.size (Rat.divInt 1 2) (1)) : Yield).At (vs 1) Y3 from hR 1 (by decide))
            refine hh _ ?_
            intro g11 a11 c11 x11 e11 t11 y11 d1 F11 P11 I11
            clear hh
            have d2 : vs 2 = .tuple #[.int .i64 cv, .int .i64 0] := hR 2 (by decide)
            have d3 : vs 3 = .tuple #[.int .i64 cv, .int .i64 0] := hR 3 (by decide)
            replace E92 := E92.below hV
            replace F10 := F10.below hV
            have hr := hV
            simp only [laidIn, lz4, lz5, lz6, if_true, Act.put, lz7, lz8, lz9]
            simp only [d0, d1, d2, d3]
            clear hR hne hV d0 d1 d2 d3
            clear vs
            show wpAny _ _ _ _ (fuel + 4) _ _ _
            apply mp_of
            case f =>
              intro hgoal
              refine wpAny_all (rs := [4, 5]) (by kernel_rfl) (by simp) (fun i hi => ?_)
              rcases (show i = 4 ∨ i = 5 by simpa using hi) with rfl | rfl
              · clear hi
                refine wpOp_step rfl (fun K hK => ?_)
                simp only [lz1, lz2, lz3]
                rw [if_pos (by rfl)]
                go_simp
                refine hK _ _ ?_
                clear hK
                refine wpAny_all (rs := [5, 6]) (by kernel_rfl) (by simp) (fun i hi => ?_)
                rcases (show i = 5 ∨ i = 6 by simpa using hi) with rfl | rfl
                · clear hi
                  refine wpOp_step rfl (fun K hK => ?_)
                  simp only [lz1, lz2, lz3]
                  rw [if_pos (by rfl)]
                  go_simp
                  refine hK _ _ ?_
                  clear hK
                  refine wpAny_all (rs := [6]) (by kernel_rfl) (by simp) (fun i hi => ?_)
                  obtain rfl : i = 6 := by simpa using hi
                  clear hi
                  refine wpOp_step rfl (fun K hK => ?_)
                  simp only [lz1, lz2, lz3]
                  rw [if_pos (by rfl)]
                  go_simp
                  refine hK _ _ ?_
                  clear hK
                  refine wpAny_all (rs := [7]) (by kernel_rfl) (by simp) (fun i hi => ?_)
                  obtain rfl : i = 7 := by simpa using hi
                  clear hi
                  refine wpOp_step rfl (fun K hK => ?_)
                  simp only [lz1, lz2, lz3]
                  rw [if_pos (by rfl)]
                  go_simp
                  refine hK _ _ ?_
                  clear hK
                  refine wpAny_done (by kernel_rfl) ?_ _
                  exact hgoal
                · clear hi
                  refine wpOp_step rfl (fun K hK => ?_)
                  simp only [lz1, lz2, lz3]
                  rw [if_pos (by rfl)]
                  go_simp
                  refine hK _ _ ?_
                  clear hK
                  refine wpAny_all (rs := [5]) (by kernel_rfl) (by simp) (fun i hi => ?_)
                  obtain rfl : i = 5 := by simpa using hi
                  clear hi
                  refine wpOp_step rfl (fun K hK => ?_)
                  simp only [lz1, lz2, lz3]
                  rw [if_pos (by rfl)]
                  go_simp
                  refine hK _ _ ?_
                  clear hK
                  refine wpAny_all (rs := [7]) (by kernel_rfl) (by simp) (fun i hi => ?_)
                  obtain rfl : i = 7 := by simpa using hi
                  clear hi
                  refine wpOp_step rfl (fun K hK => ?_)
                  simp only [lz1, lz2, lz3]
                  rw [if_pos (by rfl)]
                  go_simp
                  refine hK _ _ ?_
                  clear hK
                  refine wpAny_done (by kernel_rfl) ?_ _
                  exact hgoal
              · clear hi
                refine wpOp_step rfl (fun K hK => ?_)
                simp only [lz1, lz2, lz3]
                rw [if_pos (by rfl)]
                go_simp
                refine hK _ _ ?_
                clear hK
                refine wpAny_all (rs := [4]) (by kernel_rfl) (by simp) (fun i hi => ?_)
                obtain rfl : i = 4 := by simpa using hi
                clear hi
                refine wpOp_step rfl (fun K hK => ?_)
                simp only [lz1, lz2, lz3]
                rw [if_pos (by rfl)]
                go_simp
                refine hK _ _ ?_
                clear hK
                refine wpAny_all (rs := [6]) (by kernel_rfl) (by simp) (fun i hi => ?_)
                obtain rfl : i = 6 := by simpa using hi
                clear hi
                refine wpOp_step rfl (fun K hK => ?_)
                simp only [lz1, lz2, lz3]
                rw [if_pos (by rfl)]
                go_simp
                refine hK _ _ ?_
                clear hK
                refine wpAny_all (rs := [7]) (by kernel_rfl) (by simp) (fun i hi => ?_)
                obtain rfl : i = 7 := by simpa using hi
                clear hi
                refine wpOp_step rfl (fun K hK => ?_)
                simp only [lz1, lz2, lz3]
                rw [if_pos (by rfl)]
                go_simp
                refine hK _ _ ?_
                clear hK
                refine wpAny_done (by kernel_rfl) ?_ _
                exact hgoal
            case p =>
              replace hB := hB.trans ((Below.trans (Below.drew (Below.refl u2.heap.size u2)) hr).mono hB.size)
              have zz2_2 := hr.size
              have zi3 := hB.size
              clear hr
              go_wp2
              go_ret
              exact ⟨rfl, hB⟩
def robQ (q : Rat) (k s m : Int) : List Int × Int := if ((1 ≤ k ∧ k ≤ 65536) ∧ 1 ≤ s ∧ s ≤ 16777215) ∧ (1 ≤ m ∧ m ≤ k) ∧ 0 ≤ q then tblS (wts s (robF k m q) k.toNat) else ([], 3)
theorem Is.below_iff {b : Bool} {xs ds : List Int} {q : Rat} {n : Nat} (I : Is b xs ds q n) (wx : Words xs) : b = false ↔ 0 ≤ q := by
  have h := rob_sign I.low wx
  rw [← I.rat, ratL, Rat.divInt_nonneg_iff_of_pos_right I.low.2.2.1]
  cases b
  · have := val_nonneg wx
    simp [sgn, this]
  · have := h.2 rfl
    constructor
    · intro h'; cases h'
    · intro h'; omega
theorem robustS_is {b : Bool} {xs ds : List Int} {q : Rat} {n : Nat} (I : Is b xs ds q n) (wx : Words xs) (wd : Words ds) (k s m : Int) : robustS b xs ds k s m = robQ q k s m := by
  unfold robustS robQ
  rw [if_pos ((formR_low wx wd).2 I.low), I.rat]
  by_cases h : ((1 ≤ k ∧ k ≤ 65536) ∧ 1 ≤ s ∧ s ≤ 16777215) ∧ (1 ≤ m ∧ m ≤ k) ∧ b = false
  · rw [if_pos h, if_pos ⟨h.1, h.2.1, (I.below_iff wx).1 h.2.2⟩]
  · rw [if_neg h, if_neg (fun g => h ⟨g.1, g.2.1, (I.below_iff wx).2 g.2.2⟩)]
theorem tsRobust_any {a c : Option Addr} {ca cc : Nat} {xs ds : List Int} {w : World} (b : Bool) (F : Fr 0 w a ca xs c cc ds) (hl : xs.length ≤ 4 ∧ ds.length ≤ 4) (k s m : Int) :
    Calls Tryz.prog 14 #[.int .i64 k, .int .i64 s, .int .i64 m, .agg #[.bool b, .slice a xs.length ca, .slice c ds.length cc]] w fun e w' => TblSaid (robustS b xs ds k s m) w e w' := by
  unfold robustS
  by_cases h : formR b xs ds = 0
  · rw [if_pos h]
    by_cases h1 : (1 ≤ k ∧ k ≤ 65536) ∧ 1 ≤ s ∧ s ≤ 16777215
    · by_cases h2 : 1 ≤ m ∧ m ≤ k
      · cases b
        · rw [if_pos ⟨h1, h2, rfl⟩]
          obtain ⟨n, rfl⟩ : ∃ n : Nat, k = n := ⟨k.toNat, by omega⟩
          exact tsRobust_ok false F hl n s m h h1 h2 rfl
        · rw [if_neg (fun h => by cases h.2.2)]
          exact tsRobust_sign true F hl k s m h h1 h2 rfl
      · rw [if_neg (fun h => h2 h.2.1)]
        exact tsRobust_spike b F hl k s m h h1 h2
    · rw [if_neg (fun h => h1 h.1)]
      exact tsRobust_range b F hl k s m h h1
  · rw [if_neg h]
    exact tsRobust_form b F hl k s m h
set_option maxRecDepth 100000 in
set_option maxHeartbeats 4000000 in
theorem lt_awake_any (w : World) : Calls Tryz.prog 10 #[] w fun e w' => e = .returned (.bool true) ∧ Below w.heap.size w w' := by
  have hB := Below.refl w.heap.size w
  go_enter Tryz.func10, Tryz.ntmps10
  go_wp2_with fail
  have hk := tsIdeal_any 3 60 w
  rw [show idealS 3 60 = ([20, 30, 10], 0) by decide +kernel] at hk
  refine (hk).mono ?_
  rintro e w1 ⟨a1, n1, c1, rfl, Z1, hb⟩
  clear hk
  dsimp only at Z1 ⊢
  obtain rfl : n1 = 3 := Z1.len.1
  replace hB := hB.trans (hb.mono hB.size)
  have zz1 := hb.size
  have zh1 := hB.size
  clear hb
  go_wp2_with fail
  refine (lt_part_any 1 4 (by decide) (by decide) (by decide) _).mono ?_
  rintro e w2 ⟨g2, a2, c2, x2, e2, t2, y2, rfl, F2, P2, I2, hb⟩
  replace I2 : Is g2 x2 y2 (Rat.divInt 1 4) (1) := I2.mono (by omega)
  replace Z1 := Z1.below hb
  replace hB := hB.trans (hb.mono hB.size)
  have zz2 := hb.size
  have zh2 := hB.size
  clear hb
  go_wp2_with fail
  have hk := tsRobust_any g2 (F2.mono (Nat.zero_le _)) ⟨by have := I2.lu; omega, by have := I2.ld; omega⟩ 3 60 2
  rw [robustS_is I2 F2.up.words F2.down.words, show robQ (Rat.divInt 1 4) 3 60 2 = ([50, 45, 10], 0) by decide +kernel] at hk
  refine (hk).mono ?_
  rintro e w3 ⟨a3, n3, c3, rfl, Z3, hb⟩
  clear hk
  dsimp only at Z3 ⊢
  obtain rfl : n3 = 3 := Z3.len.1
  replace Z1 := Z1.below hb
  replace F2 := F2.below hb
  replace hB := hB.trans (hb.mono hB.size)
  have zz3 := hb.size
  have zh3 := hB.size
  clear hb
  clear I2
  clear F2
  have hs0 := Nat.le_refl w3.heap.size
  have hq := below_new w3 (.cells #[.int .i64 20, .int .i64 30, .int .i64 10] 3)
  replace Z1 := Z1.below hq
  replace Z3 := Z3.below hq
  have L4 := Box.put (w := w3) (k := (w3.heap.size)) (.cells #[.int .i64 20, .int .i64 30, .int .i64 10] 3) rfl
  replace hs0 := Nat.le_trans hs0 hq.size
  replace hB := hB.trans (hq.mono hB.size)
  clear hq
  go_wp2_with fail
  obtain ⟨u4, hname⟩ := nm hB
  rw [hname] at hs0 hB Z1 Z3 L4 ⊢
  have zh4 := hB.size
  have zs4 := hs0
  clear hname hs0
  have Z4 := intz_box L4 [20, 30, 10] (by unfold Nums; decide) rfl rfl
  have hk := lt_is_any Z1 Z4 (by decide) 0
  rw [decide_eq_true ⟨rfl, rfl⟩] at hk
  refine (hk).mono ?_
  rintro e w5 ⟨rfl, hb⟩
  replace Z1 := Z1.below hb
  replace Z3 := Z3.below hb
  replace L4 := L4.below hb
  replace hB := hB.trans (hb.mono hB.size)
  have zz5 := hb.size
  have zh5 := hB.size
  clear hb
  clear hk
  clear Z4
  clear L4
  clear Z1
  have hs0 := Nat.le_refl w5.heap.size
  have hq := below_new w5 (.cells #[.int .i64 50, .int .i64 45, .int .i64 10] 3)
  replace Z3 := Z3.below hq
  have L5 := Box.put (w := w5) (k := (w5.heap.size)) (.cells #[.int .i64 50, .int .i64 45, .int .i64 10] 3) rfl
  replace hs0 := Nat.le_trans hs0 hq.size
  replace hB := hB.trans (hq.mono hB.size)
  clear hq
  go_wp2_with fail
  obtain ⟨u6, hname⟩ := nm hB
  rw [hname] at hs0 hB Z3 L5 ⊢
  have zh6 := hB.size
  have zs6 := hs0
  clear hname hs0
  have Z5 := intz_box L5 [50, 45, 10] (by unfold Nums; decide) rfl rfl
  have hk := lt_is_any Z3 Z5 (by decide) 0
  rw [decide_eq_true ⟨rfl, rfl⟩] at hk
  refine (hk).mono ?_
  rintro e w7 ⟨rfl, hb⟩
  replace Z3 := Z3.below hb
  replace L5 := L5.below hb
  replace hB := hB.trans (hb.mono hB.size)
  have zz7 := hb.size
  have zh7 := hB.size
  clear hb
  clear hk
  clear Z5
  clear L5
  clear Z3
  have hs0 := Nat.le_refl w7.heap.size
  have hq := below_new w7 (.cells #[.int .i64 1, .int .i64 2, .int .i64 4] 3)
  have L6 := Box.put (w := w7) (k := (w7.heap.size)) (.cells #[.int .i64 1, .int .i64 2, .int .i64 4] 3) rfl
  replace hs0 := Nat.le_trans hs0 hq.size
  replace hB := hB.trans (hq.mono hB.size)
  clear hq
  go_wp2_with fail
  obtain ⟨u8, hname⟩ := nm hB
  rw [hname] at hs0 hB L6 ⊢
  have zh8 := hB.size
  have zs8 := hs0
  clear hname hs0
  have Z6 := intz_box L6 [1, 2, 4] (by unfold Nums; decide) rfl rfl
  have hk := tstotal_any Z6 (by decide)
  rw [show totT [1, 2, 4] = 7 by decide +kernel] at hk
  refine (hk).mono ?_
  rintro e w9 ⟨rfl, hb⟩
  replace L6 := L6.below hb
  replace hB := hB.trans (hb.mono hB.size)
  have zz9 := hb.size
  have zh9 := hB.size
  clear hb
  clear hk
  clear Z6
  clear L6
  have hs0 := Nat.le_refl w9.heap.size
  have hq := below_new w9 (.cells #[.int .i64 5] 3)
  have L7 := Box.put (w := w9) (k := (w9.heap.size)) (.cells #[.int .i64 5] 3) rfl
  replace hs0 := Nat.le_trans hs0 hq.size
  replace hB := hB.trans (hq.mono hB.size)
  clear hq
  go_wp2_with fail
  obtain ⟨u10, hname⟩ := nm hB
  rw [hname] at hs0 hB L7 ⊢
  have zh10 := hB.size
  have zs10 := hs0
  clear hname hs0
  have Z7 := intz_box L7 [5] (by unfold Nums; decide) rfl rfl
  have hk := tscheck_any Z7 1
  rw [show chkT [5] 1 = 0 by decide +kernel] at hk
  refine (hk).mono ?_
  rintro e w11 ⟨rfl, hb⟩
  replace L7 := L7.below hb
  replace hB := hB.trans (hb.mono hB.size)
  have zz11 := hb.size
  have zh11 := hB.size
  clear hb
  clear hk
  clear Z7
  clear L7
  go_wp2
  go_ret
  exact ⟨rfl, hB⟩
theorem robQ_in {q : Rat} {k : Nat} {s m : Int} (h1 : (1 ≤ (k : Int) ∧ (k : Int) ≤ 65536) ∧ 1 ≤ s ∧ s ≤ 16777215) (h2 : 1 ≤ m ∧ m ≤ k) (h3 : 0 ≤ q) : robQ q k s m = tblS (wts s (robF k m q) k) := if_pos ⟨h1, h2, h3⟩
theorem rob_le {k : Nat} {s m : Int} {q : Rat} (hs : 1 ≤ s ∧ s ≤ 10000) (hk : 1 ≤ k) (hm : 1 ≤ m) (h0 : 0 ≤ q) (h3 : q ≤ Rat.divInt 3 1) (j : Nat) : wtQ s (robF k m q ((j : Int) + 1)) ≤ 40000 := by
  refine wtQ_le (M := 4) (by omega) (Rat.add_nonneg (idQ_nonneg (by omega) (by omega)) (shQ_nonneg hm (by omega) h0)) ?_ (by omega)
  have := add_le (idQ_le (k := k) (d := (j : Int) + 1) (by omega) (by omega)) (shQ_le (d := (j : Int) + 1) hm (by omega) h3)
  rw [show Rat.divInt 1 1 + Rat.divInt 3 1 = Rat.divInt 4 1 by decide +kernel] at this
  exact this
set_option maxRecDepth 100000 in
set_option maxHeartbeats 4000000 in
theorem ltspike_any (x0 : Int) (_ : -9223372036854775808 ≤ x0 ∧ x0 ≤ 9223372036854775807) (x1 : Int) (_ : -9223372036854775808 ≤ x1 ∧ x1 ≤ 9223372036854775807) (x2 : Int) (_ : -9223372036854775808 ≤ x2 ∧ x2 ≤ 9223372036854775807) (x3 : Int) (_ : -9223372036854775808 ≤ x3 ∧ x3 ≤ 9223372036854775807) (w : World) :
    Calls Tryz.prog 7 #[.int .i64 x0, .int .i64 x1, .int .i64 x2, .int .i64 x3] w fun e w' => e = .returned (.bool true) ∧ Below w.heap.size w w' := by
  have hB := Below.refl w.heap.size w
  go_enter Tryz.func7, Tryz.ntmps7
  go_wp2_with fail
  refine (lt_awake_any _).mono ?_
  rintro e w1 ⟨rfl, hb⟩
  replace hB := hB.trans (hb.mono hB.size)
  have zz1 := hb.size
  have zh1 := hB.size
  clear hb
  go_wp2_with fail
  refine (pick_is 40 (by omega) (by omega) x0 _).mono ?_
  rintro e w2 ⟨pk, hpk, rfl, hb⟩
  replace hB := hB.trans (hb.mono hB.size)
  have zz2 := hb.size
  have zh2 := hB.size
  clear hb
  go_wp2_with fail
  refine (pick_is 10000 (by omega) (by omega) x1 _).mono ?_
  rintro e w3 ⟨ps, hps, rfl, hb⟩
  replace hB := hB.trans (hb.mono hB.size)
  have zz3 := hb.size
  have zh3 := hB.size
  clear hb
  go_wp2_with fail
  obtain ⟨k, hk⟩ : ∃ k : Nat, (1 : Int) + (pk : Int) = k := ⟨pk + 1, by omega⟩
  obtain ⟨s, hs⟩ : ∃ s : Int, (1 : Int) + (ps : Int) = s := ⟨_, rfl⟩
  have hkb : 1 ≤ k ∧ k ≤ 40 := by omega
  have hsb : 1 ≤ s ∧ s ≤ 10000 := by omega
  simp only [hk, hs]
  clear hk hs hpk hps
  refine (pick_is k (by omega) (by omega) x2 _).mono ?_
  rintro e w4 ⟨pm, hpm, rfl, hb⟩
  replace hB := hB.trans (hb.mono hB.size)
  have zz4 := hb.size
  have zh4 := hB.size
  clear hb
  go_wp2_with fail
  refine (pick_is 301 (by omega) (by omega) x3 _).mono ?_
  rintro e w5 ⟨pq, hpq, rfl, hb⟩
  replace hB := hB.trans (hb.mono hB.size)
  have zz5 := hb.size
  have zh5 := hB.size
  clear hb
  go_wp2_with fail
  obtain ⟨m, hm⟩ : ∃ m : Int, (1 : Int) + (pm : Int) = m := ⟨_, rfl⟩
  have hmb : 1 ≤ m ∧ m ≤ k := by omega
  simp only [hm]
  clear hm hpm
  refine (lt_part_any (pq : Int) 100 (by omega) (by decide) (by decide) _).mono ?_
  rintro e w6 ⟨g1, a1, c1, x1, e1, t1, y1, rfl, F1, P1, I1, hb⟩
  replace I1 : Is g1 x1 y1 (Rat.divInt (pq : Int) 100) (1) := I1.mono (by omega)
  replace hB := hB.trans (hb.mono hB.size)
  have zz6 := hb.size
  have zh6 := hB.size
  clear hb
  go_wp2_with fail
  have ht := tsRobust_any g1 (F1.mono (Nat.zero_le _)) ⟨by have := I1.lu; omega, by have := I1.ld; omega⟩ (k : Int) s m
  rw [robustS_is I1 F1.up.words F1.down.words, robQ_in (show (1 ≤ (k : Int) ∧ (k : Int) ≤ 65536) ∧ 1 ≤ s ∧ s ≤ 16777215 by omega) hmb (mass_ge (x := (pq : Int)) (by omega))] at ht
  clear I1 F1
  obtain ⟨Q, hQ⟩ : ∃ Q, Rat.divInt (pq : Int) 100 = Q := ⟨_, rfl⟩
  have HQ := hide hQ
  have hq0 : 0 ≤ Q := by rw [← hQ]; exact mass_ge (by omega)
  have hq3 : Q ≤ Rat.divInt 3 1 := by rw [← hQ]; exact mass_le (by omega)
  rw [hQ] at ht
  clear hQ
  have hnn : ∀ j : Nat, 0 ≤ wtQ s (robF k m Q ((j : Int) + 1)) := fun j => rob_nonneg (by omega) hsb.1 hmb.1 hq0 j
  have hle : ∀ j : Nat, wtQ s (robF k m Q ((j : Int) + 1)) ≤ 40000 := fun j => rob_le hsb (by omega) hmb.1 hq0 hq3 j
  rcases rob_table hkb hsb hmb hq0 hq3 with ⟨hp, hsk⟩ | hp
  · skip
    rw [hp] at ht
    refine (ht).mono ?_
    rintro e w7 ⟨a1, n1, c1, rfl, Z1, hb⟩
    clear ht hp
    dsimp only at Z1 ⊢
    replace hB := hB.trans (hb.mono hB.size)
    have zz7 := hb.size
    have zh7 := hB.size
    clear hb
    have hsd : decide (s ≤ (k : Int)) = true := decide_eq_true hsk
    clear hnn hle
    go_wp2
    go_ret
    exact ⟨rfl, hB⟩
  · skip
    rw [hp] at ht
    refine (ht).mono ?_
    rintro e w7 ⟨a1, n1, c1, rfl, Z1, hb⟩
    clear ht hp
    dsimp only at Z1 ⊢
    replace hB := hB.trans (hb.mono hB.size)
    have zz7 := hb.size
    have zh7 := hB.size
    clear hb
    obtain rfl : n1 = k := by have := Z1.len.1; rw [wts_len] at this; exact this
    have HNN := hide hnn
    have HLE := hide hle
    clear hnn hle
    go_wp2
    obtain ⟨bb, o, rfl, _, _⟩ := Z1.row (by omega)
    have HZ := hide Z1
    have HB0 := hide hB
    clear Z1 hB
    go_loopw [12] (fun iv wr => ∃ i : Nat, i ≤ n1 ∧ iv = .int .i64 ((i : Int) + 1) ∧ Hid (Below w7.heap.size w7 wr)) (fun iv _ => n1 + 1 - (intOf iv).toNat)
    case atStart => exact ⟨0, Nat.zero_le _, rfl, Below.refl _ _⟩
    case round =>
      obtain ⟨i, hi, rfl, HB⟩ := hrel
      by_cases hik : i < n1
      · have hdl : decide ((i : Int) + 1 ≤ (n1 : Int)) = true := decide_eq_true (by omega)
        have hki : (i : Int) < (n1 : Int) := by omega
        have hw1 : IntKind.i64.wrap ((i : Int) + 1 + 1) = (i : Int) + 1 + 1 := by rw [IntKind.wrap_i64]; omega
        have hw2 : IntKind.i64.wrap ((i : Int) + 1 - 1) = (i : Int) := by rw [IntKind.wrap_i64]; omega
        have hza : 0 ≤ wtQ s (robF n1 m Q ((i : Int) + 1)) ∧ wtQ s (robF n1 m Q ((i : Int) + 1)) ≤ 40000 := ⟨HNN.out i, HLE.out i⟩
        have Z := HZ.out.below HB.out
        have hc : ∀ V : World, Below wr.heap.size wr V → V.cell? ⟨bb, o + i, none⟩ = some (.int .i64 (wtQ s (robF n1 m Q ((i : Int) + 1)))) := fun V hV => by
          have h := ((Z.below hV).cell (j := i) hik).1
          rw [wts_get s _ hik] at h
          exact h
        obtain ⟨z, hz⟩ : ∃ z, wtQ s (robF n1 m Q ((i : Int) + 1)) = z := ⟨_, rfl⟩
        rw [hz] at hc hza
        have HZQ := hide hz.symm
        have HC := hide hc
        clear hz hc Z
        have hB := HB0.out.trans (HB.out.mono HB0.out.size)
        have hR := Below.refl wr.heap.size wr
        have hd1 : 1 ≤ (i : Int) + 1 := by omega
        have hd2 : (i : Int) + 1 ≤ n1 := by omega
        have hwi : IntKind.i64.wrap (i : Int) = (i : Int) := by rw [IntKind.wrap_i64]; omega
        generalize hdd : (i : Int) + 1 = d at *
        rcases Int.lt_trichotomy d m with hdm | hdm | hdm
        · skip
          obtain ⟨PP, hP⟩ : ∃ PP, d * m = PP := ⟨_, rfl⟩
          have hpb : 0 < d * m ∧ d * m ≤ 1600 := by
            have h3 := Int.mul_pos (show 0 < d by omega) (show 0 < m by omega)
            have h4 := Int.mul_le_mul (show d ≤ 40 by omega) (show m ≤ 40 by omega) (by omega) (by decide)
            omega
          rw [hP] at hpb
          have hwp : IntKind.i64.wrap (d * m) = PP := by rw [hP, IntKind.wrap_i64]; omega
          have HX : Hid (z = wtQ s (idQ n1 d + Rat.divInt 1 PP)) := by rw [Hid, HZQ.out]; unfold robF shQ; rw [if_pos hdm, hP]
          have hlt : decide (d < m) = true := decide_eq_true hdm
          have heq : (d == m) = false := beq_eq_false_iff_ne.2 (by omega)
          clear hP HZQ
          go_wp2_with fail
          refine (lt_part_any 0 1 (by decide) (by decide) (by decide) _).mono ?_
          rintro e w8 ⟨g2, a2, c2, x2, e2, t2, y2, rfl, F2, P2, I2, hb⟩
          replace I2 : Is g2 x2 y2 (Rat.divInt 0 1) (1) := I2.mono (by omega)
          replace hB := hB.trans (hb.mono hB.size)
          replace hR := hR.trans (hb.mono hR.size)
          have zz8 := hb.size
          have zh8 := hB.size
          clear hb
          have hs0 := Nat.le_refl w8.heap.size
          have hq := below_new w8 (.cells #[.bool g2, .slice a2 x2.length c2, .slice e2 y2.length t2] 27)
          replace F2 := F2.below hq
          have E13 := Box.put (w := w8) (k := (w8.heap.size)) (.cells #[.bool g2, .slice a2 x2.length c2, .slice e2 y2.length t2] 27) rfl
          replace hs0 := Nat.le_trans hs0 hq.size
          replace hB := hB.trans (hq.mono hB.size)
          replace hR := hR.trans (hq.mono hR.size)
          clear hq
          go_wp2_with fail
          obtain ⟨u9, hname⟩ := nm hB
          rw [hname] at hs0 hB hR F2 E13 ⊢
          have zh9 := hB.size
          have zs9 := hs0
          clear hname hs0
          refine (lt_part_any 1 PP (by decide) (by omega) (by omega) _).mono ?_
          rintro e w10 ⟨g3, a3, c3, x3, e3, t3, y3, rfl, F3, P3, I3, hb⟩
          replace I3 : Is g3 x3 y3 (Rat.divInt 1 PP) (1) := I3.mono (by omega)
          replace F2 := F2.below hb
          replace E13 := E13.below hb
          replace hB := hB.trans (hb.mono hB.size)
          replace hR := hR.trans (hb.mono hR.size)
          have zz10 := hb.size
          have zh10 := hB.size
          clear hb
          clear I2 F2
          obtain ⟨k0, k1, k2, f0, f1, f2⟩ := E13.three
          have qE13 := E13.lt
          have hs0 := Nat.le_refl w10.heap.size
          have hT := turns3 (w8.heap.size) w10 (.bool g3) (.slice a3 x3.length c3) (.slice e3 y3.length t3)
          replace F3 := F3.beside E13 (noWord3 (fun _ e => by cases e) (fun _ e => by cases e) (fun _ e => by cases e)) hT
          replace E13 := Box.set3 (.bool g3) (.slice a3 x3.length c3) (.slice e3 y3.length t3) E13
          replace hB := hB.trans (hT.below.mono (by omega))
          replace hR := hR.trans (hT.below.mono (by omega))
          replace hs0 := Nat.le_trans hs0 hT.below.size
          clear hT
          go_wp2_with fail
          clear k0 k1 k2 f0 f1 f2
          obtain ⟨u11, hname⟩ := nm hB
          rw [hname] at hs0 hB hR E13 F3 ⊢
          have zh11 := hB.size
          have zs11 := hs0
          clear hname hs0
          have qE13 := E13.lt
          replace E13 := E13.drew
          replace F3 := F3.drew
          refine wp_yieldsZ 10 8 [.is (.int .i64 (n1 : Int)), .is (.int .i64 d), (Yield.frac u11.heap.size (idQ n1 d) (1)), .is (.agg #[.bool g3, .slice a3 x3.length c3, .slice e3 y3.length t3]), (Yield.row 2 4 [idQ n1 d, Rat.divInt 1 PP]), (Yield.fracE u11.heap.size (idQ n1 d + Rat.divInt 1 PP) (11)), (Yield.fracE u11.heap.size (idQ n1 d + Rat.divInt 1 PP) (11)), (Yield.frac u11.heap.size (idQ n1 d + Rat.divInt 1 PP) (11)), .is (.int .i64 0), (.new u11.heap.size (.cells #[.bool false, .slice none 0 0, .slice none 0 0] 27))] (.int .i64 0) rfl (by kernel_rfl) (by kernel_rfl) (lt_cons ?_ (lt_cons ?_ (lt_cons ?_ (lt_cons ?_ (lt_cons ?_ (lt_cons ?_ (lt_cons ?_ (lt_cons ?_ (lt_cons ?_ (lt_cons ?_ lt_nil)))))))))) ?_
          case refine_1 =>
            refine OpDoes.mk rfl ?_
            intro vs V hV hd K hK
            simp only [laidIn, lz1, lz2, lz3, lz4, lz5, lz6, if_true, Act.put, lz7, lz8, lz9] at hK ⊢
            go_simp
            exact hK.out _ _ ((Below.refl _ _).a1 _) ⟨_, rfl, Box.new _ _, hV.size⟩ (fresh_apart _ _ (fresh_new _))
          case refine_2 =>
            refine OpDoes.mk rfl ?_
            intro vs V hV hd K hK
            have hh := fun (P : Prop) => Yield.fracE_elim P (show ((Yield.fracE u11.heap.size (idQ n1 d + Rat.divInt 1 PP) (11)) : Yield).At (vs 6) V from hd 6 (by decide) (by kernel_rfl))
            refine hh _ ?_
            intro g7 a7 c7 x7 e7 t7 y7 d6 F7 P7 I7
            clear hh
            simp only [laidIn, lz1, lz2, lz3, lz4, lz5, lz6, if_true, Act.put, lz7, lz8, lz9] at hK ⊢
            simp only [d6] at hK ⊢
            go_simp
            exact hK.out _ _ (Below.refl _ _) rfl (not_fresh rfl)
          case refine_3 =>
            refine OpDoes.mk rfl ?_
            intro vs V hV hd K hK
            have hh := fun (P : Prop) => Yield.fracE_elim P (show ((Yield.fracE u11.heap.size (idQ n1 d + Rat.divInt 1 PP) (11)) : Yield).At (vs 6) V from hd 6 (by decide) (by kernel_rfl))
            refine hh _ ?_
            intro g7 a7 c7 x7 e7 t7 y7 d6 F7 P7 I7
            clear hh
            simp only [laidIn, lz1, lz2, lz3, lz4, lz5, lz6, if_true, Act.put, lz7, lz8, lz9] at hK ⊢
            simp only [d6] at hK ⊢
            go_simp
            exact hK.out _ _ (Below.refl _ _) ⟨_, _, _, _, _, _, _, rfl, F7, P7, I7⟩ (not_fresh rfl)
          case refine_4 =>
            refine OpDoes.mk rfl ?_
            intro vs V hV hd K hK
            have hh := fun (P : Prop) => Yield.fracE_elim P (show ((Yield.fracE u11.heap.size (idQ n1 d + Rat.divInt 1 PP) (11)) : Yield).At (vs 5) V from hd 5 (by decide) (by kernel_rfl))
            refine hh _ ?_
            intro g5 a5 c5 x5 e5 t5 y5 d5 F5 P5 I5
            clear hh
            simp only [laidIn, lz1, lz2, lz3, lz4, lz5, lz6, if_true, Act.put, lz7, lz8, lz9] at hK ⊢
            simp only [d5] at hK ⊢
            go_simp
            exact hK.out _ _ (Below.refl _ _) ⟨_, _, _, _, _, _, _, rfl, F5, P5, I5⟩ (not_fresh rfl)
          case refine_5 =>
            refine OpDoes.mk rfl ?_
            intro vs V hV hd K hK
            have hh := fun (P : Prop) => Yield.row_elim P (show ((Yield.row 2 4 [idQ n1 d, Rat.divInt 1 PP]) : Yield).At (vs 4) V from hd 4 (by decide) (by kernel_rfl))
            refine hh _ ?_
            intro k6 r6 d4 J6 R6 L6 G6 Q6
            clear hh
            simp only [laidIn, lz1, lz2, lz3, lz4, lz5, lz6, if_true, Act.put, lz7, lz8, lz9] at hK ⊢
            simp only [d4] at hK ⊢
            go_simp
            go_at_call 31
            refine (padd_row J6 R6 L6 G6 Q6 (by omega) (by omega)).mono ?_
            rintro e V' ⟨g5, a5, c5, x5, e5, t5, y5, rfl, F5, P5, I5, hb⟩
            replace I5 : Is g5 x5 y5 (idQ n1 d + Rat.divInt 1 PP) (11) := (I5.mono (by omega)).to (two_add _ _)
            exact hK.out _ _ hb ⟨_, _, _, _, _, _, _, rfl, F5.mono hV.size, P5, I5⟩ (not_fresh rfl)
          case refine_6 =>
            refine OpDoes.mk rfl ?_
            intro vs V hV hd K hK
            have hh := fun (P : Prop) => Yield.frac_elim P (show ((Yield.frac u11.heap.size (idQ n1 d) (1)) : Yield).At (vs 2) V from hd 2 (by decide) (by kernel_rfl))
            refine hh _ ?_
            intro g4 a4 c4 x4 e4 t4 y4 d2 F4 P4 I4
            clear hh
            have d3 : vs 3 = .agg #[.bool g3, .slice a3 x3.length c3, .slice e3 y3.length t3] := hd 3 (by decide) (by kernel_rfl)
            simp only [laidIn, lz1, lz2, lz3, lz4, lz5, lz6, if_true, Act.put, lz7, lz8, lz9] at hK ⊢
            simp only [d2, d3] at hK ⊢
            go_simp
            exact hK.out _ _ ((Below.refl _ _).a1 _) (Yield.row_two ⟨g4, a4, c4, x4, e4, t4, y4⟩ ⟨g3, a3, c3, x3, e3, t3, y3⟩ (F4.mono (Nat.zero_le _)) I4 ((F3.below hV).mono (Nat.zero_le _)) I3 (by omega) (by omega)) (not_fresh rfl)
          case refine_7 =>
            refine OpDoes.mk rfl ?_
            intro vs V hV hd K hK
            have hcc := (E13.below hV).three
            have k0 := hcc.1
            have k1 := hcc.2.1
            have k2 := hcc.2.2.1
            clear hcc
            simp only [laidIn, lz1, lz2, lz3, lz4, lz5, lz6, if_true, Act.put, lz7, lz8, lz9] at hK ⊢
            go_simp
            exact hK.out _ _ (Below.refl _ _) rfl (not_fresh rfl)
          case refine_8 =>
            refine OpDoes.mk rfl ?_
            intro vs V hV hd K hK
            have d0 : vs 0 = .int .i64 (n1 : Int) := hd 0 (by decide) (by kernel_rfl)
            have d1 : vs 1 = .int .i64 d := hd 1 (by decide) (by kernel_rfl)
            simp only [laidIn, lz1, lz2, lz3, lz4, lz5, lz6, if_true, Act.put, lz7, lz8, lz9] at hK ⊢
            simp only [d0, d1] at hK ⊢
            go_simp
            go_at_call 30
            refine (lt_ideal_any d n1 (by omega) (by omega) _).mono ?_
            rintro e V' ⟨g4, a4, c4, x4, e4, t4, y4, rfl, F4, P4, I4, hb⟩
            replace I4 : Is g4 x4 y4 (idQ n1 d) (1) := I4.mono (by omega)
            exact hK.out _ _ hb ⟨_, _, _, _, _, _, _, rfl, F4.mono hV.size, P4, I4⟩ (not_fresh rfl)
          case refine_9 =>
            refine OpDoes.mk rfl ?_
            intro vs V hV hd K hK
            simp only [laidIn, lz1, lz2, lz3, lz4, lz5, lz6, if_true, Act.put, lz7, lz8, lz9] at hK ⊢
            go_simp
            exact hK.out _ _ (Below.refl _ _) rfl (not_fresh rfl)
          case refine_10 =>
            refine OpDoes.mk rfl ?_
            intro vs V hV hd K hK
            simp only [laidIn, lz1, lz2, lz4, lz5, lz6, if_true, Act.put, lz7, lz8, lz9] at hK ⊢
            go_simp
            exact hK.out _ _ (Below.refl _ _) rfl (not_fresh rfl)
          case refine_11 =>
            intro vs Y1 hV hR hne fuel
            have d0 : vs 0 = .int .i64 (n1 : Int) := hR 0 (by decide)
            have d1 : vs 1 = .int .i64 d := hR 1 (by decide)
            have hh := fun (P : Prop) => Yield.frac_elim P (show ((Yield.frac u11.heap.size (idQ n1 d) (1)) : Yield).At (vs 2) Y1 from hR 2 (by decide))
            refine hh _ ?_
            intro g4 a4 c4 x4 e4 t4 y4 d2 F4 P4 I4
            clear hh
            have d3 : vs 3 = .agg #[.bool g3, .slice a3 x3.length c3, .slice e3 y3.length t3] := hR 3 (by decide)
            have hh := fun (P : Prop) => Yield.row_elim P (show ((Yield.row 2 4 [idQ n1 d, Rat.divInt 1 PP]) : Yield).At (vs 4) Y1 from hR 4 (by decide))
            refine hh _ ?_
            intro k6 r6 d4 J6 R6 L6 G6 Q6
            clear hh
            have hh := fun (P : Prop) => Yield.fracE_elim P (show ((Yield.fracE u11.heap.size (idQ n1 d + Rat.divInt 1 PP) (11)) : Yield).At (vs 5) Y1 from hR 5 (by decide))
            refine hh _ ?_
            intro g5 a5 c5 x5 e5 t5 y5 d5 F5 P5 I5
            clear hh
            have hh := fun (P : Prop) => Yield.fracE_elim P (show ((Yield.fracE u11.heap.size (idQ n1 d + Rat.divInt 1 PP) (11)) : Yield).At (vs 6) Y1 from hR 6 (by decide))
            refine hh _ ?_
            intro g7 a7 c7 x7 e7 t7 y7 d6 F7 P7 I7
            clear hh
            have hh := fun (P : Prop) => Yield.frac_elim P (show ((Yield.frac u11.heap.size (idQ n1 d + Rat.divInt 1 PP) (11)) : Yield).At (vs 7) Y1 from hR 7 (by decide))
            refine hh _ ?_
            intro g8 a8 c8 x8 e8 t8 y8 d7 F8 P8 I8
            clear hh
            have d8 : vs 8 = .int .i64 0 := hR 8 (by decide)
            obtain ⟨k_E91, d9, E91, l_E91⟩ := (show ((.new u11.heap.size (.cells #[.bool false, .slice none 0 0, .slice none 0 0] 27)) : Yield).At (vs 9) Y1 from hR 9 (by decide))
            replace E13 := E13.below hV
            replace F3 := F3.below hV
            have hr := hV
            clear hR hne hV
            have hcc := E91.three
            have k0 := hcc.1
            have k1 := hcc.2.1
            have k2 := hcc.2.2.1
            have f0 := hcc.2.2.2.1
            have f1 := hcc.2.2.2.2.1
            have f2 := hcc.2.2.2.2.2
            clear hcc
            apply mp_of
            case f =>
              intro hgoal
              constructor
              · skip
                simp only [laidIn, lz4, lz5, lz6, if_true, Act.put, lz7, lz8, lz9]
                simp only [d0, d1, d2, d3, d4, d5, d6, d7, d8, d9]
                show wpAny _ _ _ _ (fuel + 2) _ _ _
                refine wpAny_all (rs := [10]) (by kernel_rfl) (by simp) (fun i hi => ?_)
                obtain rfl : i = 10 := by simpa using hi
                clear hi
                refine wpOp_step rfl (fun K hK => ?_)
                simp only [lz1, lz2, lz3]
                rw [if_pos (by rfl)]
                go_simp
                refine hK _ _ ?_
                clear hK
                refine wpAny_all (rs := [11]) (by kernel_rfl) (by simp) (fun i hi => ?_)
                obtain rfl : i = 11 := by simpa using hi
                clear hi
                refine wpOp_step rfl (fun K hK => ?_)
                simp only [lz1, lz2, lz3]
                rw [if_pos (by rfl)]
                go_simp
                refine hK _ _ ?_
                clear hK
                refine wpAny_done (by kernel_rfl) ?_ _
                exact hgoal
              · skip
                simp only [laidIn, lz4, lz5, lz6, if_true, Act.put, lz7, lz8, lz9, Bool.false_eq_true, if_false, show ((0 : Nat) != 8) = true from rfl, show ((1 : Nat) != 8) = true from rfl, show ((2 : Nat) != 8) = true from rfl, show ((3 : Nat) != 8) = true from rfl, show ((4 : Nat) != 8) = true from rfl, show ((5 : Nat) != 8) = true from rfl, show ((6 : Nat) != 8) = true from rfl, show ((7 : Nat) != 8) = true from rfl, show ((8 : Nat) != 8) = false from rfl, show ((9 : Nat) != 8) = true from rfl]
                simp only [d0, d1, d2, d3, d4, d5, d6, d7, d9]
                show wpAny _ _ _ _ (fuel + 3) _ _ _
                refine wpAny_all (rs := [8, 10]) (by kernel_rfl) (by simp) (fun i hi => ?_)
                rcases (show i = 8 ∨ i = 10 by simpa using hi) with rfl | rfl
                · clear hi
                  refine wpOp_step rfl (fun K hK => ?_)
                  simp only [lz1, lz2, lz3]
                  rw [if_pos (by rfl)]
                  go_simp
                  refine hK _ _ ?_
                  clear hK
                  refine wpAny_all (rs := [10]) (by kernel_rfl) (by simp) (fun i hi => ?_)
                  obtain rfl : i = 10 := by simpa using hi
                  clear hi
                  refine wpOp_step rfl (fun K hK => ?_)
                  simp only [lz1, lz2, lz3]
                  rw [if_pos (by rfl)]
                  go_simp
                  refine hK _ _ ?_
                  clear hK
                  refine wpAny_all (rs := [11]) (by kernel_rfl) (by simp) (fun i hi => ?_)
                  obtain rfl : i = 11 := by simpa using hi
                  clear hi
                  refine wpOp_step rfl (fun K hK => ?_)
                  simp only [lz1, lz2, lz3]
                  rw [if_pos (by rfl)]
                  go_simp
                  refine hK _ _ ?_
                  clear hK
                  refine wpAny_done (by kernel_rfl) ?_ _
                  exact hgoal
                · clear hi
                  refine wpOp_step rfl (fun K hK => ?_)
                  simp only [lz1, lz2, lz3]
                  rw [if_pos (by rfl)]
                  go_simp
                  refine hK _ _ ?_
                  clear hK
                  refine wpAny_all (rs := [8]) (by kernel_rfl) (by simp) (fun i hi => ?_)
                  obtain rfl : i = 8 := by simpa using hi
                  clear hi
                  refine wpOp_step rfl (fun K hK => ?_)
                  simp only [lz1, lz2, lz3]
                  rw [if_pos (by rfl)]
                  go_simp
                  refine hK _ _ ?_
                  clear hK
                  refine wpAny_all (rs := [11]) (by kernel_rfl) (by simp) (fun i hi => ?_)
                  obtain rfl : i = 11 := by simpa using hi
                  clear hi
                  refine wpOp_step rfl (fun K hK => ?_)
                  simp only [lz1, lz2, lz3]
                  rw [if_pos (by rfl)]
                  go_simp
                  refine hK _ _ ?_
                  clear hK
                  refine wpAny_done (by kernel_rfl) ?_ _
                  exact hgoal
            case p =>
              clear k0 f0 k1 f1 k2 f2
              have hT := turns3 (k_E91) Y1 (.bool g8) (.slice a8 x8.length c8) (.slice e8 y8.length t8)
              replace E13 := E13.turns hT (by omega)
              replace F3 := F3.beside E91 (noWord3 (fun _ e => by cases e) (fun _ e => by cases e) (fun _ e => by cases e)) hT
              replace F4 := F4.beside E91 (noWord3 (fun _ e => by cases e) (fun _ e => by cases e) (fun _ e => by cases e)) hT
              replace F5 := F5.beside E91 (noWord3 (fun _ e => by cases e) (fun _ e => by cases e) (fun _ e => by cases e)) hT
              replace F7 := F7.beside E91 (noWord3 (fun _ e => by cases e) (fun _ e => by cases e) (fun _ e => by cases e)) hT
              replace F8 := F8.beside E91 (noWord3 (fun _ e => by cases e) (fun _ e => by cases e) (fun _ e => by cases e)) hT
              replace E91 := Box.set3 (.bool g8) (.slice a8 x8.length c8) (.slice e8 y8.length t8) E91
              have hr10 := hT.below
              obtain ⟨X1, hX⟩ := nm hT.below
              rw [hX] at E13 F3 F4 F5 F7 F8 E91 hr10 ⊢
              clear hX hT
              replace hB := hB.trans ((Below.trans (Below.drew (Below.refl u11.heap.size u11)) hr).mono hB.size)
              replace hB := hB.trans (hr10.mono (by omega))
              replace hR := hR.trans ((Below.trans (Below.drew (Below.refl u11.heap.size u11)) hr).mono hR.size)
              replace hR := hR.trans (hr10.mono (by omega))
              have zz11_1 := hr.size
              have zi1 := hB.size
              have zy1_10 := hr10.size
              clear hr hr10
              clear d0 d1 d2 d3 d4 d5 d6 d7 d8 d9
              clear vs
              clear E13 F3 F4 F5 F7
              have hcc := fun V hV => HC.out V (hR.trans (show Below wr.heap.size X1 V from hV))
              obtain ⟨k0, k1, k2, f0, f1, f2⟩ := E91.three
              go_wp2_with fail
              clear k0 k1 k2 f0 f1 f2
              have qE91 := E91.lt
              replace E91 := E91.drew
              replace F8 := F8.drew
              have hr := Below.refl X1.drew.heap.size X1.drew
              have hkeep : ∀ V : World, Below X1.drew.heap.size X1.drew V → V.cell? ⟨bb, o + i, none⟩ = some (.int .i64 z) ∧ V.cell? ⟨k_E91, 0, none⟩ = some (.bool g8) ∧ V.cell? ⟨k_E91, 1, none⟩ = some (.slice a8 x8.length c8) ∧ V.cell? ⟨k_E91, 2, none⟩ = some (.slice e8 y8.length t8) := fun V hV => ⟨hcc V (Below.trans (Below.drew (Below.refl X1.heap.size X1)) hV |>.mono hR.size), (E91.below hV).three.1, (E91.below hV).three.2.1, (E91.below hV).three.2.2.1⟩
              refine wp_region_held_drew (S := fun V : World => V.cell? ⟨bb, o + i, none⟩ = some (.int .i64 z) ∧ V.cell? ⟨k_E91, 0, none⟩ = some (.bool g8) ∧ V.cell? ⟨k_E91, 1, none⟩ = some (.slice a8 x8.length c8) ∧ V.cell? ⟨k_E91, 2, none⟩ = some (.slice e8 y8.length t8)) (by kernel_rfl) (hkeep _ hr) (fun hHeld => ?_)
              refine wpAnyH_take (i := 0) (v := ?_) rfl (by kernel_rfl) (by kernel_rfl) (by kernel_rfl) (fun _ _ _ h => h) (Or.inl ⟨by rfl, ?_⟩) (by assumption) ?_
              rotate_left
              · intro w hSw
                try dsimp only at hSw
                go_simp
                try with_reducible rfl
              simp only [Act.put, lz7, lz8, lz9, lz1, lz2]
              refine wpAnyH_take (i := 1) (v := ?_) rfl (by kernel_rfl) (by kernel_rfl) (by kernel_rfl) (fun _ _ _ h => h) (Or.inl ⟨by rfl, ?_⟩) (by assumption) ?_
              rotate_left
              · intro w hSw
                try dsimp only at hSw
                go_simp
                try with_reducible rfl
              simp only [Act.put, lz7, lz8, lz9, lz1, lz2, lz3]
              refine wpAnyH_take (i := 2) (v := ?_) rfl (by kernel_rfl) (by kernel_rfl) (by kernel_rfl) (fun _ _ _ h => h) (Or.inl ⟨by rfl, ?_⟩) (by assumption) ?_
              rotate_left
              · intro w hSw
                try dsimp only at hSw
                go_simp
                try with_reducible rfl
              simp only [Act.put, lz7, lz8, lz9, lz1, lz2, lz3]
              refine wpAnyH_take (i := 3) (v := ?_) rfl (by kernel_rfl) (by kernel_rfl) (by kernel_rfl) (fun _ _ _ h => h) (Or.inl ⟨by rfl, ?_⟩) (by assumption) ?_
              rotate_left
              · intro w hSw
                try dsimp only at hSw
                go_simp
                try with_reducible rfl
              simp only [Act.put, lz7, lz8, lz9, lz1, lz2, lz3]
              refine wpAnyH_take (i := 4) (v := ?_) rfl (by kernel_rfl) (by kernel_rfl) (by kernel_rfl) (fun _ _ _ h => h) (Or.inl ⟨by rfl, ?_⟩) (by assumption) ?_
              rotate_left
              · intro w hSw
                try dsimp only at hSw
                go_simp
                try with_reducible rfl
              simp only [Act.put, lz7, lz8, lz9, lz1, lz2, lz3]
              refine wpAnyH_take (i := 5) (v := ?_) rfl (by kernel_rfl) (by kernel_rfl) (by kernel_rfl) (fun _ _ _ h => h) (Or.inl ⟨by rfl, ?_⟩) (by assumption) ?_
              rotate_left
              · intro w hSw
                try dsimp only at hSw
                go_simp
                try with_reducible rfl
              simp only [Act.put, lz7, lz8, lz9, lz1, lz2, lz3]
              refine wpAnyH_take (i := 6) (v := ?_) rfl (by kernel_rfl) (by kernel_rfl) (by kernel_rfl) (fun _ _ _ h => h) (Or.inl ⟨by rfl, ?_⟩) (by assumption) ?_
              rotate_left
              · intro w hSw
                try dsimp only at hSw
                go_simp
                try with_reducible rfl
              simp only [Act.put, lz7, lz8, lz9, lz1, lz2, lz3]
              refine wpAnyH_take (i := 7) (v := ?_) rfl (by kernel_rfl) (by kernel_rfl) (by kernel_rfl) (fun _ _ _ h => h) (Or.inl ⟨by rfl, ?_⟩) (by assumption) ?_
              rotate_left
              · intro w hSw
                try dsimp only at hSw
                go_simp
                try with_reducible rfl
              simp only [Act.put, lz7, lz8, lz9, lz1, lz2, lz3]
              refine wpAnyH_take (i := 8) (v := ?_) rfl (by kernel_rfl) (by kernel_rfl) (by kernel_rfl) (fun _ _ _ h => h) (Or.inl ⟨by rfl, ?_⟩) (by assumption) ?_
              rotate_left
              · intro w hSw
                try dsimp only at hSw
                go_simp
                try with_reducible rfl
              simp only [Act.put, lz7, lz8, lz9, lz1, lz2, lz3]
              refine wpAnyH_take (i := 9) (v := ?_) rfl (by kernel_rfl) (by kernel_rfl) (by kernel_rfl) (fun _ _ _ h => h) (Or.inl ⟨by rfl, ?_⟩) (by assumption) ?_
              rotate_left
              · intro w hSw
                try dsimp only at hSw
                go_simp
                try with_reducible rfl
              simp only [Act.put, lz7, lz8, lz9, lz1, lz2, lz3]
              refine wpAnyH_ready (rs := [10]) (by kernel_rfl) (by simp) ?_
              refine AllReadyH.cons rfl (fun K hK => ?_) AllReadyH.nil
              go_simp
              go_at_call 29
              refine (lt_near_any z s (by omega) (by omega) g8 (F8.mono (Nat.zero_le _)) (I8.mono (by decide)) HX.out).mono ?_
              rintro e w12 ⟨rfl, hb⟩
              replace E91 := E91.below hb
              replace F8 := F8.below hb
              replace hr := hr.trans (hb.mono hr.size)
              have zw12 := hb.size
              clear hb
              dsimp only
              clear hHeld
              refine hK.out _ _ (hkeep _ hr) (fun hHeld => ?_)
              clear hK K
              try simp only [Act.put, List.setIfInBounds_toArray, List.set_cons_zero, List.set_cons_succ, List.getElem_toArray, List.getElem_cons_zero, List.getElem_cons_succ]
              refine wpAnyH_take (i := 11) (v := ?_) rfl (by kernel_rfl) (by kernel_rfl) (by kernel_rfl) (fun _ _ _ h => h) (Or.inl ⟨by rfl, ?_⟩) (by assumption) ?_
              rotate_left
              · intro w hSw
                try dsimp only at hSw
                go_simp
                try with_reducible rfl
              simp only [Act.put, lz7, lz8, lz9, lz1, lz2, lz3]
              refine wpAnyH_take (i := 12) (v := ?_) rfl (by kernel_rfl) (by kernel_rfl) (by kernel_rfl) (fun _ _ _ h => h) (Or.inl ⟨by rfl, ?_⟩) (by assumption) ?_
              rotate_left
              · intro w hSw
                try dsimp only at hSw
                go_simp
                try with_reducible rfl
              simp only [Act.put, lz7, lz8, lz9, lz1, lz2, lz3]
              refine wpAnyH_done (by kernel_rfl) ?_ _
              clear hHeld
              replace hB := hB.trans ((Below.trans (Below.drew (Below.refl X1.heap.size X1)) hr).mono hB.size)
              replace hR := hR.trans ((Below.trans (Below.drew (Below.refl X1.heap.size X1)) hr).mono hR.size)
              have zi_12 := hB.size
              clear hr hkeep
              clear hcc
              have HBB := hide (HB.out.trans (hR.mono HB.out.size))
              subst hdd
              clear hB hR E91 F8
              go_wp2
              exact ⟨⟨i + 1, by omega, by go_num, HBB.out⟩, by simp [intOf]; omega⟩
        · skip
          have HX : Hid (z = wtQ s (idQ n1 d + Q)) := by rw [Hid, HZQ.out]; unfold robF shQ; rw [if_neg (by omega), if_pos hdm]
          have hlt : decide (d < m) = false := decide_eq_false (by omega)
          have heq : (d == m) = true := beq_iff_eq.2 hdm
          clear HZQ hdm
          go_wp2_with fail
          refine (lt_part_any 0 1 (by decide) (by decide) (by decide) _).mono ?_
          rintro e w8 ⟨g2, a2, c2, x2, e2, t2, y2, rfl, F2, P2, I2, hb⟩
          replace I2 : Is g2 x2 y2 (Rat.divInt 0 1) (1) := I2.mono (by omega)
          replace hB := hB.trans (hb.mono hB.size)
          replace hR := hR.trans (hb.mono hR.size)
          have zz8 := hb.size
          have zh8 := hB.size
          clear hb
          have hs0 := Nat.le_refl w8.heap.size
          have hq := below_new w8 (.cells #[.bool g2, .slice a2 x2.length c2, .slice e2 y2.length t2] 27)
          replace F2 := F2.below hq
          have E13 := Box.put (w := w8) (k := (w8.heap.size)) (.cells #[.bool g2, .slice a2 x2.length c2, .slice e2 y2.length t2] 27) rfl
          replace hs0 := Nat.le_trans hs0 hq.size
          replace hB := hB.trans (hq.mono hB.size)
          replace hR := hR.trans (hq.mono hR.size)
          clear hq
          go_wp2_with fail
          obtain ⟨u9, hname⟩ := nm hB
          rw [hname] at hs0 hB hR F2 E13 ⊢
          have zh9 := hB.size
          have zs9 := hs0
          clear hname hs0
          refine (lt_part_any (pq : Int) 100 (by omega) (by decide) (by decide) _).mono ?_
          rintro e w10 ⟨g3, a3, c3, x3, e3, t3, y3, rfl, F3, P3, I3, hb⟩
          replace I3 : Is g3 x3 y3 (Q) (1) := I3.to HQ.out
          replace F2 := F2.below hb
          replace E13 := E13.below hb
          replace hB := hB.trans (hb.mono hB.size)
          replace hR := hR.trans (hb.mono hR.size)
          have zz10 := hb.size
          have zh10 := hB.size
          clear hb
          clear I2 F2
          obtain ⟨k0, k1, k2, f0, f1, f2⟩ := E13.three
          have qE13 := E13.lt
          have hs0 := Nat.le_refl w10.heap.size
          have hT := turns3 (w8.heap.size) w10 (.bool g3) (.slice a3 x3.length c3) (.slice e3 y3.length t3)
          replace F3 := F3.beside E13 (noWord3 (fun _ e => by cases e) (fun _ e => by cases e) (fun _ e => by cases e)) hT
          replace E13 := Box.set3 (.bool g3) (.slice a3 x3.length c3) (.slice e3 y3.length t3) E13
          replace hB := hB.trans (hT.below.mono (by omega))
          replace hR := hR.trans (hT.below.mono (by omega))
          replace hs0 := Nat.le_trans hs0 hT.below.size
          clear hT
          go_wp2_with fail
          clear k0 k1 k2 f0 f1 f2
          obtain ⟨u11, hname⟩ := nm hB
          rw [hname] at hs0 hB hR E13 F3 ⊢
          have zh11 := hB.size
          have zs11 := hs0
          clear hname hs0
          have qE13 := E13.lt
          replace E13 := E13.drew
          replace F3 := F3.drew
          refine wp_yieldsZ 10 8 [.is (.int .i64 (n1 : Int)), .is (.int .i64 d), (Yield.frac u11.heap.size (idQ n1 d) (1)), .is (.agg #[.bool g3, .slice a3 x3.length c3, .slice e3 y3.length t3]), (Yield.row 2 4 [idQ n1 d, Q]), (Yield.fracE u11.heap.size (idQ n1 d + Q) (11)), (Yield.fracE u11.heap.size (idQ n1 d + Q) (11)), (Yield.frac u11.heap.size (idQ n1 d + Q) (11)), .is (.int .i64 0), (.new u11.heap.size (.cells #[.bool false, .slice none 0 0, .slice none 0 0] 27))] (.int .i64 0) rfl (by kernel_rfl) (by kernel_rfl) (lt_cons ?_ (lt_cons ?_ (lt_cons ?_ (lt_cons ?_ (lt_cons ?_ (lt_cons ?_ (lt_cons ?_ (lt_cons ?_ (lt_cons ?_ (lt_cons ?_ lt_nil)))))))))) ?_
          case refine_1 =>
            refine OpDoes.mk rfl ?_
            intro vs V hV hd K hK
            simp only [laidIn, lz1, lz2, lz3, lz4, lz5, lz6, if_true, Act.put, lz7, lz8, lz9] at hK ⊢
            go_simp
            exact hK.out _ _ ((Below.refl _ _).a1 _) ⟨_, rfl, Box.new _ _, hV.size⟩ (fresh_apart _ _ (fresh_new _))
          case refine_2 =>
            refine OpDoes.mk rfl ?_
            intro vs V hV hd K hK
            have hh := fun (P : Prop) => Yield.fracE_elim P (show ((Yield.fracE u11.heap.size (idQ n1 d + Q) (11)) : Yield).At (vs 6) V from hd 6 (by decide) (by kernel_rfl))
            refine hh _ ?_
            intro g7 a7 c7 x7 e7 t7 y7 d6 F7 P7 I7
            clear hh
            simp only [laidIn, lz1, lz2, lz3, lz4, lz5, lz6, if_true, Act.put, lz7, lz8, lz9] at hK ⊢
            simp only [d6] at hK ⊢
            go_simp
            exact hK.out _ _ (Below.refl _ _) rfl (not_fresh rfl)
          case refine_3 =>
            refine OpDoes.mk rfl ?_
            intro vs V hV hd K hK
            have hh := fun (P : Prop) => Yield.fracE_elim P (show ((Yield.fracE u11.heap.size (idQ n1 d + Q) (11)) : Yield).At (vs 6) V from hd 6 (by decide) (by kernel_rfl))
            refine hh _ ?_
            intro g7 a7 c7 x7 e7 t7 y7 d6 F7 P7 I7
            clear hh
            simp only [laidIn, lz1, lz2, lz3, lz4, lz5, lz6, if_true, Act.put, lz7, lz8, lz9] at hK ⊢
            simp only [d6] at hK ⊢
            go_simp
            exact hK.out _ _ (Below.refl _ _) ⟨_, _, _, _, _, _, _, rfl, F7, P7, I7⟩ (not_fresh rfl)
          case refine_4 =>
            refine OpDoes.mk rfl ?_
            intro vs V hV hd K hK
            have hh := fun (P : Prop) => Yield.fracE_elim P (show ((Yield.fracE u11.heap.size (idQ n1 d + Q) (11)) : Yield).At (vs 5) V from hd 5 (by decide) (by kernel_rfl))
            refine hh _ ?_
            intro g5 a5 c5 x5 e5 t5 y5 d5 F5 P5 I5
            clear hh
            simp only [laidIn, lz1, lz2, lz3, lz4, lz5, lz6, if_true, Act.put, lz7, lz8, lz9] at hK ⊢
            simp only [d5] at hK ⊢
            go_simp
            exact hK.out _ _ (Below.refl _ _) ⟨_, _, _, _, _, _, _, rfl, F5, P5, I5⟩ (not_fresh rfl)
          case refine_5 =>
            refine OpDoes.mk rfl ?_
            intro vs V hV hd K hK
            have hh := fun (P : Prop) => Yield.row_elim P (show ((Yield.row 2 4 [idQ n1 d, Q]) : Yield).At (vs 4) V from hd 4 (by decide) (by kernel_rfl))
            refine hh _ ?_
            intro k6 r6 d4 J6 R6 L6 G6 Q6
            clear hh
            simp only [laidIn, lz1, lz2, lz3, lz4, lz5, lz6, if_true, Act.put, lz7, lz8, lz9] at hK ⊢
            simp only [d4] at hK ⊢
            go_simp
            go_at_call 31
            refine (padd_row J6 R6 L6 G6 Q6 (by omega) (by omega)).mono ?_
            rintro e V' ⟨g5, a5, c5, x5, e5, t5, y5, rfl, F5, P5, I5, hb⟩
            replace I5 : Is g5 x5 y5 (idQ n1 d + Q) (11) := (I5.mono (by omega)).to (two_add _ _)
            exact hK.out _ _ hb ⟨_, _, _, _, _, _, _, rfl, F5.mono hV.size, P5, I5⟩ (not_fresh rfl)
          case refine_6 =>
            refine OpDoes.mk rfl ?_
            intro vs V hV hd K hK
            have hh := fun (P : Prop) => Yield.frac_elim P (show ((Yield.frac u11.heap.size (idQ n1 d) (1)) : Yield).At (vs 2) V from hd 2 (by decide) (by kernel_rfl))
            refine hh _ ?_
            intro g4 a4 c4 x4 e4 t4 y4 d2 F4 P4 I4
            clear hh
            have d3 : vs 3 = .agg #[.bool g3, .slice a3 x3.length c3, .slice e3 y3.length t3] := hd 3 (by decide) (by kernel_rfl)
            simp only [laidIn, lz1, lz2, lz3, lz4, lz5, lz6, if_true, Act.put, lz7, lz8, lz9] at hK ⊢
            simp only [d2, d3] at hK ⊢
            go_simp
            exact hK.out _ _ ((Below.refl _ _).a1 _) (Yield.row_two ⟨g4, a4, c4, x4, e4, t4, y4⟩ ⟨g3, a3, c3, x3, e3, t3, y3⟩ (F4.mono (Nat.zero_le _)) I4 ((F3.below hV).mono (Nat.zero_le _)) I3 (by omega) (by omega)) (not_fresh rfl)
          case refine_7 =>
            refine OpDoes.mk rfl ?_
            intro vs V hV hd K hK
            have hcc := (E13.below hV).three
            have k0 := hcc.1
            have k1 := hcc.2.1
            have k2 := hcc.2.2.1
            clear hcc
            simp only [laidIn, lz1, lz2, lz3, lz4, lz5, lz6, if_true, Act.put, lz7, lz8, lz9] at hK ⊢
            go_simp
            exact hK.out _ _ (Below.refl _ _) rfl (not_fresh rfl)
          case refine_8 =>
            refine OpDoes.mk rfl ?_
            intro vs V hV hd K hK
            have d0 : vs 0 = .int .i64 (n1 : Int) := hd 0 (by decide) (by kernel_rfl)
            have d1 : vs 1 = .int .i64 d := hd 1 (by decide) (by kernel_rfl)
            simp only [laidIn, lz1, lz2, lz3, lz4, lz5, lz6, if_true, Act.put, lz7, lz8, lz9] at hK ⊢
            simp only [d0, d1] at hK ⊢
            go_simp
            go_at_call 30
            refine (lt_ideal_any d n1 (by omega) (by omega) _).mono ?_
            rintro e V' ⟨g4, a4, c4, x4, e4, t4, y4, rfl, F4, P4, I4, hb⟩
            replace I4 : Is g4 x4 y4 (idQ n1 d) (1) := I4.mono (by omega)
            exact hK.out _ _ hb ⟨_, _, _, _, _, _, _, rfl, F4.mono hV.size, P4, I4⟩ (not_fresh rfl)
          case refine_9 =>
            refine OpDoes.mk rfl ?_
            intro vs V hV hd K hK
            simp only [laidIn, lz1, lz2, lz3, lz4, lz5, lz6, if_true, Act.put, lz7, lz8, lz9] at hK ⊢
            go_simp
            exact hK.out _ _ (Below.refl _ _) rfl (not_fresh rfl)
          case refine_10 =>
            refine OpDoes.mk rfl ?_
            intro vs V hV hd K hK
            simp only [laidIn, lz1, lz2, lz4, lz5, lz6, if_true, Act.put, lz7, lz8, lz9] at hK ⊢
            go_simp
            exact hK.out _ _ (Below.refl _ _) rfl (not_fresh rfl)
          case refine_11 =>
            intro vs Y1 hV hR hne fuel
            have d0 : vs 0 = .int .i64 (n1 : Int) := hR 0 (by decide)
            have d1 : vs 1 = .int .i64 d := hR 1 (by decide)
            have hh := fun (P : Prop) => Yield.frac_elim P (show ((Yield.frac u11.heap.size (idQ n1 d) (1)) : Yield).At (vs 2) Y1 from hR 2 (by decide))
            refine hh _ ?_
            intro g4 a4 c4 x4 e4 t4 y4 d2 F4 P4 I4
            clear hh
            have d3 : vs 3 = .agg #[.bool g3, .slice a3 x3.length c3, .slice e3 y3.length t3] := hR 3 (by decide)
            have hh := fun (P : Prop) => Yield.row_elim P (show ((Yield.row 2 4 [idQ n1 d, Q]) : Yield).At (vs 4) Y1 from hR 4 (by decide))
            refine hh _ ?_
            intro k6 r6 d4 J6 R6 L6 G6 Q6
            clear hh
            have hh := fun (P : Prop) => Yield.fracE_elim P (show ((Yield.fracE u11.heap.size (idQ n1 d + Q) (11)) : Yield).At (vs 5) Y1 from hR 5 (by decide))
            refine hh _ ?_
            intro g5 a5 c5 x5 e5 t5 y5 d5 F5 P5 I5
            clear hh
            have hh := fun (P : Prop) => Yield.fracE_elim P (show ((Yield.fracE u11.heap.size (idQ n1 d + Q) (11)) : Yield).At (vs 6) Y1 from hR 6 (by decide))
            refine hh _ ?_
            intro g7 a7 c7 x7 e7 t7 y7 d6 F7 P7 I7
            clear hh
            have hh := fun (P : Prop) => Yield.frac_elim P (show ((Yield.frac u11.heap.size (idQ n1 d + Q) (11)) : Yield).At (vs 7) Y1 from hR 7 (by decide))
            refine hh _ ?_
            intro g8 a8 c8 x8 e8 t8 y8 d7 F8 P8 I8
            clear hh
            have d8 : vs 8 = .int .i64 0 := hR 8 (by decide)
            obtain ⟨k_E91, d9, E91, l_E91⟩ := (show ((.new u11.heap.size (.cells #[.bool false, .slice none 0 0, .slice none 0 0] 27)) : Yield).At (vs 9) Y1 from hR 9 (by decide))
            replace E13 := E13.below hV
            replace F3 := F3.below hV
            have hr := hV
            clear hR hne hV
            have hcc := E91.three
            have k0 := hcc.1
            have k1 := hcc.2.1
            have k2 := hcc.2.2.1
            have f0 := hcc.2.2.2.1
            have f1 := hcc.2.2.2.2.1
            have f2 := hcc.2.2.2.2.2
            clear hcc
            apply mp_of
            case f =>
              intro hgoal
              constructor
              · skip
                simp only [laidIn, lz4, lz5, lz6, if_true, Act.put, lz7, lz8, lz9]
                simp only [d0, d1, d2, d3, d4, d5, d6, d7, d8, d9]
                show wpAny _ _ _ _ (fuel + 2) _ _ _
                refine wpAny_all (rs := [10]) (by kernel_rfl) (by simp) (fun i hi => ?_)
                obtain rfl : i = 10 := by simpa using hi
                clear hi
                refine wpOp_step rfl (fun K hK => ?_)
                simp only [lz1, lz2, lz3]
                rw [if_pos (by rfl)]
                go_simp
                refine hK _ _ ?_
                clear hK
                refine wpAny_all (rs := [11]) (by kernel_rfl) (by simp) (fun i hi => ?_)
                obtain rfl : i = 11 := by simpa using hi
                clear hi
                refine wpOp_step rfl (fun K hK => ?_)
                simp only [lz1, lz2, lz3]
                rw [if_pos (by rfl)]
                go_simp
                refine hK _ _ ?_
                clear hK
                refine wpAny_done (by kernel_rfl) ?_ _
                exact hgoal
              · skip
                simp only [laidIn, lz4, lz5, lz6, if_true, Act.put, lz7, lz8, lz9, Bool.false_eq_true, if_false, show ((0 : Nat) != 8) = true from rfl, show ((1 : Nat) != 8) = true from rfl, show ((2 : Nat) != 8) = true from rfl, show ((3 : Nat) != 8) = true from rfl, show ((4 : Nat) != 8) = true from rfl, show ((5 : Nat) != 8) = true from rfl, show ((6 : Nat) != 8) = true from rfl, show ((7 : Nat) != 8) = true from rfl, show ((8 : Nat) != 8) = false from rfl, show ((9 : Nat) != 8) = true from rfl]
                simp only [d0, d1, d2, d3, d4, d5, d6, d7, d9]
                show wpAny _ _ _ _ (fuel + 3) _ _ _
                refine wpAny_all (rs := [8, 10]) (by kernel_rfl) (by simp) (fun i hi => ?_)
                rcases (show i = 8 ∨ i = 10 by simpa using hi) with rfl | rfl
                · clear hi
                  refine wpOp_step rfl (fun K hK => ?_)
                  simp only [lz1, lz2, lz3]
                  rw [if_pos (by rfl)]
                  go_simp
                  refine hK _ _ ?_
                  clear hK
                  refine wpAny_all (rs := [10]) (by kernel_rfl) (by simp) (fun i hi => ?_)
                  obtain rfl : i = 10 := by simpa using hi
                  clear hi
                  refine wpOp_step rfl (fun K hK => ?_)
                  simp only [lz1, lz2, lz3]
                  rw [if_pos (by rfl)]
                  go_simp
                  refine hK _ _ ?_
                  clear hK
                  refine wpAny_all (rs := [11]) (by kernel_rfl) (by simp) (fun i hi => ?_)
                  obtain rfl : i = 11 := by simpa using hi
                  clear hi
                  refine wpOp_step rfl (fun K hK => ?_)
                  simp only [lz1, lz2, lz3]
                  rw [if_pos (by rfl)]
                  go_simp
                  refine hK _ _ ?_
                  clear hK
                  refine wpAny_done (by kernel_rfl) ?_ _
                  exact hgoal
                · clear hi
                  refine wpOp_step rfl (fun K hK => ?_)
                  simp only [lz1, lz2, lz3]
                  rw [if_pos (by rfl)]
                  go_simp
                  refine hK _ _ ?_
                  clear hK
                  refine wpAny_all (rs := [8]) (by kernel_rfl) (by simp) (fun i hi => ?_)
                  obtain rfl : i = 8 := by simpa using hi
                  clear hi
                  refine wpOp_step rfl (fun K hK => ?_)
                  simp only [lz1, lz2, lz3]
                  rw [if_pos (by rfl)]
                  go_simp
                  refine hK _ _ ?_
                  clear hK
                  refine wpAny_all (rs := [11]) (by kernel_rfl) (by simp) (fun i hi => ?_)
                  obtain rfl : i = 11 := by simpa using hi
                  clear hi
                  refine wpOp_step rfl (fun K hK => ?_)
                  simp only [lz1, lz2, lz3]
                  rw [if_pos (by rfl)]
                  go_simp
                  refine hK _ _ ?_
                  clear hK
                  refine wpAny_done (by kernel_rfl) ?_ _
                  exact hgoal
            case p =>
              clear k0 f0 k1 f1 k2 f2
              have hT := turns3 (k_E91) Y1 (.bool g8) (.slice a8 x8.length c8) (.slice e8 y8.length t8)
              replace E13 := E13.turns hT (by omega)
              replace F3 := F3.beside E91 (noWord3 (fun _ e => by cases e) (fun _ e => by cases e) (fun _ e => by cases e)) hT
              replace F4 := F4.beside E91 (noWord3 (fun _ e => by cases e) (fun _ e => by cases e) (fun _ e => by cases e)) hT
              replace F5 := F5.beside E91 (noWord3 (fun _ e => by cases e) (fun _ e => by cases e) (fun _ e => by cases e)) hT
              replace F7 := F7.beside E91 (noWord3 (fun _ e => by cases e) (fun _ e => by cases e) (fun _ e => by cases e)) hT
              replace F8 := F8.beside E91 (noWord3 (fun _ e => by cases e) (fun _ e => by cases e) (fun _ e => by cases e)) hT
              replace E91 := Box.set3 (.bool g8) (.slice a8 x8.length c8) (.slice e8 y8.length t8) E91
              have hr10 := hT.below
              obtain ⟨X1, hX⟩ := nm hT.below
              rw [hX] at E13 F3 F4 F5 F7 F8 E91 hr10 ⊢
              clear hX hT
              replace hB := hB.trans ((Below.trans (Below.drew (Below.refl u11.heap.size u11)) hr).mono hB.size)
              replace hB := hB.trans (hr10.mono (by omega))
              replace hR := hR.trans ((Below.trans (Below.drew (Below.refl u11.heap.size u11)) hr).mono hR.size)
              replace hR := hR.trans (hr10.mono (by omega))
              have zz11_1 := hr.size
              have zi1 := hB.size
              have zy1_10 := hr10.size
              clear hr hr10
              clear d0 d1 d2 d3 d4 d5 d6 d7 d8 d9
              clear vs
              clear E13 F3 F4 F5 F7
              have hcc := fun V hV => HC.out V (hR.trans (show Below wr.heap.size X1 V from hV))
              obtain ⟨k0, k1, k2, f0, f1, f2⟩ := E91.three
              go_wp2_with fail
              clear k0 k1 k2 f0 f1 f2
              have qE91 := E91.lt
              replace E91 := E91.drew
              replace F8 := F8.drew
              have hr := Below.refl X1.drew.heap.size X1.drew
              have hkeep : ∀ V : World, Below X1.drew.heap.size X1.drew V → V.cell? ⟨bb, o + i, none⟩ = some (.int .i64 z) ∧ V.cell? ⟨k_E91, 0, none⟩ = some (.bool g8) ∧ V.cell? ⟨k_E91, 1, none⟩ = some (.slice a8 x8.length c8) ∧ V.cell? ⟨k_E91, 2, none⟩ = some (.slice e8 y8.length t8) := fun V hV => ⟨hcc V (Below.trans (Below.drew (Below.refl X1.heap.size X1)) hV |>.mono hR.size), (E91.below hV).three.1, (E91.below hV).three.2.1, (E91.below hV).three.2.2.1⟩
              refine wp_region_held_drew (S := fun V : World => V.cell? ⟨bb, o + i, none⟩ = some (.int .i64 z) ∧ V.cell? ⟨k_E91, 0, none⟩ = some (.bool g8) ∧ V.cell? ⟨k_E91, 1, none⟩ = some (.slice a8 x8.length c8) ∧ V.cell? ⟨k_E91, 2, none⟩ = some (.slice e8 y8.length t8)) (by kernel_rfl) (hkeep _ hr) (fun hHeld => ?_)
              refine wpAnyH_take (i := 0) (v := ?_) rfl (by kernel_rfl) (by kernel_rfl) (by kernel_rfl) (fun _ _ _ h => h) (Or.inl ⟨by rfl, ?_⟩) (by assumption) ?_
              rotate_left
              · intro w hSw
                try dsimp only at hSw
                go_simp
                try with_reducible rfl
              simp only [Act.put, lz7, lz8, lz9, lz1, lz2]
              refine wpAnyH_take (i := 1) (v := ?_) rfl (by kernel_rfl) (by kernel_rfl) (by kernel_rfl) (fun _ _ _ h => h) (Or.inl ⟨by rfl, ?_⟩) (by assumption) ?_
              rotate_left
              · intro w hSw
                try dsimp only at hSw
                go_simp
                try with_reducible rfl
              simp only [Act.put, lz7, lz8, lz9, lz1, lz2, lz3]
              refine wpAnyH_take (i := 2) (v := ?_) rfl (by kernel_rfl) (by kernel_rfl) (by kernel_rfl) (fun _ _ _ h => h) (Or.inl ⟨by rfl, ?_⟩) (by assumption) ?_
              rotate_left
              · intro w hSw
                try dsimp only at hSw
                go_simp
                try with_reducible rfl
              simp only [Act.put, lz7, lz8, lz9, lz1, lz2, lz3]
              refine wpAnyH_take (i := 3) (v := ?_) rfl (by kernel_rfl) (by kernel_rfl) (by kernel_rfl) (fun _ _ _ h => h) (Or.inl ⟨by rfl, ?_⟩) (by assumption) ?_
              rotate_left
              · intro w hSw
                try dsimp only at hSw
                go_simp
                try with_reducible rfl
              simp only [Act.put, lz7, lz8, lz9, lz1, lz2, lz3]
              refine wpAnyH_take (i := 4) (v := ?_) rfl (by kernel_rfl) (by kernel_rfl) (by kernel_rfl) (fun _ _ _ h => h) (Or.inl ⟨by rfl, ?_⟩) (by assumption) ?_
              rotate_left
              · intro w hSw
                try dsimp only at hSw
                go_simp
                try with_reducible rfl
              simp only [Act.put, lz7, lz8, lz9, lz1, lz2, lz3]
              refine wpAnyH_take (i := 5) (v := ?_) rfl (by kernel_rfl) (by kernel_rfl) (by kernel_rfl) (fun _ _ _ h => h) (Or.inl ⟨by rfl, ?_⟩) (by assumption) ?_
              rotate_left
              · intro w hSw
                try dsimp only at hSw
                go_simp
                try with_reducible rfl
              simp only [Act.put, lz7, lz8, lz9, lz1, lz2, lz3]
              refine wpAnyH_take (i := 6) (v := ?_) rfl (by kernel_rfl) (by kernel_rfl) (by kernel_rfl) (fun _ _ _ h => h) (Or.inl ⟨by rfl, ?_⟩) (by assumption) ?_
              rotate_left
              · intro w hSw
                try dsimp only at hSw
                go_simp
                try with_reducible rfl
              simp only [Act.put, lz7, lz8, lz9, lz1, lz2, lz3]
              refine wpAnyH_take (i := 7) (v := ?_) rfl (by kernel_rfl) (by kernel_rfl) (by kernel_rfl) (fun _ _ _ h => h) (Or.inl ⟨by rfl, ?_⟩) (by assumption) ?_
              rotate_left
              · intro w hSw
                try dsimp only at hSw
                go_simp
                try with_reducible rfl
              simp only [Act.put, lz7, lz8, lz9, lz1, lz2, lz3]
              refine wpAnyH_take (i := 8) (v := ?_) rfl (by kernel_rfl) (by kernel_rfl) (by kernel_rfl) (fun _ _ _ h => h) (Or.inl ⟨by rfl, ?_⟩) (by assumption) ?_
              rotate_left
              · intro w hSw
                try dsimp only at hSw
                go_simp
                try with_reducible rfl
              simp only [Act.put, lz7, lz8, lz9, lz1, lz2, lz3]
              refine wpAnyH_take (i := 9) (v := ?_) rfl (by kernel_rfl) (by kernel_rfl) (by kernel_rfl) (fun _ _ _ h => h) (Or.inl ⟨by rfl, ?_⟩) (by assumption) ?_
              rotate_left
              · intro w hSw
                try dsimp only at hSw
                go_simp
                try with_reducible rfl
              simp only [Act.put, lz7, lz8, lz9, lz1, lz2, lz3]
              refine wpAnyH_ready (rs := [10]) (by kernel_rfl) (by simp) ?_
              refine AllReadyH.cons rfl (fun K hK => ?_) AllReadyH.nil
              go_simp
              go_at_call 29
              refine (lt_near_any z s (by omega) (by omega) g8 (F8.mono (Nat.zero_le _)) (I8.mono (by decide)) HX.out).mono ?_
              rintro e w12 ⟨rfl, hb⟩
              replace E91 := E91.below hb
              replace F8 := F8.below hb
              replace hr := hr.trans (hb.mono hr.size)
              have zw12 := hb.size
              clear hb
              dsimp only
              clear hHeld
              refine hK.out _ _ (hkeep _ hr) (fun hHeld => ?_)
              clear hK K
              try simp only [Act.put, List.setIfInBounds_toArray, List.set_cons_zero, List.set_cons_succ, List.getElem_toArray, List.getElem_cons_zero, List.getElem_cons_succ]
              refine wpAnyH_take (i := 11) (v := ?_) rfl (by kernel_rfl) (by kernel_rfl) (by kernel_rfl) (fun _ _ _ h => h) (Or.inl ⟨by rfl, ?_⟩) (by assumption) ?_
              rotate_left
              · intro w hSw
                try dsimp only at hSw
                go_simp
                try with_reducible rfl
              simp only [Act.put, lz7, lz8, lz9, lz1, lz2, lz3]
              refine wpAnyH_take (i := 12) (v := ?_) rfl (by kernel_rfl) (by kernel_rfl) (by kernel_rfl) (fun _ _ _ h => h) (Or.inl ⟨by rfl, ?_⟩) (by assumption) ?_
              rotate_left
              · intro w hSw
                try dsimp only at hSw
                go_simp
                try with_reducible rfl
              simp only [Act.put, lz7, lz8, lz9, lz1, lz2, lz3]
              refine wpAnyH_done (by kernel_rfl) ?_ _
              clear hHeld
              replace hB := hB.trans ((Below.trans (Below.drew (Below.refl X1.heap.size X1)) hr).mono hB.size)
              replace hR := hR.trans ((Below.trans (Below.drew (Below.refl X1.heap.size X1)) hr).mono hR.size)
              have zi_12 := hB.size
              clear hr hkeep
              clear hcc
              have HBB := hide (HB.out.trans (hR.mono HB.out.size))
              subst hdd
              clear hB hR E91 F8
              go_wp2
              exact ⟨⟨i + 1, by omega, by go_num, HBB.out⟩, by simp [intOf]; omega⟩
        · skip
          have HX : Hid (z = wtQ s (idQ n1 d + Rat.divInt 0 1)) := by rw [Hid, HZQ.out]; unfold robF shQ; rw [if_neg (by omega), if_neg (by omega)]
          have hlt : decide (d < m) = false := decide_eq_false (by omega)
          have heq : (d == m) = false := beq_eq_false_iff_ne.2 (by omega)
          clear HZQ
          go_wp2_with fail
          refine (lt_part_any 0 1 (by decide) (by decide) (by decide) _).mono ?_
          rintro e w8 ⟨g2, a2, c2, x2, e2, t2, y2, rfl, F2, P2, I2, hb⟩
          replace I2 : Is g2 x2 y2 (Rat.divInt 0 1) (1) := I2.mono (by omega)
          replace hB := hB.trans (hb.mono hB.size)
          replace hR := hR.trans (hb.mono hR.size)
          have zz8 := hb.size
          have zh8 := hB.size
          clear hb
          have hs0 := Nat.le_refl w8.heap.size
          have hq := below_new w8 (.cells #[.bool g2, .slice a2 x2.length c2, .slice e2 y2.length t2] 27)
          replace F2 := F2.below hq
          have E13 := Box.put (w := w8) (k := (w8.heap.size)) (.cells #[.bool g2, .slice a2 x2.length c2, .slice e2 y2.length t2] 27) rfl
          replace hs0 := Nat.le_trans hs0 hq.size
          replace hB := hB.trans (hq.mono hB.size)
          replace hR := hR.trans (hq.mono hR.size)
          clear hq
          go_wp2_with fail
          obtain ⟨u9, hname⟩ := nm hB
          rw [hname] at hs0 hB hR F2 E13 ⊢
          have zh9 := hB.size
          have zs9 := hs0
          clear hname hs0
          replace F2 := F2.drew
          have qE13 := E13.lt
          replace E13 := E13.drew
          refine wp_yieldsZ 10 8 [.is (.int .i64 (n1 : Int)), .is (.int .i64 d), (Yield.frac u9.heap.size (idQ n1 d) (1)), .is (.agg #[.bool g2, .slice a2 x2.length c2, .slice e2 y2.length t2]), (Yield.row 2 4 [idQ n1 d, Rat.divInt 0 1]), (Yield.fracE u9.heap.size (idQ n1 d + Rat.divInt 0 1) (11)), (Yield.fracE u9.heap.size (idQ n1 d + Rat.divInt 0 1) (11)), (Yield.frac u9.heap.size (idQ n1 d + Rat.divInt 0 1) (11)), .is (.int .i64 0), (.new u9.heap.size (.cells #[.bool false, .slice none 0 0, .slice none 0 0] 27))] (.int .i64 0) rfl (by kernel_rfl) (by kernel_rfl) (lt_cons ?_ (lt_cons ?_ (lt_cons ?_ (lt_cons ?_ (lt_cons ?_ (lt_cons ?_ (lt_cons ?_ (lt_cons ?_ (lt_cons ?_ (lt_cons ?_ lt_nil)))))))))) ?_
          case refine_1 =>
            refine OpDoes.mk rfl ?_
            intro vs V hV hd K hK
            simp only [laidIn, lz1, lz2, lz3, lz4, lz5, lz6, if_true, Act.put, lz7, lz8, lz9] at hK ⊢
            go_simp
            exact hK.out _ _ ((Below.refl _ _).a1 _) ⟨_, rfl, Box.new _ _, hV.size⟩ (fresh_apart _ _ (fresh_new _))
          case refine_2 =>
            refine OpDoes.mk rfl ?_
            intro vs V hV hd K hK
            have hh := fun (P : Prop) => Yield.fracE_elim P (show ((Yield.fracE u9.heap.size (idQ n1 d + Rat.divInt 0 1) (11)) : Yield).At (vs 6) V from hd 6 (by decide) (by kernel_rfl))
            refine hh _ ?_
            intro g6 a6 c6 x6 e6 t6 y6 d6 F6 P6 I6
            clear hh
            simp only [laidIn, lz1, lz2, lz3, lz4, lz5, lz6, if_true, Act.put, lz7, lz8, lz9] at hK ⊢
            simp only [d6] at hK ⊢
            go_simp
            exact hK.out _ _ (Below.refl _ _) rfl (not_fresh rfl)
          case refine_3 =>
            refine OpDoes.mk rfl ?_
            intro vs V hV hd K hK
            have hh := fun (P : Prop) => Yield.fracE_elim P (show ((Yield.fracE u9.heap.size (idQ n1 d + Rat.divInt 0 1) (11)) : Yield).At (vs 6) V from hd 6 (by decide) (by kernel_rfl))
            refine hh _ ?_
            intro g6 a6 c6 x6 e6 t6 y6 d6 F6 P6 I6
            clear hh
            simp only [laidIn, lz1, lz2, lz3, lz4, lz5, lz6, if_true, Act.put, lz7, lz8, lz9] at hK ⊢
            simp only [d6] at hK ⊢
            go_simp
            exact hK.out _ _ (Below.refl _ _) ⟨_, _, _, _, _, _, _, rfl, F6, P6, I6⟩ (not_fresh rfl)
          case refine_4 =>
            refine OpDoes.mk rfl ?_
            intro vs V hV hd K hK
            have hh := fun (P : Prop) => Yield.fracE_elim P (show ((Yield.fracE u9.heap.size (idQ n1 d + Rat.divInt 0 1) (11)) : Yield).At (vs 5) V from hd 5 (by decide) (by kernel_rfl))
            refine hh _ ?_
            intro g4 a4 c4 x4 e4 t4 y4 d5 F4 P4 I4
            clear hh
            simp only [laidIn, lz1, lz2, lz3, lz4, lz5, lz6, if_true, Act.put, lz7, lz8, lz9] at hK ⊢
            simp only [d5] at hK ⊢
            go_simp
            exact hK.out _ _ (Below.refl _ _) ⟨_, _, _, _, _, _, _, rfl, F4, P4, I4⟩ (not_fresh rfl)
          case refine_5 =>
            refine OpDoes.mk rfl ?_
            intro vs V hV hd K hK
            have hh := fun (P : Prop) => Yield.row_elim P (show ((Yield.row 2 4 [idQ n1 d, Rat.divInt 0 1]) : Yield).At (vs 4) V from hd 4 (by decide) (by kernel_rfl))
            refine hh _ ?_
            intro k5 r5 d4 J5 R5 L5 G5 Q5
            clear hh
            simp only [laidIn, lz1, lz2, lz3, lz4, lz5, lz6, if_true, Act.put, lz7, lz8, lz9] at hK ⊢
            simp only [d4] at hK ⊢
            go_simp
            go_at_call 31
            refine (padd_row J5 R5 L5 G5 Q5 (by omega) (by omega)).mono ?_
            rintro e V' ⟨g4, a4, c4, x4, e4, t4, y4, rfl, F4, P4, I4, hb⟩
            replace I4 : Is g4 x4 y4 (idQ n1 d + Rat.divInt 0 1) (11) := (I4.mono (by omega)).to (two_add _ _)
            exact hK.out _ _ hb ⟨_, _, _, _, _, _, _, rfl, F4.mono hV.size, P4, I4⟩ (not_fresh rfl)
          case refine_6 =>
            refine OpDoes.mk rfl ?_
            intro vs V hV hd K hK
            have hh := fun (P : Prop) => Yield.frac_elim P (show ((Yield.frac u9.heap.size (idQ n1 d) (1)) : Yield).At (vs 2) V from hd 2 (by decide) (by kernel_rfl))
            refine hh _ ?_
            intro g3 a3 c3 x3 e3 t3 y3 d2 F3 P3 I3
            clear hh
            have d3 : vs 3 = .agg #[.bool g2, .slice a2 x2.length c2, .slice e2 y2.length t2] := hd 3 (by decide) (by kernel_rfl)
            simp only [laidIn, lz1, lz2, lz3, lz4, lz5, lz6, if_true, Act.put, lz7, lz8, lz9] at hK ⊢
            simp only [d2, d3] at hK ⊢
            go_simp
            exact hK.out _ _ ((Below.refl _ _).a1 _) (Yield.row_two ⟨g3, a3, c3, x3, e3, t3, y3⟩ ⟨g2, a2, c2, x2, e2, t2, y2⟩ (F3.mono (Nat.zero_le _)) I3 ((F2.below hV).mono (Nat.zero_le _)) I2 (by omega) (by omega)) (not_fresh rfl)
          case refine_7 =>
            refine OpDoes.mk rfl ?_
            intro vs V hV hd K hK
            have hcc := (E13.below hV).three
            have k0 := hcc.1
            have k1 := hcc.2.1
            have k2 := hcc.2.2.1
            clear hcc
            simp only [laidIn, lz1, lz2, lz3, lz4, lz5, lz6, if_true, Act.put, lz7, lz8, lz9] at hK ⊢
            go_simp
            exact hK.out _ _ (Below.refl _ _) rfl (not_fresh rfl)
          case refine_8 =>
            refine OpDoes.mk rfl ?_
            intro vs V hV hd K hK
            have d0 : vs 0 = .int .i64 (n1 : Int) := hd 0 (by decide) (by kernel_rfl)
            have d1 : vs 1 = .int .i64 d := hd 1 (by decide) (by kernel_rfl)
            simp only [laidIn, lz1, lz2, lz3, lz4, lz5, lz6, if_true, Act.put, lz7, lz8, lz9] at hK ⊢
            simp only [d0, d1] at hK ⊢
            go_simp
            go_at_call 30
            refine (lt_ideal_any d n1 (by omega) (by omega) _).mono ?_
            rintro e V' ⟨g3, a3, c3, x3, e3, t3, y3, rfl, F3, P3, I3, hb⟩
            replace I3 : Is g3 x3 y3 (idQ n1 d) (1) := I3.mono (by omega)
            exact hK.out _ _ hb ⟨_, _, _, _, _, _, _, rfl, F3.mono hV.size, P3, I3⟩ (not_fresh rfl)
          case refine_9 =>
            refine OpDoes.mk rfl ?_
            intro vs V hV hd K hK
            simp only [laidIn, lz1, lz2, lz3, lz4, lz5, lz6, if_true, Act.put, lz7, lz8, lz9] at hK ⊢
            go_simp
            exact hK.out _ _ (Below.refl _ _) rfl (not_fresh rfl)
          case refine_10 =>
            refine OpDoes.mk rfl ?_
            intro vs V hV hd K hK
            simp only [laidIn, lz1, lz2, lz4, lz5, lz6, if_true, Act.put, lz7, lz8, lz9] at hK ⊢
            go_simp
            exact hK.out _ _ (Below.refl _ _) rfl (not_fresh rfl)
          case refine_11 =>
            intro vs Y1 hV hR hne fuel
            have d0 : vs 0 = .int .i64 (n1 : Int) := hR 0 (by decide)
            have d1 : vs 1 = .int .i64 d := hR 1 (by decide)
            have hh := fun (P : Prop) => Yield.frac_elim P (show ((Yield.frac u9.heap.size (idQ n1 d) (1)) : Yield).At (vs 2) Y1 from hR 2 (by decide))
            refine hh _ ?_
            intro g3 a3 c3 x3 e3 t3 y3 d2 F3 P3 I3
            clear hh
            have d3 : vs 3 = .agg #[.bool g2, .slice a2 x2.length c2, .slice e2 y2.length t2] := hR 3 (by decide)
            have hh := fun (P : Prop) => Yield.row_elim P (show ((Yield.row 2 4 [idQ n1 d, Rat.divInt 0 1]) : Yield).At (vs 4) Y1 from hR 4 (by decide))
            refine hh _ ?_
            intro k5 r5 d4 J5 R5 L5 G5 Q5
            clear hh
            have hh := fun (P : Prop) => Yield.fracE_elim P (show ((Yield.fracE u9.heap.size (idQ n1 d + Rat.divInt 0 1) (11)) : Yield).At (vs 5) Y1 from hR 5 (by decide))
            refine hh _ ?_
            intro g4 a4 c4 x4 e4 t4 y4 d5 F4 P4 I4
            clear hh
            have hh := fun (P : Prop) => Yield.fracE_elim P (show ((Yield.fracE u9.heap.size (idQ n1 d + Rat.divInt 0 1) (11)) : Yield).At (vs 6) Y1 from hR 6 (by decide))
            refine hh _ ?_
            intro g6 a6 c6 x6 e6 t6 y6 d6 F6 P6 I6
            clear hh
            have hh := fun (P : Prop) => Yield.frac_elim P (show ((Yield.frac u9.heap.size (idQ n1 d + Rat.divInt 0 1) (11)) : Yield).At (vs 7) Y1 from hR 7 (by decide))
            refine hh _ ?_
            intro g7 a7 c7 x7 e7 t7 y7 d7 F7 P7 I7
            clear hh
            have d8 : vs 8 = .int .i64 0 := hR 8 (by decide)
            obtain ⟨k_E91, d9, E91, l_E91⟩ := (show ((.new u9.heap.size (.cells #[.bool false, .slice none 0 0, .slice none 0 0] 27)) : Yield).At (vs 9) Y1 from hR 9 (by decide))
            replace F2 := F2.below hV
            replace E13 := E13.below hV
            have hr := hV
            clear hR hne hV
            have hcc := E91.three
            have k0 := hcc.1
            have k1 := hcc.2.1
            have k2 := hcc.2.2.1
            have f0 := hcc.2.2.2.1
            have f1 := hcc.2.2.2.2.1
            have f2 := hcc.2.2.2.2.2
            clear hcc
            apply mp_of
            case f =>
              intro hgoal
              constructor
              · skip
                simp only [laidIn, lz4, lz5, lz6, if_true, Act.put, lz7, lz8, lz9]
                simp only [d0, d1, d2, d3, d4, d5, d6, d7, d8, d9]
                show wpAny _ _ _ _ (fuel + 2) _ _ _
                refine wpAny_all (rs := [10]) (by kernel_rfl) (by simp) (fun i hi => ?_)
                obtain rfl : i = 10 := by simpa using hi
                clear hi
                refine wpOp_step rfl (fun K hK => ?_)
                simp only [lz1, lz2, lz3]
                rw [if_pos (by rfl)]
                go_simp
                refine hK _ _ ?_
                clear hK
                refine wpAny_all (rs := [11]) (by kernel_rfl) (by simp) (fun i hi => ?_)
                obtain rfl : i = 11 := by simpa using hi
                clear hi
                refine wpOp_step rfl (fun K hK => ?_)
                simp only [lz1, lz2, lz3]
                rw [if_pos (by rfl)]
                go_simp
                refine hK _ _ ?_
                clear hK
                refine wpAny_done (by kernel_rfl) ?_ _
                exact hgoal
              · skip
                simp only [laidIn, lz4, lz5, lz6, if_true, Act.put, lz7, lz8, lz9, Bool.false_eq_true, if_false, show ((0 : Nat) != 8) = true from rfl, show ((1 : Nat) != 8) = true from rfl, show ((2 : Nat) != 8) = true from rfl, show ((3 : Nat) != 8) = true from rfl, show ((4 : Nat) != 8) = true from rfl, show ((5 : Nat) != 8) = true from rfl, show ((6 : Nat) != 8) = true from rfl, show ((7 : Nat) != 8) = true from rfl, show ((8 : Nat) != 8) = false from rfl, show ((9 : Nat) != 8) = true from rfl]
                simp only [d0, d1, d2, d3, d4, d5, d6, d7, d9]
                show wpAny _ _ _ _ (fuel + 3) _ _ _
                refine wpAny_all (rs := [8, 10]) (by kernel_rfl) (by simp) (fun i hi => ?_)
                rcases (show i = 8 ∨ i = 10 by simpa using hi) with rfl | rfl
                · clear hi
                  refine wpOp_step rfl (fun K hK => ?_)
                  simp only [lz1, lz2, lz3]
                  rw [if_pos (by rfl)]
                  go_simp
                  refine hK _ _ ?_
                  clear hK
                  refine wpAny_all (rs := [10]) (by kernel_rfl) (by simp) (fun i hi => ?_)
                  obtain rfl : i = 10 := by simpa using hi
                  clear hi
                  refine wpOp_step rfl (fun K hK => ?_)
                  simp only [lz1, lz2, lz3]
                  rw [if_pos (by rfl)]
                  go_simp
                  refine hK _ _ ?_
                  clear hK
                  refine wpAny_all (rs := [11]) (by kernel_rfl) (by simp) (fun i hi => ?_)
                  obtain rfl : i = 11 := by simpa using hi
                  clear hi
                  refine wpOp_step rfl (fun K hK => ?_)
                  simp only [lz1, lz2, lz3]
                  rw [if_pos (by rfl)]
                  go_simp
                  refine hK _ _ ?_
                  clear hK
                  refine wpAny_done (by kernel_rfl) ?_ _
                  exact hgoal
                · clear hi
                  refine wpOp_step rfl (fun K hK => ?_)
                  simp only [lz1, lz2, lz3]
                  rw [if_pos (by rfl)]
                  go_simp
                  refine hK _ _ ?_
                  clear hK
                  refine wpAny_all (rs := [8]) (by kernel_rfl) (by simp) (fun i hi => ?_)
                  obtain rfl : i = 8 := by simpa using hi
                  clear hi
                  refine wpOp_step rfl (fun K hK => ?_)
                  simp only [lz1, lz2, lz3]
                  rw [if_pos (by rfl)]
                  go_simp
                  refine hK _ _ ?_
                  clear hK
                  refine wpAny_all (rs := [11]) (by kernel_rfl) (by simp) (fun i hi => ?_)
                  obtain rfl : i = 11 := by simpa using hi
                  clear hi
                  refine wpOp_step rfl (fun K hK => ?_)
                  simp only [lz1, lz2, lz3]
                  rw [if_pos (by rfl)]
                  go_simp
                  refine hK _ _ ?_
                  clear hK
                  refine wpAny_done (by kernel_rfl) ?_ _
                  exact hgoal
            case p =>
              clear k0 f0 k1 f1 k2 f2
              have hT := turns3 (k_E91) Y1 (.bool g7) (.slice a7 x7.length c7) (.slice e7 y7.length t7)
              replace F2 := F2.beside E91 (noWord3 (fun _ e => by cases e) (fun _ e => by cases e) (fun _ e => by cases e)) hT
              replace E13 := E13.turns hT (by omega)
              replace F3 := F3.beside E91 (noWord3 (fun _ e => by cases e) (fun _ e => by cases e) (fun _ e => by cases e)) hT
              replace F4 := F4.beside E91 (noWord3 (fun _ e => by cases e) (fun _ e => by cases e) (fun _ e => by cases e)) hT
              replace F6 := F6.beside E91 (noWord3 (fun _ e => by cases e) (fun _ e => by cases e) (fun _ e => by cases e)) hT
              replace F7 := F7.beside E91 (noWord3 (fun _ e => by cases e) (fun _ e => by cases e) (fun _ e => by cases e)) hT
              replace E91 := Box.set3 (.bool g7) (.slice a7 x7.length c7) (.slice e7 y7.length t7) E91
              have hr10 := hT.below
              obtain ⟨X1, hX⟩ := nm hT.below
              rw [hX] at F2 E13 F3 F4 F6 F7 E91 hr10 ⊢
              clear hX hT
              replace hB := hB.trans ((Below.trans (Below.drew (Below.refl u9.heap.size u9)) hr).mono hB.size)
              replace hB := hB.trans (hr10.mono (by omega))
              replace hR := hR.trans ((Below.trans (Below.drew (Below.refl u9.heap.size u9)) hr).mono hR.size)
              replace hR := hR.trans (hr10.mono (by omega))
              have zz9_1 := hr.size
              have zi1 := hB.size
              have zy1_10 := hr10.size
              clear hr hr10
              clear d0 d1 d2 d3 d4 d5 d6 d7 d8 d9
              clear vs
              clear F2 E13 F3 F4 F6
              have hcc := fun V hV => HC.out V (hR.trans (show Below wr.heap.size X1 V from hV))
              obtain ⟨k0, k1, k2, f0, f1, f2⟩ := E91.three
              go_wp2_with fail
              clear k0 k1 k2 f0 f1 f2
              have qE91 := E91.lt
              replace E91 := E91.drew
              replace F7 := F7.drew
              have hr := Below.refl X1.drew.heap.size X1.drew
              have hkeep : ∀ V : World, Below X1.drew.heap.size X1.drew V → V.cell? ⟨bb, o + i, none⟩ = some (.int .i64 z) ∧ V.cell? ⟨k_E91, 0, none⟩ = some (.bool g7) ∧ V.cell? ⟨k_E91, 1, none⟩ = some (.slice a7 x7.length c7) ∧ V.cell? ⟨k_E91, 2, none⟩ = some (.slice e7 y7.length t7) := fun V hV => ⟨hcc V (Below.trans (Below.drew (Below.refl X1.heap.size X1)) hV |>.mono hR.size), (E91.below hV).three.1, (E91.below hV).three.2.1, (E91.below hV).three.2.2.1⟩
              refine wp_region_held_drew (S := fun V : World => V.cell? ⟨bb, o + i, none⟩ = some (.int .i64 z) ∧ V.cell? ⟨k_E91, 0, none⟩ = some (.bool g7) ∧ V.cell? ⟨k_E91, 1, none⟩ = some (.slice a7 x7.length c7) ∧ V.cell? ⟨k_E91, 2, none⟩ = some (.slice e7 y7.length t7)) (by kernel_rfl) (hkeep _ hr) (fun hHeld => ?_)
              refine wpAnyH_take (i := 0) (v := ?_) rfl (by kernel_rfl) (by kernel_rfl) (by kernel_rfl) (fun _ _ _ h => h) (Or.inl ⟨by rfl, ?_⟩) (by assumption) ?_
              rotate_left
              · intro w hSw
                try dsimp only at hSw
                go_simp
                try with_reducible rfl
              simp only [Act.put, lz7, lz8, lz9, lz1, lz2]
              refine wpAnyH_take (i := 1) (v := ?_) rfl (by kernel_rfl) (by kernel_rfl) (by kernel_rfl) (fun _ _ _ h => h) (Or.inl ⟨by rfl, ?_⟩) (by assumption) ?_
              rotate_left
              · intro w hSw
                try dsimp only at hSw
                go_simp
                try with_reducible rfl
              simp only [Act.put, lz7, lz8, lz9, lz1, lz2, lz3]
              refine wpAnyH_take (i := 2) (v := ?_) rfl (by kernel_rfl) (by kernel_rfl) (by kernel_rfl) (fun _ _ _ h => h) (Or.inl ⟨by rfl, ?_⟩) (by assumption) ?_
              rotate_left
              · intro w hSw
                try dsimp only at hSw
                go_simp
                try with_reducible rfl
              simp only [Act.put, lz7, lz8, lz9, lz1, lz2, lz3]
              refine wpAnyH_take (i := 3) (v := ?_) rfl (by kernel_rfl) (by kernel_rfl) (by kernel_rfl) (fun _ _ _ h => h) (Or.inl ⟨by rfl, ?_⟩) (by assumption) ?_
              rotate_left
              · intro w hSw
                try dsimp only at hSw
                go_simp
                try with_reducible rfl
              simp only [Act.put, lz7, lz8, lz9, lz1, lz2, lz3]
              refine wpAnyH_take (i := 4) (v := ?_) rfl (by kernel_rfl) (by kernel_rfl) (by kernel_rfl) (fun _ _ _ h => h) (Or.inl ⟨by rfl, ?_⟩) (by assumption) ?_
              rotate_left
              · intro w hSw
                try dsimp only at hSw
                go_simp
                try with_reducible rfl
              simp only [Act.put, lz7, lz8, lz9, lz1, lz2, lz3]
              refine wpAnyH_take (i := 5) (v := ?_) rfl (by kernel_rfl) (by kernel_rfl) (by kernel_rfl) (fun _ _ _ h => h) (Or.inl ⟨by rfl, ?_⟩) (by assumption) ?_
              rotate_left
              · intro w hSw
                try dsimp only at hSw
                go_simp
                try with_reducible rfl
              simp only [Act.put, lz7, lz8, lz9, lz1, lz2, lz3]
              refine wpAnyH_take (i := 6) (v := ?_) rfl (by kernel_rfl) (by kernel_rfl) (by kernel_rfl) (fun _ _ _ h => h) (Or.inl ⟨by rfl, ?_⟩) (by assumption) ?_
              rotate_left
              · intro w hSw
                try dsimp only at hSw
                go_simp
                try with_reducible rfl
              simp only [Act.put, lz7, lz8, lz9, lz1, lz2, lz3]
              refine wpAnyH_take (i := 7) (v := ?_) rfl (by kernel_rfl) (by kernel_rfl) (by kernel_rfl) (fun _ _ _ h => h) (Or.inl ⟨by rfl, ?_⟩) (by assumption) ?_
              rotate_left
              · intro w hSw
                try dsimp only at hSw
                go_simp
                try with_reducible rfl
              simp only [Act.put, lz7, lz8, lz9, lz1, lz2, lz3]
              refine wpAnyH_take (i := 8) (v := ?_) rfl (by kernel_rfl) (by kernel_rfl) (by kernel_rfl) (fun _ _ _ h => h) (Or.inl ⟨by rfl, ?_⟩) (by assumption) ?_
              rotate_left
              · intro w hSw
                try dsimp only at hSw
                go_simp
                try with_reducible rfl
              simp only [Act.put, lz7, lz8, lz9, lz1, lz2, lz3]
              refine wpAnyH_take (i := 9) (v := ?_) rfl (by kernel_rfl) (by kernel_rfl) (by kernel_rfl) (fun _ _ _ h => h) (Or.inl ⟨by rfl, ?_⟩) (by assumption) ?_
              rotate_left
              · intro w hSw
                try dsimp only at hSw
                go_simp
                try with_reducible rfl
              simp only [Act.put, lz7, lz8, lz9, lz1, lz2, lz3]
              refine wpAnyH_ready (rs := [10]) (by kernel_rfl) (by simp) ?_
              refine AllReadyH.cons rfl (fun K hK => ?_) AllReadyH.nil
              go_simp
              go_at_call 29
              refine (lt_near_any z s (by omega) (by omega) g7 (F7.mono (Nat.zero_le _)) (I7.mono (by decide)) HX.out).mono ?_
              rintro e w10 ⟨rfl, hb⟩
              replace E91 := E91.below hb
              replace F7 := F7.below hb
              replace hr := hr.trans (hb.mono hr.size)
              have zw10 := hb.size
              clear hb
              dsimp only
              clear hHeld
              refine hK.out _ _ (hkeep _ hr) (fun hHeld => ?_)
              clear hK K
              try simp only [Act.put, List.setIfInBounds_toArray, List.set_cons_zero, List.set_cons_succ, List.getElem_toArray, List.getElem_cons_zero, List.getElem_cons_succ]
              refine wpAnyH_take (i := 11) (v := ?_) rfl (by kernel_rfl) (by kernel_rfl) (by kernel_rfl) (fun _ _ _ h => h) (Or.inl ⟨by rfl, ?_⟩) (by assumption) ?_
              rotate_left
              · intro w hSw
                try dsimp only at hSw
                go_simp
                try with_reducible rfl
              simp only [Act.put, lz7, lz8, lz9, lz1, lz2, lz3]
              refine wpAnyH_take (i := 12) (v := ?_) rfl (by kernel_rfl) (by kernel_rfl) (by kernel_rfl) (fun _ _ _ h => h) (Or.inl ⟨by rfl, ?_⟩) (by assumption) ?_
              rotate_left
              · intro w hSw
                try dsimp only at hSw
                go_simp
                try with_reducible rfl
              simp only [Act.put, lz7, lz8, lz9, lz1, lz2, lz3]
              refine wpAnyH_done (by kernel_rfl) ?_ _
              clear hHeld
              replace hB := hB.trans ((Below.trans (Below.drew (Below.refl X1.heap.size X1)) hr).mono hB.size)
              replace hR := hR.trans ((Below.trans (Below.drew (Below.refl X1.heap.size X1)) hr).mono hR.size)
              have zi_10 := hB.size
              clear hr hkeep
              clear hcc
              have HBB := hide (HB.out.trans (hR.mono HB.out.size))
              subst hdd
              clear hB hR E91 F7
              go_wp2
              exact ⟨⟨i + 1, by omega, by go_num, HBB.out⟩, by simp [intOf]; omega⟩
      · obtain rfl : i = n1 := by omega
        have hdl : decide ((i : Int) + 1 ≤ (i : Int)) = false := decide_eq_false (by omega)
        go_wp2
        go_ret
        exact ⟨rfl, HB0.out.trans (HB.out.mono HB0.out.size)⟩
end Go.Proofs.YtejocefblpkdjaaGreat
