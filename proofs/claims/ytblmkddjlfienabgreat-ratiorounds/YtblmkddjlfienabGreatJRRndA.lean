/-
  Joined: RRndA RRndB RRounds.
-/
import Derived.Test.YtblmkddjlfienabGreatJRatN
namespace Go.Proofs.YtblmkddjlfienabGreat
open Go.RowKit
set_option maxRecDepth 100000 in
set_option maxHeartbeats 4000000 in
theorem lrrounds_near {a1 e1 : Option Addr} {c1 t1 : Nat} {x1 y1 : List Int} {w : World} (g1 : Bool) (F1 : Fr 0 w a1 c1 x1 e1 t1 y1) (m : Int) (hm : -9223372036854775808 ≤ m ∧ m ≤ 9223372036854775807) (n : Int) (hn : -9223372036854775808 ≤ n ∧ n ≤ 9223372036854775807) (hl1 : x1.length ≤ 5 ∧ y1.length ≤ 5) {q1 : Rat} (I1 : Is g1 x1 y1 q1 5) (hcv : cmpR (absR (q1 - Rat.divInt (sgn g1 (roundN (val x1) (val y1))) 1)) (Rat.divInt 1 2) = -1) :
    Calls Tryz.prog 3 #[.agg #[.bool g1, .slice a1 x1.length c1, .slice e1 y1.length t1], .int .i64 m, .int .i64 n] w fun e w' => e = .returned (.bool true) ∧ Below w.heap.size w w' := by
  have hlen0 : Hid (∀ r ∈ ([⟨g1, a1, c1, x1, e1, t1, y1⟩] : List RV), r.xs.length ≤ 1000 ∧ r.ds.length ≤ 1000) := fun r hr => by
    simp only [List.mem_cons, List.not_mem_nil, or_false] at hr
    subst hr
    constructor <;> simp <;> omega
  have HL := long_no [⟨g1, a1, c1, x1, e1, t1, y1⟩] (by simp) (fun r hr => by
    simp only [List.mem_cons, List.not_mem_nil, or_false] at hr
    subst hr
    exact hl1)
  have HG := good_yes [⟨g1, a1, c1, x1, e1, t1, y1⟩] (fun r hr => by
    simp only [List.mem_cons, List.not_mem_nil, or_false] at hr
    subst hr
    exact I1.good F1.up.words F1.down.words)
  clear hl1
  obtain ⟨R, hR'⟩ : ∃ R, roundN (val x1) (val y1) = R := ⟨_, rfl⟩
  have hR := hide hR'
  rw [hR'] at hcv
  have hR0 : 0 ≤ R := by rw [← hR']; exact roundN_nonneg (val_nonneg F1.up.words) I1.low.2.2.1
  clear hR'
  obtain ⟨X1, hX1⟩ : ∃ X, Rat.divInt (sgn g1 R) 1 = X := ⟨_, rfl⟩
  obtain ⟨H2, hH2⟩ : ∃ X, Rat.divInt 1 2 = X := ⟨_, rfl⟩
  rw [hX1, hH2] at hcv
  have HC : Hid (cmpR (absR (q1 - X1)) H2 = -1) := hcv
  have HH : Hid (Rat.divInt 1 2 = H2) := hH2
  have HX1 : Hid (Rat.divInt (sgn g1 (roundN (val x1) (val y1))) (val [1]) = X1) := by rw [Hid, hR.out]; exact hX1
  obtain ⟨ev, hev'⟩ : ∃ ev, decide (R % 2 = 0) = ev := ⟨_, rfl⟩
  have HE := hide hev'
  obtain ⟨QA, hQA⟩ : ∃ F : Int → Rat, ∀ k, q1 ^ k = F k := ⟨_, fun _ => rfl⟩
  clear hcv hH2 hX1 hev'
  have hB := Below.refl w.heap.size w
  go_enter Tryz.func3, Tryz.ntmps3
  have hs0 := Nat.le_refl w.heap.size
  have hq := below_new w (.cells #[.bool g1, .slice a1 x1.length c1, .slice e1 y1.length t1] 27)
  replace F1 := F1.below hq
  have E1 := Box.put (w := w) (k := (w.heap.size)) (.cells #[.bool g1, .slice a1 x1.length c1, .slice e1 y1.length t1] 27) rfl
  replace hs0 := Nat.le_trans hs0 hq.size
  replace hB := hB.trans (hq.mono hB.size)
  clear hq
  go_wp2_with fail
  obtain ⟨u1, hname⟩ := nm hB
  rw [hname] at hs0 hB F1 E1 ⊢
  have zh1 := hB.size
  have zs1 := hs0
  clear hname hs0
  refine (lrawake_any _).mono ?_
  rintro e w2 ⟨rfl, hb⟩
  replace F1 := F1.below hb
  replace E1 := E1.below hb
  replace hB := hB.trans (hb.mono hB.size)
  have zz2 := hb.size
  have zh2 := hB.size
  clear hb
  obtain ⟨k0, k1, k2, f0, f1, f2⟩ := E1.three
  have qE1 := E1.lt
  have hs0 := Nat.le_refl w2.heap.size
  have hq := below_new w2 (.cells #[.bool g1, .slice a1 x1.length c1, .slice e1 y1.length t1] 27)
  replace F1 := F1.below hq
  replace E1 := E1.below hq
  have L0 := Box.put (w := w2) (k := (w2.heap.size)) (.cells #[.bool g1, .slice a1 x1.length c1, .slice e1 y1.length t1] 27) rfl
  replace hs0 := Nat.le_trans hs0 hq.size
  replace hB := hB.trans (hq.mono hB.size)
  clear hq
  go_wp2_with fail
  clear k0 k1 k2 f0 f1 f2
  obtain ⟨u3, hname⟩ := nm hB
  rw [hname] at hs0 hB F1 E1 L0 ⊢
  have zh3 := hB.size
  have zs3 := hs0
  clear hname hs0
  have R := row_box (rs := [⟨g1, a1, c1, x1, e1, t1, y1⟩]) (k := w2.heap.size) L0 (fun r hr => by
      simp only [List.mem_cons, List.not_mem_nil, or_false] at hr
      rcases hr with rfl
      · exact F1.mono (Nat.zero_le _))
  refine (lrlong_any (cap := 1) R false HL).mono ?_
  rintro e w4 ⟨rfl, hb⟩
  replace F1 := F1.below hb
  replace E1 := E1.below hb
  replace L0 := L0.below hb
  replace hB := hB.trans (hb.mono hB.size)
  have zz4 := hb.size
  have zh4 := hB.size
  clear hb
  clear R
  clear L0
  obtain ⟨k0, k1, k2, f0, f1, f2⟩ := E1.three
  have qE1 := E1.lt
  have hs0 := Nat.le_refl w4.heap.size
  have hq := below_new w4 (.cells #[.bool g1, .slice a1 x1.length c1, .slice e1 y1.length t1] 27)
  replace F1 := F1.below hq
  replace E1 := E1.below hq
  have L0 := Box.put (w := w4) (k := (w4.heap.size)) (.cells #[.bool g1, .slice a1 x1.length c1, .slice e1 y1.length t1] 27) rfl
  replace hs0 := Nat.le_trans hs0 hq.size
  replace hB := hB.trans (hq.mono hB.size)
  clear hq
  go_wp2_with fail
  clear k0 k1 k2 f0 f1 f2
  obtain ⟨u5, hname⟩ := nm hB
  rw [hname] at hs0 hB F1 E1 L0 ⊢
  have zh5 := hB.size
  have zs5 := hs0
  clear hname hs0
  have R := row_box (rs := [⟨g1, a1, c1, x1, e1, t1, y1⟩]) (k := w4.heap.size) L0 (fun r hr => by
      simp only [List.mem_cons, List.not_mem_nil, or_false] at hr
      rcases hr with rfl
      · exact F1.mono (Nat.zero_le _))
  refine (lrgood_any (cap := 1) R (by simp) hlen0.out true HG).mono ?_
  rintro e w6 ⟨rfl, hb⟩
  replace F1 := F1.below hb
  replace E1 := E1.below hb
  replace L0 := L0.below hb
  replace hB := hB.trans (hb.mono hB.size)
  have zz6 := hb.size
  have zh6 := hB.size
  clear hb
  clear R
  clear L0
  go_wp2_with fail
  refine (pick13 m hm _).mono ?_
  rintro e w7 ⟨pm, hpm13, rfl, hb⟩
  have Wpm : IntKind.i64.wrap ((pm : Int) - 6) = (pm : Int) - 6 := by rw [IntKind.wrap_i64]; omega
  replace F1 := F1.below hb
  replace E1 := E1.below hb
  replace hB := hB.trans (hb.mono hB.size)
  have zz7 := hb.size
  have zh7 := hB.size
  clear hb
  go_wp2_with fail
  refine (pick13 n hn _).mono ?_
  rintro e w8 ⟨pn, hpn13, rfl, hb⟩
  have Wpn : IntKind.i64.wrap ((pn : Int) - 6) = (pn : Int) - 6 := by rw [IntKind.wrap_i64]; omega
  replace F1 := F1.below hb
  replace E1 := E1.below hb
  replace hB := hB.trans (hb.mono hB.size)
  have zz8 := hb.size
  have zh8 := hB.size
  clear hb
  have Wmn : IntKind.i64.wrap ((pm : Int) - 6 + ((pn : Int) - 6)) = (pm : Int) - 6 + ((pn : Int) - 6) := by rw [IntKind.wrap_i64]; omega
  obtain ⟨k0, k1, k2, f0, f1, f2⟩ := E1.three
  go_wp2_with fail
  clear k0 k1 k2 f0 f1 f2
  refine (pround_ok g1 F1 I1 (by omega)).mono ?_
  rintro e w9 ⟨g2, a2, c2, z2, rfl, S2, N2, V2, b2, hb⟩
  replace F1 := F1.below hb
  replace E1 := E1.below hb
  replace hB := hB.trans (hb.mono hB.size)
  have zz9 := hb.size
  have zh9 := hB.size
  clear hb
  have HR : Hid (val z2 = R) := sgn_abs hR0 (val_nonneg S2.words) (V2.out.trans (by rw [hR.out]))
  have qE1 := E1.lt
  have hs0 := Nat.le_refl w9.heap.size
  have hq := below_new w9 (.cells #[.bool g2, .slice a2 z2.length c2] 25)
  replace F1 := F1.below hq
  replace E1 := E1.below hq
  replace S2 := S2.below hq
  have EX := Box.put (w := w9) (k := (w9.heap.size)) (.cells #[.bool g2, .slice a2 z2.length c2] 25) rfl
  replace hs0 := Nat.le_trans hs0 hq.size
  replace hB := hB.trans (hq.mono hB.size)
  clear hq
  have hq := below_new (w9.alloc (.cells #[.bool g2, .slice a2 z2.length c2] 25)) (.cells #[.int .u64 1] 36)
  replace F1 := F1.below hq
  replace E1 := E1.below hq
  replace S2 := S2.below hq
  replace EX := EX.below hq
  have M1 := Box.put (w := (w9.alloc (.cells #[.bool g2, .slice a2 z2.length c2] 25))) (k := (w9.heap.size + 1)) (.cells #[.int .u64 1] 36) (by simp)
  replace hs0 := Nat.le_trans hs0 hq.size
  replace hB := hB.trans (hq.mono hB.size)
  clear hq
  go_wp2_with fail
  obtain ⟨u10, hname⟩ := nm hB
  rw [hname] at hs0 hB F1 E1 S2 EX M1 ⊢
  have zh10 := hB.size
  have zs10 := hs0
  clear hname hs0
  have s6 : Seg (w9.heap.size + 1) _ (.slice (some ⟨w9.heap.size + 1, 0, none⟩) [1].length 1) [1] := seg_box M1 [1] (words_of rfl) rfl
  refine (pmake_ok (lo := 0) (n := 7) g2 ⟨S2.mono (Nat.zero_le _), s6.mono (Nat.zero_le _)⟩ (by omega) (by simp) ⟨by omega, by simp⟩ N2 (by decide)).mono ?_
  rintro e w11 ⟨g3, a3, c3, x3, e3, t3, y3, rfl, F3, P3, I3, hb⟩
  replace I3 : Is g3 x3 y3 (X1) (7) := I3.to (by rw [V2.out]; exact HX1.out)
  replace F1 := F1.below hb
  replace E1 := E1.below hb
  replace S2 := S2.below hb
  replace EX := EX.below hb
  replace M1 := M1.below hb
  replace hB := hB.trans (hb.mono hB.size)
  have zz11 := hb.size
  have zh11 := hB.size
  clear hb
  clear s6
  clear M1
  obtain ⟨k0, k1, k2, f0, f1, f2⟩ := E1.three
  have qE1 := E1.lt
  have qEX := EX.lt
  have hs0 := Nat.le_refl w11.heap.size
  have hq := below_new w11 (.cells #[.bool g3, .slice a3 x3.length c3, .slice e3 y3.length t3] 27)
  replace F1 := F1.below hq
  replace E1 := E1.below hq
  replace S2 := S2.below hq
  replace EX := EX.below hq
  replace F3 := F3.below hq
  have E3 := Box.put (w := w11) (k := (w11.heap.size)) (.cells #[.bool g3, .slice a3 x3.length c3, .slice e3 y3.length t3] 27) rfl
  replace hs0 := Nat.le_trans hs0 hq.size
  replace hB := hB.trans (hq.mono hB.size)
  clear hq
  go_wp2_with fail
  clear k0 k1 k2 f0 f1 f2
  obtain ⟨u12, hname⟩ := nm hB
  rw [hname] at hs0 hB F1 E1 S2 EX F3 E3 ⊢
  have zh12 := hB.size
  have zs12 := hs0
  clear hname hs0
  refine (psub_ok g1 g3 F1 F3 ⟨I1.lu, I1.ld⟩ ⟨I3.lu, I3.ld⟩ (by omega) (by omega) (I1.good F1.up.words F1.down.words) (I3.good F3.up.words F3.down.words)).mono ?_
  rintro e w13 ⟨g4, a4, c4, x4, e4, t4, y4, rfl, F4, P4, I4, hb⟩
  replace I4 : Is g4 x4 y4 (q1 - X1) (13) := (I4.mono (by omega)).to (by rw [I1.rat, I3.rat]; skip)
  replace F1 := F1.below hb
  replace E1 := E1.below hb
  replace S2 := S2.below hb
  replace EX := EX.below hb
  replace F3 := F3.below hb
  replace E3 := E3.below hb
  replace hB := hB.trans (hb.mono hB.size)
  have zz13 := hb.size
  have zh13 := hB.size
  clear hb
  have ID := I4.abs F4.up.words
  have qE1 := E1.lt
  have qEX := EX.lt
  have qE3 := E3.lt
  have hs0 := Nat.le_refl w13.heap.size
  have hq := below_new w13 (.cells #[.bool false, .slice a4 x4.length c4, .slice e4 y4.length t4] 27)
  replace F1 := F1.below hq
  replace E1 := E1.below hq
  replace S2 := S2.below hq
  replace EX := EX.below hq
  replace F3 := F3.below hq
  replace E3 := E3.below hq
  replace F4 := F4.below hq
  have E4 := Box.put (w := w13) (k := (w13.heap.size)) (.cells #[.bool false, .slice a4 x4.length c4, .slice e4 y4.length t4] 27) rfl
  replace hs0 := Nat.le_trans hs0 hq.size
  replace hB := hB.trans (hq.mono hB.size)
  clear hq
  go_wp2_with fail
  obtain ⟨u14, hname⟩ := nm hB
  rw [hname] at hs0 hB F1 E1 S2 EX F3 E3 F4 E4 ⊢
  have zh14 := hB.size
  have zs14 := hs0
  clear hname hs0
  replace F1 := F1.drew
  have qE1 := E1.lt
  replace E1 := E1.drew
  replace S2 := S2.drew
  have qEX := EX.lt
  replace EX := EX.drew
  replace F3 := F3.drew
  have qE3 := E3.lt
  replace E3 := E3.drew
  replace F4 := F4.drew
  have qE4 := E4.lt
  replace E4 := E4.drew
  refine wp_yields 4 [.is (.agg #[.bool false, .slice a4 x4.length c4, .slice e4 y4.length t4]), (Yield.frac u14.heap.size (H2) (1)), (.is (.tuple #[.int .i64 (-1), .int .i64 0])), .is (.tuple #[.int .i64 (-1), .int .i64 0])] (by kernel_rfl) (by kernel_rfl) (lt_cons ?_ (lt_cons ?_ (lt_cons ?_ (lt_cons ?_ lt_nil)))) ?_
  case refine_1 =>
    refine OpDoes.mk rfl ?_
    intro vs V hV hd K hK
    have d2 : vs 2 = .tuple #[.int .i64 (-1), .int .i64 0] := hd 2 (by decide) (by kernel_rfl)
    simp only [laidIn, lz1, lz2, lz3, lz4, lz5, lz6, if_true, Act.put, lz7, lz8, lz9] at hK ⊢
    simp only [d2] at hK ⊢
    go_simp
    exact hK.out _ _ (Below.refl _ _) rfl (not_fresh rfl)
  case refine_2 =>
    refine OpDoes.mk rfl ?_
    intro vs V hV hd K hK
    have d0 : vs 0 = .agg #[.bool false, .slice a4 x4.length c4, .slice e4 y4.length t4] := hd 0 (by decide) (by kernel_rfl)
    have hh := fun (P : Prop) => Yield.frac_elim P (show ((Yield.frac u14.heap.size (H2) (1)) : Yield).At (vs 1) V from hd 1 (by decide) (by kernel_rfl))
    refine hh _ ?_
    intro g5 a5 c5 x5 e5 t5 y5 d1 F5 P5 I5
    clear hh
    simp only [laidIn, lz1, lz2, lz3, lz4, lz5, lz6, if_true, Act.put, lz7, lz8, lz9] at hK ⊢
    simp only [d0, d1] at hK ⊢
    go_simp
    go_at_call 11
    have hc := pcmp_ok false g5 (F4.below hV) F5 ID I5 (by omega)
    rw [HC.out] at hc
    refine (hc).mono ?_
    rintro e V' ⟨rfl, hb⟩
    exact hK.out _ _ hb rfl (not_fresh rfl)
  case refine_3 =>
    refine OpDoes.mk rfl ?_
    intro vs V hV hd K hK
    simp only [laidIn, lz1, lz2, lz3, lz4, lz5, lz6, if_true, Act.put, lz7, lz8, lz9] at hK ⊢
    go_simp
    go_at_call 12
    refine (lrof_half _).mono ?_
    rintro e V' ⟨g5, a5, c5, x5, e5, t5, y5, rfl, F5, P5, I5, hb⟩
    replace I5 : Is g5 x5 y5 (H2) (1) := I5.to HH.out
    exact hK.out _ _ hb ⟨_, _, _, _, _, _, _, rfl, F5.mono hV.size, P5, I5⟩ (not_fresh rfl)
  case refine_4 =>
    refine OpDoes.mk rfl ?_
    intro vs V hV hd K hK
    have hcc := (E4.below hV).three
    have k0 := hcc.1
    have k1 := hcc.2.1
    have k2 := hcc.2.2.1
    clear hcc
    simp only [laidIn, lz1, lz2, lz4, lz5, lz6, if_true, Act.put, lz7, lz8, lz9] at hK ⊢
    go_simp
    exact hK.out _ _ (Below.refl _ _) rfl (not_fresh rfl)
  case refine_5 =>
    intro vs Y1 hV hR hne fuel
    have d0 : vs 0 = .agg #[.bool false, .slice a4 x4.length c4, .slice e4 y4.length t4] := hR 0 (by decide)
    have hh := fun (P : Prop) => Yield.frac_elim P (show ((Yield.frac u14.heap.size (H2) (1)) : Yield).At (vs 1) Y1 from hR 1 (by decide))
    refine hh _ ?_
    intro g5 a5 c5 x5 e5 t5 y5 d1 F5 P5 I5
    clear hh
    have d2 : vs 2 = .tuple #[.int .i64 (-1), .int .i64 0] := hR 2 (by decide)
    have d3 : vs 3 = .tuple #[.int .i64 (-1), .int .i64 0] := hR 3 (by decide)
    replace F1 := F1.below hV
    replace E1 := E1.below hV
    replace S2 := S2.below hV
    replace EX := EX.below hV
    replace F3 := F3.below hV
    replace E3 := E3.below hV
    replace F4 := F4.below hV
    replace E4 := E4.below hV
    have hr := hV
    simp only [laidIn, lz4, lz5, lz6, if_true, Act.put, lz7, lz8, lz9]
    simp only [d0, d1, d2, d3]
    clear hR hne hV d0 d1 d2 d3
    clear vs
    show wpAny _ _ _ _ (fuel + 4) _ _ _
    apply mp_of
    case f =>
      intro hgoal
      refine wpAny_all (rs := [4, 5]) (by kernel_rfl) (by simp) (fun i hi => ?_)
      rcases (show i = 4 ∨ i = 5 by simpa using hi) with rfl | rfl
      · clear hi
        refine wpOp_step rfl (fun K hK => ?_)
        simp only [lz1, lz2, lz3]
        rw [if_pos (by rfl)]
        go_simp
        refine hK _ _ ?_
        clear hK
        refine wpAny_all (rs := [5, 6]) (by kernel_rfl) (by simp) (fun i hi => ?_)
        rcases (show i = 5 ∨ i = 6 by simpa using hi) with rfl | rfl
        · clear hi
          refine wpOp_step rfl (fun K hK => ?_)
          simp only [lz1, lz2, lz3]
          rw [if_pos (by rfl)]
          go_simp
          refine hK _ _ ?_
          clear hK
          refine wpAny_all (rs := [6]) (by kernel_rfl) (by simp) (fun i hi => ?_)
          obtain rfl : i = 6 := by simpa using hi
          clear hi
          refine wpOp_step rfl (fun K hK => ?_)
          simp only [lz1, lz2, lz3]
          rw [if_pos (by rfl)]
          go_simp
          refine hK _ _ ?_
          clear hK
          refine wpAny_all (rs := [7]) (by kernel_rfl) (by simp) (fun i hi => ?_)
          obtain rfl : i = 7 := by simpa using hi
          clear hi
          refine wpOp_step rfl (fun K hK => ?_)
          simp only [lz1, lz2, lz3]
          rw [if_pos (by rfl)]
          go_simp
          refine hK _ _ ?_
          clear hK
          refine wpAny_done (by kernel_rfl) ?_ _
          exact hgoal
        · clear hi
          refine wpOp_step rfl (fun K hK => ?_)
          simp only [lz1, lz2, lz3]
          rw [if_pos (by rfl)]
          go_simp
          refine hK _ _ ?_
          clear hK
          refine wpAny_all (rs := [5]) (by kernel_rfl) (by simp) (fun i hi => ?_)
          obtain rfl : i = 5 := by simpa using hi
          clear hi
          refine wpOp_step rfl (fun K hK => ?_)
          simp only [lz1, lz2, lz3]
          rw [if_pos (by rfl)]
          go_simp
          refine hK _ _ ?_
          clear hK
          refine wpAny_all (rs := [7]) (by kernel_rfl) (by simp) (fun i hi => ?_)
          obtain rfl : i = 7 := by simpa using hi
          clear hi
          refine wpOp_step rfl (fun K hK => ?_)
          simp only [lz1, lz2, lz3]
          rw [if_pos (by rfl)]
          go_simp
          refine hK _ _ ?_
          clear hK
          refine wpAny_done (by kernel_rfl) ?_ _
          exact hgoal
      · clear hi
        refine wpOp_step rfl (fun K hK => ?_)
        simp only [lz1, lz2, lz3]
        rw [if_pos (by rfl)]
        go_simp
        refine hK _ _ ?_
        clear hK
        refine wpAny_all (rs := [4]) (by kernel_rfl) (by simp) (fun i hi => ?_)
        obtain rfl : i = 4 := by simpa using hi
        clear hi
        refine wpOp_step rfl (fun K hK => ?_)
        simp only [lz1, lz2, lz3]
        rw [if_pos (by rfl)]
        go_simp
        refine hK _ _ ?_
        clear hK
        refine wpAny_all (rs := [6]) (by kernel_rfl) (by simp) (fun i hi => ?_)
        obtain rfl : i = 6 := by simpa using hi
        clear hi
        refine wpOp_step rfl (fun K hK => ?_)
        simp only [lz1, lz2, lz3]
        rw [if_pos (by rfl)]
        go_simp
        refine hK _ _ ?_
        clear hK
        refine wpAny_all (rs := [7]) (by kernel_rfl) (by simp) (fun i hi => ?_)
        obtain rfl : i = 7 := by simpa using hi
        clear hi
        refine wpOp_step rfl (fun K hK => ?_)
        simp only [lz1, lz2, lz3]
        rw [if_pos (by rfl)]
        go_simp
        refine hK _ _ ?_
        clear hK
        refine wpAny_done (by kernel_rfl) ?_ _
        exact hgoal
    case p =>
      replace hB := hB.trans ((Below.trans (Below.drew (Below.refl u14.heap.size u14)) hr).mono hB.size)
      have zz14_0 := hr.size
      have zi1 := hB.size
      clear hr
      clear F5 F4 E4 F3 E3
      obtain ⟨k0, k1, k2, f0, f1, f2⟩ := E1.three
      go_wp2_with fail
      clear k0 k1 k2 f0 f1 f2
      refine (copyr_any g1 F1 (by have := I1.lu; omega) (by have := I1.ld; omega)).mono ?_
      rintro e w15 ⟨a20, c20, e20, t20, rfl, F20, hb⟩
      replace F1 := F1.below hb
      replace E1 := E1.below hb
      replace S2 := S2.below hb
      replace EX := EX.below hb
      replace hB := hB.trans (hb.mono hB.size)
      have zz15 := hb.size
      have zh15 := hB.size
      clear hb
      obtain ⟨k0, k1, k2, f0, f1, f2⟩ := E1.three
      have qE1 := E1.lt
      have qEX := EX.lt
      have hs0 := Nat.le_refl w15.heap.size
      have hq := below_new w15 (.cells #[.bool g1, .slice a20 x1.length c20, .slice e20 y1.length t20] 27)
      replace F1 := F1.below hq
      replace E1 := E1.below hq
      replace S2 := S2.below hq
      replace EX := EX.below hq
      replace F20 := F20.below hq
      have ET := Box.put (w := w15) (k := (w15.heap.size)) (.cells #[.bool g1, .slice a20 x1.length c20, .slice e20 y1.length t20] 27) rfl
      replace hs0 := Nat.le_trans hs0 hq.size
      replace hB := hB.trans (hq.mono hB.size)
      clear hq
      go_wp2_with fail
      clear k0 k1 k2 f0 f1 f2
      obtain ⟨u16, hname⟩ := nm hB
      rw [hname] at hs0 hB F1 E1 S2 EX F20 ET ⊢
      have zh16 := hB.size
      have zs16 := hs0
      clear hname hs0
      refine (sneg_any g1 F1.up (by have := I1.lu; omega)).mono ?_
      rintro e w17 ⟨g21, a21, c21, z21, rfl, S21, N21, v21, l21, hb⟩
      have V21 : Hid (sgn g21 (val z21) = -sgn g1 (val x1)) := v21
      have b21 : z21.length ≤ 5 := by have := I1.lu; omega
      clear v21 l21
      replace F1 := F1.below hb
      replace E1 := E1.below hb
      replace S2 := S2.below hb
      replace EX := EX.below hb
      replace F20 := F20.below hb
      replace ET := ET.below hb
      replace hB := hB.trans (hb.mono hB.size)
      have zz17 := hb.size
      have zh17 := hB.size
      clear hb
      obtain ⟨k0, k1, k2, f0, f1, f2⟩ := ET.three
      have qE1 := E1.lt
      have qEX := EX.lt
      have qET := ET.lt
      have hs0 := Nat.le_refl w17.heap.size
      have hT := (((Turns.refl (w15.heap.size) w17).setCell 0 (.bool g21)).setCell 1 (.slice a21 z21.length c21))
      replace F1 := F1.beside ET (noWord3 (fun _ e => by cases e) (fun _ e => by cases e) (fun _ e => by cases e)) hT
      replace E1 := E1.turns hT (by omega)
      replace S2 := S2.beside ET (noWord3 (fun _ e => by cases e) (fun _ e => by cases e) (fun _ e => by cases e)) hT
      replace EX := EX.turns hT (by omega)
      replace F20 := F20.beside ET (noWord3 (fun _ e => by cases e) (fun _ e => by cases e) (fun _ e => by cases e)) hT
      replace S21 := S21.beside ET (noWord3 (fun _ e => by cases e) (fun _ e => by cases e) (fun _ e => by cases e)) hT
      replace ET : Box ((w17.setCell ⟨w15.heap.size, 0, none⟩ (.bool g21)).setCell ⟨w15.heap.size, 1, none⟩ (.slice a21 z21.length c21)) (w15.heap.size) (.cells #[.bool g21, .slice a21 z21.length c21, .slice e20 y1.length t20] 27) := ⟨Nat.lt_of_lt_of_le ET.lt hT.below.size, (heap_setCell_same _ _ 1 _ _ _ (heap_setCell_same _ _ 0 _ _ _ ET.what))⟩
      replace hB := hB.trans (hT.below.mono (by omega))
      replace hs0 := Nat.le_trans hs0 hT.below.size
      clear hT
      go_wp2_with fail
      clear k0 k1 k2 f0 f1 f2
      obtain ⟨u18, hname⟩ := nm hB
      rw [hname] at hs0 hB F1 E1 S2 EX F20 ET S21 ⊢
      have zh18 := hB.size
      have zs18 := hs0
      clear hname hs0
      refine (pround_ok g21 (lo := 0) ⟨S21.mono (Nat.zero_le _), F20.down.mono (Nat.zero_le _)⟩ (I1.neg N21 V21.out b21) (by omega)).mono ?_
      rintro e w19 ⟨g22, a22, c22, z22, rfl, S22, N22, V22, b22, hb⟩
      replace F1 := F1.below hb
      replace E1 := E1.below hb
      replace S2 := S2.below hb
      replace EX := EX.below hb
      replace F20 := F20.below hb
      replace ET := ET.below hb
      replace S21 := S21.below hb
      replace hB := hB.trans (hb.mono hB.size)
      have zz19 := hb.size
      have zh19 := hB.size
      clear hb
      have VY : Hid (sgn g22 (val z22) = -sgn g1 R) := by rw [Hid, V22.out, ← hR.out]; exact round_neg (val_nonneg F1.up.words) (val_nonneg S21.words) I1.low.2.2.1 V21.out
      clear ET F20 S21
      obtain ⟨k0, k1, f0, f1⟩ := EX.two
      have qE1 := E1.lt
      have qEX := EX.lt
      have hs0 := Nat.le_refl w19.heap.size
      have hq := below_new w19 (.cells #[.bool g22, .slice a22 z22.length c22] 25)
      replace F1 := F1.below hq
      replace E1 := E1.below hq
      replace S2 := S2.below hq
      replace EX := EX.below hq
      replace S22 := S22.below hq
      have EY := Box.put (w := w19) (k := (w19.heap.size)) (.cells #[.bool g22, .slice a22 z22.length c22] 25) rfl
      replace hs0 := Nat.le_trans hs0 hq.size
      replace hB := hB.trans (hq.mono hB.size)
      clear hq
      have hq := below_new (w19.alloc (.cells #[.bool g22, .slice a22 z22.length c22] 25)) (.cells #[.int .u64 2] 36)
      replace F1 := F1.below hq
      replace E1 := E1.below hq
      replace S2 := S2.below hq
      replace EX := EX.below hq
      replace S22 := S22.below hq
      replace EY := EY.below hq
      have M2 := Box.put (w := (w19.alloc (.cells #[.bool g22, .slice a22 z22.length c22] 25))) (k := (w19.heap.size + 1)) (.cells #[.int .u64 2] 36) (by simp)
      replace hs0 := Nat.le_trans hs0 hq.size
      replace hB := hB.trans (hq.mono hB.size)
      clear hq
      go_wp2_with fail
      clear k0 k1 f0 f1
      obtain ⟨u20, hname⟩ := nm hB
      rw [hname] at hs0 hB F1 E1 S2 EX S22 EY M2 ⊢
      have zh20 := hB.size
      have zs20 := hs0
      clear hname hs0
      have s6 : Seg (w19.heap.size + 1) _ (.slice (some ⟨w19.heap.size + 1, 0, none⟩) [2].length 1) [2] := seg_box M2 [2] (words_of rfl) rfl
      have hk := qdivides_any s6 S2 (by simp) (by omega)
      rw [show val [2] = 2 by decide, HR.out, dvdB_two, HE.out] at hk
      refine (hk).mono ?_
      rintro e w21 ⟨rfl, hb⟩
      replace F1 := F1.below hb
      replace E1 := E1.below hb
      replace S2 := S2.below hb
      replace EX := EX.below hb
      replace S22 := S22.below hb
      replace EY := EY.below hb
      replace M2 := M2.below hb
      replace hB := hB.trans (hb.mono hB.size)
      have zz21 := hb.size
      have zh21 := hB.size
      clear hb
      clear hk s6
      clear M2
      obtain ⟨k0, k1, f0, f1⟩ := EX.two
      obtain ⟨k2, k3, f2, f3⟩ := EY.two
      go_wp2_with fail
      clear k0 k1 f0 f1 k2 k3 f2 f3
      replace F1 := F1.drew
      have qE1 := E1.lt
      replace E1 := E1.drew
      replace S2 := S2.drew
      have qEX := EX.lt
      replace EX := EX.drew
      replace S22 := S22.drew
      have qEY := EY.lt
      replace EY := EY.drew
      have hr := Below.refl w21.drew.heap.size w21.drew
      have hkeep : ∀ V : World, Below w21.drew.heap.size w21.drew V → V.cell? ⟨w9.heap.size, 0, none⟩ = some (.bool g2) ∧ V.cell? ⟨w9.heap.size, 1, none⟩ = some (.slice a2 z2.length c2) ∧ V.cell? ⟨w19.heap.size, 0, none⟩ = some (.bool g22) ∧ V.cell? ⟨w19.heap.size, 1, none⟩ = some (.slice a22 z22.length c22) := fun V hV => ⟨(EX.below hV).two.1, (EX.below hV).two.2.1, (EY.below hV).two.1, (EY.below hV).two.2.1⟩
      refine wp_region_held_drew (S := fun V : World => V.cell? ⟨w9.heap.size, 0, none⟩ = some (.bool g2) ∧ V.cell? ⟨w9.heap.size, 1, none⟩ = some (.slice a2 z2.length c2) ∧ V.cell? ⟨w19.heap.size, 0, none⟩ = some (.bool g22) ∧ V.cell? ⟨w19.heap.size, 1, none⟩ = some (.slice a22 z22.length c22)) (by kernel_rfl) (hkeep _ hr) (fun hHeld => ?_)
      skip
      refine wpAnyH_take (i := 0) (v := ?_) rfl (by kernel_rfl) (by kernel_rfl) (by kernel_rfl) (fun _ _ _ h => h) (Or.inl ⟨by rfl, ?_⟩) (by assumption) ?_
      rotate_left
      · intro w hSw
        try dsimp only at hSw
        go_simp
        try with_reducible rfl
      simp only [Act.put, lz7, lz8, lz9, lz1, lz2]
      refine wpAnyH_take (i := 1) (v := ?_) rfl (by kernel_rfl) (by kernel_rfl) (by kernel_rfl) (fun _ _ _ h => h) (Or.inl ⟨by rfl, ?_⟩) (by assumption) ?_
      rotate_left
      · intro w hSw
        try dsimp only at hSw
        go_simp
        try with_reducible rfl
      simp only [Act.put, lz7, lz8, lz9, lz1, lz2, lz3]
      refine wpAnyH_take (i := 2) (v := ?_) rfl (by kernel_rfl) (by kernel_rfl) (by kernel_rfl) (fun _ _ _ h => h) (Or.inl ⟨by rfl, ?_⟩) (by assumption) ?_
      rotate_left
      · intro w hSw
        try dsimp only at hSw
        go_simp
        try with_reducible rfl
      simp only [Act.put, lz7, lz8, lz9, lz1, lz2, lz3]
      refine wpAnyH_take (i := 3) (v := ?_) rfl (by kernel_rfl) (by kernel_rfl) (by kernel_rfl) (fun _ _ _ h => h) (Or.inl ⟨by rfl, ?_⟩) (by assumption) ?_
      rotate_left
      · intro w hSw
        try dsimp only at hSw
        go_simp
        try with_reducible rfl
      simp only [Act.put, lz7, lz8, lz9, lz1, lz2, lz3]
      refine wpAnyH_take (i := 4) (v := ?_) rfl (by kernel_rfl) (by kernel_rfl) (by kernel_rfl) (fun _ _ _ h => h) (Or.inl ⟨by rfl, ?_⟩) (by assumption) ?_
      rotate_left
      · intro w hSw
        try dsimp only at hSw
        go_simp
        try with_reducible rfl
      simp only [Act.put, lz7, lz8, lz9, lz1, lz2, lz3]
      refine wpAnyH_take (i := 5) (v := ?_) rfl (by kernel_rfl) (by kernel_rfl) (by kernel_rfl) (fun _ _ _ h => h) (Or.inl ⟨by rfl, ?_⟩) (by assumption) ?_
      rotate_left
      · intro w hSw
        try dsimp only at hSw
        go_simp
        try with_reducible rfl
      simp only [Act.put, lz7, lz8, lz9, lz1, lz2, lz3]
      refine wpAnyH_take (i := 6) (v := ?_) rfl (by kernel_rfl) (by kernel_rfl) (by kernel_rfl) (fun _ _ _ h => h) (Or.inl ⟨by rfl, ?_⟩) (by assumption) ?_
      rotate_left
      · intro w hSw
        try dsimp only at hSw
        go_simp
        try with_reducible rfl
      simp only [Act.put, lz7, lz8, lz9, lz1, lz2, lz3]
      refine wpAnyH_take (i := 7) (v := ?_) rfl (by kernel_rfl) (by kernel_rfl) (by kernel_rfl) (fun _ _ _ h => h) (Or.inl ⟨by rfl, ?_⟩) (by assumption) ?_
      rotate_left
      · intro w hSw
        try dsimp only at hSw
        go_simp
        try with_reducible rfl
      simp only [Act.put, lz7, lz8, lz9, lz1, lz2, lz3]
      refine wpAnyH_take (i := 8) (v := ?_) rfl (by kernel_rfl) (by kernel_rfl) (by kernel_rfl) (fun _ _ _ h => h) (Or.inl ⟨by rfl, ?_⟩) (by assumption) ?_
      rotate_left
      · intro w hSw
        try dsimp only at hSw
        go_simp
        try with_reducible rfl
      simp only [Act.put, lz7, lz8, lz9, lz1, lz2, lz3]
      refine wpAnyH_take (i := 9) (v := ?_) rfl (by kernel_rfl) (by kernel_rfl) (by kernel_rfl) (fun _ _ _ h => h) (Or.inl ⟨by rfl, ?_⟩) (by assumption) ?_
      rotate_left
      · intro w hSw
        try dsimp only at hSw
        go_simp
        try with_reducible rfl
      simp only [Act.put, lz7, lz8, lz9, lz1, lz2, lz3]
      refine wpAnyH_take (i := 10) (v := ?_) rfl (by kernel_rfl) (by kernel_rfl) (by kernel_rfl) (fun _ _ _ h => h) (Or.inl ⟨by rfl, ?_⟩) (by assumption) ?_
      rotate_left
      · intro w hSw
        try dsimp only at hSw
        go_simp
        try with_reducible rfl
      simp only [Act.put, lz7, lz8, lz9, lz1, lz2, lz3]
      refine wpAnyH_take (i := 11) (v := ?_) rfl (by kernel_rfl) (by kernel_rfl) (by kernel_rfl) (fun _ _ _ h => h) (Or.inl ⟨by rfl, ?_⟩) (by assumption) ?_
      rotate_left
      · intro w hSw
        try dsimp only at hSw
        go_simp
        try with_reducible rfl
      simp only [Act.put, lz7, lz8, lz9, lz1, lz2, lz3]
      refine wpAnyH_take (i := 12) (v := ?_) rfl (by kernel_rfl) (by kernel_rfl) (by kernel_rfl) (fun _ _ _ h => h) (Or.inl ⟨by rfl, ?_⟩) (by assumption) ?_
      rotate_left
      · intro w hSw
        try dsimp only at hSw
        go_simp
        try with_reducible rfl
      simp only [Act.put, lz7, lz8, lz9, lz1, lz2, lz3]
      refine wpAnyH_take (i := 13) (v := ?_) rfl (by kernel_rfl) (by kernel_rfl) (by kernel_rfl) (fun _ _ _ h => h) (Or.inl ⟨by rfl, ?_⟩) (by assumption) ?_
      rotate_left
      · intro w hSw
        try dsimp only at hSw
        go_simp
        try with_reducible rfl
      simp only [Act.put, lz7, lz8, lz9, lz1, lz2, lz3]
      refine wpAnyH_take (i := 14) (v := ?_) rfl (by kernel_rfl) (by kernel_rfl) (by kernel_rfl) (fun _ _ _ h => h) (Or.inl ⟨by rfl, ?_⟩) (by assumption) ?_
      rotate_left
      · intro w hSw
        try dsimp only at hSw
        go_simp
        try with_reducible rfl
      simp only [Act.put, lz7, lz8, lz9, lz1, lz2, lz3]
      refine wpAnyH_take (i := 15) (v := ?_) rfl (by kernel_rfl) (by kernel_rfl) (by kernel_rfl) (fun _ _ _ h => h) (Or.inl ⟨by rfl, ?_⟩) (by assumption) ?_
      rotate_left
      · intro w hSw
        try dsimp only at hSw
        go_simp
        try with_reducible rfl
      simp only [Act.put, lz7, lz8, lz9, lz1, lz2, lz3]
      refine wpAnyH_take (i := 16) (v := ?_) rfl (by kernel_rfl) (by kernel_rfl) (by kernel_rfl) (fun _ _ _ h => h) (Or.inl ⟨by rfl, ?_⟩) (by assumption) ?_
      rotate_left
      · intro w hSw
        try dsimp only at hSw
        go_simp
        try with_reducible rfl
      simp only [Act.put, lz7, lz8, lz9, lz1, lz2, lz3]
      refine wpAnyH_take (i := 17) (v := ?_) rfl (by kernel_rfl) (by kernel_rfl) (by kernel_rfl) (fun _ _ _ h => h) (Or.inl ⟨by rfl, ?_⟩) (by assumption) ?_
      rotate_left
      · intro w hSw
        try dsimp only at hSw
        go_simp
        try with_reducible rfl
      simp only [Act.put, lz7, lz8, lz9, lz1, lz2, lz3]
      refine wpAnyH_take (i := 18) (v := ?_) rfl (by kernel_rfl) (by kernel_rfl) (by kernel_rfl) (fun _ _ _ h => h) (Or.inl ⟨by rfl, ?_⟩) (by assumption) ?_
      rotate_left
      · intro w hSw
        try dsimp only at hSw
        go_simp
        try with_reducible rfl
      simp only [Act.put, lz7, lz8, lz9, lz1, lz2, lz3]
      refine wpAnyH_take (i := 19) (v := ?_) rfl (by kernel_rfl) (by kernel_rfl) (by kernel_rfl) (fun _ _ _ h => h) (Or.inl ⟨by rfl, ?_⟩) (by assumption) ?_
      rotate_left
      · intro w hSw
        try dsimp only at hSw
        go_simp
        try with_reducible rfl
      simp only [Act.put, lz7, lz8, lz9, lz1, lz2, lz3]
      refine wpAnyH_take (i := 20) (v := ?_) rfl (by kernel_rfl) (by kernel_rfl) (by kernel_rfl) (fun _ _ _ h => h) (Or.inl ⟨by rfl, ?_⟩) (by assumption) ?_
      rotate_left
      · intro w hSw
        try dsimp only at hSw
        go_simp
        try with_reducible rfl
      simp only [Act.put, lz7, lz8, lz9, lz1, lz2, lz3]
      refine wpAnyH_take (i := 21) (v := ?_) rfl (by kernel_rfl) (by kernel_rfl) (by kernel_rfl) (fun _ _ _ h => h) (Or.inl ⟨by rfl, ?_⟩) (by assumption) ?_
      rotate_left
      · intro w hSw
        try dsimp only at hSw
        go_simp
        try with_reducible rfl
      simp only [Act.put, lz7, lz8, lz9, lz1, lz2, lz3]
      refine wpAnyH_take (i := 22) (v := ?_) rfl (by kernel_rfl) (by kernel_rfl) (by kernel_rfl) (fun _ _ _ h => h) (Or.inl ⟨by rfl, ?_⟩) (by assumption) ?_
      rotate_left
      · intro w hSw
        try dsimp only at hSw
        go_simp
        try with_reducible rfl
      simp only [Act.put, lz7, lz8, lz9, lz1, lz2, lz3]
      refine wpAnyH_take (i := 23) (v := ?_) rfl (by kernel_rfl) (by kernel_rfl) (by kernel_rfl) (fun _ _ _ h => h) (Or.inl ⟨by rfl, ?_⟩) (by assumption) ?_
      rotate_left
      · intro w hSw
        try dsimp only at hSw
        go_simp
        try with_reducible rfl
      simp only [Act.put, lz7, lz8, lz9, lz1, lz2, lz3]
      refine wpAnyH_take (i := 24) (v := ?_) rfl (by kernel_rfl) (by kernel_rfl) (by kernel_rfl) (fun _ _ _ h => h) (Or.inl ⟨by rfl, ?_⟩) (by assumption) ?_
      rotate_left
      · intro w hSw
        try dsimp only at hSw
        go_simp
        try with_reducible rfl
      simp only [Act.put, lz7, lz8, lz9, lz1, lz2, lz3]
      refine wpAnyH_take (i := 25) (v := ?_) rfl (by kernel_rfl) (by kernel_rfl) (by kernel_rfl) (fun _ _ _ h => h) (Or.inl ⟨by rfl, ?_⟩) (by assumption) ?_
      rotate_left
      · intro w hSw
        try dsimp only at hSw
        go_simp
        try with_reducible rfl
      simp only [Act.put, lz7, lz8, lz9, lz1, lz2, lz3]
      refine wpAnyH_take (i := 26) (v := undef) rfl (by kernel_rfl) (by kernel_rfl) (by kernel_rfl) (fun _ _ _ h => h) (Or.inr ⟨by rfl, rfl⟩) (by assumption) ?_
      simp only [Act.put, lz7, lz8, lz9, lz1, lz2, lz3]
      refine wpAnyH_take (i := 27) (v := undef) rfl (by kernel_rfl) (by kernel_rfl) (by kernel_rfl) (fun _ _ _ h => h) (Or.inr ⟨by rfl, rfl⟩) (by assumption) ?_
      simp only [Act.put, lz7, lz8, lz9, lz1, lz2, lz3]
      refine wpAnyH_take (i := 28) (v := ?_) rfl (by kernel_rfl) (by kernel_rfl) (by kernel_rfl) (fun _ _ _ h => h) (Or.inl ⟨by rfl, ?_⟩) (by assumption) ?_
      rotate_left
      · intro w hSw
        try dsimp only at hSw
        go_simp
        try with_reducible rfl
      simp only [Act.put, lz7, lz8, lz9, lz1, lz2, lz3]
      refine wpAnyH_take (i := 29) (v := ?_) rfl (by kernel_rfl) (by kernel_rfl) (by kernel_rfl) (fun _ _ _ h => h) (Or.inl ⟨by rfl, ?_⟩) (by assumption) ?_
      rotate_left
      · intro w hSw
        try dsimp only at hSw
        go_simp
        try with_reducible rfl
      simp only [Act.put, lz7, lz8, lz9, lz1, lz2, lz3]
      refine wpAnyH_take (i := 30) (v := ?_) rfl (by kernel_rfl) (by kernel_rfl) (by kernel_rfl) (fun _ _ _ h => h) (Or.inl ⟨by rfl, ?_⟩) (by assumption) ?_
      rotate_left
      · intro w hSw
        try dsimp only at hSw
        go_simp
        try with_reducible rfl
      simp only [Act.put, lz7, lz8, lz9, lz1, lz2, lz3]
      refine wpAnyH_take (i := 31) (v := ?_) rfl (by kernel_rfl) (by kernel_rfl) (by kernel_rfl) (fun _ _ _ h => h) (Or.inl ⟨by rfl, ?_⟩) (by assumption) ?_
      rotate_left
      · intro w hSw
        try dsimp only at hSw
        go_simp
        try with_reducible rfl
      simp only [Act.put, lz7, lz8, lz9, lz1, lz2, lz3]
      refine wpAnyH_take (i := 32) (v := ?_) rfl (by kernel_rfl) (by kernel_rfl) (by kernel_rfl) (fun _ _ _ h => h) (Or.inl ⟨by rfl, ?_⟩) (by assumption) ?_
      rotate_left
      · intro w hSw
        try dsimp only at hSw
        go_simp
        try with_reducible rfl
      simp only [Act.put, lz7, lz8, lz9, lz1, lz2, lz3]
      refine wpAnyH_ready (rs := [33]) (by kernel_rfl) (by simp) ?_
      refine AllReadyH.cons rfl (fun K hK => ?_) AllReadyH.nil
      go_simp
      go_at_call 14
      refine (sneg_any g2 S2 (by omega)).mono ?_
      rintro e w22 ⟨g23, a23, c23, z23, rfl, S23, N23, v23, l23, hb⟩
      have V23 : Hid (sgn g23 (val z23) = -sgn g1 R) := by rw [Hid, v23, V2.out, hR.out]
      have b23 : z23.length ≤ 7 := by omega
      clear v23 l23
      replace F1 := F1.below hb
      replace E1 := E1.below hb
      replace S2 := S2.below hb
      replace EX := EX.below hb
      replace S22 := S22.below hb
      replace EY := EY.below hb
      replace hr := hr.trans (hb.mono hr.size)
      have zw22 := hb.size
      clear hb
      dsimp only
      clear hHeld
      refine hK.out _ _ (hkeep _ hr) (fun hHeld => ?_)
      clear hK K
      try simp only [Act.put, List.setIfInBounds_toArray, List.set_cons_zero, List.set_cons_succ, List.getElem_toArray, List.getElem_cons_zero, List.getElem_cons_succ]
      refine wpAnyH_ready (rs := [34]) (by kernel_rfl) (by simp) ?_
      refine AllReadyH.cons rfl (fun K hK => ?_) AllReadyH.nil
      go_simp
      go_at_call 16
      refine (samew_can g22 g23 S22 S23 N22 N23 (by rw [VY.out, V23.out]) (by omega)).mono ?_
      rintro e w23 ⟨rfl, hb⟩
      replace F1 := F1.below hb
      replace E1 := E1.below hb
      replace S2 := S2.below hb
      replace EX := EX.below hb
      replace S22 := S22.below hb
      replace EY := EY.below hb
      replace S23 := S23.below hb
      replace hr := hr.trans (hb.mono hr.size)
      have zw23 := hb.size
      clear hb
      dsimp only
      clear hHeld
      refine hK.out _ _ (hkeep _ hr) (fun hHeld => ?_)
      clear hK K
      try simp only [Act.put, List.setIfInBounds_toArray, List.set_cons_zero, List.set_cons_succ, List.getElem_toArray, List.getElem_cons_zero, List.getElem_cons_succ]
      refine wpAnyH_take (i := 35) (v := ?_) rfl (by kernel_rfl) (by kernel_rfl) (by kernel_rfl) (fun _ _ _ h => h) (Or.inl ⟨by rfl, ?_⟩) (by assumption) ?_
      rotate_left
      · intro w hSw
        try dsimp only at hSw
        go_simp
        try with_reducible rfl
      simp only [Act.put, lz7, lz8, lz9, lz1, lz2, lz3]
      refine wpAnyH_take (i := 36) (v := ?_) rfl (by kernel_rfl) (by kernel_rfl) (by kernel_rfl) (fun _ _ _ h => h) (Or.inl ⟨by rfl, ?_⟩) (by assumption) ?_
      rotate_left
      · intro w hSw
        try dsimp only at hSw
        go_simp
        try with_reducible rfl
      simp only [Act.put, lz7, lz8, lz9, lz1, lz2, lz3]
      refine wpAnyH_done (by kernel_rfl) ?_ _
      clear hHeld
      replace hB := hB.trans ((Below.trans (Below.drew (Below.refl w21.heap.size w21)) hr).mono hB.size)
      have zi_23 := hB.size
      clear hr hkeep
      clear S23 S22 S2 EX EY
      by_cases hx1 : x1 = []
      · skip
        have hz : ((x1.length : Int) == 0) = true := by rw [hx1]; rfl
        obtain ⟨k0, k1, k2, f0, f1, f2⟩ := E1.three
        go_wp2
        go_ret
        exact ⟨rfl, hB⟩
      · skip
        have hz : ((x1.length : Int) == 0) = false := beq_eq_false_iff_ne.2 (by have := List.length_pos_iff.2 hx1; omega)
        have HX := hide hx1
        have hq0 : Hid (q1 ≠ 0) := fun h => HX.out ((I1.zero_iff F1.up.words).1 h)
        clear hx1
        obtain ⟨k0, k1, k2, f0, f1, f2⟩ := E1.three
        go_wp2_with fail
        clear k0 k1 k2 f0 f1 f2
        refine (ppower_int g1 F1 I1 (by omega) HX ((pm : Int) - 6) (by omega)).mono ?_
        rintro e w24 ⟨g24, a24, c24, x24, e24, t24, y24, rfl, F24, P24, I24, hb⟩
        replace I24 : Is g24 x24 y24 (QA ((pm : Int) - 6)) (31) := (I24.mono (by omega)).to (hQA _)
        replace F1 := F1.below hb
        replace E1 := E1.below hb
        replace hB := hB.trans (hb.mono hB.size)
        have zz24 := hb.size
        have zh24 := hB.size
        clear hb
        obtain ⟨k0, k1, k2, f0, f1, f2⟩ := E1.three
        have qE1 := E1.lt
        have hs0 := Nat.le_refl w24.heap.size
        have hq := below_new w24 (.cells #[.bool g24, .slice a24 x24.length c24, .slice e24 y24.length t24] 27)
        replace F1 := F1.below hq
        replace E1 := E1.below hq
        replace F24 := F24.below hq
        have E24 := Box.put (w := w24) (k := (w24.heap.size)) (.cells #[.bool g24, .slice a24 x24.length c24, .slice e24 y24.length t24] 27) rfl
        replace hs0 := Nat.le_trans hs0 hq.size
        replace hB := hB.trans (hq.mono hB.size)
        clear hq
        go_wp2_with fail
        clear k0 k1 k2 f0 f1 f2
        obtain ⟨u25, hname⟩ := nm hB
        rw [hname] at hs0 hB F1 E1 F24 E24 ⊢
        have zh25 := hB.size
        have zs25 := hs0
        clear hname hs0
        refine (ppower_int g1 F1 I1 (by omega) HX ((pn : Int) - 6) (by omega)).mono ?_
        rintro e w26 ⟨g25, a25, c25, x25, e25, t25, y25, rfl, F25, P25, I25, hb⟩
        replace I25 : Is g25 x25 y25 (QA ((pn : Int) - 6)) (31) := (I25.mono (by omega)).to (hQA _)
        replace F1 := F1.below hb
        replace E1 := E1.below hb
        replace F24 := F24.below hb
        replace E24 := E24.below hb
        replace hB := hB.trans (hb.mono hB.size)
        have zz26 := hb.size
        have zh26 := hB.size
        clear hb
        obtain ⟨k0, k1, k2, f0, f1, f2⟩ := E1.three
        have qE1 := E1.lt
        have qE24 := E24.lt
        have hs0 := Nat.le_refl w26.heap.size
        have hq := below_new w26 (.cells #[.bool g25, .slice a25 x25.length c25, .slice e25 y25.length t25] 27)
        replace F1 := F1.below hq
        replace E1 := E1.below hq
        replace F24 := F24.below hq
        replace E24 := E24.below hq
        replace F25 := F25.below hq
        have E25 := Box.put (w := w26) (k := (w26.heap.size)) (.cells #[.bool g25, .slice a25 x25.length c25, .slice e25 y25.length t25] 27) rfl
        replace hs0 := Nat.le_trans hs0 hq.size
        replace hB := hB.trans (hq.mono hB.size)
        clear hq
        go_wp2_with fail
        clear k0 k1 k2 f0 f1 f2
        obtain ⟨u27, hname⟩ := nm hB
        rw [hname] at hs0 hB F1 E1 F24 E24 F25 E25 ⊢
        have zh27 := hB.size
        have zs27 := hs0
        clear hname hs0
        refine (ppower_int g1 F1 I1 (by omega) HX ((pm : Int) - 6 + ((pn : Int) - 6)) (by omega)).mono ?_
        rintro e w28 ⟨g26, a26, c26, x26, e26, t26, y26, rfl, F26, P26, I26, hb⟩
        replace I26 : Is g26 x26 y26 (QA ((pm : Int) - 6 + ((pn : Int) - 6))) (61) := (I26.mono (by omega)).to (hQA _)
        replace F1 := F1.below hb
        replace E1 := E1.below hb
        replace F24 := F24.below hb
        replace E24 := E24.below hb
        replace F25 := F25.below hb
        replace E25 := E25.below hb
        replace hB := hB.trans (hb.mono hB.size)
        have zz28 := hb.size
        have zh28 := hB.size
        clear hb
        obtain ⟨k0, k1, k2, f0, f1, f2⟩ := E24.three
        obtain ⟨k3, k4, k5, f3, f4, f5⟩ := E25.three
        have qE1 := E1.lt
        have qE24 := E24.lt
        have qE25 := E25.lt
        have hs0 := Nat.le_refl w28.heap.size
        have hq := below_new w28 (.cells #[.bool g26, .slice a26 x26.length c26, .slice e26 y26.length t26] 27)
        replace F1 := F1.below hq
        replace E1 := E1.below hq
        replace F24 := F24.below hq
        replace E24 := E24.below hq
        replace F25 := F25.below hq
        replace E25 := E25.below hq
        replace F26 := F26.below hq
        have E26 := Box.put (w := w28) (k := (w28.heap.size)) (.cells #[.bool g26, .slice a26 x26.length c26, .slice e26 y26.length t26] 27) rfl
        replace hs0 := Nat.le_trans hs0 hq.size
        replace hB := hB.trans (hq.mono hB.size)
        clear hq
        have hq := below_new (w28.alloc (.cells #[.bool g26, .slice a26 x26.length c26, .slice e26 y26.length t26] 27)) (.cells #[.bool g24, .slice a24 x24.length c24, .slice e24 y24.length t24, .bool g25, .slice a25 x25.length c25, .slice e25 y25.length t25] 27)
        replace F1 := F1.below hq
        replace E1 := E1.below hq
        replace F24 := F24.below hq
        replace E24 := E24.below hq
        replace F25 := F25.below hq
        replace E25 := E25.below hq
        replace F26 := F26.below hq
        replace E26 := E26.below hq
        have L27 := Box.put (w := (w28.alloc (.cells #[.bool g26, .slice a26 x26.length c26, .slice e26 y26.length t26] 27))) (k := (w28.heap.size + 1)) (.cells #[.bool g24, .slice a24 x24.length c24, .slice e24 y24.length t24, .bool g25, .slice a25 x25.length c25, .slice e25 y25.length t25] 27) (by simp)
        replace hs0 := Nat.le_trans hs0 hq.size
        replace hB := hB.trans (hq.mono hB.size)
        clear hq
        go_wp2_with fail
        clear k0 k1 k2 f0 f1 f2 k3 k4 k5 f3 f4 f5
        obtain ⟨u29, hname⟩ := nm hB
        rw [hname] at hs0 hB F1 E1 F24 E24 F25 E25 F26 E26 L27 ⊢
        have zh29 := hB.size
        have zs29 := hs0
        clear hname hs0
        have R := row_box (rs := [⟨g24, a24, c24, x24, e24, t24, y24⟩, ⟨g25, a25, c25, x25, e25, t25, y25⟩]) (k := w28.heap.size + 1) L27 (fun r hr => by
            simp only [List.mem_cons, List.not_mem_nil, or_false] at hr
            rcases hr with rfl | rfl
            · exact F24.mono (Nat.zero_le _)
            · exact F25.mono (Nat.zero_le _))
        have hlen : ∀ r ∈ ([⟨g24, a24, c24, x24, e24, t24, y24⟩, ⟨g25, a25, c25, x25, e25, t25, y25⟩] : List RV), r.xs.length ≤ 31 ∧ r.ds.length ≤ 31 := fun r hr => by
            simp only [List.mem_cons, List.not_mem_nil, or_false] at hr
            rcases hr with rfl | rfl
            · exact ⟨Nat.le_trans I24.lu (by decide), Nat.le_trans I24.ld (by decide)⟩
            · exact ⟨Nat.le_trans I25.lu (by decide), Nat.le_trans I25.ld (by decide)⟩
        have hg : ∀ r ∈ ([⟨g24, a24, c24, x24, e24, t24, y24⟩, ⟨g25, a25, c25, x25, e25, t25, y25⟩] : List RV), formR r.b r.xs r.ds = 0 := fun r hr => by
            simp only [List.mem_cons, List.not_mem_nil, or_false] at hr
            rcases hr with rfl | rfl
            · exact I24.good F24.up.words F24.down.words
            · exact I25.good F25.up.words F25.down.words
        refine (pmul_ok (cap := 2) R (by simp) hlen (by omega) hg).mono ?_
        rintro e w30 ⟨g28, a28, c28, x28, e28, t28, y28, rfl, F28, P28, I28, hb⟩
        replace I28 : Is g28 x28 y28 (QA ((pm : Int) - 6 + ((pn : Int) - 6))) (65) := (I28.mono (by simp)).to (by simp only [mulQ, RV.q, List.foldl, I24.rat, I25.rat]; rw [Rat.one_mul, ← hQA, ← hQA, ← hQA, Rat.zpow_add hq0.out])
        replace F1 := F1.below hb
        replace E1 := E1.below hb
        replace F24 := F24.below hb
        replace E24 := E24.below hb
        replace F25 := F25.below hb
        replace E25 := E25.below hb
        replace F26 := F26.below hb
        replace E26 := E26.below hb
        replace L27 := L27.below hb
        replace hB := hB.trans (hb.mono hB.size)
        have zz30 := hb.size
        have zh30 := hB.size
        clear hb
        clear R hlen hg
        clear L27
        obtain ⟨k0, k1, k2, f0, f1, f2⟩ := E26.three
        have qE1 := E1.lt
        have qE24 := E24.lt
        have qE25 := E25.lt
        have qE26 := E26.lt
        have hs0 := Nat.le_refl w30.heap.size
        have hq := below_new w30 (.cells #[.bool g28, .slice a28 x28.length c28, .slice e28 y28.length t28] 27)
        replace F1 := F1.below hq
        replace E1 := E1.below hq
        replace F24 := F24.below hq
        replace E24 := E24.below hq
        replace F25 := F25.below hq
        replace E25 := E25.below hq
        replace F26 := F26.below hq
        replace E26 := E26.below hq
        replace F28 := F28.below hq
        have E28 := Box.put (w := w30) (k := (w30.heap.size)) (.cells #[.bool g28, .slice a28 x28.length c28, .slice e28 y28.length t28] 27) rfl
        replace hs0 := Nat.le_trans hs0 hq.size
        replace hB := hB.trans (hq.mono hB.size)
        clear hq
        go_wp2_with fail
        clear k0 k1 k2 f0 f1 f2
        obtain ⟨u31, hname⟩ := nm hB
        rw [hname] at hs0 hB F1 E1 F24 E24 F25 E25 F26 E26 F28 E28 ⊢
        have zh31 := hB.size
        have zs31 := hs0
        clear hname hs0
        refine (lrsame_yes g28 g26 F28 F26 I28 I26 (by omega)).mono ?_
        rintro e w32 ⟨rfl, hb⟩
        replace F1 := F1.below hb
        replace E1 := E1.below hb
        replace F24 := F24.below hb
        replace E24 := E24.below hb
        replace F25 := F25.below hb
        replace E25 := E25.below hb
        replace F26 := F26.below hb
        replace E26 := E26.below hb
        replace F28 := F28.below hb
        replace E28 := E28.below hb
        replace hB := hB.trans (hb.mono hB.size)
        have zz32 := hb.size
        have zh32 := hB.size
        clear hb
        go_wp2
        go_ret
        exact ⟨rfl, hB⟩
set_option maxRecDepth 100000 in
set_option maxHeartbeats 4000000 in
theorem lrrounds_half {a1 e1 : Option Addr} {c1 t1 : Nat} {x1 y1 : List Int} {w : World} (g1 : Bool) (F1 : Fr 0 w a1 c1 x1 e1 t1 y1) (m : Int) (hm : -9223372036854775808 ≤ m ∧ m ≤ 9223372036854775807) (n : Int) (hn : -9223372036854775808 ≤ n ∧ n ≤ 9223372036854775807) (hl1 : x1.length ≤ 5 ∧ y1.length ≤ 5) {q1 : Rat} (I1 : Is g1 x1 y1 q1 5) (hcv : cmpR (absR (q1 - Rat.divInt (sgn g1 (roundN (val x1) (val y1))) 1)) (Rat.divInt 1 2) = 0) (hev : roundN (val x1) (val y1) % 2 = 0) :
    Calls Tryz.prog 3 #[.agg #[.bool g1, .slice a1 x1.length c1, .slice e1 y1.length t1], .int .i64 m, .int .i64 n] w fun e w' => e = .returned (.bool true) ∧ Below w.heap.size w w' := by
  have hlen0 : Hid (∀ r ∈ ([⟨g1, a1, c1, x1, e1, t1, y1⟩] : List RV), r.xs.length ≤ 1000 ∧ r.ds.length ≤ 1000) := fun r hr => by
    simp only [List.mem_cons, List.not_mem_nil, or_false] at hr
    subst hr
    constructor <;> simp <;> omega
  have HL := long_no [⟨g1, a1, c1, x1, e1, t1, y1⟩] (by simp) (fun r hr => by
    simp only [List.mem_cons, List.not_mem_nil, or_false] at hr
    subst hr
    exact hl1)
  have HG := good_yes [⟨g1, a1, c1, x1, e1, t1, y1⟩] (fun r hr => by
    simp only [List.mem_cons, List.not_mem_nil, or_false] at hr
    subst hr
    exact I1.good F1.up.words F1.down.words)
  clear hl1
  obtain ⟨R, hR'⟩ : ∃ R, roundN (val x1) (val y1) = R := ⟨_, rfl⟩
  have hR := hide hR'
  rw [hR'] at hcv hev
  have hR0 : 0 ≤ R := by rw [← hR']; exact roundN_nonneg (val_nonneg F1.up.words) I1.low.2.2.1
  clear hR'
  obtain ⟨X1, hX1⟩ : ∃ X, Rat.divInt (sgn g1 R) 1 = X := ⟨_, rfl⟩
  obtain ⟨H2, hH2⟩ : ∃ X, Rat.divInt 1 2 = X := ⟨_, rfl⟩
  rw [hX1, hH2] at hcv
  have HC : Hid (cmpR (absR (q1 - X1)) H2 = 0) := hcv
  have HH : Hid (Rat.divInt 1 2 = H2) := hH2
  have HX1 : Hid (Rat.divInt (sgn g1 (roundN (val x1) (val y1))) (val [1]) = X1) := by rw [Hid, hR.out]; exact hX1
  obtain ⟨ev, hev'⟩ : ∃ ev, decide (R % 2 = 0) = ev := ⟨_, rfl⟩
  have HE := hide hev'
  obtain rfl : ev = true := by rw [← hev']; exact decide_eq_true hev
  clear hev
  obtain ⟨QA, hQA⟩ : ∃ F : Int → Rat, ∀ k, q1 ^ k = F k := ⟨_, fun _ => rfl⟩
  clear hcv hH2 hX1 hev'
  have hB := Below.refl w.heap.size w
  go_enter Tryz.func3, Tryz.ntmps3
  have hs0 := Nat.le_refl w.heap.size
  have hq := below_new w (.cells #[.bool g1, .slice a1 x1.length c1, .slice e1 y1.length t1] 27)
  replace F1 := F1.below hq
  have E1 := Box.put (w := w) (k := (w.heap.size)) (.cells #[.bool g1, .slice a1 x1.length c1, .slice e1 y1.length t1] 27) rfl
  replace hs0 := Nat.le_trans hs0 hq.size
  replace hB := hB.trans (hq.mono hB.size)
  clear hq
  go_wp2_with fail
  obtain ⟨u1, hname⟩ := nm hB
  rw [hname] at hs0 hB F1 E1 ⊢
  have zh1 := hB.size
  have zs1 := hs0
  clear hname hs0
  refine (lrawake_any _).mono ?_
  rintro e w2 ⟨rfl, hb⟩
  replace F1 := F1.below hb
  replace E1 := E1.below hb
  replace hB := hB.trans (hb.mono hB.size)
  have zz2 := hb.size
  have zh2 := hB.size
  clear hb
  obtain ⟨k0, k1, k2, f0, f1, f2⟩ := E1.three
  have qE1 := E1.lt
  have hs0 := Nat.le_refl w2.heap.size
  have hq := below_new w2 (.cells #[.bool g1, .slice a1 x1.length c1, .slice e1 y1.length t1] 27)
  replace F1 := F1.below hq
  replace E1 := E1.below hq
  have L0 := Box.put (w := w2) (k := (w2.heap.size)) (.cells #[.bool g1, .slice a1 x1.length c1, .slice e1 y1.length t1] 27) rfl
  replace hs0 := Nat.le_trans hs0 hq.size
  replace hB := hB.trans (hq.mono hB.size)
  clear hq
  go_wp2_with fail
  clear k0 k1 k2 f0 f1 f2
  obtain ⟨u3, hname⟩ := nm hB
  rw [hname] at hs0 hB F1 E1 L0 ⊢
  have zh3 := hB.size
  have zs3 := hs0
  clear hname hs0
  have R := row_box (rs := [⟨g1, a1, c1, x1, e1, t1, y1⟩]) (k := w2.heap.size) L0 (fun r hr => by
      simp only [List.mem_cons, List.not_mem_nil, or_false] at hr
      rcases hr with rfl
      · exact F1.mono (Nat.zero_le _))
  refine (lrlong_any (cap := 1) R false HL).mono ?_
  rintro e w4 ⟨rfl, hb⟩
  replace F1 := F1.below hb
  replace E1 := E1.below hb
  replace L0 := L0.below hb
  replace hB := hB.trans (hb.mono hB.size)
  have zz4 := hb.size
  have zh4 := hB.size
  clear hb
  clear R
  clear L0
  obtain ⟨k0, k1, k2, f0, f1, f2⟩ := E1.three
  have qE1 := E1.lt
  have hs0 := Nat.le_refl w4.heap.size
  have hq := below_new w4 (.cells #[.bool g1, .slice a1 x1.length c1, .slice e1 y1.length t1] 27)
  replace F1 := F1.below hq
  replace E1 := E1.below hq
  have L0 := Box.put (w := w4) (k := (w4.heap.size)) (.cells #[.bool g1, .slice a1 x1.length c1, .slice e1 y1.length t1] 27) rfl
  replace hs0 := Nat.le_trans hs0 hq.size
  replace hB := hB.trans (hq.mono hB.size)
  clear hq
  go_wp2_with fail
  clear k0 k1 k2 f0 f1 f2
  obtain ⟨u5, hname⟩ := nm hB
  rw [hname] at hs0 hB F1 E1 L0 ⊢
  have zh5 := hB.size
  have zs5 := hs0
  clear hname hs0
  have R := row_box (rs := [⟨g1, a1, c1, x1, e1, t1, y1⟩]) (k := w4.heap.size) L0 (fun r hr => by
      simp only [List.mem_cons, List.not_mem_nil, or_false] at hr
      rcases hr with rfl
      · exact F1.mono (Nat.zero_le _))
  refine (lrgood_any (cap := 1) R (by simp) hlen0.out true HG).mono ?_
  rintro e w6 ⟨rfl, hb⟩
  replace F1 := F1.below hb
  replace E1 := E1.below hb
  replace L0 := L0.below hb
  replace hB := hB.trans (hb.mono hB.size)
  have zz6 := hb.size
  have zh6 := hB.size
  clear hb
  clear R
  clear L0
  go_wp2_with fail
  refine (pick13 m hm _).mono ?_
  rintro e w7 ⟨pm, hpm13, rfl, hb⟩
  have Wpm : IntKind.i64.wrap ((pm : Int) - 6) = (pm : Int) - 6 := by rw [IntKind.wrap_i64]; omega
  replace F1 := F1.below hb
  replace E1 := E1.below hb
  replace hB := hB.trans (hb.mono hB.size)
  have zz7 := hb.size
  have zh7 := hB.size
  clear hb
  go_wp2_with fail
  refine (pick13 n hn _).mono ?_
  rintro e w8 ⟨pn, hpn13, rfl, hb⟩
  have Wpn : IntKind.i64.wrap ((pn : Int) - 6) = (pn : Int) - 6 := by rw [IntKind.wrap_i64]; omega
  replace F1 := F1.below hb
  replace E1 := E1.below hb
  replace hB := hB.trans (hb.mono hB.size)
  have zz8 := hb.size
  have zh8 := hB.size
  clear hb
  have Wmn : IntKind.i64.wrap ((pm : Int) - 6 + ((pn : Int) - 6)) = (pm : Int) - 6 + ((pn : Int) - 6) := by rw [IntKind.wrap_i64]; omega
  obtain ⟨k0, k1, k2, f0, f1, f2⟩ := E1.three
  go_wp2_with fail
  clear k0 k1 k2 f0 f1 f2
  refine (pround_ok g1 F1 I1 (by omega)).mono ?_
  rintro e w9 ⟨g2, a2, c2, z2, rfl, S2, N2, V2, b2, hb⟩
  replace F1 := F1.below hb
  replace E1 := E1.below hb
  replace hB := hB.trans (hb.mono hB.size)
  have zz9 := hb.size
  have zh9 := hB.size
  clear hb
  have HR : Hid (val z2 = R) := sgn_abs hR0 (val_nonneg S2.words) (V2.out.trans (by rw [hR.out]))
  have qE1 := E1.lt
  have hs0 := Nat.le_refl w9.heap.size
  have hq := below_new w9 (.cells #[.bool g2, .slice a2 z2.length c2] 25)
  replace F1 := F1.below hq
  replace E1 := E1.below hq
  replace S2 := S2.below hq
  have EX := Box.put (w := w9) (k := (w9.heap.size)) (.cells #[.bool g2, .slice a2 z2.length c2] 25) rfl
  replace hs0 := Nat.le_trans hs0 hq.size
  replace hB := hB.trans (hq.mono hB.size)
  clear hq
  have hq := below_new (w9.alloc (.cells #[.bool g2, .slice a2 z2.length c2] 25)) (.cells #[.int .u64 1] 36)
  replace F1 := F1.below hq
  replace E1 := E1.below hq
  replace S2 := S2.below hq
  replace EX := EX.below hq
  have M1 := Box.put (w := (w9.alloc (.cells #[.bool g2, .slice a2 z2.length c2] 25))) (k := (w9.heap.size + 1)) (.cells #[.int .u64 1] 36) (by simp)
  replace hs0 := Nat.le_trans hs0 hq.size
  replace hB := hB.trans (hq.mono hB.size)
  clear hq
  go_wp2_with fail
  obtain ⟨u10, hname⟩ := nm hB
  rw [hname] at hs0 hB F1 E1 S2 EX M1 ⊢
  have zh10 := hB.size
  have zs10 := hs0
  clear hname hs0
  have s6 : Seg (w9.heap.size + 1) _ (.slice (some ⟨w9.heap.size + 1, 0, none⟩) [1].length 1) [1] := seg_box M1 [1] (words_of rfl) rfl
  refine (pmake_ok (lo := 0) (n := 7) g2 ⟨S2.mono (Nat.zero_le _), s6.mono (Nat.zero_le _)⟩ (by omega) (by simp) ⟨by omega, by simp⟩ N2 (by decide)).mono ?_
  rintro e w11 ⟨g3, a3, c3, x3, e3, t3, y3, rfl, F3, P3, I3, hb⟩
  replace I3 : Is g3 x3 y3 (X1) (7) := I3.to (by rw [V2.out]; exact HX1.out)
  replace F1 := F1.below hb
  replace E1 := E1.below hb
  replace S2 := S2.below hb
  replace EX := EX.below hb
  replace M1 := M1.below hb
  replace hB := hB.trans (hb.mono hB.size)
  have zz11 := hb.size
  have zh11 := hB.size
  clear hb
  clear s6
  clear M1
  obtain ⟨k0, k1, k2, f0, f1, f2⟩ := E1.three
  have qE1 := E1.lt
  have qEX := EX.lt
  have hs0 := Nat.le_refl w11.heap.size
  have hq := below_new w11 (.cells #[.bool g3, .slice a3 x3.length c3, .slice e3 y3.length t3] 27)
  replace F1 := F1.below hq
  replace E1 := E1.below hq
  replace S2 := S2.below hq
  replace EX := EX.below hq
  replace F3 := F3.below hq
  have E3 := Box.put (w := w11) (k := (w11.heap.size)) (.cells #[.bool g3, .slice a3 x3.length c3, .slice e3 y3.length t3] 27) rfl
  replace hs0 := Nat.le_trans hs0 hq.size
  replace hB := hB.trans (hq.mono hB.size)
  clear hq
  go_wp2_with fail
  clear k0 k1 k2 f0 f1 f2
  obtain ⟨u12, hname⟩ := nm hB
  rw [hname] at hs0 hB F1 E1 S2 EX F3 E3 ⊢
  have zh12 := hB.size
  have zs12 := hs0
  clear hname hs0
  refine (psub_ok g1 g3 F1 F3 ⟨I1.lu, I1.ld⟩ ⟨I3.lu, I3.ld⟩ (by omega) (by omega) (I1.good F1.up.words F1.down.words) (I3.good F3.up.words F3.down.words)).mono ?_
  rintro e w13 ⟨g4, a4, c4, x4, e4, t4, y4, rfl, F4, P4, I4, hb⟩
  replace I4 : Is g4 x4 y4 (q1 - X1) (13) := (I4.mono (by omega)).to (by rw [I1.rat, I3.rat]; skip)
  replace F1 := F1.below hb
  replace E1 := E1.below hb
  replace S2 := S2.below hb
  replace EX := EX.below hb
  replace F3 := F3.below hb
  replace E3 := E3.below hb
  replace hB := hB.trans (hb.mono hB.size)
  have zz13 := hb.size
  have zh13 := hB.size
  clear hb
  have ID := I4.abs F4.up.words
  have qE1 := E1.lt
  have qEX := EX.lt
  have qE3 := E3.lt
  have hs0 := Nat.le_refl w13.heap.size
  have hq := below_new w13 (.cells #[.bool false, .slice a4 x4.length c4, .slice e4 y4.length t4] 27)
  replace F1 := F1.below hq
  replace E1 := E1.below hq
  replace S2 := S2.below hq
  replace EX := EX.below hq
  replace F3 := F3.below hq
  replace E3 := E3.below hq
  replace F4 := F4.below hq
  have E4 := Box.put (w := w13) (k := (w13.heap.size)) (.cells #[.bool false, .slice a4 x4.length c4, .slice e4 y4.length t4] 27) rfl
  replace hs0 := Nat.le_trans hs0 hq.size
  replace hB := hB.trans (hq.mono hB.size)
  clear hq
  go_wp2_with fail
  obtain ⟨u14, hname⟩ := nm hB
  rw [hname] at hs0 hB F1 E1 S2 EX F3 E3 F4 E4 ⊢
  have zh14 := hB.size
  have zs14 := hs0
  clear hname hs0
  replace F1 := F1.drew
  have qE1 := E1.lt
  replace E1 := E1.drew
  replace S2 := S2.drew
  have qEX := EX.lt
  replace EX := EX.drew
  replace F3 := F3.drew
  have qE3 := E3.lt
  replace E3 := E3.drew
  replace F4 := F4.drew
  have qE4 := E4.lt
  replace E4 := E4.drew
  refine wp_yields 4 [.is (.agg #[.bool false, .slice a4 x4.length c4, .slice e4 y4.length t4]), (Yield.frac u14.heap.size (H2) (1)), (.is (.tuple #[.int .i64 0, .int .i64 0])), .is (.tuple #[.int .i64 0, .int .i64 0])] (by kernel_rfl) (by kernel_rfl) (lt_cons ?_ (lt_cons ?_ (lt_cons ?_ (lt_cons ?_ lt_nil)))) ?_
  case refine_1 =>
    refine OpDoes.mk rfl ?_
    intro vs V hV hd K hK
    have d2 : vs 2 = .tuple #[.int .i64 0, .int .i64 0] := hd 2 (by decide) (by kernel_rfl)
    simp only [laidIn, lz1, lz2, lz3, lz4, lz5, lz6, if_true, Act.put, lz7, lz8, lz9] at hK ⊢
    simp only [d2] at hK ⊢
    go_simp
    exact hK.out _ _ (Below.refl _ _) rfl (not_fresh rfl)
  case refine_2 =>
    refine OpDoes.mk rfl ?_
    intro vs V hV hd K hK
    have d0 : vs 0 = .agg #[.bool false, .slice a4 x4.length c4, .slice e4 y4.length t4] := hd 0 (by decide) (by kernel_rfl)
    have hh := fun (P : Prop) => Yield.frac_elim P (show ((Yield.frac u14.heap.size (H2) (1)) : Yield).At (vs 1) V from hd 1 (by decide) (by kernel_rfl))
    refine hh _ ?_
    intro g5 a5 c5 x5 e5 t5 y5 d1 F5 P5 I5
    clear hh
    simp only [laidIn, lz1, lz2, lz3, lz4, lz5, lz6, if_true, Act.put, lz7, lz8, lz9] at hK ⊢
    simp only [d0, d1] at hK ⊢
    go_simp
    go_at_call 11
    have hc := pcmp_ok false g5 (F4.below hV) F5 ID I5 (by omega)
    rw [HC.out] at hc
    refine (hc).mono ?_
    rintro e V' ⟨rfl, hb⟩
    exact hK.out _ _ hb rfl (not_fresh rfl)
  case refine_3 =>
    refine OpDoes.mk rfl ?_
    intro vs V hV hd K hK
    simp only [laidIn, lz1, lz2, lz3, lz4, lz5, lz6, if_true, Act.put, lz7, lz8, lz9] at hK ⊢
    go_simp
    go_at_call 12
    refine (lrof_half _).mono ?_
    rintro e V' ⟨g5, a5, c5, x5, e5, t5, y5, rfl, F5, P5, I5, hb⟩
    replace I5 : Is g5 x5 y5 (H2) (1) := I5.to HH.out
    exact hK.out _ _ hb ⟨_, _, _, _, _, _, _, rfl, F5.mono hV.size, P5, I5⟩ (not_fresh rfl)
  case refine_4 =>
    refine OpDoes.mk rfl ?_
    intro vs V hV hd K hK
    have hcc := (E4.below hV).three
    have k0 := hcc.1
    have k1 := hcc.2.1
    have k2 := hcc.2.2.1
    clear hcc
    simp only [laidIn, lz1, lz2, lz4, lz5, lz6, if_true, Act.put, lz7, lz8, lz9] at hK ⊢
    go_simp
    exact hK.out _ _ (Below.refl _ _) rfl (not_fresh rfl)
  case refine_5 =>
    intro vs Y1 hV hR hne fuel
    have d0 : vs 0 = .agg #[.bool false, .slice a4 x4.length c4, .slice e4 y4.length t4] := hR 0 (by decide)
    have hh := fun (P : Prop) => Yield.frac_elim P (show ((Yield.frac u14.heap.size (H2) (1)) : Yield).At (vs 1) Y1 from hR 1 (by decide))
    refine hh _ ?_
    intro g5 a5 c5 x5 e5 t5 y5 d1 F5 P5 I5
    clear hh
    have d2 : vs 2 = .tuple #[.int .i64 0, .int .i64 0] := hR 2 (by decide)
    have d3 : vs 3 = .tuple #[.int .i64 0, .int .i64 0] := hR 3 (by decide)
    replace F1 := F1.below hV
    replace E1 := E1.below hV
    replace S2 := S2.below hV
    replace EX := EX.below hV
    replace F3 := F3.below hV
    replace E3 := E3.below hV
    replace F4 := F4.below hV
    replace E4 := E4.below hV
    have hr := hV
    simp only [laidIn, lz4, lz5, lz6, if_true, Act.put, lz7, lz8, lz9]
    simp only [d0, d1, d2, d3]
    clear hR hne hV d0 d1 d2 d3
    clear vs
    show wpAny _ _ _ _ (fuel + 4) _ _ _
    apply mp_of
    case f =>
      intro hgoal
      refine wpAny_all (rs := [4, 5]) (by kernel_rfl) (by simp) (fun i hi => ?_)
      rcases (show i = 4 ∨ i = 5 by simpa using hi) with rfl | rfl
      · clear hi
        refine wpOp_step rfl (fun K hK => ?_)
        simp only [lz1, lz2, lz3]
        rw [if_pos (by rfl)]
        go_simp
        refine hK _ _ ?_
        clear hK
        refine wpAny_all (rs := [5, 6]) (by kernel_rfl) (by simp) (fun i hi => ?_)
        rcases (show i = 5 ∨ i = 6 by simpa using hi) with rfl | rfl
        · clear hi
          refine wpOp_step rfl (fun K hK => ?_)
          simp only [lz1, lz2, lz3]
          rw [if_pos (by rfl)]
          go_simp
          refine hK _ _ ?_
          clear hK
          refine wpAny_all (rs := [6]) (by kernel_rfl) (by simp) (fun i hi => ?_)
          obtain rfl : i = 6 := by simpa using hi
          clear hi
          refine wpOp_step rfl (fun K hK => ?_)
          simp only [lz1, lz2, lz3]
          rw [if_pos (by rfl)]
          go_simp
          refine hK _ _ ?_
          clear hK
          refine wpAny_all (rs := [7]) (by kernel_rfl) (by simp) (fun i hi => ?_)
          obtain rfl : i = 7 := by simpa using hi
          clear hi
          refine wpOp_step rfl (fun K hK => ?_)
          simp only [lz1, lz2, lz3]
          rw [if_pos (by rfl)]
          go_simp
          refine hK _ _ ?_
          clear hK
          refine wpAny_done (by kernel_rfl) ?_ _
          exact hgoal
        · clear hi
          refine wpOp_step rfl (fun K hK => ?_)
          simp only [lz1, lz2, lz3]
          rw [if_pos (by rfl)]
          go_simp
          refine hK _ _ ?_
          clear hK
          refine wpAny_all (rs := [5]) (by kernel_rfl) (by simp) (fun i hi => ?_)
          obtain rfl : i = 5 := by simpa using hi
          clear hi
          refine wpOp_step rfl (fun K hK => ?_)
          simp only [lz1, lz2, lz3]
          rw [if_pos (by rfl)]
          go_simp
          refine hK _ _ ?_
          clear hK
          refine wpAny_all (rs := [7]) (by kernel_rfl) (by simp) (fun i hi => ?_)
          obtain rfl : i = 7 := by simpa using hi
          clear hi
          refine wpOp_step rfl (fun K hK => ?_)
          simp only [lz1, lz2, lz3]
          rw [if_pos (by rfl)]
          go_simp
          refine hK _ _ ?_
          clear hK
          refine wpAny_done (by kernel_rfl) ?_ _
          exact hgoal
      · clear hi
        refine wpOp_step rfl (fun K hK => ?_)
        simp only [lz1, lz2, lz3]
        rw [if_pos (by rfl)]
        go_simp
        refine hK _ _ ?_
        clear hK
        refine wpAny_all (rs := [4]) (by kernel_rfl) (by simp) (fun i hi => ?_)
        obtain rfl : i = 4 := by simpa using hi
        clear hi
        refine wpOp_step rfl (fun K hK => ?_)
        simp only [lz1, lz2, lz3]
        rw [if_pos (by rfl)]
        go_simp
        refine hK _ _ ?_
        clear hK
        refine wpAny_all (rs := [6]) (by kernel_rfl) (by simp) (fun i hi => ?_)
        obtain rfl : i = 6 := by simpa using hi
        clear hi
        refine wpOp_step rfl (fun K hK => ?_)
        simp only [lz1, lz2, lz3]
        rw [if_pos (by rfl)]
        go_simp
        refine hK _ _ ?_
        clear hK
        refine wpAny_all (rs := [7]) (by kernel_rfl) (by simp) (fun i hi => ?_)
        obtain rfl : i = 7 := by simpa using hi
        clear hi
        refine wpOp_step rfl (fun K hK => ?_)
        simp only [lz1, lz2, lz3]
        rw [if_pos (by rfl)]
        go_simp
        refine hK _ _ ?_
        clear hK
        refine wpAny_done (by kernel_rfl) ?_ _
        exact hgoal
    case p =>
      replace hB := hB.trans ((Below.trans (Below.drew (Below.refl u14.heap.size u14)) hr).mono hB.size)
      have zz14_0 := hr.size
      have zi1 := hB.size
      clear hr
      clear F5 F4 E4 F3 E3
      obtain ⟨k0, k1, k2, f0, f1, f2⟩ := E1.three
      go_wp2_with fail
      clear k0 k1 k2 f0 f1 f2
      refine (copyr_any g1 F1 (by have := I1.lu; omega) (by have := I1.ld; omega)).mono ?_
      rintro e w15 ⟨a20, c20, e20, t20, rfl, F20, hb⟩
      replace F1 := F1.below hb
      replace E1 := E1.below hb
      replace S2 := S2.below hb
      replace EX := EX.below hb
      replace hB := hB.trans (hb.mono hB.size)
      have zz15 := hb.size
      have zh15 := hB.size
      clear hb
      obtain ⟨k0, k1, k2, f0, f1, f2⟩ := E1.three
      have qE1 := E1.lt
      have qEX := EX.lt
      have hs0 := Nat.le_refl w15.heap.size
      have hq := below_new w15 (.cells #[.bool g1, .slice a20 x1.length c20, .slice e20 y1.length t20] 27)
      replace F1 := F1.below hq
      replace E1 := E1.below hq
      replace S2 := S2.below hq
      replace EX := EX.below hq
      replace F20 := F20.below hq
      have ET := Box.put (w := w15) (k := (w15.heap.size)) (.cells #[.bool g1, .slice a20 x1.length c20, .slice e20 y1.length t20] 27) rfl
      replace hs0 := Nat.le_trans hs0 hq.size
      replace hB := hB.trans (hq.mono hB.size)
      clear hq
      go_wp2_with fail
      clear k0 k1 k2 f0 f1 f2
      obtain ⟨u16, hname⟩ := nm hB
      rw [hname] at hs0 hB F1 E1 S2 EX F20 ET ⊢
      have zh16 := hB.size
      have zs16 := hs0
      clear hname hs0
      refine (sneg_any g1 F1.up (by have := I1.lu; omega)).mono ?_
      rintro e w17 ⟨g21, a21, c21, z21, rfl, S21, N21, v21, l21, hb⟩
      have V21 : Hid (sgn g21 (val z21) = -sgn g1 (val x1)) := v21
      have b21 : z21.length ≤ 5 := by have := I1.lu; omega
      clear v21 l21
      replace F1 := F1.below hb
      replace E1 := E1.below hb
      replace S2 := S2.below hb
      replace EX := EX.below hb
      replace F20 := F20.below hb
      replace ET := ET.below hb
      replace hB := hB.trans (hb.mono hB.size)
      have zz17 := hb.size
      have zh17 := hB.size
      clear hb
      obtain ⟨k0, k1, k2, f0, f1, f2⟩ := ET.three
      have qE1 := E1.lt
      have qEX := EX.lt
      have qET := ET.lt
      have hs0 := Nat.le_refl w17.heap.size
      have hT := (((Turns.refl (w15.heap.size) w17).setCell 0 (.bool g21)).setCell 1 (.slice a21 z21.length c21))
      replace F1 := F1.beside ET (noWord3 (fun _ e => by cases e) (fun _ e => by cases e) (fun _ e => by cases e)) hT
      replace E1 := E1.turns hT (by omega)
      replace S2 := S2.beside ET (noWord3 (fun _ e => by cases e) (fun _ e => by cases e) (fun _ e => by cases e)) hT
      replace EX := EX.turns hT (by omega)
      replace F20 := F20.beside ET (noWord3 (fun _ e => by cases e) (fun _ e => by cases e) (fun _ e => by cases e)) hT
      replace S21 := S21.beside ET (noWord3 (fun _ e => by cases e) (fun _ e => by cases e) (fun _ e => by cases e)) hT
      replace ET : Box ((w17.setCell ⟨w15.heap.size, 0, none⟩ (.bool g21)).setCell ⟨w15.heap.size, 1, none⟩ (.slice a21 z21.length c21)) (w15.heap.size) (.cells #[.bool g21, .slice a21 z21.length c21, .slice e20 y1.length t20] 27) := ⟨Nat.lt_of_lt_of_le ET.lt hT.below.size, (heap_setCell_same _ _ 1 _ _ _ (heap_setCell_same _ _ 0 _ _ _ ET.what))⟩
      replace hB := hB.trans (hT.below.mono (by omega))
      replace hs0 := Nat.le_trans hs0 hT.below.size
      clear hT
      go_wp2_with fail
      clear k0 k1 k2 f0 f1 f2
      obtain ⟨u18, hname⟩ := nm hB
      rw [hname] at hs0 hB F1 E1 S2 EX F20 ET S21 ⊢
      have zh18 := hB.size
      have zs18 := hs0
      clear hname hs0
      refine (pround_ok g21 (lo := 0) ⟨S21.mono (Nat.zero_le _), F20.down.mono (Nat.zero_le _)⟩ (I1.neg N21 V21.out b21) (by omega)).mono ?_
      rintro e w19 ⟨g22, a22, c22, z22, rfl, S22, N22, V22, b22, hb⟩
      replace F1 := F1.below hb
      replace E1 := E1.below hb
      replace S2 := S2.below hb
      replace EX := EX.below hb
      replace F20 := F20.below hb
      replace ET := ET.below hb
      replace S21 := S21.below hb
      replace hB := hB.trans (hb.mono hB.size)
      have zz19 := hb.size
      have zh19 := hB.size
      clear hb
      have VY : Hid (sgn g22 (val z22) = -sgn g1 R) := by rw [Hid, V22.out, ← hR.out]; exact round_neg (val_nonneg F1.up.words) (val_nonneg S21.words) I1.low.2.2.1 V21.out
      clear ET F20 S21
      obtain ⟨k0, k1, f0, f1⟩ := EX.two
      have qE1 := E1.lt
      have qEX := EX.lt
      have hs0 := Nat.le_refl w19.heap.size
      have hq := below_new w19 (.cells #[.bool g22, .slice a22 z22.length c22] 25)
      replace F1 := F1.below hq
      replace E1 := E1.below hq
      replace S2 := S2.below hq
      replace EX := EX.below hq
      replace S22 := S22.below hq
      have EY := Box.put (w := w19) (k := (w19.heap.size)) (.cells #[.bool g22, .slice a22 z22.length c22] 25) rfl
      replace hs0 := Nat.le_trans hs0 hq.size
      replace hB := hB.trans (hq.mono hB.size)
      clear hq
      have hq := below_new (w19.alloc (.cells #[.bool g22, .slice a22 z22.length c22] 25)) (.cells #[.int .u64 2] 36)
      replace F1 := F1.below hq
      replace E1 := E1.below hq
      replace S2 := S2.below hq
      replace EX := EX.below hq
      replace S22 := S22.below hq
      replace EY := EY.below hq
      have M2 := Box.put (w := (w19.alloc (.cells #[.bool g22, .slice a22 z22.length c22] 25))) (k := (w19.heap.size + 1)) (.cells #[.int .u64 2] 36) (by simp)
      replace hs0 := Nat.le_trans hs0 hq.size
      replace hB := hB.trans (hq.mono hB.size)
      clear hq
      go_wp2_with fail
      clear k0 k1 f0 f1
      obtain ⟨u20, hname⟩ := nm hB
      rw [hname] at hs0 hB F1 E1 S2 EX S22 EY M2 ⊢
      have zh20 := hB.size
      have zs20 := hs0
      clear hname hs0
      have s6 : Seg (w19.heap.size + 1) _ (.slice (some ⟨w19.heap.size + 1, 0, none⟩) [2].length 1) [2] := seg_box M2 [2] (words_of rfl) rfl
      have hk := qdivides_any s6 S2 (by simp) (by omega)
      rw [show val [2] = 2 by decide, HR.out, dvdB_two, HE.out] at hk
      refine (hk).mono ?_
      rintro e w21 ⟨rfl, hb⟩
      replace F1 := F1.below hb
      replace E1 := E1.below hb
      replace S2 := S2.below hb
      replace EX := EX.below hb
      replace S22 := S22.below hb
      replace EY := EY.below hb
      replace M2 := M2.below hb
      replace hB := hB.trans (hb.mono hB.size)
      have zz21 := hb.size
      have zh21 := hB.size
      clear hb
      clear hk s6
      clear M2
      obtain ⟨k0, k1, f0, f1⟩ := EX.two
      obtain ⟨k2, k3, f2, f3⟩ := EY.two
      go_wp2_with fail
      clear k0 k1 f0 f1 k2 k3 f2 f3
      replace F1 := F1.drew
      have qE1 := E1.lt
      replace E1 := E1.drew
      replace S2 := S2.drew
      have qEX := EX.lt
      replace EX := EX.drew
      replace S22 := S22.drew
      have qEY := EY.lt
      replace EY := EY.drew
      have hr := Below.refl w21.drew.heap.size w21.drew
      have hkeep : ∀ V : World, Below w21.drew.heap.size w21.drew V → V.cell? ⟨w9.heap.size, 0, none⟩ = some (.bool g2) ∧ V.cell? ⟨w9.heap.size, 1, none⟩ = some (.slice a2 z2.length c2) ∧ V.cell? ⟨w19.heap.size, 0, none⟩ = some (.bool g22) ∧ V.cell? ⟨w19.heap.size, 1, none⟩ = some (.slice a22 z22.length c22) := fun V hV => ⟨(EX.below hV).two.1, (EX.below hV).two.2.1, (EY.below hV).two.1, (EY.below hV).two.2.1⟩
      have t0 : Hid True := trivial
      go_region_held3 (fun V : World => V.cell? ⟨w9.heap.size, 0, none⟩ = some (.bool g2) ∧ V.cell? ⟨w9.heap.size, 1, none⟩ = some (.slice a2 z2.length c2) ∧ V.cell? ⟨w19.heap.size, 0, none⟩ = some (.bool g22) ∧ V.cell? ⟨w19.heap.size, 1, none⟩ = some (.slice a22 z22.length c22))
        (first | exact hkeep _ hr | exact hkeep _ (hr.a1 _) | exact hkeep _ ((hr.a1 _).a1 _) | exact hkeep _ (((hr.a1 _).a1 _).a1 _) | exact hkeep _ ((((hr.a1 _).a1 _).a1 _).a1 _))
        (first
        | (clear t0
           go_at_call 14
           refine (sneg_any g2 S2 (by omega)).mono ?_
           rintro e w22 ⟨g23, a23, c23, z23, rfl, S23, N23, v23, l23, hb⟩
           have V23 : Hid (sgn g23 (val z23) = -sgn g1 R) := by rw [Hid, v23, V2.out, hR.out]
           have b23 : z23.length ≤ 7 := by omega
           clear v23 l23
           replace F1 := F1.below hb
           replace E1 := E1.below hb
           replace S2 := S2.below hb
           replace EX := EX.below hb
           replace S22 := S22.below hb
           replace EY := EY.below hb
           replace hr := hr.trans (hb.mono hr.size)
           have zw22 := hb.size
           clear hb
           have t1 : Hid True := trivial)
        | (clear t1
           go_at_call 16
           refine (samew_can g22 g23 S22 S23 N22 N23 (by rw [VY.out, V23.out]) (by omega)).mono ?_
           rintro e w23 ⟨rfl, hb⟩
           replace F1 := F1.below hb
           replace E1 := E1.below hb
           replace S2 := S2.below hb
           replace EX := EX.below hb
           replace S22 := S22.below hb
           replace EY := EY.below hb
           replace S23 := S23.below hb
           replace hr := hr.trans (hb.mono hr.size)
           have zw23 := hb.size
           clear hb
           have t2 : Hid True := trivial))
      replace hB := hB.trans ((Below.trans (Below.drew (Below.refl w21.heap.size w21)) hr).mono hB.size)
      have zi_23 := hB.size
      clear hr hkeep t2
      clear S23 S22 S2 EX EY
      by_cases hx1 : x1 = []
      · skip
        have hz : ((x1.length : Int) == 0) = true := by rw [hx1]; rfl
        obtain ⟨k0, k1, k2, f0, f1, f2⟩ := E1.three
        go_wp2
        go_ret
        exact ⟨rfl, hB⟩
      · skip
        have hz : ((x1.length : Int) == 0) = false := beq_eq_false_iff_ne.2 (by have := List.length_pos_iff.2 hx1; omega)
        have HX := hide hx1
        have hq0 : Hid (q1 ≠ 0) := fun h => HX.out ((I1.zero_iff F1.up.words).1 h)
        clear hx1
        obtain ⟨k0, k1, k2, f0, f1, f2⟩ := E1.three
        go_wp2_with fail
        clear k0 k1 k2 f0 f1 f2
        refine (ppower_int g1 F1 I1 (by omega) HX ((pm : Int) - 6) (by omega)).mono ?_
        rintro e w24 ⟨g24, a24, c24, x24, e24, t24, y24, rfl, F24, P24, I24, hb⟩
        replace I24 : Is g24 x24 y24 (QA ((pm : Int) - 6)) (31) := (I24.mono (by omega)).to (hQA _)
        replace F1 := F1.below hb
        replace E1 := E1.below hb
        replace hB := hB.trans (hb.mono hB.size)
        have zz24 := hb.size
        have zh24 := hB.size
        clear hb
        obtain ⟨k0, k1, k2, f0, f1, f2⟩ := E1.three
        have qE1 := E1.lt
        have hs0 := Nat.le_refl w24.heap.size
        have hq := below_new w24 (.cells #[.bool g24, .slice a24 x24.length c24, .slice e24 y24.length t24] 27)
        replace F1 := F1.below hq
        replace E1 := E1.below hq
        replace F24 := F24.below hq
        have E24 := Box.put (w := w24) (k := (w24.heap.size)) (.cells #[.bool g24, .slice a24 x24.length c24, .slice e24 y24.length t24] 27) rfl
        replace hs0 := Nat.le_trans hs0 hq.size
        replace hB := hB.trans (hq.mono hB.size)
        clear hq
        go_wp2_with fail
        clear k0 k1 k2 f0 f1 f2
        obtain ⟨u25, hname⟩ := nm hB
        rw [hname] at hs0 hB F1 E1 F24 E24 ⊢
        have zh25 := hB.size
        have zs25 := hs0
        clear hname hs0
        refine (ppower_int g1 F1 I1 (by omega) HX ((pn : Int) - 6) (by omega)).mono ?_
        rintro e w26 ⟨g25, a25, c25, x25, e25, t25, y25, rfl, F25, P25, I25, hb⟩
        replace I25 : Is g25 x25 y25 (QA ((pn : Int) - 6)) (31) := (I25.mono (by omega)).to (hQA _)
        replace F1 := F1.below hb
        replace E1 := E1.below hb
        replace F24 := F24.below hb
        replace E24 := E24.below hb
        replace hB := hB.trans (hb.mono hB.size)
        have zz26 := hb.size
        have zh26 := hB.size
        clear hb
        obtain ⟨k0, k1, k2, f0, f1, f2⟩ := E1.three
        have qE1 := E1.lt
        have qE24 := E24.lt
        have hs0 := Nat.le_refl w26.heap.size
        have hq := below_new w26 (.cells #[.bool g25, .slice a25 x25.length c25, .slice e25 y25.length t25] 27)
        replace F1 := F1.below hq
        replace E1 := E1.below hq
        replace F24 := F24.below hq
        replace E24 := E24.below hq
        replace F25 := F25.below hq
        have E25 := Box.put (w := w26) (k := (w26.heap.size)) (.cells #[.bool g25, .slice a25 x25.length c25, .slice e25 y25.length t25] 27) rfl
        replace hs0 := Nat.le_trans hs0 hq.size
        replace hB := hB.trans (hq.mono hB.size)
        clear hq
        go_wp2_with fail
        clear k0 k1 k2 f0 f1 f2
        obtain ⟨u27, hname⟩ := nm hB
        rw [hname] at hs0 hB F1 E1 F24 E24 F25 E25 ⊢
        have zh27 := hB.size
        have zs27 := hs0
        clear hname hs0
        refine (ppower_int g1 F1 I1 (by omega) HX ((pm : Int) - 6 + ((pn : Int) - 6)) (by omega)).mono ?_
        rintro e w28 ⟨g26, a26, c26, x26, e26, t26, y26, rfl, F26, P26, I26, hb⟩
        replace I26 : Is g26 x26 y26 (QA ((pm : Int) - 6 + ((pn : Int) - 6))) (61) := (I26.mono (by omega)).to (hQA _)
        replace F1 := F1.below hb
        replace E1 := E1.below hb
        replace F24 := F24.below hb
        replace E24 := E24.below hb
        replace F25 := F25.below hb
        replace E25 := E25.below hb
        replace hB := hB.trans (hb.mono hB.size)
        have zz28 := hb.size
        have zh28 := hB.size
        clear hb
        obtain ⟨k0, k1, k2, f0, f1, f2⟩ := E24.three
        obtain ⟨k3, k4, k5, f3, f4, f5⟩ := E25.three
        have qE1 := E1.lt
        have qE24 := E24.lt
        have qE25 := E25.lt
        have hs0 := Nat.le_refl w28.heap.size
        have hq := below_new w28 (.cells #[.bool g26, .slice a26 x26.length c26, .slice e26 y26.length t26] 27)
        replace F1 := F1.below hq
        replace E1 := E1.below hq
        replace F24 := F24.below hq
        replace E24 := E24.below hq
        replace F25 := F25.below hq
        replace E25 := E25.below hq
        replace F26 := F26.below hq
        have E26 := Box.put (w := w28) (k := (w28.heap.size)) (.cells #[.bool g26, .slice a26 x26.length c26, .slice e26 y26.length t26] 27) rfl
        replace hs0 := Nat.le_trans hs0 hq.size
        replace hB := hB.trans (hq.mono hB.size)
        clear hq
        have hq := below_new (w28.alloc (.cells #[.bool g26, .slice a26 x26.length c26, .slice e26 y26.length t26] 27)) (.cells #[.bool g24, .slice a24 x24.length c24, .slice e24 y24.length t24, .bool g25, .slice a25 x25.length c25, .slice e25 y25.length t25] 27)
        replace F1 := F1.below hq
        replace E1 := E1.below hq
        replace F24 := F24.below hq
        replace E24 := E24.below hq
        replace F25 := F25.below hq
        replace E25 := E25.below hq
        replace F26 := F26.below hq
        replace E26 := E26.below hq
        have L27 := Box.put (w := (w28.alloc (.cells #[.bool g26, .slice a26 x26.length c26, .slice e26 y26.length t26] 27))) (k := (w28.heap.size + 1)) (.cells #[.bool g24, .slice a24 x24.length c24, .slice e24 y24.length t24, .bool g25, .slice a25 x25.length c25, .slice e25 y25.length t25] 27) (by simp)
        replace hs0 := Nat.le_trans hs0 hq.size
        replace hB := hB.trans (hq.mono hB.size)
        clear hq
        go_wp2_with fail
        clear k0 k1 k2 f0 f1 f2 k3 k4 k5 f3 f4 f5
        obtain ⟨u29, hname⟩ := nm hB
        rw [hname] at hs0 hB F1 E1 F24 E24 F25 E25 F26 E26 L27 ⊢
        have zh29 := hB.size
        have zs29 := hs0
        clear hname hs0
        have R := row_box (rs := [⟨g24, a24, c24, x24, e24, t24, y24⟩, ⟨g25, a25, c25, x25, e25, t25, y25⟩]) (k := w28.heap.size + 1) L27 (fun r hr => by
            simp only [List.mem_cons, List.not_mem_nil, or_false] at hr
            rcases hr with rfl | rfl
            · exact F24.mono (Nat.zero_le _)
            · exact F25.mono (Nat.zero_le _))
        have hlen : ∀ r ∈ ([⟨g24, a24, c24, x24, e24, t24, y24⟩, ⟨g25, a25, c25, x25, e25, t25, y25⟩] : List RV), r.xs.length ≤ 31 ∧ r.ds.length ≤ 31 := fun r hr => by
            simp only [List.mem_cons, List.not_mem_nil, or_false] at hr
            rcases hr with rfl | rfl
            · exact ⟨Nat.le_trans I24.lu (by decide), Nat.le_trans I24.ld (by decide)⟩
            · exact ⟨Nat.le_trans I25.lu (by decide), Nat.le_trans I25.ld (by decide)⟩
        have hg : ∀ r ∈ ([⟨g24, a24, c24, x24, e24, t24, y24⟩, ⟨g25, a25, c25, x25, e25, t25, y25⟩] : List RV), formR r.b r.xs r.ds = 0 := fun r hr => by
            simp only [List.mem_cons, List.not_mem_nil, or_false] at hr
            rcases hr with rfl | rfl
            · exact I24.good F24.up.words F24.down.words
            · exact I25.good F25.up.words F25.down.words
        refine (pmul_ok (cap := 2) R (by simp) hlen (by omega) hg).mono ?_
        rintro e w30 ⟨g28, a28, c28, x28, e28, t28, y28, rfl, F28, P28, I28, hb⟩
        replace I28 : Is g28 x28 y28 (QA ((pm : Int) - 6 + ((pn : Int) - 6))) (65) := (I28.mono (by simp)).to (by simp only [mulQ, RV.q, List.foldl, I24.rat, I25.rat]; rw [Rat.one_mul, ← hQA, ← hQA, ← hQA, Rat.zpow_add hq0.out])
        replace F1 := F1.below hb
        replace E1 := E1.below hb
        replace F24 := F24.below hb
        replace E24 := E24.below hb
        replace F25 := F25.below hb
        replace E25 := E25.below hb
        replace F26 := F26.below hb
        replace E26 := E26.below hb
        replace L27 := L27.below hb
        replace hB := hB.trans (hb.mono hB.size)
        have zz30 := hb.size
        have zh30 := hB.size
        clear hb
        clear R hlen hg
        clear L27
        obtain ⟨k0, k1, k2, f0, f1, f2⟩ := E26.three
        have qE1 := E1.lt
        have qE24 := E24.lt
        have qE25 := E25.lt
        have qE26 := E26.lt
        have hs0 := Nat.le_refl w30.heap.size
        have hq := below_new w30 (.cells #[.bool g28, .slice a28 x28.length c28, .slice e28 y28.length t28] 27)
        replace F1 := F1.below hq
        replace E1 := E1.below hq
        replace F24 := F24.below hq
        replace E24 := E24.below hq
        replace F25 := F25.below hq
        replace E25 := E25.below hq
        replace F26 := F26.below hq
        replace E26 := E26.below hq
        replace F28 := F28.below hq
        have E28 := Box.put (w := w30) (k := (w30.heap.size)) (.cells #[.bool g28, .slice a28 x28.length c28, .slice e28 y28.length t28] 27) rfl
        replace hs0 := Nat.le_trans hs0 hq.size
        replace hB := hB.trans (hq.mono hB.size)
        clear hq
        go_wp2_with fail
        clear k0 k1 k2 f0 f1 f2
        obtain ⟨u31, hname⟩ := nm hB
        rw [hname] at hs0 hB F1 E1 F24 E24 F25 E25 F26 E26 F28 E28 ⊢
        have zh31 := hB.size
        have zs31 := hs0
        clear hname hs0
        refine (lrsame_yes g28 g26 F28 F26 I28 I26 (by omega)).mono ?_
        rintro e w32 ⟨rfl, hb⟩
        replace F1 := F1.below hb
        replace E1 := E1.below hb
        replace F24 := F24.below hb
        replace E24 := E24.below hb
        replace F25 := F25.below hb
        replace E25 := E25.below hb
        replace F26 := F26.below hb
        replace E26 := E26.below hb
        replace F28 := F28.below hb
        replace E28 := E28.below hb
        replace hB := hB.trans (hb.mono hB.size)
        have zz32 := hb.size
        have zh32 := hB.size
        clear hb
        go_wp2
        go_ret
        exact ⟨rfl, hB⟩
theorem lrrounds_any {a1 e1 : Option Addr} {c1 t1 : Nat} {x1 y1 : List Int} {w : World} (g1 : Bool) (F1 : Fr 0 w a1 c1 x1 e1 t1 y1) (m : Int) (hm : -9223372036854775808 ≤ m ∧ m ≤ 9223372036854775807) (n : Int) (hn : -9223372036854775808 ≤ n ∧ n ≤ 9223372036854775807) :
    Calls Tryz.prog 3 #[.agg #[.bool g1, .slice a1 x1.length c1, .slice e1 y1.length t1], .int .i64 m, .int .i64 n] w fun e w' => e = .returned (.bool true) ∧ Below w.heap.size w w' := by
  by_cases h1 : x1.length ≤ 5 ∧ y1.length ≤ 5
  · by_cases hg : ∀ r ∈ ([⟨g1, a1, c1, x1, e1, t1, y1⟩] : List RV), formR r.b r.xs r.ds = 0
    · have I1 : Is g1 x1 y1 (ratL g1 x1 y1) 5 := ⟨(formR_low F1.up.words F1.down.words).1 (hg _ (List.mem_cons_self ..)), rfl, h1.1, h1.2⟩
      rcases far_near (b := g1) (u := val x1) I1.low.2.2.1 with h | ⟨h, h2⟩
      · exact lrrounds_near g1 F1 m hm n hn h1 I1 h
      · exact lrrounds_half g1 F1 m hm n hn h1 I1 h h2
    · exact lrrounds_bad g1 F1 m hm n hn h1 (good_no _ hg)
  · exact lrrounds_long g1 F1 m hm n hn (long_yes _ ⟨_, List.mem_cons_self .., h1⟩)
end Go.Proofs.YtblmkddjlfienabGreat
