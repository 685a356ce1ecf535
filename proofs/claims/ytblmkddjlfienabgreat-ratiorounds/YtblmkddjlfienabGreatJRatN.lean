/-
  Joined: RatN RatNn SLaw SForms RatW RatU RatX RatV RatZ RndM RatQ RatKn RRndL.
-/
import Derived.Test.YtblmkddjlfienabGreatJSigB
import Derived.Test.YtblmkddjlfienabGreatJRatB
import Derived.Test.YtblmkddjlfienabGreatJRMulB
import Derived.Test.YtblmkddjlfienabGreatJLenOf
namespace Go.Proofs.YtblmkddjlfienabGreat
open Go.RowKit
theorem blen_small : ∀ k : Nat, k < 13 → 2 ^ (blen (k : Int) + 1) ≤ 32 := by decide
set_option maxRecDepth 100000 in
set_option maxHeartbeats 1000000 in
theorem raise_any {lo : Nat} {a : Option Addr} {la ca : Nat} {xs : List Int} {w : World} (ha : Seg lo w (.slice a la ca) xs) (k : Nat) (hk : k ≤ 12) (hl : xs.length ≤ 40) :
    Calls Tryz.prog 43 #[.slice a la ca, .int .i64 k] w fun e w' => ∃ (a1 : Option Addr) (c1 : Nat) (zs : List Int), e = .returned (.slice a1 zs.length c1) ∧ Seg w.heap.size w' (.slice a1 zs.length c1) zs ∧ Norm zs ∧ Hid (val zs = val xs ^ k) ∧ zs.length ≤ xs.length * k + 1 ∧ Below w.heap.size w w' := by
  have hbl := blen_words_up ha.words
  have hb1 : (k : Int) * (blen (val xs) : Int) ≤ 16777216 := by
    have : k * blen (val xs) ≤ 12 * (64 * 40) := Nat.mul_le_mul hk (by omega)
    have h2 : ((k * blen (val xs) : Nat) : Int) ≤ 16777216 := by omega
    rw [Int.natCast_mul] at h2
    exact h2
  have hb2 : (xs.length + 1) * 2 ^ (blen (k : Int) + 1) ≤ 4000 := by
    have := Nat.mul_le_mul (show xs.length + 1 ≤ 41 by omega) (blen_small k (by omega))
    omega
  have hp := power_int ha (k : Int) (by omega) (by omega) hb1 hb2
  clear hb1 hb2 hbl
  go_enter Tryz.func43, Tryz.ntmps43
  go_wp2_with fail
  refine hp.mono ?_
  rintro e w1 ⟨a1, c1, zs, rfl, hs1, hn1, hv1, hl1, hb1⟩
  have HV := hide hv1
  clear hv1 hp
  go_wp2
  go_ret
  exact ⟨_, _, zs, rfl, hs1, hn1, HV, by simpa using hl1, hb1⟩
theorem sgn_pow (b : Bool) (x : Int) (k : Nat) : sgn b x ^ k = sgn (b && (k % 2 == 1)) (x ^ k) := by
  cases b with
  | false => rfl
  | true =>
    induction k with
    | zero => simp [sgn]
    | succ k ih =>
      rw [Int.pow_succ, Int.pow_succ, ih]
      by_cases h : k % 2 = 1
      · have h2 : (k + 1) % 2 = 0 := by omega
        simp [sgn, h, h2, Int.neg_mul_neg]
      · have h1 : k % 2 = 0 := by omega
        have h2 : (k + 1) % 2 = 1 := by omega
        simp [sgn, h1, h2, Int.mul_neg]
theorem pow_is {b sg : Bool} {xs ds zu zd : List Int} {q : Rat} {n N k : Nat} (I : Is b xs ds q n) (wx : Words xs) (_wd : Words ds) (hs : (b && (k % 2 == 1)) = sg) (Vu : Hid (val zu = val xs ^ k)) (Nu : Norm zu) (Vd : Hid (val zd = val ds ^ k)) (Nd : Norm zd) (lu : zu.length ≤ N) (ld : zd.length ≤ N) : Is sg zu zd (q ^ k) N := by
  obtain ⟨l, e⟩ := low_pow I.low.2.2 k
  rw [sgn_pow, hs, ← Vu.out, ← Vd.out] at l e
  refine ⟨⟨⟨Nu, fun h => ?_⟩, Nd, l⟩, ?_, lu, ld⟩
  · rintro rfl
    have hb : b = true := by cases b <;> simp_all
    have hp := norm_pos wx I.low.1.1 (I.low.1.2 hb)
    have := Vu.out
    rw [val_nil] at this
    have := Int.pow_pos (m := k) hp
    omega
  · rw [ratL, e, ← I.rat]; rfl
set_option maxRecDepth 100000 in
set_option maxHeartbeats 4000000 in
theorem ppower_pos {lo : Nat} {a c : Option Addr} {ca cc : Nat} {xs ds : List Int} {w : World} (b : Bool) (FA : Fr lo w a ca xs c cc ds) {n : Nat} {q : Rat} (IA : Is b xs ds q n) (hn : n ≤ 30) (k : Nat) (hk12 : k ≤ 12) :
    Calls Tryz.prog 17 #[.agg #[.bool b, .slice a xs.length ca, .slice c ds.length cc], .int .i64 k] w fun e w' => ∃ (b' : Bool) (a' : Option Addr) (ca' : Nat) (ts' : List Int) (c' : Option Addr) (cc' : Nat) (es' : List Int), e = .returned (.tuple #[.agg #[.bool b', .slice a' ts'.length ca', .slice c' es'.length cc'], .int .i64 0]) ∧ Fr w.heap.size w' a' ca' ts' c' cc' es' ∧ Apart a' c' ts' es' ∧ Is b' ts' es' (q ^ k) (n * k + 1) ∧ Below w.heap.size w w' := by
  have lxa := IA.lu
  have lda := IA.ld
  have hxk : xs.length * k ≤ n * k := Nat.mul_le_mul_right _ lxa
  have hdk : ds.length * k ≤ n * k := Nat.mul_le_mul_right _ lda
  have h1 : ¬ (k : Int) < -10000 := by omega
  have h2 : ¬ 10000 < (k : Int) := by omega
  have h3 : ¬ (k : Int) < 0 := by omega
  have HA : Hid (formR b xs ds = 0) := (formR_low FA.up.words FA.down.words).2 IA.low
  have hB := Below.refl w.heap.size w
  have hz := fun w => isZero_any b a xs ca c ds cc w
  generalize ((xs.length : Int) == 0) = z at hz
  cases z with
  | true =>
    cases b with
    | false =>
      go_enter Tryz.func17, Tryz.ntmps17
      have hs0 := Nat.le_refl w.heap.size
      have hq := below_new w (.cells #[.bool false, .slice a xs.length ca, .slice c ds.length cc] 27)
      replace FA := FA.below hq
      have EA := Box.put (w := w) (k := (w.heap.size)) (.cells #[.bool false, .slice a xs.length ca, .slice c ds.length cc] 27) rfl
      replace hs0 := Nat.le_trans hs0 hq.size
      replace hB := hB.trans (hq.mono hB.size)
      clear hq
      have hq := below_new (w.alloc (.cells #[.bool false, .slice a xs.length ca, .slice c ds.length cc] 27)) (.cells #[.bool false, .slice none 0 0, .slice none 0 0] 27)
      replace FA := FA.below hq
      replace EA := EA.below hq
      have ER := Box.put (w := (w.alloc (.cells #[.bool false, .slice a xs.length ca, .slice c ds.length cc] 27))) (k := (w.heap.size + 1)) (.cells #[.bool false, .slice none 0 0, .slice none 0 0] 27) (by simp)
      replace hs0 := Nat.le_trans hs0 hq.size
      replace hB := hB.trans (hq.mono hB.size)
      clear hq
      go_wp2_with fail
      obtain ⟨u1, hname⟩ := nm hB
      rw [hname] at hs0 hB FA EA ER ⊢
      have zh1 := hB.size
      have zs1 := hs0
      clear hname hs0
      have hk := pcheck_any false FA (by omega) (by omega)
      rw [HA.out] at hk
      refine (hk).mono ?_
      rintro e w2 ⟨rfl, hb⟩
      replace FA := FA.below hb
      replace EA := EA.below hb
      replace ER := ER.below hb
      replace hB := hB.trans (hb.mono hB.size)
      have zz2 := hb.size
      have zh2 := hB.size
      clear hb
      clear hk
      obtain ⟨k0, k1, k2, f0, f1, f2⟩ := EA.three
      obtain ⟨k3, k4, k5, f3, f4, f5⟩ := ER.three
      go_wp2_with fail
      clear k0 k1 k2 f0 f1 f2 k3 k4 k5 f3 f4 f5
      refine (hz _).mono ?_
      rintro e w3 ⟨rfl, hb⟩
      replace FA := FA.below hb
      replace EA := EA.below hb
      replace ER := ER.below hb
      replace hB := hB.trans (hb.mono hB.size)
      have zz3 := hb.size
      have zh3 := hB.size
      clear hb
      obtain ⟨k0, k1, k2, f0, f1, f2⟩ := EA.three
      obtain ⟨k3, k4, k5, f3, f4, f5⟩ := ER.three
      go_wp2_with fail
      clear k0 k1 k2 f0 f1 f2 k3 k4 k5 f3 f4 f5
      refine (raise_any FA.up k hk12 (by omega)).mono ?_
      rintro e w4 ⟨a1, c1, z1, rfl, S1, N1, v1, l1, hb⟩
      have V1 : Hid (val z1 = val xs ^ k) := v1
      have b1 : z1.length ≤ n * k + 1 := by omega
      clear v1 l1
      replace FA := FA.below hb
      replace EA := EA.below hb
      replace ER := ER.below hb
      replace hB := hB.trans (hb.mono hB.size)
      have zz4 := hb.size
      have zh4 := hB.size
      clear hb
      have SU := S1
      obtain ⟨k0, k1, k2, f0, f1, f2⟩ := EA.three
      obtain ⟨k3, k4, k5, f3, f4, f5⟩ := ER.three
      have qEA := EA.lt
      have qER := ER.lt
      have hs0 := Nat.le_refl w4.heap.size
      have hq := below_new w4 (.cells #[.bool false, .slice a1 z1.length c1] 25)
      replace FA := FA.below hq
      replace EA := EA.below hq
      replace ER := ER.below hq
      replace S1 := S1.below hq
      have EU := Box.put (w := w4) (k := (w4.heap.size)) (.cells #[.bool false, .slice a1 z1.length c1] 25) rfl
      replace hs0 := Nat.le_trans hs0 hq.size
      replace hB := hB.trans (hq.mono hB.size)
      clear hq
      go_wp2_with fail
      clear k0 k1 k2 f0 f1 f2 k3 k4 k5 f3 f4 f5
      obtain ⟨u5, hname⟩ := nm hB
      rw [hname] at hs0 hB FA EA ER S1 EU ⊢
      have zh5 := hB.size
      have zs5 := hs0
      clear hname hs0
      replace FA := FA.drew
      have qEA := EA.lt
      replace EA := EA.drew
      have qER := ER.lt
      replace ER := ER.drew
      replace S1 := S1.drew
      have qEU := EU.lt
      replace EU := EU.drew
      refine wp_yields 6 [.is (.agg #[.bool false, .slice a1 z1.length c1]), .is (.pointer (some ⟨w.heap.size, 2, none⟩)), .is (.slice c ds.length cc), .is (.int .i64 k), (Yield.nat u5.heap.size (val ds ^ k) (n * k + 1)), (Yield.natIn (fun s => .agg #[.bool false, .slice a1 z1.length c1, s]) u5.heap.size (val ds ^ k) (n * k + 1))] (by kernel_rfl) (by kernel_rfl) (lt_cons ?_ (lt_cons ?_ (lt_cons ?_ (lt_cons ?_ (lt_cons ?_ (lt_cons ?_ lt_nil)))))) ?_
      case refine_1 =>
        refine OpDoes.mk rfl ?_
        intro vs V hV hd K hK
        have d0 : vs 0 = .agg #[.bool false, .slice a1 z1.length c1] := hd 0 (by decide) (by kernel_rfl)
        have hh := fun (P : Prop) => Yield.nat_elim P (show ((Yield.nat u5.heap.size (val ds ^ k) (n * k + 1)) : Yield).At (vs 4) V from hd 4 (by decide) (by kernel_rfl))
        refine hh _ ?_
        intro a2 c2 z2 d4 S2 N2 V2 b2
        clear hh
        simp only [laidIn, lz1, lz2, lz3, lz4, lz5, lz6, if_true, Act.put, lz7, lz8, lz9] at hK ⊢
        simp only [d0, d4] at hK ⊢
        go_simp
        exact hK.out _ _ (Below.refl _ _) ⟨_, _, _, rfl, S2, N2, V2, b2⟩ (not_fresh rfl)
      case refine_2 =>
        refine OpDoes.mk rfl ?_
        intro vs V hV hd K hK
        have d2 : vs 2 = .slice c ds.length cc := hd 2 (by decide) (by kernel_rfl)
        have d3 : vs 3 = .int .i64 k := hd 3 (by decide) (by kernel_rfl)
        simp only [laidIn, lz1, lz2, lz3, lz4, lz5, lz6, if_true, Act.put, lz7, lz8, lz9] at hK ⊢
        simp only [d2, d3] at hK ⊢
        go_simp
        go_at_call 43
        refine (raise_any (FA.down.below hV) k hk12 (by omega)).mono ?_
        rintro e V' ⟨a2, c2, z2, rfl, S2, N2, v2, l2, hb⟩
        have V2 : Hid (val z2 = val ds ^ k) := v2
        have b2 : z2.length ≤ n * k + 1 := by omega
        clear v2 l2
        exact hK.out _ _ hb ⟨_, _, _, rfl, S2.mono hV.size, N2, V2, b2⟩ (not_fresh rfl)
      case refine_3 =>
        refine OpDoes.mk rfl ?_
        intro vs V hV hd K hK
        simp only [laidIn, lz1, lz2, lz3, lz4, lz5, lz6, if_true, Act.put, lz7, lz8, lz9] at hK ⊢
        go_simp
        exact hK.out _ _ (Below.refl _ _) rfl (not_fresh rfl)
      case refine_4 =>
        refine OpDoes.mk rfl ?_
        intro vs V hV hd K hK
        have d1 : vs 1 = .pointer (some ⟨w.heap.size, 2, none⟩) := hd 1 (by decide) (by kernel_rfl)
        have hcc := (EA.below hV).three
        have k0 := hcc.1
        have k1 := hcc.2.1
        have k2 := hcc.2.2.1
        clear hcc
        simp only [laidIn, lz1, lz2, lz3, lz4, lz5, lz6, if_true, Act.put, lz7, lz8, lz9] at hK ⊢
        simp only [d1] at hK ⊢
        go_simp
        exact hK.out _ _ (Below.refl _ _) rfl (not_fresh rfl)
      case refine_5 =>
        refine OpDoes.mk rfl ?_
        intro vs V hV hd K hK
        simp only [laidIn, lz1, lz2, lz3, lz4, lz5, lz6, if_true, Act.put, lz7, lz8, lz9] at hK ⊢
        go_simp
        exact hK.out _ _ (Below.refl _ _) rfl (not_fresh rfl)
      case refine_6 =>
        refine OpDoes.mk rfl ?_
        intro vs V hV hd K hK
        have hcc := (EU.below hV).two
        have k0 := hcc.1
        have k1 := hcc.2.1
        clear hcc
        simp only [laidIn, lz1, lz2, lz4, lz5, lz6, if_true, Act.put, lz7, lz8, lz9] at hK ⊢
        go_simp
        exact hK.out _ _ (Below.refl _ _) rfl (not_fresh rfl)
      case refine_7 =>
        intro vs Y1 hV hR hne fuel
        have d0 : vs 0 = .agg #[.bool false, .slice a1 z1.length c1] := hR 0 (by decide)
        have d1 : vs 1 = .pointer (some ⟨w.heap.size, 2, none⟩) := hR 1 (by decide)
        have d2 : vs 2 = .slice c ds.length cc := hR 2 (by decide)
        have d3 : vs 3 = .int .i64 k := hR 3 (by decide)
        have hh := fun (P : Prop) => Yield.nat_elim P (show ((Yield.nat u5.heap.size (val ds ^ k) (n * k + 1)) : Yield).At (vs 4) Y1 from hR 4 (by decide))
        refine hh _ ?_
        intro a2 c2 z2 d4 S2 N2 V2 b2
        clear hh
        have hh := fun (P : Prop) => Yield.natIn_elim P (show ((Yield.natIn (fun s => .agg #[.bool false, .slice a1 z1.length c1, s]) u5.heap.size (val ds ^ k) (n * k + 1)) : Yield).At (vs 5) Y1 from hR 5 (by decide))
        refine hh _ ?_
        intro a3 c3 z3 d5 S3 N3 V3 b3
        clear hh
        replace FA := FA.below hV
        replace EA := EA.below hV
        replace ER := ER.below hV
        replace S1 := S1.below hV
        replace EU := EU.below hV
        have hr := hV
        simp only [laidIn, lz4, lz5, lz6, if_true, Act.put, lz7, lz8, lz9]
        simp only [d0, d1, d2, d3, d4, d5]
        clear hR hne hV d0 d1 d2 d3 d4 d5
        clear vs
        show wpAny _ _ _ _ (fuel + 2) _ _ _
        refine wpAny_all (rs := [6]) (by kernel_rfl) (by simp) (fun i hi => ?_)
        obtain rfl : i = 6 := by simpa using hi
        clear hi
        have hcc := ER.three
        have k0 := hcc.1
        have k1 := hcc.2.1
        have k2 := hcc.2.2.1
        have f0 := hcc.2.2.2.1
        have f1 := hcc.2.2.2.2.1
        have f2 := hcc.2.2.2.2.2
        clear hcc
        refine wpOp_step rfl (fun K hK => ?_)
        simp only [lz1, lz2, lz3]
        rw [if_pos (by rfl)]
        go_simp
        refine hK _ _ ?_
        clear hK k0 f0 k1 f1 k2 f2
        have hT := turns3 (w.heap.size + 1) Y1 (.bool false) (.slice a1 z1.length c1) (.slice a3 z3.length c3)
        replace FA := FA.beside ER (noWord3 (fun _ e => by cases e) (fun _ e => by cases e) (fun _ e => by cases e)) hT
        replace EA := EA.turns hT (by omega)
        replace S1 := S1.beside ER (noWord3 (fun _ e => by cases e) (fun _ e => by cases e) (fun _ e => by cases e)) hT
        replace EU := EU.turns hT (by omega)
        replace S2 := S2.beside ER (noWord3 (fun _ e => by cases e) (fun _ e => by cases e) (fun _ e => by cases e)) hT
        replace S3 := S3.beside ER (noWord3 (fun _ e => by cases e) (fun _ e => by cases e) (fun _ e => by cases e)) hT
        replace ER := Box.set3 (.bool false) (.slice a1 z1.length c1) (.slice a3 z3.length c3) ER
        have hr6 := hT.below
        obtain ⟨X1, hX⟩ := nm hT.below
        rw [hX] at FA EA ER S1 EU S2 S3 hr6 ⊢
        clear hX hT
        refine wpAny_all (rs := [7]) (by kernel_rfl) (by simp) (fun i hi => ?_)
        obtain rfl : i = 7 := by simpa using hi
        clear hi
        refine wpOp_step rfl (fun K hK => ?_)
        simp only [lz1, lz2, lz3]
        rw [if_pos (by rfl)]
        go_simp
        refine hK _ _ ?_
        clear hK
        refine wpAny_done (by kernel_rfl) ?_ _
        replace hB := hB.trans ((Below.trans (Below.drew (Below.refl u5.heap.size u5)) hr).mono hB.size)
        replace hB := hB.trans (hr6.mono (by omega))
        have zz5_1 := hr.size
        have zi1 := hB.size
        have zy1_6 := hr6.size
        clear hr hr6
        have HI := pow_is (N := n * k + 1) (k := k) (sg := false) (b := false) IA FA.up.words FA.down.words (by simp) V1 N1 V3 N3 (by omega) (by omega)
        have HAP := hide (apart_of (fun h b o e => SU.block h b o e) S3 (by omega) : Apart a1 a3 z1 z3)
        obtain ⟨k0, k1, k2, f0, f1, f2⟩ := EA.three
        obtain ⟨k3, k4, k5, f3, f4, f5⟩ := ER.three
        obtain ⟨k6, k7, f6, f7⟩ := EU.two
        have hcc := ER.three
        have r0 := hcc.1
        have r1 := hcc.2.1
        have r2 := hcc.2.2.1
        clear hcc
        go_wp2
        refine bodyPost_ret (v := .tuple #[.agg #[.bool false, .slice a1 z1.length c1, .slice a3 z3.length c3], .int .i64 0]) (by simp [results, Tryz.f17, go_sem, r0, r1, r2]) rfl ?_
        exact ⟨_, _, _, _, _, _, _, rfl, ⟨S1.mono (by omega), S3.mono (by omega)⟩, HAP.out, HI, hB⟩
    | true =>
      by_cases hpar : k % 2 = 1
      · have hp2 : ((k : Int) % 2 == 1) = true := beq_iff_eq.2 (by omega)
        go_enter Tryz.func17, Tryz.ntmps17
        have hs0 := Nat.le_refl w.heap.size
        have hq := below_new w (.cells #[.bool true, .slice a xs.length ca, .slice c ds.length cc] 27)
        replace FA := FA.below hq
        have EA := Box.put (w := w) (k := (w.heap.size)) (.cells #[.bool true, .slice a xs.length ca, .slice c ds.length cc] 27) rfl
        replace hs0 := Nat.le_trans hs0 hq.size
        replace hB := hB.trans (hq.mono hB.size)
        clear hq
        have hq := below_new (w.alloc (.cells #[.bool true, .slice a xs.length ca, .slice c ds.length cc] 27)) (.cells #[.bool false, .slice none 0 0, .slice none 0 0] 27)
        replace FA := FA.below hq
        replace EA := EA.below hq
        have ER := Box.put (w := (w.alloc (.cells #[.bool true, .slice a xs.length ca, .slice c ds.length cc] 27))) (k := (w.heap.size + 1)) (.cells #[.bool false, .slice none 0 0, .slice none 0 0] 27) (by simp)
        replace hs0 := Nat.le_trans hs0 hq.size
        replace hB := hB.trans (hq.mono hB.size)
        clear hq
        go_wp2_with fail
        obtain ⟨u1, hname⟩ := nm hB
        rw [hname] at hs0 hB FA EA ER ⊢
        have zh1 := hB.size
        have zs1 := hs0
        clear hname hs0
        have hk := pcheck_any true FA (by omega) (by omega)
        rw [HA.out] at hk
        refine (hk).mono ?_
        rintro e w2 ⟨rfl, hb⟩
        replace FA := FA.below hb
        replace EA := EA.below hb
        replace ER := ER.below hb
        replace hB := hB.trans (hb.mono hB.size)
        have zz2 := hb.size
        have zh2 := hB.size
        clear hb
        clear hk
        obtain ⟨k0, k1, k2, f0, f1, f2⟩ := EA.three
        obtain ⟨k3, k4, k5, f3, f4, f5⟩ := ER.three
        go_wp2_with fail
        clear k0 k1 k2 f0 f1 f2 k3 k4 k5 f3 f4 f5
        refine (hz _).mono ?_
        rintro e w3 ⟨rfl, hb⟩
        replace FA := FA.below hb
        replace EA := EA.below hb
        replace ER := ER.below hb
        replace hB := hB.trans (hb.mono hB.size)
        have zz3 := hb.size
        have zh3 := hB.size
        clear hb
        obtain ⟨k0, k1, k2, f0, f1, f2⟩ := EA.three
        obtain ⟨k3, k4, k5, f3, f4, f5⟩ := ER.three
        go_wp2_with fail
        clear k0 k1 k2 f0 f1 f2 k3 k4 k5 f3 f4 f5
        refine (raise_any FA.up k hk12 (by omega)).mono ?_
        rintro e w4 ⟨a1, c1, z1, rfl, S1, N1, v1, l1, hb⟩
        have V1 : Hid (val z1 = val xs ^ k) := v1
        have b1 : z1.length ≤ n * k + 1 := by omega
        clear v1 l1
        replace FA := FA.below hb
        replace EA := EA.below hb
        replace ER := ER.below hb
        replace hB := hB.trans (hb.mono hB.size)
        have zz4 := hb.size
        have zh4 := hB.size
        clear hb
        have SU := S1
        obtain ⟨k0, k1, k2, f0, f1, f2⟩ := EA.three
        obtain ⟨k3, k4, k5, f3, f4, f5⟩ := ER.three
        have qEA := EA.lt
        have qER := ER.lt
        have hs0 := Nat.le_refl w4.heap.size
        have hq := below_new w4 (.cells #[.bool true, .slice a1 z1.length c1] 25)
        replace FA := FA.below hq
        replace EA := EA.below hq
        replace ER := ER.below hq
        replace S1 := S1.below hq
        have EU := Box.put (w := w4) (k := (w4.heap.size)) (.cells #[.bool true, .slice a1 z1.length c1] 25) rfl
        replace hs0 := Nat.le_trans hs0 hq.size
        replace hB := hB.trans (hq.mono hB.size)
        clear hq
        go_wp2_with fail
        clear k0 k1 k2 f0 f1 f2 k3 k4 k5 f3 f4 f5
        obtain ⟨u5, hname⟩ := nm hB
        rw [hname] at hs0 hB FA EA ER S1 EU ⊢
        have zh5 := hB.size
        have zs5 := hs0
        clear hname hs0
        replace FA := FA.drew
        have qEA := EA.lt
        replace EA := EA.drew
        have qER := ER.lt
        replace ER := ER.drew
        replace S1 := S1.drew
        have qEU := EU.lt
        replace EU := EU.drew
        refine wp_yields 6 [.is (.agg #[.bool true, .slice a1 z1.length c1]), .is (.pointer (some ⟨w.heap.size, 2, none⟩)), .is (.slice c ds.length cc), .is (.int .i64 k), (Yield.nat u5.heap.size (val ds ^ k) (n * k + 1)), (Yield.natIn (fun s => .agg #[.bool true, .slice a1 z1.length c1, s]) u5.heap.size (val ds ^ k) (n * k + 1))] (by kernel_rfl) (by kernel_rfl) (lt_cons ?_ (lt_cons ?_ (lt_cons ?_ (lt_cons ?_ (lt_cons ?_ (lt_cons ?_ lt_nil)))))) ?_
        case refine_1 =>
          refine OpDoes.mk rfl ?_
          intro vs V hV hd K hK
          have d0 : vs 0 = .agg #[.bool true, .slice a1 z1.length c1] := hd 0 (by decide) (by kernel_rfl)
          have hh := fun (P : Prop) => Yield.nat_elim P (show ((Yield.nat u5.heap.size (val ds ^ k) (n * k + 1)) : Yield).At (vs 4) V from hd 4 (by decide) (by kernel_rfl))
          refine hh _ ?_
          intro a2 c2 z2 d4 S2 N2 V2 b2
          clear hh
          simp only [laidIn, lz1, lz2, lz3, lz4, lz5, lz6, if_true, Act.put, lz7, lz8, lz9] at hK ⊢
          simp only [d0, d4] at hK ⊢
          go_simp
          exact hK.out _ _ (Below.refl _ _) ⟨_, _, _, rfl, S2, N2, V2, b2⟩ (not_fresh rfl)
        case refine_2 =>
          refine OpDoes.mk rfl ?_
          intro vs V hV hd K hK
          have d2 : vs 2 = .slice c ds.length cc := hd 2 (by decide) (by kernel_rfl)
          have d3 : vs 3 = .int .i64 k := hd 3 (by decide) (by kernel_rfl)
          simp only [laidIn, lz1, lz2, lz3, lz4, lz5, lz6, if_true, Act.put, lz7, lz8, lz9] at hK ⊢
          simp only [d2, d3] at hK ⊢
          go_simp
          go_at_call 43
          refine (raise_any (FA.down.below hV) k hk12 (by omega)).mono ?_
          rintro e V' ⟨a2, c2, z2, rfl, S2, N2, v2, l2, hb⟩
          have V2 : Hid (val z2 = val ds ^ k) := v2
          have b2 : z2.length ≤ n * k + 1 := by omega
          clear v2 l2
          exact hK.out _ _ hb ⟨_, _, _, rfl, S2.mono hV.size, N2, V2, b2⟩ (not_fresh rfl)
        case refine_3 =>
          refine OpDoes.mk rfl ?_
          intro vs V hV hd K hK
          simp only [laidIn, lz1, lz2, lz3, lz4, lz5, lz6, if_true, Act.put, lz7, lz8, lz9] at hK ⊢
          go_simp
          exact hK.out _ _ (Below.refl _ _) rfl (not_fresh rfl)
        case refine_4 =>
          refine OpDoes.mk rfl ?_
          intro vs V hV hd K hK
          have d1 : vs 1 = .pointer (some ⟨w.heap.size, 2, none⟩) := hd 1 (by decide) (by kernel_rfl)
          have hcc := (EA.below hV).three
          have k0 := hcc.1
          have k1 := hcc.2.1
          have k2 := hcc.2.2.1
          clear hcc
          simp only [laidIn, lz1, lz2, lz3, lz4, lz5, lz6, if_true, Act.put, lz7, lz8, lz9] at hK ⊢
          simp only [d1] at hK ⊢
          go_simp
          exact hK.out _ _ (Below.refl _ _) rfl (not_fresh rfl)
        case refine_5 =>
          refine OpDoes.mk rfl ?_
          intro vs V hV hd K hK
          simp only [laidIn, lz1, lz2, lz3, lz4, lz5, lz6, if_true, Act.put, lz7, lz8, lz9] at hK ⊢
          go_simp
          exact hK.out _ _ (Below.refl _ _) rfl (not_fresh rfl)
        case refine_6 =>
          refine OpDoes.mk rfl ?_
          intro vs V hV hd K hK
          have hcc := (EU.below hV).two
          have k0 := hcc.1
          have k1 := hcc.2.1
          clear hcc
          simp only [laidIn, lz1, lz2, lz4, lz5, lz6, if_true, Act.put, lz7, lz8, lz9] at hK ⊢
          go_simp
          exact hK.out _ _ (Below.refl _ _) rfl (not_fresh rfl)
        case refine_7 =>
          intro vs Y1 hV hR hne fuel
          have d0 : vs 0 = .agg #[.bool true, .slice a1 z1.length c1] := hR 0 (by decide)
          have d1 : vs 1 = .pointer (some ⟨w.heap.size, 2, none⟩) := hR 1 (by decide)
          have d2 : vs 2 = .slice c ds.length cc := hR 2 (by decide)
          have d3 : vs 3 = .int .i64 k := hR 3 (by decide)
          have hh := fun (P : Prop) => Yield.nat_elim P (show ((Yield.nat u5.heap.size (val ds ^ k) (n * k + 1)) : Yield).At (vs 4) Y1 from hR 4 (by decide))
          refine hh _ ?_
          intro a2 c2 z2 d4 S2 N2 V2 b2
          clear hh
          have hh := fun (P : Prop) => Yield.natIn_elim P (show ((Yield.natIn (fun s => .agg #[.bool true, .slice a1 z1.length c1, s]) u5.heap.size (val ds ^ k) (n * k + 1)) : Yield).At (vs 5) Y1 from hR 5 (by decide))
          refine hh _ ?_
          intro a3 c3 z3 d5 S3 N3 V3 b3
          clear hh
          replace FA := FA.below hV
          replace EA := EA.below hV
          replace ER := ER.below hV
          replace S1 := S1.below hV
          replace EU := EU.below hV
          have hr := hV
          simp only [laidIn, lz4, lz5, lz6, if_true, Act.put, lz7, lz8, lz9]
          simp only [d0, d1, d2, d3, d4, d5]
          clear hR hne hV d0 d1 d2 d3 d4 d5
          clear vs
          show wpAny _ _ _ _ (fuel + 2) _ _ _
          refine wpAny_all (rs := [6]) (by kernel_rfl) (by simp) (fun i hi => ?_)
          obtain rfl : i = 6 := by simpa using hi
          clear hi
          have hcc := ER.three
          have k0 := hcc.1
          have k1 := hcc.2.1
          have k2 := hcc.2.2.1
          have f0 := hcc.2.2.2.1
          have f1 := hcc.2.2.2.2.1
          have f2 := hcc.2.2.2.2.2
          clear hcc
          refine wpOp_step rfl (fun K hK => ?_)
          simp only [lz1, lz2, lz3]
          rw [if_pos (by rfl)]
          go_simp
          refine hK _ _ ?_
          clear hK k0 f0 k1 f1 k2 f2
          have hT := turns3 (w.heap.size + 1) Y1 (.bool true) (.slice a1 z1.length c1) (.slice a3 z3.length c3)
          replace FA := FA.beside ER (noWord3 (fun _ e => by cases e) (fun _ e => by cases e) (fun _ e => by cases e)) hT
          replace EA := EA.turns hT (by omega)
          replace S1 := S1.beside ER (noWord3 (fun _ e => by cases e) (fun _ e => by cases e) (fun _ e => by cases e)) hT
          replace EU := EU.turns hT (by omega)
          replace S2 := S2.beside ER (noWord3 (fun _ e => by cases e) (fun _ e => by cases e) (fun _ e => by cases e)) hT
          replace S3 := S3.beside ER (noWord3 (fun _ e => by cases e) (fun _ e => by cases e) (fun _ e => by cases e)) hT
          replace ER := Box.set3 (.bool true) (.slice a1 z1.length c1) (.slice a3 z3.length c3) ER
          have hr6 := hT.below
          obtain ⟨X1, hX⟩ := nm hT.below
          rw [hX] at FA EA ER S1 EU S2 S3 hr6 ⊢
          clear hX hT
          refine wpAny_all (rs := [7]) (by kernel_rfl) (by simp) (fun i hi => ?_)
          obtain rfl : i = 7 := by simpa using hi
          clear hi
          refine wpOp_step rfl (fun K hK => ?_)
          simp only [lz1, lz2, lz3]
          rw [if_pos (by rfl)]
          go_simp
          refine hK _ _ ?_
          clear hK
          refine wpAny_done (by kernel_rfl) ?_ _
          replace hB := hB.trans ((Below.trans (Below.drew (Below.refl u5.heap.size u5)) hr).mono hB.size)
          replace hB := hB.trans (hr6.mono (by omega))
          have zz5_1 := hr.size
          have zi1 := hB.size
          have zy1_6 := hr6.size
          clear hr hr6
          have HI := pow_is (N := n * k + 1) (k := k) (sg := true) (b := true) IA FA.up.words FA.down.words (by simp [hpar]) V1 N1 V3 N3 (by omega) (by omega)
          have HAP := hide (apart_of (fun h b o e => SU.block h b o e) S3 (by omega) : Apart a1 a3 z1 z3)
          obtain ⟨k0, k1, k2, f0, f1, f2⟩ := EA.three
          obtain ⟨k3, k4, k5, f3, f4, f5⟩ := ER.three
          obtain ⟨k6, k7, f6, f7⟩ := EU.two
          have hcc := ER.three
          have r0 := hcc.1
          have r1 := hcc.2.1
          have r2 := hcc.2.2.1
          clear hcc
          go_wp2
          refine bodyPost_ret (v := .tuple #[.agg #[.bool true, .slice a1 z1.length c1, .slice a3 z3.length c3], .int .i64 0]) (by simp [results, Tryz.f17, go_sem, r0, r1, r2]) rfl ?_
          exact ⟨_, _, _, _, _, _, _, rfl, ⟨S1.mono (by omega), S3.mono (by omega)⟩, HAP.out, HI, hB⟩
      · have hp2 : ((k : Int) % 2 == 1) = false := beq_eq_false_iff_ne.2 (by omega)
        go_enter Tryz.func17, Tryz.ntmps17
        have hs0 := Nat.le_refl w.heap.size
        have hq := below_new w (.cells #[.bool true, .slice a xs.length ca, .slice c ds.length cc] 27)
        replace FA := FA.below hq
        have EA := Box.put (w := w) (k := (w.heap.size)) (.cells #[.bool true, .slice a xs.length ca, .slice c ds.length cc] 27) rfl
        replace hs0 := Nat.le_trans hs0 hq.size
        replace hB := hB.trans (hq.mono hB.size)
        clear hq
        have hq := below_new (w.alloc (.cells #[.bool true, .slice a xs.length ca, .slice c ds.length cc] 27)) (.cells #[.bool false, .slice none 0 0, .slice none 0 0] 27)
        replace FA := FA.below hq
        replace EA := EA.below hq
        have ER := Box.put (w := (w.alloc (.cells #[.bool true, .slice a xs.length ca, .slice c ds.length cc] 27))) (k := (w.heap.size + 1)) (.cells #[.bool false, .slice none 0 0, .slice none 0 0] 27) (by simp)
        replace hs0 := Nat.le_trans hs0 hq.size
        replace hB := hB.trans (hq.mono hB.size)
        clear hq
        go_wp2_with fail
        obtain ⟨u1, hname⟩ := nm hB
        rw [hname] at hs0 hB FA EA ER ⊢
        have zh1 := hB.size
        have zs1 := hs0
        clear hname hs0
        have hk := pcheck_any true FA (by omega) (by omega)
        rw [HA.out] at hk
        refine (hk).mono ?_
        rintro e w2 ⟨rfl, hb⟩
        replace FA := FA.below hb
        replace EA := EA.below hb
        replace ER := ER.below hb
        replace hB := hB.trans (hb.mono hB.size)
        have zz2 := hb.size
        have zh2 := hB.size
        clear hb
        clear hk
        obtain ⟨k0, k1, k2, f0, f1, f2⟩ := EA.three
        obtain ⟨k3, k4, k5, f3, f4, f5⟩ := ER.three
        go_wp2_with fail
        clear k0 k1 k2 f0 f1 f2 k3 k4 k5 f3 f4 f5
        refine (hz _).mono ?_
        rintro e w3 ⟨rfl, hb⟩
        replace FA := FA.below hb
        replace EA := EA.below hb
        replace ER := ER.below hb
        replace hB := hB.trans (hb.mono hB.size)
        have zz3 := hb.size
        have zh3 := hB.size
        clear hb
        obtain ⟨k0, k1, k2, f0, f1, f2⟩ := EA.three
        obtain ⟨k3, k4, k5, f3, f4, f5⟩ := ER.three
        go_wp2_with fail
        clear k0 k1 k2 f0 f1 f2 k3 k4 k5 f3 f4 f5
        refine (raise_any FA.up k hk12 (by omega)).mono ?_
        rintro e w4 ⟨a1, c1, z1, rfl, S1, N1, v1, l1, hb⟩
        have V1 : Hid (val z1 = val xs ^ k) := v1
        have b1 : z1.length ≤ n * k + 1 := by omega
        clear v1 l1
        replace FA := FA.below hb
        replace EA := EA.below hb
        replace ER := ER.below hb
        replace hB := hB.trans (hb.mono hB.size)
        have zz4 := hb.size
        have zh4 := hB.size
        clear hb
        have SU := S1
        obtain ⟨k0, k1, k2, f0, f1, f2⟩ := EA.three
        obtain ⟨k3, k4, k5, f3, f4, f5⟩ := ER.three
        have qEA := EA.lt
        have qER := ER.lt
        have hs0 := Nat.le_refl w4.heap.size
        have hq := below_new w4 (.cells #[.bool false, .slice a1 z1.length c1] 25)
        replace FA := FA.below hq
        replace EA := EA.below hq
        replace ER := ER.below hq
        replace S1 := S1.below hq
        have EU := Box.put (w := w4) (k := (w4.heap.size)) (.cells #[.bool false, .slice a1 z1.length c1] 25) rfl
        replace hs0 := Nat.le_trans hs0 hq.size
        replace hB := hB.trans (hq.mono hB.size)
        clear hq
        go_wp2_with fail
        clear k0 k1 k2 f0 f1 f2 k3 k4 k5 f3 f4 f5
        obtain ⟨u5, hname⟩ := nm hB
        rw [hname] at hs0 hB FA EA ER S1 EU ⊢
        have zh5 := hB.size
        have zs5 := hs0
        clear hname hs0
        replace FA := FA.drew
        have qEA := EA.lt
        replace EA := EA.drew
        have qER := ER.lt
        replace ER := ER.drew
        replace S1 := S1.drew
        have qEU := EU.lt
        replace EU := EU.drew
        refine wp_yields 6 [.is (.agg #[.bool false, .slice a1 z1.length c1]), .is (.pointer (some ⟨w.heap.size, 2, none⟩)), .is (.slice c ds.length cc), .is (.int .i64 k), (Yield.nat u5.heap.size (val ds ^ k) (n * k + 1)), (Yield.natIn (fun s => .agg #[.bool false, .slice a1 z1.length c1, s]) u5.heap.size (val ds ^ k) (n * k + 1))] (by kernel_rfl) (by kernel_rfl) (lt_cons ?_ (lt_cons ?_ (lt_cons ?_ (lt_cons ?_ (lt_cons ?_ (lt_cons ?_ lt_nil)))))) ?_
        case refine_1 =>
          refine OpDoes.mk rfl ?_
          intro vs V hV hd K hK
          have d0 : vs 0 = .agg #[.bool false, .slice a1 z1.length c1] := hd 0 (by decide) (by kernel_rfl)
          have hh := fun (P : Prop) => Yield.nat_elim P (show ((Yield.nat u5.heap.size (val ds ^ k) (n * k + 1)) : Yield).At (vs 4) V from hd 4 (by decide) (by kernel_rfl))
          refine hh _ ?_
          intro a2 c2 z2 d4 S2 N2 V2 b2
          clear hh
          simp only [laidIn, lz1, lz2, lz3, lz4, lz5, lz6, if_true, Act.put, lz7, lz8, lz9] at hK ⊢
          simp only [d0, d4] at hK ⊢
          go_simp
          exact hK.out _ _ (Below.refl _ _) ⟨_, _, _, rfl, S2, N2, V2, b2⟩ (not_fresh rfl)
        case refine_2 =>
          refine OpDoes.mk rfl ?_
          intro vs V hV hd K hK
          have d2 : vs 2 = .slice c ds.length cc := hd 2 (by decide) (by kernel_rfl)
          have d3 : vs 3 = .int .i64 k := hd 3 (by decide) (by kernel_rfl)
          simp only [laidIn, lz1, lz2, lz3, lz4, lz5, lz6, if_true, Act.put, lz7, lz8, lz9] at hK ⊢
          simp only [d2, d3] at hK ⊢
          go_simp
          go_at_call 43
          refine (raise_any (FA.down.below hV) k hk12 (by omega)).mono ?_
          rintro e V' ⟨a2, c2, z2, rfl, S2, N2, v2, l2, hb⟩
          have V2 : Hid (val z2 = val ds ^ k) := v2
          have b2 : z2.length ≤ n * k + 1 := by omega
          clear v2 l2
          exact hK.out _ _ hb ⟨_, _, _, rfl, S2.mono hV.size, N2, V2, b2⟩ (not_fresh rfl)
        case refine_3 =>
          refine OpDoes.mk rfl ?_
          intro vs V hV hd K hK
          simp only [laidIn, lz1, lz2, lz3, lz4, lz5, lz6, if_true, Act.put, lz7, lz8, lz9] at hK ⊢
          go_simp
          exact hK.out _ _ (Below.refl _ _) rfl (not_fresh rfl)
        case refine_4 =>
          refine OpDoes.mk rfl ?_
          intro vs V hV hd K hK
          have d1 : vs 1 = .pointer (some ⟨w.heap.size, 2, none⟩) := hd 1 (by decide) (by kernel_rfl)
          have hcc := (EA.below hV).three
          have k0 := hcc.1
          have k1 := hcc.2.1
          have k2 := hcc.2.2.1
          clear hcc
          simp only [laidIn, lz1, lz2, lz3, lz4, lz5, lz6, if_true, Act.put, lz7, lz8, lz9] at hK ⊢
          simp only [d1] at hK ⊢
          go_simp
          exact hK.out _ _ (Below.refl _ _) rfl (not_fresh rfl)
        case refine_5 =>
          refine OpDoes.mk rfl ?_
          intro vs V hV hd K hK
          simp only [laidIn, lz1, lz2, lz3, lz4, lz5, lz6, if_true, Act.put, lz7, lz8, lz9] at hK ⊢
          go_simp
          exact hK.out _ _ (Below.refl _ _) rfl (not_fresh rfl)
        case refine_6 =>
          refine OpDoes.mk rfl ?_
          intro vs V hV hd K hK
          have hcc := (EU.below hV).two
          have k0 := hcc.1
          have k1 := hcc.2.1
          clear hcc
          simp only [laidIn, lz1, lz2, lz4, lz5, lz6, if_true, Act.put, lz7, lz8, lz9] at hK ⊢
          go_simp
          exact hK.out _ _ (Below.refl _ _) rfl (not_fresh rfl)
        case refine_7 =>
          intro vs Y1 hV hR hne fuel
          have d0 : vs 0 = .agg #[.bool false, .slice a1 z1.length c1] := hR 0 (by decide)
          have d1 : vs 1 = .pointer (some ⟨w.heap.size, 2, none⟩) := hR 1 (by decide)
          have d2 : vs 2 = .slice c ds.length cc := hR 2 (by decide)
          have d3 : vs 3 = .int .i64 k := hR 3 (by decide)
          have hh := fun (P : Prop) => Yield.nat_elim P (show ((Yield.nat u5.heap.size (val ds ^ k) (n * k + 1)) : Yield).At (vs 4) Y1 from hR 4 (by decide))
          refine hh _ ?_
          intro a2 c2 z2 d4 S2 N2 V2 b2
          clear hh
          have hh := fun (P : Prop) => Yield.natIn_elim P (show ((Yield.natIn (fun s => .agg #[.bool false, .slice a1 z1.length c1, s]) u5.heap.size (val ds ^ k) (n * k + 1)) : Yield).At (vs 5) Y1 from hR 5 (by decide))
          refine hh _ ?_
          intro a3 c3 z3 d5 S3 N3 V3 b3
          clear hh
          replace FA := FA.below hV
          replace EA := EA.below hV
          replace ER := ER.below hV
          replace S1 := S1.below hV
          replace EU := EU.below hV
          have hr := hV
          simp only [laidIn, lz4, lz5, lz6, if_true, Act.put, lz7, lz8, lz9]
          simp only [d0, d1, d2, d3, d4, d5]
          clear hR hne hV d0 d1 d2 d3 d4 d5
          clear vs
          show wpAny _ _ _ _ (fuel + 2) _ _ _
          refine wpAny_all (rs := [6]) (by kernel_rfl) (by simp) (fun i hi => ?_)
          obtain rfl : i = 6 := by simpa using hi
          clear hi
          have hcc := ER.three
          have k0 := hcc.1
          have k1 := hcc.2.1
          have k2 := hcc.2.2.1
          have f0 := hcc.2.2.2.1
          have f1 := hcc.2.2.2.2.1
          have f2 := hcc.2.2.2.2.2
          clear hcc
          refine wpOp_step rfl (fun K hK => ?_)
          simp only [lz1, lz2, lz3]
          rw [if_pos (by rfl)]
          go_simp
          refine hK _ _ ?_
          clear hK k0 f0 k1 f1 k2 f2
          have hT := turns3 (w.heap.size + 1) Y1 (.bool false) (.slice a1 z1.length c1) (.slice a3 z3.length c3)
          replace FA := FA.beside ER (noWord3 (fun _ e => by cases e) (fun _ e => by cases e) (fun _ e => by cases e)) hT
          replace EA := EA.turns hT (by omega)
          replace S1 := S1.beside ER (noWord3 (fun _ e => by cases e) (fun _ e => by cases e) (fun _ e => by cases e)) hT
          replace EU := EU.turns hT (by omega)
          replace S2 := S2.beside ER (noWord3 (fun _ e => by cases e) (fun _ e => by cases e) (fun _ e => by cases e)) hT
          replace S3 := S3.beside ER (noWord3 (fun _ e => by cases e) (fun _ e => by cases e) (fun _ e => by cases e)) hT
          replace ER := Box.set3 (.bool false) (.slice a1 z1.length c1) (.slice a3 z3.length c3) ER
          have hr6 := hT.below
          obtain ⟨X1, hX⟩ := nm hT.below
          rw [hX] at FA EA ER S1 EU S2 S3 hr6 ⊢
          clear hX hT
          refine wpAny_all (rs := [7]) (by kernel_rfl) (by simp) (fun i hi => ?_)
          obtain rfl : i = 7 := by simpa using hi
          clear hi
          refine wpOp_step rfl (fun K hK => ?_)
          simp only [lz1, lz2, lz3]
          rw [if_pos (by rfl)]
          go_simp
          refine hK _ _ ?_
          clear hK
          refine wpAny_done (by kernel_rfl) ?_ _
          replace hB := hB.trans ((Below.trans (Below.drew (Below.refl u5.heap.size u5)) hr).mono hB.size)
          replace hB := hB.trans (hr6.mono (by omega))
          have zz5_1 := hr.size
          have zi1 := hB.size
          have zy1_6 := hr6.size
          clear hr hr6
          have HI := pow_is (N := n * k + 1) (k := k) (sg := false) (b := true) IA FA.up.words FA.down.words (by simp [hpar]) V1 N1 V3 N3 (by omega) (by omega)
          have HAP := hide (apart_of (fun h b o e => SU.block h b o e) S3 (by omega) : Apart a1 a3 z1 z3)
          obtain ⟨k0, k1, k2, f0, f1, f2⟩ := EA.three
          obtain ⟨k3, k4, k5, f3, f4, f5⟩ := ER.three
          obtain ⟨k6, k7, f6, f7⟩ := EU.two
          have hcc := ER.three
          have r0 := hcc.1
          have r1 := hcc.2.1
          have r2 := hcc.2.2.1
          clear hcc
          go_wp2
          refine bodyPost_ret (v := .tuple #[.agg #[.bool false, .slice a1 z1.length c1, .slice a3 z3.length c3], .int .i64 0]) (by simp [results, Tryz.f17, go_sem, r0, r1, r2]) rfl ?_
          exact ⟨_, _, _, _, _, _, _, rfl, ⟨S1.mono (by omega), S3.mono (by omega)⟩, HAP.out, HI, hB⟩
  | false =>
    cases b with
    | false =>
      go_enter Tryz.func17, Tryz.ntmps17
      have hs0 := Nat.le_refl w.heap.size
      have hq := below_new w (.cells #[.bool false, .slice a xs.length ca, .slice c ds.length cc] 27)
      replace FA := FA.below hq
      have EA := Box.put (w := w) (k := (w.heap.size)) (.cells #[.bool false, .slice a xs.length ca, .slice c ds.length cc] 27) rfl
      replace hs0 := Nat.le_trans hs0 hq.size
      replace hB := hB.trans (hq.mono hB.size)
      clear hq
      have hq := below_new (w.alloc (.cells #[.bool false, .slice a xs.length ca, .slice c ds.length cc] 27)) (.cells #[.bool false, .slice none 0 0, .slice none 0 0] 27)
      replace FA := FA.below hq
      replace EA := EA.below hq
      have ER := Box.put (w := (w.alloc (.cells #[.bool false, .slice a xs.length ca, .slice c ds.length cc] 27))) (k := (w.heap.size + 1)) (.cells #[.bool false, .slice none 0 0, .slice none 0 0] 27) (by simp)
      replace hs0 := Nat.le_trans hs0 hq.size
      replace hB := hB.trans (hq.mono hB.size)
      clear hq
      go_wp2_with fail
      obtain ⟨u1, hname⟩ := nm hB
      rw [hname] at hs0 hB FA EA ER ⊢
      have zh1 := hB.size
      have zs1 := hs0
      clear hname hs0
      have hk := pcheck_any false FA (by omega) (by omega)
      rw [HA.out] at hk
      refine (hk).mono ?_
      rintro e w2 ⟨rfl, hb⟩
      replace FA := FA.below hb
      replace EA := EA.below hb
      replace ER := ER.below hb
      replace hB := hB.trans (hb.mono hB.size)
      have zz2 := hb.size
      have zh2 := hB.size
      clear hb
      clear hk
      obtain ⟨k0, k1, k2, f0, f1, f2⟩ := EA.three
      obtain ⟨k3, k4, k5, f3, f4, f5⟩ := ER.three
      go_wp2_with fail
      clear k0 k1 k2 f0 f1 f2 k3 k4 k5 f3 f4 f5
      refine (hz _).mono ?_
      rintro e w3 ⟨rfl, hb⟩
      replace FA := FA.below hb
      replace EA := EA.below hb
      replace ER := ER.below hb
      replace hB := hB.trans (hb.mono hB.size)
      have zz3 := hb.size
      have zh3 := hB.size
      clear hb
      obtain ⟨k0, k1, k2, f0, f1, f2⟩ := EA.three
      obtain ⟨k3, k4, k5, f3, f4, f5⟩ := ER.three
      go_wp2_with fail
      clear k0 k1 k2 f0 f1 f2 k3 k4 k5 f3 f4 f5
      refine (raise_any FA.up k hk12 (by omega)).mono ?_
      rintro e w4 ⟨a1, c1, z1, rfl, S1, N1, v1, l1, hb⟩
      have V1 : Hid (val z1 = val xs ^ k) := v1
      have b1 : z1.length ≤ n * k + 1 := by omega
      clear v1 l1
      replace FA := FA.below hb
      replace EA := EA.below hb
      replace ER := ER.below hb
      replace hB := hB.trans (hb.mono hB.size)
      have zz4 := hb.size
      have zh4 := hB.size
      clear hb
      have SU := S1
      obtain ⟨k0, k1, k2, f0, f1, f2⟩ := EA.three
      obtain ⟨k3, k4, k5, f3, f4, f5⟩ := ER.three
      have qEA := EA.lt
      have qER := ER.lt
      have hs0 := Nat.le_refl w4.heap.size
      have hq := below_new w4 (.cells #[.bool false, .slice a1 z1.length c1] 25)
      replace FA := FA.below hq
      replace EA := EA.below hq
      replace ER := ER.below hq
      replace S1 := S1.below hq
      have EU := Box.put (w := w4) (k := (w4.heap.size)) (.cells #[.bool false, .slice a1 z1.length c1] 25) rfl
      replace hs0 := Nat.le_trans hs0 hq.size
      replace hB := hB.trans (hq.mono hB.size)
      clear hq
      go_wp2_with fail
      clear k0 k1 k2 f0 f1 f2 k3 k4 k5 f3 f4 f5
      obtain ⟨u5, hname⟩ := nm hB
      rw [hname] at hs0 hB FA EA ER S1 EU ⊢
      have zh5 := hB.size
      have zs5 := hs0
      clear hname hs0
      replace FA := FA.drew
      have qEA := EA.lt
      replace EA := EA.drew
      have qER := ER.lt
      replace ER := ER.drew
      replace S1 := S1.drew
      have qEU := EU.lt
      replace EU := EU.drew
      refine wp_yields 6 [.is (.agg #[.bool false, .slice a1 z1.length c1]), .is (.pointer (some ⟨w.heap.size, 2, none⟩)), .is (.slice c ds.length cc), .is (.int .i64 k), (Yield.nat u5.heap.size (val ds ^ k) (n * k + 1)), (Yield.natIn (fun s => .agg #[.bool false, .slice a1 z1.length c1, s]) u5.heap.size (val ds ^ k) (n * k + 1))] (by kernel_rfl) (by kernel_rfl) (lt_cons ?_ (lt_cons ?_ (lt_cons ?_ (lt_cons ?_ (lt_cons ?_ (lt_cons ?_ lt_nil)))))) ?_
      case refine_1 =>
        refine OpDoes.mk rfl ?_
        intro vs V hV hd K hK
        have d0 : vs 0 = .agg #[.bool false, .slice a1 z1.length c1] := hd 0 (by decide) (by kernel_rfl)
        have hh := fun (P : Prop) => Yield.nat_elim P (show ((Yield.nat u5.heap.size (val ds ^ k) (n * k + 1)) : Yield).At (vs 4) V from hd 4 (by decide) (by kernel_rfl))
        refine hh _ ?_
        intro a2 c2 z2 d4 S2 N2 V2 b2
        clear hh
        simp only [laidIn, lz1, lz2, lz3, lz4, lz5, lz6, if_true, Act.put, lz7, lz8, lz9] at hK ⊢
        simp only [d0, d4] at hK ⊢
        go_simp
        exact hK.out _ _ (Below.refl _ _) ⟨_, _, _, rfl, S2, N2, V2, b2⟩ (not_fresh rfl)
      case refine_2 =>
        refine OpDoes.mk rfl ?_
        intro vs V hV hd K hK
        have d2 : vs 2 = .slice c ds.length cc := hd 2 (by decide) (by kernel_rfl)
        have d3 : vs 3 = .int .i64 k := hd 3 (by decide) (by kernel_rfl)
        simp only [laidIn, lz1, lz2, lz3, lz4, lz5, lz6, if_true, Act.put, lz7, lz8, lz9] at hK ⊢
        simp only [d2, d3] at hK ⊢
        go_simp
        go_at_call 43
        refine (raise_any (FA.down.below hV) k hk12 (by omega)).mono ?_
        rintro e V' ⟨a2, c2, z2, rfl, S2, N2, v2, l2, hb⟩
        have V2 : Hid (val z2 = val ds ^ k) := v2
        have b2 : z2.length ≤ n * k + 1 := by omega
        clear v2 l2
        exact hK.out _ _ hb ⟨_, _, _, rfl, S2.mono hV.size, N2, V2, b2⟩ (not_fresh rfl)
      case refine_3 =>
        refine OpDoes.mk rfl ?_
        intro vs V hV hd K hK
        simp only [laidIn, lz1, lz2, lz3, lz4, lz5, lz6, if_true, Act.put, lz7, lz8, lz9] at hK ⊢
        go_simp
        exact hK.out _ _ (Below.refl _ _) rfl (not_fresh rfl)
      case refine_4 =>
        refine OpDoes.mk rfl ?_
        intro vs V hV hd K hK
        have d1 : vs 1 = .pointer (some ⟨w.heap.size, 2, none⟩) := hd 1 (by decide) (by kernel_rfl)
        have hcc := (EA.below hV).three
        have k0 := hcc.1
        have k1 := hcc.2.1
        have k2 := hcc.2.2.1
        clear hcc
        simp only [laidIn, lz1, lz2, lz3, lz4, lz5, lz6, if_true, Act.put, lz7, lz8, lz9] at hK ⊢
        simp only [d1] at hK ⊢
        go_simp
        exact hK.out _ _ (Below.refl _ _) rfl (not_fresh rfl)
      case refine_5 =>
        refine OpDoes.mk rfl ?_
        intro vs V hV hd K hK
        simp only [laidIn, lz1, lz2, lz3, lz4, lz5, lz6, if_true, Act.put, lz7, lz8, lz9] at hK ⊢
        go_simp
        exact hK.out _ _ (Below.refl _ _) rfl (not_fresh rfl)
      case refine_6 =>
        refine OpDoes.mk rfl ?_
        intro vs V hV hd K hK
        have hcc := (EU.below hV).two
        have k0 := hcc.1
        have k1 := hcc.2.1
        clear hcc
        simp only [laidIn, lz1, lz2, lz4, lz5, lz6, if_true, Act.put, lz7, lz8, lz9] at hK ⊢
        go_simp
        exact hK.out _ _ (Below.refl _ _) rfl (not_fresh rfl)
      case refine_7 =>
        intro vs Y1 hV hR hne fuel
        have d0 : vs 0 = .agg #[.bool false, .slice a1 z1.length c1] := hR 0 (by decide)
        have d1 : vs 1 = .pointer (some ⟨w.heap.size, 2, none⟩) := hR 1 (by decide)
        have d2 : vs 2 = .slice c ds.length cc := hR 2 (by decide)
        have d3 : vs 3 = .int .i64 k := hR 3 (by decide)
        have hh := fun (P : Prop) => Yield.nat_elim P (show ((Yield.nat u5.heap.size (val ds ^ k) (n * k + 1)) : Yield).At (vs 4) Y1 from hR 4 (by decide))
        refine hh _ ?_
        intro a2 c2 z2 d4 S2 N2 V2 b2
        clear hh
        have hh := fun (P : Prop) => Yield.natIn_elim P (show ((Yield.natIn (fun s => .agg #[.bool false, .slice a1 z1.length c1, s]) u5.heap.size (val ds ^ k) (n * k + 1)) : Yield).At (vs 5) Y1 from hR 5 (by decide))
        refine hh _ ?_
        intro a3 c3 z3 d5 S3 N3 V3 b3
        clear hh
        replace FA := FA.below hV
        replace EA := EA.below hV
        replace ER := ER.below hV
        replace S1 := S1.below hV
        replace EU := EU.below hV
        have hr := hV
        simp only [laidIn, lz4, lz5, lz6, if_true, Act.put, lz7, lz8, lz9]
        simp only [d0, d1, d2, d3, d4, d5]
        clear hR hne hV d0 d1 d2 d3 d4 d5
        clear vs
        show wpAny _ _ _ _ (fuel + 2) _ _ _
        refine wpAny_all (rs := [6]) (by kernel_rfl) (by simp) (fun i hi => ?_)
        obtain rfl : i = 6 := by simpa using hi
        clear hi
        have hcc := ER.three
        have k0 := hcc.1
        have k1 := hcc.2.1
        have k2 := hcc.2.2.1
        have f0 := hcc.2.2.2.1
        have f1 := hcc.2.2.2.2.1
        have f2 := hcc.2.2.2.2.2
        clear hcc
        refine wpOp_step rfl (fun K hK => ?_)
        simp only [lz1, lz2, lz3]
        rw [if_pos (by rfl)]
        go_simp
        refine hK _ _ ?_
        clear hK k0 f0 k1 f1 k2 f2
        have hT := turns3 (w.heap.size + 1) Y1 (.bool false) (.slice a1 z1.length c1) (.slice a3 z3.length c3)
        replace FA := FA.beside ER (noWord3 (fun _ e => by cases e) (fun _ e => by cases e) (fun _ e => by cases e)) hT
        replace EA := EA.turns hT (by omega)
        replace S1 := S1.beside ER (noWord3 (fun _ e => by cases e) (fun _ e => by cases e) (fun _ e => by cases e)) hT
        replace EU := EU.turns hT (by omega)
        replace S2 := S2.beside ER (noWord3 (fun _ e => by cases e) (fun _ e => by cases e) (fun _ e => by cases e)) hT
        replace S3 := S3.beside ER (noWord3 (fun _ e => by cases e) (fun _ e => by cases e) (fun _ e => by cases e)) hT
        replace ER := Box.set3 (.bool false) (.slice a1 z1.length c1) (.slice a3 z3.length c3) ER
        have hr6 := hT.below
        obtain ⟨X1, hX⟩ := nm hT.below
        rw [hX] at FA EA ER S1 EU S2 S3 hr6 ⊢
        clear hX hT
        refine wpAny_all (rs := [7]) (by kernel_rfl) (by simp) (fun i hi => ?_)
        obtain rfl : i = 7 := by simpa using hi
        clear hi
        refine wpOp_step rfl (fun K hK => ?_)
        simp only [lz1, lz2, lz3]
        rw [if_pos (by rfl)]
        go_simp
        refine hK _ _ ?_
        clear hK
        refine wpAny_done (by kernel_rfl) ?_ _
        replace hB := hB.trans ((Below.trans (Below.drew (Below.refl u5.heap.size u5)) hr).mono hB.size)
        replace hB := hB.trans (hr6.mono (by omega))
        have zz5_1 := hr.size
        have zi1 := hB.size
        have zy1_6 := hr6.size
        clear hr hr6
        have HI := pow_is (N := n * k + 1) (k := k) (sg := false) (b := false) IA FA.up.words FA.down.words (by simp) V1 N1 V3 N3 (by omega) (by omega)
        have HAP := hide (apart_of (fun h b o e => SU.block h b o e) S3 (by omega) : Apart a1 a3 z1 z3)
        obtain ⟨k0, k1, k2, f0, f1, f2⟩ := EA.three
        obtain ⟨k3, k4, k5, f3, f4, f5⟩ := ER.three
        obtain ⟨k6, k7, f6, f7⟩ := EU.two
        have hcc := ER.three
        have r0 := hcc.1
        have r1 := hcc.2.1
        have r2 := hcc.2.2.1
        clear hcc
        go_wp2
        refine bodyPost_ret (v := .tuple #[.agg #[.bool false, .slice a1 z1.length c1, .slice a3 z3.length c3], .int .i64 0]) (by simp [results, Tryz.f17, go_sem, r0, r1, r2]) rfl ?_
        exact ⟨_, _, _, _, _, _, _, rfl, ⟨S1.mono (by omega), S3.mono (by omega)⟩, HAP.out, HI, hB⟩
    | true =>
      by_cases hpar : k % 2 = 1
      · have hp2 : ((k : Int) % 2 == 1) = true := beq_iff_eq.2 (by omega)
        go_enter Tryz.func17, Tryz.ntmps17
        have hs0 := Nat.le_refl w.heap.size
        have hq := below_new w (.cells #[.bool true, .slice a xs.length ca, .slice c ds.length cc] 27)
        replace FA := FA.below hq
        have EA := Box.put (w := w) (k := (w.heap.size)) (.cells #[.bool true, .slice a xs.length ca, .slice c ds.length cc] 27) rfl
        replace hs0 := Nat.le_trans hs0 hq.size
        replace hB := hB.trans (hq.mono hB.size)
        clear hq
        have hq := below_new (w.alloc (.cells #[.bool true, .slice a xs.length ca, .slice c ds.length cc] 27)) (.cells #[.bool false, .slice none 0 0, .slice none 0 0] 27)
        replace FA := FA.below hq
        replace EA := EA.below hq
        have ER := Box.put (w := (w.alloc (.cells #[.bool true, .slice a xs.length ca, .slice c ds.length cc] 27))) (k := (w.heap.size + 1)) (.cells #[.bool false, .slice none 0 0, .slice none 0 0] 27) (by simp)
        replace hs0 := Nat.le_trans hs0 hq.size
        replace hB := hB.trans (hq.mono hB.size)
        clear hq
        go_wp2_with fail
        obtain ⟨u1, hname⟩ := nm hB
        rw [hname] at hs0 hB FA EA ER ⊢
        have zh1 := hB.size
        have zs1 := hs0
        clear hname hs0
        have hk := pcheck_any true FA (by omega) (by omega)
        rw [HA.out] at hk
        refine (hk).mono ?_
        rintro e w2 ⟨rfl, hb⟩
        replace FA := FA.below hb
        replace EA := EA.below hb
        replace ER := ER.below hb
        replace hB := hB.trans (hb.mono hB.size)
        have zz2 := hb.size
        have zh2 := hB.size
        clear hb
        clear hk
        obtain ⟨k0, k1, k2, f0, f1, f2⟩ := EA.three
        obtain ⟨k3, k4, k5, f3, f4, f5⟩ := ER.three
        go_wp2_with fail
        clear k0 k1 k2 f0 f1 f2 k3 k4 k5 f3 f4 f5
        refine (hz _).mono ?_
        rintro e w3 ⟨rfl, hb⟩
        replace FA := FA.below hb
        replace EA := EA.below hb
        replace ER := ER.below hb
        replace hB := hB.trans (hb.mono hB.size)
        have zz3 := hb.size
        have zh3 := hB.size
        clear hb
        obtain ⟨k0, k1, k2, f0, f1, f2⟩ := EA.three
        obtain ⟨k3, k4, k5, f3, f4, f5⟩ := ER.three
        go_wp2_with fail
        clear k0 k1 k2 f0 f1 f2 k3 k4 k5 f3 f4 f5
        refine (raise_any FA.up k hk12 (by omega)).mono ?_
        rintro e w4 ⟨a1, c1, z1, rfl, S1, N1, v1, l1, hb⟩
        have V1 : Hid (val z1 = val xs ^ k) := v1
        have b1 : z1.length ≤ n * k + 1 := by omega
        clear v1 l1
        replace FA := FA.below hb
        replace EA := EA.below hb
        replace ER := ER.below hb
        replace hB := hB.trans (hb.mono hB.size)
        have zz4 := hb.size
        have zh4 := hB.size
        clear hb
        have SU := S1
        obtain ⟨k0, k1, k2, f0, f1, f2⟩ := EA.three
        obtain ⟨k3, k4, k5, f3, f4, f5⟩ := ER.three
        have qEA := EA.lt
        have qER := ER.lt
        have hs0 := Nat.le_refl w4.heap.size
        have hq := below_new w4 (.cells #[.bool true, .slice a1 z1.length c1] 25)
        replace FA := FA.below hq
        replace EA := EA.below hq
        replace ER := ER.below hq
        replace S1 := S1.below hq
        have EU := Box.put (w := w4) (k := (w4.heap.size)) (.cells #[.bool true, .slice a1 z1.length c1] 25) rfl
        replace hs0 := Nat.le_trans hs0 hq.size
        replace hB := hB.trans (hq.mono hB.size)
        clear hq
        go_wp2_with fail
        clear k0 k1 k2 f0 f1 f2 k3 k4 k5 f3 f4 f5
        obtain ⟨u5, hname⟩ := nm hB
        rw [hname] at hs0 hB FA EA ER S1 EU ⊢
        have zh5 := hB.size
        have zs5 := hs0
        clear hname hs0
        replace FA := FA.drew
        have qEA := EA.lt
        replace EA := EA.drew
        have qER := ER.lt
        replace ER := ER.drew
        replace S1 := S1.drew
        have qEU := EU.lt
        replace EU := EU.drew
        refine wp_yields 6 [.is (.agg #[.bool true, .slice a1 z1.length c1]), .is (.pointer (some ⟨w.heap.size, 2, none⟩)), .is (.slice c ds.length cc), .is (.int .i64 k), (Yield.nat u5.heap.size (val ds ^ k) (n * k + 1)), (Yield.natIn (fun s => .agg #[.bool true, .slice a1 z1.length c1, s]) u5.heap.size (val ds ^ k) (n * k + 1))] (by kernel_rfl) (by kernel_rfl) (lt_cons ?_ (lt_cons ?_ (lt_cons ?_ (lt_cons ?_ (lt_cons ?_ (lt_cons ?_ lt_nil)))))) ?_
        case refine_1 =>
          refine OpDoes.mk rfl ?_
          intro vs V hV hd K hK
          have d0 : vs 0 = .agg #[.bool true, .slice a1 z1.length c1] := hd 0 (by decide) (by kernel_rfl)
          have hh := fun (P : Prop) => Yield.nat_elim P (show ((Yield.nat u5.heap.size (val ds ^ k) (n * k + 1)) : Yield).At (vs 4) V from hd 4 (by decide) (by kernel_rfl))
          refine hh _ ?_
          intro a2 c2 z2 d4 S2 N2 V2 b2
          clear hh
          simp only [laidIn, lz1, lz2, lz3, lz4, lz5, lz6, if_true, Act.put, lz7, lz8, lz9] at hK ⊢
          simp only [d0, d4] at hK ⊢
          go_simp
          exact hK.out _ _ (Below.refl _ _) ⟨_, _, _, rfl, S2, N2, V2, b2⟩ (not_fresh rfl)
        case refine_2 =>
          refine OpDoes.mk rfl ?_
          intro vs V hV hd K hK
          have d2 : vs 2 = .slice c ds.length cc := hd 2 (by decide) (by kernel_rfl)
          have d3 : vs 3 = .int .i64 k := hd 3 (by decide) (by kernel_rfl)
          simp only [laidIn, lz1, lz2, lz3, lz4, lz5, lz6, if_true, Act.put, lz7, lz8, lz9] at hK ⊢
          simp only [d2, d3] at hK ⊢
          go_simp
          go_at_call 43
          refine (raise_any (FA.down.below hV) k hk12 (by omega)).mono ?_
          rintro e V' ⟨a2, c2, z2, rfl, S2, N2, v2, l2, hb⟩
          have V2 : Hid (val z2 = val ds ^ k) := v2
          have b2 : z2.length ≤ n * k + 1 := by omega
          clear v2 l2
          exact hK.out _ _ hb ⟨_, _, _, rfl, S2.mono hV.size, N2, V2, b2⟩ (not_fresh rfl)
        case refine_3 =>
          refine OpDoes.mk rfl ?_
          intro vs V hV hd K hK
          simp only [laidIn, lz1, lz2, lz3, lz4, lz5, lz6, if_true, Act.put, lz7, lz8, lz9] at hK ⊢
          go_simp
          exact hK.out _ _ (Below.refl _ _) rfl (not_fresh rfl)
        case refine_4 =>
          refine OpDoes.mk rfl ?_
          intro vs V hV hd K hK
          have d1 : vs 1 = .pointer (some ⟨w.heap.size, 2, none⟩) := hd 1 (by decide) (by kernel_rfl)
          have hcc := (EA.below hV).three
          have k0 := hcc.1
          have k1 := hcc.2.1
          have k2 := hcc.2.2.1
          clear hcc
          simp only [laidIn, lz1, lz2, lz3, lz4, lz5, lz6, if_true, Act.put, lz7, lz8, lz9] at hK ⊢
          simp only [d1] at hK ⊢
          go_simp
          exact hK.out _ _ (Below.refl _ _) rfl (not_fresh rfl)
        case refine_5 =>
          refine OpDoes.mk rfl ?_
          intro vs V hV hd K hK
          simp only [laidIn, lz1, lz2, lz3, lz4, lz5, lz6, if_true, Act.put, lz7, lz8, lz9] at hK ⊢
          go_simp
          exact hK.out _ _ (Below.refl _ _) rfl (not_fresh rfl)
        case refine_6 =>
          refine OpDoes.mk rfl ?_
          intro vs V hV hd K hK
          have hcc := (EU.below hV).two
          have k0 := hcc.1
          have k1 := hcc.2.1
          clear hcc
          simp only [laidIn, lz1, lz2, lz4, lz5, lz6, if_true, Act.put, lz7, lz8, lz9] at hK ⊢
          go_simp
          exact hK.out _ _ (Below.refl _ _) rfl (not_fresh rfl)
        case refine_7 =>
          intro vs Y1 hV hR hne fuel
          have d0 : vs 0 = .agg #[.bool true, .slice a1 z1.length c1] := hR 0 (by decide)
          have d1 : vs 1 = .pointer (some ⟨w.heap.size, 2, none⟩) := hR 1 (by decide)
          have d2 : vs 2 = .slice c ds.length cc := hR 2 (by decide)
          have d3 : vs 3 = .int .i64 k := hR 3 (by decide)
          have hh := fun (P : Prop) => Yield.nat_elim P (show ((Yield.nat u5.heap.size (val ds ^ k) (n * k + 1)) : Yield).At (vs 4) Y1 from hR 4 (by decide))
          refine hh _ ?_
          intro a2 c2 z2 d4 S2 N2 V2 b2
          clear hh
          have hh := fun (P : Prop) => Yield.natIn_elim P (show ((Yield.natIn (fun s => .agg #[.bool true, .slice a1 z1.length c1, s]) u5.heap.size (val ds ^ k) (n * k + 1)) : Yield).At (vs 5) Y1 from hR 5 (by decide))
          refine hh _ ?_
          intro a3 c3 z3 d5 S3 N3 V3 b3
          clear hh
          replace FA := FA.below hV
          replace EA := EA.below hV
          replace ER := ER.below hV
          replace S1 := S1.below hV
          replace EU := EU.below hV
          have hr := hV
          simp only [laidIn, lz4, lz5, lz6, if_true, Act.put, lz7, lz8, lz9]
          simp only [d0, d1, d2, d3, d4, d5]
          clear hR hne hV d0 d1 d2 d3 d4 d5
          clear vs
          show wpAny _ _ _ _ (fuel + 2) _ _ _
          refine wpAny_all (rs := [6]) (by kernel_rfl) (by simp) (fun i hi => ?_)
          obtain rfl : i = 6 := by simpa using hi
          clear hi
          have hcc := ER.three
          have k0 := hcc.1
          have k1 := hcc.2.1
          have k2 := hcc.2.2.1
          have f0 := hcc.2.2.2.1
          have f1 := hcc.2.2.2.2.1
          have f2 := hcc.2.2.2.2.2
          clear hcc
          refine wpOp_step rfl (fun K hK => ?_)
          simp only [lz1, lz2, lz3]
          rw [if_pos (by rfl)]
          go_simp
          refine hK _ _ ?_
          clear hK k0 f0 k1 f1 k2 f2
          have hT := turns3 (w.heap.size + 1) Y1 (.bool true) (.slice a1 z1.length c1) (.slice a3 z3.length c3)
          replace FA := FA.beside ER (noWord3 (fun _ e => by cases e) (fun _ e => by cases e) (fun _ e => by cases e)) hT
          replace EA := EA.turns hT (by omega)
          replace S1 := S1.beside ER (noWord3 (fun _ e => by cases e) (fun _ e => by cases e) (fun _ e => by cases e)) hT
          replace EU := EU.turns hT (by omega)
          replace S2 := S2.beside ER (noWord3 (fun _ e => by cases e) (fun _ e => by cases e) (fun _ e => by cases e)) hT
          replace S3 := S3.beside ER (noWord3 (fun _ e => by cases e) (fun _ e => by cases e) (fun _ e => by cases e)) hT
          replace ER := Box.set3 (.bool true) (.slice a1 z1.length c1) (.slice a3 z3.length c3) ER
          have hr6 := hT.below
          obtain ⟨X1, hX⟩ := nm hT.below
          rw [hX] at FA EA ER S1 EU S2 S3 hr6 ⊢
          clear hX hT
          refine wpAny_all (rs := [7]) (by kernel_rfl) (by simp) (fun i hi => ?_)
          obtain rfl : i = 7 := by simpa using hi
          clear hi
          refine wpOp_step rfl (fun K hK => ?_)
          simp only [lz1, lz2, lz3]
          rw [if_pos (by rfl)]
          go_simp
          refine hK _ _ ?_
          clear hK
          refine wpAny_done (by kernel_rfl) ?_ _
          replace hB := hB.trans ((Below.trans (Below.drew (Below.refl u5.heap.size u5)) hr).mono hB.size)
          replace hB := hB.trans (hr6.mono (by omega))
          have zz5_1 := hr.size
          have zi1 := hB.size
          have zy1_6 := hr6.size
          clear hr hr6
          have HI := pow_is (N := n * k + 1) (k := k) (sg := true) (b := true) IA FA.up.words FA.down.words (by simp [hpar]) V1 N1 V3 N3 (by omega) (by omega)
          have HAP := hide (apart_of (fun h b o e => SU.block h b o e) S3 (by omega) : Apart a1 a3 z1 z3)
          obtain ⟨k0, k1, k2, f0, f1, f2⟩ := EA.three
          obtain ⟨k3, k4, k5, f3, f4, f5⟩ := ER.three
          obtain ⟨k6, k7, f6, f7⟩ := EU.two
          have hcc := ER.three
          have r0 := hcc.1
          have r1 := hcc.2.1
          have r2 := hcc.2.2.1
          clear hcc
          go_wp2
          refine bodyPost_ret (v := .tuple #[.agg #[.bool true, .slice a1 z1.length c1, .slice a3 z3.length c3], .int .i64 0]) (by simp [results, Tryz.f17, go_sem, r0, r1, r2]) rfl ?_
          exact ⟨_, _, _, _, _, _, _, rfl, ⟨S1.mono (by omega), S3.mono (by omega)⟩, HAP.out, HI, hB⟩
      · have hp2 : ((k : Int) % 2 == 1) = false := beq_eq_false_iff_ne.2 (by omega)
        go_enter Tryz.func17, Tryz.ntmps17
        have hs0 := Nat.le_refl w.heap.size
        have hq := below_new w (.cells #[.bool true, .slice a xs.length ca, .slice c ds.length cc] 27)
        replace FA := FA.below hq
        have EA := Box.put (w := w) (k := (w.heap.size)) (.cells #[.bool true, .slice a xs.length ca, .slice c ds.length cc] 27) rfl
        replace hs0 := Nat.le_trans hs0 hq.size
        replace hB := hB.trans (hq.mono hB.size)
        clear hq
        have hq := below_new (w.alloc (.cells #[.bool true, .slice a xs.length ca, .slice c ds.length cc] 27)) (.cells #[.bool false, .slice none 0 0, .slice none 0 0] 27)
        replace FA := FA.below hq
        replace EA := EA.below hq
        have ER := Box.put (w := (w.alloc (.cells #[.bool true, .slice a xs.length ca, .slice c ds.length cc] 27))) (k := (w.heap.size + 1)) (.cells #[.bool false, .slice none 0 0, .slice none 0 0] 27) (by simp)
        replace hs0 := Nat.le_trans hs0 hq.size
        replace hB := hB.trans (hq.mono hB.size)
        clear hq
        go_wp2_with fail
        obtain ⟨u1, hname⟩ := nm hB
        rw [hname] at hs0 hB FA EA ER ⊢
        have zh1 := hB.size
        have zs1 := hs0
        clear hname hs0
        have hk := pcheck_any true FA (by omega) (by omega)
        rw [HA.out] at hk
        refine (hk).mono ?_
        rintro e w2 ⟨rfl, hb⟩
        replace FA := FA.below hb
        replace EA := EA.below hb
        replace ER := ER.below hb
        replace hB := hB.trans (hb.mono hB.size)
        have zz2 := hb.size
        have zh2 := hB.size
        clear hb
        clear hk
        obtain ⟨k0, k1, k2, f0, f1, f2⟩ := EA.three
        obtain ⟨k3, k4, k5, f3, f4, f5⟩ := ER.three
        go_wp2_with fail
        clear k0 k1 k2 f0 f1 f2 k3 k4 k5 f3 f4 f5
        refine (hz _).mono ?_
        rintro e w3 ⟨rfl, hb⟩
        replace FA := FA.below hb
        replace EA := EA.below hb
        replace ER := ER.below hb
        replace hB := hB.trans (hb.mono hB.size)
        have zz3 := hb.size
        have zh3 := hB.size
        clear hb
        obtain ⟨k0, k1, k2, f0, f1, f2⟩ := EA.three
        obtain ⟨k3, k4, k5, f3, f4, f5⟩ := ER.three
        go_wp2_with fail
        clear k0 k1 k2 f0 f1 f2 k3 k4 k5 f3 f4 f5
        refine (raise_any FA.up k hk12 (by omega)).mono ?_
        rintro e w4 ⟨a1, c1, z1, rfl, S1, N1, v1, l1, hb⟩
        have V1 : Hid (val z1 = val xs ^ k) := v1
        have b1 : z1.length ≤ n * k + 1 := by omega
        clear v1 l1
        replace FA := FA.below hb
        replace EA := EA.below hb
        replace ER := ER.below hb
        replace hB := hB.trans (hb.mono hB.size)
        have zz4 := hb.size
        have zh4 := hB.size
        clear hb
        have SU := S1
        obtain ⟨k0, k1, k2, f0, f1, f2⟩ := EA.three
        obtain ⟨k3, k4, k5, f3, f4, f5⟩ := ER.three
        have qEA := EA.lt
        have qER := ER.lt
        have hs0 := Nat.le_refl w4.heap.size
        have hq := below_new w4 (.cells #[.bool false, .slice a1 z1.length c1] 25)
        replace FA := FA.below hq
        replace EA := EA.below hq
        replace ER := ER.below hq
        replace S1 := S1.below hq
        have EU := Box.put (w := w4) (k := (w4.heap.size)) (.cells #[.bool false, .slice a1 z1.length c1] 25) rfl
        replace hs0 := Nat.le_trans hs0 hq.size
        replace hB := hB.trans (hq.mono hB.size)
        clear hq
        go_wp2_with fail
        clear k0 k1 k2 f0 f1 f2 k3 k4 k5 f3 f4 f5
        obtain ⟨u5, hname⟩ := nm hB
        rw [hname] at hs0 hB FA EA ER S1 EU ⊢
        have zh5 := hB.size
        have zs5 := hs0
        clear hname hs0
        replace FA := FA.drew
        have qEA := EA.lt
        replace EA := EA.drew
        have qER := ER.lt
        replace ER := ER.drew
        replace S1 := S1.drew
        have qEU := EU.lt
        replace EU := EU.drew
        refine wp_yields 6 [.is (.agg #[.bool false, .slice a1 z1.length c1]), .is (.pointer (some ⟨w.heap.size, 2, none⟩)), .is (.slice c ds.length cc), .is (.int .i64 k), (Yield.nat u5.heap.size (val ds ^ k) (n * k + 1)), (Yield.natIn (fun s => .agg #[.bool false, .slice a1 z1.length c1, s]) u5.heap.size (val ds ^ k) (n * k + 1))] (by kernel_rfl) (by kernel_rfl) (lt_cons ?_ (lt_cons ?_ (lt_cons ?_ (lt_cons ?_ (lt_cons ?_ (lt_cons ?_ lt_nil)))))) ?_
        case refine_1 =>
          refine OpDoes.mk rfl ?_
          intro vs V hV hd K hK
          have d0 : vs 0 = .agg #[.bool false, .slice a1 z1.length c1] := hd 0 (by decide) (by kernel_rfl)
          have hh := fun (P : Prop) => Yield.nat_elim P (show ((Yield.nat u5.heap.size (val ds ^ k) (n * k + 1)) : Yield).At (vs 4) V from hd 4 (by decide) (by kernel_rfl))
          refine hh _ ?_
          intro a2 c2 z2 d4 S2 N2 V2 b2
          clear hh
          simp only [laidIn, lz1, lz2, lz3, lz4, lz5, lz6, if_true, Act.put, lz7, lz8, lz9] at hK ⊢
          simp only [d0, d4] at hK ⊢
          go_simp
          exact hK.out _ _ (Below.refl _ _) ⟨_, _, _, rfl, S2, N2, V2, b2⟩ (not_fresh rfl)
        case refine_2 =>
          refine OpDoes.mk rfl ?_
          intro vs V hV hd K hK
          have d2 : vs 2 = .slice c ds.length cc := hd 2 (by decide) (by kernel_rfl)
          have d3 : vs 3 = .int .i64 k := hd 3 (by decide) (by kernel_rfl)
          simp only [laidIn, lz1, lz2, lz3, lz4, lz5, lz6, if_true, Act.put, lz7, lz8, lz9] at hK ⊢
          simp only [d2, d3] at hK ⊢
          go_simp
          go_at_call 43
          refine (raise_any (FA.down.below hV) k hk12 (by omega)).mono ?_
          rintro e V' ⟨a2, c2, z2, rfl, S2, N2, v2, l2, hb⟩
          have V2 : Hid (val z2 = val ds ^ k) := v2
          have b2 : z2.length ≤ n * k + 1 := by omega
          clear v2 l2
          exact hK.out _ _ hb ⟨_, _, _, rfl, S2.mono hV.size, N2, V2, b2⟩ (not_fresh rfl)
        case refine_3 =>
          refine OpDoes.mk rfl ?_
          intro vs V hV hd K hK
          simp only [laidIn, lz1, lz2, lz3, lz4, lz5, lz6, if_true, Act.put, lz7, lz8, lz9] at hK ⊢
          go_simp
          exact hK.out _ _ (Below.refl _ _) rfl (not_fresh rfl)
        case refine_4 =>
          refine OpDoes.mk rfl ?_
          intro vs V hV hd K hK
          have d1 : vs 1 = .pointer (some ⟨w.heap.size, 2, none⟩) := hd 1 (by decide) (by kernel_rfl)
          have hcc := (EA.below hV).three
          have k0 := hcc.1
          have k1 := hcc.2.1
          have k2 := hcc.2.2.1
          clear hcc
          simp only [laidIn, lz1, lz2, lz3, lz4, lz5, lz6, if_true, Act.put, lz7, lz8, lz9] at hK ⊢
          simp only [d1] at hK ⊢
          go_simp
          exact hK.out _ _ (Below.refl _ _) rfl (not_fresh rfl)
        case refine_5 =>
          refine OpDoes.mk rfl ?_
          intro vs V hV hd K hK
          simp only [laidIn, lz1, lz2, lz3, lz4, lz5, lz6, if_true, Act.put, lz7, lz8, lz9] at hK ⊢
          go_simp
          exact hK.out _ _ (Below.refl _ _) rfl (not_fresh rfl)
        case refine_6 =>
          refine OpDoes.mk rfl ?_
          intro vs V hV hd K hK
          have hcc := (EU.below hV).two
          have k0 := hcc.1
          have k1 := hcc.2.1
          clear hcc
          simp only [laidIn, lz1, lz2, lz4, lz5, lz6, if_true, Act.put, lz7, lz8, lz9] at hK ⊢
          go_simp
          exact hK.out _ _ (Below.refl _ _) rfl (not_fresh rfl)
        case refine_7 =>
          intro vs Y1 hV hR hne fuel
          have d0 : vs 0 = .agg #[.bool false, .slice a1 z1.length c1] := hR 0 (by decide)
          have d1 : vs 1 = .pointer (some ⟨w.heap.size, 2, none⟩) := hR 1 (by decide)
          have d2 : vs 2 = .slice c ds.length cc := hR 2 (by decide)
          have d3 : vs 3 = .int .i64 k := hR 3 (by decide)
          have hh := fun (P : Prop) => Yield.nat_elim P (show ((Yield.nat u5.heap.size (val ds ^ k) (n * k + 1)) : Yield).At (vs 4) Y1 from hR 4 (by decide))
          refine hh _ ?_
          intro a2 c2 z2 d4 S2 N2 V2 b2
          clear hh
          have hh := fun (P : Prop) => Yield.natIn_elim P (show ((Yield.natIn (fun s => .agg #[.bool false, .slice a1 z1.length c1, s]) u5.heap.size (val ds ^ k) (n * k + 1)) : Yield).At (vs 5) Y1 from hR 5 (by decide))
          refine hh _ ?_
          intro a3 c3 z3 d5 S3 N3 V3 b3
          clear hh
          replace FA := FA.below hV
          replace EA := EA.below hV
          replace ER := ER.below hV
          replace S1 := S1.below hV
          replace EU := EU.below hV
          have hr := hV
          simp only [laidIn, lz4, lz5, lz6, if_true, Act.put, lz7, lz8, lz9]
          simp only [d0, d1, d2, d3, d4, d5]
          clear hR hne hV d0 d1 d2 d3 d4 d5
          clear vs
          show wpAny _ _ _ _ (fuel + 2) _ _ _
          refine wpAny_all (rs := [6]) (by kernel_rfl) (by simp) (fun i hi => ?_)
          obtain rfl : i = 6 := by simpa using hi
          clear hi
          have hcc := ER.three
          have k0 := hcc.1
          have k1 := hcc.2.1
          have k2 := hcc.2.2.1
          have f0 := hcc.2.2.2.1
          have f1 := hcc.2.2.2.2.1
          have f2 := hcc.2.2.2.2.2
          clear hcc
          refine wpOp_step rfl (fun K hK => ?_)
          simp only [lz1, lz2, lz3]
          rw [if_pos (by rfl)]
          go_simp
          refine hK _ _ ?_
          clear hK k0 f0 k1 f1 k2 f2
          have hT := turns3 (w.heap.size + 1) Y1 (.bool false) (.slice a1 z1.length c1) (.slice a3 z3.length c3)
          replace FA := FA.beside ER (noWord3 (fun _ e => by cases e) (fun _ e => by cases e) (fun _ e => by cases e)) hT
          replace EA := EA.turns hT (by omega)
          replace S1 := S1.beside ER (noWord3 (fun _ e => by cases e) (fun _ e => by cases e) (fun _ e => by cases e)) hT
          replace EU := EU.turns hT (by omega)
          replace S2 := S2.beside ER (noWord3 (fun _ e => by cases e) (fun _ e => by cases e) (fun _ e => by cases e)) hT
          replace S3 := S3.beside ER (noWord3 (fun _ e => by cases e) (fun _ e => by cases e) (fun _ e => by cases e)) hT
          replace ER := Box.set3 (.bool false) (.slice a1 z1.length c1) (.slice a3 z3.length c3) ER
          have hr6 := hT.below
          obtain ⟨X1, hX⟩ := nm hT.below
          rw [hX] at FA EA ER S1 EU S2 S3 hr6 ⊢
          clear hX hT
          refine wpAny_all (rs := [7]) (by kernel_rfl) (by simp) (fun i hi => ?_)
          obtain rfl : i = 7 := by simpa using hi
          clear hi
          refine wpOp_step rfl (fun K hK => ?_)
          simp only [lz1, lz2, lz3]
          rw [if_pos (by rfl)]
          go_simp
          refine hK _ _ ?_
          clear hK
          refine wpAny_done (by kernel_rfl) ?_ _
          replace hB := hB.trans ((Below.trans (Below.drew (Below.refl u5.heap.size u5)) hr).mono hB.size)
          replace hB := hB.trans (hr6.mono (by omega))
          have zz5_1 := hr.size
          have zi1 := hB.size
          have zy1_6 := hr6.size
          clear hr hr6
          have HI := pow_is (N := n * k + 1) (k := k) (sg := false) (b := true) IA FA.up.words FA.down.words (by simp [hpar]) V1 N1 V3 N3 (by omega) (by omega)
          have HAP := hide (apart_of (fun h b o e => SU.block h b o e) S3 (by omega) : Apart a1 a3 z1 z3)
          obtain ⟨k0, k1, k2, f0, f1, f2⟩ := EA.three
          obtain ⟨k3, k4, k5, f3, f4, f5⟩ := ER.three
          obtain ⟨k6, k7, f6, f7⟩ := EU.two
          have hcc := ER.three
          have r0 := hcc.1
          have r1 := hcc.2.1
          have r2 := hcc.2.2.1
          clear hcc
          go_wp2
          refine bodyPost_ret (v := .tuple #[.agg #[.bool false, .slice a1 z1.length c1, .slice a3 z3.length c3], .int .i64 0]) (by simp [results, Tryz.f17, go_sem, r0, r1, r2]) rfl ?_
          exact ⟨_, _, _, _, _, _, _, rfl, ⟨S1.mono (by omega), S3.mono (by omega)⟩, HAP.out, HI, hB⟩
set_option maxRecDepth 100000 in
set_option maxHeartbeats 4000000 in
theorem ppower_neg {lo : Nat} {a c : Option Addr} {ca cc : Nat} {xs ds : List Int} {w : World} (b : Bool) (FA : Fr lo w a ca xs c cc ds) {n : Nat} {q : Rat} (IA : Is b xs ds q n) (hn : n ≤ 30) (k : Nat) (hk12 : k ≤ 12) (hk0 : 0 < k) (HX : Hid (xs ≠ [])) :
    Calls Tryz.prog 17 #[.agg #[.bool b, .slice a xs.length ca, .slice c ds.length cc], .int .i64 (-(k : Int))] w fun e w' => ∃ (b' : Bool) (a' : Option Addr) (ca' : Nat) (ts' : List Int) (c' : Option Addr) (cc' : Nat) (es' : List Int), e = .returned (.tuple #[.agg #[.bool b', .slice a' ts'.length ca', .slice c' es'.length cc'], .int .i64 0]) ∧ Fr w.heap.size w' a' ca' ts' c' cc' es' ∧ Apart a' c' ts' es' ∧ Is b' ts' es' (q⁻¹ ^ k) (n * k + 1) ∧ Below w.heap.size w w' := by
  have lxa := IA.lu
  have lda := IA.ld
  have hxk : xs.length * k ≤ n * k := Nat.mul_le_mul_right _ lxa
  have hdk : ds.length * k ≤ n * k := Nat.mul_le_mul_right _ lda
  have h1 : ¬ -(k : Int) < -10000 := by omega
  have h2 : ¬ 10000 < -(k : Int) := by omega
  have h3 : -(k : Int) < 0 := by omega
  have h4 : IntKind.i64.wrap (k : Int) = k := by rw [IntKind.wrap_i64]; omega
  have HA : Hid (formR b xs ds = 0) := (formR_low FA.up.words FA.down.words).2 IA.low
  have hB := Below.refl w.heap.size w
  have hz := fun w => isZero_any b a xs ca c ds cc w
  rw [show ((xs.length : Int) == 0) = false from beq_eq_false_iff_ne.2 (by have := List.length_pos_iff.2 HX.out; omega)] at hz
  cases b with
  | false =>
    go_enter Tryz.func17, Tryz.ntmps17
    have hs0 := Nat.le_refl w.heap.size
    have hq := below_new w (.cells #[.bool false, .slice a xs.length ca, .slice c ds.length cc] 27)
    replace FA := FA.below hq
    have EA := Box.put (w := w) (k := (w.heap.size)) (.cells #[.bool false, .slice a xs.length ca, .slice c ds.length cc] 27) rfl
    replace hs0 := Nat.le_trans hs0 hq.size
    replace hB := hB.trans (hq.mono hB.size)
    clear hq
    have hq := below_new (w.alloc (.cells #[.bool false, .slice a xs.length ca, .slice c ds.length cc] 27)) (.cells #[.bool false, .slice none 0 0, .slice none 0 0] 27)
    replace FA := FA.below hq
    replace EA := EA.below hq
    have ER := Box.put (w := (w.alloc (.cells #[.bool false, .slice a xs.length ca, .slice c ds.length cc] 27))) (k := (w.heap.size + 1)) (.cells #[.bool false, .slice none 0 0, .slice none 0 0] 27) (by simp)
    replace hs0 := Nat.le_trans hs0 hq.size
    replace hB := hB.trans (hq.mono hB.size)
    clear hq
    go_wp2_with fail
    obtain ⟨u1, hname⟩ := nm hB
    rw [hname] at hs0 hB FA EA ER ⊢
    have zh1 := hB.size
    have zs1 := hs0
    clear hname hs0
    have hk := pcheck_any false FA (by omega) (by omega)
    rw [HA.out] at hk
    refine (hk).mono ?_
    rintro e w2 ⟨rfl, hb⟩
    replace FA := FA.below hb
    replace EA := EA.below hb
    replace ER := ER.below hb
    replace hB := hB.trans (hb.mono hB.size)
    have zz2 := hb.size
    have zh2 := hB.size
    clear hb
    clear hk
    obtain ⟨k0, k1, k2, f0, f1, f2⟩ := EA.three
    obtain ⟨k3, k4, k5, f3, f4, f5⟩ := ER.three
    go_wp2_with fail
    clear k0 k1 k2 f0 f1 f2 k3 k4 k5 f3 f4 f5
    refine (hz _).mono ?_
    rintro e w3 ⟨rfl, hb⟩
    replace FA := FA.below hb
    replace EA := EA.below hb
    replace ER := ER.below hb
    replace hB := hB.trans (hb.mono hB.size)
    have zz3 := hb.size
    have zh3 := hB.size
    clear hb
    obtain ⟨k0, k1, k2, f0, f1, f2⟩ := EA.three
    obtain ⟨k3, k4, k5, f3, f4, f5⟩ := ER.three
    go_wp2_with fail
    clear k0 k1 k2 f0 f1 f2 k3 k4 k5 f3 f4 f5
    refine (turned_any false a xs ca c ds cc _).mono ?_
    rintro e w4 ⟨rfl, hb⟩
    replace FA := FA.below hb
    replace EA := EA.below hb
    replace ER := ER.below hb
    replace hB := hB.trans (hb.mono hB.size)
    have zz4 := hb.size
    have zh4 := hB.size
    clear hb
    obtain ⟨k0, k1, k2, f0, f1, f2⟩ := EA.three
    obtain ⟨k3, k4, k5, f3, f4, f5⟩ := ER.three
    have qEA := EA.lt
    have qER := ER.lt
    have hs0 := Nat.le_refl w4.heap.size
    have hT := turns3 (w.heap.size) w4 (.bool false) (.slice c ds.length cc) (.slice a xs.length ca)
    replace FA := FA.beside EA (noWord3 (fun _ e => by cases e) (fun _ e => by cases e) (fun _ e => by cases e)) hT
    replace ER := ER.turns hT (by omega)
    replace EA := Box.set3 (.bool false) (.slice c ds.length cc) (.slice a xs.length ca) EA
    replace hB := hB.trans (hT.below.mono (by omega))
    replace hs0 := Nat.le_trans hs0 hT.below.size
    clear hT
    go_wp2_with fail
    clear k0 k1 k2 f0 f1 f2 k3 k4 k5 f3 f4 f5
    obtain ⟨u5, hname⟩ := nm hB
    rw [hname] at hs0 hB FA EA ER ⊢
    have zh5 := hB.size
    have zs5 := hs0
    clear hname hs0
    refine (raise_any FA.down k hk12 (by omega)).mono ?_
    rintro e w6 ⟨a1, c1, z1, rfl, S1, N1, v1, l1, hb⟩
    have V1 : Hid (val z1 = val ds ^ k) := v1
    have b1 : z1.length ≤ n * k + 1 := by omega
    clear v1 l1
    replace FA := FA.below hb
    replace EA := EA.below hb
    replace ER := ER.below hb
    replace hB := hB.trans (hb.mono hB.size)
    have zz6 := hb.size
    have zh6 := hB.size
    clear hb
    have SU := S1
    obtain ⟨k0, k1, k2, f0, f1, f2⟩ := EA.three
    obtain ⟨k3, k4, k5, f3, f4, f5⟩ := ER.three
    have qEA := EA.lt
    have qER := ER.lt
    have hs0 := Nat.le_refl w6.heap.size
    have hq := below_new w6 (.cells #[.bool false, .slice a1 z1.length c1] 25)
    replace FA := FA.below hq
    replace EA := EA.below hq
    replace ER := ER.below hq
    replace S1 := S1.below hq
    have EU := Box.put (w := w6) (k := (w6.heap.size)) (.cells #[.bool false, .slice a1 z1.length c1] 25) rfl
    replace hs0 := Nat.le_trans hs0 hq.size
    replace hB := hB.trans (hq.mono hB.size)
    clear hq
    go_wp2_with fail
    clear k0 k1 k2 f0 f1 f2 k3 k4 k5 f3 f4 f5
    obtain ⟨u7, hname⟩ := nm hB
    rw [hname] at hs0 hB FA EA ER S1 EU ⊢
    have zh7 := hB.size
    have zs7 := hs0
    clear hname hs0
    replace FA := FA.drew
    have qEA := EA.lt
    replace EA := EA.drew
    have qER := ER.lt
    replace ER := ER.drew
    replace S1 := S1.drew
    have qEU := EU.lt
    replace EU := EU.drew
    refine wp_yields 6 [.is (.agg #[.bool false, .slice a1 z1.length c1]), .is (.pointer (some ⟨w.heap.size, 2, none⟩)), .is (.slice a xs.length ca), .is (.int .i64 k), (Yield.nat u7.heap.size (val xs ^ k) (n * k + 1)), (Yield.natIn (fun s => .agg #[.bool false, .slice a1 z1.length c1, s]) u7.heap.size (val xs ^ k) (n * k + 1))] (by kernel_rfl) (by kernel_rfl) (lt_cons ?_ (lt_cons ?_ (lt_cons ?_ (lt_cons ?_ (lt_cons ?_ (lt_cons ?_ lt_nil)))))) ?_
    case refine_1 =>
      refine OpDoes.mk rfl ?_
      intro vs V hV hd K hK
      have d0 : vs 0 = .agg #[.bool false, .slice a1 z1.length c1] := hd 0 (by decide) (by kernel_rfl)
      have hh := fun (P : Prop) => Yield.nat_elim P (show ((Yield.nat u7.heap.size (val xs ^ k) (n * k + 1)) : Yield).At (vs 4) V from hd 4 (by decide) (by kernel_rfl))
      refine hh _ ?_
      intro a2 c2 z2 d4 S2 N2 V2 b2
      clear hh
      simp only [laidIn, lz1, lz2, lz3, lz4, lz5, lz6, if_true, Act.put, lz7, lz8, lz9] at hK ⊢
      simp only [d0, d4] at hK ⊢
      go_simp
      exact hK.out _ _ (Below.refl _ _) ⟨_, _, _, rfl, S2, N2, V2, b2⟩ (not_fresh rfl)
    case refine_2 =>
      refine OpDoes.mk rfl ?_
      intro vs V hV hd K hK
      have d2 : vs 2 = .slice a xs.length ca := hd 2 (by decide) (by kernel_rfl)
      have d3 : vs 3 = .int .i64 k := hd 3 (by decide) (by kernel_rfl)
      simp only [laidIn, lz1, lz2, lz3, lz4, lz5, lz6, if_true, Act.put, lz7, lz8, lz9] at hK ⊢
      simp only [d2, d3] at hK ⊢
      go_simp
      go_at_call 43
      refine (raise_any (FA.up.below hV) k hk12 (by omega)).mono ?_
      rintro e V' ⟨a2, c2, z2, rfl, S2, N2, v2, l2, hb⟩
      have V2 : Hid (val z2 = val xs ^ k) := v2
      have b2 : z2.length ≤ n * k + 1 := by omega
      clear v2 l2
      exact hK.out _ _ hb ⟨_, _, _, rfl, S2.mono hV.size, N2, V2, b2⟩ (not_fresh rfl)
    case refine_3 =>
      refine OpDoes.mk rfl ?_
      intro vs V hV hd K hK
      simp only [laidIn, lz1, lz2, lz3, lz4, lz5, lz6, if_true, Act.put, lz7, lz8, lz9] at hK ⊢
      go_simp
      exact hK.out _ _ (Below.refl _ _) rfl (not_fresh rfl)
    case refine_4 =>
      refine OpDoes.mk rfl ?_
      intro vs V hV hd K hK
      have d1 : vs 1 = .pointer (some ⟨w.heap.size, 2, none⟩) := hd 1 (by decide) (by kernel_rfl)
      have hcc := (EA.below hV).three
      have k0 := hcc.1
      have k1 := hcc.2.1
      have k2 := hcc.2.2.1
      clear hcc
      simp only [laidIn, lz1, lz2, lz3, lz4, lz5, lz6, if_true, Act.put, lz7, lz8, lz9] at hK ⊢
      simp only [d1] at hK ⊢
      go_simp
      exact hK.out _ _ (Below.refl _ _) rfl (not_fresh rfl)
    case refine_5 =>
      refine OpDoes.mk rfl ?_
      intro vs V hV hd K hK
      simp only [laidIn, lz1, lz2, lz3, lz4, lz5, lz6, if_true, Act.put, lz7, lz8, lz9] at hK ⊢
      go_simp
      exact hK.out _ _ (Below.refl _ _) rfl (not_fresh rfl)
    case refine_6 =>
      refine OpDoes.mk rfl ?_
      intro vs V hV hd K hK
      have hcc := (EU.below hV).two
      have k0 := hcc.1
      have k1 := hcc.2.1
      clear hcc
      simp only [laidIn, lz1, lz2, lz4, lz5, lz6, if_true, Act.put, lz7, lz8, lz9] at hK ⊢
      go_simp
      exact hK.out _ _ (Below.refl _ _) rfl (not_fresh rfl)
    case refine_7 =>
      intro vs Y1 hV hR hne fuel
      have d0 : vs 0 = .agg #[.bool false, .slice a1 z1.length c1] := hR 0 (by decide)
      have d1 : vs 1 = .pointer (some ⟨w.heap.size, 2, none⟩) := hR 1 (by decide)
      have d2 : vs 2 = .slice a xs.length ca := hR 2 (by decide)
      have d3 : vs 3 = .int .i64 k := hR 3 (by decide)
      have hh := fun (P : Prop) => Yield.nat_elim P (show ((Yield.nat u7.heap.size (val xs ^ k) (n * k + 1)) : Yield).At (vs 4) Y1 from hR 4 (by decide))
      refine hh _ ?_
      intro a2 c2 z2 d4 S2 N2 V2 b2
      clear hh
      have hh := fun (P : Prop) => Yield.natIn_elim P (show ((Yield.natIn (fun s => .agg #[.bool false, .slice a1 z1.length c1, s]) u7.heap.size (val xs ^ k) (n * k + 1)) : Yield).At (vs 5) Y1 from hR 5 (by decide))
      refine hh _ ?_
      intro a3 c3 z3 d5 S3 N3 V3 b3
      clear hh
      replace FA := FA.below hV
      replace EA := EA.below hV
      replace ER := ER.below hV
      replace S1 := S1.below hV
      replace EU := EU.below hV
      have hr := hV
      simp only [laidIn, lz4, lz5, lz6, if_true, Act.put, lz7, lz8, lz9]
      simp only [d0, d1, d2, d3, d4, d5]
      clear hR hne hV d0 d1 d2 d3 d4 d5
      clear vs
      show wpAny _ _ _ _ (fuel + 2) _ _ _
      refine wpAny_all (rs := [6]) (by kernel_rfl) (by simp) (fun i hi => ?_)
      obtain rfl : i = 6 := by simpa using hi
      clear hi
      have hcc := ER.three
      have k0 := hcc.1
      have k1 := hcc.2.1
      have k2 := hcc.2.2.1
      have f0 := hcc.2.2.2.1
      have f1 := hcc.2.2.2.2.1
      have f2 := hcc.2.2.2.2.2
      clear hcc
      refine wpOp_step rfl (fun K hK => ?_)
      simp only [lz1, lz2, lz3]
      rw [if_pos (by rfl)]
      go_simp
      refine hK _ _ ?_
      clear hK k0 f0 k1 f1 k2 f2
      have hT := turns3 (w.heap.size + 1) Y1 (.bool false) (.slice a1 z1.length c1) (.slice a3 z3.length c3)
      replace FA := FA.beside ER (noWord3 (fun _ e => by cases e) (fun _ e => by cases e) (fun _ e => by cases e)) hT
      replace EA := EA.turns hT (by omega)
      replace S1 := S1.beside ER (noWord3 (fun _ e => by cases e) (fun _ e => by cases e) (fun _ e => by cases e)) hT
      replace EU := EU.turns hT (by omega)
      replace S2 := S2.beside ER (noWord3 (fun _ e => by cases e) (fun _ e => by cases e) (fun _ e => by cases e)) hT
      replace S3 := S3.beside ER (noWord3 (fun _ e => by cases e) (fun _ e => by cases e) (fun _ e => by cases e)) hT
      replace ER := Box.set3 (.bool false) (.slice a1 z1.length c1) (.slice a3 z3.length c3) ER
      have hr6 := hT.below
      obtain ⟨X1, hX⟩ := nm hT.below
      rw [hX] at FA EA ER S1 EU S2 S3 hr6 ⊢
      clear hX hT
      refine wpAny_all (rs := [7]) (by kernel_rfl) (by simp) (fun i hi => ?_)
      obtain rfl : i = 7 := by simpa using hi
      clear hi
      refine wpOp_step rfl (fun K hK => ?_)
      simp only [lz1, lz2, lz3]
      rw [if_pos (by rfl)]
      go_simp
      refine hK _ _ ?_
      clear hK
      refine wpAny_done (by kernel_rfl) ?_ _
      replace hB := hB.trans ((Below.trans (Below.drew (Below.refl u7.heap.size u7)) hr).mono hB.size)
      replace hB := hB.trans (hr6.mono (by omega))
      have zz7_1 := hr.size
      have zi1 := hB.size
      have zy1_6 := hr6.size
      clear hr hr6
      have HI := pow_is (N := n * k + 1) (k := k) (sg := false) (b := false) (IA.inv FA.up.words HX.out) FA.down.words FA.up.words (by simp) V1 N1 V3 N3 (by omega) (by omega)
      have HAP := hide (apart_of (fun h b o e => SU.block h b o e) S3 (by omega) : Apart a1 a3 z1 z3)
      obtain ⟨k0, k1, k2, f0, f1, f2⟩ := EA.three
      obtain ⟨k3, k4, k5, f3, f4, f5⟩ := ER.three
      obtain ⟨k6, k7, f6, f7⟩ := EU.two
      have hcc := ER.three
      have r0 := hcc.1
      have r1 := hcc.2.1
      have r2 := hcc.2.2.1
      clear hcc
      go_wp2
      refine bodyPost_ret (v := .tuple #[.agg #[.bool false, .slice a1 z1.length c1, .slice a3 z3.length c3], .int .i64 0]) (by simp [results, Tryz.f17, go_sem, r0, r1, r2]) rfl ?_
      exact ⟨_, _, _, _, _, _, _, rfl, ⟨S1.mono (by omega), S3.mono (by omega)⟩, HAP.out, HI, hB⟩
  | true =>
    by_cases hpar : k % 2 = 1
    · have hp2 : ((k : Int) % 2 == 1) = true := beq_iff_eq.2 (by omega)
      go_enter Tryz.func17, Tryz.ntmps17
      have hs0 := Nat.le_refl w.heap.size
      have hq := below_new w (.cells #[.bool true, .slice a xs.length ca, .slice c ds.length cc] 27)
      replace FA := FA.below hq
      have EA := Box.put (w := w) (k := (w.heap.size)) (.cells #[.bool true, .slice a xs.length ca, .slice c ds.length cc] 27) rfl
      replace hs0 := Nat.le_trans hs0 hq.size
      replace hB := hB.trans (hq.mono hB.size)
      clear hq
      have hq := below_new (w.alloc (.cells #[.bool true, .slice a xs.length ca, .slice c ds.length cc] 27)) (.cells #[.bool false, .slice none 0 0, .slice none 0 0] 27)
      replace FA := FA.below hq
      replace EA := EA.below hq
      have ER := Box.put (w := (w.alloc (.cells #[.bool true, .slice a xs.length ca, .slice c ds.length cc] 27))) (k := (w.heap.size + 1)) (.cells #[.bool false, .slice none 0 0, .slice none 0 0] 27) (by simp)
      replace hs0 := Nat.le_trans hs0 hq.size
      replace hB := hB.trans (hq.mono hB.size)
      clear hq
      go_wp2_with fail
      obtain ⟨u1, hname⟩ := nm hB
      rw [hname] at hs0 hB FA EA ER ⊢
      have zh1 := hB.size
      have zs1 := hs0
      clear hname hs0
      have hk := pcheck_any true FA (by omega) (by omega)
      rw [HA.out] at hk
      refine (hk).mono ?_
      rintro e w2 ⟨rfl, hb⟩
      replace FA := FA.below hb
      replace EA := EA.below hb
      replace ER := ER.below hb
      replace hB := hB.trans (hb.mono hB.size)
      have zz2 := hb.size
      have zh2 := hB.size
      clear hb
      clear hk
      obtain ⟨k0, k1, k2, f0, f1, f2⟩ := EA.three
      obtain ⟨k3, k4, k5, f3, f4, f5⟩ := ER.three
      go_wp2_with fail
      clear k0 k1 k2 f0 f1 f2 k3 k4 k5 f3 f4 f5
      refine (hz _).mono ?_
      rintro e w3 ⟨rfl, hb⟩
      replace FA := FA.below hb
      replace EA := EA.below hb
      replace ER := ER.below hb
      replace hB := hB.trans (hb.mono hB.size)
      have zz3 := hb.size
      have zh3 := hB.size
      clear hb
      obtain ⟨k0, k1, k2, f0, f1, f2⟩ := EA.three
      obtain ⟨k3, k4, k5, f3, f4, f5⟩ := ER.three
      go_wp2_with fail
      clear k0 k1 k2 f0 f1 f2 k3 k4 k5 f3 f4 f5
      refine (turned_any true a xs ca c ds cc _).mono ?_
      rintro e w4 ⟨rfl, hb⟩
      replace FA := FA.below hb
      replace EA := EA.below hb
      replace ER := ER.below hb
      replace hB := hB.trans (hb.mono hB.size)
      have zz4 := hb.size
      have zh4 := hB.size
      clear hb
      obtain ⟨k0, k1, k2, f0, f1, f2⟩ := EA.three
      obtain ⟨k3, k4, k5, f3, f4, f5⟩ := ER.three
      have qEA := EA.lt
      have qER := ER.lt
      have hs0 := Nat.le_refl w4.heap.size
      have hT := turns3 (w.heap.size) w4 (.bool true) (.slice c ds.length cc) (.slice a xs.length ca)
      replace FA := FA.beside EA (noWord3 (fun _ e => by cases e) (fun _ e => by cases e) (fun _ e => by cases e)) hT
      replace ER := ER.turns hT (by omega)
      replace EA := Box.set3 (.bool true) (.slice c ds.length cc) (.slice a xs.length ca) EA
      replace hB := hB.trans (hT.below.mono (by omega))
      replace hs0 := Nat.le_trans hs0 hT.below.size
      clear hT
      go_wp2_with fail
      clear k0 k1 k2 f0 f1 f2 k3 k4 k5 f3 f4 f5
      obtain ⟨u5, hname⟩ := nm hB
      rw [hname] at hs0 hB FA EA ER ⊢
      have zh5 := hB.size
      have zs5 := hs0
      clear hname hs0
      refine (raise_any FA.down k hk12 (by omega)).mono ?_
      rintro e w6 ⟨a1, c1, z1, rfl, S1, N1, v1, l1, hb⟩
      have V1 : Hid (val z1 = val ds ^ k) := v1
      have b1 : z1.length ≤ n * k + 1 := by omega
      clear v1 l1
      replace FA := FA.below hb
      replace EA := EA.below hb
      replace ER := ER.below hb
      replace hB := hB.trans (hb.mono hB.size)
      have zz6 := hb.size
      have zh6 := hB.size
      clear hb
      have SU := S1
      obtain ⟨k0, k1, k2, f0, f1, f2⟩ := EA.three
      obtain ⟨k3, k4, k5, f3, f4, f5⟩ := ER.three
      have qEA := EA.lt
      have qER := ER.lt
      have hs0 := Nat.le_refl w6.heap.size
      have hq := below_new w6 (.cells #[.bool true, .slice a1 z1.length c1] 25)
      replace FA := FA.below hq
      replace EA := EA.below hq
      replace ER := ER.below hq
      replace S1 := S1.below hq
      have EU := Box.put (w := w6) (k := (w6.heap.size)) (.cells #[.bool true, .slice a1 z1.length c1] 25) rfl
      replace hs0 := Nat.le_trans hs0 hq.size
      replace hB := hB.trans (hq.mono hB.size)
      clear hq
      go_wp2_with fail
      clear k0 k1 k2 f0 f1 f2 k3 k4 k5 f3 f4 f5
      obtain ⟨u7, hname⟩ := nm hB
      rw [hname] at hs0 hB FA EA ER S1 EU ⊢
      have zh7 := hB.size
      have zs7 := hs0
      clear hname hs0
      replace FA := FA.drew
      have qEA := EA.lt
      replace EA := EA.drew
      have qER := ER.lt
      replace ER := ER.drew
      replace S1 := S1.drew
      have qEU := EU.lt
      replace EU := EU.drew
      refine wp_yields 6 [.is (.agg #[.bool true, .slice a1 z1.length c1]), .is (.pointer (some ⟨w.heap.size, 2, none⟩)), .is (.slice a xs.length ca), .is (.int .i64 k), (Yield.nat u7.heap.size (val xs ^ k) (n * k + 1)), (Yield.natIn (fun s => .agg #[.bool true, .slice a1 z1.length c1, s]) u7.heap.size (val xs ^ k) (n * k + 1))] (by kernel_rfl) (by kernel_rfl) (lt_cons ?_ (lt_cons ?_ (lt_cons ?_ (lt_cons ?_ (lt_cons ?_ (lt_cons ?_ lt_nil)))))) ?_
      case refine_1 =>
        refine OpDoes.mk rfl ?_
        intro vs V hV hd K hK
        have d0 : vs 0 = .agg #[.bool true, .slice a1 z1.length c1] := hd 0 (by decide) (by kernel_rfl)
        have hh := fun (P : Prop) => Yield.nat_elim P (show ((Yield.nat u7.heap.size (val xs ^ k) (n * k + 1)) : Yield).At (vs 4) V from hd 4 (by decide) (by kernel_rfl))
        refine hh _ ?_
        intro a2 c2 z2 d4 S2 N2 V2 b2
        clear hh
        simp only [laidIn, lz1, lz2, lz3, lz4, lz5, lz6, if_true, Act.put, lz7, lz8, lz9] at hK ⊢
        simp only [d0, d4] at hK ⊢
        go_simp
        exact hK.out _ _ (Below.refl _ _) ⟨_, _, _, rfl, S2, N2, V2, b2⟩ (not_fresh rfl)
      case refine_2 =>
        refine OpDoes.mk rfl ?_
        intro vs V hV hd K hK
        have d2 : vs 2 = .slice a xs.length ca := hd 2 (by decide) (by kernel_rfl)
        have d3 : vs 3 = .int .i64 k := hd 3 (by decide) (by kernel_rfl)
        simp only [laidIn, lz1, lz2, lz3, lz4, lz5, lz6, if_true, Act.put, lz7, lz8, lz9] at hK ⊢
        simp only [d2, d3] at hK ⊢
        go_simp
        go_at_call 43
        refine (raise_any (FA.up.below hV) k hk12 (by omega)).mono ?_
        rintro e V' ⟨a2, c2, z2, rfl, S2, N2, v2, l2, hb⟩
        have V2 : Hid (val z2 = val xs ^ k) := v2
        have b2 : z2.length ≤ n * k + 1 := by omega
        clear v2 l2
        exact hK.out _ _ hb ⟨_, _, _, rfl, S2.mono hV.size, N2, V2, b2⟩ (not_fresh rfl)
      case refine_3 =>
        refine OpDoes.mk rfl ?_
        intro vs V hV hd K hK
        simp only [laidIn, lz1, lz2, lz3, lz4, lz5, lz6, if_true, Act.put, lz7, lz8, lz9] at hK ⊢
        go_simp
        exact hK.out _ _ (Below.refl _ _) rfl (not_fresh rfl)
      case refine_4 =>
        refine OpDoes.mk rfl ?_
        intro vs V hV hd K hK
        have d1 : vs 1 = .pointer (some ⟨w.heap.size, 2, none⟩) := hd 1 (by decide) (by kernel_rfl)
        have hcc := (EA.below hV).three
        have k0 := hcc.1
        have k1 := hcc.2.1
        have k2 := hcc.2.2.1
        clear hcc
        simp only [laidIn, lz1, lz2, lz3, lz4, lz5, lz6, if_true, Act.put, lz7, lz8, lz9] at hK ⊢
        simp only [d1] at hK ⊢
        go_simp
        exact hK.out _ _ (Below.refl _ _) rfl (not_fresh rfl)
      case refine_5 =>
        refine OpDoes.mk rfl ?_
        intro vs V hV hd K hK
        simp only [laidIn, lz1, lz2, lz3, lz4, lz5, lz6, if_true, Act.put, lz7, lz8, lz9] at hK ⊢
        go_simp
        exact hK.out _ _ (Below.refl _ _) rfl (not_fresh rfl)
      case refine_6 =>
        refine OpDoes.mk rfl ?_
        intro vs V hV hd K hK
        have hcc := (EU.below hV).two
        have k0 := hcc.1
        have k1 := hcc.2.1
        clear hcc
        simp only [laidIn, lz1, lz2, lz4, lz5, lz6, if_true, Act.put, lz7, lz8, lz9] at hK ⊢
        go_simp
        exact hK.out _ _ (Below.refl _ _) rfl (not_fresh rfl)
      case refine_7 =>
        intro vs Y1 hV hR hne fuel
        have d0 : vs 0 = .agg #[.bool true, .slice a1 z1.length c1] := hR 0 (by decide)
        have d1 : vs 1 = .pointer (some ⟨w.heap.size, 2, none⟩) := hR 1 (by decide)
        have d2 : vs 2 = .slice a xs.length ca := hR 2 (by decide)
        have d3 : vs 3 = .int .i64 k := hR 3 (by decide)
        have hh := fun (P : Prop) => Yield.nat_elim P (show ((Yield.nat u7.heap.size (val xs ^ k) (n * k + 1)) : Yield).At (vs 4) Y1 from hR 4 (by decide))
        refine hh _ ?_
        intro a2 c2 z2 d4 S2 N2 V2 b2
        clear hh
        have hh := fun (P : Prop) => Yield.natIn_elim P (show ((Yield.natIn (fun s => .agg #[.bool true, .slice a1 z1.length c1, s]) u7.heap.size (val xs ^ k) (n * k + 1)) : Yield).At (vs 5) Y1 from hR 5 (by decide))
        refine hh _ ?_
        intro a3 c3 z3 d5 S3 N3 V3 b3
        clear hh
        replace FA := FA.below hV
        replace EA := EA.below hV
        replace ER := ER.below hV
        replace S1 := S1.below hV
        replace EU := EU.below hV
        have hr := hV
        simp only [laidIn, lz4, lz5, lz6, if_true, Act.put, lz7, lz8, lz9]
        simp only [d0, d1, d2, d3, d4, d5]
        clear hR hne hV d0 d1 d2 d3 d4 d5
        clear vs
        show wpAny _ _ _ _ (fuel + 2) _ _ _
        refine wpAny_all (rs := [6]) (by kernel_rfl) (by simp) (fun i hi => ?_)
        obtain rfl : i = 6 := by simpa using hi
        clear hi
        have hcc := ER.three
        have k0 := hcc.1
        have k1 := hcc.2.1
        have k2 := hcc.2.2.1
        have f0 := hcc.2.2.2.1
        have f1 := hcc.2.2.2.2.1
        have f2 := hcc.2.2.2.2.2
        clear hcc
        refine wpOp_step rfl (fun K hK => ?_)
        simp only [lz1, lz2, lz3]
        rw [if_pos (by rfl)]
        go_simp
        refine hK _ _ ?_
        clear hK k0 f0 k1 f1 k2 f2
        have hT := turns3 (w.heap.size + 1) Y1 (.bool true) (.slice a1 z1.length c1) (.slice a3 z3.length c3)
        replace FA := FA.beside ER (noWord3 (fun _ e => by cases e) (fun _ e => by cases e) (fun _ e => by cases e)) hT
        replace EA := EA.turns hT (by omega)
        replace S1 := S1.beside ER (noWord3 (fun _ e => by cases e) (fun _ e => by cases e) (fun _ e => by cases e)) hT
        replace EU := EU.turns hT (by omega)
        replace S2 := S2.beside ER (noWord3 (fun _ e => by cases e) (fun _ e => by cases e) (fun _ e => by cases e)) hT
        replace S3 := S3.beside ER (noWord3 (fun _ e => by cases e) (fun _ e => by cases e) (fun _ e => by cases e)) hT
        replace ER := Box.set3 (.bool true) (.slice a1 z1.length c1) (.slice a3 z3.length c3) ER
        have hr6 := hT.below
        obtain ⟨X1, hX⟩ := nm hT.below
        rw [hX] at FA EA ER S1 EU S2 S3 hr6 ⊢
        clear hX hT
        refine wpAny_all (rs := [7]) (by kernel_rfl) (by simp) (fun i hi => ?_)
        obtain rfl : i = 7 := by simpa using hi
        clear hi
        refine wpOp_step rfl (fun K hK => ?_)
        simp only [lz1, lz2, lz3]
        rw [if_pos (by rfl)]
        go_simp
        refine hK _ _ ?_
        clear hK
        refine wpAny_done (by kernel_rfl) ?_ _
        replace hB := hB.trans ((Below.trans (Below.drew (Below.refl u7.heap.size u7)) hr).mono hB.size)
        replace hB := hB.trans (hr6.mono (by omega))
        have zz7_1 := hr.size
        have zi1 := hB.size
        have zy1_6 := hr6.size
        clear hr hr6
        have HI := pow_is (N := n * k + 1) (k := k) (sg := true) (b := true) (IA.inv FA.up.words HX.out) FA.down.words FA.up.words (by simp [hpar]) V1 N1 V3 N3 (by omega) (by omega)
        have HAP := hide (apart_of (fun h b o e => SU.block h b o e) S3 (by omega) : Apart a1 a3 z1 z3)
        obtain ⟨k0, k1, k2, f0, f1, f2⟩ := EA.three
        obtain ⟨k3, k4, k5, f3, f4, f5⟩ := ER.three
        obtain ⟨k6, k7, f6, f7⟩ := EU.two
        have hcc := ER.three
        have r0 := hcc.1
        have r1 := hcc.2.1
        have r2 := hcc.2.2.1
        clear hcc
        go_wp2
        refine bodyPost_ret (v := .tuple #[.agg #[.bool true, .slice a1 z1.length c1, .slice a3 z3.length c3], .int .i64 0]) (by simp [results, Tryz.f17, go_sem, r0, r1, r2]) rfl ?_
        exact ⟨_, _, _, _, _, _, _, rfl, ⟨S1.mono (by omega), S3.mono (by omega)⟩, HAP.out, HI, hB⟩
    · have hp2 : ((k : Int) % 2 == 1) = false := beq_eq_false_iff_ne.2 (by omega)
      go_enter Tryz.func17, Tryz.ntmps17
      have hs0 := Nat.le_refl w.heap.size
      have hq := below_new w (.cells #[.bool true, .slice a xs.length ca, .slice c ds.length cc] 27)
      replace FA := FA.below hq
      have EA := Box.put (w := w) (k := (w.heap.size)) (.cells #[.bool true, .slice a xs.length ca, .slice c ds.length cc] 27) rfl
      replace hs0 := Nat.le_trans hs0 hq.size
      replace hB := hB.trans (hq.mono hB.size)
      clear hq
      have hq := below_new (w.alloc (.cells #[.bool true, .slice a xs.length ca, .slice c ds.length cc] 27)) (.cells #[.bool false, .slice none 0 0, .slice none 0 0] 27)
      replace FA := FA.below hq
      replace EA := EA.below hq
      have ER := Box.put (w := (w.alloc (.cells #[.bool true, .slice a xs.length ca, .slice c ds.length cc] 27))) (k := (w.heap.size + 1)) (.cells #[.bool false, .slice none 0 0, .slice none 0 0] 27) (by simp)
      replace hs0 := Nat.le_trans hs0 hq.size
      replace hB := hB.trans (hq.mono hB.size)
      clear hq
      go_wp2_with fail
      obtain ⟨u1, hname⟩ := nm hB
      rw [hname] at hs0 hB FA EA ER ⊢
      have zh1 := hB.size
      have zs1 := hs0
      clear hname hs0
      have hk := pcheck_any true FA (by omega) (by omega)
      rw [HA.out] at hk
      refine (hk).mono ?_
      rintro e w2 ⟨rfl, hb⟩
      replace FA := FA.below hb
      replace EA := EA.below hb
      replace ER := ER.below hb
      replace hB := hB.trans (hb.mono hB.size)
      have zz2 := hb.size
      have zh2 := hB.size
      clear hb
      clear hk
      obtain ⟨k0, k1, k2, f0, f1, f2⟩ := EA.three
      obtain ⟨k3, k4, k5, f3, f4, f5⟩ := ER.three
      go_wp2_with fail
      clear k0 k1 k2 f0 f1 f2 k3 k4 k5 f3 f4 f5
      refine (hz _).mono ?_
      rintro e w3 ⟨rfl, hb⟩
      replace FA := FA.below hb
      replace EA := EA.below hb
      replace ER := ER.below hb
      replace hB := hB.trans (hb.mono hB.size)
      have zz3 := hb.size
      have zh3 := hB.size
      clear hb
      obtain ⟨k0, k1, k2, f0, f1, f2⟩ := EA.three
      obtain ⟨k3, k4, k5, f3, f4, f5⟩ := ER.three
      go_wp2_with fail
      clear k0 k1 k2 f0 f1 f2 k3 k4 k5 f3 f4 f5
      refine (turned_any true a xs ca c ds cc _).mono ?_
      rintro e w4 ⟨rfl, hb⟩
      replace FA := FA.below hb
      replace EA := EA.below hb
      replace ER := ER.below hb
      replace hB := hB.trans (hb.mono hB.size)
      have zz4 := hb.size
      have zh4 := hB.size
      clear hb
      obtain ⟨k0, k1, k2, f0, f1, f2⟩ := EA.three
      obtain ⟨k3, k4, k5, f3, f4, f5⟩ := ER.three
      have qEA := EA.lt
      have qER := ER.lt
      have hs0 := Nat.le_refl w4.heap.size
      have hT := turns3 (w.heap.size) w4 (.bool true) (.slice c ds.length cc) (.slice a xs.length ca)
      replace FA := FA.beside EA (noWord3 (fun _ e => by cases e) (fun _ e => by cases e) (fun _ e => by cases e)) hT
      replace ER := ER.turns hT (by omega)
      replace EA := Box.set3 (.bool true) (.slice c ds.length cc) (.slice a xs.length ca) EA
      replace hB := hB.trans (hT.below.mono (by omega))
      replace hs0 := Nat.le_trans hs0 hT.below.size
      clear hT
      go_wp2_with fail
      clear k0 k1 k2 f0 f1 f2 k3 k4 k5 f3 f4 f5
      obtain ⟨u5, hname⟩ := nm hB
      rw [hname] at hs0 hB FA EA ER ⊢
      have zh5 := hB.size
      have zs5 := hs0
      clear hname hs0
      refine (raise_any FA.down k hk12 (by omega)).mono ?_
      rintro e w6 ⟨a1, c1, z1, rfl, S1, N1, v1, l1, hb⟩
      have V1 : Hid (val z1 = val ds ^ k) := v1
      have b1 : z1.length ≤ n * k + 1 := by omega
      clear v1 l1
      replace FA := FA.below hb
      replace EA := EA.below hb
      replace ER := ER.below hb
      replace hB := hB.trans (hb.mono hB.size)
      have zz6 := hb.size
      have zh6 := hB.size
      clear hb
      have SU := S1
      obtain ⟨k0, k1, k2, f0, f1, f2⟩ := EA.three
      obtain ⟨k3, k4, k5, f3, f4, f5⟩ := ER.three
      have qEA := EA.lt
      have qER := ER.lt
      have hs0 := Nat.le_refl w6.heap.size
      have hq := below_new w6 (.cells #[.bool false, .slice a1 z1.length c1] 25)
      replace FA := FA.below hq
      replace EA := EA.below hq
      replace ER := ER.below hq
      replace S1 := S1.below hq
      have EU := Box.put (w := w6) (k := (w6.heap.size)) (.cells #[.bool false, .slice a1 z1.length c1] 25) rfl
      replace hs0 := Nat.le_trans hs0 hq.size
      replace hB := hB.trans (hq.mono hB.size)
      clear hq
      go_wp2_with fail
      clear k0 k1 k2 f0 f1 f2 k3 k4 k5 f3 f4 f5
      obtain ⟨u7, hname⟩ := nm hB
      rw [hname] at hs0 hB FA EA ER S1 EU ⊢
      have zh7 := hB.size
      have zs7 := hs0
      clear hname hs0
      replace FA := FA.drew
      have qEA := EA.lt
      replace EA := EA.drew
      have qER := ER.lt
      replace ER := ER.drew
      replace S1 := S1.drew
      have qEU := EU.lt
      replace EU := EU.drew
      refine wp_yields 6 [.is (.agg #[.bool false, .slice a1 z1.length c1]), .is (.pointer (some ⟨w.heap.size, 2, none⟩)), .is (.slice a xs.length ca), .is (.int .i64 k), (Yield.nat u7.heap.size (val xs ^ k) (n * k + 1)), (Yield.natIn (fun s => .agg #[.bool false, .slice a1 z1.length c1, s]) u7.heap.size (val xs ^ k) (n * k + 1))] (by kernel_rfl) (by kernel_rfl) (lt_cons ?_ (lt_cons ?_ (lt_cons ?_ (lt_cons ?_ (lt_cons ?_ (lt_cons ?_ lt_nil)))))) ?_
      case refine_1 =>
        refine OpDoes.mk rfl ?_
        intro vs V hV hd K hK
        have d0 : vs 0 = .agg #[.bool false, .slice a1 z1.length c1] := hd 0 (by decide) (by kernel_rfl)
        have hh := fun (P : Prop) => Yield.nat_elim P (show ((Yield.nat u7.heap.size (val xs ^ k) (n * k + 1)) : Yield).At (vs 4) V from hd 4 (by decide) (by kernel_rfl))
        refine hh _ ?_
        intro a2 c2 z2 d4 S2 N2 V2 b2
        clear hh
        simp only [laidIn, lz1, lz2, lz3, lz4, lz5, lz6, if_true, Act.put, lz7, lz8, lz9] at hK ⊢
        simp only [d0, d4] at hK ⊢
        go_simp
        exact hK.out _ _ (Below.refl _ _) ⟨_, _, _, rfl, S2, N2, V2, b2⟩ (not_fresh rfl)
      case refine_2 =>
        refine OpDoes.mk rfl ?_
        intro vs V hV hd K hK
        have d2 : vs 2 = .slice a xs.length ca := hd 2 (by decide) (by kernel_rfl)
        have d3 : vs 3 = .int .i64 k := hd 3 (by decide) (by kernel_rfl)
        simp only [laidIn, lz1, lz2, lz3, lz4, lz5, lz6, if_true, Act.put, lz7, lz8, lz9] at hK ⊢
        simp only [d2, d3] at hK ⊢
        go_simp
        go_at_call 43
        refine (raise_any (FA.up.below hV) k hk12 (by omega)).mono ?_
        rintro e V' ⟨a2, c2, z2, rfl, S2, N2, v2, l2, hb⟩
        have V2 : Hid (val z2 = val xs ^ k) := v2
        have b2 : z2.length ≤ n * k + 1 := by omega
        clear v2 l2
        exact hK.out _ _ hb ⟨_, _, _, rfl, S2.mono hV.size, N2, V2, b2⟩ (not_fresh rfl)
      case refine_3 =>
        refine OpDoes.mk rfl ?_
        intro vs V hV hd K hK
        simp only [laidIn, lz1, lz2, lz3, lz4, lz5, lz6, if_true, Act.put, lz7, lz8, lz9] at hK ⊢
        go_simp
        exact hK.out _ _ (Below.refl _ _) rfl (not_fresh rfl)
      case refine_4 =>
        refine OpDoes.mk rfl ?_
        intro vs V hV hd K hK
        have d1 : vs 1 = .pointer (some ⟨w.heap.size, 2, none⟩) := hd 1 (by decide) (by kernel_rfl)
        have hcc := (EA.below hV).three
        have k0 := hcc.1
        have k1 := hcc.2.1
        have k2 := hcc.2.2.1
        clear hcc
        simp only [laidIn, lz1, lz2, lz3, lz4, lz5, lz6, if_true, Act.put, lz7, lz8, lz9] at hK ⊢
        simp only [d1] at hK ⊢
        go_simp
        exact hK.out _ _ (Below.refl _ _) rfl (not_fresh rfl)
      case refine_5 =>
        refine OpDoes.mk rfl ?_
        intro vs V hV hd K hK
        simp only [laidIn, lz1, lz2, lz3, lz4, lz5, lz6, if_true, Act.put, lz7, lz8, lz9] at hK ⊢
        go_simp
        exact hK.out _ _ (Below.refl _ _) rfl (not_fresh rfl)
      case refine_6 =>
        refine OpDoes.mk rfl ?_
        intro vs V hV hd K hK
        have hcc := (EU.below hV).two
        have k0 := hcc.1
        have k1 := hcc.2.1
        clear hcc
        simp only [laidIn, lz1, lz2, lz4, lz5, lz6, if_true, Act.put, lz7, lz8, lz9] at hK ⊢
        go_simp
        exact hK.out _ _ (Below.refl _ _) rfl (not_fresh rfl)
      case refine_7 =>
        intro vs Y1 hV hR hne fuel
        have d0 : vs 0 = .agg #[.bool false, .slice a1 z1.length c1] := hR 0 (by decide)
        have d1 : vs 1 = .pointer (some ⟨w.heap.size, 2, none⟩) := hR 1 (by decide)
        have d2 : vs 2 = .slice a xs.length ca := hR 2 (by decide)
        have d3 : vs 3 = .int .i64 k := hR 3 (by decide)
        have hh := fun (P : Prop) => Yield.nat_elim P (show ((Yield.nat u7.heap.size (val xs ^ k) (n * k + 1)) : Yield).At (vs 4) Y1 from hR 4 (by decide))
        refine hh _ ?_
        intro a2 c2 z2 d4 S2 N2 V2 b2
        clear hh
        have hh := fun (P : Prop) => Yield.natIn_elim P (show ((Yield.natIn (fun s => .agg #[.bool false, .slice a1 z1.length c1, s]) u7.heap.size (val xs ^ k) (n * k + 1)) : Yield).At (vs 5) Y1 from hR 5 (by decide))
        refine hh _ ?_
        intro a3 c3 z3 d5 S3 N3 V3 b3
        clear hh
        replace FA := FA.below hV
        replace EA := EA.below hV
        replace ER := ER.below hV
        replace S1 := S1.below hV
        replace EU := EU.below hV
        have hr := hV
        simp only [laidIn, lz4, lz5, lz6, if_true, Act.put, lz7, lz8, lz9]
        simp only [d0, d1, d2, d3, d4, d5]
        clear hR hne hV d0 d1 d2 d3 d4 d5
        clear vs
        show wpAny _ _ _ _ (fuel + 2) _ _ _
        refine wpAny_all (rs := [6]) (by kernel_rfl) (by simp) (fun i hi => ?_)
        obtain rfl : i = 6 := by simpa using hi
        clear hi
        have hcc := ER.three
        have k0 := hcc.1
        have k1 := hcc.2.1
        have k2 := hcc.2.2.1
        have f0 := hcc.2.2.2.1
        have f1 := hcc.2.2.2.2.1
        have f2 := hcc.2.2.2.2.2
        clear hcc
        refine wpOp_step rfl (fun K hK => ?_)
        simp only [lz1, lz2, lz3]
        rw [if_pos (by rfl)]
        go_simp
        refine hK _ _ ?_
        clear hK k0 f0 k1 f1 k2 f2
        have hT := turns3 (w.heap.size + 1) Y1 (.bool false) (.slice a1 z1.length c1) (.slice a3 z3.length c3)
        replace FA := FA.beside ER (noWord3 (fun _ e => by cases e) (fun _ e => by cases e) (fun _ e => by cases e)) hT
        replace EA := EA.turns hT (by omega)
        replace S1 := S1.beside ER (noWord3 (fun _ e => by cases e) (fun _ e => by cases e) (fun _ e => by cases e)) hT
        replace EU := EU.turns hT (by omega)
        replace S2 := S2.beside ER (noWord3 (fun _ e => by cases e) (fun _ e => by cases e) (fun _ e => by cases e)) hT
        replace S3 := S3.beside ER (noWord3 (fun _ e => by cases e) (fun _ e => by cases e) (fun _ e => by cases e)) hT
        replace ER := Box.set3 (.bool false) (.slice a1 z1.length c1) (.slice a3 z3.length c3) ER
        have hr6 := hT.below
        obtain ⟨X1, hX⟩ := nm hT.below
        rw [hX] at FA EA ER S1 EU S2 S3 hr6 ⊢
        clear hX hT
        refine wpAny_all (rs := [7]) (by kernel_rfl) (by simp) (fun i hi => ?_)
        obtain rfl : i = 7 := by simpa using hi
        clear hi
        refine wpOp_step rfl (fun K hK => ?_)
        simp only [lz1, lz2, lz3]
        rw [if_pos (by rfl)]
        go_simp
        refine hK _ _ ?_
        clear hK
        refine wpAny_done (by kernel_rfl) ?_ _
        replace hB := hB.trans ((Below.trans (Below.drew (Below.refl u7.heap.size u7)) hr).mono hB.size)
        replace hB := hB.trans (hr6.mono (by omega))
        have zz7_1 := hr.size
        have zi1 := hB.size
        have zy1_6 := hr6.size
        clear hr hr6
        have HI := pow_is (N := n * k + 1) (k := k) (sg := false) (b := true) (IA.inv FA.up.words HX.out) FA.down.words FA.up.words (by simp [hpar]) V1 N1 V3 N3 (by omega) (by omega)
        have HAP := hide (apart_of (fun h b o e => SU.block h b o e) S3 (by omega) : Apart a1 a3 z1 z3)
        obtain ⟨k0, k1, k2, f0, f1, f2⟩ := EA.three
        obtain ⟨k3, k4, k5, f3, f4, f5⟩ := ER.three
        obtain ⟨k6, k7, f6, f7⟩ := EU.two
        have hcc := ER.three
        have r0 := hcc.1
        have r1 := hcc.2.1
        have r2 := hcc.2.2.1
        clear hcc
        go_wp2
        refine bodyPost_ret (v := .tuple #[.agg #[.bool false, .slice a1 z1.length c1, .slice a3 z3.length c3], .int .i64 0]) (by simp [results, Tryz.f17, go_sem, r0, r1, r2]) rfl ?_
        exact ⟨_, _, _, _, _, _, _, rfl, ⟨S1.mono (by omega), S3.mono (by omega)⟩, HAP.out, HI, hB⟩
end Go.Proofs.YtblmkddjlfienabGreat
namespace Go.Proofs.YtblmkddjlfienabGreat
open Go.RowKit
theorem samew_can {lo lo' : Nat} {a c : Option Addr} {ca cc : Nat} {xs ys : List Int} {w : World} (b d : Bool) (h : Seg lo w (.slice a xs.length ca) xs) (h' : Seg lo' w (.slice c ys.length cc) ys) (hc : Canon b xs) (hd : Canon d ys) (hv : sgn b (val xs) = sgn d (val ys)) (hl : xs.length ≤ 10000) :
    Calls Tryz.prog 16 #[.agg #[.bool b, .slice a xs.length ca], .agg #[.bool d, .slice c ys.length cc]] w fun e w' => e = .returned (.bool true) ∧ Below w.heap.size w w' := by
  obtain ⟨rfl, rfl⟩ := canon_unique h.words h'.words hc hd hv
  exact samew_yes b h h' hl
theorem samew_any {lo lo' : Nat} {a c : Option Addr} {ca cc : Nat} {xs ys : List Int} {w : World} (b d : Bool) (h : Seg lo w (.slice a xs.length ca) xs) (h' : Seg lo' w (.slice c ys.length cc) ys) (hl : xs.length ≤ 10000) :
    Calls Tryz.prog 16 #[.agg #[.bool b, .slice a xs.length ca], .agg #[.bool d, .slice c ys.length cc]] w fun e w' => e = .returned (.bool (decide (b = d ∧ xs = ys))) ∧ Below w.heap.size w w' := by
  by_cases hh : b = d ∧ xs = ys
  · obtain ⟨rfl, rfl⟩ := hh
    rw [decide_eq_true ⟨rfl, rfl⟩]
    exact samew_yes b h h' hl
  · rw [decide_eq_false hh]
    exact samew_no b d h h' hl hh
theorem samen_any {lo lo' : Nat} {a c : Option Addr} {ca cc : Nat} {xs ys : List Int} {w : World} (h : Seg lo w (.slice a xs.length ca) xs) (h' : Seg lo' w (.slice c ys.length cc) ys) (hl : xs.length ≤ 10000) :
    Calls Tryz.prog 40 #[.slice a xs.length ca, .slice c ys.length cc] w fun e w' => e = .returned (.bool (decide (xs = ys))) ∧ Below w.heap.size w w' := by
  by_cases hh : xs = ys
  · subst hh
    rw [decide_eq_true rfl]
    exact same_yes h h' (by omega)
  · rw [decide_eq_false hh]
    exact same_no h h' (by omega) hh
set_option maxRecDepth 100000 in
set_option maxHeartbeats 4000000 in
theorem samer_any {lo lo2 : Nat} {a c p r : Option Addr} {ca cc cp cr : Nat} {xs ds ys es : List Int} {w : World} (b g : Bool) (FA : Fr lo w a ca xs c cc ds) (FB : Fr lo2 w p cp ys r cr es) (hl : xs.length ≤ 1000) (hl2 : ds.length ≤ 1000) :
    Calls Tryz.prog 46 #[.agg #[.bool b, .slice a xs.length ca, .slice c ds.length cc], .agg #[.bool g, .slice p ys.length cp, .slice r es.length cr]] w fun e w' => e = .returned (.bool (decide (b = g ∧ xs = ys ∧ ds = es))) ∧ Below w.heap.size w w' := by
  have hB := Below.refl w.heap.size w
  by_cases h1 : b = g ∧ xs = ys
  · have HW : Hid (decide (b = g ∧ xs = ys) = true) := decide_eq_true h1
    have hv : decide (b = g ∧ xs = ys ∧ ds = es) = decide (ds = es) := decide_eq_decide.2 ⟨fun h => h.2.2, fun h => ⟨h1.1, h1.2, h⟩⟩
    rw [hv]
    obtain ⟨v, hd⟩ : ∃ v, decide (ds = es) = v := ⟨_, rfl⟩
    rw [hd]
    have HD := hide hd
    clear hd hv h1
    go_enter Tryz.func46, Tryz.ntmps46
    have hA := Below.refl w.heap.size w
    have hq := below_new w (.cells #[.bool b, .slice a xs.length ca, .slice c ds.length cc] 27)
    replace FA := FA.below hq
    replace FB := FB.below hq
    have EA := Box.put (w := w) (k := (w.heap.size)) (.cells #[.bool b, .slice a xs.length ca, .slice c ds.length cc] 27) rfl
    replace hA := hA.trans (hq.mono hA.size)
    replace hB := hB.trans (hq.mono hB.size)
    clear hq
    have hq := below_new (w.alloc (.cells #[.bool b, .slice a xs.length ca, .slice c ds.length cc] 27)) (.cells #[.bool g, .slice p ys.length cp, .slice r es.length cr] 27)
    replace FA := FA.below hq
    replace FB := FB.below hq
    replace EA := EA.below hq
    have EB := Box.put (w := (w.alloc (.cells #[.bool b, .slice a xs.length ca, .slice c ds.length cc] 27))) (k := (w.heap.size + 1)) (.cells #[.bool g, .slice p ys.length cp, .slice r es.length cr] 27) (by simp)
    replace hA := hA.trans (hq.mono hA.size)
    replace hB := hB.trans (hq.mono hB.size)
    clear hq
    clear hA
    go_wp2_with fail
    obtain ⟨u1, hname⟩ := nm hB
    rw [hname] at hB FA FB EA EB ⊢
    have zh1 := hB.size
    clear hname
    have hk := samew_any b g FA.up FB.up (by omega)
    rw [HW.out] at hk
    refine (hk).mono ?_
    rintro e w2 ⟨rfl, hb⟩
    replace FA := FA.below hb
    replace FB := FB.below hb
    replace EA := EA.below hb
    replace EB := EB.below hb
    replace hB := hB.trans (hb.mono hB.size)
    have zz2 := hb.size
    have zh2 := hB.size
    clear hb
    clear hk
    obtain ⟨k0, k1, k2, f0, f1, f2⟩ := EA.three
    obtain ⟨k3, k4, k5, f3, f4, f5⟩ := EB.three
    go_wp2_with fail
    clear k0 k1 k2 f0 f1 f2 k3 k4 k5 f3 f4 f5
    have hk := samen_any FA.down FB.down (by omega)
    rw [HD.out] at hk
    refine (hk).mono ?_
    rintro e w3 ⟨rfl, hb⟩
    replace FA := FA.below hb
    replace FB := FB.below hb
    replace EA := EA.below hb
    replace EB := EB.below hb
    replace hB := hB.trans (hb.mono hB.size)
    have zz3 := hb.size
    have zh3 := hB.size
    clear hb
    clear hk
    obtain ⟨k0, k1, k2, f0, f1, f2⟩ := EA.three
    obtain ⟨k3, k4, k5, f3, f4, f5⟩ := EB.three
    go_wp2
    go_ret
    exact ⟨rfl, hB⟩
  · have HW : Hid (decide (b = g ∧ xs = ys) = false) := decide_eq_false h1
    rw [decide_eq_false (fun h => h1 ⟨h.1, h.2.1⟩)]
    clear h1
    go_enter Tryz.func46, Tryz.ntmps46
    have hA := Below.refl w.heap.size w
    have hq := below_new w (.cells #[.bool b, .slice a xs.length ca, .slice c ds.length cc] 27)
    replace FA := FA.below hq
    replace FB := FB.below hq
    have EA := Box.put (w := w) (k := (w.heap.size)) (.cells #[.bool b, .slice a xs.length ca, .slice c ds.length cc] 27) rfl
    replace hA := hA.trans (hq.mono hA.size)
    replace hB := hB.trans (hq.mono hB.size)
    clear hq
    have hq := below_new (w.alloc (.cells #[.bool b, .slice a xs.length ca, .slice c ds.length cc] 27)) (.cells #[.bool g, .slice p ys.length cp, .slice r es.length cr] 27)
    replace FA := FA.below hq
    replace FB := FB.below hq
    replace EA := EA.below hq
    have EB := Box.put (w := (w.alloc (.cells #[.bool b, .slice a xs.length ca, .slice c ds.length cc] 27))) (k := (w.heap.size + 1)) (.cells #[.bool g, .slice p ys.length cp, .slice r es.length cr] 27) (by simp)
    replace hA := hA.trans (hq.mono hA.size)
    replace hB := hB.trans (hq.mono hB.size)
    clear hq
    clear hA
    go_wp2_with fail
    obtain ⟨u1, hname⟩ := nm hB
    rw [hname] at hB FA FB EA EB ⊢
    have zh1 := hB.size
    clear hname
    have hk := samew_any b g FA.up FB.up (by omega)
    rw [HW.out] at hk
    refine (hk).mono ?_
    rintro e w2 ⟨rfl, hb⟩
    replace FA := FA.below hb
    replace FB := FB.below hb
    replace EA := EA.below hb
    replace EB := EB.below hb
    replace hB := hB.trans (hb.mono hB.size)
    have zz2 := hb.size
    have zh2 := hB.size
    clear hb
    clear hk
    obtain ⟨k0, k1, k2, f0, f1, f2⟩ := EA.three
    obtain ⟨k3, k4, k5, f3, f4, f5⟩ := EB.three
    go_wp2
    go_ret
    exact ⟨rfl, hB⟩
theorem samer_is {lo lo2 : Nat} {a c p r : Option Addr} {ca cc cp cr : Nat} {xs ds ys es : List Int} {w : World} {b g : Bool} {q : Rat} {n m : Nat} (FA : Fr lo w a ca xs c cc ds) (FB : Fr lo2 w p cp ys r cr es) (IA : Is b xs ds q n) (IB : Is g ys es q m) (hn : n ≤ 1000) :
    Calls Tryz.prog 46 #[.agg #[.bool b, .slice a xs.length ca, .slice c ds.length cc], .agg #[.bool g, .slice p ys.length cp, .slice r es.length cr]] w fun e w' => e = .returned (.bool true) ∧ Below w.heap.size w w' := by
  have h := samer_any b g FA FB (Nat.le_trans IA.lu hn) (Nat.le_trans IA.ld hn)
  rw [decide_eq_true (lowL_unique FA.up.words FA.down.words FB.up.words FB.down.words IA.low IB.low (IA.rat.trans IB.rat.symm))] at h
  exact h
set_option maxRecDepth 100000 in
set_option maxHeartbeats 4000000 in
theorem longr_any (b : Bool) (a : Option Addr) (xs : List Int) (ca : Nat) (c : Option Addr) (ds : List Int) (cc : Nat) (most : Int) (w : World) :
    Calls Tryz.prog 24 #[.agg #[.bool b, .slice a xs.length ca, .slice c ds.length cc], .int .i64 most] w fun e w' => e = .returned (.bool (decide (most < (xs.length : Int) ∨ most < (ds.length : Int)))) ∧ Below w.heap.size w w' := by
  have hB0 : Below w.heap.size w (w.alloc (.cells #[.bool b, .slice a xs.length ca, .slice c ds.length cc] 27)) := (Below.refl _ w).alloc (Nat.le_refl _) _
  by_cases h1 : most < (xs.length : Int)
  · rw [decide_eq_true (Or.inl h1)]
    go_enter Tryz.func24, Tryz.ntmps24
    go_wp2
    go_ret
    exact ⟨rfl, hB0⟩
  · by_cases h2 : most < (ds.length : Int)
    · rw [decide_eq_true (Or.inr h2)]
      go_enter Tryz.func24, Tryz.ntmps24
      go_wp2
      go_ret
      exact ⟨rfl, hB0⟩
    · rw [decide_eq_false (by rintro (h | h) <;> contradiction)]
      go_enter Tryz.func24, Tryz.ntmps24
      go_wp2
      go_ret
      exact ⟨rfl, hB0⟩
def BoxesStay (w w' : World) : Prop := ∀ (k : Nat) (cs : Array Value) (t : TypeId), NoWord cs → Box w k (.cells cs t (0, 0)) → Box w' k (.cells cs t (0, 0))
set_option maxRecDepth 100000 in
set_option maxHeartbeats 4000000 in
theorem copyr_any {lo : Nat} {a c : Option Addr} {ca cc : Nat} {xs ds : List Int} {w : World} (b : Bool) (FA : Fr lo w a ca xs c cc ds) (hl : xs.length ≤ 1000) (hl2 : ds.length ≤ 1000) :
    Calls Tryz.prog 13 #[.agg #[.bool b, .slice a xs.length ca, .slice c ds.length cc]] w fun e w' => ∃ (a' : Option Addr) (ca' : Nat) (c' : Option Addr) (cc' : Nat), e = .returned (.agg #[.bool b, .slice a' xs.length ca', .slice c' ds.length cc']) ∧ Fr w.heap.size w' a' ca' xs c' cc' ds ∧ Below w.heap.size w w' := by
  have hB := Below.refl w.heap.size w
  go_enter Tryz.func13, Tryz.ntmps13
  have hs0 := Nat.le_refl w.heap.size
  have hq := below_new w (.cells #[.bool b, .slice a xs.length ca, .slice c ds.length cc] 27)
  replace FA := FA.below hq
  have EA := Box.put (w := w) (k := (w.heap.size)) (.cells #[.bool b, .slice a xs.length ca, .slice c ds.length cc] 27) rfl
  replace hs0 := Nat.le_trans hs0 hq.size
  replace hB := hB.trans (hq.mono hB.size)
  clear hq
  have hq := below_new (w.alloc (.cells #[.bool b, .slice a xs.length ca, .slice c ds.length cc] 27)) (.cells #[.bool false, .slice none 0 0, .slice none 0 0] 27)
  replace FA := FA.below hq
  replace EA := EA.below hq
  have ER := Box.put (w := (w.alloc (.cells #[.bool b, .slice a xs.length ca, .slice c ds.length cc] 27))) (k := (w.heap.size + 1)) (.cells #[.bool false, .slice none 0 0, .slice none 0 0] 27) (by simp)
  replace hs0 := Nat.le_trans hs0 hq.size
  replace hB := hB.trans (hq.mono hB.size)
  clear hq
  go_wp2_with fail
  obtain ⟨u1, hname⟩ := nm hB
  rw [hname] at hs0 hB FA EA ER ⊢
  have zh1 := hB.size
  have zs1 := hs0
  clear hname hs0
  replace FA := FA.drew
  have qEA := EA.lt
  replace EA := EA.drew
  have qER := ER.lt
  replace ER := ER.drew
  refine wp_yields 7 [.is (.pointer (some ⟨w.heap.size, 0, none⟩)), .is (.agg #[.bool b, .slice a xs.length ca]), (Yield.copyw u1.heap.size b xs), .is (.pointer (some ⟨w.heap.size, 2, none⟩)), .is (.slice c ds.length cc), (Yield.copyn u1.heap.size ds), .is (.pointer (some ⟨w.heap.size, 0, none⟩))] (by kernel_rfl) (by kernel_rfl) (lt_cons ?_ (lt_cons ?_ (lt_cons ?_ (lt_cons ?_ (lt_cons ?_ (lt_cons ?_ (lt_cons ?_ lt_nil))))))) ?_
  case refine_1 =>
    refine OpDoes.mk rfl ?_
    intro vs V hV hd K hK
    simp only [laidIn, lz1, lz2, lz3, lz4, lz5, lz6, if_true, Act.put, lz7, lz8, lz9] at hK ⊢
    go_simp
    exact hK.out _ _ (Below.refl _ _) rfl (not_fresh rfl)
  case refine_2 =>
    refine OpDoes.mk rfl ?_
    intro vs V hV hd K hK
    have d4 : vs 4 = .slice c ds.length cc := hd 4 (by decide) (by kernel_rfl)
    simp only [laidIn, lz1, lz2, lz3, lz4, lz5, lz6, if_true, Act.put, lz7, lz8, lz9] at hK ⊢
    simp only [d4] at hK ⊢
    go_simp
    go_at_call 39
    refine (copy_any (FA.down.below hV) (by omega)).mono ?_
    rintro e V' ⟨a2, c2, rfl, S2, hb⟩
    exact hK.out _ _ hb ⟨_, _, rfl, S2.mono hV.size⟩ (not_fresh rfl)
  case refine_3 =>
    refine OpDoes.mk rfl ?_
    intro vs V hV hd K hK
    have d3 : vs 3 = .pointer (some ⟨w.heap.size, 2, none⟩) := hd 3 (by decide) (by kernel_rfl)
    have hcc := (EA.below hV).three
    have k0 := hcc.1
    have k1 := hcc.2.1
    have k2 := hcc.2.2.1
    clear hcc
    simp only [laidIn, lz1, lz2, lz3, lz4, lz5, lz6, if_true, Act.put, lz7, lz8, lz9] at hK ⊢
    simp only [d3] at hK ⊢
    go_simp
    exact hK.out _ _ (Below.refl _ _) rfl (not_fresh rfl)
  case refine_4 =>
    refine OpDoes.mk rfl ?_
    intro vs V hV hd K hK
    simp only [laidIn, lz1, lz2, lz3, lz4, lz5, lz6, if_true, Act.put, lz7, lz8, lz9] at hK ⊢
    go_simp
    exact hK.out _ _ (Below.refl _ _) rfl (not_fresh rfl)
  case refine_5 =>
    refine OpDoes.mk rfl ?_
    intro vs V hV hd K hK
    have d1 : vs 1 = .agg #[.bool b, .slice a xs.length ca] := hd 1 (by decide) (by kernel_rfl)
    simp only [laidIn, lz1, lz2, lz3, lz4, lz5, lz6, if_true, Act.put, lz7, lz8, lz9] at hK ⊢
    simp only [d1] at hK ⊢
    go_simp
    go_at_call 38
    refine (copyw_any b (FA.up.below hV) (by omega)).mono ?_
    rintro e V' ⟨a1, c1, rfl, S1, hb⟩
    exact hK.out _ _ hb ⟨_, _, rfl, S1.mono hV.size⟩ (not_fresh rfl)
  case refine_6 =>
    refine OpDoes.mk rfl ?_
    intro vs V hV hd K hK
    have d0 : vs 0 = .pointer (some ⟨w.heap.size, 0, none⟩) := hd 0 (by decide) (by kernel_rfl)
    have hcc := (EA.below hV).three
    have k0 := hcc.1
    have k1 := hcc.2.1
    have k2 := hcc.2.2.1
    clear hcc
    simp only [laidIn, lz1, lz2, lz3, lz4, lz5, lz6, if_true, Act.put, lz7, lz8, lz9] at hK ⊢
    simp only [d0] at hK ⊢
    go_simp
    exact hK.out _ _ (Below.refl _ _) rfl (not_fresh rfl)
  case refine_7 =>
    refine OpDoes.mk rfl ?_
    intro vs V hV hd K hK
    simp only [laidIn, lz1, lz2, lz4, lz5, lz6, if_true, Act.put, lz7, lz8, lz9] at hK ⊢
    go_simp
    exact hK.out _ _ (Below.refl _ _) rfl (not_fresh rfl)
  case refine_8 =>
    intro vs Y1 hV hR hne fuel
    have d0 : vs 0 = .pointer (some ⟨w.heap.size, 0, none⟩) := hR 0 (by decide)
    have d1 : vs 1 = .agg #[.bool b, .slice a xs.length ca] := hR 1 (by decide)
    have hh := fun (P : Prop) => Yield.copyw_elim P (show ((Yield.copyw u1.heap.size b xs) : Yield).At (vs 2) Y1 from hR 2 (by decide))
    refine hh _ ?_
    intro a1 c1 d2 S1
    clear hh
    have d3 : vs 3 = .pointer (some ⟨w.heap.size, 2, none⟩) := hR 3 (by decide)
    have d4 : vs 4 = .slice c ds.length cc := hR 4 (by decide)
    have hh := fun (P : Prop) => Yield.copyn_elim P (show ((Yield.copyn u1.heap.size ds) : Yield).At (vs 5) Y1 from hR 5 (by decide))
    refine hh _ ?_
    intro a2 c2 d5 S2
    clear hh
    have d6 : vs 6 = .pointer (some ⟨w.heap.size, 0, none⟩) := hR 6 (by decide)
    replace FA := FA.below hV
    replace EA := EA.below hV
    replace ER := ER.below hV
    have hr := hV
    simp only [laidIn, lz4, lz5, lz6, if_true, Act.put, lz7, lz8, lz9]
    simp only [d0, d1, d2, d3, d4, d5, d6]
    clear hR hne hV d0 d1 d2 d3 d4 d5 d6
    clear vs
    show wpAny _ _ _ _ (fuel + 3) _ _ _
    refine wpAny_all (rs := [7]) (by kernel_rfl) (by simp) (fun i hi => ?_)
    obtain rfl : i = 7 := by simpa using hi
    clear hi
    have hcc := EA.three
    have k0 := hcc.1
    have k1 := hcc.2.1
    have k2 := hcc.2.2.1
    have f0 := hcc.2.2.2.1
    have f1 := hcc.2.2.2.2.1
    have f2 := hcc.2.2.2.2.2
    clear hcc
    refine wpOp_step rfl (fun K hK => ?_)
    simp only [lz1, lz2, lz3]
    rw [if_pos (by rfl)]
    go_simp
    refine hK _ _ ?_
    clear hK k0 f0 k1 f1 k2 f2
    have hT := (((Turns.refl (w.heap.size) Y1).setCell 0 (.bool b)).setCell 1 (.slice a1 xs.length c1))
    replace FA := FA.beside EA (noWord3 (fun _ e => by cases e) (fun _ e => by cases e) (fun _ e => by cases e)) hT
    replace ER := ER.turns hT (by omega)
    replace S1 := S1.beside EA (noWord3 (fun _ e => by cases e) (fun _ e => by cases e) (fun _ e => by cases e)) hT
    replace S2 := S2.beside EA (noWord3 (fun _ e => by cases e) (fun _ e => by cases e) (fun _ e => by cases e)) hT
    replace EA : Box ((Y1.setCell ⟨w.heap.size, 0, none⟩ (.bool b)).setCell ⟨w.heap.size, 1, none⟩ (.slice a1 xs.length c1)) (w.heap.size) (.cells #[.bool b, .slice a1 xs.length c1, .slice c ds.length cc] 27) := ⟨Nat.lt_of_lt_of_le EA.lt hT.below.size, (heap_setCell_same _ _ 1 _ _ _ (heap_setCell_same _ _ 0 _ _ _ EA.what))⟩
    have hr7 := hT.below
    obtain ⟨X1, hX⟩ := nm hT.below
    rw [hX] at FA EA ER S1 S2 hr7 ⊢
    clear hX hT
    refine wpAny_all (rs := [8]) (by kernel_rfl) (by simp) (fun i hi => ?_)
    obtain rfl : i = 8 := by simpa using hi
    clear hi
    refine wpOp_step rfl (fun K hK => ?_)
    simp only [lz1, lz2, lz3]
    rw [if_pos (by rfl)]
    go_simp
    refine hK _ _ ?_
    clear hK
    refine wpAny_all (rs := [9]) (by kernel_rfl) (by simp) (fun i hi => ?_)
    obtain rfl : i = 9 := by simpa using hi
    clear hi
    have hcc := EA.three
    have k0 := hcc.1
    have k1 := hcc.2.1
    have k2 := hcc.2.2.1
    have f0 := hcc.2.2.2.1
    have f1 := hcc.2.2.2.2.1
    have f2 := hcc.2.2.2.2.2
    clear hcc
    refine wpOp_step rfl (fun K hK => ?_)
    simp only [lz1, lz2, lz3]
    rw [if_pos (by rfl)]
    go_simp
    refine hK _ _ ?_
    clear hK k0 f0 k1 f1 k2 f2
    have hT := ((Turns.refl (w.heap.size) X1).setCell 2 (.slice a2 ds.length c2))
    replace FA := FA.beside EA (noWord3 (fun _ e => by cases e) (fun _ e => by cases e) (fun _ e => by cases e)) hT
    replace ER := ER.turns hT (by omega)
    replace S1 := S1.beside EA (noWord3 (fun _ e => by cases e) (fun _ e => by cases e) (fun _ e => by cases e)) hT
    replace S2 := S2.beside EA (noWord3 (fun _ e => by cases e) (fun _ e => by cases e) (fun _ e => by cases e)) hT
    replace EA : Box (X1.setCell ⟨w.heap.size, 2, none⟩ (.slice a2 ds.length c2)) (w.heap.size) (.cells #[.bool b, .slice a1 xs.length c1, .slice a2 ds.length c2] 27) := ⟨Nat.lt_of_lt_of_le EA.lt hT.below.size, (heap_setCell_same _ _ 2 _ _ _ EA.what)⟩
    have hr9 := hT.below
    obtain ⟨X2, hX⟩ := nm hT.below
    rw [hX] at FA EA ER S1 S2 hr9 ⊢
    clear hX hT
    refine wpAny_done (by kernel_rfl) ?_ _
    replace hB := hB.trans ((Below.trans (Below.drew (Below.refl u1.heap.size u1)) hr).mono hB.size)
    replace hB := hB.trans (hr7.mono (by omega))
    replace hB := hB.trans (hr9.mono (by omega))
    have zz1_2 := hr.size
    have zi1 := hB.size
    have zy2_7 := hr7.size
    have zy2_9 := hr9.size
    clear hr hr7 hr9
    obtain ⟨k0, k1, k2, f0, f1, f2⟩ := EA.three
    obtain ⟨k3, k4, k5, f3, f4, f5⟩ := ER.three
    have hcc := ER.three
    have r0 := hcc.1
    have r1 := hcc.2.1
    have r2 := hcc.2.2.1
    clear hcc
    have qEA := EA.lt
    have qER := ER.lt
    have hs0 := Nat.le_refl X2.heap.size
    have hT := turns3 (w.heap.size + 1) X2 (.bool b) (.slice a1 xs.length c1) (.slice a2 ds.length c2)
    replace FA := FA.beside ER (noWord3 (fun _ e => by cases e) (fun _ e => by cases e) (fun _ e => by cases e)) hT
    replace EA := EA.turns hT (by omega)
    replace S1 := S1.beside ER (noWord3 (fun _ e => by cases e) (fun _ e => by cases e) (fun _ e => by cases e)) hT
    replace S2 := S2.beside ER (noWord3 (fun _ e => by cases e) (fun _ e => by cases e) (fun _ e => by cases e)) hT
    replace ER := Box.set3 (.bool b) (.slice a1 xs.length c1) (.slice a2 ds.length c2) ER
    replace hB := hB.trans (hT.below.mono (by omega))
    replace hs0 := Nat.le_trans hs0 hT.below.size
    clear hT
    go_wp2
    refine bodyPost_ret (v := .agg #[.bool b, .slice a1 xs.length c1, .slice a2 ds.length c2]) (by simp [results, Tryz.f13, go_sem, r0, r1, r2]) rfl ?_
    exact ⟨_, _, _, _, rfl, ⟨S1.mono (by omega), S2.mono (by omega)⟩, hB⟩
def OfSaid (x d : Int) (w : World) (e : Ending) (w' : World) : Prop := ∃ (g : Bool) (a : Option Addr) (ca : Nat) (xs : List Int) (c : Option Addr) (cc : Nat) (ds : List Int), e = .returned (.agg #[.bool g, .slice a xs.length ca, .slice c ds.length cc]) ∧ Fr w.heap.size w' a ca xs c cc ds ∧ Apart a c xs ds ∧ Canon g xs ∧ Norm ds ∧ Hid (sgn g (val xs) = x) ∧ Hid (val ds = d) ∧ xs.length ≤ 1 ∧ ds.length ≤ 1 ∧ Below w.heap.size w w'
set_option maxRecDepth 100000 in
set_option maxHeartbeats 4000000 in
theorem lrof_pos (x d : Int) (hx : 0 < x ∧ x ≤ 1000) (hd : 0 < d ∧ d ≤ 1000) (w : World) :
    Calls Tryz.prog 12 #[.int .i64 x, .int .u64 d] w fun e w' => OfSaid x d w e w' := by
  have h1 : ¬ x < 0 := by omega
  have h2 : 0 < x := hx.1
  have h3 : IntKind.u64.wrap x = x := by rw [IntKind.wrap_u64]; omega
  have s1 := seg_lit ((w.alloc (.cells #[.bool false, (.slice (some ⟨w.heap.size + 1 + 1, 0, none⟩) 1 1), (.slice (some ⟨w.heap.size + 1 + 1 + 1, 0, none⟩) 1 1)] 27)).alloc (.cells #[.bool false, (.slice (some ⟨w.heap.size + 1 + 1, 0, none⟩) 1 1)] 25)) [x] (Words.cons (by omega) Words.nil)
  have s2 := seg_lit (((w.alloc (.cells #[.bool false, (.slice (some ⟨w.heap.size + 1 + 1, 0, none⟩) 1 1), (.slice (some ⟨w.heap.size + 1 + 1 + 1, 0, none⟩) 1 1)] 27)).alloc (.cells #[.bool false, (.slice (some ⟨w.heap.size + 1 + 1, 0, none⟩) 1 1)] 25)).alloc (.cells #[.int .u64 (x)] 36)) [d] (Words.cons (by omega) Words.nil)
  have s3 := s1.alloc (.cells #[.int .u64 d] 36)
  have hb : Below w.heap.size w ((((w.alloc (.cells #[.bool false, (.slice (some ⟨w.heap.size + 1 + 1, 0, none⟩) 1 1), (.slice (some ⟨w.heap.size + 1 + 1 + 1, 0, none⟩) 1 1)] 27)).alloc (.cells #[.bool false, (.slice (some ⟨w.heap.size + 1 + 1, 0, none⟩) 1 1)] 25)).alloc (.cells #[.int .u64 (x)] 36)).alloc (.cells #[.int .u64 d] 36)) := ((((Below.refl _ w).a1 _).a1 _).a1 _).a1 _
  rw [World.size_alloc, World.size_alloc] at s1 s2 s3
  rw [World.size_alloc] at s2
  clear s1
  go_enter Tryz.func12, Tryz.ntmps12
  go_wp2
  refine bodyPost_ret (v := .agg #[.bool false, (.slice (some ⟨w.heap.size + 1 + 1, 0, none⟩) 1 1), (.slice (some ⟨w.heap.size + 1 + 1 + 1, 0, none⟩) 1 1)]) (by simp [results, Tryz.f12, go_sem]) rfl ?_
  exact ⟨false, _, _, [x], _, _, [d], rfl, ⟨s3.mono (by omega), s2.mono (by omega)⟩, fun _ _ b1 o1 b2 o2 e1 e2 => by simp at e1 e2; omega, ⟨Or.inr (by simp; omega), fun _ => by simp⟩, Or.inr (by simp; omega), by rw [Hid, val_cons, val_nil]; simp [sgn], by rw [Hid, val_cons, val_nil]; omega, by simp, by simp, hb⟩
set_option maxRecDepth 100000 in
set_option maxHeartbeats 4000000 in
theorem lrof_neg (x d : Int) (hx : -1000 ≤ x ∧ x < 0) (hd : 0 < d ∧ d ≤ 1000) (w : World) :
    Calls Tryz.prog 12 #[.int .i64 x, .int .u64 d] w fun e w' => OfSaid x d w e w' := by
  have h1 : x < 0 := by omega
  have h2 : 0 < -x := by omega
  have h3 : IntKind.u64.wrap (-x) = -x := by rw [IntKind.wrap_u64]; omega
  have h4 : IntKind.i64.wrap (-x) = -x := by rw [IntKind.wrap_i64]; omega
  have s1 := seg_lit ((w.alloc (.cells #[.bool true, (.slice (some ⟨w.heap.size + 1 + 1, 0, none⟩) 1 1), (.slice (some ⟨w.heap.size + 1 + 1 + 1, 0, none⟩) 1 1)] 27)).alloc (.cells #[.bool true, (.slice (some ⟨w.heap.size + 1 + 1, 0, none⟩) 1 1)] 25)) [-x] (Words.cons (by omega) Words.nil)
  have s2 := seg_lit (((w.alloc (.cells #[.bool true, (.slice (some ⟨w.heap.size + 1 + 1, 0, none⟩) 1 1), (.slice (some ⟨w.heap.size + 1 + 1 + 1, 0, none⟩) 1 1)] 27)).alloc (.cells #[.bool true, (.slice (some ⟨w.heap.size + 1 + 1, 0, none⟩) 1 1)] 25)).alloc (.cells #[.int .u64 (-x)] 36)) [d] (Words.cons (by omega) Words.nil)
  have s3 := s1.alloc (.cells #[.int .u64 d] 36)
  have hb : Below w.heap.size w ((((w.alloc (.cells #[.bool true, (.slice (some ⟨w.heap.size + 1 + 1, 0, none⟩) 1 1), (.slice (some ⟨w.heap.size + 1 + 1 + 1, 0, none⟩) 1 1)] 27)).alloc (.cells #[.bool true, (.slice (some ⟨w.heap.size + 1 + 1, 0, none⟩) 1 1)] 25)).alloc (.cells #[.int .u64 (-x)] 36)).alloc (.cells #[.int .u64 d] 36)) := ((((Below.refl _ w).a1 _).a1 _).a1 _).a1 _
  rw [World.size_alloc, World.size_alloc] at s1 s2 s3
  rw [World.size_alloc] at s2
  clear s1
  go_enter Tryz.func12, Tryz.ntmps12
  go_wp2
  refine bodyPost_ret (v := .agg #[.bool true, (.slice (some ⟨w.heap.size + 1 + 1, 0, none⟩) 1 1), (.slice (some ⟨w.heap.size + 1 + 1 + 1, 0, none⟩) 1 1)]) (by simp [results, Tryz.f12, go_sem]) rfl ?_
  exact ⟨true, _, _, [-x], _, _, [d], rfl, ⟨s3.mono (by omega), s2.mono (by omega)⟩, fun _ _ b1 o1 b2 o2 e1 e2 => by simp at e1 e2; omega, ⟨Or.inr (by simp; omega), fun _ => by simp⟩, Or.inr (by simp; omega), by rw [Hid, val_cons, val_nil]; simp [sgn], by rw [Hid, val_cons, val_nil]; omega, by simp, by simp, hb⟩
set_option maxRecDepth 100000 in
set_option maxHeartbeats 4000000 in
theorem lrof_zero (x d : Int) (hx : x = 0) (hd : 0 < d ∧ d ≤ 1000) (w : World) :
    Calls Tryz.prog 12 #[.int .i64 x, .int .u64 d] w fun e w' => OfSaid x d w e w' := by
  subst hx
  have s2 := seg_lit ((w.alloc (.cells #[.bool false, .slice none 0 0, (.slice (some ⟨w.heap.size + 1 + 1, 0, none⟩) 1 1)] 27)).alloc (.cells #[.bool false, .slice none 0 0] 25)) [d] (Words.cons (by omega) Words.nil)
  have hb : Below w.heap.size w (((w.alloc (.cells #[.bool false, .slice none 0 0, (.slice (some ⟨w.heap.size + 1 + 1, 0, none⟩) 1 1)] 27)).alloc (.cells #[.bool false, .slice none 0 0] 25)).alloc (.cells #[.int .u64 d] 36)) := (((Below.refl _ w).a1 _).a1 _).a1 _
  rw [World.size_alloc, World.size_alloc] at s2
  go_enter Tryz.func12, Tryz.ntmps12
  go_wp2
  refine bodyPost_ret (v := .agg #[.bool false, .slice none 0 0, (.slice (some ⟨w.heap.size + 1 + 1, 0, none⟩) 1 1)]) (by simp [results, Tryz.f12, go_sem]) rfl ?_
  exact ⟨false, none, 0, [], _, _, [d], rfl, ⟨Seg.nil _ _, s2.mono (by omega)⟩, fun h => absurd rfl h, ⟨norm_nil, fun h => by cases h⟩, Or.inr (by simp; omega), by rw [Hid, val_nil]; rfl, by rw [Hid, val_cons, val_nil]; omega, by simp, by simp, hb⟩
theorem lrof_any (x d : Int) (hx : -1000 ≤ x ∧ x ≤ 1000) (hd : 0 < d ∧ d ≤ 1000) (w : World) :
    Calls Tryz.prog 12 #[.int .i64 x, .int .u64 d] w fun e w' => OfSaid x d w e w' := by
  rcases Int.lt_trichotomy x 0 with h | h | h
  · exact lrof_neg x d ⟨hx.1, h⟩ hd w
  · exact lrof_zero x d h hd w
  · exact lrof_pos x d ⟨h, hx.2⟩ hd w
theorem of_is {g : Bool} {xs ds : List Int} {x d : Int} (N1 : Canon g xs) (N2 : Norm ds) (V1 : Hid (sgn g (val xs) = x)) (V2 : Hid (val ds = d)) (l1 : xs.length ≤ 1) (l2 : ds.length ≤ 1) (hg : Int.gcd x d = 1) (hd : 0 < d) : Is g xs ds (Rat.divInt x d) 1 := by
  refine ⟨⟨N1, N2, ?_⟩, ?_, l1, l2⟩
  · rw [V1.out, V2.out]; exact ⟨hd, hg⟩
  · rw [ratL, V1.out, V2.out]
theorem of_none {g : Bool} {xs ds : List Int} {x d : Int} (wx : Words xs) (wd : Words ds) (V1 : Hid (sgn g (val xs) = x)) (V2 : Hid (val ds = d)) (hg : Int.gcd x d ≠ 1) : formR g xs ds = 6 := by
  rcases formR_or g xs ds with h | h
  · have := ((formR_low wx wd).1 h).2.2.2
    rw [V1.out, V2.out] at this
    exact absurd this hg
  · exact h
set_option maxRecDepth 100000 in
set_option maxHeartbeats 4000000 in
theorem lris_yes {lo : Nat} {a c : Option Addr} {ca cc : Nat} {xs ds : List Int} {w : World} (b : Bool) (FA : Fr lo w a ca xs c cc ds) {n : Nat} (up down : Int) (hup : -1000 ≤ up ∧ up ≤ 1000) (hdn : 0 < down ∧ down ≤ 1000) (hgc : Int.gcd up down = 1) (IA : Is b xs ds (Rat.divInt up down) n) (hn : n ≤ 1000) :
    Calls Tryz.prog 22 #[.agg #[.bool b, .slice a xs.length ca, .slice c ds.length cc], .int .i64 0, .int .i64 up, .int .u64 down] w fun e w' => e = .returned (.bool true) ∧ Below w.heap.size w w' := by
  have hB := Below.refl w.heap.size w
  have hd0 := hdn.1
  go_enter Tryz.func22, Tryz.ntmps22
  have hA := Below.refl w.heap.size w
  have hq := below_new w (.cells #[.bool b, .slice a xs.length ca, .slice c ds.length cc] 27)
  replace FA := FA.below hq
  have EA := Box.put (w := w) (k := (w.heap.size)) (.cells #[.bool b, .slice a xs.length ca, .slice c ds.length cc] 27) rfl
  replace hA := hA.trans (hq.mono hA.size)
  replace hB := hB.trans (hq.mono hB.size)
  clear hq
  clear hA
  go_wp2_with fail
  obtain ⟨u1, hname⟩ := nm hB
  rw [hname] at hB FA EA ⊢
  have zh1 := hB.size
  clear hname
  replace FA := FA.drew
  have qEA := EA.lt
  replace EA := EA.drew
  have hr := Below.refl u1.drew.heap.size u1.drew
  have hkeep : ∀ V : World, Below u1.drew.heap.size u1.drew V → V.cell? ⟨w.heap.size, 0, none⟩ = some (.bool b) ∧ V.cell? ⟨w.heap.size, 1, none⟩ = some (.slice a xs.length ca) ∧ V.cell? ⟨w.heap.size, 2, none⟩ = some (.slice c ds.length cc) := fun V hV => ⟨(EA.below hV).three.1, (EA.below hV).three.2.1, (EA.below hV).three.2.2.1⟩
  have t0 : Hid True := trivial
  go_region_held3 (fun V : World => V.cell? ⟨w.heap.size, 0, none⟩ = some (.bool b) ∧ V.cell? ⟨w.heap.size, 1, none⟩ = some (.slice a xs.length ca) ∧ V.cell? ⟨w.heap.size, 2, none⟩ = some (.slice c ds.length cc))
    (first | exact hkeep _ hr | exact hkeep _ (hr.a1 _) | exact hkeep _ ((hr.a1 _).a1 _) | exact hkeep _ (((hr.a1 _).a1 _).a1 _) | exact hkeep _ ((((hr.a1 _).a1 _).a1 _).a1 _))
    (first
    | (clear t0
       go_at_call 12
       refine (lrof_any up down hup hdn _).mono ?_
       rintro e w2 ⟨g1, a1, c1, x1, e1, t1, y1, rfl, F1, P1, N1, N2, V1, V2, b1, b2, hb⟩
       have I1 := of_is N1 N2 V1 V2 b1 b2 hgc hd0
       clear P1 V1 V2
       replace FA := FA.below hb
       replace EA := EA.below hb
       replace hr := hr.trans (hb.mono hr.size)
       have zw2 := hb.size
       clear hb
       have t1 : Hid True := trivial)
    | (clear t1
       go_at_call 46
       refine (samer_is FA F1 IA I1 (by omega)).mono ?_
       rintro e w3 ⟨rfl, hb⟩
       replace FA := FA.below hb
       replace EA := EA.below hb
       replace F1 := F1.below hb
       replace hr := hr.trans (hb.mono hr.size)
       have zw3 := hb.size
       clear hb
       have t2 : Hid True := trivial))
  replace hB := hB.trans ((Below.trans (Below.drew (Below.refl u1.heap.size u1)) hr).mono hB.size)
  have zi_3 := hB.size
  clear hr hkeep t2
  obtain ⟨k0, k1, k2, f0, f1, f2⟩ := EA.three
  go_wp2
  go_ret
  exact ⟨rfl, hB⟩
set_option maxRecDepth 100000 in
set_option maxHeartbeats 4000000 in
theorem lrsame_yes {lo lo2 : Nat} {a c p r : Option Addr} {ca cc cp cr : Nat} {xs ds ys es : List Int} {w : World} {n m : Nat} {q : Rat} (b g : Bool) (FA : Fr lo w a ca xs c cc ds) (FB : Fr lo2 w p cp ys r cr es) (IA : Is b xs ds q n) (IB : Is g ys es q m) (hn : n ≤ 400) :
    Calls Tryz.prog 19 #[.agg #[.bool b, .slice a xs.length ca, .slice c ds.length cc], .int .i64 0, .agg #[.bool g, .slice p ys.length cp, .slice r es.length cr], .int .i64 0] w fun e w' => e = .returned (.bool true) ∧ Below w.heap.size w w' := by
  have hB := Below.refl w.heap.size w
  have lxa := IA.lu
  have lda := IA.ld
  go_enter Tryz.func19, Tryz.ntmps19
  have hA := Below.refl w.heap.size w
  have hq := below_new w (.cells #[.bool b, .slice a xs.length ca, .slice c ds.length cc] 27)
  replace FA := FA.below hq
  replace FB := FB.below hq
  have EA := Box.put (w := w) (k := (w.heap.size)) (.cells #[.bool b, .slice a xs.length ca, .slice c ds.length cc] 27) rfl
  replace hA := hA.trans (hq.mono hA.size)
  replace hB := hB.trans (hq.mono hB.size)
  clear hq
  have hq := below_new (w.alloc (.cells #[.bool b, .slice a xs.length ca, .slice c ds.length cc] 27)) (.cells #[.bool g, .slice p ys.length cp, .slice r es.length cr] 27)
  replace FA := FA.below hq
  replace FB := FB.below hq
  replace EA := EA.below hq
  have EB := Box.put (w := (w.alloc (.cells #[.bool b, .slice a xs.length ca, .slice c ds.length cc] 27))) (k := (w.heap.size + 1)) (.cells #[.bool g, .slice p ys.length cp, .slice r es.length cr] 27) (by simp)
  replace hA := hA.trans (hq.mono hA.size)
  replace hB := hB.trans (hq.mono hB.size)
  clear hq
  clear hA
  go_wp2_with fail
  obtain ⟨u1, hname⟩ := nm hB
  rw [hname] at hB FA FB EA EB ⊢
  have zh1 := hB.size
  clear hname
  refine (samer_is FA FB IA IB (by omega)).mono ?_
  rintro e w2 ⟨rfl, hb⟩
  replace FA := FA.below hb
  replace FB := FB.below hb
  replace EA := EA.below hb
  replace EB := EB.below hb
  replace hB := hB.trans (hb.mono hB.size)
  have zz2 := hb.size
  have zh2 := hB.size
  clear hb
  obtain ⟨k0, k1, k2, f0, f1, f2⟩ := EA.three
  obtain ⟨k3, k4, k5, f3, f4, f5⟩ := EB.three
  go_wp2_with fail
  clear k0 k1 k2 f0 f1 f2 k3 k4 k5 f3 f4 f5
  have hk := pcheck_any b FA (by omega) (by omega)
  rw [IA.good FA.up.words FA.down.words] at hk
  refine (hk).mono ?_
  rintro e w3 ⟨rfl, hb⟩
  replace FA := FA.below hb
  replace FB := FB.below hb
  replace EA := EA.below hb
  replace EB := EB.below hb
  replace hB := hB.trans (hb.mono hB.size)
  have zz3 := hb.size
  have zh3 := hB.size
  clear hb
  clear hk
  obtain ⟨k0, k1, k2, f0, f1, f2⟩ := EA.three
  obtain ⟨k3, k4, k5, f3, f4, f5⟩ := EB.three
  go_wp2
  go_ret
  exact ⟨rfl, hB⟩
structure GoodIs (v : Bool) (rs : List RV) : Prop where
  out : v = true ↔ ∀ r ∈ rs, formR r.b r.xs r.ds = 0
set_option maxRecDepth 100000 in
set_option maxHeartbeats 2000000 in
theorem lrgood_any {sv : Option Addr} {cap : Nat} {rs : List RV} {w : World} (R : Row 0 w sv rs) (hrl : rs.length ≤ 1000) (hlen : ∀ r ∈ rs, r.xs.length ≤ 1000 ∧ r.ds.length ≤ 1000) (v : Bool) (hv : GoodIs v rs) :
    Calls Tryz.prog 6 #[.slice sv rs.length cap] w fun e w' => e = .returned (.bool v) ∧ Below w.heap.size w w' := by
  go_enter Tryz.func6, Tryz.ntmps6
  go_wp2
  go_loopw [3] (fun iv wr => ∃ (i : Nat), iv = .int .i64 i ∧ i ≤ rs.length ∧ Row 0 wr sv rs ∧ Below w.heap.size w wr ∧ Hid (∀ r ∈ rs.take i, formR r.b r.xs r.ds = 0)) (fun iv _ => rs.length - (intOf iv).toNat)
  case atStart => exact ⟨0, rfl, Nat.zero_le _, R, Below.refl _ _, by rw [Hid]; simp⟩
  case round =>
    clear R
    obtain ⟨i, rfl, hi, R, hB, HG⟩ := hrel
    have hw1 : IntKind.i64.wrap ((i : Int) + 1) = (i : Int) + 1 := by rw [IntKind.wrap_i64]; omega
    by_cases hlt : i < rs.length
    · have hlt2 : (i : Int) < (rs.length : Int) := by omega
      have hge : ¬ (i : Int) < 0 := by omega
      obtain ⟨g, o, rfl, hg⟩ := R.at_ i hlt
      obtain ⟨r, hr0⟩ : ∃ r, rs[i]? = some r := ⟨rs[i], List.getElem?_eq_getElem hlt⟩
      have hr := hide hr0
      have F1 := R.held i r hr0
      clear hr0
      have hlr := hlen r (List.mem_of_getElem? hr.out)
      have hcc := R.cells g o i r rfl hr.out
      have c0 := hcc.1
      have c1 := hcc.2.1
      have c2 := hcc.2.2
      have hk := pcheck_any r.b F1 (by omega) (by omega)
      have hms : rs.length - (i + 1) < rs.length - i := by omega
      clear hcc
      rcases formR_or r.b r.xs r.ds with h | h
      · rw [h] at hk
        have H := hide h
        clear h
        go_wp2_with fail
        refine hk.mono ?_
        rintro e w1 ⟨rfl, hb1⟩
        have R1 := R.below hb1
        have hB1 := hB.trans (hb1.mono hB.size)
        clear hk c0 c1 c2
        go_wp2
        refine ⟨⟨i + 1, by simp, by omega, R1, hB1, ?_⟩, by simpa [intOf] using hms⟩
        rw [Hid]
        intro s hs
        rw [List.take_add_one, hr.out] at hs
        simp only [Option.toList_some, List.mem_append, List.mem_singleton] at hs
        rcases hs with hs | rfl
        · exact HG.out s hs
        · exact H.out
      · rw [h] at hk
        obtain rfl : v = false := by
          cases v
          · rfl
          · have := hv.out.1 rfl r (List.mem_of_getElem? hr.out)
            rw [h] at this
            exact absurd this (by decide)
        clear h
        go_wp2_with fail
        refine hk.mono ?_
        rintro e w1 ⟨rfl, hb1⟩
        have hB1 := hB.trans (hb1.mono hB.size)
        clear hk c0 c1 c2
        go_wp2
        go_ret
        exact ⟨rfl, hB1⟩
    · have hnl : ¬ (i : Int) < (rs.length : Int) := by omega
      obtain rfl : v = true := hv.out.2 (by have := HG.out; rw [List.take_of_length_le (by omega)] at this; exact this)
      go_wp2
      go_ret
      exact ⟨rfl, hB⟩
def longB (r : RV) : Bool := decide ((5 : Int) < (r.xs.length : Int) ∨ (5 : Int) < (r.ds.length : Int))
structure LongIs (v : Bool) (rs : List RV) : Prop where
  out : v = true ↔ 6 < rs.length ∨ ∃ r ∈ rs.take 7, longB r = true
set_option maxRecDepth 100000 in
set_option maxHeartbeats 2000000 in
theorem lrlong_any {sv : Option Addr} {cap : Nat} {rs : List RV} {w : World} (R : Row 0 w sv rs) (v : Bool) (hv : LongIs v rs) :
    Calls Tryz.prog 5 #[.slice sv rs.length cap] w fun e w' => e = .returned (.bool v) ∧ Below w.heap.size w w' := by
  go_enter Tryz.func5, Tryz.ntmps5
  go_wp2
  go_loopw [3] (fun iv wr => ∃ (i : Nat), iv = .int .i64 i ∧ i ≤ rs.length ∧ i ≤ 7 ∧ Row 0 wr sv rs ∧ Below w.heap.size w wr ∧ Hid (∀ r ∈ rs.take i, longB r = false)) (fun iv _ => rs.length - (intOf iv).toNat)
  case atStart => exact ⟨0, rfl, Nat.zero_le _, by omega, R, Below.refl _ _, by rw [Hid]; simp⟩
  case round =>
    clear R
    obtain ⟨i, rfl, hi, hi7, R, hB, HG⟩ := hrel
    have hw1 : IntKind.i64.wrap ((i : Int) + 1) = (i : Int) + 1 := by rw [IntKind.wrap_i64]; omega
    by_cases hlt : i < rs.length
    · have hlt2 : (i : Int) < (rs.length : Int) := by omega
      have hge : ¬ (i : Int) < 0 := by omega
      by_cases h7 : i < 7
      · have h72 : (i : Int) < 7 := by omega
        obtain ⟨g, o, rfl, hg⟩ := R.at_ i hlt
        obtain ⟨r, hr0⟩ : ∃ r, rs[i]? = some r := ⟨rs[i], List.getElem?_eq_getElem hlt⟩
        have hr := hide hr0
        clear hr0
        have hcc := R.cells g o i r rfl hr.out
        have c0 := hcc.1
        have c1 := hcc.2.1
        have c2 := hcc.2.2
        have hk := fun w => longr_any r.b r.a r.xs r.ca r.c r.ds r.cc 5 w
        have hms : rs.length - (i + 1) < rs.length - i := by omega
        have hmem : r ∈ rs.take 7 := by
          refine List.mem_iff_getElem?.2 ⟨i, ?_⟩
          rw [List.getElem?_take_of_lt h7]
          exact hr.out
        have HM := hide hmem
        clear hcc hmem
        obtain ⟨x, hx⟩ : ∃ x, decide ((5 : Int) < (r.xs.length : Int) ∨ (5 : Int) < (r.ds.length : Int)) = x := ⟨_, rfl⟩
        rw [hx] at hk
        have HX : Hid (longB r = x) := hx
        clear hx
        cases x with
        | false =>
          go_wp2_with fail
          refine (hk _).mono ?_
          rintro e w1 ⟨rfl, hb1⟩
          have R1 := R.below hb1
          have hB1 := hB.trans (hb1.mono hB.size)
          clear hk c0 c1 c2
          go_wp2
          refine ⟨⟨i + 1, by simp, by omega, by omega, R1, hB1, ?_⟩, by simpa [intOf] using hms⟩
          rw [Hid]
          intro s hs
          rw [List.take_add_one, hr.out] at hs
          simp only [Option.toList_some, List.mem_append, List.mem_singleton] at hs
          rcases hs with hs | rfl
          · exact HG.out s hs
          · exact HX.out
        | true =>
          obtain rfl : v = true := hv.out.2 (Or.inr ⟨r, HM.out, HX.out⟩)
          go_wp2_with fail
          refine (hk _).mono ?_
          rintro e w1 ⟨rfl, hb1⟩
          have hB1 := hB.trans (hb1.mono hB.size)
          clear hk c0 c1 c2
          go_wp2
          go_ret
          exact ⟨rfl, hB1⟩
      · have h72 : ¬ (i : Int) < 7 := by omega
        have h6 : (6 : Int) < (rs.length : Int) := by omega
        obtain rfl : v = true := hv.out.2 (Or.inl (by omega))
        go_wp2
        go_ret
        exact ⟨rfl, hB⟩
    · have hnl : ¬ (i : Int) < (rs.length : Int) := by omega
      by_cases h6 : 6 < rs.length
      · have h62 : (6 : Int) < (rs.length : Int) := by omega
        obtain rfl : v = true := hv.out.2 (Or.inl h6)
        go_wp2
        go_ret
        exact ⟨rfl, hB⟩
      · have h62 : ¬ (6 : Int) < (rs.length : Int) := by omega
        obtain rfl : v = false := by
          cases v
          · rfl
          · rcases hv.out.1 rfl with h | ⟨r, hr, hl⟩
            · exact absurd h h6
            · have h0 := HG.out
              rw [List.take_of_length_le (by omega)] at h0 hr
              rw [h0 r hr] at hl
              cases hl
        go_wp2
        go_ret
        exact ⟨rfl, hB⟩
set_option maxRecDepth 100000 in
set_option maxHeartbeats 4000000 in
theorem lrawake_any (w : World) : Calls Tryz.prog 4 #[] w fun e w' => e = .returned (.bool true) ∧ Below w.heap.size w w' := by
  have hB := Below.refl w.heap.size w
  go_enter Tryz.func4, Tryz.ntmps4
  go_wp2_with fail
  refine (ppair_neg 6 (-4) (by decide) (by decide) (by decide) _).mono ?_
  rintro e w1 ⟨g1, a1, c1, x1, e1, t1, y1, rfl, F1, P1, I1, hb⟩
  replace I1 : Is g1 x1 y1 (Rat.divInt (-3) 2) (1) := I1.to (by decide +kernel)
  replace hB := hB.trans (hb.mono hB.size)
  have zz1 := hb.size
  have zh1 := hB.size
  clear hb
  have hA := Below.refl w1.heap.size w1
  have hq := below_new w1 (.cells #[.bool g1, .slice a1 x1.length c1, .slice e1 y1.length t1] 27)
  replace F1 := F1.below hq
  have E1 := Box.put (w := w1) (k := (w1.heap.size)) (.cells #[.bool g1, .slice a1 x1.length c1, .slice e1 y1.length t1] 27) rfl
  replace hA := hA.trans (hq.mono hA.size)
  replace hB := hB.trans (hq.mono hB.size)
  clear hq
  clear hA
  go_wp2_with fail
  obtain ⟨u2, hname⟩ := nm hB
  rw [hname] at hB F1 E1 ⊢
  have zh2 := hB.size
  clear hname
  refine (lrof_any (1) 2 (by decide) (by decide) _).mono ?_
  rintro e w3 ⟨g2, a2, c2, x2, e2, t2, y2, rfl, F2, P2, N2, M2, V2, U2, b2, B2, hb⟩
  have I2 := of_is N2 M2 V2 U2 b2 B2 (by decide) (by decide)
  clear P2
  replace F1 := F1.below hb
  replace E1 := E1.below hb
  replace hB := hB.trans (hb.mono hB.size)
  have zz3 := hb.size
  have zh3 := hB.size
  clear hb
  go_wp2_with fail
  refine (lrof_any (1) 3 (by decide) (by decide) _).mono ?_
  rintro e w4 ⟨g3, a3, c3, x3, e3, t3, y3, rfl, F3, P3, N3, M3, V3, U3, b3, B3, hb⟩
  have I3 := of_is N3 M3 V3 U3 b3 B3 (by decide) (by decide)
  clear P3
  replace F1 := F1.below hb
  replace E1 := E1.below hb
  replace F2 := F2.below hb
  replace hB := hB.trans (hb.mono hB.size)
  have zz4 := hb.size
  have zh4 := hB.size
  clear hb
  go_wp2_with fail
  refine (lrof_any (1) 6 (by decide) (by decide) _).mono ?_
  rintro e w5 ⟨g4, a4, c4, x4, e4, t4, y4, rfl, F4, P4, N4, M4, V4, U4, b4, B4, hb⟩
  have I4 := of_is N4 M4 V4 U4 b4 B4 (by decide) (by decide)
  clear P4
  replace F1 := F1.below hb
  replace E1 := E1.below hb
  replace F2 := F2.below hb
  replace F3 := F3.below hb
  replace hB := hB.trans (hb.mono hB.size)
  have zz5 := hb.size
  have zh5 := hB.size
  clear hb
  have qE1 := E1.lt
  have hA := Below.refl w5.heap.size w5
  have hq := below_new w5 (.cells #[.bool g2, .slice a2 x2.length c2, .slice e2 y2.length t2, .bool g3, .slice a3 x3.length c3, .slice e3 y3.length t3, .bool g4, .slice a4 x4.length c4, .slice e4 y4.length t4] 27)
  replace F1 := F1.below hq
  replace E1 := E1.below hq
  replace F2 := F2.below hq
  replace F3 := F3.below hq
  replace F4 := F4.below hq
  have L5 := Box.put (w := w5) (k := (w5.heap.size)) (.cells #[.bool g2, .slice a2 x2.length c2, .slice e2 y2.length t2, .bool g3, .slice a3 x3.length c3, .slice e3 y3.length t3, .bool g4, .slice a4 x4.length c4, .slice e4 y4.length t4] 27) rfl
  replace hA := hA.trans (hq.mono hA.size)
  replace hB := hB.trans (hq.mono hB.size)
  clear hq
  clear hA
  go_wp2_with fail
  obtain ⟨u6, hname⟩ := nm hB
  rw [hname] at hB F1 E1 F2 F3 F4 L5 ⊢
  have zh6 := hB.size
  clear hname
  have R := row_box (rs := [⟨g2, a2, c2, x2, e2, t2, y2⟩, ⟨g3, a3, c3, x3, e3, t3, y3⟩, ⟨g4, a4, c4, x4, e4, t4, y4⟩]) (k := w5.heap.size) L5 (fun r hr => by
      simp only [List.mem_cons, List.not_mem_nil, or_false] at hr
      rcases hr with rfl | rfl | rfl
      · exact F2.mono (Nat.zero_le _)
      · exact F3.mono (Nat.zero_le _)
      · exact F4.mono (Nat.zero_le _))
  have hlen : ∀ r ∈ ([⟨g2, a2, c2, x2, e2, t2, y2⟩, ⟨g3, a3, c3, x3, e3, t3, y3⟩, ⟨g4, a4, c4, x4, e4, t4, y4⟩] : List RV), r.xs.length ≤ 1 ∧ r.ds.length ≤ 1 := fun r hr => by
      simp only [List.mem_cons, List.not_mem_nil, or_false] at hr
      rcases hr with rfl | rfl | rfl
      · exact ⟨Nat.le_trans I2.lu (by decide), Nat.le_trans I2.ld (by decide)⟩
      · exact ⟨Nat.le_trans I3.lu (by decide), Nat.le_trans I3.ld (by decide)⟩
      · exact ⟨Nat.le_trans I4.lu (by decide), Nat.le_trans I4.ld (by decide)⟩
  have hg : ∀ r ∈ ([⟨g2, a2, c2, x2, e2, t2, y2⟩, ⟨g3, a3, c3, x3, e3, t3, y3⟩, ⟨g4, a4, c4, x4, e4, t4, y4⟩] : List RV), formR r.b r.xs r.ds = 0 := fun r hr => by
      simp only [List.mem_cons, List.not_mem_nil, or_false] at hr
      rcases hr with rfl | rfl | rfl
      · exact I2.good F2.up.words F2.down.words
      · exact I3.good F3.up.words F3.down.words
      · exact I4.good F4.up.words F4.down.words
  refine (padd_ok (cap := 3) R (by simp) hlen (by omega) hg).mono ?_
  rintro e w7 ⟨g6, a6, c6, x6, e6, t6, y6, rfl, F6, P6, I6, hb⟩
  replace I6 : Is g6 x6 y6 (Rat.divInt 1 1) (7) := (I6.mono (by simp)).to (by simp only [sumQ, RV.q, List.foldl, I2.rat, I3.rat, I4.rat]; decide +kernel)
  replace F1 := F1.below hb
  replace E1 := E1.below hb
  replace F2 := F2.below hb
  replace F3 := F3.below hb
  replace F4 := F4.below hb
  replace L5 := L5.below hb
  replace hB := hB.trans (hb.mono hB.size)
  have zz7 := hb.size
  have zh7 := hB.size
  clear hb
  clear R hlen hg
  clear L5
  have qE1 := E1.lt
  have hA := Below.refl w7.heap.size w7
  have hq := below_new w7 (.cells #[.bool g6, .slice a6 x6.length c6, .slice e6 y6.length t6] 27)
  replace F1 := F1.below hq
  replace E1 := E1.below hq
  replace F2 := F2.below hq
  replace F3 := F3.below hq
  replace F4 := F4.below hq
  replace F6 := F6.below hq
  have E6 := Box.put (w := w7) (k := (w7.heap.size)) (.cells #[.bool g6, .slice a6 x6.length c6, .slice e6 y6.length t6] 27) rfl
  replace hA := hA.trans (hq.mono hA.size)
  replace hB := hB.trans (hq.mono hB.size)
  clear hq
  clear hA
  go_wp2_with fail
  obtain ⟨u8, hname⟩ := nm hB
  rw [hname] at hB F1 E1 F2 F3 F4 F6 E6 ⊢
  have zh8 := hB.size
  clear hname
  refine (lrof_any (2) 3 (by decide) (by decide) _).mono ?_
  rintro e w9 ⟨g7, a7, c7, x7, e7, t7, y7, rfl, F7, P7, N7, M7, V7, U7, b7, B7, hb⟩
  have I7 := of_is N7 M7 V7 U7 b7 B7 (by decide) (by decide)
  clear P7
  replace F1 := F1.below hb
  replace E1 := E1.below hb
  replace F2 := F2.below hb
  replace F3 := F3.below hb
  replace F4 := F4.below hb
  replace F6 := F6.below hb
  replace E6 := E6.below hb
  replace hB := hB.trans (hb.mono hB.size)
  have zz9 := hb.size
  have zh9 := hB.size
  clear hb
  go_wp2_with fail
  refine (lrof_any (3) 4 (by decide) (by decide) _).mono ?_
  rintro e w10 ⟨g8, a8, c8, x8, e8, t8, y8, rfl, F8, P8, N8, M8, V8, U8, b8, B8, hb⟩
  have I8 := of_is N8 M8 V8 U8 b8 B8 (by decide) (by decide)
  clear P8
  replace F1 := F1.below hb
  replace E1 := E1.below hb
  replace F2 := F2.below hb
  replace F3 := F3.below hb
  replace F4 := F4.below hb
  replace F6 := F6.below hb
  replace E6 := E6.below hb
  replace F7 := F7.below hb
  replace hB := hB.trans (hb.mono hB.size)
  have zz10 := hb.size
  have zh10 := hB.size
  clear hb
  clear F2 F3 F4
  have qE1 := E1.lt
  have qE6 := E6.lt
  have hA := Below.refl w10.heap.size w10
  have hq := below_new w10 (.cells #[.bool g7, .slice a7 x7.length c7, .slice e7 y7.length t7, .bool g8, .slice a8 x8.length c8, .slice e8 y8.length t8] 27)
  replace F1 := F1.below hq
  replace E1 := E1.below hq
  replace F6 := F6.below hq
  replace E6 := E6.below hq
  replace F7 := F7.below hq
  replace F8 := F8.below hq
  have L9 := Box.put (w := w10) (k := (w10.heap.size)) (.cells #[.bool g7, .slice a7 x7.length c7, .slice e7 y7.length t7, .bool g8, .slice a8 x8.length c8, .slice e8 y8.length t8] 27) rfl
  replace hA := hA.trans (hq.mono hA.size)
  replace hB := hB.trans (hq.mono hB.size)
  clear hq
  clear hA
  go_wp2_with fail
  obtain ⟨u11, hname⟩ := nm hB
  rw [hname] at hB F1 E1 F6 E6 F7 F8 L9 ⊢
  have zh11 := hB.size
  clear hname
  have R := row_box (rs := [⟨g7, a7, c7, x7, e7, t7, y7⟩, ⟨g8, a8, c8, x8, e8, t8, y8⟩]) (k := w10.heap.size) L9 (fun r hr => by
      simp only [List.mem_cons, List.not_mem_nil, or_false] at hr
      rcases hr with rfl | rfl
      · exact F7.mono (Nat.zero_le _)
      · exact F8.mono (Nat.zero_le _))
  have hlen : ∀ r ∈ ([⟨g7, a7, c7, x7, e7, t7, y7⟩, ⟨g8, a8, c8, x8, e8, t8, y8⟩] : List RV), r.xs.length ≤ 1 ∧ r.ds.length ≤ 1 := fun r hr => by
      simp only [List.mem_cons, List.not_mem_nil, or_false] at hr
      rcases hr with rfl | rfl
      · exact ⟨Nat.le_trans I7.lu (by decide), Nat.le_trans I7.ld (by decide)⟩
      · exact ⟨Nat.le_trans I8.lu (by decide), Nat.le_trans I8.ld (by decide)⟩
  have hg : ∀ r ∈ ([⟨g7, a7, c7, x7, e7, t7, y7⟩, ⟨g8, a8, c8, x8, e8, t8, y8⟩] : List RV), formR r.b r.xs r.ds = 0 := fun r hr => by
      simp only [List.mem_cons, List.not_mem_nil, or_false] at hr
      rcases hr with rfl | rfl
      · exact I7.good F7.up.words F7.down.words
      · exact I8.good F8.up.words F8.down.words
  refine (pmul_ok (cap := 2) R (by simp) hlen (by omega) hg).mono ?_
  rintro e w12 ⟨g10, a10, c10, x10, e10, t10, y10, rfl, F10, P10, I10, hb⟩
  replace I10 : Is g10 x10 y10 (Rat.divInt 1 2) (5) := (I10.mono (by simp)).to (by simp only [mulQ, RV.q, List.foldl, I7.rat, I8.rat]; decide +kernel)
  replace F1 := F1.below hb
  replace E1 := E1.below hb
  replace F6 := F6.below hb
  replace E6 := E6.below hb
  replace F7 := F7.below hb
  replace F8 := F8.below hb
  replace L9 := L9.below hb
  replace hB := hB.trans (hb.mono hB.size)
  have zz12 := hb.size
  have zh12 := hB.size
  clear hb
  clear R hlen hg
  clear L9
  obtain ⟨k0, k1, k2, f0, f1, f2⟩ := E1.three
  have qE1 := E1.lt
  have qE6 := E6.lt
  have hA := Below.refl w12.heap.size w12
  have hq := below_new w12 (.cells #[.bool g10, .slice a10 x10.length c10, .slice e10 y10.length t10] 27)
  replace F1 := F1.below hq
  replace E1 := E1.below hq
  replace F6 := F6.below hq
  replace E6 := E6.below hq
  replace F7 := F7.below hq
  replace F8 := F8.below hq
  replace F10 := F10.below hq
  have E10 := Box.put (w := w12) (k := (w12.heap.size)) (.cells #[.bool g10, .slice a10 x10.length c10, .slice e10 y10.length t10] 27) rfl
  replace hA := hA.trans (hq.mono hA.size)
  replace hB := hB.trans (hq.mono hB.size)
  clear hq
  clear hA
  go_wp2_with fail
  clear k0 k1 k2 f0 f1 f2
  obtain ⟨u13, hname⟩ := nm hB
  rw [hname] at hB F1 E1 F6 E6 F7 F8 F10 E10 ⊢
  have zh13 := hB.size
  clear hname
  refine (lris_yes g1 F1 (-3) 2 (by decide) (by decide) (by decide) I1 (by decide)).mono ?_
  rintro e w14 ⟨rfl, hb⟩
  replace F1 := F1.below hb
  replace E1 := E1.below hb
  replace F6 := F6.below hb
  replace E6 := E6.below hb
  replace F7 := F7.below hb
  replace F8 := F8.below hb
  replace F10 := F10.below hb
  replace E10 := E10.below hb
  replace hB := hB.trans (hb.mono hB.size)
  have zz14 := hb.size
  have zh14 := hB.size
  clear hb
  clear E1 F1
  clear F7 F8
  obtain ⟨k0, k1, k2, f0, f1, f2⟩ := E6.three
  go_wp2_with fail
  clear k0 k1 k2 f0 f1 f2
  refine (lris_yes g6 F6 (1) 1 (by decide) (by decide) (by decide) I6 (by decide)).mono ?_
  rintro e w15 ⟨rfl, hb⟩
  replace F6 := F6.below hb
  replace E6 := E6.below hb
  replace F10 := F10.below hb
  replace E10 := E10.below hb
  replace hB := hB.trans (hb.mono hB.size)
  have zz15 := hb.size
  have zh15 := hB.size
  clear hb
  clear E6 F6
  obtain ⟨k0, k1, k2, f0, f1, f2⟩ := E10.three
  go_wp2_with fail
  clear k0 k1 k2 f0 f1 f2
  refine (lris_yes g10 F10 (1) 2 (by decide) (by decide) (by decide) I10 (by decide)).mono ?_
  rintro e w16 ⟨rfl, hb⟩
  replace F10 := F10.below hb
  replace E10 := E10.below hb
  replace hB := hB.trans (hb.mono hB.size)
  have zz16 := hb.size
  have zh16 := hB.size
  clear hb
  clear E10 F10
  go_wp2_with fail
  refine (lrof_any (2) 4 (by decide) (by decide) _).mono ?_
  rintro e w17 ⟨g11, a11, c11, x11, e11, t11, y11, rfl, F11, P11, N11, M11, V11, U11, b11, B11, hb⟩
  have I11 := of_none F11.up.words F11.down.words V11 U11 (by decide)
  clear P11
  replace hB := hB.trans (hb.mono hB.size)
  have zz17 := hb.size
  have zh17 := hB.size
  clear hb
  go_wp2_with fail
  have hk := pcheck_any g11 F11 (by omega) (by omega)
  rw [I11] at hk
  refine (hk).mono ?_
  rintro e w18 ⟨rfl, hb⟩
  replace F11 := F11.below hb
  replace hB := hB.trans (hb.mono hB.size)
  have zz18 := hb.size
  have zh18 := hB.size
  clear hb
  clear hk
  go_wp2
  go_ret
  exact ⟨rfl, hB⟩
theorem mp_of {P G : Prop} (f : P → G) (p : P) : G := f p
def absR (q : Rat) : Rat := if q < 0 then -q else q
theorem absR_divInt (s d : Int) (hd : 0 < d) : absR (Rat.divInt s d) = Rat.divInt (s.natAbs : Int) d := by
  unfold absR
  rcases Int.lt_or_le s 0 with h | h
  · have hn : Rat.divInt s d < 0 := by
      have := (divInt_lt_iff (u := s) (d := d) (v := 0) (e := 1) hd (by decide)).2 (by omega)
      rwa [Rat.zero_divInt] at this
    rw [if_pos hn, Rat.neg_divInt, show (s.natAbs : Int) = -s by omega]
  · have hn : ¬ Rat.divInt s d < 0 := by
      intro h0
      have := (divInt_lt_iff (u := s) (d := d) (v := 0) (e := 1) hd (by decide)).1 (by rw [Rat.zero_divInt]; exact h0)
      omega
    rw [if_neg hn, show (s.natAbs : Int) = s by omega]
theorem Is.abs {b : Bool} {xs ds : List Int} {q : Rat} {n : Nat} (h : Is b xs ds q n) (wx : Words xs) : Is false xs ds (absR q) n := by
  refine ⟨⟨⟨h.low.1.1, fun h => by cases h⟩, h.low.2.1, h.low.2.2.1, ?_⟩, ?_, h.lu, h.ld⟩
  · have := h.low.2.2.2
    rw [sgn_gcd] at this ⊢
    exact this
  · rw [← h.rat, ratL, ratL, absR_divInt _ _ h.low.2.2.1]
    congr 1
    have := val_nonneg wx
    cases b <;> simp [sgn] <;> omega
theorem far_is {b : Bool} {u d R : Int} (hd : 0 < d) : cmpR (absR (Rat.divInt (sgn b u) d - Rat.divInt (sgn b R) 1)) (Rat.divInt 1 2) = cmpI (((u - R * d).natAbs : Int) * 2) (1 * d) := by
  rw [Rat.divInt_sub_divInt _ _ (by omega) (by decide), absR_divInt _ _ (by omega), cmpR_divInt (by omega) (by decide)]
  have : (sgn b u * 1 - sgn b R * d).natAbs = (u - R * d).natAbs := by
    cases b
    · simp [sgn]
    · simp only [sgn, if_true, Int.mul_one, Int.neg_mul]
      omega
  rw [this, Int.mul_one]
theorem far_near {b : Bool} {u d : Int} (hd : 0 < d) : cmpR (absR (Rat.divInt (sgn b u) d - Rat.divInt (sgn b (roundN u d)) 1)) (Rat.divInt 1 2) = -1 ∨ (cmpR (absR (Rat.divInt (sgn b u) d - Rat.divInt (sgn b (roundN u d)) 1)) (Rat.divInt 1 2) = 0 ∧ roundN u d % 2 = 0) := by
  rw [far_is hd]
  obtain ⟨h1, h2, h3⟩ := roundN_near (n := u) hd
  generalize roundN u d = R at *
  generalize R * d = P at *
  rcases Int.lt_trichotomy (((u - P).natAbs : Int) * 2) (1 * d) with h | h | h
  · exact Or.inl (cmpI_lt h)
  · refine Or.inr ⟨by rw [h, cmpI_eq], h3 ?_⟩
    omega
  · exfalso
    omega
theorem roundN_zero {d : Int} (hd : 0 < d) : roundN 0 d = 0 := by
  unfold roundN
  rw [Int.zero_emod, Int.zero_ediv, if_neg]
  rintro (h | ⟨h, _⟩) <;> omega
theorem roundN_nonneg {u d : Int} (hu : 0 ≤ u) (hd : 0 < d) : 0 ≤ roundN u d := by
  have := Int.ediv_nonneg hu (Int.le_of_lt hd)
  unfold roundN
  split <;> omega
theorem round_neg {b g : Bool} {u v d : Int} (hu : 0 ≤ u) (hv : 0 ≤ v) (hd : 0 < d) (h : sgn g v = -sgn b u) : sgn g (roundN v d) = -sgn b (roundN u d) := by
  cases b <;> cases g <;> simp [sgn] at h ⊢
  · have h1 : u = 0 := by omega
    have h2 : v = 0 := by omega
    rw [h1, h2, roundN_zero hd]; rfl
  · rw [show v = u by omega]
  · rw [show v = u by omega]
  · have h1 : u = 0 := by omega
    have h2 : v = 0 := by omega
    rw [h1, h2, roundN_zero hd]; rfl
theorem sgn_abs {b g : Bool} {u v : Int} (hu : 0 ≤ u) (hv : 0 ≤ v) (h : sgn g v = sgn b u) : v = u := by
  cases b <;> cases g <;> simp [sgn] at h <;> omega
theorem dvdB_two (u : Int) : dvdB 2 u = decide (u % 2 = 0) := by unfold dvdB; rw [if_neg (by decide)]
theorem inv_powR (q : Rat) (k : Nat) : q⁻¹ ^ k = (q ^ k)⁻¹ := by
  induction k with
  | zero => rw [Rat.pow_zero, Rat.pow_zero]; decide +kernel
  | succ k ih => rw [Rat.pow_succ, Rat.pow_succ, ih, Rat.inv_mul_rev, Rat.mul_comm]
theorem ppower_int {lo : Nat} {a c : Option Addr} {ca cc : Nat} {xs ds : List Int} {w : World} (b : Bool) (FA : Fr lo w a ca xs c cc ds) {n : Nat} {q : Rat} (IA : Is b xs ds q n) (hn : n ≤ 30) (HX : Hid (xs ≠ [])) (N : Int) (hN : -12 ≤ N ∧ N ≤ 12) :
    Calls Tryz.prog 17 #[.agg #[.bool b, .slice a xs.length ca, .slice c ds.length cc], .int .i64 N] w fun e w' => ∃ (b' : Bool) (a' : Option Addr) (ca' : Nat) (ts' : List Int) (c' : Option Addr) (cc' : Nat) (es' : List Int), e = .returned (.tuple #[.agg #[.bool b', .slice a' ts'.length ca', .slice c' es'.length cc'], .int .i64 0]) ∧ Fr w.heap.size w' a' ca' ts' c' cc' es' ∧ Apart a' c' ts' es' ∧ Is b' ts' es' (q ^ N) (n * N.natAbs + 1) ∧ Below w.heap.size w w' := by
  rcases Int.lt_or_le N 0 with h | h
  · obtain ⟨k, hk⟩ := Int.eq_ofNat_of_zero_le (show 0 ≤ -N by omega)
    obtain rfl : N = -(k : Int) := by omega
    refine (ppower_neg b FA IA hn k (by omega) (by omega) HX).mono ?_
    rintro e w' ⟨b', a', ca', ts, c', cc', es, rfl, F, P, I, hb⟩
    exact ⟨b', a', ca', ts, c', cc', es, rfl, F, P, (I.mono (by simp)).to (by rw [inv_powR, Rat.zpow_neg, Rat.zpow_natCast]), hb⟩
  · obtain ⟨k, rfl⟩ := Int.eq_ofNat_of_zero_le h
    refine (ppower_pos b FA IA hn k (by omega)).mono ?_
    rintro e w' ⟨b', a', ca', ts, c', cc', es, rfl, F, P, I, hb⟩
    exact ⟨b', a', ca', ts, c', cc', es, rfl, F, P, (I.mono (by simp)).to (by rw [Rat.zpow_natCast]), hb⟩
theorem lrof_half (w : World) : Calls Tryz.prog 12 #[.int .i64 1, .int .u64 2] w fun e w' => ∃ (b' : Bool) (a' : Option Addr) (ca' : Nat) (ts' : List Int) (c' : Option Addr) (cc' : Nat) (es' : List Int), e = .returned (.agg #[.bool b', .slice a' ts'.length ca', .slice c' es'.length cc']) ∧ Fr w.heap.size w' a' ca' ts' c' cc' es' ∧ Apart a' c' ts' es' ∧ Is b' ts' es' (Rat.divInt 1 2) (1) ∧ Below w.heap.size w w' := by
  refine (lrof_any 1 2 (by decide) (by decide) w).mono ?_
  rintro e w' ⟨g, a, ca, xs, c, cc, ds, rfl, F, P, N, M, V, U, b, B, hb⟩
  exact ⟨g, a, ca, xs, c, cc, ds, rfl, F, P, of_is N M V U b B (by decide) (by decide), hb⟩
set_option maxRecDepth 100000 in
set_option maxHeartbeats 1000000 in
theorem pick13 (x : Int) (hx : -9223372036854775808 ≤ x ∧ x ≤ 9223372036854775807) (w : World) : Calls Tryz.prog 7 #[.int .i64 x, .int .i64 13] w fun e w' => ∃ n : Nat, n < 13 ∧ e = .returned (.int .i64 n) ∧ Below w.heap.size w w' := by
  by_cases h0 : 0 ≤ x
  · have h1 : 0 ≤ x % 13 := by omega
    have h2 : x % 13 < 13 := by omega
    go_enter Tryz.func7, Tryz.ntmps7
    go_wp2
    go_ret
    exact ⟨(x % 13).toNat, by omega, ret_int (by omega), Below.refl _ _⟩
  · have h1 : -13 < x.tmod 13 ∧ x.tmod 13 ≤ 0 := by
      have e : x.tmod 13 = -((-x) % 13) := by
        rw [show x = -(-x) by omega, Int.neg_tmod, Int.tmod_eq_emod_of_nonneg (by omega)]; simp
      omega
    by_cases h2 : x.tmod 13 < 0
    · have h3 : ¬ x.tmod 13 = 0 := by omega
      go_enter Tryz.func7, Tryz.ntmps7
      go_wp2
      go_ret
      exact ⟨(x.tmod 13 + 13).toNat, by omega, ret_int (by omega), Below.refl _ _⟩
    · have h3 : x.tmod 13 = 0 := by omega
      go_enter Tryz.func7, Tryz.ntmps7
      go_wp2
      go_ret
      exact ⟨0, by omega, ret_int (by omega), Below.refl _ _⟩
theorem long_no (rs : List RV) (h6 : rs.length ≤ 6) (h : ∀ r ∈ rs, r.xs.length ≤ 5 ∧ r.ds.length ≤ 5) : LongIs false rs := by
  refine ⟨⟨(fun h => by cases h), ?_⟩⟩
  rintro (h1 | ⟨r, hr, hl⟩)
  · omega
  · have := h r (List.mem_of_mem_take hr)
    simp [longB] at hl
    omega
theorem long_yes (rs : List RV) (h : ∃ r ∈ rs.take 7, ¬ (r.xs.length ≤ 5 ∧ r.ds.length ≤ 5)) : LongIs true rs := by
  refine ⟨⟨fun _ => ?_, fun _ => rfl⟩⟩
  obtain ⟨r, hr, hl⟩ := h
  refine Or.inr ⟨r, hr, ?_⟩
  simp [longB]
  omega
theorem good_yes (rs : List RV) (h : ∀ r ∈ rs, formR r.b r.xs r.ds = 0) : GoodIs true rs := ⟨⟨fun _ => h, fun _ => rfl⟩⟩
theorem good_no (rs : List RV) (h : ¬ ∀ r ∈ rs, formR r.b r.xs r.ds = 0) : GoodIs false rs := ⟨⟨(fun h => by cases h), fun h' => absurd h' h⟩⟩
theorem seg_box {W : World} {k : Nat} {cs : Array Value} {t : TypeId} (E : Box W k (.cells cs t (0, 0))) (zs : List Int) (hw : Words zs) (h : cs = (zs.map (Value.int .u64)).toArray) : Seg k W (.slice (some ⟨k, 0, none⟩) zs.length zs.length) zs := by
  subst h
  refine ⟨hw, _, _, rfl, Nat.le_refl _, fun _ => ⟨k, 0, rfl, Nat.le_refl _, E.lt, fun j hj => ?_, fun j hj => frozen_of_heap E.what _⟩⟩
  rw [cell_of_heap E.what]
  simp [hj]
def roundS (x d : Int) : Int := if x < 0 then -roundN (-x) d else roundN x d
set_option maxRecDepth 100000 in
set_option maxHeartbeats 4000000 in
theorem lrrounds_long {a1 e1 : Option Addr} {c1 t1 : Nat} {x1 y1 : List Int} {w : World} (g1 : Bool) (F1 : Fr 0 w a1 c1 x1 e1 t1 y1) (m : Int) (_hm : -9223372036854775808 ≤ m ∧ m ≤ 9223372036854775807) (n : Int) (_hn : -9223372036854775808 ≤ n ∧ n ≤ 9223372036854775807) (HL : LongIs true [⟨g1, a1, c1, x1, e1, t1, y1⟩]) :
    Calls Tryz.prog 3 #[.agg #[.bool g1, .slice a1 x1.length c1, .slice e1 y1.length t1], .int .i64 m, .int .i64 n] w fun e w' => e = .returned (.bool true) ∧ Below w.heap.size w w' := by
  have hB := Below.refl w.heap.size w
  go_enter Tryz.func3, Tryz.ntmps3
  have hs0 := Nat.le_refl w.heap.size
  have hq := below_new w (.cells #[.bool g1, .slice a1 x1.length c1, .slice e1 y1.length t1] 27)
  replace F1 := F1.below hq
  have E1 := Box.put (w := w) (k := (w.heap.size)) (.cells #[.bool g1, .slice a1 x1.length c1, .slice e1 y1.length t1] 27) rfl
  replace hs0 := Nat.le_trans hs0 hq.size
  replace hB := hB.trans (hq.mono hB.size)
  clear hq
  go_wp2_with fail
  obtain ⟨u1, hname⟩ := nm hB
  rw [hname] at hs0 hB F1 E1 ⊢
  have zh1 := hB.size
  have zs1 := hs0
  clear hname hs0
  refine (lrawake_any _).mono ?_
  rintro e w2 ⟨rfl, hb⟩
  replace F1 := F1.below hb
  replace E1 := E1.below hb
  replace hB := hB.trans (hb.mono hB.size)
  have zz2 := hb.size
  have zh2 := hB.size
  clear hb
  obtain ⟨k0, k1, k2, f0, f1, f2⟩ := E1.three
  have qE1 := E1.lt
  have hs0 := Nat.le_refl w2.heap.size
  have hq := below_new w2 (.cells #[.bool g1, .slice a1 x1.length c1, .slice e1 y1.length t1] 27)
  replace F1 := F1.below hq
  replace E1 := E1.below hq
  have L0 := Box.put (w := w2) (k := (w2.heap.size)) (.cells #[.bool g1, .slice a1 x1.length c1, .slice e1 y1.length t1] 27) rfl
  replace hs0 := Nat.le_trans hs0 hq.size
  replace hB := hB.trans (hq.mono hB.size)
  clear hq
  go_wp2_with fail
  clear k0 k1 k2 f0 f1 f2
  obtain ⟨u3, hname⟩ := nm hB
  rw [hname] at hs0 hB F1 E1 L0 ⊢
  have zh3 := hB.size
  have zs3 := hs0
  clear hname hs0
  have R := row_box (rs := [⟨g1, a1, c1, x1, e1, t1, y1⟩]) (k := w2.heap.size) L0 (fun r hr => by
      simp only [List.mem_cons, List.not_mem_nil, or_false] at hr
      rcases hr with rfl
      · exact F1.mono (Nat.zero_le _))
  refine (lrlong_any (cap := 1) R true HL).mono ?_
  rintro e w4 ⟨rfl, hb⟩
  replace F1 := F1.below hb
  replace E1 := E1.below hb
  replace L0 := L0.below hb
  replace hB := hB.trans (hb.mono hB.size)
  have zz4 := hb.size
  have zh4 := hB.size
  clear hb
  clear R
  clear L0
  go_wp2
  go_ret
  exact ⟨rfl, hB⟩
set_option maxRecDepth 100000 in
set_option maxHeartbeats 4000000 in
theorem lrrounds_bad {a1 e1 : Option Addr} {c1 t1 : Nat} {x1 y1 : List Int} {w : World} (g1 : Bool) (F1 : Fr 0 w a1 c1 x1 e1 t1 y1) (m : Int) (_hm : -9223372036854775808 ≤ m ∧ m ≤ 9223372036854775807) (n : Int) (_hn : -9223372036854775808 ≤ n ∧ n ≤ 9223372036854775807) (hl1 : x1.length ≤ 5 ∧ y1.length ≤ 5) (HG : GoodIs false [⟨g1, a1, c1, x1, e1, t1, y1⟩]) :
    Calls Tryz.prog 3 #[.agg #[.bool g1, .slice a1 x1.length c1, .slice e1 y1.length t1], .int .i64 m, .int .i64 n] w fun e w' => e = .returned (.bool true) ∧ Below w.heap.size w w' := by
  have hlen0 : Hid (∀ r ∈ ([⟨g1, a1, c1, x1, e1, t1, y1⟩] : List RV), r.xs.length ≤ 1000 ∧ r.ds.length ≤ 1000) := fun r hr => by
    simp only [List.mem_cons, List.not_mem_nil, or_false] at hr
    subst hr
    constructor <;> simp <;> omega
  have HL := long_no [⟨g1, a1, c1, x1, e1, t1, y1⟩] (by simp) (fun r hr => by
    simp only [List.mem_cons, List.not_mem_nil, or_false] at hr
    subst hr
    exact hl1)
  have hB := Below.refl w.heap.size w
  go_enter Tryz.func3, Tryz.ntmps3
  have hs0 := Nat.le_refl w.heap.size
  have hq := below_new w (.cells #[.bool g1, .slice a1 x1.length c1, .slice e1 y1.length t1] 27)
  replace F1 := F1.below hq
  have E1 := Box.put (w := w) (k := (w.heap.size)) (.cells #[.bool g1, .slice a1 x1.length c1, .slice e1 y1.length t1] 27) rfl
  replace hs0 := Nat.le_trans hs0 hq.size
  replace hB := hB.trans (hq.mono hB.size)
  clear hq
  go_wp2_with fail
  obtain ⟨u1, hname⟩ := nm hB
  rw [hname] at hs0 hB F1 E1 ⊢
  have zh1 := hB.size
  have zs1 := hs0
  clear hname hs0
  refine (lrawake_any _).mono ?_
  rintro e w2 ⟨rfl, hb⟩
  replace F1 := F1.below hb
  replace E1 := E1.below hb
  replace hB := hB.trans (hb.mono hB.size)
  have zz2 := hb.size
  have zh2 := hB.size
  clear hb
  obtain ⟨k0, k1, k2, f0, f1, f2⟩ := E1.three
  have qE1 := E1.lt
  have hs0 := Nat.le_refl w2.heap.size
  have hq := below_new w2 (.cells #[.bool g1, .slice a1 x1.length c1, .slice e1 y1.length t1] 27)
  replace F1 := F1.below hq
  replace E1 := E1.below hq
  have L0 := Box.put (w := w2) (k := (w2.heap.size)) (.cells #[.bool g1, .slice a1 x1.length c1, .slice e1 y1.length t1] 27) rfl
  replace hs0 := Nat.le_trans hs0 hq.size
  replace hB := hB.trans (hq.mono hB.size)
  clear hq
  go_wp2_with fail
  clear k0 k1 k2 f0 f1 f2
  obtain ⟨u3, hname⟩ := nm hB
  rw [hname] at hs0 hB F1 E1 L0 ⊢
  have zh3 := hB.size
  have zs3 := hs0
  clear hname hs0
  have R := row_box (rs := [⟨g1, a1, c1, x1, e1, t1, y1⟩]) (k := w2.heap.size) L0 (fun r hr => by
      simp only [List.mem_cons, List.not_mem_nil, or_false] at hr
      rcases hr with rfl
      · exact F1.mono (Nat.zero_le _))
  refine (lrlong_any (cap := 1) R false HL).mono ?_
  rintro e w4 ⟨rfl, hb⟩
  replace F1 := F1.below hb
  replace E1 := E1.below hb
  replace L0 := L0.below hb
  replace hB := hB.trans (hb.mono hB.size)
  have zz4 := hb.size
  have zh4 := hB.size
  clear hb
  clear R
  clear L0
  obtain ⟨k0, k1, k2, f0, f1, f2⟩ := E1.three
  have qE1 := E1.lt
  have hs0 := Nat.le_refl w4.heap.size
  have hq := below_new w4 (.cells #[.bool g1, .slice a1 x1.length c1, .slice e1 y1.length t1] 27)
  replace F1 := F1.below hq
  replace E1 := E1.below hq
  have L0 := Box.put (w := w4) (k := (w4.heap.size)) (.cells #[.bool g1, .slice a1 x1.length c1, .slice e1 y1.length t1] 27) rfl
  replace hs0 := Nat.le_trans hs0 hq.size
  replace hB := hB.trans (hq.mono hB.size)
  clear hq
  go_wp2_with fail
  clear k0 k1 k2 f0 f1 f2
  obtain ⟨u5, hname⟩ := nm hB
  rw [hname] at hs0 hB F1 E1 L0 ⊢
  have zh5 := hB.size
  have zs5 := hs0
  clear hname hs0
  have R := row_box (rs := [⟨g1, a1, c1, x1, e1, t1, y1⟩]) (k := w4.heap.size) L0 (fun r hr => by
      simp only [List.mem_cons, List.not_mem_nil, or_false] at hr
      rcases hr with rfl
      · exact F1.mono (Nat.zero_le _))
  refine (lrgood_any (cap := 1) R (by simp) hlen0.out false HG).mono ?_
  rintro e w6 ⟨rfl, hb⟩
  replace F1 := F1.below hb
  replace E1 := E1.below hb
  replace L0 := L0.below hb
  replace hB := hB.trans (hb.mono hB.size)
  have zz6 := hb.size
  have zh6 := hB.size
  clear hb
  clear R
  clear L0
  go_wp2
  go_ret
  exact ⟨rfl, hB⟩
end Go.Proofs.YtblmkddjlfienabGreat
