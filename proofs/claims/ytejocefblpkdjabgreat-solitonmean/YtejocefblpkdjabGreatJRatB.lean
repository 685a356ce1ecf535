/-
  Joined: RatB RatC RatD RatO RatE RatI RatJ RatL RatM RPower Lits RatN RatNn SLaw SForms RatW RatU RatX RatV RatZ RndM SMath STab KDoc KDoc2 KDoc3 RatQ KDoc4 KRound KFold.
-/
import Derived.Test.YtejocefblpkdjabGreatJSigB
import Derived.Test.YtejocefblpkdjabGreatJRMulB
import Derived.Test.YtejocefblpkdjabGreatJMul
import Derived.Test.YtejocefblpkdjabGreatJKit
import Derived.Test.YtejocefblpkdjabGreatJLenOf
namespace Go.Proofs.YtejocefblpkdjabGreat
open Go.RowKit
theorem apart_sym {a c : Option Addr} {xs ys : List Int} (h : Apart a c xs ys) : Apart c a ys xs := fun h1 h2 b1 o1 b2 o2 e1 e2 e => h h2 h1 b2 o2 b1 o1 e2 e1 e.symm
set_option maxRecDepth 100000 in
set_option maxHeartbeats 4000000 in
theorem plus_any {lo lo2 : Nat} {a c p r : Option Addr} {ca cc cp cr : Nat} {xs ds ys es : List Int} {w : World} {n m : Nat} {q s : Rat} (b g : Bool) (FA : Fr lo w a ca xs c cc ds) (FB : Fr lo2 w p cp ys r cr es) (IA : Is b xs ds q n) (IB : Is g ys es s m) (hn : n + m ≤ 400) :
    Calls Tryz.prog 77 #[.agg #[.bool b, .slice a xs.length ca, .slice c ds.length cc], .agg #[.bool g, .slice p ys.length cp, .slice r es.length cr]] w fun e w' => ∃ (b' : Bool) (a' : Option Addr) (ca' : Nat) (ts' : List Int) (c' : Option Addr) (cc' : Nat) (es' : List Int), e = .returned (.tuple #[.agg #[.bool b', .slice a' ts'.length ca', .slice c' es'.length cc'], .int .i64 0]) ∧ Fr w.heap.size w' a' ca' ts' c' cc' es' ∧ Apart a' c' ts' es' ∧ Is b' ts' es' (q + s) (n + m + 1) ∧ Below w.heap.size w w' := by
  obtain ⟨LA, QA, lxa, lda⟩ := IA
  obtain ⟨LB, QB, lxb, ldb⟩ := IB
  have px := val_nonneg FA.up.words
  have pd := LA.2.2.1
  have py := val_nonneg FB.up.words
  have pe := LB.2.2.1
  have HQA := hide QA
  have HQB := hide QB
  clear QA QB
  have hB := Below.refl w.heap.size w
  go_enter Tryz.func77, Tryz.ntmps77
  have hA := Below.refl w.heap.size w
  have hq := below_new w (.cells #[.bool b, .slice a xs.length ca, .slice c ds.length cc] 31)
  replace FA := FA.below hq
  replace FB := FB.below hq
  have EA := Box.put (w := w) (k := (w.heap.size)) (.cells #[.bool b, .slice a xs.length ca, .slice c ds.length cc] 31) rfl
  replace hA := hA.trans (hq.mono hA.size)
  replace hB := hB.trans (hq.mono hB.size)
  clear hq
  have hq := below_new (w.alloc (.cells #[.bool b, .slice a xs.length ca, .slice c ds.length cc] 31)) (.cells #[.bool g, .slice p ys.length cp, .slice r es.length cr] 31)
  replace FA := FA.below hq
  replace FB := FB.below hq
  replace EA := EA.below hq
  have EB := Box.put (w := (w.alloc (.cells #[.bool b, .slice a xs.length ca, .slice c ds.length cc] 31))) (k := (w.heap.size + 1)) (.cells #[.bool g, .slice p ys.length cp, .slice r es.length cr] 31) (by simp)
  replace hA := hA.trans (hq.mono hA.size)
  replace hB := hB.trans (hq.mono hB.size)
  clear hq
  have hq := below_new ((w.alloc (.cells #[.bool b, .slice a xs.length ca, .slice c ds.length cc] 31)).alloc (.cells #[.bool g, .slice p ys.length cp, .slice r es.length cr] 31)) (.cells #[.bool false, .slice none 0 0, .slice none 0 0] 31)
  replace FA := FA.below hq
  replace FB := FB.below hq
  replace EA := EA.below hq
  replace EB := EB.below hq
  have ER := Box.put (w := ((w.alloc (.cells #[.bool b, .slice a xs.length ca, .slice c ds.length cc] 31)).alloc (.cells #[.bool g, .slice p ys.length cp, .slice r es.length cr] 31))) (k := (w.heap.size + 2)) (.cells #[.bool false, .slice none 0 0, .slice none 0 0] 31) (by simp)
  replace hA := hA.trans (hq.mono hA.size)
  replace hB := hB.trans (hq.mono hB.size)
  clear hq
  clear hA
  go_wp2_with fail
  obtain ⟨u1, hname⟩ := nm hB
  rw [hname] at hB FA FB EA EB ER ⊢
  have zh1 := hB.size
  clear hname
  refine (qgcd_len FA.down FB.down (by omega) (by omega) pe).mono ?_
  rintro e w2 ⟨a1, c1, z1, rfl, S1, N1, v1, l1, hb⟩
  have V1 : Hid (val z1 = gcdI (val ds) (val es)) := v1
  have b1 : z1.length ≤ n + m := by omega
  clear v1 l1
  replace FA := FA.below hb
  replace FB := FB.below hb
  replace EA := EA.below hb
  replace EB := EB.below hb
  replace ER := ER.below hb
  replace hB := hB.trans (hb.mono hB.size)
  have zz2 := hb.size
  have zh2 := hB.size
  clear hb
  obtain ⟨k0, k1, k2, f0, f1, f2⟩ := EA.three
  obtain ⟨k3, k4, k5, f3, f4, f5⟩ := EB.three
  obtain ⟨k6, k7, k8, f6, f7, f8⟩ := ER.three
  go_wp2_with fail
  clear k0 k1 k2 f0 f1 f2 k3 k4 k5 f3 f4 f5 k6 k7 k8 f6 f7 f8
  replace FA := FA.drew
  replace FB := FB.drew
  have qEA := EA.lt
  replace EA := EA.drew
  have qEB := EB.lt
  replace EB := EB.drew
  have qER := ER.lt
  replace ER := ER.drew
  replace S1 := S1.drew
  refine wp_yields 8 [.is (.pointer (some ⟨w.heap.size, 2, none⟩)), .is (.slice c ds.length cc), .is (.slice a1 z1.length c1), (Yield.nat w2.heap.size (val ds / gcdI (val ds) (val es)) (n)), .is (.pointer (some ⟨w.heap.size + 1, 2, none⟩)), .is (.slice r es.length cr), .is (.slice a1 z1.length c1), (Yield.nat w2.heap.size (val es / gcdI (val ds) (val es)) (m))] (by kernel_rfl) (by kernel_rfl) (lt_cons ?_ (lt_cons ?_ (lt_cons ?_ (lt_cons ?_ (lt_cons ?_ (lt_cons ?_ (lt_cons ?_ (lt_cons ?_ lt_nil)))))))) ?_
  case refine_1 =>
    refine OpDoes.mk rfl ?_
    intro vs V hV hd K hK
    have d5 : vs 5 = .slice r es.length cr := hd 5 (by decide) (by kernel_rfl)
    have d6 : vs 6 = .slice a1 z1.length c1 := hd 6 (by decide) (by kernel_rfl)
    simp only [laidIn, lz1, lz2, lz3, lz4, lz5, lz6, if_true, Act.put, lz7, lz8, lz9] at hK ⊢
    simp only [d5, d6] at hK ⊢
    go_simp
    go_at_call 64
    refine (share_any (FB.down.below hV) (S1.below hV) (by omega) (by omega)).mono ?_
    rintro e V' ⟨a3, c3, z3, rfl, S3, N3, v3, l3, hb⟩
    have V3 : Hid (val z3 = val es / gcdI (val ds) (val es)) := by rw [Hid, v3.out, V1.out]
    have b3 : z3.length ≤ m := by omega
    clear v3 l3
    exact hK.out _ _ hb ⟨_, _, _, rfl, S3.mono hV.size, N3, V3, b3⟩ (not_fresh rfl)
  case refine_2 =>
    refine OpDoes.mk rfl ?_
    intro vs V hV hd K hK
    simp only [laidIn, lz1, lz2, lz3, lz4, lz5, lz6, if_true, Act.put, lz7, lz8, lz9] at hK ⊢
    go_simp
    exact hK.out _ _ (Below.refl _ _) rfl (not_fresh rfl)
  case refine_3 =>
    refine OpDoes.mk rfl ?_
    intro vs V hV hd K hK
    have d4 : vs 4 = .pointer (some ⟨w.heap.size + 1, 2, none⟩) := hd 4 (by decide) (by kernel_rfl)
    have hcc := (EB.below hV).three
    have k0 := hcc.1
    have k1 := hcc.2.1
    have k2 := hcc.2.2.1
    clear hcc
    simp only [laidIn, lz1, lz2, lz3, lz4, lz5, lz6, if_true, Act.put, lz7, lz8, lz9] at hK ⊢
    simp only [d4] at hK ⊢
    go_simp
    exact hK.out _ _ (Below.refl _ _) rfl (not_fresh rfl)
  case refine_4 =>
    refine OpDoes.mk rfl ?_
    intro vs V hV hd K hK
    simp only [laidIn, lz1, lz2, lz3, lz4, lz5, lz6, if_true, Act.put, lz7, lz8, lz9] at hK ⊢
    go_simp
    exact hK.out _ _ (Below.refl _ _) rfl (not_fresh rfl)
  case refine_5 =>
    refine OpDoes.mk rfl ?_
    intro vs V hV hd K hK
    have d1 : vs 1 = .slice c ds.length cc := hd 1 (by decide) (by kernel_rfl)
    have d2 : vs 2 = .slice a1 z1.length c1 := hd 2 (by decide) (by kernel_rfl)
    simp only [laidIn, lz1, lz2, lz3, lz4, lz5, lz6, if_true, Act.put, lz7, lz8, lz9] at hK ⊢
    simp only [d1, d2] at hK ⊢
    go_simp
    go_at_call 64
    refine (share_any (FA.down.below hV) (S1.below hV) (by omega) (by omega)).mono ?_
    rintro e V' ⟨a2, c2, z2, rfl, S2, N2, v2, l2, hb⟩
    have V2 : Hid (val z2 = val ds / gcdI (val ds) (val es)) := by rw [Hid, v2.out, V1.out]
    have b2 : z2.length ≤ n := by omega
    clear v2 l2
    exact hK.out _ _ hb ⟨_, _, _, rfl, S2.mono hV.size, N2, V2, b2⟩ (not_fresh rfl)
  case refine_6 =>
    refine OpDoes.mk rfl ?_
    intro vs V hV hd K hK
    simp only [laidIn, lz1, lz2, lz3, lz4, lz5, lz6, if_true, Act.put, lz7, lz8, lz9] at hK ⊢
    go_simp
    exact hK.out _ _ (Below.refl _ _) rfl (not_fresh rfl)
  case refine_7 =>
    refine OpDoes.mk rfl ?_
    intro vs V hV hd K hK
    have d0 : vs 0 = .pointer (some ⟨w.heap.size, 2, none⟩) := hd 0 (by decide) (by kernel_rfl)
    have hcc := (EA.below hV).three
    have k0 := hcc.1
    have k1 := hcc.2.1
    have k2 := hcc.2.2.1
    clear hcc
    simp only [laidIn, lz1, lz2, lz3, lz4, lz5, lz6, if_true, Act.put, lz7, lz8, lz9] at hK ⊢
    simp only [d0] at hK ⊢
    go_simp
    exact hK.out _ _ (Below.refl _ _) rfl (not_fresh rfl)
  case refine_8 =>
    refine OpDoes.mk rfl ?_
    intro vs V hV hd K hK
    simp only [laidIn, lz1, lz2, lz4, lz5, lz6, if_true, Act.put, lz7, lz8, lz9] at hK ⊢
    go_simp
    exact hK.out _ _ (Below.refl _ _) rfl (not_fresh rfl)
  case refine_9 =>
    intro vs Y1 hV hR hne fuel
    have d0 : vs 0 = .pointer (some ⟨w.heap.size, 2, none⟩) := hR 0 (by decide)
    have d1 : vs 1 = .slice c ds.length cc := hR 1 (by decide)
    have d2 : vs 2 = .slice a1 z1.length c1 := hR 2 (by decide)
    have hh := fun (P : Prop) => Yield.nat_elim P (show ((Yield.nat w2.heap.size (val ds / gcdI (val ds) (val es)) (n)) : Yield).At (vs 3) Y1 from hR 3 (by decide))
    refine hh _ ?_
    intro a2 c2 z2 d3 S2 N2 V2 b2
    clear hh
    have d4 : vs 4 = .pointer (some ⟨w.heap.size + 1, 2, none⟩) := hR 4 (by decide)
    have d5 : vs 5 = .slice r es.length cr := hR 5 (by decide)
    have d6 : vs 6 = .slice a1 z1.length c1 := hR 6 (by decide)
    have hh := fun (P : Prop) => Yield.nat_elim P (show ((Yield.nat w2.heap.size (val es / gcdI (val ds) (val es)) (m)) : Yield).At (vs 7) Y1 from hR 7 (by decide))
    refine hh _ ?_
    intro a3 c3 z3 d7 S3 N3 V3 b3
    clear hh
    replace FA := FA.below hV
    replace FB := FB.below hV
    replace EA := EA.below hV
    replace EB := EB.below hV
    replace ER := ER.below hV
    replace S1 := S1.below hV
    have hr := hV
    simp only [laidIn, lz4, lz5, lz6, if_true, Act.put, lz7, lz8, lz9]
    simp only [d0, d1, d2, d3, d4, d5, d6, d7]
    clear hR hne hV d0 d1 d2 d3 d4 d5 d6 d7
    clear vs
    show wpAny _ _ _ _ (fuel + 2) _ _ _
    refine wpAny_all (rs := [8]) (by kernel_rfl) (by simp) (fun i hi => ?_)
    obtain rfl : i = 8 := by simpa using hi
    clear hi
    refine wpOp_step rfl (fun K hK => ?_)
    simp only [lz1, lz2, lz3]
    rw [if_pos (by rfl)]
    go_simp
    refine hK _ _ ?_
    clear hK
    refine wpAny_all (rs := [9]) (by kernel_rfl) (by simp) (fun i hi => ?_)
    obtain rfl : i = 9 := by simpa using hi
    clear hi
    refine wpOp_step rfl (fun K hK => ?_)
    simp only [lz1, lz2, lz3]
    rw [if_pos (by rfl)]
    go_simp
    refine hK _ _ ?_
    clear hK
    refine wpAny_done (by kernel_rfl) ?_ _
    replace hB := hB.trans ((Below.trans (Below.drew (Below.refl w2.heap.size w2)) hr).mono hB.size)
    have zz2_0 := hr.size
    have zi1 := hB.size
    clear hr 
    obtain ⟨k0, k1, k2, f0, f1, f2⟩ := EA.three
    obtain ⟨k3, k4, k5, f3, f4, f5⟩ := EB.three
    obtain ⟨k6, k7, k8, f6, f7, f8⟩ := ER.three
    go_wp2_with fail
    clear k0 k1 k2 f0 f1 f2 k3 k4 k5 f3 f4 f5 k6 k7 k8 f6 f7 f8
    replace FA := FA.drew
    replace FB := FB.drew
    have qEA := EA.lt
    replace EA := EA.drew
    have qEB := EB.lt
    replace EB := EB.drew
    have qER := ER.lt
    replace ER := ER.drew
    replace S1 := S1.drew
    replace S2 := S2.drew
    replace S3 := S3.drew
    refine wp_yields 10 [.is (.pointer (some ⟨w.heap.size, 0, none⟩)), .is (.agg #[.bool b, .slice a xs.length ca]), .is (.slice a3 z3.length c3), (Yield.int Y1.heap.size (sgn b (val xs) * (val es / gcdI (val ds) (val es))) (n + m)), .is (.pointer (some ⟨w.heap.size + 1, 0, none⟩)), .is (.agg #[.bool g, .slice p ys.length cp]), .is (.slice a2 z2.length c2), (Yield.int Y1.heap.size (sgn g (val ys) * (val ds / gcdI (val ds) (val es))) (n + m)), (Yield.int Y1.heap.size (sgn b (val xs) * (val es / gcdI (val ds) (val es)) + sgn g (val ys) * (val ds / gcdI (val ds) (val es))) (n + m + 1)), (.new Y1.heap.size (.cells #[.bool false, .slice none 0 0] 29))] (by kernel_rfl) (by kernel_rfl) (lt_cons ?_ (lt_cons ?_ (lt_cons ?_ (lt_cons ?_ (lt_cons ?_ (lt_cons ?_ (lt_cons ?_ (lt_cons ?_ (lt_cons ?_ (lt_cons ?_ lt_nil)))))))))) ?_
    case refine_1 =>
      refine OpDoes.mk rfl ?_
      intro vs V hV hd K hK
      simp only [laidIn, lz1, lz2, lz3, lz4, lz5, lz6, if_true, Act.put, lz7, lz8, lz9] at hK ⊢
      go_simp
      exact hK.out _ _ ((Below.refl _ _).a1 _) ⟨_, rfl, Box.new _ _, hV.size⟩ (fresh_apart _ _ (fresh_new _))
    case refine_2 =>
      refine OpDoes.mk rfl ?_
      intro vs V hV hd K hK
      have hh := fun (P : Prop) => Yield.int_elim P (show ((Yield.int Y1.heap.size (sgn b (val xs) * (val es / gcdI (val ds) (val es))) (n + m)) : Yield).At (vs 3) V from hd 3 (by decide) (by kernel_rfl))
      refine hh _ ?_
      intro g4 a4 c4 z4 d3 S4 N4 V4 b4
      clear hh
      have hh := fun (P : Prop) => Yield.int_elim P (show ((Yield.int Y1.heap.size (sgn g (val ys) * (val ds / gcdI (val ds) (val es))) (n + m)) : Yield).At (vs 7) V from hd 7 (by decide) (by kernel_rfl))
      refine hh _ ?_
      intro g5 a5 c5 z5 d7 S5 N5 V5 b5
      clear hh
      simp only [laidIn, lz1, lz2, lz3, lz4, lz5, lz6, if_true, Act.put, lz7, lz8, lz9] at hK ⊢
      simp only [d3, d7] at hK ⊢
      go_simp
      go_at_call 92
      refine (sadd_any g4 g5 S4 S5 (by omega) (by omega)).mono ?_
      rintro e V' ⟨g6, a6, c6, z6, rfl, S6, N6, v6, l6, hb⟩
      have V6 : Hid (sgn g6 (val z6) = sgn b (val xs) * (val es / gcdI (val ds) (val es)) + sgn g (val ys) * (val ds / gcdI (val ds) (val es))) := by rw [Hid, v6, V4.out, V5.out]
      have b6 : z6.length ≤ n + m + 1 := by omega
      clear v6 l6
      exact hK.out _ _ hb ⟨_, _, _, _, rfl, S6.mono hV.size, N6, V6, b6⟩ (not_fresh rfl)
    case refine_3 =>
      refine OpDoes.mk rfl ?_
      intro vs V hV hd K hK
      have d5 : vs 5 = .agg #[.bool g, .slice p ys.length cp] := hd 5 (by decide) (by kernel_rfl)
      have d6 : vs 6 = .slice a2 z2.length c2 := hd 6 (by decide) (by kernel_rfl)
      simp only [laidIn, lz1, lz2, lz3, lz4, lz5, lz6, if_true, Act.put, lz7, lz8, lz9] at hK ⊢
      simp only [d5, d6] at hK ⊢
      go_simp
      go_at_call 20
      refine (stretch_any g (FB.up.below hV) (S2.below hV) (by omega) (by omega)).mono ?_
      rintro e V' ⟨g5, a5, c5, z5, rfl, S5, N5, v5, l5, hb⟩
      have V5 : Hid (sgn g5 (val z5) = sgn g (val ys) * (val ds / gcdI (val ds) (val es))) := by rw [Hid, v5.out, V2.out]
      have b5 : z5.length ≤ n + m := by omega
      clear v5 l5
      exact hK.out _ _ hb ⟨_, _, _, _, rfl, S5.mono hV.size, N5, V5, b5⟩ (not_fresh rfl)
    case refine_4 =>
      refine OpDoes.mk rfl ?_
      intro vs V hV hd K hK
      simp only [laidIn, lz1, lz2, lz3, lz4, lz5, lz6, if_true, Act.put, lz7, lz8, lz9] at hK ⊢
      go_simp
      exact hK.out _ _ (Below.refl _ _) rfl (not_fresh rfl)
    case refine_5 =>
      refine OpDoes.mk rfl ?_
      intro vs V hV hd K hK
      have d4 : vs 4 = .pointer (some ⟨w.heap.size + 1, 0, none⟩) := hd 4 (by decide) (by kernel_rfl)
      have hcc := (EB.below hV).three
      have k0 := hcc.1
      have k1 := hcc.2.1
      have k2 := hcc.2.2.1
      clear hcc
      simp only [laidIn, lz1, lz2, lz3, lz4, lz5, lz6, if_true, Act.put, lz7, lz8, lz9] at hK ⊢
      simp only [d4] at hK ⊢
      go_simp
      exact hK.out _ _ (Below.refl _ _) rfl (not_fresh rfl)
    case refine_6 =>
      refine OpDoes.mk rfl ?_
      intro vs V hV hd K hK
      simp only [laidIn, lz1, lz2, lz3, lz4, lz5, lz6, if_true, Act.put, lz7, lz8, lz9] at hK ⊢
      go_simp
      exact hK.out _ _ (Below.refl _ _) rfl (not_fresh rfl)
    case refine_7 =>
      refine OpDoes.mk rfl ?_
      intro vs V hV hd K hK
      have d1 : vs 1 = .agg #[.bool b, .slice a xs.length ca] := hd 1 (by decide) (by kernel_rfl)
      have d2 : vs 2 = .slice a3 z3.length c3 := hd 2 (by decide) (by kernel_rfl)
      simp only [laidIn, lz1, lz2, lz3, lz4, lz5, lz6, if_true, Act.put, lz7, lz8, lz9] at hK ⊢
      simp only [d1, d2] at hK ⊢
      go_simp
      go_at_call 20
      refine (stretch_any b (FA.up.below hV) (S3.below hV) (by omega) (by omega)).mono ?_
      rintro e V' ⟨g4, a4, c4, z4, rfl, S4, N4, v4, l4, hb⟩
      have V4 : Hid (sgn g4 (val z4) = sgn b (val xs) * (val es / gcdI (val ds) (val es))) := by rw [Hid, v4.out, V3.out]
      have b4 : z4.length ≤ n + m := by omega
      clear v4 l4
      exact hK.out _ _ hb ⟨_, _, _, _, rfl, S4.mono hV.size, N4, V4, b4⟩ (not_fresh rfl)
    case refine_8 =>
      refine OpDoes.mk rfl ?_
      intro vs V hV hd K hK
      simp only [laidIn, lz1, lz2, lz3, lz4, lz5, lz6, if_true, Act.put, lz7, lz8, lz9] at hK ⊢
      go_simp
      exact hK.out _ _ (Below.refl _ _) rfl (not_fresh rfl)
    case refine_9 =>
      refine OpDoes.mk rfl ?_
      intro vs V hV hd K hK
      have d0 : vs 0 = .pointer (some ⟨w.heap.size, 0, none⟩) := hd 0 (by decide) (by kernel_rfl)
      have hcc := (EA.below hV).three
      have k0 := hcc.1
      have k1 := hcc.2.1
      have k2 := hcc.2.2.1
      clear hcc
      simp only [laidIn, lz1, lz2, lz3, lz4, lz5, lz6, if_true, Act.put, lz7, lz8, lz9] at hK ⊢
      simp only [d0] at hK ⊢
      go_simp
      exact hK.out _ _ (Below.refl _ _) rfl (not_fresh rfl)
    case refine_10 =>
      refine OpDoes.mk rfl ?_
      intro vs V hV hd K hK
      simp only [laidIn, lz1, lz2, lz4, lz5, lz6, if_true, Act.put, lz7, lz8, lz9] at hK ⊢
      go_simp
      exact hK.out _ _ (Below.refl _ _) rfl (not_fresh rfl)
    case refine_11 =>
      intro vs Y2 hV hR hne fuel
      have d0 : vs 0 = .pointer (some ⟨w.heap.size, 0, none⟩) := hR 0 (by decide)
      have d1 : vs 1 = .agg #[.bool b, .slice a xs.length ca] := hR 1 (by decide)
      have d2 : vs 2 = .slice a3 z3.length c3 := hR 2 (by decide)
      have hh := fun (P : Prop) => Yield.int_elim P (show ((Yield.int Y1.heap.size (sgn b (val xs) * (val es / gcdI (val ds) (val es))) (n + m)) : Yield).At (vs 3) Y2 from hR 3 (by decide))
      refine hh _ ?_
      intro g4 a4 c4 z4 d3 S4 N4 V4 b4
      clear hh
      have d4 : vs 4 = .pointer (some ⟨w.heap.size + 1, 0, none⟩) := hR 4 (by decide)
      have d5 : vs 5 = .agg #[.bool g, .slice p ys.length cp] := hR 5 (by decide)
      have d6 : vs 6 = .slice a2 z2.length c2 := hR 6 (by decide)
      have hh := fun (P : Prop) => Yield.int_elim P (show ((Yield.int Y1.heap.size (sgn g (val ys) * (val ds / gcdI (val ds) (val es))) (n + m)) : Yield).At (vs 7) Y2 from hR 7 (by decide))
      refine hh _ ?_
      intro g5 a5 c5 z5 d7 S5 N5 V5 b5
      clear hh
      have hh := fun (P : Prop) => Yield.int_elim P (show ((Yield.int Y1.heap.size (sgn b (val xs) * (val es / gcdI (val ds) (val es)) + sgn g (val ys) * (val ds / gcdI (val ds) (val es))) (n + m + 1)) : Yield).At (vs 8) Y2 from hR 8 (by decide))
      refine hh _ ?_
      intro g6 a6 c6 z6 d8 S6 N6 V6 b6
      clear hh
      obtain ⟨k_E93, d9, E93, l_E93⟩ := (show ((.new Y1.heap.size (.cells #[.bool false, .slice none 0 0] 29)) : Yield).At (vs 9) Y2 from hR 9 (by decide))
      replace FA := FA.below hV
      replace FB := FB.below hV
      replace EA := EA.below hV
      replace EB := EB.below hV
      replace ER := ER.below hV
      replace S1 := S1.below hV
      replace S2 := S2.below hV
      replace S3 := S3.below hV
      have hr := hV
      simp only [laidIn, lz4, lz5, lz6, if_true, Act.put, lz7, lz8, lz9]
      simp only [d0, d1, d2, d3, d4, d5, d6, d7, d8, d9]
      clear hR hne hV d0 d1 d2 d3 d4 d5 d6 d7 d8 d9
      clear vs
      show wpAny _ _ _ _ (fuel + 1) _ _ _
      refine wpAny_all (rs := [10]) (by kernel_rfl) (by simp) (fun i hi => ?_)
      obtain rfl : i = 10 := by simpa using hi
      clear hi
      have hcc := E93.two
      have k0 := hcc.1
      have k1 := hcc.2.1
      have f0 := hcc.2.2.1
      have f1 := hcc.2.2.2
      clear hcc
      refine wpOp_step rfl (fun K hK => ?_)
      simp only [lz1, lz2, lz3]
      rw [if_pos (by rfl)]
      go_simp
      refine hK _ _ ?_
      clear hK k0 f0 k1 f1
      have hT := turns2 (k_E93) Y2 (.bool g6) (.slice a6 z6.length c6)
      replace FA := FA.beside E93 (noWord2 (fun _ e => by cases e) (fun _ e => by cases e)) hT
      replace FB := FB.beside E93 (noWord2 (fun _ e => by cases e) (fun _ e => by cases e)) hT
      replace EA := EA.turns hT (by omega)
      replace EB := EB.turns hT (by omega)
      replace ER := ER.turns hT (by omega)
      replace S1 := S1.beside E93 (noWord2 (fun _ e => by cases e) (fun _ e => by cases e)) hT
      replace S2 := S2.beside E93 (noWord2 (fun _ e => by cases e) (fun _ e => by cases e)) hT
      replace S3 := S3.beside E93 (noWord2 (fun _ e => by cases e) (fun _ e => by cases e)) hT
      replace S4 := S4.beside E93 (noWord2 (fun _ e => by cases e) (fun _ e => by cases e)) hT
      replace S5 := S5.beside E93 (noWord2 (fun _ e => by cases e) (fun _ e => by cases e)) hT
      replace S6 := S6.beside E93 (noWord2 (fun _ e => by cases e) (fun _ e => by cases e)) hT
      replace E93 := E93.set2 (.bool g6) (.slice a6 z6.length c6)
      have hr10 := hT.below
      obtain ⟨X1, hX⟩ := nm hT.below
      rw [hX] at FA FB EA EB ER S1 S2 S3 S4 S5 S6 E93 hr10 ⊢
      clear hX hT
      refine wpAny_done (by kernel_rfl) ?_ _
      replace hB := hB.trans ((Below.trans (Below.drew (Below.refl Y1.heap.size Y1)) hr).mono hB.size)
      replace hB := hB.trans (hr10.mono (by omega))
      have zz2_1 := hr.size
      have zi2 := hB.size
      have zy1_10 := hr10.size
      clear hr hr10
      clear S4 S5 S3 FA EA
      obtain ⟨k0, k1, k2, f0, f1, f2⟩ := EB.three
      obtain ⟨k3, k4, k5, f3, f4, f5⟩ := ER.three
      obtain ⟨k6, k7, f6, f7⟩ := E93.two
      go_wp2_with fail
      clear k0 k1 k2 f0 f1 f2 k3 k4 k5 f3 f4 f5 k6 k7 f6 f7
      have hz1 : 0 < val z1 := by rw [V1.out]; exact gcdI_posR pe
      refine (qgcd_len S6 S1 (by omega) (by omega) hz1).mono ?_
      rintro e w3 ⟨a7, c7, z7, rfl, S7, N7, v7, l7, hb⟩
      have V7 : Hid (val z7 = gcdI (val z6) (val z1)) := v7
      have b7 : z7.length ≤ n + m := by omega
      clear v7 l7
      replace FB := FB.below hb
      replace EB := EB.below hb
      replace ER := ER.below hb
      replace S1 := S1.below hb
      replace S2 := S2.below hb
      replace S6 := S6.below hb
      replace E93 := E93.below hb
      replace hB := hB.trans (hb.mono hB.size)
      have zz3 := hb.size
      have zh3 := hB.size
      clear hb
      clear hz1
      obtain ⟨k0, k1, k2, f0, f1, f2⟩ := EB.three
      obtain ⟨k3, k4, k5, f3, f4, f5⟩ := ER.three
      obtain ⟨k6, k7, f6, f7⟩ := E93.two
      go_wp2_with fail
      clear k0 k1 k2 f0 f1 f2 k3 k4 k5 f3 f4 f5 k6 k7 f6 f7
      refine (share_any FB.down S7 (by omega) (by omega)).mono ?_
      rintro e w4 ⟨a8, c8, z8, rfl, S8, N8, v8, l8, hb⟩
      have V8 : Hid (val z8 = val es / val z7) := v8
      have b8 : z8.length ≤ m := by omega
      clear v8 l8
      replace FB := FB.below hb
      replace EB := EB.below hb
      replace ER := ER.below hb
      replace S1 := S1.below hb
      replace S2 := S2.below hb
      replace S6 := S6.below hb
      replace E93 := E93.below hb
      replace S7 := S7.below hb
      replace hB := hB.trans (hb.mono hB.size)
      have zz4 := hb.size
      have zh4 := hB.size
      clear hb
      obtain ⟨k0, k1, k2, f0, f1, f2⟩ := EB.three
      obtain ⟨k3, k4, k5, f3, f4, f5⟩ := ER.three
      obtain ⟨k6, k7, f6, f7⟩ := E93.two
      go_wp2_with fail
      clear k0 k1 k2 f0 f1 f2 k3 k4 k5 f3 f4 f5 k6 k7 f6 f7
      refine (mul_any S2 S8 (by omega) (by omega)).mono ?_
      rintro e w5 ⟨a9, c9, z9, rfl, S9, N9, v9, l9, hb⟩
      have V9 : Hid (val z9 = val z2 * val z8) := v9
      have b9 : z9.length ≤ n + m := by omega
      clear v9 l9
      replace FB := FB.below hb
      replace EB := EB.below hb
      replace ER := ER.below hb
      replace S1 := S1.below hb
      replace S2 := S2.below hb
      replace S6 := S6.below hb
      replace E93 := E93.below hb
      replace S7 := S7.below hb
      replace S8 := S8.below hb
      replace hB := hB.trans (hb.mono hB.size)
      have zz5 := hb.size
      have zh5 := hB.size
      clear hb
      clear S8 S2 S1 FB EB
      have S9_0 := S9
      obtain ⟨k0, k1, k2, f0, f1, f2⟩ := ER.three
      obtain ⟨k3, k4, f3, f4⟩ := E93.two
      go_wp2_with fail
      clear k0 k1 k2 f0 f1 f2 k3 k4 f3 f4
      have qER := ER.lt
      replace ER := ER.drew
      replace S6 := S6.drew
      have qE93 := E93.lt
      replace E93 := E93.drew
      replace S7 := S7.drew
      replace S9 := S9.drew
      refine wp_yields 9 [.is (.pointer (some ⟨k_E93, 0, none⟩)), .is (.bool g6), .is (.pointer (some ⟨k_E93, 1, none⟩)), .is (.slice a6 z6.length c6), .is (.slice a7 z7.length c7), (Yield.nat w5.heap.size (val z6 / val z7) (n + m + 1)), (Yield.natIn (fun s => .agg #[.bool g6, s]) w5.heap.size (val z6 / val z7) (n + m + 1)), .is (.slice a9 z9.length c9), (Yield.natIn (fun s => .agg #[.bool g6, s, .slice a9 z9.length c9]) w5.heap.size (val z6 / val z7) (n + m + 1))] (by kernel_rfl) (by kernel_rfl) (lt_cons ?_ (lt_cons ?_ (lt_cons ?_ (lt_cons ?_ (lt_cons ?_ (lt_cons ?_ (lt_cons ?_ (lt_cons ?_ (lt_cons ?_ lt_nil))))))))) ?_
      case refine_1 =>
        refine OpDoes.mk rfl ?_
        intro vs V hV hd K hK
        have hh := fun (P : Prop) => Yield.natIn_elim P (show ((Yield.natIn (fun s => .agg #[.bool g6, s]) w5.heap.size (val z6 / val z7) (n + m + 1)) : Yield).At (vs 6) V from hd 6 (by decide) (by kernel_rfl))
        refine hh _ ?_
        intro a11 c11 z11 d6 S11 N11 V11 b11
        clear hh
        have d7 : vs 7 = .slice a9 z9.length c9 := hd 7 (by decide) (by kernel_rfl)
        simp only [laidIn, lz1, lz2, lz3, lz4, lz5, lz6, if_true, Act.put, lz7, lz8, lz9] at hK ⊢
        simp only [d6, d7] at hK ⊢
        go_simp
        exact hK.out _ _ (Below.refl _ _) ⟨_, _, _, rfl, S11, N11, V11, b11⟩ (not_fresh rfl)
      case refine_2 =>
        refine OpDoes.mk rfl ?_
        intro vs V hV hd K hK
        simp only [laidIn, lz1, lz2, lz3, lz4, lz5, lz6, if_true, Act.put, lz7, lz8, lz9] at hK ⊢
        go_simp
        exact hK.out _ _ (Below.refl _ _) rfl (not_fresh rfl)
      case refine_3 =>
        refine OpDoes.mk rfl ?_
        intro vs V hV hd K hK
        have d1 : vs 1 = .bool g6 := hd 1 (by decide) (by kernel_rfl)
        have hh := fun (P : Prop) => Yield.nat_elim P (show ((Yield.nat w5.heap.size (val z6 / val z7) (n + m + 1)) : Yield).At (vs 5) V from hd 5 (by decide) (by kernel_rfl))
        refine hh _ ?_
        intro a10 c10 z10 d5 S10 N10 V10 b10
        clear hh
        simp only [laidIn, lz1, lz2, lz3, lz4, lz5, lz6, if_true, Act.put, lz7, lz8, lz9] at hK ⊢
        simp only [d1, d5] at hK ⊢
        go_simp
        exact hK.out _ _ (Below.refl _ _) ⟨_, _, _, rfl, S10, N10, V10, b10⟩ (not_fresh rfl)
      case refine_4 =>
        refine OpDoes.mk rfl ?_
        intro vs V hV hd K hK
        have d3 : vs 3 = .slice a6 z6.length c6 := hd 3 (by decide) (by kernel_rfl)
        have d4 : vs 4 = .slice a7 z7.length c7 := hd 4 (by decide) (by kernel_rfl)
        simp only [laidIn, lz1, lz2, lz3, lz4, lz5, lz6, if_true, Act.put, lz7, lz8, lz9] at hK ⊢
        simp only [d3, d4] at hK ⊢
        go_simp
        go_at_call 64
        refine (share_any (S6.below hV) (S7.below hV) (by omega) (by omega)).mono ?_
        rintro e V' ⟨a10, c10, z10, rfl, S10, N10, v10, l10, hb⟩
        have V10 : Hid (val z10 = val z6 / val z7) := v10
        have b10 : z10.length ≤ n + m + 1 := by omega
        clear v10 l10
        exact hK.out _ _ hb ⟨_, _, _, rfl, S10.mono hV.size, N10, V10, b10⟩ (not_fresh rfl)
      case refine_5 =>
        refine OpDoes.mk rfl ?_
        intro vs V hV hd K hK
        simp only [laidIn, lz1, lz2, lz3, lz4, lz5, lz6, if_true, Act.put, lz7, lz8, lz9] at hK ⊢
        go_simp
        exact hK.out _ _ (Below.refl _ _) rfl (not_fresh rfl)
      case refine_6 =>
        refine OpDoes.mk rfl ?_
        intro vs V hV hd K hK
        have d2 : vs 2 = .pointer (some ⟨k_E93, 1, none⟩) := hd 2 (by decide) (by kernel_rfl)
        have hcc := (E93.below hV).two
        have k0 := hcc.1
        have k1 := hcc.2.1
        clear hcc
        simp only [laidIn, lz1, lz2, lz3, lz4, lz5, lz6, if_true, Act.put, lz7, lz8, lz9] at hK ⊢
        simp only [d2] at hK ⊢
        go_simp
        exact hK.out _ _ (Below.refl _ _) rfl (not_fresh rfl)
      case refine_7 =>
        refine OpDoes.mk rfl ?_
        intro vs V hV hd K hK
        simp only [laidIn, lz1, lz2, lz3, lz4, lz5, lz6, if_true, Act.put, lz7, lz8, lz9] at hK ⊢
        go_simp
        exact hK.out _ _ (Below.refl _ _) rfl (not_fresh rfl)
      case refine_8 =>
        refine OpDoes.mk rfl ?_
        intro vs V hV hd K hK
        have d0 : vs 0 = .pointer (some ⟨k_E93, 0, none⟩) := hd 0 (by decide) (by kernel_rfl)
        have hcc := (E93.below hV).two
        have k0 := hcc.1
        have k1 := hcc.2.1
        clear hcc
        simp only [laidIn, lz1, lz2, lz3, lz4, lz5, lz6, if_true, Act.put, lz7, lz8, lz9] at hK ⊢
        simp only [d0] at hK ⊢
        go_simp
        exact hK.out _ _ (Below.refl _ _) rfl (not_fresh rfl)
      case refine_9 =>
        refine OpDoes.mk rfl ?_
        intro vs V hV hd K hK
        simp only [laidIn, lz1, lz2, lz4, lz5, lz6, if_true, Act.put, lz7, lz8, lz9] at hK ⊢
        go_simp
        exact hK.out _ _ (Below.refl _ _) rfl (not_fresh rfl)
      case refine_10 =>
        intro vs Y3 hV hR hne fuel
        have d0 : vs 0 = .pointer (some ⟨k_E93, 0, none⟩) := hR 0 (by decide)
        have d1 : vs 1 = .bool g6 := hR 1 (by decide)
        have d2 : vs 2 = .pointer (some ⟨k_E93, 1, none⟩) := hR 2 (by decide)
        have d3 : vs 3 = .slice a6 z6.length c6 := hR 3 (by decide)
        have d4 : vs 4 = .slice a7 z7.length c7 := hR 4 (by decide)
        have hh := fun (P : Prop) => Yield.nat_elim P (show ((Yield.nat w5.heap.size (val z6 / val z7) (n + m + 1)) : Yield).At (vs 5) Y3 from hR 5 (by decide))
        refine hh _ ?_
        intro a10 c10 z10 d5 S10 N10 V10 b10
        clear hh
        have hh := fun (P : Prop) => Yield.natIn_elim P (show ((Yield.natIn (fun s => .agg #[.bool g6, s]) w5.heap.size (val z6 / val z7) (n + m + 1)) : Yield).At (vs 6) Y3 from hR 6 (by decide))
        refine hh _ ?_
        intro a11 c11 z11 d6 S11 N11 V11 b11
        clear hh
        have d7 : vs 7 = .slice a9 z9.length c9 := hR 7 (by decide)
        have hh := fun (P : Prop) => Yield.natIn_elim P (show ((Yield.natIn (fun s => .agg #[.bool g6, s, .slice a9 z9.length c9]) w5.heap.size (val z6 / val z7) (n + m + 1)) : Yield).At (vs 8) Y3 from hR 8 (by decide))
        refine hh _ ?_
        intro a12 c12 z12 d8 S12 N12 V12 b12
        clear hh
        replace ER := ER.below hV
        replace S6 := S6.below hV
        replace E93 := E93.below hV
        replace S7 := S7.below hV
        replace S9 := S9.below hV
        have hr := hV
        simp only [laidIn, lz4, lz5, lz6, if_true, Act.put, lz7, lz8, lz9]
        simp only [d0, d1, d2, d3, d4, d5, d6, d7, d8]
        clear hR hne hV d0 d1 d2 d3 d4 d5 d6 d7 d8
        clear vs
        show wpAny _ _ _ _ (fuel + 2) _ _ _
        refine wpAny_all (rs := [9]) (by kernel_rfl) (by simp) (fun i hi => ?_)
        obtain rfl : i = 9 := by simpa using hi
        clear hi
        have hcc := ER.three
        have k0 := hcc.1
        have k1 := hcc.2.1
        have k2 := hcc.2.2.1
        have f0 := hcc.2.2.2.1
        have f1 := hcc.2.2.2.2.1
        have f2 := hcc.2.2.2.2.2
        clear hcc
        refine wpOp_step rfl (fun K hK => ?_)
        simp only [lz1, lz2, lz3]
        rw [if_pos (by rfl)]
        go_simp
        refine hK _ _ ?_
        clear hK k0 f0 k1 f1 k2 f2
        have hT := turns3 (w.heap.size + 2) Y3 (.bool g6) (.slice a12 z12.length c12) (.slice a9 z9.length c9)
        replace S6 := S6.beside ER (noWord3 (fun _ e => by cases e) (fun _ e => by cases e) (fun _ e => by cases e)) hT
        replace E93 := E93.turns hT (by omega)
        replace S7 := S7.beside ER (noWord3 (fun _ e => by cases e) (fun _ e => by cases e) (fun _ e => by cases e)) hT
        replace S9 := S9.beside ER (noWord3 (fun _ e => by cases e) (fun _ e => by cases e) (fun _ e => by cases e)) hT
        replace S10 := S10.beside ER (noWord3 (fun _ e => by cases e) (fun _ e => by cases e) (fun _ e => by cases e)) hT
        replace S11 := S11.beside ER (noWord3 (fun _ e => by cases e) (fun _ e => by cases e) (fun _ e => by cases e)) hT
        replace S12 := S12.beside ER (noWord3 (fun _ e => by cases e) (fun _ e => by cases e) (fun _ e => by cases e)) hT
        replace ER := ER.set3 (.bool g6) (.slice a12 z12.length c12) (.slice a9 z9.length c9)
        have hr9 := hT.below
        obtain ⟨X2, hX⟩ := nm hT.below
        rw [hX] at ER S6 E93 S7 S9 S10 S11 S12 hr9 ⊢
        clear hX hT
        refine wpAny_all (rs := [10]) (by kernel_rfl) (by simp) (fun i hi => ?_)
        obtain rfl : i = 10 := by simpa using hi
        clear hi
        refine wpOp_step rfl (fun K hK => ?_)
        simp only [lz1, lz2, lz3]
        rw [if_pos (by rfl)]
        go_simp
        refine hK _ _ ?_
        clear hK
        refine wpAny_done (by kernel_rfl) ?_ _
        replace hB := hB.trans ((Below.trans (Below.drew (Below.refl w5.heap.size w5)) hr).mono hB.size)
        replace hB := hB.trans (hr9.mono (by omega))
        have zz5_2 := hr.size
        have zi3 := hB.size
        have zy2_9 := hr9.size
        clear hr hr9
        have HI := plus_is (N := n + m + 1) LA LB HQA HQB S6.words V1 V2 N6 V6 V7 V8 V9 N9 V12 N12 (by omega) (by omega)
        have HAP := hide (apart_sym (apart_of (fun h b o e => S9_0.block h b o e) S12 (Nat.le_refl _)) : Apart a12 a9 z12 z9)
        obtain ⟨k0, k1, k2, f0, f1, f2⟩ := ER.three
        obtain ⟨k3, k4, f3, f4⟩ := E93.two
        have hcc := ER.three
        have r0 := hcc.1
        have r1 := hcc.2.1
        have r2 := hcc.2.2.1
        clear hcc
        go_wp2
        refine bodyPost_ret (v := .tuple #[.agg #[.bool g6, .slice a12 z12.length c12, .slice a9 z9.length c9], .int .i64 0]) (by simp [results, Tryz.f77, go_sem, r0, r1, r2]) rfl ?_
        exact ⟨_, _, _, _, _, _, _, rfl, ⟨S12.mono (by omega), S9.mono (by omega)⟩, HAP.out, HI, hB⟩
set_option maxRecDepth 100000 in
set_option maxHeartbeats 4000000 in
theorem product_any {lo lo2 : Nat} {a c p r : Option Addr} {ca cc cp cr : Nat} {xs ds ys es : List Int} {w : World} {n m : Nat} {q s : Rat} (b g : Bool) (FA : Fr lo w a ca xs c cc ds) (FB : Fr lo2 w p cp ys r cr es) (IA : Is b xs ds q n) (IB : Is g ys es s m) (hn : n + m ≤ 400) :
    Calls Tryz.prog 73 #[.agg #[.bool b, .slice a xs.length ca, .slice c ds.length cc], .agg #[.bool g, .slice p ys.length cp, .slice r es.length cr]] w fun e w' => ∃ (b' : Bool) (a' : Option Addr) (ca' : Nat) (ts' : List Int) (c' : Option Addr) (cc' : Nat) (es' : List Int), e = .returned (.tuple #[.agg #[.bool b', .slice a' ts'.length ca', .slice c' es'.length cc'], .int .i64 0]) ∧ Fr w.heap.size w' a' ca' ts' c' cc' es' ∧ Apart a' c' ts' es' ∧ Is b' ts' es' (q * s) (n + m) ∧ Below w.heap.size w w' := by
  obtain ⟨LA, QA, lxa, lda⟩ := IA
  obtain ⟨LB, QB, lxb, ldb⟩ := IB
  have px := val_nonneg FA.up.words
  have pd := LA.2.2.1
  have py := val_nonneg FB.up.words
  have pe := LB.2.2.1
  have HQA := hide QA
  have HQB := hide QB
  clear QA QB
  have hB := Below.refl w.heap.size w
  have WX := FA.up.words
  have WY := FB.up.words
  go_enter Tryz.func73, Tryz.ntmps73
  have hA := Below.refl w.heap.size w
  have hq := below_new w (.cells #[.bool b, .slice a xs.length ca, .slice c ds.length cc] 31)
  replace FA := FA.below hq
  replace FB := FB.below hq
  have EA := Box.put (w := w) (k := (w.heap.size)) (.cells #[.bool b, .slice a xs.length ca, .slice c ds.length cc] 31) rfl
  replace hA := hA.trans (hq.mono hA.size)
  replace hB := hB.trans (hq.mono hB.size)
  clear hq
  have hq := below_new (w.alloc (.cells #[.bool b, .slice a xs.length ca, .slice c ds.length cc] 31)) (.cells #[.bool g, .slice p ys.length cp, .slice r es.length cr] 31)
  replace FA := FA.below hq
  replace FB := FB.below hq
  replace EA := EA.below hq
  have EB := Box.put (w := (w.alloc (.cells #[.bool b, .slice a xs.length ca, .slice c ds.length cc] 31))) (k := (w.heap.size + 1)) (.cells #[.bool g, .slice p ys.length cp, .slice r es.length cr] 31) (by simp)
  replace hA := hA.trans (hq.mono hA.size)
  replace hB := hB.trans (hq.mono hB.size)
  clear hq
  have hq := below_new ((w.alloc (.cells #[.bool b, .slice a xs.length ca, .slice c ds.length cc] 31)).alloc (.cells #[.bool g, .slice p ys.length cp, .slice r es.length cr] 31)) (.cells #[.bool false, .slice none 0 0, .slice none 0 0] 31)
  replace FA := FA.below hq
  replace FB := FB.below hq
  replace EA := EA.below hq
  replace EB := EB.below hq
  have ER := Box.put (w := ((w.alloc (.cells #[.bool b, .slice a xs.length ca, .slice c ds.length cc] 31)).alloc (.cells #[.bool g, .slice p ys.length cp, .slice r es.length cr] 31))) (k := (w.heap.size + 2)) (.cells #[.bool false, .slice none 0 0, .slice none 0 0] 31) (by simp)
  replace hA := hA.trans (hq.mono hA.size)
  replace hB := hB.trans (hq.mono hB.size)
  clear hq
  clear hA
  go_wp2_with fail
  obtain ⟨u1, hname⟩ := nm hB
  rw [hname] at hB FA FB EA EB ER ⊢
  have zh1 := hB.size
  clear hname
  refine (lowest_any FA.up FB.down (by omega) (by omega) pe).mono ?_
  rintro e w2 ⟨a1, a2, c1, c2, z1, z2, rfl, Fz, N1, N2, V1, V2, b1, b2, P1, hb⟩
  have S1 := Fz.up
  have S2 := Fz.down
  clear Fz P1
  replace FA := FA.below hb
  replace FB := FB.below hb
  replace EA := EA.below hb
  replace EB := EB.below hb
  replace ER := ER.below hb
  replace hB := hB.trans (hb.mono hB.size)
  have zz2 := hb.size
  have zh2 := hB.size
  clear hb
  obtain ⟨k0, k1, k2, f0, f1, f2⟩ := EA.three
  obtain ⟨k3, k4, k5, f3, f4, f5⟩ := EB.three
  obtain ⟨k6, k7, k8, f6, f7, f8⟩ := ER.three
  go_wp2_with fail
  clear k0 k1 k2 f0 f1 f2 k3 k4 k5 f3 f4 f5 k6 k7 k8 f6 f7 f8
  refine (lowest_any FB.up FA.down (by omega) (by omega) pd).mono ?_
  rintro e w3 ⟨a3, a4, c3, c4, z3, z4, rfl, Fz, N3, N4, V3, V4, b3, b4, P3, hb⟩
  have S3 := Fz.up
  have S4 := Fz.down
  clear Fz P3
  replace FA := FA.below hb
  replace FB := FB.below hb
  replace EA := EA.below hb
  replace EB := EB.below hb
  replace ER := ER.below hb
  replace S1 := S1.below hb
  replace S2 := S2.below hb
  replace hB := hB.trans (hb.mono hB.size)
  have zz3 := hb.size
  have zh3 := hB.size
  clear hb
  obtain ⟨k0, k1, k2, f0, f1, f2⟩ := EA.three
  obtain ⟨k3, k4, k5, f3, f4, f5⟩ := EB.three
  obtain ⟨k6, k7, k8, f6, f7, f8⟩ := ER.three
  go_wp2_with fail
  clear k0 k1 k2 f0 f1 f2 k3 k4 k5 f3 f4 f5 k6 k7 k8 f6 f7 f8
  replace FA := FA.drew
  replace FB := FB.drew
  have qEA := EA.lt
  replace EA := EA.drew
  have qEB := EB.lt
  replace EB := EB.drew
  have qER := ER.lt
  replace ER := ER.drew
  replace S1 := S1.drew
  replace S2 := S2.drew
  replace S3 := S3.drew
  replace S4 := S4.drew
  refine wp_yields 12 [.is (.pointer (some ⟨w.heap.size, 0, none⟩)), .is (.pointer (some ⟨w.heap.size, 0, none⟩)), .is (.bool b), .is (.pointer (some ⟨w.heap.size + 1, 0, none⟩)), .is (.pointer (some ⟨w.heap.size + 1, 0, none⟩)), .is (.bool g), .is (.bool (b != g)), .is (.slice a1 z1.length c1), .is (.slice a3 z3.length c3), (Yield.nat w3.heap.size (val z1 * val z3) (n + m)), (Yield.int w3.heap.size (sgn (b != g) (val z1 * val z3)) (n + m)), (.new w3.heap.size (.cells #[.bool false, .slice none 0 0] 29))] (by kernel_rfl) (by kernel_rfl) (lt_cons ?_ (lt_cons ?_ (lt_cons ?_ (lt_cons ?_ (lt_cons ?_ (lt_cons ?_ (lt_cons ?_ (lt_cons ?_ (lt_cons ?_ (lt_cons ?_ (lt_cons ?_ (lt_cons ?_ lt_nil)))))))))))) ?_
  case refine_1 =>
    refine OpDoes.mk rfl ?_
    intro vs V hV hd K hK
    simp only [laidIn, lz1, lz2, lz3, lz4, lz5, lz6, if_true, Act.put, lz7, lz8, lz9] at hK ⊢
    go_simp
    exact hK.out _ _ ((Below.refl _ _).a1 _) ⟨_, rfl, Box.new _ _, hV.size⟩ (fresh_apart _ _ (fresh_new _))
  case refine_2 =>
    refine OpDoes.mk rfl ?_
    intro vs V hV hd K hK
    have d6 : vs 6 = .bool (b != g) := hd 6 (by decide) (by kernel_rfl)
    have hh := fun (P : Prop) => Yield.nat_elim P (show ((Yield.nat w3.heap.size (val z1 * val z3) (n + m)) : Yield).At (vs 9) V from hd 9 (by decide) (by kernel_rfl))
    refine hh _ ?_
    intro a5 c5 z5 d9 S5 N5 V5 b5
    clear hh
    simp only [laidIn, lz1, lz2, lz3, lz4, lz5, lz6, if_true, Act.put, lz7, lz8, lz9] at hK ⊢
    simp only [d6, d9] at hK ⊢
    go_simp
    go_at_call 47
    refine (smake_any S5 (by omega) (b != g)).mono ?_
    rintro e V' ⟨g6, a6, c6, z6, rfl, S6, N6, v6, l6, hb⟩
    have V6 : Hid (sgn g6 (val z6) = sgn (b != g) (val z1 * val z3)) := by rw [Hid, v6, V5.out]
    have b6 : z6.length ≤ n + m := by omega
    clear v6 l6
    exact hK.out _ _ hb ⟨_, _, _, _, rfl, S6.mono hV.size, N6, V6, b6⟩ (not_fresh rfl)
  case refine_3 =>
    refine OpDoes.mk rfl ?_
    intro vs V hV hd K hK
    have d7 : vs 7 = .slice a1 z1.length c1 := hd 7 (by decide) (by kernel_rfl)
    have d8 : vs 8 = .slice a3 z3.length c3 := hd 8 (by decide) (by kernel_rfl)
    simp only [laidIn, lz1, lz2, lz3, lz4, lz5, lz6, if_true, Act.put, lz7, lz8, lz9] at hK ⊢
    simp only [d7, d8] at hK ⊢
    go_simp
    go_at_call 57
    refine (mul_any (S1.below hV) (S3.below hV) (by omega) (by omega)).mono ?_
    rintro e V' ⟨a5, c5, z5, rfl, S5, N5, v5, l5, hb⟩
    have V5 : Hid (val z5 = val z1 * val z3) := v5
    have b5 : z5.length ≤ n + m := by omega
    clear v5 l5
    exact hK.out _ _ hb ⟨_, _, _, rfl, S5.mono hV.size, N5, V5, b5⟩ (not_fresh rfl)
  case refine_4 =>
    refine OpDoes.mk rfl ?_
    intro vs V hV hd K hK
    simp only [laidIn, lz1, lz2, lz3, lz4, lz5, lz6, if_true, Act.put, lz7, lz8, lz9] at hK ⊢
    go_simp
    exact hK.out _ _ (Below.refl _ _) rfl (not_fresh rfl)
  case refine_5 =>
    refine OpDoes.mk rfl ?_
    intro vs V hV hd K hK
    simp only [laidIn, lz1, lz2, lz3, lz4, lz5, lz6, if_true, Act.put, lz7, lz8, lz9] at hK ⊢
    go_simp
    exact hK.out _ _ (Below.refl _ _) rfl (not_fresh rfl)
  case refine_6 =>
    refine OpDoes.mk rfl ?_
    intro vs V hV hd K hK
    have d2 : vs 2 = .bool b := hd 2 (by decide) (by kernel_rfl)
    have d5 : vs 5 = .bool g := hd 5 (by decide) (by kernel_rfl)
    simp only [laidIn, lz1, lz2, lz3, lz4, lz5, lz6, if_true, Act.put, lz7, lz8, lz9] at hK ⊢
    simp only [d2, d5] at hK ⊢
    go_simp
    exact hK.out _ _ (Below.refl _ _) rfl (not_fresh rfl)
  case refine_7 =>
    refine OpDoes.mk rfl ?_
    intro vs V hV hd K hK
    have d4 : vs 4 = .pointer (some ⟨w.heap.size + 1, 0, none⟩) := hd 4 (by decide) (by kernel_rfl)
    have hcc := (EB.below hV).three
    have k0 := hcc.1
    have k1 := hcc.2.1
    have k2 := hcc.2.2.1
    clear hcc
    simp only [laidIn, lz1, lz2, lz3, lz4, lz5, lz6, if_true, Act.put, lz7, lz8, lz9] at hK ⊢
    simp only [d4] at hK ⊢
    go_simp
    exact hK.out _ _ (Below.refl _ _) rfl (not_fresh rfl)
  case refine_8 =>
    refine OpDoes.mk rfl ?_
    intro vs V hV hd K hK
    have d3 : vs 3 = .pointer (some ⟨w.heap.size + 1, 0, none⟩) := hd 3 (by decide) (by kernel_rfl)
    simp only [laidIn, lz1, lz2, lz3, lz4, lz5, lz6, if_true, Act.put, lz7, lz8, lz9] at hK ⊢
    simp only [d3] at hK ⊢
    go_simp
    exact hK.out _ _ (Below.refl _ _) rfl (not_fresh rfl)
  case refine_9 =>
    refine OpDoes.mk rfl ?_
    intro vs V hV hd K hK
    simp only [laidIn, lz1, lz2, lz3, lz4, lz5, lz6, if_true, Act.put, lz7, lz8, lz9] at hK ⊢
    go_simp
    exact hK.out _ _ (Below.refl _ _) rfl (not_fresh rfl)
  case refine_10 =>
    refine OpDoes.mk rfl ?_
    intro vs V hV hd K hK
    have d1 : vs 1 = .pointer (some ⟨w.heap.size, 0, none⟩) := hd 1 (by decide) (by kernel_rfl)
    have hcc := (EA.below hV).three
    have k0 := hcc.1
    have k1 := hcc.2.1
    have k2 := hcc.2.2.1
    clear hcc
    simp only [laidIn, lz1, lz2, lz3, lz4, lz5, lz6, if_true, Act.put, lz7, lz8, lz9] at hK ⊢
    simp only [d1] at hK ⊢
    go_simp
    exact hK.out _ _ (Below.refl _ _) rfl (not_fresh rfl)
  case refine_11 =>
    refine OpDoes.mk rfl ?_
    intro vs V hV hd K hK
    have d0 : vs 0 = .pointer (some ⟨w.heap.size, 0, none⟩) := hd 0 (by decide) (by kernel_rfl)
    simp only [laidIn, lz1, lz2, lz3, lz4, lz5, lz6, if_true, Act.put, lz7, lz8, lz9] at hK ⊢
    simp only [d0] at hK ⊢
    go_simp
    exact hK.out _ _ (Below.refl _ _) rfl (not_fresh rfl)
  case refine_12 =>
    refine OpDoes.mk rfl ?_
    intro vs V hV hd K hK
    simp only [laidIn, lz1, lz2, lz4, lz5, lz6, if_true, Act.put, lz7, lz8, lz9] at hK ⊢
    go_simp
    exact hK.out _ _ (Below.refl _ _) rfl (not_fresh rfl)
  case refine_13 =>
    intro vs Y1 hV hR hne fuel
    have d0 : vs 0 = .pointer (some ⟨w.heap.size, 0, none⟩) := hR 0 (by decide)
    have d1 : vs 1 = .pointer (some ⟨w.heap.size, 0, none⟩) := hR 1 (by decide)
    have d2 : vs 2 = .bool b := hR 2 (by decide)
    have d3 : vs 3 = .pointer (some ⟨w.heap.size + 1, 0, none⟩) := hR 3 (by decide)
    have d4 : vs 4 = .pointer (some ⟨w.heap.size + 1, 0, none⟩) := hR 4 (by decide)
    have d5 : vs 5 = .bool g := hR 5 (by decide)
    have d6 : vs 6 = .bool (b != g) := hR 6 (by decide)
    have d7 : vs 7 = .slice a1 z1.length c1 := hR 7 (by decide)
    have d8 : vs 8 = .slice a3 z3.length c3 := hR 8 (by decide)
    have hh := fun (P : Prop) => Yield.nat_elim P (show ((Yield.nat w3.heap.size (val z1 * val z3) (n + m)) : Yield).At (vs 9) Y1 from hR 9 (by decide))
    refine hh _ ?_
    intro a5 c5 z5 d9 S5 N5 V5 b5
    clear hh
    have hh := fun (P : Prop) => Yield.int_elim P (show ((Yield.int w3.heap.size (sgn (b != g) (val z1 * val z3)) (n + m)) : Yield).At (vs 10) Y1 from hR 10 (by decide))
    refine hh _ ?_
    intro g6 a6 c6 z6 d10 S6 N6 V6 b6
    clear hh
    obtain ⟨k_E93, d11, E93, l_E93⟩ := (show ((.new w3.heap.size (.cells #[.bool false, .slice none 0 0] 29)) : Yield).At (vs 11) Y1 from hR 11 (by decide))
    replace FA := FA.below hV
    replace FB := FB.below hV
    replace EA := EA.below hV
    replace EB := EB.below hV
    replace ER := ER.below hV
    replace S1 := S1.below hV
    replace S2 := S2.below hV
    replace S3 := S3.below hV
    replace S4 := S4.below hV
    have hr := hV
    simp only [laidIn, lz4, lz5, lz6, if_true, Act.put, lz7, lz8, lz9]
    simp only [d0, d1, d2, d3, d4, d5, d6, d7, d8, d9, d10, d11]
    clear hR hne hV d0 d1 d2 d3 d4 d5 d6 d7 d8 d9 d10 d11
    clear vs
    show wpAny _ _ _ _ (fuel + 1) _ _ _
    refine wpAny_all (rs := [12]) (by kernel_rfl) (by simp) (fun i hi => ?_)
    obtain rfl : i = 12 := by simpa using hi
    clear hi
    have hcc := E93.two
    have k0 := hcc.1
    have k1 := hcc.2.1
    have f0 := hcc.2.2.1
    have f1 := hcc.2.2.2
    clear hcc
    refine wpOp_step rfl (fun K hK => ?_)
    simp only [lz1, lz2, lz3]
    rw [if_pos (by rfl)]
    go_simp
    refine hK _ _ ?_
    clear hK k0 f0 k1 f1
    have hT := turns2 (k_E93) Y1 (.bool g6) (.slice a6 z6.length c6)
    replace FA := FA.beside E93 (noWord2 (fun _ e => by cases e) (fun _ e => by cases e)) hT
    replace FB := FB.beside E93 (noWord2 (fun _ e => by cases e) (fun _ e => by cases e)) hT
    replace EA := EA.turns hT (by omega)
    replace EB := EB.turns hT (by omega)
    replace ER := ER.turns hT (by omega)
    replace S1 := S1.beside E93 (noWord2 (fun _ e => by cases e) (fun _ e => by cases e)) hT
    replace S2 := S2.beside E93 (noWord2 (fun _ e => by cases e) (fun _ e => by cases e)) hT
    replace S3 := S3.beside E93 (noWord2 (fun _ e => by cases e) (fun _ e => by cases e)) hT
    replace S4 := S4.beside E93 (noWord2 (fun _ e => by cases e) (fun _ e => by cases e)) hT
    replace S5 := S5.beside E93 (noWord2 (fun _ e => by cases e) (fun _ e => by cases e)) hT
    replace S6 := S6.beside E93 (noWord2 (fun _ e => by cases e) (fun _ e => by cases e)) hT
    replace E93 := E93.set2 (.bool g6) (.slice a6 z6.length c6)
    have hr12 := hT.below
    obtain ⟨X1, hX⟩ := nm hT.below
    rw [hX] at FA FB EA EB ER S1 S2 S3 S4 S5 S6 E93 hr12 ⊢
    clear hX hT
    refine wpAny_done (by kernel_rfl) ?_ _
    replace hB := hB.trans ((Below.trans (Below.drew (Below.refl w3.heap.size w3)) hr).mono hB.size)
    replace hB := hB.trans (hr12.mono (by omega))
    have zz3_1 := hr.size
    have zi1 := hB.size
    have zy1_12 := hr12.size
    clear hr hr12
    clear S5 S1 S3 FA FB EA EB
    have S6_0 := S6
    obtain ⟨k0, k1, k2, f0, f1, f2⟩ := ER.three
    obtain ⟨k3, k4, f3, f4⟩ := E93.two
    go_wp2_with fail
    clear k0 k1 k2 f0 f1 f2 k3 k4 f3 f4
    have qER := ER.lt
    replace ER := ER.drew
    replace S2 := S2.drew
    replace S4 := S4.drew
    replace S6 := S6.drew
    have qE93 := E93.lt
    replace E93 := E93.drew
    refine wp_yields 5 [.is (.agg #[.bool g6, .slice a6 z6.length c6]), .is (.slice a4 z4.length c4), .is (.slice a2 z2.length c2), (Yield.nat X1.heap.size (val z4 * val z2) (n + m)), (Yield.natIn (fun s => .agg #[.bool g6, .slice a6 z6.length c6, s]) X1.heap.size (val z4 * val z2) (n + m))] (by kernel_rfl) (by kernel_rfl) (lt_cons ?_ (lt_cons ?_ (lt_cons ?_ (lt_cons ?_ (lt_cons ?_ lt_nil))))) ?_
    case refine_1 =>
      refine OpDoes.mk rfl ?_
      intro vs V hV hd K hK
      have d0 : vs 0 = .agg #[.bool g6, .slice a6 z6.length c6] := hd 0 (by decide) (by kernel_rfl)
      have hh := fun (P : Prop) => Yield.nat_elim P (show ((Yield.nat X1.heap.size (val z4 * val z2) (n + m)) : Yield).At (vs 3) V from hd 3 (by decide) (by kernel_rfl))
      refine hh _ ?_
      intro a7 c7 z7 d3 S7 N7 V7 b7
      clear hh
      simp only [laidIn, lz1, lz2, lz3, lz4, lz5, lz6, if_true, Act.put, lz7, lz8, lz9] at hK ⊢
      simp only [d0, d3] at hK ⊢
      go_simp
      exact hK.out _ _ (Below.refl _ _) ⟨_, _, _, rfl, S7, N7, V7, b7⟩ (not_fresh rfl)
    case refine_2 =>
      refine OpDoes.mk rfl ?_
      intro vs V hV hd K hK
      have d1 : vs 1 = .slice a4 z4.length c4 := hd 1 (by decide) (by kernel_rfl)
      have d2 : vs 2 = .slice a2 z2.length c2 := hd 2 (by decide) (by kernel_rfl)
      simp only [laidIn, lz1, lz2, lz3, lz4, lz5, lz6, if_true, Act.put, lz7, lz8, lz9] at hK ⊢
      simp only [d1, d2] at hK ⊢
      go_simp
      go_at_call 57
      refine (mul_any (S4.below hV) (S2.below hV) (by omega) (by omega)).mono ?_
      rintro e V' ⟨a7, c7, z7, rfl, S7, N7, v7, l7, hb⟩
      have V7 : Hid (val z7 = val z4 * val z2) := v7
      have b7 : z7.length ≤ n + m := by omega
      clear v7 l7
      exact hK.out _ _ hb ⟨_, _, _, rfl, S7.mono hV.size, N7, V7, b7⟩ (not_fresh rfl)
    case refine_3 =>
      refine OpDoes.mk rfl ?_
      intro vs V hV hd K hK
      simp only [laidIn, lz1, lz2, lz3, lz4, lz5, lz6, if_true, Act.put, lz7, lz8, lz9] at hK ⊢
      go_simp
      exact hK.out _ _ (Below.refl _ _) rfl (not_fresh rfl)
    case refine_4 =>
      refine OpDoes.mk rfl ?_
      intro vs V hV hd K hK
      simp only [laidIn, lz1, lz2, lz3, lz4, lz5, lz6, if_true, Act.put, lz7, lz8, lz9] at hK ⊢
      go_simp
      exact hK.out _ _ (Below.refl _ _) rfl (not_fresh rfl)
    case refine_5 =>
      refine OpDoes.mk rfl ?_
      intro vs V hV hd K hK
      have hcc := (E93.below hV).two
      have k0 := hcc.1
      have k1 := hcc.2.1
      clear hcc
      simp only [laidIn, lz1, lz2, lz4, lz5, lz6, if_true, Act.put, lz7, lz8, lz9] at hK ⊢
      go_simp
      exact hK.out _ _ (Below.refl _ _) rfl (not_fresh rfl)
    case refine_6 =>
      intro vs Y2 hV hR hne fuel
      have d0 : vs 0 = .agg #[.bool g6, .slice a6 z6.length c6] := hR 0 (by decide)
      have d1 : vs 1 = .slice a4 z4.length c4 := hR 1 (by decide)
      have d2 : vs 2 = .slice a2 z2.length c2 := hR 2 (by decide)
      have hh := fun (P : Prop) => Yield.nat_elim P (show ((Yield.nat X1.heap.size (val z4 * val z2) (n + m)) : Yield).At (vs 3) Y2 from hR 3 (by decide))
      refine hh _ ?_
      intro a7 c7 z7 d3 S7 N7 V7 b7
      clear hh
      have hh := fun (P : Prop) => Yield.natIn_elim P (show ((Yield.natIn (fun s => .agg #[.bool g6, .slice a6 z6.length c6, s]) X1.heap.size (val z4 * val z2) (n + m)) : Yield).At (vs 4) Y2 from hR 4 (by decide))
      refine hh _ ?_
      intro a8 c8 z8 d4 S8 N8 V8 b8
      clear hh
      replace ER := ER.below hV
      replace S2 := S2.below hV
      replace S4 := S4.below hV
      replace S6 := S6.below hV
      replace E93 := E93.below hV
      have hr := hV
      simp only [laidIn, lz4, lz5, lz6, if_true, Act.put, lz7, lz8, lz9]
      simp only [d0, d1, d2, d3, d4]
      clear hR hne hV d0 d1 d2 d3 d4
      clear vs
      show wpAny _ _ _ _ (fuel + 2) _ _ _
      refine wpAny_all (rs := [5]) (by kernel_rfl) (by simp) (fun i hi => ?_)
      obtain rfl : i = 5 := by simpa using hi
      clear hi
      have hcc := ER.three
      have k0 := hcc.1
      have k1 := hcc.2.1
      have k2 := hcc.2.2.1
      have f0 := hcc.2.2.2.1
      have f1 := hcc.2.2.2.2.1
      have f2 := hcc.2.2.2.2.2
      clear hcc
      refine wpOp_step rfl (fun K hK => ?_)
      simp only [lz1, lz2, lz3]
      rw [if_pos (by rfl)]
      go_simp
      refine hK _ _ ?_
      clear hK k0 f0 k1 f1 k2 f2
      have hT := turns3 (w.heap.size + 2) Y2 (.bool g6) (.slice a6 z6.length c6) (.slice a8 z8.length c8)
      replace S2 := S2.beside ER (noWord3 (fun _ e => by cases e) (fun _ e => by cases e) (fun _ e => by cases e)) hT
      replace S4 := S4.beside ER (noWord3 (fun _ e => by cases e) (fun _ e => by cases e) (fun _ e => by cases e)) hT
      replace S6 := S6.beside ER (noWord3 (fun _ e => by cases e) (fun _ e => by cases e) (fun _ e => by cases e)) hT
      replace E93 := E93.turns hT (by omega)
      replace S7 := S7.beside ER (noWord3 (fun _ e => by cases e) (fun _ e => by cases e) (fun _ e => by cases e)) hT
      replace S8 := S8.beside ER (noWord3 (fun _ e => by cases e) (fun _ e => by cases e) (fun _ e => by cases e)) hT
      replace ER := ER.set3 (.bool g6) (.slice a6 z6.length c6) (.slice a8 z8.length c8)
      have hr5 := hT.below
      obtain ⟨X2, hX⟩ := nm hT.below
      rw [hX] at ER S2 S4 S6 E93 S7 S8 hr5 ⊢
      clear hX hT
      refine wpAny_all (rs := [6]) (by kernel_rfl) (by simp) (fun i hi => ?_)
      obtain rfl : i = 6 := by simpa using hi
      clear hi
      refine wpOp_step rfl (fun K hK => ?_)
      simp only [lz1, lz2, lz3]
      rw [if_pos (by rfl)]
      go_simp
      refine hK _ _ ?_
      clear hK
      refine wpAny_done (by kernel_rfl) ?_ _
      replace hB := hB.trans ((Below.trans (Below.drew (Below.refl X1.heap.size X1)) hr).mono hB.size)
      replace hB := hB.trans (hr5.mono (by omega))
      have zz3_2 := hr.size
      have zi2 := hB.size
      have zy2_5 := hr5.size
      clear hr hr5
      have V5' : Hid (val z5 = val z1 * val z3) := V5
      have V6' : Hid (sgn g6 (val z6) = sgn (b != g) (val z5)) := by rw [Hid, V6.out, V5.out]
      have HI := product_is (N := n + m) LA LB HQA HQB WX WY V1 V2 V3 V4 V5' N6 V6' V8 N8 (by omega) (by omega)
      have HAP := hide (apart_of (fun h b o e => S6_0.block h b o e) S8 (Nat.le_refl _) : Apart a6 a8 z6 z8)
      obtain ⟨k0, k1, k2, f0, f1, f2⟩ := ER.three
      obtain ⟨k3, k4, f3, f4⟩ := E93.two
      have hcc := ER.three
      have r0 := hcc.1
      have r1 := hcc.2.1
      have r2 := hcc.2.2.1
      clear hcc
      go_wp2
      refine bodyPost_ret (v := .tuple #[.agg #[.bool g6, .slice a6 z6.length c6, .slice a8 z8.length c8], .int .i64 0]) (by simp [results, Tryz.f73, go_sem, r0, r1, r2]) rfl ?_
      exact ⟨_, _, _, _, _, _, _, rfl, ⟨S6.mono (by omega), S8.mono (by omega)⟩, HAP.out, HI, hB⟩
end Go.Proofs.YtejocefblpkdjabGreat
namespace Go.Proofs.YtejocefblpkdjabGreat
open Go.RowKit
open Go.RowKit
end Go.Proofs.YtejocefblpkdjabGreat
namespace Go.Proofs.YtejocefblpkdjabGreat
open Go.RowKit
theorem make_is {b : Bool} {xs ds z1 z2 : List Int} {N : Nat} (hc : Canon b xs) (wx : Words xs) (hd : 0 < val ds) (V1 : Hid (val z1 = val xs / gcdI (val xs) (val ds))) (V2 : Hid (val z2 = val ds / gcdI (val xs) (val ds))) (N1 : Norm z1) (N2 : Norm z2) (l1 : z1.length ≤ N) (l2 : z2.length ≤ N) :
    Is b z1 z2 (Rat.divInt (sgn b (val xs)) (val ds)) N := by
  have hg := gcdI_gcd (val_nonneg wx) (Int.le_of_lt hd)
  have hdv : gcdI (val xs) (val ds) ∣ val xs := by rw [hg]; exact Int.gcd_dvd_left ..
  have hgp := gcdI_posR (a := val xs) hd
  have hc1 : Canon b z1 := canon_of hc wx N1 (fun hp => by rw [V1.out]; exact Int.ediv_pos_of_pos_of_dvd hp (by omega) hdv)
  have h1 := V1.out
  have h2 := V2.out
  rw [hg] at h1 h2
  obtain ⟨l, e⟩ := lowL_div (b := b) hd hc1 N2 (by rw [h1]) h2
  exact ⟨l, e, l1, l2⟩
theorem side_nn {g : Bool} {z : List Int} {y : Int} (h : sgn g (val z) = y) (hy : 0 ≤ y) (hc : Canon g z) (hw : Words z) : g = false := by
  cases g
  · rfl
  · have := norm_pos hw hc.1 (hc.2 rfl)
    simp [sgn] at h; omega
set_option maxRecDepth 100000 in
set_option maxHeartbeats 4000000 in
theorem pmake_ok {lo : Nat} {a c : Option Addr} {ca cc : Nat} {xs ds : List Int} {w : World} (b : Bool) (FA : Fr lo w a ca xs c cc ds) (hl : xs.length ≤ 1000) (hl2 : ds.length ≤ 1000) {n : Nat} (hln : xs.length ≤ n ∧ ds.length ≤ n) (hc : Canon b xs) (hd : 0 < val ds) :
    Calls Tryz.prog 32 #[.agg #[.bool b, .slice a xs.length ca], .slice c ds.length cc] w fun e w' => ∃ (b' : Bool) (a' : Option Addr) (ca' : Nat) (ts' : List Int) (c' : Option Addr) (cc' : Nat) (es' : List Int), e = .returned (.tuple #[.agg #[.bool b', .slice a' ts'.length ca', .slice c' es'.length cc'], .int .i64 0]) ∧ Fr w.heap.size w' a' ca' ts' c' cc' es' ∧ Apart a' c' ts' es' ∧ Is b' ts' es' (Rat.divInt (sgn b (val xs)) (val ds)) (n) ∧ Below w.heap.size w w' := by
  have HF : Hid (formI b xs = 0) := formI_canon.2 hc
  have HD := hide hd
  have HC := hide hc
  have hB := Below.refl w.heap.size w
  clear hd
  go_enter Tryz.func32, Tryz.ntmps32
  have hA := Below.refl w.heap.size w
  have hq := below_new w (.cells #[.bool b, .slice a xs.length ca] 29)
  replace FA := FA.below hq
  have EA := Box.put (w := w) (k := (w.heap.size)) (.cells #[.bool b, .slice a xs.length ca] 29) rfl
  replace hA := hA.trans (hq.mono hA.size)
  replace hB := hB.trans (hq.mono hB.size)
  clear hq
  have hq := below_new (w.alloc (.cells #[.bool b, .slice a xs.length ca] 29)) (.cells #[.bool false, .slice none 0 0, .slice none 0 0] 31)
  replace FA := FA.below hq
  replace EA := EA.below hq
  have ER := Box.put (w := (w.alloc (.cells #[.bool b, .slice a xs.length ca] 29))) (k := (w.heap.size + 1)) (.cells #[.bool false, .slice none 0 0, .slice none 0 0] 31) (by simp)
  replace hA := hA.trans (hq.mono hA.size)
  replace hB := hB.trans (hq.mono hB.size)
  clear hq
  clear hA
  go_wp2_with fail
  obtain ⟨u1, hname⟩ := nm hB
  rw [hname] at hB FA EA ER ⊢
  have zh1 := hB.size
  clear hname
  have hk := scheck_any b FA.up (by omega)
  rw [HF.out] at hk
  refine (hk).mono ?_
  rintro e w2 ⟨rfl, hb⟩
  replace FA := FA.below hb
  replace EA := EA.below hb
  replace ER := ER.below hb
  replace hB := hB.trans (hb.mono hB.size)
  have zz2 := hb.size
  have zh2 := hB.size
  clear hb
  clear hk
  obtain ⟨k0, k1, f0, f1⟩ := EA.two
  obtain ⟨k2, k3, k4, f2, f3, f4⟩ := ER.three
  go_wp2_with fail
  clear k0 k1 f0 f1 k2 k3 k4 f2 f3 f4
  have hk := len_any FA.down (by omega)
  refine (hk).mono ?_
  rintro e w3 ⟨rfl, hb⟩
  replace FA := FA.below hb
  replace EA := EA.below hb
  replace ER := ER.below hb
  replace hB := hB.trans (hb.mono hB.size)
  have zz3 := hb.size
  have zh3 := hB.size
  clear hb
  clear hk
  have hne := blen_ne HD.out
  obtain ⟨k0, k1, f0, f1⟩ := EA.two
  obtain ⟨k2, k3, k4, f2, f3, f4⟩ := ER.three
  go_wp2_with fail
  clear k0 k1 f0 f1 k2 k3 k4 f2 f3 f4
  refine (lowest_any FA.up FA.down (by omega) (by omega) HD.out).mono ?_
  rintro e w4 ⟨a1, a2, c1, c2, z1, z2, rfl, Fz, N1, N2, V1, V2, b1, b2, P1, hb⟩
  replace FA := FA.below hb
  replace EA := EA.below hb
  replace ER := ER.below hb
  replace hB := hB.trans (hb.mono hB.size)
  have zz4 := hb.size
  have zh4 := hB.size
  clear hb
  clear hne
  have HI := make_is (N := n) HC.out FA.up.words HD.out V1 V2 N1 N2 (by omega) (by omega)
  obtain ⟨k0, k1, f0, f1⟩ := EA.two
  obtain ⟨k2, k3, k4, f2, f3, f4⟩ := ER.three
  have hcc := ER.three
  have r0 := hcc.1
  have r1 := hcc.2.1
  have r2 := hcc.2.2.1
  clear hcc
  have qEA := EA.lt
  have qER := ER.lt
  have hA := Below.refl w4.heap.size w4
  have hT := turns3 (w.heap.size + 1) w4 (.bool b) (.slice a1 z1.length c1) (.slice a2 z2.length c2)
  replace FA := FA.beside ER (noWord3 (fun _ e => by cases e) (fun _ e => by cases e) (fun _ e => by cases e)) hT
  replace EA := EA.turns hT (by omega)
  replace Fz := Fz.beside ER (noWord3 (fun _ e => by cases e) (fun _ e => by cases e) (fun _ e => by cases e)) hT
  replace ER := Box.set3 (.bool b) (.slice a1 z1.length c1) (.slice a2 z2.length c2) ER
  replace hB := hB.trans (hT.below.mono (by omega))
  clear hT
  clear hA
  go_wp2
  refine bodyPost_ret (v := .tuple #[.agg #[.bool b, .slice a1 z1.length c1, .slice a2 z2.length c2], .int .i64 0]) (by simp [results, Tryz.f32, go_sem, r0, r1, r2]) rfl ?_
  exact ⟨_, _, _, _, _, _, _, rfl, Fz.mono (by omega), P1, HI, hB⟩
set_option maxRecDepth 100000 in
set_option maxHeartbeats 4000000 in
theorem ppair_pos (x y : Int) (hx : -9223372036854775808 ≤ x ∧ x < 9223372036854775808) (hy : -9223372036854775808 ≤ y ∧ y < 9223372036854775808) (h0 : 0 < y) (w : World) :
    Calls Tryz.prog 17 #[.int .i64 x, .int .i64 y] w fun e w' => ∃ (b' : Bool) (a' : Option Addr) (ca' : Nat) (ts' : List Int) (c' : Option Addr) (cc' : Nat) (es' : List Int), e = .returned (.tuple #[.agg #[.bool b', .slice a' ts'.length ca', .slice c' es'.length cc'], .int .i64 0]) ∧ Fr w.heap.size w' a' ca' ts' c' cc' es' ∧ Apart a' c' ts' es' ∧ Is b' ts' es' (Rat.divInt x y) (1) ∧ Below w.heap.size w w' := by
  have hB := Below.refl w.heap.size w
  go_enter Tryz.func17, Tryz.ntmps17
  have hA := Below.refl w.heap.size w
  have hq := below_new w (.cells #[.bool false, .slice none 0 0, .slice none 0 0] 31)
  have ER := Box.put (w := w) (k := (w.heap.size)) (.cells #[.bool false, .slice none 0 0, .slice none 0 0] 31) rfl
  replace hA := hA.trans (hq.mono hA.size)
  replace hB := hB.trans (hq.mono hB.size)
  clear hq
  clear hA
  go_wp2_with fail
  obtain ⟨u1, hname⟩ := nm hB
  rw [hname] at hB ER ⊢
  have zh1 := hB.size
  clear hname
  refine (sof_any x hx _).mono ?_
  rintro e w2 ⟨g1, a1, c1, z1, rfl, S1, N1, v1, l1, hb⟩
  have V1 : Hid (sgn g1 (val z1) = x) := v1
  have b1 : z1.length ≤ 1 := by omega
  clear v1 l1
  replace ER := ER.below hb
  replace hB := hB.trans (hb.mono hB.size)
  have zz2 := hb.size
  have zh2 := hB.size
  clear hb
  obtain ⟨k0, k1, k2, f0, f1, f2⟩ := ER.three
  go_wp2_with fail
  clear k0 k1 k2 f0 f1 f2
  refine (sof_any y hy _).mono ?_
  rintro e w3 ⟨g2, a2, c2, z2, rfl, S2, N2, v2, l2, hb⟩
  have V2 : Hid (sgn g2 (val z2) = y) := v2
  have b2 : z2.length ≤ 1 := by omega
  clear v2 l2
  replace ER := ER.below hb
  replace S1 := S1.below hb
  replace hB := hB.trans (hb.mono hB.size)
  have zz3 := hb.size
  have zh3 := hB.size
  clear hb
  obtain rfl : g2 = false := side_nn V2.out (by omega) N2 S2.words
  have hv2 : Hid (val z2 = y) := by have := V2.out; simp [sgn] at this; rw [Hid]; omega
  have hd2 : 0 < val z2 := by have := hv2.out; omega
  obtain ⟨k0, k1, k2, f0, f1, f2⟩ := ER.three
  have qER := ER.lt
  have hA := Below.refl w3.heap.size w3
  have hq := below_new w3 (.cells #[.bool g1, .slice a1 z1.length c1] 29)
  replace ER := ER.below hq
  replace S1 := S1.below hq
  replace S2 := S2.below hq
  have EA := Box.put (w := w3) (k := (w3.heap.size)) (.cells #[.bool g1, .slice a1 z1.length c1] 29) rfl
  replace hA := hA.trans (hq.mono hA.size)
  replace hB := hB.trans (hq.mono hB.size)
  clear hq
  have hq := below_new (w3.alloc (.cells #[.bool g1, .slice a1 z1.length c1] 29)) (.cells #[.bool false, .slice a2 z2.length c2] 29)
  replace ER := ER.below hq
  replace S1 := S1.below hq
  replace S2 := S2.below hq
  replace EA := EA.below hq
  have EB := Box.put (w := (w3.alloc (.cells #[.bool g1, .slice a1 z1.length c1] 29))) (k := (w3.heap.size + 1)) (.cells #[.bool false, .slice a2 z2.length c2] 29) (by simp)
  replace hA := hA.trans (hq.mono hA.size)
  replace hB := hB.trans (hq.mono hB.size)
  clear hq
  clear hA
  go_wp2_with fail
  clear k0 k1 k2 f0 f1 f2
  obtain ⟨u4, hname⟩ := nm hB
  rw [hname] at hB ER S1 S2 EA EB ⊢
  have zh4 := hB.size
  clear hname
  refine (pmake_ok (lo := 0) (n := 1) g1 ⟨S1.mono (Nat.zero_le _), S2.mono (Nat.zero_le _)⟩ (by omega) (by omega) (by omega) N1 hd2).mono ?_
  rintro e w5 ⟨g3, a3, c3, x3, e3, t3, y3, rfl, F3, P3, I3, hb⟩
  replace I3 : Is g3 x3 y3 (Rat.divInt x y) (1) := I3.to (by rw [V1.out, hv2.out])
  replace ER := ER.below hb
  replace S1 := S1.below hb
  replace S2 := S2.below hb
  replace EA := EA.below hb
  replace EB := EB.below hb
  replace hB := hB.trans (hb.mono hB.size)
  have zz5 := hb.size
  have zh5 := hB.size
  clear hb
  clear hd2
  obtain ⟨k0, k1, k2, f0, f1, f2⟩ := ER.three
  obtain ⟨k3, k4, f3, f4⟩ := EA.two
  obtain ⟨k5, k6, f5, f6⟩ := EB.two
  have hcc := ER.three
  have r0 := hcc.1
  have r1 := hcc.2.1
  have r2 := hcc.2.2.1
  clear hcc
  have qER := ER.lt
  have qEA := EA.lt
  have qEB := EB.lt
  have hA := Below.refl w5.heap.size w5
  have hT := turns3 (w.heap.size) w5 (.bool g3) (.slice a3 x3.length c3) (.slice e3 y3.length t3)
  replace S1 := S1.beside ER (noWord3 (fun _ e => by cases e) (fun _ e => by cases e) (fun _ e => by cases e)) hT
  replace S2 := S2.beside ER (noWord3 (fun _ e => by cases e) (fun _ e => by cases e) (fun _ e => by cases e)) hT
  replace EA := EA.turns hT (by omega)
  replace EB := EB.turns hT (by omega)
  replace F3 := F3.beside ER (noWord3 (fun _ e => by cases e) (fun _ e => by cases e) (fun _ e => by cases e)) hT
  replace ER := Box.set3 (.bool g3) (.slice a3 x3.length c3) (.slice e3 y3.length t3) ER
  replace hB := hB.trans (hT.below.mono (by omega))
  clear hT
  clear hA
  go_wp2
  refine bodyPost_ret (v := .tuple #[.agg #[.bool g3, .slice a3 x3.length c3, .slice e3 y3.length t3], .int .i64 0]) (by simp [results, Tryz.f17, go_sem, r0, r1, r2]) rfl ?_
  exact ⟨_, _, _, _, _, _, _, rfl, F3.mono (by omega), P3, I3, hB⟩
theorem enter_plus (args : Array Value) (w : World) : (callFunc 77 args).run Tryz.prog w = .ok (.enter 77 args) w := by kernel_rfl
theorem enter_product (args : Array Value) (w : World) : (callFunc 73 args).run Tryz.prog w = .ok (.enter 73 args) w := by kernel_rfl
def opAdd (q s : Rat) : Option Rat := some (q + s)
def opMul (q s : Rat) : Option Rat := some (q * s)
def opSub (q s : Rat) : Option Rat := some (q - s)
def opDiv (q s : Rat) : Option Rat := if s = 0 then none else some (q / s)
def sumQ (rs : List RV) : Rat := rs.foldl (fun q r => q + r.q) 0
def mulQ (rs : List RV) : Rat := rs.foldl (fun q r => q * r.q) 1
theorem opFold_add (q : Rat) (rs : List RV) : opFold opAdd q rs = some (rs.foldl (fun q r => q + r.q) q) := by
  induction rs generalizing q with
  | nil => rfl
  | cons r rs ih => exact ih (q + r.q)
theorem opFold_mul (q : Rat) (rs : List RV) : opFold opMul q rs = some (rs.foldl (fun q r => q * r.q) q) := by
  induction rs generalizing q with
  | nil => rfl
  | cons r rs ih => exact ih (q * r.q)
theorem fold_add {lo : Nat} {sv : Option Addr} {cap : Nat} {rs : List RV} {w : World} (R : Row 0 w sv rs) {a c : Option Addr} {ca cc : Nat} {xs ds : List Int} (b : Bool) (FA : Fr lo w a ca xs c cc ds) {n m : Nat} (hl : xs.length ≤ n ∧ ds.length ≤ n) (hrl : rs.length ≤ 6) (hlen : ∀ r ∈ rs, r.xs.length ≤ m ∧ r.ds.length ≤ m) (hn : n ≤ 40) (hm : m ≤ 40) :
    Calls Tryz.prog 72 #[.func (.func 77) #[] #[], .agg #[.bool b, .slice a xs.length ca, .slice c ds.length cc], .slice sv rs.length cap] w fun e w' => FoldSaid opAdd w b a ca xs c cc ds rs (n + rs.length * (m + 1)) e w' ∧ Below w.heap.size w w' := by
  refine fold_any 77 opAdd R b FA hl hrl hlen hn hm enter_plus ?_ ?_
  · intro W b1 a1 n1 x1 e1 m1 y1 q1 k r t F1 F2 I1 I2 hk ht
    refine (plus_any b1 r.b F1 F2 I1 I2 hk).mono ?_
    rintro e w' ⟨b', a', ca', ts, c', cc', es, rfl, F, P, I, hb⟩
    exact ⟨b', a', ca', ts, c', cc', es, rfl, F, P, I.to (Option.some.inj ht), hb⟩
  · intro W b1 a1 n1 x1 e1 m1 y1 q1 k r F1 F2 I1 I2 hk ht
    cases ht
theorem fold_mul {lo : Nat} {sv : Option Addr} {cap : Nat} {rs : List RV} {w : World} (R : Row 0 w sv rs) {a c : Option Addr} {ca cc : Nat} {xs ds : List Int} (b : Bool) (FA : Fr lo w a ca xs c cc ds) {n m : Nat} (hl : xs.length ≤ n ∧ ds.length ≤ n) (hrl : rs.length ≤ 6) (hlen : ∀ r ∈ rs, r.xs.length ≤ m ∧ r.ds.length ≤ m) (hn : n ≤ 40) (hm : m ≤ 40) :
    Calls Tryz.prog 72 #[.func (.func 73) #[] #[], .agg #[.bool b, .slice a xs.length ca, .slice c ds.length cc], .slice sv rs.length cap] w fun e w' => FoldSaid opMul w b a ca xs c cc ds rs (n + rs.length * (m + 1)) e w' ∧ Below w.heap.size w w' := by
  refine fold_any 73 opMul R b FA hl hrl hlen hn hm enter_product ?_ ?_
  · intro W b1 a1 n1 x1 e1 m1 y1 q1 k r t F1 F2 I1 I2 hk ht
    refine (product_any b1 r.b F1 F2 I1 I2 hk).mono ?_
    rintro e w' ⟨b', a', ca', ts, c', cc', es, rfl, F, P, I, hb⟩
    exact ⟨b', a', ca', ts, c', cc', es, rfl, F, P, (I.mono (by omega)).to (Option.some.inj ht), hb⟩
  · intro W b1 a1 n1 x1 e1 m1 y1 q1 k r F1 F2 I1 I2 hk ht
    cases ht
theorem FoldSaid.okL {op : Rat → Rat → Option Rat} {w w' : World} {b : Bool} {a : Option Addr} {ca : Nat} {xs : List Int} {c : Option Addr} {cc : Nat} {ds : List Int} {rs : List RV} {N : Nat} {e : Ending} {t : Rat} {lo : Nat} (h : FoldSaid op w b a ca xs c cc ds rs N e w') (hb : Below w.heap.size w w') (hg : AllGood b xs ds rs) (ht : opFold op (ratL b xs ds) rs = some t) (FA : Fr lo w a ca xs c cc ds) (PA : Apart a c xs ds) (hlo : lo ≤ w.heap.size) : ∃ (b' : Bool) (a' : Option Addr) (ca' : Nat) (ts : List Int) (c' : Option Addr) (cc' : Nat) (es : List Int), e = .returned (.tuple #[.agg #[.bool b', .slice a' ts.length ca', .slice c' es.length cc'], .int .i64 0]) ∧ Fr lo w' a' ca' ts c' cc' es ∧ Apart a' c' ts es ∧ Is b' ts es t N ∧ Below w.heap.size w w' := by
  rcases h with ⟨_, t', ht', b', a', ca', ts, c', cc', es, he, hI, hm⟩ | ⟨_, hn, _⟩ | ⟨hn, _⟩
  · rw [ht] at ht'
    obtain rfl := Option.some.inj ht'
    rcases hm with ⟨_, rfl, rfl, rfl, rfl, rfl, rfl, rfl⟩ | ⟨h1, h2⟩
    · exact ⟨_, _, _, _, _, _, _, he, FA.below hb, PA, hI, hb⟩
    · exact ⟨_, _, _, _, _, _, _, he, h1.mono hlo, h2, hI, hb⟩
  · rw [ht] at hn; cases hn
  · exact absurd hg hn
theorem FoldSaid.zero {op : Rat → Rat → Option Rat} {w w' : World} {b : Bool} {a : Option Addr} {ca : Nat} {xs : List Int} {c : Option Addr} {cc : Nat} {ds : List Int} {rs : List RV} {N : Nat} {e : Ending} (h : FoldSaid op w b a ca xs c cc ds rs N e w') (hg : AllGood b xs ds rs) (ht : opFold op (ratL b xs ds) rs = none) : e = .returned (.tuple #[.agg #[.bool false, .slice none 0 0, .slice none 0 0], .int .i64 5]) := by
  rcases h with ⟨_, t', ht', _⟩ | ⟨_, _, he⟩ | ⟨hn, _⟩
  · rw [ht] at ht'; cases ht'
  · exact he
  · exact absurd hg hn
theorem Is.good {b : Bool} {xs ds : List Int} {q : Rat} {n : Nat} (h : Is b xs ds q n) (wx : Words xs) (wd : Words ds) : formR b xs ds = 0 := (formR_low wx wd).2 h.low
def RV.cells (r : RV) : List Value := [.bool r.b, .slice r.a r.xs.length r.ca, .slice r.c r.ds.length r.cc]
theorem row_box {W : World} {k : Nat} {t : TypeId} {rs : List RV} (E : Box W k (.cells (rs.flatMap RV.cells).toArray t (0, 0))) (h : ∀ r ∈ rs, Fr 0 W r.a r.ca r.xs r.c r.cc r.ds) : Row 0 W (some ⟨k, 0, none⟩) rs := by
  refine ⟨fun j _ => ⟨k, 0, rfl, E.lt⟩, fun g o j r e hr => ?_, fun j r hr => h r (List.mem_of_getElem? hr)⟩
  simp only [Option.some.injEq, Addr.mk.injEq, and_true] at e
  obtain ⟨rfl, rfl⟩ := e
  have key : ∀ (rs : List RV) (j : Nat), rs[j]? = some r → (rs.flatMap RV.cells)[j * 3]? = some (.bool r.b) ∧ (rs.flatMap RV.cells)[j * 3 + 1]? = some (.slice r.a r.xs.length r.ca) ∧ (rs.flatMap RV.cells)[j * 3 + 2]? = some (.slice r.c r.ds.length r.cc) := by
    intro rs
    induction rs with
    | nil => intro j hj; simp at hj
    | cons s rs ih =>
      intro j hj
      cases j with
      | zero =>
        simp only [lz5, Option.some.injEq] at hj
        subst hj
        exact ⟨rfl, rfl, rfl⟩
      | succ j =>
        simp only [lz6] at hj
        obtain ⟨h1, h2, h3⟩ := ih j hj
        have e1 : (j + 1) * 3 = j * 3 + 1 + 1 + 1 := by omega
        rw [List.flatMap_cons, e1]
        exact ⟨h1, h2, h3⟩
  obtain ⟨h1, h2, h3⟩ := key rs j hr
  refine ⟨?_, ?_, ?_⟩
  · rw [cell_of_heap E.what]; simpa using h1
  · rw [cell_of_heap E.what]; simpa using h2
  · rw [cell_of_heap E.what]; simpa using h3
set_option maxRecDepth 100000 in
set_option maxHeartbeats 4000000 in
theorem padd_ok {sv : Option Addr} {cap : Nat} {rs : List RV} {w : World} (R : Row 0 w sv rs) (hrl : rs.length ≤ 6) {m : Nat} (hlen : ∀ r ∈ rs, r.xs.length ≤ m ∧ r.ds.length ≤ m) (hm : m ≤ 40) (hg : ∀ r ∈ rs, formR r.b r.xs r.ds = 0) :
    Calls Tryz.prog 61 #[.slice sv rs.length cap] w fun e w' => ∃ (b' : Bool) (a' : Option Addr) (ca' : Nat) (ts' : List Int) (c' : Option Addr) (cc' : Nat) (es' : List Int), e = .returned (.tuple #[.agg #[.bool b', .slice a' ts'.length ca', .slice c' es'.length cc'], .int .i64 0]) ∧ Fr w.heap.size w' a' ca' ts' c' cc' es' ∧ Apart a' c' ts' es' ∧ Is b' ts' es' (sumQ rs) (1 + rs.length * (m + 1)) ∧ Below w.heap.size w w' := by
  have hB := Below.refl w.heap.size w
  go_enter Tryz.func61, Tryz.ntmps61
  have hA := Below.refl w.heap.size w
  have hq := below_new w (.cells #[.bool false, .slice none 0 0, .slice none 0 0] 31)
  replace R := R.below hq
  have ER := Box.put (w := w) (k := (w.heap.size)) (.cells #[.bool false, .slice none 0 0, .slice none 0 0] 31) rfl
  replace hA := hA.trans (hq.mono hA.size)
  replace hB := hB.trans (hq.mono hB.size)
  clear hq
  clear hA
  go_wp2_with fail
  obtain ⟨u1, hname⟩ := nm hB
  rw [hname] at hB R ER ⊢
  have zh1 := hB.size
  clear hname
  refine (small_any 0 (by decide) _).mono ?_
  rintro e w2 ⟨g1, a1, c1, x1, e1, t1, y1, rfl, F1, P1, I1, hb⟩
  replace I1 : Is g1 x1 y1 (0) (1) := I1.to (by simp)
  replace R := R.below hb
  replace ER := ER.below hb
  replace hB := hB.trans (hb.mono hB.size)
  have zz2 := hb.size
  have zh2 := hB.size
  clear hb
  have hk := fun (V : World) (hV : Below w2.heap.size w2 V) => fold_add (cap := cap) (R.below hV) g1 (F1.below hV) (n := 1) ⟨I1.lu, I1.ld⟩ hrl hlen (by omega) hm
  replace hk := (hk _ (Below.refl _ _)).mono (fun e w' h => FoldSaid.okL h.1 h.2 ⟨I1.good F1.up.words F1.down.words, hg⟩ (t := sumQ rs) (by rw [I1.rat, opFold_add]; rfl) F1 P1 (by omega))
  obtain ⟨k0, k1, k2, f0, f1, f2⟩ := ER.three
  go_wp2_with fail
  clear k0 k1 k2 f0 f1 f2
  refine (hk).mono ?_
  rintro e w3 ⟨g2, a2, c2, x2, e2, t2, y2, rfl, F2, P2, I2, hb⟩
  replace I2 : Is g2 x2 y2 (sumQ rs) (1 + rs.length * (m + 1)) := I2
  replace R := R.below hb
  replace ER := ER.below hb
  replace F1 := F1.below hb
  replace hB := hB.trans (hb.mono hB.size)
  have zz3 := hb.size
  have zh3 := hB.size
  clear hb
  clear hk
  clear R
  obtain ⟨k0, k1, k2, f0, f1, f2⟩ := ER.three
  have hcc := ER.three
  have r0 := hcc.1
  have r1 := hcc.2.1
  have r2 := hcc.2.2.1
  clear hcc
  have qER := ER.lt
  have hA := Below.refl w3.heap.size w3
  have hT := turns3 (w.heap.size) w3 (.bool g2) (.slice a2 x2.length c2) (.slice e2 y2.length t2)
  replace F1 := F1.beside ER (noWord3 (fun _ e => by cases e) (fun _ e => by cases e) (fun _ e => by cases e)) hT
  replace F2 := F2.beside ER (noWord3 (fun _ e => by cases e) (fun _ e => by cases e) (fun _ e => by cases e)) hT
  replace ER := Box.set3 (.bool g2) (.slice a2 x2.length c2) (.slice e2 y2.length t2) ER
  replace hB := hB.trans (hT.below.mono (by omega))
  clear hT
  clear hA
  go_wp2
  refine bodyPost_ret (v := .tuple #[.agg #[.bool g2, .slice a2 x2.length c2, .slice e2 y2.length t2], .int .i64 0]) (by simp [results, Tryz.f61, go_sem, r0, r1, r2]) rfl ?_
  exact ⟨_, _, _, _, _, _, _, rfl, F2.mono (by omega), P2, I2, hB⟩
set_option maxRecDepth 100000 in
set_option maxHeartbeats 4000000 in
theorem pmul_ok {sv : Option Addr} {cap : Nat} {rs : List RV} {w : World} (R : Row 0 w sv rs) (hrl : rs.length ≤ 6) {m : Nat} (hlen : ∀ r ∈ rs, r.xs.length ≤ m ∧ r.ds.length ≤ m) (hm : m ≤ 40) (hg : ∀ r ∈ rs, formR r.b r.xs r.ds = 0) :
    Calls Tryz.prog 58 #[.slice sv rs.length cap] w fun e w' => ∃ (b' : Bool) (a' : Option Addr) (ca' : Nat) (ts' : List Int) (c' : Option Addr) (cc' : Nat) (es' : List Int), e = .returned (.tuple #[.agg #[.bool b', .slice a' ts'.length ca', .slice c' es'.length cc'], .int .i64 0]) ∧ Fr w.heap.size w' a' ca' ts' c' cc' es' ∧ Apart a' c' ts' es' ∧ Is b' ts' es' (mulQ rs) (1 + rs.length * (m + 1)) ∧ Below w.heap.size w w' := by
  have hB := Below.refl w.heap.size w
  go_enter Tryz.func58, Tryz.ntmps58
  have hA := Below.refl w.heap.size w
  have hq := below_new w (.cells #[.bool false, .slice none 0 0, .slice none 0 0] 31)
  replace R := R.below hq
  have ER := Box.put (w := w) (k := (w.heap.size)) (.cells #[.bool false, .slice none 0 0, .slice none 0 0] 31) rfl
  replace hA := hA.trans (hq.mono hA.size)
  replace hB := hB.trans (hq.mono hB.size)
  clear hq
  clear hA
  go_wp2_with fail
  obtain ⟨u1, hname⟩ := nm hB
  rw [hname] at hB R ER ⊢
  have zh1 := hB.size
  clear hname
  refine (small_any 1 (by decide) _).mono ?_
  rintro e w2 ⟨g1, a1, c1, x1, e1, t1, y1, rfl, F1, P1, I1, hb⟩
  replace I1 : Is g1 x1 y1 (1) (1) := I1.to (by simp)
  replace R := R.below hb
  replace ER := ER.below hb
  replace hB := hB.trans (hb.mono hB.size)
  have zz2 := hb.size
  have zh2 := hB.size
  clear hb
  have hk := fun (V : World) (hV : Below w2.heap.size w2 V) => fold_mul (cap := cap) (R.below hV) g1 (F1.below hV) (n := 1) ⟨I1.lu, I1.ld⟩ hrl hlen (by omega) hm
  replace hk := (hk _ (Below.refl _ _)).mono (fun e w' h => FoldSaid.okL h.1 h.2 ⟨I1.good F1.up.words F1.down.words, hg⟩ (t := mulQ rs) (by rw [I1.rat, opFold_mul]; rfl) F1 P1 (by omega))
  obtain ⟨k0, k1, k2, f0, f1, f2⟩ := ER.three
  go_wp2_with fail
  clear k0 k1 k2 f0 f1 f2
  refine (hk).mono ?_
  rintro e w3 ⟨g2, a2, c2, x2, e2, t2, y2, rfl, F2, P2, I2, hb⟩
  replace I2 : Is g2 x2 y2 (mulQ rs) (1 + rs.length * (m + 1)) := I2
  replace R := R.below hb
  replace ER := ER.below hb
  replace F1 := F1.below hb
  replace hB := hB.trans (hb.mono hB.size)
  have zz3 := hb.size
  have zh3 := hB.size
  clear hb
  clear hk
  clear R
  obtain ⟨k0, k1, k2, f0, f1, f2⟩ := ER.three
  have hcc := ER.three
  have r0 := hcc.1
  have r1 := hcc.2.1
  have r2 := hcc.2.2.1
  clear hcc
  have qER := ER.lt
  have hA := Below.refl w3.heap.size w3
  have hT := turns3 (w.heap.size) w3 (.bool g2) (.slice a2 x2.length c2) (.slice e2 y2.length t2)
  replace F1 := F1.beside ER (noWord3 (fun _ e => by cases e) (fun _ e => by cases e) (fun _ e => by cases e)) hT
  replace F2 := F2.beside ER (noWord3 (fun _ e => by cases e) (fun _ e => by cases e) (fun _ e => by cases e)) hT
  replace ER := Box.set3 (.bool g2) (.slice a2 x2.length c2) (.slice e2 y2.length t2) ER
  replace hB := hB.trans (hT.below.mono (by omega))
  clear hT
  clear hA
  go_wp2
  refine bodyPost_ret (v := .tuple #[.agg #[.bool g2, .slice a2 x2.length c2, .slice e2 y2.length t2], .int .i64 0]) (by simp [results, Tryz.f58, go_sem, r0, r1, r2]) rfl ?_
  exact ⟨_, _, _, _, _, _, _, rfl, F2.mono (by omega), P2, I2, hB⟩
end Go.Proofs.YtejocefblpkdjabGreat
namespace Go.Proofs.YtejocefblpkdjabGreat
open Go.RowKit
end Go.Proofs.YtejocefblpkdjabGreat
namespace Go.Proofs.YtejocefblpkdjabGreat
open Go.RowKit
set_option maxRecDepth 100000 in
set_option maxHeartbeats 4000000 in
theorem pcmp_ok {lo lo2 : Nat} {a c p r : Option Addr} {ca cc cp cr : Nat} {xs ds ys es : List Int} {w : World} {n m : Nat} {q s : Rat} (b g : Bool) (FA : Fr lo w a ca xs c cc ds) (FB : Fr lo2 w p cp ys r cr es) (IA : Is b xs ds q n) (IB : Is g ys es s m) (hn : n + m ≤ 400) :
    Calls Tryz.prog 7 #[.agg #[.bool b, .slice a xs.length ca, .slice c ds.length cc], .agg #[.bool g, .slice p ys.length cp, .slice r es.length cr]] w fun e w' => e = .returned (.tuple #[.int .i64 (cmpR q s), .int .i64 0]) ∧ Below w.heap.size w w' := by
  have lxa := IA.lu
  have lda := IA.ld
  have lxb := IB.lu
  have ldb := IB.ld
  have HA : Hid (formR b xs ds = 0) := (formR_low FA.up.words FA.down.words).2 IA.low
  have HG : Hid (formR g ys es = 0) := (formR_low FB.up.words FB.down.words).2 IB.low
  obtain ⟨cv, hcv⟩ : ∃ cv, cmpR q s = cv := ⟨_, rfl⟩
  rw [hcv]
  have HC : Hid (cmpI (sgn b (val xs) * val es) (sgn g (val ys) * val ds) = cv) := by rw [Hid, ← hcv, ← IA.rat, ← IB.rat]; exact (cmpR_divInt IA.low.2.2.1 IB.low.2.2.1).symm
  have hB := Below.refl w.heap.size w
  clear hcv
  go_enter Tryz.func7, Tryz.ntmps7
  have hA := Below.refl w.heap.size w
  have hq := below_new w (.cells #[.bool b, .slice a xs.length ca, .slice c ds.length cc] 31)
  replace FA := FA.below hq
  replace FB := FB.below hq
  have EA := Box.put (w := w) (k := (w.heap.size)) (.cells #[.bool b, .slice a xs.length ca, .slice c ds.length cc] 31) rfl
  replace hA := hA.trans (hq.mono hA.size)
  replace hB := hB.trans (hq.mono hB.size)
  clear hq
  have hq := below_new (w.alloc (.cells #[.bool b, .slice a xs.length ca, .slice c ds.length cc] 31)) (.cells #[.bool g, .slice p ys.length cp, .slice r es.length cr] 31)
  replace FA := FA.below hq
  replace FB := FB.below hq
  replace EA := EA.below hq
  have EB := Box.put (w := (w.alloc (.cells #[.bool b, .slice a xs.length ca, .slice c ds.length cc] 31))) (k := (w.heap.size + 1)) (.cells #[.bool g, .slice p ys.length cp, .slice r es.length cr] 31) (by simp)
  replace hA := hA.trans (hq.mono hA.size)
  replace hB := hB.trans (hq.mono hB.size)
  clear hq
  clear hA
  go_wp2_with fail
  obtain ⟨u1, hname⟩ := nm hB
  rw [hname] at hB FA FB EA EB ⊢
  have zh1 := hB.size
  clear hname
  have hk := pcheck_any b FA (by omega) (by omega)
  rw [HA.out] at hk
  refine (hk).mono ?_
  rintro e w2 ⟨rfl, hb⟩
  replace FA := FA.below hb
  replace FB := FB.below hb
  replace EA := EA.below hb
  replace EB := EB.below hb
  replace hB := hB.trans (hb.mono hB.size)
  have zz2 := hb.size
  have zh2 := hB.size
  clear hb
  clear hk
  obtain ⟨k0, k1, k2, f0, f1, f2⟩ := EA.three
  obtain ⟨k3, k4, k5, f3, f4, f5⟩ := EB.three
  go_wp2_with fail
  clear k0 k1 k2 f0 f1 f2 k3 k4 k5 f3 f4 f5
  have hk := pcheck_any g FB (by omega) (by omega)
  rw [HG.out] at hk
  refine (hk).mono ?_
  rintro e w3 ⟨rfl, hb⟩
  replace FA := FA.below hb
  replace FB := FB.below hb
  replace EA := EA.below hb
  replace EB := EB.below hb
  replace hB := hB.trans (hb.mono hB.size)
  have zz3 := hb.size
  have zh3 := hB.size
  clear hb
  clear hk
  obtain ⟨k0, k1, k2, f0, f1, f2⟩ := EA.three
  obtain ⟨k3, k4, k5, f3, f4, f5⟩ := EB.three
  go_wp2_with fail
  clear k0 k1 k2 f0 f1 f2 k3 k4 k5 f3 f4 f5
  replace FA := FA.drew
  replace FB := FB.drew
  have qEA := EA.lt
  replace EA := EA.drew
  have qEB := EB.lt
  replace EB := EB.drew
  refine wp_yields 11 [.is (.pointer (some ⟨w.heap.size, 0, none⟩)), .is (.agg #[.bool b, .slice a xs.length ca]), .is (.pointer (some ⟨w.heap.size + 1, 2, none⟩)), .is (.slice r es.length cr), (Yield.int w3.heap.size (sgn b (val xs) * val es) (n + m)), .is (.pointer (some ⟨w.heap.size + 1, 0, none⟩)), .is (.agg #[.bool g, .slice p ys.length cp]), .is (.pointer (some ⟨w.heap.size, 2, none⟩)), .is (.slice c ds.length cc), (Yield.int w3.heap.size (sgn g (val ys) * val ds) (n + m)), (.is (.int .i64 cv))] (by kernel_rfl) (by kernel_rfl) (lt_cons ?_ (lt_cons ?_ (lt_cons ?_ (lt_cons ?_ (lt_cons ?_ (lt_cons ?_ (lt_cons ?_ (lt_cons ?_ (lt_cons ?_ (lt_cons ?_ (lt_cons ?_ lt_nil))))))))))) ?_
  case refine_1 =>
    refine OpDoes.mk rfl ?_
    intro vs V hV hd K hK
    have hh := fun (P : Prop) => Yield.int_elim P (show ((Yield.int w3.heap.size (sgn b (val xs) * val es) (n + m)) : Yield).At (vs 4) V from hd 4 (by decide) (by kernel_rfl))
    refine hh _ ?_
    intro g1 a1 c1 z1 d4 S1 N1 V1 b1
    clear hh
    have hh := fun (P : Prop) => Yield.int_elim P (show ((Yield.int w3.heap.size (sgn g (val ys) * val ds) (n + m)) : Yield).At (vs 9) V from hd 9 (by decide) (by kernel_rfl))
    refine hh _ ?_
    intro g2 a2 c2 z2 d9 S2 N2 V2 b2
    clear hh
    simp only [laidIn, lz1, lz2, lz3, lz4, lz5, lz6, if_true, Act.put, lz7, lz8, lz9] at hK ⊢
    simp only [d4, d9] at hK ⊢
    go_simp
    go_at_call 19
    have hc := scmp_any g1 g2 S1 S2 (by omega) (by omega)
    rw [V1.out, V2.out, HC.out] at hc
    refine (hc).mono ?_
    rintro e V' ⟨rfl, hb⟩
    exact hK.out _ _ hb rfl (not_fresh rfl)
  case refine_2 =>
    refine OpDoes.mk rfl ?_
    intro vs V hV hd K hK
    have d6 : vs 6 = .agg #[.bool g, .slice p ys.length cp] := hd 6 (by decide) (by kernel_rfl)
    have d8 : vs 8 = .slice c ds.length cc := hd 8 (by decide) (by kernel_rfl)
    simp only [laidIn, lz1, lz2, lz3, lz4, lz5, lz6, if_true, Act.put, lz7, lz8, lz9] at hK ⊢
    simp only [d6, d8] at hK ⊢
    go_simp
    go_at_call 20
    refine (stretch_any g (FB.up.below hV) (FA.down.below hV) (by omega) (by omega)).mono ?_
    rintro e V' ⟨g2, a2, c2, z2, rfl, S2, N2, v2, l2, hb⟩
    have V2 : Hid (sgn g2 (val z2) = sgn g (val ys) * val ds) := v2
    have b2 : z2.length ≤ n + m := by omega
    clear v2 l2
    exact hK.out _ _ hb ⟨_, _, _, _, rfl, S2.mono hV.size, N2, V2, b2⟩ (not_fresh rfl)
  case refine_3 =>
    refine OpDoes.mk rfl ?_
    intro vs V hV hd K hK
    have d7 : vs 7 = .pointer (some ⟨w.heap.size, 2, none⟩) := hd 7 (by decide) (by kernel_rfl)
    have hcc := (EA.below hV).three
    have k0 := hcc.1
    have k1 := hcc.2.1
    have k2 := hcc.2.2.1
    clear hcc
    simp only [laidIn, lz1, lz2, lz3, lz4, lz5, lz6, if_true, Act.put, lz7, lz8, lz9] at hK ⊢
    simp only [d7] at hK ⊢
    go_simp
    exact hK.out _ _ (Below.refl _ _) rfl (not_fresh rfl)
  case refine_4 =>
    refine OpDoes.mk rfl ?_
    intro vs V hV hd K hK
    simp only [laidIn, lz1, lz2, lz3, lz4, lz5, lz6, if_true, Act.put, lz7, lz8, lz9] at hK ⊢
    go_simp
    exact hK.out _ _ (Below.refl _ _) rfl (not_fresh rfl)
  case refine_5 =>
    refine OpDoes.mk rfl ?_
    intro vs V hV hd K hK
    have d5 : vs 5 = .pointer (some ⟨w.heap.size + 1, 0, none⟩) := hd 5 (by decide) (by kernel_rfl)
    have hcc := (EB.below hV).three
    have k0 := hcc.1
    have k1 := hcc.2.1
    have k2 := hcc.2.2.1
    clear hcc
    simp only [laidIn, lz1, lz2, lz3, lz4, lz5, lz6, if_true, Act.put, lz7, lz8, lz9] at hK ⊢
    simp only [d5] at hK ⊢
    go_simp
    exact hK.out _ _ (Below.refl _ _) rfl (not_fresh rfl)
  case refine_6 =>
    refine OpDoes.mk rfl ?_
    intro vs V hV hd K hK
    simp only [laidIn, lz1, lz2, lz3, lz4, lz5, lz6, if_true, Act.put, lz7, lz8, lz9] at hK ⊢
    go_simp
    exact hK.out _ _ (Below.refl _ _) rfl (not_fresh rfl)
  case refine_7 =>
    refine OpDoes.mk rfl ?_
    intro vs V hV hd K hK
    have d1 : vs 1 = .agg #[.bool b, .slice a xs.length ca] := hd 1 (by decide) (by kernel_rfl)
    have d3 : vs 3 = .slice r es.length cr := hd 3 (by decide) (by kernel_rfl)
    simp only [laidIn, lz1, lz2, lz3, lz4, lz5, lz6, if_true, Act.put, lz7, lz8, lz9] at hK ⊢
    simp only [d1, d3] at hK ⊢
    go_simp
    go_at_call 20
    refine (stretch_any b (FA.up.below hV) (FB.down.below hV) (by omega) (by omega)).mono ?_
    rintro e V' ⟨g1, a1, c1, z1, rfl, S1, N1, v1, l1, hb⟩
    have V1 : Hid (sgn g1 (val z1) = sgn b (val xs) * val es) := v1
    have b1 : z1.length ≤ n + m := by omega
    clear v1 l1
    exact hK.out _ _ hb ⟨_, _, _, _, rfl, S1.mono hV.size, N1, V1, b1⟩ (not_fresh rfl)
  case refine_8 =>
    refine OpDoes.mk rfl ?_
    intro vs V hV hd K hK
    have d2 : vs 2 = .pointer (some ⟨w.heap.size + 1, 2, none⟩) := hd 2 (by decide) (by kernel_rfl)
    have hcc := (EB.below hV).three
    have k0 := hcc.1
    have k1 := hcc.2.1
    have k2 := hcc.2.2.1
    clear hcc
    simp only [laidIn, lz1, lz2, lz3, lz4, lz5, lz6, if_true, Act.put, lz7, lz8, lz9] at hK ⊢
    simp only [d2] at hK ⊢
    go_simp
    exact hK.out _ _ (Below.refl _ _) rfl (not_fresh rfl)
  case refine_9 =>
    refine OpDoes.mk rfl ?_
    intro vs V hV hd K hK
    simp only [laidIn, lz1, lz2, lz3, lz4, lz5, lz6, if_true, Act.put, lz7, lz8, lz9] at hK ⊢
    go_simp
    exact hK.out _ _ (Below.refl _ _) rfl (not_fresh rfl)
  case refine_10 =>
    refine OpDoes.mk rfl ?_
    intro vs V hV hd K hK
    have d0 : vs 0 = .pointer (some ⟨w.heap.size, 0, none⟩) := hd 0 (by decide) (by kernel_rfl)
    have hcc := (EA.below hV).three
    have k0 := hcc.1
    have k1 := hcc.2.1
    have k2 := hcc.2.2.1
    clear hcc
    simp only [laidIn, lz1, lz2, lz3, lz4, lz5, lz6, if_true, Act.put, lz7, lz8, lz9] at hK ⊢
    simp only [d0] at hK ⊢
    go_simp
    exact hK.out _ _ (Below.refl _ _) rfl (not_fresh rfl)
  case refine_11 =>
    refine OpDoes.mk rfl ?_
    intro vs V hV hd K hK
    simp only [laidIn, lz1, lz2, lz4, lz5, lz6, if_true, Act.put, lz7, lz8, lz9] at hK ⊢
    go_simp
    exact hK.out _ _ (Below.refl _ _) rfl (not_fresh rfl)
  case refine_12 =>
    intro vs Y1 hV hR hne fuel
    have d0 : vs 0 = .pointer (some ⟨w.heap.size, 0, none⟩) := hR 0 (by decide)
    have d1 : vs 1 = .agg #[.bool b, .slice a xs.length ca] := hR 1 (by decide)
    have d2 : vs 2 = .pointer (some ⟨w.heap.size + 1, 2, none⟩) := hR 2 (by decide)
    have d3 : vs 3 = .slice r es.length cr := hR 3 (by decide)
    have hh := fun (P : Prop) => Yield.int_elim P (show ((Yield.int w3.heap.size (sgn b (val xs) * val es) (n + m)) : Yield).At (vs 4) Y1 from hR 4 (by decide))
    refine hh _ ?_
    intro g1 a1 c1 z1 d4 S1 N1 V1 b1
    clear hh
    have d5 : vs 5 = .pointer (some ⟨w.heap.size + 1, 0, none⟩) := hR 5 (by decide)
    have d6 : vs 6 = .agg #[.bool g, .slice p ys.length cp] := hR 6 (by decide)
    have d7 : vs 7 = .pointer (some ⟨w.heap.size, 2, none⟩) := hR 7 (by decide)
    have d8 : vs 8 = .slice c ds.length cc := hR 8 (by decide)
    have hh := fun (P : Prop) => Yield.int_elim P (show ((Yield.int w3.heap.size (sgn g (val ys) * val ds) (n + m)) : Yield).At (vs 9) Y1 from hR 9 (by decide))
    refine hh _ ?_
    intro g2 a2 c2 z2 d9 S2 N2 V2 b2
    clear hh
    have d10 : vs 10 = .int .i64 cv := hR 10 (by decide)
    replace FA := FA.below hV
    replace FB := FB.below hV
    replace EA := EA.below hV
    replace EB := EB.below hV
    have hr := hV
    simp only [laidIn, lz4, lz5, lz6, if_true, Act.put, lz7, lz8, lz9]
    simp only [d0, d1, d2, d3, d4, d5, d6, d7, d8, d9, d10]
    clear hR hne hV d0 d1 d2 d3 d4 d5 d6 d7 d8 d9 d10
    clear vs
    show wpAny _ _ _ _ (fuel + 2) _ _ _
    refine wpAny_all (rs := [11]) (by kernel_rfl) (by simp) (fun i hi => ?_)
    obtain rfl : i = 11 := by simpa using hi
    clear hi
    refine wpOp_step rfl (fun K hK => ?_)
    simp only [lz1, lz2, lz3]
    rw [if_pos (by rfl)]
    go_simp
    refine hK _ _ ?_
    clear hK
    refine wpAny_all (rs := [12]) (by kernel_rfl) (by simp) (fun i hi => ?_)
    obtain rfl : i = 12 := by simpa using hi
    clear hi
    refine wpOp_step rfl (fun K hK => ?_)
    simp only [lz1, lz2, lz3]
    rw [if_pos (by rfl)]
    go_simp
    refine hK _ _ ?_
    clear hK
    refine wpAny_done (by kernel_rfl) ?_ _
    replace hB := hB.trans ((Below.trans (Below.drew (Below.refl w3.heap.size w3)) hr).mono hB.size)
    have zz3_0 := hr.size
    have zi1 := hB.size
    clear hr 
    obtain ⟨k0, k1, k2, f0, f1, f2⟩ := EA.three
    obtain ⟨k3, k4, k5, f3, f4, f5⟩ := EB.three
    go_wp2
    go_ret2
    exact ⟨rfl, hB⟩
set_option maxRecDepth 100000 in
set_option maxHeartbeats 4000000 in
theorem pround_ok {lo : Nat} {a c : Option Addr} {ca cc : Nat} {xs ds : List Int} {w : World} (b : Bool) (FA : Fr lo w a ca xs c cc ds) {n : Nat} {q : Rat} (IA : Is b xs ds q n) (hn : n ≤ 400) :
    Calls Tryz.prog 59 #[.agg #[.bool b, .slice a xs.length ca, .slice c ds.length cc]] w fun e w' => ∃ (b' : Bool) (a' : Option Addr) (cap' : Nat) (ts : List Int), e = .returned (.tuple #[.agg #[.bool b', .slice a' ts.length cap'], .int .i64 0]) ∧ Seg w.heap.size w' (.slice a' ts.length cap') ts ∧ Canon b' ts ∧ Hid (sgn b' (val ts) = sgn b (roundN (val xs) (val ds))) ∧ ts.length ≤ n + 2 ∧ Below w.heap.size w w' := by
  have lxa := IA.lu
  have lda := IA.ld
  have pd := IA.low.2.2.1
  have px := val_nonneg FA.up.words
  have HA : Hid (formR b xs ds = 0) := (formR_low FA.up.words FA.down.words).2 IA.low
  have hB := Below.refl w.heap.size w
  go_enter Tryz.func59, Tryz.ntmps59
  have hA := Below.refl w.heap.size w
  have hq := below_new w (.cells #[.bool b, .slice a xs.length ca, .slice c ds.length cc] 31)
  replace FA := FA.below hq
  have EA := Box.put (w := w) (k := (w.heap.size)) (.cells #[.bool b, .slice a xs.length ca, .slice c ds.length cc] 31) rfl
  replace hA := hA.trans (hq.mono hA.size)
  replace hB := hB.trans (hq.mono hB.size)
  clear hq
  have hq := below_new (w.alloc (.cells #[.bool b, .slice a xs.length ca, .slice c ds.length cc] 31)) (.cells #[.bool false, .slice none 0 0] 29)
  replace FA := FA.below hq
  replace EA := EA.below hq
  have ER := Box.put (w := (w.alloc (.cells #[.bool b, .slice a xs.length ca, .slice c ds.length cc] 31))) (k := (w.heap.size + 1)) (.cells #[.bool false, .slice none 0 0] 29) (by simp)
  replace hA := hA.trans (hq.mono hA.size)
  replace hB := hB.trans (hq.mono hB.size)
  clear hq
  clear hA
  go_wp2_with fail
  obtain ⟨u1, hname⟩ := nm hB
  rw [hname] at hB FA EA ER ⊢
  have zh1 := hB.size
  clear hname
  have hk := pcheck_any b FA (by omega) (by omega)
  rw [HA.out] at hk
  refine (hk).mono ?_
  rintro e w2 ⟨rfl, hb⟩
  replace FA := FA.below hb
  replace EA := EA.below hb
  replace ER := ER.below hb
  replace hB := hB.trans (hb.mono hB.size)
  have zz2 := hb.size
  have zh2 := hB.size
  clear hb
  clear hk
  obtain ⟨k0, k1, k2, f0, f1, f2⟩ := EA.three
  obtain ⟨k3, k4, f3, f4⟩ := ER.two
  go_wp2_with fail
  clear k0 k1 k2 f0 f1 f2 k3 k4 f3 f4
  have hk := qdiv_all FA.up FA.down (by omega) (by omega)
  rw [errZ_pos pd, remZ_pos _ pd] at hk
  refine (hk).mono ?_
  rintro e w3 ⟨a1, a2, c1, c2, z1, z2, rfl, S1, S2, N1, N2, v1, v2, hap, hb⟩
  have b1 : z1.length ≤ n := Nat.le_trans (len_below S1.words N1 (by rw [v1]; exact Int.lt_of_le_of_lt (Int.ediv_le_self _ px) (val_lt FA.up.words))) lxa
  have b2 : z2.length ≤ n := Nat.le_trans (len_below S2.words N2 (by have := val_lt FA.down.words; have := Int.emod_lt_of_pos (val xs) pd; rw [v2]; omega)) lda
  have V1 := hide v1
  have V2 := hide v2
  clear v1 v2 hap
  replace FA := FA.below hb
  replace EA := EA.below hb
  replace ER := ER.below hb
  replace hB := hB.trans (hb.mono hB.size)
  have zz3 := hb.size
  have zh3 := hB.size
  clear hb
  clear hk
  obtain ⟨cv, hcv⟩ : ∃ cv, cmpI (val z2 + val z2) (val ds) = cv := ⟨_, rfl⟩
  have HC := hide hcv
  clear hcv
  obtain ⟨k0, k1, k2, f0, f1, f2⟩ := EA.three
  obtain ⟨k3, k4, f3, f4⟩ := ER.two
  go_wp2_with fail
  clear k0 k1 k2 f0 f1 f2 k3 k4 f3 f4
  replace FA := FA.drew
  have qEA := EA.lt
  replace EA := EA.drew
  have qER := ER.lt
  replace ER := ER.drew
  replace S1 := S1.drew
  replace S2 := S2.drew
  refine wp_yields 6 [.is (.slice a2 z2.length c2), .is (.slice a2 z2.length c2), (Yield.nat w3.heap.size (val z2 + val z2) (n + 1)), .is (.pointer (some ⟨w.heap.size, 2, none⟩)), .is (.slice c ds.length cc), (.is (.int .i64 cv))] (by kernel_rfl) (by kernel_rfl) (lt_cons ?_ (lt_cons ?_ (lt_cons ?_ (lt_cons ?_ (lt_cons ?_ (lt_cons ?_ lt_nil)))))) ?_
  case refine_1 =>
    refine OpDoes.mk rfl ?_
    intro vs V hV hd K hK
    have hh := fun (P : Prop) => Yield.nat_elim P (show ((Yield.nat w3.heap.size (val z2 + val z2) (n + 1)) : Yield).At (vs 2) V from hd 2 (by decide) (by kernel_rfl))
    refine hh _ ?_
    intro a3 c3 z3 d2 S3 N3 V3 b3
    clear hh
    have d4 : vs 4 = .slice c ds.length cc := hd 4 (by decide) (by kernel_rfl)
    simp only [laidIn, lz1, lz2, lz3, lz4, lz5, lz6, if_true, Act.put, lz7, lz8, lz9] at hK ⊢
    simp only [d2, d4] at hK ⊢
    go_simp
    go_at_call 38
    have hc := cmp_any S3 (FA.down.below hV) (by omega) (by omega)
    rw [V3.out, HC.out] at hc
    refine (hc).mono ?_
    rintro e V' ⟨rfl, hb⟩
    exact hK.out _ _ hb rfl (not_fresh rfl)
  case refine_2 =>
    refine OpDoes.mk rfl ?_
    intro vs V hV hd K hK
    have d3 : vs 3 = .pointer (some ⟨w.heap.size, 2, none⟩) := hd 3 (by decide) (by kernel_rfl)
    have hcc := (EA.below hV).three
    have k0 := hcc.1
    have k1 := hcc.2.1
    have k2 := hcc.2.2.1
    clear hcc
    simp only [laidIn, lz1, lz2, lz3, lz4, lz5, lz6, if_true, Act.put, lz7, lz8, lz9] at hK ⊢
    simp only [d3] at hK ⊢
    go_simp
    exact hK.out _ _ (Below.refl _ _) rfl (not_fresh rfl)
  case refine_3 =>
    refine OpDoes.mk rfl ?_
    intro vs V hV hd K hK
    simp only [laidIn, lz1, lz2, lz3, lz4, lz5, lz6, if_true, Act.put, lz7, lz8, lz9] at hK ⊢
    go_simp
    exact hK.out _ _ (Below.refl _ _) rfl (not_fresh rfl)
  case refine_4 =>
    refine OpDoes.mk rfl ?_
    intro vs V hV hd K hK
    have d0 : vs 0 = .slice a2 z2.length c2 := hd 0 (by decide) (by kernel_rfl)
    have d1 : vs 1 = .slice a2 z2.length c2 := hd 1 (by decide) (by kernel_rfl)
    simp only [laidIn, lz1, lz2, lz3, lz4, lz5, lz6, if_true, Act.put, lz7, lz8, lz9] at hK ⊢
    simp only [d0, d1] at hK ⊢
    go_simp
    go_at_call 75
    refine (add_any (S2.below hV) (S2.below hV) (by omega) (by omega)).mono ?_
    rintro e V' ⟨a3, c3, z3, rfl, S3, N3, v3, l3, hb⟩
    have V3 : Hid (val z3 = val z2 + val z2) := v3
    have b3 : z3.length ≤ n + 1 := by omega
    clear v3 l3
    exact hK.out _ _ hb ⟨_, _, _, rfl, S3.mono hV.size, N3, V3, b3⟩ (not_fresh rfl)
  case refine_5 =>
    refine OpDoes.mk rfl ?_
    intro vs V hV hd K hK
    simp only [laidIn, lz1, lz2, lz3, lz4, lz5, lz6, if_true, Act.put, lz7, lz8, lz9] at hK ⊢
    go_simp
    exact hK.out _ _ (Below.refl _ _) rfl (not_fresh rfl)
  case refine_6 =>
    refine OpDoes.mk rfl ?_
    intro vs V hV hd K hK
    simp only [laidIn, lz1, lz2, lz4, lz5, lz6, if_true, Act.put, lz7, lz8, lz9] at hK ⊢
    go_simp
    exact hK.out _ _ (Below.refl _ _) rfl (not_fresh rfl)
  case refine_7 =>
    intro vs Y1 hV hR hne fuel
    have d0 : vs 0 = .slice a2 z2.length c2 := hR 0 (by decide)
    have d1 : vs 1 = .slice a2 z2.length c2 := hR 1 (by decide)
    have hh := fun (P : Prop) => Yield.nat_elim P (show ((Yield.nat w3.heap.size (val z2 + val z2) (n + 1)) : Yield).At (vs 2) Y1 from hR 2 (by decide))
    refine hh _ ?_
    intro a3 c3 z3 d2 S3 N3 V3 b3
    clear hh
    have d3 : vs 3 = .pointer (some ⟨w.heap.size, 2, none⟩) := hR 3 (by decide)
    have d4 : vs 4 = .slice c ds.length cc := hR 4 (by decide)
    have d5 : vs 5 = .int .i64 cv := hR 5 (by decide)
    replace FA := FA.below hV
    replace EA := EA.below hV
    replace ER := ER.below hV
    replace S1 := S1.below hV
    replace S2 := S2.below hV
    have hr := hV
    simp only [laidIn, lz4, lz5, lz6, if_true, Act.put, lz7, lz8, lz9]
    simp only [d0, d1, d2, d3, d4, d5]
    clear hR hne hV d0 d1 d2 d3 d4 d5
    clear vs
    show wpAny _ _ _ _ (fuel + 1) _ _ _
    refine wpAny_all (rs := [6]) (by kernel_rfl) (by simp) (fun i hi => ?_)
    obtain rfl : i = 6 := by simpa using hi
    clear hi
    refine wpOp_step rfl (fun K hK => ?_)
    simp only [lz1, lz2, lz3]
    rw [if_pos (by rfl)]
    go_simp
    refine hK _ _ ?_
    clear hK
    refine wpAny_done (by kernel_rfl) ?_ _
    replace hB := hB.trans ((Below.trans (Below.drew (Below.refl w3.heap.size w3)) hr).mono hB.size)
    have zz3_0 := hr.size
    have zi1 := hB.size
    clear hr 
    clear S3 S2
    have hr := Int.emod_nonneg (val xs) (show val ds ≠ 0 by omega)
    rcases Int.lt_trichotomy (val z2 + val z2) (val ds) with hlt | heq | hgt
    · skip
      obtain rfl : cv = -1 := by rw [← HC.out]; exact cmpI_lt hlt
      have HR : Hid (roundN (val xs) (val ds) = val xs / val ds) := by rw [Hid, roundN, if_neg]; have := V2.out; omega
      clear hlt HC
      obtain ⟨k0, k1, k2, f0, f1, f2⟩ := EA.three
      obtain ⟨k3, k4, f3, f4⟩ := ER.two
      go_wp2_with fail
      clear k0 k1 k2 f0 f1 f2 k3 k4 f3 f4
      refine (smake_any S1 (by omega) b).mono ?_
      rintro e w4 ⟨g4, a4, c4, z4, rfl, S4, N4, v4, l4, hb⟩
      have V4 : Hid (sgn g4 (val z4) = sgn b (roundN (val xs) (val ds))) := by rw [Hid, v4, HR.out, V1.out]
      have b4 : z4.length ≤ n + 2 := by omega
      clear v4 l4
      replace FA := FA.below hb
      replace EA := EA.below hb
      replace ER := ER.below hb
      replace S1 := S1.below hb
      replace hB := hB.trans (hb.mono hB.size)
      have zz4 := hb.size
      have zh4 := hB.size
      clear hb
      obtain ⟨k0, k1, k2, f0, f1, f2⟩ := EA.three
      obtain ⟨k3, k4, f3, f4⟩ := ER.two
      have hcc := ER.two
      have r0 := hcc.1
      have r1 := hcc.2.1
      clear hcc
      have qEA := EA.lt
      have qER := ER.lt
      have hA := Below.refl w4.heap.size w4
      have hT := (((Turns.refl (w.heap.size + 1) w4).setCell 0 (.bool g4)).setCell 1 (.slice a4 z4.length c4))
      replace FA := FA.beside ER (noWord2 (fun _ e => by cases e) (fun _ e => by cases e)) hT
      replace EA := EA.turns hT (by omega)
      replace S1 := S1.beside ER (noWord2 (fun _ e => by cases e) (fun _ e => by cases e)) hT
      replace S4 := S4.beside ER (noWord2 (fun _ e => by cases e) (fun _ e => by cases e)) hT
      replace ER : Box ((w4.setCell ⟨w.heap.size + 1, 0, none⟩ (.bool g4)).setCell ⟨w.heap.size + 1, 1, none⟩ (.slice a4 z4.length c4)) (w.heap.size + 1) (.cells #[.bool g4, .slice a4 z4.length c4] 29) := ⟨Nat.lt_of_lt_of_le ER.lt hT.below.size, (heap_setCell_same _ _ 1 _ _ _ (heap_setCell_same _ _ 0 _ _ _ ER.what))⟩
      replace hB := hB.trans (hT.below.mono (by omega))
      clear hT
      clear hA
      go_wp2
      refine bodyPost_ret (v := .tuple #[.agg #[.bool g4, .slice a4 z4.length c4], .int .i64 0]) (by simp [results, Tryz.f59, go_sem, r0, r1]) rfl ?_
      exact ⟨_, _, _, _, rfl, S4.mono (by omega), N4, V4, b4, hB⟩
    · obtain rfl : cv = 0 := by rw [← HC.out, heq, cmpI_eq]
      by_cases hodd : val z1 % 2 = 1
      · skip
        have HR : Hid (roundN (val xs) (val ds) = val xs / val ds + 1) := by rw [Hid, roundN, if_pos]; have := V2.out; have := V1.out; right; constructor <;> omega
        clear heq HC
        obtain ⟨k0, k1, k2, f0, f1, f2⟩ := EA.three
        obtain ⟨k3, k4, f3, f4⟩ := ER.two
        go_wp2_with fail
        clear k0 k1 k2 f0 f1 f2 k3 k4 f3 f4
        have hk := isOdd_any S1
        rw [decide_eq_true hodd] at hk
        refine (hk).mono ?_
        rintro e w4 ⟨rfl, hb⟩
        replace FA := FA.below hb
        replace EA := EA.below hb
        replace ER := ER.below hb
        replace S1 := S1.below hb
        replace hB := hB.trans (hb.mono hB.size)
        have zz4 := hb.size
        have zh4 := hB.size
        clear hb
        clear hk hodd
        obtain ⟨k0, k1, k2, f0, f1, f2⟩ := EA.three
        obtain ⟨k3, k4, f3, f4⟩ := ER.two
        go_wp2_with fail
        clear k0 k1 k2 f0 f1 f2 k3 k4 f3 f4
        refine (of_any 1 (by decide) _).mono ?_
        rintro e w5 ⟨a4, c4, z4, rfl, S4, N4, v4, l4, hb⟩
        have V4 : Hid (val z4 = (1 : Int)) := v4
        have b4 : z4.length ≤ 1 := by omega
        clear v4 l4
        replace FA := FA.below hb
        replace EA := EA.below hb
        replace ER := ER.below hb
        replace S1 := S1.below hb
        replace hB := hB.trans (hb.mono hB.size)
        have zz5 := hb.size
        have zh5 := hB.size
        clear hb
        obtain ⟨k0, k1, k2, f0, f1, f2⟩ := EA.three
        obtain ⟨k3, k4, f3, f4⟩ := ER.two
        go_wp2_with fail
        clear k0 k1 k2 f0 f1 f2 k3 k4 f3 f4
        refine (add_any S1 S4 (by omega) (by omega)).mono ?_
        rintro e w6 ⟨a5, c5, z5, rfl, S5, N5, v5, l5, hb⟩
        have V5 : Hid (val z5 = val z1 + 1) := by rw [Hid, v5, V4.out]
        have b5 : z5.length ≤ n + 2 := by omega
        clear v5 l5
        replace FA := FA.below hb
        replace EA := EA.below hb
        replace ER := ER.below hb
        replace S1 := S1.below hb
        replace S4 := S4.below hb
        replace hB := hB.trans (hb.mono hB.size)
        have zz6 := hb.size
        have zh6 := hB.size
        clear hb
        obtain ⟨k0, k1, k2, f0, f1, f2⟩ := EA.three
        obtain ⟨k3, k4, f3, f4⟩ := ER.two
        go_wp2_with fail
        clear k0 k1 k2 f0 f1 f2 k3 k4 f3 f4
        refine (smake_any S5 (by omega) b).mono ?_
        rintro e w7 ⟨g6, a6, c6, z6, rfl, S6, N6, v6, l6, hb⟩
        have V6 : Hid (sgn g6 (val z6) = sgn b (roundN (val xs) (val ds))) := by rw [Hid, v6, HR.out, V5.out, V1.out]
        have b6 : z6.length ≤ n + 2 := by omega
        clear v6 l6
        replace FA := FA.below hb
        replace EA := EA.below hb
        replace ER := ER.below hb
        replace S1 := S1.below hb
        replace S4 := S4.below hb
        replace S5 := S5.below hb
        replace hB := hB.trans (hb.mono hB.size)
        have zz7 := hb.size
        have zh7 := hB.size
        clear hb
        obtain ⟨k0, k1, k2, f0, f1, f2⟩ := EA.three
        obtain ⟨k3, k4, f3, f4⟩ := ER.two
        have hcc := ER.two
        have r0 := hcc.1
        have r1 := hcc.2.1
        clear hcc
        have qEA := EA.lt
        have qER := ER.lt
        have hA := Below.refl w7.heap.size w7
        have hT := (((Turns.refl (w.heap.size + 1) w7).setCell 0 (.bool g6)).setCell 1 (.slice a6 z6.length c6))
        replace FA := FA.beside ER (noWord2 (fun _ e => by cases e) (fun _ e => by cases e)) hT
        replace EA := EA.turns hT (by omega)
        replace S1 := S1.beside ER (noWord2 (fun _ e => by cases e) (fun _ e => by cases e)) hT
        replace S4 := S4.beside ER (noWord2 (fun _ e => by cases e) (fun _ e => by cases e)) hT
        replace S5 := S5.beside ER (noWord2 (fun _ e => by cases e) (fun _ e => by cases e)) hT
        replace S6 := S6.beside ER (noWord2 (fun _ e => by cases e) (fun _ e => by cases e)) hT
        replace ER : Box ((w7.setCell ⟨w.heap.size + 1, 0, none⟩ (.bool g6)).setCell ⟨w.heap.size + 1, 1, none⟩ (.slice a6 z6.length c6)) (w.heap.size + 1) (.cells #[.bool g6, .slice a6 z6.length c6] 29) := ⟨Nat.lt_of_lt_of_le ER.lt hT.below.size, (heap_setCell_same _ _ 1 _ _ _ (heap_setCell_same _ _ 0 _ _ _ ER.what))⟩
        replace hB := hB.trans (hT.below.mono (by omega))
        clear hT
        clear hA
        go_wp2
        refine bodyPost_ret (v := .tuple #[.agg #[.bool g6, .slice a6 z6.length c6], .int .i64 0]) (by simp [results, Tryz.f59, go_sem, r0, r1]) rfl ?_
        exact ⟨_, _, _, _, rfl, S6.mono (by omega), N6, V6, b6, hB⟩
      · skip
        have HR : Hid (roundN (val xs) (val ds) = val xs / val ds) := by rw [Hid, roundN, if_neg]; have := V2.out; have := V1.out; rintro (h | ⟨h, h2⟩) <;> omega
        clear heq HC
        obtain ⟨k0, k1, k2, f0, f1, f2⟩ := EA.three
        obtain ⟨k3, k4, f3, f4⟩ := ER.two
        go_wp2_with fail
        clear k0 k1 k2 f0 f1 f2 k3 k4 f3 f4
        have hk := isOdd_any S1
        rw [decide_eq_false hodd] at hk
        refine (hk).mono ?_
        rintro e w4 ⟨rfl, hb⟩
        replace FA := FA.below hb
        replace EA := EA.below hb
        replace ER := ER.below hb
        replace S1 := S1.below hb
        replace hB := hB.trans (hb.mono hB.size)
        have zz4 := hb.size
        have zh4 := hB.size
        clear hb
        clear hk hodd
        obtain ⟨k0, k1, k2, f0, f1, f2⟩ := EA.three
        obtain ⟨k3, k4, f3, f4⟩ := ER.two
        go_wp2_with fail
        clear k0 k1 k2 f0 f1 f2 k3 k4 f3 f4
        refine (smake_any S1 (by omega) b).mono ?_
        rintro e w5 ⟨g4, a4, c4, z4, rfl, S4, N4, v4, l4, hb⟩
        have V4 : Hid (sgn g4 (val z4) = sgn b (roundN (val xs) (val ds))) := by rw [Hid, v4, HR.out, V1.out]
        have b4 : z4.length ≤ n + 2 := by omega
        clear v4 l4
        replace FA := FA.below hb
        replace EA := EA.below hb
        replace ER := ER.below hb
        replace S1 := S1.below hb
        replace hB := hB.trans (hb.mono hB.size)
        have zz5 := hb.size
        have zh5 := hB.size
        clear hb
        obtain ⟨k0, k1, k2, f0, f1, f2⟩ := EA.three
        obtain ⟨k3, k4, f3, f4⟩ := ER.two
        have hcc := ER.two
        have r0 := hcc.1
        have r1 := hcc.2.1
        clear hcc
        have qEA := EA.lt
        have qER := ER.lt
        have hA := Below.refl w5.heap.size w5
        have hT := (((Turns.refl (w.heap.size + 1) w5).setCell 0 (.bool g4)).setCell 1 (.slice a4 z4.length c4))
        replace FA := FA.beside ER (noWord2 (fun _ e => by cases e) (fun _ e => by cases e)) hT
        replace EA := EA.turns hT (by omega)
        replace S1 := S1.beside ER (noWord2 (fun _ e => by cases e) (fun _ e => by cases e)) hT
        replace S4 := S4.beside ER (noWord2 (fun _ e => by cases e) (fun _ e => by cases e)) hT
        replace ER : Box ((w5.setCell ⟨w.heap.size + 1, 0, none⟩ (.bool g4)).setCell ⟨w.heap.size + 1, 1, none⟩ (.slice a4 z4.length c4)) (w.heap.size + 1) (.cells #[.bool g4, .slice a4 z4.length c4] 29) := ⟨Nat.lt_of_lt_of_le ER.lt hT.below.size, (heap_setCell_same _ _ 1 _ _ _ (heap_setCell_same _ _ 0 _ _ _ ER.what))⟩
        replace hB := hB.trans (hT.below.mono (by omega))
        clear hT
        clear hA
        go_wp2
        refine bodyPost_ret (v := .tuple #[.agg #[.bool g4, .slice a4 z4.length c4], .int .i64 0]) (by simp [results, Tryz.f59, go_sem, r0, r1]) rfl ?_
        exact ⟨_, _, _, _, rfl, S4.mono (by omega), N4, V4, b4, hB⟩
    · skip
      obtain rfl : cv = 1 := by rw [← HC.out]; exact cmpI_gt hgt
      have HR : Hid (roundN (val xs) (val ds) = val xs / val ds + 1) := by rw [Hid, roundN, if_pos]; have := V2.out; left; omega
      clear hgt HC
      obtain ⟨k0, k1, k2, f0, f1, f2⟩ := EA.three
      obtain ⟨k3, k4, f3, f4⟩ := ER.two
      go_wp2_with fail
      clear k0 k1 k2 f0 f1 f2 k3 k4 f3 f4
      refine (of_any 1 (by decide) _).mono ?_
      rintro e w4 ⟨a4, c4, z4, rfl, S4, N4, v4, l4, hb⟩
      have V4 : Hid (val z4 = (1 : Int)) := v4
      have b4 : z4.length ≤ 1 := by omega
      clear v4 l4
      replace FA := FA.below hb
      replace EA := EA.below hb
      replace ER := ER.below hb
      replace S1 := S1.below hb
      replace hB := hB.trans (hb.mono hB.size)
      have zz4 := hb.size
      have zh4 := hB.size
      clear hb
      obtain ⟨k0, k1, k2, f0, f1, f2⟩ := EA.three
      obtain ⟨k3, k4, f3, f4⟩ := ER.two
      go_wp2_with fail
      clear k0 k1 k2 f0 f1 f2 k3 k4 f3 f4
      refine (add_any S1 S4 (by omega) (by omega)).mono ?_
      rintro e w5 ⟨a5, c5, z5, rfl, S5, N5, v5, l5, hb⟩
      have V5 : Hid (val z5 = val z1 + 1) := by rw [Hid, v5, V4.out]
      have b5 : z5.length ≤ n + 2 := by omega
      clear v5 l5
      replace FA := FA.below hb
      replace EA := EA.below hb
      replace ER := ER.below hb
      replace S1 := S1.below hb
      replace S4 := S4.below hb
      replace hB := hB.trans (hb.mono hB.size)
      have zz5 := hb.size
      have zh5 := hB.size
      clear hb
      obtain ⟨k0, k1, k2, f0, f1, f2⟩ := EA.three
      obtain ⟨k3, k4, f3, f4⟩ := ER.two
      go_wp2_with fail
      clear k0 k1 k2 f0 f1 f2 k3 k4 f3 f4
      refine (smake_any S5 (by omega) b).mono ?_
      rintro e w6 ⟨g6, a6, c6, z6, rfl, S6, N6, v6, l6, hb⟩
      have V6 : Hid (sgn g6 (val z6) = sgn b (roundN (val xs) (val ds))) := by rw [Hid, v6, HR.out, V5.out, V1.out]
      have b6 : z6.length ≤ n + 2 := by omega
      clear v6 l6
      replace FA := FA.below hb
      replace EA := EA.below hb
      replace ER := ER.below hb
      replace S1 := S1.below hb
      replace S4 := S4.below hb
      replace S5 := S5.below hb
      replace hB := hB.trans (hb.mono hB.size)
      have zz6 := hb.size
      have zh6 := hB.size
      clear hb
      obtain ⟨k0, k1, k2, f0, f1, f2⟩ := EA.three
      obtain ⟨k3, k4, f3, f4⟩ := ER.two
      have hcc := ER.two
      have r0 := hcc.1
      have r1 := hcc.2.1
      clear hcc
      have qEA := EA.lt
      have qER := ER.lt
      have hA := Below.refl w6.heap.size w6
      have hT := (((Turns.refl (w.heap.size + 1) w6).setCell 0 (.bool g6)).setCell 1 (.slice a6 z6.length c6))
      replace FA := FA.beside ER (noWord2 (fun _ e => by cases e) (fun _ e => by cases e)) hT
      replace EA := EA.turns hT (by omega)
      replace S1 := S1.beside ER (noWord2 (fun _ e => by cases e) (fun _ e => by cases e)) hT
      replace S4 := S4.beside ER (noWord2 (fun _ e => by cases e) (fun _ e => by cases e)) hT
      replace S5 := S5.beside ER (noWord2 (fun _ e => by cases e) (fun _ e => by cases e)) hT
      replace S6 := S6.beside ER (noWord2 (fun _ e => by cases e) (fun _ e => by cases e)) hT
      replace ER : Box ((w6.setCell ⟨w.heap.size + 1, 0, none⟩ (.bool g6)).setCell ⟨w.heap.size + 1, 1, none⟩ (.slice a6 z6.length c6)) (w.heap.size + 1) (.cells #[.bool g6, .slice a6 z6.length c6] 29) := ⟨Nat.lt_of_lt_of_le ER.lt hT.below.size, (heap_setCell_same _ _ 1 _ _ _ (heap_setCell_same _ _ 0 _ _ _ ER.what))⟩
      replace hB := hB.trans (hT.below.mono (by omega))
      clear hT
      clear hA
      go_wp2
      refine bodyPost_ret (v := .tuple #[.agg #[.bool g6, .slice a6 z6.length c6], .int .i64 0]) (by simp [results, Tryz.f59, go_sem, r0, r1]) rfl ?_
      exact ⟨_, _, _, _, rfl, S6.mono (by omega), N6, V6, b6, hB⟩
end Go.Proofs.YtejocefblpkdjabGreat
namespace Go.Proofs.YtejocefblpkdjabGreat
open Go.RowKit
end Go.Proofs.YtejocefblpkdjabGreat
namespace Go.Proofs.YtejocefblpkdjabGreat
open Go.RowKit
def wordsB (zs : List Int) : Bool := zs.all fun z => decide (0 ≤ z) && decide (z < 18446744073709551616)
theorem Seg.alloc {lo : Nat} {W : World} {sv : Value} {zs : List Int} (h : Seg lo W sv zs) (o : Obj) : Seg lo (W.alloc o) sv zs := h.below ((Below.refl _ _).alloc (Nat.le_refl _) o)
end Go.Proofs.YtejocefblpkdjabGreat
namespace Go.Proofs.YtejocefblpkdjabGreat
open Go.RowKit
open Go.RowKit
open Go.RowKit
open Go.RowKit
end Go.Proofs.YtejocefblpkdjabGreat
namespace Go.Proofs.YtejocefblpkdjabGreat
open Go.RowKit
theorem samew_any {lo lo' : Nat} {a c : Option Addr} {ca cc : Nat} {xs ys : List Int} {w : World} (b d : Bool) (h : Seg lo w (.slice a xs.length ca) xs) (h' : Seg lo' w (.slice c ys.length cc) ys) (hl : xs.length ≤ 10000) :
    Calls Tryz.prog 21 #[.agg #[.bool b, .slice a xs.length ca], .agg #[.bool d, .slice c ys.length cc]] w fun e w' => e = .returned (.bool (decide (b = d ∧ xs = ys))) ∧ Below w.heap.size w w' := by
  by_cases hh : b = d ∧ xs = ys
  · obtain ⟨rfl, rfl⟩ := hh
    rw [decide_eq_true ⟨rfl, rfl⟩]
    exact samew_yes b h h' hl
  · rw [decide_eq_false hh]
    exact samew_no b d h h' hl hh
theorem samen_any {lo lo' : Nat} {a c : Option Addr} {ca cc : Nat} {xs ys : List Int} {w : World} (h : Seg lo w (.slice a xs.length ca) xs) (h' : Seg lo' w (.slice c ys.length cc) ys) (hl : xs.length ≤ 10000) :
    Calls Tryz.prog 22 #[.slice a xs.length ca, .slice c ys.length cc] w fun e w' => e = .returned (.bool (decide (xs = ys))) ∧ Below w.heap.size w w' := by
  by_cases hh : xs = ys
  · subst hh
    rw [decide_eq_true rfl]
    exact same_yes h h' (by omega)
  · rw [decide_eq_false hh]
    exact same_no h h' (by omega) hh
set_option maxRecDepth 100000 in
set_option maxHeartbeats 4000000 in
theorem samer_any {lo lo2 : Nat} {a c p r : Option Addr} {ca cc cp cr : Nat} {xs ds ys es : List Int} {w : World} (b g : Bool) (FA : Fr lo w a ca xs c cc ds) (FB : Fr lo2 w p cp ys r cr es) (hl : xs.length ≤ 1000) (hl2 : ds.length ≤ 1000) :
    Calls Tryz.prog 10 #[.agg #[.bool b, .slice a xs.length ca, .slice c ds.length cc], .agg #[.bool g, .slice p ys.length cp, .slice r es.length cr]] w fun e w' => e = .returned (.bool (decide (b = g ∧ xs = ys ∧ ds = es))) ∧ Below w.heap.size w w' := by
  have hB := Below.refl w.heap.size w
  by_cases h1 : b = g ∧ xs = ys
  · have HW : Hid (decide (b = g ∧ xs = ys) = true) := decide_eq_true h1
    have hv : decide (b = g ∧ xs = ys ∧ ds = es) = decide (ds = es) := decide_eq_decide.2 ⟨fun h => h.2.2, fun h => ⟨h1.1, h1.2, h⟩⟩
    rw [hv]
    obtain ⟨v, hd⟩ : ∃ v, decide (ds = es) = v := ⟨_, rfl⟩
    rw [hd]
    have HD := hide hd
    clear hd hv h1
    go_enter Tryz.func10, Tryz.ntmps10
    have hA := Below.refl w.heap.size w
    have hq := below_new w (.cells #[.bool b, .slice a xs.length ca, .slice c ds.length cc] 31)
    replace FA := FA.below hq
    replace FB := FB.below hq
    have EA := Box.put (w := w) (k := (w.heap.size)) (.cells #[.bool b, .slice a xs.length ca, .slice c ds.length cc] 31) rfl
    replace hA := hA.trans (hq.mono hA.size)
    replace hB := hB.trans (hq.mono hB.size)
    clear hq
    have hq := below_new (w.alloc (.cells #[.bool b, .slice a xs.length ca, .slice c ds.length cc] 31)) (.cells #[.bool g, .slice p ys.length cp, .slice r es.length cr] 31)
    replace FA := FA.below hq
    replace FB := FB.below hq
    replace EA := EA.below hq
    have EB := Box.put (w := (w.alloc (.cells #[.bool b, .slice a xs.length ca, .slice c ds.length cc] 31))) (k := (w.heap.size + 1)) (.cells #[.bool g, .slice p ys.length cp, .slice r es.length cr] 31) (by simp)
    replace hA := hA.trans (hq.mono hA.size)
    replace hB := hB.trans (hq.mono hB.size)
    clear hq
    clear hA
    go_wp2_with fail
    obtain ⟨u1, hname⟩ := nm hB
    rw [hname] at hB FA FB EA EB ⊢
    have zh1 := hB.size
    clear hname
    have hk := samew_any b g FA.up FB.up (by omega)
    rw [HW.out] at hk
    refine (hk).mono ?_
    rintro e w2 ⟨rfl, hb⟩
    replace FA := FA.below hb
    replace FB := FB.below hb
    replace EA := EA.below hb
    replace EB := EB.below hb
    replace hB := hB.trans (hb.mono hB.size)
    have zz2 := hb.size
    have zh2 := hB.size
    clear hb
    clear hk
    obtain ⟨k0, k1, k2, f0, f1, f2⟩ := EA.three
    obtain ⟨k3, k4, k5, f3, f4, f5⟩ := EB.three
    go_wp2_with fail
    clear k0 k1 k2 f0 f1 f2 k3 k4 k5 f3 f4 f5
    have hk := samen_any FA.down FB.down (by omega)
    rw [HD.out] at hk
    refine (hk).mono ?_
    rintro e w3 ⟨rfl, hb⟩
    replace FA := FA.below hb
    replace FB := FB.below hb
    replace EA := EA.below hb
    replace EB := EB.below hb
    replace hB := hB.trans (hb.mono hB.size)
    have zz3 := hb.size
    have zh3 := hB.size
    clear hb
    clear hk
    obtain ⟨k0, k1, k2, f0, f1, f2⟩ := EA.three
    obtain ⟨k3, k4, k5, f3, f4, f5⟩ := EB.three
    go_wp2
    go_ret
    exact ⟨rfl, hB⟩
  · have HW : Hid (decide (b = g ∧ xs = ys) = false) := decide_eq_false h1
    rw [decide_eq_false (fun h => h1 ⟨h.1, h.2.1⟩)]
    clear h1
    go_enter Tryz.func10, Tryz.ntmps10
    have hA := Below.refl w.heap.size w
    have hq := below_new w (.cells #[.bool b, .slice a xs.length ca, .slice c ds.length cc] 31)
    replace FA := FA.below hq
    replace FB := FB.below hq
    have EA := Box.put (w := w) (k := (w.heap.size)) (.cells #[.bool b, .slice a xs.length ca, .slice c ds.length cc] 31) rfl
    replace hA := hA.trans (hq.mono hA.size)
    replace hB := hB.trans (hq.mono hB.size)
    clear hq
    have hq := below_new (w.alloc (.cells #[.bool b, .slice a xs.length ca, .slice c ds.length cc] 31)) (.cells #[.bool g, .slice p ys.length cp, .slice r es.length cr] 31)
    replace FA := FA.below hq
    replace FB := FB.below hq
    replace EA := EA.below hq
    have EB := Box.put (w := (w.alloc (.cells #[.bool b, .slice a xs.length ca, .slice c ds.length cc] 31))) (k := (w.heap.size + 1)) (.cells #[.bool g, .slice p ys.length cp, .slice r es.length cr] 31) (by simp)
    replace hA := hA.trans (hq.mono hA.size)
    replace hB := hB.trans (hq.mono hB.size)
    clear hq
    clear hA
    go_wp2_with fail
    obtain ⟨u1, hname⟩ := nm hB
    rw [hname] at hB FA FB EA EB ⊢
    have zh1 := hB.size
    clear hname
    have hk := samew_any b g FA.up FB.up (by omega)
    rw [HW.out] at hk
    refine (hk).mono ?_
    rintro e w2 ⟨rfl, hb⟩
    replace FA := FA.below hb
    replace FB := FB.below hb
    replace EA := EA.below hb
    replace EB := EB.below hb
    replace hB := hB.trans (hb.mono hB.size)
    have zz2 := hb.size
    have zh2 := hB.size
    clear hb
    clear hk
    obtain ⟨k0, k1, k2, f0, f1, f2⟩ := EA.three
    obtain ⟨k3, k4, k5, f3, f4, f5⟩ := EB.three
    go_wp2
    go_ret
    exact ⟨rfl, hB⟩
theorem samer_yes {lo lo2 : Nat} {a c p r : Option Addr} {ca cc cp cr : Nat} {xs ds : List Int} {w : World} (b : Bool) (FA : Fr lo w a ca xs c cc ds) (FB : Fr lo2 w p cp xs r cr ds) (hl : xs.length ≤ 1000) (hl2 : ds.length ≤ 1000) :
    Calls Tryz.prog 10 #[.agg #[.bool b, .slice a xs.length ca, .slice c ds.length cc], .agg #[.bool b, .slice p xs.length cp, .slice r ds.length cr]] w fun e w' => e = .returned (.bool true) ∧ Below w.heap.size w w' := by
  have h := samer_any b b FA FB hl hl2
  rw [decide_eq_true ⟨rfl, rfl, rfl⟩] at h
  exact h
theorem samer_is {lo lo2 : Nat} {a c p r : Option Addr} {ca cc cp cr : Nat} {xs ds ys es : List Int} {w : World} {b g : Bool} {q : Rat} {n m : Nat} (FA : Fr lo w a ca xs c cc ds) (FB : Fr lo2 w p cp ys r cr es) (IA : Is b xs ds q n) (IB : Is g ys es q m) (hn : n ≤ 1000) :
    Calls Tryz.prog 10 #[.agg #[.bool b, .slice a xs.length ca, .slice c ds.length cc], .agg #[.bool g, .slice p ys.length cp, .slice r es.length cr]] w fun e w' => e = .returned (.bool true) ∧ Below w.heap.size w w' := by
  have h := samer_any b g FA FB (Nat.le_trans IA.lu hn) (Nat.le_trans IA.ld hn)
  rw [decide_eq_true (lowL_unique FA.up.words FA.down.words FB.up.words FB.down.words IA.low IB.low (IA.rat.trans IB.rat.symm))] at h
  exact h
def BoxesStay (w w' : World) : Prop := ∀ (k : Nat) (cs : Array Value) (t : TypeId), NoWord cs → Box w k (.cells cs t (0, 0)) → Box w' k (.cells cs t (0, 0))
end Go.Proofs.YtejocefblpkdjabGreat
namespace Go.Proofs.YtejocefblpkdjabGreat
open Go.RowKit
end Go.Proofs.YtejocefblpkdjabGreat
namespace Go.Proofs.YtejocefblpkdjabGreat
open Go.RowKit
def OfSaid (x d : Int) (w : World) (e : Ending) (w' : World) : Prop := ∃ (g : Bool) (a : Option Addr) (ca : Nat) (xs : List Int) (c : Option Addr) (cc : Nat) (ds : List Int), e = .returned (.agg #[.bool g, .slice a xs.length ca, .slice c ds.length cc]) ∧ Fr w.heap.size w' a ca xs c cc ds ∧ Apart a c xs ds ∧ Canon g xs ∧ Norm ds ∧ Hid (sgn g (val xs) = x) ∧ Hid (val ds = d) ∧ xs.length ≤ 1 ∧ ds.length ≤ 1 ∧ Below w.heap.size w w'
structure GoodIs (v : Bool) (rs : List RV) : Prop where
  out : v = true ↔ ∀ r ∈ rs, formR r.b r.xs r.ds = 0
def longB (r : RV) : Bool := decide ((5 : Int) < (r.xs.length : Int) ∨ (5 : Int) < (r.ds.length : Int))
structure LongIs (v : Bool) (rs : List RV) : Prop where
  out : v = true ↔ 6 < rs.length ∨ ∃ r ∈ rs.take 7, longB r = true
end Go.Proofs.YtejocefblpkdjabGreat
namespace Go.Proofs.YtejocefblpkdjabGreat
open Go.RowKit
end Go.Proofs.YtejocefblpkdjabGreat
namespace Go.Proofs.YtejocefblpkdjabGreat
open Go.RowKit
theorem mp_of {P G : Prop} (f : P → G) (p : P) : G := f p
def absR (q : Rat) : Rat := if q < 0 then -q else q
theorem roundN_zero {d : Int} (hd : 0 < d) : roundN 0 d = 0 := by
  unfold roundN
  rw [Int.zero_emod, Int.zero_ediv, if_neg]
  rintro (h | ⟨h, _⟩) <;> omega
def rndQ (q : Rat) : Int := if q.num < 0 then -roundN (-q.num) q.den else roundN q.num q.den
theorem mul_le_cancel {a b c : Int} (hc : 0 < c) (h : a * c ≤ b * c) : a ≤ b := Int.le_of_mul_le_mul_right h hc
theorem roundN_congr {u d v e : Int} (hd : 0 < d) (he : 0 < e) (h : u * e = v * d) : roundN u d = roundN v e := by
  obtain ⟨h1, h2, h3⟩ := roundN_near (n := u) hd
  generalize roundN u d = R at *
  have key : (v - R * e) * d = (u - R * d) * e := by
    rw [Int.sub_mul, Int.sub_mul, h, Int.mul_assoc, Int.mul_assoc, Int.mul_comm e d]
  refine roundN_unique he (mul_le_cancel hd ?_) (mul_le_cancel hd ?_) (fun h' => h3 ?_)
  · have := Int.mul_le_mul_of_nonneg_right h1 (Int.le_of_lt he)
    rw [Int.mul_assoc, ← key] at this
    rw [Int.mul_assoc]
    rw [Int.neg_mul] at this ⊢
    rw [Int.mul_comm e d]
    exact this
  · have := Int.mul_le_mul_of_nonneg_right h2 (Int.le_of_lt he)
    rw [Int.mul_assoc, ← key] at this
    rw [Int.mul_assoc, Int.mul_comm e d]
    exact this
  · rcases h' with h' | h'
    · left
      have : 2 * (u - R * d) * e = d * e := by rw [Int.mul_assoc, ← key, ← Int.mul_assoc, h', Int.mul_comm]
      exact Int.eq_of_mul_eq_mul_right (by omega) this
    · right
      have : 2 * (u - R * d) * e = -d * e := by rw [Int.mul_assoc, ← key, ← Int.mul_assoc, h', Int.neg_mul, Int.neg_mul, Int.mul_comm]
      exact Int.eq_of_mul_eq_mul_right (by omega) this
theorem rat_split (q : Rat) : Rat.divInt q.num q.den = q ∧ (0 : Int) < q.den := ⟨Rat.num_divInt_den q, by have := q.den_pos; omega⟩
theorem rndQ_div {u d : Int} (hd : 0 < d) (hu : 0 ≤ u) : rndQ (Rat.divInt u d) = roundN u d := by
  obtain ⟨e, he⟩ := rat_split (Rat.divInt u d)
  have e' := (divInt_eq_iff he hd).1 e
  unfold rndQ
  generalize (Rat.divInt u d).num = n at *
  generalize ((Rat.divInt u d).den : Int) = m at *
  have h0 : 0 ≤ n * d := by rw [e']; exact Int.mul_nonneg hu (by omega)
  have hn : ¬ n < 0 := fun h => by have := Int.mul_neg_of_neg_of_pos h hd; omega
  rw [if_neg hn]
  exact roundN_congr he hd e'
theorem rndQ_neg {u d : Int} (hd : 0 < d) (hu : 0 < u) : rndQ (Rat.divInt (-u) d) = -roundN u d := by
  obtain ⟨e, he⟩ := rat_split (Rat.divInt (-u) d)
  have e' := (divInt_eq_iff he hd).1 e
  unfold rndQ
  generalize (Rat.divInt (-u) d).num = n at *
  generalize ((Rat.divInt (-u) d).den : Int) = m at *
  have h0 : n * d < 0 := by rw [e', Int.neg_mul]; have := Int.mul_pos hu he; omega
  have hn : n < 0 := by
    rcases Int.lt_or_le n 0 with h | h
    · exact h
    · have := Int.mul_nonneg h (Int.le_of_lt hd); omega
  rw [if_pos hn]
  congr 1
  refine roundN_congr he hd ?_
  rw [Int.neg_mul, e', Int.neg_mul, Int.neg_neg]
theorem Is.rnd {b : Bool} {xs ds : List Int} {q : Rat} {n : Nat} (h : Is b xs ds q n) (wx : Words xs) : sgn b (roundN (val xs) (val ds)) = rndQ q := by
  have hd := h.low.2.2.1
  have hx := val_nonneg wx
  rw [← h.rat, ratL]
  cases b
  · simp only [sgn, Bool.false_eq_true, if_false]
    exact (rndQ_div hd hx).symm
  · simp only [sgn, if_true]
    rcases Int.lt_or_eq_of_le hx with h' | h'
    · exact (rndQ_neg hd h').symm
    · rw [← h', show (-0 : Int) = 0 from rfl, rndQ_div hd (Int.le_refl _), roundN_zero hd]; rfl
theorem roundN_ge {u d m : Int} (hd : 0 < d) (h : m * d ≤ u) : m ≤ roundN u d := by
  obtain ⟨h1, h2, _⟩ := roundN_near (n := u) hd
  generalize roundN u d = R at *
  rcases Int.lt_or_le R m with h' | h'
  · exfalso
    have := Int.mul_le_mul_of_nonneg_right (show R + 1 ≤ m by omega) (Int.le_of_lt hd)
    rw [Int.add_mul] at this
    generalize R * d = P at *
    generalize m * d = Q at *
    omega
  · exact h'
def idQ (k d : Int) : Rat := if d = 1 then Rat.divInt 1 k else Rat.divInt 1 (d * (d - 1))
def shQ (m : Int) (q : Rat) (d : Int) : Rat := if d < m then Rat.divInt 1 (d * m) else if d = m then q else Rat.divInt 0 1
def wtQ (s : Int) (q : Rat) : Int := rndQ (Rat.divInt s 1 * q)
def wts (s : Int) (f : Int → Rat) : Nat → List Int
  | 0 => []
  | k + 1 => wts s f k ++ [wtQ s (f ((k : Int) + 1))]
def sumI : List Int → Int
  | [] => 0
  | x :: xs => x + sumI xs
theorem sumI_snoc (xs : List Int) (x : Int) : sumI (xs ++ [x]) = sumI xs + x := by
  induction xs with
  | nil => simp [sumI]
  | cons y ys ih => simp only [List.cons_append, sumI, ih]; omega
theorem wts_len (s : Int) (f : Int → Rat) (k : Nat) : (wts s f k).length = k := by
  induction k with
  | zero => rfl
  | succ k ih => rw [wts, List.length_append, ih]; rfl
theorem wts_get (s : Int) (f : Int → Rat) {k j : Nat} (h : j < k) : (wts s f k)[j]?.getD 0 = wtQ s (f ((j : Int) + 1)) := by
  induction k with
  | zero => omega
  | succ k ih =>
    rw [wts]
    by_cases hj : j < k
    · rw [List.getElem?_append_left (by rw [wts_len]; exact hj)]; exact ih hj
    · obtain rfl : j = k := by omega
      rw [List.getElem?_append_right (by rw [wts_len]; exact Nat.le_refl _), wts_len]; simp
theorem wts_mem (s : Int) (f : Int → Rat) {k : Nat} {z : Int} (h : z ∈ wts s f k) : ∃ j : Nat, j < k ∧ z = wtQ s (f ((j : Int) + 1)) := by
  obtain ⟨j, hj, e⟩ := List.getElem_of_mem h
  rw [wts_len] at hj
  refine ⟨j, hj, ?_⟩
  rw [← wts_get s f hj, List.getElem?_eq_getElem (by rw [wts_len]; exact hj), e]; rfl
def MayT (zs : List Int) (k : Int) : Prop := 1 ≤ k ∧ k ≤ 65536 ∧ 1 ≤ zs.length ∧ (zs.length : Int) ≤ k ∧ (∀ z ∈ zs, 0 ≤ z ∧ z ≤ 16777215) ∧ ∃ z ∈ zs, 0 < z
def totT (zs : List Int) : Int := zs.foldl (fun s z => wrap64 (s + z)) 0
def chkT (zs : List Int) (k : Int) : Int := if 1 ≤ k ∧ k ≤ 65536 ∧ 1 ≤ zs.length ∧ (zs.length : Int) ≤ k ∧ (∀ z ∈ zs, 0 ≤ z ∧ z ≤ 16777215) ∧ ∃ z ∈ zs, 0 < z then 0 else 13
theorem chkT_yes {zs : List Int} {k : Int} (h : MayT zs k) : chkT zs k = 0 := if_pos h
theorem chkT_no {zs : List Int} {k : Int} (h : ¬ MayT zs k) : chkT zs k = 13 := if_neg h
theorem chkT_iff {zs : List Int} {k : Int} : chkT zs k = 0 ↔ MayT zs k := by
  by_cases h : MayT zs k
  · simp [chkT_yes h, h]
  · simp [chkT_no h, h]
def tblS (zs : List Int) : List Int × Int := if (∀ z ∈ zs, z ≤ 16777215) ∧ ∃ z ∈ zs, 0 < z then (zs, 0) else ([], 13)
theorem tblS_yes {zs : List Int} (h1 : ∀ z ∈ zs, z ≤ 16777215) (h2 : ∃ z ∈ zs, 0 < z) : tblS zs = (zs, 0) := if_pos ⟨h1, h2⟩
theorem tblS_big {zs : List Int} (h : ∃ z ∈ zs, 16777215 < z) : tblS zs = ([], 13) := if_neg (fun h' => by
  obtain ⟨z, hz, h0⟩ := h
  have := h'.1 z hz
  omega)
theorem tblS_none {zs : List Int} (h : ∀ z ∈ zs, z ≤ 0) : tblS zs = ([], 13) := if_neg (fun h' => by
  obtain ⟨z, hz, h0⟩ := h'.2
  have := h z hz
  omega)
theorem totT_snoc (zs : List Int) (x : Int) : totT (zs ++ [x]) = wrap64 (totT zs + x) := by unfold totT; rw [List.foldl_append]; rfl
theorem sumI_bound : ∀ {zs : List Int}, (∀ z ∈ zs, 0 ≤ z ∧ z ≤ 16777215) → 0 ≤ sumI zs ∧ sumI zs ≤ 16777215 * zs.length
  | [], _ => by simp [sumI]
  | x :: xs, h => by
    have h1 := h x List.mem_cons_self
    have h2 := sumI_bound (zs := xs) (fun z hz => h z (List.mem_cons_of_mem _ hz))
    simp only [sumI, List.length_cons]
    omega
theorem fold_sum : ∀ (zs : List Int) (a : Int), (∀ z ∈ zs, 0 ≤ z ∧ z ≤ 16777215) → 0 ≤ a → a + 16777215 * zs.length < 9223372036854775808 → zs.foldl (fun s z => wrap64 (s + z)) a = a + sumI zs
  | [], a, _, _, _ => by simp [sumI]
  | x :: xs, a, h, h0, hb => by
    have h1 := h x List.mem_cons_self
    simp only [List.length_cons] at hb
    have e : wrap64 (a + x) = a + x := by unfold wrap64; omega
    rw [List.foldl_cons, e, fold_sum xs (a + x) (fun z hz => h z (List.mem_cons_of_mem _ hz)) (by omega) (by omega)]
    simp only [sumI]
    omega
theorem totT_sum {zs : List Int} (h : ∀ z ∈ zs, 0 ≤ z ∧ z ≤ 16777215) (hl : zs.length ≤ 65536) : totT zs = sumI zs := by
  unfold totT
  rw [fold_sum zs 0 h (Int.le_refl _) (by omega)]
  omega
theorem sumI_zero : ∀ {zs : List Int}, (∀ z ∈ zs, 0 ≤ z) → (sumI zs = 0 ↔ ∀ z ∈ zs, z ≤ 0)
  | [], _ => by simp [sumI]
  | x :: xs, h => by
    have h1 := h x List.mem_cons_self
    have h2 := sumI_zero (zs := xs) (fun z hz => h z (List.mem_cons_of_mem _ hz))
    have h3 : 0 ≤ sumI xs := by
      clear h2
      have : ∀ {ys : List Int}, (∀ z ∈ ys, 0 ≤ z) → 0 ≤ sumI ys := by
        intro ys
        induction ys with
        | nil => intro _; simp [sumI]
        | cons y ys ih =>
          intro hy
          have g1 := hy y List.mem_cons_self
          have g2 := ih (fun z hz => hy z (List.mem_cons_of_mem _ hz))
          simp only [sumI]
          omega
      exact this (fun z hz => h z (List.mem_cons_of_mem _ hz))
    simp only [sumI, List.mem_cons, forall_eq_or_imp]
    constructor
    · intro e
      exact ⟨by omega, h2.1 (by omega)⟩
    · rintro ⟨g1, g2⟩
      have := h2.2 g2
      omega
theorem tblS_sum {zs : List Int} (h : ∀ z ∈ zs, 0 ≤ z ∧ z ≤ 16777215) (hl : zs.length ≤ 65536) : (totT zs = 0 → tblS zs = ([], 13)) ∧ (¬ totT zs = 0 → tblS zs = (zs, 0)) := by
  rw [totT_sum h hl]
  have h0 : ∀ z ∈ zs, 0 ≤ z := fun z hz => (h z hz).1
  refine ⟨fun e => tblS_none ((sumI_zero h0).1 e), fun e => tblS_yes (fun z hz => (h z hz).2) ?_⟩
  refine Classical.byContradiction fun hn => e ((sumI_zero h0).2 fun z hz => ?_)
  rcases Int.lt_or_le 0 z with g | g
  · exact absurd ⟨z, hz, g⟩ hn
  · exact g
end Go.Proofs.YtejocefblpkdjabGreat
namespace Go.Proofs.YtejocefblpkdjabGreat
open Go.RowKit
open Go.RowKit
open Go.RowKit
open Go.RowKit
end Go.Proofs.YtejocefblpkdjabGreat
namespace Go.Proofs.YtejocefblpkdjabGreat
open Go.RowKit
def Yield.turn (f : Bool → Value → Value) (lo : Nat) (ys : List Int) (q : Rat) (n : Nat) : Yield := .rel (fun v W => ∃ (g : Bool) (a : Option Addr) (c : Nat) (z : List Int), v = f g (.slice a z.length c) ∧ Seg lo W (.slice a z.length c) z ∧ Is g z ys q n)
  (fun _ _ _ hb ⟨g, a, c, z, e, s, r⟩ => ⟨g, a, c, z, e, s.below hb, r⟩)
end Go.Proofs.YtejocefblpkdjabGreat
namespace Go.Proofs.YtejocefblpkdjabGreat
open Go.RowKit
end Go.Proofs.YtejocefblpkdjabGreat
namespace Go.Proofs.YtejocefblpkdjabGreat
open Go.RowKit
def FeSaid (q : Rat) (n : Nat) (w : World) (e : Ending) (w' : World) : Prop := ∃ (b' : Bool) (a' : Option Addr) (ca' : Nat) (ts' : List Int) (c' : Option Addr) (cc' : Nat) (es' : List Int), e = .returned (.tuple #[.agg #[.bool b', .slice a' ts'.length ca', .slice c' es'.length cc'], .int .i64 0]) ∧ Fr w.heap.size w' a' ca' ts' c' cc' es' ∧ Apart a' c' ts' es' ∧ Is b' ts' es' (q) (n) ∧ Below w.heap.size w w'
end Go.Proofs.YtejocefblpkdjabGreat
