/-
  Joined: KDoc3 RatQ KDoc4 KRound KFold.
-/
import Derived.Test.YtejocefblpkdjaaGreatJRatB
namespace Go.Proofs.YtejocefblpkdjaaGreat
open Go.RowKit
set_option maxRecDepth 100000 in
set_option maxHeartbeats 4000000 in
theorem kone_any (w : World) : Calls Tryz.prog 77 #[] w fun e w' => ∃ (a : Option Addr) (c : Nat) (z : List Int), e = .returned (.slice a z.length c) ∧ Seg w.heap.size w' (.slice a z.length c) z ∧ Norm z ∧ val z = 1 ∧ z.length ≤ 1 ∧ Below w.heap.size w w' := by
  have s := seg_lit w [1] (words_of rfl)
  have hb : Below w.heap.size w (w.alloc (.cells #[.int .u64 1] 78)) := (Below.refl _ w).a1 _
  go_enter Tryz.func77, Tryz.ntmps77
  go_wp2
  go_ret
  exact ⟨_, _, [1], rfl, s, Or.inr (by decide), by decide, by decide, hb⟩
set_option maxRecDepth 100000 in
set_option maxHeartbeats 1000000 in
theorem kcheck_any {lo : Nat} {a c : Option Addr} {ca cc : Nat} {xs ds : List Int} {w : World} (b : Bool) (h : Fr lo w a ca xs c cc ds) (hl : xs.length ≤ 1000) (hl' : ds.length ≤ 1000) :
    Calls Tryz.prog 45 #[.agg #[.bool b, .slice a xs.length ca, .slice c ds.length cc]] w fun e w' => e = .returned (.int .i64 (formR b xs ds)) ∧ Below w.heap.size w w' := by
  have hB0 : Below w.heap.size w (w.alloc (.cells #[.bool b, .slice a xs.length ca, .slice c ds.length cc] 27)) := (Below.refl _ w).alloc (Nat.le_refl _) _
  have E := Box.new w (.cells #[.bool b, .slice a xs.length ca, .slice c ds.length cc] 27)
  have hck := icheck_any b (h.up.below hB0) (by omega)
  obtain ⟨f, hf⟩ : ∃ f, formI b xs = f := ⟨_, rfl⟩
  have HR : Hid (formR b xs ds = if f = 0 ∧ formOf ds = 0 ∧ ds ≠ [] ∧ gcdI (val xs) (val ds) = 1 then 0 else 6) := by rw [Hid, ← hf]; rfl
  rw [hf] at hck
  clear hf
  go_enter Tryz.func45, Tryz.ntmps45
  go_wp2_with fail
  refine hck.mono ?_
  rintro e w1 ⟨rfl, hb1⟩
  have E1 := E.below hb1
  have hB1 := hB0.trans (hb1.mono hB0.size)
  obtain ⟨k0, k1, k2, _⟩ := E1.three
  clear hck
  by_cases h0 : f = 0
  · subst h0
    have hc := (rcheck_any (h.down.below hB1) (by omega)).mono (fun e w' k => (⟨k.1, k.2 ▸ Below.refl _ _⟩ : _ ∧ Below w1.heap.size w1 w'))
    obtain ⟨g, hg⟩ : ∃ g, formOf ds = g := ⟨_, rfl⟩
    rw [hg] at hc
    have HG := hide hg
    clear hg
    go_wp2_with fail
    refine hc.mono ?_
    rintro e w2 ⟨rfl, hb2⟩
    have E2 := E1.below hb2
    have hB2 := hB1.trans (hb2.mono hB1.size)
    clear hc k0 k1 k2
    obtain ⟨k0, k1, k2, _⟩ := E2.three
    by_cases h1 : g = 0
    · subst h1
      by_cases h2 : ds = []
      · subst h2
        go_wp2
        go_ret
        exact ⟨ret_int (by rw [HR.out, if_neg (by simp)]), hB2⟩
      · have hz : ((ds.length : Int) == 0) = false := beq_eq_false_iff_ne.2 (by have := List.length_pos_iff.2 h2; omega)
        have hgc := rgcd_any (h.up.below hB2) (h.down.below hB2) (by omega) (by omega)
        have hlt := val_lt h.down.words
        have hp : 0 < val ds := norm_pos h.down.words (formOf_norm.1 HG.out) h2
        have hgl : gcdI (val xs) (val ds) ≤ val ds := by
          rw [gcdI_gcd (val_nonneg h.up.words) (by omega)]
          exact Int.le_of_dvd hp (Int.gcd_dvd_right ..)
        have H2 := hide h2
        clear h2 hp
        go_wp2_with fail
        refine hgc.mono ?_
        rintro e w3 ⟨a3, c3, gs, rfl, hs3, n3, v3, hl3, hb3⟩
        have hB3 := hB2.trans (hb3.mono hB2.size)
        have V3 := hide v3
        clear hgc v3 k0 k1 k2 hlt hgl
        go_wp2_with fail
        refine (kone_any _).mono ?_
        rintro e w4 ⟨a4, c4, os, rfl, hs4, n4, v4, hl4, hb4⟩
        have hB4 := hB3.trans (hb4.mono hB3.size)
        have hcm := (rcmp_any (hs3.below hb4) hs4 (by omega) (by omega)).mono (fun e w' k => (⟨k.1, k.2 ▸ Below.refl _ _⟩ : _ ∧ Below w4.heap.size w4 w'))
        rw [v4] at hcm
        obtain ⟨x, hx⟩ : ∃ x, cmpI (val gs) 1 = x := ⟨_, rfl⟩
        rw [hx] at hcm
        have HX := hide hx
        clear hx v4
        go_wp2_with fail
        refine hcm.mono ?_
        rintro e w5 ⟨rfl, hb5⟩
        have hB5 := hB4.trans (hb5.mono hB4.size)
        clear hcm
        by_cases hx0 : x = 0
        · subst hx0
          have hg1 : val gs = 1 := by
            have := HX.out
            unfold cmpI at this
            split at this
            · omega
            · split at this <;> omega
          have HG1 := hide hg1
          clear hg1
          go_wp2
          go_ret
          refine ⟨ret_int ?_, hB5⟩
          rw [HR.out, if_pos ⟨by simp, HG.out, H2.out, by rw [← V3.out]; exact HG1.out⟩]
        · have hxn : (x != 0) = true := bne_iff_ne.2 hx0
          have HX0 := hide hx0
          clear hx0
          go_wp2
          go_ret
          refine ⟨ret_int ?_, hB5⟩
          rw [HR.out, if_neg]
          rintro ⟨_, _, _, h4⟩
          apply HX0.out
          rw [← HX.out, V3.out, h4, cmpI_eq]
    · have hne : (g != 0) = true := bne_iff_ne.2 h1
      have H1 := hide h1
      clear h1
      go_wp2
      go_ret
      exact ⟨ret_int (by rw [HR.out, if_neg (by rw [HG.out]; rintro ⟨_, q, _⟩; exact H1.out q)]), hB2⟩
  · have hne : (f != 0) = true := bne_iff_ne.2 h0
    have H0 := hide h0
    clear h0
    go_wp2
    go_ret
    exact ⟨ret_int (by rw [HR.out, if_neg (by rintro ⟨q, _⟩; exact H0.out q)]), hB1⟩
set_option maxRecDepth 100000 in
set_option maxHeartbeats 2000000 in
theorem kfine_any {sv : Option Addr} {cap : Nat} {rs : List RV} {w : World} (R : Row 0 w sv rs) (hrl : rs.length ≤ 1000) (hlen : ∀ r ∈ rs, r.xs.length ≤ 1000 ∧ r.ds.length ≤ 1000) (v : Bool) (hv : GoodIs v rs) :
    Calls Tryz.prog 78 #[.slice sv rs.length cap] w fun e w' => e = .returned (.bool v) ∧ Below w.heap.size w w' := by
  go_enter Tryz.func78, Tryz.ntmps78
  go_wp2
  go_loopw [3] (fun iv wr => ∃ (i : Nat), iv = .int .i64 i ∧ i ≤ rs.length ∧ Row 0 wr sv rs ∧ Below w.heap.size w wr ∧ Hid (∀ r ∈ rs.take i, formR r.b r.xs r.ds = 0)) (fun iv _ => rs.length - (intOf iv).toNat)
  case atStart => exact ⟨0, rfl, Nat.zero_le _, R, Below.refl _ _, by rw [Hid]; simp⟩
  case round =>
    clear R
    obtain ⟨i, rfl, hi, R, hB, HG⟩ := hrel
    have hw1 : IntKind.i64.wrap ((i : Int) + 1) = (i : Int) + 1 := by rw [IntKind.wrap_i64]; omega
    by_cases hlt : i < rs.length
    · have hlt2 : (i : Int) < (rs.length : Int) := by omega
      have hge : ¬ (i : Int) < 0 := by omega
      obtain ⟨g, o, rfl, hg⟩ := R.at_ i hlt
      obtain ⟨r, hr0⟩ : ∃ r, rs[i]? = some r := ⟨rs[i], List.getElem?_eq_getElem hlt⟩
      have hr := hide hr0
      have F1 := R.held i r hr0
      clear hr0
      have hlr := hlen r (List.mem_of_getElem? hr.out)
      have hcc := R.cells g o i r rfl hr.out
      have c0 := hcc.1
      have c1 := hcc.2.1
      have c2 := hcc.2.2
      have hk := kcheck_any r.b F1 (by omega) (by omega)
      have hms : rs.length - (i + 1) < rs.length - i := by omega
      clear hcc
      rcases formR_or r.b r.xs r.ds with h | h
      · rw [h] at hk
        have H := hide h
        clear h
        go_wp2_with fail
        refine hk.mono ?_
        rintro e w1 ⟨rfl, hb1⟩
        have R1 := R.below hb1
        have hB1 := hB.trans (hb1.mono hB.size)
        clear hk c0 c1 c2
        go_wp2
        refine ⟨⟨i + 1, by simp, by omega, R1, hB1, ?_⟩, by simpa [intOf] using hms⟩
        rw [Hid]
        intro s hs
        rw [List.take_add_one, hr.out] at hs
        simp only [Option.toList_some, List.mem_append, List.mem_singleton] at hs
        rcases hs with hs | rfl
        · exact HG.out s hs
        · exact H.out
      · rw [h] at hk
        obtain rfl : v = false := by
          cases v
          · rfl
          · have := hv.out.1 rfl r (List.mem_of_getElem? hr.out)
            rw [h] at this
            exact absurd this (by decide)
        clear h
        go_wp2_with fail
        refine hk.mono ?_
        rintro e w1 ⟨rfl, hb1⟩
        have hB1 := hB.trans (hb1.mono hB.size)
        clear hk c0 c1 c2
        go_wp2
        go_ret
        exact ⟨rfl, hB1⟩
    · have hnl : ¬ (i : Int) < (rs.length : Int) := by omega
      obtain rfl : v = true := hv.out.2 (by have := HG.out; rw [List.take_of_length_le (by omega)] at this; exact this)
      go_wp2
      go_ret
      exact ⟨rfl, hB⟩
theorem good_yes (rs : List RV) (h : ∀ r ∈ rs, formR r.b r.xs r.ds = 0) : GoodIs true rs := ⟨⟨fun _ => h, fun _ => rfl⟩⟩
def Yield.turn (f : Bool → Value → Value) (lo : Nat) (ys : List Int) (q : Rat) (n : Nat) : Yield := .rel (fun v W => ∃ (g : Bool) (a : Option Addr) (c : Nat) (z : List Int), v = f g (.slice a z.length c) ∧ Seg lo W (.slice a z.length c) z ∧ Is g z ys q n)
  (fun _ _ _ hb ⟨g, a, c, z, e, s, r⟩ => ⟨g, a, c, z, e, s.below hb, r⟩)
theorem rcmp_bel {lo lo' : Nat} {a b : Option Addr} {ca cb : Nat} {xs ys : List Int} {w : World} (ha : Seg lo w (.slice a xs.length ca) xs) (hb : Seg lo' w (.slice b ys.length cb) ys) (hla : xs.length ≤ 10000) (hlb : ys.length ≤ 10000) :
    Calls Tryz.prog 75 #[.slice a xs.length ca, .slice b ys.length cb] w fun e w' => e = .returned (.int .i64 (cmpI (val xs) (val ys))) ∧ Below w.heap.size w w' :=
  (rcmp_any ha hb hla hlb).mono (fun _ _ k => ⟨k.1, k.2 ▸ Below.refl _ _⟩)
set_option maxRecDepth 100000 in
set_option maxHeartbeats 4000000 in
theorem kround_ok {lo : Nat} {a c : Option Addr} {ca cc : Nat} {xs ds : List Int} {w : World} (b : Bool) (FA : Fr lo w a ca xs c cc ds) {n : Nat} {q : Rat} (IA : Is b xs ds q n) (hn : n ≤ 400) :
    Calls Tryz.prog 64 #[.agg #[.bool b, .slice a xs.length ca, .slice c ds.length cc]] w fun e w' => ∃ (b' : Bool) (a' : Option Addr) (cap' : Nat) (ts : List Int), e = .returned (.tuple #[.agg #[.bool b', .slice a' ts.length cap'], .int .i64 0]) ∧ Seg w.heap.size w' (.slice a' ts.length cap') ts ∧ Canon b' ts ∧ Hid (sgn b' (val ts) = sgn b (roundN (val xs) (val ds))) ∧ ts.length ≤ n + 2 ∧ Below w.heap.size w w' := by
  have lxa := IA.lu
  have lda := IA.ld
  have pd := IA.low.2.2.1
  have px := val_nonneg FA.up.words
  have hlen0 : Hid (∀ x ∈ ([⟨b, a, ca, xs, c, cc, ds⟩] : List RV), x.xs.length ≤ 1000 ∧ x.ds.length ≤ 1000) := fun x hx => by
    simp only [List.mem_cons, List.not_mem_nil, or_false] at hx
    subst hx
    constructor <;> simp <;> omega
  have HG := good_yes [⟨b, a, ca, xs, c, cc, ds⟩] (fun x hx => by
    simp only [List.mem_cons, List.not_mem_nil, or_false] at hx
    subst hx
    exact (formR_low FA.up.words FA.down.words).2 IA.low)
  have hB := Below.refl w.heap.size w
  go_enter Tryz.func64, Tryz.ntmps64
  have hs0 := Nat.le_refl w.heap.size
  have hq := below_new w (.cells #[.bool b, .slice a xs.length ca, .slice c ds.length cc] 27)
  replace FA := FA.below hq
  have EA := Box.put (w := w) (k := (w.heap.size)) (.cells #[.bool b, .slice a xs.length ca, .slice c ds.length cc] 27) rfl
  replace hs0 := Nat.le_trans hs0 hq.size
  replace hB := hB.trans (hq.mono hB.size)
  clear hq
  have hq := below_new (w.alloc (.cells #[.bool b, .slice a xs.length ca, .slice c ds.length cc] 27)) (.cells #[.bool false, .slice none 0 0] 25)
  replace FA := FA.below hq
  replace EA := EA.below hq
  have ER := Box.put (w := (w.alloc (.cells #[.bool b, .slice a xs.length ca, .slice c ds.length cc] 27))) (k := (w.heap.size + 1)) (.cells #[.bool false, .slice none 0 0] 25) (by simp)
  replace hs0 := Nat.le_trans hs0 hq.size
  replace hB := hB.trans (hq.mono hB.size)
  clear hq
  have hq := below_new ((w.alloc (.cells #[.bool b, .slice a xs.length ca, .slice c ds.length cc] 27)).alloc (.cells #[.bool false, .slice none 0 0] 25)) (.cells #[.bool b, .slice a xs.length ca, .slice c ds.length cc] 27)
  replace FA := FA.below hq
  replace EA := EA.below hq
  replace ER := ER.below hq
  have LF := Box.put (w := ((w.alloc (.cells #[.bool b, .slice a xs.length ca, .slice c ds.length cc] 27)).alloc (.cells #[.bool false, .slice none 0 0] 25))) (k := (w.heap.size + 2)) (.cells #[.bool b, .slice a xs.length ca, .slice c ds.length cc] 27) (by simp)
  replace hs0 := Nat.le_trans hs0 hq.size
  replace hB := hB.trans (hq.mono hB.size)
  clear hq
  go_wp2_with fail
  obtain ⟨u1, hname⟩ := nm hB
  rw [hname] at hs0 hB FA EA ER LF ⊢
  have zh1 := hB.size
  have zs1 := hs0
  clear hname hs0
  have R := row_box (rs := [⟨b, a, ca, xs, c, cc, ds⟩]) (k := w.heap.size + 2) LF (fun r hr => by
      simp only [List.mem_cons, List.not_mem_nil, or_false] at hr
      rcases hr with rfl
      · exact FA.mono (Nat.zero_le _))
  refine (kfine_any (cap := 1) R (by simp) hlen0.out true HG).mono ?_
  rintro e w2 ⟨rfl, hb⟩
  replace FA := FA.below hb
  replace EA := EA.below hb
  replace ER := ER.below hb
  replace LF := LF.below hb
  replace hB := hB.trans (hb.mono hB.size)
  have zz2 := hb.size
  have zh2 := hB.size
  clear hb
  clear R
  clear LF
  obtain ⟨k0, k1, k2, f0, f1, f2⟩ := EA.three
  obtain ⟨k3, k4, f3, f4⟩ := ER.two
  go_wp2_with fail
  clear k0 k1 k2 f0 f1 f2 k3 k4 f3 f4
  have hk := rdiv_all FA.up FA.down (by omega) (by omega)
  rw [errZ_pos pd, remZ_pos _ pd] at hk
  refine (hk).mono ?_
  rintro e w3 ⟨a1, a2, c1, c2, z1, z2, rfl, S1, S2, N1, N2, v1, v2, hb⟩
  have b1 : z1.length ≤ n := Nat.le_trans (len_below S1.words N1 (by rw [v1]; exact Int.lt_of_le_of_lt (Int.ediv_le_self _ px) (val_lt FA.up.words))) lxa
  have b2 : z2.length ≤ n := Nat.le_trans (len_below S2.words N2 (by have := val_lt FA.down.words; have := Int.emod_lt_of_pos (val xs) pd; rw [v2]; omega)) lda
  have V1 := hide v1
  have V2 := hide v2
  clear v1 v2
  replace FA := FA.below hb
  replace EA := EA.below hb
  replace ER := ER.below hb
  replace hB := hB.trans (hb.mono hB.size)
  have zz3 := hb.size
  have zh3 := hB.size
  clear hb
  clear hk
  obtain ⟨cv, hcv⟩ : ∃ cv, cmpI (val z2 + val z2) (val ds) = cv := ⟨_, rfl⟩
  have HC := hide hcv
  clear hcv
  obtain ⟨k0, k1, k2, f0, f1, f2⟩ := EA.three
  obtain ⟨k3, k4, f3, f4⟩ := ER.two
  go_wp2_with fail
  clear k0 k1 k2 f0 f1 f2 k3 k4 f3 f4
  replace FA := FA.drew
  have qEA := EA.lt
  replace EA := EA.drew
  have qER := ER.lt
  replace ER := ER.drew
  replace S1 := S1.drew
  replace S2 := S2.drew
  refine wp_yields 6 [.is (.slice a2 z2.length c2), .is (.slice a2 z2.length c2), (Yield.nat w3.heap.size (val z2 + val z2) (n + 1)), .is (.pointer (some ⟨w.heap.size, 2, none⟩)), .is (.slice c ds.length cc), (.is (.int .i64 cv))] (by kernel_rfl) (by kernel_rfl) (lt_cons ?_ (lt_cons ?_ (lt_cons ?_ (lt_cons ?_ (lt_cons ?_ (lt_cons ?_ lt_nil)))))) ?_
  case refine_1 =>
    refine OpDoes.mk rfl ?_
    intro vs V hV hd K hK
    have hh := fun (P : Prop) => Yield.nat_elim P (show ((Yield.nat w3.heap.size (val z2 + val z2) (n + 1)) : Yield).At (vs 2) V from hd 2 (by decide) (by kernel_rfl))
    refine hh _ ?_
    intro a3 c3 z3 d2 S3 N3 V3 b3
    clear hh
    have d4 : vs 4 = .slice c ds.length cc := hd 4 (by decide) (by kernel_rfl)
    simp only [laidIn, lz1, lz2, lz3, lz4, lz5, lz6, if_true, Act.put, lz7, lz8, lz9] at hK ⊢
    simp only [d2, d4] at hK ⊢
    go_simp
    go_at_call 75
    have hc := rcmp_bel S3 (FA.down.below hV) (by omega) (by omega)
    rw [V3.out, HC.out] at hc
    refine (hc).mono ?_
    rintro e V' ⟨rfl, hb⟩
    exact hK.out _ _ hb rfl (not_fresh rfl)
  case refine_2 =>
    refine OpDoes.mk rfl ?_
    intro vs V hV hd K hK
    have d3 : vs 3 = .pointer (some ⟨w.heap.size, 2, none⟩) := hd 3 (by decide) (by kernel_rfl)
    have hcc := (EA.below hV).three
    have k0 := hcc.1
    have k1 := hcc.2.1
    have k2 := hcc.2.2.1
    clear hcc
    simp only [laidIn, lz1, lz2, lz3, lz4, lz5, lz6, if_true, Act.put, lz7, lz8, lz9] at hK ⊢
    simp only [d3] at hK ⊢
    go_simp
    exact hK.out _ _ (Below.refl _ _) rfl (not_fresh rfl)
  case refine_3 =>
    refine OpDoes.mk rfl ?_
    intro vs V hV hd K hK
    simp only [laidIn, lz1, lz2, lz3, lz4, lz5, lz6, if_true, Act.put, lz7, lz8, lz9] at hK ⊢
    go_simp
    exact hK.out _ _ (Below.refl _ _) rfl (not_fresh rfl)
  case refine_4 =>
    refine OpDoes.mk rfl ?_
    intro vs V hV hd K hK
    have d0 : vs 0 = .slice a2 z2.length c2 := hd 0 (by decide) (by kernel_rfl)
    have d1 : vs 1 = .slice a2 z2.length c2 := hd 1 (by decide) (by kernel_rfl)
    simp only [laidIn, lz1, lz2, lz3, lz4, lz5, lz6, if_true, Act.put, lz7, lz8, lz9] at hK ⊢
    simp only [d0, d1] at hK ⊢
    go_simp
    go_at_call 101
    refine (radd_any (S2.below hV) (S2.below hV) (by omega) (by omega)).mono ?_
    rintro e V' ⟨a3, c3, z3, rfl, S3, N3, v3, l3, hb⟩
    have V3 : Hid (val z3 = val z2 + val z2) := v3
    have b3 : z3.length ≤ n + 1 := by omega
    clear v3 l3
    exact hK.out _ _ hb ⟨_, _, _, rfl, S3.mono hV.size, N3, V3, b3⟩ (not_fresh rfl)
  case refine_5 =>
    refine OpDoes.mk rfl ?_
    intro vs V hV hd K hK
    simp only [laidIn, lz1, lz2, lz3, lz4, lz5, lz6, if_true, Act.put, lz7, lz8, lz9] at hK ⊢
    go_simp
    exact hK.out _ _ (Below.refl _ _) rfl (not_fresh rfl)
  case refine_6 =>
    refine OpDoes.mk rfl ?_
    intro vs V hV hd K hK
    simp only [laidIn, lz1, lz2, lz4, lz5, lz6, if_true, Act.put, lz7, lz8, lz9] at hK ⊢
    go_simp
    exact hK.out _ _ (Below.refl _ _) rfl (not_fresh rfl)
  case refine_7 =>
    intro vs Y1 hV hR hne fuel
    have d0 : vs 0 = .slice a2 z2.length c2 := hR 0 (by decide)
    have d1 : vs 1 = .slice a2 z2.length c2 := hR 1 (by decide)
    have hh := fun (P : Prop) => Yield.nat_elim P (show ((Yield.nat w3.heap.size (val z2 + val z2) (n + 1)) : Yield).At (vs 2) Y1 from hR 2 (by decide))
    refine hh _ ?_
    intro a3 c3 z3 d2 S3 N3 V3 b3
    clear hh
    have d3 : vs 3 = .pointer (some ⟨w.heap.size, 2, none⟩) := hR 3 (by decide)
    have d4 : vs 4 = .slice c ds.length cc := hR 4 (by decide)
    have d5 : vs 5 = .int .i64 cv := hR 5 (by decide)
    replace FA := FA.below hV
    replace EA := EA.below hV
    replace ER := ER.below hV
    replace S1 := S1.below hV
    replace S2 := S2.below hV
    have hr := hV
    simp only [laidIn, lz4, lz5, lz6, if_true, Act.put, lz7, lz8, lz9]
    simp only [d0, d1, d2, d3, d4, d5]
    clear hR hne hV d0 d1 d2 d3 d4 d5
    clear vs
    show wpAny _ _ _ _ (fuel + 1) _ _ _
    refine wpAny_all (rs := [6]) (by kernel_rfl) (by simp) (fun i hi => ?_)
    obtain rfl : i = 6 := by simpa using hi
    clear hi
    refine wpOp_step rfl (fun K hK => ?_)
    simp only [lz1, lz2, lz3]
    rw [if_pos (by rfl)]
    go_simp
    refine hK _ _ ?_
    clear hK
    refine wpAny_done (by kernel_rfl) ?_ _
    replace hB := hB.trans ((Below.trans (Below.drew (Below.refl w3.heap.size w3)) hr).mono hB.size)
    have zz3_0 := hr.size
    have zi1 := hB.size
    clear hr 
    clear S3 S2
    have hr := Int.emod_nonneg (val xs) (show val ds ≠ 0 by omega)
    rcases Int.lt_trichotomy (val z2 + val z2) (val ds) with hlt | heq | hgt
    · skip
      obtain rfl : cv = -1 := by rw [← HC.out]; exact cmpI_lt hlt
      have HR : Hid (roundN (val xs) (val ds) = val xs / val ds) := by rw [Hid, roundN, if_neg]; have := V2.out; omega
      clear hlt HC
      obtain ⟨k0, k1, k2, f0, f1, f2⟩ := EA.three
      obtain ⟨k3, k4, f3, f4⟩ := ER.two
      go_wp2_with fail
      clear k0 k1 k2 f0 f1 f2 k3 k4 f3 f4
      refine (imake_any S1 (by omega) b).mono ?_
      rintro e w4 ⟨g4, a4, c4, z4, rfl, S4, N4, v4, l4, hb⟩
      have V4 : Hid (sgn g4 (val z4) = sgn b (roundN (val xs) (val ds))) := by rw [Hid, v4, HR.out, V1.out]
      have b4 : z4.length ≤ n + 2 := by omega
      clear v4 l4
      replace FA := FA.below hb
      replace EA := EA.below hb
      replace ER := ER.below hb
      replace S1 := S1.below hb
      replace hB := hB.trans (hb.mono hB.size)
      have zz4 := hb.size
      have zh4 := hB.size
      clear hb
      obtain ⟨k0, k1, k2, f0, f1, f2⟩ := EA.three
      obtain ⟨k3, k4, f3, f4⟩ := ER.two
      have hcc := ER.two
      have r0 := hcc.1
      have r1 := hcc.2.1
      clear hcc
      have qEA := EA.lt
      have qER := ER.lt
      have hs0 := Nat.le_refl w4.heap.size
      have hT := (((Turns.refl (w.heap.size + 1) w4).setCell 0 (.bool g4)).setCell 1 (.slice a4 z4.length c4))
      replace FA := FA.beside ER (noWord2 (fun _ e => by cases e) (fun _ e => by cases e)) hT
      replace EA := EA.turns hT (by omega)
      replace S1 := S1.beside ER (noWord2 (fun _ e => by cases e) (fun _ e => by cases e)) hT
      replace S4 := S4.beside ER (noWord2 (fun _ e => by cases e) (fun _ e => by cases e)) hT
      replace ER : Box ((w4.setCell ⟨w.heap.size + 1, 0, none⟩ (.bool g4)).setCell ⟨w.heap.size + 1, 1, none⟩ (.slice a4 z4.length c4)) (w.heap.size + 1) (.cells #[.bool g4, .slice a4 z4.length c4] 25) := ⟨Nat.lt_of_lt_of_le ER.lt hT.below.size, (heap_setCell_same _ _ 1 _ _ _ (heap_setCell_same _ _ 0 _ _ _ ER.what))⟩
      replace hB := hB.trans (hT.below.mono (by omega))
      replace hs0 := Nat.le_trans hs0 hT.below.size
      clear hT
      go_wp2
      refine bodyPost_ret (v := .tuple #[.agg #[.bool g4, .slice a4 z4.length c4], .int .i64 0]) (by simp [results, Tryz.f64, go_sem, r0, r1]) rfl ?_
      exact ⟨_, _, _, _, rfl, S4.mono (by omega), N4, V4, b4, hB⟩
    · obtain rfl : cv = 0 := by rw [← HC.out, heq, cmpI_eq]
      by_cases h0 : z1 = []
      · skip
        subst h0
        have HR : Hid (roundN (val xs) (val ds) = val xs / val ds) := by rw [Hid, roundN, if_neg]; have := V2.out; have h1 := V1.out; rw [val_nil] at h1; rintro (h | ⟨h, h2⟩) <;> omega
        clear heq HC
        obtain ⟨k0, k1, k2, f0, f1, f2⟩ := EA.three
        obtain ⟨k3, k4, f3, f4⟩ := ER.two
        go_wp2_with fail
        clear k0 k1 k2 f0 f1 f2 k3 k4 f3 f4
        refine (imake_any S1 (by omega) b).mono ?_
        rintro e w4 ⟨g4, a4, c4, z4, rfl, S4, N4, v4, l4, hb⟩
        have V4 : Hid (sgn g4 (val z4) = sgn b (roundN (val xs) (val ds))) := by rw [Hid, v4, HR.out, V1.out]
        have b4 : z4.length ≤ n + 2 := by omega
        clear v4 l4
        replace FA := FA.below hb
        replace EA := EA.below hb
        replace ER := ER.below hb
        replace S1 := S1.below hb
        replace hB := hB.trans (hb.mono hB.size)
        have zz4 := hb.size
        have zh4 := hB.size
        clear hb
        obtain ⟨k0, k1, k2, f0, f1, f2⟩ := EA.three
        obtain ⟨k3, k4, f3, f4⟩ := ER.two
        have hcc := ER.two
        have r0 := hcc.1
        have r1 := hcc.2.1
        clear hcc
        have qEA := EA.lt
        have qER := ER.lt
        have hs0 := Nat.le_refl w4.heap.size
        have hT := (((Turns.refl (w.heap.size + 1) w4).setCell 0 (.bool g4)).setCell 1 (.slice a4 z4.length c4))
        replace FA := FA.beside ER (noWord2 (fun _ e => by cases e) (fun _ e => by cases e)) hT
        replace EA := EA.turns hT (by omega)
        replace S1 := S1.beside ER (noWord2 (fun _ e => by cases e) (fun _ e => by cases e)) hT
        replace S4 := S4.beside ER (noWord2 (fun _ e => by cases e) (fun _ e => by cases e)) hT
        replace ER : Box ((w4.setCell ⟨w.heap.size + 1, 0, none⟩ (.bool g4)).setCell ⟨w.heap.size + 1, 1, none⟩ (.slice a4 z4.length c4)) (w.heap.size + 1) (.cells #[.bool g4, .slice a4 z4.length c4] 25) := ⟨Nat.lt_of_lt_of_le ER.lt hT.below.size, (heap_setCell_same _ _ 1 _ _ _ (heap_setCell_same _ _ 0 _ _ _ ER.what))⟩
        replace hB := hB.trans (hT.below.mono (by omega))
        replace hs0 := Nat.le_trans hs0 hT.below.size
        clear hT
        go_wp2
        refine bodyPost_ret (v := .tuple #[.agg #[.bool g4, .slice a4 z4.length c4], .int .i64 0]) (by simp [results, Tryz.f64, go_sem, r0, r1]) rfl ?_
        exact ⟨_, _, _, _, rfl, S4.mono (by omega), N4, V4, b4, hB⟩
      · obtain ⟨z, zr, rfl⟩ : ∃ z zr, z1 = z :: zr := by cases z1 with | nil => exact absurd rfl h0 | cons z zr => exact ⟨z, zr, rfl⟩
        obtain ⟨kq, oq, rfl, _, _⟩ := S1.row (by simp)
        have c0 := (S1.cell (j := 0) (by simp)).1
        rw [Nat.add_zero] at c0
        simp only [lz5, Option.getD_some] at c0
        have hzw := S1.words z (by simp)
        have hp : (0 : Int) < ((z :: zr).length : Int) := by simp
        have hpN : 0 < (z :: zr).length := by simp
        have hv1 : val (z :: zr) % 2 = z % 2 := by rw [val_cons]; omega
        by_cases hodd : z % 2 = 1
        · skip
          have hp2 : (z.tmod 2 == 1) = true := by rw [Int.tmod_eq_emod_of_nonneg hzw.1]; exact beq_iff_eq.2 hodd
          have HR : Hid (roundN (val xs) (val ds) = val xs / val ds + 1) := by rw [Hid, roundN, if_pos]; have := V2.out; have := V1.out; right; constructor <;> omega
          clear heq HC hv1 hzw hodd h0
          obtain ⟨k0, k1, k2, f0, f1, f2⟩ := EA.three
          obtain ⟨k3, k4, f3, f4⟩ := ER.two
          go_wp2_with fail
          clear k0 k1 k2 f0 f1 f2 k3 k4 f3 f4
          refine (kone_any _).mono ?_
          rintro e w4 ⟨a4, c4, z4, rfl, S4, N4, v4, l4, hb⟩
          have V4 : Hid (val z4 = (1 : Int)) := v4
          have b4 : z4.length ≤ 1 := by omega
          clear v4 l4
          replace FA := FA.below hb
          replace EA := EA.below hb
          replace ER := ER.below hb
          replace S1 := S1.below hb
          replace hB := hB.trans (hb.mono hB.size)
          have zz4 := hb.size
          have zh4 := hB.size
          clear hb
          clear c0 hp hpN hp2
          obtain ⟨k0, k1, k2, f0, f1, f2⟩ := EA.three
          obtain ⟨k3, k4, f3, f4⟩ := ER.two
          go_wp2_with fail
          clear k0 k1 k2 f0 f1 f2 k3 k4 f3 f4
          refine (radd_any S1 S4 (by omega) (by omega)).mono ?_
          rintro e w5 ⟨a5, c5, z5, rfl, S5, N5, v5, l5, hb⟩
          have V5 : Hid (val z5 = val (z :: zr) + 1) := by rw [Hid, v5, V4.out]
          have b5 : z5.length ≤ n + 2 := by omega
          clear v5 l5
          replace FA := FA.below hb
          replace EA := EA.below hb
          replace ER := ER.below hb
          replace S1 := S1.below hb
          replace S4 := S4.below hb
          replace hB := hB.trans (hb.mono hB.size)
          have zz5 := hb.size
          have zh5 := hB.size
          clear hb
          obtain ⟨k0, k1, k2, f0, f1, f2⟩ := EA.three
          obtain ⟨k3, k4, f3, f4⟩ := ER.two
          go_wp2_with fail
          clear k0 k1 k2 f0 f1 f2 k3 k4 f3 f4
          refine (imake_any S5 (by omega) b).mono ?_
          rintro e w6 ⟨g6, a6, c6, z6, rfl, S6, N6, v6, l6, hb⟩
          have V6 : Hid (sgn g6 (val z6) = sgn b (roundN (val xs) (val ds))) := by rw [Hid, v6, HR.out, V5.out, V1.out]
          have b6 : z6.length ≤ n + 2 := by omega
          clear v6 l6
          replace FA := FA.below hb
          replace EA := EA.below hb
          replace ER := ER.below hb
          replace S1 := S1.below hb
          replace S4 := S4.below hb
          replace S5 := S5.below hb
          replace hB := hB.trans (hb.mono hB.size)
          have zz6 := hb.size
          have zh6 := hB.size
          clear hb
          obtain ⟨k0, k1, k2, f0, f1, f2⟩ := EA.three
          obtain ⟨k3, k4, f3, f4⟩ := ER.two
          have hcc := ER.two
          have r0 := hcc.1
          have r1 := hcc.2.1
          clear hcc
          have qEA := EA.lt
          have qER := ER.lt
          have hs0 := Nat.le_refl w6.heap.size
          have hT := (((Turns.refl (w.heap.size + 1) w6).setCell 0 (.bool g6)).setCell 1 (.slice a6 z6.length c6))
          replace FA := FA.beside ER (noWord2 (fun _ e => by cases e) (fun _ e => by cases e)) hT
          replace EA := EA.turns hT (by omega)
          replace S1 := S1.beside ER (noWord2 (fun _ e => by cases e) (fun _ e => by cases e)) hT
          replace S4 := S4.beside ER (noWord2 (fun _ e => by cases e) (fun _ e => by cases e)) hT
          replace S5 := S5.beside ER (noWord2 (fun _ e => by cases e) (fun _ e => by cases e)) hT
          replace S6 := S6.beside ER (noWord2 (fun _ e => by cases e) (fun _ e => by cases e)) hT
          replace ER : Box ((w6.setCell ⟨w.heap.size + 1, 0, none⟩ (.bool g6)).setCell ⟨w.heap.size + 1, 1, none⟩ (.slice a6 z6.length c6)) (w.heap.size + 1) (.cells #[.bool g6, .slice a6 z6.length c6] 25) := ⟨Nat.lt_of_lt_of_le ER.lt hT.below.size, (heap_setCell_same _ _ 1 _ _ _ (heap_setCell_same _ _ 0 _ _ _ ER.what))⟩
          replace hB := hB.trans (hT.below.mono (by omega))
          replace hs0 := Nat.le_trans hs0 hT.below.size
          clear hT
          go_wp2
          refine bodyPost_ret (v := .tuple #[.agg #[.bool g6, .slice a6 z6.length c6], .int .i64 0]) (by simp [results, Tryz.f64, go_sem, r0, r1]) rfl ?_
          exact ⟨_, _, _, _, rfl, S6.mono (by omega), N6, V6, b6, hB⟩
        · skip
          have hp2 : (z.tmod 2 == 1) = false := by rw [Int.tmod_eq_emod_of_nonneg hzw.1]; exact beq_eq_false_iff_ne.2 hodd
          have HR : Hid (roundN (val xs) (val ds) = val xs / val ds) := by rw [Hid, roundN, if_neg]; have := V2.out; have := V1.out; rintro (h | ⟨h, h2⟩) <;> omega
          clear heq HC hv1 hzw hodd h0
          obtain ⟨k0, k1, k2, f0, f1, f2⟩ := EA.three
          obtain ⟨k3, k4, f3, f4⟩ := ER.two
          go_wp2_with fail
          clear k0 k1 k2 f0 f1 f2 k3 k4 f3 f4
          refine (imake_any S1 (by omega) b).mono ?_
          rintro e w4 ⟨g4, a4, c4, z4, rfl, S4, N4, v4, l4, hb⟩
          have V4 : Hid (sgn g4 (val z4) = sgn b (roundN (val xs) (val ds))) := by rw [Hid, v4, HR.out, V1.out]
          have b4 : z4.length ≤ n + 2 := by omega
          clear v4 l4
          replace FA := FA.below hb
          replace EA := EA.below hb
          replace ER := ER.below hb
          replace S1 := S1.below hb
          replace hB := hB.trans (hb.mono hB.size)
          have zz4 := hb.size
          have zh4 := hB.size
          clear hb
          obtain ⟨k0, k1, k2, f0, f1, f2⟩ := EA.three
          obtain ⟨k3, k4, f3, f4⟩ := ER.two
          have hcc := ER.two
          have r0 := hcc.1
          have r1 := hcc.2.1
          clear hcc
          have qEA := EA.lt
          have qER := ER.lt
          have hs0 := Nat.le_refl w4.heap.size
          have hT := (((Turns.refl (w.heap.size + 1) w4).setCell 0 (.bool g4)).setCell 1 (.slice a4 z4.length c4))
          replace FA := FA.beside ER (noWord2 (fun _ e => by cases e) (fun _ e => by cases e)) hT
          replace EA := EA.turns hT (by omega)
          replace S1 := S1.beside ER (noWord2 (fun _ e => by cases e) (fun _ e => by cases e)) hT
          replace S4 := S4.beside ER (noWord2 (fun _ e => by cases e) (fun _ e => by cases e)) hT
          replace ER : Box ((w4.setCell ⟨w.heap.size + 1, 0, none⟩ (.bool g4)).setCell ⟨w.heap.size + 1, 1, none⟩ (.slice a4 z4.length c4)) (w.heap.size + 1) (.cells #[.bool g4, .slice a4 z4.length c4] 25) := ⟨Nat.lt_of_lt_of_le ER.lt hT.below.size, (heap_setCell_same _ _ 1 _ _ _ (heap_setCell_same _ _ 0 _ _ _ ER.what))⟩
          replace hB := hB.trans (hT.below.mono (by omega))
          replace hs0 := Nat.le_trans hs0 hT.below.size
          clear hT
          go_wp2
          refine bodyPost_ret (v := .tuple #[.agg #[.bool g4, .slice a4 z4.length c4], .int .i64 0]) (by simp [results, Tryz.f64, go_sem, r0, r1]) rfl ?_
          exact ⟨_, _, _, _, rfl, S4.mono (by omega), N4, V4, b4, hB⟩
    · skip
      obtain rfl : cv = 1 := by rw [← HC.out]; exact cmpI_gt hgt
      have HR : Hid (roundN (val xs) (val ds) = val xs / val ds + 1) := by rw [Hid, roundN, if_pos]; have := V2.out; left; omega
      clear hgt HC
      obtain ⟨k0, k1, k2, f0, f1, f2⟩ := EA.three
      obtain ⟨k3, k4, f3, f4⟩ := ER.two
      go_wp2_with fail
      clear k0 k1 k2 f0 f1 f2 k3 k4 f3 f4
      refine (kone_any _).mono ?_
      rintro e w4 ⟨a4, c4, z4, rfl, S4, N4, v4, l4, hb⟩
      have V4 : Hid (val z4 = (1 : Int)) := v4
      have b4 : z4.length ≤ 1 := by omega
      clear v4 l4
      replace FA := FA.below hb
      replace EA := EA.below hb
      replace ER := ER.below hb
      replace S1 := S1.below hb
      replace hB := hB.trans (hb.mono hB.size)
      have zz4 := hb.size
      have zh4 := hB.size
      clear hb
      obtain ⟨k0, k1, k2, f0, f1, f2⟩ := EA.three
      obtain ⟨k3, k4, f3, f4⟩ := ER.two
      go_wp2_with fail
      clear k0 k1 k2 f0 f1 f2 k3 k4 f3 f4
      refine (radd_any S1 S4 (by omega) (by omega)).mono ?_
      rintro e w5 ⟨a5, c5, z5, rfl, S5, N5, v5, l5, hb⟩
      have V5 : Hid (val z5 = val z1 + 1) := by rw [Hid, v5, V4.out]
      have b5 : z5.length ≤ n + 2 := by omega
      clear v5 l5
      replace FA := FA.below hb
      replace EA := EA.below hb
      replace ER := ER.below hb
      replace S1 := S1.below hb
      replace S4 := S4.below hb
      replace hB := hB.trans (hb.mono hB.size)
      have zz5 := hb.size
      have zh5 := hB.size
      clear hb
      obtain ⟨k0, k1, k2, f0, f1, f2⟩ := EA.three
      obtain ⟨k3, k4, f3, f4⟩ := ER.two
      go_wp2_with fail
      clear k0 k1 k2 f0 f1 f2 k3 k4 f3 f4
      refine (imake_any S5 (by omega) b).mono ?_
      rintro e w6 ⟨g6, a6, c6, z6, rfl, S6, N6, v6, l6, hb⟩
      have V6 : Hid (sgn g6 (val z6) = sgn b (roundN (val xs) (val ds))) := by rw [Hid, v6, HR.out, V5.out, V1.out]
      have b6 : z6.length ≤ n + 2 := by omega
      clear v6 l6
      replace FA := FA.below hb
      replace EA := EA.below hb
      replace ER := ER.below hb
      replace S1 := S1.below hb
      replace S4 := S4.below hb
      replace S5 := S5.below hb
      replace hB := hB.trans (hb.mono hB.size)
      have zz6 := hb.size
      have zh6 := hB.size
      clear hb
      obtain ⟨k0, k1, k2, f0, f1, f2⟩ := EA.three
      obtain ⟨k3, k4, f3, f4⟩ := ER.two
      have hcc := ER.two
      have r0 := hcc.1
      have r1 := hcc.2.1
      clear hcc
      have qEA := EA.lt
      have qER := ER.lt
      have hs0 := Nat.le_refl w6.heap.size
      have hT := (((Turns.refl (w.heap.size + 1) w6).setCell 0 (.bool g6)).setCell 1 (.slice a6 z6.length c6))
      replace FA := FA.beside ER (noWord2 (fun _ e => by cases e) (fun _ e => by cases e)) hT
      replace EA := EA.turns hT (by omega)
      replace S1 := S1.beside ER (noWord2 (fun _ e => by cases e) (fun _ e => by cases e)) hT
      replace S4 := S4.beside ER (noWord2 (fun _ e => by cases e) (fun _ e => by cases e)) hT
      replace S5 := S5.beside ER (noWord2 (fun _ e => by cases e) (fun _ e => by cases e)) hT
      replace S6 := S6.beside ER (noWord2 (fun _ e => by cases e) (fun _ e => by cases e)) hT
      replace ER : Box ((w6.setCell ⟨w.heap.size + 1, 0, none⟩ (.bool g6)).setCell ⟨w.heap.size + 1, 1, none⟩ (.slice a6 z6.length c6)) (w.heap.size + 1) (.cells #[.bool g6, .slice a6 z6.length c6] 25) := ⟨Nat.lt_of_lt_of_le ER.lt hT.below.size, (heap_setCell_same _ _ 1 _ _ _ (heap_setCell_same _ _ 0 _ _ _ ER.what))⟩
      replace hB := hB.trans (hT.below.mono (by omega))
      replace hs0 := Nat.le_trans hs0 hT.below.size
      clear hT
      go_wp2
      refine bodyPost_ret (v := .tuple #[.agg #[.bool g6, .slice a6 z6.length c6], .int .i64 0]) (by simp [results, Tryz.f64, go_sem, r0, r1]) rfl ?_
      exact ⟨_, _, _, _, rfl, S6.mono (by omega), N6, V6, b6, hB⟩
def FeSaid (q : Rat) (n : Nat) (w : World) (e : Ending) (w' : World) : Prop := ∃ (b' : Bool) (a' : Option Addr) (ca' : Nat) (ts' : List Int) (c' : Option Addr) (cc' : Nat) (es' : List Int), e = .returned (.tuple #[.agg #[.bool b', .slice a' ts'.length ca', .slice c' es'.length cc'], .int .i64 0]) ∧ Fr w.heap.size w' a' ca' ts' c' cc' es' ∧ Apart a' c' ts' es' ∧ Is b' ts' es' (q) (n) ∧ Below w.heap.size w w'
theorem one_is {g : Bool} {zu zd : List Int} (N1 : Canon g zu) (V1 : Hid (sgn g (val zu) = 1)) (N2 : Norm zd) (V2 : Hid (val zd = 1)) (l1 : zu.length ≤ 1) (l2 : zd.length ≤ 1) : Is g zu zd 1 1 := by
  refine ⟨⟨N1, N2, ?_⟩, ?_, l1, l2⟩
  · rw [V1.out, V2.out]; exact ⟨by decide, by decide⟩
  · rw [ratL, V1.out, V2.out]; decide +kernel
set_option maxRecDepth 100000 in
set_option maxHeartbeats 4000000 in
theorem kadd_ok {sv : Option Addr} {cap : Nat} {rs : List RV} {w : World} (R : Row 0 w sv rs) (hrl : rs.length ≤ 6) {m : Nat} (hlen : ∀ r ∈ rs, r.xs.length ≤ m ∧ r.ds.length ≤ m) (hm : m ≤ 40) (hg : ∀ r ∈ rs, formR r.b r.xs r.ds = 0) :
    Calls Tryz.prog 46 #[.slice sv rs.length cap] w fun e w' => FeSaid (sumQ rs) (1 + rs.length * (m + 1)) w e w' := by
  have hlen0 : Hid (∀ r ∈ rs, r.xs.length ≤ 1000 ∧ r.ds.length ≤ 1000) := fun r hr => by have := hlen r hr; omega
  have hR : ∀ g o, sv = some ⟨g, o, none⟩ → rs ≠ [] → g < w.heap.size := fun g o e hne => by
    obtain ⟨g', o', e', hg⟩ := R.at_ 0 (List.length_pos_iff.2 hne)
    rw [e] at e'
    simp only [Option.some.injEq, Addr.mk.injEq] at e'
    omega
  have HG := good_yes rs hg
  have hgood : ∀ r ∈ rs, Is r.b r.xs r.ds r.q m := fun r hr => by
    obtain ⟨j, hj⟩ := List.mem_iff_getElem?.1 hr
    have F := R.held j r hj
    exact ⟨(formR_low F.up.words F.down.words).1 (hg r hr), rfl, (hlen r hr).1, (hlen r hr).2⟩
  clear hg hlen
  have hB := Below.refl w.heap.size w
  go_enter Tryz.func46, Tryz.ntmps46
  have hs0 := Nat.le_refl w.heap.size
  have hq := below_new w (.cells #[.bool false, .slice none 0 0, .slice none 0 0] 27)
  replace R := R.below hq
  have ER := Box.put (w := w) (k := (w.heap.size)) (.cells #[.bool false, .slice none 0 0, .slice none 0 0] 27) rfl
  replace hs0 := Nat.le_trans hs0 hq.size
  replace hB := hB.trans (hq.mono hB.size)
  clear hq
  go_wp2_with fail
  obtain ⟨u1, hname⟩ := nm hB
  rw [hname] at hs0 hB R ER ⊢
  have zh1 := hB.size
  have zs1 := hs0
  clear hname hs0
  refine (kfine_any (cap := cap) R (by omega) hlen0.out true HG).mono ?_
  rintro e w2 ⟨rfl, hb⟩
  replace R := R.below hb
  replace ER := ER.below hb
  replace hB := hB.trans (hb.mono hB.size)
  have zz2 := hb.size
  have zh2 := hB.size
  clear hb
  obtain ⟨k0, k1, k2, f0, f1, f2⟩ := ER.three
  go_wp2_with fail
  clear k0 k1 k2 f0 f1 f2
  refine (kone_any _).mono ?_
  rintro e w3 ⟨a1, c1, z1, rfl, S1, N1, v1, l1, hb⟩
  have V1 : Hid (val z1 = (1 : Int)) := v1
  have b1 : z1.length ≤ 1 := by omega
  clear v1 l1
  replace R := R.below hb
  replace ER := ER.below hb
  replace hB := hB.trans (hb.mono hB.size)
  have zz3 := hb.size
  have zh3 := hB.size
  clear hb
  have I0 : Is false [] z1 0 1 := (is_small [] z1 0 norm_nil N1 rfl V1.out (by simp) b1).to (by simp)
  have P0 : Apart none a1 [] z1 := fun h => absurd rfl h
  have qER := ER.lt
  obtain ⟨kk, hK⟩ : ∃ K, w3.heap.size = K := ⟨_, rfl⟩
  have hKm : w.heap.size < kk := by omega
  have RO1 : RowOff kk sv rs := fun hne g o e h => by have hl := hR g o e hne; omega
  have RO2 : RowOff w.heap.size sv rs := fun hne g o e h => by have hl := hR g o e hne; omega
  obtain ⟨k0, k1, k2, f0, f1, f2⟩ := ER.three
  have hq := below_new w3 (.cells #[.bool false, .slice none 0 0, .slice a1 z1.length c1] 27)
  replace R := R.below hq
  replace ER := ER.below hq
  replace S1 := S1.below hq
  have EO : Box (w3.alloc (.cells #[.bool false, .slice none 0 0, .slice a1 z1.length c1] 27)) kk (.cells #[.bool false, .slice none 0 0, .slice a1 z1.length c1] 27) := Box.put (.cells #[.bool false, .slice none 0 0, .slice a1 z1.length c1] 27) hK
  replace hB := hB.trans (hq.mono hB.size)
  go_wp2
  clear hq k0 k1 k2 f0 f1 f2
  obtain ⟨v1, hname⟩ := nm hB
  rw [hname] at R ER EO hB S1 ⊢
  clear hname hK qER
  go_loopw [5] (fun iv wv => ∃ (i : Nat) (b1 : Bool) (a1 : Option Addr) (n1 : Nat) (x1 : List Int) (e1 : Option Addr) (m1 : Nat) (y1 : List Int) (q1 : Rat), iv = .int .i64 i ∧ i ≤ rs.length ∧ Row 0 wv sv rs ∧ Box wv w.heap.size (.cells #[.bool false, .slice none 0 0, .slice none 0 0] 27) ∧ Box wv kk (.cells #[.bool b1, .slice a1 x1.length n1, .slice e1 y1.length m1] 27) ∧ Below w.heap.size w wv ∧ Fr w.heap.size wv a1 n1 x1 e1 m1 y1 ∧ Apart a1 e1 x1 y1 ∧ Is b1 x1 y1 q1 (1 + i * (m + 1)) ∧ Hid (opFold opAdd q1 (rs.drop i) = some (sumQ rs))) (fun iv _ => rs.length - (intOf iv).toNat)
  case atStart => exact ⟨0, false, none, 0, [], a1, c1, z1, 0, rfl, Nat.zero_le _, R, ER, EO, hB, ⟨Seg.nil _ _, S1.mono (by omega)⟩, P0, I0.mono (by omega), by rw [Hid, List.drop_zero, opFold_add]; rfl⟩
  case round =>
    clear R ER EO hB I0 P0 S1
    obtain ⟨i, b1, a1, n1, x1, e1, m1, y1, q1, rfl, hi, R, ER, EO, hB, FC, PC, I1, HM⟩ := hrel
    have zB := hB.size
    have qER := ER.lt
    have qEO := EO.lt
    have hw1 : IntKind.i64.wrap ((i : Int) + 1) = (i : Int) + 1 := by rw [IntKind.wrap_i64]; omega
    by_cases hlt : i < rs.length
    · have hlt2 : (i : Int) < (rs.length : Int) := by omega
      have hge : ¬ (i : Int) < 0 := by omega
      obtain ⟨g, o, rfl, hg⟩ := R.at_ i hlt
      obtain ⟨r, hr0⟩ : ∃ r, rs[i]? = some r := ⟨rs[i], List.getElem?_eq_getElem hlt⟩
      have hr := hide hr0
      have FR1 := R.held i r hr0
      clear hr0
      have I2 := hgood r (List.mem_of_getElem? hr.out)
      have hbd : 1 + i * (m + 1) + m ≤ 400 := by have : i * (m + 1) ≤ 6 * (m + 1) := Nat.mul_le_mul_right _ (by omega); omega
      obtain ⟨t, ht⟩ : ∃ t, q1 + r.q = t := ⟨_, rfl⟩
      have HT := hide ht
      clear ht
      obtain ⟨k0, k1, k2, f0, f1, f2⟩ := ER.three
      obtain ⟨k3, k4, k5, f3, f4, f5⟩ := EO.three
      go_wp2_with fail
      clear k0 k1 k2 f0 f1 f2 k3 k4 k5 f3 f4 f5
      replace R := R.drew
      replace FC := FC.drew
      replace FR1 := FR1.drew
      have qER := ER.lt
      replace ER := ER.drew
      have qEO := EO.lt
      replace EO := EO.drew
      refine wp_yields 6 [.is (.agg #[.bool b1, .slice a1 x1.length n1, .slice e1 y1.length m1]), .is (.slice (some ⟨g, o, none⟩) rs.length cap), .is (.int .i64 i), .is (.pointer (some ⟨g, o + i * 3, none⟩)), .is (.agg #[.bool r.b, .slice r.a r.xs.length r.ca, .slice r.c r.ds.length r.cc]), (Yield.frac wr.heap.size (t) (1 + i * (m + 1) + m + 1))] (by kernel_rfl) (by kernel_rfl) (lt_cons ?_ (lt_cons ?_ (lt_cons ?_ (lt_cons ?_ (lt_cons ?_ (lt_cons ?_ lt_nil)))))) ?_
      case refine_1 =>
        refine OpDoes.mk rfl ?_
        intro vs V hV hd K hK
        have d0 : vs 0 = .agg #[.bool b1, .slice a1 x1.length n1, .slice e1 y1.length m1] := hd 0 (by decide) (by kernel_rfl)
        have d4 : vs 4 = .agg #[.bool r.b, .slice r.a r.xs.length r.ca, .slice r.c r.ds.length r.cc] := hd 4 (by decide) (by kernel_rfl)
        simp only [laidIn, lz1, lz2, lz3, lz4, lz5, lz6, if_true, Act.put, lz7, lz8, lz9] at hK ⊢
        simp only [d0, d4] at hK ⊢
        go_simp
        go_at_call 79
        refine (ksum_any b1 r.b (FC.below hV) (FR1.below hV) I1 I2 hbd).mono ?_
        rintro e V' ⟨g2, a2, c2, x2, e2, t2, y2, rfl, F2, P2, I2, hb⟩
        replace I2 : Is g2 x2 y2 (t) (1 + i * (m + 1) + m + 1) := (I2.mono (by omega)).to HT.out
        exact hK.out _ _ hb ⟨_, _, _, _, _, _, _, rfl, F2.mono hV.size, P2, I2⟩ (not_fresh rfl)
      case refine_2 =>
        refine OpDoes.mk rfl ?_
        intro vs V hV hd K hK
        have d3 : vs 3 = .pointer (some ⟨g, o + i * 3, none⟩) := hd 3 (by decide) (by kernel_rfl)
        have hcc := (R.below hV).cells g o i r rfl hr.out
        have k0 := hcc.1
        have k1 := hcc.2.1
        have k2 := hcc.2.2
        clear hcc
        simp only [laidIn, lz1, lz2, lz3, lz4, lz5, lz6, if_true, Act.put, lz7, lz8, lz9] at hK ⊢
        simp only [d3] at hK ⊢
        go_simp
        exact hK.out _ _ (Below.refl _ _) rfl (not_fresh rfl)
      case refine_3 =>
        refine OpDoes.mk rfl ?_
        intro vs V hV hd K hK
        have d1 : vs 1 = .slice (some ⟨g, o, none⟩) rs.length cap := hd 1 (by decide) (by kernel_rfl)
        have d2 : vs 2 = .int .i64 i := hd 2 (by decide) (by kernel_rfl)
        simp only [laidIn, lz1, lz2, lz3, lz4, lz5, lz6, if_true, Act.put, lz7, lz8, lz9] at hK ⊢
        simp only [d1, d2] at hK ⊢
        go_simp
        exact hK.out _ _ (Below.refl _ _) rfl (not_fresh rfl)
      case refine_4 =>
        refine OpDoes.mk rfl ?_
        intro vs V hV hd K hK
        simp only [laidIn, lz1, lz2, lz3, lz4, lz5, lz6, if_true, Act.put, lz7, lz8, lz9] at hK ⊢
        go_simp
        exact hK.out _ _ (Below.refl _ _) rfl (not_fresh rfl)
      case refine_5 =>
        refine OpDoes.mk rfl ?_
        intro vs V hV hd K hK
        simp only [laidIn, lz1, lz2, lz3, lz4, lz5, lz6, if_true, Act.put, lz7, lz8, lz9] at hK ⊢
        go_simp
        exact hK.out _ _ (Below.refl _ _) rfl (not_fresh rfl)
      case refine_6 =>
        refine OpDoes.mk rfl ?_
        intro vs V hV hd K hK
        have hcc := (EO.below hV).three
        have k0 := hcc.1
        have k1 := hcc.2.1
        have k2 := hcc.2.2.1
        clear hcc
        simp only [laidIn, lz1, lz2, lz4, lz5, lz6, if_true, Act.put, lz7, lz8, lz9] at hK ⊢
        go_simp
        exact hK.out _ _ (Below.refl _ _) rfl (not_fresh rfl)
      case refine_7 =>
        intro vs Y1 hV hR hne fuel
        have d0 : vs 0 = .agg #[.bool b1, .slice a1 x1.length n1, .slice e1 y1.length m1] := hR 0 (by decide)
        have d1 : vs 1 = .slice (some ⟨g, o, none⟩) rs.length cap := hR 1 (by decide)
        have d2 : vs 2 = .int .i64 i := hR 2 (by decide)
        have d3 : vs 3 = .pointer (some ⟨g, o + i * 3, none⟩) := hR 3 (by decide)
        have d4 : vs 4 = .agg #[.bool r.b, .slice r.a r.xs.length r.ca, .slice r.c r.ds.length r.cc] := hR 4 (by decide)
        have hh := fun (P : Prop) => Yield.frac_elim P (show ((Yield.frac wr.heap.size (t) (1 + i * (m + 1) + m + 1)) : Yield).At (vs 5) Y1 from hR 5 (by decide))
        refine hh _ ?_
        intro g2 a2 c2 x2 e2 t2 y2 d5 F2 P2 I2
        clear hh
        replace R := R.below hV
        replace FC := FC.below hV
        replace FR1 := FR1.below hV
        replace ER := ER.below hV
        replace EO := EO.below hV
        have hr := hV
        simp only [laidIn, lz4, lz5, lz6, if_true, Act.put, lz7, lz8, lz9]
        simp only [d0, d1, d2, d3, d4, d5]
        clear hR hne hV d0 d1 d2 d3 d4 d5
        clear vs
        show wpAny _ _ _ _ (fuel + 1) _ _ _
        refine wpAny_all (rs := [6]) (by kernel_rfl) (by simp) (fun i hi => ?_)
        obtain rfl : i = 6 := by simpa using hi
        clear hi
        have hcc := EO.three
        have k0 := hcc.1
        have k1 := hcc.2.1
        have k2 := hcc.2.2.1
        have f0 := hcc.2.2.2.1
        have f1 := hcc.2.2.2.2.1
        have f2 := hcc.2.2.2.2.2
        clear hcc
        refine wpOp_step rfl (fun K hK => ?_)
        simp only [lz1, lz2, lz3]
        rw [if_pos (by rfl)]
        go_simp
        refine hK _ _ ?_
        clear hK k0 f0 k1 f1 k2 f2
        have hT := turns3 (kk) Y1 (.bool g2) (.slice a2 x2.length c2) (.slice e2 y2.length t2)
        replace R := R.beside EO (noWord3 (fun _ e => by cases e) (fun _ e => by cases e) (fun _ e => by cases e)) hT (by first | exact RO1 | exact RO2 | exact RO3)
        replace FC := FC.beside EO (noWord3 (fun _ e => by cases e) (fun _ e => by cases e) (fun _ e => by cases e)) hT
        replace FR1 := FR1.beside EO (noWord3 (fun _ e => by cases e) (fun _ e => by cases e) (fun _ e => by cases e)) hT
        replace ER := ER.turns hT (by omega)
        replace F2 := F2.beside EO (noWord3 (fun _ e => by cases e) (fun _ e => by cases e) (fun _ e => by cases e)) hT
        replace EO := Box.set3 (.bool g2) (.slice a2 x2.length c2) (.slice e2 y2.length t2) EO
        have hr6 := hT.below
        obtain ⟨X1, hX⟩ := nm hT.below
        rw [hX] at R FC FR1 ER EO F2 hr6 ⊢
        clear hX hT
        refine wpAny_done (by kernel_rfl) ?_ _
        replace hB := hB.trans ((Below.trans (Below.drew (Below.refl wr.heap.size wr)) hr).mono hB.size)
        replace hB := hB.trans (hr6.mono (by omega))
        have zz3_1 := hr.size
        have zi1 := hB.size
        have zy1_6 := hr6.size
        clear hr hr6
        have hms : rs.length - (i + 1) < rs.length - i := by omega
        go_wp2
        refine ⟨⟨i + 1, g2, a2, c2, x2, e2, t2, y2, t, by simp, by omega, R, ER, EO, hB, F2.mono zB, P2, I2.mono (by rw [Nat.add_mul, Nat.one_mul]; omega), ?_⟩, by simpa [intOf] using hms⟩
        rw [Hid, ← HM.out, opFold_drop hr.out, show opAdd q1 r.q = some t by rw [← HT.out]; rfl]
    · have hnl : ¬ (i : Int) < (rs.length : Int) := by omega
      have hq : q1 = sumQ rs := by
        have h := HM.out
        rw [List.drop_of_length_le (by omega)] at h
        exact Option.some.inj h
      have IZ := (I1.mono (show 1 + i * (m + 1) ≤ 1 + rs.length * (m + 1) from Nat.add_le_add_left (Nat.mul_le_mul_right _ hi) _)).to hq
      clear hq HM I1
      obtain ⟨k0, k1, k2, f0, f1, f2⟩ := ER.three
      obtain ⟨k3, k4, k5, f3, f4, f5⟩ := EO.three
      have hcc := ER.three
      have r0 := hcc.1
      have r1 := hcc.2.1
      have r2 := hcc.2.2.1
      clear hcc
      have qER := ER.lt
      have qEO := EO.lt
      have hs0 := Nat.le_refl wr.heap.size
      have hT := turns3 (w.heap.size) wr (.bool b1) (.slice a1 x1.length n1) (.slice e1 y1.length m1)
      replace FC := FC.beside ER (noWord3 (fun _ e => by cases e) (fun _ e => by cases e) (fun _ e => by cases e)) hT
      replace EO := EO.turns hT (by omega)
      replace ER := Box.set3 (.bool b1) (.slice a1 x1.length n1) (.slice e1 y1.length m1) ER
      replace hB := hB.trans (hT.below.mono (by omega))
      replace hs0 := Nat.le_trans hs0 hT.below.size
      clear hT
      go_wp2
      refine bodyPost_ret (v := .tuple #[.agg #[.bool b1, .slice a1 x1.length n1, .slice e1 y1.length m1], .int .i64 0]) (by simp [results, Tryz.f46, go_sem, r0, r1, r2]) rfl ?_
      exact ⟨_, _, _, _, _, _, _, rfl, FC, PC, IZ, hB⟩
set_option maxRecDepth 100000 in
set_option maxHeartbeats 4000000 in
theorem kmul_ok {sv : Option Addr} {cap : Nat} {rs : List RV} {w : World} (R : Row 0 w sv rs) (hrl : rs.length ≤ 6) {m : Nat} (hlen : ∀ r ∈ rs, r.xs.length ≤ m ∧ r.ds.length ≤ m) (hm : m ≤ 40) (hg : ∀ r ∈ rs, formR r.b r.xs r.ds = 0) :
    Calls Tryz.prog 63 #[.slice sv rs.length cap] w fun e w' => FeSaid (mulQ rs) (1 + rs.length * (m + 1)) w e w' := by
  have hlen0 : Hid (∀ r ∈ rs, r.xs.length ≤ 1000 ∧ r.ds.length ≤ 1000) := fun r hr => by have := hlen r hr; omega
  have hR : ∀ g o, sv = some ⟨g, o, none⟩ → rs ≠ [] → g < w.heap.size := fun g o e hne => by
    obtain ⟨g', o', e', hg⟩ := R.at_ 0 (List.length_pos_iff.2 hne)
    rw [e] at e'
    simp only [Option.some.injEq, Addr.mk.injEq] at e'
    omega
  have HG := good_yes rs hg
  have hgood : ∀ r ∈ rs, Is r.b r.xs r.ds r.q m := fun r hr => by
    obtain ⟨j, hj⟩ := List.mem_iff_getElem?.1 hr
    have F := R.held j r hj
    exact ⟨(formR_low F.up.words F.down.words).1 (hg r hr), rfl, (hlen r hr).1, (hlen r hr).2⟩
  clear hg hlen
  have hB := Below.refl w.heap.size w
  go_enter Tryz.func63, Tryz.ntmps63
  have hs0 := Nat.le_refl w.heap.size
  have hq := below_new w (.cells #[.bool false, .slice none 0 0, .slice none 0 0] 27)
  replace R := R.below hq
  have ER := Box.put (w := w) (k := (w.heap.size)) (.cells #[.bool false, .slice none 0 0, .slice none 0 0] 27) rfl
  replace hs0 := Nat.le_trans hs0 hq.size
  replace hB := hB.trans (hq.mono hB.size)
  clear hq
  go_wp2_with fail
  obtain ⟨u1, hname⟩ := nm hB
  rw [hname] at hs0 hB R ER ⊢
  have zh1 := hB.size
  have zs1 := hs0
  clear hname hs0
  refine (kfine_any (cap := cap) R (by omega) hlen0.out true HG).mono ?_
  rintro e w2 ⟨rfl, hb⟩
  replace R := R.below hb
  replace ER := ER.below hb
  replace hB := hB.trans (hb.mono hB.size)
  have zz2 := hb.size
  have zh2 := hB.size
  clear hb
  obtain ⟨k0, k1, k2, f0, f1, f2⟩ := ER.three
  go_wp2_with fail
  clear k0 k1 k2 f0 f1 f2
  refine (kone_any _).mono ?_
  rintro e w3 ⟨a1, c1, z1, rfl, S1, N1, v1, l1, hb⟩
  have V1 : Hid (val z1 = (1 : Int)) := v1
  have b1 : z1.length ≤ 1 := by omega
  clear v1 l1
  replace R := R.below hb
  replace ER := ER.below hb
  replace hB := hB.trans (hb.mono hB.size)
  have zz3 := hb.size
  have zh3 := hB.size
  clear hb
  obtain ⟨k0, k1, k2, f0, f1, f2⟩ := ER.three
  go_wp2_with fail
  clear k0 k1 k2 f0 f1 f2
  refine (kwhole_any S1 (by omega)).mono ?_
  rintro e w4 ⟨g2, a2, c2, z2, rfl, S2, N2, v2, l2, hb⟩
  have V2 : Hid (sgn g2 (val z2) = (1 : Int)) := by rw [Hid, v2.out, V1.out]
  have b2 : z2.length ≤ 1 := by omega
  clear v2 l2
  replace R := R.below hb
  replace ER := ER.below hb
  replace S1 := S1.below hb
  replace hB := hB.trans (hb.mono hB.size)
  have zz4 := hb.size
  have zh4 := hB.size
  clear hb
  have S2_0 := S2
  obtain ⟨k0, k1, k2, f0, f1, f2⟩ := ER.three
  go_wp2_with fail
  clear k0 k1 k2 f0 f1 f2
  refine (kone_any _).mono ?_
  rintro e w5 ⟨a3, c3, z3, rfl, S3, N3, v3, l3, hb⟩
  have V3 : Hid (val z3 = (1 : Int)) := v3
  have b3 : z3.length ≤ 1 := by omega
  clear v3 l3
  replace R := R.below hb
  replace ER := ER.below hb
  replace S1 := S1.below hb
  replace S2 := S2.below hb
  replace hB := hB.trans (hb.mono hB.size)
  have zz5 := hb.size
  have zh5 := hB.size
  clear hb
  have I0 : Is g2 z2 z3 1 1 := one_is N2 V2 N3 V3 b2 b3
  have P0 := hide (apart_of (fun h b o e => S2_0.block h b o e) S3 (by omega) : Apart a2 a3 z2 z3)
  have qER := ER.lt
  obtain ⟨kk, hK⟩ : ∃ K, w5.heap.size = K := ⟨_, rfl⟩
  have hKm : w.heap.size < kk := by omega
  have RO1 : RowOff kk sv rs := fun hne g o e h => by have hl := hR g o e hne; omega
  have RO2 : RowOff w.heap.size sv rs := fun hne g o e h => by have hl := hR g o e hne; omega
  obtain ⟨k0, k1, k2, f0, f1, f2⟩ := ER.three
  have hq := below_new w5 (.cells #[.bool g2, .slice a2 z2.length c2, .slice a3 z3.length c3] 27)
  replace R := R.below hq
  replace ER := ER.below hq
  replace S1 := S1.below hq
  replace S2 := S2.below hq
  replace S3 := S3.below hq
  have EO : Box (w5.alloc (.cells #[.bool g2, .slice a2 z2.length c2, .slice a3 z3.length c3] 27)) kk (.cells #[.bool g2, .slice a2 z2.length c2, .slice a3 z3.length c3] 27) := Box.put (.cells #[.bool g2, .slice a2 z2.length c2, .slice a3 z3.length c3] 27) hK
  replace hB := hB.trans (hq.mono hB.size)
  go_wp2
  clear hq k0 k1 k2 f0 f1 f2
  obtain ⟨v1, hname⟩ := nm hB
  rw [hname] at R ER EO hB S1 S2 S3 ⊢
  clear hname hK qER
  go_loopw [5] (fun iv wv => ∃ (i : Nat) (b1 : Bool) (a1 : Option Addr) (n1 : Nat) (x1 : List Int) (e1 : Option Addr) (m1 : Nat) (y1 : List Int) (q1 : Rat), iv = .int .i64 i ∧ i ≤ rs.length ∧ Row 0 wv sv rs ∧ Box wv w.heap.size (.cells #[.bool false, .slice none 0 0, .slice none 0 0] 27) ∧ Box wv kk (.cells #[.bool b1, .slice a1 x1.length n1, .slice e1 y1.length m1] 27) ∧ Below w.heap.size w wv ∧ Fr w.heap.size wv a1 n1 x1 e1 m1 y1 ∧ Apart a1 e1 x1 y1 ∧ Is b1 x1 y1 q1 (1 + i * (m + 1)) ∧ Hid (opFold opMul q1 (rs.drop i) = some (mulQ rs))) (fun iv _ => rs.length - (intOf iv).toNat)
  case atStart => exact ⟨0, g2, a2, c2, z2, a3, c3, z3, 1, rfl, Nat.zero_le _, R, ER, EO, hB, ⟨S2.mono (by omega), S3.mono (by omega)⟩, P0.out, I0.mono (by omega), by rw [Hid, List.drop_zero, opFold_mul]; rfl⟩
  case round =>
    clear R ER EO hB I0 P0 S1 S2 S3
    obtain ⟨i, b1, a1, n1, x1, e1, m1, y1, q1, rfl, hi, R, ER, EO, hB, FC, PC, I1, HM⟩ := hrel
    have zB := hB.size
    have qER := ER.lt
    have qEO := EO.lt
    have hw1 : IntKind.i64.wrap ((i : Int) + 1) = (i : Int) + 1 := by rw [IntKind.wrap_i64]; omega
    by_cases hlt : i < rs.length
    · have hlt2 : (i : Int) < (rs.length : Int) := by omega
      have hge : ¬ (i : Int) < 0 := by omega
      obtain ⟨g, o, rfl, hg⟩ := R.at_ i hlt
      obtain ⟨r, hr0⟩ : ∃ r, rs[i]? = some r := ⟨rs[i], List.getElem?_eq_getElem hlt⟩
      have hr := hide hr0
      have FR1 := R.held i r hr0
      clear hr0
      have I2 := hgood r (List.mem_of_getElem? hr.out)
      have hbd : 1 + i * (m + 1) + m ≤ 400 := by have : i * (m + 1) ≤ 6 * (m + 1) := Nat.mul_le_mul_right _ (by omega); omega
      obtain ⟨t, ht⟩ : ∃ t, q1 * r.q = t := ⟨_, rfl⟩
      have HT := hide ht
      clear ht
      obtain ⟨k0, k1, k2, f0, f1, f2⟩ := ER.three
      obtain ⟨k3, k4, k5, f3, f4, f5⟩ := EO.three
      go_wp2_with fail
      clear k0 k1 k2 f0 f1 f2 k3 k4 k5 f3 f4 f5
      replace R := R.drew
      replace FC := FC.drew
      replace FR1 := FR1.drew
      have qER := ER.lt
      replace ER := ER.drew
      have qEO := EO.lt
      replace EO := EO.drew
      refine wp_yields 6 [.is (.agg #[.bool b1, .slice a1 x1.length n1, .slice e1 y1.length m1]), .is (.slice (some ⟨g, o, none⟩) rs.length cap), .is (.int .i64 i), .is (.pointer (some ⟨g, o + i * 3, none⟩)), .is (.agg #[.bool r.b, .slice r.a r.xs.length r.ca, .slice r.c r.ds.length r.cc]), (Yield.frac wr.heap.size (t) (1 + i * (m + 1) + m + 1))] (by kernel_rfl) (by kernel_rfl) (lt_cons ?_ (lt_cons ?_ (lt_cons ?_ (lt_cons ?_ (lt_cons ?_ (lt_cons ?_ lt_nil)))))) ?_
      case refine_1 =>
        refine OpDoes.mk rfl ?_
        intro vs V hV hd K hK
        have d0 : vs 0 = .agg #[.bool b1, .slice a1 x1.length n1, .slice e1 y1.length m1] := hd 0 (by decide) (by kernel_rfl)
        have d4 : vs 4 = .agg #[.bool r.b, .slice r.a r.xs.length r.ca, .slice r.c r.ds.length r.cc] := hd 4 (by decide) (by kernel_rfl)
        simp only [laidIn, lz1, lz2, lz3, lz4, lz5, lz6, if_true, Act.put, lz7, lz8, lz9] at hK ⊢
        simp only [d0, d4] at hK ⊢
        go_simp
        go_at_call 99
        refine (kproduct_any b1 r.b (FC.below hV) (FR1.below hV) I1 I2 hbd).mono ?_
        rintro e V' ⟨g2, a2, c2, x2, e2, t2, y2, rfl, F2, P2, I2, hb⟩
        replace I2 : Is g2 x2 y2 (t) (1 + i * (m + 1) + m + 1) := (I2.mono (by omega)).to HT.out
        exact hK.out _ _ hb ⟨_, _, _, _, _, _, _, rfl, F2.mono hV.size, P2, I2⟩ (not_fresh rfl)
      case refine_2 =>
        refine OpDoes.mk rfl ?_
        intro vs V hV hd K hK
        have d3 : vs 3 = .pointer (some ⟨g, o + i * 3, none⟩) := hd 3 (by decide) (by kernel_rfl)
        have hcc := (R.below hV).cells g o i r rfl hr.out
        have k0 := hcc.1
        have k1 := hcc.2.1
        have k2 := hcc.2.2
        clear hcc
        simp only [laidIn, lz1, lz2, lz3, lz4, lz5, lz6, if_true, Act.put, lz7, lz8, lz9] at hK ⊢
        simp only [d3] at hK ⊢
        go_simp
        exact hK.out _ _ (Below.refl _ _) rfl (not_fresh rfl)
      case refine_3 =>
        refine OpDoes.mk rfl ?_
        intro vs V hV hd K hK
        have d1 : vs 1 = .slice (some ⟨g, o, none⟩) rs.length cap := hd 1 (by decide) (by kernel_rfl)
        have d2 : vs 2 = .int .i64 i := hd 2 (by decide) (by kernel_rfl)
        simp only [laidIn, lz1, lz2, lz3, lz4, lz5, lz6, if_true, Act.put, lz7, lz8, lz9] at hK ⊢
        simp only [d1, d2] at hK ⊢
        go_simp
        exact hK.out _ _ (Below.refl _ _) rfl (not_fresh rfl)
      case refine_4 =>
        refine OpDoes.mk rfl ?_
        intro vs V hV hd K hK
        simp only [laidIn, lz1, lz2, lz3, lz4, lz5, lz6, if_true, Act.put, lz7, lz8, lz9] at hK ⊢
        go_simp
        exact hK.out _ _ (Below.refl _ _) rfl (not_fresh rfl)
      case refine_5 =>
        refine OpDoes.mk rfl ?_
        intro vs V hV hd K hK
        simp only [laidIn, lz1, lz2, lz3, lz4, lz5, lz6, if_true, Act.put, lz7, lz8, lz9] at hK ⊢
        go_simp
        exact hK.out _ _ (Below.refl _ _) rfl (not_fresh rfl)
      case refine_6 =>
        refine OpDoes.mk rfl ?_
        intro vs V hV hd K hK
        have hcc := (EO.below hV).three
        have k0 := hcc.1
        have k1 := hcc.2.1
        have k2 := hcc.2.2.1
        clear hcc
        simp only [laidIn, lz1, lz2, lz4, lz5, lz6, if_true, Act.put, lz7, lz8, lz9] at hK ⊢
        go_simp
        exact hK.out _ _ (Below.refl _ _) rfl (not_fresh rfl)
      case refine_7 =>
        intro vs Y1 hV hR hne fuel
        have d0 : vs 0 = .agg #[.bool b1, .slice a1 x1.length n1, .slice e1 y1.length m1] := hR 0 (by decide)
        have d1 : vs 1 = .slice (some ⟨g, o, none⟩) rs.length cap := hR 1 (by decide)
        have d2 : vs 2 = .int .i64 i := hR 2 (by decide)
        have d3 : vs 3 = .pointer (some ⟨g, o + i * 3, none⟩) := hR 3 (by decide)
        have d4 : vs 4 = .agg #[.bool r.b, .slice r.a r.xs.length r.ca, .slice r.c r.ds.length r.cc] := hR 4 (by decide)
        have hh := fun (P : Prop) => Yield.frac_elim P (show ((Yield.frac wr.heap.size (t) (1 + i * (m + 1) + m + 1)) : Yield).At (vs 5) Y1 from hR 5 (by decide))
        refine hh _ ?_
        intro g2 a2 c2 x2 e2 t2 y2 d5 F2 P2 I2
        clear hh
        replace R := R.below hV
        replace FC := FC.below hV
        replace FR1 := FR1.below hV
        replace ER := ER.below hV
        replace EO := EO.below hV
        have hr := hV
        simp only [laidIn, lz4, lz5, lz6, if_true, Act.put, lz7, lz8, lz9]
        simp only [d0, d1, d2, d3, d4, d5]
        clear hR hne hV d0 d1 d2 d3 d4 d5
        clear vs
        show wpAny _ _ _ _ (fuel + 1) _ _ _
        refine wpAny_all (rs := [6]) (by kernel_rfl) (by simp) (fun i hi => ?_)
        obtain rfl : i = 6 := by simpa using hi
        clear hi
        have hcc := EO.three
        have k0 := hcc.1
        have k1 := hcc.2.1
        have k2 := hcc.2.2.1
        have f0 := hcc.2.2.2.1
        have f1 := hcc.2.2.2.2.1
        have f2 := hcc.2.2.2.2.2
        clear hcc
        refine wpOp_step rfl (fun K hK => ?_)
        simp only [lz1, lz2, lz3]
        rw [if_pos (by rfl)]
        go_simp
        refine hK _ _ ?_
        clear hK k0 f0 k1 f1 k2 f2
        have hT := turns3 (kk) Y1 (.bool g2) (.slice a2 x2.length c2) (.slice e2 y2.length t2)
        replace R := R.beside EO (noWord3 (fun _ e => by cases e) (fun _ e => by cases e) (fun _ e => by cases e)) hT (by first | exact RO1 | exact RO2 | exact RO3)
        replace FC := FC.beside EO (noWord3 (fun _ e => by cases e) (fun _ e => by cases e) (fun _ e => by cases e)) hT
        replace FR1 := FR1.beside EO (noWord3 (fun _ e => by cases e) (fun _ e => by cases e) (fun _ e => by cases e)) hT
        replace ER := ER.turns hT (by omega)
        replace F2 := F2.beside EO (noWord3 (fun _ e => by cases e) (fun _ e => by cases e) (fun _ e => by cases e)) hT
        replace EO := Box.set3 (.bool g2) (.slice a2 x2.length c2) (.slice e2 y2.length t2) EO
        have hr6 := hT.below
        obtain ⟨X1, hX⟩ := nm hT.below
        rw [hX] at R FC FR1 ER EO F2 hr6 ⊢
        clear hX hT
        refine wpAny_done (by kernel_rfl) ?_ _
        replace hB := hB.trans ((Below.trans (Below.drew (Below.refl wr.heap.size wr)) hr).mono hB.size)
        replace hB := hB.trans (hr6.mono (by omega))
        have zz5_1 := hr.size
        have zi1 := hB.size
        have zy1_6 := hr6.size
        clear hr hr6
        have hms : rs.length - (i + 1) < rs.length - i := by omega
        go_wp2
        refine ⟨⟨i + 1, g2, a2, c2, x2, e2, t2, y2, t, by simp, by omega, R, ER, EO, hB, F2.mono zB, P2, I2.mono (by rw [Nat.add_mul, Nat.one_mul]; omega), ?_⟩, by simpa [intOf] using hms⟩
        rw [Hid, ← HM.out, opFold_drop hr.out, show opMul q1 r.q = some t by rw [← HT.out]; rfl]
    · have hnl : ¬ (i : Int) < (rs.length : Int) := by omega
      have hq : q1 = mulQ rs := by
        have h := HM.out
        rw [List.drop_of_length_le (by omega)] at h
        exact Option.some.inj h
      have IZ := (I1.mono (show 1 + i * (m + 1) ≤ 1 + rs.length * (m + 1) from Nat.add_le_add_left (Nat.mul_le_mul_right _ hi) _)).to hq
      clear hq HM I1
      obtain ⟨k0, k1, k2, f0, f1, f2⟩ := ER.three
      obtain ⟨k3, k4, k5, f3, f4, f5⟩ := EO.three
      have hcc := ER.three
      have r0 := hcc.1
      have r1 := hcc.2.1
      have r2 := hcc.2.2.1
      clear hcc
      have qER := ER.lt
      have qEO := EO.lt
      have hs0 := Nat.le_refl wr.heap.size
      have hT := turns3 (w.heap.size) wr (.bool b1) (.slice a1 x1.length n1) (.slice e1 y1.length m1)
      replace FC := FC.beside ER (noWord3 (fun _ e => by cases e) (fun _ e => by cases e) (fun _ e => by cases e)) hT
      replace EO := EO.turns hT (by omega)
      replace ER := Box.set3 (.bool b1) (.slice a1 x1.length n1) (.slice e1 y1.length m1) ER
      replace hB := hB.trans (hT.below.mono (by omega))
      replace hs0 := Nat.le_trans hs0 hT.below.size
      clear hT
      go_wp2
      refine bodyPost_ret (v := .tuple #[.agg #[.bool b1, .slice a1 x1.length n1, .slice e1 y1.length m1], .int .i64 0]) (by simp [results, Tryz.f63, go_sem, r0, r1, r2]) rfl ?_
      exact ⟨_, _, _, _, _, _, _, rfl, FC, PC, IZ, hB⟩
end Go.Proofs.YtejocefblpkdjaaGreat
