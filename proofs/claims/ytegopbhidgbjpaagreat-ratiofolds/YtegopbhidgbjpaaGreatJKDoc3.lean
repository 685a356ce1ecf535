/-
  Joined: KDoc3 RatQ KDoc4 KFold KPower KRound RatU RatT2 RatT3 OwnR RatZ RFolds.
-/
import Derived.Test.YtegopbhidgbjpaaGreatJSigB
import Derived.Test.YtegopbhidgbjpaaGreatJRatH
import Derived.OwnWalk
import Derived.Maps.AppendAt
namespace Go.Proofs.YtegopbhidgbjpaaGreat
open Go.RowKit
set_option maxRecDepth 100000 in
set_option maxHeartbeats 4000000 in
theorem kone_any (w : World) : Calls Tryz.prog 25 #[] w fun e w' => ∃ (a : Option Addr) (c : Nat) (z : List Int), e = .returned (.slice a z.length c) ∧ Seg w.heap.size w' (.slice a z.length c) z ∧ Norm z ∧ val z = 1 ∧ z.length ≤ 1 ∧ Below w.heap.size w w' := by
  have s := seg_lit w [1] (words_of rfl)
  have hb : Below w.heap.size w (w.alloc (.cells #[.int .u64 1] 42)) := (Below.refl _ w).a1 _
  go_enter Tryz.func25, Tryz.ntmps25
  go_wp2
  go_ret
  exact ⟨_, _, [1], rfl, s, Or.inr (by decide), by decide, by decide, hb⟩
set_option maxRecDepth 100000 in
set_option maxHeartbeats 1000000 in
theorem kcheck_any {lo : Nat} {a c : Option Addr} {ca cc : Nat} {xs ds : List Int} {w : World} (b : Bool) (h : Fr lo w a ca xs c cc ds) (hl : xs.length ≤ 1000) (hl' : ds.length ≤ 1000) :
    Calls Tryz.prog 13 #[.agg #[.bool b, .slice a xs.length ca, .slice c ds.length cc]] w fun e w' => e = .returned (.int .i64 (formR b xs ds)) ∧ Below w.heap.size w w' := by
  have hB0 : Below w.heap.size w (w.alloc (.cells #[.bool b, .slice a xs.length ca, .slice c ds.length cc] 30)) := (Below.refl _ w).alloc (Nat.le_refl _) _
  have E := Box.new w (.cells #[.bool b, .slice a xs.length ca, .slice c ds.length cc] 30)
  have hck := icheck_any b (h.up.below hB0) (by omega)
  obtain ⟨f, hf⟩ : ∃ f, formI b xs = f := ⟨_, rfl⟩
  have HR : Hid (formR b xs ds = if f = 0 ∧ formOf ds = 0 ∧ ds ≠ [] ∧ gcdI (val xs) (val ds) = 1 then 0 else 6) := by rw [Hid, ← hf]; rfl
  rw [hf] at hck
  clear hf
  go_enter Tryz.func13, Tryz.ntmps13
  go_wp2_with fail
  refine hck.mono ?_
  rintro e w1 ⟨rfl, hb1⟩
  have E1 := E.below hb1
  have hB1 := hB0.trans (hb1.mono hB0.size)
  obtain ⟨k0, k1, k2, _⟩ := E1.three
  clear hck
  by_cases h0 : f = 0
  · subst h0
    have hc := (rcheck_any (h.down.below hB1) (by omega)).mono (fun e w' k => (⟨k.1, k.2 ▸ Below.refl _ _⟩ : _ ∧ Below w1.heap.size w1 w'))
    obtain ⟨g, hg⟩ : ∃ g, formOf ds = g := ⟨_, rfl⟩
    rw [hg] at hc
    have HG := hide hg
    clear hg
    go_wp2_with fail
    refine hc.mono ?_
    rintro e w2 ⟨rfl, hb2⟩
    have E2 := E1.below hb2
    have hB2 := hB1.trans (hb2.mono hB1.size)
    clear hc k0 k1 k2
    obtain ⟨k0, k1, k2, _⟩ := E2.three
    by_cases h1 : g = 0
    · subst h1
      by_cases h2 : ds = []
      · subst h2
        go_wp2
        go_ret
        exact ⟨ret_int (by rw [HR.out, if_neg (by simp)]), hB2⟩
      · have hz : ((ds.length : Int) == 0) = false := beq_eq_false_iff_ne.2 (by have := List.length_pos_iff.2 h2; omega)
        have hgc := rgcd_any (h.up.below hB2) (h.down.below hB2) (by omega) (by omega)
        have hlt := val_lt h.down.words
        have hp : 0 < val ds := norm_pos h.down.words (formOf_norm.1 HG.out) h2
        have hgl : gcdI (val xs) (val ds) ≤ val ds := by
          rw [gcdI_gcd (val_nonneg h.up.words) (by omega)]
          exact Int.le_of_dvd hp (Int.gcd_dvd_right ..)
        have H2 := hide h2
        clear h2 hp
        go_wp2_with fail
        refine hgc.mono ?_
        rintro e w3 ⟨a3, c3, gs, rfl, hs3, n3, v3, hl3, hb3⟩
        have hB3 := hB2.trans (hb3.mono hB2.size)
        have V3 := hide v3
        clear hgc v3 k0 k1 k2 hlt hgl
        go_wp2_with fail
        refine (kone_any _).mono ?_
        rintro e w4 ⟨a4, c4, os, rfl, hs4, n4, v4, hl4, hb4⟩
        have hB4 := hB3.trans (hb4.mono hB3.size)
        have hcm := (rcmp_any (hs3.below hb4) hs4 (by omega) (by omega)).mono (fun e w' k => (⟨k.1, k.2 ▸ Below.refl _ _⟩ : _ ∧ Below w4.heap.size w4 w'))
        rw [v4] at hcm
        obtain ⟨x, hx⟩ : ∃ x, cmpI (val gs) 1 = x := ⟨_, rfl⟩
        rw [hx] at hcm
        have HX := hide hx
        clear hx v4
        go_wp2_with fail
        refine hcm.mono ?_
        rintro e w5 ⟨rfl, hb5⟩
        have hB5 := hB4.trans (hb5.mono hB4.size)
        clear hcm
        by_cases hx0 : x = 0
        · subst hx0
          have hg1 : val gs = 1 := by
            have := HX.out
            unfold cmpI at this
            split at this
            · omega
            · split at this <;> omega
          have HG1 := hide hg1
          clear hg1
          go_wp2
          go_ret
          refine ⟨ret_int ?_, hB5⟩
          rw [HR.out, if_pos ⟨by simp, HG.out, H2.out, by rw [← V3.out]; exact HG1.out⟩]
        · have hxn : (x != 0) = true := bne_iff_ne.2 hx0
          have HX0 := hide hx0
          clear hx0
          go_wp2
          go_ret
          refine ⟨ret_int ?_, hB5⟩
          rw [HR.out, if_neg]
          rintro ⟨_, _, _, h4⟩
          apply HX0.out
          rw [← HX.out, V3.out, h4, cmpI_eq]
    · have hne : (g != 0) = true := bne_iff_ne.2 h1
      have H1 := hide h1
      clear h1
      go_wp2
      go_ret
      exact ⟨ret_int (by rw [HR.out, if_neg (by rw [HG.out]; rintro ⟨_, q, _⟩; exact H1.out q)]), hB2⟩
  · have hne : (f != 0) = true := bne_iff_ne.2 h0
    have H0 := hide h0
    clear h0
    go_wp2
    go_ret
    exact ⟨ret_int (by rw [HR.out, if_neg (by rintro ⟨q, _⟩; exact H0.out q)]), hB1⟩
set_option maxRecDepth 100000 in
set_option maxHeartbeats 2000000 in
theorem kfine_any {sv : Option Addr} {cap : Nat} {rs : List RV} {w : World} (R : Row 0 w sv rs) (hrl : rs.length ≤ 1000) (hlen : ∀ r ∈ rs, r.xs.length ≤ 1000 ∧ r.ds.length ≤ 1000) (v : Bool) (hv : GoodIs v rs) :
    Calls Tryz.prog 24 #[.slice sv rs.length cap] w fun e w' => e = .returned (.bool v) ∧ Below w.heap.size w w' := by
  go_enter Tryz.func24, Tryz.ntmps24
  go_wp2
  go_loopw [3] (fun iv wr => ∃ (i : Nat), iv = .int .i64 i ∧ i ≤ rs.length ∧ Row 0 wr sv rs ∧ Below w.heap.size w wr ∧ Hid (∀ r ∈ rs.take i, formR r.b r.xs r.ds = 0)) (fun iv _ => rs.length - (intOf iv).toNat)
  case atStart => exact ⟨0, rfl, Nat.zero_le _, R, Below.refl _ _, by rw [Hid]; simp⟩
  case round =>
    clear R
    obtain ⟨i, rfl, hi, R, hB, HG⟩ := hrel
    have hw1 : IntKind.i64.wrap ((i : Int) + 1) = (i : Int) + 1 := by rw [IntKind.wrap_i64]; omega
    by_cases hlt : i < rs.length
    · have hlt2 : (i : Int) < (rs.length : Int) := by omega
      have hge : ¬ (i : Int) < 0 := by omega
      obtain ⟨g, o, rfl, hg⟩ := R.at_ i hlt
      obtain ⟨r, hr0⟩ : ∃ r, rs[i]? = some r := ⟨rs[i], List.getElem?_eq_getElem hlt⟩
      have hr := hide hr0
      have F1 := R.held i r hr0
      clear hr0
      have hlr := hlen r (List.mem_of_getElem? hr.out)
      have hcc := R.cells g o i r rfl hr.out
      have c0 := hcc.1
      have c1 := hcc.2.1
      have c2 := hcc.2.2
      have hk := kcheck_any r.b F1 (by omega) (by omega)
      have hms : rs.length - (i + 1) < rs.length - i := by omega
      clear hcc
      rcases formR_or r.b r.xs r.ds with h | h
      · rw [h] at hk
        have H := hide h
        clear h
        go_wp2_with fail
        refine hk.mono ?_
        rintro e w1 ⟨rfl, hb1⟩
        have R1 := R.below hb1
        have hB1 := hB.trans (hb1.mono hB.size)
        clear hk c0 c1 c2
        go_wp2
        refine ⟨⟨i + 1, by simp, by omega, R1, hB1, ?_⟩, by simpa [intOf] using hms⟩
        rw [Hid]
        intro s hs
        rw [List.take_add_one, hr.out] at hs
        simp only [Option.toList_some, List.mem_append, List.mem_singleton] at hs
        rcases hs with hs | rfl
        · exact HG.out s hs
        · exact H.out
      · rw [h] at hk
        obtain rfl : v = false := by
          cases v
          · rfl
          · have := hv.out.1 rfl r (List.mem_of_getElem? hr.out)
            rw [h] at this
            exact absurd this (by decide)
        clear h
        go_wp2_with fail
        refine hk.mono ?_
        rintro e w1 ⟨rfl, hb1⟩
        have hB1 := hB.trans (hb1.mono hB.size)
        clear hk c0 c1 c2
        go_wp2
        go_ret
        exact ⟨rfl, hB1⟩
    · have hnl : ¬ (i : Int) < (rs.length : Int) := by omega
      obtain rfl : v = true := hv.out.2 (by have := HG.out; rw [List.take_of_length_le (by omega)] at this; exact this)
      go_wp2
      go_ret
      exact ⟨rfl, hB⟩
theorem long_no (rs : List RV) (h6 : rs.length ≤ 6) (h : ∀ r ∈ rs, r.xs.length ≤ 5 ∧ r.ds.length ≤ 5) : LongIs false rs := by
  refine ⟨⟨(fun h => by cases h), ?_⟩⟩
  rintro (h1 | ⟨r, hr, hl⟩)
  · omega
  · have := h r (List.mem_of_mem_take hr)
    simp [longB] at hl
    omega
theorem long_yes (rs : List RV) (h : ∃ r ∈ rs.take 7, ¬ (r.xs.length ≤ 5 ∧ r.ds.length ≤ 5)) : LongIs true rs := by
  refine ⟨⟨fun _ => ?_, fun _ => rfl⟩⟩
  obtain ⟨r, hr, hl⟩ := h
  refine Or.inr ⟨r, hr, ?_⟩
  simp [longB]
  omega
theorem good_yes (rs : List RV) (h : ∀ r ∈ rs, formR r.b r.xs r.ds = 0) : GoodIs true rs := ⟨⟨fun _ => h, fun _ => rfl⟩⟩
theorem good_no (rs : List RV) (h : ¬ ∀ r ∈ rs, formR r.b r.xs r.ds = 0) : GoodIs false rs := ⟨⟨(fun h => by cases h), fun h' => absurd h' h⟩⟩
def Yield.turn (f : Bool → Value → Value) (lo : Nat) (ys : List Int) (q : Rat) (n : Nat) : Yield := .rel (fun v W => ∃ (g : Bool) (a : Option Addr) (c : Nat) (z : List Int), v = f g (.slice a z.length c) ∧ Seg lo W (.slice a z.length c) z ∧ Is g z ys q n)
  (fun _ _ _ hb ⟨g, a, c, z, e, s, r⟩ => ⟨g, a, c, z, e, s.below hb, r⟩)
def FeSaid (q : Rat) (n : Nat) (w : World) (e : Ending) (w' : World) : Prop := ∃ (b' : Bool) (a' : Option Addr) (ca' : Nat) (ts' : List Int) (c' : Option Addr) (cc' : Nat) (es' : List Int), e = .returned (.tuple #[.agg #[.bool b', .slice a' ts'.length ca', .slice c' es'.length cc'], .int .i64 0]) ∧ Fr w.heap.size w' a' ca' ts' c' cc' es' ∧ Apart a' c' ts' es' ∧ Is b' ts' es' (q) (n) ∧ Below w.heap.size w w'
theorem one_is {g : Bool} {zu zd : List Int} (N1 : Canon g zu) (V1 : Hid (sgn g (val zu) = 1)) (N2 : Norm zd) (V2 : Hid (val zd = 1)) (l1 : zu.length ≤ 1) (l2 : zd.length ≤ 1) : Is g zu zd 1 1 := by
  refine ⟨⟨N1, N2, ?_⟩, ?_, l1, l2⟩
  · rw [V1.out, V2.out]; exact ⟨by decide, by decide⟩
  · rw [ratL, V1.out, V2.out]; decide +kernel
set_option maxRecDepth 100000 in
set_option maxHeartbeats 4000000 in
theorem kadd_no {sv : Option Addr} {cap : Nat} {rs : List RV} {w : World} (R : Row 0 w sv rs) (hrl : rs.length ≤ 6) {m : Nat} (hlen : ∀ r ∈ rs, r.xs.length ≤ m ∧ r.ds.length ≤ m) (hm : m ≤ 40) (hg : ¬ ∀ r ∈ rs, formR r.b r.xs r.ds = 0) :
    Calls Tryz.prog 8 #[.slice sv rs.length cap] w fun e w' => e = .returned (.tuple #[.agg #[.bool false, .slice none 0 0, .slice none 0 0], .int .i64 6]) ∧ Below w.heap.size w w' := by
  have hlen0 : Hid (∀ r ∈ rs, r.xs.length ≤ 1000 ∧ r.ds.length ≤ 1000) := fun r hr => by have := hlen r hr; omega
  have HG := good_no rs hg
  have hB := Below.refl w.heap.size w
  clear hg
  go_enter Tryz.func8, Tryz.ntmps8
  have hs0 := Nat.le_refl w.heap.size
  have hq := below_new w (.cells #[.bool false, .slice none 0 0, .slice none 0 0] 30)
  replace R := R.below hq
  have ER := Box.put (w := w) (k := (w.heap.size)) (.cells #[.bool false, .slice none 0 0, .slice none 0 0] 30) rfl
  replace hs0 := Nat.le_trans hs0 hq.size
  replace hB := hB.trans (hq.mono hB.size)
  clear hq
  go_wp2_with fail
  obtain ⟨u1, hname⟩ := nm hB
  rw [hname] at hs0 hB R ER ⊢
  have zh1 := hB.size
  have zs1 := hs0
  clear hname hs0
  refine (kfine_any (cap := cap) R (by omega) hlen0.out false HG).mono ?_
  rintro e w2 ⟨rfl, hb⟩
  replace R := R.below hb
  replace ER := ER.below hb
  replace hB := hB.trans (hb.mono hB.size)
  have zz2 := hb.size
  have zh2 := hB.size
  clear hb
  clear R
  obtain ⟨k0, k1, k2, f0, f1, f2⟩ := ER.three
  have hcc := ER.three
  have r0 := hcc.1
  have r1 := hcc.2.1
  have r2 := hcc.2.2.1
  clear hcc
  have qER := ER.lt
  have hs0 := Nat.le_refl w2.heap.size
  have hT := turns3 (w.heap.size) w2 (.bool false) (.slice none 0 0) (.slice none 0 0)
  replace ER := Box.set3 (.bool false) (.slice none 0 0) (.slice none 0 0) ER
  replace hB := hB.trans (hT.below.mono (by omega))
  replace hs0 := Nat.le_trans hs0 hT.below.size
  clear hT
  go_wp2
  refine bodyPost_ret (v := .tuple #[.agg #[.bool false, .slice none 0 0, .slice none 0 0], .int .i64 6]) (by simp [results, Tryz.f8, go_sem, r0, r1, r2]) rfl ?_
  exact ⟨rfl, hB⟩
set_option maxRecDepth 100000 in
set_option maxHeartbeats 4000000 in
theorem kadd_ok {sv : Option Addr} {cap : Nat} {rs : List RV} {w : World} (R : Row 0 w sv rs) (hrl : rs.length ≤ 6) {m : Nat} (hlen : ∀ r ∈ rs, r.xs.length ≤ m ∧ r.ds.length ≤ m) (hm : m ≤ 40) (hg : ∀ r ∈ rs, formR r.b r.xs r.ds = 0) :
    Calls Tryz.prog 8 #[.slice sv rs.length cap] w fun e w' => FeSaid (sumQ rs) (1 + rs.length * (m + 1)) w e w' := by
  have hlen0 : Hid (∀ r ∈ rs, r.xs.length ≤ 1000 ∧ r.ds.length ≤ 1000) := fun r hr => by have := hlen r hr; omega
  have hR : ∀ g o, sv = some ⟨g, o, none⟩ → rs ≠ [] → g < w.heap.size := fun g o e hne => by
    obtain ⟨g', o', e', hg⟩ := R.at_ 0 (List.length_pos_iff.2 hne)
    rw [e] at e'
    simp only [Option.some.injEq, Addr.mk.injEq] at e'
    omega
  have HG := good_yes rs hg
  have hgood : ∀ r ∈ rs, Is r.b r.xs r.ds r.q m := fun r hr => by
    obtain ⟨j, hj⟩ := List.mem_iff_getElem?.1 hr
    have F := R.held j r hj
    exact ⟨(formR_low F.up.words F.down.words).1 (hg r hr), rfl, (hlen r hr).1, (hlen r hr).2⟩
  clear hg hlen
  have hB := Below.refl w.heap.size w
  go_enter Tryz.func8, Tryz.ntmps8
  have hs0 := Nat.le_refl w.heap.size
  have hq := below_new w (.cells #[.bool false, .slice none 0 0, .slice none 0 0] 30)
  replace R := R.below hq
  have ER := Box.put (w := w) (k := (w.heap.size)) (.cells #[.bool false, .slice none 0 0, .slice none 0 0] 30) rfl
  replace hs0 := Nat.le_trans hs0 hq.size
  replace hB := hB.trans (hq.mono hB.size)
  clear hq
  go_wp2_with fail
  obtain ⟨u1, hname⟩ := nm hB
  rw [hname] at hs0 hB R ER ⊢
  have zh1 := hB.size
  have zs1 := hs0
  clear hname hs0
  refine (kfine_any (cap := cap) R (by omega) hlen0.out true HG).mono ?_
  rintro e w2 ⟨rfl, hb⟩
  replace R := R.below hb
  replace ER := ER.below hb
  replace hB := hB.trans (hb.mono hB.size)
  have zz2 := hb.size
  have zh2 := hB.size
  clear hb
  obtain ⟨k0, k1, k2, f0, f1, f2⟩ := ER.three
  go_wp2_with fail
  clear k0 k1 k2 f0 f1 f2
  refine (kone_any _).mono ?_
  rintro e w3 ⟨a1, c1, z1, rfl, S1, N1, v1, l1, hb⟩
  have V1 : Hid (val z1 = (1 : Int)) := v1
  have b1 : z1.length ≤ 1 := by omega
  clear v1 l1
  replace R := R.below hb
  replace ER := ER.below hb
  replace hB := hB.trans (hb.mono hB.size)
  have zz3 := hb.size
  have zh3 := hB.size
  clear hb
  have I0 : Is false [] z1 0 1 := (is_small [] z1 0 norm_nil N1 rfl V1.out (by simp) b1).to (by simp)
  have P0 : Apart none a1 [] z1 := fun h => absurd rfl h
  have qER := ER.lt
  obtain ⟨kk, hK⟩ : ∃ K, w3.heap.size = K := ⟨_, rfl⟩
  have hKm : w.heap.size < kk := by omega
  have RO1 : RowOff kk sv rs := fun hne g o e h => by have hl := hR g o e hne; omega
  have RO2 : RowOff w.heap.size sv rs := fun hne g o e h => by have hl := hR g o e hne; omega
  obtain ⟨k0, k1, k2, f0, f1, f2⟩ := ER.three
  have hq := below_new w3 (.cells #[.bool false, .slice none 0 0, .slice a1 z1.length c1] 30)
  replace R := R.below hq
  replace ER := ER.below hq
  replace S1 := S1.below hq
  have EO : Box (w3.alloc (.cells #[.bool false, .slice none 0 0, .slice a1 z1.length c1] 30)) kk (.cells #[.bool false, .slice none 0 0, .slice a1 z1.length c1] 30) := Box.put (.cells #[.bool false, .slice none 0 0, .slice a1 z1.length c1] 30) hK
  replace hB := hB.trans (hq.mono hB.size)
  go_wp2
  clear hq k0 k1 k2 f0 f1 f2
  obtain ⟨v1, hname⟩ := nm hB
  rw [hname] at R ER EO hB S1 ⊢
  clear hname hK qER
  go_loopw [5] (fun iv wv => ∃ (i : Nat) (b1 : Bool) (a1 : Option Addr) (n1 : Nat) (x1 : List Int) (e1 : Option Addr) (m1 : Nat) (y1 : List Int) (q1 : Rat), iv = .int .i64 i ∧ i ≤ rs.length ∧ Row 0 wv sv rs ∧ Box wv w.heap.size (.cells #[.bool false, .slice none 0 0, .slice none 0 0] 30) ∧ Box wv kk (.cells #[.bool b1, .slice a1 x1.length n1, .slice e1 y1.length m1] 30) ∧ Below w.heap.size w wv ∧ Fr w.heap.size wv a1 n1 x1 e1 m1 y1 ∧ Apart a1 e1 x1 y1 ∧ Is b1 x1 y1 q1 (1 + i * (m + 1)) ∧ Hid (opFold opAdd q1 (rs.drop i) = some (sumQ rs))) (fun iv _ => rs.length - (intOf iv).toNat)
  case atStart => exact ⟨0, false, none, 0, [], a1, c1, z1, 0, rfl, Nat.zero_le _, R, ER, EO, hB, ⟨Seg.nil _ _, S1.mono (by omega)⟩, P0, I0.mono (by omega), by rw [Hid, List.drop_zero, opFold_add]; rfl⟩
  case round =>
    clear R ER EO hB I0 P0 S1
    obtain ⟨i, b1, a1, n1, x1, e1, m1, y1, q1, rfl, hi, R, ER, EO, hB, FC, PC, I1, HM⟩ := hrel
    have zB := hB.size
    have qER := ER.lt
    have qEO := EO.lt
    have hw1 : IntKind.i64.wrap ((i : Int) + 1) = (i : Int) + 1 := by rw [IntKind.wrap_i64]; omega
    by_cases hlt : i < rs.length
    · have hlt2 : (i : Int) < (rs.length : Int) := by omega
      have hge : ¬ (i : Int) < 0 := by omega
      obtain ⟨g, o, rfl, hg⟩ := R.at_ i hlt
      obtain ⟨r, hr0⟩ : ∃ r, rs[i]? = some r := ⟨rs[i], List.getElem?_eq_getElem hlt⟩
      have hr := hide hr0
      have FR1 := R.held i r hr0
      clear hr0
      have I2 := hgood r (List.mem_of_getElem? hr.out)
      have hbd : 1 + i * (m + 1) + m ≤ 400 := by have : i * (m + 1) ≤ 6 * (m + 1) := Nat.mul_le_mul_right _ (by omega); omega
      obtain ⟨t, ht⟩ : ∃ t, q1 + r.q = t := ⟨_, rfl⟩
      have HT := hide ht
      clear ht
      obtain ⟨k0, k1, k2, f0, f1, f2⟩ := ER.three
      obtain ⟨k3, k4, k5, f3, f4, f5⟩ := EO.three
      go_wp2_with fail
      clear k0 k1 k2 f0 f1 f2 k3 k4 k5 f3 f4 f5
      replace R := R.drew
      replace FC := FC.drew
      replace FR1 := FR1.drew
      have qER := ER.lt
      replace ER := ER.drew
      have qEO := EO.lt
      replace EO := EO.drew
      refine wp_yields 6 [.is (.agg #[.bool b1, .slice a1 x1.length n1, .slice e1 y1.length m1]), .is (.slice (some ⟨g, o, none⟩) rs.length cap), .is (.int .i64 i), .is (.pointer (some ⟨g, o + i * 3, none⟩)), .is (.agg #[.bool r.b, .slice r.a r.xs.length r.ca, .slice r.c r.ds.length r.cc]), (Yield.frac wr.heap.size (t) (1 + i * (m + 1) + m + 1))] (by kernel_rfl) (by kernel_rfl) (lt_cons ?_ (lt_cons ?_ (lt_cons ?_ (lt_cons ?_ (lt_cons ?_ (lt_cons ?_ lt_nil)))))) ?_
      case refine_1 =>
        refine OpDoes.mk rfl ?_
        intro vs V hV hd K hK
        have d0 : vs 0 = .agg #[.bool b1, .slice a1 x1.length n1, .slice e1 y1.length m1] := hd 0 (by decide) (by kernel_rfl)
        have d4 : vs 4 = .agg #[.bool r.b, .slice r.a r.xs.length r.ca, .slice r.c r.ds.length r.cc] := hd 4 (by decide) (by kernel_rfl)
        simp only [laidIn, lz1, lz2, lz3, lz4, lz5, lz6, if_true, Act.put, lz7, lz8, lz9] at hK ⊢
        simp only [d0, d4] at hK ⊢
        go_simp
        go_at_call 26
        refine (ksum_any b1 r.b (FC.below hV) (FR1.below hV) I1 I2 hbd).mono ?_
        rintro e V' ⟨g2, a2, c2, x2, e2, t2, y2, rfl, F2, P2, I2, hb⟩
        replace I2 : Is g2 x2 y2 (t) (1 + i * (m + 1) + m + 1) := (I2.mono (by omega)).to HT.out
        exact hK.out _ _ hb ⟨_, _, _, _, _, _, _, rfl, F2.mono hV.size, P2, I2⟩ (not_fresh rfl)
      case refine_2 =>
        refine OpDoes.mk rfl ?_
        intro vs V hV hd K hK
        have d3 : vs 3 = .pointer (some ⟨g, o + i * 3, none⟩) := hd 3 (by decide) (by kernel_rfl)
        have hcc := (R.below hV).cells g o i r rfl hr.out
        have k0 := hcc.1
        have k1 := hcc.2.1
        have k2 := hcc.2.2
        clear hcc
        simp only [laidIn, lz1, lz2, lz3, lz4, lz5, lz6, if_true, Act.put, lz7, lz8, lz9] at hK ⊢
        simp only [d3] at hK ⊢
        go_simp
        exact hK.out _ _ (Below.refl _ _) rfl (not_fresh rfl)
      case refine_3 =>
        refine OpDoes.mk rfl ?_
        intro vs V hV hd K hK
        have d1 : vs 1 = .slice (some ⟨g, o, none⟩) rs.length cap := hd 1 (by decide) (by kernel_rfl)
        have d2 : vs 2 = .int .i64 i := hd 2 (by decide) (by kernel_rfl)
        simp only [laidIn, lz1, lz2, lz3, lz4, lz5, lz6, if_true, Act.put, lz7, lz8, lz9] at hK ⊢
        simp only [d1, d2] at hK ⊢
        go_simp
        exact hK.out _ _ (Below.refl _ _) rfl (not_fresh rfl)
      case refine_4 =>
        refine OpDoes.mk rfl ?_
        intro vs V hV hd K hK
        simp only [laidIn, lz1, lz2, lz3, lz4, lz5, lz6, if_true, Act.put, lz7, lz8, lz9] at hK ⊢
        go_simp
        exact hK.out _ _ (Below.refl _ _) rfl (not_fresh rfl)
      case refine_5 =>
        refine OpDoes.mk rfl ?_
        intro vs V hV hd K hK
        simp only [laidIn, lz1, lz2, lz3, lz4, lz5, lz6, if_true, Act.put, lz7, lz8, lz9] at hK ⊢
        go_simp
        exact hK.out _ _ (Below.refl _ _) rfl (not_fresh rfl)
      case refine_6 =>
        refine OpDoes.mk rfl ?_
        intro vs V hV hd K hK
        have hcc := (EO.below hV).three
        have k0 := hcc.1
        have k1 := hcc.2.1
        have k2 := hcc.2.2.1
        clear hcc
        simp only [laidIn, lz1, lz2, lz4, lz5, lz6, if_true, Act.put, lz7, lz8, lz9] at hK ⊢
        go_simp
        exact hK.out _ _ (Below.refl _ _) rfl (not_fresh rfl)
      case refine_7 =>
        intro vs Y1 hV hR hne fuel
        have d0 : vs 0 = .agg #[.bool b1, .slice a1 x1.length n1, .slice e1 y1.length m1] := hR 0 (by decide)
        have d1 : vs 1 = .slice (some ⟨g, o, none⟩) rs.length cap := hR 1 (by decide)
        have d2 : vs 2 = .int .i64 i := hR 2 (by decide)
        have d3 : vs 3 = .pointer (some ⟨g, o + i * 3, none⟩) := hR 3 (by decide)
        have d4 : vs 4 = .agg #[.bool r.b, .slice r.a r.xs.length r.ca, .slice r.c r.ds.length r.cc] := hR 4 (by decide)
        have hh := fun (P : Prop) => Yield.frac_elim P (show ((Yield.frac wr.heap.size (t) (1 + i * (m + 1) + m + 1)) : Yield).At (vs 5) Y1 from hR 5 (by decide))
        refine hh _ ?_
        intro g2 a2 c2 x2 e2 t2 y2 d5 F2 P2 I2
        clear hh
        replace R := R.below hV
        replace FC := FC.below hV
        replace FR1 := FR1.below hV
        replace ER := ER.below hV
        replace EO := EO.below hV
        have hr := hV
        simp only [laidIn, lz4, lz5, lz6, if_true, Act.put, lz7, lz8, lz9]
        simp only [d0, d1, d2, d3, d4, d5]
        clear hR hne hV d0 d1 d2 d3 d4 d5
        clear vs
        show wpAny _ _ _ _ (fuel + 1) _ _ _
        refine wpAny_all (rs := [6]) (by kernel_rfl) (by simp) (fun i hi => ?_)
        obtain rfl : i = 6 := by simpa using hi
        clear hi
        have hcc := EO.three
        have k0 := hcc.1
        have k1 := hcc.2.1
        have k2 := hcc.2.2.1
        have f0 := hcc.2.2.2.1
        have f1 := hcc.2.2.2.2.1
        have f2 := hcc.2.2.2.2.2
        clear hcc
        refine wpOp_step rfl (fun K hK => ?_)
        simp only [lz1, lz2, lz3]
        rw [if_pos (by rfl)]
        go_simp
        refine hK _ _ ?_
        clear hK k0 f0 k1 f1 k2 f2
        have hT := turns3 (kk) Y1 (.bool g2) (.slice a2 x2.length c2) (.slice e2 y2.length t2)
        replace R := R.beside EO (noWord3 (fun _ e => by cases e) (fun _ e => by cases e) (fun _ e => by cases e)) hT (by first | exact RO1 | exact RO2 | exact RO3)
        replace FC := FC.beside EO (noWord3 (fun _ e => by cases e) (fun _ e => by cases e) (fun _ e => by cases e)) hT
        replace FR1 := FR1.beside EO (noWord3 (fun _ e => by cases e) (fun _ e => by cases e) (fun _ e => by cases e)) hT
        replace ER := ER.turns hT (by omega)
        replace F2 := F2.beside EO (noWord3 (fun _ e => by cases e) (fun _ e => by cases e) (fun _ e => by cases e)) hT
        replace EO := Box.set3 (.bool g2) (.slice a2 x2.length c2) (.slice e2 y2.length t2) EO
        have hr6 := hT.below
        obtain ⟨X1, hX⟩ := nm hT.below
        rw [hX] at R FC FR1 ER EO F2 hr6 ⊢
        clear hX hT
        refine wpAny_done (by kernel_rfl) ?_ _
        replace hB := hB.trans ((Below.trans (Below.drew (Below.refl wr.heap.size wr)) hr).mono hB.size)
        replace hB := hB.trans (hr6.mono (by omega))
        have zz3_1 := hr.size
        have zi1 := hB.size
        have zy1_6 := hr6.size
        clear hr hr6
        have hms : rs.length - (i + 1) < rs.length - i := by omega
        go_wp2
        refine ⟨⟨i + 1, g2, a2, c2, x2, e2, t2, y2, t, by simp, by omega, R, ER, EO, hB, F2.mono zB, P2, I2.mono (by rw [Nat.add_mul, Nat.one_mul]; omega), ?_⟩, by simpa [intOf] using hms⟩
        rw [Hid, ← HM.out, opFold_drop hr.out, show opAdd q1 r.q = some t by rw [← HT.out]; rfl]
    · have hnl : ¬ (i : Int) < (rs.length : Int) := by omega
      have hq : q1 = sumQ rs := by
        have h := HM.out
        rw [List.drop_of_length_le (by omega)] at h
        exact Option.some.inj h
      have IZ := (I1.mono (show 1 + i * (m + 1) ≤ 1 + rs.length * (m + 1) from Nat.add_le_add_left (Nat.mul_le_mul_right _ hi) _)).to hq
      clear hq HM I1
      obtain ⟨k0, k1, k2, f0, f1, f2⟩ := ER.three
      obtain ⟨k3, k4, k5, f3, f4, f5⟩ := EO.three
      have hcc := ER.three
      have r0 := hcc.1
      have r1 := hcc.2.1
      have r2 := hcc.2.2.1
      clear hcc
      have qER := ER.lt
      have qEO := EO.lt
      have hs0 := Nat.le_refl wr.heap.size
      have hT := turns3 (w.heap.size) wr (.bool b1) (.slice a1 x1.length n1) (.slice e1 y1.length m1)
      replace FC := FC.beside ER (noWord3 (fun _ e => by cases e) (fun _ e => by cases e) (fun _ e => by cases e)) hT
      replace EO := EO.turns hT (by omega)
      replace ER := Box.set3 (.bool b1) (.slice a1 x1.length n1) (.slice e1 y1.length m1) ER
      replace hB := hB.trans (hT.below.mono (by omega))
      replace hs0 := Nat.le_trans hs0 hT.below.size
      clear hT
      go_wp2
      refine bodyPost_ret (v := .tuple #[.agg #[.bool b1, .slice a1 x1.length n1, .slice e1 y1.length m1], .int .i64 0]) (by simp [results, Tryz.f8, go_sem, r0, r1, r2]) rfl ?_
      exact ⟨_, _, _, _, _, _, _, rfl, FC, PC, IZ, hB⟩
set_option maxRecDepth 100000 in
set_option maxHeartbeats 4000000 in
theorem kmul_no {sv : Option Addr} {cap : Nat} {rs : List RV} {w : World} (R : Row 0 w sv rs) (hrl : rs.length ≤ 6) {m : Nat} (hlen : ∀ r ∈ rs, r.xs.length ≤ m ∧ r.ds.length ≤ m) (hm : m ≤ 40) (hg : ¬ ∀ r ∈ rs, formR r.b r.xs r.ds = 0) :
    Calls Tryz.prog 11 #[.slice sv rs.length cap] w fun e w' => e = .returned (.tuple #[.agg #[.bool false, .slice none 0 0, .slice none 0 0], .int .i64 6]) ∧ Below w.heap.size w w' := by
  have hlen0 : Hid (∀ r ∈ rs, r.xs.length ≤ 1000 ∧ r.ds.length ≤ 1000) := fun r hr => by have := hlen r hr; omega
  have HG := good_no rs hg
  have hB := Below.refl w.heap.size w
  clear hg
  go_enter Tryz.func11, Tryz.ntmps11
  have hs0 := Nat.le_refl w.heap.size
  have hq := below_new w (.cells #[.bool false, .slice none 0 0, .slice none 0 0] 30)
  replace R := R.below hq
  have ER := Box.put (w := w) (k := (w.heap.size)) (.cells #[.bool false, .slice none 0 0, .slice none 0 0] 30) rfl
  replace hs0 := Nat.le_trans hs0 hq.size
  replace hB := hB.trans (hq.mono hB.size)
  clear hq
  go_wp2_with fail
  obtain ⟨u1, hname⟩ := nm hB
  rw [hname] at hs0 hB R ER ⊢
  have zh1 := hB.size
  have zs1 := hs0
  clear hname hs0
  refine (kfine_any (cap := cap) R (by omega) hlen0.out false HG).mono ?_
  rintro e w2 ⟨rfl, hb⟩
  replace R := R.below hb
  replace ER := ER.below hb
  replace hB := hB.trans (hb.mono hB.size)
  have zz2 := hb.size
  have zh2 := hB.size
  clear hb
  clear R
  obtain ⟨k0, k1, k2, f0, f1, f2⟩ := ER.three
  have hcc := ER.three
  have r0 := hcc.1
  have r1 := hcc.2.1
  have r2 := hcc.2.2.1
  clear hcc
  have qER := ER.lt
  have hs0 := Nat.le_refl w2.heap.size
  have hT := turns3 (w.heap.size) w2 (.bool false) (.slice none 0 0) (.slice none 0 0)
  replace ER := Box.set3 (.bool false) (.slice none 0 0) (.slice none 0 0) ER
  replace hB := hB.trans (hT.below.mono (by omega))
  replace hs0 := Nat.le_trans hs0 hT.below.size
  clear hT
  go_wp2
  refine bodyPost_ret (v := .tuple #[.agg #[.bool false, .slice none 0 0, .slice none 0 0], .int .i64 6]) (by simp [results, Tryz.f11, go_sem, r0, r1, r2]) rfl ?_
  exact ⟨rfl, hB⟩
set_option maxRecDepth 100000 in
set_option maxHeartbeats 4000000 in
theorem kmul_ok {sv : Option Addr} {cap : Nat} {rs : List RV} {w : World} (R : Row 0 w sv rs) (hrl : rs.length ≤ 6) {m : Nat} (hlen : ∀ r ∈ rs, r.xs.length ≤ m ∧ r.ds.length ≤ m) (hm : m ≤ 40) (hg : ∀ r ∈ rs, formR r.b r.xs r.ds = 0) :
    Calls Tryz.prog 11 #[.slice sv rs.length cap] w fun e w' => FeSaid (mulQ rs) (1 + rs.length * (m + 1)) w e w' := by
  have hlen0 : Hid (∀ r ∈ rs, r.xs.length ≤ 1000 ∧ r.ds.length ≤ 1000) := fun r hr => by have := hlen r hr; omega
  have hR : ∀ g o, sv = some ⟨g, o, none⟩ → rs ≠ [] → g < w.heap.size := fun g o e hne => by
    obtain ⟨g', o', e', hg⟩ := R.at_ 0 (List.length_pos_iff.2 hne)
    rw [e] at e'
    simp only [Option.some.injEq, Addr.mk.injEq] at e'
    omega
  have HG := good_yes rs hg
  have hgood : ∀ r ∈ rs, Is r.b r.xs r.ds r.q m := fun r hr => by
    obtain ⟨j, hj⟩ := List.mem_iff_getElem?.1 hr
    have F := R.held j r hj
    exact ⟨(formR_low F.up.words F.down.words).1 (hg r hr), rfl, (hlen r hr).1, (hlen r hr).2⟩
  clear hg hlen
  have hB := Below.refl w.heap.size w
  go_enter Tryz.func11, Tryz.ntmps11
  have hs0 := Nat.le_refl w.heap.size
  have hq := below_new w (.cells #[.bool false, .slice none 0 0, .slice none 0 0] 30)
  replace R := R.below hq
  have ER := Box.put (w := w) (k := (w.heap.size)) (.cells #[.bool false, .slice none 0 0, .slice none 0 0] 30) rfl
  replace hs0 := Nat.le_trans hs0 hq.size
  replace hB := hB.trans (hq.mono hB.size)
  clear hq
  go_wp2_with fail
  obtain ⟨u1, hname⟩ := nm hB
  rw [hname] at hs0 hB R ER ⊢
  have zh1 := hB.size
  have zs1 := hs0
  clear hname hs0
  refine (kfine_any (cap := cap) R (by omega) hlen0.out true HG).mono ?_
  rintro e w2 ⟨rfl, hb⟩
  replace R := R.below hb
  replace ER := ER.below hb
  replace hB := hB.trans (hb.mono hB.size)
  have zz2 := hb.size
  have zh2 := hB.size
  clear hb
  obtain ⟨k0, k1, k2, f0, f1, f2⟩ := ER.three
  go_wp2_with fail
  clear k0 k1 k2 f0 f1 f2
  refine (kone_any _).mono ?_
  rintro e w3 ⟨a1, c1, z1, rfl, S1, N1, v1, l1, hb⟩
  have V1 : Hid (val z1 = (1 : Int)) := v1
  have b1 : z1.length ≤ 1 := by omega
  clear v1 l1
  replace R := R.below hb
  replace ER := ER.below hb
  replace hB := hB.trans (hb.mono hB.size)
  have zz3 := hb.size
  have zh3 := hB.size
  clear hb
  obtain ⟨k0, k1, k2, f0, f1, f2⟩ := ER.three
  go_wp2_with fail
  clear k0 k1 k2 f0 f1 f2
  refine (kwhole_any S1 (by omega)).mono ?_
  rintro e w4 ⟨g2, a2, c2, z2, rfl, S2, N2, v2, l2, hb⟩
  have V2 : Hid (sgn g2 (val z2) = (1 : Int)) := by rw [Hid, v2.out, V1.out]
  have b2 : z2.length ≤ 1 := by omega
  clear v2 l2
  replace R := R.below hb
  replace ER := ER.below hb
  replace S1 := S1.below hb
  replace hB := hB.trans (hb.mono hB.size)
  have zz4 := hb.size
  have zh4 := hB.size
  clear hb
  have S2_0 := S2
  obtain ⟨k0, k1, k2, f0, f1, f2⟩ := ER.three
  go_wp2_with fail
  clear k0 k1 k2 f0 f1 f2
  refine (kone_any _).mono ?_
  rintro e w5 ⟨a3, c3, z3, rfl, S3, N3, v3, l3, hb⟩
  have V3 : Hid (val z3 = (1 : Int)) := v3
  have b3 : z3.length ≤ 1 := by omega
  clear v3 l3
  replace R := R.below hb
  replace ER := ER.below hb
  replace S1 := S1.below hb
  replace S2 := S2.below hb
  replace hB := hB.trans (hb.mono hB.size)
  have zz5 := hb.size
  have zh5 := hB.size
  clear hb
  have I0 : Is g2 z2 z3 1 1 := one_is N2 V2 N3 V3 b2 b3
  have P0 := hide (apart_of (fun h b o e => S2_0.block h b o e) S3 (by omega) : Apart a2 a3 z2 z3)
  have qER := ER.lt
  obtain ⟨kk, hK⟩ : ∃ K, w5.heap.size = K := ⟨_, rfl⟩
  have hKm : w.heap.size < kk := by omega
  have RO1 : RowOff kk sv rs := fun hne g o e h => by have hl := hR g o e hne; omega
  have RO2 : RowOff w.heap.size sv rs := fun hne g o e h => by have hl := hR g o e hne; omega
  obtain ⟨k0, k1, k2, f0, f1, f2⟩ := ER.three
  have hq := below_new w5 (.cells #[.bool g2, .slice a2 z2.length c2, .slice a3 z3.length c3] 30)
  replace R := R.below hq
  replace ER := ER.below hq
  replace S1 := S1.below hq
  replace S2 := S2.below hq
  replace S3 := S3.below hq
  have EO : Box (w5.alloc (.cells #[.bool g2, .slice a2 z2.length c2, .slice a3 z3.length c3] 30)) kk (.cells #[.bool g2, .slice a2 z2.length c2, .slice a3 z3.length c3] 30) := Box.put (.cells #[.bool g2, .slice a2 z2.length c2, .slice a3 z3.length c3] 30) hK
  replace hB := hB.trans (hq.mono hB.size)
  go_wp2
  clear hq k0 k1 k2 f0 f1 f2
  obtain ⟨v1, hname⟩ := nm hB
  rw [hname] at R ER EO hB S1 S2 S3 ⊢
  clear hname hK qER
  go_loopw [5] (fun iv wv => ∃ (i : Nat) (b1 : Bool) (a1 : Option Addr) (n1 : Nat) (x1 : List Int) (e1 : Option Addr) (m1 : Nat) (y1 : List Int) (q1 : Rat), iv = .int .i64 i ∧ i ≤ rs.length ∧ Row 0 wv sv rs ∧ Box wv w.heap.size (.cells #[.bool false, .slice none 0 0, .slice none 0 0] 30) ∧ Box wv kk (.cells #[.bool b1, .slice a1 x1.length n1, .slice e1 y1.length m1] 30) ∧ Below w.heap.size w wv ∧ Fr w.heap.size wv a1 n1 x1 e1 m1 y1 ∧ Apart a1 e1 x1 y1 ∧ Is b1 x1 y1 q1 (1 + i * (m + 1)) ∧ Hid (opFold opMul q1 (rs.drop i) = some (mulQ rs))) (fun iv _ => rs.length - (intOf iv).toNat)
  case atStart => exact ⟨0, g2, a2, c2, z2, a3, c3, z3, 1, rfl, Nat.zero_le _, R, ER, EO, hB, ⟨S2.mono (by omega), S3.mono (by omega)⟩, P0.out, I0.mono (by omega), by rw [Hid, List.drop_zero, opFold_mul]; rfl⟩
  case round =>
    clear R ER EO hB I0 P0 S1 S2 S3
    obtain ⟨i, b1, a1, n1, x1, e1, m1, y1, q1, rfl, hi, R, ER, EO, hB, FC, PC, I1, HM⟩ := hrel
    have zB := hB.size
    have qER := ER.lt
    have qEO := EO.lt
    have hw1 : IntKind.i64.wrap ((i : Int) + 1) = (i : Int) + 1 := by rw [IntKind.wrap_i64]; omega
    by_cases hlt : i < rs.length
    · have hlt2 : (i : Int) < (rs.length : Int) := by omega
      have hge : ¬ (i : Int) < 0 := by omega
      obtain ⟨g, o, rfl, hg⟩ := R.at_ i hlt
      obtain ⟨r, hr0⟩ : ∃ r, rs[i]? = some r := ⟨rs[i], List.getElem?_eq_getElem hlt⟩
      have hr := hide hr0
      have FR1 := R.held i r hr0
      clear hr0
      have I2 := hgood r (List.mem_of_getElem? hr.out)
      have hbd : 1 + i * (m + 1) + m ≤ 400 := by have : i * (m + 1) ≤ 6 * (m + 1) := Nat.mul_le_mul_right _ (by omega); omega
      obtain ⟨t, ht⟩ : ∃ t, q1 * r.q = t := ⟨_, rfl⟩
      have HT := hide ht
      clear ht
      obtain ⟨k0, k1, k2, f0, f1, f2⟩ := ER.three
      obtain ⟨k3, k4, k5, f3, f4, f5⟩ := EO.three
      go_wp2_with fail
      clear k0 k1 k2 f0 f1 f2 k3 k4 k5 f3 f4 f5
      replace R := R.drew
      replace FC := FC.drew
      replace FR1 := FR1.drew
      have qER := ER.lt
      replace ER := ER.drew
      have qEO := EO.lt
      replace EO := EO.drew
      refine wp_yields 6 [.is (.agg #[.bool b1, .slice a1 x1.length n1, .slice e1 y1.length m1]), .is (.slice (some ⟨g, o, none⟩) rs.length cap), .is (.int .i64 i), .is (.pointer (some ⟨g, o + i * 3, none⟩)), .is (.agg #[.bool r.b, .slice r.a r.xs.length r.ca, .slice r.c r.ds.length r.cc]), (Yield.frac wr.heap.size (t) (1 + i * (m + 1) + m + 1))] (by kernel_rfl) (by kernel_rfl) (lt_cons ?_ (lt_cons ?_ (lt_cons ?_ (lt_cons ?_ (lt_cons ?_ (lt_cons ?_ lt_nil)))))) ?_
      case refine_1 =>
        refine OpDoes.mk rfl ?_
        intro vs V hV hd K hK
        have d0 : vs 0 = .agg #[.bool b1, .slice a1 x1.length n1, .slice e1 y1.length m1] := hd 0 (by decide) (by kernel_rfl)
        have d4 : vs 4 = .agg #[.bool r.b, .slice r.a r.xs.length r.ca, .slice r.c r.ds.length r.cc] := hd 4 (by decide) (by kernel_rfl)
        simp only [laidIn, lz1, lz2, lz3, lz4, lz5, lz6, if_true, Act.put, lz7, lz8, lz9] at hK ⊢
        simp only [d0, d4] at hK ⊢
        go_simp
        go_at_call 30
        refine (kproduct_any b1 r.b (FC.below hV) (FR1.below hV) I1 I2 hbd).mono ?_
        rintro e V' ⟨g2, a2, c2, x2, e2, t2, y2, rfl, F2, P2, I2, hb⟩
        replace I2 : Is g2 x2 y2 (t) (1 + i * (m + 1) + m + 1) := (I2.mono (by omega)).to HT.out
        exact hK.out _ _ hb ⟨_, _, _, _, _, _, _, rfl, F2.mono hV.size, P2, I2⟩ (not_fresh rfl)
      case refine_2 =>
        refine OpDoes.mk rfl ?_
        intro vs V hV hd K hK
        have d3 : vs 3 = .pointer (some ⟨g, o + i * 3, none⟩) := hd 3 (by decide) (by kernel_rfl)
        have hcc := (R.below hV).cells g o i r rfl hr.out
        have k0 := hcc.1
        have k1 := hcc.2.1
        have k2 := hcc.2.2
        clear hcc
        simp only [laidIn, lz1, lz2, lz3, lz4, lz5, lz6, if_true, Act.put, lz7, lz8, lz9] at hK ⊢
        simp only [d3] at hK ⊢
        go_simp
        exact hK.out _ _ (Below.refl _ _) rfl (not_fresh rfl)
      case refine_3 =>
        refine OpDoes.mk rfl ?_
        intro vs V hV hd K hK
        have d1 : vs 1 = .slice (some ⟨g, o, none⟩) rs.length cap := hd 1 (by decide) (by kernel_rfl)
        have d2 : vs 2 = .int .i64 i := hd 2 (by decide) (by kernel_rfl)
        simp only [laidIn, lz1, lz2, lz3, lz4, lz5, lz6, if_true, Act.put, lz7, lz8, lz9] at hK ⊢
        simp only [d1, d2] at hK ⊢
        go_simp
        exact hK.out _ _ (Below.refl _ _) rfl (not_fresh rfl)
      case refine_4 =>
        refine OpDoes.mk rfl ?_
        intro vs V hV hd K hK
        simp only [laidIn, lz1, lz2, lz3, lz4, lz5, lz6, if_true, Act.put, lz7, lz8, lz9] at hK ⊢
        go_simp
        exact hK.out _ _ (Below.refl _ _) rfl (not_fresh rfl)
      case refine_5 =>
        refine OpDoes.mk rfl ?_
        intro vs V hV hd K hK
        simp only [laidIn, lz1, lz2, lz3, lz4, lz5, lz6, if_true, Act.put, lz7, lz8, lz9] at hK ⊢
        go_simp
        exact hK.out _ _ (Below.refl _ _) rfl (not_fresh rfl)
      case refine_6 =>
        refine OpDoes.mk rfl ?_
        intro vs V hV hd K hK
        have hcc := (EO.below hV).three
        have k0 := hcc.1
        have k1 := hcc.2.1
        have k2 := hcc.2.2.1
        clear hcc
        simp only [laidIn, lz1, lz2, lz4, lz5, lz6, if_true, Act.put, lz7, lz8, lz9] at hK ⊢
        go_simp
        exact hK.out _ _ (Below.refl _ _) rfl (not_fresh rfl)
      case refine_7 =>
        intro vs Y1 hV hR hne fuel
        have d0 : vs 0 = .agg #[.bool b1, .slice a1 x1.length n1, .slice e1 y1.length m1] := hR 0 (by decide)
        have d1 : vs 1 = .slice (some ⟨g, o, none⟩) rs.length cap := hR 1 (by decide)
        have d2 : vs 2 = .int .i64 i := hR 2 (by decide)
        have d3 : vs 3 = .pointer (some ⟨g, o + i * 3, none⟩) := hR 3 (by decide)
        have d4 : vs 4 = .agg #[.bool r.b, .slice r.a r.xs.length r.ca, .slice r.c r.ds.length r.cc] := hR 4 (by decide)
        have hh := fun (P : Prop) => Yield.frac_elim P (show ((Yield.frac wr.heap.size (t) (1 + i * (m + 1) + m + 1)) : Yield).At (vs 5) Y1 from hR 5 (by decide))
        refine hh _ ?_
        intro g2 a2 c2 x2 e2 t2 y2 d5 F2 P2 I2
        clear hh
        replace R := R.below hV
        replace FC := FC.below hV
        replace FR1 := FR1.below hV
        replace ER := ER.below hV
        replace EO := EO.below hV
        have hr := hV
        simp only [laidIn, lz4, lz5, lz6, if_true, Act.put, lz7, lz8, lz9]
        simp only [d0, d1, d2, d3, d4, d5]
        clear hR hne hV d0 d1 d2 d3 d4 d5
        clear vs
        show wpAny _ _ _ _ (fuel + 1) _ _ _
        refine wpAny_all (rs := [6]) (by kernel_rfl) (by simp) (fun i hi => ?_)
        obtain rfl : i = 6 := by simpa using hi
        clear hi
        have hcc := EO.three
        have k0 := hcc.1
        have k1 := hcc.2.1
        have k2 := hcc.2.2.1
        have f0 := hcc.2.2.2.1
        have f1 := hcc.2.2.2.2.1
        have f2 := hcc.2.2.2.2.2
        clear hcc
        refine wpOp_step rfl (fun K hK => ?_)
        simp only [lz1, lz2, lz3]
        rw [if_pos (by rfl)]
        go_simp
        refine hK _ _ ?_
        clear hK k0 f0 k1 f1 k2 f2
        have hT := turns3 (kk) Y1 (.bool g2) (.slice a2 x2.length c2) (.slice e2 y2.length t2)
        replace R := R.beside EO (noWord3 (fun _ e => by cases e) (fun _ e => by cases e) (fun _ e => by cases e)) hT (by first | exact RO1 | exact RO2 | exact RO3)
        replace FC := FC.beside EO (noWord3 (fun _ e => by cases e) (fun _ e => by cases e) (fun _ e => by cases e)) hT
        replace FR1 := FR1.beside EO (noWord3 (fun _ e => by cases e) (fun _ e => by cases e) (fun _ e => by cases e)) hT
        replace ER := ER.turns hT (by omega)
        replace F2 := F2.beside EO (noWord3 (fun _ e => by cases e) (fun _ e => by cases e) (fun _ e => by cases e)) hT
        replace EO := Box.set3 (.bool g2) (.slice a2 x2.length c2) (.slice e2 y2.length t2) EO
        have hr6 := hT.below
        obtain ⟨X1, hX⟩ := nm hT.below
        rw [hX] at R FC FR1 ER EO F2 hr6 ⊢
        clear hX hT
        refine wpAny_done (by kernel_rfl) ?_ _
        replace hB := hB.trans ((Below.trans (Below.drew (Below.refl wr.heap.size wr)) hr).mono hB.size)
        replace hB := hB.trans (hr6.mono (by omega))
        have zz5_1 := hr.size
        have zi1 := hB.size
        have zy1_6 := hr6.size
        clear hr hr6
        have hms : rs.length - (i + 1) < rs.length - i := by omega
        go_wp2
        refine ⟨⟨i + 1, g2, a2, c2, x2, e2, t2, y2, t, by simp, by omega, R, ER, EO, hB, F2.mono zB, P2, I2.mono (by rw [Nat.add_mul, Nat.one_mul]; omega), ?_⟩, by simpa [intOf] using hms⟩
        rw [Hid, ← HM.out, opFold_drop hr.out, show opMul q1 r.q = some t by rw [← HT.out]; rfl]
    · have hnl : ¬ (i : Int) < (rs.length : Int) := by omega
      have hq : q1 = mulQ rs := by
        have h := HM.out
        rw [List.drop_of_length_le (by omega)] at h
        exact Option.some.inj h
      have IZ := (I1.mono (show 1 + i * (m + 1) ≤ 1 + rs.length * (m + 1) from Nat.add_le_add_left (Nat.mul_le_mul_right _ hi) _)).to hq
      clear hq HM I1
      obtain ⟨k0, k1, k2, f0, f1, f2⟩ := ER.three
      obtain ⟨k3, k4, k5, f3, f4, f5⟩ := EO.three
      have hcc := ER.three
      have r0 := hcc.1
      have r1 := hcc.2.1
      have r2 := hcc.2.2.1
      clear hcc
      have qER := ER.lt
      have qEO := EO.lt
      have hs0 := Nat.le_refl wr.heap.size
      have hT := turns3 (w.heap.size) wr (.bool b1) (.slice a1 x1.length n1) (.slice e1 y1.length m1)
      replace FC := FC.beside ER (noWord3 (fun _ e => by cases e) (fun _ e => by cases e) (fun _ e => by cases e)) hT
      replace EO := EO.turns hT (by omega)
      replace ER := Box.set3 (.bool b1) (.slice a1 x1.length n1) (.slice e1 y1.length m1) ER
      replace hB := hB.trans (hT.below.mono (by omega))
      replace hs0 := Nat.le_trans hs0 hT.below.size
      clear hT
      go_wp2
      refine bodyPost_ret (v := .tuple #[.agg #[.bool b1, .slice a1 x1.length n1, .slice e1 y1.length m1], .int .i64 0]) (by simp [results, Tryz.f11, go_sem, r0, r1, r2]) rfl ?_
      exact ⟨_, _, _, _, _, _, _, rfl, FC, PC, IZ, hB⟩
end Go.Proofs.YtegopbhidgbjpaaGreat
namespace Go.Proofs.YtegopbhidgbjpaaGreat
open Go.RowKit
set_option maxRecDepth 100000 in
set_option maxHeartbeats 4000000 in
theorem copyr_any {lo : Nat} {a c : Option Addr} {ca cc : Nat} {xs ds : List Int} {w : World} (b : Bool) (FA : Fr lo w a ca xs c cc ds) (hl : xs.length ≤ 1000) (hl2 : ds.length ≤ 1000) :
    Calls Tryz.prog 6 #[.agg #[.bool b, .slice a xs.length ca, .slice c ds.length cc]] w fun e w' => ∃ (a' : Option Addr) (ca' : Nat) (c' : Option Addr) (cc' : Nat), e = .returned (.agg #[.bool b, .slice a' xs.length ca', .slice c' ds.length cc']) ∧ Fr w.heap.size w' a' ca' xs c' cc' ds ∧ Below w.heap.size w w' := by
  have hB := Below.refl w.heap.size w
  go_enter Tryz.func6, Tryz.ntmps6
  have hs0 := Nat.le_refl w.heap.size
  have hq := below_new w (.cells #[.bool b, .slice a xs.length ca, .slice c ds.length cc] 30)
  replace FA := FA.below hq
  have EA := Box.put (w := w) (k := (w.heap.size)) (.cells #[.bool b, .slice a xs.length ca, .slice c ds.length cc] 30) rfl
  replace hs0 := Nat.le_trans hs0 hq.size
  replace hB := hB.trans (hq.mono hB.size)
  clear hq
  have hq := below_new (w.alloc (.cells #[.bool b, .slice a xs.length ca, .slice c ds.length cc] 30)) (.cells #[.bool false, .slice none 0 0, .slice none 0 0] 30)
  replace FA := FA.below hq
  replace EA := EA.below hq
  have ER := Box.put (w := (w.alloc (.cells #[.bool b, .slice a xs.length ca, .slice c ds.length cc] 30))) (k := (w.heap.size + 1)) (.cells #[.bool false, .slice none 0 0, .slice none 0 0] 30) (by simp)
  replace hs0 := Nat.le_trans hs0 hq.size
  replace hB := hB.trans (hq.mono hB.size)
  clear hq
  go_wp2_with fail
  obtain ⟨u1, hname⟩ := nm hB
  rw [hname] at hs0 hB FA EA ER ⊢
  have zh1 := hB.size
  have zs1 := hs0
  clear hname hs0
  replace FA := FA.drew
  have qEA := EA.lt
  replace EA := EA.drew
  have qER := ER.lt
  replace ER := ER.drew
  refine wp_yields 7 [.is (.pointer (some ⟨w.heap.size, 0, none⟩)), .is (.agg #[.bool b, .slice a xs.length ca]), (Yield.copyw u1.heap.size b xs), .is (.pointer (some ⟨w.heap.size, 2, none⟩)), .is (.slice c ds.length cc), (Yield.copyn u1.heap.size ds), .is (.pointer (some ⟨w.heap.size, 0, none⟩))] (by kernel_rfl) (by kernel_rfl) (lt_cons ?_ (lt_cons ?_ (lt_cons ?_ (lt_cons ?_ (lt_cons ?_ (lt_cons ?_ (lt_cons ?_ lt_nil))))))) ?_
  case refine_1 =>
    refine OpDoes.mk rfl ?_
    intro vs V hV hd K hK
    simp only [laidIn, lz1, lz2, lz3, lz4, lz5, lz6, if_true, Act.put, lz7, lz8, lz9] at hK ⊢
    go_simp
    exact hK.out _ _ (Below.refl _ _) rfl (not_fresh rfl)
  case refine_2 =>
    refine OpDoes.mk rfl ?_
    intro vs V hV hd K hK
    have d4 : vs 4 = .slice c ds.length cc := hd 4 (by decide) (by kernel_rfl)
    simp only [laidIn, lz1, lz2, lz3, lz4, lz5, lz6, if_true, Act.put, lz7, lz8, lz9] at hK ⊢
    simp only [d4] at hK ⊢
    go_simp
    go_at_call 20
    refine (copy_any (FA.down.below hV) (by omega)).mono ?_
    rintro e V' ⟨a2, c2, rfl, S2, hb⟩
    exact hK.out _ _ hb ⟨_, _, rfl, S2.mono hV.size⟩ (not_fresh rfl)
  case refine_3 =>
    refine OpDoes.mk rfl ?_
    intro vs V hV hd K hK
    have d3 : vs 3 = .pointer (some ⟨w.heap.size, 2, none⟩) := hd 3 (by decide) (by kernel_rfl)
    have hcc := (EA.below hV).three
    have k0 := hcc.1
    have k1 := hcc.2.1
    have k2 := hcc.2.2.1
    clear hcc
    simp only [laidIn, lz1, lz2, lz3, lz4, lz5, lz6, if_true, Act.put, lz7, lz8, lz9] at hK ⊢
    simp only [d3] at hK ⊢
    go_simp
    exact hK.out _ _ (Below.refl _ _) rfl (not_fresh rfl)
  case refine_4 =>
    refine OpDoes.mk rfl ?_
    intro vs V hV hd K hK
    simp only [laidIn, lz1, lz2, lz3, lz4, lz5, lz6, if_true, Act.put, lz7, lz8, lz9] at hK ⊢
    go_simp
    exact hK.out _ _ (Below.refl _ _) rfl (not_fresh rfl)
  case refine_5 =>
    refine OpDoes.mk rfl ?_
    intro vs V hV hd K hK
    have d1 : vs 1 = .agg #[.bool b, .slice a xs.length ca] := hd 1 (by decide) (by kernel_rfl)
    simp only [laidIn, lz1, lz2, lz3, lz4, lz5, lz6, if_true, Act.put, lz7, lz8, lz9] at hK ⊢
    simp only [d1] at hK ⊢
    go_simp
    go_at_call 19
    refine (copyw_any b (FA.up.below hV) (by omega)).mono ?_
    rintro e V' ⟨a1, c1, rfl, S1, hb⟩
    exact hK.out _ _ hb ⟨_, _, rfl, S1.mono hV.size⟩ (not_fresh rfl)
  case refine_6 =>
    refine OpDoes.mk rfl ?_
    intro vs V hV hd K hK
    have d0 : vs 0 = .pointer (some ⟨w.heap.size, 0, none⟩) := hd 0 (by decide) (by kernel_rfl)
    have hcc := (EA.below hV).three
    have k0 := hcc.1
    have k1 := hcc.2.1
    have k2 := hcc.2.2.1
    clear hcc
    simp only [laidIn, lz1, lz2, lz3, lz4, lz5, lz6, if_true, Act.put, lz7, lz8, lz9] at hK ⊢
    simp only [d0] at hK ⊢
    go_simp
    exact hK.out _ _ (Below.refl _ _) rfl (not_fresh rfl)
  case refine_7 =>
    refine OpDoes.mk rfl ?_
    intro vs V hV hd K hK
    simp only [laidIn, lz1, lz2, lz4, lz5, lz6, if_true, Act.put, lz7, lz8, lz9] at hK ⊢
    go_simp
    exact hK.out _ _ (Below.refl _ _) rfl (not_fresh rfl)
  case refine_8 =>
    intro vs Y1 hV hR hne fuel
    have d0 : vs 0 = .pointer (some ⟨w.heap.size, 0, none⟩) := hR 0 (by decide)
    have d1 : vs 1 = .agg #[.bool b, .slice a xs.length ca] := hR 1 (by decide)
    have hh := fun (P : Prop) => Yield.copyw_elim P (show ((Yield.copyw u1.heap.size b xs) : Yield).At (vs 2) Y1 from hR 2 (by decide))
    refine hh _ ?_
    intro a1 c1 d2 S1
    clear hh
    have d3 : vs 3 = .pointer (some ⟨w.heap.size, 2, none⟩) := hR 3 (by decide)
    have d4 : vs 4 = .slice c ds.length cc := hR 4 (by decide)
    have hh := fun (P : Prop) => Yield.copyn_elim P (show ((Yield.copyn u1.heap.size ds) : Yield).At (vs 5) Y1 from hR 5 (by decide))
    refine hh _ ?_
    intro a2 c2 d5 S2
    clear hh
    have d6 : vs 6 = .pointer (some ⟨w.heap.size, 0, none⟩) := hR 6 (by decide)
    replace FA := FA.below hV
    replace EA := EA.below hV
    replace ER := ER.below hV
    have hr := hV
    simp only [laidIn, lz4, lz5, lz6, if_true, Act.put, lz7, lz8, lz9]
    simp only [d0, d1, d2, d3, d4, d5, d6]
    clear hR hne hV d0 d1 d2 d3 d4 d5 d6
    clear vs
    show wpAny _ _ _ _ (fuel + 3) _ _ _
    refine wpAny_all (rs := [7]) (by kernel_rfl) (by simp) (fun i hi => ?_)
    obtain rfl : i = 7 := by simpa using hi
    clear hi
    have hcc := EA.three
    have k0 := hcc.1
    have k1 := hcc.2.1
    have k2 := hcc.2.2.1
    have f0 := hcc.2.2.2.1
    have f1 := hcc.2.2.2.2.1
    have f2 := hcc.2.2.2.2.2
    clear hcc
    refine wpOp_step rfl (fun K hK => ?_)
    simp only [lz1, lz2, lz3]
    rw [if_pos (by rfl)]
    go_simp
    refine hK _ _ ?_
    clear hK k0 f0 k1 f1 k2 f2
    have hT := (((Turns.refl (w.heap.size) Y1).setCell 0 (.bool b)).setCell 1 (.slice a1 xs.length c1))
    replace FA := FA.beside EA (noWord3 (fun _ e => by cases e) (fun _ e => by cases e) (fun _ e => by cases e)) hT
    replace ER := ER.turns hT (by omega)
    replace S1 := S1.beside EA (noWord3 (fun _ e => by cases e) (fun _ e => by cases e) (fun _ e => by cases e)) hT
    replace S2 := S2.beside EA (noWord3 (fun _ e => by cases e) (fun _ e => by cases e) (fun _ e => by cases e)) hT
    replace EA : Box ((Y1.setCell ⟨w.heap.size, 0, none⟩ (.bool b)).setCell ⟨w.heap.size, 1, none⟩ (.slice a1 xs.length c1)) (w.heap.size) (.cells #[.bool b, .slice a1 xs.length c1, .slice c ds.length cc] 30) := ⟨Nat.lt_of_lt_of_le EA.lt hT.below.size, (heap_setCell_same _ _ 1 _ _ _ (heap_setCell_same _ _ 0 _ _ _ EA.what))⟩
    have hr7 := hT.below
    obtain ⟨X1, hX⟩ := nm hT.below
    rw [hX] at FA EA ER S1 S2 hr7 ⊢
    clear hX hT
    refine wpAny_all (rs := [8]) (by kernel_rfl) (by simp) (fun i hi => ?_)
    obtain rfl : i = 8 := by simpa using hi
    clear hi
    refine wpOp_step rfl (fun K hK => ?_)
    simp only [lz1, lz2, lz3]
    rw [if_pos (by rfl)]
    go_simp
    refine hK _ _ ?_
    clear hK
    refine wpAny_all (rs := [9]) (by kernel_rfl) (by simp) (fun i hi => ?_)
    obtain rfl : i = 9 := by simpa using hi
    clear hi
    have hcc := EA.three
    have k0 := hcc.1
    have k1 := hcc.2.1
    have k2 := hcc.2.2.1
    have f0 := hcc.2.2.2.1
    have f1 := hcc.2.2.2.2.1
    have f2 := hcc.2.2.2.2.2
    clear hcc
    refine wpOp_step rfl (fun K hK => ?_)
    simp only [lz1, lz2, lz3]
    rw [if_pos (by rfl)]
    go_simp
    refine hK _ _ ?_
    clear hK k0 f0 k1 f1 k2 f2
    have hT := ((Turns.refl (w.heap.size) X1).setCell 2 (.slice a2 ds.length c2))
    replace FA := FA.beside EA (noWord3 (fun _ e => by cases e) (fun _ e => by cases e) (fun _ e => by cases e)) hT
    replace ER := ER.turns hT (by omega)
    replace S1 := S1.beside EA (noWord3 (fun _ e => by cases e) (fun _ e => by cases e) (fun _ e => by cases e)) hT
    replace S2 := S2.beside EA (noWord3 (fun _ e => by cases e) (fun _ e => by cases e) (fun _ e => by cases e)) hT
    replace EA : Box (X1.setCell ⟨w.heap.size, 2, none⟩ (.slice a2 ds.length c2)) (w.heap.size) (.cells #[.bool b, .slice a1 xs.length c1, .slice a2 ds.length c2] 30) := ⟨Nat.lt_of_lt_of_le EA.lt hT.below.size, (heap_setCell_same _ _ 2 _ _ _ EA.what)⟩
    have hr9 := hT.below
    obtain ⟨X2, hX⟩ := nm hT.below
    rw [hX] at FA EA ER S1 S2 hr9 ⊢
    clear hX hT
    refine wpAny_done (by kernel_rfl) ?_ _
    replace hB := hB.trans ((Below.trans (Below.drew (Below.refl u1.heap.size u1)) hr).mono hB.size)
    replace hB := hB.trans (hr7.mono (by omega))
    replace hB := hB.trans (hr9.mono (by omega))
    have zz1_2 := hr.size
    have zi1 := hB.size
    have zy2_7 := hr7.size
    have zy2_9 := hr9.size
    clear hr hr7 hr9
    obtain ⟨k0, k1, k2, f0, f1, f2⟩ := EA.three
    obtain ⟨k3, k4, k5, f3, f4, f5⟩ := ER.three
    have hcc := ER.three
    have r0 := hcc.1
    have r1 := hcc.2.1
    have r2 := hcc.2.2.1
    clear hcc
    have qEA := EA.lt
    have qER := ER.lt
    have hs0 := Nat.le_refl X2.heap.size
    have hT := turns3 (w.heap.size + 1) X2 (.bool b) (.slice a1 xs.length c1) (.slice a2 ds.length c2)
    replace FA := FA.beside ER (noWord3 (fun _ e => by cases e) (fun _ e => by cases e) (fun _ e => by cases e)) hT
    replace EA := EA.turns hT (by omega)
    replace S1 := S1.beside ER (noWord3 (fun _ e => by cases e) (fun _ e => by cases e) (fun _ e => by cases e)) hT
    replace S2 := S2.beside ER (noWord3 (fun _ e => by cases e) (fun _ e => by cases e) (fun _ e => by cases e)) hT
    replace ER := Box.set3 (.bool b) (.slice a1 xs.length c1) (.slice a2 ds.length c2) ER
    replace hB := hB.trans (hT.below.mono (by omega))
    replace hs0 := Nat.le_trans hs0 hT.below.size
    clear hT
    go_wp2
    refine bodyPost_ret (v := .agg #[.bool b, .slice a1 xs.length c1, .slice a2 ds.length c2]) (by simp [results, Tryz.f6, go_sem, r0, r1, r2]) rfl ?_
    exact ⟨_, _, _, _, rfl, ⟨S1.mono (by omega), S2.mono (by omega)⟩, hB⟩
def Two (b : Bool) (xs ds : List Int) (g : Bool) (ys es : List Int) : Prop := formR b xs ds = 0 ∧ formR g ys es = 0
instance (b : Bool) (xs ds : List Int) (g : Bool) (ys es : List Int) : Decidable (Two b xs ds g ys es) := by unfold Two; exact inferInstance
def subS (b : Bool) (xs ds : List Int) (g : Bool) (ys es : List Int) : Except Int Rat := if Two b xs ds g ys es then .ok (ratL b xs ds - ratL g ys es) else .error 6
def divS (b : Bool) (xs ds : List Int) (g : Bool) (ys es : List Int) : Except Int Rat := if Two b xs ds g ys es then (if ys = [] then .error 5 else .ok (ratL b xs ds / ratL g ys es)) else .error 6
def powS (b : Bool) (xs ds : List Int) (N : Int) : Except Int Rat := if formR b xs ds = 0 then (if N < -10000 ∨ 10000 < N then .error 3 else if N < 0 ∧ xs = [] then .error 5 else .ok (ratL b xs ds ^ N)) else .error 6
def cmpS (b : Bool) (xs ds : List Int) (g : Bool) (ys es : List Int) : Int := if Two b xs ds g ys es then cmpR (ratL b xs ds) (ratL g ys es) else 0
def cmpE (b : Bool) (xs ds : List Int) (g : Bool) (ys es : List Int) : Int := if Two b xs ds g ys es then 0 else 6
section
variable {lo lo2 : Nat} {a c p r : Option Addr} {ca cc cp cr : Nat} {xs ds ys es : List Int} {w : World} (b g : Bool) (FA : Fr lo w a ca xs c cc ds) (FB : Fr lo2 w p cp ys r cr es) (hl : xs.length ≤ 5 ∧ ds.length ≤ 5) (hl2 : ys.length ≤ 5 ∧ es.length ≤ 5)
include FA FB hl hl2
end
section
variable {lo : Nat} {a c : Option Addr} {ca cc : Nat} {xs ds : List Int} {w : World} (b : Bool) (FA : Fr lo w a ca xs c cc ds) (hl : xs.length ≤ 5 ∧ ds.length ≤ 5)
include FA hl
def RndSaid (b : Bool) (xs ds : List Int) (w : World) (e : Ending) (w' : World) : Prop := ∃ (g : Bool) (a' : Option Addr) (c' : Nat) (z : List Int), e = .returned (.tuple #[.agg #[.bool g, .slice a' z.length c'], .int .i64 (formR b xs ds)]) ∧ Seg w.heap.size w' (.slice a' z.length c') z ∧ Canon g z ∧ Hid (sgn g (val z) = if formR b xs ds = 0 then sgn b (roundN (val xs) (val ds)) else 0) ∧ z.length ≤ 7 ∧ Below w.heap.size w w'
end
def RV.key (r : RV) : Bool × List Int × List Int := (r.b, r.xs, r.ds)
def keyF (k : Bool × List Int × List Int) : Int := formR k.1 k.2.1 k.2.2
def keyQ (k : Bool × List Int × List Int) : Rat := ratL k.1 k.2.1 k.2.2
def addS (ks : List (Bool × List Int × List Int)) : Except Int Rat := if ks.all (fun k => keyF k == 0) = true then .ok (ks.foldl (fun q k => q + keyQ k) 0) else .error 6
def mulS (ks : List (Bool × List Int × List Int)) : Except Int Rat := if ks.all (fun k => keyF k == 0) = true then .ok (ks.foldl (fun q k => q * keyQ k) 1) else .error 6
theorem all_good (rs : List RV) : (rs.map RV.key).all (fun k => keyF k == 0) = true ↔ ∀ r ∈ rs, formR r.b r.xs r.ds = 0 := by
  rw [List.all_map, List.all_eq_true]
  exact ⟨fun h r hr => beq_iff_eq.1 (h r hr), fun h r hr => beq_iff_eq.2 (h r hr)⟩
theorem addS_ok {rs : List RV} (h : ∀ r ∈ rs, formR r.b r.xs r.ds = 0) : addS (rs.map RV.key) = .ok (sumQ rs) := by
  rw [addS, if_pos ((all_good rs).2 h), List.foldl_map]; rfl
theorem mulS_ok {rs : List RV} (h : ∀ r ∈ rs, formR r.b r.xs r.ds = 0) : mulS (rs.map RV.key) = .ok (mulQ rs) := by
  rw [mulS, if_pos ((all_good rs).2 h), List.foldl_map]; rfl
theorem addS_no {rs : List RV} (h : ¬ ∀ r ∈ rs, formR r.b r.xs r.ds = 0) : addS (rs.map RV.key) = .error 6 := by
  rw [addS, if_neg (fun k => h ((all_good rs).1 k))]
theorem mulS_no {rs : List RV} (h : ¬ ∀ r ∈ rs, formR r.b r.xs r.ds = 0) : mulS (rs.map RV.key) = .error 6 := by
  rw [mulS, if_neg (fun k => h ((all_good rs).1 k))]
section
variable {sv : Option Addr} {cap : Nat} {rs : List RV} {w : World} (R : Row 0 w sv rs) (hrl : rs.length ≤ 6) (hlen : ∀ r ∈ rs, r.xs.length ≤ 5 ∧ r.ds.length ≤ 5)
include R hrl hlen
theorem padd_all : Calls Tryz.prog 7 #[.slice sv rs.length cap] w fun e w' => AnsSaid (addS (rs.map RV.key)) 37 w e w' := by
  by_cases h : ∀ r ∈ rs, formR r.b r.xs r.ds = 0
  · refine (padd_ok R hrl hlen (by omega) h).mono ?_
    rintro e w' ⟨b', a', ca', ts, c', cc', es, he, F, P, I, hb⟩
    exact AnsSaid.of_fe ⟨b', a', ca', ts, c', cc', es, he, F, P, I.mono (by omega), hb⟩ (addS_ok h)
  · exact (padd_no R hrl hlen (by omega) h).mono fun e w' k => AnsSaid.of_err k (addS_no h)
theorem pmul_all : Calls Tryz.prog 10 #[.slice sv rs.length cap] w fun e w' => AnsSaid (mulS (rs.map RV.key)) 37 w e w' := by
  by_cases h : ∀ r ∈ rs, formR r.b r.xs r.ds = 0
  · refine (pmul_ok R hrl hlen (by omega) h).mono ?_
    rintro e w' ⟨b', a', ca', ts, c', cc', es, he, F, P, I, hb⟩
    exact AnsSaid.of_fe ⟨b', a', ca', ts, c', cc', es, he, F, P, I.mono (by omega), hb⟩ (mulS_ok h)
  · exact (pmul_no R hrl hlen (by omega) h).mono fun e w' k => AnsSaid.of_err k (mulS_no h)
theorem kadd_all : Calls Tryz.prog 8 #[.slice sv rs.length cap] w fun e w' => AnsSaid (addS (rs.map RV.key)) 37 w e w' := by
  by_cases h : ∀ r ∈ rs, formR r.b r.xs r.ds = 0
  · refine (kadd_ok R hrl hlen (by omega) h).mono ?_
    rintro e w' ⟨b', a', ca', ts, c', cc', es, he, F, P, I, hb⟩
    exact AnsSaid.of_fe ⟨b', a', ca', ts, c', cc', es, he, F, P, I.mono (by omega), hb⟩ (addS_ok h)
  · exact (kadd_no R hrl hlen (by omega) h).mono fun e w' k => AnsSaid.of_err k (addS_no h)
theorem kmul_all : Calls Tryz.prog 11 #[.slice sv rs.length cap] w fun e w' => AnsSaid (mulS (rs.map RV.key)) 37 w e w' := by
  by_cases h : ∀ r ∈ rs, formR r.b r.xs r.ds = 0
  · refine (kmul_ok R hrl hlen (by omega) h).mono ?_
    rintro e w' ⟨b', a', ca', ts, c', cc', es, he, F, P, I, hb⟩
    exact AnsSaid.of_fe ⟨b', a', ca', ts, c', cc', es, he, F, P, I.mono (by omega), hb⟩ (mulS_ok h)
  · exact (kmul_no R hrl hlen (by omega) h).mono fun e w' k => AnsSaid.of_err k (mulS_no h)
end
theorem infoRatio : ((Tryz.prog.info? 30).map fun i => (i.zero, i.size, i.bytes)) = some (some (.agg #[.bool false, .slice none 0 0, .slice none 0 0]), 3, 56) := by kernel_rfl
def OwnR (lo : Nat) (W : World) (v : Value) (rs : List RV) : Prop := W.ownsRow lo 30 3 v rs.length (rs.flatMap RV.cells)
theorem ownr_nil (lo : Nat) (W : World) : OwnR lo W (.slice none 0 0) [] := World.ownsRow_nil W lo _ _
theorem flat_at {r : RV} : ∀ (rs : List RV) (j : Nat), rs[j]? = some r → (rs.flatMap RV.cells)[j * 3]? = some (.bool r.b) ∧ (rs.flatMap RV.cells)[j * 3 + 1]? = some (.slice r.a r.xs.length r.ca) ∧ (rs.flatMap RV.cells)[j * 3 + 2]? = some (.slice r.c r.ds.length r.cc) := by
  intro rs
  induction rs with
  | nil => intro j hj; simp at hj
  | cons s rs ih =>
    intro j hj
    cases j with
    | zero =>
      simp only [lz5, Option.some.injEq] at hj
      subst hj
      exact ⟨rfl, rfl, rfl⟩
    | succ j =>
      simp only [lz6] at hj
      obtain ⟨h1, h2, h3⟩ := ih j hj
      have e1 : (j + 1) * 3 = j * 3 + 1 + 1 + 1 := by omega
      rw [List.flatMap_cons, e1]
      exact ⟨h1, h2, h3⟩
theorem ownr_append {lo : Nat} {w : World} {v : Value} {rs : List RV} (h : OwnR lo w v rs) (r : RV) (hl : rs.length ≤ 1000) (hlo : lo ≤ w.heap.size) :
    ∃ a' cap' w', (Builtin.append_ #[22, 22] 22 #[v, .slice (some ⟨w.heap.size, 0, none⟩) 1 1]).run Tryz.prog (w.alloc (.cells #[.bool r.b, .slice r.a r.xs.length r.ca, .slice r.c r.ds.length r.cc] 30)) = .ok (.slice a' (rs.length + 1) cap') w' ∧ OwnR lo w' (.slice a' (rs.length + 1) cap') (rs ++ [r]) ∧ (w.alloc (.cells #[.bool r.b, .slice r.a r.xs.length r.ca, .slice r.c r.ds.length r.cc] 30)).grownBy w' v.ownBlock ∧ ((Value.slice a' (rs.length + 1) cap').ownBlock = v.ownBlock ∨ (Value.slice a' (rs.length + 1) cap').ownBlock = some (w.heap.size + 1)) := by
  obtain ⟨i0, hi, hz0, hz1, hz2⟩ := info_parts infoRatio
  obtain ⟨v', w', hr, hown, hg, _, hat⟩ := run_append_own_at (P := Tryz.prog) (w.alloc (.cells #[.bool r.b, .slice r.a r.xs.length r.ca, .slice r.c r.ds.length r.cc] 30)) lo 22 22 30 i0 (.agg #[.bool false, .slice none 0 0, .slice none 0 0]) 3 56 Tryz.underlying22 hi hz0 hz1 hz2 rfl (by decide)
    v rs.length (rs.flatMap RV.cells) (World.ownsRow.alloc h _) ⟨w.heap.size, 0, none⟩ 1 1 r.cells rfl
    (fun j u hj => by
      rw [Addr.add_lit]
      have := cell_of_heap (World.alloc_heap_new w (.cells #[.bool r.b, .slice r.a r.xs.length r.ca, .slice r.c r.ds.length r.cc] 30)) j
      rw [Nat.zero_add, this]
      simpa [RV.cells] using hj)
    (fun u hu => by
      simp only [RV.cells, List.mem_cons, List.not_mem_nil, or_false] at hu
      rcases hu with rfl | rfl | rfl <;> rfl) (by unfold maxLen; omega) (by omega) (by simp; omega)
  have ho : OwnR lo w' v' (rs ++ [r]) := by
    unfold OwnR
    rw [List.length_append, List.flatMap_append]
    simpa using hown
  have hv : ∃ a' cap', v' = .slice a' (rs.length + 1) cap' := by
    obtain ⟨_, h2⟩ := hown
    rcases h2 with ⟨_, h0⟩ | ⟨g, cap, cur, e, _⟩
    · omega
    · exact ⟨_, _, e⟩
  obtain ⟨a', cap', rfl⟩ := hv
  exact ⟨a', cap', w', hr, ho, hg, by simpa using hat⟩
def OffB (a : Option Addr) (zs : List Int) (k : Nat) : Prop := zs ≠ [] → ∀ b o, a = some ⟨b, o, none⟩ → b ≠ k
theorem Seg.grown {lo : Nat} {W W' : World} {a : Option Addr} {n cap : Nat} {zs : List Int} {row : Option Nat} (h : Seg lo W (.slice a n cap) zs) (hg : W.grownBy W' row) (hoff : ∀ k, row = some k → OffB a zs k) : Seg lo W' (.slice a n cap) zs := by
  obtain ⟨hw, a', cap', e, h1, h3⟩ := h
  simp only [Value.slice.injEq] at e
  obtain ⟨rfl, rfl, rfl⟩ := e
  refine ⟨hw, _, _, rfl, h1, fun hz => ?_⟩
  obtain ⟨b, off, e1, e2, e3, e4, e5⟩ := h3 hz
  have hb : W'.heap[b]? = W.heap[b]? := hg.block b e3 (fun e' => hoff b e'.symm hz b off e1 rfl)
  exact ⟨b, off, e1, e2, Nat.lt_of_lt_of_le e3 hg.size, fun j hj => (World.cell?_of_block (a := ⟨b, off + j, none⟩) hb).trans (e4 j hj), fun j hj => (World.frozen?_of_block (a := ⟨b, off + j, none⟩) hb).trans (e5 j hj)⟩
theorem Seg.offB {lo : Nat} {W : World} {a : Option Addr} {n cap k : Nat} {zs : List Int} (h : Seg lo W (.slice a n cap) zs) (hk : k < lo ∨ W.heap.size ≤ k) : OffB a zs k := fun hz b o e => by
  obtain ⟨hl, _⟩ := h.len
  obtain ⟨b', o', e1, e2, e3⟩ := h.row (by rw [hl]; exact List.length_pos_iff.2 hz)
  rw [e] at e1
  simp only [Option.some.injEq, Addr.mk.injEq] at e1
  omega
structure Kin (lo : Nat) (W : World) (v : Value) (cs ps : List RV) : Prop where
  own : OwnR lo W v cs
  keys : cs.map RV.key = ps.map RV.key
  fr : ∀ c ∈ cs, Fr lo W c.a c.ca c.xs c.c c.cc c.ds
  off : ∀ c ∈ cs, ∀ k, v.ownBlock = some k → OffB c.a c.xs k ∧ OffB c.c c.ds k
theorem kin_nil (lo : Nat) (W : World) : Kin lo W (.slice none 0 0) [] [] := ⟨ownr_nil lo W, rfl, fun _ h => (by cases h), fun _ h => (by cases h)⟩
theorem Kin.len {lo : Nat} {W : World} {v : Value} {cs ps : List RV} (K : Kin lo W v cs ps) : cs.length = ps.length := by
  have := congrArg List.length K.keys
  simpa using this
theorem ownr_below {lo : Nat} {W W' : World} {v : Value} {cs : List RV} (h : OwnR lo W v cs) (hb : Below W.heap.size W W') : OwnR lo W' v cs :=
  World.ownsRow.kept h (row := none) ⟨hb.os, hb.tape, hb.output, hb.size, fun k hk _ => hb.block k hk⟩ (by cases hv : v.ownBlock <;> simp)
theorem Kin.below {lo : Nat} {W W' : World} {v : Value} {cs ps : List RV} (K : Kin lo W v cs ps) (hb : Below W.heap.size W W') : Kin lo W' v cs ps :=
  ⟨ownr_below K.own hb, K.keys, fun c hc => (K.fr c hc).below hb, K.off⟩
theorem kin_next {lo : Nat} {w w1 : World} {v : Value} {cs ps : List RV} (K : Kin lo w v cs ps) (r : RV) {a c : Option Addr} {ca cc : Nat} (hl : cs.length ≤ 1000) (hlo : lo ≤ w.heap.size) (hb : Below w.heap.size w w1) (F : Fr w.heap.size w1 a ca r.xs c cc r.ds) :
    ∃ a' cap' w', (Builtin.append_ #[22, 22] 22 #[v, .slice (some ⟨w1.heap.size, 0, none⟩) 1 1]).run Tryz.prog (w1.alloc (.cells #[.bool r.b, .slice a r.xs.length ca, .slice c r.ds.length cc] 30)) = .ok (.slice a' (cs.length + 1) cap') w' ∧ Kin lo w' (.slice a' (cs.length + 1) cap') (cs ++ [⟨r.b, a, ca, r.xs, c, cc, r.ds⟩]) (ps ++ [r]) ∧ Below lo w w' := by
  have hlt : ∀ k, v.ownBlock = some k → lo ≤ k ∧ k < w.heap.size := World.ownsRow.lt K.own
  have K1 := K.below hb
  obtain ⟨a', cap', w', hr, ho, hg, hat⟩ := ownr_append K1.own ⟨r.b, a, ca, r.xs, c, cc, r.ds⟩ hl (Nat.le_trans hlo hb.size)
  have hq := below_new w1 (.cells #[.bool r.b, .slice a r.xs.length ca, .slice c r.ds.length cc] 30)
  have hsz : (w1.alloc (.cells #[.bool r.b, .slice a r.xs.length ca, .slice c r.ds.length cc] 30)).heap.size = w1.heap.size + 1 := by simp
  have hoffF : ∀ k, v.ownBlock = some k → OffB a r.xs k ∧ OffB c r.ds k := fun k hk => ⟨F.up.offB (Or.inl (hlt k hk).2), F.down.offB (Or.inl (hlt k hk).2)⟩
  refine ⟨a', cap', w', hr, ⟨ho, ?_, ?_, ?_⟩, ?_⟩
  · rw [List.map_append, List.map_append, K.keys]; rfl
  · intro x hx
    rcases List.mem_append.1 hx with hx | hx
    · have f := (K1.fr x hx).below hq
      exact ⟨f.up.grown hg (fun k hk => (K.off x hx k hk).1), f.down.grown hg (fun k hk => (K.off x hx k hk).2)⟩
    · obtain rfl := List.mem_singleton.1 hx
      have f := F.below hq
      exact ⟨(f.up.grown hg (fun k hk => (hoffF k hk).1)).mono hlo, (f.down.grown hg (fun k hk => (hoffF k hk).2)).mono hlo⟩
  · intro x hx k hk
    rcases hat with hat | hat
    · rw [hat] at hk
      rcases List.mem_append.1 hx with hx | hx
      · exact K.off x hx k hk
      · obtain rfl := List.mem_singleton.1 hx
        exact hoffF k hk
    · rw [hat] at hk
      simp only [Option.some.injEq] at hk
      rcases List.mem_append.1 hx with hx | hx
      · have f := K1.fr x hx
        exact ⟨f.up.offB (Or.inr (by omega)), f.down.offB (Or.inr (by omega))⟩
      · obtain rfl := List.mem_singleton.1 hx
        exact ⟨F.up.offB (Or.inr (by omega)), F.down.offB (Or.inr (by omega))⟩
  · exact ((hb.mono hlo).trans (hq.mono (Nat.le_trans hlo hb.size))).grown hg (by rw [hsz]; have := hb.size; omega) (fun k hk => (hlt k hk).1)
theorem Kin.row {lo : Nat} {W : World} {a : Option Addr} {n cap : Nat} {cs ps : List RV} (K : Kin lo W (.slice a n cap) cs ps) : Row 0 W a cs := by
  obtain ⟨_, h2⟩ := K.own
  rcases h2 with ⟨_, h0⟩ | ⟨g, cap', cur, e, hg, hh, hc, hm, hs, ht⟩
  · obtain rfl : cs = [] := List.length_eq_zero_iff.1 h0
    exact ⟨fun j hj => by simp at hj, fun g o j r _ hr => by simp at hr, fun j r hr => by simp at hr⟩
  · simp only [Value.slice.injEq] at e
    obtain ⟨rfl, _, _⟩ := e
    refine ⟨fun j _ => ⟨g, 0, rfl, (Array.getElem?_eq_some_iff.1 hh).1⟩, fun g' o j r e hr => ?_, fun j r hr => ?_⟩
    · simp only [Option.some.injEq, Addr.mk.injEq, and_true] at e
      obtain ⟨rfl, rfl⟩ := e
      have hj := (List.getElem?_eq_some_iff.1 hr).1
      obtain ⟨h1, h2, h3⟩ := flat_at cs j hr
      have key : ∀ i, i < cs.length * 3 → W.cell? ⟨g, 0 + i, none⟩ = (cs.flatMap RV.cells)[i]? := fun i hi => by
        rw [cell_of_heap hh, Nat.zero_add, ← ht, List.getElem?_take_of_lt hi, Array.getElem?_toList]
      exact ⟨(key _ (by omega)).trans h1, (key (j * 3 + 1) (by omega)).trans h2, (key (j * 3 + 2) (by omega)).trans h3⟩
    · have f := K.fr r (List.mem_of_getElem? hr)
      exact ⟨f.up.mono (Nat.zero_le _), f.down.mono (Nat.zero_le _)⟩
theorem keys_len {cs rs : List RV} (h : cs.map RV.key = rs.map RV.key) (hl : ∀ r ∈ rs, r.xs.length ≤ 5 ∧ r.ds.length ≤ 5) : ∀ r ∈ cs, r.xs.length ≤ 5 ∧ r.ds.length ≤ 5 := by
  intro c hc
  have : c.key ∈ rs.map RV.key := h ▸ List.mem_map_of_mem hc
  obtain ⟨r, hr, e⟩ := List.mem_map.1 this
  simp only [RV.key, Prod.mk.injEq] at e
  have := hl r hr
  rw [e.2.1, e.2.2] at this
  exact this
theorem keys_at {cs rs : List RV} (h : cs.map RV.key = rs.map RV.key) {j : Nat} {r : RV} (hr : rs[j]? = some r) : ∃ (a c : Option Addr) (ca cc : Nat), cs[j]? = some ⟨r.b, a, ca, r.xs, c, cc, r.ds⟩ := by
  have e : (cs.map RV.key)[j]? = (rs.map RV.key)[j]? := by rw [h]
  rw [List.getElem?_map, List.getElem?_map, hr] at e
  obtain ⟨x, hx, hk⟩ := Option.map_eq_some_iff.1 e
  obtain ⟨b, a, ca, xs, c, cc, ds⟩ := x
  simp only [RV.key, Prod.mk.injEq] at hk
  obtain ⟨rfl, rfl, rfl⟩ := hk
  exact ⟨a, c, ca, cc, hx⟩
set_option maxRecDepth 100000 in
set_option maxHeartbeats 4000000 in
theorem lrawake_any (w : World) : Calls Tryz.prog 5 #[] w fun e w' => e = .returned (.bool true) ∧ Below w.heap.size w w' := by
  have hB := Below.refl w.heap.size w
  go_enter Tryz.func5, Tryz.ntmps5
  go_wp2_with fail
  refine (ppair_neg 6 (-4) (by decide) (by decide) (by decide) _).mono ?_
  rintro e w1 ⟨g1, a1, c1, x1, e1, t1, y1, rfl, F1, P1, I1, hb⟩
  replace I1 : Is g1 x1 y1 (Rat.divInt (-3) 2) (1) := I1.to (by decide +kernel)
  replace hB := hB.trans (hb.mono hB.size)
  have zz1 := hb.size
  have zh1 := hB.size
  clear hb
  have hA := Below.refl w1.heap.size w1
  have hq := below_new w1 (.cells #[.bool g1, .slice a1 x1.length c1, .slice e1 y1.length t1] 30)
  replace F1 := F1.below hq
  have E1 := Box.put (w := w1) (k := (w1.heap.size)) (.cells #[.bool g1, .slice a1 x1.length c1, .slice e1 y1.length t1] 30) rfl
  replace hA := hA.trans (hq.mono hA.size)
  replace hB := hB.trans (hq.mono hB.size)
  clear hq
  clear hA
  go_wp2_with fail
  obtain ⟨u2, hname⟩ := nm hB
  rw [hname] at hB F1 E1 ⊢
  have zh2 := hB.size
  clear hname
  refine (lrof_any (1) 2 (by decide) (by decide) _).mono ?_
  rintro e w3 ⟨g2, a2, c2, x2, e2, t2, y2, rfl, F2, P2, N2, M2, V2, U2, b2, B2, hb⟩
  have I2 := of_is N2 M2 V2 U2 b2 B2 (by decide) (by decide)
  clear P2
  replace F1 := F1.below hb
  replace E1 := E1.below hb
  replace hB := hB.trans (hb.mono hB.size)
  have zz3 := hb.size
  have zh3 := hB.size
  clear hb
  go_wp2_with fail
  refine (lrof_any (1) 3 (by decide) (by decide) _).mono ?_
  rintro e w4 ⟨g3, a3, c3, x3, e3, t3, y3, rfl, F3, P3, N3, M3, V3, U3, b3, B3, hb⟩
  have I3 := of_is N3 M3 V3 U3 b3 B3 (by decide) (by decide)
  clear P3
  replace F1 := F1.below hb
  replace E1 := E1.below hb
  replace F2 := F2.below hb
  replace hB := hB.trans (hb.mono hB.size)
  have zz4 := hb.size
  have zh4 := hB.size
  clear hb
  go_wp2_with fail
  refine (lrof_any (1) 6 (by decide) (by decide) _).mono ?_
  rintro e w5 ⟨g4, a4, c4, x4, e4, t4, y4, rfl, F4, P4, N4, M4, V4, U4, b4, B4, hb⟩
  have I4 := of_is N4 M4 V4 U4 b4 B4 (by decide) (by decide)
  clear P4
  replace F1 := F1.below hb
  replace E1 := E1.below hb
  replace F2 := F2.below hb
  replace F3 := F3.below hb
  replace hB := hB.trans (hb.mono hB.size)
  have zz5 := hb.size
  have zh5 := hB.size
  clear hb
  have qE1 := E1.lt
  have hA := Below.refl w5.heap.size w5
  have hq := below_new w5 (.cells #[.bool g2, .slice a2 x2.length c2, .slice e2 y2.length t2, .bool g3, .slice a3 x3.length c3, .slice e3 y3.length t3, .bool g4, .slice a4 x4.length c4, .slice e4 y4.length t4] 30)
  replace F1 := F1.below hq
  replace E1 := E1.below hq
  replace F2 := F2.below hq
  replace F3 := F3.below hq
  replace F4 := F4.below hq
  have L5 := Box.put (w := w5) (k := (w5.heap.size)) (.cells #[.bool g2, .slice a2 x2.length c2, .slice e2 y2.length t2, .bool g3, .slice a3 x3.length c3, .slice e3 y3.length t3, .bool g4, .slice a4 x4.length c4, .slice e4 y4.length t4] 30) rfl
  replace hA := hA.trans (hq.mono hA.size)
  replace hB := hB.trans (hq.mono hB.size)
  clear hq
  clear hA
  go_wp2_with fail
  obtain ⟨u6, hname⟩ := nm hB
  rw [hname] at hB F1 E1 F2 F3 F4 L5 ⊢
  have zh6 := hB.size
  clear hname
  have R := row_box (rs := [⟨g2, a2, c2, x2, e2, t2, y2⟩, ⟨g3, a3, c3, x3, e3, t3, y3⟩, ⟨g4, a4, c4, x4, e4, t4, y4⟩]) (k := w5.heap.size) L5 (fun r hr => by
      simp only [List.mem_cons, List.not_mem_nil, or_false] at hr
      rcases hr with rfl | rfl | rfl
      · exact F2.mono (Nat.zero_le _)
      · exact F3.mono (Nat.zero_le _)
      · exact F4.mono (Nat.zero_le _))
  have hlen : ∀ r ∈ ([⟨g2, a2, c2, x2, e2, t2, y2⟩, ⟨g3, a3, c3, x3, e3, t3, y3⟩, ⟨g4, a4, c4, x4, e4, t4, y4⟩] : List RV), r.xs.length ≤ 1 ∧ r.ds.length ≤ 1 := fun r hr => by
      simp only [List.mem_cons, List.not_mem_nil, or_false] at hr
      rcases hr with rfl | rfl | rfl
      · exact ⟨Nat.le_trans I2.lu (by decide), Nat.le_trans I2.ld (by decide)⟩
      · exact ⟨Nat.le_trans I3.lu (by decide), Nat.le_trans I3.ld (by decide)⟩
      · exact ⟨Nat.le_trans I4.lu (by decide), Nat.le_trans I4.ld (by decide)⟩
  have hg : ∀ r ∈ ([⟨g2, a2, c2, x2, e2, t2, y2⟩, ⟨g3, a3, c3, x3, e3, t3, y3⟩, ⟨g4, a4, c4, x4, e4, t4, y4⟩] : List RV), formR r.b r.xs r.ds = 0 := fun r hr => by
      simp only [List.mem_cons, List.not_mem_nil, or_false] at hr
      rcases hr with rfl | rfl | rfl
      · exact I2.good F2.up.words F2.down.words
      · exact I3.good F3.up.words F3.down.words
      · exact I4.good F4.up.words F4.down.words
  refine (padd_ok (cap := 3) R (by simp) hlen (by omega) hg).mono ?_
  rintro e w7 ⟨g6, a6, c6, x6, e6, t6, y6, rfl, F6, P6, I6, hb⟩
  replace I6 : Is g6 x6 y6 (Rat.divInt 1 1) (7) := (I6.mono (by simp)).to (by simp only [sumQ, RV.q, List.foldl, I2.rat, I3.rat, I4.rat]; decide +kernel)
  replace F1 := F1.below hb
  replace E1 := E1.below hb
  replace F2 := F2.below hb
  replace F3 := F3.below hb
  replace F4 := F4.below hb
  replace L5 := L5.below hb
  replace hB := hB.trans (hb.mono hB.size)
  have zz7 := hb.size
  have zh7 := hB.size
  clear hb
  clear R hlen hg
  clear L5
  have qE1 := E1.lt
  have hA := Below.refl w7.heap.size w7
  have hq := below_new w7 (.cells #[.bool g6, .slice a6 x6.length c6, .slice e6 y6.length t6] 30)
  replace F1 := F1.below hq
  replace E1 := E1.below hq
  replace F2 := F2.below hq
  replace F3 := F3.below hq
  replace F4 := F4.below hq
  replace F6 := F6.below hq
  have E6 := Box.put (w := w7) (k := (w7.heap.size)) (.cells #[.bool g6, .slice a6 x6.length c6, .slice e6 y6.length t6] 30) rfl
  replace hA := hA.trans (hq.mono hA.size)
  replace hB := hB.trans (hq.mono hB.size)
  clear hq
  clear hA
  go_wp2_with fail
  obtain ⟨u8, hname⟩ := nm hB
  rw [hname] at hB F1 E1 F2 F3 F4 F6 E6 ⊢
  have zh8 := hB.size
  clear hname
  refine (lrof_any (2) 3 (by decide) (by decide) _).mono ?_
  rintro e w9 ⟨g7, a7, c7, x7, e7, t7, y7, rfl, F7, P7, N7, M7, V7, U7, b7, B7, hb⟩
  have I7 := of_is N7 M7 V7 U7 b7 B7 (by decide) (by decide)
  clear P7
  replace F1 := F1.below hb
  replace E1 := E1.below hb
  replace F2 := F2.below hb
  replace F3 := F3.below hb
  replace F4 := F4.below hb
  replace F6 := F6.below hb
  replace E6 := E6.below hb
  replace hB := hB.trans (hb.mono hB.size)
  have zz9 := hb.size
  have zh9 := hB.size
  clear hb
  go_wp2_with fail
  refine (lrof_any (3) 4 (by decide) (by decide) _).mono ?_
  rintro e w10 ⟨g8, a8, c8, x8, e8, t8, y8, rfl, F8, P8, N8, M8, V8, U8, b8, B8, hb⟩
  have I8 := of_is N8 M8 V8 U8 b8 B8 (by decide) (by decide)
  clear P8
  replace F1 := F1.below hb
  replace E1 := E1.below hb
  replace F2 := F2.below hb
  replace F3 := F3.below hb
  replace F4 := F4.below hb
  replace F6 := F6.below hb
  replace E6 := E6.below hb
  replace F7 := F7.below hb
  replace hB := hB.trans (hb.mono hB.size)
  have zz10 := hb.size
  have zh10 := hB.size
  clear hb
  clear F2 F3 F4
  have qE1 := E1.lt
  have qE6 := E6.lt
  have hA := Below.refl w10.heap.size w10
  have hq := below_new w10 (.cells #[.bool g7, .slice a7 x7.length c7, .slice e7 y7.length t7, .bool g8, .slice a8 x8.length c8, .slice e8 y8.length t8] 30)
  replace F1 := F1.below hq
  replace E1 := E1.below hq
  replace F6 := F6.below hq
  replace E6 := E6.below hq
  replace F7 := F7.below hq
  replace F8 := F8.below hq
  have L9 := Box.put (w := w10) (k := (w10.heap.size)) (.cells #[.bool g7, .slice a7 x7.length c7, .slice e7 y7.length t7, .bool g8, .slice a8 x8.length c8, .slice e8 y8.length t8] 30) rfl
  replace hA := hA.trans (hq.mono hA.size)
  replace hB := hB.trans (hq.mono hB.size)
  clear hq
  clear hA
  go_wp2_with fail
  obtain ⟨u11, hname⟩ := nm hB
  rw [hname] at hB F1 E1 F6 E6 F7 F8 L9 ⊢
  have zh11 := hB.size
  clear hname
  have R := row_box (rs := [⟨g7, a7, c7, x7, e7, t7, y7⟩, ⟨g8, a8, c8, x8, e8, t8, y8⟩]) (k := w10.heap.size) L9 (fun r hr => by
      simp only [List.mem_cons, List.not_mem_nil, or_false] at hr
      rcases hr with rfl | rfl
      · exact F7.mono (Nat.zero_le _)
      · exact F8.mono (Nat.zero_le _))
  have hlen : ∀ r ∈ ([⟨g7, a7, c7, x7, e7, t7, y7⟩, ⟨g8, a8, c8, x8, e8, t8, y8⟩] : List RV), r.xs.length ≤ 1 ∧ r.ds.length ≤ 1 := fun r hr => by
      simp only [List.mem_cons, List.not_mem_nil, or_false] at hr
      rcases hr with rfl | rfl
      · exact ⟨Nat.le_trans I7.lu (by decide), Nat.le_trans I7.ld (by decide)⟩
      · exact ⟨Nat.le_trans I8.lu (by decide), Nat.le_trans I8.ld (by decide)⟩
  have hg : ∀ r ∈ ([⟨g7, a7, c7, x7, e7, t7, y7⟩, ⟨g8, a8, c8, x8, e8, t8, y8⟩] : List RV), formR r.b r.xs r.ds = 0 := fun r hr => by
      simp only [List.mem_cons, List.not_mem_nil, or_false] at hr
      rcases hr with rfl | rfl
      · exact I7.good F7.up.words F7.down.words
      · exact I8.good F8.up.words F8.down.words
  refine (pmul_ok (cap := 2) R (by simp) hlen (by omega) hg).mono ?_
  rintro e w12 ⟨g10, a10, c10, x10, e10, t10, y10, rfl, F10, P10, I10, hb⟩
  replace I10 : Is g10 x10 y10 (Rat.divInt 1 2) (5) := (I10.mono (by simp)).to (by simp only [mulQ, RV.q, List.foldl, I7.rat, I8.rat]; decide +kernel)
  replace F1 := F1.below hb
  replace E1 := E1.below hb
  replace F6 := F6.below hb
  replace E6 := E6.below hb
  replace F7 := F7.below hb
  replace F8 := F8.below hb
  replace L9 := L9.below hb
  replace hB := hB.trans (hb.mono hB.size)
  have zz12 := hb.size
  have zh12 := hB.size
  clear hb
  clear R hlen hg
  clear L9
  obtain ⟨k0, k1, k2, f0, f1, f2⟩ := E1.three
  have qE1 := E1.lt
  have qE6 := E6.lt
  have hA := Below.refl w12.heap.size w12
  have hq := below_new w12 (.cells #[.bool g10, .slice a10 x10.length c10, .slice e10 y10.length t10] 30)
  replace F1 := F1.below hq
  replace E1 := E1.below hq
  replace F6 := F6.below hq
  replace E6 := E6.below hq
  replace F7 := F7.below hq
  replace F8 := F8.below hq
  replace F10 := F10.below hq
  have E10 := Box.put (w := w12) (k := (w12.heap.size)) (.cells #[.bool g10, .slice a10 x10.length c10, .slice e10 y10.length t10] 30) rfl
  replace hA := hA.trans (hq.mono hA.size)
  replace hB := hB.trans (hq.mono hB.size)
  clear hq
  clear hA
  go_wp2_with fail
  clear k0 k1 k2 f0 f1 f2
  obtain ⟨u13, hname⟩ := nm hB
  rw [hname] at hB F1 E1 F6 E6 F7 F8 F10 E10 ⊢
  have zh13 := hB.size
  clear hname
  refine (lris_yes g1 F1 (-3) 2 (by decide) (by decide) (by decide) I1 (by decide)).mono ?_
  rintro e w14 ⟨rfl, hb⟩
  replace F1 := F1.below hb
  replace E1 := E1.below hb
  replace F6 := F6.below hb
  replace E6 := E6.below hb
  replace F7 := F7.below hb
  replace F8 := F8.below hb
  replace F10 := F10.below hb
  replace E10 := E10.below hb
  replace hB := hB.trans (hb.mono hB.size)
  have zz14 := hb.size
  have zh14 := hB.size
  clear hb
  clear E1 F1
  clear F7 F8
  obtain ⟨k0, k1, k2, f0, f1, f2⟩ := E6.three
  go_wp2_with fail
  clear k0 k1 k2 f0 f1 f2
  refine (lris_yes g6 F6 (1) 1 (by decide) (by decide) (by decide) I6 (by decide)).mono ?_
  rintro e w15 ⟨rfl, hb⟩
  replace F6 := F6.below hb
  replace E6 := E6.below hb
  replace F10 := F10.below hb
  replace E10 := E10.below hb
  replace hB := hB.trans (hb.mono hB.size)
  have zz15 := hb.size
  have zh15 := hB.size
  clear hb
  clear E6 F6
  obtain ⟨k0, k1, k2, f0, f1, f2⟩ := E10.three
  go_wp2_with fail
  clear k0 k1 k2 f0 f1 f2
  refine (lris_yes g10 F10 (1) 2 (by decide) (by decide) (by decide) I10 (by decide)).mono ?_
  rintro e w16 ⟨rfl, hb⟩
  replace F10 := F10.below hb
  replace E10 := E10.below hb
  replace hB := hB.trans (hb.mono hB.size)
  have zz16 := hb.size
  have zh16 := hB.size
  clear hb
  clear E10 F10
  go_wp2_with fail
  refine (lrof_any (2) 4 (by decide) (by decide) _).mono ?_
  rintro e w17 ⟨g11, a11, c11, x11, e11, t11, y11, rfl, F11, P11, N11, M11, V11, U11, b11, B11, hb⟩
  have I11 := of_none F11.up.words F11.down.words V11 U11 (by decide)
  clear P11
  replace hB := hB.trans (hb.mono hB.size)
  have zz17 := hb.size
  have zh17 := hB.size
  clear hb
  go_wp2_with fail
  have hk := pcheck_any g11 F11 (by omega) (by omega)
  rw [I11] at hk
  refine (hk).mono ?_
  rintro e w18 ⟨rfl, hb⟩
  replace F11 := F11.below hb
  replace hB := hB.trans (hb.mono hB.size)
  have zz18 := hb.size
  have zh18 := hB.size
  clear hb
  clear hk
  go_wp2
  go_ret
  exact ⟨rfl, hB⟩
theorem Row.off {lo : Nat} {W : World} {sv : Option Addr} {rs : List RV} {k : Nat} (h : Row lo W sv rs) (hk : W.heap.size ≤ k) : RowOff k sv rs := fun hne g o e => by
  obtain ⟨g', o', e', hg⟩ := h.at_ 0 (List.length_pos_iff.2 hne)
  rw [e] at e'
  simp only [Option.some.injEq, Addr.mk.injEq] at e'
  omega
set_option maxRecDepth 100000 in
set_option maxHeartbeats 4000000 in
theorem lrfolds_short {sv : Option Addr} {cap : Nat} {rs : List RV} {w : World} (R : Row 0 w sv rs) (hrl : rs.length ≤ 6) (hlen : ∀ r ∈ rs, r.xs.length ≤ 5 ∧ r.ds.length ≤ 5) :
    Calls Tryz.prog 3 #[.slice sv rs.length cap] w fun e w' => e = .returned (.bool true) ∧ Below w.heap.size w w' := by
  have HL := long_no rs hrl hlen
  have R0 := R
  have hB := Below.refl w.heap.size w
  go_enter Tryz.func3, Tryz.ntmps3
  go_wp2_with fail
  refine (lrlong_any R false HL).mono ?_
  rintro e w1 ⟨rfl, hb⟩
  replace hB := hB.trans (hb.mono hB.size)
  clear hb R
  go_wp2
  go_loopw [3, 4] (fun nv iv wr => ∃ (i : Nat) (cs : List RV) (a : Option Addr) (cp : Nat), nv = .slice a i cp ∧ iv = .int .i64 i ∧ i ≤ rs.length ∧ Kin w.heap.size wr (.slice a i cp) cs (rs.take i) ∧ Below w.heap.size w wr) (fun _ iv _ => rs.length - (intOf iv).toNat)
  case atStart => exact ⟨0, [], none, 0, rfl, rfl, Nat.zero_le _, kin_nil _ _, hB⟩
  case round =>
    clear hB
    obtain ⟨i, cs, a, cp, rfl, rfl, hi, K, hB⟩ := hrel
    have hw1 : IntKind.i64.wrap ((i : Int) + 1) = (i : Int) + 1 := by rw [IntKind.wrap_i64]; omega
    have zB := hB.size
    have R := R0.below hB
    have HCL : Hid (cs.length = i) := by have := K.len; rw [List.length_take] at this; rw [Hid]; omega
    by_cases hlt : i < rs.length
    · have hlt2 : (i : Int) < (rs.length : Int) := by omega
      have hge : ¬ (i : Int) < 0 := by omega
      have hms : rs.length - (i + 1) < rs.length - i := by omega
      obtain ⟨r, hr0⟩ : ∃ r, rs[i]? = some r := ⟨rs[i], List.getElem?_eq_getElem hlt⟩
      have F := R.held i r hr0
      have hl := hlen r (List.mem_of_getElem? hr0)
      have HR := hide hr0
      clear hr0
      obtain ⟨g, o, rfl, hg⟩ := R.at_ i hlt
      have hcc := R.cells g o i r rfl HR.out
      have c0 := hcc.1
      have c1 := hcc.2.1
      have c2 := hcc.2.2
      clear hcc hg
      go_wp2_with fail
      refine (copyr_any r.b F (by omega) (by omega)).mono ?_
      rintro e w2 ⟨a', ca', c', cc', rfl, F', hb⟩
      obtain ⟨a2, cap2, w3, hap, K2, hb2⟩ := kin_next K r (by have := HCL.out; omega) zB hb F'
      rw [HCL.out] at hap K2
      have hB3 := hB.trans hb2
      clear c0 c1 c2 hb F F' K R
      have KK := hide K2
      clear K2
      go_wp2_with (at_builtin; refine Lib.wpList_append_run _ rfl _ _ _ _ rfl _ _ rfl rfl _ _ hap ?_)
      clear hap
      refine ⟨⟨i + 1, cs ++ [⟨r.b, a', ca', r.xs, c', cc', r.ds⟩], a2, cap2, by simp, by simp, by omega, ?_, hB3⟩, by simpa [intOf] using hms⟩
      rw [List.take_add_one, HR.out]
      exact KK.out
    · have hnl : ¬ (i : Int) < (rs.length : Int) := by omega
      obtain rfl : rs.length = i := by omega
      rw [List.take_of_length_le (Nat.le_refl _)] at K
      have R2 := K.row
      have HK := hide K.keys
      have hlen2 := keys_len HK.out hlen
      have R_M := R
      have R2_M := R2
      have hM := Below.refl wr.heap.size wr
      go_wp2_with fail
      have hk := padd_all (cap := cp) R2 (by rw [HCL.out]; exact hrl) hlen2
      rw [HCL.out, HK.out] at hk
      refine (hk).mono ?_
      rintro e w1 ⟨g1, a1, c1, x1, e1, t1, y1, r1, rfl, F1, P1, I1, hb⟩
      replace R := R.below hb
      replace R2 := R2.below hb
      replace hB := hB.trans (hb.mono hB.size)
      replace hM := hM.trans (hb.mono hM.size)
      have zz1 := hb.size
      have zh1 := hB.size
      clear hb
      clear hk
      have RO1 := R.off (Nat.le_refl w1.heap.size)
      have RO2 := R2.off (Nat.le_refl w1.heap.size)
      have hs0 := Nat.le_refl w1.heap.size
      have hq := below_new w1 (.cells #[.bool g1, .slice a1 x1.length c1, .slice e1 y1.length t1] 30)
      replace R := R.below hq
      replace R2 := R2.below hq
      replace F1 := F1.below hq
      have EX := Box.put (w := w1) (k := (w1.heap.size)) (.cells #[.bool g1, .slice a1 x1.length c1, .slice e1 y1.length t1] 30) rfl
      replace hs0 := Nat.le_trans hs0 hq.size
      replace hB := hB.trans (hq.mono hB.size)
      replace hM := hM.trans (hq.mono hM.size)
      clear hq
      go_wp2_with fail
      obtain ⟨u2, hname⟩ := nm hB
      rw [hname] at hs0 hB hM R R2 F1 EX ⊢
      have zh2 := hB.size
      have zs2 := hs0
      clear hname hs0
      have hk := kadd_all (cap := cap) R hrl hlen
      refine (hk).mono ?_
      rintro e w3 ⟨g2, a2, c2, x2, e2, t2, y2, r2, rfl, F2, P2, I2, hb⟩
      replace R := R.below hb
      replace R2 := R2.below hb
      replace F1 := F1.below hb
      replace EX := EX.below hb
      replace hB := hB.trans (hb.mono hB.size)
      replace hM := hM.trans (hb.mono hM.size)
      have zz3 := hb.size
      have zh3 := hB.size
      clear hb
      clear hk
      have RO3 := R.off (Nat.le_refl w3.heap.size)
      have RO4 := R2.off (Nat.le_refl w3.heap.size)
      obtain ⟨k0, k1, k2, f0, f1, f2⟩ := EX.three
      have qEX := EX.lt
      have hs0 := Nat.le_refl w3.heap.size
      have hq := below_new w3 (.cells #[.bool g2, .slice a2 x2.length c2, .slice e2 y2.length t2] 30)
      replace R := R.below hq
      replace R2 := R2.below hq
      replace F1 := F1.below hq
      replace EX := EX.below hq
      replace F2 := F2.below hq
      have EY := Box.put (w := w3) (k := (w3.heap.size)) (.cells #[.bool g2, .slice a2 x2.length c2, .slice e2 y2.length t2] 30) rfl
      replace hs0 := Nat.le_trans hs0 hq.size
      replace hB := hB.trans (hq.mono hB.size)
      replace hM := hM.trans (hq.mono hM.size)
      clear hq
      go_wp2_with fail
      clear k0 k1 k2 f0 f1 f2
      obtain ⟨u4, hname⟩ := nm hB
      rw [hname] at hs0 hB hM R R2 F1 EX F2 EY ⊢
      have zh4 := hB.size
      have zs4 := hs0
      clear hname hs0
      refine (lrlike_ans F1 F2 P1 I1 I2 (by omega) (by omega)).mono ?_
      rintro e w5 ⟨rfl, hov, hst⟩
      replace EX := hst _ _ _ (noWord3 (fun _ e => by cases e) (fun _ e => by cases e) (fun _ e => by cases e)) EX
      replace EY := hst _ _ _ (noWord3 (fun _ e => by cases e) (fun _ e => by cases e) (fun _ e => by cases e)) EY
      replace hB := hB.trans (hov.mono (by omega))
      replace hM := hM.trans (hov.mono (by omega))
      have zz5 := hov.size
      have zh5 := hB.size
      clear hov hst R R2 F1 F2
      have R := R_M.below hM
      have R2 := R2_M.below hM
      clear P1 I1 P2 I2
      obtain ⟨k0, k1, k2, f0, f1, f2⟩ := EX.three
      obtain ⟨k3, k4, k5, f3, f4, f5⟩ := EY.three
      go_wp2_with fail
      clear k0 k1 k2 f0 f1 f2 k3 k4 k5 f3 f4 f5
      have hk := pmul_all (cap := cp) R2 (by rw [HCL.out]; exact hrl) hlen2
      rw [HCL.out, HK.out] at hk
      refine (hk).mono ?_
      rintro e w6 ⟨g3, a3, c3, x3, e3, t3, y3, r3, rfl, F3, P3, I3, hb⟩
      replace EX := EX.below hb
      replace EY := EY.below hb
      replace R := R.below hb
      replace R2 := R2.below hb
      replace hB := hB.trans (hb.mono hB.size)
      replace hM := hM.trans (hb.mono hM.size)
      have zz6 := hb.size
      have zh6 := hB.size
      clear hb
      clear hk
      obtain ⟨k0, k1, k2, f0, f1, f2⟩ := EX.three
      obtain ⟨k3, k4, k5, f3, f4, f5⟩ := EY.three
      have qEX := EX.lt
      have qEY := EY.lt
      have hs0 := Nat.le_refl w6.heap.size
      have hT := turns3 (w1.heap.size) w6 (.bool g3) (.slice a3 x3.length c3) (.slice e3 y3.length t3)
      replace EY := EY.turns hT (by omega)
      replace R := R.beside EX (noWord3 (fun _ e => by cases e) (fun _ e => by cases e) (fun _ e => by cases e)) hT (by first | exact RO1 | exact RO2 | exact RO3 | exact RO4)
      replace R2 := R2.beside EX (noWord3 (fun _ e => by cases e) (fun _ e => by cases e) (fun _ e => by cases e)) hT (by first | exact RO1 | exact RO2 | exact RO3 | exact RO4)
      replace F3 := F3.beside EX (noWord3 (fun _ e => by cases e) (fun _ e => by cases e) (fun _ e => by cases e)) hT
      replace EX := Box.set3 (.bool g3) (.slice a3 x3.length c3) (.slice e3 y3.length t3) EX
      replace hB := hB.trans (hT.below.mono (by omega))
      replace hM := hM.trans (hT.below.mono (by omega))
      replace hs0 := Nat.le_trans hs0 hT.below.size
      clear hT
      go_wp2_with fail
      clear k0 k1 k2 f0 f1 f2 k3 k4 k5 f3 f4 f5
      obtain ⟨u7, hname⟩ := nm hB
      rw [hname] at hs0 hB hM EX EY R R2 F3 ⊢
      have zh7 := hB.size
      have zs7 := hs0
      clear hname hs0
      have hk := kmul_all (cap := cap) R hrl hlen
      refine (hk).mono ?_
      rintro e w8 ⟨g4, a4, c4, x4, e4, t4, y4, r4, rfl, F4, P4, I4, hb⟩
      replace EX := EX.below hb
      replace EY := EY.below hb
      replace R := R.below hb
      replace R2 := R2.below hb
      replace F3 := F3.below hb
      replace hB := hB.trans (hb.mono hB.size)
      replace hM := hM.trans (hb.mono hM.size)
      have zz8 := hb.size
      have zh8 := hB.size
      clear hb
      clear hk
      obtain ⟨k0, k1, k2, f0, f1, f2⟩ := EX.three
      obtain ⟨k3, k4, k5, f3, f4, f5⟩ := EY.three
      have qEX := EX.lt
      have qEY := EY.lt
      have hs0 := Nat.le_refl w8.heap.size
      have hT := turns3 (w3.heap.size) w8 (.bool g4) (.slice a4 x4.length c4) (.slice e4 y4.length t4)
      replace EX := EX.turns hT (by omega)
      replace R := R.beside EY (noWord3 (fun _ e => by cases e) (fun _ e => by cases e) (fun _ e => by cases e)) hT (by first | exact RO1 | exact RO2 | exact RO3 | exact RO4)
      replace R2 := R2.beside EY (noWord3 (fun _ e => by cases e) (fun _ e => by cases e) (fun _ e => by cases e)) hT (by first | exact RO1 | exact RO2 | exact RO3 | exact RO4)
      replace F3 := F3.beside EY (noWord3 (fun _ e => by cases e) (fun _ e => by cases e) (fun _ e => by cases e)) hT
      replace F4 := F4.beside EY (noWord3 (fun _ e => by cases e) (fun _ e => by cases e) (fun _ e => by cases e)) hT
      replace EY := Box.set3 (.bool g4) (.slice a4 x4.length c4) (.slice e4 y4.length t4) EY
      replace hB := hB.trans (hT.below.mono (by omega))
      replace hM := hM.trans (hT.below.mono (by omega))
      replace hs0 := Nat.le_trans hs0 hT.below.size
      clear hT
      go_wp2_with fail
      clear k0 k1 k2 f0 f1 f2 k3 k4 k5 f3 f4 f5
      obtain ⟨u9, hname⟩ := nm hB
      rw [hname] at hs0 hB hM EX EY R R2 F3 F4 ⊢
      have zh9 := hB.size
      have zs9 := hs0
      clear hname hs0
      refine (lrlike_ans F3 F4 P3 I3 I4 (by omega) (by omega)).mono ?_
      rintro e w10 ⟨rfl, hov, hst⟩
      replace EX := hst _ _ _ (noWord3 (fun _ e => by cases e) (fun _ e => by cases e) (fun _ e => by cases e)) EX
      replace EY := hst _ _ _ (noWord3 (fun _ e => by cases e) (fun _ e => by cases e) (fun _ e => by cases e)) EY
      replace hB := hB.trans (hov.mono (by omega))
      replace hM := hM.trans (hov.mono (by omega))
      have zz10 := hov.size
      have zh10 := hB.size
      clear hov hst R R2 F3 F4
      have R := R_M.below hM
      have R2 := R2_M.below hM
      clear P3 I3 P4 I4
      go_wp2
      go_loopw [9, 10] (fun bv iv wv => ∃ (i : Nat), bv = .bool true ∧ iv = .int .i64 i ∧ i ≤ rs.length ∧ Row 0 wv sv rs ∧ Row 0 wv a cs ∧ Below w.heap.size w wv) (fun _ iv _ => rs.length - (intOf iv).toNat)
      case atStart => exact ⟨0, rfl, rfl, Nat.zero_le _, R, R2, hB⟩
      case round =>
        clear R R2 hB EX EY R_M R2_M hM RO1 RO2 RO3 RO4 K
        obtain ⟨i, rfl, rfl, hi, R, R2, hB⟩ := hrel
        have hw1 : IntKind.i64.wrap ((i : Int) + 1) = (i : Int) + 1 := by rw [IntKind.wrap_i64]; omega
        by_cases hlt : i < rs.length
        · have hlt2 : (i : Int) < (rs.length : Int) := by omega
          have hge : ¬ (i : Int) < 0 := by omega
          have hms : rs.length - (i + 1) < rs.length - i := by omega
          obtain ⟨r, hr0⟩ : ∃ r, rs[i]? = some r := ⟨rs[i], List.getElem?_eq_getElem hlt⟩
          obtain ⟨a1, c1, n1, m1, hs0⟩ := keys_at HK.out hr0
          have F1 := R.held i r hr0
          have F2 : Fr 0 _ a1 n1 r.xs c1 m1 r.ds := R2.held i _ hs0
          have hl := hlen r (List.mem_of_getElem? hr0)
          have HR := hide hr0
          have HS := hide hs0
          clear hr0 hs0
          obtain ⟨g, o, rfl, hg⟩ := R.at_ i hlt
          obtain ⟨g2, o2, rfl, hg2⟩ := R2.at_ i (by rw [HCL.out]; exact hlt)
          obtain ⟨x, hx⟩ : ∃ x, formR r.b r.xs r.ds = x := ⟨_, rfl⟩
          have HX := hide hx
          clear hx hg hg2
          go_wp2_with fail
          replace R := R.drew
          replace R2 := R2.drew
          replace F1 := F1.drew
          replace F2 := F2.drew
          have hr := Below.refl wr.drew.heap.size wr.drew
          have hkeep : ∀ V : World, Below wr.drew.heap.size wr.drew V → V.cell? ⟨g, o + i * 3, none⟩ = some (.bool r.b) ∧ V.cell? ⟨g, o + i * 3 + 1, none⟩ = some (.slice r.a r.xs.length r.ca) ∧ V.cell? ⟨g, o + i * 3 + 2, none⟩ = some (.slice r.c r.ds.length r.cc) ∧ V.cell? ⟨g2, o2 + i * 3, none⟩ = some (.bool r.b) ∧ V.cell? ⟨g2, o2 + i * 3 + 1, none⟩ = some (.slice a1 r.xs.length n1) ∧ V.cell? ⟨g2, o2 + i * 3 + 2, none⟩ = some (.slice c1 r.ds.length m1) := fun V hV => by
            have h1 := (R.below hV).cells g o i r rfl HR.out
            have h2 := (R2.below hV).cells g2 o2 i _ rfl HS.out
            exact ⟨h1.1, h1.2.1, h1.2.2, h2.1, h2.2.1, h2.2.2⟩
          have t0 : Hid True := trivial
          go_region_held3 (fun V : World => V.cell? ⟨g, o + i * 3, none⟩ = some (.bool r.b) ∧ V.cell? ⟨g, o + i * 3 + 1, none⟩ = some (.slice r.a r.xs.length r.ca) ∧ V.cell? ⟨g, o + i * 3 + 2, none⟩ = some (.slice r.c r.ds.length r.cc) ∧ V.cell? ⟨g2, o2 + i * 3, none⟩ = some (.bool r.b) ∧ V.cell? ⟨g2, o2 + i * 3 + 1, none⟩ = some (.slice a1 r.xs.length n1) ∧ V.cell? ⟨g2, o2 + i * 3 + 2, none⟩ = some (.slice c1 r.ds.length m1))
            (exact hkeep _ hr)
            (first
            | (clear t0
               go_at_call 12
               have hk := pcheck_any r.b F2 (by omega) (by omega)
               rw [HX.out] at hk
               refine (hk).mono ?_
               rintro e w91 ⟨rfl, hb⟩
               replace F1 := F1.below hb
               replace F2 := F2.below hb
               replace hr := hr.trans (hb.mono hr.size)
               clear hb
               have t1 : Hid True := trivial)
            | (clear t1
               go_at_call 13
               have hk := kcheck_any r.b F1 (by omega) (by omega)
               rw [HX.out] at hk
               refine (hk).mono ?_
               rintro e w92 ⟨rfl, hb⟩
               replace F1 := F1.below hb
               replace F2 := F2.below hb
               replace hr := hr.trans (hb.mono hr.size)
               clear hb
               have t2 : Hid True := trivial)
            | (clear t2
               go_at_call 14
               refine (samer_yes r.b F2 F1 (by omega) (by omega)).mono ?_
               rintro e w93 ⟨rfl, hb⟩
               replace F1 := F1.below hb
               replace F2 := F2.below hb
               replace hr := hr.trans (hb.mono hr.size)
               clear hb
               have t3 : Hid True := trivial))
          replace R := R.below hr
          replace R2 := R2.below hr
          replace hB := hB.trans ((Below.trans (Below.drew (Below.refl wr.heap.size wr)) hr).mono hB.size)
          clear hr hkeep F1 F2
          go_wp2
          refine ⟨⟨i + 1, by simp, by simp, by omega, R, R2, hB⟩, by simpa [intOf] using hms⟩
        · have hnl : ¬ (i : Int) < (rs.length : Int) := by omega
          go_wp2_with fail
          refine (lrawake_any _).mono ?_
          rintro e w94 ⟨rfl, hb⟩
          replace hB := hB.trans (hb.mono hB.size)
          clear hb
          go_wp2
          go_ret
          exact ⟨rfl, hB⟩
set_option maxRecDepth 100000 in
set_option maxHeartbeats 4000000 in
theorem lrfolds_long {sv : Option Addr} {cap : Nat} {rs : List RV} {w : World} (R : Row 0 w sv rs) (HL : LongIs true rs) :
    Calls Tryz.prog 3 #[.slice sv rs.length cap] w fun e w' => e = .returned (.bool true) ∧ Below w.heap.size w w' := by
  have hB := Below.refl w.heap.size w
  go_enter Tryz.func3, Tryz.ntmps3
  go_wp2_with fail
  refine (lrlong_any R true HL).mono ?_
  rintro e w1 ⟨rfl, hb⟩
  replace hB := hB.trans (hb.mono hB.size)
  clear hb
  go_wp2_with fail
  refine (lrawake_any _).mono ?_
  rintro e w2 ⟨rfl, hb⟩
  replace hB := hB.trans (hb.mono hB.size)
  clear hb
  go_wp2
  go_ret
  exact ⟨rfl, hB⟩
theorem lrfolds_any {sv : Option Addr} {cap : Nat} {rs : List RV} {w : World} (R : Row 0 w sv rs) :
    Calls Tryz.prog 3 #[.slice sv rs.length cap] w fun e w' => e = .returned (.bool true) ∧ Below w.heap.size w w' := by
  by_cases h6 : rs.length ≤ 6
  · by_cases hl : ∀ r ∈ rs, r.xs.length ≤ 5 ∧ r.ds.length ≤ 5
    · exact lrfolds_short R h6 hl
    · refine lrfolds_long R (long_yes rs ?_)
      rw [List.take_of_length_le (by omega)]
      obtain ⟨r, hr⟩ := Classical.not_forall.1 hl
      obtain ⟨h1, h2⟩ := Classical.not_imp.1 hr
      exact ⟨r, h1, h2⟩
  · exact lrfolds_long R ⟨⟨fun _ => Or.inl (by omega), fun _ => rfl⟩⟩
end Go.Proofs.YtegopbhidgbjpaaGreat
