/-
  Joined: SForms RatW RatX RatT KDoc2 RatV KDoc3 RatQ KDoc4 KFold.
-/
import Derived.Test.YthlbobbmnahoiaaGreatJRatL
import Derived.Test.YthlbobbmnahoiaaGreatJRMulB
import Derived.Test.YthlbobbmnahoiaaGreatJRatH
import Derived.Test.YthlbobbmnahoiaaGreatJSigB
namespace Go.Proofs.YthlbobbmnahoiaaGreat
open Go.RowKit
theorem samew_can {lo lo' : Nat} {a c : Option Addr} {ca cc : Nat} {xs ys : List Int} {w : World} (b d : Bool) (h : Seg lo w (.slice a xs.length ca) xs) (h' : Seg lo' w (.slice c ys.length cc) ys) (hc : Canon b xs) (hd : Canon d ys) (hv : sgn b (val xs) = sgn d (val ys)) (hl : xs.length ≤ 10000) :
    Calls Tryz.prog 18 #[.agg #[.bool b, .slice a xs.length ca], .agg #[.bool d, .slice c ys.length cc]] w fun e w' => e = .returned (.bool true) ∧ Below w.heap.size w w' := by
  obtain ⟨rfl, rfl⟩ := canon_unique h.words h'.words hc hd hv
  exact samew_yes b h h' hl
theorem samew_any {lo lo' : Nat} {a c : Option Addr} {ca cc : Nat} {xs ys : List Int} {w : World} (b d : Bool) (h : Seg lo w (.slice a xs.length ca) xs) (h' : Seg lo' w (.slice c ys.length cc) ys) (hl : xs.length ≤ 10000) :
    Calls Tryz.prog 18 #[.agg #[.bool b, .slice a xs.length ca], .agg #[.bool d, .slice c ys.length cc]] w fun e w' => e = .returned (.bool (decide (b = d ∧ xs = ys))) ∧ Below w.heap.size w w' := by
  by_cases hh : b = d ∧ xs = ys
  · obtain ⟨rfl, rfl⟩ := hh
    rw [decide_eq_true ⟨rfl, rfl⟩]
    exact samew_yes b h h' hl
  · rw [decide_eq_false hh]
    exact samew_no b d h h' hl hh
theorem samen_any {lo lo' : Nat} {a c : Option Addr} {ca cc : Nat} {xs ys : List Int} {w : World} (h : Seg lo w (.slice a xs.length ca) xs) (h' : Seg lo' w (.slice c ys.length cc) ys) (hl : xs.length ≤ 10000) :
    Calls Tryz.prog 58 #[.slice a xs.length ca, .slice c ys.length cc] w fun e w' => e = .returned (.bool (decide (xs = ys))) ∧ Below w.heap.size w w' := by
  by_cases hh : xs = ys
  · subst hh
    rw [decide_eq_true rfl]
    exact same_yes h h' (by omega)
  · rw [decide_eq_false hh]
    exact same_no h h' (by omega) hh
set_option maxRecDepth 100000 in
set_option maxHeartbeats 4000000 in
theorem samer_any {lo lo2 : Nat} {a c p r : Option Addr} {ca cc cp cr : Nat} {xs ds ys es : List Int} {w : World} (b g : Bool) (FA : Fr lo w a ca xs c cc ds) (FB : Fr lo2 w p cp ys r cr es) (hl : xs.length ≤ 1000) (hl2 : ds.length ≤ 1000) :
    Calls Tryz.prog 20 #[.agg #[.bool b, .slice a xs.length ca, .slice c ds.length cc], .agg #[.bool g, .slice p ys.length cp, .slice r es.length cr]] w fun e w' => e = .returned (.bool (decide (b = g ∧ xs = ys ∧ ds = es))) ∧ Below w.heap.size w w' := by
  have hB := Below.refl w.heap.size w
  by_cases h1 : b = g ∧ xs = ys
  · have HW : Hid (decide (b = g ∧ xs = ys) = true) := decide_eq_true h1
    have hv : decide (b = g ∧ xs = ys ∧ ds = es) = decide (ds = es) := decide_eq_decide.2 ⟨fun h => h.2.2, fun h => ⟨h1.1, h1.2, h⟩⟩
    rw [hv]
    obtain ⟨v, hd⟩ : ∃ v, decide (ds = es) = v := ⟨_, rfl⟩
    rw [hd]
    have HD := hide hd
    clear hd hv h1
    go_enter Tryz.func20, Tryz.ntmps20
    have hA := Below.refl w.heap.size w
    have hq := below_new w (.cells #[.bool b, .slice a xs.length ca, .slice c ds.length cc] 27)
    replace FA := FA.below hq
    replace FB := FB.below hq
    have EA := Box.put (w := w) (k := (w.heap.size)) (.cells #[.bool b, .slice a xs.length ca, .slice c ds.length cc] 27) rfl
    replace hA := hA.trans (hq.mono hA.size)
    replace hB := hB.trans (hq.mono hB.size)
    clear hq
    have hq := below_new (w.alloc (.cells #[.bool b, .slice a xs.length ca, .slice c ds.length cc] 27)) (.cells #[.bool g, .slice p ys.length cp, .slice r es.length cr] 27)
    replace FA := FA.below hq
    replace FB := FB.below hq
    replace EA := EA.below hq
    have EB := Box.put (w := (w.alloc (.cells #[.bool b, .slice a xs.length ca, .slice c ds.length cc] 27))) (k := (w.heap.size + 1)) (.cells #[.bool g, .slice p ys.length cp, .slice r es.length cr] 27) (by simp)
    replace hA := hA.trans (hq.mono hA.size)
    replace hB := hB.trans (hq.mono hB.size)
    clear hq
    clear hA
    go_wp2_with fail
    obtain ⟨u1, hname⟩ := nm hB
    rw [hname] at hB FA FB EA EB ⊢
    have zh1 := hB.size
    clear hname
    have hk := samew_any b g FA.up FB.up (by omega)
    rw [HW.out] at hk
    refine (hk).mono ?_
    rintro e w2 ⟨rfl, hb⟩
    replace FA := FA.below hb
    replace FB := FB.below hb
    replace EA := EA.below hb
    replace EB := EB.below hb
    replace hB := hB.trans (hb.mono hB.size)
    have zz2 := hb.size
    have zh2 := hB.size
    clear hb
    clear hk
    obtain ⟨k0, k1, k2, f0, f1, f2⟩ := EA.three
    obtain ⟨k3, k4, k5, f3, f4, f5⟩ := EB.three
    go_wp2_with fail
    clear k0 k1 k2 f0 f1 f2 k3 k4 k5 f3 f4 f5
    have hk := samen_any FA.down FB.down (by omega)
    rw [HD.out] at hk
    refine (hk).mono ?_
    rintro e w3 ⟨rfl, hb⟩
    replace FA := FA.below hb
    replace FB := FB.below hb
    replace EA := EA.below hb
    replace EB := EB.below hb
    replace hB := hB.trans (hb.mono hB.size)
    have zz3 := hb.size
    have zh3 := hB.size
    clear hb
    clear hk
    obtain ⟨k0, k1, k2, f0, f1, f2⟩ := EA.three
    obtain ⟨k3, k4, k5, f3, f4, f5⟩ := EB.three
    go_wp2
    go_ret
    exact ⟨rfl, hB⟩
  · have HW : Hid (decide (b = g ∧ xs = ys) = false) := decide_eq_false h1
    rw [decide_eq_false (fun h => h1 ⟨h.1, h.2.1⟩)]
    clear h1
    go_enter Tryz.func20, Tryz.ntmps20
    have hA := Below.refl w.heap.size w
    have hq := below_new w (.cells #[.bool b, .slice a xs.length ca, .slice c ds.length cc] 27)
    replace FA := FA.below hq
    replace FB := FB.below hq
    have EA := Box.put (w := w) (k := (w.heap.size)) (.cells #[.bool b, .slice a xs.length ca, .slice c ds.length cc] 27) rfl
    replace hA := hA.trans (hq.mono hA.size)
    replace hB := hB.trans (hq.mono hB.size)
    clear hq
    have hq := below_new (w.alloc (.cells #[.bool b, .slice a xs.length ca, .slice c ds.length cc] 27)) (.cells #[.bool g, .slice p ys.length cp, .slice r es.length cr] 27)
    replace FA := FA.below hq
    replace FB := FB.below hq
    replace EA := EA.below hq
    have EB := Box.put (w := (w.alloc (.cells #[.bool b, .slice a xs.length ca, .slice c ds.length cc] 27))) (k := (w.heap.size + 1)) (.cells #[.bool g, .slice p ys.length cp, .slice r es.length cr] 27) (by simp)
    replace hA := hA.trans (hq.mono hA.size)
    replace hB := hB.trans (hq.mono hB.size)
    clear hq
    clear hA
    go_wp2_with fail
    obtain ⟨u1, hname⟩ := nm hB
    rw [hname] at hB FA FB EA EB ⊢
    have zh1 := hB.size
    clear hname
    have hk := samew_any b g FA.up FB.up (by omega)
    rw [HW.out] at hk
    refine (hk).mono ?_
    rintro e w2 ⟨rfl, hb⟩
    replace FA := FA.below hb
    replace FB := FB.below hb
    replace EA := EA.below hb
    replace EB := EB.below hb
    replace hB := hB.trans (hb.mono hB.size)
    have zz2 := hb.size
    have zh2 := hB.size
    clear hb
    clear hk
    obtain ⟨k0, k1, k2, f0, f1, f2⟩ := EA.three
    obtain ⟨k3, k4, k5, f3, f4, f5⟩ := EB.three
    go_wp2
    go_ret
    exact ⟨rfl, hB⟩
theorem samer_yes {lo lo2 : Nat} {a c p r : Option Addr} {ca cc cp cr : Nat} {xs ds : List Int} {w : World} (b : Bool) (FA : Fr lo w a ca xs c cc ds) (FB : Fr lo2 w p cp xs r cr ds) (hl : xs.length ≤ 1000) (hl2 : ds.length ≤ 1000) :
    Calls Tryz.prog 20 #[.agg #[.bool b, .slice a xs.length ca, .slice c ds.length cc], .agg #[.bool b, .slice p xs.length cp, .slice r ds.length cr]] w fun e w' => e = .returned (.bool true) ∧ Below w.heap.size w w' := by
  have h := samer_any b b FA FB hl hl2
  rw [decide_eq_true ⟨rfl, rfl, rfl⟩] at h
  exact h
theorem samer_is {lo lo2 : Nat} {a c p r : Option Addr} {ca cc cp cr : Nat} {xs ds ys es : List Int} {w : World} {b g : Bool} {q : Rat} {n m : Nat} (FA : Fr lo w a ca xs c cc ds) (FB : Fr lo2 w p cp ys r cr es) (IA : Is b xs ds q n) (IB : Is g ys es q m) (hn : n ≤ 1000) :
    Calls Tryz.prog 20 #[.agg #[.bool b, .slice a xs.length ca, .slice c ds.length cc], .agg #[.bool g, .slice p ys.length cp, .slice r es.length cr]] w fun e w' => e = .returned (.bool true) ∧ Below w.heap.size w w' := by
  have h := samer_any b g FA FB (Nat.le_trans IA.lu hn) (Nat.le_trans IA.ld hn)
  rw [decide_eq_true (lowL_unique FA.up.words FA.down.words FB.up.words FB.down.words IA.low IB.low (IA.rat.trans IB.rat.symm))] at h
  exact h
set_option maxRecDepth 100000 in
set_option maxHeartbeats 4000000 in
theorem longr_any (b : Bool) (a : Option Addr) (xs : List Int) (ca : Nat) (c : Option Addr) (ds : List Int) (cc : Nat) (most : Int) (w : World) :
    Calls Tryz.prog 21 #[.agg #[.bool b, .slice a xs.length ca, .slice c ds.length cc], .int .i64 most] w fun e w' => e = .returned (.bool (decide (most < (xs.length : Int) ∨ most < (ds.length : Int)))) ∧ Below w.heap.size w w' := by
  have hB0 : Below w.heap.size w (w.alloc (.cells #[.bool b, .slice a xs.length ca, .slice c ds.length cc] 27)) := (Below.refl _ w).alloc (Nat.le_refl _) _
  by_cases h1 : most < (xs.length : Int)
  · rw [decide_eq_true (Or.inl h1)]
    go_enter Tryz.func21, Tryz.ntmps21
    go_wp2
    go_ret
    exact ⟨rfl, hB0⟩
  · by_cases h2 : most < (ds.length : Int)
    · rw [decide_eq_true (Or.inr h2)]
      go_enter Tryz.func21, Tryz.ntmps21
      go_wp2
      go_ret
      exact ⟨rfl, hB0⟩
    · rw [decide_eq_false (by rintro (h | h) <;> contradiction)]
      go_enter Tryz.func21, Tryz.ntmps21
      go_wp2
      go_ret
      exact ⟨rfl, hB0⟩
def BoxesStay (w w' : World) : Prop := ∀ (k : Nat) (cs : Array Value) (t : TypeId), NoWord cs → Box w k (.cells cs t (0, 0)) → Box w' k (.cells cs t (0, 0))
theorem Seg.offBox {lo k : Nat} {W W' : World} {a : Option Addr} {c : Nat} {z : List Int} {cs : Array Value} {t : TypeId} (h : Seg lo W (.slice a z.length c) z) (E : Box W k (.cells cs t (0, 0))) (hs : NoWord cs) (ht : OverT lo a z W W') : Box W' k (.cells cs t (0, 0)) :=
  ⟨Nat.lt_of_lt_of_le E.lt ht.below.size, (ht.other k (fun hz b o e he => h.offU E hs hz b o e he.symm) E.lt).trans E.what⟩
set_option maxRecDepth 100000 in
set_option maxHeartbeats 4000000 in
theorem overr_any {lo : Nat} {a c : Option Addr} {ca cc : Nat} {xs ds : List Int} {w : World} (b : Bool) (FA : Fr lo w a ca xs c cc ds) (PA : Apart a c xs ds) (hl : xs.length ≤ 1000) (hl2 : ds.length ≤ 1000) (hlo : lo ≤ w.heap.size) :
    Calls Tryz.prog 35 #[.agg #[.bool b, .slice a xs.length ca, .slice c ds.length cc]] w fun e w' => e = .returned (.tuple #[]) ∧ Below lo w w' ∧ BoxesStay w w' := by
  have hB0 : Below w.heap.size w (w.alloc (.cells #[.bool b, .slice a xs.length ca, .slice c ds.length cc] 27)) := (Below.refl _ w).alloc (Nat.le_refl _) _
  have EA := Box.new w (.cells #[.bool b, .slice a xs.length ca, .slice c ds.length cc] 27)
  have F0 := FA.below hB0
  have PA' := hide PA
  clear PA
  go_enter Tryz.func35, Tryz.ntmps35
  go_wp2_with fail
  refine (over_ot F0.up (by omega)).mono ?_
  rintro e w1 ⟨rfl, hov⟩
  have E1 := F0.up.offBox EA (noWord3 (fun _ e => by cases e) (fun _ e => by cases e) (fun _ e => by cases e)) hov
  have S1 := F0.down.overt hov PA'.out
  have hB1 := (hB0.mono hlo).trans hov.below
  have hst1 : BoxesStay w w1 := fun k cs t nw E => F0.up.offBox (E.below hB0) nw hov
  obtain ⟨k0, k1, k2, _, _, _⟩ := E1.three
  clear hov
  go_wp2_with fail
  refine (over_ot S1 (by omega)).mono ?_
  rintro e w2 ⟨rfl, hov⟩
  have hB2 := hB1.trans hov.below
  have hst2 : BoxesStay w w2 := fun k cs t nw E => S1.offBox (hst1 k cs t nw E) nw hov
  clear hov k0 k1 k2
  go_wp2
  go_end0
  exact ⟨rfl, hB2, hst2⟩
def OfSaid (x d : Int) (w : World) (e : Ending) (w' : World) : Prop := ∃ (g : Bool) (a : Option Addr) (ca : Nat) (xs : List Int) (c : Option Addr) (cc : Nat) (ds : List Int), e = .returned (.agg #[.bool g, .slice a xs.length ca, .slice c ds.length cc]) ∧ Fr w.heap.size w' a ca xs c cc ds ∧ Apart a c xs ds ∧ Canon g xs ∧ Norm ds ∧ Hid (sgn g (val xs) = x) ∧ Hid (val ds = d) ∧ xs.length ≤ 1 ∧ ds.length ≤ 1 ∧ Below w.heap.size w w'
set_option maxRecDepth 100000 in
set_option maxHeartbeats 4000000 in
theorem lrof_pos (x d : Int) (hx : 0 < x ∧ x ≤ 1000) (hd : 0 < d ∧ d ≤ 1000) (w : World) :
    Calls Tryz.prog 24 #[.int .i64 x, .int .u64 d] w fun e w' => OfSaid x d w e w' := by
  have h1 : ¬ x < 0 := by omega
  have h2 : 0 < x := hx.1
  have h3 : IntKind.u64.wrap x = x := by rw [IntKind.wrap_u64]; omega
  have s1 := seg_lit ((w.alloc (.cells #[.bool false, (.slice (some ⟨w.heap.size + 1 + 1, 0, none⟩) 1 1), (.slice (some ⟨w.heap.size + 1 + 1 + 1, 0, none⟩) 1 1)] 27)).alloc (.cells #[.bool false, (.slice (some ⟨w.heap.size + 1 + 1, 0, none⟩) 1 1)] 25)) [x] (Words.cons (by omega) Words.nil)
  have s2 := seg_lit (((w.alloc (.cells #[.bool false, (.slice (some ⟨w.heap.size + 1 + 1, 0, none⟩) 1 1), (.slice (some ⟨w.heap.size + 1 + 1 + 1, 0, none⟩) 1 1)] 27)).alloc (.cells #[.bool false, (.slice (some ⟨w.heap.size + 1 + 1, 0, none⟩) 1 1)] 25)).alloc (.cells #[.int .u64 (x)] 49)) [d] (Words.cons (by omega) Words.nil)
  have s3 := s1.alloc (.cells #[.int .u64 d] 49)
  have hb : Below w.heap.size w ((((w.alloc (.cells #[.bool false, (.slice (some ⟨w.heap.size + 1 + 1, 0, none⟩) 1 1), (.slice (some ⟨w.heap.size + 1 + 1 + 1, 0, none⟩) 1 1)] 27)).alloc (.cells #[.bool false, (.slice (some ⟨w.heap.size + 1 + 1, 0, none⟩) 1 1)] 25)).alloc (.cells #[.int .u64 (x)] 49)).alloc (.cells #[.int .u64 d] 49)) := ((((Below.refl _ w).a1 _).a1 _).a1 _).a1 _
  rw [World.size_alloc, World.size_alloc] at s1 s2 s3
  rw [World.size_alloc] at s2
  clear s1
  go_enter Tryz.func24, Tryz.ntmps24
  go_wp2
  refine bodyPost_ret (v := .agg #[.bool false, (.slice (some ⟨w.heap.size + 1 + 1, 0, none⟩) 1 1), (.slice (some ⟨w.heap.size + 1 + 1 + 1, 0, none⟩) 1 1)]) (by simp [results, Tryz.f24, go_sem]) rfl ?_
  exact ⟨false, _, _, [x], _, _, [d], rfl, ⟨s3.mono (by omega), s2.mono (by omega)⟩, fun _ _ b1 o1 b2 o2 e1 e2 => by simp at e1 e2; omega, ⟨Or.inr (by simp; omega), fun _ => by simp⟩, Or.inr (by simp; omega), by rw [Hid, val_cons, val_nil]; simp [sgn], by rw [Hid, val_cons, val_nil]; omega, by simp, by simp, hb⟩
set_option maxRecDepth 100000 in
set_option maxHeartbeats 4000000 in
theorem lrof_neg (x d : Int) (hx : -1000 ≤ x ∧ x < 0) (hd : 0 < d ∧ d ≤ 1000) (w : World) :
    Calls Tryz.prog 24 #[.int .i64 x, .int .u64 d] w fun e w' => OfSaid x d w e w' := by
  have h1 : x < 0 := by omega
  have h2 : 0 < -x := by omega
  have h3 : IntKind.u64.wrap (-x) = -x := by rw [IntKind.wrap_u64]; omega
  have h4 : IntKind.i64.wrap (-x) = -x := by rw [IntKind.wrap_i64]; omega
  have s1 := seg_lit ((w.alloc (.cells #[.bool true, (.slice (some ⟨w.heap.size + 1 + 1, 0, none⟩) 1 1), (.slice (some ⟨w.heap.size + 1 + 1 + 1, 0, none⟩) 1 1)] 27)).alloc (.cells #[.bool true, (.slice (some ⟨w.heap.size + 1 + 1, 0, none⟩) 1 1)] 25)) [-x] (Words.cons (by omega) Words.nil)
  have s2 := seg_lit (((w.alloc (.cells #[.bool true, (.slice (some ⟨w.heap.size + 1 + 1, 0, none⟩) 1 1), (.slice (some ⟨w.heap.size + 1 + 1 + 1, 0, none⟩) 1 1)] 27)).alloc (.cells #[.bool true, (.slice (some ⟨w.heap.size + 1 + 1, 0, none⟩) 1 1)] 25)).alloc (.cells #[.int .u64 (-x)] 49)) [d] (Words.cons (by omega) Words.nil)
  have s3 := s1.alloc (.cells #[.int .u64 d] 49)
  have hb : Below w.heap.size w ((((w.alloc (.cells #[.bool true, (.slice (some ⟨w.heap.size + 1 + 1, 0, none⟩) 1 1), (.slice (some ⟨w.heap.size + 1 + 1 + 1, 0, none⟩) 1 1)] 27)).alloc (.cells #[.bool true, (.slice (some ⟨w.heap.size + 1 + 1, 0, none⟩) 1 1)] 25)).alloc (.cells #[.int .u64 (-x)] 49)).alloc (.cells #[.int .u64 d] 49)) := ((((Below.refl _ w).a1 _).a1 _).a1 _).a1 _
  rw [World.size_alloc, World.size_alloc] at s1 s2 s3
  rw [World.size_alloc] at s2
  clear s1
  go_enter Tryz.func24, Tryz.ntmps24
  go_wp2
  refine bodyPost_ret (v := .agg #[.bool true, (.slice (some ⟨w.heap.size + 1 + 1, 0, none⟩) 1 1), (.slice (some ⟨w.heap.size + 1 + 1 + 1, 0, none⟩) 1 1)]) (by simp [results, Tryz.f24, go_sem]) rfl ?_
  exact ⟨true, _, _, [-x], _, _, [d], rfl, ⟨s3.mono (by omega), s2.mono (by omega)⟩, fun _ _ b1 o1 b2 o2 e1 e2 => by simp at e1 e2; omega, ⟨Or.inr (by simp; omega), fun _ => by simp⟩, Or.inr (by simp; omega), by rw [Hid, val_cons, val_nil]; simp [sgn], by rw [Hid, val_cons, val_nil]; omega, by simp, by simp, hb⟩
set_option maxRecDepth 100000 in
set_option maxHeartbeats 4000000 in
theorem lrof_zero (x d : Int) (hx : x = 0) (hd : 0 < d ∧ d ≤ 1000) (w : World) :
    Calls Tryz.prog 24 #[.int .i64 x, .int .u64 d] w fun e w' => OfSaid x d w e w' := by
  subst hx
  have s2 := seg_lit ((w.alloc (.cells #[.bool false, .slice none 0 0, (.slice (some ⟨w.heap.size + 1 + 1, 0, none⟩) 1 1)] 27)).alloc (.cells #[.bool false, .slice none 0 0] 25)) [d] (Words.cons (by omega) Words.nil)
  have hb : Below w.heap.size w (((w.alloc (.cells #[.bool false, .slice none 0 0, (.slice (some ⟨w.heap.size + 1 + 1, 0, none⟩) 1 1)] 27)).alloc (.cells #[.bool false, .slice none 0 0] 25)).alloc (.cells #[.int .u64 d] 49)) := (((Below.refl _ w).a1 _).a1 _).a1 _
  rw [World.size_alloc, World.size_alloc] at s2
  go_enter Tryz.func24, Tryz.ntmps24
  go_wp2
  refine bodyPost_ret (v := .agg #[.bool false, .slice none 0 0, (.slice (some ⟨w.heap.size + 1 + 1, 0, none⟩) 1 1)]) (by simp [results, Tryz.f24, go_sem]) rfl ?_
  exact ⟨false, none, 0, [], _, _, [d], rfl, ⟨Seg.nil _ _, s2.mono (by omega)⟩, fun h => absurd rfl h, ⟨norm_nil, fun h => by cases h⟩, Or.inr (by simp; omega), by rw [Hid, val_nil]; rfl, by rw [Hid, val_cons, val_nil]; omega, by simp, by simp, hb⟩
theorem lrof_any (x d : Int) (hx : -1000 ≤ x ∧ x ≤ 1000) (hd : 0 < d ∧ d ≤ 1000) (w : World) :
    Calls Tryz.prog 24 #[.int .i64 x, .int .u64 d] w fun e w' => OfSaid x d w e w' := by
  rcases Int.lt_trichotomy x 0 with h | h | h
  · exact lrof_neg x d ⟨hx.1, h⟩ hd w
  · exact lrof_zero x d h hd w
  · exact lrof_pos x d ⟨h, hx.2⟩ hd w
theorem of_is {g : Bool} {xs ds : List Int} {x d : Int} (N1 : Canon g xs) (N2 : Norm ds) (V1 : Hid (sgn g (val xs) = x)) (V2 : Hid (val ds = d)) (l1 : xs.length ≤ 1) (l2 : ds.length ≤ 1) (hg : Int.gcd x d = 1) (hd : 0 < d) : Is g xs ds (Rat.divInt x d) 1 := by
  refine ⟨⟨N1, N2, ?_⟩, ?_, l1, l2⟩
  · rw [V1.out, V2.out]; exact ⟨hd, hg⟩
  · rw [ratL, V1.out, V2.out]
theorem of_none {g : Bool} {xs ds : List Int} {x d : Int} (wx : Words xs) (wd : Words ds) (V1 : Hid (sgn g (val xs) = x)) (V2 : Hid (val ds = d)) (hg : Int.gcd x d ≠ 1) : formR g xs ds = 6 := by
  rcases formR_or g xs ds with h | h
  · have := ((formR_low wx wd).1 h).2.2.2
    rw [V1.out, V2.out] at this
    exact absurd this hg
  · exact h
set_option maxRecDepth 100000 in
set_option maxHeartbeats 4000000 in
theorem lris_yes {lo : Nat} {a c : Option Addr} {ca cc : Nat} {xs ds : List Int} {w : World} (b : Bool) (FA : Fr lo w a ca xs c cc ds) {n : Nat} (up down : Int) (hup : -1000 ≤ up ∧ up ≤ 1000) (hdn : 0 < down ∧ down ≤ 1000) (hgc : Int.gcd up down = 1) (IA : Is b xs ds (Rat.divInt up down) n) (hn : n ≤ 1000) :
    Calls Tryz.prog 26 #[.agg #[.bool b, .slice a xs.length ca, .slice c ds.length cc], .int .i64 0, .int .i64 up, .int .u64 down] w fun e w' => e = .returned (.bool true) ∧ Below w.heap.size w w' := by
  have hB := Below.refl w.heap.size w
  have hd0 := hdn.1
  go_enter Tryz.func26, Tryz.ntmps26
  have hA := Below.refl w.heap.size w
  have hq := below_new w (.cells #[.bool b, .slice a xs.length ca, .slice c ds.length cc] 27)
  replace FA := FA.below hq
  have EA := Box.put (w := w) (k := (w.heap.size)) (.cells #[.bool b, .slice a xs.length ca, .slice c ds.length cc] 27) rfl
  replace hA := hA.trans (hq.mono hA.size)
  replace hB := hB.trans (hq.mono hB.size)
  clear hq
  clear hA
  go_wp2_with fail
  obtain ⟨u1, hname⟩ := nm hB
  rw [hname] at hB FA EA ⊢
  have zh1 := hB.size
  clear hname
  replace FA := FA.drew
  have qEA := EA.lt
  replace EA := EA.drew
  have hr := Below.refl u1.drew.heap.size u1.drew
  have hkeep : ∀ V : World, Below u1.drew.heap.size u1.drew V → V.cell? ⟨w.heap.size, 0, none⟩ = some (.bool b) ∧ V.cell? ⟨w.heap.size, 1, none⟩ = some (.slice a xs.length ca) ∧ V.cell? ⟨w.heap.size, 2, none⟩ = some (.slice c ds.length cc) := fun V hV => ⟨(EA.below hV).three.1, (EA.below hV).three.2.1, (EA.below hV).three.2.2.1⟩
  have t0 : Hid True := trivial
  go_region_held3 (fun V : World => V.cell? ⟨w.heap.size, 0, none⟩ = some (.bool b) ∧ V.cell? ⟨w.heap.size, 1, none⟩ = some (.slice a xs.length ca) ∧ V.cell? ⟨w.heap.size, 2, none⟩ = some (.slice c ds.length cc))
    (first | exact hkeep _ hr | exact hkeep _ (hr.a1 _) | exact hkeep _ ((hr.a1 _).a1 _) | exact hkeep _ (((hr.a1 _).a1 _).a1 _) | exact hkeep _ ((((hr.a1 _).a1 _).a1 _).a1 _))
    (first
    | (clear t0
       go_at_call 24
       refine (lrof_any up down hup hdn _).mono ?_
       rintro e w2 ⟨g1, a1, c1, x1, e1, t1, y1, rfl, F1, P1, N1, N2, V1, V2, b1, b2, hb⟩
       have I1 := of_is N1 N2 V1 V2 b1 b2 hgc hd0
       clear P1 V1 V2
       replace FA := FA.below hb
       replace EA := EA.below hb
       replace hr := hr.trans (hb.mono hr.size)
       have zw2 := hb.size
       clear hb
       have t1 : Hid True := trivial)
    | (clear t1
       go_at_call 20
       refine (samer_is FA F1 IA I1 (by omega)).mono ?_
       rintro e w3 ⟨rfl, hb⟩
       replace FA := FA.below hb
       replace EA := EA.below hb
       replace F1 := F1.below hb
       replace hr := hr.trans (hb.mono hr.size)
       have zw3 := hb.size
       clear hb
       have t2 : Hid True := trivial))
  replace hB := hB.trans ((Below.trans (Below.drew (Below.refl u1.heap.size u1)) hr).mono hB.size)
  have zi_3 := hB.size
  clear hr hkeep t2
  obtain ⟨k0, k1, k2, f0, f1, f2⟩ := EA.three
  go_wp2
  go_ret
  exact ⟨rfl, hB⟩
set_option maxRecDepth 100000 in
set_option maxHeartbeats 4000000 in
theorem lrlike_yes {lo lo2 : Nat} {a c p r : Option Addr} {ca cc cp cr : Nat} {xs ds : List Int} {w : World} (b : Bool) (FA : Fr lo w a ca xs c cc ds) (FB : Fr lo2 w p cp xs r cr ds) (PA : Apart a c xs ds) (hl : xs.length ≤ 1000 ∧ ds.length ≤ 1000) (hlo : lo ≤ w.heap.size) (er : Int) :
    Calls Tryz.prog 9 #[.agg #[.bool b, .slice a xs.length ca, .slice c ds.length cc], .int .i64 er, .agg #[.bool b, .slice p xs.length cp, .slice r ds.length cr], .int .i64 er] w fun e w' => e = .returned (.bool true) ∧ Below lo w w' ∧ BoxesStay w w' := by
  have hB := Below.refl w.heap.size w
  have PA' := hide PA
  clear PA
  go_enter Tryz.func9, Tryz.ntmps9
  have hA := Below.refl w.heap.size w
  have hq := below_new w (.cells #[.bool b, .slice a xs.length ca, .slice c ds.length cc] 27)
  replace FA := FA.below hq
  replace FB := FB.below hq
  have EA := Box.put (w := w) (k := (w.heap.size)) (.cells #[.bool b, .slice a xs.length ca, .slice c ds.length cc] 27) rfl
  replace hA := hA.trans (hq.mono hA.size)
  replace hB := hB.trans (hq.mono hB.size)
  clear hq
  have hq := below_new (w.alloc (.cells #[.bool b, .slice a xs.length ca, .slice c ds.length cc] 27)) (.cells #[.bool b, .slice p xs.length cp, .slice r ds.length cr] 27)
  replace FA := FA.below hq
  replace FB := FB.below hq
  replace EA := EA.below hq
  have EB := Box.put (w := (w.alloc (.cells #[.bool b, .slice a xs.length ca, .slice c ds.length cc] 27))) (k := (w.heap.size + 1)) (.cells #[.bool b, .slice p xs.length cp, .slice r ds.length cr] 27) (by simp)
  replace hA := hA.trans (hq.mono hA.size)
  replace hB := hB.trans (hq.mono hB.size)
  clear hq
  clear hA
  go_wp2_with fail
  obtain ⟨u1, hname⟩ := nm hB
  rw [hname] at hB FA FB EA EB ⊢
  have zh1 := hB.size
  clear hname
  refine (samer_yes b FA FB (by omega) (by omega)).mono ?_
  rintro e w2 ⟨rfl, hb⟩
  replace FA := FA.below hb
  replace FB := FB.below hb
  replace EA := EA.below hb
  replace EB := EB.below hb
  replace hB := hB.trans (hb.mono hB.size)
  have zz2 := hb.size
  have zh2 := hB.size
  clear hb
  have hoB : Below w.heap.size w w2 := hB
  obtain ⟨k0, k1, k2, f0, f1, f2⟩ := EA.three
  obtain ⟨k3, k4, k5, f3, f4, f5⟩ := EB.three
  go_wp2_with fail
  clear k0 k1 k2 f0 f1 f2 k3 k4 k5 f3 f4 f5
  refine (overr_any b FA PA'.out (by omega) (by omega) (by omega)).mono ?_
  rintro e wz ⟨rfl, hov, hst⟩
  have hfin := hoB.mono hlo
  replace hfin := hfin.trans hov
  have hstay : BoxesStay w wz := fun k cs t nw E => hst k cs t nw (E.below hoB)
  clear hov hoB hst
  go_wp2
  go_ret
  exact ⟨rfl, hfin, hstay⟩
inductive AnsIs (n : Nat) : Except Int Rat → Bool → List Int → List Int → Int → Prop where
  | ok {q : Rat} {g : Bool} {ts es : List Int} (h : Is g ts es q n) : AnsIs n (.ok q) g ts es 0
  | err (c : Int) : AnsIs n (.error c) false [] [] c
theorem AnsIs.unique {n m : Nat} {s : Except Int Rat} {g g' : Bool} {ts es ts' es' : List Int} {er er' : Int} (h : AnsIs n s g ts es er) (h' : AnsIs m s g' ts' es' er') (w1 : Words ts) (w2 : Words es) (w3 : Words ts') (w4 : Words es') : g = g' ∧ ts = ts' ∧ es = es' ∧ er = er' := by
  cases h with
  | ok h => cases h' with
    | ok k => obtain ⟨a, b, c⟩ := lowL_unique w1 w2 w3 w4 h.low k.low (h.rat.trans k.rat.symm); exact ⟨a, b, c, rfl⟩
  | err c => cases h'; exact ⟨rfl, rfl, rfl, rfl⟩
theorem AnsIs.len {n : Nat} {s : Except Int Rat} {g : Bool} {ts es : List Int} {er : Int} (h : AnsIs n s g ts es er) : ts.length ≤ n ∧ es.length ≤ n := by
  cases h with
  | ok h => exact ⟨h.lu, h.ld⟩
  | err c => exact ⟨Nat.zero_le _, Nat.zero_le _⟩
def AnsSaid (s : Except Int Rat) (n : Nat) (w : World) (e : Ending) (w' : World) : Prop :=
  ∃ (g : Bool) (a : Option Addr) (ca : Nat) (ts : List Int) (c : Option Addr) (cc : Nat) (es : List Int) (er : Int), e = .returned (.tuple #[.agg #[.bool g, .slice a ts.length ca, .slice c es.length cc], .int .i64 er]) ∧ Fr w.heap.size w' a ca ts c cc es ∧ Apart a c ts es ∧ AnsIs n s g ts es er ∧ Below w.heap.size w w'
theorem AnsSaid.of_err {s : Except Int Rat} {n : Nat} {w w' : World} {e : Ending} {c : Int} (h : e = .returned (.tuple #[.agg #[.bool false, .slice none 0 0, .slice none 0 0], .int .i64 c]) ∧ Below w.heap.size w w') (hs : s = .error c) : AnsSaid s n w e w' := by
  subst hs
  exact ⟨false, none, 0, [], none, 0, [], c, h.1, ⟨Seg.nil _ _, Seg.nil _ _⟩, fun h => absurd rfl h, .err c, h.2⟩
theorem AnsSaid.of_fe {s : Except Int Rat} {n : Nat} {w w' : World} {e : Ending} {q : Rat} (h : ∃ (b' : Bool) (a' : Option Addr) (ca' : Nat) (ts' : List Int) (c' : Option Addr) (cc' : Nat) (es' : List Int), e = .returned (.tuple #[.agg #[.bool b', .slice a' ts'.length ca', .slice c' es'.length cc'], .int .i64 0]) ∧ Fr w.heap.size w' a' ca' ts' c' cc' es' ∧ Apart a' c' ts' es' ∧ Is b' ts' es' (q) (n) ∧ Below w.heap.size w w') (hs : s = .ok q) : AnsSaid s n w e w' := by
  subst hs
  obtain ⟨g, a, ca, ts, c, cc, es, he, F, P, I, hb⟩ := h
  exact ⟨g, a, ca, ts, c, cc, es, 0, he, F, P, .ok I, hb⟩
theorem lrlike_ans {lo lo2 : Nat} {a c p r : Option Addr} {ca cc cp cr : Nat} {xs ds ys es : List Int} {w : World} {b g : Bool} {e1 e2 : Int} {s : Except Int Rat} {n m : Nat} (FA : Fr lo w a ca xs c cc ds) (FB : Fr lo2 w p cp ys r cr es) (PA : Apart a c xs ds) (h : AnsIs n s b xs ds e1) (k : AnsIs m s g ys es e2) (hn : n ≤ 1000) (hlo : lo ≤ w.heap.size) :
    Calls Tryz.prog 9 #[.agg #[.bool b, .slice a xs.length ca, .slice c ds.length cc], .int .i64 e1, .agg #[.bool g, .slice p ys.length cp, .slice r es.length cr], .int .i64 e2] w fun e w' => e = .returned (.bool true) ∧ Below lo w w' ∧ BoxesStay w w' := by
  obtain ⟨rfl, rfl, rfl, rfl⟩ := h.unique k FA.up.words FA.down.words FB.up.words FB.down.words
  have hl := h.len
  exact lrlike_yes b FA FB PA ⟨by omega, by omega⟩ hlo e1
def makeS (b : Bool) (xs ds : List Int) : Except Int Rat := if formI b xs = 0 then (if val ds = 0 then .error 5 else .ok (Rat.divInt (sgn b (val xs)) (val ds))) else .error 6
def pairS (x y : Int) : Except Int Rat := if y = 0 then .error 5 else .ok (Rat.divInt x y)
set_option maxRecDepth 100000 in
set_option maxHeartbeats 4000000 in
theorem kwhole_any {lo : Nat} {a : Option Addr} {ca : Nat} {xs : List Int} {w : World} (h : Seg lo w (.slice a xs.length ca) xs) (hl : xs.length ≤ 10000) :
    Calls Tryz.prog 42 #[.slice a xs.length ca] w fun e w' => ∃ (b' : Bool) (a' : Option Addr) (cap' : Nat) (ts : List Int), e = .returned (.agg #[.bool b', .slice a' ts.length cap']) ∧ Seg w.heap.size w' (.slice a' ts.length cap') ts ∧ Canon b' ts ∧ Hid (sgn b' (val ts) = val xs) ∧ ts.length ≤ xs.length ∧ Below w.heap.size w w' := by
  have hB := Below.refl w.heap.size w
  go_enter Tryz.func42, Tryz.ntmps42
  have hs0 := Nat.le_refl w.heap.size
  have hq := below_new w (.cells #[.bool false, .slice none 0 0] 25)
  replace h := h.below hq
  have ER := Box.put (w := w) (k := (w.heap.size)) (.cells #[.bool false, .slice none 0 0] 25) rfl
  replace hs0 := Nat.le_trans hs0 hq.size
  replace hB := hB.trans (hq.mono hB.size)
  clear hq
  go_wp2_with fail
  obtain ⟨u1, hname⟩ := nm hB
  rw [hname] at hs0 hB h ER ⊢
  have zh1 := hB.size
  have zs1 := hs0
  clear hname hs0
  refine (imake_any h hl false).mono ?_
  rintro e w2 ⟨g1, a1, c1, z1, rfl, S1, N1, v1, l1, hb⟩
  have V1 : Hid (sgn g1 (val z1) = val xs) := v1
  have b1 : z1.length ≤ xs.length := by omega
  clear v1 l1
  replace h := h.below hb
  replace ER := ER.below hb
  replace hB := hB.trans (hb.mono hB.size)
  have zz2 := hb.size
  have zh2 := hB.size
  clear hb
  clear h
  obtain ⟨k0, k1, f0, f1⟩ := ER.two
  have hcc := ER.two
  have r0 := hcc.1
  have r1 := hcc.2.1
  clear hcc
  have qER := ER.lt
  have hs0 := Nat.le_refl w2.heap.size
  have hT := (((Turns.refl (w.heap.size) w2).setCell 0 (.bool g1)).setCell 1 (.slice a1 z1.length c1))
  replace S1 := S1.beside ER (noWord2 (fun _ e => by cases e) (fun _ e => by cases e)) hT
  replace ER : Box ((w2.setCell ⟨w.heap.size, 0, none⟩ (.bool g1)).setCell ⟨w.heap.size, 1, none⟩ (.slice a1 z1.length c1)) (w.heap.size) (.cells #[.bool g1, .slice a1 z1.length c1] 25) := ⟨Nat.lt_of_lt_of_le ER.lt hT.below.size, (heap_setCell_same _ _ 1 _ _ _ (heap_setCell_same _ _ 0 _ _ _ ER.what))⟩
  replace hB := hB.trans (hT.below.mono (by omega))
  replace hs0 := Nat.le_trans hs0 hT.below.size
  clear hT
  go_wp2
  refine bodyPost_ret (v := .agg #[.bool g1, .slice a1 z1.length c1]) (by simp [results, Tryz.f42, go_sem, r0, r1]) rfl ?_
  exact ⟨_, _, _, _, rfl, S1.mono (by omega), N1, V1, b1, hB⟩
set_option maxRecDepth 100000 in
set_option maxHeartbeats 4000000 in
theorem ksum_any {lo lo2 : Nat} {a c p r : Option Addr} {ca cc cp cr : Nat} {xs ds ys es : List Int} {w : World} {n m : Nat} {q s : Rat} (b g : Bool) (FA : Fr lo w a ca xs c cc ds) (FB : Fr lo2 w p cp ys r cr es) (IA : Is b xs ds q n) (IB : Is g ys es s m) (hn : n + m ≤ 400) :
    Calls Tryz.prog 33 #[.agg #[.bool b, .slice a xs.length ca, .slice c ds.length cc], .agg #[.bool g, .slice p ys.length cp, .slice r es.length cr]] w fun e w' => ∃ (b' : Bool) (a' : Option Addr) (ca' : Nat) (ts' : List Int) (c' : Option Addr) (cc' : Nat) (es' : List Int), e = .returned (.agg #[.bool b', .slice a' ts'.length ca', .slice c' es'.length cc']) ∧ Fr w.heap.size w' a' ca' ts' c' cc' es' ∧ Apart a' c' ts' es' ∧ Is b' ts' es' (q + s) (n + m + 1) ∧ Below w.heap.size w w' := by
  have lxa := IA.lu
  have lda := IA.ld
  have lxb := IB.lu
  have ldb := IB.ld
  have pd := IA.low.2.2.1
  have pe := IB.low.2.2.1
  have hB := Below.refl w.heap.size w
  obtain ⟨Q, hQ⟩ : ∃ Q, q + s = Q := ⟨_, rfl⟩
  rw [hQ]
  have HQ : Hid (Rat.divInt (sgn b (val xs) * val es + sgn g (val ys) * val ds) (val ds * val es) = Q) := by
    rw [Hid, ← hQ, ← IA.rat, ← IB.rat]
    exact (Rat.divInt_add_divInt _ _ (by omega) (by omega)).symm
  clear hQ
  go_enter Tryz.func33, Tryz.ntmps33
  have hs0 := Nat.le_refl w.heap.size
  have hq := below_new w (.cells #[.bool b, .slice a xs.length ca, .slice c ds.length cc] 27)
  replace FA := FA.below hq
  replace FB := FB.below hq
  have EA := Box.put (w := w) (k := (w.heap.size)) (.cells #[.bool b, .slice a xs.length ca, .slice c ds.length cc] 27) rfl
  replace hs0 := Nat.le_trans hs0 hq.size
  replace hB := hB.trans (hq.mono hB.size)
  clear hq
  have hq := below_new (w.alloc (.cells #[.bool b, .slice a xs.length ca, .slice c ds.length cc] 27)) (.cells #[.bool g, .slice p ys.length cp, .slice r es.length cr] 27)
  replace FA := FA.below hq
  replace FB := FB.below hq
  replace EA := EA.below hq
  have EB := Box.put (w := (w.alloc (.cells #[.bool b, .slice a xs.length ca, .slice c ds.length cc] 27))) (k := (w.heap.size + 1)) (.cells #[.bool g, .slice p ys.length cp, .slice r es.length cr] 27) (by simp)
  replace hs0 := Nat.le_trans hs0 hq.size
  replace hB := hB.trans (hq.mono hB.size)
  clear hq
  have hq := below_new ((w.alloc (.cells #[.bool b, .slice a xs.length ca, .slice c ds.length cc] 27)).alloc (.cells #[.bool g, .slice p ys.length cp, .slice r es.length cr] 27)) (.cells #[.bool false, .slice none 0 0, .slice none 0 0] 27)
  replace FA := FA.below hq
  replace FB := FB.below hq
  replace EA := EA.below hq
  replace EB := EB.below hq
  have ER := Box.put (w := ((w.alloc (.cells #[.bool b, .slice a xs.length ca, .slice c ds.length cc] 27)).alloc (.cells #[.bool g, .slice p ys.length cp, .slice r es.length cr] 27))) (k := (w.heap.size + 2)) (.cells #[.bool false, .slice none 0 0, .slice none 0 0] 27) (by simp)
  replace hs0 := Nat.le_trans hs0 hq.size
  replace hB := hB.trans (hq.mono hB.size)
  clear hq
  go_wp2_with fail
  obtain ⟨u1, hname⟩ := nm hB
  rw [hname] at hs0 hB FA FB EA EB ER ⊢
  have zh1 := hB.size
  have zs1 := hs0
  clear hname hs0
  replace FA := FA.drew
  replace FB := FB.drew
  have qEA := EA.lt
  replace EA := EA.drew
  have qEB := EB.lt
  replace EB := EB.drew
  have qER := ER.lt
  replace ER := ER.drew
  refine wp_yields 14 [.is (.pointer (some ⟨w.heap.size, 0, none⟩)), .is (.agg #[.bool b, .slice a xs.length ca]), .is (.pointer (some ⟨w.heap.size + 1, 2, none⟩)), .is (.slice r es.length cr), (Yield.int u1.heap.size (val es) (m)), (Yield.int u1.heap.size (sgn b (val xs) * val es) (n + m)), .is (.pointer (some ⟨w.heap.size + 1, 0, none⟩)), .is (.agg #[.bool g, .slice p ys.length cp]), .is (.pointer (some ⟨w.heap.size, 2, none⟩)), .is (.slice c ds.length cc), (Yield.int u1.heap.size (val ds) (n)), (Yield.int u1.heap.size (sgn g (val ys) * val ds) (n + m)), (Yield.int u1.heap.size (sgn b (val xs) * val es + sgn g (val ys) * val ds) (n + m + 1)), (.new u1.heap.size (.cells #[.bool false, .slice none 0 0] 25))] (by kernel_rfl) (by kernel_rfl) (lt_cons ?_ (lt_cons ?_ (lt_cons ?_ (lt_cons ?_ (lt_cons ?_ (lt_cons ?_ (lt_cons ?_ (lt_cons ?_ (lt_cons ?_ (lt_cons ?_ (lt_cons ?_ (lt_cons ?_ (lt_cons ?_ (lt_cons ?_ lt_nil)))))))))))))) ?_
  case refine_1 =>
    refine OpDoes.mk rfl ?_
    intro vs V hV hd K hK
    simp only [laidIn, lz1, lz2, lz3, lz4, lz5, lz6, if_true, Act.put, lz7, lz8, lz9] at hK ⊢
    go_simp
    exact hK.out _ _ ((Below.refl _ _).a1 _) ⟨_, rfl, Box.new _ _, hV.size⟩ (fresh_apart _ _ (fresh_new _))
  case refine_2 =>
    refine OpDoes.mk rfl ?_
    intro vs V hV hd K hK
    have hh := fun (P : Prop) => Yield.int_elim P (show ((Yield.int u1.heap.size (sgn b (val xs) * val es) (n + m)) : Yield).At (vs 5) V from hd 5 (by decide) (by kernel_rfl))
    refine hh _ ?_
    intro g2 a2 c2 z2 d5 S2 N2 V2 b2
    clear hh
    have hh := fun (P : Prop) => Yield.int_elim P (show ((Yield.int u1.heap.size (sgn g (val ys) * val ds) (n + m)) : Yield).At (vs 11) V from hd 11 (by decide) (by kernel_rfl))
    refine hh _ ?_
    intro g4 a4 c4 z4 d11 S4 N4 V4 b4
    clear hh
    simp only [laidIn, lz1, lz2, lz3, lz4, lz5, lz6, if_true, Act.put, lz7, lz8, lz9] at hK ⊢
    simp only [d5, d11] at hK ⊢
    go_simp
    go_at_call 71
    refine (iadd_any g2 g4 S2 S4 (by omega) (by omega)).mono ?_
    rintro e V' ⟨g5, a5, c5, z5, rfl, S5, N5, v5, l5, hb⟩
    have V5 : Hid (sgn g5 (val z5) = sgn b (val xs) * val es + sgn g (val ys) * val ds) := by rw [Hid, v5, V2.out, V4.out]
    have b5 : z5.length ≤ n + m + 1 := by omega
    clear v5 l5
    exact hK.out _ _ hb ⟨_, _, _, _, rfl, S5.mono hV.size, N5, V5, b5⟩ (not_fresh rfl)
  case refine_3 =>
    refine OpDoes.mk rfl ?_
    intro vs V hV hd K hK
    have d7 : vs 7 = .agg #[.bool g, .slice p ys.length cp] := hd 7 (by decide) (by kernel_rfl)
    have hh := fun (P : Prop) => Yield.int_elim P (show ((Yield.int u1.heap.size (val ds) (n)) : Yield).At (vs 10) V from hd 10 (by decide) (by kernel_rfl))
    refine hh _ ?_
    intro g3 a3 c3 z3 d10 S3 N3 V3 b3
    clear hh
    simp only [laidIn, lz1, lz2, lz3, lz4, lz5, lz6, if_true, Act.put, lz7, lz8, lz9] at hK ⊢
    simp only [d7, d10] at hK ⊢
    go_simp
    go_at_call 47
    refine (imul_any g g3 (FB.up.below hV) S3 (by omega) (by omega)).mono ?_
    rintro e V' ⟨g4, a4, c4, z4, rfl, S4, N4, v4, l4, hb⟩
    have V4 : Hid (sgn g4 (val z4) = sgn g (val ys) * val ds) := by rw [Hid, v4, V3.out]
    have b4 : z4.length ≤ n + m := by omega
    clear v4 l4
    exact hK.out _ _ hb ⟨_, _, _, _, rfl, S4.mono hV.size, N4, V4, b4⟩ (not_fresh rfl)
  case refine_4 =>
    refine OpDoes.mk rfl ?_
    intro vs V hV hd K hK
    have d9 : vs 9 = .slice c ds.length cc := hd 9 (by decide) (by kernel_rfl)
    simp only [laidIn, lz1, lz2, lz3, lz4, lz5, lz6, if_true, Act.put, lz7, lz8, lz9] at hK ⊢
    simp only [d9] at hK ⊢
    go_simp
    go_at_call 42
    refine (kwhole_any (FA.down.below hV) (by omega)).mono ?_
    rintro e V' ⟨g3, a3, c3, z3, rfl, S3, N3, v3, l3, hb⟩
    have V3 : Hid (sgn g3 (val z3) = val ds) := v3
    have b3 : z3.length ≤ n := by omega
    clear v3 l3
    exact hK.out _ _ hb ⟨_, _, _, _, rfl, S3.mono hV.size, N3, V3, b3⟩ (not_fresh rfl)
  case refine_5 =>
    refine OpDoes.mk rfl ?_
    intro vs V hV hd K hK
    have d8 : vs 8 = .pointer (some ⟨w.heap.size, 2, none⟩) := hd 8 (by decide) (by kernel_rfl)
    have hcc := (EA.below hV).three
    have k0 := hcc.1
    have k1 := hcc.2.1
    have k2 := hcc.2.2.1
    clear hcc
    simp only [laidIn, lz1, lz2, lz3, lz4, lz5, lz6, if_true, Act.put, lz7, lz8, lz9] at hK ⊢
    simp only [d8] at hK ⊢
    go_simp
    exact hK.out _ _ (Below.refl _ _) rfl (not_fresh rfl)
  case refine_6 =>
    refine OpDoes.mk rfl ?_
    intro vs V hV hd K hK
    simp only [laidIn, lz1, lz2, lz3, lz4, lz5, lz6, if_true, Act.put, lz7, lz8, lz9] at hK ⊢
    go_simp
    exact hK.out _ _ (Below.refl _ _) rfl (not_fresh rfl)
  case refine_7 =>
    refine OpDoes.mk rfl ?_
    intro vs V hV hd K hK
    have d6 : vs 6 = .pointer (some ⟨w.heap.size + 1, 0, none⟩) := hd 6 (by decide) (by kernel_rfl)
    have hcc := (EB.below hV).three
    have k0 := hcc.1
    have k1 := hcc.2.1
    have k2 := hcc.2.2.1
    clear hcc
    simp only [laidIn, lz1, lz2, lz3, lz4, lz5, lz6, if_true, Act.put, lz7, lz8, lz9] at hK ⊢
    simp only [d6] at hK ⊢
    go_simp
    exact hK.out _ _ (Below.refl _ _) rfl (not_fresh rfl)
  case refine_8 =>
    refine OpDoes.mk rfl ?_
    intro vs V hV hd K hK
    simp only [laidIn, lz1, lz2, lz3, lz4, lz5, lz6, if_true, Act.put, lz7, lz8, lz9] at hK ⊢
    go_simp
    exact hK.out _ _ (Below.refl _ _) rfl (not_fresh rfl)
  case refine_9 =>
    refine OpDoes.mk rfl ?_
    intro vs V hV hd K hK
    have d1 : vs 1 = .agg #[.bool b, .slice a xs.length ca] := hd 1 (by decide) (by kernel_rfl)
    have hh := fun (P : Prop) => Yield.int_elim P (show ((Yield.int u1.heap.size (val es) (m)) : Yield).At (vs 4) V from hd 4 (by decide) (by kernel_rfl))
    refine hh _ ?_
    intro g1 a1 c1 z1 d4 S1 N1 V1 b1
    clear hh
    simp only [laidIn, lz1, lz2, lz3, lz4, lz5, lz6, if_true, Act.put, lz7, lz8, lz9] at hK ⊢
    simp only [d1, d4] at hK ⊢
    go_simp
    go_at_call 47
    refine (imul_any b g1 (FA.up.below hV) S1 (by omega) (by omega)).mono ?_
    rintro e V' ⟨g2, a2, c2, z2, rfl, S2, N2, v2, l2, hb⟩
    have V2 : Hid (sgn g2 (val z2) = sgn b (val xs) * val es) := by rw [Hid, v2, V1.out]
    have b2 : z2.length ≤ n + m := by omega
    clear v2 l2
    exact hK.out _ _ hb ⟨_, _, _, _, rfl, S2.mono hV.size, N2, V2, b2⟩ (not_fresh rfl)
  case refine_10 =>
    refine OpDoes.mk rfl ?_
    intro vs V hV hd K hK
    have d3 : vs 3 = .slice r es.length cr := hd 3 (by decide) (by kernel_rfl)
    simp only [laidIn, lz1, lz2, lz3, lz4, lz5, lz6, if_true, Act.put, lz7, lz8, lz9] at hK ⊢
    simp only [d3] at hK ⊢
    go_simp
    go_at_call 42
    refine (kwhole_any (FB.down.below hV) (by omega)).mono ?_
    rintro e V' ⟨g1, a1, c1, z1, rfl, S1, N1, v1, l1, hb⟩
    have V1 : Hid (sgn g1 (val z1) = val es) := v1
    have b1 : z1.length ≤ m := by omega
    clear v1 l1
    exact hK.out _ _ hb ⟨_, _, _, _, rfl, S1.mono hV.size, N1, V1, b1⟩ (not_fresh rfl)
  case refine_11 =>
    refine OpDoes.mk rfl ?_
    intro vs V hV hd K hK
    have d2 : vs 2 = .pointer (some ⟨w.heap.size + 1, 2, none⟩) := hd 2 (by decide) (by kernel_rfl)
    have hcc := (EB.below hV).three
    have k0 := hcc.1
    have k1 := hcc.2.1
    have k2 := hcc.2.2.1
    clear hcc
    simp only [laidIn, lz1, lz2, lz3, lz4, lz5, lz6, if_true, Act.put, lz7, lz8, lz9] at hK ⊢
    simp only [d2] at hK ⊢
    go_simp
    exact hK.out _ _ (Below.refl _ _) rfl (not_fresh rfl)
  case refine_12 =>
    refine OpDoes.mk rfl ?_
    intro vs V hV hd K hK
    simp only [laidIn, lz1, lz2, lz3, lz4, lz5, lz6, if_true, Act.put, lz7, lz8, lz9] at hK ⊢
    go_simp
    exact hK.out _ _ (Below.refl _ _) rfl (not_fresh rfl)
  case refine_13 =>
    refine OpDoes.mk rfl ?_
    intro vs V hV hd K hK
    have d0 : vs 0 = .pointer (some ⟨w.heap.size, 0, none⟩) := hd 0 (by decide) (by kernel_rfl)
    have hcc := (EA.below hV).three
    have k0 := hcc.1
    have k1 := hcc.2.1
    have k2 := hcc.2.2.1
    clear hcc
    simp only [laidIn, lz1, lz2, lz3, lz4, lz5, lz6, if_true, Act.put, lz7, lz8, lz9] at hK ⊢
    simp only [d0] at hK ⊢
    go_simp
    exact hK.out _ _ (Below.refl _ _) rfl (not_fresh rfl)
  case refine_14 =>
    refine OpDoes.mk rfl ?_
    intro vs V hV hd K hK
    simp only [laidIn, lz1, lz2, lz4, lz5, lz6, if_true, Act.put, lz7, lz8, lz9] at hK ⊢
    go_simp
    exact hK.out _ _ (Below.refl _ _) rfl (not_fresh rfl)
  case refine_15 =>
    intro vs Y1 hV hR hne fuel
    have d0 : vs 0 = .pointer (some ⟨w.heap.size, 0, none⟩) := hR 0 (by decide)
    have d1 : vs 1 = .agg #[.bool b, .slice a xs.length ca] := hR 1 (by decide)
    have d2 : vs 2 = .pointer (some ⟨w.heap.size + 1, 2, none⟩) := hR 2 (by decide)
    have d3 : vs 3 = .slice r es.length cr := hR 3 (by decide)
    have hh := fun (P : Prop) => Yield.int_elim P (show ((Yield.int u1.heap.size (val es) (m)) : Yield).At (vs 4) Y1 from hR 4 (by decide))
    refine hh _ ?_
    intro g1 a1 c1 z1 d4 S1 N1 V1 b1
    clear hh
    have hh := fun (P : Prop) => Yield.int_elim P (show ((Yield.int u1.heap.size (sgn b (val xs) * val es) (n + m)) : Yield).At (vs 5) Y1 from hR 5 (by decide))
    refine hh _ ?_
    intro g2 a2 c2 z2 d5 S2 N2 V2 b2
    clear hh
    have d6 : vs 6 = .pointer (some ⟨w.heap.size + 1, 0, none⟩) := hR 6 (by decide)
    have d7 : vs 7 = .agg #[.bool g, .slice p ys.length cp] := hR 7 (by decide)
    have d8 : vs 8 = .pointer (some ⟨w.heap.size, 2, none⟩) := hR 8 (by decide)
    have d9 : vs 9 = .slice c ds.length cc := hR 9 (by decide)
    have hh := fun (P : Prop) => Yield.int_elim P (show ((Yield.int u1.heap.size (val ds) (n)) : Yield).At (vs 10) Y1 from hR 10 (by decide))
    refine hh _ ?_
    intro g3 a3 c3 z3 d10 S3 N3 V3 b3
    clear hh
    have hh := fun (P : Prop) => Yield.int_elim P (show ((Yield.int u1.heap.size (sgn g (val ys) * val ds) (n + m)) : Yield).At (vs 11) Y1 from hR 11 (by decide))
    refine hh _ ?_
    intro g4 a4 c4 z4 d11 S4 N4 V4 b4
    clear hh
    have hh := fun (P : Prop) => Yield.int_elim P (show ((Yield.int u1.heap.size (sgn b (val xs) * val es + sgn g (val ys) * val ds) (n + m + 1)) : Yield).At (vs 12) Y1 from hR 12 (by decide))
    refine hh _ ?_
    intro g5 a5 c5 z5 d12 S5 N5 V5 b5
    clear hh
    obtain ⟨k_E93, d13, E93, l_E93⟩ := (show ((.new u1.heap.size (.cells #[.bool false, .slice none 0 0] 25)) : Yield).At (vs 13) Y1 from hR 13 (by decide))
    replace FA := FA.below hV
    replace FB := FB.below hV
    replace EA := EA.below hV
    replace EB := EB.below hV
    replace ER := ER.below hV
    have hr := hV
    simp only [laidIn, lz4, lz5, lz6, if_true, Act.put, lz7, lz8, lz9]
    simp only [d0, d1, d2, d3, d4, d5, d6, d7, d8, d9, d10, d11, d12, d13]
    clear hR hne hV d0 d1 d2 d3 d4 d5 d6 d7 d8 d9 d10 d11 d12 d13
    clear vs
    show wpAny _ _ _ _ (fuel + 1) _ _ _
    refine wpAny_all (rs := [14]) (by kernel_rfl) (by simp) (fun i hi => ?_)
    obtain rfl : i = 14 := by simpa using hi
    clear hi
    have hcc := E93.two
    have k0 := hcc.1
    have k1 := hcc.2.1
    have f0 := hcc.2.2.1
    have f1 := hcc.2.2.2
    clear hcc
    refine wpOp_step rfl (fun K hK => ?_)
    simp only [lz1, lz2, lz3]
    rw [if_pos (by rfl)]
    go_simp
    refine hK _ _ ?_
    clear hK k0 f0 k1 f1
    have hT := (((Turns.refl (k_E93) Y1).setCell 0 (.bool g5)).setCell 1 (.slice a5 z5.length c5))
    replace FA := FA.beside E93 (noWord2 (fun _ e => by cases e) (fun _ e => by cases e)) hT
    replace FB := FB.beside E93 (noWord2 (fun _ e => by cases e) (fun _ e => by cases e)) hT
    replace EA := EA.turns hT (by omega)
    replace EB := EB.turns hT (by omega)
    replace ER := ER.turns hT (by omega)
    replace S1 := S1.beside E93 (noWord2 (fun _ e => by cases e) (fun _ e => by cases e)) hT
    replace S2 := S2.beside E93 (noWord2 (fun _ e => by cases e) (fun _ e => by cases e)) hT
    replace S3 := S3.beside E93 (noWord2 (fun _ e => by cases e) (fun _ e => by cases e)) hT
    replace S4 := S4.beside E93 (noWord2 (fun _ e => by cases e) (fun _ e => by cases e)) hT
    replace S5 := S5.beside E93 (noWord2 (fun _ e => by cases e) (fun _ e => by cases e)) hT
    replace E93 : Box ((Y1.setCell ⟨k_E93, 0, none⟩ (.bool g5)).setCell ⟨k_E93, 1, none⟩ (.slice a5 z5.length c5)) (k_E93) (.cells #[.bool g5, .slice a5 z5.length c5] 25) := ⟨Nat.lt_of_lt_of_le E93.lt hT.below.size, (heap_setCell_same _ _ 1 _ _ _ (heap_setCell_same _ _ 0 _ _ _ E93.what))⟩
    have hr14 := hT.below
    obtain ⟨X1, hX⟩ := nm hT.below
    rw [hX] at FA FB EA EB ER S1 S2 S3 S4 S5 E93 hr14 ⊢
    clear hX hT
    refine wpAny_done (by kernel_rfl) ?_ _
    replace hB := hB.trans ((Below.trans (Below.drew (Below.refl u1.heap.size u1)) hr).mono hB.size)
    replace hB := hB.trans (hr14.mono (by omega))
    have zz1_1 := hr.size
    have zi1 := hB.size
    have zy1_14 := hr14.size
    clear hr hr14
    clear S1 S2 S3 S4
    obtain ⟨k0, k1, k2, f0, f1, f2⟩ := EA.three
    obtain ⟨k3, k4, k5, f3, f4, f5⟩ := EB.three
    obtain ⟨k6, k7, k8, f6, f7, f8⟩ := ER.three
    obtain ⟨k9, k10, f9, f10⟩ := E93.two
    go_wp2_with fail
    clear k0 k1 k2 f0 f1 f2 k3 k4 k5 f3 f4 f5 k6 k7 k8 f6 f7 f8 k9 k10 f9 f10
    replace FA := FA.drew
    replace FB := FB.drew
    have qEA := EA.lt
    replace EA := EA.drew
    have qEB := EB.lt
    replace EB := EB.drew
    have qER := ER.lt
    replace ER := ER.drew
    replace S5 := S5.drew
    have qE93 := E93.lt
    replace E93 := E93.drew
    refine wp_yields 7 [.is (.agg #[.bool g5, .slice a5 z5.length c5]), .is (.pointer (some ⟨w.heap.size, 2, none⟩)), .is (.slice c ds.length cc), .is (.pointer (some ⟨w.heap.size + 1, 2, none⟩)), .is (.slice r es.length cr), (Yield.nat X1.heap.size (val ds * val es) (n + m)), (Yield.frac X1.heap.size (Q) (n + m + 1))] (by kernel_rfl) (by kernel_rfl) (lt_cons ?_ (lt_cons ?_ (lt_cons ?_ (lt_cons ?_ (lt_cons ?_ (lt_cons ?_ (lt_cons ?_ lt_nil))))))) ?_
    case refine_1 =>
      refine OpDoes.mk rfl ?_
      intro vs V hV hd K hK
      have d0 : vs 0 = .agg #[.bool g5, .slice a5 z5.length c5] := hd 0 (by decide) (by kernel_rfl)
      have hh := fun (P : Prop) => Yield.nat_elim P (show ((Yield.nat X1.heap.size (val ds * val es) (n + m)) : Yield).At (vs 5) V from hd 5 (by decide) (by kernel_rfl))
      refine hh _ ?_
      intro a6 c6 z6 d5 S6 N6 V6 b6
      clear hh
      simp only [laidIn, lz1, lz2, lz3, lz4, lz5, lz6, if_true, Act.put, lz7, lz8, lz9] at hK ⊢
      simp only [d0, d5] at hK ⊢
      go_simp
      go_at_call 72
      refine (klowest_any (n := n + m + 1) g5 ⟨(S5.below hV).mono (Nat.zero_le _), S6.mono (Nat.zero_le _)⟩ ⟨by omega, by omega⟩ (by omega) (by rw [V6.out]; exact Int.mul_pos pd pe)).mono ?_
      rintro e V' ⟨g7, a7, c7, x7, e7, t7, y7, rfl, F7, P7, I7, hb⟩
      replace I7 : Is g7 x7 y7 (Q) (n + m + 1) := I7.to (by rw [V5.out, V6.out]; exact HQ.out)
      exact hK.out _ _ hb ⟨_, _, _, _, _, _, _, rfl, F7.mono hV.size, P7, I7⟩ (not_fresh rfl)
    case refine_2 =>
      refine OpDoes.mk rfl ?_
      intro vs V hV hd K hK
      have d2 : vs 2 = .slice c ds.length cc := hd 2 (by decide) (by kernel_rfl)
      have d4 : vs 4 = .slice r es.length cr := hd 4 (by decide) (by kernel_rfl)
      simp only [laidIn, lz1, lz2, lz3, lz4, lz5, lz6, if_true, Act.put, lz7, lz8, lz9] at hK ⊢
      simp only [d2, d4] at hK ⊢
      go_simp
      go_at_call 73
      refine (rmul_any (FA.down.below hV) (FB.down.below hV) (by omega) (by omega)).mono ?_
      rintro e V' ⟨a6, c6, z6, rfl, S6, N6, v6, l6, hb⟩
      have V6 : Hid (val z6 = val ds * val es) := v6
      have b6 : z6.length ≤ n + m := by omega
      clear v6 l6
      exact hK.out _ _ hb ⟨_, _, _, rfl, S6.mono hV.size, N6, V6, b6⟩ (not_fresh rfl)
    case refine_3 =>
      refine OpDoes.mk rfl ?_
      intro vs V hV hd K hK
      have d3 : vs 3 = .pointer (some ⟨w.heap.size + 1, 2, none⟩) := hd 3 (by decide) (by kernel_rfl)
      have hcc := (EB.below hV).three
      have k0 := hcc.1
      have k1 := hcc.2.1
      have k2 := hcc.2.2.1
      clear hcc
      simp only [laidIn, lz1, lz2, lz3, lz4, lz5, lz6, if_true, Act.put, lz7, lz8, lz9] at hK ⊢
      simp only [d3] at hK ⊢
      go_simp
      exact hK.out _ _ (Below.refl _ _) rfl (not_fresh rfl)
    case refine_4 =>
      refine OpDoes.mk rfl ?_
      intro vs V hV hd K hK
      simp only [laidIn, lz1, lz2, lz3, lz4, lz5, lz6, if_true, Act.put, lz7, lz8, lz9] at hK ⊢
      go_simp
      exact hK.out _ _ (Below.refl _ _) rfl (not_fresh rfl)
    case refine_5 =>
      refine OpDoes.mk rfl ?_
      intro vs V hV hd K hK
      have d1 : vs 1 = .pointer (some ⟨w.heap.size, 2, none⟩) := hd 1 (by decide) (by kernel_rfl)
      have hcc := (EA.below hV).three
      have k0 := hcc.1
      have k1 := hcc.2.1
      have k2 := hcc.2.2.1
      clear hcc
      simp only [laidIn, lz1, lz2, lz3, lz4, lz5, lz6, if_true, Act.put, lz7, lz8, lz9] at hK ⊢
      simp only [d1] at hK ⊢
      go_simp
      exact hK.out _ _ (Below.refl _ _) rfl (not_fresh rfl)
    case refine_6 =>
      refine OpDoes.mk rfl ?_
      intro vs V hV hd K hK
      simp only [laidIn, lz1, lz2, lz3, lz4, lz5, lz6, if_true, Act.put, lz7, lz8, lz9] at hK ⊢
      go_simp
      exact hK.out _ _ (Below.refl _ _) rfl (not_fresh rfl)
    case refine_7 =>
      refine OpDoes.mk rfl ?_
      intro vs V hV hd K hK
      have hcc := (E93.below hV).two
      have k0 := hcc.1
      have k1 := hcc.2.1
      clear hcc
      simp only [laidIn, lz1, lz2, lz4, lz5, lz6, if_true, Act.put, lz7, lz8, lz9] at hK ⊢
      go_simp
      exact hK.out _ _ (Below.refl _ _) rfl (not_fresh rfl)
    case refine_8 =>
      intro vs Y2 hV hR hne fuel
      have d0 : vs 0 = .agg #[.bool g5, .slice a5 z5.length c5] := hR 0 (by decide)
      have d1 : vs 1 = .pointer (some ⟨w.heap.size, 2, none⟩) := hR 1 (by decide)
      have d2 : vs 2 = .slice c ds.length cc := hR 2 (by decide)
      have d3 : vs 3 = .pointer (some ⟨w.heap.size + 1, 2, none⟩) := hR 3 (by decide)
      have d4 : vs 4 = .slice r es.length cr := hR 4 (by decide)
      have hh := fun (P : Prop) => Yield.nat_elim P (show ((Yield.nat X1.heap.size (val ds * val es) (n + m)) : Yield).At (vs 5) Y2 from hR 5 (by decide))
      refine hh _ ?_
      intro a6 c6 z6 d5 S6 N6 V6 b6
      clear hh
      have hh := fun (P : Prop) => Yield.frac_elim P (show ((Yield.frac X1.heap.size (Q) (n + m + 1)) : Yield).At (vs 6) Y2 from hR 6 (by decide))
      refine hh _ ?_
      intro g7 a7 c7 x7 e7 t7 y7 d6 F7 P7 I7
      clear hh
      replace FA := FA.below hV
      replace FB := FB.below hV
      replace EA := EA.below hV
      replace EB := EB.below hV
      replace ER := ER.below hV
      replace S5 := S5.below hV
      replace E93 := E93.below hV
      have hr := hV
      simp only [laidIn, lz4, lz5, lz6, if_true, Act.put, lz7, lz8, lz9]
      simp only [d0, d1, d2, d3, d4, d5, d6]
      clear hR hne hV d0 d1 d2 d3 d4 d5 d6
      clear vs
      show wpAny _ _ _ _ (fuel + 1) _ _ _
      refine wpAny_all (rs := [7]) (by kernel_rfl) (by simp) (fun i hi => ?_)
      obtain rfl : i = 7 := by simpa using hi
      clear hi
      have hcc := ER.three
      have k0 := hcc.1
      have k1 := hcc.2.1
      have k2 := hcc.2.2.1
      have f0 := hcc.2.2.2.1
      have f1 := hcc.2.2.2.2.1
      have f2 := hcc.2.2.2.2.2
      clear hcc
      refine wpOp_step rfl (fun K hK => ?_)
      simp only [lz1, lz2, lz3]
      rw [if_pos (by rfl)]
      go_simp
      refine hK _ _ ?_
      clear hK k0 f0 k1 f1 k2 f2
      have hT := turns3 (w.heap.size + 2) Y2 (.bool g7) (.slice a7 x7.length c7) (.slice e7 y7.length t7)
      replace FA := FA.beside ER (noWord3 (fun _ e => by cases e) (fun _ e => by cases e) (fun _ e => by cases e)) hT
      replace FB := FB.beside ER (noWord3 (fun _ e => by cases e) (fun _ e => by cases e) (fun _ e => by cases e)) hT
      replace EA := EA.turns hT (by omega)
      replace EB := EB.turns hT (by omega)
      replace S5 := S5.beside ER (noWord3 (fun _ e => by cases e) (fun _ e => by cases e) (fun _ e => by cases e)) hT
      replace E93 := E93.turns hT (by omega)
      replace S6 := S6.beside ER (noWord3 (fun _ e => by cases e) (fun _ e => by cases e) (fun _ e => by cases e)) hT
      replace F7 := F7.beside ER (noWord3 (fun _ e => by cases e) (fun _ e => by cases e) (fun _ e => by cases e)) hT
      replace ER := Box.set3 (.bool g7) (.slice a7 x7.length c7) (.slice e7 y7.length t7) ER
      have hr7 := hT.below
      obtain ⟨X2, hX⟩ := nm hT.below
      rw [hX] at FA FB EA EB ER S5 E93 S6 F7 hr7 ⊢
      clear hX hT
      refine wpAny_done (by kernel_rfl) ?_ _
      replace hB := hB.trans ((Below.trans (Below.drew (Below.refl X1.heap.size X1)) hr).mono hB.size)
      replace hB := hB.trans (hr7.mono (by omega))
      have zz1_2 := hr.size
      have zi2 := hB.size
      have zy2_7 := hr7.size
      clear hr hr7
      obtain ⟨k0, k1, k2, f0, f1, f2⟩ := EA.three
      obtain ⟨k3, k4, k5, f3, f4, f5⟩ := EB.three
      obtain ⟨k6, k7, k8, f6, f7, f8⟩ := ER.three
      obtain ⟨k9, k10, f9, f10⟩ := E93.two
      have hcc := ER.three
      have r0 := hcc.1
      have r1 := hcc.2.1
      have r2 := hcc.2.2.1
      clear hcc
      go_wp2
      refine bodyPost_ret (v := .agg #[.bool g7, .slice a7 x7.length c7, .slice e7 y7.length t7]) (by simp [results, Tryz.f33, go_sem, r0, r1, r2]) rfl ?_
      exact ⟨_, _, _, _, _, _, _, rfl, F7.mono (by omega), P7, I7, hB⟩
set_option maxRecDepth 100000 in
set_option maxHeartbeats 4000000 in
theorem kproduct_any {lo lo2 : Nat} {a c p r : Option Addr} {ca cc cp cr : Nat} {xs ds ys es : List Int} {w : World} {n m : Nat} {q s : Rat} (b g : Bool) (FA : Fr lo w a ca xs c cc ds) (FB : Fr lo2 w p cp ys r cr es) (IA : Is b xs ds q n) (IB : Is g ys es s m) (hn : n + m ≤ 400) :
    Calls Tryz.prog 37 #[.agg #[.bool b, .slice a xs.length ca, .slice c ds.length cc], .agg #[.bool g, .slice p ys.length cp, .slice r es.length cr]] w fun e w' => ∃ (b' : Bool) (a' : Option Addr) (ca' : Nat) (ts' : List Int) (c' : Option Addr) (cc' : Nat) (es' : List Int), e = .returned (.agg #[.bool b', .slice a' ts'.length ca', .slice c' es'.length cc']) ∧ Fr w.heap.size w' a' ca' ts' c' cc' es' ∧ Apart a' c' ts' es' ∧ Is b' ts' es' (q * s) (n + m) ∧ Below w.heap.size w w' := by
  have lxa := IA.lu
  have lda := IA.ld
  have lxb := IB.lu
  have ldb := IB.ld
  have pd := IA.low.2.2.1
  have pe := IB.low.2.2.1
  have hB := Below.refl w.heap.size w
  obtain ⟨Q, hQ⟩ : ∃ Q, q * s = Q := ⟨_, rfl⟩
  rw [hQ]
  have HQ : Hid (Rat.divInt (sgn b (val xs) * sgn g (val ys)) (val ds * val es) = Q) := by
    rw [Hid, ← hQ, ← IA.rat, ← IB.rat]
    exact (Rat.divInt_mul_divInt _ _).symm
  clear hQ
  go_enter Tryz.func37, Tryz.ntmps37
  have hs0 := Nat.le_refl w.heap.size
  have hq := below_new w (.cells #[.bool b, .slice a xs.length ca, .slice c ds.length cc] 27)
  replace FA := FA.below hq
  replace FB := FB.below hq
  have EA := Box.put (w := w) (k := (w.heap.size)) (.cells #[.bool b, .slice a xs.length ca, .slice c ds.length cc] 27) rfl
  replace hs0 := Nat.le_trans hs0 hq.size
  replace hB := hB.trans (hq.mono hB.size)
  clear hq
  have hq := below_new (w.alloc (.cells #[.bool b, .slice a xs.length ca, .slice c ds.length cc] 27)) (.cells #[.bool g, .slice p ys.length cp, .slice r es.length cr] 27)
  replace FA := FA.below hq
  replace FB := FB.below hq
  replace EA := EA.below hq
  have EB := Box.put (w := (w.alloc (.cells #[.bool b, .slice a xs.length ca, .slice c ds.length cc] 27))) (k := (w.heap.size + 1)) (.cells #[.bool g, .slice p ys.length cp, .slice r es.length cr] 27) (by simp)
  replace hs0 := Nat.le_trans hs0 hq.size
  replace hB := hB.trans (hq.mono hB.size)
  clear hq
  have hq := below_new ((w.alloc (.cells #[.bool b, .slice a xs.length ca, .slice c ds.length cc] 27)).alloc (.cells #[.bool g, .slice p ys.length cp, .slice r es.length cr] 27)) (.cells #[.bool false, .slice none 0 0, .slice none 0 0] 27)
  replace FA := FA.below hq
  replace FB := FB.below hq
  replace EA := EA.below hq
  replace EB := EB.below hq
  have ER := Box.put (w := ((w.alloc (.cells #[.bool b, .slice a xs.length ca, .slice c ds.length cc] 27)).alloc (.cells #[.bool g, .slice p ys.length cp, .slice r es.length cr] 27))) (k := (w.heap.size + 2)) (.cells #[.bool false, .slice none 0 0, .slice none 0 0] 27) (by simp)
  replace hs0 := Nat.le_trans hs0 hq.size
  replace hB := hB.trans (hq.mono hB.size)
  clear hq
  go_wp2_with fail
  obtain ⟨u1, hname⟩ := nm hB
  rw [hname] at hs0 hB FA FB EA EB ER ⊢
  have zh1 := hB.size
  have zs1 := hs0
  clear hname hs0
  replace FA := FA.drew
  replace FB := FB.drew
  have qEA := EA.lt
  replace EA := EA.drew
  have qEB := EB.lt
  replace EB := EB.drew
  have qER := ER.lt
  replace ER := ER.drew
  refine wp_yields 11 [.is (.pointer (some ⟨w.heap.size, 0, none⟩)), .is (.agg #[.bool b, .slice a xs.length ca]), .is (.pointer (some ⟨w.heap.size + 1, 0, none⟩)), .is (.agg #[.bool g, .slice p ys.length cp]), (Yield.int u1.heap.size (sgn b (val xs) * sgn g (val ys)) (n + m)), .is (.pointer (some ⟨w.heap.size, 2, none⟩)), .is (.slice c ds.length cc), .is (.pointer (some ⟨w.heap.size + 1, 2, none⟩)), .is (.slice r es.length cr), (Yield.nat u1.heap.size (val ds * val es) (n + m)), (Yield.frac u1.heap.size (Q) (n + m))] (by kernel_rfl) (by kernel_rfl) (lt_cons ?_ (lt_cons ?_ (lt_cons ?_ (lt_cons ?_ (lt_cons ?_ (lt_cons ?_ (lt_cons ?_ (lt_cons ?_ (lt_cons ?_ (lt_cons ?_ (lt_cons ?_ lt_nil))))))))))) ?_
  case refine_1 =>
    refine OpDoes.mk rfl ?_
    intro vs V hV hd K hK
    have hh := fun (P : Prop) => Yield.int_elim P (show ((Yield.int u1.heap.size (sgn b (val xs) * sgn g (val ys)) (n + m)) : Yield).At (vs 4) V from hd 4 (by decide) (by kernel_rfl))
    refine hh _ ?_
    intro g1 a1 c1 z1 d4 S1 N1 V1 b1
    clear hh
    have hh := fun (P : Prop) => Yield.nat_elim P (show ((Yield.nat u1.heap.size (val ds * val es) (n + m)) : Yield).At (vs 9) V from hd 9 (by decide) (by kernel_rfl))
    refine hh _ ?_
    intro a2 c2 z2 d9 S2 N2 V2 b2
    clear hh
    simp only [laidIn, lz1, lz2, lz3, lz4, lz5, lz6, if_true, Act.put, lz7, lz8, lz9] at hK ⊢
    simp only [d4, d9] at hK ⊢
    go_simp
    go_at_call 72
    refine (klowest_any (n := n + m) g1 ⟨S1.mono (Nat.zero_le _), S2.mono (Nat.zero_le _)⟩ ⟨by omega, by omega⟩ (by omega) (by rw [V2.out]; exact Int.mul_pos pd pe)).mono ?_
    rintro e V' ⟨g3, a3, c3, x3, e3, t3, y3, rfl, F3, P3, I3, hb⟩
    replace I3 : Is g3 x3 y3 (Q) (n + m) := I3.to (by rw [V1.out, V2.out]; exact HQ.out)
    exact hK.out _ _ hb ⟨_, _, _, _, _, _, _, rfl, F3.mono hV.size, P3, I3⟩ (not_fresh rfl)
  case refine_2 =>
    refine OpDoes.mk rfl ?_
    intro vs V hV hd K hK
    have d6 : vs 6 = .slice c ds.length cc := hd 6 (by decide) (by kernel_rfl)
    have d8 : vs 8 = .slice r es.length cr := hd 8 (by decide) (by kernel_rfl)
    simp only [laidIn, lz1, lz2, lz3, lz4, lz5, lz6, if_true, Act.put, lz7, lz8, lz9] at hK ⊢
    simp only [d6, d8] at hK ⊢
    go_simp
    go_at_call 73
    refine (rmul_any (FA.down.below hV) (FB.down.below hV) (by omega) (by omega)).mono ?_
    rintro e V' ⟨a2, c2, z2, rfl, S2, N2, v2, l2, hb⟩
    have V2 : Hid (val z2 = val ds * val es) := v2
    have b2 : z2.length ≤ n + m := by omega
    clear v2 l2
    exact hK.out _ _ hb ⟨_, _, _, rfl, S2.mono hV.size, N2, V2, b2⟩ (not_fresh rfl)
  case refine_3 =>
    refine OpDoes.mk rfl ?_
    intro vs V hV hd K hK
    have d7 : vs 7 = .pointer (some ⟨w.heap.size + 1, 2, none⟩) := hd 7 (by decide) (by kernel_rfl)
    have hcc := (EB.below hV).three
    have k0 := hcc.1
    have k1 := hcc.2.1
    have k2 := hcc.2.2.1
    clear hcc
    simp only [laidIn, lz1, lz2, lz3, lz4, lz5, lz6, if_true, Act.put, lz7, lz8, lz9] at hK ⊢
    simp only [d7] at hK ⊢
    go_simp
    exact hK.out _ _ (Below.refl _ _) rfl (not_fresh rfl)
  case refine_4 =>
    refine OpDoes.mk rfl ?_
    intro vs V hV hd K hK
    simp only [laidIn, lz1, lz2, lz3, lz4, lz5, lz6, if_true, Act.put, lz7, lz8, lz9] at hK ⊢
    go_simp
    exact hK.out _ _ (Below.refl _ _) rfl (not_fresh rfl)
  case refine_5 =>
    refine OpDoes.mk rfl ?_
    intro vs V hV hd K hK
    have d5 : vs 5 = .pointer (some ⟨w.heap.size, 2, none⟩) := hd 5 (by decide) (by kernel_rfl)
    have hcc := (EA.below hV).three
    have k0 := hcc.1
    have k1 := hcc.2.1
    have k2 := hcc.2.2.1
    clear hcc
    simp only [laidIn, lz1, lz2, lz3, lz4, lz5, lz6, if_true, Act.put, lz7, lz8, lz9] at hK ⊢
    simp only [d5] at hK ⊢
    go_simp
    exact hK.out _ _ (Below.refl _ _) rfl (not_fresh rfl)
  case refine_6 =>
    refine OpDoes.mk rfl ?_
    intro vs V hV hd K hK
    simp only [laidIn, lz1, lz2, lz3, lz4, lz5, lz6, if_true, Act.put, lz7, lz8, lz9] at hK ⊢
    go_simp
    exact hK.out _ _ (Below.refl _ _) rfl (not_fresh rfl)
  case refine_7 =>
    refine OpDoes.mk rfl ?_
    intro vs V hV hd K hK
    have d1 : vs 1 = .agg #[.bool b, .slice a xs.length ca] := hd 1 (by decide) (by kernel_rfl)
    have d3 : vs 3 = .agg #[.bool g, .slice p ys.length cp] := hd 3 (by decide) (by kernel_rfl)
    simp only [laidIn, lz1, lz2, lz3, lz4, lz5, lz6, if_true, Act.put, lz7, lz8, lz9] at hK ⊢
    simp only [d1, d3] at hK ⊢
    go_simp
    go_at_call 47
    refine (imul_any b g (FA.up.below hV) (FB.up.below hV) (by omega) (by omega)).mono ?_
    rintro e V' ⟨g1, a1, c1, z1, rfl, S1, N1, v1, l1, hb⟩
    have V1 : Hid (sgn g1 (val z1) = sgn b (val xs) * sgn g (val ys)) := v1
    have b1 : z1.length ≤ n + m := by omega
    clear v1 l1
    exact hK.out _ _ hb ⟨_, _, _, _, rfl, S1.mono hV.size, N1, V1, b1⟩ (not_fresh rfl)
  case refine_8 =>
    refine OpDoes.mk rfl ?_
    intro vs V hV hd K hK
    have d2 : vs 2 = .pointer (some ⟨w.heap.size + 1, 0, none⟩) := hd 2 (by decide) (by kernel_rfl)
    have hcc := (EB.below hV).three
    have k0 := hcc.1
    have k1 := hcc.2.1
    have k2 := hcc.2.2.1
    clear hcc
    simp only [laidIn, lz1, lz2, lz3, lz4, lz5, lz6, if_true, Act.put, lz7, lz8, lz9] at hK ⊢
    simp only [d2] at hK ⊢
    go_simp
    exact hK.out _ _ (Below.refl _ _) rfl (not_fresh rfl)
  case refine_9 =>
    refine OpDoes.mk rfl ?_
    intro vs V hV hd K hK
    simp only [laidIn, lz1, lz2, lz3, lz4, lz5, lz6, if_true, Act.put, lz7, lz8, lz9] at hK ⊢
    go_simp
    exact hK.out _ _ (Below.refl _ _) rfl (not_fresh rfl)
  case refine_10 =>
    refine OpDoes.mk rfl ?_
    intro vs V hV hd K hK
    have d0 : vs 0 = .pointer (some ⟨w.heap.size, 0, none⟩) := hd 0 (by decide) (by kernel_rfl)
    have hcc := (EA.below hV).three
    have k0 := hcc.1
    have k1 := hcc.2.1
    have k2 := hcc.2.2.1
    clear hcc
    simp only [laidIn, lz1, lz2, lz3, lz4, lz5, lz6, if_true, Act.put, lz7, lz8, lz9] at hK ⊢
    simp only [d0] at hK ⊢
    go_simp
    exact hK.out _ _ (Below.refl _ _) rfl (not_fresh rfl)
  case refine_11 =>
    refine OpDoes.mk rfl ?_
    intro vs V hV hd K hK
    simp only [laidIn, lz1, lz2, lz4, lz5, lz6, if_true, Act.put, lz7, lz8, lz9] at hK ⊢
    go_simp
    exact hK.out _ _ (Below.refl _ _) rfl (not_fresh rfl)
  case refine_12 =>
    intro vs Y1 hV hR hne fuel
    have d0 : vs 0 = .pointer (some ⟨w.heap.size, 0, none⟩) := hR 0 (by decide)
    have d1 : vs 1 = .agg #[.bool b, .slice a xs.length ca] := hR 1 (by decide)
    have d2 : vs 2 = .pointer (some ⟨w.heap.size + 1, 0, none⟩) := hR 2 (by decide)
    have d3 : vs 3 = .agg #[.bool g, .slice p ys.length cp] := hR 3 (by decide)
    have hh := fun (P : Prop) => Yield.int_elim P (show ((Yield.int u1.heap.size (sgn b (val xs) * sgn g (val ys)) (n + m)) : Yield).At (vs 4) Y1 from hR 4 (by decide))
    refine hh _ ?_
    intro g1 a1 c1 z1 d4 S1 N1 V1 b1
    clear hh
    have d5 : vs 5 = .pointer (some ⟨w.heap.size, 2, none⟩) := hR 5 (by decide)
    have d6 : vs 6 = .slice c ds.length cc := hR 6 (by decide)
    have d7 : vs 7 = .pointer (some ⟨w.heap.size + 1, 2, none⟩) := hR 7 (by decide)
    have d8 : vs 8 = .slice r es.length cr := hR 8 (by decide)
    have hh := fun (P : Prop) => Yield.nat_elim P (show ((Yield.nat u1.heap.size (val ds * val es) (n + m)) : Yield).At (vs 9) Y1 from hR 9 (by decide))
    refine hh _ ?_
    intro a2 c2 z2 d9 S2 N2 V2 b2
    clear hh
    have hh := fun (P : Prop) => Yield.frac_elim P (show ((Yield.frac u1.heap.size (Q) (n + m)) : Yield).At (vs 10) Y1 from hR 10 (by decide))
    refine hh _ ?_
    intro g3 a3 c3 x3 e3 t3 y3 d10 F3 P3 I3
    clear hh
    replace FA := FA.below hV
    replace FB := FB.below hV
    replace EA := EA.below hV
    replace EB := EB.below hV
    replace ER := ER.below hV
    have hr := hV
    simp only [laidIn, lz4, lz5, lz6, if_true, Act.put, lz7, lz8, lz9]
    simp only [d0, d1, d2, d3, d4, d5, d6, d7, d8, d9, d10]
    clear hR hne hV d0 d1 d2 d3 d4 d5 d6 d7 d8 d9 d10
    clear vs
    show wpAny _ _ _ _ (fuel + 1) _ _ _
    refine wpAny_all (rs := [11]) (by kernel_rfl) (by simp) (fun i hi => ?_)
    obtain rfl : i = 11 := by simpa using hi
    clear hi
    have hcc := ER.three
    have k0 := hcc.1
    have k1 := hcc.2.1
    have k2 := hcc.2.2.1
    have f0 := hcc.2.2.2.1
    have f1 := hcc.2.2.2.2.1
    have f2 := hcc.2.2.2.2.2
    clear hcc
    refine wpOp_step rfl (fun K hK => ?_)
    simp only [lz1, lz2, lz3]
    rw [if_pos (by rfl)]
    go_simp
    refine hK _ _ ?_
    clear hK k0 f0 k1 f1 k2 f2
    have hT := turns3 (w.heap.size + 2) Y1 (.bool g3) (.slice a3 x3.length c3) (.slice e3 y3.length t3)
    replace FA := FA.beside ER (noWord3 (fun _ e => by cases e) (fun _ e => by cases e) (fun _ e => by cases e)) hT
    replace FB := FB.beside ER (noWord3 (fun _ e => by cases e) (fun _ e => by cases e) (fun _ e => by cases e)) hT
    replace EA := EA.turns hT (by omega)
    replace EB := EB.turns hT (by omega)
    replace S1 := S1.beside ER (noWord3 (fun _ e => by cases e) (fun _ e => by cases e) (fun _ e => by cases e)) hT
    replace S2 := S2.beside ER (noWord3 (fun _ e => by cases e) (fun _ e => by cases e) (fun _ e => by cases e)) hT
    replace F3 := F3.beside ER (noWord3 (fun _ e => by cases e) (fun _ e => by cases e) (fun _ e => by cases e)) hT
    replace ER := Box.set3 (.bool g3) (.slice a3 x3.length c3) (.slice e3 y3.length t3) ER
    have hr11 := hT.below
    obtain ⟨X1, hX⟩ := nm hT.below
    rw [hX] at FA FB EA EB ER S1 S2 F3 hr11 ⊢
    clear hX hT
    refine wpAny_done (by kernel_rfl) ?_ _
    replace hB := hB.trans ((Below.trans (Below.drew (Below.refl u1.heap.size u1)) hr).mono hB.size)
    replace hB := hB.trans (hr11.mono (by omega))
    have zz1_1 := hr.size
    have zi1 := hB.size
    have zy1_11 := hr11.size
    clear hr hr11
    obtain ⟨k0, k1, k2, f0, f1, f2⟩ := EA.three
    obtain ⟨k3, k4, k5, f3, f4, f5⟩ := EB.three
    obtain ⟨k6, k7, k8, f6, f7, f8⟩ := ER.three
    have hcc := ER.three
    have r0 := hcc.1
    have r1 := hcc.2.1
    have r2 := hcc.2.2.1
    clear hcc
    go_wp2
    refine bodyPost_ret (v := .agg #[.bool g3, .slice a3 x3.length c3, .slice e3 y3.length t3]) (by simp [results, Tryz.f37, go_sem, r0, r1, r2]) rfl ?_
    exact ⟨_, _, _, _, _, _, _, rfl, F3.mono (by omega), P3, I3, hB⟩
theorem turned_is {b g : Bool} {xs ds z : List Int} {q : Rat} {n : Nat} (I : Is b xs ds q n) (wx : Words xs) (hx : xs ≠ []) (N : Canon g z) (V : Hid (sgn g (val z) = sgn b (val ds))) (hl : z.length ≤ n) : Is g z xs q⁻¹ n := by
  have hp : 0 < val xs := norm_pos wx I.low.1.1 hx
  refine ⟨⟨N, I.low.1.1, ?_⟩, ?_, hl, I.lu⟩
  · rw [V.out]; exact low_inv hp I.low.2.2
  · rw [← I.rat, ratL, ratL, inv_sgn, V.out]
set_option maxRecDepth 100000 in
set_option maxHeartbeats 4000000 in
theorem kturned_any {lo : Nat} {a c : Option Addr} {ca cc : Nat} {xs ds : List Int} {w : World} {n : Nat} {q : Rat} (b : Bool) (FA : Fr lo w a ca xs c cc ds) (IA : Is b xs ds q n) (hn : n ≤ 400) (HX : Hid (xs ≠ [])) :
    Calls Tryz.prog 38 #[.agg #[.bool b, .slice a xs.length ca, .slice c ds.length cc]] w fun e w' => ∃ (g : Bool) (a' : Option Addr) (ca' : Nat) (z : List Int), e = .returned (.agg #[.bool g, .slice a' z.length ca', .slice a xs.length ca]) ∧ Seg w.heap.size w' (.slice a' z.length ca') z ∧ Is g z xs q⁻¹ n ∧ Below w.heap.size w w' := by
  have lda := IA.ld
  have hB := Below.refl w.heap.size w
  go_enter Tryz.func38, Tryz.ntmps38
  have hs0 := Nat.le_refl w.heap.size
  have hq := below_new w (.cells #[.bool b, .slice a xs.length ca, .slice c ds.length cc] 27)
  replace FA := FA.below hq
  have EA := Box.put (w := w) (k := (w.heap.size)) (.cells #[.bool b, .slice a xs.length ca, .slice c ds.length cc] 27) rfl
  replace hs0 := Nat.le_trans hs0 hq.size
  replace hB := hB.trans (hq.mono hB.size)
  clear hq
  have hq := below_new (w.alloc (.cells #[.bool b, .slice a xs.length ca, .slice c ds.length cc] 27)) (.cells #[.bool false, .slice none 0 0, .slice none 0 0] 27)
  replace FA := FA.below hq
  replace EA := EA.below hq
  have ER := Box.put (w := (w.alloc (.cells #[.bool b, .slice a xs.length ca, .slice c ds.length cc] 27))) (k := (w.heap.size + 1)) (.cells #[.bool false, .slice none 0 0, .slice none 0 0] 27) (by simp)
  replace hs0 := Nat.le_trans hs0 hq.size
  replace hB := hB.trans (hq.mono hB.size)
  clear hq
  go_wp2_with fail
  obtain ⟨u1, hname⟩ := nm hB
  rw [hname] at hs0 hB FA EA ER ⊢
  have zh1 := hB.size
  have zs1 := hs0
  clear hname hs0
  replace FA := FA.drew
  have qEA := EA.lt
  replace EA := EA.drew
  have qER := ER.lt
  replace ER := ER.drew
  refine wp_yields 10 [.is (.pointer (some ⟨w.heap.size, 0, none⟩)), .is (.pointer (some ⟨w.heap.size, 0, none⟩)), .is (.bool b), .is (.pointer (some ⟨w.heap.size, 2, none⟩)), .is (.slice c ds.length cc), (Yield.int u1.heap.size (sgn b (val ds)) (n)), .is (.pointer (some ⟨w.heap.size, 0, none⟩)), .is (.pointer (some ⟨w.heap.size, 1, none⟩)), .is (.slice a xs.length ca), (Yield.intIn (fun g s => .agg #[.bool g, s, .slice a xs.length ca]) u1.heap.size (sgn b (val ds)) (n))] (by kernel_rfl) (by kernel_rfl) (lt_cons ?_ (lt_cons ?_ (lt_cons ?_ (lt_cons ?_ (lt_cons ?_ (lt_cons ?_ (lt_cons ?_ (lt_cons ?_ (lt_cons ?_ (lt_cons ?_ lt_nil)))))))))) ?_
  case refine_1 =>
    refine OpDoes.mk rfl ?_
    intro vs V hV hd K hK
    have hh := fun (P : Prop) => Yield.int_elim P (show ((Yield.int u1.heap.size (sgn b (val ds)) (n)) : Yield).At (vs 5) V from hd 5 (by decide) (by kernel_rfl))
    refine hh _ ?_
    intro g1 a1 c1 z1 d5 S1 N1 V1 b1
    clear hh
    have d8 : vs 8 = .slice a xs.length ca := hd 8 (by decide) (by kernel_rfl)
    simp only [laidIn, lz1, lz2, lz3, lz4, lz5, lz6, if_true, Act.put, lz7, lz8, lz9] at hK ⊢
    simp only [d5, d8] at hK ⊢
    go_simp
    exact hK.out _ _ (Below.refl _ _) ⟨_, _, _, _, rfl, S1, N1, V1, b1⟩ (not_fresh rfl)
  case refine_2 =>
    refine OpDoes.mk rfl ?_
    intro vs V hV hd K hK
    have d7 : vs 7 = .pointer (some ⟨w.heap.size, 1, none⟩) := hd 7 (by decide) (by kernel_rfl)
    have hcc := (EA.below hV).three
    have k0 := hcc.1
    have k1 := hcc.2.1
    have k2 := hcc.2.2.1
    clear hcc
    simp only [laidIn, lz1, lz2, lz3, lz4, lz5, lz6, if_true, Act.put, lz7, lz8, lz9] at hK ⊢
    simp only [d7] at hK ⊢
    go_simp
    exact hK.out _ _ (Below.refl _ _) rfl (not_fresh rfl)
  case refine_3 =>
    refine OpDoes.mk rfl ?_
    intro vs V hV hd K hK
    have d6 : vs 6 = .pointer (some ⟨w.heap.size, 0, none⟩) := hd 6 (by decide) (by kernel_rfl)
    simp only [laidIn, lz1, lz2, lz3, lz4, lz5, lz6, if_true, Act.put, lz7, lz8, lz9] at hK ⊢
    simp only [d6] at hK ⊢
    go_simp
    exact hK.out _ _ (Below.refl _ _) rfl (not_fresh rfl)
  case refine_4 =>
    refine OpDoes.mk rfl ?_
    intro vs V hV hd K hK
    simp only [laidIn, lz1, lz2, lz3, lz4, lz5, lz6, if_true, Act.put, lz7, lz8, lz9] at hK ⊢
    go_simp
    exact hK.out _ _ (Below.refl _ _) rfl (not_fresh rfl)
  case refine_5 =>
    refine OpDoes.mk rfl ?_
    intro vs V hV hd K hK
    have d2 : vs 2 = .bool b := hd 2 (by decide) (by kernel_rfl)
    have d4 : vs 4 = .slice c ds.length cc := hd 4 (by decide) (by kernel_rfl)
    simp only [laidIn, lz1, lz2, lz3, lz4, lz5, lz6, if_true, Act.put, lz7, lz8, lz9] at hK ⊢
    simp only [d2, d4] at hK ⊢
    go_simp
    go_at_call 57
    refine (imake_any (FA.down.below hV) (by omega) b).mono ?_
    rintro e V' ⟨g1, a1, c1, z1, rfl, S1, N1, v1, l1, hb⟩
    have V1 : Hid (sgn g1 (val z1) = sgn b (val ds)) := v1
    have b1 : z1.length ≤ n := by omega
    clear v1 l1
    exact hK.out _ _ hb ⟨_, _, _, _, rfl, S1.mono hV.size, N1, V1, b1⟩ (not_fresh rfl)
  case refine_6 =>
    refine OpDoes.mk rfl ?_
    intro vs V hV hd K hK
    have d3 : vs 3 = .pointer (some ⟨w.heap.size, 2, none⟩) := hd 3 (by decide) (by kernel_rfl)
    have hcc := (EA.below hV).three
    have k0 := hcc.1
    have k1 := hcc.2.1
    have k2 := hcc.2.2.1
    clear hcc
    simp only [laidIn, lz1, lz2, lz3, lz4, lz5, lz6, if_true, Act.put, lz7, lz8, lz9] at hK ⊢
    simp only [d3] at hK ⊢
    go_simp
    exact hK.out _ _ (Below.refl _ _) rfl (not_fresh rfl)
  case refine_7 =>
    refine OpDoes.mk rfl ?_
    intro vs V hV hd K hK
    simp only [laidIn, lz1, lz2, lz3, lz4, lz5, lz6, if_true, Act.put, lz7, lz8, lz9] at hK ⊢
    go_simp
    exact hK.out _ _ (Below.refl _ _) rfl (not_fresh rfl)
  case refine_8 =>
    refine OpDoes.mk rfl ?_
    intro vs V hV hd K hK
    have d1 : vs 1 = .pointer (some ⟨w.heap.size, 0, none⟩) := hd 1 (by decide) (by kernel_rfl)
    have hcc := (EA.below hV).three
    have k0 := hcc.1
    have k1 := hcc.2.1
    have k2 := hcc.2.2.1
    clear hcc
    simp only [laidIn, lz1, lz2, lz3, lz4, lz5, lz6, if_true, Act.put, lz7, lz8, lz9] at hK ⊢
    simp only [d1] at hK ⊢
    go_simp
    exact hK.out _ _ (Below.refl _ _) rfl (not_fresh rfl)
  case refine_9 =>
    refine OpDoes.mk rfl ?_
    intro vs V hV hd K hK
    have d0 : vs 0 = .pointer (some ⟨w.heap.size, 0, none⟩) := hd 0 (by decide) (by kernel_rfl)
    simp only [laidIn, lz1, lz2, lz3, lz4, lz5, lz6, if_true, Act.put, lz7, lz8, lz9] at hK ⊢
    simp only [d0] at hK ⊢
    go_simp
    exact hK.out _ _ (Below.refl _ _) rfl (not_fresh rfl)
  case refine_10 =>
    refine OpDoes.mk rfl ?_
    intro vs V hV hd K hK
    simp only [laidIn, lz1, lz2, lz4, lz5, lz6, if_true, Act.put, lz7, lz8, lz9] at hK ⊢
    go_simp
    exact hK.out _ _ (Below.refl _ _) rfl (not_fresh rfl)
  case refine_11 =>
    intro vs Y1 hV hR hne fuel
    have d0 : vs 0 = .pointer (some ⟨w.heap.size, 0, none⟩) := hR 0 (by decide)
    have d1 : vs 1 = .pointer (some ⟨w.heap.size, 0, none⟩) := hR 1 (by decide)
    have d2 : vs 2 = .bool b := hR 2 (by decide)
    have d3 : vs 3 = .pointer (some ⟨w.heap.size, 2, none⟩) := hR 3 (by decide)
    have d4 : vs 4 = .slice c ds.length cc := hR 4 (by decide)
    have hh := fun (P : Prop) => Yield.int_elim P (show ((Yield.int u1.heap.size (sgn b (val ds)) (n)) : Yield).At (vs 5) Y1 from hR 5 (by decide))
    refine hh _ ?_
    intro g1 a1 c1 z1 d5 S1 N1 V1 b1
    clear hh
    have d6 : vs 6 = .pointer (some ⟨w.heap.size, 0, none⟩) := hR 6 (by decide)
    have d7 : vs 7 = .pointer (some ⟨w.heap.size, 1, none⟩) := hR 7 (by decide)
    have d8 : vs 8 = .slice a xs.length ca := hR 8 (by decide)
    have hh := fun (P : Prop) => Yield.intIn_elim P (show ((Yield.intIn (fun g s => .agg #[.bool g, s, .slice a xs.length ca]) u1.heap.size (sgn b (val ds)) (n)) : Yield).At (vs 9) Y1 from hR 9 (by decide))
    refine hh _ ?_
    intro g2 a2 c2 z2 d9 S2 N2 V2 b2
    clear hh
    replace FA := FA.below hV
    replace EA := EA.below hV
    replace ER := ER.below hV
    have hr := hV
    simp only [laidIn, lz4, lz5, lz6, if_true, Act.put, lz7, lz8, lz9]
    simp only [d0, d1, d2, d3, d4, d5, d6, d7, d8, d9]
    clear hR hne hV d0 d1 d2 d3 d4 d5 d6 d7 d8 d9
    clear vs
    show wpAny _ _ _ _ (fuel + 1) _ _ _
    refine wpAny_all (rs := [10]) (by kernel_rfl) (by simp) (fun i hi => ?_)
    obtain rfl : i = 10 := by simpa using hi
    clear hi
    have hcc := ER.three
    have k0 := hcc.1
    have k1 := hcc.2.1
    have k2 := hcc.2.2.1
    have f0 := hcc.2.2.2.1
    have f1 := hcc.2.2.2.2.1
    have f2 := hcc.2.2.2.2.2
    clear hcc
    refine wpOp_step rfl (fun K hK => ?_)
    simp only [lz1, lz2, lz3]
    rw [if_pos (by rfl)]
    go_simp
    refine hK _ _ ?_
    clear hK k0 f0 k1 f1 k2 f2
    have hT := turns3 (w.heap.size + 1) Y1 (.bool g2) (.slice a2 z2.length c2) (.slice a xs.length ca)
    replace FA := FA.beside ER (noWord3 (fun _ e => by cases e) (fun _ e => by cases e) (fun _ e => by cases e)) hT
    replace EA := EA.turns hT (by omega)
    replace S1 := S1.beside ER (noWord3 (fun _ e => by cases e) (fun _ e => by cases e) (fun _ e => by cases e)) hT
    replace S2 := S2.beside ER (noWord3 (fun _ e => by cases e) (fun _ e => by cases e) (fun _ e => by cases e)) hT
    replace ER := Box.set3 (.bool g2) (.slice a2 z2.length c2) (.slice a xs.length ca) ER
    have hr10 := hT.below
    obtain ⟨X1, hX⟩ := nm hT.below
    rw [hX] at FA EA ER S1 S2 hr10 ⊢
    clear hX hT
    refine wpAny_done (by kernel_rfl) ?_ _
    replace hB := hB.trans ((Below.trans (Below.drew (Below.refl u1.heap.size u1)) hr).mono hB.size)
    replace hB := hB.trans (hr10.mono (by omega))
    have zz1_1 := hr.size
    have zi1 := hB.size
    have zy1_10 := hr10.size
    clear hr hr10
    have HI := turned_is IA FA.up.words HX.out N2 V2 (by omega)
    obtain ⟨k0, k1, k2, f0, f1, f2⟩ := EA.three
    obtain ⟨k3, k4, k5, f3, f4, f5⟩ := ER.three
    have hcc := ER.three
    have r0 := hcc.1
    have r1 := hcc.2.1
    have r2 := hcc.2.2.1
    clear hcc
    go_wp2
    refine bodyPost_ret (v := .agg #[.bool g2, .slice a2 z2.length c2, .slice a xs.length ca]) (by simp [results, Tryz.f38, go_sem, r0, r1, r2]) rfl ?_
    exact ⟨_, _, _, _, rfl, S2.mono (by omega), HI, hB⟩
structure GoodIs (v : Bool) (rs : List RV) : Prop where
  out : v = true ↔ ∀ r ∈ rs, formR r.b r.xs r.ds = 0
def longB (r : RV) : Bool := decide ((5 : Int) < (r.xs.length : Int) ∨ (5 : Int) < (r.ds.length : Int))
structure LongIs (v : Bool) (rs : List RV) : Prop where
  out : v = true ↔ 6 < rs.length ∨ ∃ r ∈ rs.take 7, longB r = true
set_option maxRecDepth 100000 in
set_option maxHeartbeats 2000000 in
theorem lrlong_any {sv : Option Addr} {cap : Nat} {rs : List RV} {w : World} (R : Row 0 w sv rs) (v : Bool) (hv : LongIs v rs) :
    Calls Tryz.prog 4 #[.slice sv rs.length cap] w fun e w' => e = .returned (.bool v) ∧ Below w.heap.size w w' := by
  go_enter Tryz.func4, Tryz.ntmps4
  go_wp2
  go_loopw [3] (fun iv wr => ∃ (i : Nat), iv = .int .i64 i ∧ i ≤ rs.length ∧ i ≤ 7 ∧ Row 0 wr sv rs ∧ Below w.heap.size w wr ∧ Hid (∀ r ∈ rs.take i, longB r = false)) (fun iv _ => rs.length - (intOf iv).toNat)
  case atStart => exact ⟨0, rfl, Nat.zero_le _, by omega, R, Below.refl _ _, by rw [Hid]; simp⟩
  case round =>
    clear R
    obtain ⟨i, rfl, hi, hi7, R, hB, HG⟩ := hrel
    have hw1 : IntKind.i64.wrap ((i : Int) + 1) = (i : Int) + 1 := by rw [IntKind.wrap_i64]; omega
    by_cases hlt : i < rs.length
    · have hlt2 : (i : Int) < (rs.length : Int) := by omega
      have hge : ¬ (i : Int) < 0 := by omega
      by_cases h7 : i < 7
      · have h72 : (i : Int) < 7 := by omega
        obtain ⟨g, o, rfl, hg⟩ := R.at_ i hlt
        obtain ⟨r, hr0⟩ : ∃ r, rs[i]? = some r := ⟨rs[i], List.getElem?_eq_getElem hlt⟩
        have hr := hide hr0
        clear hr0
        have hcc := R.cells g o i r rfl hr.out
        have c0 := hcc.1
        have c1 := hcc.2.1
        have c2 := hcc.2.2
        have hk := fun w => longr_any r.b r.a r.xs r.ca r.c r.ds r.cc 5 w
        have hms : rs.length - (i + 1) < rs.length - i := by omega
        have hmem : r ∈ rs.take 7 := by
          refine List.mem_iff_getElem?.2 ⟨i, ?_⟩
          rw [List.getElem?_take_of_lt h7]
          exact hr.out
        have HM := hide hmem
        clear hcc hmem
        obtain ⟨x, hx⟩ : ∃ x, decide ((5 : Int) < (r.xs.length : Int) ∨ (5 : Int) < (r.ds.length : Int)) = x := ⟨_, rfl⟩
        rw [hx] at hk
        have HX : Hid (longB r = x) := hx
        clear hx
        cases x with
        | false =>
          go_wp2_with fail
          refine (hk _).mono ?_
          rintro e w1 ⟨rfl, hb1⟩
          have R1 := R.below hb1
          have hB1 := hB.trans (hb1.mono hB.size)
          clear hk c0 c1 c2
          go_wp2
          refine ⟨⟨i + 1, by simp, by omega, by omega, R1, hB1, ?_⟩, by simpa [intOf] using hms⟩
          rw [Hid]
          intro s hs
          rw [List.take_add_one, hr.out] at hs
          simp only [Option.toList_some, List.mem_append, List.mem_singleton] at hs
          rcases hs with hs | rfl
          · exact HG.out s hs
          · exact HX.out
        | true =>
          obtain rfl : v = true := hv.out.2 (Or.inr ⟨r, HM.out, HX.out⟩)
          go_wp2_with fail
          refine (hk _).mono ?_
          rintro e w1 ⟨rfl, hb1⟩
          have hB1 := hB.trans (hb1.mono hB.size)
          clear hk c0 c1 c2
          go_wp2
          go_ret
          exact ⟨rfl, hB1⟩
      · have h72 : ¬ (i : Int) < 7 := by omega
        have h6 : (6 : Int) < (rs.length : Int) := by omega
        obtain rfl : v = true := hv.out.2 (Or.inl (by omega))
        go_wp2
        go_ret
        exact ⟨rfl, hB⟩
    · have hnl : ¬ (i : Int) < (rs.length : Int) := by omega
      by_cases h6 : 6 < rs.length
      · have h62 : (6 : Int) < (rs.length : Int) := by omega
        obtain rfl : v = true := hv.out.2 (Or.inl h6)
        go_wp2
        go_ret
        exact ⟨rfl, hB⟩
      · have h62 : ¬ (6 : Int) < (rs.length : Int) := by omega
        obtain rfl : v = false := by
          cases v
          · rfl
          · rcases hv.out.1 rfl with h | ⟨r, hr, hl⟩
            · exact absurd h h6
            · have h0 := HG.out
              rw [List.take_of_length_le (by omega)] at h0 hr
              rw [h0 r hr] at hl
              cases hl
        go_wp2
        go_ret
        exact ⟨rfl, hB⟩
set_option maxRecDepth 100000 in
set_option maxHeartbeats 4000000 in
theorem kone_any (w : World) : Calls Tryz.prog 43 #[] w fun e w' => ∃ (a : Option Addr) (c : Nat) (z : List Int), e = .returned (.slice a z.length c) ∧ Seg w.heap.size w' (.slice a z.length c) z ∧ Norm z ∧ val z = 1 ∧ z.length ≤ 1 ∧ Below w.heap.size w w' := by
  have s := seg_lit w [1] (words_of rfl)
  have hb : Below w.heap.size w (w.alloc (.cells #[.int .u64 1] 49)) := (Below.refl _ w).a1 _
  go_enter Tryz.func43, Tryz.ntmps43
  go_wp2
  go_ret
  exact ⟨_, _, [1], rfl, s, Or.inr (by decide), by decide, by decide, hb⟩
set_option maxRecDepth 100000 in
set_option maxHeartbeats 1000000 in
theorem kcheck_any {lo : Nat} {a c : Option Addr} {ca cc : Nat} {xs ds : List Int} {w : World} (b : Bool) (h : Fr lo w a ca xs c cc ds) (hl : xs.length ≤ 1000) (hl' : ds.length ≤ 1000) :
    Calls Tryz.prog 70 #[.agg #[.bool b, .slice a xs.length ca, .slice c ds.length cc]] w fun e w' => e = .returned (.int .i64 (formR b xs ds)) ∧ Below w.heap.size w w' := by
  have hB0 : Below w.heap.size w (w.alloc (.cells #[.bool b, .slice a xs.length ca, .slice c ds.length cc] 27)) := (Below.refl _ w).alloc (Nat.le_refl _) _
  have E := Box.new w (.cells #[.bool b, .slice a xs.length ca, .slice c ds.length cc] 27)
  have hck := icheck_any b (h.up.below hB0) (by omega)
  obtain ⟨f, hf⟩ : ∃ f, formI b xs = f := ⟨_, rfl⟩
  have HR : Hid (formR b xs ds = if f = 0 ∧ formOf ds = 0 ∧ ds ≠ [] ∧ gcdI (val xs) (val ds) = 1 then 0 else 6) := by rw [Hid, ← hf]; rfl
  rw [hf] at hck
  clear hf
  go_enter Tryz.func70, Tryz.ntmps70
  go_wp2_with fail
  refine hck.mono ?_
  rintro e w1 ⟨rfl, hb1⟩
  have E1 := E.below hb1
  have hB1 := hB0.trans (hb1.mono hB0.size)
  obtain ⟨k0, k1, k2, _⟩ := E1.three
  clear hck
  by_cases h0 : f = 0
  · subst h0
    have hc := (rcheck_any (h.down.below hB1) (by omega)).mono (fun e w' k => (⟨k.1, k.2 ▸ Below.refl _ _⟩ : _ ∧ Below w1.heap.size w1 w'))
    obtain ⟨g, hg⟩ : ∃ g, formOf ds = g := ⟨_, rfl⟩
    rw [hg] at hc
    have HG := hide hg
    clear hg
    go_wp2_with fail
    refine hc.mono ?_
    rintro e w2 ⟨rfl, hb2⟩
    have E2 := E1.below hb2
    have hB2 := hB1.trans (hb2.mono hB1.size)
    clear hc k0 k1 k2
    obtain ⟨k0, k1, k2, _⟩ := E2.three
    by_cases h1 : g = 0
    · subst h1
      by_cases h2 : ds = []
      · subst h2
        go_wp2
        go_ret
        exact ⟨ret_int (by rw [HR.out, if_neg (by simp)]), hB2⟩
      · have hz : ((ds.length : Int) == 0) = false := beq_eq_false_iff_ne.2 (by have := List.length_pos_iff.2 h2; omega)
        have hgc := rgcd_any (h.up.below hB2) (h.down.below hB2) (by omega) (by omega)
        have hlt := val_lt h.down.words
        have hp : 0 < val ds := norm_pos h.down.words (formOf_norm.1 HG.out) h2
        have hgl : gcdI (val xs) (val ds) ≤ val ds := by
          rw [gcdI_gcd (val_nonneg h.up.words) (by omega)]
          exact Int.le_of_dvd hp (Int.gcd_dvd_right ..)
        have H2 := hide h2
        clear h2 hp
        go_wp2_with fail
        refine hgc.mono ?_
        rintro e w3 ⟨a3, c3, gs, rfl, hs3, n3, v3, hl3, hb3⟩
        have hB3 := hB2.trans (hb3.mono hB2.size)
        have V3 := hide v3
        clear hgc v3 k0 k1 k2 hlt hgl
        go_wp2_with fail
        refine (kone_any _).mono ?_
        rintro e w4 ⟨a4, c4, os, rfl, hs4, n4, v4, hl4, hb4⟩
        have hB4 := hB3.trans (hb4.mono hB3.size)
        have hcm := (rcmp_any (hs3.below hb4) hs4 (by omega) (by omega)).mono (fun e w' k => (⟨k.1, k.2 ▸ Below.refl _ _⟩ : _ ∧ Below w4.heap.size w4 w'))
        rw [v4] at hcm
        obtain ⟨x, hx⟩ : ∃ x, cmpI (val gs) 1 = x := ⟨_, rfl⟩
        rw [hx] at hcm
        have HX := hide hx
        clear hx v4
        go_wp2_with fail
        refine hcm.mono ?_
        rintro e w5 ⟨rfl, hb5⟩
        have hB5 := hB4.trans (hb5.mono hB4.size)
        clear hcm
        by_cases hx0 : x = 0
        · subst hx0
          have hg1 : val gs = 1 := by
            have := HX.out
            unfold cmpI at this
            split at this
            · omega
            · split at this <;> omega
          have HG1 := hide hg1
          clear hg1
          go_wp2
          go_ret
          refine ⟨ret_int ?_, hB5⟩
          rw [HR.out, if_pos ⟨by simp, HG.out, H2.out, by rw [← V3.out]; exact HG1.out⟩]
        · have hxn : (x != 0) = true := bne_iff_ne.2 hx0
          have HX0 := hide hx0
          clear hx0
          go_wp2
          go_ret
          refine ⟨ret_int ?_, hB5⟩
          rw [HR.out, if_neg]
          rintro ⟨_, _, _, h4⟩
          apply HX0.out
          rw [← HX.out, V3.out, h4, cmpI_eq]
    · have hne : (g != 0) = true := bne_iff_ne.2 h1
      have H1 := hide h1
      clear h1
      go_wp2
      go_ret
      exact ⟨ret_int (by rw [HR.out, if_neg (by rw [HG.out]; rintro ⟨_, q, _⟩; exact H1.out q)]), hB2⟩
  · have hne : (f != 0) = true := bne_iff_ne.2 h0
    have H0 := hide h0
    clear h0
    go_wp2
    go_ret
    exact ⟨ret_int (by rw [HR.out, if_neg (by rintro ⟨q, _⟩; exact H0.out q)]), hB1⟩
set_option maxRecDepth 100000 in
set_option maxHeartbeats 2000000 in
theorem kfine_any {sv : Option Addr} {cap : Nat} {rs : List RV} {w : World} (R : Row 0 w sv rs) (hrl : rs.length ≤ 1000) (hlen : ∀ r ∈ rs, r.xs.length ≤ 1000 ∧ r.ds.length ≤ 1000) (v : Bool) (hv : GoodIs v rs) :
    Calls Tryz.prog 32 #[.slice sv rs.length cap] w fun e w' => e = .returned (.bool v) ∧ Below w.heap.size w w' := by
  go_enter Tryz.func32, Tryz.ntmps32
  go_wp2
  go_loopw [3] (fun iv wr => ∃ (i : Nat), iv = .int .i64 i ∧ i ≤ rs.length ∧ Row 0 wr sv rs ∧ Below w.heap.size w wr ∧ Hid (∀ r ∈ rs.take i, formR r.b r.xs r.ds = 0)) (fun iv _ => rs.length - (intOf iv).toNat)
  case atStart => exact ⟨0, rfl, Nat.zero_le _, R, Below.refl _ _, by rw [Hid]; simp⟩
  case round =>
    clear R
    obtain ⟨i, rfl, hi, R, hB, HG⟩ := hrel
    have hw1 : IntKind.i64.wrap ((i : Int) + 1) = (i : Int) + 1 := by rw [IntKind.wrap_i64]; omega
    by_cases hlt : i < rs.length
    · have hlt2 : (i : Int) < (rs.length : Int) := by omega
      have hge : ¬ (i : Int) < 0 := by omega
      obtain ⟨g, o, rfl, hg⟩ := R.at_ i hlt
      obtain ⟨r, hr0⟩ : ∃ r, rs[i]? = some r := ⟨rs[i], List.getElem?_eq_getElem hlt⟩
      have hr := hide hr0
      have F1 := R.held i r hr0
      clear hr0
      have hlr := hlen r (List.mem_of_getElem? hr.out)
      have hcc := R.cells g o i r rfl hr.out
      have c0 := hcc.1
      have c1 := hcc.2.1
      have c2 := hcc.2.2
      have hk := kcheck_any r.b F1 (by omega) (by omega)
      have hms : rs.length - (i + 1) < rs.length - i := by omega
      clear hcc
      rcases formR_or r.b r.xs r.ds with h | h
      · rw [h] at hk
        have H := hide h
        clear h
        go_wp2_with fail
        refine hk.mono ?_
        rintro e w1 ⟨rfl, hb1⟩
        have R1 := R.below hb1
        have hB1 := hB.trans (hb1.mono hB.size)
        clear hk c0 c1 c2
        go_wp2
        refine ⟨⟨i + 1, by simp, by omega, R1, hB1, ?_⟩, by simpa [intOf] using hms⟩
        rw [Hid]
        intro s hs
        rw [List.take_add_one, hr.out] at hs
        simp only [Option.toList_some, List.mem_append, List.mem_singleton] at hs
        rcases hs with hs | rfl
        · exact HG.out s hs
        · exact H.out
      · rw [h] at hk
        obtain rfl : v = false := by
          cases v
          · rfl
          · have := hv.out.1 rfl r (List.mem_of_getElem? hr.out)
            rw [h] at this
            exact absurd this (by decide)
        clear h
        go_wp2_with fail
        refine hk.mono ?_
        rintro e w1 ⟨rfl, hb1⟩
        have hB1 := hB.trans (hb1.mono hB.size)
        clear hk c0 c1 c2
        go_wp2
        go_ret
        exact ⟨rfl, hB1⟩
    · have hnl : ¬ (i : Int) < (rs.length : Int) := by omega
      obtain rfl : v = true := hv.out.2 (by have := HG.out; rw [List.take_of_length_le (by omega)] at this; exact this)
      go_wp2
      go_ret
      exact ⟨rfl, hB⟩
theorem long_no (rs : List RV) (h6 : rs.length ≤ 6) (h : ∀ r ∈ rs, r.xs.length ≤ 5 ∧ r.ds.length ≤ 5) : LongIs false rs := by
  refine ⟨⟨(fun h => by cases h), ?_⟩⟩
  rintro (h1 | ⟨r, hr, hl⟩)
  · omega
  · have := h r (List.mem_of_mem_take hr)
    simp [longB] at hl
    omega
theorem long_yes (rs : List RV) (h : ∃ r ∈ rs.take 7, ¬ (r.xs.length ≤ 5 ∧ r.ds.length ≤ 5)) : LongIs true rs := by
  refine ⟨⟨fun _ => ?_, fun _ => rfl⟩⟩
  obtain ⟨r, hr, hl⟩ := h
  refine Or.inr ⟨r, hr, ?_⟩
  simp [longB]
  omega
theorem good_yes (rs : List RV) (h : ∀ r ∈ rs, formR r.b r.xs r.ds = 0) : GoodIs true rs := ⟨⟨fun _ => h, fun _ => rfl⟩⟩
theorem good_no (rs : List RV) (h : ¬ ∀ r ∈ rs, formR r.b r.xs r.ds = 0) : GoodIs false rs := ⟨⟨(fun h => by cases h), fun h' => absurd h' h⟩⟩
def Yield.turn (f : Bool → Value → Value) (lo : Nat) (ys : List Int) (q : Rat) (n : Nat) : Yield := .rel (fun v W => ∃ (g : Bool) (a : Option Addr) (c : Nat) (z : List Int), v = f g (.slice a z.length c) ∧ Seg lo W (.slice a z.length c) z ∧ Is g z ys q n)
  (fun _ _ _ hb ⟨g, a, c, z, e, s, r⟩ => ⟨g, a, c, z, e, s.below hb, r⟩)
theorem Yield.turn_elim {f : Bool → Value → Value} {lo : Nat} {ys : List Int} {q : Rat} {n : Nat} {v : Value} {W : World} (P : Prop) (h : (Yield.turn f lo ys q n).At v W) (k : ∀ (g : Bool) (a : Option Addr) (c : Nat) (z : List Int), v = f g (.slice a z.length c) → Seg lo W (.slice a z.length c) z → Is g z ys q n → P) : P := by
  obtain ⟨g, a, c, z, h1, h2, h3⟩ := h; exact k g a c z h1 h2 h3
set_option maxRecDepth 100000 in
set_option maxHeartbeats 4000000 in
theorem ksub_no {lo lo2 : Nat} {a c p r : Option Addr} {ca cc cp cr : Nat} {xs ds ys es : List Int} {w : World} (b g : Bool) (FA : Fr lo w a ca xs c cc ds) (FB : Fr lo2 w p cp ys r cr es) (hla : xs.length ≤ 400 ∧ ds.length ≤ 400) (hlb : ys.length ≤ 400 ∧ es.length ≤ 400) (hno : ¬ (formR b xs ds = 0 ∧ formR g ys es = 0)) :
    Calls Tryz.prog 8 #[.agg #[.bool b, .slice a xs.length ca, .slice c ds.length cc], .agg #[.bool g, .slice p ys.length cp, .slice r es.length cr]] w fun e w' => e = .returned (.tuple #[.agg #[.bool false, .slice none 0 0, .slice none 0 0], .int .i64 6]) ∧ Below w.heap.size w w' := by
  have hlen0 : Hid (∀ x ∈ ([⟨b, a, ca, xs, c, cc, ds⟩, ⟨g, p, cp, ys, r, cr, es⟩] : List RV), x.xs.length ≤ 1000 ∧ x.ds.length ≤ 1000) := fun x hx => by
    simp only [List.mem_cons, List.not_mem_nil, or_false] at hx
    rcases hx with rfl | rfl <;> constructor <;> simp <;> omega
  have HG := good_no [⟨b, a, ca, xs, c, cc, ds⟩, ⟨g, p, cp, ys, r, cr, es⟩] (fun h => hno ⟨h _ (List.mem_cons_self ..), h _ (List.mem_cons_of_mem _ (List.mem_cons_self ..))⟩)
  have hB := Below.refl w.heap.size w
  clear hno
  go_enter Tryz.func8, Tryz.ntmps8
  have hs0 := Nat.le_refl w.heap.size
  have hq := below_new w (.cells #[.bool b, .slice a xs.length ca, .slice c ds.length cc] 27)
  replace FA := FA.below hq
  replace FB := FB.below hq
  have EA := Box.put (w := w) (k := (w.heap.size)) (.cells #[.bool b, .slice a xs.length ca, .slice c ds.length cc] 27) rfl
  replace hs0 := Nat.le_trans hs0 hq.size
  replace hB := hB.trans (hq.mono hB.size)
  clear hq
  have hq := below_new (w.alloc (.cells #[.bool b, .slice a xs.length ca, .slice c ds.length cc] 27)) (.cells #[.bool g, .slice p ys.length cp, .slice r es.length cr] 27)
  replace FA := FA.below hq
  replace FB := FB.below hq
  replace EA := EA.below hq
  have EB := Box.put (w := (w.alloc (.cells #[.bool b, .slice a xs.length ca, .slice c ds.length cc] 27))) (k := (w.heap.size + 1)) (.cells #[.bool g, .slice p ys.length cp, .slice r es.length cr] 27) (by simp)
  replace hs0 := Nat.le_trans hs0 hq.size
  replace hB := hB.trans (hq.mono hB.size)
  clear hq
  have hq := below_new ((w.alloc (.cells #[.bool b, .slice a xs.length ca, .slice c ds.length cc] 27)).alloc (.cells #[.bool g, .slice p ys.length cp, .slice r es.length cr] 27)) (.cells #[.bool false, .slice none 0 0, .slice none 0 0] 27)
  replace FA := FA.below hq
  replace FB := FB.below hq
  replace EA := EA.below hq
  replace EB := EB.below hq
  have ER := Box.put (w := ((w.alloc (.cells #[.bool b, .slice a xs.length ca, .slice c ds.length cc] 27)).alloc (.cells #[.bool g, .slice p ys.length cp, .slice r es.length cr] 27))) (k := (w.heap.size + 2)) (.cells #[.bool false, .slice none 0 0, .slice none 0 0] 27) (by simp)
  replace hs0 := Nat.le_trans hs0 hq.size
  replace hB := hB.trans (hq.mono hB.size)
  clear hq
  have hq := below_new (((w.alloc (.cells #[.bool b, .slice a xs.length ca, .slice c ds.length cc] 27)).alloc (.cells #[.bool g, .slice p ys.length cp, .slice r es.length cr] 27)).alloc (.cells #[.bool false, .slice none 0 0, .slice none 0 0] 27)) (.cells #[.bool b, .slice a xs.length ca, .slice c ds.length cc, .bool g, .slice p ys.length cp, .slice r es.length cr] 27)
  replace FA := FA.below hq
  replace FB := FB.below hq
  replace EA := EA.below hq
  replace EB := EB.below hq
  replace ER := ER.below hq
  have LF := Box.put (w := (((w.alloc (.cells #[.bool b, .slice a xs.length ca, .slice c ds.length cc] 27)).alloc (.cells #[.bool g, .slice p ys.length cp, .slice r es.length cr] 27)).alloc (.cells #[.bool false, .slice none 0 0, .slice none 0 0] 27))) (k := (w.heap.size + 3)) (.cells #[.bool b, .slice a xs.length ca, .slice c ds.length cc, .bool g, .slice p ys.length cp, .slice r es.length cr] 27) (by simp)
  replace hs0 := Nat.le_trans hs0 hq.size
  replace hB := hB.trans (hq.mono hB.size)
  clear hq
  go_wp2_with fail
  obtain ⟨u1, hname⟩ := nm hB
  rw [hname] at hs0 hB FA FB EA EB ER LF ⊢
  have zh1 := hB.size
  have zs1 := hs0
  clear hname hs0
  have R := row_box (rs := [⟨b, a, ca, xs, c, cc, ds⟩, ⟨g, p, cp, ys, r, cr, es⟩]) (k := w.heap.size + 3) LF (fun r hr => by
      simp only [List.mem_cons, List.not_mem_nil, or_false] at hr
      rcases hr with rfl | rfl
      · exact FA.mono (Nat.zero_le _)
      · exact FB.mono (Nat.zero_le _))
  refine (kfine_any (cap := 2) R (by simp) hlen0.out false HG).mono ?_
  rintro e w2 ⟨rfl, hb⟩
  replace FA := FA.below hb
  replace FB := FB.below hb
  replace EA := EA.below hb
  replace EB := EB.below hb
  replace ER := ER.below hb
  replace LF := LF.below hb
  replace hB := hB.trans (hb.mono hB.size)
  have zz2 := hb.size
  have zh2 := hB.size
  clear hb
  clear R
  clear LF
  obtain ⟨k0, k1, k2, f0, f1, f2⟩ := EA.three
  obtain ⟨k3, k4, k5, f3, f4, f5⟩ := EB.three
  obtain ⟨k6, k7, k8, f6, f7, f8⟩ := ER.three
  have hcc := ER.three
  have r0 := hcc.1
  have r1 := hcc.2.1
  have r2 := hcc.2.2.1
  clear hcc
  have qEA := EA.lt
  have qEB := EB.lt
  have qER := ER.lt
  have hs0 := Nat.le_refl w2.heap.size
  have hT := turns3 (w.heap.size + 2) w2 (.bool false) (.slice none 0 0) (.slice none 0 0)
  replace FA := FA.beside ER (noWord3 (fun _ e => by cases e) (fun _ e => by cases e) (fun _ e => by cases e)) hT
  replace FB := FB.beside ER (noWord3 (fun _ e => by cases e) (fun _ e => by cases e) (fun _ e => by cases e)) hT
  replace EA := EA.turns hT (by omega)
  replace EB := EB.turns hT (by omega)
  replace ER := Box.set3 (.bool false) (.slice none 0 0) (.slice none 0 0) ER
  replace hB := hB.trans (hT.below.mono (by omega))
  replace hs0 := Nat.le_trans hs0 hT.below.size
  clear hT
  go_wp2
  refine bodyPost_ret (v := .tuple #[.agg #[.bool false, .slice none 0 0, .slice none 0 0], .int .i64 6]) (by simp [results, Tryz.f8, go_sem, r0, r1, r2]) rfl ?_
  exact ⟨rfl, hB⟩
set_option maxRecDepth 100000 in
set_option maxHeartbeats 4000000 in
theorem kdiv_no {lo lo2 : Nat} {a c p r : Option Addr} {ca cc cp cr : Nat} {xs ds ys es : List Int} {w : World} (b g : Bool) (FA : Fr lo w a ca xs c cc ds) (FB : Fr lo2 w p cp ys r cr es) (hla : xs.length ≤ 400 ∧ ds.length ≤ 400) (hlb : ys.length ≤ 400 ∧ es.length ≤ 400) (hno : ¬ (formR b xs ds = 0 ∧ formR g ys es = 0)) :
    Calls Tryz.prog 11 #[.agg #[.bool b, .slice a xs.length ca, .slice c ds.length cc], .agg #[.bool g, .slice p ys.length cp, .slice r es.length cr]] w fun e w' => e = .returned (.tuple #[.agg #[.bool false, .slice none 0 0, .slice none 0 0], .int .i64 6]) ∧ Below w.heap.size w w' := by
  have hlen0 : Hid (∀ x ∈ ([⟨b, a, ca, xs, c, cc, ds⟩, ⟨g, p, cp, ys, r, cr, es⟩] : List RV), x.xs.length ≤ 1000 ∧ x.ds.length ≤ 1000) := fun x hx => by
    simp only [List.mem_cons, List.not_mem_nil, or_false] at hx
    rcases hx with rfl | rfl <;> constructor <;> simp <;> omega
  have HG := good_no [⟨b, a, ca, xs, c, cc, ds⟩, ⟨g, p, cp, ys, r, cr, es⟩] (fun h => hno ⟨h _ (List.mem_cons_self ..), h _ (List.mem_cons_of_mem _ (List.mem_cons_self ..))⟩)
  have hB := Below.refl w.heap.size w
  clear hno
  go_enter Tryz.func11, Tryz.ntmps11
  have hs0 := Nat.le_refl w.heap.size
  have hq := below_new w (.cells #[.bool b, .slice a xs.length ca, .slice c ds.length cc] 27)
  replace FA := FA.below hq
  replace FB := FB.below hq
  have EA := Box.put (w := w) (k := (w.heap.size)) (.cells #[.bool b, .slice a xs.length ca, .slice c ds.length cc] 27) rfl
  replace hs0 := Nat.le_trans hs0 hq.size
  replace hB := hB.trans (hq.mono hB.size)
  clear hq
  have hq := below_new (w.alloc (.cells #[.bool b, .slice a xs.length ca, .slice c ds.length cc] 27)) (.cells #[.bool g, .slice p ys.length cp, .slice r es.length cr] 27)
  replace FA := FA.below hq
  replace FB := FB.below hq
  replace EA := EA.below hq
  have EB := Box.put (w := (w.alloc (.cells #[.bool b, .slice a xs.length ca, .slice c ds.length cc] 27))) (k := (w.heap.size + 1)) (.cells #[.bool g, .slice p ys.length cp, .slice r es.length cr] 27) (by simp)
  replace hs0 := Nat.le_trans hs0 hq.size
  replace hB := hB.trans (hq.mono hB.size)
  clear hq
  have hq := below_new ((w.alloc (.cells #[.bool b, .slice a xs.length ca, .slice c ds.length cc] 27)).alloc (.cells #[.bool g, .slice p ys.length cp, .slice r es.length cr] 27)) (.cells #[.bool false, .slice none 0 0, .slice none 0 0] 27)
  replace FA := FA.below hq
  replace FB := FB.below hq
  replace EA := EA.below hq
  replace EB := EB.below hq
  have ER := Box.put (w := ((w.alloc (.cells #[.bool b, .slice a xs.length ca, .slice c ds.length cc] 27)).alloc (.cells #[.bool g, .slice p ys.length cp, .slice r es.length cr] 27))) (k := (w.heap.size + 2)) (.cells #[.bool false, .slice none 0 0, .slice none 0 0] 27) (by simp)
  replace hs0 := Nat.le_trans hs0 hq.size
  replace hB := hB.trans (hq.mono hB.size)
  clear hq
  have hq := below_new (((w.alloc (.cells #[.bool b, .slice a xs.length ca, .slice c ds.length cc] 27)).alloc (.cells #[.bool g, .slice p ys.length cp, .slice r es.length cr] 27)).alloc (.cells #[.bool false, .slice none 0 0, .slice none 0 0] 27)) (.cells #[.bool b, .slice a xs.length ca, .slice c ds.length cc, .bool g, .slice p ys.length cp, .slice r es.length cr] 27)
  replace FA := FA.below hq
  replace FB := FB.below hq
  replace EA := EA.below hq
  replace EB := EB.below hq
  replace ER := ER.below hq
  have LF := Box.put (w := (((w.alloc (.cells #[.bool b, .slice a xs.length ca, .slice c ds.length cc] 27)).alloc (.cells #[.bool g, .slice p ys.length cp, .slice r es.length cr] 27)).alloc (.cells #[.bool false, .slice none 0 0, .slice none 0 0] 27))) (k := (w.heap.size + 3)) (.cells #[.bool b, .slice a xs.length ca, .slice c ds.length cc, .bool g, .slice p ys.length cp, .slice r es.length cr] 27) (by simp)
  replace hs0 := Nat.le_trans hs0 hq.size
  replace hB := hB.trans (hq.mono hB.size)
  clear hq
  go_wp2_with fail
  obtain ⟨u1, hname⟩ := nm hB
  rw [hname] at hs0 hB FA FB EA EB ER LF ⊢
  have zh1 := hB.size
  have zs1 := hs0
  clear hname hs0
  have R := row_box (rs := [⟨b, a, ca, xs, c, cc, ds⟩, ⟨g, p, cp, ys, r, cr, es⟩]) (k := w.heap.size + 3) LF (fun r hr => by
      simp only [List.mem_cons, List.not_mem_nil, or_false] at hr
      rcases hr with rfl | rfl
      · exact FA.mono (Nat.zero_le _)
      · exact FB.mono (Nat.zero_le _))
  refine (kfine_any (cap := 2) R (by simp) hlen0.out false HG).mono ?_
  rintro e w2 ⟨rfl, hb⟩
  replace FA := FA.below hb
  replace FB := FB.below hb
  replace EA := EA.below hb
  replace EB := EB.below hb
  replace ER := ER.below hb
  replace LF := LF.below hb
  replace hB := hB.trans (hb.mono hB.size)
  have zz2 := hb.size
  have zh2 := hB.size
  clear hb
  clear R
  clear LF
  obtain ⟨k0, k1, k2, f0, f1, f2⟩ := EA.three
  obtain ⟨k3, k4, k5, f3, f4, f5⟩ := EB.three
  obtain ⟨k6, k7, k8, f6, f7, f8⟩ := ER.three
  have hcc := ER.three
  have r0 := hcc.1
  have r1 := hcc.2.1
  have r2 := hcc.2.2.1
  clear hcc
  have qEA := EA.lt
  have qEB := EB.lt
  have qER := ER.lt
  have hs0 := Nat.le_refl w2.heap.size
  have hT := turns3 (w.heap.size + 2) w2 (.bool false) (.slice none 0 0) (.slice none 0 0)
  replace FA := FA.beside ER (noWord3 (fun _ e => by cases e) (fun _ e => by cases e) (fun _ e => by cases e)) hT
  replace FB := FB.beside ER (noWord3 (fun _ e => by cases e) (fun _ e => by cases e) (fun _ e => by cases e)) hT
  replace EA := EA.turns hT (by omega)
  replace EB := EB.turns hT (by omega)
  replace ER := Box.set3 (.bool false) (.slice none 0 0) (.slice none 0 0) ER
  replace hB := hB.trans (hT.below.mono (by omega))
  replace hs0 := Nat.le_trans hs0 hT.below.size
  clear hT
  go_wp2
  refine bodyPost_ret (v := .tuple #[.agg #[.bool false, .slice none 0 0, .slice none 0 0], .int .i64 6]) (by simp [results, Tryz.f11, go_sem, r0, r1, r2]) rfl ?_
  exact ⟨rfl, hB⟩
set_option maxRecDepth 100000 in
set_option maxHeartbeats 4000000 in
theorem kcmp_no {lo lo2 : Nat} {a c p r : Option Addr} {ca cc cp cr : Nat} {xs ds ys es : List Int} {w : World} (b g : Bool) (FA : Fr lo w a ca xs c cc ds) (FB : Fr lo2 w p cp ys r cr es) (hla : xs.length ≤ 400 ∧ ds.length ≤ 400) (hlb : ys.length ≤ 400 ∧ es.length ≤ 400) (hno : ¬ (formR b xs ds = 0 ∧ formR g ys es = 0)) :
    Calls Tryz.prog 15 #[.agg #[.bool b, .slice a xs.length ca, .slice c ds.length cc], .agg #[.bool g, .slice p ys.length cp, .slice r es.length cr]] w fun e w' => e = .returned (.tuple #[.int .i64 0, .int .i64 6]) ∧ Below w.heap.size w w' := by
  have hlen0 : Hid (∀ x ∈ ([⟨b, a, ca, xs, c, cc, ds⟩, ⟨g, p, cp, ys, r, cr, es⟩] : List RV), x.xs.length ≤ 1000 ∧ x.ds.length ≤ 1000) := fun x hx => by
    simp only [List.mem_cons, List.not_mem_nil, or_false] at hx
    rcases hx with rfl | rfl <;> constructor <;> simp <;> omega
  have HG := good_no [⟨b, a, ca, xs, c, cc, ds⟩, ⟨g, p, cp, ys, r, cr, es⟩] (fun h => hno ⟨h _ (List.mem_cons_self ..), h _ (List.mem_cons_of_mem _ (List.mem_cons_self ..))⟩)
  have hB := Below.refl w.heap.size w
  clear hno
  go_enter Tryz.func15, Tryz.ntmps15
  have hs0 := Nat.le_refl w.heap.size
  have hq := below_new w (.cells #[.bool b, .slice a xs.length ca, .slice c ds.length cc] 27)
  replace FA := FA.below hq
  replace FB := FB.below hq
  have EA := Box.put (w := w) (k := (w.heap.size)) (.cells #[.bool b, .slice a xs.length ca, .slice c ds.length cc] 27) rfl
  replace hs0 := Nat.le_trans hs0 hq.size
  replace hB := hB.trans (hq.mono hB.size)
  clear hq
  have hq := below_new (w.alloc (.cells #[.bool b, .slice a xs.length ca, .slice c ds.length cc] 27)) (.cells #[.bool g, .slice p ys.length cp, .slice r es.length cr] 27)
  replace FA := FA.below hq
  replace FB := FB.below hq
  replace EA := EA.below hq
  have EB := Box.put (w := (w.alloc (.cells #[.bool b, .slice a xs.length ca, .slice c ds.length cc] 27))) (k := (w.heap.size + 1)) (.cells #[.bool g, .slice p ys.length cp, .slice r es.length cr] 27) (by simp)
  replace hs0 := Nat.le_trans hs0 hq.size
  replace hB := hB.trans (hq.mono hB.size)
  clear hq
  have hq := below_new ((w.alloc (.cells #[.bool b, .slice a xs.length ca, .slice c ds.length cc] 27)).alloc (.cells #[.bool g, .slice p ys.length cp, .slice r es.length cr] 27)) (.cells #[.bool b, .slice a xs.length ca, .slice c ds.length cc, .bool g, .slice p ys.length cp, .slice r es.length cr] 27)
  replace FA := FA.below hq
  replace FB := FB.below hq
  replace EA := EA.below hq
  replace EB := EB.below hq
  have LF := Box.put (w := ((w.alloc (.cells #[.bool b, .slice a xs.length ca, .slice c ds.length cc] 27)).alloc (.cells #[.bool g, .slice p ys.length cp, .slice r es.length cr] 27))) (k := (w.heap.size + 2)) (.cells #[.bool b, .slice a xs.length ca, .slice c ds.length cc, .bool g, .slice p ys.length cp, .slice r es.length cr] 27) (by simp)
  replace hs0 := Nat.le_trans hs0 hq.size
  replace hB := hB.trans (hq.mono hB.size)
  clear hq
  go_wp2_with fail
  obtain ⟨u1, hname⟩ := nm hB
  rw [hname] at hs0 hB FA FB EA EB LF ⊢
  have zh1 := hB.size
  have zs1 := hs0
  clear hname hs0
  have R := row_box (rs := [⟨b, a, ca, xs, c, cc, ds⟩, ⟨g, p, cp, ys, r, cr, es⟩]) (k := w.heap.size + 2) LF (fun r hr => by
      simp only [List.mem_cons, List.not_mem_nil, or_false] at hr
      rcases hr with rfl | rfl
      · exact FA.mono (Nat.zero_le _)
      · exact FB.mono (Nat.zero_le _))
  refine (kfine_any (cap := 2) R (by simp) hlen0.out false HG).mono ?_
  rintro e w2 ⟨rfl, hb⟩
  replace FA := FA.below hb
  replace FB := FB.below hb
  replace EA := EA.below hb
  replace EB := EB.below hb
  replace LF := LF.below hb
  replace hB := hB.trans (hb.mono hB.size)
  have zz2 := hb.size
  have zh2 := hB.size
  clear hb
  clear R
  clear LF
  obtain ⟨k0, k1, k2, f0, f1, f2⟩ := EA.three
  obtain ⟨k3, k4, k5, f3, f4, f5⟩ := EB.three
  go_wp2
  go_ret2
  exact ⟨rfl, hB⟩
set_option maxRecDepth 100000 in
set_option maxHeartbeats 4000000 in
theorem ksub_ok {lo lo2 : Nat} {a c p r : Option Addr} {ca cc cp cr : Nat} {xs ds ys es : List Int} {w : World} {n m : Nat} {q s : Rat} (b g : Bool) (FA : Fr lo w a ca xs c cc ds) (FB : Fr lo2 w p cp ys r cr es) (IA : Is b xs ds q n) (IB : Is g ys es s m) (hn : n + m ≤ 400) :
    Calls Tryz.prog 8 #[.agg #[.bool b, .slice a xs.length ca, .slice c ds.length cc], .agg #[.bool g, .slice p ys.length cp, .slice r es.length cr]] w fun e w' => ∃ (b' : Bool) (a' : Option Addr) (ca' : Nat) (ts' : List Int) (c' : Option Addr) (cc' : Nat) (es' : List Int), e = .returned (.tuple #[.agg #[.bool b', .slice a' ts'.length ca', .slice c' es'.length cc'], .int .i64 0]) ∧ Fr w.heap.size w' a' ca' ts' c' cc' es' ∧ Apart a' c' ts' es' ∧ Is b' ts' es' (q - s) (n + m + 1) ∧ Below w.heap.size w w' := by
  have lxa := IA.lu
  have lda := IA.ld
  have lxb := IB.lu
  have ldb := IB.ld
  have hlen0 : Hid (∀ x ∈ ([⟨b, a, ca, xs, c, cc, ds⟩, ⟨g, p, cp, ys, r, cr, es⟩] : List RV), x.xs.length ≤ 1000 ∧ x.ds.length ≤ 1000) := fun x hx => by
    simp only [List.mem_cons, List.not_mem_nil, or_false] at hx
    rcases hx with rfl | rfl <;> constructor <;> simp <;> omega
  have HG := good_yes [⟨b, a, ca, xs, c, cc, ds⟩, ⟨g, p, cp, ys, r, cr, es⟩] (fun x hx => by
    simp only [List.mem_cons, List.not_mem_nil, or_false] at hx
    rcases hx with rfl | rfl
    · exact (formR_low FA.up.words FA.down.words).2 IA.low
    · exact (formR_low FB.up.words FB.down.words).2 IB.low)
  have hB := Below.refl w.heap.size w
  obtain ⟨Q, hQ⟩ : ∃ Q, q - s = Q := ⟨_, rfl⟩
  rw [hQ]
  have HQ : Hid (q + -s = Q) := by rw [Hid, ← hQ, Rat.sub_eq_add_neg]
  clear hQ
  go_enter Tryz.func8, Tryz.ntmps8
  have hs0 := Nat.le_refl w.heap.size
  have hq := below_new w (.cells #[.bool b, .slice a xs.length ca, .slice c ds.length cc] 27)
  replace FA := FA.below hq
  replace FB := FB.below hq
  have EA := Box.put (w := w) (k := (w.heap.size)) (.cells #[.bool b, .slice a xs.length ca, .slice c ds.length cc] 27) rfl
  replace hs0 := Nat.le_trans hs0 hq.size
  replace hB := hB.trans (hq.mono hB.size)
  clear hq
  have hq := below_new (w.alloc (.cells #[.bool b, .slice a xs.length ca, .slice c ds.length cc] 27)) (.cells #[.bool g, .slice p ys.length cp, .slice r es.length cr] 27)
  replace FA := FA.below hq
  replace FB := FB.below hq
  replace EA := EA.below hq
  have EB := Box.put (w := (w.alloc (.cells #[.bool b, .slice a xs.length ca, .slice c ds.length cc] 27))) (k := (w.heap.size + 1)) (.cells #[.bool g, .slice p ys.length cp, .slice r es.length cr] 27) (by simp)
  replace hs0 := Nat.le_trans hs0 hq.size
  replace hB := hB.trans (hq.mono hB.size)
  clear hq
  have hq := below_new ((w.alloc (.cells #[.bool b, .slice a xs.length ca, .slice c ds.length cc] 27)).alloc (.cells #[.bool g, .slice p ys.length cp, .slice r es.length cr] 27)) (.cells #[.bool false, .slice none 0 0, .slice none 0 0] 27)
  replace FA := FA.below hq
  replace FB := FB.below hq
  replace EA := EA.below hq
  replace EB := EB.below hq
  have ER := Box.put (w := ((w.alloc (.cells #[.bool b, .slice a xs.length ca, .slice c ds.length cc] 27)).alloc (.cells #[.bool g, .slice p ys.length cp, .slice r es.length cr] 27))) (k := (w.heap.size + 2)) (.cells #[.bool false, .slice none 0 0, .slice none 0 0] 27) (by simp)
  replace hs0 := Nat.le_trans hs0 hq.size
  replace hB := hB.trans (hq.mono hB.size)
  clear hq
  have hq := below_new (((w.alloc (.cells #[.bool b, .slice a xs.length ca, .slice c ds.length cc] 27)).alloc (.cells #[.bool g, .slice p ys.length cp, .slice r es.length cr] 27)).alloc (.cells #[.bool false, .slice none 0 0, .slice none 0 0] 27)) (.cells #[.bool b, .slice a xs.length ca, .slice c ds.length cc, .bool g, .slice p ys.length cp, .slice r es.length cr] 27)
  replace FA := FA.below hq
  replace FB := FB.below hq
  replace EA := EA.below hq
  replace EB := EB.below hq
  replace ER := ER.below hq
  have LF := Box.put (w := (((w.alloc (.cells #[.bool b, .slice a xs.length ca, .slice c ds.length cc] 27)).alloc (.cells #[.bool g, .slice p ys.length cp, .slice r es.length cr] 27)).alloc (.cells #[.bool false, .slice none 0 0, .slice none 0 0] 27))) (k := (w.heap.size + 3)) (.cells #[.bool b, .slice a xs.length ca, .slice c ds.length cc, .bool g, .slice p ys.length cp, .slice r es.length cr] 27) (by simp)
  replace hs0 := Nat.le_trans hs0 hq.size
  replace hB := hB.trans (hq.mono hB.size)
  clear hq
  go_wp2_with fail
  obtain ⟨u1, hname⟩ := nm hB
  rw [hname] at hs0 hB FA FB EA EB ER LF ⊢
  have zh1 := hB.size
  have zs1 := hs0
  clear hname hs0
  have R := row_box (rs := [⟨b, a, ca, xs, c, cc, ds⟩, ⟨g, p, cp, ys, r, cr, es⟩]) (k := w.heap.size + 3) LF (fun r hr => by
      simp only [List.mem_cons, List.not_mem_nil, or_false] at hr
      rcases hr with rfl | rfl
      · exact FA.mono (Nat.zero_le _)
      · exact FB.mono (Nat.zero_le _))
  refine (kfine_any (cap := 2) R (by simp) hlen0.out true HG).mono ?_
  rintro e w2 ⟨rfl, hb⟩
  replace FA := FA.below hb
  replace FB := FB.below hb
  replace EA := EA.below hb
  replace EB := EB.below hb
  replace ER := ER.below hb
  replace LF := LF.below hb
  replace hB := hB.trans (hb.mono hB.size)
  have zz2 := hb.size
  have zh2 := hB.size
  clear hb
  clear R
  clear LF
  obtain ⟨k0, k1, k2, f0, f1, f2⟩ := EA.three
  obtain ⟨k3, k4, k5, f3, f4, f5⟩ := EB.three
  obtain ⟨k6, k7, k8, f6, f7, f8⟩ := ER.three
  go_wp2_with fail
  clear k0 k1 k2 f0 f1 f2 k3 k4 k5 f3 f4 f5 k6 k7 k8 f6 f7 f8
  replace FA := FA.drew
  replace FB := FB.drew
  have qEA := EA.lt
  replace EA := EA.drew
  have qEB := EB.lt
  replace EB := EB.drew
  have qER := ER.lt
  replace ER := ER.drew
  refine wp_yields 8 [.is (.agg #[.bool b, .slice a xs.length ca, .slice c ds.length cc]), .is (.pointer (some ⟨w.heap.size + 1, 0, none⟩)), .is (.agg #[.bool g, .slice p ys.length cp]), (Yield.int w2.heap.size (-sgn g (val ys)) (m)), .is (.pointer (some ⟨w.heap.size + 1, 2, none⟩)), .is (.slice r es.length cr), (Yield.intIn (fun g s => .agg #[.bool g, s, .slice r es.length cr]) w2.heap.size (-sgn g (val ys)) (m)), (Yield.frac w2.heap.size (Q) (n + m + 1))] (by kernel_rfl) (by kernel_rfl) (lt_cons ?_ (lt_cons ?_ (lt_cons ?_ (lt_cons ?_ (lt_cons ?_ (lt_cons ?_ (lt_cons ?_ (lt_cons ?_ lt_nil)))))))) ?_
  case refine_1 =>
    refine OpDoes.mk rfl ?_
    intro vs V hV hd K hK
    have d0 : vs 0 = .agg #[.bool b, .slice a xs.length ca, .slice c ds.length cc] := hd 0 (by decide) (by kernel_rfl)
    have hh := fun (P : Prop) => Yield.intIn_elim P (show ((Yield.intIn (fun g s => .agg #[.bool g, s, .slice r es.length cr]) w2.heap.size (-sgn g (val ys)) (m)) : Yield).At (vs 6) V from hd 6 (by decide) (by kernel_rfl))
    refine hh _ ?_
    intro g3 a3 c3 z3 d6 S3 N3 V3 b3
    clear hh
    simp only [laidIn, lz1, lz2, lz3, lz4, lz5, lz6, if_true, Act.put, lz7, lz8, lz9] at hK ⊢
    simp only [d0, d6] at hK ⊢
    go_simp
    go_at_call 33
    refine (ksum_any b g3 (FA.below hV) ⟨S3.mono (Nat.zero_le _), (FB.below hV).down.mono (Nat.zero_le _)⟩ IA (IB.neg N3 V3.out (by omega)) (by omega)).mono ?_
    rintro e V' ⟨g2, a2, c2, x2, e2, t2, y2, rfl, F2, P2, I2, hb⟩
    replace I2 : Is g2 x2 y2 (Q) (n + m + 1) := I2.to HQ.out
    exact hK.out _ _ hb ⟨_, _, _, _, _, _, _, rfl, F2.mono hV.size, P2, I2⟩ (not_fresh rfl)
  case refine_2 =>
    refine OpDoes.mk rfl ?_
    intro vs V hV hd K hK
    have hh := fun (P : Prop) => Yield.int_elim P (show ((Yield.int w2.heap.size (-sgn g (val ys)) (m)) : Yield).At (vs 3) V from hd 3 (by decide) (by kernel_rfl))
    refine hh _ ?_
    intro g1 a1 c1 z1 d3 S1 N1 V1 b1
    clear hh
    have d5 : vs 5 = .slice r es.length cr := hd 5 (by decide) (by kernel_rfl)
    simp only [laidIn, lz1, lz2, lz3, lz4, lz5, lz6, if_true, Act.put, lz7, lz8, lz9] at hK ⊢
    simp only [d3, d5] at hK ⊢
    go_simp
    exact hK.out _ _ (Below.refl _ _) ⟨_, _, _, _, rfl, S1, N1, V1, b1⟩ (not_fresh rfl)
  case refine_3 =>
    refine OpDoes.mk rfl ?_
    intro vs V hV hd K hK
    have d4 : vs 4 = .pointer (some ⟨w.heap.size + 1, 2, none⟩) := hd 4 (by decide) (by kernel_rfl)
    have hcc := (EB.below hV).three
    have k0 := hcc.1
    have k1 := hcc.2.1
    have k2 := hcc.2.2.1
    clear hcc
    simp only [laidIn, lz1, lz2, lz3, lz4, lz5, lz6, if_true, Act.put, lz7, lz8, lz9] at hK ⊢
    simp only [d4] at hK ⊢
    go_simp
    exact hK.out _ _ (Below.refl _ _) rfl (not_fresh rfl)
  case refine_4 =>
    refine OpDoes.mk rfl ?_
    intro vs V hV hd K hK
    simp only [laidIn, lz1, lz2, lz3, lz4, lz5, lz6, if_true, Act.put, lz7, lz8, lz9] at hK ⊢
    go_simp
    exact hK.out _ _ (Below.refl _ _) rfl (not_fresh rfl)
  case refine_5 =>
    refine OpDoes.mk rfl ?_
    intro vs V hV hd K hK
    have d2 : vs 2 = .agg #[.bool g, .slice p ys.length cp] := hd 2 (by decide) (by kernel_rfl)
    simp only [laidIn, lz1, lz2, lz3, lz4, lz5, lz6, if_true, Act.put, lz7, lz8, lz9] at hK ⊢
    simp only [d2] at hK ⊢
    go_simp
    go_at_call 34
    refine (ineg_any g (FB.up.below hV) (by omega)).mono ?_
    rintro e V' ⟨g1, a1, c1, z1, rfl, S1, N1, v1, l1, hb⟩
    have V1 : Hid (sgn g1 (val z1) = -sgn g (val ys)) := v1
    have b1 : z1.length ≤ m := by omega
    clear v1 l1
    exact hK.out _ _ hb ⟨_, _, _, _, rfl, S1.mono hV.size, N1, V1, b1⟩ (not_fresh rfl)
  case refine_6 =>
    refine OpDoes.mk rfl ?_
    intro vs V hV hd K hK
    have d1 : vs 1 = .pointer (some ⟨w.heap.size + 1, 0, none⟩) := hd 1 (by decide) (by kernel_rfl)
    have hcc := (EB.below hV).three
    have k0 := hcc.1
    have k1 := hcc.2.1
    have k2 := hcc.2.2.1
    clear hcc
    simp only [laidIn, lz1, lz2, lz3, lz4, lz5, lz6, if_true, Act.put, lz7, lz8, lz9] at hK ⊢
    simp only [d1] at hK ⊢
    go_simp
    exact hK.out _ _ (Below.refl _ _) rfl (not_fresh rfl)
  case refine_7 =>
    refine OpDoes.mk rfl ?_
    intro vs V hV hd K hK
    simp only [laidIn, lz1, lz2, lz3, lz4, lz5, lz6, if_true, Act.put, lz7, lz8, lz9] at hK ⊢
    go_simp
    exact hK.out _ _ (Below.refl _ _) rfl (not_fresh rfl)
  case refine_8 =>
    refine OpDoes.mk rfl ?_
    intro vs V hV hd K hK
    have hcc := (EA.below hV).three
    have k0 := hcc.1
    have k1 := hcc.2.1
    have k2 := hcc.2.2.1
    clear hcc
    simp only [laidIn, lz1, lz2, lz4, lz5, lz6, if_true, Act.put, lz7, lz8, lz9] at hK ⊢
    go_simp
    exact hK.out _ _ (Below.refl _ _) rfl (not_fresh rfl)
  case refine_9 =>
    intro vs Y1 hV hR hne fuel
    have d0 : vs 0 = .agg #[.bool b, .slice a xs.length ca, .slice c ds.length cc] := hR 0 (by decide)
    have d1 : vs 1 = .pointer (some ⟨w.heap.size + 1, 0, none⟩) := hR 1 (by decide)
    have d2 : vs 2 = .agg #[.bool g, .slice p ys.length cp] := hR 2 (by decide)
    have hh := fun (P : Prop) => Yield.int_elim P (show ((Yield.int w2.heap.size (-sgn g (val ys)) (m)) : Yield).At (vs 3) Y1 from hR 3 (by decide))
    refine hh _ ?_
    intro g1 a1 c1 z1 d3 S1 N1 V1 b1
    clear hh
    have d4 : vs 4 = .pointer (some ⟨w.heap.size + 1, 2, none⟩) := hR 4 (by decide)
    have d5 : vs 5 = .slice r es.length cr := hR 5 (by decide)
    have hh := fun (P : Prop) => Yield.intIn_elim P (show ((Yield.intIn (fun g s => .agg #[.bool g, s, .slice r es.length cr]) w2.heap.size (-sgn g (val ys)) (m)) : Yield).At (vs 6) Y1 from hR 6 (by decide))
    refine hh _ ?_
    intro g3 a3 c3 z3 d6 S3 N3 V3 b3
    clear hh
    have hh := fun (P : Prop) => Yield.frac_elim P (show ((Yield.frac w2.heap.size (Q) (n + m + 1)) : Yield).At (vs 7) Y1 from hR 7 (by decide))
    refine hh _ ?_
    intro g2 a2 c2 x2 e2 t2 y2 d7 F2 P2 I2
    clear hh
    replace FA := FA.below hV
    replace FB := FB.below hV
    replace EA := EA.below hV
    replace EB := EB.below hV
    replace ER := ER.below hV
    have hr := hV
    simp only [laidIn, lz4, lz5, lz6, if_true, Act.put, lz7, lz8, lz9]
    simp only [d0, d1, d2, d3, d4, d5, d6, d7]
    clear hR hne hV d0 d1 d2 d3 d4 d5 d6 d7
    clear vs
    show wpAny _ _ _ _ (fuel + 2) _ _ _
    refine wpAny_all (rs := [8]) (by kernel_rfl) (by simp) (fun i hi => ?_)
    obtain rfl : i = 8 := by simpa using hi
    clear hi
    have hcc := ER.three
    have k0 := hcc.1
    have k1 := hcc.2.1
    have k2 := hcc.2.2.1
    have f0 := hcc.2.2.2.1
    have f1 := hcc.2.2.2.2.1
    have f2 := hcc.2.2.2.2.2
    clear hcc
    refine wpOp_step rfl (fun K hK => ?_)
    simp only [lz1, lz2, lz3]
    rw [if_pos (by rfl)]
    go_simp
    refine hK _ _ ?_
    clear hK k0 f0 k1 f1 k2 f2
    have hT := turns3 (w.heap.size + 2) Y1 (.bool g2) (.slice a2 x2.length c2) (.slice e2 y2.length t2)
    replace FA := FA.beside ER (noWord3 (fun _ e => by cases e) (fun _ e => by cases e) (fun _ e => by cases e)) hT
    replace FB := FB.beside ER (noWord3 (fun _ e => by cases e) (fun _ e => by cases e) (fun _ e => by cases e)) hT
    replace EA := EA.turns hT (by omega)
    replace EB := EB.turns hT (by omega)
    replace S1 := S1.beside ER (noWord3 (fun _ e => by cases e) (fun _ e => by cases e) (fun _ e => by cases e)) hT
    replace S3 := S3.beside ER (noWord3 (fun _ e => by cases e) (fun _ e => by cases e) (fun _ e => by cases e)) hT
    replace F2 := F2.beside ER (noWord3 (fun _ e => by cases e) (fun _ e => by cases e) (fun _ e => by cases e)) hT
    replace ER := Box.set3 (.bool g2) (.slice a2 x2.length c2) (.slice e2 y2.length t2) ER
    have hr8 := hT.below
    obtain ⟨X1, hX⟩ := nm hT.below
    rw [hX] at FA FB EA EB ER S1 S3 F2 hr8 ⊢
    clear hX hT
    refine wpAny_all (rs := [9]) (by kernel_rfl) (by simp) (fun i hi => ?_)
    obtain rfl : i = 9 := by simpa using hi
    clear hi
    refine wpOp_step rfl (fun K hK => ?_)
    simp only [lz1, lz2, lz3]
    rw [if_pos (by rfl)]
    go_simp
    refine hK _ _ ?_
    clear hK
    refine wpAny_done (by kernel_rfl) ?_ _
    replace hB := hB.trans ((Below.trans (Below.drew (Below.refl w2.heap.size w2)) hr).mono hB.size)
    replace hB := hB.trans (hr8.mono (by omega))
    have zz2_1 := hr.size
    have zi1 := hB.size
    have zy1_8 := hr8.size
    clear hr hr8
    obtain ⟨k0, k1, k2, f0, f1, f2⟩ := EA.three
    obtain ⟨k3, k4, k5, f3, f4, f5⟩ := EB.three
    obtain ⟨k6, k7, k8, f6, f7, f8⟩ := ER.three
    have hcc := ER.three
    have r0 := hcc.1
    have r1 := hcc.2.1
    have r2 := hcc.2.2.1
    clear hcc
    go_wp2
    refine bodyPost_ret (v := .tuple #[.agg #[.bool g2, .slice a2 x2.length c2, .slice e2 y2.length t2], .int .i64 0]) (by simp [results, Tryz.f8, go_sem, r0, r1, r2]) rfl ?_
    exact ⟨_, _, _, _, _, _, _, rfl, F2.mono (by omega), P2, I2, hB⟩
set_option maxRecDepth 100000 in
set_option maxHeartbeats 4000000 in
theorem kdiv_zero {lo lo2 : Nat} {a c p r : Option Addr} {ca cc cp cr : Nat} {xs ds ys es : List Int} {w : World} {n m : Nat} {q s : Rat} (b g : Bool) (FA : Fr lo w a ca xs c cc ds) (FB : Fr lo2 w p cp ys r cr es) (IA : Is b xs ds q n) (IB : Is g ys es s m) (hys : ys = []) (hn : n + m ≤ 400) :
    Calls Tryz.prog 11 #[.agg #[.bool b, .slice a xs.length ca, .slice c ds.length cc], .agg #[.bool g, .slice p ys.length cp, .slice r es.length cr]] w fun e w' => e = .returned (.tuple #[.agg #[.bool false, .slice none 0 0, .slice none 0 0], .int .i64 5]) ∧ Below w.heap.size w w' := by
  have lxa := IA.lu
  have lda := IA.ld
  have lxb := IB.lu
  have ldb := IB.ld
  have hlen0 : Hid (∀ x ∈ ([⟨b, a, ca, xs, c, cc, ds⟩, ⟨g, p, cp, ys, r, cr, es⟩] : List RV), x.xs.length ≤ 1000 ∧ x.ds.length ≤ 1000) := fun x hx => by
    simp only [List.mem_cons, List.not_mem_nil, or_false] at hx
    rcases hx with rfl | rfl <;> constructor <;> simp <;> omega
  have HG := good_yes [⟨b, a, ca, xs, c, cc, ds⟩, ⟨g, p, cp, ys, r, cr, es⟩] (fun x hx => by
    simp only [List.mem_cons, List.not_mem_nil, or_false] at hx
    rcases hx with rfl | rfl
    · exact (formR_low FA.up.words FA.down.words).2 IA.low
    · exact (formR_low FB.up.words FB.down.words).2 IB.low)
  have hB := Below.refl w.heap.size w
  have hz : ((ys.length : Int) == 0) = true := by rw [hys]; rfl
  clear hys
  go_enter Tryz.func11, Tryz.ntmps11
  have hs0 := Nat.le_refl w.heap.size
  have hq := below_new w (.cells #[.bool b, .slice a xs.length ca, .slice c ds.length cc] 27)
  replace FA := FA.below hq
  replace FB := FB.below hq
  have EA := Box.put (w := w) (k := (w.heap.size)) (.cells #[.bool b, .slice a xs.length ca, .slice c ds.length cc] 27) rfl
  replace hs0 := Nat.le_trans hs0 hq.size
  replace hB := hB.trans (hq.mono hB.size)
  clear hq
  have hq := below_new (w.alloc (.cells #[.bool b, .slice a xs.length ca, .slice c ds.length cc] 27)) (.cells #[.bool g, .slice p ys.length cp, .slice r es.length cr] 27)
  replace FA := FA.below hq
  replace FB := FB.below hq
  replace EA := EA.below hq
  have EB := Box.put (w := (w.alloc (.cells #[.bool b, .slice a xs.length ca, .slice c ds.length cc] 27))) (k := (w.heap.size + 1)) (.cells #[.bool g, .slice p ys.length cp, .slice r es.length cr] 27) (by simp)
  replace hs0 := Nat.le_trans hs0 hq.size
  replace hB := hB.trans (hq.mono hB.size)
  clear hq
  have hq := below_new ((w.alloc (.cells #[.bool b, .slice a xs.length ca, .slice c ds.length cc] 27)).alloc (.cells #[.bool g, .slice p ys.length cp, .slice r es.length cr] 27)) (.cells #[.bool false, .slice none 0 0, .slice none 0 0] 27)
  replace FA := FA.below hq
  replace FB := FB.below hq
  replace EA := EA.below hq
  replace EB := EB.below hq
  have ER := Box.put (w := ((w.alloc (.cells #[.bool b, .slice a xs.length ca, .slice c ds.length cc] 27)).alloc (.cells #[.bool g, .slice p ys.length cp, .slice r es.length cr] 27))) (k := (w.heap.size + 2)) (.cells #[.bool false, .slice none 0 0, .slice none 0 0] 27) (by simp)
  replace hs0 := Nat.le_trans hs0 hq.size
  replace hB := hB.trans (hq.mono hB.size)
  clear hq
  have hq := below_new (((w.alloc (.cells #[.bool b, .slice a xs.length ca, .slice c ds.length cc] 27)).alloc (.cells #[.bool g, .slice p ys.length cp, .slice r es.length cr] 27)).alloc (.cells #[.bool false, .slice none 0 0, .slice none 0 0] 27)) (.cells #[.bool b, .slice a xs.length ca, .slice c ds.length cc, .bool g, .slice p ys.length cp, .slice r es.length cr] 27)
  replace FA := FA.below hq
  replace FB := FB.below hq
  replace EA := EA.below hq
  replace EB := EB.below hq
  replace ER := ER.below hq
  have LF := Box.put (w := (((w.alloc (.cells #[.bool b, .slice a xs.length ca, .slice c ds.length cc] 27)).alloc (.cells #[.bool g, .slice p ys.length cp, .slice r es.length cr] 27)).alloc (.cells #[.bool false, .slice none 0 0, .slice none 0 0] 27))) (k := (w.heap.size + 3)) (.cells #[.bool b, .slice a xs.length ca, .slice c ds.length cc, .bool g, .slice p ys.length cp, .slice r es.length cr] 27) (by simp)
  replace hs0 := Nat.le_trans hs0 hq.size
  replace hB := hB.trans (hq.mono hB.size)
  clear hq
  go_wp2_with fail
  obtain ⟨u1, hname⟩ := nm hB
  rw [hname] at hs0 hB FA FB EA EB ER LF ⊢
  have zh1 := hB.size
  have zs1 := hs0
  clear hname hs0
  have R := row_box (rs := [⟨b, a, ca, xs, c, cc, ds⟩, ⟨g, p, cp, ys, r, cr, es⟩]) (k := w.heap.size + 3) LF (fun r hr => by
      simp only [List.mem_cons, List.not_mem_nil, or_false] at hr
      rcases hr with rfl | rfl
      · exact FA.mono (Nat.zero_le _)
      · exact FB.mono (Nat.zero_le _))
  refine (kfine_any (cap := 2) R (by simp) hlen0.out true HG).mono ?_
  rintro e w2 ⟨rfl, hb⟩
  replace FA := FA.below hb
  replace FB := FB.below hb
  replace EA := EA.below hb
  replace EB := EB.below hb
  replace ER := ER.below hb
  replace LF := LF.below hb
  replace hB := hB.trans (hb.mono hB.size)
  have zz2 := hb.size
  have zh2 := hB.size
  clear hb
  clear R
  clear LF
  obtain ⟨k0, k1, k2, f0, f1, f2⟩ := EA.three
  obtain ⟨k3, k4, k5, f3, f4, f5⟩ := EB.three
  obtain ⟨k6, k7, k8, f6, f7, f8⟩ := ER.three
  have hcc := ER.three
  have r0 := hcc.1
  have r1 := hcc.2.1
  have r2 := hcc.2.2.1
  clear hcc
  have qEA := EA.lt
  have qEB := EB.lt
  have qER := ER.lt
  have hs0 := Nat.le_refl w2.heap.size
  have hT := turns3 (w.heap.size + 2) w2 (.bool false) (.slice none 0 0) (.slice none 0 0)
  replace FA := FA.beside ER (noWord3 (fun _ e => by cases e) (fun _ e => by cases e) (fun _ e => by cases e)) hT
  replace FB := FB.beside ER (noWord3 (fun _ e => by cases e) (fun _ e => by cases e) (fun _ e => by cases e)) hT
  replace EA := EA.turns hT (by omega)
  replace EB := EB.turns hT (by omega)
  replace ER := Box.set3 (.bool false) (.slice none 0 0) (.slice none 0 0) ER
  replace hB := hB.trans (hT.below.mono (by omega))
  replace hs0 := Nat.le_trans hs0 hT.below.size
  clear hT
  go_wp2
  refine bodyPost_ret (v := .tuple #[.agg #[.bool false, .slice none 0 0, .slice none 0 0], .int .i64 5]) (by simp [results, Tryz.f11, go_sem, r0, r1, r2]) rfl ?_
  exact ⟨rfl, hB⟩
set_option maxRecDepth 100000 in
set_option maxHeartbeats 4000000 in
theorem kdiv_ok {lo lo2 : Nat} {a c p r : Option Addr} {ca cc cp cr : Nat} {xs ds ys es : List Int} {w : World} {n m : Nat} {q s : Rat} (b g : Bool) (FA : Fr lo w a ca xs c cc ds) (FB : Fr lo2 w p cp ys r cr es) (IA : Is b xs ds q n) (IB : Is g ys es s m) (HX : Hid (ys ≠ [])) (hn : n + m ≤ 400) :
    Calls Tryz.prog 11 #[.agg #[.bool b, .slice a xs.length ca, .slice c ds.length cc], .agg #[.bool g, .slice p ys.length cp, .slice r es.length cr]] w fun e w' => ∃ (b' : Bool) (a' : Option Addr) (ca' : Nat) (ts' : List Int) (c' : Option Addr) (cc' : Nat) (es' : List Int), e = .returned (.tuple #[.agg #[.bool b', .slice a' ts'.length ca', .slice c' es'.length cc'], .int .i64 0]) ∧ Fr w.heap.size w' a' ca' ts' c' cc' es' ∧ Apart a' c' ts' es' ∧ Is b' ts' es' (q / s) (n + m) ∧ Below w.heap.size w w' := by
  have lxa := IA.lu
  have lda := IA.ld
  have lxb := IB.lu
  have ldb := IB.ld
  have hlen0 : Hid (∀ x ∈ ([⟨b, a, ca, xs, c, cc, ds⟩, ⟨g, p, cp, ys, r, cr, es⟩] : List RV), x.xs.length ≤ 1000 ∧ x.ds.length ≤ 1000) := fun x hx => by
    simp only [List.mem_cons, List.not_mem_nil, or_false] at hx
    rcases hx with rfl | rfl <;> constructor <;> simp <;> omega
  have HG := good_yes [⟨b, a, ca, xs, c, cc, ds⟩, ⟨g, p, cp, ys, r, cr, es⟩] (fun x hx => by
    simp only [List.mem_cons, List.not_mem_nil, or_false] at hx
    rcases hx with rfl | rfl
    · exact (formR_low FA.up.words FA.down.words).2 IA.low
    · exact (formR_low FB.up.words FB.down.words).2 IB.low)
  have hB := Below.refl w.heap.size w
  have hz : ((ys.length : Int) == 0) = false := beq_eq_false_iff_ne.2 (by have := List.length_pos_iff.2 HX.out; omega)
  obtain ⟨Q, hQ⟩ : ∃ Q, q / s = Q := ⟨_, rfl⟩
  obtain ⟨S1, hS⟩ : ∃ S, s⁻¹ = S := ⟨_, rfl⟩
  rw [hQ]
  have HQ : Hid (q * S1 = Q) := by rw [Hid, ← hQ, ← hS, Rat.div_def]
  have HS := hide hS
  clear hQ hS
  go_enter Tryz.func11, Tryz.ntmps11
  have hs0 := Nat.le_refl w.heap.size
  have hq := below_new w (.cells #[.bool b, .slice a xs.length ca, .slice c ds.length cc] 27)
  replace FA := FA.below hq
  replace FB := FB.below hq
  have EA := Box.put (w := w) (k := (w.heap.size)) (.cells #[.bool b, .slice a xs.length ca, .slice c ds.length cc] 27) rfl
  replace hs0 := Nat.le_trans hs0 hq.size
  replace hB := hB.trans (hq.mono hB.size)
  clear hq
  have hq := below_new (w.alloc (.cells #[.bool b, .slice a xs.length ca, .slice c ds.length cc] 27)) (.cells #[.bool g, .slice p ys.length cp, .slice r es.length cr] 27)
  replace FA := FA.below hq
  replace FB := FB.below hq
  replace EA := EA.below hq
  have EB := Box.put (w := (w.alloc (.cells #[.bool b, .slice a xs.length ca, .slice c ds.length cc] 27))) (k := (w.heap.size + 1)) (.cells #[.bool g, .slice p ys.length cp, .slice r es.length cr] 27) (by simp)
  replace hs0 := Nat.le_trans hs0 hq.size
  replace hB := hB.trans (hq.mono hB.size)
  clear hq
  have hq := below_new ((w.alloc (.cells #[.bool b, .slice a xs.length ca, .slice c ds.length cc] 27)).alloc (.cells #[.bool g, .slice p ys.length cp, .slice r es.length cr] 27)) (.cells #[.bool false, .slice none 0 0, .slice none 0 0] 27)
  replace FA := FA.below hq
  replace FB := FB.below hq
  replace EA := EA.below hq
  replace EB := EB.below hq
  have ER := Box.put (w := ((w.alloc (.cells #[.bool b, .slice a xs.length ca, .slice c ds.length cc] 27)).alloc (.cells #[.bool g, .slice p ys.length cp, .slice r es.length cr] 27))) (k := (w.heap.size + 2)) (.cells #[.bool false, .slice none 0 0, .slice none 0 0] 27) (by simp)
  replace hs0 := Nat.le_trans hs0 hq.size
  replace hB := hB.trans (hq.mono hB.size)
  clear hq
  have hq := below_new (((w.alloc (.cells #[.bool b, .slice a xs.length ca, .slice c ds.length cc] 27)).alloc (.cells #[.bool g, .slice p ys.length cp, .slice r es.length cr] 27)).alloc (.cells #[.bool false, .slice none 0 0, .slice none 0 0] 27)) (.cells #[.bool b, .slice a xs.length ca, .slice c ds.length cc, .bool g, .slice p ys.length cp, .slice r es.length cr] 27)
  replace FA := FA.below hq
  replace FB := FB.below hq
  replace EA := EA.below hq
  replace EB := EB.below hq
  replace ER := ER.below hq
  have LF := Box.put (w := (((w.alloc (.cells #[.bool b, .slice a xs.length ca, .slice c ds.length cc] 27)).alloc (.cells #[.bool g, .slice p ys.length cp, .slice r es.length cr] 27)).alloc (.cells #[.bool false, .slice none 0 0, .slice none 0 0] 27))) (k := (w.heap.size + 3)) (.cells #[.bool b, .slice a xs.length ca, .slice c ds.length cc, .bool g, .slice p ys.length cp, .slice r es.length cr] 27) (by simp)
  replace hs0 := Nat.le_trans hs0 hq.size
  replace hB := hB.trans (hq.mono hB.size)
  clear hq
  go_wp2_with fail
  obtain ⟨u1, hname⟩ := nm hB
  rw [hname] at hs0 hB FA FB EA EB ER LF ⊢
  have zh1 := hB.size
  have zs1 := hs0
  clear hname hs0
  have R := row_box (rs := [⟨b, a, ca, xs, c, cc, ds⟩, ⟨g, p, cp, ys, r, cr, es⟩]) (k := w.heap.size + 3) LF (fun r hr => by
      simp only [List.mem_cons, List.not_mem_nil, or_false] at hr
      rcases hr with rfl | rfl
      · exact FA.mono (Nat.zero_le _)
      · exact FB.mono (Nat.zero_le _))
  refine (kfine_any (cap := 2) R (by simp) hlen0.out true HG).mono ?_
  rintro e w2 ⟨rfl, hb⟩
  replace FA := FA.below hb
  replace FB := FB.below hb
  replace EA := EA.below hb
  replace EB := EB.below hb
  replace ER := ER.below hb
  replace LF := LF.below hb
  replace hB := hB.trans (hb.mono hB.size)
  have zz2 := hb.size
  have zh2 := hB.size
  clear hb
  clear R
  clear LF
  obtain ⟨k0, k1, k2, f0, f1, f2⟩ := EA.three
  obtain ⟨k3, k4, k5, f3, f4, f5⟩ := EB.three
  obtain ⟨k6, k7, k8, f6, f7, f8⟩ := ER.three
  go_wp2_with fail
  clear k0 k1 k2 f0 f1 f2 k3 k4 k5 f3 f4 f5 k6 k7 k8 f6 f7 f8
  replace FA := FA.drew
  replace FB := FB.drew
  have qEA := EA.lt
  replace EA := EA.drew
  have qEB := EB.lt
  replace EB := EB.drew
  have qER := ER.lt
  replace ER := ER.drew
  refine wp_yields 4 [.is (.agg #[.bool b, .slice a xs.length ca, .slice c ds.length cc]), .is (.agg #[.bool g, .slice p ys.length cp, .slice r es.length cr]), (Yield.turn (fun g s => .agg #[.bool g, s, .slice p ys.length cp]) w2.heap.size ys S1 m), (Yield.frac w2.heap.size (Q) (n + m))] (by kernel_rfl) (by kernel_rfl) (lt_cons ?_ (lt_cons ?_ (lt_cons ?_ (lt_cons ?_ lt_nil)))) ?_
  case refine_1 =>
    refine OpDoes.mk rfl ?_
    intro vs V hV hd K hK
    have d0 : vs 0 = .agg #[.bool b, .slice a xs.length ca, .slice c ds.length cc] := hd 0 (by decide) (by kernel_rfl)
    have hh := fun (P : Prop) => Yield.turn_elim P (show ((Yield.turn (fun g s => .agg #[.bool g, s, .slice p ys.length cp]) w2.heap.size ys S1 m) : Yield).At (vs 2) V from hd 2 (by decide) (by kernel_rfl))
    refine hh _ ?_
    intro g1 a1 c1 z1 d2 S1 I1
    clear hh
    simp only [laidIn, lz1, lz2, lz3, lz4, lz5, lz6, if_true, Act.put, lz7, lz8, lz9] at hK ⊢
    simp only [d0, d2] at hK ⊢
    go_simp
    go_at_call 37
    refine (kproduct_any b g1 (FA.below hV) ⟨S1.mono (Nat.zero_le _), (FB.below hV).up.mono (Nat.zero_le _)⟩ IA I1 (by omega)).mono ?_
    rintro e V' ⟨g2, a2, c2, x2, e2, t2, y2, rfl, F2, P2, I2, hb⟩
    replace I2 : Is g2 x2 y2 (Q) (n + m) := I2.to HQ.out
    exact hK.out _ _ hb ⟨_, _, _, _, _, _, _, rfl, F2.mono hV.size, P2, I2⟩ (not_fresh rfl)
  case refine_2 =>
    refine OpDoes.mk rfl ?_
    intro vs V hV hd K hK
    have d1 : vs 1 = .agg #[.bool g, .slice p ys.length cp, .slice r es.length cr] := hd 1 (by decide) (by kernel_rfl)
    simp only [laidIn, lz1, lz2, lz3, lz4, lz5, lz6, if_true, Act.put, lz7, lz8, lz9] at hK ⊢
    simp only [d1] at hK ⊢
    go_simp
    go_at_call 38
    refine (kturned_any g (FB.below hV) IB (by omega) HX).mono ?_
    rintro e V' ⟨g1, a1, c1, z1, rfl, S1, I1, hb⟩
    exact hK.out _ _ hb ⟨_, _, _, _, rfl, S1.mono hV.size, I1.to HS.out⟩ (not_fresh rfl)
  case refine_3 =>
    refine OpDoes.mk rfl ?_
    intro vs V hV hd K hK
    have hcc := (EB.below hV).three
    have k0 := hcc.1
    have k1 := hcc.2.1
    have k2 := hcc.2.2.1
    clear hcc
    simp only [laidIn, lz1, lz2, lz3, lz4, lz5, lz6, if_true, Act.put, lz7, lz8, lz9] at hK ⊢
    go_simp
    exact hK.out _ _ (Below.refl _ _) rfl (not_fresh rfl)
  case refine_4 =>
    refine OpDoes.mk rfl ?_
    intro vs V hV hd K hK
    have hcc := (EA.below hV).three
    have k0 := hcc.1
    have k1 := hcc.2.1
    have k2 := hcc.2.2.1
    clear hcc
    simp only [laidIn, lz1, lz2, lz4, lz5, lz6, if_true, Act.put, lz7, lz8, lz9] at hK ⊢
    go_simp
    exact hK.out _ _ (Below.refl _ _) rfl (not_fresh rfl)
  case refine_5 =>
    intro vs Y1 hV hR hne fuel
    have d0 : vs 0 = .agg #[.bool b, .slice a xs.length ca, .slice c ds.length cc] := hR 0 (by decide)
    have d1 : vs 1 = .agg #[.bool g, .slice p ys.length cp, .slice r es.length cr] := hR 1 (by decide)
    have hh := fun (P : Prop) => Yield.turn_elim P (show ((Yield.turn (fun g s => .agg #[.bool g, s, .slice p ys.length cp]) w2.heap.size ys S1 m) : Yield).At (vs 2) Y1 from hR 2 (by decide))
    refine hh _ ?_
    intro g1 a1 c1 z1 d2 S1 I1
    clear hh
    have hh := fun (P : Prop) => Yield.frac_elim P (show ((Yield.frac w2.heap.size (Q) (n + m)) : Yield).At (vs 3) Y1 from hR 3 (by decide))
    refine hh _ ?_
    intro g2 a2 c2 x2 e2 t2 y2 d3 F2 P2 I2
    clear hh
    replace FA := FA.below hV
    replace FB := FB.below hV
    replace EA := EA.below hV
    replace EB := EB.below hV
    replace ER := ER.below hV
    have hr := hV
    simp only [laidIn, lz4, lz5, lz6, if_true, Act.put, lz7, lz8, lz9]
    simp only [d0, d1, d2, d3]
    clear hR hne hV d0 d1 d2 d3
    clear vs
    show wpAny _ _ _ _ (fuel + 2) _ _ _
    refine wpAny_all (rs := [4]) (by kernel_rfl) (by simp) (fun i hi => ?_)
    obtain rfl : i = 4 := by simpa using hi
    clear hi
    have hcc := ER.three
    have k0 := hcc.1
    have k1 := hcc.2.1
    have k2 := hcc.2.2.1
    have f0 := hcc.2.2.2.1
    have f1 := hcc.2.2.2.2.1
    have f2 := hcc.2.2.2.2.2
    clear hcc
    refine wpOp_step rfl (fun K hK => ?_)
    simp only [lz1, lz2, lz3]
    rw [if_pos (by rfl)]
    go_simp
    refine hK _ _ ?_
    clear hK k0 f0 k1 f1 k2 f2
    have hT := turns3 (w.heap.size + 2) Y1 (.bool g2) (.slice a2 x2.length c2) (.slice e2 y2.length t2)
    replace FA := FA.beside ER (noWord3 (fun _ e => by cases e) (fun _ e => by cases e) (fun _ e => by cases e)) hT
    replace FB := FB.beside ER (noWord3 (fun _ e => by cases e) (fun _ e => by cases e) (fun _ e => by cases e)) hT
    replace EA := EA.turns hT (by omega)
    replace EB := EB.turns hT (by omega)
    replace S1 := S1.beside ER (noWord3 (fun _ e => by cases e) (fun _ e => by cases e) (fun _ e => by cases e)) hT
    replace F2 := F2.beside ER (noWord3 (fun _ e => by cases e) (fun _ e => by cases e) (fun _ e => by cases e)) hT
    replace ER := Box.set3 (.bool g2) (.slice a2 x2.length c2) (.slice e2 y2.length t2) ER
    have hr4 := hT.below
    obtain ⟨X1, hX⟩ := nm hT.below
    rw [hX] at FA FB EA EB ER S1 F2 hr4 ⊢
    clear hX hT
    refine wpAny_all (rs := [5]) (by kernel_rfl) (by simp) (fun i hi => ?_)
    obtain rfl : i = 5 := by simpa using hi
    clear hi
    refine wpOp_step rfl (fun K hK => ?_)
    simp only [lz1, lz2, lz3]
    rw [if_pos (by rfl)]
    go_simp
    refine hK _ _ ?_
    clear hK
    refine wpAny_done (by kernel_rfl) ?_ _
    replace hB := hB.trans ((Below.trans (Below.drew (Below.refl w2.heap.size w2)) hr).mono hB.size)
    replace hB := hB.trans (hr4.mono (by omega))
    have zz2_1 := hr.size
    have zi1 := hB.size
    have zy1_4 := hr4.size
    clear hr hr4
    obtain ⟨k0, k1, k2, f0, f1, f2⟩ := EA.three
    obtain ⟨k3, k4, k5, f3, f4, f5⟩ := EB.three
    obtain ⟨k6, k7, k8, f6, f7, f8⟩ := ER.three
    have hcc := ER.three
    have r0 := hcc.1
    have r1 := hcc.2.1
    have r2 := hcc.2.2.1
    clear hcc
    go_wp2
    refine bodyPost_ret (v := .tuple #[.agg #[.bool g2, .slice a2 x2.length c2, .slice e2 y2.length t2], .int .i64 0]) (by simp [results, Tryz.f11, go_sem, r0, r1, r2]) rfl ?_
    exact ⟨_, _, _, _, _, _, _, rfl, F2.mono (by omega), P2, I2, hB⟩
set_option maxRecDepth 100000 in
set_option maxHeartbeats 4000000 in
theorem kcmp_ok {lo lo2 : Nat} {a c p r : Option Addr} {ca cc cp cr : Nat} {xs ds ys es : List Int} {w : World} {n m : Nat} {q s : Rat} (b g : Bool) (FA : Fr lo w a ca xs c cc ds) (FB : Fr lo2 w p cp ys r cr es) (IA : Is b xs ds q n) (IB : Is g ys es s m) (hn : n + m ≤ 400) :
    Calls Tryz.prog 15 #[.agg #[.bool b, .slice a xs.length ca, .slice c ds.length cc], .agg #[.bool g, .slice p ys.length cp, .slice r es.length cr]] w fun e w' => e = .returned (.tuple #[.int .i64 (cmpR q s), .int .i64 0]) ∧ Below w.heap.size w w' := by
  have lxa := IA.lu
  have lda := IA.ld
  have lxb := IB.lu
  have ldb := IB.ld
  have hlen0 : Hid (∀ x ∈ ([⟨b, a, ca, xs, c, cc, ds⟩, ⟨g, p, cp, ys, r, cr, es⟩] : List RV), x.xs.length ≤ 1000 ∧ x.ds.length ≤ 1000) := fun x hx => by
    simp only [List.mem_cons, List.not_mem_nil, or_false] at hx
    rcases hx with rfl | rfl <;> constructor <;> simp <;> omega
  have HG := good_yes [⟨b, a, ca, xs, c, cc, ds⟩, ⟨g, p, cp, ys, r, cr, es⟩] (fun x hx => by
    simp only [List.mem_cons, List.not_mem_nil, or_false] at hx
    rcases hx with rfl | rfl
    · exact (formR_low FA.up.words FA.down.words).2 IA.low
    · exact (formR_low FB.up.words FB.down.words).2 IB.low)
  have hB := Below.refl w.heap.size w
  obtain ⟨cv, hcv⟩ : ∃ cv, cmpR q s = cv := ⟨_, rfl⟩
  rw [hcv]
  have HC : Hid (cmpI (sgn b (val xs) * val es) (sgn g (val ys) * val ds) = cv) := by rw [Hid, ← hcv, ← IA.rat, ← IB.rat]; exact (cmpR_divInt IA.low.2.2.1 IB.low.2.2.1).symm
  clear hcv
  go_enter Tryz.func15, Tryz.ntmps15
  have hs0 := Nat.le_refl w.heap.size
  have hq := below_new w (.cells #[.bool b, .slice a xs.length ca, .slice c ds.length cc] 27)
  replace FA := FA.below hq
  replace FB := FB.below hq
  have EA := Box.put (w := w) (k := (w.heap.size)) (.cells #[.bool b, .slice a xs.length ca, .slice c ds.length cc] 27) rfl
  replace hs0 := Nat.le_trans hs0 hq.size
  replace hB := hB.trans (hq.mono hB.size)
  clear hq
  have hq := below_new (w.alloc (.cells #[.bool b, .slice a xs.length ca, .slice c ds.length cc] 27)) (.cells #[.bool g, .slice p ys.length cp, .slice r es.length cr] 27)
  replace FA := FA.below hq
  replace FB := FB.below hq
  replace EA := EA.below hq
  have EB := Box.put (w := (w.alloc (.cells #[.bool b, .slice a xs.length ca, .slice c ds.length cc] 27))) (k := (w.heap.size + 1)) (.cells #[.bool g, .slice p ys.length cp, .slice r es.length cr] 27) (by simp)
  replace hs0 := Nat.le_trans hs0 hq.size
  replace hB := hB.trans (hq.mono hB.size)
  clear hq
  have hq := below_new ((w.alloc (.cells #[.bool b, .slice a xs.length ca, .slice c ds.length cc] 27)).alloc (.cells #[.bool g, .slice p ys.length cp, .slice r es.length cr] 27)) (.cells #[.bool b, .slice a xs.length ca, .slice c ds.length cc, .bool g, .slice p ys.length cp, .slice r es.length cr] 27)
  replace FA := FA.below hq
  replace FB := FB.below hq
  replace EA := EA.below hq
  replace EB := EB.below hq
  have LF := Box.put (w := ((w.alloc (.cells #[.bool b, .slice a xs.length ca, .slice c ds.length cc] 27)).alloc (.cells #[.bool g, .slice p ys.length cp, .slice r es.length cr] 27))) (k := (w.heap.size + 2)) (.cells #[.bool b, .slice a xs.length ca, .slice c ds.length cc, .bool g, .slice p ys.length cp, .slice r es.length cr] 27) (by simp)
  replace hs0 := Nat.le_trans hs0 hq.size
  replace hB := hB.trans (hq.mono hB.size)
  clear hq
  go_wp2_with fail
  obtain ⟨u1, hname⟩ := nm hB
  rw [hname] at hs0 hB FA FB EA EB LF ⊢
  have zh1 := hB.size
  have zs1 := hs0
  clear hname hs0
  have R := row_box (rs := [⟨b, a, ca, xs, c, cc, ds⟩, ⟨g, p, cp, ys, r, cr, es⟩]) (k := w.heap.size + 2) LF (fun r hr => by
      simp only [List.mem_cons, List.not_mem_nil, or_false] at hr
      rcases hr with rfl | rfl
      · exact FA.mono (Nat.zero_le _)
      · exact FB.mono (Nat.zero_le _))
  refine (kfine_any (cap := 2) R (by simp) hlen0.out true HG).mono ?_
  rintro e w2 ⟨rfl, hb⟩
  replace FA := FA.below hb
  replace FB := FB.below hb
  replace EA := EA.below hb
  replace EB := EB.below hb
  replace LF := LF.below hb
  replace hB := hB.trans (hb.mono hB.size)
  have zz2 := hb.size
  have zh2 := hB.size
  clear hb
  clear R
  clear LF
  obtain ⟨k0, k1, k2, f0, f1, f2⟩ := EA.three
  obtain ⟨k3, k4, k5, f3, f4, f5⟩ := EB.three
  go_wp2_with fail
  clear k0 k1 k2 f0 f1 f2 k3 k4 k5 f3 f4 f5
  replace FA := FA.drew
  replace FB := FB.drew
  have qEA := EA.lt
  replace EA := EA.drew
  have qEB := EB.lt
  replace EB := EB.drew
  refine wp_yields 13 [.is (.pointer (some ⟨w.heap.size, 0, none⟩)), .is (.agg #[.bool b, .slice a xs.length ca]), .is (.pointer (some ⟨w.heap.size + 1, 2, none⟩)), .is (.slice r es.length cr), (Yield.int w2.heap.size (val es) (m)), (Yield.int w2.heap.size (sgn b (val xs) * val es) (n + m)), .is (.pointer (some ⟨w.heap.size + 1, 0, none⟩)), .is (.agg #[.bool g, .slice p ys.length cp]), .is (.pointer (some ⟨w.heap.size, 2, none⟩)), .is (.slice c ds.length cc), (Yield.int w2.heap.size (val ds) (n)), (Yield.int w2.heap.size (sgn g (val ys) * val ds) (n + m)), (.is (.int .i64 cv))] (by kernel_rfl) (by kernel_rfl) (lt_cons ?_ (lt_cons ?_ (lt_cons ?_ (lt_cons ?_ (lt_cons ?_ (lt_cons ?_ (lt_cons ?_ (lt_cons ?_ (lt_cons ?_ (lt_cons ?_ (lt_cons ?_ (lt_cons ?_ (lt_cons ?_ lt_nil))))))))))))) ?_
  case refine_1 =>
    refine OpDoes.mk rfl ?_
    intro vs V hV hd K hK
    have hh := fun (P : Prop) => Yield.int_elim P (show ((Yield.int w2.heap.size (sgn b (val xs) * val es) (n + m)) : Yield).At (vs 5) V from hd 5 (by decide) (by kernel_rfl))
    refine hh _ ?_
    intro g2 a2 c2 z2 d5 S2 N2 V2 b2
    clear hh
    have hh := fun (P : Prop) => Yield.int_elim P (show ((Yield.int w2.heap.size (sgn g (val ys) * val ds) (n + m)) : Yield).At (vs 11) V from hd 11 (by decide) (by kernel_rfl))
    refine hh _ ?_
    intro g4 a4 c4 z4 d11 S4 N4 V4 b4
    clear hh
    simp only [laidIn, lz1, lz2, lz3, lz4, lz5, lz6, if_true, Act.put, lz7, lz8, lz9] at hK ⊢
    simp only [d5, d11] at hK ⊢
    go_simp
    go_at_call 46
    have hc := icmp_any g2 g4 S2 S4 (by omega) (by omega)
    rw [V2.out, V4.out, HC.out] at hc
    refine (hc).mono ?_
    rintro e V' ⟨rfl, hb⟩
    exact hK.out _ _ hb rfl (not_fresh rfl)
  case refine_2 =>
    refine OpDoes.mk rfl ?_
    intro vs V hV hd K hK
    have d7 : vs 7 = .agg #[.bool g, .slice p ys.length cp] := hd 7 (by decide) (by kernel_rfl)
    have hh := fun (P : Prop) => Yield.int_elim P (show ((Yield.int w2.heap.size (val ds) (n)) : Yield).At (vs 10) V from hd 10 (by decide) (by kernel_rfl))
    refine hh _ ?_
    intro g3 a3 c3 z3 d10 S3 N3 V3 b3
    clear hh
    simp only [laidIn, lz1, lz2, lz3, lz4, lz5, lz6, if_true, Act.put, lz7, lz8, lz9] at hK ⊢
    simp only [d7, d10] at hK ⊢
    go_simp
    go_at_call 47
    refine (imul_any g g3 (FB.up.below hV) S3 (by omega) (by omega)).mono ?_
    rintro e V' ⟨g4, a4, c4, z4, rfl, S4, N4, v4, l4, hb⟩
    have V4 : Hid (sgn g4 (val z4) = sgn g (val ys) * val ds) := by rw [Hid, v4, V3.out]
    have b4 : z4.length ≤ n + m := by omega
    clear v4 l4
    exact hK.out _ _ hb ⟨_, _, _, _, rfl, S4.mono hV.size, N4, V4, b4⟩ (not_fresh rfl)
  case refine_3 =>
    refine OpDoes.mk rfl ?_
    intro vs V hV hd K hK
    have d9 : vs 9 = .slice c ds.length cc := hd 9 (by decide) (by kernel_rfl)
    simp only [laidIn, lz1, lz2, lz3, lz4, lz5, lz6, if_true, Act.put, lz7, lz8, lz9] at hK ⊢
    simp only [d9] at hK ⊢
    go_simp
    go_at_call 42
    refine (kwhole_any (FA.down.below hV) (by omega)).mono ?_
    rintro e V' ⟨g3, a3, c3, z3, rfl, S3, N3, v3, l3, hb⟩
    have V3 : Hid (sgn g3 (val z3) = val ds) := v3
    have b3 : z3.length ≤ n := by omega
    clear v3 l3
    exact hK.out _ _ hb ⟨_, _, _, _, rfl, S3.mono hV.size, N3, V3, b3⟩ (not_fresh rfl)
  case refine_4 =>
    refine OpDoes.mk rfl ?_
    intro vs V hV hd K hK
    have d8 : vs 8 = .pointer (some ⟨w.heap.size, 2, none⟩) := hd 8 (by decide) (by kernel_rfl)
    have hcc := (EA.below hV).three
    have k0 := hcc.1
    have k1 := hcc.2.1
    have k2 := hcc.2.2.1
    clear hcc
    simp only [laidIn, lz1, lz2, lz3, lz4, lz5, lz6, if_true, Act.put, lz7, lz8, lz9] at hK ⊢
    simp only [d8] at hK ⊢
    go_simp
    exact hK.out _ _ (Below.refl _ _) rfl (not_fresh rfl)
  case refine_5 =>
    refine OpDoes.mk rfl ?_
    intro vs V hV hd K hK
    simp only [laidIn, lz1, lz2, lz3, lz4, lz5, lz6, if_true, Act.put, lz7, lz8, lz9] at hK ⊢
    go_simp
    exact hK.out _ _ (Below.refl _ _) rfl (not_fresh rfl)
  case refine_6 =>
    refine OpDoes.mk rfl ?_
    intro vs V hV hd K hK
    have d6 : vs 6 = .pointer (some ⟨w.heap.size + 1, 0, none⟩) := hd 6 (by decide) (by kernel_rfl)
    have hcc := (EB.below hV).three
    have k0 := hcc.1
    have k1 := hcc.2.1
    have k2 := hcc.2.2.1
    clear hcc
    simp only [laidIn, lz1, lz2, lz3, lz4, lz5, lz6, if_true, Act.put, lz7, lz8, lz9] at hK ⊢
    simp only [d6] at hK ⊢
    go_simp
    exact hK.out _ _ (Below.refl _ _) rfl (not_fresh rfl)
  case refine_7 =>
    refine OpDoes.mk rfl ?_
    intro vs V hV hd K hK
    simp only [laidIn, lz1, lz2, lz3, lz4, lz5, lz6, if_true, Act.put, lz7, lz8, lz9] at hK ⊢
    go_simp
    exact hK.out _ _ (Below.refl _ _) rfl (not_fresh rfl)
  case refine_8 =>
    refine OpDoes.mk rfl ?_
    intro vs V hV hd K hK
    have d1 : vs 1 = .agg #[.bool b, .slice a xs.length ca] := hd 1 (by decide) (by kernel_rfl)
    have hh := fun (P : Prop) => Yield.int_elim P (show ((Yield.int w2.heap.size (val es) (m)) : Yield).At (vs 4) V from hd 4 (by decide) (by kernel_rfl))
    refine hh _ ?_
    intro g1 a1 c1 z1 d4 S1 N1 V1 b1
    clear hh
    simp only [laidIn, lz1, lz2, lz3, lz4, lz5, lz6, if_true, Act.put, lz7, lz8, lz9] at hK ⊢
    simp only [d1, d4] at hK ⊢
    go_simp
    go_at_call 47
    refine (imul_any b g1 (FA.up.below hV) S1 (by omega) (by omega)).mono ?_
    rintro e V' ⟨g2, a2, c2, z2, rfl, S2, N2, v2, l2, hb⟩
    have V2 : Hid (sgn g2 (val z2) = sgn b (val xs) * val es) := by rw [Hid, v2, V1.out]
    have b2 : z2.length ≤ n + m := by omega
    clear v2 l2
    exact hK.out _ _ hb ⟨_, _, _, _, rfl, S2.mono hV.size, N2, V2, b2⟩ (not_fresh rfl)
  case refine_9 =>
    refine OpDoes.mk rfl ?_
    intro vs V hV hd K hK
    have d3 : vs 3 = .slice r es.length cr := hd 3 (by decide) (by kernel_rfl)
    simp only [laidIn, lz1, lz2, lz3, lz4, lz5, lz6, if_true, Act.put, lz7, lz8, lz9] at hK ⊢
    simp only [d3] at hK ⊢
    go_simp
    go_at_call 42
    refine (kwhole_any (FB.down.below hV) (by omega)).mono ?_
    rintro e V' ⟨g1, a1, c1, z1, rfl, S1, N1, v1, l1, hb⟩
    have V1 : Hid (sgn g1 (val z1) = val es) := v1
    have b1 : z1.length ≤ m := by omega
    clear v1 l1
    exact hK.out _ _ hb ⟨_, _, _, _, rfl, S1.mono hV.size, N1, V1, b1⟩ (not_fresh rfl)
  case refine_10 =>
    refine OpDoes.mk rfl ?_
    intro vs V hV hd K hK
    have d2 : vs 2 = .pointer (some ⟨w.heap.size + 1, 2, none⟩) := hd 2 (by decide) (by kernel_rfl)
    have hcc := (EB.below hV).three
    have k0 := hcc.1
    have k1 := hcc.2.1
    have k2 := hcc.2.2.1
    clear hcc
    simp only [laidIn, lz1, lz2, lz3, lz4, lz5, lz6, if_true, Act.put, lz7, lz8, lz9] at hK ⊢
    simp only [d2] at hK ⊢
    go_simp
    exact hK.out _ _ (Below.refl _ _) rfl (not_fresh rfl)
  case refine_11 =>
    refine OpDoes.mk rfl ?_
    intro vs V hV hd K hK
    simp only [laidIn, lz1, lz2, lz3, lz4, lz5, lz6, if_true, Act.put, lz7, lz8, lz9] at hK ⊢
    go_simp
    exact hK.out _ _ (Below.refl _ _) rfl (not_fresh rfl)
  case refine_12 =>
    refine OpDoes.mk rfl ?_
    intro vs V hV hd K hK
    have d0 : vs 0 = .pointer (some ⟨w.heap.size, 0, none⟩) := hd 0 (by decide) (by kernel_rfl)
    have hcc := (EA.below hV).three
    have k0 := hcc.1
    have k1 := hcc.2.1
    have k2 := hcc.2.2.1
    clear hcc
    simp only [laidIn, lz1, lz2, lz3, lz4, lz5, lz6, if_true, Act.put, lz7, lz8, lz9] at hK ⊢
    simp only [d0] at hK ⊢
    go_simp
    exact hK.out _ _ (Below.refl _ _) rfl (not_fresh rfl)
  case refine_13 =>
    refine OpDoes.mk rfl ?_
    intro vs V hV hd K hK
    simp only [laidIn, lz1, lz2, lz4, lz5, lz6, if_true, Act.put, lz7, lz8, lz9] at hK ⊢
    go_simp
    exact hK.out _ _ (Below.refl _ _) rfl (not_fresh rfl)
  case refine_14 =>
    intro vs Y1 hV hR hne fuel
    have d0 : vs 0 = .pointer (some ⟨w.heap.size, 0, none⟩) := hR 0 (by decide)
    have d1 : vs 1 = .agg #[.bool b, .slice a xs.length ca] := hR 1 (by decide)
    have d2 : vs 2 = .pointer (some ⟨w.heap.size + 1, 2, none⟩) := hR 2 (by decide)
    have d3 : vs 3 = .slice r es.length cr := hR 3 (by decide)
    have hh := fun (P : Prop) => Yield.int_elim P (show ((Yield.int w2.heap.size (val es) (m)) : Yield).At (vs 4) Y1 from hR 4 (by decide))
    refine hh _ ?_
    intro g1 a1 c1 z1 d4 S1 N1 V1 b1
    clear hh
    have hh := fun (P : Prop) => Yield.int_elim P (show ((Yield.int w2.heap.size (sgn b (val xs) * val es) (n + m)) : Yield).At (vs 5) Y1 from hR 5 (by decide))
    refine hh _ ?_
    intro g2 a2 c2 z2 d5 S2 N2 V2 b2
    clear hh
    have d6 : vs 6 = .pointer (some ⟨w.heap.size + 1, 0, none⟩) := hR 6 (by decide)
    have d7 : vs 7 = .agg #[.bool g, .slice p ys.length cp] := hR 7 (by decide)
    have d8 : vs 8 = .pointer (some ⟨w.heap.size, 2, none⟩) := hR 8 (by decide)
    have d9 : vs 9 = .slice c ds.length cc := hR 9 (by decide)
    have hh := fun (P : Prop) => Yield.int_elim P (show ((Yield.int w2.heap.size (val ds) (n)) : Yield).At (vs 10) Y1 from hR 10 (by decide))
    refine hh _ ?_
    intro g3 a3 c3 z3 d10 S3 N3 V3 b3
    clear hh
    have hh := fun (P : Prop) => Yield.int_elim P (show ((Yield.int w2.heap.size (sgn g (val ys) * val ds) (n + m)) : Yield).At (vs 11) Y1 from hR 11 (by decide))
    refine hh _ ?_
    intro g4 a4 c4 z4 d11 S4 N4 V4 b4
    clear hh
    have d12 : vs 12 = .int .i64 cv := hR 12 (by decide)
    replace FA := FA.below hV
    replace FB := FB.below hV
    replace EA := EA.below hV
    replace EB := EB.below hV
    have hr := hV
    simp only [laidIn, lz4, lz5, lz6, if_true, Act.put, lz7, lz8, lz9]
    simp only [d0, d1, d2, d3, d4, d5, d6, d7, d8, d9, d10, d11, d12]
    clear hR hne hV d0 d1 d2 d3 d4 d5 d6 d7 d8 d9 d10 d11 d12
    clear vs
    show wpAny _ _ _ _ (fuel + 2) _ _ _
    refine wpAny_all (rs := [13]) (by kernel_rfl) (by simp) (fun i hi => ?_)
    obtain rfl : i = 13 := by simpa using hi
    clear hi
    refine wpOp_step rfl (fun K hK => ?_)
    simp only [lz1, lz2, lz3]
    rw [if_pos (by rfl)]
    go_simp
    refine hK _ _ ?_
    clear hK
    refine wpAny_all (rs := [14]) (by kernel_rfl) (by simp) (fun i hi => ?_)
    obtain rfl : i = 14 := by simpa using hi
    clear hi
    refine wpOp_step rfl (fun K hK => ?_)
    simp only [lz1, lz2, lz3]
    rw [if_pos (by rfl)]
    go_simp
    refine hK _ _ ?_
    clear hK
    refine wpAny_done (by kernel_rfl) ?_ _
    replace hB := hB.trans ((Below.trans (Below.drew (Below.refl w2.heap.size w2)) hr).mono hB.size)
    have zz2_0 := hr.size
    have zi1 := hB.size
    clear hr 
    obtain ⟨k0, k1, k2, f0, f1, f2⟩ := EA.three
    obtain ⟨k3, k4, k5, f3, f4, f5⟩ := EB.three
    go_wp2
    go_ret2
    exact ⟨rfl, hB⟩
def FeSaid (q : Rat) (n : Nat) (w : World) (e : Ending) (w' : World) : Prop := ∃ (b' : Bool) (a' : Option Addr) (ca' : Nat) (ts' : List Int) (c' : Option Addr) (cc' : Nat) (es' : List Int), e = .returned (.tuple #[.agg #[.bool b', .slice a' ts'.length ca', .slice c' es'.length cc'], .int .i64 0]) ∧ Fr w.heap.size w' a' ca' ts' c' cc' es' ∧ Apart a' c' ts' es' ∧ Is b' ts' es' (q) (n) ∧ Below w.heap.size w w'
theorem one_is {g : Bool} {zu zd : List Int} (N1 : Canon g zu) (V1 : Hid (sgn g (val zu) = 1)) (N2 : Norm zd) (V2 : Hid (val zd = 1)) (l1 : zu.length ≤ 1) (l2 : zd.length ≤ 1) : Is g zu zd 1 1 := by
  refine ⟨⟨N1, N2, ?_⟩, ?_, l1, l2⟩
  · rw [V1.out, V2.out]; exact ⟨by decide, by decide⟩
  · rw [ratL, V1.out, V2.out]; decide +kernel
end Go.Proofs.YthlbobbmnahoiaaGreat
