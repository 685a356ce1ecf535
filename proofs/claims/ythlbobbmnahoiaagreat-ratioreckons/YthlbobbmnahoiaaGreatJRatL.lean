/-
  Joined: RatL RatM RPower Lits RatN RatNn SLaw.
-/
import Derived.Test.YthlbobbmnahoiaaGreatJRatH
import Derived.Test.YthlbobbmnahoiaaGreatJSigB
import Derived.Test.YthlbobbmnahoiaaGreatJRMulB
import Derived.Test.YthlbobbmnahoiaaGreatJMul
import Derived.Test.YthlbobbmnahoiaaGreatKit
import Derived.Test.YthlbobbmnahoiaaGreatJLenOf
namespace Go.Proofs.YthlbobbmnahoiaaGreat
open Go.RowKit
theorem opFold_div1 {q : Rat} {r : RV} (h : ¬ r.q = 0) : opFold opDiv q [r] = some (q / r.q) := by simp [opFold, opDiv, h]
theorem opFold_div0 {q : Rat} {r : RV} (h : r.q = 0) : opFold opDiv q [r] = none := by simp [opFold, opDiv, h]
set_option maxRecDepth 100000 in
set_option maxHeartbeats 4000000 in
theorem psub_ok {lo lo2 : Nat} {a c p r : Option Addr} {ca cc cp cr : Nat} {xs ds ys es : List Int} {w : World} {n m : Nat} (b g : Bool) (FA : Fr lo w a ca xs c cc ds) (FB : Fr lo2 w p cp ys r cr es) (hla : xs.length ≤ n ∧ ds.length ≤ n) (hlb : ys.length ≤ m ∧ es.length ≤ m) (hn : n ≤ 40) (hm : m ≤ 40) (hga : formR b xs ds = 0) (hgb : formR g ys es = 0) :
    Calls Tryz.prog 7 #[.agg #[.bool b, .slice a xs.length ca, .slice c ds.length cc], .agg #[.bool g, .slice p ys.length cp, .slice r es.length cr]] w fun e w' => ∃ (b' : Bool) (a' : Option Addr) (ca' : Nat) (ts' : List Int) (c' : Option Addr) (cc' : Nat) (es' : List Int), e = .returned (.tuple #[.agg #[.bool b', .slice a' ts'.length ca', .slice c' es'.length cc'], .int .i64 0]) ∧ Fr w.heap.size w' a' ca' ts' c' cc' es' ∧ Apart a' c' ts' es' ∧ Is b' ts' es' (ratL b xs ds - ratL g ys es) (n + m + 1) ∧ Below w.heap.size w w' := by
  have hB := Below.refl w.heap.size w
  go_enter Tryz.func7, Tryz.ntmps7
  have hA := Below.refl w.heap.size w
  have hq := below_new w (.cells #[.bool b, .slice a xs.length ca, .slice c ds.length cc] 27)
  replace FA := FA.below hq
  replace FB := FB.below hq
  have EA := Box.put (w := w) (k := (w.heap.size)) (.cells #[.bool b, .slice a xs.length ca, .slice c ds.length cc] 27) rfl
  replace hA := hA.trans (hq.mono hA.size)
  replace hB := hB.trans (hq.mono hB.size)
  clear hq
  have hq := below_new (w.alloc (.cells #[.bool b, .slice a xs.length ca, .slice c ds.length cc] 27)) (.cells #[.bool g, .slice p ys.length cp, .slice r es.length cr] 27)
  replace FA := FA.below hq
  replace FB := FB.below hq
  replace EA := EA.below hq
  have EB := Box.put (w := (w.alloc (.cells #[.bool b, .slice a xs.length ca, .slice c ds.length cc] 27))) (k := (w.heap.size + 1)) (.cells #[.bool g, .slice p ys.length cp, .slice r es.length cr] 27) (by simp)
  replace hA := hA.trans (hq.mono hA.size)
  replace hB := hB.trans (hq.mono hB.size)
  clear hq
  have hq := below_new ((w.alloc (.cells #[.bool b, .slice a xs.length ca, .slice c ds.length cc] 27)).alloc (.cells #[.bool g, .slice p ys.length cp, .slice r es.length cr] 27)) (.cells #[.bool false, .slice none 0 0, .slice none 0 0] 27)
  replace FA := FA.below hq
  replace FB := FB.below hq
  replace EA := EA.below hq
  replace EB := EB.below hq
  have ER := Box.put (w := ((w.alloc (.cells #[.bool b, .slice a xs.length ca, .slice c ds.length cc] 27)).alloc (.cells #[.bool g, .slice p ys.length cp, .slice r es.length cr] 27))) (k := (w.heap.size + 2)) (.cells #[.bool false, .slice none 0 0, .slice none 0 0] 27) (by simp)
  replace hA := hA.trans (hq.mono hA.size)
  replace hB := hB.trans (hq.mono hB.size)
  clear hq
  have hq := below_new (((w.alloc (.cells #[.bool b, .slice a xs.length ca, .slice c ds.length cc] 27)).alloc (.cells #[.bool g, .slice p ys.length cp, .slice r es.length cr] 27)).alloc (.cells #[.bool false, .slice none 0 0, .slice none 0 0] 27)) (.cells #[.bool g, .slice p ys.length cp, .slice r es.length cr] 27)
  replace FA := FA.below hq
  replace FB := FB.below hq
  replace EA := EA.below hq
  replace EB := EB.below hq
  replace ER := ER.below hq
  have ES := Box.put (w := (((w.alloc (.cells #[.bool b, .slice a xs.length ca, .slice c ds.length cc] 27)).alloc (.cells #[.bool g, .slice p ys.length cp, .slice r es.length cr] 27)).alloc (.cells #[.bool false, .slice none 0 0, .slice none 0 0] 27))) (k := (w.heap.size + 3)) (.cells #[.bool g, .slice p ys.length cp, .slice r es.length cr] 27) (by simp)
  replace hA := hA.trans (hq.mono hA.size)
  replace hB := hB.trans (hq.mono hB.size)
  clear hq
  clear hA
  go_wp2_with fail
  obtain ⟨u1, hname⟩ := nm hB
  rw [hname] at hB FA FB EA EB ER ES ⊢
  have zh1 := hB.size
  clear hname
  have R := row_box (rs := [⟨g, p, cp, ys, r, cr, es⟩]) (k := w.heap.size + 3) ES (fun x hx => by simp at hx; subst hx; exact FB.mono (Nat.zero_le _))
  have hk := fold_sub (cap := 1) R b FA (n := n) (m := m) hla (by simp) (fun x hx => by simp at hx; subst hx; exact hlb) hn hm
  replace hk := hk.mono (fun e w' h => FoldSaid.okN h.1 h.2 ⟨hga, fun x hx => by simp at hx; subst hx; exact hgb⟩ (t := ratL b xs ds - ratL g ys es) rfl (by simp))
  refine (hk).mono ?_
  rintro e w2 ⟨g1, a1, c1, x1, e1, t1, y1, rfl, F1, P1, I1, hb⟩
  replace I1 : Is g1 x1 y1 (ratL b xs ds - ratL g ys es) (n + m + 1) := I1.mono (by simp <;> omega)
  replace FA := FA.below hb
  replace FB := FB.below hb
  replace EA := EA.below hb
  replace EB := EB.below hb
  replace ER := ER.below hb
  replace ES := ES.below hb
  replace hB := hB.trans (hb.mono hB.size)
  have zz2 := hb.size
  have zh2 := hB.size
  clear hb
  clear hk R
  obtain ⟨k0, k1, k2, f0, f1, f2⟩ := EA.three
  obtain ⟨k3, k4, k5, f3, f4, f5⟩ := EB.three
  obtain ⟨k6, k7, k8, f6, f7, f8⟩ := ER.three
  obtain ⟨k9, k10, k11, f9, f10, f11⟩ := ES.three
  have hcc := ER.three
  have r0 := hcc.1
  have r1 := hcc.2.1
  have r2 := hcc.2.2.1
  clear hcc
  have qEA := EA.lt
  have qEB := EB.lt
  have qER := ER.lt
  have qES := ES.lt
  have hA := Below.refl w2.heap.size w2
  have hT := turns3 (w.heap.size + 2) w2 (.bool g1) (.slice a1 x1.length c1) (.slice e1 y1.length t1)
  replace FA := FA.beside ER (noWord3 (fun _ e => by cases e) (fun _ e => by cases e) (fun _ e => by cases e)) hT
  replace FB := FB.beside ER (noWord3 (fun _ e => by cases e) (fun _ e => by cases e) (fun _ e => by cases e)) hT
  replace EA := EA.turns hT (by omega)
  replace EB := EB.turns hT (by omega)
  replace ES := ES.turns hT (by omega)
  replace F1 := F1.beside ER (noWord3 (fun _ e => by cases e) (fun _ e => by cases e) (fun _ e => by cases e)) hT
  replace ER := Box.set3 (.bool g1) (.slice a1 x1.length c1) (.slice e1 y1.length t1) ER
  replace hB := hB.trans (hT.below.mono (by omega))
  clear hT
  clear hA
  go_wp2
  refine bodyPost_ret (v := .tuple #[.agg #[.bool g1, .slice a1 x1.length c1, .slice e1 y1.length t1], .int .i64 0]) (by simp [results, Tryz.f7, go_sem, r0, r1, r2]) rfl ?_
  exact ⟨_, _, _, _, _, _, _, rfl, F1.mono (by omega), P1, I1, hB⟩
set_option maxRecDepth 100000 in
set_option maxHeartbeats 4000000 in
theorem psub_no {lo lo2 : Nat} {a c p r : Option Addr} {ca cc cp cr : Nat} {xs ds ys es : List Int} {w : World} {n m : Nat} (b g : Bool) (FA : Fr lo w a ca xs c cc ds) (FB : Fr lo2 w p cp ys r cr es) (hla : xs.length ≤ n ∧ ds.length ≤ n) (hlb : ys.length ≤ m ∧ es.length ≤ m) (hn : n ≤ 40) (hm : m ≤ 40) (hno : ¬ (formR b xs ds = 0 ∧ formR g ys es = 0)) :
    Calls Tryz.prog 7 #[.agg #[.bool b, .slice a xs.length ca, .slice c ds.length cc], .agg #[.bool g, .slice p ys.length cp, .slice r es.length cr]] w fun e w' => e = .returned (.tuple #[.agg #[.bool false, .slice none 0 0, .slice none 0 0], .int .i64 6]) ∧ Below w.heap.size w w' := by
  have hB := Below.refl w.heap.size w
  go_enter Tryz.func7, Tryz.ntmps7
  have hA := Below.refl w.heap.size w
  have hq := below_new w (.cells #[.bool b, .slice a xs.length ca, .slice c ds.length cc] 27)
  replace FA := FA.below hq
  replace FB := FB.below hq
  have EA := Box.put (w := w) (k := (w.heap.size)) (.cells #[.bool b, .slice a xs.length ca, .slice c ds.length cc] 27) rfl
  replace hA := hA.trans (hq.mono hA.size)
  replace hB := hB.trans (hq.mono hB.size)
  clear hq
  have hq := below_new (w.alloc (.cells #[.bool b, .slice a xs.length ca, .slice c ds.length cc] 27)) (.cells #[.bool g, .slice p ys.length cp, .slice r es.length cr] 27)
  replace FA := FA.below hq
  replace FB := FB.below hq
  replace EA := EA.below hq
  have EB := Box.put (w := (w.alloc (.cells #[.bool b, .slice a xs.length ca, .slice c ds.length cc] 27))) (k := (w.heap.size + 1)) (.cells #[.bool g, .slice p ys.length cp, .slice r es.length cr] 27) (by simp)
  replace hA := hA.trans (hq.mono hA.size)
  replace hB := hB.trans (hq.mono hB.size)
  clear hq
  have hq := below_new ((w.alloc (.cells #[.bool b, .slice a xs.length ca, .slice c ds.length cc] 27)).alloc (.cells #[.bool g, .slice p ys.length cp, .slice r es.length cr] 27)) (.cells #[.bool false, .slice none 0 0, .slice none 0 0] 27)
  replace FA := FA.below hq
  replace FB := FB.below hq
  replace EA := EA.below hq
  replace EB := EB.below hq
  have ER := Box.put (w := ((w.alloc (.cells #[.bool b, .slice a xs.length ca, .slice c ds.length cc] 27)).alloc (.cells #[.bool g, .slice p ys.length cp, .slice r es.length cr] 27))) (k := (w.heap.size + 2)) (.cells #[.bool false, .slice none 0 0, .slice none 0 0] 27) (by simp)
  replace hA := hA.trans (hq.mono hA.size)
  replace hB := hB.trans (hq.mono hB.size)
  clear hq
  have hq := below_new (((w.alloc (.cells #[.bool b, .slice a xs.length ca, .slice c ds.length cc] 27)).alloc (.cells #[.bool g, .slice p ys.length cp, .slice r es.length cr] 27)).alloc (.cells #[.bool false, .slice none 0 0, .slice none 0 0] 27)) (.cells #[.bool g, .slice p ys.length cp, .slice r es.length cr] 27)
  replace FA := FA.below hq
  replace FB := FB.below hq
  replace EA := EA.below hq
  replace EB := EB.below hq
  replace ER := ER.below hq
  have ES := Box.put (w := (((w.alloc (.cells #[.bool b, .slice a xs.length ca, .slice c ds.length cc] 27)).alloc (.cells #[.bool g, .slice p ys.length cp, .slice r es.length cr] 27)).alloc (.cells #[.bool false, .slice none 0 0, .slice none 0 0] 27))) (k := (w.heap.size + 3)) (.cells #[.bool g, .slice p ys.length cp, .slice r es.length cr] 27) (by simp)
  replace hA := hA.trans (hq.mono hA.size)
  replace hB := hB.trans (hq.mono hB.size)
  clear hq
  clear hA
  go_wp2_with fail
  obtain ⟨u1, hname⟩ := nm hB
  rw [hname] at hB FA FB EA EB ER ES ⊢
  have zh1 := hB.size
  clear hname
  have R := row_box (rs := [⟨g, p, cp, ys, r, cr, es⟩]) (k := w.heap.size + 3) ES (fun x hx => by simp at hx; subst hx; exact FB.mono (Nat.zero_le _))
  have hk := fold_sub (cap := 1) R b FA (n := n) (m := m) hla (by simp) (fun x hx => by simp at hx; subst hx; exact hlb) hn hm
  refine (hk.mono (fun e w' h => (⟨FoldSaid.form h.1 (fun hG => hno ⟨hG.1, hG.2 ⟨g, p, cp, ys, r, cr, es⟩ (by simp)⟩), h.2⟩ : e = .returned (.tuple #[.agg #[.bool false, .slice none 0 0, .slice none 0 0], .int .i64 6]) ∧ Below _ _ w'))).mono ?_
  rintro e w2 ⟨rfl, hb⟩
  replace FA := FA.below hb
  replace FB := FB.below hb
  replace EA := EA.below hb
  replace EB := EB.below hb
  replace ER := ER.below hb
  replace ES := ES.below hb
  replace hB := hB.trans (hb.mono hB.size)
  have zz2 := hb.size
  have zh2 := hB.size
  clear hb
  clear hk R
  obtain ⟨k0, k1, k2, f0, f1, f2⟩ := EA.three
  obtain ⟨k3, k4, k5, f3, f4, f5⟩ := EB.three
  obtain ⟨k6, k7, k8, f6, f7, f8⟩ := ER.three
  obtain ⟨k9, k10, k11, f9, f10, f11⟩ := ES.three
  have hcc := ER.three
  have r0 := hcc.1
  have r1 := hcc.2.1
  have r2 := hcc.2.2.1
  clear hcc
  have qEA := EA.lt
  have qEB := EB.lt
  have qER := ER.lt
  have qES := ES.lt
  have hA := Below.refl w2.heap.size w2
  have hT := turns3 (w.heap.size + 2) w2 (.bool false) (.slice none 0 0) (.slice none 0 0)
  replace FA := FA.beside ER (noWord3 (fun _ e => by cases e) (fun _ e => by cases e) (fun _ e => by cases e)) hT
  replace FB := FB.beside ER (noWord3 (fun _ e => by cases e) (fun _ e => by cases e) (fun _ e => by cases e)) hT
  replace EA := EA.turns hT (by omega)
  replace EB := EB.turns hT (by omega)
  replace ES := ES.turns hT (by omega)
  replace ER := Box.set3 (.bool false) (.slice none 0 0) (.slice none 0 0) ER
  replace hB := hB.trans (hT.below.mono (by omega))
  clear hT
  clear hA
  go_wp2
  refine bodyPost_ret (v := .tuple #[.agg #[.bool false, .slice none 0 0, .slice none 0 0], .int .i64 6]) (by simp [results, Tryz.f7, go_sem, r0, r1, r2]) rfl ?_
  exact ⟨rfl, hB⟩
set_option maxRecDepth 100000 in
set_option maxHeartbeats 4000000 in
theorem pdiv_ok {lo lo2 : Nat} {a c p r : Option Addr} {ca cc cp cr : Nat} {xs ds ys es : List Int} {w : World} {n m : Nat} (b g : Bool) (FA : Fr lo w a ca xs c cc ds) (FB : Fr lo2 w p cp ys r cr es) (hla : xs.length ≤ n ∧ ds.length ≤ n) (hlb : ys.length ≤ m ∧ es.length ≤ m) (hn : n ≤ 40) (hm : m ≤ 40) (hga : formR b xs ds = 0) (hgb : formR g ys es = 0) (hs : ¬ ratL g ys es = 0) :
    Calls Tryz.prog 10 #[.agg #[.bool b, .slice a xs.length ca, .slice c ds.length cc], .agg #[.bool g, .slice p ys.length cp, .slice r es.length cr]] w fun e w' => ∃ (b' : Bool) (a' : Option Addr) (ca' : Nat) (ts' : List Int) (c' : Option Addr) (cc' : Nat) (es' : List Int), e = .returned (.tuple #[.agg #[.bool b', .slice a' ts'.length ca', .slice c' es'.length cc'], .int .i64 0]) ∧ Fr w.heap.size w' a' ca' ts' c' cc' es' ∧ Apart a' c' ts' es' ∧ Is b' ts' es' (ratL b xs ds / ratL g ys es) (n + m + 1) ∧ Below w.heap.size w w' := by
  have hB := Below.refl w.heap.size w
  go_enter Tryz.func10, Tryz.ntmps10
  have hA := Below.refl w.heap.size w
  have hq := below_new w (.cells #[.bool b, .slice a xs.length ca, .slice c ds.length cc] 27)
  replace FA := FA.below hq
  replace FB := FB.below hq
  have EA := Box.put (w := w) (k := (w.heap.size)) (.cells #[.bool b, .slice a xs.length ca, .slice c ds.length cc] 27) rfl
  replace hA := hA.trans (hq.mono hA.size)
  replace hB := hB.trans (hq.mono hB.size)
  clear hq
  have hq := below_new (w.alloc (.cells #[.bool b, .slice a xs.length ca, .slice c ds.length cc] 27)) (.cells #[.bool g, .slice p ys.length cp, .slice r es.length cr] 27)
  replace FA := FA.below hq
  replace FB := FB.below hq
  replace EA := EA.below hq
  have EB := Box.put (w := (w.alloc (.cells #[.bool b, .slice a xs.length ca, .slice c ds.length cc] 27))) (k := (w.heap.size + 1)) (.cells #[.bool g, .slice p ys.length cp, .slice r es.length cr] 27) (by simp)
  replace hA := hA.trans (hq.mono hA.size)
  replace hB := hB.trans (hq.mono hB.size)
  clear hq
  have hq := below_new ((w.alloc (.cells #[.bool b, .slice a xs.length ca, .slice c ds.length cc] 27)).alloc (.cells #[.bool g, .slice p ys.length cp, .slice r es.length cr] 27)) (.cells #[.bool false, .slice none 0 0, .slice none 0 0] 27)
  replace FA := FA.below hq
  replace FB := FB.below hq
  replace EA := EA.below hq
  replace EB := EB.below hq
  have ER := Box.put (w := ((w.alloc (.cells #[.bool b, .slice a xs.length ca, .slice c ds.length cc] 27)).alloc (.cells #[.bool g, .slice p ys.length cp, .slice r es.length cr] 27))) (k := (w.heap.size + 2)) (.cells #[.bool false, .slice none 0 0, .slice none 0 0] 27) (by simp)
  replace hA := hA.trans (hq.mono hA.size)
  replace hB := hB.trans (hq.mono hB.size)
  clear hq
  have hq := below_new (((w.alloc (.cells #[.bool b, .slice a xs.length ca, .slice c ds.length cc] 27)).alloc (.cells #[.bool g, .slice p ys.length cp, .slice r es.length cr] 27)).alloc (.cells #[.bool false, .slice none 0 0, .slice none 0 0] 27)) (.cells #[.bool g, .slice p ys.length cp, .slice r es.length cr] 27)
  replace FA := FA.below hq
  replace FB := FB.below hq
  replace EA := EA.below hq
  replace EB := EB.below hq
  replace ER := ER.below hq
  have ES := Box.put (w := (((w.alloc (.cells #[.bool b, .slice a xs.length ca, .slice c ds.length cc] 27)).alloc (.cells #[.bool g, .slice p ys.length cp, .slice r es.length cr] 27)).alloc (.cells #[.bool false, .slice none 0 0, .slice none 0 0] 27))) (k := (w.heap.size + 3)) (.cells #[.bool g, .slice p ys.length cp, .slice r es.length cr] 27) (by simp)
  replace hA := hA.trans (hq.mono hA.size)
  replace hB := hB.trans (hq.mono hB.size)
  clear hq
  clear hA
  go_wp2_with fail
  obtain ⟨u1, hname⟩ := nm hB
  rw [hname] at hB FA FB EA EB ER ES ⊢
  have zh1 := hB.size
  clear hname
  have R := row_box (rs := [⟨g, p, cp, ys, r, cr, es⟩]) (k := w.heap.size + 3) ES (fun x hx => by simp at hx; subst hx; exact FB.mono (Nat.zero_le _))
  have hk := fold_div (cap := 1) R b FA (n := n) (m := m) hla (by simp) (fun x hx => by simp at hx; subst hx; exact hlb) hn hm
  replace hk := hk.mono (fun e w' h => FoldSaid.okN h.1 h.2 ⟨hga, fun x hx => by simp at hx; subst hx; exact hgb⟩ (t := ratL b xs ds / ratL g ys es) (opFold_div1 hs) (by simp))
  refine (hk).mono ?_
  rintro e w2 ⟨g1, a1, c1, x1, e1, t1, y1, rfl, F1, P1, I1, hb⟩
  replace I1 : Is g1 x1 y1 (ratL b xs ds / ratL g ys es) (n + m + 1) := I1.mono (by simp <;> omega)
  replace FA := FA.below hb
  replace FB := FB.below hb
  replace EA := EA.below hb
  replace EB := EB.below hb
  replace ER := ER.below hb
  replace ES := ES.below hb
  replace hB := hB.trans (hb.mono hB.size)
  have zz2 := hb.size
  have zh2 := hB.size
  clear hb
  clear hk R
  obtain ⟨k0, k1, k2, f0, f1, f2⟩ := EA.three
  obtain ⟨k3, k4, k5, f3, f4, f5⟩ := EB.three
  obtain ⟨k6, k7, k8, f6, f7, f8⟩ := ER.three
  obtain ⟨k9, k10, k11, f9, f10, f11⟩ := ES.three
  have hcc := ER.three
  have r0 := hcc.1
  have r1 := hcc.2.1
  have r2 := hcc.2.2.1
  clear hcc
  have qEA := EA.lt
  have qEB := EB.lt
  have qER := ER.lt
  have qES := ES.lt
  have hA := Below.refl w2.heap.size w2
  have hT := turns3 (w.heap.size + 2) w2 (.bool g1) (.slice a1 x1.length c1) (.slice e1 y1.length t1)
  replace FA := FA.beside ER (noWord3 (fun _ e => by cases e) (fun _ e => by cases e) (fun _ e => by cases e)) hT
  replace FB := FB.beside ER (noWord3 (fun _ e => by cases e) (fun _ e => by cases e) (fun _ e => by cases e)) hT
  replace EA := EA.turns hT (by omega)
  replace EB := EB.turns hT (by omega)
  replace ES := ES.turns hT (by omega)
  replace F1 := F1.beside ER (noWord3 (fun _ e => by cases e) (fun _ e => by cases e) (fun _ e => by cases e)) hT
  replace ER := Box.set3 (.bool g1) (.slice a1 x1.length c1) (.slice e1 y1.length t1) ER
  replace hB := hB.trans (hT.below.mono (by omega))
  clear hT
  clear hA
  go_wp2
  refine bodyPost_ret (v := .tuple #[.agg #[.bool g1, .slice a1 x1.length c1, .slice e1 y1.length t1], .int .i64 0]) (by simp [results, Tryz.f10, go_sem, r0, r1, r2]) rfl ?_
  exact ⟨_, _, _, _, _, _, _, rfl, F1.mono (by omega), P1, I1, hB⟩
set_option maxRecDepth 100000 in
set_option maxHeartbeats 4000000 in
theorem pdiv_no {lo lo2 : Nat} {a c p r : Option Addr} {ca cc cp cr : Nat} {xs ds ys es : List Int} {w : World} {n m : Nat} (b g : Bool) (FA : Fr lo w a ca xs c cc ds) (FB : Fr lo2 w p cp ys r cr es) (hla : xs.length ≤ n ∧ ds.length ≤ n) (hlb : ys.length ≤ m ∧ es.length ≤ m) (hn : n ≤ 40) (hm : m ≤ 40) (hno : ¬ (formR b xs ds = 0 ∧ formR g ys es = 0)) :
    Calls Tryz.prog 10 #[.agg #[.bool b, .slice a xs.length ca, .slice c ds.length cc], .agg #[.bool g, .slice p ys.length cp, .slice r es.length cr]] w fun e w' => e = .returned (.tuple #[.agg #[.bool false, .slice none 0 0, .slice none 0 0], .int .i64 6]) ∧ Below w.heap.size w w' := by
  have hB := Below.refl w.heap.size w
  go_enter Tryz.func10, Tryz.ntmps10
  have hA := Below.refl w.heap.size w
  have hq := below_new w (.cells #[.bool b, .slice a xs.length ca, .slice c ds.length cc] 27)
  replace FA := FA.below hq
  replace FB := FB.below hq
  have EA := Box.put (w := w) (k := (w.heap.size)) (.cells #[.bool b, .slice a xs.length ca, .slice c ds.length cc] 27) rfl
  replace hA := hA.trans (hq.mono hA.size)
  replace hB := hB.trans (hq.mono hB.size)
  clear hq
  have hq := below_new (w.alloc (.cells #[.bool b, .slice a xs.length ca, .slice c ds.length cc] 27)) (.cells #[.bool g, .slice p ys.length cp, .slice r es.length cr] 27)
  replace FA := FA.below hq
  replace FB := FB.below hq
  replace EA := EA.below hq
  have EB := Box.put (w := (w.alloc (.cells #[.bool b, .slice a xs.length ca, .slice c ds.length cc] 27))) (k := (w.heap.size + 1)) (.cells #[.bool g, .slice p ys.length cp, .slice r es.length cr] 27) (by simp)
  replace hA := hA.trans (hq.mono hA.size)
  replace hB := hB.trans (hq.mono hB.size)
  clear hq
  have hq := below_new ((w.alloc (.cells #[.bool b, .slice a xs.length ca, .slice c ds.length cc] 27)).alloc (.cells #[.bool g, .slice p ys.length cp, .slice r es.length cr] 27)) (.cells #[.bool false, .slice none 0 0, .slice none 0 0] 27)
  replace FA := FA.below hq
  replace FB := FB.below hq
  replace EA := EA.below hq
  replace EB := EB.below hq
  have ER := Box.put (w := ((w.alloc (.cells #[.bool b, .slice a xs.length ca, .slice c ds.length cc] 27)).alloc (.cells #[.bool g, .slice p ys.length cp, .slice r es.length cr] 27))) (k := (w.heap.size + 2)) (.cells #[.bool false, .slice none 0 0, .slice none 0 0] 27) (by simp)
  replace hA := hA.trans (hq.mono hA.size)
  replace hB := hB.trans (hq.mono hB.size)
  clear hq
  have hq := below_new (((w.alloc (.cells #[.bool b, .slice a xs.length ca, .slice c ds.length cc] 27)).alloc (.cells #[.bool g, .slice p ys.length cp, .slice r es.length cr] 27)).alloc (.cells #[.bool false, .slice none 0 0, .slice none 0 0] 27)) (.cells #[.bool g, .slice p ys.length cp, .slice r es.length cr] 27)
  replace FA := FA.below hq
  replace FB := FB.below hq
  replace EA := EA.below hq
  replace EB := EB.below hq
  replace ER := ER.below hq
  have ES := Box.put (w := (((w.alloc (.cells #[.bool b, .slice a xs.length ca, .slice c ds.length cc] 27)).alloc (.cells #[.bool g, .slice p ys.length cp, .slice r es.length cr] 27)).alloc (.cells #[.bool false, .slice none 0 0, .slice none 0 0] 27))) (k := (w.heap.size + 3)) (.cells #[.bool g, .slice p ys.length cp, .slice r es.length cr] 27) (by simp)
  replace hA := hA.trans (hq.mono hA.size)
  replace hB := hB.trans (hq.mono hB.size)
  clear hq
  clear hA
  go_wp2_with fail
  obtain ⟨u1, hname⟩ := nm hB
  rw [hname] at hB FA FB EA EB ER ES ⊢
  have zh1 := hB.size
  clear hname
  have R := row_box (rs := [⟨g, p, cp, ys, r, cr, es⟩]) (k := w.heap.size + 3) ES (fun x hx => by simp at hx; subst hx; exact FB.mono (Nat.zero_le _))
  have hk := fold_div (cap := 1) R b FA (n := n) (m := m) hla (by simp) (fun x hx => by simp at hx; subst hx; exact hlb) hn hm
  refine (hk.mono (fun e w' h => (⟨FoldSaid.form h.1 (fun hG => hno ⟨hG.1, hG.2 ⟨g, p, cp, ys, r, cr, es⟩ (by simp)⟩), h.2⟩ : e = .returned (.tuple #[.agg #[.bool false, .slice none 0 0, .slice none 0 0], .int .i64 6]) ∧ Below _ _ w'))).mono ?_
  rintro e w2 ⟨rfl, hb⟩
  replace FA := FA.below hb
  replace FB := FB.below hb
  replace EA := EA.below hb
  replace EB := EB.below hb
  replace ER := ER.below hb
  replace ES := ES.below hb
  replace hB := hB.trans (hb.mono hB.size)
  have zz2 := hb.size
  have zh2 := hB.size
  clear hb
  clear hk R
  obtain ⟨k0, k1, k2, f0, f1, f2⟩ := EA.three
  obtain ⟨k3, k4, k5, f3, f4, f5⟩ := EB.three
  obtain ⟨k6, k7, k8, f6, f7, f8⟩ := ER.three
  obtain ⟨k9, k10, k11, f9, f10, f11⟩ := ES.three
  have hcc := ER.three
  have r0 := hcc.1
  have r1 := hcc.2.1
  have r2 := hcc.2.2.1
  clear hcc
  have qEA := EA.lt
  have qEB := EB.lt
  have qER := ER.lt
  have qES := ES.lt
  have hA := Below.refl w2.heap.size w2
  have hT := turns3 (w.heap.size + 2) w2 (.bool false) (.slice none 0 0) (.slice none 0 0)
  replace FA := FA.beside ER (noWord3 (fun _ e => by cases e) (fun _ e => by cases e) (fun _ e => by cases e)) hT
  replace FB := FB.beside ER (noWord3 (fun _ e => by cases e) (fun _ e => by cases e) (fun _ e => by cases e)) hT
  replace EA := EA.turns hT (by omega)
  replace EB := EB.turns hT (by omega)
  replace ES := ES.turns hT (by omega)
  replace ER := Box.set3 (.bool false) (.slice none 0 0) (.slice none 0 0) ER
  replace hB := hB.trans (hT.below.mono (by omega))
  clear hT
  clear hA
  go_wp2
  refine bodyPost_ret (v := .tuple #[.agg #[.bool false, .slice none 0 0, .slice none 0 0], .int .i64 6]) (by simp [results, Tryz.f10, go_sem, r0, r1, r2]) rfl ?_
  exact ⟨rfl, hB⟩
set_option maxRecDepth 100000 in
set_option maxHeartbeats 4000000 in
theorem pdiv_zero {lo lo2 : Nat} {a c p r : Option Addr} {ca cc cp cr : Nat} {xs ds ys es : List Int} {w : World} {n m : Nat} (b g : Bool) (FA : Fr lo w a ca xs c cc ds) (FB : Fr lo2 w p cp ys r cr es) (hla : xs.length ≤ n ∧ ds.length ≤ n) (hlb : ys.length ≤ m ∧ es.length ≤ m) (hn : n ≤ 40) (hm : m ≤ 40) (hga : formR b xs ds = 0) (hgb : formR g ys es = 0) (hs : ratL g ys es = 0) :
    Calls Tryz.prog 10 #[.agg #[.bool b, .slice a xs.length ca, .slice c ds.length cc], .agg #[.bool g, .slice p ys.length cp, .slice r es.length cr]] w fun e w' => e = .returned (.tuple #[.agg #[.bool false, .slice none 0 0, .slice none 0 0], .int .i64 5]) ∧ Below w.heap.size w w' := by
  have hB := Below.refl w.heap.size w
  go_enter Tryz.func10, Tryz.ntmps10
  have hA := Below.refl w.heap.size w
  have hq := below_new w (.cells #[.bool b, .slice a xs.length ca, .slice c ds.length cc] 27)
  replace FA := FA.below hq
  replace FB := FB.below hq
  have EA := Box.put (w := w) (k := (w.heap.size)) (.cells #[.bool b, .slice a xs.length ca, .slice c ds.length cc] 27) rfl
  replace hA := hA.trans (hq.mono hA.size)
  replace hB := hB.trans (hq.mono hB.size)
  clear hq
  have hq := below_new (w.alloc (.cells #[.bool b, .slice a xs.length ca, .slice c ds.length cc] 27)) (.cells #[.bool g, .slice p ys.length cp, .slice r es.length cr] 27)
  replace FA := FA.below hq
  replace FB := FB.below hq
  replace EA := EA.below hq
  have EB := Box.put (w := (w.alloc (.cells #[.bool b, .slice a xs.length ca, .slice c ds.length cc] 27))) (k := (w.heap.size + 1)) (.cells #[.bool g, .slice p ys.length cp, .slice r es.length cr] 27) (by simp)
  replace hA := hA.trans (hq.mono hA.size)
  replace hB := hB.trans (hq.mono hB.size)
  clear hq
  have hq := below_new ((w.alloc (.cells #[.bool b, .slice a xs.length ca, .slice c ds.length cc] 27)).alloc (.cells #[.bool g, .slice p ys.length cp, .slice r es.length cr] 27)) (.cells #[.bool false, .slice none 0 0, .slice none 0 0] 27)
  replace FA := FA.below hq
  replace FB := FB.below hq
  replace EA := EA.below hq
  replace EB := EB.below hq
  have ER := Box.put (w := ((w.alloc (.cells #[.bool b, .slice a xs.length ca, .slice c ds.length cc] 27)).alloc (.cells #[.bool g, .slice p ys.length cp, .slice r es.length cr] 27))) (k := (w.heap.size + 2)) (.cells #[.bool false, .slice none 0 0, .slice none 0 0] 27) (by simp)
  replace hA := hA.trans (hq.mono hA.size)
  replace hB := hB.trans (hq.mono hB.size)
  clear hq
  have hq := below_new (((w.alloc (.cells #[.bool b, .slice a xs.length ca, .slice c ds.length cc] 27)).alloc (.cells #[.bool g, .slice p ys.length cp, .slice r es.length cr] 27)).alloc (.cells #[.bool false, .slice none 0 0, .slice none 0 0] 27)) (.cells #[.bool g, .slice p ys.length cp, .slice r es.length cr] 27)
  replace FA := FA.below hq
  replace FB := FB.below hq
  replace EA := EA.below hq
  replace EB := EB.below hq
  replace ER := ER.below hq
  have ES := Box.put (w := (((w.alloc (.cells #[.bool b, .slice a xs.length ca, .slice c ds.length cc] 27)).alloc (.cells #[.bool g, .slice p ys.length cp, .slice r es.length cr] 27)).alloc (.cells #[.bool false, .slice none 0 0, .slice none 0 0] 27))) (k := (w.heap.size + 3)) (.cells #[.bool g, .slice p ys.length cp, .slice r es.length cr] 27) (by simp)
  replace hA := hA.trans (hq.mono hA.size)
  replace hB := hB.trans (hq.mono hB.size)
  clear hq
  clear hA
  go_wp2_with fail
  obtain ⟨u1, hname⟩ := nm hB
  rw [hname] at hB FA FB EA EB ER ES ⊢
  have zh1 := hB.size
  clear hname
  have R := row_box (rs := [⟨g, p, cp, ys, r, cr, es⟩]) (k := w.heap.size + 3) ES (fun x hx => by simp at hx; subst hx; exact FB.mono (Nat.zero_le _))
  have hk := fold_div (cap := 1) R b FA (n := n) (m := m) hla (by simp) (fun x hx => by simp at hx; subst hx; exact hlb) hn hm
  refine (hk.mono (fun e w' h => (⟨FoldSaid.zero h.1 ⟨hga, fun x hx => by simp at hx; subst hx; exact hgb⟩ (opFold_div0 hs), h.2⟩ : e = .returned (.tuple #[.agg #[.bool false, .slice none 0 0, .slice none 0 0], .int .i64 5]) ∧ Below _ _ w'))).mono ?_
  rintro e w2 ⟨rfl, hb⟩
  replace FA := FA.below hb
  replace FB := FB.below hb
  replace EA := EA.below hb
  replace EB := EB.below hb
  replace ER := ER.below hb
  replace ES := ES.below hb
  replace hB := hB.trans (hb.mono hB.size)
  have zz2 := hb.size
  have zh2 := hB.size
  clear hb
  clear hk R
  obtain ⟨k0, k1, k2, f0, f1, f2⟩ := EA.three
  obtain ⟨k3, k4, k5, f3, f4, f5⟩ := EB.three
  obtain ⟨k6, k7, k8, f6, f7, f8⟩ := ER.three
  obtain ⟨k9, k10, k11, f9, f10, f11⟩ := ES.three
  have hcc := ER.three
  have r0 := hcc.1
  have r1 := hcc.2.1
  have r2 := hcc.2.2.1
  clear hcc
  have qEA := EA.lt
  have qEB := EB.lt
  have qER := ER.lt
  have qES := ES.lt
  have hA := Below.refl w2.heap.size w2
  have hT := turns3 (w.heap.size + 2) w2 (.bool false) (.slice none 0 0) (.slice none 0 0)
  replace FA := FA.beside ER (noWord3 (fun _ e => by cases e) (fun _ e => by cases e) (fun _ e => by cases e)) hT
  replace FB := FB.beside ER (noWord3 (fun _ e => by cases e) (fun _ e => by cases e) (fun _ e => by cases e)) hT
  replace EA := EA.turns hT (by omega)
  replace EB := EB.turns hT (by omega)
  replace ES := ES.turns hT (by omega)
  replace ER := Box.set3 (.bool false) (.slice none 0 0) (.slice none 0 0) ER
  replace hB := hB.trans (hT.below.mono (by omega))
  clear hT
  clear hA
  go_wp2
  refine bodyPost_ret (v := .tuple #[.agg #[.bool false, .slice none 0 0, .slice none 0 0], .int .i64 5]) (by simp [results, Tryz.f10, go_sem, r0, r1, r2]) rfl ?_
  exact ⟨rfl, hB⟩
set_option maxRecDepth 100000 in
set_option maxHeartbeats 4000000 in
theorem pcmp_ok {lo lo2 : Nat} {a c p r : Option Addr} {ca cc cp cr : Nat} {xs ds ys es : List Int} {w : World} {n m : Nat} {q s : Rat} (b g : Bool) (FA : Fr lo w a ca xs c cc ds) (FB : Fr lo2 w p cp ys r cr es) (IA : Is b xs ds q n) (IB : Is g ys es s m) (hn : n + m ≤ 400) :
    Calls Tryz.prog 14 #[.agg #[.bool b, .slice a xs.length ca, .slice c ds.length cc], .agg #[.bool g, .slice p ys.length cp, .slice r es.length cr]] w fun e w' => e = .returned (.tuple #[.int .i64 (cmpR q s), .int .i64 0]) ∧ Below w.heap.size w w' := by
  have lxa := IA.lu
  have lda := IA.ld
  have lxb := IB.lu
  have ldb := IB.ld
  have HA : Hid (formR b xs ds = 0) := (formR_low FA.up.words FA.down.words).2 IA.low
  have HG : Hid (formR g ys es = 0) := (formR_low FB.up.words FB.down.words).2 IB.low
  obtain ⟨cv, hcv⟩ : ∃ cv, cmpR q s = cv := ⟨_, rfl⟩
  rw [hcv]
  have HC : Hid (cmpI (sgn b (val xs) * val es) (sgn g (val ys) * val ds) = cv) := by rw [Hid, ← hcv, ← IA.rat, ← IB.rat]; exact (cmpR_divInt IA.low.2.2.1 IB.low.2.2.1).symm
  have hB := Below.refl w.heap.size w
  clear hcv
  go_enter Tryz.func14, Tryz.ntmps14
  have hA := Below.refl w.heap.size w
  have hq := below_new w (.cells #[.bool b, .slice a xs.length ca, .slice c ds.length cc] 27)
  replace FA := FA.below hq
  replace FB := FB.below hq
  have EA := Box.put (w := w) (k := (w.heap.size)) (.cells #[.bool b, .slice a xs.length ca, .slice c ds.length cc] 27) rfl
  replace hA := hA.trans (hq.mono hA.size)
  replace hB := hB.trans (hq.mono hB.size)
  clear hq
  have hq := below_new (w.alloc (.cells #[.bool b, .slice a xs.length ca, .slice c ds.length cc] 27)) (.cells #[.bool g, .slice p ys.length cp, .slice r es.length cr] 27)
  replace FA := FA.below hq
  replace FB := FB.below hq
  replace EA := EA.below hq
  have EB := Box.put (w := (w.alloc (.cells #[.bool b, .slice a xs.length ca, .slice c ds.length cc] 27))) (k := (w.heap.size + 1)) (.cells #[.bool g, .slice p ys.length cp, .slice r es.length cr] 27) (by simp)
  replace hA := hA.trans (hq.mono hA.size)
  replace hB := hB.trans (hq.mono hB.size)
  clear hq
  clear hA
  go_wp2_with fail
  obtain ⟨u1, hname⟩ := nm hB
  rw [hname] at hB FA FB EA EB ⊢
  have zh1 := hB.size
  clear hname
  have hk := pcheck_any b FA (by omega) (by omega)
  rw [HA.out] at hk
  refine (hk).mono ?_
  rintro e w2 ⟨rfl, hb⟩
  replace FA := FA.below hb
  replace FB := FB.below hb
  replace EA := EA.below hb
  replace EB := EB.below hb
  replace hB := hB.trans (hb.mono hB.size)
  have zz2 := hb.size
  have zh2 := hB.size
  clear hb
  clear hk
  obtain ⟨k0, k1, k2, f0, f1, f2⟩ := EA.three
  obtain ⟨k3, k4, k5, f3, f4, f5⟩ := EB.three
  go_wp2_with fail
  clear k0 k1 k2 f0 f1 f2 k3 k4 k5 f3 f4 f5
  have hk := pcheck_any g FB (by omega) (by omega)
  rw [HG.out] at hk
  refine (hk).mono ?_
  rintro e w3 ⟨rfl, hb⟩
  replace FA := FA.below hb
  replace FB := FB.below hb
  replace EA := EA.below hb
  replace EB := EB.below hb
  replace hB := hB.trans (hb.mono hB.size)
  have zz3 := hb.size
  have zh3 := hB.size
  clear hb
  clear hk
  obtain ⟨k0, k1, k2, f0, f1, f2⟩ := EA.three
  obtain ⟨k3, k4, k5, f3, f4, f5⟩ := EB.three
  go_wp2_with fail
  clear k0 k1 k2 f0 f1 f2 k3 k4 k5 f3 f4 f5
  replace FA := FA.drew
  replace FB := FB.drew
  have qEA := EA.lt
  replace EA := EA.drew
  have qEB := EB.lt
  replace EB := EB.drew
  refine wp_yields 11 [.is (.pointer (some ⟨w.heap.size, 0, none⟩)), .is (.agg #[.bool b, .slice a xs.length ca]), .is (.pointer (some ⟨w.heap.size + 1, 2, none⟩)), .is (.slice r es.length cr), (Yield.int w3.heap.size (sgn b (val xs) * val es) (n + m)), .is (.pointer (some ⟨w.heap.size + 1, 0, none⟩)), .is (.agg #[.bool g, .slice p ys.length cp]), .is (.pointer (some ⟨w.heap.size, 2, none⟩)), .is (.slice c ds.length cc), (Yield.int w3.heap.size (sgn g (val ys) * val ds) (n + m)), (.is (.int .i64 cv))] (by kernel_rfl) (by kernel_rfl) (lt_cons ?_ (lt_cons ?_ (lt_cons ?_ (lt_cons ?_ (lt_cons ?_ (lt_cons ?_ (lt_cons ?_ (lt_cons ?_ (lt_cons ?_ (lt_cons ?_ (lt_cons ?_ lt_nil))))))))))) ?_
  case refine_1 =>
    refine OpDoes.mk rfl ?_
    intro vs V hV hd K hK
    have hh := fun (P : Prop) => Yield.int_elim P (show ((Yield.int w3.heap.size (sgn b (val xs) * val es) (n + m)) : Yield).At (vs 4) V from hd 4 (by decide) (by kernel_rfl))
    refine hh _ ?_
    intro g1 a1 c1 z1 d4 S1 N1 V1 b1
    clear hh
    have hh := fun (P : Prop) => Yield.int_elim P (show ((Yield.int w3.heap.size (sgn g (val ys) * val ds) (n + m)) : Yield).At (vs 9) V from hd 9 (by decide) (by kernel_rfl))
    refine hh _ ?_
    intro g2 a2 c2 z2 d9 S2 N2 V2 b2
    clear hh
    simp only [laidIn, lz1, lz2, lz3, lz4, lz5, lz6, if_true, Act.put, lz7, lz8, lz9] at hK ⊢
    simp only [d4, d9] at hK ⊢
    go_simp
    go_at_call 44
    have hc := scmp_any g1 g2 S1 S2 (by omega) (by omega)
    rw [V1.out, V2.out, HC.out] at hc
    refine (hc).mono ?_
    rintro e V' ⟨rfl, hb⟩
    exact hK.out _ _ hb rfl (not_fresh rfl)
  case refine_2 =>
    refine OpDoes.mk rfl ?_
    intro vs V hV hd K hK
    have d6 : vs 6 = .agg #[.bool g, .slice p ys.length cp] := hd 6 (by decide) (by kernel_rfl)
    have d8 : vs 8 = .slice c ds.length cc := hd 8 (by decide) (by kernel_rfl)
    simp only [laidIn, lz1, lz2, lz3, lz4, lz5, lz6, if_true, Act.put, lz7, lz8, lz9] at hK ⊢
    simp only [d6, d8] at hK ⊢
    go_simp
    go_at_call 45
    refine (stretch_any g (FB.up.below hV) (FA.down.below hV) (by omega) (by omega)).mono ?_
    rintro e V' ⟨g2, a2, c2, z2, rfl, S2, N2, v2, l2, hb⟩
    have V2 : Hid (sgn g2 (val z2) = sgn g (val ys) * val ds) := v2
    have b2 : z2.length ≤ n + m := by omega
    clear v2 l2
    exact hK.out _ _ hb ⟨_, _, _, _, rfl, S2.mono hV.size, N2, V2, b2⟩ (not_fresh rfl)
  case refine_3 =>
    refine OpDoes.mk rfl ?_
    intro vs V hV hd K hK
    have d7 : vs 7 = .pointer (some ⟨w.heap.size, 2, none⟩) := hd 7 (by decide) (by kernel_rfl)
    have hcc := (EA.below hV).three
    have k0 := hcc.1
    have k1 := hcc.2.1
    have k2 := hcc.2.2.1
    clear hcc
    simp only [laidIn, lz1, lz2, lz3, lz4, lz5, lz6, if_true, Act.put, lz7, lz8, lz9] at hK ⊢
    simp only [d7] at hK ⊢
    go_simp
    exact hK.out _ _ (Below.refl _ _) rfl (not_fresh rfl)
  case refine_4 =>
    refine OpDoes.mk rfl ?_
    intro vs V hV hd K hK
    simp only [laidIn, lz1, lz2, lz3, lz4, lz5, lz6, if_true, Act.put, lz7, lz8, lz9] at hK ⊢
    go_simp
    exact hK.out _ _ (Below.refl _ _) rfl (not_fresh rfl)
  case refine_5 =>
    refine OpDoes.mk rfl ?_
    intro vs V hV hd K hK
    have d5 : vs 5 = .pointer (some ⟨w.heap.size + 1, 0, none⟩) := hd 5 (by decide) (by kernel_rfl)
    have hcc := (EB.below hV).three
    have k0 := hcc.1
    have k1 := hcc.2.1
    have k2 := hcc.2.2.1
    clear hcc
    simp only [laidIn, lz1, lz2, lz3, lz4, lz5, lz6, if_true, Act.put, lz7, lz8, lz9] at hK ⊢
    simp only [d5] at hK ⊢
    go_simp
    exact hK.out _ _ (Below.refl _ _) rfl (not_fresh rfl)
  case refine_6 =>
    refine OpDoes.mk rfl ?_
    intro vs V hV hd K hK
    simp only [laidIn, lz1, lz2, lz3, lz4, lz5, lz6, if_true, Act.put, lz7, lz8, lz9] at hK ⊢
    go_simp
    exact hK.out _ _ (Below.refl _ _) rfl (not_fresh rfl)
  case refine_7 =>
    refine OpDoes.mk rfl ?_
    intro vs V hV hd K hK
    have d1 : vs 1 = .agg #[.bool b, .slice a xs.length ca] := hd 1 (by decide) (by kernel_rfl)
    have d3 : vs 3 = .slice r es.length cr := hd 3 (by decide) (by kernel_rfl)
    simp only [laidIn, lz1, lz2, lz3, lz4, lz5, lz6, if_true, Act.put, lz7, lz8, lz9] at hK ⊢
    simp only [d1, d3] at hK ⊢
    go_simp
    go_at_call 45
    refine (stretch_any b (FA.up.below hV) (FB.down.below hV) (by omega) (by omega)).mono ?_
    rintro e V' ⟨g1, a1, c1, z1, rfl, S1, N1, v1, l1, hb⟩
    have V1 : Hid (sgn g1 (val z1) = sgn b (val xs) * val es) := v1
    have b1 : z1.length ≤ n + m := by omega
    clear v1 l1
    exact hK.out _ _ hb ⟨_, _, _, _, rfl, S1.mono hV.size, N1, V1, b1⟩ (not_fresh rfl)
  case refine_8 =>
    refine OpDoes.mk rfl ?_
    intro vs V hV hd K hK
    have d2 : vs 2 = .pointer (some ⟨w.heap.size + 1, 2, none⟩) := hd 2 (by decide) (by kernel_rfl)
    have hcc := (EB.below hV).three
    have k0 := hcc.1
    have k1 := hcc.2.1
    have k2 := hcc.2.2.1
    clear hcc
    simp only [laidIn, lz1, lz2, lz3, lz4, lz5, lz6, if_true, Act.put, lz7, lz8, lz9] at hK ⊢
    simp only [d2] at hK ⊢
    go_simp
    exact hK.out _ _ (Below.refl _ _) rfl (not_fresh rfl)
  case refine_9 =>
    refine OpDoes.mk rfl ?_
    intro vs V hV hd K hK
    simp only [laidIn, lz1, lz2, lz3, lz4, lz5, lz6, if_true, Act.put, lz7, lz8, lz9] at hK ⊢
    go_simp
    exact hK.out _ _ (Below.refl _ _) rfl (not_fresh rfl)
  case refine_10 =>
    refine OpDoes.mk rfl ?_
    intro vs V hV hd K hK
    have d0 : vs 0 = .pointer (some ⟨w.heap.size, 0, none⟩) := hd 0 (by decide) (by kernel_rfl)
    have hcc := (EA.below hV).three
    have k0 := hcc.1
    have k1 := hcc.2.1
    have k2 := hcc.2.2.1
    clear hcc
    simp only [laidIn, lz1, lz2, lz3, lz4, lz5, lz6, if_true, Act.put, lz7, lz8, lz9] at hK ⊢
    simp only [d0] at hK ⊢
    go_simp
    exact hK.out _ _ (Below.refl _ _) rfl (not_fresh rfl)
  case refine_11 =>
    refine OpDoes.mk rfl ?_
    intro vs V hV hd K hK
    simp only [laidIn, lz1, lz2, lz4, lz5, lz6, if_true, Act.put, lz7, lz8, lz9] at hK ⊢
    go_simp
    exact hK.out _ _ (Below.refl _ _) rfl (not_fresh rfl)
  case refine_12 =>
    intro vs Y1 hV hR hne fuel
    have d0 : vs 0 = .pointer (some ⟨w.heap.size, 0, none⟩) := hR 0 (by decide)
    have d1 : vs 1 = .agg #[.bool b, .slice a xs.length ca] := hR 1 (by decide)
    have d2 : vs 2 = .pointer (some ⟨w.heap.size + 1, 2, none⟩) := hR 2 (by decide)
    have d3 : vs 3 = .slice r es.length cr := hR 3 (by decide)
    have hh := fun (P : Prop) => Yield.int_elim P (show ((Yield.int w3.heap.size (sgn b (val xs) * val es) (n + m)) : Yield).At (vs 4) Y1 from hR 4 (by decide))
    refine hh _ ?_
    intro g1 a1 c1 z1 d4 S1 N1 V1 b1
    clear hh
    have d5 : vs 5 = .pointer (some ⟨w.heap.size + 1, 0, none⟩) := hR 5 (by decide)
    have d6 : vs 6 = .agg #[.bool g, .slice p ys.length cp] := hR 6 (by decide)
    have d7 : vs 7 = .pointer (some ⟨w.heap.size, 2, none⟩) := hR 7 (by decide)
    have d8 : vs 8 = .slice c ds.length cc := hR 8 (by decide)
    have hh := fun (P : Prop) => Yield.int_elim P (show ((Yield.int w3.heap.size (sgn g (val ys) * val ds) (n + m)) : Yield).At (vs 9) Y1 from hR 9 (by decide))
    refine hh _ ?_
    intro g2 a2 c2 z2 d9 S2 N2 V2 b2
    clear hh
    have d10 : vs 10 = .int .i64 cv := hR 10 (by decide)
    replace FA := FA.below hV
    replace FB := FB.below hV
    replace EA := EA.below hV
    replace EB := EB.below hV
    have hr := hV
    simp only [laidIn, lz4, lz5, lz6, if_true, Act.put, lz7, lz8, lz9]
    simp only [d0, d1, d2, d3, d4, d5, d6, d7, d8, d9, d10]
    clear hR hne hV d0 d1 d2 d3 d4 d5 d6 d7 d8 d9 d10
    clear vs
    show wpAny _ _ _ _ (fuel + 2) _ _ _
    refine wpAny_all (rs := [11]) (by kernel_rfl) (by simp) (fun i hi => ?_)
    obtain rfl : i = 11 := by simpa using hi
    clear hi
    refine wpOp_step rfl (fun K hK => ?_)
    simp only [lz1, lz2, lz3]
    rw [if_pos (by rfl)]
    go_simp
    refine hK _ _ ?_
    clear hK
    refine wpAny_all (rs := [12]) (by kernel_rfl) (by simp) (fun i hi => ?_)
    obtain rfl : i = 12 := by simpa using hi
    clear hi
    refine wpOp_step rfl (fun K hK => ?_)
    simp only [lz1, lz2, lz3]
    rw [if_pos (by rfl)]
    go_simp
    refine hK _ _ ?_
    clear hK
    refine wpAny_done (by kernel_rfl) ?_ _
    replace hB := hB.trans ((Below.trans (Below.drew (Below.refl w3.heap.size w3)) hr).mono hB.size)
    have zz3_0 := hr.size
    have zi1 := hB.size
    clear hr 
    obtain ⟨k0, k1, k2, f0, f1, f2⟩ := EA.three
    obtain ⟨k3, k4, k5, f3, f4, f5⟩ := EB.three
    go_wp2
    go_ret2
    exact ⟨rfl, hB⟩
set_option maxRecDepth 100000 in
set_option maxHeartbeats 4000000 in
theorem pcmp_no {lo lo2 : Nat} {a c p r : Option Addr} {ca cc cp cr : Nat} {xs ds ys es : List Int} {w : World} (b g : Bool) (FA : Fr lo w a ca xs c cc ds) (FB : Fr lo2 w p cp ys r cr es) (hla : xs.length ≤ 400 ∧ ds.length ≤ 400) (hlb : ys.length ≤ 400 ∧ es.length ≤ 400) (hno : ¬ (formR b xs ds = 0 ∧ formR g ys es = 0)) :
    Calls Tryz.prog 14 #[.agg #[.bool b, .slice a xs.length ca, .slice c ds.length cc], .agg #[.bool g, .slice p ys.length cp, .slice r es.length cr]] w fun e w' => e = .returned (.tuple #[.int .i64 0, .int .i64 6]) ∧ Below w.heap.size w w' := by
  have hB := Below.refl w.heap.size w
  rcases formR_or b xs ds with HA | HA
  · have HG : Hid (formR g ys es = 6) := by
      rcases formR_or g ys es with h | h
      · exact absurd ⟨HA, h⟩ hno
      · exact h
    replace HA := hide HA
    clear hno
    go_enter Tryz.func14, Tryz.ntmps14
    have hA := Below.refl w.heap.size w
    have hq := below_new w (.cells #[.bool b, .slice a xs.length ca, .slice c ds.length cc] 27)
    replace FA := FA.below hq
    replace FB := FB.below hq
    have EA := Box.put (w := w) (k := (w.heap.size)) (.cells #[.bool b, .slice a xs.length ca, .slice c ds.length cc] 27) rfl
    replace hA := hA.trans (hq.mono hA.size)
    replace hB := hB.trans (hq.mono hB.size)
    clear hq
    have hq := below_new (w.alloc (.cells #[.bool b, .slice a xs.length ca, .slice c ds.length cc] 27)) (.cells #[.bool g, .slice p ys.length cp, .slice r es.length cr] 27)
    replace FA := FA.below hq
    replace FB := FB.below hq
    replace EA := EA.below hq
    have EB := Box.put (w := (w.alloc (.cells #[.bool b, .slice a xs.length ca, .slice c ds.length cc] 27))) (k := (w.heap.size + 1)) (.cells #[.bool g, .slice p ys.length cp, .slice r es.length cr] 27) (by simp)
    replace hA := hA.trans (hq.mono hA.size)
    replace hB := hB.trans (hq.mono hB.size)
    clear hq
    clear hA
    go_wp2_with fail
    obtain ⟨u1, hname⟩ := nm hB
    rw [hname] at hB FA FB EA EB ⊢
    have zh1 := hB.size
    clear hname
    have hk := pcheck_any b FA (by omega) (by omega)
    rw [HA.out] at hk
    refine (hk).mono ?_
    rintro e w2 ⟨rfl, hb⟩
    replace FA := FA.below hb
    replace FB := FB.below hb
    replace EA := EA.below hb
    replace EB := EB.below hb
    replace hB := hB.trans (hb.mono hB.size)
    have zz2 := hb.size
    have zh2 := hB.size
    clear hb
    clear hk
    obtain ⟨k0, k1, k2, f0, f1, f2⟩ := EA.three
    obtain ⟨k3, k4, k5, f3, f4, f5⟩ := EB.three
    go_wp2_with fail
    clear k0 k1 k2 f0 f1 f2 k3 k4 k5 f3 f4 f5
    have hk := pcheck_any g FB (by omega) (by omega)
    rw [HG.out] at hk
    refine (hk).mono ?_
    rintro e w3 ⟨rfl, hb⟩
    replace FA := FA.below hb
    replace FB := FB.below hb
    replace EA := EA.below hb
    replace EB := EB.below hb
    replace hB := hB.trans (hb.mono hB.size)
    have zz3 := hb.size
    have zh3 := hB.size
    clear hb
    clear hk
    obtain ⟨k0, k1, k2, f0, f1, f2⟩ := EA.three
    obtain ⟨k3, k4, k5, f3, f4, f5⟩ := EB.three
    go_wp2
    go_ret2
    exact ⟨rfl, hB⟩
  · replace HA := hide HA
    clear hno
    go_enter Tryz.func14, Tryz.ntmps14
    have hA := Below.refl w.heap.size w
    have hq := below_new w (.cells #[.bool b, .slice a xs.length ca, .slice c ds.length cc] 27)
    replace FA := FA.below hq
    replace FB := FB.below hq
    have EA := Box.put (w := w) (k := (w.heap.size)) (.cells #[.bool b, .slice a xs.length ca, .slice c ds.length cc] 27) rfl
    replace hA := hA.trans (hq.mono hA.size)
    replace hB := hB.trans (hq.mono hB.size)
    clear hq
    have hq := below_new (w.alloc (.cells #[.bool b, .slice a xs.length ca, .slice c ds.length cc] 27)) (.cells #[.bool g, .slice p ys.length cp, .slice r es.length cr] 27)
    replace FA := FA.below hq
    replace FB := FB.below hq
    replace EA := EA.below hq
    have EB := Box.put (w := (w.alloc (.cells #[.bool b, .slice a xs.length ca, .slice c ds.length cc] 27))) (k := (w.heap.size + 1)) (.cells #[.bool g, .slice p ys.length cp, .slice r es.length cr] 27) (by simp)
    replace hA := hA.trans (hq.mono hA.size)
    replace hB := hB.trans (hq.mono hB.size)
    clear hq
    clear hA
    go_wp2_with fail
    obtain ⟨u1, hname⟩ := nm hB
    rw [hname] at hB FA FB EA EB ⊢
    have zh1 := hB.size
    clear hname
    have hk := pcheck_any b FA (by omega) (by omega)
    rw [HA.out] at hk
    refine (hk).mono ?_
    rintro e w2 ⟨rfl, hb⟩
    replace FA := FA.below hb
    replace FB := FB.below hb
    replace EA := EA.below hb
    replace EB := EB.below hb
    replace hB := hB.trans (hb.mono hB.size)
    have zz2 := hb.size
    have zh2 := hB.size
    clear hb
    clear hk
    obtain ⟨k0, k1, k2, f0, f1, f2⟩ := EA.three
    obtain ⟨k3, k4, k5, f3, f4, f5⟩ := EB.three
    go_wp2
    go_ret2
    exact ⟨rfl, hB⟩
set_option maxRecDepth 100000 in
set_option maxHeartbeats 4000000 in
theorem pround_ok {lo : Nat} {a c : Option Addr} {ca cc : Nat} {xs ds : List Int} {w : World} (b : Bool) (FA : Fr lo w a ca xs c cc ds) {n : Nat} {q : Rat} (IA : Is b xs ds q n) (hn : n ≤ 400) :
    Calls Tryz.prog 16 #[.agg #[.bool b, .slice a xs.length ca, .slice c ds.length cc]] w fun e w' => ∃ (b' : Bool) (a' : Option Addr) (cap' : Nat) (ts : List Int), e = .returned (.tuple #[.agg #[.bool b', .slice a' ts.length cap'], .int .i64 0]) ∧ Seg w.heap.size w' (.slice a' ts.length cap') ts ∧ Canon b' ts ∧ Hid (sgn b' (val ts) = sgn b (roundN (val xs) (val ds))) ∧ ts.length ≤ n + 2 ∧ Below w.heap.size w w' := by
  have lxa := IA.lu
  have lda := IA.ld
  have pd := IA.low.2.2.1
  have px := val_nonneg FA.up.words
  have HA : Hid (formR b xs ds = 0) := (formR_low FA.up.words FA.down.words).2 IA.low
  have hB := Below.refl w.heap.size w
  go_enter Tryz.func16, Tryz.ntmps16
  have hA := Below.refl w.heap.size w
  have hq := below_new w (.cells #[.bool b, .slice a xs.length ca, .slice c ds.length cc] 27)
  replace FA := FA.below hq
  have EA := Box.put (w := w) (k := (w.heap.size)) (.cells #[.bool b, .slice a xs.length ca, .slice c ds.length cc] 27) rfl
  replace hA := hA.trans (hq.mono hA.size)
  replace hB := hB.trans (hq.mono hB.size)
  clear hq
  have hq := below_new (w.alloc (.cells #[.bool b, .slice a xs.length ca, .slice c ds.length cc] 27)) (.cells #[.bool false, .slice none 0 0] 25)
  replace FA := FA.below hq
  replace EA := EA.below hq
  have ER := Box.put (w := (w.alloc (.cells #[.bool b, .slice a xs.length ca, .slice c ds.length cc] 27))) (k := (w.heap.size + 1)) (.cells #[.bool false, .slice none 0 0] 25) (by simp)
  replace hA := hA.trans (hq.mono hA.size)
  replace hB := hB.trans (hq.mono hB.size)
  clear hq
  clear hA
  go_wp2_with fail
  obtain ⟨u1, hname⟩ := nm hB
  rw [hname] at hB FA EA ER ⊢
  have zh1 := hB.size
  clear hname
  have hk := pcheck_any b FA (by omega) (by omega)
  rw [HA.out] at hk
  refine (hk).mono ?_
  rintro e w2 ⟨rfl, hb⟩
  replace FA := FA.below hb
  replace EA := EA.below hb
  replace ER := ER.below hb
  replace hB := hB.trans (hb.mono hB.size)
  have zz2 := hb.size
  have zh2 := hB.size
  clear hb
  clear hk
  obtain ⟨k0, k1, k2, f0, f1, f2⟩ := EA.three
  obtain ⟨k3, k4, f3, f4⟩ := ER.two
  go_wp2_with fail
  clear k0 k1 k2 f0 f1 f2 k3 k4 f3 f4
  have hk := qdiv_all FA.up FA.down (by omega) (by omega)
  rw [errZ_pos pd, remZ_pos _ pd] at hk
  refine (hk).mono ?_
  rintro e w3 ⟨a1, a2, c1, c2, z1, z2, rfl, S1, S2, N1, N2, v1, v2, hap, hb⟩
  have b1 : z1.length ≤ n := Nat.le_trans (len_below S1.words N1 (by rw [v1]; exact Int.lt_of_le_of_lt (Int.ediv_le_self _ px) (val_lt FA.up.words))) lxa
  have b2 : z2.length ≤ n := Nat.le_trans (len_below S2.words N2 (by have := val_lt FA.down.words; have := Int.emod_lt_of_pos (val xs) pd; rw [v2]; omega)) lda
  have V1 := hide v1
  have V2 := hide v2
  clear v1 v2 hap
  replace FA := FA.below hb
  replace EA := EA.below hb
  replace ER := ER.below hb
  replace hB := hB.trans (hb.mono hB.size)
  have zz3 := hb.size
  have zh3 := hB.size
  clear hb
  clear hk
  obtain ⟨cv, hcv⟩ : ∃ cv, cmpI (val z2 + val z2) (val ds) = cv := ⟨_, rfl⟩
  have HC := hide hcv
  clear hcv
  obtain ⟨k0, k1, k2, f0, f1, f2⟩ := EA.three
  obtain ⟨k3, k4, f3, f4⟩ := ER.two
  go_wp2_with fail
  clear k0 k1 k2 f0 f1 f2 k3 k4 f3 f4
  replace FA := FA.drew
  have qEA := EA.lt
  replace EA := EA.drew
  have qER := ER.lt
  replace ER := ER.drew
  replace S1 := S1.drew
  replace S2 := S2.drew
  refine wp_yields 6 [.is (.slice a2 z2.length c2), .is (.slice a2 z2.length c2), (Yield.nat w3.heap.size (val z2 + val z2) (n + 1)), .is (.pointer (some ⟨w.heap.size, 2, none⟩)), .is (.slice c ds.length cc), (.is (.int .i64 cv))] (by kernel_rfl) (by kernel_rfl) (lt_cons ?_ (lt_cons ?_ (lt_cons ?_ (lt_cons ?_ (lt_cons ?_ (lt_cons ?_ lt_nil)))))) ?_
  case refine_1 =>
    refine OpDoes.mk rfl ?_
    intro vs V hV hd K hK
    have hh := fun (P : Prop) => Yield.nat_elim P (show ((Yield.nat w3.heap.size (val z2 + val z2) (n + 1)) : Yield).At (vs 2) V from hd 2 (by decide) (by kernel_rfl))
    refine hh _ ?_
    intro a3 c3 z3 d2 S3 N3 V3 b3
    clear hh
    have d4 : vs 4 = .slice c ds.length cc := hd 4 (by decide) (by kernel_rfl)
    simp only [laidIn, lz1, lz2, lz3, lz4, lz5, lz6, if_true, Act.put, lz7, lz8, lz9] at hK ⊢
    simp only [d2, d4] at hK ⊢
    go_simp
    go_at_call 49
    have hc := cmp_any S3 (FA.down.below hV) (by omega) (by omega)
    rw [V3.out, HC.out] at hc
    refine (hc).mono ?_
    rintro e V' ⟨rfl, hb⟩
    exact hK.out _ _ hb rfl (not_fresh rfl)
  case refine_2 =>
    refine OpDoes.mk rfl ?_
    intro vs V hV hd K hK
    have d3 : vs 3 = .pointer (some ⟨w.heap.size, 2, none⟩) := hd 3 (by decide) (by kernel_rfl)
    have hcc := (EA.below hV).three
    have k0 := hcc.1
    have k1 := hcc.2.1
    have k2 := hcc.2.2.1
    clear hcc
    simp only [laidIn, lz1, lz2, lz3, lz4, lz5, lz6, if_true, Act.put, lz7, lz8, lz9] at hK ⊢
    simp only [d3] at hK ⊢
    go_simp
    exact hK.out _ _ (Below.refl _ _) rfl (not_fresh rfl)
  case refine_3 =>
    refine OpDoes.mk rfl ?_
    intro vs V hV hd K hK
    simp only [laidIn, lz1, lz2, lz3, lz4, lz5, lz6, if_true, Act.put, lz7, lz8, lz9] at hK ⊢
    go_simp
    exact hK.out _ _ (Below.refl _ _) rfl (not_fresh rfl)
  case refine_4 =>
    refine OpDoes.mk rfl ?_
    intro vs V hV hd K hK
    have d0 : vs 0 = .slice a2 z2.length c2 := hd 0 (by decide) (by kernel_rfl)
    have d1 : vs 1 = .slice a2 z2.length c2 := hd 1 (by decide) (by kernel_rfl)
    simp only [laidIn, lz1, lz2, lz3, lz4, lz5, lz6, if_true, Act.put, lz7, lz8, lz9] at hK ⊢
    simp only [d0, d1] at hK ⊢
    go_simp
    go_at_call 50
    refine (add_any (S2.below hV) (S2.below hV) (by omega) (by omega)).mono ?_
    rintro e V' ⟨a3, c3, z3, rfl, S3, N3, v3, l3, hb⟩
    have V3 : Hid (val z3 = val z2 + val z2) := v3
    have b3 : z3.length ≤ n + 1 := by omega
    clear v3 l3
    exact hK.out _ _ hb ⟨_, _, _, rfl, S3.mono hV.size, N3, V3, b3⟩ (not_fresh rfl)
  case refine_5 =>
    refine OpDoes.mk rfl ?_
    intro vs V hV hd K hK
    simp only [laidIn, lz1, lz2, lz3, lz4, lz5, lz6, if_true, Act.put, lz7, lz8, lz9] at hK ⊢
    go_simp
    exact hK.out _ _ (Below.refl _ _) rfl (not_fresh rfl)
  case refine_6 =>
    refine OpDoes.mk rfl ?_
    intro vs V hV hd K hK
    simp only [laidIn, lz1, lz2, lz4, lz5, lz6, if_true, Act.put, lz7, lz8, lz9] at hK ⊢
    go_simp
    exact hK.out _ _ (Below.refl _ _) rfl (not_fresh rfl)
  case refine_7 =>
    intro vs Y1 hV hR hne fuel
    have d0 : vs 0 = .slice a2 z2.length c2 := hR 0 (by decide)
    have d1 : vs 1 = .slice a2 z2.length c2 := hR 1 (by decide)
    have hh := fun (P : Prop) => Yield.nat_elim P (show ((Yield.nat w3.heap.size (val z2 + val z2) (n + 1)) : Yield).At (vs 2) Y1 from hR 2 (by decide))
    refine hh _ ?_
    intro a3 c3 z3 d2 S3 N3 V3 b3
    clear hh
    have d3 : vs 3 = .pointer (some ⟨w.heap.size, 2, none⟩) := hR 3 (by decide)
    have d4 : vs 4 = .slice c ds.length cc := hR 4 (by decide)
    have d5 : vs 5 = .int .i64 cv := hR 5 (by decide)
    replace FA := FA.below hV
    replace EA := EA.below hV
    replace ER := ER.below hV
    replace S1 := S1.below hV
    replace S2 := S2.below hV
    have hr := hV
    simp only [laidIn, lz4, lz5, lz6, if_true, Act.put, lz7, lz8, lz9]
    simp only [d0, d1, d2, d3, d4, d5]
    clear hR hne hV d0 d1 d2 d3 d4 d5
    clear vs
    show wpAny _ _ _ _ (fuel + 1) _ _ _
    refine wpAny_all (rs := [6]) (by kernel_rfl) (by simp) (fun i hi => ?_)
    obtain rfl : i = 6 := by simpa using hi
    clear hi
    refine wpOp_step rfl (fun K hK => ?_)
    simp only [lz1, lz2, lz3]
    rw [if_pos (by rfl)]
    go_simp
    refine hK _ _ ?_
    clear hK
    refine wpAny_done (by kernel_rfl) ?_ _
    replace hB := hB.trans ((Below.trans (Below.drew (Below.refl w3.heap.size w3)) hr).mono hB.size)
    have zz3_0 := hr.size
    have zi1 := hB.size
    clear hr 
    clear S3 S2
    have hr := Int.emod_nonneg (val xs) (show val ds ≠ 0 by omega)
    rcases Int.lt_trichotomy (val z2 + val z2) (val ds) with hlt | heq | hgt
    · skip
      obtain rfl : cv = -1 := by rw [← HC.out]; exact cmpI_lt hlt
      have HR : Hid (roundN (val xs) (val ds) = val xs / val ds) := by rw [Hid, roundN, if_neg]; have := V2.out; omega
      clear hlt HC
      obtain ⟨k0, k1, k2, f0, f1, f2⟩ := EA.three
      obtain ⟨k3, k4, f3, f4⟩ := ER.two
      go_wp2_with fail
      clear k0 k1 k2 f0 f1 f2 k3 k4 f3 f4
      refine (smake_any S1 (by omega) b).mono ?_
      rintro e w4 ⟨g4, a4, c4, z4, rfl, S4, N4, v4, l4, hb⟩
      have V4 : Hid (sgn g4 (val z4) = sgn b (roundN (val xs) (val ds))) := by rw [Hid, v4, HR.out, V1.out]
      have b4 : z4.length ≤ n + 2 := by omega
      clear v4 l4
      replace FA := FA.below hb
      replace EA := EA.below hb
      replace ER := ER.below hb
      replace S1 := S1.below hb
      replace hB := hB.trans (hb.mono hB.size)
      have zz4 := hb.size
      have zh4 := hB.size
      clear hb
      obtain ⟨k0, k1, k2, f0, f1, f2⟩ := EA.three
      obtain ⟨k3, k4, f3, f4⟩ := ER.two
      have hcc := ER.two
      have r0 := hcc.1
      have r1 := hcc.2.1
      clear hcc
      have qEA := EA.lt
      have qER := ER.lt
      have hA := Below.refl w4.heap.size w4
      have hT := (((Turns.refl (w.heap.size + 1) w4).setCell 0 (.bool g4)).setCell 1 (.slice a4 z4.length c4))
      replace FA := FA.beside ER (noWord2 (fun _ e => by cases e) (fun _ e => by cases e)) hT
      replace EA := EA.turns hT (by omega)
      replace S1 := S1.beside ER (noWord2 (fun _ e => by cases e) (fun _ e => by cases e)) hT
      replace S4 := S4.beside ER (noWord2 (fun _ e => by cases e) (fun _ e => by cases e)) hT
      replace ER : Box ((w4.setCell ⟨w.heap.size + 1, 0, none⟩ (.bool g4)).setCell ⟨w.heap.size + 1, 1, none⟩ (.slice a4 z4.length c4)) (w.heap.size + 1) (.cells #[.bool g4, .slice a4 z4.length c4] 25) := ⟨Nat.lt_of_lt_of_le ER.lt hT.below.size, (heap_setCell_same _ _ 1 _ _ _ (heap_setCell_same _ _ 0 _ _ _ ER.what))⟩
      replace hB := hB.trans (hT.below.mono (by omega))
      clear hT
      clear hA
      go_wp2
      refine bodyPost_ret (v := .tuple #[.agg #[.bool g4, .slice a4 z4.length c4], .int .i64 0]) (by simp [results, Tryz.f16, go_sem, r0, r1]) rfl ?_
      exact ⟨_, _, _, _, rfl, S4.mono (by omega), N4, V4, b4, hB⟩
    · obtain rfl : cv = 0 := by rw [← HC.out, heq, cmpI_eq]
      by_cases hodd : val z1 % 2 = 1
      · skip
        have HR : Hid (roundN (val xs) (val ds) = val xs / val ds + 1) := by rw [Hid, roundN, if_pos]; have := V2.out; have := V1.out; right; constructor <;> omega
        clear heq HC
        obtain ⟨k0, k1, k2, f0, f1, f2⟩ := EA.three
        obtain ⟨k3, k4, f3, f4⟩ := ER.two
        go_wp2_with fail
        clear k0 k1 k2 f0 f1 f2 k3 k4 f3 f4
        have hk := isOdd_any S1
        rw [decide_eq_true hodd] at hk
        refine (hk).mono ?_
        rintro e w4 ⟨rfl, hb⟩
        replace FA := FA.below hb
        replace EA := EA.below hb
        replace ER := ER.below hb
        replace S1 := S1.below hb
        replace hB := hB.trans (hb.mono hB.size)
        have zz4 := hb.size
        have zh4 := hB.size
        clear hb
        clear hk hodd
        obtain ⟨k0, k1, k2, f0, f1, f2⟩ := EA.three
        obtain ⟨k3, k4, f3, f4⟩ := ER.two
        go_wp2_with fail
        clear k0 k1 k2 f0 f1 f2 k3 k4 f3 f4
        refine (of_any 1 (by decide) _).mono ?_
        rintro e w5 ⟨a4, c4, z4, rfl, S4, N4, v4, l4, hb⟩
        have V4 : Hid (val z4 = (1 : Int)) := v4
        have b4 : z4.length ≤ 1 := by omega
        clear v4 l4
        replace FA := FA.below hb
        replace EA := EA.below hb
        replace ER := ER.below hb
        replace S1 := S1.below hb
        replace hB := hB.trans (hb.mono hB.size)
        have zz5 := hb.size
        have zh5 := hB.size
        clear hb
        obtain ⟨k0, k1, k2, f0, f1, f2⟩ := EA.three
        obtain ⟨k3, k4, f3, f4⟩ := ER.two
        go_wp2_with fail
        clear k0 k1 k2 f0 f1 f2 k3 k4 f3 f4
        refine (add_any S1 S4 (by omega) (by omega)).mono ?_
        rintro e w6 ⟨a5, c5, z5, rfl, S5, N5, v5, l5, hb⟩
        have V5 : Hid (val z5 = val z1 + 1) := by rw [Hid, v5, V4.out]
        have b5 : z5.length ≤ n + 2 := by omega
        clear v5 l5
        replace FA := FA.below hb
        replace EA := EA.below hb
        replace ER := ER.below hb
        replace S1 := S1.below hb
        replace S4 := S4.below hb
        replace hB := hB.trans (hb.mono hB.size)
        have zz6 := hb.size
        have zh6 := hB.size
        clear hb
        obtain ⟨k0, k1, k2, f0, f1, f2⟩ := EA.three
        obtain ⟨k3, k4, f3, f4⟩ := ER.two
        go_wp2_with fail
        clear k0 k1 k2 f0 f1 f2 k3 k4 f3 f4
        refine (smake_any S5 (by omega) b).mono ?_
        rintro e w7 ⟨g6, a6, c6, z6, rfl, S6, N6, v6, l6, hb⟩
        have V6 : Hid (sgn g6 (val z6) = sgn b (roundN (val xs) (val ds))) := by rw [Hid, v6, HR.out, V5.out, V1.out]
        have b6 : z6.length ≤ n + 2 := by omega
        clear v6 l6
        replace FA := FA.below hb
        replace EA := EA.below hb
        replace ER := ER.below hb
        replace S1 := S1.below hb
        replace S4 := S4.below hb
        replace S5 := S5.below hb
        replace hB := hB.trans (hb.mono hB.size)
        have zz7 := hb.size
        have zh7 := hB.size
        clear hb
        obtain ⟨k0, k1, k2, f0, f1, f2⟩ := EA.three
        obtain ⟨k3, k4, f3, f4⟩ := ER.two
        have hcc := ER.two
        have r0 := hcc.1
        have r1 := hcc.2.1
        clear hcc
        have qEA := EA.lt
        have qER := ER.lt
        have hA := Below.refl w7.heap.size w7
        have hT := (((Turns.refl (w.heap.size + 1) w7).setCell 0 (.bool g6)).setCell 1 (.slice a6 z6.length c6))
        replace FA := FA.beside ER (noWord2 (fun _ e => by cases e) (fun _ e => by cases e)) hT
        replace EA := EA.turns hT (by omega)
        replace S1 := S1.beside ER (noWord2 (fun _ e => by cases e) (fun _ e => by cases e)) hT
        replace S4 := S4.beside ER (noWord2 (fun _ e => by cases e) (fun _ e => by cases e)) hT
        replace S5 := S5.beside ER (noWord2 (fun _ e => by cases e) (fun _ e => by cases e)) hT
        replace S6 := S6.beside ER (noWord2 (fun _ e => by cases e) (fun _ e => by cases e)) hT
        replace ER : Box ((w7.setCell ⟨w.heap.size + 1, 0, none⟩ (.bool g6)).setCell ⟨w.heap.size + 1, 1, none⟩ (.slice a6 z6.length c6)) (w.heap.size + 1) (.cells #[.bool g6, .slice a6 z6.length c6] 25) := ⟨Nat.lt_of_lt_of_le ER.lt hT.below.size, (heap_setCell_same _ _ 1 _ _ _ (heap_setCell_same _ _ 0 _ _ _ ER.what))⟩
        replace hB := hB.trans (hT.below.mono (by omega))
        clear hT
        clear hA
        go_wp2
        refine bodyPost_ret (v := .tuple #[.agg #[.bool g6, .slice a6 z6.length c6], .int .i64 0]) (by simp [results, Tryz.f16, go_sem, r0, r1]) rfl ?_
        exact ⟨_, _, _, _, rfl, S6.mono (by omega), N6, V6, b6, hB⟩
      · skip
        have HR : Hid (roundN (val xs) (val ds) = val xs / val ds) := by rw [Hid, roundN, if_neg]; have := V2.out; have := V1.out; rintro (h | ⟨h, h2⟩) <;> omega
        clear heq HC
        obtain ⟨k0, k1, k2, f0, f1, f2⟩ := EA.three
        obtain ⟨k3, k4, f3, f4⟩ := ER.two
        go_wp2_with fail
        clear k0 k1 k2 f0 f1 f2 k3 k4 f3 f4
        have hk := isOdd_any S1
        rw [decide_eq_false hodd] at hk
        refine (hk).mono ?_
        rintro e w4 ⟨rfl, hb⟩
        replace FA := FA.below hb
        replace EA := EA.below hb
        replace ER := ER.below hb
        replace S1 := S1.below hb
        replace hB := hB.trans (hb.mono hB.size)
        have zz4 := hb.size
        have zh4 := hB.size
        clear hb
        clear hk hodd
        obtain ⟨k0, k1, k2, f0, f1, f2⟩ := EA.three
        obtain ⟨k3, k4, f3, f4⟩ := ER.two
        go_wp2_with fail
        clear k0 k1 k2 f0 f1 f2 k3 k4 f3 f4
        refine (smake_any S1 (by omega) b).mono ?_
        rintro e w5 ⟨g4, a4, c4, z4, rfl, S4, N4, v4, l4, hb⟩
        have V4 : Hid (sgn g4 (val z4) = sgn b (roundN (val xs) (val ds))) := by rw [Hid, v4, HR.out, V1.out]
        have b4 : z4.length ≤ n + 2 := by omega
        clear v4 l4
        replace FA := FA.below hb
        replace EA := EA.below hb
        replace ER := ER.below hb
        replace S1 := S1.below hb
        replace hB := hB.trans (hb.mono hB.size)
        have zz5 := hb.size
        have zh5 := hB.size
        clear hb
        obtain ⟨k0, k1, k2, f0, f1, f2⟩ := EA.three
        obtain ⟨k3, k4, f3, f4⟩ := ER.two
        have hcc := ER.two
        have r0 := hcc.1
        have r1 := hcc.2.1
        clear hcc
        have qEA := EA.lt
        have qER := ER.lt
        have hA := Below.refl w5.heap.size w5
        have hT := (((Turns.refl (w.heap.size + 1) w5).setCell 0 (.bool g4)).setCell 1 (.slice a4 z4.length c4))
        replace FA := FA.beside ER (noWord2 (fun _ e => by cases e) (fun _ e => by cases e)) hT
        replace EA := EA.turns hT (by omega)
        replace S1 := S1.beside ER (noWord2 (fun _ e => by cases e) (fun _ e => by cases e)) hT
        replace S4 := S4.beside ER (noWord2 (fun _ e => by cases e) (fun _ e => by cases e)) hT
        replace ER : Box ((w5.setCell ⟨w.heap.size + 1, 0, none⟩ (.bool g4)).setCell ⟨w.heap.size + 1, 1, none⟩ (.slice a4 z4.length c4)) (w.heap.size + 1) (.cells #[.bool g4, .slice a4 z4.length c4] 25) := ⟨Nat.lt_of_lt_of_le ER.lt hT.below.size, (heap_setCell_same _ _ 1 _ _ _ (heap_setCell_same _ _ 0 _ _ _ ER.what))⟩
        replace hB := hB.trans (hT.below.mono (by omega))
        clear hT
        clear hA
        go_wp2
        refine bodyPost_ret (v := .tuple #[.agg #[.bool g4, .slice a4 z4.length c4], .int .i64 0]) (by simp [results, Tryz.f16, go_sem, r0, r1]) rfl ?_
        exact ⟨_, _, _, _, rfl, S4.mono (by omega), N4, V4, b4, hB⟩
    · skip
      obtain rfl : cv = 1 := by rw [← HC.out]; exact cmpI_gt hgt
      have HR : Hid (roundN (val xs) (val ds) = val xs / val ds + 1) := by rw [Hid, roundN, if_pos]; have := V2.out; left; omega
      clear hgt HC
      obtain ⟨k0, k1, k2, f0, f1, f2⟩ := EA.three
      obtain ⟨k3, k4, f3, f4⟩ := ER.two
      go_wp2_with fail
      clear k0 k1 k2 f0 f1 f2 k3 k4 f3 f4
      refine (of_any 1 (by decide) _).mono ?_
      rintro e w4 ⟨a4, c4, z4, rfl, S4, N4, v4, l4, hb⟩
      have V4 : Hid (val z4 = (1 : Int)) := v4
      have b4 : z4.length ≤ 1 := by omega
      clear v4 l4
      replace FA := FA.below hb
      replace EA := EA.below hb
      replace ER := ER.below hb
      replace S1 := S1.below hb
      replace hB := hB.trans (hb.mono hB.size)
      have zz4 := hb.size
      have zh4 := hB.size
      clear hb
      obtain ⟨k0, k1, k2, f0, f1, f2⟩ := EA.three
      obtain ⟨k3, k4, f3, f4⟩ := ER.two
      go_wp2_with fail
      clear k0 k1 k2 f0 f1 f2 k3 k4 f3 f4
      refine (add_any S1 S4 (by omega) (by omega)).mono ?_
      rintro e w5 ⟨a5, c5, z5, rfl, S5, N5, v5, l5, hb⟩
      have V5 : Hid (val z5 = val z1 + 1) := by rw [Hid, v5, V4.out]
      have b5 : z5.length ≤ n + 2 := by omega
      clear v5 l5
      replace FA := FA.below hb
      replace EA := EA.below hb
      replace ER := ER.below hb
      replace S1 := S1.below hb
      replace S4 := S4.below hb
      replace hB := hB.trans (hb.mono hB.size)
      have zz5 := hb.size
      have zh5 := hB.size
      clear hb
      obtain ⟨k0, k1, k2, f0, f1, f2⟩ := EA.three
      obtain ⟨k3, k4, f3, f4⟩ := ER.two
      go_wp2_with fail
      clear k0 k1 k2 f0 f1 f2 k3 k4 f3 f4
      refine (smake_any S5 (by omega) b).mono ?_
      rintro e w6 ⟨g6, a6, c6, z6, rfl, S6, N6, v6, l6, hb⟩
      have V6 : Hid (sgn g6 (val z6) = sgn b (roundN (val xs) (val ds))) := by rw [Hid, v6, HR.out, V5.out, V1.out]
      have b6 : z6.length ≤ n + 2 := by omega
      clear v6 l6
      replace FA := FA.below hb
      replace EA := EA.below hb
      replace ER := ER.below hb
      replace S1 := S1.below hb
      replace S4 := S4.below hb
      replace S5 := S5.below hb
      replace hB := hB.trans (hb.mono hB.size)
      have zz6 := hb.size
      have zh6 := hB.size
      clear hb
      obtain ⟨k0, k1, k2, f0, f1, f2⟩ := EA.three
      obtain ⟨k3, k4, f3, f4⟩ := ER.two
      have hcc := ER.two
      have r0 := hcc.1
      have r1 := hcc.2.1
      clear hcc
      have qEA := EA.lt
      have qER := ER.lt
      have hA := Below.refl w6.heap.size w6
      have hT := (((Turns.refl (w.heap.size + 1) w6).setCell 0 (.bool g6)).setCell 1 (.slice a6 z6.length c6))
      replace FA := FA.beside ER (noWord2 (fun _ e => by cases e) (fun _ e => by cases e)) hT
      replace EA := EA.turns hT (by omega)
      replace S1 := S1.beside ER (noWord2 (fun _ e => by cases e) (fun _ e => by cases e)) hT
      replace S4 := S4.beside ER (noWord2 (fun _ e => by cases e) (fun _ e => by cases e)) hT
      replace S5 := S5.beside ER (noWord2 (fun _ e => by cases e) (fun _ e => by cases e)) hT
      replace S6 := S6.beside ER (noWord2 (fun _ e => by cases e) (fun _ e => by cases e)) hT
      replace ER : Box ((w6.setCell ⟨w.heap.size + 1, 0, none⟩ (.bool g6)).setCell ⟨w.heap.size + 1, 1, none⟩ (.slice a6 z6.length c6)) (w.heap.size + 1) (.cells #[.bool g6, .slice a6 z6.length c6] 25) := ⟨Nat.lt_of_lt_of_le ER.lt hT.below.size, (heap_setCell_same _ _ 1 _ _ _ (heap_setCell_same _ _ 0 _ _ _ ER.what))⟩
      replace hB := hB.trans (hT.below.mono (by omega))
      clear hT
      clear hA
      go_wp2
      refine bodyPost_ret (v := .tuple #[.agg #[.bool g6, .slice a6 z6.length c6], .int .i64 0]) (by simp [results, Tryz.f16, go_sem, r0, r1]) rfl ?_
      exact ⟨_, _, _, _, rfl, S6.mono (by omega), N6, V6, b6, hB⟩
set_option maxRecDepth 100000 in
set_option maxHeartbeats 4000000 in
theorem pround_no {lo : Nat} {a c : Option Addr} {ca cc : Nat} {xs ds : List Int} {w : World} (b : Bool) (FA : Fr lo w a ca xs c cc ds) (hl : xs.length ≤ 400 ∧ ds.length ≤ 400) (HA : Hid (formR b xs ds = 6)) :
    Calls Tryz.prog 16 #[.agg #[.bool b, .slice a xs.length ca, .slice c ds.length cc]] w fun e w' => e = .returned (.tuple #[.agg #[.bool false, .slice none 0 0], .int .i64 6]) ∧ Below w.heap.size w w' := by
  have hB := Below.refl w.heap.size w
  go_enter Tryz.func16, Tryz.ntmps16
  have hA := Below.refl w.heap.size w
  have hq := below_new w (.cells #[.bool b, .slice a xs.length ca, .slice c ds.length cc] 27)
  replace FA := FA.below hq
  have EA := Box.put (w := w) (k := (w.heap.size)) (.cells #[.bool b, .slice a xs.length ca, .slice c ds.length cc] 27) rfl
  replace hA := hA.trans (hq.mono hA.size)
  replace hB := hB.trans (hq.mono hB.size)
  clear hq
  have hq := below_new (w.alloc (.cells #[.bool b, .slice a xs.length ca, .slice c ds.length cc] 27)) (.cells #[.bool false, .slice none 0 0] 25)
  replace FA := FA.below hq
  replace EA := EA.below hq
  have ER := Box.put (w := (w.alloc (.cells #[.bool b, .slice a xs.length ca, .slice c ds.length cc] 27))) (k := (w.heap.size + 1)) (.cells #[.bool false, .slice none 0 0] 25) (by simp)
  replace hA := hA.trans (hq.mono hA.size)
  replace hB := hB.trans (hq.mono hB.size)
  clear hq
  clear hA
  go_wp2_with fail
  obtain ⟨u1, hname⟩ := nm hB
  rw [hname] at hB FA EA ER ⊢
  have zh1 := hB.size
  clear hname
  have hk := pcheck_any b FA (by omega) (by omega)
  rw [HA.out] at hk
  refine (hk).mono ?_
  rintro e w2 ⟨rfl, hb⟩
  replace FA := FA.below hb
  replace EA := EA.below hb
  replace ER := ER.below hb
  replace hB := hB.trans (hb.mono hB.size)
  have zz2 := hb.size
  have zh2 := hB.size
  clear hb
  clear hk
  obtain ⟨k0, k1, k2, f0, f1, f2⟩ := EA.three
  obtain ⟨k3, k4, f3, f4⟩ := ER.two
  have hcc := ER.two
  have r0 := hcc.1
  have r1 := hcc.2.1
  clear hcc
  have qEA := EA.lt
  have qER := ER.lt
  have hA := Below.refl w2.heap.size w2
  have hT := (((Turns.refl (w.heap.size + 1) w2).setCell 0 (.bool false)).setCell 1 (.slice none 0 0))
  replace FA := FA.beside ER (noWord2 (fun _ e => by cases e) (fun _ e => by cases e)) hT
  replace EA := EA.turns hT (by omega)
  replace ER : Box ((w2.setCell ⟨w.heap.size + 1, 0, none⟩ (.bool false)).setCell ⟨w.heap.size + 1, 1, none⟩ (.slice none 0 0)) (w.heap.size + 1) (.cells #[.bool false, .slice none 0 0] 25) := ⟨Nat.lt_of_lt_of_le ER.lt hT.below.size, (heap_setCell_same _ _ 1 _ _ _ (heap_setCell_same _ _ 0 _ _ _ ER.what))⟩
  replace hB := hB.trans (hT.below.mono (by omega))
  clear hT
  clear hA
  go_wp2
  refine bodyPost_ret (v := .tuple #[.agg #[.bool false, .slice none 0 0], .int .i64 6]) (by simp [results, Tryz.f16, go_sem, r0, r1]) rfl ?_
  exact ⟨rfl, hB⟩
end Go.Proofs.YthlbobbmnahoiaaGreat
namespace Go.Proofs.YthlbobbmnahoiaaGreat
open Go.RowKit
theorem seg_lit (w : World) (zs : List Int) (hw : Words zs) : Seg w.heap.size (w.alloc (.cells (zs.map (Value.int .u64)).toArray 49)) (.slice (some ⟨w.heap.size, 0, none⟩) zs.length zs.length) zs := by
  have hh : (w.alloc (.cells (zs.map (Value.int .u64)).toArray 49)).heap[w.heap.size]? = some (.cells (zs.map (Value.int .u64)).toArray 49 (0, 0)) := World.alloc_heap_new w _
  refine ⟨hw, _, _, rfl, Nat.le_refl _, fun _ => ⟨_, 0, rfl, Nat.le_refl _, by simp, fun j hj => ?_, fun j _ => frozen_of_heap hh _⟩⟩
  rw [cell_of_heap hh, Nat.zero_add]
  simp [hj]
def wordsB (zs : List Int) : Bool := zs.all fun z => decide (0 ≤ z) && decide (z < 18446744073709551616)
theorem words_of {zs : List Int} (h : wordsB zs = true) : Words zs := fun z hz => by
  have := List.all_eq_true.1 h z hz
  simpa using this
theorem Seg.alloc {lo : Nat} {W : World} {sv : Value} {zs : List Int} (h : Seg lo W sv zs) (o : Obj) : Seg lo (W.alloc o) sv zs := h.below ((Below.refl _ _).alloc (Nat.le_refl _) o)
theorem power_int {lo : Nat} {a : Option Addr} {n cap : Nat} {xs : List Int} {w : World} (ha : Seg lo w (.slice a n cap) xs) (m : Int) (h0 : 0 ≤ m) (h1 : m ≤ 65536) (hbits : m * (blen (val xs) : Int) ≤ 16777216) (hfit : (xs.length + 1) * 2 ^ (blen m + 1) ≤ 4000) :
    Calls Tryz.prog 74 #[.slice a n cap, .int .i64 m] w fun e w' => ∃ (a' : Option Addr) (cap' : Nat) (zs : List Int), e = .returned (.tuple #[.slice a' zs.length cap', .int .i64 0]) ∧ Seg w.heap.size w' (.slice a' zs.length cap') zs ∧ Norm zs ∧ val zs = val xs ^ m.toNat ∧ zs.length ≤ xs.length * m.toNat + 1 ∧ Below w.heap.size w w' := by
  obtain ⟨rfl, _⟩ := ha.len
  obtain ⟨k, rfl⟩ := Int.eq_ofNat_of_zero_le h0
  refine (power_yes ha k (by omega) hbits hfit).mono ?_
  rintro e w' ⟨a', c', zs, he, hs, hn, hv, hb⟩
  exact ⟨a', c', zs, he, hs, hn, hv, len_of_pow ha.words hs.words hn hv, hb⟩
theorem blen_small : ∀ k : Nat, k < 13 → 2 ^ (blen (k : Int) + 1) ≤ 32 := by decide
set_option maxRecDepth 100000 in
set_option maxHeartbeats 1000000 in
theorem raise_any {lo : Nat} {a : Option Addr} {la ca : Nat} {xs : List Int} {w : World} (ha : Seg lo w (.slice a la ca) xs) (k : Nat) (hk : k ≤ 12) (hl : xs.length ≤ 40) :
    Calls Tryz.prog 41 #[.slice a la ca, .int .i64 k] w fun e w' => ∃ (a1 : Option Addr) (c1 : Nat) (zs : List Int), e = .returned (.slice a1 zs.length c1) ∧ Seg w.heap.size w' (.slice a1 zs.length c1) zs ∧ Norm zs ∧ Hid (val zs = val xs ^ k) ∧ zs.length ≤ xs.length * k + 1 ∧ Below w.heap.size w w' := by
  have hbl := blen_words_up ha.words
  have hb1 : (k : Int) * (blen (val xs) : Int) ≤ 16777216 := by
    have : k * blen (val xs) ≤ 12 * (64 * 40) := Nat.mul_le_mul hk (by omega)
    have h2 : ((k * blen (val xs) : Nat) : Int) ≤ 16777216 := by omega
    rw [Int.natCast_mul] at h2
    exact h2
  have hb2 : (xs.length + 1) * 2 ^ (blen (k : Int) + 1) ≤ 4000 := by
    have := Nat.mul_le_mul (show xs.length + 1 ≤ 41 by omega) (blen_small k (by omega))
    omega
  have hp := power_int ha (k : Int) (by omega) (by omega) hb1 hb2
  clear hb1 hb2 hbl
  go_enter Tryz.func41, Tryz.ntmps41
  go_wp2_with fail
  refine hp.mono ?_
  rintro e w1 ⟨a1, c1, zs, rfl, hs1, hn1, hv1, hl1, hb1⟩
  have HV := hide hv1
  clear hv1 hp
  go_wp2
  go_ret
  exact ⟨_, _, zs, rfl, hs1, hn1, HV, by simpa using hl1, hb1⟩
theorem sgn_pow (b : Bool) (x : Int) (k : Nat) : sgn b x ^ k = sgn (b && (k % 2 == 1)) (x ^ k) := by
  cases b with
  | false => rfl
  | true =>
    induction k with
    | zero => simp [sgn]
    | succ k ih =>
      rw [Int.pow_succ, Int.pow_succ, ih]
      by_cases h : k % 2 = 1
      · have h2 : (k + 1) % 2 = 0 := by omega
        simp [sgn, h, h2, Int.neg_mul_neg]
      · have h1 : k % 2 = 0 := by omega
        have h2 : (k + 1) % 2 = 1 := by omega
        simp [sgn, h1, h2, Int.mul_neg]
theorem pow_is {b sg : Bool} {xs ds zu zd : List Int} {q : Rat} {n N k : Nat} (I : Is b xs ds q n) (wx : Words xs) (_wd : Words ds) (hs : (b && (k % 2 == 1)) = sg) (Vu : Hid (val zu = val xs ^ k)) (Nu : Norm zu) (Vd : Hid (val zd = val ds ^ k)) (Nd : Norm zd) (lu : zu.length ≤ N) (ld : zd.length ≤ N) : Is sg zu zd (q ^ k) N := by
  obtain ⟨l, e⟩ := low_pow I.low.2.2 k
  rw [sgn_pow, hs, ← Vu.out, ← Vd.out] at l e
  refine ⟨⟨⟨Nu, fun h => ?_⟩, Nd, l⟩, ?_, lu, ld⟩
  · rintro rfl
    have hb : b = true := by cases b <;> simp_all
    have hp := norm_pos wx I.low.1.1 (I.low.1.2 hb)
    have := Vu.out
    rw [val_nil] at this
    have := Int.pow_pos (m := k) hp
    omega
  · rw [ratL, e, ← I.rat]; rfl
set_option maxRecDepth 100000 in
set_option maxHeartbeats 4000000 in
theorem ppower_form {lo : Nat} {a c : Option Addr} {ca cc : Nat} {xs ds : List Int} {w : World} (b : Bool) (FA : Fr lo w a ca xs c cc ds) (hl : xs.length ≤ 400 ∧ ds.length ≤ 400) (N : Int) (HA : Hid (formR b xs ds = 6)) :
    Calls Tryz.prog 12 #[.agg #[.bool b, .slice a xs.length ca, .slice c ds.length cc], .int .i64 N] w fun e w' => e = .returned (.tuple #[.agg #[.bool false, .slice none 0 0, .slice none 0 0], .int .i64 6]) ∧ Below w.heap.size w w' := by
  have hB := Below.refl w.heap.size w
  go_enter Tryz.func12, Tryz.ntmps12
  have hs0 := Nat.le_refl w.heap.size
  have hq := below_new w (.cells #[.bool b, .slice a xs.length ca, .slice c ds.length cc] 27)
  replace FA := FA.below hq
  have EA := Box.put (w := w) (k := (w.heap.size)) (.cells #[.bool b, .slice a xs.length ca, .slice c ds.length cc] 27) rfl
  replace hs0 := Nat.le_trans hs0 hq.size
  replace hB := hB.trans (hq.mono hB.size)
  clear hq
  have hq := below_new (w.alloc (.cells #[.bool b, .slice a xs.length ca, .slice c ds.length cc] 27)) (.cells #[.bool false, .slice none 0 0, .slice none 0 0] 27)
  replace FA := FA.below hq
  replace EA := EA.below hq
  have ER := Box.put (w := (w.alloc (.cells #[.bool b, .slice a xs.length ca, .slice c ds.length cc] 27))) (k := (w.heap.size + 1)) (.cells #[.bool false, .slice none 0 0, .slice none 0 0] 27) (by simp)
  replace hs0 := Nat.le_trans hs0 hq.size
  replace hB := hB.trans (hq.mono hB.size)
  clear hq
  go_wp2_with fail
  obtain ⟨u1, hname⟩ := nm hB
  rw [hname] at hs0 hB FA EA ER ⊢
  have zh1 := hB.size
  have zs1 := hs0
  clear hname hs0
  have hk := pcheck_any b FA (by omega) (by omega)
  rw [HA.out] at hk
  refine (hk).mono ?_
  rintro e w2 ⟨rfl, hb⟩
  replace FA := FA.below hb
  replace EA := EA.below hb
  replace ER := ER.below hb
  replace hB := hB.trans (hb.mono hB.size)
  have zz2 := hb.size
  have zh2 := hB.size
  clear hb
  clear hk
  obtain ⟨k0, k1, k2, f0, f1, f2⟩ := EA.three
  obtain ⟨k3, k4, k5, f3, f4, f5⟩ := ER.three
  have hcc := ER.three
  have r0 := hcc.1
  have r1 := hcc.2.1
  have r2 := hcc.2.2.1
  clear hcc
  have qEA := EA.lt
  have qER := ER.lt
  have hs0 := Nat.le_refl w2.heap.size
  have hT := turns3 (w.heap.size + 1) w2 (.bool false) (.slice none 0 0) (.slice none 0 0)
  replace FA := FA.beside ER (noWord3 (fun _ e => by cases e) (fun _ e => by cases e) (fun _ e => by cases e)) hT
  replace EA := EA.turns hT (by omega)
  replace ER := Box.set3 (.bool false) (.slice none 0 0) (.slice none 0 0) ER
  replace hB := hB.trans (hT.below.mono (by omega))
  replace hs0 := Nat.le_trans hs0 hT.below.size
  clear hT
  go_wp2
  refine bodyPost_ret (v := .tuple #[.agg #[.bool false, .slice none 0 0, .slice none 0 0], .int .i64 6]) (by simp [results, Tryz.f12, go_sem, r0, r1, r2]) rfl ?_
  exact ⟨rfl, hB⟩
set_option maxRecDepth 100000 in
set_option maxHeartbeats 4000000 in
theorem ppower_range {lo : Nat} {a c : Option Addr} {ca cc : Nat} {xs ds : List Int} {w : World} (b : Bool) (FA : Fr lo w a ca xs c cc ds) (hl : xs.length ≤ 400 ∧ ds.length ≤ 400) (N : Int) (HA : Hid (formR b xs ds = 0)) (hN : N < -10000 ∨ 10000 < N) :
    Calls Tryz.prog 12 #[.agg #[.bool b, .slice a xs.length ca, .slice c ds.length cc], .int .i64 N] w fun e w' => e = .returned (.tuple #[.agg #[.bool false, .slice none 0 0, .slice none 0 0], .int .i64 3]) ∧ Below w.heap.size w w' := by
  have hB := Below.refl w.heap.size w
  by_cases h1 : N < -10000
  · clear hN
    go_enter Tryz.func12, Tryz.ntmps12
    have hs0 := Nat.le_refl w.heap.size
    have hq := below_new w (.cells #[.bool b, .slice a xs.length ca, .slice c ds.length cc] 27)
    replace FA := FA.below hq
    have EA := Box.put (w := w) (k := (w.heap.size)) (.cells #[.bool b, .slice a xs.length ca, .slice c ds.length cc] 27) rfl
    replace hs0 := Nat.le_trans hs0 hq.size
    replace hB := hB.trans (hq.mono hB.size)
    clear hq
    have hq := below_new (w.alloc (.cells #[.bool b, .slice a xs.length ca, .slice c ds.length cc] 27)) (.cells #[.bool false, .slice none 0 0, .slice none 0 0] 27)
    replace FA := FA.below hq
    replace EA := EA.below hq
    have ER := Box.put (w := (w.alloc (.cells #[.bool b, .slice a xs.length ca, .slice c ds.length cc] 27))) (k := (w.heap.size + 1)) (.cells #[.bool false, .slice none 0 0, .slice none 0 0] 27) (by simp)
    replace hs0 := Nat.le_trans hs0 hq.size
    replace hB := hB.trans (hq.mono hB.size)
    clear hq
    go_wp2_with fail
    obtain ⟨u1, hname⟩ := nm hB
    rw [hname] at hs0 hB FA EA ER ⊢
    have zh1 := hB.size
    have zs1 := hs0
    clear hname hs0
    have hk := pcheck_any b FA (by omega) (by omega)
    rw [HA.out] at hk
    refine (hk).mono ?_
    rintro e w2 ⟨rfl, hb⟩
    replace FA := FA.below hb
    replace EA := EA.below hb
    replace ER := ER.below hb
    replace hB := hB.trans (hb.mono hB.size)
    have zz2 := hb.size
    have zh2 := hB.size
    clear hb
    clear hk
    obtain ⟨k0, k1, k2, f0, f1, f2⟩ := EA.three
    obtain ⟨k3, k4, k5, f3, f4, f5⟩ := ER.three
    have hcc := ER.three
    have r0 := hcc.1
    have r1 := hcc.2.1
    have r2 := hcc.2.2.1
    clear hcc
    have qEA := EA.lt
    have qER := ER.lt
    have hs0 := Nat.le_refl w2.heap.size
    have hT := turns3 (w.heap.size + 1) w2 (.bool false) (.slice none 0 0) (.slice none 0 0)
    replace FA := FA.beside ER (noWord3 (fun _ e => by cases e) (fun _ e => by cases e) (fun _ e => by cases e)) hT
    replace EA := EA.turns hT (by omega)
    replace ER := Box.set3 (.bool false) (.slice none 0 0) (.slice none 0 0) ER
    replace hB := hB.trans (hT.below.mono (by omega))
    replace hs0 := Nat.le_trans hs0 hT.below.size
    clear hT
    go_wp2
    refine bodyPost_ret (v := .tuple #[.agg #[.bool false, .slice none 0 0, .slice none 0 0], .int .i64 3]) (by simp [results, Tryz.f12, go_sem, r0, r1, r2]) rfl ?_
    exact ⟨rfl, hB⟩
  · have h2 : 10000 < N := by omega
    clear hN
    go_enter Tryz.func12, Tryz.ntmps12
    have hs0 := Nat.le_refl w.heap.size
    have hq := below_new w (.cells #[.bool b, .slice a xs.length ca, .slice c ds.length cc] 27)
    replace FA := FA.below hq
    have EA := Box.put (w := w) (k := (w.heap.size)) (.cells #[.bool b, .slice a xs.length ca, .slice c ds.length cc] 27) rfl
    replace hs0 := Nat.le_trans hs0 hq.size
    replace hB := hB.trans (hq.mono hB.size)
    clear hq
    have hq := below_new (w.alloc (.cells #[.bool b, .slice a xs.length ca, .slice c ds.length cc] 27)) (.cells #[.bool false, .slice none 0 0, .slice none 0 0] 27)
    replace FA := FA.below hq
    replace EA := EA.below hq
    have ER := Box.put (w := (w.alloc (.cells #[.bool b, .slice a xs.length ca, .slice c ds.length cc] 27))) (k := (w.heap.size + 1)) (.cells #[.bool false, .slice none 0 0, .slice none 0 0] 27) (by simp)
    replace hs0 := Nat.le_trans hs0 hq.size
    replace hB := hB.trans (hq.mono hB.size)
    clear hq
    go_wp2_with fail
    obtain ⟨u1, hname⟩ := nm hB
    rw [hname] at hs0 hB FA EA ER ⊢
    have zh1 := hB.size
    have zs1 := hs0
    clear hname hs0
    have hk := pcheck_any b FA (by omega) (by omega)
    rw [HA.out] at hk
    refine (hk).mono ?_
    rintro e w2 ⟨rfl, hb⟩
    replace FA := FA.below hb
    replace EA := EA.below hb
    replace ER := ER.below hb
    replace hB := hB.trans (hb.mono hB.size)
    have zz2 := hb.size
    have zh2 := hB.size
    clear hb
    clear hk
    obtain ⟨k0, k1, k2, f0, f1, f2⟩ := EA.three
    obtain ⟨k3, k4, k5, f3, f4, f5⟩ := ER.three
    have hcc := ER.three
    have r0 := hcc.1
    have r1 := hcc.2.1
    have r2 := hcc.2.2.1
    clear hcc
    have qEA := EA.lt
    have qER := ER.lt
    have hs0 := Nat.le_refl w2.heap.size
    have hT := turns3 (w.heap.size + 1) w2 (.bool false) (.slice none 0 0) (.slice none 0 0)
    replace FA := FA.beside ER (noWord3 (fun _ e => by cases e) (fun _ e => by cases e) (fun _ e => by cases e)) hT
    replace EA := EA.turns hT (by omega)
    replace ER := Box.set3 (.bool false) (.slice none 0 0) (.slice none 0 0) ER
    replace hB := hB.trans (hT.below.mono (by omega))
    replace hs0 := Nat.le_trans hs0 hT.below.size
    clear hT
    go_wp2
    refine bodyPost_ret (v := .tuple #[.agg #[.bool false, .slice none 0 0, .slice none 0 0], .int .i64 3]) (by simp [results, Tryz.f12, go_sem, r0, r1, r2]) rfl ?_
    exact ⟨rfl, hB⟩
set_option maxRecDepth 100000 in
set_option maxHeartbeats 4000000 in
theorem ppower_zero {lo : Nat} {a c : Option Addr} {ca cc : Nat} {xs ds : List Int} {w : World} (b : Bool) (FA : Fr lo w a ca xs c cc ds) (hl : xs.length ≤ 400 ∧ ds.length ≤ 400) (N : Int) (HA : Hid (formR b xs ds = 0)) (hN : -10000 ≤ N ∧ N < 0) (hx : xs = []) :
    Calls Tryz.prog 12 #[.agg #[.bool b, .slice a xs.length ca, .slice c ds.length cc], .int .i64 N] w fun e w' => e = .returned (.tuple #[.agg #[.bool false, .slice none 0 0, .slice none 0 0], .int .i64 5]) ∧ Below w.heap.size w w' := by
  have hB := Below.refl w.heap.size w
  have HX := hide hx
  have h1 : ¬ N < -10000 := by omega
  have h2 : ¬ 10000 < N := by omega
  have h3 : N < 0 := hN.2
  clear hN hx
  go_enter Tryz.func12, Tryz.ntmps12
  have hs0 := Nat.le_refl w.heap.size
  have hq := below_new w (.cells #[.bool b, .slice a xs.length ca, .slice c ds.length cc] 27)
  replace FA := FA.below hq
  have EA := Box.put (w := w) (k := (w.heap.size)) (.cells #[.bool b, .slice a xs.length ca, .slice c ds.length cc] 27) rfl
  replace hs0 := Nat.le_trans hs0 hq.size
  replace hB := hB.trans (hq.mono hB.size)
  clear hq
  have hq := below_new (w.alloc (.cells #[.bool b, .slice a xs.length ca, .slice c ds.length cc] 27)) (.cells #[.bool false, .slice none 0 0, .slice none 0 0] 27)
  replace FA := FA.below hq
  replace EA := EA.below hq
  have ER := Box.put (w := (w.alloc (.cells #[.bool b, .slice a xs.length ca, .slice c ds.length cc] 27))) (k := (w.heap.size + 1)) (.cells #[.bool false, .slice none 0 0, .slice none 0 0] 27) (by simp)
  replace hs0 := Nat.le_trans hs0 hq.size
  replace hB := hB.trans (hq.mono hB.size)
  clear hq
  go_wp2_with fail
  obtain ⟨u1, hname⟩ := nm hB
  rw [hname] at hs0 hB FA EA ER ⊢
  have zh1 := hB.size
  have zs1 := hs0
  clear hname hs0
  have hk := pcheck_any b FA (by omega) (by omega)
  rw [HA.out] at hk
  refine (hk).mono ?_
  rintro e w2 ⟨rfl, hb⟩
  replace FA := FA.below hb
  replace EA := EA.below hb
  replace ER := ER.below hb
  replace hB := hB.trans (hb.mono hB.size)
  have zz2 := hb.size
  have zh2 := hB.size
  clear hb
  clear hk
  obtain ⟨k0, k1, k2, f0, f1, f2⟩ := EA.three
  obtain ⟨k3, k4, k5, f3, f4, f5⟩ := ER.three
  go_wp2_with fail
  clear k0 k1 k2 f0 f1 f2 k3 k4 k5 f3 f4 f5
  have hk := fun w => isZero_any b a xs ca c ds cc w
  rw [show ((xs.length : Int) == 0) = true by rw [HX.out]; rfl] at hk
  refine (hk _).mono ?_
  rintro e w3 ⟨rfl, hb⟩
  replace FA := FA.below hb
  replace EA := EA.below hb
  replace ER := ER.below hb
  replace hB := hB.trans (hb.mono hB.size)
  have zz3 := hb.size
  have zh3 := hB.size
  clear hb
  clear hk
  obtain ⟨k0, k1, k2, f0, f1, f2⟩ := EA.three
  obtain ⟨k3, k4, k5, f3, f4, f5⟩ := ER.three
  have hcc := ER.three
  have r0 := hcc.1
  have r1 := hcc.2.1
  have r2 := hcc.2.2.1
  clear hcc
  have qEA := EA.lt
  have qER := ER.lt
  have hs0 := Nat.le_refl w3.heap.size
  have hT := turns3 (w.heap.size + 1) w3 (.bool false) (.slice none 0 0) (.slice none 0 0)
  replace FA := FA.beside ER (noWord3 (fun _ e => by cases e) (fun _ e => by cases e) (fun _ e => by cases e)) hT
  replace EA := EA.turns hT (by omega)
  replace ER := Box.set3 (.bool false) (.slice none 0 0) (.slice none 0 0) ER
  replace hB := hB.trans (hT.below.mono (by omega))
  replace hs0 := Nat.le_trans hs0 hT.below.size
  clear hT
  go_wp2
  refine bodyPost_ret (v := .tuple #[.agg #[.bool false, .slice none 0 0, .slice none 0 0], .int .i64 5]) (by simp [results, Tryz.f12, go_sem, r0, r1, r2]) rfl ?_
  exact ⟨rfl, hB⟩
set_option maxRecDepth 100000 in
set_option maxHeartbeats 4000000 in
theorem ppower_pos {lo : Nat} {a c : Option Addr} {ca cc : Nat} {xs ds : List Int} {w : World} (b : Bool) (FA : Fr lo w a ca xs c cc ds) {n : Nat} {q : Rat} (IA : Is b xs ds q n) (hn : n ≤ 30) (k : Nat) (hk12 : k ≤ 12) :
    Calls Tryz.prog 12 #[.agg #[.bool b, .slice a xs.length ca, .slice c ds.length cc], .int .i64 k] w fun e w' => ∃ (b' : Bool) (a' : Option Addr) (ca' : Nat) (ts' : List Int) (c' : Option Addr) (cc' : Nat) (es' : List Int), e = .returned (.tuple #[.agg #[.bool b', .slice a' ts'.length ca', .slice c' es'.length cc'], .int .i64 0]) ∧ Fr w.heap.size w' a' ca' ts' c' cc' es' ∧ Apart a' c' ts' es' ∧ Is b' ts' es' (q ^ k) (n * k + 1) ∧ Below w.heap.size w w' := by
  have lxa := IA.lu
  have lda := IA.ld
  have hxk : xs.length * k ≤ n * k := Nat.mul_le_mul_right _ lxa
  have hdk : ds.length * k ≤ n * k := Nat.mul_le_mul_right _ lda
  have h1 : ¬ (k : Int) < -10000 := by omega
  have h2 : ¬ 10000 < (k : Int) := by omega
  have h3 : ¬ (k : Int) < 0 := by omega
  have HA : Hid (formR b xs ds = 0) := (formR_low FA.up.words FA.down.words).2 IA.low
  have hB := Below.refl w.heap.size w
  have hz := fun w => isZero_any b a xs ca c ds cc w
  generalize ((xs.length : Int) == 0) = z at hz
  cases z with
  | true =>
    cases b with
    | false =>
      go_enter Tryz.func12, Tryz.ntmps12
      have hs0 := Nat.le_refl w.heap.size
      have hq := below_new w (.cells #[.bool false, .slice a xs.length ca, .slice c ds.length cc] 27)
      replace FA := FA.below hq
      have EA := Box.put (w := w) (k := (w.heap.size)) (.cells #[.bool false, .slice a xs.length ca, .slice c ds.length cc] 27) rfl
      replace hs0 := Nat.le_trans hs0 hq.size
      replace hB := hB.trans (hq.mono hB.size)
      clear hq
      have hq := below_new (w.alloc (.cells #[.bool false, .slice a xs.length ca, .slice c ds.length cc] 27)) (.cells #[.bool false, .slice none 0 0, .slice none 0 0] 27)
      replace FA := FA.below hq
      replace EA := EA.below hq
      have ER := Box.put (w := (w.alloc (.cells #[.bool false, .slice a xs.length ca, .slice c ds.length cc] 27))) (k := (w.heap.size + 1)) (.cells #[.bool false, .slice none 0 0, .slice none 0 0] 27) (by simp)
      replace hs0 := Nat.le_trans hs0 hq.size
      replace hB := hB.trans (hq.mono hB.size)
      clear hq
      go_wp2_with fail
      obtain ⟨u1, hname⟩ := nm hB
      rw [hname] at hs0 hB FA EA ER ⊢
      have zh1 := hB.size
      have zs1 := hs0
      clear hname hs0
      have hk := pcheck_any false FA (by omega) (by omega)
      rw [HA.out] at hk
      refine (hk).mono ?_
      rintro e w2 ⟨rfl, hb⟩
      replace FA := FA.below hb
      replace EA := EA.below hb
      replace ER := ER.below hb
      replace hB := hB.trans (hb.mono hB.size)
      have zz2 := hb.size
      have zh2 := hB.size
      clear hb
      clear hk
      obtain ⟨k0, k1, k2, f0, f1, f2⟩ := EA.three
      obtain ⟨k3, k4, k5, f3, f4, f5⟩ := ER.three
      go_wp2_with fail
      clear k0 k1 k2 f0 f1 f2 k3 k4 k5 f3 f4 f5
      refine (hz _).mono ?_
      rintro e w3 ⟨rfl, hb⟩
      replace FA := FA.below hb
      replace EA := EA.below hb
      replace ER := ER.below hb
      replace hB := hB.trans (hb.mono hB.size)
      have zz3 := hb.size
      have zh3 := hB.size
      clear hb
      obtain ⟨k0, k1, k2, f0, f1, f2⟩ := EA.three
      obtain ⟨k3, k4, k5, f3, f4, f5⟩ := ER.three
      go_wp2_with fail
      clear k0 k1 k2 f0 f1 f2 k3 k4 k5 f3 f4 f5
      refine (raise_any FA.up k hk12 (by omega)).mono ?_
      rintro e w4 ⟨a1, c1, z1, rfl, S1, N1, v1, l1, hb⟩
      have V1 : Hid (val z1 = val xs ^ k) := v1
      have b1 : z1.length ≤ n * k + 1 := by omega
      clear v1 l1
      replace FA := FA.below hb
      replace EA := EA.below hb
      replace ER := ER.below hb
      replace hB := hB.trans (hb.mono hB.size)
      have zz4 := hb.size
      have zh4 := hB.size
      clear hb
      have SU := S1
      obtain ⟨k0, k1, k2, f0, f1, f2⟩ := EA.three
      obtain ⟨k3, k4, k5, f3, f4, f5⟩ := ER.three
      have qEA := EA.lt
      have qER := ER.lt
      have hs0 := Nat.le_refl w4.heap.size
      have hq := below_new w4 (.cells #[.bool false, .slice a1 z1.length c1] 25)
      replace FA := FA.below hq
      replace EA := EA.below hq
      replace ER := ER.below hq
      replace S1 := S1.below hq
      have EU := Box.put (w := w4) (k := (w4.heap.size)) (.cells #[.bool false, .slice a1 z1.length c1] 25) rfl
      replace hs0 := Nat.le_trans hs0 hq.size
      replace hB := hB.trans (hq.mono hB.size)
      clear hq
      go_wp2_with fail
      clear k0 k1 k2 f0 f1 f2 k3 k4 k5 f3 f4 f5
      obtain ⟨u5, hname⟩ := nm hB
      rw [hname] at hs0 hB FA EA ER S1 EU ⊢
      have zh5 := hB.size
      have zs5 := hs0
      clear hname hs0
      replace FA := FA.drew
      have qEA := EA.lt
      replace EA := EA.drew
      have qER := ER.lt
      replace ER := ER.drew
      replace S1 := S1.drew
      have qEU := EU.lt
      replace EU := EU.drew
      refine wp_yields 6 [.is (.agg #[.bool false, .slice a1 z1.length c1]), .is (.pointer (some ⟨w.heap.size, 2, none⟩)), .is (.slice c ds.length cc), .is (.int .i64 k), (Yield.nat u5.heap.size (val ds ^ k) (n * k + 1)), (Yield.natIn (fun s => .agg #[.bool false, .slice a1 z1.length c1, s]) u5.heap.size (val ds ^ k) (n * k + 1))] (by kernel_rfl) (by kernel_rfl) (lt_cons ?_ (lt_cons ?_ (lt_cons ?_ (lt_cons ?_ (lt_cons ?_ (lt_cons ?_ lt_nil)))))) ?_
      case refine_1 =>
        refine OpDoes.mk rfl ?_
        intro vs V hV hd K hK
        have d0 : vs 0 = .agg #[.bool false, .slice a1 z1.length c1] := hd 0 (by decide) (by kernel_rfl)
        have hh := fun (P : Prop) => Yield.nat_elim P (show ((Yield.nat u5.heap.size (val ds ^ k) (n * k + 1)) : Yield).At (vs 4) V from hd 4 (by decide) (by kernel_rfl))
        refine hh _ ?_
        intro a2 c2 z2 d4 S2 N2 V2 b2
        clear hh
        simp only [laidIn, lz1, lz2, lz3, lz4, lz5, lz6, if_true, Act.put, lz7, lz8, lz9] at hK ⊢
        simp only [d0, d4] at hK ⊢
        go_simp
        exact hK.out _ _ (Below.refl _ _) ⟨_, _, _, rfl, S2, N2, V2, b2⟩ (not_fresh rfl)
      case refine_2 =>
        refine OpDoes.mk rfl ?_
        intro vs V hV hd K hK
        have d2 : vs 2 = .slice c ds.length cc := hd 2 (by decide) (by kernel_rfl)
        have d3 : vs 3 = .int .i64 k := hd 3 (by decide) (by kernel_rfl)
        simp only [laidIn, lz1, lz2, lz3, lz4, lz5, lz6, if_true, Act.put, lz7, lz8, lz9] at hK ⊢
        simp only [d2, d3] at hK ⊢
        go_simp
        go_at_call 41
        refine (raise_any (FA.down.below hV) k hk12 (by omega)).mono ?_
        rintro e V' ⟨a2, c2, z2, rfl, S2, N2, v2, l2, hb⟩
        have V2 : Hid (val z2 = val ds ^ k) := v2
        have b2 : z2.length ≤ n * k + 1 := by omega
        clear v2 l2
        exact hK.out _ _ hb ⟨_, _, _, rfl, S2.mono hV.size, N2, V2, b2⟩ (not_fresh rfl)
      case refine_3 =>
        refine OpDoes.mk rfl ?_
        intro vs V hV hd K hK
        simp only [laidIn, lz1, lz2, lz3, lz4, lz5, lz6, if_true, Act.put, lz7, lz8, lz9] at hK ⊢
        go_simp
        exact hK.out _ _ (Below.refl _ _) rfl (not_fresh rfl)
      case refine_4 =>
        refine OpDoes.mk rfl ?_
        intro vs V hV hd K hK
        have d1 : vs 1 = .pointer (some ⟨w.heap.size, 2, none⟩) := hd 1 (by decide) (by kernel_rfl)
        have hcc := (EA.below hV).three
        have k0 := hcc.1
        have k1 := hcc.2.1
        have k2 := hcc.2.2.1
        clear hcc
        simp only [laidIn, lz1, lz2, lz3, lz4, lz5, lz6, if_true, Act.put, lz7, lz8, lz9] at hK ⊢
        simp only [d1] at hK ⊢
        go_simp
        exact hK.out _ _ (Below.refl _ _) rfl (not_fresh rfl)
      case refine_5 =>
        refine OpDoes.mk rfl ?_
        intro vs V hV hd K hK
        simp only [laidIn, lz1, lz2, lz3, lz4, lz5, lz6, if_true, Act.put, lz7, lz8, lz9] at hK ⊢
        go_simp
        exact hK.out _ _ (Below.refl _ _) rfl (not_fresh rfl)
      case refine_6 =>
        refine OpDoes.mk rfl ?_
        intro vs V hV hd K hK
        have hcc := (EU.below hV).two
        have k0 := hcc.1
        have k1 := hcc.2.1
        clear hcc
        simp only [laidIn, lz1, lz2, lz4, lz5, lz6, if_true, Act.put, lz7, lz8, lz9] at hK ⊢
        go_simp
        exact hK.out _ _ (Below.refl _ _) rfl (not_fresh rfl)
      case refine_7 =>
        intro vs Y1 hV hR hne fuel
        have d0 : vs 0 = .agg #[.bool false, .slice a1 z1.length c1] := hR 0 (by decide)
        have d1 : vs 1 = .pointer (some ⟨w.heap.size, 2, none⟩) := hR 1 (by decide)
        have d2 : vs 2 = .slice c ds.length cc := hR 2 (by decide)
        have d3 : vs 3 = .int .i64 k := hR 3 (by decide)
        have hh := fun (P : Prop) => Yield.nat_elim P (show ((Yield.nat u5.heap.size (val ds ^ k) (n * k + 1)) : Yield).At (vs 4) Y1 from hR 4 (by decide))
        refine hh _ ?_
        intro a2 c2 z2 d4 S2 N2 V2 b2
        clear hh
        have hh := fun (P : Prop) => Yield.natIn_elim P (show ((Yield.natIn (fun s => .agg #[.bool false, .slice a1 z1.length c1, s]) u5.heap.size (val ds ^ k) (n * k + 1)) : Yield).At (vs 5) Y1 from hR 5 (by decide))
        refine hh _ ?_
        intro a3 c3 z3 d5 S3 N3 V3 b3
        clear hh
        replace FA := FA.below hV
        replace EA := EA.below hV
        replace ER := ER.below hV
        replace S1 := S1.below hV
        replace EU := EU.below hV
        have hr := hV
        simp only [laidIn, lz4, lz5, lz6, if_true, Act.put, lz7, lz8, lz9]
        simp only [d0, d1, d2, d3, d4, d5]
        clear hR hne hV d0 d1 d2 d3 d4 d5
        clear vs
        show wpAny _ _ _ _ (fuel + 2) _ _ _
        refine wpAny_all (rs := [6]) (by kernel_rfl) (by simp) (fun i hi => ?_)
        obtain rfl : i = 6 := by simpa using hi
        clear hi
        have hcc := ER.three
        have k0 := hcc.1
        have k1 := hcc.2.1
        have k2 := hcc.2.2.1
        have f0 := hcc.2.2.2.1
        have f1 := hcc.2.2.2.2.1
        have f2 := hcc.2.2.2.2.2
        clear hcc
        refine wpOp_step rfl (fun K hK => ?_)
        simp only [lz1, lz2, lz3]
        rw [if_pos (by rfl)]
        go_simp
        refine hK _ _ ?_
        clear hK k0 f0 k1 f1 k2 f2
        have hT := turns3 (w.heap.size + 1) Y1 (.bool false) (.slice a1 z1.length c1) (.slice a3 z3.length c3)
        replace FA := FA.beside ER (noWord3 (fun _ e => by cases e) (fun _ e => by cases e) (fun _ e => by cases e)) hT
        replace EA := EA.turns hT (by omega)
        replace S1 := S1.beside ER (noWord3 (fun _ e => by cases e) (fun _ e => by cases e) (fun _ e => by cases e)) hT
        replace EU := EU.turns hT (by omega)
        replace S2 := S2.beside ER (noWord3 (fun _ e => by cases e) (fun _ e => by cases e) (fun _ e => by cases e)) hT
        replace S3 := S3.beside ER (noWord3 (fun _ e => by cases e) (fun _ e => by cases e) (fun _ e => by cases e)) hT
        replace ER := Box.set3 (.bool false) (.slice a1 z1.length c1) (.slice a3 z3.length c3) ER
        have hr6 := hT.below
        obtain ⟨X1, hX⟩ := nm hT.below
        rw [hX] at FA EA ER S1 EU S2 S3 hr6 ⊢
        clear hX hT
        refine wpAny_all (rs := [7]) (by kernel_rfl) (by simp) (fun i hi => ?_)
        obtain rfl : i = 7 := by simpa using hi
        clear hi
        refine wpOp_step rfl (fun K hK => ?_)
        simp only [lz1, lz2, lz3]
        rw [if_pos (by rfl)]
        go_simp
        refine hK _ _ ?_
        clear hK
        refine wpAny_done (by kernel_rfl) ?_ _
        replace hB := hB.trans ((Below.trans (Below.drew (Below.refl u5.heap.size u5)) hr).mono hB.size)
        replace hB := hB.trans (hr6.mono (by omega))
        have zz5_1 := hr.size
        have zi1 := hB.size
        have zy1_6 := hr6.size
        clear hr hr6
        have HI := pow_is (N := n * k + 1) (k := k) (sg := false) (b := false) IA FA.up.words FA.down.words (by simp) V1 N1 V3 N3 (by omega) (by omega)
        have HAP := hide (apart_of (fun h b o e => SU.block h b o e) S3 (by omega) : Apart a1 a3 z1 z3)
        obtain ⟨k0, k1, k2, f0, f1, f2⟩ := EA.three
        obtain ⟨k3, k4, k5, f3, f4, f5⟩ := ER.three
        obtain ⟨k6, k7, f6, f7⟩ := EU.two
        have hcc := ER.three
        have r0 := hcc.1
        have r1 := hcc.2.1
        have r2 := hcc.2.2.1
        clear hcc
        go_wp2
        refine bodyPost_ret (v := .tuple #[.agg #[.bool false, .slice a1 z1.length c1, .slice a3 z3.length c3], .int .i64 0]) (by simp [results, Tryz.f12, go_sem, r0, r1, r2]) rfl ?_
        exact ⟨_, _, _, _, _, _, _, rfl, ⟨S1.mono (by omega), S3.mono (by omega)⟩, HAP.out, HI, hB⟩
    | true =>
      by_cases hpar : k % 2 = 1
      · have hp2 : ((k : Int) % 2 == 1) = true := beq_iff_eq.2 (by omega)
        go_enter Tryz.func12, Tryz.ntmps12
        have hs0 := Nat.le_refl w.heap.size
        have hq := below_new w (.cells #[.bool true, .slice a xs.length ca, .slice c ds.length cc] 27)
        replace FA := FA.below hq
        have EA := Box.put (w := w) (k := (w.heap.size)) (.cells #[.bool true, .slice a xs.length ca, .slice c ds.length cc] 27) rfl
        replace hs0 := Nat.le_trans hs0 hq.size
        replace hB := hB.trans (hq.mono hB.size)
        clear hq
        have hq := below_new (w.alloc (.cells #[.bool true, .slice a xs.length ca, .slice c ds.length cc] 27)) (.cells #[.bool false, .slice none 0 0, .slice none 0 0] 27)
        replace FA := FA.below hq
        replace EA := EA.below hq
        have ER := Box.put (w := (w.alloc (.cells #[.bool true, .slice a xs.length ca, .slice c ds.length cc] 27))) (k := (w.heap.size + 1)) (.cells #[.bool false, .slice none 0 0, .slice none 0 0] 27) (by simp)
        replace hs0 := Nat.le_trans hs0 hq.size
        replace hB := hB.trans (hq.mono hB.size)
        clear hq
        go_wp2_with fail
        obtain ⟨u1, hname⟩ := nm hB
        rw [hname] at hs0 hB FA EA ER ⊢
        have zh1 := hB.size
        have zs1 := hs0
        clear hname hs0
        have hk := pcheck_any true FA (by omega) (by omega)
        rw [HA.out] at hk
        refine (hk).mono ?_
        rintro e w2 ⟨rfl, hb⟩
        replace FA := FA.below hb
        replace EA := EA.below hb
        replace ER := ER.below hb
        replace hB := hB.trans (hb.mono hB.size)
        have zz2 := hb.size
        have zh2 := hB.size
        clear hb
        clear hk
        obtain ⟨k0, k1, k2, f0, f1, f2⟩ := EA.three
        obtain ⟨k3, k4, k5, f3, f4, f5⟩ := ER.three
        go_wp2_with fail
        clear k0 k1 k2 f0 f1 f2 k3 k4 k5 f3 f4 f5
        refine (hz _).mono ?_
        rintro e w3 ⟨rfl, hb⟩
        replace FA := FA.below hb
        replace EA := EA.below hb
        replace ER := ER.below hb
        replace hB := hB.trans (hb.mono hB.size)
        have zz3 := hb.size
        have zh3 := hB.size
        clear hb
        obtain ⟨k0, k1, k2, f0, f1, f2⟩ := EA.three
        obtain ⟨k3, k4, k5, f3, f4, f5⟩ := ER.three
        go_wp2_with fail
        clear k0 k1 k2 f0 f1 f2 k3 k4 k5 f3 f4 f5
        refine (raise_any FA.up k hk12 (by omega)).mono ?_
        rintro e w4 ⟨a1, c1, z1, rfl, S1, N1, v1, l1, hb⟩
        have V1 : Hid (val z1 = val xs ^ k) := v1
        have b1 : z1.length ≤ n * k + 1 := by omega
        clear v1 l1
        replace FA := FA.below hb
        replace EA := EA.below hb
        replace ER := ER.below hb
        replace hB := hB.trans (hb.mono hB.size)
        have zz4 := hb.size
        have zh4 := hB.size
        clear hb
        have SU := S1
        obtain ⟨k0, k1, k2, f0, f1, f2⟩ := EA.three
        obtain ⟨k3, k4, k5, f3, f4, f5⟩ := ER.three
        have qEA := EA.lt
        have qER := ER.lt
        have hs0 := Nat.le_refl w4.heap.size
        have hq := below_new w4 (.cells #[.bool true, .slice a1 z1.length c1] 25)
        replace FA := FA.below hq
        replace EA := EA.below hq
        replace ER := ER.below hq
        replace S1 := S1.below hq
        have EU := Box.put (w := w4) (k := (w4.heap.size)) (.cells #[.bool true, .slice a1 z1.length c1] 25) rfl
        replace hs0 := Nat.le_trans hs0 hq.size
        replace hB := hB.trans (hq.mono hB.size)
        clear hq
        go_wp2_with fail
        clear k0 k1 k2 f0 f1 f2 k3 k4 k5 f3 f4 f5
        obtain ⟨u5, hname⟩ := nm hB
        rw [hname] at hs0 hB FA EA ER S1 EU ⊢
        have zh5 := hB.size
        have zs5 := hs0
        clear hname hs0
        replace FA := FA.drew
        have qEA := EA.lt
        replace EA := EA.drew
        have qER := ER.lt
        replace ER := ER.drew
        replace S1 := S1.drew
        have qEU := EU.lt
        replace EU := EU.drew
        refine wp_yields 6 [.is (.agg #[.bool true, .slice a1 z1.length c1]), .is (.pointer (some ⟨w.heap.size, 2, none⟩)), .is (.slice c ds.length cc), .is (.int .i64 k), (Yield.nat u5.heap.size (val ds ^ k) (n * k + 1)), (Yield.natIn (fun s => .agg #[.bool true, .slice a1 z1.length c1, s]) u5.heap.size (val ds ^ k) (n * k + 1))] (by kernel_rfl) (by kernel_rfl) (lt_cons ?_ (lt_cons ?_ (lt_cons ?_ (lt_cons ?_ (lt_cons ?_ (lt_cons ?_ lt_nil)))))) ?_
        case refine_1 =>
          refine OpDoes.mk rfl ?_
          intro vs V hV hd K hK
          have d0 : vs 0 = .agg #[.bool true, .slice a1 z1.length c1] := hd 0 (by decide) (by kernel_rfl)
          have hh := fun (P : Prop) => Yield.nat_elim P (show ((Yield.nat u5.heap.size (val ds ^ k) (n * k + 1)) : Yield).At (vs 4) V from hd 4 (by decide) (by kernel_rfl))
          refine hh _ ?_
          intro a2 c2 z2 d4 S2 N2 V2 b2
          clear hh
          simp only [laidIn, lz1, lz2, lz3, lz4, lz5, lz6, if_true, Act.put, lz7, lz8, lz9] at hK ⊢
          simp only [d0, d4] at hK ⊢
          go_simp
          exact hK.out _ _ (Below.refl _ _) ⟨_, _, _, rfl, S2, N2, V2, b2⟩ (not_fresh rfl)
        case refine_2 =>
          refine OpDoes.mk rfl ?_
          intro vs V hV hd K hK
          have d2 : vs 2 = .slice c ds.length cc := hd 2 (by decide) (by kernel_rfl)
          have d3 : vs 3 = .int .i64 k := hd 3 (by decide) (by kernel_rfl)
          simp only [laidIn, lz1, lz2, lz3, lz4, lz5, lz6, if_true, Act.put, lz7, lz8, lz9] at hK ⊢
          simp only [d2, d3] at hK ⊢
          go_simp
          go_at_call 41
          refine (raise_any (FA.down.below hV) k hk12 (by omega)).mono ?_
          rintro e V' ⟨a2, c2, z2, rfl, S2, N2, v2, l2, hb⟩
          have V2 : Hid (val z2 = val ds ^ k) := v2
          have b2 : z2.length ≤ n * k + 1 := by omega
          clear v2 l2
          exact hK.out _ _ hb ⟨_, _, _, rfl, S2.mono hV.size, N2, V2, b2⟩ (not_fresh rfl)
        case refine_3 =>
          refine OpDoes.mk rfl ?_
          intro vs V hV hd K hK
          simp only [laidIn, lz1, lz2, lz3, lz4, lz5, lz6, if_true, Act.put, lz7, lz8, lz9] at hK ⊢
          go_simp
          exact hK.out _ _ (Below.refl _ _) rfl (not_fresh rfl)
        case refine_4 =>
          refine OpDoes.mk rfl ?_
          intro vs V hV hd K hK
          have d1 : vs 1 = .pointer (some ⟨w.heap.size, 2, none⟩) := hd 1 (by decide) (by kernel_rfl)
          have hcc := (EA.below hV).three
          have k0 := hcc.1
          have k1 := hcc.2.1
          have k2 := hcc.2.2.1
          clear hcc
          simp only [laidIn, lz1, lz2, lz3, lz4, lz5, lz6, if_true, Act.put, lz7, lz8, lz9] at hK ⊢
          simp only [d1] at hK ⊢
          go_simp
          exact hK.out _ _ (Below.refl _ _) rfl (not_fresh rfl)
        case refine_5 =>
          refine OpDoes.mk rfl ?_
          intro vs V hV hd K hK
          simp only [laidIn, lz1, lz2, lz3, lz4, lz5, lz6, if_true, Act.put, lz7, lz8, lz9] at hK ⊢
          go_simp
          exact hK.out _ _ (Below.refl _ _) rfl (not_fresh rfl)
        case refine_6 =>
          refine OpDoes.mk rfl ?_
          intro vs V hV hd K hK
          have hcc := (EU.below hV).two
          have k0 := hcc.1
          have k1 := hcc.2.1
          clear hcc
          simp only [laidIn, lz1, lz2, lz4, lz5, lz6, if_true, Act.put, lz7, lz8, lz9] at hK ⊢
          go_simp
          exact hK.out _ _ (Below.refl _ _) rfl (not_fresh rfl)
        case refine_7 =>
          intro vs Y1 hV hR hne fuel
          have d0 : vs 0 = .agg #[.bool true, .slice a1 z1.length c1] := hR 0 (by decide)
          have d1 : vs 1 = .pointer (some ⟨w.heap.size, 2, none⟩) := hR 1 (by decide)
          have d2 : vs 2 = .slice c ds.length cc := hR 2 (by decide)
          have d3 : vs 3 = .int .i64 k := hR 3 (by decide)
          have hh := fun (P : Prop) => Yield.nat_elim P (show ((Yield.nat u5.heap.size (val ds ^ k) (n * k + 1)) : Yield).At (vs 4) Y1 from hR 4 (by decide))
          refine hh _ ?_
          intro a2 c2 z2 d4 S2 N2 V2 b2
          clear hh
          have hh := fun (P : Prop) => Yield.natIn_elim P (show ((Yield.natIn (fun s => .agg #[.bool true, .slice a1 z1.length c1, s]) u5.heap.size (val ds ^ k) (n * k + 1)) : Yield).At (vs 5) Y1 from hR 5 (by decide))
          refine hh _ ?_
          intro a3 c3 z3 d5 S3 N3 V3 b3
          clear hh
          replace FA := FA.below hV
          replace EA := EA.below hV
          replace ER := ER.below hV
          replace S1 := S1.below hV
          replace EU := EU.below hV
          have hr := hV
          simp only [laidIn, lz4, lz5, lz6, if_true, Act.put, lz7, lz8, lz9]
          simp only [d0, d1, d2, d3, d4, d5]
          clear hR hne hV d0 d1 d2 d3 d4 d5
          clear vs
          show wpAny _ _ _ _ (fuel + 2) _ _ _
          refine wpAny_all (rs := [6]) (by kernel_rfl) (by simp) (fun i hi => ?_)
          obtain rfl : i = 6 := by simpa using hi
          clear hi
          have hcc := ER.three
          have k0 := hcc.1
          have k1 := hcc.2.1
          have k2 := hcc.2.2.1
          have f0 := hcc.2.2.2.1
          have f1 := hcc.2.2.2.2.1
          have f2 := hcc.2.2.2.2.2
          clear hcc
          refine wpOp_step rfl (fun K hK => ?_)
          simp only [lz1, lz2, lz3]
          rw [if_pos (by rfl)]
          go_simp
          refine hK _ _ ?_
          clear hK k0 f0 k1 f1 k2 f2
          have hT := turns3 (w.heap.size + 1) Y1 (.bool true) (.slice a1 z1.length c1) (.slice a3 z3.length c3)
          replace FA := FA.beside ER (noWord3 (fun _ e => by cases e) (fun _ e => by cases e) (fun _ e => by cases e)) hT
          replace EA := EA.turns hT (by omega)
          replace S1 := S1.beside ER (noWord3 (fun _ e => by cases e) (fun _ e => by cases e) (fun _ e => by cases e)) hT
          replace EU := EU.turns hT (by omega)
          replace S2 := S2.beside ER (noWord3 (fun _ e => by cases e) (fun _ e => by cases e) (fun _ e => by cases e)) hT
          replace S3 := S3.beside ER (noWord3 (fun _ e => by cases e) (fun _ e => by cases e) (fun _ e => by cases e)) hT
          replace ER := Box.set3 (.bool true) (.slice a1 z1.length c1) (.slice a3 z3.length c3) ER
          have hr6 := hT.below
          obtain ⟨X1, hX⟩ := nm hT.below
          rw [hX] at FA EA ER S1 EU S2 S3 hr6 ⊢
          clear hX hT
          refine wpAny_all (rs := [7]) (by kernel_rfl) (by simp) (fun i hi => ?_)
          obtain rfl : i = 7 := by simpa using hi
          clear hi
          refine wpOp_step rfl (fun K hK => ?_)
          simp only [lz1, lz2, lz3]
          rw [if_pos (by rfl)]
          go_simp
          refine hK _ _ ?_
          clear hK
          refine wpAny_done (by kernel_rfl) ?_ _
          replace hB := hB.trans ((Below.trans (Below.drew (Below.refl u5.heap.size u5)) hr).mono hB.size)
          replace hB := hB.trans (hr6.mono (by omega))
          have zz5_1 := hr.size
          have zi1 := hB.size
          have zy1_6 := hr6.size
          clear hr hr6
          have HI := pow_is (N := n * k + 1) (k := k) (sg := true) (b := true) IA FA.up.words FA.down.words (by simp [hpar]) V1 N1 V3 N3 (by omega) (by omega)
          have HAP := hide (apart_of (fun h b o e => SU.block h b o e) S3 (by omega) : Apart a1 a3 z1 z3)
          obtain ⟨k0, k1, k2, f0, f1, f2⟩ := EA.three
          obtain ⟨k3, k4, k5, f3, f4, f5⟩ := ER.three
          obtain ⟨k6, k7, f6, f7⟩ := EU.two
          have hcc := ER.three
          have r0 := hcc.1
          have r1 := hcc.2.1
          have r2 := hcc.2.2.1
          clear hcc
          go_wp2
          refine bodyPost_ret (v := .tuple #[.agg #[.bool true, .slice a1 z1.length c1, .slice a3 z3.length c3], .int .i64 0]) (by simp [results, Tryz.f12, go_sem, r0, r1, r2]) rfl ?_
          exact ⟨_, _, _, _, _, _, _, rfl, ⟨S1.mono (by omega), S3.mono (by omega)⟩, HAP.out, HI, hB⟩
      · have hp2 : ((k : Int) % 2 == 1) = false := beq_eq_false_iff_ne.2 (by omega)
        go_enter Tryz.func12, Tryz.ntmps12
        have hs0 := Nat.le_refl w.heap.size
        have hq := below_new w (.cells #[.bool true, .slice a xs.length ca, .slice c ds.length cc] 27)
        replace FA := FA.below hq
        have EA := Box.put (w := w) (k := (w.heap.size)) (.cells #[.bool true, .slice a xs.length ca, .slice c ds.length cc] 27) rfl
        replace hs0 := Nat.le_trans hs0 hq.size
        replace hB := hB.trans (hq.mono hB.size)
        clear hq
        have hq := below_new (w.alloc (.cells #[.bool true, .slice a xs.length ca, .slice c ds.length cc] 27)) (.cells #[.bool false, .slice none 0 0, .slice none 0 0] 27)
        replace FA := FA.below hq
        replace EA := EA.below hq
        have ER := Box.put (w := (w.alloc (.cells #[.bool true, .slice a xs.length ca, .slice c ds.length cc] 27))) (k := (w.heap.size + 1)) (.cells #[.bool false, .slice none 0 0, .slice none 0 0] 27) (by simp)
        replace hs0 := Nat.le_trans hs0 hq.size
        replace hB := hB.trans (hq.mono hB.size)
        clear hq
        go_wp2_with fail
        obtain ⟨u1, hname⟩ := nm hB
        rw [hname] at hs0 hB FA EA ER ⊢
        have zh1 := hB.size
        have zs1 := hs0
        clear hname hs0
        have hk := pcheck_any true FA (by omega) (by omega)
        rw [HA.out] at hk
        refine (hk).mono ?_
        rintro e w2 ⟨rfl, hb⟩
        replace FA := FA.below hb
        replace EA := EA.below hb
        replace ER := ER.below hb
        replace hB := hB.trans (hb.mono hB.size)
        have zz2 := hb.size
        have zh2 := hB.size
        clear hb
        clear hk
        obtain ⟨k0, k1, k2, f0, f1, f2⟩ := EA.three
        obtain ⟨k3, k4, k5, f3, f4, f5⟩ := ER.three
        go_wp2_with fail
        clear k0 k1 k2 f0 f1 f2 k3 k4 k5 f3 f4 f5
        refine (hz _).mono ?_
        rintro e w3 ⟨rfl, hb⟩
        replace FA := FA.below hb
        replace EA := EA.below hb
        replace ER := ER.below hb
        replace hB := hB.trans (hb.mono hB.size)
        have zz3 := hb.size
        have zh3 := hB.size
        clear hb
        obtain ⟨k0, k1, k2, f0, f1, f2⟩ := EA.three
        obtain ⟨k3, k4, k5, f3, f4, f5⟩ := ER.three
        go_wp2_with fail
        clear k0 k1 k2 f0 f1 f2 k3 k4 k5 f3 f4 f5
        refine (raise_any FA.up k hk12 (by omega)).mono ?_
        rintro e w4 ⟨a1, c1, z1, rfl, S1, N1, v1, l1, hb⟩
        have V1 : Hid (val z1 = val xs ^ k) := v1
        have b1 : z1.length ≤ n * k + 1 := by omega
        clear v1 l1
        replace FA := FA.below hb
        replace EA := EA.below hb
        replace ER := ER.below hb
        replace hB := hB.trans (hb.mono hB.size)
        have zz4 := hb.size
        have zh4 := hB.size
        clear hb
        have SU := S1
        obtain ⟨k0, k1, k2, f0, f1, f2⟩ := EA.three
        obtain ⟨k3, k4, k5, f3, f4, f5⟩ := ER.three
        have qEA := EA.lt
        have qER := ER.lt
        have hs0 := Nat.le_refl w4.heap.size
        have hq := below_new w4 (.cells #[.bool false, .slice a1 z1.length c1] 25)
        replace FA := FA.below hq
        replace EA := EA.below hq
        replace ER := ER.below hq
        replace S1 := S1.below hq
        have EU := Box.put (w := w4) (k := (w4.heap.size)) (.cells #[.bool false, .slice a1 z1.length c1] 25) rfl
        replace hs0 := Nat.le_trans hs0 hq.size
        replace hB := hB.trans (hq.mono hB.size)
        clear hq
        go_wp2_with fail
        clear k0 k1 k2 f0 f1 f2 k3 k4 k5 f3 f4 f5
        obtain ⟨u5, hname⟩ := nm hB
        rw [hname] at hs0 hB FA EA ER S1 EU ⊢
        have zh5 := hB.size
        have zs5 := hs0
        clear hname hs0
        replace FA := FA.drew
        have qEA := EA.lt
        replace EA := EA.drew
        have qER := ER.lt
        replace ER := ER.drew
        replace S1 := S1.drew
        have qEU := EU.lt
        replace EU := EU.drew
        refine wp_yields 6 [.is (.agg #[.bool false, .slice a1 z1.length c1]), .is (.pointer (some ⟨w.heap.size, 2, none⟩)), .is (.slice c ds.length cc), .is (.int .i64 k), (Yield.nat u5.heap.size (val ds ^ k) (n * k + 1)), (Yield.natIn (fun s => .agg #[.bool false, .slice a1 z1.length c1, s]) u5.heap.size (val ds ^ k) (n * k + 1))] (by kernel_rfl) (by kernel_rfl) (lt_cons ?_ (lt_cons ?_ (lt_cons ?_ (lt_cons ?_ (lt_cons ?_ (lt_cons ?_ lt_nil)))))) ?_
        case refine_1 =>
          refine OpDoes.mk rfl ?_
          intro vs V hV hd K hK
          have d0 : vs 0 = .agg #[.bool false, .slice a1 z1.length c1] := hd 0 (by decide) (by kernel_rfl)
          have hh := fun (P : Prop) => Yield.nat_elim P (show ((Yield.nat u5.heap.size (val ds ^ k) (n * k + 1)) : Yield).At (vs 4) V from hd 4 (by decide) (by kernel_rfl))
          refine hh _ ?_
          intro a2 c2 z2 d4 S2 N2 V2 b2
          clear hh
          simp only [laidIn, lz1, lz2, lz3, lz4, lz5, lz6, if_true, Act.put, lz7, lz8, lz9] at hK ⊢
          simp only [d0, d4] at hK ⊢
          go_simp
          exact hK.out _ _ (Below.refl _ _) ⟨_, _, _, rfl, S2, N2, V2, b2⟩ (not_fresh rfl)
        case refine_2 =>
          refine OpDoes.mk rfl ?_
          intro vs V hV hd K hK
          have d2 : vs 2 = .slice c ds.length cc := hd 2 (by decide) (by kernel_rfl)
          have d3 : vs 3 = .int .i64 k := hd 3 (by decide) (by kernel_rfl)
          simp only [laidIn, lz1, lz2, lz3, lz4, lz5, lz6, if_true, Act.put, lz7, lz8, lz9] at hK ⊢
          simp only [d2, d3] at hK ⊢
          go_simp
          go_at_call 41
          refine (raise_any (FA.down.below hV) k hk12 (by omega)).mono ?_
          rintro e V' ⟨a2, c2, z2, rfl, S2, N2, v2, l2, hb⟩
          have V2 : Hid (val z2 = val ds ^ k) := v2
          have b2 : z2.length ≤ n * k + 1 := by omega
          clear v2 l2
          exact hK.out _ _ hb ⟨_, _, _, rfl, S2.mono hV.size, N2, V2, b2⟩ (not_fresh rfl)
        case refine_3 =>
          refine OpDoes.mk rfl ?_
          intro vs V hV hd K hK
          simp only [laidIn, lz1, lz2, lz3, lz4, lz5, lz6, if_true, Act.put, lz7, lz8, lz9] at hK ⊢
          go_simp
          exact hK.out _ _ (Below.refl _ _) rfl (not_fresh rfl)
        case refine_4 =>
          refine OpDoes.mk rfl ?_
          intro vs V hV hd K hK
          have d1 : vs 1 = .pointer (some ⟨w.heap.size, 2, none⟩) := hd 1 (by decide) (by kernel_rfl)
          have hcc := (EA.below hV).three
          have k0 := hcc.1
          have k1 := hcc.2.1
          have k2 := hcc.2.2.1
          clear hcc
          simp only [laidIn, lz1, lz2, lz3, lz4, lz5, lz6, if_true, Act.put, lz7, lz8, lz9] at hK ⊢
          simp only [d1] at hK ⊢
          go_simp
          exact hK.out _ _ (Below.refl _ _) rfl (not_fresh rfl)
        case refine_5 =>
          refine OpDoes.mk rfl ?_
          intro vs V hV hd K hK
          simp only [laidIn, lz1, lz2, lz3, lz4, lz5, lz6, if_true, Act.put, lz7, lz8, lz9] at hK ⊢
          go_simp
          exact hK.out _ _ (Below.refl _ _) rfl (not_fresh rfl)
        case refine_6 =>
          refine OpDoes.mk rfl ?_
          intro vs V hV hd K hK
          have hcc := (EU.below hV).two
          have k0 := hcc.1
          have k1 := hcc.2.1
          clear hcc
          simp only [laidIn, lz1, lz2, lz4, lz5, lz6, if_true, Act.put, lz7, lz8, lz9] at hK ⊢
          go_simp
          exact hK.out _ _ (Below.refl _ _) rfl (not_fresh rfl)
        case refine_7 =>
          intro vs Y1 hV hR hne fuel
          have d0 : vs 0 = .agg #[.bool false, .slice a1 z1.length c1] := hR 0 (by decide)
          have d1 : vs 1 = .pointer (some ⟨w.heap.size, 2, none⟩) := hR 1 (by decide)
          have d2 : vs 2 = .slice c ds.length cc := hR 2 (by decide)
          have d3 : vs 3 = .int .i64 k := hR 3 (by decide)
          have hh := fun (P : Prop) => Yield.nat_elim P (show ((Yield.nat u5.heap.size (val ds ^ k) (n * k + 1)) : Yield).At (vs 4) Y1 from hR 4 (by decide))
          refine hh _ ?_
          intro a2 c2 z2 d4 S2 N2 V2 b2
          clear hh
          have hh := fun (P : Prop) => Yield.natIn_elim P (show ((Yield.natIn (fun s => .agg #[.bool false, .slice a1 z1.length c1, s]) u5.heap.size (val ds ^ k) (n * k + 1)) : Yield).At (vs 5) Y1 from hR 5 (by decide))
          refine hh _ ?_
          intro a3 c3 z3 d5 S3 N3 V3 b3
          clear hh
          replace FA := FA.below hV
          replace EA := EA.below hV
          replace ER := ER.below hV
          replace S1 := S1.below hV
          replace EU := EU.below hV
          have hr := hV
          simp only [laidIn, lz4, lz5, lz6, if_true, Act.put, lz7, lz8, lz9]
          simp only [d0, d1, d2, d3, d4, d5]
          clear hR hne hV d0 d1 d2 d3 d4 d5
          clear vs
          show wpAny _ _ _ _ (fuel + 2) _ _ _
          refine wpAny_all (rs := [6]) (by kernel_rfl) (by simp) (fun i hi => ?_)
          obtain rfl : i = 6 := by simpa using hi
          clear hi
          have hcc := ER.three
          have k0 := hcc.1
          have k1 := hcc.2.1
          have k2 := hcc.2.2.1
          have f0 := hcc.2.2.2.1
          have f1 := hcc.2.2.2.2.1
          have f2 := hcc.2.2.2.2.2
          clear hcc
          refine wpOp_step rfl (fun K hK => ?_)
          simp only [lz1, lz2, lz3]
          rw [if_pos (by rfl)]
          go_simp
          refine hK _ _ ?_
          clear hK k0 f0 k1 f1 k2 f2
          have hT := turns3 (w.heap.size + 1) Y1 (.bool false) (.slice a1 z1.length c1) (.slice a3 z3.length c3)
          replace FA := FA.beside ER (noWord3 (fun _ e => by cases e) (fun _ e => by cases e) (fun _ e => by cases e)) hT
          replace EA := EA.turns hT (by omega)
          replace S1 := S1.beside ER (noWord3 (fun _ e => by cases e) (fun _ e => by cases e) (fun _ e => by cases e)) hT
          replace EU := EU.turns hT (by omega)
          replace S2 := S2.beside ER (noWord3 (fun _ e => by cases e) (fun _ e => by cases e) (fun _ e => by cases e)) hT
          replace S3 := S3.beside ER (noWord3 (fun _ e => by cases e) (fun _ e => by cases e) (fun _ e => by cases e)) hT
          replace ER := Box.set3 (.bool false) (.slice a1 z1.length c1) (.slice a3 z3.length c3) ER
          have hr6 := hT.below
          obtain ⟨X1, hX⟩ := nm hT.below
          rw [hX] at FA EA ER S1 EU S2 S3 hr6 ⊢
          clear hX hT
          refine wpAny_all (rs := [7]) (by kernel_rfl) (by simp) (fun i hi => ?_)
          obtain rfl : i = 7 := by simpa using hi
          clear hi
          refine wpOp_step rfl (fun K hK => ?_)
          simp only [lz1, lz2, lz3]
          rw [if_pos (by rfl)]
          go_simp
          refine hK _ _ ?_
          clear hK
          refine wpAny_done (by kernel_rfl) ?_ _
          replace hB := hB.trans ((Below.trans (Below.drew (Below.refl u5.heap.size u5)) hr).mono hB.size)
          replace hB := hB.trans (hr6.mono (by omega))
          have zz5_1 := hr.size
          have zi1 := hB.size
          have zy1_6 := hr6.size
          clear hr hr6
          have HI := pow_is (N := n * k + 1) (k := k) (sg := false) (b := true) IA FA.up.words FA.down.words (by simp [hpar]) V1 N1 V3 N3 (by omega) (by omega)
          have HAP := hide (apart_of (fun h b o e => SU.block h b o e) S3 (by omega) : Apart a1 a3 z1 z3)
          obtain ⟨k0, k1, k2, f0, f1, f2⟩ := EA.three
          obtain ⟨k3, k4, k5, f3, f4, f5⟩ := ER.three
          obtain ⟨k6, k7, f6, f7⟩ := EU.two
          have hcc := ER.three
          have r0 := hcc.1
          have r1 := hcc.2.1
          have r2 := hcc.2.2.1
          clear hcc
          go_wp2
          refine bodyPost_ret (v := .tuple #[.agg #[.bool false, .slice a1 z1.length c1, .slice a3 z3.length c3], .int .i64 0]) (by simp [results, Tryz.f12, go_sem, r0, r1, r2]) rfl ?_
          exact ⟨_, _, _, _, _, _, _, rfl, ⟨S1.mono (by omega), S3.mono (by omega)⟩, HAP.out, HI, hB⟩
  | false =>
    cases b with
    | false =>
      go_enter Tryz.func12, Tryz.ntmps12
      have hs0 := Nat.le_refl w.heap.size
      have hq := below_new w (.cells #[.bool false, .slice a xs.length ca, .slice c ds.length cc] 27)
      replace FA := FA.below hq
      have EA := Box.put (w := w) (k := (w.heap.size)) (.cells #[.bool false, .slice a xs.length ca, .slice c ds.length cc] 27) rfl
      replace hs0 := Nat.le_trans hs0 hq.size
      replace hB := hB.trans (hq.mono hB.size)
      clear hq
      have hq := below_new (w.alloc (.cells #[.bool false, .slice a xs.length ca, .slice c ds.length cc] 27)) (.cells #[.bool false, .slice none 0 0, .slice none 0 0] 27)
      replace FA := FA.below hq
      replace EA := EA.below hq
      have ER := Box.put (w := (w.alloc (.cells #[.bool false, .slice a xs.length ca, .slice c ds.length cc] 27))) (k := (w.heap.size + 1)) (.cells #[.bool false, .slice none 0 0, .slice none 0 0] 27) (by simp)
      replace hs0 := Nat.le_trans hs0 hq.size
      replace hB := hB.trans (hq.mono hB.size)
      clear hq
      go_wp2_with fail
      obtain ⟨u1, hname⟩ := nm hB
      rw [hname] at hs0 hB FA EA ER ⊢
      have zh1 := hB.size
      have zs1 := hs0
      clear hname hs0
      have hk := pcheck_any false FA (by omega) (by omega)
      rw [HA.out] at hk
      refine (hk).mono ?_
      rintro e w2 ⟨rfl, hb⟩
      replace FA := FA.below hb
      replace EA := EA.below hb
      replace ER := ER.below hb
      replace hB := hB.trans (hb.mono hB.size)
      have zz2 := hb.size
      have zh2 := hB.size
      clear hb
      clear hk
      obtain ⟨k0, k1, k2, f0, f1, f2⟩ := EA.three
      obtain ⟨k3, k4, k5, f3, f4, f5⟩ := ER.three
      go_wp2_with fail
      clear k0 k1 k2 f0 f1 f2 k3 k4 k5 f3 f4 f5
      refine (hz _).mono ?_
      rintro e w3 ⟨rfl, hb⟩
      replace FA := FA.below hb
      replace EA := EA.below hb
      replace ER := ER.below hb
      replace hB := hB.trans (hb.mono hB.size)
      have zz3 := hb.size
      have zh3 := hB.size
      clear hb
      obtain ⟨k0, k1, k2, f0, f1, f2⟩ := EA.three
      obtain ⟨k3, k4, k5, f3, f4, f5⟩ := ER.three
      go_wp2_with fail
      clear k0 k1 k2 f0 f1 f2 k3 k4 k5 f3 f4 f5
      refine (raise_any FA.up k hk12 (by omega)).mono ?_
      rintro e w4 ⟨a1, c1, z1, rfl, S1, N1, v1, l1, hb⟩
      have V1 : Hid (val z1 = val xs ^ k) := v1
      have b1 : z1.length ≤ n * k + 1 := by omega
      clear v1 l1
      replace FA := FA.below hb
      replace EA := EA.below hb
      replace ER := ER.below hb
      replace hB := hB.trans (hb.mono hB.size)
      have zz4 := hb.size
      have zh4 := hB.size
      clear hb
      have SU := S1
      obtain ⟨k0, k1, k2, f0, f1, f2⟩ := EA.three
      obtain ⟨k3, k4, k5, f3, f4, f5⟩ := ER.three
      have qEA := EA.lt
      have qER := ER.lt
      have hs0 := Nat.le_refl w4.heap.size
      have hq := below_new w4 (.cells #[.bool false, .slice a1 z1.length c1] 25)
      replace FA := FA.below hq
      replace EA := EA.below hq
      replace ER := ER.below hq
      replace S1 := S1.below hq
      have EU := Box.put (w := w4) (k := (w4.heap.size)) (.cells #[.bool false, .slice a1 z1.length c1] 25) rfl
      replace hs0 := Nat.le_trans hs0 hq.size
      replace hB := hB.trans (hq.mono hB.size)
      clear hq
      go_wp2_with fail
      clear k0 k1 k2 f0 f1 f2 k3 k4 k5 f3 f4 f5
      obtain ⟨u5, hname⟩ := nm hB
      rw [hname] at hs0 hB FA EA ER S1 EU ⊢
      have zh5 := hB.size
      have zs5 := hs0
      clear hname hs0
      replace FA := FA.drew
      have qEA := EA.lt
      replace EA := EA.drew
      have qER := ER.lt
      replace ER := ER.drew
      replace S1 := S1.drew
      have qEU := EU.lt
      replace EU := EU.drew
      refine wp_yields 6 [.is (.agg #[.bool false, .slice a1 z1.length c1]), .is (.pointer (some ⟨w.heap.size, 2, none⟩)), .is (.slice c ds.length cc), .is (.int .i64 k), (Yield.nat u5.heap.size (val ds ^ k) (n * k + 1)), (Yield.natIn (fun s => .agg #[.bool false, .slice a1 z1.length c1, s]) u5.heap.size (val ds ^ k) (n * k + 1))] (by kernel_rfl) (by kernel_rfl) (lt_cons ?_ (lt_cons ?_ (lt_cons ?_ (lt_cons ?_ (lt_cons ?_ (lt_cons ?_ lt_nil)))))) ?_
      case refine_1 =>
        refine OpDoes.mk rfl ?_
        intro vs V hV hd K hK
        have d0 : vs 0 = .agg #[.bool false, .slice a1 z1.length c1] := hd 0 (by decide) (by kernel_rfl)
        have hh := fun (P : Prop) => Yield.nat_elim P (show ((Yield.nat u5.heap.size (val ds ^ k) (n * k + 1)) : Yield).At (vs 4) V from hd 4 (by decide) (by kernel_rfl))
        refine hh _ ?_
        intro a2 c2 z2 d4 S2 N2 V2 b2
        clear hh
        simp only [laidIn, lz1, lz2, lz3, lz4, lz5, lz6, if_true, Act.put, lz7, lz8, lz9] at hK ⊢
        simp only [d0, d4] at hK ⊢
        go_simp
        exact hK.out _ _ (Below.refl _ _) ⟨_, _, _, rfl, S2, N2, V2, b2⟩ (not_fresh rfl)
      case refine_2 =>
        refine OpDoes.mk rfl ?_
        intro vs V hV hd K hK
        have d2 : vs 2 = .slice c ds.length cc := hd 2 (by decide) (by kernel_rfl)
        have d3 : vs 3 = .int .i64 k := hd 3 (by decide) (by kernel_rfl)
        simp only [laidIn, lz1, lz2, lz3, lz4, lz5, lz6, if_true, Act.put, lz7, lz8, lz9] at hK ⊢
        simp only [d2, d3] at hK ⊢
        go_simp
        go_at_call 41
        refine (raise_any (FA.down.below hV) k hk12 (by omega)).mono ?_
        rintro e V' ⟨a2, c2, z2, rfl, S2, N2, v2, l2, hb⟩
        have V2 : Hid (val z2 = val ds ^ k) := v2
        have b2 : z2.length ≤ n * k + 1 := by omega
        clear v2 l2
        exact hK.out _ _ hb ⟨_, _, _, rfl, S2.mono hV.size, N2, V2, b2⟩ (not_fresh rfl)
      case refine_3 =>
        refine OpDoes.mk rfl ?_
        intro vs V hV hd K hK
        simp only [laidIn, lz1, lz2, lz3, lz4, lz5, lz6, if_true, Act.put, lz7, lz8, lz9] at hK ⊢
        go_simp
        exact hK.out _ _ (Below.refl _ _) rfl (not_fresh rfl)
      case refine_4 =>
        refine OpDoes.mk rfl ?_
        intro vs V hV hd K hK
        have d1 : vs 1 = .pointer (some ⟨w.heap.size, 2, none⟩) := hd 1 (by decide) (by kernel_rfl)
        have hcc := (EA.below hV).three
        have k0 := hcc.1
        have k1 := hcc.2.1
        have k2 := hcc.2.2.1
        clear hcc
        simp only [laidIn, lz1, lz2, lz3, lz4, lz5, lz6, if_true, Act.put, lz7, lz8, lz9] at hK ⊢
        simp only [d1] at hK ⊢
        go_simp
        exact hK.out _ _ (Below.refl _ _) rfl (not_fresh rfl)
      case refine_5 =>
        refine OpDoes.mk rfl ?_
        intro vs V hV hd K hK
        simp only [laidIn, lz1, lz2, lz3, lz4, lz5, lz6, if_true, Act.put, lz7, lz8, lz9] at hK ⊢
        go_simp
        exact hK.out _ _ (Below.refl _ _) rfl (not_fresh rfl)
      case refine_6 =>
        refine OpDoes.mk rfl ?_
        intro vs V hV hd K hK
        have hcc := (EU.below hV).two
        have k0 := hcc.1
        have k1 := hcc.2.1
        clear hcc
        simp only [laidIn, lz1, lz2, lz4, lz5, lz6, if_true, Act.put, lz7, lz8, lz9] at hK ⊢
        go_simp
        exact hK.out _ _ (Below.refl _ _) rfl (not_fresh rfl)
      case refine_7 =>
        intro vs Y1 hV hR hne fuel
        have d0 : vs 0 = .agg #[.bool false, .slice a1 z1.length c1] := hR 0 (by decide)
        have d1 : vs 1 = .pointer (some ⟨w.heap.size, 2, none⟩) := hR 1 (by decide)
        have d2 : vs 2 = .slice c ds.length cc := hR 2 (by decide)
        have d3 : vs 3 = .int .i64 k := hR 3 (by decide)
        have hh := fun (P : Prop) => Yield.nat_elim P (show ((Yield.nat u5.heap.size (val ds ^ k) (n * k + 1)) : Yield).At (vs 4) Y1 from hR 4 (by decide))
        refine hh _ ?_
        intro a2 c2 z2 d4 S2 N2 V2 b2
        clear hh
        have hh := fun (P : Prop) => Yield.natIn_elim P (show ((Yield.natIn (fun s => .agg #[.bool false, .slice a1 z1.length c1, s]) u5.heap.size (val ds ^ k) (n * k + 1)) : Yield).At (vs 5) Y1 from hR 5 (by decide))
        refine hh _ ?_
        intro a3 c3 z3 d5 S3 N3 V3 b3
        clear hh
        replace FA := FA.below hV
        replace EA := EA.below hV
        replace ER := ER.below hV
        replace S1 := S1.below hV
        replace EU := EU.below hV
        have hr := hV
        simp only [laidIn, lz4, lz5, lz6, if_true, Act.put, lz7, lz8, lz9]
        simp only [d0, d1, d2, d3, d4, d5]
        clear hR hne hV d0 d1 d2 d3 d4 d5
        clear vs
        show wpAny _ _ _ _ (fuel + 2) _ _ _
        refine wpAny_all (rs := [6]) (by kernel_rfl) (by simp) (fun i hi => ?_)
        obtain rfl : i = 6 := by simpa using hi
        clear hi
        have hcc := ER.three
        have k0 := hcc.1
        have k1 := hcc.2.1
        have k2 := hcc.2.2.1
        have f0 := hcc.2.2.2.1
        have f1 := hcc.2.2.2.2.1
        have f2 := hcc.2.2.2.2.2
        clear hcc
        refine wpOp_step rfl (fun K hK => ?_)
        simp only [lz1, lz2, lz3]
        rw [if_pos (by rfl)]
        go_simp
        refine hK _ _ ?_
        clear hK k0 f0 k1 f1 k2 f2
        have hT := turns3 (w.heap.size + 1) Y1 (.bool false) (.slice a1 z1.length c1) (.slice a3 z3.length c3)
        replace FA := FA.beside ER (noWord3 (fun _ e => by cases e) (fun _ e => by cases e) (fun _ e => by cases e)) hT
        replace EA := EA.turns hT (by omega)
        replace S1 := S1.beside ER (noWord3 (fun _ e => by cases e) (fun _ e => by cases e) (fun _ e => by cases e)) hT
        replace EU := EU.turns hT (by omega)
        replace S2 := S2.beside ER (noWord3 (fun _ e => by cases e) (fun _ e => by cases e) (fun _ e => by cases e)) hT
        replace S3 := S3.beside ER (noWord3 (fun _ e => by cases e) (fun _ e => by cases e) (fun _ e => by cases e)) hT
        replace ER := Box.set3 (.bool false) (.slice a1 z1.length c1) (.slice a3 z3.length c3) ER
        have hr6 := hT.below
        obtain ⟨X1, hX⟩ := nm hT.below
        rw [hX] at FA EA ER S1 EU S2 S3 hr6 ⊢
        clear hX hT
        refine wpAny_all (rs := [7]) (by kernel_rfl) (by simp) (fun i hi => ?_)
        obtain rfl : i = 7 := by simpa using hi
        clear hi
        refine wpOp_step rfl (fun K hK => ?_)
        simp only [lz1, lz2, lz3]
        rw [if_pos (by rfl)]
        go_simp
        refine hK _ _ ?_
        clear hK
        refine wpAny_done (by kernel_rfl) ?_ _
        replace hB := hB.trans ((Below.trans (Below.drew (Below.refl u5.heap.size u5)) hr).mono hB.size)
        replace hB := hB.trans (hr6.mono (by omega))
        have zz5_1 := hr.size
        have zi1 := hB.size
        have zy1_6 := hr6.size
        clear hr hr6
        have HI := pow_is (N := n * k + 1) (k := k) (sg := false) (b := false) IA FA.up.words FA.down.words (by simp) V1 N1 V3 N3 (by omega) (by omega)
        have HAP := hide (apart_of (fun h b o e => SU.block h b o e) S3 (by omega) : Apart a1 a3 z1 z3)
        obtain ⟨k0, k1, k2, f0, f1, f2⟩ := EA.three
        obtain ⟨k3, k4, k5, f3, f4, f5⟩ := ER.three
        obtain ⟨k6, k7, f6, f7⟩ := EU.two
        have hcc := ER.three
        have r0 := hcc.1
        have r1 := hcc.2.1
        have r2 := hcc.2.2.1
        clear hcc
        go_wp2
        refine bodyPost_ret (v := .tuple #[.agg #[.bool false, .slice a1 z1.length c1, .slice a3 z3.length c3], .int .i64 0]) (by simp [results, Tryz.f12, go_sem, r0, r1, r2]) rfl ?_
        exact ⟨_, _, _, _, _, _, _, rfl, ⟨S1.mono (by omega), S3.mono (by omega)⟩, HAP.out, HI, hB⟩
    | true =>
      by_cases hpar : k % 2 = 1
      · have hp2 : ((k : Int) % 2 == 1) = true := beq_iff_eq.2 (by omega)
        go_enter Tryz.func12, Tryz.ntmps12
        have hs0 := Nat.le_refl w.heap.size
        have hq := below_new w (.cells #[.bool true, .slice a xs.length ca, .slice c ds.length cc] 27)
        replace FA := FA.below hq
        have EA := Box.put (w := w) (k := (w.heap.size)) (.cells #[.bool true, .slice a xs.length ca, .slice c ds.length cc] 27) rfl
        replace hs0 := Nat.le_trans hs0 hq.size
        replace hB := hB.trans (hq.mono hB.size)
        clear hq
        have hq := below_new (w.alloc (.cells #[.bool true, .slice a xs.length ca, .slice c ds.length cc] 27)) (.cells #[.bool false, .slice none 0 0, .slice none 0 0] 27)
        replace FA := FA.below hq
        replace EA := EA.below hq
        have ER := Box.put (w := (w.alloc (.cells #[.bool true, .slice a xs.length ca, .slice c ds.length cc] 27))) (k := (w.heap.size + 1)) (.cells #[.bool false, .slice none 0 0, .slice none 0 0] 27) (by simp)
        replace hs0 := Nat.le_trans hs0 hq.size
        replace hB := hB.trans (hq.mono hB.size)
        clear hq
        go_wp2_with fail
        obtain ⟨u1, hname⟩ := nm hB
        rw [hname] at hs0 hB FA EA ER ⊢
        have zh1 := hB.size
        have zs1 := hs0
        clear hname hs0
        have hk := pcheck_any true FA (by omega) (by omega)
        rw [HA.out] at hk
        refine (hk).mono ?_
        rintro e w2 ⟨rfl, hb⟩
        replace FA := FA.below hb
        replace EA := EA.below hb
        replace ER := ER.below hb
        replace hB := hB.trans (hb.mono hB.size)
        have zz2 := hb.size
        have zh2 := hB.size
        clear hb
        clear hk
        obtain ⟨k0, k1, k2, f0, f1, f2⟩ := EA.three
        obtain ⟨k3, k4, k5, f3, f4, f5⟩ := ER.three
        go_wp2_with fail
        clear k0 k1 k2 f0 f1 f2 k3 k4 k5 f3 f4 f5
        refine (hz _).mono ?_
        rintro e w3 ⟨rfl, hb⟩
        replace FA := FA.below hb
        replace EA := EA.below hb
        replace ER := ER.below hb
        replace hB := hB.trans (hb.mono hB.size)
        have zz3 := hb.size
        have zh3 := hB.size
        clear hb
        obtain ⟨k0, k1, k2, f0, f1, f2⟩ := EA.three
        obtain ⟨k3, k4, k5, f3, f4, f5⟩ := ER.three
        go_wp2_with fail
        clear k0 k1 k2 f0 f1 f2 k3 k4 k5 f3 f4 f5
        refine (raise_any FA.up k hk12 (by omega)).mono ?_
        rintro e w4 ⟨a1, c1, z1, rfl, S1, N1, v1, l1, hb⟩
        have V1 : Hid (val z1 = val xs ^ k) := v1
        have b1 : z1.length ≤ n * k + 1 := by omega
        clear v1 l1
        replace FA := FA.below hb
        replace EA := EA.below hb
        replace ER := ER.below hb
        replace hB := hB.trans (hb.mono hB.size)
        have zz4 := hb.size
        have zh4 := hB.size
        clear hb
        have SU := S1
        obtain ⟨k0, k1, k2, f0, f1, f2⟩ := EA.three
        obtain ⟨k3, k4, k5, f3, f4, f5⟩ := ER.three
        have qEA := EA.lt
        have qER := ER.lt
        have hs0 := Nat.le_refl w4.heap.size
        have hq := below_new w4 (.cells #[.bool true, .slice a1 z1.length c1] 25)
        replace FA := FA.below hq
        replace EA := EA.below hq
        replace ER := ER.below hq
        replace S1 := S1.below hq
        have EU := Box.put (w := w4) (k := (w4.heap.size)) (.cells #[.bool true, .slice a1 z1.length c1] 25) rfl
        replace hs0 := Nat.le_trans hs0 hq.size
        replace hB := hB.trans (hq.mono hB.size)
        clear hq
        go_wp2_with fail
        clear k0 k1 k2 f0 f1 f2 k3 k4 k5 f3 f4 f5
        obtain ⟨u5, hname⟩ := nm hB
        rw [hname] at hs0 hB FA EA ER S1 EU ⊢
        have zh5 := hB.size
        have zs5 := hs0
        clear hname hs0
        replace FA := FA.drew
        have qEA := EA.lt
        replace EA := EA.drew
        have qER := ER.lt
        replace ER := ER.drew
        replace S1 := S1.drew
        have qEU := EU.lt
        replace EU := EU.drew
        refine wp_yields 6 [.is (.agg #[.bool true, .slice a1 z1.length c1]), .is (.pointer (some ⟨w.heap.size, 2, none⟩)), .is (.slice c ds.length cc), .is (.int .i64 k), (Yield.nat u5.heap.size (val ds ^ k) (n * k + 1)), (Yield.natIn (fun s => .agg #[.bool true, .slice a1 z1.length c1, s]) u5.heap.size (val ds ^ k) (n * k + 1))] (by kernel_rfl) (by kernel_rfl) (lt_cons ?_ (lt_cons ?_ (lt_cons ?_ (lt_cons ?_ (lt_cons ?_ (lt_cons ?_ lt_nil)))))) ?_
        case refine_1 =>
          refine OpDoes.mk rfl ?_
          intro vs V hV hd K hK
          have d0 : vs 0 = .agg #[.bool true, .slice a1 z1.length c1] := hd 0 (by decide) (by kernel_rfl)
          have hh := fun (P : Prop) => Yield.nat_elim P (show ((Yield.nat u5.heap.size (val ds ^ k) (n * k + 1)) : Yield).At (vs 4) V from hd 4 (by decide) (by kernel_rfl))
          refine hh _ ?_
          intro a2 c2 z2 d4 S2 N2 V2 b2
          clear hh
          simp only [laidIn, lz1, lz2, lz3, lz4, lz5, lz6, if_true, Act.put, lz7, lz8, lz9] at hK ⊢
          simp only [d0, d4] at hK ⊢
          go_simp
          exact hK.out _ _ (Below.refl _ _) ⟨_, _, _, rfl, S2, N2, V2, b2⟩ (not_fresh rfl)
        case refine_2 =>
          refine OpDoes.mk rfl ?_
          intro vs V hV hd K hK
          have d2 : vs 2 = .slice c ds.length cc := hd 2 (by decide) (by kernel_rfl)
          have d3 : vs 3 = .int .i64 k := hd 3 (by decide) (by kernel_rfl)
          simp only [laidIn, lz1, lz2, lz3, lz4, lz5, lz6, if_true, Act.put, lz7, lz8, lz9] at hK ⊢
          simp only [d2, d3] at hK ⊢
          go_simp
          go_at_call 41
          refine (raise_any (FA.down.below hV) k hk12 (by omega)).mono ?_
          rintro e V' ⟨a2, c2, z2, rfl, S2, N2, v2, l2, hb⟩
          have V2 : Hid (val z2 = val ds ^ k) := v2
          have b2 : z2.length ≤ n * k + 1 := by omega
          clear v2 l2
          exact hK.out _ _ hb ⟨_, _, _, rfl, S2.mono hV.size, N2, V2, b2⟩ (not_fresh rfl)
        case refine_3 =>
          refine OpDoes.mk rfl ?_
          intro vs V hV hd K hK
          simp only [laidIn, lz1, lz2, lz3, lz4, lz5, lz6, if_true, Act.put, lz7, lz8, lz9] at hK ⊢
          go_simp
          exact hK.out _ _ (Below.refl _ _) rfl (not_fresh rfl)
        case refine_4 =>
          refine OpDoes.mk rfl ?_
          intro vs V hV hd K hK
          have d1 : vs 1 = .pointer (some ⟨w.heap.size, 2, none⟩) := hd 1 (by decide) (by kernel_rfl)
          have hcc := (EA.below hV).three
          have k0 := hcc.1
          have k1 := hcc.2.1
          have k2 := hcc.2.2.1
          clear hcc
          simp only [laidIn, lz1, lz2, lz3, lz4, lz5, lz6, if_true, Act.put, lz7, lz8, lz9] at hK ⊢
          simp only [d1] at hK ⊢
          go_simp
          exact hK.out _ _ (Below.refl _ _) rfl (not_fresh rfl)
        case refine_5 =>
          refine OpDoes.mk rfl ?_
          intro vs V hV hd K hK
          simp only [laidIn, lz1, lz2, lz3, lz4, lz5, lz6, if_true, Act.put, lz7, lz8, lz9] at hK ⊢
          go_simp
          exact hK.out _ _ (Below.refl _ _) rfl (not_fresh rfl)
        case refine_6 =>
          refine OpDoes.mk rfl ?_
          intro vs V hV hd K hK
          have hcc := (EU.below hV).two
          have k0 := hcc.1
          have k1 := hcc.2.1
          clear hcc
          simp only [laidIn, lz1, lz2, lz4, lz5, lz6, if_true, Act.put, lz7, lz8, lz9] at hK ⊢
          go_simp
          exact hK.out _ _ (Below.refl _ _) rfl (not_fresh rfl)
        case refine_7 =>
          intro vs Y1 hV hR hne fuel
          have d0 : vs 0 = .agg #[.bool true, .slice a1 z1.length c1] := hR 0 (by decide)
          have d1 : vs 1 = .pointer (some ⟨w.heap.size, 2, none⟩) := hR 1 (by decide)
          have d2 : vs 2 = .slice c ds.length cc := hR 2 (by decide)
          have d3 : vs 3 = .int .i64 k := hR 3 (by decide)
          have hh := fun (P : Prop) => Yield.nat_elim P (show ((Yield.nat u5.heap.size (val ds ^ k) (n * k + 1)) : Yield).At (vs 4) Y1 from hR 4 (by decide))
          refine hh _ ?_
          intro a2 c2 z2 d4 S2 N2 V2 b2
          clear hh
          have hh := fun (P : Prop) => Yield.natIn_elim P (show ((Yield.natIn (fun s => .agg #[.bool true, .slice a1 z1.length c1, s]) u5.heap.size (val ds ^ k) (n * k + 1)) : Yield).At (vs 5) Y1 from hR 5 (by decide))
          refine hh _ ?_
          intro a3 c3 z3 d5 S3 N3 V3 b3
          clear hh
          replace FA := FA.below hV
          replace EA := EA.below hV
          replace ER := ER.below hV
          replace S1 := S1.below hV
          replace EU := EU.below hV
          have hr := hV
          simp only [laidIn, lz4, lz5, lz6, if_true, Act.put, lz7, lz8, lz9]
          simp only [d0, d1, d2, d3, d4, d5]
          clear hR hne hV d0 d1 d2 d3 d4 d5
          clear vs
          show wpAny _ _ _ _ (fuel + 2) _ _ _
          refine wpAny_all (rs := [6]) (by kernel_rfl) (by simp) (fun i hi => ?_)
          obtain rfl : i = 6 := by simpa using hi
          clear hi
          have hcc := ER.three
          have k0 := hcc.1
          have k1 := hcc.2.1
          have k2 := hcc.2.2.1
          have f0 := hcc.2.2.2.1
          have f1 := hcc.2.2.2.2.1
          have f2 := hcc.2.2.2.2.2
          clear hcc
          refine wpOp_step rfl (fun K hK => ?_)
          simp only [lz1, lz2, lz3]
          rw [if_pos (by rfl)]
          go_simp
          refine hK _ _ ?_
          clear hK k0 f0 k1 f1 k2 f2
          have hT := turns3 (w.heap.size + 1) Y1 (.bool true) (.slice a1 z1.length c1) (.slice a3 z3.length c3)
          replace FA := FA.beside ER (noWord3 (fun _ e => by cases e) (fun _ e => by cases e) (fun _ e => by cases e)) hT
          replace EA := EA.turns hT (by omega)
          replace S1 := S1.beside ER (noWord3 (fun _ e => by cases e) (fun _ e => by cases e) (fun _ e => by cases e)) hT
          replace EU := EU.turns hT (by omega)
          replace S2 := S2.beside ER (noWord3 (fun _ e => by cases e) (fun _ e => by cases e) (fun _ e => by cases e)) hT
          replace S3 := S3.beside ER (noWord3 (fun _ e => by cases e) (fun _ e => by cases e) (fun _ e => by cases e)) hT
          replace ER := Box.set3 (.bool true) (.slice a1 z1.length c1) (.slice a3 z3.length c3) ER
          have hr6 := hT.below
          obtain ⟨X1, hX⟩ := nm hT.below
          rw [hX] at FA EA ER S1 EU S2 S3 hr6 ⊢
          clear hX hT
          refine wpAny_all (rs := [7]) (by kernel_rfl) (by simp) (fun i hi => ?_)
          obtain rfl : i = 7 := by simpa using hi
          clear hi
          refine wpOp_step rfl (fun K hK => ?_)
          simp only [lz1, lz2, lz3]
          rw [if_pos (by rfl)]
          go_simp
          refine hK _ _ ?_
          clear hK
          refine wpAny_done (by kernel_rfl) ?_ _
          replace hB := hB.trans ((Below.trans (Below.drew (Below.refl u5.heap.size u5)) hr).mono hB.size)
          replace hB := hB.trans (hr6.mono (by omega))
          have zz5_1 := hr.size
          have zi1 := hB.size
          have zy1_6 := hr6.size
          clear hr hr6
          have HI := pow_is (N := n * k + 1) (k := k) (sg := true) (b := true) IA FA.up.words FA.down.words (by simp [hpar]) V1 N1 V3 N3 (by omega) (by omega)
          have HAP := hide (apart_of (fun h b o e => SU.block h b o e) S3 (by omega) : Apart a1 a3 z1 z3)
          obtain ⟨k0, k1, k2, f0, f1, f2⟩ := EA.three
          obtain ⟨k3, k4, k5, f3, f4, f5⟩ := ER.three
          obtain ⟨k6, k7, f6, f7⟩ := EU.two
          have hcc := ER.three
          have r0 := hcc.1
          have r1 := hcc.2.1
          have r2 := hcc.2.2.1
          clear hcc
          go_wp2
          refine bodyPost_ret (v := .tuple #[.agg #[.bool true, .slice a1 z1.length c1, .slice a3 z3.length c3], .int .i64 0]) (by simp [results, Tryz.f12, go_sem, r0, r1, r2]) rfl ?_
          exact ⟨_, _, _, _, _, _, _, rfl, ⟨S1.mono (by omega), S3.mono (by omega)⟩, HAP.out, HI, hB⟩
      · have hp2 : ((k : Int) % 2 == 1) = false := beq_eq_false_iff_ne.2 (by omega)
        go_enter Tryz.func12, Tryz.ntmps12
        have hs0 := Nat.le_refl w.heap.size
        have hq := below_new w (.cells #[.bool true, .slice a xs.length ca, .slice c ds.length cc] 27)
        replace FA := FA.below hq
        have EA := Box.put (w := w) (k := (w.heap.size)) (.cells #[.bool true, .slice a xs.length ca, .slice c ds.length cc] 27) rfl
        replace hs0 := Nat.le_trans hs0 hq.size
        replace hB := hB.trans (hq.mono hB.size)
        clear hq
        have hq := below_new (w.alloc (.cells #[.bool true, .slice a xs.length ca, .slice c ds.length cc] 27)) (.cells #[.bool false, .slice none 0 0, .slice none 0 0] 27)
        replace FA := FA.below hq
        replace EA := EA.below hq
        have ER := Box.put (w := (w.alloc (.cells #[.bool true, .slice a xs.length ca, .slice c ds.length cc] 27))) (k := (w.heap.size + 1)) (.cells #[.bool false, .slice none 0 0, .slice none 0 0] 27) (by simp)
        replace hs0 := Nat.le_trans hs0 hq.size
        replace hB := hB.trans (hq.mono hB.size)
        clear hq
        go_wp2_with fail
        obtain ⟨u1, hname⟩ := nm hB
        rw [hname] at hs0 hB FA EA ER ⊢
        have zh1 := hB.size
        have zs1 := hs0
        clear hname hs0
        have hk := pcheck_any true FA (by omega) (by omega)
        rw [HA.out] at hk
        refine (hk).mono ?_
        rintro e w2 ⟨rfl, hb⟩
        replace FA := FA.below hb
        replace EA := EA.below hb
        replace ER := ER.below hb
        replace hB := hB.trans (hb.mono hB.size)
        have zz2 := hb.size
        have zh2 := hB.size
        clear hb
        clear hk
        obtain ⟨k0, k1, k2, f0, f1, f2⟩ := EA.three
        obtain ⟨k3, k4, k5, f3, f4, f5⟩ := ER.three
        go_wp2_with fail
        clear k0 k1 k2 f0 f1 f2 k3 k4 k5 f3 f4 f5
        refine (hz _).mono ?_
        rintro e w3 ⟨rfl, hb⟩
        replace FA := FA.below hb
        replace EA := EA.below hb
        replace ER := ER.below hb
        replace hB := hB.trans (hb.mono hB.size)
        have zz3 := hb.size
        have zh3 := hB.size
        clear hb
        obtain ⟨k0, k1, k2, f0, f1, f2⟩ := EA.three
        obtain ⟨k3, k4, k5, f3, f4, f5⟩ := ER.three
        go_wp2_with fail
        clear k0 k1 k2 f0 f1 f2 k3 k4 k5 f3 f4 f5
        refine (raise_any FA.up k hk12 (by omega)).mono ?_
        rintro e w4 ⟨a1, c1, z1, rfl, S1, N1, v1, l1, hb⟩
        have V1 : Hid (val z1 = val xs ^ k) := v1
        have b1 : z1.length ≤ n * k + 1 := by omega
        clear v1 l1
        replace FA := FA.below hb
        replace EA := EA.below hb
        replace ER := ER.below hb
        replace hB := hB.trans (hb.mono hB.size)
        have zz4 := hb.size
        have zh4 := hB.size
        clear hb
        have SU := S1
        obtain ⟨k0, k1, k2, f0, f1, f2⟩ := EA.three
        obtain ⟨k3, k4, k5, f3, f4, f5⟩ := ER.three
        have qEA := EA.lt
        have qER := ER.lt
        have hs0 := Nat.le_refl w4.heap.size
        have hq := below_new w4 (.cells #[.bool false, .slice a1 z1.length c1] 25)
        replace FA := FA.below hq
        replace EA := EA.below hq
        replace ER := ER.below hq
        replace S1 := S1.below hq
        have EU := Box.put (w := w4) (k := (w4.heap.size)) (.cells #[.bool false, .slice a1 z1.length c1] 25) rfl
        replace hs0 := Nat.le_trans hs0 hq.size
        replace hB := hB.trans (hq.mono hB.size)
        clear hq
        go_wp2_with fail
        clear k0 k1 k2 f0 f1 f2 k3 k4 k5 f3 f4 f5
        obtain ⟨u5, hname⟩ := nm hB
        rw [hname] at hs0 hB FA EA ER S1 EU ⊢
        have zh5 := hB.size
        have zs5 := hs0
        clear hname hs0
        replace FA := FA.drew
        have qEA := EA.lt
        replace EA := EA.drew
        have qER := ER.lt
        replace ER := ER.drew
        replace S1 := S1.drew
        have qEU := EU.lt
        replace EU := EU.drew
        refine wp_yields 6 [.is (.agg #[.bool false, .slice a1 z1.length c1]), .is (.pointer (some ⟨w.heap.size, 2, none⟩)), .is (.slice c ds.length cc), .is (.int .i64 k), (Yield.nat u5.heap.size (val ds ^ k) (n * k + 1)), (Yield.natIn (fun s => .agg #[.bool false, .slice a1 z1.length c1, s]) u5.heap.size (val ds ^ k) (n * k + 1))] (by kernel_rfl) (by kernel_rfl) (lt_cons ?_ (lt_cons ?_ (lt_cons ?_ (lt_cons ?_ (lt_cons ?_ (lt_cons ?_ lt_nil)))))) ?_
        case refine_1 =>
          refine OpDoes.mk rfl ?_
          intro vs V hV hd K hK
          have d0 : vs 0 = .agg #[.bool false, .slice a1 z1.length c1] := hd 0 (by decide) (by kernel_rfl)
          have hh := fun (P : Prop) => Yield.nat_elim P (show ((Yield.nat u5.heap.size (val ds ^ k) (n * k + 1)) : Yield).At (vs 4) V from hd 4 (by decide) (by kernel_rfl))
          refine hh _ ?_
          intro a2 c2 z2 d4 S2 N2 V2 b2
          clear hh
          simp only [laidIn, lz1, lz2, lz3, lz4, lz5, lz6, if_true, Act.put, lz7, lz8, lz9] at hK ⊢
          simp only [d0, d4] at hK ⊢
          go_simp
          exact hK.out _ _ (Below.refl _ _) ⟨_, _, _, rfl, S2, N2, V2, b2⟩ (not_fresh rfl)
        case refine_2 =>
          refine OpDoes.mk rfl ?_
          intro vs V hV hd K hK
          have d2 : vs 2 = .slice c ds.length cc := hd 2 (by decide) (by kernel_rfl)
          have d3 : vs 3 = .int .i64 k := hd 3 (by decide) (by kernel_rfl)
          simp only [laidIn, lz1, lz2, lz3, lz4, lz5, lz6, if_true, Act.put, lz7, lz8, lz9] at hK ⊢
          simp only [d2, d3] at hK ⊢
          go_simp
          go_at_call 41
          refine (raise_any (FA.down.below hV) k hk12 (by omega)).mono ?_
          rintro e V' ⟨a2, c2, z2, rfl, S2, N2, v2, l2, hb⟩
          have V2 : Hid (val z2 = val ds ^ k) := v2
          have b2 : z2.length ≤ n * k + 1 := by omega
          clear v2 l2
          exact hK.out _ _ hb ⟨_, _, _, rfl, S2.mono hV.size, N2, V2, b2⟩ (not_fresh rfl)
        case refine_3 =>
          refine OpDoes.mk rfl ?_
          intro vs V hV hd K hK
          simp only [laidIn, lz1, lz2, lz3, lz4, lz5, lz6, if_true, Act.put, lz7, lz8, lz9] at hK ⊢
          go_simp
          exact hK.out _ _ (Below.refl _ _) rfl (not_fresh rfl)
        case refine_4 =>
          refine OpDoes.mk rfl ?_
          intro vs V hV hd K hK
          have d1 : vs 1 = .pointer (some ⟨w.heap.size, 2, none⟩) := hd 1 (by decide) (by kernel_rfl)
          have hcc := (EA.below hV).three
          have k0 := hcc.1
          have k1 := hcc.2.1
          have k2 := hcc.2.2.1
          clear hcc
          simp only [laidIn, lz1, lz2, lz3, lz4, lz5, lz6, if_true, Act.put, lz7, lz8, lz9] at hK ⊢
          simp only [d1] at hK ⊢
          go_simp
          exact hK.out _ _ (Below.refl _ _) rfl (not_fresh rfl)
        case refine_5 =>
          refine OpDoes.mk rfl ?_
          intro vs V hV hd K hK
          simp only [laidIn, lz1, lz2, lz3, lz4, lz5, lz6, if_true, Act.put, lz7, lz8, lz9] at hK ⊢
          go_simp
          exact hK.out _ _ (Below.refl _ _) rfl (not_fresh rfl)
        case refine_6 =>
          refine OpDoes.mk rfl ?_
          intro vs V hV hd K hK
          have hcc := (EU.below hV).two
          have k0 := hcc.1
          have k1 := hcc.2.1
          clear hcc
          simp only [laidIn, lz1, lz2, lz4, lz5, lz6, if_true, Act.put, lz7, lz8, lz9] at hK ⊢
          go_simp
          exact hK.out _ _ (Below.refl _ _) rfl (not_fresh rfl)
        case refine_7 =>
          intro vs Y1 hV hR hne fuel
          have d0 : vs 0 = .agg #[.bool false, .slice a1 z1.length c1] := hR 0 (by decide)
          have d1 : vs 1 = .pointer (some ⟨w.heap.size, 2, none⟩) := hR 1 (by decide)
          have d2 : vs 2 = .slice c ds.length cc := hR 2 (by decide)
          have d3 : vs 3 = .int .i64 k := hR 3 (by decide)
          have hh := fun (P : Prop) => Yield.nat_elim P (show ((Yield.nat u5.heap.size (val ds ^ k) (n * k + 1)) : Yield).At (vs 4) Y1 from hR 4 (by decide))
          refine hh _ ?_
          intro a2 c2 z2 d4 S2 N2 V2 b2
          clear hh
          have hh := fun (P : Prop) => Yield.natIn_elim P (show ((Yield.natIn (fun s => .agg #[.bool false, .slice a1 z1.length c1, s]) u5.heap.size (val ds ^ k) (n * k + 1)) : Yield).At (vs 5) Y1 from hR 5 (by decide))
          refine hh _ ?_
          intro a3 c3 z3 d5 S3 N3 V3 b3
          clear hh
          replace FA := FA.below hV
          replace EA := EA.below hV
          replace ER := ER.below hV
          replace S1 := S1.below hV
          replace EU := EU.below hV
          have hr := hV
          simp only [laidIn, lz4, lz5, lz6, if_true, Act.put, lz7, lz8, lz9]
          simp only [d0, d1, d2, d3, d4, d5]
          clear hR hne hV d0 d1 d2 d3 d4 d5
          clear vs
          show wpAny _ _ _ _ (fuel + 2) _ _ _
          refine wpAny_all (rs := [6]) (by kernel_rfl) (by simp) (fun i hi => ?_)
          obtain rfl : i = 6 := by simpa using hi
          clear hi
          have hcc := ER.three
          have k0 := hcc.1
          have k1 := hcc.2.1
          have k2 := hcc.2.2.1
          have f0 := hcc.2.2.2.1
          have f1 := hcc.2.2.2.2.1
          have f2 := hcc.2.2.2.2.2
          clear hcc
          refine wpOp_step rfl (fun K hK => ?_)
          simp only [lz1, lz2, lz3]
          rw [if_pos (by rfl)]
          go_simp
          refine hK _ _ ?_
          clear hK k0 f0 k1 f1 k2 f2
          have hT := turns3 (w.heap.size + 1) Y1 (.bool false) (.slice a1 z1.length c1) (.slice a3 z3.length c3)
          replace FA := FA.beside ER (noWord3 (fun _ e => by cases e) (fun _ e => by cases e) (fun _ e => by cases e)) hT
          replace EA := EA.turns hT (by omega)
          replace S1 := S1.beside ER (noWord3 (fun _ e => by cases e) (fun _ e => by cases e) (fun _ e => by cases e)) hT
          replace EU := EU.turns hT (by omega)
          replace S2 := S2.beside ER (noWord3 (fun _ e => by cases e) (fun _ e => by cases e) (fun _ e => by cases e)) hT
          replace S3 := S3.beside ER (noWord3 (fun _ e => by cases e) (fun _ e => by cases e) (fun _ e => by cases e)) hT
          replace ER := Box.set3 (.bool false) (.slice a1 z1.length c1) (.slice a3 z3.length c3) ER
          have hr6 := hT.below
          obtain ⟨X1, hX⟩ := nm hT.below
          rw [hX] at FA EA ER S1 EU S2 S3 hr6 ⊢
          clear hX hT
          refine wpAny_all (rs := [7]) (by kernel_rfl) (by simp) (fun i hi => ?_)
          obtain rfl : i = 7 := by simpa using hi
          clear hi
          refine wpOp_step rfl (fun K hK => ?_)
          simp only [lz1, lz2, lz3]
          rw [if_pos (by rfl)]
          go_simp
          refine hK _ _ ?_
          clear hK
          refine wpAny_done (by kernel_rfl) ?_ _
          replace hB := hB.trans ((Below.trans (Below.drew (Below.refl u5.heap.size u5)) hr).mono hB.size)
          replace hB := hB.trans (hr6.mono (by omega))
          have zz5_1 := hr.size
          have zi1 := hB.size
          have zy1_6 := hr6.size
          clear hr hr6
          have HI := pow_is (N := n * k + 1) (k := k) (sg := false) (b := true) IA FA.up.words FA.down.words (by simp [hpar]) V1 N1 V3 N3 (by omega) (by omega)
          have HAP := hide (apart_of (fun h b o e => SU.block h b o e) S3 (by omega) : Apart a1 a3 z1 z3)
          obtain ⟨k0, k1, k2, f0, f1, f2⟩ := EA.three
          obtain ⟨k3, k4, k5, f3, f4, f5⟩ := ER.three
          obtain ⟨k6, k7, f6, f7⟩ := EU.two
          have hcc := ER.three
          have r0 := hcc.1
          have r1 := hcc.2.1
          have r2 := hcc.2.2.1
          clear hcc
          go_wp2
          refine bodyPost_ret (v := .tuple #[.agg #[.bool false, .slice a1 z1.length c1, .slice a3 z3.length c3], .int .i64 0]) (by simp [results, Tryz.f12, go_sem, r0, r1, r2]) rfl ?_
          exact ⟨_, _, _, _, _, _, _, rfl, ⟨S1.mono (by omega), S3.mono (by omega)⟩, HAP.out, HI, hB⟩
set_option maxRecDepth 100000 in
set_option maxHeartbeats 4000000 in
theorem ppower_neg {lo : Nat} {a c : Option Addr} {ca cc : Nat} {xs ds : List Int} {w : World} (b : Bool) (FA : Fr lo w a ca xs c cc ds) {n : Nat} {q : Rat} (IA : Is b xs ds q n) (hn : n ≤ 30) (k : Nat) (hk12 : k ≤ 12) (hk0 : 0 < k) (HX : Hid (xs ≠ [])) :
    Calls Tryz.prog 12 #[.agg #[.bool b, .slice a xs.length ca, .slice c ds.length cc], .int .i64 (-(k : Int))] w fun e w' => ∃ (b' : Bool) (a' : Option Addr) (ca' : Nat) (ts' : List Int) (c' : Option Addr) (cc' : Nat) (es' : List Int), e = .returned (.tuple #[.agg #[.bool b', .slice a' ts'.length ca', .slice c' es'.length cc'], .int .i64 0]) ∧ Fr w.heap.size w' a' ca' ts' c' cc' es' ∧ Apart a' c' ts' es' ∧ Is b' ts' es' (q⁻¹ ^ k) (n * k + 1) ∧ Below w.heap.size w w' := by
  have lxa := IA.lu
  have lda := IA.ld
  have hxk : xs.length * k ≤ n * k := Nat.mul_le_mul_right _ lxa
  have hdk : ds.length * k ≤ n * k := Nat.mul_le_mul_right _ lda
  have h1 : ¬ -(k : Int) < -10000 := by omega
  have h2 : ¬ 10000 < -(k : Int) := by omega
  have h3 : -(k : Int) < 0 := by omega
  have h4 : IntKind.i64.wrap (k : Int) = k := by rw [IntKind.wrap_i64]; omega
  have HA : Hid (formR b xs ds = 0) := (formR_low FA.up.words FA.down.words).2 IA.low
  have hB := Below.refl w.heap.size w
  have hz := fun w => isZero_any b a xs ca c ds cc w
  rw [show ((xs.length : Int) == 0) = false from beq_eq_false_iff_ne.2 (by have := List.length_pos_iff.2 HX.out; omega)] at hz
  cases b with
  | false =>
    go_enter Tryz.func12, Tryz.ntmps12
    have hs0 := Nat.le_refl w.heap.size
    have hq := below_new w (.cells #[.bool false, .slice a xs.length ca, .slice c ds.length cc] 27)
    replace FA := FA.below hq
    have EA := Box.put (w := w) (k := (w.heap.size)) (.cells #[.bool false, .slice a xs.length ca, .slice c ds.length cc] 27) rfl
    replace hs0 := Nat.le_trans hs0 hq.size
    replace hB := hB.trans (hq.mono hB.size)
    clear hq
    have hq := below_new (w.alloc (.cells #[.bool false, .slice a xs.length ca, .slice c ds.length cc] 27)) (.cells #[.bool false, .slice none 0 0, .slice none 0 0] 27)
    replace FA := FA.below hq
    replace EA := EA.below hq
    have ER := Box.put (w := (w.alloc (.cells #[.bool false, .slice a xs.length ca, .slice c ds.length cc] 27))) (k := (w.heap.size + 1)) (.cells #[.bool false, .slice none 0 0, .slice none 0 0] 27) (by simp)
    replace hs0 := Nat.le_trans hs0 hq.size
    replace hB := hB.trans (hq.mono hB.size)
    clear hq
    go_wp2_with fail
    obtain ⟨u1, hname⟩ := nm hB
    rw [hname] at hs0 hB FA EA ER ⊢
    have zh1 := hB.size
    have zs1 := hs0
    clear hname hs0
    have hk := pcheck_any false FA (by omega) (by omega)
    rw [HA.out] at hk
    refine (hk).mono ?_
    rintro e w2 ⟨rfl, hb⟩
    replace FA := FA.below hb
    replace EA := EA.below hb
    replace ER := ER.below hb
    replace hB := hB.trans (hb.mono hB.size)
    have zz2 := hb.size
    have zh2 := hB.size
    clear hb
    clear hk
    obtain ⟨k0, k1, k2, f0, f1, f2⟩ := EA.three
    obtain ⟨k3, k4, k5, f3, f4, f5⟩ := ER.three
    go_wp2_with fail
    clear k0 k1 k2 f0 f1 f2 k3 k4 k5 f3 f4 f5
    refine (hz _).mono ?_
    rintro e w3 ⟨rfl, hb⟩
    replace FA := FA.below hb
    replace EA := EA.below hb
    replace ER := ER.below hb
    replace hB := hB.trans (hb.mono hB.size)
    have zz3 := hb.size
    have zh3 := hB.size
    clear hb
    obtain ⟨k0, k1, k2, f0, f1, f2⟩ := EA.three
    obtain ⟨k3, k4, k5, f3, f4, f5⟩ := ER.three
    go_wp2_with fail
    clear k0 k1 k2 f0 f1 f2 k3 k4 k5 f3 f4 f5
    refine (turned_any false a xs ca c ds cc _).mono ?_
    rintro e w4 ⟨rfl, hb⟩
    replace FA := FA.below hb
    replace EA := EA.below hb
    replace ER := ER.below hb
    replace hB := hB.trans (hb.mono hB.size)
    have zz4 := hb.size
    have zh4 := hB.size
    clear hb
    obtain ⟨k0, k1, k2, f0, f1, f2⟩ := EA.three
    obtain ⟨k3, k4, k5, f3, f4, f5⟩ := ER.three
    have qEA := EA.lt
    have qER := ER.lt
    have hs0 := Nat.le_refl w4.heap.size
    have hT := turns3 (w.heap.size) w4 (.bool false) (.slice c ds.length cc) (.slice a xs.length ca)
    replace FA := FA.beside EA (noWord3 (fun _ e => by cases e) (fun _ e => by cases e) (fun _ e => by cases e)) hT
    replace ER := ER.turns hT (by omega)
    replace EA := Box.set3 (.bool false) (.slice c ds.length cc) (.slice a xs.length ca) EA
    replace hB := hB.trans (hT.below.mono (by omega))
    replace hs0 := Nat.le_trans hs0 hT.below.size
    clear hT
    go_wp2_with fail
    clear k0 k1 k2 f0 f1 f2 k3 k4 k5 f3 f4 f5
    obtain ⟨u5, hname⟩ := nm hB
    rw [hname] at hs0 hB FA EA ER ⊢
    have zh5 := hB.size
    have zs5 := hs0
    clear hname hs0
    refine (raise_any FA.down k hk12 (by omega)).mono ?_
    rintro e w6 ⟨a1, c1, z1, rfl, S1, N1, v1, l1, hb⟩
    have V1 : Hid (val z1 = val ds ^ k) := v1
    have b1 : z1.length ≤ n * k + 1 := by omega
    clear v1 l1
    replace FA := FA.below hb
    replace EA := EA.below hb
    replace ER := ER.below hb
    replace hB := hB.trans (hb.mono hB.size)
    have zz6 := hb.size
    have zh6 := hB.size
    clear hb
    have SU := S1
    obtain ⟨k0, k1, k2, f0, f1, f2⟩ := EA.three
    obtain ⟨k3, k4, k5, f3, f4, f5⟩ := ER.three
    have qEA := EA.lt
    have qER := ER.lt
    have hs0 := Nat.le_refl w6.heap.size
    have hq := below_new w6 (.cells #[.bool false, .slice a1 z1.length c1] 25)
    replace FA := FA.below hq
    replace EA := EA.below hq
    replace ER := ER.below hq
    replace S1 := S1.below hq
    have EU := Box.put (w := w6) (k := (w6.heap.size)) (.cells #[.bool false, .slice a1 z1.length c1] 25) rfl
    replace hs0 := Nat.le_trans hs0 hq.size
    replace hB := hB.trans (hq.mono hB.size)
    clear hq
    go_wp2_with fail
    clear k0 k1 k2 f0 f1 f2 k3 k4 k5 f3 f4 f5
    obtain ⟨u7, hname⟩ := nm hB
    rw [hname] at hs0 hB FA EA ER S1 EU ⊢
    have zh7 := hB.size
    have zs7 := hs0
    clear hname hs0
    replace FA := FA.drew
    have qEA := EA.lt
    replace EA := EA.drew
    have qER := ER.lt
    replace ER := ER.drew
    replace S1 := S1.drew
    have qEU := EU.lt
    replace EU := EU.drew
    refine wp_yields 6 [.is (.agg #[.bool false, .slice a1 z1.length c1]), .is (.pointer (some ⟨w.heap.size, 2, none⟩)), .is (.slice a xs.length ca), .is (.int .i64 k), (Yield.nat u7.heap.size (val xs ^ k) (n * k + 1)), (Yield.natIn (fun s => .agg #[.bool false, .slice a1 z1.length c1, s]) u7.heap.size (val xs ^ k) (n * k + 1))] (by kernel_rfl) (by kernel_rfl) (lt_cons ?_ (lt_cons ?_ (lt_cons ?_ (lt_cons ?_ (lt_cons ?_ (lt_cons ?_ lt_nil)))))) ?_
    case refine_1 =>
      refine OpDoes.mk rfl ?_
      intro vs V hV hd K hK
      have d0 : vs 0 = .agg #[.bool false, .slice a1 z1.length c1] := hd 0 (by decide) (by kernel_rfl)
      have hh := fun (P : Prop) => Yield.nat_elim P (show ((Yield.nat u7.heap.size (val xs ^ k) (n * k + 1)) : Yield).At (vs 4) V from hd 4 (by decide) (by kernel_rfl))
      refine hh _ ?_
      intro a2 c2 z2 d4 S2 N2 V2 b2
      clear hh
      simp only [laidIn, lz1, lz2, lz3, lz4, lz5, lz6, if_true, Act.put, lz7, lz8, lz9] at hK ⊢
      simp only [d0, d4] at hK ⊢
      go_simp
      exact hK.out _ _ (Below.refl _ _) ⟨_, _, _, rfl, S2, N2, V2, b2⟩ (not_fresh rfl)
    case refine_2 =>
      refine OpDoes.mk rfl ?_
      intro vs V hV hd K hK
      have d2 : vs 2 = .slice a xs.length ca := hd 2 (by decide) (by kernel_rfl)
      have d3 : vs 3 = .int .i64 k := hd 3 (by decide) (by kernel_rfl)
      simp only [laidIn, lz1, lz2, lz3, lz4, lz5, lz6, if_true, Act.put, lz7, lz8, lz9] at hK ⊢
      simp only [d2, d3] at hK ⊢
      go_simp
      go_at_call 41
      refine (raise_any (FA.up.below hV) k hk12 (by omega)).mono ?_
      rintro e V' ⟨a2, c2, z2, rfl, S2, N2, v2, l2, hb⟩
      have V2 : Hid (val z2 = val xs ^ k) := v2
      have b2 : z2.length ≤ n * k + 1 := by omega
      clear v2 l2
      exact hK.out _ _ hb ⟨_, _, _, rfl, S2.mono hV.size, N2, V2, b2⟩ (not_fresh rfl)
    case refine_3 =>
      refine OpDoes.mk rfl ?_
      intro vs V hV hd K hK
      simp only [laidIn, lz1, lz2, lz3, lz4, lz5, lz6, if_true, Act.put, lz7, lz8, lz9] at hK ⊢
      go_simp
      exact hK.out _ _ (Below.refl _ _) rfl (not_fresh rfl)
    case refine_4 =>
      refine OpDoes.mk rfl ?_
      intro vs V hV hd K hK
      have d1 : vs 1 = .pointer (some ⟨w.heap.size, 2, none⟩) := hd 1 (by decide) (by kernel_rfl)
      have hcc := (EA.below hV).three
      have k0 := hcc.1
      have k1 := hcc.2.1
      have k2 := hcc.2.2.1
      clear hcc
      simp only [laidIn, lz1, lz2, lz3, lz4, lz5, lz6, if_true, Act.put, lz7, lz8, lz9] at hK ⊢
      simp only [d1] at hK ⊢
      go_simp
      exact hK.out _ _ (Below.refl _ _) rfl (not_fresh rfl)
    case refine_5 =>
      refine OpDoes.mk rfl ?_
      intro vs V hV hd K hK
      simp only [laidIn, lz1, lz2, lz3, lz4, lz5, lz6, if_true, Act.put, lz7, lz8, lz9] at hK ⊢
      go_simp
      exact hK.out _ _ (Below.refl _ _) rfl (not_fresh rfl)
    case refine_6 =>
      refine OpDoes.mk rfl ?_
      intro vs V hV hd K hK
      have hcc := (EU.below hV).two
      have k0 := hcc.1
      have k1 := hcc.2.1
      clear hcc
      simp only [laidIn, lz1, lz2, lz4, lz5, lz6, if_true, Act.put, lz7, lz8, lz9] at hK ⊢
      go_simp
      exact hK.out _ _ (Below.refl _ _) rfl (not_fresh rfl)
    case refine_7 =>
      intro vs Y1 hV hR hne fuel
      have d0 : vs 0 = .agg #[.bool false, .slice a1 z1.length c1] := hR 0 (by decide)
      have d1 : vs 1 = .pointer (some ⟨w.heap.size, 2, none⟩) := hR 1 (by decide)
      have d2 : vs 2 = .slice a xs.length ca := hR 2 (by decide)
      have d3 : vs 3 = .int .i64 k := hR 3 (by decide)
      have hh := fun (P : Prop) => Yield.nat_elim P (show ((Yield.nat u7.heap.size (val xs ^ k) (n * k + 1)) : Yield).At (vs 4) Y1 from hR 4 (by decide))
      refine hh _ ?_
      intro a2 c2 z2 d4 S2 N2 V2 b2
      clear hh
      have hh := fun (P : Prop) => Yield.natIn_elim P (show ((Yield.natIn (fun s => .agg #[.bool false, .slice a1 z1.length c1, s]) u7.heap.size (val xs ^ k) (n * k + 1)) : Yield).At (vs 5) Y1 from hR 5 (by decide))
      refine hh _ ?_
      intro a3 c3 z3 d5 S3 N3 V3 b3
      clear hh
      replace FA := FA.below hV
      replace EA := EA.below hV
      replace ER := ER.below hV
      replace S1 := S1.below hV
      replace EU := EU.below hV
      have hr := hV
      simp only [laidIn, lz4, lz5, lz6, if_true, Act.put, lz7, lz8, lz9]
      simp only [d0, d1, d2, d3, d4, d5]
      clear hR hne hV d0 d1 d2 d3 d4 d5
      clear vs
      show wpAny _ _ _ _ (fuel + 2) _ _ _
      refine wpAny_all (rs := [6]) (by kernel_rfl) (by simp) (fun i hi => ?_)
      obtain rfl : i = 6 := by simpa using hi
      clear hi
      have hcc := ER.three
      have k0 := hcc.1
      have k1 := hcc.2.1
      have k2 := hcc.2.2.1
      have f0 := hcc.2.2.2.1
      have f1 := hcc.2.2.2.2.1
      have f2 := hcc.2.2.2.2.2
      clear hcc
      refine wpOp_step rfl (fun K hK => ?_)
      simp only [lz1, lz2, lz3]
      rw [if_pos (by rfl)]
      go_simp
      refine hK _ _ ?_
      clear hK k0 f0 k1 f1 k2 f2
      have hT := turns3 (w.heap.size + 1) Y1 (.bool false) (.slice a1 z1.length c1) (.slice a3 z3.length c3)
      replace FA := FA.beside ER (noWord3 (fun _ e => by cases e) (fun _ e => by cases e) (fun _ e => by cases e)) hT
      replace EA := EA.turns hT (by omega)
      replace S1 := S1.beside ER (noWord3 (fun _ e => by cases e) (fun _ e => by cases e) (fun _ e => by cases e)) hT
      replace EU := EU.turns hT (by omega)
      replace S2 := S2.beside ER (noWord3 (fun _ e => by cases e) (fun _ e => by cases e) (fun _ e => by cases e)) hT
      replace S3 := S3.beside ER (noWord3 (fun _ e => by cases e) (fun _ e => by cases e) (fun _ e => by cases e)) hT
      replace ER := Box.set3 (.bool false) (.slice a1 z1.length c1) (.slice a3 z3.length c3) ER
      have hr6 := hT.below
      obtain ⟨X1, hX⟩ := nm hT.below
      rw [hX] at FA EA ER S1 EU S2 S3 hr6 ⊢
      clear hX hT
      refine wpAny_all (rs := [7]) (by kernel_rfl) (by simp) (fun i hi => ?_)
      obtain rfl : i = 7 := by simpa using hi
      clear hi
      refine wpOp_step rfl (fun K hK => ?_)
      simp only [lz1, lz2, lz3]
      rw [if_pos (by rfl)]
      go_simp
      refine hK _ _ ?_
      clear hK
      refine wpAny_done (by kernel_rfl) ?_ _
      replace hB := hB.trans ((Below.trans (Below.drew (Below.refl u7.heap.size u7)) hr).mono hB.size)
      replace hB := hB.trans (hr6.mono (by omega))
      have zz7_1 := hr.size
      have zi1 := hB.size
      have zy1_6 := hr6.size
      clear hr hr6
      have HI := pow_is (N := n * k + 1) (k := k) (sg := false) (b := false) (IA.inv FA.up.words HX.out) FA.down.words FA.up.words (by simp) V1 N1 V3 N3 (by omega) (by omega)
      have HAP := hide (apart_of (fun h b o e => SU.block h b o e) S3 (by omega) : Apart a1 a3 z1 z3)
      obtain ⟨k0, k1, k2, f0, f1, f2⟩ := EA.three
      obtain ⟨k3, k4, k5, f3, f4, f5⟩ := ER.three
      obtain ⟨k6, k7, f6, f7⟩ := EU.two
      have hcc := ER.three
      have r0 := hcc.1
      have r1 := hcc.2.1
      have r2 := hcc.2.2.1
      clear hcc
      go_wp2
      refine bodyPost_ret (v := .tuple #[.agg #[.bool false, .slice a1 z1.length c1, .slice a3 z3.length c3], .int .i64 0]) (by simp [results, Tryz.f12, go_sem, r0, r1, r2]) rfl ?_
      exact ⟨_, _, _, _, _, _, _, rfl, ⟨S1.mono (by omega), S3.mono (by omega)⟩, HAP.out, HI, hB⟩
  | true =>
    by_cases hpar : k % 2 = 1
    · have hp2 : ((k : Int) % 2 == 1) = true := beq_iff_eq.2 (by omega)
      go_enter Tryz.func12, Tryz.ntmps12
      have hs0 := Nat.le_refl w.heap.size
      have hq := below_new w (.cells #[.bool true, .slice a xs.length ca, .slice c ds.length cc] 27)
      replace FA := FA.below hq
      have EA := Box.put (w := w) (k := (w.heap.size)) (.cells #[.bool true, .slice a xs.length ca, .slice c ds.length cc] 27) rfl
      replace hs0 := Nat.le_trans hs0 hq.size
      replace hB := hB.trans (hq.mono hB.size)
      clear hq
      have hq := below_new (w.alloc (.cells #[.bool true, .slice a xs.length ca, .slice c ds.length cc] 27)) (.cells #[.bool false, .slice none 0 0, .slice none 0 0] 27)
      replace FA := FA.below hq
      replace EA := EA.below hq
      have ER := Box.put (w := (w.alloc (.cells #[.bool true, .slice a xs.length ca, .slice c ds.length cc] 27))) (k := (w.heap.size + 1)) (.cells #[.bool false, .slice none 0 0, .slice none 0 0] 27) (by simp)
      replace hs0 := Nat.le_trans hs0 hq.size
      replace hB := hB.trans (hq.mono hB.size)
      clear hq
      go_wp2_with fail
      obtain ⟨u1, hname⟩ := nm hB
      rw [hname] at hs0 hB FA EA ER ⊢
      have zh1 := hB.size
      have zs1 := hs0
      clear hname hs0
      have hk := pcheck_any true FA (by omega) (by omega)
      rw [HA.out] at hk
      refine (hk).mono ?_
      rintro e w2 ⟨rfl, hb⟩
      replace FA := FA.below hb
      replace EA := EA.below hb
      replace ER := ER.below hb
      replace hB := hB.trans (hb.mono hB.size)
      have zz2 := hb.size
      have zh2 := hB.size
      clear hb
      clear hk
      obtain ⟨k0, k1, k2, f0, f1, f2⟩ := EA.three
      obtain ⟨k3, k4, k5, f3, f4, f5⟩ := ER.three
      go_wp2_with fail
      clear k0 k1 k2 f0 f1 f2 k3 k4 k5 f3 f4 f5
      refine (hz _).mono ?_
      rintro e w3 ⟨rfl, hb⟩
      replace FA := FA.below hb
      replace EA := EA.below hb
      replace ER := ER.below hb
      replace hB := hB.trans (hb.mono hB.size)
      have zz3 := hb.size
      have zh3 := hB.size
      clear hb
      obtain ⟨k0, k1, k2, f0, f1, f2⟩ := EA.three
      obtain ⟨k3, k4, k5, f3, f4, f5⟩ := ER.three
      go_wp2_with fail
      clear k0 k1 k2 f0 f1 f2 k3 k4 k5 f3 f4 f5
      refine (turned_any true a xs ca c ds cc _).mono ?_
      rintro e w4 ⟨rfl, hb⟩
      replace FA := FA.below hb
      replace EA := EA.below hb
      replace ER := ER.below hb
      replace hB := hB.trans (hb.mono hB.size)
      have zz4 := hb.size
      have zh4 := hB.size
      clear hb
      obtain ⟨k0, k1, k2, f0, f1, f2⟩ := EA.three
      obtain ⟨k3, k4, k5, f3, f4, f5⟩ := ER.three
      have qEA := EA.lt
      have qER := ER.lt
      have hs0 := Nat.le_refl w4.heap.size
      have hT := turns3 (w.heap.size) w4 (.bool true) (.slice c ds.length cc) (.slice a xs.length ca)
      replace FA := FA.beside EA (noWord3 (fun _ e => by cases e) (fun _ e => by cases e) (fun _ e => by cases e)) hT
      replace ER := ER.turns hT (by omega)
      replace EA := Box.set3 (.bool true) (.slice c ds.length cc) (.slice a xs.length ca) EA
      replace hB := hB.trans (hT.below.mono (by omega))
      replace hs0 := Nat.le_trans hs0 hT.below.size
      clear hT
      go_wp2_with fail
      clear k0 k1 k2 f0 f1 f2 k3 k4 k5 f3 f4 f5
      obtain ⟨u5, hname⟩ := nm hB
      rw [hname] at hs0 hB FA EA ER ⊢
      have zh5 := hB.size
      have zs5 := hs0
      clear hname hs0
      refine (raise_any FA.down k hk12 (by omega)).mono ?_
      rintro e w6 ⟨a1, c1, z1, rfl, S1, N1, v1, l1, hb⟩
      have V1 : Hid (val z1 = val ds ^ k) := v1
      have b1 : z1.length ≤ n * k + 1 := by omega
      clear v1 l1
      replace FA := FA.below hb
      replace EA := EA.below hb
      replace ER := ER.below hb
      replace hB := hB.trans (hb.mono hB.size)
      have zz6 := hb.size
      have zh6 := hB.size
      clear hb
      have SU := S1
      obtain ⟨k0, k1, k2, f0, f1, f2⟩ := EA.three
      obtain ⟨k3, k4, k5, f3, f4, f5⟩ := ER.three
      have qEA := EA.lt
      have qER := ER.lt
      have hs0 := Nat.le_refl w6.heap.size
      have hq := below_new w6 (.cells #[.bool true, .slice a1 z1.length c1] 25)
      replace FA := FA.below hq
      replace EA := EA.below hq
      replace ER := ER.below hq
      replace S1 := S1.below hq
      have EU := Box.put (w := w6) (k := (w6.heap.size)) (.cells #[.bool true, .slice a1 z1.length c1] 25) rfl
      replace hs0 := Nat.le_trans hs0 hq.size
      replace hB := hB.trans (hq.mono hB.size)
      clear hq
      go_wp2_with fail
      clear k0 k1 k2 f0 f1 f2 k3 k4 k5 f3 f4 f5
      obtain ⟨u7, hname⟩ := nm hB
      rw [hname] at hs0 hB FA EA ER S1 EU ⊢
      have zh7 := hB.size
      have zs7 := hs0
      clear hname hs0
      replace FA := FA.drew
      have qEA := EA.lt
      replace EA := EA.drew
      have qER := ER.lt
      replace ER := ER.drew
      replace S1 := S1.drew
      have qEU := EU.lt
      replace EU := EU.drew
      refine wp_yields 6 [.is (.agg #[.bool true, .slice a1 z1.length c1]), .is (.pointer (some ⟨w.heap.size, 2, none⟩)), .is (.slice a xs.length ca), .is (.int .i64 k), (Yield.nat u7.heap.size (val xs ^ k) (n * k + 1)), (Yield.natIn (fun s => .agg #[.bool true, .slice a1 z1.length c1, s]) u7.heap.size (val xs ^ k) (n * k + 1))] (by kernel_rfl) (by kernel_rfl) (lt_cons ?_ (lt_cons ?_ (lt_cons ?_ (lt_cons ?_ (lt_cons ?_ (lt_cons ?_ lt_nil)))))) ?_
      case refine_1 =>
        refine OpDoes.mk rfl ?_
        intro vs V hV hd K hK
        have d0 : vs 0 = .agg #[.bool true, .slice a1 z1.length c1] := hd 0 (by decide) (by kernel_rfl)
        have hh := fun (P : Prop) => Yield.nat_elim P (show ((Yield.nat u7.heap.size (val xs ^ k) (n * k + 1)) : Yield).At (vs 4) V from hd 4 (by decide) (by kernel_rfl))
        refine hh _ ?_
        intro a2 c2 z2 d4 S2 N2 V2 b2
        clear hh
        simp only [laidIn, lz1, lz2, lz3, lz4, lz5, lz6, if_true, Act.put, lz7, lz8, lz9] at hK ⊢
        simp only [d0, d4] at hK ⊢
        go_simp
        exact hK.out _ _ (Below.refl _ _) ⟨_, _, _, rfl, S2, N2, V2, b2⟩ (not_fresh rfl)
      case refine_2 =>
        refine OpDoes.mk rfl ?_
        intro vs V hV hd K hK
        have d2 : vs 2 = .slice a xs.length ca := hd 2 (by decide) (by kernel_rfl)
        have d3 : vs 3 = .int .i64 k := hd 3 (by decide) (by kernel_rfl)
        simp only [laidIn, lz1, lz2, lz3, lz4, lz5, lz6, if_true, Act.put, lz7, lz8, lz9] at hK ⊢
        simp only [d2, d3] at hK ⊢
        go_simp
        go_at_call 41
        refine (raise_any (FA.up.below hV) k hk12 (by omega)).mono ?_
        rintro e V' ⟨a2, c2, z2, rfl, S2, N2, v2, l2, hb⟩
        have V2 : Hid (val z2 = val xs ^ k) := v2
        have b2 : z2.length ≤ n * k + 1 := by omega
        clear v2 l2
        exact hK.out _ _ hb ⟨_, _, _, rfl, S2.mono hV.size, N2, V2, b2⟩ (not_fresh rfl)
      case refine_3 =>
        refine OpDoes.mk rfl ?_
        intro vs V hV hd K hK
        simp only [laidIn, lz1, lz2, lz3, lz4, lz5, lz6, if_true, Act.put, lz7, lz8, lz9] at hK ⊢
        go_simp
        exact hK.out _ _ (Below.refl _ _) rfl (not_fresh rfl)
      case refine_4 =>
        refine OpDoes.mk rfl ?_
        intro vs V hV hd K hK
        have d1 : vs 1 = .pointer (some ⟨w.heap.size, 2, none⟩) := hd 1 (by decide) (by kernel_rfl)
        have hcc := (EA.below hV).three
        have k0 := hcc.1
        have k1 := hcc.2.1
        have k2 := hcc.2.2.1
        clear hcc
        simp only [laidIn, lz1, lz2, lz3, lz4, lz5, lz6, if_true, Act.put, lz7, lz8, lz9] at hK ⊢
        simp only [d1] at hK ⊢
        go_simp
        exact hK.out _ _ (Below.refl _ _) rfl (not_fresh rfl)
      case refine_5 =>
        refine OpDoes.mk rfl ?_
        intro vs V hV hd K hK
        simp only [laidIn, lz1, lz2, lz3, lz4, lz5, lz6, if_true, Act.put, lz7, lz8, lz9] at hK ⊢
        go_simp
        exact hK.out _ _ (Below.refl _ _) rfl (not_fresh rfl)
      case refine_6 =>
        refine OpDoes.mk rfl ?_
        intro vs V hV hd K hK
        have hcc := (EU.below hV).two
        have k0 := hcc.1
        have k1 := hcc.2.1
        clear hcc
        simp only [laidIn, lz1, lz2, lz4, lz5, lz6, if_true, Act.put, lz7, lz8, lz9] at hK ⊢
        go_simp
        exact hK.out _ _ (Below.refl _ _) rfl (not_fresh rfl)
      case refine_7 =>
        intro vs Y1 hV hR hne fuel
        have d0 : vs 0 = .agg #[.bool true, .slice a1 z1.length c1] := hR 0 (by decide)
        have d1 : vs 1 = .pointer (some ⟨w.heap.size, 2, none⟩) := hR 1 (by decide)
        have d2 : vs 2 = .slice a xs.length ca := hR 2 (by decide)
        have d3 : vs 3 = .int .i64 k := hR 3 (by decide)
        have hh := fun (P : Prop) => Yield.nat_elim P (show ((Yield.nat u7.heap.size (val xs ^ k) (n * k + 1)) : Yield).At (vs 4) Y1 from hR 4 (by decide))
        refine hh _ ?_
        intro a2 c2 z2 d4 S2 N2 V2 b2
        clear hh
        have hh := fun (P : Prop) => Yield.natIn_elim P (show ((Yield.natIn (fun s => .agg #[.bool true, .slice a1 z1.length c1, s]) u7.heap.size (val xs ^ k) (n * k + 1)) : Yield).At (vs 5) Y1 from hR 5 (by decide))
        refine hh _ ?_
        intro a3 c3 z3 d5 S3 N3 V3 b3
        clear hh
        replace FA := FA.below hV
        replace EA := EA.below hV
        replace ER := ER.below hV
        replace S1 := S1.below hV
        replace EU := EU.below hV
        have hr := hV
        simp only [laidIn, lz4, lz5, lz6, if_true, Act.put, lz7, lz8, lz9]
        simp only [d0, d1, d2, d3, d4, d5]
        clear hR hne hV d0 d1 d2 d3 d4 d5
        clear vs
        show wpAny _ _ _ _ (fuel + 2) _ _ _
        refine wpAny_all (rs := [6]) (by kernel_rfl) (by simp) (fun i hi => ?_)
        obtain rfl : i = 6 := by simpa using hi
        clear hi
        have hcc := ER.three
        have k0 := hcc.1
        have k1 := hcc.2.1
        have k2 := hcc.2.2.1
        have f0 := hcc.2.2.2.1
        have f1 := hcc.2.2.2.2.1
        have f2 := hcc.2.2.2.2.2
        clear hcc
        refine wpOp_step rfl (fun K hK => ?_)
        simp only [lz1, lz2, lz3]
        rw [if_pos (by rfl)]
        go_simp
        refine hK _ _ ?_
        clear hK k0 f0 k1 f1 k2 f2
        have hT := turns3 (w.heap.size + 1) Y1 (.bool true) (.slice a1 z1.length c1) (.slice a3 z3.length c3)
        replace FA := FA.beside ER (noWord3 (fun _ e => by cases e) (fun _ e => by cases e) (fun _ e => by cases e)) hT
        replace EA := EA.turns hT (by omega)
        replace S1 := S1.beside ER (noWord3 (fun _ e => by cases e) (fun _ e => by cases e) (fun _ e => by cases e)) hT
        replace EU := EU.turns hT (by omega)
        replace S2 := S2.beside ER (noWord3 (fun _ e => by cases e) (fun _ e => by cases e) (fun _ e => by cases e)) hT
        replace S3 := S3.beside ER (noWord3 (fun _ e => by cases e) (fun _ e => by cases e) (fun _ e => by cases e)) hT
        replace ER := Box.set3 (.bool true) (.slice a1 z1.length c1) (.slice a3 z3.length c3) ER
        have hr6 := hT.below
        obtain ⟨X1, hX⟩ := nm hT.below
        rw [hX] at FA EA ER S1 EU S2 S3 hr6 ⊢
        clear hX hT
        refine wpAny_all (rs := [7]) (by kernel_rfl) (by simp) (fun i hi => ?_)
        obtain rfl : i = 7 := by simpa using hi
        clear hi
        refine wpOp_step rfl (fun K hK => ?_)
        simp only [lz1, lz2, lz3]
        rw [if_pos (by rfl)]
        go_simp
        refine hK _ _ ?_
        clear hK
        refine wpAny_done (by kernel_rfl) ?_ _
        replace hB := hB.trans ((Below.trans (Below.drew (Below.refl u7.heap.size u7)) hr).mono hB.size)
        replace hB := hB.trans (hr6.mono (by omega))
        have zz7_1 := hr.size
        have zi1 := hB.size
        have zy1_6 := hr6.size
        clear hr hr6
        have HI := pow_is (N := n * k + 1) (k := k) (sg := true) (b := true) (IA.inv FA.up.words HX.out) FA.down.words FA.up.words (by simp [hpar]) V1 N1 V3 N3 (by omega) (by omega)
        have HAP := hide (apart_of (fun h b o e => SU.block h b o e) S3 (by omega) : Apart a1 a3 z1 z3)
        obtain ⟨k0, k1, k2, f0, f1, f2⟩ := EA.three
        obtain ⟨k3, k4, k5, f3, f4, f5⟩ := ER.three
        obtain ⟨k6, k7, f6, f7⟩ := EU.two
        have hcc := ER.three
        have r0 := hcc.1
        have r1 := hcc.2.1
        have r2 := hcc.2.2.1
        clear hcc
        go_wp2
        refine bodyPost_ret (v := .tuple #[.agg #[.bool true, .slice a1 z1.length c1, .slice a3 z3.length c3], .int .i64 0]) (by simp [results, Tryz.f12, go_sem, r0, r1, r2]) rfl ?_
        exact ⟨_, _, _, _, _, _, _, rfl, ⟨S1.mono (by omega), S3.mono (by omega)⟩, HAP.out, HI, hB⟩
    · have hp2 : ((k : Int) % 2 == 1) = false := beq_eq_false_iff_ne.2 (by omega)
      go_enter Tryz.func12, Tryz.ntmps12
      have hs0 := Nat.le_refl w.heap.size
      have hq := below_new w (.cells #[.bool true, .slice a xs.length ca, .slice c ds.length cc] 27)
      replace FA := FA.below hq
      have EA := Box.put (w := w) (k := (w.heap.size)) (.cells #[.bool true, .slice a xs.length ca, .slice c ds.length cc] 27) rfl
      replace hs0 := Nat.le_trans hs0 hq.size
      replace hB := hB.trans (hq.mono hB.size)
      clear hq
      have hq := below_new (w.alloc (.cells #[.bool true, .slice a xs.length ca, .slice c ds.length cc] 27)) (.cells #[.bool false, .slice none 0 0, .slice none 0 0] 27)
      replace FA := FA.below hq
      replace EA := EA.below hq
      have ER := Box.put (w := (w.alloc (.cells #[.bool true, .slice a xs.length ca, .slice c ds.length cc] 27))) (k := (w.heap.size + 1)) (.cells #[.bool false, .slice none 0 0, .slice none 0 0] 27) (by simp)
      replace hs0 := Nat.le_trans hs0 hq.size
      replace hB := hB.trans (hq.mono hB.size)
      clear hq
      go_wp2_with fail
      obtain ⟨u1, hname⟩ := nm hB
      rw [hname] at hs0 hB FA EA ER ⊢
      have zh1 := hB.size
      have zs1 := hs0
      clear hname hs0
      have hk := pcheck_any true FA (by omega) (by omega)
      rw [HA.out] at hk
      refine (hk).mono ?_
      rintro e w2 ⟨rfl, hb⟩
      replace FA := FA.below hb
      replace EA := EA.below hb
      replace ER := ER.below hb
      replace hB := hB.trans (hb.mono hB.size)
      have zz2 := hb.size
      have zh2 := hB.size
      clear hb
      clear hk
      obtain ⟨k0, k1, k2, f0, f1, f2⟩ := EA.three
      obtain ⟨k3, k4, k5, f3, f4, f5⟩ := ER.three
      go_wp2_with fail
      clear k0 k1 k2 f0 f1 f2 k3 k4 k5 f3 f4 f5
      refine (hz _).mono ?_
      rintro e w3 ⟨rfl, hb⟩
      replace FA := FA.below hb
      replace EA := EA.below hb
      replace ER := ER.below hb
      replace hB := hB.trans (hb.mono hB.size)
      have zz3 := hb.size
      have zh3 := hB.size
      clear hb
      obtain ⟨k0, k1, k2, f0, f1, f2⟩ := EA.three
      obtain ⟨k3, k4, k5, f3, f4, f5⟩ := ER.three
      go_wp2_with fail
      clear k0 k1 k2 f0 f1 f2 k3 k4 k5 f3 f4 f5
      refine (turned_any true a xs ca c ds cc _).mono ?_
      rintro e w4 ⟨rfl, hb⟩
      replace FA := FA.below hb
      replace EA := EA.below hb
      replace ER := ER.below hb
      replace hB := hB.trans (hb.mono hB.size)
      have zz4 := hb.size
      have zh4 := hB.size
      clear hb
      obtain ⟨k0, k1, k2, f0, f1, f2⟩ := EA.three
      obtain ⟨k3, k4, k5, f3, f4, f5⟩ := ER.three
      have qEA := EA.lt
      have qER := ER.lt
      have hs0 := Nat.le_refl w4.heap.size
      have hT := turns3 (w.heap.size) w4 (.bool true) (.slice c ds.length cc) (.slice a xs.length ca)
      replace FA := FA.beside EA (noWord3 (fun _ e => by cases e) (fun _ e => by cases e) (fun _ e => by cases e)) hT
      replace ER := ER.turns hT (by omega)
      replace EA := Box.set3 (.bool true) (.slice c ds.length cc) (.slice a xs.length ca) EA
      replace hB := hB.trans (hT.below.mono (by omega))
      replace hs0 := Nat.le_trans hs0 hT.below.size
      clear hT
      go_wp2_with fail
      clear k0 k1 k2 f0 f1 f2 k3 k4 k5 f3 f4 f5
      obtain ⟨u5, hname⟩ := nm hB
      rw [hname] at hs0 hB FA EA ER ⊢
      have zh5 := hB.size
      have zs5 := hs0
      clear hname hs0
      refine (raise_any FA.down k hk12 (by omega)).mono ?_
      rintro e w6 ⟨a1, c1, z1, rfl, S1, N1, v1, l1, hb⟩
      have V1 : Hid (val z1 = val ds ^ k) := v1
      have b1 : z1.length ≤ n * k + 1 := by omega
      clear v1 l1
      replace FA := FA.below hb
      replace EA := EA.below hb
      replace ER := ER.below hb
      replace hB := hB.trans (hb.mono hB.size)
      have zz6 := hb.size
      have zh6 := hB.size
      clear hb
      have SU := S1
      obtain ⟨k0, k1, k2, f0, f1, f2⟩ := EA.three
      obtain ⟨k3, k4, k5, f3, f4, f5⟩ := ER.three
      have qEA := EA.lt
      have qER := ER.lt
      have hs0 := Nat.le_refl w6.heap.size
      have hq := below_new w6 (.cells #[.bool false, .slice a1 z1.length c1] 25)
      replace FA := FA.below hq
      replace EA := EA.below hq
      replace ER := ER.below hq
      replace S1 := S1.below hq
      have EU := Box.put (w := w6) (k := (w6.heap.size)) (.cells #[.bool false, .slice a1 z1.length c1] 25) rfl
      replace hs0 := Nat.le_trans hs0 hq.size
      replace hB := hB.trans (hq.mono hB.size)
      clear hq
      go_wp2_with fail
      clear k0 k1 k2 f0 f1 f2 k3 k4 k5 f3 f4 f5
      obtain ⟨u7, hname⟩ := nm hB
      rw [hname] at hs0 hB FA EA ER S1 EU ⊢
      have zh7 := hB.size
      have zs7 := hs0
      clear hname hs0
      replace FA := FA.drew
      have qEA := EA.lt
      replace EA := EA.drew
      have qER := ER.lt
      replace ER := ER.drew
      replace S1 := S1.drew
      have qEU := EU.lt
      replace EU := EU.drew
      refine wp_yields 6 [.is (.agg #[.bool false, .slice a1 z1.length c1]), .is (.pointer (some ⟨w.heap.size, 2, none⟩)), .is (.slice a xs.length ca), .is (.int .i64 k), (Yield.nat u7.heap.size (val xs ^ k) (n * k + 1)), (Yield.natIn (fun s => .agg #[.bool false, .slice a1 z1.length c1, s]) u7.heap.size (val xs ^ k) (n * k + 1))] (by kernel_rfl) (by kernel_rfl) (lt_cons ?_ (lt_cons ?_ (lt_cons ?_ (lt_cons ?_ (lt_cons ?_ (lt_cons ?_ lt_nil)))))) ?_
      case refine_1 =>
        refine OpDoes.mk rfl ?_
        intro vs V hV hd K hK
        have d0 : vs 0 = .agg #[.bool false, .slice a1 z1.length c1] := hd 0 (by decide) (by kernel_rfl)
        have hh := fun (P : Prop) => Yield.nat_elim P (show ((Yield.nat u7.heap.size (val xs ^ k) (n * k + 1)) : Yield).At (vs 4) V from hd 4 (by decide) (by kernel_rfl))
        refine hh _ ?_
        intro a2 c2 z2 d4 S2 N2 V2 b2
        clear hh
        simp only [laidIn, lz1, lz2, lz3, lz4, lz5, lz6, if_true, Act.put, lz7, lz8, lz9] at hK ⊢
        simp only [d0, d4] at hK ⊢
        go_simp
        exact hK.out _ _ (Below.refl _ _) ⟨_, _, _, rfl, S2, N2, V2, b2⟩ (not_fresh rfl)
      case refine_2 =>
        refine OpDoes.mk rfl ?_
        intro vs V hV hd K hK
        have d2 : vs 2 = .slice a xs.length ca := hd 2 (by decide) (by kernel_rfl)
        have d3 : vs 3 = .int .i64 k := hd 3 (by decide) (by kernel_rfl)
        simp only [laidIn, lz1, lz2, lz3, lz4, lz5, lz6, if_true, Act.put, lz7, lz8, lz9] at hK ⊢
        simp only [d2, d3] at hK ⊢
        go_simp
        go_at_call 41
        refine (raise_any (FA.up.below hV) k hk12 (by omega)).mono ?_
        rintro e V' ⟨a2, c2, z2, rfl, S2, N2, v2, l2, hb⟩
        have V2 : Hid (val z2 = val xs ^ k) := v2
        have b2 : z2.length ≤ n * k + 1 := by omega
        clear v2 l2
        exact hK.out _ _ hb ⟨_, _, _, rfl, S2.mono hV.size, N2, V2, b2⟩ (not_fresh rfl)
      case refine_3 =>
        refine OpDoes.mk rfl ?_
        intro vs V hV hd K hK
        simp only [laidIn, lz1, lz2, lz3, lz4, lz5, lz6, if_true, Act.put, lz7, lz8, lz9] at hK ⊢
        go_simp
        exact hK.out _ _ (Below.refl _ _) rfl (not_fresh rfl)
      case refine_4 =>
        refine OpDoes.mk rfl ?_
        intro vs V hV hd K hK
        have d1 : vs 1 = .pointer (some ⟨w.heap.size, 2, none⟩) := hd 1 (by decide) (by kernel_rfl)
        have hcc := (EA.below hV).three
        have k0 := hcc.1
        have k1 := hcc.2.1
        have k2 := hcc.2.2.1
        clear hcc
        simp only [laidIn, lz1, lz2, lz3, lz4, lz5, lz6, if_true, Act.put, lz7, lz8, lz9] at hK ⊢
        simp only [d1] at hK ⊢
        go_simp
        exact hK.out _ _ (Below.refl _ _) rfl (not_fresh rfl)
      case refine_5 =>
        refine OpDoes.mk rfl ?_
        intro vs V hV hd K hK
        simp only [laidIn, lz1, lz2, lz3, lz4, lz5, lz6, if_true, Act.put, lz7, lz8, lz9] at hK ⊢
        go_simp
        exact hK.out _ _ (Below.refl _ _) rfl (not_fresh rfl)
      case refine_6 =>
        refine OpDoes.mk rfl ?_
        intro vs V hV hd K hK
        have hcc := (EU.below hV).two
        have k0 := hcc.1
        have k1 := hcc.2.1
        clear hcc
        simp only [laidIn, lz1, lz2, lz4, lz5, lz6, if_true, Act.put, lz7, lz8, lz9] at hK ⊢
        go_simp
        exact hK.out _ _ (Below.refl _ _) rfl (not_fresh rfl)
      case refine_7 =>
        intro vs Y1 hV hR hne fuel
        have d0 : vs 0 = .agg #[.bool false, .slice a1 z1.length c1] := hR 0 (by decide)
        have d1 : vs 1 = .pointer (some ⟨w.heap.size, 2, none⟩) := hR 1 (by decide)
        have d2 : vs 2 = .slice a xs.length ca := hR 2 (by decide)
        have d3 : vs 3 = .int .i64 k := hR 3 (by decide)
        have hh := fun (P : Prop) => Yield.nat_elim P (show ((Yield.nat u7.heap.size (val xs ^ k) (n * k + 1)) : Yield).At (vs 4) Y1 from hR 4 (by decide))
        refine hh _ ?_
        intro a2 c2 z2 d4 S2 N2 V2 b2
        clear hh
        have hh := fun (P : Prop) => Yield.natIn_elim P (show ((Yield.natIn (fun s => .agg #[.bool false, .slice a1 z1.length c1, s]) u7.heap.size (val xs ^ k) (n * k + 1)) : Yield).At (vs 5) Y1 from hR 5 (by decide))
        refine hh _ ?_
        intro a3 c3 z3 d5 S3 N3 V3 b3
        clear hh
        replace FA := FA.below hV
        replace EA := EA.below hV
        replace ER := ER.below hV
        replace S1 := S1.below hV
        replace EU := EU.below hV
        have hr := hV
        simp only [laidIn, lz4, lz5, lz6, if_true, Act.put, lz7, lz8, lz9]
        simp only [d0, d1, d2, d3, d4, d5]
        clear hR hne hV d0 d1 d2 d3 d4 d5
        clear vs
        show wpAny _ _ _ _ (fuel + 2) _ _ _
        refine wpAny_all (rs := [6]) (by kernel_rfl) (by simp) (fun i hi => ?_)
        obtain rfl : i = 6 := by simpa using hi
        clear hi
        have hcc := ER.three
        have k0 := hcc.1
        have k1 := hcc.2.1
        have k2 := hcc.2.2.1
        have f0 := hcc.2.2.2.1
        have f1 := hcc.2.2.2.2.1
        have f2 := hcc.2.2.2.2.2
        clear hcc
        refine wpOp_step rfl (fun K hK => ?_)
        simp only [lz1, lz2, lz3]
        rw [if_pos (by rfl)]
        go_simp
        refine hK _ _ ?_
        clear hK k0 f0 k1 f1 k2 f2
        have hT := turns3 (w.heap.size + 1) Y1 (.bool false) (.slice a1 z1.length c1) (.slice a3 z3.length c3)
        replace FA := FA.beside ER (noWord3 (fun _ e => by cases e) (fun _ e => by cases e) (fun _ e => by cases e)) hT
        replace EA := EA.turns hT (by omega)
        replace S1 := S1.beside ER (noWord3 (fun _ e => by cases e) (fun _ e => by cases e) (fun _ e => by cases e)) hT
        replace EU := EU.turns hT (by omega)
        replace S2 := S2.beside ER (noWord3 (fun _ e => by cases e) (fun _ e => by cases e) (fun _ e => by cases e)) hT
        replace S3 := S3.beside ER (noWord3 (fun _ e => by cases e) (fun _ e => by cases e) (fun _ e => by cases e)) hT
        replace ER := Box.set3 (.bool false) (.slice a1 z1.length c1) (.slice a3 z3.length c3) ER
        have hr6 := hT.below
        obtain ⟨X1, hX⟩ := nm hT.below
        rw [hX] at FA EA ER S1 EU S2 S3 hr6 ⊢
        clear hX hT
        refine wpAny_all (rs := [7]) (by kernel_rfl) (by simp) (fun i hi => ?_)
        obtain rfl : i = 7 := by simpa using hi
        clear hi
        refine wpOp_step rfl (fun K hK => ?_)
        simp only [lz1, lz2, lz3]
        rw [if_pos (by rfl)]
        go_simp
        refine hK _ _ ?_
        clear hK
        refine wpAny_done (by kernel_rfl) ?_ _
        replace hB := hB.trans ((Below.trans (Below.drew (Below.refl u7.heap.size u7)) hr).mono hB.size)
        replace hB := hB.trans (hr6.mono (by omega))
        have zz7_1 := hr.size
        have zi1 := hB.size
        have zy1_6 := hr6.size
        clear hr hr6
        have HI := pow_is (N := n * k + 1) (k := k) (sg := false) (b := true) (IA.inv FA.up.words HX.out) FA.down.words FA.up.words (by simp [hpar]) V1 N1 V3 N3 (by omega) (by omega)
        have HAP := hide (apart_of (fun h b o e => SU.block h b o e) S3 (by omega) : Apart a1 a3 z1 z3)
        obtain ⟨k0, k1, k2, f0, f1, f2⟩ := EA.three
        obtain ⟨k3, k4, k5, f3, f4, f5⟩ := ER.three
        obtain ⟨k6, k7, f6, f7⟩ := EU.two
        have hcc := ER.three
        have r0 := hcc.1
        have r1 := hcc.2.1
        have r2 := hcc.2.2.1
        clear hcc
        go_wp2
        refine bodyPost_ret (v := .tuple #[.agg #[.bool false, .slice a1 z1.length c1, .slice a3 z3.length c3], .int .i64 0]) (by simp [results, Tryz.f12, go_sem, r0, r1, r2]) rfl ?_
        exact ⟨_, _, _, _, _, _, _, rfl, ⟨S1.mono (by omega), S3.mono (by omega)⟩, HAP.out, HI, hB⟩
end Go.Proofs.YthlbobbmnahoiaaGreat
