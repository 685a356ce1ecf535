/-
  Joined: KPower KRound RatU RatT2 RatZ RRckM RRckL RRcka RReckons.
-/
import Derived.Test.YthlbobbmnahoiaaGreatJSForms
import Derived.Test.YthlbobbmnahoiaaGreatJRatL
namespace Go.Proofs.YthlbobbmnahoiaaGreat
open Go.RowKit
set_option maxRecDepth 100000 in
set_option maxHeartbeats 4000000 in
theorem kpower_form {lo : Nat} {a c : Option Addr} {ca cc : Nat} {xs ds : List Int} {w : World} (b : Bool) (FA : Fr lo w a ca xs c cc ds) (hl : xs.length ≤ 400 ∧ ds.length ≤ 400) (N : Int) (HA : Hid (formR b xs ds = 6)) :
    Calls Tryz.prog 13 #[.agg #[.bool b, .slice a xs.length ca, .slice c ds.length cc], .int .i64 N] w fun e w' => e = .returned (.tuple #[.agg #[.bool false, .slice none 0 0, .slice none 0 0], .int .i64 6]) ∧ Below w.heap.size w w' := by
  have hlen0 : Hid (∀ x ∈ ([⟨b, a, ca, xs, c, cc, ds⟩] : List RV), x.xs.length ≤ 1000 ∧ x.ds.length ≤ 1000) := fun x hx => by
    simp only [List.mem_cons, List.not_mem_nil, or_false] at hx
    subst hx
    constructor <;> simp <;> omega
  have HG := good_no [⟨b, a, ca, xs, c, cc, ds⟩] (fun h => by have := h _ (List.mem_cons_self ..); rw [HA.out] at this; exact absurd this (by decide))
  have hB := Below.refl w.heap.size w
  go_enter Tryz.func13, Tryz.ntmps13
  have hs0 := Nat.le_refl w.heap.size
  have hq := below_new w (.cells #[.bool b, .slice a xs.length ca, .slice c ds.length cc] 27)
  replace FA := FA.below hq
  have EA := Box.put (w := w) (k := (w.heap.size)) (.cells #[.bool b, .slice a xs.length ca, .slice c ds.length cc] 27) rfl
  replace hs0 := Nat.le_trans hs0 hq.size
  replace hB := hB.trans (hq.mono hB.size)
  clear hq
  have hq := below_new (w.alloc (.cells #[.bool b, .slice a xs.length ca, .slice c ds.length cc] 27)) (.cells #[.bool false, .slice none 0 0, .slice none 0 0] 27)
  replace FA := FA.below hq
  replace EA := EA.below hq
  have ER := Box.put (w := (w.alloc (.cells #[.bool b, .slice a xs.length ca, .slice c ds.length cc] 27))) (k := (w.heap.size + 1)) (.cells #[.bool false, .slice none 0 0, .slice none 0 0] 27) (by simp)
  replace hs0 := Nat.le_trans hs0 hq.size
  replace hB := hB.trans (hq.mono hB.size)
  clear hq
  have hq := below_new ((w.alloc (.cells #[.bool b, .slice a xs.length ca, .slice c ds.length cc] 27)).alloc (.cells #[.bool false, .slice none 0 0, .slice none 0 0] 27)) (.cells #[.bool b, .slice a xs.length ca, .slice c ds.length cc] 27)
  replace FA := FA.below hq
  replace EA := EA.below hq
  replace ER := ER.below hq
  have LF := Box.put (w := ((w.alloc (.cells #[.bool b, .slice a xs.length ca, .slice c ds.length cc] 27)).alloc (.cells #[.bool false, .slice none 0 0, .slice none 0 0] 27))) (k := (w.heap.size + 2)) (.cells #[.bool b, .slice a xs.length ca, .slice c ds.length cc] 27) (by simp)
  replace hs0 := Nat.le_trans hs0 hq.size
  replace hB := hB.trans (hq.mono hB.size)
  clear hq
  go_wp2_with fail
  obtain ⟨u1, hname⟩ := nm hB
  rw [hname] at hs0 hB FA EA ER LF ⊢
  have zh1 := hB.size
  have zs1 := hs0
  clear hname hs0
  have R := row_box (rs := [⟨b, a, ca, xs, c, cc, ds⟩]) (k := w.heap.size + 2) LF (fun r hr => by
      simp only [List.mem_cons, List.not_mem_nil, or_false] at hr
      rcases hr with rfl
      · exact FA.mono (Nat.zero_le _))
  refine (kfine_any (cap := 1) R (by simp) hlen0.out false HG).mono ?_
  rintro e w2 ⟨rfl, hb⟩
  replace FA := FA.below hb
  replace EA := EA.below hb
  replace ER := ER.below hb
  replace LF := LF.below hb
  replace hB := hB.trans (hb.mono hB.size)
  have zz2 := hb.size
  have zh2 := hB.size
  clear hb
  clear R
  clear LF
  obtain ⟨k0, k1, k2, f0, f1, f2⟩ := EA.three
  obtain ⟨k3, k4, k5, f3, f4, f5⟩ := ER.three
  have hcc := ER.three
  have r0 := hcc.1
  have r1 := hcc.2.1
  have r2 := hcc.2.2.1
  clear hcc
  have qEA := EA.lt
  have qER := ER.lt
  have hs0 := Nat.le_refl w2.heap.size
  have hT := turns3 (w.heap.size + 1) w2 (.bool false) (.slice none 0 0) (.slice none 0 0)
  replace FA := FA.beside ER (noWord3 (fun _ e => by cases e) (fun _ e => by cases e) (fun _ e => by cases e)) hT
  replace EA := EA.turns hT (by omega)
  replace ER := Box.set3 (.bool false) (.slice none 0 0) (.slice none 0 0) ER
  replace hB := hB.trans (hT.below.mono (by omega))
  replace hs0 := Nat.le_trans hs0 hT.below.size
  clear hT
  go_wp2
  refine bodyPost_ret (v := .tuple #[.agg #[.bool false, .slice none 0 0, .slice none 0 0], .int .i64 6]) (by simp [results, Tryz.f13, go_sem, r0, r1, r2]) rfl ?_
  exact ⟨rfl, hB⟩
set_option maxRecDepth 100000 in
set_option maxHeartbeats 4000000 in
theorem kpower_range {lo : Nat} {a c : Option Addr} {ca cc : Nat} {xs ds : List Int} {w : World} (b : Bool) (FA : Fr lo w a ca xs c cc ds) (hl : xs.length ≤ 400 ∧ ds.length ≤ 400) (N : Int) (HA : Hid (formR b xs ds = 0)) (hN : N < -10000 ∨ 10000 < N) :
    Calls Tryz.prog 13 #[.agg #[.bool b, .slice a xs.length ca, .slice c ds.length cc], .int .i64 N] w fun e w' => e = .returned (.tuple #[.agg #[.bool false, .slice none 0 0, .slice none 0 0], .int .i64 3]) ∧ Below w.heap.size w w' := by
  have hlen0 : Hid (∀ x ∈ ([⟨b, a, ca, xs, c, cc, ds⟩] : List RV), x.xs.length ≤ 1000 ∧ x.ds.length ≤ 1000) := fun x hx => by
    simp only [List.mem_cons, List.not_mem_nil, or_false] at hx
    subst hx
    constructor <;> simp <;> omega
  have HG := good_yes [⟨b, a, ca, xs, c, cc, ds⟩] (fun x hx => by
    simp only [List.mem_cons, List.not_mem_nil, or_false] at hx
    subst hx
    exact HA.out)
  have hB := Below.refl w.heap.size w
  by_cases h1 : N < -10000
  · clear hN
    go_enter Tryz.func13, Tryz.ntmps13
    have hs0 := Nat.le_refl w.heap.size
    have hq := below_new w (.cells #[.bool b, .slice a xs.length ca, .slice c ds.length cc] 27)
    replace FA := FA.below hq
    have EA := Box.put (w := w) (k := (w.heap.size)) (.cells #[.bool b, .slice a xs.length ca, .slice c ds.length cc] 27) rfl
    replace hs0 := Nat.le_trans hs0 hq.size
    replace hB := hB.trans (hq.mono hB.size)
    clear hq
    have hq := below_new (w.alloc (.cells #[.bool b, .slice a xs.length ca, .slice c ds.length cc] 27)) (.cells #[.bool false, .slice none 0 0, .slice none 0 0] 27)
    replace FA := FA.below hq
    replace EA := EA.below hq
    have ER := Box.put (w := (w.alloc (.cells #[.bool b, .slice a xs.length ca, .slice c ds.length cc] 27))) (k := (w.heap.size + 1)) (.cells #[.bool false, .slice none 0 0, .slice none 0 0] 27) (by simp)
    replace hs0 := Nat.le_trans hs0 hq.size
    replace hB := hB.trans (hq.mono hB.size)
    clear hq
    have hq := below_new ((w.alloc (.cells #[.bool b, .slice a xs.length ca, .slice c ds.length cc] 27)).alloc (.cells #[.bool false, .slice none 0 0, .slice none 0 0] 27)) (.cells #[.bool b, .slice a xs.length ca, .slice c ds.length cc] 27)
    replace FA := FA.below hq
    replace EA := EA.below hq
    replace ER := ER.below hq
    have LF := Box.put (w := ((w.alloc (.cells #[.bool b, .slice a xs.length ca, .slice c ds.length cc] 27)).alloc (.cells #[.bool false, .slice none 0 0, .slice none 0 0] 27))) (k := (w.heap.size + 2)) (.cells #[.bool b, .slice a xs.length ca, .slice c ds.length cc] 27) (by simp)
    replace hs0 := Nat.le_trans hs0 hq.size
    replace hB := hB.trans (hq.mono hB.size)
    clear hq
    go_wp2_with fail
    obtain ⟨u1, hname⟩ := nm hB
    rw [hname] at hs0 hB FA EA ER LF ⊢
    have zh1 := hB.size
    have zs1 := hs0
    clear hname hs0
    have R := row_box (rs := [⟨b, a, ca, xs, c, cc, ds⟩]) (k := w.heap.size + 2) LF (fun r hr => by
        simp only [List.mem_cons, List.not_mem_nil, or_false] at hr
        rcases hr with rfl
        · exact FA.mono (Nat.zero_le _))
    refine (kfine_any (cap := 1) R (by simp) hlen0.out true HG).mono ?_
    rintro e w2 ⟨rfl, hb⟩
    replace FA := FA.below hb
    replace EA := EA.below hb
    replace ER := ER.below hb
    replace LF := LF.below hb
    replace hB := hB.trans (hb.mono hB.size)
    have zz2 := hb.size
    have zh2 := hB.size
    clear hb
    clear R
    clear LF
    obtain ⟨k0, k1, k2, f0, f1, f2⟩ := EA.three
    obtain ⟨k3, k4, k5, f3, f4, f5⟩ := ER.three
    have hcc := ER.three
    have r0 := hcc.1
    have r1 := hcc.2.1
    have r2 := hcc.2.2.1
    clear hcc
    have qEA := EA.lt
    have qER := ER.lt
    have hs0 := Nat.le_refl w2.heap.size
    have hT := turns3 (w.heap.size + 1) w2 (.bool false) (.slice none 0 0) (.slice none 0 0)
    replace FA := FA.beside ER (noWord3 (fun _ e => by cases e) (fun _ e => by cases e) (fun _ e => by cases e)) hT
    replace EA := EA.turns hT (by omega)
    replace ER := Box.set3 (.bool false) (.slice none 0 0) (.slice none 0 0) ER
    replace hB := hB.trans (hT.below.mono (by omega))
    replace hs0 := Nat.le_trans hs0 hT.below.size
    clear hT
    go_wp2
    refine bodyPost_ret (v := .tuple #[.agg #[.bool false, .slice none 0 0, .slice none 0 0], .int .i64 3]) (by simp [results, Tryz.f13, go_sem, r0, r1, r2]) rfl ?_
    exact ⟨rfl, hB⟩
  · have h2 : 10000 < N := by omega
    clear hN
    go_enter Tryz.func13, Tryz.ntmps13
    have hs0 := Nat.le_refl w.heap.size
    have hq := below_new w (.cells #[.bool b, .slice a xs.length ca, .slice c ds.length cc] 27)
    replace FA := FA.below hq
    have EA := Box.put (w := w) (k := (w.heap.size)) (.cells #[.bool b, .slice a xs.length ca, .slice c ds.length cc] 27) rfl
    replace hs0 := Nat.le_trans hs0 hq.size
    replace hB := hB.trans (hq.mono hB.size)
    clear hq
    have hq := below_new (w.alloc (.cells #[.bool b, .slice a xs.length ca, .slice c ds.length cc] 27)) (.cells #[.bool false, .slice none 0 0, .slice none 0 0] 27)
    replace FA := FA.below hq
    replace EA := EA.below hq
    have ER := Box.put (w := (w.alloc (.cells #[.bool b, .slice a xs.length ca, .slice c ds.length cc] 27))) (k := (w.heap.size + 1)) (.cells #[.bool false, .slice none 0 0, .slice none 0 0] 27) (by simp)
    replace hs0 := Nat.le_trans hs0 hq.size
    replace hB := hB.trans (hq.mono hB.size)
    clear hq
    have hq := below_new ((w.alloc (.cells #[.bool b, .slice a xs.length ca, .slice c ds.length cc] 27)).alloc (.cells #[.bool false, .slice none 0 0, .slice none 0 0] 27)) (.cells #[.bool b, .slice a xs.length ca, .slice c ds.length cc] 27)
    replace FA := FA.below hq
    replace EA := EA.below hq
    replace ER := ER.below hq
    have LF := Box.put (w := ((w.alloc (.cells #[.bool b, .slice a xs.length ca, .slice c ds.length cc] 27)).alloc (.cells #[.bool false, .slice none 0 0, .slice none 0 0] 27))) (k := (w.heap.size + 2)) (.cells #[.bool b, .slice a xs.length ca, .slice c ds.length cc] 27) (by simp)
    replace hs0 := Nat.le_trans hs0 hq.size
    replace hB := hB.trans (hq.mono hB.size)
    clear hq
    go_wp2_with fail
    obtain ⟨u1, hname⟩ := nm hB
    rw [hname] at hs0 hB FA EA ER LF ⊢
    have zh1 := hB.size
    have zs1 := hs0
    clear hname hs0
    have R := row_box (rs := [⟨b, a, ca, xs, c, cc, ds⟩]) (k := w.heap.size + 2) LF (fun r hr => by
        simp only [List.mem_cons, List.not_mem_nil, or_false] at hr
        rcases hr with rfl
        · exact FA.mono (Nat.zero_le _))
    refine (kfine_any (cap := 1) R (by simp) hlen0.out true HG).mono ?_
    rintro e w2 ⟨rfl, hb⟩
    replace FA := FA.below hb
    replace EA := EA.below hb
    replace ER := ER.below hb
    replace LF := LF.below hb
    replace hB := hB.trans (hb.mono hB.size)
    have zz2 := hb.size
    have zh2 := hB.size
    clear hb
    clear R
    clear LF
    obtain ⟨k0, k1, k2, f0, f1, f2⟩ := EA.three
    obtain ⟨k3, k4, k5, f3, f4, f5⟩ := ER.three
    have hcc := ER.three
    have r0 := hcc.1
    have r1 := hcc.2.1
    have r2 := hcc.2.2.1
    clear hcc
    have qEA := EA.lt
    have qER := ER.lt
    have hs0 := Nat.le_refl w2.heap.size
    have hT := turns3 (w.heap.size + 1) w2 (.bool false) (.slice none 0 0) (.slice none 0 0)
    replace FA := FA.beside ER (noWord3 (fun _ e => by cases e) (fun _ e => by cases e) (fun _ e => by cases e)) hT
    replace EA := EA.turns hT (by omega)
    replace ER := Box.set3 (.bool false) (.slice none 0 0) (.slice none 0 0) ER
    replace hB := hB.trans (hT.below.mono (by omega))
    replace hs0 := Nat.le_trans hs0 hT.below.size
    clear hT
    go_wp2
    refine bodyPost_ret (v := .tuple #[.agg #[.bool false, .slice none 0 0, .slice none 0 0], .int .i64 3]) (by simp [results, Tryz.f13, go_sem, r0, r1, r2]) rfl ?_
    exact ⟨rfl, hB⟩
set_option maxRecDepth 100000 in
set_option maxHeartbeats 4000000 in
theorem kpower_zero {lo : Nat} {a c : Option Addr} {ca cc : Nat} {xs ds : List Int} {w : World} (b : Bool) (FA : Fr lo w a ca xs c cc ds) (hl : xs.length ≤ 400 ∧ ds.length ≤ 400) (N : Int) (HA : Hid (formR b xs ds = 0)) (hN : -10000 ≤ N ∧ N < 0) (hx : xs = []) :
    Calls Tryz.prog 13 #[.agg #[.bool b, .slice a xs.length ca, .slice c ds.length cc], .int .i64 N] w fun e w' => e = .returned (.tuple #[.agg #[.bool false, .slice none 0 0, .slice none 0 0], .int .i64 5]) ∧ Below w.heap.size w w' := by
  have hlen0 : Hid (∀ x ∈ ([⟨b, a, ca, xs, c, cc, ds⟩] : List RV), x.xs.length ≤ 1000 ∧ x.ds.length ≤ 1000) := fun x hx => by
    simp only [List.mem_cons, List.not_mem_nil, or_false] at hx
    subst hx
    constructor <;> simp <;> omega
  have HG := good_yes [⟨b, a, ca, xs, c, cc, ds⟩] (fun x hx => by
    simp only [List.mem_cons, List.not_mem_nil, or_false] at hx
    subst hx
    exact HA.out)
  have hB := Below.refl w.heap.size w
  have hz : ((xs.length : Int) == 0) = true := by rw [hx]; rfl
  have h1 : ¬ N < -10000 := by omega
  have h2 : ¬ 10000 < N := by omega
  have h3 : N < 0 := hN.2
  clear hN hx
  go_enter Tryz.func13, Tryz.ntmps13
  have hs0 := Nat.le_refl w.heap.size
  have hq := below_new w (.cells #[.bool b, .slice a xs.length ca, .slice c ds.length cc] 27)
  replace FA := FA.below hq
  have EA := Box.put (w := w) (k := (w.heap.size)) (.cells #[.bool b, .slice a xs.length ca, .slice c ds.length cc] 27) rfl
  replace hs0 := Nat.le_trans hs0 hq.size
  replace hB := hB.trans (hq.mono hB.size)
  clear hq
  have hq := below_new (w.alloc (.cells #[.bool b, .slice a xs.length ca, .slice c ds.length cc] 27)) (.cells #[.bool false, .slice none 0 0, .slice none 0 0] 27)
  replace FA := FA.below hq
  replace EA := EA.below hq
  have ER := Box.put (w := (w.alloc (.cells #[.bool b, .slice a xs.length ca, .slice c ds.length cc] 27))) (k := (w.heap.size + 1)) (.cells #[.bool false, .slice none 0 0, .slice none 0 0] 27) (by simp)
  replace hs0 := Nat.le_trans hs0 hq.size
  replace hB := hB.trans (hq.mono hB.size)
  clear hq
  have hq := below_new ((w.alloc (.cells #[.bool b, .slice a xs.length ca, .slice c ds.length cc] 27)).alloc (.cells #[.bool false, .slice none 0 0, .slice none 0 0] 27)) (.cells #[.bool b, .slice a xs.length ca, .slice c ds.length cc] 27)
  replace FA := FA.below hq
  replace EA := EA.below hq
  replace ER := ER.below hq
  have LF := Box.put (w := ((w.alloc (.cells #[.bool b, .slice a xs.length ca, .slice c ds.length cc] 27)).alloc (.cells #[.bool false, .slice none 0 0, .slice none 0 0] 27))) (k := (w.heap.size + 2)) (.cells #[.bool b, .slice a xs.length ca, .slice c ds.length cc] 27) (by simp)
  replace hs0 := Nat.le_trans hs0 hq.size
  replace hB := hB.trans (hq.mono hB.size)
  clear hq
  go_wp2_with fail
  obtain ⟨u1, hname⟩ := nm hB
  rw [hname] at hs0 hB FA EA ER LF ⊢
  have zh1 := hB.size
  have zs1 := hs0
  clear hname hs0
  have R := row_box (rs := [⟨b, a, ca, xs, c, cc, ds⟩]) (k := w.heap.size + 2) LF (fun r hr => by
      simp only [List.mem_cons, List.not_mem_nil, or_false] at hr
      rcases hr with rfl
      · exact FA.mono (Nat.zero_le _))
  refine (kfine_any (cap := 1) R (by simp) hlen0.out true HG).mono ?_
  rintro e w2 ⟨rfl, hb⟩
  replace FA := FA.below hb
  replace EA := EA.below hb
  replace ER := ER.below hb
  replace LF := LF.below hb
  replace hB := hB.trans (hb.mono hB.size)
  have zz2 := hb.size
  have zh2 := hB.size
  clear hb
  clear R
  clear LF
  obtain ⟨k0, k1, k2, f0, f1, f2⟩ := EA.three
  obtain ⟨k3, k4, k5, f3, f4, f5⟩ := ER.three
  have hcc := ER.three
  have r0 := hcc.1
  have r1 := hcc.2.1
  have r2 := hcc.2.2.1
  clear hcc
  have qEA := EA.lt
  have qER := ER.lt
  have hs0 := Nat.le_refl w2.heap.size
  have hT := turns3 (w.heap.size + 1) w2 (.bool false) (.slice none 0 0) (.slice none 0 0)
  replace FA := FA.beside ER (noWord3 (fun _ e => by cases e) (fun _ e => by cases e) (fun _ e => by cases e)) hT
  replace EA := EA.turns hT (by omega)
  replace ER := Box.set3 (.bool false) (.slice none 0 0) (.slice none 0 0) ER
  replace hB := hB.trans (hT.below.mono (by omega))
  replace hs0 := Nat.le_trans hs0 hT.below.size
  clear hT
  go_wp2
  refine bodyPost_ret (v := .tuple #[.agg #[.bool false, .slice none 0 0, .slice none 0 0], .int .i64 5]) (by simp [results, Tryz.f13, go_sem, r0, r1, r2]) rfl ?_
  exact ⟨rfl, hB⟩
set_option maxRecDepth 100000 in
set_option maxHeartbeats 4000000 in
theorem kpower_pos {lo : Nat} {a c : Option Addr} {ca cc : Nat} {xs ds : List Int} {w : World} (b : Bool) (FA : Fr lo w a ca xs c cc ds) {n : Nat} {q : Rat} (IA : Is b xs ds q n) (hn : n ≤ 30) (k : Nat) (hk12 : k ≤ 12) :
    Calls Tryz.prog 13 #[.agg #[.bool b, .slice a xs.length ca, .slice c ds.length cc], .int .i64 k] w fun e w' => FeSaid (q ^ k) (n * k + 1) w e w' := by
  have lxa := IA.lu
  have lda := IA.ld
  have hlen0 : Hid (∀ x ∈ ([⟨b, a, ca, xs, c, cc, ds⟩] : List RV), x.xs.length ≤ 1000 ∧ x.ds.length ≤ 1000) := fun x hx => by
    simp only [List.mem_cons, List.not_mem_nil, or_false] at hx
    subst hx
    constructor <;> simp <;> omega
  have HG := good_yes [⟨b, a, ca, xs, c, cc, ds⟩] (fun x hx => by
    simp only [List.mem_cons, List.not_mem_nil, or_false] at hx
    subst hx
    exact (formR_low FA.up.words FA.down.words).2 IA.low)
  have h1 : ¬ (k : Int) < -10000 := by omega
  have h2 : ¬ 10000 < (k : Int) := by omega
  have h3 : ¬ (k : Int) < 0 := by omega
  have hB := Below.refl w.heap.size w
  go_enter Tryz.func13, Tryz.ntmps13
  have hs0 := Nat.le_refl w.heap.size
  have hq := below_new w (.cells #[.bool b, .slice a xs.length ca, .slice c ds.length cc] 27)
  replace FA := FA.below hq
  have EA := Box.put (w := w) (k := (w.heap.size)) (.cells #[.bool b, .slice a xs.length ca, .slice c ds.length cc] 27) rfl
  replace hs0 := Nat.le_trans hs0 hq.size
  replace hB := hB.trans (hq.mono hB.size)
  clear hq
  have hq := below_new (w.alloc (.cells #[.bool b, .slice a xs.length ca, .slice c ds.length cc] 27)) (.cells #[.bool false, .slice none 0 0, .slice none 0 0] 27)
  replace FA := FA.below hq
  replace EA := EA.below hq
  have ER := Box.put (w := (w.alloc (.cells #[.bool b, .slice a xs.length ca, .slice c ds.length cc] 27))) (k := (w.heap.size + 1)) (.cells #[.bool false, .slice none 0 0, .slice none 0 0] 27) (by simp)
  replace hs0 := Nat.le_trans hs0 hq.size
  replace hB := hB.trans (hq.mono hB.size)
  clear hq
  have hq := below_new ((w.alloc (.cells #[.bool b, .slice a xs.length ca, .slice c ds.length cc] 27)).alloc (.cells #[.bool false, .slice none 0 0, .slice none 0 0] 27)) (.cells #[.bool b, .slice a xs.length ca, .slice c ds.length cc] 27)
  replace FA := FA.below hq
  replace EA := EA.below hq
  replace ER := ER.below hq
  have LF := Box.put (w := ((w.alloc (.cells #[.bool b, .slice a xs.length ca, .slice c ds.length cc] 27)).alloc (.cells #[.bool false, .slice none 0 0, .slice none 0 0] 27))) (k := (w.heap.size + 2)) (.cells #[.bool b, .slice a xs.length ca, .slice c ds.length cc] 27) (by simp)
  replace hs0 := Nat.le_trans hs0 hq.size
  replace hB := hB.trans (hq.mono hB.size)
  clear hq
  go_wp2_with fail
  obtain ⟨u1, hname⟩ := nm hB
  rw [hname] at hs0 hB FA EA ER LF ⊢
  have zh1 := hB.size
  have zs1 := hs0
  clear hname hs0
  have R := row_box (rs := [⟨b, a, ca, xs, c, cc, ds⟩]) (k := w.heap.size + 2) LF (fun r hr => by
      simp only [List.mem_cons, List.not_mem_nil, or_false] at hr
      rcases hr with rfl
      · exact FA.mono (Nat.zero_le _))
  refine (kfine_any (cap := 1) R (by simp) hlen0.out true HG).mono ?_
  rintro e w2 ⟨rfl, hb⟩
  replace FA := FA.below hb
  replace EA := EA.below hb
  replace ER := ER.below hb
  replace LF := LF.below hb
  replace hB := hB.trans (hb.mono hB.size)
  have zz2 := hb.size
  have zh2 := hB.size
  clear hb
  clear R
  clear LF
  obtain ⟨k0, k1, k2, f0, f1, f2⟩ := EA.three
  obtain ⟨k3, k4, k5, f3, f4, f5⟩ := ER.three
  go_wp2_with fail
  clear k0 k1 k2 f0 f1 f2 k3 k4 k5 f3 f4 f5
  refine (kone_any _).mono ?_
  rintro e w3 ⟨a1, c1, z1, rfl, S1, N1, v1, l1, hb⟩
  have V1 : Hid (val z1 = (1 : Int)) := v1
  have b1 : z1.length ≤ 1 := by omega
  clear v1 l1
  replace FA := FA.below hb
  replace EA := EA.below hb
  replace ER := ER.below hb
  replace hB := hB.trans (hb.mono hB.size)
  have zz3 := hb.size
  have zh3 := hB.size
  clear hb
  obtain ⟨k0, k1, k2, f0, f1, f2⟩ := EA.three
  obtain ⟨k3, k4, k5, f3, f4, f5⟩ := ER.three
  go_wp2_with fail
  clear k0 k1 k2 f0 f1 f2 k3 k4 k5 f3 f4 f5
  refine (kwhole_any S1 (by omega)).mono ?_
  rintro e w4 ⟨g2, a2, c2, z2, rfl, S2, N2, v2, l2, hb⟩
  have V2 : Hid (sgn g2 (val z2) = (1 : Int)) := by rw [Hid, v2.out, V1.out]
  have b2 : z2.length ≤ 1 := by omega
  clear v2 l2
  replace FA := FA.below hb
  replace EA := EA.below hb
  replace ER := ER.below hb
  replace S1 := S1.below hb
  replace hB := hB.trans (hb.mono hB.size)
  have zz4 := hb.size
  have zh4 := hB.size
  clear hb
  have S2_0 := S2
  obtain ⟨k0, k1, k2, f0, f1, f2⟩ := EA.three
  obtain ⟨k3, k4, k5, f3, f4, f5⟩ := ER.three
  go_wp2_with fail
  clear k0 k1 k2 f0 f1 f2 k3 k4 k5 f3 f4 f5
  refine (kone_any _).mono ?_
  rintro e w5 ⟨a3, c3, z3, rfl, S3, N3, v3, l3, hb⟩
  have V3 : Hid (val z3 = (1 : Int)) := v3
  have b3 : z3.length ≤ 1 := by omega
  clear v3 l3
  replace FA := FA.below hb
  replace EA := EA.below hb
  replace ER := ER.below hb
  replace S1 := S1.below hb
  replace S2 := S2.below hb
  replace hB := hB.trans (hb.mono hB.size)
  have zz5 := hb.size
  have zh5 := hB.size
  clear hb
  have I0 : Is g2 z2 z3 1 1 := one_is N2 V2 N3 V3 b2 b3
  have P0 := hide (apart_of (fun h b o e => S2_0.block h b o e) S3 (by omega) : Apart a2 a3 z2 z3)
  have FP : Fr 0 _ _ _ _ _ _ _ := FA.mono (Nat.zero_le _)
  have IP := IA
  clear FA
  have qER := ER.lt
  have qEA := EA.lt
  obtain ⟨kk, hK⟩ : ∃ K, w5.heap.size = K := ⟨_, rfl⟩
  have hKm : w.heap.size + 1 < kk := by omega
  obtain ⟨k0, k1, k2, f0, f1, f2⟩ := EA.three
  obtain ⟨k3, k4, k5, f3, f4, f5⟩ := ER.three
  have hq := below_new w5 (.cells #[.bool g2, .slice a2 z2.length c2, .slice a3 z3.length c3] 27)
  replace EA := EA.below hq
  replace ER := ER.below hq
  replace S1 := S1.below hq
  replace S2 := S2.below hq
  replace S3 := S3.below hq
  replace FP := FP.below hq
  have EO : Box (w5.alloc (.cells #[.bool g2, .slice a2 z2.length c2, .slice a3 z3.length c3] 27)) kk (.cells #[.bool g2, .slice a2 z2.length c2, .slice a3 z3.length c3] 27) := Box.put (.cells #[.bool g2, .slice a2 z2.length c2, .slice a3 z3.length c3] 27) hK
  replace hB := hB.trans (hq.mono hB.size)
  go_wp2
  clear hq k0 k1 k2 f0 f1 f2 k3 k4 k5 f3 f4 f5
  obtain ⟨v1, hname⟩ := nm hB
  rw [hname] at ER EA EO FP hB S1 S2 S3 ⊢
  clear hname hK qER qEA
  go_loopw [7] (fun iv wv => ∃ (i : Nat) (b1 : Bool) (a1 : Option Addr) (n1 : Nat) (x1 : List Int) (e1 : Option Addr) (m1 : Nat) (y1 : List Int) (q1 : Rat), iv = .int .i64 i ∧ i ≤ k ∧ Box wv (w.heap.size + 1) (.cells #[.bool false, .slice none 0 0, .slice none 0 0] 27) ∧ Box wv w.heap.size (.cells #[.bool b, .slice a xs.length ca, .slice c ds.length cc] 27) ∧ Fr 0 wv a ca xs c cc ds ∧ Box wv kk (.cells #[.bool b1, .slice a1 x1.length n1, .slice e1 y1.length m1] 27) ∧ Below w.heap.size w wv ∧ Fr w.heap.size wv a1 n1 x1 e1 m1 y1 ∧ Apart a1 e1 x1 y1 ∧ Is b1 x1 y1 q1 (1 + i * n) ∧ Hid (q1 = q ^ i)) (fun iv _ => k - (intOf iv).toNat)
  case atStart => exact ⟨0, g2, a2, c2, z2, a3, c3, z3, 1, rfl, Nat.zero_le _, ER, EA, FP, EO, hB, ⟨S2.mono (by omega), S3.mono (by omega)⟩, P0.out, I0.mono (by omega), by rw [Hid, Rat.pow_zero]⟩
  case round =>
    clear ER EA EO FP hB I0 P0 S1 S2 S3 S2_0
    obtain ⟨i, b1, a1, n1, x1, e1, m1, y1, q1, rfl, hi, ER, EA, FP, EO, hB, FC, PC, I1, HM⟩ := hrel
    have zB := hB.size
    have qER := ER.lt
    have qEO := EO.lt
    have qEA := EA.lt
    have hw1 : IntKind.i64.wrap ((i : Int) + 1) = (i : Int) + 1 := by rw [IntKind.wrap_i64]; omega
    by_cases hlt : i < k
    · have hlt2 : (i : Int) < (k : Int) := by omega
      have hbd : 1 + i * n + n ≤ 400 := by have : i * n ≤ 12 * n := Nat.mul_le_mul_right _ (by omega); omega
      obtain ⟨t, ht⟩ : ∃ t, q1 * q = t := ⟨_, rfl⟩
      have HT := hide ht
      clear ht
      obtain ⟨k0, k1, k2, f0, f1, f2⟩ := ER.three
      obtain ⟨k3, k4, k5, f3, f4, f5⟩ := EA.three
      obtain ⟨k6, k7, k8, f6, f7, f8⟩ := EO.three
      go_wp2_with fail
      clear k0 k1 k2 f0 f1 f2 k3 k4 k5 f3 f4 f5 k6 k7 k8 f6 f7 f8
      refine (kproduct_any b1 b FC FP I1 IP hbd).mono ?_
      rintro e w6 ⟨g21, a21, c21, x21, e21, t21, y21, rfl, F21, P21, I21, hb⟩
      replace I21 : Is g21 x21 y21 (t) (1 + i * n + n) := I21.to HT.out
      replace FP := FP.below hb
      replace FC := FC.below hb
      replace ER := ER.below hb
      replace EA := EA.below hb
      replace EO := EO.below hb
      replace hB := hB.trans (hb.mono hB.size)
      have zz6 := hb.size
      have zh6 := hB.size
      clear hb
      obtain ⟨k0, k1, k2, f0, f1, f2⟩ := ER.three
      obtain ⟨k3, k4, k5, f3, f4, f5⟩ := EA.three
      obtain ⟨k6, k7, k8, f6, f7, f8⟩ := EO.three
      have qER := ER.lt
      have qEA := EA.lt
      have qEO := EO.lt
      have hs0 := Nat.le_refl w6.heap.size
      have hT := turns3 (kk) w6 (.bool g21) (.slice a21 x21.length c21) (.slice e21 y21.length t21)
      replace FP := FP.beside EO (noWord3 (fun _ e => by cases e) (fun _ e => by cases e) (fun _ e => by cases e)) hT
      replace FC := FC.beside EO (noWord3 (fun _ e => by cases e) (fun _ e => by cases e) (fun _ e => by cases e)) hT
      replace ER := ER.turns hT (by omega)
      replace EA := EA.turns hT (by omega)
      replace F21 := F21.beside EO (noWord3 (fun _ e => by cases e) (fun _ e => by cases e) (fun _ e => by cases e)) hT
      replace EO := Box.set3 (.bool g21) (.slice a21 x21.length c21) (.slice e21 y21.length t21) EO
      replace hB := hB.trans (hT.below.mono (by omega))
      replace hs0 := Nat.le_trans hs0 hT.below.size
      clear hT
      have hms : k - (i + 1) < k - i := by omega
      go_wp2
      refine ⟨⟨i + 1, g21, a21, c21, x21, e21, t21, y21, t, by simp, by omega, ER, EA, FP, EO, hB, F21.mono zB, P21, I21.mono (by rw [Nat.add_mul, Nat.one_mul]; omega), by rw [Hid, ← HT.out, HM.out, Rat.pow_succ]⟩, by simpa [intOf] using hms⟩
    · have hnl : ¬ (i : Int) < (k : Int) := by omega
      obtain rfl : i = k := by omega
      have IZ := (I1.mono (show 1 + i * n ≤ n * i + 1 by rw [Nat.mul_comm]; omega)).to HM.out
      clear HM I1
      obtain ⟨k0, k1, k2, f0, f1, f2⟩ := ER.three
      obtain ⟨k3, k4, k5, f3, f4, f5⟩ := EO.three
      have hcc := ER.three
      have r0 := hcc.1
      have r1 := hcc.2.1
      have r2 := hcc.2.2.1
      clear hcc
      have qER := ER.lt
      have qEO := EO.lt
      have hs0 := Nat.le_refl wr.heap.size
      have hT := turns3 (w.heap.size + 1) wr (.bool b1) (.slice a1 x1.length n1) (.slice e1 y1.length m1)
      replace FC := FC.beside ER (noWord3 (fun _ e => by cases e) (fun _ e => by cases e) (fun _ e => by cases e)) hT
      replace EO := EO.turns hT (by omega)
      replace ER := Box.set3 (.bool b1) (.slice a1 x1.length n1) (.slice e1 y1.length m1) ER
      replace hB := hB.trans (hT.below.mono (by omega))
      replace hs0 := Nat.le_trans hs0 hT.below.size
      clear hT
      go_wp2
      refine bodyPost_ret (v := .tuple #[.agg #[.bool b1, .slice a1 x1.length n1, .slice e1 y1.length m1], .int .i64 0]) (by simp [results, Tryz.f13, go_sem, r0, r1, r2]) rfl ?_
      exact ⟨_, _, _, _, _, _, _, rfl, FC, PC, IZ, hB⟩
set_option maxRecDepth 100000 in
set_option maxHeartbeats 4000000 in
theorem kpower_neg {lo : Nat} {a c : Option Addr} {ca cc : Nat} {xs ds : List Int} {w : World} (b : Bool) (FA : Fr lo w a ca xs c cc ds) {n : Nat} {q : Rat} (IA : Is b xs ds q n) (hn : n ≤ 30) (k : Nat) (hk12 : k ≤ 12) (hk0 : 0 < k) (HX : Hid (xs ≠ [])) :
    Calls Tryz.prog 13 #[.agg #[.bool b, .slice a xs.length ca, .slice c ds.length cc], .int .i64 (-(k : Int))] w fun e w' => FeSaid (q⁻¹ ^ k) (n * k + 1) w e w' := by
  have lxa := IA.lu
  have lda := IA.ld
  have hlen0 : Hid (∀ x ∈ ([⟨b, a, ca, xs, c, cc, ds⟩] : List RV), x.xs.length ≤ 1000 ∧ x.ds.length ≤ 1000) := fun x hx => by
    simp only [List.mem_cons, List.not_mem_nil, or_false] at hx
    subst hx
    constructor <;> simp <;> omega
  have HG := good_yes [⟨b, a, ca, xs, c, cc, ds⟩] (fun x hx => by
    simp only [List.mem_cons, List.not_mem_nil, or_false] at hx
    subst hx
    exact (formR_low FA.up.words FA.down.words).2 IA.low)
  have hz : ((xs.length : Int) == 0) = false := beq_eq_false_iff_ne.2 (by have := List.length_pos_iff.2 HX.out; omega)
  have h1 : ¬ -(k : Int) < -10000 := by omega
  have h2 : ¬ 10000 < -(k : Int) := by omega
  have h3 : -(k : Int) < 0 := by omega
  have h4 : IntKind.i64.wrap (k : Int) = k := by rw [IntKind.wrap_i64]; omega
  obtain ⟨QI, hQI⟩ : ∃ Q, q⁻¹ = Q := ⟨_, rfl⟩
  rw [hQI]
  have HQI := hide hQI
  clear hQI
  have hB := Below.refl w.heap.size w
  go_enter Tryz.func13, Tryz.ntmps13
  have hs0 := Nat.le_refl w.heap.size
  have hq := below_new w (.cells #[.bool b, .slice a xs.length ca, .slice c ds.length cc] 27)
  replace FA := FA.below hq
  have EA := Box.put (w := w) (k := (w.heap.size)) (.cells #[.bool b, .slice a xs.length ca, .slice c ds.length cc] 27) rfl
  replace hs0 := Nat.le_trans hs0 hq.size
  replace hB := hB.trans (hq.mono hB.size)
  clear hq
  have hq := below_new (w.alloc (.cells #[.bool b, .slice a xs.length ca, .slice c ds.length cc] 27)) (.cells #[.bool false, .slice none 0 0, .slice none 0 0] 27)
  replace FA := FA.below hq
  replace EA := EA.below hq
  have ER := Box.put (w := (w.alloc (.cells #[.bool b, .slice a xs.length ca, .slice c ds.length cc] 27))) (k := (w.heap.size + 1)) (.cells #[.bool false, .slice none 0 0, .slice none 0 0] 27) (by simp)
  replace hs0 := Nat.le_trans hs0 hq.size
  replace hB := hB.trans (hq.mono hB.size)
  clear hq
  have hq := below_new ((w.alloc (.cells #[.bool b, .slice a xs.length ca, .slice c ds.length cc] 27)).alloc (.cells #[.bool false, .slice none 0 0, .slice none 0 0] 27)) (.cells #[.bool b, .slice a xs.length ca, .slice c ds.length cc] 27)
  replace FA := FA.below hq
  replace EA := EA.below hq
  replace ER := ER.below hq
  have LF := Box.put (w := ((w.alloc (.cells #[.bool b, .slice a xs.length ca, .slice c ds.length cc] 27)).alloc (.cells #[.bool false, .slice none 0 0, .slice none 0 0] 27))) (k := (w.heap.size + 2)) (.cells #[.bool b, .slice a xs.length ca, .slice c ds.length cc] 27) (by simp)
  replace hs0 := Nat.le_trans hs0 hq.size
  replace hB := hB.trans (hq.mono hB.size)
  clear hq
  go_wp2_with fail
  obtain ⟨u1, hname⟩ := nm hB
  rw [hname] at hs0 hB FA EA ER LF ⊢
  have zh1 := hB.size
  have zs1 := hs0
  clear hname hs0
  have R := row_box (rs := [⟨b, a, ca, xs, c, cc, ds⟩]) (k := w.heap.size + 2) LF (fun r hr => by
      simp only [List.mem_cons, List.not_mem_nil, or_false] at hr
      rcases hr with rfl
      · exact FA.mono (Nat.zero_le _))
  refine (kfine_any (cap := 1) R (by simp) hlen0.out true HG).mono ?_
  rintro e w2 ⟨rfl, hb⟩
  replace FA := FA.below hb
  replace EA := EA.below hb
  replace ER := ER.below hb
  replace LF := LF.below hb
  replace hB := hB.trans (hb.mono hB.size)
  have zz2 := hb.size
  have zh2 := hB.size
  clear hb
  clear R
  clear LF
  obtain ⟨k0, k1, k2, f0, f1, f2⟩ := EA.three
  obtain ⟨k3, k4, k5, f3, f4, f5⟩ := ER.three
  go_wp2_with fail
  clear k0 k1 k2 f0 f1 f2 k3 k4 k5 f3 f4 f5
  refine (kturned_any b FA IA (by omega) HX).mono ?_
  rintro e w3 ⟨g9, a9, c9, z9, rfl, S9, I9, hb⟩
  replace FA := FA.below hb
  replace EA := EA.below hb
  replace ER := ER.below hb
  replace hB := hB.trans (hb.mono hB.size)
  have zz3 := hb.size
  have zh3 := hB.size
  clear hb
  obtain ⟨k0, k1, k2, f0, f1, f2⟩ := EA.three
  obtain ⟨k3, k4, k5, f3, f4, f5⟩ := ER.three
  have qEA := EA.lt
  have qER := ER.lt
  have hs0 := Nat.le_refl w3.heap.size
  have hT := turns3 (w.heap.size) w3 (.bool g9) (.slice a9 z9.length c9) (.slice a xs.length ca)
  replace FA := FA.beside EA (noWord3 (fun _ e => by cases e) (fun _ e => by cases e) (fun _ e => by cases e)) hT
  replace ER := ER.turns hT (by omega)
  replace S9 := S9.beside EA (noWord3 (fun _ e => by cases e) (fun _ e => by cases e) (fun _ e => by cases e)) hT
  replace EA := Box.set3 (.bool g9) (.slice a9 z9.length c9) (.slice a xs.length ca) EA
  replace hB := hB.trans (hT.below.mono (by omega))
  replace hs0 := Nat.le_trans hs0 hT.below.size
  clear hT
  go_wp2_with fail
  clear k0 k1 k2 f0 f1 f2 k3 k4 k5 f3 f4 f5
  obtain ⟨u4, hname⟩ := nm hB
  rw [hname] at hs0 hB FA EA ER S9 ⊢
  have zh4 := hB.size
  have zs4 := hs0
  clear hname hs0
  refine (kone_any _).mono ?_
  rintro e w5 ⟨a1, c1, z1, rfl, S1, N1, v1, l1, hb⟩
  have V1 : Hid (val z1 = (1 : Int)) := v1
  have b1 : z1.length ≤ 1 := by omega
  clear v1 l1
  replace FA := FA.below hb
  replace EA := EA.below hb
  replace ER := ER.below hb
  replace S9 := S9.below hb
  replace hB := hB.trans (hb.mono hB.size)
  have zz5 := hb.size
  have zh5 := hB.size
  clear hb
  obtain ⟨k0, k1, k2, f0, f1, f2⟩ := EA.three
  obtain ⟨k3, k4, k5, f3, f4, f5⟩ := ER.three
  go_wp2_with fail
  clear k0 k1 k2 f0 f1 f2 k3 k4 k5 f3 f4 f5
  refine (kwhole_any S1 (by omega)).mono ?_
  rintro e w6 ⟨g2, a2, c2, z2, rfl, S2, N2, v2, l2, hb⟩
  have V2 : Hid (sgn g2 (val z2) = (1 : Int)) := by rw [Hid, v2.out, V1.out]
  have b2 : z2.length ≤ 1 := by omega
  clear v2 l2
  replace FA := FA.below hb
  replace EA := EA.below hb
  replace ER := ER.below hb
  replace S9 := S9.below hb
  replace S1 := S1.below hb
  replace hB := hB.trans (hb.mono hB.size)
  have zz6 := hb.size
  have zh6 := hB.size
  clear hb
  have S2_0 := S2
  obtain ⟨k0, k1, k2, f0, f1, f2⟩ := EA.three
  obtain ⟨k3, k4, k5, f3, f4, f5⟩ := ER.three
  go_wp2_with fail
  clear k0 k1 k2 f0 f1 f2 k3 k4 k5 f3 f4 f5
  refine (kone_any _).mono ?_
  rintro e w7 ⟨a3, c3, z3, rfl, S3, N3, v3, l3, hb⟩
  have V3 : Hid (val z3 = (1 : Int)) := v3
  have b3 : z3.length ≤ 1 := by omega
  clear v3 l3
  replace FA := FA.below hb
  replace EA := EA.below hb
  replace ER := ER.below hb
  replace S9 := S9.below hb
  replace S1 := S1.below hb
  replace S2 := S2.below hb
  replace hB := hB.trans (hb.mono hB.size)
  have zz7 := hb.size
  have zh7 := hB.size
  clear hb
  have I0 : Is g2 z2 z3 1 1 := one_is N2 V2 N3 V3 b2 b3
  have P0 := hide (apart_of (fun h b o e => S2_0.block h b o e) S3 (by omega) : Apart a2 a3 z2 z3)
  have FP : Fr 0 _ _ _ _ _ _ _ := ⟨S9.mono (Nat.zero_le _), FA.up.mono (Nat.zero_le _)⟩
  have IP := I9.to HQI.out
  clear FA
  clear S9
  have qER := ER.lt
  have qEA := EA.lt
  obtain ⟨kk, hK⟩ : ∃ K, w7.heap.size = K := ⟨_, rfl⟩
  have hKm : w.heap.size + 1 < kk := by omega
  obtain ⟨k0, k1, k2, f0, f1, f2⟩ := EA.three
  obtain ⟨k3, k4, k5, f3, f4, f5⟩ := ER.three
  have hq := below_new w7 (.cells #[.bool g2, .slice a2 z2.length c2, .slice a3 z3.length c3] 27)
  replace EA := EA.below hq
  replace ER := ER.below hq
  replace S1 := S1.below hq
  replace S2 := S2.below hq
  replace S3 := S3.below hq
  replace FP := FP.below hq
  have EO : Box (w7.alloc (.cells #[.bool g2, .slice a2 z2.length c2, .slice a3 z3.length c3] 27)) kk (.cells #[.bool g2, .slice a2 z2.length c2, .slice a3 z3.length c3] 27) := Box.put (.cells #[.bool g2, .slice a2 z2.length c2, .slice a3 z3.length c3] 27) hK
  replace hB := hB.trans (hq.mono hB.size)
  go_wp2
  clear hq k0 k1 k2 f0 f1 f2 k3 k4 k5 f3 f4 f5
  obtain ⟨v1, hname⟩ := nm hB
  rw [hname] at ER EA EO FP hB S1 S2 S3 ⊢
  clear hname hK qER qEA
  go_loopw [7] (fun iv wv => ∃ (i : Nat) (b1 : Bool) (a1 : Option Addr) (n1 : Nat) (x1 : List Int) (e1 : Option Addr) (m1 : Nat) (y1 : List Int) (q1 : Rat), iv = .int .i64 i ∧ i ≤ k ∧ Box wv (w.heap.size + 1) (.cells #[.bool false, .slice none 0 0, .slice none 0 0] 27) ∧ Box wv w.heap.size (.cells #[.bool g9, .slice a9 z9.length c9, .slice a xs.length ca] 27) ∧ Fr 0 wv a9 c9 z9 a ca xs ∧ Box wv kk (.cells #[.bool b1, .slice a1 x1.length n1, .slice e1 y1.length m1] 27) ∧ Below w.heap.size w wv ∧ Fr w.heap.size wv a1 n1 x1 e1 m1 y1 ∧ Apart a1 e1 x1 y1 ∧ Is b1 x1 y1 q1 (1 + i * n) ∧ Hid (q1 = QI ^ i)) (fun iv _ => k - (intOf iv).toNat)
  case atStart => exact ⟨0, g2, a2, c2, z2, a3, c3, z3, 1, rfl, Nat.zero_le _, ER, EA, FP, EO, hB, ⟨S2.mono (by omega), S3.mono (by omega)⟩, P0.out, I0.mono (by omega), by rw [Hid, Rat.pow_zero]⟩
  case round =>
    clear ER EA EO FP hB I0 P0 S1 S2 S3 S2_0
    obtain ⟨i, b1, a1, n1, x1, e1, m1, y1, q1, rfl, hi, ER, EA, FP, EO, hB, FC, PC, I1, HM⟩ := hrel
    have zB := hB.size
    have qER := ER.lt
    have qEO := EO.lt
    have qEA := EA.lt
    have hw1 : IntKind.i64.wrap ((i : Int) + 1) = (i : Int) + 1 := by rw [IntKind.wrap_i64]; omega
    by_cases hlt : i < k
    · have hlt2 : (i : Int) < (k : Int) := by omega
      have hbd : 1 + i * n + n ≤ 400 := by have : i * n ≤ 12 * n := Nat.mul_le_mul_right _ (by omega); omega
      obtain ⟨t, ht⟩ : ∃ t, q1 * QI = t := ⟨_, rfl⟩
      have HT := hide ht
      clear ht
      obtain ⟨k0, k1, k2, f0, f1, f2⟩ := ER.three
      obtain ⟨k3, k4, k5, f3, f4, f5⟩ := EA.three
      obtain ⟨k6, k7, k8, f6, f7, f8⟩ := EO.three
      go_wp2_with fail
      clear k0 k1 k2 f0 f1 f2 k3 k4 k5 f3 f4 f5 k6 k7 k8 f6 f7 f8
      refine (kproduct_any b1 g9 FC FP I1 IP hbd).mono ?_
      rintro e w8 ⟨g21, a21, c21, x21, e21, t21, y21, rfl, F21, P21, I21, hb⟩
      replace I21 : Is g21 x21 y21 (t) (1 + i * n + n) := I21.to HT.out
      replace FP := FP.below hb
      replace FC := FC.below hb
      replace ER := ER.below hb
      replace EA := EA.below hb
      replace EO := EO.below hb
      replace hB := hB.trans (hb.mono hB.size)
      have zz8 := hb.size
      have zh8 := hB.size
      clear hb
      obtain ⟨k0, k1, k2, f0, f1, f2⟩ := ER.three
      obtain ⟨k3, k4, k5, f3, f4, f5⟩ := EA.three
      obtain ⟨k6, k7, k8, f6, f7, f8⟩ := EO.three
      have qER := ER.lt
      have qEA := EA.lt
      have qEO := EO.lt
      have hs0 := Nat.le_refl w8.heap.size
      have hT := turns3 (kk) w8 (.bool g21) (.slice a21 x21.length c21) (.slice e21 y21.length t21)
      replace FP := FP.beside EO (noWord3 (fun _ e => by cases e) (fun _ e => by cases e) (fun _ e => by cases e)) hT
      replace FC := FC.beside EO (noWord3 (fun _ e => by cases e) (fun _ e => by cases e) (fun _ e => by cases e)) hT
      replace ER := ER.turns hT (by omega)
      replace EA := EA.turns hT (by omega)
      replace F21 := F21.beside EO (noWord3 (fun _ e => by cases e) (fun _ e => by cases e) (fun _ e => by cases e)) hT
      replace EO := Box.set3 (.bool g21) (.slice a21 x21.length c21) (.slice e21 y21.length t21) EO
      replace hB := hB.trans (hT.below.mono (by omega))
      replace hs0 := Nat.le_trans hs0 hT.below.size
      clear hT
      have hms : k - (i + 1) < k - i := by omega
      go_wp2
      refine ⟨⟨i + 1, g21, a21, c21, x21, e21, t21, y21, t, by simp, by omega, ER, EA, FP, EO, hB, F21.mono zB, P21, I21.mono (by rw [Nat.add_mul, Nat.one_mul]; omega), by rw [Hid, ← HT.out, HM.out, Rat.pow_succ]⟩, by simpa [intOf] using hms⟩
    · have hnl : ¬ (i : Int) < (k : Int) := by omega
      obtain rfl : i = k := by omega
      have IZ := (I1.mono (show 1 + i * n ≤ n * i + 1 by rw [Nat.mul_comm]; omega)).to HM.out
      clear HM I1
      obtain ⟨k0, k1, k2, f0, f1, f2⟩ := ER.three
      obtain ⟨k3, k4, k5, f3, f4, f5⟩ := EO.three
      have hcc := ER.three
      have r0 := hcc.1
      have r1 := hcc.2.1
      have r2 := hcc.2.2.1
      clear hcc
      have qER := ER.lt
      have qEO := EO.lt
      have hs0 := Nat.le_refl wr.heap.size
      have hT := turns3 (w.heap.size + 1) wr (.bool b1) (.slice a1 x1.length n1) (.slice e1 y1.length m1)
      replace FC := FC.beside ER (noWord3 (fun _ e => by cases e) (fun _ e => by cases e) (fun _ e => by cases e)) hT
      replace EO := EO.turns hT (by omega)
      replace ER := Box.set3 (.bool b1) (.slice a1 x1.length n1) (.slice e1 y1.length m1) ER
      replace hB := hB.trans (hT.below.mono (by omega))
      replace hs0 := Nat.le_trans hs0 hT.below.size
      clear hT
      go_wp2
      refine bodyPost_ret (v := .tuple #[.agg #[.bool b1, .slice a1 x1.length n1, .slice e1 y1.length m1], .int .i64 0]) (by simp [results, Tryz.f13, go_sem, r0, r1, r2]) rfl ?_
      exact ⟨_, _, _, _, _, _, _, rfl, FC, PC, IZ, hB⟩
theorem rcmp_bel {lo lo' : Nat} {a b : Option Addr} {ca cb : Nat} {xs ys : List Int} {w : World} (ha : Seg lo w (.slice a xs.length ca) xs) (hb : Seg lo' w (.slice b ys.length cb) ys) (hla : xs.length ≤ 10000) (hlb : ys.length ≤ 10000) :
    Calls Tryz.prog 55 #[.slice a xs.length ca, .slice b ys.length cb] w fun e w' => e = .returned (.int .i64 (cmpI (val xs) (val ys))) ∧ Below w.heap.size w w' :=
  (rcmp_any ha hb hla hlb).mono (fun _ _ k => ⟨k.1, k.2 ▸ Below.refl _ _⟩)
set_option maxRecDepth 100000 in
set_option maxHeartbeats 4000000 in
theorem kround_ok {lo : Nat} {a c : Option Addr} {ca cc : Nat} {xs ds : List Int} {w : World} (b : Bool) (FA : Fr lo w a ca xs c cc ds) {n : Nat} {q : Rat} (IA : Is b xs ds q n) (hn : n ≤ 400) :
    Calls Tryz.prog 17 #[.agg #[.bool b, .slice a xs.length ca, .slice c ds.length cc]] w fun e w' => ∃ (b' : Bool) (a' : Option Addr) (cap' : Nat) (ts : List Int), e = .returned (.tuple #[.agg #[.bool b', .slice a' ts.length cap'], .int .i64 0]) ∧ Seg w.heap.size w' (.slice a' ts.length cap') ts ∧ Canon b' ts ∧ Hid (sgn b' (val ts) = sgn b (roundN (val xs) (val ds))) ∧ ts.length ≤ n + 2 ∧ Below w.heap.size w w' := by
  have lxa := IA.lu
  have lda := IA.ld
  have pd := IA.low.2.2.1
  have px := val_nonneg FA.up.words
  have hlen0 : Hid (∀ x ∈ ([⟨b, a, ca, xs, c, cc, ds⟩] : List RV), x.xs.length ≤ 1000 ∧ x.ds.length ≤ 1000) := fun x hx => by
    simp only [List.mem_cons, List.not_mem_nil, or_false] at hx
    subst hx
    constructor <;> simp <;> omega
  have HG := good_yes [⟨b, a, ca, xs, c, cc, ds⟩] (fun x hx => by
    simp only [List.mem_cons, List.not_mem_nil, or_false] at hx
    subst hx
    exact (formR_low FA.up.words FA.down.words).2 IA.low)
  have hB := Below.refl w.heap.size w
  go_enter Tryz.func17, Tryz.ntmps17
  have hs0 := Nat.le_refl w.heap.size
  have hq := below_new w (.cells #[.bool b, .slice a xs.length ca, .slice c ds.length cc] 27)
  replace FA := FA.below hq
  have EA := Box.put (w := w) (k := (w.heap.size)) (.cells #[.bool b, .slice a xs.length ca, .slice c ds.length cc] 27) rfl
  replace hs0 := Nat.le_trans hs0 hq.size
  replace hB := hB.trans (hq.mono hB.size)
  clear hq
  have hq := below_new (w.alloc (.cells #[.bool b, .slice a xs.length ca, .slice c ds.length cc] 27)) (.cells #[.bool false, .slice none 0 0] 25)
  replace FA := FA.below hq
  replace EA := EA.below hq
  have ER := Box.put (w := (w.alloc (.cells #[.bool b, .slice a xs.length ca, .slice c ds.length cc] 27))) (k := (w.heap.size + 1)) (.cells #[.bool false, .slice none 0 0] 25) (by simp)
  replace hs0 := Nat.le_trans hs0 hq.size
  replace hB := hB.trans (hq.mono hB.size)
  clear hq
  have hq := below_new ((w.alloc (.cells #[.bool b, .slice a xs.length ca, .slice c ds.length cc] 27)).alloc (.cells #[.bool false, .slice none 0 0] 25)) (.cells #[.bool b, .slice a xs.length ca, .slice c ds.length cc] 27)
  replace FA := FA.below hq
  replace EA := EA.below hq
  replace ER := ER.below hq
  have LF := Box.put (w := ((w.alloc (.cells #[.bool b, .slice a xs.length ca, .slice c ds.length cc] 27)).alloc (.cells #[.bool false, .slice none 0 0] 25))) (k := (w.heap.size + 2)) (.cells #[.bool b, .slice a xs.length ca, .slice c ds.length cc] 27) (by simp)
  replace hs0 := Nat.le_trans hs0 hq.size
  replace hB := hB.trans (hq.mono hB.size)
  clear hq
  go_wp2_with fail
  obtain ⟨u1, hname⟩ := nm hB
  rw [hname] at hs0 hB FA EA ER LF ⊢
  have zh1 := hB.size
  have zs1 := hs0
  clear hname hs0
  have R := row_box (rs := [⟨b, a, ca, xs, c, cc, ds⟩]) (k := w.heap.size + 2) LF (fun r hr => by
      simp only [List.mem_cons, List.not_mem_nil, or_false] at hr
      rcases hr with rfl
      · exact FA.mono (Nat.zero_le _))
  refine (kfine_any (cap := 1) R (by simp) hlen0.out true HG).mono ?_
  rintro e w2 ⟨rfl, hb⟩
  replace FA := FA.below hb
  replace EA := EA.below hb
  replace ER := ER.below hb
  replace LF := LF.below hb
  replace hB := hB.trans (hb.mono hB.size)
  have zz2 := hb.size
  have zh2 := hB.size
  clear hb
  clear R
  clear LF
  obtain ⟨k0, k1, k2, f0, f1, f2⟩ := EA.three
  obtain ⟨k3, k4, f3, f4⟩ := ER.two
  go_wp2_with fail
  clear k0 k1 k2 f0 f1 f2 k3 k4 f3 f4
  have hk := rdiv_all FA.up FA.down (by omega) (by omega)
  rw [errZ_pos pd, remZ_pos _ pd] at hk
  refine (hk).mono ?_
  rintro e w3 ⟨a1, a2, c1, c2, z1, z2, rfl, S1, S2, N1, N2, v1, v2, hb⟩
  have b1 : z1.length ≤ n := Nat.le_trans (len_below S1.words N1 (by rw [v1]; exact Int.lt_of_le_of_lt (Int.ediv_le_self _ px) (val_lt FA.up.words))) lxa
  have b2 : z2.length ≤ n := Nat.le_trans (len_below S2.words N2 (by have := val_lt FA.down.words; have := Int.emod_lt_of_pos (val xs) pd; rw [v2]; omega)) lda
  have V1 := hide v1
  have V2 := hide v2
  clear v1 v2
  replace FA := FA.below hb
  replace EA := EA.below hb
  replace ER := ER.below hb
  replace hB := hB.trans (hb.mono hB.size)
  have zz3 := hb.size
  have zh3 := hB.size
  clear hb
  clear hk
  obtain ⟨cv, hcv⟩ : ∃ cv, cmpI (val z2 + val z2) (val ds) = cv := ⟨_, rfl⟩
  have HC := hide hcv
  clear hcv
  obtain ⟨k0, k1, k2, f0, f1, f2⟩ := EA.three
  obtain ⟨k3, k4, f3, f4⟩ := ER.two
  go_wp2_with fail
  clear k0 k1 k2 f0 f1 f2 k3 k4 f3 f4
  replace FA := FA.drew
  have qEA := EA.lt
  replace EA := EA.drew
  have qER := ER.lt
  replace ER := ER.drew
  replace S1 := S1.drew
  replace S2 := S2.drew
  refine wp_yields 6 [.is (.slice a2 z2.length c2), .is (.slice a2 z2.length c2), (Yield.nat w3.heap.size (val z2 + val z2) (n + 1)), .is (.pointer (some ⟨w.heap.size, 2, none⟩)), .is (.slice c ds.length cc), (.is (.int .i64 cv))] (by kernel_rfl) (by kernel_rfl) (lt_cons ?_ (lt_cons ?_ (lt_cons ?_ (lt_cons ?_ (lt_cons ?_ (lt_cons ?_ lt_nil)))))) ?_
  case refine_1 =>
    refine OpDoes.mk rfl ?_
    intro vs V hV hd K hK
    have hh := fun (P : Prop) => Yield.nat_elim P (show ((Yield.nat w3.heap.size (val z2 + val z2) (n + 1)) : Yield).At (vs 2) V from hd 2 (by decide) (by kernel_rfl))
    refine hh _ ?_
    intro a3 c3 z3 d2 S3 N3 V3 b3
    clear hh
    have d4 : vs 4 = .slice c ds.length cc := hd 4 (by decide) (by kernel_rfl)
    simp only [laidIn, lz1, lz2, lz3, lz4, lz5, lz6, if_true, Act.put, lz7, lz8, lz9] at hK ⊢
    simp only [d2, d4] at hK ⊢
    go_simp
    go_at_call 55
    have hc := rcmp_bel S3 (FA.down.below hV) (by omega) (by omega)
    rw [V3.out, HC.out] at hc
    refine (hc).mono ?_
    rintro e V' ⟨rfl, hb⟩
    exact hK.out _ _ hb rfl (not_fresh rfl)
  case refine_2 =>
    refine OpDoes.mk rfl ?_
    intro vs V hV hd K hK
    have d3 : vs 3 = .pointer (some ⟨w.heap.size, 2, none⟩) := hd 3 (by decide) (by kernel_rfl)
    have hcc := (EA.below hV).three
    have k0 := hcc.1
    have k1 := hcc.2.1
    have k2 := hcc.2.2.1
    clear hcc
    simp only [laidIn, lz1, lz2, lz3, lz4, lz5, lz6, if_true, Act.put, lz7, lz8, lz9] at hK ⊢
    simp only [d3] at hK ⊢
    go_simp
    exact hK.out _ _ (Below.refl _ _) rfl (not_fresh rfl)
  case refine_3 =>
    refine OpDoes.mk rfl ?_
    intro vs V hV hd K hK
    simp only [laidIn, lz1, lz2, lz3, lz4, lz5, lz6, if_true, Act.put, lz7, lz8, lz9] at hK ⊢
    go_simp
    exact hK.out _ _ (Below.refl _ _) rfl (not_fresh rfl)
  case refine_4 =>
    refine OpDoes.mk rfl ?_
    intro vs V hV hd K hK
    have d0 : vs 0 = .slice a2 z2.length c2 := hd 0 (by decide) (by kernel_rfl)
    have d1 : vs 1 = .slice a2 z2.length c2 := hd 1 (by decide) (by kernel_rfl)
    simp only [laidIn, lz1, lz2, lz3, lz4, lz5, lz6, if_true, Act.put, lz7, lz8, lz9] at hK ⊢
    simp only [d0, d1] at hK ⊢
    go_simp
    go_at_call 56
    refine (radd_any (S2.below hV) (S2.below hV) (by omega) (by omega)).mono ?_
    rintro e V' ⟨a3, c3, z3, rfl, S3, N3, v3, l3, hb⟩
    have V3 : Hid (val z3 = val z2 + val z2) := v3
    have b3 : z3.length ≤ n + 1 := by omega
    clear v3 l3
    exact hK.out _ _ hb ⟨_, _, _, rfl, S3.mono hV.size, N3, V3, b3⟩ (not_fresh rfl)
  case refine_5 =>
    refine OpDoes.mk rfl ?_
    intro vs V hV hd K hK
    simp only [laidIn, lz1, lz2, lz3, lz4, lz5, lz6, if_true, Act.put, lz7, lz8, lz9] at hK ⊢
    go_simp
    exact hK.out _ _ (Below.refl _ _) rfl (not_fresh rfl)
  case refine_6 =>
    refine OpDoes.mk rfl ?_
    intro vs V hV hd K hK
    simp only [laidIn, lz1, lz2, lz4, lz5, lz6, if_true, Act.put, lz7, lz8, lz9] at hK ⊢
    go_simp
    exact hK.out _ _ (Below.refl _ _) rfl (not_fresh rfl)
  case refine_7 =>
    intro vs Y1 hV hR hne fuel
    have d0 : vs 0 = .slice a2 z2.length c2 := hR 0 (by decide)
    have d1 : vs 1 = .slice a2 z2.length c2 := hR 1 (by decide)
    have hh := fun (P : Prop) => Yield.nat_elim P (show ((Yield.nat w3.heap.size (val z2 + val z2) (n + 1)) : Yield).At (vs 2) Y1 from hR 2 (by decide))
    refine hh _ ?_
    intro a3 c3 z3 d2 S3 N3 V3 b3
    clear hh
    have d3 : vs 3 = .pointer (some ⟨w.heap.size, 2, none⟩) := hR 3 (by decide)
    have d4 : vs 4 = .slice c ds.length cc := hR 4 (by decide)
    have d5 : vs 5 = .int .i64 cv := hR 5 (by decide)
    replace FA := FA.below hV
    replace EA := EA.below hV
    replace ER := ER.below hV
    replace S1 := S1.below hV
    replace S2 := S2.below hV
    have hr := hV
    simp only [laidIn, lz4, lz5, lz6, if_true, Act.put, lz7, lz8, lz9]
    simp only [d0, d1, d2, d3, d4, d5]
    clear hR hne hV d0 d1 d2 d3 d4 d5
    clear vs
    show wpAny _ _ _ _ (fuel + 1) _ _ _
    refine wpAny_all (rs := [6]) (by kernel_rfl) (by simp) (fun i hi => ?_)
    obtain rfl : i = 6 := by simpa using hi
    clear hi
    refine wpOp_step rfl (fun K hK => ?_)
    simp only [lz1, lz2, lz3]
    rw [if_pos (by rfl)]
    go_simp
    refine hK _ _ ?_
    clear hK
    refine wpAny_done (by kernel_rfl) ?_ _
    replace hB := hB.trans ((Below.trans (Below.drew (Below.refl w3.heap.size w3)) hr).mono hB.size)
    have zz3_0 := hr.size
    have zi1 := hB.size
    clear hr 
    clear S3 S2
    have hr := Int.emod_nonneg (val xs) (show val ds ≠ 0 by omega)
    rcases Int.lt_trichotomy (val z2 + val z2) (val ds) with hlt | heq | hgt
    · skip
      obtain rfl : cv = -1 := by rw [← HC.out]; exact cmpI_lt hlt
      have HR : Hid (roundN (val xs) (val ds) = val xs / val ds) := by rw [Hid, roundN, if_neg]; have := V2.out; omega
      clear hlt HC
      obtain ⟨k0, k1, k2, f0, f1, f2⟩ := EA.three
      obtain ⟨k3, k4, f3, f4⟩ := ER.two
      go_wp2_with fail
      clear k0 k1 k2 f0 f1 f2 k3 k4 f3 f4
      refine (imake_any S1 (by omega) b).mono ?_
      rintro e w4 ⟨g4, a4, c4, z4, rfl, S4, N4, v4, l4, hb⟩
      have V4 : Hid (sgn g4 (val z4) = sgn b (roundN (val xs) (val ds))) := by rw [Hid, v4, HR.out, V1.out]
      have b4 : z4.length ≤ n + 2 := by omega
      clear v4 l4
      replace FA := FA.below hb
      replace EA := EA.below hb
      replace ER := ER.below hb
      replace S1 := S1.below hb
      replace hB := hB.trans (hb.mono hB.size)
      have zz4 := hb.size
      have zh4 := hB.size
      clear hb
      obtain ⟨k0, k1, k2, f0, f1, f2⟩ := EA.three
      obtain ⟨k3, k4, f3, f4⟩ := ER.two
      have hcc := ER.two
      have r0 := hcc.1
      have r1 := hcc.2.1
      clear hcc
      have qEA := EA.lt
      have qER := ER.lt
      have hs0 := Nat.le_refl w4.heap.size
      have hT := (((Turns.refl (w.heap.size + 1) w4).setCell 0 (.bool g4)).setCell 1 (.slice a4 z4.length c4))
      replace FA := FA.beside ER (noWord2 (fun _ e => by cases e) (fun _ e => by cases e)) hT
      replace EA := EA.turns hT (by omega)
      replace S1 := S1.beside ER (noWord2 (fun _ e => by cases e) (fun _ e => by cases e)) hT
      replace S4 := S4.beside ER (noWord2 (fun _ e => by cases e) (fun _ e => by cases e)) hT
      replace ER : Box ((w4.setCell ⟨w.heap.size + 1, 0, none⟩ (.bool g4)).setCell ⟨w.heap.size + 1, 1, none⟩ (.slice a4 z4.length c4)) (w.heap.size + 1) (.cells #[.bool g4, .slice a4 z4.length c4] 25) := ⟨Nat.lt_of_lt_of_le ER.lt hT.below.size, (heap_setCell_same _ _ 1 _ _ _ (heap_setCell_same _ _ 0 _ _ _ ER.what))⟩
      replace hB := hB.trans (hT.below.mono (by omega))
      replace hs0 := Nat.le_trans hs0 hT.below.size
      clear hT
      go_wp2
      refine bodyPost_ret (v := .tuple #[.agg #[.bool g4, .slice a4 z4.length c4], .int .i64 0]) (by simp [results, Tryz.f17, go_sem, r0, r1]) rfl ?_
      exact ⟨_, _, _, _, rfl, S4.mono (by omega), N4, V4, b4, hB⟩
    · obtain rfl : cv = 0 := by rw [← HC.out, heq, cmpI_eq]
      by_cases h0 : z1 = []
      · skip
        subst h0
        have HR : Hid (roundN (val xs) (val ds) = val xs / val ds) := by rw [Hid, roundN, if_neg]; have := V2.out; have h1 := V1.out; rw [val_nil] at h1; rintro (h | ⟨h, h2⟩) <;> omega
        clear heq HC
        obtain ⟨k0, k1, k2, f0, f1, f2⟩ := EA.three
        obtain ⟨k3, k4, f3, f4⟩ := ER.two
        go_wp2_with fail
        clear k0 k1 k2 f0 f1 f2 k3 k4 f3 f4
        refine (imake_any S1 (by omega) b).mono ?_
        rintro e w4 ⟨g4, a4, c4, z4, rfl, S4, N4, v4, l4, hb⟩
        have V4 : Hid (sgn g4 (val z4) = sgn b (roundN (val xs) (val ds))) := by rw [Hid, v4, HR.out, V1.out]
        have b4 : z4.length ≤ n + 2 := by omega
        clear v4 l4
        replace FA := FA.below hb
        replace EA := EA.below hb
        replace ER := ER.below hb
        replace S1 := S1.below hb
        replace hB := hB.trans (hb.mono hB.size)
        have zz4 := hb.size
        have zh4 := hB.size
        clear hb
        obtain ⟨k0, k1, k2, f0, f1, f2⟩ := EA.three
        obtain ⟨k3, k4, f3, f4⟩ := ER.two
        have hcc := ER.two
        have r0 := hcc.1
        have r1 := hcc.2.1
        clear hcc
        have qEA := EA.lt
        have qER := ER.lt
        have hs0 := Nat.le_refl w4.heap.size
        have hT := (((Turns.refl (w.heap.size + 1) w4).setCell 0 (.bool g4)).setCell 1 (.slice a4 z4.length c4))
        replace FA := FA.beside ER (noWord2 (fun _ e => by cases e) (fun _ e => by cases e)) hT
        replace EA := EA.turns hT (by omega)
        replace S1 := S1.beside ER (noWord2 (fun _ e => by cases e) (fun _ e => by cases e)) hT
        replace S4 := S4.beside ER (noWord2 (fun _ e => by cases e) (fun _ e => by cases e)) hT
        replace ER : Box ((w4.setCell ⟨w.heap.size + 1, 0, none⟩ (.bool g4)).setCell ⟨w.heap.size + 1, 1, none⟩ (.slice a4 z4.length c4)) (w.heap.size + 1) (.cells #[.bool g4, .slice a4 z4.length c4] 25) := ⟨Nat.lt_of_lt_of_le ER.lt hT.below.size, (heap_setCell_same _ _ 1 _ _ _ (heap_setCell_same _ _ 0 _ _ _ ER.what))⟩
        replace hB := hB.trans (hT.below.mono (by omega))
        replace hs0 := Nat.le_trans hs0 hT.below.size
        clear hT
        go_wp2
        refine bodyPost_ret (v := .tuple #[.agg #[.bool g4, .slice a4 z4.length c4], .int .i64 0]) (by simp [results, Tryz.f17, go_sem, r0, r1]) rfl ?_
        exact ⟨_, _, _, _, rfl, S4.mono (by omega), N4, V4, b4, hB⟩
      · obtain ⟨z, zr, rfl⟩ : ∃ z zr, z1 = z :: zr := by cases z1 with | nil => exact absurd rfl h0 | cons z zr => exact ⟨z, zr, rfl⟩
        obtain ⟨kq, oq, rfl, _, _⟩ := S1.row (by simp)
        have c0 := (S1.cell (j := 0) (by simp)).1
        rw [Nat.add_zero] at c0
        simp only [lz5, Option.getD_some] at c0
        have hzw := S1.words z (by simp)
        have hp : (0 : Int) < ((z :: zr).length : Int) := by simp
        have hpN : 0 < (z :: zr).length := by simp
        have hv1 : val (z :: zr) % 2 = z % 2 := by rw [val_cons]; omega
        by_cases hodd : z % 2 = 1
        · skip
          have hp2 : (z.tmod 2 == 1) = true := by rw [Int.tmod_eq_emod_of_nonneg hzw.1]; exact beq_iff_eq.2 hodd
          have HR : Hid (roundN (val xs) (val ds) = val xs / val ds + 1) := by rw [Hid, roundN, if_pos]; have := V2.out; have := V1.out; right; constructor <;> omega
          clear heq HC hv1 hzw hodd h0
          obtain ⟨k0, k1, k2, f0, f1, f2⟩ := EA.three
          obtain ⟨k3, k4, f3, f4⟩ := ER.two
          go_wp2_with fail
          clear k0 k1 k2 f0 f1 f2 k3 k4 f3 f4
          refine (kone_any _).mono ?_
          rintro e w4 ⟨a4, c4, z4, rfl, S4, N4, v4, l4, hb⟩
          have V4 : Hid (val z4 = (1 : Int)) := v4
          have b4 : z4.length ≤ 1 := by omega
          clear v4 l4
          replace FA := FA.below hb
          replace EA := EA.below hb
          replace ER := ER.below hb
          replace S1 := S1.below hb
          replace hB := hB.trans (hb.mono hB.size)
          have zz4 := hb.size
          have zh4 := hB.size
          clear hb
          clear c0 hp hpN hp2
          obtain ⟨k0, k1, k2, f0, f1, f2⟩ := EA.three
          obtain ⟨k3, k4, f3, f4⟩ := ER.two
          go_wp2_with fail
          clear k0 k1 k2 f0 f1 f2 k3 k4 f3 f4
          refine (radd_any S1 S4 (by omega) (by omega)).mono ?_
          rintro e w5 ⟨a5, c5, z5, rfl, S5, N5, v5, l5, hb⟩
          have V5 : Hid (val z5 = val (z :: zr) + 1) := by rw [Hid, v5, V4.out]
          have b5 : z5.length ≤ n + 2 := by omega
          clear v5 l5
          replace FA := FA.below hb
          replace EA := EA.below hb
          replace ER := ER.below hb
          replace S1 := S1.below hb
          replace S4 := S4.below hb
          replace hB := hB.trans (hb.mono hB.size)
          have zz5 := hb.size
          have zh5 := hB.size
          clear hb
          obtain ⟨k0, k1, k2, f0, f1, f2⟩ := EA.three
          obtain ⟨k3, k4, f3, f4⟩ := ER.two
          go_wp2_with fail
          clear k0 k1 k2 f0 f1 f2 k3 k4 f3 f4
          refine (imake_any S5 (by omega) b).mono ?_
          rintro e w6 ⟨g6, a6, c6, z6, rfl, S6, N6, v6, l6, hb⟩
          have V6 : Hid (sgn g6 (val z6) = sgn b (roundN (val xs) (val ds))) := by rw [Hid, v6, HR.out, V5.out, V1.out]
          have b6 : z6.length ≤ n + 2 := by omega
          clear v6 l6
          replace FA := FA.below hb
          replace EA := EA.below hb
          replace ER := ER.below hb
          replace S1 := S1.below hb
          replace S4 := S4.below hb
          replace S5 := S5.below hb
          replace hB := hB.trans (hb.mono hB.size)
          have zz6 := hb.size
          have zh6 := hB.size
          clear hb
          obtain ⟨k0, k1, k2, f0, f1, f2⟩ := EA.three
          obtain ⟨k3, k4, f3, f4⟩ := ER.two
          have hcc := ER.two
          have r0 := hcc.1
          have r1 := hcc.2.1
          clear hcc
          have qEA := EA.lt
          have qER := ER.lt
          have hs0 := Nat.le_refl w6.heap.size
          have hT := (((Turns.refl (w.heap.size + 1) w6).setCell 0 (.bool g6)).setCell 1 (.slice a6 z6.length c6))
          replace FA := FA.beside ER (noWord2 (fun _ e => by cases e) (fun _ e => by cases e)) hT
          replace EA := EA.turns hT (by omega)
          replace S1 := S1.beside ER (noWord2 (fun _ e => by cases e) (fun _ e => by cases e)) hT
          replace S4 := S4.beside ER (noWord2 (fun _ e => by cases e) (fun _ e => by cases e)) hT
          replace S5 := S5.beside ER (noWord2 (fun _ e => by cases e) (fun _ e => by cases e)) hT
          replace S6 := S6.beside ER (noWord2 (fun _ e => by cases e) (fun _ e => by cases e)) hT
          replace ER : Box ((w6.setCell ⟨w.heap.size + 1, 0, none⟩ (.bool g6)).setCell ⟨w.heap.size + 1, 1, none⟩ (.slice a6 z6.length c6)) (w.heap.size + 1) (.cells #[.bool g6, .slice a6 z6.length c6] 25) := ⟨Nat.lt_of_lt_of_le ER.lt hT.below.size, (heap_setCell_same _ _ 1 _ _ _ (heap_setCell_same _ _ 0 _ _ _ ER.what))⟩
          replace hB := hB.trans (hT.below.mono (by omega))
          replace hs0 := Nat.le_trans hs0 hT.below.size
          clear hT
          go_wp2
          refine bodyPost_ret (v := .tuple #[.agg #[.bool g6, .slice a6 z6.length c6], .int .i64 0]) (by simp [results, Tryz.f17, go_sem, r0, r1]) rfl ?_
          exact ⟨_, _, _, _, rfl, S6.mono (by omega), N6, V6, b6, hB⟩
        · skip
          have hp2 : (z.tmod 2 == 1) = false := by rw [Int.tmod_eq_emod_of_nonneg hzw.1]; exact beq_eq_false_iff_ne.2 hodd
          have HR : Hid (roundN (val xs) (val ds) = val xs / val ds) := by rw [Hid, roundN, if_neg]; have := V2.out; have := V1.out; rintro (h | ⟨h, h2⟩) <;> omega
          clear heq HC hv1 hzw hodd h0
          obtain ⟨k0, k1, k2, f0, f1, f2⟩ := EA.three
          obtain ⟨k3, k4, f3, f4⟩ := ER.two
          go_wp2_with fail
          clear k0 k1 k2 f0 f1 f2 k3 k4 f3 f4
          refine (imake_any S1 (by omega) b).mono ?_
          rintro e w4 ⟨g4, a4, c4, z4, rfl, S4, N4, v4, l4, hb⟩
          have V4 : Hid (sgn g4 (val z4) = sgn b (roundN (val xs) (val ds))) := by rw [Hid, v4, HR.out, V1.out]
          have b4 : z4.length ≤ n + 2 := by omega
          clear v4 l4
          replace FA := FA.below hb
          replace EA := EA.below hb
          replace ER := ER.below hb
          replace S1 := S1.below hb
          replace hB := hB.trans (hb.mono hB.size)
          have zz4 := hb.size
          have zh4 := hB.size
          clear hb
          obtain ⟨k0, k1, k2, f0, f1, f2⟩ := EA.three
          obtain ⟨k3, k4, f3, f4⟩ := ER.two
          have hcc := ER.two
          have r0 := hcc.1
          have r1 := hcc.2.1
          clear hcc
          have qEA := EA.lt
          have qER := ER.lt
          have hs0 := Nat.le_refl w4.heap.size
          have hT := (((Turns.refl (w.heap.size + 1) w4).setCell 0 (.bool g4)).setCell 1 (.slice a4 z4.length c4))
          replace FA := FA.beside ER (noWord2 (fun _ e => by cases e) (fun _ e => by cases e)) hT
          replace EA := EA.turns hT (by omega)
          replace S1 := S1.beside ER (noWord2 (fun _ e => by cases e) (fun _ e => by cases e)) hT
          replace S4 := S4.beside ER (noWord2 (fun _ e => by cases e) (fun _ e => by cases e)) hT
          replace ER : Box ((w4.setCell ⟨w.heap.size + 1, 0, none⟩ (.bool g4)).setCell ⟨w.heap.size + 1, 1, none⟩ (.slice a4 z4.length c4)) (w.heap.size + 1) (.cells #[.bool g4, .slice a4 z4.length c4] 25) := ⟨Nat.lt_of_lt_of_le ER.lt hT.below.size, (heap_setCell_same _ _ 1 _ _ _ (heap_setCell_same _ _ 0 _ _ _ ER.what))⟩
          replace hB := hB.trans (hT.below.mono (by omega))
          replace hs0 := Nat.le_trans hs0 hT.below.size
          clear hT
          go_wp2
          refine bodyPost_ret (v := .tuple #[.agg #[.bool g4, .slice a4 z4.length c4], .int .i64 0]) (by simp [results, Tryz.f17, go_sem, r0, r1]) rfl ?_
          exact ⟨_, _, _, _, rfl, S4.mono (by omega), N4, V4, b4, hB⟩
    · skip
      obtain rfl : cv = 1 := by rw [← HC.out]; exact cmpI_gt hgt
      have HR : Hid (roundN (val xs) (val ds) = val xs / val ds + 1) := by rw [Hid, roundN, if_pos]; have := V2.out; left; omega
      clear hgt HC
      obtain ⟨k0, k1, k2, f0, f1, f2⟩ := EA.three
      obtain ⟨k3, k4, f3, f4⟩ := ER.two
      go_wp2_with fail
      clear k0 k1 k2 f0 f1 f2 k3 k4 f3 f4
      refine (kone_any _).mono ?_
      rintro e w4 ⟨a4, c4, z4, rfl, S4, N4, v4, l4, hb⟩
      have V4 : Hid (val z4 = (1 : Int)) := v4
      have b4 : z4.length ≤ 1 := by omega
      clear v4 l4
      replace FA := FA.below hb
      replace EA := EA.below hb
      replace ER := ER.below hb
      replace S1 := S1.below hb
      replace hB := hB.trans (hb.mono hB.size)
      have zz4 := hb.size
      have zh4 := hB.size
      clear hb
      obtain ⟨k0, k1, k2, f0, f1, f2⟩ := EA.three
      obtain ⟨k3, k4, f3, f4⟩ := ER.two
      go_wp2_with fail
      clear k0 k1 k2 f0 f1 f2 k3 k4 f3 f4
      refine (radd_any S1 S4 (by omega) (by omega)).mono ?_
      rintro e w5 ⟨a5, c5, z5, rfl, S5, N5, v5, l5, hb⟩
      have V5 : Hid (val z5 = val z1 + 1) := by rw [Hid, v5, V4.out]
      have b5 : z5.length ≤ n + 2 := by omega
      clear v5 l5
      replace FA := FA.below hb
      replace EA := EA.below hb
      replace ER := ER.below hb
      replace S1 := S1.below hb
      replace S4 := S4.below hb
      replace hB := hB.trans (hb.mono hB.size)
      have zz5 := hb.size
      have zh5 := hB.size
      clear hb
      obtain ⟨k0, k1, k2, f0, f1, f2⟩ := EA.three
      obtain ⟨k3, k4, f3, f4⟩ := ER.two
      go_wp2_with fail
      clear k0 k1 k2 f0 f1 f2 k3 k4 f3 f4
      refine (imake_any S5 (by omega) b).mono ?_
      rintro e w6 ⟨g6, a6, c6, z6, rfl, S6, N6, v6, l6, hb⟩
      have V6 : Hid (sgn g6 (val z6) = sgn b (roundN (val xs) (val ds))) := by rw [Hid, v6, HR.out, V5.out, V1.out]
      have b6 : z6.length ≤ n + 2 := by omega
      clear v6 l6
      replace FA := FA.below hb
      replace EA := EA.below hb
      replace ER := ER.below hb
      replace S1 := S1.below hb
      replace S4 := S4.below hb
      replace S5 := S5.below hb
      replace hB := hB.trans (hb.mono hB.size)
      have zz6 := hb.size
      have zh6 := hB.size
      clear hb
      obtain ⟨k0, k1, k2, f0, f1, f2⟩ := EA.three
      obtain ⟨k3, k4, f3, f4⟩ := ER.two
      have hcc := ER.two
      have r0 := hcc.1
      have r1 := hcc.2.1
      clear hcc
      have qEA := EA.lt
      have qER := ER.lt
      have hs0 := Nat.le_refl w6.heap.size
      have hT := (((Turns.refl (w.heap.size + 1) w6).setCell 0 (.bool g6)).setCell 1 (.slice a6 z6.length c6))
      replace FA := FA.beside ER (noWord2 (fun _ e => by cases e) (fun _ e => by cases e)) hT
      replace EA := EA.turns hT (by omega)
      replace S1 := S1.beside ER (noWord2 (fun _ e => by cases e) (fun _ e => by cases e)) hT
      replace S4 := S4.beside ER (noWord2 (fun _ e => by cases e) (fun _ e => by cases e)) hT
      replace S5 := S5.beside ER (noWord2 (fun _ e => by cases e) (fun _ e => by cases e)) hT
      replace S6 := S6.beside ER (noWord2 (fun _ e => by cases e) (fun _ e => by cases e)) hT
      replace ER : Box ((w6.setCell ⟨w.heap.size + 1, 0, none⟩ (.bool g6)).setCell ⟨w.heap.size + 1, 1, none⟩ (.slice a6 z6.length c6)) (w.heap.size + 1) (.cells #[.bool g6, .slice a6 z6.length c6] 25) := ⟨Nat.lt_of_lt_of_le ER.lt hT.below.size, (heap_setCell_same _ _ 1 _ _ _ (heap_setCell_same _ _ 0 _ _ _ ER.what))⟩
      replace hB := hB.trans (hT.below.mono (by omega))
      replace hs0 := Nat.le_trans hs0 hT.below.size
      clear hT
      go_wp2
      refine bodyPost_ret (v := .tuple #[.agg #[.bool g6, .slice a6 z6.length c6], .int .i64 0]) (by simp [results, Tryz.f17, go_sem, r0, r1]) rfl ?_
      exact ⟨_, _, _, _, rfl, S6.mono (by omega), N6, V6, b6, hB⟩
set_option maxRecDepth 100000 in
set_option maxHeartbeats 4000000 in
theorem kround_no {lo : Nat} {a c : Option Addr} {ca cc : Nat} {xs ds : List Int} {w : World} (b : Bool) (FA : Fr lo w a ca xs c cc ds) (hl : xs.length ≤ 400 ∧ ds.length ≤ 400) (HA : Hid (formR b xs ds = 6)) :
    Calls Tryz.prog 17 #[.agg #[.bool b, .slice a xs.length ca, .slice c ds.length cc]] w fun e w' => e = .returned (.tuple #[.agg #[.bool false, .slice none 0 0], .int .i64 6]) ∧ Below w.heap.size w w' := by
  have hlen0 : Hid (∀ x ∈ ([⟨b, a, ca, xs, c, cc, ds⟩] : List RV), x.xs.length ≤ 1000 ∧ x.ds.length ≤ 1000) := fun x hx => by
    simp only [List.mem_cons, List.not_mem_nil, or_false] at hx
    subst hx
    constructor <;> simp <;> omega
  have HG := good_no [⟨b, a, ca, xs, c, cc, ds⟩] (fun h => by have := h _ (List.mem_cons_self ..); rw [HA.out] at this; exact absurd this (by decide))
  have hB := Below.refl w.heap.size w
  go_enter Tryz.func17, Tryz.ntmps17
  have hs0 := Nat.le_refl w.heap.size
  have hq := below_new w (.cells #[.bool b, .slice a xs.length ca, .slice c ds.length cc] 27)
  replace FA := FA.below hq
  have EA := Box.put (w := w) (k := (w.heap.size)) (.cells #[.bool b, .slice a xs.length ca, .slice c ds.length cc] 27) rfl
  replace hs0 := Nat.le_trans hs0 hq.size
  replace hB := hB.trans (hq.mono hB.size)
  clear hq
  have hq := below_new (w.alloc (.cells #[.bool b, .slice a xs.length ca, .slice c ds.length cc] 27)) (.cells #[.bool false, .slice none 0 0] 25)
  replace FA := FA.below hq
  replace EA := EA.below hq
  have ER := Box.put (w := (w.alloc (.cells #[.bool b, .slice a xs.length ca, .slice c ds.length cc] 27))) (k := (w.heap.size + 1)) (.cells #[.bool false, .slice none 0 0] 25) (by simp)
  replace hs0 := Nat.le_trans hs0 hq.size
  replace hB := hB.trans (hq.mono hB.size)
  clear hq
  have hq := below_new ((w.alloc (.cells #[.bool b, .slice a xs.length ca, .slice c ds.length cc] 27)).alloc (.cells #[.bool false, .slice none 0 0] 25)) (.cells #[.bool b, .slice a xs.length ca, .slice c ds.length cc] 27)
  replace FA := FA.below hq
  replace EA := EA.below hq
  replace ER := ER.below hq
  have LF := Box.put (w := ((w.alloc (.cells #[.bool b, .slice a xs.length ca, .slice c ds.length cc] 27)).alloc (.cells #[.bool false, .slice none 0 0] 25))) (k := (w.heap.size + 2)) (.cells #[.bool b, .slice a xs.length ca, .slice c ds.length cc] 27) (by simp)
  replace hs0 := Nat.le_trans hs0 hq.size
  replace hB := hB.trans (hq.mono hB.size)
  clear hq
  go_wp2_with fail
  obtain ⟨u1, hname⟩ := nm hB
  rw [hname] at hs0 hB FA EA ER LF ⊢
  have zh1 := hB.size
  have zs1 := hs0
  clear hname hs0
  have R := row_box (rs := [⟨b, a, ca, xs, c, cc, ds⟩]) (k := w.heap.size + 2) LF (fun r hr => by
      simp only [List.mem_cons, List.not_mem_nil, or_false] at hr
      rcases hr with rfl
      · exact FA.mono (Nat.zero_le _))
  refine (kfine_any (cap := 1) R (by simp) hlen0.out false HG).mono ?_
  rintro e w2 ⟨rfl, hb⟩
  replace FA := FA.below hb
  replace EA := EA.below hb
  replace ER := ER.below hb
  replace LF := LF.below hb
  replace hB := hB.trans (hb.mono hB.size)
  have zz2 := hb.size
  have zh2 := hB.size
  clear hb
  clear R
  clear LF
  obtain ⟨k0, k1, k2, f0, f1, f2⟩ := EA.three
  obtain ⟨k3, k4, f3, f4⟩ := ER.two
  have hcc := ER.two
  have r0 := hcc.1
  have r1 := hcc.2.1
  clear hcc
  have qEA := EA.lt
  have qER := ER.lt
  have hs0 := Nat.le_refl w2.heap.size
  have hT := (((Turns.refl (w.heap.size + 1) w2).setCell 0 (.bool false)).setCell 1 (.slice none 0 0))
  replace FA := FA.beside ER (noWord2 (fun _ e => by cases e) (fun _ e => by cases e)) hT
  replace EA := EA.turns hT (by omega)
  replace ER : Box ((w2.setCell ⟨w.heap.size + 1, 0, none⟩ (.bool false)).setCell ⟨w.heap.size + 1, 1, none⟩ (.slice none 0 0)) (w.heap.size + 1) (.cells #[.bool false, .slice none 0 0] 25) := ⟨Nat.lt_of_lt_of_le ER.lt hT.below.size, (heap_setCell_same _ _ 1 _ _ _ (heap_setCell_same _ _ 0 _ _ _ ER.what))⟩
  replace hB := hB.trans (hT.below.mono (by omega))
  replace hs0 := Nat.le_trans hs0 hT.below.size
  clear hT
  go_wp2
  refine bodyPost_ret (v := .tuple #[.agg #[.bool false, .slice none 0 0], .int .i64 6]) (by simp [results, Tryz.f17, go_sem, r0, r1]) rfl ?_
  exact ⟨rfl, hB⟩
set_option maxRecDepth 100000 in
set_option maxHeartbeats 4000000 in
theorem copyr_any {lo : Nat} {a c : Option Addr} {ca cc : Nat} {xs ds : List Int} {w : World} (b : Bool) (FA : Fr lo w a ca xs c cc ds) (hl : xs.length ≤ 1000) (hl2 : ds.length ≤ 1000) :
    Calls Tryz.prog 6 #[.agg #[.bool b, .slice a xs.length ca, .slice c ds.length cc]] w fun e w' => ∃ (a' : Option Addr) (ca' : Nat) (c' : Option Addr) (cc' : Nat), e = .returned (.agg #[.bool b, .slice a' xs.length ca', .slice c' ds.length cc']) ∧ Fr w.heap.size w' a' ca' xs c' cc' ds ∧ Below w.heap.size w w' := by
  have hB := Below.refl w.heap.size w
  go_enter Tryz.func6, Tryz.ntmps6
  have hs0 := Nat.le_refl w.heap.size
  have hq := below_new w (.cells #[.bool b, .slice a xs.length ca, .slice c ds.length cc] 27)
  replace FA := FA.below hq
  have EA := Box.put (w := w) (k := (w.heap.size)) (.cells #[.bool b, .slice a xs.length ca, .slice c ds.length cc] 27) rfl
  replace hs0 := Nat.le_trans hs0 hq.size
  replace hB := hB.trans (hq.mono hB.size)
  clear hq
  have hq := below_new (w.alloc (.cells #[.bool b, .slice a xs.length ca, .slice c ds.length cc] 27)) (.cells #[.bool false, .slice none 0 0, .slice none 0 0] 27)
  replace FA := FA.below hq
  replace EA := EA.below hq
  have ER := Box.put (w := (w.alloc (.cells #[.bool b, .slice a xs.length ca, .slice c ds.length cc] 27))) (k := (w.heap.size + 1)) (.cells #[.bool false, .slice none 0 0, .slice none 0 0] 27) (by simp)
  replace hs0 := Nat.le_trans hs0 hq.size
  replace hB := hB.trans (hq.mono hB.size)
  clear hq
  go_wp2_with fail
  obtain ⟨u1, hname⟩ := nm hB
  rw [hname] at hs0 hB FA EA ER ⊢
  have zh1 := hB.size
  have zs1 := hs0
  clear hname hs0
  replace FA := FA.drew
  have qEA := EA.lt
  replace EA := EA.drew
  have qER := ER.lt
  replace ER := ER.drew
  refine wp_yields 7 [.is (.pointer (some ⟨w.heap.size, 0, none⟩)), .is (.agg #[.bool b, .slice a xs.length ca]), (Yield.copyw u1.heap.size b xs), .is (.pointer (some ⟨w.heap.size, 2, none⟩)), .is (.slice c ds.length cc), (Yield.copyn u1.heap.size ds), .is (.pointer (some ⟨w.heap.size, 0, none⟩))] (by kernel_rfl) (by kernel_rfl) (lt_cons ?_ (lt_cons ?_ (lt_cons ?_ (lt_cons ?_ (lt_cons ?_ (lt_cons ?_ (lt_cons ?_ lt_nil))))))) ?_
  case refine_1 =>
    refine OpDoes.mk rfl ?_
    intro vs V hV hd K hK
    simp only [laidIn, lz1, lz2, lz3, lz4, lz5, lz6, if_true, Act.put, lz7, lz8, lz9] at hK ⊢
    go_simp
    exact hK.out _ _ (Below.refl _ _) rfl (not_fresh rfl)
  case refine_2 =>
    refine OpDoes.mk rfl ?_
    intro vs V hV hd K hK
    have d4 : vs 4 = .slice c ds.length cc := hd 4 (by decide) (by kernel_rfl)
    simp only [laidIn, lz1, lz2, lz3, lz4, lz5, lz6, if_true, Act.put, lz7, lz8, lz9] at hK ⊢
    simp only [d4] at hK ⊢
    go_simp
    go_at_call 29
    refine (copy_any (FA.down.below hV) (by omega)).mono ?_
    rintro e V' ⟨a2, c2, rfl, S2, hb⟩
    exact hK.out _ _ hb ⟨_, _, rfl, S2.mono hV.size⟩ (not_fresh rfl)
  case refine_3 =>
    refine OpDoes.mk rfl ?_
    intro vs V hV hd K hK
    have d3 : vs 3 = .pointer (some ⟨w.heap.size, 2, none⟩) := hd 3 (by decide) (by kernel_rfl)
    have hcc := (EA.below hV).three
    have k0 := hcc.1
    have k1 := hcc.2.1
    have k2 := hcc.2.2.1
    clear hcc
    simp only [laidIn, lz1, lz2, lz3, lz4, lz5, lz6, if_true, Act.put, lz7, lz8, lz9] at hK ⊢
    simp only [d3] at hK ⊢
    go_simp
    exact hK.out _ _ (Below.refl _ _) rfl (not_fresh rfl)
  case refine_4 =>
    refine OpDoes.mk rfl ?_
    intro vs V hV hd K hK
    simp only [laidIn, lz1, lz2, lz3, lz4, lz5, lz6, if_true, Act.put, lz7, lz8, lz9] at hK ⊢
    go_simp
    exact hK.out _ _ (Below.refl _ _) rfl (not_fresh rfl)
  case refine_5 =>
    refine OpDoes.mk rfl ?_
    intro vs V hV hd K hK
    have d1 : vs 1 = .agg #[.bool b, .slice a xs.length ca] := hd 1 (by decide) (by kernel_rfl)
    simp only [laidIn, lz1, lz2, lz3, lz4, lz5, lz6, if_true, Act.put, lz7, lz8, lz9] at hK ⊢
    simp only [d1] at hK ⊢
    go_simp
    go_at_call 28
    refine (copyw_any b (FA.up.below hV) (by omega)).mono ?_
    rintro e V' ⟨a1, c1, rfl, S1, hb⟩
    exact hK.out _ _ hb ⟨_, _, rfl, S1.mono hV.size⟩ (not_fresh rfl)
  case refine_6 =>
    refine OpDoes.mk rfl ?_
    intro vs V hV hd K hK
    have d0 : vs 0 = .pointer (some ⟨w.heap.size, 0, none⟩) := hd 0 (by decide) (by kernel_rfl)
    have hcc := (EA.below hV).three
    have k0 := hcc.1
    have k1 := hcc.2.1
    have k2 := hcc.2.2.1
    clear hcc
    simp only [laidIn, lz1, lz2, lz3, lz4, lz5, lz6, if_true, Act.put, lz7, lz8, lz9] at hK ⊢
    simp only [d0] at hK ⊢
    go_simp
    exact hK.out _ _ (Below.refl _ _) rfl (not_fresh rfl)
  case refine_7 =>
    refine OpDoes.mk rfl ?_
    intro vs V hV hd K hK
    simp only [laidIn, lz1, lz2, lz4, lz5, lz6, if_true, Act.put, lz7, lz8, lz9] at hK ⊢
    go_simp
    exact hK.out _ _ (Below.refl _ _) rfl (not_fresh rfl)
  case refine_8 =>
    intro vs Y1 hV hR hne fuel
    have d0 : vs 0 = .pointer (some ⟨w.heap.size, 0, none⟩) := hR 0 (by decide)
    have d1 : vs 1 = .agg #[.bool b, .slice a xs.length ca] := hR 1 (by decide)
    have hh := fun (P : Prop) => Yield.copyw_elim P (show ((Yield.copyw u1.heap.size b xs) : Yield).At (vs 2) Y1 from hR 2 (by decide))
    refine hh _ ?_
    intro a1 c1 d2 S1
    clear hh
    have d3 : vs 3 = .pointer (some ⟨w.heap.size, 2, none⟩) := hR 3 (by decide)
    have d4 : vs 4 = .slice c ds.length cc := hR 4 (by decide)
    have hh := fun (P : Prop) => Yield.copyn_elim P (show ((Yield.copyn u1.heap.size ds) : Yield).At (vs 5) Y1 from hR 5 (by decide))
    refine hh _ ?_
    intro a2 c2 d5 S2
    clear hh
    have d6 : vs 6 = .pointer (some ⟨w.heap.size, 0, none⟩) := hR 6 (by decide)
    replace FA := FA.below hV
    replace EA := EA.below hV
    replace ER := ER.below hV
    have hr := hV
    simp only [laidIn, lz4, lz5, lz6, if_true, Act.put, lz7, lz8, lz9]
    simp only [d0, d1, d2, d3, d4, d5, d6]
    clear hR hne hV d0 d1 d2 d3 d4 d5 d6
    clear vs
    show wpAny _ _ _ _ (fuel + 3) _ _ _
    refine wpAny_all (rs := [7]) (by kernel_rfl) (by simp) (fun i hi => ?_)
    obtain rfl : i = 7 := by simpa using hi
    clear hi
    have hcc := EA.three
    have k0 := hcc.1
    have k1 := hcc.2.1
    have k2 := hcc.2.2.1
    have f0 := hcc.2.2.2.1
    have f1 := hcc.2.2.2.2.1
    have f2 := hcc.2.2.2.2.2
    clear hcc
    refine wpOp_step rfl (fun K hK => ?_)
    simp only [lz1, lz2, lz3]
    rw [if_pos (by rfl)]
    go_simp
    refine hK _ _ ?_
    clear hK k0 f0 k1 f1 k2 f2
    have hT := (((Turns.refl (w.heap.size) Y1).setCell 0 (.bool b)).setCell 1 (.slice a1 xs.length c1))
    replace FA := FA.beside EA (noWord3 (fun _ e => by cases e) (fun _ e => by cases e) (fun _ e => by cases e)) hT
    replace ER := ER.turns hT (by omega)
    replace S1 := S1.beside EA (noWord3 (fun _ e => by cases e) (fun _ e => by cases e) (fun _ e => by cases e)) hT
    replace S2 := S2.beside EA (noWord3 (fun _ e => by cases e) (fun _ e => by cases e) (fun _ e => by cases e)) hT
    replace EA : Box ((Y1.setCell ⟨w.heap.size, 0, none⟩ (.bool b)).setCell ⟨w.heap.size, 1, none⟩ (.slice a1 xs.length c1)) (w.heap.size) (.cells #[.bool b, .slice a1 xs.length c1, .slice c ds.length cc] 27) := ⟨Nat.lt_of_lt_of_le EA.lt hT.below.size, (heap_setCell_same _ _ 1 _ _ _ (heap_setCell_same _ _ 0 _ _ _ EA.what))⟩
    have hr7 := hT.below
    obtain ⟨X1, hX⟩ := nm hT.below
    rw [hX] at FA EA ER S1 S2 hr7 ⊢
    clear hX hT
    refine wpAny_all (rs := [8]) (by kernel_rfl) (by simp) (fun i hi => ?_)
    obtain rfl : i = 8 := by simpa using hi
    clear hi
    refine wpOp_step rfl (fun K hK => ?_)
    simp only [lz1, lz2, lz3]
    rw [if_pos (by rfl)]
    go_simp
    refine hK _ _ ?_
    clear hK
    refine wpAny_all (rs := [9]) (by kernel_rfl) (by simp) (fun i hi => ?_)
    obtain rfl : i = 9 := by simpa using hi
    clear hi
    have hcc := EA.three
    have k0 := hcc.1
    have k1 := hcc.2.1
    have k2 := hcc.2.2.1
    have f0 := hcc.2.2.2.1
    have f1 := hcc.2.2.2.2.1
    have f2 := hcc.2.2.2.2.2
    clear hcc
    refine wpOp_step rfl (fun K hK => ?_)
    simp only [lz1, lz2, lz3]
    rw [if_pos (by rfl)]
    go_simp
    refine hK _ _ ?_
    clear hK k0 f0 k1 f1 k2 f2
    have hT := ((Turns.refl (w.heap.size) X1).setCell 2 (.slice a2 ds.length c2))
    replace FA := FA.beside EA (noWord3 (fun _ e => by cases e) (fun _ e => by cases e) (fun _ e => by cases e)) hT
    replace ER := ER.turns hT (by omega)
    replace S1 := S1.beside EA (noWord3 (fun _ e => by cases e) (fun _ e => by cases e) (fun _ e => by cases e)) hT
    replace S2 := S2.beside EA (noWord3 (fun _ e => by cases e) (fun _ e => by cases e) (fun _ e => by cases e)) hT
    replace EA : Box (X1.setCell ⟨w.heap.size, 2, none⟩ (.slice a2 ds.length c2)) (w.heap.size) (.cells #[.bool b, .slice a1 xs.length c1, .slice a2 ds.length c2] 27) := ⟨Nat.lt_of_lt_of_le EA.lt hT.below.size, (heap_setCell_same _ _ 2 _ _ _ EA.what)⟩
    have hr9 := hT.below
    obtain ⟨X2, hX⟩ := nm hT.below
    rw [hX] at FA EA ER S1 S2 hr9 ⊢
    clear hX hT
    refine wpAny_done (by kernel_rfl) ?_ _
    replace hB := hB.trans ((Below.trans (Below.drew (Below.refl u1.heap.size u1)) hr).mono hB.size)
    replace hB := hB.trans (hr7.mono (by omega))
    replace hB := hB.trans (hr9.mono (by omega))
    have zz1_2 := hr.size
    have zi1 := hB.size
    have zy2_7 := hr7.size
    have zy2_9 := hr9.size
    clear hr hr7 hr9
    obtain ⟨k0, k1, k2, f0, f1, f2⟩ := EA.three
    obtain ⟨k3, k4, k5, f3, f4, f5⟩ := ER.three
    have hcc := ER.three
    have r0 := hcc.1
    have r1 := hcc.2.1
    have r2 := hcc.2.2.1
    clear hcc
    have qEA := EA.lt
    have qER := ER.lt
    have hs0 := Nat.le_refl X2.heap.size
    have hT := turns3 (w.heap.size + 1) X2 (.bool b) (.slice a1 xs.length c1) (.slice a2 ds.length c2)
    replace FA := FA.beside ER (noWord3 (fun _ e => by cases e) (fun _ e => by cases e) (fun _ e => by cases e)) hT
    replace EA := EA.turns hT (by omega)
    replace S1 := S1.beside ER (noWord3 (fun _ e => by cases e) (fun _ e => by cases e) (fun _ e => by cases e)) hT
    replace S2 := S2.beside ER (noWord3 (fun _ e => by cases e) (fun _ e => by cases e) (fun _ e => by cases e)) hT
    replace ER := Box.set3 (.bool b) (.slice a1 xs.length c1) (.slice a2 ds.length c2) ER
    replace hB := hB.trans (hT.below.mono (by omega))
    replace hs0 := Nat.le_trans hs0 hT.below.size
    clear hT
    go_wp2
    refine bodyPost_ret (v := .agg #[.bool b, .slice a1 xs.length c1, .slice a2 ds.length c2]) (by simp [results, Tryz.f6, go_sem, r0, r1, r2]) rfl ?_
    exact ⟨_, _, _, _, rfl, ⟨S1.mono (by omega), S2.mono (by omega)⟩, hB⟩
def Two (b : Bool) (xs ds : List Int) (g : Bool) (ys es : List Int) : Prop := formR b xs ds = 0 ∧ formR g ys es = 0
instance (b : Bool) (xs ds : List Int) (g : Bool) (ys es : List Int) : Decidable (Two b xs ds g ys es) := by unfold Two; exact inferInstance
def subS (b : Bool) (xs ds : List Int) (g : Bool) (ys es : List Int) : Except Int Rat := if Two b xs ds g ys es then .ok (ratL b xs ds - ratL g ys es) else .error 6
def divS (b : Bool) (xs ds : List Int) (g : Bool) (ys es : List Int) : Except Int Rat := if Two b xs ds g ys es then (if ys = [] then .error 5 else .ok (ratL b xs ds / ratL g ys es)) else .error 6
def powS (b : Bool) (xs ds : List Int) (N : Int) : Except Int Rat := if formR b xs ds = 0 then (if N < -10000 ∨ 10000 < N then .error 3 else if N < 0 ∧ xs = [] then .error 5 else .ok (ratL b xs ds ^ N)) else .error 6
def cmpS (b : Bool) (xs ds : List Int) (g : Bool) (ys es : List Int) : Int := if Two b xs ds g ys es then cmpR (ratL b xs ds) (ratL g ys es) else 0
def cmpE (b : Bool) (xs ds : List Int) (g : Bool) (ys es : List Int) : Int := if Two b xs ds g ys es then 0 else 6
section
variable {lo lo2 : Nat} {a c p r : Option Addr} {ca cc cp cr : Nat} {xs ds ys es : List Int} {w : World} (b g : Bool) (FA : Fr lo w a ca xs c cc ds) (FB : Fr lo2 w p cp ys r cr es) (hl : xs.length ≤ 5 ∧ ds.length ≤ 5) (hl2 : ys.length ≤ 5 ∧ es.length ≤ 5)
include FA FB hl hl2
theorem psub_all : Calls Tryz.prog 7 #[.agg #[.bool b, .slice a xs.length ca, .slice c ds.length cc], .agg #[.bool g, .slice p ys.length cp, .slice r es.length cr]] w fun e w' => AnsSaid (subS b xs ds g ys es) 11 w e w' := by
  by_cases h : Two b xs ds g ys es
  · exact (psub_ok b g FA FB (n := 5) (m := 5) hl hl2 (by omega) (by omega) h.1 h.2).mono fun e w' k => AnsSaid.of_fe k (by rw [subS, if_pos h])
  · exact (psub_no b g FA FB (n := 5) (m := 5) hl hl2 (by omega) (by omega) h).mono fun e w' k => AnsSaid.of_err k (by rw [subS, if_neg h])
theorem ksub_all : Calls Tryz.prog 8 #[.agg #[.bool b, .slice a xs.length ca, .slice c ds.length cc], .agg #[.bool g, .slice p ys.length cp, .slice r es.length cr]] w fun e w' => AnsSaid (subS b xs ds g ys es) 11 w e w' := by
  by_cases h : Two b xs ds g ys es
  · exact (ksub_ok b g FA FB ⟨(formR_low FA.up.words FA.down.words).1 h.1, rfl, hl.1, hl.2⟩ ⟨(formR_low FB.up.words FB.down.words).1 h.2, rfl, hl2.1, hl2.2⟩ (by omega)).mono fun e w' k => AnsSaid.of_fe k (by rw [subS, if_pos h])
  · exact (ksub_no b g FA FB (by omega) (by omega) h).mono fun e w' k => AnsSaid.of_err k (by rw [subS, if_neg h])
theorem pdiv_all : Calls Tryz.prog 10 #[.agg #[.bool b, .slice a xs.length ca, .slice c ds.length cc], .agg #[.bool g, .slice p ys.length cp, .slice r es.length cr]] w fun e w' => AnsSaid (divS b xs ds g ys es) 11 w e w' := by
  by_cases h : Two b xs ds g ys es
  · have IB : Is g ys es (ratL g ys es) 5 := ⟨(formR_low FB.up.words FB.down.words).1 h.2, rfl, hl2.1, hl2.2⟩
    by_cases hy : ys = []
    · exact (pdiv_zero b g FA FB (n := 5) (m := 5) hl hl2 (by omega) (by omega) h.1 h.2 ((IB.zero_iff FB.up.words).2 hy)).mono fun e w' k => AnsSaid.of_err k (by rw [divS, if_pos h, if_pos hy])
    · exact (pdiv_ok b g FA FB (n := 5) (m := 5) hl hl2 (by omega) (by omega) h.1 h.2 (fun h0 => hy ((IB.zero_iff FB.up.words).1 h0))).mono fun e w' k => AnsSaid.of_fe k (by rw [divS, if_pos h, if_neg hy])
  · exact (pdiv_no b g FA FB (n := 5) (m := 5) hl hl2 (by omega) (by omega) h).mono fun e w' k => AnsSaid.of_err k (by rw [divS, if_neg h])
theorem kdiv_all : Calls Tryz.prog 11 #[.agg #[.bool b, .slice a xs.length ca, .slice c ds.length cc], .agg #[.bool g, .slice p ys.length cp, .slice r es.length cr]] w fun e w' => AnsSaid (divS b xs ds g ys es) 10 w e w' := by
  by_cases h : Two b xs ds g ys es
  · have IA : Is b xs ds (ratL b xs ds) 5 := ⟨(formR_low FA.up.words FA.down.words).1 h.1, rfl, hl.1, hl.2⟩
    have IB : Is g ys es (ratL g ys es) 5 := ⟨(formR_low FB.up.words FB.down.words).1 h.2, rfl, hl2.1, hl2.2⟩
    by_cases hy : ys = []
    · exact (kdiv_zero b g FA FB IA IB hy (by omega)).mono fun e w' k => AnsSaid.of_err k (by rw [divS, if_pos h, if_pos hy])
    · exact (kdiv_ok b g FA FB IA IB hy (by omega)).mono fun e w' k => AnsSaid.of_fe k (by rw [divS, if_pos h, if_neg hy])
  · exact (kdiv_no b g FA FB (by omega) (by omega) h).mono fun e w' k => AnsSaid.of_err k (by rw [divS, if_neg h])
theorem pcmp_all : Calls Tryz.prog 14 #[.agg #[.bool b, .slice a xs.length ca, .slice c ds.length cc], .agg #[.bool g, .slice p ys.length cp, .slice r es.length cr]] w fun e w' => e = .returned (.tuple #[.int .i64 (cmpS b xs ds g ys es), .int .i64 (cmpE b xs ds g ys es)]) ∧ Below w.heap.size w w' := by
  by_cases h : Two b xs ds g ys es
  · rw [cmpS, cmpE, if_pos h, if_pos h]
    exact pcmp_ok b g FA FB ⟨(formR_low FA.up.words FA.down.words).1 h.1, rfl, hl.1, hl.2⟩ ⟨(formR_low FB.up.words FB.down.words).1 h.2, rfl, hl2.1, hl2.2⟩ (by omega)
  · rw [cmpS, cmpE, if_neg h, if_neg h]
    exact pcmp_no b g FA FB (by omega) (by omega) h
theorem kcmp_all : Calls Tryz.prog 15 #[.agg #[.bool b, .slice a xs.length ca, .slice c ds.length cc], .agg #[.bool g, .slice p ys.length cp, .slice r es.length cr]] w fun e w' => e = .returned (.tuple #[.int .i64 (cmpS b xs ds g ys es), .int .i64 (cmpE b xs ds g ys es)]) ∧ Below w.heap.size w w' := by
  by_cases h : Two b xs ds g ys es
  · rw [cmpS, cmpE, if_pos h, if_pos h]
    exact kcmp_ok b g FA FB ⟨(formR_low FA.up.words FA.down.words).1 h.1, rfl, hl.1, hl.2⟩ ⟨(formR_low FB.up.words FB.down.words).1 h.2, rfl, hl2.1, hl2.2⟩ (by omega)
  · rw [cmpS, cmpE, if_neg h, if_neg h]
    exact kcmp_no b g FA FB (by omega) (by omega) h
end
theorem formR_six {b : Bool} {xs ds : List Int} (h : ¬ formR b xs ds = 0) : Hid (formR b xs ds = 6) := by
  rcases formR_or b xs ds with k | k
  · exact absurd k h
  · exact k
theorem inv_powQ (q : Rat) (k : Nat) : q⁻¹ ^ k = q ^ (-(k : Int)) := by
  have h : q⁻¹ ^ k = (q ^ k)⁻¹ := by
    induction k with
    | zero => rw [Rat.pow_zero, Rat.pow_zero]; decide +kernel
    | succ k ih => rw [Rat.pow_succ, Rat.pow_succ, ih, Rat.inv_mul_rev, Rat.mul_comm]
  rw [h, Rat.zpow_neg, Rat.zpow_natCast]
section
variable {lo : Nat} {a c : Option Addr} {ca cc : Nat} {xs ds : List Int} {w : World} (b : Bool) (FA : Fr lo w a ca xs c cc ds) (hl : xs.length ≤ 5 ∧ ds.length ≤ 5)
include FA hl
theorem ppower_all (N : Int) (hN : (-12 ≤ N ∧ N ≤ 12) ∨ N < -10000 ∨ 10000 < N) : Calls Tryz.prog 12 #[.agg #[.bool b, .slice a xs.length ca, .slice c ds.length cc], .int .i64 N] w fun e w' => AnsSaid (powS b xs ds N) 61 w e w' := by
  by_cases h : formR b xs ds = 0
  · have IA : Is b xs ds (ratL b xs ds) 5 := ⟨(formR_low FA.up.words FA.down.words).1 h, rfl, hl.1, hl.2⟩
    by_cases h1 : N < -10000 ∨ 10000 < N
    · exact (ppower_range b FA (by omega) N h h1).mono fun e w' k => AnsSaid.of_err k (by rw [powS, if_pos h, if_pos h1])
    · by_cases h2 : N < 0 ∧ xs = []
      · exact (ppower_zero b FA (by omega) N h (by omega) h2.2).mono fun e w' k => AnsSaid.of_err k (by rw [powS, if_pos h, if_neg h1, if_pos h2])
      · have hs : powS b xs ds N = .ok (ratL b xs ds ^ N) := by rw [powS, if_pos h, if_neg h1, if_neg h2]
        rcases Int.lt_or_le N 0 with h3 | h3
        · obtain ⟨k, hk⟩ := Int.eq_ofNat_of_zero_le (show 0 ≤ -N by omega)
          obtain rfl : N = -(k : Int) := by omega
          refine (ppower_neg b FA IA (by omega) k (by omega) (by omega) (fun h0 => h2 ⟨h3, h0⟩)).mono ?_
          rintro e w' ⟨b', a', ca', ts, c', cc', es, he, F, P, I, hb⟩
          exact AnsSaid.of_fe ⟨b', a', ca', ts, c', cc', es, he, F, P, (I.mono (by omega)).to (inv_powQ _ _), hb⟩ hs
        · obtain ⟨k, rfl⟩ := Int.eq_ofNat_of_zero_le h3
          refine (ppower_pos b FA IA (by omega) k (by omega)).mono ?_
          rintro e w' ⟨b', a', ca', ts, c', cc', es, he, F, P, I, hb⟩
          exact AnsSaid.of_fe ⟨b', a', ca', ts, c', cc', es, he, F, P, (I.mono (by omega)).to (Rat.zpow_natCast _ _).symm, hb⟩ hs
  · exact (ppower_form b FA (by omega) N (formR_six h)).mono fun e w' k => AnsSaid.of_err k (by rw [powS, if_neg h])
theorem kpower_all (N : Int) (hN : (-12 ≤ N ∧ N ≤ 12) ∨ N < -10000 ∨ 10000 < N) : Calls Tryz.prog 13 #[.agg #[.bool b, .slice a xs.length ca, .slice c ds.length cc], .int .i64 N] w fun e w' => AnsSaid (powS b xs ds N) 61 w e w' := by
  by_cases h : formR b xs ds = 0
  · have IA : Is b xs ds (ratL b xs ds) 5 := ⟨(formR_low FA.up.words FA.down.words).1 h, rfl, hl.1, hl.2⟩
    by_cases h1 : N < -10000 ∨ 10000 < N
    · exact (kpower_range b FA (by omega) N h h1).mono fun e w' k => AnsSaid.of_err k (by rw [powS, if_pos h, if_pos h1])
    · by_cases h2 : N < 0 ∧ xs = []
      · exact (kpower_zero b FA (by omega) N h (by omega) h2.2).mono fun e w' k => AnsSaid.of_err k (by rw [powS, if_pos h, if_neg h1, if_pos h2])
      · have hs : powS b xs ds N = .ok (ratL b xs ds ^ N) := by rw [powS, if_pos h, if_neg h1, if_neg h2]
        rcases Int.lt_or_le N 0 with h3 | h3
        · obtain ⟨k, hk⟩ := Int.eq_ofNat_of_zero_le (show 0 ≤ -N by omega)
          obtain rfl : N = -(k : Int) := by omega
          refine (kpower_neg b FA IA (by omega) k (by omega) (by omega) (fun h0 => h2 ⟨h3, h0⟩)).mono ?_
          rintro e w' ⟨b', a', ca', ts, c', cc', es, he, F, P, I, hb⟩
          exact AnsSaid.of_fe ⟨b', a', ca', ts, c', cc', es, he, F, P, (I.mono (by omega)).to (inv_powQ _ _), hb⟩ hs
        · obtain ⟨k, rfl⟩ := Int.eq_ofNat_of_zero_le h3
          refine (kpower_pos b FA IA (by omega) k (by omega)).mono ?_
          rintro e w' ⟨b', a', ca', ts, c', cc', es, he, F, P, I, hb⟩
          exact AnsSaid.of_fe ⟨b', a', ca', ts, c', cc', es, he, F, P, (I.mono (by omega)).to (Rat.zpow_natCast _ _).symm, hb⟩ hs
  · exact (kpower_form b FA (by omega) N (formR_six h)).mono fun e w' k => AnsSaid.of_err k (by rw [powS, if_neg h])
def RndSaid (b : Bool) (xs ds : List Int) (w : World) (e : Ending) (w' : World) : Prop := ∃ (g : Bool) (a' : Option Addr) (c' : Nat) (z : List Int), e = .returned (.tuple #[.agg #[.bool g, .slice a' z.length c'], .int .i64 (formR b xs ds)]) ∧ Seg w.heap.size w' (.slice a' z.length c') z ∧ Canon g z ∧ Hid (sgn g (val z) = if formR b xs ds = 0 then sgn b (roundN (val xs) (val ds)) else 0) ∧ z.length ≤ 7 ∧ Below w.heap.size w w'
theorem pround_all : Calls Tryz.prog 16 #[.agg #[.bool b, .slice a xs.length ca, .slice c ds.length cc]] w fun e w' => RndSaid b xs ds w e w' := by
  by_cases h : formR b xs ds = 0
  · refine (pround_ok b FA ⟨(formR_low FA.up.words FA.down.words).1 h, rfl, hl.1, hl.2⟩ (by omega)).mono ?_
    rintro e w' ⟨g, a', c', z, he, S, N, V, l, hb⟩
    exact ⟨g, a', c', z, by rw [h]; exact he, S, N, by rw [Hid, if_pos h]; exact V, l, hb⟩
  · have h6 := formR_six h
    refine (pround_no b FA (by omega) h6).mono ?_
    rintro e w' ⟨he, hb⟩
    exact ⟨false, none, 0, [], by rw [h6.out]; exact he, Seg.nil _ _, ⟨norm_nil, fun h => by cases h⟩, by rw [Hid, if_neg h]; rfl, by simp, hb⟩
theorem kround_all : Calls Tryz.prog 17 #[.agg #[.bool b, .slice a xs.length ca, .slice c ds.length cc]] w fun e w' => RndSaid b xs ds w e w' := by
  by_cases h : formR b xs ds = 0
  · refine (kround_ok b FA ⟨(formR_low FA.up.words FA.down.words).1 h, rfl, hl.1, hl.2⟩ (by omega)).mono ?_
    rintro e w' ⟨g, a', c', z, he, S, N, V, l, hb⟩
    exact ⟨g, a', c', z, by rw [h]; exact he, S, N, by rw [Hid, if_pos h]; exact V, l, hb⟩
  · have h6 := formR_six h
    refine (kround_no b FA (by omega) h6).mono ?_
    rintro e w' ⟨he, hb⟩
    exact ⟨false, none, 0, [], by rw [h6.out]; exact he, Seg.nil _ _, ⟨norm_nil, fun h => by cases h⟩, by rw [Hid, if_neg h]; rfl, by simp, hb⟩
end
set_option maxRecDepth 100000 in
set_option maxHeartbeats 4000000 in
theorem lrawake_any (w : World) : Calls Tryz.prog 5 #[] w fun e w' => e = .returned (.bool true) ∧ Below w.heap.size w w' := by
  have hB := Below.refl w.heap.size w
  go_enter Tryz.func5, Tryz.ntmps5
  go_wp2_with fail
  refine (ppair_neg 6 (-4) (by decide) (by decide) (by decide) _).mono ?_
  rintro e w1 ⟨g1, a1, c1, x1, e1, t1, y1, rfl, F1, P1, I1, hb⟩
  replace I1 : Is g1 x1 y1 (Rat.divInt (-3) 2) (1) := I1.to (by decide +kernel)
  replace hB := hB.trans (hb.mono hB.size)
  have zz1 := hb.size
  have zh1 := hB.size
  clear hb
  have hA := Below.refl w1.heap.size w1
  have hq := below_new w1 (.cells #[.bool g1, .slice a1 x1.length c1, .slice e1 y1.length t1] 27)
  replace F1 := F1.below hq
  have E1 := Box.put (w := w1) (k := (w1.heap.size)) (.cells #[.bool g1, .slice a1 x1.length c1, .slice e1 y1.length t1] 27) rfl
  replace hA := hA.trans (hq.mono hA.size)
  replace hB := hB.trans (hq.mono hB.size)
  clear hq
  clear hA
  go_wp2_with fail
  obtain ⟨u2, hname⟩ := nm hB
  rw [hname] at hB F1 E1 ⊢
  have zh2 := hB.size
  clear hname
  refine (lrof_any (1) 2 (by decide) (by decide) _).mono ?_
  rintro e w3 ⟨g2, a2, c2, x2, e2, t2, y2, rfl, F2, P2, N2, M2, V2, U2, b2, B2, hb⟩
  have I2 := of_is N2 M2 V2 U2 b2 B2 (by decide) (by decide)
  clear P2
  replace F1 := F1.below hb
  replace E1 := E1.below hb
  replace hB := hB.trans (hb.mono hB.size)
  have zz3 := hb.size
  have zh3 := hB.size
  clear hb
  go_wp2_with fail
  refine (lrof_any (1) 3 (by decide) (by decide) _).mono ?_
  rintro e w4 ⟨g3, a3, c3, x3, e3, t3, y3, rfl, F3, P3, N3, M3, V3, U3, b3, B3, hb⟩
  have I3 := of_is N3 M3 V3 U3 b3 B3 (by decide) (by decide)
  clear P3
  replace F1 := F1.below hb
  replace E1 := E1.below hb
  replace F2 := F2.below hb
  replace hB := hB.trans (hb.mono hB.size)
  have zz4 := hb.size
  have zh4 := hB.size
  clear hb
  go_wp2_with fail
  refine (lrof_any (1) 6 (by decide) (by decide) _).mono ?_
  rintro e w5 ⟨g4, a4, c4, x4, e4, t4, y4, rfl, F4, P4, N4, M4, V4, U4, b4, B4, hb⟩
  have I4 := of_is N4 M4 V4 U4 b4 B4 (by decide) (by decide)
  clear P4
  replace F1 := F1.below hb
  replace E1 := E1.below hb
  replace F2 := F2.below hb
  replace F3 := F3.below hb
  replace hB := hB.trans (hb.mono hB.size)
  have zz5 := hb.size
  have zh5 := hB.size
  clear hb
  have qE1 := E1.lt
  have hA := Below.refl w5.heap.size w5
  have hq := below_new w5 (.cells #[.bool g2, .slice a2 x2.length c2, .slice e2 y2.length t2, .bool g3, .slice a3 x3.length c3, .slice e3 y3.length t3, .bool g4, .slice a4 x4.length c4, .slice e4 y4.length t4] 27)
  replace F1 := F1.below hq
  replace E1 := E1.below hq
  replace F2 := F2.below hq
  replace F3 := F3.below hq
  replace F4 := F4.below hq
  have L5 := Box.put (w := w5) (k := (w5.heap.size)) (.cells #[.bool g2, .slice a2 x2.length c2, .slice e2 y2.length t2, .bool g3, .slice a3 x3.length c3, .slice e3 y3.length t3, .bool g4, .slice a4 x4.length c4, .slice e4 y4.length t4] 27) rfl
  replace hA := hA.trans (hq.mono hA.size)
  replace hB := hB.trans (hq.mono hB.size)
  clear hq
  clear hA
  go_wp2_with fail
  obtain ⟨u6, hname⟩ := nm hB
  rw [hname] at hB F1 E1 F2 F3 F4 L5 ⊢
  have zh6 := hB.size
  clear hname
  have R := row_box (rs := [⟨g2, a2, c2, x2, e2, t2, y2⟩, ⟨g3, a3, c3, x3, e3, t3, y3⟩, ⟨g4, a4, c4, x4, e4, t4, y4⟩]) (k := w5.heap.size) L5 (fun r hr => by
      simp only [List.mem_cons, List.not_mem_nil, or_false] at hr
      rcases hr with rfl | rfl | rfl
      · exact F2.mono (Nat.zero_le _)
      · exact F3.mono (Nat.zero_le _)
      · exact F4.mono (Nat.zero_le _))
  have hlen : ∀ r ∈ ([⟨g2, a2, c2, x2, e2, t2, y2⟩, ⟨g3, a3, c3, x3, e3, t3, y3⟩, ⟨g4, a4, c4, x4, e4, t4, y4⟩] : List RV), r.xs.length ≤ 1 ∧ r.ds.length ≤ 1 := fun r hr => by
      simp only [List.mem_cons, List.not_mem_nil, or_false] at hr
      rcases hr with rfl | rfl | rfl
      · exact ⟨Nat.le_trans I2.lu (by decide), Nat.le_trans I2.ld (by decide)⟩
      · exact ⟨Nat.le_trans I3.lu (by decide), Nat.le_trans I3.ld (by decide)⟩
      · exact ⟨Nat.le_trans I4.lu (by decide), Nat.le_trans I4.ld (by decide)⟩
  have hg : ∀ r ∈ ([⟨g2, a2, c2, x2, e2, t2, y2⟩, ⟨g3, a3, c3, x3, e3, t3, y3⟩, ⟨g4, a4, c4, x4, e4, t4, y4⟩] : List RV), formR r.b r.xs r.ds = 0 := fun r hr => by
      simp only [List.mem_cons, List.not_mem_nil, or_false] at hr
      rcases hr with rfl | rfl | rfl
      · exact I2.good F2.up.words F2.down.words
      · exact I3.good F3.up.words F3.down.words
      · exact I4.good F4.up.words F4.down.words
  refine (padd_ok (cap := 3) R (by simp) hlen (by omega) hg).mono ?_
  rintro e w7 ⟨g6, a6, c6, x6, e6, t6, y6, rfl, F6, P6, I6, hb⟩
  replace I6 : Is g6 x6 y6 (Rat.divInt 1 1) (7) := (I6.mono (by simp)).to (by simp only [sumQ, RV.q, List.foldl, I2.rat, I3.rat, I4.rat]; decide +kernel)
  replace F1 := F1.below hb
  replace E1 := E1.below hb
  replace F2 := F2.below hb
  replace F3 := F3.below hb
  replace F4 := F4.below hb
  replace L5 := L5.below hb
  replace hB := hB.trans (hb.mono hB.size)
  have zz7 := hb.size
  have zh7 := hB.size
  clear hb
  clear R hlen hg
  clear L5
  have qE1 := E1.lt
  have hA := Below.refl w7.heap.size w7
  have hq := below_new w7 (.cells #[.bool g6, .slice a6 x6.length c6, .slice e6 y6.length t6] 27)
  replace F1 := F1.below hq
  replace E1 := E1.below hq
  replace F2 := F2.below hq
  replace F3 := F3.below hq
  replace F4 := F4.below hq
  replace F6 := F6.below hq
  have E6 := Box.put (w := w7) (k := (w7.heap.size)) (.cells #[.bool g6, .slice a6 x6.length c6, .slice e6 y6.length t6] 27) rfl
  replace hA := hA.trans (hq.mono hA.size)
  replace hB := hB.trans (hq.mono hB.size)
  clear hq
  clear hA
  go_wp2_with fail
  obtain ⟨u8, hname⟩ := nm hB
  rw [hname] at hB F1 E1 F2 F3 F4 F6 E6 ⊢
  have zh8 := hB.size
  clear hname
  refine (lrof_any (2) 3 (by decide) (by decide) _).mono ?_
  rintro e w9 ⟨g7, a7, c7, x7, e7, t7, y7, rfl, F7, P7, N7, M7, V7, U7, b7, B7, hb⟩
  have I7 := of_is N7 M7 V7 U7 b7 B7 (by decide) (by decide)
  clear P7
  replace F1 := F1.below hb
  replace E1 := E1.below hb
  replace F2 := F2.below hb
  replace F3 := F3.below hb
  replace F4 := F4.below hb
  replace F6 := F6.below hb
  replace E6 := E6.below hb
  replace hB := hB.trans (hb.mono hB.size)
  have zz9 := hb.size
  have zh9 := hB.size
  clear hb
  go_wp2_with fail
  refine (lrof_any (3) 4 (by decide) (by decide) _).mono ?_
  rintro e w10 ⟨g8, a8, c8, x8, e8, t8, y8, rfl, F8, P8, N8, M8, V8, U8, b8, B8, hb⟩
  have I8 := of_is N8 M8 V8 U8 b8 B8 (by decide) (by decide)
  clear P8
  replace F1 := F1.below hb
  replace E1 := E1.below hb
  replace F2 := F2.below hb
  replace F3 := F3.below hb
  replace F4 := F4.below hb
  replace F6 := F6.below hb
  replace E6 := E6.below hb
  replace F7 := F7.below hb
  replace hB := hB.trans (hb.mono hB.size)
  have zz10 := hb.size
  have zh10 := hB.size
  clear hb
  clear F2 F3 F4
  have qE1 := E1.lt
  have qE6 := E6.lt
  have hA := Below.refl w10.heap.size w10
  have hq := below_new w10 (.cells #[.bool g7, .slice a7 x7.length c7, .slice e7 y7.length t7, .bool g8, .slice a8 x8.length c8, .slice e8 y8.length t8] 27)
  replace F1 := F1.below hq
  replace E1 := E1.below hq
  replace F6 := F6.below hq
  replace E6 := E6.below hq
  replace F7 := F7.below hq
  replace F8 := F8.below hq
  have L9 := Box.put (w := w10) (k := (w10.heap.size)) (.cells #[.bool g7, .slice a7 x7.length c7, .slice e7 y7.length t7, .bool g8, .slice a8 x8.length c8, .slice e8 y8.length t8] 27) rfl
  replace hA := hA.trans (hq.mono hA.size)
  replace hB := hB.trans (hq.mono hB.size)
  clear hq
  clear hA
  go_wp2_with fail
  obtain ⟨u11, hname⟩ := nm hB
  rw [hname] at hB F1 E1 F6 E6 F7 F8 L9 ⊢
  have zh11 := hB.size
  clear hname
  have R := row_box (rs := [⟨g7, a7, c7, x7, e7, t7, y7⟩, ⟨g8, a8, c8, x8, e8, t8, y8⟩]) (k := w10.heap.size) L9 (fun r hr => by
      simp only [List.mem_cons, List.not_mem_nil, or_false] at hr
      rcases hr with rfl | rfl
      · exact F7.mono (Nat.zero_le _)
      · exact F8.mono (Nat.zero_le _))
  have hlen : ∀ r ∈ ([⟨g7, a7, c7, x7, e7, t7, y7⟩, ⟨g8, a8, c8, x8, e8, t8, y8⟩] : List RV), r.xs.length ≤ 1 ∧ r.ds.length ≤ 1 := fun r hr => by
      simp only [List.mem_cons, List.not_mem_nil, or_false] at hr
      rcases hr with rfl | rfl
      · exact ⟨Nat.le_trans I7.lu (by decide), Nat.le_trans I7.ld (by decide)⟩
      · exact ⟨Nat.le_trans I8.lu (by decide), Nat.le_trans I8.ld (by decide)⟩
  have hg : ∀ r ∈ ([⟨g7, a7, c7, x7, e7, t7, y7⟩, ⟨g8, a8, c8, x8, e8, t8, y8⟩] : List RV), formR r.b r.xs r.ds = 0 := fun r hr => by
      simp only [List.mem_cons, List.not_mem_nil, or_false] at hr
      rcases hr with rfl | rfl
      · exact I7.good F7.up.words F7.down.words
      · exact I8.good F8.up.words F8.down.words
  refine (pmul_ok (cap := 2) R (by simp) hlen (by omega) hg).mono ?_
  rintro e w12 ⟨g10, a10, c10, x10, e10, t10, y10, rfl, F10, P10, I10, hb⟩
  replace I10 : Is g10 x10 y10 (Rat.divInt 1 2) (5) := (I10.mono (by simp)).to (by simp only [mulQ, RV.q, List.foldl, I7.rat, I8.rat]; decide +kernel)
  replace F1 := F1.below hb
  replace E1 := E1.below hb
  replace F6 := F6.below hb
  replace E6 := E6.below hb
  replace F7 := F7.below hb
  replace F8 := F8.below hb
  replace L9 := L9.below hb
  replace hB := hB.trans (hb.mono hB.size)
  have zz12 := hb.size
  have zh12 := hB.size
  clear hb
  clear R hlen hg
  clear L9
  obtain ⟨k0, k1, k2, f0, f1, f2⟩ := E1.three
  have qE1 := E1.lt
  have qE6 := E6.lt
  have hA := Below.refl w12.heap.size w12
  have hq := below_new w12 (.cells #[.bool g10, .slice a10 x10.length c10, .slice e10 y10.length t10] 27)
  replace F1 := F1.below hq
  replace E1 := E1.below hq
  replace F6 := F6.below hq
  replace E6 := E6.below hq
  replace F7 := F7.below hq
  replace F8 := F8.below hq
  replace F10 := F10.below hq
  have E10 := Box.put (w := w12) (k := (w12.heap.size)) (.cells #[.bool g10, .slice a10 x10.length c10, .slice e10 y10.length t10] 27) rfl
  replace hA := hA.trans (hq.mono hA.size)
  replace hB := hB.trans (hq.mono hB.size)
  clear hq
  clear hA
  go_wp2_with fail
  clear k0 k1 k2 f0 f1 f2
  obtain ⟨u13, hname⟩ := nm hB
  rw [hname] at hB F1 E1 F6 E6 F7 F8 F10 E10 ⊢
  have zh13 := hB.size
  clear hname
  refine (lris_yes g1 F1 (-3) 2 (by decide) (by decide) (by decide) I1 (by decide)).mono ?_
  rintro e w14 ⟨rfl, hb⟩
  replace F1 := F1.below hb
  replace E1 := E1.below hb
  replace F6 := F6.below hb
  replace E6 := E6.below hb
  replace F7 := F7.below hb
  replace F8 := F8.below hb
  replace F10 := F10.below hb
  replace E10 := E10.below hb
  replace hB := hB.trans (hb.mono hB.size)
  have zz14 := hb.size
  have zh14 := hB.size
  clear hb
  clear E1 F1
  clear F7 F8
  obtain ⟨k0, k1, k2, f0, f1, f2⟩ := E6.three
  go_wp2_with fail
  clear k0 k1 k2 f0 f1 f2
  refine (lris_yes g6 F6 (1) 1 (by decide) (by decide) (by decide) I6 (by decide)).mono ?_
  rintro e w15 ⟨rfl, hb⟩
  replace F6 := F6.below hb
  replace E6 := E6.below hb
  replace F10 := F10.below hb
  replace E10 := E10.below hb
  replace hB := hB.trans (hb.mono hB.size)
  have zz15 := hb.size
  have zh15 := hB.size
  clear hb
  clear E6 F6
  obtain ⟨k0, k1, k2, f0, f1, f2⟩ := E10.three
  go_wp2_with fail
  clear k0 k1 k2 f0 f1 f2
  refine (lris_yes g10 F10 (1) 2 (by decide) (by decide) (by decide) I10 (by decide)).mono ?_
  rintro e w16 ⟨rfl, hb⟩
  replace F10 := F10.below hb
  replace E10 := E10.below hb
  replace hB := hB.trans (hb.mono hB.size)
  have zz16 := hb.size
  have zh16 := hB.size
  clear hb
  clear E10 F10
  go_wp2_with fail
  refine (lrof_any (2) 4 (by decide) (by decide) _).mono ?_
  rintro e w17 ⟨g11, a11, c11, x11, e11, t11, y11, rfl, F11, P11, N11, M11, V11, U11, b11, B11, hb⟩
  have I11 := of_none F11.up.words F11.down.words V11 U11 (by decide)
  clear P11
  replace hB := hB.trans (hb.mono hB.size)
  have zz17 := hb.size
  have zh17 := hB.size
  clear hb
  go_wp2_with fail
  have hk := pcheck_any g11 F11 (by omega) (by omega)
  rw [I11] at hk
  refine (hk).mono ?_
  rintro e w18 ⟨rfl, hb⟩
  replace F11 := F11.below hb
  replace hB := hB.trans (hb.mono hB.size)
  have zz18 := hb.size
  have zh18 := hB.size
  clear hb
  clear hk
  go_wp2
  go_ret
  exact ⟨rfl, hB⟩
def Yield.copyr (lo : Nat) (b : Bool) (xs ds : List Int) : Yield := .rel (fun v W => ∃ (a : Option Addr) (ca : Nat) (c : Option Addr) (cc : Nat), v = .agg #[.bool b, .slice a xs.length ca, .slice c ds.length cc] ∧ Fr lo W a ca xs c cc ds)
  (fun _ _ _ hb ⟨a, ca, c, cc, e, s⟩ => ⟨a, ca, c, cc, e, s.below hb⟩)
theorem Yield.copyr_elim {lo : Nat} {b : Bool} {xs ds : List Int} {v : Value} {W : World} (P : Prop) (h : (Yield.copyr lo b xs ds).At v W) (k : ∀ (a : Option Addr) (ca : Nat) (c : Option Addr) (cc : Nat), v = .agg #[.bool b, .slice a xs.length ca, .slice c ds.length cc] → Fr lo W a ca xs c cc ds → P) : P := by
  obtain ⟨a, ca, c, cc, h1, h2⟩ := h; exact k a ca c cc h1 h2
theorem overn_stay {lo : Nat} {a : Option Addr} {c : Nat} {z : List Int} {w : World} (h : Seg lo w (.slice a z.length c) z) (hl : z.length ≤ 10000) : Calls Tryz.prog 19 #[.slice a z.length c] w fun e w' => e = .returned (.tuple #[]) ∧ Below lo w w' ∧ BoxesStay w w' := by
  refine (over_ot h (by omega)).mono ?_
  rintro e w' ⟨he, ho⟩
  exact ⟨he, ho.below, fun k cs t nw E => h.offBox E nw ho⟩
set_option maxRecDepth 100000 in
set_option maxHeartbeats 4000000 in
theorem lrreckons_long {a1 e1 : Option Addr} {c1 t1 : Nat} {x1 y1 : List Int} {a2 e2 : Option Addr} {c2 t2 : Nat} {x2 y2 : List Int} {w : World} (g1 : Bool) (F1 : Fr 0 w a1 c1 x1 e1 t1 y1) (g2 : Bool) (F2 : Fr 0 w a2 c2 x2 e2 t2 y2) (N : Int) (HL : LongIs true [⟨g1, a1, c1, x1, e1, t1, y1⟩, ⟨g2, a2, c2, x2, e2, t2, y2⟩]) :
    Calls Tryz.prog 3 #[.agg #[.bool g1, .slice a1 x1.length c1, .slice e1 y1.length t1], .agg #[.bool g2, .slice a2 x2.length c2, .slice e2 y2.length t2], .int .i64 N] w fun e w' => e = .returned (.bool true) ∧ Below w.heap.size w w' := by
  have hB := Below.refl w.heap.size w
  go_enter Tryz.func3, Tryz.ntmps3
  have hs0 := Nat.le_refl w.heap.size
  have hq := below_new w (.cells #[.bool g1, .slice a1 x1.length c1, .slice e1 y1.length t1] 27)
  replace F1 := F1.below hq
  replace F2 := F2.below hq
  have E1 := Box.put (w := w) (k := (w.heap.size)) (.cells #[.bool g1, .slice a1 x1.length c1, .slice e1 y1.length t1] 27) rfl
  replace hs0 := Nat.le_trans hs0 hq.size
  replace hB := hB.trans (hq.mono hB.size)
  clear hq
  have hq := below_new (w.alloc (.cells #[.bool g1, .slice a1 x1.length c1, .slice e1 y1.length t1] 27)) (.cells #[.bool g2, .slice a2 x2.length c2, .slice e2 y2.length t2] 27)
  replace F1 := F1.below hq
  replace F2 := F2.below hq
  replace E1 := E1.below hq
  have E2 := Box.put (w := (w.alloc (.cells #[.bool g1, .slice a1 x1.length c1, .slice e1 y1.length t1] 27))) (k := (w.heap.size + 1)) (.cells #[.bool g2, .slice a2 x2.length c2, .slice e2 y2.length t2] 27) (by simp)
  replace hs0 := Nat.le_trans hs0 hq.size
  replace hB := hB.trans (hq.mono hB.size)
  clear hq
  have hq := below_new ((w.alloc (.cells #[.bool g1, .slice a1 x1.length c1, .slice e1 y1.length t1] 27)).alloc (.cells #[.bool g2, .slice a2 x2.length c2, .slice e2 y2.length t2] 27)) (.cells #[.bool g1, .slice a1 x1.length c1, .slice e1 y1.length t1, .bool g2, .slice a2 x2.length c2, .slice e2 y2.length t2] 27)
  replace F1 := F1.below hq
  replace F2 := F2.below hq
  replace E1 := E1.below hq
  replace E2 := E2.below hq
  have L0 := Box.put (w := ((w.alloc (.cells #[.bool g1, .slice a1 x1.length c1, .slice e1 y1.length t1] 27)).alloc (.cells #[.bool g2, .slice a2 x2.length c2, .slice e2 y2.length t2] 27))) (k := (w.heap.size + 2)) (.cells #[.bool g1, .slice a1 x1.length c1, .slice e1 y1.length t1, .bool g2, .slice a2 x2.length c2, .slice e2 y2.length t2] 27) (by simp)
  replace hs0 := Nat.le_trans hs0 hq.size
  replace hB := hB.trans (hq.mono hB.size)
  clear hq
  go_wp2_with fail
  obtain ⟨u1, hname⟩ := nm hB
  rw [hname] at hs0 hB F1 F2 E1 E2 L0 ⊢
  have zh1 := hB.size
  have zs1 := hs0
  clear hname hs0
  have R := row_box (rs := [⟨g1, a1, c1, x1, e1, t1, y1⟩, ⟨g2, a2, c2, x2, e2, t2, y2⟩]) (k := w.heap.size + 2) L0 (fun r hr => by
      simp only [List.mem_cons, List.not_mem_nil, or_false] at hr
      rcases hr with rfl | rfl
      · exact F1.mono (Nat.zero_le _)
      · exact F2.mono (Nat.zero_le _))
  refine (lrlong_any (cap := 2) R true HL).mono ?_
  rintro e w2 ⟨rfl, hb⟩
  replace F1 := F1.below hb
  replace F2 := F2.below hb
  replace E1 := E1.below hb
  replace E2 := E2.below hb
  replace L0 := L0.below hb
  replace hB := hB.trans (hb.mono hB.size)
  have zz2 := hb.size
  have zh2 := hB.size
  clear hb
  clear R
  clear L0
  go_wp2_with fail
  refine (lrawake_any _).mono ?_
  rintro e w3 ⟨rfl, hb⟩
  replace F1 := F1.below hb
  replace F2 := F2.below hb
  replace E1 := E1.below hb
  replace E2 := E2.below hb
  replace hB := hB.trans (hb.mono hB.size)
  have zz3 := hb.size
  have zh3 := hB.size
  clear hb
  go_wp2
  go_ret
  exact ⟨rfl, hB⟩
set_option maxRecDepth 100000 in
set_option maxHeartbeats 4000000 in
theorem lrreckons_up {a1 e1 : Option Addr} {c1 t1 : Nat} {x1 y1 : List Int} {a2 e2 : Option Addr} {c2 t2 : Nat} {x2 y2 : List Int} {w : World} (g1 : Bool) (F1 : Fr 0 w a1 c1 x1 e1 t1 y1) (g2 : Bool) (F2 : Fr 0 w a2 c2 x2 e2 t2 y2) (hl1 : x1.length ≤ 5 ∧ y1.length ≤ 5) (hl2 : x2.length ≤ 5 ∧ y2.length ≤ 5) (N : Int) (hc1 : 12 < N) (hc2 : N ≤ 10000) (hc3 : -10000 ≤ N) :
    Calls Tryz.prog 3 #[.agg #[.bool g1, .slice a1 x1.length c1, .slice e1 y1.length t1], .agg #[.bool g2, .slice a2 x2.length c2, .slice e2 y2.length t2], .int .i64 N] w fun e w' => e = .returned (.bool true) ∧ Below w.heap.size w w' := by
  have HL := long_no [⟨g1, a1, c1, x1, e1, t1, y1⟩, ⟨g2, a2, c2, x2, e2, t2, y2⟩] (by simp) (fun r hr => by
    simp only [List.mem_cons, List.not_mem_nil, or_false] at hr
    rcases hr with rfl | rfl
    · exact hl1
    · exact hl2)
  have hB := Below.refl w.heap.size w
  go_enter Tryz.func3, Tryz.ntmps3
  have hs0 := Nat.le_refl w.heap.size
  have hq := below_new w (.cells #[.bool g1, .slice a1 x1.length c1, .slice e1 y1.length t1] 27)
  replace F1 := F1.below hq
  replace F2 := F2.below hq
  have E1 := Box.put (w := w) (k := (w.heap.size)) (.cells #[.bool g1, .slice a1 x1.length c1, .slice e1 y1.length t1] 27) rfl
  replace hs0 := Nat.le_trans hs0 hq.size
  replace hB := hB.trans (hq.mono hB.size)
  clear hq
  have hq := below_new (w.alloc (.cells #[.bool g1, .slice a1 x1.length c1, .slice e1 y1.length t1] 27)) (.cells #[.bool g2, .slice a2 x2.length c2, .slice e2 y2.length t2] 27)
  replace F1 := F1.below hq
  replace F2 := F2.below hq
  replace E1 := E1.below hq
  have E2 := Box.put (w := (w.alloc (.cells #[.bool g1, .slice a1 x1.length c1, .slice e1 y1.length t1] 27))) (k := (w.heap.size + 1)) (.cells #[.bool g2, .slice a2 x2.length c2, .slice e2 y2.length t2] 27) (by simp)
  replace hs0 := Nat.le_trans hs0 hq.size
  replace hB := hB.trans (hq.mono hB.size)
  clear hq
  have hq := below_new ((w.alloc (.cells #[.bool g1, .slice a1 x1.length c1, .slice e1 y1.length t1] 27)).alloc (.cells #[.bool g2, .slice a2 x2.length c2, .slice e2 y2.length t2] 27)) (.cells #[.bool g1, .slice a1 x1.length c1, .slice e1 y1.length t1, .bool g2, .slice a2 x2.length c2, .slice e2 y2.length t2] 27)
  replace F1 := F1.below hq
  replace F2 := F2.below hq
  replace E1 := E1.below hq
  replace E2 := E2.below hq
  have L0 := Box.put (w := ((w.alloc (.cells #[.bool g1, .slice a1 x1.length c1, .slice e1 y1.length t1] 27)).alloc (.cells #[.bool g2, .slice a2 x2.length c2, .slice e2 y2.length t2] 27))) (k := (w.heap.size + 2)) (.cells #[.bool g1, .slice a1 x1.length c1, .slice e1 y1.length t1, .bool g2, .slice a2 x2.length c2, .slice e2 y2.length t2] 27) (by simp)
  replace hs0 := Nat.le_trans hs0 hq.size
  replace hB := hB.trans (hq.mono hB.size)
  clear hq
  go_wp2_with fail
  obtain ⟨u1, hname⟩ := nm hB
  rw [hname] at hs0 hB F1 F2 E1 E2 L0 ⊢
  have zh1 := hB.size
  have zs1 := hs0
  clear hname hs0
  have R := row_box (rs := [⟨g1, a1, c1, x1, e1, t1, y1⟩, ⟨g2, a2, c2, x2, e2, t2, y2⟩]) (k := w.heap.size + 2) L0 (fun r hr => by
      simp only [List.mem_cons, List.not_mem_nil, or_false] at hr
      rcases hr with rfl | rfl
      · exact F1.mono (Nat.zero_le _)
      · exact F2.mono (Nat.zero_le _))
  refine (lrlong_any (cap := 2) R false HL).mono ?_
  rintro e w2 ⟨rfl, hb⟩
  replace F1 := F1.below hb
  replace F2 := F2.below hb
  replace E1 := E1.below hb
  replace E2 := E2.below hb
  replace L0 := L0.below hb
  replace hB := hB.trans (hb.mono hB.size)
  have zz2 := hb.size
  have zh2 := hB.size
  clear hb
  clear R
  clear L0
  go_wp2_with fail
  refine (lrawake_any _).mono ?_
  rintro e w3 ⟨rfl, hb⟩
  replace F1 := F1.below hb
  replace F2 := F2.below hb
  replace E1 := E1.below hb
  replace E2 := E2.below hb
  replace hB := hB.trans (hb.mono hB.size)
  have zz3 := hb.size
  have zh3 := hB.size
  clear hb
  go_wp2
  go_ret
  exact ⟨rfl, hB⟩
set_option maxRecDepth 100000 in
set_option maxHeartbeats 4000000 in
theorem lrreckons_down {a1 e1 : Option Addr} {c1 t1 : Nat} {x1 y1 : List Int} {a2 e2 : Option Addr} {c2 t2 : Nat} {x2 y2 : List Int} {w : World} (g1 : Bool) (F1 : Fr 0 w a1 c1 x1 e1 t1 y1) (g2 : Bool) (F2 : Fr 0 w a2 c2 x2 e2 t2 y2) (hl1 : x1.length ≤ 5 ∧ y1.length ≤ 5) (hl2 : x2.length ≤ 5 ∧ y2.length ≤ 5) (N : Int) (hc0 : ¬ 12 < N) (hc1 : N < -12) (hc2 : N ≤ 10000) (hc3 : -10000 ≤ N) :
    Calls Tryz.prog 3 #[.agg #[.bool g1, .slice a1 x1.length c1, .slice e1 y1.length t1], .agg #[.bool g2, .slice a2 x2.length c2, .slice e2 y2.length t2], .int .i64 N] w fun e w' => e = .returned (.bool true) ∧ Below w.heap.size w w' := by
  have HL := long_no [⟨g1, a1, c1, x1, e1, t1, y1⟩, ⟨g2, a2, c2, x2, e2, t2, y2⟩] (by simp) (fun r hr => by
    simp only [List.mem_cons, List.not_mem_nil, or_false] at hr
    rcases hr with rfl | rfl
    · exact hl1
    · exact hl2)
  have hB := Below.refl w.heap.size w
  go_enter Tryz.func3, Tryz.ntmps3
  have hs0 := Nat.le_refl w.heap.size
  have hq := below_new w (.cells #[.bool g1, .slice a1 x1.length c1, .slice e1 y1.length t1] 27)
  replace F1 := F1.below hq
  replace F2 := F2.below hq
  have E1 := Box.put (w := w) (k := (w.heap.size)) (.cells #[.bool g1, .slice a1 x1.length c1, .slice e1 y1.length t1] 27) rfl
  replace hs0 := Nat.le_trans hs0 hq.size
  replace hB := hB.trans (hq.mono hB.size)
  clear hq
  have hq := below_new (w.alloc (.cells #[.bool g1, .slice a1 x1.length c1, .slice e1 y1.length t1] 27)) (.cells #[.bool g2, .slice a2 x2.length c2, .slice e2 y2.length t2] 27)
  replace F1 := F1.below hq
  replace F2 := F2.below hq
  replace E1 := E1.below hq
  have E2 := Box.put (w := (w.alloc (.cells #[.bool g1, .slice a1 x1.length c1, .slice e1 y1.length t1] 27))) (k := (w.heap.size + 1)) (.cells #[.bool g2, .slice a2 x2.length c2, .slice e2 y2.length t2] 27) (by simp)
  replace hs0 := Nat.le_trans hs0 hq.size
  replace hB := hB.trans (hq.mono hB.size)
  clear hq
  have hq := below_new ((w.alloc (.cells #[.bool g1, .slice a1 x1.length c1, .slice e1 y1.length t1] 27)).alloc (.cells #[.bool g2, .slice a2 x2.length c2, .slice e2 y2.length t2] 27)) (.cells #[.bool g1, .slice a1 x1.length c1, .slice e1 y1.length t1, .bool g2, .slice a2 x2.length c2, .slice e2 y2.length t2] 27)
  replace F1 := F1.below hq
  replace F2 := F2.below hq
  replace E1 := E1.below hq
  replace E2 := E2.below hq
  have L0 := Box.put (w := ((w.alloc (.cells #[.bool g1, .slice a1 x1.length c1, .slice e1 y1.length t1] 27)).alloc (.cells #[.bool g2, .slice a2 x2.length c2, .slice e2 y2.length t2] 27))) (k := (w.heap.size + 2)) (.cells #[.bool g1, .slice a1 x1.length c1, .slice e1 y1.length t1, .bool g2, .slice a2 x2.length c2, .slice e2 y2.length t2] 27) (by simp)
  replace hs0 := Nat.le_trans hs0 hq.size
  replace hB := hB.trans (hq.mono hB.size)
  clear hq
  go_wp2_with fail
  obtain ⟨u1, hname⟩ := nm hB
  rw [hname] at hs0 hB F1 F2 E1 E2 L0 ⊢
  have zh1 := hB.size
  have zs1 := hs0
  clear hname hs0
  have R := row_box (rs := [⟨g1, a1, c1, x1, e1, t1, y1⟩, ⟨g2, a2, c2, x2, e2, t2, y2⟩]) (k := w.heap.size + 2) L0 (fun r hr => by
      simp only [List.mem_cons, List.not_mem_nil, or_false] at hr
      rcases hr with rfl | rfl
      · exact F1.mono (Nat.zero_le _)
      · exact F2.mono (Nat.zero_le _))
  refine (lrlong_any (cap := 2) R false HL).mono ?_
  rintro e w2 ⟨rfl, hb⟩
  replace F1 := F1.below hb
  replace F2 := F2.below hb
  replace E1 := E1.below hb
  replace E2 := E2.below hb
  replace L0 := L0.below hb
  replace hB := hB.trans (hb.mono hB.size)
  have zz2 := hb.size
  have zh2 := hB.size
  clear hb
  clear R
  clear L0
  go_wp2_with fail
  refine (lrawake_any _).mono ?_
  rintro e w3 ⟨rfl, hb⟩
  replace F1 := F1.below hb
  replace F2 := F2.below hb
  replace E1 := E1.below hb
  replace E2 := E2.below hb
  replace hB := hB.trans (hb.mono hB.size)
  have zz3 := hb.size
  have zh3 := hB.size
  clear hb
  go_wp2
  go_ret
  exact ⟨rfl, hB⟩
set_option maxRecDepth 100000 in
set_option maxHeartbeats 16000000 in
theorem lrreckons_three {a1 e1 : Option Addr} {c1 t1 : Nat} {x1 y1 : List Int} {a2 e2 : Option Addr} {c2 t2 : Nat} {x2 y2 : List Int} {w : World} (g1 : Bool) (F1 : Fr 0 w a1 c1 x1 e1 t1 y1) (g2 : Bool) (F2 : Fr 0 w a2 c2 x2 e2 t2 y2) (hl1 : x1.length ≤ 5 ∧ y1.length ≤ 5) (hl2 : x2.length ≤ 5 ∧ y2.length ≤ 5) (N : Int) (hN : (-12 ≤ N ∧ N ≤ 12) ∨ N < -10000 ∨ 10000 < N) (hc : (¬ 12 < N ∧ ¬ N < -12) ∨ (12 < N ∧ ¬ N ≤ 10000 ∧ -10000 ≤ N) ∨ (¬ 12 < N ∧ N < -12 ∧ ¬ -10000 ≤ N)) :
    Calls Tryz.prog 3 #[.agg #[.bool g1, .slice a1 x1.length c1, .slice e1 y1.length t1], .agg #[.bool g2, .slice a2 x2.length c2, .slice e2 y2.length t2], .int .i64 N] w fun e w' => e = .returned (.bool true) ∧ Below w.heap.size w w' := by
  have HL := long_no [⟨g1, a1, c1, x1, e1, t1, y1⟩, ⟨g2, a2, c2, x2, e2, t2, y2⟩] (by simp) (fun r hr => by
    simp only [List.mem_cons, List.not_mem_nil, or_false] at hr
    rcases hr with rfl | rfl
    · exact hl1
    · exact hl2)
  obtain ⟨cv, hcv⟩ : ∃ v, cmpS g1 x1 y1 g2 x2 y2 = v := ⟨_, rfl⟩
  obtain ⟨ce, hce⟩ : ∃ v, cmpE g1 x1 y1 g2 x2 y2 = v := ⟨_, rfl⟩
  obtain ⟨cf, hcf⟩ : ∃ v, formR g1 x1 y1 = v := ⟨_, rfl⟩
  have HC := hide hcv
  have HE := hide hce
  have HF := hide hcf
  clear hcv hce hcf
  rcases hc with ⟨hc1, hc2⟩ | ⟨hc1, hc3, hc4⟩ | ⟨hc1, hc2, hc3⟩
  all_goals
    have hB := Below.refl w.heap.size w
    go_enter Tryz.func3, Tryz.ntmps3
    have hs0 := Nat.le_refl w.heap.size
    have hq := below_new w (.cells #[.bool g1, .slice a1 x1.length c1, .slice e1 y1.length t1] 27)
    replace F1 := F1.below hq
    replace F2 := F2.below hq
    have E1 := Box.put (w := w) (k := (w.heap.size)) (.cells #[.bool g1, .slice a1 x1.length c1, .slice e1 y1.length t1] 27) rfl
    replace hs0 := Nat.le_trans hs0 hq.size
    replace hB := hB.trans (hq.mono hB.size)
    clear hq
    have hq := below_new (w.alloc (.cells #[.bool g1, .slice a1 x1.length c1, .slice e1 y1.length t1] 27)) (.cells #[.bool g2, .slice a2 x2.length c2, .slice e2 y2.length t2] 27)
    replace F1 := F1.below hq
    replace F2 := F2.below hq
    replace E1 := E1.below hq
    have E2 := Box.put (w := (w.alloc (.cells #[.bool g1, .slice a1 x1.length c1, .slice e1 y1.length t1] 27))) (k := (w.heap.size + 1)) (.cells #[.bool g2, .slice a2 x2.length c2, .slice e2 y2.length t2] 27) (by simp)
    replace hs0 := Nat.le_trans hs0 hq.size
    replace hB := hB.trans (hq.mono hB.size)
    clear hq
    have hq := below_new ((w.alloc (.cells #[.bool g1, .slice a1 x1.length c1, .slice e1 y1.length t1] 27)).alloc (.cells #[.bool g2, .slice a2 x2.length c2, .slice e2 y2.length t2] 27)) (.cells #[.bool g1, .slice a1 x1.length c1, .slice e1 y1.length t1, .bool g2, .slice a2 x2.length c2, .slice e2 y2.length t2] 27)
    replace F1 := F1.below hq
    replace F2 := F2.below hq
    replace E1 := E1.below hq
    replace E2 := E2.below hq
    have L0 := Box.put (w := ((w.alloc (.cells #[.bool g1, .slice a1 x1.length c1, .slice e1 y1.length t1] 27)).alloc (.cells #[.bool g2, .slice a2 x2.length c2, .slice e2 y2.length t2] 27))) (k := (w.heap.size + 2)) (.cells #[.bool g1, .slice a1 x1.length c1, .slice e1 y1.length t1, .bool g2, .slice a2 x2.length c2, .slice e2 y2.length t2] 27) (by simp)
    replace hs0 := Nat.le_trans hs0 hq.size
    replace hB := hB.trans (hq.mono hB.size)
    clear hq
    go_wp2_with fail
    obtain ⟨u1, hname⟩ := nm hB
    rw [hname] at hs0 hB F1 F2 E1 E2 L0 ⊢
    have zh1 := hB.size
    have zs1 := hs0
    clear hname hs0
    have R := row_box (rs := [⟨g1, a1, c1, x1, e1, t1, y1⟩, ⟨g2, a2, c2, x2, e2, t2, y2⟩]) (k := w.heap.size + 2) L0 (fun r hr => by
        simp only [List.mem_cons, List.not_mem_nil, or_false] at hr
        rcases hr with rfl | rfl
        · exact F1.mono (Nat.zero_le _)
        · exact F2.mono (Nat.zero_le _))
    refine (lrlong_any (cap := 2) R false HL).mono ?_
    rintro e w2 ⟨rfl, hb⟩
    replace F1 := F1.below hb
    replace F2 := F2.below hb
    replace E1 := E1.below hb
    replace E2 := E2.below hb
    replace L0 := L0.below hb
    replace hB := hB.trans (hb.mono hB.size)
    have zz2 := hb.size
    have zh2 := hB.size
    clear hb
    clear R
    clear L0
    obtain ⟨k0, k1, k2, f0, f1, f2⟩ := E1.three
    obtain ⟨k3, k4, k5, f3, f4, f5⟩ := E2.three
    go_wp2_with fail
    clear k0 k1 k2 f0 f1 f2 k3 k4 k5 f3 f4 f5
    replace F1 := F1.drew
    replace F2 := F2.drew
    have qE1 := E1.lt
    replace E1 := E1.drew
    have qE2 := E2.lt
    replace E2 := E2.drew
    refine wp_yields 6 [.is (.agg #[.bool g1, .slice a1 x1.length c1, .slice e1 y1.length t1]), (Yield.copyr w2.heap.size g1 x1 y1), .is (.agg #[.bool g2, .slice a2 x2.length c2, .slice e2 y2.length t2]), (Yield.copyr w2.heap.size g2 x2 y2), (.new w2.heap.size (.cells #[.bool false, .slice none 0 0, .slice none 0 0] 27)), (.new w2.heap.size (.cells #[.bool false, .slice none 0 0, .slice none 0 0] 27))] (by kernel_rfl) (by kernel_rfl) (lt_cons ?_ (lt_cons ?_ (lt_cons ?_ (lt_cons ?_ (lt_cons ?_ (lt_cons ?_ lt_nil)))))) ?_
    case refine_1 =>
      refine OpDoes.mk rfl ?_
      intro vs V hV hd K hK
      simp only [laidIn, lz1, lz2, lz3, lz4, lz5, lz6, if_true, Act.put, lz7, lz8, lz9] at hK ⊢
      go_simp
      exact hK.out _ _ ((Below.refl _ _).a1 _) ⟨_, rfl, Box.new _ _, hV.size⟩ (fresh_apart _ _ (fresh_new _))
    case refine_2 =>
      refine OpDoes.mk rfl ?_
      intro vs V hV hd K hK
      simp only [laidIn, lz1, lz2, lz3, lz4, lz5, lz6, if_true, Act.put, lz7, lz8, lz9] at hK ⊢
      go_simp
      exact hK.out _ _ ((Below.refl _ _).a1 _) ⟨_, rfl, Box.new _ _, hV.size⟩ (fresh_apart _ _ (fresh_new _))
    case refine_3 =>
      refine OpDoes.mk rfl ?_
      intro vs V hV hd K hK
      have d2 : vs 2 = .agg #[.bool g2, .slice a2 x2.length c2, .slice e2 y2.length t2] := hd 2 (by decide) (by kernel_rfl)
      simp only [laidIn, lz1, lz2, lz3, lz4, lz5, lz6, if_true, Act.put, lz7, lz8, lz9] at hK ⊢
      simp only [d2] at hK ⊢
      go_simp
      go_at_call 6
      refine (copyr_any g2 (F2.below hV) (by omega) (by omega)).mono ?_
      rintro e V' ⟨a4, c4, e4, t4, rfl, F4, hb⟩
      exact hK.out _ _ hb ⟨_, _, _, _, rfl, F4.mono hV.size⟩ (not_fresh rfl)
    case refine_4 =>
      refine OpDoes.mk rfl ?_
      intro vs V hV hd K hK
      have hcc := (E2.below hV).three
      have k0 := hcc.1
      have k1 := hcc.2.1
      have k2 := hcc.2.2.1
      clear hcc
      simp only [laidIn, lz1, lz2, lz3, lz4, lz5, lz6, if_true, Act.put, lz7, lz8, lz9] at hK ⊢
      go_simp
      exact hK.out _ _ (Below.refl _ _) rfl (not_fresh rfl)
    case refine_5 =>
      refine OpDoes.mk rfl ?_
      intro vs V hV hd K hK
      have d0 : vs 0 = .agg #[.bool g1, .slice a1 x1.length c1, .slice e1 y1.length t1] := hd 0 (by decide) (by kernel_rfl)
      simp only [laidIn, lz1, lz2, lz3, lz4, lz5, lz6, if_true, Act.put, lz7, lz8, lz9] at hK ⊢
      simp only [d0] at hK ⊢
      go_simp
      go_at_call 6
      refine (copyr_any g1 (F1.below hV) (by omega) (by omega)).mono ?_
      rintro e V' ⟨a3, c3, e3, t3, rfl, F3, hb⟩
      exact hK.out _ _ hb ⟨_, _, _, _, rfl, F3.mono hV.size⟩ (not_fresh rfl)
    case refine_6 =>
      refine OpDoes.mk rfl ?_
      intro vs V hV hd K hK
      have hcc := (E1.below hV).three
      have k0 := hcc.1
      have k1 := hcc.2.1
      have k2 := hcc.2.2.1
      clear hcc
      simp only [laidIn, lz1, lz2, lz4, lz5, lz6, if_true, Act.put, lz7, lz8, lz9] at hK ⊢
      go_simp
      exact hK.out _ _ (Below.refl _ _) rfl (not_fresh rfl)
    case refine_7 =>
      intro vs Y1 hV hR hne fuel
      have d0 : vs 0 = .agg #[.bool g1, .slice a1 x1.length c1, .slice e1 y1.length t1] := hR 0 (by decide)
      have hh := fun (P : Prop) => Yield.copyr_elim P (show ((Yield.copyr w2.heap.size g1 x1 y1) : Yield).At (vs 1) Y1 from hR 1 (by decide))
      refine hh _ ?_
      intro a3 c3 e3 t3 d1 F3
      clear hh
      have d2 : vs 2 = .agg #[.bool g2, .slice a2 x2.length c2, .slice e2 y2.length t2] := hR 2 (by decide)
      have hh := fun (P : Prop) => Yield.copyr_elim P (show ((Yield.copyr w2.heap.size g2 x2 y2) : Yield).At (vs 3) Y1 from hR 3 (by decide))
      refine hh _ ?_
      intro a4 c4 e4 t4 d3 F4
      clear hh
      obtain ⟨k_E92, d4, E92, l_E92⟩ := (show ((.new w2.heap.size (.cells #[.bool false, .slice none 0 0, .slice none 0 0] 27)) : Yield).At (vs 4) Y1 from hR 4 (by decide))
      obtain ⟨k_E93, d5, E93, l_E93⟩ := (show ((.new w2.heap.size (.cells #[.bool false, .slice none 0 0, .slice none 0 0] 27)) : Yield).At (vs 5) Y1 from hR 5 (by decide))
      have n_E92_E93 : k_E92 ≠ k_E93 := new_apart (by have h := hne 4 5 (by decide) (by decide) rfl rfl (by decide); rw [d4, d5] at h; exact h)
      replace F1 := F1.below hV
      replace F2 := F2.below hV
      replace E1 := E1.below hV
      replace E2 := E2.below hV
      have hr := hV
      simp only [laidIn, lz4, lz5, lz6, if_true, Act.put, lz7, lz8, lz9]
      simp only [d0, d1, d2, d3, d4, d5]
      clear hR hne hV d0 d1 d2 d3 d4 d5
      clear vs
      show wpAny _ _ _ _ (fuel + 2) _ _ _
      refine wpAny_all (rs := [6]) (by kernel_rfl) (by simp) (fun i hi => ?_)
      obtain rfl : i = 6 := by simpa using hi
      clear hi
      have hcc := E92.three
      have k0 := hcc.1
      have k1 := hcc.2.1
      have k2 := hcc.2.2.1
      have f0 := hcc.2.2.2.1
      have f1 := hcc.2.2.2.2.1
      have f2 := hcc.2.2.2.2.2
      clear hcc
      refine wpOp_step rfl (fun K hK => ?_)
      simp only [lz1, lz2, lz3]
      rw [if_pos (by rfl)]
      go_simp
      refine hK _ _ ?_
      clear hK k0 f0 k1 f1 k2 f2
      have hT := turns3 (k_E92) Y1 (.bool g1) (.slice a3 x1.length c3) (.slice e3 y1.length t3)
      replace F1 := F1.beside E92 (noWord3 (fun _ e => by cases e) (fun _ e => by cases e) (fun _ e => by cases e)) hT
      replace F2 := F2.beside E92 (noWord3 (fun _ e => by cases e) (fun _ e => by cases e) (fun _ e => by cases e)) hT
      replace E1 := E1.turns hT (by omega)
      replace E2 := E2.turns hT (by omega)
      replace F3 := F3.beside E92 (noWord3 (fun _ e => by cases e) (fun _ e => by cases e) (fun _ e => by cases e)) hT
      replace F4 := F4.beside E92 (noWord3 (fun _ e => by cases e) (fun _ e => by cases e) (fun _ e => by cases e)) hT
      replace E93 := E93.turns hT (by omega)
      replace E92 := Box.set3 (.bool g1) (.slice a3 x1.length c3) (.slice e3 y1.length t3) E92
      have hr6 := hT.below
      obtain ⟨X1, hX⟩ := nm hT.below
      rw [hX] at F1 F2 E1 E2 F3 F4 E92 E93 hr6 ⊢
      clear hX hT
      refine wpAny_all (rs := [7]) (by kernel_rfl) (by simp) (fun i hi => ?_)
      obtain rfl : i = 7 := by simpa using hi
      clear hi
      have hcc := E93.three
      have k0 := hcc.1
      have k1 := hcc.2.1
      have k2 := hcc.2.2.1
      have f0 := hcc.2.2.2.1
      have f1 := hcc.2.2.2.2.1
      have f2 := hcc.2.2.2.2.2
      clear hcc
      refine wpOp_step rfl (fun K hK => ?_)
      simp only [lz1, lz2, lz3]
      rw [if_pos (by rfl)]
      go_simp
      refine hK _ _ ?_
      clear hK k0 f0 k1 f1 k2 f2
      have hT := turns3 (k_E93) X1 (.bool g2) (.slice a4 x2.length c4) (.slice e4 y2.length t4)
      replace F1 := F1.beside E93 (noWord3 (fun _ e => by cases e) (fun _ e => by cases e) (fun _ e => by cases e)) hT
      replace F2 := F2.beside E93 (noWord3 (fun _ e => by cases e) (fun _ e => by cases e) (fun _ e => by cases e)) hT
      replace E1 := E1.turns hT (by omega)
      replace E2 := E2.turns hT (by omega)
      replace F3 := F3.beside E93 (noWord3 (fun _ e => by cases e) (fun _ e => by cases e) (fun _ e => by cases e)) hT
      replace F4 := F4.beside E93 (noWord3 (fun _ e => by cases e) (fun _ e => by cases e) (fun _ e => by cases e)) hT
      replace E92 := E92.turns hT (by omega)
      replace E93 := Box.set3 (.bool g2) (.slice a4 x2.length c4) (.slice e4 y2.length t4) E93
      have hr7 := hT.below
      obtain ⟨X2, hX⟩ := nm hT.below
      rw [hX] at F1 F2 E1 E2 F3 F4 E92 E93 hr7 ⊢
      clear hX hT
      refine wpAny_done (by kernel_rfl) ?_ _
      replace hB := hB.trans ((Below.trans (Below.drew (Below.refl w2.heap.size w2)) hr).mono hB.size)
      replace hB := hB.trans (hr6.mono (by omega))
      replace hB := hB.trans (hr7.mono (by omega))
      have zz2_2 := hr.size
      have zi1 := hB.size
      have zy2_6 := hr6.size
      have zy2_7 := hr7.size
      clear hr hr6 hr7
      have F1_M := F1
      have F2_M := F2
      have E1_M := E1
      have E2_M := E2
      have F3_M := F3
      have F4_M := F4
      have E92_M := E92
      have E93_M := E93
      have hM := Below.refl X2.heap.size X2
      obtain ⟨k0, k1, k2, f0, f1, f2⟩ := E92.three
      obtain ⟨k3, k4, k5, f3, f4, f5⟩ := E93.three
      go_wp2_with fail
      clear k0 k1 k2 f0 f1 f2 k3 k4 k5 f3 f4 f5
      refine (psub_all g1 g2 F3 F4 hl1 hl2).mono ?_
      rintro e w3 ⟨g5, a5, c5, x5, e5, t5, y5, r5, rfl, F5, P5, I5, hb⟩
      replace F1 := F1.below hb
      replace F2 := F2.below hb
      replace E1 := E1.below hb
      replace E2 := E2.below hb
      replace F3 := F3.below hb
      replace F4 := F4.below hb
      replace E92 := E92.below hb
      replace E93 := E93.below hb
      replace hB := hB.trans (hb.mono hB.size)
      replace hM := hM.trans (hb.mono hM.size)
      have zz3 := hb.size
      have zh3 := hB.size
      clear hb
      obtain ⟨k0, k1, k2, f0, f1, f2⟩ := E1.three
      obtain ⟨k3, k4, k5, f3, f4, f5⟩ := E2.three
      have qE1 := E1.lt
      have qE2 := E2.lt
      have qE92 := E92.lt
      have qE93 := E93.lt
      have hs0 := Nat.le_refl w3.heap.size
      have hq := below_new w3 (.cells #[.bool g5, .slice a5 x5.length c5, .slice e5 y5.length t5] 27)
      replace F1 := F1.below hq
      replace F2 := F2.below hq
      replace E1 := E1.below hq
      replace E2 := E2.below hq
      replace F3 := F3.below hq
      replace F4 := F4.below hq
      replace E92 := E92.below hq
      replace E93 := E93.below hq
      replace F5 := F5.below hq
      have EX := Box.put (w := w3) (k := (w3.heap.size)) (.cells #[.bool g5, .slice a5 x5.length c5, .slice e5 y5.length t5] 27) rfl
      replace hs0 := Nat.le_trans hs0 hq.size
      replace hB := hB.trans (hq.mono hB.size)
      replace hM := hM.trans (hq.mono hM.size)
      clear hq
      go_wp2_with fail
      clear k0 k1 k2 f0 f1 f2 k3 k4 k5 f3 f4 f5
      obtain ⟨u4, hname⟩ := nm hB
      rw [hname] at hs0 hB hM F1 F2 E1 E2 F3 F4 E92 E93 F5 EX ⊢
      have zh4 := hB.size
      have zs4 := hs0
      clear hname hs0
      refine (ksub_all g1 g2 F1 F2 hl1 hl2).mono ?_
      rintro e w5 ⟨g6, a6, c6, x6, e6, t6, y6, r6, rfl, F6, P6, I6, hb⟩
      replace F1 := F1.below hb
      replace F2 := F2.below hb
      replace E1 := E1.below hb
      replace E2 := E2.below hb
      replace F3 := F3.below hb
      replace F4 := F4.below hb
      replace E92 := E92.below hb
      replace E93 := E93.below hb
      replace F5 := F5.below hb
      replace EX := EX.below hb
      replace hB := hB.trans (hb.mono hB.size)
      replace hM := hM.trans (hb.mono hM.size)
      have zz5 := hb.size
      have zh5 := hB.size
      clear hb
      obtain ⟨k0, k1, k2, f0, f1, f2⟩ := EX.three
      have qE1 := E1.lt
      have qE2 := E2.lt
      have qE92 := E92.lt
      have qE93 := E93.lt
      have qEX := EX.lt
      have hs0 := Nat.le_refl w5.heap.size
      have hq := below_new w5 (.cells #[.bool g6, .slice a6 x6.length c6, .slice e6 y6.length t6] 27)
      replace F1 := F1.below hq
      replace F2 := F2.below hq
      replace E1 := E1.below hq
      replace E2 := E2.below hq
      replace F3 := F3.below hq
      replace F4 := F4.below hq
      replace E92 := E92.below hq
      replace E93 := E93.below hq
      replace F5 := F5.below hq
      replace EX := EX.below hq
      replace F6 := F6.below hq
      have EY := Box.put (w := w5) (k := (w5.heap.size)) (.cells #[.bool g6, .slice a6 x6.length c6, .slice e6 y6.length t6] 27) rfl
      replace hs0 := Nat.le_trans hs0 hq.size
      replace hB := hB.trans (hq.mono hB.size)
      replace hM := hM.trans (hq.mono hM.size)
      clear hq
      go_wp2_with fail
      clear k0 k1 k2 f0 f1 f2
      obtain ⟨u6, hname⟩ := nm hB
      rw [hname] at hs0 hB hM F1 F2 E1 E2 F3 F4 E92 E93 F5 EX F6 EY ⊢
      have zh6 := hB.size
      have zs6 := hs0
      clear hname hs0
      refine (lrlike_ans F5 F6 P5 I5 I6 (by omega) (by omega)).mono ?_
      rintro e w7 ⟨rfl, hov, hst⟩
      replace E1 := hst _ _ _ (noWord3 (fun _ e => by cases e) (fun _ e => by cases e) (fun _ e => by cases e)) E1
      replace E2 := hst _ _ _ (noWord3 (fun _ e => by cases e) (fun _ e => by cases e) (fun _ e => by cases e)) E2
      replace E92 := hst _ _ _ (noWord3 (fun _ e => by cases e) (fun _ e => by cases e) (fun _ e => by cases e)) E92
      replace E93 := hst _ _ _ (noWord3 (fun _ e => by cases e) (fun _ e => by cases e) (fun _ e => by cases e)) E93
      replace EX := hst _ _ _ (noWord3 (fun _ e => by cases e) (fun _ e => by cases e) (fun _ e => by cases e)) EX
      replace EY := hst _ _ _ (noWord3 (fun _ e => by cases e) (fun _ e => by cases e) (fun _ e => by cases e)) EY
      replace hB := hB.trans (hov.mono (by omega))
      replace hM := hM.trans (hov.mono (by omega))
      have zz7 := hov.size
      have zh7 := hB.size
      clear hov hst F1 F2 F3 F4 F5 F6
      have F1 := F1_M.below hM
      have F2 := F2_M.below hM
      have F3 := F3_M.below hM
      have F4 := F4_M.below hM
      clear P5 I5 P6 I6
      obtain ⟨k0, k1, k2, f0, f1, f2⟩ := E92.three
      obtain ⟨k3, k4, k5, f3, f4, f5⟩ := E93.three
      go_wp2_with fail
      clear k0 k1 k2 f0 f1 f2 k3 k4 k5 f3 f4 f5
      refine (pdiv_all g1 g2 F3 F4 hl1 hl2).mono ?_
      rintro e w8 ⟨g7, a7, c7, x7, e7, t7, y7, r7, rfl, F7, P7, I7, hb⟩
      replace E1 := E1.below hb
      replace E2 := E2.below hb
      replace E92 := E92.below hb
      replace E93 := E93.below hb
      replace EX := EX.below hb
      replace EY := EY.below hb
      replace F1 := F1.below hb
      replace F2 := F2.below hb
      replace F3 := F3.below hb
      replace F4 := F4.below hb
      replace hB := hB.trans (hb.mono hB.size)
      replace hM := hM.trans (hb.mono hM.size)
      have zz8 := hb.size
      have zh8 := hB.size
      clear hb
      obtain ⟨k0, k1, k2, f0, f1, f2⟩ := E1.three
      obtain ⟨k3, k4, k5, f3, f4, f5⟩ := E2.three
      obtain ⟨k6, k7, k8, f6, f7, f8⟩ := EX.three
      have qE1 := E1.lt
      have qE2 := E2.lt
      have qE92 := E92.lt
      have qE93 := E93.lt
      have qEX := EX.lt
      have qEY := EY.lt
      have hs0 := Nat.le_refl w8.heap.size
      have hT := turns3 (w3.heap.size) w8 (.bool g7) (.slice a7 x7.length c7) (.slice e7 y7.length t7)
      replace E1 := E1.turns hT (by omega)
      replace E2 := E2.turns hT (by omega)
      replace E92 := E92.turns hT (by omega)
      replace E93 := E93.turns hT (by omega)
      replace EY := EY.turns hT (by omega)
      replace F1 := F1.beside EX (noWord3 (fun _ e => by cases e) (fun _ e => by cases e) (fun _ e => by cases e)) hT
      replace F2 := F2.beside EX (noWord3 (fun _ e => by cases e) (fun _ e => by cases e) (fun _ e => by cases e)) hT
      replace F3 := F3.beside EX (noWord3 (fun _ e => by cases e) (fun _ e => by cases e) (fun _ e => by cases e)) hT
      replace F4 := F4.beside EX (noWord3 (fun _ e => by cases e) (fun _ e => by cases e) (fun _ e => by cases e)) hT
      replace F7 := F7.beside EX (noWord3 (fun _ e => by cases e) (fun _ e => by cases e) (fun _ e => by cases e)) hT
      replace EX := Box.set3 (.bool g7) (.slice a7 x7.length c7) (.slice e7 y7.length t7) EX
      replace hB := hB.trans (hT.below.mono (by omega))
      replace hM := hM.trans (hT.below.mono (by omega))
      replace hs0 := Nat.le_trans hs0 hT.below.size
      clear hT
      go_wp2_with fail
      clear k0 k1 k2 f0 f1 f2 k3 k4 k5 f3 f4 f5 k6 k7 k8 f6 f7 f8
      obtain ⟨u9, hname⟩ := nm hB
      rw [hname] at hs0 hB hM E1 E2 E92 E93 EX EY F1 F2 F3 F4 F7 ⊢
      have zh9 := hB.size
      have zs9 := hs0
      clear hname hs0
      refine (kdiv_all g1 g2 F1 F2 hl1 hl2).mono ?_
      rintro e w10 ⟨g8, a8, c8, x8, e8, t8, y8, r8, rfl, F8, P8, I8, hb⟩
      replace E1 := E1.below hb
      replace E2 := E2.below hb
      replace E92 := E92.below hb
      replace E93 := E93.below hb
      replace EX := EX.below hb
      replace EY := EY.below hb
      replace F1 := F1.below hb
      replace F2 := F2.below hb
      replace F3 := F3.below hb
      replace F4 := F4.below hb
      replace F7 := F7.below hb
      replace hB := hB.trans (hb.mono hB.size)
      replace hM := hM.trans (hb.mono hM.size)
      have zz10 := hb.size
      have zh10 := hB.size
      clear hb
      obtain ⟨k0, k1, k2, f0, f1, f2⟩ := EX.three
      obtain ⟨k3, k4, k5, f3, f4, f5⟩ := EY.three
      have qE1 := E1.lt
      have qE2 := E2.lt
      have qE92 := E92.lt
      have qE93 := E93.lt
      have qEX := EX.lt
      have qEY := EY.lt
      have hs0 := Nat.le_refl w10.heap.size
      have hT := turns3 (w5.heap.size) w10 (.bool g8) (.slice a8 x8.length c8) (.slice e8 y8.length t8)
      replace E1 := E1.turns hT (by omega)
      replace E2 := E2.turns hT (by omega)
      replace E92 := E92.turns hT (by omega)
      replace E93 := E93.turns hT (by omega)
      replace EX := EX.turns hT (by omega)
      replace F1 := F1.beside EY (noWord3 (fun _ e => by cases e) (fun _ e => by cases e) (fun _ e => by cases e)) hT
      replace F2 := F2.beside EY (noWord3 (fun _ e => by cases e) (fun _ e => by cases e) (fun _ e => by cases e)) hT
      replace F3 := F3.beside EY (noWord3 (fun _ e => by cases e) (fun _ e => by cases e) (fun _ e => by cases e)) hT
      replace F4 := F4.beside EY (noWord3 (fun _ e => by cases e) (fun _ e => by cases e) (fun _ e => by cases e)) hT
      replace F7 := F7.beside EY (noWord3 (fun _ e => by cases e) (fun _ e => by cases e) (fun _ e => by cases e)) hT
      replace F8 := F8.beside EY (noWord3 (fun _ e => by cases e) (fun _ e => by cases e) (fun _ e => by cases e)) hT
      replace EY := Box.set3 (.bool g8) (.slice a8 x8.length c8) (.slice e8 y8.length t8) EY
      replace hB := hB.trans (hT.below.mono (by omega))
      replace hM := hM.trans (hT.below.mono (by omega))
      replace hs0 := Nat.le_trans hs0 hT.below.size
      clear hT
      go_wp2_with fail
      clear k0 k1 k2 f0 f1 f2 k3 k4 k5 f3 f4 f5
      obtain ⟨u11, hname⟩ := nm hB
      rw [hname] at hs0 hB hM E1 E2 E92 E93 EX EY F1 F2 F3 F4 F7 F8 ⊢
      have zh11 := hB.size
      have zs11 := hs0
      clear hname hs0
      refine (lrlike_ans F7 F8 P7 I7 I8 (by omega) (by omega)).mono ?_
      rintro e w12 ⟨rfl, hov, hst⟩
      replace E1 := hst _ _ _ (noWord3 (fun _ e => by cases e) (fun _ e => by cases e) (fun _ e => by cases e)) E1
      replace E2 := hst _ _ _ (noWord3 (fun _ e => by cases e) (fun _ e => by cases e) (fun _ e => by cases e)) E2
      replace E92 := hst _ _ _ (noWord3 (fun _ e => by cases e) (fun _ e => by cases e) (fun _ e => by cases e)) E92
      replace E93 := hst _ _ _ (noWord3 (fun _ e => by cases e) (fun _ e => by cases e) (fun _ e => by cases e)) E93
      replace EX := hst _ _ _ (noWord3 (fun _ e => by cases e) (fun _ e => by cases e) (fun _ e => by cases e)) EX
      replace EY := hst _ _ _ (noWord3 (fun _ e => by cases e) (fun _ e => by cases e) (fun _ e => by cases e)) EY
      replace hB := hB.trans (hov.mono (by omega))
      replace hM := hM.trans (hov.mono (by omega))
      have zz12 := hov.size
      have zh12 := hB.size
      clear hov hst F1 F2 F3 F4 F7 F8
      have F1 := F1_M.below hM
      have F2 := F2_M.below hM
      have F3 := F3_M.below hM
      have F4 := F4_M.below hM
      clear P7 I7 P8 I8
      obtain ⟨k0, k1, k2, f0, f1, f2⟩ := E92.three
      obtain ⟨k3, k4, k5, f3, f4, f5⟩ := E93.three
      go_wp2_with fail
      clear k0 k1 k2 f0 f1 f2 k3 k4 k5 f3 f4 f5
      refine (ppower_all g1 F3 hl1 N hN).mono ?_
      rintro e w13 ⟨g9, a9, c9, x9, e9, t9, y9, r9, rfl, F9, P9, I9, hb⟩
      replace E1 := E1.below hb
      replace E2 := E2.below hb
      replace E92 := E92.below hb
      replace E93 := E93.below hb
      replace EX := EX.below hb
      replace EY := EY.below hb
      replace F1 := F1.below hb
      replace F2 := F2.below hb
      replace F3 := F3.below hb
      replace F4 := F4.below hb
      replace hB := hB.trans (hb.mono hB.size)
      replace hM := hM.trans (hb.mono hM.size)
      have zz13 := hb.size
      have zh13 := hB.size
      clear hb
      obtain ⟨k0, k1, k2, f0, f1, f2⟩ := E1.three
      obtain ⟨k3, k4, k5, f3, f4, f5⟩ := E2.three
      obtain ⟨k6, k7, k8, f6, f7, f8⟩ := EX.three
      have qE1 := E1.lt
      have qE2 := E2.lt
      have qE92 := E92.lt
      have qE93 := E93.lt
      have qEX := EX.lt
      have qEY := EY.lt
      have hs0 := Nat.le_refl w13.heap.size
      have hT := turns3 (w3.heap.size) w13 (.bool g9) (.slice a9 x9.length c9) (.slice e9 y9.length t9)
      replace E1 := E1.turns hT (by omega)
      replace E2 := E2.turns hT (by omega)
      replace E92 := E92.turns hT (by omega)
      replace E93 := E93.turns hT (by omega)
      replace EY := EY.turns hT (by omega)
      replace F1 := F1.beside EX (noWord3 (fun _ e => by cases e) (fun _ e => by cases e) (fun _ e => by cases e)) hT
      replace F2 := F2.beside EX (noWord3 (fun _ e => by cases e) (fun _ e => by cases e) (fun _ e => by cases e)) hT
      replace F3 := F3.beside EX (noWord3 (fun _ e => by cases e) (fun _ e => by cases e) (fun _ e => by cases e)) hT
      replace F4 := F4.beside EX (noWord3 (fun _ e => by cases e) (fun _ e => by cases e) (fun _ e => by cases e)) hT
      replace F9 := F9.beside EX (noWord3 (fun _ e => by cases e) (fun _ e => by cases e) (fun _ e => by cases e)) hT
      replace EX := Box.set3 (.bool g9) (.slice a9 x9.length c9) (.slice e9 y9.length t9) EX
      replace hB := hB.trans (hT.below.mono (by omega))
      replace hM := hM.trans (hT.below.mono (by omega))
      replace hs0 := Nat.le_trans hs0 hT.below.size
      clear hT
      go_wp2_with fail
      clear k0 k1 k2 f0 f1 f2 k3 k4 k5 f3 f4 f5 k6 k7 k8 f6 f7 f8
      obtain ⟨u14, hname⟩ := nm hB
      rw [hname] at hs0 hB hM E1 E2 E92 E93 EX EY F1 F2 F3 F4 F9 ⊢
      have zh14 := hB.size
      have zs14 := hs0
      clear hname hs0
      refine (kpower_all g1 F1 hl1 N hN).mono ?_
      rintro e w15 ⟨g10, a10, c10, x10, e10, t10, y10, r10, rfl, F10, P10, I10, hb⟩
      replace E1 := E1.below hb
      replace E2 := E2.below hb
      replace E92 := E92.below hb
      replace E93 := E93.below hb
      replace EX := EX.below hb
      replace EY := EY.below hb
      replace F1 := F1.below hb
      replace F2 := F2.below hb
      replace F3 := F3.below hb
      replace F4 := F4.below hb
      replace F9 := F9.below hb
      replace hB := hB.trans (hb.mono hB.size)
      replace hM := hM.trans (hb.mono hM.size)
      have zz15 := hb.size
      have zh15 := hB.size
      clear hb
      obtain ⟨k0, k1, k2, f0, f1, f2⟩ := EX.three
      obtain ⟨k3, k4, k5, f3, f4, f5⟩ := EY.three
      have qE1 := E1.lt
      have qE2 := E2.lt
      have qE92 := E92.lt
      have qE93 := E93.lt
      have qEX := EX.lt
      have qEY := EY.lt
      have hs0 := Nat.le_refl w15.heap.size
      have hT := turns3 (w5.heap.size) w15 (.bool g10) (.slice a10 x10.length c10) (.slice e10 y10.length t10)
      replace E1 := E1.turns hT (by omega)
      replace E2 := E2.turns hT (by omega)
      replace E92 := E92.turns hT (by omega)
      replace E93 := E93.turns hT (by omega)
      replace EX := EX.turns hT (by omega)
      replace F1 := F1.beside EY (noWord3 (fun _ e => by cases e) (fun _ e => by cases e) (fun _ e => by cases e)) hT
      replace F2 := F2.beside EY (noWord3 (fun _ e => by cases e) (fun _ e => by cases e) (fun _ e => by cases e)) hT
      replace F3 := F3.beside EY (noWord3 (fun _ e => by cases e) (fun _ e => by cases e) (fun _ e => by cases e)) hT
      replace F4 := F4.beside EY (noWord3 (fun _ e => by cases e) (fun _ e => by cases e) (fun _ e => by cases e)) hT
      replace F9 := F9.beside EY (noWord3 (fun _ e => by cases e) (fun _ e => by cases e) (fun _ e => by cases e)) hT
      replace F10 := F10.beside EY (noWord3 (fun _ e => by cases e) (fun _ e => by cases e) (fun _ e => by cases e)) hT
      replace EY := Box.set3 (.bool g10) (.slice a10 x10.length c10) (.slice e10 y10.length t10) EY
      replace hB := hB.trans (hT.below.mono (by omega))
      replace hM := hM.trans (hT.below.mono (by omega))
      replace hs0 := Nat.le_trans hs0 hT.below.size
      clear hT
      go_wp2_with fail
      clear k0 k1 k2 f0 f1 f2 k3 k4 k5 f3 f4 f5
      obtain ⟨u16, hname⟩ := nm hB
      rw [hname] at hs0 hB hM E1 E2 E92 E93 EX EY F1 F2 F3 F4 F9 F10 ⊢
      have zh16 := hB.size
      have zs16 := hs0
      clear hname hs0
      refine (lrlike_ans F9 F10 P9 I9 I10 (by omega) (by omega)).mono ?_
      rintro e w17 ⟨rfl, hov, hst⟩
      replace E1 := hst _ _ _ (noWord3 (fun _ e => by cases e) (fun _ e => by cases e) (fun _ e => by cases e)) E1
      replace E2 := hst _ _ _ (noWord3 (fun _ e => by cases e) (fun _ e => by cases e) (fun _ e => by cases e)) E2
      replace E92 := hst _ _ _ (noWord3 (fun _ e => by cases e) (fun _ e => by cases e) (fun _ e => by cases e)) E92
      replace E93 := hst _ _ _ (noWord3 (fun _ e => by cases e) (fun _ e => by cases e) (fun _ e => by cases e)) E93
      replace EX := hst _ _ _ (noWord3 (fun _ e => by cases e) (fun _ e => by cases e) (fun _ e => by cases e)) EX
      replace EY := hst _ _ _ (noWord3 (fun _ e => by cases e) (fun _ e => by cases e) (fun _ e => by cases e)) EY
      replace hB := hB.trans (hov.mono (by omega))
      replace hM := hM.trans (hov.mono (by omega))
      have zz17 := hov.size
      have zh17 := hB.size
      clear hov hst F1 F2 F3 F4 F9 F10
      have F1 := F1_M.below hM
      have F2 := F2_M.below hM
      have F3 := F3_M.below hM
      have F4 := F4_M.below hM
      clear P9 I9 P10 I10
      obtain ⟨k0, k1, k2, f0, f1, f2⟩ := E92.three
      obtain ⟨k3, k4, k5, f3, f4, f5⟩ := E93.three
      go_wp2_with fail
      clear k0 k1 k2 f0 f1 f2 k3 k4 k5 f3 f4 f5
      have hk := pcmp_all g1 g2 F3 F4 hl1 hl2
      rw [HC.out, HE.out] at hk
      refine (hk).mono ?_
      rintro e w18 ⟨rfl, hb⟩
      replace E1 := E1.below hb
      replace E2 := E2.below hb
      replace E92 := E92.below hb
      replace E93 := E93.below hb
      replace EX := EX.below hb
      replace EY := EY.below hb
      replace F1 := F1.below hb
      replace F2 := F2.below hb
      replace F3 := F3.below hb
      replace F4 := F4.below hb
      replace hB := hB.trans (hb.mono hB.size)
      replace hM := hM.trans (hb.mono hM.size)
      have zz18 := hb.size
      have zh18 := hB.size
      clear hb
      clear hk
      obtain ⟨k0, k1, k2, f0, f1, f2⟩ := E1.three
      obtain ⟨k3, k4, k5, f3, f4, f5⟩ := E2.three
      go_wp2_with fail
      clear k0 k1 k2 f0 f1 f2 k3 k4 k5 f3 f4 f5
      have hk := kcmp_all g1 g2 F1 F2 hl1 hl2
      rw [HC.out, HE.out] at hk
      refine (hk).mono ?_
      rintro e w19 ⟨rfl, hb⟩
      replace E1 := E1.below hb
      replace E2 := E2.below hb
      replace E92 := E92.below hb
      replace E93 := E93.below hb
      replace EX := EX.below hb
      replace EY := EY.below hb
      replace F1 := F1.below hb
      replace F2 := F2.below hb
      replace F3 := F3.below hb
      replace F4 := F4.below hb
      replace hB := hB.trans (hb.mono hB.size)
      replace hM := hM.trans (hb.mono hM.size)
      have zz19 := hb.size
      have zh19 := hB.size
      clear hb
      clear hk
      obtain ⟨k0, k1, k2, f0, f1, f2⟩ := E92.three
      go_wp2_with fail
      clear k0 k1 k2 f0 f1 f2
      have hk := pround_all g1 F3 hl1
      unfold RndSaid at hk
      rw [HF.out] at hk
      refine (hk).mono ?_
      rintro e w20 ⟨g30, a30, c30, z30, rfl, S30, N30, V30, b30, hb⟩
      replace E1 := E1.below hb
      replace E2 := E2.below hb
      replace E92 := E92.below hb
      replace E93 := E93.below hb
      replace EX := EX.below hb
      replace EY := EY.below hb
      replace F1 := F1.below hb
      replace F2 := F2.below hb
      replace F3 := F3.below hb
      replace F4 := F4.below hb
      replace hB := hB.trans (hb.mono hB.size)
      replace hM := hM.trans (hb.mono hM.size)
      have zz20 := hb.size
      have zh20 := hB.size
      clear hb
      clear hk
      obtain ⟨k0, k1, k2, f0, f1, f2⟩ := E1.three
      have qE1 := E1.lt
      have qE2 := E2.lt
      have qE92 := E92.lt
      have qE93 := E93.lt
      have qEX := EX.lt
      have qEY := EY.lt
      have hs0 := Nat.le_refl w20.heap.size
      have hq := below_new w20 (.cells #[.bool g30, .slice a30 z30.length c30] 25)
      replace E1 := E1.below hq
      replace E2 := E2.below hq
      replace E92 := E92.below hq
      replace E93 := E93.below hq
      replace EX := EX.below hq
      replace EY := EY.below hq
      replace F1 := F1.below hq
      replace F2 := F2.below hq
      replace F3 := F3.below hq
      replace F4 := F4.below hq
      replace S30 := S30.below hq
      have EP30 := Box.put (w := w20) (k := (w20.heap.size)) (.cells #[.bool g30, .slice a30 z30.length c30] 25) rfl
      replace hs0 := Nat.le_trans hs0 hq.size
      replace hB := hB.trans (hq.mono hB.size)
      replace hM := hM.trans (hq.mono hM.size)
      clear hq
      go_wp2_with fail
      clear k0 k1 k2 f0 f1 f2
      obtain ⟨u21, hname⟩ := nm hB
      rw [hname] at hs0 hB hM E1 E2 E92 E93 EX EY F1 F2 F3 F4 S30 EP30 ⊢
      have zh21 := hB.size
      have zs21 := hs0
      clear hname hs0
      have hk := kround_all g1 F1 hl1
      unfold RndSaid at hk
      rw [HF.out] at hk
      refine (hk).mono ?_
      rintro e w22 ⟨g31, a31, c31, z31, rfl, S31, N31, V31, b31, hb⟩
      replace E1 := E1.below hb
      replace E2 := E2.below hb
      replace E92 := E92.below hb
      replace E93 := E93.below hb
      replace EX := EX.below hb
      replace EY := EY.below hb
      replace F1 := F1.below hb
      replace F2 := F2.below hb
      replace F3 := F3.below hb
      replace F4 := F4.below hb
      replace S30 := S30.below hb
      replace EP30 := EP30.below hb
      replace hB := hB.trans (hb.mono hB.size)
      replace hM := hM.trans (hb.mono hM.size)
      have zz22 := hb.size
      have zh22 := hB.size
      clear hb
      clear hk
      obtain ⟨k0, k1, f0, f1⟩ := EP30.two
      have qE1 := E1.lt
      have qE2 := E2.lt
      have qE92 := E92.lt
      have qE93 := E93.lt
      have qEX := EX.lt
      have qEY := EY.lt
      have qEP30 := EP30.lt
      have hs0 := Nat.le_refl w22.heap.size
      have hq := below_new w22 (.cells #[.bool g31, .slice a31 z31.length c31] 25)
      replace E1 := E1.below hq
      replace E2 := E2.below hq
      replace E92 := E92.below hq
      replace E93 := E93.below hq
      replace EX := EX.below hq
      replace EY := EY.below hq
      replace F1 := F1.below hq
      replace F2 := F2.below hq
      replace F3 := F3.below hq
      replace F4 := F4.below hq
      replace S30 := S30.below hq
      replace EP30 := EP30.below hq
      replace S31 := S31.below hq
      have EP31 := Box.put (w := w22) (k := (w22.heap.size)) (.cells #[.bool g31, .slice a31 z31.length c31] 25) rfl
      replace hs0 := Nat.le_trans hs0 hq.size
      replace hB := hB.trans (hq.mono hB.size)
      replace hM := hM.trans (hq.mono hM.size)
      clear hq
      go_wp2_with fail
      clear k0 k1 f0 f1
      obtain ⟨u23, hname⟩ := nm hB
      rw [hname] at hs0 hB hM E1 E2 E92 E93 EX EY F1 F2 F3 F4 S30 EP30 S31 EP31 ⊢
      have zh23 := hB.size
      have zs23 := hs0
      clear hname hs0
      refine (samew_can g30 g31 S30 S31 N30 N31 (V30.out.trans V31.out.symm) (by omega)).mono ?_
      rintro e w24 ⟨rfl, hb⟩
      replace E1 := E1.below hb
      replace E2 := E2.below hb
      replace E92 := E92.below hb
      replace E93 := E93.below hb
      replace EX := EX.below hb
      replace EY := EY.below hb
      replace F1 := F1.below hb
      replace F2 := F2.below hb
      replace F3 := F3.below hb
      replace F4 := F4.below hb
      replace S30 := S30.below hb
      replace EP30 := EP30.below hb
      replace S31 := S31.below hb
      replace EP31 := EP31.below hb
      replace hB := hB.trans (hb.mono hB.size)
      replace hM := hM.trans (hb.mono hM.size)
      have zz24 := hb.size
      have zh24 := hB.size
      clear hb
      obtain ⟨k0, k1, f0, f1⟩ := EP30.two
      go_wp2_with fail
      clear k0 k1 f0 f1
      refine (overn_stay S30 (by omega)).mono ?_
      rintro e w25 ⟨rfl, hov, hst⟩
      replace E1 := hst _ _ _ (noWord3 (fun _ e => by cases e) (fun _ e => by cases e) (fun _ e => by cases e)) E1
      replace E2 := hst _ _ _ (noWord3 (fun _ e => by cases e) (fun _ e => by cases e) (fun _ e => by cases e)) E2
      replace E92 := hst _ _ _ (noWord3 (fun _ e => by cases e) (fun _ e => by cases e) (fun _ e => by cases e)) E92
      replace E93 := hst _ _ _ (noWord3 (fun _ e => by cases e) (fun _ e => by cases e) (fun _ e => by cases e)) E93
      replace EX := hst _ _ _ (noWord3 (fun _ e => by cases e) (fun _ e => by cases e) (fun _ e => by cases e)) EX
      replace EY := hst _ _ _ (noWord3 (fun _ e => by cases e) (fun _ e => by cases e) (fun _ e => by cases e)) EY
      replace EP30 := hst _ _ _ (noWord2 (fun _ e => by cases e) (fun _ e => by cases e)) EP30
      replace EP31 := hst _ _ _ (noWord2 (fun _ e => by cases e) (fun _ e => by cases e)) EP31
      replace hB := hB.trans (hov.mono (by omega))
      replace hM := hM.trans (hov.mono (by omega))
      have zz25 := hov.size
      have zh25 := hB.size
      clear hov hst F1 F2 F3 F4 S30 S31
      have F1 := F1_M.below hM
      have F2 := F2_M.below hM
      have F3 := F3_M.below hM
      have F4 := F4_M.below hM
      obtain ⟨k0, k1, k2, f0, f1, f2⟩ := E1.three
      obtain ⟨k3, k4, k5, f3, f4, f5⟩ := E92.three
      go_wp2_with fail
      clear k0 k1 k2 f0 f1 f2 k3 k4 k5 f3 f4 f5
      refine (samer_yes g1 F3 F1 (by omega) (by omega)).mono ?_
      rintro e w26 ⟨rfl, hb⟩
      replace E1 := E1.below hb
      replace E2 := E2.below hb
      replace E92 := E92.below hb
      replace E93 := E93.below hb
      replace EX := EX.below hb
      replace EY := EY.below hb
      replace EP30 := EP30.below hb
      replace EP31 := EP31.below hb
      replace F1 := F1.below hb
      replace F2 := F2.below hb
      replace F3 := F3.below hb
      replace F4 := F4.below hb
      replace hB := hB.trans (hb.mono hB.size)
      replace hM := hM.trans (hb.mono hM.size)
      have zz26 := hb.size
      have zh26 := hB.size
      clear hb
      obtain ⟨k0, k1, k2, f0, f1, f2⟩ := E2.three
      obtain ⟨k3, k4, k5, f3, f4, f5⟩ := E93.three
      go_wp2_with fail
      clear k0 k1 k2 f0 f1 f2 k3 k4 k5 f3 f4 f5
      refine (samer_yes g2 F4 F2 (by omega) (by omega)).mono ?_
      rintro e w27 ⟨rfl, hb⟩
      replace E1 := E1.below hb
      replace E2 := E2.below hb
      replace E92 := E92.below hb
      replace E93 := E93.below hb
      replace EX := EX.below hb
      replace EY := EY.below hb
      replace EP30 := EP30.below hb
      replace EP31 := EP31.below hb
      replace F1 := F1.below hb
      replace F2 := F2.below hb
      replace F3 := F3.below hb
      replace F4 := F4.below hb
      replace hB := hB.trans (hb.mono hB.size)
      replace hM := hM.trans (hb.mono hM.size)
      have zz27 := hb.size
      have zh27 := hB.size
      clear hb
      go_wp2_with fail
      refine (lrawake_any _).mono ?_
      rintro e w28 ⟨rfl, hb⟩
      replace E1 := E1.below hb
      replace E2 := E2.below hb
      replace E92 := E92.below hb
      replace E93 := E93.below hb
      replace EX := EX.below hb
      replace EY := EY.below hb
      replace EP30 := EP30.below hb
      replace EP31 := EP31.below hb
      replace F1 := F1.below hb
      replace F2 := F2.below hb
      replace F3 := F3.below hb
      replace F4 := F4.below hb
      replace hB := hB.trans (hb.mono hB.size)
      replace hM := hM.trans (hb.mono hM.size)
      have zz28 := hb.size
      have zh28 := hB.size
      clear hb
      go_wp2
      go_ret
      exact ⟨rfl, hB⟩
theorem lrreckons_any {a1 e1 : Option Addr} {c1 t1 : Nat} {x1 y1 : List Int} {a2 e2 : Option Addr} {c2 t2 : Nat} {x2 y2 : List Int} {w : World} (g1 : Bool) (F1 : Fr 0 w a1 c1 x1 e1 t1 y1) (g2 : Bool) (F2 : Fr 0 w a2 c2 x2 e2 t2 y2) (N : Int) (_hN : -9223372036854775808 ≤ N ∧ N ≤ 9223372036854775807) :
    Calls Tryz.prog 3 #[.agg #[.bool g1, .slice a1 x1.length c1, .slice e1 y1.length t1], .agg #[.bool g2, .slice a2 x2.length c2, .slice e2 y2.length t2], .int .i64 N] w fun e w' => e = .returned (.bool true) ∧ Below w.heap.size w w' := by
  by_cases h1 : x1.length ≤ 5 ∧ y1.length ≤ 5
  · by_cases h2 : x2.length ≤ 5 ∧ y2.length ≤ 5
    · by_cases k1 : 12 < N
      · by_cases k2 : N ≤ 10000
        · exact lrreckons_up g1 F1 g2 F2 h1 h2 N k1 k2 (by omega)
        · exact lrreckons_three g1 F1 g2 F2 h1 h2 N (by omega) (by omega)
      · by_cases k2 : N < -12
        · by_cases k3 : -10000 ≤ N
          · exact lrreckons_down g1 F1 g2 F2 h1 h2 N k1 k2 (by omega) k3
          · exact lrreckons_three g1 F1 g2 F2 h1 h2 N (by omega) (by omega)
        · exact lrreckons_three g1 F1 g2 F2 h1 h2 N (by omega) (by omega)
    · exact lrreckons_long g1 F1 g2 F2 N (long_yes _ ⟨_, List.mem_cons_of_mem _ (List.mem_cons_self ..), h2⟩)
  · exact lrreckons_long g1 F1 g2 F2 N (long_yes _ ⟨_, List.mem_cons_self .., h1⟩)
end Go.Proofs.YthlbobbmnahoiaaGreat
