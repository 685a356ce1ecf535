/-
  Joined: RatN RatNn SLaw SForms RatW RatX RatV RatQ.
-/
import Derived.Test.YtblmkddjlfienaaJSigB
import Derived.Test.YtblmkddjlfienaaJRatD
import Derived.Test.YtblmkddjlfienaaJRMulB
import Derived.Test.YtblmkddjlfienaaJLenOf
/-
  The walks of ratio: raise, Power.
-/
namespace Go.Proofs.Ytblmkddjlfienaa
open Go.RowKit

theorem blen_small : ∀ k : Nat, k < 13 → 2 ^ (blen (k : Int) + 1) ≤ 32 := by decide

set_option maxRecDepth 100000 in
set_option maxHeartbeats 1000000 in
/-- raise: a small power. -/
theorem raise_any {lo : Nat} {a : Option Addr} {la ca : Nat} {xs : List Int} {w : World} (ha : Seg lo w (.slice a la ca) xs) (k : Nat) (hk : k ≤ 12) (hl : xs.length ≤ 40) :
    Calls Try.prog 37 #[.slice a la ca, .int .i64 k] w fun e w' => ∃ (a1 : Option Addr) (c1 : Nat) (zs : List Int), e = .returned (.slice a1 zs.length c1) ∧ Seg w.heap.size w' (.slice a1 zs.length c1) zs ∧ Norm zs ∧ Hid (val zs = val xs ^ k) ∧ zs.length ≤ xs.length * k + 1 ∧ Below w.heap.size w w' := by
  have hbl := blen_words_up ha.words
  have hb1 : (k : Int) * (blen (val xs) : Int) ≤ 16777216 := by
    have : k * blen (val xs) ≤ 12 * (64 * 40) := Nat.mul_le_mul hk (by omega)
    have h2 : ((k * blen (val xs) : Nat) : Int) ≤ 16777216 := by omega
    rw [Int.natCast_mul] at h2
    exact h2
  have hb2 : (xs.length + 1) * 2 ^ (blen (k : Int) + 1) ≤ 4000 := by
    have := Nat.mul_le_mul (show xs.length + 1 ≤ 41 by omega) (blen_small k (by omega))
    omega
  have hp := power_int ha (k : Int) (by omega) (by omega) hb1 hb2
  clear hb1 hb2 hbl
  go_enter Try.func37, Try.ntmps37
  go_wp2_with fail
  refine hp.mono ?_
  rintro e w1 ⟨a1, c1, zs, rfl, hs1, hn1, hv1, hl1, hb1⟩
  have HV := hide hv1
  clear hv1 hp
  go_wp2
  go_ret
  exact ⟨_, _, zs, rfl, hs1, hn1, HV, by simpa using hl1, hb1⟩

theorem sgn_pow (b : Bool) (x : Int) (k : Nat) : sgn b x ^ k = sgn (b && (k % 2 == 1)) (x ^ k) := by
  cases b with
  | false => rfl
  | true =>
    induction k with
    | zero => simp [sgn]
    | succ k ih =>
      rw [Int.pow_succ, Int.pow_succ, ih]
      by_cases h : k % 2 = 1
      · have h2 : (k + 1) % 2 = 0 := by omega
        simp [sgn, h, h2, Int.neg_mul_neg]
      · have h1 : k % 2 = 0 := by omega
        have h2 : (k + 1) % 2 = 1 := by omega
        simp [sgn, h1, h2, Int.mul_neg]
theorem pow_is {b sg : Bool} {xs ds zu zd : List Int} {q : Rat} {n N k : Nat} (I : Is b xs ds q n) (wx : Words xs) (_wd : Words ds) (hs : (b && (k % 2 == 1)) = sg) (Vu : Hid (val zu = val xs ^ k)) (Nu : Norm zu) (Vd : Hid (val zd = val ds ^ k)) (Nd : Norm zd) (lu : zu.length ≤ N) (ld : zd.length ≤ N) : Is sg zu zd (q ^ k) N := by
  obtain ⟨l, e⟩ := low_pow I.low.2.2 k
  rw [sgn_pow, hs, ← Vu.out, ← Vd.out] at l e
  refine ⟨⟨⟨Nu, fun h => ?_⟩, Nd, l⟩, ?_, lu, ld⟩
  · rintro rfl
    have hb : b = true := by cases b <;> simp_all
    have hp := norm_pos wx I.low.1.1 (I.low.1.2 hb)
    have := Vu.out
    rw [val_nil] at this
    have := Int.pow_pos (m := k) hp
    omega
  · rw [ratL, e, ← I.rat]; rfl

set_option maxRecDepth 100000 in
set_option maxHeartbeats 4000000 in
/-- Power: too great a power. -/
theorem ppower_range {lo : Nat} {a c : Option Addr} {ca cc : Nat} {xs ds : List Int} {w : World} (b : Bool) (FA : Fr lo w a ca xs c cc ds) (hl : xs.length ≤ 400 ∧ ds.length ≤ 400) (N : Int) (HA : Hid (formR b xs ds = 0)) (hN : N < -10000 ∨ 10000 < N) :
    Calls Try.prog 14 #[.agg #[.bool b, .slice a xs.length ca, .slice c ds.length cc], .int .i64 N] w fun e w' => e = .returned (.tuple #[.agg #[.bool false, .slice none 0 0, .slice none 0 0], .int .i64 3]) ∧ Below w.heap.size w w' := by
  have hB := Below.refl w.heap.size w
  by_cases h1 : N < -10000
  · clear hN
    go_enter Try.func14, Try.ntmps14
    have hs0 := Nat.le_refl w.heap.size
    have hq : Below w.heap.size w (w.alloc (.cells #[.bool b, .slice a xs.length ca, .slice c ds.length cc] 27)) := (Below.refl _ _).alloc (Nat.le_refl _) _
    replace FA := FA.below hq
    have EA : Box (w.alloc (.cells #[.bool b, .slice a xs.length ca, .slice c ds.length cc] 27)) (w.heap.size) (.cells #[.bool b, .slice a xs.length ca, .slice c ds.length cc] 27) := Box.put (.cells #[.bool b, .slice a xs.length ca, .slice c ds.length cc] 27) rfl
    replace hs0 := Nat.le_trans hs0 hq.size
    replace hB := hB.trans (hq.mono hB.size)
    clear hq
    have hq : Below (w.alloc (.cells #[.bool b, .slice a xs.length ca, .slice c ds.length cc] 27)).heap.size (w.alloc (.cells #[.bool b, .slice a xs.length ca, .slice c ds.length cc] 27)) ((w.alloc (.cells #[.bool b, .slice a xs.length ca, .slice c ds.length cc] 27)).alloc (.cells #[.bool false, .slice none 0 0, .slice none 0 0] 27)) := (Below.refl _ _).alloc (Nat.le_refl _) _
    replace FA := FA.below hq
    replace EA := EA.below hq
    have ER : Box ((w.alloc (.cells #[.bool b, .slice a xs.length ca, .slice c ds.length cc] 27)).alloc (.cells #[.bool false, .slice none 0 0, .slice none 0 0] 27)) (w.heap.size + 1) (.cells #[.bool false, .slice none 0 0, .slice none 0 0] 27) := Box.put (.cells #[.bool false, .slice none 0 0, .slice none 0 0] 27) (by simp)
    replace hs0 := Nat.le_trans hs0 hq.size
    replace hB := hB.trans (hq.mono hB.size)
    clear hq
    go_wp2_with fail
    obtain ⟨u1, hname⟩ : ∃ u, ((w.alloc (.cells #[.bool b, .slice a xs.length ca, .slice c ds.length cc] 27)).alloc (.cells #[.bool false, .slice none 0 0, .slice none 0 0] 27)) = u := ⟨_, rfl⟩
    rw [hname] at hs0 hB FA EA ER ⊢
    have zh1 := hB.size
    have zs1 := hs0
    clear hname hs0
    have hk := pcheck_any b FA (by omega) (by omega)
    rw [HA.out] at hk
    refine (hk).mono ?_
    rintro e w2 ⟨rfl, hb⟩
    replace FA := FA.below hb
    replace EA := EA.below hb
    replace ER := ER.below hb
    replace hB := hB.trans (hb.mono hB.size)
    have zz2 := hb.size
    have zh2 := hB.size
    clear hb
    clear hk
    obtain ⟨k0, k1, k2, f0, f1, f2⟩ := EA.three
    obtain ⟨k3, k4, k5, f3, f4, f5⟩ := ER.three
    have hcc := ER.three
    have r0 := hcc.1
    have r1 := hcc.2.1
    have r2 := hcc.2.2.1
    clear hcc
    have qEA := EA.lt
    have qER := ER.lt
    have hs0 := Nat.le_refl w2.heap.size
    have hT := ((((Turns.refl (w.heap.size + 1) w2).setCell 0 (.bool false)).setCell 1 (.slice none 0 0)).setCell 2 (.slice none 0 0))
    replace FA := FA.beside ER (noWord3 (fun _ e => by cases e) (fun _ e => by cases e) (fun _ e => by cases e)) hT
    replace EA := EA.turns hT (by omega)
    replace ER : Box (((w2.setCell ⟨w.heap.size + 1, 0, none⟩ (.bool false)).setCell ⟨w.heap.size + 1, 1, none⟩ (.slice none 0 0)).setCell ⟨w.heap.size + 1, 2, none⟩ (.slice none 0 0)) (w.heap.size + 1) (.cells #[.bool false, .slice none 0 0, .slice none 0 0] 27) := ⟨Nat.lt_of_lt_of_le ER.lt hT.below.size, (heap_setCell_same _ _ 2 _ _ _ (heap_setCell_same _ _ 1 _ _ _ (heap_setCell_same _ _ 0 _ _ _ ER.what)))⟩
    replace hB := hB.trans (hT.below.mono (by omega))
    replace hs0 := Nat.le_trans hs0 hT.below.size
    clear hT
    go_wp2
    refine bodyPost_ret (v := .tuple #[.agg #[.bool false, .slice none 0 0, .slice none 0 0], .int .i64 3]) (by simp [results, Try.f14, go_sem, r0, r1, r2]) rfl ?_
    exact ⟨rfl, hB⟩
  · have h2 : 10000 < N := by omega
    clear hN
    go_enter Try.func14, Try.ntmps14
    have hs0 := Nat.le_refl w.heap.size
    have hq : Below w.heap.size w (w.alloc (.cells #[.bool b, .slice a xs.length ca, .slice c ds.length cc] 27)) := (Below.refl _ _).alloc (Nat.le_refl _) _
    replace FA := FA.below hq
    have EA : Box (w.alloc (.cells #[.bool b, .slice a xs.length ca, .slice c ds.length cc] 27)) (w.heap.size) (.cells #[.bool b, .slice a xs.length ca, .slice c ds.length cc] 27) := Box.put (.cells #[.bool b, .slice a xs.length ca, .slice c ds.length cc] 27) rfl
    replace hs0 := Nat.le_trans hs0 hq.size
    replace hB := hB.trans (hq.mono hB.size)
    clear hq
    have hq : Below (w.alloc (.cells #[.bool b, .slice a xs.length ca, .slice c ds.length cc] 27)).heap.size (w.alloc (.cells #[.bool b, .slice a xs.length ca, .slice c ds.length cc] 27)) ((w.alloc (.cells #[.bool b, .slice a xs.length ca, .slice c ds.length cc] 27)).alloc (.cells #[.bool false, .slice none 0 0, .slice none 0 0] 27)) := (Below.refl _ _).alloc (Nat.le_refl _) _
    replace FA := FA.below hq
    replace EA := EA.below hq
    have ER : Box ((w.alloc (.cells #[.bool b, .slice a xs.length ca, .slice c ds.length cc] 27)).alloc (.cells #[.bool false, .slice none 0 0, .slice none 0 0] 27)) (w.heap.size + 1) (.cells #[.bool false, .slice none 0 0, .slice none 0 0] 27) := Box.put (.cells #[.bool false, .slice none 0 0, .slice none 0 0] 27) (by simp)
    replace hs0 := Nat.le_trans hs0 hq.size
    replace hB := hB.trans (hq.mono hB.size)
    clear hq
    go_wp2_with fail
    obtain ⟨u1, hname⟩ : ∃ u, ((w.alloc (.cells #[.bool b, .slice a xs.length ca, .slice c ds.length cc] 27)).alloc (.cells #[.bool false, .slice none 0 0, .slice none 0 0] 27)) = u := ⟨_, rfl⟩
    rw [hname] at hs0 hB FA EA ER ⊢
    have zh1 := hB.size
    have zs1 := hs0
    clear hname hs0
    have hk := pcheck_any b FA (by omega) (by omega)
    rw [HA.out] at hk
    refine (hk).mono ?_
    rintro e w2 ⟨rfl, hb⟩
    replace FA := FA.below hb
    replace EA := EA.below hb
    replace ER := ER.below hb
    replace hB := hB.trans (hb.mono hB.size)
    have zz2 := hb.size
    have zh2 := hB.size
    clear hb
    clear hk
    obtain ⟨k0, k1, k2, f0, f1, f2⟩ := EA.three
    obtain ⟨k3, k4, k5, f3, f4, f5⟩ := ER.three
    have hcc := ER.three
    have r0 := hcc.1
    have r1 := hcc.2.1
    have r2 := hcc.2.2.1
    clear hcc
    have qEA := EA.lt
    have qER := ER.lt
    have hs0 := Nat.le_refl w2.heap.size
    have hT := ((((Turns.refl (w.heap.size + 1) w2).setCell 0 (.bool false)).setCell 1 (.slice none 0 0)).setCell 2 (.slice none 0 0))
    replace FA := FA.beside ER (noWord3 (fun _ e => by cases e) (fun _ e => by cases e) (fun _ e => by cases e)) hT
    replace EA := EA.turns hT (by omega)
    replace ER : Box (((w2.setCell ⟨w.heap.size + 1, 0, none⟩ (.bool false)).setCell ⟨w.heap.size + 1, 1, none⟩ (.slice none 0 0)).setCell ⟨w.heap.size + 1, 2, none⟩ (.slice none 0 0)) (w.heap.size + 1) (.cells #[.bool false, .slice none 0 0, .slice none 0 0] 27) := ⟨Nat.lt_of_lt_of_le ER.lt hT.below.size, (heap_setCell_same _ _ 2 _ _ _ (heap_setCell_same _ _ 1 _ _ _ (heap_setCell_same _ _ 0 _ _ _ ER.what)))⟩
    replace hB := hB.trans (hT.below.mono (by omega))
    replace hs0 := Nat.le_trans hs0 hT.below.size
    clear hT
    go_wp2
    refine bodyPost_ret (v := .tuple #[.agg #[.bool false, .slice none 0 0, .slice none 0 0], .int .i64 3]) (by simp [results, Try.f14, go_sem, r0, r1, r2]) rfl ?_
    exact ⟨rfl, hB⟩

set_option maxRecDepth 100000 in
set_option maxHeartbeats 4000000 in
/-- Power: of 0, below 0. -/
theorem ppower_zero {lo : Nat} {a c : Option Addr} {ca cc : Nat} {xs ds : List Int} {w : World} (b : Bool) (FA : Fr lo w a ca xs c cc ds) (hl : xs.length ≤ 400 ∧ ds.length ≤ 400) (N : Int) (HA : Hid (formR b xs ds = 0)) (hN : -10000 ≤ N ∧ N < 0) (hx : xs = []) :
    Calls Try.prog 14 #[.agg #[.bool b, .slice a xs.length ca, .slice c ds.length cc], .int .i64 N] w fun e w' => e = .returned (.tuple #[.agg #[.bool false, .slice none 0 0, .slice none 0 0], .int .i64 5]) ∧ Below w.heap.size w w' := by
  have hB := Below.refl w.heap.size w
  have HX := hide hx
  have h1 : ¬ N < -10000 := by omega
  have h2 : ¬ 10000 < N := by omega
  have h3 : N < 0 := hN.2
  clear hN hx
  go_enter Try.func14, Try.ntmps14
  have hs0 := Nat.le_refl w.heap.size
  have hq : Below w.heap.size w (w.alloc (.cells #[.bool b, .slice a xs.length ca, .slice c ds.length cc] 27)) := (Below.refl _ _).alloc (Nat.le_refl _) _
  replace FA := FA.below hq
  have EA : Box (w.alloc (.cells #[.bool b, .slice a xs.length ca, .slice c ds.length cc] 27)) (w.heap.size) (.cells #[.bool b, .slice a xs.length ca, .slice c ds.length cc] 27) := Box.put (.cells #[.bool b, .slice a xs.length ca, .slice c ds.length cc] 27) rfl
  replace hs0 := Nat.le_trans hs0 hq.size
  replace hB := hB.trans (hq.mono hB.size)
  clear hq
  have hq : Below (w.alloc (.cells #[.bool b, .slice a xs.length ca, .slice c ds.length cc] 27)).heap.size (w.alloc (.cells #[.bool b, .slice a xs.length ca, .slice c ds.length cc] 27)) ((w.alloc (.cells #[.bool b, .slice a xs.length ca, .slice c ds.length cc] 27)).alloc (.cells #[.bool false, .slice none 0 0, .slice none 0 0] 27)) := (Below.refl _ _).alloc (Nat.le_refl _) _
  replace FA := FA.below hq
  replace EA := EA.below hq
  have ER : Box ((w.alloc (.cells #[.bool b, .slice a xs.length ca, .slice c ds.length cc] 27)).alloc (.cells #[.bool false, .slice none 0 0, .slice none 0 0] 27)) (w.heap.size + 1) (.cells #[.bool false, .slice none 0 0, .slice none 0 0] 27) := Box.put (.cells #[.bool false, .slice none 0 0, .slice none 0 0] 27) (by simp)
  replace hs0 := Nat.le_trans hs0 hq.size
  replace hB := hB.trans (hq.mono hB.size)
  clear hq
  go_wp2_with fail
  obtain ⟨u1, hname⟩ : ∃ u, ((w.alloc (.cells #[.bool b, .slice a xs.length ca, .slice c ds.length cc] 27)).alloc (.cells #[.bool false, .slice none 0 0, .slice none 0 0] 27)) = u := ⟨_, rfl⟩
  rw [hname] at hs0 hB FA EA ER ⊢
  have zh1 := hB.size
  have zs1 := hs0
  clear hname hs0
  have hk := pcheck_any b FA (by omega) (by omega)
  rw [HA.out] at hk
  refine (hk).mono ?_
  rintro e w2 ⟨rfl, hb⟩
  replace FA := FA.below hb
  replace EA := EA.below hb
  replace ER := ER.below hb
  replace hB := hB.trans (hb.mono hB.size)
  have zz2 := hb.size
  have zh2 := hB.size
  clear hb
  clear hk
  obtain ⟨k0, k1, k2, f0, f1, f2⟩ := EA.three
  obtain ⟨k3, k4, k5, f3, f4, f5⟩ := ER.three
  go_wp2_with fail
  clear k0 k1 k2 f0 f1 f2 k3 k4 k5 f3 f4 f5
  have hk := fun w => isZero_any b a xs ca c ds cc w
  rw [show ((xs.length : Int) == 0) = true by rw [HX.out]; rfl] at hk
  refine (hk _).mono ?_
  rintro e w3 ⟨rfl, hb⟩
  replace FA := FA.below hb
  replace EA := EA.below hb
  replace ER := ER.below hb
  replace hB := hB.trans (hb.mono hB.size)
  have zz3 := hb.size
  have zh3 := hB.size
  clear hb
  clear hk
  obtain ⟨k0, k1, k2, f0, f1, f2⟩ := EA.three
  obtain ⟨k3, k4, k5, f3, f4, f5⟩ := ER.three
  have hcc := ER.three
  have r0 := hcc.1
  have r1 := hcc.2.1
  have r2 := hcc.2.2.1
  clear hcc
  have qEA := EA.lt
  have qER := ER.lt
  have hs0 := Nat.le_refl w3.heap.size
  have hT := ((((Turns.refl (w.heap.size + 1) w3).setCell 0 (.bool false)).setCell 1 (.slice none 0 0)).setCell 2 (.slice none 0 0))
  replace FA := FA.beside ER (noWord3 (fun _ e => by cases e) (fun _ e => by cases e) (fun _ e => by cases e)) hT
  replace EA := EA.turns hT (by omega)
  replace ER : Box (((w3.setCell ⟨w.heap.size + 1, 0, none⟩ (.bool false)).setCell ⟨w.heap.size + 1, 1, none⟩ (.slice none 0 0)).setCell ⟨w.heap.size + 1, 2, none⟩ (.slice none 0 0)) (w.heap.size + 1) (.cells #[.bool false, .slice none 0 0, .slice none 0 0] 27) := ⟨Nat.lt_of_lt_of_le ER.lt hT.below.size, (heap_setCell_same _ _ 2 _ _ _ (heap_setCell_same _ _ 1 _ _ _ (heap_setCell_same _ _ 0 _ _ _ ER.what)))⟩
  replace hB := hB.trans (hT.below.mono (by omega))
  replace hs0 := Nat.le_trans hs0 hT.below.size
  clear hT
  go_wp2
  refine bodyPost_ret (v := .tuple #[.agg #[.bool false, .slice none 0 0, .slice none 0 0], .int .i64 5]) (by simp [results, Try.f14, go_sem, r0, r1, r2]) rfl ?_
  exact ⟨rfl, hB⟩

set_option maxRecDepth 100000 in
set_option maxHeartbeats 4000000 in
/-- Power by a number from 0 on. -/
theorem ppower_pos {lo : Nat} {a c : Option Addr} {ca cc : Nat} {xs ds : List Int} {w : World} (b : Bool) (FA : Fr lo w a ca xs c cc ds) {n : Nat} {q : Rat} (IA : Is b xs ds q n) (hn : n ≤ 30) (k : Nat) (hk12 : k ≤ 12) :
    Calls Try.prog 14 #[.agg #[.bool b, .slice a xs.length ca, .slice c ds.length cc], .int .i64 k] w fun e w' => ∃ (b' : Bool) (a' : Option Addr) (ca' : Nat) (ts' : List Int) (c' : Option Addr) (cc' : Nat) (es' : List Int), e = .returned (.tuple #[.agg #[.bool b', .slice a' ts'.length ca', .slice c' es'.length cc'], .int .i64 0]) ∧ Fr w.heap.size w' a' ca' ts' c' cc' es' ∧ Apart a' c' ts' es' ∧ Is b' ts' es' (q ^ k) (n * k + 1) ∧ Below w.heap.size w w' := by
  have lxa := IA.lu
  have lda := IA.ld
  have hxk : xs.length * k ≤ n * k := Nat.mul_le_mul_right _ lxa
  have hdk : ds.length * k ≤ n * k := Nat.mul_le_mul_right _ lda
  have h1 : ¬ (k : Int) < -10000 := by omega
  have h2 : ¬ 10000 < (k : Int) := by omega
  have h3 : ¬ (k : Int) < 0 := by omega
  have HA : Hid (formR b xs ds = 0) := (formR_low FA.up.words FA.down.words).2 IA.low
  have hB := Below.refl w.heap.size w
  have hz := fun w => isZero_any b a xs ca c ds cc w
  generalize ((xs.length : Int) == 0) = z at hz
  cases z with
  | true =>
    cases b with
    | false =>
      go_enter Try.func14, Try.ntmps14
      have hs0 := Nat.le_refl w.heap.size
      have hq : Below w.heap.size w (w.alloc (.cells #[.bool false, .slice a xs.length ca, .slice c ds.length cc] 27)) := (Below.refl _ _).alloc (Nat.le_refl _) _
      replace FA := FA.below hq
      have EA : Box (w.alloc (.cells #[.bool false, .slice a xs.length ca, .slice c ds.length cc] 27)) (w.heap.size) (.cells #[.bool false, .slice a xs.length ca, .slice c ds.length cc] 27) := Box.put (.cells #[.bool false, .slice a xs.length ca, .slice c ds.length cc] 27) rfl
      replace hs0 := Nat.le_trans hs0 hq.size
      replace hB := hB.trans (hq.mono hB.size)
      clear hq
      have hq : Below (w.alloc (.cells #[.bool false, .slice a xs.length ca, .slice c ds.length cc] 27)).heap.size (w.alloc (.cells #[.bool false, .slice a xs.length ca, .slice c ds.length cc] 27)) ((w.alloc (.cells #[.bool false, .slice a xs.length ca, .slice c ds.length cc] 27)).alloc (.cells #[.bool false, .slice none 0 0, .slice none 0 0] 27)) := (Below.refl _ _).alloc (Nat.le_refl _) _
      replace FA := FA.below hq
      replace EA := EA.below hq
      have ER : Box ((w.alloc (.cells #[.bool false, .slice a xs.length ca, .slice c ds.length cc] 27)).alloc (.cells #[.bool false, .slice none 0 0, .slice none 0 0] 27)) (w.heap.size + 1) (.cells #[.bool false, .slice none 0 0, .slice none 0 0] 27) := Box.put (.cells #[.bool false, .slice none 0 0, .slice none 0 0] 27) (by simp)
      replace hs0 := Nat.le_trans hs0 hq.size
      replace hB := hB.trans (hq.mono hB.size)
      clear hq
      go_wp2_with fail
      obtain ⟨u1, hname⟩ : ∃ u, ((w.alloc (.cells #[.bool false, .slice a xs.length ca, .slice c ds.length cc] 27)).alloc (.cells #[.bool false, .slice none 0 0, .slice none 0 0] 27)) = u := ⟨_, rfl⟩
      rw [hname] at hs0 hB FA EA ER ⊢
      have zh1 := hB.size
      have zs1 := hs0
      clear hname hs0
      have hk := pcheck_any false FA (by omega) (by omega)
      rw [HA.out] at hk
      refine (hk).mono ?_
      rintro e w2 ⟨rfl, hb⟩
      replace FA := FA.below hb
      replace EA := EA.below hb
      replace ER := ER.below hb
      replace hB := hB.trans (hb.mono hB.size)
      have zz2 := hb.size
      have zh2 := hB.size
      clear hb
      clear hk
      obtain ⟨k0, k1, k2, f0, f1, f2⟩ := EA.three
      obtain ⟨k3, k4, k5, f3, f4, f5⟩ := ER.three
      go_wp2_with fail
      clear k0 k1 k2 f0 f1 f2 k3 k4 k5 f3 f4 f5
      refine (hz _).mono ?_
      rintro e w3 ⟨rfl, hb⟩
      replace FA := FA.below hb
      replace EA := EA.below hb
      replace ER := ER.below hb
      replace hB := hB.trans (hb.mono hB.size)
      have zz3 := hb.size
      have zh3 := hB.size
      clear hb
      obtain ⟨k0, k1, k2, f0, f1, f2⟩ := EA.three
      obtain ⟨k3, k4, k5, f3, f4, f5⟩ := ER.three
      go_wp2_with fail
      clear k0 k1 k2 f0 f1 f2 k3 k4 k5 f3 f4 f5
      refine (raise_any FA.up k hk12 (by omega)).mono ?_
      rintro e w4 ⟨a1, c1, z1, rfl, S1, N1, v1, l1, hb⟩
      have V1 : Hid (val z1 = val xs ^ k) := v1
      have b1 : z1.length ≤ n * k + 1 := by omega
      clear v1 l1
      replace FA := FA.below hb
      replace EA := EA.below hb
      replace ER := ER.below hb
      replace hB := hB.trans (hb.mono hB.size)
      have zz4 := hb.size
      have zh4 := hB.size
      clear hb
      have SU := S1
      obtain ⟨k0, k1, k2, f0, f1, f2⟩ := EA.three
      obtain ⟨k3, k4, k5, f3, f4, f5⟩ := ER.three
      have qEA := EA.lt
      have qER := ER.lt
      have hs0 := Nat.le_refl w4.heap.size
      have hq : Below w4.heap.size w4 (w4.alloc (.cells #[.bool false, .slice a1 z1.length c1] 25)) := (Below.refl _ _).alloc (Nat.le_refl _) _
      replace FA := FA.below hq
      replace EA := EA.below hq
      replace ER := ER.below hq
      replace S1 := S1.below hq
      have EU : Box (w4.alloc (.cells #[.bool false, .slice a1 z1.length c1] 25)) (w4.heap.size) (.cells #[.bool false, .slice a1 z1.length c1] 25) := Box.put (.cells #[.bool false, .slice a1 z1.length c1] 25) rfl
      replace hs0 := Nat.le_trans hs0 hq.size
      replace hB := hB.trans (hq.mono hB.size)
      clear hq
      go_wp2_with fail
      clear k0 k1 k2 f0 f1 f2 k3 k4 k5 f3 f4 f5
      obtain ⟨u5, hname⟩ : ∃ u, (w4.alloc (.cells #[.bool false, .slice a1 z1.length c1] 25)) = u := ⟨_, rfl⟩
      rw [hname] at hs0 hB FA EA ER S1 EU ⊢
      have zh5 := hB.size
      have zs5 := hs0
      clear hname hs0
      replace FA := FA.drew
      have qEA := EA.lt
      replace EA := EA.drew
      have qER := ER.lt
      replace ER := ER.drew
      replace S1 := S1.drew
      have qEU := EU.lt
      replace EU := EU.drew
      refine wp_yields 6 [.is (.agg #[.bool false, .slice a1 z1.length c1]), .is (.pointer (some ⟨w.heap.size, 2, none⟩)), .is (.slice c ds.length cc), .is (.int .i64 k), (Yield.nat u5.heap.size (val ds ^ k) (n * k + 1)), (Yield.natIn (fun s => .agg #[.bool false, .slice a1 z1.length c1, s]) u5.heap.size (val ds ^ k) (n * k + 1))] (by kernel_rfl) (by kernel_rfl) (lt_cons ?_ (lt_cons ?_ (lt_cons ?_ (lt_cons ?_ (lt_cons ?_ (lt_cons ?_ lt_nil)))))) ?_
      case refine_1 =>
        refine OpDoes.mk rfl ?_
        intro vs V hV hd K hK
        have d0 : vs 0 = .agg #[.bool false, .slice a1 z1.length c1] := hd 0 (by decide) (by kernel_rfl)
        have hh := fun (P : Prop) => Yield.nat_elim P (show ((Yield.nat u5.heap.size (val ds ^ k) (n * k + 1)) : Yield).At (vs 4) V from hd 4 (by decide) (by kernel_rfl))
        refine hh _ ?_
        intro a2 c2 z2 d4 S2 N2 V2 b2
        clear hh
        simp only [laidIn, List.getElem_toArray, List.getElem_cons_zero, List.getElem_cons_succ, List.getElem?_toArray, List.getElem?_cons_zero, List.getElem?_cons_succ, if_true, Act.put, List.setIfInBounds_toArray, List.set_cons_zero, List.set_cons_succ] at hK ⊢
        simp only [d0, d4] at hK ⊢
        go_simp
        exact hK.out _ _ (Below.refl _ _) ⟨_, _, _, rfl, S2, N2, V2, b2⟩ (not_fresh rfl)
      case refine_2 =>
        refine OpDoes.mk rfl ?_
        intro vs V hV hd K hK
        have d2 : vs 2 = .slice c ds.length cc := hd 2 (by decide) (by kernel_rfl)
        have d3 : vs 3 = .int .i64 k := hd 3 (by decide) (by kernel_rfl)
        simp only [laidIn, List.getElem_toArray, List.getElem_cons_zero, List.getElem_cons_succ, List.getElem?_toArray, List.getElem?_cons_zero, List.getElem?_cons_succ, if_true, Act.put, List.setIfInBounds_toArray, List.set_cons_zero, List.set_cons_succ] at hK ⊢
        simp only [d2, d3] at hK ⊢
        go_simp
        go_at_call 37
        refine (raise_any (FA.down.below hV) k hk12 (by omega)).mono ?_
        rintro e V' ⟨a2, c2, z2, rfl, S2, N2, v2, l2, hb⟩
        have V2 : Hid (val z2 = val ds ^ k) := v2
        have b2 : z2.length ≤ n * k + 1 := by omega
        clear v2 l2
        exact hK.out _ _ hb ⟨_, _, _, rfl, S2.mono hV.size, N2, V2, b2⟩ (not_fresh rfl)
      case refine_3 =>
        refine OpDoes.mk rfl ?_
        intro vs V hV hd K hK
        simp only [laidIn, List.getElem_toArray, List.getElem_cons_zero, List.getElem_cons_succ, List.getElem?_toArray, List.getElem?_cons_zero, List.getElem?_cons_succ, if_true, Act.put, List.setIfInBounds_toArray, List.set_cons_zero, List.set_cons_succ] at hK ⊢
        go_simp
        exact hK.out _ _ (Below.refl _ _) rfl (not_fresh rfl)
      case refine_4 =>
        refine OpDoes.mk rfl ?_
        intro vs V hV hd K hK
        have d1 : vs 1 = .pointer (some ⟨w.heap.size, 2, none⟩) := hd 1 (by decide) (by kernel_rfl)
        have hcc := (EA.below hV).three
        have k0 := hcc.1
        have k1 := hcc.2.1
        have k2 := hcc.2.2.1
        clear hcc
        simp only [laidIn, List.getElem_toArray, List.getElem_cons_zero, List.getElem_cons_succ, List.getElem?_toArray, List.getElem?_cons_zero, List.getElem?_cons_succ, if_true, Act.put, List.setIfInBounds_toArray, List.set_cons_zero, List.set_cons_succ] at hK ⊢
        simp only [d1] at hK ⊢
        go_simp
        exact hK.out _ _ (Below.refl _ _) rfl (not_fresh rfl)
      case refine_5 =>
        refine OpDoes.mk rfl ?_
        intro vs V hV hd K hK
        simp only [laidIn, List.getElem_toArray, List.getElem_cons_zero, List.getElem_cons_succ, List.getElem?_toArray, List.getElem?_cons_zero, List.getElem?_cons_succ, if_true, Act.put, List.setIfInBounds_toArray, List.set_cons_zero, List.set_cons_succ] at hK ⊢
        go_simp
        exact hK.out _ _ (Below.refl _ _) rfl (not_fresh rfl)
      case refine_6 =>
        refine OpDoes.mk rfl ?_
        intro vs V hV hd K hK
        have hcc := (EU.below hV).two
        have k0 := hcc.1
        have k1 := hcc.2.1
        clear hcc
        simp only [laidIn, List.getElem_toArray, List.getElem_cons_zero, List.getElem?_toArray, List.getElem?_cons_zero, List.getElem?_cons_succ, if_true, Act.put, List.setIfInBounds_toArray, List.set_cons_zero, List.set_cons_succ] at hK ⊢
        go_simp
        exact hK.out _ _ (Below.refl _ _) rfl (not_fresh rfl)
      case refine_7 =>
        intro vs Y1 hV hR hne fuel
        have d0 : vs 0 = .agg #[.bool false, .slice a1 z1.length c1] := hR 0 (by decide)
        have d1 : vs 1 = .pointer (some ⟨w.heap.size, 2, none⟩) := hR 1 (by decide)
        have d2 : vs 2 = .slice c ds.length cc := hR 2 (by decide)
        have d3 : vs 3 = .int .i64 k := hR 3 (by decide)
        have hh := fun (P : Prop) => Yield.nat_elim P (show ((Yield.nat u5.heap.size (val ds ^ k) (n * k + 1)) : Yield).At (vs 4) Y1 from hR 4 (by decide))
        refine hh _ ?_
        intro a2 c2 z2 d4 S2 N2 V2 b2
        clear hh
        have hh := fun (P : Prop) => Yield.natIn_elim P (show ((Yield.natIn (fun s => .agg #[.bool false, .slice a1 z1.length c1, s]) u5.heap.size (val ds ^ k) (n * k + 1)) : Yield).At (vs 5) Y1 from hR 5 (by decide))
        refine hh _ ?_
        intro a3 c3 z3 d5 S3 N3 V3 b3
        clear hh
        replace FA := FA.below hV
        replace EA := EA.below hV
        replace ER := ER.below hV
        replace S1 := S1.below hV
        replace EU := EU.below hV
        have hr := hV
        simp only [laidIn, List.getElem?_toArray, List.getElem?_cons_zero, List.getElem?_cons_succ, if_true, Act.put, List.setIfInBounds_toArray, List.set_cons_zero, List.set_cons_succ]
        simp only [d0, d1, d2, d3, d4, d5]
        clear hR hne hV d0 d1 d2 d3 d4 d5
        clear vs
        show wpAny _ _ _ _ (fuel + 2) _ _ _
        refine wpAny_all (rs := [6]) (by kernel_rfl) (by simp) (fun i hi => ?_)
        obtain rfl : i = 6 := by simpa using hi
        clear hi
        have hcc := ER.three
        have k0 := hcc.1
        have k1 := hcc.2.1
        have k2 := hcc.2.2.1
        have f0 := hcc.2.2.2.1
        have f1 := hcc.2.2.2.2.1
        have f2 := hcc.2.2.2.2.2
        clear hcc
        refine wpOp_step rfl (fun K hK => ?_)
        simp only [List.getElem_toArray, List.getElem_cons_zero, List.getElem_cons_succ]
        rw [if_pos (by rfl)]
        go_simp
        refine hK _ _ ?_
        clear hK k0 f0 k1 f1 k2 f2
        have hT := ((((Turns.refl (w.heap.size + 1) Y1).setCell 0 (.bool false)).setCell 1 (.slice a1 z1.length c1)).setCell 2 (.slice a3 z3.length c3))
        replace FA := FA.beside ER (noWord3 (fun _ e => by cases e) (fun _ e => by cases e) (fun _ e => by cases e)) hT
        replace EA := EA.turns hT (by omega)
        replace S1 := S1.beside ER (noWord3 (fun _ e => by cases e) (fun _ e => by cases e) (fun _ e => by cases e)) hT
        replace EU := EU.turns hT (by omega)
        replace S2 := S2.beside ER (noWord3 (fun _ e => by cases e) (fun _ e => by cases e) (fun _ e => by cases e)) hT
        replace S3 := S3.beside ER (noWord3 (fun _ e => by cases e) (fun _ e => by cases e) (fun _ e => by cases e)) hT
        replace ER : Box (((Y1.setCell ⟨w.heap.size + 1, 0, none⟩ (.bool false)).setCell ⟨w.heap.size + 1, 1, none⟩ (.slice a1 z1.length c1)).setCell ⟨w.heap.size + 1, 2, none⟩ (.slice a3 z3.length c3)) (w.heap.size + 1) (.cells #[.bool false, .slice a1 z1.length c1, .slice a3 z3.length c3] 27) := ⟨Nat.lt_of_lt_of_le ER.lt hT.below.size, (heap_setCell_same _ _ 2 _ _ _ (heap_setCell_same _ _ 1 _ _ _ (heap_setCell_same _ _ 0 _ _ _ ER.what)))⟩
        have hr6 := hT.below
        obtain ⟨X1, hX⟩ : ∃ X, (((Y1.setCell ⟨w.heap.size + 1, 0, none⟩ (.bool false)).setCell ⟨w.heap.size + 1, 1, none⟩ (.slice a1 z1.length c1)).setCell ⟨w.heap.size + 1, 2, none⟩ (.slice a3 z3.length c3)) = X := ⟨_, rfl⟩
        rw [hX] at FA EA ER S1 EU S2 S3 hr6 ⊢
        clear hX hT
        refine wpAny_all (rs := [7]) (by kernel_rfl) (by simp) (fun i hi => ?_)
        obtain rfl : i = 7 := by simpa using hi
        clear hi
        refine wpOp_step rfl (fun K hK => ?_)
        simp only [List.getElem_toArray, List.getElem_cons_zero, List.getElem_cons_succ]
        rw [if_pos (by rfl)]
        go_simp
        refine hK _ _ ?_
        clear hK
        refine wpAny_done (by kernel_rfl) ?_ _
        replace hB := hB.trans ((Below.trans (Below.drew (Below.refl u5.heap.size u5)) hr).mono hB.size)
        replace hB := hB.trans (hr6.mono (by omega))
        have zz5_1 := hr.size
        have zi1 := hB.size
        have zy1_6 := hr6.size
        clear hr hr6
        have HI := pow_is (N := n * k + 1) (k := k) (sg := false) (b := false) IA FA.up.words FA.down.words (by simp) V1 N1 V3 N3 (by omega) (by omega)
        have HAP := hide (apart_of (fun h b o e => SU.block h b o e) S3 (by omega) : Apart a1 a3 z1 z3)
        obtain ⟨k0, k1, k2, f0, f1, f2⟩ := EA.three
        obtain ⟨k3, k4, k5, f3, f4, f5⟩ := ER.three
        obtain ⟨k6, k7, f6, f7⟩ := EU.two
        have hcc := ER.three
        have r0 := hcc.1
        have r1 := hcc.2.1
        have r2 := hcc.2.2.1
        clear hcc
        go_wp2
        refine bodyPost_ret (v := .tuple #[.agg #[.bool false, .slice a1 z1.length c1, .slice a3 z3.length c3], .int .i64 0]) (by simp [results, Try.f14, go_sem, r0, r1, r2]) rfl ?_
        exact ⟨_, _, _, _, _, _, _, rfl, ⟨S1.mono (by omega), S3.mono (by omega)⟩, HAP.out, HI, hB⟩
    | true =>
      by_cases hpar : k % 2 = 1
      · have hp2 : ((k : Int) % 2 == 1) = true := beq_iff_eq.2 (by omega)
        go_enter Try.func14, Try.ntmps14
        have hs0 := Nat.le_refl w.heap.size
        have hq : Below w.heap.size w (w.alloc (.cells #[.bool true, .slice a xs.length ca, .slice c ds.length cc] 27)) := (Below.refl _ _).alloc (Nat.le_refl _) _
        replace FA := FA.below hq
        have EA : Box (w.alloc (.cells #[.bool true, .slice a xs.length ca, .slice c ds.length cc] 27)) (w.heap.size) (.cells #[.bool true, .slice a xs.length ca, .slice c ds.length cc] 27) := Box.put (.cells #[.bool true, .slice a xs.length ca, .slice c ds.length cc] 27) rfl
        replace hs0 := Nat.le_trans hs0 hq.size
        replace hB := hB.trans (hq.mono hB.size)
        clear hq
        have hq : Below (w.alloc (.cells #[.bool true, .slice a xs.length ca, .slice c ds.length cc] 27)).heap.size (w.alloc (.cells #[.bool true, .slice a xs.length ca, .slice c ds.length cc] 27)) ((w.alloc (.cells #[.bool true, .slice a xs.length ca, .slice c ds.length cc] 27)).alloc (.cells #[.bool false, .slice none 0 0, .slice none 0 0] 27)) := (Below.refl _ _).alloc (Nat.le_refl _) _
        replace FA := FA.below hq
        replace EA := EA.below hq
        have ER : Box ((w.alloc (.cells #[.bool true, .slice a xs.length ca, .slice c ds.length cc] 27)).alloc (.cells #[.bool false, .slice none 0 0, .slice none 0 0] 27)) (w.heap.size + 1) (.cells #[.bool false, .slice none 0 0, .slice none 0 0] 27) := Box.put (.cells #[.bool false, .slice none 0 0, .slice none 0 0] 27) (by simp)
        replace hs0 := Nat.le_trans hs0 hq.size
        replace hB := hB.trans (hq.mono hB.size)
        clear hq
        go_wp2_with fail
        obtain ⟨u1, hname⟩ : ∃ u, ((w.alloc (.cells #[.bool true, .slice a xs.length ca, .slice c ds.length cc] 27)).alloc (.cells #[.bool false, .slice none 0 0, .slice none 0 0] 27)) = u := ⟨_, rfl⟩
        rw [hname] at hs0 hB FA EA ER ⊢
        have zh1 := hB.size
        have zs1 := hs0
        clear hname hs0
        have hk := pcheck_any true FA (by omega) (by omega)
        rw [HA.out] at hk
        refine (hk).mono ?_
        rintro e w2 ⟨rfl, hb⟩
        replace FA := FA.below hb
        replace EA := EA.below hb
        replace ER := ER.below hb
        replace hB := hB.trans (hb.mono hB.size)
        have zz2 := hb.size
        have zh2 := hB.size
        clear hb
        clear hk
        obtain ⟨k0, k1, k2, f0, f1, f2⟩ := EA.three
        obtain ⟨k3, k4, k5, f3, f4, f5⟩ := ER.three
        go_wp2_with fail
        clear k0 k1 k2 f0 f1 f2 k3 k4 k5 f3 f4 f5
        refine (hz _).mono ?_
        rintro e w3 ⟨rfl, hb⟩
        replace FA := FA.below hb
        replace EA := EA.below hb
        replace ER := ER.below hb
        replace hB := hB.trans (hb.mono hB.size)
        have zz3 := hb.size
        have zh3 := hB.size
        clear hb
        obtain ⟨k0, k1, k2, f0, f1, f2⟩ := EA.three
        obtain ⟨k3, k4, k5, f3, f4, f5⟩ := ER.three
        go_wp2_with fail
        clear k0 k1 k2 f0 f1 f2 k3 k4 k5 f3 f4 f5
        refine (raise_any FA.up k hk12 (by omega)).mono ?_
        rintro e w4 ⟨a1, c1, z1, rfl, S1, N1, v1, l1, hb⟩
        have V1 : Hid (val z1 = val xs ^ k) := v1
        have b1 : z1.length ≤ n * k + 1 := by omega
        clear v1 l1
        replace FA := FA.below hb
        replace EA := EA.below hb
        replace ER := ER.below hb
        replace hB := hB.trans (hb.mono hB.size)
        have zz4 := hb.size
        have zh4 := hB.size
        clear hb
        have SU := S1
        obtain ⟨k0, k1, k2, f0, f1, f2⟩ := EA.three
        obtain ⟨k3, k4, k5, f3, f4, f5⟩ := ER.three
        have qEA := EA.lt
        have qER := ER.lt
        have hs0 := Nat.le_refl w4.heap.size
        have hq : Below w4.heap.size w4 (w4.alloc (.cells #[.bool true, .slice a1 z1.length c1] 25)) := (Below.refl _ _).alloc (Nat.le_refl _) _
        replace FA := FA.below hq
        replace EA := EA.below hq
        replace ER := ER.below hq
        replace S1 := S1.below hq
        have EU : Box (w4.alloc (.cells #[.bool true, .slice a1 z1.length c1] 25)) (w4.heap.size) (.cells #[.bool true, .slice a1 z1.length c1] 25) := Box.put (.cells #[.bool true, .slice a1 z1.length c1] 25) rfl
        replace hs0 := Nat.le_trans hs0 hq.size
        replace hB := hB.trans (hq.mono hB.size)
        clear hq
        go_wp2_with fail
        clear k0 k1 k2 f0 f1 f2 k3 k4 k5 f3 f4 f5
        obtain ⟨u5, hname⟩ : ∃ u, (w4.alloc (.cells #[.bool true, .slice a1 z1.length c1] 25)) = u := ⟨_, rfl⟩
        rw [hname] at hs0 hB FA EA ER S1 EU ⊢
        have zh5 := hB.size
        have zs5 := hs0
        clear hname hs0
        replace FA := FA.drew
        have qEA := EA.lt
        replace EA := EA.drew
        have qER := ER.lt
        replace ER := ER.drew
        replace S1 := S1.drew
        have qEU := EU.lt
        replace EU := EU.drew
        refine wp_yields 6 [.is (.agg #[.bool true, .slice a1 z1.length c1]), .is (.pointer (some ⟨w.heap.size, 2, none⟩)), .is (.slice c ds.length cc), .is (.int .i64 k), (Yield.nat u5.heap.size (val ds ^ k) (n * k + 1)), (Yield.natIn (fun s => .agg #[.bool true, .slice a1 z1.length c1, s]) u5.heap.size (val ds ^ k) (n * k + 1))] (by kernel_rfl) (by kernel_rfl) (lt_cons ?_ (lt_cons ?_ (lt_cons ?_ (lt_cons ?_ (lt_cons ?_ (lt_cons ?_ lt_nil)))))) ?_
        case refine_1 =>
          refine OpDoes.mk rfl ?_
          intro vs V hV hd K hK
          have d0 : vs 0 = .agg #[.bool true, .slice a1 z1.length c1] := hd 0 (by decide) (by kernel_rfl)
          have hh := fun (P : Prop) => Yield.nat_elim P (show ((Yield.nat u5.heap.size (val ds ^ k) (n * k + 1)) : Yield).At (vs 4) V from hd 4 (by decide) (by kernel_rfl))
          refine hh _ ?_
          intro a2 c2 z2 d4 S2 N2 V2 b2
          clear hh
          simp only [laidIn, List.getElem_toArray, List.getElem_cons_zero, List.getElem_cons_succ, List.getElem?_toArray, List.getElem?_cons_zero, List.getElem?_cons_succ, if_true, Act.put, List.setIfInBounds_toArray, List.set_cons_zero, List.set_cons_succ] at hK ⊢
          simp only [d0, d4] at hK ⊢
          go_simp
          exact hK.out _ _ (Below.refl _ _) ⟨_, _, _, rfl, S2, N2, V2, b2⟩ (not_fresh rfl)
        case refine_2 =>
          refine OpDoes.mk rfl ?_
          intro vs V hV hd K hK
          have d2 : vs 2 = .slice c ds.length cc := hd 2 (by decide) (by kernel_rfl)
          have d3 : vs 3 = .int .i64 k := hd 3 (by decide) (by kernel_rfl)
          simp only [laidIn, List.getElem_toArray, List.getElem_cons_zero, List.getElem_cons_succ, List.getElem?_toArray, List.getElem?_cons_zero, List.getElem?_cons_succ, if_true, Act.put, List.setIfInBounds_toArray, List.set_cons_zero, List.set_cons_succ] at hK ⊢
          simp only [d2, d3] at hK ⊢
          go_simp
          go_at_call 37
          refine (raise_any (FA.down.below hV) k hk12 (by omega)).mono ?_
          rintro e V' ⟨a2, c2, z2, rfl, S2, N2, v2, l2, hb⟩
          have V2 : Hid (val z2 = val ds ^ k) := v2
          have b2 : z2.length ≤ n * k + 1 := by omega
          clear v2 l2
          exact hK.out _ _ hb ⟨_, _, _, rfl, S2.mono hV.size, N2, V2, b2⟩ (not_fresh rfl)
        case refine_3 =>
          refine OpDoes.mk rfl ?_
          intro vs V hV hd K hK
          simp only [laidIn, List.getElem_toArray, List.getElem_cons_zero, List.getElem_cons_succ, List.getElem?_toArray, List.getElem?_cons_zero, List.getElem?_cons_succ, if_true, Act.put, List.setIfInBounds_toArray, List.set_cons_zero, List.set_cons_succ] at hK ⊢
          go_simp
          exact hK.out _ _ (Below.refl _ _) rfl (not_fresh rfl)
        case refine_4 =>
          refine OpDoes.mk rfl ?_
          intro vs V hV hd K hK
          have d1 : vs 1 = .pointer (some ⟨w.heap.size, 2, none⟩) := hd 1 (by decide) (by kernel_rfl)
          have hcc := (EA.below hV).three
          have k0 := hcc.1
          have k1 := hcc.2.1
          have k2 := hcc.2.2.1
          clear hcc
          simp only [laidIn, List.getElem_toArray, List.getElem_cons_zero, List.getElem_cons_succ, List.getElem?_toArray, List.getElem?_cons_zero, List.getElem?_cons_succ, if_true, Act.put, List.setIfInBounds_toArray, List.set_cons_zero, List.set_cons_succ] at hK ⊢
          simp only [d1] at hK ⊢
          go_simp
          exact hK.out _ _ (Below.refl _ _) rfl (not_fresh rfl)
        case refine_5 =>
          refine OpDoes.mk rfl ?_
          intro vs V hV hd K hK
          simp only [laidIn, List.getElem_toArray, List.getElem_cons_zero, List.getElem_cons_succ, List.getElem?_toArray, List.getElem?_cons_zero, List.getElem?_cons_succ, if_true, Act.put, List.setIfInBounds_toArray, List.set_cons_zero, List.set_cons_succ] at hK ⊢
          go_simp
          exact hK.out _ _ (Below.refl _ _) rfl (not_fresh rfl)
        case refine_6 =>
          refine OpDoes.mk rfl ?_
          intro vs V hV hd K hK
          have hcc := (EU.below hV).two
          have k0 := hcc.1
          have k1 := hcc.2.1
          clear hcc
          simp only [laidIn, List.getElem_toArray, List.getElem_cons_zero, List.getElem?_toArray, List.getElem?_cons_zero, List.getElem?_cons_succ, if_true, Act.put, List.setIfInBounds_toArray, List.set_cons_zero, List.set_cons_succ] at hK ⊢
          go_simp
          exact hK.out _ _ (Below.refl _ _) rfl (not_fresh rfl)
        case refine_7 =>
          intro vs Y1 hV hR hne fuel
          have d0 : vs 0 = .agg #[.bool true, .slice a1 z1.length c1] := hR 0 (by decide)
          have d1 : vs 1 = .pointer (some ⟨w.heap.size, 2, none⟩) := hR 1 (by decide)
          have d2 : vs 2 = .slice c ds.length cc := hR 2 (by decide)
          have d3 : vs 3 = .int .i64 k := hR 3 (by decide)
          have hh := fun (P : Prop) => Yield.nat_elim P (show ((Yield.nat u5.heap.size (val ds ^ k) (n * k + 1)) : Yield).At (vs 4) Y1 from hR 4 (by decide))
          refine hh _ ?_
          intro a2 c2 z2 d4 S2 N2 V2 b2
          clear hh
          have hh := fun (P : Prop) => Yield.natIn_elim P (show ((Yield.natIn (fun s => .agg #[.bool true, .slice a1 z1.length c1, s]) u5.heap.size (val ds ^ k) (n * k + 1)) : Yield).At (vs 5) Y1 from hR 5 (by decide))
          refine hh _ ?_
          intro a3 c3 z3 d5 S3 N3 V3 b3
          clear hh
          replace FA := FA.below hV
          replace EA := EA.below hV
          replace ER := ER.below hV
          replace S1 := S1.below hV
          replace EU := EU.below hV
          have hr := hV
          simp only [laidIn, List.getElem?_toArray, List.getElem?_cons_zero, List.getElem?_cons_succ, if_true, Act.put, List.setIfInBounds_toArray, List.set_cons_zero, List.set_cons_succ]
          simp only [d0, d1, d2, d3, d4, d5]
          clear hR hne hV d0 d1 d2 d3 d4 d5
          clear vs
          show wpAny _ _ _ _ (fuel + 2) _ _ _
          refine wpAny_all (rs := [6]) (by kernel_rfl) (by simp) (fun i hi => ?_)
          obtain rfl : i = 6 := by simpa using hi
          clear hi
          have hcc := ER.three
          have k0 := hcc.1
          have k1 := hcc.2.1
          have k2 := hcc.2.2.1
          have f0 := hcc.2.2.2.1
          have f1 := hcc.2.2.2.2.1
          have f2 := hcc.2.2.2.2.2
          clear hcc
          refine wpOp_step rfl (fun K hK => ?_)
          simp only [List.getElem_toArray, List.getElem_cons_zero, List.getElem_cons_succ]
          rw [if_pos (by rfl)]
          go_simp
          refine hK _ _ ?_
          clear hK k0 f0 k1 f1 k2 f2
          have hT := ((((Turns.refl (w.heap.size + 1) Y1).setCell 0 (.bool true)).setCell 1 (.slice a1 z1.length c1)).setCell 2 (.slice a3 z3.length c3))
          replace FA := FA.beside ER (noWord3 (fun _ e => by cases e) (fun _ e => by cases e) (fun _ e => by cases e)) hT
          replace EA := EA.turns hT (by omega)
          replace S1 := S1.beside ER (noWord3 (fun _ e => by cases e) (fun _ e => by cases e) (fun _ e => by cases e)) hT
          replace EU := EU.turns hT (by omega)
          replace S2 := S2.beside ER (noWord3 (fun _ e => by cases e) (fun _ e => by cases e) (fun _ e => by cases e)) hT
          replace S3 := S3.beside ER (noWord3 (fun _ e => by cases e) (fun _ e => by cases e) (fun _ e => by cases e)) hT
          replace ER : Box (((Y1.setCell ⟨w.heap.size + 1, 0, none⟩ (.bool true)).setCell ⟨w.heap.size + 1, 1, none⟩ (.slice a1 z1.length c1)).setCell ⟨w.heap.size + 1, 2, none⟩ (.slice a3 z3.length c3)) (w.heap.size + 1) (.cells #[.bool true, .slice a1 z1.length c1, .slice a3 z3.length c3] 27) := ⟨Nat.lt_of_lt_of_le ER.lt hT.below.size, (heap_setCell_same _ _ 2 _ _ _ (heap_setCell_same _ _ 1 _ _ _ (heap_setCell_same _ _ 0 _ _ _ ER.what)))⟩
          have hr6 := hT.below
          obtain ⟨X1, hX⟩ : ∃ X, (((Y1.setCell ⟨w.heap.size + 1, 0, none⟩ (.bool true)).setCell ⟨w.heap.size + 1, 1, none⟩ (.slice a1 z1.length c1)).setCell ⟨w.heap.size + 1, 2, none⟩ (.slice a3 z3.length c3)) = X := ⟨_, rfl⟩
          rw [hX] at FA EA ER S1 EU S2 S3 hr6 ⊢
          clear hX hT
          refine wpAny_all (rs := [7]) (by kernel_rfl) (by simp) (fun i hi => ?_)
          obtain rfl : i = 7 := by simpa using hi
          clear hi
          refine wpOp_step rfl (fun K hK => ?_)
          simp only [List.getElem_toArray, List.getElem_cons_zero, List.getElem_cons_succ]
          rw [if_pos (by rfl)]
          go_simp
          refine hK _ _ ?_
          clear hK
          refine wpAny_done (by kernel_rfl) ?_ _
          replace hB := hB.trans ((Below.trans (Below.drew (Below.refl u5.heap.size u5)) hr).mono hB.size)
          replace hB := hB.trans (hr6.mono (by omega))
          have zz5_1 := hr.size
          have zi1 := hB.size
          have zy1_6 := hr6.size
          clear hr hr6
          have HI := pow_is (N := n * k + 1) (k := k) (sg := true) (b := true) IA FA.up.words FA.down.words (by simp [hpar]) V1 N1 V3 N3 (by omega) (by omega)
          have HAP := hide (apart_of (fun h b o e => SU.block h b o e) S3 (by omega) : Apart a1 a3 z1 z3)
          obtain ⟨k0, k1, k2, f0, f1, f2⟩ := EA.three
          obtain ⟨k3, k4, k5, f3, f4, f5⟩ := ER.three
          obtain ⟨k6, k7, f6, f7⟩ := EU.two
          have hcc := ER.three
          have r0 := hcc.1
          have r1 := hcc.2.1
          have r2 := hcc.2.2.1
          clear hcc
          go_wp2
          refine bodyPost_ret (v := .tuple #[.agg #[.bool true, .slice a1 z1.length c1, .slice a3 z3.length c3], .int .i64 0]) (by simp [results, Try.f14, go_sem, r0, r1, r2]) rfl ?_
          exact ⟨_, _, _, _, _, _, _, rfl, ⟨S1.mono (by omega), S3.mono (by omega)⟩, HAP.out, HI, hB⟩
      · have hp2 : ((k : Int) % 2 == 1) = false := beq_eq_false_iff_ne.2 (by omega)
        go_enter Try.func14, Try.ntmps14
        have hs0 := Nat.le_refl w.heap.size
        have hq : Below w.heap.size w (w.alloc (.cells #[.bool true, .slice a xs.length ca, .slice c ds.length cc] 27)) := (Below.refl _ _).alloc (Nat.le_refl _) _
        replace FA := FA.below hq
        have EA : Box (w.alloc (.cells #[.bool true, .slice a xs.length ca, .slice c ds.length cc] 27)) (w.heap.size) (.cells #[.bool true, .slice a xs.length ca, .slice c ds.length cc] 27) := Box.put (.cells #[.bool true, .slice a xs.length ca, .slice c ds.length cc] 27) rfl
        replace hs0 := Nat.le_trans hs0 hq.size
        replace hB := hB.trans (hq.mono hB.size)
        clear hq
        have hq : Below (w.alloc (.cells #[.bool true, .slice a xs.length ca, .slice c ds.length cc] 27)).heap.size (w.alloc (.cells #[.bool true, .slice a xs.length ca, .slice c ds.length cc] 27)) ((w.alloc (.cells #[.bool true, .slice a xs.length ca, .slice c ds.length cc] 27)).alloc (.cells #[.bool false, .slice none 0 0, .slice none 0 0] 27)) := (Below.refl _ _).alloc (Nat.le_refl _) _
        replace FA := FA.below hq
        replace EA := EA.below hq
        have ER : Box ((w.alloc (.cells #[.bool true, .slice a xs.length ca, .slice c ds.length cc] 27)).alloc (.cells #[.bool false, .slice none 0 0, .slice none 0 0] 27)) (w.heap.size + 1) (.cells #[.bool false, .slice none 0 0, .slice none 0 0] 27) := Box.put (.cells #[.bool false, .slice none 0 0, .slice none 0 0] 27) (by simp)
        replace hs0 := Nat.le_trans hs0 hq.size
        replace hB := hB.trans (hq.mono hB.size)
        clear hq
        go_wp2_with fail
        obtain ⟨u1, hname⟩ : ∃ u, ((w.alloc (.cells #[.bool true, .slice a xs.length ca, .slice c ds.length cc] 27)).alloc (.cells #[.bool false, .slice none 0 0, .slice none 0 0] 27)) = u := ⟨_, rfl⟩
        rw [hname] at hs0 hB FA EA ER ⊢
        have zh1 := hB.size
        have zs1 := hs0
        clear hname hs0
        have hk := pcheck_any true FA (by omega) (by omega)
        rw [HA.out] at hk
        refine (hk).mono ?_
        rintro e w2 ⟨rfl, hb⟩
        replace FA := FA.below hb
        replace EA := EA.below hb
        replace ER := ER.below hb
        replace hB := hB.trans (hb.mono hB.size)
        have zz2 := hb.size
        have zh2 := hB.size
        clear hb
        clear hk
        obtain ⟨k0, k1, k2, f0, f1, f2⟩ := EA.three
        obtain ⟨k3, k4, k5, f3, f4, f5⟩ := ER.three
        go_wp2_with fail
        clear k0 k1 k2 f0 f1 f2 k3 k4 k5 f3 f4 f5
        refine (hz _).mono ?_
        rintro e w3 ⟨rfl, hb⟩
        replace FA := FA.below hb
        replace EA := EA.below hb
        replace ER := ER.below hb
        replace hB := hB.trans (hb.mono hB.size)
        have zz3 := hb.size
        have zh3 := hB.size
        clear hb
        obtain ⟨k0, k1, k2, f0, f1, f2⟩ := EA.three
        obtain ⟨k3, k4, k5, f3, f4, f5⟩ := ER.three
        go_wp2_with fail
        clear k0 k1 k2 f0 f1 f2 k3 k4 k5 f3 f4 f5
        refine (raise_any FA.up k hk12 (by omega)).mono ?_
        rintro e w4 ⟨a1, c1, z1, rfl, S1, N1, v1, l1, hb⟩
        have V1 : Hid (val z1 = val xs ^ k) := v1
        have b1 : z1.length ≤ n * k + 1 := by omega
        clear v1 l1
        replace FA := FA.below hb
        replace EA := EA.below hb
        replace ER := ER.below hb
        replace hB := hB.trans (hb.mono hB.size)
        have zz4 := hb.size
        have zh4 := hB.size
        clear hb
        have SU := S1
        obtain ⟨k0, k1, k2, f0, f1, f2⟩ := EA.three
        obtain ⟨k3, k4, k5, f3, f4, f5⟩ := ER.three
        have qEA := EA.lt
        have qER := ER.lt
        have hs0 := Nat.le_refl w4.heap.size
        have hq : Below w4.heap.size w4 (w4.alloc (.cells #[.bool false, .slice a1 z1.length c1] 25)) := (Below.refl _ _).alloc (Nat.le_refl _) _
        replace FA := FA.below hq
        replace EA := EA.below hq
        replace ER := ER.below hq
        replace S1 := S1.below hq
        have EU : Box (w4.alloc (.cells #[.bool false, .slice a1 z1.length c1] 25)) (w4.heap.size) (.cells #[.bool false, .slice a1 z1.length c1] 25) := Box.put (.cells #[.bool false, .slice a1 z1.length c1] 25) rfl
        replace hs0 := Nat.le_trans hs0 hq.size
        replace hB := hB.trans (hq.mono hB.size)
        clear hq
        go_wp2_with fail
        clear k0 k1 k2 f0 f1 f2 k3 k4 k5 f3 f4 f5
        obtain ⟨u5, hname⟩ : ∃ u, (w4.alloc (.cells #[.bool false, .slice a1 z1.length c1] 25)) = u := ⟨_, rfl⟩
        rw [hname] at hs0 hB FA EA ER S1 EU ⊢
        have zh5 := hB.size
        have zs5 := hs0
        clear hname hs0
        replace FA := FA.drew
        have qEA := EA.lt
        replace EA := EA.drew
        have qER := ER.lt
        replace ER := ER.drew
        replace S1 := S1.drew
        have qEU := EU.lt
        replace EU := EU.drew
        refine wp_yields 6 [.is (.agg #[.bool false, .slice a1 z1.length c1]), .is (.pointer (some ⟨w.heap.size, 2, none⟩)), .is (.slice c ds.length cc), .is (.int .i64 k), (Yield.nat u5.heap.size (val ds ^ k) (n * k + 1)), (Yield.natIn (fun s => .agg #[.bool false, .slice a1 z1.length c1, s]) u5.heap.size (val ds ^ k) (n * k + 1))] (by kernel_rfl) (by kernel_rfl) (lt_cons ?_ (lt_cons ?_ (lt_cons ?_ (lt_cons ?_ (lt_cons ?_ (lt_cons ?_ lt_nil)))))) ?_
        case refine_1 =>
          refine OpDoes.mk rfl ?_
          intro vs V hV hd K hK
          have d0 : vs 0 = .agg #[.bool false, .slice a1 z1.length c1] := hd 0 (by decide) (by kernel_rfl)
          have hh := fun (P : Prop) => Yield.nat_elim P (show ((Yield.nat u5.heap.size (val ds ^ k) (n * k + 1)) : Yield).At (vs 4) V from hd 4 (by decide) (by kernel_rfl))
          refine hh _ ?_
          intro a2 c2 z2 d4 S2 N2 V2 b2
          clear hh
          simp only [laidIn, List.getElem_toArray, List.getElem_cons_zero, List.getElem_cons_succ, List.getElem?_toArray, List.getElem?_cons_zero, List.getElem?_cons_succ, if_true, Act.put, List.setIfInBounds_toArray, List.set_cons_zero, List.set_cons_succ] at hK ⊢
          simp only [d0, d4] at hK ⊢
          go_simp
          exact hK.out _ _ (Below.refl _ _) ⟨_, _, _, rfl, S2, N2, V2, b2⟩ (not_fresh rfl)
        case refine_2 =>
          refine OpDoes.mk rfl ?_
          intro vs V hV hd K hK
          have d2 : vs 2 = .slice c ds.length cc := hd 2 (by decide) (by kernel_rfl)
          have d3 : vs 3 = .int .i64 k := hd 3 (by decide) (by kernel_rfl)
          simp only [laidIn, List.getElem_toArray, List.getElem_cons_zero, List.getElem_cons_succ, List.getElem?_toArray, List.getElem?_cons_zero, List.getElem?_cons_succ, if_true, Act.put, List.setIfInBounds_toArray, List.set_cons_zero, List.set_cons_succ] at hK ⊢
          simp only [d2, d3] at hK ⊢
          go_simp
          go_at_call 37
          refine (raise_any (FA.down.below hV) k hk12 (by omega)).mono ?_
          rintro e V' ⟨a2, c2, z2, rfl, S2, N2, v2, l2, hb⟩
          have V2 : Hid (val z2 = val ds ^ k) := v2
          have b2 : z2.length ≤ n * k + 1 := by omega
          clear v2 l2
          exact hK.out _ _ hb ⟨_, _, _, rfl, S2.mono hV.size, N2, V2, b2⟩ (not_fresh rfl)
        case refine_3 =>
          refine OpDoes.mk rfl ?_
          intro vs V hV hd K hK
          simp only [laidIn, List.getElem_toArray, List.getElem_cons_zero, List.getElem_cons_succ, List.getElem?_toArray, List.getElem?_cons_zero, List.getElem?_cons_succ, if_true, Act.put, List.setIfInBounds_toArray, List.set_cons_zero, List.set_cons_succ] at hK ⊢
          go_simp
          exact hK.out _ _ (Below.refl _ _) rfl (not_fresh rfl)
        case refine_4 =>
          refine OpDoes.mk rfl ?_
          intro vs V hV hd K hK
          have d1 : vs 1 = .pointer (some ⟨w.heap.size, 2, none⟩) := hd 1 (by decide) (by kernel_rfl)
          have hcc := (EA.below hV).three
          have k0 := hcc.1
          have k1 := hcc.2.1
          have k2 := hcc.2.2.1
          clear hcc
          simp only [laidIn, List.getElem_toArray, List.getElem_cons_zero, List.getElem_cons_succ, List.getElem?_toArray, List.getElem?_cons_zero, List.getElem?_cons_succ, if_true, Act.put, List.setIfInBounds_toArray, List.set_cons_zero, List.set_cons_succ] at hK ⊢
          simp only [d1] at hK ⊢
          go_simp
          exact hK.out _ _ (Below.refl _ _) rfl (not_fresh rfl)
        case refine_5 =>
          refine OpDoes.mk rfl ?_
          intro vs V hV hd K hK
          simp only [laidIn, List.getElem_toArray, List.getElem_cons_zero, List.getElem_cons_succ, List.getElem?_toArray, List.getElem?_cons_zero, List.getElem?_cons_succ, if_true, Act.put, List.setIfInBounds_toArray, List.set_cons_zero, List.set_cons_succ] at hK ⊢
          go_simp
          exact hK.out _ _ (Below.refl _ _) rfl (not_fresh rfl)
        case refine_6 =>
          refine OpDoes.mk rfl ?_
          intro vs V hV hd K hK
          have hcc := (EU.below hV).two
          have k0 := hcc.1
          have k1 := hcc.2.1
          clear hcc
          simp only [laidIn, List.getElem_toArray, List.getElem_cons_zero, List.getElem?_toArray, List.getElem?_cons_zero, List.getElem?_cons_succ, if_true, Act.put, List.setIfInBounds_toArray, List.set_cons_zero, List.set_cons_succ] at hK ⊢
          go_simp
          exact hK.out _ _ (Below.refl _ _) rfl (not_fresh rfl)
        case refine_7 =>
          intro vs Y1 hV hR hne fuel
          have d0 : vs 0 = .agg #[.bool false, .slice a1 z1.length c1] := hR 0 (by decide)
          have d1 : vs 1 = .pointer (some ⟨w.heap.size, 2, none⟩) := hR 1 (by decide)
          have d2 : vs 2 = .slice c ds.length cc := hR 2 (by decide)
          have d3 : vs 3 = .int .i64 k := hR 3 (by decide)
          have hh := fun (P : Prop) => Yield.nat_elim P (show ((Yield.nat u5.heap.size (val ds ^ k) (n * k + 1)) : Yield).At (vs 4) Y1 from hR 4 (by decide))
          refine hh _ ?_
          intro a2 c2 z2 d4 S2 N2 V2 b2
          clear hh
          have hh := fun (P : Prop) => Yield.natIn_elim P (show ((Yield.natIn (fun s => .agg #[.bool false, .slice a1 z1.length c1, s]) u5.heap.size (val ds ^ k) (n * k + 1)) : Yield).At (vs 5) Y1 from hR 5 (by decide))
          refine hh _ ?_
          intro a3 c3 z3 d5 S3 N3 V3 b3
          clear hh
          replace FA := FA.below hV
          replace EA := EA.below hV
          replace ER := ER.below hV
          replace S1 := S1.below hV
          replace EU := EU.below hV
          have hr := hV
          simp only [laidIn, List.getElem?_toArray, List.getElem?_cons_zero, List.getElem?_cons_succ, if_true, Act.put, List.setIfInBounds_toArray, List.set_cons_zero, List.set_cons_succ]
          simp only [d0, d1, d2, d3, d4, d5]
          clear hR hne hV d0 d1 d2 d3 d4 d5
          clear vs
          show wpAny _ _ _ _ (fuel + 2) _ _ _
          refine wpAny_all (rs := [6]) (by kernel_rfl) (by simp) (fun i hi => ?_)
          obtain rfl : i = 6 := by simpa using hi
          clear hi
          have hcc := ER.three
          have k0 := hcc.1
          have k1 := hcc.2.1
          have k2 := hcc.2.2.1
          have f0 := hcc.2.2.2.1
          have f1 := hcc.2.2.2.2.1
          have f2 := hcc.2.2.2.2.2
          clear hcc
          refine wpOp_step rfl (fun K hK => ?_)
          simp only [List.getElem_toArray, List.getElem_cons_zero, List.getElem_cons_succ]
          rw [if_pos (by rfl)]
          go_simp
          refine hK _ _ ?_
          clear hK k0 f0 k1 f1 k2 f2
          have hT := ((((Turns.refl (w.heap.size + 1) Y1).setCell 0 (.bool false)).setCell 1 (.slice a1 z1.length c1)).setCell 2 (.slice a3 z3.length c3))
          replace FA := FA.beside ER (noWord3 (fun _ e => by cases e) (fun _ e => by cases e) (fun _ e => by cases e)) hT
          replace EA := EA.turns hT (by omega)
          replace S1 := S1.beside ER (noWord3 (fun _ e => by cases e) (fun _ e => by cases e) (fun _ e => by cases e)) hT
          replace EU := EU.turns hT (by omega)
          replace S2 := S2.beside ER (noWord3 (fun _ e => by cases e) (fun _ e => by cases e) (fun _ e => by cases e)) hT
          replace S3 := S3.beside ER (noWord3 (fun _ e => by cases e) (fun _ e => by cases e) (fun _ e => by cases e)) hT
          replace ER : Box (((Y1.setCell ⟨w.heap.size + 1, 0, none⟩ (.bool false)).setCell ⟨w.heap.size + 1, 1, none⟩ (.slice a1 z1.length c1)).setCell ⟨w.heap.size + 1, 2, none⟩ (.slice a3 z3.length c3)) (w.heap.size + 1) (.cells #[.bool false, .slice a1 z1.length c1, .slice a3 z3.length c3] 27) := ⟨Nat.lt_of_lt_of_le ER.lt hT.below.size, (heap_setCell_same _ _ 2 _ _ _ (heap_setCell_same _ _ 1 _ _ _ (heap_setCell_same _ _ 0 _ _ _ ER.what)))⟩
          have hr6 := hT.below
          obtain ⟨X1, hX⟩ : ∃ X, (((Y1.setCell ⟨w.heap.size + 1, 0, none⟩ (.bool false)).setCell ⟨w.heap.size + 1, 1, none⟩ (.slice a1 z1.length c1)).setCell ⟨w.heap.size + 1, 2, none⟩ (.slice a3 z3.length c3)) = X := ⟨_, rfl⟩
          rw [hX] at FA EA ER S1 EU S2 S3 hr6 ⊢
          clear hX hT
          refine wpAny_all (rs := [7]) (by kernel_rfl) (by simp) (fun i hi => ?_)
          obtain rfl : i = 7 := by simpa using hi
          clear hi
          refine wpOp_step rfl (fun K hK => ?_)
          simp only [List.getElem_toArray, List.getElem_cons_zero, List.getElem_cons_succ]
          rw [if_pos (by rfl)]
          go_simp
          refine hK _ _ ?_
          clear hK
          refine wpAny_done (by kernel_rfl) ?_ _
          replace hB := hB.trans ((Below.trans (Below.drew (Below.refl u5.heap.size u5)) hr).mono hB.size)
          replace hB := hB.trans (hr6.mono (by omega))
          have zz5_1 := hr.size
          have zi1 := hB.size
          have zy1_6 := hr6.size
          clear hr hr6
          have HI := pow_is (N := n * k + 1) (k := k) (sg := false) (b := true) IA FA.up.words FA.down.words (by simp [hpar]) V1 N1 V3 N3 (by omega) (by omega)
          have HAP := hide (apart_of (fun h b o e => SU.block h b o e) S3 (by omega) : Apart a1 a3 z1 z3)
          obtain ⟨k0, k1, k2, f0, f1, f2⟩ := EA.three
          obtain ⟨k3, k4, k5, f3, f4, f5⟩ := ER.three
          obtain ⟨k6, k7, f6, f7⟩ := EU.two
          have hcc := ER.three
          have r0 := hcc.1
          have r1 := hcc.2.1
          have r2 := hcc.2.2.1
          clear hcc
          go_wp2
          refine bodyPost_ret (v := .tuple #[.agg #[.bool false, .slice a1 z1.length c1, .slice a3 z3.length c3], .int .i64 0]) (by simp [results, Try.f14, go_sem, r0, r1, r2]) rfl ?_
          exact ⟨_, _, _, _, _, _, _, rfl, ⟨S1.mono (by omega), S3.mono (by omega)⟩, HAP.out, HI, hB⟩
  | false =>
    cases b with
    | false =>
      go_enter Try.func14, Try.ntmps14
      have hs0 := Nat.le_refl w.heap.size
      have hq : Below w.heap.size w (w.alloc (.cells #[.bool false, .slice a xs.length ca, .slice c ds.length cc] 27)) := (Below.refl _ _).alloc (Nat.le_refl _) _
      replace FA := FA.below hq
      have EA : Box (w.alloc (.cells #[.bool false, .slice a xs.length ca, .slice c ds.length cc] 27)) (w.heap.size) (.cells #[.bool false, .slice a xs.length ca, .slice c ds.length cc] 27) := Box.put (.cells #[.bool false, .slice a xs.length ca, .slice c ds.length cc] 27) rfl
      replace hs0 := Nat.le_trans hs0 hq.size
      replace hB := hB.trans (hq.mono hB.size)
      clear hq
      have hq : Below (w.alloc (.cells #[.bool false, .slice a xs.length ca, .slice c ds.length cc] 27)).heap.size (w.alloc (.cells #[.bool false, .slice a xs.length ca, .slice c ds.length cc] 27)) ((w.alloc (.cells #[.bool false, .slice a xs.length ca, .slice c ds.length cc] 27)).alloc (.cells #[.bool false, .slice none 0 0, .slice none 0 0] 27)) := (Below.refl _ _).alloc (Nat.le_refl _) _
      replace FA := FA.below hq
      replace EA := EA.below hq
      have ER : Box ((w.alloc (.cells #[.bool false, .slice a xs.length ca, .slice c ds.length cc] 27)).alloc (.cells #[.bool false, .slice none 0 0, .slice none 0 0] 27)) (w.heap.size + 1) (.cells #[.bool false, .slice none 0 0, .slice none 0 0] 27) := Box.put (.cells #[.bool false, .slice none 0 0, .slice none 0 0] 27) (by simp)
      replace hs0 := Nat.le_trans hs0 hq.size
      replace hB := hB.trans (hq.mono hB.size)
      clear hq
      go_wp2_with fail
      obtain ⟨u1, hname⟩ : ∃ u, ((w.alloc (.cells #[.bool false, .slice a xs.length ca, .slice c ds.length cc] 27)).alloc (.cells #[.bool false, .slice none 0 0, .slice none 0 0] 27)) = u := ⟨_, rfl⟩
      rw [hname] at hs0 hB FA EA ER ⊢
      have zh1 := hB.size
      have zs1 := hs0
      clear hname hs0
      have hk := pcheck_any false FA (by omega) (by omega)
      rw [HA.out] at hk
      refine (hk).mono ?_
      rintro e w2 ⟨rfl, hb⟩
      replace FA := FA.below hb
      replace EA := EA.below hb
      replace ER := ER.below hb
      replace hB := hB.trans (hb.mono hB.size)
      have zz2 := hb.size
      have zh2 := hB.size
      clear hb
      clear hk
      obtain ⟨k0, k1, k2, f0, f1, f2⟩ := EA.three
      obtain ⟨k3, k4, k5, f3, f4, f5⟩ := ER.three
      go_wp2_with fail
      clear k0 k1 k2 f0 f1 f2 k3 k4 k5 f3 f4 f5
      refine (hz _).mono ?_
      rintro e w3 ⟨rfl, hb⟩
      replace FA := FA.below hb
      replace EA := EA.below hb
      replace ER := ER.below hb
      replace hB := hB.trans (hb.mono hB.size)
      have zz3 := hb.size
      have zh3 := hB.size
      clear hb
      obtain ⟨k0, k1, k2, f0, f1, f2⟩ := EA.three
      obtain ⟨k3, k4, k5, f3, f4, f5⟩ := ER.three
      go_wp2_with fail
      clear k0 k1 k2 f0 f1 f2 k3 k4 k5 f3 f4 f5
      refine (raise_any FA.up k hk12 (by omega)).mono ?_
      rintro e w4 ⟨a1, c1, z1, rfl, S1, N1, v1, l1, hb⟩
      have V1 : Hid (val z1 = val xs ^ k) := v1
      have b1 : z1.length ≤ n * k + 1 := by omega
      clear v1 l1
      replace FA := FA.below hb
      replace EA := EA.below hb
      replace ER := ER.below hb
      replace hB := hB.trans (hb.mono hB.size)
      have zz4 := hb.size
      have zh4 := hB.size
      clear hb
      have SU := S1
      obtain ⟨k0, k1, k2, f0, f1, f2⟩ := EA.three
      obtain ⟨k3, k4, k5, f3, f4, f5⟩ := ER.three
      have qEA := EA.lt
      have qER := ER.lt
      have hs0 := Nat.le_refl w4.heap.size
      have hq : Below w4.heap.size w4 (w4.alloc (.cells #[.bool false, .slice a1 z1.length c1] 25)) := (Below.refl _ _).alloc (Nat.le_refl _) _
      replace FA := FA.below hq
      replace EA := EA.below hq
      replace ER := ER.below hq
      replace S1 := S1.below hq
      have EU : Box (w4.alloc (.cells #[.bool false, .slice a1 z1.length c1] 25)) (w4.heap.size) (.cells #[.bool false, .slice a1 z1.length c1] 25) := Box.put (.cells #[.bool false, .slice a1 z1.length c1] 25) rfl
      replace hs0 := Nat.le_trans hs0 hq.size
      replace hB := hB.trans (hq.mono hB.size)
      clear hq
      go_wp2_with fail
      clear k0 k1 k2 f0 f1 f2 k3 k4 k5 f3 f4 f5
      obtain ⟨u5, hname⟩ : ∃ u, (w4.alloc (.cells #[.bool false, .slice a1 z1.length c1] 25)) = u := ⟨_, rfl⟩
      rw [hname] at hs0 hB FA EA ER S1 EU ⊢
      have zh5 := hB.size
      have zs5 := hs0
      clear hname hs0
      replace FA := FA.drew
      have qEA := EA.lt
      replace EA := EA.drew
      have qER := ER.lt
      replace ER := ER.drew
      replace S1 := S1.drew
      have qEU := EU.lt
      replace EU := EU.drew
      refine wp_yields 6 [.is (.agg #[.bool false, .slice a1 z1.length c1]), .is (.pointer (some ⟨w.heap.size, 2, none⟩)), .is (.slice c ds.length cc), .is (.int .i64 k), (Yield.nat u5.heap.size (val ds ^ k) (n * k + 1)), (Yield.natIn (fun s => .agg #[.bool false, .slice a1 z1.length c1, s]) u5.heap.size (val ds ^ k) (n * k + 1))] (by kernel_rfl) (by kernel_rfl) (lt_cons ?_ (lt_cons ?_ (lt_cons ?_ (lt_cons ?_ (lt_cons ?_ (lt_cons ?_ lt_nil)))))) ?_
      case refine_1 =>
        refine OpDoes.mk rfl ?_
        intro vs V hV hd K hK
        have d0 : vs 0 = .agg #[.bool false, .slice a1 z1.length c1] := hd 0 (by decide) (by kernel_rfl)
        have hh := fun (P : Prop) => Yield.nat_elim P (show ((Yield.nat u5.heap.size (val ds ^ k) (n * k + 1)) : Yield).At (vs 4) V from hd 4 (by decide) (by kernel_rfl))
        refine hh _ ?_
        intro a2 c2 z2 d4 S2 N2 V2 b2
        clear hh
        simp only [laidIn, List.getElem_toArray, List.getElem_cons_zero, List.getElem_cons_succ, List.getElem?_toArray, List.getElem?_cons_zero, List.getElem?_cons_succ, if_true, Act.put, List.setIfInBounds_toArray, List.set_cons_zero, List.set_cons_succ] at hK ⊢
        simp only [d0, d4] at hK ⊢
        go_simp
        exact hK.out _ _ (Below.refl _ _) ⟨_, _, _, rfl, S2, N2, V2, b2⟩ (not_fresh rfl)
      case refine_2 =>
        refine OpDoes.mk rfl ?_
        intro vs V hV hd K hK
        have d2 : vs 2 = .slice c ds.length cc := hd 2 (by decide) (by kernel_rfl)
        have d3 : vs 3 = .int .i64 k := hd 3 (by decide) (by kernel_rfl)
        simp only [laidIn, List.getElem_toArray, List.getElem_cons_zero, List.getElem_cons_succ, List.getElem?_toArray, List.getElem?_cons_zero, List.getElem?_cons_succ, if_true, Act.put, List.setIfInBounds_toArray, List.set_cons_zero, List.set_cons_succ] at hK ⊢
        simp only [d2, d3] at hK ⊢
        go_simp
        go_at_call 37
        refine (raise_any (FA.down.below hV) k hk12 (by omega)).mono ?_
        rintro e V' ⟨a2, c2, z2, rfl, S2, N2, v2, l2, hb⟩
        have V2 : Hid (val z2 = val ds ^ k) := v2
        have b2 : z2.length ≤ n * k + 1 := by omega
        clear v2 l2
        exact hK.out _ _ hb ⟨_, _, _, rfl, S2.mono hV.size, N2, V2, b2⟩ (not_fresh rfl)
      case refine_3 =>
        refine OpDoes.mk rfl ?_
        intro vs V hV hd K hK
        simp only [laidIn, List.getElem_toArray, List.getElem_cons_zero, List.getElem_cons_succ, List.getElem?_toArray, List.getElem?_cons_zero, List.getElem?_cons_succ, if_true, Act.put, List.setIfInBounds_toArray, List.set_cons_zero, List.set_cons_succ] at hK ⊢
        go_simp
        exact hK.out _ _ (Below.refl _ _) rfl (not_fresh rfl)
      case refine_4 =>
        refine OpDoes.mk rfl ?_
        intro vs V hV hd K hK
        have d1 : vs 1 = .pointer (some ⟨w.heap.size, 2, none⟩) := hd 1 (by decide) (by kernel_rfl)
        have hcc := (EA.below hV).three
        have k0 := hcc.1
        have k1 := hcc.2.1
        have k2 := hcc.2.2.1
        clear hcc
        simp only [laidIn, List.getElem_toArray, List.getElem_cons_zero, List.getElem_cons_succ, List.getElem?_toArray, List.getElem?_cons_zero, List.getElem?_cons_succ, if_true, Act.put, List.setIfInBounds_toArray, List.set_cons_zero, List.set_cons_succ] at hK ⊢
        simp only [d1] at hK ⊢
        go_simp
        exact hK.out _ _ (Below.refl _ _) rfl (not_fresh rfl)
      case refine_5 =>
        refine OpDoes.mk rfl ?_
        intro vs V hV hd K hK
        simp only [laidIn, List.getElem_toArray, List.getElem_cons_zero, List.getElem_cons_succ, List.getElem?_toArray, List.getElem?_cons_zero, List.getElem?_cons_succ, if_true, Act.put, List.setIfInBounds_toArray, List.set_cons_zero, List.set_cons_succ] at hK ⊢
        go_simp
        exact hK.out _ _ (Below.refl _ _) rfl (not_fresh rfl)
      case refine_6 =>
        refine OpDoes.mk rfl ?_
        intro vs V hV hd K hK
        have hcc := (EU.below hV).two
        have k0 := hcc.1
        have k1 := hcc.2.1
        clear hcc
        simp only [laidIn, List.getElem_toArray, List.getElem_cons_zero, List.getElem?_toArray, List.getElem?_cons_zero, List.getElem?_cons_succ, if_true, Act.put, List.setIfInBounds_toArray, List.set_cons_zero, List.set_cons_succ] at hK ⊢
        go_simp
        exact hK.out _ _ (Below.refl _ _) rfl (not_fresh rfl)
      case refine_7 =>
        intro vs Y1 hV hR hne fuel
        have d0 : vs 0 = .agg #[.bool false, .slice a1 z1.length c1] := hR 0 (by decide)
        have d1 : vs 1 = .pointer (some ⟨w.heap.size, 2, none⟩) := hR 1 (by decide)
        have d2 : vs 2 = .slice c ds.length cc := hR 2 (by decide)
        have d3 : vs 3 = .int .i64 k := hR 3 (by decide)
        have hh := fun (P : Prop) => Yield.nat_elim P (show ((Yield.nat u5.heap.size (val ds ^ k) (n * k + 1)) : Yield).At (vs 4) Y1 from hR 4 (by decide))
        refine hh _ ?_
        intro a2 c2 z2 d4 S2 N2 V2 b2
        clear hh
        have hh := fun (P : Prop) => Yield.natIn_elim P (show ((Yield.natIn (fun s => .agg #[.bool false, .slice a1 z1.length c1, s]) u5.heap.size (val ds ^ k) (n * k + 1)) : Yield).At (vs 5) Y1 from hR 5 (by decide))
        refine hh _ ?_
        intro a3 c3 z3 d5 S3 N3 V3 b3
        clear hh
        replace FA := FA.below hV
        replace EA := EA.below hV
        replace ER := ER.below hV
        replace S1 := S1.below hV
        replace EU := EU.below hV
        have hr := hV
        simp only [laidIn, List.getElem?_toArray, List.getElem?_cons_zero, List.getElem?_cons_succ, if_true, Act.put, List.setIfInBounds_toArray, List.set_cons_zero, List.set_cons_succ]
        simp only [d0, d1, d2, d3, d4, d5]
        clear hR hne hV d0 d1 d2 d3 d4 d5
        clear vs
        show wpAny _ _ _ _ (fuel + 2) _ _ _
        refine wpAny_all (rs := [6]) (by kernel_rfl) (by simp) (fun i hi => ?_)
        obtain rfl : i = 6 := by simpa using hi
        clear hi
        have hcc := ER.three
        have k0 := hcc.1
        have k1 := hcc.2.1
        have k2 := hcc.2.2.1
        have f0 := hcc.2.2.2.1
        have f1 := hcc.2.2.2.2.1
        have f2 := hcc.2.2.2.2.2
        clear hcc
        refine wpOp_step rfl (fun K hK => ?_)
        simp only [List.getElem_toArray, List.getElem_cons_zero, List.getElem_cons_succ]
        rw [if_pos (by rfl)]
        go_simp
        refine hK _ _ ?_
        clear hK k0 f0 k1 f1 k2 f2
        have hT := ((((Turns.refl (w.heap.size + 1) Y1).setCell 0 (.bool false)).setCell 1 (.slice a1 z1.length c1)).setCell 2 (.slice a3 z3.length c3))
        replace FA := FA.beside ER (noWord3 (fun _ e => by cases e) (fun _ e => by cases e) (fun _ e => by cases e)) hT
        replace EA := EA.turns hT (by omega)
        replace S1 := S1.beside ER (noWord3 (fun _ e => by cases e) (fun _ e => by cases e) (fun _ e => by cases e)) hT
        replace EU := EU.turns hT (by omega)
        replace S2 := S2.beside ER (noWord3 (fun _ e => by cases e) (fun _ e => by cases e) (fun _ e => by cases e)) hT
        replace S3 := S3.beside ER (noWord3 (fun _ e => by cases e) (fun _ e => by cases e) (fun _ e => by cases e)) hT
        replace ER : Box (((Y1.setCell ⟨w.heap.size + 1, 0, none⟩ (.bool false)).setCell ⟨w.heap.size + 1, 1, none⟩ (.slice a1 z1.length c1)).setCell ⟨w.heap.size + 1, 2, none⟩ (.slice a3 z3.length c3)) (w.heap.size + 1) (.cells #[.bool false, .slice a1 z1.length c1, .slice a3 z3.length c3] 27) := ⟨Nat.lt_of_lt_of_le ER.lt hT.below.size, (heap_setCell_same _ _ 2 _ _ _ (heap_setCell_same _ _ 1 _ _ _ (heap_setCell_same _ _ 0 _ _ _ ER.what)))⟩
        have hr6 := hT.below
        obtain ⟨X1, hX⟩ : ∃ X, (((Y1.setCell ⟨w.heap.size + 1, 0, none⟩ (.bool false)).setCell ⟨w.heap.size + 1, 1, none⟩ (.slice a1 z1.length c1)).setCell ⟨w.heap.size + 1, 2, none⟩ (.slice a3 z3.length c3)) = X := ⟨_, rfl⟩
        rw [hX] at FA EA ER S1 EU S2 S3 hr6 ⊢
        clear hX hT
        refine wpAny_all (rs := [7]) (by kernel_rfl) (by simp) (fun i hi => ?_)
        obtain rfl : i = 7 := by simpa using hi
        clear hi
        refine wpOp_step rfl (fun K hK => ?_)
        simp only [List.getElem_toArray, List.getElem_cons_zero, List.getElem_cons_succ]
        rw [if_pos (by rfl)]
        go_simp
        refine hK _ _ ?_
        clear hK
        refine wpAny_done (by kernel_rfl) ?_ _
        replace hB := hB.trans ((Below.trans (Below.drew (Below.refl u5.heap.size u5)) hr).mono hB.size)
        replace hB := hB.trans (hr6.mono (by omega))
        have zz5_1 := hr.size
        have zi1 := hB.size
        have zy1_6 := hr6.size
        clear hr hr6
        have HI := pow_is (N := n * k + 1) (k := k) (sg := false) (b := false) IA FA.up.words FA.down.words (by simp) V1 N1 V3 N3 (by omega) (by omega)
        have HAP := hide (apart_of (fun h b o e => SU.block h b o e) S3 (by omega) : Apart a1 a3 z1 z3)
        obtain ⟨k0, k1, k2, f0, f1, f2⟩ := EA.three
        obtain ⟨k3, k4, k5, f3, f4, f5⟩ := ER.three
        obtain ⟨k6, k7, f6, f7⟩ := EU.two
        have hcc := ER.three
        have r0 := hcc.1
        have r1 := hcc.2.1
        have r2 := hcc.2.2.1
        clear hcc
        go_wp2
        refine bodyPost_ret (v := .tuple #[.agg #[.bool false, .slice a1 z1.length c1, .slice a3 z3.length c3], .int .i64 0]) (by simp [results, Try.f14, go_sem, r0, r1, r2]) rfl ?_
        exact ⟨_, _, _, _, _, _, _, rfl, ⟨S1.mono (by omega), S3.mono (by omega)⟩, HAP.out, HI, hB⟩
    | true =>
      by_cases hpar : k % 2 = 1
      · have hp2 : ((k : Int) % 2 == 1) = true := beq_iff_eq.2 (by omega)
        go_enter Try.func14, Try.ntmps14
        have hs0 := Nat.le_refl w.heap.size
        have hq : Below w.heap.size w (w.alloc (.cells #[.bool true, .slice a xs.length ca, .slice c ds.length cc] 27)) := (Below.refl _ _).alloc (Nat.le_refl _) _
        replace FA := FA.below hq
        have EA : Box (w.alloc (.cells #[.bool true, .slice a xs.length ca, .slice c ds.length cc] 27)) (w.heap.size) (.cells #[.bool true, .slice a xs.length ca, .slice c ds.length cc] 27) := Box.put (.cells #[.bool true, .slice a xs.length ca, .slice c ds.length cc] 27) rfl
        replace hs0 := Nat.le_trans hs0 hq.size
        replace hB := hB.trans (hq.mono hB.size)
        clear hq
        have hq : Below (w.alloc (.cells #[.bool true, .slice a xs.length ca, .slice c ds.length cc] 27)).heap.size (w.alloc (.cells #[.bool true, .slice a xs.length ca, .slice c ds.length cc] 27)) ((w.alloc (.cells #[.bool true, .slice a xs.length ca, .slice c ds.length cc] 27)).alloc (.cells #[.bool false, .slice none 0 0, .slice none 0 0] 27)) := (Below.refl _ _).alloc (Nat.le_refl _) _
        replace FA := FA.below hq
        replace EA := EA.below hq
        have ER : Box ((w.alloc (.cells #[.bool true, .slice a xs.length ca, .slice c ds.length cc] 27)).alloc (.cells #[.bool false, .slice none 0 0, .slice none 0 0] 27)) (w.heap.size + 1) (.cells #[.bool false, .slice none 0 0, .slice none 0 0] 27) := Box.put (.cells #[.bool false, .slice none 0 0, .slice none 0 0] 27) (by simp)
        replace hs0 := Nat.le_trans hs0 hq.size
        replace hB := hB.trans (hq.mono hB.size)
        clear hq
        go_wp2_with fail
        obtain ⟨u1, hname⟩ : ∃ u, ((w.alloc (.cells #[.bool true, .slice a xs.length ca, .slice c ds.length cc] 27)).alloc (.cells #[.bool false, .slice none 0 0, .slice none 0 0] 27)) = u := ⟨_, rfl⟩
        rw [hname] at hs0 hB FA EA ER ⊢
        have zh1 := hB.size
        have zs1 := hs0
        clear hname hs0
        have hk := pcheck_any true FA (by omega) (by omega)
        rw [HA.out] at hk
        refine (hk).mono ?_
        rintro e w2 ⟨rfl, hb⟩
        replace FA := FA.below hb
        replace EA := EA.below hb
        replace ER := ER.below hb
        replace hB := hB.trans (hb.mono hB.size)
        have zz2 := hb.size
        have zh2 := hB.size
        clear hb
        clear hk
        obtain ⟨k0, k1, k2, f0, f1, f2⟩ := EA.three
        obtain ⟨k3, k4, k5, f3, f4, f5⟩ := ER.three
        go_wp2_with fail
        clear k0 k1 k2 f0 f1 f2 k3 k4 k5 f3 f4 f5
        refine (hz _).mono ?_
        rintro e w3 ⟨rfl, hb⟩
        replace FA := FA.below hb
        replace EA := EA.below hb
        replace ER := ER.below hb
        replace hB := hB.trans (hb.mono hB.size)
        have zz3 := hb.size
        have zh3 := hB.size
        clear hb
        obtain ⟨k0, k1, k2, f0, f1, f2⟩ := EA.three
        obtain ⟨k3, k4, k5, f3, f4, f5⟩ := ER.three
        go_wp2_with fail
        clear k0 k1 k2 f0 f1 f2 k3 k4 k5 f3 f4 f5
        refine (raise_any FA.up k hk12 (by omega)).mono ?_
        rintro e w4 ⟨a1, c1, z1, rfl, S1, N1, v1, l1, hb⟩
        have V1 : Hid (val z1 = val xs ^ k) := v1
        have b1 : z1.length ≤ n * k + 1 := by omega
        clear v1 l1
        replace FA := FA.below hb
        replace EA := EA.below hb
        replace ER := ER.below hb
        replace hB := hB.trans (hb.mono hB.size)
        have zz4 := hb.size
        have zh4 := hB.size
        clear hb
        have SU := S1
        obtain ⟨k0, k1, k2, f0, f1, f2⟩ := EA.three
        obtain ⟨k3, k4, k5, f3, f4, f5⟩ := ER.three
        have qEA := EA.lt
        have qER := ER.lt
        have hs0 := Nat.le_refl w4.heap.size
        have hq : Below w4.heap.size w4 (w4.alloc (.cells #[.bool true, .slice a1 z1.length c1] 25)) := (Below.refl _ _).alloc (Nat.le_refl _) _
        replace FA := FA.below hq
        replace EA := EA.below hq
        replace ER := ER.below hq
        replace S1 := S1.below hq
        have EU : Box (w4.alloc (.cells #[.bool true, .slice a1 z1.length c1] 25)) (w4.heap.size) (.cells #[.bool true, .slice a1 z1.length c1] 25) := Box.put (.cells #[.bool true, .slice a1 z1.length c1] 25) rfl
        replace hs0 := Nat.le_trans hs0 hq.size
        replace hB := hB.trans (hq.mono hB.size)
        clear hq
        go_wp2_with fail
        clear k0 k1 k2 f0 f1 f2 k3 k4 k5 f3 f4 f5
        obtain ⟨u5, hname⟩ : ∃ u, (w4.alloc (.cells #[.bool true, .slice a1 z1.length c1] 25)) = u := ⟨_, rfl⟩
        rw [hname] at hs0 hB FA EA ER S1 EU ⊢
        have zh5 := hB.size
        have zs5 := hs0
        clear hname hs0
        replace FA := FA.drew
        have qEA := EA.lt
        replace EA := EA.drew
        have qER := ER.lt
        replace ER := ER.drew
        replace S1 := S1.drew
        have qEU := EU.lt
        replace EU := EU.drew
        refine wp_yields 6 [.is (.agg #[.bool true, .slice a1 z1.length c1]), .is (.pointer (some ⟨w.heap.size, 2, none⟩)), .is (.slice c ds.length cc), .is (.int .i64 k), (Yield.nat u5.heap.size (val ds ^ k) (n * k + 1)), (Yield.natIn (fun s => .agg #[.bool true, .slice a1 z1.length c1, s]) u5.heap.size (val ds ^ k) (n * k + 1))] (by kernel_rfl) (by kernel_rfl) (lt_cons ?_ (lt_cons ?_ (lt_cons ?_ (lt_cons ?_ (lt_cons ?_ (lt_cons ?_ lt_nil)))))) ?_
        case refine_1 =>
          refine OpDoes.mk rfl ?_
          intro vs V hV hd K hK
          have d0 : vs 0 = .agg #[.bool true, .slice a1 z1.length c1] := hd 0 (by decide) (by kernel_rfl)
          have hh := fun (P : Prop) => Yield.nat_elim P (show ((Yield.nat u5.heap.size (val ds ^ k) (n * k + 1)) : Yield).At (vs 4) V from hd 4 (by decide) (by kernel_rfl))
          refine hh _ ?_
          intro a2 c2 z2 d4 S2 N2 V2 b2
          clear hh
          simp only [laidIn, List.getElem_toArray, List.getElem_cons_zero, List.getElem_cons_succ, List.getElem?_toArray, List.getElem?_cons_zero, List.getElem?_cons_succ, if_true, Act.put, List.setIfInBounds_toArray, List.set_cons_zero, List.set_cons_succ] at hK ⊢
          simp only [d0, d4] at hK ⊢
          go_simp
          exact hK.out _ _ (Below.refl _ _) ⟨_, _, _, rfl, S2, N2, V2, b2⟩ (not_fresh rfl)
        case refine_2 =>
          refine OpDoes.mk rfl ?_
          intro vs V hV hd K hK
          have d2 : vs 2 = .slice c ds.length cc := hd 2 (by decide) (by kernel_rfl)
          have d3 : vs 3 = .int .i64 k := hd 3 (by decide) (by kernel_rfl)
          simp only [laidIn, List.getElem_toArray, List.getElem_cons_zero, List.getElem_cons_succ, List.getElem?_toArray, List.getElem?_cons_zero, List.getElem?_cons_succ, if_true, Act.put, List.setIfInBounds_toArray, List.set_cons_zero, List.set_cons_succ] at hK ⊢
          simp only [d2, d3] at hK ⊢
          go_simp
          go_at_call 37
          refine (raise_any (FA.down.below hV) k hk12 (by omega)).mono ?_
          rintro e V' ⟨a2, c2, z2, rfl, S2, N2, v2, l2, hb⟩
          have V2 : Hid (val z2 = val ds ^ k) := v2
          have b2 : z2.length ≤ n * k + 1 := by omega
          clear v2 l2
          exact hK.out _ _ hb ⟨_, _, _, rfl, S2.mono hV.size, N2, V2, b2⟩ (not_fresh rfl)
        case refine_3 =>
          refine OpDoes.mk rfl ?_
          intro vs V hV hd K hK
          simp only [laidIn, List.getElem_toArray, List.getElem_cons_zero, List.getElem_cons_succ, List.getElem?_toArray, List.getElem?_cons_zero, List.getElem?_cons_succ, if_true, Act.put, List.setIfInBounds_toArray, List.set_cons_zero, List.set_cons_succ] at hK ⊢
          go_simp
          exact hK.out _ _ (Below.refl _ _) rfl (not_fresh rfl)
        case refine_4 =>
          refine OpDoes.mk rfl ?_
          intro vs V hV hd K hK
          have d1 : vs 1 = .pointer (some ⟨w.heap.size, 2, none⟩) := hd 1 (by decide) (by kernel_rfl)
          have hcc := (EA.below hV).three
          have k0 := hcc.1
          have k1 := hcc.2.1
          have k2 := hcc.2.2.1
          clear hcc
          simp only [laidIn, List.getElem_toArray, List.getElem_cons_zero, List.getElem_cons_succ, List.getElem?_toArray, List.getElem?_cons_zero, List.getElem?_cons_succ, if_true, Act.put, List.setIfInBounds_toArray, List.set_cons_zero, List.set_cons_succ] at hK ⊢
          simp only [d1] at hK ⊢
          go_simp
          exact hK.out _ _ (Below.refl _ _) rfl (not_fresh rfl)
        case refine_5 =>
          refine OpDoes.mk rfl ?_
          intro vs V hV hd K hK
          simp only [laidIn, List.getElem_toArray, List.getElem_cons_zero, List.getElem_cons_succ, List.getElem?_toArray, List.getElem?_cons_zero, List.getElem?_cons_succ, if_true, Act.put, List.setIfInBounds_toArray, List.set_cons_zero, List.set_cons_succ] at hK ⊢
          go_simp
          exact hK.out _ _ (Below.refl _ _) rfl (not_fresh rfl)
        case refine_6 =>
          refine OpDoes.mk rfl ?_
          intro vs V hV hd K hK
          have hcc := (EU.below hV).two
          have k0 := hcc.1
          have k1 := hcc.2.1
          clear hcc
          simp only [laidIn, List.getElem_toArray, List.getElem_cons_zero, List.getElem?_toArray, List.getElem?_cons_zero, List.getElem?_cons_succ, if_true, Act.put, List.setIfInBounds_toArray, List.set_cons_zero, List.set_cons_succ] at hK ⊢
          go_simp
          exact hK.out _ _ (Below.refl _ _) rfl (not_fresh rfl)
        case refine_7 =>
          intro vs Y1 hV hR hne fuel
          have d0 : vs 0 = .agg #[.bool true, .slice a1 z1.length c1] := hR 0 (by decide)
          have d1 : vs 1 = .pointer (some ⟨w.heap.size, 2, none⟩) := hR 1 (by decide)
          have d2 : vs 2 = .slice c ds.length cc := hR 2 (by decide)
          have d3 : vs 3 = .int .i64 k := hR 3 (by decide)
          have hh := fun (P : Prop) => Yield.nat_elim P (show ((Yield.nat u5.heap.size (val ds ^ k) (n * k + 1)) : Yield).At (vs 4) Y1 from hR 4 (by decide))
          refine hh _ ?_
          intro a2 c2 z2 d4 S2 N2 V2 b2
          clear hh
          have hh := fun (P : Prop) => Yield.natIn_elim P (show ((Yield.natIn (fun s => .agg #[.bool true, .slice a1 z1.length c1, s]) u5.heap.size (val ds ^ k) (n * k + 1)) : Yield).At (vs 5) Y1 from hR 5 (by decide))
          refine hh _ ?_
          intro a3 c3 z3 d5 S3 N3 V3 b3
          clear hh
          replace FA := FA.below hV
          replace EA := EA.below hV
          replace ER := ER.below hV
          replace S1 := S1.below hV
          replace EU := EU.below hV
          have hr := hV
          simp only [laidIn, List.getElem?_toArray, List.getElem?_cons_zero, List.getElem?_cons_succ, if_true, Act.put, List.setIfInBounds_toArray, List.set_cons_zero, List.set_cons_succ]
          simp only [d0, d1, d2, d3, d4, d5]
          clear hR hne hV d0 d1 d2 d3 d4 d5
          clear vs
          show wpAny _ _ _ _ (fuel + 2) _ _ _
          refine wpAny_all (rs := [6]) (by kernel_rfl) (by simp) (fun i hi => ?_)
          obtain rfl : i = 6 := by simpa using hi
          clear hi
          have hcc := ER.three
          have k0 := hcc.1
          have k1 := hcc.2.1
          have k2 := hcc.2.2.1
          have f0 := hcc.2.2.2.1
          have f1 := hcc.2.2.2.2.1
          have f2 := hcc.2.2.2.2.2
          clear hcc
          refine wpOp_step rfl (fun K hK => ?_)
          simp only [List.getElem_toArray, List.getElem_cons_zero, List.getElem_cons_succ]
          rw [if_pos (by rfl)]
          go_simp
          refine hK _ _ ?_
          clear hK k0 f0 k1 f1 k2 f2
          have hT := ((((Turns.refl (w.heap.size + 1) Y1).setCell 0 (.bool true)).setCell 1 (.slice a1 z1.length c1)).setCell 2 (.slice a3 z3.length c3))
          replace FA := FA.beside ER (noWord3 (fun _ e => by cases e) (fun _ e => by cases e) (fun _ e => by cases e)) hT
          replace EA := EA.turns hT (by omega)
          replace S1 := S1.beside ER (noWord3 (fun _ e => by cases e) (fun _ e => by cases e) (fun _ e => by cases e)) hT
          replace EU := EU.turns hT (by omega)
          replace S2 := S2.beside ER (noWord3 (fun _ e => by cases e) (fun _ e => by cases e) (fun _ e => by cases e)) hT
          replace S3 := S3.beside ER (noWord3 (fun _ e => by cases e) (fun _ e => by cases e) (fun _ e => by cases e)) hT
          replace ER : Box (((Y1.setCell ⟨w.heap.size + 1, 0, none⟩ (.bool true)).setCell ⟨w.heap.size + 1, 1, none⟩ (.slice a1 z1.length c1)).setCell ⟨w.heap.size + 1, 2, none⟩ (.slice a3 z3.length c3)) (w.heap.size + 1) (.cells #[.bool true, .slice a1 z1.length c1, .slice a3 z3.length c3] 27) := ⟨Nat.lt_of_lt_of_le ER.lt hT.below.size, (heap_setCell_same _ _ 2 _ _ _ (heap_setCell_same _ _ 1 _ _ _ (heap_setCell_same _ _ 0 _ _ _ ER.what)))⟩
          have hr6 := hT.below
          obtain ⟨X1, hX⟩ : ∃ X, (((Y1.setCell ⟨w.heap.size + 1, 0, none⟩ (.bool true)).setCell ⟨w.heap.size + 1, 1, none⟩ (.slice a1 z1.length c1)).setCell ⟨w.heap.size + 1, 2, none⟩ (.slice a3 z3.length c3)) = X := ⟨_, rfl⟩
          rw [hX] at FA EA ER S1 EU S2 S3 hr6 ⊢
          clear hX hT
          refine wpAny_all (rs := [7]) (by kernel_rfl) (by simp) (fun i hi => ?_)
          obtain rfl : i = 7 := by simpa using hi
          clear hi
          refine wpOp_step rfl (fun K hK => ?_)
          simp only [List.getElem_toArray, List.getElem_cons_zero, List.getElem_cons_succ]
          rw [if_pos (by rfl)]
          go_simp
          refine hK _ _ ?_
          clear hK
          refine wpAny_done (by kernel_rfl) ?_ _
          replace hB := hB.trans ((Below.trans (Below.drew (Below.refl u5.heap.size u5)) hr).mono hB.size)
          replace hB := hB.trans (hr6.mono (by omega))
          have zz5_1 := hr.size
          have zi1 := hB.size
          have zy1_6 := hr6.size
          clear hr hr6
          have HI := pow_is (N := n * k + 1) (k := k) (sg := true) (b := true) IA FA.up.words FA.down.words (by simp [hpar]) V1 N1 V3 N3 (by omega) (by omega)
          have HAP := hide (apart_of (fun h b o e => SU.block h b o e) S3 (by omega) : Apart a1 a3 z1 z3)
          obtain ⟨k0, k1, k2, f0, f1, f2⟩ := EA.three
          obtain ⟨k3, k4, k5, f3, f4, f5⟩ := ER.three
          obtain ⟨k6, k7, f6, f7⟩ := EU.two
          have hcc := ER.three
          have r0 := hcc.1
          have r1 := hcc.2.1
          have r2 := hcc.2.2.1
          clear hcc
          go_wp2
          refine bodyPost_ret (v := .tuple #[.agg #[.bool true, .slice a1 z1.length c1, .slice a3 z3.length c3], .int .i64 0]) (by simp [results, Try.f14, go_sem, r0, r1, r2]) rfl ?_
          exact ⟨_, _, _, _, _, _, _, rfl, ⟨S1.mono (by omega), S3.mono (by omega)⟩, HAP.out, HI, hB⟩
      · have hp2 : ((k : Int) % 2 == 1) = false := beq_eq_false_iff_ne.2 (by omega)
        go_enter Try.func14, Try.ntmps14
        have hs0 := Nat.le_refl w.heap.size
        have hq : Below w.heap.size w (w.alloc (.cells #[.bool true, .slice a xs.length ca, .slice c ds.length cc] 27)) := (Below.refl _ _).alloc (Nat.le_refl _) _
        replace FA := FA.below hq
        have EA : Box (w.alloc (.cells #[.bool true, .slice a xs.length ca, .slice c ds.length cc] 27)) (w.heap.size) (.cells #[.bool true, .slice a xs.length ca, .slice c ds.length cc] 27) := Box.put (.cells #[.bool true, .slice a xs.length ca, .slice c ds.length cc] 27) rfl
        replace hs0 := Nat.le_trans hs0 hq.size
        replace hB := hB.trans (hq.mono hB.size)
        clear hq
        have hq : Below (w.alloc (.cells #[.bool true, .slice a xs.length ca, .slice c ds.length cc] 27)).heap.size (w.alloc (.cells #[.bool true, .slice a xs.length ca, .slice c ds.length cc] 27)) ((w.alloc (.cells #[.bool true, .slice a xs.length ca, .slice c ds.length cc] 27)).alloc (.cells #[.bool false, .slice none 0 0, .slice none 0 0] 27)) := (Below.refl _ _).alloc (Nat.le_refl _) _
        replace FA := FA.below hq
        replace EA := EA.below hq
        have ER : Box ((w.alloc (.cells #[.bool true, .slice a xs.length ca, .slice c ds.length cc] 27)).alloc (.cells #[.bool false, .slice none 0 0, .slice none 0 0] 27)) (w.heap.size + 1) (.cells #[.bool false, .slice none 0 0, .slice none 0 0] 27) := Box.put (.cells #[.bool false, .slice none 0 0, .slice none 0 0] 27) (by simp)
        replace hs0 := Nat.le_trans hs0 hq.size
        replace hB := hB.trans (hq.mono hB.size)
        clear hq
        go_wp2_with fail
        obtain ⟨u1, hname⟩ : ∃ u, ((w.alloc (.cells #[.bool true, .slice a xs.length ca, .slice c ds.length cc] 27)).alloc (.cells #[.bool false, .slice none 0 0, .slice none 0 0] 27)) = u := ⟨_, rfl⟩
        rw [hname] at hs0 hB FA EA ER ⊢
        have zh1 := hB.size
        have zs1 := hs0
        clear hname hs0
        have hk := pcheck_any true FA (by omega) (by omega)
        rw [HA.out] at hk
        refine (hk).mono ?_
        rintro e w2 ⟨rfl, hb⟩
        replace FA := FA.below hb
        replace EA := EA.below hb
        replace ER := ER.below hb
        replace hB := hB.trans (hb.mono hB.size)
        have zz2 := hb.size
        have zh2 := hB.size
        clear hb
        clear hk
        obtain ⟨k0, k1, k2, f0, f1, f2⟩ := EA.three
        obtain ⟨k3, k4, k5, f3, f4, f5⟩ := ER.three
        go_wp2_with fail
        clear k0 k1 k2 f0 f1 f2 k3 k4 k5 f3 f4 f5
        refine (hz _).mono ?_
        rintro e w3 ⟨rfl, hb⟩
        replace FA := FA.below hb
        replace EA := EA.below hb
        replace ER := ER.below hb
        replace hB := hB.trans (hb.mono hB.size)
        have zz3 := hb.size
        have zh3 := hB.size
        clear hb
        obtain ⟨k0, k1, k2, f0, f1, f2⟩ := EA.three
        obtain ⟨k3, k4, k5, f3, f4, f5⟩ := ER.three
        go_wp2_with fail
        clear k0 k1 k2 f0 f1 f2 k3 k4 k5 f3 f4 f5
        refine (raise_any FA.up k hk12 (by omega)).mono ?_
        rintro e w4 ⟨a1, c1, z1, rfl, S1, N1, v1, l1, hb⟩
        have V1 : Hid (val z1 = val xs ^ k) := v1
        have b1 : z1.length ≤ n * k + 1 := by omega
        clear v1 l1
        replace FA := FA.below hb
        replace EA := EA.below hb
        replace ER := ER.below hb
        replace hB := hB.trans (hb.mono hB.size)
        have zz4 := hb.size
        have zh4 := hB.size
        clear hb
        have SU := S1
        obtain ⟨k0, k1, k2, f0, f1, f2⟩ := EA.three
        obtain ⟨k3, k4, k5, f3, f4, f5⟩ := ER.three
        have qEA := EA.lt
        have qER := ER.lt
        have hs0 := Nat.le_refl w4.heap.size
        have hq : Below w4.heap.size w4 (w4.alloc (.cells #[.bool false, .slice a1 z1.length c1] 25)) := (Below.refl _ _).alloc (Nat.le_refl _) _
        replace FA := FA.below hq
        replace EA := EA.below hq
        replace ER := ER.below hq
        replace S1 := S1.below hq
        have EU : Box (w4.alloc (.cells #[.bool false, .slice a1 z1.length c1] 25)) (w4.heap.size) (.cells #[.bool false, .slice a1 z1.length c1] 25) := Box.put (.cells #[.bool false, .slice a1 z1.length c1] 25) rfl
        replace hs0 := Nat.le_trans hs0 hq.size
        replace hB := hB.trans (hq.mono hB.size)
        clear hq
        go_wp2_with fail
        clear k0 k1 k2 f0 f1 f2 k3 k4 k5 f3 f4 f5
        obtain ⟨u5, hname⟩ : ∃ u, (w4.alloc (.cells #[.bool false, .slice a1 z1.length c1] 25)) = u := ⟨_, rfl⟩
        rw [hname] at hs0 hB FA EA ER S1 EU ⊢
        have zh5 := hB.size
        have zs5 := hs0
        clear hname hs0
        replace FA := FA.drew
        have qEA := EA.lt
        replace EA := EA.drew
        have qER := ER.lt
        replace ER := ER.drew
        replace S1 := S1.drew
        have qEU := EU.lt
        replace EU := EU.drew
        refine wp_yields 6 [.is (.agg #[.bool false, .slice a1 z1.length c1]), .is (.pointer (some ⟨w.heap.size, 2, none⟩)), .is (.slice c ds.length cc), .is (.int .i64 k), (Yield.nat u5.heap.size (val ds ^ k) (n * k + 1)), (Yield.natIn (fun s => .agg #[.bool false, .slice a1 z1.length c1, s]) u5.heap.size (val ds ^ k) (n * k + 1))] (by kernel_rfl) (by kernel_rfl) (lt_cons ?_ (lt_cons ?_ (lt_cons ?_ (lt_cons ?_ (lt_cons ?_ (lt_cons ?_ lt_nil)))))) ?_
        case refine_1 =>
          refine OpDoes.mk rfl ?_
          intro vs V hV hd K hK
          have d0 : vs 0 = .agg #[.bool false, .slice a1 z1.length c1] := hd 0 (by decide) (by kernel_rfl)
          have hh := fun (P : Prop) => Yield.nat_elim P (show ((Yield.nat u5.heap.size (val ds ^ k) (n * k + 1)) : Yield).At (vs 4) V from hd 4 (by decide) (by kernel_rfl))
          refine hh _ ?_
          intro a2 c2 z2 d4 S2 N2 V2 b2
          clear hh
          simp only [laidIn, List.getElem_toArray, List.getElem_cons_zero, List.getElem_cons_succ, List.getElem?_toArray, List.getElem?_cons_zero, List.getElem?_cons_succ, if_true, Act.put, List.setIfInBounds_toArray, List.set_cons_zero, List.set_cons_succ] at hK ⊢
          simp only [d0, d4] at hK ⊢
          go_simp
          exact hK.out _ _ (Below.refl _ _) ⟨_, _, _, rfl, S2, N2, V2, b2⟩ (not_fresh rfl)
        case refine_2 =>
          refine OpDoes.mk rfl ?_
          intro vs V hV hd K hK
          have d2 : vs 2 = .slice c ds.length cc := hd 2 (by decide) (by kernel_rfl)
          have d3 : vs 3 = .int .i64 k := hd 3 (by decide) (by kernel_rfl)
          simp only [laidIn, List.getElem_toArray, List.getElem_cons_zero, List.getElem_cons_succ, List.getElem?_toArray, List.getElem?_cons_zero, List.getElem?_cons_succ, if_true, Act.put, List.setIfInBounds_toArray, List.set_cons_zero, List.set_cons_succ] at hK ⊢
          simp only [d2, d3] at hK ⊢
          go_simp
          go_at_call 37
          refine (raise_any (FA.down.below hV) k hk12 (by omega)).mono ?_
          rintro e V' ⟨a2, c2, z2, rfl, S2, N2, v2, l2, hb⟩
          have V2 : Hid (val z2 = val ds ^ k) := v2
          have b2 : z2.length ≤ n * k + 1 := by omega
          clear v2 l2
          exact hK.out _ _ hb ⟨_, _, _, rfl, S2.mono hV.size, N2, V2, b2⟩ (not_fresh rfl)
        case refine_3 =>
          refine OpDoes.mk rfl ?_
          intro vs V hV hd K hK
          simp only [laidIn, List.getElem_toArray, List.getElem_cons_zero, List.getElem_cons_succ, List.getElem?_toArray, List.getElem?_cons_zero, List.getElem?_cons_succ, if_true, Act.put, List.setIfInBounds_toArray, List.set_cons_zero, List.set_cons_succ] at hK ⊢
          go_simp
          exact hK.out _ _ (Below.refl _ _) rfl (not_fresh rfl)
        case refine_4 =>
          refine OpDoes.mk rfl ?_
          intro vs V hV hd K hK
          have d1 : vs 1 = .pointer (some ⟨w.heap.size, 2, none⟩) := hd 1 (by decide) (by kernel_rfl)
          have hcc := (EA.below hV).three
          have k0 := hcc.1
          have k1 := hcc.2.1
          have k2 := hcc.2.2.1
          clear hcc
          simp only [laidIn, List.getElem_toArray, List.getElem_cons_zero, List.getElem_cons_succ, List.getElem?_toArray, List.getElem?_cons_zero, List.getElem?_cons_succ, if_true, Act.put, List.setIfInBounds_toArray, List.set_cons_zero, List.set_cons_succ] at hK ⊢
          simp only [d1] at hK ⊢
          go_simp
          exact hK.out _ _ (Below.refl _ _) rfl (not_fresh rfl)
        case refine_5 =>
          refine OpDoes.mk rfl ?_
          intro vs V hV hd K hK
          simp only [laidIn, List.getElem_toArray, List.getElem_cons_zero, List.getElem_cons_succ, List.getElem?_toArray, List.getElem?_cons_zero, List.getElem?_cons_succ, if_true, Act.put, List.setIfInBounds_toArray, List.set_cons_zero, List.set_cons_succ] at hK ⊢
          go_simp
          exact hK.out _ _ (Below.refl _ _) rfl (not_fresh rfl)
        case refine_6 =>
          refine OpDoes.mk rfl ?_
          intro vs V hV hd K hK
          have hcc := (EU.below hV).two
          have k0 := hcc.1
          have k1 := hcc.2.1
          clear hcc
          simp only [laidIn, List.getElem_toArray, List.getElem_cons_zero, List.getElem?_toArray, List.getElem?_cons_zero, List.getElem?_cons_succ, if_true, Act.put, List.setIfInBounds_toArray, List.set_cons_zero, List.set_cons_succ] at hK ⊢
          go_simp
          exact hK.out _ _ (Below.refl _ _) rfl (not_fresh rfl)
        case refine_7 =>
          intro vs Y1 hV hR hne fuel
          have d0 : vs 0 = .agg #[.bool false, .slice a1 z1.length c1] := hR 0 (by decide)
          have d1 : vs 1 = .pointer (some ⟨w.heap.size, 2, none⟩) := hR 1 (by decide)
          have d2 : vs 2 = .slice c ds.length cc := hR 2 (by decide)
          have d3 : vs 3 = .int .i64 k := hR 3 (by decide)
          have hh := fun (P : Prop) => Yield.nat_elim P (show ((Yield.nat u5.heap.size (val ds ^ k) (n * k + 1)) : Yield).At (vs 4) Y1 from hR 4 (by decide))
          refine hh _ ?_
          intro a2 c2 z2 d4 S2 N2 V2 b2
          clear hh
          have hh := fun (P : Prop) => Yield.natIn_elim P (show ((Yield.natIn (fun s => .agg #[.bool false, .slice a1 z1.length c1, s]) u5.heap.size (val ds ^ k) (n * k + 1)) : Yield).At (vs 5) Y1 from hR 5 (by decide))
          refine hh _ ?_
          intro a3 c3 z3 d5 S3 N3 V3 b3
          clear hh
          replace FA := FA.below hV
          replace EA := EA.below hV
          replace ER := ER.below hV
          replace S1 := S1.below hV
          replace EU := EU.below hV
          have hr := hV
          simp only [laidIn, List.getElem?_toArray, List.getElem?_cons_zero, List.getElem?_cons_succ, if_true, Act.put, List.setIfInBounds_toArray, List.set_cons_zero, List.set_cons_succ]
          simp only [d0, d1, d2, d3, d4, d5]
          clear hR hne hV d0 d1 d2 d3 d4 d5
          clear vs
          show wpAny _ _ _ _ (fuel + 2) _ _ _
          refine wpAny_all (rs := [6]) (by kernel_rfl) (by simp) (fun i hi => ?_)
          obtain rfl : i = 6 := by simpa using hi
          clear hi
          have hcc := ER.three
          have k0 := hcc.1
          have k1 := hcc.2.1
          have k2 := hcc.2.2.1
          have f0 := hcc.2.2.2.1
          have f1 := hcc.2.2.2.2.1
          have f2 := hcc.2.2.2.2.2
          clear hcc
          refine wpOp_step rfl (fun K hK => ?_)
          simp only [List.getElem_toArray, List.getElem_cons_zero, List.getElem_cons_succ]
          rw [if_pos (by rfl)]
          go_simp
          refine hK _ _ ?_
          clear hK k0 f0 k1 f1 k2 f2
          have hT := ((((Turns.refl (w.heap.size + 1) Y1).setCell 0 (.bool false)).setCell 1 (.slice a1 z1.length c1)).setCell 2 (.slice a3 z3.length c3))
          replace FA := FA.beside ER (noWord3 (fun _ e => by cases e) (fun _ e => by cases e) (fun _ e => by cases e)) hT
          replace EA := EA.turns hT (by omega)
          replace S1 := S1.beside ER (noWord3 (fun _ e => by cases e) (fun _ e => by cases e) (fun _ e => by cases e)) hT
          replace EU := EU.turns hT (by omega)
          replace S2 := S2.beside ER (noWord3 (fun _ e => by cases e) (fun _ e => by cases e) (fun _ e => by cases e)) hT
          replace S3 := S3.beside ER (noWord3 (fun _ e => by cases e) (fun _ e => by cases e) (fun _ e => by cases e)) hT
          replace ER : Box (((Y1.setCell ⟨w.heap.size + 1, 0, none⟩ (.bool false)).setCell ⟨w.heap.size + 1, 1, none⟩ (.slice a1 z1.length c1)).setCell ⟨w.heap.size + 1, 2, none⟩ (.slice a3 z3.length c3)) (w.heap.size + 1) (.cells #[.bool false, .slice a1 z1.length c1, .slice a3 z3.length c3] 27) := ⟨Nat.lt_of_lt_of_le ER.lt hT.below.size, (heap_setCell_same _ _ 2 _ _ _ (heap_setCell_same _ _ 1 _ _ _ (heap_setCell_same _ _ 0 _ _ _ ER.what)))⟩
          have hr6 := hT.below
          obtain ⟨X1, hX⟩ : ∃ X, (((Y1.setCell ⟨w.heap.size + 1, 0, none⟩ (.bool false)).setCell ⟨w.heap.size + 1, 1, none⟩ (.slice a1 z1.length c1)).setCell ⟨w.heap.size + 1, 2, none⟩ (.slice a3 z3.length c3)) = X := ⟨_, rfl⟩
          rw [hX] at FA EA ER S1 EU S2 S3 hr6 ⊢
          clear hX hT
          refine wpAny_all (rs := [7]) (by kernel_rfl) (by simp) (fun i hi => ?_)
          obtain rfl : i = 7 := by simpa using hi
          clear hi
          refine wpOp_step rfl (fun K hK => ?_)
          simp only [List.getElem_toArray, List.getElem_cons_zero, List.getElem_cons_succ]
          rw [if_pos (by rfl)]
          go_simp
          refine hK _ _ ?_
          clear hK
          refine wpAny_done (by kernel_rfl) ?_ _
          replace hB := hB.trans ((Below.trans (Below.drew (Below.refl u5.heap.size u5)) hr).mono hB.size)
          replace hB := hB.trans (hr6.mono (by omega))
          have zz5_1 := hr.size
          have zi1 := hB.size
          have zy1_6 := hr6.size
          clear hr hr6
          have HI := pow_is (N := n * k + 1) (k := k) (sg := false) (b := true) IA FA.up.words FA.down.words (by simp [hpar]) V1 N1 V3 N3 (by omega) (by omega)
          have HAP := hide (apart_of (fun h b o e => SU.block h b o e) S3 (by omega) : Apart a1 a3 z1 z3)
          obtain ⟨k0, k1, k2, f0, f1, f2⟩ := EA.three
          obtain ⟨k3, k4, k5, f3, f4, f5⟩ := ER.three
          obtain ⟨k6, k7, f6, f7⟩ := EU.two
          have hcc := ER.three
          have r0 := hcc.1
          have r1 := hcc.2.1
          have r2 := hcc.2.2.1
          clear hcc
          go_wp2
          refine bodyPost_ret (v := .tuple #[.agg #[.bool false, .slice a1 z1.length c1, .slice a3 z3.length c3], .int .i64 0]) (by simp [results, Try.f14, go_sem, r0, r1, r2]) rfl ?_
          exact ⟨_, _, _, _, _, _, _, rfl, ⟨S1.mono (by omega), S3.mono (by omega)⟩, HAP.out, HI, hB⟩

end Go.Proofs.Ytblmkddjlfienaa

/-
  The walk of ratio's Power, below 0.
-/
namespace Go.Proofs.Ytblmkddjlfienaa
open Go.RowKit

set_option maxRecDepth 100000 in
set_option maxHeartbeats 4000000 in
/-- Power by a number below 0. -/
theorem ppower_neg {lo : Nat} {a c : Option Addr} {ca cc : Nat} {xs ds : List Int} {w : World} (b : Bool) (FA : Fr lo w a ca xs c cc ds) {n : Nat} {q : Rat} (IA : Is b xs ds q n) (hn : n ≤ 30) (k : Nat) (hk12 : k ≤ 12) (hk0 : 0 < k) (HX : Hid (xs ≠ [])) :
    Calls Try.prog 14 #[.agg #[.bool b, .slice a xs.length ca, .slice c ds.length cc], .int .i64 (-(k : Int))] w fun e w' => ∃ (b' : Bool) (a' : Option Addr) (ca' : Nat) (ts' : List Int) (c' : Option Addr) (cc' : Nat) (es' : List Int), e = .returned (.tuple #[.agg #[.bool b', .slice a' ts'.length ca', .slice c' es'.length cc'], .int .i64 0]) ∧ Fr w.heap.size w' a' ca' ts' c' cc' es' ∧ Apart a' c' ts' es' ∧ Is b' ts' es' (q⁻¹ ^ k) (n * k + 1) ∧ Below w.heap.size w w' := by
  have lxa := IA.lu
  have lda := IA.ld
  have hxk : xs.length * k ≤ n * k := Nat.mul_le_mul_right _ lxa
  have hdk : ds.length * k ≤ n * k := Nat.mul_le_mul_right _ lda
  have h1 : ¬ -(k : Int) < -10000 := by omega
  have h2 : ¬ 10000 < -(k : Int) := by omega
  have h3 : -(k : Int) < 0 := by omega
  have h4 : IntKind.i64.wrap (k : Int) = k := by rw [IntKind.wrap_i64]; omega
  have HA : Hid (formR b xs ds = 0) := (formR_low FA.up.words FA.down.words).2 IA.low
  have hB := Below.refl w.heap.size w
  have hz := fun w => isZero_any b a xs ca c ds cc w
  rw [show ((xs.length : Int) == 0) = false from beq_eq_false_iff_ne.2 (by have := List.length_pos_iff.2 HX.out; omega)] at hz
  cases b with
  | false =>
    go_enter Try.func14, Try.ntmps14
    have hs0 := Nat.le_refl w.heap.size
    have hq : Below w.heap.size w (w.alloc (.cells #[.bool false, .slice a xs.length ca, .slice c ds.length cc] 27)) := (Below.refl _ _).alloc (Nat.le_refl _) _
    replace FA := FA.below hq
    have EA : Box (w.alloc (.cells #[.bool false, .slice a xs.length ca, .slice c ds.length cc] 27)) (w.heap.size) (.cells #[.bool false, .slice a xs.length ca, .slice c ds.length cc] 27) := Box.put (.cells #[.bool false, .slice a xs.length ca, .slice c ds.length cc] 27) rfl
    replace hs0 := Nat.le_trans hs0 hq.size
    replace hB := hB.trans (hq.mono hB.size)
    clear hq
    have hq : Below (w.alloc (.cells #[.bool false, .slice a xs.length ca, .slice c ds.length cc] 27)).heap.size (w.alloc (.cells #[.bool false, .slice a xs.length ca, .slice c ds.length cc] 27)) ((w.alloc (.cells #[.bool false, .slice a xs.length ca, .slice c ds.length cc] 27)).alloc (.cells #[.bool false, .slice none 0 0, .slice none 0 0] 27)) := (Below.refl _ _).alloc (Nat.le_refl _) _
    replace FA := FA.below hq
    replace EA := EA.below hq
    have ER : Box ((w.alloc (.cells #[.bool false, .slice a xs.length ca, .slice c ds.length cc] 27)).alloc (.cells #[.bool false, .slice none 0 0, .slice none 0 0] 27)) (w.heap.size + 1) (.cells #[.bool false, .slice none 0 0, .slice none 0 0] 27) := Box.put (.cells #[.bool false, .slice none 0 0, .slice none 0 0] 27) (by simp)
    replace hs0 := Nat.le_trans hs0 hq.size
    replace hB := hB.trans (hq.mono hB.size)
    clear hq
    go_wp2_with fail
    obtain ⟨u1, hname⟩ : ∃ u, ((w.alloc (.cells #[.bool false, .slice a xs.length ca, .slice c ds.length cc] 27)).alloc (.cells #[.bool false, .slice none 0 0, .slice none 0 0] 27)) = u := ⟨_, rfl⟩
    rw [hname] at hs0 hB FA EA ER ⊢
    have zh1 := hB.size
    have zs1 := hs0
    clear hname hs0
    have hk := pcheck_any false FA (by omega) (by omega)
    rw [HA.out] at hk
    refine (hk).mono ?_
    rintro e w2 ⟨rfl, hb⟩
    replace FA := FA.below hb
    replace EA := EA.below hb
    replace ER := ER.below hb
    replace hB := hB.trans (hb.mono hB.size)
    have zz2 := hb.size
    have zh2 := hB.size
    clear hb
    clear hk
    obtain ⟨k0, k1, k2, f0, f1, f2⟩ := EA.three
    obtain ⟨k3, k4, k5, f3, f4, f5⟩ := ER.three
    go_wp2_with fail
    clear k0 k1 k2 f0 f1 f2 k3 k4 k5 f3 f4 f5
    refine (hz _).mono ?_
    rintro e w3 ⟨rfl, hb⟩
    replace FA := FA.below hb
    replace EA := EA.below hb
    replace ER := ER.below hb
    replace hB := hB.trans (hb.mono hB.size)
    have zz3 := hb.size
    have zh3 := hB.size
    clear hb
    obtain ⟨k0, k1, k2, f0, f1, f2⟩ := EA.three
    obtain ⟨k3, k4, k5, f3, f4, f5⟩ := ER.three
    go_wp2_with fail
    clear k0 k1 k2 f0 f1 f2 k3 k4 k5 f3 f4 f5
    refine (turned_any false a xs ca c ds cc _).mono ?_
    rintro e w4 ⟨rfl, hb⟩
    replace FA := FA.below hb
    replace EA := EA.below hb
    replace ER := ER.below hb
    replace hB := hB.trans (hb.mono hB.size)
    have zz4 := hb.size
    have zh4 := hB.size
    clear hb
    obtain ⟨k0, k1, k2, f0, f1, f2⟩ := EA.three
    obtain ⟨k3, k4, k5, f3, f4, f5⟩ := ER.three
    have qEA := EA.lt
    have qER := ER.lt
    have hs0 := Nat.le_refl w4.heap.size
    have hT := ((((Turns.refl (w.heap.size) w4).setCell 0 (.bool false)).setCell 1 (.slice c ds.length cc)).setCell 2 (.slice a xs.length ca))
    replace FA := FA.beside EA (noWord3 (fun _ e => by cases e) (fun _ e => by cases e) (fun _ e => by cases e)) hT
    replace ER := ER.turns hT (by omega)
    replace EA : Box (((w4.setCell ⟨w.heap.size, 0, none⟩ (.bool false)).setCell ⟨w.heap.size, 1, none⟩ (.slice c ds.length cc)).setCell ⟨w.heap.size, 2, none⟩ (.slice a xs.length ca)) (w.heap.size) (.cells #[.bool false, .slice c ds.length cc, .slice a xs.length ca] 27) := ⟨Nat.lt_of_lt_of_le EA.lt hT.below.size, (heap_setCell_same _ _ 2 _ _ _ (heap_setCell_same _ _ 1 _ _ _ (heap_setCell_same _ _ 0 _ _ _ EA.what)))⟩
    replace hB := hB.trans (hT.below.mono (by omega))
    replace hs0 := Nat.le_trans hs0 hT.below.size
    clear hT
    go_wp2_with fail
    clear k0 k1 k2 f0 f1 f2 k3 k4 k5 f3 f4 f5
    obtain ⟨u5, hname⟩ : ∃ u, (((w4.setCell ⟨w.heap.size, 0, none⟩ (.bool false)).setCell ⟨w.heap.size, 1, none⟩ (.slice c ds.length cc)).setCell ⟨w.heap.size, 2, none⟩ (.slice a xs.length ca)) = u := ⟨_, rfl⟩
    rw [hname] at hs0 hB FA EA ER ⊢
    have zh5 := hB.size
    have zs5 := hs0
    clear hname hs0
    refine (raise_any FA.down k hk12 (by omega)).mono ?_
    rintro e w6 ⟨a1, c1, z1, rfl, S1, N1, v1, l1, hb⟩
    have V1 : Hid (val z1 = val ds ^ k) := v1
    have b1 : z1.length ≤ n * k + 1 := by omega
    clear v1 l1
    replace FA := FA.below hb
    replace EA := EA.below hb
    replace ER := ER.below hb
    replace hB := hB.trans (hb.mono hB.size)
    have zz6 := hb.size
    have zh6 := hB.size
    clear hb
    have SU := S1
    obtain ⟨k0, k1, k2, f0, f1, f2⟩ := EA.three
    obtain ⟨k3, k4, k5, f3, f4, f5⟩ := ER.three
    have qEA := EA.lt
    have qER := ER.lt
    have hs0 := Nat.le_refl w6.heap.size
    have hq : Below w6.heap.size w6 (w6.alloc (.cells #[.bool false, .slice a1 z1.length c1] 25)) := (Below.refl _ _).alloc (Nat.le_refl _) _
    replace FA := FA.below hq
    replace EA := EA.below hq
    replace ER := ER.below hq
    replace S1 := S1.below hq
    have EU : Box (w6.alloc (.cells #[.bool false, .slice a1 z1.length c1] 25)) (w6.heap.size) (.cells #[.bool false, .slice a1 z1.length c1] 25) := Box.put (.cells #[.bool false, .slice a1 z1.length c1] 25) rfl
    replace hs0 := Nat.le_trans hs0 hq.size
    replace hB := hB.trans (hq.mono hB.size)
    clear hq
    go_wp2_with fail
    clear k0 k1 k2 f0 f1 f2 k3 k4 k5 f3 f4 f5
    obtain ⟨u7, hname⟩ : ∃ u, (w6.alloc (.cells #[.bool false, .slice a1 z1.length c1] 25)) = u := ⟨_, rfl⟩
    rw [hname] at hs0 hB FA EA ER S1 EU ⊢
    have zh7 := hB.size
    have zs7 := hs0
    clear hname hs0
    replace FA := FA.drew
    have qEA := EA.lt
    replace EA := EA.drew
    have qER := ER.lt
    replace ER := ER.drew
    replace S1 := S1.drew
    have qEU := EU.lt
    replace EU := EU.drew
    refine wp_yields 6 [.is (.agg #[.bool false, .slice a1 z1.length c1]), .is (.pointer (some ⟨w.heap.size, 2, none⟩)), .is (.slice a xs.length ca), .is (.int .i64 k), (Yield.nat u7.heap.size (val xs ^ k) (n * k + 1)), (Yield.natIn (fun s => .agg #[.bool false, .slice a1 z1.length c1, s]) u7.heap.size (val xs ^ k) (n * k + 1))] (by kernel_rfl) (by kernel_rfl) (lt_cons ?_ (lt_cons ?_ (lt_cons ?_ (lt_cons ?_ (lt_cons ?_ (lt_cons ?_ lt_nil)))))) ?_
    case refine_1 =>
      refine OpDoes.mk rfl ?_
      intro vs V hV hd K hK
      have d0 : vs 0 = .agg #[.bool false, .slice a1 z1.length c1] := hd 0 (by decide) (by kernel_rfl)
      have hh := fun (P : Prop) => Yield.nat_elim P (show ((Yield.nat u7.heap.size (val xs ^ k) (n * k + 1)) : Yield).At (vs 4) V from hd 4 (by decide) (by kernel_rfl))
      refine hh _ ?_
      intro a2 c2 z2 d4 S2 N2 V2 b2
      clear hh
      simp only [laidIn, List.getElem_toArray, List.getElem_cons_zero, List.getElem_cons_succ, List.getElem?_toArray, List.getElem?_cons_zero, List.getElem?_cons_succ, if_true, Act.put, List.setIfInBounds_toArray, List.set_cons_zero, List.set_cons_succ] at hK ⊢
      simp only [d0, d4] at hK ⊢
      go_simp
      exact hK.out _ _ (Below.refl _ _) ⟨_, _, _, rfl, S2, N2, V2, b2⟩ (not_fresh rfl)
    case refine_2 =>
      refine OpDoes.mk rfl ?_
      intro vs V hV hd K hK
      have d2 : vs 2 = .slice a xs.length ca := hd 2 (by decide) (by kernel_rfl)
      have d3 : vs 3 = .int .i64 k := hd 3 (by decide) (by kernel_rfl)
      simp only [laidIn, List.getElem_toArray, List.getElem_cons_zero, List.getElem_cons_succ, List.getElem?_toArray, List.getElem?_cons_zero, List.getElem?_cons_succ, if_true, Act.put, List.setIfInBounds_toArray, List.set_cons_zero, List.set_cons_succ] at hK ⊢
      simp only [d2, d3] at hK ⊢
      go_simp
      go_at_call 37
      refine (raise_any (FA.up.below hV) k hk12 (by omega)).mono ?_
      rintro e V' ⟨a2, c2, z2, rfl, S2, N2, v2, l2, hb⟩
      have V2 : Hid (val z2 = val xs ^ k) := v2
      have b2 : z2.length ≤ n * k + 1 := by omega
      clear v2 l2
      exact hK.out _ _ hb ⟨_, _, _, rfl, S2.mono hV.size, N2, V2, b2⟩ (not_fresh rfl)
    case refine_3 =>
      refine OpDoes.mk rfl ?_
      intro vs V hV hd K hK
      simp only [laidIn, List.getElem_toArray, List.getElem_cons_zero, List.getElem_cons_succ, List.getElem?_toArray, List.getElem?_cons_zero, List.getElem?_cons_succ, if_true, Act.put, List.setIfInBounds_toArray, List.set_cons_zero, List.set_cons_succ] at hK ⊢
      go_simp
      exact hK.out _ _ (Below.refl _ _) rfl (not_fresh rfl)
    case refine_4 =>
      refine OpDoes.mk rfl ?_
      intro vs V hV hd K hK
      have d1 : vs 1 = .pointer (some ⟨w.heap.size, 2, none⟩) := hd 1 (by decide) (by kernel_rfl)
      have hcc := (EA.below hV).three
      have k0 := hcc.1
      have k1 := hcc.2.1
      have k2 := hcc.2.2.1
      clear hcc
      simp only [laidIn, List.getElem_toArray, List.getElem_cons_zero, List.getElem_cons_succ, List.getElem?_toArray, List.getElem?_cons_zero, List.getElem?_cons_succ, if_true, Act.put, List.setIfInBounds_toArray, List.set_cons_zero, List.set_cons_succ] at hK ⊢
      simp only [d1] at hK ⊢
      go_simp
      exact hK.out _ _ (Below.refl _ _) rfl (not_fresh rfl)
    case refine_5 =>
      refine OpDoes.mk rfl ?_
      intro vs V hV hd K hK
      simp only [laidIn, List.getElem_toArray, List.getElem_cons_zero, List.getElem_cons_succ, List.getElem?_toArray, List.getElem?_cons_zero, List.getElem?_cons_succ, if_true, Act.put, List.setIfInBounds_toArray, List.set_cons_zero, List.set_cons_succ] at hK ⊢
      go_simp
      exact hK.out _ _ (Below.refl _ _) rfl (not_fresh rfl)
    case refine_6 =>
      refine OpDoes.mk rfl ?_
      intro vs V hV hd K hK
      have hcc := (EU.below hV).two
      have k0 := hcc.1
      have k1 := hcc.2.1
      clear hcc
      simp only [laidIn, List.getElem_toArray, List.getElem_cons_zero, List.getElem?_toArray, List.getElem?_cons_zero, List.getElem?_cons_succ, if_true, Act.put, List.setIfInBounds_toArray, List.set_cons_zero, List.set_cons_succ] at hK ⊢
      go_simp
      exact hK.out _ _ (Below.refl _ _) rfl (not_fresh rfl)
    case refine_7 =>
      intro vs Y1 hV hR hne fuel
      have d0 : vs 0 = .agg #[.bool false, .slice a1 z1.length c1] := hR 0 (by decide)
      have d1 : vs 1 = .pointer (some ⟨w.heap.size, 2, none⟩) := hR 1 (by decide)
      have d2 : vs 2 = .slice a xs.length ca := hR 2 (by decide)
      have d3 : vs 3 = .int .i64 k := hR 3 (by decide)
      have hh := fun (P : Prop) => Yield.nat_elim P (show ((Yield.nat u7.heap.size (val xs ^ k) (n * k + 1)) : Yield).At (vs 4) Y1 from hR 4 (by decide))
      refine hh _ ?_
      intro a2 c2 z2 d4 S2 N2 V2 b2
      clear hh
      have hh := fun (P : Prop) => Yield.natIn_elim P (show ((Yield.natIn (fun s => .agg #[.bool false, .slice a1 z1.length c1, s]) u7.heap.size (val xs ^ k) (n * k + 1)) : Yield).At (vs 5) Y1 from hR 5 (by decide))
      refine hh _ ?_
      intro a3 c3 z3 d5 S3 N3 V3 b3
      clear hh
      replace FA := FA.below hV
      replace EA := EA.below hV
      replace ER := ER.below hV
      replace S1 := S1.below hV
      replace EU := EU.below hV
      have hr := hV
      simp only [laidIn, List.getElem?_toArray, List.getElem?_cons_zero, List.getElem?_cons_succ, if_true, Act.put, List.setIfInBounds_toArray, List.set_cons_zero, List.set_cons_succ]
      simp only [d0, d1, d2, d3, d4, d5]
      clear hR hne hV d0 d1 d2 d3 d4 d5
      clear vs
      show wpAny _ _ _ _ (fuel + 2) _ _ _
      refine wpAny_all (rs := [6]) (by kernel_rfl) (by simp) (fun i hi => ?_)
      obtain rfl : i = 6 := by simpa using hi
      clear hi
      have hcc := ER.three
      have k0 := hcc.1
      have k1 := hcc.2.1
      have k2 := hcc.2.2.1
      have f0 := hcc.2.2.2.1
      have f1 := hcc.2.2.2.2.1
      have f2 := hcc.2.2.2.2.2
      clear hcc
      refine wpOp_step rfl (fun K hK => ?_)
      simp only [List.getElem_toArray, List.getElem_cons_zero, List.getElem_cons_succ]
      rw [if_pos (by rfl)]
      go_simp
      refine hK _ _ ?_
      clear hK k0 f0 k1 f1 k2 f2
      have hT := ((((Turns.refl (w.heap.size + 1) Y1).setCell 0 (.bool false)).setCell 1 (.slice a1 z1.length c1)).setCell 2 (.slice a3 z3.length c3))
      replace FA := FA.beside ER (noWord3 (fun _ e => by cases e) (fun _ e => by cases e) (fun _ e => by cases e)) hT
      replace EA := EA.turns hT (by omega)
      replace S1 := S1.beside ER (noWord3 (fun _ e => by cases e) (fun _ e => by cases e) (fun _ e => by cases e)) hT
      replace EU := EU.turns hT (by omega)
      replace S2 := S2.beside ER (noWord3 (fun _ e => by cases e) (fun _ e => by cases e) (fun _ e => by cases e)) hT
      replace S3 := S3.beside ER (noWord3 (fun _ e => by cases e) (fun _ e => by cases e) (fun _ e => by cases e)) hT
      replace ER : Box (((Y1.setCell ⟨w.heap.size + 1, 0, none⟩ (.bool false)).setCell ⟨w.heap.size + 1, 1, none⟩ (.slice a1 z1.length c1)).setCell ⟨w.heap.size + 1, 2, none⟩ (.slice a3 z3.length c3)) (w.heap.size + 1) (.cells #[.bool false, .slice a1 z1.length c1, .slice a3 z3.length c3] 27) := ⟨Nat.lt_of_lt_of_le ER.lt hT.below.size, (heap_setCell_same _ _ 2 _ _ _ (heap_setCell_same _ _ 1 _ _ _ (heap_setCell_same _ _ 0 _ _ _ ER.what)))⟩
      have hr6 := hT.below
      obtain ⟨X1, hX⟩ : ∃ X, (((Y1.setCell ⟨w.heap.size + 1, 0, none⟩ (.bool false)).setCell ⟨w.heap.size + 1, 1, none⟩ (.slice a1 z1.length c1)).setCell ⟨w.heap.size + 1, 2, none⟩ (.slice a3 z3.length c3)) = X := ⟨_, rfl⟩
      rw [hX] at FA EA ER S1 EU S2 S3 hr6 ⊢
      clear hX hT
      refine wpAny_all (rs := [7]) (by kernel_rfl) (by simp) (fun i hi => ?_)
      obtain rfl : i = 7 := by simpa using hi
      clear hi
      refine wpOp_step rfl (fun K hK => ?_)
      simp only [List.getElem_toArray, List.getElem_cons_zero, List.getElem_cons_succ]
      rw [if_pos (by rfl)]
      go_simp
      refine hK _ _ ?_
      clear hK
      refine wpAny_done (by kernel_rfl) ?_ _
      replace hB := hB.trans ((Below.trans (Below.drew (Below.refl u7.heap.size u7)) hr).mono hB.size)
      replace hB := hB.trans (hr6.mono (by omega))
      have zz7_1 := hr.size
      have zi1 := hB.size
      have zy1_6 := hr6.size
      clear hr hr6
      have HI := pow_is (N := n * k + 1) (k := k) (sg := false) (b := false) (IA.inv FA.up.words HX.out) FA.down.words FA.up.words (by simp) V1 N1 V3 N3 (by omega) (by omega)
      have HAP := hide (apart_of (fun h b o e => SU.block h b o e) S3 (by omega) : Apart a1 a3 z1 z3)
      obtain ⟨k0, k1, k2, f0, f1, f2⟩ := EA.three
      obtain ⟨k3, k4, k5, f3, f4, f5⟩ := ER.three
      obtain ⟨k6, k7, f6, f7⟩ := EU.two
      have hcc := ER.three
      have r0 := hcc.1
      have r1 := hcc.2.1
      have r2 := hcc.2.2.1
      clear hcc
      go_wp2
      refine bodyPost_ret (v := .tuple #[.agg #[.bool false, .slice a1 z1.length c1, .slice a3 z3.length c3], .int .i64 0]) (by simp [results, Try.f14, go_sem, r0, r1, r2]) rfl ?_
      exact ⟨_, _, _, _, _, _, _, rfl, ⟨S1.mono (by omega), S3.mono (by omega)⟩, HAP.out, HI, hB⟩
  | true =>
    by_cases hpar : k % 2 = 1
    · have hp2 : ((k : Int) % 2 == 1) = true := beq_iff_eq.2 (by omega)
      go_enter Try.func14, Try.ntmps14
      have hs0 := Nat.le_refl w.heap.size
      have hq : Below w.heap.size w (w.alloc (.cells #[.bool true, .slice a xs.length ca, .slice c ds.length cc] 27)) := (Below.refl _ _).alloc (Nat.le_refl _) _
      replace FA := FA.below hq
      have EA : Box (w.alloc (.cells #[.bool true, .slice a xs.length ca, .slice c ds.length cc] 27)) (w.heap.size) (.cells #[.bool true, .slice a xs.length ca, .slice c ds.length cc] 27) := Box.put (.cells #[.bool true, .slice a xs.length ca, .slice c ds.length cc] 27) rfl
      replace hs0 := Nat.le_trans hs0 hq.size
      replace hB := hB.trans (hq.mono hB.size)
      clear hq
      have hq : Below (w.alloc (.cells #[.bool true, .slice a xs.length ca, .slice c ds.length cc] 27)).heap.size (w.alloc (.cells #[.bool true, .slice a xs.length ca, .slice c ds.length cc] 27)) ((w.alloc (.cells #[.bool true, .slice a xs.length ca, .slice c ds.length cc] 27)).alloc (.cells #[.bool false, .slice none 0 0, .slice none 0 0] 27)) := (Below.refl _ _).alloc (Nat.le_refl _) _
      replace FA := FA.below hq
      replace EA := EA.below hq
      have ER : Box ((w.alloc (.cells #[.bool true, .slice a xs.length ca, .slice c ds.length cc] 27)).alloc (.cells #[.bool false, .slice none 0 0, .slice none 0 0] 27)) (w.heap.size + 1) (.cells #[.bool false, .slice none 0 0, .slice none 0 0] 27) := Box.put (.cells #[.bool false, .slice none 0 0, .slice none 0 0] 27) (by simp)
      replace hs0 := Nat.le_trans hs0 hq.size
      replace hB := hB.trans (hq.mono hB.size)
      clear hq
      go_wp2_with fail
      obtain ⟨u1, hname⟩ : ∃ u, ((w.alloc (.cells #[.bool true, .slice a xs.length ca, .slice c ds.length cc] 27)).alloc (.cells #[.bool false, .slice none 0 0, .slice none 0 0] 27)) = u := ⟨_, rfl⟩
      rw [hname] at hs0 hB FA EA ER ⊢
      have zh1 := hB.size
      have zs1 := hs0
      clear hname hs0
      have hk := pcheck_any true FA (by omega) (by omega)
      rw [HA.out] at hk
      refine (hk).mono ?_
      rintro e w2 ⟨rfl, hb⟩
      replace FA := FA.below hb
      replace EA := EA.below hb
      replace ER := ER.below hb
      replace hB := hB.trans (hb.mono hB.size)
      have zz2 := hb.size
      have zh2 := hB.size
      clear hb
      clear hk
      obtain ⟨k0, k1, k2, f0, f1, f2⟩ := EA.three
      obtain ⟨k3, k4, k5, f3, f4, f5⟩ := ER.three
      go_wp2_with fail
      clear k0 k1 k2 f0 f1 f2 k3 k4 k5 f3 f4 f5
      refine (hz _).mono ?_
      rintro e w3 ⟨rfl, hb⟩
      replace FA := FA.below hb
      replace EA := EA.below hb
      replace ER := ER.below hb
      replace hB := hB.trans (hb.mono hB.size)
      have zz3 := hb.size
      have zh3 := hB.size
      clear hb
      obtain ⟨k0, k1, k2, f0, f1, f2⟩ := EA.three
      obtain ⟨k3, k4, k5, f3, f4, f5⟩ := ER.three
      go_wp2_with fail
      clear k0 k1 k2 f0 f1 f2 k3 k4 k5 f3 f4 f5
      refine (turned_any true a xs ca c ds cc _).mono ?_
      rintro e w4 ⟨rfl, hb⟩
      replace FA := FA.below hb
      replace EA := EA.below hb
      replace ER := ER.below hb
      replace hB := hB.trans (hb.mono hB.size)
      have zz4 := hb.size
      have zh4 := hB.size
      clear hb
      obtain ⟨k0, k1, k2, f0, f1, f2⟩ := EA.three
      obtain ⟨k3, k4, k5, f3, f4, f5⟩ := ER.three
      have qEA := EA.lt
      have qER := ER.lt
      have hs0 := Nat.le_refl w4.heap.size
      have hT := ((((Turns.refl (w.heap.size) w4).setCell 0 (.bool true)).setCell 1 (.slice c ds.length cc)).setCell 2 (.slice a xs.length ca))
      replace FA := FA.beside EA (noWord3 (fun _ e => by cases e) (fun _ e => by cases e) (fun _ e => by cases e)) hT
      replace ER := ER.turns hT (by omega)
      replace EA : Box (((w4.setCell ⟨w.heap.size, 0, none⟩ (.bool true)).setCell ⟨w.heap.size, 1, none⟩ (.slice c ds.length cc)).setCell ⟨w.heap.size, 2, none⟩ (.slice a xs.length ca)) (w.heap.size) (.cells #[.bool true, .slice c ds.length cc, .slice a xs.length ca] 27) := ⟨Nat.lt_of_lt_of_le EA.lt hT.below.size, (heap_setCell_same _ _ 2 _ _ _ (heap_setCell_same _ _ 1 _ _ _ (heap_setCell_same _ _ 0 _ _ _ EA.what)))⟩
      replace hB := hB.trans (hT.below.mono (by omega))
      replace hs0 := Nat.le_trans hs0 hT.below.size
      clear hT
      go_wp2_with fail
      clear k0 k1 k2 f0 f1 f2 k3 k4 k5 f3 f4 f5
      obtain ⟨u5, hname⟩ : ∃ u, (((w4.setCell ⟨w.heap.size, 0, none⟩ (.bool true)).setCell ⟨w.heap.size, 1, none⟩ (.slice c ds.length cc)).setCell ⟨w.heap.size, 2, none⟩ (.slice a xs.length ca)) = u := ⟨_, rfl⟩
      rw [hname] at hs0 hB FA EA ER ⊢
      have zh5 := hB.size
      have zs5 := hs0
      clear hname hs0
      refine (raise_any FA.down k hk12 (by omega)).mono ?_
      rintro e w6 ⟨a1, c1, z1, rfl, S1, N1, v1, l1, hb⟩
      have V1 : Hid (val z1 = val ds ^ k) := v1
      have b1 : z1.length ≤ n * k + 1 := by omega
      clear v1 l1
      replace FA := FA.below hb
      replace EA := EA.below hb
      replace ER := ER.below hb
      replace hB := hB.trans (hb.mono hB.size)
      have zz6 := hb.size
      have zh6 := hB.size
      clear hb
      have SU := S1
      obtain ⟨k0, k1, k2, f0, f1, f2⟩ := EA.three
      obtain ⟨k3, k4, k5, f3, f4, f5⟩ := ER.three
      have qEA := EA.lt
      have qER := ER.lt
      have hs0 := Nat.le_refl w6.heap.size
      have hq : Below w6.heap.size w6 (w6.alloc (.cells #[.bool true, .slice a1 z1.length c1] 25)) := (Below.refl _ _).alloc (Nat.le_refl _) _
      replace FA := FA.below hq
      replace EA := EA.below hq
      replace ER := ER.below hq
      replace S1 := S1.below hq
      have EU : Box (w6.alloc (.cells #[.bool true, .slice a1 z1.length c1] 25)) (w6.heap.size) (.cells #[.bool true, .slice a1 z1.length c1] 25) := Box.put (.cells #[.bool true, .slice a1 z1.length c1] 25) rfl
      replace hs0 := Nat.le_trans hs0 hq.size
      replace hB := hB.trans (hq.mono hB.size)
      clear hq
      go_wp2_with fail
      clear k0 k1 k2 f0 f1 f2 k3 k4 k5 f3 f4 f5
      obtain ⟨u7, hname⟩ : ∃ u, (w6.alloc (.cells #[.bool true, .slice a1 z1.length c1] 25)) = u := ⟨_, rfl⟩
      rw [hname] at hs0 hB FA EA ER S1 EU ⊢
      have zh7 := hB.size
      have zs7 := hs0
      clear hname hs0
      replace FA := FA.drew
      have qEA := EA.lt
      replace EA := EA.drew
      have qER := ER.lt
      replace ER := ER.drew
      replace S1 := S1.drew
      have qEU := EU.lt
      replace EU := EU.drew
      refine wp_yields 6 [.is (.agg #[.bool true, .slice a1 z1.length c1]), .is (.pointer (some ⟨w.heap.size, 2, none⟩)), .is (.slice a xs.length ca), .is (.int .i64 k), (Yield.nat u7.heap.size (val xs ^ k) (n * k + 1)), (Yield.natIn (fun s => .agg #[.bool true, .slice a1 z1.length c1, s]) u7.heap.size (val xs ^ k) (n * k + 1))] (by kernel_rfl) (by kernel_rfl) (lt_cons ?_ (lt_cons ?_ (lt_cons ?_ (lt_cons ?_ (lt_cons ?_ (lt_cons ?_ lt_nil)))))) ?_
      case refine_1 =>
        refine OpDoes.mk rfl ?_
        intro vs V hV hd K hK
        have d0 : vs 0 = .agg #[.bool true, .slice a1 z1.length c1] := hd 0 (by decide) (by kernel_rfl)
        have hh := fun (P : Prop) => Yield.nat_elim P (show ((Yield.nat u7.heap.size (val xs ^ k) (n * k + 1)) : Yield).At (vs 4) V from hd 4 (by decide) (by kernel_rfl))
        refine hh _ ?_
        intro a2 c2 z2 d4 S2 N2 V2 b2
        clear hh
        simp only [laidIn, List.getElem_toArray, List.getElem_cons_zero, List.getElem_cons_succ, List.getElem?_toArray, List.getElem?_cons_zero, List.getElem?_cons_succ, if_true, Act.put, List.setIfInBounds_toArray, List.set_cons_zero, List.set_cons_succ] at hK ⊢
        simp only [d0, d4] at hK ⊢
        go_simp
        exact hK.out _ _ (Below.refl _ _) ⟨_, _, _, rfl, S2, N2, V2, b2⟩ (not_fresh rfl)
      case refine_2 =>
        refine OpDoes.mk rfl ?_
        intro vs V hV hd K hK
        have d2 : vs 2 = .slice a xs.length ca := hd 2 (by decide) (by kernel_rfl)
        have d3 : vs 3 = .int .i64 k := hd 3 (by decide) (by kernel_rfl)
        simp only [laidIn, List.getElem_toArray, List.getElem_cons_zero, List.getElem_cons_succ, List.getElem?_toArray, List.getElem?_cons_zero, List.getElem?_cons_succ, if_true, Act.put, List.setIfInBounds_toArray, List.set_cons_zero, List.set_cons_succ] at hK ⊢
        simp only [d2, d3] at hK ⊢
        go_simp
        go_at_call 37
        refine (raise_any (FA.up.below hV) k hk12 (by omega)).mono ?_
        rintro e V' ⟨a2, c2, z2, rfl, S2, N2, v2, l2, hb⟩
        have V2 : Hid (val z2 = val xs ^ k) := v2
        have b2 : z2.length ≤ n * k + 1 := by omega
        clear v2 l2
        exact hK.out _ _ hb ⟨_, _, _, rfl, S2.mono hV.size, N2, V2, b2⟩ (not_fresh rfl)
      case refine_3 =>
        refine OpDoes.mk rfl ?_
        intro vs V hV hd K hK
        simp only [laidIn, List.getElem_toArray, List.getElem_cons_zero, List.getElem_cons_succ, List.getElem?_toArray, List.getElem?_cons_zero, List.getElem?_cons_succ, if_true, Act.put, List.setIfInBounds_toArray, List.set_cons_zero, List.set_cons_succ] at hK ⊢
        go_simp
        exact hK.out _ _ (Below.refl _ _) rfl (not_fresh rfl)
      case refine_4 =>
        refine OpDoes.mk rfl ?_
        intro vs V hV hd K hK
        have d1 : vs 1 = .pointer (some ⟨w.heap.size, 2, none⟩) := hd 1 (by decide) (by kernel_rfl)
        have hcc := (EA.below hV).three
        have k0 := hcc.1
        have k1 := hcc.2.1
        have k2 := hcc.2.2.1
        clear hcc
        simp only [laidIn, List.getElem_toArray, List.getElem_cons_zero, List.getElem_cons_succ, List.getElem?_toArray, List.getElem?_cons_zero, List.getElem?_cons_succ, if_true, Act.put, List.setIfInBounds_toArray, List.set_cons_zero, List.set_cons_succ] at hK ⊢
        simp only [d1] at hK ⊢
        go_simp
        exact hK.out _ _ (Below.refl _ _) rfl (not_fresh rfl)
      case refine_5 =>
        refine OpDoes.mk rfl ?_
        intro vs V hV hd K hK
        simp only [laidIn, List.getElem_toArray, List.getElem_cons_zero, List.getElem_cons_succ, List.getElem?_toArray, List.getElem?_cons_zero, List.getElem?_cons_succ, if_true, Act.put, List.setIfInBounds_toArray, List.set_cons_zero, List.set_cons_succ] at hK ⊢
        go_simp
        exact hK.out _ _ (Below.refl _ _) rfl (not_fresh rfl)
      case refine_6 =>
        refine OpDoes.mk rfl ?_
        intro vs V hV hd K hK
        have hcc := (EU.below hV).two
        have k0 := hcc.1
        have k1 := hcc.2.1
        clear hcc
        simp only [laidIn, List.getElem_toArray, List.getElem_cons_zero, List.getElem?_toArray, List.getElem?_cons_zero, List.getElem?_cons_succ, if_true, Act.put, List.setIfInBounds_toArray, List.set_cons_zero, List.set_cons_succ] at hK ⊢
        go_simp
        exact hK.out _ _ (Below.refl _ _) rfl (not_fresh rfl)
      case refine_7 =>
        intro vs Y1 hV hR hne fuel
        have d0 : vs 0 = .agg #[.bool true, .slice a1 z1.length c1] := hR 0 (by decide)
        have d1 : vs 1 = .pointer (some ⟨w.heap.size, 2, none⟩) := hR 1 (by decide)
        have d2 : vs 2 = .slice a xs.length ca := hR 2 (by decide)
        have d3 : vs 3 = .int .i64 k := hR 3 (by decide)
        have hh := fun (P : Prop) => Yield.nat_elim P (show ((Yield.nat u7.heap.size (val xs ^ k) (n * k + 1)) : Yield).At (vs 4) Y1 from hR 4 (by decide))
        refine hh _ ?_
        intro a2 c2 z2 d4 S2 N2 V2 b2
        clear hh
        have hh := fun (P : Prop) => Yield.natIn_elim P (show ((Yield.natIn (fun s => .agg #[.bool true, .slice a1 z1.length c1, s]) u7.heap.size (val xs ^ k) (n * k + 1)) : Yield).At (vs 5) Y1 from hR 5 (by decide))
        refine hh _ ?_
        intro a3 c3 z3 d5 S3 N3 V3 b3
        clear hh
        replace FA := FA.below hV
        replace EA := EA.below hV
        replace ER := ER.below hV
        replace S1 := S1.below hV
        replace EU := EU.below hV
        have hr := hV
        simp only [laidIn, List.getElem?_toArray, List.getElem?_cons_zero, List.getElem?_cons_succ, if_true, Act.put, List.setIfInBounds_toArray, List.set_cons_zero, List.set_cons_succ]
        simp only [d0, d1, d2, d3, d4, d5]
        clear hR hne hV d0 d1 d2 d3 d4 d5
        clear vs
        show wpAny _ _ _ _ (fuel + 2) _ _ _
        refine wpAny_all (rs := [6]) (by kernel_rfl) (by simp) (fun i hi => ?_)
        obtain rfl : i = 6 := by simpa using hi
        clear hi
        have hcc := ER.three
        have k0 := hcc.1
        have k1 := hcc.2.1
        have k2 := hcc.2.2.1
        have f0 := hcc.2.2.2.1
        have f1 := hcc.2.2.2.2.1
        have f2 := hcc.2.2.2.2.2
        clear hcc
        refine wpOp_step rfl (fun K hK => ?_)
        simp only [List.getElem_toArray, List.getElem_cons_zero, List.getElem_cons_succ]
        rw [if_pos (by rfl)]
        go_simp
        refine hK _ _ ?_
        clear hK k0 f0 k1 f1 k2 f2
        have hT := ((((Turns.refl (w.heap.size + 1) Y1).setCell 0 (.bool true)).setCell 1 (.slice a1 z1.length c1)).setCell 2 (.slice a3 z3.length c3))
        replace FA := FA.beside ER (noWord3 (fun _ e => by cases e) (fun _ e => by cases e) (fun _ e => by cases e)) hT
        replace EA := EA.turns hT (by omega)
        replace S1 := S1.beside ER (noWord3 (fun _ e => by cases e) (fun _ e => by cases e) (fun _ e => by cases e)) hT
        replace EU := EU.turns hT (by omega)
        replace S2 := S2.beside ER (noWord3 (fun _ e => by cases e) (fun _ e => by cases e) (fun _ e => by cases e)) hT
        replace S3 := S3.beside ER (noWord3 (fun _ e => by cases e) (fun _ e => by cases e) (fun _ e => by cases e)) hT
        replace ER : Box (((Y1.setCell ⟨w.heap.size + 1, 0, none⟩ (.bool true)).setCell ⟨w.heap.size + 1, 1, none⟩ (.slice a1 z1.length c1)).setCell ⟨w.heap.size + 1, 2, none⟩ (.slice a3 z3.length c3)) (w.heap.size + 1) (.cells #[.bool true, .slice a1 z1.length c1, .slice a3 z3.length c3] 27) := ⟨Nat.lt_of_lt_of_le ER.lt hT.below.size, (heap_setCell_same _ _ 2 _ _ _ (heap_setCell_same _ _ 1 _ _ _ (heap_setCell_same _ _ 0 _ _ _ ER.what)))⟩
        have hr6 := hT.below
        obtain ⟨X1, hX⟩ : ∃ X, (((Y1.setCell ⟨w.heap.size + 1, 0, none⟩ (.bool true)).setCell ⟨w.heap.size + 1, 1, none⟩ (.slice a1 z1.length c1)).setCell ⟨w.heap.size + 1, 2, none⟩ (.slice a3 z3.length c3)) = X := ⟨_, rfl⟩
        rw [hX] at FA EA ER S1 EU S2 S3 hr6 ⊢
        clear hX hT
        refine wpAny_all (rs := [7]) (by kernel_rfl) (by simp) (fun i hi => ?_)
        obtain rfl : i = 7 := by simpa using hi
        clear hi
        refine wpOp_step rfl (fun K hK => ?_)
        simp only [List.getElem_toArray, List.getElem_cons_zero, List.getElem_cons_succ]
        rw [if_pos (by rfl)]
        go_simp
        refine hK _ _ ?_
        clear hK
        refine wpAny_done (by kernel_rfl) ?_ _
        replace hB := hB.trans ((Below.trans (Below.drew (Below.refl u7.heap.size u7)) hr).mono hB.size)
        replace hB := hB.trans (hr6.mono (by omega))
        have zz7_1 := hr.size
        have zi1 := hB.size
        have zy1_6 := hr6.size
        clear hr hr6
        have HI := pow_is (N := n * k + 1) (k := k) (sg := true) (b := true) (IA.inv FA.up.words HX.out) FA.down.words FA.up.words (by simp [hpar]) V1 N1 V3 N3 (by omega) (by omega)
        have HAP := hide (apart_of (fun h b o e => SU.block h b o e) S3 (by omega) : Apart a1 a3 z1 z3)
        obtain ⟨k0, k1, k2, f0, f1, f2⟩ := EA.three
        obtain ⟨k3, k4, k5, f3, f4, f5⟩ := ER.three
        obtain ⟨k6, k7, f6, f7⟩ := EU.two
        have hcc := ER.three
        have r0 := hcc.1
        have r1 := hcc.2.1
        have r2 := hcc.2.2.1
        clear hcc
        go_wp2
        refine bodyPost_ret (v := .tuple #[.agg #[.bool true, .slice a1 z1.length c1, .slice a3 z3.length c3], .int .i64 0]) (by simp [results, Try.f14, go_sem, r0, r1, r2]) rfl ?_
        exact ⟨_, _, _, _, _, _, _, rfl, ⟨S1.mono (by omega), S3.mono (by omega)⟩, HAP.out, HI, hB⟩
    · have hp2 : ((k : Int) % 2 == 1) = false := beq_eq_false_iff_ne.2 (by omega)
      go_enter Try.func14, Try.ntmps14
      have hs0 := Nat.le_refl w.heap.size
      have hq : Below w.heap.size w (w.alloc (.cells #[.bool true, .slice a xs.length ca, .slice c ds.length cc] 27)) := (Below.refl _ _).alloc (Nat.le_refl _) _
      replace FA := FA.below hq
      have EA : Box (w.alloc (.cells #[.bool true, .slice a xs.length ca, .slice c ds.length cc] 27)) (w.heap.size) (.cells #[.bool true, .slice a xs.length ca, .slice c ds.length cc] 27) := Box.put (.cells #[.bool true, .slice a xs.length ca, .slice c ds.length cc] 27) rfl
      replace hs0 := Nat.le_trans hs0 hq.size
      replace hB := hB.trans (hq.mono hB.size)
      clear hq
      have hq : Below (w.alloc (.cells #[.bool true, .slice a xs.length ca, .slice c ds.length cc] 27)).heap.size (w.alloc (.cells #[.bool true, .slice a xs.length ca, .slice c ds.length cc] 27)) ((w.alloc (.cells #[.bool true, .slice a xs.length ca, .slice c ds.length cc] 27)).alloc (.cells #[.bool false, .slice none 0 0, .slice none 0 0] 27)) := (Below.refl _ _).alloc (Nat.le_refl _) _
      replace FA := FA.below hq
      replace EA := EA.below hq
      have ER : Box ((w.alloc (.cells #[.bool true, .slice a xs.length ca, .slice c ds.length cc] 27)).alloc (.cells #[.bool false, .slice none 0 0, .slice none 0 0] 27)) (w.heap.size + 1) (.cells #[.bool false, .slice none 0 0, .slice none 0 0] 27) := Box.put (.cells #[.bool false, .slice none 0 0, .slice none 0 0] 27) (by simp)
      replace hs0 := Nat.le_trans hs0 hq.size
      replace hB := hB.trans (hq.mono hB.size)
      clear hq
      go_wp2_with fail
      obtain ⟨u1, hname⟩ : ∃ u, ((w.alloc (.cells #[.bool true, .slice a xs.length ca, .slice c ds.length cc] 27)).alloc (.cells #[.bool false, .slice none 0 0, .slice none 0 0] 27)) = u := ⟨_, rfl⟩
      rw [hname] at hs0 hB FA EA ER ⊢
      have zh1 := hB.size
      have zs1 := hs0
      clear hname hs0
      have hk := pcheck_any true FA (by omega) (by omega)
      rw [HA.out] at hk
      refine (hk).mono ?_
      rintro e w2 ⟨rfl, hb⟩
      replace FA := FA.below hb
      replace EA := EA.below hb
      replace ER := ER.below hb
      replace hB := hB.trans (hb.mono hB.size)
      have zz2 := hb.size
      have zh2 := hB.size
      clear hb
      clear hk
      obtain ⟨k0, k1, k2, f0, f1, f2⟩ := EA.three
      obtain ⟨k3, k4, k5, f3, f4, f5⟩ := ER.three
      go_wp2_with fail
      clear k0 k1 k2 f0 f1 f2 k3 k4 k5 f3 f4 f5
      refine (hz _).mono ?_
      rintro e w3 ⟨rfl, hb⟩
      replace FA := FA.below hb
      replace EA := EA.below hb
      replace ER := ER.below hb
      replace hB := hB.trans (hb.mono hB.size)
      have zz3 := hb.size
      have zh3 := hB.size
      clear hb
      obtain ⟨k0, k1, k2, f0, f1, f2⟩ := EA.three
      obtain ⟨k3, k4, k5, f3, f4, f5⟩ := ER.three
      go_wp2_with fail
      clear k0 k1 k2 f0 f1 f2 k3 k4 k5 f3 f4 f5
      refine (turned_any true a xs ca c ds cc _).mono ?_
      rintro e w4 ⟨rfl, hb⟩
      replace FA := FA.below hb
      replace EA := EA.below hb
      replace ER := ER.below hb
      replace hB := hB.trans (hb.mono hB.size)
      have zz4 := hb.size
      have zh4 := hB.size
      clear hb
      obtain ⟨k0, k1, k2, f0, f1, f2⟩ := EA.three
      obtain ⟨k3, k4, k5, f3, f4, f5⟩ := ER.three
      have qEA := EA.lt
      have qER := ER.lt
      have hs0 := Nat.le_refl w4.heap.size
      have hT := ((((Turns.refl (w.heap.size) w4).setCell 0 (.bool true)).setCell 1 (.slice c ds.length cc)).setCell 2 (.slice a xs.length ca))
      replace FA := FA.beside EA (noWord3 (fun _ e => by cases e) (fun _ e => by cases e) (fun _ e => by cases e)) hT
      replace ER := ER.turns hT (by omega)
      replace EA : Box (((w4.setCell ⟨w.heap.size, 0, none⟩ (.bool true)).setCell ⟨w.heap.size, 1, none⟩ (.slice c ds.length cc)).setCell ⟨w.heap.size, 2, none⟩ (.slice a xs.length ca)) (w.heap.size) (.cells #[.bool true, .slice c ds.length cc, .slice a xs.length ca] 27) := ⟨Nat.lt_of_lt_of_le EA.lt hT.below.size, (heap_setCell_same _ _ 2 _ _ _ (heap_setCell_same _ _ 1 _ _ _ (heap_setCell_same _ _ 0 _ _ _ EA.what)))⟩
      replace hB := hB.trans (hT.below.mono (by omega))
      replace hs0 := Nat.le_trans hs0 hT.below.size
      clear hT
      go_wp2_with fail
      clear k0 k1 k2 f0 f1 f2 k3 k4 k5 f3 f4 f5
      obtain ⟨u5, hname⟩ : ∃ u, (((w4.setCell ⟨w.heap.size, 0, none⟩ (.bool true)).setCell ⟨w.heap.size, 1, none⟩ (.slice c ds.length cc)).setCell ⟨w.heap.size, 2, none⟩ (.slice a xs.length ca)) = u := ⟨_, rfl⟩
      rw [hname] at hs0 hB FA EA ER ⊢
      have zh5 := hB.size
      have zs5 := hs0
      clear hname hs0
      refine (raise_any FA.down k hk12 (by omega)).mono ?_
      rintro e w6 ⟨a1, c1, z1, rfl, S1, N1, v1, l1, hb⟩
      have V1 : Hid (val z1 = val ds ^ k) := v1
      have b1 : z1.length ≤ n * k + 1 := by omega
      clear v1 l1
      replace FA := FA.below hb
      replace EA := EA.below hb
      replace ER := ER.below hb
      replace hB := hB.trans (hb.mono hB.size)
      have zz6 := hb.size
      have zh6 := hB.size
      clear hb
      have SU := S1
      obtain ⟨k0, k1, k2, f0, f1, f2⟩ := EA.three
      obtain ⟨k3, k4, k5, f3, f4, f5⟩ := ER.three
      have qEA := EA.lt
      have qER := ER.lt
      have hs0 := Nat.le_refl w6.heap.size
      have hq : Below w6.heap.size w6 (w6.alloc (.cells #[.bool false, .slice a1 z1.length c1] 25)) := (Below.refl _ _).alloc (Nat.le_refl _) _
      replace FA := FA.below hq
      replace EA := EA.below hq
      replace ER := ER.below hq
      replace S1 := S1.below hq
      have EU : Box (w6.alloc (.cells #[.bool false, .slice a1 z1.length c1] 25)) (w6.heap.size) (.cells #[.bool false, .slice a1 z1.length c1] 25) := Box.put (.cells #[.bool false, .slice a1 z1.length c1] 25) rfl
      replace hs0 := Nat.le_trans hs0 hq.size
      replace hB := hB.trans (hq.mono hB.size)
      clear hq
      go_wp2_with fail
      clear k0 k1 k2 f0 f1 f2 k3 k4 k5 f3 f4 f5
      obtain ⟨u7, hname⟩ : ∃ u, (w6.alloc (.cells #[.bool false, .slice a1 z1.length c1] 25)) = u := ⟨_, rfl⟩
      rw [hname] at hs0 hB FA EA ER S1 EU ⊢
      have zh7 := hB.size
      have zs7 := hs0
      clear hname hs0
      replace FA := FA.drew
      have qEA := EA.lt
      replace EA := EA.drew
      have qER := ER.lt
      replace ER := ER.drew
      replace S1 := S1.drew
      have qEU := EU.lt
      replace EU := EU.drew
      refine wp_yields 6 [.is (.agg #[.bool false, .slice a1 z1.length c1]), .is (.pointer (some ⟨w.heap.size, 2, none⟩)), .is (.slice a xs.length ca), .is (.int .i64 k), (Yield.nat u7.heap.size (val xs ^ k) (n * k + 1)), (Yield.natIn (fun s => .agg #[.bool false, .slice a1 z1.length c1, s]) u7.heap.size (val xs ^ k) (n * k + 1))] (by kernel_rfl) (by kernel_rfl) (lt_cons ?_ (lt_cons ?_ (lt_cons ?_ (lt_cons ?_ (lt_cons ?_ (lt_cons ?_ lt_nil)))))) ?_
      case refine_1 =>
        refine OpDoes.mk rfl ?_
        intro vs V hV hd K hK
        have d0 : vs 0 = .agg #[.bool false, .slice a1 z1.length c1] := hd 0 (by decide) (by kernel_rfl)
        have hh := fun (P : Prop) => Yield.nat_elim P (show ((Yield.nat u7.heap.size (val xs ^ k) (n * k + 1)) : Yield).At (vs 4) V from hd 4 (by decide) (by kernel_rfl))
        refine hh _ ?_
        intro a2 c2 z2 d4 S2 N2 V2 b2
        clear hh
        simp only [laidIn, List.getElem_toArray, List.getElem_cons_zero, List.getElem_cons_succ, List.getElem?_toArray, List.getElem?_cons_zero, List.getElem?_cons_succ, if_true, Act.put, List.setIfInBounds_toArray, List.set_cons_zero, List.set_cons_succ] at hK ⊢
        simp only [d0, d4] at hK ⊢
        go_simp
        exact hK.out _ _ (Below.refl _ _) ⟨_, _, _, rfl, S2, N2, V2, b2⟩ (not_fresh rfl)
      case refine_2 =>
        refine OpDoes.mk rfl ?_
        intro vs V hV hd K hK
        have d2 : vs 2 = .slice a xs.length ca := hd 2 (by decide) (by kernel_rfl)
        have d3 : vs 3 = .int .i64 k := hd 3 (by decide) (by kernel_rfl)
        simp only [laidIn, List.getElem_toArray, List.getElem_cons_zero, List.getElem_cons_succ, List.getElem?_toArray, List.getElem?_cons_zero, List.getElem?_cons_succ, if_true, Act.put, List.setIfInBounds_toArray, List.set_cons_zero, List.set_cons_succ] at hK ⊢
        simp only [d2, d3] at hK ⊢
        go_simp
        go_at_call 37
        refine (raise_any (FA.up.below hV) k hk12 (by omega)).mono ?_
        rintro e V' ⟨a2, c2, z2, rfl, S2, N2, v2, l2, hb⟩
        have V2 : Hid (val z2 = val xs ^ k) := v2
        have b2 : z2.length ≤ n * k + 1 := by omega
        clear v2 l2
        exact hK.out _ _ hb ⟨_, _, _, rfl, S2.mono hV.size, N2, V2, b2⟩ (not_fresh rfl)
      case refine_3 =>
        refine OpDoes.mk rfl ?_
        intro vs V hV hd K hK
        simp only [laidIn, List.getElem_toArray, List.getElem_cons_zero, List.getElem_cons_succ, List.getElem?_toArray, List.getElem?_cons_zero, List.getElem?_cons_succ, if_true, Act.put, List.setIfInBounds_toArray, List.set_cons_zero, List.set_cons_succ] at hK ⊢
        go_simp
        exact hK.out _ _ (Below.refl _ _) rfl (not_fresh rfl)
      case refine_4 =>
        refine OpDoes.mk rfl ?_
        intro vs V hV hd K hK
        have d1 : vs 1 = .pointer (some ⟨w.heap.size, 2, none⟩) := hd 1 (by decide) (by kernel_rfl)
        have hcc := (EA.below hV).three
        have k0 := hcc.1
        have k1 := hcc.2.1
        have k2 := hcc.2.2.1
        clear hcc
        simp only [laidIn, List.getElem_toArray, List.getElem_cons_zero, List.getElem_cons_succ, List.getElem?_toArray, List.getElem?_cons_zero, List.getElem?_cons_succ, if_true, Act.put, List.setIfInBounds_toArray, List.set_cons_zero, List.set_cons_succ] at hK ⊢
        simp only [d1] at hK ⊢
        go_simp
        exact hK.out _ _ (Below.refl _ _) rfl (not_fresh rfl)
      case refine_5 =>
        refine OpDoes.mk rfl ?_
        intro vs V hV hd K hK
        simp only [laidIn, List.getElem_toArray, List.getElem_cons_zero, List.getElem_cons_succ, List.getElem?_toArray, List.getElem?_cons_zero, List.getElem?_cons_succ, if_true, Act.put, List.setIfInBounds_toArray, List.set_cons_zero, List.set_cons_succ] at hK ⊢
        go_simp
        exact hK.out _ _ (Below.refl _ _) rfl (not_fresh rfl)
      case refine_6 =>
        refine OpDoes.mk rfl ?_
        intro vs V hV hd K hK
        have hcc := (EU.below hV).two
        have k0 := hcc.1
        have k1 := hcc.2.1
        clear hcc
        simp only [laidIn, List.getElem_toArray, List.getElem_cons_zero, List.getElem?_toArray, List.getElem?_cons_zero, List.getElem?_cons_succ, if_true, Act.put, List.setIfInBounds_toArray, List.set_cons_zero, List.set_cons_succ] at hK ⊢
        go_simp
        exact hK.out _ _ (Below.refl _ _) rfl (not_fresh rfl)
      case refine_7 =>
        intro vs Y1 hV hR hne fuel
        have d0 : vs 0 = .agg #[.bool false, .slice a1 z1.length c1] := hR 0 (by decide)
        have d1 : vs 1 = .pointer (some ⟨w.heap.size, 2, none⟩) := hR 1 (by decide)
        have d2 : vs 2 = .slice a xs.length ca := hR 2 (by decide)
        have d3 : vs 3 = .int .i64 k := hR 3 (by decide)
        have hh := fun (P : Prop) => Yield.nat_elim P (show ((Yield.nat u7.heap.size (val xs ^ k) (n * k + 1)) : Yield).At (vs 4) Y1 from hR 4 (by decide))
        refine hh _ ?_
        intro a2 c2 z2 d4 S2 N2 V2 b2
        clear hh
        have hh := fun (P : Prop) => Yield.natIn_elim P (show ((Yield.natIn (fun s => .agg #[.bool false, .slice a1 z1.length c1, s]) u7.heap.size (val xs ^ k) (n * k + 1)) : Yield).At (vs 5) Y1 from hR 5 (by decide))
        refine hh _ ?_
        intro a3 c3 z3 d5 S3 N3 V3 b3
        clear hh
        replace FA := FA.below hV
        replace EA := EA.below hV
        replace ER := ER.below hV
        replace S1 := S1.below hV
        replace EU := EU.below hV
        have hr := hV
        simp only [laidIn, List.getElem?_toArray, List.getElem?_cons_zero, List.getElem?_cons_succ, if_true, Act.put, List.setIfInBounds_toArray, List.set_cons_zero, List.set_cons_succ]
        simp only [d0, d1, d2, d3, d4, d5]
        clear hR hne hV d0 d1 d2 d3 d4 d5
        clear vs
        show wpAny _ _ _ _ (fuel + 2) _ _ _
        refine wpAny_all (rs := [6]) (by kernel_rfl) (by simp) (fun i hi => ?_)
        obtain rfl : i = 6 := by simpa using hi
        clear hi
        have hcc := ER.three
        have k0 := hcc.1
        have k1 := hcc.2.1
        have k2 := hcc.2.2.1
        have f0 := hcc.2.2.2.1
        have f1 := hcc.2.2.2.2.1
        have f2 := hcc.2.2.2.2.2
        clear hcc
        refine wpOp_step rfl (fun K hK => ?_)
        simp only [List.getElem_toArray, List.getElem_cons_zero, List.getElem_cons_succ]
        rw [if_pos (by rfl)]
        go_simp
        refine hK _ _ ?_
        clear hK k0 f0 k1 f1 k2 f2
        have hT := ((((Turns.refl (w.heap.size + 1) Y1).setCell 0 (.bool false)).setCell 1 (.slice a1 z1.length c1)).setCell 2 (.slice a3 z3.length c3))
        replace FA := FA.beside ER (noWord3 (fun _ e => by cases e) (fun _ e => by cases e) (fun _ e => by cases e)) hT
        replace EA := EA.turns hT (by omega)
        replace S1 := S1.beside ER (noWord3 (fun _ e => by cases e) (fun _ e => by cases e) (fun _ e => by cases e)) hT
        replace EU := EU.turns hT (by omega)
        replace S2 := S2.beside ER (noWord3 (fun _ e => by cases e) (fun _ e => by cases e) (fun _ e => by cases e)) hT
        replace S3 := S3.beside ER (noWord3 (fun _ e => by cases e) (fun _ e => by cases e) (fun _ e => by cases e)) hT
        replace ER : Box (((Y1.setCell ⟨w.heap.size + 1, 0, none⟩ (.bool false)).setCell ⟨w.heap.size + 1, 1, none⟩ (.slice a1 z1.length c1)).setCell ⟨w.heap.size + 1, 2, none⟩ (.slice a3 z3.length c3)) (w.heap.size + 1) (.cells #[.bool false, .slice a1 z1.length c1, .slice a3 z3.length c3] 27) := ⟨Nat.lt_of_lt_of_le ER.lt hT.below.size, (heap_setCell_same _ _ 2 _ _ _ (heap_setCell_same _ _ 1 _ _ _ (heap_setCell_same _ _ 0 _ _ _ ER.what)))⟩
        have hr6 := hT.below
        obtain ⟨X1, hX⟩ : ∃ X, (((Y1.setCell ⟨w.heap.size + 1, 0, none⟩ (.bool false)).setCell ⟨w.heap.size + 1, 1, none⟩ (.slice a1 z1.length c1)).setCell ⟨w.heap.size + 1, 2, none⟩ (.slice a3 z3.length c3)) = X := ⟨_, rfl⟩
        rw [hX] at FA EA ER S1 EU S2 S3 hr6 ⊢
        clear hX hT
        refine wpAny_all (rs := [7]) (by kernel_rfl) (by simp) (fun i hi => ?_)
        obtain rfl : i = 7 := by simpa using hi
        clear hi
        refine wpOp_step rfl (fun K hK => ?_)
        simp only [List.getElem_toArray, List.getElem_cons_zero, List.getElem_cons_succ]
        rw [if_pos (by rfl)]
        go_simp
        refine hK _ _ ?_
        clear hK
        refine wpAny_done (by kernel_rfl) ?_ _
        replace hB := hB.trans ((Below.trans (Below.drew (Below.refl u7.heap.size u7)) hr).mono hB.size)
        replace hB := hB.trans (hr6.mono (by omega))
        have zz7_1 := hr.size
        have zi1 := hB.size
        have zy1_6 := hr6.size
        clear hr hr6
        have HI := pow_is (N := n * k + 1) (k := k) (sg := false) (b := true) (IA.inv FA.up.words HX.out) FA.down.words FA.up.words (by simp [hpar]) V1 N1 V3 N3 (by omega) (by omega)
        have HAP := hide (apart_of (fun h b o e => SU.block h b o e) S3 (by omega) : Apart a1 a3 z1 z3)
        obtain ⟨k0, k1, k2, f0, f1, f2⟩ := EA.three
        obtain ⟨k3, k4, k5, f3, f4, f5⟩ := ER.three
        obtain ⟨k6, k7, f6, f7⟩ := EU.two
        have hcc := ER.three
        have r0 := hcc.1
        have r1 := hcc.2.1
        have r2 := hcc.2.2.1
        clear hcc
        go_wp2
        refine bodyPost_ret (v := .tuple #[.agg #[.bool false, .slice a1 z1.length c1, .slice a3 z3.length c3], .int .i64 0]) (by simp [results, Try.f14, go_sem, r0, r1, r2]) rfl ?_
        exact ⟨_, _, _, _, _, _, _, rfl, ⟨S1.mono (by omega), S3.mono (by omega)⟩, HAP.out, HI, hB⟩

end Go.Proofs.Ytblmkddjlfienaa

/-
  The statements' words of layer 4: is, awake, long.
-/
namespace Go.Proofs.Ytblmkddjlfienaa
open Go.RowKit

end Go.Proofs.Ytblmkddjlfienaa

/-
  The walk of SignedForms.
-/
namespace Go.Proofs.Ytblmkddjlfienaa
open Go.RowKit

/-- SameWhole of two that are the same number. -/
theorem samew_can {lo lo' : Nat} {a c : Option Addr} {ca cc : Nat} {xs ys : List Int} {w : World} (b d : Bool) (h : Seg lo w (.slice a xs.length ca) xs) (h' : Seg lo' w (.slice c ys.length cc) ys) (hc : Canon b xs) (hd : Canon d ys) (hv : sgn b (val xs) = sgn d (val ys)) (hl : xs.length ≤ 10000) :
    Calls Try.prog 39 #[.agg #[.bool b, .slice a xs.length ca], .agg #[.bool d, .slice c ys.length cc]] w fun e w' => e = .returned (.bool true) ∧ Below w.heap.size w w' := by
  obtain ⟨rfl, rfl⟩ := canon_unique h.words h'.words hc hd hv
  exact samew_yes b h h' hl

end Go.Proofs.Ytblmkddjlfienaa

/-
  The statements' words on fractions: SameRatio, LongRatio, OverRatio.
-/
namespace Go.Proofs.Ytblmkddjlfienaa
open Go.RowKit

/-- SameWhole. -/
theorem samew_any {lo lo' : Nat} {a c : Option Addr} {ca cc : Nat} {xs ys : List Int} {w : World} (b d : Bool) (h : Seg lo w (.slice a xs.length ca) xs) (h' : Seg lo' w (.slice c ys.length cc) ys) (hl : xs.length ≤ 10000) :
    Calls Try.prog 39 #[.agg #[.bool b, .slice a xs.length ca], .agg #[.bool d, .slice c ys.length cc]] w fun e w' => e = .returned (.bool (decide (b = d ∧ xs = ys))) ∧ Below w.heap.size w w' := by
  by_cases hh : b = d ∧ xs = ys
  · obtain ⟨rfl, rfl⟩ := hh
    rw [decide_eq_true ⟨rfl, rfl⟩]
    exact samew_yes b h h' hl
  · rw [decide_eq_false hh]
    exact samew_no b d h h' hl hh
/-- SameNat. -/
theorem samen_any {lo lo' : Nat} {a c : Option Addr} {ca cc : Nat} {xs ys : List Int} {w : World} (h : Seg lo w (.slice a xs.length ca) xs) (h' : Seg lo' w (.slice c ys.length cc) ys) (hl : xs.length ≤ 10000) :
    Calls Try.prog 42 #[.slice a xs.length ca, .slice c ys.length cc] w fun e w' => e = .returned (.bool (decide (xs = ys))) ∧ Below w.heap.size w w' := by
  by_cases hh : xs = ys
  · subst hh
    rw [decide_eq_true rfl]
    exact same_yes h h' (by omega)
  · rw [decide_eq_false hh]
    exact same_no h h' (by omega) hh

set_option maxRecDepth 100000 in
set_option maxHeartbeats 4000000 in
/-- SameRatio. -/
theorem samer_any {lo lo2 : Nat} {a c p r : Option Addr} {ca cc cp cr : Nat} {xs ds ys es : List Int} {w : World} (b g : Bool) (FA : Fr lo w a ca xs c cc ds) (FB : Fr lo2 w p cp ys r cr es) (hl : xs.length ≤ 1000) (hl2 : ds.length ≤ 1000) :
    Calls Try.prog 20 #[.agg #[.bool b, .slice a xs.length ca, .slice c ds.length cc], .agg #[.bool g, .slice p ys.length cp, .slice r es.length cr]] w fun e w' => e = .returned (.bool (decide (b = g ∧ xs = ys ∧ ds = es))) ∧ Below w.heap.size w w' := by
  have hB := Below.refl w.heap.size w
  by_cases h1 : b = g ∧ xs = ys
  · have HW : Hid (decide (b = g ∧ xs = ys) = true) := decide_eq_true h1
    have hv : decide (b = g ∧ xs = ys ∧ ds = es) = decide (ds = es) := decide_eq_decide.2 ⟨fun h => h.2.2, fun h => ⟨h1.1, h1.2, h⟩⟩
    rw [hv]
    obtain ⟨v, hd⟩ : ∃ v, decide (ds = es) = v := ⟨_, rfl⟩
    rw [hd]
    have HD := hide hd
    clear hd hv h1
    go_enter Try.func20, Try.ntmps20
    have hA := Below.refl w.heap.size w
    have hq : Below w.heap.size w (w.alloc (.cells #[.bool b, .slice a xs.length ca, .slice c ds.length cc] 27)) := (Below.refl _ _).alloc (Nat.le_refl _) _
    replace FA := FA.below hq
    replace FB := FB.below hq
    have EA : Box (w.alloc (.cells #[.bool b, .slice a xs.length ca, .slice c ds.length cc] 27)) (w.heap.size) (.cells #[.bool b, .slice a xs.length ca, .slice c ds.length cc] 27) := Box.put (.cells #[.bool b, .slice a xs.length ca, .slice c ds.length cc] 27) rfl
    replace hA := hA.trans (hq.mono hA.size)
    replace hB := hB.trans (hq.mono hB.size)
    clear hq
    have hq : Below (w.alloc (.cells #[.bool b, .slice a xs.length ca, .slice c ds.length cc] 27)).heap.size (w.alloc (.cells #[.bool b, .slice a xs.length ca, .slice c ds.length cc] 27)) ((w.alloc (.cells #[.bool b, .slice a xs.length ca, .slice c ds.length cc] 27)).alloc (.cells #[.bool g, .slice p ys.length cp, .slice r es.length cr] 27)) := (Below.refl _ _).alloc (Nat.le_refl _) _
    replace FA := FA.below hq
    replace FB := FB.below hq
    replace EA := EA.below hq
    have EB : Box ((w.alloc (.cells #[.bool b, .slice a xs.length ca, .slice c ds.length cc] 27)).alloc (.cells #[.bool g, .slice p ys.length cp, .slice r es.length cr] 27)) (w.heap.size + 1) (.cells #[.bool g, .slice p ys.length cp, .slice r es.length cr] 27) := Box.put (.cells #[.bool g, .slice p ys.length cp, .slice r es.length cr] 27) (by simp)
    replace hA := hA.trans (hq.mono hA.size)
    replace hB := hB.trans (hq.mono hB.size)
    clear hq
    clear hA
    go_wp2_with fail
    obtain ⟨u1, hname⟩ : ∃ u, ((w.alloc (.cells #[.bool b, .slice a xs.length ca, .slice c ds.length cc] 27)).alloc (.cells #[.bool g, .slice p ys.length cp, .slice r es.length cr] 27)) = u := ⟨_, rfl⟩
    rw [hname] at hB FA FB EA EB ⊢
    have zh1 := hB.size
    clear hname
    have hk := samew_any b g FA.up FB.up (by omega)
    rw [HW.out] at hk
    refine (hk).mono ?_
    rintro e w2 ⟨rfl, hb⟩
    replace FA := FA.below hb
    replace FB := FB.below hb
    replace EA := EA.below hb
    replace EB := EB.below hb
    replace hB := hB.trans (hb.mono hB.size)
    have zz2 := hb.size
    have zh2 := hB.size
    clear hb
    clear hk
    obtain ⟨k0, k1, k2, f0, f1, f2⟩ := EA.three
    obtain ⟨k3, k4, k5, f3, f4, f5⟩ := EB.three
    go_wp2_with fail
    clear k0 k1 k2 f0 f1 f2 k3 k4 k5 f3 f4 f5
    have hk := samen_any FA.down FB.down (by omega)
    rw [HD.out] at hk
    refine (hk).mono ?_
    rintro e w3 ⟨rfl, hb⟩
    replace FA := FA.below hb
    replace FB := FB.below hb
    replace EA := EA.below hb
    replace EB := EB.below hb
    replace hB := hB.trans (hb.mono hB.size)
    have zz3 := hb.size
    have zh3 := hB.size
    clear hb
    clear hk
    obtain ⟨k0, k1, k2, f0, f1, f2⟩ := EA.three
    obtain ⟨k3, k4, k5, f3, f4, f5⟩ := EB.three
    go_wp2
    go_ret
    exact ⟨rfl, hB⟩
  · have HW : Hid (decide (b = g ∧ xs = ys) = false) := decide_eq_false h1
    rw [decide_eq_false (fun h => h1 ⟨h.1, h.2.1⟩)]
    clear h1
    go_enter Try.func20, Try.ntmps20
    have hA := Below.refl w.heap.size w
    have hq : Below w.heap.size w (w.alloc (.cells #[.bool b, .slice a xs.length ca, .slice c ds.length cc] 27)) := (Below.refl _ _).alloc (Nat.le_refl _) _
    replace FA := FA.below hq
    replace FB := FB.below hq
    have EA : Box (w.alloc (.cells #[.bool b, .slice a xs.length ca, .slice c ds.length cc] 27)) (w.heap.size) (.cells #[.bool b, .slice a xs.length ca, .slice c ds.length cc] 27) := Box.put (.cells #[.bool b, .slice a xs.length ca, .slice c ds.length cc] 27) rfl
    replace hA := hA.trans (hq.mono hA.size)
    replace hB := hB.trans (hq.mono hB.size)
    clear hq
    have hq : Below (w.alloc (.cells #[.bool b, .slice a xs.length ca, .slice c ds.length cc] 27)).heap.size (w.alloc (.cells #[.bool b, .slice a xs.length ca, .slice c ds.length cc] 27)) ((w.alloc (.cells #[.bool b, .slice a xs.length ca, .slice c ds.length cc] 27)).alloc (.cells #[.bool g, .slice p ys.length cp, .slice r es.length cr] 27)) := (Below.refl _ _).alloc (Nat.le_refl _) _
    replace FA := FA.below hq
    replace FB := FB.below hq
    replace EA := EA.below hq
    have EB : Box ((w.alloc (.cells #[.bool b, .slice a xs.length ca, .slice c ds.length cc] 27)).alloc (.cells #[.bool g, .slice p ys.length cp, .slice r es.length cr] 27)) (w.heap.size + 1) (.cells #[.bool g, .slice p ys.length cp, .slice r es.length cr] 27) := Box.put (.cells #[.bool g, .slice p ys.length cp, .slice r es.length cr] 27) (by simp)
    replace hA := hA.trans (hq.mono hA.size)
    replace hB := hB.trans (hq.mono hB.size)
    clear hq
    clear hA
    go_wp2_with fail
    obtain ⟨u1, hname⟩ : ∃ u, ((w.alloc (.cells #[.bool b, .slice a xs.length ca, .slice c ds.length cc] 27)).alloc (.cells #[.bool g, .slice p ys.length cp, .slice r es.length cr] 27)) = u := ⟨_, rfl⟩
    rw [hname] at hB FA FB EA EB ⊢
    have zh1 := hB.size
    clear hname
    have hk := samew_any b g FA.up FB.up (by omega)
    rw [HW.out] at hk
    refine (hk).mono ?_
    rintro e w2 ⟨rfl, hb⟩
    replace FA := FA.below hb
    replace FB := FB.below hb
    replace EA := EA.below hb
    replace EB := EB.below hb
    replace hB := hB.trans (hb.mono hB.size)
    have zz2 := hb.size
    have zh2 := hB.size
    clear hb
    clear hk
    obtain ⟨k0, k1, k2, f0, f1, f2⟩ := EA.three
    obtain ⟨k3, k4, k5, f3, f4, f5⟩ := EB.three
    go_wp2
    go_ret
    exact ⟨rfl, hB⟩

theorem samer_is {lo lo2 : Nat} {a c p r : Option Addr} {ca cc cp cr : Nat} {xs ds ys es : List Int} {w : World} {b g : Bool} {q : Rat} {n m : Nat} (FA : Fr lo w a ca xs c cc ds) (FB : Fr lo2 w p cp ys r cr es) (IA : Is b xs ds q n) (IB : Is g ys es q m) (hn : n ≤ 1000) :
    Calls Try.prog 20 #[.agg #[.bool b, .slice a xs.length ca, .slice c ds.length cc], .agg #[.bool g, .slice p ys.length cp, .slice r es.length cr]] w fun e w' => e = .returned (.bool true) ∧ Below w.heap.size w w' := by
  have h := samer_any b g FA FB (Nat.le_trans IA.lu hn) (Nat.le_trans IA.ld hn)
  rw [decide_eq_true (lowL_unique FA.up.words FA.down.words FB.up.words FB.down.words IA.low IB.low (IA.rat.trans IB.rat.symm))] at h
  exact h

set_option maxRecDepth 100000 in
set_option maxHeartbeats 4000000 in
/-- LongRatio. -/
theorem longr_any (b : Bool) (a : Option Addr) (xs : List Int) (ca : Nat) (c : Option Addr) (ds : List Int) (cc : Nat) (most : Int) (w : World) :
    Calls Try.prog 40 #[.agg #[.bool b, .slice a xs.length ca, .slice c ds.length cc], .int .i64 most] w fun e w' => e = .returned (.bool (decide (most < (xs.length : Int) ∨ most < (ds.length : Int)))) ∧ Below w.heap.size w w' := by
  have hB0 : Below w.heap.size w (w.alloc (.cells #[.bool b, .slice a xs.length ca, .slice c ds.length cc] 27)) := (Below.refl _ w).alloc (Nat.le_refl _) _
  by_cases h1 : most < (xs.length : Int)
  · rw [decide_eq_true (Or.inl h1)]
    go_enter Try.func40, Try.ntmps40
    go_wp2
    go_ret
    exact ⟨rfl, hB0⟩
  · by_cases h2 : most < (ds.length : Int)
    · rw [decide_eq_true (Or.inr h2)]
      go_enter Try.func40, Try.ntmps40
      go_wp2
      go_ret
      exact ⟨rfl, hB0⟩
    · rw [decide_eq_false (by rintro (h | h) <;> contradiction)]
      go_enter Try.func40, Try.ntmps40
      go_wp2
      go_ret
      exact ⟨rfl, hB0⟩

/-- Variables without words stay as they are. -/
def BoxesStay (w w' : World) : Prop := ∀ (k : Nat) (cs : Array Value) (t : TypeId), NoWord cs → Box w k (.cells cs t (0, 0)) → Box w' k (.cells cs t (0, 0))
end Go.Proofs.Ytblmkddjlfienaa

/-
  The words of the statements on fractions: of, is, rounded, same, like, good, long.
-/
namespace Go.Proofs.Ytblmkddjlfienaa
open Go.RowKit

/-- What of says. -/
def OfSaid (x d : Int) (w : World) (e : Ending) (w' : World) : Prop := ∃ (g : Bool) (a : Option Addr) (ca : Nat) (xs : List Int) (c : Option Addr) (cc : Nat) (ds : List Int), e = .returned (.agg #[.bool g, .slice a xs.length ca, .slice c ds.length cc]) ∧ Fr w.heap.size w' a ca xs c cc ds ∧ Apart a c xs ds ∧ Canon g xs ∧ Norm ds ∧ Hid (sgn g (val xs) = x) ∧ Hid (val ds = d) ∧ xs.length ≤ 1 ∧ ds.length ≤ 1 ∧ Below w.heap.size w w'

set_option maxRecDepth 100000 in
set_option maxHeartbeats 4000000 in
theorem lrof_pos (x d : Int) (hx : 0 < x ∧ x ≤ 1000) (hd : 0 < d ∧ d ≤ 1000) (w : World) :
    Calls Try.prog 7 #[.int .i64 x, .int .u64 d] w fun e w' => OfSaid x d w e w' := by
  have h1 : ¬ x < 0 := by omega
  have h2 : 0 < x := hx.1
  have h3 : IntKind.u64.wrap x = x := by rw [IntKind.wrap_u64]; omega
  have s1 := seg_lit ((w.alloc (.cells #[.bool false, (.slice (some ⟨w.heap.size + 1 + 1, 0, none⟩) 1 1), (.slice (some ⟨w.heap.size + 1 + 1 + 1, 0, none⟩) 1 1)] 27)).alloc (.cells #[.bool false, (.slice (some ⟨w.heap.size + 1 + 1, 0, none⟩) 1 1)] 25)) [x] (Words.cons (by omega) Words.nil)
  have s2 := seg_lit (((w.alloc (.cells #[.bool false, (.slice (some ⟨w.heap.size + 1 + 1, 0, none⟩) 1 1), (.slice (some ⟨w.heap.size + 1 + 1 + 1, 0, none⟩) 1 1)] 27)).alloc (.cells #[.bool false, (.slice (some ⟨w.heap.size + 1 + 1, 0, none⟩) 1 1)] 25)).alloc (.cells #[.int .u64 (x)] 33)) [d] (Words.cons (by omega) Words.nil)
  have s3 := s1.alloc (.cells #[.int .u64 d] 33)
  have hb : Below w.heap.size w ((((w.alloc (.cells #[.bool false, (.slice (some ⟨w.heap.size + 1 + 1, 0, none⟩) 1 1), (.slice (some ⟨w.heap.size + 1 + 1 + 1, 0, none⟩) 1 1)] 27)).alloc (.cells #[.bool false, (.slice (some ⟨w.heap.size + 1 + 1, 0, none⟩) 1 1)] 25)).alloc (.cells #[.int .u64 (x)] 33)).alloc (.cells #[.int .u64 d] 33)) := ((((Below.refl _ w).a1 _).a1 _).a1 _).a1 _
  rw [World.size_alloc, World.size_alloc] at s1 s2 s3
  rw [World.size_alloc] at s2
  clear s1
  go_enter Try.func7, Try.ntmps7
  go_wp2
  refine bodyPost_ret (v := .agg #[.bool false, (.slice (some ⟨w.heap.size + 1 + 1, 0, none⟩) 1 1), (.slice (some ⟨w.heap.size + 1 + 1 + 1, 0, none⟩) 1 1)]) (by simp [results, Try.f7, go_sem]) rfl ?_
  exact ⟨false, _, _, [x], _, _, [d], rfl, ⟨s3.mono (by omega), s2.mono (by omega)⟩, fun _ _ b1 o1 b2 o2 e1 e2 => by simp at e1 e2; omega, ⟨Or.inr (by simp; omega), fun _ => by simp⟩, Or.inr (by simp; omega), by rw [Hid, val_cons, val_nil]; simp [sgn], by rw [Hid, val_cons, val_nil]; omega, by simp, by simp, hb⟩

set_option maxRecDepth 100000 in
set_option maxHeartbeats 4000000 in
theorem lrof_neg (x d : Int) (hx : -1000 ≤ x ∧ x < 0) (hd : 0 < d ∧ d ≤ 1000) (w : World) :
    Calls Try.prog 7 #[.int .i64 x, .int .u64 d] w fun e w' => OfSaid x d w e w' := by
  have h1 : x < 0 := by omega
  have h2 : 0 < -x := by omega
  have h3 : IntKind.u64.wrap (-x) = -x := by rw [IntKind.wrap_u64]; omega
  have h4 : IntKind.i64.wrap (-x) = -x := by rw [IntKind.wrap_i64]; omega
  have s1 := seg_lit ((w.alloc (.cells #[.bool true, (.slice (some ⟨w.heap.size + 1 + 1, 0, none⟩) 1 1), (.slice (some ⟨w.heap.size + 1 + 1 + 1, 0, none⟩) 1 1)] 27)).alloc (.cells #[.bool true, (.slice (some ⟨w.heap.size + 1 + 1, 0, none⟩) 1 1)] 25)) [-x] (Words.cons (by omega) Words.nil)
  have s2 := seg_lit (((w.alloc (.cells #[.bool true, (.slice (some ⟨w.heap.size + 1 + 1, 0, none⟩) 1 1), (.slice (some ⟨w.heap.size + 1 + 1 + 1, 0, none⟩) 1 1)] 27)).alloc (.cells #[.bool true, (.slice (some ⟨w.heap.size + 1 + 1, 0, none⟩) 1 1)] 25)).alloc (.cells #[.int .u64 (-x)] 33)) [d] (Words.cons (by omega) Words.nil)
  have s3 := s1.alloc (.cells #[.int .u64 d] 33)
  have hb : Below w.heap.size w ((((w.alloc (.cells #[.bool true, (.slice (some ⟨w.heap.size + 1 + 1, 0, none⟩) 1 1), (.slice (some ⟨w.heap.size + 1 + 1 + 1, 0, none⟩) 1 1)] 27)).alloc (.cells #[.bool true, (.slice (some ⟨w.heap.size + 1 + 1, 0, none⟩) 1 1)] 25)).alloc (.cells #[.int .u64 (-x)] 33)).alloc (.cells #[.int .u64 d] 33)) := ((((Below.refl _ w).a1 _).a1 _).a1 _).a1 _
  rw [World.size_alloc, World.size_alloc] at s1 s2 s3
  rw [World.size_alloc] at s2
  clear s1
  go_enter Try.func7, Try.ntmps7
  go_wp2
  refine bodyPost_ret (v := .agg #[.bool true, (.slice (some ⟨w.heap.size + 1 + 1, 0, none⟩) 1 1), (.slice (some ⟨w.heap.size + 1 + 1 + 1, 0, none⟩) 1 1)]) (by simp [results, Try.f7, go_sem]) rfl ?_
  exact ⟨true, _, _, [-x], _, _, [d], rfl, ⟨s3.mono (by omega), s2.mono (by omega)⟩, fun _ _ b1 o1 b2 o2 e1 e2 => by simp at e1 e2; omega, ⟨Or.inr (by simp; omega), fun _ => by simp⟩, Or.inr (by simp; omega), by rw [Hid, val_cons, val_nil]; simp [sgn], by rw [Hid, val_cons, val_nil]; omega, by simp, by simp, hb⟩

set_option maxRecDepth 100000 in
set_option maxHeartbeats 4000000 in
theorem lrof_zero (x d : Int) (hx : x = 0) (hd : 0 < d ∧ d ≤ 1000) (w : World) :
    Calls Try.prog 7 #[.int .i64 x, .int .u64 d] w fun e w' => OfSaid x d w e w' := by
  subst hx
  have s2 := seg_lit ((w.alloc (.cells #[.bool false, .slice none 0 0, (.slice (some ⟨w.heap.size + 1 + 1, 0, none⟩) 1 1)] 27)).alloc (.cells #[.bool false, .slice none 0 0] 25)) [d] (Words.cons (by omega) Words.nil)
  have hb : Below w.heap.size w (((w.alloc (.cells #[.bool false, .slice none 0 0, (.slice (some ⟨w.heap.size + 1 + 1, 0, none⟩) 1 1)] 27)).alloc (.cells #[.bool false, .slice none 0 0] 25)).alloc (.cells #[.int .u64 d] 33)) := (((Below.refl _ w).a1 _).a1 _).a1 _
  rw [World.size_alloc, World.size_alloc] at s2
  go_enter Try.func7, Try.ntmps7
  go_wp2
  refine bodyPost_ret (v := .agg #[.bool false, .slice none 0 0, (.slice (some ⟨w.heap.size + 1 + 1, 0, none⟩) 1 1)]) (by simp [results, Try.f7, go_sem]) rfl ?_
  exact ⟨false, none, 0, [], _, _, [d], rfl, ⟨Seg.nil _ _, s2.mono (by omega)⟩, fun h => absurd rfl h, ⟨norm_nil, fun h => by cases h⟩, Or.inr (by simp; omega), by rw [Hid, val_nil]; rfl, by rw [Hid, val_cons, val_nil]; omega, by simp, by simp, hb⟩

/-- of(x, d): x over d, as it stands. -/
theorem lrof_any (x d : Int) (hx : -1000 ≤ x ∧ x ≤ 1000) (hd : 0 < d ∧ d ≤ 1000) (w : World) :
    Calls Try.prog 7 #[.int .i64 x, .int .u64 d] w fun e w' => OfSaid x d w e w' := by
  rcases Int.lt_trichotomy x 0 with h | h | h
  · exact lrof_neg x d ⟨hx.1, h⟩ hd w
  · exact lrof_zero x d h hd w
  · exact lrof_pos x d ⟨h, hx.2⟩ hd w
theorem of_is {g : Bool} {xs ds : List Int} {x d : Int} (N1 : Canon g xs) (N2 : Norm ds) (V1 : Hid (sgn g (val xs) = x)) (V2 : Hid (val ds = d)) (l1 : xs.length ≤ 1) (l2 : ds.length ≤ 1) (hg : Int.gcd x d = 1) (hd : 0 < d) : Is g xs ds (Rat.divInt x d) 1 := by
  refine ⟨⟨N1, N2, ?_⟩, ?_, l1, l2⟩
  · rw [V1.out, V2.out]; exact ⟨hd, hg⟩
  · rw [ratL, V1.out, V2.out]
theorem of_none {g : Bool} {xs ds : List Int} {x d : Int} (wx : Words xs) (wd : Words ds) (V1 : Hid (sgn g (val xs) = x)) (V2 : Hid (val ds = d)) (hg : Int.gcd x d ≠ 1) : formR g xs ds = 6 := by
  rcases formR_or g xs ds with h | h
  · have := ((formR_low wx wd).1 h).2.2.2
    rw [V1.out, V2.out] at this
    exact absurd this hg
  · exact h

set_option maxRecDepth 100000 in
set_option maxHeartbeats 4000000 in
/-- is(r, e, up, down), where it is. -/
theorem lris_yes {lo : Nat} {a c : Option Addr} {ca cc : Nat} {xs ds : List Int} {w : World} (b : Bool) (FA : Fr lo w a ca xs c cc ds) {n : Nat} (up down : Int) (hup : -1000 ≤ up ∧ up ≤ 1000) (hdn : 0 < down ∧ down ≤ 1000) (hgc : Int.gcd up down = 1) (IA : Is b xs ds (Rat.divInt up down) n) (hn : n ≤ 1000) :
    Calls Try.prog 12 #[.agg #[.bool b, .slice a xs.length ca, .slice c ds.length cc], .int .i64 0, .int .i64 up, .int .u64 down] w fun e w' => e = .returned (.bool true) ∧ Below w.heap.size w w' := by
  have hB := Below.refl w.heap.size w
  have hd0 := hdn.1
  go_enter Try.func12, Try.ntmps12
  have hA := Below.refl w.heap.size w
  have hq : Below w.heap.size w (w.alloc (.cells #[.bool b, .slice a xs.length ca, .slice c ds.length cc] 27)) := (Below.refl _ _).alloc (Nat.le_refl _) _
  replace FA := FA.below hq
  have EA : Box (w.alloc (.cells #[.bool b, .slice a xs.length ca, .slice c ds.length cc] 27)) (w.heap.size) (.cells #[.bool b, .slice a xs.length ca, .slice c ds.length cc] 27) := Box.put (.cells #[.bool b, .slice a xs.length ca, .slice c ds.length cc] 27) rfl
  replace hA := hA.trans (hq.mono hA.size)
  replace hB := hB.trans (hq.mono hB.size)
  clear hq
  clear hA
  go_wp2_with fail
  obtain ⟨u1, hname⟩ : ∃ u, (w.alloc (.cells #[.bool b, .slice a xs.length ca, .slice c ds.length cc] 27)) = u := ⟨_, rfl⟩
  rw [hname] at hB FA EA ⊢
  have zh1 := hB.size
  clear hname
  replace FA := FA.drew
  have qEA := EA.lt
  replace EA := EA.drew
  have hr := Below.refl u1.drew.heap.size u1.drew
  have hkeep : ∀ V : World, Below u1.drew.heap.size u1.drew V → V.cell? ⟨w.heap.size, 0, none⟩ = some (.bool b) ∧ V.cell? ⟨w.heap.size, 1, none⟩ = some (.slice a xs.length ca) ∧ V.cell? ⟨w.heap.size, 2, none⟩ = some (.slice c ds.length cc) := fun V hV => ⟨(EA.below hV).three.1, (EA.below hV).three.2.1, (EA.below hV).three.2.2.1⟩
  have t0 : Hid True := trivial
  go_region_held3 (fun V : World => V.cell? ⟨w.heap.size, 0, none⟩ = some (.bool b) ∧ V.cell? ⟨w.heap.size, 1, none⟩ = some (.slice a xs.length ca) ∧ V.cell? ⟨w.heap.size, 2, none⟩ = some (.slice c ds.length cc))
    (first | exact hkeep _ hr | exact hkeep _ (hr.a1 _) | exact hkeep _ ((hr.a1 _).a1 _) | exact hkeep _ (((hr.a1 _).a1 _).a1 _) | exact hkeep _ ((((hr.a1 _).a1 _).a1 _).a1 _))
    (first
    | (clear t0
       go_at_call 7
       refine (lrof_any up down hup hdn _).mono ?_
       rintro e w2 ⟨g1, a1, c1, x1, e1, t1, y1, rfl, F1, P1, N1, N2, V1, V2, b1, b2, hb⟩
       have I1 := of_is N1 N2 V1 V2 b1 b2 hgc hd0
       clear P1 V1 V2
       replace FA := FA.below hb
       replace EA := EA.below hb
       replace hr := hr.trans (hb.mono hr.size)
       have zw2 := hb.size
       clear hb
       have t1 : Hid True := trivial)
    | (clear t1
       go_at_call 20
       refine (samer_is FA F1 IA I1 (by omega)).mono ?_
       rintro e w3 ⟨rfl, hb⟩
       replace FA := FA.below hb
       replace EA := EA.below hb
       replace F1 := F1.below hb
       replace hr := hr.trans (hb.mono hr.size)
       have zw3 := hb.size
       clear hb
       have t2 : Hid True := trivial))
  replace hB := hB.trans ((Below.trans (Below.drew (Below.refl u1.heap.size u1)) hr).mono hB.size)
  have zi_3 := hB.size
  clear hr hkeep t2
  obtain ⟨k0, k1, k2, f0, f1, f2⟩ := EA.three
  go_wp2
  go_ret
  exact ⟨rfl, hB⟩

set_option maxRecDepth 100000 in
set_option maxHeartbeats 4000000 in
/-- rounded(r, want), where it is. -/
theorem lrrounded_yes {lo : Nat} {a c : Option Addr} {ca cc : Nat} {xs ds : List Int} {w : World} (b : Bool) (FA : Fr lo w a ca xs c cc ds) {n : Nat} {q : Rat} (IA : Is b xs ds q n) (hn : n ≤ 400) (want : Int) (hw : -9223372036854775808 ≤ want ∧ want < 9223372036854775808) (hv : Hid (sgn b (roundN (val xs) (val ds)) = want)) :
    Calls Try.prog 16 #[.agg #[.bool b, .slice a xs.length ca, .slice c ds.length cc], .int .i64 want] w fun e w' => e = .returned (.bool true) ∧ Below w.heap.size w w' := by
  have hB := Below.refl w.heap.size w
  go_enter Try.func16, Try.ntmps16
  have hA := Below.refl w.heap.size w
  have hq : Below w.heap.size w (w.alloc (.cells #[.bool b, .slice a xs.length ca, .slice c ds.length cc] 27)) := (Below.refl _ _).alloc (Nat.le_refl _) _
  replace FA := FA.below hq
  have EA : Box (w.alloc (.cells #[.bool b, .slice a xs.length ca, .slice c ds.length cc] 27)) (w.heap.size) (.cells #[.bool b, .slice a xs.length ca, .slice c ds.length cc] 27) := Box.put (.cells #[.bool b, .slice a xs.length ca, .slice c ds.length cc] 27) rfl
  replace hA := hA.trans (hq.mono hA.size)
  replace hB := hB.trans (hq.mono hB.size)
  clear hq
  clear hA
  go_wp2_with fail
  obtain ⟨u1, hname⟩ : ∃ u, (w.alloc (.cells #[.bool b, .slice a xs.length ca, .slice c ds.length cc] 27)) = u := ⟨_, rfl⟩
  rw [hname] at hB FA EA ⊢
  have zh1 := hB.size
  clear hname
  refine (pround_ok b FA IA (by omega)).mono ?_
  rintro e w2 ⟨g1, a1, c1, z1, rfl, S1, N1, V1, b1, hb⟩
  replace FA := FA.below hb
  replace EA := EA.below hb
  replace hB := hB.trans (hb.mono hB.size)
  have zz2 := hb.size
  have zh2 := hB.size
  clear hb
  obtain ⟨k0, k1, k2, f0, f1, f2⟩ := EA.three
  have qEA := EA.lt
  have hA := Below.refl w2.heap.size w2
  have hq : Below w2.heap.size w2 (w2.alloc (.cells #[.bool g1, .slice a1 z1.length c1] 25)) := (Below.refl _ _).alloc (Nat.le_refl _) _
  replace FA := FA.below hq
  replace EA := EA.below hq
  replace S1 := S1.below hq
  have EN : Box (w2.alloc (.cells #[.bool g1, .slice a1 z1.length c1] 25)) (w2.heap.size) (.cells #[.bool g1, .slice a1 z1.length c1] 25) := Box.put (.cells #[.bool g1, .slice a1 z1.length c1] 25) rfl
  replace hA := hA.trans (hq.mono hA.size)
  replace hB := hB.trans (hq.mono hB.size)
  clear hq
  clear hA
  go_wp2_with fail
  clear k0 k1 k2 f0 f1 f2
  obtain ⟨u3, hname⟩ : ∃ u, (w2.alloc (.cells #[.bool g1, .slice a1 z1.length c1] 25)) = u := ⟨_, rfl⟩
  rw [hname] at hB FA EA S1 EN ⊢
  have zh3 := hB.size
  clear hname
  replace FA := FA.drew
  have qEA := EA.lt
  replace EA := EA.drew
  replace S1 := S1.drew
  have qEN := EN.lt
  replace EN := EN.drew
  have hr := Below.refl u3.drew.heap.size u3.drew
  have hkeep : ∀ V : World, Below u3.drew.heap.size u3.drew V → V.cell? ⟨w2.heap.size, 0, none⟩ = some (.bool g1) ∧ V.cell? ⟨w2.heap.size, 1, none⟩ = some (.slice a1 z1.length c1) := fun V hV => ⟨(EN.below hV).two.1, (EN.below hV).two.2.1⟩
  have t0 : Hid True := trivial
  go_region_held3 (fun V : World => V.cell? ⟨w2.heap.size, 0, none⟩ = some (.bool g1) ∧ V.cell? ⟨w2.heap.size, 1, none⟩ = some (.slice a1 z1.length c1))
    (first | exact hkeep _ hr | exact hkeep _ (hr.a1 _) | exact hkeep _ ((hr.a1 _).a1 _) | exact hkeep _ (((hr.a1 _).a1 _).a1 _) | exact hkeep _ ((((hr.a1 _).a1 _).a1 _).a1 _))
    (first
    | (clear t0
       go_at_call 21
       refine (sof_any want hw _).mono ?_
       rintro e w4 ⟨g2, a2, c2, z2, rfl, S2, N2, v2, l2, hb⟩
       have V2 : Hid (sgn g2 (val z2) = want) := v2
       have b2 : z2.length ≤ 1 := by omega
       clear v2 l2
       replace FA := FA.below hb
       replace EA := EA.below hb
       replace S1 := S1.below hb
       replace EN := EN.below hb
       replace hr := hr.trans (hb.mono hr.size)
       have zw4 := hb.size
       clear hb
       have t1 : Hid True := trivial)
    | (clear t1
       go_at_call 39
       refine (samew_can g1 g2 S1 S2 N1 N2 (by rw [V1.out, V2.out]; exact hv.out) (by omega)).mono ?_
       rintro e w5 ⟨rfl, hb⟩
       replace FA := FA.below hb
       replace EA := EA.below hb
       replace S1 := S1.below hb
       replace EN := EN.below hb
       replace S2 := S2.below hb
       replace hr := hr.trans (hb.mono hr.size)
       have zw5 := hb.size
       clear hb
       have t2 : Hid True := trivial))
  replace hB := hB.trans ((Below.trans (Below.drew (Below.refl u3.heap.size u3)) hr).mono hB.size)
  have zi_5 := hB.size
  clear hr hkeep t2
  obtain ⟨k0, k1, k2, f0, f1, f2⟩ := EA.three
  obtain ⟨k3, k4, f3, f4⟩ := EN.two
  go_wp2
  go_ret
  exact ⟨rfl, hB⟩

end Go.Proofs.Ytblmkddjlfienaa

/-
  The words of the statements on lists of fractions: good, long.
-/
namespace Go.Proofs.Ytblmkddjlfienaa
open Go.RowKit

/-- What good says of a list. -/
structure GoodIs (v : Bool) (rs : List RV) : Prop where
  out : v = true ↔ ∀ r ∈ rs, formR r.b r.xs r.ds = 0

set_option maxRecDepth 100000 in
set_option maxHeartbeats 2000000 in
/-- good: are these all fractions? -/
theorem lrgood_any {sv : Option Addr} {cap : Nat} {rs : List RV} {w : World} (R : Row 0 w sv rs) (hrl : rs.length ≤ 1000) (hlen : ∀ r ∈ rs, r.xs.length ≤ 1000 ∧ r.ds.length ≤ 1000) (v : Bool) (hv : GoodIs v rs) :
    Calls Try.prog 18 #[.slice sv rs.length cap] w fun e w' => e = .returned (.bool v) ∧ Below w.heap.size w w' := by
  go_enter Try.func18, Try.ntmps18
  go_wp2
  go_loopw [3] (fun iv wr => ∃ (i : Nat), iv = .int .i64 i ∧ i ≤ rs.length ∧ Row 0 wr sv rs ∧ Below w.heap.size w wr ∧ Hid (∀ r ∈ rs.take i, formR r.b r.xs r.ds = 0)) (fun iv _ => rs.length - (intOf iv).toNat)
  case atStart => exact ⟨0, rfl, Nat.zero_le _, R, Below.refl _ _, by rw [Hid]; simp⟩
  case round =>
    clear R
    obtain ⟨i, rfl, hi, R, hB, HG⟩ := hrel
    have hw1 : IntKind.i64.wrap ((i : Int) + 1) = (i : Int) + 1 := by rw [IntKind.wrap_i64]; omega
    by_cases hlt : i < rs.length
    · have hlt2 : (i : Int) < (rs.length : Int) := by omega
      have hge : ¬ (i : Int) < 0 := by omega
      obtain ⟨g, o, rfl, hg⟩ := R.at_ i hlt
      obtain ⟨r, hr0⟩ : ∃ r, rs[i]? = some r := ⟨rs[i], List.getElem?_eq_getElem hlt⟩
      have hr := hide hr0
      have F1 := R.held i r hr0
      clear hr0
      have hlr := hlen r (List.mem_of_getElem? hr.out)
      have hcc := R.cells g o i r rfl hr.out
      have c0 := hcc.1
      have c1 := hcc.2.1
      have c2 := hcc.2.2
      have hk := pcheck_any r.b F1 (by omega) (by omega)
      have hms : rs.length - (i + 1) < rs.length - i := by omega
      clear hcc
      rcases formR_or r.b r.xs r.ds with h | h
      · rw [h] at hk
        have H := hide h
        clear h
        go_wp2_with fail
        refine hk.mono ?_
        rintro e w1 ⟨rfl, hb1⟩
        have R1 := R.below hb1
        have hB1 := hB.trans (hb1.mono hB.size)
        clear hk c0 c1 c2
        go_wp2
        refine ⟨⟨i + 1, by simp, by omega, R1, hB1, ?_⟩, by simpa [intOf] using hms⟩
        rw [Hid]
        intro s hs
        rw [List.take_add_one, hr.out] at hs
        simp only [Option.toList_some, List.mem_append, List.mem_singleton] at hs
        rcases hs with hs | rfl
        · exact HG.out s hs
        · exact H.out
      · rw [h] at hk
        obtain rfl : v = false := by
          cases v
          · rfl
          · have := hv.out.1 rfl r (List.mem_of_getElem? hr.out)
            rw [h] at this
            exact absurd this (by decide)
        clear h
        go_wp2_with fail
        refine hk.mono ?_
        rintro e w1 ⟨rfl, hb1⟩
        have hB1 := hB.trans (hb1.mono hB.size)
        clear hk c0 c1 c2
        go_wp2
        go_ret
        exact ⟨rfl, hB1⟩
    · have hnl : ¬ (i : Int) < (rs.length : Int) := by omega
      obtain rfl : v = true := hv.out.2 (by have := HG.out; rw [List.take_of_length_le (by omega)] at this; exact this)
      go_wp2
      go_ret
      exact ⟨rfl, hB⟩

def longB (r : RV) : Bool := decide ((5 : Int) < (r.xs.length : Int) ∨ (5 : Int) < (r.ds.length : Int))
/-- What long says of a list. -/
structure LongIs (v : Bool) (rs : List RV) : Prop where
  out : v = true ↔ 6 < rs.length ∨ ∃ r ∈ rs.take 7, longB r = true

set_option maxRecDepth 100000 in
set_option maxHeartbeats 2000000 in
/-- long: are fractions more than are gone through? -/
theorem lrlong_any {sv : Option Addr} {cap : Nat} {rs : List RV} {w : World} (R : Row 0 w sv rs) (v : Bool) (hv : LongIs v rs) :
    Calls Try.prog 17 #[.slice sv rs.length cap] w fun e w' => e = .returned (.bool v) ∧ Below w.heap.size w w' := by
  go_enter Try.func17, Try.ntmps17
  go_wp2
  go_loopw [3] (fun iv wr => ∃ (i : Nat), iv = .int .i64 i ∧ i ≤ rs.length ∧ i ≤ 7 ∧ Row 0 wr sv rs ∧ Below w.heap.size w wr ∧ Hid (∀ r ∈ rs.take i, longB r = false)) (fun iv _ => rs.length - (intOf iv).toNat)
  case atStart => exact ⟨0, rfl, Nat.zero_le _, by omega, R, Below.refl _ _, by rw [Hid]; simp⟩
  case round =>
    clear R
    obtain ⟨i, rfl, hi, hi7, R, hB, HG⟩ := hrel
    have hw1 : IntKind.i64.wrap ((i : Int) + 1) = (i : Int) + 1 := by rw [IntKind.wrap_i64]; omega
    by_cases hlt : i < rs.length
    · have hlt2 : (i : Int) < (rs.length : Int) := by omega
      have hge : ¬ (i : Int) < 0 := by omega
      by_cases h7 : i < 7
      · have h72 : (i : Int) < 7 := by omega
        obtain ⟨g, o, rfl, hg⟩ := R.at_ i hlt
        obtain ⟨r, hr0⟩ : ∃ r, rs[i]? = some r := ⟨rs[i], List.getElem?_eq_getElem hlt⟩
        have hr := hide hr0
        clear hr0
        have hcc := R.cells g o i r rfl hr.out
        have c0 := hcc.1
        have c1 := hcc.2.1
        have c2 := hcc.2.2
        have hk := fun w => longr_any r.b r.a r.xs r.ca r.c r.ds r.cc 5 w
        have hms : rs.length - (i + 1) < rs.length - i := by omega
        have hmem : r ∈ rs.take 7 := by
          refine List.mem_iff_getElem?.2 ⟨i, ?_⟩
          rw [List.getElem?_take_of_lt h7]
          exact hr.out
        have HM := hide hmem
        clear hcc hmem
        obtain ⟨x, hx⟩ : ∃ x, decide ((5 : Int) < (r.xs.length : Int) ∨ (5 : Int) < (r.ds.length : Int)) = x := ⟨_, rfl⟩
        rw [hx] at hk
        have HX : Hid (longB r = x) := hx
        clear hx
        cases x with
        | false =>
          go_wp2_with fail
          refine (hk _).mono ?_
          rintro e w1 ⟨rfl, hb1⟩
          have R1 := R.below hb1
          have hB1 := hB.trans (hb1.mono hB.size)
          clear hk c0 c1 c2
          go_wp2
          refine ⟨⟨i + 1, by simp, by omega, by omega, R1, hB1, ?_⟩, by simpa [intOf] using hms⟩
          rw [Hid]
          intro s hs
          rw [List.take_add_one, hr.out] at hs
          simp only [Option.toList_some, List.mem_append, List.mem_singleton] at hs
          rcases hs with hs | rfl
          · exact HG.out s hs
          · exact HX.out
        | true =>
          obtain rfl : v = true := hv.out.2 (Or.inr ⟨r, HM.out, HX.out⟩)
          go_wp2_with fail
          refine (hk _).mono ?_
          rintro e w1 ⟨rfl, hb1⟩
          have hB1 := hB.trans (hb1.mono hB.size)
          clear hk c0 c1 c2
          go_wp2
          go_ret
          exact ⟨rfl, hB1⟩
      · have h72 : ¬ (i : Int) < 7 := by omega
        have h6 : (6 : Int) < (rs.length : Int) := by omega
        obtain rfl : v = true := hv.out.2 (Or.inl (by omega))
        go_wp2
        go_ret
        exact ⟨rfl, hB⟩
    · have hnl : ¬ (i : Int) < (rs.length : Int) := by omega
      by_cases h6 : 6 < rs.length
      · have h62 : (6 : Int) < (rs.length : Int) := by omega
        obtain rfl : v = true := hv.out.2 (Or.inl h6)
        go_wp2
        go_ret
        exact ⟨rfl, hB⟩
      · have h62 : ¬ (6 : Int) < (rs.length : Int) := by omega
        obtain rfl : v = false := by
          cases v
          · rfl
          · rcases hv.out.1 rfl with h | ⟨r, hr, hl⟩
            · exact absurd h h6
            · have h0 := HG.out
              rw [List.take_of_length_le (by omega)] at h0 hr
              rw [h0 r hr] at hl
              cases hl
        go_wp2
        go_ret
        exact ⟨rfl, hB⟩
end Go.Proofs.Ytblmkddjlfienaa

/-
  Long and good lists of fractions.
-/
namespace Go.Proofs.Ytblmkddjlfienaa
open Go.RowKit

theorem long_no (rs : List RV) (h6 : rs.length ≤ 6) (h : ∀ r ∈ rs, r.xs.length ≤ 5 ∧ r.ds.length ≤ 5) : LongIs false rs := by
  refine ⟨⟨(fun h => by cases h), ?_⟩⟩
  rintro (h1 | ⟨r, hr, hl⟩)
  · omega
  · have := h r (List.mem_of_mem_take hr)
    simp [longB] at hl
    omega
theorem long_yes (rs : List RV) (h : ∃ r ∈ rs.take 7, ¬ (r.xs.length ≤ 5 ∧ r.ds.length ≤ 5)) : LongIs true rs := by
  refine ⟨⟨fun _ => ?_, fun _ => rfl⟩⟩
  obtain ⟨r, hr, hl⟩ := h
  refine Or.inr ⟨r, hr, ?_⟩
  simp [longB]
  omega
theorem good_yes (rs : List RV) (h : ∀ r ∈ rs, formR r.b r.xs r.ds = 0) : GoodIs true rs := ⟨⟨fun _ => h, fun _ => rfl⟩⟩
theorem good_no (rs : List RV) (h : ¬ ∀ r ∈ rs, formR r.b r.xs r.ds = 0) : GoodIs false rs := ⟨⟨(fun h => by cases h), fun h' => absurd h' h⟩⟩

end Go.Proofs.Ytblmkddjlfienaa

