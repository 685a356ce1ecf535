/-
  Joined: PGet PWords PKnown PTurned.
-/
import Derived.Test.YtedjicimgalneaaPGather
import Derived.Test.YtedjicimgalneaaJCWords
import Derived.Test.YtedjicimgalneaaJPParts
import Derived.Test.YtedjicimgalneaaJWiden
import Derived.Test.YtedjicimgalneaaJRMulB
namespace Go.Proofs.Ytedjicimgalneaa
open Go.RowKit
def getP (bs : List Int) : PV × Int := if (openB cT bs).2 = 0 then getX (openB cT bs).1 else (PV.zero, (openB cT bs).2)
def PkSaid (p : PV) (er : Int) (w : World) (e : Ending) (w' : World) : Prop := ∃ (a : Option Addr) (n c : Nat), e = .returned (.tuple #[.agg #[.int .i64 p.k, .int .i64 p.s, .int .i64 p.b, .int .i64 p.i, .int .i64 p.r, .slice a n c], .int .i64 er]) ∧ Byt w.heap.size w' (.slice a n c) p.zs ∧ Below w.heap.size w w'
theorem pksaid_zero {er : Int} {w w' : World} {e : Ending} (h : e = .returned (.tuple #[.agg #[.int .i64 0, .int .i64 0, .int .i64 0, .int .i64 0, .int .i64 0, .slice none 0 0], .int .i64 er])) (hb : Below w.heap.size w w') : PkSaid PV.zero er w e w' := ⟨none, 0, 0, h, Byt.nil _ _, hb⟩
theorem openB_len (f : Nat → Nat) (bs : List Int) : (openB f bs).1.length ≤ bs.length := by
  unfold openB openZ
  split
  · exact Nat.zero_le _
  · split
    · show (bs.take _).length ≤ _
      rw [List.length_take]
      omega
    · exact Nat.zero_le _
theorem openB_octs (f : Nat → Nat) {bs : List Int} (h : Octs bs) : Octs (openB f bs).1 := by
  unfold openB openZ
  split
  · exact Octs.nil
  · split
    · exact h.take _
    · exact Octs.nil
def put6 (W : World) (g : Nat) (u0 u1 u2 u3 u4 u5 : Value) : World := (((((W.setCell ⟨g, 0, none⟩ u0).setCell ⟨g, 1, none⟩ u1).setCell ⟨g, 2, none⟩ u2).setCell ⟨g, 3, none⟩ u3).setCell ⟨g, 4, none⟩ u4).setCell ⟨g, 5, none⟩ u5
theorem box_put6 {W : World} {g : Nat} {v0 v1 v2 v3 v4 v5 : Value} {t : TypeId} (h : Box W g (.cells #[v0, v1, v2, v3, v4, v5] t (0, 0))) (u0 u1 u2 u3 u4 u5 : Value) : Box (put6 W g u0 u1 u2 u3 u4 u5) g (.cells #[u0, u1, u2, u3, u4, u5] t (0, 0)) :=
  (((((h.put1 0 u0).put1 1 u1).put1 2 u2).put1 3 u3).put1 4 u4).put1 5 u5
theorem spared_put6 (W : World) (g : Nat) (u0 u1 u2 u3 u4 u5 : Value) : Spared (fun q => q = g) W (put6 W g u0 u1 u2 u3 u4 u5) :=
  ((((((Spared.refl (fun q => q = g) W).setCell (k := g) rfl 0 u0).setCell (k := g) rfl 1 u1).setCell (k := g) rfl 2 u2).setCell (k := g) rfl 3 u3).setCell (k := g) rfl 4 u4).setCell (k := g) rfl 5 u5
theorem below_put6 {lo g : Nat} {A W : World} (h : Below lo A W) (_ : A.heap.size ≤ W.heap.size) (hg : lo ≤ g) (hl : lo ≤ W.heap.size) (u0 u1 u2 u3 u4 u5 : Value) : Below lo A (put6 W g u0 u1 u2 u3 u4 u5) :=
  h.trans ((spared_put6 W g u0 u1 u2 u3 u4 u5).to_below hl (fun k hk => by rw [hk]; exact hg))
theorem byt_put6 {lo g : Nat} {W : World} {a : Option Addr} {n c : Nat} {zs : List Int} (h : Byt lo W (.slice a n c) zs) (hg : g < lo) (u0 u1 u2 u3 u4 u5 : Value) : Byt lo (put6 W g u0 u1 u2 u3 u4 u5) (.slice a n c) zs :=
  h.keep (spared_put6 W g u0 u1 u2 u3 u4 u5) (fun hz b o e hq => by
    obtain ⟨b', o', e', h1, _⟩ := h.row (by rw [h.len.1]; exact List.length_pos_iff.2 hz)
    rw [e] at e'
    simp only [Option.some.injEq, Addr.mk.injEq] at e'
    omega)
set_option maxRecDepth 100000 in
set_option maxHeartbeats 400000 in
theorem pget_any {lo n c : Nat} {a : Option Addr} {bs : List Int} {w : World} (X : Byt lo w (.slice a n c) bs) (hn : n ≤ 100000) :
    Calls Try.prog 22 #[.slice a n c] w (PkSaid (getP bs).1 (getP bs).2 w) := by
  have q1 := below_new w (.cells #[.int .i64 0, .int .i64 0, .int .i64 0, .int .i64 0, .int .i64 0, .slice none 0 0] 24)
  have R0 := Box.new w (.cells #[.int .i64 0, .int .i64 0, .int .i64 0, .int .i64 0, .int .i64 0, .slice none 0 0] 24)
  have hop := copen_any (PT.nil (w.alloc (.cells #[.int .i64 0, .int .i64 0, .int .i64 0, .int .i64 0, .int .i64 0, .slice none 0 0] 24))) nums_cT (X.below q1) (by omega)
  have hol := openB_len cT bs
  have hoo := openB_octs cT X.words
  rw [← X.len.1] at hol
  unfold getP
  obtain ⟨⟨zs, oe⟩, ho⟩ : ∃ q, openB cT bs = q := ⟨_, rfl⟩
  rw [ho] at hop hol hoo ⊢
  dsimp only at hop hol hoo ⊢
  have HQ := hide q1
  have HR := hide R0
  clear X ho q1 R0
  by_cases h0 : oe = 0
  · subst h0
    rw [if_pos rfl]
    have hgx := gath_getX hoo
    rw [← hgx]
    have HOL := hide (show zs.length ≤ 100000 by omega)
    clear hol hoo hgx hn
    obtain ⟨P, hP⟩ : ∃ P, gathP zs = P := ⟨_, rfl⟩
    obtain ⟨E1, hE1⟩ : ∃ E, (endR zs (gf zs).2).1 = E := ⟨_, rfl⟩
    obtain ⟨E2, hE2⟩ : ∃ E, (endR zs (gf zs).2).2 = E := ⟨_, rfl⟩
    have HP := hide hP
    have HE1 := hide hE1
    have HE2 := hide hE2
    rw [hP, hE1]
    clear hP hE1 hE2
    obtain ⟨⟨p', er'⟩, hans⟩ : ∃ q, (if E1 = 0 ∧ May P then (P, (0 : Int)) else (PV.zero, 6)) = q := ⟨_, rfl⟩
    rw [hans]
    have HA := hide hans
    clear hans
    show Calls Try.prog 22 #[.slice a n c] w (PkSaid p' er' w)
    go_enter Try.func22, Try.ntmps22
    go_wp2_with fail
    refine hop.mono ?_
    rintro e w1 ⟨a1, n1, c1, rfl, Y1, b1⟩
    have hg := pgather_any Y1 (by rw [Y1.len.1]; exact HOL.out)
    rw [HP.out, HE1.out, HE2.out] at hg
    have HB1 := hide (HQ.out.trans (b1.mono HQ.out.size))
    have HR1 := hide (HR.out.below b1)
    have hsz : w.heap.size < w1.heap.size := HR1.out.lt
    have HSZ := hide hsz
    clear hop Y1 b1 HQ HR hsz
    go_wp2_with fail
    refine hg.mono ?_
    rintro e w2 ⟨a2, n2, c2, rfl, Y2, b2⟩
    have HB2 := hide (HB1.out.trans (b2.mono HB1.out.size))
    have HR2 := hide (HR1.out.below b2)
    have HY2 := hide Y2
    have hl := Y2.len.1.symm
    clear hg Y2 b2 HB1 HR1
    obtain ⟨k, s, b, i, r, zs2⟩ := P
    dsimp only at HY2 hl
    by_cases hE : E1 = 0
    · subst hE
      have Q0 := below_new w2 (.cells #[.int .i64 k, .int .i64 s, .int .i64 b, .int .i64 i, .int .i64 r, .slice a2 n2 c2] 24)
      have Q1 := below_new (w2.alloc (.cells #[.int .i64 k, .int .i64 s, .int .i64 b, .int .i64 i, .int .i64 r, .slice a2 n2 c2] 24)) (.cells #[.int .i64 0, .int .i64 E2] 62)
      have Q := Q0.trans (Q1.mono Q0.size)
      have HB3 := hide (HB2.out.trans (Q.mono HB2.out.size))
      have HR3 := hide (HR2.out.below Q)
      have HP3 := hide ((Box.new w2 (.cells #[.int .i64 k, .int .i64 s, .int .i64 b, .int .i64 i, .int .i64 r, .slice a2 n2 c2] 24)).below Q1)
      have HY3 := hide (HY2.out.below Q)
      have hck := pcheck_any k s b i r a2 n2 c2 zs2 hl ((w2.alloc (.cells #[.int .i64 k, .int .i64 s, .int .i64 b, .int .i64 i, .int .i64 r, .slice a2 n2 c2] 24)).alloc (.cells #[.int .i64 0, .int .i64 E2] 62))
      clear hl Q0 Q1 Q HB2 HR2 HY2
      by_cases hM : May ⟨k, s, b, i, r, zs2⟩
      · rw [checkP_yes hM] at hck
        obtain ⟨rfl, rfl⟩ := Prod.mk.inj ((if_pos ⟨rfl, hM⟩).symm.trans HA.out)
        clear hM HA
        go_wp2_with fail
        refine hck.mono ?_
        rintro e w4 ⟨rfl, b4⟩
        have HB4 := hide (HB3.out.trans (b4.mono HB3.out.size))
        have HR4 := hide (HR3.out.below b4)
        have HP4 := hide (HP3.out.below b4)
        have HY4 := hide (HY3.out.below b4)
        obtain ⟨g0, g1, g2, g3, g4, g5⟩ := six_of HR4.out
        obtain ⟨f0, f1, f2, f3, f4, f5⟩ := six_frozen HR4.out
        obtain ⟨k0, k1, k2, k3, k4, k5⟩ := six_of HP4.out
        clear hck b4
        go_wp2
        clear g0 g1 g2 g3 g4 g5 f0 f1 f2 f3 f4 f5 k0 k1 k2 k3 k4 k5
        refine bodyPost_ret (v := .tuple #[.agg #[.int .i64 k, .int .i64 s, .int .i64 b, .int .i64 i, .int .i64 r, .slice a2 n2 c2], .int .i64 0]) ?_ rfl ?_
        · obtain ⟨g0, g1, g2, g3, g4, g5⟩ := six_of (box_put6 HR4.out (.int .i64 k) (.int .i64 s) (.int .i64 b) (.int .i64 i) (.int .i64 r) (.slice a2 n2 c2))
          unfold put6 at g0 g1 g2 g3 g4 g5
          simp [results, Try.f22, go_sem, g0, g1, g2, g3, g4, g5]
        · exact ⟨a2, n2, c2, rfl, (byt_put6 HY4.out HSZ.out _ _ _ _ _ _).mono (Nat.le_of_lt HSZ.out), below_put6 HB4.out HB4.out.size (Nat.le_refl _) HB4.out.size _ _ _ _ _ _⟩
      · rw [checkP_no hM] at hck
        obtain ⟨rfl, rfl⟩ := Prod.mk.inj ((if_neg (fun h => hM h.2)).symm.trans HA.out)
        clear hM HA
        go_wp2_with fail
        refine hck.mono ?_
        rintro e w4 ⟨rfl, b4⟩
        have HB4 := hide (HB3.out.trans (b4.mono HB3.out.size))
        have HR4 := hide (HR3.out.below b4)
        have HP4 := hide (HP3.out.below b4)
        have HY4 := hide (HY3.out.below b4)
        obtain ⟨g0, g1, g2, g3, g4, g5⟩ := six_of HR4.out
        obtain ⟨f0, f1, f2, f3, f4, f5⟩ := six_frozen HR4.out
        clear hck b4
        go_wp2
        clear g0 g1 g2 g3 g4 g5 f0 f1 f2 f3 f4 f5
        refine bodyPost_ret (v := .tuple #[.agg #[.int .i64 0, .int .i64 0, .int .i64 0, .int .i64 0, .int .i64 0, .slice none 0 0], .int .i64 6]) ?_ rfl ?_
        · obtain ⟨g0, g1, g2, g3, g4, g5⟩ := six_of (box_put6 HR4.out (.int .i64 0) (.int .i64 0) (.int .i64 0) (.int .i64 0) (.int .i64 0) (.slice none 0 0))
          unfold put6 at g0 g1 g2 g3 g4 g5
          simp [results, Try.f22, go_sem, g0, g1, g2, g3, g4, g5]
        · exact pksaid_zero rfl (below_put6 HB4.out HB4.out.size (Nat.le_refl _) HB4.out.size _ _ _ _ _ _)
    · obtain ⟨rfl, rfl⟩ := Prod.mk.inj ((if_neg (fun h => hE h.1)).symm.trans HA.out)
      have hEb : (E1 == 0) = false := beq_eq_false_iff_ne.2 hE
      have Q0 := below_new w2 (.cells #[.int .i64 k, .int .i64 s, .int .i64 b, .int .i64 i, .int .i64 r, .slice a2 n2 c2] 24)
      have Q1 := below_new (w2.alloc (.cells #[.int .i64 k, .int .i64 s, .int .i64 b, .int .i64 i, .int .i64 r, .slice a2 n2 c2] 24)) (.cells #[.int .i64 E1, .int .i64 E2] 62)
      have Q := Q0.trans (Q1.mono Q0.size)
      have HB4 := hide (HB2.out.trans (Q.mono HB2.out.size))
      have HR4 := hide (HR2.out.below Q)
      obtain ⟨g0, g1, g2, g3, g4, g5⟩ := six_of HR4.out
      obtain ⟨f0, f1, f2, f3, f4, f5⟩ := six_frozen HR4.out
      clear hl Q0 Q1 Q HA
      go_wp2
      clear g0 g1 g2 g3 g4 g5 f0 f1 f2 f3 f4 f5
      refine bodyPost_ret (v := .tuple #[.agg #[.int .i64 0, .int .i64 0, .int .i64 0, .int .i64 0, .int .i64 0, .slice none 0 0], .int .i64 6]) ?_ rfl ?_
      · obtain ⟨g0, g1, g2, g3, g4, g5⟩ := six_of (box_put6 HR4.out (.int .i64 0) (.int .i64 0) (.int .i64 0) (.int .i64 0) (.int .i64 0) (.slice none 0 0))
        unfold put6 at g0 g1 g2 g3 g4 g5
        simp [results, Try.f22, go_sem, g0, g1, g2, g3, g4, g5]
      · exact pksaid_zero rfl (below_put6 HB4.out HB4.out.size (Nat.le_refl _) HB4.out.size _ _ _ _ _ _)
  · rw [if_neg h0]
    have hb0 : (oe == 0) = false := beq_eq_false_iff_ne.2 h0
    clear hol hoo hn
    go_enter Try.func22, Try.ntmps22
    go_wp2_with fail
    refine hop.mono ?_
    rintro e w1 ⟨a1, n1, c1, rfl, Y1, b1⟩
    have HB1 := hide (HQ.out.trans (b1.mono HQ.out.size))
    have HR1 := hide (HR.out.below b1)
    obtain ⟨g0, g1, g2, g3, g4, g5⟩ := six_of (HR.out.below b1)
    obtain ⟨f0, f1, f2, f3, f4, f5⟩ := six_frozen (HR.out.below b1)
    clear hop Y1 b1
    go_wp2
    clear g0 g1 g2 g3 g4 g5 f0 f1 f2 f3 f4 f5
    refine bodyPost_ret (v := .tuple #[.agg #[.int .i64 0, .int .i64 0, .int .i64 0, .int .i64 0, .int .i64 0, .slice none 0 0], .int .i64 oe]) ?_ rfl ?_
    · obtain ⟨g0, g1, g2, g3, g4, g5⟩ := six_of (box_put6 HR1.out (.int .i64 0) (.int .i64 0) (.int .i64 0) (.int .i64 0) (.int .i64 0) (.slice none 0 0))
      unfold put6 at g0 g1 g2 g3 g4 g5
      simp [results, Try.f22, go_sem, g0, g1, g2, g3, g4, g5]
    · exact pksaid_zero rfl (below_put6 HB1.out HB1.out.size (Nat.le_refl _) HB1.out.size _ _ _ _ _ _)
def PV.v (p : PV) (a : Option Addr) (c : Nat) : Value := .agg #[.int .i64 p.k, .int .i64 p.s, .int .i64 p.b, .int .i64 p.i, .int .i64 p.r, .slice a p.zs.length c]
def samePV (p q : PV) : Bool := decide (p.k = q.k) && (decide (p.s = q.s) && (decide (p.b = q.b) && (decide (p.i = q.i) && (decide (p.r = q.r) && decide (p.zs = q.zs)))))
theorem samePV_iff (p q : PV) : samePV p q = true ↔ p = q := by
  obtain ⟨k, s, b, i, r, zs⟩ := p
  obtain ⟨k', s', b', i', r', zs'⟩ := q
  simp [samePV]
theorem samePV_self (p : PV) : samePV p p = true := (samePV_iff p p).2 rfl
set_option maxRecDepth 100000 in
set_option maxHeartbeats 2000000 in
theorem samepk_any (k s b i r k' s' b' i' r' : Int) (a a' : Option Addr) (n c n' c' lo lo' : Nat) (xs ys : List Int) (w : World) (X : Byt lo w (.slice a n c) xs) (Y : Byt lo' w (.slice a' n' c') ys) :
    Calls Try.prog 24 #[.agg #[.int .i64 k, .int .i64 s, .int .i64 b, .int .i64 i, .int .i64 r, .slice a n c], .agg #[.int .i64 k', .int .i64 s', .int .i64 b', .int .i64 i', .int .i64 r', .slice a' n' c']] w fun e w' => e = .returned (.bool (samePV ⟨k, s, b, i, r, xs⟩ ⟨k', s', b', i', r', ys⟩)) ∧ Below w.heap.size w w' := by
  have Q1 := below_new w (.cells #[.int .i64 k, .int .i64 s, .int .i64 b, .int .i64 i, .int .i64 r, .slice a n c] 24)
  have Q2 := below_new (w.alloc (.cells #[.int .i64 k, .int .i64 s, .int .i64 b, .int .i64 i, .int .i64 r, .slice a n c] 24)) (.cells #[.int .i64 k', .int .i64 s', .int .i64 b', .int .i64 i', .int .i64 r', .slice a' n' c'] 24)
  have QQ := Q1.trans (Q2.mono Q1.size)
  have HB := hide QQ
  have hsb := sameb_any (X.below QQ) (Y.below QQ)
  unfold samePV
  dsimp only
  clear Q1 Q2 QQ X Y
  by_cases hk : k = k'
  · subst hk
    by_cases hs : s = s'
    · subst hs
      by_cases hb : b = b'
      · subst hb
        by_cases hi : i = i'
        · subst hi
          by_cases hr : r = r'
          · subst hr
            obtain ⟨d, hd⟩ : ∃ d, decide (xs = ys) = d := ⟨_, rfl⟩
            rw [hd] at hsb ⊢
            clear hd
            go_enter Try.func24, Try.ntmps24
            go_wp2_with fail
            refine hsb.mono ?_
            rintro e w1 ⟨rfl, b1⟩
            have HB1 := hide (HB.out.trans (b1.mono HB.out.size))
            clear hsb b1
            go_wp2
            go_ret
            exact ⟨congrArg (fun z => Ending.returned (.bool z)) (by simp), HB1.out⟩
          · have hbr : (r == r') = false := beq_eq_false_iff_ne.2 hr
            have hdr : decide (r = r') = false := decide_eq_false hr
            rw [hdr]
            clear hdr hr
            go_enter Try.func24, Try.ntmps24
            go_wp2
            go_ret
            exact ⟨congrArg (fun z => Ending.returned (.bool z)) (by simp), HB.out⟩
        · have hbi : (i == i') = false := beq_eq_false_iff_ne.2 hi
          have hdi : decide (i = i') = false := decide_eq_false hi
          rw [hdi]
          clear hdi hi
          go_enter Try.func24, Try.ntmps24
          go_wp2
          go_ret
          exact ⟨congrArg (fun z => Ending.returned (.bool z)) (by simp), HB.out⟩
      · have hbb : (b == b') = false := beq_eq_false_iff_ne.2 hb
        have hdb : decide (b = b') = false := decide_eq_false hb
        rw [hdb]
        clear hdb hb
        go_enter Try.func24, Try.ntmps24
        go_wp2
        go_ret
        exact ⟨congrArg (fun z => Ending.returned (.bool z)) (by simp), HB.out⟩
    · have hbs : (s == s') = false := beq_eq_false_iff_ne.2 hs
      have hds : decide (s = s') = false := decide_eq_false hs
      rw [hds]
      clear hds hs
      go_enter Try.func24, Try.ntmps24
      go_wp2
      go_ret
      exact ⟨congrArg (fun z => Ending.returned (.bool z)) (by simp), HB.out⟩
  · have hbk : (k == k') = false := beq_eq_false_iff_ne.2 hk
    have hdk : decide (k = k') = false := decide_eq_false hk
    rw [hdk]
    clear hdk hk
    go_enter Try.func24, Try.ntmps24
    go_wp2
    go_ret
    exact ⟨congrArg (fun z => Ending.returned (.bool z)) (by simp), HB.out⟩
set_option maxRecDepth 100000 in
set_option maxHeartbeats 2000000 in
theorem puts_yes (k s b i r : Int) (a a' : Option Addr) (n c n' c' lo : Nat) (xs ws : List Int) (w : World) (X : Byt 0 w (.slice a n c) xs) (Y : Byt lo w (.slice a' n' c') ws) (hM : May ⟨k, s, b, i, r, xs⟩) (hb : body ⟨k, s, b, i, r, xs⟩ = ws) :
    Calls Try.prog 25 #[.agg #[.int .i64 k, .int .i64 s, .int .i64 b, .int .i64 i, .int .i64 r, .slice a n c], .slice a' n' c'] w fun e w' => e = .returned (.bool true) ∧ Below w.heap.size w w' := by
  have Q0 := below_new w (.cells #[.int .i64 k, .int .i64 s, .int .i64 b, .int .i64 i, .int .i64 r, .slice a n c] 24)
  have hp := pput_any k s b i r a n c xs (w.alloc (.cells #[.int .i64 k, .int .i64 s, .int .i64 b, .int .i64 i, .int .i64 r, .slice a n c] 24)) (X.below Q0)
  have HQ := hide Q0
  rw [putP_yes hM, hb] at hp
  dsimp only at hp
  have hwl : n' ≤ 100000 := by
    have h1 := body_length ⟨k, s, b, i, r, xs⟩
    have h2 := may_len hM
    rw [hb] at h1
    have h3 := Y.len.1
    unfold bodyLen at h1
    dsimp only at h1
    split at h1 <;> split at h1 <;> split at h1 <;> omega
  have HY := hide Y
  have HW := hide hwl
  have hN := Y.len.1
  clear X Y hM hb Q0
  go_enter Try.func25, Try.ntmps25
  go_wp2_with fail
  refine hp.mono ?_
  rintro e w1 ⟨a1, n1, c1, rfl, Y1, b1⟩
  have hn1 : n1 = n' + 4 := by rw [Y1.len.1, sealL_length, hN]
  have hse := cseal_any (PT.nil w1) nums_cT ((HY.out.below HQ.out).below b1) (by omega)
  have HB1 := hide (HQ.out.trans (b1.mono HQ.out.size))
  have HY1 := hide Y1
  subst hn1
  clear hp Y1 b1 hN
  go_wp2_with fail
  refine hse.mono ?_
  rintro e w2 ⟨a2, c2, rfl, Y2, b2⟩
  have hsa := sameb_yes (HY1.out.below b2) Y2 rfl
  have HB2 := hide (HB1.out.trans (b2.mono HB1.out.size))
  clear hse Y2 b2 HY1 HB1
  go_wp2_with fail
  refine hsa.mono ?_
  rintro e w3 ⟨rfl, b3⟩
  have HB3 := hide (HB2.out.trans (b3.mono HB2.out.size))
  clear hsa b3
  go_wp2
  go_ret
  exact ⟨rfl, HB3.out⟩
set_option maxRecDepth 100000 in
set_option maxHeartbeats 2000000 in
theorem none_yes (want : Int) (a : Option Addr) (n c lo : Nat) (bs : List Int) (w : World) (X : Byt lo w (.slice a n c) bs) (hn : n ≤ 100000) (h : getP bs = (PV.zero, want)) :
    Calls Try.prog 26 #[.int .i64 want, .slice a n c] w fun e w' => e = .returned (.bool true) ∧ Below w.heap.size w w' := by
  have hg := pget_any X hn
  rw [h] at hg
  unfold PkSaid PV.zero at hg
  dsimp only at hg
  clear X hn h
  go_enter Try.func26, Try.ntmps26
  go_wp2_with fail
  refine hg.mono ?_
  rintro e w1 ⟨a1, n1, c1, rfl, Y1, b1⟩
  have Q1 := below_new w1 (.cells #[.int .i64 0, .int .i64 0, .int .i64 0, .int .i64 0, .int .i64 0, .slice a1 n1 c1] 24)
  have hsp := samepk_any 0 0 0 0 0 0 0 0 0 0 a1 none n1 c1 0 0 _ 0 _ _ _ (Y1.below Q1) (Byt.nil 0 _)
  rw [show samePV ⟨0, 0, 0, 0, 0, []⟩ ⟨0, 0, 0, 0, 0, []⟩ = true from samePV_self PV.zero] at hsp
  have HB1 := hide (b1.trans (Q1.mono b1.size))
  clear hg Y1 b1 Q1
  go_wp2_with fail
  refine hsp.mono ?_
  rintro e w2 ⟨rfl, b2⟩
  have HB2 := hide (HB1.out.trans (b2.mono HB1.out.size))
  clear hsp b2
  go_wp2
  go_ret
  exact ⟨rfl, HB2.out⟩
theorem body_done : body ⟨3, 258, 0, 0, 0, []⟩ = [3, 0, 0, 1, 2] := by decide +kernel
set_option maxRecDepth 100000 in
set_option maxHeartbeats 1000000 in
theorem pawake_any (w : World) : Calls Try.prog 9 #[] w fun e w' => e = .returned (.bool true) ∧ Below w.heap.size w w' := by
  have q1 := below_new w (.cells #[.int .i64 3, .int .i64 258, .int .i64 0, .int .i64 0, .int .i64 0, .slice none 0 0] 24)
  have R1 := Box.new w (.cells #[.int .i64 3, .int .i64 258, .int .i64 0, .int .i64 0, .int .i64 0, .slice none 0 0] 24)
  have q2 := below_new (w.alloc (.cells #[.int .i64 3, .int .i64 258, .int .i64 0, .int .i64 0, .int .i64 0, .slice none 0 0] 24)) (.cells #[.int .u8 3, .int .u8 0, .int .u8 0, .int .u8 1, .int .u8 2] 5)
  have y2 := byt_lit (w.alloc (.cells #[.int .i64 3, .int .i64 258, .int .i64 0, .int .i64 0, .int .i64 0, .slice none 0 0] 24)) (w.heap.size + 1) 5 (by simp) [3, 0, 0, 1, 2] (octs_of rfl) rfl #[.int .u8 3, .int .u8 0, .int .u8 0, .int .u8 1, .int .u8 2] rfl
  have hp := puts_yes 3 258 0 0 0 none _ 0 0 5 5 _ [] [3, 0, 0, 1, 2] _ (Byt.nil 0 _) y2 (by decide) body_done
  have HB := hide (q1.trans (q2.mono q1.size))
  have HR := hide (R1.below q2)
  clear q1 q2 R1 y2
  go_enter Try.func9, Try.ntmps9
  go_wp2_with fail
  refine hp.mono ?_
  rintro e w1 ⟨rfl, b1⟩
  have HB1 := hide (HB.out.trans (b1.mono HB.out.size))
  have HR1 := hide (HR.out.below b1)
  clear hp b1 HB HR
  have hz := psize_any 3 258 0 0 0 none 0 0 [] rfl w1
  rw [show sizeP ⟨3, 258, 0, 0, 0, []⟩ = 9 by decide] at hz
  obtain ⟨k0, k1, k2, k3, k4, k5⟩ := six_of HR1.out
  go_wp2_with fail
  refine hz.mono ?_
  rintro e w2 ⟨rfl, b2⟩
  have HB2 := hide (HB1.out.trans (b2.mono HB1.out.size))
  clear hz b2 HB1 HR1 k0 k1 k2 k3 k4 k5
  have hs := psends_any 4 0 0 0 7 none 0 0 [] rfl w2
  rw [show sendsP ⟨4, 0, 0, 0, 7, []⟩ = true by decide] at hs
  go_wp2_with fail
  refine hs.mono ?_
  rintro e w3 ⟨rfl, b3⟩
  have HB3 := hide (HB2.out.trans (b3.mono HB2.out.size))
  clear hs b3 HB2
  have hc := pcheck_any 2 0 0 1 0 none 0 0 [] rfl w3
  rw [show checkP ⟨2, 0, 0, 1, 0, []⟩ = 2 by decide] at hc
  go_wp2_with fail
  refine hc.mono ?_
  rintro e w4 ⟨rfl, b4⟩
  have HB4 := hide (HB3.out.trans (b4.mono HB3.out.size))
  clear hc b4 HB3
  go_wp2
  go_ret
  exact ⟨rfl, HB4.out⟩
theorem getP_turned {ts : List Int} {m : Nat} (ho : Octs ts) (hl : ts.length = m + 4) (h : cReg cT 4294967295 ts ≠ 3736805603) : getP ts = (PV.zero, 8) := by
  unfold getP
  rw [open_turned ho hl h]
  exact if_neg (by decide)
set_option maxRecDepth 100000 in
set_option maxHeartbeats 1000000 in
theorem pturned_stop (k s b i r : Int) (a : Option Addr) (n c : Nat) (zs : List Int) (w : World) (X : Byt 0 w (.slice a n c) zs) (x : Int) (m : Nat) (h : 1000 < n ∨ ¬ May ⟨k, s, b, i, r, zs⟩ ∨ m = 0) :
    Calls Try.prog 8 #[.agg #[.int .i64 k, .int .i64 s, .int .i64 b, .int .i64 i, .int .i64 r, .slice a n c], .int .i64 x, .int .u32 (m : Nat)] w fun e w' => e = .returned (.bool true) ∧ Below w.heap.size w w' := by
  have q1 := below_new w (.cells #[.int .i64 k, .int .i64 s, .int .i64 b, .int .i64 i, .int .i64 r, .slice a n c] 24)
  have R1 := Box.new w (.cells #[.int .i64 k, .int .i64 s, .int .i64 b, .int .i64 i, .int .i64 r, .slice a n c] 24)
  have hk := pawake_any (w.alloc (.cells #[.int .i64 k, .int .i64 s, .int .i64 b, .int .i64 i, .int .i64 r, .slice a n c] 24))
  have HQ := hide q1
  have HR := hide R1
  have HX := hide X
  have hp := fun W (hW : Below w.heap.size w W) => pput_any k s b i r a n c zs W (X.below hW)
  obtain ⟨⟨ys, er⟩, hP⟩ : ∃ q, putP ⟨k, s, b, i, r, zs⟩ = q := ⟨_, rfl⟩
  have herr : ¬ May ⟨k, s, b, i, r, zs⟩ → er = 2 := fun hM => by rw [putP_no hM] at hP; exact (Prod.mk.inj hP).2.symm
  have herr0 : May ⟨k, s, b, i, r, zs⟩ → er = 0 := fun hM => by rw [putP_yes hM] at hP; exact (Prod.mk.inj hP).2.symm
  rw [hP] at hp
  dsimp only at hp
  have HPP := hide hp
  have HE := hide herr
  have HE0 := hide herr0
  have HH := hide h
  clear X hp hP herr herr0 q1 R1 h
  go_enter Try.func8, Try.ntmps8
  go_wp2_with fail
  refine hk.mono ?_
  rintro e w1 ⟨rfl, b1⟩
  have HB1 := hide (HQ.out.trans (b1.mono HQ.out.size))
  have HR1 := hide (HR.out.below b1)
  have hp := HPP.out w1 HB1.out
  obtain ⟨k0, k1, k2, k3, k4, k5⟩ := six_of HR1.out
  clear hk b1 HQ HR HPP
  go_wp2_with fail
  refine hp.mono ?_
  rintro e w2 ⟨a2, n2, c2, rfl, Y2, b2⟩
  have HB2 := hide (HB1.out.trans (b2.mono HB1.out.size))
  clear k0 k1 k2 k3 k4 k5
  obtain ⟨_, _, _, _, _, k5⟩ := six_of (HR1.out.below b2)
  clear hp Y2 b2 HB1 HR1
  by_cases h1 : 1000 < (n : Int)
  · clear HE HE0 HH
    go_wp2
    go_ret
    exact ⟨rfl, HB2.out⟩
  · by_cases hM : May ⟨k, s, b, i, r, zs⟩
    · obtain rfl := HE0.out hM
      have hm0 : m = 0 := by
        rcases HH.out with h | h | h
        · omega
        · exact absurd hM h
        · exact h
      subst hm0
      clear HE HE0 HH hM
      go_wp2
      go_ret
      exact ⟨rfl, HB2.out⟩
    · obtain rfl := HE.out hM
      clear HE HE0 HH hM
      go_wp2
      go_ret
      exact ⟨rfl, HB2.out⟩
set_option maxRecDepth 100000 in
set_option maxHeartbeats 1000000 in
theorem pturned_some (k s b i r : Int) (a : Option Addr) (n c : Nat) (zs : List Int) (w : World) (X : Byt 0 w (.slice a n c) zs) (x : Int) (m : Nat) (hn : n ≤ 1000) (hM : May ⟨k, s, b, i, r, zs⟩) (hm : m < 4294967296) (h0 : m ≠ 0) :
    Calls Try.prog 8 #[.agg #[.int .i64 k, .int .i64 s, .int .i64 b, .int .i64 i, .int .i64 r, .slice a n c], .int .i64 x, .int .u32 (m : Nat)] w fun e w' => e = .returned (.bool true) ∧ Below w.heap.size w w' := by
  have q1 := below_new w (.cells #[.int .i64 k, .int .i64 s, .int .i64 b, .int .i64 i, .int .i64 r, .slice a n c] 24)
  have R1 := Box.new w (.cells #[.int .i64 k, .int .i64 s, .int .i64 b, .int .i64 i, .int .i64 r, .slice a n c] 24)
  have hk := pawake_any (w.alloc (.cells #[.int .i64 k, .int .i64 s, .int .i64 b, .int .i64 i, .int .i64 r, .slice a n c] 24))
  have HQ := hide q1
  have HR := hide R1
  have HO := hide (body_octs (p := ⟨k, s, b, i, r, zs⟩) X.words)
  have hN : (body ⟨k, s, b, i, r, zs⟩).length ≤ 1014 := by
    rw [body_length]
    have := X.len.1
    unfold bodyLen
    dsimp only
    split <;> split <;> split <;> omega
  have hp := fun W (hW : Below w.heap.size w W) => pput_any k s b i r a n c zs W (X.below hW)
  rw [putP_yes hM] at hp
  dsimp only at hp
  obtain ⟨bs, hbs⟩ : ∃ bs, body ⟨k, s, b, i, r, zs⟩ = bs := ⟨_, rfl⟩
  rw [hbs] at hp hN HO
  have HPP := hide hp
  have HN := hide hN
  have hm0 : ((m : Int) == 0) = false := by simpa using h0
  have HM := hide hm
  have HM0 := hide h0
  have h1 : ¬ 1000 < (n : Int) := by omega
  clear X hp q1 R1 hN h0 hbs hM
  go_enter Try.func8, Try.ntmps8
  go_wp2_with fail
  refine hk.mono ?_
  rintro e w1 ⟨rfl, b1⟩
  have HB1 := hide (HQ.out.trans (b1.mono HQ.out.size))
  have HR1 := hide (HR.out.below b1)
  have hp := HPP.out w1 HB1.out
  obtain ⟨k0, k1, k2, k3, k4, k5⟩ := six_of HR1.out
  clear hk b1 HQ HR HPP
  go_wp2_with fail
  refine hp.mono ?_
  rintro e w2 ⟨s1, NN, cs, rfl, S, b2⟩
  have HB2 := hide (HB1.out.trans (b2.mono HB1.out.size))
  clear k0 k1 k2 k3 k4 k5
  obtain ⟨_, _, _, _, _, k5⟩ := six_of (HR1.out.below b2)
  obtain ⟨n', hn'⟩ : ∃ n', NN = n' + 4 := ⟨bs.length, by rw [S.len.1, sealL_length]⟩
  subst hn'
  have hn2 : n' ≤ 1014 := by have h1 := S.len.1; have h2 := HN.out; rw [sealL_length] at h1; omega
  have hlo : w.heap.size ≤ w1.heap.size := HB1.out.size
  have hsl : n' + 4 ≤ 900000 := by omega
  have h4 : ¬ ((n' : Int) + 4 < 4) := by omega
  have hpk := pick_in (8 * (n' : Int) + 1) (by omega) (by omega) x w2
  have hw8 : IntKind.i64.wrap (8 * ((n' : Int) + 4)) = 8 * ((n' : Int) + 4) := by rw [IntKind.wrap_i64]; omega
  have hw9 : IntKind.i64.wrap (8 * ((n' : Int) + 4) - 31) = 8 * (n' : Int) + 1 := by rw [IntKind.wrap_i64]; omega
  have HS := hide S
  have HB := hide HB2.out
  have HLO := hide hlo
  clear hp b2 HB1 HR1 S hlo HB2
  go_wp2_with fail
  refine hpk.mono ?_
  rintro e wp ⟨F, hF, rfl, hwp⟩
  obtain rfl := hwp
  have HR := hide (sealed_start HO.out (n' + 4) F m)
  clear hpk hw8 hw9 k5 h4
  go_wp2
  go_loopw [10] (fun i wr => ∃ (k : Nat) (ts : List Int), k ≤ 32 ∧ i = .int .i64 k ∧ Hid (Byt w1.heap.size wr (.slice s1 (n' + 4) cs) ts) ∧ Hid (cReg cT 4294967295 ts = 3736805603 ^^^ cSn (8 * (n' + 4) - F) (m % 2 ^ k)) ∧ Hid (Below w.heap.size w wr)) (fun i _ => 32 - (intOf i).toNat)
  case atStart => exact ⟨0, _, Nat.zero_le _, rfl, HS, HR, HB⟩
  case round =>
    obtain ⟨k', ts, hk, rfl, HS, HR, HB⟩ := hrel
    by_cases hk32 : k' < 32
    · have hki : (k' : Int) < 32 := by omega
      by_cases hb : m / 2 ^ k' % 2 = 1
      · have hbi : (((m : Int) / 2 ^ k').tmod 2 == 1) = true := by rw [bit_tmod, hb]; rfl
        obtain ⟨K, hK⟩ : ∃ K, F + k' = K := ⟨_, rfl⟩
        have hKw : IntKind.i64.wrap ((F : Int) + (k' : Int)) = (K : Int) := by rw [IntKind.wrap_i64]; omega
        obtain ⟨j, hj⟩ : ∃ j, K / 8 = j := ⟨_, rfl⟩
        obtain ⟨q, hq⟩ : ∃ q, K % 8 = q := ⟨_, rfl⟩
        have hjn : j < n' + 4 := by omega
        have hq8 : q < 8 := by omega
        have hKj : (K : Int) / 8 = (j : Int) := by omega
        have hKq : (K : Int) % 8 = (q : Int) := by omega
        obtain ⟨p, o, rfl, hp, _⟩ := HS.out.row (by omega)
        obtain ⟨c1, f1⟩ := HS.out.cell hjn
        have ho := HS.out.words.getD j
        have hbit := oct_bit hq8
        have hbx := bits_bx ho hbit
        have HS1 := hide (HS.out.set (k := j) (by have := HS.out.len.1; omega) (bx_oct ho hbit))
        have HR1 := hide (turn_one HS.out.words HS.out.len.1.symm (show 8 * j + q = F + k' by omega) hq8 hjn hb HR.out)
        have HB1 := hide ((HB.out.setCell (p := ⟨p, o + j, none⟩) (Nat.le_trans HLO.out hp) (.int .u8 (bx (ts[j]?.getD 0) (2 ^ q)))).drew)
        have hji : (j : Int) < (n' : Int) + 4 := by omega
        generalize ts[j]?.getD 0 = z at *
        obtain ⟨v, hv⟩ : ∃ v, bx z (2 ^ q) = v := ⟨_, rfl⟩
        rw [hv] at hbx HS1 HR1 HB1
        clear hv hb hj hq hK ho hp HS HR HB
        go_wp2_with fail
        go_region
        go_wp2
        exact ⟨⟨k' + 1, _, by omega, by go_num, HS1, HR1, HB1⟩, by simp [intOf]; omega⟩
      · have hbi : (((m : Int) / 2 ^ k').tmod 2 == 1) = false := by rw [bit_tmod, beq_eq_false_iff_ne]; omega
        have HR1 := hide (turn_none hb HR.out)
        clear hb HR
        go_wp2
        exact ⟨⟨k' + 1, ts, by omega, by go_num, HS, HR1, HB⟩, by simp [intOf]; omega⟩
    · obtain rfl : k' = 32 := by omega
      have hcl := none_yes 8 s1 (n' + 4) cs _ ts wr HS.out (by omega) (getP_turned HS.out.words HS.out.len.1.symm (turned_all HM0.out HM.out HR.out))
      clear HS HR
      go_wp2_with fail
      refine hcl.mono ?_
      rintro e wz ⟨rfl, bz⟩
      have HZ := hide (HB.out.trans (bz.mono HB.out.size))
      clear hcl bz
      go_wp2
      go_ret
      exact ⟨rfl, HZ.out⟩
theorem pturned_any {p : PV} {a : Option Addr} {c : Nat} {w : World} (X : Byt 0 w (.slice a p.zs.length c) p.zs) (x : Int) (_ : -9223372036854775808 ≤ x ∧ x ≤ 9223372036854775807) (m : Int) (hm : 0 ≤ m ∧ m < 4294967296) :
    Calls Try.prog 8 #[p.v a c, .int .i64 x, .int .u32 m] w fun e w' => e = .returned (.bool true) ∧ Below w.heap.size w w' := by
  obtain ⟨M, rfl⟩ := Int.eq_ofNat_of_zero_le hm.1
  obtain ⟨k, s, b, i, r, zs⟩ := p
  by_cases h : 1000 < zs.length ∨ ¬ May ⟨k, s, b, i, r, zs⟩ ∨ M = 0
  · exact pturned_stop k s b i r a zs.length c zs w X x M h
  · have hM : May ⟨k, s, b, i, r, zs⟩ := Classical.byContradiction (fun hM => h (.inr (.inl hM)))
    exact pturned_some k s b i r a zs.length c zs w X x M (by omega) hM (by omega) (fun e => h (.inr (.inr e)))
end Go.Proofs.Ytedjicimgalneaa
