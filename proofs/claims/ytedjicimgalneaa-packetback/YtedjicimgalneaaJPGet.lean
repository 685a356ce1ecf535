/-
  Joined: PGet PWords PKnown PAgain PBack.
-/
import Derived.Test.YtedjicimgalneaaPGather
import Derived.Test.YtedjicimgalneaaCWords
import Derived.Test.YtedjicimgalneaaJPParts
import Derived.Test.YtedjicimgalneaaJWiden
import Derived.Test.YtedjicimgalneaaJRMulB
namespace Go.Proofs.Ytedjicimgalneaa
open Go.RowKit
def getP (bs : List Int) : PV × Int := if (openB cT bs).2 = 0 then getX (openB cT bs).1 else (PV.zero, (openB cT bs).2)
def PkSaid (p : PV) (er : Int) (w : World) (e : Ending) (w' : World) : Prop := ∃ (a : Option Addr) (n c : Nat), e = .returned (.tuple #[.agg #[.int .i64 p.k, .int .i64 p.s, .int .i64 p.b, .int .i64 p.i, .int .i64 p.r, .slice a n c], .int .i64 er]) ∧ Byt w.heap.size w' (.slice a n c) p.zs ∧ Below w.heap.size w w'
theorem pksaid_zero {er : Int} {w w' : World} {e : Ending} (h : e = .returned (.tuple #[.agg #[.int .i64 0, .int .i64 0, .int .i64 0, .int .i64 0, .int .i64 0, .slice none 0 0], .int .i64 er])) (hb : Below w.heap.size w w') : PkSaid PV.zero er w e w' := ⟨none, 0, 0, h, Byt.nil _ _, hb⟩
theorem openB_len (f : Nat → Nat) (bs : List Int) : (openB f bs).1.length ≤ bs.length := by
  unfold openB openZ
  split
  · exact Nat.zero_le _
  · split
    · show (bs.take _).length ≤ _
      rw [List.length_take]
      omega
    · exact Nat.zero_le _
theorem openB_octs (f : Nat → Nat) {bs : List Int} (h : Octs bs) : Octs (openB f bs).1 := by
  unfold openB openZ
  split
  · exact Octs.nil
  · split
    · exact h.take _
    · exact Octs.nil
def put6 (W : World) (g : Nat) (u0 u1 u2 u3 u4 u5 : Value) : World := (((((W.setCell ⟨g, 0, none⟩ u0).setCell ⟨g, 1, none⟩ u1).setCell ⟨g, 2, none⟩ u2).setCell ⟨g, 3, none⟩ u3).setCell ⟨g, 4, none⟩ u4).setCell ⟨g, 5, none⟩ u5
theorem box_put6 {W : World} {g : Nat} {v0 v1 v2 v3 v4 v5 : Value} {t : TypeId} (h : Box W g (.cells #[v0, v1, v2, v3, v4, v5] t (0, 0))) (u0 u1 u2 u3 u4 u5 : Value) : Box (put6 W g u0 u1 u2 u3 u4 u5) g (.cells #[u0, u1, u2, u3, u4, u5] t (0, 0)) :=
  (((((h.put1 0 u0).put1 1 u1).put1 2 u2).put1 3 u3).put1 4 u4).put1 5 u5
theorem spared_put6 (W : World) (g : Nat) (u0 u1 u2 u3 u4 u5 : Value) : Spared (fun q => q = g) W (put6 W g u0 u1 u2 u3 u4 u5) :=
  ((((((Spared.refl (fun q => q = g) W).setCell (k := g) rfl 0 u0).setCell (k := g) rfl 1 u1).setCell (k := g) rfl 2 u2).setCell (k := g) rfl 3 u3).setCell (k := g) rfl 4 u4).setCell (k := g) rfl 5 u5
theorem below_put6 {lo g : Nat} {A W : World} (h : Below lo A W) (_ : A.heap.size ≤ W.heap.size) (hg : lo ≤ g) (hl : lo ≤ W.heap.size) (u0 u1 u2 u3 u4 u5 : Value) : Below lo A (put6 W g u0 u1 u2 u3 u4 u5) :=
  h.trans ((spared_put6 W g u0 u1 u2 u3 u4 u5).to_below hl (fun k hk => by rw [hk]; exact hg))
theorem byt_put6 {lo g : Nat} {W : World} {a : Option Addr} {n c : Nat} {zs : List Int} (h : Byt lo W (.slice a n c) zs) (hg : g < lo) (u0 u1 u2 u3 u4 u5 : Value) : Byt lo (put6 W g u0 u1 u2 u3 u4 u5) (.slice a n c) zs :=
  h.keep (spared_put6 W g u0 u1 u2 u3 u4 u5) (fun hz b o e hq => by
    obtain ⟨b', o', e', h1, _⟩ := h.row (by rw [h.len.1]; exact List.length_pos_iff.2 hz)
    rw [e] at e'
    simp only [Option.some.injEq, Addr.mk.injEq] at e'
    omega)
set_option maxRecDepth 100000 in
set_option maxHeartbeats 400000 in
theorem pget_any {lo n c : Nat} {a : Option Addr} {bs : List Int} {w : World} (X : Byt lo w (.slice a n c) bs) (hn : n ≤ 100000) :
    Calls Try.prog 22 #[.slice a n c] w (PkSaid (getP bs).1 (getP bs).2 w) := by
  have q1 := below_new w (.cells #[.int .i64 0, .int .i64 0, .int .i64 0, .int .i64 0, .int .i64 0, .slice none 0 0] 24)
  have R0 := Box.new w (.cells #[.int .i64 0, .int .i64 0, .int .i64 0, .int .i64 0, .int .i64 0, .slice none 0 0] 24)
  have hop := copen_any (PT.nil (w.alloc (.cells #[.int .i64 0, .int .i64 0, .int .i64 0, .int .i64 0, .int .i64 0, .slice none 0 0] 24))) nums_cT (X.below q1) (by omega)
  have hol := openB_len cT bs
  have hoo := openB_octs cT X.words
  rw [← X.len.1] at hol
  unfold getP
  obtain ⟨⟨zs, oe⟩, ho⟩ : ∃ q, openB cT bs = q := ⟨_, rfl⟩
  rw [ho] at hop hol hoo ⊢
  dsimp only at hop hol hoo ⊢
  have HQ := hide q1
  have HR := hide R0
  clear X ho q1 R0
  by_cases h0 : oe = 0
  · subst h0
    rw [if_pos rfl]
    have hgx := gath_getX hoo
    rw [← hgx]
    have HOL := hide (show zs.length ≤ 100000 by omega)
    clear hol hoo hgx hn
    obtain ⟨P, hP⟩ : ∃ P, gathP zs = P := ⟨_, rfl⟩
    obtain ⟨E1, hE1⟩ : ∃ E, (endR zs (gf zs).2).1 = E := ⟨_, rfl⟩
    obtain ⟨E2, hE2⟩ : ∃ E, (endR zs (gf zs).2).2 = E := ⟨_, rfl⟩
    have HP := hide hP
    have HE1 := hide hE1
    have HE2 := hide hE2
    rw [hP, hE1]
    clear hP hE1 hE2
    obtain ⟨⟨p', er'⟩, hans⟩ : ∃ q, (if E1 = 0 ∧ May P then (P, (0 : Int)) else (PV.zero, 6)) = q := ⟨_, rfl⟩
    rw [hans]
    have HA := hide hans
    clear hans
    show Calls Try.prog 22 #[.slice a n c] w (PkSaid p' er' w)
    go_enter Try.func22, Try.ntmps22
    go_wp2_with fail
    refine hop.mono ?_
    rintro e w1 ⟨a1, n1, c1, rfl, Y1, b1⟩
    have hg := pgather_any Y1 (by rw [Y1.len.1]; exact HOL.out)
    rw [HP.out, HE1.out, HE2.out] at hg
    have HB1 := hide (HQ.out.trans (b1.mono HQ.out.size))
    have HR1 := hide (HR.out.below b1)
    have hsz : w.heap.size < w1.heap.size := HR1.out.lt
    have HSZ := hide hsz
    clear hop Y1 b1 HQ HR hsz
    go_wp2_with fail
    refine hg.mono ?_
    rintro e w2 ⟨a2, n2, c2, rfl, Y2, b2⟩
    have HB2 := hide (HB1.out.trans (b2.mono HB1.out.size))
    have HR2 := hide (HR1.out.below b2)
    have HY2 := hide Y2
    have hl := Y2.len.1.symm
    clear hg Y2 b2 HB1 HR1
    obtain ⟨k, s, b, i, r, zs2⟩ := P
    dsimp only at HY2 hl
    by_cases hE : E1 = 0
    · subst hE
      have Q0 := below_new w2 (.cells #[.int .i64 k, .int .i64 s, .int .i64 b, .int .i64 i, .int .i64 r, .slice a2 n2 c2] 24)
      have Q1 := below_new (w2.alloc (.cells #[.int .i64 k, .int .i64 s, .int .i64 b, .int .i64 i, .int .i64 r, .slice a2 n2 c2] 24)) (.cells #[.int .i64 0, .int .i64 E2] 62)
      have Q := Q0.trans (Q1.mono Q0.size)
      have HB3 := hide (HB2.out.trans (Q.mono HB2.out.size))
      have HR3 := hide (HR2.out.below Q)
      have HP3 := hide ((Box.new w2 (.cells #[.int .i64 k, .int .i64 s, .int .i64 b, .int .i64 i, .int .i64 r, .slice a2 n2 c2] 24)).below Q1)
      have HY3 := hide (HY2.out.below Q)
      have hck := pcheck_any k s b i r a2 n2 c2 zs2 hl ((w2.alloc (.cells #[.int .i64 k, .int .i64 s, .int .i64 b, .int .i64 i, .int .i64 r, .slice a2 n2 c2] 24)).alloc (.cells #[.int .i64 0, .int .i64 E2] 62))
      clear hl Q0 Q1 Q HB2 HR2 HY2
      by_cases hM : May ⟨k, s, b, i, r, zs2⟩
      · rw [checkP_yes hM] at hck
        obtain ⟨rfl, rfl⟩ := Prod.mk.inj ((if_pos ⟨rfl, hM⟩).symm.trans HA.out)
        clear hM HA
        go_wp2_with fail
        refine hck.mono ?_
        rintro e w4 ⟨rfl, b4⟩
        have HB4 := hide (HB3.out.trans (b4.mono HB3.out.size))
        have HR4 := hide (HR3.out.below b4)
        have HP4 := hide (HP3.out.below b4)
        have HY4 := hide (HY3.out.below b4)
        obtain ⟨g0, g1, g2, g3, g4, g5⟩ := six_of HR4.out
        obtain ⟨f0, f1, f2, f3, f4, f5⟩ := six_frozen HR4.out
        obtain ⟨k0, k1, k2, k3, k4, k5⟩ := six_of HP4.out
        clear hck b4
        go_wp2
        clear g0 g1 g2 g3 g4 g5 f0 f1 f2 f3 f4 f5 k0 k1 k2 k3 k4 k5
        refine bodyPost_ret (v := .tuple #[.agg #[.int .i64 k, .int .i64 s, .int .i64 b, .int .i64 i, .int .i64 r, .slice a2 n2 c2], .int .i64 0]) ?_ rfl ?_
        · obtain ⟨g0, g1, g2, g3, g4, g5⟩ := six_of (box_put6 HR4.out (.int .i64 k) (.int .i64 s) (.int .i64 b) (.int .i64 i) (.int .i64 r) (.slice a2 n2 c2))
          unfold put6 at g0 g1 g2 g3 g4 g5
          simp [results, Try.f22, go_sem, g0, g1, g2, g3, g4, g5]
        · exact ⟨a2, n2, c2, rfl, (byt_put6 HY4.out HSZ.out _ _ _ _ _ _).mono (Nat.le_of_lt HSZ.out), below_put6 HB4.out HB4.out.size (Nat.le_refl _) HB4.out.size _ _ _ _ _ _⟩
      · rw [checkP_no hM] at hck
        obtain ⟨rfl, rfl⟩ := Prod.mk.inj ((if_neg (fun h => hM h.2)).symm.trans HA.out)
        clear hM HA
        go_wp2_with fail
        refine hck.mono ?_
        rintro e w4 ⟨rfl, b4⟩
        have HB4 := hide (HB3.out.trans (b4.mono HB3.out.size))
        have HR4 := hide (HR3.out.below b4)
        have HP4 := hide (HP3.out.below b4)
        have HY4 := hide (HY3.out.below b4)
        obtain ⟨g0, g1, g2, g3, g4, g5⟩ := six_of HR4.out
        obtain ⟨f0, f1, f2, f3, f4, f5⟩ := six_frozen HR4.out
        clear hck b4
        go_wp2
        clear g0 g1 g2 g3 g4 g5 f0 f1 f2 f3 f4 f5
        refine bodyPost_ret (v := .tuple #[.agg #[.int .i64 0, .int .i64 0, .int .i64 0, .int .i64 0, .int .i64 0, .slice none 0 0], .int .i64 6]) ?_ rfl ?_
        · obtain ⟨g0, g1, g2, g3, g4, g5⟩ := six_of (box_put6 HR4.out (.int .i64 0) (.int .i64 0) (.int .i64 0) (.int .i64 0) (.int .i64 0) (.slice none 0 0))
          unfold put6 at g0 g1 g2 g3 g4 g5
          simp [results, Try.f22, go_sem, g0, g1, g2, g3, g4, g5]
        · exact pksaid_zero rfl (below_put6 HB4.out HB4.out.size (Nat.le_refl _) HB4.out.size _ _ _ _ _ _)
    · obtain ⟨rfl, rfl⟩ := Prod.mk.inj ((if_neg (fun h => hE h.1)).symm.trans HA.out)
      have hEb : (E1 == 0) = false := beq_eq_false_iff_ne.2 hE
      have Q0 := below_new w2 (.cells #[.int .i64 k, .int .i64 s, .int .i64 b, .int .i64 i, .int .i64 r, .slice a2 n2 c2] 24)
      have Q1 := below_new (w2.alloc (.cells #[.int .i64 k, .int .i64 s, .int .i64 b, .int .i64 i, .int .i64 r, .slice a2 n2 c2] 24)) (.cells #[.int .i64 E1, .int .i64 E2] 62)
      have Q := Q0.trans (Q1.mono Q0.size)
      have HB4 := hide (HB2.out.trans (Q.mono HB2.out.size))
      have HR4 := hide (HR2.out.below Q)
      obtain ⟨g0, g1, g2, g3, g4, g5⟩ := six_of HR4.out
      obtain ⟨f0, f1, f2, f3, f4, f5⟩ := six_frozen HR4.out
      clear hl Q0 Q1 Q HA
      go_wp2
      clear g0 g1 g2 g3 g4 g5 f0 f1 f2 f3 f4 f5
      refine bodyPost_ret (v := .tuple #[.agg #[.int .i64 0, .int .i64 0, .int .i64 0, .int .i64 0, .int .i64 0, .slice none 0 0], .int .i64 6]) ?_ rfl ?_
      · obtain ⟨g0, g1, g2, g3, g4, g5⟩ := six_of (box_put6 HR4.out (.int .i64 0) (.int .i64 0) (.int .i64 0) (.int .i64 0) (.int .i64 0) (.slice none 0 0))
        unfold put6 at g0 g1 g2 g3 g4 g5
        simp [results, Try.f22, go_sem, g0, g1, g2, g3, g4, g5]
      · exact pksaid_zero rfl (below_put6 HB4.out HB4.out.size (Nat.le_refl _) HB4.out.size _ _ _ _ _ _)
  · rw [if_neg h0]
    have hb0 : (oe == 0) = false := beq_eq_false_iff_ne.2 h0
    clear hol hoo hn
    go_enter Try.func22, Try.ntmps22
    go_wp2_with fail
    refine hop.mono ?_
    rintro e w1 ⟨a1, n1, c1, rfl, Y1, b1⟩
    have HB1 := hide (HQ.out.trans (b1.mono HQ.out.size))
    have HR1 := hide (HR.out.below b1)
    obtain ⟨g0, g1, g2, g3, g4, g5⟩ := six_of (HR.out.below b1)
    obtain ⟨f0, f1, f2, f3, f4, f5⟩ := six_frozen (HR.out.below b1)
    clear hop Y1 b1
    go_wp2
    clear g0 g1 g2 g3 g4 g5 f0 f1 f2 f3 f4 f5
    refine bodyPost_ret (v := .tuple #[.agg #[.int .i64 0, .int .i64 0, .int .i64 0, .int .i64 0, .int .i64 0, .slice none 0 0], .int .i64 oe]) ?_ rfl ?_
    · obtain ⟨g0, g1, g2, g3, g4, g5⟩ := six_of (box_put6 HR1.out (.int .i64 0) (.int .i64 0) (.int .i64 0) (.int .i64 0) (.int .i64 0) (.slice none 0 0))
      unfold put6 at g0 g1 g2 g3 g4 g5
      simp [results, Try.f22, go_sem, g0, g1, g2, g3, g4, g5]
    · exact pksaid_zero rfl (below_put6 HB1.out HB1.out.size (Nat.le_refl _) HB1.out.size _ _ _ _ _ _)
def PV.v (p : PV) (a : Option Addr) (c : Nat) : Value := .agg #[.int .i64 p.k, .int .i64 p.s, .int .i64 p.b, .int .i64 p.i, .int .i64 p.r, .slice a p.zs.length c]
def samePV (p q : PV) : Bool := decide (p.k = q.k) && (decide (p.s = q.s) && (decide (p.b = q.b) && (decide (p.i = q.i) && (decide (p.r = q.r) && decide (p.zs = q.zs)))))
theorem samePV_iff (p q : PV) : samePV p q = true ↔ p = q := by
  obtain ⟨k, s, b, i, r, zs⟩ := p
  obtain ⟨k', s', b', i', r', zs'⟩ := q
  simp [samePV]
theorem samePV_self (p : PV) : samePV p p = true := (samePV_iff p p).2 rfl
set_option maxRecDepth 100000 in
set_option maxHeartbeats 2000000 in
theorem samepk_any (k s b i r k' s' b' i' r' : Int) (a a' : Option Addr) (n c n' c' lo lo' : Nat) (xs ys : List Int) (w : World) (X : Byt lo w (.slice a n c) xs) (Y : Byt lo' w (.slice a' n' c') ys) :
    Calls Try.prog 24 #[.agg #[.int .i64 k, .int .i64 s, .int .i64 b, .int .i64 i, .int .i64 r, .slice a n c], .agg #[.int .i64 k', .int .i64 s', .int .i64 b', .int .i64 i', .int .i64 r', .slice a' n' c']] w fun e w' => e = .returned (.bool (samePV ⟨k, s, b, i, r, xs⟩ ⟨k', s', b', i', r', ys⟩)) ∧ Below w.heap.size w w' := by
  have Q1 := below_new w (.cells #[.int .i64 k, .int .i64 s, .int .i64 b, .int .i64 i, .int .i64 r, .slice a n c] 24)
  have Q2 := below_new (w.alloc (.cells #[.int .i64 k, .int .i64 s, .int .i64 b, .int .i64 i, .int .i64 r, .slice a n c] 24)) (.cells #[.int .i64 k', .int .i64 s', .int .i64 b', .int .i64 i', .int .i64 r', .slice a' n' c'] 24)
  have QQ := Q1.trans (Q2.mono Q1.size)
  have HB := hide QQ
  have hsb := sameb_any (X.below QQ) (Y.below QQ)
  unfold samePV
  dsimp only
  clear Q1 Q2 QQ X Y
  by_cases hk : k = k'
  · subst hk
    by_cases hs : s = s'
    · subst hs
      by_cases hb : b = b'
      · subst hb
        by_cases hi : i = i'
        · subst hi
          by_cases hr : r = r'
          · subst hr
            obtain ⟨d, hd⟩ : ∃ d, decide (xs = ys) = d := ⟨_, rfl⟩
            rw [hd] at hsb ⊢
            clear hd
            go_enter Try.func24, Try.ntmps24
            go_wp2_with fail
            refine hsb.mono ?_
            rintro e w1 ⟨rfl, b1⟩
            have HB1 := hide (HB.out.trans (b1.mono HB.out.size))
            clear hsb b1
            go_wp2
            go_ret
            exact ⟨congrArg (fun z => Ending.returned (.bool z)) (by simp), HB1.out⟩
          · have hbr : (r == r') = false := beq_eq_false_iff_ne.2 hr
            have hdr : decide (r = r') = false := decide_eq_false hr
            rw [hdr]
            clear hdr hr
            go_enter Try.func24, Try.ntmps24
            go_wp2
            go_ret
            exact ⟨congrArg (fun z => Ending.returned (.bool z)) (by simp), HB.out⟩
        · have hbi : (i == i') = false := beq_eq_false_iff_ne.2 hi
          have hdi : decide (i = i') = false := decide_eq_false hi
          rw [hdi]
          clear hdi hi
          go_enter Try.func24, Try.ntmps24
          go_wp2
          go_ret
          exact ⟨congrArg (fun z => Ending.returned (.bool z)) (by simp), HB.out⟩
      · have hbb : (b == b') = false := beq_eq_false_iff_ne.2 hb
        have hdb : decide (b = b') = false := decide_eq_false hb
        rw [hdb]
        clear hdb hb
        go_enter Try.func24, Try.ntmps24
        go_wp2
        go_ret
        exact ⟨congrArg (fun z => Ending.returned (.bool z)) (by simp), HB.out⟩
    · have hbs : (s == s') = false := beq_eq_false_iff_ne.2 hs
      have hds : decide (s = s') = false := decide_eq_false hs
      rw [hds]
      clear hds hs
      go_enter Try.func24, Try.ntmps24
      go_wp2
      go_ret
      exact ⟨congrArg (fun z => Ending.returned (.bool z)) (by simp), HB.out⟩
  · have hbk : (k == k') = false := beq_eq_false_iff_ne.2 hk
    have hdk : decide (k = k') = false := decide_eq_false hk
    rw [hdk]
    clear hdk hk
    go_enter Try.func24, Try.ntmps24
    go_wp2
    go_ret
    exact ⟨congrArg (fun z => Ending.returned (.bool z)) (by simp), HB.out⟩
set_option maxRecDepth 100000 in
set_option maxHeartbeats 2000000 in
theorem puts_yes (k s b i r : Int) (a a' : Option Addr) (n c n' c' lo : Nat) (xs ws : List Int) (w : World) (X : Byt 0 w (.slice a n c) xs) (Y : Byt lo w (.slice a' n' c') ws) (hM : May ⟨k, s, b, i, r, xs⟩) (hb : body ⟨k, s, b, i, r, xs⟩ = ws) :
    Calls Try.prog 25 #[.agg #[.int .i64 k, .int .i64 s, .int .i64 b, .int .i64 i, .int .i64 r, .slice a n c], .slice a' n' c'] w fun e w' => e = .returned (.bool true) ∧ Below w.heap.size w w' := by
  have Q0 := below_new w (.cells #[.int .i64 k, .int .i64 s, .int .i64 b, .int .i64 i, .int .i64 r, .slice a n c] 24)
  have hp := pput_any k s b i r a n c xs (w.alloc (.cells #[.int .i64 k, .int .i64 s, .int .i64 b, .int .i64 i, .int .i64 r, .slice a n c] 24)) (X.below Q0)
  have HQ := hide Q0
  rw [putP_yes hM, hb] at hp
  dsimp only at hp
  have hwl : n' ≤ 100000 := by
    have h1 := body_length ⟨k, s, b, i, r, xs⟩
    have h2 := may_len hM
    rw [hb] at h1
    have h3 := Y.len.1
    unfold bodyLen at h1
    dsimp only at h1
    split at h1 <;> split at h1 <;> split at h1 <;> omega
  have HY := hide Y
  have HW := hide hwl
  have hN := Y.len.1
  clear X Y hM hb Q0
  go_enter Try.func25, Try.ntmps25
  go_wp2_with fail
  refine hp.mono ?_
  rintro e w1 ⟨a1, n1, c1, rfl, Y1, b1⟩
  have hn1 : n1 = n' + 4 := by rw [Y1.len.1, sealL_length, hN]
  have hse := cseal_any (PT.nil w1) nums_cT ((HY.out.below HQ.out).below b1) (by omega)
  have HB1 := hide (HQ.out.trans (b1.mono HQ.out.size))
  have HY1 := hide Y1
  subst hn1
  clear hp Y1 b1 hN
  go_wp2_with fail
  refine hse.mono ?_
  rintro e w2 ⟨a2, c2, rfl, Y2, b2⟩
  have hsa := sameb_yes (HY1.out.below b2) Y2 rfl
  have HB2 := hide (HB1.out.trans (b2.mono HB1.out.size))
  clear hse Y2 b2 HY1 HB1
  go_wp2_with fail
  refine hsa.mono ?_
  rintro e w3 ⟨rfl, b3⟩
  have HB3 := hide (HB2.out.trans (b3.mono HB2.out.size))
  clear hsa b3
  go_wp2
  go_ret
  exact ⟨rfl, HB3.out⟩
set_option maxRecDepth 100000 in
set_option maxHeartbeats 2000000 in
theorem none_yes (want : Int) (a : Option Addr) (n c lo : Nat) (bs : List Int) (w : World) (X : Byt lo w (.slice a n c) bs) (hn : n ≤ 100000) (h : getP bs = (PV.zero, want)) :
    Calls Try.prog 26 #[.int .i64 want, .slice a n c] w fun e w' => e = .returned (.bool true) ∧ Below w.heap.size w w' := by
  have hg := pget_any X hn
  rw [h] at hg
  unfold PkSaid PV.zero at hg
  dsimp only at hg
  clear X hn h
  go_enter Try.func26, Try.ntmps26
  go_wp2_with fail
  refine hg.mono ?_
  rintro e w1 ⟨a1, n1, c1, rfl, Y1, b1⟩
  have Q1 := below_new w1 (.cells #[.int .i64 0, .int .i64 0, .int .i64 0, .int .i64 0, .int .i64 0, .slice a1 n1 c1] 24)
  have hsp := samepk_any 0 0 0 0 0 0 0 0 0 0 a1 none n1 c1 0 0 _ 0 _ _ _ (Y1.below Q1) (Byt.nil 0 _)
  rw [show samePV ⟨0, 0, 0, 0, 0, []⟩ ⟨0, 0, 0, 0, 0, []⟩ = true from samePV_self PV.zero] at hsp
  have HB1 := hide (b1.trans (Q1.mono b1.size))
  clear hg Y1 b1 Q1
  go_wp2_with fail
  refine hsp.mono ?_
  rintro e w2 ⟨rfl, b2⟩
  have HB2 := hide (HB1.out.trans (b2.mono HB1.out.size))
  clear hsp b2
  go_wp2
  go_ret
  exact ⟨rfl, HB2.out⟩
theorem body_done : body ⟨3, 258, 0, 0, 0, []⟩ = [3, 0, 0, 1, 2] := by decide +kernel
theorem body_data : body ⟨1, 1, 2, 3, 0, [9, 9]⟩ = [1, 0, 0, 0, 1, 0, 0, 0, 2, 0, 0, 0, 3, 9, 9] := by decide +kernel
theorem get_none : getP [] = (PV.zero, 7) := rfl
theorem get_sum : getP [1, 2, 3, 4, 5] = (PV.zero, 8) := by
  have h : openB cT [1, 2, 3, 4, 5] = ([], 8) := by decide +kernel
  unfold getP
  rw [h]
  rfl
set_option maxRecDepth 100000 in
set_option maxHeartbeats 1000000 in
theorem pawake_any (w : World) : Calls Try.prog 9 #[] w fun e w' => e = .returned (.bool true) ∧ Below w.heap.size w w' := by
  have q1 := below_new w (.cells #[.int .i64 3, .int .i64 258, .int .i64 0, .int .i64 0, .int .i64 0, .slice none 0 0] 24)
  have R1 := Box.new w (.cells #[.int .i64 3, .int .i64 258, .int .i64 0, .int .i64 0, .int .i64 0, .slice none 0 0] 24)
  have q2 := below_new (w.alloc (.cells #[.int .i64 3, .int .i64 258, .int .i64 0, .int .i64 0, .int .i64 0, .slice none 0 0] 24)) (.cells #[.int .u8 3, .int .u8 0, .int .u8 0, .int .u8 1, .int .u8 2] 5)
  have y2 := byt_lit (w.alloc (.cells #[.int .i64 3, .int .i64 258, .int .i64 0, .int .i64 0, .int .i64 0, .slice none 0 0] 24)) (w.heap.size + 1) 5 (by simp) [3, 0, 0, 1, 2] (octs_of rfl) rfl #[.int .u8 3, .int .u8 0, .int .u8 0, .int .u8 1, .int .u8 2] rfl
  have hp := puts_yes 3 258 0 0 0 none _ 0 0 5 5 _ [] [3, 0, 0, 1, 2] _ (Byt.nil 0 _) y2 (by decide) body_done
  have HB := hide (q1.trans (q2.mono q1.size))
  have HR := hide (R1.below q2)
  clear q1 q2 R1 y2
  go_enter Try.func9, Try.ntmps9
  go_wp2_with fail
  refine hp.mono ?_
  rintro e w1 ⟨rfl, b1⟩
  have HB1 := hide (HB.out.trans (b1.mono HB.out.size))
  have HR1 := hide (HR.out.below b1)
  clear hp b1 HB HR
  have hz := psize_any 3 258 0 0 0 none 0 0 [] rfl w1
  rw [show sizeP ⟨3, 258, 0, 0, 0, []⟩ = 9 by decide] at hz
  obtain ⟨k0, k1, k2, k3, k4, k5⟩ := six_of HR1.out
  go_wp2_with fail
  refine hz.mono ?_
  rintro e w2 ⟨rfl, b2⟩
  have HB2 := hide (HB1.out.trans (b2.mono HB1.out.size))
  clear hz b2 HB1 HR1 k0 k1 k2 k3 k4 k5
  have hs := psends_any 4 0 0 0 7 none 0 0 [] rfl w2
  rw [show sendsP ⟨4, 0, 0, 0, 7, []⟩ = true by decide] at hs
  go_wp2_with fail
  refine hs.mono ?_
  rintro e w3 ⟨rfl, b3⟩
  have HB3 := hide (HB2.out.trans (b3.mono HB2.out.size))
  clear hs b3 HB2
  have hc := pcheck_any 2 0 0 1 0 none 0 0 [] rfl w3
  rw [show checkP ⟨2, 0, 0, 1, 0, []⟩ = 2 by decide] at hc
  go_wp2_with fail
  refine hc.mono ?_
  rintro e w4 ⟨rfl, b4⟩
  have HB4 := hide (HB3.out.trans (b4.mono HB3.out.size))
  clear hc b4 HB3
  go_wp2
  go_ret
  exact ⟨rfl, HB4.out⟩
set_option maxRecDepth 100000 in
set_option maxHeartbeats 1000000 in
theorem pknown_any (w : World) : Calls Try.prog 5 #[] w fun e w' => e = .returned (.bool true) ∧ Below w.heap.size w w' := by
  have q1 := below_new w (.cells #[.int .u8 9, .int .u8 9] 5)
  have y1 := byt_lit w w.heap.size 2 rfl [9, 9] (octs_of rfl) rfl #[.int .u8 9, .int .u8 9] rfl
  have q2 := below_new (w.alloc (.cells #[.int .u8 9, .int .u8 9] 5)) (.cells #[.int .i64 1, .int .i64 1, .int .i64 2, .int .i64 3, .int .i64 0, .slice (some ⟨w.heap.size, 0, none⟩) 2 2] 24)
  have R2 := Box.put (w := w.alloc (.cells #[.int .u8 9, .int .u8 9] 5)) (k := w.heap.size + 1) (.cells #[.int .i64 1, .int .i64 1, .int .i64 2, .int .i64 3, .int .i64 0, .slice (some ⟨w.heap.size, 0, none⟩) 2 2] 24) (by simp)
  have y2 := y1.below q2
  have HB := hide (q1.trans (q2.mono q1.size))
  have HR := hide R2
  have HY := hide y2
  have ha := pawake_any ((w.alloc (.cells #[.int .u8 9, .int .u8 9] 5)).alloc (.cells #[.int .i64 1, .int .i64 1, .int .i64 2, .int .i64 3, .int .i64 0, .slice (some ⟨w.heap.size, 0, none⟩) 2 2] 24))
  clear q1 y1 q2 R2 y2
  go_enter Try.func5, Try.ntmps5
  go_wp2_with fail
  refine ha.mono ?_
  rintro e w1 ⟨rfl, b1⟩
  have q3 := below_new w1 (.cells #[.int .u8 1, .int .u8 0, .int .u8 0, .int .u8 0, .int .u8 1, .int .u8 0, .int .u8 0, .int .u8 0, .int .u8 2, .int .u8 0, .int .u8 0, .int .u8 0, .int .u8 3, .int .u8 9, .int .u8 9] 5)
  have y3 := byt_lit w1 w1.heap.size 15 rfl [1, 0, 0, 0, 1, 0, 0, 0, 2, 0, 0, 0, 3, 9, 9] (octs_of rfl) rfl #[.int .u8 1, .int .u8 0, .int .u8 0, .int .u8 0, .int .u8 1, .int .u8 0, .int .u8 0, .int .u8 0, .int .u8 2, .int .u8 0, .int .u8 0, .int .u8 0, .int .u8 3, .int .u8 9, .int .u8 9] rfl
  have hp := puts_yes 1 1 2 3 0 (some ⟨w.heap.size, 0, none⟩) _ 2 2 15 15 _ [9, 9] [1, 0, 0, 0, 1, 0, 0, 0, 2, 0, 0, 0, 3, 9, 9] _ (((HY.out.below b1).below q3).mono (Nat.zero_le _)) y3 (by decide) body_data
  obtain ⟨k0, k1, k2, k3, k4, k5⟩ := six_of (HR.out.below b1)
  have HB1 := hide (HB.out.trans (b1.mono HB.out.size))
  have HB2 := hide (HB1.out.trans (q3.mono HB1.out.size))
  clear ha b1 q3 y3 HB HR HY HB1
  go_wp2_with fail
  refine hp.mono ?_
  rintro e w2 ⟨rfl, b2⟩
  have HB3 := hide (HB2.out.trans (b2.mono HB2.out.size))
  clear hp b2 HB2 k0 k1 k2 k3 k4 k5
  have hc := pcheck_any 4 0 0 0 0 none 0 0 [] rfl w2
  rw [show checkP ⟨4, 0, 0, 0, 0, []⟩ = 2 by decide] at hc
  go_wp2_with fail
  refine hc.mono ?_
  rintro e w3 ⟨rfl, b3⟩
  have HB4 := hide (HB3.out.trans (b3.mono HB3.out.size))
  clear hc b3 HB3
  have hc := pcheck_any 5 0 0 0 0 none 0 0 [] rfl w3
  rw [show checkP ⟨5, 0, 0, 0, 0, []⟩ = 2 by decide] at hc
  go_wp2_with fail
  refine hc.mono ?_
  rintro e w4 ⟨rfl, b4⟩
  have HB5 := hide (HB4.out.trans (b4.mono HB4.out.size))
  clear hc b4 HB4
  have hn := none_yes 7 none 0 0 0 [] w4 (Byt.nil 0 _) (by omega) get_none
  go_wp2_with fail
  refine hn.mono ?_
  rintro e w5 ⟨rfl, b5⟩
  have HB6 := hide (HB5.out.trans (b5.mono HB5.out.size))
  clear hn b5 HB5
  have q6 := below_new w5 (.cells #[.int .u8 1, .int .u8 2, .int .u8 3, .int .u8 4, .int .u8 5] 5)
  have y6 := byt_lit w5 w5.heap.size 5 rfl [1, 2, 3, 4, 5] (octs_of rfl) rfl #[.int .u8 1, .int .u8 2, .int .u8 3, .int .u8 4, .int .u8 5] rfl
  have hn := none_yes 8 (some ⟨w5.heap.size, 0, none⟩) 5 5 _ [1, 2, 3, 4, 5] _ y6 (by omega) get_sum
  have HB7 := hide (HB6.out.trans (q6.mono HB6.out.size))
  clear q6 y6 HB6
  go_wp2_with fail
  refine hn.mono ?_
  rintro e w6 ⟨rfl, b6⟩
  have HB8 := hide (HB7.out.trans (b6.mono HB7.out.size))
  clear hn b6 HB7
  have hs := psends_any 4 0 0 0 8 none 0 0 [] rfl w6
  rw [show sendsP ⟨4, 0, 0, 0, 8, []⟩ = false by decide] at hs
  go_wp2_with fail
  refine hs.mono ?_
  rintro e w7 ⟨rfl, b7⟩
  have HB9 := hide (HB8.out.trans (b7.mono HB8.out.size))
  clear hs b7 HB8
  have hs := psends_any 3 0 0 0 0 none 0 0 [] rfl w7
  rw [show sendsP ⟨3, 0, 0, 0, 0, []⟩ = false by decide] at hs
  go_wp2_with fail
  refine hs.mono ?_
  rintro e w8 ⟨rfl, b8⟩
  have HBA := hide (HB9.out.trans (b8.mono HB9.out.size))
  clear hs b8 HB9
  go_wp2
  go_ret
  exact ⟨rfl, HBA.out⟩
end Go.Proofs.Ytedjicimgalneaa
namespace Go.Proofs.Ytedjicimgalneaa
open Go.RowKit
end Go.Proofs.Ytedjicimgalneaa
namespace Go.Proofs.Ytedjicimgalneaa
open Go.RowKit
theorem getP_seal {p : PV} (h : May p) : getP (sealL (body p)) = (p, 0) := by
  unfold getP sealL
  rw [openB_sealed]
  dsimp only
  rw [if_pos rfl]
  exact getX_body h
theorem seal_same {p q : PV} (hp : May p) (hq : May q) : decide (sealL (body p) = sealL (body q)) = samePV p q := by
  rw [Bool.eq_iff_iff, decide_eq_true_iff, samePV_iff]
  constructor
  · intro h
    have h1 := getP_seal hp
    rw [h, getP_seal hq] at h1
    exact (Prod.mk.inj h1).1.symm
  · intro h
    rw [h]
theorem putP_err (p : PV) : (putP p).2 = checkP p := by
  by_cases h : May p
  · rw [putP_yes h, checkP_yes h]
  · rw [putP_no h, checkP_no h]
set_option maxRecDepth 100000 in
set_option maxHeartbeats 1000000 in
theorem pback_long (k s b i r k' s' b' i' r' : Int) (a a' : Option Addr) (n c n' c' : Nat) (w : World) (h : 3000 < n ∨ 3000 < n') :
    Calls Try.prog 6 #[.agg #[.int .i64 k, .int .i64 s, .int .i64 b, .int .i64 i, .int .i64 r, .slice a n c], .agg #[.int .i64 k', .int .i64 s', .int .i64 b', .int .i64 i', .int .i64 r', .slice a' n' c']] w fun e w' => e = .returned (.bool true) ∧ Below w.heap.size w w' := by
  have q1 := below_new w (.cells #[.int .i64 k, .int .i64 s, .int .i64 b, .int .i64 i, .int .i64 r, .slice a n c] 24)
  have q2 := below_new (w.alloc (.cells #[.int .i64 k, .int .i64 s, .int .i64 b, .int .i64 i, .int .i64 r, .slice a n c] 24)) (.cells #[.int .i64 k', .int .i64 s', .int .i64 b', .int .i64 i', .int .i64 r', .slice a' n' c'] 24)
  have R1 := (Box.new w (.cells #[.int .i64 k, .int .i64 s, .int .i64 b, .int .i64 i, .int .i64 r, .slice a n c] 24)).below q2
  have R2 := Box.put (w := w.alloc (.cells #[.int .i64 k, .int .i64 s, .int .i64 b, .int .i64 i, .int .i64 r, .slice a n c] 24)) (k := w.heap.size + 1) (.cells #[.int .i64 k', .int .i64 s', .int .i64 b', .int .i64 i', .int .i64 r', .slice a' n' c'] 24) (by simp)
  have hk := pknown_any ((w.alloc (.cells #[.int .i64 k, .int .i64 s, .int .i64 b, .int .i64 i, .int .i64 r, .slice a n c] 24)).alloc (.cells #[.int .i64 k', .int .i64 s', .int .i64 b', .int .i64 i', .int .i64 r', .slice a' n' c'] 24))
  have HQ := hide (q1.trans (q2.mono q1.size))
  have HR1 := hide R1
  have HR2 := hide R2
  clear q1 q2 R1 R2
  by_cases h1 : 3000 < (n : Int)
  · clear h
    go_enter Try.func6, Try.ntmps6
    go_wp2_with fail
    refine hk.mono ?_
    rintro e w1 ⟨rfl, b1⟩
    have HB1 := hide (HQ.out.trans (b1.mono HQ.out.size))
    obtain ⟨_, _, _, _, _, k5⟩ := six_of (HR1.out.below b1)
    clear hk b1
    go_wp2
    go_ret
    exact ⟨rfl, HB1.out⟩
  · have h2 : 3000 < (n' : Int) := by omega
    clear h
    go_enter Try.func6, Try.ntmps6
    go_wp2_with fail
    refine hk.mono ?_
    rintro e w1 ⟨rfl, b1⟩
    have HB1 := hide (HQ.out.trans (b1.mono HQ.out.size))
    obtain ⟨_, _, _, _, _, k5⟩ := six_of (HR1.out.below b1)
    obtain ⟨_, _, _, _, _, j5⟩ := six_of (HR2.out.below b1)
    clear hk b1
    go_wp2
    go_ret
    exact ⟨rfl, HB1.out⟩
set_option maxRecDepth 100000 in
set_option maxHeartbeats 2000000 in
theorem pback_short (k s b i r k' s' b' i' r' : Int) (a a' : Option Addr) (n c n' c' : Nat) (xs ys : List Int) (w : World) (X : Byt 0 w (.slice a n c) xs) (Y : Byt 0 w (.slice a' n' c') ys) (hn : n ≤ 3000) (hn' : n' ≤ 3000) :
    Calls Try.prog 6 #[.agg #[.int .i64 k, .int .i64 s, .int .i64 b, .int .i64 i, .int .i64 r, .slice a n c], .agg #[.int .i64 k', .int .i64 s', .int .i64 b', .int .i64 i', .int .i64 r', .slice a' n' c']] w fun e w' => e = .returned (.bool true) ∧ Below w.heap.size w w' := by
  have q1 := below_new w (.cells #[.int .i64 k, .int .i64 s, .int .i64 b, .int .i64 i, .int .i64 r, .slice a n c] 24)
  have q2 := below_new (w.alloc (.cells #[.int .i64 k, .int .i64 s, .int .i64 b, .int .i64 i, .int .i64 r, .slice a n c] 24)) (.cells #[.int .i64 k', .int .i64 s', .int .i64 b', .int .i64 i', .int .i64 r', .slice a' n' c'] 24)
  have R1 := (Box.new w (.cells #[.int .i64 k, .int .i64 s, .int .i64 b, .int .i64 i, .int .i64 r, .slice a n c] 24)).below q2
  have R2 := Box.put (w := w.alloc (.cells #[.int .i64 k, .int .i64 s, .int .i64 b, .int .i64 i, .int .i64 r, .slice a n c] 24)) (k := w.heap.size + 1) (.cells #[.int .i64 k', .int .i64 s', .int .i64 b', .int .i64 i', .int .i64 r', .slice a' n' c'] 24) (by simp)
  have hk := pknown_any ((w.alloc (.cells #[.int .i64 k, .int .i64 s, .int .i64 b, .int .i64 i, .int .i64 r, .slice a n c] 24)).alloc (.cells #[.int .i64 k', .int .i64 s', .int .i64 b', .int .i64 i', .int .i64 r', .slice a' n' c'] 24))
  have HQ := hide (q1.trans (q2.mono q1.size))
  have HR1 := hide R1
  have HR2 := hide R2
  have HX := hide X
  have HXQ := hide Y
  have HN := hide X.len.1.symm
  have HNQ := hide Y.len.1.symm
  have h1 : ¬ 3000 < (n : Int) := by omega
  have h2 : ¬ 3000 < (n' : Int) := by omega
  have HH := hide hn
  clear q1 q2 R1 R2 X Y hn hn'
  go_enter Try.func6, Try.ntmps6
  go_wp2_with fail
  refine hk.mono ?_
  rintro e w1 ⟨rfl, b1⟩
  have HB1 := hide (HQ.out.trans (b1.mono HQ.out.size))
  have HA1 := hide (HR1.out.below b1)
  have HA2 := hide (HR2.out.below b1)
  obtain ⟨k0, k1, k2, k3, k4, k5⟩ := six_of HA1.out
  obtain ⟨_, _, _, _, _, j5⟩ := six_of HA2.out
  have hp := pput_any k s b i r a n c xs w1 (HX.out.below HB1.out)
  obtain ⟨ep, hep⟩ : ∃ z, (putP ⟨k, s, b, i, r, xs⟩).2 = z := ⟨_, rfl⟩
  obtain ⟨bp, hbp⟩ : ∃ z, (putP ⟨k, s, b, i, r, xs⟩).1 = z := ⟨_, rfl⟩
  rw [hep, hbp] at hp
  have HEP := hide hep
  have HBP := hide hbp
  clear hk b1 hep hbp HR1 HR2 HQ
  go_wp2_with fail
  refine hp.mono ?_
  rintro e w2 ⟨a2, n2, c2, rfl, Y2, b2⟩
  have HB2 := hide (HB1.out.trans (b2.mono HB1.out.size))
  have HC1 := hide (HA1.out.below b2)
  have HC2 := hide (HA2.out.below b2)
  clear k0 k1 k2 k3 k4 k5 j5
  obtain ⟨k0, k1, k2, k3, k4, k5⟩ := six_of HC2.out
  have hq := pput_any k' s' b' i' r' a' n' c' ys w2 (HXQ.out.below HB2.out)
  obtain ⟨eq, heq⟩ : ∃ z, (putP ⟨k', s', b', i', r', ys⟩).2 = z := ⟨_, rfl⟩
  obtain ⟨bq, hbq⟩ : ∃ z, (putP ⟨k', s', b', i', r', ys⟩).1 = z := ⟨_, rfl⟩
  rw [heq, hbq] at hq
  have HEQ := hide heq
  have HBQ := hide hbq
  have HY2' := hide Y2
  clear hp Y2 b2 heq hbq HA1 HA2 HB1
  go_wp2_with fail
  refine hq.mono ?_
  rintro e w3 ⟨a3, n3, c3, rfl, Y3, b3⟩
  have HB3 := hide (HB2.out.trans (b3.mono HB2.out.size))
  have HD1 := hide (HC1.out.below b3)
  have HD2 := hide (HC2.out.below b3)
  have HY2'' := hide (HY2'.out.below b3)
  have HY3' := hide Y3
  clear hq Y3 b3 HC1 HC2 HB2 HY2' k0 k1 k2 k3 k4 k5
  by_cases hM : May ⟨k, s, b, i, r, xs⟩ ∧ May ⟨k', s', b', i', r', ys⟩
  · have hep0 : ep = 0 := by rw [← HEP.out, putP_yes hM.1]
    have heq0 : eq = 0 := by rw [← HEQ.out, putP_yes hM.2]
    subst hep0 heq0
    have hbp1 : bp = sealL (body ⟨k, s, b, i, r, xs⟩) := by rw [← HBP.out, putP_yes hM.1]
    have hbq1 : bq = sealL (body ⟨k', s', b', i', r', ys⟩) := by rw [← HBQ.out, putP_yes hM.2]
    have hgp : getP bp = (⟨k, s, b, i, r, xs⟩, 0) := by rw [hbp1]; exact getP_seal hM.1
    have hdd : decide (bp = bq) = samePV ⟨k, s, b, i, r, xs⟩ ⟨k', s', b', i', r', ys⟩ := by rw [hbp1, hbq1]; exact seal_same hM.1 hM.2
    have hsz : sizeP ⟨k, s, b, i, r, xs⟩ = (n2 : Int) := by rw [← putP_size, HBP.out, HY2''.out.len.1]
    have hn2 : n2 ≤ 70000 := by
      have e1 := HY2''.out.len.1
      rw [hbp1, sealL_length, body_length] at e1
      have e2 := may_len hM.1
      unfold bodyLen at e1
      dsimp only at e1
      split at e1 <;> split at e1 <;> split at e1 <;> omega
    have hg := pget_any HY2''.out (by omega)
    rw [hgp] at hg
    obtain ⟨d, hd⟩ : ∃ d, decide (bp = bq) = d := ⟨_, rfl⟩
    have HD := hide hd
    have HDD := hide (hdd.symm.trans hd)
    have HZ := hide hsz
    clear hM hbp1 hbq1 hgp hdd hsz hn2 hd HEP HBP HEQ HBQ
    go_wp2_with fail
    refine hg.mono ?_
    rintro e w4 ⟨a4, n4, c4, rfl, Y4, b4⟩
    have K4 := below_new w4 (.cells #[.int .i64 k, .int .i64 s, .int .i64 b, .int .i64 i, .int .i64 r, .slice a4 n4 c4] 24)
    have BB := b4.trans (K4.mono b4.size)
    obtain ⟨w5, hw5⟩ : ∃ w5, w4.alloc (.cells #[.int .i64 k, .int .i64 s, .int .i64 b, .int .i64 i, .int .i64 r, .slice a4 n4 c4] 24) = w5 := ⟨_, rfl⟩
    have HB5 := hide (HB3.out.trans (BB.mono HB3.out.size))
    have HE1 := hide (HD1.out.below BB)
    have HE2 := hide (HD2.out.below BB)
    have HE3 := hide (Box.new w4 (.cells #[.int .i64 k, .int .i64 s, .int .i64 b, .int .i64 i, .int .i64 r, .slice a4 n4 c4] 24))
    have HY2 := hide (HY2''.out.below BB)
    have HY3 := hide (HY3'.out.below BB)
    have HY4 := hide (Y4.below K4)
    rw [hw5] at HB5 HE1 HE2 HE3 HY2 HY3 HY4
    have mkS : ∀ W : World, Below w5.heap.size w5 W → (W.cell? ⟨w.heap.size, 0, none⟩ = some (.int .i64 k) ∧ W.cell? ⟨w.heap.size, 1, none⟩ = some (.int .i64 s) ∧ W.cell? ⟨w.heap.size, 2, none⟩ = some (.int .i64 b) ∧ W.cell? ⟨w.heap.size, 3, none⟩ = some (.int .i64 i) ∧ W.cell? ⟨w.heap.size, 4, none⟩ = some (.int .i64 r) ∧ W.cell? ⟨w.heap.size, 5, none⟩ = some (.slice a n c) ∧ W.cell? ⟨w.heap.size + 1, 0, none⟩ = some (.int .i64 k') ∧ W.cell? ⟨w.heap.size + 1, 1, none⟩ = some (.int .i64 s') ∧ W.cell? ⟨w.heap.size + 1, 2, none⟩ = some (.int .i64 b') ∧ W.cell? ⟨w.heap.size + 1, 3, none⟩ = some (.int .i64 i') ∧ W.cell? ⟨w.heap.size + 1, 4, none⟩ = some (.int .i64 r') ∧ W.cell? ⟨w.heap.size + 1, 5, none⟩ = some (.slice a' n' c') ∧ W.cell? ⟨w4.heap.size, 0, none⟩ = some (.int .i64 k) ∧ W.cell? ⟨w4.heap.size, 1, none⟩ = some (.int .i64 s) ∧ W.cell? ⟨w4.heap.size, 2, none⟩ = some (.int .i64 b) ∧ W.cell? ⟨w4.heap.size, 3, none⟩ = some (.int .i64 i) ∧ W.cell? ⟨w4.heap.size, 4, none⟩ = some (.int .i64 r) ∧ W.cell? ⟨w4.heap.size, 5, none⟩ = some (.slice a4 n4 c4)) := fun W hW => ⟨(six_of (HE1.out.below hW)).1, (six_of (HE1.out.below hW)).2.1, (six_of (HE1.out.below hW)).2.2.1, (six_of (HE1.out.below hW)).2.2.2.1, (six_of (HE1.out.below hW)).2.2.2.2.1, (six_of (HE1.out.below hW)).2.2.2.2.2, (six_of (HE2.out.below hW)).1, (six_of (HE2.out.below hW)).2.1, (six_of (HE2.out.below hW)).2.2.1, (six_of (HE2.out.below hW)).2.2.2.1, (six_of (HE2.out.below hW)).2.2.2.2.1, (six_of (HE2.out.below hW)).2.2.2.2.2, (six_of (HE3.out.below hW)).1, (six_of (HE3.out.below hW)).2.1, (six_of (HE3.out.below hW)).2.2.1, (six_of (HE3.out.below hW)).2.2.2.1, (six_of (HE3.out.below hW)).2.2.2.2.1, (six_of (HE3.out.below hW)).2.2.2.2.2⟩
    have HW : Below w5.heap.size w5 w5.drew := (Below.refl _ w5).drew
    have hS := mkS w5.drew HW
    have t0 : Hid True := trivial
    clear hg Y4 b4 K4 BB HD1 HD2 HB3 HY2'' HY3'
    go_wp2_with fail
    go_region_held3 (fun V : World => V.cell? ⟨w.heap.size, 0, none⟩ = some (.int .i64 k) ∧ V.cell? ⟨w.heap.size, 1, none⟩ = some (.int .i64 s) ∧ V.cell? ⟨w.heap.size, 2, none⟩ = some (.int .i64 b) ∧ V.cell? ⟨w.heap.size, 3, none⟩ = some (.int .i64 i) ∧ V.cell? ⟨w.heap.size, 4, none⟩ = some (.int .i64 r) ∧ V.cell? ⟨w.heap.size, 5, none⟩ = some (.slice a n c) ∧ V.cell? ⟨w.heap.size + 1, 0, none⟩ = some (.int .i64 k') ∧ V.cell? ⟨w.heap.size + 1, 1, none⟩ = some (.int .i64 s') ∧ V.cell? ⟨w.heap.size + 1, 2, none⟩ = some (.int .i64 b') ∧ V.cell? ⟨w.heap.size + 1, 3, none⟩ = some (.int .i64 i') ∧ V.cell? ⟨w.heap.size + 1, 4, none⟩ = some (.int .i64 r') ∧ V.cell? ⟨w.heap.size + 1, 5, none⟩ = some (.slice a' n' c') ∧ V.cell? ⟨w4.heap.size, 0, none⟩ = some (.int .i64 k) ∧ V.cell? ⟨w4.heap.size, 1, none⟩ = some (.int .i64 s) ∧ V.cell? ⟨w4.heap.size, 2, none⟩ = some (.int .i64 b) ∧ V.cell? ⟨w4.heap.size, 3, none⟩ = some (.int .i64 i) ∧ V.cell? ⟨w4.heap.size, 4, none⟩ = some (.int .i64 r) ∧ V.cell? ⟨w4.heap.size, 5, none⟩ = some (.slice a4 n4 c4)) (exact hS)
      (first
      | (clear t0
         go_at_call 24
         have hcon := samepk_any k s b i r k s b i r a4 a n4 c4 n c _ _ xs xs w5.drew (HY4.out.below HW) (HX.out.below (HB5.out.trans (HW.mono HB5.out.size)))
         rw [samePV_self] at hcon
         refine hcon.mono ?_
         rintro e u0 ⟨rfl, hb⟩
         have HW2 := HW.trans (hb.mono HW.size)
         clear HW hcon hb
         have HW := HW2
         clear HW2
         replace hS := mkS _ HW
         have t1 : Hid True := trivial)
      | (clear t1
         go_at_call 13
         have hcon := sameb_any (HY2.out.below HW) (HY3.out.below HW)
         rw [HD.out] at hcon
         refine hcon.mono ?_
         rintro e u1 ⟨rfl, hb⟩
         have HW2 := HW.trans (hb.mono HW.size)
         clear HW hcon hb
         have HW := HW2
         clear HW2
         replace hS := mkS _ HW
         have t2 : Hid True := trivial)
      | (clear t2
         go_at_call 24
         have hcon := samepk_any k s b i r k' s' b' i' r' a a' n c n' c' 0 0 xs ys u1 (HX.out.below (HB5.out.trans (HW.mono HB5.out.size))) (HXQ.out.below (HB5.out.trans (HW.mono HB5.out.size)))
         rw [HDD.out] at hcon
         refine hcon.mono ?_
         rintro e u2 ⟨rfl, hb⟩
         have HW2 := HW.trans (hb.mono HW.size)
         clear HW hcon hb
         have HW := HW2
         clear HW2
         replace hS := mkS _ HW
         have t3 : Hid True := trivial)
      | (clear t3
         go_at_call 16
         have hcon := psize_any k s b i r a n c xs HN.out u2
         rw [HZ.out] at hcon
         refine hcon.mono ?_
         rintro e u3 ⟨rfl, hb⟩
         have HW2 := HW.trans (hb.mono HW.size)
         clear HW hcon hb
         have HW := HW2
         clear HW2
         replace hS := mkS _ HW
         have t4 : Hid True := trivial))
    all_goals
      have HB9 := hide (HB5.out.trans (HW.mono HB5.out.size))
      clear HW hS mkS t4
      go_wp2
      go_ret
      exact ⟨congrArg (fun z => Ending.returned (.bool z)) (by simp), HB9.out⟩
  · have hcp := fun W => pcheck_any k s b i r a n c xs HN.out W
    have hcq := fun W => pcheck_any k' s' b' i' r' a' n' c' ys HNQ.out W
    rw [← putP_err, HEP.out] at hcp
    rw [← putP_err, HEQ.out] at hcq
    have hne : ep = 2 ∨ ep = 0 ∧ eq = 2 := by
      by_cases h : May ⟨k, s, b, i, r, xs⟩
      · right
        refine ⟨by rw [← HEP.out, putP_yes h], ?_⟩
        rw [← HEQ.out, putP_no (fun h' => hM ⟨h, h'⟩)]
      · left
        rw [← HEP.out, putP_no h]
    have HCP := hide hcp
    have HCQ := hide hcq
    clear hM hcp hcq HEP HBP HEQ HBQ HY2'' HY3'
    have hc := HCP.out w3
    obtain ⟨k0, k1, k2, k3, k4, k5⟩ := six_of HD1.out
    rcases hne with rfl | ⟨rfl, rfl⟩
    all_goals
      go_wp2_with fail
      refine hc.mono ?_
      rintro e w4 ⟨rfl, b4⟩
      have HB4 := hide (HB3.out.trans (b4.mono HB3.out.size))
      have hc := HCQ.out w4
      clear k0 k1 k2 k3 k4 k5
      obtain ⟨k0, k1, k2, k3, k4, k5⟩ := six_of (HD2.out.below b4)
      clear b4
      go_wp2_with fail
      refine hc.mono ?_
      rintro e w5 ⟨rfl, b5⟩
      have HB5 := hide (HB4.out.trans (b5.mono HB4.out.size))
      clear b5
      go_wp2
      go_ret
      exact ⟨congrArg (fun z => Ending.returned (.bool z)) (by simp), HB5.out⟩
theorem pback_any {p q : PV} {a a' : Option Addr} {c c' : Nat} {w : World} (X : Byt 0 w (.slice a p.zs.length c) p.zs) (Y : Byt 0 w (.slice a' q.zs.length c') q.zs) :
    Calls Try.prog 6 #[p.v a c, q.v a' c'] w fun e w' => e = .returned (.bool true) ∧ Below w.heap.size w w' := by
  obtain ⟨k, s, b, i, r, xs⟩ := p
  obtain ⟨k', s', b', i', r', ys⟩ := q
  by_cases h : 3000 < xs.length ∨ 3000 < ys.length
  · exact pback_long k s b i r k' s' b' i' r' a a' xs.length c ys.length c' w h
  · exact pback_short k s b i r k' s' b' i' r' a a' xs.length c ys.length c' xs ys w X Y (by omega) (by omega)
end Go.Proofs.Ytedjicimgalneaa
