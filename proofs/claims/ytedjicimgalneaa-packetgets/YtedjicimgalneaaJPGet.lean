/-
  Joined: PGet PHGet PWords PKnown PGets.
-/
import Derived.Test.YtedjicimgalneaaJPPut
import Derived.Test.YtedjicimgalneaaCWords
import Derived.Test.YtedjicimgalneaaJPParts
import Derived.Test.YtedjicimgalneaaJWiden
import Derived.Test.YtedjicimgalneaaJRMulB
import Derived.Test.YtedjicimgalneaaJCTab
namespace Go.Proofs.Ytedjicimgalneaa
open Go.RowKit
def getP (bs : List Int) : PV × Int := if (openB cT bs).2 = 0 then getX (openB cT bs).1 else (PV.zero, (openB cT bs).2)
def PkSaid (p : PV) (er : Int) (w : World) (e : Ending) (w' : World) : Prop := ∃ (a : Option Addr) (n c : Nat), e = .returned (.tuple #[.agg #[.int .i64 p.k, .int .i64 p.s, .int .i64 p.b, .int .i64 p.i, .int .i64 p.r, .slice a n c], .int .i64 er]) ∧ Byt w.heap.size w' (.slice a n c) p.zs ∧ Below w.heap.size w w'
theorem pksaid_zero {er : Int} {w w' : World} {e : Ending} (h : e = .returned (.tuple #[.agg #[.int .i64 0, .int .i64 0, .int .i64 0, .int .i64 0, .int .i64 0, .slice none 0 0], .int .i64 er])) (hb : Below w.heap.size w w') : PkSaid PV.zero er w e w' := ⟨none, 0, 0, h, Byt.nil _ _, hb⟩
theorem openB_len (f : Nat → Nat) (bs : List Int) : (openB f bs).1.length ≤ bs.length := by
  unfold openB openZ
  split
  · exact Nat.zero_le _
  · split
    · show (bs.take _).length ≤ _
      rw [List.length_take]
      omega
    · exact Nat.zero_le _
theorem openB_octs (f : Nat → Nat) {bs : List Int} (h : Octs bs) : Octs (openB f bs).1 := by
  unfold openB openZ
  split
  · exact Octs.nil
  · split
    · exact h.take _
    · exact Octs.nil
def put6 (W : World) (g : Nat) (u0 u1 u2 u3 u4 u5 : Value) : World := (((((W.setCell ⟨g, 0, none⟩ u0).setCell ⟨g, 1, none⟩ u1).setCell ⟨g, 2, none⟩ u2).setCell ⟨g, 3, none⟩ u3).setCell ⟨g, 4, none⟩ u4).setCell ⟨g, 5, none⟩ u5
theorem box_put6 {W : World} {g : Nat} {v0 v1 v2 v3 v4 v5 : Value} {t : TypeId} (h : Box W g (.cells #[v0, v1, v2, v3, v4, v5] t (0, 0))) (u0 u1 u2 u3 u4 u5 : Value) : Box (put6 W g u0 u1 u2 u3 u4 u5) g (.cells #[u0, u1, u2, u3, u4, u5] t (0, 0)) :=
  (((((h.put1 0 u0).put1 1 u1).put1 2 u2).put1 3 u3).put1 4 u4).put1 5 u5
theorem spared_put6 (W : World) (g : Nat) (u0 u1 u2 u3 u4 u5 : Value) : Spared (fun q => q = g) W (put6 W g u0 u1 u2 u3 u4 u5) :=
  ((((((Spared.refl (fun q => q = g) W).setCell (k := g) rfl 0 u0).setCell (k := g) rfl 1 u1).setCell (k := g) rfl 2 u2).setCell (k := g) rfl 3 u3).setCell (k := g) rfl 4 u4).setCell (k := g) rfl 5 u5
theorem below_put6 {lo g : Nat} {A W : World} (h : Below lo A W) (_ : A.heap.size ≤ W.heap.size) (hg : lo ≤ g) (hl : lo ≤ W.heap.size) (u0 u1 u2 u3 u4 u5 : Value) : Below lo A (put6 W g u0 u1 u2 u3 u4 u5) :=
  h.trans ((spared_put6 W g u0 u1 u2 u3 u4 u5).to_below hl (fun k hk => by rw [hk]; exact hg))
theorem byt_put6 {lo g : Nat} {W : World} {a : Option Addr} {n c : Nat} {zs : List Int} (h : Byt lo W (.slice a n c) zs) (hg : g < lo) (u0 u1 u2 u3 u4 u5 : Value) : Byt lo (put6 W g u0 u1 u2 u3 u4 u5) (.slice a n c) zs :=
  h.keep (spared_put6 W g u0 u1 u2 u3 u4 u5) (fun hz b o e hq => by
    obtain ⟨b', o', e', h1, _⟩ := h.row (by rw [h.len.1]; exact List.length_pos_iff.2 hz)
    rw [e] at e'
    simp only [Option.some.injEq, Addr.mk.injEq] at e'
    omega)
set_option maxRecDepth 100000 in
set_option maxHeartbeats 400000 in
theorem pget_any {lo n c : Nat} {a : Option Addr} {bs : List Int} {w : World} (X : Byt lo w (.slice a n c) bs) (hn : n ≤ 100000) :
    Calls Try.prog 22 #[.slice a n c] w (PkSaid (getP bs).1 (getP bs).2 w) := by
  have q1 := below_new w (.cells #[.int .i64 0, .int .i64 0, .int .i64 0, .int .i64 0, .int .i64 0, .slice none 0 0] 24)
  have R0 := Box.new w (.cells #[.int .i64 0, .int .i64 0, .int .i64 0, .int .i64 0, .int .i64 0, .slice none 0 0] 24)
  have hop := copen_any (PT.nil (w.alloc (.cells #[.int .i64 0, .int .i64 0, .int .i64 0, .int .i64 0, .int .i64 0, .slice none 0 0] 24))) nums_cT (X.below q1) (by omega)
  have hol := openB_len cT bs
  have hoo := openB_octs cT X.words
  rw [← X.len.1] at hol
  unfold getP
  obtain ⟨⟨zs, oe⟩, ho⟩ : ∃ q, openB cT bs = q := ⟨_, rfl⟩
  rw [ho] at hop hol hoo ⊢
  dsimp only at hop hol hoo ⊢
  have HQ := hide q1
  have HR := hide R0
  clear X ho q1 R0
  by_cases h0 : oe = 0
  · subst h0
    rw [if_pos rfl]
    have hgx := gath_getX hoo
    rw [← hgx]
    have HOL := hide (show zs.length ≤ 100000 by omega)
    clear hol hoo hgx hn
    obtain ⟨P, hP⟩ : ∃ P, gathP zs = P := ⟨_, rfl⟩
    obtain ⟨E1, hE1⟩ : ∃ E, (endR zs (gf zs).2).1 = E := ⟨_, rfl⟩
    obtain ⟨E2, hE2⟩ : ∃ E, (endR zs (gf zs).2).2 = E := ⟨_, rfl⟩
    have HP := hide hP
    have HE1 := hide hE1
    have HE2 := hide hE2
    rw [hP, hE1]
    clear hP hE1 hE2
    obtain ⟨⟨p', er'⟩, hans⟩ : ∃ q, (if E1 = 0 ∧ May P then (P, (0 : Int)) else (PV.zero, 6)) = q := ⟨_, rfl⟩
    rw [hans]
    have HA := hide hans
    clear hans
    show Calls Try.prog 22 #[.slice a n c] w (PkSaid p' er' w)
    go_enter Try.func22, Try.ntmps22
    go_wp2_with fail
    refine hop.mono ?_
    rintro e w1 ⟨a1, n1, c1, rfl, Y1, b1⟩
    have hg := pgather_any Y1 (by rw [Y1.len.1]; exact HOL.out)
    rw [HP.out, HE1.out, HE2.out] at hg
    have HB1 := hide (HQ.out.trans (b1.mono HQ.out.size))
    have HR1 := hide (HR.out.below b1)
    have hsz : w.heap.size < w1.heap.size := HR1.out.lt
    have HSZ := hide hsz
    clear hop Y1 b1 HQ HR hsz
    go_wp2_with fail
    refine hg.mono ?_
    rintro e w2 ⟨a2, n2, c2, rfl, Y2, b2⟩
    have HB2 := hide (HB1.out.trans (b2.mono HB1.out.size))
    have HR2 := hide (HR1.out.below b2)
    have HY2 := hide Y2
    have hl := Y2.len.1.symm
    clear hg Y2 b2 HB1 HR1
    obtain ⟨k, s, b, i, r, zs2⟩ := P
    dsimp only at HY2 hl
    by_cases hE : E1 = 0
    · subst hE
      have Q0 := below_new w2 (.cells #[.int .i64 k, .int .i64 s, .int .i64 b, .int .i64 i, .int .i64 r, .slice a2 n2 c2] 24)
      have Q1 := below_new (w2.alloc (.cells #[.int .i64 k, .int .i64 s, .int .i64 b, .int .i64 i, .int .i64 r, .slice a2 n2 c2] 24)) (.cells #[.int .i64 0, .int .i64 E2] 62)
      have Q := Q0.trans (Q1.mono Q0.size)
      have HB3 := hide (HB2.out.trans (Q.mono HB2.out.size))
      have HR3 := hide (HR2.out.below Q)
      have HP3 := hide ((Box.new w2 (.cells #[.int .i64 k, .int .i64 s, .int .i64 b, .int .i64 i, .int .i64 r, .slice a2 n2 c2] 24)).below Q1)
      have HY3 := hide (HY2.out.below Q)
      have hck := pcheck_any k s b i r a2 n2 c2 zs2 hl ((w2.alloc (.cells #[.int .i64 k, .int .i64 s, .int .i64 b, .int .i64 i, .int .i64 r, .slice a2 n2 c2] 24)).alloc (.cells #[.int .i64 0, .int .i64 E2] 62))
      clear hl Q0 Q1 Q HB2 HR2 HY2
      by_cases hM : May ⟨k, s, b, i, r, zs2⟩
      · rw [checkP_yes hM] at hck
        obtain ⟨rfl, rfl⟩ := Prod.mk.inj ((if_pos ⟨rfl, hM⟩).symm.trans HA.out)
        clear hM HA
        go_wp2_with fail
        refine hck.mono ?_
        rintro e w4 ⟨rfl, b4⟩
        have HB4 := hide (HB3.out.trans (b4.mono HB3.out.size))
        have HR4 := hide (HR3.out.below b4)
        have HP4 := hide (HP3.out.below b4)
        have HY4 := hide (HY3.out.below b4)
        obtain ⟨g0, g1, g2, g3, g4, g5⟩ := six_of HR4.out
        obtain ⟨f0, f1, f2, f3, f4, f5⟩ := six_frozen HR4.out
        obtain ⟨k0, k1, k2, k3, k4, k5⟩ := six_of HP4.out
        clear hck b4
        go_wp2
        clear g0 g1 g2 g3 g4 g5 f0 f1 f2 f3 f4 f5 k0 k1 k2 k3 k4 k5
        refine bodyPost_ret (v := .tuple #[.agg #[.int .i64 k, .int .i64 s, .int .i64 b, .int .i64 i, .int .i64 r, .slice a2 n2 c2], .int .i64 0]) ?_ rfl ?_
        · obtain ⟨g0, g1, g2, g3, g4, g5⟩ := six_of (box_put6 HR4.out (.int .i64 k) (.int .i64 s) (.int .i64 b) (.int .i64 i) (.int .i64 r) (.slice a2 n2 c2))
          unfold put6 at g0 g1 g2 g3 g4 g5
          simp [results, Try.f22, go_sem, g0, g1, g2, g3, g4, g5]
        · exact ⟨a2, n2, c2, rfl, (byt_put6 HY4.out HSZ.out _ _ _ _ _ _).mono (Nat.le_of_lt HSZ.out), below_put6 HB4.out HB4.out.size (Nat.le_refl _) HB4.out.size _ _ _ _ _ _⟩
      · rw [checkP_no hM] at hck
        obtain ⟨rfl, rfl⟩ := Prod.mk.inj ((if_neg (fun h => hM h.2)).symm.trans HA.out)
        clear hM HA
        go_wp2_with fail
        refine hck.mono ?_
        rintro e w4 ⟨rfl, b4⟩
        have HB4 := hide (HB3.out.trans (b4.mono HB3.out.size))
        have HR4 := hide (HR3.out.below b4)
        have HP4 := hide (HP3.out.below b4)
        have HY4 := hide (HY3.out.below b4)
        obtain ⟨g0, g1, g2, g3, g4, g5⟩ := six_of HR4.out
        obtain ⟨f0, f1, f2, f3, f4, f5⟩ := six_frozen HR4.out
        clear hck b4
        go_wp2
        clear g0 g1 g2 g3 g4 g5 f0 f1 f2 f3 f4 f5
        refine bodyPost_ret (v := .tuple #[.agg #[.int .i64 0, .int .i64 0, .int .i64 0, .int .i64 0, .int .i64 0, .slice none 0 0], .int .i64 6]) ?_ rfl ?_
        · obtain ⟨g0, g1, g2, g3, g4, g5⟩ := six_of (box_put6 HR4.out (.int .i64 0) (.int .i64 0) (.int .i64 0) (.int .i64 0) (.int .i64 0) (.slice none 0 0))
          unfold put6 at g0 g1 g2 g3 g4 g5
          simp [results, Try.f22, go_sem, g0, g1, g2, g3, g4, g5]
        · exact pksaid_zero rfl (below_put6 HB4.out HB4.out.size (Nat.le_refl _) HB4.out.size _ _ _ _ _ _)
    · obtain ⟨rfl, rfl⟩ := Prod.mk.inj ((if_neg (fun h => hE h.1)).symm.trans HA.out)
      have hEb : (E1 == 0) = false := beq_eq_false_iff_ne.2 hE
      have Q0 := below_new w2 (.cells #[.int .i64 k, .int .i64 s, .int .i64 b, .int .i64 i, .int .i64 r, .slice a2 n2 c2] 24)
      have Q1 := below_new (w2.alloc (.cells #[.int .i64 k, .int .i64 s, .int .i64 b, .int .i64 i, .int .i64 r, .slice a2 n2 c2] 24)) (.cells #[.int .i64 E1, .int .i64 E2] 62)
      have Q := Q0.trans (Q1.mono Q0.size)
      have HB4 := hide (HB2.out.trans (Q.mono HB2.out.size))
      have HR4 := hide (HR2.out.below Q)
      obtain ⟨g0, g1, g2, g3, g4, g5⟩ := six_of HR4.out
      obtain ⟨f0, f1, f2, f3, f4, f5⟩ := six_frozen HR4.out
      clear hl Q0 Q1 Q HA
      go_wp2
      clear g0 g1 g2 g3 g4 g5 f0 f1 f2 f3 f4 f5
      refine bodyPost_ret (v := .tuple #[.agg #[.int .i64 0, .int .i64 0, .int .i64 0, .int .i64 0, .int .i64 0, .slice none 0 0], .int .i64 6]) ?_ rfl ?_
      · obtain ⟨g0, g1, g2, g3, g4, g5⟩ := six_of (box_put6 HR4.out (.int .i64 0) (.int .i64 0) (.int .i64 0) (.int .i64 0) (.int .i64 0) (.slice none 0 0))
        unfold put6 at g0 g1 g2 g3 g4 g5
        simp [results, Try.f22, go_sem, g0, g1, g2, g3, g4, g5]
      · exact pksaid_zero rfl (below_put6 HB4.out HB4.out.size (Nat.le_refl _) HB4.out.size _ _ _ _ _ _)
  · rw [if_neg h0]
    have hb0 : (oe == 0) = false := beq_eq_false_iff_ne.2 h0
    clear hol hoo hn
    go_enter Try.func22, Try.ntmps22
    go_wp2_with fail
    refine hop.mono ?_
    rintro e w1 ⟨a1, n1, c1, rfl, Y1, b1⟩
    have HB1 := hide (HQ.out.trans (b1.mono HQ.out.size))
    have HR1 := hide (HR.out.below b1)
    obtain ⟨g0, g1, g2, g3, g4, g5⟩ := six_of (HR.out.below b1)
    obtain ⟨f0, f1, f2, f3, f4, f5⟩ := six_frozen (HR.out.below b1)
    clear hop Y1 b1
    go_wp2
    clear g0 g1 g2 g3 g4 g5 f0 f1 f2 f3 f4 f5
    refine bodyPost_ret (v := .tuple #[.agg #[.int .i64 0, .int .i64 0, .int .i64 0, .int .i64 0, .int .i64 0, .slice none 0 0], .int .i64 oe]) ?_ rfl ?_
    · obtain ⟨g0, g1, g2, g3, g4, g5⟩ := six_of (box_put6 HR1.out (.int .i64 0) (.int .i64 0) (.int .i64 0) (.int .i64 0) (.int .i64 0) (.slice none 0 0))
      unfold put6 at g0 g1 g2 g3 g4 g5
      simp [results, Try.f22, go_sem, g0, g1, g2, g3, g4, g5]
    · exact pksaid_zero rfl (below_put6 HB1.out HB1.out.size (Nat.le_refl _) HB1.out.size _ _ _ _ _ _)
theorem size_put (W : World) (a : Addr) (v : Value) : (W.setCell a v).heap.size = W.heap.size := by simp [World.setCell]
theorem tk_len (bs : List Int) : (tk bs).2.1.length ≤ bs.length := by
  by_cases h : bs.length < 4
  · rw [tk_short h]; exact Nat.zero_le _
  · rw [tk_long h]
    show (bs.drop 4).length ≤ _
    rw [List.length_drop]
    omega
structure Hat (w V : World) (F : Nat) (cs : Array Value) : Prop where
  res0 : Box V w.heap.size (.cells #[.int .i64 0, .int .i64 0, .int .i64 0, .int .i64 0, .int .i64 0, .slice none 0 0] 24)
  pk : Box V F (.cells cs 24)
  below : Below w.heap.size w V
  hF : w.heap.size < F
theorem Hat.below' {w V V' : World} {F : Nat} {cs : Array Value} (H : Hat w V F cs) (hb : Below V.heap.size V V') : Hat w V' F cs := ⟨H.res0.below hb, H.pk.below hb, H.below.trans (hb.mono H.below.size), H.hF⟩
theorem Hat.belowlo {w V V' : World} {F : Nat} {cs : Array Value} (H : Hat w V F cs) (hb : Below V.heap.size V V') : Hat w V' F cs := H.below' hb
theorem Hat.put {w V : World} {F : Nat} {cs : Array Value} (H : Hat w V F cs) (i : Nat) (v : Value) : Hat w (V.setCell ⟨F, i, none⟩ v) F (cs.setIfInBounds i v) :=
  ⟨H.res0.aside i v (by have := H.hF; omega), H.pk.put1 i v, H.below.setCell (p := ⟨F, i, none⟩) (Nat.le_of_lt H.hF) v, H.hF⟩
theorem byt_aside {lo F n c : Nat} {W : World} {a : Option Addr} {zs : List Int} {cs : Array Value} (h : Byt lo W (.slice a n c) zs) (hF : Box W F (.cells cs 24)) (hs : ∀ (i : Nat) (x : Int), cs[i]? ≠ some (.int .u8 x)) (i : Nat) (v : Value) : Byt lo (W.setCell ⟨F, i, none⟩ v) (.slice a n c) zs :=
  h.keep ((Spared.refl (fun q => q = F) W).setCell (k := F) rfl i v) (fun hz g o e hq => h.off hF hs hz g o e hq)
theorem byt_drop1 {lo g o n c : Nat} {y : Int} {zs : List Int} {W : World} (h : Byt lo W (.slice (some ⟨g, o, none⟩) n c) (y :: zs)) : Byt lo W (.slice (some ⟨g, o + 1, none⟩) (n - 1) (c - 1)) zs := by
  obtain ⟨hn, hc⟩ := h.len
  rw [List.length_cons] at hn
  refine ⟨h.words.tail, some ⟨g, o + 1, none⟩, c - 1, by rw [show n - 1 = zs.length by omega], by omega, fun hz => ?_⟩
  obtain ⟨b, off, e, h1, h2⟩ := h.row (by omega)
  simp only [Option.some.injEq, Addr.mk.injEq] at e
  obtain ⟨rfl, rfl, _⟩ := e
  refine ⟨g, o + 1, rfl, h1, h2, fun j hj => ?_, fun j hj => ?_⟩
  all_goals
    have hc := h.cell (j := 1 + j) (by omega)
    rw [← Nat.add_assoc] at hc
  · rw [Nat.add_comm 1 j, List.getElem?_cons_succ] at hc
    exact hc.1
  · exact hc.2
set_option maxRecDepth 100000 in
set_option maxHeartbeats 8000000 in
theorem hget_any {lo n c : Nat} {a : Option Addr} {bs : List Int} {w : World} (X : Byt lo w (.slice a n c) bs) (hn : n ≤ 100000) :
    Calls Try.prog 23 #[.slice a n c] w (PkSaid (getP bs).1 (getP bs).2 w) := by
  have q1 := below_new w (.cells #[.int .i64 0, .int .i64 0, .int .i64 0, .int .i64 0, .int .i64 0, .slice none 0 0] 24)
  have R0 := Box.new w (.cells #[.int .i64 0, .int .i64 0, .int .i64 0, .int .i64 0, .int .i64 0, .slice none 0 0] 24)
  have hop := zopen_any (PT.nil (w.alloc (.cells #[.int .i64 0, .int .i64 0, .int .i64 0, .int .i64 0, .int .i64 0, .slice none 0 0] 24))) nums_cT (X.below q1) (by omega)
  have hol := openB_len cT bs
  have hoo := openB_octs cT X.words
  rw [← X.len.1] at hol
  unfold getP
  obtain ⟨⟨zs, oe⟩, ho⟩ : ∃ q, openB cT bs = q := ⟨_, rfl⟩
  rw [ho] at hop hol hoo ⊢
  dsimp only at hop hol hoo ⊢
  have HQ := hide q1
  have HR := hide R0
  clear X ho q1 R0
  by_cases h0 : oe = 0
  · subst h0
    rw [if_pos rfl]
    cases zs with
    | nil =>
      show Calls Try.prog 23 #[.slice a n c] w (PkSaid PV.zero 6 w)
      clear hol hoo hn
      go_enter Try.func23, Try.ntmps23
      go_wp2_with fail
      refine hop.mono ?_
      rintro e w1 ⟨a1, n1, c1, rfl, Y1, b1⟩
      obtain rfl : n1 = 0 := Y1.len.1
      have HB1 := hide (HQ.out.trans (b1.mono HQ.out.size))
      have HR1 := hide (HR.out.below b1)
      obtain ⟨g0, g1, g2, g3, g4, g5⟩ := six_of HR1.out
      obtain ⟨f0, f1, f2, f3, f4, f5⟩ := six_frozen HR1.out
      clear hop Y1 b1
      go_wp2
      clear g0 g1 g2 g3 g4 g5 f0 f1 f2 f3 f4 f5
      refine bodyPost_ret (v := .tuple #[.agg #[.int .i64 0, .int .i64 0, .int .i64 0, .int .i64 0, .int .i64 0, .slice none 0 0], .int .i64 6]) ?_ rfl ?_
      · obtain ⟨g0, g1, g2, g3, g4, g5⟩ := six_of (box_put6 HR1.out (.int .i64 0) (.int .i64 0) (.int .i64 0) (.int .i64 0) (.int .i64 0) (.slice none 0 0))
        unfold put6 at g0 g1 g2 g3 g4 g5
        simp [results, Try.f23, go_sem, g0, g1, g2, g3, g4, g5]
      · exact pksaid_zero rfl (below_put6 HB1.out HB1.out.size (Nat.le_refl _) HB1.out.size _ _ _ _ _ _)
    | cons k t =>
      have hk8 := hoo.head
      obtain ⟨⟨p', er'⟩, hans⟩ : ∃ q, getX (k :: t) = q := ⟨_, rfl⟩
      rw [hans]
      have HA := hide hans
      show Calls Try.prog 23 #[.slice a n c] w (PkSaid p' er' w)
      have HL := hide (show (k :: t).length ≤ 100000 by omega)
      have HK := hide hk8
      clear hans hol hoo hn
      go_enter Try.func23, Try.ntmps23
      go_wp2_with fail
      refine hop.mono ?_
      rintro e w1 ⟨a1, n1, c1, rfl, Y1, b1⟩
      have hn1 : n1 = t.length + 1 := Y1.len.1
      obtain ⟨g1, o1, rfl, hg1, hg2⟩ := Y1.row (by omega)
      obtain ⟨y0, _⟩ := Y1.cell (j := 0) (by omega)
      rw [List.getElem?_cons_zero, Option.getD_some, Nat.add_zero] at y0
      have HN1 := hide hn1
      have hni : (0 : Int) < (n1 : Int) := by omega
      have hnn : 0 < n1 := by omega
      have hn0 : ¬ n1 = 0 := by omega
      have hnb : ((n1 : Int) == 0) = false := beq_eq_false_iff_ne.2 (by omega)
      have hcn : n1 ≤ c1 := Y1.len.2
      have hn1i : (1 : Int) ≤ (n1 : Int) := by omega
      have hk0 : 0 ≤ k := hk8.1
      have hk1 : k < 256 := hk8.2
      have HB1 := hide (HQ.out.trans (b1.mono HQ.out.size))
      have HR1 := hide (HR.out.below b1)
      have HY1 := hide Y1
      have hsz1 : w.heap.size + 1 ≤ w1.heap.size := HR1.out.lt
      have hne1 : ¬ w1.heap.size = w.heap.size := by omega
      have hne2 : ¬ w.heap.size = w1.heap.size := by omega
      have HH0 : Hid (Hat w (w1.alloc (.cells #[.int .i64 k, .int .i64 0, .int .i64 0, .int .i64 0, .int .i64 0, .slice none 0 0] 24)) w1.heap.size #[.int .i64 k, .int .i64 0, .int .i64 0, .int .i64 0, .int .i64 0, .slice none 0 0]) := ⟨HR1.out.below (below_new _ _), Box.new w1 _, HB1.out.trans ((below_new _ _).mono HB1.out.size), hsz1⟩
      clear hop Y1 b1 HQ HR hn1 hk8
      by_cases hcap : c1 = 1
      · obtain rfl : n1 = 1 := by omega
        subst hcap
        have ht0 : t = [] := List.length_eq_zero_iff.1 (by have := HN1.out; omega)
        have YT : Byt (w.heap.size + 1) w1 (.slice (some ⟨g1, o1, none⟩) 0 0) t := by rw [ht0]; exact Byt.empty _ _ _ _
        clear ht0
        have ht := htake_any (YT.below (below_new w1 (.cells #[.int .i64 k, .int .i64 0, .int .i64 0, .int .i64 0, .int .i64 0, .slice none 0 0] 24)))
        obtain ⟨⟨N1, rR, ok1⟩, hT1⟩ : ∃ q, tk t = q := ⟨_, rfl⟩
        rw [hT1] at ht
        have hrl : rR.length ≤ 100000 := by have := tk_len t; rw [hT1] at this; have := HL.out; simp at *; omega
        have HRL := hide hrl
        clear hrl
        go_wp2_with fail
        refine ht.mono ?_
        rintro e w2 ⟨aR, mR, cR, rfl, YR, b2⟩
        have H2 := HH0.out.below' b2
        have HH := hide (H2.put 1 (.int .i64 (N1 : Nat)))
        have HYR := hide (byt_aside YR H2.pk (noOct6 _ _ _ _ _ _ _ _) 1 (.int .i64 (N1 : Nat)))
        obtain ⟨k0, k1, k2, k3, k4, k5⟩ := six_of H2.pk
        obtain ⟨e0, e1, e2, e3, e4, e5⟩ := six_frozen H2.pk
        clear ht b2 YR H2 HH0 YT y0
        by_cases hk1 : k = 1
        · subst hk1
          cases ok1 with
          | false =>
            have hdoc : docP 1 t = ⟨1, (N1 : Nat), 0, 0, 0, rR⟩ ∧ (d3 1 t).2.2 = false := by
              simp [docP, d4, d3, d2, tkIf, hT1]
            have hgx : (if false = true ∧ May ⟨1, (N1 : Nat), 0, 0, 0, rR⟩ then ((⟨1, (N1 : Nat), 0, 0, 0, rR⟩ : PV), (0 : Int)) else (PV.zero, 6)) = (p', er') := by
              have h := HA.out
              rw [show getX (1 :: t) = if (d3 1 t).2.2 = true ∧ May (docP 1 t) then (docP 1 t, 0) else (PV.zero, 6) from rfl, hdoc.1, hdoc.2] at h
              exact h
            have HGX := hide hgx
            have HLOW := hide (show w.heap.size + 1 ≤ _ from HH.out.res0.lt)
            obtain ⟨aD, cD, wD, hap, OD, BD⟩ := appendo_copy HYR.out (by have := HYR.out.len.1; have := HRL.out; omega)
            simp only [size_put] at hap
            have HAP := hide hap
            have HHD := hide (HH.out.belowlo BD)
            have HYD := hide (ownb_byt OD)
            obtain ⟨q0, q1, q2, q3, q4, q5⟩ := six_of HHD.out.pk
            obtain ⟨j0, j1, j2, j3, j4, j5⟩ := six_frozen HHD.out.pk
            obtain ⟨g0, g1, g2, g3, g4, g5⟩ := six_of HHD.out.res0
            obtain ⟨f0, f1, f2, f3, f4, f5⟩ := six_frozen HHD.out.res0
            obtain ⟨rfl, rfl⟩ := Prod.mk.inj ((if_neg (fun h => absurd h.1 (by decide))).symm.trans HGX.out)
            clear hdoc hgx hap OD BD
            go_wp2_with (at_builtin; refine Lib.wpList_append_run _ rfl _ _ _ _ rfl _ _ rfl rfl _ _ HAP.out ?_)
            clear g0 g1 g2 g3 g4 g5 f0 f1 f2 f3 f4 f5 q0 q1 q2 q3 q4 q5 j0 j1 j2 j3 j4 j5
            have HHE := hide (HHD.out.put 5 (.slice aD mR cD))
            refine bodyPost_ret (v := .tuple #[.agg #[.int .i64 0, .int .i64 0, .int .i64 0, .int .i64 0, .int .i64 0, .slice none 0 0], .int .i64 6]) ?_ rfl ?_
            · obtain ⟨g0, g1, g2, g3, g4, g5⟩ := six_of (box_put6 HHE.out.res0 (.int .i64 0) (.int .i64 0) (.int .i64 0) (.int .i64 0) (.int .i64 0) (.slice none 0 0))
              unfold put6 at g0 g1 g2 g3 g4 g5
              simp [results, Try.f23, go_sem, g0, g1, g2, g3, g4, g5]
            · exact pksaid_zero rfl (below_put6 HHE.out.below HHE.out.below.size (Nat.le_refl _) HHE.out.below.size _ _ _ _ _ _)
          | true =>
            have ht := htake_any HYR.out
            obtain ⟨⟨N2, r2, ok2⟩, hT2⟩ : ∃ q, tk rR = q := ⟨_, rfl⟩
            rw [hT2] at ht
            have hrl : r2.length ≤ 100000 := by have := tk_len rR; rw [hT2] at this; have := HRL.out; simp at *; omega
            have HRL2 := hide hrl
            clear hrl
            go_wp2_with fail
            refine ht.mono ?_
            rintro e z2 ⟨a2, m2, c2, rfl, YS, bS⟩
            have HS := HH.out.below' bS
            have HHn := hide (HS.put 2 (.int .i64 (N2 : Nat)))
            have HYn := hide (byt_aside YS HS.pk (noOct6 _ _ _ _ _ _ _ _) 2 (.int .i64 (N2 : Nat)))
            clear k0 k1 k2 k3 k4 k5 e0 e1 e2 e3 e4 e5
            obtain ⟨k0, k1, k2, k3, k4, k5⟩ := six_of HS.pk
            obtain ⟨e0, e1, e2, e3, e4, e5⟩ := six_frozen HS.pk
            clear ht bS YS HS HH HYR HRL
            have HH := HHn
            have HYR := HYn
            have HRL := HRL2
            clear HHn HYn HRL2
            cases ok2 with
            | false =>
              have hdoc : docP 1 t = ⟨1, (N1 : Nat), (N2 : Nat), 0, 0, r2⟩ ∧ (d3 1 t).2.2 = false := by
                simp [docP, d4, d3, d2, tkIf, hT1, hT2]
              have hgx : (if false = true ∧ May ⟨1, (N1 : Nat), (N2 : Nat), 0, 0, r2⟩ then ((⟨1, (N1 : Nat), (N2 : Nat), 0, 0, r2⟩ : PV), (0 : Int)) else (PV.zero, 6)) = (p', er') := by
                have h := HA.out
                rw [show getX (1 :: t) = if (d3 1 t).2.2 = true ∧ May (docP 1 t) then (docP 1 t, 0) else (PV.zero, 6) from rfl, hdoc.1, hdoc.2] at h
                exact h
              have HGX := hide hgx
              have HLOW := hide (show w.heap.size + 1 ≤ _ from HH.out.res0.lt)
              obtain ⟨aD, cD, wD, hap, OD, BD⟩ := appendo_copy HYR.out (by have := HYR.out.len.1; have := HRL.out; omega)
              simp only [size_put] at hap
              have HAP := hide hap
              have HHD := hide (HH.out.belowlo BD)
              have HYD := hide (ownb_byt OD)
              obtain ⟨q0, q1, q2, q3, q4, q5⟩ := six_of HHD.out.pk
              obtain ⟨j0, j1, j2, j3, j4, j5⟩ := six_frozen HHD.out.pk
              obtain ⟨g0, g1, g2, g3, g4, g5⟩ := six_of HHD.out.res0
              obtain ⟨f0, f1, f2, f3, f4, f5⟩ := six_frozen HHD.out.res0
              obtain ⟨rfl, rfl⟩ := Prod.mk.inj ((if_neg (fun h => absurd h.1 (by decide))).symm.trans HGX.out)
              clear hdoc hgx hap OD BD
              go_wp2_with (at_builtin; refine Lib.wpList_append_run _ rfl _ _ _ _ rfl _ _ rfl rfl _ _ HAP.out ?_)
              clear g0 g1 g2 g3 g4 g5 f0 f1 f2 f3 f4 f5 q0 q1 q2 q3 q4 q5 j0 j1 j2 j3 j4 j5
              have HHE := hide (HHD.out.put 5 (.slice aD m2 cD))
              refine bodyPost_ret (v := .tuple #[.agg #[.int .i64 0, .int .i64 0, .int .i64 0, .int .i64 0, .int .i64 0, .slice none 0 0], .int .i64 6]) ?_ rfl ?_
              · obtain ⟨g0, g1, g2, g3, g4, g5⟩ := six_of (box_put6 HHE.out.res0 (.int .i64 0) (.int .i64 0) (.int .i64 0) (.int .i64 0) (.int .i64 0) (.slice none 0 0))
                unfold put6 at g0 g1 g2 g3 g4 g5
                simp [results, Try.f23, go_sem, g0, g1, g2, g3, g4, g5]
              · exact pksaid_zero rfl (below_put6 HHE.out.below HHE.out.below.size (Nat.le_refl _) HHE.out.below.size _ _ _ _ _ _)
            | true =>
              have ht := htake_any HYR.out
              obtain ⟨⟨N3, r3, ok3⟩, hT3⟩ : ∃ q, tk r2 = q := ⟨_, rfl⟩
              rw [hT3] at ht
              have hrl : r3.length ≤ 100000 := by have := tk_len r2; rw [hT3] at this; have := HRL.out; simp at *; omega
              have HRL3 := hide hrl
              clear hrl
              go_wp2_with fail
              refine ht.mono ?_
              rintro e z3 ⟨a3, m3, c3, rfl, YS, bS⟩
              have HS := HH.out.below' bS
              have HHn := hide (HS.put 3 (.int .i64 (N3 : Nat)))
              have HYn := hide (byt_aside YS HS.pk (noOct6 _ _ _ _ _ _ _ _) 3 (.int .i64 (N3 : Nat)))
              clear k0 k1 k2 k3 k4 k5 e0 e1 e2 e3 e4 e5
              obtain ⟨k0, k1, k2, k3, k4, k5⟩ := six_of HS.pk
              obtain ⟨e0, e1, e2, e3, e4, e5⟩ := six_frozen HS.pk
              clear ht bS YS HS HH HYR HRL
              have HH := HHn
              have HYR := HYn
              have HRL := HRL3
              clear HHn HYn HRL3
              cases ok3 with
              | false =>
                have hdoc : docP 1 t = ⟨1, (N1 : Nat), (N2 : Nat), (N3 : Nat), 0, r3⟩ ∧ (d3 1 t).2.2 = false := by
                  simp [docP, d4, d3, d2, tkIf, hT1, hT2, hT3]
                have hgx : (if false = true ∧ May ⟨1, (N1 : Nat), (N2 : Nat), (N3 : Nat), 0, r3⟩ then ((⟨1, (N1 : Nat), (N2 : Nat), (N3 : Nat), 0, r3⟩ : PV), (0 : Int)) else (PV.zero, 6)) = (p', er') := by
                  have h := HA.out
                  rw [show getX (1 :: t) = if (d3 1 t).2.2 = true ∧ May (docP 1 t) then (docP 1 t, 0) else (PV.zero, 6) from rfl, hdoc.1, hdoc.2] at h
                  exact h
                have HGX := hide hgx
                have HLOW := hide (show w.heap.size + 1 ≤ _ from HH.out.res0.lt)
                obtain ⟨aD, cD, wD, hap, OD, BD⟩ := appendo_copy HYR.out (by have := HYR.out.len.1; have := HRL.out; omega)
                simp only [size_put] at hap
                have HAP := hide hap
                have HHD := hide (HH.out.belowlo BD)
                have HYD := hide (ownb_byt OD)
                obtain ⟨q0, q1, q2, q3, q4, q5⟩ := six_of HHD.out.pk
                obtain ⟨j0, j1, j2, j3, j4, j5⟩ := six_frozen HHD.out.pk
                obtain ⟨g0, g1, g2, g3, g4, g5⟩ := six_of HHD.out.res0
                obtain ⟨f0, f1, f2, f3, f4, f5⟩ := six_frozen HHD.out.res0
                obtain ⟨rfl, rfl⟩ := Prod.mk.inj ((if_neg (fun h => absurd h.1 (by decide))).symm.trans HGX.out)
                clear hdoc hgx hap OD BD
                go_wp2_with (at_builtin; refine Lib.wpList_append_run _ rfl _ _ _ _ rfl _ _ rfl rfl _ _ HAP.out ?_)
                clear g0 g1 g2 g3 g4 g5 f0 f1 f2 f3 f4 f5 q0 q1 q2 q3 q4 q5 j0 j1 j2 j3 j4 j5
                have HHE := hide (HHD.out.put 5 (.slice aD m3 cD))
                refine bodyPost_ret (v := .tuple #[.agg #[.int .i64 0, .int .i64 0, .int .i64 0, .int .i64 0, .int .i64 0, .slice none 0 0], .int .i64 6]) ?_ rfl ?_
                · obtain ⟨g0, g1, g2, g3, g4, g5⟩ := six_of (box_put6 HHE.out.res0 (.int .i64 0) (.int .i64 0) (.int .i64 0) (.int .i64 0) (.int .i64 0) (.slice none 0 0))
                  unfold put6 at g0 g1 g2 g3 g4 g5
                  simp [results, Try.f23, go_sem, g0, g1, g2, g3, g4, g5]
                · exact pksaid_zero rfl (below_put6 HHE.out.below HHE.out.below.size (Nat.le_refl _) HHE.out.below.size _ _ _ _ _ _)
              | true =>
                have hdoc : docP 1 t = ⟨1, (N1 : Nat), (N2 : Nat), (N3 : Nat), 0, r3⟩ ∧ (d3 1 t).2.2 = true := by
                  simp [docP, d4, d3, d2, tkIf, hT1, hT2, hT3]
                have hgx : (if true = true ∧ May ⟨1, (N1 : Nat), (N2 : Nat), (N3 : Nat), 0, r3⟩ then ((⟨1, (N1 : Nat), (N2 : Nat), (N3 : Nat), 0, r3⟩ : PV), (0 : Int)) else (PV.zero, 6)) = (p', er') := by
                  have h := HA.out
                  rw [show getX (1 :: t) = if (d3 1 t).2.2 = true ∧ May (docP 1 t) then (docP 1 t, 0) else (PV.zero, 6) from rfl, hdoc.1, hdoc.2] at h
                  exact h
                have HGX := hide hgx
                have HLOW := hide (show w.heap.size + 1 ≤ _ from HH.out.res0.lt)
                obtain ⟨aD, cD, wD, hap, OD, BD⟩ := appendo_copy HYR.out (by have := HYR.out.len.1; have := HRL.out; omega)
                simp only [size_put] at hap
                have HAP := hide hap
                have HHD := hide (HH.out.belowlo BD)
                have HYD := hide (ownb_byt OD)
                obtain ⟨q0, q1, q2, q3, q4, q5⟩ := six_of HHD.out.pk
                obtain ⟨j0, j1, j2, j3, j4, j5⟩ := six_frozen HHD.out.pk
                have hck := hcheck_any 1 (N1 : Nat) (N2 : Nat) (N3 : Nat) 0 aD m3 cD r3 HYD.out.len.1.symm (wD.setCell ⟨w1.heap.size, 5, none⟩ (.slice aD m3 cD))
                have HHE := hide (HHD.out.put 5 (.slice aD m3 cD))
                have HYE := hide (byt_aside HYD.out HHD.out.pk (noOct6 _ _ _ _ _ _ _ _) 5 (.slice aD m3 cD))
                clear hdoc hgx hap OD BD
                go_wp2_with (at_builtin; refine Lib.wpList_append_run _ rfl _ _ _ _ rfl _ _ rfl rfl _ _ HAP.out ?_)
                clear q0 q1 q2 q3 q4 q5 j0 j1 j2 j3 j4 j5 HAP HHD HYD
                by_cases hM : May ⟨1, (N1 : Nat), (N2 : Nat), (N3 : Nat), 0, r3⟩
                · rw [checkP_yes hM] at hck
                  obtain ⟨rfl, rfl⟩ := Prod.mk.inj ((if_pos ⟨by first | trivial | rfl, hM⟩).symm.trans HGX.out)
                  clear hM HGX
                  refine hck.mono ?_
                  rintro e w9 ⟨rfl, b9⟩
                  have HH9 := hide (HHE.out.below' b9)
                  have HY9 := hide (HYE.out.below b9)
                  obtain ⟨g0, g1, g2, g3, g4, g5⟩ := six_of HH9.out.res0
                  obtain ⟨f0, f1, f2, f3, f4, f5⟩ := six_frozen HH9.out.res0
                  obtain ⟨q0, q1, q2, q3, q4, q5⟩ := six_of HH9.out.pk
                  clear hck b9 HHE HYE
                  go_wp2
                  clear g0 g1 g2 g3 g4 g5 f0 f1 f2 f3 f4 f5 q0 q1 q2 q3 q4 q5
                  refine bodyPost_ret (v := .tuple #[.agg #[.int .i64 1, .int .i64 (N1 : Nat), .int .i64 (N2 : Nat), .int .i64 (N3 : Nat), .int .i64 0, .slice aD m3 cD], .int .i64 0]) ?_ rfl ?_
                  · obtain ⟨g0, g1, g2, g3, g4, g5⟩ := six_of (box_put6 HH9.out.res0 (.int .i64 1) (.int .i64 (N1 : Nat)) (.int .i64 (N2 : Nat)) (.int .i64 (N3 : Nat)) (.int .i64 0) (.slice aD m3 cD))
                    unfold put6 at g0 g1 g2 g3 g4 g5
                    simp [results, Try.f23, go_sem, g0, g1, g2, g3, g4, g5]
                  · exact ⟨aD, m3, cD, rfl, (byt_put6 (HY9.out.mono HLOW.out) (Nat.lt_succ_self _) _ _ _ _ _ _).mono (Nat.le_succ _), below_put6 HH9.out.below HH9.out.below.size (Nat.le_refl _) HH9.out.below.size _ _ _ _ _ _⟩
                · rw [checkP_no hM] at hck
                  obtain ⟨rfl, rfl⟩ := Prod.mk.inj ((if_neg (fun h => hM h.2)).symm.trans HGX.out)
                  clear hM HGX
                  refine hck.mono ?_
                  rintro e w9 ⟨rfl, b9⟩
                  have HH9 := hide (HHE.out.below' b9)
                  have HY9 := hide (HYE.out.below b9)
                  obtain ⟨g0, g1, g2, g3, g4, g5⟩ := six_of HH9.out.res0
                  obtain ⟨f0, f1, f2, f3, f4, f5⟩ := six_frozen HH9.out.res0
                  clear hck b9 HHE HYE
                  go_wp2
                  clear g0 g1 g2 g3 g4 g5 f0 f1 f2 f3 f4 f5
                  refine bodyPost_ret (v := .tuple #[.agg #[.int .i64 0, .int .i64 0, .int .i64 0, .int .i64 0, .int .i64 0, .slice none 0 0], .int .i64 6]) ?_ rfl ?_
                  · obtain ⟨g0, g1, g2, g3, g4, g5⟩ := six_of (box_put6 HH9.out.res0 (.int .i64 0) (.int .i64 0) (.int .i64 0) (.int .i64 0) (.int .i64 0) (.slice none 0 0))
                    unfold put6 at g0 g1 g2 g3 g4 g5
                    simp [results, Try.f23, go_sem, g0, g1, g2, g3, g4, g5]
                  · exact pksaid_zero rfl (below_put6 HH9.out.below HH9.out.below.size (Nat.le_refl _) HH9.out.below.size _ _ _ _ _ _)
        · by_cases hk2 : k = 2
          · subst hk2
            cases ok1 with
            | false =>
              have hdoc : docP 2 t = ⟨2, (N1 : Nat), 0, 0, 0, rR⟩ ∧ (d3 2 t).2.2 = false := by
                simp [docP, d4, d3, d2, tkIf, hT1]
              have hgx : (if false = true ∧ May ⟨2, (N1 : Nat), 0, 0, 0, rR⟩ then ((⟨2, (N1 : Nat), 0, 0, 0, rR⟩ : PV), (0 : Int)) else (PV.zero, 6)) = (p', er') := by
                have h := HA.out
                rw [show getX (2 :: t) = if (d3 2 t).2.2 = true ∧ May (docP 2 t) then (docP 2 t, 0) else (PV.zero, 6) from rfl, hdoc.1, hdoc.2] at h
                exact h
              have HGX := hide hgx
              have HLOW := hide (show w.heap.size + 1 ≤ _ from HH.out.res0.lt)
              obtain ⟨aD, cD, wD, hap, OD, BD⟩ := appendo_copy HYR.out (by have := HYR.out.len.1; have := HRL.out; omega)
              simp only [size_put] at hap
              have HAP := hide hap
              have HHD := hide (HH.out.belowlo BD)
              have HYD := hide (ownb_byt OD)
              obtain ⟨q0, q1, q2, q3, q4, q5⟩ := six_of HHD.out.pk
              obtain ⟨j0, j1, j2, j3, j4, j5⟩ := six_frozen HHD.out.pk
              obtain ⟨g0, g1, g2, g3, g4, g5⟩ := six_of HHD.out.res0
              obtain ⟨f0, f1, f2, f3, f4, f5⟩ := six_frozen HHD.out.res0
              obtain ⟨rfl, rfl⟩ := Prod.mk.inj ((if_neg (fun h => absurd h.1 (by decide))).symm.trans HGX.out)
              clear hdoc hgx hap OD BD
              go_wp2_with (at_builtin; refine Lib.wpList_append_run _ rfl _ _ _ _ rfl _ _ rfl rfl _ _ HAP.out ?_)
              clear g0 g1 g2 g3 g4 g5 f0 f1 f2 f3 f4 f5 q0 q1 q2 q3 q4 q5 j0 j1 j2 j3 j4 j5
              have HHE := hide (HHD.out.put 5 (.slice aD mR cD))
              refine bodyPost_ret (v := .tuple #[.agg #[.int .i64 0, .int .i64 0, .int .i64 0, .int .i64 0, .int .i64 0, .slice none 0 0], .int .i64 6]) ?_ rfl ?_
              · obtain ⟨g0, g1, g2, g3, g4, g5⟩ := six_of (box_put6 HHE.out.res0 (.int .i64 0) (.int .i64 0) (.int .i64 0) (.int .i64 0) (.int .i64 0) (.slice none 0 0))
                unfold put6 at g0 g1 g2 g3 g4 g5
                simp [results, Try.f23, go_sem, g0, g1, g2, g3, g4, g5]
              · exact pksaid_zero rfl (below_put6 HHE.out.below HHE.out.below.size (Nat.le_refl _) HHE.out.below.size _ _ _ _ _ _)
            | true =>
              have ht := htake_any HYR.out
              obtain ⟨⟨N2, r2, ok2⟩, hT2⟩ : ∃ q, tk rR = q := ⟨_, rfl⟩
              rw [hT2] at ht
              have hrl : r2.length ≤ 100000 := by have := tk_len rR; rw [hT2] at this; have := HRL.out; simp at *; omega
              have HRL2 := hide hrl
              clear hrl
              go_wp2_with fail
              refine ht.mono ?_
              rintro e z2 ⟨a2, m2, c2, rfl, YS, bS⟩
              have HS := HH.out.below' bS
              have HHn := hide (HS.put 2 (.int .i64 (N2 : Nat)))
              have HYn := hide (byt_aside YS HS.pk (noOct6 _ _ _ _ _ _ _ _) 2 (.int .i64 (N2 : Nat)))
              clear k0 k1 k2 k3 k4 k5 e0 e1 e2 e3 e4 e5
              obtain ⟨k0, k1, k2, k3, k4, k5⟩ := six_of HS.pk
              obtain ⟨e0, e1, e2, e3, e4, e5⟩ := six_frozen HS.pk
              clear ht bS YS HS HH HYR HRL
              have HH := HHn
              have HYR := HYn
              have HRL := HRL2
              clear HHn HYn HRL2
              cases ok2 with
              | false =>
                have hdoc : docP 2 t = ⟨2, (N1 : Nat), (N2 : Nat), 0, 0, r2⟩ ∧ (d3 2 t).2.2 = false := by
                  simp [docP, d4, d3, d2, tkIf, hT1, hT2]
                have hgx : (if false = true ∧ May ⟨2, (N1 : Nat), (N2 : Nat), 0, 0, r2⟩ then ((⟨2, (N1 : Nat), (N2 : Nat), 0, 0, r2⟩ : PV), (0 : Int)) else (PV.zero, 6)) = (p', er') := by
                  have h := HA.out
                  rw [show getX (2 :: t) = if (d3 2 t).2.2 = true ∧ May (docP 2 t) then (docP 2 t, 0) else (PV.zero, 6) from rfl, hdoc.1, hdoc.2] at h
                  exact h
                have HGX := hide hgx
                have HLOW := hide (show w.heap.size + 1 ≤ _ from HH.out.res0.lt)
                obtain ⟨aD, cD, wD, hap, OD, BD⟩ := appendo_copy HYR.out (by have := HYR.out.len.1; have := HRL.out; omega)
                simp only [size_put] at hap
                have HAP := hide hap
                have HHD := hide (HH.out.belowlo BD)
                have HYD := hide (ownb_byt OD)
                obtain ⟨q0, q1, q2, q3, q4, q5⟩ := six_of HHD.out.pk
                obtain ⟨j0, j1, j2, j3, j4, j5⟩ := six_frozen HHD.out.pk
                obtain ⟨g0, g1, g2, g3, g4, g5⟩ := six_of HHD.out.res0
                obtain ⟨f0, f1, f2, f3, f4, f5⟩ := six_frozen HHD.out.res0
                obtain ⟨rfl, rfl⟩ := Prod.mk.inj ((if_neg (fun h => absurd h.1 (by decide))).symm.trans HGX.out)
                clear hdoc hgx hap OD BD
                go_wp2_with (at_builtin; refine Lib.wpList_append_run _ rfl _ _ _ _ rfl _ _ rfl rfl _ _ HAP.out ?_)
                clear g0 g1 g2 g3 g4 g5 f0 f1 f2 f3 f4 f5 q0 q1 q2 q3 q4 q5 j0 j1 j2 j3 j4 j5
                have HHE := hide (HHD.out.put 5 (.slice aD m2 cD))
                refine bodyPost_ret (v := .tuple #[.agg #[.int .i64 0, .int .i64 0, .int .i64 0, .int .i64 0, .int .i64 0, .slice none 0 0], .int .i64 6]) ?_ rfl ?_
                · obtain ⟨g0, g1, g2, g3, g4, g5⟩ := six_of (box_put6 HHE.out.res0 (.int .i64 0) (.int .i64 0) (.int .i64 0) (.int .i64 0) (.int .i64 0) (.slice none 0 0))
                  unfold put6 at g0 g1 g2 g3 g4 g5
                  simp [results, Try.f23, go_sem, g0, g1, g2, g3, g4, g5]
                · exact pksaid_zero rfl (below_put6 HHE.out.below HHE.out.below.size (Nat.le_refl _) HHE.out.below.size _ _ _ _ _ _)
              | true =>
                have hdoc : docP 2 t = ⟨2, (N1 : Nat), (N2 : Nat), 0, 0, r2⟩ ∧ (d3 2 t).2.2 = true := by
                  simp [docP, d4, d3, d2, tkIf, hT1, hT2]
                have hgx : (if true = true ∧ May ⟨2, (N1 : Nat), (N2 : Nat), 0, 0, r2⟩ then ((⟨2, (N1 : Nat), (N2 : Nat), 0, 0, r2⟩ : PV), (0 : Int)) else (PV.zero, 6)) = (p', er') := by
                  have h := HA.out
                  rw [show getX (2 :: t) = if (d3 2 t).2.2 = true ∧ May (docP 2 t) then (docP 2 t, 0) else (PV.zero, 6) from rfl, hdoc.1, hdoc.2] at h
                  exact h
                have HGX := hide hgx
                have HLOW := hide (show w.heap.size + 1 ≤ _ from HH.out.res0.lt)
                obtain ⟨aD, cD, wD, hap, OD, BD⟩ := appendo_copy HYR.out (by have := HYR.out.len.1; have := HRL.out; omega)
                simp only [size_put] at hap
                have HAP := hide hap
                have HHD := hide (HH.out.belowlo BD)
                have HYD := hide (ownb_byt OD)
                obtain ⟨q0, q1, q2, q3, q4, q5⟩ := six_of HHD.out.pk
                obtain ⟨j0, j1, j2, j3, j4, j5⟩ := six_frozen HHD.out.pk
                have hck := hcheck_any 2 (N1 : Nat) (N2 : Nat) 0 0 aD m2 cD r2 HYD.out.len.1.symm (wD.setCell ⟨w1.heap.size, 5, none⟩ (.slice aD m2 cD))
                have HHE := hide (HHD.out.put 5 (.slice aD m2 cD))
                have HYE := hide (byt_aside HYD.out HHD.out.pk (noOct6 _ _ _ _ _ _ _ _) 5 (.slice aD m2 cD))
                clear hdoc hgx hap OD BD
                go_wp2_with (at_builtin; refine Lib.wpList_append_run _ rfl _ _ _ _ rfl _ _ rfl rfl _ _ HAP.out ?_)
                clear q0 q1 q2 q3 q4 q5 j0 j1 j2 j3 j4 j5 HAP HHD HYD
                by_cases hM : May ⟨2, (N1 : Nat), (N2 : Nat), 0, 0, r2⟩
                · rw [checkP_yes hM] at hck
                  obtain ⟨rfl, rfl⟩ := Prod.mk.inj ((if_pos ⟨by first | trivial | rfl, hM⟩).symm.trans HGX.out)
                  clear hM HGX
                  refine hck.mono ?_
                  rintro e w9 ⟨rfl, b9⟩
                  have HH9 := hide (HHE.out.below' b9)
                  have HY9 := hide (HYE.out.below b9)
                  obtain ⟨g0, g1, g2, g3, g4, g5⟩ := six_of HH9.out.res0
                  obtain ⟨f0, f1, f2, f3, f4, f5⟩ := six_frozen HH9.out.res0
                  obtain ⟨q0, q1, q2, q3, q4, q5⟩ := six_of HH9.out.pk
                  clear hck b9 HHE HYE
                  go_wp2
                  clear g0 g1 g2 g3 g4 g5 f0 f1 f2 f3 f4 f5 q0 q1 q2 q3 q4 q5
                  refine bodyPost_ret (v := .tuple #[.agg #[.int .i64 2, .int .i64 (N1 : Nat), .int .i64 (N2 : Nat), .int .i64 0, .int .i64 0, .slice aD m2 cD], .int .i64 0]) ?_ rfl ?_
                  · obtain ⟨g0, g1, g2, g3, g4, g5⟩ := six_of (box_put6 HH9.out.res0 (.int .i64 2) (.int .i64 (N1 : Nat)) (.int .i64 (N2 : Nat)) (.int .i64 0) (.int .i64 0) (.slice aD m2 cD))
                    unfold put6 at g0 g1 g2 g3 g4 g5
                    simp [results, Try.f23, go_sem, g0, g1, g2, g3, g4, g5]
                  · exact ⟨aD, m2, cD, rfl, (byt_put6 (HY9.out.mono HLOW.out) (Nat.lt_succ_self _) _ _ _ _ _ _).mono (Nat.le_succ _), below_put6 HH9.out.below HH9.out.below.size (Nat.le_refl _) HH9.out.below.size _ _ _ _ _ _⟩
                · rw [checkP_no hM] at hck
                  obtain ⟨rfl, rfl⟩ := Prod.mk.inj ((if_neg (fun h => hM h.2)).symm.trans HGX.out)
                  clear hM HGX
                  refine hck.mono ?_
                  rintro e w9 ⟨rfl, b9⟩
                  have HH9 := hide (HHE.out.below' b9)
                  have HY9 := hide (HYE.out.below b9)
                  obtain ⟨g0, g1, g2, g3, g4, g5⟩ := six_of HH9.out.res0
                  obtain ⟨f0, f1, f2, f3, f4, f5⟩ := six_frozen HH9.out.res0
                  clear hck b9 HHE HYE
                  go_wp2
                  clear g0 g1 g2 g3 g4 g5 f0 f1 f2 f3 f4 f5
                  refine bodyPost_ret (v := .tuple #[.agg #[.int .i64 0, .int .i64 0, .int .i64 0, .int .i64 0, .int .i64 0, .slice none 0 0], .int .i64 6]) ?_ rfl ?_
                  · obtain ⟨g0, g1, g2, g3, g4, g5⟩ := six_of (box_put6 HH9.out.res0 (.int .i64 0) (.int .i64 0) (.int .i64 0) (.int .i64 0) (.int .i64 0) (.slice none 0 0))
                    unfold put6 at g0 g1 g2 g3 g4 g5
                    simp [results, Try.f23, go_sem, g0, g1, g2, g3, g4, g5]
                  · exact pksaid_zero rfl (below_put6 HH9.out.below HH9.out.below.size (Nat.le_refl _) HH9.out.below.size _ _ _ _ _ _)
          · by_cases hk4 : k = 4
            · subst hk4
              cases ok1 with
              | false =>
                have hdoc : docP 4 t = ⟨4, (N1 : Nat), 0, 0, 0, rR⟩ ∧ (d3 4 t).2.2 = false := by
                  simp [docP, d4, d3, d2, tkIf, hT1]
                have hgx : (if false = true ∧ May ⟨4, (N1 : Nat), 0, 0, 0, rR⟩ then ((⟨4, (N1 : Nat), 0, 0, 0, rR⟩ : PV), (0 : Int)) else (PV.zero, 6)) = (p', er') := by
                  have h := HA.out
                  rw [show getX (4 :: t) = if (d3 4 t).2.2 = true ∧ May (docP 4 t) then (docP 4 t, 0) else (PV.zero, 6) from rfl, hdoc.1, hdoc.2] at h
                  exact h
                have HGX := hide hgx
                have HLOW := hide (show w.heap.size + 1 ≤ _ from HH.out.res0.lt)
                obtain ⟨aD, cD, wD, hap, OD, BD⟩ := appendo_copy HYR.out (by have := HYR.out.len.1; have := HRL.out; omega)
                simp only [size_put] at hap
                have HAP := hide hap
                have HHD := hide (HH.out.belowlo BD)
                have HYD := hide (ownb_byt OD)
                obtain ⟨q0, q1, q2, q3, q4, q5⟩ := six_of HHD.out.pk
                obtain ⟨j0, j1, j2, j3, j4, j5⟩ := six_frozen HHD.out.pk
                obtain ⟨g0, g1, g2, g3, g4, g5⟩ := six_of HHD.out.res0
                obtain ⟨f0, f1, f2, f3, f4, f5⟩ := six_frozen HHD.out.res0
                obtain ⟨rfl, rfl⟩ := Prod.mk.inj ((if_neg (fun h => absurd h.1 (by decide))).symm.trans HGX.out)
                clear hdoc hgx hap OD BD
                go_wp2_with (at_builtin; refine Lib.wpList_append_run _ rfl _ _ _ _ rfl _ _ rfl rfl _ _ HAP.out ?_)
                clear g0 g1 g2 g3 g4 g5 f0 f1 f2 f3 f4 f5 q0 q1 q2 q3 q4 q5 j0 j1 j2 j3 j4 j5
                have HHE := hide (HHD.out.put 5 (.slice aD mR cD))
                refine bodyPost_ret (v := .tuple #[.agg #[.int .i64 0, .int .i64 0, .int .i64 0, .int .i64 0, .int .i64 0, .slice none 0 0], .int .i64 6]) ?_ rfl ?_
                · obtain ⟨g0, g1, g2, g3, g4, g5⟩ := six_of (box_put6 HHE.out.res0 (.int .i64 0) (.int .i64 0) (.int .i64 0) (.int .i64 0) (.int .i64 0) (.slice none 0 0))
                  unfold put6 at g0 g1 g2 g3 g4 g5
                  simp [results, Try.f23, go_sem, g0, g1, g2, g3, g4, g5]
                · exact pksaid_zero rfl (below_put6 HHE.out.below HHE.out.below.size (Nat.le_refl _) HHE.out.below.size _ _ _ _ _ _)
              | true =>
                cases rR with
                | nil =>
                  obtain rfl : mR = 0 := HYR.out.len.1
                  have hdoc : docP 4 t = ⟨4, (N1 : Nat), 0, 0, 0, []⟩ ∧ (d3 4 t).2.2 = true := by
                    simp [docP, d4, d3, d2, tkIf, hT1]
                  have hgx : (if true = true ∧ May ⟨4, (N1 : Nat), 0, 0, 0, []⟩ then ((⟨4, (N1 : Nat), 0, 0, 0, []⟩ : PV), (0 : Int)) else (PV.zero, 6)) = (p', er') := by
                    have h := HA.out
                    rw [show getX (4 :: t) = if (d3 4 t).2.2 = true ∧ May (docP 4 t) then (docP 4 t, 0) else (PV.zero, 6) from rfl, hdoc.1, hdoc.2] at h
                    exact h
                  have HGX := hide hgx
                  have HLOW := hide (show w.heap.size + 1 ≤ _ from HH.out.res0.lt)
                  obtain ⟨aD, cD, wD, hap, OD, BD⟩ := appendo_copy HYR.out (by have := HYR.out.len.1; have := HRL.out; omega)
                  simp only [size_put] at hap
                  have HAP := hide hap
                  have HHD := hide (HH.out.belowlo BD)
                  have HYD := hide (ownb_byt OD)
                  obtain ⟨q0, q1, q2, q3, q4, q5⟩ := six_of HHD.out.pk
                  obtain ⟨j0, j1, j2, j3, j4, j5⟩ := six_frozen HHD.out.pk
                  have hck := hcheck_any 4 (N1 : Nat) 0 0 0 aD 0 cD [] HYD.out.len.1.symm (wD.setCell ⟨w1.heap.size, 5, none⟩ (.slice aD 0 cD))
                  have HHE := hide (HHD.out.put 5 (.slice aD 0 cD))
                  have HYE := hide (byt_aside HYD.out HHD.out.pk (noOct6 _ _ _ _ _ _ _ _) 5 (.slice aD 0 cD))
                  clear hdoc hgx hap OD BD
                  go_wp2_with (at_builtin; refine Lib.wpList_append_run _ rfl _ _ _ _ rfl _ _ rfl rfl _ _ HAP.out ?_)
                  clear q0 q1 q2 q3 q4 q5 j0 j1 j2 j3 j4 j5 HAP HHD HYD
                  by_cases hM : May ⟨4, (N1 : Nat), 0, 0, 0, []⟩
                  · rw [checkP_yes hM] at hck
                    obtain ⟨rfl, rfl⟩ := Prod.mk.inj ((if_pos ⟨by first | trivial | rfl, hM⟩).symm.trans HGX.out)
                    clear hM HGX
                    refine hck.mono ?_
                    rintro e w9 ⟨rfl, b9⟩
                    have HH9 := hide (HHE.out.below' b9)
                    have HY9 := hide (HYE.out.below b9)
                    obtain ⟨g0, g1, g2, g3, g4, g5⟩ := six_of HH9.out.res0
                    obtain ⟨f0, f1, f2, f3, f4, f5⟩ := six_frozen HH9.out.res0
                    obtain ⟨q0, q1, q2, q3, q4, q5⟩ := six_of HH9.out.pk
                    clear hck b9 HHE HYE
                    go_wp2
                    clear g0 g1 g2 g3 g4 g5 f0 f1 f2 f3 f4 f5 q0 q1 q2 q3 q4 q5
                    refine bodyPost_ret (v := .tuple #[.agg #[.int .i64 4, .int .i64 (N1 : Nat), .int .i64 0, .int .i64 0, .int .i64 0, .slice aD 0 cD], .int .i64 0]) ?_ rfl ?_
                    · obtain ⟨g0, g1, g2, g3, g4, g5⟩ := six_of (box_put6 HH9.out.res0 (.int .i64 4) (.int .i64 (N1 : Nat)) (.int .i64 0) (.int .i64 0) (.int .i64 0) (.slice aD 0 cD))
                      unfold put6 at g0 g1 g2 g3 g4 g5
                      simp [results, Try.f23, go_sem, g0, g1, g2, g3, g4, g5]
                    · exact ⟨aD, 0, cD, rfl, (byt_put6 (HY9.out.mono HLOW.out) (Nat.lt_succ_self _) _ _ _ _ _ _).mono (Nat.le_succ _), below_put6 HH9.out.below HH9.out.below.size (Nat.le_refl _) HH9.out.below.size _ _ _ _ _ _⟩
                  · rw [checkP_no hM] at hck
                    obtain ⟨rfl, rfl⟩ := Prod.mk.inj ((if_neg (fun h => hM h.2)).symm.trans HGX.out)
                    clear hM HGX
                    refine hck.mono ?_
                    rintro e w9 ⟨rfl, b9⟩
                    have HH9 := hide (HHE.out.below' b9)
                    have HY9 := hide (HYE.out.below b9)
                    obtain ⟨g0, g1, g2, g3, g4, g5⟩ := six_of HH9.out.res0
                    obtain ⟨f0, f1, f2, f3, f4, f5⟩ := six_frozen HH9.out.res0
                    clear hck b9 HHE HYE
                    go_wp2
                    clear g0 g1 g2 g3 g4 g5 f0 f1 f2 f3 f4 f5
                    refine bodyPost_ret (v := .tuple #[.agg #[.int .i64 0, .int .i64 0, .int .i64 0, .int .i64 0, .int .i64 0, .slice none 0 0], .int .i64 6]) ?_ rfl ?_
                    · obtain ⟨g0, g1, g2, g3, g4, g5⟩ := six_of (box_put6 HH9.out.res0 (.int .i64 0) (.int .i64 0) (.int .i64 0) (.int .i64 0) (.int .i64 0) (.slice none 0 0))
                      unfold put6 at g0 g1 g2 g3 g4 g5
                      simp [results, Try.f23, go_sem, g0, g1, g2, g3, g4, g5]
                    · exact pksaid_zero rfl (below_put6 HH9.out.below HH9.out.below.size (Nat.le_refl _) HH9.out.below.size _ _ _ _ _ _)
                | cons y ys =>
                  obtain ⟨gR, oR, rfl, hgR, _⟩ := HYR.out.row (by rw [HYR.out.len.1]; exact Nat.succ_pos _)
                  obtain ⟨yc, _⟩ := HYR.out.cell (j := 0) (by rw [HYR.out.len.1]; exact Nat.succ_pos _)
                  have hml : mR = ys.length + 1 := HYR.out.len.1
                  have hmc := HYR.out.len.2
                  have hyo := HYR.out.words.head
                  rw [List.getElem?_cons_zero, Option.getD_some, Nat.add_zero] at yc
                  have hgF : gR ≠ w1.heap.size := HYR.out.off HH.out.pk (noOct6 _ _ _ _ _ _ _ _) (by simp) gR oR rfl
                  have hy0 : 0 ≤ y := hyo.1
                  have hy1 : y < 256 := hyo.2
                  have hmi : (0 : Int) < (mR : Int) := by omega
                  have hmn : 0 < mR := by omega
                  have hm1 : (1 : Int) ≤ (mR : Int) := by omega
                  have HML := hide hml
                  by_cases hcR : cR = 1
                  case' pos =>
                    obtain rfl : mR = 1 := by omega
                    subst hcR
                    obtain rfl : ys = [] := List.length_eq_zero_iff.1 (by omega)
                    have YQ : Byt w2.heap.size (w2.setCell ⟨w1.heap.size, 1, none⟩ (.int .i64 (N1 : Nat))) (.slice (some ⟨gR, oR, none⟩) 0 0) [] := Byt.empty _ _ _ _
                  case' neg =>
                    have hcR' : ¬ 1 = cR := fun h => hcR h.symm
                    have YQ := byt_drop1 HYR.out
                  case pos =>
                    have HHn := hide (HH.out.put 4 (.int .i64 y))
                    have HYn := hide (byt_aside YQ HH.out.pk (noOct6 _ _ _ _ _ _ _ _) 4 (.int .i64 y))
                    have HRLn : Hid (([] : List Int).length ≤ 100000) := by show ([] : List Int).length ≤ 100000; have := HRL.out; simp at this ⊢; try omega
                    clear HH HYR YQ HRL hml hmc hyo
                    have HH := HHn
                    have HYR := HYn
                    have HRL := HRLn
                    clear HHn HYn HRLn
                    have hdoc : docP 4 t = ⟨4, (N1 : Nat), 0, 0, y, []⟩ ∧ (d3 4 t).2.2 = true := by
                      simp [docP, d4, d3, d2, tkIf, hT1]
                    have hgx : (if true = true ∧ May ⟨4, (N1 : Nat), 0, 0, y, []⟩ then ((⟨4, (N1 : Nat), 0, 0, y, []⟩ : PV), (0 : Int)) else (PV.zero, 6)) = (p', er') := by
                      have h := HA.out
                      rw [show getX (4 :: t) = if (d3 4 t).2.2 = true ∧ May (docP 4 t) then (docP 4 t, 0) else (PV.zero, 6) from rfl, hdoc.1, hdoc.2] at h
                      exact h
                    have HGX := hide hgx
                    have HLOW := hide (show w.heap.size + 1 ≤ _ from HH.out.res0.lt)
                    obtain ⟨aD, cD, wD, hap, OD, BD⟩ := appendo_copy HYR.out (by have := HYR.out.len.1; have := HRL.out; omega)
                    simp only [size_put] at hap
                    have HAP := hide hap
                    have HHD := hide (HH.out.belowlo BD)
                    have HYD := hide (ownb_byt OD)
                    obtain ⟨q0, q1, q2, q3, q4, q5⟩ := six_of HHD.out.pk
                    obtain ⟨j0, j1, j2, j3, j4, j5⟩ := six_frozen HHD.out.pk
                    have hck := hcheck_any 4 (N1 : Nat) 0 0 y aD 0 cD [] HYD.out.len.1.symm (wD.setCell ⟨w1.heap.size, 5, none⟩ (.slice aD 0 cD))
                    have HHE := hide (HHD.out.put 5 (.slice aD 0 cD))
                    have HYE := hide (byt_aside HYD.out HHD.out.pk (noOct6 _ _ _ _ _ _ _ _) 5 (.slice aD 0 cD))
                    clear hdoc hgx hap OD BD
                    go_wp2_with (at_builtin; refine Lib.wpList_append_run _ rfl _ _ _ _ rfl _ _ rfl rfl _ _ HAP.out ?_)
                    clear q0 q1 q2 q3 q4 q5 j0 j1 j2 j3 j4 j5 HAP HHD HYD
                    by_cases hM : May ⟨4, (N1 : Nat), 0, 0, y, []⟩
                    · rw [checkP_yes hM] at hck
                      obtain ⟨rfl, rfl⟩ := Prod.mk.inj ((if_pos ⟨by first | trivial | rfl, hM⟩).symm.trans HGX.out)
                      clear hM HGX
                      refine hck.mono ?_
                      rintro e w9 ⟨rfl, b9⟩
                      have HH9 := hide (HHE.out.below' b9)
                      have HY9 := hide (HYE.out.below b9)
                      obtain ⟨g0, g1, g2, g3, g4, g5⟩ := six_of HH9.out.res0
                      obtain ⟨f0, f1, f2, f3, f4, f5⟩ := six_frozen HH9.out.res0
                      obtain ⟨q0, q1, q2, q3, q4, q5⟩ := six_of HH9.out.pk
                      clear hck b9 HHE HYE
                      go_wp2
                      clear g0 g1 g2 g3 g4 g5 f0 f1 f2 f3 f4 f5 q0 q1 q2 q3 q4 q5
                      refine bodyPost_ret (v := .tuple #[.agg #[.int .i64 4, .int .i64 (N1 : Nat), .int .i64 0, .int .i64 0, .int .i64 y, .slice aD 0 cD], .int .i64 0]) ?_ rfl ?_
                      · obtain ⟨g0, g1, g2, g3, g4, g5⟩ := six_of (box_put6 HH9.out.res0 (.int .i64 4) (.int .i64 (N1 : Nat)) (.int .i64 0) (.int .i64 0) (.int .i64 y) (.slice aD 0 cD))
                        unfold put6 at g0 g1 g2 g3 g4 g5
                        simp [results, Try.f23, go_sem, g0, g1, g2, g3, g4, g5]
                      · exact ⟨aD, 0, cD, rfl, (byt_put6 (HY9.out.mono HLOW.out) (Nat.lt_succ_self _) _ _ _ _ _ _).mono (Nat.le_succ _), below_put6 HH9.out.below HH9.out.below.size (Nat.le_refl _) HH9.out.below.size _ _ _ _ _ _⟩
                    · rw [checkP_no hM] at hck
                      obtain ⟨rfl, rfl⟩ := Prod.mk.inj ((if_neg (fun h => hM h.2)).symm.trans HGX.out)
                      clear hM HGX
                      refine hck.mono ?_
                      rintro e w9 ⟨rfl, b9⟩
                      have HH9 := hide (HHE.out.below' b9)
                      have HY9 := hide (HYE.out.below b9)
                      obtain ⟨g0, g1, g2, g3, g4, g5⟩ := six_of HH9.out.res0
                      obtain ⟨f0, f1, f2, f3, f4, f5⟩ := six_frozen HH9.out.res0
                      clear hck b9 HHE HYE
                      go_wp2
                      clear g0 g1 g2 g3 g4 g5 f0 f1 f2 f3 f4 f5
                      refine bodyPost_ret (v := .tuple #[.agg #[.int .i64 0, .int .i64 0, .int .i64 0, .int .i64 0, .int .i64 0, .slice none 0 0], .int .i64 6]) ?_ rfl ?_
                      · obtain ⟨g0, g1, g2, g3, g4, g5⟩ := six_of (box_put6 HH9.out.res0 (.int .i64 0) (.int .i64 0) (.int .i64 0) (.int .i64 0) (.int .i64 0) (.slice none 0 0))
                        unfold put6 at g0 g1 g2 g3 g4 g5
                        simp [results, Try.f23, go_sem, g0, g1, g2, g3, g4, g5]
                      · exact pksaid_zero rfl (below_put6 HH9.out.below HH9.out.below.size (Nat.le_refl _) HH9.out.below.size _ _ _ _ _ _)
                  case neg =>
                    have HHn := hide (HH.out.put 4 (.int .i64 y))
                    have HYn := hide (byt_aside YQ HH.out.pk (noOct6 _ _ _ _ _ _ _ _) 4 (.int .i64 y))
                    have HRLn : Hid (ys.length ≤ 100000) := by show ys.length ≤ 100000; have := HRL.out; simp at this ⊢; try omega
                    clear HH HYR YQ HRL hml hmc hyo
                    have HH := HHn
                    have HYR := HYn
                    have HRL := HRLn
                    clear HHn HYn HRLn
                    have hdoc : docP 4 t = ⟨4, (N1 : Nat), 0, 0, y, ys⟩ ∧ (d3 4 t).2.2 = true := by
                      simp [docP, d4, d3, d2, tkIf, hT1]
                    have hgx : (if true = true ∧ May ⟨4, (N1 : Nat), 0, 0, y, ys⟩ then ((⟨4, (N1 : Nat), 0, 0, y, ys⟩ : PV), (0 : Int)) else (PV.zero, 6)) = (p', er') := by
                      have h := HA.out
                      rw [show getX (4 :: t) = if (d3 4 t).2.2 = true ∧ May (docP 4 t) then (docP 4 t, 0) else (PV.zero, 6) from rfl, hdoc.1, hdoc.2] at h
                      exact h
                    have HGX := hide hgx
                    have HLOW := hide (show w.heap.size + 1 ≤ _ from HH.out.res0.lt)
                    obtain ⟨aD, cD, wD, hap, OD, BD⟩ := appendo_copy HYR.out (by have := HYR.out.len.1; have := HRL.out; omega)
                    simp only [size_put] at hap
                    have HAP := hide hap
                    have HHD := hide (HH.out.belowlo BD)
                    have HYD := hide (ownb_byt OD)
                    obtain ⟨q0, q1, q2, q3, q4, q5⟩ := six_of HHD.out.pk
                    obtain ⟨j0, j1, j2, j3, j4, j5⟩ := six_frozen HHD.out.pk
                    have hck := hcheck_any 4 (N1 : Nat) 0 0 y aD (mR - 1) cD ys HYD.out.len.1.symm (wD.setCell ⟨w1.heap.size, 5, none⟩ (.slice aD (mR - 1) cD))
                    have HHE := hide (HHD.out.put 5 (.slice aD (mR - 1) cD))
                    have HYE := hide (byt_aside HYD.out HHD.out.pk (noOct6 _ _ _ _ _ _ _ _) 5 (.slice aD (mR - 1) cD))
                    clear hdoc hgx hap OD BD
                    go_wp2_with (at_builtin; refine Lib.wpList_append_run _ rfl _ _ _ _ rfl _ _ rfl rfl _ _ HAP.out ?_)
                    clear q0 q1 q2 q3 q4 q5 j0 j1 j2 j3 j4 j5 HAP HHD HYD
                    by_cases hM : May ⟨4, (N1 : Nat), 0, 0, y, ys⟩
                    · rw [checkP_yes hM] at hck
                      obtain ⟨rfl, rfl⟩ := Prod.mk.inj ((if_pos ⟨by first | trivial | rfl, hM⟩).symm.trans HGX.out)
                      clear hM HGX
                      refine hck.mono ?_
                      rintro e w9 ⟨rfl, b9⟩
                      have HH9 := hide (HHE.out.below' b9)
                      have HY9 := hide (HYE.out.below b9)
                      obtain ⟨g0, g1, g2, g3, g4, g5⟩ := six_of HH9.out.res0
                      obtain ⟨f0, f1, f2, f3, f4, f5⟩ := six_frozen HH9.out.res0
                      obtain ⟨q0, q1, q2, q3, q4, q5⟩ := six_of HH9.out.pk
                      clear hck b9 HHE HYE
                      go_wp2
                      clear g0 g1 g2 g3 g4 g5 f0 f1 f2 f3 f4 f5 q0 q1 q2 q3 q4 q5
                      refine bodyPost_ret (v := .tuple #[.agg #[.int .i64 4, .int .i64 (N1 : Nat), .int .i64 0, .int .i64 0, .int .i64 y, .slice aD (mR - 1) cD], .int .i64 0]) ?_ rfl ?_
                      · obtain ⟨g0, g1, g2, g3, g4, g5⟩ := six_of (box_put6 HH9.out.res0 (.int .i64 4) (.int .i64 (N1 : Nat)) (.int .i64 0) (.int .i64 0) (.int .i64 y) (.slice aD (mR - 1) cD))
                        unfold put6 at g0 g1 g2 g3 g4 g5
                        simp [results, Try.f23, go_sem, g0, g1, g2, g3, g4, g5]
                      · exact ⟨aD, (mR - 1), cD, rfl, (byt_put6 (HY9.out.mono HLOW.out) (Nat.lt_succ_self _) _ _ _ _ _ _).mono (Nat.le_succ _), below_put6 HH9.out.below HH9.out.below.size (Nat.le_refl _) HH9.out.below.size _ _ _ _ _ _⟩
                    · rw [checkP_no hM] at hck
                      obtain ⟨rfl, rfl⟩ := Prod.mk.inj ((if_neg (fun h => hM h.2)).symm.trans HGX.out)
                      clear hM HGX
                      refine hck.mono ?_
                      rintro e w9 ⟨rfl, b9⟩
                      have HH9 := hide (HHE.out.below' b9)
                      have HY9 := hide (HYE.out.below b9)
                      obtain ⟨g0, g1, g2, g3, g4, g5⟩ := six_of HH9.out.res0
                      obtain ⟨f0, f1, f2, f3, f4, f5⟩ := six_frozen HH9.out.res0
                      clear hck b9 HHE HYE
                      go_wp2
                      clear g0 g1 g2 g3 g4 g5 f0 f1 f2 f3 f4 f5
                      refine bodyPost_ret (v := .tuple #[.agg #[.int .i64 0, .int .i64 0, .int .i64 0, .int .i64 0, .int .i64 0, .slice none 0 0], .int .i64 6]) ?_ rfl ?_
                      · obtain ⟨g0, g1, g2, g3, g4, g5⟩ := six_of (box_put6 HH9.out.res0 (.int .i64 0) (.int .i64 0) (.int .i64 0) (.int .i64 0) (.int .i64 0) (.slice none 0 0))
                        unfold put6 at g0 g1 g2 g3 g4 g5
                        simp [results, Try.f23, go_sem, g0, g1, g2, g3, g4, g5]
                      · exact pksaid_zero rfl (below_put6 HH9.out.below HH9.out.below.size (Nat.le_refl _) HH9.out.below.size _ _ _ _ _ _)
            · have hb1 : (k == 1) = false := beq_eq_false_iff_ne.2 hk1
              have hb2 : (k == 2) = false := beq_eq_false_iff_ne.2 hk2
              have hb4 : (k == 4) = false := beq_eq_false_iff_ne.2 hk4
              cases ok1 with
              | false =>
                have hdoc : docP k t = ⟨k, (N1 : Nat), 0, 0, 0, rR⟩ ∧ (d3 k t).2.2 = false := by
                  simp [docP, d4, d3, d2, tkIf, hT1, hk1, hk2, hk4]
                have hgx : (if false = true ∧ May ⟨k, (N1 : Nat), 0, 0, 0, rR⟩ then ((⟨k, (N1 : Nat), 0, 0, 0, rR⟩ : PV), (0 : Int)) else (PV.zero, 6)) = (p', er') := by
                  have h := HA.out
                  rw [show getX (k :: t) = if (d3 k t).2.2 = true ∧ May (docP k t) then (docP k t, 0) else (PV.zero, 6) from rfl, hdoc.1, hdoc.2] at h
                  exact h
                have HGX := hide hgx
                have HLOW := hide (show w.heap.size + 1 ≤ _ from HH.out.res0.lt)
                obtain ⟨aD, cD, wD, hap, OD, BD⟩ := appendo_copy HYR.out (by have := HYR.out.len.1; have := HRL.out; omega)
                simp only [size_put] at hap
                have HAP := hide hap
                have HHD := hide (HH.out.belowlo BD)
                have HYD := hide (ownb_byt OD)
                obtain ⟨q0, q1, q2, q3, q4, q5⟩ := six_of HHD.out.pk
                obtain ⟨j0, j1, j2, j3, j4, j5⟩ := six_frozen HHD.out.pk
                obtain ⟨g0, g1, g2, g3, g4, g5⟩ := six_of HHD.out.res0
                obtain ⟨f0, f1, f2, f3, f4, f5⟩ := six_frozen HHD.out.res0
                obtain ⟨rfl, rfl⟩ := Prod.mk.inj ((if_neg (fun h => absurd h.1 (by decide))).symm.trans HGX.out)
                clear hdoc hgx hap OD BD
                go_wp2_with (at_builtin; refine Lib.wpList_append_run _ rfl _ _ _ _ rfl _ _ rfl rfl _ _ HAP.out ?_)
                clear g0 g1 g2 g3 g4 g5 f0 f1 f2 f3 f4 f5 q0 q1 q2 q3 q4 q5 j0 j1 j2 j3 j4 j5
                have HHE := hide (HHD.out.put 5 (.slice aD mR cD))
                refine bodyPost_ret (v := .tuple #[.agg #[.int .i64 0, .int .i64 0, .int .i64 0, .int .i64 0, .int .i64 0, .slice none 0 0], .int .i64 6]) ?_ rfl ?_
                · obtain ⟨g0, g1, g2, g3, g4, g5⟩ := six_of (box_put6 HHE.out.res0 (.int .i64 0) (.int .i64 0) (.int .i64 0) (.int .i64 0) (.int .i64 0) (.slice none 0 0))
                  unfold put6 at g0 g1 g2 g3 g4 g5
                  simp [results, Try.f23, go_sem, g0, g1, g2, g3, g4, g5]
                · exact pksaid_zero rfl (below_put6 HHE.out.below HHE.out.below.size (Nat.le_refl _) HHE.out.below.size _ _ _ _ _ _)
              | true =>
                have hdoc : docP k t = ⟨k, (N1 : Nat), 0, 0, 0, rR⟩ ∧ (d3 k t).2.2 = true := by
                  simp [docP, d4, d3, d2, tkIf, hT1, hk1, hk2, hk4]
                have hgx : (if true = true ∧ May ⟨k, (N1 : Nat), 0, 0, 0, rR⟩ then ((⟨k, (N1 : Nat), 0, 0, 0, rR⟩ : PV), (0 : Int)) else (PV.zero, 6)) = (p', er') := by
                  have h := HA.out
                  rw [show getX (k :: t) = if (d3 k t).2.2 = true ∧ May (docP k t) then (docP k t, 0) else (PV.zero, 6) from rfl, hdoc.1, hdoc.2] at h
                  exact h
                have HGX := hide hgx
                have HLOW := hide (show w.heap.size + 1 ≤ _ from HH.out.res0.lt)
                obtain ⟨aD, cD, wD, hap, OD, BD⟩ := appendo_copy HYR.out (by have := HYR.out.len.1; have := HRL.out; omega)
                simp only [size_put] at hap
                have HAP := hide hap
                have HHD := hide (HH.out.belowlo BD)
                have HYD := hide (ownb_byt OD)
                obtain ⟨q0, q1, q2, q3, q4, q5⟩ := six_of HHD.out.pk
                obtain ⟨j0, j1, j2, j3, j4, j5⟩ := six_frozen HHD.out.pk
                have hck := hcheck_any k (N1 : Nat) 0 0 0 aD mR cD rR HYD.out.len.1.symm (wD.setCell ⟨w1.heap.size, 5, none⟩ (.slice aD mR cD))
                have HHE := hide (HHD.out.put 5 (.slice aD mR cD))
                have HYE := hide (byt_aside HYD.out HHD.out.pk (noOct6 _ _ _ _ _ _ _ _) 5 (.slice aD mR cD))
                clear hdoc hgx hap OD BD
                go_wp2_with (at_builtin; refine Lib.wpList_append_run _ rfl _ _ _ _ rfl _ _ rfl rfl _ _ HAP.out ?_)
                clear q0 q1 q2 q3 q4 q5 j0 j1 j2 j3 j4 j5 HAP HHD HYD
                by_cases hM : May ⟨k, (N1 : Nat), 0, 0, 0, rR⟩
                · rw [checkP_yes hM] at hck
                  obtain ⟨rfl, rfl⟩ := Prod.mk.inj ((if_pos ⟨by first | trivial | rfl, hM⟩).symm.trans HGX.out)
                  clear hM HGX
                  refine hck.mono ?_
                  rintro e w9 ⟨rfl, b9⟩
                  have HH9 := hide (HHE.out.below' b9)
                  have HY9 := hide (HYE.out.below b9)
                  obtain ⟨g0, g1, g2, g3, g4, g5⟩ := six_of HH9.out.res0
                  obtain ⟨f0, f1, f2, f3, f4, f5⟩ := six_frozen HH9.out.res0
                  obtain ⟨q0, q1, q2, q3, q4, q5⟩ := six_of HH9.out.pk
                  clear hck b9 HHE HYE
                  go_wp2
                  clear g0 g1 g2 g3 g4 g5 f0 f1 f2 f3 f4 f5 q0 q1 q2 q3 q4 q5
                  refine bodyPost_ret (v := .tuple #[.agg #[.int .i64 k, .int .i64 (N1 : Nat), .int .i64 0, .int .i64 0, .int .i64 0, .slice aD mR cD], .int .i64 0]) ?_ rfl ?_
                  · obtain ⟨g0, g1, g2, g3, g4, g5⟩ := six_of (box_put6 HH9.out.res0 (.int .i64 k) (.int .i64 (N1 : Nat)) (.int .i64 0) (.int .i64 0) (.int .i64 0) (.slice aD mR cD))
                    unfold put6 at g0 g1 g2 g3 g4 g5
                    simp [results, Try.f23, go_sem, g0, g1, g2, g3, g4, g5]
                  · exact ⟨aD, mR, cD, rfl, (byt_put6 (HY9.out.mono HLOW.out) (Nat.lt_succ_self _) _ _ _ _ _ _).mono (Nat.le_succ _), below_put6 HH9.out.below HH9.out.below.size (Nat.le_refl _) HH9.out.below.size _ _ _ _ _ _⟩
                · rw [checkP_no hM] at hck
                  obtain ⟨rfl, rfl⟩ := Prod.mk.inj ((if_neg (fun h => hM h.2)).symm.trans HGX.out)
                  clear hM HGX
                  refine hck.mono ?_
                  rintro e w9 ⟨rfl, b9⟩
                  have HH9 := hide (HHE.out.below' b9)
                  have HY9 := hide (HYE.out.below b9)
                  obtain ⟨g0, g1, g2, g3, g4, g5⟩ := six_of HH9.out.res0
                  obtain ⟨f0, f1, f2, f3, f4, f5⟩ := six_frozen HH9.out.res0
                  clear hck b9 HHE HYE
                  go_wp2
                  clear g0 g1 g2 g3 g4 g5 f0 f1 f2 f3 f4 f5
                  refine bodyPost_ret (v := .tuple #[.agg #[.int .i64 0, .int .i64 0, .int .i64 0, .int .i64 0, .int .i64 0, .slice none 0 0], .int .i64 6]) ?_ rfl ?_
                  · obtain ⟨g0, g1, g2, g3, g4, g5⟩ := six_of (box_put6 HH9.out.res0 (.int .i64 0) (.int .i64 0) (.int .i64 0) (.int .i64 0) (.int .i64 0) (.slice none 0 0))
                    unfold put6 at g0 g1 g2 g3 g4 g5
                    simp [results, Try.f23, go_sem, g0, g1, g2, g3, g4, g5]
                  · exact pksaid_zero rfl (below_put6 HH9.out.below HH9.out.below.size (Nat.le_refl _) HH9.out.below.size _ _ _ _ _ _)
      · have hcap' : ¬ 1 = c1 := fun h => hcap h.symm
        have YT := (byt_drop1 HY1.out).mono (lo' := w.heap.size + 1) (by rw [World.size_alloc]; exact Nat.le_refl _)
        have ht := htake_any (YT.below (below_new w1 (.cells #[.int .i64 k, .int .i64 0, .int .i64 0, .int .i64 0, .int .i64 0, .slice none 0 0] 24)))
        obtain ⟨⟨N1, rR, ok1⟩, hT1⟩ : ∃ q, tk t = q := ⟨_, rfl⟩
        rw [hT1] at ht
        have hrl : rR.length ≤ 100000 := by have := tk_len t; rw [hT1] at this; have := HL.out; simp at *; omega
        have HRL := hide hrl
        clear hrl
        go_wp2_with fail
        refine ht.mono ?_
        rintro e w2 ⟨aR, mR, cR, rfl, YR, b2⟩
        have H2 := HH0.out.below' b2
        have HH := hide (H2.put 1 (.int .i64 (N1 : Nat)))
        have HYR := hide (byt_aside YR H2.pk (noOct6 _ _ _ _ _ _ _ _) 1 (.int .i64 (N1 : Nat)))
        obtain ⟨k0, k1, k2, k3, k4, k5⟩ := six_of H2.pk
        obtain ⟨e0, e1, e2, e3, e4, e5⟩ := six_frozen H2.pk
        clear ht b2 YR H2 HH0 YT y0
        by_cases hk1 : k = 1
        · subst hk1
          cases ok1 with
          | false =>
            have hdoc : docP 1 t = ⟨1, (N1 : Nat), 0, 0, 0, rR⟩ ∧ (d3 1 t).2.2 = false := by
              simp [docP, d4, d3, d2, tkIf, hT1]
            have hgx : (if false = true ∧ May ⟨1, (N1 : Nat), 0, 0, 0, rR⟩ then ((⟨1, (N1 : Nat), 0, 0, 0, rR⟩ : PV), (0 : Int)) else (PV.zero, 6)) = (p', er') := by
              have h := HA.out
              rw [show getX (1 :: t) = if (d3 1 t).2.2 = true ∧ May (docP 1 t) then (docP 1 t, 0) else (PV.zero, 6) from rfl, hdoc.1, hdoc.2] at h
              exact h
            have HGX := hide hgx
            have HLOW := hide (show w.heap.size + 1 ≤ _ from HH.out.res0.lt)
            obtain ⟨aD, cD, wD, hap, OD, BD⟩ := appendo_copy HYR.out (by have := HYR.out.len.1; have := HRL.out; omega)
            simp only [size_put] at hap
            have HAP := hide hap
            have HHD := hide (HH.out.belowlo BD)
            have HYD := hide (ownb_byt OD)
            obtain ⟨q0, q1, q2, q3, q4, q5⟩ := six_of HHD.out.pk
            obtain ⟨j0, j1, j2, j3, j4, j5⟩ := six_frozen HHD.out.pk
            obtain ⟨g0, g1, g2, g3, g4, g5⟩ := six_of HHD.out.res0
            obtain ⟨f0, f1, f2, f3, f4, f5⟩ := six_frozen HHD.out.res0
            obtain ⟨rfl, rfl⟩ := Prod.mk.inj ((if_neg (fun h => absurd h.1 (by decide))).symm.trans HGX.out)
            clear hdoc hgx hap OD BD
            go_wp2_with (at_builtin; refine Lib.wpList_append_run _ rfl _ _ _ _ rfl _ _ rfl rfl _ _ HAP.out ?_)
            clear g0 g1 g2 g3 g4 g5 f0 f1 f2 f3 f4 f5 q0 q1 q2 q3 q4 q5 j0 j1 j2 j3 j4 j5
            have HHE := hide (HHD.out.put 5 (.slice aD mR cD))
            refine bodyPost_ret (v := .tuple #[.agg #[.int .i64 0, .int .i64 0, .int .i64 0, .int .i64 0, .int .i64 0, .slice none 0 0], .int .i64 6]) ?_ rfl ?_
            · obtain ⟨g0, g1, g2, g3, g4, g5⟩ := six_of (box_put6 HHE.out.res0 (.int .i64 0) (.int .i64 0) (.int .i64 0) (.int .i64 0) (.int .i64 0) (.slice none 0 0))
              unfold put6 at g0 g1 g2 g3 g4 g5
              simp [results, Try.f23, go_sem, g0, g1, g2, g3, g4, g5]
            · exact pksaid_zero rfl (below_put6 HHE.out.below HHE.out.below.size (Nat.le_refl _) HHE.out.below.size _ _ _ _ _ _)
          | true =>
            have ht := htake_any HYR.out
            obtain ⟨⟨N2, r2, ok2⟩, hT2⟩ : ∃ q, tk rR = q := ⟨_, rfl⟩
            rw [hT2] at ht
            have hrl : r2.length ≤ 100000 := by have := tk_len rR; rw [hT2] at this; have := HRL.out; simp at *; omega
            have HRL2 := hide hrl
            clear hrl
            go_wp2_with fail
            refine ht.mono ?_
            rintro e z2 ⟨a2, m2, c2, rfl, YS, bS⟩
            have HS := HH.out.below' bS
            have HHn := hide (HS.put 2 (.int .i64 (N2 : Nat)))
            have HYn := hide (byt_aside YS HS.pk (noOct6 _ _ _ _ _ _ _ _) 2 (.int .i64 (N2 : Nat)))
            clear k0 k1 k2 k3 k4 k5 e0 e1 e2 e3 e4 e5
            obtain ⟨k0, k1, k2, k3, k4, k5⟩ := six_of HS.pk
            obtain ⟨e0, e1, e2, e3, e4, e5⟩ := six_frozen HS.pk
            clear ht bS YS HS HH HYR HRL
            have HH := HHn
            have HYR := HYn
            have HRL := HRL2
            clear HHn HYn HRL2
            cases ok2 with
            | false =>
              have hdoc : docP 1 t = ⟨1, (N1 : Nat), (N2 : Nat), 0, 0, r2⟩ ∧ (d3 1 t).2.2 = false := by
                simp [docP, d4, d3, d2, tkIf, hT1, hT2]
              have hgx : (if false = true ∧ May ⟨1, (N1 : Nat), (N2 : Nat), 0, 0, r2⟩ then ((⟨1, (N1 : Nat), (N2 : Nat), 0, 0, r2⟩ : PV), (0 : Int)) else (PV.zero, 6)) = (p', er') := by
                have h := HA.out
                rw [show getX (1 :: t) = if (d3 1 t).2.2 = true ∧ May (docP 1 t) then (docP 1 t, 0) else (PV.zero, 6) from rfl, hdoc.1, hdoc.2] at h
                exact h
              have HGX := hide hgx
              have HLOW := hide (show w.heap.size + 1 ≤ _ from HH.out.res0.lt)
              obtain ⟨aD, cD, wD, hap, OD, BD⟩ := appendo_copy HYR.out (by have := HYR.out.len.1; have := HRL.out; omega)
              simp only [size_put] at hap
              have HAP := hide hap
              have HHD := hide (HH.out.belowlo BD)
              have HYD := hide (ownb_byt OD)
              obtain ⟨q0, q1, q2, q3, q4, q5⟩ := six_of HHD.out.pk
              obtain ⟨j0, j1, j2, j3, j4, j5⟩ := six_frozen HHD.out.pk
              obtain ⟨g0, g1, g2, g3, g4, g5⟩ := six_of HHD.out.res0
              obtain ⟨f0, f1, f2, f3, f4, f5⟩ := six_frozen HHD.out.res0
              obtain ⟨rfl, rfl⟩ := Prod.mk.inj ((if_neg (fun h => absurd h.1 (by decide))).symm.trans HGX.out)
              clear hdoc hgx hap OD BD
              go_wp2_with (at_builtin; refine Lib.wpList_append_run _ rfl _ _ _ _ rfl _ _ rfl rfl _ _ HAP.out ?_)
              clear g0 g1 g2 g3 g4 g5 f0 f1 f2 f3 f4 f5 q0 q1 q2 q3 q4 q5 j0 j1 j2 j3 j4 j5
              have HHE := hide (HHD.out.put 5 (.slice aD m2 cD))
              refine bodyPost_ret (v := .tuple #[.agg #[.int .i64 0, .int .i64 0, .int .i64 0, .int .i64 0, .int .i64 0, .slice none 0 0], .int .i64 6]) ?_ rfl ?_
              · obtain ⟨g0, g1, g2, g3, g4, g5⟩ := six_of (box_put6 HHE.out.res0 (.int .i64 0) (.int .i64 0) (.int .i64 0) (.int .i64 0) (.int .i64 0) (.slice none 0 0))
                unfold put6 at g0 g1 g2 g3 g4 g5
                simp [results, Try.f23, go_sem, g0, g1, g2, g3, g4, g5]
              · exact pksaid_zero rfl (below_put6 HHE.out.below HHE.out.below.size (Nat.le_refl _) HHE.out.below.size _ _ _ _ _ _)
            | true =>
              have ht := htake_any HYR.out
              obtain ⟨⟨N3, r3, ok3⟩, hT3⟩ : ∃ q, tk r2 = q := ⟨_, rfl⟩
              rw [hT3] at ht
              have hrl : r3.length ≤ 100000 := by have := tk_len r2; rw [hT3] at this; have := HRL.out; simp at *; omega
              have HRL3 := hide hrl
              clear hrl
              go_wp2_with fail
              refine ht.mono ?_
              rintro e z3 ⟨a3, m3, c3, rfl, YS, bS⟩
              have HS := HH.out.below' bS
              have HHn := hide (HS.put 3 (.int .i64 (N3 : Nat)))
              have HYn := hide (byt_aside YS HS.pk (noOct6 _ _ _ _ _ _ _ _) 3 (.int .i64 (N3 : Nat)))
              clear k0 k1 k2 k3 k4 k5 e0 e1 e2 e3 e4 e5
              obtain ⟨k0, k1, k2, k3, k4, k5⟩ := six_of HS.pk
              obtain ⟨e0, e1, e2, e3, e4, e5⟩ := six_frozen HS.pk
              clear ht bS YS HS HH HYR HRL
              have HH := HHn
              have HYR := HYn
              have HRL := HRL3
              clear HHn HYn HRL3
              cases ok3 with
              | false =>
                have hdoc : docP 1 t = ⟨1, (N1 : Nat), (N2 : Nat), (N3 : Nat), 0, r3⟩ ∧ (d3 1 t).2.2 = false := by
                  simp [docP, d4, d3, d2, tkIf, hT1, hT2, hT3]
                have hgx : (if false = true ∧ May ⟨1, (N1 : Nat), (N2 : Nat), (N3 : Nat), 0, r3⟩ then ((⟨1, (N1 : Nat), (N2 : Nat), (N3 : Nat), 0, r3⟩ : PV), (0 : Int)) else (PV.zero, 6)) = (p', er') := by
                  have h := HA.out
                  rw [show getX (1 :: t) = if (d3 1 t).2.2 = true ∧ May (docP 1 t) then (docP 1 t, 0) else (PV.zero, 6) from rfl, hdoc.1, hdoc.2] at h
                  exact h
                have HGX := hide hgx
                have HLOW := hide (show w.heap.size + 1 ≤ _ from HH.out.res0.lt)
                obtain ⟨aD, cD, wD, hap, OD, BD⟩ := appendo_copy HYR.out (by have := HYR.out.len.1; have := HRL.out; omega)
                simp only [size_put] at hap
                have HAP := hide hap
                have HHD := hide (HH.out.belowlo BD)
                have HYD := hide (ownb_byt OD)
                obtain ⟨q0, q1, q2, q3, q4, q5⟩ := six_of HHD.out.pk
                obtain ⟨j0, j1, j2, j3, j4, j5⟩ := six_frozen HHD.out.pk
                obtain ⟨g0, g1, g2, g3, g4, g5⟩ := six_of HHD.out.res0
                obtain ⟨f0, f1, f2, f3, f4, f5⟩ := six_frozen HHD.out.res0
                obtain ⟨rfl, rfl⟩ := Prod.mk.inj ((if_neg (fun h => absurd h.1 (by decide))).symm.trans HGX.out)
                clear hdoc hgx hap OD BD
                go_wp2_with (at_builtin; refine Lib.wpList_append_run _ rfl _ _ _ _ rfl _ _ rfl rfl _ _ HAP.out ?_)
                clear g0 g1 g2 g3 g4 g5 f0 f1 f2 f3 f4 f5 q0 q1 q2 q3 q4 q5 j0 j1 j2 j3 j4 j5
                have HHE := hide (HHD.out.put 5 (.slice aD m3 cD))
                refine bodyPost_ret (v := .tuple #[.agg #[.int .i64 0, .int .i64 0, .int .i64 0, .int .i64 0, .int .i64 0, .slice none 0 0], .int .i64 6]) ?_ rfl ?_
                · obtain ⟨g0, g1, g2, g3, g4, g5⟩ := six_of (box_put6 HHE.out.res0 (.int .i64 0) (.int .i64 0) (.int .i64 0) (.int .i64 0) (.int .i64 0) (.slice none 0 0))
                  unfold put6 at g0 g1 g2 g3 g4 g5
                  simp [results, Try.f23, go_sem, g0, g1, g2, g3, g4, g5]
                · exact pksaid_zero rfl (below_put6 HHE.out.below HHE.out.below.size (Nat.le_refl _) HHE.out.below.size _ _ _ _ _ _)
              | true =>
                have hdoc : docP 1 t = ⟨1, (N1 : Nat), (N2 : Nat), (N3 : Nat), 0, r3⟩ ∧ (d3 1 t).2.2 = true := by
                  simp [docP, d4, d3, d2, tkIf, hT1, hT2, hT3]
                have hgx : (if true = true ∧ May ⟨1, (N1 : Nat), (N2 : Nat), (N3 : Nat), 0, r3⟩ then ((⟨1, (N1 : Nat), (N2 : Nat), (N3 : Nat), 0, r3⟩ : PV), (0 : Int)) else (PV.zero, 6)) = (p', er') := by
                  have h := HA.out
                  rw [show getX (1 :: t) = if (d3 1 t).2.2 = true ∧ May (docP 1 t) then (docP 1 t, 0) else (PV.zero, 6) from rfl, hdoc.1, hdoc.2] at h
                  exact h
                have HGX := hide hgx
                have HLOW := hide (show w.heap.size + 1 ≤ _ from HH.out.res0.lt)
                obtain ⟨aD, cD, wD, hap, OD, BD⟩ := appendo_copy HYR.out (by have := HYR.out.len.1; have := HRL.out; omega)
                simp only [size_put] at hap
                have HAP := hide hap
                have HHD := hide (HH.out.belowlo BD)
                have HYD := hide (ownb_byt OD)
                obtain ⟨q0, q1, q2, q3, q4, q5⟩ := six_of HHD.out.pk
                obtain ⟨j0, j1, j2, j3, j4, j5⟩ := six_frozen HHD.out.pk
                have hck := hcheck_any 1 (N1 : Nat) (N2 : Nat) (N3 : Nat) 0 aD m3 cD r3 HYD.out.len.1.symm (wD.setCell ⟨w1.heap.size, 5, none⟩ (.slice aD m3 cD))
                have HHE := hide (HHD.out.put 5 (.slice aD m3 cD))
                have HYE := hide (byt_aside HYD.out HHD.out.pk (noOct6 _ _ _ _ _ _ _ _) 5 (.slice aD m3 cD))
                clear hdoc hgx hap OD BD
                go_wp2_with (at_builtin; refine Lib.wpList_append_run _ rfl _ _ _ _ rfl _ _ rfl rfl _ _ HAP.out ?_)
                clear q0 q1 q2 q3 q4 q5 j0 j1 j2 j3 j4 j5 HAP HHD HYD
                by_cases hM : May ⟨1, (N1 : Nat), (N2 : Nat), (N3 : Nat), 0, r3⟩
                · rw [checkP_yes hM] at hck
                  obtain ⟨rfl, rfl⟩ := Prod.mk.inj ((if_pos ⟨by first | trivial | rfl, hM⟩).symm.trans HGX.out)
                  clear hM HGX
                  refine hck.mono ?_
                  rintro e w9 ⟨rfl, b9⟩
                  have HH9 := hide (HHE.out.below' b9)
                  have HY9 := hide (HYE.out.below b9)
                  obtain ⟨g0, g1, g2, g3, g4, g5⟩ := six_of HH9.out.res0
                  obtain ⟨f0, f1, f2, f3, f4, f5⟩ := six_frozen HH9.out.res0
                  obtain ⟨q0, q1, q2, q3, q4, q5⟩ := six_of HH9.out.pk
                  clear hck b9 HHE HYE
                  go_wp2
                  clear g0 g1 g2 g3 g4 g5 f0 f1 f2 f3 f4 f5 q0 q1 q2 q3 q4 q5
                  refine bodyPost_ret (v := .tuple #[.agg #[.int .i64 1, .int .i64 (N1 : Nat), .int .i64 (N2 : Nat), .int .i64 (N3 : Nat), .int .i64 0, .slice aD m3 cD], .int .i64 0]) ?_ rfl ?_
                  · obtain ⟨g0, g1, g2, g3, g4, g5⟩ := six_of (box_put6 HH9.out.res0 (.int .i64 1) (.int .i64 (N1 : Nat)) (.int .i64 (N2 : Nat)) (.int .i64 (N3 : Nat)) (.int .i64 0) (.slice aD m3 cD))
                    unfold put6 at g0 g1 g2 g3 g4 g5
                    simp [results, Try.f23, go_sem, g0, g1, g2, g3, g4, g5]
                  · exact ⟨aD, m3, cD, rfl, (byt_put6 (HY9.out.mono HLOW.out) (Nat.lt_succ_self _) _ _ _ _ _ _).mono (Nat.le_succ _), below_put6 HH9.out.below HH9.out.below.size (Nat.le_refl _) HH9.out.below.size _ _ _ _ _ _⟩
                · rw [checkP_no hM] at hck
                  obtain ⟨rfl, rfl⟩ := Prod.mk.inj ((if_neg (fun h => hM h.2)).symm.trans HGX.out)
                  clear hM HGX
                  refine hck.mono ?_
                  rintro e w9 ⟨rfl, b9⟩
                  have HH9 := hide (HHE.out.below' b9)
                  have HY9 := hide (HYE.out.below b9)
                  obtain ⟨g0, g1, g2, g3, g4, g5⟩ := six_of HH9.out.res0
                  obtain ⟨f0, f1, f2, f3, f4, f5⟩ := six_frozen HH9.out.res0
                  clear hck b9 HHE HYE
                  go_wp2
                  clear g0 g1 g2 g3 g4 g5 f0 f1 f2 f3 f4 f5
                  refine bodyPost_ret (v := .tuple #[.agg #[.int .i64 0, .int .i64 0, .int .i64 0, .int .i64 0, .int .i64 0, .slice none 0 0], .int .i64 6]) ?_ rfl ?_
                  · obtain ⟨g0, g1, g2, g3, g4, g5⟩ := six_of (box_put6 HH9.out.res0 (.int .i64 0) (.int .i64 0) (.int .i64 0) (.int .i64 0) (.int .i64 0) (.slice none 0 0))
                    unfold put6 at g0 g1 g2 g3 g4 g5
                    simp [results, Try.f23, go_sem, g0, g1, g2, g3, g4, g5]
                  · exact pksaid_zero rfl (below_put6 HH9.out.below HH9.out.below.size (Nat.le_refl _) HH9.out.below.size _ _ _ _ _ _)
        · by_cases hk2 : k = 2
          · subst hk2
            cases ok1 with
            | false =>
              have hdoc : docP 2 t = ⟨2, (N1 : Nat), 0, 0, 0, rR⟩ ∧ (d3 2 t).2.2 = false := by
                simp [docP, d4, d3, d2, tkIf, hT1]
              have hgx : (if false = true ∧ May ⟨2, (N1 : Nat), 0, 0, 0, rR⟩ then ((⟨2, (N1 : Nat), 0, 0, 0, rR⟩ : PV), (0 : Int)) else (PV.zero, 6)) = (p', er') := by
                have h := HA.out
                rw [show getX (2 :: t) = if (d3 2 t).2.2 = true ∧ May (docP 2 t) then (docP 2 t, 0) else (PV.zero, 6) from rfl, hdoc.1, hdoc.2] at h
                exact h
              have HGX := hide hgx
              have HLOW := hide (show w.heap.size + 1 ≤ _ from HH.out.res0.lt)
              obtain ⟨aD, cD, wD, hap, OD, BD⟩ := appendo_copy HYR.out (by have := HYR.out.len.1; have := HRL.out; omega)
              simp only [size_put] at hap
              have HAP := hide hap
              have HHD := hide (HH.out.belowlo BD)
              have HYD := hide (ownb_byt OD)
              obtain ⟨q0, q1, q2, q3, q4, q5⟩ := six_of HHD.out.pk
              obtain ⟨j0, j1, j2, j3, j4, j5⟩ := six_frozen HHD.out.pk
              obtain ⟨g0, g1, g2, g3, g4, g5⟩ := six_of HHD.out.res0
              obtain ⟨f0, f1, f2, f3, f4, f5⟩ := six_frozen HHD.out.res0
              obtain ⟨rfl, rfl⟩ := Prod.mk.inj ((if_neg (fun h => absurd h.1 (by decide))).symm.trans HGX.out)
              clear hdoc hgx hap OD BD
              go_wp2_with (at_builtin; refine Lib.wpList_append_run _ rfl _ _ _ _ rfl _ _ rfl rfl _ _ HAP.out ?_)
              clear g0 g1 g2 g3 g4 g5 f0 f1 f2 f3 f4 f5 q0 q1 q2 q3 q4 q5 j0 j1 j2 j3 j4 j5
              have HHE := hide (HHD.out.put 5 (.slice aD mR cD))
              refine bodyPost_ret (v := .tuple #[.agg #[.int .i64 0, .int .i64 0, .int .i64 0, .int .i64 0, .int .i64 0, .slice none 0 0], .int .i64 6]) ?_ rfl ?_
              · obtain ⟨g0, g1, g2, g3, g4, g5⟩ := six_of (box_put6 HHE.out.res0 (.int .i64 0) (.int .i64 0) (.int .i64 0) (.int .i64 0) (.int .i64 0) (.slice none 0 0))
                unfold put6 at g0 g1 g2 g3 g4 g5
                simp [results, Try.f23, go_sem, g0, g1, g2, g3, g4, g5]
              · exact pksaid_zero rfl (below_put6 HHE.out.below HHE.out.below.size (Nat.le_refl _) HHE.out.below.size _ _ _ _ _ _)
            | true =>
              have ht := htake_any HYR.out
              obtain ⟨⟨N2, r2, ok2⟩, hT2⟩ : ∃ q, tk rR = q := ⟨_, rfl⟩
              rw [hT2] at ht
              have hrl : r2.length ≤ 100000 := by have := tk_len rR; rw [hT2] at this; have := HRL.out; simp at *; omega
              have HRL2 := hide hrl
              clear hrl
              go_wp2_with fail
              refine ht.mono ?_
              rintro e z2 ⟨a2, m2, c2, rfl, YS, bS⟩
              have HS := HH.out.below' bS
              have HHn := hide (HS.put 2 (.int .i64 (N2 : Nat)))
              have HYn := hide (byt_aside YS HS.pk (noOct6 _ _ _ _ _ _ _ _) 2 (.int .i64 (N2 : Nat)))
              clear k0 k1 k2 k3 k4 k5 e0 e1 e2 e3 e4 e5
              obtain ⟨k0, k1, k2, k3, k4, k5⟩ := six_of HS.pk
              obtain ⟨e0, e1, e2, e3, e4, e5⟩ := six_frozen HS.pk
              clear ht bS YS HS HH HYR HRL
              have HH := HHn
              have HYR := HYn
              have HRL := HRL2
              clear HHn HYn HRL2
              cases ok2 with
              | false =>
                have hdoc : docP 2 t = ⟨2, (N1 : Nat), (N2 : Nat), 0, 0, r2⟩ ∧ (d3 2 t).2.2 = false := by
                  simp [docP, d4, d3, d2, tkIf, hT1, hT2]
                have hgx : (if false = true ∧ May ⟨2, (N1 : Nat), (N2 : Nat), 0, 0, r2⟩ then ((⟨2, (N1 : Nat), (N2 : Nat), 0, 0, r2⟩ : PV), (0 : Int)) else (PV.zero, 6)) = (p', er') := by
                  have h := HA.out
                  rw [show getX (2 :: t) = if (d3 2 t).2.2 = true ∧ May (docP 2 t) then (docP 2 t, 0) else (PV.zero, 6) from rfl, hdoc.1, hdoc.2] at h
                  exact h
                have HGX := hide hgx
                have HLOW := hide (show w.heap.size + 1 ≤ _ from HH.out.res0.lt)
                obtain ⟨aD, cD, wD, hap, OD, BD⟩ := appendo_copy HYR.out (by have := HYR.out.len.1; have := HRL.out; omega)
                simp only [size_put] at hap
                have HAP := hide hap
                have HHD := hide (HH.out.belowlo BD)
                have HYD := hide (ownb_byt OD)
                obtain ⟨q0, q1, q2, q3, q4, q5⟩ := six_of HHD.out.pk
                obtain ⟨j0, j1, j2, j3, j4, j5⟩ := six_frozen HHD.out.pk
                obtain ⟨g0, g1, g2, g3, g4, g5⟩ := six_of HHD.out.res0
                obtain ⟨f0, f1, f2, f3, f4, f5⟩ := six_frozen HHD.out.res0
                obtain ⟨rfl, rfl⟩ := Prod.mk.inj ((if_neg (fun h => absurd h.1 (by decide))).symm.trans HGX.out)
                clear hdoc hgx hap OD BD
                go_wp2_with (at_builtin; refine Lib.wpList_append_run _ rfl _ _ _ _ rfl _ _ rfl rfl _ _ HAP.out ?_)
                clear g0 g1 g2 g3 g4 g5 f0 f1 f2 f3 f4 f5 q0 q1 q2 q3 q4 q5 j0 j1 j2 j3 j4 j5
                have HHE := hide (HHD.out.put 5 (.slice aD m2 cD))
                refine bodyPost_ret (v := .tuple #[.agg #[.int .i64 0, .int .i64 0, .int .i64 0, .int .i64 0, .int .i64 0, .slice none 0 0], .int .i64 6]) ?_ rfl ?_
                · obtain ⟨g0, g1, g2, g3, g4, g5⟩ := six_of (box_put6 HHE.out.res0 (.int .i64 0) (.int .i64 0) (.int .i64 0) (.int .i64 0) (.int .i64 0) (.slice none 0 0))
                  unfold put6 at g0 g1 g2 g3 g4 g5
                  simp [results, Try.f23, go_sem, g0, g1, g2, g3, g4, g5]
                · exact pksaid_zero rfl (below_put6 HHE.out.below HHE.out.below.size (Nat.le_refl _) HHE.out.below.size _ _ _ _ _ _)
              | true =>
                have hdoc : docP 2 t = ⟨2, (N1 : Nat), (N2 : Nat), 0, 0, r2⟩ ∧ (d3 2 t).2.2 = true := by
                  simp [docP, d4, d3, d2, tkIf, hT1, hT2]
                have hgx : (if true = true ∧ May ⟨2, (N1 : Nat), (N2 : Nat), 0, 0, r2⟩ then ((⟨2, (N1 : Nat), (N2 : Nat), 0, 0, r2⟩ : PV), (0 : Int)) else (PV.zero, 6)) = (p', er') := by
                  have h := HA.out
                  rw [show getX (2 :: t) = if (d3 2 t).2.2 = true ∧ May (docP 2 t) then (docP 2 t, 0) else (PV.zero, 6) from rfl, hdoc.1, hdoc.2] at h
                  exact h
                have HGX := hide hgx
                have HLOW := hide (show w.heap.size + 1 ≤ _ from HH.out.res0.lt)
                obtain ⟨aD, cD, wD, hap, OD, BD⟩ := appendo_copy HYR.out (by have := HYR.out.len.1; have := HRL.out; omega)
                simp only [size_put] at hap
                have HAP := hide hap
                have HHD := hide (HH.out.belowlo BD)
                have HYD := hide (ownb_byt OD)
                obtain ⟨q0, q1, q2, q3, q4, q5⟩ := six_of HHD.out.pk
                obtain ⟨j0, j1, j2, j3, j4, j5⟩ := six_frozen HHD.out.pk
                have hck := hcheck_any 2 (N1 : Nat) (N2 : Nat) 0 0 aD m2 cD r2 HYD.out.len.1.symm (wD.setCell ⟨w1.heap.size, 5, none⟩ (.slice aD m2 cD))
                have HHE := hide (HHD.out.put 5 (.slice aD m2 cD))
                have HYE := hide (byt_aside HYD.out HHD.out.pk (noOct6 _ _ _ _ _ _ _ _) 5 (.slice aD m2 cD))
                clear hdoc hgx hap OD BD
                go_wp2_with (at_builtin; refine Lib.wpList_append_run _ rfl _ _ _ _ rfl _ _ rfl rfl _ _ HAP.out ?_)
                clear q0 q1 q2 q3 q4 q5 j0 j1 j2 j3 j4 j5 HAP HHD HYD
                by_cases hM : May ⟨2, (N1 : Nat), (N2 : Nat), 0, 0, r2⟩
                · rw [checkP_yes hM] at hck
                  obtain ⟨rfl, rfl⟩ := Prod.mk.inj ((if_pos ⟨by first | trivial | rfl, hM⟩).symm.trans HGX.out)
                  clear hM HGX
                  refine hck.mono ?_
                  rintro e w9 ⟨rfl, b9⟩
                  have HH9 := hide (HHE.out.below' b9)
                  have HY9 := hide (HYE.out.below b9)
                  obtain ⟨g0, g1, g2, g3, g4, g5⟩ := six_of HH9.out.res0
                  obtain ⟨f0, f1, f2, f3, f4, f5⟩ := six_frozen HH9.out.res0
                  obtain ⟨q0, q1, q2, q3, q4, q5⟩ := six_of HH9.out.pk
                  clear hck b9 HHE HYE
                  go_wp2
                  clear g0 g1 g2 g3 g4 g5 f0 f1 f2 f3 f4 f5 q0 q1 q2 q3 q4 q5
                  refine bodyPost_ret (v := .tuple #[.agg #[.int .i64 2, .int .i64 (N1 : Nat), .int .i64 (N2 : Nat), .int .i64 0, .int .i64 0, .slice aD m2 cD], .int .i64 0]) ?_ rfl ?_
                  · obtain ⟨g0, g1, g2, g3, g4, g5⟩ := six_of (box_put6 HH9.out.res0 (.int .i64 2) (.int .i64 (N1 : Nat)) (.int .i64 (N2 : Nat)) (.int .i64 0) (.int .i64 0) (.slice aD m2 cD))
                    unfold put6 at g0 g1 g2 g3 g4 g5
                    simp [results, Try.f23, go_sem, g0, g1, g2, g3, g4, g5]
                  · exact ⟨aD, m2, cD, rfl, (byt_put6 (HY9.out.mono HLOW.out) (Nat.lt_succ_self _) _ _ _ _ _ _).mono (Nat.le_succ _), below_put6 HH9.out.below HH9.out.below.size (Nat.le_refl _) HH9.out.below.size _ _ _ _ _ _⟩
                · rw [checkP_no hM] at hck
                  obtain ⟨rfl, rfl⟩ := Prod.mk.inj ((if_neg (fun h => hM h.2)).symm.trans HGX.out)
                  clear hM HGX
                  refine hck.mono ?_
                  rintro e w9 ⟨rfl, b9⟩
                  have HH9 := hide (HHE.out.below' b9)
                  have HY9 := hide (HYE.out.below b9)
                  obtain ⟨g0, g1, g2, g3, g4, g5⟩ := six_of HH9.out.res0
                  obtain ⟨f0, f1, f2, f3, f4, f5⟩ := six_frozen HH9.out.res0
                  clear hck b9 HHE HYE
                  go_wp2
                  clear g0 g1 g2 g3 g4 g5 f0 f1 f2 f3 f4 f5
                  refine bodyPost_ret (v := .tuple #[.agg #[.int .i64 0, .int .i64 0, .int .i64 0, .int .i64 0, .int .i64 0, .slice none 0 0], .int .i64 6]) ?_ rfl ?_
                  · obtain ⟨g0, g1, g2, g3, g4, g5⟩ := six_of (box_put6 HH9.out.res0 (.int .i64 0) (.int .i64 0) (.int .i64 0) (.int .i64 0) (.int .i64 0) (.slice none 0 0))
                    unfold put6 at g0 g1 g2 g3 g4 g5
                    simp [results, Try.f23, go_sem, g0, g1, g2, g3, g4, g5]
                  · exact pksaid_zero rfl (below_put6 HH9.out.below HH9.out.below.size (Nat.le_refl _) HH9.out.below.size _ _ _ _ _ _)
          · by_cases hk4 : k = 4
            · subst hk4
              cases ok1 with
              | false =>
                have hdoc : docP 4 t = ⟨4, (N1 : Nat), 0, 0, 0, rR⟩ ∧ (d3 4 t).2.2 = false := by
                  simp [docP, d4, d3, d2, tkIf, hT1]
                have hgx : (if false = true ∧ May ⟨4, (N1 : Nat), 0, 0, 0, rR⟩ then ((⟨4, (N1 : Nat), 0, 0, 0, rR⟩ : PV), (0 : Int)) else (PV.zero, 6)) = (p', er') := by
                  have h := HA.out
                  rw [show getX (4 :: t) = if (d3 4 t).2.2 = true ∧ May (docP 4 t) then (docP 4 t, 0) else (PV.zero, 6) from rfl, hdoc.1, hdoc.2] at h
                  exact h
                have HGX := hide hgx
                have HLOW := hide (show w.heap.size + 1 ≤ _ from HH.out.res0.lt)
                obtain ⟨aD, cD, wD, hap, OD, BD⟩ := appendo_copy HYR.out (by have := HYR.out.len.1; have := HRL.out; omega)
                simp only [size_put] at hap
                have HAP := hide hap
                have HHD := hide (HH.out.belowlo BD)
                have HYD := hide (ownb_byt OD)
                obtain ⟨q0, q1, q2, q3, q4, q5⟩ := six_of HHD.out.pk
                obtain ⟨j0, j1, j2, j3, j4, j5⟩ := six_frozen HHD.out.pk
                obtain ⟨g0, g1, g2, g3, g4, g5⟩ := six_of HHD.out.res0
                obtain ⟨f0, f1, f2, f3, f4, f5⟩ := six_frozen HHD.out.res0
                obtain ⟨rfl, rfl⟩ := Prod.mk.inj ((if_neg (fun h => absurd h.1 (by decide))).symm.trans HGX.out)
                clear hdoc hgx hap OD BD
                go_wp2_with (at_builtin; refine Lib.wpList_append_run _ rfl _ _ _ _ rfl _ _ rfl rfl _ _ HAP.out ?_)
                clear g0 g1 g2 g3 g4 g5 f0 f1 f2 f3 f4 f5 q0 q1 q2 q3 q4 q5 j0 j1 j2 j3 j4 j5
                have HHE := hide (HHD.out.put 5 (.slice aD mR cD))
                refine bodyPost_ret (v := .tuple #[.agg #[.int .i64 0, .int .i64 0, .int .i64 0, .int .i64 0, .int .i64 0, .slice none 0 0], .int .i64 6]) ?_ rfl ?_
                · obtain ⟨g0, g1, g2, g3, g4, g5⟩ := six_of (box_put6 HHE.out.res0 (.int .i64 0) (.int .i64 0) (.int .i64 0) (.int .i64 0) (.int .i64 0) (.slice none 0 0))
                  unfold put6 at g0 g1 g2 g3 g4 g5
                  simp [results, Try.f23, go_sem, g0, g1, g2, g3, g4, g5]
                · exact pksaid_zero rfl (below_put6 HHE.out.below HHE.out.below.size (Nat.le_refl _) HHE.out.below.size _ _ _ _ _ _)
              | true =>
                cases rR with
                | nil =>
                  obtain rfl : mR = 0 := HYR.out.len.1
                  have hdoc : docP 4 t = ⟨4, (N1 : Nat), 0, 0, 0, []⟩ ∧ (d3 4 t).2.2 = true := by
                    simp [docP, d4, d3, d2, tkIf, hT1]
                  have hgx : (if true = true ∧ May ⟨4, (N1 : Nat), 0, 0, 0, []⟩ then ((⟨4, (N1 : Nat), 0, 0, 0, []⟩ : PV), (0 : Int)) else (PV.zero, 6)) = (p', er') := by
                    have h := HA.out
                    rw [show getX (4 :: t) = if (d3 4 t).2.2 = true ∧ May (docP 4 t) then (docP 4 t, 0) else (PV.zero, 6) from rfl, hdoc.1, hdoc.2] at h
                    exact h
                  have HGX := hide hgx
                  have HLOW := hide (show w.heap.size + 1 ≤ _ from HH.out.res0.lt)
                  obtain ⟨aD, cD, wD, hap, OD, BD⟩ := appendo_copy HYR.out (by have := HYR.out.len.1; have := HRL.out; omega)
                  simp only [size_put] at hap
                  have HAP := hide hap
                  have HHD := hide (HH.out.belowlo BD)
                  have HYD := hide (ownb_byt OD)
                  obtain ⟨q0, q1, q2, q3, q4, q5⟩ := six_of HHD.out.pk
                  obtain ⟨j0, j1, j2, j3, j4, j5⟩ := six_frozen HHD.out.pk
                  have hck := hcheck_any 4 (N1 : Nat) 0 0 0 aD 0 cD [] HYD.out.len.1.symm (wD.setCell ⟨w1.heap.size, 5, none⟩ (.slice aD 0 cD))
                  have HHE := hide (HHD.out.put 5 (.slice aD 0 cD))
                  have HYE := hide (byt_aside HYD.out HHD.out.pk (noOct6 _ _ _ _ _ _ _ _) 5 (.slice aD 0 cD))
                  clear hdoc hgx hap OD BD
                  go_wp2_with (at_builtin; refine Lib.wpList_append_run _ rfl _ _ _ _ rfl _ _ rfl rfl _ _ HAP.out ?_)
                  clear q0 q1 q2 q3 q4 q5 j0 j1 j2 j3 j4 j5 HAP HHD HYD
                  by_cases hM : May ⟨4, (N1 : Nat), 0, 0, 0, []⟩
                  · rw [checkP_yes hM] at hck
                    obtain ⟨rfl, rfl⟩ := Prod.mk.inj ((if_pos ⟨by first | trivial | rfl, hM⟩).symm.trans HGX.out)
                    clear hM HGX
                    refine hck.mono ?_
                    rintro e w9 ⟨rfl, b9⟩
                    have HH9 := hide (HHE.out.below' b9)
                    have HY9 := hide (HYE.out.below b9)
                    obtain ⟨g0, g1, g2, g3, g4, g5⟩ := six_of HH9.out.res0
                    obtain ⟨f0, f1, f2, f3, f4, f5⟩ := six_frozen HH9.out.res0
                    obtain ⟨q0, q1, q2, q3, q4, q5⟩ := six_of HH9.out.pk
                    clear hck b9 HHE HYE
                    go_wp2
                    clear g0 g1 g2 g3 g4 g5 f0 f1 f2 f3 f4 f5 q0 q1 q2 q3 q4 q5
                    refine bodyPost_ret (v := .tuple #[.agg #[.int .i64 4, .int .i64 (N1 : Nat), .int .i64 0, .int .i64 0, .int .i64 0, .slice aD 0 cD], .int .i64 0]) ?_ rfl ?_
                    · obtain ⟨g0, g1, g2, g3, g4, g5⟩ := six_of (box_put6 HH9.out.res0 (.int .i64 4) (.int .i64 (N1 : Nat)) (.int .i64 0) (.int .i64 0) (.int .i64 0) (.slice aD 0 cD))
                      unfold put6 at g0 g1 g2 g3 g4 g5
                      simp [results, Try.f23, go_sem, g0, g1, g2, g3, g4, g5]
                    · exact ⟨aD, 0, cD, rfl, (byt_put6 (HY9.out.mono HLOW.out) (Nat.lt_succ_self _) _ _ _ _ _ _).mono (Nat.le_succ _), below_put6 HH9.out.below HH9.out.below.size (Nat.le_refl _) HH9.out.below.size _ _ _ _ _ _⟩
                  · rw [checkP_no hM] at hck
                    obtain ⟨rfl, rfl⟩ := Prod.mk.inj ((if_neg (fun h => hM h.2)).symm.trans HGX.out)
                    clear hM HGX
                    refine hck.mono ?_
                    rintro e w9 ⟨rfl, b9⟩
                    have HH9 := hide (HHE.out.below' b9)
                    have HY9 := hide (HYE.out.below b9)
                    obtain ⟨g0, g1, g2, g3, g4, g5⟩ := six_of HH9.out.res0
                    obtain ⟨f0, f1, f2, f3, f4, f5⟩ := six_frozen HH9.out.res0
                    clear hck b9 HHE HYE
                    go_wp2
                    clear g0 g1 g2 g3 g4 g5 f0 f1 f2 f3 f4 f5
                    refine bodyPost_ret (v := .tuple #[.agg #[.int .i64 0, .int .i64 0, .int .i64 0, .int .i64 0, .int .i64 0, .slice none 0 0], .int .i64 6]) ?_ rfl ?_
                    · obtain ⟨g0, g1, g2, g3, g4, g5⟩ := six_of (box_put6 HH9.out.res0 (.int .i64 0) (.int .i64 0) (.int .i64 0) (.int .i64 0) (.int .i64 0) (.slice none 0 0))
                      unfold put6 at g0 g1 g2 g3 g4 g5
                      simp [results, Try.f23, go_sem, g0, g1, g2, g3, g4, g5]
                    · exact pksaid_zero rfl (below_put6 HH9.out.below HH9.out.below.size (Nat.le_refl _) HH9.out.below.size _ _ _ _ _ _)
                | cons y ys =>
                  obtain ⟨gR, oR, rfl, hgR, _⟩ := HYR.out.row (by rw [HYR.out.len.1]; exact Nat.succ_pos _)
                  obtain ⟨yc, _⟩ := HYR.out.cell (j := 0) (by rw [HYR.out.len.1]; exact Nat.succ_pos _)
                  have hml : mR = ys.length + 1 := HYR.out.len.1
                  have hmc := HYR.out.len.2
                  have hyo := HYR.out.words.head
                  rw [List.getElem?_cons_zero, Option.getD_some, Nat.add_zero] at yc
                  have hgF : gR ≠ w1.heap.size := HYR.out.off HH.out.pk (noOct6 _ _ _ _ _ _ _ _) (by simp) gR oR rfl
                  have hy0 : 0 ≤ y := hyo.1
                  have hy1 : y < 256 := hyo.2
                  have hmi : (0 : Int) < (mR : Int) := by omega
                  have hmn : 0 < mR := by omega
                  have hm1 : (1 : Int) ≤ (mR : Int) := by omega
                  have HML := hide hml
                  by_cases hcR : cR = 1
                  case' pos =>
                    obtain rfl : mR = 1 := by omega
                    subst hcR
                    obtain rfl : ys = [] := List.length_eq_zero_iff.1 (by omega)
                    have YQ : Byt w2.heap.size (w2.setCell ⟨w1.heap.size, 1, none⟩ (.int .i64 (N1 : Nat))) (.slice (some ⟨gR, oR, none⟩) 0 0) [] := Byt.empty _ _ _ _
                  case' neg =>
                    have hcR' : ¬ 1 = cR := fun h => hcR h.symm
                    have YQ := byt_drop1 HYR.out
                  case pos =>
                    have HHn := hide (HH.out.put 4 (.int .i64 y))
                    have HYn := hide (byt_aside YQ HH.out.pk (noOct6 _ _ _ _ _ _ _ _) 4 (.int .i64 y))
                    have HRLn : Hid (([] : List Int).length ≤ 100000) := by show ([] : List Int).length ≤ 100000; have := HRL.out; simp at this ⊢; try omega
                    clear HH HYR YQ HRL hml hmc hyo
                    have HH := HHn
                    have HYR := HYn
                    have HRL := HRLn
                    clear HHn HYn HRLn
                    have hdoc : docP 4 t = ⟨4, (N1 : Nat), 0, 0, y, []⟩ ∧ (d3 4 t).2.2 = true := by
                      simp [docP, d4, d3, d2, tkIf, hT1]
                    have hgx : (if true = true ∧ May ⟨4, (N1 : Nat), 0, 0, y, []⟩ then ((⟨4, (N1 : Nat), 0, 0, y, []⟩ : PV), (0 : Int)) else (PV.zero, 6)) = (p', er') := by
                      have h := HA.out
                      rw [show getX (4 :: t) = if (d3 4 t).2.2 = true ∧ May (docP 4 t) then (docP 4 t, 0) else (PV.zero, 6) from rfl, hdoc.1, hdoc.2] at h
                      exact h
                    have HGX := hide hgx
                    have HLOW := hide (show w.heap.size + 1 ≤ _ from HH.out.res0.lt)
                    obtain ⟨aD, cD, wD, hap, OD, BD⟩ := appendo_copy HYR.out (by have := HYR.out.len.1; have := HRL.out; omega)
                    simp only [size_put] at hap
                    have HAP := hide hap
                    have HHD := hide (HH.out.belowlo BD)
                    have HYD := hide (ownb_byt OD)
                    obtain ⟨q0, q1, q2, q3, q4, q5⟩ := six_of HHD.out.pk
                    obtain ⟨j0, j1, j2, j3, j4, j5⟩ := six_frozen HHD.out.pk
                    have hck := hcheck_any 4 (N1 : Nat) 0 0 y aD 0 cD [] HYD.out.len.1.symm (wD.setCell ⟨w1.heap.size, 5, none⟩ (.slice aD 0 cD))
                    have HHE := hide (HHD.out.put 5 (.slice aD 0 cD))
                    have HYE := hide (byt_aside HYD.out HHD.out.pk (noOct6 _ _ _ _ _ _ _ _) 5 (.slice aD 0 cD))
                    clear hdoc hgx hap OD BD
                    go_wp2_with (at_builtin; refine Lib.wpList_append_run _ rfl _ _ _ _ rfl _ _ rfl rfl _ _ HAP.out ?_)
                    clear q0 q1 q2 q3 q4 q5 j0 j1 j2 j3 j4 j5 HAP HHD HYD
                    by_cases hM : May ⟨4, (N1 : Nat), 0, 0, y, []⟩
                    · rw [checkP_yes hM] at hck
                      obtain ⟨rfl, rfl⟩ := Prod.mk.inj ((if_pos ⟨by first | trivial | rfl, hM⟩).symm.trans HGX.out)
                      clear hM HGX
                      refine hck.mono ?_
                      rintro e w9 ⟨rfl, b9⟩
                      have HH9 := hide (HHE.out.below' b9)
                      have HY9 := hide (HYE.out.below b9)
                      obtain ⟨g0, g1, g2, g3, g4, g5⟩ := six_of HH9.out.res0
                      obtain ⟨f0, f1, f2, f3, f4, f5⟩ := six_frozen HH9.out.res0
                      obtain ⟨q0, q1, q2, q3, q4, q5⟩ := six_of HH9.out.pk
                      clear hck b9 HHE HYE
                      go_wp2
                      clear g0 g1 g2 g3 g4 g5 f0 f1 f2 f3 f4 f5 q0 q1 q2 q3 q4 q5
                      refine bodyPost_ret (v := .tuple #[.agg #[.int .i64 4, .int .i64 (N1 : Nat), .int .i64 0, .int .i64 0, .int .i64 y, .slice aD 0 cD], .int .i64 0]) ?_ rfl ?_
                      · obtain ⟨g0, g1, g2, g3, g4, g5⟩ := six_of (box_put6 HH9.out.res0 (.int .i64 4) (.int .i64 (N1 : Nat)) (.int .i64 0) (.int .i64 0) (.int .i64 y) (.slice aD 0 cD))
                        unfold put6 at g0 g1 g2 g3 g4 g5
                        simp [results, Try.f23, go_sem, g0, g1, g2, g3, g4, g5]
                      · exact ⟨aD, 0, cD, rfl, (byt_put6 (HY9.out.mono HLOW.out) (Nat.lt_succ_self _) _ _ _ _ _ _).mono (Nat.le_succ _), below_put6 HH9.out.below HH9.out.below.size (Nat.le_refl _) HH9.out.below.size _ _ _ _ _ _⟩
                    · rw [checkP_no hM] at hck
                      obtain ⟨rfl, rfl⟩ := Prod.mk.inj ((if_neg (fun h => hM h.2)).symm.trans HGX.out)
                      clear hM HGX
                      refine hck.mono ?_
                      rintro e w9 ⟨rfl, b9⟩
                      have HH9 := hide (HHE.out.below' b9)
                      have HY9 := hide (HYE.out.below b9)
                      obtain ⟨g0, g1, g2, g3, g4, g5⟩ := six_of HH9.out.res0
                      obtain ⟨f0, f1, f2, f3, f4, f5⟩ := six_frozen HH9.out.res0
                      clear hck b9 HHE HYE
                      go_wp2
                      clear g0 g1 g2 g3 g4 g5 f0 f1 f2 f3 f4 f5
                      refine bodyPost_ret (v := .tuple #[.agg #[.int .i64 0, .int .i64 0, .int .i64 0, .int .i64 0, .int .i64 0, .slice none 0 0], .int .i64 6]) ?_ rfl ?_
                      · obtain ⟨g0, g1, g2, g3, g4, g5⟩ := six_of (box_put6 HH9.out.res0 (.int .i64 0) (.int .i64 0) (.int .i64 0) (.int .i64 0) (.int .i64 0) (.slice none 0 0))
                        unfold put6 at g0 g1 g2 g3 g4 g5
                        simp [results, Try.f23, go_sem, g0, g1, g2, g3, g4, g5]
                      · exact pksaid_zero rfl (below_put6 HH9.out.below HH9.out.below.size (Nat.le_refl _) HH9.out.below.size _ _ _ _ _ _)
                  case neg =>
                    have HHn := hide (HH.out.put 4 (.int .i64 y))
                    have HYn := hide (byt_aside YQ HH.out.pk (noOct6 _ _ _ _ _ _ _ _) 4 (.int .i64 y))
                    have HRLn : Hid (ys.length ≤ 100000) := by show ys.length ≤ 100000; have := HRL.out; simp at this ⊢; try omega
                    clear HH HYR YQ HRL hml hmc hyo
                    have HH := HHn
                    have HYR := HYn
                    have HRL := HRLn
                    clear HHn HYn HRLn
                    have hdoc : docP 4 t = ⟨4, (N1 : Nat), 0, 0, y, ys⟩ ∧ (d3 4 t).2.2 = true := by
                      simp [docP, d4, d3, d2, tkIf, hT1]
                    have hgx : (if true = true ∧ May ⟨4, (N1 : Nat), 0, 0, y, ys⟩ then ((⟨4, (N1 : Nat), 0, 0, y, ys⟩ : PV), (0 : Int)) else (PV.zero, 6)) = (p', er') := by
                      have h := HA.out
                      rw [show getX (4 :: t) = if (d3 4 t).2.2 = true ∧ May (docP 4 t) then (docP 4 t, 0) else (PV.zero, 6) from rfl, hdoc.1, hdoc.2] at h
                      exact h
                    have HGX := hide hgx
                    have HLOW := hide (show w.heap.size + 1 ≤ _ from HH.out.res0.lt)
                    obtain ⟨aD, cD, wD, hap, OD, BD⟩ := appendo_copy HYR.out (by have := HYR.out.len.1; have := HRL.out; omega)
                    simp only [size_put] at hap
                    have HAP := hide hap
                    have HHD := hide (HH.out.belowlo BD)
                    have HYD := hide (ownb_byt OD)
                    obtain ⟨q0, q1, q2, q3, q4, q5⟩ := six_of HHD.out.pk
                    obtain ⟨j0, j1, j2, j3, j4, j5⟩ := six_frozen HHD.out.pk
                    have hck := hcheck_any 4 (N1 : Nat) 0 0 y aD (mR - 1) cD ys HYD.out.len.1.symm (wD.setCell ⟨w1.heap.size, 5, none⟩ (.slice aD (mR - 1) cD))
                    have HHE := hide (HHD.out.put 5 (.slice aD (mR - 1) cD))
                    have HYE := hide (byt_aside HYD.out HHD.out.pk (noOct6 _ _ _ _ _ _ _ _) 5 (.slice aD (mR - 1) cD))
                    clear hdoc hgx hap OD BD
                    go_wp2_with (at_builtin; refine Lib.wpList_append_run _ rfl _ _ _ _ rfl _ _ rfl rfl _ _ HAP.out ?_)
                    clear q0 q1 q2 q3 q4 q5 j0 j1 j2 j3 j4 j5 HAP HHD HYD
                    by_cases hM : May ⟨4, (N1 : Nat), 0, 0, y, ys⟩
                    · rw [checkP_yes hM] at hck
                      obtain ⟨rfl, rfl⟩ := Prod.mk.inj ((if_pos ⟨by first | trivial | rfl, hM⟩).symm.trans HGX.out)
                      clear hM HGX
                      refine hck.mono ?_
                      rintro e w9 ⟨rfl, b9⟩
                      have HH9 := hide (HHE.out.below' b9)
                      have HY9 := hide (HYE.out.below b9)
                      obtain ⟨g0, g1, g2, g3, g4, g5⟩ := six_of HH9.out.res0
                      obtain ⟨f0, f1, f2, f3, f4, f5⟩ := six_frozen HH9.out.res0
                      obtain ⟨q0, q1, q2, q3, q4, q5⟩ := six_of HH9.out.pk
                      clear hck b9 HHE HYE
                      go_wp2
                      clear g0 g1 g2 g3 g4 g5 f0 f1 f2 f3 f4 f5 q0 q1 q2 q3 q4 q5
                      refine bodyPost_ret (v := .tuple #[.agg #[.int .i64 4, .int .i64 (N1 : Nat), .int .i64 0, .int .i64 0, .int .i64 y, .slice aD (mR - 1) cD], .int .i64 0]) ?_ rfl ?_
                      · obtain ⟨g0, g1, g2, g3, g4, g5⟩ := six_of (box_put6 HH9.out.res0 (.int .i64 4) (.int .i64 (N1 : Nat)) (.int .i64 0) (.int .i64 0) (.int .i64 y) (.slice aD (mR - 1) cD))
                        unfold put6 at g0 g1 g2 g3 g4 g5
                        simp [results, Try.f23, go_sem, g0, g1, g2, g3, g4, g5]
                      · exact ⟨aD, (mR - 1), cD, rfl, (byt_put6 (HY9.out.mono HLOW.out) (Nat.lt_succ_self _) _ _ _ _ _ _).mono (Nat.le_succ _), below_put6 HH9.out.below HH9.out.below.size (Nat.le_refl _) HH9.out.below.size _ _ _ _ _ _⟩
                    · rw [checkP_no hM] at hck
                      obtain ⟨rfl, rfl⟩ := Prod.mk.inj ((if_neg (fun h => hM h.2)).symm.trans HGX.out)
                      clear hM HGX
                      refine hck.mono ?_
                      rintro e w9 ⟨rfl, b9⟩
                      have HH9 := hide (HHE.out.below' b9)
                      have HY9 := hide (HYE.out.below b9)
                      obtain ⟨g0, g1, g2, g3, g4, g5⟩ := six_of HH9.out.res0
                      obtain ⟨f0, f1, f2, f3, f4, f5⟩ := six_frozen HH9.out.res0
                      clear hck b9 HHE HYE
                      go_wp2
                      clear g0 g1 g2 g3 g4 g5 f0 f1 f2 f3 f4 f5
                      refine bodyPost_ret (v := .tuple #[.agg #[.int .i64 0, .int .i64 0, .int .i64 0, .int .i64 0, .int .i64 0, .slice none 0 0], .int .i64 6]) ?_ rfl ?_
                      · obtain ⟨g0, g1, g2, g3, g4, g5⟩ := six_of (box_put6 HH9.out.res0 (.int .i64 0) (.int .i64 0) (.int .i64 0) (.int .i64 0) (.int .i64 0) (.slice none 0 0))
                        unfold put6 at g0 g1 g2 g3 g4 g5
                        simp [results, Try.f23, go_sem, g0, g1, g2, g3, g4, g5]
                      · exact pksaid_zero rfl (below_put6 HH9.out.below HH9.out.below.size (Nat.le_refl _) HH9.out.below.size _ _ _ _ _ _)
            · have hb1 : (k == 1) = false := beq_eq_false_iff_ne.2 hk1
              have hb2 : (k == 2) = false := beq_eq_false_iff_ne.2 hk2
              have hb4 : (k == 4) = false := beq_eq_false_iff_ne.2 hk4
              cases ok1 with
              | false =>
                have hdoc : docP k t = ⟨k, (N1 : Nat), 0, 0, 0, rR⟩ ∧ (d3 k t).2.2 = false := by
                  simp [docP, d4, d3, d2, tkIf, hT1, hk1, hk2, hk4]
                have hgx : (if false = true ∧ May ⟨k, (N1 : Nat), 0, 0, 0, rR⟩ then ((⟨k, (N1 : Nat), 0, 0, 0, rR⟩ : PV), (0 : Int)) else (PV.zero, 6)) = (p', er') := by
                  have h := HA.out
                  rw [show getX (k :: t) = if (d3 k t).2.2 = true ∧ May (docP k t) then (docP k t, 0) else (PV.zero, 6) from rfl, hdoc.1, hdoc.2] at h
                  exact h
                have HGX := hide hgx
                have HLOW := hide (show w.heap.size + 1 ≤ _ from HH.out.res0.lt)
                obtain ⟨aD, cD, wD, hap, OD, BD⟩ := appendo_copy HYR.out (by have := HYR.out.len.1; have := HRL.out; omega)
                simp only [size_put] at hap
                have HAP := hide hap
                have HHD := hide (HH.out.belowlo BD)
                have HYD := hide (ownb_byt OD)
                obtain ⟨q0, q1, q2, q3, q4, q5⟩ := six_of HHD.out.pk
                obtain ⟨j0, j1, j2, j3, j4, j5⟩ := six_frozen HHD.out.pk
                obtain ⟨g0, g1, g2, g3, g4, g5⟩ := six_of HHD.out.res0
                obtain ⟨f0, f1, f2, f3, f4, f5⟩ := six_frozen HHD.out.res0
                obtain ⟨rfl, rfl⟩ := Prod.mk.inj ((if_neg (fun h => absurd h.1 (by decide))).symm.trans HGX.out)
                clear hdoc hgx hap OD BD
                go_wp2_with (at_builtin; refine Lib.wpList_append_run _ rfl _ _ _ _ rfl _ _ rfl rfl _ _ HAP.out ?_)
                clear g0 g1 g2 g3 g4 g5 f0 f1 f2 f3 f4 f5 q0 q1 q2 q3 q4 q5 j0 j1 j2 j3 j4 j5
                have HHE := hide (HHD.out.put 5 (.slice aD mR cD))
                refine bodyPost_ret (v := .tuple #[.agg #[.int .i64 0, .int .i64 0, .int .i64 0, .int .i64 0, .int .i64 0, .slice none 0 0], .int .i64 6]) ?_ rfl ?_
                · obtain ⟨g0, g1, g2, g3, g4, g5⟩ := six_of (box_put6 HHE.out.res0 (.int .i64 0) (.int .i64 0) (.int .i64 0) (.int .i64 0) (.int .i64 0) (.slice none 0 0))
                  unfold put6 at g0 g1 g2 g3 g4 g5
                  simp [results, Try.f23, go_sem, g0, g1, g2, g3, g4, g5]
                · exact pksaid_zero rfl (below_put6 HHE.out.below HHE.out.below.size (Nat.le_refl _) HHE.out.below.size _ _ _ _ _ _)
              | true =>
                have hdoc : docP k t = ⟨k, (N1 : Nat), 0, 0, 0, rR⟩ ∧ (d3 k t).2.2 = true := by
                  simp [docP, d4, d3, d2, tkIf, hT1, hk1, hk2, hk4]
                have hgx : (if true = true ∧ May ⟨k, (N1 : Nat), 0, 0, 0, rR⟩ then ((⟨k, (N1 : Nat), 0, 0, 0, rR⟩ : PV), (0 : Int)) else (PV.zero, 6)) = (p', er') := by
                  have h := HA.out
                  rw [show getX (k :: t) = if (d3 k t).2.2 = true ∧ May (docP k t) then (docP k t, 0) else (PV.zero, 6) from rfl, hdoc.1, hdoc.2] at h
                  exact h
                have HGX := hide hgx
                have HLOW := hide (show w.heap.size + 1 ≤ _ from HH.out.res0.lt)
                obtain ⟨aD, cD, wD, hap, OD, BD⟩ := appendo_copy HYR.out (by have := HYR.out.len.1; have := HRL.out; omega)
                simp only [size_put] at hap
                have HAP := hide hap
                have HHD := hide (HH.out.belowlo BD)
                have HYD := hide (ownb_byt OD)
                obtain ⟨q0, q1, q2, q3, q4, q5⟩ := six_of HHD.out.pk
                obtain ⟨j0, j1, j2, j3, j4, j5⟩ := six_frozen HHD.out.pk
                have hck := hcheck_any k (N1 : Nat) 0 0 0 aD mR cD rR HYD.out.len.1.symm (wD.setCell ⟨w1.heap.size, 5, none⟩ (.slice aD mR cD))
                have HHE := hide (HHD.out.put 5 (.slice aD mR cD))
                have HYE := hide (byt_aside HYD.out HHD.out.pk (noOct6 _ _ _ _ _ _ _ _) 5 (.slice aD mR cD))
                clear hdoc hgx hap OD BD
                go_wp2_with (at_builtin; refine Lib.wpList_append_run _ rfl _ _ _ _ rfl _ _ rfl rfl _ _ HAP.out ?_)
                clear q0 q1 q2 q3 q4 q5 j0 j1 j2 j3 j4 j5 HAP HHD HYD
                by_cases hM : May ⟨k, (N1 : Nat), 0, 0, 0, rR⟩
                · rw [checkP_yes hM] at hck
                  obtain ⟨rfl, rfl⟩ := Prod.mk.inj ((if_pos ⟨by first | trivial | rfl, hM⟩).symm.trans HGX.out)
                  clear hM HGX
                  refine hck.mono ?_
                  rintro e w9 ⟨rfl, b9⟩
                  have HH9 := hide (HHE.out.below' b9)
                  have HY9 := hide (HYE.out.below b9)
                  obtain ⟨g0, g1, g2, g3, g4, g5⟩ := six_of HH9.out.res0
                  obtain ⟨f0, f1, f2, f3, f4, f5⟩ := six_frozen HH9.out.res0
                  obtain ⟨q0, q1, q2, q3, q4, q5⟩ := six_of HH9.out.pk
                  clear hck b9 HHE HYE
                  go_wp2
                  clear g0 g1 g2 g3 g4 g5 f0 f1 f2 f3 f4 f5 q0 q1 q2 q3 q4 q5
                  refine bodyPost_ret (v := .tuple #[.agg #[.int .i64 k, .int .i64 (N1 : Nat), .int .i64 0, .int .i64 0, .int .i64 0, .slice aD mR cD], .int .i64 0]) ?_ rfl ?_
                  · obtain ⟨g0, g1, g2, g3, g4, g5⟩ := six_of (box_put6 HH9.out.res0 (.int .i64 k) (.int .i64 (N1 : Nat)) (.int .i64 0) (.int .i64 0) (.int .i64 0) (.slice aD mR cD))
                    unfold put6 at g0 g1 g2 g3 g4 g5
                    simp [results, Try.f23, go_sem, g0, g1, g2, g3, g4, g5]
                  · exact ⟨aD, mR, cD, rfl, (byt_put6 (HY9.out.mono HLOW.out) (Nat.lt_succ_self _) _ _ _ _ _ _).mono (Nat.le_succ _), below_put6 HH9.out.below HH9.out.below.size (Nat.le_refl _) HH9.out.below.size _ _ _ _ _ _⟩
                · rw [checkP_no hM] at hck
                  obtain ⟨rfl, rfl⟩ := Prod.mk.inj ((if_neg (fun h => hM h.2)).symm.trans HGX.out)
                  clear hM HGX
                  refine hck.mono ?_
                  rintro e w9 ⟨rfl, b9⟩
                  have HH9 := hide (HHE.out.below' b9)
                  have HY9 := hide (HYE.out.below b9)
                  obtain ⟨g0, g1, g2, g3, g4, g5⟩ := six_of HH9.out.res0
                  obtain ⟨f0, f1, f2, f3, f4, f5⟩ := six_frozen HH9.out.res0
                  clear hck b9 HHE HYE
                  go_wp2
                  clear g0 g1 g2 g3 g4 g5 f0 f1 f2 f3 f4 f5
                  refine bodyPost_ret (v := .tuple #[.agg #[.int .i64 0, .int .i64 0, .int .i64 0, .int .i64 0, .int .i64 0, .slice none 0 0], .int .i64 6]) ?_ rfl ?_
                  · obtain ⟨g0, g1, g2, g3, g4, g5⟩ := six_of (box_put6 HH9.out.res0 (.int .i64 0) (.int .i64 0) (.int .i64 0) (.int .i64 0) (.int .i64 0) (.slice none 0 0))
                    unfold put6 at g0 g1 g2 g3 g4 g5
                    simp [results, Try.f23, go_sem, g0, g1, g2, g3, g4, g5]
                  · exact pksaid_zero rfl (below_put6 HH9.out.below HH9.out.below.size (Nat.le_refl _) HH9.out.below.size _ _ _ _ _ _)
  · rw [if_neg h0]
    have hb0 : (oe == 0) = false := beq_eq_false_iff_ne.2 h0
    clear hol hoo hn
    go_enter Try.func23, Try.ntmps23
    go_wp2_with fail
    refine hop.mono ?_
    rintro e w1 ⟨a1, n1, c1, rfl, Y1, b1⟩
    have HB1 := hide (HQ.out.trans (b1.mono HQ.out.size))
    have HR1 := hide (HR.out.below b1)
    obtain ⟨g0, g1, g2, g3, g4, g5⟩ := six_of (HR.out.below b1)
    obtain ⟨f0, f1, f2, f3, f4, f5⟩ := six_frozen (HR.out.below b1)
    clear hop Y1 b1
    go_wp2
    clear g0 g1 g2 g3 g4 g5 f0 f1 f2 f3 f4 f5
    refine bodyPost_ret (v := .tuple #[.agg #[.int .i64 0, .int .i64 0, .int .i64 0, .int .i64 0, .int .i64 0, .slice none 0 0], .int .i64 oe]) ?_ rfl ?_
    · obtain ⟨g0, g1, g2, g3, g4, g5⟩ := six_of (box_put6 HR1.out (.int .i64 0) (.int .i64 0) (.int .i64 0) (.int .i64 0) (.int .i64 0) (.slice none 0 0))
      unfold put6 at g0 g1 g2 g3 g4 g5
      simp [results, Try.f23, go_sem, g0, g1, g2, g3, g4, g5]
    · exact pksaid_zero rfl (below_put6 HB1.out HB1.out.size (Nat.le_refl _) HB1.out.size _ _ _ _ _ _)
def PV.v (p : PV) (a : Option Addr) (c : Nat) : Value := .agg #[.int .i64 p.k, .int .i64 p.s, .int .i64 p.b, .int .i64 p.i, .int .i64 p.r, .slice a p.zs.length c]
def samePV (p q : PV) : Bool := decide (p.k = q.k) && (decide (p.s = q.s) && (decide (p.b = q.b) && (decide (p.i = q.i) && (decide (p.r = q.r) && decide (p.zs = q.zs)))))
theorem samePV_iff (p q : PV) : samePV p q = true ↔ p = q := by
  obtain ⟨k, s, b, i, r, zs⟩ := p
  obtain ⟨k', s', b', i', r', zs'⟩ := q
  simp [samePV]
theorem samePV_self (p : PV) : samePV p p = true := (samePV_iff p p).2 rfl
set_option maxRecDepth 100000 in
set_option maxHeartbeats 2000000 in
theorem samepk_any (k s b i r k' s' b' i' r' : Int) (a a' : Option Addr) (n c n' c' lo lo' : Nat) (xs ys : List Int) (w : World) (X : Byt lo w (.slice a n c) xs) (Y : Byt lo' w (.slice a' n' c') ys) :
    Calls Try.prog 24 #[.agg #[.int .i64 k, .int .i64 s, .int .i64 b, .int .i64 i, .int .i64 r, .slice a n c], .agg #[.int .i64 k', .int .i64 s', .int .i64 b', .int .i64 i', .int .i64 r', .slice a' n' c']] w fun e w' => e = .returned (.bool (samePV ⟨k, s, b, i, r, xs⟩ ⟨k', s', b', i', r', ys⟩)) ∧ Below w.heap.size w w' := by
  have Q1 := below_new w (.cells #[.int .i64 k, .int .i64 s, .int .i64 b, .int .i64 i, .int .i64 r, .slice a n c] 24)
  have Q2 := below_new (w.alloc (.cells #[.int .i64 k, .int .i64 s, .int .i64 b, .int .i64 i, .int .i64 r, .slice a n c] 24)) (.cells #[.int .i64 k', .int .i64 s', .int .i64 b', .int .i64 i', .int .i64 r', .slice a' n' c'] 24)
  have QQ := Q1.trans (Q2.mono Q1.size)
  have HB := hide QQ
  have hsb := sameb_any (X.below QQ) (Y.below QQ)
  unfold samePV
  dsimp only
  clear Q1 Q2 QQ X Y
  by_cases hk : k = k'
  · subst hk
    by_cases hs : s = s'
    · subst hs
      by_cases hb : b = b'
      · subst hb
        by_cases hi : i = i'
        · subst hi
          by_cases hr : r = r'
          · subst hr
            obtain ⟨d, hd⟩ : ∃ d, decide (xs = ys) = d := ⟨_, rfl⟩
            rw [hd] at hsb ⊢
            clear hd
            go_enter Try.func24, Try.ntmps24
            go_wp2_with fail
            refine hsb.mono ?_
            rintro e w1 ⟨rfl, b1⟩
            have HB1 := hide (HB.out.trans (b1.mono HB.out.size))
            clear hsb b1
            go_wp2
            go_ret
            exact ⟨congrArg (fun z => Ending.returned (.bool z)) (by simp), HB1.out⟩
          · have hbr : (r == r') = false := beq_eq_false_iff_ne.2 hr
            have hdr : decide (r = r') = false := decide_eq_false hr
            rw [hdr]
            clear hdr hr
            go_enter Try.func24, Try.ntmps24
            go_wp2
            go_ret
            exact ⟨congrArg (fun z => Ending.returned (.bool z)) (by simp), HB.out⟩
        · have hbi : (i == i') = false := beq_eq_false_iff_ne.2 hi
          have hdi : decide (i = i') = false := decide_eq_false hi
          rw [hdi]
          clear hdi hi
          go_enter Try.func24, Try.ntmps24
          go_wp2
          go_ret
          exact ⟨congrArg (fun z => Ending.returned (.bool z)) (by simp), HB.out⟩
      · have hbb : (b == b') = false := beq_eq_false_iff_ne.2 hb
        have hdb : decide (b = b') = false := decide_eq_false hb
        rw [hdb]
        clear hdb hb
        go_enter Try.func24, Try.ntmps24
        go_wp2
        go_ret
        exact ⟨congrArg (fun z => Ending.returned (.bool z)) (by simp), HB.out⟩
    · have hbs : (s == s') = false := beq_eq_false_iff_ne.2 hs
      have hds : decide (s = s') = false := decide_eq_false hs
      rw [hds]
      clear hds hs
      go_enter Try.func24, Try.ntmps24
      go_wp2
      go_ret
      exact ⟨congrArg (fun z => Ending.returned (.bool z)) (by simp), HB.out⟩
  · have hbk : (k == k') = false := beq_eq_false_iff_ne.2 hk
    have hdk : decide (k = k') = false := decide_eq_false hk
    rw [hdk]
    clear hdk hk
    go_enter Try.func24, Try.ntmps24
    go_wp2
    go_ret
    exact ⟨congrArg (fun z => Ending.returned (.bool z)) (by simp), HB.out⟩
set_option maxRecDepth 100000 in
set_option maxHeartbeats 2000000 in
theorem puts_yes (k s b i r : Int) (a a' : Option Addr) (n c n' c' lo : Nat) (xs ws : List Int) (w : World) (X : Byt 0 w (.slice a n c) xs) (Y : Byt lo w (.slice a' n' c') ws) (hM : May ⟨k, s, b, i, r, xs⟩) (hb : body ⟨k, s, b, i, r, xs⟩ = ws) :
    Calls Try.prog 25 #[.agg #[.int .i64 k, .int .i64 s, .int .i64 b, .int .i64 i, .int .i64 r, .slice a n c], .slice a' n' c'] w fun e w' => e = .returned (.bool true) ∧ Below w.heap.size w w' := by
  have Q0 := below_new w (.cells #[.int .i64 k, .int .i64 s, .int .i64 b, .int .i64 i, .int .i64 r, .slice a n c] 24)
  have hp := pput_any k s b i r a n c xs (w.alloc (.cells #[.int .i64 k, .int .i64 s, .int .i64 b, .int .i64 i, .int .i64 r, .slice a n c] 24)) (X.below Q0)
  have HQ := hide Q0
  rw [putP_yes hM, hb] at hp
  dsimp only at hp
  have hwl : n' ≤ 100000 := by
    have h1 := body_length ⟨k, s, b, i, r, xs⟩
    have h2 := may_len hM
    rw [hb] at h1
    have h3 := Y.len.1
    unfold bodyLen at h1
    dsimp only at h1
    split at h1 <;> split at h1 <;> split at h1 <;> omega
  have HY := hide Y
  have HW := hide hwl
  have hN := Y.len.1
  clear X Y hM hb Q0
  go_enter Try.func25, Try.ntmps25
  go_wp2_with fail
  refine hp.mono ?_
  rintro e w1 ⟨a1, n1, c1, rfl, Y1, b1⟩
  have hn1 : n1 = n' + 4 := by rw [Y1.len.1, sealL_length, hN]
  have hse := cseal_any (PT.nil w1) nums_cT ((HY.out.below HQ.out).below b1) (by omega)
  have HB1 := hide (HQ.out.trans (b1.mono HQ.out.size))
  have HY1 := hide Y1
  subst hn1
  clear hp Y1 b1 hN
  go_wp2_with fail
  refine hse.mono ?_
  rintro e w2 ⟨a2, c2, rfl, Y2, b2⟩
  have hsa := sameb_yes (HY1.out.below b2) Y2 rfl
  have HB2 := hide (HB1.out.trans (b2.mono HB1.out.size))
  clear hse Y2 b2 HY1 HB1
  go_wp2_with fail
  refine hsa.mono ?_
  rintro e w3 ⟨rfl, b3⟩
  have HB3 := hide (HB2.out.trans (b3.mono HB2.out.size))
  clear hsa b3
  go_wp2
  go_ret
  exact ⟨rfl, HB3.out⟩
theorem body_done : body ⟨3, 258, 0, 0, 0, []⟩ = [3, 0, 0, 1, 2] := by decide +kernel
set_option maxRecDepth 100000 in
set_option maxHeartbeats 1000000 in
theorem pawake_any (w : World) : Calls Try.prog 9 #[] w fun e w' => e = .returned (.bool true) ∧ Below w.heap.size w w' := by
  have q1 := below_new w (.cells #[.int .i64 3, .int .i64 258, .int .i64 0, .int .i64 0, .int .i64 0, .slice none 0 0] 24)
  have R1 := Box.new w (.cells #[.int .i64 3, .int .i64 258, .int .i64 0, .int .i64 0, .int .i64 0, .slice none 0 0] 24)
  have q2 := below_new (w.alloc (.cells #[.int .i64 3, .int .i64 258, .int .i64 0, .int .i64 0, .int .i64 0, .slice none 0 0] 24)) (.cells #[.int .u8 3, .int .u8 0, .int .u8 0, .int .u8 1, .int .u8 2] 5)
  have y2 := byt_lit (w.alloc (.cells #[.int .i64 3, .int .i64 258, .int .i64 0, .int .i64 0, .int .i64 0, .slice none 0 0] 24)) (w.heap.size + 1) 5 (by simp) [3, 0, 0, 1, 2] (octs_of rfl) rfl #[.int .u8 3, .int .u8 0, .int .u8 0, .int .u8 1, .int .u8 2] rfl
  have hp := puts_yes 3 258 0 0 0 none _ 0 0 5 5 _ [] [3, 0, 0, 1, 2] _ (Byt.nil 0 _) y2 (by decide) body_done
  have HB := hide (q1.trans (q2.mono q1.size))
  have HR := hide (R1.below q2)
  clear q1 q2 R1 y2
  go_enter Try.func9, Try.ntmps9
  go_wp2_with fail
  refine hp.mono ?_
  rintro e w1 ⟨rfl, b1⟩
  have HB1 := hide (HB.out.trans (b1.mono HB.out.size))
  have HR1 := hide (HR.out.below b1)
  clear hp b1 HB HR
  have hz := psize_any 3 258 0 0 0 none 0 0 [] rfl w1
  rw [show sizeP ⟨3, 258, 0, 0, 0, []⟩ = 9 by decide] at hz
  obtain ⟨k0, k1, k2, k3, k4, k5⟩ := six_of HR1.out
  go_wp2_with fail
  refine hz.mono ?_
  rintro e w2 ⟨rfl, b2⟩
  have HB2 := hide (HB1.out.trans (b2.mono HB1.out.size))
  clear hz b2 HB1 HR1 k0 k1 k2 k3 k4 k5
  have hs := psends_any 4 0 0 0 7 none 0 0 [] rfl w2
  rw [show sendsP ⟨4, 0, 0, 0, 7, []⟩ = true by decide] at hs
  go_wp2_with fail
  refine hs.mono ?_
  rintro e w3 ⟨rfl, b3⟩
  have HB3 := hide (HB2.out.trans (b3.mono HB2.out.size))
  clear hs b3 HB2
  have hc := pcheck_any 2 0 0 1 0 none 0 0 [] rfl w3
  rw [show checkP ⟨2, 0, 0, 1, 0, []⟩ = 2 by decide] at hc
  go_wp2_with fail
  refine hc.mono ?_
  rintro e w4 ⟨rfl, b4⟩
  have HB4 := hide (HB3.out.trans (b4.mono HB3.out.size))
  clear hc b4 HB3
  go_wp2
  go_ret
  exact ⟨rfl, HB4.out⟩
theorem getP_len (bs : List Int) : (getP bs).1.zs.length ≤ 65535 := by
  unfold getP
  split
  · match (openB cT bs).1 with
    | [] => exact Nat.zero_le _
    | k :: t =>
      show (if (d3 k t).2.2 = true ∧ May (docP k t) then (docP k t, (0 : Int)) else (PV.zero, 6)).1.zs.length ≤ 65535
      by_cases h : (d3 k t).2.2 = true ∧ May (docP k t)
      · rw [if_pos h]
        exact may_len h.2
      · rw [if_neg h]
        exact Nat.zero_le _
  · exact Nat.zero_le _
set_option maxRecDepth 100000 in
set_option maxHeartbeats 1000000 in
theorem pgets_long (a : Option Addr) (n c : Nat) (w : World) (h : 3000 < n) :
    Calls Try.prog 4 #[.slice a n c] w fun e w' => e = .returned (.bool true) ∧ Below w.heap.size w w' := by
  have hk := pawake_any w
  have hi : 3000 < (n : Int) := by omega
  go_enter Try.func4, Try.ntmps4
  go_wp2_with fail
  refine hk.mono ?_
  rintro e w1 ⟨rfl, hb⟩
  clear hk
  go_wp2
  go_ret
  exact ⟨rfl, hb⟩
set_option maxRecDepth 100000 in
set_option maxHeartbeats 1000000 in
theorem pgets_short {a : Option Addr} {n c : Nat} {zs : List Int} {w : World} (X : Byt 0 w (.slice a n c) zs) (h : n ≤ 3000) :
    Calls Try.prog 4 #[.slice a n c] w fun e w' => e = .returned (.bool true) ∧ Below w.heap.size w w' := by
  have hi : ¬ 3000 < (n : Int) := by omega
  have hl := lent_any X (by omega)
  have HX := hide X
  have HH := hide h
  have HN := hide X.len.1
  clear X h
  go_enter Try.func4, Try.ntmps4
  go_wp2_with fail
  refine hl.mono ?_
  rintro e w1 ⟨R, c1, rfl, L1, b1⟩
  have hn0 := HN.out
  have hcn : n + 4 ≤ c1 := L1.len.2
  have LT : Byt w.heap.size w1 (.slice (some ⟨R, 0, none⟩) n c1) zs := by
    have := L1.take (k := n) (by rw [List.length_append]; omega)
    rwa [List.take_append_of_le_length (by omega), hn0, List.take_length, ← hn0] at this
  have hg := pget_any LT (by have := HH.out; omega)
  obtain ⟨⟨P, er⟩, hP⟩ : ∃ q, getP zs = q := ⟨_, rfl⟩
  rw [hP] at hg
  dsimp only at hg
  have HP := hide hP
  have HL := hide L1
  have HB1 := hide b1
  clear hl L1 b1 LT hP hn0
  go_wp2_with fail
  refine hg.mono ?_
  rintro e w2 ⟨a2, n2, c2, rfl, Y2, b2⟩
  obtain ⟨k, s, b, i, r, ps⟩ := P
  dsimp only at Y2
  have Q2 := below_new w2 (.cells #[.int .i64 k, .int .i64 s, .int .i64 b, .int .i64 i, .int .i64 r, .slice a2 n2 c2] 24)
  have HB2 := hide (HB1.out.trans ((b2.trans (Q2.mono b2.size)).mono HB1.out.size))
  have HB12 := hide (b2.trans (Q2.mono b2.size))
  have HY2 := hide (Y2.below Q2)
  have HBX := hide (Box.new w2 (.cells #[.int .i64 k, .int .i64 s, .int .i64 b, .int .i64 i, .int .i64 r, .slice a2 n2 c2] 24))
  have hh := hget_any (HX.out.below HB2.out) (by have := HH.out; omega)
  rw [HP.out] at hh
  have HHI := hide (Y2.below Q2).block
  clear hg Y2 b2 Q2
  go_wp2_with fail
  refine hh.mono ?_
  rintro e w3 ⟨a3, n3, c3, rfl, Y3, b3⟩
  have Q3 := below_new w3 (.cells #[.int .i64 k, .int .i64 s, .int .i64 b, .int .i64 i, .int .i64 r, .slice a3 n3 c3] 24)
  have B3 := b3.trans (Q3.mono b3.size)
  have hsp := samepk_any k s b i r k s b i r a2 a3 n2 c2 n3 c3 _ _ ps ps (w3.alloc (.cells #[.int .i64 k, .int .i64 s, .int .i64 b, .int .i64 i, .int .i64 r, .slice a3 n3 c3] 24)) (HY2.out.below B3) (Y3.below Q3)
  rw [samePV_self] at hsp
  obtain ⟨k0, k1, k2, k3, k4, k5⟩ := six_of (HBX.out.below B3)
  obtain ⟨j0, j1, j2, j3, j4, j5⟩ := six_of (Box.new w3 (.cells #[.int .i64 k, .int .i64 s, .int .i64 b, .int .i64 i, .int .i64 r, .slice a3 n3 c3] 24))
  have HB3 := hide (HB2.out.trans (B3.mono HB2.out.size))
  have HB13 := hide (HB12.out.trans (B3.mono HB12.out.size))
  have HY3 := hide (HY2.out.below B3)
  have HBX3 := hide (HBX.out.below B3)
  have HHI3 := hide (fun hz b o e => Nat.lt_of_lt_of_le (HHI.out hz b o e) B3.size)
  clear hh Y3 b3 Q3 B3 HB2 HB12 HY2 HBX HHI
  go_wp2_with fail
  refine hsp.mono ?_
  rintro e w4 ⟨rfl, b4⟩
  have hov := overb_all (HY3.out.below b4) (by have h1 := HY3.out.len.1; have h2 := getP_len zs; rw [HP.out] at h2; dsimp only at h2; omega) w4.heap.size (fun hz b o e => Nat.lt_of_lt_of_le (HHI3.out hz b o e) b4.size)
  clear k0 k1 k2 k3 k4 k5 j0 j1 j2 j3 j4 j5
  obtain ⟨k0, k1, k2, k3, k4, k5⟩ := six_of (HBX3.out.below b4)
  have HB4 := hide (HB3.out.trans (b4.mono HB3.out.size))
  have HB14 := hide (HB13.out.trans (b4.mono HB13.out.size))
  clear hsp b4 HB3 HB13 HY3 HBX3 HHI3
  go_wp2_with fail
  refine hov.mono ?_
  rintro e w5 ⟨rfl, b5, _⟩
  have B15 : Below w1.heap.size w1 w5 := HB14.out.trans b5
  have B05 : Below w.heap.size w w5 := HB4.out.trans (b5.mono HB1.out.size)
  have hke := kept_any (HL.out.below B15) (HX.out.below B05) (by have := HH.out; omega)
  have HB5 := hide B05
  clear hov b5 B15 B05 k0 k1 k2 k3 k4 k5 HB14 HB4
  go_wp2_with fail
  refine hke.mono ?_
  rintro e w6 ⟨rfl, b6⟩
  have HB6 := hide (HB5.out.trans (b6.mono HB5.out.size))
  have hak := pawake_any w6
  clear hke b6 HB5
  go_wp2_with fail
  refine hak.mono ?_
  rintro e w7 ⟨rfl, b7⟩
  have HB7 := hide (HB6.out.trans (b7.mono HB6.out.size))
  clear hak b7
  go_wp2
  go_ret
  exact ⟨rfl, HB7.out⟩
theorem pgets_any {a : Option Addr} {n c : Nat} {zs : List Int} {w : World} (X : Byt 0 w (.slice a n c) zs) :
    Calls Try.prog 4 #[.slice a n c] w fun e w' => e = .returned (.bool true) ∧ Below w.heap.size w w' := by
  by_cases h : n ≤ 3000
  · exact pgets_short X h
  · exact pgets_long a n c w (by omega)
end Go.Proofs.Ytedjicimgalneaa
