/-
  Joined: PGet PHGet PWords PKnown PPuts.
-/
import Derived.Test.YtedjicimgalneaaJPParts
import Derived.Test.YtedjicimgalneaaCWords
import Derived.Test.YtedjicimgalneaaJWiden
import Derived.Test.YtedjicimgalneaaJRMulB
import Derived.Test.YtedjicimgalneaaJCTab
namespace Go.Proofs.Ytedjicimgalneaa
open Go.RowKit
def getP (bs : List Int) : PV × Int := if (openB cT bs).2 = 0 then getX (openB cT bs).1 else (PV.zero, (openB cT bs).2)
def PkSaid (p : PV) (er : Int) (w : World) (e : Ending) (w' : World) : Prop := ∃ (a : Option Addr) (n c : Nat), e = .returned (.tuple #[.agg #[.int .i64 p.k, .int .i64 p.s, .int .i64 p.b, .int .i64 p.i, .int .i64 p.r, .slice a n c], .int .i64 er]) ∧ Byt w.heap.size w' (.slice a n c) p.zs ∧ Below w.heap.size w w'
def put6 (W : World) (g : Nat) (u0 u1 u2 u3 u4 u5 : Value) : World := (((((W.setCell ⟨g, 0, none⟩ u0).setCell ⟨g, 1, none⟩ u1).setCell ⟨g, 2, none⟩ u2).setCell ⟨g, 3, none⟩ u3).setCell ⟨g, 4, none⟩ u4).setCell ⟨g, 5, none⟩ u5
structure Hat (w V : World) (F : Nat) (cs : Array Value) : Prop where
  res0 : Box V w.heap.size (.cells #[.int .i64 0, .int .i64 0, .int .i64 0, .int .i64 0, .int .i64 0, .slice none 0 0] 24)
  pk : Box V F (.cells cs 24)
  below : Below w.heap.size w V
  hF : w.heap.size < F
theorem Hat.below' {w V V' : World} {F : Nat} {cs : Array Value} (H : Hat w V F cs) (hb : Below V.heap.size V V') : Hat w V' F cs := ⟨H.res0.below hb, H.pk.below hb, H.below.trans (hb.mono H.below.size), H.hF⟩
theorem Hat.put {w V : World} {F : Nat} {cs : Array Value} (H : Hat w V F cs) (i : Nat) (v : Value) : Hat w (V.setCell ⟨F, i, none⟩ v) F (cs.setIfInBounds i v) :=
  ⟨H.res0.aside i v (by have := H.hF; omega), H.pk.put1 i v, H.below.setCell (p := ⟨F, i, none⟩) (Nat.le_of_lt H.hF) v, H.hF⟩
theorem byt_aside {lo F n c : Nat} {W : World} {a : Option Addr} {zs : List Int} {cs : Array Value} (h : Byt lo W (.slice a n c) zs) (hF : Box W F (.cells cs 24)) (hs : ∀ (i : Nat) (x : Int), cs[i]? ≠ some (.int .u8 x)) (i : Nat) (v : Value) : Byt lo (W.setCell ⟨F, i, none⟩ v) (.slice a n c) zs :=
  h.keep ((Spared.refl (fun q => q = F) W).setCell (k := F) rfl i v) (fun hz g o e hq => h.off hF hs hz g o e hq)
def PV.v (p : PV) (a : Option Addr) (c : Nat) : Value := .agg #[.int .i64 p.k, .int .i64 p.s, .int .i64 p.b, .int .i64 p.i, .int .i64 p.r, .slice a p.zs.length c]
def samePV (p q : PV) : Bool := decide (p.k = q.k) && (decide (p.s = q.s) && (decide (p.b = q.b) && (decide (p.i = q.i) && (decide (p.r = q.r) && decide (p.zs = q.zs)))))
set_option maxRecDepth 100000 in
set_option maxHeartbeats 2000000 in
theorem puts_yes (k s b i r : Int) (a a' : Option Addr) (n c n' c' lo : Nat) (xs ws : List Int) (w : World) (X : Byt 0 w (.slice a n c) xs) (Y : Byt lo w (.slice a' n' c') ws) (hM : May ⟨k, s, b, i, r, xs⟩) (hb : body ⟨k, s, b, i, r, xs⟩ = ws) :
    Calls Try.prog 25 #[.agg #[.int .i64 k, .int .i64 s, .int .i64 b, .int .i64 i, .int .i64 r, .slice a n c], .slice a' n' c'] w fun e w' => e = .returned (.bool true) ∧ Below w.heap.size w w' := by
  have Q0 := below_new w (.cells #[.int .i64 k, .int .i64 s, .int .i64 b, .int .i64 i, .int .i64 r, .slice a n c] 24)
  have hp := pput_any k s b i r a n c xs (w.alloc (.cells #[.int .i64 k, .int .i64 s, .int .i64 b, .int .i64 i, .int .i64 r, .slice a n c] 24)) (X.below Q0)
  have HQ := hide Q0
  rw [putP_yes hM, hb] at hp
  dsimp only at hp
  have hwl : n' ≤ 100000 := by
    have h1 := body_length ⟨k, s, b, i, r, xs⟩
    have h2 := may_len hM
    rw [hb] at h1
    have h3 := Y.len.1
    unfold bodyLen at h1
    dsimp only at h1
    split at h1 <;> split at h1 <;> split at h1 <;> omega
  have HY := hide Y
  have HW := hide hwl
  have hN := Y.len.1
  clear X Y hM hb Q0
  go_enter Try.func25, Try.ntmps25
  go_wp2_with fail
  refine hp.mono ?_
  rintro e w1 ⟨a1, n1, c1, rfl, Y1, b1⟩
  have hn1 : n1 = n' + 4 := by rw [Y1.len.1, sealL_length, hN]
  have hse := cseal_any (PT.nil w1) nums_cT ((HY.out.below HQ.out).below b1) (by omega)
  have HB1 := hide (HQ.out.trans (b1.mono HQ.out.size))
  have HY1 := hide Y1
  subst hn1
  clear hp Y1 b1 hN
  go_wp2_with fail
  refine hse.mono ?_
  rintro e w2 ⟨a2, c2, rfl, Y2, b2⟩
  have hsa := sameb_yes (HY1.out.below b2) Y2 rfl
  have HB2 := hide (HB1.out.trans (b2.mono HB1.out.size))
  clear hse Y2 b2 HY1 HB1
  go_wp2_with fail
  refine hsa.mono ?_
  rintro e w3 ⟨rfl, b3⟩
  have HB3 := hide (HB2.out.trans (b3.mono HB2.out.size))
  clear hsa b3
  go_wp2
  go_ret
  exact ⟨rfl, HB3.out⟩
theorem body_done : body ⟨3, 258, 0, 0, 0, []⟩ = [3, 0, 0, 1, 2] := by decide +kernel
set_option maxRecDepth 100000 in
set_option maxHeartbeats 1000000 in
theorem pawake_any (w : World) : Calls Try.prog 9 #[] w fun e w' => e = .returned (.bool true) ∧ Below w.heap.size w w' := by
  have q1 := below_new w (.cells #[.int .i64 3, .int .i64 258, .int .i64 0, .int .i64 0, .int .i64 0, .slice none 0 0] 24)
  have R1 := Box.new w (.cells #[.int .i64 3, .int .i64 258, .int .i64 0, .int .i64 0, .int .i64 0, .slice none 0 0] 24)
  have q2 := below_new (w.alloc (.cells #[.int .i64 3, .int .i64 258, .int .i64 0, .int .i64 0, .int .i64 0, .slice none 0 0] 24)) (.cells #[.int .u8 3, .int .u8 0, .int .u8 0, .int .u8 1, .int .u8 2] 5)
  have y2 := byt_lit (w.alloc (.cells #[.int .i64 3, .int .i64 258, .int .i64 0, .int .i64 0, .int .i64 0, .slice none 0 0] 24)) (w.heap.size + 1) 5 (by simp) [3, 0, 0, 1, 2] (octs_of rfl) rfl #[.int .u8 3, .int .u8 0, .int .u8 0, .int .u8 1, .int .u8 2] rfl
  have hp := puts_yes 3 258 0 0 0 none _ 0 0 5 5 _ [] [3, 0, 0, 1, 2] _ (Byt.nil 0 _) y2 (by decide) body_done
  have HB := hide (q1.trans (q2.mono q1.size))
  have HR := hide (R1.below q2)
  clear q1 q2 R1 y2
  go_enter Try.func9, Try.ntmps9
  go_wp2_with fail
  refine hp.mono ?_
  rintro e w1 ⟨rfl, b1⟩
  have HB1 := hide (HB.out.trans (b1.mono HB.out.size))
  have HR1 := hide (HR.out.below b1)
  clear hp b1 HB HR
  have hz := psize_any 3 258 0 0 0 none 0 0 [] rfl w1
  rw [show sizeP ⟨3, 258, 0, 0, 0, []⟩ = 9 by decide] at hz
  obtain ⟨k0, k1, k2, k3, k4, k5⟩ := six_of HR1.out
  go_wp2_with fail
  refine hz.mono ?_
  rintro e w2 ⟨rfl, b2⟩
  have HB2 := hide (HB1.out.trans (b2.mono HB1.out.size))
  clear hz b2 HB1 HR1 k0 k1 k2 k3 k4 k5
  have hs := psends_any 4 0 0 0 7 none 0 0 [] rfl w2
  rw [show sendsP ⟨4, 0, 0, 0, 7, []⟩ = true by decide] at hs
  go_wp2_with fail
  refine hs.mono ?_
  rintro e w3 ⟨rfl, b3⟩
  have HB3 := hide (HB2.out.trans (b3.mono HB2.out.size))
  clear hs b3 HB2
  have hc := pcheck_any 2 0 0 1 0 none 0 0 [] rfl w3
  rw [show checkP ⟨2, 0, 0, 1, 0, []⟩ = 2 by decide] at hc
  go_wp2_with fail
  refine hc.mono ?_
  rintro e w4 ⟨rfl, b4⟩
  have HB4 := hide (HB3.out.trans (b4.mono HB3.out.size))
  clear hc b4 HB3
  go_wp2
  go_ret
  exact ⟨rfl, HB4.out⟩
theorem putP_len {p : PV} : (putP p).1.length ≤ 70000 := by
  unfold putP
  by_cases h : May p
  · rw [if_pos h]
    show (sealL (body p)).length ≤ 70000
    have := may_len (k := p.k) (s := p.s) (b := p.b) (i := p.i) (r := p.r) (zs := p.zs) h
    rw [sealL_length, body_length]
    unfold bodyLen
    split <;> split <;> split <;> omega
  · rw [if_neg h]
    exact Nat.zero_le _
set_option maxRecDepth 100000 in
set_option maxHeartbeats 1000000 in
theorem pputs_long (k s b i r : Int) (a : Option Addr) (n c : Nat) (w : World) (h : 3000 < n ∧ n < 65530 ∨ 65540 < n) :
    Calls Try.prog 3 #[.agg #[.int .i64 k, .int .i64 s, .int .i64 b, .int .i64 i, .int .i64 r, .slice a n c]] w fun e w' => e = .returned (.bool true) ∧ Below w.heap.size w w' := by
  have q1 := below_new w (.cells #[.int .i64 k, .int .i64 s, .int .i64 b, .int .i64 i, .int .i64 r, .slice a n c] 24)
  have hk := pawake_any (w.alloc (.cells #[.int .i64 k, .int .i64 s, .int .i64 b, .int .i64 i, .int .i64 r, .slice a n c] 24))
  have h1 : 3000 < (n : Int) := by omega
  by_cases h2 : (n : Int) < 65530
  · clear h
    go_enter Try.func3, Try.ntmps3
    go_wp2_with fail
    refine hk.mono ?_
    rintro e w1 ⟨rfl, hb⟩
    have HB := hide (q1.trans (hb.mono q1.size))
    clear hk q1 hb
    go_wp2
    go_ret
    exact ⟨rfl, HB.out⟩
  · have h3 : 65540 < (n : Int) := by omega
    clear h
    go_enter Try.func3, Try.ntmps3
    go_wp2_with fail
    refine hk.mono ?_
    rintro e w1 ⟨rfl, hb⟩
    have HB := hide (q1.trans (hb.mono q1.size))
    clear hk q1 hb
    go_wp2
    go_ret
    exact ⟨rfl, HB.out⟩
set_option maxRecDepth 100000 in
set_option maxHeartbeats 2000000 in
theorem pputs_some (k s b i r : Int) (a : Option Addr) (n c : Nat) (zs : List Int) (w : World) (X : Byt 0 w (.slice a n c) zs) (h : n ≤ 65540) (h3 : ¬ 65540 < (n : Int)) (h2 : ¬ 3000 < (n : Int) ∨ 3000 < (n : Int) ∧ ¬ (n : Int) < 65530) :
    Calls Try.prog 3 #[.agg #[.int .i64 k, .int .i64 s, .int .i64 b, .int .i64 i, .int .i64 r, .slice a n c]] w fun e w' => e = .returned (.bool true) ∧ Below w.heap.size w w' := by
  have q1 := below_new w (.cells #[.int .i64 k, .int .i64 s, .int .i64 b, .int .i64 i, .int .i64 r, .slice a n c] 24)
  have q2 := below_new (w.alloc (.cells #[.int .i64 k, .int .i64 s, .int .i64 b, .int .i64 i, .int .i64 r, .slice a n c] 24)) (.cells #[.int .i64 k, .int .i64 s, .int .i64 b, .int .i64 i, .int .i64 r, .slice a n c] 24)
  have QQ := q1.trans (q2.mono q1.size)
  have R1 := (Box.new w (.cells #[.int .i64 k, .int .i64 s, .int .i64 b, .int .i64 i, .int .i64 r, .slice a n c] 24)).below q2
  have R2 := Box.put (w := w.alloc (.cells #[.int .i64 k, .int .i64 s, .int .i64 b, .int .i64 i, .int .i64 r, .slice a n c] 24)) (k := w.heap.size + 1) (.cells #[.int .i64 k, .int .i64 s, .int .i64 b, .int .i64 i, .int .i64 r, .slice a n c] 24) (by simp)
  have hl := lent_any (X.below QQ) (by omega)
  have HX := hide X
  have HN := hide X.len.1
  have HQ := hide QQ
  have HR1 := hide R1
  have HR2 := hide R2
  have HH := hide h
  clear X q1 q2 QQ R1 R2 h
  rcases h2 with h2 | ⟨h2, h2'⟩
  all_goals
    go_enter Try.func3, Try.ntmps3
    go_wp2_with fail
    refine hl.mono ?_
    rintro e w1 ⟨R, c1, rfl, L1, b1⟩
    have A1 := HR1.out.below b1
    have A2 := HR2.out.below b1
    have hn0 := HN.out
    have LT : Byt 0 w1 (.slice (some ⟨R, 0, none⟩) n c1) zs := by
      have := L1.take (k := n) (by rw [List.length_append]; omega)
      rw [List.take_append_of_le_length (by omega), hn0, List.take_length, ← hn0] at this
      exact this.mono (Nat.zero_le _)
    have HLV := hide (byt_aside L1 A2 (noOct6 _ _ _ _ _ _ _ _) 5 (.slice (some ⟨R, 0, none⟩) n c1))
    have LTV := byt_aside LT A2 (noOct6 _ _ _ _ _ _ _ _) 5 (.slice (some ⟨R, 0, none⟩) n c1)
    have hp := pput_any k s b i r (some ⟨R, 0, none⟩) n c1 zs (w1.setCell ⟨w.heap.size + 1, 5, none⟩ (.slice (some ⟨R, 0, none⟩) n c1)) LTV
    have BV1 : Below w.heap.size w w1 := HQ.out.trans (b1.mono HQ.out.size)
    have HBV := hide (BV1.setCell (p := ⟨w.heap.size + 1, 5, none⟩) (Nat.le_succ _) (.slice (some ⟨R, 0, none⟩) n c1))
    have V2 := hide (A2.put1 5 (.slice (some ⟨R, 0, none⟩) n c1))
    have V1 := hide (A1.aside (g := w.heap.size + 1) 5 (.slice (some ⟨R, 0, none⟩) n c1) (Nat.succ_ne_self _).symm)
    obtain ⟨k0, k1, k2, k3, k4, k5⟩ := six_of A1
    obtain ⟨j0, j1, j2, j3, j4, j5⟩ := six_of A2
    obtain ⟨f0, f1, f2, f3, f4, f5⟩ := six_frozen A2
    obtain ⟨⟨ys, er⟩, hP⟩ : ∃ q, putP ⟨k, s, b, i, r, zs⟩ = q := ⟨_, rfl⟩
    have hyl : ys.length ≤ 70000 := by have := putP_len (p := ⟨k, s, b, i, r, zs⟩); rw [hP] at this; exact this
    rw [hP] at hp
    dsimp only at hp
    have HP := hide hP
    have HYL := hide hyl
    clear hl A1 A2 LT LTV L1 b1 BV1 hP hyl hn0 HQ HR1 HR2
    go_wp2_with fail
    refine hp.mono ?_
    rintro e w2 ⟨a2, n2, c2, rfl, Y2, b2⟩
    have HS1 := hide (V1.out.below b2)
    have HS2 := hide (V2.out.below b2)
    have HB2 := hide (HBV.out.trans (b2.mono HBV.out.size))
    have hq := hput_any k s b i r a n c zs w2 (HX.out.below HB2.out)
    rw [HP.out] at hq
    dsimp only at hq
    have HLF := hide (show ∀ W, Below (w1.setCell ⟨w.heap.size + 1, 5, none⟩ (.slice (some ⟨R, 0, none⟩) n c1)).heap.size w2 W → Byt 0 W (.slice (some ⟨R, 0, none⟩) (n + 4) c1) (zs ++ [201, 202, 203, 204]) from fun W hW => (HLV.out.below (b2.trans hW)).mono (Nat.zero_le _))
    have HLO := hide (show w.heap.size + 2 ≤ (w1.setCell ⟨w.heap.size + 1, 5, none⟩ (.slice (some ⟨R, 0, none⟩) n c1)).heap.size from V2.out.lt)
    have HY2' := hide Y2
    obtain ⟨VS, hVS⟩ : ∃ VS, (w1.setCell ⟨w.heap.size + 1, 5, none⟩ (.slice (some ⟨R, 0, none⟩) n c1)).heap.size = VS := ⟨_, rfl⟩
    rw [hVS] at HY2' HLO HLF
    clear k0 k1 k2 k3 k4 k5 j0 j1 j2 j3 j4 j5 f0 f1 f2 f3 f4 f5
    obtain ⟨k0, k1, k2, k3, k4, k5⟩ := six_of HS1.out
    have HVW := hide (show VS ≤ w2.heap.size by rw [← hVS]; exact b2.size)
    clear hp Y2 b2 HLV V1 V2 HBV hVS
    go_wp2_with fail
    refine hq.mono ?_
    rintro e w3 ⟨a3, n3, c3, rfl, Y3, b3⟩
    have HB3 := hide (HB2.out.trans (b3.mono HB2.out.size))
    have HY2 := hide (HY2'.out.below b3)
    have HY3 := hide Y3
    have HA1 := hide (HS1.out.below b3)
    have HA2 := hide (HS2.out.below b3)
    have HB23 := hide (b3.mono HVW.out)
    have HV3 := hide (Nat.le_trans HVW.out b3.size)
    obtain ⟨C, hC⟩ : ∃ C, checkP ⟨k, s, b, i, r, zs⟩ = C := ⟨_, rfl⟩
    obtain ⟨Z, hZ⟩ : ∃ Z, sizeP ⟨k, s, b, i, r, zs⟩ = Z := ⟨_, rfl⟩
    obtain ⟨T, hT⟩ : ∃ T, sendsP ⟨k, s, b, i, r, zs⟩ = T := ⟨_, rfl⟩
    have HCC := hide hC
    have HZZ := hide hZ
    have HSS := hide hT
    have mkS : ∀ W : World, Below w3.heap.size w3 W → (W.cell? ⟨w.heap.size, 0, none⟩ = some (.int .i64 k) ∧ W.cell? ⟨w.heap.size, 1, none⟩ = some (.int .i64 s) ∧ W.cell? ⟨w.heap.size, 2, none⟩ = some (.int .i64 b) ∧ W.cell? ⟨w.heap.size, 3, none⟩ = some (.int .i64 i) ∧ W.cell? ⟨w.heap.size, 4, none⟩ = some (.int .i64 r) ∧ W.cell? ⟨w.heap.size, 5, none⟩ = some (.slice a n c) ∧ W.cell? ⟨w.heap.size + 1, 0, none⟩ = some (.int .i64 k) ∧ W.cell? ⟨w.heap.size + 1, 1, none⟩ = some (.int .i64 s) ∧ W.cell? ⟨w.heap.size + 1, 2, none⟩ = some (.int .i64 b) ∧ W.cell? ⟨w.heap.size + 1, 3, none⟩ = some (.int .i64 i) ∧ W.cell? ⟨w.heap.size + 1, 4, none⟩ = some (.int .i64 r) ∧ W.cell? ⟨w.heap.size + 1, 5, none⟩ = some (.slice (some ⟨R, 0, none⟩) n c1)) := fun W hW => ⟨(six_of (HA1.out.below hW)).1, (six_of (HA1.out.below hW)).2.1, (six_of (HA1.out.below hW)).2.2.1, (six_of (HA1.out.below hW)).2.2.2.1, (six_of (HA1.out.below hW)).2.2.2.2.1, (six_of (HA1.out.below hW)).2.2.2.2.2, (six_of (HA2.out.below hW)).1, (six_of (HA2.out.below hW)).2.1, (six_of (HA2.out.below hW)).2.2.1, (six_of (HA2.out.below hW)).2.2.2.1, (six_of (HA2.out.below hW)).2.2.2.2.1, (six_of (HA2.out.below hW)).2.2.2.2.2⟩
    have HW : Below w3.heap.size w3 w3.drew := (Below.refl _ w3).drew
    have hS := mkS w3.drew HW
    have t0 : Hid True := trivial
    clear hq Y3 b3 HS1 HS2 HY2' HB2 HVW hC hZ hT k0 k1 k2 k3 k4 k5
    go_wp2_with fail
    go_region_held3 (fun V : World => V.cell? ⟨w.heap.size, 0, none⟩ = some (.int .i64 k) ∧ V.cell? ⟨w.heap.size, 1, none⟩ = some (.int .i64 s) ∧ V.cell? ⟨w.heap.size, 2, none⟩ = some (.int .i64 b) ∧ V.cell? ⟨w.heap.size, 3, none⟩ = some (.int .i64 i) ∧ V.cell? ⟨w.heap.size, 4, none⟩ = some (.int .i64 r) ∧ V.cell? ⟨w.heap.size, 5, none⟩ = some (.slice a n c) ∧ V.cell? ⟨w.heap.size + 1, 0, none⟩ = some (.int .i64 k) ∧ V.cell? ⟨w.heap.size + 1, 1, none⟩ = some (.int .i64 s) ∧ V.cell? ⟨w.heap.size + 1, 2, none⟩ = some (.int .i64 b) ∧ V.cell? ⟨w.heap.size + 1, 3, none⟩ = some (.int .i64 i) ∧ V.cell? ⟨w.heap.size + 1, 4, none⟩ = some (.int .i64 r) ∧ V.cell? ⟨w.heap.size + 1, 5, none⟩ = some (.slice (some ⟨R, 0, none⟩) n c1)) (exact hS)
      (first
      | (clear t0
         go_at_call 13
         have hcon := sameb_yes (HY2.out.below HW) (HY3.out.below HW) rfl
         refine hcon.mono ?_
         rintro e u0 ⟨rfl, hb⟩
         have HW2 := HW.trans (hb.mono HW.size)
         clear HW hcon hb
         have HW := HW2
         clear HW2
         replace hS := mkS _ HW
         have t1 : Hid True := trivial)
      | (clear t1
         go_at_call 14
         have hcon := pcheck_any k s b i r (some ⟨R, 0, none⟩) n c1 zs HN.out.symm u0
         rw [HCC.out] at hcon
         refine hcon.mono ?_
         rintro e u1 ⟨rfl, hb⟩
         have HW2 := HW.trans (hb.mono HW.size)
         clear HW hcon hb
         have HW := HW2
         clear HW2
         replace hS := mkS _ HW
         have t2 : Hid True := trivial)
      | (clear t2
         go_at_call 15
         have hcon := hcheck_any k s b i r a n c zs HN.out.symm u1
         rw [HCC.out] at hcon
         refine hcon.mono ?_
         rintro e u2 ⟨rfl, hb⟩
         have HW2 := HW.trans (hb.mono HW.size)
         clear HW hcon hb
         have HW := HW2
         clear HW2
         replace hS := mkS _ HW
         have t3 : Hid True := trivial)
      | (clear t3
         go_at_call 16
         have hcon := psize_any k s b i r (some ⟨R, 0, none⟩) n c1 zs HN.out.symm u2
         rw [HZZ.out] at hcon
         refine hcon.mono ?_
         rintro e u3 ⟨rfl, hb⟩
         have HW2 := HW.trans (hb.mono HW.size)
         clear HW hcon hb
         have HW := HW2
         clear HW2
         replace hS := mkS _ HW
         have t4 : Hid True := trivial)
      | (clear t4
         go_at_call 17
         have hcon := hsize_any k s b i r a n c zs u3 (HX.out.below (HB3.out.trans (HW.mono HB3.out.size)))
         rw [HZZ.out] at hcon
         refine hcon.mono ?_
         rintro e u4 ⟨rfl, hb⟩
         have HW2 := HW.trans (hb.mono HW.size)
         clear HW hcon hb
         have HW := HW2
         clear HW2
         replace hS := mkS _ HW
         have t5 : Hid True := trivial)
      | (clear t5
         go_at_call 18
         have hcon := psends_any k s b i r (some ⟨R, 0, none⟩) n c1 zs HN.out.symm u4
         rw [HSS.out] at hcon
         refine hcon.mono ?_
         rintro e u5 ⟨rfl, hb⟩
         have HW2 := HW.trans (hb.mono HW.size)
         clear HW hcon hb
         have HW := HW2
         clear HW2
         replace hS := mkS _ HW
         have t6 : Hid True := trivial)
      | (clear t6
         go_at_call 19
         have hcon := hsends_any k s b i r a n c zs HN.out.symm u5
         rw [HSS.out] at hcon
         refine hcon.mono ?_
         rintro e u6 ⟨rfl, hb⟩
         have HW2 := HW.trans (hb.mono HW.size)
         clear HW hcon hb
         have HW := HW2
         clear HW2
         replace hS := mkS _ HW
         have t7 : Hid True := trivial))
    all_goals
      have HW7 := hide HW
      have hov := overb_all (HY2.out.below HW) (by have := HY2.out.len.1; have := HYL.out; omega) u6.heap.size (fun hz b o e => Nat.lt_of_lt_of_le (HY2.out.block hz b o e) HW.size)
      clear HW hS mkS t7
      go_wp2_with fail
      refine hov.mono ?_
      rintro e w8 ⟨rfl, b8, _⟩
      have B38 : Below VS w3 w8 := (HW7.out.mono HV3.out).trans b8
      have B08 : Below w.heap.size w w8 := HB3.out.trans (B38.mono (by have := HLO.out; omega))
      have D1 := HA1.out.lo B38 (by have := HLO.out; omega)
      have D2 := HA2.out.lo B38 (by have := HLO.out; omega)
      obtain ⟨_, _, _, _, _, k5⟩ := six_of D1
      obtain ⟨_, _, _, _, _, j5⟩ := six_of D2
      have hke := kept_any (HLF.out w8 (HB23.out.trans B38)) (HX.out.below B08) (by have := HH.out; omega)
      have HB8 := hide B08
      clear hov b8 B38 B08 D1 D2 HW7 HB3
      go_wp2_with fail
      refine hke.mono ?_
      rintro e w9 ⟨rfl, b9⟩
      have HB9 := hide (HB8.out.trans (b9.mono HB8.out.size))
      have hak := pawake_any w9
      clear hke b9 HB8
      go_wp2_with fail
      refine hak.mono ?_
      rintro e wA ⟨rfl, bA⟩
      have HBA := hide (HB9.out.trans (bA.mono HB9.out.size))
      clear hak bA
      go_wp2
      go_ret
      exact ⟨rfl, HBA.out⟩
theorem pputs_any {p : PV} {a : Option Addr} {c : Nat} {w : World} (X : Byt 0 w (.slice a p.zs.length c) p.zs) :
    Calls Try.prog 3 #[p.v a c] w fun e w' => e = .returned (.bool true) ∧ Below w.heap.size w w' := by
  obtain ⟨k, s, b, i, r, zs⟩ := p
  by_cases h : 3000 < zs.length ∧ zs.length < 65530 ∨ 65540 < zs.length
  · exact pputs_long k s b i r a zs.length c w h
  · exact pputs_some k s b i r a zs.length c zs w X (by omega) (by omega) (by omega)
end Go.Proofs.Ytedjicimgalneaa
