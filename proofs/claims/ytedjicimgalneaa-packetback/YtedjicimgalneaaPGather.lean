/-
  The walk of gather.
-/
import Derived.Test.YtedjicimgalneaaJPParts
namespace Go.Proofs.Ytedjicimgalneaa
open Go.RowKit

theorem noOct6 (k s b i r : Int) (a : Option Addr) (n c : Nat) : ∀ (j : Nat) (x : Int), (#[.int .i64 k, .int .i64 s, .int .i64 b, .int .i64 i, .int .i64 r, .slice a n c] : Array Value)[j]? ≠ some (.int .u8 x) := fun j x h => by
  match j with
  | 0 => simp at h
  | 1 => simp at h
  | 2 => simp at h
  | 3 => simp at h
  | 4 => simp at h
  | 5 => simp at h
  | j + 6 => simp at h
structure Gat (w V : World) (A F H r c : Nat) (a : Option Addr) (n cap : Nat) (x : List Int) (s : RS) (cs : Array Value) (N : Int) (R D : Bool) : Prop where
  var : Box V A (.cells #[.pointer (some ⟨r, 0, none⟩)] 86)
  pk : Box V F (.cells cs 24)
  has : Box V H (.cells #[.int .i64 N, .bool R, .bool D] 45)
  res0 : Box V w.heap.size (.cells #[.int .i64 0, .int .i64 0, .int .i64 0, .int .i64 0, .int .i64 0, .slice none 0 0] 24)
  res1 : Box V (w.heap.size + 1) (.cells #[.int .i64 0, .int .i64 0] 62)
  rd : PR w.heap.size V r c a n cap x s
  below : Below w.heap.size w V
  hc : w.heap.size ≤ c
  hF : w.heap.size < F
theorem Gat.step {w V V' : World} {A F H r c n cap : Nat} {a : Option Addr} {x : List Int} {s s' : RS} {cs cs' : Array Value} {N : Int} {R D : Bool} (G : Gat w V A F H r c a n cap x s cs N R D) (P : PR w.heap.size V' r c a n cap x s') (hB : Box V' F (.cells cs' 24)) (S : Spared (fun q => q = c ∨ q = F) V V') : Gat w V' A F H r c a n cap x s' cs' N R D := by
  have hC := G.rd.cur
  have ap : ∀ {g : Nat} {ds : Array Value} {t : TypeId}, Box V g (.cells ds t (0, 0)) → 71 ≠ t → 24 ≠ t → Box V' g (.cells ds t (0, 0)) := fun hb h1 h2 => Box.spared hb S (fun h => h.elim (fun e => Box.apart hC hb h1 e.symm) (fun e => Box.apart G.pk hb h2 e.symm))
  exact ⟨ap G.var (by decide) (by decide), hB, ap G.has (by decide) (by decide), Box.spared G.res0 S (fun h => h.elim (fun e => Box.apart hC G.res0 (by decide) e.symm) (fun e => by have := G.hF; omega)), ap G.res1 (by decide) (by decide), P, G.below.trans (S.to_below G.below.size (fun q hq => hq.elim (fun e => by have := G.hc; omega) (fun e => by have := G.hF; omega))), G.hc, G.hF⟩
theorem Spared.setRow {F : Nat → Prop} {A B : World} (h : Spared F A B) {k : Nat} (hk : F k) (cs : Array Value) : Spared F A (B.setRow k cs) :=
  ⟨below_setRow h.below (Nat.zero_le _) cs, fun i hi hf => (setRow_other B k i cs (fun e => hf (e ▸ hk))).trans (h.same i hi hf)⟩
theorem Gat.below' {w V V' : World} {A F H r c n cap : Nat} {a : Option Addr} {x : List Int} {s : RS} {cs : Array Value} {N : Int} {R D : Bool} (G : Gat w V A F H r c a n cap x s cs N R D) (hb : Below V.heap.size V V') : Gat w V' A F H r c a n cap x s cs N R D :=
  ⟨G.var.below hb, G.pk.below hb, G.has.below hb, G.res0.below hb, G.res1.below hb, G.rd.below hb, G.below.trans (hb.mono G.below.size), G.hc, G.hF⟩
theorem Gat.drew {w V : World} {A F H r c n cap : Nat} {a : Option Addr} {x : List Int} {s : RS} {cs : Array Value} {N : Int} {R D : Bool} (G : Gat w V A F H r c a n cap x s cs N R D) : Gat w V.drew A F H r c a n cap x s cs N R D := G.below' ((Below.refl _ V).drew)
theorem PR.down {lo lo' r c n cap : Nat} {a : Option Addr} {zs : List Int} {s : RS} {W : World} (h : PR lo W r c a n cap zs s) (hl : lo' ≤ lo) : PR lo' W r c a n cap zs s := ⟨h.rdr, h.cur, h.byt.mono hl, h.ok, h.small⟩
set_option maxRecDepth 100000 in
set_option maxHeartbeats 1000000 in
theorem pgather_any {lo n c : Nat} {a : Option Addr} {x : List Int} {w : World} (X : Byt lo w (.slice a n c) x) (hn : n ≤ 100000) :
    Calls Try.prog 41 #[.slice a n c] w fun e w' => ∃ (a' : Option Addr) (m c' : Nat), e = .returned (.tuple #[.agg #[.int .i64 (gathP x).k, .int .i64 (gathP x).s, .int .i64 (gathP x).b, .int .i64 (gathP x).i, .int .i64 (gathP x).r, .slice a' m c'], .agg #[.int .i64 (endR x (gf x).2).1, .int .i64 (endR x (gf x).2).2]]) ∧ Byt w.heap.size w' (.slice a' m c') (gathP x).zs ∧ Below w.heap.size w w' := by
  have q1 := below_new w (.cells #[.int .i64 0, .int .i64 0, .int .i64 0, .int .i64 0, .int .i64 0, .slice none 0 0] 24)
  have q2 := below_new (w.alloc (.cells #[.int .i64 0, .int .i64 0, .int .i64 0, .int .i64 0, .int .i64 0, .slice none 0 0] 24)) (.cells #[.int .i64 0, .int .i64 0] 62)
  have Q := q1.trans (q2.mono q1.size)
  have R0 := (Box.new w (.cells #[.int .i64 0, .int .i64 0, .int .i64 0, .int .i64 0, .int .i64 0, .slice none 0 0] 24)).below q2
  have R1 := Box.put (w := w.alloc (.cells #[.int .i64 0, .int .i64 0, .int .i64 0, .int .i64 0, .int .i64 0, .slice none 0 0] 24)) (k := w.heap.size + 1) (.cells #[.int .i64 0, .int .i64 0] 62) (by simp)
  have hnr := onewr_any (X.below Q) hn
  have HQ := hide Q
  have HR0 := hide R0
  have HR1 := hide R1
  clear q1 q2 Q R0 R1 X hn
  go_enter Try.func41, Try.ntmps41
  go_wp2_with fail
  refine hnr.mono ?_
  rintro e w1 ⟨r, cc, b1, d1, rfl, P1, hr1, hc1, B1⟩
  have KA := below_new w1 (.cells #[.pointer (some ⟨r, 0, none⟩)] 86)
  have VA := Box.new w1 (.cells #[.pointer (some ⟨r, 0, none⟩)] 86)
  have hg := orget_any (k := 1) (P1.below KA)
  have HB2 := hide ((HQ.out.trans (B1.mono HQ.out.size)).trans (KA.mono (Nat.le_trans HQ.out.size B1.size)))
  have HR02 := hide ((HR0.out.below B1).below KA)
  have HR12 := hide ((HR1.out.below B1).below KA)
  have HVA := hide VA
  have HCC := hide (Nat.le_trans HQ.out.size hc1)
  have HPC := hide (P1.below KA).cur
  have hga : getR x ⟨0, 0, 0⟩ 1 = ga x := rfl
  rw [hga] at hg
  clear hnr P1 hr1 hc1 B1 KA VA HQ HR0 HR1 hga
  go_wp2_with fail
  refine hg.mono ?_
  rintro e w2 ⟨rfl, P2, S2⟩
  have P2' := P2.down (lo' := w.heap.size) (by simp; omega)
  have HB3 := hide (HB2.out.trans (S2.to_below HB2.out.size (fun q hq => by have := HCC.out; omega)))
  have hcr : ∀ {g : Nat} {ds : Array Value} {t : TypeId}, Box (w1.alloc (.cells #[.pointer (some ⟨r, 0, none⟩)] 86)) g (.cells ds t (0, 0)) → 71 ≠ t → Box w2 g (.cells ds t (0, 0)) := fun hb h1 => Box.spared hb S2 (fun e => Box.apart HPC.out hb h1 e.symm)
  have VA2 := hcr HVA.out (by decide)
  have R02 := hcr HR02.out (by decide)
  have R12 := hcr HR12.out (by decide)
  obtain ⟨K, hK⟩ : ∃ K, (ga x).1 = K := ⟨_, rfl⟩
  have KF := below_new w2 (.cells #[.int .i64 (K : Nat), .int .i64 0, .int .i64 0, .int .i64 0, .int .i64 0, .slice none 0 0] 24)
  have F2 := Box.new w2 (.cells #[.int .i64 (K : Nat), .int .i64 0, .int .i64 0, .int .i64 0, .int .i64 0, .slice none 0 0] 24)
  have hp := pparts_any K (w2.alloc (.cells #[.int .i64 (K : Nat), .int .i64 0, .int .i64 0, .int .i64 0, .int .i64 0, .slice none 0 0] 24))
  unfold partsV at hp
  have G2 : ∀ V, Below w2.heap.size w2 V → Box V w1.heap.size (.cells #[.pointer (some ⟨r, 0, none⟩)] 86) ∧ Box V w.heap.size (.cells #[.int .i64 0, .int .i64 0, .int .i64 0, .int .i64 0, .int .i64 0, .slice none 0 0] 24) ∧ Box V (w.heap.size + 1) (.cells #[.int .i64 0, .int .i64 0] 62) ∧ PR w.heap.size V r cc b1 n d1 x (ga x).2 ∧ Below w.heap.size w V := fun V hV => ⟨VA2.below hV, R02.below hV, R12.below hV, P2'.below hV, HB3.out.trans (hV.mono HB3.out.size)⟩
  have HG2 := hide G2
  have HKF := hide KF
  have HF2 := hide F2
  have HFS := hide (show w.heap.size < w2.heap.size from R02.lt)
  obtain ⟨a0, _⟩ := one_of VA2
  have HK := hide hK
  obtain ⟨N, hN⟩ : ∃ N, nums (K : Int) = N := ⟨_, rfl⟩
  obtain ⟨R, hR⟩ : ∃ R, decide ((K : Int) = 4) = R := ⟨_, rfl⟩
  obtain ⟨D, hD⟩ : ∃ D, decide ((K : Int) = 1 ∨ (K : Int) = 5) = D := ⟨_, rfl⟩
  rw [hN, hR, hD] at hp
  have HN := hide hN
  have HRR := hide hR
  have HD := hide hD
  rw [hK]
  clear hg P2 S2 P2' hcr VA2 R02 R12 hK KF F2 G2 HB2 HR02 HR12 HVA HPC HB3 hN hR hD
  go_wp2_with fail
  refine hp.mono ?_
  rintro e w3 ⟨rfl, b3⟩
  have KH := below_new w3 (.cells #[.int .i64 N, .bool R, .bool D] 45)
  have HH3 := Box.new w3 (.cells #[.int .i64 N, .bool R, .bool D] 45)
  have hV3 : Below w2.heap.size w2 (w3.alloc (.cells #[.int .i64 N, .bool R, .bool D] 45)) := (HKF.out.trans (b3.mono HKF.out.size)).trans (KH.mono (Nat.le_trans HKF.out.size b3.size))
  obtain ⟨v1, v2, v3, v4, v5⟩ := HG2.out _ hV3
  have HG : Hid (Gat w (w3.alloc (.cells #[.int .i64 N, .bool R, .bool D] 45)) w1.heap.size w2.heap.size w3.heap.size r cc b1 n d1 x (ga x).2 #[.int .i64 (K : Nat), .int .i64 0, .int .i64 0, .int .i64 0, .int .i64 0, .slice none 0 0] N R D) := ⟨v1, (HF2.out.below b3).below KH, HH3, v2, v3, v4, v5, HCC.out, HFS.out⟩
  clear hp b3 KH HH3 hV3 v1 v2 v3 v4 v5 HG2 HKF HF2 HFS a0
  have hent := enter_pkgather1
  have ht := ptake_any (o := 1) 4 (decide (0 < N)) HG.out.rd HG.out.var HG.out.pk (noOct6 _ _ _ _ _ _ _ _) rfl
  obtain ⟨⟨m1, s1⟩, hm1⟩ : ∃ q, gIf 4 x (decide (0 < N)) (ga x).2 = q := ⟨_, rfl⟩
  rw [hm1] at ht
  have HM1 := hide hm1
  obtain ⟨n0, _, _, _, _, _⟩ := three_of HG.out.has
  clear hm1
  go_wp2_with fail
  refine ht.mono ?_
  rintro e y1 ⟨rfl, P1, F1, S1⟩
  have HGn : Hid (Gat w y1 w1.heap.size w2.heap.size w3.heap.size r cc b1 n d1 x s1 #[.int .i64 (K : Nat), .int .i64 (m1 : Nat), .int .i64 0, .int .i64 0, .int .i64 0, .slice none 0 0] N R D) := HG.out.step P1 F1 S1
  clear ht n0 P1 F1 S1 HG
  have HG := HGn
  clear HGn
  have ht := ptake_any (o := 2) 4 (decide (1 < N)) HG.out.rd HG.out.var HG.out.pk (noOct6 _ _ _ _ _ _ _ _) rfl
  obtain ⟨⟨m2, s2⟩, hm2⟩ : ∃ q, gIf 4 x (decide (1 < N)) s1 = q := ⟨_, rfl⟩
  rw [hm2] at ht
  have HM2 := hide hm2
  obtain ⟨n0, n1, n2, _, _, _⟩ := three_of HG.out.has
  clear hm2
  go_wp2_with fail
  refine ht.mono ?_
  rintro e y2 ⟨rfl, P2, F2, S2⟩
  have HGn : Hid (Gat w y2 w1.heap.size w2.heap.size w3.heap.size r cc b1 n d1 x s2 #[.int .i64 (K : Nat), .int .i64 (m1 : Nat), .int .i64 (m2 : Nat), .int .i64 0, .int .i64 0, .slice none 0 0] N R D) := HG.out.step P2 F2 S2
  clear ht n0 P2 F2 S2 HG
  have HG := HGn
  clear HGn
  clear n1 n2
  have ht := ptake_any (o := 3) 4 (decide (2 < N)) HG.out.rd HG.out.var HG.out.pk (noOct6 _ _ _ _ _ _ _ _) rfl
  obtain ⟨⟨m3, s3⟩, hm3⟩ : ∃ q, gIf 4 x (decide (2 < N)) s2 = q := ⟨_, rfl⟩
  rw [hm3] at ht
  have HM3 := hide hm3
  obtain ⟨n0, n1, n2, _, _, _⟩ := three_of HG.out.has
  clear hm3
  go_wp2_with fail
  refine ht.mono ?_
  rintro e y3 ⟨rfl, P3, F3, S3⟩
  have HGn : Hid (Gat w y3 w1.heap.size w2.heap.size w3.heap.size r cc b1 n d1 x s3 #[.int .i64 (K : Nat), .int .i64 (m1 : Nat), .int .i64 (m2 : Nat), .int .i64 (m3 : Nat), .int .i64 0, .slice none 0 0] N R D) := HG.out.step P3 F3 S3
  clear ht n0 P3 F3 S3 HG
  have HG := HGn
  clear HGn
  clear n1 n2
  have ht := ptake_any (o := 4) 1 (R) HG.out.rd HG.out.var HG.out.pk (noOct6 _ _ _ _ _ _ _ _) rfl
  obtain ⟨⟨m4, s4⟩, hm4⟩ : ∃ q, gIf 1 x (R) s3 = q := ⟨_, rfl⟩
  rw [hm4] at ht
  have HM4 := hide hm4
  obtain ⟨n0, n1, n2, _, _, _⟩ := three_of HG.out.has
  clear hm4
  go_wp2_with fail
  refine ht.mono ?_
  rintro e y4 ⟨rfl, P4, F4, S4⟩
  have HGn : Hid (Gat w y4 w1.heap.size w2.heap.size w3.heap.size r cc b1 n d1 x s4 #[.int .i64 (K : Nat), .int .i64 (m1 : Nat), .int .i64 (m2 : Nat), .int .i64 (m3 : Nat), .int .i64 (m4 : Nat), .slice none 0 0] N R D) := HG.out.step P4 F4 S4
  clear ht n0 P4 F4 S4 HG
  have HG := HGn
  clear HGn
  clear n1 n2
  obtain ⟨n0, n1, n2, _, _, _⟩ := three_of HG.out.has
  have hP : ∀ zs s5, gf x = (zs, s5) → gathP x = ⟨K, m1, m2, m3, m4, zs⟩ := by
    have e1 : gb x = (m1, s1) := by rw [← HM1.out]; unfold gb; rw [HK.out, HN.out]; rfl
    have e2 : gc x = (m2, s2) := by rw [← HM2.out]; unfold gc; rw [HK.out, HN.out, e1]; rfl
    have e3 : gd x = (m3, s3) := by rw [← HM3.out]; unfold gd; rw [HK.out, HN.out, e2]; rfl
    have e4 : ge x = (m4, s4) := by rw [← HM4.out]; unfold ge; rw [HK.out, HRR.out, e3]; rfl
    intro zs s5 h
    unfold gathP
    rw [HK.out, e1, e2, e3, e4, h]
  have e4 : ge x = (m4, s4) := by
    have e1 : gb x = (m1, s1) := by rw [← HM1.out]; unfold gb; rw [HK.out, HN.out]; rfl
    have e2 : gc x = (m2, s2) := by rw [← HM2.out]; unfold gc; rw [HK.out, HN.out, e1]; rfl
    have e3 : gd x = (m3, s3) := by rw [← HM3.out]; unfold gd; rw [HK.out, HN.out, e2]; rfl
    rw [← HM4.out]; unfold ge; rw [HK.out, HRR.out, e3]; rfl
  have hf : gf x = rwIf x D s4 := by unfold gf; rw [HK.out, HD.out, e4]
  have HP := hide hP
  have HF := hide hf
  clear hP hf e4 HM1 HM2 HM3 HM4 HK HN HRR HD hent
  cases D with
  | false =>
    have hq : gathP x = ⟨K, m1, m2, m3, m4, []⟩ := HP.out [] s4 HF.out
    have he : (gf x).2 = s4 := by rw [HF.out]; rfl
    have HQ := hide hq
    have HE := hide he
    clear hq he HP HF
    have HYK : Hid (∀ W1, Below y4.heap.size y4 W1 → ∀ V, Spared (fun q => q = w.heap.size ∨ q = w.heap.size + 1) W1 V → Byt w.heap.size V (.slice none 0 0) []) := fun _ _ V _ => Byt.nil _ V
    obtain ⟨E1, hE1⟩ : ∃ q, (endR x s4).1 = q := ⟨_, rfl⟩
    obtain ⟨E2, hE2⟩ : ∃ q, (endR x s4).2 = q := ⟨_, rfl⟩
    have HE1 := hide hE1
    have HE2 := hide hE2
    clear hE1 hE2
    go_wp2_with fail
    refine wp_yields 3 [.is (.agg #[.int .i64 (K : Nat), .int .i64 (m1 : Nat), .int .i64 (m2 : Nat), .int .i64 (m3 : Nat), .int .i64 (m4 : Nat), .slice none 0 0]), .is (.pointer (some ⟨r, 0, none⟩)), .is (.agg #[.int .i64 E1, .int .i64 E2])] (by kernel_rfl) (by kernel_rfl) (lt_cons ?_ (lt_cons ?_ (lt_cons ?_ (lt_nil)))) ?_
    case refine_1 =>
      refine OpDoes.mk rfl ?_
      intro vs V hV hd K' hK
      have d1 : vs 1 = .pointer (some ⟨r, 0, none⟩) := hd 1 (by decide) (by kernel_rfl)
      simp only [laidIn, lz1, lz2, lz3, lz4, lz5, lz6, if_true, Act.put, lz7, lz8, lz9] at hK ⊢
      simp only [d1] at hK ⊢
      have hen := oend_any ((HG.out.rd.below ((Below.refl _ y4).drew)).below hV)
      rw [HE1.out, HE2.out] at hen
      go_simp
      go_at_call 63
      refine hen.mono ?_
      rintro e V' ⟨rfl, hb⟩
      exact hK.out _ _ hb rfl (not_fresh rfl)
    case refine_2 =>
      refine OpDoes.mk rfl ?_
      intro vs V hV hd K' hK
      simp only [laidIn, lz1, lz2, lz3, lz4, lz5, lz6, if_true, Act.put, lz7, lz8, lz9] at hK ⊢
      obtain ⟨k0, _⟩ := one_of (HG.out.var.drew.below hV)
      go_simp
      exact hK.out _ _ (Below.refl _ _) rfl (not_fresh rfl)
    case refine_3 =>
      refine OpDoes.mk rfl ?_
      intro vs V hV hd K' hK
      simp only [laidIn, lz1, lz2, lz4, lz5, lz6, if_true, Act.put, lz7, lz8, lz9] at hK ⊢
      obtain ⟨k0, k1, k2, k3, k4, k5⟩ := six_of (HG.out.pk.drew.below hV)
      go_simp
      exact hK.out _ _ (Below.refl _ _) rfl (not_fresh rfl)
    case refine_4 =>
      intro vs W1 hV hR1 hne fuel
      have d0 : vs 0 = .agg #[.int .i64 (K : Nat), .int .i64 (m1 : Nat), .int .i64 (m2 : Nat), .int .i64 (m3 : Nat), .int .i64 (m4 : Nat), .slice none 0 0] := hR1 0 (by decide)
      have d1 : vs 1 = .pointer (some ⟨r, 0, none⟩) := hR1 1 (by decide)
      have d2 : vs 2 = .agg #[.int .i64 E1, .int .i64 E2] := hR1 2 (by decide)
      simp only [laidIn, lz4, lz5, lz6, if_true, Act.put, lz7, lz8, lz9]
      simp only [d0, d1, d2]
      clear hR1 hne d0 d1 d2
      clear vs
      have hV1 : Below y4.heap.size y4 W1 := ((Below.refl _ y4).drew).trans hV
      have A0 := HG.out.res0.below hV1
      have A1 := HG.out.res1.below hV1
      show wpAny _ _ _ _ (fuel + 2) _ _ _
      refine wpAny_all (rs := [3]) (by kernel_rfl) (by simp) (fun q hq => ?_)
      obtain rfl : q = 3 := by simpa using hq
      clear hq
      refine wpOp_step rfl (fun K' hK => ?_)
      rw [if_pos (by rfl)]
      refine wp_store_row _ _ _ rfl w.heap.size #[.int .i64 (K : Nat), .int .i64 (m1 : Nat), .int .i64 (m2 : Nat), .int .i64 (m3 : Nat), .int .i64 (m4 : Nat), .slice none 0 0] rfl rfl 24 _ A0.what (by kernel_rfl) rfl (by kernel_rfl) ?_
      refine hK _ _ ?_
      clear hK
      have B0 := Box.setRow #[.int .i64 (K : Nat), .int .i64 (m1 : Nat), .int .i64 (m2 : Nat), .int .i64 (m3 : Nat), .int .i64 (m4 : Nat), .slice none 0 0] A0
      have B1 := Box.row_other A1 (Nat.succ_ne_self _) #[.int .i64 (K : Nat), .int .i64 (m1 : Nat), .int .i64 (m2 : Nat), .int .i64 (m3 : Nat), .int .i64 (m4 : Nat), .slice none 0 0]
      refine wpAny_all (rs := [4]) (by kernel_rfl) (by simp) (fun q hq => ?_)
      obtain rfl : q = 4 := by simpa using hq
      clear hq
      refine wpOp_step rfl (fun K' hK => ?_)
      rw [if_pos (by rfl)]
      refine wp_store_row _ _ _ rfl (w.heap.size + 1) #[.int .i64 E1, .int .i64 E2] rfl rfl 62 _ B1.what (by kernel_rfl) rfl (by kernel_rfl) ?_
      refine hK _ _ ?_
      clear hK
      have C1 := Box.setRow #[.int .i64 E1, .int .i64 E2] B1
      have C0 := Box.row_other B0 (Nat.succ_ne_self _).symm #[.int .i64 E1, .int .i64 E2]
      have HB9 := hide (below_setRow (below_setRow (HG.out.below.trans (hV1.mono HG.out.below.size)) (Nat.le_refl _) #[.int .i64 (K : Nat), .int .i64 (m1 : Nat), .int .i64 (m2 : Nat), .int .i64 (m3 : Nat), .int .i64 (m4 : Nat), .slice none 0 0]) (Nat.le_succ _) #[.int .i64 E1, .int .i64 E2])
      have HY9 := hide ((HYK.out W1 hV1) _ (((Spared.refl (fun q => q = w.heap.size ∨ q = w.heap.size + 1) W1).setRow (.inl rfl) #[.int .i64 (K : Nat), .int .i64 (m1 : Nat), .int .i64 (m2 : Nat), .int .i64 (m3 : Nat), .int .i64 (m4 : Nat), .slice none 0 0]).setRow (.inr rfl) #[.int .i64 E1, .int .i64 E2]))
      obtain ⟨g0, g1, g2, g3, g4, g5⟩ := six_of C0
      obtain ⟨l0, l1, _, _⟩ := C1.two
      obtain ⟨V, hVV⟩ : ∃ V, (W1.setRow w.heap.size #[.int .i64 (K : Nat), .int .i64 (m1 : Nat), .int .i64 (m2 : Nat), .int .i64 (m3 : Nat), .int .i64 (m4 : Nat), .slice none 0 0]).setRow (w.heap.size + 1) #[.int .i64 E1, .int .i64 E2] = V := ⟨_, rfl⟩
      rw [hVV] at g0 g1 g2 g3 g4 g5 l0 l1 HB9 HY9 ⊢
      clear hVV A0 A1 B0 B1 C0 C1 hV hV1
      refine wpAny_done (by kernel_rfl) ?_ _
      go_wp2
      refine bodyPost_ret (v := .tuple #[.agg #[.int .i64 (K : Nat), .int .i64 (m1 : Nat), .int .i64 (m2 : Nat), .int .i64 (m3 : Nat), .int .i64 (m4 : Nat), .slice none 0 0], .agg #[.int .i64 E1, .int .i64 E2]]) (by simp [results, Try.f41, go_sem, g0, g1, g2, g3, g4, g5, l0, l1]) rfl ?_
      rw [HQ.out, HE.out, HE1.out, HE2.out]
      exact ⟨_, _, _, rfl, HY9.out, HB9.out⟩
  | true =>
    obtain ⟨⟨zs5, s5⟩, hr5⟩ : ∃ q, rawR x s4 (restR x s4) = q := ⟨_, rfl⟩
    have hq : gathP x = ⟨K, m1, m2, m3, m4, zs5⟩ := HP.out zs5 s5 (by rw [HF.out]; exact hr5)
    have he : (gf x).2 = s5 := by rw [HF.out]; show (rawR x s4 (restR x s4)).2 = s5; rw [hr5]
    obtain ⟨Rs, hRs⟩ : ∃ q, restR x s4 = q := ⟨_, rfl⟩
    rw [hRs] at hr5
    have HRS := hide hRs
    have HR5 := hide hr5
    have HQ := hide hq
    have HE := hide he
    have GV : Gat w y4.drew w1.heap.size w2.heap.size w3.heap.size r cc b1 n d1 x s4 #[.int .i64 (K : Nat), .int .i64 (m1 : Nat), .int .i64 (m2 : Nat), .int .i64 (m3 : Nat), .int .i64 (m4 : Nat), .slice none 0 0] N R true := HG.out.drew
    have hS : y4.drew.cell? ⟨w1.heap.size, 0, none⟩ = some (.pointer (some ⟨r, 0, none⟩)) := (one_of GV.var).1
    have t0 : Hid True := trivial
    clear hq he HP HF hr5 hRs HG
    go_wp2_with fail
    go_region_held3 (fun V : World => V.cell? ⟨w1.heap.size, 0, none⟩ = some (.pointer (some ⟨r, 0, none⟩))) (first | exact hS | exact hS2)
      (first
      | (clear t0
         go_at_call 62
         refine (orest_any GV.rd).mono ?_
         rintro e v1 ⟨he, hb1⟩
         rw [HRS.out] at he
         subst he
         have G1 := GV.below' hb1
         replace hS := (one_of G1.var).1
         clear GV hb1
         have t1 : Hid True := trivial)
      | (clear t1
         go_at_call 61
         refine (orraw_any (k := Rs) G1.rd).mono ?_
         rintro e v2 ⟨b5, m5, d5, rfl, Y5, P5, S5⟩
         rw [HR5.out] at Y5 P5
         have hlo : w.heap.size + 2 ≤ v1.heap.size := G1.res1.lt
         have hF5 : Box v2 w2.heap.size (.cells #[.int .i64 (K : Nat), .int .i64 (m1 : Nat), .int .i64 (m2 : Nat), .int .i64 (m3 : Nat), .int .i64 (m4 : Nat), .slice none 0 0] 24) := Box.spared G1.pk S5 (fun e => Box.apart G1.rd.cur G1.pk (by decide) e.symm)
         have G2 := G1.step P5 hF5 (S5.mono (fun _ _ h => .inl h))
         replace hS := (one_of G2.var).1
         have f5 : v2.cell? ⟨w2.heap.size, 5, none⟩ = some (.slice none 0 0) := (six_of G2.pk).2.2.2.2.2
         have z5 : v2.frozen? ⟨w2.heap.size, 5, none⟩ = false := (six_frozen G2.pk).2.2.2.2.2
         have hS2 : (v2.setCell ⟨w2.heap.size, 5, none⟩ (.slice b5 m5 d5)).cell? ⟨w1.heap.size, 0, none⟩ = some (.pointer (some ⟨r, 0, none⟩)) := (one_of (Box.aside G2.var 5 (.slice b5 m5 d5) (Box.apart G2.var G2.pk (by decide)))).1
         clear G1 S5 P5 hF5
         have t2 : Hid True := trivial))
    all_goals
      have S6 := (Spared.refl (fun q => q = w2.heap.size) v2).setCell (k := w2.heap.size) rfl 5 (.slice b5 m5 d5)
      have G6 : Gat w (v2.setCell ⟨w2.heap.size, 5, none⟩ (.slice b5 m5 d5)) w1.heap.size w2.heap.size w3.heap.size r cc b1 n d1 x s5 #[.int .i64 (K : Nat), .int .i64 (m1 : Nat), .int .i64 (m2 : Nat), .int .i64 (m3 : Nat), .int .i64 (m4 : Nat), .slice b5 m5 d5] N R true := G2.step (G2.rd.aside G2.pk (by decide) (by decide) (noOct6 _ _ _ _ _ _ _ _) S6) (G2.pk.put1 5 (.slice b5 m5 d5)) (S6.mono (fun _ _ h => .inr h))
      have Y6 : Byt (w.heap.size + 2) (v2.setCell ⟨w2.heap.size, 5, none⟩ (.slice b5 m5 d5)) (.slice b5 m5 d5) zs5 := (Y5.mono hlo).keep S6 (fun hz g o e h => Y5.off G2.pk (noOct6 _ _ _ _ _ _ _ _) hz g o e h)
      obtain ⟨y5, hy5⟩ : ∃ V, v2.setCell ⟨w2.heap.size, 5, none⟩ (.slice b5 m5 d5) = V := ⟨_, rfl⟩
      rw [hy5] at G6 Y6 ⊢
      have HYK : Hid (∀ W1, Below y5.heap.size y5 W1 → ∀ V, Spared (fun q => q = w.heap.size ∨ q = w.heap.size + 1) W1 V → Byt w.heap.size V (.slice b5 m5 d5) zs5) := fun W1 hW V hV => ((Y6.below hW).keep hV (fun hz g o e h => by
        obtain ⟨g', o', e', hg, _⟩ := Y6.row (by rw [Y6.len.1]; exact List.length_pos_iff.2 hz)
        rw [e] at e'
        simp only [Option.some.injEq, Addr.mk.injEq] at e'
        omega)).mono (by omega)
      have HG := hide G6
      clear G6 Y6 S6 G2 Y5 f5 z5 hS hS2 hlo HR5 HRS t2 hy5
      obtain ⟨E1, hE1⟩ : ∃ q, (endR x s5).1 = q := ⟨_, rfl⟩
      obtain ⟨E2, hE2⟩ : ∃ q, (endR x s5).2 = q := ⟨_, rfl⟩
      have HE1 := hide hE1
      have HE2 := hide hE2
      clear hE1 hE2
      go_wp2_with fail
      refine wp_yields 3 [.is (.agg #[.int .i64 (K : Nat), .int .i64 (m1 : Nat), .int .i64 (m2 : Nat), .int .i64 (m3 : Nat), .int .i64 (m4 : Nat), .slice b5 m5 d5]), .is (.pointer (some ⟨r, 0, none⟩)), .is (.agg #[.int .i64 E1, .int .i64 E2])] (by kernel_rfl) (by kernel_rfl) (lt_cons ?_ (lt_cons ?_ (lt_cons ?_ (lt_nil)))) ?_
      case refine_1 =>
        refine OpDoes.mk rfl ?_
        intro vs V hV hd K' hK
        have d1 : vs 1 = .pointer (some ⟨r, 0, none⟩) := hd 1 (by decide) (by kernel_rfl)
        simp only [laidIn, lz1, lz2, lz3, lz4, lz5, lz6, if_true, Act.put, lz7, lz8, lz9] at hK ⊢
        simp only [d1] at hK ⊢
        have hen := oend_any ((HG.out.rd.below ((Below.refl _ y5).drew)).below hV)
        rw [HE1.out, HE2.out] at hen
        go_simp
        go_at_call 63
        refine hen.mono ?_
        rintro e V' ⟨rfl, hb⟩
        exact hK.out _ _ hb rfl (not_fresh rfl)
      case refine_2 =>
        refine OpDoes.mk rfl ?_
        intro vs V hV hd K' hK
        simp only [laidIn, lz1, lz2, lz3, lz4, lz5, lz6, if_true, Act.put, lz7, lz8, lz9] at hK ⊢
        obtain ⟨k0, _⟩ := one_of (HG.out.var.drew.below hV)
        go_simp
        exact hK.out _ _ (Below.refl _ _) rfl (not_fresh rfl)
      case refine_3 =>
        refine OpDoes.mk rfl ?_
        intro vs V hV hd K' hK
        simp only [laidIn, lz1, lz2, lz4, lz5, lz6, if_true, Act.put, lz7, lz8, lz9] at hK ⊢
        obtain ⟨k0, k1, k2, k3, k4, k5⟩ := six_of (HG.out.pk.drew.below hV)
        go_simp
        exact hK.out _ _ (Below.refl _ _) rfl (not_fresh rfl)
      case refine_4 =>
        intro vs W1 hV hR1 hne fuel
        have d0 : vs 0 = .agg #[.int .i64 (K : Nat), .int .i64 (m1 : Nat), .int .i64 (m2 : Nat), .int .i64 (m3 : Nat), .int .i64 (m4 : Nat), .slice b5 m5 d5] := hR1 0 (by decide)
        have d1 : vs 1 = .pointer (some ⟨r, 0, none⟩) := hR1 1 (by decide)
        have d2 : vs 2 = .agg #[.int .i64 E1, .int .i64 E2] := hR1 2 (by decide)
        simp only [laidIn, lz4, lz5, lz6, if_true, Act.put, lz7, lz8, lz9]
        simp only [d0, d1, d2]
        clear hR1 hne d0 d1 d2
        clear vs
        have hV1 : Below y5.heap.size y5 W1 := ((Below.refl _ y5).drew).trans hV
        have A0 := HG.out.res0.below hV1
        have A1 := HG.out.res1.below hV1
        show wpAny _ _ _ _ (fuel + 2) _ _ _
        refine wpAny_all (rs := [3]) (by kernel_rfl) (by simp) (fun q hq => ?_)
        obtain rfl : q = 3 := by simpa using hq
        clear hq
        refine wpOp_step rfl (fun K' hK => ?_)
        rw [if_pos (by rfl)]
        refine wp_store_row _ _ _ rfl w.heap.size #[.int .i64 (K : Nat), .int .i64 (m1 : Nat), .int .i64 (m2 : Nat), .int .i64 (m3 : Nat), .int .i64 (m4 : Nat), .slice b5 m5 d5] rfl rfl 24 _ A0.what (by kernel_rfl) rfl (by kernel_rfl) ?_
        refine hK _ _ ?_
        clear hK
        have B0 := Box.setRow #[.int .i64 (K : Nat), .int .i64 (m1 : Nat), .int .i64 (m2 : Nat), .int .i64 (m3 : Nat), .int .i64 (m4 : Nat), .slice b5 m5 d5] A0
        have B1 := Box.row_other A1 (Nat.succ_ne_self _) #[.int .i64 (K : Nat), .int .i64 (m1 : Nat), .int .i64 (m2 : Nat), .int .i64 (m3 : Nat), .int .i64 (m4 : Nat), .slice b5 m5 d5]
        refine wpAny_all (rs := [4]) (by kernel_rfl) (by simp) (fun q hq => ?_)
        obtain rfl : q = 4 := by simpa using hq
        clear hq
        refine wpOp_step rfl (fun K' hK => ?_)
        rw [if_pos (by rfl)]
        refine wp_store_row _ _ _ rfl (w.heap.size + 1) #[.int .i64 E1, .int .i64 E2] rfl rfl 62 _ B1.what (by kernel_rfl) rfl (by kernel_rfl) ?_
        refine hK _ _ ?_
        clear hK
        have C1 := Box.setRow #[.int .i64 E1, .int .i64 E2] B1
        have C0 := Box.row_other B0 (Nat.succ_ne_self _).symm #[.int .i64 E1, .int .i64 E2]
        have HB9 := hide (below_setRow (below_setRow (HG.out.below.trans (hV1.mono HG.out.below.size)) (Nat.le_refl _) #[.int .i64 (K : Nat), .int .i64 (m1 : Nat), .int .i64 (m2 : Nat), .int .i64 (m3 : Nat), .int .i64 (m4 : Nat), .slice b5 m5 d5]) (Nat.le_succ _) #[.int .i64 E1, .int .i64 E2])
        have HY9 := hide ((HYK.out W1 hV1) _ (((Spared.refl (fun q => q = w.heap.size ∨ q = w.heap.size + 1) W1).setRow (.inl rfl) #[.int .i64 (K : Nat), .int .i64 (m1 : Nat), .int .i64 (m2 : Nat), .int .i64 (m3 : Nat), .int .i64 (m4 : Nat), .slice b5 m5 d5]).setRow (.inr rfl) #[.int .i64 E1, .int .i64 E2]))
        obtain ⟨g0, g1, g2, g3, g4, g5⟩ := six_of C0
        obtain ⟨l0, l1, _, _⟩ := C1.two
        obtain ⟨V, hVV⟩ : ∃ V, (W1.setRow w.heap.size #[.int .i64 (K : Nat), .int .i64 (m1 : Nat), .int .i64 (m2 : Nat), .int .i64 (m3 : Nat), .int .i64 (m4 : Nat), .slice b5 m5 d5]).setRow (w.heap.size + 1) #[.int .i64 E1, .int .i64 E2] = V := ⟨_, rfl⟩
        rw [hVV] at g0 g1 g2 g3 g4 g5 l0 l1 HB9 HY9 ⊢
        clear hVV A0 A1 B0 B1 C0 C1 hV hV1
        refine wpAny_done (by kernel_rfl) ?_ _
        go_wp2
        refine bodyPost_ret (v := .tuple #[.agg #[.int .i64 (K : Nat), .int .i64 (m1 : Nat), .int .i64 (m2 : Nat), .int .i64 (m3 : Nat), .int .i64 (m4 : Nat), .slice b5 m5 d5], .agg #[.int .i64 E1, .int .i64 E2]]) (by simp [results, Try.f41, go_sem, g0, g1, g2, g3, g4, g5, l0, l1]) rfl ?_
        rw [HQ.out, HE.out, HE1.out, HE2.out]
        exact ⟨_, _, _, rfl, HY9.out, HB9.out⟩
end Go.Proofs.Ytedjicimgalneaa
