/-
  The walks of the program's Div, Gcd, Divides: quotients, greatest common divisors.
-/
import Derived.Test.YtfdlhjnnbhfapaaQLong
import Derived.Test.YtfdlhjnnbhfapaaQWords
import Derived.Deep.RegionWith
namespace Go.Proofs.Ytfdlhjnnbhfapaa
open Go.RowKit

theorem qpart_all {lo : Nat} {a : Option Addr} {la ca : Nat} {xs : List Int} {w : World} (ha : Seg lo w (.slice a la ca) xs) (hla : xs.length ≤ 1000) (x : Int) (hx : 0 ≤ x ∧ x < 18446744073709551616) :
    Calls Try.prog 14 #[.slice a la ca, .int .u64 x] w fun e w' => ∃ (a1 : Option Addr) (c1 : Nat) (qs : List Int), e = .returned (.tuple #[.slice a1 qs.length c1, .int .u64 (remZ (val xs) x), .int .i64 (errZ x)]) ∧ Seg w.heap.size w' (.slice a1 qs.length c1) qs ∧ Norm qs ∧ val qs = val xs / x ∧ Below w.heap.size w w' := by
  by_cases h : x = 0
  · subst h
    refine (partw_zero _ w).mono ?_
    rintro e w' ⟨rfl, hb⟩
    exact ⟨none, 0, [], rfl, Seg.nil _ _, norm_nil, by rw [Int.ediv_zero]; rfl, hb⟩
  · have hp : 0 < x := by omega
    refine (partw_yes ha (by omega) x ⟨hp, hx.2⟩).mono ?_
    rintro e w' ⟨a1, c1, qs, rfl, hq, nq, vq, _, hb⟩
    exact ⟨a1, c1, qs, by rw [errZ_pos hp, remZ_pos _ hp], hq, nq, vq, hb⟩

set_option maxRecDepth 100000 in
set_option maxHeartbeats 400000 in
theorem qdiv_all {lo lo' : Nat} {a b : Option Addr} {la lb ca cb : Nat} {xs ys : List Int} {w : World} (ha : Seg lo w (.slice a la ca) xs) (hb : Seg lo' w (.slice b lb cb) ys) (hla : xs.length ≤ 1000) (hlb : ys.length ≤ 1000) :
    Calls Try.prog 12 #[.slice a la ca, .slice b lb cb] w fun e w' => ∃ (a1 a2 : Option Addr) (c1 c2 : Nat) (qs rs : List Int), e = .returned (.tuple #[.slice a1 qs.length c1, .slice a2 rs.length c2, .int .i64 (errZ (val ys))]) ∧ Seg w.heap.size w' (.slice a1 qs.length c1) qs ∧ Seg w.heap.size w' (.slice a2 rs.length c2) rs ∧ Norm qs ∧ Norm rs ∧ val qs = val xs / val ys ∧ val rs = remZ (val xs) (val ys) ∧ Apart a1 a2 qs rs ∧ Below w.heap.size w w' := by
  have hy0 := val_nonneg hb.words
  have hx0 := val_nonneg ha.words
  by_cases hsm : val ys < 18446744073709551616
  · have hone := one_yes hb (by omega) hsm
    have hp := fun (W : World) (hW : Below w.heap.size w W) => qpart_all (ha.below hW) hla (val ys) ⟨hy0, hsm⟩
    have hrw := remZ_word (a := val xs) (x := val ys) ⟨hy0, hsm⟩
    have hof := fun W => of_any (remZ (val xs) (val ys)) hrw W
    generalize remZ (val xs) (val ys) = r at *
    go_enter Try.func12, Try.ntmps12
    go_wp2_with fail
    refine hone.mono ?_
    rintro e w1 ⟨rfl, hb1⟩
    go_wp2_with fail
    refine (hp w1 hb1).mono ?_
    rintro e w2 ⟨a2, c2, qs, rfl, hq2, hn2, hv2, hb2⟩
    have HV2 := hide hv2
    clear hv2 hone hp
    go_wp2_with fail
    refine (hof w2).mono ?_
    rintro e w3 ⟨a3, c3, rs, rfl, hs3, hn3, hv3, hl3, hb3⟩
    have HV3 := hide hv3
    have hb12 := hb1.trans (hb2.mono hb1.size)
    have hb13 := hb12.trans (hb3.mono hb12.size)
    have hap : Apart a2 a3 qs rs := apart_of (fun h b o e => hq2.block h b o e) hs3 (Nat.le_refl _)
    have HAP := hide hap
    clear hv3 hap
    go_wp2
    go_ret3
    exact ⟨_, _, _, _, qs, rs, rfl, (hq2.mono hb1.size).below hb3, hs3.mono hb12.size, hn2, hn3, HV2.out, HV3.out, HAP.out, hb13⟩
  · have hbig : 18446744073709551616 ≤ val ys := by omega
    have hone := one_no hb (by omega) hbig
    have hyp : 0 < val ys := by omega
    have HE : Hid (errZ (val ys) = 0) := errZ_pos hyp
    have HRM : Hid (remZ (val xs) (val ys) = val xs % val ys) := remZ_pos _ hyp
    have hcm := fun (W : World) (hW : Below w.heap.size w W) => cmp_any (ha.below hW) (hb.below hW) (by omega) (by omega)
    by_cases hlt : val xs < val ys
    · rw [cmpI_lt hlt] at hcm
      have htr := fun (W : World) (hW : Below w.heap.size w W) => trim_any (ha.below hW) (by omega)
      have HQ : Hid (val xs / val ys = 0 ∧ val xs % val ys = val xs) := ⟨Int.ediv_eq_zero_of_lt hx0 hlt, Int.emod_eq_of_lt hx0 hlt⟩
      clear hlt hbig hsm hyp hy0 hx0
      go_enter Try.func12, Try.ntmps12
      go_wp2_with fail
      refine hone.mono ?_
      rintro e w1 ⟨rfl, hb1⟩
      go_wp2_with fail
      refine (hcm w1 hb1).mono ?_
      rintro e w2 ⟨rfl, hb2⟩
      have hb12 := hb1.trans (hb2.mono hb1.size)
      have ht := htr w2 hb12
      clear hone hcm htr
      go_wp2_with fail
      refine ht.mono ?_
      rintro e w3 ⟨a3, c3, rs, rfl, hs3, hn3, hv3, hl3, hb3⟩
      have hb13 := hb12.trans (hb3.mono hb12.size)
      have HV3 := hide hv3
      clear hv3 ht
      go_wp2
      go_ret3
      exact ⟨none, _, 0, _, [], rs, by rw [HE.out]; rfl, Seg.nil _ _, hs3.mono hb12.size, norm_nil, hn3, by rw [HQ.out.1]; rfl, by rw [HV3.out, HRM.out, HQ.out.2], apart_nil_left _ _ _, hb13⟩
    · have hge : val ys ≤ val xs := by omega
      have hcc : ¬ cmpI (val xs) (val ys) < 0 := by
        unfold cmpI
        split
        · omega
        · split <;> omega
      have hlg := fun (W : World) (hW : Below w.heap.size w W) => long_any (ha.below hW) (hb.below hW) (by omega) (by omega) hbig hge
      clear hlt hbig hsm hyp hy0 hx0 hge
      generalize cmpI (val xs) (val ys) = cc at *
      go_enter Try.func12, Try.ntmps12
      go_wp2_with fail
      refine hone.mono ?_
      rintro e w1 ⟨rfl, hb1⟩
      go_wp2_with fail
      refine (hcm w1 hb1).mono ?_
      rintro e w2 ⟨rfl, hb2⟩
      have hb12 := hb1.trans (hb2.mono hb1.size)
      have ht := hlg w2 hb12
      clear hone hcm hlg
      go_wp2_with fail
      refine ht.mono ?_
      rintro e w3 ⟨a3, a4, c3, c4, qs, rs, rfl, hq3, hr3, nq, nr, vq, vr, hap, hb3⟩
      have hb13 := hb12.trans (hb3.mono hb12.size)
      have HVQ := hide vq
      have HVR := hide vr
      have HAP := hide hap
      clear vq vr ht hap
      go_wp2
      go_ret3
      exact ⟨_, _, _, _, qs, rs, by rw [HE.out]; rfl, hq3.mono hb12.size, hr3.mono hb12.size, nq, nr, HVQ.out, HVR.out.trans HRM.out.symm, fun _ h b1 o1 b2 o2 e1 e2 => HAP.out b1 o1 b2 o2 e1 e2 h, hb13⟩

set_option maxRecDepth 100000 in
set_option maxHeartbeats 400000 in
theorem qdivides_any {lo lo' : Nat} {a b : Option Addr} {la lb ca cb : Nat} {xs ys : List Int} {w : World} (ha : Seg lo w (.slice a la ca) xs) (hb : Seg lo' w (.slice b lb cb) ys) (hla : xs.length ≤ 1000) (hlb : ys.length ≤ 1000) :
    Calls Try.prog 17 #[.slice a la ca, .slice b lb cb] w fun e w' => e = .returned (.bool (dvdB (val xs) (val ys))) ∧ Below w.heap.size w w' := by
  have hd := qdiv_all hb ha hlb hla
  have hx0 := val_nonneg ha.words
  by_cases h : val xs = 0
  · have hd1 : dvdB (val xs) (val ys) = decide (blen (val ys) = 0) := by
      unfold dvdB
      rw [if_pos h]
      refine decide_eq_decide.2 ⟨fun e => by rw [e]; rfl, fun e => ?_⟩
      refine Classical.byContradiction fun hc => ?_
      have := blen_pos (x := val ys) (by have := val_nonneg hb.words; omega)
      omega
    rw [hd1]
    rw [h, errZ_zero] at hd
    have hln := fun (W : World) (hW : Below w.heap.size w W) => len_any (hb.below hW) (by omega)
    have hbe : ((blen (val ys) : Int) == 0) = decide (blen (val ys) = 0) := by
      by_cases e : blen (val ys) = 0
      · rw [e]; rfl
      · rw [decide_eq_false e]; exact beq_eq_false_iff_ne.2 (by omega)
    generalize blen (val ys) = L at *
    clear h hd1
    go_enter Try.func17, Try.ntmps17
    go_wp2_with fail
    refine hd.mono ?_
    rintro e w1 ⟨a1, a2, c1, c2, qs, rs, rfl, hq, hr, nq, nr, vq, vr, hap, hb1⟩
    clear vq vr
    go_wp2_with fail
    refine (hln w1 hb1).mono ?_
    rintro e w2 ⟨rfl, hb2⟩
    go_wp2
    go_ret
    exact ⟨rfl, hb1.trans (hb2.mono hb1.size)⟩
  · have hp : 0 < val xs := by omega
    have hd1 : dvdB (val xs) (val ys) = decide (val ys % val xs = 0) := by unfold dvdB; rw [if_neg h]
    rw [hd1]
    rw [errZ_pos hp, remZ_pos _ hp] at hd
    clear h hd1
    go_enter Try.func17, Try.ntmps17
    go_wp2_with fail
    refine hd.mono ?_
    rintro e w1 ⟨a1, a2, c1, c2, qs, rs, rfl, hq, hr, nq, nr, vq, vr, hap, hb1⟩
    have hz := len_zero hr.words nr
    rw [vr] at hz
    clear vq vr
    go_wp2
    go_ret
    exact ⟨rfl, hb1⟩

set_option maxRecDepth 100000 in
set_option maxHeartbeats 400000 in
theorem smallGcd_any {lo : Nat} {a : Option Addr} {la ca : Nat} {xs : List Int} {w : World} (ha : Seg lo w (.slice a la ca) xs) (hla : xs.length ≤ 1000) (x : Int) (hx : 0 ≤ x ∧ x < 18446744073709551616) :
    Calls Try.prog 43 #[.slice a la ca, .int .u64 x] w fun e w' => ∃ (a1 : Option Addr) (c1 : Nat) (gs : List Int), e = .returned (.slice a1 gs.length c1) ∧ Seg w.heap.size w' (.slice a1 gs.length c1) gs ∧ Norm gs ∧ val gs = gcdI (val xs) x ∧ Below w.heap.size w w' := by
  have hx0 := val_nonneg ha.words
  by_cases h : x = 0
  · subst h
    have htr := fun (W : World) (hW : Below w.heap.size w W) => trim_any (ha.below hW) (by omega)
    have HG : Hid (gcdI (val xs) 0 = val xs) := gcdI_zero _ hx0
    go_enter Try.func43, Try.ntmps43
    go_wp2_with fail
    refine (partw_zero _ w).mono ?_
    rintro e w1 ⟨rfl, hb1⟩
    have ht := htr w1 hb1
    clear htr
    go_wp2_with fail
    refine ht.mono ?_
    rintro e w2 ⟨a2, c2, gs, rfl, hs2, hn2, hv2, hl2, hb2⟩
    have HV := hide hv2
    clear hv2 ht
    go_wp2
    go_ret
    exact ⟨_, _, gs, rfl, hs2.mono hb1.size, hn2, HV.out.trans HG.out.symm, hb1.trans (hb2.mono hb1.size)⟩
  · have hp : 0 < x := by omega
    have hpt := partw_yes ha (by omega) x ⟨hp, hx.2⟩
    have hr0 := Int.emod_nonneg (val xs) (show x ≠ 0 by omega)
    have hr1 := Int.emod_lt_of_pos (val xs) hp
    have HG := hide (gcdI_step hx0 hp)
    generalize val xs % x = r at *
    clear h
    go_enter Try.func43, Try.ntmps43
    go_wp2_with fail
    refine hpt.mono ?_
    rintro e w1 ⟨a1, c1, qs, rfl, hq, nq, vq, lq, hb1⟩
    clear hpt vq
    go_wp2
    go_loopw [1, 6] (fun xv yv wr => ∃ (u v : Int), xv = .int .u64 u ∧ yv = .int .u64 v ∧ (0 < u ∧ u < 18446744073709551616) ∧ (0 ≤ v ∧ v < u) ∧ Hid (gcdI u v = gcdI (val xs) x) ∧ Below w.heap.size w wr) (fun _ yv _ => (intOf yv).toNat)
    case atStart => exact ⟨x, r, rfl, rfl, ⟨hp, hx.2⟩, ⟨hr0, hr1⟩, HG, hb1⟩
    case round =>
      obtain ⟨u, v, rfl, rfl, hu, hv, HGv, hbr⟩ := hrel
      clear HG hr0 hr1 hp hx hq nq lq hb1
      by_cases hz : v = 0
      · subst hz
        have HF : Hid (u = gcdI (val xs) x) := by rw [Hid, ← HGv.out, gcdI_zero _ (by omega)]
        have hof := fun W => of_any u ⟨by omega, hu.2⟩ W
        clear hu hv
        go_wp2_with fail
        refine (hof _).mono ?_
        rintro e w2 ⟨a2, c2, gs, rfl, hs2, hn2, hv2, hl2, hb2⟩
        have HV := hide hv2
        clear hv2
        go_wp2
        go_ret
        exact ⟨_, _, gs, rfl, hs2.mono hbr.size, hn2, HV.out.trans HF.out, hbr.trans (hb2.mono hbr.size)⟩
      · have hvp : 0 < v := by omega
        have hne : (v == 0) = false := beq_eq_false_iff_ne.2 hz
        have HG2 : Hid (gcdI v (u % v) = gcdI (val xs) x) := by rw [Hid, gcdI_step (by omega) hvp]; exact HGv.out
        have HB : Hid ((0 ≤ u % v ∧ u % v < v) ∧ (0 < v ∧ v < 18446744073709551616)) := ⟨⟨Int.emod_nonneg _ (by omega), Int.emod_lt_of_pos _ hvp⟩, hvp, by omega⟩
        go_wp2
        go_region
        have hlt : (u % v).toNat < v.toNat := by have := HB.out; omega
        go_wp2
        exact ⟨⟨v, u % v, rfl, rfl, HB.out.2, HB.out.1, HG2, hbr.drew⟩, hlt⟩

set_option maxRecDepth 100000 in
set_option maxHeartbeats 400000 in
theorem qgcd_any {lo lo' : Nat} {a b : Option Addr} {la lb ca cb : Nat} {xs ys : List Int} {w : World} (ha : Seg lo w (.slice a la ca) xs) (hb : Seg lo' w (.slice b lb cb) ys) (hla : xs.length ≤ 1000) (hlb : ys.length ≤ 1000) :
    Calls Try.prog 21 #[.slice a la ca, .slice b lb cb] w fun e w' => ∃ (a1 : Option Addr) (c1 : Nat) (gs : List Int), e = .returned (.slice a1 gs.length c1) ∧ Seg w.heap.size w' (.slice a1 gs.length c1) gs ∧ Norm gs ∧ val gs = gcdI (val xs) (val ys) ∧ Below w.heap.size w w' := by
  obtain ⟨rfl, _⟩ := ha.len
  obtain ⟨rfl, _⟩ := hb.len
  go_enter Try.func21, Try.ntmps21
  go_wp2
  go_loopw [0, 1] (fun av bv wr => ∃ (l3 l4 : Nat) (a3 a4 : Option Addr) (c3 c4 : Nat) (us vs : List Int), av = .slice a3 us.length c3 ∧ bv = .slice a4 vs.length c4 ∧ Seg l3 wr (.slice a3 us.length c3) us ∧ Seg l4 wr (.slice a4 vs.length c4) vs ∧ Hid (gcdI (val us) (val vs) = gcdI (val xs) (val ys)) ∧ us.length ≤ 1000 ∧ vs.length ≤ 1000 ∧ Below w.heap.size w wr) (fun _ bv wr => (val (cellsOf wr bv)).toNat)
  case atStart => exact ⟨lo, lo', a, b, ca, cb, xs, ys, rfl, rfl, ha, hb, rfl, hla, hlb, Below.refl _ _⟩
  case round =>
    obtain ⟨l3, l4, a3, a4, c3, c4, us, vs, rfl, rfl, hu, hv, HG, lu, lv, hbr⟩ := hrel
    have hy0 := val_nonneg hv.words
    by_cases hsm : val vs < 18446744073709551616
    · have hone := one_yes hv (by omega) hsm
      have hp := fun (W : World) (hW : Below wr.heap.size wr W) => smallGcd_any (hu.below hW) lu (val vs) ⟨hy0, hsm⟩
      go_wp2_with fail
      refine hone.mono ?_
      rintro e w1 ⟨rfl, hb1⟩
      go_wp2_with fail
      refine (hp w1 hb1).mono ?_
      rintro e w2 ⟨a2, c2, gs, rfl, hs2, hn2, hv2, hb2⟩
      have HV := hide hv2
      clear hv2 hone hp
      go_wp2
      go_ret
      have hb3 := hbr.trans (hb1.mono hbr.size)
      exact ⟨_, _, gs, rfl, hs2.mono hb3.size, hn2, HV.out.trans HG.out, hb3.trans (hb2.mono hb3.size)⟩
    · have hbig : 18446744073709551616 ≤ val vs := by omega
      have hone := one_no hv (by omega) hbig
      have hp : 0 < val vs := by omega
      have hd := fun (W : World) (hW : Below wr.heap.size wr W) => qdiv_all (hu.below hW) (hv.below hW) lu lv
      rw [remZ_pos _ hp] at hd
      have HM0 : Hid (0 ≤ val us % val vs ∧ val us % val vs < val vs) := ⟨Int.emod_nonneg _ (by omega), Int.emod_lt_of_pos _ hp⟩
      have HS := hide (gcdI_step (val_nonneg hu.words) hp)
      have HCV := hide hv.cells
      have hwv := hv.words
      clear hsm hbig hp hy0
      go_wp2_with fail
      refine hone.mono ?_
      rintro e w1 ⟨rfl, hb1⟩
      have hd1 := hd w1 hb1
      clear hd hone
      go_wp2_with fail
      refine hd1.mono ?_
      rintro e w3 ⟨a5, a6, c5, c6, qs, rs, rfl, hq, hr, nq, nr, vq, vr, hap, hb3⟩
      have hrl : rs.length ≤ vs.length := len_below hr.words nr (by have := val_lt hwv; have := HM0.out; rw [vr]; omega)
      have HCR := hide hr.cells
      have HG' : Hid (gcdI (val vs) (val rs) = gcdI (val xs) (val ys)) := by rw [Hid, vr, HS.out, HG.out]
      have HM : Hid (0 ≤ val rs ∧ val rs < val vs) := by rw [Hid, vr]; exact HM0.out
      have hb13 := hb1.trans (hb3.mono hb1.size)
      have hv3 := hv.below hb13
      have hb4 := hbr.trans (hb13.mono hbr.size)
      clear hd1 vq vr hq hap
      go_wp2
      refine ⟨⟨_, _, a4, a6, c4, c6, vs, rs, rfl, rfl, hv3, hr, HG', lv, by omega, hb4⟩, ?_⟩
      rw [HCR.out, HCV.out]
      have := HM.out
      omega
#print axioms qgcd_any

end Go.Proofs.Ytfdlhjnnbhfapaa
