/-
  Joined: SigB SigC SigD SignedC RatK RatA RatY DigG DPh RatP RatB RatE KDoc KDoc2 RatF RatG RatH RatC RatD RatO RatI RatJ RatL RatM RPower Lits RatN RatNn SLaw SForms RatW RatX RatV KDoc3 DigX DigR DigQ DigV RatU.
-/
import Derived.Test.YtfcpaejeppedoaaDoorJRMulB
import Derived.Test.YtfcpaejeppedoaaDoorJMul
import Derived.Test.YtfcpaejeppedoaaDoorJDown
import Derived.Test.YtfcpaejeppedoaaDoorSub
import Derived.Laws.EntriesVeiled
import Derived.Test.YtfcpaejeppedoaaDoorJLenOf
import Derived.Test.YtfcpaejeppedoaaDoorJQLong
import Derived.Test.YtfcpaejeppedoaaDoorJRDiv
import Derived.Test.YtfcpaejeppedoaaDoorJRefD
import Derived.Test.YtfcpaejeppedoaaDoorJRefA
import Derived.Deep.RegionHeld3
import Derived.Defers
import Derived.Test.YtfcpaejeppedoaaDoorKit
import Derived.Test.YtfcpaejeppedoaaDoorJSmall
namespace Go.Proofs.YtfcpaejeppedoaaDoor
open Go.RowKit
end Go.Proofs.YtfcpaejeppedoaaDoor
namespace Go.Proofs.YtfcpaejeppedoaaDoor
open Go.RowKit
end Go.Proofs.YtfcpaejeppedoaaDoor
namespace Go.Proofs.YtfcpaejeppedoaaDoor
open Go.RowKit
theorem blen_ne {v : Int} (h : 0 < v) : ((blen v : Int) == 0) = false := by
  have := blen_pos h
  exact beq_eq_false_iff_ne.2 (by omega)
end Go.Proofs.YtfcpaejeppedoaaDoor
namespace Go.Proofs.YtfcpaejeppedoaaDoor
open Go.RowKit
end Go.Proofs.YtfcpaejeppedoaaDoor
namespace Go.Proofs.YtfcpaejeppedoaaDoor
open Go.RowKit
structure Fr (lo : Nat) (W : World) (a : Option Addr) (ca : Nat) (xs : List Int) (c : Option Addr) (cc : Nat) (ds : List Int) : Prop where
  up : Seg lo W (.slice a xs.length ca) xs
  down : Seg lo W (.slice c ds.length cc) ds
theorem Fr.below {lo : Nat} {W W' : World} {a c : Option Addr} {ca cc : Nat} {xs ds : List Int} (h : Fr lo W a ca xs c cc ds) (hb : Below W.heap.size W W') : Fr lo W' a ca xs c cc ds := ⟨h.up.below hb, h.down.below hb⟩
theorem Fr.mono {lo lo' : Nat} {W : World} {a c : Option Addr} {ca cc : Nat} {xs ds : List Int} (h : Fr lo W a ca xs c cc ds) (hl : lo' ≤ lo) : Fr lo' W a ca xs c cc ds := ⟨h.up.mono hl, h.down.mono hl⟩
theorem Fr.drew {lo : Nat} {W : World} {a c : Option Addr} {ca cc : Nat} {xs ds : List Int} (h : Fr lo W a ca xs c cc ds) : Fr lo W.drew a ca xs c cc ds := ⟨h.up.drew, h.down.drew⟩
structure Is (b : Bool) (xs ds : List Int) (q : Rat) (n : Nat) : Prop where
  low : LowL b xs ds
  rat : ratL b xs ds = q
  lu : xs.length ≤ n
  ld : ds.length ≤ n
theorem Is.mono {b : Bool} {xs ds : List Int} {q : Rat} {n m : Nat} (h : Is b xs ds q n) (hm : n ≤ m) : Is b xs ds q m := ⟨h.low, h.rat, Nat.le_trans h.lu hm, Nat.le_trans h.ld hm⟩
theorem Is.to {b : Bool} {xs ds : List Int} {q r : Rat} {n : Nat} (h : Is b xs ds q n) (e : q = r) : Is b xs ds r n := e ▸ h
theorem gcdI_posR {a b : Int} (hb : 0 < b) : 0 < gcdI a b := by
  unfold gcdI
  have : 0 < Nat.gcd a.toNat b.toNat := Nat.gcd_pos_of_pos_right _ (by omega)
  omega
theorem formOf_norm {zs : List Int} : formOf zs = 0 ↔ Norm zs := by
  unfold formOf Norm
  split
  · rename_i h; simp [h]
  · rename_i h; simp [h]
theorem formI_canon {b : Bool} {zs : List Int} : formI b zs = 0 ↔ Canon b zs := by
  unfold formI Canon
  by_cases hn : Norm zs
  · rw [formOf_norm.2 hn]
    cases b
    · simp [hn]
    · by_cases hz : zs = []
      · subst hz; simp
      · simp [hn, hz]
  · have : formOf zs ≠ 0 := fun h => hn (formOf_norm.1 h)
    simp [this, hn]
def formR (b : Bool) (xs ds : List Int) : Int := if formI b xs = 0 ∧ formOf ds = 0 ∧ ds ≠ [] ∧ gcdI (val xs) (val ds) = 1 then 0 else 6
theorem formR_low {b : Bool} {xs ds : List Int} (hx : Words xs) (hd : Words ds) : formR b xs ds = 0 ↔ LowL b xs ds := by
  unfold formR LowL Low
  rw [sgn_gcd]
  have hgc := gcdI_gcd (val_nonneg hx) (val_nonneg hd)
  constructor
  · intro h
    split at h
    · rename_i g
      have g2 := formOf_norm.1 g.2.1
      exact ⟨formI_canon.1 g.1, g2, norm_pos hd g2 g.2.2.1, by have := g.2.2.2; omega⟩
    · exact absurd h (by decide)
  · rintro ⟨h1, h2, h3, h4⟩
    rw [if_pos]
    refine ⟨formI_canon.2 h1, formOf_norm.2 h2, ?_, by omega⟩
    rintro rfl
    rw [val_nil] at h3
    omega
set_option maxRecDepth 100000 in
set_option maxHeartbeats 1000000 in
theorem share_any {lo lo' : Nat} {a b : Option Addr} {la lb ca cb : Nat} {xs ys : List Int} {w : World} (ha : Seg lo w (.slice a la ca) xs) (hb : Seg lo' w (.slice b lb cb) ys) (hla : xs.length ≤ 1000) (hlb : ys.length ≤ 1000) :
    Calls Tryd.prog 63 #[.slice a la ca, .slice b lb cb] w fun e w' => ∃ (a1 : Option Addr) (c1 : Nat) (qs : List Int), e = .returned (.slice a1 qs.length c1) ∧ Seg w.heap.size w' (.slice a1 qs.length c1) qs ∧ Norm qs ∧ Hid (val qs = val xs / val ys) ∧ qs.length ≤ xs.length ∧ Below w.heap.size w w' := by
  have hd := qdiv_all ha hb hla hlb
  have hx0 := val_nonneg ha.words
  have hlt := val_lt ha.words
  generalize errZ (val ys) = er at *
  go_enter Tryd.func63, Tryd.ntmps63
  go_wp2_with fail
  refine hd.mono ?_
  rintro e w1 ⟨a1, a2, c1, c2, qs, rs, rfl, hq, hr, nq, nr, vq, vr, hap, hb1⟩
  have hl : qs.length ≤ xs.length := by
    refine len_below hq.words nq ?_
    rw [vq]
    exact Int.lt_of_le_of_lt (Int.ediv_le_self _ hx0) hlt
  have HV := hide vq
  clear vq vr hap hd
  go_wp2
  go_ret
  exact ⟨_, _, qs, rfl, hq, nq, HV, hl, hb1⟩
set_option maxRecDepth 100000 in
set_option maxHeartbeats 1000000 in
theorem lowest_any {lo lo' : Nat} {a b : Option Addr} {la lb ca cb : Nat} {xs ys : List Int} {w : World} (ha : Seg lo w (.slice a la ca) xs) (hb : Seg lo' w (.slice b lb cb) ys) (hla : xs.length ≤ 1000) (hlb : ys.length ≤ 1000) (hy : 0 < val ys) :
    Calls Tryd.prog 47 #[.slice a la ca, .slice b lb cb] w fun e w' => ∃ (a1 a2 : Option Addr) (c1 c2 : Nat) (qs rs : List Int), e = .returned (.tuple #[.slice a1 qs.length c1, .slice a2 rs.length c2]) ∧ Fr w.heap.size w' a1 c1 qs a2 c2 rs ∧ Norm qs ∧ Norm rs ∧ Hid (val qs = val xs / gcdI (val xs) (val ys)) ∧ Hid (val rs = val ys / gcdI (val xs) (val ys)) ∧ qs.length ≤ xs.length ∧ rs.length ≤ ys.length ∧ Apart a1 a2 qs rs ∧ Below w.heap.size w w' := by
  have hg := qgcd_any ha hb hla hlb
  have hx0 := val_nonneg ha.words
  have hgl : gcdI (val xs) (val ys) ≤ val ys := by
    rw [gcdI_gcd hx0 (by omega)]
    exact Int.le_of_dvd hy (Int.gcd_dvd_right ..)
  have hlt := val_lt hb.words
  go_enter Tryd.func47, Tryd.ntmps47
  go_wp2_with fail
  refine hg.mono ?_
  rintro e w1 ⟨a1, c1, gs, rfl, hs1, nq1, vq1, hb1⟩
  have hl1 : gs.length ≤ ys.length := by
    refine len_below hs1.words nq1 ?_
    rw [vq1]
    omega
  have HG := hide vq1
  clear vq1 hg
  go_wp2_with fail
  refine (share_any (ha.below hb1) hs1 hla (by omega)).mono ?_
  rintro e w2 ⟨a2, c2, qs, rfl, hs2, nq2, HV2, hl2, hb2⟩
  have hb12 := hb1.trans (hb2.mono hb1.size)
  go_wp2_with fail
  refine (share_any (hb.below hb12) (hs1.below hb2) hlb (by omega)).mono ?_
  rintro e w3 ⟨a3, c3, rs, rfl, hs3, nq3, HV3, hl3, hb3⟩
  have hb13 := hb12.trans (hb3.mono hb12.size)
  have HAP := hide (apart_of (fun h b o e => hs2.block h b o e) hs3 (Nat.le_refl _) : Apart a2 a3 qs rs)
  go_wp2
  go_ret2
  exact ⟨_, _, _, _, qs, rs, rfl, ⟨(hs2.mono hb1.size).below hb3, hs3.mono hb12.size⟩, nq2, nq3, by rw [Hid, HV2.out, HG.out], by rw [Hid, HV3.out, HG.out], hl2, hl3, HAP.out, hb13⟩
set_option maxRecDepth 100000 in
set_option maxHeartbeats 1000000 in
theorem isOne_any {lo : Nat} {a : Option Addr} {la ca : Nat} {xs : List Int} {w : World} (ha : Seg lo w (.slice a la ca) xs) (hla : xs.length ≤ 1000) :
    Calls Tryd.prog 40 #[.slice a la ca] w fun e w' => e = .returned (.bool (val xs == 1)) ∧ Below w.heap.size w w' := by
  by_cases h : val xs < 18446744073709551616
  · have ho := one_yes ha (by omega) h
    generalize val xs = x at *
    go_enter Tryd.func40, Tryd.ntmps40
    go_wp2_with fail
    refine ho.mono ?_
    rintro e w1 ⟨rfl, hb1⟩
    clear ho
    go_wp2
    go_ret
    exact ⟨rfl, hb1⟩
  · have ho := one_no ha (by omega) (by omega)
    have HF : Hid ((val xs == 1) = false) := beq_eq_false_iff_ne.2 (by omega)
    clear h
    go_enter Tryd.func40, Tryd.ntmps40
    go_wp2_with fail
    refine ho.mono ?_
    rintro e w1 ⟨rfl, hb1⟩
    clear ho
    go_wp2
    go_ret
    rw [HF.out]
    exact ⟨rfl, hb1⟩
set_option maxRecDepth 100000 in
set_option maxHeartbeats 1000000 in
theorem pcheck_any {lo : Nat} {a c : Option Addr} {ca cc : Nat} {xs ds : List Int} {w : World} (b : Bool) (h : Fr lo w a ca xs c cc ds) (hl : xs.length ≤ 1000) (hl' : ds.length ≤ 1000) :
    Calls Tryd.prog 22 #[.agg #[.bool b, .slice a xs.length ca, .slice c ds.length cc]] w fun e w' => e = .returned (.int .i64 (formR b xs ds)) ∧ Below w.heap.size w w' := by
  have hB0 : Below w.heap.size w (w.alloc (.cells #[.bool b, .slice a xs.length ca, .slice c ds.length cc] 31)) := (Below.refl _ w).alloc (Nat.le_refl _) _
  have E := Box.new w (.cells #[.bool b, .slice a xs.length ca, .slice c ds.length cc] 31)
  have hck := scheck_any b (h.up.below hB0) (by omega)
  obtain ⟨f, hf⟩ : ∃ f, formI b xs = f := ⟨_, rfl⟩
  have HR : Hid (formR b xs ds = if f = 0 ∧ formOf ds = 0 ∧ ds ≠ [] ∧ gcdI (val xs) (val ds) = 1 then 0 else 6) := by rw [Hid, ← hf]; rfl
  rw [hf] at hck
  clear hf
  go_enter Tryd.func22, Tryd.ntmps22
  go_wp2_with fail
  refine hck.mono ?_
  rintro e w1 ⟨rfl, hb1⟩
  have E1 := E.below hb1
  have hB1 := hB0.trans (hb1.mono hB0.size)
  obtain ⟨k0, k1, k2, _⟩ := E1.three
  clear hck
  by_cases h0 : f = 0
  · subst h0
    have hc := check_any (h.down.below hB1) (by omega)
    obtain ⟨g, hg⟩ : ∃ g, formOf ds = g := ⟨_, rfl⟩
    rw [hg] at hc
    have HG := hide hg
    clear hg
    go_wp2_with fail
    refine hc.mono ?_
    rintro e w2 ⟨rfl, hb2⟩
    have E2 := E1.below hb2
    have hB2 := hB1.trans (hb2.mono hB1.size)
    clear hc k0 k1 k2
    obtain ⟨k0, k1, k2, _⟩ := E2.three
    by_cases h1 : g = 0
    · subst h1
      by_cases h2 : ds = []
      · subst h2
        go_wp2
        go_ret
        exact ⟨ret_int (by rw [HR.out, if_neg (by simp)]), hB2⟩
      · have hz : ((ds.length : Int) == 0) = false := beq_eq_false_iff_ne.2 (by have := List.length_pos_iff.2 h2; omega)
        have hgc := qgcd_any (h.up.below hB2) (h.down.below hB2) hl hl'
        have hlt := val_lt h.down.words
        have hp : 0 < val ds := norm_pos h.down.words (formOf_norm.1 HG.out) h2
        have hgl : gcdI (val xs) (val ds) ≤ val ds := by
          rw [gcdI_gcd (val_nonneg h.up.words) (by omega)]
          exact Int.le_of_dvd hp (Int.gcd_dvd_right ..)
        have H2 := hide h2
        clear h2 hp
        go_wp2_with fail
        refine hgc.mono ?_
        rintro e w3 ⟨a3, c3, gs, rfl, hs3, n3, v3, hb3⟩
        have hl3 : gs.length ≤ ds.length := by
          refine len_below hs3.words n3 ?_
          rw [v3]
          omega
        have hio := isOne_any hs3 (by omega)
        have hB3 := hB2.trans (hb3.mono hB2.size)
        have V3 := hide v3
        clear hgc v3 k0 k1 k2 hlt hgl
        obtain ⟨x, hx⟩ : ∃ x, (val gs == 1) = x := ⟨_, rfl⟩
        rw [hx] at hio
        have HX := hide hx
        clear hx
        go_wp2_with fail
        refine hio.mono ?_
        rintro e w4 ⟨rfl, hb4⟩
        have hB4 := hB3.trans (hb4.mono hB3.size)
        clear hio
        cases x with
        | true =>
          go_wp2
          go_ret
          refine ⟨ret_int ?_, hB4⟩
          have := HX.out
          rw [V3.out] at this
          rw [HR.out, if_pos ⟨by simp, HG.out, H2.out, by simpa using this⟩]
        | false =>
          go_wp2
          go_ret
          refine ⟨ret_int ?_, hB4⟩
          have := HX.out
          rw [V3.out] at this
          rw [HR.out, if_neg]
          rintro ⟨_, _, _, h4⟩
          rw [h4] at this
          exact absurd this (by decide)
    · have hne : (g != 0) = true := bne_iff_ne.2 h1
      have H1 := hide h1
      clear h1
      go_wp2
      go_ret
      exact ⟨ret_int (by rw [HR.out, if_neg (by rw [HG.out]; rintro ⟨_, q, _⟩; exact H1.out q)]), hB2⟩
  · have hne : (f != 0) = true := bne_iff_ne.2 h0
    have H0 := hide h0
    clear h0
    go_wp2
    go_ret
    exact ⟨ret_int (by rw [HR.out, if_neg (by rintro ⟨q, _⟩; exact H0.out q)]), hB1⟩
def Yield.nat (lo : Nat) (x : Int) (n : Nat) : Yield := .rel (fun v W => ∃ (a : Option Addr) (c : Nat) (z : List Int), v = .slice a z.length c ∧ Seg lo W (.slice a z.length c) z ∧ Norm z ∧ Hid (val z = x) ∧ z.length ≤ n)
  (fun _ _ _ hb ⟨a, c, z, e, s, r⟩ => ⟨a, c, z, e, s.below hb, r⟩)
def Yield.natIn (f : Value → Value) (lo : Nat) (x : Int) (n : Nat) : Yield := .rel (fun v W => ∃ (a : Option Addr) (c : Nat) (z : List Int), v = f (.slice a z.length c) ∧ Seg lo W (.slice a z.length c) z ∧ Norm z ∧ Hid (val z = x) ∧ z.length ≤ n)
  (fun _ _ _ hb ⟨a, c, z, e, s, r⟩ => ⟨a, c, z, e, s.below hb, r⟩)
def Yield.int (lo : Nat) (x : Int) (n : Nat) : Yield := .rel (fun v W => ∃ (g : Bool) (a : Option Addr) (c : Nat) (z : List Int), v = .agg #[.bool g, .slice a z.length c] ∧ Seg lo W (.slice a z.length c) z ∧ Canon g z ∧ Hid (sgn g (val z) = x) ∧ z.length ≤ n)
  (fun _ _ _ hb ⟨g, a, c, z, e, s, r⟩ => ⟨g, a, c, z, e, s.below hb, r⟩)
def Yield.intIn (f : Bool → Value → Value) (lo : Nat) (x : Int) (n : Nat) : Yield := .rel (fun v W => ∃ (g : Bool) (a : Option Addr) (c : Nat) (z : List Int), v = f g (.slice a z.length c) ∧ Seg lo W (.slice a z.length c) z ∧ Canon g z ∧ Hid (sgn g (val z) = x) ∧ z.length ≤ n)
  (fun _ _ _ hb ⟨g, a, c, z, e, s, r⟩ => ⟨g, a, c, z, e, s.below hb, r⟩)
def Yield.frac (lo : Nat) (q : Rat) (n : Nat) : Yield := .rel (fun v W => ∃ (b : Bool) (a : Option Addr) (ca : Nat) (xs : List Int) (c : Option Addr) (cc : Nat) (ds : List Int), v = .agg #[.bool b, .slice a xs.length ca, .slice c ds.length cc] ∧ Fr lo W a ca xs c cc ds ∧ Apart a c xs ds ∧ Is b xs ds q n)
  (fun _ _ _ hb ⟨b, a, ca, xs, c, cc, ds, e, s, r⟩ => ⟨b, a, ca, xs, c, cc, ds, e, s.below hb, r⟩)
def Yield.fracE (lo : Nat) (q : Rat) (n : Nat) : Yield := .rel (fun v W => ∃ (b : Bool) (a : Option Addr) (ca : Nat) (xs : List Int) (c : Option Addr) (cc : Nat) (ds : List Int), v = .tuple #[.agg #[.bool b, .slice a xs.length ca, .slice c ds.length cc], .int .i64 0] ∧ Fr lo W a ca xs c cc ds ∧ Apart a c xs ds ∧ Is b xs ds q n)
  (fun _ _ _ hb ⟨b, a, ca, xs, c, cc, ds, e, s, r⟩ => ⟨b, a, ca, xs, c, cc, ds, e, s.below hb, r⟩)
def Yield.copyw (lo : Nat) (b : Bool) (zs : List Int) : Yield := .rel (fun v W => ∃ (a : Option Addr) (c : Nat), v = .agg #[.bool b, .slice a zs.length c] ∧ Seg lo W (.slice a zs.length c) zs)
  (fun _ _ _ hb ⟨a, c, e, s⟩ => ⟨a, c, e, s.below hb⟩)
def Yield.copyn (lo : Nat) (zs : List Int) : Yield := .rel (fun v W => ∃ (a : Option Addr) (c : Nat), v = .slice a zs.length c ∧ Seg lo W (.slice a zs.length c) zs)
  (fun _ _ _ hb ⟨a, c, e, s⟩ => ⟨a, c, e, s.below hb⟩)
def NoWord (cs : Array Value) : Prop := ∀ (i : Nat) (x : Int), cs[i]? ≠ some (.int .u64 x)
theorem Seg.offU {lo : Nat} {W : World} {a : Option Addr} {n cap k : Nat} {zs : List Int} {cs : Array Value} {t : TypeId} (h : Seg lo W (.slice a n cap) zs) (hk : Box W k (.cells cs t (0, 0))) (hs : NoWord cs) (hz : zs ≠ []) : ∀ g o, a = some ⟨g, o, none⟩ → g ≠ k := by
  rintro g o rfl rfl
  obtain ⟨hn, _⟩ := h.len
  subst hn
  have hc := (h.cell (j := 0) (List.length_pos_iff.2 hz)).1
  rw [cell_of_heap hk.what (o + 0)] at hc
  exact hs _ _ hc
theorem Seg.beside {lo : Nat} {W W' : World} {a : Option Addr} {n cap k : Nat} {zs : List Int} {cs : Array Value} {t : TypeId} (h : Seg lo W (.slice a n cap) zs) (hk : Box W k (.cells cs t (0, 0))) (hs : NoWord cs) (ht : Turns k W W') : Seg lo W' (.slice a n cap) zs := by
  by_cases hz : zs = []
  · obtain ⟨hn, hc⟩ := h.len
    subst hz hn
    exact Seg.empty _ _ _ _
  · obtain ⟨g, o, rfl, _, _⟩ := h.row (by rw [h.len.1]; exact List.length_pos_iff.2 hz)
    exact h.turns ht (h.offU hk hs hz g o rfl)
theorem Fr.beside {lo : Nat} {W W' : World} {a c : Option Addr} {ca cc k : Nat} {xs ds : List Int} {cs : Array Value} {t : TypeId} (h : Fr lo W a ca xs c cc ds) (hk : Box W k (.cells cs t (0, 0))) (hs : NoWord cs) (ht : Turns k W W') : Fr lo W' a ca xs c cc ds := ⟨h.up.beside hk hs ht, h.down.beside hk hs ht⟩
theorem noWord2 {u v : Value} (hu : ∀ x, u ≠ .int .u64 x) (hv : ∀ x, v ≠ .int .u64 x) : NoWord #[u, v] := fun i x e => by
  match i with
  | 0 => simp at e; exact hu _ e
  | 1 => simp at e; exact hv _ e
  | i + 2 => simp at e
theorem noWord3 {u v t : Value} (hu : ∀ x, u ≠ .int .u64 x) (hv : ∀ x, v ≠ .int .u64 x) (ht : ∀ x, t ≠ .int .u64 x) : NoWord #[u, v, t] := fun i x e => by
  match i with
  | 0 => simp at e; exact hu _ e
  | 1 => simp at e; exact hv _ e
  | 2 => simp at e; exact ht _ e
  | i + 3 => simp at e
theorem turns1 (g : Nat) (W : World) (u : Value) : Turns g W (W.setCell ⟨g, 0, none⟩ u) := (Turns.refl g W).setCell 0 u
theorem Box.one {W : World} {k : Nat} {u : Value} {t : TypeId} (h : Box W k (.cells #[u] t (0, 0))) : W.cell? ⟨k, 0, none⟩ = some u ∧ W.frozen? ⟨k, 0, none⟩ = false := ⟨cell_of_heap h.what 0, frozen_of_heap h.what 0⟩
theorem Box.set1 {W : World} {k : Nat} {u : Value} {t : TypeId} (u' : Value) (h : Box W k (.cells #[u] t (0, 0))) : Box (W.setCell ⟨k, 0, none⟩ u') k (.cells #[u'] t (0, 0)) := ⟨Nat.lt_of_lt_of_le h.lt (turns1 k W u').below.size, heap_setCell_same W k 0 _ t u' h.what⟩
inductive GetIs : Except (Int × Int) Int → List Int → Int → Int → Prop where
  | ok {v : Int} {zs : List Int} (hn : Norm zs) (hv : val zs = v) : GetIs (.ok v) zs 0 0
  | err (e p : Int) : GetIs (.error (e, p)) [] e p
def GetSaid (bs : List Int) (w : World) (e : Ending) (w' : World) : Prop :=
  ∃ (a : Option Addr) (cap : Nat) (zs : List Int) (er p : Int), e = .returned (.tuple #[.slice a zs.length cap, .agg #[.int .i64 er, .int .i64 p]]) ∧ Seg w.heap.size w' (.slice a zs.length cap) zs ∧ GetIs (getZ bs) zs er p ∧ zs.length ≤ 2 * bs.length ∧ Below w.heap.size w w'
def GotSaid (bs : List Int) (w : World) (e : Ending) (w' : World) : Prop :=
  ∃ (a : Option Addr) (cap : Nat) (zs : List Int) (er p : Int), e = .returned (.tuple #[.slice a zs.length cap, .agg #[.int .i64 er, .int .i64 p]]) ∧ Seg w.heap.size w' (.slice a zs.length cap) zs ∧ GetIs (getP bs) zs er p ∧ zs.length ≤ bs.length ∧ Below w.heap.size w w'
def textSize : Value → Nat
  | .string t => t.size
  | _ => 0
theorem octs_cut (s : ByteArray) (i j : Nat) : octs (s.extract i j) = ((octs s).drop i).take (j - i) := by
  unfold octs
  rw [ByteArray.data_extract, Array.toList_extract, List.extract, List.map_take, List.map_drop]
theorem behind_val {bs : List Int} {k m : Nat} {v : Int} (h : k = 0 ∨ m = 19) (hk : k + m ≤ bs.length) (hv : v = numZ (bs.take k)) : numZ (bs.take (k + m)) = v * 10000000000000000000 + numZ ((bs.drop k).take m) := by
  rw [List.take_add, numZ_append, ← hv, List.length_take, List.length_drop, Nat.min_eq_left (by omega)]
  rcases h with h | h
  · subst h
    have : v = 0 := by rw [hv]; rfl
    subst this
    simp
  · subst h
    rfl
set_option maxRecDepth 100000 in
set_option maxHeartbeats 4000000 in
theorem get_any (s : ByteArray) (w : World) (hl : s.size ≤ 1000 ∨ 10000 < s.size) : Calls Tryd.prog 19 #[.string s] w fun e w' => GotSaid (octs s) w e w' := by
  have HLEN := hide (octs_len s)
  have hbs := hide (octs_octs s)
  have hq := below_new w (.cells #[.int .i64 0, .int .i64 0] 48)
  have E : Box (w.alloc (.cells #[.int .i64 0, .int .i64 0] 48)) w.heap.size (.cells #[.int .i64 0, .int .i64 0] 48) := Box.put _ rfl
  go_enter Tryd.func19, Tryd.ntmps19
  by_cases h1 : 10000 < s.size
  · have HG : Hid (getP (octs s) = .error (4, 10000)) := by rw [Hid, getP, if_pos (by rw [HLEN.out]; exact h1)]
    have h2 : (10000 : Int) < (s.size : Int) := by omega
    have hq2 : Below w.heap.size w (w.alloc (.cells #[.int .i64 4, .int .i64 10000] 48)) := (Below.refl _ _).alloc (Nat.le_refl _) _
    clear hl E hq
    go_wp2
    refine bodyPost_ret (v := .tuple #[.slice none 0 0, .agg #[.int .i64 4, .int .i64 10000]]) (by simp [results, Tryd.f19, go_sem]) rfl ?_
    exact ⟨none, 0, [], 4, 10000, rfl, Seg.nil _ _, by rw [HG.out]; exact .err 4 10000, Nat.zero_le _, hq2⟩
  · have h2 : ¬ (10000 : Int) < (s.size : Int) := by omega
    have hS : s.size ≤ 1000 := by omega
    have hwr := fun w => wrongAt_any s w (by omega)
    have HL0 : Hid (¬ 10000 < (octs s).length) := by rw [Hid, HLEN.out]; omega
    obtain ⟨k0, k1, f0, f1⟩ := E.two
    clear hl h1
    go_wp2_with fail
    refine (hwr _).mono ?_
    rintro e w1 ⟨hres, rfl⟩
    clear hwr
    rcases hres with ⟨rfl, hok⟩ | ⟨rfl, hno⟩
    · have HOK := hide hok
      have HV0 : Hid (val [] = numZ ((octs s).take 0)) := by rw [Hid, List.take_zero]; rfl
      have HO0 : Hid (octs s = (octs s).drop 0) := by rw [Hid, List.drop_zero]
      obtain ⟨W1, hW1⟩ : ∃ W, w.alloc (.cells #[.int .i64 0, .int .i64 0] 48) = W := ⟨_, rfl⟩
      have hz1 : W1.heap.size = w.heap.size + 1 := by rw [← hW1, World.size_alloc]
      rw [hW1] at E hq k0 k1 f0 f1 ⊢
      clear hok hW1 k0 k1 f0 f1
      go_wp2
      go_loopw [0, 6] (fun sv nv wr => ∃ (k : Nat) (t : ByteArray) (a : Option Addr) (c : Nat) (ns : List Int), sv = .string t ∧ nv = .slice a ns.length c ∧ k + t.size = s.size ∧ (k = 0 ∨ ∃ m, t.size = 19 * m) ∧ Hid (octs t = (octs s).drop k) ∧ Own W1.heap.size wr (.slice a ns.length c) ns ∧ Norm ns ∧ Hid (val ns = numZ ((octs s).take k)) ∧ ns.length ≤ k ∧ Below W1.heap.size W1 wr) (fun sv _ _ => textSize sv)
      case atStart => exact ⟨0, s, none, 0, [], rfl, rfl, by omega, Or.inl rfl, HO0, own_nil _ _, norm_nil, HV0, by simp, Below.refl _ _⟩
      case round =>
        clear HV0 HO0
        obtain ⟨k, t, a, c, ns, rfl, rfl, hk, hm, HO, ho, hn, HV, hnl, hB⟩ := hrel
        by_cases ht : 0 < t.size
        · have ht2 : (0 : Int) < (t.size : Int) := by omega
          obtain ⟨z, hz⟩ : ∃ z : Nat, (t.size - 1) % 19 + 1 = z := ⟨_, rfl⟩
          have hzb : 1 ≤ z ∧ z ≤ 19 ∧ z ≤ t.size := by omega
          have hzm : k = 0 ∨ z = 19 := by
            rcases hm with h | ⟨m, h⟩
            · exact Or.inl h
            · right; omega
          have hzn : ∃ m, t.size - z = 19 * m := ⟨(t.size - z) / 19, by omega⟩
          have hw1 : IntKind.i64.wrap ((t.size : Int) - 1) = (t.size : Int) - 1 := by rw [IntKind.wrap_i64]; omega
          have hw2 : IntKind.i64.wrap (((t.size : Int) - 1) % 19 + 1) = (z : Int) := by rw [IntKind.wrap_i64]; omega
          obtain ⟨T1, hT1⟩ : ∃ T, t.extract 0 z = T := ⟨_, rfl⟩
          have HO1 : Hid (octs T1 = ((octs s).drop k).take z) := by rw [Hid, ← hT1, octs_cut, List.drop_zero, Nat.sub_zero, HO.out]
          obtain ⟨T2, hT2⟩ : ∃ T, t.extract z t.size = T := ⟨_, rfl⟩
          have HO2 : Hid (octs T2 = (octs s).drop (k + z)) := by rw [Hid, ← hT2, octs_cut, List.take_of_length_le (by rw [List.length_drop, octs_len]; omega), HO.out, List.drop_drop]
          have z1 : T1.size = z := by rw [← octs_len, HO1.out, List.length_take, List.length_drop, HLEN.out]; omega
          have z2 : T2.size = t.size - z := by rw [← octs_len, HO2.out, List.length_drop, HLEN.out]; omega
          have hA1 : AllDig (octs T1) := fun y hy => HOK.out.2.1 y (by
            rw [HO1.out] at hy
            exact List.mem_of_mem_drop (List.mem_of_mem_take hy))
          have hgg := fun w => getGroup_any T1 w (by omega) hA1
          have hgb := numZ_bound (octs T1) hA1
          have hgb2 := numZ_lt (k := 19) hA1 (by rw [octs_len]; omega)
          rw [show (10 : Int) ^ 19 = 10000000000000000000 by decide] at hgb2
          have HN2 : Hid (numZ ((octs s).take (k + z)) = val ns * 10000000000000000000 + numZ (octs T1)) := by
            rw [Hid, HO1.out]
            exact behind_val hzm (by rw [HLEN.out]; omega) HV.out
          have hpb := putBehind_any ho hn (by omega) hB.size (numZ (octs T1)) ⟨hgb.1, hgb2⟩
          obtain ⟨G, hG⟩ : ∃ G, numZ (octs T1) = G := ⟨_, rfl⟩
          rw [hG] at hgg hpb HN2
          have hz0 : (0 : Int) ≤ (z : Int) := by omega
          have hz3 : (z : Int) ≤ (t.size : Int) := by omega
          have HZ := hide hzn
          have HK : Hid (1 ≤ z ∧ z ≤ t.size) := ⟨hzb.1, hzb.2.2⟩
          have Hz2 := hide z2
          clear hm hzm hzn hA1 hgb hgb2 hG z1 z2 hzb hz
          go_wp2_with fail
          refine (hgg _).mono ?_
          rintro e w1 ⟨rfl, rfl⟩
          go_wp2_with fail
          refine hpb.mono ?_
          rintro e w2 ⟨a2, c2, ys, rfl, ho2, hn2, hv2, hl2, hb2⟩
          have HV2 : Hid (val ys = numZ ((octs s).take (k + z))) := by rw [Hid, hv2, HN2.out]
          have hB2 := hB.trans hb2
          clear hgg hpb hv2 ho hB hn
          have HM : Hid (textSize (.string T2) < textSize (.string t)) := by
            show T2.size < t.size
            have := Hz2.out
            have := HK.out
            omega
          go_wp2
          exact ⟨⟨k + z, T2, a2, c2, ys, rfl, rfl, by have := Hz2.out; have := HK.out; omega, Or.inr (by rw [Hz2.out]; exact HZ.out), HO2, ho2, hn2, HV2, by have := HK.out; omega, hB2⟩, HM.out⟩
        · have ht0 : t.size = 0 := by omega
          have hn0 : ¬ (0 : Int) < (t.size : Int) := by omega
          have HG : Hid (getP (octs s) = .ok (val ns)) := by
            rw [Hid, getP, if_neg HL0.out, if_pos ((okB_iff _).2 HOK.out), HV.out, List.take_of_length_le (by rw [HLEN.out]; omega)]
          have E2 : Box wr w.heap.size (.cells #[.int .i64 0, .int .i64 0] 48) := E.under hB (by omega)
          obtain ⟨a', c', e', hs⟩ := own_seg ho
          simp only [Value.slice.injEq] at e'
          obtain ⟨rfl, _, rfl⟩ := e'
          have hB3 : Below w.heap.size w wr := hq.trans (hB.mono (by omega))
          have hs2 := hs.mono (show w.heap.size ≤ W1.heap.size by omega)
          have HNl : Hid (ns.length ≤ (octs s).length) := by rw [Hid, HLEN.out]; omega
          obtain ⟨k0, k1, f0, f1⟩ := E2.two
          clear HV hm HO E
          go_wp2
          clear k0 k1 f0 f1
          have E3 := (Box.set2 (.int .i64 0) (.int .i64 0) E2).two
          have r0 := E3.1
          have r1 := E3.2.1
          clear E3
          refine bodyPost_ret (v := .tuple #[.slice a ns.length c, .agg #[.int .i64 0, .int .i64 0]]) (by simp [results, Tryd.f19, go_sem, r0, r1]) rfl ?_
          exact ⟨a, c, ns, 0, 0, rfl, hs2.beside E2 (noWord2 (fun _ e => by cases e) (fun _ e => by cases e)) (turns2 _ _ _ _), by rw [HG.out]; exact .ok hn rfl, HNl.out, hB3.trans (turns2 _ _ _ _).below⟩
    · have HG : Hid (getP (octs s) = .error (6, (wrongI (octs s) : Int))) := by rw [Hid, getP, if_neg HL0.out, if_neg (fun e => hno ((okB_iff _).1 e))]
      clear hno
      have hq3 : Below w.heap.size w (w.alloc (.cells #[.int .i64 6, .int .i64 (wrongI (octs s))] 48)) := (Below.refl _ _).alloc (Nat.le_refl _) _
      go_wp2
      refine bodyPost_ret (v := .tuple #[.slice none 0 0, .agg #[.int .i64 6, .int .i64 (wrongI (octs s))]]) (by simp [results, Tryd.f19, go_sem]) rfl ?_
      exact ⟨none, 0, [], 6, wrongI (octs s), rfl, Seg.nil _ _, by rw [HG.out]; exact .err 6 _, Nat.zero_le _, hq3⟩
theorem canon_of {g : Bool} {z t : List Int} (hz : Canon g z) (wz : Words z) (nt : Norm t) (h : 0 < val z → 0 < val t) : Canon g t := by
  refine ⟨nt, fun hg => ?_⟩
  have := h (norm_pos wz hz.1 (hz.2 hg))
  rintro rfl
  rw [val_nil] at this
  omega
end Go.Proofs.YtfcpaejeppedoaaDoor
namespace Go.Proofs.YtfcpaejeppedoaaDoor
open Go.RowKit
end Go.Proofs.YtfcpaejeppedoaaDoor
namespace Go.Proofs.YtfcpaejeppedoaaDoor
open Go.RowKit
theorem make_is {b : Bool} {xs ds z1 z2 : List Int} {N : Nat} (hc : Canon b xs) (wx : Words xs) (hd : 0 < val ds) (V1 : Hid (val z1 = val xs / gcdI (val xs) (val ds))) (V2 : Hid (val z2 = val ds / gcdI (val xs) (val ds))) (N1 : Norm z1) (N2 : Norm z2) (l1 : z1.length ≤ N) (l2 : z2.length ≤ N) :
    Is b z1 z2 (Rat.divInt (sgn b (val xs)) (val ds)) N := by
  have hg := gcdI_gcd (val_nonneg wx) (Int.le_of_lt hd)
  have hdv : gcdI (val xs) (val ds) ∣ val xs := by rw [hg]; exact Int.gcd_dvd_left ..
  have hgp := gcdI_posR (a := val xs) hd
  have hc1 : Canon b z1 := canon_of hc wx N1 (fun hp => by rw [V1.out]; exact Int.ediv_pos_of_pos_of_dvd hp (by omega) hdv)
  have h1 := V1.out
  have h2 := V2.out
  rw [hg] at h1 h2
  obtain ⟨l, e⟩ := lowL_div (b := b) hd hc1 N2 (by rw [h1]) h2
  exact ⟨l, e, l1, l2⟩
theorem side_nn {g : Bool} {z : List Int} {y : Int} (h : sgn g (val z) = y) (hy : 0 ≤ y) (hc : Canon g z) (hw : Words z) : g = false := by
  cases g
  · rfl
  · have := norm_pos hw hc.1 (hc.2 rfl)
    simp [sgn] at h; omega
set_option maxRecDepth 100000 in
set_option maxHeartbeats 4000000 in
theorem pmake_ok {lo : Nat} {a c : Option Addr} {ca cc : Nat} {xs ds : List Int} {w : World} (b : Bool) (FA : Fr lo w a ca xs c cc ds) (hl : xs.length ≤ 1000) (hl2 : ds.length ≤ 1000) {n : Nat} (hln : xs.length ≤ n ∧ ds.length ≤ n) (hc : Canon b xs) (hd : 0 < val ds) :
    Calls Tryd.prog 27 #[.agg #[.bool b, .slice a xs.length ca], .slice c ds.length cc] w fun e w' => ∃ (b' : Bool) (a' : Option Addr) (ca' : Nat) (ts' : List Int) (c' : Option Addr) (cc' : Nat) (es' : List Int), e = .returned (.tuple #[.agg #[.bool b', .slice a' ts'.length ca', .slice c' es'.length cc'], .int .i64 0]) ∧ Fr w.heap.size w' a' ca' ts' c' cc' es' ∧ Apart a' c' ts' es' ∧ Is b' ts' es' (Rat.divInt (sgn b (val xs)) (val ds)) (n) ∧ Below w.heap.size w w' := by
  have HF : Hid (formI b xs = 0) := formI_canon.2 hc
  have HD := hide hd
  have HC := hide hc
  have hB := Below.refl w.heap.size w
  clear hd
  go_enter Tryd.func27, Tryd.ntmps27
  have hA := Below.refl w.heap.size w
  have hq := below_new w (.cells #[.bool b, .slice a xs.length ca] 29)
  replace FA := FA.below hq
  have EA := Box.put (w := w) (k := (w.heap.size)) (.cells #[.bool b, .slice a xs.length ca] 29) rfl
  replace hA := hA.trans (hq.mono hA.size)
  replace hB := hB.trans (hq.mono hB.size)
  clear hq
  have hq := below_new (w.alloc (.cells #[.bool b, .slice a xs.length ca] 29)) (.cells #[.bool false, .slice none 0 0, .slice none 0 0] 31)
  replace FA := FA.below hq
  replace EA := EA.below hq
  have ER := Box.put (w := (w.alloc (.cells #[.bool b, .slice a xs.length ca] 29))) (k := (w.heap.size + 1)) (.cells #[.bool false, .slice none 0 0, .slice none 0 0] 31) (by simp)
  replace hA := hA.trans (hq.mono hA.size)
  replace hB := hB.trans (hq.mono hB.size)
  clear hq
  clear hA
  go_wp2_with fail
  obtain ⟨u1, hname⟩ := nm hB
  rw [hname] at hB FA EA ER ⊢
  have zh1 := hB.size
  clear hname
  have hk := scheck_any b FA.up (by omega)
  rw [HF.out] at hk
  refine (hk).mono ?_
  rintro e w2 ⟨rfl, hb⟩
  replace FA := FA.below hb
  replace EA := EA.below hb
  replace ER := ER.below hb
  replace hB := hB.trans (hb.mono hB.size)
  have zz2 := hb.size
  have zh2 := hB.size
  clear hb
  clear hk
  obtain ⟨k0, k1, f0, f1⟩ := EA.two
  obtain ⟨k2, k3, k4, f2, f3, f4⟩ := ER.three
  go_wp2_with fail
  clear k0 k1 f0 f1 k2 k3 k4 f2 f3 f4
  have hk := len_any FA.down (by omega)
  refine (hk).mono ?_
  rintro e w3 ⟨rfl, hb⟩
  replace FA := FA.below hb
  replace EA := EA.below hb
  replace ER := ER.below hb
  replace hB := hB.trans (hb.mono hB.size)
  have zz3 := hb.size
  have zh3 := hB.size
  clear hb
  clear hk
  have hne := blen_ne HD.out
  obtain ⟨k0, k1, f0, f1⟩ := EA.two
  obtain ⟨k2, k3, k4, f2, f3, f4⟩ := ER.three
  go_wp2_with fail
  clear k0 k1 f0 f1 k2 k3 k4 f2 f3 f4
  refine (lowest_any FA.up FA.down (by omega) (by omega) HD.out).mono ?_
  rintro e w4 ⟨a1, a2, c1, c2, z1, z2, rfl, Fz, N1, N2, V1, V2, b1, b2, P1, hb⟩
  replace FA := FA.below hb
  replace EA := EA.below hb
  replace ER := ER.below hb
  replace hB := hB.trans (hb.mono hB.size)
  have zz4 := hb.size
  have zh4 := hB.size
  clear hb
  clear hne
  have HI := make_is (N := n) HC.out FA.up.words HD.out V1 V2 N1 N2 (by omega) (by omega)
  obtain ⟨k0, k1, f0, f1⟩ := EA.two
  obtain ⟨k2, k3, k4, f2, f3, f4⟩ := ER.three
  have hcc := ER.three
  have r0 := hcc.1
  have r1 := hcc.2.1
  have r2 := hcc.2.2.1
  clear hcc
  have qEA := EA.lt
  have qER := ER.lt
  have hA := Below.refl w4.heap.size w4
  have hT := turns3 (w.heap.size + 1) w4 (.bool b) (.slice a1 z1.length c1) (.slice a2 z2.length c2)
  replace FA := FA.beside ER (noWord3 (fun _ e => by cases e) (fun _ e => by cases e) (fun _ e => by cases e)) hT
  replace EA := EA.turns hT (by omega)
  replace Fz := Fz.beside ER (noWord3 (fun _ e => by cases e) (fun _ e => by cases e) (fun _ e => by cases e)) hT
  replace ER := Box.set3 (.bool b) (.slice a1 z1.length c1) (.slice a2 z2.length c2) ER
  replace hB := hB.trans (hT.below.mono (by omega))
  clear hT
  clear hA
  go_wp2
  refine bodyPost_ret (v := .tuple #[.agg #[.bool b, .slice a1 z1.length c1, .slice a2 z2.length c2], .int .i64 0]) (by simp [results, Tryd.f27, go_sem, r0, r1, r2]) rfl ?_
  exact ⟨_, _, _, _, _, _, _, rfl, Fz.mono (by omega), P1, HI, hB⟩
set_option maxRecDepth 100000 in
set_option maxHeartbeats 4000000 in
theorem ppair_pos (x y : Int) (hx : -9223372036854775808 ≤ x ∧ x < 9223372036854775808) (hy : -9223372036854775808 ≤ y ∧ y < 9223372036854775808) (h0 : 0 < y) (w : World) :
    Calls Tryd.prog 7 #[.int .i64 x, .int .i64 y] w fun e w' => ∃ (b' : Bool) (a' : Option Addr) (ca' : Nat) (ts' : List Int) (c' : Option Addr) (cc' : Nat) (es' : List Int), e = .returned (.tuple #[.agg #[.bool b', .slice a' ts'.length ca', .slice c' es'.length cc'], .int .i64 0]) ∧ Fr w.heap.size w' a' ca' ts' c' cc' es' ∧ Apart a' c' ts' es' ∧ Is b' ts' es' (Rat.divInt x y) (1) ∧ Below w.heap.size w w' := by
  have hB := Below.refl w.heap.size w
  go_enter Tryd.func7, Tryd.ntmps7
  have hA := Below.refl w.heap.size w
  have hq := below_new w (.cells #[.bool false, .slice none 0 0, .slice none 0 0] 31)
  have ER := Box.put (w := w) (k := (w.heap.size)) (.cells #[.bool false, .slice none 0 0, .slice none 0 0] 31) rfl
  replace hA := hA.trans (hq.mono hA.size)
  replace hB := hB.trans (hq.mono hB.size)
  clear hq
  clear hA
  go_wp2_with fail
  obtain ⟨u1, hname⟩ := nm hB
  rw [hname] at hB ER ⊢
  have zh1 := hB.size
  clear hname
  refine (sof_any x hx _).mono ?_
  rintro e w2 ⟨g1, a1, c1, z1, rfl, S1, N1, v1, l1, hb⟩
  have V1 : Hid (sgn g1 (val z1) = x) := v1
  have b1 : z1.length ≤ 1 := by omega
  clear v1 l1
  replace ER := ER.below hb
  replace hB := hB.trans (hb.mono hB.size)
  have zz2 := hb.size
  have zh2 := hB.size
  clear hb
  obtain ⟨k0, k1, k2, f0, f1, f2⟩ := ER.three
  go_wp2_with fail
  clear k0 k1 k2 f0 f1 f2
  refine (sof_any y hy _).mono ?_
  rintro e w3 ⟨g2, a2, c2, z2, rfl, S2, N2, v2, l2, hb⟩
  have V2 : Hid (sgn g2 (val z2) = y) := v2
  have b2 : z2.length ≤ 1 := by omega
  clear v2 l2
  replace ER := ER.below hb
  replace S1 := S1.below hb
  replace hB := hB.trans (hb.mono hB.size)
  have zz3 := hb.size
  have zh3 := hB.size
  clear hb
  obtain rfl : g2 = false := side_nn V2.out (by omega) N2 S2.words
  have hv2 : Hid (val z2 = y) := by have := V2.out; simp [sgn] at this; rw [Hid]; omega
  have hd2 : 0 < val z2 := by have := hv2.out; omega
  obtain ⟨k0, k1, k2, f0, f1, f2⟩ := ER.three
  have qER := ER.lt
  have hA := Below.refl w3.heap.size w3
  have hq := below_new w3 (.cells #[.bool g1, .slice a1 z1.length c1] 29)
  replace ER := ER.below hq
  replace S1 := S1.below hq
  replace S2 := S2.below hq
  have EA := Box.put (w := w3) (k := (w3.heap.size)) (.cells #[.bool g1, .slice a1 z1.length c1] 29) rfl
  replace hA := hA.trans (hq.mono hA.size)
  replace hB := hB.trans (hq.mono hB.size)
  clear hq
  have hq := below_new (w3.alloc (.cells #[.bool g1, .slice a1 z1.length c1] 29)) (.cells #[.bool false, .slice a2 z2.length c2] 29)
  replace ER := ER.below hq
  replace S1 := S1.below hq
  replace S2 := S2.below hq
  replace EA := EA.below hq
  have EB := Box.put (w := (w3.alloc (.cells #[.bool g1, .slice a1 z1.length c1] 29))) (k := (w3.heap.size + 1)) (.cells #[.bool false, .slice a2 z2.length c2] 29) (by simp)
  replace hA := hA.trans (hq.mono hA.size)
  replace hB := hB.trans (hq.mono hB.size)
  clear hq
  clear hA
  go_wp2_with fail
  clear k0 k1 k2 f0 f1 f2
  obtain ⟨u4, hname⟩ := nm hB
  rw [hname] at hB ER S1 S2 EA EB ⊢
  have zh4 := hB.size
  clear hname
  refine (pmake_ok (lo := 0) (n := 1) g1 ⟨S1.mono (Nat.zero_le _), S2.mono (Nat.zero_le _)⟩ (by omega) (by omega) (by omega) N1 hd2).mono ?_
  rintro e w5 ⟨g3, a3, c3, x3, e3, t3, y3, rfl, F3, P3, I3, hb⟩
  replace I3 : Is g3 x3 y3 (Rat.divInt x y) (1) := I3.to (by rw [V1.out, hv2.out])
  replace ER := ER.below hb
  replace S1 := S1.below hb
  replace S2 := S2.below hb
  replace EA := EA.below hb
  replace EB := EB.below hb
  replace hB := hB.trans (hb.mono hB.size)
  have zz5 := hb.size
  have zh5 := hB.size
  clear hb
  clear hd2
  obtain ⟨k0, k1, k2, f0, f1, f2⟩ := ER.three
  obtain ⟨k3, k4, f3, f4⟩ := EA.two
  obtain ⟨k5, k6, f5, f6⟩ := EB.two
  have hcc := ER.three
  have r0 := hcc.1
  have r1 := hcc.2.1
  have r2 := hcc.2.2.1
  clear hcc
  have qER := ER.lt
  have qEA := EA.lt
  have qEB := EB.lt
  have hA := Below.refl w5.heap.size w5
  have hT := turns3 (w.heap.size) w5 (.bool g3) (.slice a3 x3.length c3) (.slice e3 y3.length t3)
  replace S1 := S1.beside ER (noWord3 (fun _ e => by cases e) (fun _ e => by cases e) (fun _ e => by cases e)) hT
  replace S2 := S2.beside ER (noWord3 (fun _ e => by cases e) (fun _ e => by cases e) (fun _ e => by cases e)) hT
  replace EA := EA.turns hT (by omega)
  replace EB := EB.turns hT (by omega)
  replace F3 := F3.beside ER (noWord3 (fun _ e => by cases e) (fun _ e => by cases e) (fun _ e => by cases e)) hT
  replace ER := Box.set3 (.bool g3) (.slice a3 x3.length c3) (.slice e3 y3.length t3) ER
  replace hB := hB.trans (hT.below.mono (by omega))
  clear hT
  clear hA
  go_wp2
  refine bodyPost_ret (v := .tuple #[.agg #[.bool g3, .slice a3 x3.length c3, .slice e3 y3.length t3], .int .i64 0]) (by simp [results, Tryd.f7, go_sem, r0, r1, r2]) rfl ?_
  exact ⟨_, _, _, _, _, _, _, rfl, F3.mono (by omega), P3, I3, hB⟩
end Go.Proofs.YtfcpaejeppedoaaDoor
namespace Go.Proofs.YtfcpaejeppedoaaDoor
open Go.RowKit
open Go.RowKit
end Go.Proofs.YtfcpaejeppedoaaDoor
namespace Go.Proofs.YtfcpaejeppedoaaDoor
open Go.RowKit
structure RV where
  b : Bool
  a : Option Addr
  ca : Nat
  xs : List Int
  c : Option Addr
  cc : Nat
  ds : List Int
structure Row (lo : Nat) (W : World) (sv : Option Addr) (rs : List RV) : Prop where
  at_ : ∀ j, j < rs.length → ∃ g o, sv = some ⟨g, o, none⟩ ∧ g < W.heap.size
  cells : ∀ (g o j : Nat) (r : RV), sv = some ⟨g, o, none⟩ → rs[j]? = some r → W.cell? ⟨g, o + j * 3, none⟩ = some (.bool r.b) ∧ W.cell? ⟨g, o + j * 3 + 1, none⟩ = some (.slice r.a r.xs.length r.ca) ∧ W.cell? ⟨g, o + j * 3 + 2, none⟩ = some (.slice r.c r.ds.length r.cc)
  held : ∀ (j : Nat) (r : RV), rs[j]? = some r → Fr lo W r.a r.ca r.xs r.c r.cc r.ds
theorem Row.below {lo : Nat} {W W' : World} {sv : Option Addr} {rs : List RV} (h : Row lo W sv rs) (hb : Below W.heap.size W W') : Row lo W' sv rs := by
  refine ⟨fun j hj => ?_, fun g o j r e hr => ?_, fun j r hr => (h.held j r hr).below hb⟩
  · obtain ⟨g, o, e, hg⟩ := h.at_ j hj
    exact ⟨g, o, e, Nat.lt_of_lt_of_le hg hb.size⟩
  · obtain ⟨g', o', e', hg⟩ := h.at_ j (List.getElem?_eq_some_iff.1 hr).1
    rw [e] at e'
    simp only [Option.some.injEq, Addr.mk.injEq] at e'
    obtain ⟨rfl, rfl, _⟩ := e'
    obtain ⟨h0, h1, h2⟩ := h.cells g o j r e hr
    exact ⟨(hb.cell (p := ⟨g, o + j * 3, none⟩) hg).trans h0, (hb.cell (p := ⟨g, o + j * 3 + 1, none⟩) hg).trans h1, (hb.cell (p := ⟨g, o + j * 3 + 2, none⟩) hg).trans h2⟩
theorem Row.drew {lo : Nat} {W : World} {sv : Option Addr} {rs : List RV} (h : Row lo W sv rs) : Row lo W.drew sv rs := ⟨h.at_, h.cells, fun j r hr => (h.held j r hr).drew⟩
def RowOff (k : Nat) (sv : Option Addr) (rs : List RV) : Prop := rs ≠ [] → ∀ g o, sv = some ⟨g, o, none⟩ → g ≠ k
theorem Row.beside {lo : Nat} {W W' : World} {sv : Option Addr} {rs : List RV} {k : Nat} {cs : Array Value} {t : TypeId} (h : Row lo W sv rs) (hk : Box W k (.cells cs t (0, 0))) (hs : NoWord cs) (ht : Turns k W W') (hoff : RowOff k sv rs) : Row lo W' sv rs := by
  refine ⟨fun j hj => ?_, fun g o j r e hr => ?_, fun j r hr => (h.held j r hr).beside hk hs ht⟩
  · obtain ⟨g, o, e, hg⟩ := h.at_ j hj
    exact ⟨g, o, e, Nat.lt_of_lt_of_le hg ht.below.size⟩
  · obtain ⟨g', o', e', hg⟩ := h.at_ j (List.getElem?_eq_some_iff.1 hr).1
    rw [e] at e'
    simp only [Option.some.injEq, Addr.mk.injEq] at e'
    obtain ⟨rfl, rfl, _⟩ := e'
    obtain ⟨h0, h1, h2⟩ := h.cells g o j r e hr
    have hb := ht.other g (hoff (by rintro rfl; simp at hr) g o e) hg
    exact ⟨(World.cell?_of_block (a := ⟨g, o + j * 3, none⟩) hb).trans h0, (World.cell?_of_block (a := ⟨g, o + j * 3 + 1, none⟩) hb).trans h1, (World.cell?_of_block (a := ⟨g, o + j * 3 + 2, none⟩) hb).trans h2⟩
def RV.q (r : RV) : Rat := ratL r.b r.xs r.ds
def RV.good (r : RV) : Prop := formR r.b r.xs r.ds = 0
def opFold (op : Rat → Rat → Option Rat) : Rat → List RV → Option Rat
  | q, [] => some q
  | q, r :: rs => match op q r.q with | some t => opFold op t rs | none => none
theorem opFold_drop {op : Rat → Rat → Option Rat} {q : Rat} {rs : List RV} {i : Nat} {r : RV} (h : rs[i]? = some r) : opFold op q (rs.drop i) = match op q r.q with | some t => opFold op t (rs.drop (i + 1)) | none => none := by
  obtain ⟨hi, e⟩ := List.getElem?_eq_some_iff.1 h
  rw [List.drop_eq_getElem_cons hi, e]
  rfl
def AllGood (b : Bool) (xs ds : List Int) (rs : List RV) : Prop := formR b xs ds = 0 ∧ ∀ r ∈ rs, formR r.b r.xs r.ds = 0
def KeptIs (b : Bool) (xs ds : List Int) (rs : List RV) (x : Int) : Prop := (AllGood b xs ds rs ∧ x = 0) ∨ (¬ AllGood b xs ds rs ∧ x = 6)
def FoldAt (op : Rat → Rat → Option Rat) (w : World) (b : Bool) (a : Option Addr) (ca : Nat) (xs : List Int) (c : Option Addr) (cc : Nat) (ds : List Int) (rs : List RV) (n m i : Nat) (y : Int) (b1 : Bool) (a1 : Option Addr) (n1 : Nat) (x1 : List Int) (e1 : Option Addr) (m1 : Nat) (y1 : List Int) (W : World) : Prop :=
  (AllGood b xs ds rs ∧ y = 0 ∧ ∃ q1, Is b1 x1 y1 q1 (n + i * (m + 1)) ∧ Fr 0 W a1 n1 x1 e1 m1 y1 ∧ opFold op q1 (rs.drop i) = opFold op (ratL b xs ds) rs ∧ ((i = 0 ∧ b1 = b ∧ a1 = a ∧ n1 = ca ∧ x1 = xs ∧ e1 = c ∧ m1 = cc ∧ y1 = ds) ∨ (0 < i ∧ Fr w.heap.size W a1 n1 x1 e1 m1 y1 ∧ Apart a1 e1 x1 y1)))
  ∨ (AllGood b xs ds rs ∧ y = 5 ∧ opFold op (ratL b xs ds) rs = none)
  ∨ (¬ AllGood b xs ds rs ∧ y = 6)
def FoldSaid (op : Rat → Rat → Option Rat) (w : World) (b : Bool) (a : Option Addr) (ca : Nat) (xs : List Int) (c : Option Addr) (cc : Nat) (ds : List Int) (rs : List RV) (N : Nat) (e : Ending) (w' : World) : Prop :=
  (AllGood b xs ds rs ∧ ∃ t, opFold op (ratL b xs ds) rs = some t ∧ ∃ (b' : Bool) (a' : Option Addr) (ca' : Nat) (ts : List Int) (c' : Option Addr) (cc' : Nat) (es : List Int), e = .returned (.tuple #[.agg #[.bool b', .slice a' ts.length ca', .slice c' es.length cc'], .int .i64 0]) ∧ Is b' ts es t N ∧ ((rs = [] ∧ b' = b ∧ a' = a ∧ ca' = ca ∧ ts = xs ∧ c' = c ∧ cc' = cc ∧ es = ds) ∨ (Fr w.heap.size w' a' ca' ts c' cc' es ∧ Apart a' c' ts es)))
  ∨ (AllGood b xs ds rs ∧ opFold op (ratL b xs ds) rs = none ∧ e = .returned (.tuple #[.agg #[.bool false, .slice none 0 0, .slice none 0 0], .int .i64 5]))
  ∨ (¬ AllGood b xs ds rs ∧ e = .returned (.tuple #[.agg #[.bool false, .slice none 0 0, .slice none 0 0], .int .i64 6]))
section
variable {op : Rat → Rat → Option Rat} {w : World} {b : Bool} {a : Option Addr} {ca : Nat} {xs : List Int} {c : Option Addr} {cc : Nat} {ds : List Int} {rs : List RV} {n m i : Nat} {y : Int} {b1 : Bool} {a1 : Option Addr} {n1 : Nat} {x1 : List Int} {e1 : Option Addr} {m1 : Nat} {y1 : List Int} {W : World}
theorem FoldAt.start {lo : Nat} {x : Int} (hI : formR b xs ds = 0 → Is b xs ds (ratL b xs ds) n) (FA : Fr lo W a ca xs c cc ds) (HX : KeptIs b xs ds rs x) : FoldAt op w b a ca xs c cc ds rs n m 0 x b a ca xs c cc ds W := by
  rcases HX with ⟨h, rfl⟩ | ⟨h, rfl⟩
  · exact Or.inl ⟨h, rfl, _, (hI h.1).mono (by omega), FA.mono (Nat.zero_le _), rfl, Or.inl ⟨rfl, rfl, rfl, rfl, rfl, rfl, rfl, rfl⟩⟩
  · exact Or.inr (Or.inr ⟨h, rfl⟩)
structure FoldMid (op : Rat → Rat → Option Rat) (b : Bool) (xs ds : List Int) (rs : List RV) (i : Nat) (q1 : Rat) : Prop where
  good : AllGood b xs ds rs
  eq : opFold op q1 (rs.drop i) = opFold op (ratL b xs ds) rs
theorem FoldAt.go (h : FoldAt op w b a ca xs c cc ds rs n m i y b1 a1 n1 x1 e1 m1 y1 W) (hy : y = 0) : ∃ q1, Is b1 x1 y1 q1 (n + i * (m + 1)) ∧ Fr 0 W a1 n1 x1 e1 m1 y1 ∧ FoldMid op b xs ds rs i q1 := by
  rcases h with ⟨hg, _, q1, hi, hf, he, _⟩ | ⟨_, h5, _⟩ | ⟨_, h6⟩
  · exact ⟨q1, hi, hf, hg, he⟩
  · omega
  · omega
theorem FoldAt.next {q1 t : Rat} {r : RV} {g2 : Bool} {a2 : Option Addr} {c2 : Nat} {x2 : List Int} {e2 : Option Addr} {t2 : Nat} {y2 : List Int} (HM : FoldMid op b xs ds rs i q1) (hr : rs[i]? = some r) (hu : op q1 r.q = some t) (F : Fr w.heap.size W a2 c2 x2 e2 t2 y2) (P : Apart a2 e2 x2 y2) (I : Is g2 x2 y2 t (n + i * (m + 1) + m + 1)) : FoldAt op w b a ca xs c cc ds rs n m (i + 1) 0 g2 a2 c2 x2 e2 t2 y2 W := by
  refine Or.inl ⟨HM.good, rfl, t, I.mono ?_, F.mono (Nat.zero_le _), ?_, Or.inr ⟨by omega, F, P⟩⟩
  · rw [Nat.add_mul, Nat.one_mul]; omega
  · rw [← HM.eq, opFold_drop hr, hu]
theorem FoldAt.stop {q1 : Rat} {r : RV} {g2 : Bool} {a2 : Option Addr} {c2 : Nat} {x2 : List Int} {e2 : Option Addr} {t2 : Nat} {y2 : List Int} (HM : FoldMid op b xs ds rs i q1) (hr : rs[i]? = some r) (hu : op q1 r.q = none) : FoldAt op w b a ca xs c cc ds rs n m (i + 1) 5 g2 a2 c2 x2 e2 t2 y2 W := by
  refine Or.inr (Or.inl ⟨HM.good, rfl, ?_⟩)
  rw [← HM.eq, opFold_drop hr, hu]
structure FoldFin (op : Rat → Rat → Option Rat) (w : World) (b : Bool) (a : Option Addr) (ca : Nat) (xs : List Int) (c : Option Addr) (cc : Nat) (ds : List Int) (rs : List RV) (N i : Nat) (y : Int) (b1 : Bool) (a1 : Option Addr) (n1 : Nat) (x1 : List Int) (e1 : Option Addr) (m1 : Nat) (y1 : List Int) (W : World) : Prop where
  atEnd : y = 0 → i = rs.length
  ok : y = 0 → AllGood b xs ds rs ∧ ∃ t, opFold op (ratL b xs ds) rs = some t ∧ Is b1 x1 y1 t N ∧ ((rs = [] ∧ b1 = b ∧ a1 = a ∧ n1 = ca ∧ x1 = xs ∧ e1 = c ∧ m1 = cc ∧ y1 = ds) ∨ (Fr w.heap.size W a1 n1 x1 e1 m1 y1 ∧ Apart a1 e1 x1 y1))
  no : y ≠ 0 → (AllGood b xs ds rs ∧ y = 5 ∧ opFold op (ratL b xs ds) rs = none) ∨ (¬ AllGood b xs ds rs ∧ y = 6)
end
end Go.Proofs.YtfcpaejeppedoaaDoor
namespace Go.Proofs.YtfcpaejeppedoaaDoor
open Go.RowKit
open Go.RowKit
open Go.RowKit
open Go.RowKit
end Go.Proofs.YtfcpaejeppedoaaDoor
namespace Go.Proofs.YtfcpaejeppedoaaDoor
open Go.RowKit
def opAdd (q s : Rat) : Option Rat := some (q + s)
def opMul (q s : Rat) : Option Rat := some (q * s)
def opSub (q s : Rat) : Option Rat := some (q - s)
def opDiv (q s : Rat) : Option Rat := if s = 0 then none else some (q / s)
def sumQ (rs : List RV) : Rat := rs.foldl (fun q r => q + r.q) 0
def mulQ (rs : List RV) : Rat := rs.foldl (fun q r => q * r.q) 1
theorem FoldSaid.zero {op : Rat → Rat → Option Rat} {w w' : World} {b : Bool} {a : Option Addr} {ca : Nat} {xs : List Int} {c : Option Addr} {cc : Nat} {ds : List Int} {rs : List RV} {N : Nat} {e : Ending} (h : FoldSaid op w b a ca xs c cc ds rs N e w') (hg : AllGood b xs ds rs) (ht : opFold op (ratL b xs ds) rs = none) : e = .returned (.tuple #[.agg #[.bool false, .slice none 0 0, .slice none 0 0], .int .i64 5]) := by
  rcases h with ⟨_, t', ht', _⟩ | ⟨_, _, he⟩ | ⟨hn, _⟩
  · rw [ht] at ht'; cases ht'
  · exact he
  · exact absurd hg hn
theorem Is.good {b : Bool} {xs ds : List Int} {q : Rat} {n : Nat} (h : Is b xs ds q n) (wx : Words xs) (wd : Words ds) : formR b xs ds = 0 := (formR_low wx wd).2 h.low
def RV.cells (r : RV) : List Value := [.bool r.b, .slice r.a r.xs.length r.ca, .slice r.c r.ds.length r.cc]
end Go.Proofs.YtfcpaejeppedoaaDoor
namespace Go.Proofs.YtfcpaejeppedoaaDoor
open Go.RowKit
open Go.RowKit
open Go.RowKit
open Go.RowKit
end Go.Proofs.YtfcpaejeppedoaaDoor
namespace Go.Proofs.YtfcpaejeppedoaaDoor
open Go.RowKit
def wordsB (zs : List Int) : Bool := zs.all fun z => decide (0 ≤ z) && decide (z < 18446744073709551616)
theorem Seg.alloc {lo : Nat} {W : World} {sv : Value} {zs : List Int} (h : Seg lo W sv zs) (o : Obj) : Seg lo (W.alloc o) sv zs := h.below ((Below.refl _ _).alloc (Nat.le_refl _) o)
end Go.Proofs.YtfcpaejeppedoaaDoor
namespace Go.Proofs.YtfcpaejeppedoaaDoor
open Go.RowKit
open Go.RowKit
open Go.RowKit
open Go.RowKit
end Go.Proofs.YtfcpaejeppedoaaDoor
namespace Go.Proofs.YtfcpaejeppedoaaDoor
open Go.RowKit
theorem samew_any {lo lo' : Nat} {a c : Option Addr} {ca cc : Nat} {xs ys : List Int} {w : World} (b d : Bool) (h : Seg lo w (.slice a xs.length ca) xs) (h' : Seg lo' w (.slice c ys.length cc) ys) (hl : xs.length ≤ 10000) :
    Calls Tryd.prog 42 #[.agg #[.bool b, .slice a xs.length ca], .agg #[.bool d, .slice c ys.length cc]] w fun e w' => e = .returned (.bool (decide (b = d ∧ xs = ys))) ∧ Below w.heap.size w w' := by
  by_cases hh : b = d ∧ xs = ys
  · obtain ⟨rfl, rfl⟩ := hh
    rw [decide_eq_true ⟨rfl, rfl⟩]
    exact samew_yes b h h' hl
  · rw [decide_eq_false hh]
    exact samew_no b d h h' hl hh
theorem samen_any {lo lo' : Nat} {a c : Option Addr} {ca cc : Nat} {xs ys : List Int} {w : World} (h : Seg lo w (.slice a xs.length ca) xs) (h' : Seg lo' w (.slice c ys.length cc) ys) (hl : xs.length ≤ 10000) :
    Calls Tryd.prog 13 #[.slice a xs.length ca, .slice c ys.length cc] w fun e w' => e = .returned (.bool (decide (xs = ys))) ∧ Below w.heap.size w w' := by
  by_cases hh : xs = ys
  · subst hh
    rw [decide_eq_true rfl]
    exact same_yes h h' (by omega)
  · rw [decide_eq_false hh]
    exact same_no h h' (by omega) hh
set_option maxRecDepth 100000 in
set_option maxHeartbeats 4000000 in
theorem samer_any {lo lo2 : Nat} {a c p r : Option Addr} {ca cc cp cr : Nat} {xs ds ys es : List Int} {w : World} (b g : Bool) (FA : Fr lo w a ca xs c cc ds) (FB : Fr lo2 w p cp ys r cr es) (hl : xs.length ≤ 1000) (hl2 : ds.length ≤ 1000) :
    Calls Tryd.prog 23 #[.agg #[.bool b, .slice a xs.length ca, .slice c ds.length cc], .agg #[.bool g, .slice p ys.length cp, .slice r es.length cr]] w fun e w' => e = .returned (.bool (decide (b = g ∧ xs = ys ∧ ds = es))) ∧ Below w.heap.size w w' := by
  have hB := Below.refl w.heap.size w
  by_cases h1 : b = g ∧ xs = ys
  · have HW : Hid (decide (b = g ∧ xs = ys) = true) := decide_eq_true h1
    have hv : decide (b = g ∧ xs = ys ∧ ds = es) = decide (ds = es) := decide_eq_decide.2 ⟨fun h => h.2.2, fun h => ⟨h1.1, h1.2, h⟩⟩
    rw [hv]
    obtain ⟨v, hd⟩ : ∃ v, decide (ds = es) = v := ⟨_, rfl⟩
    rw [hd]
    have HD := hide hd
    clear hd hv h1
    go_enter Tryd.func23, Tryd.ntmps23
    have hA := Below.refl w.heap.size w
    have hq := below_new w (.cells #[.bool b, .slice a xs.length ca, .slice c ds.length cc] 31)
    replace FA := FA.below hq
    replace FB := FB.below hq
    have EA := Box.put (w := w) (k := (w.heap.size)) (.cells #[.bool b, .slice a xs.length ca, .slice c ds.length cc] 31) rfl
    replace hA := hA.trans (hq.mono hA.size)
    replace hB := hB.trans (hq.mono hB.size)
    clear hq
    have hq := below_new (w.alloc (.cells #[.bool b, .slice a xs.length ca, .slice c ds.length cc] 31)) (.cells #[.bool g, .slice p ys.length cp, .slice r es.length cr] 31)
    replace FA := FA.below hq
    replace FB := FB.below hq
    replace EA := EA.below hq
    have EB := Box.put (w := (w.alloc (.cells #[.bool b, .slice a xs.length ca, .slice c ds.length cc] 31))) (k := (w.heap.size + 1)) (.cells #[.bool g, .slice p ys.length cp, .slice r es.length cr] 31) (by simp)
    replace hA := hA.trans (hq.mono hA.size)
    replace hB := hB.trans (hq.mono hB.size)
    clear hq
    clear hA
    go_wp2_with fail
    obtain ⟨u1, hname⟩ := nm hB
    rw [hname] at hB FA FB EA EB ⊢
    have zh1 := hB.size
    clear hname
    have hk := samew_any b g FA.up FB.up (by omega)
    rw [HW.out] at hk
    refine (hk).mono ?_
    rintro e w2 ⟨rfl, hb⟩
    replace FA := FA.below hb
    replace FB := FB.below hb
    replace EA := EA.below hb
    replace EB := EB.below hb
    replace hB := hB.trans (hb.mono hB.size)
    have zz2 := hb.size
    have zh2 := hB.size
    clear hb
    clear hk
    obtain ⟨k0, k1, k2, f0, f1, f2⟩ := EA.three
    obtain ⟨k3, k4, k5, f3, f4, f5⟩ := EB.three
    go_wp2_with fail
    clear k0 k1 k2 f0 f1 f2 k3 k4 k5 f3 f4 f5
    have hk := samen_any FA.down FB.down (by omega)
    rw [HD.out] at hk
    refine (hk).mono ?_
    rintro e w3 ⟨rfl, hb⟩
    replace FA := FA.below hb
    replace FB := FB.below hb
    replace EA := EA.below hb
    replace EB := EB.below hb
    replace hB := hB.trans (hb.mono hB.size)
    have zz3 := hb.size
    have zh3 := hB.size
    clear hb
    clear hk
    obtain ⟨k0, k1, k2, f0, f1, f2⟩ := EA.three
    obtain ⟨k3, k4, k5, f3, f4, f5⟩ := EB.three
    go_wp2
    go_ret
    exact ⟨rfl, hB⟩
  · have HW : Hid (decide (b = g ∧ xs = ys) = false) := decide_eq_false h1
    rw [decide_eq_false (fun h => h1 ⟨h.1, h.2.1⟩)]
    clear h1
    go_enter Tryd.func23, Tryd.ntmps23
    have hA := Below.refl w.heap.size w
    have hq := below_new w (.cells #[.bool b, .slice a xs.length ca, .slice c ds.length cc] 31)
    replace FA := FA.below hq
    replace FB := FB.below hq
    have EA := Box.put (w := w) (k := (w.heap.size)) (.cells #[.bool b, .slice a xs.length ca, .slice c ds.length cc] 31) rfl
    replace hA := hA.trans (hq.mono hA.size)
    replace hB := hB.trans (hq.mono hB.size)
    clear hq
    have hq := below_new (w.alloc (.cells #[.bool b, .slice a xs.length ca, .slice c ds.length cc] 31)) (.cells #[.bool g, .slice p ys.length cp, .slice r es.length cr] 31)
    replace FA := FA.below hq
    replace FB := FB.below hq
    replace EA := EA.below hq
    have EB := Box.put (w := (w.alloc (.cells #[.bool b, .slice a xs.length ca, .slice c ds.length cc] 31))) (k := (w.heap.size + 1)) (.cells #[.bool g, .slice p ys.length cp, .slice r es.length cr] 31) (by simp)
    replace hA := hA.trans (hq.mono hA.size)
    replace hB := hB.trans (hq.mono hB.size)
    clear hq
    clear hA
    go_wp2_with fail
    obtain ⟨u1, hname⟩ := nm hB
    rw [hname] at hB FA FB EA EB ⊢
    have zh1 := hB.size
    clear hname
    have hk := samew_any b g FA.up FB.up (by omega)
    rw [HW.out] at hk
    refine (hk).mono ?_
    rintro e w2 ⟨rfl, hb⟩
    replace FA := FA.below hb
    replace FB := FB.below hb
    replace EA := EA.below hb
    replace EB := EB.below hb
    replace hB := hB.trans (hb.mono hB.size)
    have zz2 := hb.size
    have zh2 := hB.size
    clear hb
    clear hk
    obtain ⟨k0, k1, k2, f0, f1, f2⟩ := EA.three
    obtain ⟨k3, k4, k5, f3, f4, f5⟩ := EB.three
    go_wp2
    go_ret
    exact ⟨rfl, hB⟩
theorem samer_yes {lo lo2 : Nat} {a c p r : Option Addr} {ca cc cp cr : Nat} {xs ds : List Int} {w : World} (b : Bool) (FA : Fr lo w a ca xs c cc ds) (FB : Fr lo2 w p cp xs r cr ds) (hl : xs.length ≤ 1000) (hl2 : ds.length ≤ 1000) :
    Calls Tryd.prog 23 #[.agg #[.bool b, .slice a xs.length ca, .slice c ds.length cc], .agg #[.bool b, .slice p xs.length cp, .slice r ds.length cr]] w fun e w' => e = .returned (.bool true) ∧ Below w.heap.size w w' := by
  have h := samer_any b b FA FB hl hl2
  rw [decide_eq_true ⟨rfl, rfl, rfl⟩] at h
  exact h
theorem samer_is {lo lo2 : Nat} {a c p r : Option Addr} {ca cc cp cr : Nat} {xs ds ys es : List Int} {w : World} {b g : Bool} {q : Rat} {n m : Nat} (FA : Fr lo w a ca xs c cc ds) (FB : Fr lo2 w p cp ys r cr es) (IA : Is b xs ds q n) (IB : Is g ys es q m) (hn : n ≤ 1000) :
    Calls Tryd.prog 23 #[.agg #[.bool b, .slice a xs.length ca, .slice c ds.length cc], .agg #[.bool g, .slice p ys.length cp, .slice r es.length cr]] w fun e w' => e = .returned (.bool true) ∧ Below w.heap.size w w' := by
  have h := samer_any b g FA FB (Nat.le_trans IA.lu hn) (Nat.le_trans IA.ld hn)
  rw [decide_eq_true (lowL_unique FA.up.words FA.down.words FB.up.words FB.down.words IA.low IB.low (IA.rat.trans IB.rat.symm))] at h
  exact h
set_option maxRecDepth 100000 in
set_option maxHeartbeats 4000000 in
theorem longr_any (b : Bool) (a : Option Addr) (xs : List Int) (ca : Nat) (c : Option Addr) (ds : List Int) (cc : Nat) (most : Int) (w : World) :
    Calls Tryd.prog 21 #[.agg #[.bool b, .slice a xs.length ca, .slice c ds.length cc], .int .i64 most] w fun e w' => e = .returned (.bool (decide (most < (xs.length : Int) ∨ most < (ds.length : Int)))) ∧ Below w.heap.size w w' := by
  have hB0 : Below w.heap.size w (w.alloc (.cells #[.bool b, .slice a xs.length ca, .slice c ds.length cc] 31)) := (Below.refl _ w).alloc (Nat.le_refl _) _
  by_cases h1 : most < (xs.length : Int)
  · rw [decide_eq_true (Or.inl h1)]
    go_enter Tryd.func21, Tryd.ntmps21
    go_wp2
    go_ret
    exact ⟨rfl, hB0⟩
  · by_cases h2 : most < (ds.length : Int)
    · rw [decide_eq_true (Or.inr h2)]
      go_enter Tryd.func21, Tryd.ntmps21
      go_wp2
      go_ret
      exact ⟨rfl, hB0⟩
    · rw [decide_eq_false (by rintro (h | h) <;> contradiction)]
      go_enter Tryd.func21, Tryd.ntmps21
      go_wp2
      go_ret
      exact ⟨rfl, hB0⟩
def BoxesStay (w w' : World) : Prop := ∀ (k : Nat) (cs : Array Value) (t : TypeId), NoWord cs → Box w k (.cells cs t (0, 0)) → Box w' k (.cells cs t (0, 0))
def OfSaid (x d : Int) (w : World) (e : Ending) (w' : World) : Prop := ∃ (g : Bool) (a : Option Addr) (ca : Nat) (xs : List Int) (c : Option Addr) (cc : Nat) (ds : List Int), e = .returned (.agg #[.bool g, .slice a xs.length ca, .slice c ds.length cc]) ∧ Fr w.heap.size w' a ca xs c cc ds ∧ Apart a c xs ds ∧ Canon g xs ∧ Norm ds ∧ Hid (sgn g (val xs) = x) ∧ Hid (val ds = d) ∧ xs.length ≤ 1 ∧ ds.length ≤ 1 ∧ Below w.heap.size w w'
structure GoodIs (v : Bool) (rs : List RV) : Prop where
  out : v = true ↔ ∀ r ∈ rs, formR r.b r.xs r.ds = 0
def longB (r : RV) : Bool := decide ((5 : Int) < (r.xs.length : Int) ∨ (5 : Int) < (r.ds.length : Int))
structure LongIs (v : Bool) (rs : List RV) : Prop where
  out : v = true ↔ 6 < rs.length ∨ ∃ r ∈ rs.take 7, longB r = true
end Go.Proofs.YtfcpaejeppedoaaDoor
namespace Go.Proofs.YtfcpaejeppedoaaDoor
open Go.RowKit
end Go.Proofs.YtfcpaejeppedoaaDoor
namespace Go.Proofs.YtfcpaejeppedoaaDoor
open Go.RowKit
def textZ (b : Bool) (u d : Int) : List Int := (if b then [45] else []) ++ decI u ++ (if d = 1 then [] else 47 :: decI d)
theorem decI_len {v : Int} {n : Nat} (h0 : 0 ≤ v) (h : v < pw n) : (decI v).length ≤ 20 * n + 1 := by
  rcases Int.lt_or_eq_of_le h0 with h1 | h1
  · rw [decI_pos h1]
    have := decP_len h
    omega
  · rw [← h1, decI_zero]
    simp
theorem decI_dig (v : Int) : ∀ z ∈ decI v, 48 ≤ z ∧ z ≤ 57 := by
  intro z hz
  obtain ⟨b, hb, rfl⟩ := List.mem_map.1 hz
  have := of_decide_eq_true (dec_dig v.toNat b hb)
  omega
theorem decI_ne (v : Int) : decI v ≠ [] := fun h => dec_ne_nil v.toNat (List.map_eq_nil_iff.1 h)
def restZ (u d : Int) : List Int := decI u ++ (if d = 1 then [] else 47 :: decI d)
theorem textZ_rest (b : Bool) (u d : Int) : textZ b u d = (if b then [45] else []) ++ restZ u d := by
  rw [textZ, restZ, List.append_assoc]
theorem textZ_octs (b : Bool) (u d : Int) : Octs (textZ b u d) := by
  have h0 : ∀ v, Octs (decI v) := decI_octs
  unfold textZ
  refine Octs.append (Octs.append ?_ (h0 u)) ?_
  · cases b
    · exact Octs.nil
    · exact Octs.cons (by decide) Octs.nil
  · split
    · exact Octs.nil
    · exact Octs.cons (by decide) (h0 d)
theorem rest_head (u d : Int) : (restZ u d).head? ≠ some 45 := by
  unfold restZ
  have h := decI_dig u
  cases hx : decI u with
  | nil => exact absurd hx (decI_ne u)
  | cons z zs =>
    rw [hx] at h
    have := h z (List.mem_cons_self ..)
    simp
    omega
structure Stroke (l : List Int) (k : Nat) : Prop where
  le : k ≤ l.length
  no : ∀ j, j < k → l[j]?.getD 0 ≠ 47
  at_ : k = l.length ∨ l[k]?.getD 0 = 47
theorem Stroke.unique {l : List Int} {k m : Nat} (h : Stroke l k) (h' : Stroke l m) : k = m := by
  rcases Nat.lt_trichotomy k m with hlt | rfl | hlt
  · rcases h.at_ with e | e
    · have := h'.le; omega
    · exact absurd e (h'.no k hlt)
  · rfl
  · rcases h'.at_ with e | e
    · have := h.le; omega
    · exact absurd e (h.no m hlt)
theorem stroke_rest (u d : Int) : Stroke (restZ u d) (decI u).length := by
  unfold restZ
  refine ⟨by simp, fun j hj => ?_, ?_⟩
  · rw [List.getElem?_append_left hj, List.getElem?_eq_getElem hj]
    have := decI_dig u _ (List.getElem_mem hj)
    simp only [Option.getD_some]
    omega
  · by_cases h : d = 1
    · left; rw [if_pos h]; simp
    · right
      rw [if_neg h, List.getElem?_append_right (Nat.le_refl _)]
      simp
theorem rest_take (u d : Int) : (restZ u d).take (decI u).length = decI u := by rw [restZ, List.take_left]
theorem rest_drop {u d : Int} (h : d ≠ 1) : (restZ u d).drop ((decI u).length + 1) = decI d := by
  rw [restZ, if_neg h, List.drop_append]
  simp
theorem rest_short {u d : Int} : (decI u).length < (restZ u d).length ↔ d ≠ 1 := by
  unfold restZ
  by_cases h : d = 1
  · rw [if_pos h]; simp [h]
  · rw [if_neg h]; simp [h]
theorem textZ_inj {b c : Bool} {u d v e : Int} (hu : 0 ≤ u) (hd : 0 ≤ d) (hv : 0 ≤ v) (he : 0 ≤ e) (h : textZ b u d = textZ c v e) : b = c ∧ u = v ∧ d = e := by
  rw [textZ_rest, textZ_rest] at h
  have hb : b = c ∧ restZ u d = restZ v e := by
    cases b <;> cases c
    · exact ⟨rfl, by simpa using h⟩
    · exact absurd (by rw [show restZ u d = 45 :: restZ v e by simpa using h]; rfl) (rest_head u d)
    · exact absurd (by rw [← show 45 :: restZ u d = restZ v e by simpa using h]; rfl) (rest_head v e)
    · exact ⟨rfl, by simpa using h⟩
  obtain ⟨h1, h2⟩ := hb
  have hk : (decI u).length = (decI v).length := (stroke_rest u d).unique (h2 ▸ stroke_rest v e)
  have hu2 : decI u = decI v := by rw [← rest_take u d, ← rest_take v e, h2, hk]
  refine ⟨h1, decI_inj hu hv hu2, ?_⟩
  by_cases h3 : d = 1
  · by_cases h4 : e = 1
    · rw [h3, h4]
    · have := (rest_short (u := v) (d := e)).2 h4
      have h5 := fun h => (rest_short (u := u) (d := d)).1 h h3
      rw [hk, h2] at h5
      exact absurd this h5
  · have h5 := (rest_short (u := u) (d := d)).2 h3
    rw [hk, h2] at h5
    have h4 := (rest_short (u := v) (d := e)).1 h5
    have h6 := rest_drop (u := u) h3
    rw [h2, hk, rest_drop h4] at h6
    exact decI_inj hd he h6.symm
inductive ReadIs (bs : List Int) : Bool → List Int → List Int → Int → Int → Prop where
  | ok {b : Bool} {xs ds : List Int} (low : LowL b xs ds) (ht : textZ b (val xs) (val ds) = bs) (hl : bs.length ≤ 10000) : ReadIs bs b xs ds 0 0
  | long (h : 10000 < bs.length) : ReadIs bs false [] [] 4 10000
  | bad (h : bs.length ≤ 10000) (hn : ∀ (b : Bool) (xs ds : List Int), Words xs → Words ds → LowL b xs ds → textZ b (val xs) (val ds) ≠ bs) : ReadIs bs false [] [] 6 0
theorem ReadIs.unique {bs : List Int} {b c : Bool} {xs ds ys es : List Int} {e p e' p' : Int} (h : ReadIs bs b xs ds e p) (k : ReadIs bs c ys es e' p') (w1 : Words xs) (w2 : Words ds) (w3 : Words ys) (w4 : Words es) : b = c ∧ xs = ys ∧ ds = es ∧ e = e' ∧ p = p' := by
  cases h with
  | ok low ht hl =>
    cases k with
    | ok low' ht' _ =>
      obtain ⟨e1, e2, e3⟩ := textZ_inj (val_nonneg w1) (val_nonneg w2) (val_nonneg w3) (val_nonneg w4) (ht.trans ht'.symm)
      obtain ⟨_, r2⟩ := canon_unique w1 w3 low.1 low'.1 (by rw [e1, e2])
      exact ⟨e1, r2, norm_unique w2 w4 low.2.1 low'.2.1 e3, rfl, rfl⟩
    | long h => omega
    | bad _ hn => exact absurd ht (hn _ _ _ w1 w2 low)
  | long h =>
    cases k with
    | ok _ _ hl => omega
    | long _ => exact ⟨rfl, rfl, rfl, rfl, rfl⟩
    | bad h' _ => omega
  | bad h hn =>
    cases k with
    | ok low ht _ => exact absurd ht (hn _ _ _ w3 w4 low)
    | long h' => omega
    | bad _ _ => exact ⟨rfl, rfl, rfl, rfl, rfl⟩
structure Parsed (bs : List Int) (bl : Bool) (R : List Int) (k : Nat) : Prop where
  eq : bs = (if bl then [45] else []) ++ R
  no : bl = false → bs.head? ≠ some 45
  st : Stroke R k
theorem Parsed.of_text {bs R : List Int} {bl : Bool} {k : Nat} (h : Parsed bs bl R k) {b : Bool} {u d : Int} (ht : textZ b u d = bs) : b = bl ∧ R = restZ u d ∧ k = (decI u).length := by
  have e := h.eq
  rw [← ht, textZ_rest] at e
  have hb : b = bl ∧ R = restZ u d := by
    cases b <;> cases bl
    · exact ⟨rfl, by simpa using e.symm⟩
    · exact absurd (by rw [show restZ u d = 45 :: R by simpa using e]; rfl) (rest_head u d)
    · exact absurd (by rw [← ht, textZ_rest]; rfl) (h.no rfl)
    · exact ⟨rfl, by simpa using e.symm⟩
  exact ⟨hb.1, hb.2, h.st.unique (hb.2 ▸ stroke_rest u d)⟩
theorem Parsed.len {bs R : List Int} {bl : Bool} {k : Nat} (h : Parsed bs bl R k) : R.length ≤ bs.length := by
  rw [h.eq, List.length_append]
  omega
theorem Parsed.up {bs R : List Int} {bl : Bool} {k : Nat} (h : Parsed bs bl R k) (hl : bs.length ≤ 10000) {b : Bool} {u d : Int} (hu : 0 ≤ u) (ht : textZ b u d = bs) : getZ (R.take k) = .ok u := by
  obtain ⟨_, hR, hk⟩ := h.of_text ht
  have hlen := h.len
  subst hk
  subst hR
  rw [rest_take]
  refine getZ_dec hu ?_
  have : (decI u).length ≤ (restZ u d).length := (stroke_rest u d).le
  omega
theorem Parsed.down {bs R : List Int} {bl : Bool} {k : Nat} (h : Parsed bs bl R k) (hl : bs.length ≤ 10000) {b : Bool} {u d : Int} (hd : 0 ≤ d) (h1 : d ≠ 1) (ht : textZ b u d = bs) : getZ (R.drop (k + 1)) = .ok d := by
  obtain ⟨_, hR, hk⟩ := h.of_text ht
  have hlen := h.len
  subst hk
  subst hR
  have e := rest_drop (u := u) h1
  rw [e]
  refine getZ_dec hd ?_
  have : (decI d).length ≤ (restZ u d).length := by rw [← e, List.length_drop]; omega
  omega
def DownIs (R : List Int) (k : Nat) (d : Int) : Prop := (k < R.length ∧ getZ (R.drop (k + 1)) = .ok d) ∨ (¬ k < R.length ∧ d = 1)
theorem getZ_code {bs : List Int} {e p : Int} (h : getZ bs = .error (e, p)) : e ≠ 0 := by
  unfold getZ at h
  split at h
  · injection h with h; injection h with h1 h2; omega
  · split at h
    · injection h with h; injection h with h1 h2; omega
    · split at h
      · injection h with h; injection h with h1 h2; omega
      · cases h
theorem GetIs.parts {bs zs : List Int} {e p : Int} (h : GetIs (getZ bs) zs e p) : (e ≠ 0 ∧ ∃ x, getZ bs = .error x) ∨ (e = 0 ∧ p = 0 ∧ Norm zs ∧ getZ bs = .ok (val zs)) := by
  generalize hg : getZ bs = G at h
  cases h with
  | ok hn hv => exact Or.inr ⟨rfl, rfl, hn, by rw [hv]⟩
  | err e p => exact Or.inl ⟨getZ_code hg, _, rfl⟩
def ReadSaid (bs : List Int) (w : World) (e : Ending) (w' : World) : Prop :=
  ∃ (b : Bool) (a : Option Addr) (ca : Nat) (xs : List Int) (c : Option Addr) (cc : Nat) (ds : List Int) (er p : Int), e = .returned (.tuple #[.agg #[.bool b, .slice a xs.length ca, .slice c ds.length cc], .agg #[.int .i64 er, .int .i64 p]]) ∧ Fr w.heap.size w' a ca xs c cc ds ∧ ReadIs bs b xs ds er p ∧ Below w.heap.size w w'
end Go.Proofs.YtfcpaejeppedoaaDoor
