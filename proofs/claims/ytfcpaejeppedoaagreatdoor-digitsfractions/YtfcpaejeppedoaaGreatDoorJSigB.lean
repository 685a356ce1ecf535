/-
  Joined: SigB SigC SigD SignedC RatK RatA RatY RatP RatF RatG RatH RatB RatC RatD RatO RatE RatI RatJ RatL RatM RPower Lits RatN RatNn SLaw SForms RatW RatU DigG DPh KDoc KDoc2 RatX RatV KDoc3 DigX DigR DigQ DigV DigVm1 DigVm2 DigVp1.
-/
import Derived.Test.YtfcpaejeppedoaaGreatDoorJRMulB
import Derived.Test.YtfcpaejeppedoaaGreatDoorJMul
import Derived.Test.YtfcpaejeppedoaaGreatDoorJDown
import Derived.Test.YtfcpaejeppedoaaGreatDoorSub
import Derived.Laws.EntriesVeiled
import Derived.Test.YtfcpaejeppedoaaGreatDoorJLenOf
import Derived.Test.YtfcpaejeppedoaaGreatDoorJQLong
import Derived.Test.YtfcpaejeppedoaaGreatDoorJRDiv
import Derived.Test.YtfcpaejeppedoaaGreatDoorJRefD
import Derived.Defers
import Derived.Test.YtfcpaejeppedoaaGreatDoorKit
import Derived.Test.YtfcpaejeppedoaaGreatDoorJRefA
import Derived.Deep.RegionHeld3
import Derived.Test.YtfcpaejeppedoaaGreatDoorJSmall
namespace Go.Proofs.YtfcpaejeppedoaaGreatDoor
open Go.RowKit
end Go.Proofs.YtfcpaejeppedoaaGreatDoor
namespace Go.Proofs.YtfcpaejeppedoaaGreatDoor
open Go.RowKit
open Go.RowKit
open Go.RowKit
end Go.Proofs.YtfcpaejeppedoaaGreatDoor
namespace Go.Proofs.YtfcpaejeppedoaaGreatDoor
open Go.RowKit
structure Fr (lo : Nat) (W : World) (a : Option Addr) (ca : Nat) (xs : List Int) (c : Option Addr) (cc : Nat) (ds : List Int) : Prop where
  up : Seg lo W (.slice a xs.length ca) xs
  down : Seg lo W (.slice c ds.length cc) ds
theorem Fr.below {lo : Nat} {W W' : World} {a c : Option Addr} {ca cc : Nat} {xs ds : List Int} (h : Fr lo W a ca xs c cc ds) (hb : Below W.heap.size W W') : Fr lo W' a ca xs c cc ds := ⟨h.up.below hb, h.down.below hb⟩
theorem Fr.mono {lo lo' : Nat} {W : World} {a c : Option Addr} {ca cc : Nat} {xs ds : List Int} (h : Fr lo W a ca xs c cc ds) (hl : lo' ≤ lo) : Fr lo' W a ca xs c cc ds := ⟨h.up.mono hl, h.down.mono hl⟩
theorem Fr.drew {lo : Nat} {W : World} {a c : Option Addr} {ca cc : Nat} {xs ds : List Int} (h : Fr lo W a ca xs c cc ds) : Fr lo W.drew a ca xs c cc ds := ⟨h.up.drew, h.down.drew⟩
structure Is (b : Bool) (xs ds : List Int) (q : Rat) (n : Nat) : Prop where
  low : LowL b xs ds
  rat : ratL b xs ds = q
  lu : xs.length ≤ n
  ld : ds.length ≤ n
theorem Is.mono {b : Bool} {xs ds : List Int} {q : Rat} {n m : Nat} (h : Is b xs ds q n) (hm : n ≤ m) : Is b xs ds q m := ⟨h.low, h.rat, Nat.le_trans h.lu hm, Nat.le_trans h.ld hm⟩
theorem Is.to {b : Bool} {xs ds : List Int} {q r : Rat} {n : Nat} (h : Is b xs ds q n) (e : q = r) : Is b xs ds r n := e ▸ h
theorem formOf_norm {zs : List Int} : formOf zs = 0 ↔ Norm zs := by
  unfold formOf Norm
  split
  · rename_i h; simp [h]
  · rename_i h; simp [h]
theorem formI_canon {b : Bool} {zs : List Int} : formI b zs = 0 ↔ Canon b zs := by
  unfold formI Canon
  by_cases hn : Norm zs
  · rw [formOf_norm.2 hn]
    cases b
    · simp [hn]
    · by_cases hz : zs = []
      · subst hz; simp
      · simp [hn, hz]
  · have : formOf zs ≠ 0 := fun h => hn (formOf_norm.1 h)
    simp [this, hn]
def formR (b : Bool) (xs ds : List Int) : Int := if formI b xs = 0 ∧ formOf ds = 0 ∧ ds ≠ [] ∧ gcdI (val xs) (val ds) = 1 then 0 else 6
theorem formR_low {b : Bool} {xs ds : List Int} (hx : Words xs) (hd : Words ds) : formR b xs ds = 0 ↔ LowL b xs ds := by
  unfold formR LowL Low
  rw [sgn_gcd]
  have hgc := gcdI_gcd (val_nonneg hx) (val_nonneg hd)
  constructor
  · intro h
    split at h
    · rename_i g
      have g2 := formOf_norm.1 g.2.1
      exact ⟨formI_canon.1 g.1, g2, norm_pos hd g2 g.2.2.1, by have := g.2.2.2; omega⟩
    · exact absurd h (by decide)
  · rintro ⟨h1, h2, h3, h4⟩
    rw [if_pos]
    refine ⟨formI_canon.2 h1, formOf_norm.2 h2, ?_, by omega⟩
    rintro rfl
    rw [val_nil] at h3
    omega
set_option maxRecDepth 100000 in
set_option maxHeartbeats 1000000 in
theorem isOne_any {lo : Nat} {a : Option Addr} {la ca : Nat} {xs : List Int} {w : World} (ha : Seg lo w (.slice a la ca) xs) (hla : xs.length ≤ 1000) :
    Calls Tryz.prog 35 #[.slice a la ca] w fun e w' => e = .returned (.bool (val xs == 1)) ∧ Below w.heap.size w w' := by
  by_cases h : val xs < 18446744073709551616
  · have ho := one_yes ha (by omega) h
    generalize val xs = x at *
    go_enter Tryz.func35, Tryz.ntmps35
    go_wp2_with fail
    refine ho.mono ?_
    rintro e w1 ⟨rfl, hb1⟩
    clear ho
    go_wp2
    go_ret
    exact ⟨rfl, hb1⟩
  · have ho := one_no ha (by omega) (by omega)
    have HF : Hid ((val xs == 1) = false) := beq_eq_false_iff_ne.2 (by omega)
    clear h
    go_enter Tryz.func35, Tryz.ntmps35
    go_wp2_with fail
    refine ho.mono ?_
    rintro e w1 ⟨rfl, hb1⟩
    clear ho
    go_wp2
    go_ret
    rw [HF.out]
    exact ⟨rfl, hb1⟩
set_option maxRecDepth 100000 in
set_option maxHeartbeats 1000000 in
theorem pcheck_any {lo : Nat} {a c : Option Addr} {ca cc : Nat} {xs ds : List Int} {w : World} (b : Bool) (h : Fr lo w a ca xs c cc ds) (hl : xs.length ≤ 1000) (hl' : ds.length ≤ 1000) :
    Calls Tryz.prog 17 #[.agg #[.bool b, .slice a xs.length ca, .slice c ds.length cc]] w fun e w' => e = .returned (.int .i64 (formR b xs ds)) ∧ Below w.heap.size w w' := by
  have hB0 : Below w.heap.size w (w.alloc (.cells #[.bool b, .slice a xs.length ca, .slice c ds.length cc] 27)) := (Below.refl _ w).alloc (Nat.le_refl _) _
  have E := Box.new w (.cells #[.bool b, .slice a xs.length ca, .slice c ds.length cc] 27)
  have hck := scheck_any b (h.up.below hB0) (by omega)
  obtain ⟨f, hf⟩ : ∃ f, formI b xs = f := ⟨_, rfl⟩
  have HR : Hid (formR b xs ds = if f = 0 ∧ formOf ds = 0 ∧ ds ≠ [] ∧ gcdI (val xs) (val ds) = 1 then 0 else 6) := by rw [Hid, ← hf]; rfl
  rw [hf] at hck
  clear hf
  go_enter Tryz.func17, Tryz.ntmps17
  go_wp2_with fail
  refine hck.mono ?_
  rintro e w1 ⟨rfl, hb1⟩
  have E1 := E.below hb1
  have hB1 := hB0.trans (hb1.mono hB0.size)
  obtain ⟨k0, k1, k2, _⟩ := E1.three
  clear hck
  by_cases h0 : f = 0
  · subst h0
    have hc := check_any (h.down.below hB1) (by omega)
    obtain ⟨g, hg⟩ : ∃ g, formOf ds = g := ⟨_, rfl⟩
    rw [hg] at hc
    have HG := hide hg
    clear hg
    go_wp2_with fail
    refine hc.mono ?_
    rintro e w2 ⟨rfl, hb2⟩
    have E2 := E1.below hb2
    have hB2 := hB1.trans (hb2.mono hB1.size)
    clear hc k0 k1 k2
    obtain ⟨k0, k1, k2, _⟩ := E2.three
    by_cases h1 : g = 0
    · subst h1
      by_cases h2 : ds = []
      · subst h2
        go_wp2
        go_ret
        exact ⟨ret_int (by rw [HR.out, if_neg (by simp)]), hB2⟩
      · have hz : ((ds.length : Int) == 0) = false := beq_eq_false_iff_ne.2 (by have := List.length_pos_iff.2 h2; omega)
        have hgc := qgcd_any (h.up.below hB2) (h.down.below hB2) hl hl'
        have hlt := val_lt h.down.words
        have hp : 0 < val ds := norm_pos h.down.words (formOf_norm.1 HG.out) h2
        have hgl : gcdI (val xs) (val ds) ≤ val ds := by
          rw [gcdI_gcd (val_nonneg h.up.words) (by omega)]
          exact Int.le_of_dvd hp (Int.gcd_dvd_right ..)
        have H2 := hide h2
        clear h2 hp
        go_wp2_with fail
        refine hgc.mono ?_
        rintro e w3 ⟨a3, c3, gs, rfl, hs3, n3, v3, hb3⟩
        have hl3 : gs.length ≤ ds.length := by
          refine len_below hs3.words n3 ?_
          rw [v3]
          omega
        have hio := isOne_any hs3 (by omega)
        have hB3 := hB2.trans (hb3.mono hB2.size)
        have V3 := hide v3
        clear hgc v3 k0 k1 k2 hlt hgl
        obtain ⟨x, hx⟩ : ∃ x, (val gs == 1) = x := ⟨_, rfl⟩
        rw [hx] at hio
        have HX := hide hx
        clear hx
        go_wp2_with fail
        refine hio.mono ?_
        rintro e w4 ⟨rfl, hb4⟩
        have hB4 := hB3.trans (hb4.mono hB3.size)
        clear hio
        cases x with
        | true =>
          go_wp2
          go_ret
          refine ⟨ret_int ?_, hB4⟩
          have := HX.out
          rw [V3.out] at this
          rw [HR.out, if_pos ⟨by simp, HG.out, H2.out, by simpa using this⟩]
        | false =>
          go_wp2
          go_ret
          refine ⟨ret_int ?_, hB4⟩
          have := HX.out
          rw [V3.out] at this
          rw [HR.out, if_neg]
          rintro ⟨_, _, _, h4⟩
          rw [h4] at this
          exact absurd this (by decide)
    · have hne : (g != 0) = true := bne_iff_ne.2 h1
      have H1 := hide h1
      clear h1
      go_wp2
      go_ret
      exact ⟨ret_int (by rw [HR.out, if_neg (by rw [HG.out]; rintro ⟨_, q, _⟩; exact H1.out q)]), hB2⟩
  · have hne : (f != 0) = true := bne_iff_ne.2 h0
    have H0 := hide h0
    clear h0
    go_wp2
    go_ret
    exact ⟨ret_int (by rw [HR.out, if_neg (by rintro ⟨q, _⟩; exact H0.out q)]), hB1⟩
def Yield.nat (lo : Nat) (x : Int) (n : Nat) : Yield := .rel (fun v W => ∃ (a : Option Addr) (c : Nat) (z : List Int), v = .slice a z.length c ∧ Seg lo W (.slice a z.length c) z ∧ Norm z ∧ Hid (val z = x) ∧ z.length ≤ n)
  (fun _ _ _ hb ⟨a, c, z, e, s, r⟩ => ⟨a, c, z, e, s.below hb, r⟩)
def Yield.natIn (f : Value → Value) (lo : Nat) (x : Int) (n : Nat) : Yield := .rel (fun v W => ∃ (a : Option Addr) (c : Nat) (z : List Int), v = f (.slice a z.length c) ∧ Seg lo W (.slice a z.length c) z ∧ Norm z ∧ Hid (val z = x) ∧ z.length ≤ n)
  (fun _ _ _ hb ⟨a, c, z, e, s, r⟩ => ⟨a, c, z, e, s.below hb, r⟩)
def Yield.int (lo : Nat) (x : Int) (n : Nat) : Yield := .rel (fun v W => ∃ (g : Bool) (a : Option Addr) (c : Nat) (z : List Int), v = .agg #[.bool g, .slice a z.length c] ∧ Seg lo W (.slice a z.length c) z ∧ Canon g z ∧ Hid (sgn g (val z) = x) ∧ z.length ≤ n)
  (fun _ _ _ hb ⟨g, a, c, z, e, s, r⟩ => ⟨g, a, c, z, e, s.below hb, r⟩)
def Yield.intIn (f : Bool → Value → Value) (lo : Nat) (x : Int) (n : Nat) : Yield := .rel (fun v W => ∃ (g : Bool) (a : Option Addr) (c : Nat) (z : List Int), v = f g (.slice a z.length c) ∧ Seg lo W (.slice a z.length c) z ∧ Canon g z ∧ Hid (sgn g (val z) = x) ∧ z.length ≤ n)
  (fun _ _ _ hb ⟨g, a, c, z, e, s, r⟩ => ⟨g, a, c, z, e, s.below hb, r⟩)
def Yield.frac (lo : Nat) (q : Rat) (n : Nat) : Yield := .rel (fun v W => ∃ (b : Bool) (a : Option Addr) (ca : Nat) (xs : List Int) (c : Option Addr) (cc : Nat) (ds : List Int), v = .agg #[.bool b, .slice a xs.length ca, .slice c ds.length cc] ∧ Fr lo W a ca xs c cc ds ∧ Apart a c xs ds ∧ Is b xs ds q n)
  (fun _ _ _ hb ⟨b, a, ca, xs, c, cc, ds, e, s, r⟩ => ⟨b, a, ca, xs, c, cc, ds, e, s.below hb, r⟩)
def Yield.fracE (lo : Nat) (q : Rat) (n : Nat) : Yield := .rel (fun v W => ∃ (b : Bool) (a : Option Addr) (ca : Nat) (xs : List Int) (c : Option Addr) (cc : Nat) (ds : List Int), v = .tuple #[.agg #[.bool b, .slice a xs.length ca, .slice c ds.length cc], .int .i64 0] ∧ Fr lo W a ca xs c cc ds ∧ Apart a c xs ds ∧ Is b xs ds q n)
  (fun _ _ _ hb ⟨b, a, ca, xs, c, cc, ds, e, s, r⟩ => ⟨b, a, ca, xs, c, cc, ds, e, s.below hb, r⟩)
def Yield.copyw (lo : Nat) (b : Bool) (zs : List Int) : Yield := .rel (fun v W => ∃ (a : Option Addr) (c : Nat), v = .agg #[.bool b, .slice a zs.length c] ∧ Seg lo W (.slice a zs.length c) zs)
  (fun _ _ _ hb ⟨a, c, e, s⟩ => ⟨a, c, e, s.below hb⟩)
def Yield.copyn (lo : Nat) (zs : List Int) : Yield := .rel (fun v W => ∃ (a : Option Addr) (c : Nat), v = .slice a zs.length c ∧ Seg lo W (.slice a zs.length c) zs)
  (fun _ _ _ hb ⟨a, c, e, s⟩ => ⟨a, c, e, s.below hb⟩)
theorem Yield.copyw_elim {lo : Nat} {b : Bool} {zs : List Int} {v : Value} {W : World} (P : Prop) (h : (Yield.copyw lo b zs).At v W) (k : ∀ (a : Option Addr) (c : Nat), v = .agg #[.bool b, .slice a zs.length c] → Seg lo W (.slice a zs.length c) zs → P) : P := by
  obtain ⟨a, c, h1, h2⟩ := h; exact k a c h1 h2
theorem Yield.copyn_elim {lo : Nat} {zs : List Int} {v : Value} {W : World} (P : Prop) (h : (Yield.copyn lo zs).At v W) (k : ∀ (a : Option Addr) (c : Nat), v = .slice a zs.length c → Seg lo W (.slice a zs.length c) zs → P) : P := by
  obtain ⟨a, c, h1, h2⟩ := h; exact k a c h1 h2
def NoWord (cs : Array Value) : Prop := ∀ (i : Nat) (x : Int), cs[i]? ≠ some (.int .u64 x)
theorem Seg.offU {lo : Nat} {W : World} {a : Option Addr} {n cap k : Nat} {zs : List Int} {cs : Array Value} {t : TypeId} (h : Seg lo W (.slice a n cap) zs) (hk : Box W k (.cells cs t (0, 0))) (hs : NoWord cs) (hz : zs ≠ []) : ∀ g o, a = some ⟨g, o, none⟩ → g ≠ k := by
  rintro g o rfl rfl
  obtain ⟨hn, _⟩ := h.len
  subst hn
  have hc := (h.cell (j := 0) (List.length_pos_iff.2 hz)).1
  rw [cell_of_heap hk.what (o + 0)] at hc
  exact hs _ _ hc
theorem Seg.beside {lo : Nat} {W W' : World} {a : Option Addr} {n cap k : Nat} {zs : List Int} {cs : Array Value} {t : TypeId} (h : Seg lo W (.slice a n cap) zs) (hk : Box W k (.cells cs t (0, 0))) (hs : NoWord cs) (ht : Turns k W W') : Seg lo W' (.slice a n cap) zs := by
  by_cases hz : zs = []
  · obtain ⟨hn, hc⟩ := h.len
    subst hz hn
    exact Seg.empty _ _ _ _
  · obtain ⟨g, o, rfl, _, _⟩ := h.row (by rw [h.len.1]; exact List.length_pos_iff.2 hz)
    exact h.turns ht (h.offU hk hs hz g o rfl)
theorem Fr.beside {lo : Nat} {W W' : World} {a c : Option Addr} {ca cc k : Nat} {xs ds : List Int} {cs : Array Value} {t : TypeId} (h : Fr lo W a ca xs c cc ds) (hk : Box W k (.cells cs t (0, 0))) (hs : NoWord cs) (ht : Turns k W W') : Fr lo W' a ca xs c cc ds := ⟨h.up.beside hk hs ht, h.down.beside hk hs ht⟩
theorem noWord2 {u v : Value} (hu : ∀ x, u ≠ .int .u64 x) (hv : ∀ x, v ≠ .int .u64 x) : NoWord #[u, v] := fun i x e => by
  match i with
  | 0 => simp at e; exact hu _ e
  | 1 => simp at e; exact hv _ e
  | i + 2 => simp at e
theorem noWord3 {u v t : Value} (hu : ∀ x, u ≠ .int .u64 x) (hv : ∀ x, v ≠ .int .u64 x) (ht : ∀ x, t ≠ .int .u64 x) : NoWord #[u, v, t] := fun i x e => by
  match i with
  | 0 => simp at e; exact hu _ e
  | 1 => simp at e; exact hv _ e
  | 2 => simp at e; exact ht _ e
  | i + 3 => simp at e
theorem turns1 (g : Nat) (W : World) (u : Value) : Turns g W (W.setCell ⟨g, 0, none⟩ u) := (Turns.refl g W).setCell 0 u
theorem Box.one {W : World} {k : Nat} {u : Value} {t : TypeId} (h : Box W k (.cells #[u] t (0, 0))) : W.cell? ⟨k, 0, none⟩ = some u ∧ W.frozen? ⟨k, 0, none⟩ = false := ⟨cell_of_heap h.what 0, frozen_of_heap h.what 0⟩
theorem Box.set1 {W : World} {k : Nat} {u : Value} {t : TypeId} (u' : Value) (h : Box W k (.cells #[u] t (0, 0))) : Box (W.setCell ⟨k, 0, none⟩ u') k (.cells #[u'] t (0, 0)) := ⟨Nat.lt_of_lt_of_le h.lt (turns1 k W u').below.size, heap_setCell_same W k 0 _ t u' h.what⟩
end Go.Proofs.YtfcpaejeppedoaaGreatDoor
namespace Go.Proofs.YtfcpaejeppedoaaGreatDoor
open Go.RowKit
end Go.Proofs.YtfcpaejeppedoaaGreatDoor
namespace Go.Proofs.YtfcpaejeppedoaaGreatDoor
open Go.RowKit
structure RV where
  b : Bool
  a : Option Addr
  ca : Nat
  xs : List Int
  c : Option Addr
  cc : Nat
  ds : List Int
structure Row (lo : Nat) (W : World) (sv : Option Addr) (rs : List RV) : Prop where
  at_ : ∀ j, j < rs.length → ∃ g o, sv = some ⟨g, o, none⟩ ∧ g < W.heap.size
  cells : ∀ (g o j : Nat) (r : RV), sv = some ⟨g, o, none⟩ → rs[j]? = some r → W.cell? ⟨g, o + j * 3, none⟩ = some (.bool r.b) ∧ W.cell? ⟨g, o + j * 3 + 1, none⟩ = some (.slice r.a r.xs.length r.ca) ∧ W.cell? ⟨g, o + j * 3 + 2, none⟩ = some (.slice r.c r.ds.length r.cc)
  held : ∀ (j : Nat) (r : RV), rs[j]? = some r → Fr lo W r.a r.ca r.xs r.c r.cc r.ds
theorem Row.below {lo : Nat} {W W' : World} {sv : Option Addr} {rs : List RV} (h : Row lo W sv rs) (hb : Below W.heap.size W W') : Row lo W' sv rs := by
  refine ⟨fun j hj => ?_, fun g o j r e hr => ?_, fun j r hr => (h.held j r hr).below hb⟩
  · obtain ⟨g, o, e, hg⟩ := h.at_ j hj
    exact ⟨g, o, e, Nat.lt_of_lt_of_le hg hb.size⟩
  · obtain ⟨g', o', e', hg⟩ := h.at_ j (List.getElem?_eq_some_iff.1 hr).1
    rw [e] at e'
    simp only [Option.some.injEq, Addr.mk.injEq] at e'
    obtain ⟨rfl, rfl, _⟩ := e'
    obtain ⟨h0, h1, h2⟩ := h.cells g o j r e hr
    exact ⟨(hb.cell (p := ⟨g, o + j * 3, none⟩) hg).trans h0, (hb.cell (p := ⟨g, o + j * 3 + 1, none⟩) hg).trans h1, (hb.cell (p := ⟨g, o + j * 3 + 2, none⟩) hg).trans h2⟩
theorem Row.drew {lo : Nat} {W : World} {sv : Option Addr} {rs : List RV} (h : Row lo W sv rs) : Row lo W.drew sv rs := ⟨h.at_, h.cells, fun j r hr => (h.held j r hr).drew⟩
def RowOff (k : Nat) (sv : Option Addr) (rs : List RV) : Prop := rs ≠ [] → ∀ g o, sv = some ⟨g, o, none⟩ → g ≠ k
theorem Row.beside {lo : Nat} {W W' : World} {sv : Option Addr} {rs : List RV} {k : Nat} {cs : Array Value} {t : TypeId} (h : Row lo W sv rs) (hk : Box W k (.cells cs t (0, 0))) (hs : NoWord cs) (ht : Turns k W W') (hoff : RowOff k sv rs) : Row lo W' sv rs := by
  refine ⟨fun j hj => ?_, fun g o j r e hr => ?_, fun j r hr => (h.held j r hr).beside hk hs ht⟩
  · obtain ⟨g, o, e, hg⟩ := h.at_ j hj
    exact ⟨g, o, e, Nat.lt_of_lt_of_le hg ht.below.size⟩
  · obtain ⟨g', o', e', hg⟩ := h.at_ j (List.getElem?_eq_some_iff.1 hr).1
    rw [e] at e'
    simp only [Option.some.injEq, Addr.mk.injEq] at e'
    obtain ⟨rfl, rfl, _⟩ := e'
    obtain ⟨h0, h1, h2⟩ := h.cells g o j r e hr
    have hb := ht.other g (hoff (by rintro rfl; simp at hr) g o e) hg
    exact ⟨(World.cell?_of_block (a := ⟨g, o + j * 3, none⟩) hb).trans h0, (World.cell?_of_block (a := ⟨g, o + j * 3 + 1, none⟩) hb).trans h1, (World.cell?_of_block (a := ⟨g, o + j * 3 + 2, none⟩) hb).trans h2⟩
def RV.q (r : RV) : Rat := ratL r.b r.xs r.ds
def RV.good (r : RV) : Prop := formR r.b r.xs r.ds = 0
def opFold (op : Rat → Rat → Option Rat) : Rat → List RV → Option Rat
  | q, [] => some q
  | q, r :: rs => match op q r.q with | some t => opFold op t rs | none => none
theorem opFold_drop {op : Rat → Rat → Option Rat} {q : Rat} {rs : List RV} {i : Nat} {r : RV} (h : rs[i]? = some r) : opFold op q (rs.drop i) = match op q r.q with | some t => opFold op t (rs.drop (i + 1)) | none => none := by
  obtain ⟨hi, e⟩ := List.getElem?_eq_some_iff.1 h
  rw [List.drop_eq_getElem_cons hi, e]
  rfl
def AllGood (b : Bool) (xs ds : List Int) (rs : List RV) : Prop := formR b xs ds = 0 ∧ ∀ r ∈ rs, formR r.b r.xs r.ds = 0
def KeptIs (b : Bool) (xs ds : List Int) (rs : List RV) (x : Int) : Prop := (AllGood b xs ds rs ∧ x = 0) ∨ (¬ AllGood b xs ds rs ∧ x = 6)
def FoldAt (op : Rat → Rat → Option Rat) (w : World) (b : Bool) (a : Option Addr) (ca : Nat) (xs : List Int) (c : Option Addr) (cc : Nat) (ds : List Int) (rs : List RV) (n m i : Nat) (y : Int) (b1 : Bool) (a1 : Option Addr) (n1 : Nat) (x1 : List Int) (e1 : Option Addr) (m1 : Nat) (y1 : List Int) (W : World) : Prop :=
  (AllGood b xs ds rs ∧ y = 0 ∧ ∃ q1, Is b1 x1 y1 q1 (n + i * (m + 1)) ∧ Fr 0 W a1 n1 x1 e1 m1 y1 ∧ opFold op q1 (rs.drop i) = opFold op (ratL b xs ds) rs ∧ ((i = 0 ∧ b1 = b ∧ a1 = a ∧ n1 = ca ∧ x1 = xs ∧ e1 = c ∧ m1 = cc ∧ y1 = ds) ∨ (0 < i ∧ Fr w.heap.size W a1 n1 x1 e1 m1 y1 ∧ Apart a1 e1 x1 y1)))
  ∨ (AllGood b xs ds rs ∧ y = 5 ∧ opFold op (ratL b xs ds) rs = none)
  ∨ (¬ AllGood b xs ds rs ∧ y = 6)
def FoldSaid (op : Rat → Rat → Option Rat) (w : World) (b : Bool) (a : Option Addr) (ca : Nat) (xs : List Int) (c : Option Addr) (cc : Nat) (ds : List Int) (rs : List RV) (N : Nat) (e : Ending) (w' : World) : Prop :=
  (AllGood b xs ds rs ∧ ∃ t, opFold op (ratL b xs ds) rs = some t ∧ ∃ (b' : Bool) (a' : Option Addr) (ca' : Nat) (ts : List Int) (c' : Option Addr) (cc' : Nat) (es : List Int), e = .returned (.tuple #[.agg #[.bool b', .slice a' ts.length ca', .slice c' es.length cc'], .int .i64 0]) ∧ Is b' ts es t N ∧ ((rs = [] ∧ b' = b ∧ a' = a ∧ ca' = ca ∧ ts = xs ∧ c' = c ∧ cc' = cc ∧ es = ds) ∨ (Fr w.heap.size w' a' ca' ts c' cc' es ∧ Apart a' c' ts es)))
  ∨ (AllGood b xs ds rs ∧ opFold op (ratL b xs ds) rs = none ∧ e = .returned (.tuple #[.agg #[.bool false, .slice none 0 0, .slice none 0 0], .int .i64 5]))
  ∨ (¬ AllGood b xs ds rs ∧ e = .returned (.tuple #[.agg #[.bool false, .slice none 0 0, .slice none 0 0], .int .i64 6]))
section
variable {op : Rat → Rat → Option Rat} {w : World} {b : Bool} {a : Option Addr} {ca : Nat} {xs : List Int} {c : Option Addr} {cc : Nat} {ds : List Int} {rs : List RV} {n m i : Nat} {y : Int} {b1 : Bool} {a1 : Option Addr} {n1 : Nat} {x1 : List Int} {e1 : Option Addr} {m1 : Nat} {y1 : List Int} {W : World}
theorem FoldAt.start {lo : Nat} {x : Int} (hI : formR b xs ds = 0 → Is b xs ds (ratL b xs ds) n) (FA : Fr lo W a ca xs c cc ds) (HX : KeptIs b xs ds rs x) : FoldAt op w b a ca xs c cc ds rs n m 0 x b a ca xs c cc ds W := by
  rcases HX with ⟨h, rfl⟩ | ⟨h, rfl⟩
  · exact Or.inl ⟨h, rfl, _, (hI h.1).mono (by omega), FA.mono (Nat.zero_le _), rfl, Or.inl ⟨rfl, rfl, rfl, rfl, rfl, rfl, rfl, rfl⟩⟩
  · exact Or.inr (Or.inr ⟨h, rfl⟩)
structure FoldMid (op : Rat → Rat → Option Rat) (b : Bool) (xs ds : List Int) (rs : List RV) (i : Nat) (q1 : Rat) : Prop where
  good : AllGood b xs ds rs
  eq : opFold op q1 (rs.drop i) = opFold op (ratL b xs ds) rs
theorem FoldAt.go (h : FoldAt op w b a ca xs c cc ds rs n m i y b1 a1 n1 x1 e1 m1 y1 W) (hy : y = 0) : ∃ q1, Is b1 x1 y1 q1 (n + i * (m + 1)) ∧ Fr 0 W a1 n1 x1 e1 m1 y1 ∧ FoldMid op b xs ds rs i q1 := by
  rcases h with ⟨hg, _, q1, hi, hf, he, _⟩ | ⟨_, h5, _⟩ | ⟨_, h6⟩
  · exact ⟨q1, hi, hf, hg, he⟩
  · omega
  · omega
theorem FoldAt.next {q1 t : Rat} {r : RV} {g2 : Bool} {a2 : Option Addr} {c2 : Nat} {x2 : List Int} {e2 : Option Addr} {t2 : Nat} {y2 : List Int} (HM : FoldMid op b xs ds rs i q1) (hr : rs[i]? = some r) (hu : op q1 r.q = some t) (F : Fr w.heap.size W a2 c2 x2 e2 t2 y2) (P : Apart a2 e2 x2 y2) (I : Is g2 x2 y2 t (n + i * (m + 1) + m + 1)) : FoldAt op w b a ca xs c cc ds rs n m (i + 1) 0 g2 a2 c2 x2 e2 t2 y2 W := by
  refine Or.inl ⟨HM.good, rfl, t, I.mono ?_, F.mono (Nat.zero_le _), ?_, Or.inr ⟨by omega, F, P⟩⟩
  · rw [Nat.add_mul, Nat.one_mul]; omega
  · rw [← HM.eq, opFold_drop hr, hu]
theorem FoldAt.stop {q1 : Rat} {r : RV} {g2 : Bool} {a2 : Option Addr} {c2 : Nat} {x2 : List Int} {e2 : Option Addr} {t2 : Nat} {y2 : List Int} (HM : FoldMid op b xs ds rs i q1) (hr : rs[i]? = some r) (hu : op q1 r.q = none) : FoldAt op w b a ca xs c cc ds rs n m (i + 1) 5 g2 a2 c2 x2 e2 t2 y2 W := by
  refine Or.inr (Or.inl ⟨HM.good, rfl, ?_⟩)
  rw [← HM.eq, opFold_drop hr, hu]
structure FoldFin (op : Rat → Rat → Option Rat) (w : World) (b : Bool) (a : Option Addr) (ca : Nat) (xs : List Int) (c : Option Addr) (cc : Nat) (ds : List Int) (rs : List RV) (N i : Nat) (y : Int) (b1 : Bool) (a1 : Option Addr) (n1 : Nat) (x1 : List Int) (e1 : Option Addr) (m1 : Nat) (y1 : List Int) (W : World) : Prop where
  atEnd : y = 0 → i = rs.length
  ok : y = 0 → AllGood b xs ds rs ∧ ∃ t, opFold op (ratL b xs ds) rs = some t ∧ Is b1 x1 y1 t N ∧ ((rs = [] ∧ b1 = b ∧ a1 = a ∧ n1 = ca ∧ x1 = xs ∧ e1 = c ∧ m1 = cc ∧ y1 = ds) ∨ (Fr w.heap.size W a1 n1 x1 e1 m1 y1 ∧ Apart a1 e1 x1 y1))
  no : y ≠ 0 → (AllGood b xs ds rs ∧ y = 5 ∧ opFold op (ratL b xs ds) rs = none) ∨ (¬ AllGood b xs ds rs ∧ y = 6)
theorem FoldAt.fin (h : FoldAt op w b a ca xs c cc ds rs n m i y b1 a1 n1 x1 e1 m1 y1 W) (hi : i ≤ rs.length) (hgo : ¬ (y = 0 ∧ i < rs.length)) : FoldFin op w b a ca xs c cc ds rs (n + rs.length * (m + 1)) i y b1 a1 n1 x1 e1 m1 y1 W := by
  refine ⟨fun hy => by have : ¬ i < rs.length := fun hl => hgo ⟨hy, hl⟩; omega, fun hy => ?_, fun hy => ?_⟩
  · have hi2 : i = rs.length := by have : ¬ i < rs.length := fun hl => hgo ⟨hy, hl⟩; omega
    rcases h with ⟨hg, _, q1, hI, hf, he, hm⟩ | ⟨_, h5, _⟩ | ⟨_, h6⟩
    · subst hi2
      rw [List.drop_length] at he
      refine ⟨hg, q1, he.symm, hI, ?_⟩
      rcases hm with ⟨h0, hm⟩ | ⟨_, hm⟩
      · exact Or.inl ⟨List.length_eq_zero_iff.1 h0, hm⟩
      · exact Or.inr hm
    · omega
    · omega
  · rcases h with ⟨_, h0, _⟩ | h | h
    · exact absurd h0 hy
    · exact Or.inl h
    · exact Or.inr h
end
end Go.Proofs.YtfcpaejeppedoaaGreatDoor
namespace Go.Proofs.YtfcpaejeppedoaaGreatDoor
open Go.RowKit
open Go.RowKit
open Go.RowKit
open Go.RowKit
open Go.RowKit
open Go.RowKit
end Go.Proofs.YtfcpaejeppedoaaGreatDoor
namespace Go.Proofs.YtfcpaejeppedoaaGreatDoor
open Go.RowKit
def opAdd (q s : Rat) : Option Rat := some (q + s)
def opMul (q s : Rat) : Option Rat := some (q * s)
def opSub (q s : Rat) : Option Rat := some (q - s)
def opDiv (q s : Rat) : Option Rat := if s = 0 then none else some (q / s)
def sumQ (rs : List RV) : Rat := rs.foldl (fun q r => q + r.q) 0
def mulQ (rs : List RV) : Rat := rs.foldl (fun q r => q * r.q) 1
theorem FoldSaid.zero {op : Rat → Rat → Option Rat} {w w' : World} {b : Bool} {a : Option Addr} {ca : Nat} {xs : List Int} {c : Option Addr} {cc : Nat} {ds : List Int} {rs : List RV} {N : Nat} {e : Ending} (h : FoldSaid op w b a ca xs c cc ds rs N e w') (hg : AllGood b xs ds rs) (ht : opFold op (ratL b xs ds) rs = none) : e = .returned (.tuple #[.agg #[.bool false, .slice none 0 0, .slice none 0 0], .int .i64 5]) := by
  rcases h with ⟨_, t', ht', _⟩ | ⟨_, _, he⟩ | ⟨hn, _⟩
  · rw [ht] at ht'; cases ht'
  · exact he
  · exact absurd hg hn
theorem Is.good {b : Bool} {xs ds : List Int} {q : Rat} {n : Nat} (h : Is b xs ds q n) (wx : Words xs) (wd : Words ds) : formR b xs ds = 0 := (formR_low wx wd).2 h.low
def RV.cells (r : RV) : List Value := [.bool r.b, .slice r.a r.xs.length r.ca, .slice r.c r.ds.length r.cc]
end Go.Proofs.YtfcpaejeppedoaaGreatDoor
namespace Go.Proofs.YtfcpaejeppedoaaGreatDoor
open Go.RowKit
open Go.RowKit
open Go.RowKit
open Go.RowKit
end Go.Proofs.YtfcpaejeppedoaaGreatDoor
namespace Go.Proofs.YtfcpaejeppedoaaGreatDoor
open Go.RowKit
theorem seg_lit (w : World) (zs : List Int) (hw : Words zs) : Seg w.heap.size (w.alloc (.cells (zs.map (Value.int .u64)).toArray 42)) (.slice (some ⟨w.heap.size, 0, none⟩) zs.length zs.length) zs := by
  have hh : (w.alloc (.cells (zs.map (Value.int .u64)).toArray 42)).heap[w.heap.size]? = some (.cells (zs.map (Value.int .u64)).toArray 42 (0, 0)) := World.alloc_heap_new w _
  refine ⟨hw, _, _, rfl, Nat.le_refl _, fun _ => ⟨_, 0, rfl, Nat.le_refl _, by simp, fun j hj => ?_, fun j _ => frozen_of_heap hh _⟩⟩
  rw [cell_of_heap hh, Nat.zero_add]
  simp [hj]
def wordsB (zs : List Int) : Bool := zs.all fun z => decide (0 ≤ z) && decide (z < 18446744073709551616)
theorem words_of {zs : List Int} (h : wordsB zs = true) : Words zs := fun z hz => by
  have := List.all_eq_true.1 h z hz
  simpa using this
theorem Seg.alloc {lo : Nat} {W : World} {sv : Value} {zs : List Int} (h : Seg lo W sv zs) (o : Obj) : Seg lo (W.alloc o) sv zs := h.below ((Below.refl _ _).alloc (Nat.le_refl _) o)
end Go.Proofs.YtfcpaejeppedoaaGreatDoor
namespace Go.Proofs.YtfcpaejeppedoaaGreatDoor
open Go.RowKit
open Go.RowKit
open Go.RowKit
open Go.RowKit
end Go.Proofs.YtfcpaejeppedoaaGreatDoor
namespace Go.Proofs.YtfcpaejeppedoaaGreatDoor
open Go.RowKit
theorem samew_any {lo lo' : Nat} {a c : Option Addr} {ca cc : Nat} {xs ys : List Int} {w : World} (b d : Bool) (h : Seg lo w (.slice a xs.length ca) xs) (h' : Seg lo' w (.slice c ys.length cc) ys) (hl : xs.length ≤ 10000) :
    Calls Tryz.prog 25 #[.agg #[.bool b, .slice a xs.length ca], .agg #[.bool d, .slice c ys.length cc]] w fun e w' => e = .returned (.bool (decide (b = d ∧ xs = ys))) ∧ Below w.heap.size w w' := by
  by_cases hh : b = d ∧ xs = ys
  · obtain ⟨rfl, rfl⟩ := hh
    rw [decide_eq_true ⟨rfl, rfl⟩]
    exact samew_yes b h h' hl
  · rw [decide_eq_false hh]
    exact samew_no b d h h' hl hh
theorem samen_any {lo lo' : Nat} {a c : Option Addr} {ca cc : Nat} {xs ys : List Int} {w : World} (h : Seg lo w (.slice a xs.length ca) xs) (h' : Seg lo' w (.slice c ys.length cc) ys) (hl : xs.length ≤ 10000) :
    Calls Tryz.prog 26 #[.slice a xs.length ca, .slice c ys.length cc] w fun e w' => e = .returned (.bool (decide (xs = ys))) ∧ Below w.heap.size w w' := by
  by_cases hh : xs = ys
  · subst hh
    rw [decide_eq_true rfl]
    exact same_yes h h' (by omega)
  · rw [decide_eq_false hh]
    exact same_no h h' (by omega) hh
set_option maxRecDepth 100000 in
set_option maxHeartbeats 4000000 in
theorem samer_any {lo lo2 : Nat} {a c p r : Option Addr} {ca cc cp cr : Nat} {xs ds ys es : List Int} {w : World} (b g : Bool) (FA : Fr lo w a ca xs c cc ds) (FB : Fr lo2 w p cp ys r cr es) (hl : xs.length ≤ 1000) (hl2 : ds.length ≤ 1000) :
    Calls Tryz.prog 11 #[.agg #[.bool b, .slice a xs.length ca, .slice c ds.length cc], .agg #[.bool g, .slice p ys.length cp, .slice r es.length cr]] w fun e w' => e = .returned (.bool (decide (b = g ∧ xs = ys ∧ ds = es))) ∧ Below w.heap.size w w' := by
  have hB := Below.refl w.heap.size w
  by_cases h1 : b = g ∧ xs = ys
  · have HW : Hid (decide (b = g ∧ xs = ys) = true) := decide_eq_true h1
    have hv : decide (b = g ∧ xs = ys ∧ ds = es) = decide (ds = es) := decide_eq_decide.2 ⟨fun h => h.2.2, fun h => ⟨h1.1, h1.2, h⟩⟩
    rw [hv]
    obtain ⟨v, hd⟩ : ∃ v, decide (ds = es) = v := ⟨_, rfl⟩
    rw [hd]
    have HD := hide hd
    clear hd hv h1
    go_enter Tryz.func11, Tryz.ntmps11
    have hA := Below.refl w.heap.size w
    have hq := below_new w (.cells #[.bool b, .slice a xs.length ca, .slice c ds.length cc] 27)
    replace FA := FA.below hq
    replace FB := FB.below hq
    have EA := Box.put (w := w) (k := (w.heap.size)) (.cells #[.bool b, .slice a xs.length ca, .slice c ds.length cc] 27) rfl
    replace hA := hA.trans (hq.mono hA.size)
    replace hB := hB.trans (hq.mono hB.size)
    clear hq
    have hq := below_new (w.alloc (.cells #[.bool b, .slice a xs.length ca, .slice c ds.length cc] 27)) (.cells #[.bool g, .slice p ys.length cp, .slice r es.length cr] 27)
    replace FA := FA.below hq
    replace FB := FB.below hq
    replace EA := EA.below hq
    have EB := Box.put (w := (w.alloc (.cells #[.bool b, .slice a xs.length ca, .slice c ds.length cc] 27))) (k := (w.heap.size + 1)) (.cells #[.bool g, .slice p ys.length cp, .slice r es.length cr] 27) (by simp)
    replace hA := hA.trans (hq.mono hA.size)
    replace hB := hB.trans (hq.mono hB.size)
    clear hq
    clear hA
    go_wp2_with fail
    obtain ⟨u1, hname⟩ := nm hB
    rw [hname] at hB FA FB EA EB ⊢
    have zh1 := hB.size
    clear hname
    have hk := samew_any b g FA.up FB.up (by omega)
    rw [HW.out] at hk
    refine (hk).mono ?_
    rintro e w2 ⟨rfl, hb⟩
    replace FA := FA.below hb
    replace FB := FB.below hb
    replace EA := EA.below hb
    replace EB := EB.below hb
    replace hB := hB.trans (hb.mono hB.size)
    have zz2 := hb.size
    have zh2 := hB.size
    clear hb
    clear hk
    obtain ⟨k0, k1, k2, f0, f1, f2⟩ := EA.three
    obtain ⟨k3, k4, k5, f3, f4, f5⟩ := EB.three
    go_wp2_with fail
    clear k0 k1 k2 f0 f1 f2 k3 k4 k5 f3 f4 f5
    have hk := samen_any FA.down FB.down (by omega)
    rw [HD.out] at hk
    refine (hk).mono ?_
    rintro e w3 ⟨rfl, hb⟩
    replace FA := FA.below hb
    replace FB := FB.below hb
    replace EA := EA.below hb
    replace EB := EB.below hb
    replace hB := hB.trans (hb.mono hB.size)
    have zz3 := hb.size
    have zh3 := hB.size
    clear hb
    clear hk
    obtain ⟨k0, k1, k2, f0, f1, f2⟩ := EA.three
    obtain ⟨k3, k4, k5, f3, f4, f5⟩ := EB.three
    go_wp2
    go_ret
    exact ⟨rfl, hB⟩
  · have HW : Hid (decide (b = g ∧ xs = ys) = false) := decide_eq_false h1
    rw [decide_eq_false (fun h => h1 ⟨h.1, h.2.1⟩)]
    clear h1
    go_enter Tryz.func11, Tryz.ntmps11
    have hA := Below.refl w.heap.size w
    have hq := below_new w (.cells #[.bool b, .slice a xs.length ca, .slice c ds.length cc] 27)
    replace FA := FA.below hq
    replace FB := FB.below hq
    have EA := Box.put (w := w) (k := (w.heap.size)) (.cells #[.bool b, .slice a xs.length ca, .slice c ds.length cc] 27) rfl
    replace hA := hA.trans (hq.mono hA.size)
    replace hB := hB.trans (hq.mono hB.size)
    clear hq
    have hq := below_new (w.alloc (.cells #[.bool b, .slice a xs.length ca, .slice c ds.length cc] 27)) (.cells #[.bool g, .slice p ys.length cp, .slice r es.length cr] 27)
    replace FA := FA.below hq
    replace FB := FB.below hq
    replace EA := EA.below hq
    have EB := Box.put (w := (w.alloc (.cells #[.bool b, .slice a xs.length ca, .slice c ds.length cc] 27))) (k := (w.heap.size + 1)) (.cells #[.bool g, .slice p ys.length cp, .slice r es.length cr] 27) (by simp)
    replace hA := hA.trans (hq.mono hA.size)
    replace hB := hB.trans (hq.mono hB.size)
    clear hq
    clear hA
    go_wp2_with fail
    obtain ⟨u1, hname⟩ := nm hB
    rw [hname] at hB FA FB EA EB ⊢
    have zh1 := hB.size
    clear hname
    have hk := samew_any b g FA.up FB.up (by omega)
    rw [HW.out] at hk
    refine (hk).mono ?_
    rintro e w2 ⟨rfl, hb⟩
    replace FA := FA.below hb
    replace FB := FB.below hb
    replace EA := EA.below hb
    replace EB := EB.below hb
    replace hB := hB.trans (hb.mono hB.size)
    have zz2 := hb.size
    have zh2 := hB.size
    clear hb
    clear hk
    obtain ⟨k0, k1, k2, f0, f1, f2⟩ := EA.three
    obtain ⟨k3, k4, k5, f3, f4, f5⟩ := EB.three
    go_wp2
    go_ret
    exact ⟨rfl, hB⟩
theorem samer_yes {lo lo2 : Nat} {a c p r : Option Addr} {ca cc cp cr : Nat} {xs ds : List Int} {w : World} (b : Bool) (FA : Fr lo w a ca xs c cc ds) (FB : Fr lo2 w p cp xs r cr ds) (hl : xs.length ≤ 1000) (hl2 : ds.length ≤ 1000) :
    Calls Tryz.prog 11 #[.agg #[.bool b, .slice a xs.length ca, .slice c ds.length cc], .agg #[.bool b, .slice p xs.length cp, .slice r ds.length cr]] w fun e w' => e = .returned (.bool true) ∧ Below w.heap.size w w' := by
  have h := samer_any b b FA FB hl hl2
  rw [decide_eq_true ⟨rfl, rfl, rfl⟩] at h
  exact h
set_option maxRecDepth 100000 in
set_option maxHeartbeats 4000000 in
theorem longr_any (b : Bool) (a : Option Addr) (xs : List Int) (ca : Nat) (c : Option Addr) (ds : List Int) (cc : Nat) (most : Int) (w : World) :
    Calls Tryz.prog 4 #[.agg #[.bool b, .slice a xs.length ca, .slice c ds.length cc], .int .i64 most] w fun e w' => e = .returned (.bool (decide (most < (xs.length : Int) ∨ most < (ds.length : Int)))) ∧ Below w.heap.size w w' := by
  have hB0 : Below w.heap.size w (w.alloc (.cells #[.bool b, .slice a xs.length ca, .slice c ds.length cc] 27)) := (Below.refl _ w).alloc (Nat.le_refl _) _
  by_cases h1 : most < (xs.length : Int)
  · rw [decide_eq_true (Or.inl h1)]
    go_enter Tryz.func4, Tryz.ntmps4
    go_wp2
    go_ret
    exact ⟨rfl, hB0⟩
  · by_cases h2 : most < (ds.length : Int)
    · rw [decide_eq_true (Or.inr h2)]
      go_enter Tryz.func4, Tryz.ntmps4
      go_wp2
      go_ret
      exact ⟨rfl, hB0⟩
    · rw [decide_eq_false (by rintro (h | h) <;> contradiction)]
      go_enter Tryz.func4, Tryz.ntmps4
      go_wp2
      go_ret
      exact ⟨rfl, hB0⟩
def BoxesStay (w w' : World) : Prop := ∀ (k : Nat) (cs : Array Value) (t : TypeId), NoWord cs → Box w k (.cells cs t (0, 0)) → Box w' k (.cells cs t (0, 0))
theorem Seg.offBox {lo k : Nat} {W W' : World} {a : Option Addr} {c : Nat} {z : List Int} {cs : Array Value} {t : TypeId} (h : Seg lo W (.slice a z.length c) z) (E : Box W k (.cells cs t (0, 0))) (hs : NoWord cs) (ht : OverT lo a z W W') : Box W' k (.cells cs t (0, 0)) :=
  ⟨Nat.lt_of_lt_of_le E.lt ht.below.size, (ht.other k (fun hz b o e he => h.offU E hs hz b o e he.symm) E.lt).trans E.what⟩
set_option maxRecDepth 100000 in
set_option maxHeartbeats 4000000 in
theorem overr_any {lo : Nat} {a c : Option Addr} {ca cc : Nat} {xs ds : List Int} {w : World} (b : Bool) (FA : Fr lo w a ca xs c cc ds) (PA : Apart a c xs ds) (hl : xs.length ≤ 1000) (hl2 : ds.length ≤ 1000) (hlo : lo ≤ w.heap.size) :
    Calls Tryz.prog 12 #[.agg #[.bool b, .slice a xs.length ca, .slice c ds.length cc]] w fun e w' => e = .returned (.tuple #[]) ∧ Below lo w w' ∧ BoxesStay w w' := by
  have hB0 : Below w.heap.size w (w.alloc (.cells #[.bool b, .slice a xs.length ca, .slice c ds.length cc] 27)) := (Below.refl _ w).alloc (Nat.le_refl _) _
  have EA := Box.new w (.cells #[.bool b, .slice a xs.length ca, .slice c ds.length cc] 27)
  have F0 := FA.below hB0
  have PA' := hide PA
  clear PA
  go_enter Tryz.func12, Tryz.ntmps12
  go_wp2_with fail
  refine (over_ot F0.up (by omega)).mono ?_
  rintro e w1 ⟨rfl, hov⟩
  have E1 := F0.up.offBox EA (noWord3 (fun _ e => by cases e) (fun _ e => by cases e) (fun _ e => by cases e)) hov
  have S1 := F0.down.overt hov PA'.out
  have hB1 := (hB0.mono hlo).trans hov.below
  have hst1 : BoxesStay w w1 := fun k cs t nw E => F0.up.offBox (E.below hB0) nw hov
  obtain ⟨k0, k1, k2, _, _, _⟩ := E1.three
  clear hov
  go_wp2_with fail
  refine (over_ot S1 (by omega)).mono ?_
  rintro e w2 ⟨rfl, hov⟩
  have hB2 := hB1.trans hov.below
  have hst2 : BoxesStay w w2 := fun k cs t nw E => S1.offBox (hst1 k cs t nw E) nw hov
  clear hov k0 k1 k2
  go_wp2
  go_end0
  exact ⟨rfl, hB2, hst2⟩
set_option maxRecDepth 100000 in
set_option maxHeartbeats 4000000 in
theorem copyr_any {lo : Nat} {a c : Option Addr} {ca cc : Nat} {xs ds : List Int} {w : World} (b : Bool) (FA : Fr lo w a ca xs c cc ds) (hl : xs.length ≤ 1000) (hl2 : ds.length ≤ 1000) :
    Calls Tryz.prog 6 #[.agg #[.bool b, .slice a xs.length ca, .slice c ds.length cc]] w fun e w' => ∃ (a' : Option Addr) (ca' : Nat) (c' : Option Addr) (cc' : Nat), e = .returned (.agg #[.bool b, .slice a' xs.length ca', .slice c' ds.length cc']) ∧ Fr w.heap.size w' a' ca' xs c' cc' ds ∧ Below w.heap.size w w' := by
  have hB := Below.refl w.heap.size w
  go_enter Tryz.func6, Tryz.ntmps6
  have hs0 := Nat.le_refl w.heap.size
  have hq := below_new w (.cells #[.bool b, .slice a xs.length ca, .slice c ds.length cc] 27)
  replace FA := FA.below hq
  have EA := Box.put (w := w) (k := (w.heap.size)) (.cells #[.bool b, .slice a xs.length ca, .slice c ds.length cc] 27) rfl
  replace hs0 := Nat.le_trans hs0 hq.size
  replace hB := hB.trans (hq.mono hB.size)
  clear hq
  have hq := below_new (w.alloc (.cells #[.bool b, .slice a xs.length ca, .slice c ds.length cc] 27)) (.cells #[.bool false, .slice none 0 0, .slice none 0 0] 27)
  replace FA := FA.below hq
  replace EA := EA.below hq
  have ER := Box.put (w := (w.alloc (.cells #[.bool b, .slice a xs.length ca, .slice c ds.length cc] 27))) (k := (w.heap.size + 1)) (.cells #[.bool false, .slice none 0 0, .slice none 0 0] 27) (by simp)
  replace hs0 := Nat.le_trans hs0 hq.size
  replace hB := hB.trans (hq.mono hB.size)
  clear hq
  go_wp2_with fail
  obtain ⟨u1, hname⟩ := nm hB
  rw [hname] at hs0 hB FA EA ER ⊢
  have zh1 := hB.size
  have zs1 := hs0
  clear hname hs0
  replace FA := FA.drew
  have qEA := EA.lt
  replace EA := EA.drew
  have qER := ER.lt
  replace ER := ER.drew
  refine wp_yields 7 [.is (.pointer (some ⟨w.heap.size, 0, none⟩)), .is (.agg #[.bool b, .slice a xs.length ca]), (Yield.copyw u1.heap.size b xs), .is (.pointer (some ⟨w.heap.size, 2, none⟩)), .is (.slice c ds.length cc), (Yield.copyn u1.heap.size ds), .is (.pointer (some ⟨w.heap.size, 0, none⟩))] (by kernel_rfl) (by kernel_rfl) (lt_cons ?_ (lt_cons ?_ (lt_cons ?_ (lt_cons ?_ (lt_cons ?_ (lt_cons ?_ (lt_cons ?_ lt_nil))))))) ?_
  case refine_1 =>
    refine OpDoes.mk rfl ?_
    intro vs V hV hd K hK
    simp only [laidIn, lz1, lz2, lz3, lz4, lz5, lz6, if_true, Act.put, lz7, lz8, lz9] at hK ⊢
    go_simp
    exact hK.out _ _ (Below.refl _ _) rfl (not_fresh rfl)
  case refine_2 =>
    refine OpDoes.mk rfl ?_
    intro vs V hV hd K hK
    have d4 : vs 4 = .slice c ds.length cc := hd 4 (by decide) (by kernel_rfl)
    simp only [laidIn, lz1, lz2, lz3, lz4, lz5, lz6, if_true, Act.put, lz7, lz8, lz9] at hK ⊢
    simp only [d4] at hK ⊢
    go_simp
    go_at_call 16
    refine (copy_any (FA.down.below hV) (by omega)).mono ?_
    rintro e V' ⟨a2, c2, rfl, S2, hb⟩
    exact hK.out _ _ hb ⟨_, _, rfl, S2.mono hV.size⟩ (not_fresh rfl)
  case refine_3 =>
    refine OpDoes.mk rfl ?_
    intro vs V hV hd K hK
    have d3 : vs 3 = .pointer (some ⟨w.heap.size, 2, none⟩) := hd 3 (by decide) (by kernel_rfl)
    have hcc := (EA.below hV).three
    have k0 := hcc.1
    have k1 := hcc.2.1
    have k2 := hcc.2.2.1
    clear hcc
    simp only [laidIn, lz1, lz2, lz3, lz4, lz5, lz6, if_true, Act.put, lz7, lz8, lz9] at hK ⊢
    simp only [d3] at hK ⊢
    go_simp
    exact hK.out _ _ (Below.refl _ _) rfl (not_fresh rfl)
  case refine_4 =>
    refine OpDoes.mk rfl ?_
    intro vs V hV hd K hK
    simp only [laidIn, lz1, lz2, lz3, lz4, lz5, lz6, if_true, Act.put, lz7, lz8, lz9] at hK ⊢
    go_simp
    exact hK.out _ _ (Below.refl _ _) rfl (not_fresh rfl)
  case refine_5 =>
    refine OpDoes.mk rfl ?_
    intro vs V hV hd K hK
    have d1 : vs 1 = .agg #[.bool b, .slice a xs.length ca] := hd 1 (by decide) (by kernel_rfl)
    simp only [laidIn, lz1, lz2, lz3, lz4, lz5, lz6, if_true, Act.put, lz7, lz8, lz9] at hK ⊢
    simp only [d1] at hK ⊢
    go_simp
    go_at_call 15
    refine (copyw_any b (FA.up.below hV) (by omega)).mono ?_
    rintro e V' ⟨a1, c1, rfl, S1, hb⟩
    exact hK.out _ _ hb ⟨_, _, rfl, S1.mono hV.size⟩ (not_fresh rfl)
  case refine_6 =>
    refine OpDoes.mk rfl ?_
    intro vs V hV hd K hK
    have d0 : vs 0 = .pointer (some ⟨w.heap.size, 0, none⟩) := hd 0 (by decide) (by kernel_rfl)
    have hcc := (EA.below hV).three
    have k0 := hcc.1
    have k1 := hcc.2.1
    have k2 := hcc.2.2.1
    clear hcc
    simp only [laidIn, lz1, lz2, lz3, lz4, lz5, lz6, if_true, Act.put, lz7, lz8, lz9] at hK ⊢
    simp only [d0] at hK ⊢
    go_simp
    exact hK.out _ _ (Below.refl _ _) rfl (not_fresh rfl)
  case refine_7 =>
    refine OpDoes.mk rfl ?_
    intro vs V hV hd K hK
    simp only [laidIn, lz1, lz2, lz4, lz5, lz6, if_true, Act.put, lz7, lz8, lz9] at hK ⊢
    go_simp
    exact hK.out _ _ (Below.refl _ _) rfl (not_fresh rfl)
  case refine_8 =>
    intro vs Y1 hV hR hne fuel
    have d0 : vs 0 = .pointer (some ⟨w.heap.size, 0, none⟩) := hR 0 (by decide)
    have d1 : vs 1 = .agg #[.bool b, .slice a xs.length ca] := hR 1 (by decide)
    have hh := fun (P : Prop) => Yield.copyw_elim P (show ((Yield.copyw u1.heap.size b xs) : Yield).At (vs 2) Y1 from hR 2 (by decide))
    refine hh _ ?_
    intro a1 c1 d2 S1
    clear hh
    have d3 : vs 3 = .pointer (some ⟨w.heap.size, 2, none⟩) := hR 3 (by decide)
    have d4 : vs 4 = .slice c ds.length cc := hR 4 (by decide)
    have hh := fun (P : Prop) => Yield.copyn_elim P (show ((Yield.copyn u1.heap.size ds) : Yield).At (vs 5) Y1 from hR 5 (by decide))
    refine hh _ ?_
    intro a2 c2 d5 S2
    clear hh
    have d6 : vs 6 = .pointer (some ⟨w.heap.size, 0, none⟩) := hR 6 (by decide)
    replace FA := FA.below hV
    replace EA := EA.below hV
    replace ER := ER.below hV
    have hr := hV
    simp only [laidIn, lz4, lz5, lz6, if_true, Act.put, lz7, lz8, lz9]
    simp only [d0, d1, d2, d3, d4, d5, d6]
    clear hR hne hV d0 d1 d2 d3 d4 d5 d6
    clear vs
    show wpAny _ _ _ _ (fuel + 3) _ _ _
    refine wpAny_all (rs := [7]) (by kernel_rfl) (by simp) (fun i hi => ?_)
    obtain rfl : i = 7 := by simpa using hi
    clear hi
    have hcc := EA.three
    have k0 := hcc.1
    have k1 := hcc.2.1
    have k2 := hcc.2.2.1
    have f0 := hcc.2.2.2.1
    have f1 := hcc.2.2.2.2.1
    have f2 := hcc.2.2.2.2.2
    clear hcc
    refine wpOp_step rfl (fun K hK => ?_)
    simp only [lz1, lz2, lz3]
    rw [if_pos (by rfl)]
    go_simp
    refine hK _ _ ?_
    clear hK k0 f0 k1 f1 k2 f2
    have hT := (((Turns.refl (w.heap.size) Y1).setCell 0 (.bool b)).setCell 1 (.slice a1 xs.length c1))
    replace FA := FA.beside EA (noWord3 (fun _ e => by cases e) (fun _ e => by cases e) (fun _ e => by cases e)) hT
    replace ER := ER.turns hT (by omega)
    replace S1 := S1.beside EA (noWord3 (fun _ e => by cases e) (fun _ e => by cases e) (fun _ e => by cases e)) hT
    replace S2 := S2.beside EA (noWord3 (fun _ e => by cases e) (fun _ e => by cases e) (fun _ e => by cases e)) hT
    replace EA : Box ((Y1.setCell ⟨w.heap.size, 0, none⟩ (.bool b)).setCell ⟨w.heap.size, 1, none⟩ (.slice a1 xs.length c1)) (w.heap.size) (.cells #[.bool b, .slice a1 xs.length c1, .slice c ds.length cc] 27) := ⟨Nat.lt_of_lt_of_le EA.lt hT.below.size, (heap_setCell_same _ _ 1 _ _ _ (heap_setCell_same _ _ 0 _ _ _ EA.what))⟩
    have hr7 := hT.below
    obtain ⟨X1, hX⟩ := nm hT.below
    rw [hX] at FA EA ER S1 S2 hr7 ⊢
    clear hX hT
    refine wpAny_all (rs := [8]) (by kernel_rfl) (by simp) (fun i hi => ?_)
    obtain rfl : i = 8 := by simpa using hi
    clear hi
    refine wpOp_step rfl (fun K hK => ?_)
    simp only [lz1, lz2, lz3]
    rw [if_pos (by rfl)]
    go_simp
    refine hK _ _ ?_
    clear hK
    refine wpAny_all (rs := [9]) (by kernel_rfl) (by simp) (fun i hi => ?_)
    obtain rfl : i = 9 := by simpa using hi
    clear hi
    have hcc := EA.three
    have k0 := hcc.1
    have k1 := hcc.2.1
    have k2 := hcc.2.2.1
    have f0 := hcc.2.2.2.1
    have f1 := hcc.2.2.2.2.1
    have f2 := hcc.2.2.2.2.2
    clear hcc
    refine wpOp_step rfl (fun K hK => ?_)
    simp only [lz1, lz2, lz3]
    rw [if_pos (by rfl)]
    go_simp
    refine hK _ _ ?_
    clear hK k0 f0 k1 f1 k2 f2
    have hT := ((Turns.refl (w.heap.size) X1).setCell 2 (.slice a2 ds.length c2))
    replace FA := FA.beside EA (noWord3 (fun _ e => by cases e) (fun _ e => by cases e) (fun _ e => by cases e)) hT
    replace ER := ER.turns hT (by omega)
    replace S1 := S1.beside EA (noWord3 (fun _ e => by cases e) (fun _ e => by cases e) (fun _ e => by cases e)) hT
    replace S2 := S2.beside EA (noWord3 (fun _ e => by cases e) (fun _ e => by cases e) (fun _ e => by cases e)) hT
    replace EA : Box (X1.setCell ⟨w.heap.size, 2, none⟩ (.slice a2 ds.length c2)) (w.heap.size) (.cells #[.bool b, .slice a1 xs.length c1, .slice a2 ds.length c2] 27) := ⟨Nat.lt_of_lt_of_le EA.lt hT.below.size, (heap_setCell_same _ _ 2 _ _ _ EA.what)⟩
    have hr9 := hT.below
    obtain ⟨X2, hX⟩ := nm hT.below
    rw [hX] at FA EA ER S1 S2 hr9 ⊢
    clear hX hT
    refine wpAny_done (by kernel_rfl) ?_ _
    replace hB := hB.trans ((Below.trans (Below.drew (Below.refl u1.heap.size u1)) hr).mono hB.size)
    replace hB := hB.trans (hr7.mono (by omega))
    replace hB := hB.trans (hr9.mono (by omega))
    have zz1_2 := hr.size
    have zi1 := hB.size
    have zy2_7 := hr7.size
    have zy2_9 := hr9.size
    clear hr hr7 hr9
    obtain ⟨k0, k1, k2, f0, f1, f2⟩ := EA.three
    obtain ⟨k3, k4, k5, f3, f4, f5⟩ := ER.three
    have hcc := ER.three
    have r0 := hcc.1
    have r1 := hcc.2.1
    have r2 := hcc.2.2.1
    clear hcc
    have qEA := EA.lt
    have qER := ER.lt
    have hs0 := Nat.le_refl X2.heap.size
    have hT := turns3 (w.heap.size + 1) X2 (.bool b) (.slice a1 xs.length c1) (.slice a2 ds.length c2)
    replace FA := FA.beside ER (noWord3 (fun _ e => by cases e) (fun _ e => by cases e) (fun _ e => by cases e)) hT
    replace EA := EA.turns hT (by omega)
    replace S1 := S1.beside ER (noWord3 (fun _ e => by cases e) (fun _ e => by cases e) (fun _ e => by cases e)) hT
    replace S2 := S2.beside ER (noWord3 (fun _ e => by cases e) (fun _ e => by cases e) (fun _ e => by cases e)) hT
    replace ER := Box.set3 (.bool b) (.slice a1 xs.length c1) (.slice a2 ds.length c2) ER
    replace hB := hB.trans (hT.below.mono (by omega))
    replace hs0 := Nat.le_trans hs0 hT.below.size
    clear hT
    go_wp2
    refine bodyPost_ret (v := .agg #[.bool b, .slice a1 xs.length c1, .slice a2 ds.length c2]) (by simp [results, Tryz.f6, go_sem, r0, r1, r2]) rfl ?_
    exact ⟨_, _, _, _, rfl, ⟨S1.mono (by omega), S2.mono (by omega)⟩, hB⟩
inductive GetIs : Except (Int × Int) Int → List Int → Int → Int → Prop where
  | ok {v : Int} {zs : List Int} (hn : Norm zs) (hv : val zs = v) : GetIs (.ok v) zs 0 0
  | err (e p : Int) : GetIs (.error (e, p)) [] e p
def GetSaid (bs : List Int) (w : World) (e : Ending) (w' : World) : Prop :=
  ∃ (a : Option Addr) (cap : Nat) (zs : List Int) (er p : Int), e = .returned (.tuple #[.slice a zs.length cap, .agg #[.int .i64 er, .int .i64 p]]) ∧ Seg w.heap.size w' (.slice a zs.length cap) zs ∧ GetIs (getZ bs) zs er p ∧ zs.length ≤ 2 * bs.length ∧ Below w.heap.size w w'
theorem getAt_drop {bs : List Int} (hb : Octs bs) {i : Nat} (hi : i < bs.length) (h0 : Bool) (n : Nat) : getAt h0 i n ((bs.map Int.toNat).drop i) = if ¬ (48 ≤ bs[i]?.getD 0 ∧ bs[i]?.getD 0 ≤ 57) ∨ (i = 1 ∧ h0 = true) then .error i else getAt h0 (i + 1) (n * 10 + ((bs[i]?.getD 0).toNat - 48)) ((bs.map Int.toNat).drop (i + 1)) := by
  have hl : i < (bs.map Int.toNat).length := by simpa using hi
  rw [List.drop_eq_getElem_cons hl, getAt, List.getElem_map, List.getElem?_eq_getElem hi]
  have hx := hb bs[i] (List.getElem_mem hi)
  have e : isDig (bs[i].toNat) = false ↔ ¬ (48 ≤ bs[i] ∧ bs[i] ≤ 57) := by
    unfold isDig
    rw [decide_eq_false_iff_not]
    constructor
    · intro h h2; exact h ⟨by omega, by omega⟩
    · intro h h2; exact h ⟨by omega, by omega⟩
  simp only [e, Option.getD_some]
theorem head_zero {bs : List Int} (hb : Octs bs) (h : 0 < bs.length) : ((bs.map Int.toNat).head? == some 48) = decide (bs[0]?.getD 0 = 48) := by
  cases bs with
  | nil => simp at h
  | cons b bs =>
    have := hb.head
    rw [Bool.eq_iff_iff, beq_iff_eq, decide_eq_true_iff]
    simp
    omega
set_option maxRecDepth 100000 in
theorem jdigit_any (c : Int) (w : World) : Calls Tryz.prog 48 #[.int .u8 c] w fun e w' => e = .returned (.bool (decide (48 ≤ c ∧ c ≤ 57))) ∧ w = w' := by
  obtain ⟨d, hd⟩ : ∃ d, decide (48 ≤ c ∧ c ≤ 57) = d := ⟨_, rfl⟩
  rw [hd]
  go_enter Tryz.func48, Tryz.ntmps48
  by_cases h1 : 48 ≤ c
  · by_cases h2 : c ≤ 57
    · have H : Hid (d = true) := by rw [Hid, ← hd]; exact decide_eq_true ⟨h1, h2⟩
      clear hd
      go_wp2
      go_ret
      exact ⟨by rw [H.out]; rfl, rfl⟩
    · have H : Hid (d = false) := by rw [Hid, ← hd]; exact decide_eq_false (fun h => h2 h.2)
      clear hd
      go_wp2
      go_ret
      exact ⟨by rw [H.out]; rfl, rfl⟩
  · have H : Hid (d = false) := by rw [Hid, ← hd]; exact decide_eq_false (fun h => h1 h.1)
    clear hd
    go_wp2
    go_ret
    exact ⟨by rw [H.out]; rfl, rfl⟩
theorem getZ_err {bs : List Int} (hl : bs.length ≤ 10000) {i : Nat} (h : getL (bs.map Int.toNat) = .error i) : getZ bs = .error (6, (i : Int)) := by
  rw [getZ, if_neg (by omega), h]
theorem getZ_ok {bs : List Int} (hl : bs.length ≤ 10000) (hne : bs ≠ []) {n : Nat} (h : getL (bs.map Int.toNat) = .ok n) : getZ bs = .ok (n : Int) := by
  rw [getZ, if_neg (by omega), h]
  simp only [if_neg hne]
set_option maxRecDepth 100000 in
set_option maxHeartbeats 4000000 in
theorem jget_any (s : ByteArray) (w : World) (hl : s.size ≤ 1000 ∨ 10000 < s.size) : Calls Tryz.prog 23 #[.string s] w fun e w' => GetSaid (octs s) w e w' := by
  have HLEN := hide (octs_len s)
  have hbs := octs_octs s
  have hq := below_new w (.cells #[.int .i64 0, .int .i64 0] 35)
  have E : Box (w.alloc (.cells #[.int .i64 0, .int .i64 0] 35)) w.heap.size (.cells #[.int .i64 0, .int .i64 0] 35) := Box.put _ rfl
  go_enter Tryz.func23, Tryz.ntmps23
  by_cases h1 : 10000 < s.size
  · have HG : Hid (getZ (octs s) = .error (4, 10000)) := by rw [Hid, getZ, if_pos (by rw [HLEN.out]; exact h1)]
    have h2 : (10000 : Int) < (s.size : Int) := by omega
    have hq2 : Below w.heap.size w (w.alloc (.cells #[.int .i64 4, .int .i64 10000] 35)) := (Below.refl _ _).alloc (Nat.le_refl _) _
    clear hl E hq
    go_wp2
    refine bodyPost_ret (v := .tuple #[.slice none 0 0, .agg #[.int .i64 4, .int .i64 10000]]) (by simp [results, Tryz.f23, go_sem]) rfl ?_
    exact ⟨none, 0, [], 4, 10000, rfl, Seg.nil _ _, by rw [HG.out]; exact .err 4 10000, Nat.zero_le _, hq2⟩
  · have h2 : ¬ (10000 : Int) < (s.size : Int) := by omega
    have hS : s.size ≤ 1000 := by omega
    obtain ⟨T, hT⟩ : ∃ T, getL ((octs s).map Int.toNat) = T := ⟨_, rfl⟩
    obtain ⟨z0, hz0⟩ : ∃ z, (((octs s).map Int.toNat).head? == some 48) = z := ⟨_, rfl⟩
    have HT := hide hT
    have HZ := hide hz0
    have HD0 : Hid (T = getAt z0 0 (val []).toNat (((octs s).map Int.toNat).drop 0)) := by rw [Hid, ← hT, getL, hz0]; rfl
    clear hT hz0 hl h1
    go_wp2
    go_loopw [4, 5] (fun nv iv wr => ∃ (i : Nat) (a1 : Option Addr) (c1 : Nat) (ns : List Int), i ≤ s.size ∧ nv = .slice a1 ns.length c1 ∧ iv = .int .i64 i ∧ Seg w.heap.size wr (.slice a1 ns.length c1) ns ∧ Norm ns ∧ ns.length ≤ 2 * i ∧ Box wr w.heap.size (.cells #[.int .i64 0, .int .i64 0] 35) ∧ Hid (T = getAt z0 i (val ns).toNat (((octs s).map Int.toNat).drop i)) ∧ Below w.heap.size w wr) (fun _ iv _ => s.size - (intOf iv).toNat)
    case atStart => exact ⟨0, none, 0, [], Nat.zero_le _, rfl, rfl, Seg.nil _ _, Or.inl rfl, by simp, E, HD0, hq⟩
    case round =>
      clear HD0 E hq
      obtain ⟨i, a1, c1, ns, hi, rfl, rfl, hs, hn, hnl, E, HD, hB⟩ := hrel
      have qE := E.lt
      have zB := hB.size
      by_cases hlt : i < s.size
      · have hlt2 : (i : Int) < (s.size : Int) := by omega
        have hge : (0 : Int) ≤ (i : Int) := by omega
        have hw1 : IntKind.i64.wrap ((i : Int) + 1) = (i : Int) + 1 := by rw [IntKind.wrap_i64]; omega
        obtain ⟨b, hb⟩ : ∃ b, (octs s)[i]?.getD 0 = b := ⟨_, rfl⟩
        have hbb : 0 ≤ b ∧ b < 256 := by rw [← hb]; exact hbs.getD i
        have hby : ∀ h : i < s.size, (((s[i]'h).toNat : Nat) : Int) = b := fun h => by rw [octs_at, hb]
        have HN := hide (getAt_drop hbs (i := i) (by rw [HLEN.out]; exact hlt) z0 (val ns).toNat)
        rw [hb] at HN
        have hk := fun w => jdigit_any b w
        by_cases hd : 48 ≤ b ∧ b ≤ 57
        · have hdd := decide_eq_true hd
          rw [hdd] at hk
          by_cases h01 : i = 1 ∧ z0 = true
          · obtain ⟨rfl, rfl⟩ := h01
            have HG : Hid (getZ (octs s) = .error (6, ((1 : Nat) : Int))) := getZ_err (by rw [HLEN.out]; omega) (by rw [HT.out, HD.out, HN.out, if_pos (Or.inr ⟨rfl, rfl⟩)])
            have hb0 : ∀ h : 0 < s.size, (((s[0]'h).toNat : Nat) : Int) = 48 := fun h => by
              rw [octs_at]
              have := head_zero hbs (by rw [HLEN.out]; exact h)
              rw [HZ.out] at this
              exact of_decide_eq_true this.symm
            have h00 : 0 < s.size := by omega
            obtain ⟨k0, k1, f0, f1⟩ := E.two
            clear hb HN HD
            go_wp2_with fail
            refine (hk _).mono ?_
            rintro e w1 ⟨rfl, rfl⟩
            go_wp2
            clear k0 k1 f0 f1
            have E2 := (Box.set2 (.int .i64 6) (.int .i64 1) E).two
            have r0 := E2.1
            have r1 := E2.2.1
            clear E2
            refine bodyPost_ret (v := .tuple #[.slice none 0 0, .agg #[.int .i64 6, .int .i64 1]]) (by simp [results, Tryz.f23, go_sem, r0, r1]) rfl ?_
            exact ⟨none, 0, [], 6, 1, rfl, Seg.nil _ _, by rw [HG.out]; exact .err 6 1, Nat.zero_le _, hB.trans (turns2 _ _ _ _).below⟩
          · have hcase : i ≠ 1 ∨ (i = 1 ∧ (octs s)[0]?.getD 0 ≠ 48) := by
              by_cases e : i = 1
              · right
                refine ⟨e, fun h48 => h01 ⟨e, ?_⟩⟩
                have := head_zero hbs (by rw [HLEN.out]; omega)
                rw [HZ.out, decide_eq_true h48] at this
                exact this
              · exact Or.inl e
            have HN2 : Hid (T = getAt z0 (i + 1) ((val ns).toNat * 10 + (b.toNat - 48)) (((octs s).map Int.toNat).drop (i + 1))) := by
              rw [Hid, HD.out, HN.out, if_neg]
              rintro (h | h)
              · exact h hd
              · exact h01 h
            have hw2 : IntKind.u8.wrap (b - 48) = b - 48 := by rw [IntKind.wrap_u8]; omega
            have hw3 : IntKind.u64.wrap (b - 48) = b - 48 := by rw [IntKind.wrap_u64]; omega
            clear hb HN HD h01 hdd
            have hcase2 : (¬ (i : Int) = 1) ∨ (i = 1 ∧ ∃ b0 : Int, b0 ≠ 48 ∧ ∀ h : 0 < s.size, (((s[0]'h).toNat : Nat) : Int) = b0) := by
              rcases hcase with h | ⟨h, h48⟩
              · left; omega
              · right; exact ⟨h, _, h48, fun h => octs_at s 0 h⟩
            have h00 : 0 < s.size := by omega
            have hms : s.size - (i + 1) < s.size - i := by omega
            have hvn := val_nonneg hs.words
            clear hcase
            rcases hcase2 with hi1 | ⟨rfl, b0, hb48, hb0⟩
            all_goals
              go_wp2_with fail
              refine (hk _).mono ?_
              rintro e w1 ⟨rfl, rfl⟩
              go_wp2_with fail
              replace hs := hs.drew
              replace E := E.drew
              have hr := Below.refl wr.drew.heap.size wr.drew
              have t0 : Hid True := trivial
              go_region_held3 (fun _ : World => True)
                (exact trivial)
                (first
                | (clear t0
                   go_at_call 50
                   refine (rgrow_any hs (by omega) 10 (by decide)).mono ?_
                   rintro e w2 ⟨a2, c2, z2, rfl, S2, N2, V2, l2, hb2⟩
                   replace E := E.below hb2
                   replace hr := hr.trans (hb2.mono hr.size)
                   clear hb2
                   have t1 : Hid True := trivial)
                | (clear t1
                   go_at_call 51
                   refine (rof_any (b - 48) ⟨by omega, by omega⟩ _).mono ?_
                   rintro e w3 ⟨a3, c3, z3, rfl, S3, N3, V3, l3, hb3⟩
                   replace E := E.below hb3
                   replace S2 := S2.below hb3
                   replace hr := hr.trans (hb3.mono hr.size)
                   clear hb3
                   have t2 : Hid True := trivial)
                | (clear t2
                   go_at_call 49
                   refine (radd_any S2 S3 (by omega) (by omega)).mono ?_
                   rintro e w4 ⟨a4, c4, z4, rfl, S4, N4, V4, l4, hb4⟩
                   have zs4 := hr.size
                   replace E := E.below hb4
                   replace hr := hr.trans (hb4.mono hr.size)
                   clear hb4
                   have t3 : Hid True := trivial))
              all_goals
                have HV4 : Hid (val z4 = val ns * 10 + (b - 48)) := by rw [Hid, V4, V2, V3]
                clear V4 V2 V3
                replace hB := hB.trans ((Below.trans (Below.drew (Below.refl wr.heap.size wr)) hr).mono hB.size)
                have zd : wr.drew.heap.size = wr.heap.size := rfl
                have hm : max z2.length z3.length ≤ ns.length + 1 := by omega
                go_wp2
                refine ⟨⟨_, a4, c4, z4, ?_, rfl, by first | exact congrArg (Value.int IntKind.i64) (Int.natCast_succ _).symm | rfl, S4.mono (by omega), N4, ?_, E, Eq.trans HN2.out (by rw [HV4.out]; congr 1; omega), hB⟩, by simpa [intOf] using hms⟩
                · omega
                · omega
        · have hdd := decide_eq_false hd
          rw [hdd] at hk
          have HG : Hid (getZ (octs s) = .error (6, (i : Int))) := getZ_err (by rw [HLEN.out]; omega) (by rw [HT.out, HD.out, HN.out, if_pos (Or.inl hd)])
          obtain ⟨k0, k1, f0, f1⟩ := E.two
          clear hb HN HD hd hdd
          go_wp2_with fail
          refine (hk _).mono ?_
          rintro e w1 ⟨rfl, rfl⟩
          go_wp2
          clear k0 k1 f0 f1
          have E2 := (Box.set2 (.int .i64 6) (.int .i64 i) E).two
          have r0 := E2.1
          have r1 := E2.2.1
          clear E2
          refine bodyPost_ret (v := .tuple #[.slice none 0 0, .agg #[.int .i64 6, .int .i64 i]]) (by simp [results, Tryz.f23, go_sem, r0, r1]) rfl ?_
          exact ⟨none, 0, [], 6, i, rfl, Seg.nil _ _, by rw [HG.out]; exact .err 6 i, Nat.zero_le _, hB.trans (turns2 _ _ _ _).below⟩
      · have hnl2 : ¬ (i : Int) < (s.size : Int) := by omega
        have HE : Hid (T = .ok (val ns).toNat) := by
          rw [Hid, HD.out, List.drop_of_length_le (by rw [List.length_map, HLEN.out]; omega)]
          rfl
        obtain ⟨k0, k1, f0, f1⟩ := E.two
        by_cases h0 : s.size = 0
        · have HG : Hid (getZ (octs s) = .error (6, 0)) := by
            rw [Hid, List.length_eq_zero_iff.1 (HLEN.out.trans h0)]
            rfl
          have hz : (s.size : Int) = 0 := by omega
          clear HD HE
          go_wp2
          clear k0 k1 f0 f1
          have E2 := (Box.set2 (.int .i64 6) (.int .i64 0) E).two
          have r0 := E2.1
          have r1 := E2.2.1
          clear E2
          refine bodyPost_ret (v := .tuple #[.slice none 0 0, .agg #[.int .i64 6, .int .i64 0]]) (by simp [results, Tryz.f23, go_sem, r0, r1]) rfl ?_
          exact ⟨none, 0, [], 6, 0, rfl, Seg.nil _ _, by rw [HG.out]; exact .err 6 0, Nat.zero_le _, hB.trans (turns2 _ _ _ _).below⟩
        · have HG : Hid (getZ (octs s) = .ok (val ns)) := by
            rw [Hid, getZ_ok (by rw [HLEN.out]; omega) (fun e => h0 (by rw [← HLEN.out, e]; rfl)) (HT.out.trans HE.out)]
            have := val_nonneg hs.words
            rw [Int.toNat_of_nonneg this]
          have hz : ¬ (s.size : Int) = 0 := by omega
          clear HD HE
          go_wp2
          clear k0 k1 f0 f1
          have E2 := (Box.set2 (.int .i64 0) (.int .i64 0) E).two
          have r0 := E2.1
          have r1 := E2.2.1
          clear E2
          refine bodyPost_ret (v := .tuple #[.slice a1 ns.length c1, .agg #[.int .i64 0, .int .i64 0]]) (by simp [results, Tryz.f23, go_sem, r0, r1]) rfl ?_
          exact ⟨a1, c1, ns, 0, 0, rfl, hs.beside E (noWord2 (fun _ e => by cases e) (fun _ e => by cases e)) (turns2 _ _ _ _), by rw [HG.out]; exact .ok hn rfl, by rw [HLEN.out]; omega, hB.trans (turns2 _ _ _ _).below⟩
def GotSaid (bs : List Int) (w : World) (e : Ending) (w' : World) : Prop :=
  ∃ (a : Option Addr) (cap : Nat) (zs : List Int) (er p : Int), e = .returned (.tuple #[.slice a zs.length cap, .agg #[.int .i64 er, .int .i64 p]]) ∧ Seg w.heap.size w' (.slice a zs.length cap) zs ∧ GetIs (getP bs) zs er p ∧ zs.length ≤ bs.length ∧ Below w.heap.size w w'
def textSize : Value → Nat
  | .string t => t.size
  | _ => 0
theorem octs_cut (s : ByteArray) (i j : Nat) : octs (s.extract i j) = ((octs s).drop i).take (j - i) := by
  unfold octs
  rw [ByteArray.data_extract, Array.toList_extract, List.extract, List.map_take, List.map_drop]
theorem behind_val {bs : List Int} {k m : Nat} {v : Int} (h : k = 0 ∨ m = 19) (hk : k + m ≤ bs.length) (hv : v = numZ (bs.take k)) : numZ (bs.take (k + m)) = v * 10000000000000000000 + numZ ((bs.drop k).take m) := by
  rw [List.take_add, numZ_append, ← hv, List.length_take, List.length_drop, Nat.min_eq_left (by omega)]
  rcases h with h | h
  · subst h
    have : v = 0 := by rw [hv]; rfl
    subst this
    simp
  · subst h
    rfl
set_option maxRecDepth 100000 in
set_option maxHeartbeats 4000000 in
theorem get_any (s : ByteArray) (w : World) (hl : s.size ≤ 1000 ∨ 10000 < s.size) : Calls Tryz.prog 32 #[.string s] w fun e w' => GotSaid (octs s) w e w' := by
  have HLEN := hide (octs_len s)
  have hbs := hide (octs_octs s)
  have hq := below_new w (.cells #[.int .i64 0, .int .i64 0] 35)
  have E : Box (w.alloc (.cells #[.int .i64 0, .int .i64 0] 35)) w.heap.size (.cells #[.int .i64 0, .int .i64 0] 35) := Box.put _ rfl
  go_enter Tryz.func32, Tryz.ntmps32
  by_cases h1 : 10000 < s.size
  · have HG : Hid (getP (octs s) = .error (4, 10000)) := by rw [Hid, getP, if_pos (by rw [HLEN.out]; exact h1)]
    have h2 : (10000 : Int) < (s.size : Int) := by omega
    have hq2 : Below w.heap.size w (w.alloc (.cells #[.int .i64 4, .int .i64 10000] 35)) := (Below.refl _ _).alloc (Nat.le_refl _) _
    clear hl E hq
    go_wp2
    refine bodyPost_ret (v := .tuple #[.slice none 0 0, .agg #[.int .i64 4, .int .i64 10000]]) (by simp [results, Tryz.f32, go_sem]) rfl ?_
    exact ⟨none, 0, [], 4, 10000, rfl, Seg.nil _ _, by rw [HG.out]; exact .err 4 10000, Nat.zero_le _, hq2⟩
  · have h2 : ¬ (10000 : Int) < (s.size : Int) := by omega
    have hS : s.size ≤ 1000 := by omega
    have hwr := fun w => wrongAt_any s w (by omega)
    have HL0 : Hid (¬ 10000 < (octs s).length) := by rw [Hid, HLEN.out]; omega
    obtain ⟨k0, k1, f0, f1⟩ := E.two
    clear hl h1
    go_wp2_with fail
    refine (hwr _).mono ?_
    rintro e w1 ⟨hres, rfl⟩
    clear hwr
    rcases hres with ⟨rfl, hok⟩ | ⟨rfl, hno⟩
    · have HOK := hide hok
      have HV0 : Hid (val [] = numZ ((octs s).take 0)) := by rw [Hid, List.take_zero]; rfl
      have HO0 : Hid (octs s = (octs s).drop 0) := by rw [Hid, List.drop_zero]
      obtain ⟨W1, hW1⟩ : ∃ W, w.alloc (.cells #[.int .i64 0, .int .i64 0] 35) = W := ⟨_, rfl⟩
      have hz1 : W1.heap.size = w.heap.size + 1 := by rw [← hW1, World.size_alloc]
      rw [hW1] at E hq k0 k1 f0 f1 ⊢
      clear hok hW1 k0 k1 f0 f1
      go_wp2
      go_loopw [0, 6] (fun sv nv wr => ∃ (k : Nat) (t : ByteArray) (a : Option Addr) (c : Nat) (ns : List Int), sv = .string t ∧ nv = .slice a ns.length c ∧ k + t.size = s.size ∧ (k = 0 ∨ ∃ m, t.size = 19 * m) ∧ Hid (octs t = (octs s).drop k) ∧ Own W1.heap.size wr (.slice a ns.length c) ns ∧ Norm ns ∧ Hid (val ns = numZ ((octs s).take k)) ∧ ns.length ≤ k ∧ Below W1.heap.size W1 wr) (fun sv _ _ => textSize sv)
      case atStart => exact ⟨0, s, none, 0, [], rfl, rfl, by omega, Or.inl rfl, HO0, own_nil _ _, norm_nil, HV0, by simp, Below.refl _ _⟩
      case round =>
        clear HV0 HO0
        obtain ⟨k, t, a, c, ns, rfl, rfl, hk, hm, HO, ho, hn, HV, hnl, hB⟩ := hrel
        by_cases ht : 0 < t.size
        · have ht2 : (0 : Int) < (t.size : Int) := by omega
          obtain ⟨z, hz⟩ : ∃ z : Nat, (t.size - 1) % 19 + 1 = z := ⟨_, rfl⟩
          have hzb : 1 ≤ z ∧ z ≤ 19 ∧ z ≤ t.size := by omega
          have hzm : k = 0 ∨ z = 19 := by
            rcases hm with h | ⟨m, h⟩
            · exact Or.inl h
            · right; omega
          have hzn : ∃ m, t.size - z = 19 * m := ⟨(t.size - z) / 19, by omega⟩
          have hw1 : IntKind.i64.wrap ((t.size : Int) - 1) = (t.size : Int) - 1 := by rw [IntKind.wrap_i64]; omega
          have hw2 : IntKind.i64.wrap (((t.size : Int) - 1) % 19 + 1) = (z : Int) := by rw [IntKind.wrap_i64]; omega
          obtain ⟨T1, hT1⟩ : ∃ T, t.extract 0 z = T := ⟨_, rfl⟩
          have HO1 : Hid (octs T1 = ((octs s).drop k).take z) := by rw [Hid, ← hT1, octs_cut, List.drop_zero, Nat.sub_zero, HO.out]
          obtain ⟨T2, hT2⟩ : ∃ T, t.extract z t.size = T := ⟨_, rfl⟩
          have HO2 : Hid (octs T2 = (octs s).drop (k + z)) := by rw [Hid, ← hT2, octs_cut, List.take_of_length_le (by rw [List.length_drop, octs_len]; omega), HO.out, List.drop_drop]
          have z1 : T1.size = z := by rw [← octs_len, HO1.out, List.length_take, List.length_drop, HLEN.out]; omega
          have z2 : T2.size = t.size - z := by rw [← octs_len, HO2.out, List.length_drop, HLEN.out]; omega
          have hA1 : AllDig (octs T1) := fun y hy => HOK.out.2.1 y (by
            rw [HO1.out] at hy
            exact List.mem_of_mem_drop (List.mem_of_mem_take hy))
          have hgg := fun w => getGroup_any T1 w (by omega) hA1
          have hgb := numZ_bound (octs T1) hA1
          have hgb2 := numZ_lt (k := 19) hA1 (by rw [octs_len]; omega)
          rw [show (10 : Int) ^ 19 = 10000000000000000000 by decide] at hgb2
          have HN2 : Hid (numZ ((octs s).take (k + z)) = val ns * 10000000000000000000 + numZ (octs T1)) := by
            rw [Hid, HO1.out]
            exact behind_val hzm (by rw [HLEN.out]; omega) HV.out
          have hpb := putBehind_any ho hn (by omega) hB.size (numZ (octs T1)) ⟨hgb.1, hgb2⟩
          obtain ⟨G, hG⟩ : ∃ G, numZ (octs T1) = G := ⟨_, rfl⟩
          rw [hG] at hgg hpb HN2
          have hz0 : (0 : Int) ≤ (z : Int) := by omega
          have hz3 : (z : Int) ≤ (t.size : Int) := by omega
          have HZ := hide hzn
          have HK : Hid (1 ≤ z ∧ z ≤ t.size) := ⟨hzb.1, hzb.2.2⟩
          have Hz2 := hide z2
          clear hm hzm hzn hA1 hgb hgb2 hG z1 z2 hzb hz
          go_wp2_with fail
          refine (hgg _).mono ?_
          rintro e w1 ⟨rfl, rfl⟩
          go_wp2_with fail
          refine hpb.mono ?_
          rintro e w2 ⟨a2, c2, ys, rfl, ho2, hn2, hv2, hl2, hb2⟩
          have HV2 : Hid (val ys = numZ ((octs s).take (k + z))) := by rw [Hid, hv2, HN2.out]
          have hB2 := hB.trans hb2
          clear hgg hpb hv2 ho hB hn
          have HM : Hid (textSize (.string T2) < textSize (.string t)) := by
            show T2.size < t.size
            have := Hz2.out
            have := HK.out
            omega
          go_wp2
          exact ⟨⟨k + z, T2, a2, c2, ys, rfl, rfl, by have := Hz2.out; have := HK.out; omega, Or.inr (by rw [Hz2.out]; exact HZ.out), HO2, ho2, hn2, HV2, by have := HK.out; omega, hB2⟩, HM.out⟩
        · have ht0 : t.size = 0 := by omega
          have hn0 : ¬ (0 : Int) < (t.size : Int) := by omega
          have HG : Hid (getP (octs s) = .ok (val ns)) := by
            rw [Hid, getP, if_neg HL0.out, if_pos ((okB_iff _).2 HOK.out), HV.out, List.take_of_length_le (by rw [HLEN.out]; omega)]
          have E2 : Box wr w.heap.size (.cells #[.int .i64 0, .int .i64 0] 35) := E.under hB (by omega)
          obtain ⟨a', c', e', hs⟩ := own_seg ho
          simp only [Value.slice.injEq] at e'
          obtain ⟨rfl, _, rfl⟩ := e'
          have hB3 : Below w.heap.size w wr := hq.trans (hB.mono (by omega))
          have hs2 := hs.mono (show w.heap.size ≤ W1.heap.size by omega)
          have HNl : Hid (ns.length ≤ (octs s).length) := by rw [Hid, HLEN.out]; omega
          obtain ⟨k0, k1, f0, f1⟩ := E2.two
          clear HV hm HO E
          go_wp2
          clear k0 k1 f0 f1
          have E3 := (Box.set2 (.int .i64 0) (.int .i64 0) E2).two
          have r0 := E3.1
          have r1 := E3.2.1
          clear E3
          refine bodyPost_ret (v := .tuple #[.slice a ns.length c, .agg #[.int .i64 0, .int .i64 0]]) (by simp [results, Tryz.f32, go_sem, r0, r1]) rfl ?_
          exact ⟨a, c, ns, 0, 0, rfl, hs2.beside E2 (noWord2 (fun _ e => by cases e) (fun _ e => by cases e)) (turns2 _ _ _ _), by rw [HG.out]; exact .ok hn rfl, HNl.out, hB3.trans (turns2 _ _ _ _).below⟩
    · have HG : Hid (getP (octs s) = .error (6, (wrongI (octs s) : Int))) := by rw [Hid, getP, if_neg HL0.out, if_neg (fun e => hno ((okB_iff _).1 e))]
      clear hno
      have hq3 : Below w.heap.size w (w.alloc (.cells #[.int .i64 6, .int .i64 (wrongI (octs s))] 35)) := (Below.refl _ _).alloc (Nat.le_refl _) _
      go_wp2
      refine bodyPost_ret (v := .tuple #[.slice none 0 0, .agg #[.int .i64 6, .int .i64 (wrongI (octs s))]]) (by simp [results, Tryz.f32, go_sem]) rfl ?_
      exact ⟨none, 0, [], 6, wrongI (octs s), rfl, Seg.nil _ _, by rw [HG.out]; exact .err 6 _, Nat.zero_le _, hq3⟩
end Go.Proofs.YtfcpaejeppedoaaGreatDoor
namespace Go.Proofs.YtfcpaejeppedoaaGreatDoor
open Go.RowKit
open Go.RowKit
end Go.Proofs.YtfcpaejeppedoaaGreatDoor
namespace Go.Proofs.YtfcpaejeppedoaaGreatDoor
open Go.RowKit
def OfSaid (x d : Int) (w : World) (e : Ending) (w' : World) : Prop := ∃ (g : Bool) (a : Option Addr) (ca : Nat) (xs : List Int) (c : Option Addr) (cc : Nat) (ds : List Int), e = .returned (.agg #[.bool g, .slice a xs.length ca, .slice c ds.length cc]) ∧ Fr w.heap.size w' a ca xs c cc ds ∧ Apart a c xs ds ∧ Canon g xs ∧ Norm ds ∧ Hid (sgn g (val xs) = x) ∧ Hid (val ds = d) ∧ xs.length ≤ 1 ∧ ds.length ≤ 1 ∧ Below w.heap.size w w'
structure GoodIs (v : Bool) (rs : List RV) : Prop where
  out : v = true ↔ ∀ r ∈ rs, formR r.b r.xs r.ds = 0
def longB (r : RV) : Bool := decide ((5 : Int) < (r.xs.length : Int) ∨ (5 : Int) < (r.ds.length : Int))
structure LongIs (v : Bool) (rs : List RV) : Prop where
  out : v = true ↔ 6 < rs.length ∨ ∃ r ∈ rs.take 7, longB r = true
set_option maxRecDepth 100000 in
set_option maxHeartbeats 4000000 in
theorem kone_any (w : World) : Calls Tryz.prog 41 #[] w fun e w' => ∃ (a : Option Addr) (c : Nat) (z : List Int), e = .returned (.slice a z.length c) ∧ Seg w.heap.size w' (.slice a z.length c) z ∧ Norm z ∧ val z = 1 ∧ z.length ≤ 1 ∧ Below w.heap.size w w' := by
  have s := seg_lit w [1] (words_of rfl)
  have hb : Below w.heap.size w (w.alloc (.cells #[.int .u64 1] 42)) := (Below.refl _ w).a1 _
  go_enter Tryz.func41, Tryz.ntmps41
  go_wp2
  go_ret
  exact ⟨_, _, [1], rfl, s, Or.inr (by decide), by decide, by decide, hb⟩
set_option maxRecDepth 100000 in
set_option maxHeartbeats 1000000 in
theorem kcheck_any {lo : Nat} {a c : Option Addr} {ca cc : Nat} {xs ds : List Int} {w : World} (b : Bool) (h : Fr lo w a ca xs c cc ds) (hl : xs.length ≤ 1000) (hl' : ds.length ≤ 1000) :
    Calls Tryz.prog 19 #[.agg #[.bool b, .slice a xs.length ca, .slice c ds.length cc]] w fun e w' => e = .returned (.int .i64 (formR b xs ds)) ∧ Below w.heap.size w w' := by
  have hB0 : Below w.heap.size w (w.alloc (.cells #[.bool b, .slice a xs.length ca, .slice c ds.length cc] 27)) := (Below.refl _ w).alloc (Nat.le_refl _) _
  have E := Box.new w (.cells #[.bool b, .slice a xs.length ca, .slice c ds.length cc] 27)
  have hck := icheck_any b (h.up.below hB0) (by omega)
  obtain ⟨f, hf⟩ : ∃ f, formI b xs = f := ⟨_, rfl⟩
  have HR : Hid (formR b xs ds = if f = 0 ∧ formOf ds = 0 ∧ ds ≠ [] ∧ gcdI (val xs) (val ds) = 1 then 0 else 6) := by rw [Hid, ← hf]; rfl
  rw [hf] at hck
  clear hf
  go_enter Tryz.func19, Tryz.ntmps19
  go_wp2_with fail
  refine hck.mono ?_
  rintro e w1 ⟨rfl, hb1⟩
  have E1 := E.below hb1
  have hB1 := hB0.trans (hb1.mono hB0.size)
  obtain ⟨k0, k1, k2, _⟩ := E1.three
  clear hck
  by_cases h0 : f = 0
  · subst h0
    have hc := (rcheck_any (h.down.below hB1) (by omega)).mono (fun e w' k => (⟨k.1, k.2 ▸ Below.refl _ _⟩ : _ ∧ Below w1.heap.size w1 w'))
    obtain ⟨g, hg⟩ : ∃ g, formOf ds = g := ⟨_, rfl⟩
    rw [hg] at hc
    have HG := hide hg
    clear hg
    go_wp2_with fail
    refine hc.mono ?_
    rintro e w2 ⟨rfl, hb2⟩
    have E2 := E1.below hb2
    have hB2 := hB1.trans (hb2.mono hB1.size)
    clear hc k0 k1 k2
    obtain ⟨k0, k1, k2, _⟩ := E2.three
    by_cases h1 : g = 0
    · subst h1
      by_cases h2 : ds = []
      · subst h2
        go_wp2
        go_ret
        exact ⟨ret_int (by rw [HR.out, if_neg (by simp)]), hB2⟩
      · have hz : ((ds.length : Int) == 0) = false := beq_eq_false_iff_ne.2 (by have := List.length_pos_iff.2 h2; omega)
        have hgc := rgcd_any (h.up.below hB2) (h.down.below hB2) (by omega) (by omega)
        have hlt := val_lt h.down.words
        have hp : 0 < val ds := norm_pos h.down.words (formOf_norm.1 HG.out) h2
        have hgl : gcdI (val xs) (val ds) ≤ val ds := by
          rw [gcdI_gcd (val_nonneg h.up.words) (by omega)]
          exact Int.le_of_dvd hp (Int.gcd_dvd_right ..)
        have H2 := hide h2
        clear h2 hp
        go_wp2_with fail
        refine hgc.mono ?_
        rintro e w3 ⟨a3, c3, gs, rfl, hs3, n3, v3, hl3, hb3⟩
        have hB3 := hB2.trans (hb3.mono hB2.size)
        have V3 := hide v3
        clear hgc v3 k0 k1 k2 hlt hgl
        go_wp2_with fail
        refine (kone_any _).mono ?_
        rintro e w4 ⟨a4, c4, os, rfl, hs4, n4, v4, hl4, hb4⟩
        have hB4 := hB3.trans (hb4.mono hB3.size)
        have hcm := (rcmp_any (hs3.below hb4) hs4 (by omega) (by omega)).mono (fun e w' k => (⟨k.1, k.2 ▸ Below.refl _ _⟩ : _ ∧ Below w4.heap.size w4 w'))
        rw [v4] at hcm
        obtain ⟨x, hx⟩ : ∃ x, cmpI (val gs) 1 = x := ⟨_, rfl⟩
        rw [hx] at hcm
        have HX := hide hx
        clear hx v4
        go_wp2_with fail
        refine hcm.mono ?_
        rintro e w5 ⟨rfl, hb5⟩
        have hB5 := hB4.trans (hb5.mono hB4.size)
        clear hcm
        by_cases hx0 : x = 0
        · subst hx0
          have hg1 : val gs = 1 := by
            have := HX.out
            unfold cmpI at this
            split at this
            · omega
            · split at this <;> omega
          have HG1 := hide hg1
          clear hg1
          go_wp2
          go_ret
          refine ⟨ret_int ?_, hB5⟩
          rw [HR.out, if_pos ⟨by simp, HG.out, H2.out, by rw [← V3.out]; exact HG1.out⟩]
        · have hxn : (x != 0) = true := bne_iff_ne.2 hx0
          have HX0 := hide hx0
          clear hx0
          go_wp2
          go_ret
          refine ⟨ret_int ?_, hB5⟩
          rw [HR.out, if_neg]
          rintro ⟨_, _, _, h4⟩
          apply HX0.out
          rw [← HX.out, V3.out, h4, cmpI_eq]
    · have hne : (g != 0) = true := bne_iff_ne.2 h1
      have H1 := hide h1
      clear h1
      go_wp2
      go_ret
      exact ⟨ret_int (by rw [HR.out, if_neg (by rw [HG.out]; rintro ⟨_, q, _⟩; exact H1.out q)]), hB2⟩
  · have hne : (f != 0) = true := bne_iff_ne.2 h0
    have H0 := hide h0
    clear h0
    go_wp2
    go_ret
    exact ⟨ret_int (by rw [HR.out, if_neg (by rintro ⟨q, _⟩; exact H0.out q)]), hB1⟩
def textZ (b : Bool) (u d : Int) : List Int := (if b then [45] else []) ++ decI u ++ (if d = 1 then [] else 47 :: decI d)
theorem decI_len {v : Int} {n : Nat} (h0 : 0 ≤ v) (h : v < pw n) : (decI v).length ≤ 20 * n + 1 := by
  rcases Int.lt_or_eq_of_le h0 with h1 | h1
  · rw [decI_pos h1]
    have := decP_len h
    omega
  · rw [← h1, decI_zero]
    simp
set_option maxRecDepth 100000 in
set_option maxHeartbeats 4000000 in
theorem jtext_no {lo : Nat} {a c : Option Addr} {ca cc : Nat} {xs ds : List Int} {w : World} (b : Bool) (FA : Fr lo w a ca xs c cc ds) (hl : xs.length ≤ 1000) (hl2 : ds.length ≤ 1000) (hf : formR b xs ds ≠ 0) :
    Calls Tryz.prog 8 #[.agg #[.bool b, .slice a xs.length ca, .slice c ds.length cc]] w fun e w' => e = .returned (.tuple #[.string (strOfNums []), .int .i64 6]) ∧ Below w.heap.size w w' := by
  have hq := below_new w (.cells #[.bool b, .slice a xs.length ca, .slice c ds.length cc] 27)
  have EA := Box.put (w := w) (k := (w.heap.size)) (.cells #[.bool b, .slice a xs.length ca, .slice c ds.length cc] 27) rfl
  replace FA := FA.below hq
  obtain ⟨x, hx⟩ : ∃ x, formR b xs ds = x := ⟨_, rfl⟩
  rw [hx] at hf
  have hk := kcheck_any b FA hl hl2
  rw [hx] at hk
  have hx0 : (x == 0) = false := beq_eq_false_iff_ne.2 hf
  clear hx hf
  go_enter Tryz.func8, Tryz.ntmps8
  obtain ⟨k0, k1, k2, f0, f1, f2⟩ := EA.three
  go_wp2_with fail
  refine hk.mono ?_
  rintro e w1 ⟨rfl, hb⟩
  replace hq := hq.trans (hb.mono hq.size)
  clear hk hb k0 k1 k2 f0 f1 f2
  go_wp2
  go_ret2
  exact ⟨rfl, hq⟩
set_option maxRecDepth 100000 in
set_option maxHeartbeats 4000000 in
theorem jtext_ok {lo : Nat} {a c : Option Addr} {ca cc : Nat} {xs ds : List Int} {w : World} (b : Bool) (FA : Fr lo w a ca xs c cc ds) (hl : xs.length ≤ 1000) (hl2 : ds.length ≤ 1000) (hf : formR b xs ds = 0) :
    Calls Tryz.prog 8 #[.agg #[.bool b, .slice a xs.length ca, .slice c ds.length cc]] w fun e w' => e = .returned (.tuple #[.string (strOfNums (textZ b (val xs) (val ds))), .int .i64 0]) ∧ Below w.heap.size w w' := by
  have hB : Below w.heap.size w (w.alloc (.cells #[.bool b, .slice a xs.length ca, .slice c ds.length cc] 27)) := (Below.refl _ _).alloc (Nat.le_refl _) _
  have EA := Box.put (w := w) (k := (w.heap.size)) (.cells #[.bool b, .slice a xs.length ca, .slice c ds.length cc] 27) rfl
  replace FA := FA.below hB
  have hk := kcheck_any b FA hl hl2
  rw [hf] at hk
  have b1 := decI_len (val_nonneg FA.up.words) (val_lt FA.up.words)
  have b2 := decI_len (val_nonneg FA.down.words) (val_lt FA.down.words)
  obtain ⟨t1, ht1⟩ : ∃ t, decI (val xs) = t := ⟨_, rfl⟩
  obtain ⟨t2, ht2⟩ : ∃ t, decI (val ds) = t := ⟨_, rfl⟩
  rw [ht1] at b1
  rw [ht2] at b2
  have HT1 := hide ht1
  have HT2 := hide ht2
  obtain ⟨s1, hs1⟩ : ∃ s, strOfNums t1 = s := ⟨_, rfl⟩
  obtain ⟨s2, hs2⟩ : ∃ s, strOfNums t2 = s := ⟨_, rfl⟩
  have z1 : s1.size ≤ 30000 := by rw [← hs1, strOfNums_size]; omega
  have z2 : s2.size ≤ 30000 := by rw [← hs2, strOfNums_size]; omega
  have HS1 := hide hs1
  have HS2 := hide hs2
  clear hf b1 b2 ht1 ht2 hs1 hs2
  go_enter Tryz.func8, Tryz.ntmps8
  obtain ⟨k0, k1, k2, f0, f1, f2⟩ := EA.three
  go_wp2_with fail
  refine hk.mono ?_
  rintro e w1 ⟨rfl, hb⟩
  replace hB := hB.trans (hb.mono hB.size)
  replace FA := FA.below hb
  replace EA := EA.below hb
  clear hk hb k0 k1 k2 f0 f1 f2
  obtain ⟨k0, k1, k2, f0, f1, f2⟩ := EA.three
  have hp := jput_any FA.up (by omega)
  rw [HT1.out, HS1.out] at hp
  go_wp2_with fail
  refine hp.mono ?_
  rintro e w2 ⟨rfl, hb⟩
  replace hB := hB.trans (hb.mono hB.size)
  replace FA := FA.below hb
  replace EA := EA.below hb
  clear hp hb k0 k1 k2 f0 f1 f2
  obtain ⟨k0, k1, k2, f0, f1, f2⟩ := EA.three
  have q1 : ¬ 1 + s1.size > 9223372036854775807 := by omega
  have hq := below_new w2 (.cells #[.int .u64 1] 42)
  have s6 : Seg w2.heap.size (w2.alloc (.cells #[.int .u64 1] 42)) (.slice (some ⟨w2.heap.size, 0, none⟩) [1].length 1) [1] := by
    refine ⟨Words.cons (by decide) Words.nil, _, _, rfl, Nat.le_refl _, fun _ => ⟨_, 0, rfl, Nat.le_refl _, by simp, fun j hj => ?_, fun j _ => frozen_of_heap (World.alloc_heap_new w2 _) _⟩⟩
    obtain rfl : j = 0 := by simpa using hj
    exact cell_of_heap (World.alloc_heap_new w2 _) 0
  have hc := rcmp_any (FA.below hq).down s6 (by omega) (by simp)
  obtain ⟨cv, hcv⟩ : ∃ v, cmpI (val ds) (val [1]) = v := ⟨_, rfl⟩
  rw [hcv] at hc
  have HE := EA.below hq
  have HF := FA.below hq
  have hBq := hB.trans (hq.mono hB.size)
  obtain ⟨W, hW⟩ : ∃ W, w2.alloc (.cells #[.int .u64 1] 42) = W := ⟨_, rfl⟩
  rw [hW] at hc HE HF hBq
  have q2 : ∀ A : ByteArray, A.size ≤ 40000 → ¬ A.size + 1 > 9223372036854775807 := fun A h => by omega
  have q3 : ¬ s1.size + 1 + s2.size > 9223372036854775807 := by omega
  have q4 : ¬ 1 + s1.size + 1 + s2.size > 9223372036854775807 := by omega
  have q5 : ¬ s1.size + 1 > 9223372036854775807 := by omega
  have q6 : ¬ 1 + s1.size + 1 > 9223372036854775807 := by omega
  have e45 : (⟨#[45]⟩ : ByteArray) = strOfNums [45] := rfl
  have e47 : (⟨#[47]⟩ : ByteArray) = strOfNums [47] := rfl
  have G45 := hide e45
  have G47 := hide e47
  clear e45 e47 q2 s6
  by_cases h1 : val ds = 1
  · have hc0 : cv = 0 := by rw [← hcv, h1]; rfl
    have H1 := hide h1
    subst hc0
    clear h1 hcv
    cases b
    all_goals
      go_wp2_with fail
      refine hc.mono ?_
      rintro e w3 ⟨rfl, rfl⟩
      go_wp2
      go_ret2
      refine ⟨?_, hBq⟩
      rw [← HS1.out, textZ, H1.out, HT1.out]
      first | (rw [G45.out, strOfNums_append]; simp; done) | simp
  · have hcn : (cv == 0) = false := by
      refine beq_eq_false_iff_ne.2 ?_
      rw [← hcv]
      show cmpI (val ds) 1 ≠ 0
      unfold cmpI
      split
      · decide
      · rw [if_pos (by omega)]; decide
    have H1 := hide h1
    clear h1 hcv
    cases b
    all_goals
      go_wp2_with fail
      refine hc.mono ?_
      rintro e w3 ⟨rfl, rfl⟩
      clear hc k0 k1 k2 f0 f1 f2
      obtain ⟨k0, k1, k2, f0, f1, f2⟩ := HE.three
      have hp2 := jput_any HF.down (by omega)
      rw [HT2.out, HS2.out] at hp2
      go_wp2_with fail
      refine hp2.mono ?_
      rintro e w4 ⟨rfl, hb⟩
      replace hBq := hBq.trans (hb.mono hBq.size)
      clear hp2 hb k0 k1 k2 f0 f1 f2
      go_wp2
      go_ret2
      refine ⟨?_, hBq⟩
      rw [← HS1.out, ← HS2.out, textZ, if_neg H1.out, HT1.out, HT2.out]
      first | (rw [G45.out, G47.out, strOfNums_append, strOfNums_append, strOfNums_append]; simp) | (rw [G47.out, strOfNums_append, strOfNums_append]; simp)
theorem decI_dig (v : Int) : ∀ z ∈ decI v, 48 ≤ z ∧ z ≤ 57 := by
  intro z hz
  obtain ⟨b, hb, rfl⟩ := List.mem_map.1 hz
  have := of_decide_eq_true (dec_dig v.toNat b hb)
  omega
theorem decI_ne (v : Int) : decI v ≠ [] := fun h => dec_ne_nil v.toNat (List.map_eq_nil_iff.1 h)
def restZ (u d : Int) : List Int := decI u ++ (if d = 1 then [] else 47 :: decI d)
theorem textZ_rest (b : Bool) (u d : Int) : textZ b u d = (if b then [45] else []) ++ restZ u d := by
  rw [textZ, restZ, List.append_assoc]
theorem textZ_octs (b : Bool) (u d : Int) : Octs (textZ b u d) := by
  have h0 : ∀ v, Octs (decI v) := decI_octs
  unfold textZ
  refine Octs.append (Octs.append ?_ (h0 u)) ?_
  · cases b
    · exact Octs.nil
    · exact Octs.cons (by decide) Octs.nil
  · split
    · exact Octs.nil
    · exact Octs.cons (by decide) (h0 d)
theorem rest_head (u d : Int) : (restZ u d).head? ≠ some 45 := by
  unfold restZ
  have h := decI_dig u
  cases hx : decI u with
  | nil => exact absurd hx (decI_ne u)
  | cons z zs =>
    rw [hx] at h
    have := h z (List.mem_cons_self ..)
    simp
    omega
structure Stroke (l : List Int) (k : Nat) : Prop where
  le : k ≤ l.length
  no : ∀ j, j < k → l[j]?.getD 0 ≠ 47
  at_ : k = l.length ∨ l[k]?.getD 0 = 47
theorem Stroke.unique {l : List Int} {k m : Nat} (h : Stroke l k) (h' : Stroke l m) : k = m := by
  rcases Nat.lt_trichotomy k m with hlt | rfl | hlt
  · rcases h.at_ with e | e
    · have := h'.le; omega
    · exact absurd e (h'.no k hlt)
  · rfl
  · rcases h'.at_ with e | e
    · have := h.le; omega
    · exact absurd e (h.no m hlt)
theorem stroke_rest (u d : Int) : Stroke (restZ u d) (decI u).length := by
  unfold restZ
  refine ⟨by simp, fun j hj => ?_, ?_⟩
  · rw [List.getElem?_append_left hj, List.getElem?_eq_getElem hj]
    have := decI_dig u _ (List.getElem_mem hj)
    simp only [Option.getD_some]
    omega
  · by_cases h : d = 1
    · left; rw [if_pos h]; simp
    · right
      rw [if_neg h, List.getElem?_append_right (Nat.le_refl _)]
      simp
theorem rest_take (u d : Int) : (restZ u d).take (decI u).length = decI u := by rw [restZ, List.take_left]
theorem rest_drop {u d : Int} (h : d ≠ 1) : (restZ u d).drop ((decI u).length + 1) = decI d := by
  rw [restZ, if_neg h, List.drop_append]
  simp
theorem rest_short {u d : Int} : (decI u).length < (restZ u d).length ↔ d ≠ 1 := by
  unfold restZ
  by_cases h : d = 1
  · rw [if_pos h]; simp [h]
  · rw [if_neg h]; simp [h]
theorem textZ_inj {b c : Bool} {u d v e : Int} (hu : 0 ≤ u) (hd : 0 ≤ d) (hv : 0 ≤ v) (he : 0 ≤ e) (h : textZ b u d = textZ c v e) : b = c ∧ u = v ∧ d = e := by
  rw [textZ_rest, textZ_rest] at h
  have hb : b = c ∧ restZ u d = restZ v e := by
    cases b <;> cases c
    · exact ⟨rfl, by simpa using h⟩
    · exact absurd (by rw [show restZ u d = 45 :: restZ v e by simpa using h]; rfl) (rest_head u d)
    · exact absurd (by rw [← show 45 :: restZ u d = restZ v e by simpa using h]; rfl) (rest_head v e)
    · exact ⟨rfl, by simpa using h⟩
  obtain ⟨h1, h2⟩ := hb
  have hk : (decI u).length = (decI v).length := (stroke_rest u d).unique (h2 ▸ stroke_rest v e)
  have hu2 : decI u = decI v := by rw [← rest_take u d, ← rest_take v e, h2, hk]
  refine ⟨h1, decI_inj hu hv hu2, ?_⟩
  by_cases h3 : d = 1
  · by_cases h4 : e = 1
    · rw [h3, h4]
    · have := (rest_short (u := v) (d := e)).2 h4
      have h5 := fun h => (rest_short (u := u) (d := d)).1 h h3
      rw [hk, h2] at h5
      exact absurd this h5
  · have h5 := (rest_short (u := u) (d := d)).2 h3
    rw [hk, h2] at h5
    have h4 := (rest_short (u := v) (d := e)).1 h5
    have h6 := rest_drop (u := u) h3
    rw [h2, hk, rest_drop h4] at h6
    exact decI_inj hd he h6.symm
inductive ReadIs (bs : List Int) : Bool → List Int → List Int → Int → Int → Prop where
  | ok {b : Bool} {xs ds : List Int} (low : LowL b xs ds) (ht : textZ b (val xs) (val ds) = bs) (hl : bs.length ≤ 10000) : ReadIs bs b xs ds 0 0
  | long (h : 10000 < bs.length) : ReadIs bs false [] [] 4 10000
  | bad (h : bs.length ≤ 10000) (hn : ∀ (b : Bool) (xs ds : List Int), Words xs → Words ds → LowL b xs ds → textZ b (val xs) (val ds) ≠ bs) : ReadIs bs false [] [] 6 0
theorem ReadIs.unique {bs : List Int} {b c : Bool} {xs ds ys es : List Int} {e p e' p' : Int} (h : ReadIs bs b xs ds e p) (k : ReadIs bs c ys es e' p') (w1 : Words xs) (w2 : Words ds) (w3 : Words ys) (w4 : Words es) : b = c ∧ xs = ys ∧ ds = es ∧ e = e' ∧ p = p' := by
  cases h with
  | ok low ht hl =>
    cases k with
    | ok low' ht' _ =>
      obtain ⟨e1, e2, e3⟩ := textZ_inj (val_nonneg w1) (val_nonneg w2) (val_nonneg w3) (val_nonneg w4) (ht.trans ht'.symm)
      obtain ⟨_, r2⟩ := canon_unique w1 w3 low.1 low'.1 (by rw [e1, e2])
      exact ⟨e1, r2, norm_unique w2 w4 low.2.1 low'.2.1 e3, rfl, rfl⟩
    | long h => omega
    | bad _ hn => exact absurd ht (hn _ _ _ w1 w2 low)
  | long h =>
    cases k with
    | ok _ _ hl => omega
    | long _ => exact ⟨rfl, rfl, rfl, rfl, rfl⟩
    | bad h' _ => omega
  | bad h hn =>
    cases k with
    | ok low ht _ => exact absurd ht (hn _ _ _ w3 w4 low)
    | long h' => omega
    | bad _ _ => exact ⟨rfl, rfl, rfl, rfl, rfl⟩
theorem octs_extract (s : ByteArray) (i j : Nat) : octs (s.extract i j) = ((octs s).drop i).take (j - i) := by
  unfold octs
  rw [ByteArray.data_extract, Array.toList_extract, List.extract, List.map_take, List.map_drop]
structure Parsed (bs : List Int) (bl : Bool) (R : List Int) (k : Nat) : Prop where
  eq : bs = (if bl then [45] else []) ++ R
  no : bl = false → bs.head? ≠ some 45
  st : Stroke R k
theorem Parsed.of_text {bs R : List Int} {bl : Bool} {k : Nat} (h : Parsed bs bl R k) {b : Bool} {u d : Int} (ht : textZ b u d = bs) : b = bl ∧ R = restZ u d ∧ k = (decI u).length := by
  have e := h.eq
  rw [← ht, textZ_rest] at e
  have hb : b = bl ∧ R = restZ u d := by
    cases b <;> cases bl
    · exact ⟨rfl, by simpa using e.symm⟩
    · exact absurd (by rw [show restZ u d = 45 :: R by simpa using e]; rfl) (rest_head u d)
    · exact absurd (by rw [← ht, textZ_rest]; rfl) (h.no rfl)
    · exact ⟨rfl, by simpa using e.symm⟩
  exact ⟨hb.1, hb.2, h.st.unique (hb.2 ▸ stroke_rest u d)⟩
theorem Parsed.len {bs R : List Int} {bl : Bool} {k : Nat} (h : Parsed bs bl R k) : R.length ≤ bs.length := by
  rw [h.eq, List.length_append]
  omega
theorem Parsed.up {bs R : List Int} {bl : Bool} {k : Nat} (h : Parsed bs bl R k) (hl : bs.length ≤ 10000) {b : Bool} {u d : Int} (hu : 0 ≤ u) (ht : textZ b u d = bs) : getZ (R.take k) = .ok u := by
  obtain ⟨_, hR, hk⟩ := h.of_text ht
  have hlen := h.len
  subst hk
  subst hR
  rw [rest_take]
  refine getZ_dec hu ?_
  have : (decI u).length ≤ (restZ u d).length := (stroke_rest u d).le
  omega
theorem Parsed.short {bs R : List Int} {bl : Bool} {k : Nat} (h : Parsed bs bl R k) {b : Bool} {u d : Int} (ht : textZ b u d = bs) : k < R.length ↔ d ≠ 1 := by
  obtain ⟨_, hR, hk⟩ := h.of_text ht
  subst hk
  subst hR
  exact rest_short
theorem Parsed.down {bs R : List Int} {bl : Bool} {k : Nat} (h : Parsed bs bl R k) (hl : bs.length ≤ 10000) {b : Bool} {u d : Int} (hd : 0 ≤ d) (h1 : d ≠ 1) (ht : textZ b u d = bs) : getZ (R.drop (k + 1)) = .ok d := by
  obtain ⟨_, hR, hk⟩ := h.of_text ht
  have hlen := h.len
  subst hk
  subst hR
  have e := rest_drop (u := u) h1
  rw [e]
  refine getZ_dec hd ?_
  have : (decI d).length ≤ (restZ u d).length := by rw [← e, List.length_drop]; omega
  omega
theorem Parsed.badUp {bs R : List Int} {bl : Bool} {k : Nat} (h : Parsed bs bl R k) (hl : bs.length ≤ 10000) {x : Int × Int} (hx : getZ (R.take k) = .error x) (b : Bool) (xs ds : List Int) (hw : Words xs) (_ : Words ds) (_ : LowL b xs ds) : textZ b (val xs) (val ds) ≠ bs := fun ht => by
  rw [h.up hl (val_nonneg hw) ht] at hx
  cases hx
theorem Parsed.badDown {bs R : List Int} {bl : Bool} {k : Nat} (h : Parsed bs bl R k) (hl : bs.length ≤ 10000) (hk : k < R.length) {x : Int × Int} (hx : getZ (R.drop (k + 1)) = .error x) (b : Bool) (xs ds : List Int) (_ : Words xs) (hw : Words ds) (_ : LowL b xs ds) : textZ b (val xs) (val ds) ≠ bs := fun ht => by
  rw [h.down hl (val_nonneg hw) ((h.short ht).1 hk) ht] at hx
  cases hx
theorem Parsed.badZero {bs R : List Int} {bl : Bool} {k : Nat} (h : Parsed bs bl R k) (hl : bs.length ≤ 10000) (hk : k < R.length) (hx : getZ (R.drop (k + 1)) = .ok 0) (b : Bool) (xs ds : List Int) (_ : Words xs) (hw : Words ds) (low : LowL b xs ds) : textZ b (val xs) (val ds) ≠ bs := fun ht => by
  rw [h.down hl (val_nonneg hw) ((h.short ht).1 hk) ht] at hx
  have := low.2.2.1
  injection hx with e
  omega
def DownIs (R : List Int) (k : Nat) (d : Int) : Prop := (k < R.length ∧ getZ (R.drop (k + 1)) = .ok d) ∨ (¬ k < R.length ∧ d = 1)
theorem Parsed.badForm {bs R : List Int} {bl : Bool} {k : Nat} (h : Parsed bs bl R k) (hl : bs.length ≤ 10000) {u : Int} (hu : getZ (R.take k) = .ok u) {zs : List Int} (hd : DownIs R k (val zs)) (hz : Words zs) (hn : Norm zs) {b' : Bool} {ys : List Int} (hy : Words ys) (hc : Canon b' ys) (hs : sgn b' (val ys) = sgn bl u) (hno : ¬ (formR b' ys zs = 0 ∧ textZ b' (val ys) (val zs) = bs))
    (b : Bool) (xs ds : List Int) (hwx : Words xs) (hwd : Words ds) (low : LowL b xs ds) : textZ b (val xs) (val ds) ≠ bs := fun ht => by
  have hu2 := h.up hl (val_nonneg hwx) ht
  rw [hu] at hu2
  injection hu2 with hu3
  have hdd : val zs = val ds := by
    rcases hd with ⟨hk, e⟩ | ⟨hk, e⟩
    · have e2 := h.down hl (val_nonneg hwd) ((h.short ht).1 hk) ht
      rw [e] at e2
      injection e2
    · rw [e]
      rcases Decidable.em (val ds = 1) with h1 | h1
      · exact h1.symm
      · exact absurd ((h.short ht).2 h1) hk
  have hb := (h.of_text ht).1
  obtain ⟨e1, e2⟩ := canon_unique hy hwx hc low.1 (by rw [hs, hb, hu3])
  have e3 := norm_unique hz hwd hn low.2.1 hdd
  subst e1
  subst e2
  subst e3
  exact hno ⟨(formR_low hy hz).2 low, ht⟩
theorem getZ_code {bs : List Int} {e p : Int} (h : getZ bs = .error (e, p)) : e ≠ 0 := by
  unfold getZ at h
  split at h
  · injection h with h; injection h with h1 h2; omega
  · split at h
    · injection h with h; injection h with h1 h2; omega
    · split at h
      · injection h with h; injection h with h1 h2; omega
      · cases h
theorem GetIs.parts {bs zs : List Int} {e p : Int} (h : GetIs (getZ bs) zs e p) : (e ≠ 0 ∧ ∃ x, getZ bs = .error x) ∨ (e = 0 ∧ p = 0 ∧ Norm zs ∧ getZ bs = .ok (val zs)) := by
  generalize hg : getZ bs = G at h
  cases h with
  | ok hn hv => exact Or.inr ⟨rfl, rfl, hn, by rw [hv]⟩
  | err e p => exact Or.inl ⟨getZ_code hg, _, rfl⟩
theorem seg_one {W : World} {k : Nat} (E : Box W k (.cells #[.int .u64 1] 42)) : Seg k W (.slice (some ⟨k, 0, none⟩) [1].length 1) [1] := by
  refine ⟨Words.cons (by decide) Words.nil, _, _, rfl, Nat.le_refl _, fun _ => ⟨_, 0, rfl, Nat.le_refl _, E.lt, fun j hj => ?_, fun j _ => frozen_of_heap E.what _⟩⟩
  obtain rfl : j = 0 := by simpa using hj
  exact cell_of_heap E.what 0
def ReadSaid (bs : List Int) (w : World) (e : Ending) (w' : World) : Prop :=
  ∃ (b : Bool) (a : Option Addr) (ca : Nat) (xs : List Int) (c : Option Addr) (cc : Nat) (ds : List Int) (er p : Int), e = .returned (.tuple #[.agg #[.bool b, .slice a xs.length ca, .slice c ds.length cc], .agg #[.int .i64 er, .int .i64 p]]) ∧ Fr w.heap.size w' a ca xs c cc ds ∧ ReadIs bs b xs ds er p ∧ Below w.heap.size w w'
set_option maxRecDepth 100000 in
set_option maxHeartbeats 8000000 in
theorem jread_long (s : ByteArray) (w : World) (h1 : 10000 < s.size) : Calls Tryz.prog 10 #[.string s] w fun e w' => ReadSaid (octs s) w e w' := by
  have HLEN := hide (octs_len s)
  have hB := Below.refl w.heap.size w
  go_enter Tryz.func10, Tryz.ntmps10
  have HG : Hid (10000 < (octs s).length) := by rw [Hid, HLEN.out]; exact h1
  have h2 : (10000 : Int) < (s.size : Int) := by omega
  have hq : Below w.heap.size w ((w.alloc (.cells #[.bool false, .slice none 0 0, .slice none 0 0] 27)).alloc (.cells #[.int .i64 4, .int .i64 10000] 35)) := ((Below.refl _ _).alloc (Nat.le_refl _) _).alloc (by simp) _
  go_wp2
  refine bodyPost_ret (v := .tuple #[.agg #[.bool false, .slice none 0 0, .slice none 0 0], .agg #[.int .i64 4, .int .i64 10000]]) (by simp [results, Tryz.f10, go_sem]) rfl ?_
  exact ⟨false, none, 0, [], none, 0, [], 4, 10000, rfl, ⟨Seg.nil _ _, Seg.nil _ _⟩, .long HG.out, hq⟩
set_option maxRecDepth 100000 in
set_option maxHeartbeats 8000000 in
theorem jread_minus1 (s R : ByteArray) (w : World) (hS : s.size ≤ 400) (h0 : 0 < s.size) (hm : (octs s)[0]?.getD 0 = 45) (hR : s.extract 1 s.size = R) (HNS : Hid (∀ j, j < R.size → (octs R)[j]?.getD 0 ≠ 47)) : Calls Tryz.prog 10 #[.string s] w fun e w' => ReadSaid (octs s) w e w' := by
  have HLEN := hide (octs_len s)
  have hB := Below.refl w.heap.size w
  go_enter Tryz.func10, Tryz.ntmps10
  have HB : Hid ((octs s).length ≤ 10000) := by rw [Hid, HLEN.out]; omega
  have h2 : ¬ (10000 : Int) < (s.size : Int) := by omega
  have hb0 : ∀ h : 0 < s.size, (((s[0]'h).toNat : Nat) : Int) = 45 := fun h => by rw [octs_at, hm]
  have h01 : (1 : Int) ≤ (s.size : Int) := by omega
  have HR : Hid (octs R = (octs s).drop 1) := by rw [Hid, ← hR, octs_extract, List.take_of_length_le (by rw [List.length_drop, octs_len]; omega)]
  have hRs : R.size ≤ 400 := by rw [← octs_len, HR.out, List.length_drop, octs_len]; omega
  have HP : Hid (∀ k, Stroke (octs R) k → Parsed (octs s) true (octs R) k) := fun k st => by
    refine ⟨?_, fun h => (by cases h), st⟩
    rw [HR.out]
    cases hx : octs s with
    | nil => rw [← HLEN.out, hx] at h0; simp at h0
    | cons z zs => rw [hx] at hm; simp at hm; simp [hm]
  clear hm
  have hs0 := Nat.le_refl w.heap.size
  have hq := below_new w (.cells #[.bool false, .slice none 0 0, .slice none 0 0] 27)
  have E2 := Box.put (w := w) (k := (w.heap.size)) (.cells #[.bool false, .slice none 0 0, .slice none 0 0] 27) rfl
  replace hs0 := Nat.le_trans hs0 hq.size
  replace hB := hB.trans (hq.mono hB.size)
  clear hq
  have hq := below_new (w.alloc (.cells #[.bool false, .slice none 0 0, .slice none 0 0] 27)) (.cells #[.int .i64 0, .int .i64 0] 35)
  replace E2 := E2.below hq
  have E3 := Box.put (w := (w.alloc (.cells #[.bool false, .slice none 0 0, .slice none 0 0] 27))) (k := (w.heap.size + 1)) (.cells #[.int .i64 0, .int .i64 0] 35) (by simp)
  replace hs0 := Nat.le_trans hs0 hq.size
  replace hB := hB.trans (hq.mono hB.size)
  clear hq
  have hq := below_new ((w.alloc (.cells #[.bool false, .slice none 0 0, .slice none 0 0] 27)).alloc (.cells #[.int .i64 0, .int .i64 0] 35)) (.cells #[.int .i64 6, .int .i64 0] 35)
  replace E2 := E2.below hq
  replace E3 := E3.below hq
  have E4 := Box.put (w := ((w.alloc (.cells #[.bool false, .slice none 0 0, .slice none 0 0] 27)).alloc (.cells #[.int .i64 0, .int .i64 0] 35))) (k := (w.heap.size + 2)) (.cells #[.int .i64 6, .int .i64 0] 35) (by simp)
  replace hs0 := Nat.le_trans hs0 hq.size
  replace hB := hB.trans (hq.mono hB.size)
  clear hq
  go_wp2_with fail
  obtain ⟨u1, hname⟩ := nm hB
  rw [hname] at hs0 hB E2 E3 E4 ⊢
  have zh1 := hB.size
  have zs1 := hs0
  clear hname hs0
  go_loopw [7] (fun kv wq => ∃ (k : Nat), kv = .int .i64 k ∧ k ≤ R.size ∧ Hid (∀ j, j < k → (octs R)[j]?.getD 0 ≠ 47) ∧ Box wq (w.heap.size) (.cells #[.bool false, .slice none 0 0, .slice none 0 0] 27) ∧ Box wq (w.heap.size + 1) (.cells #[.int .i64 0, .int .i64 0] 35) ∧ Box wq (w.heap.size + 2) (.cells #[.int .i64 6, .int .i64 0] 35) ∧ Below w.heap.size w wq) (fun kv _ => R.size - (intOf kv).toNat)
  case atStart => exact ⟨0, rfl, Nat.zero_le _, fun j hj => absurd hj (Nat.not_lt_zero j), E2, E3, E4, hB⟩
  case round =>
    clear E2 E3 E4 hB
    obtain ⟨k, rfl, hk, HJ, E2, E3, E4, hB⟩ := hrel
    have zB := hB.size
    have hge : (0 : Int) ≤ (k : Int) := by omega
    have hw1 : IntKind.i64.wrap ((k : Int) + 1) = (k : Int) + 1 := by rw [IntKind.wrap_i64]; omega
    by_cases hlt : k < R.size
    · skip
      have hlt2 : (k : Int) < (R.size : Int) := by omega
      obtain ⟨y, hy⟩ : ∃ y, (octs R)[k]?.getD 0 = y := ⟨_, rfl⟩
      have hby : ∀ h : k < R.size, (((R[k]'h).toNat : Nat) : Int) = y := fun h => by rw [octs_at, hy]
      by_cases h47 : y = 47
      · skip
        have hbyk : (octs R)[k]?.getD 0 = 47 := hy.trans h47
        have HST : Hid (Parsed (octs s) true (octs R) k) := HP.out k ⟨by rw [octs_len]; omega, HJ.out, Or.inr (hy.trans h47)⟩
        subst h47
        clear hy HJ
        exact (HNS.out k hlt hbyk).elim
      · have HJ2 : Hid (∀ j, j < k + 1 → (octs R)[j]?.getD 0 ≠ 47) := by
          rw [Hid]
          intro j hj
          by_cases e : j = k
          · rw [e, hy]; exact h47
          · exact HJ.out j (by omega)
        have hms : R.size - (k + 1) < R.size - k := by omega
        clear hy
        go_wp2
        refine ⟨⟨k + 1, by simp, by omega, HJ2, E2, E3, E4, hB⟩, by simpa [intOf] using hms⟩
    · skip
      have HJX := HJ
      have hlt2 : ¬ (k : Int) < (R.size : Int) := by omega
      have HST : Hid (Parsed (octs s) true (octs R) k) := HP.out k ⟨by rw [octs_len]; omega, HJ.out, Or.inl (by rw [octs_len]; omega)⟩
      clear HJ
      obtain ⟨T1, hT1⟩ : ∃ T, R.extract 0 k = T := ⟨_, rfl⟩
      have HO1 : Hid (octs T1 = (octs R).take k) := by rw [Hid, ← hT1, octs_extract, List.drop_zero, Nat.sub_zero]
      have sz1 : T1.size ≤ 400 := by rw [← octs_len, HO1.out, List.length_take, octs_len]; omega
      go_wp2_with fail
      refine (jget_any T1 _ (Or.inl (by omega))).mono ?_
      rintro e w2 ⟨a1, c1, z1, e1, p1, rfl, S1, I1, L1, hb⟩
      replace E2 := E2.below hb
      replace E3 := E3.below hb
      replace E4 := E4.below hb
      replace hB := hB.trans (hb.mono hB.size)
      have zz2 := hb.size
      have zh2 := hB.size
      clear hb
      have l1 : z1.length ≤ 800 := by rw [octs_len] at L1; omega
      rw [HO1.out] at I1
      clear hT1 L1
      rcases I1.parts with ⟨n1, x1, G1⟩ | ⟨rfl, rfl, N1, G1⟩
      · skip
        have n1b : (e1 == 0) = false := beq_eq_false_iff_ne.2 n1
        have qE2 := E2.lt
        have qE3 := E3.lt
        have qE4 := E4.lt
        have hs0 := Nat.le_refl w2.heap.size
        have hq := below_new w2 (.cells #[.int .i64 e1, .int .i64 p1] 35)
        replace E2 := E2.below hq
        replace E3 := E3.below hq
        replace E4 := E4.below hq
        replace S1 := S1.below hq
        have E9 := Box.put (w := w2) (k := (w2.heap.size)) (.cells #[.int .i64 e1, .int .i64 p1] 35) rfl
        replace hs0 := Nat.le_trans hs0 hq.size
        replace hB := hB.trans (hq.mono hB.size)
        clear hq
        have hq := below_new (w2.alloc (.cells #[.int .i64 e1, .int .i64 p1] 35)) (.cells #[.int .u64 1] 42)
        replace E2 := E2.below hq
        replace E3 := E3.below hq
        replace E4 := E4.below hq
        replace S1 := S1.below hq
        replace E9 := E9.below hq
        have EM := Box.put (w := (w2.alloc (.cells #[.int .i64 e1, .int .i64 p1] 35))) (k := (w2.heap.size + 1)) (.cells #[.int .u64 1] 42) (by simp)
        replace hs0 := Nat.le_trans hs0 hq.size
        replace hB := hB.trans (hq.mono hB.size)
        clear hq
        go_wp2_with fail
        obtain ⟨u3, hname⟩ := nm hB
        rw [hname] at hs0 hB E2 E3 E4 S1 E9 EM ⊢
        have zh3 := hB.size
        have zs3 := hs0
        clear hname hs0
        obtain ⟨k0, k1, k2, f0, f1, f2⟩ := E2.three
        obtain ⟨k3, k4, f3, f4⟩ := E3.two
        obtain ⟨k5, k6, f5, f6⟩ := E4.two
        have qE2 := E2.lt
        have qE3 := E3.lt
        have qE4 := E4.lt
        go_region
        all_goals
          go_wp2
          refine bodyPost_ret (v := .tuple #[.agg #[.bool false, .slice none 0 0, .slice none 0 0], .agg #[.int .i64 6, .int .i64 0]]) (by simp [results, Tryz.f10, go_sem, k0, k1, k2, k3, k4]) rfl ?_
          refine ⟨false, none, 0, [], none, 0, [], 6, 0, rfl, ⟨Seg.nil _ _, Seg.nil _ _⟩, .bad HB.out (HST.out.badUp HB.out G1), ?_⟩
          repeat (first | exact hB | refine Below.drew ?_ | refine Below.setCell ?_ (by simp) _)
      · skip
        have qE2 := E2.lt
        have qE3 := E3.lt
        have qE4 := E4.lt
        have hs0 := Nat.le_refl w2.heap.size
        have hq := below_new w2 (.cells #[.int .i64 0, .int .i64 0] 35)
        replace E2 := E2.below hq
        replace E3 := E3.below hq
        replace E4 := E4.below hq
        replace S1 := S1.below hq
        have E9 := Box.put (w := w2) (k := (w2.heap.size)) (.cells #[.int .i64 0, .int .i64 0] 35) rfl
        replace hs0 := Nat.le_trans hs0 hq.size
        replace hB := hB.trans (hq.mono hB.size)
        clear hq
        have hq := below_new (w2.alloc (.cells #[.int .i64 0, .int .i64 0] 35)) (.cells #[.int .u64 1] 42)
        replace E2 := E2.below hq
        replace E3 := E3.below hq
        replace E4 := E4.below hq
        replace S1 := S1.below hq
        replace E9 := E9.below hq
        have EM := Box.put (w := (w2.alloc (.cells #[.int .i64 0, .int .i64 0] 35))) (k := (w2.heap.size + 1)) (.cells #[.int .u64 1] 42) (by simp)
        replace hs0 := Nat.le_trans hs0 hq.size
        replace hB := hB.trans (hq.mono hB.size)
        clear hq
        go_wp2_with fail
        obtain ⟨u3, hname⟩ := nm hB
        rw [hname] at hs0 hB E2 E3 E4 S1 E9 EM ⊢
        have zh3 := hB.size
        have zs3 := hs0
        clear hname hs0
        have SD : Seg (w2.heap.size + 1) _ (.slice (some ⟨w2.heap.size + 1, 0, none⟩) [1].length 1) [1] := seg_one EM
        have HG1 := hide G1
        clear G1
        have G1 := HG1
        refine (imake_any S1 (by omega) true).mono ?_
        rintro e w4 ⟨b3, a3, c3, y3, rfl, S3, C3, V3, l3, hb⟩
        replace E2 := E2.below hb
        replace E3 := E3.below hb
        replace E4 := E4.below hb
        replace S1 := S1.below hb
        replace E9 := E9.below hb
        replace EM := EM.below hb
        replace SD := SD.below hb
        replace hB := hB.trans (hb.mono hB.size)
        have zz4 := hb.size
        have zh4 := hB.size
        clear hb
        have HV3 := hide V3
        clear V3
        by_cases hf : formR b3 y3 [1] = 0
        · skip
          obtain ⟨tz, htz⟩ : ∃ t, textZ b3 (val y3) (val [1]) = t := ⟨_, rfl⟩
          have HTZ := hide htz
          have htO : Octs tz := by rw [← htz]; exact textZ_octs _ _ _
          clear htz
          have hteq : ((strOfNums tz).toList == s.toList) = decide (tz = octs s) := by rw [str_eq, octs_str htO]
          have HF := hide hf
          clear hf
          have qE2 := E2.lt
          have qE3 := E3.lt
          have qE4 := E4.lt
          have qE9 := E9.lt
          have qEM := EM.lt
          have hs0 := Nat.le_refl w4.heap.size
          have hq := below_new w4 (.cells #[.bool b3, .slice a3 y3.length c3, .slice (some ⟨w2.heap.size + 1, 0, none⟩) 1 1] 27)
          replace E2 := E2.below hq
          replace E3 := E3.below hq
          replace E4 := E4.below hq
          replace S1 := S1.below hq
          replace E9 := E9.below hq
          replace EM := EM.below hq
          replace SD := SD.below hq
          replace S3 := S3.below hq
          have E13 := Box.put (w := w4) (k := (w4.heap.size)) (.cells #[.bool b3, .slice a3 y3.length c3, .slice (some ⟨w2.heap.size + 1, 0, none⟩) 1 1] 27) rfl
          replace hs0 := Nat.le_trans hs0 hq.size
          replace hB := hB.trans (hq.mono hB.size)
          clear hq
          go_wp2_with fail
          obtain ⟨u5, hname⟩ := nm hB
          rw [hname] at hs0 hB E2 E3 E4 S1 E9 EM SD S3 E13 ⊢
          have zh5 := hB.size
          have zs5 := hs0
          clear hname hs0
          have hk := jtext_ok (lo := 0) b3 ⟨S3.mono (Nat.zero_le _), SD.mono (Nat.zero_le _)⟩ (by omega) (by first | omega | simp) HF.out
          rw [HTZ.out] at hk
          refine (hk).mono ?_
          rintro e w6 ⟨rfl, hb⟩
          replace E2 := E2.below hb
          replace E3 := E3.below hb
          replace E4 := E4.below hb
          replace S1 := S1.below hb
          replace E9 := E9.below hb
          replace EM := EM.below hb
          replace SD := SD.below hb
          replace S3 := S3.below hb
          replace E13 := E13.below hb
          replace hB := hB.trans (hb.mono hB.size)
          have zz6 := hb.size
          have zh6 := hB.size
          clear hb
          clear hk
          by_cases ht : tz = octs s
          · skip
            rw [decide_eq_true ht] at hteq
            have HT := hide ht
            clear ht
            obtain ⟨k0, k1, k2, f0, f1, f2⟩ := E2.three
            obtain ⟨k3, k4, f3, f4⟩ := E3.two
            obtain ⟨k5, k6, k7, f5, f6, f7⟩ := E13.three
            have qE2 := E2.lt
            have qE3 := E3.lt
            have qE4 := E4.lt
            have qE9 := E9.lt
            have qEM := EM.lt
            have qE13 := E13.lt
            have hs0 := Nat.le_refl w6.heap.size
            have hT := turns3 (w.heap.size) w6 (.bool b3) (.slice a3 y3.length c3) (.slice (some ⟨w2.heap.size + 1, 0, none⟩) 1 1)
            replace E3 := E3.turns hT (by omega)
            replace E4 := E4.turns hT (by omega)
            replace S1 := S1.beside E2 (noWord3 (fun _ e => by cases e) (fun _ e => by cases e) (fun _ e => by cases e)) hT
            replace E9 := E9.turns hT (by omega)
            replace EM := EM.turns hT (by omega)
            replace SD := SD.beside E2 (noWord3 (fun _ e => by cases e) (fun _ e => by cases e) (fun _ e => by cases e)) hT
            replace S3 := S3.beside E2 (noWord3 (fun _ e => by cases e) (fun _ e => by cases e) (fun _ e => by cases e)) hT
            replace E13 := E13.turns hT (by omega)
            replace E2 := Box.set3 (.bool b3) (.slice a3 y3.length c3) (.slice (some ⟨w2.heap.size + 1, 0, none⟩) 1 1) E2
            replace hB := hB.trans (hT.below.mono (by omega))
            replace hs0 := Nat.le_trans hs0 hT.below.size
            clear hT
            have hT := (((Turns.refl (w.heap.size + 1) (((w6.setCell ⟨w.heap.size, 0, none⟩ (.bool b3)).setCell ⟨w.heap.size, 1, none⟩ (.slice a3 y3.length c3)).setCell ⟨w.heap.size, 2, none⟩ (.slice (some ⟨w2.heap.size + 1, 0, none⟩) 1 1))).setCell 0 (.int .i64 0)).setCell 1 (.int .i64 0))
            replace E2 := E2.turns hT (by omega)
            replace E4 := E4.turns hT (by omega)
            replace S1 := S1.beside E3 (noWord2 (fun _ e => by cases e) (fun _ e => by cases e)) hT
            replace E9 := E9.turns hT (by omega)
            replace EM := EM.turns hT (by omega)
            replace SD := SD.beside E3 (noWord2 (fun _ e => by cases e) (fun _ e => by cases e)) hT
            replace S3 := S3.beside E3 (noWord2 (fun _ e => by cases e) (fun _ e => by cases e)) hT
            replace E13 := E13.turns hT (by omega)
            replace E3 : Box (((((w6.setCell ⟨w.heap.size, 0, none⟩ (.bool b3)).setCell ⟨w.heap.size, 1, none⟩ (.slice a3 y3.length c3)).setCell ⟨w.heap.size, 2, none⟩ (.slice (some ⟨w2.heap.size + 1, 0, none⟩) 1 1)).setCell ⟨w.heap.size + 1, 0, none⟩ (.int .i64 0)).setCell ⟨w.heap.size + 1, 1, none⟩ (.int .i64 0)) (w.heap.size + 1) (.cells #[.int .i64 0, .int .i64 0] 35) := ⟨Nat.lt_of_lt_of_le E3.lt hT.below.size, (heap_setCell_same _ _ 1 _ _ _ (heap_setCell_same _ _ 0 _ _ _ E3.what))⟩
            replace hB := hB.trans (hT.below.mono (by omega))
            replace hs0 := Nat.le_trans hs0 hT.below.size
            clear hT
            go_wp2
            clear k0 k1 k2 f0 f1 f2 k3 k4 f3 f4 k5 k6 k7 f5 f6 f7
            have r2 := E2.three
            have r3 := E3.two
            refine bodyPost_ret (v := .tuple #[.agg #[.bool b3, .slice a3 y3.length c3, .slice (some ⟨w2.heap.size + 1, 0, none⟩) 1 1], .agg #[.int .i64 0, .int .i64 0]]) (by simp [results, Tryz.f10, go_sem, r2.1, r2.2.1, r2.2.2.1, r3.1, r3.2.1]) rfl ?_
            exact ⟨b3, _, _, y3, _, _, [1], 0, 0, rfl, ⟨S3.mono (by omega), SD.mono (by omega)⟩, .ok ((formR_low S3.words SD.words).1 HF.out) (HTZ.out.trans HT.out) HB.out, hB⟩
          · skip
            rw [decide_eq_false ht] at hteq
            have HT := hide ht
            clear ht
            go_wp2_with fail
            obtain ⟨k0, k1, k2, f0, f1, f2⟩ := E2.three
            obtain ⟨k3, k4, f3, f4⟩ := E3.two
            obtain ⟨k5, k6, f5, f6⟩ := E4.two
            have qE2 := E2.lt
            have qE3 := E3.lt
            have qE4 := E4.lt
            go_region
            all_goals
              go_wp2
              refine bodyPost_ret (v := .tuple #[.agg #[.bool false, .slice none 0 0, .slice none 0 0], .agg #[.int .i64 6, .int .i64 0]]) (by simp [results, Tryz.f10, go_sem, k0, k1, k2, k3, k4]) rfl ?_
              refine ⟨false, none, 0, [], none, 0, [], 6, 0, rfl, ⟨Seg.nil _ _, Seg.nil _ _⟩, .bad HB.out (HST.out.badForm HB.out G1.out (Or.inr ⟨by rw [octs_len]; omega, by decide⟩) SD.words (Or.inr (by decide)) S3.words C3 HV3.out (fun h => HT.out (HTZ.out.symm.trans h.2))), ?_⟩
              repeat (first | exact hB | refine Below.drew ?_ | refine Below.setCell ?_ (by simp) _)
        · skip
          have HF := hide hf
          clear hf
          have qE2 := E2.lt
          have qE3 := E3.lt
          have qE4 := E4.lt
          have qE9 := E9.lt
          have qEM := EM.lt
          have hs0 := Nat.le_refl w4.heap.size
          have hq := below_new w4 (.cells #[.bool b3, .slice a3 y3.length c3, .slice (some ⟨w2.heap.size + 1, 0, none⟩) 1 1] 27)
          replace E2 := E2.below hq
          replace E3 := E3.below hq
          replace E4 := E4.below hq
          replace S1 := S1.below hq
          replace E9 := E9.below hq
          replace EM := EM.below hq
          replace SD := SD.below hq
          replace S3 := S3.below hq
          have E13 := Box.put (w := w4) (k := (w4.heap.size)) (.cells #[.bool b3, .slice a3 y3.length c3, .slice (some ⟨w2.heap.size + 1, 0, none⟩) 1 1] 27) rfl
          replace hs0 := Nat.le_trans hs0 hq.size
          replace hB := hB.trans (hq.mono hB.size)
          clear hq
          go_wp2_with fail
          obtain ⟨u5, hname⟩ := nm hB
          rw [hname] at hs0 hB E2 E3 E4 S1 E9 EM SD S3 E13 ⊢
          have zh5 := hB.size
          have zs5 := hs0
          clear hname hs0
          refine (jtext_no (lo := 0) b3 ⟨S3.mono (Nat.zero_le _), SD.mono (Nat.zero_le _)⟩ (by omega) (by first | omega | simp) HF.out).mono ?_
          rintro e w6 ⟨rfl, hb⟩
          replace E2 := E2.below hb
          replace E3 := E3.below hb
          replace E4 := E4.below hb
          replace S1 := S1.below hb
          replace E9 := E9.below hb
          replace EM := EM.below hb
          replace SD := SD.below hb
          replace S3 := S3.below hb
          replace E13 := E13.below hb
          replace hB := hB.trans (hb.mono hB.size)
          have zz6 := hb.size
          have zh6 := hB.size
          clear hb
          go_wp2_with fail
          obtain ⟨k0, k1, k2, f0, f1, f2⟩ := E2.three
          obtain ⟨k3, k4, f3, f4⟩ := E3.two
          obtain ⟨k5, k6, f5, f6⟩ := E4.two
          have qE2 := E2.lt
          have qE3 := E3.lt
          have qE4 := E4.lt
          go_region
          all_goals
            go_wp2
            refine bodyPost_ret (v := .tuple #[.agg #[.bool false, .slice none 0 0, .slice none 0 0], .agg #[.int .i64 6, .int .i64 0]]) (by simp [results, Tryz.f10, go_sem, k0, k1, k2, k3, k4]) rfl ?_
            refine ⟨false, none, 0, [], none, 0, [], 6, 0, rfl, ⟨Seg.nil _ _, Seg.nil _ _⟩, .bad HB.out (HST.out.badForm HB.out G1.out (Or.inr ⟨by rw [octs_len]; omega, by decide⟩) SD.words (Or.inr (by decide)) S3.words C3 HV3.out (fun h => HF.out h.1)), ?_⟩
            repeat (first | exact hB | refine Below.drew ?_ | refine Below.setCell ?_ (by simp) _)
set_option maxRecDepth 100000 in
set_option maxHeartbeats 8000000 in
theorem jread_minus2 (s R : ByteArray) (w : World) (hS : s.size ≤ 400) (h0 : 0 < s.size) (hm : (octs s)[0]?.getD 0 = 45) (hR : s.extract 1 s.size = R) (HYS : Hid (∃ j, j < R.size ∧ (octs R)[j]?.getD 0 = 47)) : Calls Tryz.prog 10 #[.string s] w fun e w' => ReadSaid (octs s) w e w' := by
  have HLEN := hide (octs_len s)
  have hB := Below.refl w.heap.size w
  go_enter Tryz.func10, Tryz.ntmps10
  have HB : Hid ((octs s).length ≤ 10000) := by rw [Hid, HLEN.out]; omega
  have h2 : ¬ (10000 : Int) < (s.size : Int) := by omega
  have hb0 : ∀ h : 0 < s.size, (((s[0]'h).toNat : Nat) : Int) = 45 := fun h => by rw [octs_at, hm]
  have h01 : (1 : Int) ≤ (s.size : Int) := by omega
  have HR : Hid (octs R = (octs s).drop 1) := by rw [Hid, ← hR, octs_extract, List.take_of_length_le (by rw [List.length_drop, octs_len]; omega)]
  have hRs : R.size ≤ 400 := by rw [← octs_len, HR.out, List.length_drop, octs_len]; omega
  have HP : Hid (∀ k, Stroke (octs R) k → Parsed (octs s) true (octs R) k) := fun k st => by
    refine ⟨?_, fun h => (by cases h), st⟩
    rw [HR.out]
    cases hx : octs s with
    | nil => rw [← HLEN.out, hx] at h0; simp at h0
    | cons z zs => rw [hx] at hm; simp at hm; simp [hm]
  clear hm
  have hs0 := Nat.le_refl w.heap.size
  have hq := below_new w (.cells #[.bool false, .slice none 0 0, .slice none 0 0] 27)
  have E2 := Box.put (w := w) (k := (w.heap.size)) (.cells #[.bool false, .slice none 0 0, .slice none 0 0] 27) rfl
  replace hs0 := Nat.le_trans hs0 hq.size
  replace hB := hB.trans (hq.mono hB.size)
  clear hq
  have hq := below_new (w.alloc (.cells #[.bool false, .slice none 0 0, .slice none 0 0] 27)) (.cells #[.int .i64 0, .int .i64 0] 35)
  replace E2 := E2.below hq
  have E3 := Box.put (w := (w.alloc (.cells #[.bool false, .slice none 0 0, .slice none 0 0] 27))) (k := (w.heap.size + 1)) (.cells #[.int .i64 0, .int .i64 0] 35) (by simp)
  replace hs0 := Nat.le_trans hs0 hq.size
  replace hB := hB.trans (hq.mono hB.size)
  clear hq
  have hq := below_new ((w.alloc (.cells #[.bool false, .slice none 0 0, .slice none 0 0] 27)).alloc (.cells #[.int .i64 0, .int .i64 0] 35)) (.cells #[.int .i64 6, .int .i64 0] 35)
  replace E2 := E2.below hq
  replace E3 := E3.below hq
  have E4 := Box.put (w := ((w.alloc (.cells #[.bool false, .slice none 0 0, .slice none 0 0] 27)).alloc (.cells #[.int .i64 0, .int .i64 0] 35))) (k := (w.heap.size + 2)) (.cells #[.int .i64 6, .int .i64 0] 35) (by simp)
  replace hs0 := Nat.le_trans hs0 hq.size
  replace hB := hB.trans (hq.mono hB.size)
  clear hq
  go_wp2_with fail
  obtain ⟨u1, hname⟩ := nm hB
  rw [hname] at hs0 hB E2 E3 E4 ⊢
  have zh1 := hB.size
  have zs1 := hs0
  clear hname hs0
  go_loopw [7] (fun kv wq => ∃ (k : Nat), kv = .int .i64 k ∧ k ≤ R.size ∧ Hid (∀ j, j < k → (octs R)[j]?.getD 0 ≠ 47) ∧ Box wq (w.heap.size) (.cells #[.bool false, .slice none 0 0, .slice none 0 0] 27) ∧ Box wq (w.heap.size + 1) (.cells #[.int .i64 0, .int .i64 0] 35) ∧ Box wq (w.heap.size + 2) (.cells #[.int .i64 6, .int .i64 0] 35) ∧ Below w.heap.size w wq) (fun kv _ => R.size - (intOf kv).toNat)
  case atStart => exact ⟨0, rfl, Nat.zero_le _, fun j hj => absurd hj (Nat.not_lt_zero j), E2, E3, E4, hB⟩
  case round =>
    clear E2 E3 E4 hB
    obtain ⟨k, rfl, hk, HJ, E2, E3, E4, hB⟩ := hrel
    have zB := hB.size
    have hge : (0 : Int) ≤ (k : Int) := by omega
    have hw1 : IntKind.i64.wrap ((k : Int) + 1) = (k : Int) + 1 := by rw [IntKind.wrap_i64]; omega
    by_cases hlt : k < R.size
    · skip
      have hlt2 : (k : Int) < (R.size : Int) := by omega
      obtain ⟨y, hy⟩ : ∃ y, (octs R)[k]?.getD 0 = y := ⟨_, rfl⟩
      have hby : ∀ h : k < R.size, (((R[k]'h).toNat : Nat) : Int) = y := fun h => by rw [octs_at, hy]
      by_cases h47 : y = 47
      · skip
        have hbyk : (octs R)[k]?.getD 0 = 47 := hy.trans h47
        have HST : Hid (Parsed (octs s) true (octs R) k) := HP.out k ⟨by rw [octs_len]; omega, HJ.out, Or.inr (hy.trans h47)⟩
        subst h47
        clear hy HJ
        clear hbyk
        obtain ⟨T1, hT1⟩ : ∃ T, R.extract 0 k = T := ⟨_, rfl⟩
        have HO1 : Hid (octs T1 = (octs R).take k) := by rw [Hid, ← hT1, octs_extract, List.drop_zero, Nat.sub_zero]
        have sz1 : T1.size ≤ 400 := by rw [← octs_len, HO1.out, List.length_take, octs_len]; omega
        go_wp2_with fail
        refine (jget_any T1 _ (Or.inl (by omega))).mono ?_
        rintro e w2 ⟨a1, c1, z1, e1, p1, rfl, S1, I1, L1, hb⟩
        replace E2 := E2.below hb
        replace E3 := E3.below hb
        replace E4 := E4.below hb
        replace hB := hB.trans (hb.mono hB.size)
        have zz2 := hb.size
        have zh2 := hB.size
        clear hb
        have l1 : z1.length ≤ 800 := by rw [octs_len] at L1; omega
        rw [HO1.out] at I1
        clear hT1 L1
        rcases I1.parts with ⟨n1, x1, G1⟩ | ⟨rfl, rfl, N1, G1⟩
        · skip
          obtain ⟨T2, hT2⟩ : ∃ T, R.extract (k + 1) R.size = T := ⟨_, rfl⟩
          have HO2 : Hid (octs T2 = (octs R).drop (k + 1)) := by rw [Hid, ← hT2, octs_extract, List.take_of_length_le (by rw [List.length_drop, octs_len]; omega)]
          have sz2 : T2.size ≤ 400 := by rw [← octs_len, HO2.out, List.length_drop, octs_len]; omega
          have qE2 := E2.lt
          have qE3 := E3.lt
          have qE4 := E4.lt
          have hs0 := Nat.le_refl w2.heap.size
          have hq := below_new w2 (.cells #[.int .i64 e1, .int .i64 p1] 35)
          replace E2 := E2.below hq
          replace E3 := E3.below hq
          replace E4 := E4.below hq
          replace S1 := S1.below hq
          have E9 := Box.put (w := w2) (k := (w2.heap.size)) (.cells #[.int .i64 e1, .int .i64 p1] 35) rfl
          replace hs0 := Nat.le_trans hs0 hq.size
          replace hB := hB.trans (hq.mono hB.size)
          clear hq
          have hq := below_new (w2.alloc (.cells #[.int .i64 e1, .int .i64 p1] 35)) (.cells #[.int .u64 1] 42)
          replace E2 := E2.below hq
          replace E3 := E3.below hq
          replace E4 := E4.below hq
          replace S1 := S1.below hq
          replace E9 := E9.below hq
          have EM := Box.put (w := (w2.alloc (.cells #[.int .i64 e1, .int .i64 p1] 35))) (k := (w2.heap.size + 1)) (.cells #[.int .u64 1] 42) (by simp)
          replace hs0 := Nat.le_trans hs0 hq.size
          replace hB := hB.trans (hq.mono hB.size)
          clear hq
          go_wp2_with fail
          obtain ⟨u3, hname⟩ := nm hB
          rw [hname] at hs0 hB E2 E3 E4 S1 E9 EM ⊢
          have zh3 := hB.size
          have zs3 := hs0
          clear hname hs0
          refine (jget_any T2 _ (Or.inl (by omega))).mono ?_
          rintro e w4 ⟨a2, c2, z2, e2, p2, rfl, S2, I2, L2, hb⟩
          replace E2 := E2.below hb
          replace E3 := E3.below hb
          replace E4 := E4.below hb
          replace S1 := S1.below hb
          replace E9 := E9.below hb
          replace EM := EM.below hb
          replace hB := hB.trans (hb.mono hB.size)
          have zz4 := hb.size
          have zh4 := hB.size
          clear hb
          have l2 : z2.length ≤ 800 := by rw [octs_len] at L2; omega
          rw [HO2.out] at I2
          clear hT2 L2
          have HLT : Hid (k < (octs R).length) := by rw [Hid, octs_len]; exact hlt
          rcases I2.parts with ⟨n2, x2, G2⟩ | ⟨rfl, rfl, N2, G2⟩
          · skip
            have n2b : (e2 == 0) = false := beq_eq_false_iff_ne.2 n2
            have qE2 := E2.lt
            have qE3 := E3.lt
            have qE4 := E4.lt
            have qE9 := E9.lt
            have qEM := EM.lt
            have hs0 := Nat.le_refl w4.heap.size
            have hq := below_new w4 (.cells #[.int .i64 e2, .int .i64 p2] 35)
            replace E2 := E2.below hq
            replace E3 := E3.below hq
            replace E4 := E4.below hq
            replace S1 := S1.below hq
            replace E9 := E9.below hq
            replace EM := EM.below hq
            replace S2 := S2.below hq
            have E12 := Box.put (w := w4) (k := (w4.heap.size)) (.cells #[.int .i64 e2, .int .i64 p2] 35) rfl
            replace hs0 := Nat.le_trans hs0 hq.size
            replace hB := hB.trans (hq.mono hB.size)
            clear hq
            go_wp2_with fail
            obtain ⟨u5, hname⟩ := nm hB
            rw [hname] at hs0 hB E2 E3 E4 S1 E9 EM S2 E12 ⊢
            have zh5 := hB.size
            have zs5 := hs0
            clear hname hs0
            obtain ⟨k0, k1, k2, f0, f1, f2⟩ := E2.three
            obtain ⟨k3, k4, f3, f4⟩ := E3.two
            obtain ⟨k5, k6, f5, f6⟩ := E4.two
            have qE2 := E2.lt
            have qE3 := E3.lt
            have qE4 := E4.lt
            go_region
            all_goals
              go_wp2
              refine bodyPost_ret (v := .tuple #[.agg #[.bool false, .slice none 0 0, .slice none 0 0], .agg #[.int .i64 6, .int .i64 0]]) (by simp [results, Tryz.f10, go_sem, k0, k1, k2, k3, k4]) rfl ?_
              refine ⟨false, none, 0, [], none, 0, [], 6, 0, rfl, ⟨Seg.nil _ _, Seg.nil _ _⟩, .bad HB.out (HST.out.badDown HB.out HLT.out G2), ?_⟩
              repeat (first | exact hB | refine Below.drew ?_ | refine Below.setCell ?_ (by simp) _)
          · skip
            have n1b : (e1 == 0) = false := beq_eq_false_iff_ne.2 n1
            obtain ⟨k0, k1, f0, f1⟩ := E9.two
            have qE2 := E2.lt
            have qE3 := E3.lt
            have qE4 := E4.lt
            have qE9 := E9.lt
            have qEM := EM.lt
            have hs0 := Nat.le_refl w4.heap.size
            have hq := below_new w4 (.cells #[.int .i64 0, .int .i64 0] 35)
            replace E2 := E2.below hq
            replace E3 := E3.below hq
            replace E4 := E4.below hq
            replace S1 := S1.below hq
            replace E9 := E9.below hq
            replace EM := EM.below hq
            replace S2 := S2.below hq
            have E12 := Box.put (w := w4) (k := (w4.heap.size)) (.cells #[.int .i64 0, .int .i64 0] 35) rfl
            replace hs0 := Nat.le_trans hs0 hq.size
            replace hB := hB.trans (hq.mono hB.size)
            clear hq
            go_wp2_with fail
            clear k0 k1 f0 f1
            obtain ⟨u5, hname⟩ := nm hB
            rw [hname] at hs0 hB E2 E3 E4 S1 E9 EM S2 E12 ⊢
            have zh5 := hB.size
            have zs5 := hs0
            clear hname hs0
            obtain ⟨k0, k1, k2, f0, f1, f2⟩ := E2.three
            obtain ⟨k3, k4, f3, f4⟩ := E3.two
            obtain ⟨k5, k6, f5, f6⟩ := E4.two
            have qE2 := E2.lt
            have qE3 := E3.lt
            have qE4 := E4.lt
            go_region
            all_goals
              go_wp2
              refine bodyPost_ret (v := .tuple #[.agg #[.bool false, .slice none 0 0, .slice none 0 0], .agg #[.int .i64 6, .int .i64 0]]) (by simp [results, Tryz.f10, go_sem, k0, k1, k2, k3, k4]) rfl ?_
              refine ⟨false, none, 0, [], none, 0, [], 6, 0, rfl, ⟨Seg.nil _ _, Seg.nil _ _⟩, .bad HB.out (HST.out.badUp HB.out G1), ?_⟩
              repeat (first | exact hB | refine Below.drew ?_ | refine Below.setCell ?_ (by simp) _)
        · skip
          obtain ⟨T2, hT2⟩ : ∃ T, R.extract (k + 1) R.size = T := ⟨_, rfl⟩
          have HO2 : Hid (octs T2 = (octs R).drop (k + 1)) := by rw [Hid, ← hT2, octs_extract, List.take_of_length_le (by rw [List.length_drop, octs_len]; omega)]
          have sz2 : T2.size ≤ 400 := by rw [← octs_len, HO2.out, List.length_drop, octs_len]; omega
          have qE2 := E2.lt
          have qE3 := E3.lt
          have qE4 := E4.lt
          have hs0 := Nat.le_refl w2.heap.size
          have hq := below_new w2 (.cells #[.int .i64 0, .int .i64 0] 35)
          replace E2 := E2.below hq
          replace E3 := E3.below hq
          replace E4 := E4.below hq
          replace S1 := S1.below hq
          have E9 := Box.put (w := w2) (k := (w2.heap.size)) (.cells #[.int .i64 0, .int .i64 0] 35) rfl
          replace hs0 := Nat.le_trans hs0 hq.size
          replace hB := hB.trans (hq.mono hB.size)
          clear hq
          have hq := below_new (w2.alloc (.cells #[.int .i64 0, .int .i64 0] 35)) (.cells #[.int .u64 1] 42)
          replace E2 := E2.below hq
          replace E3 := E3.below hq
          replace E4 := E4.below hq
          replace S1 := S1.below hq
          replace E9 := E9.below hq
          have EM := Box.put (w := (w2.alloc (.cells #[.int .i64 0, .int .i64 0] 35))) (k := (w2.heap.size + 1)) (.cells #[.int .u64 1] 42) (by simp)
          replace hs0 := Nat.le_trans hs0 hq.size
          replace hB := hB.trans (hq.mono hB.size)
          clear hq
          go_wp2_with fail
          obtain ⟨u3, hname⟩ := nm hB
          rw [hname] at hs0 hB E2 E3 E4 S1 E9 EM ⊢
          have zh3 := hB.size
          have zs3 := hs0
          clear hname hs0
          refine (jget_any T2 _ (Or.inl (by omega))).mono ?_
          rintro e w4 ⟨a2, c2, z2, e2, p2, rfl, S2, I2, L2, hb⟩
          replace E2 := E2.below hb
          replace E3 := E3.below hb
          replace E4 := E4.below hb
          replace S1 := S1.below hb
          replace E9 := E9.below hb
          replace EM := EM.below hb
          replace hB := hB.trans (hb.mono hB.size)
          have zz4 := hb.size
          have zh4 := hB.size
          clear hb
          have l2 : z2.length ≤ 800 := by rw [octs_len] at L2; omega
          rw [HO2.out] at I2
          clear hT2 L2
          have HLT : Hid (k < (octs R).length) := by rw [Hid, octs_len]; exact hlt
          rcases I2.parts with ⟨n2, x2, G2⟩ | ⟨rfl, rfl, N2, G2⟩
          · skip
            have n2b : (e2 == 0) = false := beq_eq_false_iff_ne.2 n2
            have qE2 := E2.lt
            have qE3 := E3.lt
            have qE4 := E4.lt
            have qE9 := E9.lt
            have qEM := EM.lt
            have hs0 := Nat.le_refl w4.heap.size
            have hq := below_new w4 (.cells #[.int .i64 e2, .int .i64 p2] 35)
            replace E2 := E2.below hq
            replace E3 := E3.below hq
            replace E4 := E4.below hq
            replace S1 := S1.below hq
            replace E9 := E9.below hq
            replace EM := EM.below hq
            replace S2 := S2.below hq
            have E12 := Box.put (w := w4) (k := (w4.heap.size)) (.cells #[.int .i64 e2, .int .i64 p2] 35) rfl
            replace hs0 := Nat.le_trans hs0 hq.size
            replace hB := hB.trans (hq.mono hB.size)
            clear hq
            go_wp2_with fail
            obtain ⟨u5, hname⟩ := nm hB
            rw [hname] at hs0 hB E2 E3 E4 S1 E9 EM S2 E12 ⊢
            have zh5 := hB.size
            have zs5 := hs0
            clear hname hs0
            obtain ⟨k0, k1, k2, f0, f1, f2⟩ := E2.three
            obtain ⟨k3, k4, f3, f4⟩ := E3.two
            obtain ⟨k5, k6, f5, f6⟩ := E4.two
            have qE2 := E2.lt
            have qE3 := E3.lt
            have qE4 := E4.lt
            go_region
            all_goals
              go_wp2
              refine bodyPost_ret (v := .tuple #[.agg #[.bool false, .slice none 0 0, .slice none 0 0], .agg #[.int .i64 6, .int .i64 0]]) (by simp [results, Tryz.f10, go_sem, k0, k1, k2, k3, k4]) rfl ?_
              refine ⟨false, none, 0, [], none, 0, [], 6, 0, rfl, ⟨Seg.nil _ _, Seg.nil _ _⟩, .bad HB.out (HST.out.badDown HB.out HLT.out G2), ?_⟩
              repeat (first | exact hB | refine Below.drew ?_ | refine Below.setCell ?_ (by simp) _)
          · skip
            have HG1 := hide G1
            clear G1
            have G1 := HG1
            have HG2 := hide G2
            clear G2
            by_cases hz : z2 = []
            · skip
              have hzl : (z2.length : Int) = 0 := by rw [hz]; rfl
              have HG3 : Hid (getZ ((octs R).drop (k + 1)) = .ok 0) := by rw [Hid, HG2.out, hz]; rfl
              clear hz
              obtain ⟨k0, k1, f0, f1⟩ := E9.two
              have qE2 := E2.lt
              have qE3 := E3.lt
              have qE4 := E4.lt
              have qE9 := E9.lt
              have qEM := EM.lt
              have hs0 := Nat.le_refl w4.heap.size
              have hq := below_new w4 (.cells #[.int .i64 0, .int .i64 0] 35)
              replace E2 := E2.below hq
              replace E3 := E3.below hq
              replace E4 := E4.below hq
              replace S1 := S1.below hq
              replace E9 := E9.below hq
              replace EM := EM.below hq
              replace S2 := S2.below hq
              have E12 := Box.put (w := w4) (k := (w4.heap.size)) (.cells #[.int .i64 0, .int .i64 0] 35) rfl
              replace hs0 := Nat.le_trans hs0 hq.size
              replace hB := hB.trans (hq.mono hB.size)
              clear hq
              go_wp2_with fail
              clear k0 k1 f0 f1
              obtain ⟨u5, hname⟩ := nm hB
              rw [hname] at hs0 hB E2 E3 E4 S1 E9 EM S2 E12 ⊢
              have zh5 := hB.size
              have zs5 := hs0
              clear hname hs0
              obtain ⟨k0, k1, k2, f0, f1, f2⟩ := E2.three
              obtain ⟨k3, k4, f3, f4⟩ := E3.two
              obtain ⟨k5, k6, f5, f6⟩ := E4.two
              have qE2 := E2.lt
              have qE3 := E3.lt
              have qE4 := E4.lt
              go_region
              all_goals
                go_wp2
                refine bodyPost_ret (v := .tuple #[.agg #[.bool false, .slice none 0 0, .slice none 0 0], .agg #[.int .i64 6, .int .i64 0]]) (by simp [results, Tryz.f10, go_sem, k0, k1, k2, k3, k4]) rfl ?_
                refine ⟨false, none, 0, [], none, 0, [], 6, 0, rfl, ⟨Seg.nil _ _, Seg.nil _ _⟩, .bad HB.out (HST.out.badZero HB.out HLT.out HG3.out), ?_⟩
                repeat (first | exact hB | refine Below.drew ?_ | refine Below.setCell ?_ (by simp) _)
            · skip
              have hzl : ¬ (z2.length : Int) = 0 := by have := List.length_pos_iff.2 hz; omega
              clear hz
              obtain ⟨k0, k1, f0, f1⟩ := E9.two
              have qE2 := E2.lt
              have qE3 := E3.lt
              have qE4 := E4.lt
              have qE9 := E9.lt
              have qEM := EM.lt
              have hs0 := Nat.le_refl w4.heap.size
              have hq := below_new w4 (.cells #[.int .i64 0, .int .i64 0] 35)
              replace E2 := E2.below hq
              replace E3 := E3.below hq
              replace E4 := E4.below hq
              replace S1 := S1.below hq
              replace E9 := E9.below hq
              replace EM := EM.below hq
              replace S2 := S2.below hq
              have E12 := Box.put (w := w4) (k := (w4.heap.size)) (.cells #[.int .i64 0, .int .i64 0] 35) rfl
              replace hs0 := Nat.le_trans hs0 hq.size
              replace hB := hB.trans (hq.mono hB.size)
              clear hq
              go_wp2_with fail
              clear k0 k1 f0 f1
              obtain ⟨u5, hname⟩ := nm hB
              rw [hname] at hs0 hB E2 E3 E4 S1 E9 EM S2 E12 ⊢
              have zh5 := hB.size
              have zs5 := hs0
              clear hname hs0
              refine (imake_any S1 (by omega) true).mono ?_
              rintro e w6 ⟨b3, a3, c3, y3, rfl, S3, C3, V3, l3, hb⟩
              replace E2 := E2.below hb
              replace E3 := E3.below hb
              replace E4 := E4.below hb
              replace S1 := S1.below hb
              replace E9 := E9.below hb
              replace EM := EM.below hb
              replace S2 := S2.below hb
              replace E12 := E12.below hb
              replace hB := hB.trans (hb.mono hB.size)
              have zz6 := hb.size
              have zh6 := hB.size
              clear hb
              have HV3 := hide V3
              clear V3
              by_cases hf : formR b3 y3 z2 = 0
              · skip
                obtain ⟨tz, htz⟩ : ∃ t, textZ b3 (val y3) (val z2) = t := ⟨_, rfl⟩
                have HTZ := hide htz
                have htO : Octs tz := by rw [← htz]; exact textZ_octs _ _ _
                clear htz
                have hteq : ((strOfNums tz).toList == s.toList) = decide (tz = octs s) := by rw [str_eq, octs_str htO]
                have HF := hide hf
                clear hf
                have qE2 := E2.lt
                have qE3 := E3.lt
                have qE4 := E4.lt
                have qE9 := E9.lt
                have qEM := EM.lt
                have qE12 := E12.lt
                have hs0 := Nat.le_refl w6.heap.size
                have hq := below_new w6 (.cells #[.bool b3, .slice a3 y3.length c3, .slice a2 z2.length c2] 27)
                replace E2 := E2.below hq
                replace E3 := E3.below hq
                replace E4 := E4.below hq
                replace S1 := S1.below hq
                replace E9 := E9.below hq
                replace EM := EM.below hq
                replace S2 := S2.below hq
                replace E12 := E12.below hq
                replace S3 := S3.below hq
                have E13 := Box.put (w := w6) (k := (w6.heap.size)) (.cells #[.bool b3, .slice a3 y3.length c3, .slice a2 z2.length c2] 27) rfl
                replace hs0 := Nat.le_trans hs0 hq.size
                replace hB := hB.trans (hq.mono hB.size)
                clear hq
                go_wp2_with fail
                obtain ⟨u7, hname⟩ := nm hB
                rw [hname] at hs0 hB E2 E3 E4 S1 E9 EM S2 E12 S3 E13 ⊢
                have zh7 := hB.size
                have zs7 := hs0
                clear hname hs0
                have hk := jtext_ok (lo := 0) b3 ⟨S3.mono (Nat.zero_le _), S2.mono (Nat.zero_le _)⟩ (by omega) (by first | omega | simp) HF.out
                rw [HTZ.out] at hk
                refine (hk).mono ?_
                rintro e w8 ⟨rfl, hb⟩
                replace E2 := E2.below hb
                replace E3 := E3.below hb
                replace E4 := E4.below hb
                replace S1 := S1.below hb
                replace E9 := E9.below hb
                replace EM := EM.below hb
                replace S2 := S2.below hb
                replace E12 := E12.below hb
                replace S3 := S3.below hb
                replace E13 := E13.below hb
                replace hB := hB.trans (hb.mono hB.size)
                have zz8 := hb.size
                have zh8 := hB.size
                clear hb
                clear hk
                by_cases ht : tz = octs s
                · skip
                  rw [decide_eq_true ht] at hteq
                  have HT := hide ht
                  clear ht
                  obtain ⟨k0, k1, k2, f0, f1, f2⟩ := E2.three
                  obtain ⟨k3, k4, f3, f4⟩ := E3.two
                  obtain ⟨k5, k6, k7, f5, f6, f7⟩ := E13.three
                  have qE2 := E2.lt
                  have qE3 := E3.lt
                  have qE4 := E4.lt
                  have qE9 := E9.lt
                  have qEM := EM.lt
                  have qE12 := E12.lt
                  have qE13 := E13.lt
                  have hs0 := Nat.le_refl w8.heap.size
                  have hT := turns3 (w.heap.size) w8 (.bool b3) (.slice a3 y3.length c3) (.slice a2 z2.length c2)
                  replace E3 := E3.turns hT (by omega)
                  replace E4 := E4.turns hT (by omega)
                  replace S1 := S1.beside E2 (noWord3 (fun _ e => by cases e) (fun _ e => by cases e) (fun _ e => by cases e)) hT
                  replace E9 := E9.turns hT (by omega)
                  replace EM := EM.turns hT (by omega)
                  replace S2 := S2.beside E2 (noWord3 (fun _ e => by cases e) (fun _ e => by cases e) (fun _ e => by cases e)) hT
                  replace E12 := E12.turns hT (by omega)
                  replace S3 := S3.beside E2 (noWord3 (fun _ e => by cases e) (fun _ e => by cases e) (fun _ e => by cases e)) hT
                  replace E13 := E13.turns hT (by omega)
                  replace E2 := Box.set3 (.bool b3) (.slice a3 y3.length c3) (.slice a2 z2.length c2) E2
                  replace hB := hB.trans (hT.below.mono (by omega))
                  replace hs0 := Nat.le_trans hs0 hT.below.size
                  clear hT
                  have hT := (((Turns.refl (w.heap.size + 1) (((w8.setCell ⟨w.heap.size, 0, none⟩ (.bool b3)).setCell ⟨w.heap.size, 1, none⟩ (.slice a3 y3.length c3)).setCell ⟨w.heap.size, 2, none⟩ (.slice a2 z2.length c2))).setCell 0 (.int .i64 0)).setCell 1 (.int .i64 0))
                  replace E2 := E2.turns hT (by omega)
                  replace E4 := E4.turns hT (by omega)
                  replace S1 := S1.beside E3 (noWord2 (fun _ e => by cases e) (fun _ e => by cases e)) hT
                  replace E9 := E9.turns hT (by omega)
                  replace EM := EM.turns hT (by omega)
                  replace S2 := S2.beside E3 (noWord2 (fun _ e => by cases e) (fun _ e => by cases e)) hT
                  replace E12 := E12.turns hT (by omega)
                  replace S3 := S3.beside E3 (noWord2 (fun _ e => by cases e) (fun _ e => by cases e)) hT
                  replace E13 := E13.turns hT (by omega)
                  replace E3 : Box (((((w8.setCell ⟨w.heap.size, 0, none⟩ (.bool b3)).setCell ⟨w.heap.size, 1, none⟩ (.slice a3 y3.length c3)).setCell ⟨w.heap.size, 2, none⟩ (.slice a2 z2.length c2)).setCell ⟨w.heap.size + 1, 0, none⟩ (.int .i64 0)).setCell ⟨w.heap.size + 1, 1, none⟩ (.int .i64 0)) (w.heap.size + 1) (.cells #[.int .i64 0, .int .i64 0] 35) := ⟨Nat.lt_of_lt_of_le E3.lt hT.below.size, (heap_setCell_same _ _ 1 _ _ _ (heap_setCell_same _ _ 0 _ _ _ E3.what))⟩
                  replace hB := hB.trans (hT.below.mono (by omega))
                  replace hs0 := Nat.le_trans hs0 hT.below.size
                  clear hT
                  go_wp2
                  clear k0 k1 k2 f0 f1 f2 k3 k4 f3 f4 k5 k6 k7 f5 f6 f7
                  have r2 := E2.three
                  have r3 := E3.two
                  refine bodyPost_ret (v := .tuple #[.agg #[.bool b3, .slice a3 y3.length c3, .slice a2 z2.length c2], .agg #[.int .i64 0, .int .i64 0]]) (by simp [results, Tryz.f10, go_sem, r2.1, r2.2.1, r2.2.2.1, r3.1, r3.2.1]) rfl ?_
                  exact ⟨b3, _, _, y3, _, _, z2, 0, 0, rfl, ⟨S3.mono (by omega), S2.mono (by omega)⟩, .ok ((formR_low S3.words S2.words).1 HF.out) (HTZ.out.trans HT.out) HB.out, hB⟩
                · skip
                  rw [decide_eq_false ht] at hteq
                  have HT := hide ht
                  clear ht
                  go_wp2_with fail
                  obtain ⟨k0, k1, k2, f0, f1, f2⟩ := E2.three
                  obtain ⟨k3, k4, f3, f4⟩ := E3.two
                  obtain ⟨k5, k6, f5, f6⟩ := E4.two
                  have qE2 := E2.lt
                  have qE3 := E3.lt
                  have qE4 := E4.lt
                  go_region
                  all_goals
                    go_wp2
                    refine bodyPost_ret (v := .tuple #[.agg #[.bool false, .slice none 0 0, .slice none 0 0], .agg #[.int .i64 6, .int .i64 0]]) (by simp [results, Tryz.f10, go_sem, k0, k1, k2, k3, k4]) rfl ?_
                    refine ⟨false, none, 0, [], none, 0, [], 6, 0, rfl, ⟨Seg.nil _ _, Seg.nil _ _⟩, .bad HB.out (HST.out.badForm HB.out G1.out (Or.inl ⟨HLT.out, HG2.out⟩) S2.words N2 S3.words C3 HV3.out (fun h => HT.out (HTZ.out.symm.trans h.2))), ?_⟩
                    repeat (first | exact hB | refine Below.drew ?_ | refine Below.setCell ?_ (by simp) _)
              · skip
                have HF := hide hf
                clear hf
                have qE2 := E2.lt
                have qE3 := E3.lt
                have qE4 := E4.lt
                have qE9 := E9.lt
                have qEM := EM.lt
                have qE12 := E12.lt
                have hs0 := Nat.le_refl w6.heap.size
                have hq := below_new w6 (.cells #[.bool b3, .slice a3 y3.length c3, .slice a2 z2.length c2] 27)
                replace E2 := E2.below hq
                replace E3 := E3.below hq
                replace E4 := E4.below hq
                replace S1 := S1.below hq
                replace E9 := E9.below hq
                replace EM := EM.below hq
                replace S2 := S2.below hq
                replace E12 := E12.below hq
                replace S3 := S3.below hq
                have E13 := Box.put (w := w6) (k := (w6.heap.size)) (.cells #[.bool b3, .slice a3 y3.length c3, .slice a2 z2.length c2] 27) rfl
                replace hs0 := Nat.le_trans hs0 hq.size
                replace hB := hB.trans (hq.mono hB.size)
                clear hq
                go_wp2_with fail
                obtain ⟨u7, hname⟩ := nm hB
                rw [hname] at hs0 hB E2 E3 E4 S1 E9 EM S2 E12 S3 E13 ⊢
                have zh7 := hB.size
                have zs7 := hs0
                clear hname hs0
                refine (jtext_no (lo := 0) b3 ⟨S3.mono (Nat.zero_le _), S2.mono (Nat.zero_le _)⟩ (by omega) (by first | omega | simp) HF.out).mono ?_
                rintro e w8 ⟨rfl, hb⟩
                replace E2 := E2.below hb
                replace E3 := E3.below hb
                replace E4 := E4.below hb
                replace S1 := S1.below hb
                replace E9 := E9.below hb
                replace EM := EM.below hb
                replace S2 := S2.below hb
                replace E12 := E12.below hb
                replace S3 := S3.below hb
                replace E13 := E13.below hb
                replace hB := hB.trans (hb.mono hB.size)
                have zz8 := hb.size
                have zh8 := hB.size
                clear hb
                go_wp2_with fail
                obtain ⟨k0, k1, k2, f0, f1, f2⟩ := E2.three
                obtain ⟨k3, k4, f3, f4⟩ := E3.two
                obtain ⟨k5, k6, f5, f6⟩ := E4.two
                have qE2 := E2.lt
                have qE3 := E3.lt
                have qE4 := E4.lt
                go_region
                all_goals
                  go_wp2
                  refine bodyPost_ret (v := .tuple #[.agg #[.bool false, .slice none 0 0, .slice none 0 0], .agg #[.int .i64 6, .int .i64 0]]) (by simp [results, Tryz.f10, go_sem, k0, k1, k2, k3, k4]) rfl ?_
                  refine ⟨false, none, 0, [], none, 0, [], 6, 0, rfl, ⟨Seg.nil _ _, Seg.nil _ _⟩, .bad HB.out (HST.out.badForm HB.out G1.out (Or.inl ⟨HLT.out, HG2.out⟩) S2.words N2 S3.words C3 HV3.out (fun h => HF.out h.1)), ?_⟩
                  repeat (first | exact hB | refine Below.drew ?_ | refine Below.setCell ?_ (by simp) _)
      · have HJ2 : Hid (∀ j, j < k + 1 → (octs R)[j]?.getD 0 ≠ 47) := by
          rw [Hid]
          intro j hj
          by_cases e : j = k
          · rw [e, hy]; exact h47
          · exact HJ.out j (by omega)
        have hms : R.size - (k + 1) < R.size - k := by omega
        clear hy
        go_wp2
        refine ⟨⟨k + 1, by simp, by omega, HJ2, E2, E3, E4, hB⟩, by simpa [intOf] using hms⟩
    · skip
      have HJX := HJ
      have hlt2 : ¬ (k : Int) < (R.size : Int) := by omega
      have HST : Hid (Parsed (octs s) true (octs R) k) := HP.out k ⟨by rw [octs_len]; omega, HJ.out, Or.inl (by rw [octs_len]; omega)⟩
      clear HJ
      obtain ⟨j, hj, hjb⟩ := HYS.out
      exact absurd hjb (HJX.out j (by omega))
set_option maxRecDepth 100000 in
set_option maxHeartbeats 8000000 in
theorem jread_plain1 (s : ByteArray) (w : World) (hS : s.size ≤ 400) (hm : (0 < s.size ∧ (octs s)[0]?.getD 0 ≠ 45)) (HNS : Hid (∀ j, j < s.size → (octs s)[j]?.getD 0 ≠ 47)) : Calls Tryz.prog 10 #[.string s] w fun e w' => ReadSaid (octs s) w e w' := by
  have HLEN := hide (octs_len s)
  have hB := Below.refl w.heap.size w
  go_enter Tryz.func10, Tryz.ntmps10
  have HB : Hid ((octs s).length ≤ 10000) := by rw [Hid, HLEN.out]; omega
  have h2 : ¬ (10000 : Int) < (s.size : Int) := by omega
  have HP : Hid (∀ k, Stroke (octs s) k → Parsed (octs s) false (octs s) k) := fun k st => by
    refine ⟨rfl, fun _ h => ?_, st⟩
    obtain ⟨_, h0⟩ := hm
    apply h0
    cases hx : octs s with
    | nil => rw [hx] at h; cases h
    | cons z zs => rw [hx] at h; simpa using h
  obtain ⟨hz0, y0, hy45, hb0⟩ : 0 < s.size ∧ ∃ y : Int, y ≠ 45 ∧ ∀ h : 0 < s.size, (((s[0]'h).toNat : Nat) : Int) = y := ⟨hm.1, _, hm.2, fun h => octs_at s 0 h⟩
  clear hm
  have hs0 := Nat.le_refl w.heap.size
  have hq := below_new w (.cells #[.bool false, .slice none 0 0, .slice none 0 0] 27)
  have E2 := Box.put (w := w) (k := (w.heap.size)) (.cells #[.bool false, .slice none 0 0, .slice none 0 0] 27) rfl
  replace hs0 := Nat.le_trans hs0 hq.size
  replace hB := hB.trans (hq.mono hB.size)
  clear hq
  have hq := below_new (w.alloc (.cells #[.bool false, .slice none 0 0, .slice none 0 0] 27)) (.cells #[.int .i64 0, .int .i64 0] 35)
  replace E2 := E2.below hq
  have E3 := Box.put (w := (w.alloc (.cells #[.bool false, .slice none 0 0, .slice none 0 0] 27))) (k := (w.heap.size + 1)) (.cells #[.int .i64 0, .int .i64 0] 35) (by simp)
  replace hs0 := Nat.le_trans hs0 hq.size
  replace hB := hB.trans (hq.mono hB.size)
  clear hq
  have hq := below_new ((w.alloc (.cells #[.bool false, .slice none 0 0, .slice none 0 0] 27)).alloc (.cells #[.int .i64 0, .int .i64 0] 35)) (.cells #[.int .i64 6, .int .i64 0] 35)
  replace E2 := E2.below hq
  replace E3 := E3.below hq
  have E4 := Box.put (w := ((w.alloc (.cells #[.bool false, .slice none 0 0, .slice none 0 0] 27)).alloc (.cells #[.int .i64 0, .int .i64 0] 35))) (k := (w.heap.size + 2)) (.cells #[.int .i64 6, .int .i64 0] 35) (by simp)
  replace hs0 := Nat.le_trans hs0 hq.size
  replace hB := hB.trans (hq.mono hB.size)
  clear hq
  go_wp2_with fail
  obtain ⟨u1, hname⟩ := nm hB
  rw [hname] at hs0 hB E2 E3 E4 ⊢
  have zh1 := hB.size
  have zs1 := hs0
  clear hname hs0
  go_loopw [7] (fun kv wq => ∃ (k : Nat), kv = .int .i64 k ∧ k ≤ s.size ∧ Hid (∀ j, j < k → (octs s)[j]?.getD 0 ≠ 47) ∧ Box wq (w.heap.size) (.cells #[.bool false, .slice none 0 0, .slice none 0 0] 27) ∧ Box wq (w.heap.size + 1) (.cells #[.int .i64 0, .int .i64 0] 35) ∧ Box wq (w.heap.size + 2) (.cells #[.int .i64 6, .int .i64 0] 35) ∧ Below w.heap.size w wq) (fun kv _ => s.size - (intOf kv).toNat)
  case atStart => exact ⟨0, rfl, Nat.zero_le _, fun j hj => absurd hj (Nat.not_lt_zero j), E2, E3, E4, hB⟩
  case round =>
    clear E2 E3 E4 hB
    obtain ⟨k, rfl, hk, HJ, E2, E3, E4, hB⟩ := hrel
    have zB := hB.size
    have hge : (0 : Int) ≤ (k : Int) := by omega
    have hw1 : IntKind.i64.wrap ((k : Int) + 1) = (k : Int) + 1 := by rw [IntKind.wrap_i64]; omega
    by_cases hlt : k < s.size
    · skip
      have hlt2 : (k : Int) < (s.size : Int) := by omega
      obtain ⟨y, hy⟩ : ∃ y, (octs s)[k]?.getD 0 = y := ⟨_, rfl⟩
      have hby : ∀ h : k < s.size, (((s[k]'h).toNat : Nat) : Int) = y := fun h => by rw [octs_at, hy]
      by_cases h47 : y = 47
      · skip
        have hbyk : (octs s)[k]?.getD 0 = 47 := hy.trans h47
        have HST : Hid (Parsed (octs s) false (octs s) k) := HP.out k ⟨by rw [octs_len]; omega, HJ.out, Or.inr (hy.trans h47)⟩
        subst h47
        clear hy HJ
        exact (HNS.out k hlt hbyk).elim
      · have HJ2 : Hid (∀ j, j < k + 1 → (octs s)[j]?.getD 0 ≠ 47) := by
          rw [Hid]
          intro j hj
          by_cases e : j = k
          · rw [e, hy]; exact h47
          · exact HJ.out j (by omega)
        have hms : s.size - (k + 1) < s.size - k := by omega
        clear hy
        go_wp2
        refine ⟨⟨k + 1, by simp, by omega, HJ2, E2, E3, E4, hB⟩, by simpa [intOf] using hms⟩
    · skip
      have HJX := HJ
      have hlt2 : ¬ (k : Int) < (s.size : Int) := by omega
      have HST : Hid (Parsed (octs s) false (octs s) k) := HP.out k ⟨by rw [octs_len]; omega, HJ.out, Or.inl (by rw [octs_len]; omega)⟩
      clear HJ
      obtain ⟨T1, hT1⟩ : ∃ T, s.extract 0 k = T := ⟨_, rfl⟩
      have HO1 : Hid (octs T1 = (octs s).take k) := by rw [Hid, ← hT1, octs_extract, List.drop_zero, Nat.sub_zero]
      have sz1 : T1.size ≤ 400 := by rw [← octs_len, HO1.out, List.length_take, octs_len]; omega
      go_wp2_with fail
      refine (jget_any T1 _ (Or.inl (by omega))).mono ?_
      rintro e w2 ⟨a1, c1, z1, e1, p1, rfl, S1, I1, L1, hb⟩
      replace E2 := E2.below hb
      replace E3 := E3.below hb
      replace E4 := E4.below hb
      replace hB := hB.trans (hb.mono hB.size)
      have zz2 := hb.size
      have zh2 := hB.size
      clear hb
      have l1 : z1.length ≤ 800 := by rw [octs_len] at L1; omega
      rw [HO1.out] at I1
      clear hT1 L1
      rcases I1.parts with ⟨n1, x1, G1⟩ | ⟨rfl, rfl, N1, G1⟩
      · skip
        have n1b : (e1 == 0) = false := beq_eq_false_iff_ne.2 n1
        have qE2 := E2.lt
        have qE3 := E3.lt
        have qE4 := E4.lt
        have hs0 := Nat.le_refl w2.heap.size
        have hq := below_new w2 (.cells #[.int .i64 e1, .int .i64 p1] 35)
        replace E2 := E2.below hq
        replace E3 := E3.below hq
        replace E4 := E4.below hq
        replace S1 := S1.below hq
        have E9 := Box.put (w := w2) (k := (w2.heap.size)) (.cells #[.int .i64 e1, .int .i64 p1] 35) rfl
        replace hs0 := Nat.le_trans hs0 hq.size
        replace hB := hB.trans (hq.mono hB.size)
        clear hq
        have hq := below_new (w2.alloc (.cells #[.int .i64 e1, .int .i64 p1] 35)) (.cells #[.int .u64 1] 42)
        replace E2 := E2.below hq
        replace E3 := E3.below hq
        replace E4 := E4.below hq
        replace S1 := S1.below hq
        replace E9 := E9.below hq
        have EM := Box.put (w := (w2.alloc (.cells #[.int .i64 e1, .int .i64 p1] 35))) (k := (w2.heap.size + 1)) (.cells #[.int .u64 1] 42) (by simp)
        replace hs0 := Nat.le_trans hs0 hq.size
        replace hB := hB.trans (hq.mono hB.size)
        clear hq
        go_wp2_with fail
        obtain ⟨u3, hname⟩ := nm hB
        rw [hname] at hs0 hB E2 E3 E4 S1 E9 EM ⊢
        have zh3 := hB.size
        have zs3 := hs0
        clear hname hs0
        obtain ⟨k0, k1, k2, f0, f1, f2⟩ := E2.three
        obtain ⟨k3, k4, f3, f4⟩ := E3.two
        obtain ⟨k5, k6, f5, f6⟩ := E4.two
        have qE2 := E2.lt
        have qE3 := E3.lt
        have qE4 := E4.lt
        go_region
        all_goals
          go_wp2
          refine bodyPost_ret (v := .tuple #[.agg #[.bool false, .slice none 0 0, .slice none 0 0], .agg #[.int .i64 6, .int .i64 0]]) (by simp [results, Tryz.f10, go_sem, k0, k1, k2, k3, k4]) rfl ?_
          refine ⟨false, none, 0, [], none, 0, [], 6, 0, rfl, ⟨Seg.nil _ _, Seg.nil _ _⟩, .bad HB.out (HST.out.badUp HB.out G1), ?_⟩
          repeat (first | exact hB | refine Below.drew ?_ | refine Below.setCell ?_ (by simp) _)
      · skip
        have qE2 := E2.lt
        have qE3 := E3.lt
        have qE4 := E4.lt
        have hs0 := Nat.le_refl w2.heap.size
        have hq := below_new w2 (.cells #[.int .i64 0, .int .i64 0] 35)
        replace E2 := E2.below hq
        replace E3 := E3.below hq
        replace E4 := E4.below hq
        replace S1 := S1.below hq
        have E9 := Box.put (w := w2) (k := (w2.heap.size)) (.cells #[.int .i64 0, .int .i64 0] 35) rfl
        replace hs0 := Nat.le_trans hs0 hq.size
        replace hB := hB.trans (hq.mono hB.size)
        clear hq
        have hq := below_new (w2.alloc (.cells #[.int .i64 0, .int .i64 0] 35)) (.cells #[.int .u64 1] 42)
        replace E2 := E2.below hq
        replace E3 := E3.below hq
        replace E4 := E4.below hq
        replace S1 := S1.below hq
        replace E9 := E9.below hq
        have EM := Box.put (w := (w2.alloc (.cells #[.int .i64 0, .int .i64 0] 35))) (k := (w2.heap.size + 1)) (.cells #[.int .u64 1] 42) (by simp)
        replace hs0 := Nat.le_trans hs0 hq.size
        replace hB := hB.trans (hq.mono hB.size)
        clear hq
        go_wp2_with fail
        obtain ⟨u3, hname⟩ := nm hB
        rw [hname] at hs0 hB E2 E3 E4 S1 E9 EM ⊢
        have zh3 := hB.size
        have zs3 := hs0
        clear hname hs0
        have SD : Seg (w2.heap.size + 1) _ (.slice (some ⟨w2.heap.size + 1, 0, none⟩) [1].length 1) [1] := seg_one EM
        have HG1 := hide G1
        clear G1
        have G1 := HG1
        refine (imake_any S1 (by omega) false).mono ?_
        rintro e w4 ⟨b3, a3, c3, y3, rfl, S3, C3, V3, l3, hb⟩
        replace E2 := E2.below hb
        replace E3 := E3.below hb
        replace E4 := E4.below hb
        replace S1 := S1.below hb
        replace E9 := E9.below hb
        replace EM := EM.below hb
        replace SD := SD.below hb
        replace hB := hB.trans (hb.mono hB.size)
        have zz4 := hb.size
        have zh4 := hB.size
        clear hb
        have HV3 := hide V3
        clear V3
        by_cases hf : formR b3 y3 [1] = 0
        · skip
          obtain ⟨tz, htz⟩ : ∃ t, textZ b3 (val y3) (val [1]) = t := ⟨_, rfl⟩
          have HTZ := hide htz
          have htO : Octs tz := by rw [← htz]; exact textZ_octs _ _ _
          clear htz
          have hteq : ((strOfNums tz).toList == s.toList) = decide (tz = octs s) := by rw [str_eq, octs_str htO]
          have HF := hide hf
          clear hf
          have qE2 := E2.lt
          have qE3 := E3.lt
          have qE4 := E4.lt
          have qE9 := E9.lt
          have qEM := EM.lt
          have hs0 := Nat.le_refl w4.heap.size
          have hq := below_new w4 (.cells #[.bool b3, .slice a3 y3.length c3, .slice (some ⟨w2.heap.size + 1, 0, none⟩) 1 1] 27)
          replace E2 := E2.below hq
          replace E3 := E3.below hq
          replace E4 := E4.below hq
          replace S1 := S1.below hq
          replace E9 := E9.below hq
          replace EM := EM.below hq
          replace SD := SD.below hq
          replace S3 := S3.below hq
          have E13 := Box.put (w := w4) (k := (w4.heap.size)) (.cells #[.bool b3, .slice a3 y3.length c3, .slice (some ⟨w2.heap.size + 1, 0, none⟩) 1 1] 27) rfl
          replace hs0 := Nat.le_trans hs0 hq.size
          replace hB := hB.trans (hq.mono hB.size)
          clear hq
          go_wp2_with fail
          obtain ⟨u5, hname⟩ := nm hB
          rw [hname] at hs0 hB E2 E3 E4 S1 E9 EM SD S3 E13 ⊢
          have zh5 := hB.size
          have zs5 := hs0
          clear hname hs0
          have hk := jtext_ok (lo := 0) b3 ⟨S3.mono (Nat.zero_le _), SD.mono (Nat.zero_le _)⟩ (by omega) (by first | omega | simp) HF.out
          rw [HTZ.out] at hk
          refine (hk).mono ?_
          rintro e w6 ⟨rfl, hb⟩
          replace E2 := E2.below hb
          replace E3 := E3.below hb
          replace E4 := E4.below hb
          replace S1 := S1.below hb
          replace E9 := E9.below hb
          replace EM := EM.below hb
          replace SD := SD.below hb
          replace S3 := S3.below hb
          replace E13 := E13.below hb
          replace hB := hB.trans (hb.mono hB.size)
          have zz6 := hb.size
          have zh6 := hB.size
          clear hb
          clear hk
          by_cases ht : tz = octs s
          · skip
            rw [decide_eq_true ht] at hteq
            have HT := hide ht
            clear ht
            obtain ⟨k0, k1, k2, f0, f1, f2⟩ := E2.three
            obtain ⟨k3, k4, f3, f4⟩ := E3.two
            obtain ⟨k5, k6, k7, f5, f6, f7⟩ := E13.three
            have qE2 := E2.lt
            have qE3 := E3.lt
            have qE4 := E4.lt
            have qE9 := E9.lt
            have qEM := EM.lt
            have qE13 := E13.lt
            have hs0 := Nat.le_refl w6.heap.size
            have hT := turns3 (w.heap.size) w6 (.bool b3) (.slice a3 y3.length c3) (.slice (some ⟨w2.heap.size + 1, 0, none⟩) 1 1)
            replace E3 := E3.turns hT (by omega)
            replace E4 := E4.turns hT (by omega)
            replace S1 := S1.beside E2 (noWord3 (fun _ e => by cases e) (fun _ e => by cases e) (fun _ e => by cases e)) hT
            replace E9 := E9.turns hT (by omega)
            replace EM := EM.turns hT (by omega)
            replace SD := SD.beside E2 (noWord3 (fun _ e => by cases e) (fun _ e => by cases e) (fun _ e => by cases e)) hT
            replace S3 := S3.beside E2 (noWord3 (fun _ e => by cases e) (fun _ e => by cases e) (fun _ e => by cases e)) hT
            replace E13 := E13.turns hT (by omega)
            replace E2 := Box.set3 (.bool b3) (.slice a3 y3.length c3) (.slice (some ⟨w2.heap.size + 1, 0, none⟩) 1 1) E2
            replace hB := hB.trans (hT.below.mono (by omega))
            replace hs0 := Nat.le_trans hs0 hT.below.size
            clear hT
            have hT := (((Turns.refl (w.heap.size + 1) (((w6.setCell ⟨w.heap.size, 0, none⟩ (.bool b3)).setCell ⟨w.heap.size, 1, none⟩ (.slice a3 y3.length c3)).setCell ⟨w.heap.size, 2, none⟩ (.slice (some ⟨w2.heap.size + 1, 0, none⟩) 1 1))).setCell 0 (.int .i64 0)).setCell 1 (.int .i64 0))
            replace E2 := E2.turns hT (by omega)
            replace E4 := E4.turns hT (by omega)
            replace S1 := S1.beside E3 (noWord2 (fun _ e => by cases e) (fun _ e => by cases e)) hT
            replace E9 := E9.turns hT (by omega)
            replace EM := EM.turns hT (by omega)
            replace SD := SD.beside E3 (noWord2 (fun _ e => by cases e) (fun _ e => by cases e)) hT
            replace S3 := S3.beside E3 (noWord2 (fun _ e => by cases e) (fun _ e => by cases e)) hT
            replace E13 := E13.turns hT (by omega)
            replace E3 : Box (((((w6.setCell ⟨w.heap.size, 0, none⟩ (.bool b3)).setCell ⟨w.heap.size, 1, none⟩ (.slice a3 y3.length c3)).setCell ⟨w.heap.size, 2, none⟩ (.slice (some ⟨w2.heap.size + 1, 0, none⟩) 1 1)).setCell ⟨w.heap.size + 1, 0, none⟩ (.int .i64 0)).setCell ⟨w.heap.size + 1, 1, none⟩ (.int .i64 0)) (w.heap.size + 1) (.cells #[.int .i64 0, .int .i64 0] 35) := ⟨Nat.lt_of_lt_of_le E3.lt hT.below.size, (heap_setCell_same _ _ 1 _ _ _ (heap_setCell_same _ _ 0 _ _ _ E3.what))⟩
            replace hB := hB.trans (hT.below.mono (by omega))
            replace hs0 := Nat.le_trans hs0 hT.below.size
            clear hT
            go_wp2
            clear k0 k1 k2 f0 f1 f2 k3 k4 f3 f4 k5 k6 k7 f5 f6 f7
            have r2 := E2.three
            have r3 := E3.two
            refine bodyPost_ret (v := .tuple #[.agg #[.bool b3, .slice a3 y3.length c3, .slice (some ⟨w2.heap.size + 1, 0, none⟩) 1 1], .agg #[.int .i64 0, .int .i64 0]]) (by simp [results, Tryz.f10, go_sem, r2.1, r2.2.1, r2.2.2.1, r3.1, r3.2.1]) rfl ?_
            exact ⟨b3, _, _, y3, _, _, [1], 0, 0, rfl, ⟨S3.mono (by omega), SD.mono (by omega)⟩, .ok ((formR_low S3.words SD.words).1 HF.out) (HTZ.out.trans HT.out) HB.out, hB⟩
          · skip
            rw [decide_eq_false ht] at hteq
            have HT := hide ht
            clear ht
            go_wp2_with fail
            obtain ⟨k0, k1, k2, f0, f1, f2⟩ := E2.three
            obtain ⟨k3, k4, f3, f4⟩ := E3.two
            obtain ⟨k5, k6, f5, f6⟩ := E4.two
            have qE2 := E2.lt
            have qE3 := E3.lt
            have qE4 := E4.lt
            go_region
            all_goals
              go_wp2
              refine bodyPost_ret (v := .tuple #[.agg #[.bool false, .slice none 0 0, .slice none 0 0], .agg #[.int .i64 6, .int .i64 0]]) (by simp [results, Tryz.f10, go_sem, k0, k1, k2, k3, k4]) rfl ?_
              refine ⟨false, none, 0, [], none, 0, [], 6, 0, rfl, ⟨Seg.nil _ _, Seg.nil _ _⟩, .bad HB.out (HST.out.badForm HB.out G1.out (Or.inr ⟨by rw [octs_len]; omega, by decide⟩) SD.words (Or.inr (by decide)) S3.words C3 HV3.out (fun h => HT.out (HTZ.out.symm.trans h.2))), ?_⟩
              repeat (first | exact hB | refine Below.drew ?_ | refine Below.setCell ?_ (by simp) _)
        · skip
          have HF := hide hf
          clear hf
          have qE2 := E2.lt
          have qE3 := E3.lt
          have qE4 := E4.lt
          have qE9 := E9.lt
          have qEM := EM.lt
          have hs0 := Nat.le_refl w4.heap.size
          have hq := below_new w4 (.cells #[.bool b3, .slice a3 y3.length c3, .slice (some ⟨w2.heap.size + 1, 0, none⟩) 1 1] 27)
          replace E2 := E2.below hq
          replace E3 := E3.below hq
          replace E4 := E4.below hq
          replace S1 := S1.below hq
          replace E9 := E9.below hq
          replace EM := EM.below hq
          replace SD := SD.below hq
          replace S3 := S3.below hq
          have E13 := Box.put (w := w4) (k := (w4.heap.size)) (.cells #[.bool b3, .slice a3 y3.length c3, .slice (some ⟨w2.heap.size + 1, 0, none⟩) 1 1] 27) rfl
          replace hs0 := Nat.le_trans hs0 hq.size
          replace hB := hB.trans (hq.mono hB.size)
          clear hq
          go_wp2_with fail
          obtain ⟨u5, hname⟩ := nm hB
          rw [hname] at hs0 hB E2 E3 E4 S1 E9 EM SD S3 E13 ⊢
          have zh5 := hB.size
          have zs5 := hs0
          clear hname hs0
          refine (jtext_no (lo := 0) b3 ⟨S3.mono (Nat.zero_le _), SD.mono (Nat.zero_le _)⟩ (by omega) (by first | omega | simp) HF.out).mono ?_
          rintro e w6 ⟨rfl, hb⟩
          replace E2 := E2.below hb
          replace E3 := E3.below hb
          replace E4 := E4.below hb
          replace S1 := S1.below hb
          replace E9 := E9.below hb
          replace EM := EM.below hb
          replace SD := SD.below hb
          replace S3 := S3.below hb
          replace E13 := E13.below hb
          replace hB := hB.trans (hb.mono hB.size)
          have zz6 := hb.size
          have zh6 := hB.size
          clear hb
          go_wp2_with fail
          obtain ⟨k0, k1, k2, f0, f1, f2⟩ := E2.three
          obtain ⟨k3, k4, f3, f4⟩ := E3.two
          obtain ⟨k5, k6, f5, f6⟩ := E4.two
          have qE2 := E2.lt
          have qE3 := E3.lt
          have qE4 := E4.lt
          go_region
          all_goals
            go_wp2
            refine bodyPost_ret (v := .tuple #[.agg #[.bool false, .slice none 0 0, .slice none 0 0], .agg #[.int .i64 6, .int .i64 0]]) (by simp [results, Tryz.f10, go_sem, k0, k1, k2, k3, k4]) rfl ?_
            refine ⟨false, none, 0, [], none, 0, [], 6, 0, rfl, ⟨Seg.nil _ _, Seg.nil _ _⟩, .bad HB.out (HST.out.badForm HB.out G1.out (Or.inr ⟨by rw [octs_len]; omega, by decide⟩) SD.words (Or.inr (by decide)) S3.words C3 HV3.out (fun h => HF.out h.1)), ?_⟩
            repeat (first | exact hB | refine Below.drew ?_ | refine Below.setCell ?_ (by simp) _)
end Go.Proofs.YtfcpaejeppedoaaGreatDoor
