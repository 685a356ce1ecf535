/-
  Joined: SigB SigC SigD SignedC RatK RatA RatY DigG DPh RPower Lits.
-/
import Derived.Test.YtfcpaejeppedoaaJRMulB
import Derived.Test.YtfcpaejeppedoaaJMul
import Derived.Test.YtfcpaejeppedoaaJDown
import Derived.Test.YtfcpaejeppedoaaSub
import Derived.Laws.EntriesVeiled
import Derived.Test.YtfcpaejeppedoaaJLenOf
import Derived.Test.YtfcpaejeppedoaaJQLong
import Derived.Test.YtfcpaejeppedoaaJRDiv
import Derived.Test.YtfcpaejeppedoaaJRefD
import Derived.Test.YtfcpaejeppedoaaJRefA
import Derived.Deep.RegionHeld3
import Derived.Test.YtfcpaejeppedoaaKit
namespace Go.Proofs.Ytfcpaejeppedoaa
open Go.RowKit
end Go.Proofs.Ytfcpaejeppedoaa
namespace Go.Proofs.Ytfcpaejeppedoaa
open Go.RowKit
open Go.RowKit
open Go.RowKit
end Go.Proofs.Ytfcpaejeppedoaa
namespace Go.Proofs.Ytfcpaejeppedoaa
open Go.RowKit
structure Fr (lo : Nat) (W : World) (a : Option Addr) (ca : Nat) (xs : List Int) (c : Option Addr) (cc : Nat) (ds : List Int) : Prop where
  up : Seg lo W (.slice a xs.length ca) xs
  down : Seg lo W (.slice c ds.length cc) ds
theorem Fr.below {lo : Nat} {W W' : World} {a c : Option Addr} {ca cc : Nat} {xs ds : List Int} (h : Fr lo W a ca xs c cc ds) (hb : Below W.heap.size W W') : Fr lo W' a ca xs c cc ds := ⟨h.up.below hb, h.down.below hb⟩
theorem Fr.mono {lo lo' : Nat} {W : World} {a c : Option Addr} {ca cc : Nat} {xs ds : List Int} (h : Fr lo W a ca xs c cc ds) (hl : lo' ≤ lo) : Fr lo' W a ca xs c cc ds := ⟨h.up.mono hl, h.down.mono hl⟩
theorem Fr.drew {lo : Nat} {W : World} {a c : Option Addr} {ca cc : Nat} {xs ds : List Int} (h : Fr lo W a ca xs c cc ds) : Fr lo W.drew a ca xs c cc ds := ⟨h.up.drew, h.down.drew⟩
structure Is (b : Bool) (xs ds : List Int) (q : Rat) (n : Nat) : Prop where
  low : LowL b xs ds
  rat : ratL b xs ds = q
  lu : xs.length ≤ n
  ld : ds.length ≤ n
theorem Is.mono {b : Bool} {xs ds : List Int} {q : Rat} {n m : Nat} (h : Is b xs ds q n) (hm : n ≤ m) : Is b xs ds q m := ⟨h.low, h.rat, Nat.le_trans h.lu hm, Nat.le_trans h.ld hm⟩
theorem Is.to {b : Bool} {xs ds : List Int} {q r : Rat} {n : Nat} (h : Is b xs ds q n) (e : q = r) : Is b xs ds r n := e ▸ h
def formR (b : Bool) (xs ds : List Int) : Int := if formI b xs = 0 ∧ formOf ds = 0 ∧ ds ≠ [] ∧ gcdI (val xs) (val ds) = 1 then 0 else 6
end Go.Proofs.Ytfcpaejeppedoaa
namespace Go.Proofs.Ytfcpaejeppedoaa
open Go.RowKit
end Go.Proofs.Ytfcpaejeppedoaa
namespace Go.Proofs.Ytfcpaejeppedoaa
open Go.RowKit
def Yield.nat (lo : Nat) (x : Int) (n : Nat) : Yield := .rel (fun v W => ∃ (a : Option Addr) (c : Nat) (z : List Int), v = .slice a z.length c ∧ Seg lo W (.slice a z.length c) z ∧ Norm z ∧ Hid (val z = x) ∧ z.length ≤ n)
  (fun _ _ _ hb ⟨a, c, z, e, s, r⟩ => ⟨a, c, z, e, s.below hb, r⟩)
def Yield.natIn (f : Value → Value) (lo : Nat) (x : Int) (n : Nat) : Yield := .rel (fun v W => ∃ (a : Option Addr) (c : Nat) (z : List Int), v = f (.slice a z.length c) ∧ Seg lo W (.slice a z.length c) z ∧ Norm z ∧ Hid (val z = x) ∧ z.length ≤ n)
  (fun _ _ _ hb ⟨a, c, z, e, s, r⟩ => ⟨a, c, z, e, s.below hb, r⟩)
def Yield.int (lo : Nat) (x : Int) (n : Nat) : Yield := .rel (fun v W => ∃ (g : Bool) (a : Option Addr) (c : Nat) (z : List Int), v = .agg #[.bool g, .slice a z.length c] ∧ Seg lo W (.slice a z.length c) z ∧ Canon g z ∧ Hid (sgn g (val z) = x) ∧ z.length ≤ n)
  (fun _ _ _ hb ⟨g, a, c, z, e, s, r⟩ => ⟨g, a, c, z, e, s.below hb, r⟩)
def Yield.intIn (f : Bool → Value → Value) (lo : Nat) (x : Int) (n : Nat) : Yield := .rel (fun v W => ∃ (g : Bool) (a : Option Addr) (c : Nat) (z : List Int), v = f g (.slice a z.length c) ∧ Seg lo W (.slice a z.length c) z ∧ Canon g z ∧ Hid (sgn g (val z) = x) ∧ z.length ≤ n)
  (fun _ _ _ hb ⟨g, a, c, z, e, s, r⟩ => ⟨g, a, c, z, e, s.below hb, r⟩)
def Yield.frac (lo : Nat) (q : Rat) (n : Nat) : Yield := .rel (fun v W => ∃ (b : Bool) (a : Option Addr) (ca : Nat) (xs : List Int) (c : Option Addr) (cc : Nat) (ds : List Int), v = .agg #[.bool b, .slice a xs.length ca, .slice c ds.length cc] ∧ Fr lo W a ca xs c cc ds ∧ Apart a c xs ds ∧ Is b xs ds q n)
  (fun _ _ _ hb ⟨b, a, ca, xs, c, cc, ds, e, s, r⟩ => ⟨b, a, ca, xs, c, cc, ds, e, s.below hb, r⟩)
def Yield.fracE (lo : Nat) (q : Rat) (n : Nat) : Yield := .rel (fun v W => ∃ (b : Bool) (a : Option Addr) (ca : Nat) (xs : List Int) (c : Option Addr) (cc : Nat) (ds : List Int), v = .tuple #[.agg #[.bool b, .slice a xs.length ca, .slice c ds.length cc], .int .i64 0] ∧ Fr lo W a ca xs c cc ds ∧ Apart a c xs ds ∧ Is b xs ds q n)
  (fun _ _ _ hb ⟨b, a, ca, xs, c, cc, ds, e, s, r⟩ => ⟨b, a, ca, xs, c, cc, ds, e, s.below hb, r⟩)
def Yield.copyw (lo : Nat) (b : Bool) (zs : List Int) : Yield := .rel (fun v W => ∃ (a : Option Addr) (c : Nat), v = .agg #[.bool b, .slice a zs.length c] ∧ Seg lo W (.slice a zs.length c) zs)
  (fun _ _ _ hb ⟨a, c, e, s⟩ => ⟨a, c, e, s.below hb⟩)
def Yield.copyn (lo : Nat) (zs : List Int) : Yield := .rel (fun v W => ∃ (a : Option Addr) (c : Nat), v = .slice a zs.length c ∧ Seg lo W (.slice a zs.length c) zs)
  (fun _ _ _ hb ⟨a, c, e, s⟩ => ⟨a, c, e, s.below hb⟩)
def NoWord (cs : Array Value) : Prop := ∀ (i : Nat) (x : Int), cs[i]? ≠ some (.int .u64 x)
theorem Seg.offU {lo : Nat} {W : World} {a : Option Addr} {n cap k : Nat} {zs : List Int} {cs : Array Value} {t : TypeId} (h : Seg lo W (.slice a n cap) zs) (hk : Box W k (.cells cs t (0, 0))) (hs : NoWord cs) (hz : zs ≠ []) : ∀ g o, a = some ⟨g, o, none⟩ → g ≠ k := by
  rintro g o rfl rfl
  obtain ⟨hn, _⟩ := h.len
  subst hn
  have hc := (h.cell (j := 0) (List.length_pos_iff.2 hz)).1
  rw [cell_of_heap hk.what (o + 0)] at hc
  exact hs _ _ hc
theorem Seg.beside {lo : Nat} {W W' : World} {a : Option Addr} {n cap k : Nat} {zs : List Int} {cs : Array Value} {t : TypeId} (h : Seg lo W (.slice a n cap) zs) (hk : Box W k (.cells cs t (0, 0))) (hs : NoWord cs) (ht : Turns k W W') : Seg lo W' (.slice a n cap) zs := by
  by_cases hz : zs = []
  · obtain ⟨hn, hc⟩ := h.len
    subst hz hn
    exact Seg.empty _ _ _ _
  · obtain ⟨g, o, rfl, _, _⟩ := h.row (by rw [h.len.1]; exact List.length_pos_iff.2 hz)
    exact h.turns ht (h.offU hk hs hz g o rfl)
theorem Fr.beside {lo : Nat} {W W' : World} {a c : Option Addr} {ca cc k : Nat} {xs ds : List Int} {cs : Array Value} {t : TypeId} (h : Fr lo W a ca xs c cc ds) (hk : Box W k (.cells cs t (0, 0))) (hs : NoWord cs) (ht : Turns k W W') : Fr lo W' a ca xs c cc ds := ⟨h.up.beside hk hs ht, h.down.beside hk hs ht⟩
theorem noWord2 {u v : Value} (hu : ∀ x, u ≠ .int .u64 x) (hv : ∀ x, v ≠ .int .u64 x) : NoWord #[u, v] := fun i x e => by
  match i with
  | 0 => simp at e; exact hu _ e
  | 1 => simp at e; exact hv _ e
  | i + 2 => simp at e
theorem Box.one {W : World} {k : Nat} {u : Value} {t : TypeId} (h : Box W k (.cells #[u] t (0, 0))) : W.cell? ⟨k, 0, none⟩ = some u ∧ W.frozen? ⟨k, 0, none⟩ = false := ⟨cell_of_heap h.what 0, frozen_of_heap h.what 0⟩
inductive GetIs : Except (Int × Int) Int → List Int → Int → Int → Prop where
  | ok {v : Int} {zs : List Int} (hn : Norm zs) (hv : val zs = v) : GetIs (.ok v) zs 0 0
  | err (e p : Int) : GetIs (.error (e, p)) [] e p
def GetSaid (bs : List Int) (w : World) (e : Ending) (w' : World) : Prop :=
  ∃ (a : Option Addr) (cap : Nat) (zs : List Int) (er p : Int), e = .returned (.tuple #[.slice a zs.length cap, .agg #[.int .i64 er, .int .i64 p]]) ∧ Seg w.heap.size w' (.slice a zs.length cap) zs ∧ GetIs (getZ bs) zs er p ∧ zs.length ≤ 2 * bs.length ∧ Below w.heap.size w w'
def GotSaid (bs : List Int) (w : World) (e : Ending) (w' : World) : Prop :=
  ∃ (a : Option Addr) (cap : Nat) (zs : List Int) (er p : Int), e = .returned (.tuple #[.slice a zs.length cap, .agg #[.int .i64 er, .int .i64 p]]) ∧ Seg w.heap.size w' (.slice a zs.length cap) zs ∧ GetIs (getP bs) zs er p ∧ zs.length ≤ bs.length ∧ Below w.heap.size w w'
def textSize : Value → Nat
  | .string t => t.size
  | _ => 0
theorem octs_cut (s : ByteArray) (i j : Nat) : octs (s.extract i j) = ((octs s).drop i).take (j - i) := by
  unfold octs
  rw [ByteArray.data_extract, Array.toList_extract, List.extract, List.map_take, List.map_drop]
theorem behind_val {bs : List Int} {k m : Nat} {v : Int} (h : k = 0 ∨ m = 19) (hk : k + m ≤ bs.length) (hv : v = numZ (bs.take k)) : numZ (bs.take (k + m)) = v * 10000000000000000000 + numZ ((bs.drop k).take m) := by
  rw [List.take_add, numZ_append, ← hv, List.length_take, List.length_drop, Nat.min_eq_left (by omega)]
  rcases h with h | h
  · subst h
    have : v = 0 := by rw [hv]; rfl
    subst this
    simp
  · subst h
    rfl
set_option maxRecDepth 100000 in
set_option maxHeartbeats 4000000 in
theorem get_any (s : ByteArray) (w : World) (hl : s.size ≤ 1000 ∨ 10000 < s.size) : Calls Try.prog 38 #[.string s] w fun e w' => GotSaid (octs s) w e w' := by
  have HLEN := hide (octs_len s)
  have hbs := hide (octs_octs s)
  have hq := below_new w (.cells #[.int .i64 0, .int .i64 0] 62)
  have E : Box (w.alloc (.cells #[.int .i64 0, .int .i64 0] 62)) w.heap.size (.cells #[.int .i64 0, .int .i64 0] 62) := Box.put _ rfl
  go_enter Try.func38, Try.ntmps38
  by_cases h1 : 10000 < s.size
  · have HG : Hid (getP (octs s) = .error (4, 10000)) := by rw [Hid, getP, if_pos (by rw [HLEN.out]; exact h1)]
    have h2 : (10000 : Int) < (s.size : Int) := by omega
    have hq2 : Below w.heap.size w (w.alloc (.cells #[.int .i64 4, .int .i64 10000] 62)) := (Below.refl _ _).alloc (Nat.le_refl _) _
    clear hl E hq
    go_wp2
    refine bodyPost_ret (v := .tuple #[.slice none 0 0, .agg #[.int .i64 4, .int .i64 10000]]) (by simp [results, Try.f38, go_sem]) rfl ?_
    exact ⟨none, 0, [], 4, 10000, rfl, Seg.nil _ _, by rw [HG.out]; exact .err 4 10000, Nat.zero_le _, hq2⟩
  · have h2 : ¬ (10000 : Int) < (s.size : Int) := by omega
    have hS : s.size ≤ 1000 := by omega
    have hwr := fun w => wrongAt_any s w (by omega)
    have HL0 : Hid (¬ 10000 < (octs s).length) := by rw [Hid, HLEN.out]; omega
    obtain ⟨k0, k1, f0, f1⟩ := E.two
    clear hl h1
    go_wp2_with fail
    refine (hwr _).mono ?_
    rintro e w1 ⟨hres, rfl⟩
    clear hwr
    rcases hres with ⟨rfl, hok⟩ | ⟨rfl, hno⟩
    · have HOK := hide hok
      have HV0 : Hid (val [] = numZ ((octs s).take 0)) := by rw [Hid, List.take_zero]; rfl
      have HO0 : Hid (octs s = (octs s).drop 0) := by rw [Hid, List.drop_zero]
      obtain ⟨W1, hW1⟩ : ∃ W, w.alloc (.cells #[.int .i64 0, .int .i64 0] 62) = W := ⟨_, rfl⟩
      have hz1 : W1.heap.size = w.heap.size + 1 := by rw [← hW1, World.size_alloc]
      rw [hW1] at E hq k0 k1 f0 f1 ⊢
      clear hok hW1 k0 k1 f0 f1
      go_wp2
      go_loopw [0, 6] (fun sv nv wr => ∃ (k : Nat) (t : ByteArray) (a : Option Addr) (c : Nat) (ns : List Int), sv = .string t ∧ nv = .slice a ns.length c ∧ k + t.size = s.size ∧ (k = 0 ∨ ∃ m, t.size = 19 * m) ∧ Hid (octs t = (octs s).drop k) ∧ Own W1.heap.size wr (.slice a ns.length c) ns ∧ Norm ns ∧ Hid (val ns = numZ ((octs s).take k)) ∧ ns.length ≤ k ∧ Below W1.heap.size W1 wr) (fun sv _ _ => textSize sv)
      case atStart => exact ⟨0, s, none, 0, [], rfl, rfl, by omega, Or.inl rfl, HO0, own_nil _ _, norm_nil, HV0, by simp, Below.refl _ _⟩
      case round =>
        clear HV0 HO0
        obtain ⟨k, t, a, c, ns, rfl, rfl, hk, hm, HO, ho, hn, HV, hnl, hB⟩ := hrel
        by_cases ht : 0 < t.size
        · have ht2 : (0 : Int) < (t.size : Int) := by omega
          obtain ⟨z, hz⟩ : ∃ z : Nat, (t.size - 1) % 19 + 1 = z := ⟨_, rfl⟩
          have hzb : 1 ≤ z ∧ z ≤ 19 ∧ z ≤ t.size := by omega
          have hzm : k = 0 ∨ z = 19 := by
            rcases hm with h | ⟨m, h⟩
            · exact Or.inl h
            · right; omega
          have hzn : ∃ m, t.size - z = 19 * m := ⟨(t.size - z) / 19, by omega⟩
          have hw1 : IntKind.i64.wrap ((t.size : Int) - 1) = (t.size : Int) - 1 := by rw [IntKind.wrap_i64]; omega
          have hw2 : IntKind.i64.wrap (((t.size : Int) - 1) % 19 + 1) = (z : Int) := by rw [IntKind.wrap_i64]; omega
          obtain ⟨T1, hT1⟩ : ∃ T, t.extract 0 z = T := ⟨_, rfl⟩
          have HO1 : Hid (octs T1 = ((octs s).drop k).take z) := by rw [Hid, ← hT1, octs_cut, List.drop_zero, Nat.sub_zero, HO.out]
          obtain ⟨T2, hT2⟩ : ∃ T, t.extract z t.size = T := ⟨_, rfl⟩
          have HO2 : Hid (octs T2 = (octs s).drop (k + z)) := by rw [Hid, ← hT2, octs_cut, List.take_of_length_le (by rw [List.length_drop, octs_len]; omega), HO.out, List.drop_drop]
          have z1 : T1.size = z := by rw [← octs_len, HO1.out, List.length_take, List.length_drop, HLEN.out]; omega
          have z2 : T2.size = t.size - z := by rw [← octs_len, HO2.out, List.length_drop, HLEN.out]; omega
          have hA1 : AllDig (octs T1) := fun y hy => HOK.out.2.1 y (by
            rw [HO1.out] at hy
            exact List.mem_of_mem_drop (List.mem_of_mem_take hy))
          have hgg := fun w => getGroup_any T1 w (by omega) hA1
          have hgb := numZ_bound (octs T1) hA1
          have hgb2 := numZ_lt (k := 19) hA1 (by rw [octs_len]; omega)
          rw [show (10 : Int) ^ 19 = 10000000000000000000 by decide] at hgb2
          have HN2 : Hid (numZ ((octs s).take (k + z)) = val ns * 10000000000000000000 + numZ (octs T1)) := by
            rw [Hid, HO1.out]
            exact behind_val hzm (by rw [HLEN.out]; omega) HV.out
          have hpb := putBehind_any ho hn (by omega) hB.size (numZ (octs T1)) ⟨hgb.1, hgb2⟩
          obtain ⟨G, hG⟩ : ∃ G, numZ (octs T1) = G := ⟨_, rfl⟩
          rw [hG] at hgg hpb HN2
          have hz0 : (0 : Int) ≤ (z : Int) := by omega
          have hz3 : (z : Int) ≤ (t.size : Int) := by omega
          have HZ := hide hzn
          have HK : Hid (1 ≤ z ∧ z ≤ t.size) := ⟨hzb.1, hzb.2.2⟩
          have Hz2 := hide z2
          clear hm hzm hzn hA1 hgb hgb2 hG z1 z2 hzb hz
          go_wp2_with fail
          refine (hgg _).mono ?_
          rintro e w1 ⟨rfl, rfl⟩
          go_wp2_with fail
          refine hpb.mono ?_
          rintro e w2 ⟨a2, c2, ys, rfl, ho2, hn2, hv2, hl2, hb2⟩
          have HV2 : Hid (val ys = numZ ((octs s).take (k + z))) := by rw [Hid, hv2, HN2.out]
          have hB2 := hB.trans hb2
          clear hgg hpb hv2 ho hB hn
          have HM : Hid (textSize (.string T2) < textSize (.string t)) := by
            show T2.size < t.size
            have := Hz2.out
            have := HK.out
            omega
          go_wp2
          exact ⟨⟨k + z, T2, a2, c2, ys, rfl, rfl, by have := Hz2.out; have := HK.out; omega, Or.inr (by rw [Hz2.out]; exact HZ.out), HO2, ho2, hn2, HV2, by have := HK.out; omega, hB2⟩, HM.out⟩
        · have ht0 : t.size = 0 := by omega
          have hn0 : ¬ (0 : Int) < (t.size : Int) := by omega
          have HG : Hid (getP (octs s) = .ok (val ns)) := by
            rw [Hid, getP, if_neg HL0.out, if_pos ((okB_iff _).2 HOK.out), HV.out, List.take_of_length_le (by rw [HLEN.out]; omega)]
          have E2 : Box wr w.heap.size (.cells #[.int .i64 0, .int .i64 0] 62) := E.under hB (by omega)
          obtain ⟨a', c', e', hs⟩ := own_seg ho
          simp only [Value.slice.injEq] at e'
          obtain ⟨rfl, _, rfl⟩ := e'
          have hB3 : Below w.heap.size w wr := hq.trans (hB.mono (by omega))
          have hs2 := hs.mono (show w.heap.size ≤ W1.heap.size by omega)
          have HNl : Hid (ns.length ≤ (octs s).length) := by rw [Hid, HLEN.out]; omega
          obtain ⟨k0, k1, f0, f1⟩ := E2.two
          clear HV hm HO E
          go_wp2
          clear k0 k1 f0 f1
          have E3 := (Box.set2 (.int .i64 0) (.int .i64 0) E2).two
          have r0 := E3.1
          have r1 := E3.2.1
          clear E3
          refine bodyPost_ret (v := .tuple #[.slice a ns.length c, .agg #[.int .i64 0, .int .i64 0]]) (by simp [results, Try.f38, go_sem, r0, r1]) rfl ?_
          exact ⟨a, c, ns, 0, 0, rfl, hs2.beside E2 (noWord2 (fun _ e => by cases e) (fun _ e => by cases e)) (turns2 _ _ _ _), by rw [HG.out]; exact .ok hn rfl, HNl.out, hB3.trans (turns2 _ _ _ _).below⟩
    · have HG : Hid (getP (octs s) = .error (6, (wrongI (octs s) : Int))) := by rw [Hid, getP, if_neg HL0.out, if_neg (fun e => hno ((okB_iff _).1 e))]
      clear hno
      have hq3 : Below w.heap.size w (w.alloc (.cells #[.int .i64 6, .int .i64 (wrongI (octs s))] 62)) := (Below.refl _ _).alloc (Nat.le_refl _) _
      go_wp2
      refine bodyPost_ret (v := .tuple #[.slice none 0 0, .agg #[.int .i64 6, .int .i64 (wrongI (octs s))]]) (by simp [results, Try.f38, go_sem]) rfl ?_
      exact ⟨none, 0, [], 6, wrongI (octs s), rfl, Seg.nil _ _, by rw [HG.out]; exact .err 6 _, Nat.zero_le _, hq3⟩
end Go.Proofs.Ytfcpaejeppedoaa
namespace Go.Proofs.Ytfcpaejeppedoaa
open Go.RowKit
end Go.Proofs.Ytfcpaejeppedoaa
namespace Go.Proofs.Ytfcpaejeppedoaa
open Go.RowKit
def wordsB (zs : List Int) : Bool := zs.all fun z => decide (0 ≤ z) && decide (z < 18446744073709551616)
theorem Seg.alloc {lo : Nat} {W : World} {sv : Value} {zs : List Int} (h : Seg lo W sv zs) (o : Obj) : Seg lo (W.alloc o) sv zs := h.below ((Below.refl _ _).alloc (Nat.le_refl _) o)
set_option maxHeartbeats 400000 in
theorem pick_below (K : Int) (hK : K = 8 ∨ K = 10) (x : Int) (hx : -9223372036854775808 ≤ x) (hx' : x ≤ 9223372036854775807) (w : World) : Calls Try.prog 17 #[.int .i64 x, .int .i64 K] w fun e w' => ∃ n : Nat, (n : Int) < K ∧ e = .returned (.int .i64 n) ∧ w' = w := by
  rcases hK with rfl | rfl
  all_goals
    by_cases h0 : 0 ≤ x
    · first
        | (have h1 : 0 ≤ x % 8 := by omega
           have h2 : x % 8 < 8 := by omega
           go_enter Try.func17, Try.ntmps17
           go_wp2
           go_ret
           exact ⟨(x % 8).toNat, by omega, ret_int (by omega), rfl⟩)
        | (have h1 : 0 ≤ x % 10 := by omega
           have h2 : x % 10 < 10 := by omega
           go_enter Try.func17, Try.ntmps17
           go_wp2
           go_ret
           exact ⟨(x % 10).toNat, by omega, ret_int (by omega), rfl⟩)
    · first
        | (have h1 : -8 < x.tmod 8 ∧ x.tmod 8 ≤ 0 := by
             have e : x.tmod 8 = -((-x) % 8) := by
               rw [show x = -(-x) by omega, Int.neg_tmod, Int.tmod_eq_emod_of_nonneg (by omega)]; simp
             omega
           by_cases h2 : x.tmod 8 < 0
           · have h3 : ¬ x.tmod 8 = 0 := by omega
             go_enter Try.func17, Try.ntmps17
             go_wp2
             go_ret
             exact ⟨(x.tmod 8 + 8).toNat, by omega, ret_int (by omega), rfl⟩
           · have h3 : x.tmod 8 = 0 := by omega
             go_enter Try.func17, Try.ntmps17
             go_wp2
             go_ret
             exact ⟨0, by omega, ret_int (by omega), rfl⟩)
        | (have h1 : -10 < x.tmod 10 ∧ x.tmod 10 ≤ 0 := by
             have e : x.tmod 10 = -((-x) % 10) := by
               rw [show x = -(-x) by omega, Int.neg_tmod, Int.tmod_eq_emod_of_nonneg (by omega)]; simp
             omega
           by_cases h2 : x.tmod 10 < 0
           · have h3 : ¬ x.tmod 10 = 0 := by omega
             go_enter Try.func17, Try.ntmps17
             go_wp2
             go_ret
             exact ⟨(x.tmod 10 + 10).toNat, by omega, ret_int (by omega), rfl⟩
           · have h3 : x.tmod 10 = 0 := by omega
             go_enter Try.func17, Try.ntmps17
             go_wp2
             go_ret
             exact ⟨0, by omega, ret_int (by omega), rfl⟩)
end Go.Proofs.Ytfcpaejeppedoaa
