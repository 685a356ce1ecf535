/-
  The walks of the program's cut, crossOnly and join: what a product by halves is put together of.
-/
import Derived.Test.YtejocefblpkdjabGreatSchool
import Derived.Test.YtejocefblpkdjabGreatJDown
import Derived.Test.YtejocefblpkdjabGreatSub
import Derived.Deep.QuietTactic
import Derived.BigQuiet
namespace Go.Proofs.YtejocefblpkdjabGreat
open Go.RowKit

set_option maxRecDepth 100000 in
set_option maxHeartbeats 1000000 in
/-- cut(n, place), where n has a digit. -/
theorem cut_any {lo : Nat} {b off len cap : Nat} {zs : List Int} {w : World} (h : Seg lo w (.slice (some ⟨b, off, none⟩) len cap) zs) (_hl : len ≤ 10000) (place : Nat) (hp : place ≤ 10000) :
    Calls Tryz.prog 87 #[.slice (some ⟨b, off, none⟩) len cap, .int .i64 place] w fun e w' => ∃ (c1 c2 : Nat) (a2 : Option Addr), e = .returned (.tuple #[.slice (some ⟨b, off, none⟩) (zs.take place).length c1, .slice a2 (zs.drop place).length c2]) ∧
      Seg lo w' (.slice (some ⟨b, off, none⟩) (zs.take place).length c1) (zs.take place) ∧ Seg lo w' (.slice a2 (zs.drop place).length c2) (zs.drop place) ∧ Below w.heap.size w w' := by
  obtain ⟨hlen, hcap⟩ := h.len
  by_cases hlt : place < len
  · have e1 : (zs.take place).length = place := by rw [List.length_take]; omega
    have e2 : (zs.drop place).length = len - place := by rw [List.length_drop]; omega
    have H1 := hide (h.take (k := place) (by omega))
    have H2 := hide (h.drop place (by omega))
    rw [e1, e2]
    have hm : (place : Int) < (len : Int) := by omega
    have hm1 : (place : Int) ≤ (cap : Int) := by omega
    have hm2 : (place : Int) ≤ (len : Int) := by omega
    have hmin : min (place : Int) (len : Int) = place := Int.min_eq_left (by omega)
    clear e1 e2 hlen
    go_enter Tryz.func87, Tryz.ntmps87
    go_wp2
    go_quiet (fail)
    go_wp2
    go_ret2
    exact ⟨cap, cap - place, _, rfl, H1.out, H2.out, ⟨rfl, rfl, rfl, Nat.le_refl _, fun _ _ => rfl⟩⟩
  · have e1 : zs.take place = zs := List.take_of_length_le (by omega)
    have e2 : zs.drop place = [] := List.drop_eq_nil_of_le (by omega)
    rw [e1, e2]
    have hm : ¬ (place : Int) < (len : Int) := by omega
    have hm1 : (len : Int) ≤ (cap : Int) := by omega
    have hmin : min (place : Int) (len : Int) = len := Int.min_eq_right (by omega)
    rw [← hlen]
    have H1 : Hid (∀ c, c = cap → Seg lo w (.slice (some ⟨b, off, none⟩) len c) zs) := fun c hc => by rw [hc]; exact h
    clear e1 e2 hlen h
    go_enter Tryz.func87, Tryz.ntmps87
    go_wp2
    go_quiet (fail)
    go_wp2
    all_goals
      go_ret2
      exact ⟨_, _, _, rfl, H1.out _ (by omega), Seg.empty _ _ _ _, ⟨rfl, rfl, rfl, Nat.le_refl _, fun _ _ => rfl⟩⟩

set_option maxRecDepth 100000 in
set_option maxHeartbeats 1000000 in
/-- crossOnly(cross, low, high), where both are in cross. -/
theorem cross_any {l1 l2 l3 : Nat} {sc sl sh : Value} {cs ls hs : List Int} {w : World} (hc : Seg l1 w sc cs) (hl : Seg l2 w sl ls) (hh : Seg l3 w sh hs) (hcl : cs.length ≤ 10000) (hll : ls.length ≤ 10000) (hhl : hs.length ≤ 10000) (hle : val ls + val hs ≤ val cs) :
    Calls Tryz.prog 89 #[sc, sl, sh] w fun e w' => ∃ (a : Option Addr) (cap : Nat) (zs : List Int), e = .returned (.slice a zs.length cap) ∧ Seg w.heap.size w' (.slice a zs.length cap) zs ∧ Norm zs ∧ val zs = val cs - val ls - val hs ∧ zs.length ≤ cs.length ∧ Below w.heap.size w w' := by
  have hh0 := val_nonneg hh.words
  have HLE := hide hle
  clear hle
  go_enter Tryz.func89, Tryz.ntmps89
  go_wp2_with fail
  refine (sub_yes hc hl hcl hll (by have := HLE.out; omega)).mono ?_
  rintro e w1 ⟨a1, cap1, ts, rfl, hs1, hn1, hv1, hl1, hb1⟩
  have HV := hide hv1
  clear hv1
  go_wp2_with fail
  refine (sub_yes hs1 (hh.below hb1) (by omega) hhl (by have := HLE.out; have := HV.out; omega)).mono ?_
  rintro e w2 ⟨a2, cap2, us, rfl, hs2, hn2, hv2, hl2, hb2⟩
  have HV2 := hide hv2
  clear hv2 hh0
  go_wp2
  go_ret
  exact ⟨_, _, us, rfl, hs2.mono hb1.size, hn2, by rw [HV2.out, HV.out], by omega, hb1.trans (hb2.mono hb1.size)⟩

set_option maxRecDepth 100000 in
set_option maxHeartbeats 1000000 in
/-- join(low, cross, high, place, size), where there is room. -/
theorem join_any {l1 l2 l3 : Nat} {al ac ah : Option Addr} {kl kc kh : Nat} {ls cs hs : List Int} {w : World} (hl : Seg l1 w (.slice al ls.length kl) ls) (hc : Seg l2 w (.slice ac cs.length kc) cs) (hh : Seg l3 w (.slice ah hs.length kh) hs) (hcn : Norm cs) (hhn : Norm hs)
    (p size : Nat) (h0 : 0 < size) (hsz : size ≤ 10000) (hp : p ≤ 10000) (hll : ls.length ≤ size) (hcl : cs.length ≤ 10000) (hhl : hs.length ≤ 10000) (hfit : val ls + pw (2 * p) * val hs + pw p * val cs < pw size) :
    Calls Tryz.prog 88 #[.slice al ls.length kl, .slice ac cs.length kc, .slice ah hs.length kh, .int .i64 p, .int .i64 size] w fun e w' => ∃ (a : Option Addr) (cap : Nat) (zs : List Int), e = .returned (.slice a zs.length cap) ∧ Seg w.heap.size w' (.slice a zs.length cap) zs ∧ Norm zs ∧ val zs = val ls + pw (2 * p) * val hs + pw p * val cs ∧ zs.length ≤ size ∧ Below w.heap.size w w' := by
  obtain ⟨i0, hi, hz0, hz1, hz2⟩ := info_parts infoU64
  have HF := hide hfit
  have hc0 : 0 ≤ pw p * val cs := Int.mul_nonneg (Int.le_of_lt (pw_pos _)) (val_nonneg hc.words)
  have HC0 := hide hc0
  clear hfit hc0
  go_enter Tryz.func88, Tryz.ntmps88
  go_wp2_with (first
    | (at_make
       refine wpList_make_full _ rfl _ _ 27 rfl w.heap.size 71 i0 (.int .u64 0) 1 Tryz.underlying27 hi hz0 hz1 .i64 .i64 _ _ size rfl rfl rfl rfl (by rw [hz2]; omega) (by unfold maxLen; omega) (Nat.le_refl _) ?_
       intro w3 hown hgrow
       have hs3 := seg_made hown
       have hb3 : Below w.heap.size w w3 := (Below.refl _ _).grown hgrow (Nat.le_refl _) (fun k e => by cases e)
       obtain ⟨w4, hcp, hs4, hb4⟩ := seg_copy hs3 (hl.below hb3) (by exact hll) h0
)
    | (at_builtin; refine Lib.wpList_copy_run _ rfl _ _ 27 27 rfl _ _ rfl rfl hcp ?_))
  have hb4' : Below w.heap.size w w4 := hb3.trans hb4
  have HV4 : Hid (val (ls ++ (List.replicate size 0).drop ls.length) = val ls) := by
    rw [Hid, List.drop_replicate, val_append, val_zeros]; omega
  clear hown hgrow hi hz0 hz1 hz2
  have hat := addAt_any (p := 2 * p) hh hhn hb4' hs4 (by omega) (by omega) (by omega) (by rw [HV4.out]; have := HF.out; have := HC0.out; omega)
  rw [HV4.out, show (((2 * p : Nat)) : Int) = 2 * (p : Int) by omega] at hat
  clear hcp
  refine hat.mono ?_
  rintro e w5 ⟨P5, rfl, hs5, hv5, hb5⟩
  have hat2 := addAt_any (p := p) hc hcn hb5 hs5 (by omega) (by omega) (by omega) (by rw [hv5]; exact HF.out)
  rw [hv5] at hat2
  clear hat hv5
  go_wp2_with fail
  refine hat2.mono ?_
  rintro e w6 ⟨P6, rfl, hs6, hv6, hb6⟩
  have HV6 := hide hv6
  have HL6 := hide hs6.len.1
  clear hat2 hv6
  go_wp2_with fail
  refine (tbare_any hs6 (by have := HL6.out; omega)).mono ?_
  rintro e w7 ⟨a7, c7, zs, rfl, hs7, hn7, hv7, hl7, hb7⟩
  have HV7 : Hid (val zs = val ls + pw (2 * p) * val hs + pw p * val cs) := by rw [Hid, hv7, HV6.out]
  have HL7 : Hid (zs.length ≤ size) := by have := HL6.out; rw [Hid]; omega
  clear hv7 hl7
  go_wp2
  go_ret
  exact ⟨_, _, zs, rfl, hs7, hn7, HV7.out, HL7.out, hb6.trans (hb7.mono hb6.size)⟩
end Go.Proofs.YtejocefblpkdjabGreat
