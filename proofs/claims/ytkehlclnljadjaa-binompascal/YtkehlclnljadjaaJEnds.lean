/-
  Joined: Ends Up.
-/
import Derived.Test.YtkehlclnljadjaaJBare
import Derived.Test.YtkehlclnljadjaaJWiden
import Derived.Test.YtkehlclnljadjaaSmall
import Derived.Test.YtkehlclnljadjaaShift
import Derived.BigRegion
namespace Go.Proofs.Ytkehlclnljadjaa
open Go.RowKit
set_option maxRecDepth 100000 in
set_option maxHeartbeats 400000 in
theorem trim_any {lo : Nat} {sv : Value} {zs : List Int} {w : World} (h : Seg lo w sv zs) (hl : zs.length ≤ 10000) :
    Calls Try.prog 35 #[sv] w fun e w' => ∃ (a : Option Addr) (cap : Nat) (ts : List Int), e = .returned (.slice a ts.length cap) ∧ Seg w.heap.size w' (.slice a ts.length cap) ts ∧ Norm ts ∧ val ts = val zs ∧ ts.length ≤ zs.length ∧ Below w.heap.size w w' := by
  go_enter Try.func35, Try.ntmps35
  go_wp2_with fail
  refine (bare_any h (by omega)).mono ?_
  rintro e w1 ⟨a1, cap1, ts, rfl, hs1, hn1, hv1, hl1, hb1⟩
  have HV := hide hv1
  clear hv1
  go_wp2_with fail
  refine (widen_any hs1 ts.length (Nat.le_refl _) (by omega)).mono ?_
  rintro e w2 ⟨a2, cap2, rfl, hs2, hb2⟩
  rw [Nat.sub_self, List.replicate_zero, List.append_nil] at hs2
  go_wp2
  go_ret
  exact ⟨_, _, ts, rfl, hs2.mono hb1.size, hn1, HV.out, hl1, hb1.trans (hb2.mono hb1.size)⟩
def formOf (zs : List Int) : Int := if zs = [] ∨ zs[zs.length - 1]?.getD 0 ≠ 0 then 0 else 6
set_option maxRecDepth 100000 in
set_option maxHeartbeats 400000 in
theorem of_any (x : Int) (hx : 0 ≤ x ∧ x < 18446744073709551616) (w : World) :
    Calls Try.prog 31 #[.int .u64 x] w fun e w' => ∃ (a : Option Addr) (cap : Nat) (ts : List Int), e = .returned (.slice a ts.length cap) ∧ Seg w.heap.size w' (.slice a ts.length cap) ts ∧ Norm ts ∧ val ts = x ∧ ts.length ≤ 1 ∧ Below w.heap.size w w' := by
  by_cases h0 : x = 0
  · subst h0
    go_enter Try.func31, Try.ntmps31
    go_wp2
    go_ret
    exact ⟨none, 0, [], rfl, Seg.nil _ _, norm_nil, rfl, Nat.zero_le _, Below.refl _ _⟩
  · have hne : (x == 0) = false := by simp [h0]
    have H0 := hide h0
    clear h0
    go_enter Try.func31, Try.ntmps31
    go_wp2
    go_ret
    refine ⟨_, _, [x], rfl, ⟨Words.cons hx Words.nil, _, _, rfl, Nat.le_refl _, fun _ => ⟨_, 0, rfl, Nat.le_refl _, by simp, fun j hj => ?_, fun j hj => ?_⟩⟩, .inr ?_, ?_, Nat.le_refl _, (Below.refl _ _).alloc (Nat.le_refl _) _⟩
    · obtain rfl : j = 0 := by simpa using hj
      exact cell_of_heap (World.alloc_heap_new w _) 0
    · obtain rfl : j = 0 := by simpa using hj
      exact frozen_of_heap (World.alloc_heap_new w _) 0
    · simpa using H0.out
    · simp [val]
theorem zeros_at (n j : Nat) : (List.replicate n (0 : Int))[j]?.getD 0 = 0 := by
  by_cases h : j < n
  · rw [List.getElem?_replicate_of_lt h]; rfl
  · rw [List.getElem?_eq_none (by simpa using h)]; rfl
set_option maxRecDepth 100000 in
set_option maxHeartbeats 2000000 in
theorem up_yes {lo : Nat} {sv : Value} {zs : List Int} {w : World} (h : Seg lo w sv zs) (hl : zs.length ≤ 10000) (bits : Nat) (hbits : bits ≤ 16777216) (hne : val zs ≠ 0) :
    Calls Try.prog 25 #[sv, .int .i64 bits] w fun e w' => ∃ (a : Option Addr) (cap : Nat) (us : List Int), e = .returned (.tuple #[.slice a us.length cap, .int .i64 0]) ∧ Seg w.heap.size w' (.slice a us.length cap) us ∧ Norm us ∧ val us = val zs * 2 ^ bits ∧ us.length ≤ zs.length + bits / 64 + 1 ∧ Below w.heap.size w w' := by
  obtain ⟨q, r, hr, rfl⟩ : ∃ q r, r < 64 ∧ bits = 64 * q + r := ⟨bits / 64, bits % 64, by omega, by omega⟩
  have hq1 : (64 * (q : Int) + (r : Int)) / 64 = q := by omega
  have hq2 : (64 * (q : Int) + (r : Int)) % 64 = r := by omega
  have hm : decide (0 ≤ ((64 * q + r : Nat) : Int) ∧ ((64 * q + r : Nat) : Int) ≤ 16777216) = true := decide_eq_true (by omega)
  have hmv := movable_any ((64 * q + r : Nat) : Int) w
  rw [hm] at hmv
  clear hm
  go_enter Try.func25, Try.ntmps25
  go_wp2_with fail
  refine hmv.mono ?_
  rintro e w0 ⟨rfl, rfl⟩
  go_wp2_with fail
  refine (bare_any h (by omega)).mono ?_
  rintro e w1 ⟨a1, cap1, xs, rfl, hs1, hn1, hv1, hl1, hb1⟩
  have h0 : 0 < xs.length := by
    rcases Nat.eq_zero_or_pos xs.length with e | e
    · rw [List.length_eq_zero_iff.1 e] at hv1; exact absurd hv1.symm hne
    · exact e
  have hlz : ((xs.length : Int) == 0) = false := beq_eq_false_iff_ne.2 (by omega)
  have HV := hide hv1
  clear hv1 hne hmv
  go_wp2_with fail
  rw [show ((q : Int) + (xs.length : Int) + 1) = ((q + xs.length + 1 : Nat) : Int) by omega]
  refine (widen_any (Seg.nil 0 w1) (q + xs.length + 1) (Nat.zero_le _) (by omega)).mono ?_
  rintro e w2 ⟨a2, cap2, rfl, hs2, hb2⟩
  rw [List.nil_append, List.length_nil, Nat.sub_zero] at hs2
  obtain ⟨g, off, rfl, hg1, _⟩ := hs2.row (by omega)
  obtain ⟨b, o, rfl, _, hbl⟩ := hs1.row h0
  have hs1' := hs1.below hb2
  obtain ⟨n, hn⟩ : ∃ n, xs.length = n := ⟨_, rfl⟩
  rw [hn] at hs2 hs1 hs1' hlz ⊢
  have HN := hide hn
  have hn10 : n ≤ 10000 := by omega
  clear hn
  go_wp2
  go_loopw [31] (fun i wr => ∃ (k : Nat) (ss : List Int), k ≤ n ∧ i = .int .i64 k ∧ Seg w1.heap.size wr (.slice (some ⟨g, off, none⟩) (q + n + 1) cap2) ss ∧ Hid (val ss = pw q * (2 ^ r * val (xs.take k)) ∧ (∀ j, q + k < j → ss[j]?.getD 0 = 0) ∧ ss[q + k]?.getD 0 < 2 ^ r) ∧ Below w1.heap.size w1 wr) (fun i _ => n - (intOf i).toNat)
  case atStart =>
    refine ⟨0, _, Nat.zero_le _, rfl, hs2, ⟨?_, fun j _ => ?_, ?_⟩, hb2⟩
    · rw [val_zeros, List.take_zero, val_nil]; simp
    · exact zeros_at _ _
    · rw [zeros_at]; exact two_pos r
  case round =>
    obtain ⟨k, ss, hk, rfl, hss, HE, hbr⟩ := hrel
    by_cases hkn : k < n
    · have hcx : wr.cell? ⟨b, o + k, none⟩ = some (.int .u64 (xs[k]?.getD 0)) := (hbr.cell (p := ⟨b, o + k, none⟩) hbl).trans (hs1.cell (j := k) hkn).1
      obtain ⟨hc1, hf1⟩ := hss.cell (j := q + k) (by omega)
      obtain ⟨hc2, hf2⟩ := hss.cell (j := q + k + 1) (by omega)
      have hx := hs1.words.getD k
      have ht := hss.words.getD (q + k)
      have hi1 : (q : Int) + (k : Int) < (q : Int) + (n : Int) + 1 := by omega
      have hi0 : (0 : Int) ≤ (q : Int) + (k : Int) := by omega
      have hr0 : (0 : Int) ≤ (r : Int) := by omega
      have hr64 : (r : Int) < 64 := by omega
      have hsl := hss.len.1
      have H1 := hide (up_step hr hs1.words (show k < xs.length by rw [HN.out]; exact hkn) (show q + k + 1 < ss.length by omega) HE.out.1 HE.out.2.1 ht.1 HE.out.2.2)
      have hu := up_low (xs[k]?.getD 0) (ss[q + k]?.getD 0) r (by omega) hx.1 ht.1 HE.out.2.2
      have hsw := shr_word (xs[k]?.getD 0) r (by omega) hx
      have h2r := two_le r (by omega)
      have hsg := (hss.set (k := q + k) (by omega) (x := bits .or .u64 (ss[q + k]?.getD 0) (IntKind.u64.wrap (xs[k]?.getD 0 * 2 ^ r))) (by rw [hu.1]; exact hu.2)).set (k := q + k + 1) (by rw [List.length_set]; omega) (x := xs[k]?.getD 0 / 2 ^ (64 - r)) ⟨hsw.1, by omega⟩
      have hbg : Below w1.heap.size w1 ((wr.setCell ⟨g, off + (q + k), none⟩ (.int .u64 (bits .or .u64 (ss[q + k]?.getD 0) (IntKind.u64.wrap (xs[k]?.getD 0 * 2 ^ r))))).setCell ⟨g, off + (q + k + 1), none⟩ (.int .u64 (xs[k]?.getD 0 / 2 ^ (64 - r)))) := (hbr.setCell (p := ⟨g, off + (q + k), none⟩) hg1 _).setCell (p := ⟨g, off + (q + k + 1), none⟩) hg1 _
      have HS := hide hsg
      have HB := hide hbg
      have hc3 : (wr.setCell ⟨g, off + (q + k), none⟩ (.int .u64 (bits .or .u64 (ss[q + k]?.getD 0) (IntKind.u64.wrap (xs[k]?.getD 0 * 2 ^ r))))).cell? ⟨g, off + (q + k + 1), none⟩ = some (.int .u64 (ss[q + k + 1]?.getD 0)) := by
        rw [World.cell?_setCell_other _ _ _ _ (by intro h; injection h with h1 h2; omega)]; exact hc2
      have hi2 : (q : Int) + (k : Int) + 1 < (q : Int) + (n : Int) + 1 := by omega
      have hi3 : (0 : Int) ≤ 64 - (r : Int) := by omega
      clear hsl hu hsw h2r hsg hbg HE
      generalize hX : xs[k]?.getD 0 = x at *
      generalize hT : ss[q + k]?.getD 0 = t at *
      clear hX hT
      go_wp2
      go_region
      go_wp2
      exact ⟨⟨k + 1, _, by omega, by go_num, HS.out.drew, H1, HB.out.drew⟩, by simp [intOf]; omega⟩
    · have hkn' : k = n := by omega
      subst hkn'
      have hss' : Seg w1.heap.size wr (.slice (some ⟨g, off, none⟩) (q + k + 1) cap2) ss := hss
      have HL := hide hss.len.1
      go_wp2_with fail
      refine (bare_any hss' (by have := HL.out; omega)).mono ?_
      rintro e w4 ⟨a4, cap4, us, rfl, hs4, hn4, hv4, hl4, hb4⟩
      have HF : Hid (val us = val zs * 2 ^ (64 * q + r)) := by
        rw [Hid, hv4, HE.out.1, ← pw_bits, ← HV.out, List.take_of_length_le (by rw [HN.out]; omega)]; ac_rfl
      have HL4 : Hid (us.length ≤ q + k + 1) := by have := HL.out; rw [Hid]; omega
      clear hv4 hl4
      go_wp2
      go_ret2
      exact ⟨_, _, us, rfl, hs4.mono hb1.size, hn4, HF.out, by have := HL4.out; have := HN.out; omega, hb1.trans ((hbr.trans (hb4.mono hbr.size)).mono hb1.size)⟩
end Go.Proofs.Ytkehlclnljadjaa
