/-
  Joined: Down Add.
-/
import Derived.Test.YtejocefblpkdjabGreatJEnds
import Derived.Deep.RegionWith
import Derived.Deep.RegionHeld3
import Derived.Deep.LoopGhost
import Derived.Test.YtejocefblpkdjabGreatJBare
import Derived.Test.YtejocefblpkdjabGreatJWiden
import Derived.Test.YtejocefblpkdjabGreatJSmall
namespace Go.Proofs.YtejocefblpkdjabGreat
open Go.RowKit
theorem i64_small (x : Int) (h0 : 0 ≤ x) (h1 : x ≤ 1000000000) : IntKind.i64.wrap x = x := by rw [IntKind.wrap_i64]; omega
theorem down_word (x y : Int) (r : Nat) (hr : r < 64) (hx : 0 ≤ x ∧ x < 18446744073709551616) (hy : 0 ≤ y) :
    bits .or .u64 (x / 2 ^ r) (IntKind.u64.wrap (y * 2 ^ (64 - r))) = x / 2 ^ r + (y % 2 ^ r) * 2 ^ (64 - r) ∧ 0 ≤ x / 2 ^ r + (y % 2 ^ r) * 2 ^ (64 - r) ∧ x / 2 ^ r + (y % 2 ^ r) * 2 ^ (64 - r) < 18446744073709551616 := by
  have hs := shr_word x (64 - r) (by omega) hx
  rw [show 64 - (64 - r) = r by omega] at hs
  obtain ⟨e1, _, _⟩ := shl_parts y (64 - r) (by omega) hy
  rw [show 64 - (64 - r) = r by omega] at e1
  have hu := up_low y (x / 2 ^ r) (64 - r) (by omega) hy hs.1 hs.2
  rw [e1] at hu
  exact hu
set_option maxRecDepth 100000 in
set_option maxHeartbeats 2000000 in
theorem down_yes {lo : Nat} {sv : Value} {zs : List Int} {w : World} (h : Seg lo w sv zs) (hl : zs.length ≤ 10000) (bits : Nat) (hbits : bits ≤ 16777216) :
    Calls Tryz.prog 83 #[sv, .int .i64 bits] w fun e w' => ∃ (a : Option Addr) (cap : Nat) (us : List Int), e = .returned (.tuple #[.slice a us.length cap, .int .i64 0]) ∧ Seg w.heap.size w' (.slice a us.length cap) us ∧ Norm us ∧ val us = val zs / 2 ^ bits ∧ us.length ≤ zs.length ∧ Below w.heap.size w w' := by
  obtain ⟨q, r, hr, rfl⟩ : ∃ q r, r < 64 ∧ bits = 64 * q + r := ⟨bits / 64, bits % 64, by omega, by omega⟩
  have hq1 : (64 * (q : Int) + (r : Int)) / 64 = q := by omega
  have hq2 : (64 * (q : Int) + (r : Int)) % 64 = r := by omega
  have hm : decide (0 ≤ ((64 * q + r : Nat) : Int) ∧ ((64 * q + r : Nat) : Int) ≤ 16777216) = true := decide_eq_true (by omega)
  have hmv := movable_any ((64 * q + r : Nat) : Int) w
  rw [hm] at hmv
  clear hm
  go_enter Tryz.func83, Tryz.ntmps83
  go_wp2_with fail
  refine hmv.mono ?_
  rintro e w0 ⟨rfl, rfl⟩
  go_wp2_with fail
  refine (bare_any h (by omega)).mono ?_
  rintro e w1 ⟨a1, cap1, xs, rfl, hs1, hn1, hv1, hl1, hb1⟩
  have HV := hide hv1
  clear hv1 hmv
  by_cases hqn : xs.length ≤ q
  · have hge : (xs.length : Int) ≤ (q : Int) := by omega
    have HF : Hid (val zs / 2 ^ (64 * q + r) = 0) := by
      have a := val_nonneg hs1.words
      have b := val_lt hs1.words
      have c := pw_mono hqn
      have p := two_pos r
      have q' := pw_pos q
      have : pw q * 1 ≤ pw q * 2 ^ r := Int.mul_le_mul_of_nonneg_left (by omega) (by omega)
      rw [Hid, ← HV.out, ← pw_bits]
      exact Int.ediv_eq_zero_of_lt a (by omega)
    go_wp2
    go_ret2
    exact ⟨none, 0, [], rfl, Seg.nil _ _, norm_nil, by rw [HF.out]; rfl, Nat.zero_le _, hb1⟩
  · have hge : (q : Int) < (xs.length : Int) := by omega
    obtain ⟨L, hL⟩ : ∃ L, xs.length = L := ⟨_, rfl⟩
    obtain ⟨n, hn⟩ : ∃ n, L = q + n := ⟨L - q, by omega⟩
    have hsub : ((L : Int) - (q : Int)) = (n : Int) := by omega
    have hn0 : 0 < n := by omega
    have HN : Hid (xs.length = q + n ∧ L = q + n) := ⟨by omega, hn⟩
    rw [hL] at hs1 hge ⊢
    have hn10 : L ≤ 10000 := by omega
    have hnL : n ≤ L := by omega
    clear hn hL hqn
    go_wp2_with fail
    simp only [hq1, hq2]
    refine (widen_any (Seg.nil 0 w1) n (Nat.zero_le _) (by omega)).mono ?_
    rintro e w2 ⟨a2, cap2, rfl, hs2, hb2⟩
    rw [List.nil_append, List.length_nil, Nat.sub_zero] at hs2
    obtain ⟨g, off, rfl, hg1, _⟩ := hs2.row (by omega)
    obtain ⟨b, o, rfl, _, hbl⟩ := hs1.row (by omega)
    clear hsub
    go_wp2
    go_loopw [30] (fun i wr => ∃ (k : Nat) (ss : List Int), k ≤ n ∧ i = .int .i64 k ∧ Seg w1.heap.size wr (.slice (some ⟨g, off, none⟩) n cap2) ss ∧ Hid (∀ j, j < k → ss[j]?.getD 0 = xs[q + j]?.getD 0 / 2 ^ r + (xs[q + j + 1]?.getD 0 % 2 ^ r) * 2 ^ (64 - r)) ∧ Below w1.heap.size w1 wr) (fun i _ => n - (intOf i).toNat)
    case atStart => exact ⟨0, _, Nat.zero_le _, rfl, hs2, fun j hj => by omega, hb2⟩
    case round =>
      obtain ⟨k, ss, hk, rfl, hss, HE, hbr⟩ := hrel
      by_cases hkn : k < n
      · have hcx : wr.cell? ⟨b, o + (q + k), none⟩ = some (.int .u64 (xs[q + k]?.getD 0)) := (hbr.cell (p := ⟨b, o + (q + k), none⟩) hbl).trans (hs1.cell (j := q + k) (by have := HN.out; omega)).1
        obtain ⟨hc1, hf1⟩ := hss.cell (j := k) hkn
        have hsr := hs1.below hbr
        have hx := hs1.words.getD (q + k)
        have hy := hs1.words.getD (q + k + 1)
        have hw := down_word (xs[q + k]?.getD 0) (xs[q + k + 1]?.getD 0) r hr hx hy.1
        have HS := hide (hss.set (k := k) (by rw [← hss.len.1]; exact hkn) (x := bits .or .u64 (xs[q + k]?.getD 0 / 2 ^ r) (IntKind.u64.wrap (xs[q + k + 1]?.getD 0 * 2 ^ (64 - r)))) (by rw [hw.1]; exact hw.2))
        have H1 : Hid (∀ j, j < k + 1 → (ss.set k (bits .or .u64 (xs[q + k]?.getD 0 / 2 ^ r) (IntKind.u64.wrap (xs[q + k + 1]?.getD 0 * 2 ^ (64 - r)))))[j]?.getD 0 = xs[q + j]?.getD 0 / 2 ^ r + (xs[q + j + 1]?.getD 0 % 2 ^ r) * 2 ^ (64 - r)) := fun j hj => by
          by_cases e : j = k
          · subst e
            rw [List.getElem?_set_self (by rw [← hss.len.1]; exact hkn)]
            exact hw.1
          · rw [List.getElem?_set_ne (by omega)]; exact HE.out j (by omega)
        have HB := hide (hbr.setCell (p := ⟨g, off + k, none⟩) hg1 (.int .u64 (bits .or .u64 (xs[q + k]?.getD 0 / 2 ^ r) (IntKind.u64.wrap (xs[q + k + 1]?.getD 0 * 2 ^ (64 - r))))))
        have hi1 : (q : Int) + (k : Int) < (L : Int) := by have := HN.out; omega
        have hi0 : (0 : Int) ≤ (q : Int) + (k : Int) := by omega
        have hi4 : q + k < L := by have := HN.out; omega
        have hi2 : (k : Int) < (n : Int) := by omega
        have hr0 : (0 : Int) ≤ (r : Int) := by omega
        have hi3 : (0 : Int) ≤ 64 - (r : Int) := by omega
        clear hw HE
        go_wp2_with fail
        have hw1 := i64_small ((q : Int) + (k : Int)) (by omega) (by omega)
        have hw2 := i64_small ((q : Int) + (k : Int) + 1) (by omega) (by omega)
        have hw3 := i64_small (64 - (r : Int)) (by omega) (by omega)
        have hi5 : ((q : Int) + (k : Int)).toNat = q + k := by omega
        have hi6 : (64 - (r : Int)).toNat = 64 - r := by omega
        go_region_with (go_at_call 65; rw [show ((q : Int) + (k : Int) + 1) = ((q + k + 1 : Nat) : Int) by omega]; refine (digit_any (by exact hsr) (q + k + 1)).mono ?_; rintro e w' ⟨rfl, rfl⟩)
        all_goals
          clear hw1 hw2 hw3 hi5 hi6
          go_wp2
          exact ⟨⟨k + 1, _, by omega, by go_num, HS.out.drew, H1, HB.out.drew⟩, by simp [intOf]; omega⟩
      · have hkn' : k = n := by omega
        subst hkn'
        have HL := hide hss.len.1
        go_wp2_with fail
        refine (bare_any hss (by have := HL.out; omega)).mono ?_
        rintro e w4 ⟨a4, cap4, us, rfl, hs4, hn4, hv4, hl4, hb4⟩
        have HF : Hid (val us = val zs / 2 ^ (64 * q + r)) := by
          have hw := hs1.words
          have e1 := down_val hr (ys := xs.drop q) (ss := ss) (hw.drop q) (by rw [← HL.out, List.length_drop, HN.out.1]; omega) (fun j hj => by
            rw [List.length_drop, HN.out.1] at hj
            rw [List.getElem?_drop, List.getElem?_drop, ← Nat.add_assoc]
            exact HE.out j (by omega))
          have p := pw_pos q
          rw [Hid, hv4, e1, val_drop_div hw, Int.ediv_ediv_of_nonneg (by omega), pw_bits, HV.out]
        have HL4 : Hid (us.length ≤ k) := by have := HL.out; rw [Hid]; omega
        clear hv4 hl4
        go_wp2
        go_ret2
        exact ⟨_, _, us, rfl, hs4.mono hb1.size, hn4, HF.out, by have := HL4.out; have := HN.out; omega, hb1.trans ((hbr.trans (hb4.mono hbr.size)).mono hb1.size)⟩
set_option maxRecDepth 100000 in
set_option maxHeartbeats 4000000 in
theorem add_any {lo lo' : Nat} {sa sb : Value} {xs ys : List Int} {w : World} (ha : Seg lo w sa xs) (hb : Seg lo' w sb ys) (hla : xs.length ≤ 10000) (hlb : ys.length ≤ 10000) :
    Calls Tryz.prog 75 #[sa, sb] w fun e w' => ∃ (a : Option Addr) (cap : Nat) (zs : List Int), e = .returned (.slice a zs.length cap) ∧ Seg w.heap.size w' (.slice a zs.length cap) zs ∧ Norm zs ∧ val zs = val xs + val ys ∧ zs.length ≤ max xs.length ys.length + 1 ∧ Below w.heap.size w w' := by
  go_enter Tryz.func75, Tryz.ntmps75
  go_wp2_with fail
  refine (bare_any ha (by omega)).mono ?_
  rintro e w1 ⟨a1, cap1, xs1, rfl, hs1, hn1, hv1, hl1, hb1⟩
  go_wp2_with fail
  refine (bare_any (hb.below hb1) (by omega)).mono ?_
  rintro e w2 ⟨a2, cap2, ys2, rfl, hs2, hn2, hv2, hl2, hb2⟩
  replace hs1 := hs1.below hb2
  have hb12 : Below w.heap.size w w2 := hb1.trans (hb2.mono hb1.size)
  have HV : Hid (val xs1 = val xs ∧ val ys2 = val ys) := ⟨hv1, hv2⟩
  clear hv1 hv2 hb2 hb1 ha hb
  by_cases hlt : xs1.length < ys2.length
  ·
    go_wp2_with fail
    rw [show ((ys2.length : Int) + 1) = ((ys2.length + 1 : Nat) : Int) by omega]
    refine (widen_any hs2 (ys2.length + 1) (by omega) (by omega)).mono ?_
    rintro e w3 ⟨a3, cap3, rfl, hs3, hb3⟩
    rw [Nat.add_sub_cancel_left] at hs3
    obtain ⟨g, off, rfl, hg1, hg2⟩ := hs3.row (by omega)
    have HT : Hid (val (ys2 ++ List.replicate 1 0) = val ys2) := by rw [Hid, val_append, val_zeros]; omega
    have hwx := hs2.words
    have hwy := hs1.words
    obtain ⟨n, hn⟩ : ∃ n, ys2.length = n := ⟨_, rfl⟩
    obtain ⟨m, hm⟩ : ∃ m, xs1.length = m := ⟨_, rfl⟩
    rw [hn] at hs3 ⊢
    rw [hm] at hs1 ⊢
    have hmn : m ≤ n := by omega
    have hn10 : n ≤ 10000 := by omega
    have hnl : n ≤ max xs.length ys.length := by omega
    have HN : Hid (ys2.length = n ∧ xs1.length = m) := ⟨hn, hm⟩
    clear hn hm hlt hl1 hl2
    go_wp2
    go_loopw [6, 7] (fun i c wr => ∃ (k : Nat) (cv : Int) (ss : List Int), k ≤ n + 1 ∧ i = .int .i64 k ∧ c = .int .u64 cv ∧ 0 ≤ cv ∧ cv ≤ 1 ∧ Seg w2.heap.size wr (.slice (some ⟨g, off, none⟩) (n + 1) cap3) ss ∧ Hid (val ss + pw k * (cv + val (xs1.drop k)) = val ys2 + val xs1) ∧ Below w2.heap.size w2 wr) (fun i _ _ => n + 2 - (intOf i).toNat)
    case atStart =>
      refine ⟨0, 0, _, Nat.zero_le _, rfl, rfl, by omega, by omega, hs3, ?_, hb3⟩
      rw [Hid, HT.out, pw_zero, List.drop_zero]; omega
    case round =>
      obtain ⟨k, cv, ss, hk, rfl, rfl, hc0, hc1, hss, HE, hbr⟩ := hrel
      have hsr := hs1.below hbr
      have HL := hide hss.len.1
      have hws := hss.words
      have hwk := hws.getD k
      have hyk := hwy.getD k
      by_cases hgo : k < m ∨ cv ≠ 0
      · have hkn : k ≤ n := add_room hwx hwy hws HN.out.1 HN.out.2 hmn hk hc0 hgo HE.out
        obtain ⟨hce, hfr⟩ := hss.cell (j := k) (by omega)
        have H1 := hide (add_step (ss := ss) (k := k) (by have := HL.out; omega) HE.out)
        have hki : (k : Int) < (n : Int) + 1 := by omega
        clear hws hwx hwy
        by_cases hkm : k < m
        · clear hgo
          go_wp2_with fail
          go_region_with
            (first
              | (go_at_call 65; refine (digit_any (by exact hsr) k).mono ?_; rintro e w' ⟨rfl, rfl⟩)
              | simp only [add64 _ _ _ hwk.1 hyk.1 hc0 hc1])
          all_goals
            go_wp2
            go_roundw
            case rel =>
              refine ⟨k + 1, _, _, by omega, by go_num, rfl, by omega, by omega, (hss.drew).set (k := k) (by have := HL.out; omega) ⟨by omega, by omega⟩, H1, ?_⟩
              exact hbr.drew.setCell (p := ⟨g, off + k, none⟩) hg1 _
            case measure => simp [intOf]; omega
        · have hcb : (cv != 0) = true := by have := hgo.resolve_left hkm; simpa using this
          clear hgo
          go_wp2_with fail
          go_region_with
            (first
              | (go_at_call 65; refine (digit_any (by exact hsr) k).mono ?_; rintro e w' ⟨rfl, rfl⟩)
              | simp only [add64 _ _ _ hwk.1 hyk.1 hc0 hc1])
          all_goals
            go_wp2
            go_roundw
            case rel =>
              refine ⟨k + 1, _, _, by omega, by go_num, rfl, by omega, by omega, (hss.drew).set (k := k) (by have := HL.out; omega) ⟨by omega, by omega⟩, H1, ?_⟩
              exact hbr.drew.setCell (p := ⟨g, off + k, none⟩) hg1 _
            case measure => simp [intOf]; omega
      · have hkm : ¬ k < m := fun h => hgo (.inl h)
        have hcz : cv = 0 := Classical.byContradiction fun h => hgo (.inr h)
        subst hcz
        clear hgo
        go_wp2_with fail
        have hss' : Seg w2.heap.size wr (.slice (some ⟨g, off, none⟩) (n + 1) cap3) ss := hss
        refine (bare_any hss' (by have := HL.out; omega)).mono ?_
        rintro e w4 ⟨a4, cap4, zs, rfl, hs4, hn4, hv4, hl4, hb4⟩
        have hfin : val zs = val xs + val ys := by
          have := HE.out
          rw [List.drop_eq_nil_of_le (by have := HN.out.2; omega), val_nil] at this
          have := HV.out
          omega
        have HF := hide hfin
        have HL4 : Hid (zs.length ≤ n + 1) := by have := HL.out; rw [Hid]; omega
        clear hfin hv4 hl4 hws hwx hwy
        go_wp2
        go_ret
        exact ⟨_, _, zs, rfl, hs4.mono hb12.size, hn4, HF.out, by have := HL4.out; omega, hb12.trans ((hbr.trans (hb4.mono hbr.size)).mono hb12.size)⟩
  ·
    go_wp2_with fail
    rw [show ((xs1.length : Int) + 1) = ((xs1.length + 1 : Nat) : Int) by omega]
    refine (widen_any hs1 (xs1.length + 1) (by omega) (by omega)).mono ?_
    rintro e w3 ⟨a3, cap3, rfl, hs3, hb3⟩
    rw [Nat.add_sub_cancel_left] at hs3
    obtain ⟨g, off, rfl, hg1, hg2⟩ := hs3.row (by omega)
    have HT : Hid (val (xs1 ++ List.replicate 1 0) = val xs1) := by rw [Hid, val_append, val_zeros]; omega
    have hwx := hs1.words
    have hwy := hs2.words
    obtain ⟨n, hn⟩ : ∃ n, xs1.length = n := ⟨_, rfl⟩
    obtain ⟨m, hm⟩ : ∃ m, ys2.length = m := ⟨_, rfl⟩
    rw [hn] at hs3 ⊢
    rw [hm] at hs2 ⊢
    have hmn : m ≤ n := by omega
    have hn10 : n ≤ 10000 := by omega
    have hnl : n ≤ max xs.length ys.length := by omega
    have HN : Hid (xs1.length = n ∧ ys2.length = m) := ⟨hn, hm⟩
    clear hn hm hlt hl1 hl2
    go_wp2
    go_loopw [6, 7] (fun i c wr => ∃ (k : Nat) (cv : Int) (ss : List Int), k ≤ n + 1 ∧ i = .int .i64 k ∧ c = .int .u64 cv ∧ 0 ≤ cv ∧ cv ≤ 1 ∧ Seg w2.heap.size wr (.slice (some ⟨g, off, none⟩) (n + 1) cap3) ss ∧ Hid (val ss + pw k * (cv + val (ys2.drop k)) = val xs1 + val ys2) ∧ Below w2.heap.size w2 wr) (fun i _ _ => n + 2 - (intOf i).toNat)
    case atStart =>
      refine ⟨0, 0, _, Nat.zero_le _, rfl, rfl, by omega, by omega, hs3, ?_, hb3⟩
      rw [Hid, HT.out, pw_zero, List.drop_zero]; omega
    case round =>
      obtain ⟨k, cv, ss, hk, rfl, rfl, hc0, hc1, hss, HE, hbr⟩ := hrel
      have hsr := hs2.below hbr
      have HL := hide hss.len.1
      have hws := hss.words
      have hwk := hws.getD k
      have hyk := hwy.getD k
      by_cases hgo : k < m ∨ cv ≠ 0
      · have hkn : k ≤ n := add_room hwx hwy hws HN.out.1 HN.out.2 hmn hk hc0 hgo HE.out
        obtain ⟨hce, hfr⟩ := hss.cell (j := k) (by omega)
        have H1 := hide (add_step (ss := ss) (k := k) (by have := HL.out; omega) HE.out)
        have hki : (k : Int) < (n : Int) + 1 := by omega
        clear hws hwx hwy
        by_cases hkm : k < m
        · clear hgo
          go_wp2_with fail
          go_region_with
            (first
              | (go_at_call 65; refine (digit_any (by exact hsr) k).mono ?_; rintro e w' ⟨rfl, rfl⟩)
              | simp only [add64 _ _ _ hwk.1 hyk.1 hc0 hc1])
          all_goals
            go_wp2
            go_roundw
            case rel =>
              refine ⟨k + 1, _, _, by omega, by go_num, rfl, by omega, by omega, (hss.drew).set (k := k) (by have := HL.out; omega) ⟨by omega, by omega⟩, H1, ?_⟩
              exact hbr.drew.setCell (p := ⟨g, off + k, none⟩) hg1 _
            case measure => simp [intOf]; omega
        · have hcb : (cv != 0) = true := by have := hgo.resolve_left hkm; simpa using this
          clear hgo
          go_wp2_with fail
          go_region_with
            (first
              | (go_at_call 65; refine (digit_any (by exact hsr) k).mono ?_; rintro e w' ⟨rfl, rfl⟩)
              | simp only [add64 _ _ _ hwk.1 hyk.1 hc0 hc1])
          all_goals
            go_wp2
            go_roundw
            case rel =>
              refine ⟨k + 1, _, _, by omega, by go_num, rfl, by omega, by omega, (hss.drew).set (k := k) (by have := HL.out; omega) ⟨by omega, by omega⟩, H1, ?_⟩
              exact hbr.drew.setCell (p := ⟨g, off + k, none⟩) hg1 _
            case measure => simp [intOf]; omega
      · have hkm : ¬ k < m := fun h => hgo (.inl h)
        have hcz : cv = 0 := Classical.byContradiction fun h => hgo (.inr h)
        subst hcz
        clear hgo
        go_wp2_with fail
        have hss' : Seg w2.heap.size wr (.slice (some ⟨g, off, none⟩) (n + 1) cap3) ss := hss
        refine (bare_any hss' (by have := HL.out; omega)).mono ?_
        rintro e w4 ⟨a4, cap4, zs, rfl, hs4, hn4, hv4, hl4, hb4⟩
        have hfin : val zs = val xs + val ys := by
          have := HE.out
          rw [List.drop_eq_nil_of_le (by have := HN.out.2; omega), val_nil] at this
          have := HV.out
          omega
        have HF := hide hfin
        have HL4 : Hid (zs.length ≤ n + 1) := by have := HL.out; rw [Hid]; omega
        clear hfin hv4 hl4 hws hwx hwy
        go_wp2
        go_ret
        exact ⟨_, _, zs, rfl, hs4.mono hb12.size, hn4, HF.out, by have := HL4.out; omega, hb12.trans ((hbr.trans (hb4.mono hbr.size)).mono hb12.size)⟩
end Go.Proofs.YtejocefblpkdjabGreat
