/-
  Joined: Ends Up Rowed.
-/
import Derived.Test.YtejocefblpkdjabGreatJBare
import Derived.Test.YtejocefblpkdjabGreatJWiden
import Derived.Test.YtejocefblpkdjabGreatJSmall
import Derived.Test.YtejocefblpkdjabGreatShift
import Derived.BigRegion
namespace Go.Proofs.YtejocefblpkdjabGreat
open Go.RowKit
set_option maxRecDepth 100000 in
set_option maxHeartbeats 400000 in
theorem trim_any {lo : Nat} {sv : Value} {zs : List Int} {w : World} (h : Seg lo w sv zs) (hl : zs.length ≤ 10000) :
    Calls Tryz.prog 62 #[sv] w fun e w' => ∃ (a : Option Addr) (cap : Nat) (ts : List Int), e = .returned (.slice a ts.length cap) ∧ Seg w.heap.size w' (.slice a ts.length cap) ts ∧ Norm ts ∧ val ts = val zs ∧ ts.length ≤ zs.length ∧ Below w.heap.size w w' := by
  go_enter Tryz.func62, Tryz.ntmps62
  go_wp2_with fail
  refine (bare_any h (by omega)).mono ?_
  rintro e w1 ⟨a1, cap1, ts, rfl, hs1, hn1, hv1, hl1, hb1⟩
  have HV := hide hv1
  clear hv1
  go_wp2_with fail
  refine (widen_any hs1 ts.length (Nat.le_refl _) (by omega)).mono ?_
  rintro e w2 ⟨a2, cap2, rfl, hs2, hb2⟩
  rw [Nat.sub_self, List.replicate_zero, List.append_nil] at hs2
  go_wp2
  go_ret
  exact ⟨_, _, ts, rfl, hs2.mono hb1.size, hn1, HV.out, hl1, hb1.trans (hb2.mono hb1.size)⟩
set_option maxRecDepth 100000 in
set_option maxHeartbeats 400000 in
theorem one_yes {lo : Nat} {sv : Value} {zs : List Int} {w : World} (h : Seg lo w sv zs) (hl : zs.length ≤ 10000) (hv : val zs < 18446744073709551616) :
    Calls Tryz.prog 51 #[sv] w fun e w' => e = .returned (.tuple #[.int .u64 (val zs), .bool true]) ∧ Below w.heap.size w w' := by
  go_enter Tryz.func51, Tryz.ntmps51
  go_wp2_with fail
  refine (bare_any h (by omega)).mono ?_
  rintro e w1 ⟨a1, cap1, ts, rfl, hs1, hn1, hv1, hl1, hb1⟩
  have hlt : ts.length ≤ 1 := by
    rcases Nat.lt_or_ge 1 ts.length with h2 | h2
    · have := norm_lt (xs := [0, 1]) (ys := ts) (by intro z hz; simp at hz; omega) hs1.words hn1
      have b := norm_val hs1.words hn1 (by intro e; rw [e] at h2; simp at h2)
      have c := pw_mono (m := 1) (n := ts.length - 1) (by omega)
      rw [show pw 1 = 18446744073709551616 from rfl] at c
      omega
    · exact h2
  have hd : ts[0]?.getD 0 = val zs := by
    rw [← hv1]
    match ts, hlt with
    | [], _ => rfl
    | [t], _ => simp [val]
  have hdg := digit_any hs1 0
  rw [hd] at hdg
  clear hd hv1 hv
  have hl0 : ¬ (1 : Int) < (ts.length : Int) := by omega
  go_wp2_with fail
  refine hdg.mono ?_
  rintro e w2 ⟨rfl, rfl⟩
  go_wp2
  go_ret2
  exact ⟨rfl, hb1⟩
set_option maxRecDepth 100000 in
set_option maxHeartbeats 400000 in
theorem one_no {lo : Nat} {sv : Value} {zs : List Int} {w : World} (h : Seg lo w sv zs) (hl : zs.length ≤ 10000) (hv : 18446744073709551616 ≤ val zs) :
    Calls Tryz.prog 51 #[sv] w fun e w' => e = .returned (.tuple #[.int .u64 0, .bool false]) ∧ Below w.heap.size w w' := by
  go_enter Tryz.func51, Tryz.ntmps51
  go_wp2_with fail
  refine (bare_any h (by omega)).mono ?_
  rintro e w1 ⟨a1, cap1, ts, rfl, hs1, hn1, hv1, hl1, hb1⟩
  have hl0 : (1 : Int) < (ts.length : Int) := by
    have a := val_lt hs1.words
    rcases Nat.lt_or_ge 1 ts.length with h2 | h2
    · omega
    · have c := pw_mono (m := ts.length) (n := 1) h2
      rw [show pw 1 = 18446744073709551616 from rfl] at c
      omega
  clear hv1 hv
  go_wp2
  go_ret2
  exact ⟨rfl, hb1⟩
def formOf (zs : List Int) : Int := if zs = [] ∨ zs[zs.length - 1]?.getD 0 ≠ 0 then 0 else 6
set_option maxRecDepth 100000 in
set_option maxHeartbeats 400000 in
theorem check_any {lo : Nat} {a : Option Addr} {cap : Nat} {zs : List Int} {w : World} (h : Seg lo w (.slice a zs.length cap) zs) (hl : zs.length ≤ 10000) :
    Calls Tryz.prog 34 #[.slice a zs.length cap] w fun e w' => e = .returned (.int .i64 (formOf zs)) ∧ Below w.heap.size w w' := by
  go_enter Tryz.func34, Tryz.ntmps34
  go_wp2_with fail
  refine (bare_any h (by omega)).mono ?_
  rintro e w1 ⟨a1, cap1, ts, rfl, hs1, hn1, hv1, hl1, hb1⟩
  have hw := h.words
  have hw1 := hs1.words
  by_cases e : ts.length = zs.length
  · have : ts = zs := words_unique hw1 hw e hv1
    have hf : formOf zs = 0 := by unfold formOf; rw [← this]; exact if_pos hn1
    have HF := hide hf
    have hne : ((ts.length : Int) != (zs.length : Int)) = false := by simp; omega
    clear hv1 e this hf
    go_wp2
    go_ret
    exact ⟨ret_int HF.out.symm, hb1⟩
  · have hf : formOf zs = 6 := by
      unfold formOf
      exact if_neg fun hn => e (by rw [norm_unique hw1 hw hn1 hn hv1])
    have HF := hide hf
    have hne : ((ts.length : Int) != (zs.length : Int)) = true := by simp; omega
    clear hv1 e hf
    go_wp2
    go_ret
    exact ⟨ret_int HF.out.symm, hb1⟩
set_option maxRecDepth 100000 in
set_option maxHeartbeats 400000 in
theorem of_any (x : Int) (hx : 0 ≤ x ∧ x < 18446744073709551616) (w : World) :
    Calls Tryz.prog 46 #[.int .u64 x] w fun e w' => ∃ (a : Option Addr) (cap : Nat) (ts : List Int), e = .returned (.slice a ts.length cap) ∧ Seg w.heap.size w' (.slice a ts.length cap) ts ∧ Norm ts ∧ val ts = x ∧ ts.length ≤ 1 ∧ Below w.heap.size w w' := by
  by_cases h0 : x = 0
  · subst h0
    go_enter Tryz.func46, Tryz.ntmps46
    go_wp2
    go_ret
    exact ⟨none, 0, [], rfl, Seg.nil _ _, norm_nil, rfl, Nat.zero_le _, Below.refl _ _⟩
  · have hne : (x == 0) = false := by simp [h0]
    have H0 := hide h0
    clear h0
    go_enter Tryz.func46, Tryz.ntmps46
    go_wp2
    go_ret
    refine ⟨_, _, [x], rfl, ⟨Words.cons hx Words.nil, _, _, rfl, Nat.le_refl _, fun _ => ⟨_, 0, rfl, Nat.le_refl _, by simp, fun j hj => ?_, fun j hj => ?_⟩⟩, .inr ?_, ?_, Nat.le_refl _, (Below.refl _ _).alloc (Nat.le_refl _) _⟩
    · obtain rfl : j = 0 := by simpa using hj
      exact cell_of_heap (World.alloc_heap_new w _) 0
    · obtain rfl : j = 0 := by simpa using hj
      exact frozen_of_heap (World.alloc_heap_new w _) 0
    · simpa using H0.out
    · simp [val]
theorem zeros_at (n j : Nat) : (List.replicate n (0 : Int))[j]?.getD 0 = 0 := by
  by_cases h : j < n
  · rw [List.getElem?_replicate_of_lt h]; rfl
  · rw [List.getElem?_eq_none (by simpa using h)]; rfl
set_option maxRecDepth 100000 in
set_option maxHeartbeats 2000000 in
theorem up_yes {lo : Nat} {sv : Value} {zs : List Int} {w : World} (h : Seg lo w sv zs) (hl : zs.length ≤ 10000) (bits : Nat) (hbits : bits ≤ 16777216) (hne : val zs ≠ 0) :
    Calls Tryz.prog 81 #[sv, .int .i64 bits] w fun e w' => ∃ (a : Option Addr) (cap : Nat) (us : List Int), e = .returned (.tuple #[.slice a us.length cap, .int .i64 0]) ∧ Seg w.heap.size w' (.slice a us.length cap) us ∧ Norm us ∧ val us = val zs * 2 ^ bits ∧ us.length ≤ zs.length + bits / 64 + 1 ∧ Below w.heap.size w w' := by
  obtain ⟨q, r, hr, rfl⟩ : ∃ q r, r < 64 ∧ bits = 64 * q + r := ⟨bits / 64, bits % 64, by omega, by omega⟩
  have hq1 : (64 * (q : Int) + (r : Int)) / 64 = q := by omega
  have hq2 : (64 * (q : Int) + (r : Int)) % 64 = r := by omega
  have hm : decide (0 ≤ ((64 * q + r : Nat) : Int) ∧ ((64 * q + r : Nat) : Int) ≤ 16777216) = true := decide_eq_true (by omega)
  have hmv := movable_any ((64 * q + r : Nat) : Int) w
  rw [hm] at hmv
  clear hm
  go_enter Tryz.func81, Tryz.ntmps81
  go_wp2_with fail
  refine hmv.mono ?_
  rintro e w0 ⟨rfl, rfl⟩
  go_wp2_with fail
  refine (bare_any h (by omega)).mono ?_
  rintro e w1 ⟨a1, cap1, xs, rfl, hs1, hn1, hv1, hl1, hb1⟩
  have h0 : 0 < xs.length := by
    rcases Nat.eq_zero_or_pos xs.length with e | e
    · rw [List.length_eq_zero_iff.1 e] at hv1; exact absurd hv1.symm hne
    · exact e
  have hlz : ((xs.length : Int) == 0) = false := beq_eq_false_iff_ne.2 (by omega)
  have HV := hide hv1
  clear hv1 hne hmv
  go_wp2_with fail
  rw [show ((q : Int) + (xs.length : Int) + 1) = ((q + xs.length + 1 : Nat) : Int) by omega]
  refine (widen_any (Seg.nil 0 w1) (q + xs.length + 1) (Nat.zero_le _) (by omega)).mono ?_
  rintro e w2 ⟨a2, cap2, rfl, hs2, hb2⟩
  rw [List.nil_append, List.length_nil, Nat.sub_zero] at hs2
  obtain ⟨g, off, rfl, hg1, _⟩ := hs2.row (by omega)
  obtain ⟨b, o, rfl, _, hbl⟩ := hs1.row h0
  have hs1' := hs1.below hb2
  obtain ⟨n, hn⟩ : ∃ n, xs.length = n := ⟨_, rfl⟩
  rw [hn] at hs2 hs1 hs1' hlz ⊢
  have HN := hide hn
  have hn10 : n ≤ 10000 := by omega
  clear hn
  go_wp2
  go_loopw [31] (fun i wr => ∃ (k : Nat) (ss : List Int), k ≤ n ∧ i = .int .i64 k ∧ Seg w1.heap.size wr (.slice (some ⟨g, off, none⟩) (q + n + 1) cap2) ss ∧ Hid (val ss = pw q * (2 ^ r * val (xs.take k)) ∧ (∀ j, q + k < j → ss[j]?.getD 0 = 0) ∧ ss[q + k]?.getD 0 < 2 ^ r) ∧ Below w1.heap.size w1 wr) (fun i _ => n - (intOf i).toNat)
  case atStart =>
    refine ⟨0, _, Nat.zero_le _, rfl, hs2, ⟨?_, fun j _ => ?_, ?_⟩, hb2⟩
    · rw [val_zeros, List.take_zero, val_nil]; simp
    · exact zeros_at _ _
    · rw [zeros_at]; exact two_pos r
  case round =>
    obtain ⟨k, ss, hk, rfl, hss, HE, hbr⟩ := hrel
    by_cases hkn : k < n
    · have hcx : wr.cell? ⟨b, o + k, none⟩ = some (.int .u64 (xs[k]?.getD 0)) := (hbr.cell (p := ⟨b, o + k, none⟩) hbl).trans (hs1.cell (j := k) hkn).1
      obtain ⟨hc1, hf1⟩ := hss.cell (j := q + k) (by omega)
      obtain ⟨hc2, hf2⟩ := hss.cell (j := q + k + 1) (by omega)
      have hx := hs1.words.getD k
      have ht := hss.words.getD (q + k)
      have hi1 : (q : Int) + (k : Int) < (q : Int) + (n : Int) + 1 := by omega
      have hi0 : (0 : Int) ≤ (q : Int) + (k : Int) := by omega
      have hr0 : (0 : Int) ≤ (r : Int) := by omega
      have hr64 : (r : Int) < 64 := by omega
      have hsl := hss.len.1
      have H1 := hide (up_step hr hs1.words (show k < xs.length by rw [HN.out]; exact hkn) (show q + k + 1 < ss.length by omega) HE.out.1 HE.out.2.1 ht.1 HE.out.2.2)
      have hu := up_low (xs[k]?.getD 0) (ss[q + k]?.getD 0) r (by omega) hx.1 ht.1 HE.out.2.2
      have hsw := shr_word (xs[k]?.getD 0) r (by omega) hx
      have h2r := two_le r (by omega)
      have hsg := (hss.set (k := q + k) (by omega) (x := bits .or .u64 (ss[q + k]?.getD 0) (IntKind.u64.wrap (xs[k]?.getD 0 * 2 ^ r))) (by rw [hu.1]; exact hu.2)).set (k := q + k + 1) (by rw [List.length_set]; omega) (x := xs[k]?.getD 0 / 2 ^ (64 - r)) ⟨hsw.1, by omega⟩
      have hbg : Below w1.heap.size w1 ((wr.setCell ⟨g, off + (q + k), none⟩ (.int .u64 (bits .or .u64 (ss[q + k]?.getD 0) (IntKind.u64.wrap (xs[k]?.getD 0 * 2 ^ r))))).setCell ⟨g, off + (q + k + 1), none⟩ (.int .u64 (xs[k]?.getD 0 / 2 ^ (64 - r)))) := (hbr.setCell (p := ⟨g, off + (q + k), none⟩) hg1 _).setCell (p := ⟨g, off + (q + k + 1), none⟩) hg1 _
      have HS := hide hsg
      have HB := hide hbg
      have hc3 : (wr.setCell ⟨g, off + (q + k), none⟩ (.int .u64 (bits .or .u64 (ss[q + k]?.getD 0) (IntKind.u64.wrap (xs[k]?.getD 0 * 2 ^ r))))).cell? ⟨g, off + (q + k + 1), none⟩ = some (.int .u64 (ss[q + k + 1]?.getD 0)) := by
        rw [World.cell?_setCell_other _ _ _ _ (by intro h; injection h with h1 h2; omega)]; exact hc2
      have hi2 : (q : Int) + (k : Int) + 1 < (q : Int) + (n : Int) + 1 := by omega
      have hi3 : (0 : Int) ≤ 64 - (r : Int) := by omega
      clear hsl hu hsw h2r hsg hbg HE
      generalize hX : xs[k]?.getD 0 = x at *
      generalize hT : ss[q + k]?.getD 0 = t at *
      clear hX hT
      go_wp2
      go_region
      go_wp2
      exact ⟨⟨k + 1, _, by omega, by go_num, HS.out.drew, H1, HB.out.drew⟩, by simp [intOf]; omega⟩
    · have hkn' : k = n := by omega
      subst hkn'
      have hss' : Seg w1.heap.size wr (.slice (some ⟨g, off, none⟩) (q + k + 1) cap2) ss := hss
      have HL := hide hss.len.1
      go_wp2_with fail
      refine (bare_any hss' (by have := HL.out; omega)).mono ?_
      rintro e w4 ⟨a4, cap4, us, rfl, hs4, hn4, hv4, hl4, hb4⟩
      have HF : Hid (val us = val zs * 2 ^ (64 * q + r)) := by
        rw [Hid, hv4, HE.out.1, ← pw_bits, ← HV.out, List.take_of_length_le (by rw [HN.out]; omega)]; ac_rfl
      have HL4 : Hid (us.length ≤ q + k + 1) := by have := HL.out; rw [Hid]; omega
      clear hv4 hl4
      go_wp2
      go_ret2
      exact ⟨_, _, us, rfl, hs4.mono hb1.size, hn4, HF.out, by have := HL4.out; have := HN.out; omega, hb1.trans ((hbr.trans (hb4.mono hbr.size)).mono hb1.size)⟩
def Rowed (W : World) (g cap : Nat) : Prop := ∃ cur : Array Value, W.heap[g]? = some (.cells cur 71 (0, 0)) ∧ cur.size = cap ∧ cap ≤ maxLen
theorem Rowed.setCell {W : World} {g cap : Nat} (h : Rowed W g cap) (p : Addr) (v : Value) : Rowed (W.setCell p v) g cap := by
  obtain ⟨cur, h1, h2, h3⟩ := h
  by_cases e : g = p.block
  · subst e
    have hl := (Array.getElem?_eq_some_iff.1 h1).1
    have h1' : W.heap[p.block] = .cells cur 71 (0, 0) := (Array.getElem?_eq_some_iff.1 h1).2
    exact ⟨if p.spot.isSome = true then cur else cur.setIfInBounds p.off v, by simp [World.setCell, Array.getElem_modify, hl, h1'], by split <;> simp [h2], h3⟩
  · exact ⟨cur, (Below.heap_setCell W p v g e).trans h1, h2, h3⟩
theorem Rowed.setCells {g' cap g : Nat} : ∀ (vs : List Value) (o : Nat) (w : World), Rowed w g cap → Rowed (w.setCells g' o vs) g cap
  | [], _, _, h => h
  | v :: r, o, w, h => Rowed.setCells r (o + 1) (w.setCell ⟨g', o, none⟩ v) (h.setCell _ _)
theorem Rowed.below {W W' : World} {g cap : Nat} (h : Rowed W g cap) (hb : Below W.heap.size W W') : Rowed W' g cap := by
  obtain ⟨cur, h1, h2, h3⟩ := h
  exact ⟨cur, (hb.block g (Array.getElem?_eq_some_iff.1 h1).1).trans h1, h2, h3⟩
theorem Rowed.own {lo g cap n : Nat} {W : World} {zs : List Int} (h : Rowed W g cap) (hs : Seg lo W (.slice (some ⟨g, 0, none⟩) n cap) zs) (hz : zs ≠ []) : Own lo W (.slice (some ⟨g, 0, none⟩) n cap) zs := by
  obtain ⟨cur, h1, h2, h3⟩ := h
  obtain ⟨hl, hc⟩ := hs.len
  subst hl
  refine ⟨⟨by simp, .inr ⟨g, cap, cur, rfl, ?_, h1, hc, h3, by omega, ?_⟩⟩, hs.words⟩
  · obtain ⟨b, o, e, h4, _⟩ := hs.row (List.length_pos_iff.2 hz)
    cases e
    exact h4
  · rw [Nat.mul_one]
    refine List.ext_getElem? fun j => ?_
    by_cases hj : j < zs.length
    · have := (hs.cell (j := j) hj).1
      rw [cell_of_heap h1, Nat.zero_add] at this
      rw [List.getElem?_take_of_lt hj, Array.getElem?_toList, this]
      simp [hj]
    · rw [List.getElem?_eq_none (by rw [List.length_take]; omega), List.getElem?_eq_none (by simpa using hj)]
set_option maxHeartbeats 1000000 in
set_option maxRecDepth 100000 in
theorem grow_big (n : Nat) (h0 : 0 < n) (hn : n ≤ 1000000) (w : World) : Calls Tryz.prog 93 #[.slice none 0 0, .int .i64 n] w fun e w' =>
    ∃ G, n ≤ G ∧ G ≤ maxLen ∧ e = .returned (.slice (some ⟨w.heap.size, 0, none⟩) 0 G) ∧ w' = w.drew.alloc (.cells (Array.replicate G (.int .u64 0)) 71) := by
  obtain ⟨i0, hi, hz0, hz1, hz2⟩ := info_parts infoU64
  have hGn : n ≤ grownCap w n 0 71 := grownCap_ge w _ _ _
  have hGm : grownCap w n 0 71 ≤ maxLen := grownCap_le_maxLen w _ _ _ (by unfold maxLen; omega)
  have hrz : ∀ ty, (Builtin.append_ #[27, 3] ty #[.slice none 0 0, .int .i64 (n : Int)]).run Tryz.prog w =
      .ok (.slice (some ⟨w.heap.size, 0, none⟩) n (grownCap w n 0 71)) (w.drew.alloc (.cells (Array.replicate (grownCap w n 0 71) (.int .u64 0)) 71)) := fun ty => by
    have h := Lib.run_append_grow_zeros w 27 3 ty 71 i0 (.int .u64 0) .i64 .i64 Tryz.underlying27 Tryz.underlying3 hi hz0 none 0 0 [] (run_firstCells_none w.drew i0.size 0 0 0) n h0 (by omega) (by omega) (by omega)
      (by rw [hz2]; omega) (by rw [hz2, Nat.zero_add, nextslicecap_zero h0]; omega)
    rw [Nat.zero_add, zeroCells_u64, zeroCells_u64] at h
    rw [h]
    congr 3
    simp
    omega
  obtain ⟨G, hG⟩ : ∃ G, G = grownCap w n 0 71 := ⟨_, rfl⟩
  rw [← hG] at hrz hGn hGm
  have HM := hide hGm
  clear hG hi hz0 hz1 hz2 hGm
  have h1 : ¬ ((n : Int) < 0) := by omega
  have h4 : (n : Int) > 0 := by omega
  go_enter Tryz.func93, Tryz.ntmps93
  go_wp2_with (at_builtin; refine Lib.wpList_append_run _ rfl _ _ _ _ rfl _ _ rfl rfl _ _ (hrz _) ?_)
  all_goals (go_ret; exact ⟨G, hGn, HM.out, rfl, rfl⟩)
set_option maxHeartbeats 600000 in
set_option maxRecDepth 100000 in
theorem widen_rowed (size : Nat) (h0 : 0 < size) (hn : size ≤ 1000000) (w : World) :
    Calls Tryz.prog 78 #[.slice none 0 0, .int .i64 size] w fun e w' => ∃ (g off G : Nat), off = 0 ∧ w.heap.size ≤ g ∧ e = .returned (.slice (some ⟨g, off, none⟩) size G) ∧ Seg w.heap.size w' (.slice (some ⟨g, off, none⟩) size G) (List.replicate size 0) ∧ Rowed w' g G ∧ Below w.heap.size w w' := by
  have hg := grow_big size h0 hn w
  have hls' : (0 : Int) < (size : Int) := by omega
  go_enter Tryz.func78, Tryz.ntmps78
  go_wp2_with fail
  refine hg.mono ?_
  rintro e w1 ⟨G, hG, hGm, rfl, hw1⟩
  have hN : w1.heap[w.heap.size]? = some (.cells (Array.replicate G (.int .u64 0)) 71 (0, 0)) := by rw [hw1]; exact World.alloc_heap_new w.drew _
  have hb1 : Below w.heap.size w w1 := by rw [hw1]; exact (Below.refl _ w).drew.alloc (Nat.le_refl _) _
  have hap := append_none (some ⟨w.heap.size, 0, none⟩) 0 G (Nat.zero_le _) none 0 w1
  have hcl := fun ty => Lib.run_clear_slice (P := Tryz.prog) w1 27 71 ty (.int .u64 0) Tryz.underlying27 zeroU64 rfl rfl w.heap.size 0 size G h0
    (fun j hj => by rw [cell_of_heap hN]; simp; omega) (fun j hj => frozen_of_heap hN _)
  have HM := hide hGm
  clear hw1 hg hGm
  go_wp2_with (at_builtin; refine Lib.wpList_append_run _ rfl _ _ _ _ rfl _ _ rfl rfl _ _ (hap _) ?_)
  go_ret
  have hr1 : Rowed w1 w.heap.size G := ⟨_, hN, by simp, HM.out⟩
  refine ⟨w.heap.size, 0, G, rfl, Nat.le_refl _, rfl, ⟨Words.zeros _, _, _, by rw [List.length_replicate], by rw [List.length_replicate]; omega, fun _ => ⟨w.heap.size, 0, rfl, Nat.le_refl _, ?_, fun j hj => ?_, fun j _ => ?_⟩⟩, hr1.setCells _ _ _, below_setCells (Nat.le_refl _) _ _ _ hb1⟩
  · rw [size_setCells]; exact (Array.getElem?_eq_some_iff.1 hN).1
  · rw [List.length_replicate] at hj
    rw [World.cell?_setCells_in _ _ _ _ (fun i hi => by rw [cell_of_heap hN]; simp at hi; simp; omega) j (by simpa using hj), List.getElem?_replicate_of_lt hj]
    simp
  · rw [World.frozen?_setCells]; exact frozen_of_heap hN _
theorem bare_same {lo : Nat} {a : Option Addr} {n cap : Nat} {zs : List Int} {w : World} (h : Seg lo w (.slice a n cap) zs) (hl : zs.length ≤ 1000000) (hz : val zs ≠ 0) :
    Calls Tryz.prog 50 #[.slice a n cap] w fun e w' => ∃ ts : List Int, e = .returned (.slice a ts.length cap) ∧ Seg lo w' (.slice a ts.length cap) ts ∧ Norm ts ∧ val ts = val zs ∧ ts.length ≤ zs.length ∧ Below w.heap.size w w' := by
  have h0 := h
  obtain ⟨hn, h1⟩ := h.len
  subst hn
  refine (callsIn_wide.1 (bare_in Fence.wide 3 trivial trivial trivial rfl (Nat.le_refl _) a zs.length cap zs hl h1 w (fun hp => by
    obtain ⟨b, off, rfl, e2, e3⟩ := h.row hp; exact ⟨b, off, rfl, e3, fun j hj => (h.cell hj).1⟩))).mono ?_
  rintro e w' ⟨⟨rfl, hzz⟩ | ⟨k, hk, rfl, hzz, hs⟩, hb⟩
  · exact absurd (val_of_zeros hzz) hz
  · have hs' := (h0.take (k := k + 1) (by omega)).below hb
    have hlen : (zs.take (k + 1)).length = k + 1 := by rw [List.length_take]; omega
    refine ⟨zs.take (k + 1), by rw [hlen], by rw [hlen]; exact hs', .inr ?_, val_take fun j hj1 hj2 => hs j (by omega) hj2, by rw [hlen]; omega, hb⟩
    rw [hlen, List.getElem?_take_of_lt (by omega)]; exact hzz
set_option maxRecDepth 100000 in
set_option maxHeartbeats 2000000 in
theorem up_own {lo : Nat} {sv : Value} {zs : List Int} {w : World} (h : Seg lo w sv zs) (hl : zs.length ≤ 10000) (bits : Nat) (hbits : bits ≤ 16777216) (hne : val zs ≠ 0) :
    Calls Tryz.prog 81 #[sv, .int .i64 bits] w fun e w' => ∃ (a : Option Addr) (cap : Nat) (us : List Int), e = .returned (.tuple #[.slice a us.length cap, .int .i64 0]) ∧ Own w.heap.size w' (.slice a us.length cap) us ∧ Norm us ∧ val us = val zs * 2 ^ bits ∧ us.length ≤ zs.length + bits / 64 + 1 ∧ Below w.heap.size w w' := by
  obtain ⟨q, r, hr, rfl⟩ : ∃ q r, r < 64 ∧ bits = 64 * q + r := ⟨bits / 64, bits % 64, by omega, by omega⟩
  have hq1 : (64 * (q : Int) + (r : Int)) / 64 = q := by omega
  have hq2 : (64 * (q : Int) + (r : Int)) % 64 = r := by omega
  have hm : decide (0 ≤ ((64 * q + r : Nat) : Int) ∧ ((64 * q + r : Nat) : Int) ≤ 16777216) = true := decide_eq_true (by omega)
  have hmv := movable_any ((64 * q + r : Nat) : Int) w
  rw [hm] at hmv
  clear hm
  go_enter Tryz.func81, Tryz.ntmps81
  go_wp2_with fail
  refine hmv.mono ?_
  rintro e w0 ⟨rfl, rfl⟩
  go_wp2_with fail
  refine (bare_any h (by omega)).mono ?_
  rintro e w1 ⟨a1, cap1, xs, rfl, hs1, hn1, hv1, hl1, hb1⟩
  have h0 : 0 < xs.length := by
    rcases Nat.eq_zero_or_pos xs.length with e | e
    · rw [List.length_eq_zero_iff.1 e] at hv1; exact absurd hv1.symm hne
    · exact e
  have hlz : ((xs.length : Int) == 0) = false := beq_eq_false_iff_ne.2 (by omega)
  have HV := hide hv1
  clear hv1 hne hmv
  go_wp2_with fail
  rw [show ((q : Int) + (xs.length : Int) + 1) = ((q + xs.length + 1 : Nat) : Int) by omega]
  refine (widen_rowed (q + xs.length + 1) (by omega) (by omega) w1).mono ?_
  rintro e w2 ⟨g, off, cap2, hoff, hg1, rfl, hs2, hrow2, hb2⟩
  have HOFF := hide hoff
  clear hoff
  obtain ⟨b, o, rfl, _, hbl⟩ := hs1.row h0
  have hs1' := hs1.below hb2
  obtain ⟨n, hn⟩ : ∃ n, xs.length = n := ⟨_, rfl⟩
  rw [hn] at hs2 hs1 hs1' hlz ⊢
  have HN := hide hn
  have hn10 : n ≤ 10000 := by omega
  clear hn
  go_wp2
  go_loopw [31] (fun i wr => ∃ (k : Nat) (ss : List Int), k ≤ n ∧ i = .int .i64 k ∧ Seg w1.heap.size wr (.slice (some ⟨g, off, none⟩) (q + n + 1) cap2) ss ∧ Hid (val ss = pw q * (2 ^ r * val (xs.take k)) ∧ (∀ j, q + k < j → ss[j]?.getD 0 = 0) ∧ ss[q + k]?.getD 0 < 2 ^ r) ∧ Rowed wr g cap2 ∧ Below w1.heap.size w1 wr) (fun i _ => n - (intOf i).toNat)
  case atStart =>
    refine ⟨0, _, Nat.zero_le _, rfl, hs2, ⟨?_, fun j _ => ?_, ?_⟩, hrow2, hb2⟩
    · rw [val_zeros, List.take_zero, val_nil]; simp
    · exact zeros_at _ _
    · rw [zeros_at]; exact two_pos r
  case round =>
    obtain ⟨k, ss, hk, rfl, hss, HE, hrow, hbr⟩ := hrel
    by_cases hkn : k < n
    · have hcx : wr.cell? ⟨b, o + k, none⟩ = some (.int .u64 (xs[k]?.getD 0)) := (hbr.cell (p := ⟨b, o + k, none⟩) hbl).trans (hs1.cell (j := k) hkn).1
      obtain ⟨hc1, hf1⟩ := hss.cell (j := q + k) (by omega)
      obtain ⟨hc2, hf2⟩ := hss.cell (j := q + k + 1) (by omega)
      have hx := hs1.words.getD k
      have ht := hss.words.getD (q + k)
      have hi1 : (q : Int) + (k : Int) < (q : Int) + (n : Int) + 1 := by omega
      have hi0 : (0 : Int) ≤ (q : Int) + (k : Int) := by omega
      have hr0 : (0 : Int) ≤ (r : Int) := by omega
      have hr64 : (r : Int) < 64 := by omega
      have hsl := hss.len.1
      have H1 := hide (up_step hr hs1.words (show k < xs.length by rw [HN.out]; exact hkn) (show q + k + 1 < ss.length by omega) HE.out.1 HE.out.2.1 ht.1 HE.out.2.2)
      have hu := up_low (xs[k]?.getD 0) (ss[q + k]?.getD 0) r (by omega) hx.1 ht.1 HE.out.2.2
      have hsw := shr_word (xs[k]?.getD 0) r (by omega) hx
      have h2r := two_le r (by omega)
      have hsg := (hss.set (k := q + k) (by omega) (x := bits .or .u64 (ss[q + k]?.getD 0) (IntKind.u64.wrap (xs[k]?.getD 0 * 2 ^ r))) (by rw [hu.1]; exact hu.2)).set (k := q + k + 1) (by rw [List.length_set]; omega) (x := xs[k]?.getD 0 / 2 ^ (64 - r)) ⟨hsw.1, by omega⟩
      have hbg : Below w1.heap.size w1 ((wr.setCell ⟨g, off + (q + k), none⟩ (.int .u64 (bits .or .u64 (ss[q + k]?.getD 0) (IntKind.u64.wrap (xs[k]?.getD 0 * 2 ^ r))))).setCell ⟨g, off + (q + k + 1), none⟩ (.int .u64 (xs[k]?.getD 0 / 2 ^ (64 - r)))) := (hbr.setCell (p := ⟨g, off + (q + k), none⟩) hg1 _).setCell (p := ⟨g, off + (q + k + 1), none⟩) hg1 _
      have HS := hide hsg
      have HR : Hid (Rowed (World.drew ((wr.setCell ⟨g, off + (q + k), none⟩ (.int .u64 (bits .or .u64 (ss[q + k]?.getD 0) (IntKind.u64.wrap (xs[k]?.getD 0 * 2 ^ r))))).setCell ⟨g, off + (q + k + 1), none⟩ (.int .u64 (xs[k]?.getD 0 / 2 ^ (64 - r))))) g cap2) := (hrow.setCell _ _).setCell _ _
      have HB := hide hbg
      have hc3 : (wr.setCell ⟨g, off + (q + k), none⟩ (.int .u64 (bits .or .u64 (ss[q + k]?.getD 0) (IntKind.u64.wrap (xs[k]?.getD 0 * 2 ^ r))))).cell? ⟨g, off + (q + k + 1), none⟩ = some (.int .u64 (ss[q + k + 1]?.getD 0)) := by
        rw [World.cell?_setCell_other _ _ _ _ (by intro h; injection h with h1 h2; omega)]; exact hc2
      have hi2 : (q : Int) + (k : Int) + 1 < (q : Int) + (n : Int) + 1 := by omega
      have hi3 : (0 : Int) ≤ 64 - (r : Int) := by omega
      clear hsl hu hsw h2r hsg hbg HE
      generalize hX : xs[k]?.getD 0 = x at *
      generalize hT : ss[q + k]?.getD 0 = t at *
      clear hX hT
      go_wp2
      go_region
      go_wp2
      exact ⟨⟨k + 1, _, by omega, by go_num, HS.out.drew, H1, HR.out, HB.out.drew⟩, by simp [intOf]; omega⟩
    · have hkn' : k = n := by omega
      subst hkn'
      have hss' : Seg w1.heap.size wr (.slice (some ⟨g, off, none⟩) (q + k + 1) cap2) ss := hss
      have HL := hide hss.len.1
      go_wp2_with fail
      have hne2 : val ss ≠ 0 := by
        rw [HE.out.1, List.take_of_length_le (by rw [HN.out]; omega)]
        have h1 := norm_pos hs1.words hn1 (by intro e; rw [e] at h0; simp at h0)
        have h2 := Int.mul_pos (pw_pos q) (Int.mul_pos (two_pos r) h1)
        omega
      refine (bare_same hss' (by have := HL.out; omega) hne2).mono ?_
      rintro e w4 ⟨us, rfl, hs4, hn4, hv4, hl4, hb4⟩
      have HF : Hid (val us = val zs * 2 ^ (64 * q + r)) := by
        rw [Hid, hv4, HE.out.1, ← pw_bits, ← HV.out, List.take_of_length_le (by rw [HN.out]; omega)]; ac_rfl
      have HL4 : Hid (us.length ≤ q + k + 1) := by have := HL.out; rw [Hid]; omega
      have hus : us ≠ [] := by intro e; rw [e, val_nil] at hv4; exact hne2 hv4.symm
      have hown : Own w0.heap.size w4 (.slice (some ⟨g, off, none⟩) us.length cap2) us := by
        have h5 := hs4.mono hb1.size
        rw [HOFF.out] at h5 ⊢
        exact (hrow.below hb4).own h5 hus
      have HO := hide hown
      clear hv4 hl4 hown hne2 hus
      go_wp2
      go_ret2
      exact ⟨_, _, us, rfl, HO.out, hn4, HF.out, by have := HL4.out; have := HN.out; omega, hb1.trans ((hbr.trans (hb4.mono hbr.size)).mono hb1.size)⟩
end Go.Proofs.YtejocefblpkdjabGreat
