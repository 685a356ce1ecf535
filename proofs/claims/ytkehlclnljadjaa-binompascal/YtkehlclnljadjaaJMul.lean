/-
  Joined: Mul NSets NSpan NGroups BWords BKnown BPascal.
-/
import Derived.Test.YtkehlclnljadjaaHalves
import Derived.Test.YtkehlclnljadjaaJEnds
import Derived.Laws.EntriesVeiled
import Derived.Test.YtkehlclnljadjaaQPart
import Derived.Test.YtkehlclnljadjaaNLists
import Derived.Test.YtkehlclnljadjaaJWiden
import Derived.Deep.RegionWith
import Derived.Test.YtkehlclnljadjaaJAdd
import Derived.Test.YtkehlclnljadjaaKit
namespace Go.Proofs.Ytkehlclnljadjaa
open Go.RowKit
set_option maxRecDepth 100000 in
set_option maxHeartbeats 1000000 in
theorem byHalves_any {lo lo' : Nat} {sa sb : Value} {xs ys : List Int} {w : World} (ha : Seg lo w sa xs) (hb : Seg lo' w sb ys) (hla : xs.length ≤ 4000) (hlb : ys.length ≤ 4000) (least : Nat) (hleast : 2 ≤ least ∧ least ≤ 1000) :
    Calls Try.prog 53 #[sa, sb, .int .i64 least] w fun e w' => ∃ (a : Option Addr) (cap : Nat) (zs : List Int), e = .returned (.slice a zs.length cap) ∧ Seg w.heap.size w' (.slice a zs.length cap) zs ∧ Norm zs ∧ val zs = val xs * val ys ∧ zs.length ≤ xs.length + ys.length ∧ Below w.heap.size w w' := by
  have h1 := val_nonneg ha.words
  have h2 := val_nonneg hb.words
  have HN : Hid (val xs + val ys < (((val xs + val ys).toNat + 1 : Nat) : Int)) := by rw [Hid]; omega
  clear h1 h2
  go_enter Try.func53, Try.ntmps53
  go_wp2_with fail
  have hW : ∀ (t t' : TypeId) (u v : Value), Below w.heap.size w ((w.alloc (.cells #[u] t)).alloc (.cells #[v] t')) := fun t t' u v => ((Below.refl _ w).alloc (Nat.le_refl _) _).alloc (by simp) _
  refine (halves_any w.heap.size (w.heap.size + 1) least hleast ((val xs + val ys).toNat + 1) (ha.below (hW _ _ _ _)) (hb.below (hW _ _ _ _)) hla hlb HN.out (by simp; omega) (by simp) ?_ ?_).mono ?_
  · exact ((Boxed.new w _ _).alloc _).cell
  · have := fun t => (Boxed.new (w.alloc (.cells #[.int .i64 least] 3)) t (.func (.func 60) #[] #[.pointer (some ⟨w.heap.size, 0, none⟩), .pointer (some ⟨w.heap.size + 1, 0, none⟩)])).cell
    rw [World.size_alloc] at this
    exact this _
  · rintro e w1 ⟨a1, k1, zs, rfl, hs1, hn1, hv1, hl1, hb1⟩
    have HV := hide hv1
    clear hv1
    go_wp2
    go_ret
    exact ⟨_, _, zs, rfl, hs1.mono (hW _ _ _ _).size, hn1, HV.out, hl1, (hW _ _ _ _).trans (hb1.mono (hW _ _ _ _).size)⟩
set_option maxRecDepth 100000 in
set_option maxHeartbeats 400000 in
theorem mul_any {lo lo' : Nat} {sa sb : Value} {xs ys : List Int} {w : World} (ha : Seg lo w sa xs) (hb : Seg lo' w sb ys) (hla : xs.length ≤ 4000) (hlb : ys.length ≤ 4000) :
    Calls Try.prog 44 #[sa, sb] w fun e w' => ∃ (a : Option Addr) (cap : Nat) (zs : List Int), e = .returned (.slice a zs.length cap) ∧ Seg w.heap.size w' (.slice a zs.length cap) zs ∧ Norm zs ∧ val zs = val xs * val ys ∧ zs.length ≤ xs.length + ys.length ∧ Below w.heap.size w w' := by
  have h80 := byHalves_any ha hb hla hlb 80 (by omega)
  rw [show ((80 : Nat) : Int) = 80 from rfl] at h80
  go_enter Try.func44, Try.ntmps44
  go_wp2_with fail
  refine h80.mono ?_
  rintro e w1 ⟨a1, k1, zs, rfl, hs1, hn1, hv1, hl1, hb1⟩
  have HV := hide hv1
  clear hv1 h80
  go_wp2
  go_ret
  exact ⟨_, _, zs, rfl, hs1, hn1, HV.out, hl1, hb1⟩
set_option maxRecDepth 100000 in
set_option maxHeartbeats 400000 in
theorem tgrow_any {lo : Nat} {sa : Value} {xs : List Int} {w : World} (ha : Seg lo w sa xs) (hla : xs.length ≤ 4000) (x : Int) (hx : 0 ≤ x ∧ x < 18446744073709551616) :
    Calls Try.prog 42 #[sa, .int .u64 x] w fun e w' => ∃ (a : Option Addr) (cap : Nat) (zs : List Int), e = .returned (.slice a zs.length cap) ∧ Seg w.heap.size w' (.slice a zs.length cap) zs ∧ Norm zs ∧ val zs = val xs * x ∧ zs.length ≤ xs.length + 1 ∧ Below w.heap.size w w' := by
  go_enter Try.func42, Try.ntmps42
  go_wp2_with fail
  refine (of_any x hx w).mono ?_
  rintro e w1 ⟨a1, k1, us, rfl, hs1, hn1, hv1, hl1, hb1⟩
  have hm := school_any (ha.below hb1) hs1 (by omega) (by omega)
  rw [hv1] at hm
  clear hv1
  go_wp2_with fail
  refine hm.mono ?_
  rintro e w2 ⟨a2, k2, zs, rfl, hs2, hn2, hv2, hl2, hb2⟩
  have HV := hide hv2
  clear hv2 hm
  go_wp2
  go_ret
  exact ⟨_, _, zs, rfl, hs2.mono hb1.size, hn2, HV.out, by omega, hb1.trans (hb2.mono hb1.size)⟩
theorem ch_next {n j : Nat} (h : j < n) : ((ch n j : Nat) : Int) * ((n : Int) - j) / ((j : Int) + 1) = ((ch n (j + 1) : Nat) : Int) := by
  have st := ch_step (n := n) (k := j) (by omega)
  have e : ((ch n j : Nat) : Int) * ((n : Int) - j) = ((ch n (j + 1) : Nat) : Int) * ((j : Int) + 1) := by
    have : (((ch n j * (n - j) : Nat)) : Int) = ((ch n (j + 1) * (j + 1) : Nat) : Int) := by rw [st]
    rw [Int.natCast_mul, Int.natCast_mul, Int.natCast_sub (by omega)] at this
    simpa using this
  rw [e, Int.mul_ediv_cancel _ (by omega)]
def ChIs (n m k : Nat) : Prop := ch n m = ch n k
theorem fits16 {zs : List Int} {n j : Nat} (hw : Words zs) (hn : Norm zs) (h : Hid (val zs = (ch n j : Nat))) (hl : n ≤ 1000) : zs.length ≤ 16 := by
  by_cases e : zs = []
  · subst e; simp
  · have a := norm_val hw hn e
    have b : ((ch n j : Nat) : Int) < pw 16 := ch_pw _ _ (by omega)
    rw [h.out] at a
    rcases Nat.lt_or_ge 16 zs.length with h1 | h1
    · have := pw_mono (m := 16) (n := zs.length - 1) (by omega)
      omega
    · exact h1
set_option maxRecDepth 100000 in
set_option maxHeartbeats 1000000 in
theorem sets_any (n k : Nat) (hk : k ≤ n) (hn : n ≤ 1000) (w : World) :
    Calls Try.prog 26 #[.int .i64 n, .int .i64 k] w fun e w' => ∃ (a : Option Addr) (c : Nat) (zs : List Int), e = .returned (.slice a zs.length c) ∧ Seg w.heap.size w' (.slice a zs.length c) zs ∧ Norm zs ∧ val zs = (ch n k : Nat) ∧ zs.length ≤ 16 ∧ Below w.heap.size w w' := by
  obtain ⟨m, hmn, hcm, hd⟩ : ∃ m : Nat, m ≤ n ∧ ChIs n m k ∧ (((n : Int) - k < k ∧ (n : Int) - k = m ∧ (m : Int) < k ∧ min (k : Int) (m : Int) = m) ∨ (¬ (n : Int) - k < k ∧ (k : Int) ≤ (n : Int) - k ∧ min (k : Int) ((n : Int) - k) = k ∧ m = k)) := by
    by_cases h : (n : Int) - k < k
    · exact ⟨n - k, by omega, ch_turn hk, Or.inl ⟨h, by omega, by omega, by omega⟩⟩
    · exact ⟨k, hk, rfl, Or.inr ⟨h, by omega, by omega, rfl⟩⟩
  rcases hd with ⟨h1, h2, h3, h4⟩ | ⟨h1, h2, h4, rfl⟩
  all_goals
    have hof := of_any 1 (by omega) w
    go_enter Try.func26, Try.ntmps26
    go_wp2_with fail
    refine hof.mono ?_
    rintro e w1 ⟨a1, c1, us, rfl, hs1, hn1, hv1, hl1, hb1⟩
    have HV1 : Hid (val us = (ch n 0 : Nat)) := by rw [Hid, hv1, ch_zero]; rfl
    clear hv1 hof
    go_wp2
  all_goals
    go_loopw [5, 6, 7] (fun ways up down wr => ∃ (j : Nat) (ao : Option Addr) (co : Nat) (ss : List Int), j ≤ m ∧ ways = .slice ao ss.length co ∧ up = .int .i64 ((n : Int) - j) ∧ down = .int .i64 ((j : Int) + 1) ∧ Seg w.heap.size wr (.slice ao ss.length co) ss ∧ Norm ss ∧ Hid (val ss = (ch n j : Nat)) ∧ Below w.heap.size w wr) (fun _ _ d _ => m + 1 - (intOf d).toNat)
    case atStart => exact ⟨0, a1, c1, us, Nat.zero_le _, rfl, by simp, by simp, hs1, hn1, HV1, hb1⟩
    case round =>
      obtain ⟨j, ao, co, ss, hj, rfl, rfl, rfl, hss, hns, HE, hbr⟩ := hrel
      have hsl := fits16 hss.words hns HE hn
      by_cases hjm : j < m
      · have hji : ¬ (m : Int) < (j : Int) + 1 := by omega
        have hu0 : 0 ≤ (n : Int) - j := by omega
        have hu1 : (n : Int) - j < 18446744073709551616 := by omega
        have hg := tgrow_any hss (by omega) ((n : Int) - j) ⟨hu0, hu1⟩
        go_wp2_with fail
        refine hg.mono ?_
        rintro e w2 ⟨a2, c2, z2, rfl, hs2, hn2, hv2, hl2, hb2⟩
        have hp := partw_yes hs2 (by omega) ((j : Int) + 1) ⟨by omega, by omega⟩
        rw [hv2, HE.out, ch_next (show j < n by omega)] at hp
        clear hv2 hg
        go_wp2_with fail
        refine hp.mono ?_
        rintro e w3 ⟨a3, c3, z3, rfl, hs3, hn3, hv3, hl3, hb3⟩
        have HV3 := hide hv3
        have hb03 := hbr.trans ((hb2.trans (hb3.mono hb2.size)).mono hbr.size)
        have hs3' := hs3.mono (Nat.le_trans hbr.size hb2.size)
        clear hv3 hp
        go_wp2
        all_goals exact ⟨⟨j + 1, a3, c3, z3, by omega, rfl, by congr 1; omega, by go_num, hs3', hn3, HV3, hb03⟩, by simp [intOf]; omega⟩
      · obtain rfl : j = m := by omega
        have HF := HE.out.trans (congrArg (fun x : Nat => (x : Int)) (show ch n j = ch n _ from hcm))
        have HF := hide HF
        have hji : (j : Int) < (j : Int) + 1 := by omega
        go_wp2
        go_ret
        exact ⟨_, _, ss, rfl, hss, hns, HF.out, hsl, hbr⟩
set_option maxRecDepth 100000 in
set_option maxHeartbeats 1000000 in
theorem span_any (m : Nat) : ∀ (low : Nat) (hi : Int) (w : World), low + m ≤ 70000 → 1 ≤ low → m ≤ 1000 → Hid (hi = (low : Int) + m - 1) →
    Calls Try.prog 28 #[.int .i64 low, .int .i64 hi] w fun e w' => ∃ (a : Option Addr) (c : Nat) (zs : List Int), e = .returned (.slice a zs.length c) ∧ Seg w.heap.size w' (.slice a zs.length c) zs ∧ Norm zs ∧ Hid (val zs = (spn low m : Nat)) ∧ zs.length ≤ max m 1 ∧ Below w.heap.size w w' := by
  induction m using Nat.strongRecOn with
  | _ m ih =>
    intro low hi w hl h1 hm HI
    by_cases h0 : m = 0
    · subst h0
      have hlt : hi < (low : Int) := by have := HI.out; omega
      have hof := of_any 1 (by omega) w
      go_enter Try.func28, Try.ntmps28
      go_wp2_with fail
      refine hof.mono ?_
      rintro e w1 ⟨a1, c1, us, rfl, hs1, hn1, hv1, hl1, hb1⟩
      have HV1 : Hid (val us = (spn low 0 : Nat)) := by rw [Hid, hv1]; rfl
      clear hv1 hof
      go_wp2
      go_ret
      exact ⟨_, _, us, rfl, hs1, hn1, HV1, by omega, hb1⟩
    · by_cases h2 : m = 1
      · subst h2
        obtain rfl : hi = (low : Int) := by have := HI.out; omega
        have hof := of_any (low : Int) (by omega) w
        have hr : (low : Int) < 18446744073709551616 := by omega
        go_enter Try.func28, Try.ntmps28
        go_wp2_with fail
        refine hof.mono ?_
        rintro e w1 ⟨a1, c1, us, rfl, hs1, hn1, hv1, hl1, hb1⟩
        have HV1 : Hid (val us = (spn low 1 : Nat)) := by rw [Hid, hv1]; show (low : Int) = ((1 * (low + 0) : Nat) : Int); omega
        clear hv1 hof
        go_wp2
        go_ret
        exact ⟨_, _, us, rfl, hs1, hn1, HV1, by omega, hb1⟩
      · have hnl : ¬ hi < (low : Int) := by have := HI.out; omega
        have hne : ¬ (low : Int) = hi := by have := HI.out; omega
        have hhi : hi ≤ 70000 := by have := HI.out; omega
        have hlo : (low : Int) ≤ 70000 := by omega
        obtain ⟨m1, m2, hm1, hm2, hmm⟩ : ∃ m1 m2 : Nat, m1 < m ∧ m2 < m ∧ Hid (m = m1 + m2 ∧ m1 = (m - 1) / 2 + 1) := ⟨(m - 1) / 2 + 1, m - ((m - 1) / 2 + 1), by omega, by omega, by rw [Hid]; omega⟩
        obtain ⟨p, hp⟩ : ∃ p : Nat, Hid (p = low + m1) := ⟨_, rfl⟩
        obtain ⟨q, hq⟩ : ∃ q : Int, ((low : Int) + hi) / 2 = q := ⟨_, rfl⟩
        have hqp : q + 1 = (p : Int) := by
          have a := HI.out; have b := hmm.out; have c := hp.out
          omega
        have hq0 : q ≤ 70000 := by omega
        have hq1 : (low : Int) ≤ q := by omega
        have hL := fun W => ih m1 hm1 low q W (by omega) h1 (by omega) (by have a := hmm.out; have c := hp.out; rw [Hid]; omega)
        have hR := fun W => ih m2 hm2 p hi W (by have a := hmm.out; have c := hp.out; omega) (by have c := hp.out; omega) (by omega) (by have a := hmm.out; have c := hp.out; have d := HI.out; rw [Hid]; omega)
        clear ih
        go_enter Try.func28, Try.ntmps28
        go_wp2_with fail
        refine (hL w).mono ?_
        rintro e w1 ⟨a1, c1, z1, rfl, hs1, hn1, HV1, hl1, hb1⟩
        go_wp2_with fail
        refine (hR w1).mono ?_
        rintro e w2 ⟨a2, c2, z2, rfl, hs2, hn2, HV2, hl2, hb2⟩
        have hmu := mul_any (hs1.below hb2) hs2 (by omega) (by omega)
        rw [HV1.out, HV2.out] at hmu
        go_wp2_with fail
        refine hmu.mono ?_
        rintro e w3 ⟨a3, c3, z3, rfl, hs3, hn3, hv3, hl3, hb3⟩
        have HV3 : Hid (val z3 = (spn low m : Nat)) := by
          rw [Hid, hv3, hmm.out.1, spn_add, ← hp.out, Int.natCast_mul]
        clear hv3 hmu
        have hb12 := hb1.trans (hb2.mono hb1.size)
        go_wp2
        go_ret
        exact ⟨_, _, z3, rfl, hs3.mono hb12.size, hn3, HV3, by have := hmm.out; omega, hb12.trans (hb3.mono hb12.size)⟩
def chI (n : Nat) (k : Int) : Nat := if 0 ≤ k then ch n k.toNat else 0
theorem chI_in (n k : Nat) : chI n k = ch n k := by unfold chI; rw [if_pos (by omega)]; rfl
theorem chI_below {n : Nat} {k : Int} (h : k < 0) : chI n k = 0 := by unfold chI; rw [if_neg (by omega)]
theorem chI_above {n : Nat} {k : Int} (h : (n : Int) < k) : chI n k = 0 := by unfold chI; rw [if_pos (by omega)]; exact ch_over (by omega)
def flI (n : Nat) (k : Int) : Nat := if k ≤ n then fl n k.toNat else 0
def NoNat (e : Ending) (er : Int) : Prop := e = .returned (.tuple #[.slice none 0 0, .int .i64 er])
set_option maxRecDepth 100000 in
set_option maxHeartbeats 1000000 in
theorem choose_no (n k : Int) (hn : n < 0 ∨ 65536 < n) (w : World) :
    Calls Try.prog 9 #[.int .i64 n, .int .i64 k] w fun e w' => e = .returned (.tuple #[.slice none 0 0, .int .i64 3]) ∧ Below w.heap.size w w' := by
  have hB := Below.refl w.heap.size w
  rcases hn with h | h
  · go_enter Try.func9, Try.ntmps9
    go_wp2
    all_goals
      go_ret2
      exact ⟨rfl, hB⟩
  · have h0 : ¬ n < 0 := by omega
    go_enter Try.func9, Try.ntmps9
    go_wp2
    all_goals
      go_ret2
      exact ⟨rfl, hB⟩
set_option maxRecDepth 100000 in
set_option maxHeartbeats 1000000 in
theorem choose_any (n : Nat) (hn : n ≤ 1000) (k : Int) (w : World) :
    Calls Try.prog 9 #[.int .i64 n, .int .i64 k] w fun e w' => ∃ (a : Option Addr) (c : Nat) (zs : List Int), e = .returned (.tuple #[.slice a zs.length c, .int .i64 0]) ∧ Seg w.heap.size w' (.slice a zs.length c) zs ∧ Norm zs ∧ Hid (val zs = (chI n k : Nat)) ∧ zs.length ≤ 16 ∧ Below w.heap.size w w' := by
  have hB := Below.refl w.heap.size w
  have hn0 : ¬ (n : Int) < 0 := by omega
  have hn1 : ¬ (65536 : Int) < (n : Int) := by omega
  by_cases h : k < 0 ∨ (n : Int) < k
  · have hc : chI n k = 0 := h.elim chI_below chI_above
    have HC : Hid (val [] = (chI n k : Nat)) := by rw [Hid, hc]; rfl
    clear hc
    rcases h with h | h
    · go_enter Try.func9, Try.ntmps9
      go_wp2
      all_goals
        go_ret2
        exact ⟨none, 0, [], rfl, Seg.nil _ _, norm_nil, HC, by simp, hB⟩
    · have h0 : ¬ k < 0 := by omega
      go_enter Try.func9, Try.ntmps9
      go_wp2
      all_goals
        go_ret2
        exact ⟨none, 0, [], rfl, Seg.nil _ _, norm_nil, HC, by simp, hB⟩
  · obtain ⟨j, rfl⟩ : ∃ j : Nat, k = j := ⟨k.toNat, by omega⟩
    have h0 : ¬ (j : Int) < 0 := by omega
    have h1 : ¬ (n : Int) < (j : Int) := by omega
    have hse := sets_any n j (by omega) hn w
    rw [← chI_in] at hse
    clear h
    go_enter Try.func9, Try.ntmps9
    go_wp2_with fail
    refine hse.mono ?_
    rintro e w1 ⟨a1, c1, z1, rfl, hs1, hn1, hv1, hl1, hb1⟩
    have HV1 := hide hv1
    clear hv1 hse
    go_wp2
    go_ret2
    exact ⟨_, _, z1, rfl, hs1, hn1, HV1, hl1, hb1⟩
set_option maxRecDepth 100000 in
set_option maxHeartbeats 1000000 in
theorem falling_no (n k : Int) (hn : n < 0 ∨ 65536 < n ∨ k < 0) (w : World) :
    Calls Try.prog 11 #[.int .i64 n, .int .i64 k] w fun e w' => e = .returned (.tuple #[.slice none 0 0, .int .i64 3]) ∧ Below w.heap.size w w' := by
  have hB := Below.refl w.heap.size w
  by_cases h0 : n < 0
  · go_enter Try.func11, Try.ntmps11
    go_wp2
    all_goals
      go_ret2
      exact ⟨rfl, hB⟩
  · by_cases h1 : 65536 < n
    · go_enter Try.func11, Try.ntmps11
      go_wp2
      all_goals
        go_ret2
        exact ⟨rfl, hB⟩
    · have h2 : k < 0 := by omega
      clear hn
      go_enter Try.func11, Try.ntmps11
      go_wp2
      all_goals
        go_ret2
        exact ⟨rfl, hB⟩
set_option maxRecDepth 100000 in
set_option maxHeartbeats 1000000 in
theorem falling_any (n : Nat) (hn : n ≤ 1000) (k : Int) (hk : 0 ≤ k) (w : World) :
    Calls Try.prog 11 #[.int .i64 n, .int .i64 k] w fun e w' => ∃ (a : Option Addr) (c : Nat) (zs : List Int), e = .returned (.tuple #[.slice a zs.length c, .int .i64 0]) ∧ Seg w.heap.size w' (.slice a zs.length c) zs ∧ Norm zs ∧ Hid (val zs = (flI n k : Nat)) ∧ zs.length ≤ 1001 ∧ Below w.heap.size w w' := by
  have hB := Below.refl w.heap.size w
  have hn0 : ¬ (n : Int) < 0 := by omega
  have hn1 : ¬ (65536 : Int) < (n : Int) := by omega
  have hk0 : ¬ k < 0 := by omega
  by_cases h : (n : Int) < k
  · have HC : Hid (val [] = (flI n k : Nat)) := by unfold flI; rw [if_neg (by omega)]; rfl
    go_enter Try.func11, Try.ntmps11
    go_wp2
    all_goals
      go_ret2
      exact ⟨none, 0, [], rfl, Seg.nil _ _, norm_nil, HC, by simp, hB⟩
  · obtain ⟨j, rfl⟩ : ∃ j : Nat, k = j := ⟨k.toNat, by omega⟩
    obtain ⟨p, hp⟩ : ∃ p : Nat, (n : Int) - (j : Int) + 1 = (p : Int) := ⟨n - j + 1, by omega⟩
    have hse := span_any j p (n : Int) w (by omega) (by omega) (by omega) (by rw [Hid]; omega)
    have HC : Hid (flI n j = spn p j) := by
      unfold flI
      rw [Hid, if_pos (by omega), show ((j : Int)).toNat = j from rfl, fl_spn (by omega), show n - j + 1 = p by omega]
    go_enter Try.func11, Try.ntmps11
    go_wp2_with fail
    refine hse.mono ?_
    rintro e w1 ⟨a1, c1, z1, rfl, hs1, hn1, hv1, hl1, hb1⟩
    have HV1 : Hid (val z1 = (flI n j : Nat)) := by rw [Hid, hv1.out, HC.out]
    clear hv1 hse
    go_wp2
    go_ret2
    exact ⟨_, _, z1, rfl, hs1, hn1, HV1, by omega, hb1⟩
def ins (l : List Nat) : List Int := l.map fun x : Nat => (x : Int)
theorem ins_length (l : List Nat) : (ins l).length = l.length := by simp [ins]
theorem ins_take (l : List Nat) (k : Nat) : (ins l).take k = ins (l.take k) := by simp [ins]
theorem ins_drop (l : List Nat) (k : Nat) : (ins l).drop k = ins (l.drop k) := by simp [ins]
theorem ins_get (l : List Nat) (j : Nat) : (ins l)[j]?.getD 0 = ((l[j]?.getD 0 : Nat) : Int) := by
  simp only [ins, List.getElem?_map]
  cases l[j]? <;> simp
theorem ins_snoc (l : List Nat) (x : Nat) : ins (l ++ [x]) = ins l ++ [(x : Int)] := by simp [ins]
set_option maxRecDepth 100000 in
set_option maxHeartbeats 1000000 in
theorem groups_any (n : Nat) : ∀ (ls : List Nat) (lo : Nat) (a : Option Addr) (cap : Nat) (w : World), ls.length = n → Intz lo w (.slice a n cap) (ins ls) → sml ls ≤ 1000 → n ≤ 16 →
    Calls Try.prog 33 #[.slice a n cap] w fun e w' => ∃ (a' : Option Addr) (c' : Nat) (zs : List Int), e = .returned (.tuple #[.slice a' zs.length c', .int .i64 (sml ls : Nat)]) ∧ Seg w.heap.size w' (.slice a' zs.length c') zs ∧ Norm zs ∧ Hid (val zs = (mlt ls : Nat)) ∧ zs.length + 16 ≤ 17 * max n 1 ∧ Below w.heap.size w w' := by
  induction n using Nat.strongRecOn with
  | _ n ih =>
    intro ls lo a cap w hln hI hsm hn
    by_cases h0 : n = 0
    · subst h0
      obtain rfl : ls = [] := List.length_eq_zero_iff.1 hln
      have hof := of_any 1 (by omega) w
      go_enter Try.func33, Try.ntmps33
      go_wp2_with fail
      refine hof.mono ?_
      rintro e w1 ⟨a1, c1, us, rfl, hs1, hn1, hv1, hl1, hb1⟩
      have HV1 : Hid (val us = (mlt [] : Nat)) := by rw [Hid, hv1]; rfl
      clear hv1 hof
      go_wp2
      go_ret2
      exact ⟨_, _, us, rfl, hs1, hn1, HV1, by omega, hb1⟩
    · by_cases h1 : n = 1
      · subst h1
        obtain ⟨x, rfl⟩ : ∃ x, ls = [x] := by
          match ls, hln with
          | [x], _ => exact ⟨x, rfl⟩
        obtain ⟨b, off, rfl, _, hlt⟩ := hI.row (by omega)
        have hc := (hI.cell (j := 0) (by omega)).1
        have hx : (ins [x])[0]?.getD 0 = (x : Int) := rfl
        rw [hx] at hc
        have hcd : w.drew.cell? ⟨b, off + 0, none⟩ = some (.int .i64 x) := hc
        rw [Nat.add_zero] at hcd
        have hof := of_any 1 (by omega) w.drew
        have hS : Hid (sml [x] = x) := by rw [Hid]; show x + 0 = x; omega
        rw [hS.out]
        go_enter Try.func33, Try.ntmps33
        go_wp2_with fail
        go_region_law (first
          | (go_simp
             go_at_call 31
             refine hof.mono ?_
             rintro e w1 ⟨a1, c1, us, rfl, hs1, hn1, hv1, hl1, hb1⟩
             have hc1 := (hb1.cell (p := ⟨b, off, none⟩) hlt).trans hcd
             dsimp only))
        all_goals
          have HV1 : Hid (val us = (mlt [x] : Nat)) := by rw [Hid, hv1, mlt_one]; rfl
          have hb1' := (Below.refl w.heap.size w).drew.trans hb1
          clear hv1 hof hc hcd
          go_wp2
          go_ret2
          exact ⟨_, _, us, rfl, hs1, hn1, HV1, by omega, hb1'⟩
      · obtain ⟨b, off, rfl, _, hlt⟩ := hI.row (by omega)
        have hcap := hI.len.2
        obtain ⟨h, r, hh, hr, hhr⟩ : ∃ h r : Nat, h < n ∧ r < n ∧ Hid (n = h + r ∧ h = n / 2) := ⟨n / 2, n - n / 2, by omega, by omega, by rw [Hid]; omega⟩
        have hq : (n : Int) / 2 = (h : Int) := by have := hhr.out; omega
        have ht1 := hI.take (k := h) (by rw [ins_length]; omega)
        have ht2 := hI.drop h (by omega)
        have hL1 : (ls.take h).length = h := by rw [List.length_take]; omega
        have hL2 : (ls.drop h).length = r := by have := hhr.out; rw [List.length_drop]; omega
        rw [ins_take] at ht1
        rw [ins_drop, show n - h = r by have := hhr.out; omega] at ht2
        have hls : Hid (ls = ls.take h ++ ls.drop h) := (List.take_append_drop h ls).symm
        have hss := sml_append (ls.take h) (ls.drop h)
        rw [← hls.out] at hss
        have hL := fun W => ih h hh (ls.take h) lo (some ⟨b, off, none⟩) cap W hL1
        have hR := fun W => ih r hr (ls.drop h) lo (some ⟨b, off + h, none⟩) (cap - h) W hL2
        have hmm := mlt_append (ls.take h) (ls.drop h)
        rw [← hls.out] at hmm
        have HMM := hide hmm
        generalize ls.take h = l1 at *
        generalize ls.drop h = l2 at *
        have hT : ((sml l1 : Nat) : Int) + ((sml l2 : Nat) : Int) = ((sml ls : Nat) : Int) := by omega
        have hh1 : 1 ≤ h := by have := hhr.out; omega
        have hr1 : 1 ≤ r := by have := hhr.out; omega
        have hb1 : (h : Int) ≤ (n : Int) := by omega
        have hb2 : (h : Int) ≤ (cap : Int) := by omega
        have hb3 : h < cap := by omega
        have hnr : n - h = r := by have := hhr.out; omega
        have HLN := hide hln
        clear ih hmm hls hL1 hL2 hln
        generalize hs1 : sml l1 = s1 at *
        generalize hs2 : sml l2 = s2 at *
        generalize hs : sml ls = s at *
        have HS := hide hs
        have HS1 := hide hs1
        have HS2 := hide hs2
        have HT := hide hT
        clear hs hs1 hs2 hT
        have hse := fun W => sets_any s s1 (by omega) (by omega) W
        have hs1i : (s1 : Int) ≤ 1000 := by omega
        have hs2i : (s2 : Int) ≤ 1000 := by omega
        have hsi : (s : Int) ≤ 1000 := by omega
        have hLw := hL w ht1 (by omega) (by omega)
        clear hL
        go_enter Try.func33, Try.ntmps33
        go_wp2_with fail
        refine hLw.mono ?_
        rintro e w1 ⟨a1, c1, z1, rfl, S1, N1, V1, L1, B1⟩
        have hRw := hR w1 (ht2.below B1) (by omega) (by omega)
        clear hR
        go_wp2_with fail
        refine hRw.mono ?_
        rintro e w2 ⟨a2, c2, z2, rfl, S2, N2, V2, L2, B2⟩
        have S1' := S1.below B2
        have B12 := B1.trans (B2.mono B1.size)
        clear S1 hRw hLw
        go_wp2_with fail
        rw [HT.out]
        refine (hse w2).mono ?_
        rintro e w3 ⟨a3, c3, z3, rfl, S3, N3, hv3, L3, B3⟩
        have V3 := hide hv3
        have hm1 := mul_any (S1'.below B3) (S2.below B3) (by omega) (by omega)
        clear hv3 hse
        go_wp2_with fail
        refine hm1.mono ?_
        rintro e w4 ⟨a4, c4, z4, rfl, S4, N4, hv4, L4, B4⟩
        have V4 := hide hv4
        have hm2 := mul_any (S3.below B4) S4 (by omega) (by omega)
        clear hv4 hm1
        go_wp2_with fail
        refine hm2.mono ?_
        rintro e w5 ⟨a5, c5, z5, rfl, S5, N5, hv5, L5, B5⟩
        have V5 : Hid (val z5 = (mlt ls : Nat)) := by
          rw [Hid, hv5, V3.out, V4.out, V1.out, V2.out, HMM.out, hss, Int.natCast_mul, Int.natCast_mul]
        have B13 := B12.trans (B3.mono B12.size)
        have B14 := B13.trans (B4.mono B13.size)
        have S5' := S5.mono B14.size
        have B15 := B14.trans (B5.mono B14.size)
        have L5' : z5.length + 16 ≤ 17 * max n 1 := by have := hhr.out; omega
        clear hv5 hm2 hss
        go_wp2
        simp only [HT.out]
        go_ret2
        exact ⟨_, _, z5, rfl, S5', N5, V5, L5', B15⟩
inductive Sizes : List Int → Option (List Nat) → Prop
  | all (ls : List Nat) (h : ∀ x ∈ ls, x ≤ 60) : Sizes (ins ls) (some ls)
  | no (ls : List Nat) (h : ∀ x ∈ ls, x ≤ 60) (x : Int) (hx : x < 0 ∨ 65536 < x) (post : List Int) : Sizes (ins ls ++ x :: post) none
theorem sml_le : ∀ (l : List Nat), (∀ x ∈ l, x ≤ 60) → sml l ≤ 60 * l.length
  | [], _ => Nat.le_refl _
  | x :: l, h => by
    have := sml_le l (fun y hy => h y (List.mem_cons_of_mem _ hy))
    have := h x List.mem_cons_self
    show x + sml l ≤ _
    rw [List.length_cons]; omega
theorem sml_take_succ (l : List Nat) (k : Nat) : sml (l.take (k + 1)) = sml (l.take k) + l[k]?.getD 0 := by
  rw [List.take_add_one, sml_append]
  cases l[k]? with
  | none => rfl
  | some x => show _ = _ + x; show sml (l.take k) + (x + 0) = _; omega
theorem filter_take_succ (l : List Nat) (k : Nat) (hk : k < l.length) : (l.take (k + 1)).filter (0 < ·) = (l.take k).filter (0 < ·) ++ (if 0 < l[k]?.getD 0 then [l[k]?.getD 0] else []) := by
  rw [List.take_add_one, List.filter_append, List.getElem?_eq_getElem hk]
  congr 1
  by_cases h : 0 < l[k]
  · simp [h]
  · simp [h]
theorem filter_len (l : List Nat) : (l.filter (0 < ·)).length ≤ l.length := List.length_filter_le _ _
def countOf (o : Option (List Nat)) : Int × Nat := match o with
  | some ls => (0, mlt ls)
  | none => (3, 0)
set_option maxRecDepth 100000 in
set_option maxHeartbeats 4000000 in
theorem count_any {lo : Nat} {a : Option Addr} {cap : Nat} {zs : List Int} {w : World} (o : Option (List Nat)) (hI : Intz lo w (.slice a zs.length cap) zs) (hS : Sizes zs o) (hl : zs.length ≤ 12) :
    Calls Try.prog 18 #[.slice a zs.length cap] w fun e w' => ∃ (a' : Option Addr) (c' : Nat) (ts : List Int), e = .returned (.tuple #[.slice a' ts.length c', .int .i64 (countOf o).1]) ∧ Seg w.heap.size w' (.slice a' ts.length c') ts ∧ Norm ts ∧ Hid (val ts = ((countOf o).2 : Nat)) ∧ ts.length ≤ 204 ∧ Below w.heap.size w w' := by
  obtain ⟨ls, hpre, hle, hx⟩ : ∃ ls : List Nat, (∀ x ∈ ls, x ≤ 60) ∧ ls.length ≤ zs.length ∧ Hid ((∀ k, k < ls.length → zs[k]?.getD 0 = ((ls[k]?.getD 0 : Nat) : Int)) ∧ ((ls.length = zs.length ∧ o = some ls) ∨ (ls.length < zs.length ∧ o = none ∧ (zs[ls.length]?.getD 0 < 0 ∨ 65536 < zs[ls.length]?.getD 0)))) := by
    cases hS with
    | all ls h => exact ⟨ls, h, by rw [ins_length]; exact Nat.le_refl _, fun k _ => ins_get ls k, Or.inl ⟨(ins_length ls).symm, rfl⟩⟩
    | no ls h x hx post =>
      refine ⟨ls, h, by simp [ins_length], fun k hk => ?_, Or.inr ⟨by simp [ins_length], rfl, ?_⟩⟩
      · rw [List.getElem?_append_left (by rw [ins_length]; exact hk)]; exact ins_get ls k
      · rw [List.getElem?_append_right (by rw [ins_length]; exact Nat.le_refl _), ins_length, Nat.sub_self]; exact hx
  have hsml := sml_le ls hpre
  obtain ⟨n, hn⟩ : ∃ n, zs.length = n := ⟨_, rfl⟩
  have HN := hide hn
  rw [hn] at hI hl hle ⊢
  clear hn hS
  go_enter Try.func18, Try.ntmps18
  go_wp2
  go_loopw [4, 5, 12] (fun sum fil cnt wr => ∃ (k : Nat), k ≤ ls.length ∧ sum = .int .i64 (sml (ls.take k) : Nat) ∧ cnt = .int .i64 k ∧ Hid (OwnI w.heap.size wr fil (ins ((ls.take k).filter (0 < ·)))) ∧ Below w.heap.size w wr) (fun _ _ c _ => n + 1 - (intOf c).toNat)
  case atStart => exact ⟨0, Nat.zero_le _, rfl, rfl, owni_nil _ _, Below.refl _ _⟩
  case round =>
    obtain ⟨k, hk, rfl, rfl, HO, hB⟩ := hrel
    have hIr := hI.below hB
    have hst := sml_take_succ ls k
    have hst2 : sml (ls.take k) ≤ 720 := by
      have h1 := sml_le (ls.take k) (fun x hx => hpre x (List.mem_of_mem_take hx))
      rw [List.length_take] at h1
      omega
    by_cases hkl : k < ls.length
    · have hkn : (k : Int) < (n : Int) := by omega
      obtain ⟨b, off, rfl, _, hlt⟩ := hIr.row (by omega)
      have hc := (hIr.cell (j := k) (by omega)).1
      rw [hx.out.1 k hkl] at hc
      have hft := filter_take_succ ls k hkl
      have hxk : ls[k]?.getD 0 ≤ 60 := by
        rw [List.getElem?_eq_getElem hkl]; exact hpre _ (List.getElem_mem hkl)
      generalize ls[k]?.getD 0 = x at *
      have hx0 : ¬ (x : Int) < 0 := by omega
      generalize hs : sml (ls.take k) = s at *
      have hx1 : ¬ (65536 : Int) - (s : Int) < (x : Int) := by omega
      have hsx : (s : Int) + (x : Int) = ((sml (ls.take (k + 1)) : Nat) : Int) := by rw [hst]; omega
      have HSX := hide hsx
      have hsi : (s : Int) ≤ 720 := by omega
      have hxi : (x : Int) ≤ 60 := by omega
      have HST := hide hst
      clear hsx hst hs
      by_cases hx2 : 0 < x
      · have hx3 : (0 : Int) < (x : Int) := by omega
        rw [if_pos hx2] at hft
        have hfl := filter_len (ls.take k)
        rw [List.length_take] at hfl
        generalize hf0 : (ls.take k).filter (0 < ·) = f0 at *
        obtain ⟨a1, c1, w1, hap, hO1, hB1⟩ := owni_append HO.out (x : Int) ⟨by omega, by omega⟩ (by rw [ins_length]; omega) hB.size
        obtain ⟨fa, fc, rfl, _⟩ := owni_seg HO.out
        have HO1 : Hid (OwnI w.heap.size w1 (.slice a1 ((ins f0).length + 1) c1) (ins ((ls.take (k + 1)).filter (0 < ·)))) := by
          rw [Hid, hft, ins_snoc]; exact hO1
        have HB1 := hB.trans hB1
        clear hO1 hft HO hIr hB1
        go_wp2_with (at_builtin; refine Lib.wpList_append_run _ rfl _ _ _ _ rfl _ _ rfl rfl _ _ hap ?_)
        exact ⟨⟨k + 1, by omega, by rw [HSX.out], by go_num, HO1, HB1⟩, by simp [intOf]; omega⟩
      · have hx3 : ¬ (0 : Int) < (x : Int) := by omega
        rw [if_neg hx2, List.append_nil] at hft
        have HO1 := HO.out
        rw [← hft] at HO1
        have HO1 := hide HO1
        clear hft hIr HO
        go_wp2
        exact ⟨⟨k + 1, by omega, by rw [HSX.out], by go_num, HO1, hB⟩, by simp [intOf]; omega⟩
    · obtain rfl : k = ls.length := by omega
      rw [List.take_length] at HO hst2 ⊢
      obtain ⟨hx1, hx⟩ := hx.out
      have hln := HN.out
      rcases hx with ⟨hl1, rfl⟩ | ⟨hl1, rfl, hbad⟩
      · have hkn : ¬ (ls.length : Int) < (n : Int) := by omega
        have hfl := filter_len ls
        have hmf := mlt_filter ls
        have hsf := sml_filter ls
        obtain ⟨fa, fc, rfl, hIf⟩ := owni_seg HO.out
        generalize ls.filter (0 < ·) = f0 at *
        have hgr := groups_any f0.length f0 _ fa fc wr rfl (by rw [ins_length] at hIf; exact hIf) (by omega) (by omega)
        rw [← ins_length f0] at hgr
        have HM := hide hmf
        clear hIr hst hx1 hl1 hmf hsf hIf HO hln hpre
        go_wp2_with fail
        refine hgr.mono ?_
        rintro e w1 ⟨a1, c1, z1, rfl, S1, N1, V1, L1, B1⟩
        have V2 : Hid (val z1 = ((countOf (some ls)).2 : Nat)) := by rw [Hid, V1.out, HM.out]; rfl
        have L2 : z1.length ≤ 204 := by rw [ins_length] at L1; omega
        have S2 := S1.mono hB.size
        have B2 := hB.trans (B1.mono hB.size)
        clear hgr V1 S1 L1
        go_wp2
        go_ret2
        exact ⟨_, _, z1, rfl, S2, N1, V2, L2, B2⟩
      · have hkn : (ls.length : Int) < (n : Int) := by omega
        obtain ⟨b, off, rfl, _, hlt⟩ := hIr.row (by omega)
        have hc := (hIr.cell (j := ls.length) (by omega)).1
        generalize zs[ls.length]?.getD 0 = x at *
        generalize sml ls = s at *
        have hsi : (s : Int) ≤ 720 := by omega
        clear hIr hst hx1 HO hln hl1
        rcases hbad with hb | hb
        · go_wp2
          all_goals
            go_ret2
            exact ⟨none, 0, [], rfl, Seg.nil _ _, norm_nil, rfl, by simp, hB⟩
        · have hx0 : ¬ x < 0 := by omega
          have hx2 : (65536 : Int) - (s : Int) < x := by omega
          go_wp2
          all_goals
            go_ret2
            exact ⟨none, 0, [], rfl, Seg.nil _ _, norm_nil, rfl, by simp, hB⟩
theorem intz_at (W : World) (zs : List Int) (hz : Nums zs) (cs : Array Value) (hc : cs = (zs.map (Value.int .i64)).toArray) :
    Intz W.heap.size (W.alloc (.cells cs 3)) (.slice (some ⟨W.heap.size, 0, none⟩) zs.length zs.length) zs := by
  subst hc
  refine ⟨hz, _, _, rfl, Nat.le_refl _, fun _ => ⟨_, 0, rfl, Nat.le_refl _, by simp, fun j hj => ?_, fun j _ => frozen_of_heap (World.alloc_heap_new W _) _⟩⟩
  rw [cell_of_heap (World.alloc_heap_new W _), Nat.zero_add]
  simp [hj]
set_option maxRecDepth 100000 in
set_option maxHeartbeats 1000000 in
theorem bis_yes {lo : Nat} {a : Option Addr} {c : Nat} {zs : List Int} {w : World} (S : Seg lo w (.slice a zs.length c) zs) (N : Norm zs) (want : Int) (hw : 0 ≤ want ∧ want < 18446744073709551616) (hv : Hid (val zs = want)) (hl : zs.length ≤ 1001) :
    Calls Try.prog 21 #[.slice a zs.length c, .int .i64 0, .int .u64 want] w fun e w' => e = .returned (.bool true) ∧ Below w.heap.size w w' := by
  have hb : Below w.heap.size w (w.alloc (.cells #[.int .u64 want] 41)) := (Below.refl _ _).alloc (Nat.le_refl _) _
  have hs : Seg w.heap.size (w.alloc (.cells #[.int .u64 want] 41)) (.slice (some ⟨w.heap.size, 0, none⟩) 1 1) [want] := by
    refine ⟨Words.cons hw Words.nil, _, _, rfl, Nat.le_refl _, fun _ => ⟨_, 0, rfl, Nat.le_refl _, by simp, fun j hj => ?_, fun j _ => frozen_of_heap (World.alloc_heap_new w _) _⟩⟩
    obtain rfl : j = 0 := by simpa using hj
    exact cell_of_heap (World.alloc_heap_new w _) 0
  have ht := trim_any hs (by simp)
  have hval : val [want] = want := by simp [val]
  rw [hval] at ht
  have hw0 := S.words
  clear hval
  go_enter Try.func21, Try.ntmps21
  go_wp2_with fail
  refine ht.mono ?_
  rintro e w1 ⟨a1, c1, ts, rfl, S1, N1, v1, l1, B1⟩
  obtain rfl : zs = ts := norm_unique hw0 S1.words N N1 (by rw [hv.out, v1])
  have B01 := hb.trans (B1.mono hb.size)
  have hsm := same_yes (S.below B01) S1 (by omega)
  clear v1 ht
  go_wp2_with fail
  refine hsm.mono ?_
  rintro e w2 ⟨rfl, B2⟩
  have B02 := B01.trans (B2.mono B01.size)
  clear hsm
  go_wp2
  go_ret
  exact ⟨rfl, B02⟩
set_option maxRecDepth 100000 in
set_option maxHeartbeats 1000000 in
theorem chosen_yes (n : Nat) (hn : n ≤ 1000) (k : Int) (want : Nat) (h : chI n k = want) (hw : want < 18446744073709551616) (w : World) :
    Calls Try.prog 22 #[.int .i64 n, .int .i64 k, .int .u64 want] w fun e w' => e = .returned (.bool true) ∧ Below w.heap.size w w' := by
  have hc := choose_any n hn k w
  rw [h] at hc
  clear h
  go_enter Try.func22, Try.ntmps22
  go_wp2_with fail
  refine hc.mono ?_
  rintro e w1 ⟨a1, c1, ts, rfl, S1, N1, V1, l1, B1⟩
  have hi := bis_yes S1 N1 (want : Int) ⟨by omega, by omega⟩ V1 (by omega)
  clear hc
  go_wp2_with fail
  refine hi.mono ?_
  rintro e w2 ⟨rfl, B2⟩
  have B02 := B1.trans (B2.mono B1.size)
  clear hi
  go_wp2
  go_ret
  exact ⟨rfl, B02⟩
theorem count_lit {lo : Nat} {W : World} {a : Option Addr} {n c : Nat} (zs : List Int) (ls : List Nat) (m : Nat) (hI : Intz lo W (.slice a n c) zs) (e : zs = ins ls) (h : ∀ x ∈ ls, x ≤ 60) (hl : ls.length ≤ 12) (hm : mlt ls = m) :
    Calls Try.prog 18 #[.slice a n c] W fun e w' => ∃ (a' : Option Addr) (c' : Nat) (ts : List Int), e = .returned (.tuple #[.slice a' ts.length c', .int .i64 0]) ∧ Seg W.heap.size w' (.slice a' ts.length c') ts ∧ Norm ts ∧ Hid (val ts = (m : Nat)) ∧ ts.length ≤ 204 ∧ Below W.heap.size W w' := by
  subst e
  obtain ⟨rfl, _⟩ := hI.len
  have := count_any (some ls) hI (Sizes.all ls h) (by rw [ins_length]; exact hl)
  rw [← hm]
  exact this
set_option maxRecDepth 100000 in
set_option maxHeartbeats 1000000 in
theorem bawake_any (w : World) : Calls Try.prog 8 #[] w fun e w' => e = .returned (.bool true) ∧ Below w.heap.size w w' := by
  have hf := falling_any 5 (by omega) 3 (by omega) w
  rw [show flI 5 3 = 60 from rfl] at hf
  go_enter Try.func8, Try.ntmps8
  go_wp2_with fail
  refine hf.mono ?_
  rintro e w1 ⟨a1, c1, z1, rfl, S1, N1, V1, l1, B1⟩
  clear hf
  have q1 : Below w1.heap.size w1 (w1.alloc (.cells #[.int .i64 2, .int .i64 1, .int .i64 1] 3)) := (Below.refl _ _).alloc (Nat.le_refl _) _
  have hc := count_lit [2, 1, 1] [2, 1, 1] 12 (intz_at w1 [2, 1, 1] (by unfold Nums; decide) _ rfl) rfl (by decide) (by decide) (by decide)
  go_wp2_with fail
  refine hc.mono ?_
  rintro e w2 ⟨a2, c2, z2, rfl, S2, N2, V2, l2, B2⟩
  have q2 := q1.trans (B2.mono q1.size)
  have S1' := S1.below q2
  have B02 := B1.trans (q2.mono B1.size)
  clear hc S1 B1 q1 B2
  go_wp2_with fail
  refine (chosen_yes 5 (by omega) 2 10 rfl (by decide) w2).mono ?_
  rintro e w3 ⟨rfl, B3⟩
  go_wp2_with fail
  refine (chosen_yes 0 (by omega) 0 1 rfl (by decide) w3).mono ?_
  rintro e w4 ⟨rfl, B4⟩
  have B24 := B3.trans (B4.mono B3.size)
  have h1 := bis_yes (S1'.below B24) N1 60 (by decide) V1 (by omega)
  go_wp2_with fail
  refine h1.mono ?_
  rintro e w5 ⟨rfl, B5⟩
  have B25 := B24.trans (B5.mono B24.size)
  have h2 := bis_yes ((S2.mono (Nat.zero_le _)).below B25) N2 12 (by decide) V2 (by omega)
  go_wp2_with fail
  refine h2.mono ?_
  rintro e w6 ⟨rfl, B6⟩
  have B06 := B02.trans ((B25.trans (B6.mono B25.size)).mono B02.size)
  go_wp2
  go_ret
  exact ⟨rfl, B06⟩
theorem seg_at2 (w : World) (x y : Int) (hx : 0 ≤ x ∧ x < 18446744073709551616) (hy : 0 ≤ y ∧ y < 18446744073709551616) : Seg w.heap.size (w.alloc (.cells #[.int .u64 x, .int .u64 y] 41)) (.slice (some ⟨w.heap.size, 0, none⟩) 2 2) [x, y] := by
  refine ⟨Words.cons hx (Words.cons hy Words.nil), _, _, rfl, Nat.le_refl _, fun _ => ⟨_, 0, rfl, Nat.le_refl _, by simp, fun j hj => ?_, fun j _ => frozen_of_heap (World.alloc_heap_new w _) _⟩⟩
  rw [cell_of_heap (World.alloc_heap_new w _), Nat.zero_add]
  match j, hj with
  | 0, _ => rfl
  | 1, _ => rfl
theorem below_new (w : World) (o : Obj) : Below w.heap.size w (w.alloc o) := (Below.refl _ _).alloc (Nat.le_refl _) _
theorem ch_70_35 : chI 70 35 = 112186277816662845432 := by
  rw [show (35 : Int) = ((35 : Nat) : Int) from rfl, chI_in]
  have h := ch_fac (n := 70) (k := 35) (by omega)
  exact Nat.eq_of_mul_eq_mul_right (Nat.mul_pos (fac_pos 35) (fac_pos (70 - 35))) (h.trans (by decide +kernel))
theorem great_is {zs : List Int} (hw : Words zs) (hn : Norm zs) (h : Hid (val zs = (chI 70 35 : Nat))) : zs = [1505813374405535736, 6] := by
  refine norm_unique hw (Words.cons (by decide) (Words.cons (by decide) Words.nil)) hn (.inr (by simp)) ?_
  rw [h.out, ch_70_35]
  decide
set_option maxRecDepth 100000 in
set_option maxHeartbeats 8000000 in
theorem bknown_any (w : World) : Calls Try.prog 5 #[] w fun e w' => e = .returned (.bool true) ∧ Below w.heap.size w w' := by
  go_enter Try.func5, Try.ntmps5
  go_wp2_with fail
  refine (row_any 4 (by omega) w).mono ?_
  rintro e w1 ⟨g, vs, rfl, hvl, R, N, B⟩
  obtain ⟨v0, hu0⟩ : ∃ v, vs[0]? = some v := ⟨_, List.getElem?_eq_getElem (by omega)⟩
  obtain ⟨v1, hu1⟩ : ∃ v, vs[1]? = some v := ⟨_, List.getElem?_eq_getElem (by omega)⟩
  obtain ⟨v2, hu2⟩ : ∃ v, vs[2]? = some v := ⟨_, List.getElem?_eq_getElem (by omega)⟩
  obtain ⟨v3, hu3⟩ : ∃ v, vs[3]? = some v := ⟨_, List.getElem?_eq_getElem (by omega)⟩
  obtain ⟨v4, hu4⟩ : ∃ v, vs[4]? = some v := ⟨_, List.getElem?_eq_getElem (by omega)⟩
  have k0 := R.cell _ _ hu0
  have k1 := R.cell _ _ hu1
  have k2 := R.cell _ _ hu2
  have k3 := R.cell _ _ hu3
  have k4 := R.cell _ _ hu4
  obtain ⟨b0, o0, c0, z0, rfl, S0, N0, V0, l0, _⟩ := N.at_ _ _ hu0
  obtain ⟨b1, o1, c1, z1, rfl, S1, N1, V1, l1, _⟩ := N.at_ _ _ hu1
  obtain ⟨b2, o2, c2, z2, rfl, S2, N2, V2, l2, _⟩ := N.at_ _ _ hu2
  obtain ⟨b3, o3, c3, z3, rfl, S3, N3, V3, l3, _⟩ := N.at_ _ _ hu3
  obtain ⟨b4, o4, c4, z4, rfl, S4, N4, V4, l4, _⟩ := N.at_ _ _ hu4
  have hgl := R.lt
  clear R N hu0 hu1 hu2 hu3 hu4
  have hc := bis_yes S0 N0 1 (by decide) (show Hid (val z0 = 1) from V0.out) (by omega)
  go_wp2_with fail
  refine hc.mono ?_
  rintro e w2 ⟨rfl, hb⟩
  clear hc
  replace k0 := (hb.cell (p := ⟨g, _, none⟩) hgl).trans k0
  replace k1 := (hb.cell (p := ⟨g, _, none⟩) hgl).trans k1
  replace k2 := (hb.cell (p := ⟨g, _, none⟩) hgl).trans k2
  replace k3 := (hb.cell (p := ⟨g, _, none⟩) hgl).trans k3
  replace k4 := (hb.cell (p := ⟨g, _, none⟩) hgl).trans k4
  replace hgl := Nat.lt_of_lt_of_le hgl hb.size
  replace S0 := S0.below hb
  replace S1 := S1.below hb
  replace S2 := S2.below hb
  replace S3 := S3.below hb
  replace S4 := S4.below hb
  replace B := B.trans (hb.mono B.size)
  clear hb
  clear S0 N0 V0 l0 k0
  have hc := bis_yes S1 N1 4 (by decide) (show Hid (val z1 = 4) from V1.out) (by omega)
  go_wp2_with fail
  refine hc.mono ?_
  rintro e w3 ⟨rfl, hb⟩
  clear hc
  replace k1 := (hb.cell (p := ⟨g, _, none⟩) hgl).trans k1
  replace k2 := (hb.cell (p := ⟨g, _, none⟩) hgl).trans k2
  replace k3 := (hb.cell (p := ⟨g, _, none⟩) hgl).trans k3
  replace k4 := (hb.cell (p := ⟨g, _, none⟩) hgl).trans k4
  replace hgl := Nat.lt_of_lt_of_le hgl hb.size
  replace S1 := S1.below hb
  replace S2 := S2.below hb
  replace S3 := S3.below hb
  replace S4 := S4.below hb
  replace B := B.trans (hb.mono B.size)
  clear hb
  clear S1 N1 V1 l1 k1
  have hc := bis_yes S2 N2 6 (by decide) (show Hid (val z2 = 6) from V2.out) (by omega)
  go_wp2_with fail
  refine hc.mono ?_
  rintro e w4 ⟨rfl, hb⟩
  clear hc
  replace k2 := (hb.cell (p := ⟨g, _, none⟩) hgl).trans k2
  replace k3 := (hb.cell (p := ⟨g, _, none⟩) hgl).trans k3
  replace k4 := (hb.cell (p := ⟨g, _, none⟩) hgl).trans k4
  replace hgl := Nat.lt_of_lt_of_le hgl hb.size
  replace S2 := S2.below hb
  replace S3 := S3.below hb
  replace S4 := S4.below hb
  replace B := B.trans (hb.mono B.size)
  clear hb
  clear S2 N2 V2 l2 k2
  have hc := bis_yes S3 N3 4 (by decide) (show Hid (val z3 = 4) from V3.out) (by omega)
  go_wp2_with fail
  refine hc.mono ?_
  rintro e w5 ⟨rfl, hb⟩
  clear hc
  replace k3 := (hb.cell (p := ⟨g, _, none⟩) hgl).trans k3
  replace k4 := (hb.cell (p := ⟨g, _, none⟩) hgl).trans k4
  replace hgl := Nat.lt_of_lt_of_le hgl hb.size
  replace S3 := S3.below hb
  replace S4 := S4.below hb
  replace B := B.trans (hb.mono B.size)
  clear hb
  clear S3 N3 V3 l3 k3
  have hc := bis_yes S4 N4 1 (by decide) (show Hid (val z4 = 1) from V4.out) (by omega)
  go_wp2_with fail
  refine hc.mono ?_
  rintro e w6 ⟨rfl, hb⟩
  clear hc
  replace k4 := (hb.cell (p := ⟨g, _, none⟩) hgl).trans k4
  replace hgl := Nat.lt_of_lt_of_le hgl hb.size
  replace S4 := S4.below hb
  replace B := B.trans (hb.mono B.size)
  clear hb
  clear S4 N4 V4 l4 k4
  have hc := choose_no (-1) 0 (by omega) w6
  go_wp2_with fail
  refine hc.mono ?_
  rintro e w7 ⟨rfl, hb⟩
  clear hc
  replace B := B.trans (hb.mono B.size)
  clear hb
  have hc := falling_any 2 (by omega) 3 (by omega) w7
  go_wp2_with fail
  refine hc.mono ?_
  rintro e w8 ⟨aa, ca, za, rfl, Sa, Na, Va, la, hb⟩
  clear hc
  replace B := B.trans (hb.mono B.size)
  clear hb
  have hc := falling_any 7 (by omega) 0 (by omega) w8
  go_wp2_with fail
  refine hc.mono ?_
  rintro e w9 ⟨ab, cb, zb, rfl, Sb, Nb, Vb, lb, hb⟩
  clear hc
  replace Sa := Sa.below hb
  replace B := B.trans (hb.mono B.size)
  clear hb
  have hc := falling_no 7 (-1) (by omega) w9
  go_wp2_with fail
  refine hc.mono ?_
  rintro e w10 ⟨rfl, hb⟩
  clear hc
  replace Sa := Sa.below hb
  replace Sb := Sb.below hb
  replace B := B.trans (hb.mono B.size)
  clear hb
  have hc := count_lit [] [] 1 (Intz.nil 0 w10) rfl (by decide) (by decide) (by decide)
  go_wp2_with fail
  refine hc.mono ?_
  rintro e w11 ⟨ac, cc, zc, rfl, Sc, Nc, Vc, lc, hb⟩
  clear hc
  replace Sa := Sa.below hb
  replace Sb := Sb.below hb
  replace B := B.trans (hb.mono B.size)
  clear hb
  have q := below_new w11 (.cells #[.int .i64 3, .int .i64 0] 3)
  have hc := count_lit [3, 0] [3, 0] 1 (intz_at w11 [3, 0] (by unfold Nums; decide) _ rfl) rfl (by decide) (by decide) (by decide)
  go_wp2_with fail
  refine hc.mono ?_
  rintro e w12 ⟨ad, cd, zd, rfl, Sd, Nd, Vd, ld, hb⟩
  clear hc
  replace hb := q.trans (hb.mono q.size)
  clear q
  replace Sa := Sa.below hb
  replace Sb := Sb.below hb
  replace Sc := Sc.below hb
  replace B := B.trans (hb.mono B.size)
  clear hb
  have q := below_new w12 (.cells #[.int .i64 1, .int .i64 (-1)] 3)
  have hc := count_any none (intz_at w12 [1, -1] (by unfold Nums; decide) _ rfl) (Sizes.no [1] (by decide) (-1) (Or.inl (by decide)) []) (by decide)
  go_wp2_with fail
  refine hc.mono ?_
  rintro e w13 ⟨ae, ce, ze, rfl, Se, Ne, Ve, le, hb⟩
  clear hc
  replace hb := q.trans (hb.mono q.size)
  clear q
  replace Sa := Sa.below hb
  replace Sb := Sb.below hb
  replace Sc := Sc.below hb
  replace Sd := Sd.below hb
  replace B := B.trans (hb.mono B.size)
  clear hb
  have hc := choose_any 70 (by omega) 35 w13
  go_wp2_with fail
  refine hc.mono ?_
  rintro e w14 ⟨af, cf, zf, rfl, Sf, Nf, Vf, lf, hb⟩
  clear hc
  replace Sa := Sa.below hb
  replace Sb := Sb.below hb
  replace Sc := Sc.below hb
  replace Sd := Sd.below hb
  replace B := B.trans (hb.mono B.size)
  clear hb
  obtain rfl := great_is Sf.words Nf Vf
  have q := below_new w14 (.cells #[.int .u64 1505813374405535736, .int .u64 6] 41)
  replace Sa := Sa.below q
  replace Sb := Sb.below q
  replace Sc := Sc.below q
  replace Sd := Sd.below q
  replace Sf := Sf.below q
  replace B := B.trans (q.mono B.size)
  have Sw : Seg w14.heap.size (w14.alloc (.cells #[.int .u64 1505813374405535736, .int .u64 6] 41)) (.slice (some ⟨w14.heap.size, 0, none⟩) 2 2) [1505813374405535736, 6] := seg_at2 w14 1505813374405535736 6 (by decide) (by decide)
  clear q
  go_wp2_with fail
  obtain ⟨u, hname⟩ : ∃ u, w14.alloc (.cells #[.int .u64 1505813374405535736, .int .u64 6] 41) = u := ⟨_, rfl⟩
  rw [hname] at Sa Sb Sc Sd Sf Sw B ⊢
  clear hname
  refine (bawake_any u).mono ?_
  rintro e w15 ⟨rfl, hb⟩
  replace Sa := Sa.below hb
  replace Sb := Sb.below hb
  replace Sc := Sc.below hb
  replace Sd := Sd.below hb
  replace Sf := Sf.below hb
  replace Sw := Sw.below hb
  replace B := B.trans (hb.mono B.size)
  clear hb
  have hc := chosen_yes 5 (by omega) 6 0 rfl (by decide) w15
  go_wp2_with fail
  refine hc.mono ?_
  rintro e w16 ⟨rfl, hb⟩
  clear hc
  replace Sa := Sa.below hb
  replace Sb := Sb.below hb
  replace Sc := Sc.below hb
  replace Sd := Sd.below hb
  replace Sf := Sf.below hb
  replace Sw := Sw.below hb
  replace B := B.trans (hb.mono B.size)
  clear hb
  have hc := chosen_yes 5 (by omega) (-1) 0 rfl (by decide) w16
  go_wp2_with fail
  refine hc.mono ?_
  rintro e w17 ⟨rfl, hb⟩
  clear hc
  replace Sa := Sa.below hb
  replace Sb := Sb.below hb
  replace Sc := Sc.below hb
  replace Sd := Sd.below hb
  replace Sf := Sf.below hb
  replace Sw := Sw.below hb
  replace B := B.trans (hb.mono B.size)
  clear hb
  have hc := bis_yes Sa Na 0 (by decide) (show Hid (val za = 0) from Va.out) (by omega)
  go_wp2_with fail
  refine hc.mono ?_
  rintro e w18 ⟨rfl, hb⟩
  clear hc
  replace Sa := Sa.below hb
  replace Sb := Sb.below hb
  replace Sc := Sc.below hb
  replace Sd := Sd.below hb
  replace Sf := Sf.below hb
  replace Sw := Sw.below hb
  replace B := B.trans (hb.mono B.size)
  clear hb
  clear Sa Na Va la
  have hc := bis_yes Sb Nb 1 (by decide) (show Hid (val zb = 1) from Vb.out) (by omega)
  go_wp2_with fail
  refine hc.mono ?_
  rintro e w19 ⟨rfl, hb⟩
  clear hc
  replace Sb := Sb.below hb
  replace Sc := Sc.below hb
  replace Sd := Sd.below hb
  replace Sf := Sf.below hb
  replace Sw := Sw.below hb
  replace B := B.trans (hb.mono B.size)
  clear hb
  clear Sb Nb Vb lb
  have hc := bis_yes Sc Nc 1 (by decide) (show Hid (val zc = 1) from Vc.out) (by omega)
  go_wp2_with fail
  refine hc.mono ?_
  rintro e w20 ⟨rfl, hb⟩
  clear hc
  replace Sc := Sc.below hb
  replace Sd := Sd.below hb
  replace Sf := Sf.below hb
  replace Sw := Sw.below hb
  replace B := B.trans (hb.mono B.size)
  clear hb
  clear Sc Nc Vc lc
  have hc := bis_yes Sd Nd 1 (by decide) (show Hid (val zd = 1) from Vd.out) (by omega)
  go_wp2_with fail
  refine hc.mono ?_
  rintro e w21 ⟨rfl, hb⟩
  clear hc
  replace Sd := Sd.below hb
  replace Sf := Sf.below hb
  replace Sw := Sw.below hb
  replace B := B.trans (hb.mono B.size)
  clear hb
  clear Sd Nd Vd ld
  have hc := same_yes Sf Sw (by decide)
  go_wp2_with fail
  refine hc.mono ?_
  rintro e w22 ⟨rfl, hb⟩
  clear hc
  replace Sf := Sf.below hb
  replace Sw := Sw.below hb
  replace B := B.trans (hb.mono B.size)
  clear hb
  go_wp2
  go_ret
  exact ⟨rfl, B⟩
theorem tmod_in (x K : Int) (hK : 0 < K) : -K < x.tmod K ∧ x.tmod K < K := by
  by_cases h : 0 ≤ x
  · rw [Int.tmod_eq_emod_of_nonneg h]
    have := Int.emod_nonneg x (show K ≠ 0 by omega)
    have := Int.emod_lt_of_pos x hK
    omega
  · have e : x.tmod K = -((-x) % K) := by
      rw [show x = -(-x) by omega, Int.neg_tmod, Int.tmod_eq_emod_of_nonneg (by omega)]; simp
    rw [e]
    have := Int.emod_nonneg (-x) (show K ≠ 0 by omega)
    have := Int.emod_lt_of_pos (-x) hK
    omega
set_option maxRecDepth 100000 in
set_option maxHeartbeats 400000 in
theorem pick_gen (K : Int) (hK : 0 < K) (hK1 : K ≤ 1000) (x : Int) (w : World) :
    Calls Try.prog 23 #[.int .i64 x, .int .i64 K] w fun e w' => ∃ n : Nat, (n : Int) < K ∧ e = .returned (.int .i64 n) ∧ w' = w := by
  obtain ⟨h1, h2⟩ := tmod_in x K hK
  have h3 : ¬ K ≤ 0 := by omega
  have h4 : ¬ K = 0 := by omega
  by_cases h0 : x.tmod K < 0
  · go_enter Try.func23, Try.ntmps23
    go_wp2
    go_ret
    exact ⟨(x.tmod K + K).toNat, by omega, ret_int (by omega), rfl⟩
  · go_enter Try.func23, Try.ntmps23
    go_wp2
    go_ret
    exact ⟨(x.tmod K).toNat, by omega, ret_int (by omega), rfl⟩
theorem pascal_is {p q : Nat} (hq : q ≤ p + 1) : ch (p + 1) q = chI p q + chI p ((q : Int) - 1) := by
  rw [chI_in]
  cases q with
  | zero => rw [ch_zero, ch_zero, chI_below (by omega)]
  | succ q => rw [show (((q + 1 : Nat) : Int) - 1) = (q : Int) by omega, chI_in, ch_succ, Nat.add_comm]
set_option maxRecDepth 100000 in
set_option maxHeartbeats 4000000 in
theorem bpascal_any (n : Int) (_hn : -9223372036854775808 ≤ n ∧ n ≤ 9223372036854775807) (k : Int) (_hk : -9223372036854775808 ≤ k ∧ k ≤ 9223372036854775807) (w : World) :
    Calls Try.prog 6 #[.int .i64 n, .int .i64 k] w fun e w' => e = .returned (.bool true) ∧ Below w.heap.size w w' := by
  have hp := fun W => pick_gen 300 (by omega) (by omega) n W
  have hq := fun (K : Int) (hK : 0 < K) (hK1 : K ≤ 1000) W => pick_gen K hK hK1 k W
  go_enter Try.func6, Try.ntmps6
  go_wp2_with fail
  refine (bknown_any w).mono ?_
  rintro e w1 ⟨rfl, B⟩
  go_wp2_with fail
  refine (hp w1).mono ?_
  rintro e w2 ⟨p, hp3, rfl, hw2⟩
  obtain rfl : w1 = w2 := hw2.symm
  clear hw2 hp
  go_wp2_with fail
  obtain ⟨N, hN⟩ : ∃ N : Nat, (1 : Int) + (p : Int) = (N : Int) := ⟨p + 1, by omega⟩
  simp only [hN]
  have hNp : N = p + 1 := by omega
  have HNP := hide hNp
  have hN3 : (N : Int) ≤ 300 := by omega
  have hN1 : 1 ≤ (N : Int) := by omega
  clear hN hNp
  refine (hq _ (by omega) (by omega) w1).mono ?_
  rintro e w2 ⟨q, hqn, rfl, hw2⟩
  obtain rfl : w1 = w2 := hw2.symm
  clear hw2 hq
  have hqN : (q : Int) ≤ (N : Int) := by omega
  have e2 : ((N - q : Nat) : Int) = (N : Int) - (q : Int) := by omega
  have e3 : ((p : Nat) : Int) = (N : Int) - 1 := by have := HNP.out; omega
  have hc1 := fun W => choose_any N (by omega) (q : Int) W
  have hc2 := fun W => choose_any N (by omega) ((N : Int) - (q : Int)) W
  have hc3 := fun W => choose_any p (by omega) (q : Int) W
  have hc4 := fun W => choose_any p (by omega) ((q : Int) - 1) W
  rw [e3] at hc3 hc4
  have HP : Hid ((ch N q : Nat) = chI p q + chI p ((q : Int) - 1)) := by
    have := HNP.out
    subst this
    exact pascal_is (by omega)
  have HT : Hid (chI N ((N : Int) - (q : Int)) = ch N q) := by rw [Hid, ← e2, chI_in]; exact ch_turn (by omega)
  clear e2 e3 hp3 hqn
  go_wp2_with fail
  refine (hc1 _).mono ?_
  rintro e w2 ⟨a1, c1, z1, rfl, S1, N1, v1, l1, hb⟩
  have V1 : Hid (val z1 = (ch N q : Nat)) := by rw [Hid, v1.out, chI_in]
  replace B := B.trans (hb.mono B.size)
  clear v1 hc1 hb
  go_wp2_with fail
  refine (hc2 _).mono ?_
  rintro e w3 ⟨a2, c2, z2, rfl, S2, N2, V2, l2, hb⟩
  obtain rfl : z1 = z2 := norm_unique S1.words S2.words N1 N2 (by rw [V1.out, V2.out, HT.out])
  replace B := B.trans (hb.mono B.size)
  replace S1 := S1.below hb
  clear hc2 hb V2 N2 l2
  go_wp2_with fail
  refine (hc3 _).mono ?_
  rintro e w4 ⟨a3, c3, z3, rfl, S3, N3, V3, l3, hb⟩
  replace B := B.trans (hb.mono B.size)
  replace S1 := S1.below hb
  replace S2 := S2.below hb
  clear hc3 hb
  go_wp2_with fail
  refine (hc4 _).mono ?_
  rintro e w5 ⟨a4, c4, z4, rfl, S4, N4, V4, l4, hb⟩
  replace B := B.trans (hb.mono B.size)
  replace S1 := S1.below hb
  replace S2 := S2.below hb
  replace S3 := S3.below hb
  clear hc4 hb
  go_wp2_with fail
  refine (row_any N (by omega) _).mono ?_
  rintro e w6 ⟨g, vs, rfl, hvl, R, NN, hb⟩
  replace B := B.trans (hb.mono B.size)
  replace S1 := S1.below hb
  replace S2 := S2.below hb
  replace S3 := S3.below hb
  replace S4 := S4.below hb
  have HVL := hide hvl
  clear hb hvl
  have hs := same_yes S1 S2 (by omega)
  go_wp2_with fail
  refine hs.mono ?_
  rintro e w7 ⟨rfl, hb⟩
  replace B := B.trans (hb.mono B.size)
  replace S1 := S1.below hb
  replace S3 := S3.below hb
  replace S4 := S4.below hb
  replace R := R.below hb
  replace NN := NN.below hb
  clear hs S2 hb
  have hs := add_any S3 S4 (by omega) (by omega)
  go_wp2_with fail
  refine hs.mono ?_
  rintro e w8 ⟨a5, c5, z5, rfl, S5, N5, v5, l5, hb⟩
  obtain rfl : z1 = z5 := norm_unique S1.words S5.words N1 N5 (by rw [V1.out, v5, V3.out, V4.out, HP.out]; omega)
  replace B := B.trans (hb.mono B.size)
  replace S1 := S1.below hb
  replace R := R.below hb
  replace NN := NN.below hb
  clear hs S3 S4 hb v5
  have hs := same_yes S1 S5 (by omega)
  go_wp2_with fail
  refine hs.mono ?_
  rintro e w9 ⟨rfl, hb⟩
  replace B := B.trans (hb.mono B.size)
  replace S1 := S1.below hb
  replace R := R.below hb
  replace NN := NN.below hb
  clear hs S5 hb
  obtain ⟨u, hu⟩ : ∃ u, vs[q]? = some u := ⟨_, List.getElem?_eq_getElem (by have := HVL.out; omega)⟩
  have hcu := R.cell _ _ hu
  obtain ⟨bu, ou, cu, zu, rfl, Su, Nu, Vu, lu, _⟩ := NN.at_ _ _ hu
  obtain rfl : z1 = zu := norm_unique S1.words Su.words N1 Nu (by rw [V1.out, Vu.out])
  rw [Nat.zero_add] at hcu
  have hqL : (q : Int) < (N : Int) + 1 := by omega
  have hs := same_yes Su S1 (by omega)
  have HR := hide R
  have HN := hide NN
  clear hu R NN Vu
  go_wp2_with fail
  refine hs.mono ?_
  rintro e w10 ⟨rfl, hb⟩
  replace B := B.trans (hb.mono B.size)
  have HR2 := hide (HR.out.below hb)
  have HN2 := hide (HN.out.below hb)
  clear hs hcu HR HN hb
  go_wp2
  go_loopw [16, 17] (fun sum cnt wr => ∃ (j : Nat) (ao : Option Addr) (co : Nat) (ss : List Int), j ≤ N + 1 ∧ sum = .slice ao ss.length co ∧ cnt = .int .i64 j ∧ Seg 0 wr (.slice ao ss.length co) ss ∧ Norm ss ∧ Hid (val ss = (chs N j : Nat)) ∧ ss.length ≤ 16 + j ∧ Below w.heap.size w wr ∧ Below w10.heap.size w10 wr) (fun _ c _ => N + 2 - (intOf c).toNat)
  case atStart => exact ⟨0, none, 0, [], Nat.zero_le _, rfl, rfl, Seg.nil _ _, norm_nil, rfl, by simp, B, Below.refl _ _⟩
  case round =>
    obtain ⟨j, ao, co, ss, hj, rfl, rfl, hss, hns, HE, hsl, hbr, hb10⟩ := hrel
    by_cases hjN : j ≤ N
    · have hji : (j : Int) ≤ (N : Int) := by omega
      have hjL : (j : Int) < (N : Int) + 1 := by omega
      have hR := HR2.out.below hb10
      obtain ⟨u, hu⟩ : ∃ u, vs[j]? = some u := ⟨_, List.getElem?_eq_getElem (by have := HVL.out; omega)⟩
      have hcu := hR.cell _ _ hu
      obtain ⟨bu, ou, cu, zu, rfl, Su, Nu, Vu, lu, _⟩ := (HN2.out.below hb10).at_ _ _ hu
      rw [Nat.zero_add] at hcu
      have hs := add_any hss Su (by omega) (by omega)
      clear hu hR
      go_wp2_with fail
      refine hs.mono ?_
      rintro e w11 ⟨a6, c6, z6, rfl, S6, N6, v6, l6, hb⟩
      have V6 : Hid (val z6 = (chs N (j + 1) : Nat)) := by
        rw [Hid, v6, HE.out, Vu.out]
        show _ = ((chs N j + ch N j : Nat) : Int)
        omega
      have hbr' := hbr.trans (hb.mono hbr.size)
      have hb10' := hb10.trans (hb.mono hb10.size)
      have S6' := S6.mono (Nat.zero_le _)
      clear v6 hs hb hcu
      go_wp2
      exact ⟨⟨j + 1, a6, c6, z6, by omega, rfl, by go_num, S6', N6, V6, by omega, hbr', hb10'⟩, by simp [intOf]; omega⟩
    · obtain rfl : j = N + 1 := by omega
      have q1 := below_new wr (.cells #[.int .u64 1] 41)
      have S0 : Seg wr.heap.size (wr.alloc (.cells #[.int .u64 1] 41)) (.slice (some ⟨wr.heap.size, 0, none⟩) 1 1) [1] := by
        refine ⟨Words.cons (by decide) Words.nil, _, _, rfl, Nat.le_refl _, fun _ => ⟨_, 0, rfl, Nat.le_refl _, by simp, fun j hj => ?_, fun j _ => frozen_of_heap (World.alloc_heap_new wr _) _⟩⟩
        obtain rfl : j = 0 := by simpa using hj
        exact cell_of_heap (World.alloc_heap_new wr _) 0
      have hu := up_yes S0 (by simp) N (by omega) (by decide)
      have hss' := hss.below q1
      have hbr' := hbr.trans (q1.mono hbr.size)
      clear S0 q1 hss
      go_wp2_with fail
      refine hu.mono ?_
      rintro e w12 ⟨a7, c7, z7, rfl, S7, N7, v7, l7, hb⟩
      obtain rfl : ss = z7 := norm_unique hss'.words S7.words hns N7 (by
        rw [HE.out, v7, chs_whole, Int.natCast_pow]
        show _ = (1 + 18446744073709551616 * 0 : Int) * 2 ^ N
        simp)
      have hs := same_yes (hss'.below hb) S7 (by omega)
      have hbf := hbr'.trans (hb.mono hbr'.size)
      clear hu v7
      go_wp2_with fail
      refine hs.mono ?_
      rintro e w13 ⟨rfl, hb2⟩
      have hbg := hbf.trans (hb2.mono hbf.size)
      go_wp2
      go_ret
      exact ⟨rfl, hbg⟩
end Go.Proofs.Ytkehlclnljadjaa
