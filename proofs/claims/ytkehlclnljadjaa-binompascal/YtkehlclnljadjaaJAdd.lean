/-
  Joined: Add NRow.
-/
import Derived.Test.YtkehlclnljadjaaJBare
import Derived.Test.YtkehlclnljadjaaJWiden
import Derived.Test.YtkehlclnljadjaaSmall
import Derived.Deep.RegionHeld3
import Derived.Deep.RegionWith
import Derived.Deep.LoopGhost
import Derived.Test.YtkehlclnljadjaaNLists
import Derived.Test.YtkehlclnljadjaaJEnds
namespace Go.Proofs.Ytkehlclnljadjaa
open Go.RowKit
set_option maxRecDepth 100000 in
set_option maxHeartbeats 4000000 in
theorem add_any {lo lo' : Nat} {sa sb : Value} {xs ys : List Int} {w : World} (ha : Seg lo w sa xs) (hb : Seg lo' w sb ys) (hla : xs.length ≤ 10000) (hlb : ys.length ≤ 10000) :
    Calls Try.prog 24 #[sa, sb] w fun e w' => ∃ (a : Option Addr) (cap : Nat) (zs : List Int), e = .returned (.slice a zs.length cap) ∧ Seg w.heap.size w' (.slice a zs.length cap) zs ∧ Norm zs ∧ val zs = val xs + val ys ∧ zs.length ≤ max xs.length ys.length + 1 ∧ Below w.heap.size w w' := by
  go_enter Try.func24, Try.ntmps24
  go_wp2_with fail
  refine (bare_any ha (by omega)).mono ?_
  rintro e w1 ⟨a1, cap1, xs1, rfl, hs1, hn1, hv1, hl1, hb1⟩
  go_wp2_with fail
  refine (bare_any (hb.below hb1) (by omega)).mono ?_
  rintro e w2 ⟨a2, cap2, ys2, rfl, hs2, hn2, hv2, hl2, hb2⟩
  replace hs1 := hs1.below hb2
  have hb12 : Below w.heap.size w w2 := hb1.trans (hb2.mono hb1.size)
  have HV : Hid (val xs1 = val xs ∧ val ys2 = val ys) := ⟨hv1, hv2⟩
  clear hv1 hv2 hb2 hb1 ha hb
  by_cases hlt : xs1.length < ys2.length
  ·
    go_wp2_with fail
    rw [show ((ys2.length : Int) + 1) = ((ys2.length + 1 : Nat) : Int) by omega]
    refine (widen_any hs2 (ys2.length + 1) (by omega) (by omega)).mono ?_
    rintro e w3 ⟨a3, cap3, rfl, hs3, hb3⟩
    rw [Nat.add_sub_cancel_left] at hs3
    obtain ⟨g, off, rfl, hg1, hg2⟩ := hs3.row (by omega)
    have HT : Hid (val (ys2 ++ List.replicate 1 0) = val ys2) := by rw [Hid, val_append, val_zeros]; omega
    have hwx := hs2.words
    have hwy := hs1.words
    obtain ⟨n, hn⟩ : ∃ n, ys2.length = n := ⟨_, rfl⟩
    obtain ⟨m, hm⟩ : ∃ m, xs1.length = m := ⟨_, rfl⟩
    rw [hn] at hs3 ⊢
    rw [hm] at hs1 ⊢
    have hmn : m ≤ n := by omega
    have hn10 : n ≤ 10000 := by omega
    have hnl : n ≤ max xs.length ys.length := by omega
    have HN : Hid (ys2.length = n ∧ xs1.length = m) := ⟨hn, hm⟩
    clear hn hm hlt hl1 hl2
    go_wp2
    go_loopw [6, 7] (fun i c wr => ∃ (k : Nat) (cv : Int) (ss : List Int), k ≤ n + 1 ∧ i = .int .i64 k ∧ c = .int .u64 cv ∧ 0 ≤ cv ∧ cv ≤ 1 ∧ Seg w2.heap.size wr (.slice (some ⟨g, off, none⟩) (n + 1) cap3) ss ∧ Hid (val ss + pw k * (cv + val (xs1.drop k)) = val ys2 + val xs1) ∧ Below w2.heap.size w2 wr) (fun i _ _ => n + 2 - (intOf i).toNat)
    case atStart =>
      refine ⟨0, 0, _, Nat.zero_le _, rfl, rfl, by omega, by omega, hs3, ?_, hb3⟩
      rw [Hid, HT.out, pw_zero, List.drop_zero]; omega
    case round =>
      obtain ⟨k, cv, ss, hk, rfl, rfl, hc0, hc1, hss, HE, hbr⟩ := hrel
      have hsr := hs1.below hbr
      have HL := hide hss.len.1
      have hws := hss.words
      have hwk := hws.getD k
      have hyk := hwy.getD k
      by_cases hgo : k < m ∨ cv ≠ 0
      · have hkn : k ≤ n := add_room hwx hwy hws HN.out.1 HN.out.2 hmn hk hc0 hgo HE.out
        obtain ⟨hce, hfr⟩ := hss.cell (j := k) (by omega)
        have H1 := hide (add_step (ss := ss) (k := k) (by have := HL.out; omega) HE.out)
        have hki : (k : Int) < (n : Int) + 1 := by omega
        clear hws hwx hwy
        by_cases hkm : k < m
        · clear hgo
          go_wp2_with fail
          go_region_with
            (first
              | (go_at_call 39; refine (digit_any (by exact hsr) k).mono ?_; rintro e w' ⟨rfl, rfl⟩)
              | simp only [add64 _ _ _ hwk.1 hyk.1 hc0 hc1])
          all_goals
            go_wp2
            go_roundw
            case rel =>
              refine ⟨k + 1, _, _, by omega, by go_num, rfl, by omega, by omega, (hss.drew).set (k := k) (by have := HL.out; omega) ⟨by omega, by omega⟩, H1, ?_⟩
              exact hbr.drew.setCell (p := ⟨g, off + k, none⟩) hg1 _
            case measure => simp [intOf]; omega
        · have hcb : (cv != 0) = true := by have := hgo.resolve_left hkm; simpa using this
          clear hgo
          go_wp2_with fail
          go_region_with
            (first
              | (go_at_call 39; refine (digit_any (by exact hsr) k).mono ?_; rintro e w' ⟨rfl, rfl⟩)
              | simp only [add64 _ _ _ hwk.1 hyk.1 hc0 hc1])
          all_goals
            go_wp2
            go_roundw
            case rel =>
              refine ⟨k + 1, _, _, by omega, by go_num, rfl, by omega, by omega, (hss.drew).set (k := k) (by have := HL.out; omega) ⟨by omega, by omega⟩, H1, ?_⟩
              exact hbr.drew.setCell (p := ⟨g, off + k, none⟩) hg1 _
            case measure => simp [intOf]; omega
      · have hkm : ¬ k < m := fun h => hgo (.inl h)
        have hcz : cv = 0 := Classical.byContradiction fun h => hgo (.inr h)
        subst hcz
        clear hgo
        go_wp2_with fail
        have hss' : Seg w2.heap.size wr (.slice (some ⟨g, off, none⟩) (n + 1) cap3) ss := hss
        refine (bare_any hss' (by have := HL.out; omega)).mono ?_
        rintro e w4 ⟨a4, cap4, zs, rfl, hs4, hn4, hv4, hl4, hb4⟩
        have hfin : val zs = val xs + val ys := by
          have := HE.out
          rw [List.drop_eq_nil_of_le (by have := HN.out.2; omega), val_nil] at this
          have := HV.out
          omega
        have HF := hide hfin
        have HL4 : Hid (zs.length ≤ n + 1) := by have := HL.out; rw [Hid]; omega
        clear hfin hv4 hl4 hws hwx hwy
        go_wp2
        go_ret
        exact ⟨_, _, zs, rfl, hs4.mono hb12.size, hn4, HF.out, by have := HL4.out; omega, hb12.trans ((hbr.trans (hb4.mono hbr.size)).mono hb12.size)⟩
  ·
    go_wp2_with fail
    rw [show ((xs1.length : Int) + 1) = ((xs1.length + 1 : Nat) : Int) by omega]
    refine (widen_any hs1 (xs1.length + 1) (by omega) (by omega)).mono ?_
    rintro e w3 ⟨a3, cap3, rfl, hs3, hb3⟩
    rw [Nat.add_sub_cancel_left] at hs3
    obtain ⟨g, off, rfl, hg1, hg2⟩ := hs3.row (by omega)
    have HT : Hid (val (xs1 ++ List.replicate 1 0) = val xs1) := by rw [Hid, val_append, val_zeros]; omega
    have hwx := hs1.words
    have hwy := hs2.words
    obtain ⟨n, hn⟩ : ∃ n, xs1.length = n := ⟨_, rfl⟩
    obtain ⟨m, hm⟩ : ∃ m, ys2.length = m := ⟨_, rfl⟩
    rw [hn] at hs3 ⊢
    rw [hm] at hs2 ⊢
    have hmn : m ≤ n := by omega
    have hn10 : n ≤ 10000 := by omega
    have hnl : n ≤ max xs.length ys.length := by omega
    have HN : Hid (xs1.length = n ∧ ys2.length = m) := ⟨hn, hm⟩
    clear hn hm hlt hl1 hl2
    go_wp2
    go_loopw [6, 7] (fun i c wr => ∃ (k : Nat) (cv : Int) (ss : List Int), k ≤ n + 1 ∧ i = .int .i64 k ∧ c = .int .u64 cv ∧ 0 ≤ cv ∧ cv ≤ 1 ∧ Seg w2.heap.size wr (.slice (some ⟨g, off, none⟩) (n + 1) cap3) ss ∧ Hid (val ss + pw k * (cv + val (ys2.drop k)) = val xs1 + val ys2) ∧ Below w2.heap.size w2 wr) (fun i _ _ => n + 2 - (intOf i).toNat)
    case atStart =>
      refine ⟨0, 0, _, Nat.zero_le _, rfl, rfl, by omega, by omega, hs3, ?_, hb3⟩
      rw [Hid, HT.out, pw_zero, List.drop_zero]; omega
    case round =>
      obtain ⟨k, cv, ss, hk, rfl, rfl, hc0, hc1, hss, HE, hbr⟩ := hrel
      have hsr := hs2.below hbr
      have HL := hide hss.len.1
      have hws := hss.words
      have hwk := hws.getD k
      have hyk := hwy.getD k
      by_cases hgo : k < m ∨ cv ≠ 0
      · have hkn : k ≤ n := add_room hwx hwy hws HN.out.1 HN.out.2 hmn hk hc0 hgo HE.out
        obtain ⟨hce, hfr⟩ := hss.cell (j := k) (by omega)
        have H1 := hide (add_step (ss := ss) (k := k) (by have := HL.out; omega) HE.out)
        have hki : (k : Int) < (n : Int) + 1 := by omega
        clear hws hwx hwy
        by_cases hkm : k < m
        · clear hgo
          go_wp2_with fail
          go_region_with
            (first
              | (go_at_call 39; refine (digit_any (by exact hsr) k).mono ?_; rintro e w' ⟨rfl, rfl⟩)
              | simp only [add64 _ _ _ hwk.1 hyk.1 hc0 hc1])
          all_goals
            go_wp2
            go_roundw
            case rel =>
              refine ⟨k + 1, _, _, by omega, by go_num, rfl, by omega, by omega, (hss.drew).set (k := k) (by have := HL.out; omega) ⟨by omega, by omega⟩, H1, ?_⟩
              exact hbr.drew.setCell (p := ⟨g, off + k, none⟩) hg1 _
            case measure => simp [intOf]; omega
        · have hcb : (cv != 0) = true := by have := hgo.resolve_left hkm; simpa using this
          clear hgo
          go_wp2_with fail
          go_region_with
            (first
              | (go_at_call 39; refine (digit_any (by exact hsr) k).mono ?_; rintro e w' ⟨rfl, rfl⟩)
              | simp only [add64 _ _ _ hwk.1 hyk.1 hc0 hc1])
          all_goals
            go_wp2
            go_roundw
            case rel =>
              refine ⟨k + 1, _, _, by omega, by go_num, rfl, by omega, by omega, (hss.drew).set (k := k) (by have := HL.out; omega) ⟨by omega, by omega⟩, H1, ?_⟩
              exact hbr.drew.setCell (p := ⟨g, off + k, none⟩) hg1 _
            case measure => simp [intOf]; omega
      · have hkm : ¬ k < m := fun h => hgo (.inl h)
        have hcz : cv = 0 := Classical.byContradiction fun h => hgo (.inr h)
        subst hcz
        clear hgo
        go_wp2_with fail
        have hss' : Seg w2.heap.size wr (.slice (some ⟨g, off, none⟩) (n + 1) cap3) ss := hss
        refine (bare_any hss' (by have := HL.out; omega)).mono ?_
        rintro e w4 ⟨a4, cap4, zs, rfl, hs4, hn4, hv4, hl4, hb4⟩
        have hfin : val zs = val xs + val ys := by
          have := HE.out
          rw [List.drop_eq_nil_of_le (by have := HN.out.2; omega), val_nil] at this
          have := HV.out
          omega
        have HF := hide hfin
        have HL4 : Hid (zs.length ≤ n + 1) := by have := HL.out; rw [Hid]; omega
        clear hfin hv4 hl4 hws hwx hwy
        go_wp2
        go_ret
        exact ⟨_, _, zs, rfl, hs4.mono hb12.size, hn4, HF.out, by have := HL4.out; omega, hb12.trans ((hbr.trans (hb4.mono hbr.size)).mono hb12.size)⟩
set_option maxRecDepth 100000 in
theorem clip_any (g n cap : Nat) (hn : n ≤ cap) (hc : n ≤ 1000000) (w : World) :
    Calls Try.prog 32 #[.slice (some ⟨g, 0, none⟩) n cap] w fun e w' => e = .returned (.slice (some ⟨g, 0, none⟩) n n) ∧ w' = w := by
  have h1 : (n : Int) ≤ (cap : Int) := by omega
  have h2 : (n : Int) ≤ 9223372036854775807 := by omega
  go_enter Try.func32, Try.ntmps32
  go_wp2
  go_ret
  exact ⟨rfl, rfl⟩
theorem row_start {lo : Nat} {w W : World} {a : Option Addr} {c : Nat} {zs : List Int} {f : Nat → Int} (hB : Below lo w W) (hlo : lo ≤ W.heap.size) (S : Seg lo W (.slice a zs.length c) zs) (N : Norm zs) (hv : Hid (val zs = f 0)) (hx : 0 < f 0) (hp : f 0 < pw 16) :
    OwnN lo (W.alloc (.cells #[.slice a zs.length c] 25)) (.slice (some ⟨W.heap.size, 0, none⟩) 1 1) [.slice a zs.length c] ∧ Nats lo (W.alloc (.cells #[.slice a zs.length c] 25)) (some W.heap.size) [.slice a zs.length c] f ∧
      Below lo w (W.alloc (.cells #[.slice a zs.length c] 25)) := by
  have hb : Below W.heap.size W (W.alloc (.cells #[.slice a zs.length c] 25)) := (Below.refl _ _).alloc (Nat.le_refl _) _
  refine ⟨⟨rfl, .inr ⟨_, 1, #[.slice a zs.length c], rfl, hlo, World.alloc_heap_new W _, Nat.le_refl _, by unfold maxLen; omega, rfl, rfl⟩⟩, ⟨fun i v h => ?_, fun i v h => ?_, fun i j u v hu hv hij => ?_⟩, hB.alloc hlo _⟩
  · cases i with
    | zero =>
      obtain rfl : Value.slice a zs.length c = v := by simpa using h
      exact (natat_of S N hv hx hp).below hb
    | succ i => simp at h
  · cases i with
    | zero =>
      obtain rfl : Value.slice a zs.length c = v := by simpa using h
      obtain ⟨b, e, _, h2⟩ := (natat_of S N hv hx hp).block
      rw [e]
      intro e2
      injection e2 with e2
      omega
    | succ i => simp at h
  · have h1 := (List.getElem?_eq_some_iff.1 hu).1
    have h2 := (List.getElem?_eq_some_iff.1 hv).1
    simp at h1 h2
    omega
def duo (m j : Nat) : Int := if j ≤ m then (ch m j : Nat) else (ch (m + 1) (j - m - 1) : Nat)
theorem duo_low {m j : Nat} (h : j ≤ m) : duo m j = (ch m j : Nat) := by unfold duo; rw [if_pos h]
theorem duo_high (m j : Nat) : duo m (m + 1 + j) = (ch (m + 1) j : Nat) := by unfold duo; rw [if_neg (by omega), show m + 1 + j - m - 1 = j by omega]
theorem duo_next {m j : Nat} (h : j < m) : duo m j + duo m (j + 1) = duo m (m + 1 + 1 + j) := by
  rw [duo_low (by omega), duo_low (by omega), show m + 1 + 1 + j = m + 1 + (j + 1) by omega, duo_high, ch_succ]; omega
theorem duo_pos {m j : Nat} (h : j ≤ 2 * m + 2) : 0 < duo m j := by
  unfold duo
  split
  · have := ch_pos (n := m) (k := j) (by omega); omega
  · have := ch_pos (n := m + 1) (k := j - m - 1) (by omega); omega
theorem duo_fits {m j : Nat} (h : m ≤ 1000) : duo m j < pw 16 := by
  unfold duo
  split
  · exact ch_pw _ _ (by omega)
  · exact ch_pw _ _ (by omega)
set_option maxRecDepth 100000 in
set_option maxHeartbeats 4000000 in
theorem row_any (n : Nat) (hn : n ≤ 300) (w : World) :
    Calls Try.prog 13 #[.int .i64 n] w fun e w' => ∃ (g : Nat) (vs : List Value), e = .returned (.tuple #[.slice (some ⟨g, 0, none⟩) (n + 1) (n + 1), .int .i64 0]) ∧ vs.length = n + 1 ∧ Rowz w.heap.size w' g vs ∧ Nats w.heap.size w' (some g) vs (fun i => (ch n i : Nat)) ∧ Below w.heap.size w w' := by
  have hn0 : ¬ (n : Int) < 0 := by omega
  have hn1 : ¬ (1024 : Int) < (n : Int) := by omega
  have one : ∀ W : World, Calls Try.prog 31 #[.int .u64 1] W fun e w' => ∃ (a : Option Addr) (cap : Nat) (ts : List Int), e = .returned (.slice a ts.length cap) ∧ Seg W.heap.size w' (.slice a ts.length cap) ts ∧ Norm ts ∧ Hid (val ts = 1) ∧ Below W.heap.size W w' := fun W =>
    (of_any 1 (by omega) W).mono fun e w' ⟨a, c, ts, e1, s1, n1, v1, _, b1⟩ => ⟨a, c, ts, e1, s1, n1, v1, b1⟩
  go_enter Try.func13, Try.ntmps13
  go_wp2_with fail
  refine (one _).mono ?_
  rintro e w1 ⟨a1, c1, us, rfl, S1, N1, V1, hb1⟩
  obtain ⟨hO, hN, hB⟩ := row_start (f := fun i => (ch 0 i : Nat)) hb1 hb1.size S1 N1 (by rw [Hid, V1.out]; rfl) (by decide) (by show ((ch 0 0 : Nat) : Int) < _; exact ch_pw _ _ (by omega))
  have hO1 := hide hO
  have hN1 := hide hN
  have hB1 := hide hB
  clear hO hN hB S1 N1 V1
  go_wp2
  go_loopw [4, 16] (fun row cnt wr => ∃ (m g cap : Nat) (vs : List Value), m ≤ n ∧ row = .slice (some ⟨g, 0, none⟩) (m + 1) cap ∧ cnt = .int .i64 m ∧ Hid (OwnN w.heap.size wr (.slice (some ⟨g, 0, none⟩) (m + 1) cap) vs) ∧ vs.length = m + 1 ∧ Hid (Nats w.heap.size wr (some g) vs (fun i => (ch m i : Nat))) ∧ Below w.heap.size w wr) (fun _ c _ => n + 1 - (intOf c).toNat)
  case atStart => exact ⟨0, _, 1, _, Nat.zero_le _, rfl, rfl, hO1, rfl, hN1, hB1.out⟩
  case round =>
    obtain ⟨m, g, cap, vs, hm, rfl, rfl, HO, hvl, HN, hB⟩ := hrel
    have hsz := hB.size
    by_cases hmn : m < n
    · have hmi : (m : Int) < (n : Int) := by omega
      go_wp2_with fail
      refine (one wr).mono ?_
      rintro e w2 ⟨a2, c2, z2, rfl, S2, N2, V2, hb2⟩
      have hN := HN.out.congr (duo m) (fun i hi => (duo_low (by omega)).symm)
      obtain ⟨g3, cap3, w3, hap, hO3, hN3, hB3, hs3⟩ := row_push HO.out hN hB hsz hb2 S2 N2 (by rw [Hid, V2.out, hvl, show m + 1 = m + 1 + 0 from rfl, duo_high, ch_zero]; rfl) (duo_pos (by omega)) (duo_fits (by omega)) (by omega)
      rw [hvl] at hap hO3
      have HO3 := hide hO3
      have HN3 := hide hN3
      have hvl3 : (vs ++ [Value.slice a2 z2.length c2]).length = m + 1 + 1 + 0 := by simp [hvl]
      generalize vs ++ [Value.slice a2 z2.length c2] = vs3 at *
      clear hO3 hN3 hN HN HO S2 N2 V2
      go_wp2_with (at_builtin; refine Lib.wpList_append_run _ rfl _ _ _ _ rfl _ _ rfl rfl _ _ hap ?_)
      clear hap
      go_loopw [4, 24] (fun row cnt wr => ∃ (j g cap : Nat) (vs : List Value), j ≤ m ∧ row = .slice (some ⟨g, 0, none⟩) (m + 1 + 1 + j) cap ∧ cnt = .int .i64 j ∧ Hid (OwnN w.heap.size wr (.slice (some ⟨g, 0, none⟩) (m + 1 + 1 + j) cap) vs) ∧ vs.length = m + 1 + 1 + j ∧ Hid (Nats w.heap.size wr (some g) vs (duo m)) ∧ Below w.heap.size w wr) (fun _ c _ => m + 1 - (intOf c).toNat)
      case atStart => exact ⟨0, _, _, _, Nat.zero_le _, rfl, rfl, HO3, hvl3, HN3, hB3⟩
      case round =>
        obtain ⟨j, g4, cap4, vs4, hj, rfl, rfl, HO4, hvl4, HN4, hB4⟩ := hrel
        have hsz4 := hB4.size
        by_cases hjm : j < m
        · have hji : (j : Int) < (m : Int) := by omega
          obtain ⟨hR, _, hcap⟩ := HO4.out.rowz
          obtain ⟨u, hu⟩ : ∃ u, vs4[j]? = some u := ⟨_, List.getElem?_eq_getElem (by omega)⟩
          obtain ⟨v, hv⟩ : ∃ v, vs4[j + 1]? = some v := ⟨_, List.getElem?_eq_getElem (by omega)⟩
          have hcu := hR.cell _ _ hu
          have hcv := hR.cell _ _ hv
          obtain ⟨bu, ou, cu, zu, rfl, Su, Nu, Vu, lu, _⟩ := HN4.out.at_ _ _ hu
          obtain ⟨bv, ov, cv, zv, rfl, Sv, Nv, Vv, lv, _⟩ := HN4.out.at_ _ _ hv
          have hadd := add_any Su.drew Sv.drew (by omega) (by omega)
          obtain ⟨L, hL⟩ : ∃ L, m + 1 + 1 + j = L := ⟨_, rfl⟩
          have HL := hide hL
          have hjL : (j : Int) < (L : Int) := by omega
          have hjL1 : (j : Int) + 1 < (L : Int) := by omega
          have hjn : ((j : Int) + 1).toNat = j + 1 := by omega
          have hjw : IntKind.i64.wrap ((j : Int) + 1) = (j : Int) + 1 := small64 _ (by omega) (by omega)
          have hj0 : 0 ≤ (j : Int) + 1 := by omega
          have hcu' : wr.drew.cell? ⟨g4, 0 + j, none⟩ = _ := hcu
          have hcv' : wr.drew.cell? ⟨g4, 0 + (j + 1), none⟩ = _ := hcv
          rw [Nat.zero_add] at hcu' hcv'
          rw [hL] at HO4 ⊢
          clear hL
          go_wp2_with fail
          go_region_law (first
            | (go_simp
               go_at_call 24
               refine hadd.mono ?_
               rintro e w5 ⟨a5, c5, z5, rfl, S5, N5, V5, l5, hb5⟩
               have hb5' : Below wr.heap.size wr w5 := (Below.refl _ wr).drew.trans hb5
               obtain ⟨g6, cap6, w6, hap, hO6, hN6, hB6, hs6⟩ := row_push HO4.out HN4.out hB4 hsz4 hb5' S5 N5 (by rw [Hid, V5, Vu.out, Vv.out, hvl4]; exact duo_next hjm) (duo_pos (by omega)) (duo_fits (by omega)) (by omega)
               rw [hvl4, HL.out] at hap hO6
               clear V5
               dsimp only)
            | (refine step_append_run rfl _ _ _ _ rfl _ _ rfl rfl _ _ hap ?_
               clear hap))
          all_goals
            have HO6 : Hid (OwnN w.heap.size w6 (.slice (some ⟨g6, 0, none⟩) (m + 1 + 1 + (j + 1)) cap6) (vs4 ++ [Value.slice a5 z5.length c5])) := by
              have := HL.out
              rw [Hid, show m + 1 + 1 + (j + 1) = L + 1 by omega]; exact hO6
            have HN6 := hide hN6
            have hvl6 : (vs4 ++ [Value.slice a5 z5.length c5]).length = m + 1 + 1 + (j + 1) := by
              have := HL.out
              simp; omega
            generalize vs4 ++ [Value.slice a5 z5.length c5] = vs6 at *
            clear hO6 hN6 hcu hcv hcu' hcv' hu hv HN4 HO4 hR S5 N5 Su Sv Vu Vv
            go_wp2
            go_roundw
            case rel => exact ⟨j + 1, g6, cap6, vs6, by omega, by have := HL.out; rw [show m + 1 + 1 + (j + 1) = L + 1 by omega], by go_num, HO6, hvl6, HN6, hB6⟩
            case measure => simp [intOf]; omega
        · obtain rfl : j = m := by omega
          go_wp2_with fail
          refine (one wr).mono ?_
          rintro e w7 ⟨a7, c7, z7, rfl, S7, N7, V7, hb7⟩
          obtain ⟨g8, cap8, w8, hap, hO8, hN8, hB8, hs8⟩ := row_push HO4.out HN4.out hB4 hsz4 hb7 S7 N7 (by rw [Hid, V7.out, hvl4, show j + 1 + 1 + j = j + 1 + (j + 1) by omega, duo_high, ch_self]; rfl) (duo_pos (by omega)) (duo_fits (by omega)) (by omega)
          rw [hvl4] at hap hO8
          have hvl8 : (vs4 ++ [Value.slice a7 z7.length c7]).length = j + 1 + 1 + j + 1 := by simp [hvl4]
          generalize vs4 ++ [Value.slice a7 z7.length c7] = vs8 at *
          obtain ⟨w9, hcp, hO9, hN9, hB9, hsz9, hle9⟩ := row_shift (j + 1 + 1 + j + 1) hvl8 hO8 hN8 hB8 (j + 1) (j + 2) (cap8 - (j + 1)) (by omega) (fun i => (ch (j + 1) i : Nat)) (fun i hi => duo_high j i)
          have HO9 := hide hO9
          have HN9 := hide hN9
          clear hO9 hN9 hO8 hN8 HO4 HN4 S7 N7 V7
          go_wp2_with (at_builtin; refine Lib.wpList_append_run _ rfl _ _ _ _ rfl _ _ rfl rfl _ _ hap ?_)
          go_wp2_with fail
          exact ⟨⟨j + 1, g8, cap8, vs8.drop (j + 1), by omega, rfl, by go_num, HO9, by simp [hvl8], HN9, hB9⟩, by simp [intOf]; omega⟩
    · obtain rfl : m = n := by omega
      obtain ⟨hR, _, hcap⟩ := HO.out.rowz
      have hcl := clip_any g (m + 1) cap hcap (by omega) wr
      have hRr := hide hR
      clear hR
      go_wp2_with fail
      refine hcl.mono ?_
      rintro e w9 ⟨rfl, rfl⟩
      go_wp2
      go_ret2
      exact ⟨_, vs, rfl, hvl, hRr.out, HN.out, hB⟩
end Go.Proofs.Ytkehlclnljadjaa
