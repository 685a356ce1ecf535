/-
  Joined: Add NRow.
-/
import Derived.Test.YtkehlclnljadjaaJBare
import Derived.Test.YtkehlclnljadjaaJWiden
import Derived.Test.YtkehlclnljadjaaSmall
import Derived.Deep.RegionHeld3
import Derived.Deep.RegionWith
import Derived.Deep.LoopGhost
import Derived.Test.YtkehlclnljadjaaNLists
import Derived.Test.YtkehlclnljadjaaEnds
namespace Go.Proofs.Ytkehlclnljadjaa
open Go.RowKit
set_option maxRecDepth 100000 in
set_option maxHeartbeats 4000000 in
theorem add_any {lo lo' : Nat} {sa sb : Value} {xs ys : List Int} {w : World} (ha : Seg lo w sa xs) (hb : Seg lo' w sb ys) (hla : xs.length ≤ 10000) (hlb : ys.length ≤ 10000) :
    Calls Try.prog 24 #[sa, sb] w fun e w' => ∃ (a : Option Addr) (cap : Nat) (zs : List Int), e = .returned (.slice a zs.length cap) ∧ Seg w.heap.size w' (.slice a zs.length cap) zs ∧ Norm zs ∧ val zs = val xs + val ys ∧ zs.length ≤ max xs.length ys.length + 1 ∧ Below w.heap.size w w' := by
  go_enter Try.func24, Try.ntmps24
  go_wp2_with fail
  refine (bare_any ha (by omega)).mono ?_
  rintro e w1 ⟨a1, cap1, xs1, rfl, hs1, hn1, hv1, hl1, hb1⟩
  go_wp2_with fail
  refine (bare_any (hb.below hb1) (by omega)).mono ?_
  rintro e w2 ⟨a2, cap2, ys2, rfl, hs2, hn2, hv2, hl2, hb2⟩
  replace hs1 := hs1.below hb2
  have hb12 : Below w.heap.size w w2 := hb1.trans (hb2.mono hb1.size)
  have HV : Hid (val xs1 = val xs ∧ val ys2 = val ys) := ⟨hv1, hv2⟩
  clear hv1 hv2 hb2 hb1 ha hb
  by_cases hlt : xs1.length < ys2.length
  ·
    go_wp2_with fail
    rw [show ((ys2.length : Int) + 1) = ((ys2.length + 1 : Nat) : Int) by omega]
    refine (widen_any hs2 (ys2.length + 1) (by omega) (by omega)).mono ?_
    rintro e w3 ⟨a3, cap3, rfl, hs3, hb3⟩
    rw [Nat.add_sub_cancel_left] at hs3
    obtain ⟨g, off, rfl, hg1, hg2⟩ := hs3.row (by omega)
    have HT : Hid (val (ys2 ++ List.replicate 1 0) = val ys2) := by rw [Hid, val_append, val_zeros]; omega
    have hwx := hs2.words
    have hwy := hs1.words
    obtain ⟨n, hn⟩ : ∃ n, ys2.length = n := ⟨_, rfl⟩
    obtain ⟨m, hm⟩ : ∃ m, xs1.length = m := ⟨_, rfl⟩
    rw [hn] at hs3 ⊢
    rw [hm] at hs1 ⊢
    have hmn : m ≤ n := by omega
    have hn10 : n ≤ 10000 := by omega
    have hnl : n ≤ max xs.length ys.length := by omega
    have HN : Hid (ys2.length = n ∧ xs1.length = m) := ⟨hn, hm⟩
    clear hn hm hlt hl1 hl2
    go_wp2
    go_loopw [6, 7] (fun i c wr => ∃ (k : Nat) (cv : Int) (ss : List Int), k ≤ n + 1 ∧ i = .int .i64 k ∧ c = .int .u64 cv ∧ 0 ≤ cv ∧ cv ≤ 1 ∧ Seg w2.heap.size wr (.slice (some ⟨g, off, none⟩) (n + 1) cap3) ss ∧ Hid (val ss + pw k * (cv + val (xs1.drop k)) = val ys2 + val xs1) ∧ Below w2.heap.size w2 wr) (fun i _ _ => n + 2 - (intOf i).toNat)
    case atStart =>
      refine ⟨0, 0, _, Nat.zero_le _, rfl, rfl, by omega, by omega, hs3, ?_, hb3⟩
      rw [Hid, HT.out, pw_zero, List.drop_zero]; omega
    case round =>
      obtain ⟨k, cv, ss, hk, rfl, rfl, hc0, hc1, hss, HE, hbr⟩ := hrel
      have hsr := hs1.below hbr
      have HL := hide hss.len.1
      have hws := hss.words
      have hwk := hws.getD k
      have hyk := hwy.getD k
      by_cases hgo : k < m ∨ cv ≠ 0
      · have hkn : k ≤ n := add_room hwx hwy hws HN.out.1 HN.out.2 hmn hk hc0 hgo HE.out
        obtain ⟨hce, hfr⟩ := hss.cell (j := k) (by omega)
        have H1 := hide (add_step (ss := ss) (k := k) (by have := HL.out; omega) HE.out)
        have hki : (k : Int) < (n : Int) + 1 := by omega
        clear hws hwx hwy
        by_cases hkm : k < m
        · clear hgo
          go_wp2_with fail
          go_region_with
            (first
              | (go_at_call 39; refine (digit_any (by exact hsr) k).mono ?_; rintro e w' ⟨rfl, rfl⟩)
              | simp only [add64 _ _ _ hwk.1 hyk.1 hc0 hc1])
          all_goals
            go_wp2
            go_roundw
            case rel =>
              refine ⟨k + 1, _, _, by omega, by go_num, rfl, by omega, by omega, (hss.drew).set (k := k) (by have := HL.out; omega) ⟨by omega, by omega⟩, H1, ?_⟩
              exact hbr.drew.setCell (p := ⟨g, off + k, none⟩) hg1 _
            case measure => simp [intOf]; omega
        · have hcb : (cv != 0) = true := by have := hgo.resolve_left hkm; simpa using this
          clear hgo
          go_wp2_with fail
          go_region_with
            (first
              | (go_at_call 39; refine (digit_any (by exact hsr) k).mono ?_; rintro e w' ⟨rfl, rfl⟩)
              | simp only [add64 _ _ _ hwk.1 hyk.1 hc0 hc1])
          all_goals
            go_wp2
            go_roundw
            case rel =>
              refine ⟨k + 1, _, _, by omega, by go_num, rfl, by omega, by omega, (hss.drew).set (k := k) (by have := HL.out; omega) ⟨by omega, by omega⟩, H1, ?_⟩
              exact hbr.drew.setCell (p := ⟨g, off + k, none⟩) hg1 _
            case measure => simp [intOf]; omega
      · have hkm : ¬ k < m := fun h => hgo (.inl h)
        have hcz : cv = 0 := Classical.byContradiction fun h => hgo (.inr h)
        subst hcz
        clear hgo
        go_wp2_with fail
        have hss' : Seg w2.heap.size wr (.slice (some ⟨g, off, none⟩) (n + 1) cap3) ss := hss
        refine (bare_any hss' (by have := HL.out; omega)).mono ?_
        rintro e w4 ⟨a4, cap4, zs, rfl, hs4, hn4, hv4, hl4, hb4⟩
        have hfin : val zs = val xs + val ys := by
          have := HE.out
          rw [List.drop_eq_nil_of_le (by have := HN.out.2; omega), val_nil] at this
          have := HV.out
          omega
        have HF := hide hfin
        have HL4 : Hid (zs.length ≤ n + 1) := by have := HL.out; rw [Hid]; omega
        clear hfin hv4 hl4 hws hwx hwy
        go_wp2
        go_ret
        exact ⟨_, _, zs, rfl, hs4.mono hb12.size, hn4, HF.out, by have := HL4.out; omega, hb12.trans ((hbr.trans (hb4.mono hbr.size)).mono hb12.size)⟩
  ·
    go_wp2_with fail
    rw [show ((xs1.length : Int) + 1) = ((xs1.length + 1 : Nat) : Int) by omega]
    refine (widen_any hs1 (xs1.length + 1) (by omega) (by omega)).mono ?_
    rintro e w3 ⟨a3, cap3, rfl, hs3, hb3⟩
    rw [Nat.add_sub_cancel_left] at hs3
    obtain ⟨g, off, rfl, hg1, hg2⟩ := hs3.row (by omega)
    have HT : Hid (val (xs1 ++ List.replicate 1 0) = val xs1) := by rw [Hid, val_append, val_zeros]; omega
    have hwx := hs1.words
    have hwy := hs2.words
    obtain ⟨n, hn⟩ : ∃ n, xs1.length = n := ⟨_, rfl⟩
    obtain ⟨m, hm⟩ : ∃ m, ys2.length = m := ⟨_, rfl⟩
    rw [hn] at hs3 ⊢
    rw [hm] at hs2 ⊢
    have hmn : m ≤ n := by omega
    have hn10 : n ≤ 10000 := by omega
    have hnl : n ≤ max xs.length ys.length := by omega
    have HN : Hid (xs1.length = n ∧ ys2.length = m) := ⟨hn, hm⟩
    clear hn hm hlt hl1 hl2
    go_wp2
    go_loopw [6, 7] (fun i c wr => ∃ (k : Nat) (cv : Int) (ss : List Int), k ≤ n + 1 ∧ i = .int .i64 k ∧ c = .int .u64 cv ∧ 0 ≤ cv ∧ cv ≤ 1 ∧ Seg w2.heap.size wr (.slice (some ⟨g, off, none⟩) (n + 1) cap3) ss ∧ Hid (val ss + pw k * (cv + val (ys2.drop k)) = val xs1 + val ys2) ∧ Below w2.heap.size w2 wr) (fun i _ _ => n + 2 - (intOf i).toNat)
    case atStart =>
      refine ⟨0, 0, _, Nat.zero_le _, rfl, rfl, by omega, by omega, hs3, ?_, hb3⟩
      rw [Hid, HT.out, pw_zero, List.drop_zero]; omega
    case round =>
      obtain ⟨k, cv, ss, hk, rfl, rfl, hc0, hc1, hss, HE, hbr⟩ := hrel
      have hsr := hs2.below hbr
      have HL := hide hss.len.1
      have hws := hss.words
      have hwk := hws.getD k
      have hyk := hwy.getD k
      by_cases hgo : k < m ∨ cv ≠ 0
      · have hkn : k ≤ n := add_room hwx hwy hws HN.out.1 HN.out.2 hmn hk hc0 hgo HE.out
        obtain ⟨hce, hfr⟩ := hss.cell (j := k) (by omega)
        have H1 := hide (add_step (ss := ss) (k := k) (by have := HL.out; omega) HE.out)
        have hki : (k : Int) < (n : Int) + 1 := by omega
        clear hws hwx hwy
        by_cases hkm : k < m
        · clear hgo
          go_wp2_with fail
          go_region_with
            (first
              | (go_at_call 39; refine (digit_any (by exact hsr) k).mono ?_; rintro e w' ⟨rfl, rfl⟩)
              | simp only [add64 _ _ _ hwk.1 hyk.1 hc0 hc1])
          all_goals
            go_wp2
            go_roundw
            case rel =>
              refine ⟨k + 1, _, _, by omega, by go_num, rfl, by omega, by omega, (hss.drew).set (k := k) (by have := HL.out; omega) ⟨by omega, by omega⟩, H1, ?_⟩
              exact hbr.drew.setCell (p := ⟨g, off + k, none⟩) hg1 _
            case measure => simp [intOf]; omega
        · have hcb : (cv != 0) = true := by have := hgo.resolve_left hkm; simpa using this
          clear hgo
          go_wp2_with fail
          go_region_with
            (first
              | (go_at_call 39; refine (digit_any (by exact hsr) k).mono ?_; rintro e w' ⟨rfl, rfl⟩)
              | simp only [add64 _ _ _ hwk.1 hyk.1 hc0 hc1])
          all_goals
            go_wp2
            go_roundw
            case rel =>
              refine ⟨k + 1, _, _, by omega, by go_num, rfl, by omega, by omega, (hss.drew).set (k := k) (by have := HL.out; omega) ⟨by omega, by omega⟩, H1, ?_⟩
              exact hbr.drew.setCell (p := ⟨g, off + k, none⟩) hg1 _
            case measure => simp [intOf]; omega
      · have hkm : ¬ k < m := fun h => hgo (.inl h)
        have hcz : cv = 0 := Classical.byContradiction fun h => hgo (.inr h)
        subst hcz
        clear hgo
        go_wp2_with fail
        have hss' : Seg w2.heap.size wr (.slice (some ⟨g, off, none⟩) (n + 1) cap3) ss := hss
        refine (bare_any hss' (by have := HL.out; omega)).mono ?_
        rintro e w4 ⟨a4, cap4, zs, rfl, hs4, hn4, hv4, hl4, hb4⟩
        have hfin : val zs = val xs + val ys := by
          have := HE.out
          rw [List.drop_eq_nil_of_le (by have := HN.out.2; omega), val_nil] at this
          have := HV.out
          omega
        have HF := hide hfin
        have HL4 : Hid (zs.length ≤ n + 1) := by have := HL.out; rw [Hid]; omega
        clear hfin hv4 hl4 hws hwx hwy
        go_wp2
        go_ret
        exact ⟨_, _, zs, rfl, hs4.mono hb12.size, hn4, HF.out, by have := HL4.out; omega, hb12.trans ((hbr.trans (hb4.mono hbr.size)).mono hb12.size)⟩
theorem row_start {lo : Nat} {w W : World} {a : Option Addr} {c : Nat} {zs : List Int} {f : Nat → Int} (hB : Below lo w W) (hlo : lo ≤ W.heap.size) (S : Seg lo W (.slice a zs.length c) zs) (N : Norm zs) (hv : Hid (val zs = f 0)) (hx : 0 < f 0) (hp : f 0 < pw 16) :
    OwnN lo (W.alloc (.cells #[.slice a zs.length c] 25)) (.slice (some ⟨W.heap.size, 0, none⟩) 1 1) [.slice a zs.length c] ∧ Nats lo (W.alloc (.cells #[.slice a zs.length c] 25)) (some W.heap.size) [.slice a zs.length c] f ∧
      Below lo w (W.alloc (.cells #[.slice a zs.length c] 25)) := by
  have hb : Below W.heap.size W (W.alloc (.cells #[.slice a zs.length c] 25)) := (Below.refl _ _).alloc (Nat.le_refl _) _
  refine ⟨⟨rfl, .inr ⟨_, 1, #[.slice a zs.length c], rfl, hlo, World.alloc_heap_new W _, Nat.le_refl _, by unfold maxLen; omega, rfl, rfl⟩⟩, ⟨fun i v h => ?_, fun i v h => ?_, fun i j u v hu hv hij => ?_⟩, hB.alloc hlo _⟩
  · cases i with
    | zero =>
      obtain rfl : Value.slice a zs.length c = v := by simpa using h
      exact (natat_of S N hv hx hp).below hb
    | succ i => simp at h
  · cases i with
    | zero =>
      obtain rfl : Value.slice a zs.length c = v := by simpa using h
      obtain ⟨b, e, _, h2⟩ := (natat_of S N hv hx hp).block
      rw [e]
      intro e2
      injection e2 with e2
      omega
    | succ i => simp at h
  · have h1 := (List.getElem?_eq_some_iff.1 hu).1
    have h2 := (List.getElem?_eq_some_iff.1 hv).1
    simp at h1 h2
    omega
def duo (m j : Nat) : Int := if j ≤ m then (ch m j : Nat) else (ch (m + 1) (j - m - 1) : Nat)
end Go.Proofs.Ytkehlclnljadjaa
