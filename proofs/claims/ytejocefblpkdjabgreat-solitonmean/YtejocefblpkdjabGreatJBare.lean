/-
  Joined: Bare BackFeed.
-/
import Derived.Test.YtejocefblpkdjabGreatSeg
import Derived.RangeFuncNested
import Derived.RangeFuncBound
import Derived.RangeFuncCalls
import Derived.RangeFuncLeaves
import Derived.RangeFuncBox
import Derived.Shelf.Abstract
import Derived.OwnWalkIn
import Derived.TacticsInMore
import Derived.LoopNIn
import Derived.LoopIn
import Derived.Test.YtejocefblpkdjabGreatFeeds
namespace Go.Proofs.YtejocefblpkdjabGreat
open Go.RowKit Go.Shelf
attribute [local go_sem] Oper.semAt_some
def upto (len k : Nat) : List Nat := (List.range k).map fun j => len - 1 - j
theorem upto_succ (len k : Nat) : upto len (k + 1) = upto len k ++ [len - 1 - k] := by simp [upto, List.range_succ]
theorem upto_length (len k : Nat) : (upto len k).length = k := by simp [upto]
abbrev Place (len : Nat) := { j : Nat // j < len }
theorem upto_mem {len k j : Nat} (hk : k ≤ len) : j ∈ upto len k ↔ len - k ≤ j ∧ j < len := by
  simp only [upto, List.mem_map, List.mem_range]
  constructor
  · rintro ⟨i, hi, rfl⟩; omega
  · rintro ⟨h1, h2⟩; exact ⟨len - 1 - j, by omega, by omega⟩
set_option maxRecDepth 100000 in
set_option maxHeartbeats 2000000 in
theorem backward1_in (F : Fence) (n : Nat) (h8 : F.fn 69) (hro : F.round = none) (hn : 1 ≤ n) (l Bs n₀ : Nat) (a : Option Addr) (len cap : Nat) (zs : List Int) (hreach : len ≤ 1000000) (J Jx : List (Place len) → World → Prop)
    (hY : ∀ pre (x : Place len) W, J pre W → pre.length < len → YieldAt F (n - 1) Tryz.prog l #[.int .i64 (x.1 : Int), .int .u64 (zs[x.1]?.getD 0)] W fun e W' =>
      (e = .returned (.bool true) ∧ J (pre ++ [x]) W' ∧ Below n₀ W W') ∨ (e = .returned (.bool false) ∧ Jx (pre ++ [x]) W'))
    (W : World) (hB : Bs < n₀) (hBs : W.cell? ⟨Bs, 0, none⟩ = some (.slice a len cap)) (hc : 0 < len → ∃ b off, a = some ⟨b, off, none⟩ ∧ b < n₀ ∧ ∀ j, j < len → W.cell? ⟨b, off + j, none⟩ = some (.int .u64 (zs[j]?.getD 0))) (h0 : J [] W) :
    CallsIn F n Tryz.prog 69 #[.func (.yield l) #[] #[], .pointer (some ⟨Bs, 0, none⟩)] W fun e W' => (∃ v, e = .returned v) ∧
      ((∃ ys, ys.map (·.1) = upto len len ∧ J ys W') ∨ (∃ pre, (∃ k, k ≤ len ∧ pre.map (·.1) = upto len k) ∧ Jx pre W')) := by
  refine callsIn_of_wp Tryz.func69 rfl h8 ?_ hro
  simp only [Tryz.ntmps69, List.size_toArray, List.length_cons, List.length_nil, Nat.reduceAdd, Nat.reduceSub, Array.replicate_succ, Array.replicate_zero, List.push_toArray, List.append_toArray, List.nil_append, List.cons_append]
  gi_wp2
  gi_loopw [3] (fun i wr => ∃ (k : Nat) (pre : List (Place len)), k ≤ len ∧ i = .int .i64 ((len : Int) - 1 - k) ∧ pre.map (·.1) = upto len k ∧ J pre wr ∧ Below n₀ W wr)
    (fun i _ => (intOf i + 1).toNat)
  case atStart => exact ⟨0, [], Nat.zero_le _, by simp, rfl, h0, Below.refl _ _⟩
  case round =>
    obtain ⟨k, pre, hk, rfl, hpre, hJs, hnx⟩ := hrel
    have hbs := (hnx.cell (p := ⟨Bs, 0, none⟩) hB).trans hBs
    have Hpre : Hid (pre.map (·.1) = upto len k) := hpre
    have hpl : pre.length = k := by have := congrArg List.length hpre; rwa [List.length_map, upto_length] at this
    by_cases hlt : k < len
    · obtain ⟨b, off, rfl, hb, hcs⟩ := hc (by omega)
      obtain ⟨m, hm⟩ : ∃ m, len = k + 1 + m := ⟨len - 1 - k, by omega⟩
      have hcx : wr.cell? ⟨b, off + m, none⟩ = some (.int .u64 (zs[m]?.getD 0)) := (hnx.cell (p := ⟨b, off + m, none⟩) hb).trans (hcs m (by omega))
      have hml : m < len := by omega
      obtain ⟨fn, tmps, assign, body, hy, hR⟩ := hY pre ⟨m, hml⟩ wr hJs (by omega)
      dsimp only at hy
      have hi : ((len : Int) - 1 - k) = m := by omega
      rw [hi]
      have Hm : Hid (len = k + 1 + m) := hm
      have Hpl : Hid (pre.length = k) := hpl
      clear hi hm hpre hpl
      gi_wp2
      refine hR.mono ?_
      rintro e W3 (⟨rfl, hJ3, hk3⟩ | ⟨rfl, hJx3⟩)
      · gi_wp2
        go_roundw
        case rel =>
          have := Hm.out
          exact ⟨k + 1, pre ++ [⟨m, hml⟩], by omega, by congr 1; omega, by rw [List.map_append, Hpre.out, upto_succ]; simp; omega, hJ3, hnx.trans hk3⟩
        case measure => simp [intOf]
      · gi_wp2
        refine bodyPost_ret (results_none rfl _ _ _) rfl ?_
        have := Hm.out
        exact ⟨⟨_, rfl⟩, .inr ⟨_, ⟨k + 1, by omega, by rw [List.map_append, Hpre.out, upto_succ]; simp; omega⟩, hJx3⟩⟩
    · have hkl : k = len := by omega
      clear hpre hpl
      subst hkl
      rw [show ((k : Int) - 1 - k) = -1 by omega]
      gi_wp2
      go_end0
      exact ⟨⟨_, rfl⟩, .inl ⟨pre, Hpre.out, hJs⟩⟩
set_option maxHeartbeats 1000000 in
theorem backward_in (F : Fence) (n : Nat) (h6 : F.fn 55) (hro : F.round = none) (a : Option Addr) (len cap : Nat) (w : World) :
    CallsIn F n Tryz.prog 55 #[.slice a len cap] w fun e w' => e = .returned (.func (.func 69) #[] #[.pointer (some ⟨w.heap.size, 0, none⟩)]) ∧ w' = w.alloc (.cells #[.slice a len cap] 27) := by
  refine callsIn_of_wp Tryz.func55 rfl h6 ?_ hro
  simp only [Tryz.ntmps55, List.size_toArray, List.length_cons, List.length_nil, Nat.reduceAdd, Nat.reduceSub, Array.replicate_succ, Array.replicate_zero, List.push_toArray, List.append_toArray, List.nil_append, List.cons_append]
  gi_wp2
  go_ret
  exact ⟨rfl, rfl⟩
theorem backward_stops (F : Fence) (n : Nat) (h8 : F.fn 69) (hro : F.round = none) (hn : 1 ≤ n) (Bs n₀ : Nat) (a : Option Addr) (len cap : Nat) (zs : List Int) (hreach : len ≤ 1000000) (w : World) (hBs : Bs < n₀) (hn₀ : n₀ ≤ w.heap.size)
    (hc : w.cell? ⟨Bs, 0, none⟩ = some (.slice a len cap)) (hI : 0 < len → ∃ b off, a = some ⟨b, off, none⟩ ∧ b < n₀ ∧ ∀ j, j < len → w.cell? ⟨b, off + j, none⟩ = some (.int .u64 (zs[j]?.getD 0))) :
    SeqStopsK F n Tryz.prog 69 #[.pointer (some ⟨Bs, 0, none⟩)] (fun x : Place len => #[Value.int .i64 (x.1 : Int), Value.int .u64 (zs[x.1]?.getD 0)]) (Below n₀) (fun ys => ys.map (·.1) = upto len len)
      (fun pre => ∃ k, k ≤ len ∧ pre.map (·.1) = upto len k) len w := fun l J Jx W hW _ _ hY h0 => by
  refine backward1_in F n h8 hro hn l Bs n₀ a len cap zs hreach J Jx hY W hBs ((hW.cell (p := ⟨Bs, 0, none⟩) (Nat.lt_of_lt_of_le hBs hn₀)).trans hc) (fun h => ?_) h0
  obtain ⟨b, off, e1, e2, e3⟩ := hI h
  exact ⟨b, off, e1, e2, fun j hj => (hW.cell (p := ⟨b, off + j, none⟩) (Nat.lt_of_lt_of_le e2 hn₀)).trans (e3 j hj)⟩
set_option maxRecDepth 100000 in
set_option maxHeartbeats 2000000 in
theorem bare_in (F : Fence) (n : Nat) (h4 : F.fn 50) (h6 : F.fn 55) (h8 : F.fn 69) (hro : F.round = none) (hn : 3 ≤ n) (a : Option Addr) (len cap : Nat) (zs : List Int) (hreach : len ≤ 1000000) (hcap : len ≤ cap) (w : World)
    (hI : 0 < len → ∃ b off, a = some ⟨b, off, none⟩ ∧ b < w.heap.size ∧ ∀ j, j < len → w.cell? ⟨b, off + j, none⟩ = some (.int .u64 (zs[j]?.getD 0))) :
    CallsIn F n Tryz.prog 50 #[.slice a len cap] w fun e W' =>
      ((e = .returned (.slice none 0 0) ∧ ∀ j, j < len → zs[j]?.getD 0 = 0) ∨ (∃ k : Nat, k < len ∧ e = .returned (.slice a (k + 1) cap) ∧ zs[k]?.getD 0 ≠ 0 ∧ ∀ j, k < j → j < len → zs[j]?.getD 0 = 0)) ∧ Below w.heap.size w W' := by
  have h1 : 1 ≤ n := by omega
  refine callsIn_of_wp_marks Tryz.func50 rfl h4 ?_ hro
  simp only [Tryz.ntmps50, List.size_toArray, List.length_cons, List.length_nil, Nat.reduceAdd, Nat.reduceSub, Array.replicate_succ, Array.replicate_zero, List.push_toArray, List.append_toArray, List.nil_append, List.cons_append]
  gi_wp2_with (gi_at_call 55; refine (backward_in F (n - 1) h6 hro _ _ _ _).mono ?_; rintro e w' ⟨rfl, rfl⟩)
  have bN := Boxed.new w 27 (.slice a len cap)
  have bR := Boxed.new (w.alloc (.cells #[.slice a len cap] 27)) 27 (.slice none 0 0)
  have bS := Boxed.new ((w.alloc (.cells #[.slice a len cap] 27)).alloc (.cells #[.slice none 0 0] 27)) 27 (.slice a len cap)
  rw [World.size_alloc] at bR bS
  rw [World.size_alloc] at bS
  have hB0 : Below w.heap.size w (((w.alloc (.cells #[.slice a len cap] 27)).alloc (.cells #[.slice none 0 0] 27)).alloc (.cells #[.slice a len cap] 27)) := (((Below.refl _ w).alloc (Nat.le_refl _) _).alloc (by simp) _).alloc (by simp; omega) _
  have hI3 : 0 < len → ∃ b off, a = some ⟨b, off, none⟩ ∧ b < w.heap.size + 3 ∧ ∀ j, j < len → (((w.alloc (.cells #[.slice a len cap] 27)).alloc (.cells #[.slice none 0 0] 27)).alloc (.cells #[.slice a len cap] 27)).cell? ⟨b, off + j, none⟩ = some (.int .u64 (zs[j]?.getD 0)) := fun h => by
    obtain ⟨b, off, e1, e2, e3⟩ := hI h
    exact ⟨b, off, e1, by omega, fun j hj => (hB0.cell (p := ⟨b, off + j, none⟩) e2).trans (e3 j hj)⟩
  refine wpIn_rangeFunc_ownG hro h1 (gf := 69) (lb := #[.pointer (some ⟨w.heap.size + 1 + 1, 0, none⟩)]) rfl h8 (enters_of Tryz.func69 (by kernel_rfl) rfl)
    (backward_stops F (n - 1) h8 hro (by omega) (w.heap.size + 1 + 1) (w.heap.size + 3) a len cap zs hreach _ (by omega) (by simp) bS.cell hI3) belowK_t (belowK_b (by simp)) (Below.refl _ _) (fun _ => rfl)
    (fun pre W => ((∀ p ∈ pre, zs[p.1]?.getD 0 = 0) ∧ W.cell? ⟨w.heap.size, 0, none⟩ = some (.slice a len cap) ∧ W.cell? ⟨w.heap.size + 1, 0, none⟩ = some (.slice none 0 0) ∧ W.frozen? ⟨w.heap.size + 1, 0, none⟩ = false) ∧ Below w.heap.size w W)
    (fun c pre W => (c = .ret ∧ ∃ ini last, pre = ini ++ [last] ∧ (∀ p ∈ ini, zs[p.1]?.getD 0 = 0) ∧ zs[last.1]?.getD 0 ≠ 0 ∧ W.cell? ⟨w.heap.size + 1, 0, none⟩ = some (.slice a (last.1 + 1) cap)) ∧ Below w.heap.size w W)
    (OwnFrom.and (Own.from (fun s A B row hs hg hr => ⟨hs.1, cell_kept hs.2.1 hg hr, cell_kept hs.2.2.1 hg hr, (frozen_kept hs.2.2.1 hg hr).trans hs.2.2.2⟩) _) (ownFrom_below (Nat.le_refl _) (by simp; omega)))
    (fun c => OwnFrom.and (Own.from (fun s A B row hs hg hr => by obtain ⟨hc, ini, last, e1, e2, e3, e4⟩ := hs; exact ⟨hc, ini, last, e1, e2, e3, cell_kept e4 hg hr⟩) _) (ownFrom_below (Nat.le_refl _) (by simp; omega)))
    ⟨⟨by simp, ((bN.alloc _).alloc _).cell, (bR.alloc _).cell, (bR.alloc _).frozen⟩, hB0⟩
    (fun x => { tmps := #[.slice a len cap, .pointer (some ⟨w.heap.size, 0, none⟩), .pointer (some ⟨w.heap.size + 1, 0, none⟩), .int .i64 (x.1 : Int), .int .u64 (zs[x.1]?.getD 0), .slice a len cap, .func (.func 69) #[] #[.pointer (some ⟨w.heap.size + 1 + 1, 0, none⟩)], .int .i64 (x.1 : Int), .int .u64 (zs[x.1]?.getD 0), undef, undef, undef, undef, undef, undef], defers := [] }) ?assign ?body ?done ?stop
  case assign =>
    intro l x W K hK
    gi_wp2
    exact hK
  case body =>
    rintro l pre ⟨x, hx⟩ W ⟨⟨hp, hcn, hcr, hfr⟩, hB⟩ _
    have hxc : ((x : Int) + 1) ≤ cap := by omega
    have hx0 : (0 : Int) ≤ (x : Int) + 1 := by omega
    gi_wp2
    · have hne : zs[x]?.getD 0 ≠ 0 := by have := ‹(zs[x]?.getD 0 != 0) = true›; simpa using this
      refine ⟨(KeepsOthers.setCell _ _ _).from _, ⟨rfl, pre, ⟨x, hx⟩, rfl, hp, hne, ?_⟩, hB.setCell (p := ⟨w.heap.size + 1, 0, none⟩) (by simp) _⟩
      exact World.cell?_setCell_same' _ _ _ (by rw [hcr]; rfl)
    · have hz : zs[x]?.getD 0 = 0 := by have := ‹(zs[x]?.getD 0 != 0) = false›; simpa using this
      exact ⟨KeepsFrom.refl _ _, Below.refl _ _, ⟨fun p hp' => (List.mem_append.1 hp').elim (hp p) (fun e => by simp at e; subst e; exact hz), hcn, hcr, hfr⟩, hB⟩
  case done =>
    rintro D ys W hD hys ⟨⟨hne, hcn, hcr, hfr⟩, hB⟩ hK
    gi_wp2
    have hK' := (KeepsOthers.setCell W ⟨w.heap.size + 1, 0, none⟩ (.slice none 0 0)).same D _ hK rfl
    refine ⟨by simp, .inl ⟨_, _, rfl, run_takeDeferred hK', ?_⟩⟩
    have hc5 := cell_kept (World.cell?_setCell_same' W ⟨w.heap.size + 1, 0, none⟩ (.slice none 0 0) (by rw [hcr]; rfl)) (grownBy_putObj' _ D (.deferred none)) (fun r e => by cases e; exact ⟨_, hK', rfl⟩)
    refine ⟨.slice none 0 0, ?_, .inl ⟨rfl, fun j hj => ?_⟩, (hB.setCell (p := ⟨w.heap.size + 1, 0, none⟩) (by simp) _).trans (belowK_b (w := w) (Nat.le_refl _) _ D _ _ (by simp at hD; omega) hK' rfl rfl)⟩
    · simp [results, Tryz.f50, go_sem, hc5]
    · have hm : j ∈ ys.map (·.1) := by rw [hys]; exact (upto_mem (Nat.le_refl _)).2 ⟨by omega, hj⟩
      obtain ⟨p, hp1, rfl⟩ := List.mem_map.1 hm
      exact hne p hp1
  case stop =>
    rintro D c pre W hD ⟨k, hk, hpre⟩ ⟨⟨rfl, ini, last, e1, e2, e3, hcr⟩, hB⟩ hK
    gi_wp2
    refine ⟨by simp, .inl ⟨_, _, rfl, run_takeDeferred hK, ?_⟩⟩
    have hc5 := cell_kept hcr (grownBy_putObj' _ D (.deferred none)) (fun r e => by cases e; exact ⟨_, hK, rfl⟩)
    obtain ⟨k', rfl⟩ : ∃ k', k = k' + 1 := by
      cases k with
      | zero => rw [e1] at hpre; simp [upto] at hpre
      | succ k' => exact ⟨k', rfl⟩
    rw [e1, List.map_append, upto_succ] at hpre
    obtain ⟨g1, g2⟩ := List.append_inj' hpre rfl
    have g3 : last.1 = len - 1 - k' := by simpa using g2
    refine ⟨.slice a (last.1 + 1) cap, ?_, .inr ⟨last.1, last.2, rfl, e3, fun j h1j h2j => ?_⟩, hB.trans (belowK_b (w := w) (Nat.le_refl _) W D _ _ (by simp at hD; omega) hK rfl rfl)⟩
    · simp [results, Tryz.f50, go_sem, hc5]
    · have hm : j ∈ ini.map (·.1) := by rw [g1]; exact (upto_mem (by omega)).2 ⟨by omega, h2j⟩
      obtain ⟨p, hp1, rfl⟩ := List.mem_map.1 hm
      exact e2 p hp1
theorem bare_any {lo : Nat} {sv : Value} {zs : List Int} {w : World} (h : Seg lo w sv zs) (hl : zs.length ≤ 1000000) :
    Calls Tryz.prog 50 #[sv] w fun e w' => ∃ (a : Option Addr) (cap : Nat) (ts : List Int), e = .returned (.slice a ts.length cap) ∧ Seg lo w' (.slice a ts.length cap) ts ∧ Norm ts ∧ val ts = val zs ∧ ts.length ≤ zs.length ∧ Below w.heap.size w w' := by
  have h0 := h
  obtain ⟨hw, a, cap, rfl, h1, h3⟩ := h
  refine (callsIn_wide.1 (bare_in Fence.wide 3 trivial trivial trivial rfl (Nat.le_refl _) a zs.length cap zs hl h1 w (fun hp => by
    obtain ⟨b, off, e1, e2, e3, e4, _⟩ := h3 (List.length_pos_iff.1 hp); exact ⟨b, off, e1, e3, e4⟩))).mono ?_
  rintro e w' ⟨⟨rfl, hz⟩ | ⟨k, hk, rfl, hz, hs⟩, hb⟩
  · exact ⟨none, 0, [], rfl, Seg.nil _ _, norm_nil, (val_of_zeros hz).symm, Nat.zero_le _, hb⟩
  · have hs' := (h0.take (k := k + 1) (by omega)).below hb
    have hlen : (zs.take (k + 1)).length = k + 1 := by rw [List.length_take]; omega
    refine ⟨a, cap, zs.take (k + 1), by rw [hlen], by rw [hlen]; exact hs', .inr ?_, val_take fun j hj1 hj2 => hs j (by omega) hj2, by rw [hlen]; omega, hb⟩
    rw [hlen, List.getElem?_take_of_lt (by omega)]; exact hz
attribute [local go_sem] Oper.semAt_some
def BackR (Bs : Nat) (a : Option Addr) (len cap : Nat) (zs : List Int) (pre : List (Place len)) (V : World) : Prop :=
  V.cell? ⟨Bs, 0, none⟩ = some (.slice a len cap) ∧ ∀ j, j + pre.length < len → ∃ b off, a = some ⟨b, off, none⟩ ∧ V.cell? ⟨b, off + j, none⟩ = some (.int .u64 (zs[j]?.getD 0))
def BackN (len : Nat) (pre : List (Place len)) (x : Place len) : Prop := pre.map (·.1) = upto len pre.length ∧ x.1 + pre.length + 1 = len
set_option maxRecDepth 100000 in
set_option maxHeartbeats 2000000 in
theorem backward_feeds (F : Fence) (n : Nat) (h8 : F.fn 69) (hro : F.round = none) (hn : 1 ≤ n) (Bs : Nat) (a : Option Addr) (len cap : Nat) (zs : List Int) (hreach : len ≤ 1000000) (w : World) :
    Feeds F n Tryz.prog 69 #[.pointer (some ⟨Bs, 0, none⟩)] (fun x : Place len => #[Value.int .i64 (x.1 : Int), Value.int .u64 (zs[x.1]?.getD 0)]) (BackR Bs a len cap zs) (BackN len) (fun ys => ys.map (·.1) = upto len len)
      (fun pre => ∃ k, k ≤ len ∧ pre.map (·.1) = upto len k) w := by
  intro l J Jx W _ _ _ hR hY h0
  refine callsIn_of_wp Tryz.func69 rfl h8 ?_ hro
  simp only [Tryz.ntmps69, List.size_toArray, List.length_cons, List.length_nil, Nat.reduceAdd, Nat.reduceSub, Array.replicate_succ, Array.replicate_zero, List.push_toArray, List.append_toArray, List.nil_append, List.cons_append]
  have hb0 := (hR _ _ h0).1
  gi_wp2
  gi_loopw [3] (fun i wr => ∃ (k : Nat) (pre : List (Place len)), k ≤ len ∧ i = .int .i64 ((len : Int) - 1 - k) ∧ pre.map (·.1) = upto len k ∧ J pre wr)
    (fun i _ => (intOf i + 1).toNat)
  case atStart => exact ⟨0, [], Nat.zero_le _, by simp, rfl, h0⟩
  case round =>
    obtain ⟨k, pre, hk, rfl, hpre, hJs⟩ := hrel
    obtain ⟨hbs, hcs⟩ := hR _ _ hJs
    have Hpre : Hid (pre.map (·.1) = upto len k) := hpre
    have hpl : pre.length = k := by have := congrArg List.length hpre; rwa [List.length_map, upto_length] at this
    by_cases hlt : k < len
    · obtain ⟨m, hm⟩ : ∃ m, len = k + 1 + m := ⟨len - 1 - k, by omega⟩
      obtain ⟨b, off, rfl, hcx⟩ := hcs m (by omega)
      have hml : m < len := by omega
      obtain ⟨fn, tmps, assign, body, hy, hR⟩ := hY pre ⟨m, hml⟩ wr hJs ⟨by rw [hpl]; exact hpre, by simp only; omega⟩
      dsimp only at hy
      have hi : ((len : Int) - 1 - k) = m := by omega
      rw [hi]
      have Hm : Hid (len = k + 1 + m) := hm
      have Hpl : Hid (pre.length = k) := hpl
      clear hi hm hpre hpl hcs
      gi_wp2
      refine hR.mono ?_
      rintro e W3 (⟨rfl, hJ3⟩ | ⟨rfl, hJx3⟩)
      · gi_wp2
        go_roundw
        case rel =>
          have := Hm.out
          exact ⟨k + 1, pre ++ [⟨m, hml⟩], by omega, by congr 1; omega, by rw [List.map_append, Hpre.out, upto_succ]; simp; omega, hJ3⟩
        case measure => simp [intOf]
      · gi_wp2
        refine bodyPost_ret (results_none rfl _ _ _) rfl ?_
        have := Hm.out
        exact ⟨⟨_, rfl⟩, .inr ⟨_, ⟨k + 1, by omega, by rw [List.map_append, Hpre.out, upto_succ]; simp; omega⟩, hJx3⟩⟩
    · have hkl : k = len := by omega
      clear hpre hpl
      subst hkl
      rw [show ((k : Int) - 1 - k) = -1 by omega]
      gi_wp2
      go_end0
      exact ⟨⟨_, rfl⟩, .inl ⟨pre, Hpre.out, hJs⟩⟩
end Go.Proofs.YtejocefblpkdjabGreat
