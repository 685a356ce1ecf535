/-
  Joined: Cmp Kept.
-/
import Derived.Test.YtejocefblpkdjabGreatJBare
import Derived.Test.YtejocefblpkdjabGreatJSmall
import Derived.Stop.RegionWithIn
import Derived.Deep.RegionHeld3
namespace Go.Proofs.YtejocefblpkdjabGreat
open Go.RowKit Go.Shelf
attribute [local go_sem] Oper.semAt_some
theorem cmpI_ne {x y : Int} (h : x ≠ y) : cmpI x y ≠ 0 := by
  unfold cmpI
  split
  · decide
  · split
    · decide
    · omega
theorem Seg.other {lo : Nat} {W : World} {sv : Value} {zs : List Int} (h : Seg lo W sv zs) {B : Nat} {t : TypeId} {v : Value} (hB : Boxed W B t v) (hv : ∀ z, v ≠ .int .u64 z) (u : Value) : Seg lo (W.setCell ⟨B, 0, none⟩ u) sv zs := by
  obtain ⟨hw, a, cap, e, h1, h3⟩ := h
  refine ⟨hw, a, cap, e, h1, fun hz => ?_⟩
  obtain ⟨b, off, e1, e2, e3, e4, e5⟩ := h3 hz
  have hne : b ≠ B := by
    intro e
    subst e
    have hc := e4 0 (List.length_pos_iff.2 hz)
    have hb : W.heap[b]? = some (.cells #[v] t) := hB
    simp only [World.cell?, hb] at hc
    cases off with
    | zero => simp at hc; exact hv _ hc
    | succ k => simp at hc
  exact ⟨b, off, e1, e2, by simpa [World.setCell] using e3, fun j hj => by rw [World.cell?_setCell_other _ _ _ _ (by intro h; injection h with h1 h2; exact hne h1.symm)]; exact e4 j hj, fun j hj => by rw [World.frozen?_setCell]; exact e5 j hj⟩
theorem Boxed.belowed {W W' : World} {B : Nat} {t : TypeId} {v : Value} (h : Boxed W B t v) {N : Nat} (hb : Below N W W') (hN : B < N) : Boxed W' B t v := (hb.block B hN).trans h
set_option maxRecDepth 100000 in
set_option maxHeartbeats 4000000 in
theorem cmp_any {lo lo' : Nat} {sa : Value} {ab : Option Addr} {lb cb : Nat} {xs ys : List Int} {w : World} (ha : Seg lo w sa xs) (hb : Seg lo' w (.slice ab lb cb) ys) (hla : xs.length ≤ 10000) (hlb : ys.length ≤ 10000) :
    Calls Tryz.prog 38 #[sa, .slice ab lb cb] w fun e w' => e = .returned (.int .i64 (cmpI (val xs) (val ys))) ∧ Below w.heap.size w w' := by
  refine (callsIn_wide (n := 4)).1 ?_
  refine callsIn_of_wp_marks Tryz.func38 rfl trivial ?_ rfl
  simp only [Tryz.ntmps38, List.size_toArray, List.length_cons, List.length_nil, Nat.reduceAdd, Nat.reduceSub, Array.replicate_succ, Array.replicate_zero, List.push_toArray, List.append_toArray, List.nil_append, List.cons_append]
  gi_wp2_with fail
  have hB0 : Below w.heap.size w ((w.alloc (.cells #[.slice ab lb cb] 27)).alloc (.cells #[.int .i64 0] 3)) := ((Below.refl _ w).alloc (Nat.le_refl _) _).alloc (by simp) _
  have ha0 := ha.below hB0
  have hb0 := hb.below hB0
  have bB := (Boxed.new w 27 (.slice ab lb cb)).alloc (.cells #[.int .i64 0] 3)
  have bR := Boxed.new (w.alloc (.cells #[.slice ab lb cb] 27)) 3 (.int .i64 0)
  rw [World.size_alloc] at bR
  obtain ⟨w0, hw0⟩ : ∃ w0, ((w.alloc (.cells #[.slice ab lb cb] 27)).alloc (.cells #[.int .i64 0] 3)) = w0 := ⟨_, rfl⟩
  have hsz0 : w0.heap.size = w.heap.size + 2 := by rw [← hw0]; simp
  rw [hw0] at hB0 ha0 hb0 bB bR ⊢
  have hcB := bB.cell
  have hfB := bB.frozen
  have HZ := hide hsz0
  clear hw0 hsz0
  have m1 : Hid True := trivial
  refine Code.wpIn_mono NoPanic.imp ?_
  gi_region_with (first
    | (refine ⟨trivial, ?_⟩; gi_at_call 50; clear m1; refine (callsIn_wide.2 (bare_any (by exact ha0) (by omega))).mono ?_; rintro e w1 ⟨a1, cap1, ts, rfl, hs1, hn1, hv1, hl1, hb1⟩; have HV1 := hide hv1; clear hv1; have hcB1 := (Below.cell (p := ⟨w.heap.size, 0, none⟩) hb1 (by have := HZ.out; show w.heap.size < w0.heap.size; omega)).trans hcB)
    | (refine ⟨trivial, ?_⟩; gi_at_call 50; refine (callsIn_wide.2 (bare_any (Seg.below (by exact hb0) hb1) (by omega))).mono ?_; rintro e w2 ⟨a2, cap2, us, rfl, hs2, hn2, hv2, hl2, hb2⟩; have HV2 := hide hv2; clear hv2; have hz1 : w.heap.size + 2 ≤ w1.heap.size := (by have := HZ.out; have := hb1.size; have e : w0.drew.heap.size = w0.heap.size := rfl; omega); have hcB2 := (Below.cell (p := ⟨w.heap.size, 0, none⟩) hb2 (by show w.heap.size < w1.heap.size; omega)).trans hcB1; have hfB2 : w2.frozen? ⟨w.heap.size, 0, none⟩ = false := (Below.frozen (p := ⟨w.heap.size, 0, none⟩) hb2 (by show w.heap.size < w1.heap.size; omega)).trans ((Below.frozen (p := ⟨w.heap.size, 0, none⟩) hb1 (by have := HZ.out; show w.heap.size < w0.heap.size; omega)).trans hfB)))
  all_goals
    have hz2 : w.heap.size + 2 ≤ w2.heap.size := by have := hb2.size; omega
    have hb1' : Below w0.heap.size w0 w1 := (Below.refl _ w0).drew.trans (by exact hb1)
    have hB2 : Below w.heap.size w w2 := hB0.trans ((hb1'.mono (show w.heap.size ≤ w0.heap.size by have := HZ.out; omega)).trans (hb2.mono (by omega)))
    have bB2 : Boxed w2 w.heap.size 27 (.slice ab lb cb) := Boxed.belowed (Boxed.belowed bB hb1' (show w.heap.size < w0.heap.size by have := HZ.out; omega)) hb2 (by omega)
    have bR2 : Boxed w2 (w.heap.size + 1) 3 (.int .i64 0) := Boxed.belowed (Boxed.belowed bR hb1' (show w.heap.size + 1 < w0.heap.size by have := HZ.out; omega)) hb2 (by omega)
    have hs1' := (hs1.below hb2).other bB2 (by intro z h; cases h) (.slice a2 us.length cap2)
    have hs2' := hs2.other bB2 (by intro z h; cases h) (.slice a2 us.length cap2)
    have bR3 := bR2.other (B' := w.heap.size) (by omega) (.slice a2 us.length cap2)
    have hB3 := hB2.setCell (p := ⟨w.heap.size, 0, none⟩) (Nat.le_refl _) (.slice a2 us.length cap2)
    have hc3 : (w2.setCell ⟨w.heap.size, 0, none⟩ (.slice a2 us.length cap2)).cell? ⟨w.heap.size, 0, none⟩ = some (.slice a2 us.length cap2) := World.cell?_setCell_same' _ _ _ (by rw [bB2.cell]; rfl)
    have hsz3 : w.heap.size + 2 ≤ (w2.setCell ⟨w.heap.size, 0, none⟩ (.slice a2 us.length cap2)).heap.size := by simpa [World.setCell] using hz2
    obtain ⟨w3, hw3⟩ : ∃ w3, w2.setCell ⟨w.heap.size, 0, none⟩ (.slice a2 us.length cap2) = w3 := ⟨_, rfl⟩
    rw [hw3] at hs1' hs2' bR3 hB3 hc3 hsz3 ⊢
    clear hw3 bB2 bR2 hB2 hz2 hs1 hs2 hb2 hb1 hb1' hcB1 hcB2 hfB2 hz1 bB bR hcB hfB hB0 HZ ha0 hb0
    refine NoPanic.normal ?_
    gi_wp2_with fail
    refine ⟨trivial, ?_⟩
    refine (callsIn_wide.2 (cmpInt_any _ _ _)).mono ?_
    rintro e w4 ⟨rfl, rfl⟩
    have hcR := bR3.cell
    have hfR := bR3.frozen
    rcases Nat.lt_trichotomy ts.length us.length with hlt | heq | hgt
    · have HF : Hid (cmpI (val xs) (val ys) = -1) := by
        rw [Hid, ← HV1.out, ← HV2.out]; exact cmpI_lt (norm_lt hs1'.words hs2'.words hn2 hlt)
      rw [cmpI_lt (show (ts.length : Int) < (us.length : Int) by omega)]
      gi_wp2
      have hc5 : (w4.setCell ⟨w.heap.size + 1, 0, none⟩ (.int .i64 (-1))).cell? ⟨w.heap.size + 1, 0, none⟩ = some (.int .i64 (-1)) := World.cell?_setCell_same' _ _ _ (by rw [hcR]; rfl)
      refine ⟨.int .i64 (-1), ?_, by rw [HF.out], hB3.setCell (p := ⟨w.heap.size + 1, 0, none⟩) (by simp) _⟩
      simp [results, Tryz.f38, go_sem, hc5]
    · have hws := hs1'.words
      have hwu := hs2'.words
      rw [heq, cmpI_eq]
      obtain ⟨len, hlen⟩ : ∃ len, us.length = len := ⟨_, rfl⟩
      have HL : Hid (ts.length = len ∧ us.length = len) := ⟨by omega, hlen⟩
      have hs1'' : Seg lo w4 (.slice a1 len cap1) ts := by have := hs1'; rwa [heq, hlen] at this
      rw [hlen] at hs2' hc3 ⊢
      have hl4 : len ≤ 10000 := by omega
      clear hlen heq hs1' hl1 hl2 hla hlb
      gi_wp2_with fail
      refine ⟨trivial, ?_⟩
      refine (backward_in Fence.wide _ trivial rfl _ _ _ _).mono ?_
      rintro e w5 ⟨rfl, rfl⟩
      gi_wp2_with fail
      have bS := Boxed.new w4 27 (.slice a1 len cap1)
      have hB5 : Below w4.heap.size w4 (w4.alloc (.cells #[.slice a1 len cap1] 27)) := (Below.refl _ _).alloc (Nat.le_refl _) _
      have hI5 : 0 < len → ∃ b off, a1 = some ⟨b, off, none⟩ ∧ b < w4.heap.size + 1 ∧ ∀ j, j < len → (w4.alloc (.cells #[.slice a1 len cap1] 27)).cell? ⟨b, off + j, none⟩ = some (.int .u64 (ts[j]?.getD 0)) := fun h => by
        obtain ⟨b, off, rfl, e2, e3⟩ := hs1''.row h
        exact ⟨b, off, rfl, by omega, fun j hj => (hB5.cell (p := ⟨b, off + j, none⟩) e3).trans (hs1''.cell hj).1⟩
      refine wpIn_rangeFunc_ownG rfl (by omega) (gf := 69) (lb := #[.pointer (some ⟨w4.heap.size, 0, none⟩)]) rfl trivial (enters_of Tryz.func69 (by kernel_rfl) rfl)
        (backward_stops Fence.wide 3 trivial rfl (by omega) w4.heap.size (w4.heap.size + 1) a1 len cap1 ts (by omega) _ (by omega) (by simp) bS.cell hI5) belowK_t (belowK_b (by simp)) (Below.refl _ _) (fun _ => rfl)
        (fun pre W => (∀ p ∈ pre, ts[p.1]?.getD 0 = us[p.1]?.getD 0) ∧ Below w4.heap.size w4 W)
        (fun c pre W => (c = .ret ∧ ∃ ini last, pre = ini ++ [last] ∧ (∀ p ∈ ini, ts[p.1]?.getD 0 = us[p.1]?.getD 0) ∧ ts[last.1]?.getD 0 ≠ us[last.1]?.getD 0 ∧ W.cell? ⟨w.heap.size + 1, 0, none⟩ = some (.int .i64 (cmpI (ts[last.1]?.getD 0) (us[last.1]?.getD 0)))) ∧ Below w.heap.size w W)
        (OwnFrom.and (Own.from (fun s A B row hs hg hr => hs) _) (ownFrom_below (Nat.le_refl _) (by simp)))
        (fun c => OwnFrom.and (Own.from (fun s A B row hs hg hr => by obtain ⟨hc, ini, last, e1, e2, e3, e4⟩ := hs; exact ⟨hc, ini, last, e1, e2, e3, cell_kept e4 hg hr⟩) _) (ownFrom_below (Nat.le_refl _) (by simp; omega)))
        ⟨by simp, hB5⟩
        (fun x => { tmps := #[.slice a1 len cap1, .slice ab lb cb, undef, .pointer (some ⟨w.heap.size, 0, none⟩), .pointer (some ⟨w.heap.size + 1, 0, none⟩), .int .i64 0, .int .i64 (x.1 : Int), .int .u64 (ts[x.1]?.getD 0), undef, sa, .slice a1 len cap1, .slice ab lb cb, .slice a2 len cap2, .slice a1 len cap1, .int .i64 len, .slice a2 len cap2, .int .i64 len, .int .i64 0, .int .i64 0, .bool false, undef, .slice a1 len cap1, .func (.func 69) #[] #[.pointer (some ⟨w4.heap.size, 0, none⟩)], .int .i64 (x.1 : Int), .int .u64 (ts[x.1]?.getD 0), undef, undef, undef, undef, undef, undef, undef, undef, undef], defers := [] }) ?assign ?body ?done ?stop
      case assign =>
        intro l x W K hK
        gi_wp2
        exact hK
      case body =>
        rintro l pre ⟨x, hx⟩ W ⟨hp, hB⟩ _
        obtain ⟨b2, off2, rfl, e2, e3⟩ := hs2'.row (by omega)
        have hcx : W.cell? ⟨b2, off2 + x, none⟩ = some (.int .u64 (us[x]?.getD 0)) := (hB.cell (p := ⟨b2, off2 + x, none⟩) e3).trans (hs2'.cell hx).1
        have hbx : W.cell? ⟨w.heap.size, 0, none⟩ = some (.slice (some ⟨b2, off2, none⟩) len cap2) := (hB.cell (p := ⟨w.heap.size, 0, none⟩) (by show w.heap.size < w4.heap.size; omega)).trans hc3
        have hrx : W.cell? ⟨w.heap.size + 1, 0, none⟩ = some (.int .i64 0) := (hB.cell (p := ⟨w.heap.size + 1, 0, none⟩) (by show w.heap.size + 1 < w4.heap.size; omega)).trans hcR
        have hrf : W.frozen? ⟨w.heap.size + 1, 0, none⟩ = false := (hB.frozen (p := ⟨w.heap.size + 1, 0, none⟩) (by show w.heap.size + 1 < w4.heap.size; omega)).trans hfR
        have hxi : (x : Int) < (len : Int) := by omega
        by_cases heq : ts[x]?.getD 0 = us[x]?.getD 0
        · have hcm : cmpI (ts[x]?.getD 0) (us[x]?.getD 0) = 0 := by rw [heq, cmpI_eq]
          have HQ := hide heq
          clear heq
          gi_wp2_with (refine ⟨trivial, ?_⟩; gi_at_call 56; refine (CallsIn.inRound l (callsIn_wide.2 (cmpU64_any _ _ _))).mono ?_; rintro e w' ⟨rfl, rfl⟩)
          exact ⟨KeepsFrom.refl _ _, Below.refl _ _, fun p hp' => (List.mem_append.1 hp').elim (hp p) (fun e => by simp at e; subst e; exact HQ.out), hB⟩
        · have hcm : (cmpI (ts[x]?.getD 0) (us[x]?.getD 0) != 0) = true := by
            have := cmpI_ne heq
            simpa using this
          have HQ := hide heq
          clear heq
          gi_wp2_with (refine ⟨trivial, ?_⟩; gi_at_call 56; refine (CallsIn.inRound l (callsIn_wide.2 (cmpU64_any _ _ _))).mono ?_; rintro e w' ⟨rfl, rfl⟩)
          refine ⟨(KeepsOthers.setCell _ _ _).from _, ⟨rfl, pre, ⟨x, hx⟩, rfl, hp, HQ.out, ?_⟩, hB3.trans ((hB.mono (by omega)).setCell (p := ⟨w.heap.size + 1, 0, none⟩) (by simp) _)⟩
          exact World.cell?_setCell_same' _ _ _ (by rw [hrx]; rfl)
      case done =>
        rintro D zs' W hD hys ⟨hne, hB⟩ hK
        have hrx : W.cell? ⟨w.heap.size + 1, 0, none⟩ = some (.int .i64 0) := (hB.cell (p := ⟨w.heap.size + 1, 0, none⟩) (by show w.heap.size + 1 < w4.heap.size; omega)).trans hcR
        have hrf : W.frozen? ⟨w.heap.size + 1, 0, none⟩ = false := (hB.frozen (p := ⟨w.heap.size + 1, 0, none⟩) (by show w.heap.size + 1 < w4.heap.size; omega)).trans hfR
        have HF : Hid (cmpI (val xs) (val ys) = 0) := by
          have : ts = us := List.ext_getElem (by have := HL.out; omega) fun j h1 h2 => by
            have hm : j ∈ zs'.map (·.1) := by rw [hys]; exact (upto_mem (Nat.le_refl _)).2 ⟨by omega, by have := HL.out; omega⟩
            obtain ⟨p, hp1, rfl⟩ := List.mem_map.1 hm
            have := hne p hp1
            rw [List.getElem?_eq_getElem h1, List.getElem?_eq_getElem h2] at this
            simpa using this
          rw [Hid, ← HV1.out, ← HV2.out, this, cmpI_eq]
        gi_wp2
        have hK' := (KeepsOthers.setCell W ⟨w.heap.size + 1, 0, none⟩ (.int .i64 0)).same D _ hK rfl
        refine ⟨by simp, .inl ⟨_, _, rfl, run_takeDeferred hK', ?_⟩⟩
        have hc5 := cell_kept (World.cell?_setCell_same' W ⟨w.heap.size + 1, 0, none⟩ (.int .i64 0) (by rw [hrx]; rfl)) (grownBy_putObj' _ D (.deferred none)) (fun r e => by cases e; exact ⟨_, hK', rfl⟩)
        refine ⟨.int .i64 0, ?_, by rw [HF.out], (hB3.trans ((hB.mono (by omega)).setCell (p := ⟨w.heap.size + 1, 0, none⟩) (by simp) _)).trans (belowK_b (w := w) (Nat.le_refl _) _ D _ _ (by simp at hD; omega) hK' rfl rfl)⟩
        simp [results, Tryz.f38, go_sem, hc5]
      case stop =>
        rintro D c pre W hD ⟨k, hk, hpre⟩ ⟨⟨rfl, ini, last, e1, e2, e3, hcr⟩, hB⟩ hK
        have HF : Hid (cmpI (val xs) (val ys) = cmpI (ts[last.1]?.getD 0) (us[last.1]?.getD 0)) := by
          obtain ⟨k', rfl⟩ : ∃ k', k = k' + 1 := by
            cases k with
            | zero => rw [e1] at hpre; simp [upto] at hpre
            | succ k' => exact ⟨k', rfl⟩
          rw [e1, List.map_append, upto_succ] at hpre
          obtain ⟨g1, g2⟩ := List.append_inj' hpre rfl
          have g3 : last.1 = len - 1 - k' := by simpa using g2
          have hsame : ∀ j, last.1 < j → j < len → ts[j]?.getD 0 = us[j]?.getD 0 := fun j h1j h2j => by
            have hm : j ∈ ini.map (·.1) := by rw [g1]; exact (upto_mem (by omega)).2 ⟨by omega, h2j⟩
            obtain ⟨p, hp1, rfl⟩ := List.mem_map.1 hm
            exact e2 p hp1
          obtain ⟨l1, l2⟩ := HL.out
          rw [Hid, ← HV1.out, ← HV2.out]
          rcases Int.lt_or_gt_of_ne e3 with h | h
          · rw [cmpI_lt h, cmpI_lt (val_lt_at hws hwu (by omega) (k := last.1) (by rw [l1]; exact last.2) h (fun j h1 h2 => hsame j h1 (by omega)))]
          · rw [cmpI_gt h, cmpI_gt (val_lt_at hwu hws (by omega) (k := last.1) (by rw [l2]; exact last.2) h (fun j h1 h2 => (hsame j h1 (by omega)).symm))]
        gi_wp2
        refine ⟨by simp, .inl ⟨_, _, rfl, run_takeDeferred hK, ?_⟩⟩
        have hc5 := cell_kept hcr (grownBy_putObj' _ D (.deferred none)) (fun r e => by cases e; exact ⟨_, hK, rfl⟩)
        refine ⟨.int .i64 (cmpI (ts[last.1]?.getD 0) (us[last.1]?.getD 0)), ?_, by rw [HF.out], hB.trans (belowK_b (w := w) (Nat.le_refl _) W D _ _ (by simp at hD; omega) hK rfl rfl)⟩
        simp [results, Tryz.f38, go_sem, hc5]
    · have HF : Hid (cmpI (val xs) (val ys) = 1) := by
        rw [Hid, ← HV1.out, ← HV2.out]; exact cmpI_gt (norm_lt hs2'.words hs1'.words hn1 hgt)
      rw [cmpI_gt (show (us.length : Int) < (ts.length : Int) by omega)]
      gi_wp2
      have hc5 : (w4.setCell ⟨w.heap.size + 1, 0, none⟩ (.int .i64 1)).cell? ⟨w.heap.size + 1, 0, none⟩ = some (.int .i64 1) := World.cell?_setCell_same' _ _ _ (by rw [hcR]; rfl)
      refine ⟨.int .i64 1, ?_, by rw [HF.out], hB3.setCell (p := ⟨w.heap.size + 1, 0, none⟩) (by simp) _⟩
      simp [results, Tryz.f38, go_sem, hc5]
theorem Seg.kept {lo : Nat} {W W' : World} {row : Option Nat} {sv : Value} {zs : List Int} (h : Seg lo W sv zs) (hg : W.grownBy W' row) (hr : ∀ r, row = some r → ∃ o : Obj, W.heap[r]? = some o ∧ o.isCells = false) : Seg lo W' sv zs := by
  obtain ⟨hw, a, cap, e, h1, h3⟩ := h
  refine ⟨hw, a, cap, e, h1, fun hz => ?_⟩
  obtain ⟨b, off, e1, e2, e3, e4, e5⟩ := h3 hz
  exact ⟨b, off, e1, e2, Nat.lt_of_lt_of_le e3 hg.size, fun j hj => cell_kept (e4 j hj) hg hr, fun j hj => (frozen_kept (e4 j hj) hg hr).trans (e5 j hj)⟩
theorem keepsFrom_below {B : Nat} {W W' : World} (h : Below W.heap.size W W') : KeepsFrom B W W' := ⟨h.size, fun k _ _ hk _ => (h.block k (Array.getElem?_eq_some_iff.1 hk).1).trans hk⟩
theorem size_setCell (W : World) (p : Addr) (v : Value) : (W.setCell p v).heap.size = W.heap.size := by simp [World.setCell]
theorem Seg.aside {lo : Nat} {W : World} {a : Option Addr} {n c : Nat} {zs : List Int} (h : Seg lo W (.slice a n c) zs) {B : Nat} (hne : zs ≠ [] → ∀ b o, a = some ⟨b, o, none⟩ → b ≠ B) (o : Nat) (u : Value) : Seg lo (W.setCell ⟨B, o, none⟩ u) (.slice a n c) zs := by
  obtain ⟨hw, a', cap, e, h1, h3⟩ := h
  refine ⟨hw, a', cap, e, h1, fun hz => ?_⟩
  obtain ⟨b, off, e1, e2, e3, e4, e5⟩ := h3 hz
  have hb : b ≠ B := hne hz b off (by simp only [Value.slice.injEq] at e; rw [e.1, e1])
  exact ⟨b, off, e1, e2, by simpa [World.setCell] using e3, fun j hj => by rw [World.cell?_setCell_other _ _ _ _ (by intro h; injection h with h1 h2; exact hb h1.symm)]; exact e4 j hj, fun j hj => by rw [World.frozen?_setCell]; exact e5 j hj⟩
theorem Seg.under {lo N : Nat} {W W' : World} {a : Option Addr} {n c : Nat} {zs : List Int} (h : Seg lo W (.slice a n c) zs) (hN : zs ≠ [] → ∀ b o, a = some ⟨b, o, none⟩ → b < N) (hb : Below N W W') : Seg lo W' (.slice a n c) zs := by
  obtain ⟨hw, a', cap, e, h1, h3⟩ := h
  refine ⟨hw, a', cap, e, h1, fun hz => ?_⟩
  obtain ⟨b, off, e1, e2, e3, e4, e5⟩ := h3 hz
  have hbN : b < N := hN hz b off (by simp only [Value.slice.injEq] at e; rw [e.1, e1])
  exact ⟨b, off, e1, e2, Nat.lt_of_lt_of_le e3 hb.size, fun j hj => (hb.cell (p := ⟨b, off + j, none⟩) hbN).trans (e4 j hj), fun j hj => (hb.frozen (p := ⟨b, off + j, none⟩) hbN).trans (e5 j hj)⟩
theorem Boxed.aside {W : World} {B B' : Nat} {t : TypeId} {v : Value} (h : Boxed W B t v) (hne : B ≠ B') (o : Nat) (u : Value) : Boxed (W.setCell ⟨B', o, none⟩ u) B t v := by
  exact (Below.heap_setCell W ⟨B', o, none⟩ u B hne).trans h
end Go.Proofs.YtejocefblpkdjabGreat
