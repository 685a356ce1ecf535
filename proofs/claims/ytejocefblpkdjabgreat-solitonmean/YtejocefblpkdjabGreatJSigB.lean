/-
  Joined: SigB SigC SigD SignedC RatK RatA RatY RatP RatF RatG RatH.
-/
import Derived.Test.YtejocefblpkdjabGreatJRMulB
import Derived.Test.YtejocefblpkdjabGreatJMul
import Derived.Test.YtejocefblpkdjabGreatJDown
import Derived.Test.YtejocefblpkdjabGreatSub
import Derived.Laws.EntriesVeiled
import Derived.Test.YtejocefblpkdjabGreatJLenOf
import Derived.Test.YtejocefblpkdjabGreatJQOff
import Derived.Test.YtejocefblpkdjabGreatJRDiv
import Derived.Test.YtejocefblpkdjabGreatJRefD
import Derived.Defers
namespace Go.Proofs.YtejocefblpkdjabGreat
open Go.RowKit
set_option maxRecDepth 100000 in
set_option maxHeartbeats 2000000 in
theorem smul_any {lo lo' : Nat} {a c : Option Addr} {n ca m cc : Nat} {xs ys : List Int} {w : World} (b d : Bool) (h : Seg lo w (.slice a n ca) xs) (h' : Seg lo' w (.slice c m cc) ys) (hl : xs.length ≤ 2000) (hl' : ys.length ≤ 2000) :
    Calls Tryz.prog 39 #[.agg #[.bool b, .slice a n ca], .agg #[.bool d, .slice c m cc]] w fun e w' => ∃ (b' : Bool) (a' : Option Addr) (cap' : Nat) (ts : List Int), e = .returned (.agg #[.bool b', .slice a' ts.length cap']) ∧ Seg w.heap.size w' (.slice a' ts.length cap') ts ∧ Canon b' ts ∧ sgn b' (val ts) = sgn b (val xs) * sgn d (val ys) ∧ ts.length ≤ xs.length + ys.length ∧ Below w.heap.size w w' := by
  obtain ⟨rfl, _⟩ := h.len
  obtain ⟨rfl, _⟩ := h'.len
  obtain ⟨e1, e2, e3, hB0, hz⟩ := three_new w (.cells #[.bool b, .slice a xs.length ca] 29) (.cells #[.bool d, .slice c ys.length cc] 29) (.cells #[.bool false, .slice none 0 0] 29)
  go_enter Tryz.func39, Tryz.ntmps39
  go_wp2_with fail
  obtain ⟨w0, hw0⟩ : ∃ w0, (((w.alloc (.cells #[.bool b, .slice a xs.length ca] 29)).alloc (.cells #[.bool d, .slice c ys.length cc] 29)).alloc (.cells #[.bool false, .slice none 0 0] 29)) = w0 := ⟨_, rfl⟩
  rw [hw0] at e1 e2 e3 hB0 hz ⊢
  have HZ := hide hz
  clear hw0 hz
  have hmu : ∀ W, Below w0.heap.size w0 W → Calls Tryz.prog 57 #[.slice a xs.length ca, .slice c ys.length cc] W fun e w' => ∃ (a' : Option Addr) (cap : Nat) (zs : List Int), e = .returned (.slice a' zs.length cap) ∧ Seg W.heap.size w' (.slice a' zs.length cap) zs ∧ Norm zs ∧ val zs = val xs * val ys ∧ zs.length ≤ xs.length + ys.length ∧ Below W.heap.size W w' := fun W hW =>
    mul_any ((h.below hB0).below hW) ((h'.below hB0).below hW) (by omega) (by omega)
  have hkeep : ∀ W, Below (w.heap.size + 2) w0 W → W.cell? ⟨w.heap.size, 0, none⟩ = some (.bool b) ∧ W.cell? ⟨w.heap.size, 1, none⟩ = some (.slice a xs.length ca) ∧ W.cell? ⟨w.heap.size + 1, 0, none⟩ = some (.bool d) ∧ W.cell? ⟨w.heap.size + 1, 1, none⟩ = some (.slice c ys.length cc) := fun W hW => by
    obtain ⟨p0, p1, _, _⟩ := two_cells e1 hW (by omega)
    obtain ⟨q0, q1, _, _⟩ := two_cells e2 hW (by omega)
    exact ⟨p0, p1, q0, q1⟩
  go_region_held3 (fun W => W.cell? ⟨w.heap.size, 0, none⟩ = some (.bool b) ∧ W.cell? ⟨w.heap.size, 1, none⟩ = some (.slice a xs.length ca) ∧ W.cell? ⟨w.heap.size + 1, 0, none⟩ = some (.bool d) ∧ W.cell? ⟨w.heap.size + 1, 1, none⟩ = some (.slice c ys.length cc))
    (first | exact hkeep _ ⟨rfl, rfl, rfl, Nat.le_refl _, fun _ _ => rfl⟩ | exact hk1.out | exact hk2.out | exact hk3.out)
    (first
    | (go_at_call 57
       refine (hmu _ ?_).mono ?_
       exact ⟨rfl, rfl, rfl, Nat.le_refl _, fun _ _ => rfl⟩
       rintro e w1 ⟨a1, c1, zs, rfl, hs1, hn1, hv1, hl1, hb1⟩
       have hb1' : Below w0.heap.size w0 w1 := ⟨hb1.1, hb1.2, hb1.3, hb1.4, hb1.5⟩
       have hk1 := hide (hkeep w1 (hb1'.mono (by have := HZ.out; omega)))
       have HV1 := hide hv1
       clear hb1 hv1)
    | (go_at_call 45
       refine (swhole_any hs1 hn1 (b != d)).mono ?_
       rintro e w2 ⟨b2, rfl, hc2, hv2, hb2⟩
       have hs2 := hs1.below hb2
       have hb2' : Below w0.heap.size w0 w2 := hb1'.trans (hb2.mono hb1'.size)
       obtain ⟨r0, r1, r2, r3⟩ := two_cells e3 hb2' (by have := HZ.out; omega)
       have hT := turns2 (w.heap.size + 2) w2 (.bool b2) (.slice a1 zs.length c1)
       have hk2 := hide (hkeep w2 (hb2'.mono (by have := HZ.out; omega)))
       have hk3 := hide (hkeep _ ((hb2'.mono (by have := HZ.out; omega)).trans hT.below))
       have HV2 := hide hv2
       clear hv2))
  all_goals
    have hS := (hs2.turns_lo hT (by have := HZ.out; show _ < w0.heap.size; omega)).mono hB0.size
    have hbw2 := hB0.trans (hb2'.mono hB0.size)
    have hBB := hbw2.trans (hT.below.mono (by omega))
    go_wp2
    refine bodyPost_ret (v := .agg #[.bool b2, .slice a1 zs.length c1]) (by simp [results, Tryz.f39, go_sem, r0, r1]) rfl ?_
    exact ⟨b2, _, _, zs, rfl, hS, hc2, by rw [HV2.out, HV1.out]; exact sgn_mul b d _ _, by omega, hBB⟩
set_option maxRecDepth 100000 in
set_option maxHeartbeats 2000000 in
theorem sameSide_any {lo lo' : Nat} {a c : Option Addr} {n ca m cc : Nat} {xs ys : List Int} {w : World} (b : Bool) (h : Seg lo w (.slice a n ca) xs) (h' : Seg lo' w (.slice c m cc) ys) (hl : xs.length ≤ 2000) (hl' : ys.length ≤ 2000) :
    Calls Tryz.prog 102 #[.agg #[.bool b, .slice a n ca], .agg #[.bool b, .slice c m cc]] w fun e w' => ∃ (b' : Bool) (a' : Option Addr) (cap' : Nat) (ts : List Int), e = .returned (.agg #[.bool b', .slice a' ts.length cap']) ∧ Seg w.heap.size w' (.slice a' ts.length cap') ts ∧ Canon b' ts ∧ sgn b' (val ts) = sgn b (val xs) + sgn b (val ys) ∧ ts.length ≤ max xs.length ys.length + 1 ∧ Below w.heap.size w w' := by
  obtain ⟨rfl, _⟩ := h.len
  obtain ⟨rfl, _⟩ := h'.len
  obtain ⟨e1, e2, e3, hB0, hz⟩ := three_new w (.cells #[.bool b, .slice a xs.length ca] 29) (.cells #[.bool b, .slice c ys.length cc] 29) (.cells #[.bool false, .slice none 0 0] 29)
  go_enter Tryz.func102, Tryz.ntmps102
  go_wp2_with fail
  obtain ⟨w0, hw0⟩ : ∃ w0, (((w.alloc (.cells #[.bool b, .slice a xs.length ca] 29)).alloc (.cells #[.bool b, .slice c ys.length cc] 29)).alloc (.cells #[.bool false, .slice none 0 0] 29)) = w0 := ⟨_, rfl⟩
  rw [hw0] at e1 e2 e3 hB0 hz ⊢
  have HZ := hide hz
  clear hw0 hz
  have hmu : ∀ W, Below w0.heap.size w0 W → Calls Tryz.prog 75 #[.slice a xs.length ca, .slice c ys.length cc] W fun e w' => ∃ (a' : Option Addr) (cap : Nat) (zs : List Int), e = .returned (.slice a' zs.length cap) ∧ Seg W.heap.size w' (.slice a' zs.length cap) zs ∧ Norm zs ∧ val zs = val xs + val ys ∧ zs.length ≤ max xs.length ys.length + 1 ∧ Below W.heap.size W w' := fun W hW =>
    add_any ((h.below hB0).below hW) ((h'.below hB0).below hW) (by omega) (by omega)
  have hkeep : ∀ W, Below (w.heap.size + 2) w0 W → W.cell? ⟨w.heap.size, 0, none⟩ = some (.bool b) ∧ W.cell? ⟨w.heap.size, 1, none⟩ = some (.slice a xs.length ca) ∧ W.cell? ⟨w.heap.size + 1, 0, none⟩ = some (.bool b) ∧ W.cell? ⟨w.heap.size + 1, 1, none⟩ = some (.slice c ys.length cc) := fun W hW => by
    obtain ⟨p0, p1, _, _⟩ := two_cells e1 hW (by omega)
    obtain ⟨q0, q1, _, _⟩ := two_cells e2 hW (by omega)
    exact ⟨p0, p1, q0, q1⟩
  go_region_held3 (fun W => W.cell? ⟨w.heap.size, 0, none⟩ = some (.bool b) ∧ W.cell? ⟨w.heap.size, 1, none⟩ = some (.slice a xs.length ca) ∧ W.cell? ⟨w.heap.size + 1, 0, none⟩ = some (.bool b) ∧ W.cell? ⟨w.heap.size + 1, 1, none⟩ = some (.slice c ys.length cc))
    (first | exact hkeep _ ⟨rfl, rfl, rfl, Nat.le_refl _, fun _ _ => rfl⟩ | exact hk1.out | exact hk2.out | exact hk3.out)
    (first
    | (go_at_call 75
       refine (hmu _ ?_).mono ?_
       exact ⟨rfl, rfl, rfl, Nat.le_refl _, fun _ _ => rfl⟩
       rintro e w1 ⟨a1, c1, zs, rfl, hs1, hn1, hv1, hl1, hb1⟩
       have hb1' : Below w0.heap.size w0 w1 := ⟨hb1.1, hb1.2, hb1.3, hb1.4, hb1.5⟩
       have hk1 := hide (hkeep w1 (hb1'.mono (by have := HZ.out; omega)))
       have HV1 := hide hv1
       clear hb1 hv1)
    | (go_at_call 45
       refine (swhole_any hs1 hn1 b).mono ?_
       rintro e w2 ⟨b2, rfl, hc2, hv2, hb2⟩
       have hs2 := hs1.below hb2
       have hb2' : Below w0.heap.size w0 w2 := hb1'.trans (hb2.mono hb1'.size)
       obtain ⟨r0, r1, r2, r3⟩ := two_cells e3 hb2' (by have := HZ.out; omega)
       have hT := turns2 (w.heap.size + 2) w2 (.bool b2) (.slice a1 zs.length c1)
       have hk2 := hide (hkeep w2 (hb2'.mono (by have := HZ.out; omega)))
       have hk3 := hide (hkeep _ ((hb2'.mono (by have := HZ.out; omega)).trans hT.below))
       have HV2 := hide hv2
       clear hv2))
  all_goals
    have hS := (hs2.turns_lo hT (by have := HZ.out; show _ < w0.heap.size; omega)).mono hB0.size
    have hbw2 := hB0.trans (hb2'.mono hB0.size)
    have hBB := hbw2.trans (hT.below.mono (by omega))
    go_wp2
    refine bodyPost_ret (v := .agg #[.bool b2, .slice a1 zs.length c1]) (by simp [results, Tryz.f102, go_sem, r0, r1]) rfl ?_
    exact ⟨b2, _, _, zs, rfl, hS, hc2, by rw [HV2.out, HV1.out]; exact sgn_add b _ _, by omega, hBB⟩
set_option maxRecDepth 100000 in
set_option maxHeartbeats 2000000 in
theorem otherSide_ge {lo lo' : Nat} {a c : Option Addr} {n ca m cc : Nat} {xs ys : List Int} {w : World} (b d : Bool) (hne : (b == d) = false) (h : Seg lo w (.slice a n ca) xs) (h' : Seg lo' w (.slice c m cc) ys) (hl : xs.length ≤ 2000) (hl' : ys.length ≤ 2000) (hge : val ys ≤ val xs) :
    Calls Tryz.prog 103 #[.agg #[.bool b, .slice a n ca], .agg #[.bool d, .slice c m cc]] w fun e w' => ∃ (b' : Bool) (a' : Option Addr) (cap' : Nat) (ts : List Int), e = .returned (.agg #[.bool b', .slice a' ts.length cap']) ∧ Seg w.heap.size w' (.slice a' ts.length cap') ts ∧ Canon b' ts ∧ sgn b' (val ts) = sgn b (val xs) + sgn d (val ys) ∧ ts.length ≤ max xs.length ys.length + 1 ∧ Below w.heap.size w w' := by
  obtain ⟨rfl, _⟩ := h.len
  obtain ⟨rfl, _⟩ := h'.len
  obtain ⟨e1, e2, e3, hB0, hz⟩ := three_new w (.cells #[.bool b, .slice a xs.length ca] 29) (.cells #[.bool d, .slice c ys.length cc] 29) (.cells #[.bool false, .slice none 0 0] 29)
  go_enter Tryz.func103, Tryz.ntmps103
  go_wp2_with fail
  obtain ⟨w0, hw0⟩ : ∃ w0, (((w.alloc (.cells #[.bool b, .slice a xs.length ca] 29)).alloc (.cells #[.bool d, .slice c ys.length cc] 29)).alloc (.cells #[.bool false, .slice none 0 0] 29)) = w0 := ⟨_, rfl⟩
  rw [hw0] at e1 e2 e3 hB0 hz ⊢
  have hcmp := cmp_any (h.below hB0) (h'.below hB0) (by omega) (by omega)
  have HZ0 := hide hz
  clear hw0 hz
  refine hcmp.mono ?_
  rintro e wc ⟨rfl, hbc⟩
  replace e1 := (hbc.block _ (by have := HZ0.out; omega)).trans e1
  replace e2 := (hbc.block _ (by have := HZ0.out; omega)).trans e2
  replace e3 := (hbc.block _ (by have := HZ0.out; omega)).trans e3
  have HZ : Hid (w.heap.size + 3 ≤ wc.heap.size) := by have := HZ0.out; have := hbc.size; rw [Hid]; omega
  replace hB0 := hB0.trans (hbc.mono hB0.size)
  clear hbc hcmp HZ0 w0
  have hs0 := h.below hB0
  have hs0' := h'.below hB0
  have hcn : ¬ cmpI (val xs) (val ys) < 0 := by
    unfold cmpI
    rw [if_neg (by omega)]
    split <;> omega
  have hsub := sub_yes hs0 hs0' (by omega) (by omega) hge
  have HG := hide hge
  obtain ⟨p0, p1, _, _⟩ := two_cells e1 (Below.refl wc.heap.size wc) (by have := HZ.out; omega)
  obtain ⟨q0, q1, _, _⟩ := two_cells e2 (Below.refl wc.heap.size wc) (by have := HZ.out; omega)
  clear hge
  go_wp2_with fail
  refine hsub.mono ?_
  rintro e w1 ⟨a1, c1, zs, rfl, hs1, hn1, hv1, hl1, hb1⟩
  obtain ⟨i0, i1, _, _⟩ := two_cells e1 hb1 (by have := HZ.out; omega)
  have HV1 := hide hv1
  clear hv1 hsub hcn
  go_wp2_with fail
  refine (swhole_any hs1 hn1 b).mono ?_
  rintro e w2 ⟨b2, rfl, hc2, hv2, hb2⟩
  have hb2' := hb1.trans (hb2.mono hb1.size)
  obtain ⟨r0, r1, r2, r3⟩ := two_cells e3 hb2' (by have := HZ.out; omega)
  have hT := turns2 (w.heap.size + 2) w2 (.bool b2) (.slice a1 zs.length c1)
  have HV2 := hide hv2
  clear hv2
  have hS := ((hs1.below hb2).turns_lo hT (by have := HZ.out; omega)).mono hB0.size
  have hbw2 := hB0.trans (hb2'.mono hB0.size)
  have hBB := hbw2.trans (hT.below.mono (by omega))
  go_wp2
  refine bodyPost_ret (v := .agg #[.bool b2, .slice a1 zs.length c1]) (by simp [results, Tryz.f103, go_sem, r0, r1]) rfl ?_
  exact ⟨b2, _, _, zs, rfl, hS, hc2, by rw [HV2.out, HV1.out]; exact sgn_diff hne _ _, by omega, hBB⟩
set_option maxRecDepth 100000 in
set_option maxHeartbeats 2000000 in
theorem otherSide_lt {lo lo' : Nat} {a c : Option Addr} {n ca m cc : Nat} {xs ys : List Int} {w : World} (b d : Bool) (hne : (b == d) = false) (h : Seg lo w (.slice a n ca) xs) (h' : Seg lo' w (.slice c m cc) ys) (hl : xs.length ≤ 2000) (hl' : ys.length ≤ 2000) (hlt : val xs < val ys) :
    Calls Tryz.prog 103 #[.agg #[.bool b, .slice a n ca], .agg #[.bool d, .slice c m cc]] w fun e w' => ∃ (b' : Bool) (a' : Option Addr) (cap' : Nat) (ts : List Int), e = .returned (.agg #[.bool b', .slice a' ts.length cap']) ∧ Seg w.heap.size w' (.slice a' ts.length cap') ts ∧ Canon b' ts ∧ sgn b' (val ts) = sgn b (val xs) + sgn d (val ys) ∧ ts.length ≤ max xs.length ys.length + 1 ∧ Below w.heap.size w w' := by
  obtain ⟨rfl, _⟩ := h.len
  obtain ⟨rfl, _⟩ := h'.len
  obtain ⟨e1, e2, e3, hB0, hz⟩ := three_new w (.cells #[.bool b, .slice a xs.length ca] 29) (.cells #[.bool d, .slice c ys.length cc] 29) (.cells #[.bool false, .slice none 0 0] 29)
  go_enter Tryz.func103, Tryz.ntmps103
  go_wp2_with fail
  obtain ⟨w0, hw0⟩ : ∃ w0, (((w.alloc (.cells #[.bool b, .slice a xs.length ca] 29)).alloc (.cells #[.bool d, .slice c ys.length cc] 29)).alloc (.cells #[.bool false, .slice none 0 0] 29)) = w0 := ⟨_, rfl⟩
  rw [hw0] at e1 e2 e3 hB0 hz ⊢
  have hcmp := cmp_any (h.below hB0) (h'.below hB0) (by omega) (by omega)
  have HZ0 := hide hz
  clear hw0 hz
  refine hcmp.mono ?_
  rintro e wc ⟨rfl, hbc⟩
  replace e1 := (hbc.block _ (by have := HZ0.out; omega)).trans e1
  replace e2 := (hbc.block _ (by have := HZ0.out; omega)).trans e2
  replace e3 := (hbc.block _ (by have := HZ0.out; omega)).trans e3
  have HZ : Hid (w.heap.size + 3 ≤ wc.heap.size) := by have := HZ0.out; have := hbc.size; rw [Hid]; omega
  replace hB0 := hB0.trans (hbc.mono hB0.size)
  clear hbc hcmp HZ0 w0
  have hs0 := h.below hB0
  have hs0' := h'.below hB0
  have hcn : cmpI (val xs) (val ys) < 0 := by rw [cmpI_lt hlt]; decide
  obtain ⟨p0, p1, p2, p3⟩ := two_cells e1 (Below.refl wc.heap.size wc) (by have := HZ.out; omega)
  obtain ⟨q0, q1, q2, q3⟩ := two_cells e2 (Below.refl wc.heap.size wc) (by have := HZ.out; omega)
  have hT1 := turns2 w.heap.size wc (.bool d) (.slice c ys.length cc)
  have f1 := turned2 (.bool d) (.slice c ys.length cc) e1
  have f2 := (hT1.other (w.heap.size + 1) (by omega) (by have := HZ.out; omega)).trans e2
  have f3 := (hT1.other (w.heap.size + 2) (by omega) (by have := HZ.out; omega)).trans e3
  have hT2 := turns2 (w.heap.size + 1) ((wc.setCell ⟨w.heap.size, 0, none⟩ (.bool d)).setCell ⟨w.heap.size, 1, none⟩ (.slice c ys.length cc)) (.bool b) (.slice a xs.length ca)
  have g1 := (hT2.other w.heap.size (by omega) (by have := HZ.out; have := hT1.below.size; omega)).trans f1
  have g2 := turned2 (.bool b) (.slice a xs.length ca) f2
  have g3 := (hT2.other (w.heap.size + 2) (by omega) (by have := HZ.out; have := hT1.below.size; omega)).trans f3
  have hB2 := (hB0.trans hT1.below).trans (hT2.below.mono (by omega))
  have hz2 := hide (Nat.le_trans hT1.below.size hT2.below.size)
  clear f1 f2 f3
  go_wp2_with fail
  obtain ⟨w3, hw3⟩ : ∃ w3, ((((wc.setCell ⟨w.heap.size, 0, none⟩ (.bool d)).setCell ⟨w.heap.size, 1, none⟩ (.slice c ys.length cc)).setCell ⟨w.heap.size + 1, 0, none⟩ (.bool b)).setCell ⟨w.heap.size + 1, 1, none⟩ (.slice a xs.length ca)) = w3 := ⟨_, rfl⟩
  rw [hw3] at g1 g2 g3 hB2 hz2 ⊢
  clear hw3 hT1 hT2 hcn p0 p1 p2 p3 q0 q1 q2 q3
  replace HZ : Hid (w.heap.size + 3 ≤ w3.heap.size) := by have := HZ.out; have := hz2.out; rw [Hid]; omega
  clear hz2 hs0 hs0' e1 e2 e3 hB0
  have hB0 := hB2
  clear hB2
  refine (sub_yes (h'.below hB0) (h.below hB0) (by omega) (by omega) (Int.le_of_lt hlt)).mono ?_
  rintro e w1 ⟨a1, c1, zs, rfl, hs1, hn1, hv1, hl1, hb1⟩
  obtain ⟨i0, i1, _, _⟩ := two_cells g1 hb1 (by have := HZ.out; omega)
  have HV1 := hide hv1
  clear hv1 hlt
  go_wp2_with fail
  refine (swhole_any hs1 hn1 d).mono ?_
  rintro e w2 ⟨b2, rfl, hc2, hv2, hb2⟩
  have hb2' := hb1.trans (hb2.mono hb1.size)
  obtain ⟨r0, r1, r2, r3⟩ := two_cells g3 hb2' (by have := HZ.out; omega)
  have hT := turns2 (w.heap.size + 2) w2 (.bool b2) (.slice a1 zs.length c1)
  have HV2 := hide hv2
  clear hv2
  have hS := ((hs1.below hb2).turns_lo hT (by have := HZ.out; omega)).mono hB0.size
  have hbw2 := hB0.trans (hb2'.mono hB0.size)
  have hBB := hbw2.trans (hT.below.mono (by omega))
  go_wp2
  refine bodyPost_ret (v := .agg #[.bool b2, .slice a1 zs.length c1]) (by simp [results, Tryz.f103, go_sem, r0, r1]) rfl ?_
  exact ⟨b2, _, _, zs, rfl, hS, hc2, by rw [HV2.out, HV1.out]; exact (Int.add_comm (sgn d (val ys)) _ ▸ sgn_diff (by rw [Bool.beq_comm]; exact hne) _ _), by omega, hBB⟩
set_option maxRecDepth 100000 in
set_option maxHeartbeats 1000000 in
theorem sides_same (b : Bool) (a c : Option Addr) (n ca m cc : Nat) (w : World) :
    Calls Tryz.prog 104 #[.agg #[.bool b, .slice a n ca], .agg #[.bool b, .slice c m cc]] w fun e w' => e = .returned (.int .i64 0) ∧ Below w.heap.size w w' := by
  obtain ⟨_, _, hB0, _⟩ := two_new w (.cells #[.bool b, .slice a n ca] 29) (.cells #[.bool b, .slice c m cc] 29)
  go_enter Tryz.func104, Tryz.ntmps104
  go_wp2
  go_ret
  exact ⟨rfl, hB0⟩
set_option maxRecDepth 100000 in
set_option maxHeartbeats 1000000 in
theorem sides_other (b d : Bool) (hne : (b == d) = false) (a c : Option Addr) (n ca m cc : Nat) (w : World) :
    Calls Tryz.prog 104 #[.agg #[.bool b, .slice a n ca], .agg #[.bool d, .slice c m cc]] w fun e w' => e = .returned (.int .i64 1) ∧ Below w.heap.size w w' := by
  obtain ⟨_, _, hB0, _⟩ := two_new w (.cells #[.bool b, .slice a n ca] 29) (.cells #[.bool d, .slice c m cc] 29)
  go_enter Tryz.func104, Tryz.ntmps104
  go_wp2
  go_ret
  exact ⟨rfl, hB0⟩
theorem otherSide_any {lo lo' : Nat} {a c : Option Addr} {n ca m cc : Nat} {xs ys : List Int} {w : World} (b d : Bool) (hne : (b == d) = false) (h : Seg lo w (.slice a n ca) xs) (h' : Seg lo' w (.slice c m cc) ys) (hl : xs.length ≤ 2000) (hl' : ys.length ≤ 2000) :
    Calls Tryz.prog 103 #[.agg #[.bool b, .slice a n ca], .agg #[.bool d, .slice c m cc]] w fun e w' => ∃ (b' : Bool) (a' : Option Addr) (cap' : Nat) (ts : List Int), e = .returned (.agg #[.bool b', .slice a' ts.length cap']) ∧ Seg w.heap.size w' (.slice a' ts.length cap') ts ∧ Canon b' ts ∧ sgn b' (val ts) = sgn b (val xs) + sgn d (val ys) ∧ ts.length ≤ max xs.length ys.length + 1 ∧ Below w.heap.size w w' := by
  by_cases hv : val xs < val ys
  · exact otherSide_lt b d hne h h' hl hl' hv
  · exact otherSide_ge b d hne h h' hl hl' (Int.not_lt.1 hv)
theorem four_new (w : World) (A B C D : Obj) : (((((w.alloc A).alloc B).alloc C).alloc D).heap[w.heap.size]? = some A) ∧ (((((w.alloc A).alloc B).alloc C).alloc D).heap[w.heap.size + 1]? = some B) ∧ (((((w.alloc A).alloc B).alloc C).alloc D).heap[w.heap.size + 2]? = some C) ∧ (((((w.alloc A).alloc B).alloc C).alloc D).heap[w.heap.size + 3]? = some D) ∧ Below w.heap.size w ((((w.alloc A).alloc B).alloc C).alloc D) ∧ ((((w.alloc A).alloc B).alloc C).alloc D).heap.size = w.heap.size + 4 := by
  obtain ⟨h1, h2, h3, hb, hz⟩ := three_new w A B C
  have h4 := World.alloc_heap_new (((w.alloc A).alloc B).alloc C) D
  have b4 : Below (((w.alloc A).alloc B).alloc C).heap.size (((w.alloc A).alloc B).alloc C) ((((w.alloc A).alloc B).alloc C).alloc D) := (Below.refl _ _).alloc (Nat.le_refl _) _
  rw [hz] at h4
  exact ⟨(b4.block _ (by omega)).trans h1, (b4.block _ (by omega)).trans h2, (b4.block _ (by omega)).trans h3, h4, hb.trans (b4.mono hb.size), by rw [World.size_alloc, hz]⟩
set_option maxRecDepth 100000 in
set_option maxHeartbeats 2000000 in
theorem sadd_same {lo lo' : Nat} {a c : Option Addr} {n ca m cc : Nat} {xs ys : List Int} {w : World} (b : Bool) (h : Seg lo w (.slice a n ca) xs) (h' : Seg lo' w (.slice c m cc) ys) (hl : xs.length ≤ 2000) (hl' : ys.length ≤ 2000) :
    Calls Tryz.prog 92 #[.agg #[.bool b, .slice a n ca], .agg #[.bool b, .slice c m cc]] w fun e w' => ∃ (b' : Bool) (a' : Option Addr) (cap' : Nat) (ts : List Int), e = .returned (.agg #[.bool b', .slice a' ts.length cap']) ∧ Seg w.heap.size w' (.slice a' ts.length cap') ts ∧ Canon b' ts ∧ sgn b' (val ts) = sgn b (val xs) + sgn b (val ys) ∧ ts.length ≤ max xs.length ys.length + 1 ∧ Below w.heap.size w w' := by
  obtain ⟨rfl, _⟩ := h.len
  obtain ⟨rfl, _⟩ := h'.len
  obtain ⟨e1, e2, e3, e4, hB0, hz⟩ := four_new w (.cells #[.bool b, .slice a xs.length ca] 29) (.cells #[.bool b, .slice c ys.length cc] 29) (.cells #[.bool false, .slice none 0 0] 29) (.cells #[.func (.func 102) #[] #[], .func (.func 103) #[] #[]] 123)
  go_enter Tryz.func92, Tryz.ntmps92
  go_wp2_with fail
  obtain ⟨w0, hw0⟩ : ∃ w0, ((((w.alloc (.cells #[.bool b, .slice a xs.length ca] 29)).alloc (.cells #[.bool b, .slice c ys.length cc] 29)).alloc (.cells #[.bool false, .slice none 0 0] 29)).alloc (.cells #[.func (.func 102) #[] #[], .func (.func 103) #[] #[]] 123)) = w0 := ⟨_, rfl⟩
  rw [hw0] at e1 e2 e3 e4 hB0 hz ⊢
  have HZ := hide hz
  clear hw0 hz
  have hsd : ∀ W : World, Calls Tryz.prog 104 #[.agg #[.bool b, .slice a xs.length ca], .agg #[.bool b, .slice c ys.length cc]] W fun e w' => e = .returned (.int .i64 0) ∧ Below W.heap.size W w' := fun W => sides_same _ _ _ _ _ _ _ W
  have hcl := fun (W : World) (hW : Below w0.heap.size w0 W) => sameSide_any b ((h.below hB0).below hW) ((h'.below hB0).below hW) hl hl'
  have hkeep : ∀ W : World, (∀ k, k ≠ w.heap.size + 2 → k < w.heap.size + 4 → W.heap[k]? = w0.heap[k]?) → W.cell? ⟨w.heap.size, 0, none⟩ = some (.bool b) ∧ W.cell? ⟨w.heap.size, 1, none⟩ = some (.slice a xs.length ca) ∧ W.cell? ⟨w.heap.size + 1, 0, none⟩ = some (.bool b) ∧ W.cell? ⟨w.heap.size + 1, 1, none⟩ = some (.slice c ys.length cc) ∧ W.cell? ⟨w.heap.size + 3, 0, none⟩ = some (.func (.func 102) #[] #[]) ∧ W.cell? ⟨w.heap.size + 3, 1, none⟩ = some (.func (.func 103) #[] #[]) := fun W hW => by
    have g1 := (hW _ (by omega) (by omega)).trans e1
    have g2 := (hW _ (by omega) (by omega)).trans e2
    have g4 := (hW _ (by omega) (by omega)).trans e4
    exact ⟨cell_of_heap g1 0, cell_of_heap g1 1, cell_of_heap g2 0, cell_of_heap g2 1, cell_of_heap g4 0, cell_of_heap g4 1⟩
  go_region_held3 (fun W : World => W.cell? ⟨w.heap.size, 0, none⟩ = some (.bool b) ∧ W.cell? ⟨w.heap.size, 1, none⟩ = some (.slice a xs.length ca) ∧ W.cell? ⟨w.heap.size + 1, 0, none⟩ = some (.bool b) ∧ W.cell? ⟨w.heap.size + 1, 1, none⟩ = some (.slice c ys.length cc) ∧ W.cell? ⟨w.heap.size + 3, 0, none⟩ = some (.func (.func 102) #[] #[]) ∧ W.cell? ⟨w.heap.size + 3, 1, none⟩ = some (.func (.func 103) #[] #[]))
    (first | exact hkeep _ (fun _ _ _ => rfl) | exact hk1.out | exact hk2.out | exact hk3.out)
    (first
    | (go_at_call 104
       refine (hsd _).mono ?_
       rintro e w1 ⟨rfl, hb1⟩
       have hb1' : Below w0.heap.size w0 w1 := ⟨hb1.1, hb1.2, hb1.3, hb1.4, hb1.5⟩
       have hk1 := hide (hkeep w1 (fun k _ hk => hb1'.block k (by have := HZ.out; omega)))
       clear hb1)
    | (go_at_call 102
       refine (hcl _ ?_).mono ?_
       exact ⟨hb1'.1, hb1'.2, hb1'.3, hb1'.4, hb1'.5⟩
       rintro e w2 ⟨b2, a2, c2, ts, rfl, hs2, hc2, hv2, hl2, hb2⟩
       have hb2' : Below w0.heap.size w0 w2 := hb1'.trans (hb2.mono hb1'.size)
       obtain ⟨r0, r1, r2, r3⟩ := two_cells e3 hb2' (by have := HZ.out; omega)
       have hT := turns2 (w.heap.size + 2) w2 (.bool b2) (.slice a2 ts.length c2)
       have hk2 := hide (hkeep w2 (fun k _ hk => hb2'.block k (by have := HZ.out; omega)))
       have hk3 := hide (hkeep _ (fun k hk1 hk => (hT.other k hk1 (by have := HZ.out; have := hb2'.size; omega)).trans (hb2'.block k (by have := HZ.out; omega))))
       have HV2 := hide hv2
       clear hv2))
  all_goals
    have hS := (hs2.turns_lo hT (by have := HZ.out; have := hb1'.size; show _ < w1.heap.size; omega)).mono (show w.heap.size ≤ w1.heap.size from Nat.le_trans hB0.size hb1'.size)
    have hBB := (hB0.trans (hb2'.mono hB0.size)).trans (hT.below.mono (by omega))
    go_wp2
    refine bodyPost_ret (v := .agg #[.bool b2, .slice a2 ts.length c2]) (by simp [results, Tryz.f92, go_sem, r0, r1]) rfl ?_
    exact ⟨b2, _, _, ts, rfl, hS, hc2, HV2.out, hl2, hBB⟩
set_option maxRecDepth 100000 in
set_option maxHeartbeats 2000000 in
theorem sadd_other {lo lo' : Nat} {a c : Option Addr} {n ca m cc : Nat} {xs ys : List Int} {w : World} (b d : Bool) (h : Seg lo w (.slice a n ca) xs) (h' : Seg lo' w (.slice c m cc) ys) (hl : xs.length ≤ 2000) (hl' : ys.length ≤ 2000) (hne : (b == d) = false) :
    Calls Tryz.prog 92 #[.agg #[.bool b, .slice a n ca], .agg #[.bool d, .slice c m cc]] w fun e w' => ∃ (b' : Bool) (a' : Option Addr) (cap' : Nat) (ts : List Int), e = .returned (.agg #[.bool b', .slice a' ts.length cap']) ∧ Seg w.heap.size w' (.slice a' ts.length cap') ts ∧ Canon b' ts ∧ sgn b' (val ts) = sgn b (val xs) + sgn d (val ys) ∧ ts.length ≤ max xs.length ys.length + 1 ∧ Below w.heap.size w w' := by
  obtain ⟨rfl, _⟩ := h.len
  obtain ⟨rfl, _⟩ := h'.len
  obtain ⟨e1, e2, e3, e4, hB0, hz⟩ := four_new w (.cells #[.bool b, .slice a xs.length ca] 29) (.cells #[.bool d, .slice c ys.length cc] 29) (.cells #[.bool false, .slice none 0 0] 29) (.cells #[.func (.func 102) #[] #[], .func (.func 103) #[] #[]] 123)
  go_enter Tryz.func92, Tryz.ntmps92
  go_wp2_with fail
  obtain ⟨w0, hw0⟩ : ∃ w0, ((((w.alloc (.cells #[.bool b, .slice a xs.length ca] 29)).alloc (.cells #[.bool d, .slice c ys.length cc] 29)).alloc (.cells #[.bool false, .slice none 0 0] 29)).alloc (.cells #[.func (.func 102) #[] #[], .func (.func 103) #[] #[]] 123)) = w0 := ⟨_, rfl⟩
  rw [hw0] at e1 e2 e3 e4 hB0 hz ⊢
  have HZ := hide hz
  clear hw0 hz
  have hsd : ∀ W : World, Calls Tryz.prog 104 #[.agg #[.bool b, .slice a xs.length ca], .agg #[.bool d, .slice c ys.length cc]] W fun e w' => e = .returned (.int .i64 1) ∧ Below W.heap.size W w' := fun W => sides_other _ _ hne _ _ _ _ _ _ W
  have hcl := fun (W : World) (hW : Below w0.heap.size w0 W) => otherSide_any b d hne ((h.below hB0).below hW) ((h'.below hB0).below hW) hl hl'
  have hkeep : ∀ W : World, (∀ k, k ≠ w.heap.size + 2 → k < w.heap.size + 4 → W.heap[k]? = w0.heap[k]?) → W.cell? ⟨w.heap.size, 0, none⟩ = some (.bool b) ∧ W.cell? ⟨w.heap.size, 1, none⟩ = some (.slice a xs.length ca) ∧ W.cell? ⟨w.heap.size + 1, 0, none⟩ = some (.bool d) ∧ W.cell? ⟨w.heap.size + 1, 1, none⟩ = some (.slice c ys.length cc) ∧ W.cell? ⟨w.heap.size + 3, 0, none⟩ = some (.func (.func 102) #[] #[]) ∧ W.cell? ⟨w.heap.size + 3, 1, none⟩ = some (.func (.func 103) #[] #[]) := fun W hW => by
    have g1 := (hW _ (by omega) (by omega)).trans e1
    have g2 := (hW _ (by omega) (by omega)).trans e2
    have g4 := (hW _ (by omega) (by omega)).trans e4
    exact ⟨cell_of_heap g1 0, cell_of_heap g1 1, cell_of_heap g2 0, cell_of_heap g2 1, cell_of_heap g4 0, cell_of_heap g4 1⟩
  go_region_held3 (fun W : World => W.cell? ⟨w.heap.size, 0, none⟩ = some (.bool b) ∧ W.cell? ⟨w.heap.size, 1, none⟩ = some (.slice a xs.length ca) ∧ W.cell? ⟨w.heap.size + 1, 0, none⟩ = some (.bool d) ∧ W.cell? ⟨w.heap.size + 1, 1, none⟩ = some (.slice c ys.length cc) ∧ W.cell? ⟨w.heap.size + 3, 0, none⟩ = some (.func (.func 102) #[] #[]) ∧ W.cell? ⟨w.heap.size + 3, 1, none⟩ = some (.func (.func 103) #[] #[]))
    (first | exact hkeep _ (fun _ _ _ => rfl) | exact hk1.out | exact hk2.out | exact hk3.out)
    (first
    | (go_at_call 104
       refine (hsd _).mono ?_
       rintro e w1 ⟨rfl, hb1⟩
       have hb1' : Below w0.heap.size w0 w1 := ⟨hb1.1, hb1.2, hb1.3, hb1.4, hb1.5⟩
       have hk1 := hide (hkeep w1 (fun k _ hk => hb1'.block k (by have := HZ.out; omega)))
       clear hb1)
    | (go_at_call 103
       refine (hcl _ ?_).mono ?_
       exact ⟨hb1'.1, hb1'.2, hb1'.3, hb1'.4, hb1'.5⟩
       rintro e w2 ⟨b2, a2, c2, ts, rfl, hs2, hc2, hv2, hl2, hb2⟩
       have hb2' : Below w0.heap.size w0 w2 := hb1'.trans (hb2.mono hb1'.size)
       obtain ⟨r0, r1, r2, r3⟩ := two_cells e3 hb2' (by have := HZ.out; omega)
       have hT := turns2 (w.heap.size + 2) w2 (.bool b2) (.slice a2 ts.length c2)
       have hk2 := hide (hkeep w2 (fun k _ hk => hb2'.block k (by have := HZ.out; omega)))
       have hk3 := hide (hkeep _ (fun k hk1 hk => (hT.other k hk1 (by have := HZ.out; have := hb2'.size; omega)).trans (hb2'.block k (by have := HZ.out; omega))))
       have HV2 := hide hv2
       clear hv2))
  all_goals
    have hS := (hs2.turns_lo hT (by have := HZ.out; have := hb1'.size; show _ < w1.heap.size; omega)).mono (show w.heap.size ≤ w1.heap.size from Nat.le_trans hB0.size hb1'.size)
    have hBB := (hB0.trans (hb2'.mono hB0.size)).trans (hT.below.mono (by omega))
    go_wp2
    refine bodyPost_ret (v := .agg #[.bool b2, .slice a2 ts.length c2]) (by simp [results, Tryz.f92, go_sem, r0, r1]) rfl ?_
    exact ⟨b2, _, _, ts, rfl, hS, hc2, HV2.out, hl2, hBB⟩
theorem sadd_any {lo lo' : Nat} {a c : Option Addr} {n ca m cc : Nat} {xs ys : List Int} {w : World} (b d : Bool) (h : Seg lo w (.slice a n ca) xs) (h' : Seg lo' w (.slice c m cc) ys) (hl : xs.length ≤ 2000) (hl' : ys.length ≤ 2000) :
    Calls Tryz.prog 92 #[.agg #[.bool b, .slice a n ca], .agg #[.bool d, .slice c m cc]] w fun e w' => ∃ (b' : Bool) (a' : Option Addr) (cap' : Nat) (ts : List Int), e = .returned (.agg #[.bool b', .slice a' ts.length cap']) ∧ Seg w.heap.size w' (.slice a' ts.length cap') ts ∧ Canon b' ts ∧ sgn b' (val ts) = sgn b (val xs) + sgn d (val ys) ∧ ts.length ≤ max xs.length ys.length + 1 ∧ Below w.heap.size w w' := by
  by_cases hbd : b = d
  · subst hbd
    exact sadd_same b h h' hl hl'
  · exact sadd_other b d h h' hl hl' (beq_eq_false_iff_ne.2 hbd)
theorem blen_ne {v : Int} (h : 0 < v) : ((blen v : Int) == 0) = false := by
  have := blen_pos h
  exact beq_eq_false_iff_ne.2 (by omega)
set_option maxRecDepth 100000 in
set_option maxHeartbeats 2000000 in
theorem sided_any {lo : Nat} {a : Option Addr} {n cap : Nat} {zs : List Int} {w : World} (b : Bool) (h : Seg lo w (.slice a n cap) zs) (hl : zs.length ≤ 10000) {K : World → Prop} (hK : ∀ W, K W → Seg lo W (.slice a n cap) zs) :
    Calls Tryz.prog 37 #[.agg #[.bool b, .slice a n cap]] w fun e w' => ∃ (b' : Bool) (a' : Option Addr) (cap' : Nat) (ts : List Int), e = .returned (.agg #[.bool b', .slice a' ts.length cap']) ∧ (∀ W, K W → Seg 0 W (.slice a' ts.length cap') ts) ∧ ((ts = [] ∧ b' = false) ∨ 0 < val ts) ∧ sgn b' (val ts) = sgn b (val zs) ∧ ts.length ≤ zs.length ∧ Below w.heap.size w w' := by
  obtain ⟨rfl, _⟩ := h.len
  obtain ⟨e1, e2, hB0, hz⟩ := two_new w (.cells #[.bool b, .slice a zs.length cap] 29) (.cells #[.bool false, .slice none 0 0] 29)
  have HZ := hide hz
  have hlen := len_any (h.below hB0) hl
  have hp := val_nonneg h.words
  clear hz
  by_cases h0 : val zs = 0
  · rw [h0, show blen 0 = 0 from rfl] at hlen
    have H0 := hide h0
    clear h0 hp
    go_enter Tryz.func37, Tryz.ntmps37
    go_wp2_with fail
    refine hlen.mono ?_
    rintro e w1 ⟨rfl, hb1⟩
    obtain ⟨k0, k1, k2, k3⟩ := two_cells e1 hb1 (by have := HZ.out; omega)
    obtain ⟨r0, r1, r2, r3⟩ := two_cells e2 hb1 (by have := HZ.out; omega)
    have hBB := (hB0.trans (hb1.mono hB0.size)).trans ((turns2 (w.heap.size + 1) w1 (.bool false) (.slice none 0 0)).below.mono (by omega))
    clear hlen
    go_wp2
    refine bodyPost_ret (v := .agg #[.bool false, .slice none 0 0]) (by simp [results, Tryz.f37, go_sem, r0, r1]) rfl ?_
    exact ⟨false, none, 0, [], rfl, fun W _ => Seg.nil 0 W, Or.inl ⟨rfl, rfl⟩, by rw [H0.out]; cases b <;> rfl, by simp, hBB⟩
  · have hpos : 0 < val zs := by omega
    have hne := blen_ne hpos
    have HP := hide hpos
    clear h0 hp hpos
    go_enter Tryz.func37, Tryz.ntmps37
    go_wp2_with fail
    refine hlen.mono ?_
    rintro e w1 ⟨rfl, hb1⟩
    obtain ⟨k0, k1, k2, k3⟩ := two_cells e1 hb1 (by have := HZ.out; omega)
    obtain ⟨r0, r1, r2, r3⟩ := two_cells e2 hb1 (by have := HZ.out; omega)
    have hBB := (hB0.trans (hb1.mono hB0.size)).trans ((turns2 (w.heap.size + 1) w1 (.bool b) (.slice a zs.length cap)).below.mono (by omega))
    clear hlen
    go_wp2
    refine bodyPost_ret (v := .agg #[.bool b, .slice a zs.length cap]) (by simp [results, Tryz.f37, go_sem, r0, r1]) rfl ?_
    exact ⟨b, a, cap, zs, rfl, fun W hW => (hK W hW).mono (Nat.zero_le _), Or.inr HP.out, rfl, Nat.le_refl _, hBB⟩
set_option maxRecDepth 100000 in
set_option maxHeartbeats 2000000 in
theorem ssign_any {lo : Nat} {a : Option Addr} {n cap : Nat} {zs : List Int} {w : World} (b : Bool) (h : Seg lo w (.slice a n cap) zs) (hl : zs.length ≤ 10000) :
    Calls Tryz.prog 26 #[.agg #[.bool b, .slice a n cap]] w fun e w' => e = .returned (.int .i64 (cmpI (sgn b (val zs)) 0)) ∧ Below w.heap.size w w' := by
  have hB0 : Below w.heap.size w (w.alloc (.cells #[.bool b, .slice a n cap] 29)) := (Below.refl _ w).alloc (Nat.le_refl _) _
  have e1 := World.alloc_heap_new w (.cells #[.bool b, .slice a n cap] 29)
  have HZ : Hid ((w.alloc (.cells #[.bool b, .slice a n cap] 29)).heap.size = w.heap.size + 1) := by rw [Hid]; simp
  have hm := sided_any b (h.below hB0) hl (K := fun _ => False) (fun _ h => h.elim)
  go_enter Tryz.func26, Tryz.ntmps26
  go_wp2_with fail
  refine hm.mono ?_
  rintro e w1 ⟨b1, a1, c1, ts, rfl, _, hor, hv1, hl1, hb1⟩
  obtain ⟨k0, k1, f0, f1⟩ := two_cells e1 hb1 (by have := HZ.out; omega)
  have hT := turns2 w.heap.size w1 (.bool b1) (.slice a1 ts.length c1)
  have hBB := (hB0.trans (hb1.mono hB0.size)).trans hT.below
  have HV := hide hv1
  clear hm hv1 e1
  rcases hor with ⟨rfl, rfl⟩ | hp
  · go_wp2
    go_ret
    exact ⟨ret_int (by rw [← HV.out]; rfl), hBB⟩
  · cases b1 with
    | true =>
      have HF : Hid (cmpI (sgn true (val ts)) 0 = -1) := by rw [Hid]; exact cmpI_lt (by simp [sgn]; omega)
      clear hp
      go_wp2
      go_ret
      exact ⟨ret_int (by rw [← HV.out, HF.out]), hBB⟩
    | false =>
      have h0 : ts ≠ [] := by rintro rfl; rw [val_nil] at hp; omega
      have hz : ((ts.length : Int) == 0) = false := beq_eq_false_iff_ne.2 (by have := List.length_pos_iff.2 h0; omega)
      have HF : Hid (cmpI (sgn false (val ts)) 0 = 1) := by rw [Hid]; exact cmpI_gt (by simp [sgn]; omega)
      clear hp h0
      go_wp2
      go_ret
      exact ⟨ret_int (by rw [← HV.out, HF.out]), hBB⟩
theorem cmpI_neg (x y : Int) : cmpI (-x) (-y) = cmpI y x := by
  rcases Int.lt_trichotomy x y with g | g | g
  · rw [cmpI_gt g, cmpI_gt (by omega)]
  · rw [g, cmpI_eq, cmpI_eq]
  · rw [cmpI_lt g, cmpI_lt (by omega)]
set_option maxRecDepth 100000 in
set_option maxHeartbeats 4000000 in
theorem scmp_any {lo lo' : Nat} {a c : Option Addr} {n ca m cc : Nat} {xs ys : List Int} {w : World} (b d : Bool) (h : Seg lo w (.slice a n ca) xs) (h' : Seg lo' w (.slice c m cc) ys) (hl : xs.length ≤ 2000) (hl' : ys.length ≤ 2000) :
    Calls Tryz.prog 19 #[.agg #[.bool b, .slice a n ca], .agg #[.bool d, .slice c m cc]] w fun e w' => e = .returned (.int .i64 (cmpI (sgn b (val xs)) (sgn d (val ys)))) ∧ Below w.heap.size w w' := by
  obtain ⟨rfl, _⟩ := h.len
  obtain ⟨rfl, _⟩ := h'.len
  obtain ⟨e1, e2, hB0, hz⟩ := two_new w (.cells #[.bool b, .slice a xs.length ca] 29) (.cells #[.bool d, .slice c ys.length cc] 29)
  go_enter Tryz.func19, Tryz.ntmps19
  go_wp2_with fail
  obtain ⟨w0, hw0⟩ : ∃ w0, ((w.alloc (.cells #[.bool b, .slice a xs.length ca] 29)).alloc (.cells #[.bool d, .slice c ys.length cc] 29)) = w0 := ⟨_, rfl⟩
  rw [hw0] at e1 e2 hB0 hz ⊢
  have HZ := hide hz
  clear hw0 hz
  have hsA := fun W (hW : Below w0.heap.size w0 W) => sided_any b ((h.below hB0).below hW) (by omega) (K := fun V => Below w.heap.size w V) (fun V hV => h.below hV)
  have hsB := fun W (hW : Below w0.heap.size w0 W) => sided_any d ((h'.below hB0).below hW) (by omega) (K := fun V => Below w.heap.size w V) (fun V hV => h'.below hV)
  obtain ⟨p0, p1, p2, p3⟩ := two_cells e1 (Below.refl w0.heap.size w0) (by have := HZ.out; omega)
  obtain ⟨q0, q1, q2, q3⟩ := two_cells e2 (Below.refl w0.heap.size w0) (by have := HZ.out; omega)
  have m1 : Hid True := trivial
  go_region_with
    (first
    | (go_at_call 37
       clear m1
       refine (hsA _ ?_).mono ?_
       exact ⟨rfl, rfl, rfl, Nat.le_refl _, fun _ _ => rfl⟩
       rintro e w1 ⟨b1, a1, c1, t1, rfl, hk1, ho1, hv1, hl1, hb1⟩
       have hb1' : Below w0.heap.size w0 w1 := ⟨hb1.1, hb1.2, hb1.3, hb1.4, hb1.5⟩
       obtain ⟨i0, i1, i2, i3⟩ := two_cells e1 hb1' (by have := HZ.out; omega)
       obtain ⟨j0, j1, j2, j3⟩ := two_cells e2 hb1' (by have := HZ.out; omega)
       have HV1 := hide hv1
       have HO1 := hide ho1
       have HK1 := hide hk1
       clear hb1 hv1 ho1 hk1)
    | (go_at_call 37
       refine (hsB _ ?_).mono ?_
       exact ⟨hb1'.1, hb1'.2, hb1'.3, hb1'.4, hb1'.5⟩
       rintro e w2 ⟨b2, a2, c2, t2, rfl, hk2, ho2, hv2, hl2, hb2⟩
       have hb2' : Below w0.heap.size w0 w2 := hb1'.trans (Below.mono ⟨hb2.1, hb2.2, hb2.3, hb2.4, hb2.5⟩ hb1'.size)
       obtain ⟨k0, k1, k2, k3⟩ := two_cells e1 hb2' (by have := HZ.out; omega)
       obtain ⟨l0, l1, l2, l3⟩ := two_cells e2 hb2' (by have := HZ.out; omega)
       have HV2 := hide hv2
       have HO2 := hide ho2
       have HK2 := hide hk2
       clear hb2 hv2 ho2 hk2))
  all_goals
    have E1 := (hb2'.block _ (by have := HZ.out; omega)).trans e1
    have E2 := (hb2'.block _ (by have := HZ.out; omega)).trans e2
    have hz2 := hide (Nat.le_trans (Nat.le_of_eq HZ.out.symm) hb2'.size)
    have hT1 := turns2 w.heap.size w2 (.bool b1) (.slice a1 t1.length c1)
    have f1 := turned2 (.bool b1) (.slice a1 t1.length c1) E1
    have f2 := (hT1.other (w.heap.size + 1) (by omega) (by have := hz2.out; omega)).trans E2
    have hT2 := turns2 (w.heap.size + 1) ((w2.setCell ⟨w.heap.size, 0, none⟩ (.bool b1)).setCell ⟨w.heap.size, 1, none⟩ (.slice a1 t1.length c1)) (.bool b2) (.slice a2 t2.length c2)
    have g1 := (hT2.other w.heap.size (by omega) (by have := hz2.out; have := hT1.below.size; omega)).trans f1
    have g2 := turned2 (.bool b2) (.slice a2 t2.length c2) f2
    have hB2 := ((hB0.trans (hb2'.mono hB0.size)).trans hT1.below).trans (hT2.below.mono (by omega))
    have hz3 := hide (Nat.le_trans (Nat.le_trans hz2.out hT1.below.size) hT2.below.size)
    obtain ⟨w3, hw3⟩ : ∃ w3, ((((w2.setCell ⟨w.heap.size, 0, none⟩ (.bool b1)).setCell ⟨w.heap.size, 1, none⟩ (.slice a1 t1.length c1)).setCell ⟨w.heap.size + 1, 0, none⟩ (.bool b2)).setCell ⟨w.heap.size + 1, 1, none⟩ (.slice a2 t2.length c2)) = w3 := ⟨_, rfl⟩
    rw [hw3] at g1 g2 hB2 hz3 ⊢
    have s1 := HK1.out w3 hB2
    have s2 := HK2.out w3 hB2
    have hc12 := cmp_any s1 s2 (by omega) (by omega)
    have hc21 := cmp_any s2 s1 (by omega) (by omega)
    have n1 := val_nonneg s1.words
    have n2 := val_nonneg s2.words
    clear hw3 hT1 hT2 f1 f2 E1 E2 p0 p1 p2 p3 q0 q1 q2 q3 i0 i1 i2 i3 j0 j1 j2 j3 k0 k1 k2 k3 l0 l1 l2 l3 hsA hsB
    obtain ⟨x0, x1, _, _⟩ := two_cells g1 (Below.refl w3.heap.size w3) (by have := hz3.out; omega)
    obtain ⟨y0, y1, _, _⟩ := two_cells g2 (Below.refl w3.heap.size w3) (by have := hz3.out; omega)
    cases b1 with
    | true =>
      have hp1 : 0 < val t1 := by rcases HO1.out with ⟨_, g⟩ | g; cases g; exact g
      cases b2 with
      | true =>
        clear n1 n2 hp1 hc12
        go_wp2_with fail
        refine hc21.mono ?_
        rintro e w4 ⟨rfl, hb4⟩
        clear hc21
        go_wp2
        go_ret
        exact ⟨ret_int (by rw [← HV1.out, ← HV2.out]; simp only [sgn, if_pos]; rw [cmpI_neg]), hB2.trans (hb4.mono hB2.size)⟩
      | false =>
        have HF : Hid (cmpI (sgn true (val t1)) (sgn false (val t2)) = -1) := by rw [Hid]; exact cmpI_lt (by simp [sgn]; omega)
        clear n1 n2 hp1 hc12 hc21
        go_wp2
        go_ret
        exact ⟨ret_int (by rw [← HV1.out, ← HV2.out, HF.out]), hB2⟩
    | false =>
      cases b2 with
      | true =>
        have hp2 : 0 < val t2 := by rcases HO2.out with ⟨_, g⟩ | g; cases g; exact g
        have HF : Hid (cmpI (sgn false (val t1)) (sgn true (val t2)) = 1) := by rw [Hid]; exact cmpI_gt (by simp [sgn]; omega)
        clear n1 n2 hp2 hc12 hc21
        go_wp2
        go_ret
        exact ⟨ret_int (by rw [← HV1.out, ← HV2.out, HF.out]), hB2⟩
      | false =>
        clear n1 n2 hc21
        go_wp2_with fail
        refine hc12.mono ?_
        rintro e w4 ⟨rfl, hb4⟩
        clear hc12
        go_wp2
        go_ret
        exact ⟨ret_int (by rw [← HV1.out, ← HV2.out]; rfl), hB2.trans (hb4.mono hB2.size)⟩
structure Fr (lo : Nat) (W : World) (a : Option Addr) (ca : Nat) (xs : List Int) (c : Option Addr) (cc : Nat) (ds : List Int) : Prop where
  up : Seg lo W (.slice a xs.length ca) xs
  down : Seg lo W (.slice c ds.length cc) ds
theorem Fr.below {lo : Nat} {W W' : World} {a c : Option Addr} {ca cc : Nat} {xs ds : List Int} (h : Fr lo W a ca xs c cc ds) (hb : Below W.heap.size W W') : Fr lo W' a ca xs c cc ds := ⟨h.up.below hb, h.down.below hb⟩
theorem Fr.mono {lo lo' : Nat} {W : World} {a c : Option Addr} {ca cc : Nat} {xs ds : List Int} (h : Fr lo W a ca xs c cc ds) (hl : lo' ≤ lo) : Fr lo' W a ca xs c cc ds := ⟨h.up.mono hl, h.down.mono hl⟩
theorem Fr.drew {lo : Nat} {W : World} {a c : Option Addr} {ca cc : Nat} {xs ds : List Int} (h : Fr lo W a ca xs c cc ds) : Fr lo W.drew a ca xs c cc ds := ⟨h.up.drew, h.down.drew⟩
structure Is (b : Bool) (xs ds : List Int) (q : Rat) (n : Nat) : Prop where
  low : LowL b xs ds
  rat : ratL b xs ds = q
  lu : xs.length ≤ n
  ld : ds.length ≤ n
theorem Is.mono {b : Bool} {xs ds : List Int} {q : Rat} {n m : Nat} (h : Is b xs ds q n) (hm : n ≤ m) : Is b xs ds q m := ⟨h.low, h.rat, Nat.le_trans h.lu hm, Nat.le_trans h.ld hm⟩
theorem Is.to {b : Bool} {xs ds : List Int} {q r : Rat} {n : Nat} (h : Is b xs ds q n) (e : q = r) : Is b xs ds r n := e ▸ h
theorem gcdI_posR {a b : Int} (hb : 0 < b) : 0 < gcdI a b := by
  unfold gcdI
  have : 0 < Nat.gcd a.toNat b.toNat := Nat.gcd_pos_of_pos_right _ (by omega)
  omega
theorem formOf_norm {zs : List Int} : formOf zs = 0 ↔ Norm zs := by
  unfold formOf Norm
  split
  · rename_i h; simp [h]
  · rename_i h; simp [h]
theorem formI_canon {b : Bool} {zs : List Int} : formI b zs = 0 ↔ Canon b zs := by
  unfold formI Canon
  by_cases hn : Norm zs
  · rw [formOf_norm.2 hn]
    cases b
    · simp [hn]
    · by_cases hz : zs = []
      · subst hz; simp
      · simp [hn, hz]
  · have : formOf zs ≠ 0 := fun h => hn (formOf_norm.1 h)
    simp [this, hn]
def formR (b : Bool) (xs ds : List Int) : Int := if formI b xs = 0 ∧ formOf ds = 0 ∧ ds ≠ [] ∧ gcdI (val xs) (val ds) = 1 then 0 else 6
theorem formR_low {b : Bool} {xs ds : List Int} (hx : Words xs) (hd : Words ds) : formR b xs ds = 0 ↔ LowL b xs ds := by
  unfold formR LowL Low
  rw [sgn_gcd]
  have hgc := gcdI_gcd (val_nonneg hx) (val_nonneg hd)
  constructor
  · intro h
    split at h
    · rename_i g
      have g2 := formOf_norm.1 g.2.1
      exact ⟨formI_canon.1 g.1, g2, norm_pos hd g2 g.2.2.1, by have := g.2.2.2; omega⟩
    · exact absurd h (by decide)
  · rintro ⟨h1, h2, h3, h4⟩
    rw [if_pos]
    refine ⟨formI_canon.2 h1, formOf_norm.2 h2, ?_, by omega⟩
    rintro rfl
    rw [val_nil] at h3
    omega
theorem formR_or (b : Bool) (xs ds : List Int) : formR b xs ds = 0 ∨ formR b xs ds = 6 := by unfold formR; split <;> simp
set_option maxRecDepth 100000 in
set_option maxHeartbeats 1000000 in
theorem share_any {lo lo' : Nat} {a b : Option Addr} {la lb ca cb : Nat} {xs ys : List Int} {w : World} (ha : Seg lo w (.slice a la ca) xs) (hb : Seg lo' w (.slice b lb cb) ys) (hla : xs.length ≤ 1000) (hlb : ys.length ≤ 1000) :
    Calls Tryz.prog 64 #[.slice a la ca, .slice b lb cb] w fun e w' => ∃ (a1 : Option Addr) (c1 : Nat) (qs : List Int), e = .returned (.slice a1 qs.length c1) ∧ Seg w.heap.size w' (.slice a1 qs.length c1) qs ∧ Norm qs ∧ Hid (val qs = val xs / val ys) ∧ qs.length ≤ xs.length ∧ Below w.heap.size w w' := by
  have hd := qdiv_all ha hb hla hlb
  have hx0 := val_nonneg ha.words
  have hlt := val_lt ha.words
  generalize errZ (val ys) = er at *
  go_enter Tryz.func64, Tryz.ntmps64
  go_wp2_with fail
  refine hd.mono ?_
  rintro e w1 ⟨a1, a2, c1, c2, qs, rs, rfl, hq, hr, nq, nr, vq, vr, hap, hb1⟩
  have hl : qs.length ≤ xs.length := by
    refine len_below hq.words nq ?_
    rw [vq]
    exact Int.lt_of_le_of_lt (Int.ediv_le_self _ hx0) hlt
  have HV := hide vq
  clear vq vr hap hd
  go_wp2
  go_ret
  exact ⟨_, _, qs, rfl, hq, nq, HV, hl, hb1⟩
set_option maxRecDepth 100000 in
set_option maxHeartbeats 1000000 in
theorem lowest_any {lo lo' : Nat} {a b : Option Addr} {la lb ca cb : Nat} {xs ys : List Int} {w : World} (ha : Seg lo w (.slice a la ca) xs) (hb : Seg lo' w (.slice b lb cb) ys) (hla : xs.length ≤ 1000) (hlb : ys.length ≤ 1000) (hy : 0 < val ys) :
    Calls Tryz.prog 49 #[.slice a la ca, .slice b lb cb] w fun e w' => ∃ (a1 a2 : Option Addr) (c1 c2 : Nat) (qs rs : List Int), e = .returned (.tuple #[.slice a1 qs.length c1, .slice a2 rs.length c2]) ∧ Fr w.heap.size w' a1 c1 qs a2 c2 rs ∧ Norm qs ∧ Norm rs ∧ Hid (val qs = val xs / gcdI (val xs) (val ys)) ∧ Hid (val rs = val ys / gcdI (val xs) (val ys)) ∧ qs.length ≤ xs.length ∧ rs.length ≤ ys.length ∧ Apart a1 a2 qs rs ∧ Below w.heap.size w w' := by
  have hg := qgcd_any ha hb hla hlb
  have hx0 := val_nonneg ha.words
  have hgl : gcdI (val xs) (val ys) ≤ val ys := by
    rw [gcdI_gcd hx0 (by omega)]
    exact Int.le_of_dvd hy (Int.gcd_dvd_right ..)
  have hlt := val_lt hb.words
  go_enter Tryz.func49, Tryz.ntmps49
  go_wp2_with fail
  refine hg.mono ?_
  rintro e w1 ⟨a1, c1, gs, rfl, hs1, nq1, vq1, hb1⟩
  have hl1 : gs.length ≤ ys.length := by
    refine len_below hs1.words nq1 ?_
    rw [vq1]
    omega
  have HG := hide vq1
  clear vq1 hg
  go_wp2_with fail
  refine (share_any (ha.below hb1) hs1 hla (by omega)).mono ?_
  rintro e w2 ⟨a2, c2, qs, rfl, hs2, nq2, HV2, hl2, hb2⟩
  have hb12 := hb1.trans (hb2.mono hb1.size)
  go_wp2_with fail
  refine (share_any (hb.below hb12) (hs1.below hb2) hlb (by omega)).mono ?_
  rintro e w3 ⟨a3, c3, rs, rfl, hs3, nq3, HV3, hl3, hb3⟩
  have hb13 := hb12.trans (hb3.mono hb12.size)
  have HAP := hide (apart_of (fun h b o e => hs2.block h b o e) hs3 (Nat.le_refl _) : Apart a2 a3 qs rs)
  go_wp2
  go_ret2
  exact ⟨_, _, _, _, qs, rs, rfl, ⟨(hs2.mono hb1.size).below hb3, hs3.mono hb12.size⟩, nq2, nq3, by rw [Hid, HV2.out, HG.out], by rw [Hid, HV3.out, HG.out], hl2, hl3, HAP.out, hb13⟩
set_option maxRecDepth 100000 in
set_option maxHeartbeats 1000000 in
theorem isOne_any {lo : Nat} {a : Option Addr} {la ca : Nat} {xs : List Int} {w : World} (ha : Seg lo w (.slice a la ca) xs) (hla : xs.length ≤ 1000) :
    Calls Tryz.prog 35 #[.slice a la ca] w fun e w' => e = .returned (.bool (val xs == 1)) ∧ Below w.heap.size w w' := by
  by_cases h : val xs < 18446744073709551616
  · have ho := one_yes ha (by omega) h
    generalize val xs = x at *
    go_enter Tryz.func35, Tryz.ntmps35
    go_wp2_with fail
    refine ho.mono ?_
    rintro e w1 ⟨rfl, hb1⟩
    clear ho
    go_wp2
    go_ret
    exact ⟨rfl, hb1⟩
  · have ho := one_no ha (by omega) (by omega)
    have HF : Hid ((val xs == 1) = false) := beq_eq_false_iff_ne.2 (by omega)
    clear h
    go_enter Tryz.func35, Tryz.ntmps35
    go_wp2_with fail
    refine ho.mono ?_
    rintro e w1 ⟨rfl, hb1⟩
    clear ho
    go_wp2
    go_ret
    rw [HF.out]
    exact ⟨rfl, hb1⟩
set_option maxRecDepth 100000 in
set_option maxHeartbeats 1000000 in
theorem pcheck_any {lo : Nat} {a c : Option Addr} {ca cc : Nat} {xs ds : List Int} {w : World} (b : Bool) (h : Fr lo w a ca xs c cc ds) (hl : xs.length ≤ 1000) (hl' : ds.length ≤ 1000) :
    Calls Tryz.prog 18 #[.agg #[.bool b, .slice a xs.length ca, .slice c ds.length cc]] w fun e w' => e = .returned (.int .i64 (formR b xs ds)) ∧ Below w.heap.size w w' := by
  have hB0 : Below w.heap.size w (w.alloc (.cells #[.bool b, .slice a xs.length ca, .slice c ds.length cc] 31)) := (Below.refl _ w).alloc (Nat.le_refl _) _
  have E := Box.new w (.cells #[.bool b, .slice a xs.length ca, .slice c ds.length cc] 31)
  have hck := scheck_any b (h.up.below hB0) (by omega)
  obtain ⟨f, hf⟩ : ∃ f, formI b xs = f := ⟨_, rfl⟩
  have HR : Hid (formR b xs ds = if f = 0 ∧ formOf ds = 0 ∧ ds ≠ [] ∧ gcdI (val xs) (val ds) = 1 then 0 else 6) := by rw [Hid, ← hf]; rfl
  rw [hf] at hck
  clear hf
  go_enter Tryz.func18, Tryz.ntmps18
  go_wp2_with fail
  refine hck.mono ?_
  rintro e w1 ⟨rfl, hb1⟩
  have E1 := E.below hb1
  have hB1 := hB0.trans (hb1.mono hB0.size)
  obtain ⟨k0, k1, k2, _⟩ := E1.three
  clear hck
  by_cases h0 : f = 0
  · subst h0
    have hc := check_any (h.down.below hB1) (by omega)
    obtain ⟨g, hg⟩ : ∃ g, formOf ds = g := ⟨_, rfl⟩
    rw [hg] at hc
    have HG := hide hg
    clear hg
    go_wp2_with fail
    refine hc.mono ?_
    rintro e w2 ⟨rfl, hb2⟩
    have E2 := E1.below hb2
    have hB2 := hB1.trans (hb2.mono hB1.size)
    clear hc k0 k1 k2
    obtain ⟨k0, k1, k2, _⟩ := E2.three
    by_cases h1 : g = 0
    · subst h1
      by_cases h2 : ds = []
      · subst h2
        go_wp2
        go_ret
        exact ⟨ret_int (by rw [HR.out, if_neg (by simp)]), hB2⟩
      · have hz : ((ds.length : Int) == 0) = false := beq_eq_false_iff_ne.2 (by have := List.length_pos_iff.2 h2; omega)
        have hgc := qgcd_any (h.up.below hB2) (h.down.below hB2) hl hl'
        have hlt := val_lt h.down.words
        have hp : 0 < val ds := norm_pos h.down.words (formOf_norm.1 HG.out) h2
        have hgl : gcdI (val xs) (val ds) ≤ val ds := by
          rw [gcdI_gcd (val_nonneg h.up.words) (by omega)]
          exact Int.le_of_dvd hp (Int.gcd_dvd_right ..)
        have H2 := hide h2
        clear h2 hp
        go_wp2_with fail
        refine hgc.mono ?_
        rintro e w3 ⟨a3, c3, gs, rfl, hs3, n3, v3, hb3⟩
        have hl3 : gs.length ≤ ds.length := by
          refine len_below hs3.words n3 ?_
          rw [v3]
          omega
        have hio := isOne_any hs3 (by omega)
        have hB3 := hB2.trans (hb3.mono hB2.size)
        have V3 := hide v3
        clear hgc v3 k0 k1 k2 hlt hgl
        obtain ⟨x, hx⟩ : ∃ x, (val gs == 1) = x := ⟨_, rfl⟩
        rw [hx] at hio
        have HX := hide hx
        clear hx
        go_wp2_with fail
        refine hio.mono ?_
        rintro e w4 ⟨rfl, hb4⟩
        have hB4 := hB3.trans (hb4.mono hB3.size)
        clear hio
        cases x with
        | true =>
          go_wp2
          go_ret
          refine ⟨ret_int ?_, hB4⟩
          have := HX.out
          rw [V3.out] at this
          rw [HR.out, if_pos ⟨by simp, HG.out, H2.out, by simpa using this⟩]
        | false =>
          go_wp2
          go_ret
          refine ⟨ret_int ?_, hB4⟩
          have := HX.out
          rw [V3.out] at this
          rw [HR.out, if_neg]
          rintro ⟨_, _, _, h4⟩
          rw [h4] at this
          exact absurd this (by decide)
    · have hne : (g != 0) = true := bne_iff_ne.2 h1
      have H1 := hide h1
      clear h1
      go_wp2
      go_ret
      exact ⟨ret_int (by rw [HR.out, if_neg (by rw [HG.out]; rintro ⟨_, q, _⟩; exact H1.out q)]), hB2⟩
  · have hne : (f != 0) = true := bne_iff_ne.2 h0
    have H0 := hide h0
    clear h0
    go_wp2
    go_ret
    exact ⟨ret_int (by rw [HR.out, if_neg (by rintro ⟨q, _⟩; exact H0.out q)]), hB1⟩
set_option maxRecDepth 100000 in
set_option maxHeartbeats 1000000 in
theorem isOdd_any {lo : Nat} {a : Option Addr} {ca : Nat} {xs : List Int} {w : World} (h : Seg lo w (.slice a xs.length ca) xs) :
    Calls Tryz.prog 76 #[.slice a xs.length ca] w fun e w' => e = .returned (.bool (decide (val xs % 2 = 1))) ∧ Below w.heap.size w w' := by
  have hw := h.words
  by_cases h0 : xs = []
  · subst h0
    go_enter Tryz.func76, Tryz.ntmps76
    go_wp2
    go_ret
    exact ⟨rfl, Below.refl _ _⟩
  · obtain ⟨x, r, rfl⟩ : ∃ x r, xs = x :: r := by cases xs with | nil => exact absurd rfl h0 | cons x r => exact ⟨x, r, rfl⟩
    obtain ⟨g, o, rfl, _, _⟩ := h.row (by simp)
    have hc := (h.cell (j := 0) (by simp)).1
    rw [Nat.add_zero] at hc
    simp only [lz5, Option.getD_some] at hc
    have hp : (0 : Int) < ((x :: r).length : Int) := by simp
    have hpN : 0 < (x :: r).length := by simp
    have hv : decide (val (x :: r) % 2 = 1) = (x.tmod 2 == 1) := by
      have : val (x :: r) % 2 = x % 2 := by rw [val_cons]; omega
      rw [this, Int.tmod_eq_emod_of_nonneg (hw x (by simp)).1]; rfl
    rw [hv]
    clear hv h0 hw h
    generalize (x :: r).length = L at *
    go_enter Tryz.func76, Tryz.ntmps76
    go_wp2
    go_ret
    exact ⟨rfl, Below.refl _ _⟩
set_option maxRecDepth 100000 in
set_option maxHeartbeats 1000000 in
theorem stretch_any {lo lo' : Nat} {a c : Option Addr} {ca cc : Nat} {xs ys : List Int} {w : World} (b : Bool) (h : Seg lo w (.slice a xs.length ca) xs) (h' : Seg lo' w (.slice c ys.length cc) ys) (hl : xs.length ≤ 2000) (hl' : ys.length ≤ 2000) :
    Calls Tryz.prog 20 #[.agg #[.bool b, .slice a xs.length ca], .slice c ys.length cc] w fun e w' => ∃ (b' : Bool) (a' : Option Addr) (cap' : Nat) (ts : List Int), e = .returned (.agg #[.bool b', .slice a' ts.length cap']) ∧ Seg w.heap.size w' (.slice a' ts.length cap') ts ∧ Canon b' ts ∧ Hid (sgn b' (val ts) = sgn b (val xs) * val ys) ∧ ts.length ≤ xs.length + ys.length ∧ Below w.heap.size w w' := by
  obtain ⟨e1, e2, hB0, hz⟩ := two_new w (.cells #[.bool b, .slice a xs.length ca] 29) (.cells #[.bool false, .slice none 0 0] 29)
  have HZ := hide hz
  have hm := smul_any b false (h.below hB0) (h'.below hB0) hl hl'
  clear hz
  go_enter Tryz.func20, Tryz.ntmps20
  go_wp2_with fail
  refine hm.mono ?_
  rintro e w1 ⟨b1, a1, c1, ts, rfl, hs1, hc1, hv1, hl1, hb1⟩
  obtain ⟨r0, r1, r2, r3⟩ := two_cells e2 hb1 (by have := HZ.out; omega)
  have hT := turns2 (w.heap.size + 1) w1 (.bool b1) (.slice a1 ts.length c1)
  have HV := hide hv1
  clear hv1 hm
  have hS := (hs1.turns_lo hT (by have := HZ.out; omega)).mono hB0.size
  have hBB := (hB0.trans (hb1.mono hB0.size)).trans (hT.below.mono (by omega))
  go_wp2
  refine bodyPost_ret (v := .agg #[.bool b1, .slice a1 ts.length c1]) (by simp [results, Tryz.f20, go_sem, r0, r1]) rfl ?_
  exact ⟨b1, _, _, ts, rfl, hS, hc1, by rw [Hid, HV.out]; rfl, hl1, hBB⟩
theorem is_small (xs ds : List Int) (n : Int) (hx : Norm xs) (hd : Norm ds) (h1 : val xs = n) (h2 : val ds = 1) (lx : xs.length ≤ 1) (ld : ds.length ≤ 1) : Is false xs ds (n : Rat) 1 := by
  refine ⟨⟨⟨hx, fun h => by cases h⟩, hd, ?_⟩, ?_, lx, ld⟩
  · rw [h1, h2]; exact ⟨by decide, by simp⟩
  · rw [ratL, h1, h2]; exact Rat.num_divInt_den (n : Rat)
set_option maxRecDepth 100000 in
set_option maxHeartbeats 1000000 in
theorem small_any (x : Int) (hx : 0 ≤ x ∧ x < 18446744073709551616) (w : World) :
    Calls Tryz.prog 74 #[.int .u64 x] w fun e w' => ∃ (b' : Bool) (a' : Option Addr) (ca' : Nat) (ts' : List Int) (c' : Option Addr) (cc' : Nat) (es' : List Int), e = .returned (.agg #[.bool b', .slice a' ts'.length ca', .slice c' es'.length cc']) ∧ Fr w.heap.size w' a' ca' ts' c' cc' es' ∧ Apart a' c' ts' es' ∧ Is b' ts' es' ((x : Rat)) (1) ∧ Below w.heap.size w w' := by
  have hB0 : Below w.heap.size w (w.alloc (.cells #[.bool false, .slice none 0 0, .slice none 0 0] 31)) := (Below.refl _ w).alloc (Nat.le_refl _) _
  have E := Box.new w (.cells #[.bool false, .slice none 0 0, .slice none 0 0] 31)
  have HZ : Hid ((w.alloc (.cells #[.bool false, .slice none 0 0, .slice none 0 0] 31)).heap.size = w.heap.size + 1) := by rw [Hid]; simp
  go_enter Tryz.func74, Tryz.ntmps74
  go_wp2_with fail
  refine (of_any x hx _).mono ?_
  rintro e w1 ⟨a1, c1, xs, rfl, hs1, hn1, hv1, hl1, hb1⟩
  have hBA : Below w.heap.size w w1 := hB0.trans (hb1.mono hB0.size)
  have HV1 := hide hv1
  clear hv1
  go_wp2_with fail
  refine (of_any 1 (by decide) _).mono ?_
  rintro e w2 ⟨a2, c2, ds, rfl, hs2, hn2, hv2, hl2, hb2⟩
  have HV2 := hide hv2
  clear hv2
  have E2 := (E.below hb1).below hb2
  have hB2 := hBA.trans (hb2.mono hBA.size)
  obtain ⟨r0, r1, r2, r3, r4, r5⟩ := E2.three
  have HAP := hide (apart_of (fun h b o e => hs1.block h b o e) hs2 (Nat.le_refl _) : Apart a1 a2 xs ds)
  have hT := turns3 w.heap.size w2 (.bool false) (.slice a1 xs.length c1) (.slice a2 ds.length c2)
  have hS1 := ((hs1.below hb2).turns_lo hT (by have := HZ.out; omega)).mono hB0.size
  have hS2 := (hs2.turns_lo hT (by have := HZ.out; have := hb1.size; omega)).mono hBA.size
  have hBB := hB2.trans hT.below
  have HI := is_small xs ds x hn1 hn2 HV1.out HV2.out (by omega) (by omega)
  go_wp2
  refine bodyPost_ret (v := .agg #[.bool false, .slice a1 xs.length c1, .slice a2 ds.length c2]) (by simp [results, Tryz.f74, go_sem, r0, r1, r2]) rfl ?_
  exact ⟨false, _, _, xs, _, _, ds, rfl, ⟨hS1, hS2⟩, HAP.out, HI, hBB⟩
def Yield.nat (lo : Nat) (x : Int) (n : Nat) : Yield := .rel (fun v W => ∃ (a : Option Addr) (c : Nat) (z : List Int), v = .slice a z.length c ∧ Seg lo W (.slice a z.length c) z ∧ Norm z ∧ Hid (val z = x) ∧ z.length ≤ n)
  (fun _ _ _ hb ⟨a, c, z, e, s, r⟩ => ⟨a, c, z, e, s.below hb, r⟩)
def Yield.natIn (f : Value → Value) (lo : Nat) (x : Int) (n : Nat) : Yield := .rel (fun v W => ∃ (a : Option Addr) (c : Nat) (z : List Int), v = f (.slice a z.length c) ∧ Seg lo W (.slice a z.length c) z ∧ Norm z ∧ Hid (val z = x) ∧ z.length ≤ n)
  (fun _ _ _ hb ⟨a, c, z, e, s, r⟩ => ⟨a, c, z, e, s.below hb, r⟩)
def Yield.int (lo : Nat) (x : Int) (n : Nat) : Yield := .rel (fun v W => ∃ (g : Bool) (a : Option Addr) (c : Nat) (z : List Int), v = .agg #[.bool g, .slice a z.length c] ∧ Seg lo W (.slice a z.length c) z ∧ Canon g z ∧ Hid (sgn g (val z) = x) ∧ z.length ≤ n)
  (fun _ _ _ hb ⟨g, a, c, z, e, s, r⟩ => ⟨g, a, c, z, e, s.below hb, r⟩)
def Yield.intIn (f : Bool → Value → Value) (lo : Nat) (x : Int) (n : Nat) : Yield := .rel (fun v W => ∃ (g : Bool) (a : Option Addr) (c : Nat) (z : List Int), v = f g (.slice a z.length c) ∧ Seg lo W (.slice a z.length c) z ∧ Canon g z ∧ Hid (sgn g (val z) = x) ∧ z.length ≤ n)
  (fun _ _ _ hb ⟨g, a, c, z, e, s, r⟩ => ⟨g, a, c, z, e, s.below hb, r⟩)
def Yield.frac (lo : Nat) (q : Rat) (n : Nat) : Yield := .rel (fun v W => ∃ (b : Bool) (a : Option Addr) (ca : Nat) (xs : List Int) (c : Option Addr) (cc : Nat) (ds : List Int), v = .agg #[.bool b, .slice a xs.length ca, .slice c ds.length cc] ∧ Fr lo W a ca xs c cc ds ∧ Apart a c xs ds ∧ Is b xs ds q n)
  (fun _ _ _ hb ⟨b, a, ca, xs, c, cc, ds, e, s, r⟩ => ⟨b, a, ca, xs, c, cc, ds, e, s.below hb, r⟩)
def Yield.fracE (lo : Nat) (q : Rat) (n : Nat) : Yield := .rel (fun v W => ∃ (b : Bool) (a : Option Addr) (ca : Nat) (xs : List Int) (c : Option Addr) (cc : Nat) (ds : List Int), v = .tuple #[.agg #[.bool b, .slice a xs.length ca, .slice c ds.length cc], .int .i64 0] ∧ Fr lo W a ca xs c cc ds ∧ Apart a c xs ds ∧ Is b xs ds q n)
  (fun _ _ _ hb ⟨b, a, ca, xs, c, cc, ds, e, s, r⟩ => ⟨b, a, ca, xs, c, cc, ds, e, s.below hb, r⟩)
def Yield.copyw (lo : Nat) (b : Bool) (zs : List Int) : Yield := .rel (fun v W => ∃ (a : Option Addr) (c : Nat), v = .agg #[.bool b, .slice a zs.length c] ∧ Seg lo W (.slice a zs.length c) zs)
  (fun _ _ _ hb ⟨a, c, e, s⟩ => ⟨a, c, e, s.below hb⟩)
def Yield.copyn (lo : Nat) (zs : List Int) : Yield := .rel (fun v W => ∃ (a : Option Addr) (c : Nat), v = .slice a zs.length c ∧ Seg lo W (.slice a zs.length c) zs)
  (fun _ _ _ hb ⟨a, c, e, s⟩ => ⟨a, c, e, s.below hb⟩)
theorem Yield.nat_elim {lo : Nat} {x : Int} {n : Nat} {v : Value} {W : World} (P : Prop) (h : (Yield.nat lo x n).At v W) (k : ∀ (a : Option Addr) (c : Nat) (z : List Int), v = .slice a z.length c → Seg lo W (.slice a z.length c) z → Norm z → Hid (val z = x) → z.length ≤ n → P) : P := by
  obtain ⟨a, c, z, h1, h2, h3, h4, h5⟩ := h; exact k a c z h1 h2 h3 h4 h5
theorem Yield.natIn_elim {f : Value → Value} {lo : Nat} {x : Int} {n : Nat} {v : Value} {W : World} (P : Prop) (h : (Yield.natIn f lo x n).At v W) (k : ∀ (a : Option Addr) (c : Nat) (z : List Int), v = f (.slice a z.length c) → Seg lo W (.slice a z.length c) z → Norm z → Hid (val z = x) → z.length ≤ n → P) : P := by
  obtain ⟨a, c, z, h1, h2, h3, h4, h5⟩ := h; exact k a c z h1 h2 h3 h4 h5
theorem Yield.int_elim {lo : Nat} {x : Int} {n : Nat} {v : Value} {W : World} (P : Prop) (h : (Yield.int lo x n).At v W) (k : ∀ (g : Bool) (a : Option Addr) (c : Nat) (z : List Int), v = .agg #[.bool g, .slice a z.length c] → Seg lo W (.slice a z.length c) z → Canon g z → Hid (sgn g (val z) = x) → z.length ≤ n → P) : P := by
  obtain ⟨g, a, c, z, h1, h2, h3, h4, h5⟩ := h; exact k g a c z h1 h2 h3 h4 h5
theorem Yield.frac_elim {lo : Nat} {q : Rat} {n : Nat} {v : Value} {W : World} (P : Prop) (h : (Yield.frac lo q n).At v W) (k : ∀ (b : Bool) (a : Option Addr) (ca : Nat) (xs : List Int) (c : Option Addr) (cc : Nat) (ds : List Int), v = .agg #[.bool b, .slice a xs.length ca, .slice c ds.length cc] → Fr lo W a ca xs c cc ds → Apart a c xs ds → Is b xs ds q n → P) : P := by
  obtain ⟨b, a, ca, xs, c, cc, ds, h1, h2, h3, h4⟩ := h; exact k b a ca xs c cc ds h1 h2 h3 h4
theorem Yield.fracE_elim {lo : Nat} {q : Rat} {n : Nat} {v : Value} {W : World} (P : Prop) (h : (Yield.fracE lo q n).At v W) (k : ∀ (b : Bool) (a : Option Addr) (ca : Nat) (xs : List Int) (c : Option Addr) (cc : Nat) (ds : List Int), v = .tuple #[.agg #[.bool b, .slice a xs.length ca, .slice c ds.length cc], .int .i64 0] → Fr lo W a ca xs c cc ds → Apart a c xs ds → Is b xs ds q n → P) : P := by
  obtain ⟨b, a, ca, xs, c, cc, ds, h1, h2, h3, h4⟩ := h; exact k b a ca xs c cc ds h1 h2 h3 h4
def NoWord (cs : Array Value) : Prop := ∀ (i : Nat) (x : Int), cs[i]? ≠ some (.int .u64 x)
theorem Seg.offU {lo : Nat} {W : World} {a : Option Addr} {n cap k : Nat} {zs : List Int} {cs : Array Value} {t : TypeId} (h : Seg lo W (.slice a n cap) zs) (hk : Box W k (.cells cs t (0, 0))) (hs : NoWord cs) (hz : zs ≠ []) : ∀ g o, a = some ⟨g, o, none⟩ → g ≠ k := by
  rintro g o rfl rfl
  obtain ⟨hn, _⟩ := h.len
  subst hn
  have hc := (h.cell (j := 0) (List.length_pos_iff.2 hz)).1
  rw [cell_of_heap hk.what (o + 0)] at hc
  exact hs _ _ hc
theorem Seg.beside {lo : Nat} {W W' : World} {a : Option Addr} {n cap k : Nat} {zs : List Int} {cs : Array Value} {t : TypeId} (h : Seg lo W (.slice a n cap) zs) (hk : Box W k (.cells cs t (0, 0))) (hs : NoWord cs) (ht : Turns k W W') : Seg lo W' (.slice a n cap) zs := by
  by_cases hz : zs = []
  · obtain ⟨hn, hc⟩ := h.len
    subst hz hn
    exact Seg.empty _ _ _ _
  · obtain ⟨g, o, rfl, _, _⟩ := h.row (by rw [h.len.1]; exact List.length_pos_iff.2 hz)
    exact h.turns ht (h.offU hk hs hz g o rfl)
theorem Fr.beside {lo : Nat} {W W' : World} {a c : Option Addr} {ca cc k : Nat} {xs ds : List Int} {cs : Array Value} {t : TypeId} (h : Fr lo W a ca xs c cc ds) (hk : Box W k (.cells cs t (0, 0))) (hs : NoWord cs) (ht : Turns k W W') : Fr lo W' a ca xs c cc ds := ⟨h.up.beside hk hs ht, h.down.beside hk hs ht⟩
theorem noWord1 {u : Value} (hu : ∀ x, u ≠ .int .u64 x) : NoWord #[u] := fun i x e => by
  match i with
  | 0 => simp at e; exact hu _ e
  | i + 1 => simp at e
theorem noWord2 {u v : Value} (hu : ∀ x, u ≠ .int .u64 x) (hv : ∀ x, v ≠ .int .u64 x) : NoWord #[u, v] := fun i x e => by
  match i with
  | 0 => simp at e; exact hu _ e
  | 1 => simp at e; exact hv _ e
  | i + 2 => simp at e
theorem noWord3 {u v t : Value} (hu : ∀ x, u ≠ .int .u64 x) (hv : ∀ x, v ≠ .int .u64 x) (ht : ∀ x, t ≠ .int .u64 x) : NoWord #[u, v, t] := fun i x e => by
  match i with
  | 0 => simp at e; exact hu _ e
  | 1 => simp at e; exact hv _ e
  | 2 => simp at e; exact ht _ e
  | i + 3 => simp at e
theorem turns1 (g : Nat) (W : World) (u : Value) : Turns g W (W.setCell ⟨g, 0, none⟩ u) := (Turns.refl g W).setCell 0 u
theorem Box.one {W : World} {k : Nat} {u : Value} {t : TypeId} (h : Box W k (.cells #[u] t (0, 0))) : W.cell? ⟨k, 0, none⟩ = some u ∧ W.frozen? ⟨k, 0, none⟩ = false := ⟨cell_of_heap h.what 0, frozen_of_heap h.what 0⟩
theorem Box.set1 {W : World} {k : Nat} {u : Value} {t : TypeId} (u' : Value) (h : Box W k (.cells #[u] t (0, 0))) : Box (W.setCell ⟨k, 0, none⟩ u') k (.cells #[u'] t (0, 0)) := ⟨Nat.lt_of_lt_of_le h.lt (turns1 k W u').below.size, heap_setCell_same W k 0 _ t u' h.what⟩
theorem qgcd_len {lo lo' : Nat} {a b : Option Addr} {la lb ca cb : Nat} {xs ys : List Int} {w : World} (ha : Seg lo w (.slice a la ca) xs) (hb : Seg lo' w (.slice b lb cb) ys) (hla : xs.length ≤ 1000) (hlb : ys.length ≤ 1000) (hy : 0 < val ys) :
    Calls Tryz.prog 36 #[.slice a la ca, .slice b lb cb] w fun e w' => ∃ (a1 : Option Addr) (c1 : Nat) (gs : List Int), e = .returned (.slice a1 gs.length c1) ∧ Seg w.heap.size w' (.slice a1 gs.length c1) gs ∧ Norm gs ∧ val gs = gcdI (val xs) (val ys) ∧ gs.length ≤ ys.length ∧ Below w.heap.size w w' := by
  refine (qgcd_any ha hb hla hlb).mono ?_
  rintro e w' ⟨a1, c1, gs, rfl, hs, hn, hv, hb1⟩
  refine ⟨a1, c1, gs, rfl, hs, hn, hv, ?_, hb1⟩
  refine len_below hs.words hn ?_
  have := val_lt hb.words
  have hgl : gcdI (val xs) (val ys) ≤ val ys := by
    rw [gcdI_gcd (val_nonneg ha.words) (by omega)]
    exact Int.le_of_dvd hy (Int.gcd_dvd_right ..)
  rw [hv]
  omega
theorem canon_of {g : Bool} {z t : List Int} (hz : Canon g z) (wz : Words z) (nt : Norm t) (h : 0 < val z → 0 < val t) : Canon g t := by
  refine ⟨nt, fun hg => ?_⟩
  have := h (norm_pos wz hz.1 (hz.2 hg))
  rintro rfl
  rw [val_nil] at this
  omega
theorem plus_is {b g k : Bool} {xs ds ys es z1 z2 z6 z7 z8 z9 z10 : List Int} {q s : Rat} {N : Nat} (LA : LowL b xs ds) (LB : LowL g ys es) (HQ : Hid (ratL b xs ds = q)) (HS : Hid (ratL g ys es = s)) (w6 : Words z6)
    (V1 : Hid (val z1 = gcdI (val ds) (val es))) (V2 : Hid (val z2 = val ds / gcdI (val ds) (val es))) (N6 : Canon k z6)
    (V6 : Hid (sgn k (val z6) = sgn b (val xs) * (val es / gcdI (val ds) (val es)) + sgn g (val ys) * (val ds / gcdI (val ds) (val es))))
    (V7 : Hid (val z7 = gcdI (val z6) (val z1))) (V8 : Hid (val z8 = val es / val z7)) (V9 : Hid (val z9 = val z2 * val z8)) (N9 : Norm z9) (V10 : Hid (val z10 = val z6 / val z7)) (N10 : Norm z10)
    (l1 : z10.length ≤ N) (l2 : z9.length ≤ N) : Is k z10 z9 (q + s) N := by
  have pd := LA.2.2.1
  have pe := LB.2.2.1
  have p6 := val_nonneg w6
  have hG := gcdI_gcd (Int.le_of_lt pd) (Int.le_of_lt pe)
  have hGp := gcdI_posR (a := val ds) pe
  have h7 : val z7 = (Int.gcd (sgn k (val z6)) (gcdI (val ds) (val es)) : Int) := by
    rw [V7.out, V1.out, gcdI_gcd p6 (by omega), sgn_gcd]
  obtain ⟨l, e⟩ := low_plus LA.2.2 LB.2.2 hG rfl rfl V6.out h7
  have hdv : val z7 ∣ val z6 := by rw [h7, sgn_gcd]; exact Int.gcd_dvd_left ..
  have h7p : 0 < val z7 := by rw [V7.out, V1.out]; exact gcdI_posR hGp
  have e10 : sgn k (val z10) = sgn k (val z6) / val z7 := by rw [V10.out, sgn_ediv k hdv]
  have e9 : val z9 = val ds / gcdI (val ds) (val es) * (val es / val z7) := by rw [V9.out, V2.out, V8.out]
  have hc : Canon k z10 := canon_of N6 w6 N10 (fun hp => by rw [V10.out]; exact Int.ediv_pos_of_pos_of_dvd hp (by omega) hdv)
  refine ⟨⟨hc, N9, ?_⟩, ?_, l1, l2⟩
  · rw [e10, e9]; exact l
  · rw [ratL, e10, e9, e, ← HQ.out, ← HS.out]; rfl
theorem product_is {b g k : Bool} {xs ds ys es z1 z2 z3 z4 z5 z6 z7 : List Int} {q s : Rat} {N : Nat} (LA : LowL b xs ds) (LB : LowL g ys es) (HQ : Hid (ratL b xs ds = q)) (HS : Hid (ratL g ys es = s)) (wx : Words xs) (wy : Words ys)
    (V1 : Hid (val z1 = val xs / gcdI (val xs) (val es))) (V2 : Hid (val z2 = val es / gcdI (val xs) (val es))) (V3 : Hid (val z3 = val ys / gcdI (val ys) (val ds))) (V4 : Hid (val z4 = val ds / gcdI (val ys) (val ds)))
    (V5 : Hid (val z5 = val z1 * val z3)) (N6 : Canon k z6) (V6 : Hid (sgn k (val z6) = sgn (b != g) (val z5))) (V7 : Hid (val z7 = val z4 * val z2)) (N7 : Norm z7)
    (l1 : z6.length ≤ N) (l2 : z7.length ≤ N) : Is k z6 z7 (q * s) N := by
  have pd := LA.2.2.1
  have pe := LB.2.2.1
  obtain ⟨l, e⟩ := low_cross LA.2.2 LB.2.2
  rw [sgn_gcd, sgn_gcd, ← gcdI_gcd (val_nonneg wx) (Int.le_of_lt pe), ← gcdI_gcd (val_nonneg wy) (Int.le_of_lt pd)] at l e
  have d1 : gcdI (val xs) (val es) ∣ val xs := by rw [gcdI_gcd (val_nonneg wx) (Int.le_of_lt pe)]; exact Int.gcd_dvd_left ..
  have d2 : gcdI (val ys) (val ds) ∣ val ys := by rw [gcdI_gcd (val_nonneg wy) (Int.le_of_lt pd)]; exact Int.gcd_dvd_left ..
  rw [← sgn_ediv b d1, ← sgn_ediv g d2, ← sgn_mul, ← V1.out, ← V2.out, ← V3.out, ← V4.out, ← V5.out, ← V6.out, ← V7.out] at l e
  exact ⟨⟨N6, N7, l⟩, by rw [ratL, e, ← HQ.out, ← HS.out]; rfl, l1, l2⟩
set_option maxRecDepth 100000 in
set_option maxHeartbeats 1000000 in
theorem fold1_ok (K A E : Nat) (u : FrameMode) (w : World) (hk : w.cell? ⟨K, 0, none⟩ = some (.int .i64 0)) :
    CallsD Tryz.prog 90 #[.pointer (some ⟨K, 0, none⟩), .pointer (some ⟨A, 0, none⟩), .pointer (some ⟨E, 0, none⟩)] u w fun e u' w' => u' = u ∧ (e = .returned (.tuple #[]) ∧ w' = w) := by
  go_enter_d Tryz.func90, Tryz.ntmps90
  go_wp2
  go_end0
  exact ⟨rfl, rfl⟩
set_option maxRecDepth 100000 in
set_option maxHeartbeats 1000000 in
theorem fold1_no (K A : Nat) (x : Int) (hx : (x != 0) = true) (u : FrameMode) (w : World) (hk : w.cell? ⟨K, 0, none⟩ = some (.int .i64 x)) (ha0 ha1 ha2 he : Value) (h0 : w.cell? ⟨A, 0, none⟩ = some ha0) (h1 : w.cell? ⟨A, 1, none⟩ = some ha1) (h2 : w.cell? ⟨A, 2, none⟩ = some ha2) (h3 : w.cell? ⟨A + 1, 0, none⟩ = some he)
    (f0 : w.frozen? ⟨A, 0, none⟩ = false) (f1 : w.frozen? ⟨A, 1, none⟩ = false) (f2 : w.frozen? ⟨A, 2, none⟩ = false) (f3 : w.frozen? ⟨A + 1, 0, none⟩ = false) :
    CallsD Tryz.prog 90 #[.pointer (some ⟨K, 0, none⟩), .pointer (some ⟨A, 0, none⟩), .pointer (some ⟨A + 1, 0, none⟩)] u w fun e u' w' => u' = u ∧ (e = .returned (.tuple #[]) ∧ w' = (((w.setCell ⟨A, 0, none⟩ (.bool false)).setCell ⟨A, 1, none⟩ (.slice none 0 0)).setCell ⟨A, 2, none⟩ (.slice none 0 0)).setCell ⟨A + 1, 0, none⟩ (.int .i64 x)) := by
  go_enter_d Tryz.func90, Tryz.ntmps90
  go_wp2
  go_end0
  exact ⟨rfl, rfl⟩
structure RV where
  b : Bool
  a : Option Addr
  ca : Nat
  xs : List Int
  c : Option Addr
  cc : Nat
  ds : List Int
structure Row (lo : Nat) (W : World) (sv : Option Addr) (rs : List RV) : Prop where
  at_ : ∀ j, j < rs.length → ∃ g o, sv = some ⟨g, o, none⟩ ∧ g < W.heap.size
  cells : ∀ (g o j : Nat) (r : RV), sv = some ⟨g, o, none⟩ → rs[j]? = some r → W.cell? ⟨g, o + j * 3, none⟩ = some (.bool r.b) ∧ W.cell? ⟨g, o + j * 3 + 1, none⟩ = some (.slice r.a r.xs.length r.ca) ∧ W.cell? ⟨g, o + j * 3 + 2, none⟩ = some (.slice r.c r.ds.length r.cc)
  held : ∀ (j : Nat) (r : RV), rs[j]? = some r → Fr lo W r.a r.ca r.xs r.c r.cc r.ds
theorem Row.below {lo : Nat} {W W' : World} {sv : Option Addr} {rs : List RV} (h : Row lo W sv rs) (hb : Below W.heap.size W W') : Row lo W' sv rs := by
  refine ⟨fun j hj => ?_, fun g o j r e hr => ?_, fun j r hr => (h.held j r hr).below hb⟩
  · obtain ⟨g, o, e, hg⟩ := h.at_ j hj
    exact ⟨g, o, e, Nat.lt_of_lt_of_le hg hb.size⟩
  · obtain ⟨g', o', e', hg⟩ := h.at_ j (List.getElem?_eq_some_iff.1 hr).1
    rw [e] at e'
    simp only [Option.some.injEq, Addr.mk.injEq] at e'
    obtain ⟨rfl, rfl, _⟩ := e'
    obtain ⟨h0, h1, h2⟩ := h.cells g o j r e hr
    exact ⟨(hb.cell (p := ⟨g, o + j * 3, none⟩) hg).trans h0, (hb.cell (p := ⟨g, o + j * 3 + 1, none⟩) hg).trans h1, (hb.cell (p := ⟨g, o + j * 3 + 2, none⟩) hg).trans h2⟩
theorem Row.drew {lo : Nat} {W : World} {sv : Option Addr} {rs : List RV} (h : Row lo W sv rs) : Row lo W.drew sv rs := ⟨h.at_, h.cells, fun j r hr => (h.held j r hr).drew⟩
def RowOff (k : Nat) (sv : Option Addr) (rs : List RV) : Prop := rs ≠ [] → ∀ g o, sv = some ⟨g, o, none⟩ → g ≠ k
theorem Row.beside {lo : Nat} {W W' : World} {sv : Option Addr} {rs : List RV} {k : Nat} {cs : Array Value} {t : TypeId} (h : Row lo W sv rs) (hk : Box W k (.cells cs t (0, 0))) (hs : NoWord cs) (ht : Turns k W W') (hoff : RowOff k sv rs) : Row lo W' sv rs := by
  refine ⟨fun j hj => ?_, fun g o j r e hr => ?_, fun j r hr => (h.held j r hr).beside hk hs ht⟩
  · obtain ⟨g, o, e, hg⟩ := h.at_ j hj
    exact ⟨g, o, e, Nat.lt_of_lt_of_le hg ht.below.size⟩
  · obtain ⟨g', o', e', hg⟩ := h.at_ j (List.getElem?_eq_some_iff.1 hr).1
    rw [e] at e'
    simp only [Option.some.injEq, Addr.mk.injEq] at e'
    obtain ⟨rfl, rfl, _⟩ := e'
    obtain ⟨h0, h1, h2⟩ := h.cells g o j r e hr
    have hb := ht.other g (hoff (by rintro rfl; simp at hr) g o e) hg
    exact ⟨(World.cell?_of_block (a := ⟨g, o + j * 3, none⟩) hb).trans h0, (World.cell?_of_block (a := ⟨g, o + j * 3 + 1, none⟩) hb).trans h1, (World.cell?_of_block (a := ⟨g, o + j * 3 + 2, none⟩) hb).trans h2⟩
def RV.q (r : RV) : Rat := ratL r.b r.xs r.ds
def RV.good (r : RV) : Prop := formR r.b r.xs r.ds = 0
def opFold (op : Rat → Rat → Option Rat) : Rat → List RV → Option Rat
  | q, [] => some q
  | q, r :: rs => match op q r.q with | some t => opFold op t rs | none => none
theorem opFold_drop {op : Rat → Rat → Option Rat} {q : Rat} {rs : List RV} {i : Nat} {r : RV} (h : rs[i]? = some r) : opFold op q (rs.drop i) = match op q r.q with | some t => opFold op t (rs.drop (i + 1)) | none => none := by
  obtain ⟨hi, e⟩ := List.getElem?_eq_some_iff.1 h
  rw [List.drop_eq_getElem_cons hi, e]
  rfl
def AllGood (b : Bool) (xs ds : List Int) (rs : List RV) : Prop := formR b xs ds = 0 ∧ ∀ r ∈ rs, formR r.b r.xs r.ds = 0
def KeptIs (b : Bool) (xs ds : List Int) (rs : List RV) (x : Int) : Prop := (AllGood b xs ds rs ∧ x = 0) ∨ (¬ AllGood b xs ds rs ∧ x = 6)
def FoldAt (op : Rat → Rat → Option Rat) (w : World) (b : Bool) (a : Option Addr) (ca : Nat) (xs : List Int) (c : Option Addr) (cc : Nat) (ds : List Int) (rs : List RV) (n m i : Nat) (y : Int) (b1 : Bool) (a1 : Option Addr) (n1 : Nat) (x1 : List Int) (e1 : Option Addr) (m1 : Nat) (y1 : List Int) (W : World) : Prop :=
  (AllGood b xs ds rs ∧ y = 0 ∧ ∃ q1, Is b1 x1 y1 q1 (n + i * (m + 1)) ∧ Fr 0 W a1 n1 x1 e1 m1 y1 ∧ opFold op q1 (rs.drop i) = opFold op (ratL b xs ds) rs ∧ ((i = 0 ∧ b1 = b ∧ a1 = a ∧ n1 = ca ∧ x1 = xs ∧ e1 = c ∧ m1 = cc ∧ y1 = ds) ∨ (0 < i ∧ Fr w.heap.size W a1 n1 x1 e1 m1 y1 ∧ Apart a1 e1 x1 y1)))
  ∨ (AllGood b xs ds rs ∧ y = 5 ∧ opFold op (ratL b xs ds) rs = none)
  ∨ (¬ AllGood b xs ds rs ∧ y = 6)
def FoldSaid (op : Rat → Rat → Option Rat) (w : World) (b : Bool) (a : Option Addr) (ca : Nat) (xs : List Int) (c : Option Addr) (cc : Nat) (ds : List Int) (rs : List RV) (N : Nat) (e : Ending) (w' : World) : Prop :=
  (AllGood b xs ds rs ∧ ∃ t, opFold op (ratL b xs ds) rs = some t ∧ ∃ (b' : Bool) (a' : Option Addr) (ca' : Nat) (ts : List Int) (c' : Option Addr) (cc' : Nat) (es : List Int), e = .returned (.tuple #[.agg #[.bool b', .slice a' ts.length ca', .slice c' es.length cc'], .int .i64 0]) ∧ Is b' ts es t N ∧ ((rs = [] ∧ b' = b ∧ a' = a ∧ ca' = ca ∧ ts = xs ∧ c' = c ∧ cc' = cc ∧ es = ds) ∨ (Fr w.heap.size w' a' ca' ts c' cc' es ∧ Apart a' c' ts es)))
  ∨ (AllGood b xs ds rs ∧ opFold op (ratL b xs ds) rs = none ∧ e = .returned (.tuple #[.agg #[.bool false, .slice none 0 0, .slice none 0 0], .int .i64 5]))
  ∨ (¬ AllGood b xs ds rs ∧ e = .returned (.tuple #[.agg #[.bool false, .slice none 0 0, .slice none 0 0], .int .i64 6]))
section
variable {op : Rat → Rat → Option Rat} {w : World} {b : Bool} {a : Option Addr} {ca : Nat} {xs : List Int} {c : Option Addr} {cc : Nat} {ds : List Int} {rs : List RV} {n m i : Nat} {y : Int} {b1 : Bool} {a1 : Option Addr} {n1 : Nat} {x1 : List Int} {e1 : Option Addr} {m1 : Nat} {y1 : List Int} {W : World}
theorem FoldAt.start {lo : Nat} {x : Int} (hI : formR b xs ds = 0 → Is b xs ds (ratL b xs ds) n) (FA : Fr lo W a ca xs c cc ds) (HX : KeptIs b xs ds rs x) : FoldAt op w b a ca xs c cc ds rs n m 0 x b a ca xs c cc ds W := by
  rcases HX with ⟨h, rfl⟩ | ⟨h, rfl⟩
  · exact Or.inl ⟨h, rfl, _, (hI h.1).mono (by omega), FA.mono (Nat.zero_le _), rfl, Or.inl ⟨rfl, rfl, rfl, rfl, rfl, rfl, rfl, rfl⟩⟩
  · exact Or.inr (Or.inr ⟨h, rfl⟩)
structure FoldMid (op : Rat → Rat → Option Rat) (b : Bool) (xs ds : List Int) (rs : List RV) (i : Nat) (q1 : Rat) : Prop where
  good : AllGood b xs ds rs
  eq : opFold op q1 (rs.drop i) = opFold op (ratL b xs ds) rs
theorem FoldAt.go (h : FoldAt op w b a ca xs c cc ds rs n m i y b1 a1 n1 x1 e1 m1 y1 W) (hy : y = 0) : ∃ q1, Is b1 x1 y1 q1 (n + i * (m + 1)) ∧ Fr 0 W a1 n1 x1 e1 m1 y1 ∧ FoldMid op b xs ds rs i q1 := by
  rcases h with ⟨hg, _, q1, hi, hf, he, _⟩ | ⟨_, h5, _⟩ | ⟨_, h6⟩
  · exact ⟨q1, hi, hf, hg, he⟩
  · omega
  · omega
theorem FoldAt.allgood (h : FoldAt op w b a ca xs c cc ds rs n m i y b1 a1 n1 x1 e1 m1 y1 W) (hy : y = 0) : ∀ r ∈ rs, formR r.b r.xs r.ds = 0 := by
  obtain ⟨_, _, _, hm⟩ := h.go hy
  exact hm.good.2
theorem FoldAt.next {q1 t : Rat} {r : RV} {g2 : Bool} {a2 : Option Addr} {c2 : Nat} {x2 : List Int} {e2 : Option Addr} {t2 : Nat} {y2 : List Int} (HM : FoldMid op b xs ds rs i q1) (hr : rs[i]? = some r) (hu : op q1 r.q = some t) (F : Fr w.heap.size W a2 c2 x2 e2 t2 y2) (P : Apart a2 e2 x2 y2) (I : Is g2 x2 y2 t (n + i * (m + 1) + m + 1)) : FoldAt op w b a ca xs c cc ds rs n m (i + 1) 0 g2 a2 c2 x2 e2 t2 y2 W := by
  refine Or.inl ⟨HM.good, rfl, t, I.mono ?_, F.mono (Nat.zero_le _), ?_, Or.inr ⟨by omega, F, P⟩⟩
  · rw [Nat.add_mul, Nat.one_mul]; omega
  · rw [← HM.eq, opFold_drop hr, hu]
theorem FoldAt.stop {q1 : Rat} {r : RV} {g2 : Bool} {a2 : Option Addr} {c2 : Nat} {x2 : List Int} {e2 : Option Addr} {t2 : Nat} {y2 : List Int} (HM : FoldMid op b xs ds rs i q1) (hr : rs[i]? = some r) (hu : op q1 r.q = none) : FoldAt op w b a ca xs c cc ds rs n m (i + 1) 5 g2 a2 c2 x2 e2 t2 y2 W := by
  refine Or.inr (Or.inl ⟨HM.good, rfl, ?_⟩)
  rw [← HM.eq, opFold_drop hr, hu]
structure FoldFin (op : Rat → Rat → Option Rat) (w : World) (b : Bool) (a : Option Addr) (ca : Nat) (xs : List Int) (c : Option Addr) (cc : Nat) (ds : List Int) (rs : List RV) (N i : Nat) (y : Int) (b1 : Bool) (a1 : Option Addr) (n1 : Nat) (x1 : List Int) (e1 : Option Addr) (m1 : Nat) (y1 : List Int) (W : World) : Prop where
  atEnd : y = 0 → i = rs.length
  ok : y = 0 → AllGood b xs ds rs ∧ ∃ t, opFold op (ratL b xs ds) rs = some t ∧ Is b1 x1 y1 t N ∧ ((rs = [] ∧ b1 = b ∧ a1 = a ∧ n1 = ca ∧ x1 = xs ∧ e1 = c ∧ m1 = cc ∧ y1 = ds) ∨ (Fr w.heap.size W a1 n1 x1 e1 m1 y1 ∧ Apart a1 e1 x1 y1))
  no : y ≠ 0 → (AllGood b xs ds rs ∧ y = 5 ∧ opFold op (ratL b xs ds) rs = none) ∨ (¬ AllGood b xs ds rs ∧ y = 6)
theorem FoldAt.fin (h : FoldAt op w b a ca xs c cc ds rs n m i y b1 a1 n1 x1 e1 m1 y1 W) (hi : i ≤ rs.length) (hgo : ¬ (y = 0 ∧ i < rs.length)) : FoldFin op w b a ca xs c cc ds rs (n + rs.length * (m + 1)) i y b1 a1 n1 x1 e1 m1 y1 W := by
  refine ⟨fun hy => by have : ¬ i < rs.length := fun hl => hgo ⟨hy, hl⟩; omega, fun hy => ?_, fun hy => ?_⟩
  · have hi2 : i = rs.length := by have : ¬ i < rs.length := fun hl => hgo ⟨hy, hl⟩; omega
    rcases h with ⟨hg, _, q1, hI, hf, he, hm⟩ | ⟨_, h5, _⟩ | ⟨_, h6⟩
    · subst hi2
      rw [List.drop_length] at he
      refine ⟨hg, q1, he.symm, hI, ?_⟩
      rcases hm with ⟨h0, hm⟩ | ⟨_, hm⟩
      · exact Or.inl ⟨List.length_eq_zero_iff.1 h0, hm⟩
      · exact Or.inr hm
    · omega
    · omega
  · rcases h with ⟨_, h0, _⟩ | h | h
    · exact absurd h0 hy
    · exact Or.inl h
    · exact Or.inr h
end
set_option maxRecDepth 100000 in
set_option maxHeartbeats 4000000 in
theorem fold_any {lo : Nat} {sv : Option Addr} {cap : Nat} {rs : List RV} {w : World} (J : Nat) (op : Rat → Rat → Option Rat) (R : Row 0 w sv rs) {a c : Option Addr} {ca cc : Nat} {xs ds : List Int} (b : Bool) (FA : Fr lo w a ca xs c cc ds) {n m : Nat} (hl : xs.length ≤ n ∧ ds.length ≤ n) (hrl : rs.length ≤ 6) (hlen : ∀ r ∈ rs, r.xs.length ≤ m ∧ r.ds.length ≤ m) (hn : n ≤ 40) (hm : m ≤ 40) (hJe : ∀ (args : Array Value) (w : World), (callFunc J args).run Tryz.prog w = .ok (.enter J args) w)
    (hJs : ∀ (W : World) (b1 : Bool) (a1 : Option Addr) (n1 : Nat) (x1 : List Int) (e1 : Option Addr) (m1 : Nat) (y1 : List Int) (q1 : Rat) (k : Nat) (r : RV) (t : Rat), Fr 0 W a1 n1 x1 e1 m1 y1 → Fr 0 W r.a r.ca r.xs r.c r.cc r.ds → Is b1 x1 y1 q1 k → Is r.b r.xs r.ds r.q m → k + m ≤ 400 → op q1 r.q = some t →
      Calls Tryz.prog J #[.agg #[.bool b1, .slice a1 x1.length n1, .slice e1 y1.length m1], .agg #[.bool r.b, .slice r.a r.xs.length r.ca, .slice r.c r.ds.length r.cc]] W fun e w' => ∃ (b' : Bool) (a' : Option Addr) (ca' : Nat) (ts : List Int) (c' : Option Addr) (cc' : Nat) (es : List Int), e = .returned (.tuple #[.agg #[.bool b', .slice a' ts.length ca', .slice c' es.length cc'], .int .i64 0]) ∧ Fr W.heap.size w' a' ca' ts c' cc' es ∧ Apart a' c' ts es ∧ Is b' ts es t (k + m + 1) ∧ Below W.heap.size W w')
    (hJn : ∀ (W : World) (b1 : Bool) (a1 : Option Addr) (n1 : Nat) (x1 : List Int) (e1 : Option Addr) (m1 : Nat) (y1 : List Int) (q1 : Rat) (k : Nat) (r : RV), Fr 0 W a1 n1 x1 e1 m1 y1 → Fr 0 W r.a r.ca r.xs r.c r.cc r.ds → Is b1 x1 y1 q1 k → Is r.b r.xs r.ds r.q m → k + m ≤ 400 → op q1 r.q = none →
      Calls Tryz.prog J #[.agg #[.bool b1, .slice a1 x1.length n1, .slice e1 y1.length m1], .agg #[.bool r.b, .slice r.a r.xs.length r.ca, .slice r.c r.ds.length r.cc]] W fun e w' => e = .returned (.tuple #[.agg #[.bool false, .slice none 0 0, .slice none 0 0], .int .i64 5]) ∧ Below W.heap.size W w') :
    Calls Tryz.prog 72 #[.func (.func J) #[] #[], .agg #[.bool b, .slice a xs.length ca, .slice c ds.length cc], .slice sv rs.length cap] w fun e w' => FoldSaid op w b a ca xs c cc ds rs (n + rs.length * (m + 1)) e w' ∧ Below w.heap.size w w' := by
  have hmf : ∀ (fn : Fn) (first cap : Array Value) (w : World), (Instr.makeFunc fn first cap).run Tryz.prog w = .ok (.func fn first cap) w := fun _ _ _ _ => rfl
  have hR : ∀ g o, sv = some ⟨g, o, none⟩ → rs ≠ [] → g < w.heap.size := fun g o e hne => by
    obtain ⟨g', o', e', hg⟩ := R.at_ 0 (List.length_pos_iff.2 hne)
    rw [e] at e'
    simp only [Option.some.injEq, Addr.mk.injEq] at e'
    omega
  have hI : formR b xs ds = 0 → Is b xs ds (ratL b xs ds) n := fun h => ⟨(formR_low FA.up.words FA.down.words).1 h, rfl, hl.1, hl.2⟩
  have hgood : ∀ r ∈ rs, formR r.b r.xs r.ds = 0 → Is r.b r.xs r.ds r.q m := fun r hr h => by
    obtain ⟨j, hj⟩ := List.mem_iff_getElem?.1 hr
    have F := R.held j r hj
    exact ⟨(formR_low F.up.words F.down.words).1 h, rfl, (hlen r hr).1, (hlen r hr).2⟩
  have hB := Below.refl w.heap.size w
  go_enter_defers Tryz.func72, Tryz.ntmps72
  have hA := Below.refl w.heap.size w
  have hq := below_new w (.cells #[.bool b, .slice a xs.length ca, .slice c ds.length cc] 31)
  replace R := R.below hq
  replace FA := FA.below hq
  have E0 := Box.put (w := w) (k := (w.heap.size)) (.cells #[.bool b, .slice a xs.length ca, .slice c ds.length cc] 31) rfl
  replace hA := hA.trans (hq.mono hA.size)
  replace hB := hB.trans (hq.mono hB.size)
  clear hq
  have hq := below_new (w.alloc (.cells #[.bool b, .slice a xs.length ca, .slice c ds.length cc] 31)) (.cells #[.bool false, .slice none 0 0, .slice none 0 0] 31)
  replace R := R.below hq
  replace FA := FA.below hq
  replace E0 := E0.below hq
  have E1 := Box.put (w := (w.alloc (.cells #[.bool b, .slice a xs.length ca, .slice c ds.length cc] 31))) (k := (w.heap.size + 1)) (.cells #[.bool false, .slice none 0 0, .slice none 0 0] 31) (by simp)
  replace hA := hA.trans (hq.mono hA.size)
  replace hB := hB.trans (hq.mono hB.size)
  clear hq
  have hq := below_new ((w.alloc (.cells #[.bool b, .slice a xs.length ca, .slice c ds.length cc] 31)).alloc (.cells #[.bool false, .slice none 0 0, .slice none 0 0] 31)) (.cells #[.int .i64 0] 24)
  replace R := R.below hq
  replace FA := FA.below hq
  replace E0 := E0.below hq
  replace E1 := E1.below hq
  have E2 := Box.put (w := ((w.alloc (.cells #[.bool b, .slice a xs.length ca, .slice c ds.length cc] 31)).alloc (.cells #[.bool false, .slice none 0 0, .slice none 0 0] 31))) (k := (w.heap.size + 1 + 1)) (.cells #[.int .i64 0] 24) (by simp)
  replace hA := hA.trans (hq.mono hA.size)
  replace hB := hB.trans (hq.mono hB.size)
  clear hq
  clear hA
  go_wp2_with fail
  obtain ⟨u1, hname⟩ := nm hB
  rw [hname] at hB R FA E0 E1 E2 ⊢
  have zh1 := hB.size
  clear hname
  refine (pcheck_any b FA (by omega) (by omega)).mono ?_
  rintro e w2 ⟨rfl, hb⟩
  replace R := R.below hb
  replace FA := FA.below hb
  replace E0 := E0.below hb
  replace E1 := E1.below hb
  replace E2 := E2.below hb
  replace hB := hB.trans (hb.mono hB.size)
  have zz2 := hb.size
  have zh2 := hB.size
  clear hb
  obtain ⟨x0, hx0⟩ : ∃ x, formR b xs ds = x := ⟨_, rfl⟩
  rw [hx0]
  have HX0 := hide hx0
  clear hx0
  have qE0 := E0.lt
  have qE1 := E1.lt
  have qE2 := E2.lt
  obtain ⟨kk, hK⟩ : ∃ kk, w2.heap.size = kk := ⟨_, rfl⟩
  have hKm : w.heap.size + 1 + 1 < kk := by omega
  have RO1 : RowOff (w.heap.size + 1) sv rs := fun hne g o e h => by have hl := hR g o e hne; omega
  have RO2 : RowOff (w.heap.size + 1 + 1) sv rs := fun hne g o e h => by have hl := hR g o e hne; omega
  have RO3 : RowOff kk sv rs := fun hne g o e h => by have hl := hR g o e hne; omega
  obtain ⟨k0, k1, k2, f0, f1, f2⟩ := E0.three
  obtain ⟨k3, k4, k5, f3, f4, f5⟩ := E1.three
  obtain ⟨k6, f6⟩ := E2.one
  have hq := below_new w2 (.cells #[.int .i64 x0] 24)
  replace R := R.below hq
  replace FA := FA.below hq
  replace E0 := E0.below hq
  replace E1 := E1.below hq
  replace E2 := E2.below hq
  have E3 : Box (w2.alloc (.cells #[.int .i64 x0] 24)) kk (.cells #[.int .i64 x0] 24) := Box.put (.cells #[.int .i64 x0] 24) hK
  replace hB := hB.trans (hq.mono hB.size)
  go_wp2
  clear hq k0 k1 k2 f0 f1 f2 k3 k4 k5 f3 f4 f5 k6 f6
  obtain ⟨v1, hname⟩ := nm hB
  rw [hname] at R FA E0 E1 E2 E3 hB ⊢
  clear hname hK
  clear qE0 qE1 qE2
  go_loopw [9] (fun iv wv => ∃ (i : Nat) (x : Int), iv = .int .i64 i ∧ i ≤ rs.length ∧ Row 0 wv sv rs ∧ Fr lo wv a ca xs c cc ds ∧ Box wv w.heap.size (.cells #[.bool b, .slice a xs.length ca, .slice c ds.length cc] 31) ∧ Box wv (w.heap.size + 1) (.cells #[.bool false, .slice none 0 0, .slice none 0 0] 31) ∧ Box wv (w.heap.size + 1 + 1) (.cells #[.int .i64 0] 24) ∧ Box wv kk (.cells #[.int .i64 x] 24) ∧ Below w.heap.size w wv ∧
          Hid ((x = 0 ∧ formR b xs ds = 0 ∧ ∀ r ∈ rs.take i, formR r.b r.xs r.ds = 0) ∨ (x = 6 ∧ ¬ AllGood b xs ds rs))) (fun iv _ => rs.length - (intOf iv).toNat)
  case atStart =>
    refine ⟨0, x0, rfl, Nat.zero_le _, R, FA, E0, E1, E2, E3, hB, ?_⟩
    rw [Hid]
    rcases formR_or b xs ds with h | h
    · exact Or.inl ⟨by rw [← HX0.out, h], h, by simp⟩
    · exact Or.inr ⟨by rw [← HX0.out, h], fun hg => by rw [hg.1] at h; exact absurd h (by decide)⟩
  case round =>
    clear R FA E0 E1 E2 E3 hB HX0
    obtain ⟨i, x, rfl, hi, R, FA, E0, E1, E2, E3, hB, HX⟩ := hrel
    have zB := hB.size
    have hw1 : IntKind.i64.wrap ((i : Int) + 1) = (i : Int) + 1 := by rw [IntKind.wrap_i64]; omega
    by_cases hx : x = 0
    · subst hx
      by_cases hlt : i < rs.length
      · have hlt2 : (i : Int) < (rs.length : Int) := by omega
        have hge : ¬ (i : Int) < 0 := by omega
        obtain ⟨g, o, rfl, hg⟩ := R.at_ i hlt
        obtain ⟨r, hr0⟩ : ∃ r, rs[i]? = some r := ⟨rs[i], List.getElem?_eq_getElem hlt⟩
        have hr := hide hr0
        have FR1 := R.held i r hr0
        clear hr0
        have hlr := hlen r (List.mem_of_getElem? hr.out)
        have hcc := R.cells g o i r rfl hr.out
        have c0 := hcc.1
        have c1 := hcc.2.1
        have c2 := hcc.2.2
        clear hcc
        obtain ⟨k0, k1, k2, f0, f1, f2⟩ := E0.three
        obtain ⟨k3, k4, k5, f3, f4, f5⟩ := E1.three
        obtain ⟨k6, f6⟩ := E2.one
        obtain ⟨k7, f7⟩ := E3.one
        go_wp2_with fail
        clear k0 k1 k2 f0 f1 f2 k3 k4 k5 f3 f4 f5 k6 f6 k7 f7
        refine (pcheck_any r.b FR1 (by omega) (by omega)).mono ?_
        rintro e w3 ⟨rfl, hb⟩
        replace R := R.below hb
        replace FA := FA.below hb
        replace E0 := E0.below hb
        replace E1 := E1.below hb
        replace E2 := E2.below hb
        replace E3 := E3.below hb
        replace hB := hB.trans (hb.mono hB.size)
        have zz3 := hb.size
        have zh3 := hB.size
        clear hb
        clear c0 c1 c2
        obtain ⟨x2, hx2⟩ : ∃ x, formR r.b r.xs r.ds = x := ⟨_, rfl⟩
        rw [hx2]
        have HX2 := hide hx2
        clear hx2
        obtain ⟨k0, k1, k2, f0, f1, f2⟩ := E0.three
        obtain ⟨k3, k4, k5, f3, f4, f5⟩ := E1.three
        obtain ⟨k6, f6⟩ := E2.one
        obtain ⟨k7, f7⟩ := E3.one
        have qE0 := E0.lt
        have qE1 := E1.lt
        have qE2 := E2.lt
        have qE3 := E3.lt
        have hA := Below.refl w3.heap.size w3
        have hT := ((Turns.refl (kk) w3).setCell 0 (.int .i64 x2))
        replace R := R.beside E3 (noWord1 (fun _ e => by cases e)) hT (by first | exact RO1 | exact RO2 | exact RO3)
        replace FA := FA.beside E3 (noWord1 (fun _ e => by cases e)) hT
        replace E0 := E0.turns hT (by omega)
        replace E1 := E1.turns hT (by omega)
        replace E2 := E2.turns hT (by omega)
        replace E3 : Box (w3.setCell ⟨kk, 0, none⟩ (.int .i64 x2)) (kk) (.cells #[.int .i64 x2] 24) := ⟨Nat.lt_of_lt_of_le E3.lt hT.below.size, (heap_setCell_same _ _ 0 _ _ _ E3.what)⟩
        replace hB := hB.trans (hT.below.mono (by omega))
        clear hT
        clear hA
        have hms : rs.length - (i + 1) < rs.length - i := by omega
        go_wp2
        refine ⟨⟨i + 1, x2, by simp, by omega, R, FA, E0, E1, E2, E3, hB, ?_⟩, by simpa [intOf] using hms⟩
        rw [Hid]
        rcases HX.out with ⟨_, h1, h2⟩ | ⟨h1, _⟩
        · rcases formR_or r.b r.xs r.ds with h | h
          · refine Or.inl ⟨by rw [← HX2.out, h], h1, fun s hs => ?_⟩
            rw [List.take_add_one, hr.out] at hs
            simp only [Option.toList_some, List.mem_append, List.mem_singleton] at hs
            rcases hs with hs | rfl
            · exact h2 s hs
            · exact h
          · exact Or.inr ⟨by rw [← HX2.out, h], fun hg => by rw [hg.2 r (List.mem_of_getElem? hr.out)] at h; exact absurd h (by decide)⟩
        · exact absurd h1 (by decide)
      · have hnl : ¬ (i : Int) < (rs.length : Int) := by omega
        have HY : KeptIs b xs ds rs 0 := by
          rcases HX.out with ⟨_, h1, h2⟩ | ⟨h1, _⟩
          · rw [List.take_of_length_le (by omega)] at h2
            exact Or.inl ⟨⟨h1, h2⟩, rfl⟩
          · exact absurd h1 (by decide)
        obtain ⟨k0, k1, k2, f0, f1, f2⟩ := E0.three
        obtain ⟨k3, k4, k5, f3, f4, f5⟩ := E1.three
        obtain ⟨k6, f6⟩ := E2.one
        obtain ⟨k7, f7⟩ := E3.one
        have qE0 := E0.lt
        have qE1 := E1.lt
        have qE2 := E2.lt
        have qE3 := E3.lt
        have hA := Below.refl wr.heap.size wr
        have hT := turns3 (w.heap.size + 1) wr (.bool b) (.slice a xs.length ca) (.slice c ds.length cc)
        replace R := R.beside E1 (noWord3 (fun _ e => by cases e) (fun _ e => by cases e) (fun _ e => by cases e)) hT (by first | exact RO1 | exact RO2 | exact RO3)
        replace FA := FA.beside E1 (noWord3 (fun _ e => by cases e) (fun _ e => by cases e) (fun _ e => by cases e)) hT
        replace E0 := E0.turns hT (by omega)
        replace E2 := E2.turns hT (by omega)
        replace E3 := E3.turns hT (by omega)
        replace E1 := Box.set3 (.bool b) (.slice a xs.length ca) (.slice c ds.length cc) E1
        replace hB := hB.trans (hT.below.mono (by omega))
        clear hT
        clear hA
        go_wp2
        clear k0 k1 k2 f0 f1 f2 k3 k4 k5 f3 f4 f5 k6 f6 k7 f7
        go_loopw [10] (fun iv wv => ∃ (i : Nat) (y : Int) (b1 : Bool) (a1 : Option Addr) (n1 : Nat) (x1 : List Int) (e1 : Option Addr) (m1 : Nat) (y1 : List Int), iv = .int .i64 i ∧ i ≤ rs.length ∧ Row 0 wv sv rs ∧ Box wv (w.heap.size + 1) (.cells #[.bool b1, .slice a1 x1.length n1, .slice e1 y1.length m1] 31) ∧ Box wv (w.heap.size + 1 + 1) (.cells #[.int .i64 0] 24) ∧ Box wv kk (.cells #[.int .i64 y] 24) ∧ Below w.heap.size w wv ∧
                FoldAt op w b a ca xs c cc ds rs n m i y b1 a1 n1 x1 e1 m1 y1 wv) (fun iv _ => rs.length - (intOf iv).toNat)
        case atStart => exact ⟨0, 0, b, a, ca, xs, c, cc, ds, rfl, Nat.zero_le _, R, E1, E2, E3, hB, FoldAt.start hI FA HY⟩
        case round =>
          clear R FA E0 E1 E2 E3 HX HY hB
          clear qE0 qE1 qE2 qE3
          obtain ⟨i, y, b1, a1, n1, x1, e1, m1, y1, rfl, hi, R, E1, E2, E3, hB, HF⟩ := hrel
          have zB := hB.size
          have qE1 := E1.lt
          have qE2 := E2.lt
          have qE3 := E3.lt
          by_cases hgo : y = 0 ∧ i < rs.length
          · obtain ⟨rfl, hlt⟩ := hgo
            have hlt2 : (i : Int) < (rs.length : Int) := by omega
            have hge : ¬ (i : Int) < 0 := by omega
            obtain ⟨g, o, rfl, hg⟩ := R.at_ i hlt
            obtain ⟨r, hr0⟩ : ∃ r, rs[i]? = some r := ⟨rs[i], List.getElem?_eq_getElem hlt⟩
            have hr := hide hr0
            have FR1 := R.held i r hr0
            clear hr0
            obtain ⟨q1, I1, FC, HM⟩ := HF.go rfl
            have I2 := hgood r (List.mem_of_getElem? hr.out) (HF.allgood rfl r (List.mem_of_getElem? hr.out))
            clear HF
            obtain ⟨u, hu⟩ : ∃ u, op q1 r.q = u := ⟨_, rfl⟩
            have HU := hide hu
            clear hu
            have hw1 : IntKind.i64.wrap ((i : Int) + 1) = (i : Int) + 1 := by rw [IntKind.wrap_i64]; omega
            have hbd : n + i * (m + 1) + m ≤ 400 := by have : i * (m + 1) ≤ 6 * (m + 1) := Nat.mul_le_mul_right _ (by omega); omega
            cases u with
            | some t =>
                obtain ⟨k0, k1, k2, f0, f1, f2⟩ := E1.three
                obtain ⟨k3, f3⟩ := E2.one
                obtain ⟨k4, f4⟩ := E3.one
                go_wp2_with fail
                clear k0 k1 k2 f0 f1 f2 k3 f3 k4 f4
                replace R := R.drew
                replace FC := FC.drew
                replace FR1 := FR1.drew
                have qE1 := E1.lt
                replace E1 := E1.drew
                have qE2 := E2.lt
                replace E2 := E2.drew
                have qE3 := E3.lt
                replace E3 := E3.drew
                refine wp_yields 8 [.is (.func (.func J) #[] #[]), .is (.agg #[.bool b1, .slice a1 x1.length n1, .slice e1 y1.length m1]), .is (.slice (some ⟨g, o, none⟩) rs.length cap), .is (.int .i64 i), .is (.pointer (some ⟨g, o + i * 3, none⟩)), .is (.agg #[.bool r.b, .slice r.a r.xs.length r.ca, .slice r.c r.ds.length r.cc]), (Yield.fracE wr.heap.size (t) (n + i * (m + 1) + m + 1)), (Yield.fracE wr.heap.size (t) (n + i * (m + 1) + m + 1))] (by kernel_rfl) (by kernel_rfl) (lt_cons ?_ (lt_cons ?_ (lt_cons ?_ (lt_cons ?_ (lt_cons ?_ (lt_cons ?_ (lt_cons ?_ (lt_cons ?_ lt_nil)))))))) ?_
                case refine_1 =>
                  refine OpDoes.mk rfl ?_
                  intro vs V hV hd K hK
                  have hh := fun (P : Prop) => Yield.fracE_elim P (show ((Yield.fracE wr.heap.size (t) (n + i * (m + 1) + m + 1)) : Yield).At (vs 6) V from hd 6 (by decide) (by kernel_rfl))
                  refine hh _ ?_
                  intro g2 a2 c2 x2 e2 t2 y2 d6 F2 P2 I2
                  clear hh
                  simp only [laidIn, lz1, lz2, lz3, lz4, lz5, lz6, if_true, Act.put, lz7, lz8, lz9] at hK ⊢
                  simp only [d6] at hK ⊢
                  go_simp
                  exact hK.out _ _ (Below.refl _ _) ⟨_, _, _, _, _, _, _, rfl, F2, P2, I2⟩ (not_fresh rfl)
                case refine_2 =>
                  refine OpDoes.mk rfl ?_
                  intro vs V hV hd K hK
                  have d0 : vs 0 = .func (.func J) #[] #[] := hd 0 (by decide) (by kernel_rfl)
                  have d1 : vs 1 = .agg #[.bool b1, .slice a1 x1.length n1, .slice e1 y1.length m1] := hd 1 (by decide) (by kernel_rfl)
                  have d5 : vs 5 = .agg #[.bool r.b, .slice r.a r.xs.length r.ca, .slice r.c r.ds.length r.cc] := hd 5 (by decide) (by kernel_rfl)
                  simp only [laidIn, lz1, lz2, lz3, lz4, lz5, lz6, if_true, Act.put, lz7, lz8, lz9] at hK ⊢
                  simp only [d0, d1, d5] at hK ⊢
                  go_simp
                  refine (hJs V b1 a1 n1 x1 e1 m1 y1 q1 (n + i * (m + 1)) r t (FC.below hV) (FR1.below hV) I1 I2 hbd HU.out).mono ?_
                  rintro e V' ⟨g2, a2, c2, x2, e2, t2, y2, rfl, F2, P2, I2, hb⟩
                  replace I2 : Is g2 x2 y2 (t) (n + i * (m + 1) + m + 1) := I2.mono (by omega)
                  exact hK.out _ _ hb ⟨_, _, _, _, _, _, _, rfl, F2.mono hV.size, P2, I2⟩ (not_fresh rfl)
                case refine_3 =>
                  refine OpDoes.mk rfl ?_
                  intro vs V hV hd K hK
                  have d4 : vs 4 = .pointer (some ⟨g, o + i * 3, none⟩) := hd 4 (by decide) (by kernel_rfl)
                  have hcc := (R.below hV).cells g o i r rfl hr.out
                  have k0 := hcc.1
                  have k1 := hcc.2.1
                  have k2 := hcc.2.2
                  clear hcc
                  simp only [laidIn, lz1, lz2, lz3, lz4, lz5, lz6, if_true, Act.put, lz7, lz8, lz9] at hK ⊢
                  simp only [d4] at hK ⊢
                  go_simp
                  exact hK.out _ _ (Below.refl _ _) rfl (not_fresh rfl)
                case refine_4 =>
                  refine OpDoes.mk rfl ?_
                  intro vs V hV hd K hK
                  have d2 : vs 2 = .slice (some ⟨g, o, none⟩) rs.length cap := hd 2 (by decide) (by kernel_rfl)
                  have d3 : vs 3 = .int .i64 i := hd 3 (by decide) (by kernel_rfl)
                  simp only [laidIn, lz1, lz2, lz3, lz4, lz5, lz6, if_true, Act.put, lz7, lz8, lz9] at hK ⊢
                  simp only [d2, d3] at hK ⊢
                  go_simp
                  exact hK.out _ _ (Below.refl _ _) rfl (not_fresh rfl)
                case refine_5 =>
                  refine OpDoes.mk rfl ?_
                  intro vs V hV hd K hK
                  simp only [laidIn, lz1, lz2, lz3, lz4, lz5, lz6, if_true, Act.put, lz7, lz8, lz9] at hK ⊢
                  go_simp
                  exact hK.out _ _ (Below.refl _ _) rfl (not_fresh rfl)
                case refine_6 =>
                  refine OpDoes.mk rfl ?_
                  intro vs V hV hd K hK
                  simp only [laidIn, lz1, lz2, lz3, lz4, lz5, lz6, if_true, Act.put, lz7, lz8, lz9] at hK ⊢
                  go_simp
                  exact hK.out _ _ (Below.refl _ _) rfl (not_fresh rfl)
                case refine_7 =>
                  refine OpDoes.mk rfl ?_
                  intro vs V hV hd K hK
                  have hcc := (E1.below hV).three
                  have k0 := hcc.1
                  have k1 := hcc.2.1
                  have k2 := hcc.2.2.1
                  clear hcc
                  simp only [laidIn, lz1, lz2, lz3, lz4, lz5, lz6, if_true, Act.put, lz7, lz8, lz9] at hK ⊢
                  go_simp
                  exact hK.out _ _ (Below.refl _ _) rfl (not_fresh rfl)
                case refine_8 =>
                  refine OpDoes.mk rfl ?_
                  intro vs V hV hd K hK
                  simp only [laidIn, lz1, lz2, lz4, lz5, lz6, if_true, Act.put, lz7, lz8, lz9] at hK ⊢
                  go_simp
                  exact hK.out _ _ (Below.refl _ _) rfl (not_fresh rfl)
                case refine_9 =>
                  intro vs Y1 hV hR hne fuel
                  have d0 : vs 0 = .func (.func J) #[] #[] := hR 0 (by decide)
                  have d1 : vs 1 = .agg #[.bool b1, .slice a1 x1.length n1, .slice e1 y1.length m1] := hR 1 (by decide)
                  have d2 : vs 2 = .slice (some ⟨g, o, none⟩) rs.length cap := hR 2 (by decide)
                  have d3 : vs 3 = .int .i64 i := hR 3 (by decide)
                  have d4 : vs 4 = .pointer (some ⟨g, o + i * 3, none⟩) := hR 4 (by decide)
                  have d5 : vs 5 = .agg #[.bool r.b, .slice r.a r.xs.length r.ca, .slice r.c r.ds.length r.cc] := hR 5 (by decide)
                  have hh := fun (P : Prop) => Yield.fracE_elim P (show ((Yield.fracE wr.heap.size (t) (n + i * (m + 1) + m + 1)) : Yield).At (vs 6) Y1 from hR 6 (by decide))
                  refine hh _ ?_
                  intro g2 a2 c2 x2 e2 t2 y2 d6 F2 P2 I2
                  clear hh
                  have hh := fun (P : Prop) => Yield.fracE_elim P (show ((Yield.fracE wr.heap.size (t) (n + i * (m + 1) + m + 1)) : Yield).At (vs 7) Y1 from hR 7 (by decide))
                  refine hh _ ?_
                  intro g3 a3 c3 x3 e3 t3 y3 d7 F3 P3 I3
                  clear hh
                  replace R := R.below hV
                  replace FC := FC.below hV
                  replace FR1 := FR1.below hV
                  replace E1 := E1.below hV
                  replace E2 := E2.below hV
                  replace E3 := E3.below hV
                  have hr := hV
                  simp only [laidIn, lz4, lz5, lz6, if_true, Act.put, lz7, lz8, lz9]
                  simp only [d0, d1, d2, d3, d4, d5, d6, d7]
                  clear hR hne hV d0 d1 d2 d3 d4 d5 d6 d7
                  clear vs
                  show wpAny _ _ _ _ (fuel + 4) _ _ _
                  refine wpAny_all (rs := [8, 9]) (by kernel_rfl) (by simp) (fun i hi => ?_)
                  rcases (show i = 8 ∨ i = 9 by simpa using hi) with rfl | rfl
                  · clear hi
                    refine wpOp_step rfl (fun K hK => ?_)
                    simp only [lz1, lz2, lz3]
                    rw [if_pos (by rfl)]
                    go_simp
                    refine hK _ _ ?_
                    clear hK
                    refine wpAny_all (rs := [9, 10]) (by kernel_rfl) (by simp) (fun i hi => ?_)
                    rcases (show i = 9 ∨ i = 10 by simpa using hi) with rfl | rfl
                    · clear hi
                      refine wpOp_step rfl (fun K hK => ?_)
                      simp only [lz1, lz2, lz3]
                      rw [if_pos (by rfl)]
                      go_simp
                      refine hK _ _ ?_
                      clear hK
                      refine wpAny_all (rs := [10]) (by kernel_rfl) (by simp) (fun i hi => ?_)
                      obtain rfl : i = 10 := by simpa using hi
                      clear hi
                      have hcc := E1.three
                      have k0 := hcc.1
                      have k1 := hcc.2.1
                      have k2 := hcc.2.2.1
                      have f0 := hcc.2.2.2.1
                      have f1 := hcc.2.2.2.2.1
                      have f2 := hcc.2.2.2.2.2
                      clear hcc
                      refine wpOp_step rfl (fun K hK => ?_)
                      simp only [lz1, lz2, lz3]
                      rw [if_pos (by rfl)]
                      go_simp
                      refine hK _ _ ?_
                      clear hK k0 f0 k1 f1 k2 f2
                      have hT := turns3 (w.heap.size + 1) Y1 (.bool g3) (.slice a3 x3.length c3) (.slice e3 y3.length t3)
                      replace R := R.beside E1 (noWord3 (fun _ e => by cases e) (fun _ e => by cases e) (fun _ e => by cases e)) hT (by first | exact RO1 | exact RO2 | exact RO3)
                      replace FC := FC.beside E1 (noWord3 (fun _ e => by cases e) (fun _ e => by cases e) (fun _ e => by cases e)) hT
                      replace FR1 := FR1.beside E1 (noWord3 (fun _ e => by cases e) (fun _ e => by cases e) (fun _ e => by cases e)) hT
                      replace E2 := E2.turns hT (by omega)
                      replace E3 := E3.turns hT (by omega)
                      replace F2 := F2.beside E1 (noWord3 (fun _ e => by cases e) (fun _ e => by cases e) (fun _ e => by cases e)) hT
                      replace F3 := F3.beside E1 (noWord3 (fun _ e => by cases e) (fun _ e => by cases e) (fun _ e => by cases e)) hT
                      replace E1 := E1.set3 (.bool g3) (.slice a3 x3.length c3) (.slice e3 y3.length t3)
                      have hr10 := hT.below
                      obtain ⟨X1, hX⟩ := nm hT.below
                      rw [hX] at R FC FR1 E1 E2 E3 F2 F3 hr10 ⊢
                      clear hX hT
                      refine wpAny_all (rs := [11]) (by kernel_rfl) (by simp) (fun i hi => ?_)
                      obtain rfl : i = 11 := by simpa using hi
                      clear hi
                      have hcc := E3.one
                      have k0 := hcc.1
                      have f0 := hcc.2
                      clear hcc
                      refine wpOp_step rfl (fun K hK => ?_)
                      simp only [lz1, lz2, lz3]
                      rw [if_pos (by rfl)]
                      go_simp
                      refine hK _ _ ?_
                      clear hK k0 f0
                      have hT := turns1 (kk) X1 (.int .i64 0)
                      replace R := R.beside E3 (noWord1 (fun _ e => by cases e)) hT (by first | exact RO1 | exact RO2 | exact RO3)
                      replace FC := FC.beside E3 (noWord1 (fun _ e => by cases e)) hT
                      replace FR1 := FR1.beside E3 (noWord1 (fun _ e => by cases e)) hT
                      replace E1 := E1.turns hT (by omega)
                      replace E2 := E2.turns hT (by omega)
                      replace F2 := F2.beside E3 (noWord1 (fun _ e => by cases e)) hT
                      replace F3 := F3.beside E3 (noWord1 (fun _ e => by cases e)) hT
                      replace E3 := E3.set1 (.int .i64 0)
                      have hr11 := hT.below
                      obtain ⟨X2, hX⟩ := nm hT.below
                      rw [hX] at R FC FR1 E1 E2 E3 F2 F3 hr11 ⊢
                      clear hX hT
                      refine wpAny_done (by kernel_rfl) ?_ _
                      replace hB := hB.trans ((Below.trans (Below.drew (Below.refl wr.heap.size wr)) hr).mono hB.size)
                      replace hB := hB.trans (hr10.mono (by omega))
                      replace hB := hB.trans (hr11.mono (by omega))
                      have zz0_2 := hr.size
                      have zi1 := hB.size
                      have zy2_10 := hr10.size
                      have zy2_11 := hr11.size
                      clear hr hr10 hr11
                      have hms : rs.length - (i + 1) < rs.length - i := by omega
                      go_wp2
                      refine ⟨⟨i + 1, 0, g3, a3, c3, x3, e3, t3, y3, by simp, by omega, R, E1, E2, E3, hB, FoldAt.next HM hr.out HU.out (F3.mono zB) P3 I3⟩, ?_⟩
                      simpa [intOf] using hms
                    · clear hi
                      have hcc := E1.three
                      have k0 := hcc.1
                      have k1 := hcc.2.1
                      have k2 := hcc.2.2.1
                      have f0 := hcc.2.2.2.1
                      have f1 := hcc.2.2.2.2.1
                      have f2 := hcc.2.2.2.2.2
                      clear hcc
                      refine wpOp_step rfl (fun K hK => ?_)
                      simp only [lz1, lz2, lz3]
                      rw [if_pos (by rfl)]
                      go_simp
                      refine hK _ _ ?_
                      clear hK k0 f0 k1 f1 k2 f2
                      have hT := turns3 (w.heap.size + 1) Y1 (.bool g3) (.slice a3 x3.length c3) (.slice e3 y3.length t3)
                      replace R := R.beside E1 (noWord3 (fun _ e => by cases e) (fun _ e => by cases e) (fun _ e => by cases e)) hT (by first | exact RO1 | exact RO2 | exact RO3)
                      replace FC := FC.beside E1 (noWord3 (fun _ e => by cases e) (fun _ e => by cases e) (fun _ e => by cases e)) hT
                      replace FR1 := FR1.beside E1 (noWord3 (fun _ e => by cases e) (fun _ e => by cases e) (fun _ e => by cases e)) hT
                      replace E2 := E2.turns hT (by omega)
                      replace E3 := E3.turns hT (by omega)
                      replace F2 := F2.beside E1 (noWord3 (fun _ e => by cases e) (fun _ e => by cases e) (fun _ e => by cases e)) hT
                      replace F3 := F3.beside E1 (noWord3 (fun _ e => by cases e) (fun _ e => by cases e) (fun _ e => by cases e)) hT
                      replace E1 := E1.set3 (.bool g3) (.slice a3 x3.length c3) (.slice e3 y3.length t3)
                      have hr10 := hT.below
                      obtain ⟨X3, hX⟩ := nm hT.below
                      rw [hX] at R FC FR1 E1 E2 E3 F2 F3 hr10 ⊢
                      clear hX hT
                      refine wpAny_all (rs := [9]) (by kernel_rfl) (by simp) (fun i hi => ?_)
                      obtain rfl : i = 9 := by simpa using hi
                      clear hi
                      refine wpOp_step rfl (fun K hK => ?_)
                      simp only [lz1, lz2, lz3]
                      rw [if_pos (by rfl)]
                      go_simp
                      refine hK _ _ ?_
                      clear hK
                      refine wpAny_all (rs := [11]) (by kernel_rfl) (by simp) (fun i hi => ?_)
                      obtain rfl : i = 11 := by simpa using hi
                      clear hi
                      have hcc := E3.one
                      have k0 := hcc.1
                      have f0 := hcc.2
                      clear hcc
                      refine wpOp_step rfl (fun K hK => ?_)
                      simp only [lz1, lz2, lz3]
                      rw [if_pos (by rfl)]
                      go_simp
                      refine hK _ _ ?_
                      clear hK k0 f0
                      have hT := turns1 (kk) X3 (.int .i64 0)
                      replace R := R.beside E3 (noWord1 (fun _ e => by cases e)) hT (by first | exact RO1 | exact RO2 | exact RO3)
                      replace FC := FC.beside E3 (noWord1 (fun _ e => by cases e)) hT
                      replace FR1 := FR1.beside E3 (noWord1 (fun _ e => by cases e)) hT
                      replace E1 := E1.turns hT (by omega)
                      replace E2 := E2.turns hT (by omega)
                      replace F2 := F2.beside E3 (noWord1 (fun _ e => by cases e)) hT
                      replace F3 := F3.beside E3 (noWord1 (fun _ e => by cases e)) hT
                      replace E3 := E3.set1 (.int .i64 0)
                      have hr11 := hT.below
                      obtain ⟨X4, hX⟩ := nm hT.below
                      rw [hX] at R FC FR1 E1 E2 E3 F2 F3 hr11 ⊢
                      clear hX hT
                      refine wpAny_done (by kernel_rfl) ?_ _
                      replace hB := hB.trans ((Below.trans (Below.drew (Below.refl wr.heap.size wr)) hr).mono hB.size)
                      replace hB := hB.trans (hr10.mono (by omega))
                      replace hB := hB.trans (hr11.mono (by omega))
                      have zz0_4 := hr.size
                      have zi1 := hB.size
                      have zy4_10 := hr10.size
                      have zy4_11 := hr11.size
                      clear hr hr10 hr11
                      have hms : rs.length - (i + 1) < rs.length - i := by omega
                      go_wp2
                      refine ⟨⟨i + 1, 0, g3, a3, c3, x3, e3, t3, y3, by simp, by omega, R, E1, E2, E3, hB, FoldAt.next HM hr.out HU.out (F3.mono zB) P3 I3⟩, ?_⟩
                      simpa [intOf] using hms
                  · clear hi
                    refine wpOp_step rfl (fun K hK => ?_)
                    simp only [lz1, lz2, lz3]
                    rw [if_pos (by rfl)]
                    go_simp
                    refine hK _ _ ?_
                    clear hK
                    refine wpAny_all (rs := [8]) (by kernel_rfl) (by simp) (fun i hi => ?_)
                    obtain rfl : i = 8 := by simpa using hi
                    clear hi
                    refine wpOp_step rfl (fun K hK => ?_)
                    simp only [lz1, lz2, lz3]
                    rw [if_pos (by rfl)]
                    go_simp
                    refine hK _ _ ?_
                    clear hK
                    refine wpAny_all (rs := [10]) (by kernel_rfl) (by simp) (fun i hi => ?_)
                    obtain rfl : i = 10 := by simpa using hi
                    clear hi
                    have hcc := E1.three
                    have k0 := hcc.1
                    have k1 := hcc.2.1
                    have k2 := hcc.2.2.1
                    have f0 := hcc.2.2.2.1
                    have f1 := hcc.2.2.2.2.1
                    have f2 := hcc.2.2.2.2.2
                    clear hcc
                    refine wpOp_step rfl (fun K hK => ?_)
                    simp only [lz1, lz2, lz3]
                    rw [if_pos (by rfl)]
                    go_simp
                    refine hK _ _ ?_
                    clear hK k0 f0 k1 f1 k2 f2
                    have hT := turns3 (w.heap.size + 1) Y1 (.bool g3) (.slice a3 x3.length c3) (.slice e3 y3.length t3)
                    replace R := R.beside E1 (noWord3 (fun _ e => by cases e) (fun _ e => by cases e) (fun _ e => by cases e)) hT (by first | exact RO1 | exact RO2 | exact RO3)
                    replace FC := FC.beside E1 (noWord3 (fun _ e => by cases e) (fun _ e => by cases e) (fun _ e => by cases e)) hT
                    replace FR1 := FR1.beside E1 (noWord3 (fun _ e => by cases e) (fun _ e => by cases e) (fun _ e => by cases e)) hT
                    replace E2 := E2.turns hT (by omega)
                    replace E3 := E3.turns hT (by omega)
                    replace F2 := F2.beside E1 (noWord3 (fun _ e => by cases e) (fun _ e => by cases e) (fun _ e => by cases e)) hT
                    replace F3 := F3.beside E1 (noWord3 (fun _ e => by cases e) (fun _ e => by cases e) (fun _ e => by cases e)) hT
                    replace E1 := E1.set3 (.bool g3) (.slice a3 x3.length c3) (.slice e3 y3.length t3)
                    have hr10 := hT.below
                    obtain ⟨X5, hX⟩ := nm hT.below
                    rw [hX] at R FC FR1 E1 E2 E3 F2 F3 hr10 ⊢
                    clear hX hT
                    refine wpAny_all (rs := [11]) (by kernel_rfl) (by simp) (fun i hi => ?_)
                    obtain rfl : i = 11 := by simpa using hi
                    clear hi
                    have hcc := E3.one
                    have k0 := hcc.1
                    have f0 := hcc.2
                    clear hcc
                    refine wpOp_step rfl (fun K hK => ?_)
                    simp only [lz1, lz2, lz3]
                    rw [if_pos (by rfl)]
                    go_simp
                    refine hK _ _ ?_
                    clear hK k0 f0
                    have hT := turns1 (kk) X5 (.int .i64 0)
                    replace R := R.beside E3 (noWord1 (fun _ e => by cases e)) hT (by first | exact RO1 | exact RO2 | exact RO3)
                    replace FC := FC.beside E3 (noWord1 (fun _ e => by cases e)) hT
                    replace FR1 := FR1.beside E3 (noWord1 (fun _ e => by cases e)) hT
                    replace E1 := E1.turns hT (by omega)
                    replace E2 := E2.turns hT (by omega)
                    replace F2 := F2.beside E3 (noWord1 (fun _ e => by cases e)) hT
                    replace F3 := F3.beside E3 (noWord1 (fun _ e => by cases e)) hT
                    replace E3 := E3.set1 (.int .i64 0)
                    have hr11 := hT.below
                    obtain ⟨X6, hX⟩ := nm hT.below
                    rw [hX] at R FC FR1 E1 E2 E3 F2 F3 hr11 ⊢
                    clear hX hT
                    refine wpAny_done (by kernel_rfl) ?_ _
                    replace hB := hB.trans ((Below.trans (Below.drew (Below.refl wr.heap.size wr)) hr).mono hB.size)
                    replace hB := hB.trans (hr10.mono (by omega))
                    replace hB := hB.trans (hr11.mono (by omega))
                    have zz0_6 := hr.size
                    have zi1 := hB.size
                    have zy6_10 := hr10.size
                    have zy6_11 := hr11.size
                    clear hr hr10 hr11
                    have hms : rs.length - (i + 1) < rs.length - i := by omega
                    go_wp2
                    refine ⟨⟨i + 1, 0, g3, a3, c3, x3, e3, t3, y3, by simp, by omega, R, E1, E2, E3, hB, FoldAt.next HM hr.out HU.out (F3.mono zB) P3 I3⟩, ?_⟩
                    simpa [intOf] using hms
            | none =>
                obtain ⟨k0, k1, k2, f0, f1, f2⟩ := E1.three
                obtain ⟨k3, f3⟩ := E2.one
                obtain ⟨k4, f4⟩ := E3.one
                go_wp2_with fail
                clear k0 k1 k2 f0 f1 f2 k3 f3 k4 f4
                replace R := R.drew
                replace FC := FC.drew
                replace FR1 := FR1.drew
                have qE1 := E1.lt
                replace E1 := E1.drew
                have qE2 := E2.lt
                replace E2 := E2.drew
                have qE3 := E3.lt
                replace E3 := E3.drew
                refine wp_yields 8 [.is (.func (.func J) #[] #[]), .is (.agg #[.bool b1, .slice a1 x1.length n1, .slice e1 y1.length m1]), .is (.slice (some ⟨g, o, none⟩) rs.length cap), .is (.int .i64 i), .is (.pointer (some ⟨g, o + i * 3, none⟩)), .is (.agg #[.bool r.b, .slice r.a r.xs.length r.ca, .slice r.c r.ds.length r.cc]), (.is (.tuple #[.agg #[.bool false, .slice none 0 0, .slice none 0 0], .int .i64 5])), .is (.tuple #[.agg #[.bool false, .slice none 0 0, .slice none 0 0], .int .i64 5])] (by kernel_rfl) (by kernel_rfl) (lt_cons ?_ (lt_cons ?_ (lt_cons ?_ (lt_cons ?_ (lt_cons ?_ (lt_cons ?_ (lt_cons ?_ (lt_cons ?_ lt_nil)))))))) ?_
                case refine_1 =>
                  refine OpDoes.mk rfl ?_
                  intro vs V hV hd K hK
                  have d6 : vs 6 = .tuple #[.agg #[.bool false, .slice none 0 0, .slice none 0 0], .int .i64 5] := hd 6 (by decide) (by kernel_rfl)
                  simp only [laidIn, lz1, lz2, lz3, lz4, lz5, lz6, if_true, Act.put, lz7, lz8, lz9] at hK ⊢
                  simp only [d6] at hK ⊢
                  go_simp
                  exact hK.out _ _ (Below.refl _ _) rfl (not_fresh rfl)
                case refine_2 =>
                  refine OpDoes.mk rfl ?_
                  intro vs V hV hd K hK
                  have d0 : vs 0 = .func (.func J) #[] #[] := hd 0 (by decide) (by kernel_rfl)
                  have d1 : vs 1 = .agg #[.bool b1, .slice a1 x1.length n1, .slice e1 y1.length m1] := hd 1 (by decide) (by kernel_rfl)
                  have d5 : vs 5 = .agg #[.bool r.b, .slice r.a r.xs.length r.ca, .slice r.c r.ds.length r.cc] := hd 5 (by decide) (by kernel_rfl)
                  simp only [laidIn, lz1, lz2, lz3, lz4, lz5, lz6, if_true, Act.put, lz7, lz8, lz9] at hK ⊢
                  simp only [d0, d1, d5] at hK ⊢
                  go_simp
                  refine (hJn V b1 a1 n1 x1 e1 m1 y1 q1 (n + i * (m + 1)) r (FC.below hV) (FR1.below hV) I1 I2 hbd HU.out).mono ?_
                  rintro e V' ⟨rfl, hb⟩
                  exact hK.out _ _ hb rfl (not_fresh rfl)
                case refine_3 =>
                  refine OpDoes.mk rfl ?_
                  intro vs V hV hd K hK
                  have d4 : vs 4 = .pointer (some ⟨g, o + i * 3, none⟩) := hd 4 (by decide) (by kernel_rfl)
                  have hcc := (R.below hV).cells g o i r rfl hr.out
                  have k0 := hcc.1
                  have k1 := hcc.2.1
                  have k2 := hcc.2.2
                  clear hcc
                  simp only [laidIn, lz1, lz2, lz3, lz4, lz5, lz6, if_true, Act.put, lz7, lz8, lz9] at hK ⊢
                  simp only [d4] at hK ⊢
                  go_simp
                  exact hK.out _ _ (Below.refl _ _) rfl (not_fresh rfl)
                case refine_4 =>
                  refine OpDoes.mk rfl ?_
                  intro vs V hV hd K hK
                  have d2 : vs 2 = .slice (some ⟨g, o, none⟩) rs.length cap := hd 2 (by decide) (by kernel_rfl)
                  have d3 : vs 3 = .int .i64 i := hd 3 (by decide) (by kernel_rfl)
                  simp only [laidIn, lz1, lz2, lz3, lz4, lz5, lz6, if_true, Act.put, lz7, lz8, lz9] at hK ⊢
                  simp only [d2, d3] at hK ⊢
                  go_simp
                  exact hK.out _ _ (Below.refl _ _) rfl (not_fresh rfl)
                case refine_5 =>
                  refine OpDoes.mk rfl ?_
                  intro vs V hV hd K hK
                  simp only [laidIn, lz1, lz2, lz3, lz4, lz5, lz6, if_true, Act.put, lz7, lz8, lz9] at hK ⊢
                  go_simp
                  exact hK.out _ _ (Below.refl _ _) rfl (not_fresh rfl)
                case refine_6 =>
                  refine OpDoes.mk rfl ?_
                  intro vs V hV hd K hK
                  simp only [laidIn, lz1, lz2, lz3, lz4, lz5, lz6, if_true, Act.put, lz7, lz8, lz9] at hK ⊢
                  go_simp
                  exact hK.out _ _ (Below.refl _ _) rfl (not_fresh rfl)
                case refine_7 =>
                  refine OpDoes.mk rfl ?_
                  intro vs V hV hd K hK
                  have hcc := (E1.below hV).three
                  have k0 := hcc.1
                  have k1 := hcc.2.1
                  have k2 := hcc.2.2.1
                  clear hcc
                  simp only [laidIn, lz1, lz2, lz3, lz4, lz5, lz6, if_true, Act.put, lz7, lz8, lz9] at hK ⊢
                  go_simp
                  exact hK.out _ _ (Below.refl _ _) rfl (not_fresh rfl)
                case refine_8 =>
                  refine OpDoes.mk rfl ?_
                  intro vs V hV hd K hK
                  simp only [laidIn, lz1, lz2, lz4, lz5, lz6, if_true, Act.put, lz7, lz8, lz9] at hK ⊢
                  go_simp
                  exact hK.out _ _ (Below.refl _ _) rfl (not_fresh rfl)
                case refine_9 =>
                  intro vs Y1 hV hR hne fuel
                  have d0 : vs 0 = .func (.func J) #[] #[] := hR 0 (by decide)
                  have d1 : vs 1 = .agg #[.bool b1, .slice a1 x1.length n1, .slice e1 y1.length m1] := hR 1 (by decide)
                  have d2 : vs 2 = .slice (some ⟨g, o, none⟩) rs.length cap := hR 2 (by decide)
                  have d3 : vs 3 = .int .i64 i := hR 3 (by decide)
                  have d4 : vs 4 = .pointer (some ⟨g, o + i * 3, none⟩) := hR 4 (by decide)
                  have d5 : vs 5 = .agg #[.bool r.b, .slice r.a r.xs.length r.ca, .slice r.c r.ds.length r.cc] := hR 5 (by decide)
                  have d6 : vs 6 = .tuple #[.agg #[.bool false, .slice none 0 0, .slice none 0 0], .int .i64 5] := hR 6 (by decide)
                  have d7 : vs 7 = .tuple #[.agg #[.bool false, .slice none 0 0, .slice none 0 0], .int .i64 5] := hR 7 (by decide)
                  replace R := R.below hV
                  replace FC := FC.below hV
                  replace FR1 := FR1.below hV
                  replace E1 := E1.below hV
                  replace E2 := E2.below hV
                  replace E3 := E3.below hV
                  have hr := hV
                  simp only [laidIn, lz4, lz5, lz6, if_true, Act.put, lz7, lz8, lz9]
                  simp only [d0, d1, d2, d3, d4, d5, d6, d7]
                  clear hR hne hV d0 d1 d2 d3 d4 d5 d6 d7
                  clear vs
                  show wpAny _ _ _ _ (fuel + 4) _ _ _
                  refine wpAny_all (rs := [8, 9]) (by kernel_rfl) (by simp) (fun i hi => ?_)
                  rcases (show i = 8 ∨ i = 9 by simpa using hi) with rfl | rfl
                  · clear hi
                    refine wpOp_step rfl (fun K hK => ?_)
                    simp only [lz1, lz2, lz3]
                    rw [if_pos (by rfl)]
                    go_simp
                    refine hK _ _ ?_
                    clear hK
                    refine wpAny_all (rs := [9, 10]) (by kernel_rfl) (by simp) (fun i hi => ?_)
                    rcases (show i = 9 ∨ i = 10 by simpa using hi) with rfl | rfl
                    · clear hi
                      refine wpOp_step rfl (fun K hK => ?_)
                      simp only [lz1, lz2, lz3]
                      rw [if_pos (by rfl)]
                      go_simp
                      refine hK _ _ ?_
                      clear hK
                      refine wpAny_all (rs := [10]) (by kernel_rfl) (by simp) (fun i hi => ?_)
                      obtain rfl : i = 10 := by simpa using hi
                      clear hi
                      have hcc := E1.three
                      have k0 := hcc.1
                      have k1 := hcc.2.1
                      have k2 := hcc.2.2.1
                      have f0 := hcc.2.2.2.1
                      have f1 := hcc.2.2.2.2.1
                      have f2 := hcc.2.2.2.2.2
                      clear hcc
                      refine wpOp_step rfl (fun K hK => ?_)
                      simp only [lz1, lz2, lz3]
                      rw [if_pos (by rfl)]
                      go_simp
                      refine hK _ _ ?_
                      clear hK k0 f0 k1 f1 k2 f2
                      have hT := turns3 (w.heap.size + 1) Y1 (.bool false) (.slice none 0 0) (.slice none 0 0)
                      replace R := R.beside E1 (noWord3 (fun _ e => by cases e) (fun _ e => by cases e) (fun _ e => by cases e)) hT (by first | exact RO1 | exact RO2 | exact RO3)
                      replace FC := FC.beside E1 (noWord3 (fun _ e => by cases e) (fun _ e => by cases e) (fun _ e => by cases e)) hT
                      replace FR1 := FR1.beside E1 (noWord3 (fun _ e => by cases e) (fun _ e => by cases e) (fun _ e => by cases e)) hT
                      replace E2 := E2.turns hT (by omega)
                      replace E3 := E3.turns hT (by omega)
                      replace E1 := E1.set3 (.bool false) (.slice none 0 0) (.slice none 0 0)
                      have hr10 := hT.below
                      obtain ⟨X1, hX⟩ := nm hT.below
                      rw [hX] at R FC FR1 E1 E2 E3 hr10 ⊢
                      clear hX hT
                      refine wpAny_all (rs := [11]) (by kernel_rfl) (by simp) (fun i hi => ?_)
                      obtain rfl : i = 11 := by simpa using hi
                      clear hi
                      have hcc := E3.one
                      have k0 := hcc.1
                      have f0 := hcc.2
                      clear hcc
                      refine wpOp_step rfl (fun K hK => ?_)
                      simp only [lz1, lz2, lz3]
                      rw [if_pos (by rfl)]
                      go_simp
                      refine hK _ _ ?_
                      clear hK k0 f0
                      have hT := turns1 (kk) X1 (.int .i64 5)
                      replace R := R.beside E3 (noWord1 (fun _ e => by cases e)) hT (by first | exact RO1 | exact RO2 | exact RO3)
                      replace FC := FC.beside E3 (noWord1 (fun _ e => by cases e)) hT
                      replace FR1 := FR1.beside E3 (noWord1 (fun _ e => by cases e)) hT
                      replace E1 := E1.turns hT (by omega)
                      replace E2 := E2.turns hT (by omega)
                      replace E3 := E3.set1 (.int .i64 5)
                      have hr11 := hT.below
                      obtain ⟨X2, hX⟩ := nm hT.below
                      rw [hX] at R FC FR1 E1 E2 E3 hr11 ⊢
                      clear hX hT
                      refine wpAny_done (by kernel_rfl) ?_ _
                      replace hB := hB.trans ((Below.trans (Below.drew (Below.refl wr.heap.size wr)) hr).mono hB.size)
                      replace hB := hB.trans (hr10.mono (by omega))
                      replace hB := hB.trans (hr11.mono (by omega))
                      have zz0_2 := hr.size
                      have zi1 := hB.size
                      have zy2_10 := hr10.size
                      have zy2_11 := hr11.size
                      clear hr hr10 hr11
                      have hms : rs.length - (i + 1) < rs.length - i := by omega
                      go_wp2
                      refine ⟨⟨i + 1, 5, false, none, 0, [], none, 0, [], by simp, by omega, R, E1, E2, E3, hB, FoldAt.stop HM hr.out HU.out⟩, ?_⟩
                      simpa [intOf] using hms
                    · clear hi
                      have hcc := E1.three
                      have k0 := hcc.1
                      have k1 := hcc.2.1
                      have k2 := hcc.2.2.1
                      have f0 := hcc.2.2.2.1
                      have f1 := hcc.2.2.2.2.1
                      have f2 := hcc.2.2.2.2.2
                      clear hcc
                      refine wpOp_step rfl (fun K hK => ?_)
                      simp only [lz1, lz2, lz3]
                      rw [if_pos (by rfl)]
                      go_simp
                      refine hK _ _ ?_
                      clear hK k0 f0 k1 f1 k2 f2
                      have hT := turns3 (w.heap.size + 1) Y1 (.bool false) (.slice none 0 0) (.slice none 0 0)
                      replace R := R.beside E1 (noWord3 (fun _ e => by cases e) (fun _ e => by cases e) (fun _ e => by cases e)) hT (by first | exact RO1 | exact RO2 | exact RO3)
                      replace FC := FC.beside E1 (noWord3 (fun _ e => by cases e) (fun _ e => by cases e) (fun _ e => by cases e)) hT
                      replace FR1 := FR1.beside E1 (noWord3 (fun _ e => by cases e) (fun _ e => by cases e) (fun _ e => by cases e)) hT
                      replace E2 := E2.turns hT (by omega)
                      replace E3 := E3.turns hT (by omega)
                      replace E1 := E1.set3 (.bool false) (.slice none 0 0) (.slice none 0 0)
                      have hr10 := hT.below
                      obtain ⟨X3, hX⟩ := nm hT.below
                      rw [hX] at R FC FR1 E1 E2 E3 hr10 ⊢
                      clear hX hT
                      refine wpAny_all (rs := [9]) (by kernel_rfl) (by simp) (fun i hi => ?_)
                      obtain rfl : i = 9 := by simpa using hi
                      clear hi
                      refine wpOp_step rfl (fun K hK => ?_)
                      simp only [lz1, lz2, lz3]
                      rw [if_pos (by rfl)]
                      go_simp
                      refine hK _ _ ?_
                      clear hK
                      refine wpAny_all (rs := [11]) (by kernel_rfl) (by simp) (fun i hi => ?_)
                      obtain rfl : i = 11 := by simpa using hi
                      clear hi
                      have hcc := E3.one
                      have k0 := hcc.1
                      have f0 := hcc.2
                      clear hcc
                      refine wpOp_step rfl (fun K hK => ?_)
                      simp only [lz1, lz2, lz3]
                      rw [if_pos (by rfl)]
                      go_simp
                      refine hK _ _ ?_
                      clear hK k0 f0
                      have hT := turns1 (kk) X3 (.int .i64 5)
                      replace R := R.beside E3 (noWord1 (fun _ e => by cases e)) hT (by first | exact RO1 | exact RO2 | exact RO3)
                      replace FC := FC.beside E3 (noWord1 (fun _ e => by cases e)) hT
                      replace FR1 := FR1.beside E3 (noWord1 (fun _ e => by cases e)) hT
                      replace E1 := E1.turns hT (by omega)
                      replace E2 := E2.turns hT (by omega)
                      replace E3 := E3.set1 (.int .i64 5)
                      have hr11 := hT.below
                      obtain ⟨X4, hX⟩ := nm hT.below
                      rw [hX] at R FC FR1 E1 E2 E3 hr11 ⊢
                      clear hX hT
                      refine wpAny_done (by kernel_rfl) ?_ _
                      replace hB := hB.trans ((Below.trans (Below.drew (Below.refl wr.heap.size wr)) hr).mono hB.size)
                      replace hB := hB.trans (hr10.mono (by omega))
                      replace hB := hB.trans (hr11.mono (by omega))
                      have zz0_4 := hr.size
                      have zi1 := hB.size
                      have zy4_10 := hr10.size
                      have zy4_11 := hr11.size
                      clear hr hr10 hr11
                      have hms : rs.length - (i + 1) < rs.length - i := by omega
                      go_wp2
                      refine ⟨⟨i + 1, 5, false, none, 0, [], none, 0, [], by simp, by omega, R, E1, E2, E3, hB, FoldAt.stop HM hr.out HU.out⟩, ?_⟩
                      simpa [intOf] using hms
                  · clear hi
                    refine wpOp_step rfl (fun K hK => ?_)
                    simp only [lz1, lz2, lz3]
                    rw [if_pos (by rfl)]
                    go_simp
                    refine hK _ _ ?_
                    clear hK
                    refine wpAny_all (rs := [8]) (by kernel_rfl) (by simp) (fun i hi => ?_)
                    obtain rfl : i = 8 := by simpa using hi
                    clear hi
                    refine wpOp_step rfl (fun K hK => ?_)
                    simp only [lz1, lz2, lz3]
                    rw [if_pos (by rfl)]
                    go_simp
                    refine hK _ _ ?_
                    clear hK
                    refine wpAny_all (rs := [10]) (by kernel_rfl) (by simp) (fun i hi => ?_)
                    obtain rfl : i = 10 := by simpa using hi
                    clear hi
                    have hcc := E1.three
                    have k0 := hcc.1
                    have k1 := hcc.2.1
                    have k2 := hcc.2.2.1
                    have f0 := hcc.2.2.2.1
                    have f1 := hcc.2.2.2.2.1
                    have f2 := hcc.2.2.2.2.2
                    clear hcc
                    refine wpOp_step rfl (fun K hK => ?_)
                    simp only [lz1, lz2, lz3]
                    rw [if_pos (by rfl)]
                    go_simp
                    refine hK _ _ ?_
                    clear hK k0 f0 k1 f1 k2 f2
                    have hT := turns3 (w.heap.size + 1) Y1 (.bool false) (.slice none 0 0) (.slice none 0 0)
                    replace R := R.beside E1 (noWord3 (fun _ e => by cases e) (fun _ e => by cases e) (fun _ e => by cases e)) hT (by first | exact RO1 | exact RO2 | exact RO3)
                    replace FC := FC.beside E1 (noWord3 (fun _ e => by cases e) (fun _ e => by cases e) (fun _ e => by cases e)) hT
                    replace FR1 := FR1.beside E1 (noWord3 (fun _ e => by cases e) (fun _ e => by cases e) (fun _ e => by cases e)) hT
                    replace E2 := E2.turns hT (by omega)
                    replace E3 := E3.turns hT (by omega)
                    replace E1 := E1.set3 (.bool false) (.slice none 0 0) (.slice none 0 0)
                    have hr10 := hT.below
                    obtain ⟨X5, hX⟩ := nm hT.below
                    rw [hX] at R FC FR1 E1 E2 E3 hr10 ⊢
                    clear hX hT
                    refine wpAny_all (rs := [11]) (by kernel_rfl) (by simp) (fun i hi => ?_)
                    obtain rfl : i = 11 := by simpa using hi
                    clear hi
                    have hcc := E3.one
                    have k0 := hcc.1
                    have f0 := hcc.2
                    clear hcc
                    refine wpOp_step rfl (fun K hK => ?_)
                    simp only [lz1, lz2, lz3]
                    rw [if_pos (by rfl)]
                    go_simp
                    refine hK _ _ ?_
                    clear hK k0 f0
                    have hT := turns1 (kk) X5 (.int .i64 5)
                    replace R := R.beside E3 (noWord1 (fun _ e => by cases e)) hT (by first | exact RO1 | exact RO2 | exact RO3)
                    replace FC := FC.beside E3 (noWord1 (fun _ e => by cases e)) hT
                    replace FR1 := FR1.beside E3 (noWord1 (fun _ e => by cases e)) hT
                    replace E1 := E1.turns hT (by omega)
                    replace E2 := E2.turns hT (by omega)
                    replace E3 := E3.set1 (.int .i64 5)
                    have hr11 := hT.below
                    obtain ⟨X6, hX⟩ := nm hT.below
                    rw [hX] at R FC FR1 E1 E2 E3 hr11 ⊢
                    clear hX hT
                    refine wpAny_done (by kernel_rfl) ?_ _
                    replace hB := hB.trans ((Below.trans (Below.drew (Below.refl wr.heap.size wr)) hr).mono hB.size)
                    replace hB := hB.trans (hr10.mono (by omega))
                    replace hB := hB.trans (hr11.mono (by omega))
                    have zz0_6 := hr.size
                    have zi1 := hB.size
                    have zy6_10 := hr10.size
                    have zy6_11 := hr11.size
                    clear hr hr10 hr11
                    have hms : rs.length - (i + 1) < rs.length - i := by omega
                    go_wp2
                    refine ⟨⟨i + 1, 5, false, none, 0, [], none, 0, [], by simp, by omega, R, E1, E2, E3, hB, FoldAt.stop HM hr.out HU.out⟩, ?_⟩
                    simpa [intOf] using hms
          · have HFin := HF.fin (by omega) hgo
            clear hgo
            by_cases hy : y = 0
            · subst hy
              have hnl : ¬ (i : Int) < (rs.length : Int) := by have := HFin.atEnd rfl; omega
              obtain ⟨k0, k1, k2, f0, f1, f2⟩ := E1.three
              obtain ⟨k3, f3⟩ := E2.one
              obtain ⟨k4, f4⟩ := E3.one
              have hmv := fun (F : Fr w.heap.size wr a1 n1 x1 e1 m1 y1) => (F.beside E1 (noWord3 (fun _ e => by cases e) (fun _ e => by cases e) (fun _ e => by cases e)) (turns3 (w.heap.size + 1) wr (.bool b1) (.slice a1 x1.length n1) (.slice e1 y1.length m1))).beside (E2.turns (turns3 (w.heap.size + 1) wr (.bool b1) (.slice a1 x1.length n1) (.slice e1 y1.length m1)) (by omega)) (noWord1 (fun _ e => by cases e)) (turns1 (w.heap.size + 1 + 1) _ (.int .i64 0))
              have hA := Below.refl wr.heap.size wr
              have hT := turns3 (w.heap.size + 1) wr (.bool b1) (.slice a1 x1.length n1) (.slice e1 y1.length m1)
              replace E2 := E2.turns hT (by omega)
              replace E3 := E3.turns hT (by omega)
              replace E1 := Box.set3 (.bool b1) (.slice a1 x1.length n1) (.slice e1 y1.length m1) E1
              replace hB := hB.trans (hT.below.mono (by omega))
              clear hT
              have hT := ((Turns.refl (w.heap.size + 1 + 1) (((wr.setCell ⟨w.heap.size + 1, 0, none⟩ (.bool b1)).setCell ⟨w.heap.size + 1, 1, none⟩ (.slice a1 x1.length n1)).setCell ⟨w.heap.size + 1, 2, none⟩ (.slice e1 y1.length m1))).setCell 0 (.int .i64 0))
              replace E1 := E1.turns hT (by omega)
              replace E3 := E3.turns hT (by omega)
              replace E2 : Box ((((wr.setCell ⟨w.heap.size + 1, 0, none⟩ (.bool b1)).setCell ⟨w.heap.size + 1, 1, none⟩ (.slice a1 x1.length n1)).setCell ⟨w.heap.size + 1, 2, none⟩ (.slice e1 y1.length m1)).setCell ⟨w.heap.size + 1 + 1, 0, none⟩ (.int .i64 0)) (w.heap.size + 1 + 1) (.cells #[.int .i64 0] 24) := ⟨Nat.lt_of_lt_of_le E2.lt hT.below.size, (heap_setCell_same _ _ 0 _ _ _ E2.what)⟩
              replace hB := hB.trans (hT.below.mono (by omega))
              clear hT
              clear hA
              go_wp2
              refine leaves_cons (f := 90) (args := #[.pointer (some ⟨kk, 0, none⟩), .pointer (some ⟨w.heap.size + 1, 0, none⟩), .pointer (some ⟨w.heap.size + 1 + 1, 0, none⟩)]) (by simp) (by simp [go_sem]) ?_
              have hE3 := E3.one.1
              refine (fold1_ok kk _ _ .returning _ hE3).mono ?_
              rintro e u' w'' ⟨rfl, rfl, rfl⟩
              have hcc := E1.three
              have r0 := hcc.1
              have r1 := hcc.2.1
              have r2 := hcc.2.2.1
              have s0 := E2.one.1
              clear hcc
              simp [Leaves, settle, results, Tryz.results72, go_sem, r0, r1, r2, s0]
              obtain ⟨hAG, t, ht, hIt, hmem⟩ := HFin.ok rfl
              refine ⟨Or.inl ⟨hAG, t, ht, _, _, _, _, _, _, _, rfl, hIt, ?_⟩, hB⟩
              rcases hmem with h | ⟨h1, h2⟩
              · exact Or.inl h
              · exact Or.inr ⟨hmv h1, h2⟩
            · have hyn : (y == 0) = false := beq_eq_false_iff_ne.2 hy
              obtain ⟨k0, k1, k2, f0, f1, f2⟩ := E1.three
              obtain ⟨k3, f3⟩ := E2.one
              obtain ⟨k4, f4⟩ := E3.one
              have hA := Below.refl wr.heap.size wr
              have hT := turns3 (w.heap.size + 1) wr (.bool b1) (.slice a1 x1.length n1) (.slice e1 y1.length m1)
              replace E2 := E2.turns hT (by omega)
              replace E3 := E3.turns hT (by omega)
              replace E1 := Box.set3 (.bool b1) (.slice a1 x1.length n1) (.slice e1 y1.length m1) E1
              replace hB := hB.trans (hT.below.mono (by omega))
              clear hT
              have hT := ((Turns.refl (w.heap.size + 1 + 1) (((wr.setCell ⟨w.heap.size + 1, 0, none⟩ (.bool b1)).setCell ⟨w.heap.size + 1, 1, none⟩ (.slice a1 x1.length n1)).setCell ⟨w.heap.size + 1, 2, none⟩ (.slice e1 y1.length m1))).setCell 0 (.int .i64 0))
              replace E1 := E1.turns hT (by omega)
              replace E3 := E3.turns hT (by omega)
              replace E2 : Box ((((wr.setCell ⟨w.heap.size + 1, 0, none⟩ (.bool b1)).setCell ⟨w.heap.size + 1, 1, none⟩ (.slice a1 x1.length n1)).setCell ⟨w.heap.size + 1, 2, none⟩ (.slice e1 y1.length m1)).setCell ⟨w.heap.size + 1 + 1, 0, none⟩ (.int .i64 0)) (w.heap.size + 1 + 1) (.cells #[.int .i64 0] 24) := ⟨Nat.lt_of_lt_of_le E2.lt hT.below.size, (heap_setCell_same _ _ 0 _ _ _ E2.what)⟩
              replace hB := hB.trans (hT.below.mono (by omega))
              clear hT
              clear hA
              go_wp2
              refine leaves_cons (f := 90) (args := #[.pointer (some ⟨kk, 0, none⟩), .pointer (some ⟨w.heap.size + 1, 0, none⟩), .pointer (some ⟨w.heap.size + 1 + 1, 0, none⟩)]) (by simp) (by simp [go_sem]) ?_
              have hE3 := E3.one.1
              have hcc := E1.three
              have s0 := E2.one
              refine (fold1_no kk (w.heap.size + 1) y (by simp [hyn, bne]) .returning _ hE3 _ _ _ _ hcc.1 hcc.2.1 hcc.2.2.1 s0.1 hcc.2.2.2.1 hcc.2.2.2.2.1 hcc.2.2.2.2.2 s0.2).mono ?_
              rintro e u' w'' ⟨rfl, rfl, rfl⟩
              have r0 := hcc.1
              have r1 := hcc.2.1
              have r2 := hcc.2.2.1
              have s1 := s0.1
              clear hcc s0
              simp [Leaves, settle, results, Tryz.results72, go_sem, r0, r1, r2, s1]
              refine ⟨?_, (hB.trans ((turns3 (w.heap.size + 1) _ (.bool false) (.slice none 0 0) (.slice none 0 0)).below.mono (by omega))).trans ((turns1 (w.heap.size + 1 + 1) _ (.int .i64 y)).below.mono (by omega))⟩
              rcases HFin.no hy with ⟨h1, h2, h3⟩ | ⟨h1, h2⟩
              · exact Or.inr (Or.inl ⟨h1, h3, by rw [h2]⟩)
              · exact Or.inr (Or.inr ⟨h1, by rw [h2]⟩)
    · have hxn : (x == 0) = false := beq_eq_false_iff_ne.2 hx
      have HY : KeptIs b xs ds rs x := by
        rcases HX.out with ⟨h1, _⟩ | ⟨h1, h2⟩
        · exact absurd h1 hx
        · exact Or.inr ⟨h2, h1⟩
      obtain ⟨k0, k1, k2, f0, f1, f2⟩ := E0.three
      obtain ⟨k3, k4, k5, f3, f4, f5⟩ := E1.three
      obtain ⟨k6, f6⟩ := E2.one
      obtain ⟨k7, f7⟩ := E3.one
      have qE0 := E0.lt
      have qE1 := E1.lt
      have qE2 := E2.lt
      have qE3 := E3.lt
      have hA := Below.refl wr.heap.size wr
      have hT := turns3 (w.heap.size + 1) wr (.bool b) (.slice a xs.length ca) (.slice c ds.length cc)
      replace R := R.beside E1 (noWord3 (fun _ e => by cases e) (fun _ e => by cases e) (fun _ e => by cases e)) hT (by first | exact RO1 | exact RO2 | exact RO3)
      replace FA := FA.beside E1 (noWord3 (fun _ e => by cases e) (fun _ e => by cases e) (fun _ e => by cases e)) hT
      replace E0 := E0.turns hT (by omega)
      replace E2 := E2.turns hT (by omega)
      replace E3 := E3.turns hT (by omega)
      replace E1 := Box.set3 (.bool b) (.slice a xs.length ca) (.slice c ds.length cc) E1
      replace hB := hB.trans (hT.below.mono (by omega))
      clear hT
      clear hA
      go_wp2
      clear k0 k1 k2 f0 f1 f2 k3 k4 k5 f3 f4 f5 k6 f6 k7 f7
      go_loopw [10] (fun iv wv => ∃ (i : Nat) (y : Int) (b1 : Bool) (a1 : Option Addr) (n1 : Nat) (x1 : List Int) (e1 : Option Addr) (m1 : Nat) (y1 : List Int), iv = .int .i64 i ∧ i ≤ rs.length ∧ Row 0 wv sv rs ∧ Box wv (w.heap.size + 1) (.cells #[.bool b1, .slice a1 x1.length n1, .slice e1 y1.length m1] 31) ∧ Box wv (w.heap.size + 1 + 1) (.cells #[.int .i64 0] 24) ∧ Box wv kk (.cells #[.int .i64 y] 24) ∧ Below w.heap.size w wv ∧
              FoldAt op w b a ca xs c cc ds rs n m i y b1 a1 n1 x1 e1 m1 y1 wv) (fun iv _ => rs.length - (intOf iv).toNat)
      case atStart => exact ⟨0, x, b, a, ca, xs, c, cc, ds, rfl, Nat.zero_le _, R, E1, E2, E3, hB, FoldAt.start hI FA HY⟩
      case round =>
        clear R FA E0 E1 E2 E3 HX HY hB
        clear qE0 qE1 qE2 qE3
        obtain ⟨i, y, b1, a1, n1, x1, e1, m1, y1, rfl, hi, R, E1, E2, E3, hB, HF⟩ := hrel
        have zB := hB.size
        have qE1 := E1.lt
        have qE2 := E2.lt
        have qE3 := E3.lt
        by_cases hgo : y = 0 ∧ i < rs.length
        · obtain ⟨rfl, hlt⟩ := hgo
          have hlt2 : (i : Int) < (rs.length : Int) := by omega
          have hge : ¬ (i : Int) < 0 := by omega
          obtain ⟨g, o, rfl, hg⟩ := R.at_ i hlt
          obtain ⟨r, hr0⟩ : ∃ r, rs[i]? = some r := ⟨rs[i], List.getElem?_eq_getElem hlt⟩
          have hr := hide hr0
          have FR1 := R.held i r hr0
          clear hr0
          obtain ⟨q1, I1, FC, HM⟩ := HF.go rfl
          have I2 := hgood r (List.mem_of_getElem? hr.out) (HF.allgood rfl r (List.mem_of_getElem? hr.out))
          clear HF
          obtain ⟨u, hu⟩ : ∃ u, op q1 r.q = u := ⟨_, rfl⟩
          have HU := hide hu
          clear hu
          have hw1 : IntKind.i64.wrap ((i : Int) + 1) = (i : Int) + 1 := by rw [IntKind.wrap_i64]; omega
          have hbd : n + i * (m + 1) + m ≤ 400 := by have : i * (m + 1) ≤ 6 * (m + 1) := Nat.mul_le_mul_right _ (by omega); omega
          cases u with
          | some t =>
              obtain ⟨k0, k1, k2, f0, f1, f2⟩ := E1.three
              obtain ⟨k3, f3⟩ := E2.one
              obtain ⟨k4, f4⟩ := E3.one
              go_wp2_with fail
              clear k0 k1 k2 f0 f1 f2 k3 f3 k4 f4
              replace R := R.drew
              replace FC := FC.drew
              replace FR1 := FR1.drew
              have qE1 := E1.lt
              replace E1 := E1.drew
              have qE2 := E2.lt
              replace E2 := E2.drew
              have qE3 := E3.lt
              replace E3 := E3.drew
              refine wp_yields 8 [.is (.func (.func J) #[] #[]), .is (.agg #[.bool b1, .slice a1 x1.length n1, .slice e1 y1.length m1]), .is (.slice (some ⟨g, o, none⟩) rs.length cap), .is (.int .i64 i), .is (.pointer (some ⟨g, o + i * 3, none⟩)), .is (.agg #[.bool r.b, .slice r.a r.xs.length r.ca, .slice r.c r.ds.length r.cc]), (Yield.fracE wr.heap.size (t) (n + i * (m + 1) + m + 1)), (Yield.fracE wr.heap.size (t) (n + i * (m + 1) + m + 1))] (by kernel_rfl) (by kernel_rfl) (lt_cons ?_ (lt_cons ?_ (lt_cons ?_ (lt_cons ?_ (lt_cons ?_ (lt_cons ?_ (lt_cons ?_ (lt_cons ?_ lt_nil)))))))) ?_
              case refine_1 =>
                refine OpDoes.mk rfl ?_
                intro vs V hV hd K hK
                have hh := fun (P : Prop) => Yield.fracE_elim P (show ((Yield.fracE wr.heap.size (t) (n + i * (m + 1) + m + 1)) : Yield).At (vs 6) V from hd 6 (by decide) (by kernel_rfl))
                refine hh _ ?_
                intro g2 a2 c2 x2 e2 t2 y2 d6 F2 P2 I2
                clear hh
                simp only [laidIn, lz1, lz2, lz3, lz4, lz5, lz6, if_true, Act.put, lz7, lz8, lz9] at hK ⊢
                simp only [d6] at hK ⊢
                go_simp
                exact hK.out _ _ (Below.refl _ _) ⟨_, _, _, _, _, _, _, rfl, F2, P2, I2⟩ (not_fresh rfl)
              case refine_2 =>
                refine OpDoes.mk rfl ?_
                intro vs V hV hd K hK
                have d0 : vs 0 = .func (.func J) #[] #[] := hd 0 (by decide) (by kernel_rfl)
                have d1 : vs 1 = .agg #[.bool b1, .slice a1 x1.length n1, .slice e1 y1.length m1] := hd 1 (by decide) (by kernel_rfl)
                have d5 : vs 5 = .agg #[.bool r.b, .slice r.a r.xs.length r.ca, .slice r.c r.ds.length r.cc] := hd 5 (by decide) (by kernel_rfl)
                simp only [laidIn, lz1, lz2, lz3, lz4, lz5, lz6, if_true, Act.put, lz7, lz8, lz9] at hK ⊢
                simp only [d0, d1, d5] at hK ⊢
                go_simp
                refine (hJs V b1 a1 n1 x1 e1 m1 y1 q1 (n + i * (m + 1)) r t (FC.below hV) (FR1.below hV) I1 I2 hbd HU.out).mono ?_
                rintro e V' ⟨g2, a2, c2, x2, e2, t2, y2, rfl, F2, P2, I2, hb⟩
                replace I2 : Is g2 x2 y2 (t) (n + i * (m + 1) + m + 1) := I2.mono (by omega)
                exact hK.out _ _ hb ⟨_, _, _, _, _, _, _, rfl, F2.mono hV.size, P2, I2⟩ (not_fresh rfl)
              case refine_3 =>
                refine OpDoes.mk rfl ?_
                intro vs V hV hd K hK
                have d4 : vs 4 = .pointer (some ⟨g, o + i * 3, none⟩) := hd 4 (by decide) (by kernel_rfl)
                have hcc := (R.below hV).cells g o i r rfl hr.out
                have k0 := hcc.1
                have k1 := hcc.2.1
                have k2 := hcc.2.2
                clear hcc
                simp only [laidIn, lz1, lz2, lz3, lz4, lz5, lz6, if_true, Act.put, lz7, lz8, lz9] at hK ⊢
                simp only [d4] at hK ⊢
                go_simp
                exact hK.out _ _ (Below.refl _ _) rfl (not_fresh rfl)
              case refine_4 =>
                refine OpDoes.mk rfl ?_
                intro vs V hV hd K hK
                have d2 : vs 2 = .slice (some ⟨g, o, none⟩) rs.length cap := hd 2 (by decide) (by kernel_rfl)
                have d3 : vs 3 = .int .i64 i := hd 3 (by decide) (by kernel_rfl)
                simp only [laidIn, lz1, lz2, lz3, lz4, lz5, lz6, if_true, Act.put, lz7, lz8, lz9] at hK ⊢
                simp only [d2, d3] at hK ⊢
                go_simp
                exact hK.out _ _ (Below.refl _ _) rfl (not_fresh rfl)
              case refine_5 =>
                refine OpDoes.mk rfl ?_
                intro vs V hV hd K hK
                simp only [laidIn, lz1, lz2, lz3, lz4, lz5, lz6, if_true, Act.put, lz7, lz8, lz9] at hK ⊢
                go_simp
                exact hK.out _ _ (Below.refl _ _) rfl (not_fresh rfl)
              case refine_6 =>
                refine OpDoes.mk rfl ?_
                intro vs V hV hd K hK
                simp only [laidIn, lz1, lz2, lz3, lz4, lz5, lz6, if_true, Act.put, lz7, lz8, lz9] at hK ⊢
                go_simp
                exact hK.out _ _ (Below.refl _ _) rfl (not_fresh rfl)
              case refine_7 =>
                refine OpDoes.mk rfl ?_
                intro vs V hV hd K hK
                have hcc := (E1.below hV).three
                have k0 := hcc.1
                have k1 := hcc.2.1
                have k2 := hcc.2.2.1
                clear hcc
                simp only [laidIn, lz1, lz2, lz3, lz4, lz5, lz6, if_true, Act.put, lz7, lz8, lz9] at hK ⊢
                go_simp
                exact hK.out _ _ (Below.refl _ _) rfl (not_fresh rfl)
              case refine_8 =>
                refine OpDoes.mk rfl ?_
                intro vs V hV hd K hK
                simp only [laidIn, lz1, lz2, lz4, lz5, lz6, if_true, Act.put, lz7, lz8, lz9] at hK ⊢
                go_simp
                exact hK.out _ _ (Below.refl _ _) rfl (not_fresh rfl)
              case refine_9 =>
                intro vs Y1 hV hR hne fuel
                have d0 : vs 0 = .func (.func J) #[] #[] := hR 0 (by decide)
                have d1 : vs 1 = .agg #[.bool b1, .slice a1 x1.length n1, .slice e1 y1.length m1] := hR 1 (by decide)
                have d2 : vs 2 = .slice (some ⟨g, o, none⟩) rs.length cap := hR 2 (by decide)
                have d3 : vs 3 = .int .i64 i := hR 3 (by decide)
                have d4 : vs 4 = .pointer (some ⟨g, o + i * 3, none⟩) := hR 4 (by decide)
                have d5 : vs 5 = .agg #[.bool r.b, .slice r.a r.xs.length r.ca, .slice r.c r.ds.length r.cc] := hR 5 (by decide)
                have hh := fun (P : Prop) => Yield.fracE_elim P (show ((Yield.fracE wr.heap.size (t) (n + i * (m + 1) + m + 1)) : Yield).At (vs 6) Y1 from hR 6 (by decide))
                refine hh _ ?_
                intro g2 a2 c2 x2 e2 t2 y2 d6 F2 P2 I2
                clear hh
                have hh := fun (P : Prop) => Yield.fracE_elim P (show ((Yield.fracE wr.heap.size (t) (n + i * (m + 1) + m + 1)) : Yield).At (vs 7) Y1 from hR 7 (by decide))
                refine hh _ ?_
                intro g3 a3 c3 x3 e3 t3 y3 d7 F3 P3 I3
                clear hh
                replace R := R.below hV
                replace FC := FC.below hV
                replace FR1 := FR1.below hV
                replace E1 := E1.below hV
                replace E2 := E2.below hV
                replace E3 := E3.below hV
                have hr := hV
                simp only [laidIn, lz4, lz5, lz6, if_true, Act.put, lz7, lz8, lz9]
                simp only [d0, d1, d2, d3, d4, d5, d6, d7]
                clear hR hne hV d0 d1 d2 d3 d4 d5 d6 d7
                clear vs
                show wpAny _ _ _ _ (fuel + 4) _ _ _
                refine wpAny_all (rs := [8, 9]) (by kernel_rfl) (by simp) (fun i hi => ?_)
                rcases (show i = 8 ∨ i = 9 by simpa using hi) with rfl | rfl
                · clear hi
                  refine wpOp_step rfl (fun K hK => ?_)
                  simp only [lz1, lz2, lz3]
                  rw [if_pos (by rfl)]
                  go_simp
                  refine hK _ _ ?_
                  clear hK
                  refine wpAny_all (rs := [9, 10]) (by kernel_rfl) (by simp) (fun i hi => ?_)
                  rcases (show i = 9 ∨ i = 10 by simpa using hi) with rfl | rfl
                  · clear hi
                    refine wpOp_step rfl (fun K hK => ?_)
                    simp only [lz1, lz2, lz3]
                    rw [if_pos (by rfl)]
                    go_simp
                    refine hK _ _ ?_
                    clear hK
                    refine wpAny_all (rs := [10]) (by kernel_rfl) (by simp) (fun i hi => ?_)
                    obtain rfl : i = 10 := by simpa using hi
                    clear hi
                    have hcc := E1.three
                    have k0 := hcc.1
                    have k1 := hcc.2.1
                    have k2 := hcc.2.2.1
                    have f0 := hcc.2.2.2.1
                    have f1 := hcc.2.2.2.2.1
                    have f2 := hcc.2.2.2.2.2
                    clear hcc
                    refine wpOp_step rfl (fun K hK => ?_)
                    simp only [lz1, lz2, lz3]
                    rw [if_pos (by rfl)]
                    go_simp
                    refine hK _ _ ?_
                    clear hK k0 f0 k1 f1 k2 f2
                    have hT := turns3 (w.heap.size + 1) Y1 (.bool g3) (.slice a3 x3.length c3) (.slice e3 y3.length t3)
                    replace R := R.beside E1 (noWord3 (fun _ e => by cases e) (fun _ e => by cases e) (fun _ e => by cases e)) hT (by first | exact RO1 | exact RO2 | exact RO3)
                    replace FC := FC.beside E1 (noWord3 (fun _ e => by cases e) (fun _ e => by cases e) (fun _ e => by cases e)) hT
                    replace FR1 := FR1.beside E1 (noWord3 (fun _ e => by cases e) (fun _ e => by cases e) (fun _ e => by cases e)) hT
                    replace E2 := E2.turns hT (by omega)
                    replace E3 := E3.turns hT (by omega)
                    replace F2 := F2.beside E1 (noWord3 (fun _ e => by cases e) (fun _ e => by cases e) (fun _ e => by cases e)) hT
                    replace F3 := F3.beside E1 (noWord3 (fun _ e => by cases e) (fun _ e => by cases e) (fun _ e => by cases e)) hT
                    replace E1 := E1.set3 (.bool g3) (.slice a3 x3.length c3) (.slice e3 y3.length t3)
                    have hr10 := hT.below
                    obtain ⟨X1, hX⟩ := nm hT.below
                    rw [hX] at R FC FR1 E1 E2 E3 F2 F3 hr10 ⊢
                    clear hX hT
                    refine wpAny_all (rs := [11]) (by kernel_rfl) (by simp) (fun i hi => ?_)
                    obtain rfl : i = 11 := by simpa using hi
                    clear hi
                    have hcc := E3.one
                    have k0 := hcc.1
                    have f0 := hcc.2
                    clear hcc
                    refine wpOp_step rfl (fun K hK => ?_)
                    simp only [lz1, lz2, lz3]
                    rw [if_pos (by rfl)]
                    go_simp
                    refine hK _ _ ?_
                    clear hK k0 f0
                    have hT := turns1 (kk) X1 (.int .i64 0)
                    replace R := R.beside E3 (noWord1 (fun _ e => by cases e)) hT (by first | exact RO1 | exact RO2 | exact RO3)
                    replace FC := FC.beside E3 (noWord1 (fun _ e => by cases e)) hT
                    replace FR1 := FR1.beside E3 (noWord1 (fun _ e => by cases e)) hT
                    replace E1 := E1.turns hT (by omega)
                    replace E2 := E2.turns hT (by omega)
                    replace F2 := F2.beside E3 (noWord1 (fun _ e => by cases e)) hT
                    replace F3 := F3.beside E3 (noWord1 (fun _ e => by cases e)) hT
                    replace E3 := E3.set1 (.int .i64 0)
                    have hr11 := hT.below
                    obtain ⟨X2, hX⟩ := nm hT.below
                    rw [hX] at R FC FR1 E1 E2 E3 F2 F3 hr11 ⊢
                    clear hX hT
                    refine wpAny_done (by kernel_rfl) ?_ _
                    replace hB := hB.trans ((Below.trans (Below.drew (Below.refl wr.heap.size wr)) hr).mono hB.size)
                    replace hB := hB.trans (hr10.mono (by omega))
                    replace hB := hB.trans (hr11.mono (by omega))
                    have zz0_2 := hr.size
                    have zi1 := hB.size
                    have zy2_10 := hr10.size
                    have zy2_11 := hr11.size
                    clear hr hr10 hr11
                    have hms : rs.length - (i + 1) < rs.length - i := by omega
                    go_wp2
                    refine ⟨⟨i + 1, 0, g3, a3, c3, x3, e3, t3, y3, by simp, by omega, R, E1, E2, E3, hB, FoldAt.next HM hr.out HU.out (F3.mono zB) P3 I3⟩, ?_⟩
                    simpa [intOf] using hms
                  · clear hi
                    have hcc := E1.three
                    have k0 := hcc.1
                    have k1 := hcc.2.1
                    have k2 := hcc.2.2.1
                    have f0 := hcc.2.2.2.1
                    have f1 := hcc.2.2.2.2.1
                    have f2 := hcc.2.2.2.2.2
                    clear hcc
                    refine wpOp_step rfl (fun K hK => ?_)
                    simp only [lz1, lz2, lz3]
                    rw [if_pos (by rfl)]
                    go_simp
                    refine hK _ _ ?_
                    clear hK k0 f0 k1 f1 k2 f2
                    have hT := turns3 (w.heap.size + 1) Y1 (.bool g3) (.slice a3 x3.length c3) (.slice e3 y3.length t3)
                    replace R := R.beside E1 (noWord3 (fun _ e => by cases e) (fun _ e => by cases e) (fun _ e => by cases e)) hT (by first | exact RO1 | exact RO2 | exact RO3)
                    replace FC := FC.beside E1 (noWord3 (fun _ e => by cases e) (fun _ e => by cases e) (fun _ e => by cases e)) hT
                    replace FR1 := FR1.beside E1 (noWord3 (fun _ e => by cases e) (fun _ e => by cases e) (fun _ e => by cases e)) hT
                    replace E2 := E2.turns hT (by omega)
                    replace E3 := E3.turns hT (by omega)
                    replace F2 := F2.beside E1 (noWord3 (fun _ e => by cases e) (fun _ e => by cases e) (fun _ e => by cases e)) hT
                    replace F3 := F3.beside E1 (noWord3 (fun _ e => by cases e) (fun _ e => by cases e) (fun _ e => by cases e)) hT
                    replace E1 := E1.set3 (.bool g3) (.slice a3 x3.length c3) (.slice e3 y3.length t3)
                    have hr10 := hT.below
                    obtain ⟨X3, hX⟩ := nm hT.below
                    rw [hX] at R FC FR1 E1 E2 E3 F2 F3 hr10 ⊢
                    clear hX hT
                    refine wpAny_all (rs := [9]) (by kernel_rfl) (by simp) (fun i hi => ?_)
                    obtain rfl : i = 9 := by simpa using hi
                    clear hi
                    refine wpOp_step rfl (fun K hK => ?_)
                    simp only [lz1, lz2, lz3]
                    rw [if_pos (by rfl)]
                    go_simp
                    refine hK _ _ ?_
                    clear hK
                    refine wpAny_all (rs := [11]) (by kernel_rfl) (by simp) (fun i hi => ?_)
                    obtain rfl : i = 11 := by simpa using hi
                    clear hi
                    have hcc := E3.one
                    have k0 := hcc.1
                    have f0 := hcc.2
                    clear hcc
                    refine wpOp_step rfl (fun K hK => ?_)
                    simp only [lz1, lz2, lz3]
                    rw [if_pos (by rfl)]
                    go_simp
                    refine hK _ _ ?_
                    clear hK k0 f0
                    have hT := turns1 (kk) X3 (.int .i64 0)
                    replace R := R.beside E3 (noWord1 (fun _ e => by cases e)) hT (by first | exact RO1 | exact RO2 | exact RO3)
                    replace FC := FC.beside E3 (noWord1 (fun _ e => by cases e)) hT
                    replace FR1 := FR1.beside E3 (noWord1 (fun _ e => by cases e)) hT
                    replace E1 := E1.turns hT (by omega)
                    replace E2 := E2.turns hT (by omega)
                    replace F2 := F2.beside E3 (noWord1 (fun _ e => by cases e)) hT
                    replace F3 := F3.beside E3 (noWord1 (fun _ e => by cases e)) hT
                    replace E3 := E3.set1 (.int .i64 0)
                    have hr11 := hT.below
                    obtain ⟨X4, hX⟩ := nm hT.below
                    rw [hX] at R FC FR1 E1 E2 E3 F2 F3 hr11 ⊢
                    clear hX hT
                    refine wpAny_done (by kernel_rfl) ?_ _
                    replace hB := hB.trans ((Below.trans (Below.drew (Below.refl wr.heap.size wr)) hr).mono hB.size)
                    replace hB := hB.trans (hr10.mono (by omega))
                    replace hB := hB.trans (hr11.mono (by omega))
                    have zz0_4 := hr.size
                    have zi1 := hB.size
                    have zy4_10 := hr10.size
                    have zy4_11 := hr11.size
                    clear hr hr10 hr11
                    have hms : rs.length - (i + 1) < rs.length - i := by omega
                    go_wp2
                    refine ⟨⟨i + 1, 0, g3, a3, c3, x3, e3, t3, y3, by simp, by omega, R, E1, E2, E3, hB, FoldAt.next HM hr.out HU.out (F3.mono zB) P3 I3⟩, ?_⟩
                    simpa [intOf] using hms
                · clear hi
                  refine wpOp_step rfl (fun K hK => ?_)
                  simp only [lz1, lz2, lz3]
                  rw [if_pos (by rfl)]
                  go_simp
                  refine hK _ _ ?_
                  clear hK
                  refine wpAny_all (rs := [8]) (by kernel_rfl) (by simp) (fun i hi => ?_)
                  obtain rfl : i = 8 := by simpa using hi
                  clear hi
                  refine wpOp_step rfl (fun K hK => ?_)
                  simp only [lz1, lz2, lz3]
                  rw [if_pos (by rfl)]
                  go_simp
                  refine hK _ _ ?_
                  clear hK
                  refine wpAny_all (rs := [10]) (by kernel_rfl) (by simp) (fun i hi => ?_)
                  obtain rfl : i = 10 := by simpa using hi
                  clear hi
                  have hcc := E1.three
                  have k0 := hcc.1
                  have k1 := hcc.2.1
                  have k2 := hcc.2.2.1
                  have f0 := hcc.2.2.2.1
                  have f1 := hcc.2.2.2.2.1
                  have f2 := hcc.2.2.2.2.2
                  clear hcc
                  refine wpOp_step rfl (fun K hK => ?_)
                  simp only [lz1, lz2, lz3]
                  rw [if_pos (by rfl)]
                  go_simp
                  refine hK _ _ ?_
                  clear hK k0 f0 k1 f1 k2 f2
                  have hT := turns3 (w.heap.size + 1) Y1 (.bool g3) (.slice a3 x3.length c3) (.slice e3 y3.length t3)
                  replace R := R.beside E1 (noWord3 (fun _ e => by cases e) (fun _ e => by cases e) (fun _ e => by cases e)) hT (by first | exact RO1 | exact RO2 | exact RO3)
                  replace FC := FC.beside E1 (noWord3 (fun _ e => by cases e) (fun _ e => by cases e) (fun _ e => by cases e)) hT
                  replace FR1 := FR1.beside E1 (noWord3 (fun _ e => by cases e) (fun _ e => by cases e) (fun _ e => by cases e)) hT
                  replace E2 := E2.turns hT (by omega)
                  replace E3 := E3.turns hT (by omega)
                  replace F2 := F2.beside E1 (noWord3 (fun _ e => by cases e) (fun _ e => by cases e) (fun _ e => by cases e)) hT
                  replace F3 := F3.beside E1 (noWord3 (fun _ e => by cases e) (fun _ e => by cases e) (fun _ e => by cases e)) hT
                  replace E1 := E1.set3 (.bool g3) (.slice a3 x3.length c3) (.slice e3 y3.length t3)
                  have hr10 := hT.below
                  obtain ⟨X5, hX⟩ := nm hT.below
                  rw [hX] at R FC FR1 E1 E2 E3 F2 F3 hr10 ⊢
                  clear hX hT
                  refine wpAny_all (rs := [11]) (by kernel_rfl) (by simp) (fun i hi => ?_)
                  obtain rfl : i = 11 := by simpa using hi
                  clear hi
                  have hcc := E3.one
                  have k0 := hcc.1
                  have f0 := hcc.2
                  clear hcc
                  refine wpOp_step rfl (fun K hK => ?_)
                  simp only [lz1, lz2, lz3]
                  rw [if_pos (by rfl)]
                  go_simp
                  refine hK _ _ ?_
                  clear hK k0 f0
                  have hT := turns1 (kk) X5 (.int .i64 0)
                  replace R := R.beside E3 (noWord1 (fun _ e => by cases e)) hT (by first | exact RO1 | exact RO2 | exact RO3)
                  replace FC := FC.beside E3 (noWord1 (fun _ e => by cases e)) hT
                  replace FR1 := FR1.beside E3 (noWord1 (fun _ e => by cases e)) hT
                  replace E1 := E1.turns hT (by omega)
                  replace E2 := E2.turns hT (by omega)
                  replace F2 := F2.beside E3 (noWord1 (fun _ e => by cases e)) hT
                  replace F3 := F3.beside E3 (noWord1 (fun _ e => by cases e)) hT
                  replace E3 := E3.set1 (.int .i64 0)
                  have hr11 := hT.below
                  obtain ⟨X6, hX⟩ := nm hT.below
                  rw [hX] at R FC FR1 E1 E2 E3 F2 F3 hr11 ⊢
                  clear hX hT
                  refine wpAny_done (by kernel_rfl) ?_ _
                  replace hB := hB.trans ((Below.trans (Below.drew (Below.refl wr.heap.size wr)) hr).mono hB.size)
                  replace hB := hB.trans (hr10.mono (by omega))
                  replace hB := hB.trans (hr11.mono (by omega))
                  have zz0_6 := hr.size
                  have zi1 := hB.size
                  have zy6_10 := hr10.size
                  have zy6_11 := hr11.size
                  clear hr hr10 hr11
                  have hms : rs.length - (i + 1) < rs.length - i := by omega
                  go_wp2
                  refine ⟨⟨i + 1, 0, g3, a3, c3, x3, e3, t3, y3, by simp, by omega, R, E1, E2, E3, hB, FoldAt.next HM hr.out HU.out (F3.mono zB) P3 I3⟩, ?_⟩
                  simpa [intOf] using hms
          | none =>
              obtain ⟨k0, k1, k2, f0, f1, f2⟩ := E1.three
              obtain ⟨k3, f3⟩ := E2.one
              obtain ⟨k4, f4⟩ := E3.one
              go_wp2_with fail
              clear k0 k1 k2 f0 f1 f2 k3 f3 k4 f4
              replace R := R.drew
              replace FC := FC.drew
              replace FR1 := FR1.drew
              have qE1 := E1.lt
              replace E1 := E1.drew
              have qE2 := E2.lt
              replace E2 := E2.drew
              have qE3 := E3.lt
              replace E3 := E3.drew
              refine wp_yields 8 [.is (.func (.func J) #[] #[]), .is (.agg #[.bool b1, .slice a1 x1.length n1, .slice e1 y1.length m1]), .is (.slice (some ⟨g, o, none⟩) rs.length cap), .is (.int .i64 i), .is (.pointer (some ⟨g, o + i * 3, none⟩)), .is (.agg #[.bool r.b, .slice r.a r.xs.length r.ca, .slice r.c r.ds.length r.cc]), (.is (.tuple #[.agg #[.bool false, .slice none 0 0, .slice none 0 0], .int .i64 5])), .is (.tuple #[.agg #[.bool false, .slice none 0 0, .slice none 0 0], .int .i64 5])] (by kernel_rfl) (by kernel_rfl) (lt_cons ?_ (lt_cons ?_ (lt_cons ?_ (lt_cons ?_ (lt_cons ?_ (lt_cons ?_ (lt_cons ?_ (lt_cons ?_ lt_nil)))))))) ?_
              case refine_1 =>
                refine OpDoes.mk rfl ?_
                intro vs V hV hd K hK
                have d6 : vs 6 = .tuple #[.agg #[.bool false, .slice none 0 0, .slice none 0 0], .int .i64 5] := hd 6 (by decide) (by kernel_rfl)
                simp only [laidIn, lz1, lz2, lz3, lz4, lz5, lz6, if_true, Act.put, lz7, lz8, lz9] at hK ⊢
                simp only [d6] at hK ⊢
                go_simp
                exact hK.out _ _ (Below.refl _ _) rfl (not_fresh rfl)
              case refine_2 =>
                refine OpDoes.mk rfl ?_
                intro vs V hV hd K hK
                have d0 : vs 0 = .func (.func J) #[] #[] := hd 0 (by decide) (by kernel_rfl)
                have d1 : vs 1 = .agg #[.bool b1, .slice a1 x1.length n1, .slice e1 y1.length m1] := hd 1 (by decide) (by kernel_rfl)
                have d5 : vs 5 = .agg #[.bool r.b, .slice r.a r.xs.length r.ca, .slice r.c r.ds.length r.cc] := hd 5 (by decide) (by kernel_rfl)
                simp only [laidIn, lz1, lz2, lz3, lz4, lz5, lz6, if_true, Act.put, lz7, lz8, lz9] at hK ⊢
                simp only [d0, d1, d5] at hK ⊢
                go_simp
                refine (hJn V b1 a1 n1 x1 e1 m1 y1 q1 (n + i * (m + 1)) r (FC.below hV) (FR1.below hV) I1 I2 hbd HU.out).mono ?_
                rintro e V' ⟨rfl, hb⟩
                exact hK.out _ _ hb rfl (not_fresh rfl)
              case refine_3 =>
                refine OpDoes.mk rfl ?_
                intro vs V hV hd K hK
                have d4 : vs 4 = .pointer (some ⟨g, o + i * 3, none⟩) := hd 4 (by decide) (by kernel_rfl)
                have hcc := (R.below hV).cells g o i r rfl hr.out
                have k0 := hcc.1
                have k1 := hcc.2.1
                have k2 := hcc.2.2
                clear hcc
                simp only [laidIn, lz1, lz2, lz3, lz4, lz5, lz6, if_true, Act.put, lz7, lz8, lz9] at hK ⊢
                simp only [d4] at hK ⊢
                go_simp
                exact hK.out _ _ (Below.refl _ _) rfl (not_fresh rfl)
              case refine_4 =>
                refine OpDoes.mk rfl ?_
                intro vs V hV hd K hK
                have d2 : vs 2 = .slice (some ⟨g, o, none⟩) rs.length cap := hd 2 (by decide) (by kernel_rfl)
                have d3 : vs 3 = .int .i64 i := hd 3 (by decide) (by kernel_rfl)
                simp only [laidIn, lz1, lz2, lz3, lz4, lz5, lz6, if_true, Act.put, lz7, lz8, lz9] at hK ⊢
                simp only [d2, d3] at hK ⊢
                go_simp
                exact hK.out _ _ (Below.refl _ _) rfl (not_fresh rfl)
              case refine_5 =>
                refine OpDoes.mk rfl ?_
                intro vs V hV hd K hK
                simp only [laidIn, lz1, lz2, lz3, lz4, lz5, lz6, if_true, Act.put, lz7, lz8, lz9] at hK ⊢
                go_simp
                exact hK.out _ _ (Below.refl _ _) rfl (not_fresh rfl)
              case refine_6 =>
                refine OpDoes.mk rfl ?_
                intro vs V hV hd K hK
                simp only [laidIn, lz1, lz2, lz3, lz4, lz5, lz6, if_true, Act.put, lz7, lz8, lz9] at hK ⊢
                go_simp
                exact hK.out _ _ (Below.refl _ _) rfl (not_fresh rfl)
              case refine_7 =>
                refine OpDoes.mk rfl ?_
                intro vs V hV hd K hK
                have hcc := (E1.below hV).three
                have k0 := hcc.1
                have k1 := hcc.2.1
                have k2 := hcc.2.2.1
                clear hcc
                simp only [laidIn, lz1, lz2, lz3, lz4, lz5, lz6, if_true, Act.put, lz7, lz8, lz9] at hK ⊢
                go_simp
                exact hK.out _ _ (Below.refl _ _) rfl (not_fresh rfl)
              case refine_8 =>
                refine OpDoes.mk rfl ?_
                intro vs V hV hd K hK
                simp only [laidIn, lz1, lz2, lz4, lz5, lz6, if_true, Act.put, lz7, lz8, lz9] at hK ⊢
                go_simp
                exact hK.out _ _ (Below.refl _ _) rfl (not_fresh rfl)
              case refine_9 =>
                intro vs Y1 hV hR hne fuel
                have d0 : vs 0 = .func (.func J) #[] #[] := hR 0 (by decide)
                have d1 : vs 1 = .agg #[.bool b1, .slice a1 x1.length n1, .slice e1 y1.length m1] := hR 1 (by decide)
                have d2 : vs 2 = .slice (some ⟨g, o, none⟩) rs.length cap := hR 2 (by decide)
                have d3 : vs 3 = .int .i64 i := hR 3 (by decide)
                have d4 : vs 4 = .pointer (some ⟨g, o + i * 3, none⟩) := hR 4 (by decide)
                have d5 : vs 5 = .agg #[.bool r.b, .slice r.a r.xs.length r.ca, .slice r.c r.ds.length r.cc] := hR 5 (by decide)
                have d6 : vs 6 = .tuple #[.agg #[.bool false, .slice none 0 0, .slice none 0 0], .int .i64 5] := hR 6 (by decide)
                have d7 : vs 7 = .tuple #[.agg #[.bool false, .slice none 0 0, .slice none 0 0], .int .i64 5] := hR 7 (by decide)
                replace R := R.below hV
                replace FC := FC.below hV
                replace FR1 := FR1.below hV
                replace E1 := E1.below hV
                replace E2 := E2.below hV
                replace E3 := E3.below hV
                have hr := hV
                simp only [laidIn, lz4, lz5, lz6, if_true, Act.put, lz7, lz8, lz9]
                simp only [d0, d1, d2, d3, d4, d5, d6, d7]
                clear hR hne hV d0 d1 d2 d3 d4 d5 d6 d7
                clear vs
                show wpAny _ _ _ _ (fuel + 4) _ _ _
                refine wpAny_all (rs := [8, 9]) (by kernel_rfl) (by simp) (fun i hi => ?_)
                rcases (show i = 8 ∨ i = 9 by simpa using hi) with rfl | rfl
                · clear hi
                  refine wpOp_step rfl (fun K hK => ?_)
                  simp only [lz1, lz2, lz3]
                  rw [if_pos (by rfl)]
                  go_simp
                  refine hK _ _ ?_
                  clear hK
                  refine wpAny_all (rs := [9, 10]) (by kernel_rfl) (by simp) (fun i hi => ?_)
                  rcases (show i = 9 ∨ i = 10 by simpa using hi) with rfl | rfl
                  · clear hi
                    refine wpOp_step rfl (fun K hK => ?_)
                    simp only [lz1, lz2, lz3]
                    rw [if_pos (by rfl)]
                    go_simp
                    refine hK _ _ ?_
                    clear hK
                    refine wpAny_all (rs := [10]) (by kernel_rfl) (by simp) (fun i hi => ?_)
                    obtain rfl : i = 10 := by simpa using hi
                    clear hi
                    have hcc := E1.three
                    have k0 := hcc.1
                    have k1 := hcc.2.1
                    have k2 := hcc.2.2.1
                    have f0 := hcc.2.2.2.1
                    have f1 := hcc.2.2.2.2.1
                    have f2 := hcc.2.2.2.2.2
                    clear hcc
                    refine wpOp_step rfl (fun K hK => ?_)
                    simp only [lz1, lz2, lz3]
                    rw [if_pos (by rfl)]
                    go_simp
                    refine hK _ _ ?_
                    clear hK k0 f0 k1 f1 k2 f2
                    have hT := turns3 (w.heap.size + 1) Y1 (.bool false) (.slice none 0 0) (.slice none 0 0)
                    replace R := R.beside E1 (noWord3 (fun _ e => by cases e) (fun _ e => by cases e) (fun _ e => by cases e)) hT (by first | exact RO1 | exact RO2 | exact RO3)
                    replace FC := FC.beside E1 (noWord3 (fun _ e => by cases e) (fun _ e => by cases e) (fun _ e => by cases e)) hT
                    replace FR1 := FR1.beside E1 (noWord3 (fun _ e => by cases e) (fun _ e => by cases e) (fun _ e => by cases e)) hT
                    replace E2 := E2.turns hT (by omega)
                    replace E3 := E3.turns hT (by omega)
                    replace E1 := E1.set3 (.bool false) (.slice none 0 0) (.slice none 0 0)
                    have hr10 := hT.below
                    obtain ⟨X1, hX⟩ := nm hT.below
                    rw [hX] at R FC FR1 E1 E2 E3 hr10 ⊢
                    clear hX hT
                    refine wpAny_all (rs := [11]) (by kernel_rfl) (by simp) (fun i hi => ?_)
                    obtain rfl : i = 11 := by simpa using hi
                    clear hi
                    have hcc := E3.one
                    have k0 := hcc.1
                    have f0 := hcc.2
                    clear hcc
                    refine wpOp_step rfl (fun K hK => ?_)
                    simp only [lz1, lz2, lz3]
                    rw [if_pos (by rfl)]
                    go_simp
                    refine hK _ _ ?_
                    clear hK k0 f0
                    have hT := turns1 (kk) X1 (.int .i64 5)
                    replace R := R.beside E3 (noWord1 (fun _ e => by cases e)) hT (by first | exact RO1 | exact RO2 | exact RO3)
                    replace FC := FC.beside E3 (noWord1 (fun _ e => by cases e)) hT
                    replace FR1 := FR1.beside E3 (noWord1 (fun _ e => by cases e)) hT
                    replace E1 := E1.turns hT (by omega)
                    replace E2 := E2.turns hT (by omega)
                    replace E3 := E3.set1 (.int .i64 5)
                    have hr11 := hT.below
                    obtain ⟨X2, hX⟩ := nm hT.below
                    rw [hX] at R FC FR1 E1 E2 E3 hr11 ⊢
                    clear hX hT
                    refine wpAny_done (by kernel_rfl) ?_ _
                    replace hB := hB.trans ((Below.trans (Below.drew (Below.refl wr.heap.size wr)) hr).mono hB.size)
                    replace hB := hB.trans (hr10.mono (by omega))
                    replace hB := hB.trans (hr11.mono (by omega))
                    have zz0_2 := hr.size
                    have zi1 := hB.size
                    have zy2_10 := hr10.size
                    have zy2_11 := hr11.size
                    clear hr hr10 hr11
                    have hms : rs.length - (i + 1) < rs.length - i := by omega
                    go_wp2
                    refine ⟨⟨i + 1, 5, false, none, 0, [], none, 0, [], by simp, by omega, R, E1, E2, E3, hB, FoldAt.stop HM hr.out HU.out⟩, ?_⟩
                    simpa [intOf] using hms
                  · clear hi
                    have hcc := E1.three
                    have k0 := hcc.1
                    have k1 := hcc.2.1
                    have k2 := hcc.2.2.1
                    have f0 := hcc.2.2.2.1
                    have f1 := hcc.2.2.2.2.1
                    have f2 := hcc.2.2.2.2.2
                    clear hcc
                    refine wpOp_step rfl (fun K hK => ?_)
                    simp only [lz1, lz2, lz3]
                    rw [if_pos (by rfl)]
                    go_simp
                    refine hK _ _ ?_
                    clear hK k0 f0 k1 f1 k2 f2
                    have hT := turns3 (w.heap.size + 1) Y1 (.bool false) (.slice none 0 0) (.slice none 0 0)
                    replace R := R.beside E1 (noWord3 (fun _ e => by cases e) (fun _ e => by cases e) (fun _ e => by cases e)) hT (by first | exact RO1 | exact RO2 | exact RO3)
                    replace FC := FC.beside E1 (noWord3 (fun _ e => by cases e) (fun _ e => by cases e) (fun _ e => by cases e)) hT
                    replace FR1 := FR1.beside E1 (noWord3 (fun _ e => by cases e) (fun _ e => by cases e) (fun _ e => by cases e)) hT
                    replace E2 := E2.turns hT (by omega)
                    replace E3 := E3.turns hT (by omega)
                    replace E1 := E1.set3 (.bool false) (.slice none 0 0) (.slice none 0 0)
                    have hr10 := hT.below
                    obtain ⟨X3, hX⟩ := nm hT.below
                    rw [hX] at R FC FR1 E1 E2 E3 hr10 ⊢
                    clear hX hT
                    refine wpAny_all (rs := [9]) (by kernel_rfl) (by simp) (fun i hi => ?_)
                    obtain rfl : i = 9 := by simpa using hi
                    clear hi
                    refine wpOp_step rfl (fun K hK => ?_)
                    simp only [lz1, lz2, lz3]
                    rw [if_pos (by rfl)]
                    go_simp
                    refine hK _ _ ?_
                    clear hK
                    refine wpAny_all (rs := [11]) (by kernel_rfl) (by simp) (fun i hi => ?_)
                    obtain rfl : i = 11 := by simpa using hi
                    clear hi
                    have hcc := E3.one
                    have k0 := hcc.1
                    have f0 := hcc.2
                    clear hcc
                    refine wpOp_step rfl (fun K hK => ?_)
                    simp only [lz1, lz2, lz3]
                    rw [if_pos (by rfl)]
                    go_simp
                    refine hK _ _ ?_
                    clear hK k0 f0
                    have hT := turns1 (kk) X3 (.int .i64 5)
                    replace R := R.beside E3 (noWord1 (fun _ e => by cases e)) hT (by first | exact RO1 | exact RO2 | exact RO3)
                    replace FC := FC.beside E3 (noWord1 (fun _ e => by cases e)) hT
                    replace FR1 := FR1.beside E3 (noWord1 (fun _ e => by cases e)) hT
                    replace E1 := E1.turns hT (by omega)
                    replace E2 := E2.turns hT (by omega)
                    replace E3 := E3.set1 (.int .i64 5)
                    have hr11 := hT.below
                    obtain ⟨X4, hX⟩ := nm hT.below
                    rw [hX] at R FC FR1 E1 E2 E3 hr11 ⊢
                    clear hX hT
                    refine wpAny_done (by kernel_rfl) ?_ _
                    replace hB := hB.trans ((Below.trans (Below.drew (Below.refl wr.heap.size wr)) hr).mono hB.size)
                    replace hB := hB.trans (hr10.mono (by omega))
                    replace hB := hB.trans (hr11.mono (by omega))
                    have zz0_4 := hr.size
                    have zi1 := hB.size
                    have zy4_10 := hr10.size
                    have zy4_11 := hr11.size
                    clear hr hr10 hr11
                    have hms : rs.length - (i + 1) < rs.length - i := by omega
                    go_wp2
                    refine ⟨⟨i + 1, 5, false, none, 0, [], none, 0, [], by simp, by omega, R, E1, E2, E3, hB, FoldAt.stop HM hr.out HU.out⟩, ?_⟩
                    simpa [intOf] using hms
                · clear hi
                  refine wpOp_step rfl (fun K hK => ?_)
                  simp only [lz1, lz2, lz3]
                  rw [if_pos (by rfl)]
                  go_simp
                  refine hK _ _ ?_
                  clear hK
                  refine wpAny_all (rs := [8]) (by kernel_rfl) (by simp) (fun i hi => ?_)
                  obtain rfl : i = 8 := by simpa using hi
                  clear hi
                  refine wpOp_step rfl (fun K hK => ?_)
                  simp only [lz1, lz2, lz3]
                  rw [if_pos (by rfl)]
                  go_simp
                  refine hK _ _ ?_
                  clear hK
                  refine wpAny_all (rs := [10]) (by kernel_rfl) (by simp) (fun i hi => ?_)
                  obtain rfl : i = 10 := by simpa using hi
                  clear hi
                  have hcc := E1.three
                  have k0 := hcc.1
                  have k1 := hcc.2.1
                  have k2 := hcc.2.2.1
                  have f0 := hcc.2.2.2.1
                  have f1 := hcc.2.2.2.2.1
                  have f2 := hcc.2.2.2.2.2
                  clear hcc
                  refine wpOp_step rfl (fun K hK => ?_)
                  simp only [lz1, lz2, lz3]
                  rw [if_pos (by rfl)]
                  go_simp
                  refine hK _ _ ?_
                  clear hK k0 f0 k1 f1 k2 f2
                  have hT := turns3 (w.heap.size + 1) Y1 (.bool false) (.slice none 0 0) (.slice none 0 0)
                  replace R := R.beside E1 (noWord3 (fun _ e => by cases e) (fun _ e => by cases e) (fun _ e => by cases e)) hT (by first | exact RO1 | exact RO2 | exact RO3)
                  replace FC := FC.beside E1 (noWord3 (fun _ e => by cases e) (fun _ e => by cases e) (fun _ e => by cases e)) hT
                  replace FR1 := FR1.beside E1 (noWord3 (fun _ e => by cases e) (fun _ e => by cases e) (fun _ e => by cases e)) hT
                  replace E2 := E2.turns hT (by omega)
                  replace E3 := E3.turns hT (by omega)
                  replace E1 := E1.set3 (.bool false) (.slice none 0 0) (.slice none 0 0)
                  have hr10 := hT.below
                  obtain ⟨X5, hX⟩ := nm hT.below
                  rw [hX] at R FC FR1 E1 E2 E3 hr10 ⊢
                  clear hX hT
                  refine wpAny_all (rs := [11]) (by kernel_rfl) (by simp) (fun i hi => ?_)
                  obtain rfl : i = 11 := by simpa using hi
                  clear hi
                  have hcc := E3.one
                  have k0 := hcc.1
                  have f0 := hcc.2
                  clear hcc
                  refine wpOp_step rfl (fun K hK => ?_)
                  simp only [lz1, lz2, lz3]
                  rw [if_pos (by rfl)]
                  go_simp
                  refine hK _ _ ?_
                  clear hK k0 f0
                  have hT := turns1 (kk) X5 (.int .i64 5)
                  replace R := R.beside E3 (noWord1 (fun _ e => by cases e)) hT (by first | exact RO1 | exact RO2 | exact RO3)
                  replace FC := FC.beside E3 (noWord1 (fun _ e => by cases e)) hT
                  replace FR1 := FR1.beside E3 (noWord1 (fun _ e => by cases e)) hT
                  replace E1 := E1.turns hT (by omega)
                  replace E2 := E2.turns hT (by omega)
                  replace E3 := E3.set1 (.int .i64 5)
                  have hr11 := hT.below
                  obtain ⟨X6, hX⟩ := nm hT.below
                  rw [hX] at R FC FR1 E1 E2 E3 hr11 ⊢
                  clear hX hT
                  refine wpAny_done (by kernel_rfl) ?_ _
                  replace hB := hB.trans ((Below.trans (Below.drew (Below.refl wr.heap.size wr)) hr).mono hB.size)
                  replace hB := hB.trans (hr10.mono (by omega))
                  replace hB := hB.trans (hr11.mono (by omega))
                  have zz0_6 := hr.size
                  have zi1 := hB.size
                  have zy6_10 := hr10.size
                  have zy6_11 := hr11.size
                  clear hr hr10 hr11
                  have hms : rs.length - (i + 1) < rs.length - i := by omega
                  go_wp2
                  refine ⟨⟨i + 1, 5, false, none, 0, [], none, 0, [], by simp, by omega, R, E1, E2, E3, hB, FoldAt.stop HM hr.out HU.out⟩, ?_⟩
                  simpa [intOf] using hms
        · have HFin := HF.fin (by omega) hgo
          clear hgo
          by_cases hy : y = 0
          · subst hy
            have hnl : ¬ (i : Int) < (rs.length : Int) := by have := HFin.atEnd rfl; omega
            obtain ⟨k0, k1, k2, f0, f1, f2⟩ := E1.three
            obtain ⟨k3, f3⟩ := E2.one
            obtain ⟨k4, f4⟩ := E3.one
            have hmv := fun (F : Fr w.heap.size wr a1 n1 x1 e1 m1 y1) => (F.beside E1 (noWord3 (fun _ e => by cases e) (fun _ e => by cases e) (fun _ e => by cases e)) (turns3 (w.heap.size + 1) wr (.bool b1) (.slice a1 x1.length n1) (.slice e1 y1.length m1))).beside (E2.turns (turns3 (w.heap.size + 1) wr (.bool b1) (.slice a1 x1.length n1) (.slice e1 y1.length m1)) (by omega)) (noWord1 (fun _ e => by cases e)) (turns1 (w.heap.size + 1 + 1) _ (.int .i64 0))
            have hA := Below.refl wr.heap.size wr
            have hT := turns3 (w.heap.size + 1) wr (.bool b1) (.slice a1 x1.length n1) (.slice e1 y1.length m1)
            replace E2 := E2.turns hT (by omega)
            replace E3 := E3.turns hT (by omega)
            replace E1 := Box.set3 (.bool b1) (.slice a1 x1.length n1) (.slice e1 y1.length m1) E1
            replace hB := hB.trans (hT.below.mono (by omega))
            clear hT
            have hT := ((Turns.refl (w.heap.size + 1 + 1) (((wr.setCell ⟨w.heap.size + 1, 0, none⟩ (.bool b1)).setCell ⟨w.heap.size + 1, 1, none⟩ (.slice a1 x1.length n1)).setCell ⟨w.heap.size + 1, 2, none⟩ (.slice e1 y1.length m1))).setCell 0 (.int .i64 0))
            replace E1 := E1.turns hT (by omega)
            replace E3 := E3.turns hT (by omega)
            replace E2 : Box ((((wr.setCell ⟨w.heap.size + 1, 0, none⟩ (.bool b1)).setCell ⟨w.heap.size + 1, 1, none⟩ (.slice a1 x1.length n1)).setCell ⟨w.heap.size + 1, 2, none⟩ (.slice e1 y1.length m1)).setCell ⟨w.heap.size + 1 + 1, 0, none⟩ (.int .i64 0)) (w.heap.size + 1 + 1) (.cells #[.int .i64 0] 24) := ⟨Nat.lt_of_lt_of_le E2.lt hT.below.size, (heap_setCell_same _ _ 0 _ _ _ E2.what)⟩
            replace hB := hB.trans (hT.below.mono (by omega))
            clear hT
            clear hA
            go_wp2
            refine leaves_cons (f := 90) (args := #[.pointer (some ⟨kk, 0, none⟩), .pointer (some ⟨w.heap.size + 1, 0, none⟩), .pointer (some ⟨w.heap.size + 1 + 1, 0, none⟩)]) (by simp) (by simp [go_sem]) ?_
            have hE3 := E3.one.1
            refine (fold1_ok kk _ _ .returning _ hE3).mono ?_
            rintro e u' w'' ⟨rfl, rfl, rfl⟩
            have hcc := E1.three
            have r0 := hcc.1
            have r1 := hcc.2.1
            have r2 := hcc.2.2.1
            have s0 := E2.one.1
            clear hcc
            simp [Leaves, settle, results, Tryz.results72, go_sem, r0, r1, r2, s0]
            obtain ⟨hAG, t, ht, hIt, hmem⟩ := HFin.ok rfl
            refine ⟨Or.inl ⟨hAG, t, ht, _, _, _, _, _, _, _, rfl, hIt, ?_⟩, hB⟩
            rcases hmem with h | ⟨h1, h2⟩
            · exact Or.inl h
            · exact Or.inr ⟨hmv h1, h2⟩
          · have hyn : (y == 0) = false := beq_eq_false_iff_ne.2 hy
            obtain ⟨k0, k1, k2, f0, f1, f2⟩ := E1.three
            obtain ⟨k3, f3⟩ := E2.one
            obtain ⟨k4, f4⟩ := E3.one
            have hA := Below.refl wr.heap.size wr
            have hT := turns3 (w.heap.size + 1) wr (.bool b1) (.slice a1 x1.length n1) (.slice e1 y1.length m1)
            replace E2 := E2.turns hT (by omega)
            replace E3 := E3.turns hT (by omega)
            replace E1 := Box.set3 (.bool b1) (.slice a1 x1.length n1) (.slice e1 y1.length m1) E1
            replace hB := hB.trans (hT.below.mono (by omega))
            clear hT
            have hT := ((Turns.refl (w.heap.size + 1 + 1) (((wr.setCell ⟨w.heap.size + 1, 0, none⟩ (.bool b1)).setCell ⟨w.heap.size + 1, 1, none⟩ (.slice a1 x1.length n1)).setCell ⟨w.heap.size + 1, 2, none⟩ (.slice e1 y1.length m1))).setCell 0 (.int .i64 0))
            replace E1 := E1.turns hT (by omega)
            replace E3 := E3.turns hT (by omega)
            replace E2 : Box ((((wr.setCell ⟨w.heap.size + 1, 0, none⟩ (.bool b1)).setCell ⟨w.heap.size + 1, 1, none⟩ (.slice a1 x1.length n1)).setCell ⟨w.heap.size + 1, 2, none⟩ (.slice e1 y1.length m1)).setCell ⟨w.heap.size + 1 + 1, 0, none⟩ (.int .i64 0)) (w.heap.size + 1 + 1) (.cells #[.int .i64 0] 24) := ⟨Nat.lt_of_lt_of_le E2.lt hT.below.size, (heap_setCell_same _ _ 0 _ _ _ E2.what)⟩
            replace hB := hB.trans (hT.below.mono (by omega))
            clear hT
            clear hA
            go_wp2
            refine leaves_cons (f := 90) (args := #[.pointer (some ⟨kk, 0, none⟩), .pointer (some ⟨w.heap.size + 1, 0, none⟩), .pointer (some ⟨w.heap.size + 1 + 1, 0, none⟩)]) (by simp) (by simp [go_sem]) ?_
            have hE3 := E3.one.1
            have hcc := E1.three
            have s0 := E2.one
            refine (fold1_no kk (w.heap.size + 1) y (by simp [hyn, bne]) .returning _ hE3 _ _ _ _ hcc.1 hcc.2.1 hcc.2.2.1 s0.1 hcc.2.2.2.1 hcc.2.2.2.2.1 hcc.2.2.2.2.2 s0.2).mono ?_
            rintro e u' w'' ⟨rfl, rfl, rfl⟩
            have r0 := hcc.1
            have r1 := hcc.2.1
            have r2 := hcc.2.2.1
            have s1 := s0.1
            clear hcc s0
            simp [Leaves, settle, results, Tryz.results72, go_sem, r0, r1, r2, s1]
            refine ⟨?_, (hB.trans ((turns3 (w.heap.size + 1) _ (.bool false) (.slice none 0 0) (.slice none 0 0)).below.mono (by omega))).trans ((turns1 (w.heap.size + 1 + 1) _ (.int .i64 y)).below.mono (by omega))⟩
            rcases HFin.no hy with ⟨h1, h2, h3⟩ | ⟨h1, h2⟩
            · exact Or.inr (Or.inl ⟨h1, h3, by rw [h2]⟩)
            · exact Or.inr (Or.inr ⟨h1, by rw [h2]⟩)
end Go.Proofs.YtejocefblpkdjabGreat
