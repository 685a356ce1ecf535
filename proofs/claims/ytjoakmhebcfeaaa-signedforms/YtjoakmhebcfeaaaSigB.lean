/-
  The walks of signed: Mul, sameSide, otherSide.
-/
import Derived.Test.YtjoakmhebcfeaaaSigA
import Derived.Test.YtjoakmhebcfeaaaMul
import Derived.Test.YtjoakmhebcfeaaaAdd
import Derived.Test.YtjoakmhebcfeaaaSub
namespace Go.Proofs.Ytjoakmhebcfeaaa
open Go.RowKit

set_option maxRecDepth 100000 in
set_option maxHeartbeats 2000000 in
/-- Mul. -/
theorem smul_any {lo lo' : Nat} {a c : Option Addr} {n ca m cc : Nat} {xs ys : List Int} {w : World} (b d : Bool) (h : Seg lo w (.slice a n ca) xs) (h' : Seg lo' w (.slice c m cc) ys) (hl : xs.length ≤ 2000) (hl' : ys.length ≤ 2000) :
    Calls Try.prog 26 #[.agg #[.bool b, .slice a n ca], .agg #[.bool d, .slice c m cc]] w fun e w' => ∃ (b' : Bool) (a' : Option Addr) (cap' : Nat) (ts : List Int), e = .returned (.agg #[.bool b', .slice a' ts.length cap']) ∧ Seg w.heap.size w' (.slice a' ts.length cap') ts ∧ Canon b' ts ∧ sgn b' (val ts) = sgn b (val xs) * sgn d (val ys) ∧ ts.length ≤ xs.length + ys.length ∧ Below w.heap.size w w' := by
  obtain ⟨rfl, _⟩ := h.len
  obtain ⟨rfl, _⟩ := h'.len
  obtain ⟨e1, e2, e3, hB0, hz⟩ := three_new w (.cells #[.bool b, .slice a xs.length ca] 25) (.cells #[.bool d, .slice c ys.length cc] 25) (.cells #[.bool false, .slice none 0 0] 25)
  go_enter Try.func26, Try.ntmps26
  go_wp2_with fail
  obtain ⟨w0, hw0⟩ : ∃ w0, (((w.alloc (.cells #[.bool b, .slice a xs.length ca] 25)).alloc (.cells #[.bool d, .slice c ys.length cc] 25)).alloc (.cells #[.bool false, .slice none 0 0] 25)) = w0 := ⟨_, rfl⟩
  rw [hw0] at e1 e2 e3 hB0 hz ⊢
  have HZ := hide hz
  clear hw0 hz
  have hmu : ∀ W, Below w0.heap.size w0 W → Calls Try.prog 51 #[.slice a xs.length ca, .slice c ys.length cc] W fun e w' => ∃ (a' : Option Addr) (cap : Nat) (zs : List Int), e = .returned (.slice a' zs.length cap) ∧ Seg W.heap.size w' (.slice a' zs.length cap) zs ∧ Norm zs ∧ val zs = val xs * val ys ∧ zs.length ≤ xs.length + ys.length ∧ Below W.heap.size W w' := fun W hW =>
    mul_any ((h.below hB0).below hW) ((h'.below hB0).below hW) (by omega) (by omega)
  have hkeep : ∀ W, Below (w.heap.size + 2) w0 W → W.cell? ⟨w.heap.size, 0, none⟩ = some (.bool b) ∧ W.cell? ⟨w.heap.size, 1, none⟩ = some (.slice a xs.length ca) ∧ W.cell? ⟨w.heap.size + 1, 0, none⟩ = some (.bool d) ∧ W.cell? ⟨w.heap.size + 1, 1, none⟩ = some (.slice c ys.length cc) := fun W hW => by
    obtain ⟨p0, p1, _, _⟩ := two_cells e1 hW (by omega)
    obtain ⟨q0, q1, _, _⟩ := two_cells e2 hW (by omega)
    exact ⟨p0, p1, q0, q1⟩
  go_region_held3 (fun W => W.cell? ⟨w.heap.size, 0, none⟩ = some (.bool b) ∧ W.cell? ⟨w.heap.size, 1, none⟩ = some (.slice a xs.length ca) ∧ W.cell? ⟨w.heap.size + 1, 0, none⟩ = some (.bool d) ∧ W.cell? ⟨w.heap.size + 1, 1, none⟩ = some (.slice c ys.length cc))
    (first | exact hkeep _ ⟨rfl, rfl, rfl, Nat.le_refl _, fun _ _ => rfl⟩ | exact hk1.out | exact hk2.out | exact hk3.out)
    (first
    | (go_at_call 51
       refine (hmu _ ?_).mono ?_
       exact ⟨rfl, rfl, rfl, Nat.le_refl _, fun _ _ => rfl⟩
       rintro e w1 ⟨a1, c1, zs, rfl, hs1, hn1, hv1, hl1, hb1⟩
       have hb1' : Below w0.heap.size w0 w1 := ⟨hb1.1, hb1.2, hb1.3, hb1.4, hb1.5⟩
       have hk1 := hide (hkeep w1 (hb1'.mono (by have := HZ.out; omega)))
       have HV1 := hide hv1
       clear hb1 hv1)
    | (go_at_call 38
       refine (swhole_any hs1 hn1 (b != d)).mono ?_
       rintro e w2 ⟨b2, rfl, hc2, hv2, hb2⟩
       have hs2 := hs1.below hb2
       have hb2' : Below w0.heap.size w0 w2 := hb1'.trans (hb2.mono hb1'.size)
       obtain ⟨r0, r1, r2, r3⟩ := two_cells e3 hb2' (by have := HZ.out; omega)
       have hT := turns2 (w.heap.size + 2) w2 (.bool b2) (.slice a1 zs.length c1)
       have hk2 := hide (hkeep w2 (hb2'.mono (by have := HZ.out; omega)))
       have hk3 := hide (hkeep _ ((hb2'.mono (by have := HZ.out; omega)).trans hT.below))
       have HV2 := hide hv2
       clear hv2))
  all_goals
    have hS := (hs2.turns_lo hT (by have := HZ.out; show _ < w0.heap.size; omega)).mono hB0.size
    have hbw2 := hB0.trans (hb2'.mono hB0.size)
    have hBB := hbw2.trans (hT.below.mono (by omega))
    go_wp2
    refine bodyPost_ret (v := .agg #[.bool b2, .slice a1 zs.length c1]) (by simp [results, Try.f26, go_sem, r0, r1]) rfl ?_
    exact ⟨b2, _, _, zs, rfl, hS, hc2, by rw [HV2.out, HV1.out]; exact sgn_mul b d _ _, by omega, hBB⟩


set_option maxRecDepth 100000 in
set_option maxHeartbeats 2000000 in
/-- sameSide. -/
theorem sameSide_any {lo lo' : Nat} {a c : Option Addr} {n ca m cc : Nat} {xs ys : List Int} {w : World} (b : Bool) (h : Seg lo w (.slice a n ca) xs) (h' : Seg lo' w (.slice c m cc) ys) (hl : xs.length ≤ 2000) (hl' : ys.length ≤ 2000) :
    Calls Try.prog 48 #[.agg #[.bool b, .slice a n ca], .agg #[.bool b, .slice c m cc]] w fun e w' => ∃ (b' : Bool) (a' : Option Addr) (cap' : Nat) (ts : List Int), e = .returned (.agg #[.bool b', .slice a' ts.length cap']) ∧ Seg w.heap.size w' (.slice a' ts.length cap') ts ∧ Canon b' ts ∧ sgn b' (val ts) = sgn b (val xs) + sgn b (val ys) ∧ ts.length ≤ max xs.length ys.length + 1 ∧ Below w.heap.size w w' := by
  obtain ⟨rfl, _⟩ := h.len
  obtain ⟨rfl, _⟩ := h'.len
  obtain ⟨e1, e2, e3, hB0, hz⟩ := three_new w (.cells #[.bool b, .slice a xs.length ca] 25) (.cells #[.bool b, .slice c ys.length cc] 25) (.cells #[.bool false, .slice none 0 0] 25)
  go_enter Try.func48, Try.ntmps48
  go_wp2_with fail
  obtain ⟨w0, hw0⟩ : ∃ w0, (((w.alloc (.cells #[.bool b, .slice a xs.length ca] 25)).alloc (.cells #[.bool b, .slice c ys.length cc] 25)).alloc (.cells #[.bool false, .slice none 0 0] 25)) = w0 := ⟨_, rfl⟩
  rw [hw0] at e1 e2 e3 hB0 hz ⊢
  have HZ := hide hz
  clear hw0 hz
  have hmu : ∀ W, Below w0.heap.size w0 W → Calls Try.prog 61 #[.slice a xs.length ca, .slice c ys.length cc] W fun e w' => ∃ (a' : Option Addr) (cap : Nat) (zs : List Int), e = .returned (.slice a' zs.length cap) ∧ Seg W.heap.size w' (.slice a' zs.length cap) zs ∧ Norm zs ∧ val zs = val xs + val ys ∧ zs.length ≤ max xs.length ys.length + 1 ∧ Below W.heap.size W w' := fun W hW =>
    add_any ((h.below hB0).below hW) ((h'.below hB0).below hW) (by omega) (by omega)
  have hkeep : ∀ W, Below (w.heap.size + 2) w0 W → W.cell? ⟨w.heap.size, 0, none⟩ = some (.bool b) ∧ W.cell? ⟨w.heap.size, 1, none⟩ = some (.slice a xs.length ca) ∧ W.cell? ⟨w.heap.size + 1, 0, none⟩ = some (.bool b) ∧ W.cell? ⟨w.heap.size + 1, 1, none⟩ = some (.slice c ys.length cc) := fun W hW => by
    obtain ⟨p0, p1, _, _⟩ := two_cells e1 hW (by omega)
    obtain ⟨q0, q1, _, _⟩ := two_cells e2 hW (by omega)
    exact ⟨p0, p1, q0, q1⟩
  go_region_held3 (fun W => W.cell? ⟨w.heap.size, 0, none⟩ = some (.bool b) ∧ W.cell? ⟨w.heap.size, 1, none⟩ = some (.slice a xs.length ca) ∧ W.cell? ⟨w.heap.size + 1, 0, none⟩ = some (.bool b) ∧ W.cell? ⟨w.heap.size + 1, 1, none⟩ = some (.slice c ys.length cc))
    (first | exact hkeep _ ⟨rfl, rfl, rfl, Nat.le_refl _, fun _ _ => rfl⟩ | exact hk1.out | exact hk2.out | exact hk3.out)
    (first
    | (go_at_call 61
       refine (hmu _ ?_).mono ?_
       exact ⟨rfl, rfl, rfl, Nat.le_refl _, fun _ _ => rfl⟩
       rintro e w1 ⟨a1, c1, zs, rfl, hs1, hn1, hv1, hl1, hb1⟩
       have hb1' : Below w0.heap.size w0 w1 := ⟨hb1.1, hb1.2, hb1.3, hb1.4, hb1.5⟩
       have hk1 := hide (hkeep w1 (hb1'.mono (by have := HZ.out; omega)))
       have HV1 := hide hv1
       clear hb1 hv1)
    | (go_at_call 38
       refine (swhole_any hs1 hn1 b).mono ?_
       rintro e w2 ⟨b2, rfl, hc2, hv2, hb2⟩
       have hs2 := hs1.below hb2
       have hb2' : Below w0.heap.size w0 w2 := hb1'.trans (hb2.mono hb1'.size)
       obtain ⟨r0, r1, r2, r3⟩ := two_cells e3 hb2' (by have := HZ.out; omega)
       have hT := turns2 (w.heap.size + 2) w2 (.bool b2) (.slice a1 zs.length c1)
       have hk2 := hide (hkeep w2 (hb2'.mono (by have := HZ.out; omega)))
       have hk3 := hide (hkeep _ ((hb2'.mono (by have := HZ.out; omega)).trans hT.below))
       have HV2 := hide hv2
       clear hv2))
  all_goals
    have hS := (hs2.turns_lo hT (by have := HZ.out; show _ < w0.heap.size; omega)).mono hB0.size
    have hbw2 := hB0.trans (hb2'.mono hB0.size)
    have hBB := hbw2.trans (hT.below.mono (by omega))
    go_wp2
    refine bodyPost_ret (v := .agg #[.bool b2, .slice a1 zs.length c1]) (by simp [results, Try.f48, go_sem, r0, r1]) rfl ?_
    exact ⟨b2, _, _, zs, rfl, hS, hc2, by rw [HV2.out, HV1.out]; exact sgn_add b _ _, by omega, hBB⟩


set_option maxRecDepth 100000 in
set_option maxHeartbeats 2000000 in
/-- otherSide. -/
theorem otherSide_ge {lo lo' : Nat} {a c : Option Addr} {n ca m cc : Nat} {xs ys : List Int} {w : World} (b d : Bool) (hne : (b == d) = false) (h : Seg lo w (.slice a n ca) xs) (h' : Seg lo' w (.slice c m cc) ys) (hl : xs.length ≤ 2000) (hl' : ys.length ≤ 2000) (hge : val ys ≤ val xs) :
    Calls Try.prog 49 #[.agg #[.bool b, .slice a n ca], .agg #[.bool d, .slice c m cc]] w fun e w' => ∃ (b' : Bool) (a' : Option Addr) (cap' : Nat) (ts : List Int), e = .returned (.agg #[.bool b', .slice a' ts.length cap']) ∧ Seg w.heap.size w' (.slice a' ts.length cap') ts ∧ Canon b' ts ∧ sgn b' (val ts) = sgn b (val xs) + sgn d (val ys) ∧ ts.length ≤ max xs.length ys.length + 1 ∧ Below w.heap.size w w' := by
  obtain ⟨rfl, _⟩ := h.len
  obtain ⟨rfl, _⟩ := h'.len
  obtain ⟨e1, e2, e3, hB0, hz⟩ := three_new w (.cells #[.bool b, .slice a xs.length ca] 25) (.cells #[.bool d, .slice c ys.length cc] 25) (.cells #[.bool false, .slice none 0 0] 25)
  go_enter Try.func49, Try.ntmps49
  go_wp2_with fail
  obtain ⟨w0, hw0⟩ : ∃ w0, (((w.alloc (.cells #[.bool b, .slice a xs.length ca] 25)).alloc (.cells #[.bool d, .slice c ys.length cc] 25)).alloc (.cells #[.bool false, .slice none 0 0] 25)) = w0 := ⟨_, rfl⟩
  rw [hw0] at e1 e2 e3 hB0 hz ⊢
  have hcmp := cmp_any (h.below hB0) (h'.below hB0) (by omega) (by omega)
  have HZ0 := hide hz
  clear hw0 hz
  refine hcmp.mono ?_
  rintro e wc ⟨rfl, hbc⟩
  replace e1 := (hbc.block _ (by have := HZ0.out; omega)).trans e1
  replace e2 := (hbc.block _ (by have := HZ0.out; omega)).trans e2
  replace e3 := (hbc.block _ (by have := HZ0.out; omega)).trans e3
  have HZ : Hid (w.heap.size + 3 ≤ wc.heap.size) := by have := HZ0.out; have := hbc.size; rw [Hid]; omega
  replace hB0 := hB0.trans (hbc.mono hB0.size)
  clear hbc hcmp HZ0 w0
  have hs0 := h.below hB0
  have hs0' := h'.below hB0
  have hcn : ¬ cmpI (val xs) (val ys) < 0 := by
    unfold cmpI
    rw [if_neg (by omega)]
    split <;> omega
  have hsub := sub_yes hs0 hs0' (by omega) (by omega) hge
  have HG := hide hge
  obtain ⟨p0, p1, _, _⟩ := two_cells e1 (Below.refl wc.heap.size wc) (by have := HZ.out; omega)
  obtain ⟨q0, q1, _, _⟩ := two_cells e2 (Below.refl wc.heap.size wc) (by have := HZ.out; omega)
  clear hge
  go_wp2_with fail
  refine hsub.mono ?_
  rintro e w1 ⟨a1, c1, zs, rfl, hs1, hn1, hv1, hl1, hb1⟩
  obtain ⟨i0, i1, _, _⟩ := two_cells e1 hb1 (by have := HZ.out; omega)
  have HV1 := hide hv1
  clear hv1 hsub hcn
  go_wp2_with fail
  refine (swhole_any hs1 hn1 b).mono ?_
  rintro e w2 ⟨b2, rfl, hc2, hv2, hb2⟩
  have hb2' := hb1.trans (hb2.mono hb1.size)
  obtain ⟨r0, r1, r2, r3⟩ := two_cells e3 hb2' (by have := HZ.out; omega)
  have hT := turns2 (w.heap.size + 2) w2 (.bool b2) (.slice a1 zs.length c1)
  have HV2 := hide hv2
  clear hv2
  have hS := ((hs1.below hb2).turns_lo hT (by have := HZ.out; omega)).mono hB0.size
  have hbw2 := hB0.trans (hb2'.mono hB0.size)
  have hBB := hbw2.trans (hT.below.mono (by omega))
  go_wp2
  refine bodyPost_ret (v := .agg #[.bool b2, .slice a1 zs.length c1]) (by simp [results, Try.f49, go_sem, r0, r1]) rfl ?_
  exact ⟨b2, _, _, zs, rfl, hS, hc2, by rw [HV2.out, HV1.out]; exact sgn_diff hne _ _, by omega, hBB⟩

set_option maxRecDepth 100000 in
set_option maxHeartbeats 2000000 in
/-- otherSide. -/
theorem otherSide_lt {lo lo' : Nat} {a c : Option Addr} {n ca m cc : Nat} {xs ys : List Int} {w : World} (b d : Bool) (hne : (b == d) = false) (h : Seg lo w (.slice a n ca) xs) (h' : Seg lo' w (.slice c m cc) ys) (hl : xs.length ≤ 2000) (hl' : ys.length ≤ 2000) (hlt : val xs < val ys) :
    Calls Try.prog 49 #[.agg #[.bool b, .slice a n ca], .agg #[.bool d, .slice c m cc]] w fun e w' => ∃ (b' : Bool) (a' : Option Addr) (cap' : Nat) (ts : List Int), e = .returned (.agg #[.bool b', .slice a' ts.length cap']) ∧ Seg w.heap.size w' (.slice a' ts.length cap') ts ∧ Canon b' ts ∧ sgn b' (val ts) = sgn b (val xs) + sgn d (val ys) ∧ ts.length ≤ max xs.length ys.length + 1 ∧ Below w.heap.size w w' := by
  obtain ⟨rfl, _⟩ := h.len
  obtain ⟨rfl, _⟩ := h'.len
  obtain ⟨e1, e2, e3, hB0, hz⟩ := three_new w (.cells #[.bool b, .slice a xs.length ca] 25) (.cells #[.bool d, .slice c ys.length cc] 25) (.cells #[.bool false, .slice none 0 0] 25)
  go_enter Try.func49, Try.ntmps49
  go_wp2_with fail
  obtain ⟨w0, hw0⟩ : ∃ w0, (((w.alloc (.cells #[.bool b, .slice a xs.length ca] 25)).alloc (.cells #[.bool d, .slice c ys.length cc] 25)).alloc (.cells #[.bool false, .slice none 0 0] 25)) = w0 := ⟨_, rfl⟩
  rw [hw0] at e1 e2 e3 hB0 hz ⊢
  have hcmp := cmp_any (h.below hB0) (h'.below hB0) (by omega) (by omega)
  have HZ0 := hide hz
  clear hw0 hz
  refine hcmp.mono ?_
  rintro e wc ⟨rfl, hbc⟩
  replace e1 := (hbc.block _ (by have := HZ0.out; omega)).trans e1
  replace e2 := (hbc.block _ (by have := HZ0.out; omega)).trans e2
  replace e3 := (hbc.block _ (by have := HZ0.out; omega)).trans e3
  have HZ : Hid (w.heap.size + 3 ≤ wc.heap.size) := by have := HZ0.out; have := hbc.size; rw [Hid]; omega
  replace hB0 := hB0.trans (hbc.mono hB0.size)
  clear hbc hcmp HZ0 w0
  have hs0 := h.below hB0
  have hs0' := h'.below hB0
  have hcn : cmpI (val xs) (val ys) < 0 := by rw [cmpI_lt hlt]; decide
  obtain ⟨p0, p1, p2, p3⟩ := two_cells e1 (Below.refl wc.heap.size wc) (by have := HZ.out; omega)
  obtain ⟨q0, q1, q2, q3⟩ := two_cells e2 (Below.refl wc.heap.size wc) (by have := HZ.out; omega)
  have hT1 := turns2 w.heap.size wc (.bool d) (.slice c ys.length cc)
  have f1 := turned2 (.bool d) (.slice c ys.length cc) e1
  have f2 := (hT1.other (w.heap.size + 1) (by omega) (by have := HZ.out; omega)).trans e2
  have f3 := (hT1.other (w.heap.size + 2) (by omega) (by have := HZ.out; omega)).trans e3
  have hT2 := turns2 (w.heap.size + 1) ((wc.setCell ⟨w.heap.size, 0, none⟩ (.bool d)).setCell ⟨w.heap.size, 1, none⟩ (.slice c ys.length cc)) (.bool b) (.slice a xs.length ca)
  have g1 := (hT2.other w.heap.size (by omega) (by have := HZ.out; have := hT1.below.size; omega)).trans f1
  have g2 := turned2 (.bool b) (.slice a xs.length ca) f2
  have g3 := (hT2.other (w.heap.size + 2) (by omega) (by have := HZ.out; have := hT1.below.size; omega)).trans f3
  have hB2 := (hB0.trans hT1.below).trans (hT2.below.mono (by omega))
  have hz2 := hide (Nat.le_trans hT1.below.size hT2.below.size)
  clear f1 f2 f3
  go_wp2_with fail
  obtain ⟨w3, hw3⟩ : ∃ w3, ((((wc.setCell ⟨w.heap.size, 0, none⟩ (.bool d)).setCell ⟨w.heap.size, 1, none⟩ (.slice c ys.length cc)).setCell ⟨w.heap.size + 1, 0, none⟩ (.bool b)).setCell ⟨w.heap.size + 1, 1, none⟩ (.slice a xs.length ca)) = w3 := ⟨_, rfl⟩
  rw [hw3] at g1 g2 g3 hB2 hz2 ⊢
  clear hw3 hT1 hT2 hcn p0 p1 p2 p3 q0 q1 q2 q3
  replace HZ : Hid (w.heap.size + 3 ≤ w3.heap.size) := by have := HZ.out; have := hz2.out; rw [Hid]; omega
  clear hz2 hs0 hs0' e1 e2 e3 hB0
  have hB0 := hB2
  clear hB2
  refine (sub_yes (h'.below hB0) (h.below hB0) (by omega) (by omega) (Int.le_of_lt hlt)).mono ?_
  rintro e w1 ⟨a1, c1, zs, rfl, hs1, hn1, hv1, hl1, hb1⟩
  obtain ⟨i0, i1, _, _⟩ := two_cells g1 hb1 (by have := HZ.out; omega)
  have HV1 := hide hv1
  clear hv1 hlt
  go_wp2_with fail
  refine (swhole_any hs1 hn1 d).mono ?_
  rintro e w2 ⟨b2, rfl, hc2, hv2, hb2⟩
  have hb2' := hb1.trans (hb2.mono hb1.size)
  obtain ⟨r0, r1, r2, r3⟩ := two_cells g3 hb2' (by have := HZ.out; omega)
  have hT := turns2 (w.heap.size + 2) w2 (.bool b2) (.slice a1 zs.length c1)
  have HV2 := hide hv2
  clear hv2
  have hS := ((hs1.below hb2).turns_lo hT (by have := HZ.out; omega)).mono hB0.size
  have hbw2 := hB0.trans (hb2'.mono hB0.size)
  have hBB := hbw2.trans (hT.below.mono (by omega))
  go_wp2
  refine bodyPost_ret (v := .agg #[.bool b2, .slice a1 zs.length c1]) (by simp [results, Try.f49, go_sem, r0, r1]) rfl ?_
  exact ⟨b2, _, _, zs, rfl, hS, hc2, by rw [HV2.out, HV1.out]; exact (Int.add_comm (sgn d (val ys)) _ ▸ sgn_diff (by rw [Bool.beq_comm]; exact hne) _ _), by omega, hBB⟩

end Go.Proofs.Ytjoakmhebcfeaaa
