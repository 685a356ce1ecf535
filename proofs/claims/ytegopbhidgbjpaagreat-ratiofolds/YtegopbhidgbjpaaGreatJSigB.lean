/-
  Joined: SigB SigC SigD SignedC RatK RatA RatY RatP RatB RatE KDoc RatF RatG KDoc2.
-/
import Derived.Test.YtegopbhidgbjpaaGreatJRMulB
import Derived.Test.YtegopbhidgbjpaaGreatJMul
import Derived.Test.YtegopbhidgbjpaaGreatJDown
import Derived.Test.YtegopbhidgbjpaaGreatSub
import Derived.Laws.EntriesVeiled
import Derived.Test.YtegopbhidgbjpaaGreatJLenOf
import Derived.Test.YtegopbhidgbjpaaGreatJQLong
import Derived.Test.YtegopbhidgbjpaaGreatJRDiv
import Derived.Test.YtegopbhidgbjpaaGreatJRefD
import Derived.Defers
namespace Go.Proofs.YtegopbhidgbjpaaGreat
open Go.RowKit
set_option maxRecDepth 100000 in
set_option maxHeartbeats 2000000 in
theorem smul_any {lo lo' : Nat} {a c : Option Addr} {n ca m cc : Nat} {xs ys : List Int} {w : World} (b d : Bool) (h : Seg lo w (.slice a n ca) xs) (h' : Seg lo' w (.slice c m cc) ys) (hl : xs.length ≤ 2000) (hl' : ys.length ≤ 2000) :
    Calls Tryz.prog 70 #[.agg #[.bool b, .slice a n ca], .agg #[.bool d, .slice c m cc]] w fun e w' => ∃ (b' : Bool) (a' : Option Addr) (cap' : Nat) (ts : List Int), e = .returned (.agg #[.bool b', .slice a' ts.length cap']) ∧ Seg w.heap.size w' (.slice a' ts.length cap') ts ∧ Canon b' ts ∧ sgn b' (val ts) = sgn b (val xs) * sgn d (val ys) ∧ ts.length ≤ xs.length + ys.length ∧ Below w.heap.size w w' := by
  obtain ⟨rfl, _⟩ := h.len
  obtain ⟨rfl, _⟩ := h'.len
  obtain ⟨e1, e2, e3, hB0, hz⟩ := three_new w (.cells #[.bool b, .slice a xs.length ca] 28) (.cells #[.bool d, .slice c ys.length cc] 28) (.cells #[.bool false, .slice none 0 0] 28)
  go_enter Tryz.func70, Tryz.ntmps70
  go_wp2_with fail
  obtain ⟨w0, hw0⟩ : ∃ w0, (((w.alloc (.cells #[.bool b, .slice a xs.length ca] 28)).alloc (.cells #[.bool d, .slice c ys.length cc] 28)).alloc (.cells #[.bool false, .slice none 0 0] 28)) = w0 := ⟨_, rfl⟩
  rw [hw0] at e1 e2 e3 hB0 hz ⊢
  have HZ := hide hz
  clear hw0 hz
  have hmu : ∀ W, Below w0.heap.size w0 W → Calls Tryz.prog 48 #[.slice a xs.length ca, .slice c ys.length cc] W fun e w' => ∃ (a' : Option Addr) (cap : Nat) (zs : List Int), e = .returned (.slice a' zs.length cap) ∧ Seg W.heap.size w' (.slice a' zs.length cap) zs ∧ Norm zs ∧ val zs = val xs * val ys ∧ zs.length ≤ xs.length + ys.length ∧ Below W.heap.size W w' := fun W hW =>
    mul_any ((h.below hB0).below hW) ((h'.below hB0).below hW) (by omega) (by omega)
  have hkeep : ∀ W, Below (w.heap.size + 2) w0 W → W.cell? ⟨w.heap.size, 0, none⟩ = some (.bool b) ∧ W.cell? ⟨w.heap.size, 1, none⟩ = some (.slice a xs.length ca) ∧ W.cell? ⟨w.heap.size + 1, 0, none⟩ = some (.bool d) ∧ W.cell? ⟨w.heap.size + 1, 1, none⟩ = some (.slice c ys.length cc) := fun W hW => by
    obtain ⟨p0, p1, _, _⟩ := two_cells e1 hW (by omega)
    obtain ⟨q0, q1, _, _⟩ := two_cells e2 hW (by omega)
    exact ⟨p0, p1, q0, q1⟩
  go_region_held3 (fun W => W.cell? ⟨w.heap.size, 0, none⟩ = some (.bool b) ∧ W.cell? ⟨w.heap.size, 1, none⟩ = some (.slice a xs.length ca) ∧ W.cell? ⟨w.heap.size + 1, 0, none⟩ = some (.bool d) ∧ W.cell? ⟨w.heap.size + 1, 1, none⟩ = some (.slice c ys.length cc))
    (first | exact hkeep _ ⟨rfl, rfl, rfl, Nat.le_refl _, fun _ _ => rfl⟩ | exact hk1.out | exact hk2.out | exact hk3.out)
    (first
    | (go_at_call 48
       refine (hmu _ ?_).mono ?_
       exact ⟨rfl, rfl, rfl, Nat.le_refl _, fun _ _ => rfl⟩
       rintro e w1 ⟨a1, c1, zs, rfl, hs1, hn1, hv1, hl1, hb1⟩
       have hb1' : Below w0.heap.size w0 w1 := ⟨hb1.1, hb1.2, hb1.3, hb1.4, hb1.5⟩
       have hk1 := hide (hkeep w1 (hb1'.mono (by have := HZ.out; omega)))
       have HV1 := hide hv1
       clear hb1 hv1)
    | (go_at_call 65
       refine (swhole_any hs1 hn1 (b != d)).mono ?_
       rintro e w2 ⟨b2, rfl, hc2, hv2, hb2⟩
       have hs2 := hs1.below hb2
       have hb2' : Below w0.heap.size w0 w2 := hb1'.trans (hb2.mono hb1'.size)
       obtain ⟨r0, r1, r2, r3⟩ := two_cells e3 hb2' (by have := HZ.out; omega)
       have hT := turns2 (w.heap.size + 2) w2 (.bool b2) (.slice a1 zs.length c1)
       have hk2 := hide (hkeep w2 (hb2'.mono (by have := HZ.out; omega)))
       have hk3 := hide (hkeep _ ((hb2'.mono (by have := HZ.out; omega)).trans hT.below))
       have HV2 := hide hv2
       clear hv2))
  all_goals
    have hS := (hs2.turns_lo hT (by have := HZ.out; show _ < w0.heap.size; omega)).mono hB0.size
    have hbw2 := hB0.trans (hb2'.mono hB0.size)
    have hBB := hbw2.trans (hT.below.mono (by omega))
    go_wp2
    refine bodyPost_ret (v := .agg #[.bool b2, .slice a1 zs.length c1]) (by simp [results, Tryz.f70, go_sem, r0, r1]) rfl ?_
    exact ⟨b2, _, _, zs, rfl, hS, hc2, by rw [HV2.out, HV1.out]; exact sgn_mul b d _ _, by omega, hBB⟩
set_option maxRecDepth 100000 in
set_option maxHeartbeats 2000000 in
theorem sameSide_any {lo lo' : Nat} {a c : Option Addr} {n ca m cc : Nat} {xs ys : List Int} {w : World} (b : Bool) (h : Seg lo w (.slice a n ca) xs) (h' : Seg lo' w (.slice c m cc) ys) (hl : xs.length ≤ 2000) (hl' : ys.length ≤ 2000) :
    Calls Tryz.prog 67 #[.agg #[.bool b, .slice a n ca], .agg #[.bool b, .slice c m cc]] w fun e w' => ∃ (b' : Bool) (a' : Option Addr) (cap' : Nat) (ts : List Int), e = .returned (.agg #[.bool b', .slice a' ts.length cap']) ∧ Seg w.heap.size w' (.slice a' ts.length cap') ts ∧ Canon b' ts ∧ sgn b' (val ts) = sgn b (val xs) + sgn b (val ys) ∧ ts.length ≤ max xs.length ys.length + 1 ∧ Below w.heap.size w w' := by
  obtain ⟨rfl, _⟩ := h.len
  obtain ⟨rfl, _⟩ := h'.len
  obtain ⟨e1, e2, e3, hB0, hz⟩ := three_new w (.cells #[.bool b, .slice a xs.length ca] 28) (.cells #[.bool b, .slice c ys.length cc] 28) (.cells #[.bool false, .slice none 0 0] 28)
  go_enter Tryz.func67, Tryz.ntmps67
  go_wp2_with fail
  obtain ⟨w0, hw0⟩ : ∃ w0, (((w.alloc (.cells #[.bool b, .slice a xs.length ca] 28)).alloc (.cells #[.bool b, .slice c ys.length cc] 28)).alloc (.cells #[.bool false, .slice none 0 0] 28)) = w0 := ⟨_, rfl⟩
  rw [hw0] at e1 e2 e3 hB0 hz ⊢
  have HZ := hide hz
  clear hw0 hz
  have hmu : ∀ W, Below w0.heap.size w0 W → Calls Tryz.prog 87 #[.slice a xs.length ca, .slice c ys.length cc] W fun e w' => ∃ (a' : Option Addr) (cap : Nat) (zs : List Int), e = .returned (.slice a' zs.length cap) ∧ Seg W.heap.size w' (.slice a' zs.length cap) zs ∧ Norm zs ∧ val zs = val xs + val ys ∧ zs.length ≤ max xs.length ys.length + 1 ∧ Below W.heap.size W w' := fun W hW =>
    add_any ((h.below hB0).below hW) ((h'.below hB0).below hW) (by omega) (by omega)
  have hkeep : ∀ W, Below (w.heap.size + 2) w0 W → W.cell? ⟨w.heap.size, 0, none⟩ = some (.bool b) ∧ W.cell? ⟨w.heap.size, 1, none⟩ = some (.slice a xs.length ca) ∧ W.cell? ⟨w.heap.size + 1, 0, none⟩ = some (.bool b) ∧ W.cell? ⟨w.heap.size + 1, 1, none⟩ = some (.slice c ys.length cc) := fun W hW => by
    obtain ⟨p0, p1, _, _⟩ := two_cells e1 hW (by omega)
    obtain ⟨q0, q1, _, _⟩ := two_cells e2 hW (by omega)
    exact ⟨p0, p1, q0, q1⟩
  go_region_held3 (fun W => W.cell? ⟨w.heap.size, 0, none⟩ = some (.bool b) ∧ W.cell? ⟨w.heap.size, 1, none⟩ = some (.slice a xs.length ca) ∧ W.cell? ⟨w.heap.size + 1, 0, none⟩ = some (.bool b) ∧ W.cell? ⟨w.heap.size + 1, 1, none⟩ = some (.slice c ys.length cc))
    (first | exact hkeep _ ⟨rfl, rfl, rfl, Nat.le_refl _, fun _ _ => rfl⟩ | exact hk1.out | exact hk2.out | exact hk3.out)
    (first
    | (go_at_call 87
       refine (hmu _ ?_).mono ?_
       exact ⟨rfl, rfl, rfl, Nat.le_refl _, fun _ _ => rfl⟩
       rintro e w1 ⟨a1, c1, zs, rfl, hs1, hn1, hv1, hl1, hb1⟩
       have hb1' : Below w0.heap.size w0 w1 := ⟨hb1.1, hb1.2, hb1.3, hb1.4, hb1.5⟩
       have hk1 := hide (hkeep w1 (hb1'.mono (by have := HZ.out; omega)))
       have HV1 := hide hv1
       clear hb1 hv1)
    | (go_at_call 65
       refine (swhole_any hs1 hn1 b).mono ?_
       rintro e w2 ⟨b2, rfl, hc2, hv2, hb2⟩
       have hs2 := hs1.below hb2
       have hb2' : Below w0.heap.size w0 w2 := hb1'.trans (hb2.mono hb1'.size)
       obtain ⟨r0, r1, r2, r3⟩ := two_cells e3 hb2' (by have := HZ.out; omega)
       have hT := turns2 (w.heap.size + 2) w2 (.bool b2) (.slice a1 zs.length c1)
       have hk2 := hide (hkeep w2 (hb2'.mono (by have := HZ.out; omega)))
       have hk3 := hide (hkeep _ ((hb2'.mono (by have := HZ.out; omega)).trans hT.below))
       have HV2 := hide hv2
       clear hv2))
  all_goals
    have hS := (hs2.turns_lo hT (by have := HZ.out; show _ < w0.heap.size; omega)).mono hB0.size
    have hbw2 := hB0.trans (hb2'.mono hB0.size)
    have hBB := hbw2.trans (hT.below.mono (by omega))
    go_wp2
    refine bodyPost_ret (v := .agg #[.bool b2, .slice a1 zs.length c1]) (by simp [results, Tryz.f67, go_sem, r0, r1]) rfl ?_
    exact ⟨b2, _, _, zs, rfl, hS, hc2, by rw [HV2.out, HV1.out]; exact sgn_add b _ _, by omega, hBB⟩
set_option maxRecDepth 100000 in
set_option maxHeartbeats 2000000 in
theorem otherSide_ge {lo lo' : Nat} {a c : Option Addr} {n ca m cc : Nat} {xs ys : List Int} {w : World} (b d : Bool) (hne : (b == d) = false) (h : Seg lo w (.slice a n ca) xs) (h' : Seg lo' w (.slice c m cc) ys) (hl : xs.length ≤ 2000) (hl' : ys.length ≤ 2000) (hge : val ys ≤ val xs) :
    Calls Tryz.prog 68 #[.agg #[.bool b, .slice a n ca], .agg #[.bool d, .slice c m cc]] w fun e w' => ∃ (b' : Bool) (a' : Option Addr) (cap' : Nat) (ts : List Int), e = .returned (.agg #[.bool b', .slice a' ts.length cap']) ∧ Seg w.heap.size w' (.slice a' ts.length cap') ts ∧ Canon b' ts ∧ sgn b' (val ts) = sgn b (val xs) + sgn d (val ys) ∧ ts.length ≤ max xs.length ys.length + 1 ∧ Below w.heap.size w w' := by
  obtain ⟨rfl, _⟩ := h.len
  obtain ⟨rfl, _⟩ := h'.len
  obtain ⟨e1, e2, e3, hB0, hz⟩ := three_new w (.cells #[.bool b, .slice a xs.length ca] 28) (.cells #[.bool d, .slice c ys.length cc] 28) (.cells #[.bool false, .slice none 0 0] 28)
  go_enter Tryz.func68, Tryz.ntmps68
  go_wp2_with fail
  obtain ⟨w0, hw0⟩ : ∃ w0, (((w.alloc (.cells #[.bool b, .slice a xs.length ca] 28)).alloc (.cells #[.bool d, .slice c ys.length cc] 28)).alloc (.cells #[.bool false, .slice none 0 0] 28)) = w0 := ⟨_, rfl⟩
  rw [hw0] at e1 e2 e3 hB0 hz ⊢
  have hcmp := cmp_any (h.below hB0) (h'.below hB0) (by omega) (by omega)
  have HZ0 := hide hz
  clear hw0 hz
  refine hcmp.mono ?_
  rintro e wc ⟨rfl, hbc⟩
  replace e1 := (hbc.block _ (by have := HZ0.out; omega)).trans e1
  replace e2 := (hbc.block _ (by have := HZ0.out; omega)).trans e2
  replace e3 := (hbc.block _ (by have := HZ0.out; omega)).trans e3
  have HZ : Hid (w.heap.size + 3 ≤ wc.heap.size) := by have := HZ0.out; have := hbc.size; rw [Hid]; omega
  replace hB0 := hB0.trans (hbc.mono hB0.size)
  clear hbc hcmp HZ0 w0
  have hs0 := h.below hB0
  have hs0' := h'.below hB0
  have hcn : ¬ cmpI (val xs) (val ys) < 0 := by
    unfold cmpI
    rw [if_neg (by omega)]
    split <;> omega
  have hsub := sub_yes hs0 hs0' (by omega) (by omega) hge
  have HG := hide hge
  obtain ⟨p0, p1, _, _⟩ := two_cells e1 (Below.refl wc.heap.size wc) (by have := HZ.out; omega)
  obtain ⟨q0, q1, _, _⟩ := two_cells e2 (Below.refl wc.heap.size wc) (by have := HZ.out; omega)
  clear hge
  go_wp2_with fail
  refine hsub.mono ?_
  rintro e w1 ⟨a1, c1, zs, rfl, hs1, hn1, hv1, hl1, hb1⟩
  obtain ⟨i0, i1, _, _⟩ := two_cells e1 hb1 (by have := HZ.out; omega)
  have HV1 := hide hv1
  clear hv1 hsub hcn
  go_wp2_with fail
  refine (swhole_any hs1 hn1 b).mono ?_
  rintro e w2 ⟨b2, rfl, hc2, hv2, hb2⟩
  have hb2' := hb1.trans (hb2.mono hb1.size)
  obtain ⟨r0, r1, r2, r3⟩ := two_cells e3 hb2' (by have := HZ.out; omega)
  have hT := turns2 (w.heap.size + 2) w2 (.bool b2) (.slice a1 zs.length c1)
  have HV2 := hide hv2
  clear hv2
  have hS := ((hs1.below hb2).turns_lo hT (by have := HZ.out; omega)).mono hB0.size
  have hbw2 := hB0.trans (hb2'.mono hB0.size)
  have hBB := hbw2.trans (hT.below.mono (by omega))
  go_wp2
  refine bodyPost_ret (v := .agg #[.bool b2, .slice a1 zs.length c1]) (by simp [results, Tryz.f68, go_sem, r0, r1]) rfl ?_
  exact ⟨b2, _, _, zs, rfl, hS, hc2, by rw [HV2.out, HV1.out]; exact sgn_diff hne _ _, by omega, hBB⟩
set_option maxRecDepth 100000 in
set_option maxHeartbeats 2000000 in
theorem otherSide_lt {lo lo' : Nat} {a c : Option Addr} {n ca m cc : Nat} {xs ys : List Int} {w : World} (b d : Bool) (hne : (b == d) = false) (h : Seg lo w (.slice a n ca) xs) (h' : Seg lo' w (.slice c m cc) ys) (hl : xs.length ≤ 2000) (hl' : ys.length ≤ 2000) (hlt : val xs < val ys) :
    Calls Tryz.prog 68 #[.agg #[.bool b, .slice a n ca], .agg #[.bool d, .slice c m cc]] w fun e w' => ∃ (b' : Bool) (a' : Option Addr) (cap' : Nat) (ts : List Int), e = .returned (.agg #[.bool b', .slice a' ts.length cap']) ∧ Seg w.heap.size w' (.slice a' ts.length cap') ts ∧ Canon b' ts ∧ sgn b' (val ts) = sgn b (val xs) + sgn d (val ys) ∧ ts.length ≤ max xs.length ys.length + 1 ∧ Below w.heap.size w w' := by
  obtain ⟨rfl, _⟩ := h.len
  obtain ⟨rfl, _⟩ := h'.len
  obtain ⟨e1, e2, e3, hB0, hz⟩ := three_new w (.cells #[.bool b, .slice a xs.length ca] 28) (.cells #[.bool d, .slice c ys.length cc] 28) (.cells #[.bool false, .slice none 0 0] 28)
  go_enter Tryz.func68, Tryz.ntmps68
  go_wp2_with fail
  obtain ⟨w0, hw0⟩ : ∃ w0, (((w.alloc (.cells #[.bool b, .slice a xs.length ca] 28)).alloc (.cells #[.bool d, .slice c ys.length cc] 28)).alloc (.cells #[.bool false, .slice none 0 0] 28)) = w0 := ⟨_, rfl⟩
  rw [hw0] at e1 e2 e3 hB0 hz ⊢
  have hcmp := cmp_any (h.below hB0) (h'.below hB0) (by omega) (by omega)
  have HZ0 := hide hz
  clear hw0 hz
  refine hcmp.mono ?_
  rintro e wc ⟨rfl, hbc⟩
  replace e1 := (hbc.block _ (by have := HZ0.out; omega)).trans e1
  replace e2 := (hbc.block _ (by have := HZ0.out; omega)).trans e2
  replace e3 := (hbc.block _ (by have := HZ0.out; omega)).trans e3
  have HZ : Hid (w.heap.size + 3 ≤ wc.heap.size) := by have := HZ0.out; have := hbc.size; rw [Hid]; omega
  replace hB0 := hB0.trans (hbc.mono hB0.size)
  clear hbc hcmp HZ0 w0
  have hs0 := h.below hB0
  have hs0' := h'.below hB0
  have hcn : cmpI (val xs) (val ys) < 0 := by rw [cmpI_lt hlt]; decide
  obtain ⟨p0, p1, p2, p3⟩ := two_cells e1 (Below.refl wc.heap.size wc) (by have := HZ.out; omega)
  obtain ⟨q0, q1, q2, q3⟩ := two_cells e2 (Below.refl wc.heap.size wc) (by have := HZ.out; omega)
  have hT1 := turns2 w.heap.size wc (.bool d) (.slice c ys.length cc)
  have f1 := turned2 (.bool d) (.slice c ys.length cc) e1
  have f2 := (hT1.other (w.heap.size + 1) (by omega) (by have := HZ.out; omega)).trans e2
  have f3 := (hT1.other (w.heap.size + 2) (by omega) (by have := HZ.out; omega)).trans e3
  have hT2 := turns2 (w.heap.size + 1) ((wc.setCell ⟨w.heap.size, 0, none⟩ (.bool d)).setCell ⟨w.heap.size, 1, none⟩ (.slice c ys.length cc)) (.bool b) (.slice a xs.length ca)
  have g1 := (hT2.other w.heap.size (by omega) (by have := HZ.out; have := hT1.below.size; omega)).trans f1
  have g2 := turned2 (.bool b) (.slice a xs.length ca) f2
  have g3 := (hT2.other (w.heap.size + 2) (by omega) (by have := HZ.out; have := hT1.below.size; omega)).trans f3
  have hB2 := (hB0.trans hT1.below).trans (hT2.below.mono (by omega))
  have hz2 := hide (Nat.le_trans hT1.below.size hT2.below.size)
  clear f1 f2 f3
  go_wp2_with fail
  obtain ⟨w3, hw3⟩ : ∃ w3, ((((wc.setCell ⟨w.heap.size, 0, none⟩ (.bool d)).setCell ⟨w.heap.size, 1, none⟩ (.slice c ys.length cc)).setCell ⟨w.heap.size + 1, 0, none⟩ (.bool b)).setCell ⟨w.heap.size + 1, 1, none⟩ (.slice a xs.length ca)) = w3 := ⟨_, rfl⟩
  rw [hw3] at g1 g2 g3 hB2 hz2 ⊢
  clear hw3 hT1 hT2 hcn p0 p1 p2 p3 q0 q1 q2 q3
  replace HZ : Hid (w.heap.size + 3 ≤ w3.heap.size) := by have := HZ.out; have := hz2.out; rw [Hid]; omega
  clear hz2 hs0 hs0' e1 e2 e3 hB0
  have hB0 := hB2
  clear hB2
  refine (sub_yes (h'.below hB0) (h.below hB0) (by omega) (by omega) (Int.le_of_lt hlt)).mono ?_
  rintro e w1 ⟨a1, c1, zs, rfl, hs1, hn1, hv1, hl1, hb1⟩
  obtain ⟨i0, i1, _, _⟩ := two_cells g1 hb1 (by have := HZ.out; omega)
  have HV1 := hide hv1
  clear hv1 hlt
  go_wp2_with fail
  refine (swhole_any hs1 hn1 d).mono ?_
  rintro e w2 ⟨b2, rfl, hc2, hv2, hb2⟩
  have hb2' := hb1.trans (hb2.mono hb1.size)
  obtain ⟨r0, r1, r2, r3⟩ := two_cells g3 hb2' (by have := HZ.out; omega)
  have hT := turns2 (w.heap.size + 2) w2 (.bool b2) (.slice a1 zs.length c1)
  have HV2 := hide hv2
  clear hv2
  have hS := ((hs1.below hb2).turns_lo hT (by have := HZ.out; omega)).mono hB0.size
  have hbw2 := hB0.trans (hb2'.mono hB0.size)
  have hBB := hbw2.trans (hT.below.mono (by omega))
  go_wp2
  refine bodyPost_ret (v := .agg #[.bool b2, .slice a1 zs.length c1]) (by simp [results, Tryz.f68, go_sem, r0, r1]) rfl ?_
  exact ⟨b2, _, _, zs, rfl, hS, hc2, by rw [HV2.out, HV1.out]; exact (Int.add_comm (sgn d (val ys)) _ ▸ sgn_diff (by rw [Bool.beq_comm]; exact hne) _ _), by omega, hBB⟩
set_option maxRecDepth 100000 in
set_option maxHeartbeats 1000000 in
theorem sides_same (b : Bool) (a c : Option Addr) (n ca m cc : Nat) (w : World) :
    Calls Tryz.prog 69 #[.agg #[.bool b, .slice a n ca], .agg #[.bool b, .slice c m cc]] w fun e w' => e = .returned (.int .i64 0) ∧ Below w.heap.size w w' := by
  obtain ⟨_, _, hB0, _⟩ := two_new w (.cells #[.bool b, .slice a n ca] 28) (.cells #[.bool b, .slice c m cc] 28)
  go_enter Tryz.func69, Tryz.ntmps69
  go_wp2
  go_ret
  exact ⟨rfl, hB0⟩
set_option maxRecDepth 100000 in
set_option maxHeartbeats 1000000 in
theorem sides_other (b d : Bool) (hne : (b == d) = false) (a c : Option Addr) (n ca m cc : Nat) (w : World) :
    Calls Tryz.prog 69 #[.agg #[.bool b, .slice a n ca], .agg #[.bool d, .slice c m cc]] w fun e w' => e = .returned (.int .i64 1) ∧ Below w.heap.size w w' := by
  obtain ⟨_, _, hB0, _⟩ := two_new w (.cells #[.bool b, .slice a n ca] 28) (.cells #[.bool d, .slice c m cc] 28)
  go_enter Tryz.func69, Tryz.ntmps69
  go_wp2
  go_ret
  exact ⟨rfl, hB0⟩
theorem otherSide_any {lo lo' : Nat} {a c : Option Addr} {n ca m cc : Nat} {xs ys : List Int} {w : World} (b d : Bool) (hne : (b == d) = false) (h : Seg lo w (.slice a n ca) xs) (h' : Seg lo' w (.slice c m cc) ys) (hl : xs.length ≤ 2000) (hl' : ys.length ≤ 2000) :
    Calls Tryz.prog 68 #[.agg #[.bool b, .slice a n ca], .agg #[.bool d, .slice c m cc]] w fun e w' => ∃ (b' : Bool) (a' : Option Addr) (cap' : Nat) (ts : List Int), e = .returned (.agg #[.bool b', .slice a' ts.length cap']) ∧ Seg w.heap.size w' (.slice a' ts.length cap') ts ∧ Canon b' ts ∧ sgn b' (val ts) = sgn b (val xs) + sgn d (val ys) ∧ ts.length ≤ max xs.length ys.length + 1 ∧ Below w.heap.size w w' := by
  by_cases hv : val xs < val ys
  · exact otherSide_lt b d hne h h' hl hl' hv
  · exact otherSide_ge b d hne h h' hl hl' (Int.not_lt.1 hv)
theorem four_new (w : World) (A B C D : Obj) : (((((w.alloc A).alloc B).alloc C).alloc D).heap[w.heap.size]? = some A) ∧ (((((w.alloc A).alloc B).alloc C).alloc D).heap[w.heap.size + 1]? = some B) ∧ (((((w.alloc A).alloc B).alloc C).alloc D).heap[w.heap.size + 2]? = some C) ∧ (((((w.alloc A).alloc B).alloc C).alloc D).heap[w.heap.size + 3]? = some D) ∧ Below w.heap.size w ((((w.alloc A).alloc B).alloc C).alloc D) ∧ ((((w.alloc A).alloc B).alloc C).alloc D).heap.size = w.heap.size + 4 := by
  obtain ⟨h1, h2, h3, hb, hz⟩ := three_new w A B C
  have h4 := World.alloc_heap_new (((w.alloc A).alloc B).alloc C) D
  have b4 : Below (((w.alloc A).alloc B).alloc C).heap.size (((w.alloc A).alloc B).alloc C) ((((w.alloc A).alloc B).alloc C).alloc D) := (Below.refl _ _).alloc (Nat.le_refl _) _
  rw [hz] at h4
  exact ⟨(b4.block _ (by omega)).trans h1, (b4.block _ (by omega)).trans h2, (b4.block _ (by omega)).trans h3, h4, hb.trans (b4.mono hb.size), by rw [World.size_alloc, hz]⟩
set_option maxRecDepth 100000 in
set_option maxHeartbeats 2000000 in
theorem sadd_same {lo lo' : Nat} {a c : Option Addr} {n ca m cc : Nat} {xs ys : List Int} {w : World} (b : Bool) (h : Seg lo w (.slice a n ca) xs) (h' : Seg lo' w (.slice c m cc) ys) (hl : xs.length ≤ 2000) (hl' : ys.length ≤ 2000) :
    Calls Tryz.prog 46 #[.agg #[.bool b, .slice a n ca], .agg #[.bool b, .slice c m cc]] w fun e w' => ∃ (b' : Bool) (a' : Option Addr) (cap' : Nat) (ts : List Int), e = .returned (.agg #[.bool b', .slice a' ts.length cap']) ∧ Seg w.heap.size w' (.slice a' ts.length cap') ts ∧ Canon b' ts ∧ sgn b' (val ts) = sgn b (val xs) + sgn b (val ys) ∧ ts.length ≤ max xs.length ys.length + 1 ∧ Below w.heap.size w w' := by
  obtain ⟨rfl, _⟩ := h.len
  obtain ⟨rfl, _⟩ := h'.len
  obtain ⟨e1, e2, e3, e4, hB0, hz⟩ := four_new w (.cells #[.bool b, .slice a xs.length ca] 28) (.cells #[.bool b, .slice c ys.length cc] 28) (.cells #[.bool false, .slice none 0 0] 28) (.cells #[.func (.func 67) #[] #[], .func (.func 68) #[] #[]] 77)
  go_enter Tryz.func46, Tryz.ntmps46
  go_wp2_with fail
  obtain ⟨w0, hw0⟩ : ∃ w0, ((((w.alloc (.cells #[.bool b, .slice a xs.length ca] 28)).alloc (.cells #[.bool b, .slice c ys.length cc] 28)).alloc (.cells #[.bool false, .slice none 0 0] 28)).alloc (.cells #[.func (.func 67) #[] #[], .func (.func 68) #[] #[]] 77)) = w0 := ⟨_, rfl⟩
  rw [hw0] at e1 e2 e3 e4 hB0 hz ⊢
  have HZ := hide hz
  clear hw0 hz
  have hsd : ∀ W : World, Calls Tryz.prog 69 #[.agg #[.bool b, .slice a xs.length ca], .agg #[.bool b, .slice c ys.length cc]] W fun e w' => e = .returned (.int .i64 0) ∧ Below W.heap.size W w' := fun W => sides_same _ _ _ _ _ _ _ W
  have hcl := fun (W : World) (hW : Below w0.heap.size w0 W) => sameSide_any b ((h.below hB0).below hW) ((h'.below hB0).below hW) hl hl'
  have hkeep : ∀ W : World, (∀ k, k ≠ w.heap.size + 2 → k < w.heap.size + 4 → W.heap[k]? = w0.heap[k]?) → W.cell? ⟨w.heap.size, 0, none⟩ = some (.bool b) ∧ W.cell? ⟨w.heap.size, 1, none⟩ = some (.slice a xs.length ca) ∧ W.cell? ⟨w.heap.size + 1, 0, none⟩ = some (.bool b) ∧ W.cell? ⟨w.heap.size + 1, 1, none⟩ = some (.slice c ys.length cc) ∧ W.cell? ⟨w.heap.size + 3, 0, none⟩ = some (.func (.func 67) #[] #[]) ∧ W.cell? ⟨w.heap.size + 3, 1, none⟩ = some (.func (.func 68) #[] #[]) := fun W hW => by
    have g1 := (hW _ (by omega) (by omega)).trans e1
    have g2 := (hW _ (by omega) (by omega)).trans e2
    have g4 := (hW _ (by omega) (by omega)).trans e4
    exact ⟨cell_of_heap g1 0, cell_of_heap g1 1, cell_of_heap g2 0, cell_of_heap g2 1, cell_of_heap g4 0, cell_of_heap g4 1⟩
  go_region_held3 (fun W : World => W.cell? ⟨w.heap.size, 0, none⟩ = some (.bool b) ∧ W.cell? ⟨w.heap.size, 1, none⟩ = some (.slice a xs.length ca) ∧ W.cell? ⟨w.heap.size + 1, 0, none⟩ = some (.bool b) ∧ W.cell? ⟨w.heap.size + 1, 1, none⟩ = some (.slice c ys.length cc) ∧ W.cell? ⟨w.heap.size + 3, 0, none⟩ = some (.func (.func 67) #[] #[]) ∧ W.cell? ⟨w.heap.size + 3, 1, none⟩ = some (.func (.func 68) #[] #[]))
    (first | exact hkeep _ (fun _ _ _ => rfl) | exact hk1.out | exact hk2.out | exact hk3.out)
    (first
    | (go_at_call 69
       refine (hsd _).mono ?_
       rintro e w1 ⟨rfl, hb1⟩
       have hb1' : Below w0.heap.size w0 w1 := ⟨hb1.1, hb1.2, hb1.3, hb1.4, hb1.5⟩
       have hk1 := hide (hkeep w1 (fun k _ hk => hb1'.block k (by have := HZ.out; omega)))
       clear hb1)
    | (go_at_call 67
       refine (hcl _ ?_).mono ?_
       exact ⟨hb1'.1, hb1'.2, hb1'.3, hb1'.4, hb1'.5⟩
       rintro e w2 ⟨b2, a2, c2, ts, rfl, hs2, hc2, hv2, hl2, hb2⟩
       have hb2' : Below w0.heap.size w0 w2 := hb1'.trans (hb2.mono hb1'.size)
       obtain ⟨r0, r1, r2, r3⟩ := two_cells e3 hb2' (by have := HZ.out; omega)
       have hT := turns2 (w.heap.size + 2) w2 (.bool b2) (.slice a2 ts.length c2)
       have hk2 := hide (hkeep w2 (fun k _ hk => hb2'.block k (by have := HZ.out; omega)))
       have hk3 := hide (hkeep _ (fun k hk1 hk => (hT.other k hk1 (by have := HZ.out; have := hb2'.size; omega)).trans (hb2'.block k (by have := HZ.out; omega))))
       have HV2 := hide hv2
       clear hv2))
  all_goals
    have hS := (hs2.turns_lo hT (by have := HZ.out; have := hb1'.size; show _ < w1.heap.size; omega)).mono (show w.heap.size ≤ w1.heap.size from Nat.le_trans hB0.size hb1'.size)
    have hBB := (hB0.trans (hb2'.mono hB0.size)).trans (hT.below.mono (by omega))
    go_wp2
    refine bodyPost_ret (v := .agg #[.bool b2, .slice a2 ts.length c2]) (by simp [results, Tryz.f46, go_sem, r0, r1]) rfl ?_
    exact ⟨b2, _, _, ts, rfl, hS, hc2, HV2.out, hl2, hBB⟩
set_option maxRecDepth 100000 in
set_option maxHeartbeats 2000000 in
theorem sadd_other {lo lo' : Nat} {a c : Option Addr} {n ca m cc : Nat} {xs ys : List Int} {w : World} (b d : Bool) (h : Seg lo w (.slice a n ca) xs) (h' : Seg lo' w (.slice c m cc) ys) (hl : xs.length ≤ 2000) (hl' : ys.length ≤ 2000) (hne : (b == d) = false) :
    Calls Tryz.prog 46 #[.agg #[.bool b, .slice a n ca], .agg #[.bool d, .slice c m cc]] w fun e w' => ∃ (b' : Bool) (a' : Option Addr) (cap' : Nat) (ts : List Int), e = .returned (.agg #[.bool b', .slice a' ts.length cap']) ∧ Seg w.heap.size w' (.slice a' ts.length cap') ts ∧ Canon b' ts ∧ sgn b' (val ts) = sgn b (val xs) + sgn d (val ys) ∧ ts.length ≤ max xs.length ys.length + 1 ∧ Below w.heap.size w w' := by
  obtain ⟨rfl, _⟩ := h.len
  obtain ⟨rfl, _⟩ := h'.len
  obtain ⟨e1, e2, e3, e4, hB0, hz⟩ := four_new w (.cells #[.bool b, .slice a xs.length ca] 28) (.cells #[.bool d, .slice c ys.length cc] 28) (.cells #[.bool false, .slice none 0 0] 28) (.cells #[.func (.func 67) #[] #[], .func (.func 68) #[] #[]] 77)
  go_enter Tryz.func46, Tryz.ntmps46
  go_wp2_with fail
  obtain ⟨w0, hw0⟩ : ∃ w0, ((((w.alloc (.cells #[.bool b, .slice a xs.length ca] 28)).alloc (.cells #[.bool d, .slice c ys.length cc] 28)).alloc (.cells #[.bool false, .slice none 0 0] 28)).alloc (.cells #[.func (.func 67) #[] #[], .func (.func 68) #[] #[]] 77)) = w0 := ⟨_, rfl⟩
  rw [hw0] at e1 e2 e3 e4 hB0 hz ⊢
  have HZ := hide hz
  clear hw0 hz
  have hsd : ∀ W : World, Calls Tryz.prog 69 #[.agg #[.bool b, .slice a xs.length ca], .agg #[.bool d, .slice c ys.length cc]] W fun e w' => e = .returned (.int .i64 1) ∧ Below W.heap.size W w' := fun W => sides_other _ _ hne _ _ _ _ _ _ W
  have hcl := fun (W : World) (hW : Below w0.heap.size w0 W) => otherSide_any b d hne ((h.below hB0).below hW) ((h'.below hB0).below hW) hl hl'
  have hkeep : ∀ W : World, (∀ k, k ≠ w.heap.size + 2 → k < w.heap.size + 4 → W.heap[k]? = w0.heap[k]?) → W.cell? ⟨w.heap.size, 0, none⟩ = some (.bool b) ∧ W.cell? ⟨w.heap.size, 1, none⟩ = some (.slice a xs.length ca) ∧ W.cell? ⟨w.heap.size + 1, 0, none⟩ = some (.bool d) ∧ W.cell? ⟨w.heap.size + 1, 1, none⟩ = some (.slice c ys.length cc) ∧ W.cell? ⟨w.heap.size + 3, 0, none⟩ = some (.func (.func 67) #[] #[]) ∧ W.cell? ⟨w.heap.size + 3, 1, none⟩ = some (.func (.func 68) #[] #[]) := fun W hW => by
    have g1 := (hW _ (by omega) (by omega)).trans e1
    have g2 := (hW _ (by omega) (by omega)).trans e2
    have g4 := (hW _ (by omega) (by omega)).trans e4
    exact ⟨cell_of_heap g1 0, cell_of_heap g1 1, cell_of_heap g2 0, cell_of_heap g2 1, cell_of_heap g4 0, cell_of_heap g4 1⟩
  go_region_held3 (fun W : World => W.cell? ⟨w.heap.size, 0, none⟩ = some (.bool b) ∧ W.cell? ⟨w.heap.size, 1, none⟩ = some (.slice a xs.length ca) ∧ W.cell? ⟨w.heap.size + 1, 0, none⟩ = some (.bool d) ∧ W.cell? ⟨w.heap.size + 1, 1, none⟩ = some (.slice c ys.length cc) ∧ W.cell? ⟨w.heap.size + 3, 0, none⟩ = some (.func (.func 67) #[] #[]) ∧ W.cell? ⟨w.heap.size + 3, 1, none⟩ = some (.func (.func 68) #[] #[]))
    (first | exact hkeep _ (fun _ _ _ => rfl) | exact hk1.out | exact hk2.out | exact hk3.out)
    (first
    | (go_at_call 69
       refine (hsd _).mono ?_
       rintro e w1 ⟨rfl, hb1⟩
       have hb1' : Below w0.heap.size w0 w1 := ⟨hb1.1, hb1.2, hb1.3, hb1.4, hb1.5⟩
       have hk1 := hide (hkeep w1 (fun k _ hk => hb1'.block k (by have := HZ.out; omega)))
       clear hb1)
    | (go_at_call 68
       refine (hcl _ ?_).mono ?_
       exact ⟨hb1'.1, hb1'.2, hb1'.3, hb1'.4, hb1'.5⟩
       rintro e w2 ⟨b2, a2, c2, ts, rfl, hs2, hc2, hv2, hl2, hb2⟩
       have hb2' : Below w0.heap.size w0 w2 := hb1'.trans (hb2.mono hb1'.size)
       obtain ⟨r0, r1, r2, r3⟩ := two_cells e3 hb2' (by have := HZ.out; omega)
       have hT := turns2 (w.heap.size + 2) w2 (.bool b2) (.slice a2 ts.length c2)
       have hk2 := hide (hkeep w2 (fun k _ hk => hb2'.block k (by have := HZ.out; omega)))
       have hk3 := hide (hkeep _ (fun k hk1 hk => (hT.other k hk1 (by have := HZ.out; have := hb2'.size; omega)).trans (hb2'.block k (by have := HZ.out; omega))))
       have HV2 := hide hv2
       clear hv2))
  all_goals
    have hS := (hs2.turns_lo hT (by have := HZ.out; have := hb1'.size; show _ < w1.heap.size; omega)).mono (show w.heap.size ≤ w1.heap.size from Nat.le_trans hB0.size hb1'.size)
    have hBB := (hB0.trans (hb2'.mono hB0.size)).trans (hT.below.mono (by omega))
    go_wp2
    refine bodyPost_ret (v := .agg #[.bool b2, .slice a2 ts.length c2]) (by simp [results, Tryz.f46, go_sem, r0, r1]) rfl ?_
    exact ⟨b2, _, _, ts, rfl, hS, hc2, HV2.out, hl2, hBB⟩
theorem sadd_any {lo lo' : Nat} {a c : Option Addr} {n ca m cc : Nat} {xs ys : List Int} {w : World} (b d : Bool) (h : Seg lo w (.slice a n ca) xs) (h' : Seg lo' w (.slice c m cc) ys) (hl : xs.length ≤ 2000) (hl' : ys.length ≤ 2000) :
    Calls Tryz.prog 46 #[.agg #[.bool b, .slice a n ca], .agg #[.bool d, .slice c m cc]] w fun e w' => ∃ (b' : Bool) (a' : Option Addr) (cap' : Nat) (ts : List Int), e = .returned (.agg #[.bool b', .slice a' ts.length cap']) ∧ Seg w.heap.size w' (.slice a' ts.length cap') ts ∧ Canon b' ts ∧ sgn b' (val ts) = sgn b (val xs) + sgn d (val ys) ∧ ts.length ≤ max xs.length ys.length + 1 ∧ Below w.heap.size w w' := by
  by_cases hbd : b = d
  · subst hbd
    exact sadd_same b h h' hl hl'
  · exact sadd_other b d h h' hl hl' (beq_eq_false_iff_ne.2 hbd)
theorem blen_ne {v : Int} (h : 0 < v) : ((blen v : Int) == 0) = false := by
  have := blen_pos h
  exact beq_eq_false_iff_ne.2 (by omega)
end Go.Proofs.YtegopbhidgbjpaaGreat
namespace Go.Proofs.YtegopbhidgbjpaaGreat
open Go.RowKit
structure Fr (lo : Nat) (W : World) (a : Option Addr) (ca : Nat) (xs : List Int) (c : Option Addr) (cc : Nat) (ds : List Int) : Prop where
  up : Seg lo W (.slice a xs.length ca) xs
  down : Seg lo W (.slice c ds.length cc) ds
theorem Fr.below {lo : Nat} {W W' : World} {a c : Option Addr} {ca cc : Nat} {xs ds : List Int} (h : Fr lo W a ca xs c cc ds) (hb : Below W.heap.size W W') : Fr lo W' a ca xs c cc ds := ⟨h.up.below hb, h.down.below hb⟩
theorem Fr.mono {lo lo' : Nat} {W : World} {a c : Option Addr} {ca cc : Nat} {xs ds : List Int} (h : Fr lo W a ca xs c cc ds) (hl : lo' ≤ lo) : Fr lo' W a ca xs c cc ds := ⟨h.up.mono hl, h.down.mono hl⟩
theorem Fr.drew {lo : Nat} {W : World} {a c : Option Addr} {ca cc : Nat} {xs ds : List Int} (h : Fr lo W a ca xs c cc ds) : Fr lo W.drew a ca xs c cc ds := ⟨h.up.drew, h.down.drew⟩
structure Is (b : Bool) (xs ds : List Int) (q : Rat) (n : Nat) : Prop where
  low : LowL b xs ds
  rat : ratL b xs ds = q
  lu : xs.length ≤ n
  ld : ds.length ≤ n
theorem Is.mono {b : Bool} {xs ds : List Int} {q : Rat} {n m : Nat} (h : Is b xs ds q n) (hm : n ≤ m) : Is b xs ds q m := ⟨h.low, h.rat, Nat.le_trans h.lu hm, Nat.le_trans h.ld hm⟩
theorem Is.to {b : Bool} {xs ds : List Int} {q r : Rat} {n : Nat} (h : Is b xs ds q n) (e : q = r) : Is b xs ds r n := e ▸ h
theorem gcdI_posR {a b : Int} (hb : 0 < b) : 0 < gcdI a b := by
  unfold gcdI
  have : 0 < Nat.gcd a.toNat b.toNat := Nat.gcd_pos_of_pos_right _ (by omega)
  omega
theorem formOf_norm {zs : List Int} : formOf zs = 0 ↔ Norm zs := by
  unfold formOf Norm
  split
  · rename_i h; simp [h]
  · rename_i h; simp [h]
theorem formI_canon {b : Bool} {zs : List Int} : formI b zs = 0 ↔ Canon b zs := by
  unfold formI Canon
  by_cases hn : Norm zs
  · rw [formOf_norm.2 hn]
    cases b
    · simp [hn]
    · by_cases hz : zs = []
      · subst hz; simp
      · simp [hn, hz]
  · have : formOf zs ≠ 0 := fun h => hn (formOf_norm.1 h)
    simp [this, hn]
def formR (b : Bool) (xs ds : List Int) : Int := if formI b xs = 0 ∧ formOf ds = 0 ∧ ds ≠ [] ∧ gcdI (val xs) (val ds) = 1 then 0 else 6
theorem formR_low {b : Bool} {xs ds : List Int} (hx : Words xs) (hd : Words ds) : formR b xs ds = 0 ↔ LowL b xs ds := by
  unfold formR LowL Low
  rw [sgn_gcd]
  have hgc := gcdI_gcd (val_nonneg hx) (val_nonneg hd)
  constructor
  · intro h
    split at h
    · rename_i g
      have g2 := formOf_norm.1 g.2.1
      exact ⟨formI_canon.1 g.1, g2, norm_pos hd g2 g.2.2.1, by have := g.2.2.2; omega⟩
    · exact absurd h (by decide)
  · rintro ⟨h1, h2, h3, h4⟩
    rw [if_pos]
    refine ⟨formI_canon.2 h1, formOf_norm.2 h2, ?_, by omega⟩
    rintro rfl
    rw [val_nil] at h3
    omega
theorem formR_or (b : Bool) (xs ds : List Int) : formR b xs ds = 0 ∨ formR b xs ds = 6 := by unfold formR; split <;> simp
set_option maxRecDepth 100000 in
set_option maxHeartbeats 1000000 in
theorem share_any {lo lo' : Nat} {a b : Option Addr} {la lb ca cb : Nat} {xs ys : List Int} {w : World} (ha : Seg lo w (.slice a la ca) xs) (hb : Seg lo' w (.slice b lb cb) ys) (hla : xs.length ≤ 1000) (hlb : ys.length ≤ 1000) :
    Calls Tryz.prog 45 #[.slice a la ca, .slice b lb cb] w fun e w' => ∃ (a1 : Option Addr) (c1 : Nat) (qs : List Int), e = .returned (.slice a1 qs.length c1) ∧ Seg w.heap.size w' (.slice a1 qs.length c1) qs ∧ Norm qs ∧ Hid (val qs = val xs / val ys) ∧ qs.length ≤ xs.length ∧ Below w.heap.size w w' := by
  have hd := qdiv_all ha hb hla hlb
  have hx0 := val_nonneg ha.words
  have hlt := val_lt ha.words
  generalize errZ (val ys) = er at *
  go_enter Tryz.func45, Tryz.ntmps45
  go_wp2_with fail
  refine hd.mono ?_
  rintro e w1 ⟨a1, a2, c1, c2, qs, rs, rfl, hq, hr, nq, nr, vq, vr, hap, hb1⟩
  have hl : qs.length ≤ xs.length := by
    refine len_below hq.words nq ?_
    rw [vq]
    exact Int.lt_of_le_of_lt (Int.ediv_le_self _ hx0) hlt
  have HV := hide vq
  clear vq vr hap hd
  go_wp2
  go_ret
  exact ⟨_, _, qs, rfl, hq, nq, HV, hl, hb1⟩
set_option maxRecDepth 100000 in
set_option maxHeartbeats 1000000 in
theorem lowest_any {lo lo' : Nat} {a b : Option Addr} {la lb ca cb : Nat} {xs ys : List Int} {w : World} (ha : Seg lo w (.slice a la ca) xs) (hb : Seg lo' w (.slice b lb cb) ys) (hla : xs.length ≤ 1000) (hlb : ys.length ≤ 1000) (hy : 0 < val ys) :
    Calls Tryz.prog 55 #[.slice a la ca, .slice b lb cb] w fun e w' => ∃ (a1 a2 : Option Addr) (c1 c2 : Nat) (qs rs : List Int), e = .returned (.tuple #[.slice a1 qs.length c1, .slice a2 rs.length c2]) ∧ Fr w.heap.size w' a1 c1 qs a2 c2 rs ∧ Norm qs ∧ Norm rs ∧ Hid (val qs = val xs / gcdI (val xs) (val ys)) ∧ Hid (val rs = val ys / gcdI (val xs) (val ys)) ∧ qs.length ≤ xs.length ∧ rs.length ≤ ys.length ∧ Apart a1 a2 qs rs ∧ Below w.heap.size w w' := by
  have hg := qgcd_any ha hb hla hlb
  have hx0 := val_nonneg ha.words
  have hgl : gcdI (val xs) (val ys) ≤ val ys := by
    rw [gcdI_gcd hx0 (by omega)]
    exact Int.le_of_dvd hy (Int.gcd_dvd_right ..)
  have hlt := val_lt hb.words
  go_enter Tryz.func55, Tryz.ntmps55
  go_wp2_with fail
  refine hg.mono ?_
  rintro e w1 ⟨a1, c1, gs, rfl, hs1, nq1, vq1, hb1⟩
  have hl1 : gs.length ≤ ys.length := by
    refine len_below hs1.words nq1 ?_
    rw [vq1]
    omega
  have HG := hide vq1
  clear vq1 hg
  go_wp2_with fail
  refine (share_any (ha.below hb1) hs1 hla (by omega)).mono ?_
  rintro e w2 ⟨a2, c2, qs, rfl, hs2, nq2, HV2, hl2, hb2⟩
  have hb12 := hb1.trans (hb2.mono hb1.size)
  go_wp2_with fail
  refine (share_any (hb.below hb12) (hs1.below hb2) hlb (by omega)).mono ?_
  rintro e w3 ⟨a3, c3, rs, rfl, hs3, nq3, HV3, hl3, hb3⟩
  have hb13 := hb12.trans (hb3.mono hb12.size)
  have HAP := hide (apart_of (fun h b o e => hs2.block h b o e) hs3 (Nat.le_refl _) : Apart a2 a3 qs rs)
  go_wp2
  go_ret2
  exact ⟨_, _, _, _, qs, rs, rfl, ⟨(hs2.mono hb1.size).below hb3, hs3.mono hb12.size⟩, nq2, nq3, by rw [Hid, HV2.out, HG.out], by rw [Hid, HV3.out, HG.out], hl2, hl3, HAP.out, hb13⟩
set_option maxRecDepth 100000 in
set_option maxHeartbeats 1000000 in
theorem isOne_any {lo : Nat} {a : Option Addr} {la ca : Nat} {xs : List Int} {w : World} (ha : Seg lo w (.slice a la ca) xs) (hla : xs.length ≤ 1000) :
    Calls Tryz.prog 33 #[.slice a la ca] w fun e w' => e = .returned (.bool (val xs == 1)) ∧ Below w.heap.size w w' := by
  by_cases h : val xs < 18446744073709551616
  · have ho := one_yes ha (by omega) h
    generalize val xs = x at *
    go_enter Tryz.func33, Tryz.ntmps33
    go_wp2_with fail
    refine ho.mono ?_
    rintro e w1 ⟨rfl, hb1⟩
    clear ho
    go_wp2
    go_ret
    exact ⟨rfl, hb1⟩
  · have ho := one_no ha (by omega) (by omega)
    have HF : Hid ((val xs == 1) = false) := beq_eq_false_iff_ne.2 (by omega)
    clear h
    go_enter Tryz.func33, Tryz.ntmps33
    go_wp2_with fail
    refine ho.mono ?_
    rintro e w1 ⟨rfl, hb1⟩
    clear ho
    go_wp2
    go_ret
    rw [HF.out]
    exact ⟨rfl, hb1⟩
set_option maxRecDepth 100000 in
set_option maxHeartbeats 1000000 in
theorem pcheck_any {lo : Nat} {a c : Option Addr} {ca cc : Nat} {xs ds : List Int} {w : World} (b : Bool) (h : Fr lo w a ca xs c cc ds) (hl : xs.length ≤ 1000) (hl' : ds.length ≤ 1000) :
    Calls Tryz.prog 12 #[.agg #[.bool b, .slice a xs.length ca, .slice c ds.length cc]] w fun e w' => e = .returned (.int .i64 (formR b xs ds)) ∧ Below w.heap.size w w' := by
  have hB0 : Below w.heap.size w (w.alloc (.cells #[.bool b, .slice a xs.length ca, .slice c ds.length cc] 30)) := (Below.refl _ w).alloc (Nat.le_refl _) _
  have E := Box.new w (.cells #[.bool b, .slice a xs.length ca, .slice c ds.length cc] 30)
  have hck := scheck_any b (h.up.below hB0) (by omega)
  obtain ⟨f, hf⟩ : ∃ f, formI b xs = f := ⟨_, rfl⟩
  have HR : Hid (formR b xs ds = if f = 0 ∧ formOf ds = 0 ∧ ds ≠ [] ∧ gcdI (val xs) (val ds) = 1 then 0 else 6) := by rw [Hid, ← hf]; rfl
  rw [hf] at hck
  clear hf
  go_enter Tryz.func12, Tryz.ntmps12
  go_wp2_with fail
  refine hck.mono ?_
  rintro e w1 ⟨rfl, hb1⟩
  have E1 := E.below hb1
  have hB1 := hB0.trans (hb1.mono hB0.size)
  obtain ⟨k0, k1, k2, _⟩ := E1.three
  clear hck
  by_cases h0 : f = 0
  · subst h0
    have hc := check_any (h.down.below hB1) (by omega)
    obtain ⟨g, hg⟩ : ∃ g, formOf ds = g := ⟨_, rfl⟩
    rw [hg] at hc
    have HG := hide hg
    clear hg
    go_wp2_with fail
    refine hc.mono ?_
    rintro e w2 ⟨rfl, hb2⟩
    have E2 := E1.below hb2
    have hB2 := hB1.trans (hb2.mono hB1.size)
    clear hc k0 k1 k2
    obtain ⟨k0, k1, k2, _⟩ := E2.three
    by_cases h1 : g = 0
    · subst h1
      by_cases h2 : ds = []
      · subst h2
        go_wp2
        go_ret
        exact ⟨ret_int (by rw [HR.out, if_neg (by simp)]), hB2⟩
      · have hz : ((ds.length : Int) == 0) = false := beq_eq_false_iff_ne.2 (by have := List.length_pos_iff.2 h2; omega)
        have hgc := qgcd_any (h.up.below hB2) (h.down.below hB2) hl hl'
        have hlt := val_lt h.down.words
        have hp : 0 < val ds := norm_pos h.down.words (formOf_norm.1 HG.out) h2
        have hgl : gcdI (val xs) (val ds) ≤ val ds := by
          rw [gcdI_gcd (val_nonneg h.up.words) (by omega)]
          exact Int.le_of_dvd hp (Int.gcd_dvd_right ..)
        have H2 := hide h2
        clear h2 hp
        go_wp2_with fail
        refine hgc.mono ?_
        rintro e w3 ⟨a3, c3, gs, rfl, hs3, n3, v3, hb3⟩
        have hl3 : gs.length ≤ ds.length := by
          refine len_below hs3.words n3 ?_
          rw [v3]
          omega
        have hio := isOne_any hs3 (by omega)
        have hB3 := hB2.trans (hb3.mono hB2.size)
        have V3 := hide v3
        clear hgc v3 k0 k1 k2 hlt hgl
        obtain ⟨x, hx⟩ : ∃ x, (val gs == 1) = x := ⟨_, rfl⟩
        rw [hx] at hio
        have HX := hide hx
        clear hx
        go_wp2_with fail
        refine hio.mono ?_
        rintro e w4 ⟨rfl, hb4⟩
        have hB4 := hB3.trans (hb4.mono hB3.size)
        clear hio
        cases x with
        | true =>
          go_wp2
          go_ret
          refine ⟨ret_int ?_, hB4⟩
          have := HX.out
          rw [V3.out] at this
          rw [HR.out, if_pos ⟨by simp, HG.out, H2.out, by simpa using this⟩]
        | false =>
          go_wp2
          go_ret
          refine ⟨ret_int ?_, hB4⟩
          have := HX.out
          rw [V3.out] at this
          rw [HR.out, if_neg]
          rintro ⟨_, _, _, h4⟩
          rw [h4] at this
          exact absurd this (by decide)
    · have hne : (g != 0) = true := bne_iff_ne.2 h1
      have H1 := hide h1
      clear h1
      go_wp2
      go_ret
      exact ⟨ret_int (by rw [HR.out, if_neg (by rw [HG.out]; rintro ⟨_, q, _⟩; exact H1.out q)]), hB2⟩
  · have hne : (f != 0) = true := bne_iff_ne.2 h0
    have H0 := hide h0
    clear h0
    go_wp2
    go_ret
    exact ⟨ret_int (by rw [HR.out, if_neg (by rintro ⟨q, _⟩; exact H0.out q)]), hB1⟩
set_option maxRecDepth 100000 in
set_option maxHeartbeats 1000000 in
theorem stretch_any {lo lo' : Nat} {a c : Option Addr} {ca cc : Nat} {xs ys : List Int} {w : World} (b : Bool) (h : Seg lo w (.slice a xs.length ca) xs) (h' : Seg lo' w (.slice c ys.length cc) ys) (hl : xs.length ≤ 2000) (hl' : ys.length ≤ 2000) :
    Calls Tryz.prog 47 #[.agg #[.bool b, .slice a xs.length ca], .slice c ys.length cc] w fun e w' => ∃ (b' : Bool) (a' : Option Addr) (cap' : Nat) (ts : List Int), e = .returned (.agg #[.bool b', .slice a' ts.length cap']) ∧ Seg w.heap.size w' (.slice a' ts.length cap') ts ∧ Canon b' ts ∧ Hid (sgn b' (val ts) = sgn b (val xs) * val ys) ∧ ts.length ≤ xs.length + ys.length ∧ Below w.heap.size w w' := by
  obtain ⟨e1, e2, hB0, hz⟩ := two_new w (.cells #[.bool b, .slice a xs.length ca] 28) (.cells #[.bool false, .slice none 0 0] 28)
  have HZ := hide hz
  have hm := smul_any b false (h.below hB0) (h'.below hB0) hl hl'
  clear hz
  go_enter Tryz.func47, Tryz.ntmps47
  go_wp2_with fail
  refine hm.mono ?_
  rintro e w1 ⟨b1, a1, c1, ts, rfl, hs1, hc1, hv1, hl1, hb1⟩
  obtain ⟨r0, r1, r2, r3⟩ := two_cells e2 hb1 (by have := HZ.out; omega)
  have hT := turns2 (w.heap.size + 1) w1 (.bool b1) (.slice a1 ts.length c1)
  have HV := hide hv1
  clear hv1 hm
  have hS := (hs1.turns_lo hT (by have := HZ.out; omega)).mono hB0.size
  have hBB := (hB0.trans (hb1.mono hB0.size)).trans (hT.below.mono (by omega))
  go_wp2
  refine bodyPost_ret (v := .agg #[.bool b1, .slice a1 ts.length c1]) (by simp [results, Tryz.f47, go_sem, r0, r1]) rfl ?_
  exact ⟨b1, _, _, ts, rfl, hS, hc1, by rw [Hid, HV.out]; rfl, hl1, hBB⟩
theorem is_small (xs ds : List Int) (n : Int) (hx : Norm xs) (hd : Norm ds) (h1 : val xs = n) (h2 : val ds = 1) (lx : xs.length ≤ 1) (ld : ds.length ≤ 1) : Is false xs ds (n : Rat) 1 := by
  refine ⟨⟨⟨hx, fun h => by cases h⟩, hd, ?_⟩, ?_, lx, ld⟩
  · rw [h1, h2]; exact ⟨by decide, by simp⟩
  · rw [ratL, h1, h2]; exact Rat.num_divInt_den (n : Rat)
set_option maxRecDepth 100000 in
set_option maxHeartbeats 1000000 in
theorem small_any (x : Int) (hx : 0 ≤ x ∧ x < 18446744073709551616) (w : World) :
    Calls Tryz.prog 23 #[.int .u64 x] w fun e w' => ∃ (b' : Bool) (a' : Option Addr) (ca' : Nat) (ts' : List Int) (c' : Option Addr) (cc' : Nat) (es' : List Int), e = .returned (.agg #[.bool b', .slice a' ts'.length ca', .slice c' es'.length cc']) ∧ Fr w.heap.size w' a' ca' ts' c' cc' es' ∧ Apart a' c' ts' es' ∧ Is b' ts' es' ((x : Rat)) (1) ∧ Below w.heap.size w w' := by
  have hB0 : Below w.heap.size w (w.alloc (.cells #[.bool false, .slice none 0 0, .slice none 0 0] 30)) := (Below.refl _ w).alloc (Nat.le_refl _) _
  have E := Box.new w (.cells #[.bool false, .slice none 0 0, .slice none 0 0] 30)
  have HZ : Hid ((w.alloc (.cells #[.bool false, .slice none 0 0, .slice none 0 0] 30)).heap.size = w.heap.size + 1) := by rw [Hid]; simp
  go_enter Tryz.func23, Tryz.ntmps23
  go_wp2_with fail
  refine (of_any x hx _).mono ?_
  rintro e w1 ⟨a1, c1, xs, rfl, hs1, hn1, hv1, hl1, hb1⟩
  have hBA : Below w.heap.size w w1 := hB0.trans (hb1.mono hB0.size)
  have HV1 := hide hv1
  clear hv1
  go_wp2_with fail
  refine (of_any 1 (by decide) _).mono ?_
  rintro e w2 ⟨a2, c2, ds, rfl, hs2, hn2, hv2, hl2, hb2⟩
  have HV2 := hide hv2
  clear hv2
  have E2 := (E.below hb1).below hb2
  have hB2 := hBA.trans (hb2.mono hBA.size)
  obtain ⟨r0, r1, r2, r3, r4, r5⟩ := E2.three
  have HAP := hide (apart_of (fun h b o e => hs1.block h b o e) hs2 (Nat.le_refl _) : Apart a1 a2 xs ds)
  have hT := turns3 w.heap.size w2 (.bool false) (.slice a1 xs.length c1) (.slice a2 ds.length c2)
  have hS1 := ((hs1.below hb2).turns_lo hT (by have := HZ.out; omega)).mono hB0.size
  have hS2 := (hs2.turns_lo hT (by have := HZ.out; have := hb1.size; omega)).mono hBA.size
  have hBB := hB2.trans hT.below
  have HI := is_small xs ds x hn1 hn2 HV1.out HV2.out (by omega) (by omega)
  go_wp2
  refine bodyPost_ret (v := .agg #[.bool false, .slice a1 xs.length c1, .slice a2 ds.length c2]) (by simp [results, Tryz.f23, go_sem, r0, r1, r2]) rfl ?_
  exact ⟨false, _, _, xs, _, _, ds, rfl, ⟨hS1, hS2⟩, HAP.out, HI, hBB⟩
def Yield.nat (lo : Nat) (x : Int) (n : Nat) : Yield := .rel (fun v W => ∃ (a : Option Addr) (c : Nat) (z : List Int), v = .slice a z.length c ∧ Seg lo W (.slice a z.length c) z ∧ Norm z ∧ Hid (val z = x) ∧ z.length ≤ n)
  (fun _ _ _ hb ⟨a, c, z, e, s, r⟩ => ⟨a, c, z, e, s.below hb, r⟩)
def Yield.natIn (f : Value → Value) (lo : Nat) (x : Int) (n : Nat) : Yield := .rel (fun v W => ∃ (a : Option Addr) (c : Nat) (z : List Int), v = f (.slice a z.length c) ∧ Seg lo W (.slice a z.length c) z ∧ Norm z ∧ Hid (val z = x) ∧ z.length ≤ n)
  (fun _ _ _ hb ⟨a, c, z, e, s, r⟩ => ⟨a, c, z, e, s.below hb, r⟩)
def Yield.int (lo : Nat) (x : Int) (n : Nat) : Yield := .rel (fun v W => ∃ (g : Bool) (a : Option Addr) (c : Nat) (z : List Int), v = .agg #[.bool g, .slice a z.length c] ∧ Seg lo W (.slice a z.length c) z ∧ Canon g z ∧ Hid (sgn g (val z) = x) ∧ z.length ≤ n)
  (fun _ _ _ hb ⟨g, a, c, z, e, s, r⟩ => ⟨g, a, c, z, e, s.below hb, r⟩)
def Yield.intIn (f : Bool → Value → Value) (lo : Nat) (x : Int) (n : Nat) : Yield := .rel (fun v W => ∃ (g : Bool) (a : Option Addr) (c : Nat) (z : List Int), v = f g (.slice a z.length c) ∧ Seg lo W (.slice a z.length c) z ∧ Canon g z ∧ Hid (sgn g (val z) = x) ∧ z.length ≤ n)
  (fun _ _ _ hb ⟨g, a, c, z, e, s, r⟩ => ⟨g, a, c, z, e, s.below hb, r⟩)
def Yield.frac (lo : Nat) (q : Rat) (n : Nat) : Yield := .rel (fun v W => ∃ (b : Bool) (a : Option Addr) (ca : Nat) (xs : List Int) (c : Option Addr) (cc : Nat) (ds : List Int), v = .agg #[.bool b, .slice a xs.length ca, .slice c ds.length cc] ∧ Fr lo W a ca xs c cc ds ∧ Apart a c xs ds ∧ Is b xs ds q n)
  (fun _ _ _ hb ⟨b, a, ca, xs, c, cc, ds, e, s, r⟩ => ⟨b, a, ca, xs, c, cc, ds, e, s.below hb, r⟩)
def Yield.fracE (lo : Nat) (q : Rat) (n : Nat) : Yield := .rel (fun v W => ∃ (b : Bool) (a : Option Addr) (ca : Nat) (xs : List Int) (c : Option Addr) (cc : Nat) (ds : List Int), v = .tuple #[.agg #[.bool b, .slice a xs.length ca, .slice c ds.length cc], .int .i64 0] ∧ Fr lo W a ca xs c cc ds ∧ Apart a c xs ds ∧ Is b xs ds q n)
  (fun _ _ _ hb ⟨b, a, ca, xs, c, cc, ds, e, s, r⟩ => ⟨b, a, ca, xs, c, cc, ds, e, s.below hb, r⟩)
def Yield.copyw (lo : Nat) (b : Bool) (zs : List Int) : Yield := .rel (fun v W => ∃ (a : Option Addr) (c : Nat), v = .agg #[.bool b, .slice a zs.length c] ∧ Seg lo W (.slice a zs.length c) zs)
  (fun _ _ _ hb ⟨a, c, e, s⟩ => ⟨a, c, e, s.below hb⟩)
def Yield.copyn (lo : Nat) (zs : List Int) : Yield := .rel (fun v W => ∃ (a : Option Addr) (c : Nat), v = .slice a zs.length c ∧ Seg lo W (.slice a zs.length c) zs)
  (fun _ _ _ hb ⟨a, c, e, s⟩ => ⟨a, c, e, s.below hb⟩)
theorem Yield.nat_elim {lo : Nat} {x : Int} {n : Nat} {v : Value} {W : World} (P : Prop) (h : (Yield.nat lo x n).At v W) (k : ∀ (a : Option Addr) (c : Nat) (z : List Int), v = .slice a z.length c → Seg lo W (.slice a z.length c) z → Norm z → Hid (val z = x) → z.length ≤ n → P) : P := by
  obtain ⟨a, c, z, h1, h2, h3, h4, h5⟩ := h; exact k a c z h1 h2 h3 h4 h5
theorem Yield.natIn_elim {f : Value → Value} {lo : Nat} {x : Int} {n : Nat} {v : Value} {W : World} (P : Prop) (h : (Yield.natIn f lo x n).At v W) (k : ∀ (a : Option Addr) (c : Nat) (z : List Int), v = f (.slice a z.length c) → Seg lo W (.slice a z.length c) z → Norm z → Hid (val z = x) → z.length ≤ n → P) : P := by
  obtain ⟨a, c, z, h1, h2, h3, h4, h5⟩ := h; exact k a c z h1 h2 h3 h4 h5
theorem Yield.int_elim {lo : Nat} {x : Int} {n : Nat} {v : Value} {W : World} (P : Prop) (h : (Yield.int lo x n).At v W) (k : ∀ (g : Bool) (a : Option Addr) (c : Nat) (z : List Int), v = .agg #[.bool g, .slice a z.length c] → Seg lo W (.slice a z.length c) z → Canon g z → Hid (sgn g (val z) = x) → z.length ≤ n → P) : P := by
  obtain ⟨g, a, c, z, h1, h2, h3, h4, h5⟩ := h; exact k g a c z h1 h2 h3 h4 h5
theorem Yield.frac_elim {lo : Nat} {q : Rat} {n : Nat} {v : Value} {W : World} (P : Prop) (h : (Yield.frac lo q n).At v W) (k : ∀ (b : Bool) (a : Option Addr) (ca : Nat) (xs : List Int) (c : Option Addr) (cc : Nat) (ds : List Int), v = .agg #[.bool b, .slice a xs.length ca, .slice c ds.length cc] → Fr lo W a ca xs c cc ds → Apart a c xs ds → Is b xs ds q n → P) : P := by
  obtain ⟨b, a, ca, xs, c, cc, ds, h1, h2, h3, h4⟩ := h; exact k b a ca xs c cc ds h1 h2 h3 h4
theorem Yield.fracE_elim {lo : Nat} {q : Rat} {n : Nat} {v : Value} {W : World} (P : Prop) (h : (Yield.fracE lo q n).At v W) (k : ∀ (b : Bool) (a : Option Addr) (ca : Nat) (xs : List Int) (c : Option Addr) (cc : Nat) (ds : List Int), v = .tuple #[.agg #[.bool b, .slice a xs.length ca, .slice c ds.length cc], .int .i64 0] → Fr lo W a ca xs c cc ds → Apart a c xs ds → Is b xs ds q n → P) : P := by
  obtain ⟨b, a, ca, xs, c, cc, ds, h1, h2, h3, h4⟩ := h; exact k b a ca xs c cc ds h1 h2 h3 h4
theorem Yield.copyw_elim {lo : Nat} {b : Bool} {zs : List Int} {v : Value} {W : World} (P : Prop) (h : (Yield.copyw lo b zs).At v W) (k : ∀ (a : Option Addr) (c : Nat), v = .agg #[.bool b, .slice a zs.length c] → Seg lo W (.slice a zs.length c) zs → P) : P := by
  obtain ⟨a, c, h1, h2⟩ := h; exact k a c h1 h2
theorem Yield.copyn_elim {lo : Nat} {zs : List Int} {v : Value} {W : World} (P : Prop) (h : (Yield.copyn lo zs).At v W) (k : ∀ (a : Option Addr) (c : Nat), v = .slice a zs.length c → Seg lo W (.slice a zs.length c) zs → P) : P := by
  obtain ⟨a, c, h1, h2⟩ := h; exact k a c h1 h2
def NoWord (cs : Array Value) : Prop := ∀ (i : Nat) (x : Int), cs[i]? ≠ some (.int .u64 x)
theorem Seg.offU {lo : Nat} {W : World} {a : Option Addr} {n cap k : Nat} {zs : List Int} {cs : Array Value} {t : TypeId} (h : Seg lo W (.slice a n cap) zs) (hk : Box W k (.cells cs t (0, 0))) (hs : NoWord cs) (hz : zs ≠ []) : ∀ g o, a = some ⟨g, o, none⟩ → g ≠ k := by
  rintro g o rfl rfl
  obtain ⟨hn, _⟩ := h.len
  subst hn
  have hc := (h.cell (j := 0) (List.length_pos_iff.2 hz)).1
  rw [cell_of_heap hk.what (o + 0)] at hc
  exact hs _ _ hc
theorem Seg.beside {lo : Nat} {W W' : World} {a : Option Addr} {n cap k : Nat} {zs : List Int} {cs : Array Value} {t : TypeId} (h : Seg lo W (.slice a n cap) zs) (hk : Box W k (.cells cs t (0, 0))) (hs : NoWord cs) (ht : Turns k W W') : Seg lo W' (.slice a n cap) zs := by
  by_cases hz : zs = []
  · obtain ⟨hn, hc⟩ := h.len
    subst hz hn
    exact Seg.empty _ _ _ _
  · obtain ⟨g, o, rfl, _, _⟩ := h.row (by rw [h.len.1]; exact List.length_pos_iff.2 hz)
    exact h.turns ht (h.offU hk hs hz g o rfl)
theorem Fr.beside {lo : Nat} {W W' : World} {a c : Option Addr} {ca cc k : Nat} {xs ds : List Int} {cs : Array Value} {t : TypeId} (h : Fr lo W a ca xs c cc ds) (hk : Box W k (.cells cs t (0, 0))) (hs : NoWord cs) (ht : Turns k W W') : Fr lo W' a ca xs c cc ds := ⟨h.up.beside hk hs ht, h.down.beside hk hs ht⟩
theorem noWord1 {u : Value} (hu : ∀ x, u ≠ .int .u64 x) : NoWord #[u] := fun i x e => by
  match i with
  | 0 => simp at e; exact hu _ e
  | i + 1 => simp at e
theorem noWord2 {u v : Value} (hu : ∀ x, u ≠ .int .u64 x) (hv : ∀ x, v ≠ .int .u64 x) : NoWord #[u, v] := fun i x e => by
  match i with
  | 0 => simp at e; exact hu _ e
  | 1 => simp at e; exact hv _ e
  | i + 2 => simp at e
theorem noWord3 {u v t : Value} (hu : ∀ x, u ≠ .int .u64 x) (hv : ∀ x, v ≠ .int .u64 x) (ht : ∀ x, t ≠ .int .u64 x) : NoWord #[u, v, t] := fun i x e => by
  match i with
  | 0 => simp at e; exact hu _ e
  | 1 => simp at e; exact hv _ e
  | 2 => simp at e; exact ht _ e
  | i + 3 => simp at e
theorem turns1 (g : Nat) (W : World) (u : Value) : Turns g W (W.setCell ⟨g, 0, none⟩ u) := (Turns.refl g W).setCell 0 u
theorem Box.one {W : World} {k : Nat} {u : Value} {t : TypeId} (h : Box W k (.cells #[u] t (0, 0))) : W.cell? ⟨k, 0, none⟩ = some u ∧ W.frozen? ⟨k, 0, none⟩ = false := ⟨cell_of_heap h.what 0, frozen_of_heap h.what 0⟩
theorem Box.set1 {W : World} {k : Nat} {u : Value} {t : TypeId} (u' : Value) (h : Box W k (.cells #[u] t (0, 0))) : Box (W.setCell ⟨k, 0, none⟩ u') k (.cells #[u'] t (0, 0)) := ⟨Nat.lt_of_lt_of_le h.lt (turns1 k W u').below.size, heap_setCell_same W k 0 _ t u' h.what⟩
theorem qgcd_len {lo lo' : Nat} {a b : Option Addr} {la lb ca cb : Nat} {xs ys : List Int} {w : World} (ha : Seg lo w (.slice a la ca) xs) (hb : Seg lo' w (.slice b lb cb) ys) (hla : xs.length ≤ 1000) (hlb : ys.length ≤ 1000) (hy : 0 < val ys) :
    Calls Tryz.prog 34 #[.slice a la ca, .slice b lb cb] w fun e w' => ∃ (a1 : Option Addr) (c1 : Nat) (gs : List Int), e = .returned (.slice a1 gs.length c1) ∧ Seg w.heap.size w' (.slice a1 gs.length c1) gs ∧ Norm gs ∧ val gs = gcdI (val xs) (val ys) ∧ gs.length ≤ ys.length ∧ Below w.heap.size w w' := by
  refine (qgcd_any ha hb hla hlb).mono ?_
  rintro e w' ⟨a1, c1, gs, rfl, hs, hn, hv, hb1⟩
  refine ⟨a1, c1, gs, rfl, hs, hn, hv, ?_, hb1⟩
  refine len_below hs.words hn ?_
  have := val_lt hb.words
  have hgl : gcdI (val xs) (val ys) ≤ val ys := by
    rw [gcdI_gcd (val_nonneg ha.words) (by omega)]
    exact Int.le_of_dvd hy (Int.gcd_dvd_right ..)
  rw [hv]
  omega
theorem canon_of {g : Bool} {z t : List Int} (hz : Canon g z) (wz : Words z) (nt : Norm t) (h : 0 < val z → 0 < val t) : Canon g t := by
  refine ⟨nt, fun hg => ?_⟩
  have := h (norm_pos wz hz.1 (hz.2 hg))
  rintro rfl
  rw [val_nil] at this
  omega
theorem plus_is {b g k : Bool} {xs ds ys es z1 z2 z6 z7 z8 z9 z10 : List Int} {q s : Rat} {N : Nat} (LA : LowL b xs ds) (LB : LowL g ys es) (HQ : Hid (ratL b xs ds = q)) (HS : Hid (ratL g ys es = s)) (w6 : Words z6)
    (V1 : Hid (val z1 = gcdI (val ds) (val es))) (V2 : Hid (val z2 = val ds / gcdI (val ds) (val es))) (N6 : Canon k z6)
    (V6 : Hid (sgn k (val z6) = sgn b (val xs) * (val es / gcdI (val ds) (val es)) + sgn g (val ys) * (val ds / gcdI (val ds) (val es))))
    (V7 : Hid (val z7 = gcdI (val z6) (val z1))) (V8 : Hid (val z8 = val es / val z7)) (V9 : Hid (val z9 = val z2 * val z8)) (N9 : Norm z9) (V10 : Hid (val z10 = val z6 / val z7)) (N10 : Norm z10)
    (l1 : z10.length ≤ N) (l2 : z9.length ≤ N) : Is k z10 z9 (q + s) N := by
  have pd := LA.2.2.1
  have pe := LB.2.2.1
  have p6 := val_nonneg w6
  have hG := gcdI_gcd (Int.le_of_lt pd) (Int.le_of_lt pe)
  have hGp := gcdI_posR (a := val ds) pe
  have h7 : val z7 = (Int.gcd (sgn k (val z6)) (gcdI (val ds) (val es)) : Int) := by
    rw [V7.out, V1.out, gcdI_gcd p6 (by omega), sgn_gcd]
  obtain ⟨l, e⟩ := low_plus LA.2.2 LB.2.2 hG rfl rfl V6.out h7
  have hdv : val z7 ∣ val z6 := by rw [h7, sgn_gcd]; exact Int.gcd_dvd_left ..
  have h7p : 0 < val z7 := by rw [V7.out, V1.out]; exact gcdI_posR hGp
  have e10 : sgn k (val z10) = sgn k (val z6) / val z7 := by rw [V10.out, sgn_ediv k hdv]
  have e9 : val z9 = val ds / gcdI (val ds) (val es) * (val es / val z7) := by rw [V9.out, V2.out, V8.out]
  have hc : Canon k z10 := canon_of N6 w6 N10 (fun hp => by rw [V10.out]; exact Int.ediv_pos_of_pos_of_dvd hp (by omega) hdv)
  refine ⟨⟨hc, N9, ?_⟩, ?_, l1, l2⟩
  · rw [e10, e9]; exact l
  · rw [ratL, e10, e9, e, ← HQ.out, ← HS.out]; rfl
theorem product_is {b g k : Bool} {xs ds ys es z1 z2 z3 z4 z5 z6 z7 : List Int} {q s : Rat} {N : Nat} (LA : LowL b xs ds) (LB : LowL g ys es) (HQ : Hid (ratL b xs ds = q)) (HS : Hid (ratL g ys es = s)) (wx : Words xs) (wy : Words ys)
    (V1 : Hid (val z1 = val xs / gcdI (val xs) (val es))) (V2 : Hid (val z2 = val es / gcdI (val xs) (val es))) (V3 : Hid (val z3 = val ys / gcdI (val ys) (val ds))) (V4 : Hid (val z4 = val ds / gcdI (val ys) (val ds)))
    (V5 : Hid (val z5 = val z1 * val z3)) (N6 : Canon k z6) (V6 : Hid (sgn k (val z6) = sgn (b != g) (val z5))) (V7 : Hid (val z7 = val z4 * val z2)) (N7 : Norm z7)
    (l1 : z6.length ≤ N) (l2 : z7.length ≤ N) : Is k z6 z7 (q * s) N := by
  have pd := LA.2.2.1
  have pe := LB.2.2.1
  obtain ⟨l, e⟩ := low_cross LA.2.2 LB.2.2
  rw [sgn_gcd, sgn_gcd, ← gcdI_gcd (val_nonneg wx) (Int.le_of_lt pe), ← gcdI_gcd (val_nonneg wy) (Int.le_of_lt pd)] at l e
  have d1 : gcdI (val xs) (val es) ∣ val xs := by rw [gcdI_gcd (val_nonneg wx) (Int.le_of_lt pe)]; exact Int.gcd_dvd_left ..
  have d2 : gcdI (val ys) (val ds) ∣ val ys := by rw [gcdI_gcd (val_nonneg wy) (Int.le_of_lt pd)]; exact Int.gcd_dvd_left ..
  rw [← sgn_ediv b d1, ← sgn_ediv g d2, ← sgn_mul, ← V1.out, ← V2.out, ← V3.out, ← V4.out, ← V5.out, ← V6.out, ← V7.out] at l e
  exact ⟨⟨N6, N7, l⟩, by rw [ratL, e, ← HQ.out, ← HS.out]; rfl, l1, l2⟩
theorem apart_sym {a c : Option Addr} {xs ys : List Int} (h : Apart a c xs ys) : Apart c a ys xs := fun h1 h2 b1 o1 b2 o2 e1 e2 e => h h2 h1 b2 o2 b1 o1 e2 e1 e.symm
set_option maxRecDepth 100000 in
set_option maxHeartbeats 4000000 in
theorem plus_any {lo lo2 : Nat} {a c p r : Option Addr} {ca cc cp cr : Nat} {xs ds ys es : List Int} {w : World} {n m : Nat} {q s : Rat} (b g : Bool) (FA : Fr lo w a ca xs c cc ds) (FB : Fr lo2 w p cp ys r cr es) (IA : Is b xs ds q n) (IB : Is g ys es s m) (hn : n + m ≤ 400) :
    Calls Tryz.prog 22 #[.agg #[.bool b, .slice a xs.length ca, .slice c ds.length cc], .agg #[.bool g, .slice p ys.length cp, .slice r es.length cr]] w fun e w' => ∃ (b' : Bool) (a' : Option Addr) (ca' : Nat) (ts' : List Int) (c' : Option Addr) (cc' : Nat) (es' : List Int), e = .returned (.tuple #[.agg #[.bool b', .slice a' ts'.length ca', .slice c' es'.length cc'], .int .i64 0]) ∧ Fr w.heap.size w' a' ca' ts' c' cc' es' ∧ Apart a' c' ts' es' ∧ Is b' ts' es' (q + s) (n + m + 1) ∧ Below w.heap.size w w' := by
  obtain ⟨LA, QA, lxa, lda⟩ := IA
  obtain ⟨LB, QB, lxb, ldb⟩ := IB
  have px := val_nonneg FA.up.words
  have pd := LA.2.2.1
  have py := val_nonneg FB.up.words
  have pe := LB.2.2.1
  have HQA := hide QA
  have HQB := hide QB
  clear QA QB
  have hB := Below.refl w.heap.size w
  go_enter Tryz.func22, Tryz.ntmps22
  have hA := Below.refl w.heap.size w
  have hq := below_new w (.cells #[.bool b, .slice a xs.length ca, .slice c ds.length cc] 30)
  replace FA := FA.below hq
  replace FB := FB.below hq
  have EA := Box.put (w := w) (k := (w.heap.size)) (.cells #[.bool b, .slice a xs.length ca, .slice c ds.length cc] 30) rfl
  replace hA := hA.trans (hq.mono hA.size)
  replace hB := hB.trans (hq.mono hB.size)
  clear hq
  have hq := below_new (w.alloc (.cells #[.bool b, .slice a xs.length ca, .slice c ds.length cc] 30)) (.cells #[.bool g, .slice p ys.length cp, .slice r es.length cr] 30)
  replace FA := FA.below hq
  replace FB := FB.below hq
  replace EA := EA.below hq
  have EB := Box.put (w := (w.alloc (.cells #[.bool b, .slice a xs.length ca, .slice c ds.length cc] 30))) (k := (w.heap.size + 1)) (.cells #[.bool g, .slice p ys.length cp, .slice r es.length cr] 30) (by simp)
  replace hA := hA.trans (hq.mono hA.size)
  replace hB := hB.trans (hq.mono hB.size)
  clear hq
  have hq := below_new ((w.alloc (.cells #[.bool b, .slice a xs.length ca, .slice c ds.length cc] 30)).alloc (.cells #[.bool g, .slice p ys.length cp, .slice r es.length cr] 30)) (.cells #[.bool false, .slice none 0 0, .slice none 0 0] 30)
  replace FA := FA.below hq
  replace FB := FB.below hq
  replace EA := EA.below hq
  replace EB := EB.below hq
  have ER := Box.put (w := ((w.alloc (.cells #[.bool b, .slice a xs.length ca, .slice c ds.length cc] 30)).alloc (.cells #[.bool g, .slice p ys.length cp, .slice r es.length cr] 30))) (k := (w.heap.size + 2)) (.cells #[.bool false, .slice none 0 0, .slice none 0 0] 30) (by simp)
  replace hA := hA.trans (hq.mono hA.size)
  replace hB := hB.trans (hq.mono hB.size)
  clear hq
  clear hA
  go_wp2_with fail
  obtain ⟨u1, hname⟩ := nm hB
  rw [hname] at hB FA FB EA EB ER ⊢
  have zh1 := hB.size
  clear hname
  refine (qgcd_len FA.down FB.down (by omega) (by omega) pe).mono ?_
  rintro e w2 ⟨a1, c1, z1, rfl, S1, N1, v1, l1, hb⟩
  have V1 : Hid (val z1 = gcdI (val ds) (val es)) := v1
  have b1 : z1.length ≤ n + m := by omega
  clear v1 l1
  replace FA := FA.below hb
  replace FB := FB.below hb
  replace EA := EA.below hb
  replace EB := EB.below hb
  replace ER := ER.below hb
  replace hB := hB.trans (hb.mono hB.size)
  have zz2 := hb.size
  have zh2 := hB.size
  clear hb
  obtain ⟨k0, k1, k2, f0, f1, f2⟩ := EA.three
  obtain ⟨k3, k4, k5, f3, f4, f5⟩ := EB.three
  obtain ⟨k6, k7, k8, f6, f7, f8⟩ := ER.three
  go_wp2_with fail
  clear k0 k1 k2 f0 f1 f2 k3 k4 k5 f3 f4 f5 k6 k7 k8 f6 f7 f8
  replace FA := FA.drew
  replace FB := FB.drew
  have qEA := EA.lt
  replace EA := EA.drew
  have qEB := EB.lt
  replace EB := EB.drew
  have qER := ER.lt
  replace ER := ER.drew
  replace S1 := S1.drew
  refine wp_yields 8 [.is (.pointer (some ⟨w.heap.size, 2, none⟩)), .is (.slice c ds.length cc), .is (.slice a1 z1.length c1), (Yield.nat w2.heap.size (val ds / gcdI (val ds) (val es)) (n)), .is (.pointer (some ⟨w.heap.size + 1, 2, none⟩)), .is (.slice r es.length cr), .is (.slice a1 z1.length c1), (Yield.nat w2.heap.size (val es / gcdI (val ds) (val es)) (m))] (by kernel_rfl) (by kernel_rfl) (lt_cons ?_ (lt_cons ?_ (lt_cons ?_ (lt_cons ?_ (lt_cons ?_ (lt_cons ?_ (lt_cons ?_ (lt_cons ?_ lt_nil)))))))) ?_
  case refine_1 =>
    refine OpDoes.mk rfl ?_
    intro vs V hV hd K hK
    have d5 : vs 5 = .slice r es.length cr := hd 5 (by decide) (by kernel_rfl)
    have d6 : vs 6 = .slice a1 z1.length c1 := hd 6 (by decide) (by kernel_rfl)
    simp only [laidIn, lz1, lz2, lz3, lz4, lz5, lz6, if_true, Act.put, lz7, lz8, lz9] at hK ⊢
    simp only [d5, d6] at hK ⊢
    go_simp
    go_at_call 45
    refine (share_any (FB.down.below hV) (S1.below hV) (by omega) (by omega)).mono ?_
    rintro e V' ⟨a3, c3, z3, rfl, S3, N3, v3, l3, hb⟩
    have V3 : Hid (val z3 = val es / gcdI (val ds) (val es)) := by rw [Hid, v3.out, V1.out]
    have b3 : z3.length ≤ m := by omega
    clear v3 l3
    exact hK.out _ _ hb ⟨_, _, _, rfl, S3.mono hV.size, N3, V3, b3⟩ (not_fresh rfl)
  case refine_2 =>
    refine OpDoes.mk rfl ?_
    intro vs V hV hd K hK
    simp only [laidIn, lz1, lz2, lz3, lz4, lz5, lz6, if_true, Act.put, lz7, lz8, lz9] at hK ⊢
    go_simp
    exact hK.out _ _ (Below.refl _ _) rfl (not_fresh rfl)
  case refine_3 =>
    refine OpDoes.mk rfl ?_
    intro vs V hV hd K hK
    have d4 : vs 4 = .pointer (some ⟨w.heap.size + 1, 2, none⟩) := hd 4 (by decide) (by kernel_rfl)
    have hcc := (EB.below hV).three
    have k0 := hcc.1
    have k1 := hcc.2.1
    have k2 := hcc.2.2.1
    clear hcc
    simp only [laidIn, lz1, lz2, lz3, lz4, lz5, lz6, if_true, Act.put, lz7, lz8, lz9] at hK ⊢
    simp only [d4] at hK ⊢
    go_simp
    exact hK.out _ _ (Below.refl _ _) rfl (not_fresh rfl)
  case refine_4 =>
    refine OpDoes.mk rfl ?_
    intro vs V hV hd K hK
    simp only [laidIn, lz1, lz2, lz3, lz4, lz5, lz6, if_true, Act.put, lz7, lz8, lz9] at hK ⊢
    go_simp
    exact hK.out _ _ (Below.refl _ _) rfl (not_fresh rfl)
  case refine_5 =>
    refine OpDoes.mk rfl ?_
    intro vs V hV hd K hK
    have d1 : vs 1 = .slice c ds.length cc := hd 1 (by decide) (by kernel_rfl)
    have d2 : vs 2 = .slice a1 z1.length c1 := hd 2 (by decide) (by kernel_rfl)
    simp only [laidIn, lz1, lz2, lz3, lz4, lz5, lz6, if_true, Act.put, lz7, lz8, lz9] at hK ⊢
    simp only [d1, d2] at hK ⊢
    go_simp
    go_at_call 45
    refine (share_any (FA.down.below hV) (S1.below hV) (by omega) (by omega)).mono ?_
    rintro e V' ⟨a2, c2, z2, rfl, S2, N2, v2, l2, hb⟩
    have V2 : Hid (val z2 = val ds / gcdI (val ds) (val es)) := by rw [Hid, v2.out, V1.out]
    have b2 : z2.length ≤ n := by omega
    clear v2 l2
    exact hK.out _ _ hb ⟨_, _, _, rfl, S2.mono hV.size, N2, V2, b2⟩ (not_fresh rfl)
  case refine_6 =>
    refine OpDoes.mk rfl ?_
    intro vs V hV hd K hK
    simp only [laidIn, lz1, lz2, lz3, lz4, lz5, lz6, if_true, Act.put, lz7, lz8, lz9] at hK ⊢
    go_simp
    exact hK.out _ _ (Below.refl _ _) rfl (not_fresh rfl)
  case refine_7 =>
    refine OpDoes.mk rfl ?_
    intro vs V hV hd K hK
    have d0 : vs 0 = .pointer (some ⟨w.heap.size, 2, none⟩) := hd 0 (by decide) (by kernel_rfl)
    have hcc := (EA.below hV).three
    have k0 := hcc.1
    have k1 := hcc.2.1
    have k2 := hcc.2.2.1
    clear hcc
    simp only [laidIn, lz1, lz2, lz3, lz4, lz5, lz6, if_true, Act.put, lz7, lz8, lz9] at hK ⊢
    simp only [d0] at hK ⊢
    go_simp
    exact hK.out _ _ (Below.refl _ _) rfl (not_fresh rfl)
  case refine_8 =>
    refine OpDoes.mk rfl ?_
    intro vs V hV hd K hK
    simp only [laidIn, lz1, lz2, lz4, lz5, lz6, if_true, Act.put, lz7, lz8, lz9] at hK ⊢
    go_simp
    exact hK.out _ _ (Below.refl _ _) rfl (not_fresh rfl)
  case refine_9 =>
    intro vs Y1 hV hR hne fuel
    have d0 : vs 0 = .pointer (some ⟨w.heap.size, 2, none⟩) := hR 0 (by decide)
    have d1 : vs 1 = .slice c ds.length cc := hR 1 (by decide)
    have d2 : vs 2 = .slice a1 z1.length c1 := hR 2 (by decide)
    have hh := fun (P : Prop) => Yield.nat_elim P (show ((Yield.nat w2.heap.size (val ds / gcdI (val ds) (val es)) (n)) : Yield).At (vs 3) Y1 from hR 3 (by decide))
    refine hh _ ?_
    intro a2 c2 z2 d3 S2 N2 V2 b2
    clear hh
    have d4 : vs 4 = .pointer (some ⟨w.heap.size + 1, 2, none⟩) := hR 4 (by decide)
    have d5 : vs 5 = .slice r es.length cr := hR 5 (by decide)
    have d6 : vs 6 = .slice a1 z1.length c1 := hR 6 (by decide)
    have hh := fun (P : Prop) => Yield.nat_elim P (show ((Yield.nat w2.heap.size (val es / gcdI (val ds) (val es)) (m)) : Yield).At (vs 7) Y1 from hR 7 (by decide))
    refine hh _ ?_
    intro a3 c3 z3 d7 S3 N3 V3 b3
    clear hh
    replace FA := FA.below hV
    replace FB := FB.below hV
    replace EA := EA.below hV
    replace EB := EB.below hV
    replace ER := ER.below hV
    replace S1 := S1.below hV
    have hr := hV
    simp only [laidIn, lz4, lz5, lz6, if_true, Act.put, lz7, lz8, lz9]
    simp only [d0, d1, d2, d3, d4, d5, d6, d7]
    clear hR hne hV d0 d1 d2 d3 d4 d5 d6 d7
    clear vs
    show wpAny _ _ _ _ (fuel + 2) _ _ _
    refine wpAny_all (rs := [8]) (by kernel_rfl) (by simp) (fun i hi => ?_)
    obtain rfl : i = 8 := by simpa using hi
    clear hi
    refine wpOp_step rfl (fun K hK => ?_)
    simp only [lz1, lz2, lz3]
    rw [if_pos (by rfl)]
    go_simp
    refine hK _ _ ?_
    clear hK
    refine wpAny_all (rs := [9]) (by kernel_rfl) (by simp) (fun i hi => ?_)
    obtain rfl : i = 9 := by simpa using hi
    clear hi
    refine wpOp_step rfl (fun K hK => ?_)
    simp only [lz1, lz2, lz3]
    rw [if_pos (by rfl)]
    go_simp
    refine hK _ _ ?_
    clear hK
    refine wpAny_done (by kernel_rfl) ?_ _
    replace hB := hB.trans ((Below.trans (Below.drew (Below.refl w2.heap.size w2)) hr).mono hB.size)
    have zz2_0 := hr.size
    have zi1 := hB.size
    clear hr 
    obtain ⟨k0, k1, k2, f0, f1, f2⟩ := EA.three
    obtain ⟨k3, k4, k5, f3, f4, f5⟩ := EB.three
    obtain ⟨k6, k7, k8, f6, f7, f8⟩ := ER.three
    go_wp2_with fail
    clear k0 k1 k2 f0 f1 f2 k3 k4 k5 f3 f4 f5 k6 k7 k8 f6 f7 f8
    replace FA := FA.drew
    replace FB := FB.drew
    have qEA := EA.lt
    replace EA := EA.drew
    have qEB := EB.lt
    replace EB := EB.drew
    have qER := ER.lt
    replace ER := ER.drew
    replace S1 := S1.drew
    replace S2 := S2.drew
    replace S3 := S3.drew
    refine wp_yields 10 [.is (.pointer (some ⟨w.heap.size, 0, none⟩)), .is (.agg #[.bool b, .slice a xs.length ca]), .is (.slice a3 z3.length c3), (Yield.int Y1.heap.size (sgn b (val xs) * (val es / gcdI (val ds) (val es))) (n + m)), .is (.pointer (some ⟨w.heap.size + 1, 0, none⟩)), .is (.agg #[.bool g, .slice p ys.length cp]), .is (.slice a2 z2.length c2), (Yield.int Y1.heap.size (sgn g (val ys) * (val ds / gcdI (val ds) (val es))) (n + m)), (Yield.int Y1.heap.size (sgn b (val xs) * (val es / gcdI (val ds) (val es)) + sgn g (val ys) * (val ds / gcdI (val ds) (val es))) (n + m + 1)), (.new Y1.heap.size (.cells #[.bool false, .slice none 0 0] 28))] (by kernel_rfl) (by kernel_rfl) (lt_cons ?_ (lt_cons ?_ (lt_cons ?_ (lt_cons ?_ (lt_cons ?_ (lt_cons ?_ (lt_cons ?_ (lt_cons ?_ (lt_cons ?_ (lt_cons ?_ lt_nil)))))))))) ?_
    case refine_1 =>
      refine OpDoes.mk rfl ?_
      intro vs V hV hd K hK
      simp only [laidIn, lz1, lz2, lz3, lz4, lz5, lz6, if_true, Act.put, lz7, lz8, lz9] at hK ⊢
      go_simp
      exact hK.out _ _ ((Below.refl _ _).a1 _) ⟨_, rfl, Box.new _ _, hV.size⟩ (fresh_apart _ _ (fresh_new _))
    case refine_2 =>
      refine OpDoes.mk rfl ?_
      intro vs V hV hd K hK
      have hh := fun (P : Prop) => Yield.int_elim P (show ((Yield.int Y1.heap.size (sgn b (val xs) * (val es / gcdI (val ds) (val es))) (n + m)) : Yield).At (vs 3) V from hd 3 (by decide) (by kernel_rfl))
      refine hh _ ?_
      intro g4 a4 c4 z4 d3 S4 N4 V4 b4
      clear hh
      have hh := fun (P : Prop) => Yield.int_elim P (show ((Yield.int Y1.heap.size (sgn g (val ys) * (val ds / gcdI (val ds) (val es))) (n + m)) : Yield).At (vs 7) V from hd 7 (by decide) (by kernel_rfl))
      refine hh _ ?_
      intro g5 a5 c5 z5 d7 S5 N5 V5 b5
      clear hh
      simp only [laidIn, lz1, lz2, lz3, lz4, lz5, lz6, if_true, Act.put, lz7, lz8, lz9] at hK ⊢
      simp only [d3, d7] at hK ⊢
      go_simp
      go_at_call 46
      refine (sadd_any g4 g5 S4 S5 (by omega) (by omega)).mono ?_
      rintro e V' ⟨g6, a6, c6, z6, rfl, S6, N6, v6, l6, hb⟩
      have V6 : Hid (sgn g6 (val z6) = sgn b (val xs) * (val es / gcdI (val ds) (val es)) + sgn g (val ys) * (val ds / gcdI (val ds) (val es))) := by rw [Hid, v6, V4.out, V5.out]
      have b6 : z6.length ≤ n + m + 1 := by omega
      clear v6 l6
      exact hK.out _ _ hb ⟨_, _, _, _, rfl, S6.mono hV.size, N6, V6, b6⟩ (not_fresh rfl)
    case refine_3 =>
      refine OpDoes.mk rfl ?_
      intro vs V hV hd K hK
      have d5 : vs 5 = .agg #[.bool g, .slice p ys.length cp] := hd 5 (by decide) (by kernel_rfl)
      have d6 : vs 6 = .slice a2 z2.length c2 := hd 6 (by decide) (by kernel_rfl)
      simp only [laidIn, lz1, lz2, lz3, lz4, lz5, lz6, if_true, Act.put, lz7, lz8, lz9] at hK ⊢
      simp only [d5, d6] at hK ⊢
      go_simp
      go_at_call 47
      refine (stretch_any g (FB.up.below hV) (S2.below hV) (by omega) (by omega)).mono ?_
      rintro e V' ⟨g5, a5, c5, z5, rfl, S5, N5, v5, l5, hb⟩
      have V5 : Hid (sgn g5 (val z5) = sgn g (val ys) * (val ds / gcdI (val ds) (val es))) := by rw [Hid, v5.out, V2.out]
      have b5 : z5.length ≤ n + m := by omega
      clear v5 l5
      exact hK.out _ _ hb ⟨_, _, _, _, rfl, S5.mono hV.size, N5, V5, b5⟩ (not_fresh rfl)
    case refine_4 =>
      refine OpDoes.mk rfl ?_
      intro vs V hV hd K hK
      simp only [laidIn, lz1, lz2, lz3, lz4, lz5, lz6, if_true, Act.put, lz7, lz8, lz9] at hK ⊢
      go_simp
      exact hK.out _ _ (Below.refl _ _) rfl (not_fresh rfl)
    case refine_5 =>
      refine OpDoes.mk rfl ?_
      intro vs V hV hd K hK
      have d4 : vs 4 = .pointer (some ⟨w.heap.size + 1, 0, none⟩) := hd 4 (by decide) (by kernel_rfl)
      have hcc := (EB.below hV).three
      have k0 := hcc.1
      have k1 := hcc.2.1
      have k2 := hcc.2.2.1
      clear hcc
      simp only [laidIn, lz1, lz2, lz3, lz4, lz5, lz6, if_true, Act.put, lz7, lz8, lz9] at hK ⊢
      simp only [d4] at hK ⊢
      go_simp
      exact hK.out _ _ (Below.refl _ _) rfl (not_fresh rfl)
    case refine_6 =>
      refine OpDoes.mk rfl ?_
      intro vs V hV hd K hK
      simp only [laidIn, lz1, lz2, lz3, lz4, lz5, lz6, if_true, Act.put, lz7, lz8, lz9] at hK ⊢
      go_simp
      exact hK.out _ _ (Below.refl _ _) rfl (not_fresh rfl)
    case refine_7 =>
      refine OpDoes.mk rfl ?_
      intro vs V hV hd K hK
      have d1 : vs 1 = .agg #[.bool b, .slice a xs.length ca] := hd 1 (by decide) (by kernel_rfl)
      have d2 : vs 2 = .slice a3 z3.length c3 := hd 2 (by decide) (by kernel_rfl)
      simp only [laidIn, lz1, lz2, lz3, lz4, lz5, lz6, if_true, Act.put, lz7, lz8, lz9] at hK ⊢
      simp only [d1, d2] at hK ⊢
      go_simp
      go_at_call 47
      refine (stretch_any b (FA.up.below hV) (S3.below hV) (by omega) (by omega)).mono ?_
      rintro e V' ⟨g4, a4, c4, z4, rfl, S4, N4, v4, l4, hb⟩
      have V4 : Hid (sgn g4 (val z4) = sgn b (val xs) * (val es / gcdI (val ds) (val es))) := by rw [Hid, v4.out, V3.out]
      have b4 : z4.length ≤ n + m := by omega
      clear v4 l4
      exact hK.out _ _ hb ⟨_, _, _, _, rfl, S4.mono hV.size, N4, V4, b4⟩ (not_fresh rfl)
    case refine_8 =>
      refine OpDoes.mk rfl ?_
      intro vs V hV hd K hK
      simp only [laidIn, lz1, lz2, lz3, lz4, lz5, lz6, if_true, Act.put, lz7, lz8, lz9] at hK ⊢
      go_simp
      exact hK.out _ _ (Below.refl _ _) rfl (not_fresh rfl)
    case refine_9 =>
      refine OpDoes.mk rfl ?_
      intro vs V hV hd K hK
      have d0 : vs 0 = .pointer (some ⟨w.heap.size, 0, none⟩) := hd 0 (by decide) (by kernel_rfl)
      have hcc := (EA.below hV).three
      have k0 := hcc.1
      have k1 := hcc.2.1
      have k2 := hcc.2.2.1
      clear hcc
      simp only [laidIn, lz1, lz2, lz3, lz4, lz5, lz6, if_true, Act.put, lz7, lz8, lz9] at hK ⊢
      simp only [d0] at hK ⊢
      go_simp
      exact hK.out _ _ (Below.refl _ _) rfl (not_fresh rfl)
    case refine_10 =>
      refine OpDoes.mk rfl ?_
      intro vs V hV hd K hK
      simp only [laidIn, lz1, lz2, lz4, lz5, lz6, if_true, Act.put, lz7, lz8, lz9] at hK ⊢
      go_simp
      exact hK.out _ _ (Below.refl _ _) rfl (not_fresh rfl)
    case refine_11 =>
      intro vs Y2 hV hR hne fuel
      have d0 : vs 0 = .pointer (some ⟨w.heap.size, 0, none⟩) := hR 0 (by decide)
      have d1 : vs 1 = .agg #[.bool b, .slice a xs.length ca] := hR 1 (by decide)
      have d2 : vs 2 = .slice a3 z3.length c3 := hR 2 (by decide)
      have hh := fun (P : Prop) => Yield.int_elim P (show ((Yield.int Y1.heap.size (sgn b (val xs) * (val es / gcdI (val ds) (val es))) (n + m)) : Yield).At (vs 3) Y2 from hR 3 (by decide))
      refine hh _ ?_
      intro g4 a4 c4 z4 d3 S4 N4 V4 b4
      clear hh
      have d4 : vs 4 = .pointer (some ⟨w.heap.size + 1, 0, none⟩) := hR 4 (by decide)
      have d5 : vs 5 = .agg #[.bool g, .slice p ys.length cp] := hR 5 (by decide)
      have d6 : vs 6 = .slice a2 z2.length c2 := hR 6 (by decide)
      have hh := fun (P : Prop) => Yield.int_elim P (show ((Yield.int Y1.heap.size (sgn g (val ys) * (val ds / gcdI (val ds) (val es))) (n + m)) : Yield).At (vs 7) Y2 from hR 7 (by decide))
      refine hh _ ?_
      intro g5 a5 c5 z5 d7 S5 N5 V5 b5
      clear hh
      have hh := fun (P : Prop) => Yield.int_elim P (show ((Yield.int Y1.heap.size (sgn b (val xs) * (val es / gcdI (val ds) (val es)) + sgn g (val ys) * (val ds / gcdI (val ds) (val es))) (n + m + 1)) : Yield).At (vs 8) Y2 from hR 8 (by decide))
      refine hh _ ?_
      intro g6 a6 c6 z6 d8 S6 N6 V6 b6
      clear hh
      obtain ⟨k_E93, d9, E93, l_E93⟩ := (show ((.new Y1.heap.size (.cells #[.bool false, .slice none 0 0] 28)) : Yield).At (vs 9) Y2 from hR 9 (by decide))
      replace FA := FA.below hV
      replace FB := FB.below hV
      replace EA := EA.below hV
      replace EB := EB.below hV
      replace ER := ER.below hV
      replace S1 := S1.below hV
      replace S2 := S2.below hV
      replace S3 := S3.below hV
      have hr := hV
      simp only [laidIn, lz4, lz5, lz6, if_true, Act.put, lz7, lz8, lz9]
      simp only [d0, d1, d2, d3, d4, d5, d6, d7, d8, d9]
      clear hR hne hV d0 d1 d2 d3 d4 d5 d6 d7 d8 d9
      clear vs
      show wpAny _ _ _ _ (fuel + 1) _ _ _
      refine wpAny_all (rs := [10]) (by kernel_rfl) (by simp) (fun i hi => ?_)
      obtain rfl : i = 10 := by simpa using hi
      clear hi
      have hcc := E93.two
      have k0 := hcc.1
      have k1 := hcc.2.1
      have f0 := hcc.2.2.1
      have f1 := hcc.2.2.2
      clear hcc
      refine wpOp_step rfl (fun K hK => ?_)
      simp only [lz1, lz2, lz3]
      rw [if_pos (by rfl)]
      go_simp
      refine hK _ _ ?_
      clear hK k0 f0 k1 f1
      have hT := turns2 (k_E93) Y2 (.bool g6) (.slice a6 z6.length c6)
      replace FA := FA.beside E93 (noWord2 (fun _ e => by cases e) (fun _ e => by cases e)) hT
      replace FB := FB.beside E93 (noWord2 (fun _ e => by cases e) (fun _ e => by cases e)) hT
      replace EA := EA.turns hT (by omega)
      replace EB := EB.turns hT (by omega)
      replace ER := ER.turns hT (by omega)
      replace S1 := S1.beside E93 (noWord2 (fun _ e => by cases e) (fun _ e => by cases e)) hT
      replace S2 := S2.beside E93 (noWord2 (fun _ e => by cases e) (fun _ e => by cases e)) hT
      replace S3 := S3.beside E93 (noWord2 (fun _ e => by cases e) (fun _ e => by cases e)) hT
      replace S4 := S4.beside E93 (noWord2 (fun _ e => by cases e) (fun _ e => by cases e)) hT
      replace S5 := S5.beside E93 (noWord2 (fun _ e => by cases e) (fun _ e => by cases e)) hT
      replace S6 := S6.beside E93 (noWord2 (fun _ e => by cases e) (fun _ e => by cases e)) hT
      replace E93 := E93.set2 (.bool g6) (.slice a6 z6.length c6)
      have hr10 := hT.below
      obtain ⟨X1, hX⟩ := nm hT.below
      rw [hX] at FA FB EA EB ER S1 S2 S3 S4 S5 S6 E93 hr10 ⊢
      clear hX hT
      refine wpAny_done (by kernel_rfl) ?_ _
      replace hB := hB.trans ((Below.trans (Below.drew (Below.refl Y1.heap.size Y1)) hr).mono hB.size)
      replace hB := hB.trans (hr10.mono (by omega))
      have zz2_1 := hr.size
      have zi2 := hB.size
      have zy1_10 := hr10.size
      clear hr hr10
      clear S4 S5 S3 FA EA
      obtain ⟨k0, k1, k2, f0, f1, f2⟩ := EB.three
      obtain ⟨k3, k4, k5, f3, f4, f5⟩ := ER.three
      obtain ⟨k6, k7, f6, f7⟩ := E93.two
      go_wp2_with fail
      clear k0 k1 k2 f0 f1 f2 k3 k4 k5 f3 f4 f5 k6 k7 f6 f7
      have hz1 : 0 < val z1 := by rw [V1.out]; exact gcdI_posR pe
      refine (qgcd_len S6 S1 (by omega) (by omega) hz1).mono ?_
      rintro e w3 ⟨a7, c7, z7, rfl, S7, N7, v7, l7, hb⟩
      have V7 : Hid (val z7 = gcdI (val z6) (val z1)) := v7
      have b7 : z7.length ≤ n + m := by omega
      clear v7 l7
      replace FB := FB.below hb
      replace EB := EB.below hb
      replace ER := ER.below hb
      replace S1 := S1.below hb
      replace S2 := S2.below hb
      replace S6 := S6.below hb
      replace E93 := E93.below hb
      replace hB := hB.trans (hb.mono hB.size)
      have zz3 := hb.size
      have zh3 := hB.size
      clear hb
      clear hz1
      obtain ⟨k0, k1, k2, f0, f1, f2⟩ := EB.three
      obtain ⟨k3, k4, k5, f3, f4, f5⟩ := ER.three
      obtain ⟨k6, k7, f6, f7⟩ := E93.two
      go_wp2_with fail
      clear k0 k1 k2 f0 f1 f2 k3 k4 k5 f3 f4 f5 k6 k7 f6 f7
      refine (share_any FB.down S7 (by omega) (by omega)).mono ?_
      rintro e w4 ⟨a8, c8, z8, rfl, S8, N8, v8, l8, hb⟩
      have V8 : Hid (val z8 = val es / val z7) := v8
      have b8 : z8.length ≤ m := by omega
      clear v8 l8
      replace FB := FB.below hb
      replace EB := EB.below hb
      replace ER := ER.below hb
      replace S1 := S1.below hb
      replace S2 := S2.below hb
      replace S6 := S6.below hb
      replace E93 := E93.below hb
      replace S7 := S7.below hb
      replace hB := hB.trans (hb.mono hB.size)
      have zz4 := hb.size
      have zh4 := hB.size
      clear hb
      obtain ⟨k0, k1, k2, f0, f1, f2⟩ := EB.three
      obtain ⟨k3, k4, k5, f3, f4, f5⟩ := ER.three
      obtain ⟨k6, k7, f6, f7⟩ := E93.two
      go_wp2_with fail
      clear k0 k1 k2 f0 f1 f2 k3 k4 k5 f3 f4 f5 k6 k7 f6 f7
      refine (mul_any S2 S8 (by omega) (by omega)).mono ?_
      rintro e w5 ⟨a9, c9, z9, rfl, S9, N9, v9, l9, hb⟩
      have V9 : Hid (val z9 = val z2 * val z8) := v9
      have b9 : z9.length ≤ n + m := by omega
      clear v9 l9
      replace FB := FB.below hb
      replace EB := EB.below hb
      replace ER := ER.below hb
      replace S1 := S1.below hb
      replace S2 := S2.below hb
      replace S6 := S6.below hb
      replace E93 := E93.below hb
      replace S7 := S7.below hb
      replace S8 := S8.below hb
      replace hB := hB.trans (hb.mono hB.size)
      have zz5 := hb.size
      have zh5 := hB.size
      clear hb
      clear S8 S2 S1 FB EB
      have S9_0 := S9
      obtain ⟨k0, k1, k2, f0, f1, f2⟩ := ER.three
      obtain ⟨k3, k4, f3, f4⟩ := E93.two
      go_wp2_with fail
      clear k0 k1 k2 f0 f1 f2 k3 k4 f3 f4
      have qER := ER.lt
      replace ER := ER.drew
      replace S6 := S6.drew
      have qE93 := E93.lt
      replace E93 := E93.drew
      replace S7 := S7.drew
      replace S9 := S9.drew
      refine wp_yields 9 [.is (.pointer (some ⟨k_E93, 0, none⟩)), .is (.bool g6), .is (.pointer (some ⟨k_E93, 1, none⟩)), .is (.slice a6 z6.length c6), .is (.slice a7 z7.length c7), (Yield.nat w5.heap.size (val z6 / val z7) (n + m + 1)), (Yield.natIn (fun s => .agg #[.bool g6, s]) w5.heap.size (val z6 / val z7) (n + m + 1)), .is (.slice a9 z9.length c9), (Yield.natIn (fun s => .agg #[.bool g6, s, .slice a9 z9.length c9]) w5.heap.size (val z6 / val z7) (n + m + 1))] (by kernel_rfl) (by kernel_rfl) (lt_cons ?_ (lt_cons ?_ (lt_cons ?_ (lt_cons ?_ (lt_cons ?_ (lt_cons ?_ (lt_cons ?_ (lt_cons ?_ (lt_cons ?_ lt_nil))))))))) ?_
      case refine_1 =>
        refine OpDoes.mk rfl ?_
        intro vs V hV hd K hK
        have hh := fun (P : Prop) => Yield.natIn_elim P (show ((Yield.natIn (fun s => .agg #[.bool g6, s]) w5.heap.size (val z6 / val z7) (n + m + 1)) : Yield).At (vs 6) V from hd 6 (by decide) (by kernel_rfl))
        refine hh _ ?_
        intro a11 c11 z11 d6 S11 N11 V11 b11
        clear hh
        have d7 : vs 7 = .slice a9 z9.length c9 := hd 7 (by decide) (by kernel_rfl)
        simp only [laidIn, lz1, lz2, lz3, lz4, lz5, lz6, if_true, Act.put, lz7, lz8, lz9] at hK ⊢
        simp only [d6, d7] at hK ⊢
        go_simp
        exact hK.out _ _ (Below.refl _ _) ⟨_, _, _, rfl, S11, N11, V11, b11⟩ (not_fresh rfl)
      case refine_2 =>
        refine OpDoes.mk rfl ?_
        intro vs V hV hd K hK
        simp only [laidIn, lz1, lz2, lz3, lz4, lz5, lz6, if_true, Act.put, lz7, lz8, lz9] at hK ⊢
        go_simp
        exact hK.out _ _ (Below.refl _ _) rfl (not_fresh rfl)
      case refine_3 =>
        refine OpDoes.mk rfl ?_
        intro vs V hV hd K hK
        have d1 : vs 1 = .bool g6 := hd 1 (by decide) (by kernel_rfl)
        have hh := fun (P : Prop) => Yield.nat_elim P (show ((Yield.nat w5.heap.size (val z6 / val z7) (n + m + 1)) : Yield).At (vs 5) V from hd 5 (by decide) (by kernel_rfl))
        refine hh _ ?_
        intro a10 c10 z10 d5 S10 N10 V10 b10
        clear hh
        simp only [laidIn, lz1, lz2, lz3, lz4, lz5, lz6, if_true, Act.put, lz7, lz8, lz9] at hK ⊢
        simp only [d1, d5] at hK ⊢
        go_simp
        exact hK.out _ _ (Below.refl _ _) ⟨_, _, _, rfl, S10, N10, V10, b10⟩ (not_fresh rfl)
      case refine_4 =>
        refine OpDoes.mk rfl ?_
        intro vs V hV hd K hK
        have d3 : vs 3 = .slice a6 z6.length c6 := hd 3 (by decide) (by kernel_rfl)
        have d4 : vs 4 = .slice a7 z7.length c7 := hd 4 (by decide) (by kernel_rfl)
        simp only [laidIn, lz1, lz2, lz3, lz4, lz5, lz6, if_true, Act.put, lz7, lz8, lz9] at hK ⊢
        simp only [d3, d4] at hK ⊢
        go_simp
        go_at_call 45
        refine (share_any (S6.below hV) (S7.below hV) (by omega) (by omega)).mono ?_
        rintro e V' ⟨a10, c10, z10, rfl, S10, N10, v10, l10, hb⟩
        have V10 : Hid (val z10 = val z6 / val z7) := v10
        have b10 : z10.length ≤ n + m + 1 := by omega
        clear v10 l10
        exact hK.out _ _ hb ⟨_, _, _, rfl, S10.mono hV.size, N10, V10, b10⟩ (not_fresh rfl)
      case refine_5 =>
        refine OpDoes.mk rfl ?_
        intro vs V hV hd K hK
        simp only [laidIn, lz1, lz2, lz3, lz4, lz5, lz6, if_true, Act.put, lz7, lz8, lz9] at hK ⊢
        go_simp
        exact hK.out _ _ (Below.refl _ _) rfl (not_fresh rfl)
      case refine_6 =>
        refine OpDoes.mk rfl ?_
        intro vs V hV hd K hK
        have d2 : vs 2 = .pointer (some ⟨k_E93, 1, none⟩) := hd 2 (by decide) (by kernel_rfl)
        have hcc := (E93.below hV).two
        have k0 := hcc.1
        have k1 := hcc.2.1
        clear hcc
        simp only [laidIn, lz1, lz2, lz3, lz4, lz5, lz6, if_true, Act.put, lz7, lz8, lz9] at hK ⊢
        simp only [d2] at hK ⊢
        go_simp
        exact hK.out _ _ (Below.refl _ _) rfl (not_fresh rfl)
      case refine_7 =>
        refine OpDoes.mk rfl ?_
        intro vs V hV hd K hK
        simp only [laidIn, lz1, lz2, lz3, lz4, lz5, lz6, if_true, Act.put, lz7, lz8, lz9] at hK ⊢
        go_simp
        exact hK.out _ _ (Below.refl _ _) rfl (not_fresh rfl)
      case refine_8 =>
        refine OpDoes.mk rfl ?_
        intro vs V hV hd K hK
        have d0 : vs 0 = .pointer (some ⟨k_E93, 0, none⟩) := hd 0 (by decide) (by kernel_rfl)
        have hcc := (E93.below hV).two
        have k0 := hcc.1
        have k1 := hcc.2.1
        clear hcc
        simp only [laidIn, lz1, lz2, lz3, lz4, lz5, lz6, if_true, Act.put, lz7, lz8, lz9] at hK ⊢
        simp only [d0] at hK ⊢
        go_simp
        exact hK.out _ _ (Below.refl _ _) rfl (not_fresh rfl)
      case refine_9 =>
        refine OpDoes.mk rfl ?_
        intro vs V hV hd K hK
        simp only [laidIn, lz1, lz2, lz4, lz5, lz6, if_true, Act.put, lz7, lz8, lz9] at hK ⊢
        go_simp
        exact hK.out _ _ (Below.refl _ _) rfl (not_fresh rfl)
      case refine_10 =>
        intro vs Y3 hV hR hne fuel
        have d0 : vs 0 = .pointer (some ⟨k_E93, 0, none⟩) := hR 0 (by decide)
        have d1 : vs 1 = .bool g6 := hR 1 (by decide)
        have d2 : vs 2 = .pointer (some ⟨k_E93, 1, none⟩) := hR 2 (by decide)
        have d3 : vs 3 = .slice a6 z6.length c6 := hR 3 (by decide)
        have d4 : vs 4 = .slice a7 z7.length c7 := hR 4 (by decide)
        have hh := fun (P : Prop) => Yield.nat_elim P (show ((Yield.nat w5.heap.size (val z6 / val z7) (n + m + 1)) : Yield).At (vs 5) Y3 from hR 5 (by decide))
        refine hh _ ?_
        intro a10 c10 z10 d5 S10 N10 V10 b10
        clear hh
        have hh := fun (P : Prop) => Yield.natIn_elim P (show ((Yield.natIn (fun s => .agg #[.bool g6, s]) w5.heap.size (val z6 / val z7) (n + m + 1)) : Yield).At (vs 6) Y3 from hR 6 (by decide))
        refine hh _ ?_
        intro a11 c11 z11 d6 S11 N11 V11 b11
        clear hh
        have d7 : vs 7 = .slice a9 z9.length c9 := hR 7 (by decide)
        have hh := fun (P : Prop) => Yield.natIn_elim P (show ((Yield.natIn (fun s => .agg #[.bool g6, s, .slice a9 z9.length c9]) w5.heap.size (val z6 / val z7) (n + m + 1)) : Yield).At (vs 8) Y3 from hR 8 (by decide))
        refine hh _ ?_
        intro a12 c12 z12 d8 S12 N12 V12 b12
        clear hh
        replace ER := ER.below hV
        replace S6 := S6.below hV
        replace E93 := E93.below hV
        replace S7 := S7.below hV
        replace S9 := S9.below hV
        have hr := hV
        simp only [laidIn, lz4, lz5, lz6, if_true, Act.put, lz7, lz8, lz9]
        simp only [d0, d1, d2, d3, d4, d5, d6, d7, d8]
        clear hR hne hV d0 d1 d2 d3 d4 d5 d6 d7 d8
        clear vs
        show wpAny _ _ _ _ (fuel + 2) _ _ _
        refine wpAny_all (rs := [9]) (by kernel_rfl) (by simp) (fun i hi => ?_)
        obtain rfl : i = 9 := by simpa using hi
        clear hi
        have hcc := ER.three
        have k0 := hcc.1
        have k1 := hcc.2.1
        have k2 := hcc.2.2.1
        have f0 := hcc.2.2.2.1
        have f1 := hcc.2.2.2.2.1
        have f2 := hcc.2.2.2.2.2
        clear hcc
        refine wpOp_step rfl (fun K hK => ?_)
        simp only [lz1, lz2, lz3]
        rw [if_pos (by rfl)]
        go_simp
        refine hK _ _ ?_
        clear hK k0 f0 k1 f1 k2 f2
        have hT := turns3 (w.heap.size + 2) Y3 (.bool g6) (.slice a12 z12.length c12) (.slice a9 z9.length c9)
        replace S6 := S6.beside ER (noWord3 (fun _ e => by cases e) (fun _ e => by cases e) (fun _ e => by cases e)) hT
        replace E93 := E93.turns hT (by omega)
        replace S7 := S7.beside ER (noWord3 (fun _ e => by cases e) (fun _ e => by cases e) (fun _ e => by cases e)) hT
        replace S9 := S9.beside ER (noWord3 (fun _ e => by cases e) (fun _ e => by cases e) (fun _ e => by cases e)) hT
        replace S10 := S10.beside ER (noWord3 (fun _ e => by cases e) (fun _ e => by cases e) (fun _ e => by cases e)) hT
        replace S11 := S11.beside ER (noWord3 (fun _ e => by cases e) (fun _ e => by cases e) (fun _ e => by cases e)) hT
        replace S12 := S12.beside ER (noWord3 (fun _ e => by cases e) (fun _ e => by cases e) (fun _ e => by cases e)) hT
        replace ER := ER.set3 (.bool g6) (.slice a12 z12.length c12) (.slice a9 z9.length c9)
        have hr9 := hT.below
        obtain ⟨X2, hX⟩ := nm hT.below
        rw [hX] at ER S6 E93 S7 S9 S10 S11 S12 hr9 ⊢
        clear hX hT
        refine wpAny_all (rs := [10]) (by kernel_rfl) (by simp) (fun i hi => ?_)
        obtain rfl : i = 10 := by simpa using hi
        clear hi
        refine wpOp_step rfl (fun K hK => ?_)
        simp only [lz1, lz2, lz3]
        rw [if_pos (by rfl)]
        go_simp
        refine hK _ _ ?_
        clear hK
        refine wpAny_done (by kernel_rfl) ?_ _
        replace hB := hB.trans ((Below.trans (Below.drew (Below.refl w5.heap.size w5)) hr).mono hB.size)
        replace hB := hB.trans (hr9.mono (by omega))
        have zz5_2 := hr.size
        have zi3 := hB.size
        have zy2_9 := hr9.size
        clear hr hr9
        have HI := plus_is (N := n + m + 1) LA LB HQA HQB S6.words V1 V2 N6 V6 V7 V8 V9 N9 V12 N12 (by omega) (by omega)
        have HAP := hide (apart_sym (apart_of (fun h b o e => S9_0.block h b o e) S12 (Nat.le_refl _)) : Apart a12 a9 z12 z9)
        obtain ⟨k0, k1, k2, f0, f1, f2⟩ := ER.three
        obtain ⟨k3, k4, f3, f4⟩ := E93.two
        have hcc := ER.three
        have r0 := hcc.1
        have r1 := hcc.2.1
        have r2 := hcc.2.2.1
        clear hcc
        go_wp2
        refine bodyPost_ret (v := .tuple #[.agg #[.bool g6, .slice a12 z12.length c12, .slice a9 z9.length c9], .int .i64 0]) (by simp [results, Tryz.f22, go_sem, r0, r1, r2]) rfl ?_
        exact ⟨_, _, _, _, _, _, _, rfl, ⟨S12.mono (by omega), S9.mono (by omega)⟩, HAP.out, HI, hB⟩
theorem make_is {b : Bool} {xs ds z1 z2 : List Int} {N : Nat} (hc : Canon b xs) (wx : Words xs) (hd : 0 < val ds) (V1 : Hid (val z1 = val xs / gcdI (val xs) (val ds))) (V2 : Hid (val z2 = val ds / gcdI (val xs) (val ds))) (N1 : Norm z1) (N2 : Norm z2) (l1 : z1.length ≤ N) (l2 : z2.length ≤ N) :
    Is b z1 z2 (Rat.divInt (sgn b (val xs)) (val ds)) N := by
  have hg := gcdI_gcd (val_nonneg wx) (Int.le_of_lt hd)
  have hdv : gcdI (val xs) (val ds) ∣ val xs := by rw [hg]; exact Int.gcd_dvd_left ..
  have hgp := gcdI_posR (a := val xs) hd
  have hc1 : Canon b z1 := canon_of hc wx N1 (fun hp => by rw [V1.out]; exact Int.ediv_pos_of_pos_of_dvd hp (by omega) hdv)
  have h1 := V1.out
  have h2 := V2.out
  rw [hg] at h1 h2
  obtain ⟨l, e⟩ := lowL_div (b := b) hd hc1 N2 (by rw [h1]) h2
  exact ⟨l, e, l1, l2⟩
theorem side_neg {g : Bool} {z : List Int} {y : Int} (h : sgn g (val z) = y) (hy : y < 0) (hw : Words z) : g = true := by
  have := val_nonneg hw
  cases g
  · simp [sgn] at h; omega
  · rfl
set_option maxRecDepth 100000 in
set_option maxHeartbeats 4000000 in
theorem pmake_ok {lo : Nat} {a c : Option Addr} {ca cc : Nat} {xs ds : List Int} {w : World} (b : Bool) (FA : Fr lo w a ca xs c cc ds) (hl : xs.length ≤ 1000) (hl2 : ds.length ≤ 1000) {n : Nat} (hln : xs.length ≤ n ∧ ds.length ≤ n) (hc : Canon b xs) (hd : 0 < val ds) :
    Calls Tryz.prog 43 #[.agg #[.bool b, .slice a xs.length ca], .slice c ds.length cc] w fun e w' => ∃ (b' : Bool) (a' : Option Addr) (ca' : Nat) (ts' : List Int) (c' : Option Addr) (cc' : Nat) (es' : List Int), e = .returned (.tuple #[.agg #[.bool b', .slice a' ts'.length ca', .slice c' es'.length cc'], .int .i64 0]) ∧ Fr w.heap.size w' a' ca' ts' c' cc' es' ∧ Apart a' c' ts' es' ∧ Is b' ts' es' (Rat.divInt (sgn b (val xs)) (val ds)) (n) ∧ Below w.heap.size w w' := by
  have HF : Hid (formI b xs = 0) := formI_canon.2 hc
  have HD := hide hd
  have HC := hide hc
  have hB := Below.refl w.heap.size w
  clear hd
  go_enter Tryz.func43, Tryz.ntmps43
  have hA := Below.refl w.heap.size w
  have hq := below_new w (.cells #[.bool b, .slice a xs.length ca] 28)
  replace FA := FA.below hq
  have EA := Box.put (w := w) (k := (w.heap.size)) (.cells #[.bool b, .slice a xs.length ca] 28) rfl
  replace hA := hA.trans (hq.mono hA.size)
  replace hB := hB.trans (hq.mono hB.size)
  clear hq
  have hq := below_new (w.alloc (.cells #[.bool b, .slice a xs.length ca] 28)) (.cells #[.bool false, .slice none 0 0, .slice none 0 0] 30)
  replace FA := FA.below hq
  replace EA := EA.below hq
  have ER := Box.put (w := (w.alloc (.cells #[.bool b, .slice a xs.length ca] 28))) (k := (w.heap.size + 1)) (.cells #[.bool false, .slice none 0 0, .slice none 0 0] 30) (by simp)
  replace hA := hA.trans (hq.mono hA.size)
  replace hB := hB.trans (hq.mono hB.size)
  clear hq
  clear hA
  go_wp2_with fail
  obtain ⟨u1, hname⟩ := nm hB
  rw [hname] at hB FA EA ER ⊢
  have zh1 := hB.size
  clear hname
  have hk := scheck_any b FA.up (by omega)
  rw [HF.out] at hk
  refine (hk).mono ?_
  rintro e w2 ⟨rfl, hb⟩
  replace FA := FA.below hb
  replace EA := EA.below hb
  replace ER := ER.below hb
  replace hB := hB.trans (hb.mono hB.size)
  have zz2 := hb.size
  have zh2 := hB.size
  clear hb
  clear hk
  obtain ⟨k0, k1, f0, f1⟩ := EA.two
  obtain ⟨k2, k3, k4, f2, f3, f4⟩ := ER.three
  go_wp2_with fail
  clear k0 k1 f0 f1 k2 k3 k4 f2 f3 f4
  have hk := len_any FA.down (by omega)
  refine (hk).mono ?_
  rintro e w3 ⟨rfl, hb⟩
  replace FA := FA.below hb
  replace EA := EA.below hb
  replace ER := ER.below hb
  replace hB := hB.trans (hb.mono hB.size)
  have zz3 := hb.size
  have zh3 := hB.size
  clear hb
  clear hk
  have hne := blen_ne HD.out
  obtain ⟨k0, k1, f0, f1⟩ := EA.two
  obtain ⟨k2, k3, k4, f2, f3, f4⟩ := ER.three
  go_wp2_with fail
  clear k0 k1 f0 f1 k2 k3 k4 f2 f3 f4
  refine (lowest_any FA.up FA.down (by omega) (by omega) HD.out).mono ?_
  rintro e w4 ⟨a1, a2, c1, c2, z1, z2, rfl, Fz, N1, N2, V1, V2, b1, b2, P1, hb⟩
  replace FA := FA.below hb
  replace EA := EA.below hb
  replace ER := ER.below hb
  replace hB := hB.trans (hb.mono hB.size)
  have zz4 := hb.size
  have zh4 := hB.size
  clear hb
  clear hne
  have HI := make_is (N := n) HC.out FA.up.words HD.out V1 V2 N1 N2 (by omega) (by omega)
  obtain ⟨k0, k1, f0, f1⟩ := EA.two
  obtain ⟨k2, k3, k4, f2, f3, f4⟩ := ER.three
  have hcc := ER.three
  have r0 := hcc.1
  have r1 := hcc.2.1
  have r2 := hcc.2.2.1
  clear hcc
  have qEA := EA.lt
  have qER := ER.lt
  have hA := Below.refl w4.heap.size w4
  have hT := turns3 (w.heap.size + 1) w4 (.bool b) (.slice a1 z1.length c1) (.slice a2 z2.length c2)
  replace FA := FA.beside ER (noWord3 (fun _ e => by cases e) (fun _ e => by cases e) (fun _ e => by cases e)) hT
  replace EA := EA.turns hT (by omega)
  replace Fz := Fz.beside ER (noWord3 (fun _ e => by cases e) (fun _ e => by cases e) (fun _ e => by cases e)) hT
  replace ER := Box.set3 (.bool b) (.slice a1 z1.length c1) (.slice a2 z2.length c2) ER
  replace hB := hB.trans (hT.below.mono (by omega))
  clear hT
  clear hA
  go_wp2
  refine bodyPost_ret (v := .tuple #[.agg #[.bool b, .slice a1 z1.length c1, .slice a2 z2.length c2], .int .i64 0]) (by simp [results, Tryz.f43, go_sem, r0, r1, r2]) rfl ?_
  exact ⟨_, _, _, _, _, _, _, rfl, Fz.mono (by omega), P1, HI, hB⟩
set_option maxRecDepth 100000 in
set_option maxHeartbeats 4000000 in
theorem ppair_neg (x y : Int) (hx : -9223372036854775808 ≤ x ∧ x < 9223372036854775808) (hy : -9223372036854775808 ≤ y ∧ y < 9223372036854775808) (h0 : y < 0) (w : World) :
    Calls Tryz.prog 16 #[.int .i64 x, .int .i64 y] w fun e w' => ∃ (b' : Bool) (a' : Option Addr) (ca' : Nat) (ts' : List Int) (c' : Option Addr) (cc' : Nat) (es' : List Int), e = .returned (.tuple #[.agg #[.bool b', .slice a' ts'.length ca', .slice c' es'.length cc'], .int .i64 0]) ∧ Fr w.heap.size w' a' ca' ts' c' cc' es' ∧ Apart a' c' ts' es' ∧ Is b' ts' es' (Rat.divInt x y) (1) ∧ Below w.heap.size w w' := by
  have hB := Below.refl w.heap.size w
  go_enter Tryz.func16, Tryz.ntmps16
  have hA := Below.refl w.heap.size w
  have hq := below_new w (.cells #[.bool false, .slice none 0 0, .slice none 0 0] 30)
  have ER := Box.put (w := w) (k := (w.heap.size)) (.cells #[.bool false, .slice none 0 0, .slice none 0 0] 30) rfl
  replace hA := hA.trans (hq.mono hA.size)
  replace hB := hB.trans (hq.mono hB.size)
  clear hq
  clear hA
  go_wp2_with fail
  obtain ⟨u1, hname⟩ := nm hB
  rw [hname] at hB ER ⊢
  have zh1 := hB.size
  clear hname
  refine (sof_any x hx _).mono ?_
  rintro e w2 ⟨g1, a1, c1, z1, rfl, S1, N1, v1, l1, hb⟩
  have V1 : Hid (sgn g1 (val z1) = x) := v1
  have b1 : z1.length ≤ 1 := by omega
  clear v1 l1
  replace ER := ER.below hb
  replace hB := hB.trans (hb.mono hB.size)
  have zz2 := hb.size
  have zh2 := hB.size
  clear hb
  obtain ⟨k0, k1, k2, f0, f1, f2⟩ := ER.three
  go_wp2_with fail
  clear k0 k1 k2 f0 f1 f2
  refine (sof_any y hy _).mono ?_
  rintro e w3 ⟨g2, a2, c2, z2, rfl, S2, N2, v2, l2, hb⟩
  have V2 : Hid (sgn g2 (val z2) = y) := v2
  have b2 : z2.length ≤ 1 := by omega
  clear v2 l2
  replace ER := ER.below hb
  replace S1 := S1.below hb
  replace hB := hB.trans (hb.mono hB.size)
  have zz3 := hb.size
  have zh3 := hB.size
  clear hb
  obtain rfl : g2 = true := side_neg V2.out (by omega) S2.words
  obtain ⟨k0, k1, k2, f0, f1, f2⟩ := ER.three
  have qER := ER.lt
  have hA := Below.refl w3.heap.size w3
  have hq := below_new w3 (.cells #[.bool g1, .slice a1 z1.length c1] 28)
  replace ER := ER.below hq
  replace S1 := S1.below hq
  replace S2 := S2.below hq
  have EA := Box.put (w := w3) (k := (w3.heap.size)) (.cells #[.bool g1, .slice a1 z1.length c1] 28) rfl
  replace hA := hA.trans (hq.mono hA.size)
  replace hB := hB.trans (hq.mono hB.size)
  clear hq
  have hq := below_new (w3.alloc (.cells #[.bool g1, .slice a1 z1.length c1] 28)) (.cells #[.bool true, .slice a2 z2.length c2] 28)
  replace ER := ER.below hq
  replace S1 := S1.below hq
  replace S2 := S2.below hq
  replace EA := EA.below hq
  have EB := Box.put (w := (w3.alloc (.cells #[.bool g1, .slice a1 z1.length c1] 28))) (k := (w3.heap.size + 1)) (.cells #[.bool true, .slice a2 z2.length c2] 28) (by simp)
  replace hA := hA.trans (hq.mono hA.size)
  replace hB := hB.trans (hq.mono hB.size)
  clear hq
  clear hA
  go_wp2_with fail
  clear k0 k1 k2 f0 f1 f2
  obtain ⟨u4, hname⟩ := nm hB
  rw [hname] at hB ER S1 S2 EA EB ⊢
  have zh4 := hB.size
  clear hname
  refine (sneg_any g1 S1 (by omega)).mono ?_
  rintro e w5 ⟨g3, a3, c3, z3, rfl, S3, N3, v3, l3, hb⟩
  have V3 : Hid (sgn g3 (val z3) = -x) := by rw [Hid, v3, V1.out]
  have b3 : z3.length ≤ 1 := by omega
  clear v3 l3
  replace ER := ER.below hb
  replace S1 := S1.below hb
  replace S2 := S2.below hb
  replace EA := EA.below hb
  replace EB := EB.below hb
  replace hB := hB.trans (hb.mono hB.size)
  have zz5 := hb.size
  have zh5 := hB.size
  clear hb
  have hv2 : Hid (val z2 = -y) := by have := V2.out; simp [sgn] at this; rw [Hid]; omega
  have hd2 : 0 < val z2 := by have := hv2.out; omega
  obtain ⟨k0, k1, k2, f0, f1, f2⟩ := ER.three
  obtain ⟨k3, k4, f3, f4⟩ := EA.two
  obtain ⟨k5, k6, f5, f6⟩ := EB.two
  have qER := ER.lt
  have qEA := EA.lt
  have qEB := EB.lt
  have hA := Below.refl w5.heap.size w5
  have hT := (((Turns.refl (w3.heap.size) w5).setCell 0 (.bool g3)).setCell 1 (.slice a3 z3.length c3))
  replace ER := ER.turns hT (by omega)
  replace S1 := S1.beside EA (noWord2 (fun _ e => by cases e) (fun _ e => by cases e)) hT
  replace S2 := S2.beside EA (noWord2 (fun _ e => by cases e) (fun _ e => by cases e)) hT
  replace EB := EB.turns hT (by omega)
  replace S3 := S3.beside EA (noWord2 (fun _ e => by cases e) (fun _ e => by cases e)) hT
  replace EA : Box ((w5.setCell ⟨w3.heap.size, 0, none⟩ (.bool g3)).setCell ⟨w3.heap.size, 1, none⟩ (.slice a3 z3.length c3)) (w3.heap.size) (.cells #[.bool g3, .slice a3 z3.length c3] 28) := ⟨Nat.lt_of_lt_of_le EA.lt hT.below.size, (heap_setCell_same _ _ 1 _ _ _ (heap_setCell_same _ _ 0 _ _ _ EA.what))⟩
  replace hB := hB.trans (hT.below.mono (by omega))
  clear hT
  clear hA
  go_wp2_with fail
  clear k0 k1 k2 f0 f1 f2 k3 k4 f3 f4 k5 k6 f5 f6
  obtain ⟨u6, hname⟩ := nm hB
  rw [hname] at hB ER S1 S2 EA EB S3 ⊢
  have zh6 := hB.size
  clear hname
  refine (pmake_ok (lo := 0) (n := 1) g3 ⟨S3.mono (Nat.zero_le _), S2.mono (Nat.zero_le _)⟩ (by omega) (by omega) (by omega) N3 hd2).mono ?_
  rintro e w7 ⟨g4, a4, c4, x4, e4, t4, y4, rfl, F4, P4, I4, hb⟩
  replace I4 : Is g4 x4 y4 (Rat.divInt x y) (1) := I4.to (by rw [V3.out, hv2.out, Rat.neg_divInt_neg])
  replace ER := ER.below hb
  replace S1 := S1.below hb
  replace S2 := S2.below hb
  replace EA := EA.below hb
  replace EB := EB.below hb
  replace S3 := S3.below hb
  replace hB := hB.trans (hb.mono hB.size)
  have zz7 := hb.size
  have zh7 := hB.size
  clear hb
  clear hd2
  obtain ⟨k0, k1, k2, f0, f1, f2⟩ := ER.three
  obtain ⟨k3, k4, f3, f4⟩ := EA.two
  obtain ⟨k5, k6, f5, f6⟩ := EB.two
  have hcc := ER.three
  have r0 := hcc.1
  have r1 := hcc.2.1
  have r2 := hcc.2.2.1
  clear hcc
  have qER := ER.lt
  have qEA := EA.lt
  have qEB := EB.lt
  have hA := Below.refl w7.heap.size w7
  have hT := turns3 (w.heap.size) w7 (.bool g4) (.slice a4 x4.length c4) (.slice e4 y4.length t4)
  replace S1 := S1.beside ER (noWord3 (fun _ e => by cases e) (fun _ e => by cases e) (fun _ e => by cases e)) hT
  replace S2 := S2.beside ER (noWord3 (fun _ e => by cases e) (fun _ e => by cases e) (fun _ e => by cases e)) hT
  replace EA := EA.turns hT (by omega)
  replace EB := EB.turns hT (by omega)
  replace S3 := S3.beside ER (noWord3 (fun _ e => by cases e) (fun _ e => by cases e) (fun _ e => by cases e)) hT
  replace F4 := F4.beside ER (noWord3 (fun _ e => by cases e) (fun _ e => by cases e) (fun _ e => by cases e)) hT
  replace ER := Box.set3 (.bool g4) (.slice a4 x4.length c4) (.slice e4 y4.length t4) ER
  replace hB := hB.trans (hT.below.mono (by omega))
  clear hT
  clear hA
  go_wp2
  refine bodyPost_ret (v := .tuple #[.agg #[.bool g4, .slice a4 x4.length c4, .slice e4 y4.length t4], .int .i64 0]) (by simp [results, Tryz.f16, go_sem, r0, r1, r2]) rfl ?_
  exact ⟨_, _, _, _, _, _, _, rfl, F4.mono (by omega), P4, I4, hB⟩
theorem lowest_is {b g : Bool} {xs ds z1 z2 : List Int} {N : Nat} (wx : Words xs) (hd : 0 < val ds) (N1 : Canon g z1) (V1 : Hid (sgn g (val z1) = sgn b (val xs / gcdI (val xs) (val ds)))) (V2 : Hid (val z2 = val ds / gcdI (val xs) (val ds))) (N2 : Norm z2) (l1 : z1.length ≤ N) (l2 : z2.length ≤ N) :
    Is g z1 z2 (Rat.divInt (sgn b (val xs)) (val ds)) N := by
  have hg := gcdI_gcd (val_nonneg wx) (Int.le_of_lt hd)
  have h1 := V1.out
  have h2 := V2.out
  rw [hg] at h1 h2
  obtain ⟨l, e⟩ := lowL_div hd N1 N2 h1 h2
  exact ⟨l, e, l1, l2⟩
set_option maxRecDepth 100000 in
set_option maxHeartbeats 4000000 in
theorem klowest_any {lo : Nat} {a c : Option Addr} {ca cc : Nat} {xs ds : List Int} {w : World} (b : Bool) (FA : Fr lo w a ca xs c cc ds) {n : Nat} (hl : xs.length ≤ n ∧ ds.length ≤ n) (hn : n ≤ 1000) (hd : 0 < val ds) :
    Calls Tryz.prog 52 #[.agg #[.bool b, .slice a xs.length ca], .slice c ds.length cc] w fun e w' => ∃ (b' : Bool) (a' : Option Addr) (ca' : Nat) (ts' : List Int) (c' : Option Addr) (cc' : Nat) (es' : List Int), e = .returned (.agg #[.bool b', .slice a' ts'.length ca', .slice c' es'.length cc']) ∧ Fr w.heap.size w' a' ca' ts' c' cc' es' ∧ Apart a' c' ts' es' ∧ Is b' ts' es' (Rat.divInt (sgn b (val xs)) (val ds)) (n) ∧ Below w.heap.size w w' := by
  have hB := Below.refl w.heap.size w
  have hgp := gcdI_posR (a := val xs) hd
  go_enter Tryz.func52, Tryz.ntmps52
  have hA := Below.refl w.heap.size w
  have hq := below_new w (.cells #[.bool b, .slice a xs.length ca] 28)
  replace FA := FA.below hq
  have EA := Box.put (w := w) (k := (w.heap.size)) (.cells #[.bool b, .slice a xs.length ca] 28) rfl
  replace hA := hA.trans (hq.mono hA.size)
  replace hB := hB.trans (hq.mono hB.size)
  clear hq
  have hq := below_new (w.alloc (.cells #[.bool b, .slice a xs.length ca] 28)) (.cells #[.bool false, .slice none 0 0, .slice none 0 0] 30)
  replace FA := FA.below hq
  replace EA := EA.below hq
  have ER := Box.put (w := (w.alloc (.cells #[.bool b, .slice a xs.length ca] 28))) (k := (w.heap.size + 1)) (.cells #[.bool false, .slice none 0 0, .slice none 0 0] 30) (by simp)
  replace hA := hA.trans (hq.mono hA.size)
  replace hB := hB.trans (hq.mono hB.size)
  clear hq
  clear hA
  go_wp2_with fail
  obtain ⟨u1, hname⟩ := nm hB
  rw [hname] at hB FA EA ER ⊢
  have zh1 := hB.size
  clear hname
  refine (rgcd_any FA.up FA.down (by omega) (by omega)).mono ?_
  rintro e w2 ⟨a1, c1, z1, rfl, S1, N1, v1, l1, hb⟩
  have V1 : Hid (val z1 = gcdI (val xs) (val ds)) := v1
  have b1 : z1.length ≤ n := by omega
  clear v1 l1
  replace FA := FA.below hb
  replace EA := EA.below hb
  replace ER := ER.below hb
  replace hB := hB.trans (hb.mono hB.size)
  have zz2 := hb.size
  have zh2 := hB.size
  clear hb
  obtain ⟨k0, k1, f0, f1⟩ := EA.two
  obtain ⟨k2, k3, k4, f2, f3, f4⟩ := ER.three
  go_wp2_with fail
  clear k0 k1 f0 f1 k2 k3 k4 f2 f3 f4
  have hk := rdiv_all FA.up S1 (by omega) (by omega)
  rw [V1.out, errZ_pos hgp] at hk
  refine (hk).mono ?_
  rintro e w3 ⟨a2, a3, c2, c3, z2, z3, rfl, S2, S3, N2, N3, v2, v3, hb⟩
  have b2 : z2.length ≤ n := Nat.le_trans (len_below S2.words N2 (by rw [v2]; exact Int.lt_of_le_of_lt (Int.ediv_le_self _ (val_nonneg FA.up.words)) (val_lt FA.up.words))) hl.1
  have V2 : Hid (val z2 = val xs / gcdI (val xs) (val ds)) := v2
  clear v2 v3 S3 N3
  replace FA := FA.below hb
  replace EA := EA.below hb
  replace ER := ER.below hb
  replace S1 := S1.below hb
  replace hB := hB.trans (hb.mono hB.size)
  have zz3 := hb.size
  have zh3 := hB.size
  clear hb
  clear hk
  obtain ⟨k0, k1, f0, f1⟩ := EA.two
  obtain ⟨k2, k3, k4, f2, f3, f4⟩ := ER.three
  go_wp2_with fail
  clear k0 k1 f0 f1 k2 k3 k4 f2 f3 f4
  have hk := rdiv_all FA.down S1 (by omega) (by omega)
  rw [V1.out, errZ_pos hgp] at hk
  refine (hk).mono ?_
  rintro e w4 ⟨a4, a5, c4, c5, z4, z5, rfl, S4, S5, N4, N5, v4, v5, hb⟩
  have b4 : z4.length ≤ n := Nat.le_trans (len_below S4.words N4 (by rw [v4]; exact Int.lt_of_le_of_lt (Int.ediv_le_self _ (val_nonneg FA.down.words)) (val_lt FA.down.words))) hl.2
  have V4 : Hid (val z4 = val ds / gcdI (val xs) (val ds)) := v4
  clear v4 v5 S5 N5
  replace FA := FA.below hb
  replace EA := EA.below hb
  replace ER := ER.below hb
  replace S1 := S1.below hb
  replace S2 := S2.below hb
  replace hB := hB.trans (hb.mono hB.size)
  have zz4 := hb.size
  have zh4 := hB.size
  clear hb
  clear hk
  have S4_0 := S4
  obtain ⟨k0, k1, f0, f1⟩ := EA.two
  obtain ⟨k2, k3, k4, f2, f3, f4⟩ := ER.three
  go_wp2_with fail
  clear k0 k1 f0 f1 k2 k3 k4 f2 f3 f4
  refine (imake_any S2 (by omega) b).mono ?_
  rintro e w5 ⟨g6, a6, c6, z6, rfl, S6, N6, v6, l6, hb⟩
  have V6 : Hid (sgn g6 (val z6) = sgn b (val xs / gcdI (val xs) (val ds))) := by rw [Hid, v6, V2.out]
  have b6 : z6.length ≤ n := by omega
  clear v6 l6
  replace FA := FA.below hb
  replace EA := EA.below hb
  replace ER := ER.below hb
  replace S1 := S1.below hb
  replace S2 := S2.below hb
  replace S4 := S4.below hb
  replace hB := hB.trans (hb.mono hB.size)
  have zz5 := hb.size
  have zh5 := hB.size
  clear hb
  have HI := lowest_is (N := n) FA.up.words hd N6 V6 V4 N4 (by omega) (by omega)
  have HAP := hide (apart_sym (apart_of (fun h b o e => S4_0.block h b o e) S6 (by omega)) : Apart a6 a4 z6 z4)
  obtain ⟨k0, k1, f0, f1⟩ := EA.two
  obtain ⟨k2, k3, k4, f2, f3, f4⟩ := ER.three
  have hcc := ER.three
  have r0 := hcc.1
  have r1 := hcc.2.1
  have r2 := hcc.2.2.1
  clear hcc
  have qEA := EA.lt
  have qER := ER.lt
  have hA := Below.refl w5.heap.size w5
  have hT := turns3 (w.heap.size + 1) w5 (.bool g6) (.slice a6 z6.length c6) (.slice a4 z4.length c4)
  replace FA := FA.beside ER (noWord3 (fun _ e => by cases e) (fun _ e => by cases e) (fun _ e => by cases e)) hT
  replace EA := EA.turns hT (by omega)
  replace S1 := S1.beside ER (noWord3 (fun _ e => by cases e) (fun _ e => by cases e) (fun _ e => by cases e)) hT
  replace S2 := S2.beside ER (noWord3 (fun _ e => by cases e) (fun _ e => by cases e) (fun _ e => by cases e)) hT
  replace S4 := S4.beside ER (noWord3 (fun _ e => by cases e) (fun _ e => by cases e) (fun _ e => by cases e)) hT
  replace S6 := S6.beside ER (noWord3 (fun _ e => by cases e) (fun _ e => by cases e) (fun _ e => by cases e)) hT
  replace ER := Box.set3 (.bool g6) (.slice a6 z6.length c6) (.slice a4 z4.length c4) ER
  replace hB := hB.trans (hT.below.mono (by omega))
  clear hT
  clear hA
  go_wp2
  refine bodyPost_ret (v := .agg #[.bool g6, .slice a6 z6.length c6, .slice a4 z4.length c4]) (by simp [results, Tryz.f52, go_sem, r0, r1, r2]) rfl ?_
  exact ⟨_, _, _, _, _, _, _, rfl, ⟨S6.mono (by omega), S4.mono (by omega)⟩, HAP.out, HI, hB⟩
set_option maxRecDepth 100000 in
set_option maxHeartbeats 1000000 in
theorem fold1_ok (K A E : Nat) (u : FrameMode) (w : World) (hk : w.cell? ⟨K, 0, none⟩ = some (.int .i64 0)) :
    CallsD Tryz.prog 44 #[.pointer (some ⟨K, 0, none⟩), .pointer (some ⟨A, 0, none⟩), .pointer (some ⟨E, 0, none⟩)] u w fun e u' w' => u' = u ∧ (e = .returned (.tuple #[]) ∧ w' = w) := by
  go_enter_d Tryz.func44, Tryz.ntmps44
  go_wp2
  go_end0
  exact ⟨rfl, rfl⟩
set_option maxRecDepth 100000 in
set_option maxHeartbeats 1000000 in
theorem fold1_no (K A : Nat) (x : Int) (hx : (x != 0) = true) (u : FrameMode) (w : World) (hk : w.cell? ⟨K, 0, none⟩ = some (.int .i64 x)) (ha0 ha1 ha2 he : Value) (h0 : w.cell? ⟨A, 0, none⟩ = some ha0) (h1 : w.cell? ⟨A, 1, none⟩ = some ha1) (h2 : w.cell? ⟨A, 2, none⟩ = some ha2) (h3 : w.cell? ⟨A + 1, 0, none⟩ = some he)
    (f0 : w.frozen? ⟨A, 0, none⟩ = false) (f1 : w.frozen? ⟨A, 1, none⟩ = false) (f2 : w.frozen? ⟨A, 2, none⟩ = false) (f3 : w.frozen? ⟨A + 1, 0, none⟩ = false) :
    CallsD Tryz.prog 44 #[.pointer (some ⟨K, 0, none⟩), .pointer (some ⟨A, 0, none⟩), .pointer (some ⟨A + 1, 0, none⟩)] u w fun e u' w' => u' = u ∧ (e = .returned (.tuple #[]) ∧ w' = (((w.setCell ⟨A, 0, none⟩ (.bool false)).setCell ⟨A, 1, none⟩ (.slice none 0 0)).setCell ⟨A, 2, none⟩ (.slice none 0 0)).setCell ⟨A + 1, 0, none⟩ (.int .i64 x)) := by
  go_enter_d Tryz.func44, Tryz.ntmps44
  go_wp2
  go_end0
  exact ⟨rfl, rfl⟩
structure RV where
  b : Bool
  a : Option Addr
  ca : Nat
  xs : List Int
  c : Option Addr
  cc : Nat
  ds : List Int
structure Row (lo : Nat) (W : World) (sv : Option Addr) (rs : List RV) : Prop where
  at_ : ∀ j, j < rs.length → ∃ g o, sv = some ⟨g, o, none⟩ ∧ g < W.heap.size
  cells : ∀ (g o j : Nat) (r : RV), sv = some ⟨g, o, none⟩ → rs[j]? = some r → W.cell? ⟨g, o + j * 3, none⟩ = some (.bool r.b) ∧ W.cell? ⟨g, o + j * 3 + 1, none⟩ = some (.slice r.a r.xs.length r.ca) ∧ W.cell? ⟨g, o + j * 3 + 2, none⟩ = some (.slice r.c r.ds.length r.cc)
  held : ∀ (j : Nat) (r : RV), rs[j]? = some r → Fr lo W r.a r.ca r.xs r.c r.cc r.ds
theorem Row.below {lo : Nat} {W W' : World} {sv : Option Addr} {rs : List RV} (h : Row lo W sv rs) (hb : Below W.heap.size W W') : Row lo W' sv rs := by
  refine ⟨fun j hj => ?_, fun g o j r e hr => ?_, fun j r hr => (h.held j r hr).below hb⟩
  · obtain ⟨g, o, e, hg⟩ := h.at_ j hj
    exact ⟨g, o, e, Nat.lt_of_lt_of_le hg hb.size⟩
  · obtain ⟨g', o', e', hg⟩ := h.at_ j (List.getElem?_eq_some_iff.1 hr).1
    rw [e] at e'
    simp only [Option.some.injEq, Addr.mk.injEq] at e'
    obtain ⟨rfl, rfl, _⟩ := e'
    obtain ⟨h0, h1, h2⟩ := h.cells g o j r e hr
    exact ⟨(hb.cell (p := ⟨g, o + j * 3, none⟩) hg).trans h0, (hb.cell (p := ⟨g, o + j * 3 + 1, none⟩) hg).trans h1, (hb.cell (p := ⟨g, o + j * 3 + 2, none⟩) hg).trans h2⟩
theorem Row.drew {lo : Nat} {W : World} {sv : Option Addr} {rs : List RV} (h : Row lo W sv rs) : Row lo W.drew sv rs := ⟨h.at_, h.cells, fun j r hr => (h.held j r hr).drew⟩
def RowOff (k : Nat) (sv : Option Addr) (rs : List RV) : Prop := rs ≠ [] → ∀ g o, sv = some ⟨g, o, none⟩ → g ≠ k
theorem Row.beside {lo : Nat} {W W' : World} {sv : Option Addr} {rs : List RV} {k : Nat} {cs : Array Value} {t : TypeId} (h : Row lo W sv rs) (hk : Box W k (.cells cs t (0, 0))) (hs : NoWord cs) (ht : Turns k W W') (hoff : RowOff k sv rs) : Row lo W' sv rs := by
  refine ⟨fun j hj => ?_, fun g o j r e hr => ?_, fun j r hr => (h.held j r hr).beside hk hs ht⟩
  · obtain ⟨g, o, e, hg⟩ := h.at_ j hj
    exact ⟨g, o, e, Nat.lt_of_lt_of_le hg ht.below.size⟩
  · obtain ⟨g', o', e', hg⟩ := h.at_ j (List.getElem?_eq_some_iff.1 hr).1
    rw [e] at e'
    simp only [Option.some.injEq, Addr.mk.injEq] at e'
    obtain ⟨rfl, rfl, _⟩ := e'
    obtain ⟨h0, h1, h2⟩ := h.cells g o j r e hr
    have hb := ht.other g (hoff (by rintro rfl; simp at hr) g o e) hg
    exact ⟨(World.cell?_of_block (a := ⟨g, o + j * 3, none⟩) hb).trans h0, (World.cell?_of_block (a := ⟨g, o + j * 3 + 1, none⟩) hb).trans h1, (World.cell?_of_block (a := ⟨g, o + j * 3 + 2, none⟩) hb).trans h2⟩
def RV.q (r : RV) : Rat := ratL r.b r.xs r.ds
def RV.good (r : RV) : Prop := formR r.b r.xs r.ds = 0
def opFold (op : Rat → Rat → Option Rat) : Rat → List RV → Option Rat
  | q, [] => some q
  | q, r :: rs => match op q r.q with | some t => opFold op t rs | none => none
theorem opFold_drop {op : Rat → Rat → Option Rat} {q : Rat} {rs : List RV} {i : Nat} {r : RV} (h : rs[i]? = some r) : opFold op q (rs.drop i) = match op q r.q with | some t => opFold op t (rs.drop (i + 1)) | none => none := by
  obtain ⟨hi, e⟩ := List.getElem?_eq_some_iff.1 h
  rw [List.drop_eq_getElem_cons hi, e]
  rfl
def AllGood (b : Bool) (xs ds : List Int) (rs : List RV) : Prop := formR b xs ds = 0 ∧ ∀ r ∈ rs, formR r.b r.xs r.ds = 0
def KeptIs (b : Bool) (xs ds : List Int) (rs : List RV) (x : Int) : Prop := (AllGood b xs ds rs ∧ x = 0) ∨ (¬ AllGood b xs ds rs ∧ x = 6)
def FoldAt (op : Rat → Rat → Option Rat) (w : World) (b : Bool) (a : Option Addr) (ca : Nat) (xs : List Int) (c : Option Addr) (cc : Nat) (ds : List Int) (rs : List RV) (n m i : Nat) (y : Int) (b1 : Bool) (a1 : Option Addr) (n1 : Nat) (x1 : List Int) (e1 : Option Addr) (m1 : Nat) (y1 : List Int) (W : World) : Prop :=
  (AllGood b xs ds rs ∧ y = 0 ∧ ∃ q1, Is b1 x1 y1 q1 (n + i * (m + 1)) ∧ Fr 0 W a1 n1 x1 e1 m1 y1 ∧ opFold op q1 (rs.drop i) = opFold op (ratL b xs ds) rs ∧ ((i = 0 ∧ b1 = b ∧ a1 = a ∧ n1 = ca ∧ x1 = xs ∧ e1 = c ∧ m1 = cc ∧ y1 = ds) ∨ (0 < i ∧ Fr w.heap.size W a1 n1 x1 e1 m1 y1 ∧ Apart a1 e1 x1 y1)))
  ∨ (AllGood b xs ds rs ∧ y = 5 ∧ opFold op (ratL b xs ds) rs = none)
  ∨ (¬ AllGood b xs ds rs ∧ y = 6)
def FoldSaid (op : Rat → Rat → Option Rat) (w : World) (b : Bool) (a : Option Addr) (ca : Nat) (xs : List Int) (c : Option Addr) (cc : Nat) (ds : List Int) (rs : List RV) (N : Nat) (e : Ending) (w' : World) : Prop :=
  (AllGood b xs ds rs ∧ ∃ t, opFold op (ratL b xs ds) rs = some t ∧ ∃ (b' : Bool) (a' : Option Addr) (ca' : Nat) (ts : List Int) (c' : Option Addr) (cc' : Nat) (es : List Int), e = .returned (.tuple #[.agg #[.bool b', .slice a' ts.length ca', .slice c' es.length cc'], .int .i64 0]) ∧ Is b' ts es t N ∧ ((rs = [] ∧ b' = b ∧ a' = a ∧ ca' = ca ∧ ts = xs ∧ c' = c ∧ cc' = cc ∧ es = ds) ∨ (Fr w.heap.size w' a' ca' ts c' cc' es ∧ Apart a' c' ts es)))
  ∨ (AllGood b xs ds rs ∧ opFold op (ratL b xs ds) rs = none ∧ e = .returned (.tuple #[.agg #[.bool false, .slice none 0 0, .slice none 0 0], .int .i64 5]))
  ∨ (¬ AllGood b xs ds rs ∧ e = .returned (.tuple #[.agg #[.bool false, .slice none 0 0, .slice none 0 0], .int .i64 6]))
section
variable {op : Rat → Rat → Option Rat} {w : World} {b : Bool} {a : Option Addr} {ca : Nat} {xs : List Int} {c : Option Addr} {cc : Nat} {ds : List Int} {rs : List RV} {n m i : Nat} {y : Int} {b1 : Bool} {a1 : Option Addr} {n1 : Nat} {x1 : List Int} {e1 : Option Addr} {m1 : Nat} {y1 : List Int} {W : World}
theorem FoldAt.start {lo : Nat} {x : Int} (hI : formR b xs ds = 0 → Is b xs ds (ratL b xs ds) n) (FA : Fr lo W a ca xs c cc ds) (HX : KeptIs b xs ds rs x) : FoldAt op w b a ca xs c cc ds rs n m 0 x b a ca xs c cc ds W := by
  rcases HX with ⟨h, rfl⟩ | ⟨h, rfl⟩
  · exact Or.inl ⟨h, rfl, _, (hI h.1).mono (by omega), FA.mono (Nat.zero_le _), rfl, Or.inl ⟨rfl, rfl, rfl, rfl, rfl, rfl, rfl, rfl⟩⟩
  · exact Or.inr (Or.inr ⟨h, rfl⟩)
structure FoldMid (op : Rat → Rat → Option Rat) (b : Bool) (xs ds : List Int) (rs : List RV) (i : Nat) (q1 : Rat) : Prop where
  good : AllGood b xs ds rs
  eq : opFold op q1 (rs.drop i) = opFold op (ratL b xs ds) rs
theorem FoldAt.go (h : FoldAt op w b a ca xs c cc ds rs n m i y b1 a1 n1 x1 e1 m1 y1 W) (hy : y = 0) : ∃ q1, Is b1 x1 y1 q1 (n + i * (m + 1)) ∧ Fr 0 W a1 n1 x1 e1 m1 y1 ∧ FoldMid op b xs ds rs i q1 := by
  rcases h with ⟨hg, _, q1, hi, hf, he, _⟩ | ⟨_, h5, _⟩ | ⟨_, h6⟩
  · exact ⟨q1, hi, hf, hg, he⟩
  · omega
  · omega
theorem FoldAt.allgood (h : FoldAt op w b a ca xs c cc ds rs n m i y b1 a1 n1 x1 e1 m1 y1 W) (hy : y = 0) : ∀ r ∈ rs, formR r.b r.xs r.ds = 0 := by
  obtain ⟨_, _, _, hm⟩ := h.go hy
  exact hm.good.2
theorem FoldAt.next {q1 t : Rat} {r : RV} {g2 : Bool} {a2 : Option Addr} {c2 : Nat} {x2 : List Int} {e2 : Option Addr} {t2 : Nat} {y2 : List Int} (HM : FoldMid op b xs ds rs i q1) (hr : rs[i]? = some r) (hu : op q1 r.q = some t) (F : Fr w.heap.size W a2 c2 x2 e2 t2 y2) (P : Apart a2 e2 x2 y2) (I : Is g2 x2 y2 t (n + i * (m + 1) + m + 1)) : FoldAt op w b a ca xs c cc ds rs n m (i + 1) 0 g2 a2 c2 x2 e2 t2 y2 W := by
  refine Or.inl ⟨HM.good, rfl, t, I.mono ?_, F.mono (Nat.zero_le _), ?_, Or.inr ⟨by omega, F, P⟩⟩
  · rw [Nat.add_mul, Nat.one_mul]; omega
  · rw [← HM.eq, opFold_drop hr, hu]
theorem FoldAt.stop {q1 : Rat} {r : RV} {g2 : Bool} {a2 : Option Addr} {c2 : Nat} {x2 : List Int} {e2 : Option Addr} {t2 : Nat} {y2 : List Int} (HM : FoldMid op b xs ds rs i q1) (hr : rs[i]? = some r) (hu : op q1 r.q = none) : FoldAt op w b a ca xs c cc ds rs n m (i + 1) 5 g2 a2 c2 x2 e2 t2 y2 W := by
  refine Or.inr (Or.inl ⟨HM.good, rfl, ?_⟩)
  rw [← HM.eq, opFold_drop hr, hu]
structure FoldFin (op : Rat → Rat → Option Rat) (w : World) (b : Bool) (a : Option Addr) (ca : Nat) (xs : List Int) (c : Option Addr) (cc : Nat) (ds : List Int) (rs : List RV) (N i : Nat) (y : Int) (b1 : Bool) (a1 : Option Addr) (n1 : Nat) (x1 : List Int) (e1 : Option Addr) (m1 : Nat) (y1 : List Int) (W : World) : Prop where
  atEnd : y = 0 → i = rs.length
  ok : y = 0 → AllGood b xs ds rs ∧ ∃ t, opFold op (ratL b xs ds) rs = some t ∧ Is b1 x1 y1 t N ∧ ((rs = [] ∧ b1 = b ∧ a1 = a ∧ n1 = ca ∧ x1 = xs ∧ e1 = c ∧ m1 = cc ∧ y1 = ds) ∨ (Fr w.heap.size W a1 n1 x1 e1 m1 y1 ∧ Apart a1 e1 x1 y1))
  no : y ≠ 0 → (AllGood b xs ds rs ∧ y = 5 ∧ opFold op (ratL b xs ds) rs = none) ∨ (¬ AllGood b xs ds rs ∧ y = 6)
theorem FoldAt.fin (h : FoldAt op w b a ca xs c cc ds rs n m i y b1 a1 n1 x1 e1 m1 y1 W) (hi : i ≤ rs.length) (hgo : ¬ (y = 0 ∧ i < rs.length)) : FoldFin op w b a ca xs c cc ds rs (n + rs.length * (m + 1)) i y b1 a1 n1 x1 e1 m1 y1 W := by
  refine ⟨fun hy => by have : ¬ i < rs.length := fun hl => hgo ⟨hy, hl⟩; omega, fun hy => ?_, fun hy => ?_⟩
  · have hi2 : i = rs.length := by have : ¬ i < rs.length := fun hl => hgo ⟨hy, hl⟩; omega
    rcases h with ⟨hg, _, q1, hI, hf, he, hm⟩ | ⟨_, h5, _⟩ | ⟨_, h6⟩
    · subst hi2
      rw [List.drop_length] at he
      refine ⟨hg, q1, he.symm, hI, ?_⟩
      rcases hm with ⟨h0, hm⟩ | ⟨_, hm⟩
      · exact Or.inl ⟨List.length_eq_zero_iff.1 h0, hm⟩
      · exact Or.inr hm
    · omega
    · omega
  · rcases h with ⟨_, h0, _⟩ | h | h
    · exact absurd h0 hy
    · exact Or.inl h
    · exact Or.inr h
end
set_option maxRecDepth 100000 in
set_option maxHeartbeats 4000000 in
theorem kwhole_any {lo : Nat} {a : Option Addr} {ca : Nat} {xs : List Int} {w : World} (h : Seg lo w (.slice a xs.length ca) xs) (hl : xs.length ≤ 10000) :
    Calls Tryz.prog 29 #[.slice a xs.length ca] w fun e w' => ∃ (b' : Bool) (a' : Option Addr) (cap' : Nat) (ts : List Int), e = .returned (.agg #[.bool b', .slice a' ts.length cap']) ∧ Seg w.heap.size w' (.slice a' ts.length cap') ts ∧ Canon b' ts ∧ Hid (sgn b' (val ts) = val xs) ∧ ts.length ≤ xs.length ∧ Below w.heap.size w w' := by
  have hB := Below.refl w.heap.size w
  go_enter Tryz.func29, Tryz.ntmps29
  have hs0 := Nat.le_refl w.heap.size
  have hq := below_new w (.cells #[.bool false, .slice none 0 0] 28)
  replace h := h.below hq
  have ER := Box.put (w := w) (k := (w.heap.size)) (.cells #[.bool false, .slice none 0 0] 28) rfl
  replace hs0 := Nat.le_trans hs0 hq.size
  replace hB := hB.trans (hq.mono hB.size)
  clear hq
  go_wp2_with fail
  obtain ⟨u1, hname⟩ := nm hB
  rw [hname] at hs0 hB h ER ⊢
  have zh1 := hB.size
  have zs1 := hs0
  clear hname hs0
  refine (imake_any h hl false).mono ?_
  rintro e w2 ⟨g1, a1, c1, z1, rfl, S1, N1, v1, l1, hb⟩
  have V1 : Hid (sgn g1 (val z1) = val xs) := v1
  have b1 : z1.length ≤ xs.length := by omega
  clear v1 l1
  replace h := h.below hb
  replace ER := ER.below hb
  replace hB := hB.trans (hb.mono hB.size)
  have zz2 := hb.size
  have zh2 := hB.size
  clear hb
  clear h
  obtain ⟨k0, k1, f0, f1⟩ := ER.two
  have hcc := ER.two
  have r0 := hcc.1
  have r1 := hcc.2.1
  clear hcc
  have qER := ER.lt
  have hs0 := Nat.le_refl w2.heap.size
  have hT := (((Turns.refl (w.heap.size) w2).setCell 0 (.bool g1)).setCell 1 (.slice a1 z1.length c1))
  replace S1 := S1.beside ER (noWord2 (fun _ e => by cases e) (fun _ e => by cases e)) hT
  replace ER : Box ((w2.setCell ⟨w.heap.size, 0, none⟩ (.bool g1)).setCell ⟨w.heap.size, 1, none⟩ (.slice a1 z1.length c1)) (w.heap.size) (.cells #[.bool g1, .slice a1 z1.length c1] 28) := ⟨Nat.lt_of_lt_of_le ER.lt hT.below.size, (heap_setCell_same _ _ 1 _ _ _ (heap_setCell_same _ _ 0 _ _ _ ER.what))⟩
  replace hB := hB.trans (hT.below.mono (by omega))
  replace hs0 := Nat.le_trans hs0 hT.below.size
  clear hT
  go_wp2
  refine bodyPost_ret (v := .agg #[.bool g1, .slice a1 z1.length c1]) (by simp [results, Tryz.f29, go_sem, r0, r1]) rfl ?_
  exact ⟨_, _, _, _, rfl, S1.mono (by omega), N1, V1, b1, hB⟩
set_option maxRecDepth 100000 in
set_option maxHeartbeats 4000000 in
theorem ksum_any {lo lo2 : Nat} {a c p r : Option Addr} {ca cc cp cr : Nat} {xs ds ys es : List Int} {w : World} {n m : Nat} {q s : Rat} (b g : Bool) (FA : Fr lo w a ca xs c cc ds) (FB : Fr lo2 w p cp ys r cr es) (IA : Is b xs ds q n) (IB : Is g ys es s m) (hn : n + m ≤ 400) :
    Calls Tryz.prog 26 #[.agg #[.bool b, .slice a xs.length ca, .slice c ds.length cc], .agg #[.bool g, .slice p ys.length cp, .slice r es.length cr]] w fun e w' => ∃ (b' : Bool) (a' : Option Addr) (ca' : Nat) (ts' : List Int) (c' : Option Addr) (cc' : Nat) (es' : List Int), e = .returned (.agg #[.bool b', .slice a' ts'.length ca', .slice c' es'.length cc']) ∧ Fr w.heap.size w' a' ca' ts' c' cc' es' ∧ Apart a' c' ts' es' ∧ Is b' ts' es' (q + s) (n + m + 1) ∧ Below w.heap.size w w' := by
  have lxa := IA.lu
  have lda := IA.ld
  have lxb := IB.lu
  have ldb := IB.ld
  have pd := IA.low.2.2.1
  have pe := IB.low.2.2.1
  have hB := Below.refl w.heap.size w
  obtain ⟨Q, hQ⟩ : ∃ Q, q + s = Q := ⟨_, rfl⟩
  rw [hQ]
  have HQ : Hid (Rat.divInt (sgn b (val xs) * val es + sgn g (val ys) * val ds) (val ds * val es) = Q) := by
    rw [Hid, ← hQ, ← IA.rat, ← IB.rat]
    exact (Rat.divInt_add_divInt _ _ (by omega) (by omega)).symm
  clear hQ
  go_enter Tryz.func26, Tryz.ntmps26
  have hs0 := Nat.le_refl w.heap.size
  have hq := below_new w (.cells #[.bool b, .slice a xs.length ca, .slice c ds.length cc] 30)
  replace FA := FA.below hq
  replace FB := FB.below hq
  have EA := Box.put (w := w) (k := (w.heap.size)) (.cells #[.bool b, .slice a xs.length ca, .slice c ds.length cc] 30) rfl
  replace hs0 := Nat.le_trans hs0 hq.size
  replace hB := hB.trans (hq.mono hB.size)
  clear hq
  have hq := below_new (w.alloc (.cells #[.bool b, .slice a xs.length ca, .slice c ds.length cc] 30)) (.cells #[.bool g, .slice p ys.length cp, .slice r es.length cr] 30)
  replace FA := FA.below hq
  replace FB := FB.below hq
  replace EA := EA.below hq
  have EB := Box.put (w := (w.alloc (.cells #[.bool b, .slice a xs.length ca, .slice c ds.length cc] 30))) (k := (w.heap.size + 1)) (.cells #[.bool g, .slice p ys.length cp, .slice r es.length cr] 30) (by simp)
  replace hs0 := Nat.le_trans hs0 hq.size
  replace hB := hB.trans (hq.mono hB.size)
  clear hq
  have hq := below_new ((w.alloc (.cells #[.bool b, .slice a xs.length ca, .slice c ds.length cc] 30)).alloc (.cells #[.bool g, .slice p ys.length cp, .slice r es.length cr] 30)) (.cells #[.bool false, .slice none 0 0, .slice none 0 0] 30)
  replace FA := FA.below hq
  replace FB := FB.below hq
  replace EA := EA.below hq
  replace EB := EB.below hq
  have ER := Box.put (w := ((w.alloc (.cells #[.bool b, .slice a xs.length ca, .slice c ds.length cc] 30)).alloc (.cells #[.bool g, .slice p ys.length cp, .slice r es.length cr] 30))) (k := (w.heap.size + 2)) (.cells #[.bool false, .slice none 0 0, .slice none 0 0] 30) (by simp)
  replace hs0 := Nat.le_trans hs0 hq.size
  replace hB := hB.trans (hq.mono hB.size)
  clear hq
  go_wp2_with fail
  obtain ⟨u1, hname⟩ := nm hB
  rw [hname] at hs0 hB FA FB EA EB ER ⊢
  have zh1 := hB.size
  have zs1 := hs0
  clear hname hs0
  replace FA := FA.drew
  replace FB := FB.drew
  have qEA := EA.lt
  replace EA := EA.drew
  have qEB := EB.lt
  replace EB := EB.drew
  have qER := ER.lt
  replace ER := ER.drew
  refine wp_yields 14 [.is (.pointer (some ⟨w.heap.size, 0, none⟩)), .is (.agg #[.bool b, .slice a xs.length ca]), .is (.pointer (some ⟨w.heap.size + 1, 2, none⟩)), .is (.slice r es.length cr), (Yield.int u1.heap.size (val es) (m)), (Yield.int u1.heap.size (sgn b (val xs) * val es) (n + m)), .is (.pointer (some ⟨w.heap.size + 1, 0, none⟩)), .is (.agg #[.bool g, .slice p ys.length cp]), .is (.pointer (some ⟨w.heap.size, 2, none⟩)), .is (.slice c ds.length cc), (Yield.int u1.heap.size (val ds) (n)), (Yield.int u1.heap.size (sgn g (val ys) * val ds) (n + m)), (Yield.int u1.heap.size (sgn b (val xs) * val es + sgn g (val ys) * val ds) (n + m + 1)), (.new u1.heap.size (.cells #[.bool false, .slice none 0 0] 28))] (by kernel_rfl) (by kernel_rfl) (lt_cons ?_ (lt_cons ?_ (lt_cons ?_ (lt_cons ?_ (lt_cons ?_ (lt_cons ?_ (lt_cons ?_ (lt_cons ?_ (lt_cons ?_ (lt_cons ?_ (lt_cons ?_ (lt_cons ?_ (lt_cons ?_ (lt_cons ?_ lt_nil)))))))))))))) ?_
  case refine_1 =>
    refine OpDoes.mk rfl ?_
    intro vs V hV hd K hK
    simp only [laidIn, lz1, lz2, lz3, lz4, lz5, lz6, if_true, Act.put, lz7, lz8, lz9] at hK ⊢
    go_simp
    exact hK.out _ _ ((Below.refl _ _).a1 _) ⟨_, rfl, Box.new _ _, hV.size⟩ (fresh_apart _ _ (fresh_new _))
  case refine_2 =>
    refine OpDoes.mk rfl ?_
    intro vs V hV hd K hK
    have hh := fun (P : Prop) => Yield.int_elim P (show ((Yield.int u1.heap.size (sgn b (val xs) * val es) (n + m)) : Yield).At (vs 5) V from hd 5 (by decide) (by kernel_rfl))
    refine hh _ ?_
    intro g2 a2 c2 z2 d5 S2 N2 V2 b2
    clear hh
    have hh := fun (P : Prop) => Yield.int_elim P (show ((Yield.int u1.heap.size (sgn g (val ys) * val ds) (n + m)) : Yield).At (vs 11) V from hd 11 (by decide) (by kernel_rfl))
    refine hh _ ?_
    intro g4 a4 c4 z4 d11 S4 N4 V4 b4
    clear hh
    simp only [laidIn, lz1, lz2, lz3, lz4, lz5, lz6, if_true, Act.put, lz7, lz8, lz9] at hK ⊢
    simp only [d5, d11] at hK ⊢
    go_simp
    go_at_call 50
    refine (iadd_any g2 g4 S2 S4 (by omega) (by omega)).mono ?_
    rintro e V' ⟨g5, a5, c5, z5, rfl, S5, N5, v5, l5, hb⟩
    have V5 : Hid (sgn g5 (val z5) = sgn b (val xs) * val es + sgn g (val ys) * val ds) := by rw [Hid, v5, V2.out, V4.out]
    have b5 : z5.length ≤ n + m + 1 := by omega
    clear v5 l5
    exact hK.out _ _ hb ⟨_, _, _, _, rfl, S5.mono hV.size, N5, V5, b5⟩ (not_fresh rfl)
  case refine_3 =>
    refine OpDoes.mk rfl ?_
    intro vs V hV hd K hK
    have d7 : vs 7 = .agg #[.bool g, .slice p ys.length cp] := hd 7 (by decide) (by kernel_rfl)
    have hh := fun (P : Prop) => Yield.int_elim P (show ((Yield.int u1.heap.size (val ds) (n)) : Yield).At (vs 10) V from hd 10 (by decide) (by kernel_rfl))
    refine hh _ ?_
    intro g3 a3 c3 z3 d10 S3 N3 V3 b3
    clear hh
    simp only [laidIn, lz1, lz2, lz3, lz4, lz5, lz6, if_true, Act.put, lz7, lz8, lz9] at hK ⊢
    simp only [d7, d10] at hK ⊢
    go_simp
    go_at_call 51
    refine (imul_any g g3 (FB.up.below hV) S3 (by omega) (by omega)).mono ?_
    rintro e V' ⟨g4, a4, c4, z4, rfl, S4, N4, v4, l4, hb⟩
    have V4 : Hid (sgn g4 (val z4) = sgn g (val ys) * val ds) := by rw [Hid, v4, V3.out]
    have b4 : z4.length ≤ n + m := by omega
    clear v4 l4
    exact hK.out _ _ hb ⟨_, _, _, _, rfl, S4.mono hV.size, N4, V4, b4⟩ (not_fresh rfl)
  case refine_4 =>
    refine OpDoes.mk rfl ?_
    intro vs V hV hd K hK
    have d9 : vs 9 = .slice c ds.length cc := hd 9 (by decide) (by kernel_rfl)
    simp only [laidIn, lz1, lz2, lz3, lz4, lz5, lz6, if_true, Act.put, lz7, lz8, lz9] at hK ⊢
    simp only [d9] at hK ⊢
    go_simp
    go_at_call 29
    refine (kwhole_any (FA.down.below hV) (by omega)).mono ?_
    rintro e V' ⟨g3, a3, c3, z3, rfl, S3, N3, v3, l3, hb⟩
    have V3 : Hid (sgn g3 (val z3) = val ds) := v3
    have b3 : z3.length ≤ n := by omega
    clear v3 l3
    exact hK.out _ _ hb ⟨_, _, _, _, rfl, S3.mono hV.size, N3, V3, b3⟩ (not_fresh rfl)
  case refine_5 =>
    refine OpDoes.mk rfl ?_
    intro vs V hV hd K hK
    have d8 : vs 8 = .pointer (some ⟨w.heap.size, 2, none⟩) := hd 8 (by decide) (by kernel_rfl)
    have hcc := (EA.below hV).three
    have k0 := hcc.1
    have k1 := hcc.2.1
    have k2 := hcc.2.2.1
    clear hcc
    simp only [laidIn, lz1, lz2, lz3, lz4, lz5, lz6, if_true, Act.put, lz7, lz8, lz9] at hK ⊢
    simp only [d8] at hK ⊢
    go_simp
    exact hK.out _ _ (Below.refl _ _) rfl (not_fresh rfl)
  case refine_6 =>
    refine OpDoes.mk rfl ?_
    intro vs V hV hd K hK
    simp only [laidIn, lz1, lz2, lz3, lz4, lz5, lz6, if_true, Act.put, lz7, lz8, lz9] at hK ⊢
    go_simp
    exact hK.out _ _ (Below.refl _ _) rfl (not_fresh rfl)
  case refine_7 =>
    refine OpDoes.mk rfl ?_
    intro vs V hV hd K hK
    have d6 : vs 6 = .pointer (some ⟨w.heap.size + 1, 0, none⟩) := hd 6 (by decide) (by kernel_rfl)
    have hcc := (EB.below hV).three
    have k0 := hcc.1
    have k1 := hcc.2.1
    have k2 := hcc.2.2.1
    clear hcc
    simp only [laidIn, lz1, lz2, lz3, lz4, lz5, lz6, if_true, Act.put, lz7, lz8, lz9] at hK ⊢
    simp only [d6] at hK ⊢
    go_simp
    exact hK.out _ _ (Below.refl _ _) rfl (not_fresh rfl)
  case refine_8 =>
    refine OpDoes.mk rfl ?_
    intro vs V hV hd K hK
    simp only [laidIn, lz1, lz2, lz3, lz4, lz5, lz6, if_true, Act.put, lz7, lz8, lz9] at hK ⊢
    go_simp
    exact hK.out _ _ (Below.refl _ _) rfl (not_fresh rfl)
  case refine_9 =>
    refine OpDoes.mk rfl ?_
    intro vs V hV hd K hK
    have d1 : vs 1 = .agg #[.bool b, .slice a xs.length ca] := hd 1 (by decide) (by kernel_rfl)
    have hh := fun (P : Prop) => Yield.int_elim P (show ((Yield.int u1.heap.size (val es) (m)) : Yield).At (vs 4) V from hd 4 (by decide) (by kernel_rfl))
    refine hh _ ?_
    intro g1 a1 c1 z1 d4 S1 N1 V1 b1
    clear hh
    simp only [laidIn, lz1, lz2, lz3, lz4, lz5, lz6, if_true, Act.put, lz7, lz8, lz9] at hK ⊢
    simp only [d1, d4] at hK ⊢
    go_simp
    go_at_call 51
    refine (imul_any b g1 (FA.up.below hV) S1 (by omega) (by omega)).mono ?_
    rintro e V' ⟨g2, a2, c2, z2, rfl, S2, N2, v2, l2, hb⟩
    have V2 : Hid (sgn g2 (val z2) = sgn b (val xs) * val es) := by rw [Hid, v2, V1.out]
    have b2 : z2.length ≤ n + m := by omega
    clear v2 l2
    exact hK.out _ _ hb ⟨_, _, _, _, rfl, S2.mono hV.size, N2, V2, b2⟩ (not_fresh rfl)
  case refine_10 =>
    refine OpDoes.mk rfl ?_
    intro vs V hV hd K hK
    have d3 : vs 3 = .slice r es.length cr := hd 3 (by decide) (by kernel_rfl)
    simp only [laidIn, lz1, lz2, lz3, lz4, lz5, lz6, if_true, Act.put, lz7, lz8, lz9] at hK ⊢
    simp only [d3] at hK ⊢
    go_simp
    go_at_call 29
    refine (kwhole_any (FB.down.below hV) (by omega)).mono ?_
    rintro e V' ⟨g1, a1, c1, z1, rfl, S1, N1, v1, l1, hb⟩
    have V1 : Hid (sgn g1 (val z1) = val es) := v1
    have b1 : z1.length ≤ m := by omega
    clear v1 l1
    exact hK.out _ _ hb ⟨_, _, _, _, rfl, S1.mono hV.size, N1, V1, b1⟩ (not_fresh rfl)
  case refine_11 =>
    refine OpDoes.mk rfl ?_
    intro vs V hV hd K hK
    have d2 : vs 2 = .pointer (some ⟨w.heap.size + 1, 2, none⟩) := hd 2 (by decide) (by kernel_rfl)
    have hcc := (EB.below hV).three
    have k0 := hcc.1
    have k1 := hcc.2.1
    have k2 := hcc.2.2.1
    clear hcc
    simp only [laidIn, lz1, lz2, lz3, lz4, lz5, lz6, if_true, Act.put, lz7, lz8, lz9] at hK ⊢
    simp only [d2] at hK ⊢
    go_simp
    exact hK.out _ _ (Below.refl _ _) rfl (not_fresh rfl)
  case refine_12 =>
    refine OpDoes.mk rfl ?_
    intro vs V hV hd K hK
    simp only [laidIn, lz1, lz2, lz3, lz4, lz5, lz6, if_true, Act.put, lz7, lz8, lz9] at hK ⊢
    go_simp
    exact hK.out _ _ (Below.refl _ _) rfl (not_fresh rfl)
  case refine_13 =>
    refine OpDoes.mk rfl ?_
    intro vs V hV hd K hK
    have d0 : vs 0 = .pointer (some ⟨w.heap.size, 0, none⟩) := hd 0 (by decide) (by kernel_rfl)
    have hcc := (EA.below hV).three
    have k0 := hcc.1
    have k1 := hcc.2.1
    have k2 := hcc.2.2.1
    clear hcc
    simp only [laidIn, lz1, lz2, lz3, lz4, lz5, lz6, if_true, Act.put, lz7, lz8, lz9] at hK ⊢
    simp only [d0] at hK ⊢
    go_simp
    exact hK.out _ _ (Below.refl _ _) rfl (not_fresh rfl)
  case refine_14 =>
    refine OpDoes.mk rfl ?_
    intro vs V hV hd K hK
    simp only [laidIn, lz1, lz2, lz4, lz5, lz6, if_true, Act.put, lz7, lz8, lz9] at hK ⊢
    go_simp
    exact hK.out _ _ (Below.refl _ _) rfl (not_fresh rfl)
  case refine_15 =>
    intro vs Y1 hV hR hne fuel
    have d0 : vs 0 = .pointer (some ⟨w.heap.size, 0, none⟩) := hR 0 (by decide)
    have d1 : vs 1 = .agg #[.bool b, .slice a xs.length ca] := hR 1 (by decide)
    have d2 : vs 2 = .pointer (some ⟨w.heap.size + 1, 2, none⟩) := hR 2 (by decide)
    have d3 : vs 3 = .slice r es.length cr := hR 3 (by decide)
    have hh := fun (P : Prop) => Yield.int_elim P (show ((Yield.int u1.heap.size (val es) (m)) : Yield).At (vs 4) Y1 from hR 4 (by decide))
    refine hh _ ?_
    intro g1 a1 c1 z1 d4 S1 N1 V1 b1
    clear hh
    have hh := fun (P : Prop) => Yield.int_elim P (show ((Yield.int u1.heap.size (sgn b (val xs) * val es) (n + m)) : Yield).At (vs 5) Y1 from hR 5 (by decide))
    refine hh _ ?_
    intro g2 a2 c2 z2 d5 S2 N2 V2 b2
    clear hh
    have d6 : vs 6 = .pointer (some ⟨w.heap.size + 1, 0, none⟩) := hR 6 (by decide)
    have d7 : vs 7 = .agg #[.bool g, .slice p ys.length cp] := hR 7 (by decide)
    have d8 : vs 8 = .pointer (some ⟨w.heap.size, 2, none⟩) := hR 8 (by decide)
    have d9 : vs 9 = .slice c ds.length cc := hR 9 (by decide)
    have hh := fun (P : Prop) => Yield.int_elim P (show ((Yield.int u1.heap.size (val ds) (n)) : Yield).At (vs 10) Y1 from hR 10 (by decide))
    refine hh _ ?_
    intro g3 a3 c3 z3 d10 S3 N3 V3 b3
    clear hh
    have hh := fun (P : Prop) => Yield.int_elim P (show ((Yield.int u1.heap.size (sgn g (val ys) * val ds) (n + m)) : Yield).At (vs 11) Y1 from hR 11 (by decide))
    refine hh _ ?_
    intro g4 a4 c4 z4 d11 S4 N4 V4 b4
    clear hh
    have hh := fun (P : Prop) => Yield.int_elim P (show ((Yield.int u1.heap.size (sgn b (val xs) * val es + sgn g (val ys) * val ds) (n + m + 1)) : Yield).At (vs 12) Y1 from hR 12 (by decide))
    refine hh _ ?_
    intro g5 a5 c5 z5 d12 S5 N5 V5 b5
    clear hh
    obtain ⟨k_E93, d13, E93, l_E93⟩ := (show ((.new u1.heap.size (.cells #[.bool false, .slice none 0 0] 28)) : Yield).At (vs 13) Y1 from hR 13 (by decide))
    replace FA := FA.below hV
    replace FB := FB.below hV
    replace EA := EA.below hV
    replace EB := EB.below hV
    replace ER := ER.below hV
    have hr := hV
    simp only [laidIn, lz4, lz5, lz6, if_true, Act.put, lz7, lz8, lz9]
    simp only [d0, d1, d2, d3, d4, d5, d6, d7, d8, d9, d10, d11, d12, d13]
    clear hR hne hV d0 d1 d2 d3 d4 d5 d6 d7 d8 d9 d10 d11 d12 d13
    clear vs
    show wpAny _ _ _ _ (fuel + 1) _ _ _
    refine wpAny_all (rs := [14]) (by kernel_rfl) (by simp) (fun i hi => ?_)
    obtain rfl : i = 14 := by simpa using hi
    clear hi
    have hcc := E93.two
    have k0 := hcc.1
    have k1 := hcc.2.1
    have f0 := hcc.2.2.1
    have f1 := hcc.2.2.2
    clear hcc
    refine wpOp_step rfl (fun K hK => ?_)
    simp only [lz1, lz2, lz3]
    rw [if_pos (by rfl)]
    go_simp
    refine hK _ _ ?_
    clear hK k0 f0 k1 f1
    have hT := (((Turns.refl (k_E93) Y1).setCell 0 (.bool g5)).setCell 1 (.slice a5 z5.length c5))
    replace FA := FA.beside E93 (noWord2 (fun _ e => by cases e) (fun _ e => by cases e)) hT
    replace FB := FB.beside E93 (noWord2 (fun _ e => by cases e) (fun _ e => by cases e)) hT
    replace EA := EA.turns hT (by omega)
    replace EB := EB.turns hT (by omega)
    replace ER := ER.turns hT (by omega)
    replace S1 := S1.beside E93 (noWord2 (fun _ e => by cases e) (fun _ e => by cases e)) hT
    replace S2 := S2.beside E93 (noWord2 (fun _ e => by cases e) (fun _ e => by cases e)) hT
    replace S3 := S3.beside E93 (noWord2 (fun _ e => by cases e) (fun _ e => by cases e)) hT
    replace S4 := S4.beside E93 (noWord2 (fun _ e => by cases e) (fun _ e => by cases e)) hT
    replace S5 := S5.beside E93 (noWord2 (fun _ e => by cases e) (fun _ e => by cases e)) hT
    replace E93 : Box ((Y1.setCell ⟨k_E93, 0, none⟩ (.bool g5)).setCell ⟨k_E93, 1, none⟩ (.slice a5 z5.length c5)) (k_E93) (.cells #[.bool g5, .slice a5 z5.length c5] 28) := ⟨Nat.lt_of_lt_of_le E93.lt hT.below.size, (heap_setCell_same _ _ 1 _ _ _ (heap_setCell_same _ _ 0 _ _ _ E93.what))⟩
    have hr14 := hT.below
    obtain ⟨X1, hX⟩ := nm hT.below
    rw [hX] at FA FB EA EB ER S1 S2 S3 S4 S5 E93 hr14 ⊢
    clear hX hT
    refine wpAny_done (by kernel_rfl) ?_ _
    replace hB := hB.trans ((Below.trans (Below.drew (Below.refl u1.heap.size u1)) hr).mono hB.size)
    replace hB := hB.trans (hr14.mono (by omega))
    have zz1_1 := hr.size
    have zi1 := hB.size
    have zy1_14 := hr14.size
    clear hr hr14
    clear S1 S2 S3 S4
    obtain ⟨k0, k1, k2, f0, f1, f2⟩ := EA.three
    obtain ⟨k3, k4, k5, f3, f4, f5⟩ := EB.three
    obtain ⟨k6, k7, k8, f6, f7, f8⟩ := ER.three
    obtain ⟨k9, k10, f9, f10⟩ := E93.two
    go_wp2_with fail
    clear k0 k1 k2 f0 f1 f2 k3 k4 k5 f3 f4 f5 k6 k7 k8 f6 f7 f8 k9 k10 f9 f10
    replace FA := FA.drew
    replace FB := FB.drew
    have qEA := EA.lt
    replace EA := EA.drew
    have qEB := EB.lt
    replace EB := EB.drew
    have qER := ER.lt
    replace ER := ER.drew
    replace S5 := S5.drew
    have qE93 := E93.lt
    replace E93 := E93.drew
    refine wp_yields 7 [.is (.agg #[.bool g5, .slice a5 z5.length c5]), .is (.pointer (some ⟨w.heap.size, 2, none⟩)), .is (.slice c ds.length cc), .is (.pointer (some ⟨w.heap.size + 1, 2, none⟩)), .is (.slice r es.length cr), (Yield.nat X1.heap.size (val ds * val es) (n + m)), (Yield.frac X1.heap.size (Q) (n + m + 1))] (by kernel_rfl) (by kernel_rfl) (lt_cons ?_ (lt_cons ?_ (lt_cons ?_ (lt_cons ?_ (lt_cons ?_ (lt_cons ?_ (lt_cons ?_ lt_nil))))))) ?_
    case refine_1 =>
      refine OpDoes.mk rfl ?_
      intro vs V hV hd K hK
      have d0 : vs 0 = .agg #[.bool g5, .slice a5 z5.length c5] := hd 0 (by decide) (by kernel_rfl)
      have hh := fun (P : Prop) => Yield.nat_elim P (show ((Yield.nat X1.heap.size (val ds * val es) (n + m)) : Yield).At (vs 5) V from hd 5 (by decide) (by kernel_rfl))
      refine hh _ ?_
      intro a6 c6 z6 d5 S6 N6 V6 b6
      clear hh
      simp only [laidIn, lz1, lz2, lz3, lz4, lz5, lz6, if_true, Act.put, lz7, lz8, lz9] at hK ⊢
      simp only [d0, d5] at hK ⊢
      go_simp
      go_at_call 52
      refine (klowest_any (n := n + m + 1) g5 ⟨(S5.below hV).mono (Nat.zero_le _), S6.mono (Nat.zero_le _)⟩ ⟨by omega, by omega⟩ (by omega) (by rw [V6.out]; exact Int.mul_pos pd pe)).mono ?_
      rintro e V' ⟨g7, a7, c7, x7, e7, t7, y7, rfl, F7, P7, I7, hb⟩
      replace I7 : Is g7 x7 y7 (Q) (n + m + 1) := I7.to (by rw [V5.out, V6.out]; exact HQ.out)
      exact hK.out _ _ hb ⟨_, _, _, _, _, _, _, rfl, F7.mono hV.size, P7, I7⟩ (not_fresh rfl)
    case refine_2 =>
      refine OpDoes.mk rfl ?_
      intro vs V hV hd K hK
      have d2 : vs 2 = .slice c ds.length cc := hd 2 (by decide) (by kernel_rfl)
      have d4 : vs 4 = .slice r es.length cr := hd 4 (by decide) (by kernel_rfl)
      simp only [laidIn, lz1, lz2, lz3, lz4, lz5, lz6, if_true, Act.put, lz7, lz8, lz9] at hK ⊢
      simp only [d2, d4] at hK ⊢
      go_simp
      go_at_call 53
      refine (rmul_any (FA.down.below hV) (FB.down.below hV) (by omega) (by omega)).mono ?_
      rintro e V' ⟨a6, c6, z6, rfl, S6, N6, v6, l6, hb⟩
      have V6 : Hid (val z6 = val ds * val es) := v6
      have b6 : z6.length ≤ n + m := by omega
      clear v6 l6
      exact hK.out _ _ hb ⟨_, _, _, rfl, S6.mono hV.size, N6, V6, b6⟩ (not_fresh rfl)
    case refine_3 =>
      refine OpDoes.mk rfl ?_
      intro vs V hV hd K hK
      have d3 : vs 3 = .pointer (some ⟨w.heap.size + 1, 2, none⟩) := hd 3 (by decide) (by kernel_rfl)
      have hcc := (EB.below hV).three
      have k0 := hcc.1
      have k1 := hcc.2.1
      have k2 := hcc.2.2.1
      clear hcc
      simp only [laidIn, lz1, lz2, lz3, lz4, lz5, lz6, if_true, Act.put, lz7, lz8, lz9] at hK ⊢
      simp only [d3] at hK ⊢
      go_simp
      exact hK.out _ _ (Below.refl _ _) rfl (not_fresh rfl)
    case refine_4 =>
      refine OpDoes.mk rfl ?_
      intro vs V hV hd K hK
      simp only [laidIn, lz1, lz2, lz3, lz4, lz5, lz6, if_true, Act.put, lz7, lz8, lz9] at hK ⊢
      go_simp
      exact hK.out _ _ (Below.refl _ _) rfl (not_fresh rfl)
    case refine_5 =>
      refine OpDoes.mk rfl ?_
      intro vs V hV hd K hK
      have d1 : vs 1 = .pointer (some ⟨w.heap.size, 2, none⟩) := hd 1 (by decide) (by kernel_rfl)
      have hcc := (EA.below hV).three
      have k0 := hcc.1
      have k1 := hcc.2.1
      have k2 := hcc.2.2.1
      clear hcc
      simp only [laidIn, lz1, lz2, lz3, lz4, lz5, lz6, if_true, Act.put, lz7, lz8, lz9] at hK ⊢
      simp only [d1] at hK ⊢
      go_simp
      exact hK.out _ _ (Below.refl _ _) rfl (not_fresh rfl)
    case refine_6 =>
      refine OpDoes.mk rfl ?_
      intro vs V hV hd K hK
      simp only [laidIn, lz1, lz2, lz3, lz4, lz5, lz6, if_true, Act.put, lz7, lz8, lz9] at hK ⊢
      go_simp
      exact hK.out _ _ (Below.refl _ _) rfl (not_fresh rfl)
    case refine_7 =>
      refine OpDoes.mk rfl ?_
      intro vs V hV hd K hK
      have hcc := (E93.below hV).two
      have k0 := hcc.1
      have k1 := hcc.2.1
      clear hcc
      simp only [laidIn, lz1, lz2, lz4, lz5, lz6, if_true, Act.put, lz7, lz8, lz9] at hK ⊢
      go_simp
      exact hK.out _ _ (Below.refl _ _) rfl (not_fresh rfl)
    case refine_8 =>
      intro vs Y2 hV hR hne fuel
      have d0 : vs 0 = .agg #[.bool g5, .slice a5 z5.length c5] := hR 0 (by decide)
      have d1 : vs 1 = .pointer (some ⟨w.heap.size, 2, none⟩) := hR 1 (by decide)
      have d2 : vs 2 = .slice c ds.length cc := hR 2 (by decide)
      have d3 : vs 3 = .pointer (some ⟨w.heap.size + 1, 2, none⟩) := hR 3 (by decide)
      have d4 : vs 4 = .slice r es.length cr := hR 4 (by decide)
      have hh := fun (P : Prop) => Yield.nat_elim P (show ((Yield.nat X1.heap.size (val ds * val es) (n + m)) : Yield).At (vs 5) Y2 from hR 5 (by decide))
      refine hh _ ?_
      intro a6 c6 z6 d5 S6 N6 V6 b6
      clear hh
      have hh := fun (P : Prop) => Yield.frac_elim P (show ((Yield.frac X1.heap.size (Q) (n + m + 1)) : Yield).At (vs 6) Y2 from hR 6 (by decide))
      refine hh _ ?_
      intro g7 a7 c7 x7 e7 t7 y7 d6 F7 P7 I7
      clear hh
      replace FA := FA.below hV
      replace FB := FB.below hV
      replace EA := EA.below hV
      replace EB := EB.below hV
      replace ER := ER.below hV
      replace S5 := S5.below hV
      replace E93 := E93.below hV
      have hr := hV
      simp only [laidIn, lz4, lz5, lz6, if_true, Act.put, lz7, lz8, lz9]
      simp only [d0, d1, d2, d3, d4, d5, d6]
      clear hR hne hV d0 d1 d2 d3 d4 d5 d6
      clear vs
      show wpAny _ _ _ _ (fuel + 1) _ _ _
      refine wpAny_all (rs := [7]) (by kernel_rfl) (by simp) (fun i hi => ?_)
      obtain rfl : i = 7 := by simpa using hi
      clear hi
      have hcc := ER.three
      have k0 := hcc.1
      have k1 := hcc.2.1
      have k2 := hcc.2.2.1
      have f0 := hcc.2.2.2.1
      have f1 := hcc.2.2.2.2.1
      have f2 := hcc.2.2.2.2.2
      clear hcc
      refine wpOp_step rfl (fun K hK => ?_)
      simp only [lz1, lz2, lz3]
      rw [if_pos (by rfl)]
      go_simp
      refine hK _ _ ?_
      clear hK k0 f0 k1 f1 k2 f2
      have hT := turns3 (w.heap.size + 2) Y2 (.bool g7) (.slice a7 x7.length c7) (.slice e7 y7.length t7)
      replace FA := FA.beside ER (noWord3 (fun _ e => by cases e) (fun _ e => by cases e) (fun _ e => by cases e)) hT
      replace FB := FB.beside ER (noWord3 (fun _ e => by cases e) (fun _ e => by cases e) (fun _ e => by cases e)) hT
      replace EA := EA.turns hT (by omega)
      replace EB := EB.turns hT (by omega)
      replace S5 := S5.beside ER (noWord3 (fun _ e => by cases e) (fun _ e => by cases e) (fun _ e => by cases e)) hT
      replace E93 := E93.turns hT (by omega)
      replace S6 := S6.beside ER (noWord3 (fun _ e => by cases e) (fun _ e => by cases e) (fun _ e => by cases e)) hT
      replace F7 := F7.beside ER (noWord3 (fun _ e => by cases e) (fun _ e => by cases e) (fun _ e => by cases e)) hT
      replace ER := Box.set3 (.bool g7) (.slice a7 x7.length c7) (.slice e7 y7.length t7) ER
      have hr7 := hT.below
      obtain ⟨X2, hX⟩ := nm hT.below
      rw [hX] at FA FB EA EB ER S5 E93 S6 F7 hr7 ⊢
      clear hX hT
      refine wpAny_done (by kernel_rfl) ?_ _
      replace hB := hB.trans ((Below.trans (Below.drew (Below.refl X1.heap.size X1)) hr).mono hB.size)
      replace hB := hB.trans (hr7.mono (by omega))
      have zz1_2 := hr.size
      have zi2 := hB.size
      have zy2_7 := hr7.size
      clear hr hr7
      obtain ⟨k0, k1, k2, f0, f1, f2⟩ := EA.three
      obtain ⟨k3, k4, k5, f3, f4, f5⟩ := EB.three
      obtain ⟨k6, k7, k8, f6, f7, f8⟩ := ER.three
      obtain ⟨k9, k10, f9, f10⟩ := E93.two
      have hcc := ER.three
      have r0 := hcc.1
      have r1 := hcc.2.1
      have r2 := hcc.2.2.1
      clear hcc
      go_wp2
      refine bodyPost_ret (v := .agg #[.bool g7, .slice a7 x7.length c7, .slice e7 y7.length t7]) (by simp [results, Tryz.f26, go_sem, r0, r1, r2]) rfl ?_
      exact ⟨_, _, _, _, _, _, _, rfl, F7.mono (by omega), P7, I7, hB⟩
set_option maxRecDepth 100000 in
set_option maxHeartbeats 4000000 in
theorem kproduct_any {lo lo2 : Nat} {a c p r : Option Addr} {ca cc cp cr : Nat} {xs ds ys es : List Int} {w : World} {n m : Nat} {q s : Rat} (b g : Bool) (FA : Fr lo w a ca xs c cc ds) (FB : Fr lo2 w p cp ys r cr es) (IA : Is b xs ds q n) (IB : Is g ys es s m) (hn : n + m ≤ 400) :
    Calls Tryz.prog 30 #[.agg #[.bool b, .slice a xs.length ca, .slice c ds.length cc], .agg #[.bool g, .slice p ys.length cp, .slice r es.length cr]] w fun e w' => ∃ (b' : Bool) (a' : Option Addr) (ca' : Nat) (ts' : List Int) (c' : Option Addr) (cc' : Nat) (es' : List Int), e = .returned (.agg #[.bool b', .slice a' ts'.length ca', .slice c' es'.length cc']) ∧ Fr w.heap.size w' a' ca' ts' c' cc' es' ∧ Apart a' c' ts' es' ∧ Is b' ts' es' (q * s) (n + m) ∧ Below w.heap.size w w' := by
  have lxa := IA.lu
  have lda := IA.ld
  have lxb := IB.lu
  have ldb := IB.ld
  have pd := IA.low.2.2.1
  have pe := IB.low.2.2.1
  have hB := Below.refl w.heap.size w
  obtain ⟨Q, hQ⟩ : ∃ Q, q * s = Q := ⟨_, rfl⟩
  rw [hQ]
  have HQ : Hid (Rat.divInt (sgn b (val xs) * sgn g (val ys)) (val ds * val es) = Q) := by
    rw [Hid, ← hQ, ← IA.rat, ← IB.rat]
    exact (Rat.divInt_mul_divInt _ _).symm
  clear hQ
  go_enter Tryz.func30, Tryz.ntmps30
  have hs0 := Nat.le_refl w.heap.size
  have hq := below_new w (.cells #[.bool b, .slice a xs.length ca, .slice c ds.length cc] 30)
  replace FA := FA.below hq
  replace FB := FB.below hq
  have EA := Box.put (w := w) (k := (w.heap.size)) (.cells #[.bool b, .slice a xs.length ca, .slice c ds.length cc] 30) rfl
  replace hs0 := Nat.le_trans hs0 hq.size
  replace hB := hB.trans (hq.mono hB.size)
  clear hq
  have hq := below_new (w.alloc (.cells #[.bool b, .slice a xs.length ca, .slice c ds.length cc] 30)) (.cells #[.bool g, .slice p ys.length cp, .slice r es.length cr] 30)
  replace FA := FA.below hq
  replace FB := FB.below hq
  replace EA := EA.below hq
  have EB := Box.put (w := (w.alloc (.cells #[.bool b, .slice a xs.length ca, .slice c ds.length cc] 30))) (k := (w.heap.size + 1)) (.cells #[.bool g, .slice p ys.length cp, .slice r es.length cr] 30) (by simp)
  replace hs0 := Nat.le_trans hs0 hq.size
  replace hB := hB.trans (hq.mono hB.size)
  clear hq
  have hq := below_new ((w.alloc (.cells #[.bool b, .slice a xs.length ca, .slice c ds.length cc] 30)).alloc (.cells #[.bool g, .slice p ys.length cp, .slice r es.length cr] 30)) (.cells #[.bool false, .slice none 0 0, .slice none 0 0] 30)
  replace FA := FA.below hq
  replace FB := FB.below hq
  replace EA := EA.below hq
  replace EB := EB.below hq
  have ER := Box.put (w := ((w.alloc (.cells #[.bool b, .slice a xs.length ca, .slice c ds.length cc] 30)).alloc (.cells #[.bool g, .slice p ys.length cp, .slice r es.length cr] 30))) (k := (w.heap.size + 2)) (.cells #[.bool false, .slice none 0 0, .slice none 0 0] 30) (by simp)
  replace hs0 := Nat.le_trans hs0 hq.size
  replace hB := hB.trans (hq.mono hB.size)
  clear hq
  go_wp2_with fail
  obtain ⟨u1, hname⟩ := nm hB
  rw [hname] at hs0 hB FA FB EA EB ER ⊢
  have zh1 := hB.size
  have zs1 := hs0
  clear hname hs0
  replace FA := FA.drew
  replace FB := FB.drew
  have qEA := EA.lt
  replace EA := EA.drew
  have qEB := EB.lt
  replace EB := EB.drew
  have qER := ER.lt
  replace ER := ER.drew
  refine wp_yields 11 [.is (.pointer (some ⟨w.heap.size, 0, none⟩)), .is (.agg #[.bool b, .slice a xs.length ca]), .is (.pointer (some ⟨w.heap.size + 1, 0, none⟩)), .is (.agg #[.bool g, .slice p ys.length cp]), (Yield.int u1.heap.size (sgn b (val xs) * sgn g (val ys)) (n + m)), .is (.pointer (some ⟨w.heap.size, 2, none⟩)), .is (.slice c ds.length cc), .is (.pointer (some ⟨w.heap.size + 1, 2, none⟩)), .is (.slice r es.length cr), (Yield.nat u1.heap.size (val ds * val es) (n + m)), (Yield.frac u1.heap.size (Q) (n + m))] (by kernel_rfl) (by kernel_rfl) (lt_cons ?_ (lt_cons ?_ (lt_cons ?_ (lt_cons ?_ (lt_cons ?_ (lt_cons ?_ (lt_cons ?_ (lt_cons ?_ (lt_cons ?_ (lt_cons ?_ (lt_cons ?_ lt_nil))))))))))) ?_
  case refine_1 =>
    refine OpDoes.mk rfl ?_
    intro vs V hV hd K hK
    have hh := fun (P : Prop) => Yield.int_elim P (show ((Yield.int u1.heap.size (sgn b (val xs) * sgn g (val ys)) (n + m)) : Yield).At (vs 4) V from hd 4 (by decide) (by kernel_rfl))
    refine hh _ ?_
    intro g1 a1 c1 z1 d4 S1 N1 V1 b1
    clear hh
    have hh := fun (P : Prop) => Yield.nat_elim P (show ((Yield.nat u1.heap.size (val ds * val es) (n + m)) : Yield).At (vs 9) V from hd 9 (by decide) (by kernel_rfl))
    refine hh _ ?_
    intro a2 c2 z2 d9 S2 N2 V2 b2
    clear hh
    simp only [laidIn, lz1, lz2, lz3, lz4, lz5, lz6, if_true, Act.put, lz7, lz8, lz9] at hK ⊢
    simp only [d4, d9] at hK ⊢
    go_simp
    go_at_call 52
    refine (klowest_any (n := n + m) g1 ⟨S1.mono (Nat.zero_le _), S2.mono (Nat.zero_le _)⟩ ⟨by omega, by omega⟩ (by omega) (by rw [V2.out]; exact Int.mul_pos pd pe)).mono ?_
    rintro e V' ⟨g3, a3, c3, x3, e3, t3, y3, rfl, F3, P3, I3, hb⟩
    replace I3 : Is g3 x3 y3 (Q) (n + m) := I3.to (by rw [V1.out, V2.out]; exact HQ.out)
    exact hK.out _ _ hb ⟨_, _, _, _, _, _, _, rfl, F3.mono hV.size, P3, I3⟩ (not_fresh rfl)
  case refine_2 =>
    refine OpDoes.mk rfl ?_
    intro vs V hV hd K hK
    have d6 : vs 6 = .slice c ds.length cc := hd 6 (by decide) (by kernel_rfl)
    have d8 : vs 8 = .slice r es.length cr := hd 8 (by decide) (by kernel_rfl)
    simp only [laidIn, lz1, lz2, lz3, lz4, lz5, lz6, if_true, Act.put, lz7, lz8, lz9] at hK ⊢
    simp only [d6, d8] at hK ⊢
    go_simp
    go_at_call 53
    refine (rmul_any (FA.down.below hV) (FB.down.below hV) (by omega) (by omega)).mono ?_
    rintro e V' ⟨a2, c2, z2, rfl, S2, N2, v2, l2, hb⟩
    have V2 : Hid (val z2 = val ds * val es) := v2
    have b2 : z2.length ≤ n + m := by omega
    clear v2 l2
    exact hK.out _ _ hb ⟨_, _, _, rfl, S2.mono hV.size, N2, V2, b2⟩ (not_fresh rfl)
  case refine_3 =>
    refine OpDoes.mk rfl ?_
    intro vs V hV hd K hK
    have d7 : vs 7 = .pointer (some ⟨w.heap.size + 1, 2, none⟩) := hd 7 (by decide) (by kernel_rfl)
    have hcc := (EB.below hV).three
    have k0 := hcc.1
    have k1 := hcc.2.1
    have k2 := hcc.2.2.1
    clear hcc
    simp only [laidIn, lz1, lz2, lz3, lz4, lz5, lz6, if_true, Act.put, lz7, lz8, lz9] at hK ⊢
    simp only [d7] at hK ⊢
    go_simp
    exact hK.out _ _ (Below.refl _ _) rfl (not_fresh rfl)
  case refine_4 =>
    refine OpDoes.mk rfl ?_
    intro vs V hV hd K hK
    simp only [laidIn, lz1, lz2, lz3, lz4, lz5, lz6, if_true, Act.put, lz7, lz8, lz9] at hK ⊢
    go_simp
    exact hK.out _ _ (Below.refl _ _) rfl (not_fresh rfl)
  case refine_5 =>
    refine OpDoes.mk rfl ?_
    intro vs V hV hd K hK
    have d5 : vs 5 = .pointer (some ⟨w.heap.size, 2, none⟩) := hd 5 (by decide) (by kernel_rfl)
    have hcc := (EA.below hV).three
    have k0 := hcc.1
    have k1 := hcc.2.1
    have k2 := hcc.2.2.1
    clear hcc
    simp only [laidIn, lz1, lz2, lz3, lz4, lz5, lz6, if_true, Act.put, lz7, lz8, lz9] at hK ⊢
    simp only [d5] at hK ⊢
    go_simp
    exact hK.out _ _ (Below.refl _ _) rfl (not_fresh rfl)
  case refine_6 =>
    refine OpDoes.mk rfl ?_
    intro vs V hV hd K hK
    simp only [laidIn, lz1, lz2, lz3, lz4, lz5, lz6, if_true, Act.put, lz7, lz8, lz9] at hK ⊢
    go_simp
    exact hK.out _ _ (Below.refl _ _) rfl (not_fresh rfl)
  case refine_7 =>
    refine OpDoes.mk rfl ?_
    intro vs V hV hd K hK
    have d1 : vs 1 = .agg #[.bool b, .slice a xs.length ca] := hd 1 (by decide) (by kernel_rfl)
    have d3 : vs 3 = .agg #[.bool g, .slice p ys.length cp] := hd 3 (by decide) (by kernel_rfl)
    simp only [laidIn, lz1, lz2, lz3, lz4, lz5, lz6, if_true, Act.put, lz7, lz8, lz9] at hK ⊢
    simp only [d1, d3] at hK ⊢
    go_simp
    go_at_call 51
    refine (imul_any b g (FA.up.below hV) (FB.up.below hV) (by omega) (by omega)).mono ?_
    rintro e V' ⟨g1, a1, c1, z1, rfl, S1, N1, v1, l1, hb⟩
    have V1 : Hid (sgn g1 (val z1) = sgn b (val xs) * sgn g (val ys)) := v1
    have b1 : z1.length ≤ n + m := by omega
    clear v1 l1
    exact hK.out _ _ hb ⟨_, _, _, _, rfl, S1.mono hV.size, N1, V1, b1⟩ (not_fresh rfl)
  case refine_8 =>
    refine OpDoes.mk rfl ?_
    intro vs V hV hd K hK
    have d2 : vs 2 = .pointer (some ⟨w.heap.size + 1, 0, none⟩) := hd 2 (by decide) (by kernel_rfl)
    have hcc := (EB.below hV).three
    have k0 := hcc.1
    have k1 := hcc.2.1
    have k2 := hcc.2.2.1
    clear hcc
    simp only [laidIn, lz1, lz2, lz3, lz4, lz5, lz6, if_true, Act.put, lz7, lz8, lz9] at hK ⊢
    simp only [d2] at hK ⊢
    go_simp
    exact hK.out _ _ (Below.refl _ _) rfl (not_fresh rfl)
  case refine_9 =>
    refine OpDoes.mk rfl ?_
    intro vs V hV hd K hK
    simp only [laidIn, lz1, lz2, lz3, lz4, lz5, lz6, if_true, Act.put, lz7, lz8, lz9] at hK ⊢
    go_simp
    exact hK.out _ _ (Below.refl _ _) rfl (not_fresh rfl)
  case refine_10 =>
    refine OpDoes.mk rfl ?_
    intro vs V hV hd K hK
    have d0 : vs 0 = .pointer (some ⟨w.heap.size, 0, none⟩) := hd 0 (by decide) (by kernel_rfl)
    have hcc := (EA.below hV).three
    have k0 := hcc.1
    have k1 := hcc.2.1
    have k2 := hcc.2.2.1
    clear hcc
    simp only [laidIn, lz1, lz2, lz3, lz4, lz5, lz6, if_true, Act.put, lz7, lz8, lz9] at hK ⊢
    simp only [d0] at hK ⊢
    go_simp
    exact hK.out _ _ (Below.refl _ _) rfl (not_fresh rfl)
  case refine_11 =>
    refine OpDoes.mk rfl ?_
    intro vs V hV hd K hK
    simp only [laidIn, lz1, lz2, lz4, lz5, lz6, if_true, Act.put, lz7, lz8, lz9] at hK ⊢
    go_simp
    exact hK.out _ _ (Below.refl _ _) rfl (not_fresh rfl)
  case refine_12 =>
    intro vs Y1 hV hR hne fuel
    have d0 : vs 0 = .pointer (some ⟨w.heap.size, 0, none⟩) := hR 0 (by decide)
    have d1 : vs 1 = .agg #[.bool b, .slice a xs.length ca] := hR 1 (by decide)
    have d2 : vs 2 = .pointer (some ⟨w.heap.size + 1, 0, none⟩) := hR 2 (by decide)
    have d3 : vs 3 = .agg #[.bool g, .slice p ys.length cp] := hR 3 (by decide)
    have hh := fun (P : Prop) => Yield.int_elim P (show ((Yield.int u1.heap.size (sgn b (val xs) * sgn g (val ys)) (n + m)) : Yield).At (vs 4) Y1 from hR 4 (by decide))
    refine hh _ ?_
    intro g1 a1 c1 z1 d4 S1 N1 V1 b1
    clear hh
    have d5 : vs 5 = .pointer (some ⟨w.heap.size, 2, none⟩) := hR 5 (by decide)
    have d6 : vs 6 = .slice c ds.length cc := hR 6 (by decide)
    have d7 : vs 7 = .pointer (some ⟨w.heap.size + 1, 2, none⟩) := hR 7 (by decide)
    have d8 : vs 8 = .slice r es.length cr := hR 8 (by decide)
    have hh := fun (P : Prop) => Yield.nat_elim P (show ((Yield.nat u1.heap.size (val ds * val es) (n + m)) : Yield).At (vs 9) Y1 from hR 9 (by decide))
    refine hh _ ?_
    intro a2 c2 z2 d9 S2 N2 V2 b2
    clear hh
    have hh := fun (P : Prop) => Yield.frac_elim P (show ((Yield.frac u1.heap.size (Q) (n + m)) : Yield).At (vs 10) Y1 from hR 10 (by decide))
    refine hh _ ?_
    intro g3 a3 c3 x3 e3 t3 y3 d10 F3 P3 I3
    clear hh
    replace FA := FA.below hV
    replace FB := FB.below hV
    replace EA := EA.below hV
    replace EB := EB.below hV
    replace ER := ER.below hV
    have hr := hV
    simp only [laidIn, lz4, lz5, lz6, if_true, Act.put, lz7, lz8, lz9]
    simp only [d0, d1, d2, d3, d4, d5, d6, d7, d8, d9, d10]
    clear hR hne hV d0 d1 d2 d3 d4 d5 d6 d7 d8 d9 d10
    clear vs
    show wpAny _ _ _ _ (fuel + 1) _ _ _
    refine wpAny_all (rs := [11]) (by kernel_rfl) (by simp) (fun i hi => ?_)
    obtain rfl : i = 11 := by simpa using hi
    clear hi
    have hcc := ER.three
    have k0 := hcc.1
    have k1 := hcc.2.1
    have k2 := hcc.2.2.1
    have f0 := hcc.2.2.2.1
    have f1 := hcc.2.2.2.2.1
    have f2 := hcc.2.2.2.2.2
    clear hcc
    refine wpOp_step rfl (fun K hK => ?_)
    simp only [lz1, lz2, lz3]
    rw [if_pos (by rfl)]
    go_simp
    refine hK _ _ ?_
    clear hK k0 f0 k1 f1 k2 f2
    have hT := turns3 (w.heap.size + 2) Y1 (.bool g3) (.slice a3 x3.length c3) (.slice e3 y3.length t3)
    replace FA := FA.beside ER (noWord3 (fun _ e => by cases e) (fun _ e => by cases e) (fun _ e => by cases e)) hT
    replace FB := FB.beside ER (noWord3 (fun _ e => by cases e) (fun _ e => by cases e) (fun _ e => by cases e)) hT
    replace EA := EA.turns hT (by omega)
    replace EB := EB.turns hT (by omega)
    replace S1 := S1.beside ER (noWord3 (fun _ e => by cases e) (fun _ e => by cases e) (fun _ e => by cases e)) hT
    replace S2 := S2.beside ER (noWord3 (fun _ e => by cases e) (fun _ e => by cases e) (fun _ e => by cases e)) hT
    replace F3 := F3.beside ER (noWord3 (fun _ e => by cases e) (fun _ e => by cases e) (fun _ e => by cases e)) hT
    replace ER := Box.set3 (.bool g3) (.slice a3 x3.length c3) (.slice e3 y3.length t3) ER
    have hr11 := hT.below
    obtain ⟨X1, hX⟩ := nm hT.below
    rw [hX] at FA FB EA EB ER S1 S2 F3 hr11 ⊢
    clear hX hT
    refine wpAny_done (by kernel_rfl) ?_ _
    replace hB := hB.trans ((Below.trans (Below.drew (Below.refl u1.heap.size u1)) hr).mono hB.size)
    replace hB := hB.trans (hr11.mono (by omega))
    have zz1_1 := hr.size
    have zi1 := hB.size
    have zy1_11 := hr11.size
    clear hr hr11
    obtain ⟨k0, k1, k2, f0, f1, f2⟩ := EA.three
    obtain ⟨k3, k4, k5, f3, f4, f5⟩ := EB.three
    obtain ⟨k6, k7, k8, f6, f7, f8⟩ := ER.three
    have hcc := ER.three
    have r0 := hcc.1
    have r1 := hcc.2.1
    have r2 := hcc.2.2.1
    clear hcc
    go_wp2
    refine bodyPost_ret (v := .agg #[.bool g3, .slice a3 x3.length c3, .slice e3 y3.length t3]) (by simp [results, Tryz.f30, go_sem, r0, r1, r2]) rfl ?_
    exact ⟨_, _, _, _, _, _, _, rfl, F3.mono (by omega), P3, I3, hB⟩
end Go.Proofs.YtegopbhidgbjpaaGreat
