/-
  The walks of the document's answers of layer 4: Sub, Cmp.
-/
import Derived.Test.YtjoakmhebcfeaaaWholeE
namespace Go.Proofs.Ytjoakmhebcfeaaa
open Go.RowKit

theorem cmpI_sub (x y : Int) : cmpI (x - y) 0 = cmpI x y := by
  rcases Int.lt_trichotomy x y with g | g | g
  · rw [cmpI_lt g, cmpI_lt (by omega)]
  · rw [g, cmpI_eq, Int.sub_self, cmpI_eq]
  · rw [cmpI_gt g, cmpI_gt (by omega)]

set_option maxRecDepth 100000 in
set_option maxHeartbeats 2000000 in
/-- The document's Sub. -/
theorem isub_any {lo lo' : Nat} {a c : Option Addr} {n ca m cc : Nat} {xs ys : List Int} {w : World} (b d : Bool) (h : Seg lo w (.slice a n ca) xs) (h' : Seg lo' w (.slice c m cc) ys) (hl : xs.length ≤ 2000) (hl' : ys.length ≤ 2000) :
    Calls Try.prog 29 #[.agg #[.bool b, .slice a n ca], .agg #[.bool d, .slice c m cc]] w fun e w' => ∃ (b' : Bool) (a' : Option Addr) (cap' : Nat) (ts : List Int), e = .returned (.agg #[.bool b', .slice a' ts.length cap']) ∧ Seg w.heap.size w' (.slice a' ts.length cap') ts ∧ Canon b' ts ∧ sgn b' (val ts) = sgn b (val xs) - sgn d (val ys) ∧ ts.length ≤ max xs.length ys.length + 1 ∧ Below w.heap.size w w' := by
  obtain ⟨rfl, _⟩ := h.len
  obtain ⟨rfl, _⟩ := h'.len
  obtain ⟨e1, e2, e3, hB0, hz⟩ := three_new w (.cells #[.bool b, .slice a xs.length ca] 25) (.cells #[.bool d, .slice c ys.length cc] 25) (.cells #[.bool false, .slice none 0 0] 25)
  go_enter Try.func29, Try.ntmps29
  go_wp2_with fail
  obtain ⟨w0, hw0⟩ : ∃ w0, (((w.alloc (.cells #[.bool b, .slice a xs.length ca] 25)).alloc (.cells #[.bool d, .slice c ys.length cc] 25)).alloc (.cells #[.bool false, .slice none 0 0] 25)) = w0 := ⟨_, rfl⟩
  rw [hw0] at e1 e2 e3 hB0 hz ⊢
  have HZ := hide hz
  clear hw0 hz
  have hng : ∀ W, Below w0.heap.size w0 W → Calls Try.prog 31 #[.agg #[.bool d, .slice c ys.length cc]] W fun e w' => ∃ (b' : Bool) (a' : Option Addr) (cap' : Nat) (ts : List Int), e = .returned (.agg #[.bool b', .slice a' ts.length cap']) ∧ Seg W.heap.size w' (.slice a' ts.length cap') ts ∧ Canon b' ts ∧ sgn b' (val ts) = -sgn d (val ys) ∧ ts.length ≤ ys.length ∧ Below W.heap.size W w' := fun W hW =>
    ineg_any d ((h'.below hB0).below hW) (by omega)
  have hkeep : ∀ W, Below (w.heap.size + 2) w0 W → W.cell? ⟨w.heap.size, 0, none⟩ = some (.bool b) ∧ W.cell? ⟨w.heap.size, 1, none⟩ = some (.slice a xs.length ca) ∧ W.cell? ⟨w.heap.size + 1, 0, none⟩ = some (.bool d) ∧ W.cell? ⟨w.heap.size + 1, 1, none⟩ = some (.slice c ys.length cc) := fun W hW => by
    obtain ⟨p0, p1, _, _⟩ := two_cells e1 hW (by omega)
    obtain ⟨q0, q1, _, _⟩ := two_cells e2 hW (by omega)
    exact ⟨p0, p1, q0, q1⟩
  go_region_held3 (fun W => W.cell? ⟨w.heap.size, 0, none⟩ = some (.bool b) ∧ W.cell? ⟨w.heap.size, 1, none⟩ = some (.slice a xs.length ca) ∧ W.cell? ⟨w.heap.size + 1, 0, none⟩ = some (.bool d) ∧ W.cell? ⟨w.heap.size + 1, 1, none⟩ = some (.slice c ys.length cc))
    (first | exact hkeep _ ⟨rfl, rfl, rfl, Nat.le_refl _, fun _ _ => rfl⟩ | exact hk1.out | exact hk2.out | exact hk3.out)
    (first
    | (go_at_call 31
       refine (hng _ ?_).mono ?_
       exact ⟨rfl, rfl, rfl, Nat.le_refl _, fun _ _ => rfl⟩
       rintro e w1 ⟨b1, a1, c1, zs, rfl, hs1, hn1, hv1, hl1, hb1⟩
       have hb1' : Below w0.heap.size w0 w1 := ⟨hb1.1, hb1.2, hb1.3, hb1.4, hb1.5⟩
       have hk1 := hide (hkeep w1 (hb1'.mono (by have := HZ.out; omega)))
       have hx1 := (h.below hB0).below hb1'
       have HV1 := hide hv1
       clear hb1 hv1)
    | (go_at_call 28
       refine (iadd_any b b1 hx1 hs1 (by omega) (by omega)).mono ?_
       rintro e w2 ⟨b2, a2, c2, ts, rfl, hs2, hc2, hv2, hl2, hb2⟩
       have hb2' : Below w0.heap.size w0 w2 := hb1'.trans (hb2.mono hb1'.size)
       obtain ⟨r0, r1, r2, r3⟩ := two_cells e3 hb2' (by have := HZ.out; omega)
       have hT := turns2 (w.heap.size + 2) w2 (.bool b2) (.slice a2 ts.length c2)
       have hk2 := hide (hkeep w2 (hb2'.mono (by have := HZ.out; omega)))
       have hk3 := hide (hkeep _ ((hb2'.mono (by have := HZ.out; omega)).trans hT.below))
       have HV2 := hide hv2
       clear hv2))
  all_goals
    have hS := (hs2.turns_lo hT (by have := HZ.out; have := hb1'.size; omega)).mono (show w.heap.size ≤ w1.heap.size from Nat.le_trans hB0.size hb1'.size)
    have hbw2 := hB0.trans (hb2'.mono hB0.size)
    have hBB := hbw2.trans (hT.below.mono (by omega))
    go_wp2
    refine bodyPost_ret (v := .agg #[.bool b2, .slice a2 ts.length c2]) (by simp [results, Try.f29, go_sem, r0, r1]) rfl ?_
    exact ⟨b2, _, _, ts, rfl, hS, hc2, by rw [HV2.out, HV1.out, Int.sub_eq_add_neg], by omega, hBB⟩

set_option maxRecDepth 100000 in
set_option maxHeartbeats 2000000 in
/-- The document's Cmp. -/
theorem icmp_any {lo lo' : Nat} {a c : Option Addr} {n ca m cc : Nat} {xs ys : List Int} {w : World} (b d : Bool) (h : Seg lo w (.slice a n ca) xs) (h' : Seg lo' w (.slice c m cc) ys) (hl : xs.length ≤ 2000) (hl' : ys.length ≤ 2000) :
    Calls Try.prog 33 #[.agg #[.bool b, .slice a n ca], .agg #[.bool d, .slice c m cc]] w fun e w' => e = .returned (.int .i64 (cmpI (sgn b (val xs)) (sgn d (val ys)))) ∧ Below w.heap.size w w' := by
  obtain ⟨rfl, _⟩ := h.len
  obtain ⟨rfl, _⟩ := h'.len
  have hB0 : Below w.heap.size w ((w.alloc (.cells #[.bool b, .slice a xs.length ca] 25)).alloc (.cells #[.bool d, .slice c ys.length cc] 25)) := ((Below.refl _ w).alloc (Nat.le_refl _) _).alloc (by simp) _
  have hsb := isub_any b d (h.below hB0) (h'.below hB0) hl hl'
  go_enter Try.func33, Try.ntmps33
  go_wp2_with fail
  refine hsb.mono ?_
  rintro e w1 ⟨b1, a1, c1, ts, rfl, hs1, hc1, hv1, hl1, hb1⟩
  have HV1 := hide hv1
  have hsg := isign_any b1 hs1 (by omega)
  clear hv1 hsb
  go_wp2_with fail
  refine hsg.mono ?_
  rintro e w2 ⟨rfl, hb2⟩
  have hB2 := (hB0.trans (hb1.mono hB0.size)).trans (hb2.mono (Nat.le_trans hB0.size hb1.size))
  clear hsg
  go_wp2
  go_ret
  exact ⟨ret_int (by rw [HV1.out, cmpI_sub]), hB2⟩

end Go.Proofs.Ytjoakmhebcfeaaa
