/-
  The walk of signed's Cmp, the last of its contracts.
-/
import Derived.Test.YtjoakmhebcfeaaaSigD
namespace Go.Proofs.Ytjoakmhebcfeaaa
open Go.RowKit

theorem cmpI_neg (x y : Int) : cmpI (-x) (-y) = cmpI y x := by
  rcases Int.lt_trichotomy x y with g | g | g
  · rw [cmpI_gt g, cmpI_gt (by omega)]
  · rw [g, cmpI_eq, cmpI_eq]
  · rw [cmpI_lt g, cmpI_lt (by omega)]

set_option maxRecDepth 100000 in
set_option maxHeartbeats 4000000 in
/-- Cmp. -/
theorem scmp_any {lo lo' : Nat} {a c : Option Addr} {n ca m cc : Nat} {xs ys : List Int} {w : World} (b d : Bool) (h : Seg lo w (.slice a n ca) xs) (h' : Seg lo' w (.slice c m cc) ys) (hl : xs.length ≤ 2000) (hl' : ys.length ≤ 2000) :
    Calls Try.prog 32 #[.agg #[.bool b, .slice a n ca], .agg #[.bool d, .slice c m cc]] w fun e w' => e = .returned (.int .i64 (cmpI (sgn b (val xs)) (sgn d (val ys)))) ∧ Below w.heap.size w w' := by
  obtain ⟨rfl, _⟩ := h.len
  obtain ⟨rfl, _⟩ := h'.len
  obtain ⟨e1, e2, hB0, hz⟩ := two_new w (.cells #[.bool b, .slice a xs.length ca] 25) (.cells #[.bool d, .slice c ys.length cc] 25)
  go_enter Try.func32, Try.ntmps32
  go_wp2_with fail
  obtain ⟨w0, hw0⟩ : ∃ w0, ((w.alloc (.cells #[.bool b, .slice a xs.length ca] 25)).alloc (.cells #[.bool d, .slice c ys.length cc] 25)) = w0 := ⟨_, rfl⟩
  rw [hw0] at e1 e2 hB0 hz ⊢
  have HZ := hide hz
  clear hw0 hz
  have hsA := fun W (hW : Below w0.heap.size w0 W) => sided_any b ((h.below hB0).below hW) (by omega) (K := fun V => Below w.heap.size w V) (fun V hV => h.below hV)
  have hsB := fun W (hW : Below w0.heap.size w0 W) => sided_any d ((h'.below hB0).below hW) (by omega) (K := fun V => Below w.heap.size w V) (fun V hV => h'.below hV)
  obtain ⟨p0, p1, p2, p3⟩ := two_cells e1 (Below.refl w0.heap.size w0) (by have := HZ.out; omega)
  obtain ⟨q0, q1, q2, q3⟩ := two_cells e2 (Below.refl w0.heap.size w0) (by have := HZ.out; omega)
  have m1 : Hid True := trivial
  go_region_with
    (first
    | (go_at_call 47
       clear m1
       refine (hsA _ ?_).mono ?_
       exact ⟨rfl, rfl, rfl, Nat.le_refl _, fun _ _ => rfl⟩
       rintro e w1 ⟨b1, a1, c1, t1, rfl, hk1, ho1, hv1, hl1, hb1⟩
       have hb1' : Below w0.heap.size w0 w1 := ⟨hb1.1, hb1.2, hb1.3, hb1.4, hb1.5⟩
       obtain ⟨i0, i1, i2, i3⟩ := two_cells e1 hb1' (by have := HZ.out; omega)
       obtain ⟨j0, j1, j2, j3⟩ := two_cells e2 hb1' (by have := HZ.out; omega)
       have HV1 := hide hv1
       have HO1 := hide ho1
       have HK1 := hide hk1
       clear hb1 hv1 ho1 hk1)
    | (go_at_call 47
       refine (hsB _ ?_).mono ?_
       exact ⟨hb1'.1, hb1'.2, hb1'.3, hb1'.4, hb1'.5⟩
       rintro e w2 ⟨b2, a2, c2, t2, rfl, hk2, ho2, hv2, hl2, hb2⟩
       have hb2' : Below w0.heap.size w0 w2 := hb1'.trans (Below.mono ⟨hb2.1, hb2.2, hb2.3, hb2.4, hb2.5⟩ hb1'.size)
       obtain ⟨k0, k1, k2, k3⟩ := two_cells e1 hb2' (by have := HZ.out; omega)
       obtain ⟨l0, l1, l2, l3⟩ := two_cells e2 hb2' (by have := HZ.out; omega)
       have HV2 := hide hv2
       have HO2 := hide ho2
       have HK2 := hide hk2
       clear hb2 hv2 ho2 hk2))
  all_goals
    have E1 := (hb2'.block _ (by have := HZ.out; omega)).trans e1
    have E2 := (hb2'.block _ (by have := HZ.out; omega)).trans e2
    have hz2 := hide (Nat.le_trans (Nat.le_of_eq HZ.out.symm) hb2'.size)
    have hT1 := turns2 w.heap.size w2 (.bool b1) (.slice a1 t1.length c1)
    have f1 := turned2 (.bool b1) (.slice a1 t1.length c1) E1
    have f2 := (hT1.other (w.heap.size + 1) (by omega) (by have := hz2.out; omega)).trans E2
    have hT2 := turns2 (w.heap.size + 1) ((w2.setCell ⟨w.heap.size, 0, none⟩ (.bool b1)).setCell ⟨w.heap.size, 1, none⟩ (.slice a1 t1.length c1)) (.bool b2) (.slice a2 t2.length c2)
    have g1 := (hT2.other w.heap.size (by omega) (by have := hz2.out; have := hT1.below.size; omega)).trans f1
    have g2 := turned2 (.bool b2) (.slice a2 t2.length c2) f2
    have hB2 := ((hB0.trans (hb2'.mono hB0.size)).trans hT1.below).trans (hT2.below.mono (by omega))
    have hz3 := hide (Nat.le_trans (Nat.le_trans hz2.out hT1.below.size) hT2.below.size)
    obtain ⟨w3, hw3⟩ : ∃ w3, ((((w2.setCell ⟨w.heap.size, 0, none⟩ (.bool b1)).setCell ⟨w.heap.size, 1, none⟩ (.slice a1 t1.length c1)).setCell ⟨w.heap.size + 1, 0, none⟩ (.bool b2)).setCell ⟨w.heap.size + 1, 1, none⟩ (.slice a2 t2.length c2)) = w3 := ⟨_, rfl⟩
    rw [hw3] at g1 g2 hB2 hz3 ⊢
    have s1 := HK1.out w3 hB2
    have s2 := HK2.out w3 hB2
    have hc12 := cmp_any s1 s2 (by omega) (by omega)
    have hc21 := cmp_any s2 s1 (by omega) (by omega)
    have n1 := val_nonneg s1.words
    have n2 := val_nonneg s2.words
    clear hw3 hT1 hT2 f1 f2 E1 E2 p0 p1 p2 p3 q0 q1 q2 q3 i0 i1 i2 i3 j0 j1 j2 j3 k0 k1 k2 k3 l0 l1 l2 l3 hsA hsB
    obtain ⟨x0, x1, _, _⟩ := two_cells g1 (Below.refl w3.heap.size w3) (by have := hz3.out; omega)
    obtain ⟨y0, y1, _, _⟩ := two_cells g2 (Below.refl w3.heap.size w3) (by have := hz3.out; omega)
    cases b1 with
    | true =>
      have hp1 : 0 < val t1 := by rcases HO1.out with ⟨_, g⟩ | g; cases g; exact g
      cases b2 with
      | true =>
        clear n1 n2 hp1 hc12
        go_wp2_with fail
        refine hc21.mono ?_
        rintro e w4 ⟨rfl, hb4⟩
        clear hc21
        go_wp2
        go_ret
        exact ⟨ret_int (by rw [← HV1.out, ← HV2.out]; simp only [sgn, if_pos]; rw [cmpI_neg]), hB2.trans (hb4.mono hB2.size)⟩
      | false =>
        have HF : Hid (cmpI (sgn true (val t1)) (sgn false (val t2)) = -1) := by rw [Hid]; exact cmpI_lt (by simp [sgn]; omega)
        clear n1 n2 hp1 hc12 hc21
        go_wp2
        go_ret
        exact ⟨ret_int (by rw [← HV1.out, ← HV2.out, HF.out]), hB2⟩
    | false =>
      cases b2 with
      | true =>
        have hp2 : 0 < val t2 := by rcases HO2.out with ⟨_, g⟩ | g; cases g; exact g
        have HF : Hid (cmpI (sgn false (val t1)) (sgn true (val t2)) = 1) := by rw [Hid]; exact cmpI_gt (by simp [sgn]; omega)
        clear n1 n2 hp2 hc12 hc21
        go_wp2
        go_ret
        exact ⟨ret_int (by rw [← HV1.out, ← HV2.out, HF.out]), hB2⟩
      | false =>
        clear n1 n2 hc21
        go_wp2_with fail
        refine hc12.mono ?_
        rintro e w4 ⟨rfl, hb4⟩
        clear hc12
        go_wp2
        go_ret
        exact ⟨ret_int (by rw [← HV1.out, ← HV2.out]; rfl), hB2.trans (hb4.mono hB2.size)⟩
end Go.Proofs.Ytjoakmhebcfeaaa
