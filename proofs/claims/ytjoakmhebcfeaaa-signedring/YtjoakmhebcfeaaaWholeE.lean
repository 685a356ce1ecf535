/-
  The walks of the document's answers of layer 4: Add of differing signs, Sub, Cmp.
-/
import Derived.Test.YtjoakmhebcfeaaaWholeD
import Derived.Laws.Rows
namespace Go.Proofs.Ytjoakmhebcfeaaa
open Go.RowKit

theorem sgn_diff {b d : Bool} (h : (b == d) = false) (x y : Int) : sgn b (x - y) = sgn b x + sgn d y := by
  cases b <;> cases d <;> simp [sgn] at h ⊢ <;> omega

set_option maxRecDepth 100000 in
set_option maxHeartbeats 2000000 in
/-- The document's Add of two of differing signs, the first no less. -/
theorem iadd_ge {lo lo' : Nat} {a c : Option Addr} {n ca m cc : Nat} {xs ys : List Int} {w : World} (b d : Bool) (hne : (b == d) = false) (h : Seg lo w (.slice a n ca) xs) (h' : Seg lo' w (.slice c m cc) ys) (hl : xs.length ≤ 2000) (hl' : ys.length ≤ 2000) (hge : val ys ≤ val xs) :
    Calls Try.prog 28 #[.agg #[.bool b, .slice a n ca], .agg #[.bool d, .slice c m cc]] w fun e w' => ∃ (b' : Bool) (a' : Option Addr) (cap' : Nat) (ts : List Int), e = .returned (.agg #[.bool b', .slice a' ts.length cap']) ∧ Seg w.heap.size w' (.slice a' ts.length cap') ts ∧ Canon b' ts ∧ sgn b' (val ts) = sgn b (val xs) + sgn d (val ys) ∧ ts.length ≤ max xs.length ys.length + 1 ∧ Below w.heap.size w w' := by
  obtain ⟨rfl, _⟩ := h.len
  obtain ⟨rfl, _⟩ := h'.len
  obtain ⟨e1, e2, e3, hB0, hz⟩ := three_new w (.cells #[.bool b, .slice a xs.length ca] 25) (.cells #[.bool d, .slice c ys.length cc] 25) (.cells #[.bool false, .slice none 0 0] 25)
  go_enter Try.func28, Try.ntmps28
  go_wp2_with fail
  obtain ⟨w0, hw0⟩ : ∃ w0, (((w.alloc (.cells #[.bool b, .slice a xs.length ca] 25)).alloc (.cells #[.bool d, .slice c ys.length cc] 25)).alloc (.cells #[.bool false, .slice none 0 0] 25)) = w0 := ⟨_, rfl⟩
  rw [hw0] at e1 e2 e3 hB0 hz ⊢
  have HZ := hide hz
  clear hw0 hz
  have hs0 := h.below hB0
  have hs0' := h'.below hB0
  have hcn : ¬ cmpI (val xs) (val ys) < 0 := by
    unfold cmpI
    rw [if_neg (by omega)]
    split <;> omega
  have hsub := rsub_yes hs0 hs0' (by omega) (by omega) hge
  have HG := hide hge
  obtain ⟨p0, p1, _, _⟩ := two_cells e1 (Below.refl w0.heap.size w0) (by have := HZ.out; omega)
  obtain ⟨q0, q1, _, _⟩ := two_cells e2 (Below.refl w0.heap.size w0) (by have := HZ.out; omega)
  clear hge
  refine (rcmp_any hs0 hs0' (by omega) (by omega)).mono ?_
  rintro e w' ⟨rfl, rfl⟩
  go_wp2_with fail
  refine hsub.mono ?_
  rintro e w1 ⟨a1, c1, zs, rfl, hs1, hn1, hv1, hl1, hb1⟩
  obtain ⟨i0, i1, _, _⟩ := two_cells e1 hb1 (by have := HZ.out; omega)
  have HV1 := hide hv1
  clear hv1 hsub hcn
  go_wp2_with fail
  refine (imake_any hs1 (by omega) b).mono ?_
  rintro e w2 ⟨b2, a2, c2, ts, rfl, hs2, hc2, hv2, hl2, hb2⟩
  have hb2' : Below w'.heap.size w' w2 := hb1.trans (hb2.mono hb1.size)
  obtain ⟨r0, r1, r2, r3⟩ := two_cells e3 hb2' (by have := HZ.out; omega)
  have hT := turns2 (w.heap.size + 2) w2 (.bool b2) (.slice a2 ts.length c2)
  have HV2 := hide hv2
  clear hv2
  have hS := (hs2.turns_lo hT (by have := HZ.out; have := hb1.size; omega)).mono (show w.heap.size ≤ w1.heap.size from Nat.le_trans hB0.size hb1.size)
  have hbw2 := hB0.trans (hb2'.mono hB0.size)
  have hBB := hbw2.trans (hT.below.mono (by omega))
  go_wp2
  refine bodyPost_ret (v := .agg #[.bool b2, .slice a2 ts.length c2]) (by simp [results, Try.f28, go_sem, r0, r1]) rfl ?_
  exact ⟨b2, _, _, ts, rfl, hS, hc2, by rw [HV2.out, HV1.out]; exact sgn_diff hne _ _, by omega, hBB⟩

/-- Two cells of one block anew. -/
theorem turned2 {W : World} {g : Nat} {u v : Value} {t : TypeId} (u' v' : Value) (hh : W.heap[g]? = some (.cells #[u, v] t (0, 0))) : ((W.setCell ⟨g, 0, none⟩ u').setCell ⟨g, 1, none⟩ v').heap[g]? = some (.cells #[u', v'] t (0, 0)) := by
  have h1 := heap_setCell_same W g 0 _ t u' hh
  have h2 := heap_setCell_same _ g 1 _ t v' h1
  exact h2

set_option maxRecDepth 100000 in
set_option maxHeartbeats 2000000 in
/-- The document's Add of two of differing signs, the first less. -/
theorem iadd_lt {lo lo' : Nat} {a c : Option Addr} {n ca m cc : Nat} {xs ys : List Int} {w : World} (b d : Bool) (hne : (b == d) = false) (h : Seg lo w (.slice a n ca) xs) (h' : Seg lo' w (.slice c m cc) ys) (hl : xs.length ≤ 2000) (hl' : ys.length ≤ 2000) (hlt : val xs < val ys) :
    Calls Try.prog 28 #[.agg #[.bool b, .slice a n ca], .agg #[.bool d, .slice c m cc]] w fun e w' => ∃ (b' : Bool) (a' : Option Addr) (cap' : Nat) (ts : List Int), e = .returned (.agg #[.bool b', .slice a' ts.length cap']) ∧ Seg w.heap.size w' (.slice a' ts.length cap') ts ∧ Canon b' ts ∧ sgn b' (val ts) = sgn b (val xs) + sgn d (val ys) ∧ ts.length ≤ max xs.length ys.length + 1 ∧ Below w.heap.size w w' := by
  obtain ⟨rfl, _⟩ := h.len
  obtain ⟨rfl, _⟩ := h'.len
  obtain ⟨e1, e2, e3, hB0, hz⟩ := three_new w (.cells #[.bool b, .slice a xs.length ca] 25) (.cells #[.bool d, .slice c ys.length cc] 25) (.cells #[.bool false, .slice none 0 0] 25)
  go_enter Try.func28, Try.ntmps28
  go_wp2_with fail
  obtain ⟨w0, hw0⟩ : ∃ w0, (((w.alloc (.cells #[.bool b, .slice a xs.length ca] 25)).alloc (.cells #[.bool d, .slice c ys.length cc] 25)).alloc (.cells #[.bool false, .slice none 0 0] 25)) = w0 := ⟨_, rfl⟩
  rw [hw0] at e1 e2 e3 hB0 hz ⊢
  have HZ := hide hz
  clear hw0 hz
  have hs0 := h.below hB0
  have hs0' := h'.below hB0
  have hcn : cmpI (val xs) (val ys) < 0 := by rw [cmpI_lt hlt]; decide
  obtain ⟨p0, p1, p2, p3⟩ := two_cells e1 (Below.refl w0.heap.size w0) (by have := HZ.out; omega)
  obtain ⟨q0, q1, q2, q3⟩ := two_cells e2 (Below.refl w0.heap.size w0) (by have := HZ.out; omega)
  refine (rcmp_any hs0 hs0' (by omega) (by omega)).mono ?_
  rintro e w' ⟨rfl, rfl⟩
  have hT1 := turns2 w.heap.size w' (.bool d) (.slice c ys.length cc)
  have f1 := turned2 (.bool d) (.slice c ys.length cc) e1
  have f2 := (hT1.other (w.heap.size + 1) (by omega) (by have := HZ.out; omega)).trans e2
  have f3 := (hT1.other (w.heap.size + 2) (by omega) (by have := HZ.out; omega)).trans e3
  have hT2 := turns2 (w.heap.size + 1) ((w'.setCell ⟨w.heap.size, 0, none⟩ (.bool d)).setCell ⟨w.heap.size, 1, none⟩ (.slice c ys.length cc)) (.bool b) (.slice a xs.length ca)
  have g1 := (hT2.other w.heap.size (by omega) (by have := HZ.out; have := hT1.below.size; omega)).trans f1
  have g2 := turned2 (.bool b) (.slice a xs.length ca) f2
  have g3 := (hT2.other (w.heap.size + 2) (by omega) (by have := HZ.out; have := hT1.below.size; omega)).trans f3
  have hB2 := (hB0.trans hT1.below).trans (hT2.below.mono (by omega))
  have hz2 := hide (Nat.le_trans hT1.below.size hT2.below.size)
  clear f1 f2 f3
  go_wp2_with fail
  obtain ⟨w3, hw3⟩ : ∃ w3, ((((w'.setCell ⟨w.heap.size, 0, none⟩ (.bool d)).setCell ⟨w.heap.size, 1, none⟩ (.slice c ys.length cc)).setCell ⟨w.heap.size + 1, 0, none⟩ (.bool b)).setCell ⟨w.heap.size + 1, 1, none⟩ (.slice a xs.length ca)) = w3 := ⟨_, rfl⟩
  rw [hw3] at g1 g2 g3 hB2 hz2 ⊢
  clear hw3 hT1 hT2 hcn p0 p1 p2 p3 q0 q1 q2 q3
  refine (rsub_yes (h'.below hB2) (h.below hB2) (by omega) (by omega) (Int.le_of_lt hlt)).mono ?_
  rintro e w1 ⟨a1, c1, zs, rfl, hs1, hn1, hv1, hl1, hb1⟩
  obtain ⟨i0, i1, _, _⟩ := two_cells g1 hb1 (by have := HZ.out; have := hz2.out; omega)
  have HV1 := hide hv1
  clear hv1 hlt
  go_wp2_with fail
  refine (imake_any hs1 (by omega) d).mono ?_
  rintro e w2 ⟨b2, a2, c2, ts, rfl, hs2, hc2, hv2, hl2, hb2⟩
  have hb2' : Below w3.heap.size w3 w2 := hb1.trans (hb2.mono hb1.size)
  obtain ⟨r0, r1, r2, r3⟩ := two_cells g3 hb2' (by have := HZ.out; have := hz2.out; omega)
  have hT := turns2 (w.heap.size + 2) w2 (.bool b2) (.slice a2 ts.length c2)
  have HV2 := hide hv2
  clear hv2
  have hS := (hs2.turns_lo hT (by have := HZ.out; have := hz2.out; have := hb1.size; omega)).mono (show w.heap.size ≤ w1.heap.size from Nat.le_trans hB2.size hb1.size)
  have hbw2 := hB2.trans (hb2'.mono hB2.size)
  have hBB := hbw2.trans (hT.below.mono (by omega))
  go_wp2
  refine bodyPost_ret (v := .agg #[.bool b2, .slice a2 ts.length c2]) (by simp [results, Try.f28, go_sem, r0, r1]) rfl ?_
  exact ⟨b2, _, _, ts, rfl, hS, hc2, by rw [HV2.out, HV1.out, Int.add_comm]; exact sgn_diff (by rw [Bool.beq_comm]; exact hne) _ _, by omega, hBB⟩

/-- The document's Add. -/
theorem iadd_any {lo lo' : Nat} {a c : Option Addr} {n ca m cc : Nat} {xs ys : List Int} {w : World} (b d : Bool) (h : Seg lo w (.slice a n ca) xs) (h' : Seg lo' w (.slice c m cc) ys) (hl : xs.length ≤ 2000) (hl' : ys.length ≤ 2000) :
    Calls Try.prog 28 #[.agg #[.bool b, .slice a n ca], .agg #[.bool d, .slice c m cc]] w fun e w' => ∃ (b' : Bool) (a' : Option Addr) (cap' : Nat) (ts : List Int), e = .returned (.agg #[.bool b', .slice a' ts.length cap']) ∧ Seg w.heap.size w' (.slice a' ts.length cap') ts ∧ Canon b' ts ∧ sgn b' (val ts) = sgn b (val xs) + sgn d (val ys) ∧ ts.length ≤ max xs.length ys.length + 1 ∧ Below w.heap.size w w' := by
  by_cases hbd : b = d
  · subst hbd
    exact iadd_same b h h' hl hl'
  · have hne : (b == d) = false := beq_eq_false_iff_ne.2 hbd
    by_cases hv : val xs < val ys
    · exact iadd_lt b d hne h h' hl hl' hv
    · exact iadd_ge b d hne h h' hl hl' (Int.not_lt.1 hv)

end Go.Proofs.Ytjoakmhebcfeaaa
