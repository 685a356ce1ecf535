/-
  Whole numbers: a sign and digits; the document's answers of layer 4: Make, Neg, Sign.
-/
import Derived.Test.YtjoakmhebcfeaaaRefA
import Derived.Test.YtjoakmhebcfeaaaRefD
import Derived.Test.YtjoakmhebcfeaaaTurns
namespace Go.Proofs.Ytjoakmhebcfeaaa
open Go.RowKit

/-- The whole number that a sign and digits are. -/
def sgn (below : Bool) (v : Int) : Int := if below then -v else v
/-- As Make has it: no highest nought, and 0 is not below 0. -/
def Canon (below : Bool) (zs : List Int) : Prop := Norm zs ∧ (below = true → zs ≠ [])
theorem sgn_nil (b : Bool) : sgn b (val []) = 0 := by cases b <;> rfl
theorem canon_unique {b c : Bool} {xs ys : List Int} (hx : Words xs) (hy : Words ys) (cx : Canon b xs) (cy : Canon c ys) (e : sgn b (val xs) = sgn c (val ys)) : b = c ∧ xs = ys := by
  have px := val_nonneg hx
  have py := val_nonneg hy
  have hv : val xs = val ys := by
    cases b <;> cases c <;> simp [sgn] at e <;> omega
  have hxy := norm_unique hx hy cx.1 cy.1 hv
  refine ⟨?_, hxy⟩
  subst hxy
  cases b <;> cases c
  · rfl
  · exfalso
    have := norm_pos hx cx.1 (cy.2 rfl)
    simp [sgn] at e
    omega
  · exfalso
    have := norm_pos hx cx.1 (cx.2 rfl)
    simp [sgn] at e
    omega
  · rfl

set_option maxRecDepth 100000 in
set_option maxHeartbeats 1000000 in
/-- The document's Make. -/
theorem imake_any {lo : Nat} {a : Option Addr} {n cap : Nat} {zs : List Int} {w : World} (h : Seg lo w (.slice a n cap) zs) (hl : zs.length ≤ 10000) (below : Bool) :
    Calls Try.prog 17 #[.bool below, .slice a n cap] w fun e w' => ∃ (b' : Bool) (a' : Option Addr) (cap' : Nat) (ts : List Int), e = .returned (.agg #[.bool b', .slice a' ts.length cap']) ∧ Seg w.heap.size w' (.slice a' ts.length cap') ts ∧ Canon b' ts ∧ sgn b' (val ts) = sgn below (val zs) ∧ ts.length ≤ zs.length ∧ Below w.heap.size w w' := by
  obtain ⟨rfl, _⟩ := h.len
  have hA : ∀ (t : TypeId) (u v : Value), Below w.heap.size w (w.alloc (.cells #[u, v] t)) := fun t u v => (Below.refl _ w).alloc (Nat.le_refl _) _
  go_enter Try.func17, Try.ntmps17
  go_wp2_with fail
  have hB0 : Below w.heap.size w (w.alloc (.cells #[.bool false, .slice none 0 0] 25)) := (Below.refl _ w).alloc (Nat.le_refl _) _
  refine (rtrim_any (h.below hB0) (by omega)).mono ?_
  rintro e w1 ⟨a1, c1, ts, rfl, hs1, hn1, hv1, hl1, hb1⟩
  have hh : w1.heap[w.heap.size]? = some (.cells #[.bool false, .slice none 0 0] 25 (0, 0)) := (hb1.block w.heap.size (by simp)).trans (World.alloc_heap_new w _)
  have hc0 : w1.cell? ⟨w.heap.size, 0, none⟩ = some (.bool false) := cell_of_heap hh 0
  have hc1 : w1.cell? ⟨w.heap.size, 1, none⟩ = some (.slice none 0 0) := cell_of_heap hh 1
  have hf0 : w1.frozen? ⟨w.heap.size, 0, none⟩ = false := frozen_of_heap hh 0
  have hf1 : w1.frozen? ⟨w.heap.size, 1, none⟩ = false := frozen_of_heap hh 1
  have HV1 := hide hv1
  have hB1 := hB0.trans (hb1.mono hB0.size)
  have hlo : w.heap.size < (w.alloc (.cells #[.bool false, .slice none 0 0] 25)).heap.size := by simp
  clear hv1 hh hA
  have hT : ∀ b : Bool, Turns w.heap.size w1 ((w1.setCell ⟨w.heap.size, 0, none⟩ (.bool b)).setCell ⟨w.heap.size, 1, none⟩ (.slice a1 ts.length c1)) := fun b => turns2 _ _ _ _
  have hS : ∀ b : Bool, Seg w.heap.size ((w1.setCell ⟨w.heap.size, 0, none⟩ (.bool b)).setCell ⟨w.heap.size, 1, none⟩ (.slice a1 ts.length c1)) (.slice a1 ts.length c1) ts := fun b => (hs1.turns_lo (hT b) hlo).mono hB0.size
  have hBB : ∀ b : Bool, Below w.heap.size w ((w1.setCell ⟨w.heap.size, 0, none⟩ (.bool b)).setCell ⟨w.heap.size, 1, none⟩ (.slice a1 ts.length c1)) := fun b => hB1.trans (hT b).below
  cases below with
  | false =>
    go_wp2
    refine bodyPost_ret (v := .agg #[.bool false, .slice a1 ts.length c1]) (by simp [results, Try.f17, go_sem, hc0, hc1]) rfl ?_
    exact ⟨false, _, _, ts, rfl, hS _, ⟨hn1, fun h => by cases h⟩, by rw [HV1.out], hl1, hBB _⟩
  | true =>
    by_cases h0 : ts = []
    · subst h0
      have hz : val zs = 0 := by rw [← HV1.out, val_nil]
      have HZ := hide hz
      clear hz
      go_wp2
      refine bodyPost_ret (v := .agg #[.bool false, .slice a1 0 c1]) (by simp [results, Try.f17, go_sem, hc0, hc1]) rfl ?_
      exact ⟨false, _, _, [], rfl, hS _, ⟨hn1, fun h => by cases h⟩, by rw [HZ.out]; rfl, hl1, hBB _⟩
    · have hp : (0 : Int) < (ts.length : Int) := by have := List.length_pos_iff.2 h0; omega
      have hpN : 0 < ts.length := List.length_pos_iff.2 h0
      have H0 := hide h0
      clear h0
      go_wp2
      refine bodyPost_ret (v := .agg #[.bool true, .slice a1 ts.length c1]) (by simp [results, Try.f17, go_sem, hc0, hc1]) rfl ?_
      exact ⟨true, _, _, ts, rfl, hS _, ⟨hn1, fun _ => H0.out⟩, by rw [HV1.out], hl1, hBB _⟩

theorem sgn_not (b : Bool) (v : Int) : sgn (!b) v = -sgn b v := by cases b <;> simp [sgn]

set_option maxRecDepth 100000 in
set_option maxHeartbeats 1000000 in
/-- The document's Neg. -/
theorem ineg_any {lo : Nat} {a : Option Addr} {n cap : Nat} {zs : List Int} {w : World} (b : Bool) (h : Seg lo w (.slice a n cap) zs) (hl : zs.length ≤ 10000) :
    Calls Try.prog 31 #[.agg #[.bool b, .slice a n cap]] w fun e w' => ∃ (b' : Bool) (a' : Option Addr) (cap' : Nat) (ts : List Int), e = .returned (.agg #[.bool b', .slice a' ts.length cap']) ∧ Seg w.heap.size w' (.slice a' ts.length cap') ts ∧ Canon b' ts ∧ sgn b' (val ts) = -sgn b (val zs) ∧ ts.length ≤ zs.length ∧ Below w.heap.size w w' := by
  have hB0 : Below w.heap.size w ((w.alloc (.cells #[.bool b, .slice a n cap] 25)).alloc (.cells #[.bool false, .slice none 0 0] 25)) := ((Below.refl _ w).alloc (Nat.le_refl _) _).alloc (by simp) _
  have hm := imake_any (h.below hB0) hl (!b)
  go_enter Try.func31, Try.ntmps31
  go_wp2_with fail
  refine hm.mono ?_
  rintro e w1 ⟨b1, a1, c1, ts, rfl, hs1, hc1, hv1, hl1, hb1⟩
  have hh0 := World.alloc_heap_new (w.alloc (.cells #[.bool b, .slice a n cap] 25)) (.cells #[.bool false, .slice none 0 0] 25)
  rw [World.size_alloc] at hh0
  have hh : w1.heap[w.heap.size + 1]? = some (.cells #[.bool false, .slice none 0 0] 25 (0, 0)) := (hb1.block (w.heap.size + 1) (by simp)).trans hh0
  have k0 : w1.cell? ⟨w.heap.size + 1, 0, none⟩ = some (.bool false) := cell_of_heap hh 0
  have k1 : w1.cell? ⟨w.heap.size + 1, 1, none⟩ = some (.slice none 0 0) := cell_of_heap hh 1
  have f0 : w1.frozen? ⟨w.heap.size + 1, 0, none⟩ = false := frozen_of_heap hh 0
  have f1 : w1.frozen? ⟨w.heap.size + 1, 1, none⟩ = false := frozen_of_heap hh 1
  have HV1 := hide hv1
  have hB1 := hB0.trans (hb1.mono hB0.size)
  have hT := turns2 (w.heap.size + 1) w1 (.bool b1) (.slice a1 ts.length c1)
  have hS := (hs1.turns_lo hT (by simp)).mono hB0.size
  have hBB := hB1.trans (hT.below.mono (by omega))
  clear hm hv1 hh hh0
  go_wp2
  refine bodyPost_ret (v := .agg #[.bool b1, .slice a1 ts.length c1]) (by simp [results, Try.f31, go_sem, k0, k1]) rfl ?_
  exact ⟨b1, _, _, ts, rfl, hS, hc1, by rw [HV1.out, sgn_not], hl1, hBB⟩

set_option maxRecDepth 100000 in
set_option maxHeartbeats 1000000 in
/-- The document's Sign. -/
theorem isign_any {lo : Nat} {a : Option Addr} {n cap : Nat} {zs : List Int} {w : World} (b : Bool) (h : Seg lo w (.slice a n cap) zs) (hl : zs.length ≤ 10000) :
    Calls Try.prog 23 #[.agg #[.bool b, .slice a n cap]] w fun e w' => e = .returned (.int .i64 (cmpI (sgn b (val zs)) 0)) ∧ Below w.heap.size w w' := by
  have hB0 : Below w.heap.size w (w.alloc (.cells #[.bool b, .slice a n cap] 25)) := (Below.refl _ w).alloc (Nat.le_refl _) _
  have hm := imake_any (h.below hB0) hl b
  go_enter Try.func23, Try.ntmps23
  go_wp2_with fail
  refine hm.mono ?_
  rintro e w1 ⟨b1, a1, c1, ts, rfl, hs1, hc1, hv1, hl1, hb1⟩
  have hh : w1.heap[w.heap.size]? = some (.cells #[.bool b, .slice a n cap] 25 (0, 0)) := (hb1.block w.heap.size (by simp)).trans (World.alloc_heap_new w _)
  have k0 : w1.cell? ⟨w.heap.size, 0, none⟩ = some (.bool b) := cell_of_heap hh 0
  have k1 : w1.cell? ⟨w.heap.size, 1, none⟩ = some (.slice a n cap) := cell_of_heap hh 1
  have f0 : w1.frozen? ⟨w.heap.size, 0, none⟩ = false := frozen_of_heap hh 0
  have f1 : w1.frozen? ⟨w.heap.size, 1, none⟩ = false := frozen_of_heap hh 1
  have hwt := hs1.words
  have hB1 := hB0.trans (hb1.mono hB0.size)
  have hT := turns2 w.heap.size w1 (.bool b1) (.slice a1 ts.length c1)
  have hBB := hB1.trans hT.below
  have HV := hide hv1
  clear hm hv1 hh
  cases b1 with
  | true =>
    have hp := norm_pos hwt hc1.1 (hc1.2 rfl)
    have HF : Hid (cmpI (sgn true (val ts)) 0 = -1) := by rw [Hid]; exact cmpI_lt (by simp [sgn]; omega)
    clear hp
    go_wp2
    go_ret
    exact ⟨ret_int (by rw [← HV.out, HF.out]), hBB⟩
  | false =>
    by_cases h0 : ts = []
    · subst h0
      go_wp2
      go_ret
      exact ⟨ret_int (by rw [← HV.out]; rfl), hBB⟩
    · have hp := norm_pos hwt hc1.1 h0
      have hz : ((ts.length : Int) == 0) = false := beq_eq_false_iff_ne.2 (by have := List.length_pos_iff.2 h0; omega)
      have HF : Hid (cmpI (sgn false (val ts)) 0 = 1) := by rw [Hid]; exact cmpI_gt (by simp [sgn]; omega)
      clear hp h0
      go_wp2
      go_ret
      exact ⟨ret_int (by rw [← HV.out, HF.out]), hBB⟩
end Go.Proofs.Ytjoakmhebcfeaaa
