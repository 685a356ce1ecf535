/-
  The walks of signed: sides, Add.
-/
import Derived.Test.YtjoakmhebcfeaaaSigB
import Derived.Test.YtjoakmhebcfeaaaWKit
import Derived.Laws.EntriesVeiled
namespace Go.Proofs.Ytjoakmhebcfeaaa
open Go.RowKit

set_option maxRecDepth 100000 in
set_option maxHeartbeats 1000000 in
/-- sides of two on one side. -/
theorem sides_same (b : Bool) (a c : Option Addr) (n ca m cc : Nat) (w : World) :
    Calls Try.prog 50 #[.agg #[.bool b, .slice a n ca], .agg #[.bool b, .slice c m cc]] w fun e w' => e = .returned (.int .i64 0) ∧ Below w.heap.size w w' := by
  obtain ⟨_, _, hB0, _⟩ := two_new w (.cells #[.bool b, .slice a n ca] 25) (.cells #[.bool b, .slice c m cc] 25)
  go_enter Try.func50, Try.ntmps50
  go_wp2
  go_ret
  exact ⟨rfl, hB0⟩

set_option maxRecDepth 100000 in
set_option maxHeartbeats 1000000 in
/-- sides of two on both sides. -/
theorem sides_other (b d : Bool) (hne : (b == d) = false) (a c : Option Addr) (n ca m cc : Nat) (w : World) :
    Calls Try.prog 50 #[.agg #[.bool b, .slice a n ca], .agg #[.bool d, .slice c m cc]] w fun e w' => e = .returned (.int .i64 1) ∧ Below w.heap.size w w' := by
  obtain ⟨_, _, hB0, _⟩ := two_new w (.cells #[.bool b, .slice a n ca] 25) (.cells #[.bool d, .slice c m cc] 25)
  go_enter Try.func50, Try.ntmps50
  go_wp2
  go_ret
  exact ⟨rfl, hB0⟩

/-- otherSide. -/
theorem otherSide_any {lo lo' : Nat} {a c : Option Addr} {n ca m cc : Nat} {xs ys : List Int} {w : World} (b d : Bool) (hne : (b == d) = false) (h : Seg lo w (.slice a n ca) xs) (h' : Seg lo' w (.slice c m cc) ys) (hl : xs.length ≤ 2000) (hl' : ys.length ≤ 2000) :
    Calls Try.prog 49 #[.agg #[.bool b, .slice a n ca], .agg #[.bool d, .slice c m cc]] w fun e w' => ∃ (b' : Bool) (a' : Option Addr) (cap' : Nat) (ts : List Int), e = .returned (.agg #[.bool b', .slice a' ts.length cap']) ∧ Seg w.heap.size w' (.slice a' ts.length cap') ts ∧ Canon b' ts ∧ sgn b' (val ts) = sgn b (val xs) + sgn d (val ys) ∧ ts.length ≤ max xs.length ys.length + 1 ∧ Below w.heap.size w w' := by
  by_cases hv : val xs < val ys
  · exact otherSide_lt b d hne h h' hl hl' hv
  · exact otherSide_ge b d hne h h' hl hl' (Int.not_lt.1 hv)

/-- Four new blocks. -/
theorem four_new (w : World) (A B C D : Obj) : (((((w.alloc A).alloc B).alloc C).alloc D).heap[w.heap.size]? = some A) ∧ (((((w.alloc A).alloc B).alloc C).alloc D).heap[w.heap.size + 1]? = some B) ∧ (((((w.alloc A).alloc B).alloc C).alloc D).heap[w.heap.size + 2]? = some C) ∧ (((((w.alloc A).alloc B).alloc C).alloc D).heap[w.heap.size + 3]? = some D) ∧ Below w.heap.size w ((((w.alloc A).alloc B).alloc C).alloc D) ∧ ((((w.alloc A).alloc B).alloc C).alloc D).heap.size = w.heap.size + 4 := by
  obtain ⟨h1, h2, h3, hb, hz⟩ := three_new w A B C
  have h4 := World.alloc_heap_new (((w.alloc A).alloc B).alloc C) D
  have b4 : Below (((w.alloc A).alloc B).alloc C).heap.size (((w.alloc A).alloc B).alloc C) ((((w.alloc A).alloc B).alloc C).alloc D) := (Below.refl _ _).alloc (Nat.le_refl _) _
  rw [hz] at h4
  exact ⟨(b4.block _ (by omega)).trans h1, (b4.block _ (by omega)).trans h2, (b4.block _ (by omega)).trans h3, h4, hb.trans (b4.mono hb.size), by rw [World.size_alloc, hz]⟩

set_option maxRecDepth 100000 in
set_option maxHeartbeats 2000000 in
/-- Add. -/
theorem sadd_same {lo lo' : Nat} {a c : Option Addr} {n ca m cc : Nat} {xs ys : List Int} {w : World} (b : Bool) (h : Seg lo w (.slice a n ca) xs) (h' : Seg lo' w (.slice c m cc) ys) (hl : xs.length ≤ 2000) (hl' : ys.length ≤ 2000) :
    Calls Try.prog 24 #[.agg #[.bool b, .slice a n ca], .agg #[.bool b, .slice c m cc]] w fun e w' => ∃ (b' : Bool) (a' : Option Addr) (cap' : Nat) (ts : List Int), e = .returned (.agg #[.bool b', .slice a' ts.length cap']) ∧ Seg w.heap.size w' (.slice a' ts.length cap') ts ∧ Canon b' ts ∧ sgn b' (val ts) = sgn b (val xs) + sgn b (val ys) ∧ ts.length ≤ max xs.length ys.length + 1 ∧ Below w.heap.size w w' := by
  obtain ⟨rfl, _⟩ := h.len
  obtain ⟨rfl, _⟩ := h'.len
  obtain ⟨e1, e2, e3, e4, hB0, hz⟩ := four_new w (.cells #[.bool b, .slice a xs.length ca] 25) (.cells #[.bool b, .slice c ys.length cc] 25) (.cells #[.bool false, .slice none 0 0] 25) (.cells #[.func (.func 48) #[] #[], .func (.func 49) #[] #[]] 52)
  go_enter Try.func24, Try.ntmps24
  go_wp2_with fail
  obtain ⟨w0, hw0⟩ : ∃ w0, ((((w.alloc (.cells #[.bool b, .slice a xs.length ca] 25)).alloc (.cells #[.bool b, .slice c ys.length cc] 25)).alloc (.cells #[.bool false, .slice none 0 0] 25)).alloc (.cells #[.func (.func 48) #[] #[], .func (.func 49) #[] #[]] 52)) = w0 := ⟨_, rfl⟩
  rw [hw0] at e1 e2 e3 e4 hB0 hz ⊢
  have HZ := hide hz
  clear hw0 hz
  have hsd : ∀ W : World, Calls Try.prog 50 #[.agg #[.bool b, .slice a xs.length ca], .agg #[.bool b, .slice c ys.length cc]] W fun e w' => e = .returned (.int .i64 0) ∧ Below W.heap.size W w' := fun W => sides_same _ _ _ _ _ _ _ W
  have hcl := fun (W : World) (hW : Below w0.heap.size w0 W) => sameSide_any b ((h.below hB0).below hW) ((h'.below hB0).below hW) hl hl'
  have hkeep : ∀ W : World, (∀ k, k ≠ w.heap.size + 2 → k < w.heap.size + 4 → W.heap[k]? = w0.heap[k]?) → W.cell? ⟨w.heap.size, 0, none⟩ = some (.bool b) ∧ W.cell? ⟨w.heap.size, 1, none⟩ = some (.slice a xs.length ca) ∧ W.cell? ⟨w.heap.size + 1, 0, none⟩ = some (.bool b) ∧ W.cell? ⟨w.heap.size + 1, 1, none⟩ = some (.slice c ys.length cc) ∧ W.cell? ⟨w.heap.size + 3, 0, none⟩ = some (.func (.func 48) #[] #[]) ∧ W.cell? ⟨w.heap.size + 3, 1, none⟩ = some (.func (.func 49) #[] #[]) := fun W hW => by
    have g1 := (hW _ (by omega) (by omega)).trans e1
    have g2 := (hW _ (by omega) (by omega)).trans e2
    have g4 := (hW _ (by omega) (by omega)).trans e4
    exact ⟨cell_of_heap g1 0, cell_of_heap g1 1, cell_of_heap g2 0, cell_of_heap g2 1, cell_of_heap g4 0, cell_of_heap g4 1⟩
  go_region_held3 (fun W : World => W.cell? ⟨w.heap.size, 0, none⟩ = some (.bool b) ∧ W.cell? ⟨w.heap.size, 1, none⟩ = some (.slice a xs.length ca) ∧ W.cell? ⟨w.heap.size + 1, 0, none⟩ = some (.bool b) ∧ W.cell? ⟨w.heap.size + 1, 1, none⟩ = some (.slice c ys.length cc) ∧ W.cell? ⟨w.heap.size + 3, 0, none⟩ = some (.func (.func 48) #[] #[]) ∧ W.cell? ⟨w.heap.size + 3, 1, none⟩ = some (.func (.func 49) #[] #[]))
    (first | exact hkeep _ (fun _ _ _ => rfl) | exact hk1.out | exact hk2.out | exact hk3.out)
    (first
    | (go_at_call 50
       refine (hsd _).mono ?_
       rintro e w1 ⟨rfl, hb1⟩
       have hb1' : Below w0.heap.size w0 w1 := ⟨hb1.1, hb1.2, hb1.3, hb1.4, hb1.5⟩
       have hk1 := hide (hkeep w1 (fun k _ hk => hb1'.block k (by have := HZ.out; omega)))
       clear hb1)
    | (go_at_call 48
       refine (hcl _ ?_).mono ?_
       exact ⟨hb1'.1, hb1'.2, hb1'.3, hb1'.4, hb1'.5⟩
       rintro e w2 ⟨b2, a2, c2, ts, rfl, hs2, hc2, hv2, hl2, hb2⟩
       have hb2' : Below w0.heap.size w0 w2 := hb1'.trans (hb2.mono hb1'.size)
       obtain ⟨r0, r1, r2, r3⟩ := two_cells e3 hb2' (by have := HZ.out; omega)
       have hT := turns2 (w.heap.size + 2) w2 (.bool b2) (.slice a2 ts.length c2)
       have hk2 := hide (hkeep w2 (fun k _ hk => hb2'.block k (by have := HZ.out; omega)))
       have hk3 := hide (hkeep _ (fun k hk1 hk => (hT.other k hk1 (by have := HZ.out; have := hb2'.size; omega)).trans (hb2'.block k (by have := HZ.out; omega))))
       have HV2 := hide hv2
       clear hv2))
  all_goals
    have hS := (hs2.turns_lo hT (by have := HZ.out; have := hb1'.size; show _ < w1.heap.size; omega)).mono (show w.heap.size ≤ w1.heap.size from Nat.le_trans hB0.size hb1'.size)
    have hBB := (hB0.trans (hb2'.mono hB0.size)).trans (hT.below.mono (by omega))
    go_wp2
    refine bodyPost_ret (v := .agg #[.bool b2, .slice a2 ts.length c2]) (by simp [results, Try.f24, go_sem, r0, r1]) rfl ?_
    exact ⟨b2, _, _, ts, rfl, hS, hc2, HV2.out, hl2, hBB⟩

set_option maxRecDepth 100000 in
set_option maxHeartbeats 2000000 in
/-- Add. -/
theorem sadd_other {lo lo' : Nat} {a c : Option Addr} {n ca m cc : Nat} {xs ys : List Int} {w : World} (b d : Bool) (h : Seg lo w (.slice a n ca) xs) (h' : Seg lo' w (.slice c m cc) ys) (hl : xs.length ≤ 2000) (hl' : ys.length ≤ 2000) (hne : (b == d) = false) :
    Calls Try.prog 24 #[.agg #[.bool b, .slice a n ca], .agg #[.bool d, .slice c m cc]] w fun e w' => ∃ (b' : Bool) (a' : Option Addr) (cap' : Nat) (ts : List Int), e = .returned (.agg #[.bool b', .slice a' ts.length cap']) ∧ Seg w.heap.size w' (.slice a' ts.length cap') ts ∧ Canon b' ts ∧ sgn b' (val ts) = sgn b (val xs) + sgn d (val ys) ∧ ts.length ≤ max xs.length ys.length + 1 ∧ Below w.heap.size w w' := by
  obtain ⟨rfl, _⟩ := h.len
  obtain ⟨rfl, _⟩ := h'.len
  obtain ⟨e1, e2, e3, e4, hB0, hz⟩ := four_new w (.cells #[.bool b, .slice a xs.length ca] 25) (.cells #[.bool d, .slice c ys.length cc] 25) (.cells #[.bool false, .slice none 0 0] 25) (.cells #[.func (.func 48) #[] #[], .func (.func 49) #[] #[]] 52)
  go_enter Try.func24, Try.ntmps24
  go_wp2_with fail
  obtain ⟨w0, hw0⟩ : ∃ w0, ((((w.alloc (.cells #[.bool b, .slice a xs.length ca] 25)).alloc (.cells #[.bool d, .slice c ys.length cc] 25)).alloc (.cells #[.bool false, .slice none 0 0] 25)).alloc (.cells #[.func (.func 48) #[] #[], .func (.func 49) #[] #[]] 52)) = w0 := ⟨_, rfl⟩
  rw [hw0] at e1 e2 e3 e4 hB0 hz ⊢
  have HZ := hide hz
  clear hw0 hz
  have hsd : ∀ W : World, Calls Try.prog 50 #[.agg #[.bool b, .slice a xs.length ca], .agg #[.bool d, .slice c ys.length cc]] W fun e w' => e = .returned (.int .i64 1) ∧ Below W.heap.size W w' := fun W => sides_other _ _ hne _ _ _ _ _ _ W
  have hcl := fun (W : World) (hW : Below w0.heap.size w0 W) => otherSide_any b d hne ((h.below hB0).below hW) ((h'.below hB0).below hW) hl hl'
  have hkeep : ∀ W : World, (∀ k, k ≠ w.heap.size + 2 → k < w.heap.size + 4 → W.heap[k]? = w0.heap[k]?) → W.cell? ⟨w.heap.size, 0, none⟩ = some (.bool b) ∧ W.cell? ⟨w.heap.size, 1, none⟩ = some (.slice a xs.length ca) ∧ W.cell? ⟨w.heap.size + 1, 0, none⟩ = some (.bool d) ∧ W.cell? ⟨w.heap.size + 1, 1, none⟩ = some (.slice c ys.length cc) ∧ W.cell? ⟨w.heap.size + 3, 0, none⟩ = some (.func (.func 48) #[] #[]) ∧ W.cell? ⟨w.heap.size + 3, 1, none⟩ = some (.func (.func 49) #[] #[]) := fun W hW => by
    have g1 := (hW _ (by omega) (by omega)).trans e1
    have g2 := (hW _ (by omega) (by omega)).trans e2
    have g4 := (hW _ (by omega) (by omega)).trans e4
    exact ⟨cell_of_heap g1 0, cell_of_heap g1 1, cell_of_heap g2 0, cell_of_heap g2 1, cell_of_heap g4 0, cell_of_heap g4 1⟩
  go_region_held3 (fun W : World => W.cell? ⟨w.heap.size, 0, none⟩ = some (.bool b) ∧ W.cell? ⟨w.heap.size, 1, none⟩ = some (.slice a xs.length ca) ∧ W.cell? ⟨w.heap.size + 1, 0, none⟩ = some (.bool d) ∧ W.cell? ⟨w.heap.size + 1, 1, none⟩ = some (.slice c ys.length cc) ∧ W.cell? ⟨w.heap.size + 3, 0, none⟩ = some (.func (.func 48) #[] #[]) ∧ W.cell? ⟨w.heap.size + 3, 1, none⟩ = some (.func (.func 49) #[] #[]))
    (first | exact hkeep _ (fun _ _ _ => rfl) | exact hk1.out | exact hk2.out | exact hk3.out)
    (first
    | (go_at_call 50
       refine (hsd _).mono ?_
       rintro e w1 ⟨rfl, hb1⟩
       have hb1' : Below w0.heap.size w0 w1 := ⟨hb1.1, hb1.2, hb1.3, hb1.4, hb1.5⟩
       have hk1 := hide (hkeep w1 (fun k _ hk => hb1'.block k (by have := HZ.out; omega)))
       clear hb1)
    | (go_at_call 49
       refine (hcl _ ?_).mono ?_
       exact ⟨hb1'.1, hb1'.2, hb1'.3, hb1'.4, hb1'.5⟩
       rintro e w2 ⟨b2, a2, c2, ts, rfl, hs2, hc2, hv2, hl2, hb2⟩
       have hb2' : Below w0.heap.size w0 w2 := hb1'.trans (hb2.mono hb1'.size)
       obtain ⟨r0, r1, r2, r3⟩ := two_cells e3 hb2' (by have := HZ.out; omega)
       have hT := turns2 (w.heap.size + 2) w2 (.bool b2) (.slice a2 ts.length c2)
       have hk2 := hide (hkeep w2 (fun k _ hk => hb2'.block k (by have := HZ.out; omega)))
       have hk3 := hide (hkeep _ (fun k hk1 hk => (hT.other k hk1 (by have := HZ.out; have := hb2'.size; omega)).trans (hb2'.block k (by have := HZ.out; omega))))
       have HV2 := hide hv2
       clear hv2))
  all_goals
    have hS := (hs2.turns_lo hT (by have := HZ.out; have := hb1'.size; show _ < w1.heap.size; omega)).mono (show w.heap.size ≤ w1.heap.size from Nat.le_trans hB0.size hb1'.size)
    have hBB := (hB0.trans (hb2'.mono hB0.size)).trans (hT.below.mono (by omega))
    go_wp2
    refine bodyPost_ret (v := .agg #[.bool b2, .slice a2 ts.length c2]) (by simp [results, Try.f24, go_sem, r0, r1]) rfl ?_
    exact ⟨b2, _, _, ts, rfl, hS, hc2, HV2.out, hl2, hBB⟩

/-- Add. -/
theorem sadd_any {lo lo' : Nat} {a c : Option Addr} {n ca m cc : Nat} {xs ys : List Int} {w : World} (b d : Bool) (h : Seg lo w (.slice a n ca) xs) (h' : Seg lo' w (.slice c m cc) ys) (hl : xs.length ≤ 2000) (hl' : ys.length ≤ 2000) :
    Calls Try.prog 24 #[.agg #[.bool b, .slice a n ca], .agg #[.bool d, .slice c m cc]] w fun e w' => ∃ (b' : Bool) (a' : Option Addr) (cap' : Nat) (ts : List Int), e = .returned (.agg #[.bool b', .slice a' ts.length cap']) ∧ Seg w.heap.size w' (.slice a' ts.length cap') ts ∧ Canon b' ts ∧ sgn b' (val ts) = sgn b (val xs) + sgn d (val ys) ∧ ts.length ≤ max xs.length ys.length + 1 ∧ Below w.heap.size w w' := by
  by_cases hbd : b = d
  · subst hbd
    exact sadd_same b h h' hl hl'
  · exact sadd_other b d h h' hl hl' (beq_eq_false_iff_ne.2 hbd)
end Go.Proofs.Ytjoakmhebcfeaaa
