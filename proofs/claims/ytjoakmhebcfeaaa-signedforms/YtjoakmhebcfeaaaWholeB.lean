/-
  The walks of the document's answers of layer 4: Mul, Add, Sub, Cmp.
-/
import Derived.Test.YtjoakmhebcfeaaaWhole
import Derived.Test.YtjoakmhebcfeaaaRMulB
import Derived.Deep.RegionWith
import Derived.Deep.RegionHeld3
namespace Go.Proofs.Ytjoakmhebcfeaaa
open Go.RowKit

/-- A block of two cells in a later world. -/
theorem two_cells {W W' : World} {g N : Nat} {u v : Value} {t : TypeId} (hh : W.heap[g]? = some (.cells #[u, v] t (0, 0))) (hb : Below N W W') (hg : g < N) :
    W'.cell? ⟨g, 0, none⟩ = some u ∧ W'.cell? ⟨g, 1, none⟩ = some v ∧ W'.frozen? ⟨g, 0, none⟩ = false ∧ W'.frozen? ⟨g, 1, none⟩ = false := by
  have h := (hb.block g hg).trans hh
  exact ⟨cell_of_heap h 0, cell_of_heap h 1, frozen_of_heap h 0, frozen_of_heap h 1⟩
/-- Three new blocks. -/
theorem three_new (w : World) (A B C : Obj) : ((((w.alloc A).alloc B).alloc C).heap[w.heap.size]? = some A) ∧ ((((w.alloc A).alloc B).alloc C).heap[w.heap.size + 1]? = some B) ∧ ((((w.alloc A).alloc B).alloc C).heap[w.heap.size + 2]? = some C) ∧ Below w.heap.size w (((w.alloc A).alloc B).alloc C) ∧ (((w.alloc A).alloc B).alloc C).heap.size = w.heap.size + 3 := by
  have h1 := World.alloc_heap_new w A
  have h2 := World.alloc_heap_new (w.alloc A) B
  have h3 := World.alloc_heap_new ((w.alloc A).alloc B) C
  rw [World.size_alloc] at h2 h3
  rw [World.size_alloc] at h3
  have b2 : Below (w.alloc A).heap.size (w.alloc A) ((w.alloc A).alloc B) := (Below.refl _ _).alloc (Nat.le_refl _) _
  have b3 : Below ((w.alloc A).alloc B).heap.size ((w.alloc A).alloc B) (((w.alloc A).alloc B).alloc C) := (Below.refl _ _).alloc (Nat.le_refl _) _
  refine ⟨?_, ?_, h3, (((Below.refl _ w).alloc (Nat.le_refl _) _).alloc (by simp) _).alloc (by simp; omega) _, by simp⟩
  · exact (b3.block _ (by simp; omega)).trans ((b2.block _ (by simp)).trans h1)
  · exact (b3.block _ (by simp)).trans h2
theorem sgn_mul (b c : Bool) (x y : Int) : sgn (b != c) (x * y) = sgn b x * sgn c y := by
  cases b <;> cases c <;> simp [sgn, Int.neg_mul, Int.mul_neg]

set_option maxRecDepth 100000 in
set_option maxHeartbeats 2000000 in
/-- The document's Mul. -/
theorem imul_any {lo lo' : Nat} {a c : Option Addr} {n ca m cc : Nat} {xs ys : List Int} {w : World} (b d : Bool) (h : Seg lo w (.slice a n ca) xs) (h' : Seg lo' w (.slice c m cc) ys) (hl : xs.length ≤ 2000) (hl' : ys.length ≤ 2000) :
    Calls Try.prog 30 #[.agg #[.bool b, .slice a n ca], .agg #[.bool d, .slice c m cc]] w fun e w' => ∃ (b' : Bool) (a' : Option Addr) (cap' : Nat) (ts : List Int), e = .returned (.agg #[.bool b', .slice a' ts.length cap']) ∧ Seg w.heap.size w' (.slice a' ts.length cap') ts ∧ Canon b' ts ∧ sgn b' (val ts) = sgn b (val xs) * sgn d (val ys) ∧ ts.length ≤ xs.length + ys.length ∧ Below w.heap.size w w' := by
  obtain ⟨rfl, _⟩ := h.len
  obtain ⟨rfl, _⟩ := h'.len
  obtain ⟨e1, e2, e3, hB0, hz⟩ := three_new w (.cells #[.bool b, .slice a xs.length ca] 25) (.cells #[.bool d, .slice c ys.length cc] 25) (.cells #[.bool false, .slice none 0 0] 25)
  go_enter Try.func30, Try.ntmps30
  go_wp2_with fail
  obtain ⟨w0, hw0⟩ : ∃ w0, (((w.alloc (.cells #[.bool b, .slice a xs.length ca] 25)).alloc (.cells #[.bool d, .slice c ys.length cc] 25)).alloc (.cells #[.bool false, .slice none 0 0] 25)) = w0 := ⟨_, rfl⟩
  rw [hw0] at e1 e2 e3 hB0 hz ⊢
  have HZ := hide hz
  clear hw0 hz
  have hmu : ∀ W, Below w0.heap.size w0 W → Calls Try.prog 55 #[.slice a xs.length ca, .slice c ys.length cc] W fun e w' => ∃ (a' : Option Addr) (cap : Nat) (zs : List Int), e = .returned (.slice a' zs.length cap) ∧ Seg W.heap.size w' (.slice a' zs.length cap) zs ∧ Norm zs ∧ Hid (val zs = val xs * val ys) ∧ zs.length ≤ xs.length + ys.length ∧ Below W.heap.size W w' := fun W hW =>
    rmul_any ((h.below hB0).below hW) ((h'.below hB0).below hW) (by omega) (by omega)
  have hkeep : ∀ W, Below (w.heap.size + 2) w0 W → W.cell? ⟨w.heap.size, 0, none⟩ = some (.bool b) ∧ W.cell? ⟨w.heap.size, 1, none⟩ = some (.slice a xs.length ca) ∧ W.cell? ⟨w.heap.size + 1, 0, none⟩ = some (.bool d) ∧ W.cell? ⟨w.heap.size + 1, 1, none⟩ = some (.slice c ys.length cc) := fun W hW => by
    obtain ⟨p0, p1, _, _⟩ := two_cells e1 hW (by omega)
    obtain ⟨q0, q1, _, _⟩ := two_cells e2 hW (by omega)
    exact ⟨p0, p1, q0, q1⟩
  go_region_held3 (fun W => W.cell? ⟨w.heap.size, 0, none⟩ = some (.bool b) ∧ W.cell? ⟨w.heap.size, 1, none⟩ = some (.slice a xs.length ca) ∧ W.cell? ⟨w.heap.size + 1, 0, none⟩ = some (.bool d) ∧ W.cell? ⟨w.heap.size + 1, 1, none⟩ = some (.slice c ys.length cc))
    (first | exact hkeep _ ⟨rfl, rfl, rfl, Nat.le_refl _, fun _ _ => rfl⟩ | exact hk1.out | exact hk2.out | exact hk3.out)
    (first
    | (go_at_call 55
       refine (hmu _ ?_).mono ?_
       exact ⟨rfl, rfl, rfl, Nat.le_refl _, fun _ _ => rfl⟩
       rintro e w1 ⟨a1, c1, zs, rfl, hs1, hn1, HV1, hl1, hb1⟩
       have hb1' : Below w0.heap.size w0 w1 := ⟨hb1.1, hb1.2, hb1.3, hb1.4, hb1.5⟩
       have hk1 := hide (hkeep w1 (hb1'.mono (by have := HZ.out; omega)))
       clear hb1)
    | (go_at_call 17
       refine (imake_any hs1 (by omega) (b != d)).mono ?_
       rintro e w2 ⟨b2, a2, c2, ts, rfl, hs2, hc2, hv2, hl2, hb2⟩
       have hb2' : Below w0.heap.size w0 w2 := hb1'.trans (hb2.mono hb1'.size)
       obtain ⟨r0, r1, r2, r3⟩ := two_cells e3 hb2' (by have := HZ.out; omega)
       have hT := turns2 (w.heap.size + 2) w2 (.bool b2) (.slice a2 ts.length c2)
       have hk2 := hide (hkeep w2 (hb2'.mono (by have := HZ.out; omega)))
       have hk3 := hide (hkeep _ ((hb2'.mono (by have := HZ.out; omega)).trans hT.below))
       have HV2 := hide hv2
       clear hv2))
  all_goals
    have hS := (hs2.turns_lo hT (by have := HZ.out; have := hb1'.size; omega)).mono (show w.heap.size ≤ w1.heap.size from Nat.le_trans hB0.size hb1'.size)
    have hbw2 := hB0.trans (hb2'.mono hB0.size)
    have hBB := hbw2.trans (hT.below.mono (by omega))
    go_wp2
    refine bodyPost_ret (v := .agg #[.bool b2, .slice a2 ts.length c2]) (by simp [results, Try.f30, go_sem, r0, r1]) rfl ?_
    exact ⟨b2, _, _, ts, rfl, hS, hc2, by rw [HV2.out, HV1.out]; exact sgn_mul b d _ _, by omega, hBB⟩

end Go.Proofs.Ytjoakmhebcfeaaa
