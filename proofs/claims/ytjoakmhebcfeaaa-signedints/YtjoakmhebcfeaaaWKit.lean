/-
  The walks of the statements' words on whole numbers: SameWhole, CopyWhole.
-/
import Derived.Test.YtjoakmhebcfeaaaWholeE
import Derived.Test.YtjoakmhebcfeaaaKit
import Derived.Test.YtjoakmhebcfeaaaOwn
namespace Go.Proofs.Ytjoakmhebcfeaaa
open Go.RowKit

/-- Two new blocks. -/
theorem two_new (w : World) (A B : Obj) : (((w.alloc A).alloc B).heap[w.heap.size]? = some A) ∧ (((w.alloc A).alloc B).heap[w.heap.size + 1]? = some B) ∧ Below w.heap.size w ((w.alloc A).alloc B) ∧ ((w.alloc A).alloc B).heap.size = w.heap.size + 2 := by
  have h1 := World.alloc_heap_new w A
  have h2 := World.alloc_heap_new (w.alloc A) B
  rw [World.size_alloc] at h2
  have b2 : Below (w.alloc A).heap.size (w.alloc A) ((w.alloc A).alloc B) := (Below.refl _ _).alloc (Nat.le_refl _) _
  exact ⟨(b2.block _ (by simp)).trans h1, h2, ((Below.refl _ w).alloc (Nat.le_refl _) _).alloc (by simp) _, by simp⟩

set_option maxRecDepth 100000 in
set_option maxHeartbeats 1000000 in
/-- SameWhole of two that are the same. -/
theorem samew_yes {lo lo' : Nat} {a c : Option Addr} {ca cc : Nat} {xs : List Int} {w : World} (b : Bool) (h : Seg lo w (.slice a xs.length ca) xs) (h' : Seg lo' w (.slice c xs.length cc) xs) (hl : xs.length ≤ 10000) :
    Calls Try.prog 16 #[.agg #[.bool b, .slice a xs.length ca], .agg #[.bool b, .slice c xs.length cc]] w fun e w' => e = .returned (.bool true) ∧ Below w.heap.size w w' := by
  obtain ⟨_, _, hB0, _⟩ := two_new w (.cells #[.bool b, .slice a xs.length ca] 25) (.cells #[.bool b, .slice c xs.length cc] 25)
  have hs := same_yes (h.below hB0) (h'.below hB0) (by omega)
  go_enter Try.func16, Try.ntmps16
  go_wp2_with fail
  refine hs.mono ?_
  rintro e w1 ⟨rfl, hb1⟩
  have hBB := hB0.trans (hb1.mono hB0.size)
  clear hs
  go_wp2
  go_ret
  exact ⟨rfl, hBB⟩

set_option maxRecDepth 100000 in
set_option maxHeartbeats 1000000 in
/-- SameWhole of two that differ. -/
theorem samew_no {lo lo' : Nat} {a c : Option Addr} {ca cc : Nat} {xs ys : List Int} {w : World} (b d : Bool) (h : Seg lo w (.slice a xs.length ca) xs) (h' : Seg lo' w (.slice c ys.length cc) ys) (hl : xs.length ≤ 10000) (hne : ¬ (b = d ∧ xs = ys)) :
    Calls Try.prog 16 #[.agg #[.bool b, .slice a xs.length ca], .agg #[.bool d, .slice c ys.length cc]] w fun e w' => e = .returned (.bool false) ∧ Below w.heap.size w w' := by
  obtain ⟨_, _, hB0, _⟩ := two_new w (.cells #[.bool b, .slice a xs.length ca] 25) (.cells #[.bool d, .slice c ys.length cc] 25)
  by_cases hbd : b = d
  · subst hbd
    have hs := same_no (h.below hB0) (h'.below hB0) (by omega) (fun e => hne ⟨rfl, e⟩)
    clear hne
    go_enter Try.func16, Try.ntmps16
    go_wp2_with fail
    refine hs.mono ?_
    rintro e w1 ⟨rfl, hb1⟩
    have hBB := hB0.trans (hb1.mono hB0.size)
    clear hs
    go_wp2
    go_ret
    exact ⟨rfl, hBB⟩
  · have hf : (b == d) = false := beq_eq_false_iff_ne.2 hbd
    clear hne hbd
    go_enter Try.func16, Try.ntmps16
    go_wp2
    go_ret
    exact ⟨rfl, hB0⟩

set_option maxRecDepth 100000 in
set_option maxHeartbeats 1000000 in
/-- CopyWhole. -/
theorem copyw_any {lo : Nat} {a : Option Addr} {cap : Nat} {zs : List Int} {w : World} (b : Bool) (h : Seg lo w (.slice a zs.length cap) zs) (hl : zs.length ≤ 10000) :
    Calls Try.prog 11 #[.agg #[.bool b, .slice a zs.length cap]] w fun e w' => ∃ a' cap', e = .returned (.agg #[.bool b, .slice a' zs.length cap']) ∧ Seg w.heap.size w' (.slice a' zs.length cap') zs ∧ Below w.heap.size w w' := by
  obtain ⟨e1, e2, hB0, hz⟩ := two_new w (.cells #[.bool b, .slice a zs.length cap] 25) (.cells #[.bool false, .slice none 0 0] 25)
  have hc := copy_any (h.below hB0) (by omega)
  have HZ := hide hz
  clear hz
  go_enter Try.func11, Try.ntmps11
  go_wp2_with fail
  refine hc.mono ?_
  rintro e w1 ⟨a1, c1, rfl, hs1, hb1⟩
  obtain ⟨k0, k1, f0, f1⟩ := two_cells e1 hb1 (by have := HZ.out; omega)
  obtain ⟨r0, r1, r2, r3⟩ := two_cells e2 hb1 (by have := HZ.out; omega)
  clear hc
  go_wp2
  have hT1 := (Turns.refl w.heap.size w1).setCell 1 (.slice a1 zs.length c1)
  have hT2 := turns2 (w.heap.size + 1) (w1.setCell ⟨w.heap.size, 1, none⟩ (.slice a1 zs.length c1)) (.bool b) (.slice a1 zs.length c1)
  have hS := ((hs1.turns_lo hT1 (by have := HZ.out; omega)).turns_lo hT2 (by have := HZ.out; omega)).mono hB0.size
  have hBB := ((hB0.trans (hb1.mono hB0.size)).trans hT1.below).trans (hT2.below.mono (by omega))
  refine bodyPost_ret (v := .agg #[.bool b, .slice a1 zs.length c1]) (by simp [results, Try.f11, go_sem, r0, r1]) rfl ?_
  exact ⟨a1, c1, rfl, hS, hBB⟩

end Go.Proofs.Ytjoakmhebcfeaaa
