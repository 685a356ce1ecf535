/-
  The walks of signed: whole, Make, Neg, Of, One, Check.
-/
import Derived.Test.YtjoakmhebcfeaaaWholeG
import Derived.Test.YtjoakmhebcfeaaaEnds
namespace Go.Proofs.Ytjoakmhebcfeaaa
open Go.RowKit

set_option maxRecDepth 100000 in
set_option maxHeartbeats 1000000 in
/-- whole: a side that is right, over digits in their own memory. -/
theorem swhole_any {lo : Nat} {a : Option Addr} {n cap : Nat} {zs : List Int} {w : World} (h : Seg lo w (.slice a n cap) zs) (hn : Norm zs) (below : Bool) :
    Calls Try.prog 38 #[.bool below, .slice a n cap] w fun e w' => ∃ b' : Bool, e = .returned (.agg #[.bool b', .slice a zs.length cap]) ∧ Canon b' zs ∧ sgn b' (val zs) = sgn below (val zs) ∧ Below w.heap.size w w' := by
  obtain ⟨rfl, _⟩ := h.len
  have hBB : ∀ o : Obj, Below w.heap.size w (w.alloc o) := fun o => (Below.refl _ w).alloc (Nat.le_refl _) _
  cases below with
  | false =>
    go_enter Try.func38, Try.ntmps38
    go_wp2
    refine bodyPost_ret (v := .agg #[.bool false, .slice a zs.length cap]) (by simp [results, Try.f38, go_sem]) rfl ?_
    exact ⟨false, rfl, ⟨hn, fun h => by cases h⟩, rfl, hBB _⟩
  | true =>
    by_cases h0 : zs = []
    · subst h0
      go_enter Try.func38, Try.ntmps38
      go_wp2
      refine bodyPost_ret (v := .agg #[.bool false, .slice a 0 cap]) (by simp [results, Try.f38, go_sem]) rfl ?_
      exact ⟨false, rfl, ⟨hn, fun h => by cases h⟩, rfl, hBB _⟩
    · have hp : (0 : Int) < (zs.length : Int) := by have := List.length_pos_iff.2 h0; omega
      have hpN : 0 < zs.length := List.length_pos_iff.2 h0
      have H0 := hide h0
      clear h0
      go_enter Try.func38, Try.ntmps38
      go_wp2
      refine bodyPost_ret (v := .agg #[.bool true, .slice a zs.length cap]) (by simp [results, Try.f38, go_sem]) rfl ?_
      exact ⟨true, rfl, ⟨hn, fun _ => H0.out⟩, rfl, hBB _⟩

set_option maxRecDepth 100000 in
set_option maxHeartbeats 1000000 in
/-- Make. -/
theorem smake_any {lo : Nat} {a : Option Addr} {n cap : Nat} {zs : List Int} {w : World} (h : Seg lo w (.slice a n cap) zs) (hl : zs.length ≤ 10000) (below : Bool) :
    Calls Try.prog 12 #[.bool below, .slice a n cap] w fun e w' => ∃ (b' : Bool) (a' : Option Addr) (cap' : Nat) (ts : List Int), e = .returned (.agg #[.bool b', .slice a' ts.length cap']) ∧ Seg w.heap.size w' (.slice a' ts.length cap') ts ∧ Canon b' ts ∧ sgn b' (val ts) = sgn below (val zs) ∧ ts.length ≤ zs.length ∧ Below w.heap.size w w' := by
  have hB0 : Below w.heap.size w (w.alloc (.cells #[.bool false, .slice none 0 0] 25)) := (Below.refl _ w).alloc (Nat.le_refl _) _
  have e3 := World.alloc_heap_new w (.cells #[.bool false, .slice none 0 0] 25)
  have HZ : Hid ((w.alloc (.cells #[.bool false, .slice none 0 0] 25)).heap.size = w.heap.size + 1) := by rw [Hid]; simp
  have ht := trim_any (h.below hB0) (by omega)
  go_enter Try.func12, Try.ntmps12
  go_wp2_with fail
  refine ht.mono ?_
  rintro e w1 ⟨a1, c1, ts, rfl, hs1, hn1, hv1, hl1, hb1⟩
  have HV1 := hide hv1
  clear hv1 ht
  go_wp2_with fail
  refine (swhole_any hs1 hn1 below).mono ?_
  rintro e w2 ⟨b2, rfl, hc2, hv2, hb2⟩
  have hb2' := hb1.trans (hb2.mono hb1.size)
  obtain ⟨r0, r1, r2, r3⟩ := two_cells e3 hb2' (by have := HZ.out; omega)
  have hT := turns2 w.heap.size w2 (.bool b2) (.slice a1 ts.length c1)
  have HV2 := hide hv2
  clear hv2
  have hS := ((hs1.below hb2).turns_lo hT (by have := HZ.out; omega)).mono hB0.size
  have hBB := (hB0.trans (hb2'.mono hB0.size)).trans hT.below
  go_wp2
  refine bodyPost_ret (v := .agg #[.bool b2, .slice a1 ts.length c1]) (by simp [results, Try.f12, go_sem, r0, r1]) rfl ?_
  exact ⟨b2, _, _, ts, rfl, hS, hc2, by rw [HV2.out, HV1.out], hl1, hBB⟩

set_option maxRecDepth 100000 in
set_option maxHeartbeats 1000000 in
/-- Neg. -/
theorem sneg_any {lo : Nat} {a : Option Addr} {n cap : Nat} {zs : List Int} {w : World} (b : Bool) (h : Seg lo w (.slice a n cap) zs) (hl : zs.length ≤ 10000) :
    Calls Try.prog 27 #[.agg #[.bool b, .slice a n cap]] w fun e w' => ∃ (b' : Bool) (a' : Option Addr) (cap' : Nat) (ts : List Int), e = .returned (.agg #[.bool b', .slice a' ts.length cap']) ∧ Seg w.heap.size w' (.slice a' ts.length cap') ts ∧ Canon b' ts ∧ sgn b' (val ts) = -sgn b (val zs) ∧ ts.length ≤ zs.length ∧ Below w.heap.size w w' := by
  have hB0 : Below w.heap.size w ((w.alloc (.cells #[.bool b, .slice a n cap] 25)).alloc (.cells #[.bool false, .slice none 0 0] 25)) := ((Below.refl _ w).alloc (Nat.le_refl _) _).alloc (by simp) _
  have hm := smake_any (h.below hB0) hl (!b)
  go_enter Try.func27, Try.ntmps27
  go_wp2_with fail
  refine hm.mono ?_
  rintro e w1 ⟨b1, a1, c1, ts, rfl, hs1, hc1, hv1, hl1, hb1⟩
  have hh0 := World.alloc_heap_new (w.alloc (.cells #[.bool b, .slice a n cap] 25)) (.cells #[.bool false, .slice none 0 0] 25)
  rw [World.size_alloc] at hh0
  have hh : w1.heap[w.heap.size + 1]? = some (.cells #[.bool false, .slice none 0 0] 25 (0, 0)) := (hb1.block (w.heap.size + 1) (by simp)).trans hh0
  have k0 : w1.cell? ⟨w.heap.size + 1, 0, none⟩ = some (.bool false) := cell_of_heap hh 0
  have k1 : w1.cell? ⟨w.heap.size + 1, 1, none⟩ = some (.slice none 0 0) := cell_of_heap hh 1
  have f0 : w1.frozen? ⟨w.heap.size + 1, 0, none⟩ = false := frozen_of_heap hh 0
  have f1 : w1.frozen? ⟨w.heap.size + 1, 1, none⟩ = false := frozen_of_heap hh 1
  have HV1 := hide hv1
  have hB1 := hB0.trans (hb1.mono hB0.size)
  have hT := turns2 (w.heap.size + 1) w1 (.bool b1) (.slice a1 ts.length c1)
  have hS := (hs1.turns_lo hT (by simp)).mono hB0.size
  have hBB := hB1.trans (hT.below.mono (by omega))
  clear hm hv1 hh hh0
  go_wp2
  refine bodyPost_ret (v := .agg #[.bool b1, .slice a1 ts.length c1]) (by simp [results, Try.f27, go_sem, k0, k1]) rfl ?_
  exact ⟨b1, _, _, ts, rfl, hS, hc1, by rw [HV1.out, sgn_not], hl1, hBB⟩

set_option maxRecDepth 100000 in
set_option maxHeartbeats 1000000 in
/-- Of. -/
theorem sof_any (x : Int) (hx : -9223372036854775808 ≤ x ∧ x < 9223372036854775808) (w : World) :
    Calls Try.prog 13 #[.int .i64 x] w fun e w' => ∃ (b' : Bool) (a' : Option Addr) (cap' : Nat) (ts : List Int), e = .returned (.agg #[.bool b', .slice a' ts.length cap']) ∧ Seg w.heap.size w' (.slice a' ts.length cap') ts ∧ Canon b' ts ∧ sgn b' (val ts) = x ∧ ts.length ≤ 1 ∧ Below w.heap.size w w' := by
  have hB0 : Below w.heap.size w (w.alloc (.cells #[.bool false, .slice none 0 0] 25)) := (Below.refl _ w).alloc (Nat.le_refl _) _
  have e3 := World.alloc_heap_new w (.cells #[.bool false, .slice none 0 0] 25)
  have HZ : Hid ((w.alloc (.cells #[.bool false, .slice none 0 0] 25)).heap.size = w.heap.size + 1) := by rw [Hid]; simp
  by_cases h0 : x < 0
  · have hU : IntKind.u64.wrap (-IntKind.u64.wrap x) = -x := by rw [IntKind.wrap_u64, IntKind.wrap_u64]; omega
    go_enter Try.func13, Try.ntmps13
    go_wp2_with fail
    try rw [hU]
    refine (of_any (-x) (by omega) _).mono ?_
    rintro e w1 ⟨a1, c1, ts, rfl, hs1, hn1, hv1, hl1, hb1⟩
    have HV1 := hide hv1
    clear hv1 hU
    go_wp2_with fail
    refine (swhole_any hs1 hn1 true).mono ?_
    rintro e w2 ⟨b2, rfl, hc2, hv2, hb2⟩
    have hb2' := hb1.trans (hb2.mono hb1.size)
    obtain ⟨r0, r1, r2, r3⟩ := two_cells e3 hb2' (by have := HZ.out; omega)
    have hT := turns2 w.heap.size w2 (.bool b2) (.slice a1 ts.length c1)
    have HV2 := hide hv2
    clear hv2
    have hS := ((hs1.below hb2).turns_lo hT (by have := HZ.out; omega)).mono hB0.size
    have hBB := (hB0.trans (hb2'.mono hB0.size)).trans hT.below
    go_wp2
    refine bodyPost_ret (v := .agg #[.bool b2, .slice a1 ts.length c1]) (by simp [results, Try.f13, go_sem, r0, r1]) rfl ?_
    exact ⟨b2, _, _, ts, rfl, hS, hc2, by rw [HV2.out, HV1.out]; simp [sgn], by omega, hBB⟩
  · have hP : IntKind.u64.wrap x = x := by rw [IntKind.wrap_u64]; omega
    go_enter Try.func13, Try.ntmps13
    go_wp2_with fail
    try rw [hP]
    refine (of_any x (by omega) _).mono ?_
    rintro e w1 ⟨a1, c1, ts, rfl, hs1, hn1, hv1, hl1, hb1⟩
    have HV1 := hide hv1
    clear hv1 hP
    go_wp2_with fail
    refine (swhole_any hs1 hn1 false).mono ?_
    rintro e w2 ⟨b2, rfl, hc2, hv2, hb2⟩
    have hb2' := hb1.trans (hb2.mono hb1.size)
    obtain ⟨r0, r1, r2, r3⟩ := two_cells e3 hb2' (by have := HZ.out; omega)
    have hT := turns2 w.heap.size w2 (.bool b2) (.slice a1 ts.length c1)
    have HV2 := hide hv2
    clear hv2
    have hS := ((hs1.below hb2).turns_lo hT (by have := HZ.out; omega)).mono hB0.size
    have hBB := (hB0.trans (hb2'.mono hB0.size)).trans hT.below
    go_wp2
    refine bodyPost_ret (v := .agg #[.bool b2, .slice a1 ts.length c1]) (by simp [results, Try.f13, go_sem, r0, r1]) rfl ?_
    exact ⟨b2, _, _, ts, rfl, hS, hc2, by rw [HV2.out, HV1.out]; simp [sgn], by omega, hBB⟩

set_option maxRecDepth 100000 in
set_option maxHeartbeats 1000000 in
/-- One. -/
theorem sone_any {lo : Nat} {a : Option Addr} {n cap : Nat} {zs : List Int} {w : World} (b : Bool) (h : Seg lo w (.slice a n cap) zs) (hl : zs.length ≤ 10000) :
    Calls Try.prog 14 #[.agg #[.bool b, .slice a n cap]] w fun e w' => e = oneI (sgn b (val zs)) ∧ Below w.heap.size w w' := by
  have hB0 : Below w.heap.size w (w.alloc (.cells #[.bool b, .slice a n cap] 25)) := (Below.refl _ w).alloc (Nat.le_refl _) _
  have e1 := World.alloc_heap_new w (.cells #[.bool b, .slice a n cap] 25)
  have HZ : Hid ((w.alloc (.cells #[.bool b, .slice a n cap] 25)).heap.size = w.heap.size + 1) := by rw [Hid]; simp
  have hs := h.below hB0
  have hp := val_nonneg h.words
  go_enter Try.func14, Try.ntmps14
  go_wp2_with fail
  by_cases hbig : 18446744073709551616 ≤ val zs
  · refine (one_no hs (by omega) hbig).mono ?_
    rintro e w3 ⟨rfl, hb3⟩
    obtain ⟨i0, i1, _, _⟩ := two_cells e1 hb3 (by have := HZ.out; omega)
    have HF : Hid (oneI (sgn b (val zs)) = .returned (.tuple #[.int .i64 0, .bool false])) := by
      rw [Hid, oneI, if_neg]
      cases b <;> simp [sgn] <;> omega
    have hBZ := hB0.trans (hb3.mono hB0.size)
    clear hbig hp
    go_wp2
    go_ret2
    rw [HF.out]
    exact ⟨rfl, hBZ⟩
  · refine (one_yes hs (by omega) (by omega)).mono ?_
    rintro e w3 ⟨rfl, hb3⟩
    obtain ⟨i0, i1, _, _⟩ := two_cells e1 hb3 (by have := HZ.out; omega)
    have hBZ := hB0.trans (hb3.mono hB0.size)
    obtain ⟨x, hx⟩ : ∃ x, val zs = x := ⟨_, rfl⟩
    rw [hx] at hp hbig ⊢
    have HX := hide hx
    clear hx
    cases b with
    | false =>
      by_cases hm : x ≤ 9223372036854775807
      · have HF : Hid (oneI (sgn false x) = .returned (.tuple #[.int .i64 x, .bool true])) := by
          rw [Hid, oneI, if_pos]
          · simp [sgn]
          · simp [sgn]; omega
        have hw : IntKind.i64.wrap x = x := by rw [IntKind.wrap_i64]; omega
        go_wp2
        go_ret2
        rw [HX.out, HF.out]
        exact ⟨rfl, hBZ⟩
      · have HF : Hid (oneI (sgn false x) = .returned (.tuple #[.int .i64 0, .bool false])) := by
          rw [Hid, oneI, if_neg]
          simp [sgn]; omega
        go_wp2
        go_ret2
        rw [HX.out, HF.out]
        exact ⟨rfl, hBZ⟩
    | true =>
      by_cases hm : x ≤ 9223372036854775808
      · have HF : Hid (oneI (sgn true x) = .returned (.tuple #[.int .i64 (-x), .bool true])) := by
          rw [Hid, oneI, if_pos]
          · simp [sgn]
          · simp [sgn]
            omega
        have hw : IntKind.i64.wrap (IntKind.u64.wrap (-x)) = -x := by
          rw [IntKind.wrap_u64, IntKind.wrap_i64]; omega
        go_wp2
        go_ret2
        rw [HX.out, HF.out]
        exact ⟨rfl, hBZ⟩
      · have HF : Hid (oneI (sgn true x) = .returned (.tuple #[.int .i64 0, .bool false])) := by
          rw [Hid, oneI, if_neg]
          simp [sgn]; omega
        go_wp2
        go_ret2
        rw [HX.out, HF.out]
        exact ⟨rfl, hBZ⟩

set_option maxRecDepth 100000 in
set_option maxHeartbeats 1000000 in
/-- Check. -/
theorem scheck_any {lo : Nat} {a : Option Addr} {n cap : Nat} {zs : List Int} {w : World} (b : Bool) (h : Seg lo w (.slice a n cap) zs) (hl : zs.length ≤ 10000) :
    Calls Try.prog 20 #[.agg #[.bool b, .slice a n cap]] w fun e w' => e = .returned (.int .i64 (formI b zs)) ∧ Below w.heap.size w w' := by
  obtain ⟨rfl, _⟩ := h.len
  have hB0 : Below w.heap.size w (w.alloc (.cells #[.bool b, .slice a zs.length cap] 25)) := (Below.refl _ w).alloc (Nat.le_refl _) _
  have hck := check_any (h.below hB0) hl
  by_cases hc : b = true ∧ zs = []
  · obtain ⟨rfl, rfl⟩ := hc
    have HF : Hid (formI true [] = 6) := by rw [Hid, formI, if_pos]; simp
    clear hck
    go_enter Try.func20, Try.ntmps20
    go_wp2
    go_ret
    exact ⟨ret_int HF.out.symm, hB0⟩
  · have HF : Hid (formOf zs = formI b zs) := by
      rw [Hid, formI]
      by_cases hf : formOf zs = 0
      · rw [if_neg (by simp only [hf]; simpa using hc), hf]
      · rw [if_pos (Or.inl hf)]
        rw [formOf] at hf ⊢
        split
        · rename_i g; rw [if_pos g] at hf; exact absurd rfl hf
        · rfl
    cases b with
    | false =>
      clear hc
      go_enter Try.func20, Try.ntmps20
      go_wp2_with fail
      refine hck.mono ?_
      rintro e w1 ⟨rfl, hb1⟩
      have hBZ := hB0.trans (hb1.mono hB0.size)
      clear hck
      go_wp2
      go_ret
      exact ⟨ret_int HF.out, hBZ⟩
    | true =>
      have h0 : zs ≠ [] := fun g => hc ⟨rfl, g⟩
      have hz : ((zs.length : Int) == 0) = false := beq_eq_false_iff_ne.2 (by have := List.length_pos_iff.2 h0; omega)
      clear hc h0
      go_enter Try.func20, Try.ntmps20
      go_wp2_with fail
      refine hck.mono ?_
      rintro e w1 ⟨rfl, hb1⟩
      have hBZ := hB0.trans (hb1.mono hB0.size)
      clear hck
      go_wp2
      go_ret
      exact ⟨ret_int HF.out, hBZ⟩
end Go.Proofs.Ytjoakmhebcfeaaa
