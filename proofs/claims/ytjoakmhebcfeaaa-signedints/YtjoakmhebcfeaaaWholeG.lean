/-
  The walks of the document's answers of layer 4: Of, One, Check.
-/
import Derived.Test.YtjoakmhebcfeaaaWholeF
import Derived.Laws.Bits64
namespace Go.Proofs.Ytjoakmhebcfeaaa
open Go.RowKit

set_option maxRecDepth 100000 in
set_option maxHeartbeats 1000000 in
/-- The document's Of. -/
theorem iof_any (x : Int) (hx : -9223372036854775808 ≤ x ∧ x < 9223372036854775808) (w : World) :
    Calls Try.prog 18 #[.int .i64 x] w fun e w' => ∃ (b' : Bool) (a' : Option Addr) (cap' : Nat) (ts : List Int), e = .returned (.agg #[.bool b', .slice a' ts.length cap']) ∧ Seg w.heap.size w' (.slice a' ts.length cap') ts ∧ Canon b' ts ∧ sgn b' (val ts) = x ∧ ts.length ≤ 1 ∧ Below w.heap.size w w' := by
  have hB0 : Below w.heap.size w (w.alloc (.cells #[.bool false, .slice none 0 0] 25)) := (Below.refl _ w).alloc (Nat.le_refl _) _
  have e3 := World.alloc_heap_new w (.cells #[.bool false, .slice none 0 0] 25)
  have HZ : Hid ((w.alloc (.cells #[.bool false, .slice none 0 0] 25)).heap.size = w.heap.size + 1) := by rw [Hid]; simp
  by_cases h0 : x < 0
  · have hU : IntKind.u64.wrap (-IntKind.u64.wrap x) = -x := by rw [IntKind.wrap_u64, IntKind.wrap_u64]; omega
    go_enter Try.func18, Try.ntmps18
    go_wp2_with fail
    try rw [hU]
    refine (rof_any (-x) (by omega) _).mono ?_
    rintro e w1 ⟨a1, c1, zs, rfl, hs1, hn1, hv1, hl1, hb1⟩
    have HV1 := hide hv1
    clear hv1 hU
    go_wp2_with fail
    refine (imake_any hs1 (by omega) true).mono ?_
    rintro e w2 ⟨b2, a2, c2, ts, rfl, hs2, hc2, hv2, hl2, hb2⟩
    have hb2' := hb1.trans (hb2.mono hb1.size)
    obtain ⟨r0, r1, r2, r3⟩ := two_cells e3 hb2' (by have := HZ.out; omega)
    have hT := turns2 w.heap.size w2 (.bool b2) (.slice a2 ts.length c2)
    have HV2 := hide hv2
    clear hv2
    have hS := (hs2.turns_lo hT (by have := HZ.out; have := hb1.size; omega)).mono (show w.heap.size ≤ w1.heap.size from Nat.le_trans hB0.size hb1.size)
    have hBB := (hB0.trans (hb2'.mono hB0.size)).trans hT.below
    go_wp2
    refine bodyPost_ret (v := .agg #[.bool b2, .slice a2 ts.length c2]) (by simp [results, Try.f18, go_sem, r0, r1]) rfl ?_
    exact ⟨b2, _, _, ts, rfl, hS, hc2, by rw [HV2.out, HV1.out]; simp [sgn], by omega, hBB⟩
  · have hP : IntKind.u64.wrap x = x := by rw [IntKind.wrap_u64]; omega
    go_enter Try.func18, Try.ntmps18
    go_wp2_with fail
    try rw [hP]
    refine (rof_any x (by omega) _).mono ?_
    rintro e w1 ⟨a1, c1, zs, rfl, hs1, hn1, hv1, hl1, hb1⟩
    have HV1 := hide hv1
    clear hv1 hP
    go_wp2_with fail
    refine (imake_any hs1 (by omega) false).mono ?_
    rintro e w2 ⟨b2, a2, c2, ts, rfl, hs2, hc2, hv2, hl2, hb2⟩
    have hb2' := hb1.trans (hb2.mono hb1.size)
    obtain ⟨r0, r1, r2, r3⟩ := two_cells e3 hb2' (by have := HZ.out; omega)
    have hT := turns2 w.heap.size w2 (.bool b2) (.slice a2 ts.length c2)
    have HV2 := hide hv2
    clear hv2
    have hS := (hs2.turns_lo hT (by have := HZ.out; have := hb1.size; omega)).mono (show w.heap.size ≤ w1.heap.size from Nat.le_trans hB0.size hb1.size)
    have hBB := (hB0.trans (hb2'.mono hB0.size)).trans hT.below
    go_wp2
    refine bodyPost_ret (v := .agg #[.bool b2, .slice a2 ts.length c2]) (by simp [results, Try.f18, go_sem, r0, r1]) rfl ?_
    exact ⟨b2, _, _, ts, rfl, hS, hc2, by rw [HV2.out, HV1.out]; simp [sgn], by omega, hBB⟩

/-- What One answers. -/
def oneI (v : Int) : Ending := if -9223372036854775808 ≤ v ∧ v < 9223372036854775808 then .returned (.tuple #[.int .i64 v, .bool true]) else .returned (.tuple #[.int .i64 0, .bool false])

set_option maxRecDepth 100000 in
set_option maxHeartbeats 1000000 in
/-- The document's One. -/
theorem ione_any {lo : Nat} {a : Option Addr} {n cap : Nat} {zs : List Int} {w : World} (b : Bool) (h : Seg lo w (.slice a n cap) zs) (hl : zs.length ≤ 10000) :
    Calls Try.prog 15 #[.agg #[.bool b, .slice a n cap]] w fun e w' => e = oneI (sgn b (val zs)) ∧ Below w.heap.size w w' := by
  have hB0 : Below w.heap.size w (w.alloc (.cells #[.bool b, .slice a n cap] 25)) := (Below.refl _ w).alloc (Nat.le_refl _) _
  have hm := imake_any (h.below hB0) hl b
  go_enter Try.func15, Try.ntmps15
  go_wp2_with fail
  refine hm.mono ?_
  rintro e w1 ⟨b1, a1, c1, ts, rfl, hs1, hc1, hv1, hl1, hb1⟩
  have hh : w1.heap[w.heap.size]? = some (.cells #[.bool b, .slice a n cap] 25 (0, 0)) := (hb1.block w.heap.size (by simp)).trans (World.alloc_heap_new w _)
  have k0 : w1.cell? ⟨w.heap.size, 0, none⟩ = some (.bool b) := cell_of_heap hh 0
  have k1 : w1.cell? ⟨w.heap.size, 1, none⟩ = some (.slice a n cap) := cell_of_heap hh 1
  have f0 : w1.frozen? ⟨w.heap.size, 0, none⟩ = false := frozen_of_heap hh 0
  have f1 : w1.frozen? ⟨w.heap.size, 1, none⟩ = false := frozen_of_heap hh 1
  have hwt := hs1.words
  have hp := val_nonneg hwt
  have hB1 := hB0.trans (hb1.mono hB0.size)
  have hT := turns2 w.heap.size w1 (.bool b1) (.slice a1 ts.length c1)
  have hBB := hB1.trans hT.below
  have hs2 := hs1.turns_lo hT (by simp)
  have e2 := turned2 (.bool b1) (.slice a1 ts.length c1) hh
  have HV := hide hv1
  have hz2 := hide (Nat.lt_of_lt_of_le (show w.heap.size < w1.heap.size from Nat.lt_of_lt_of_le (by simp) hb1.size) hT.below.size)
  clear hm hv1 hh
  go_wp2_with fail
  obtain ⟨w2, hw2⟩ : ∃ w2, (w1.setCell ⟨w.heap.size, 0, none⟩ (.bool b1)).setCell ⟨w.heap.size, 1, none⟩ (.slice a1 ts.length c1) = w2 := ⟨_, rfl⟩
  rw [hw2] at hs2 e2 hBB hz2 ⊢
  clear hw2 hT k0 k1 f0 f1
  by_cases hbig : 18446744073709551616 ≤ val ts
  · refine (rone_no hs2 (by omega) hbig).mono ?_
    rintro e w3 ⟨rfl, hb3⟩
    obtain ⟨i0, i1, _, _⟩ := two_cells e2 hb3 hz2.out
    have HF : Hid (oneI (sgn b1 (val ts)) = .returned (.tuple #[.int .i64 0, .bool false])) := by
      rw [Hid, oneI, if_neg]
      cases b1 <;> simp [sgn] <;> omega
    have hBZ := hBB.trans (hb3.mono hBB.size)
    clear hbig hp
    go_wp2
    go_ret2
    rw [← HV.out, HF.out]
    exact ⟨rfl, hBZ⟩
  · refine (rone_yes hs2 (by omega) (by omega)).mono ?_
    rintro e w3 ⟨rfl, hb3⟩
    obtain ⟨i0, i1, _, _⟩ := two_cells e2 hb3 hz2.out
    have hBZ := hBB.trans (hb3.mono hBB.size)
    obtain ⟨x, hx⟩ : ∃ x, val ts = x := ⟨_, rfl⟩
    rw [hx] at hp hbig HV ⊢
    have hq : b1 = true → 0 < x := fun e => hx ▸ norm_pos hwt hc1.1 (hc1.2 e)
    have HX := hide hx
    clear hx
    cases b1 with
    | false =>
      by_cases hm : 9223372036854775808 ≤ x
      · have HF : Hid (oneI (sgn false x) = .returned (.tuple #[.int .i64 0, .bool false])) := by
          rw [Hid, oneI, if_neg]
          simp [sgn]; omega
        go_wp2
        go_ret2
        rw [← HV.out, HF.out]
        exact ⟨rfl, hBZ⟩
      · have HF : Hid (oneI (sgn false x) = .returned (.tuple #[.int .i64 x, .bool true])) := by
          rw [Hid, oneI, if_pos]
          · simp [sgn]
          · simp [sgn]; omega
        have hw : IntKind.i64.wrap x = x := by rw [IntKind.wrap_i64]; omega
        have hgt : ¬ 9223372036854775808 < x := by omega
        go_wp2
        go_ret2
        rw [← HV.out, HF.out]
        exact ⟨rfl, hBZ⟩
    | true =>
      by_cases hm : 9223372036854775808 < x
      · have HF : Hid (oneI (sgn true x) = .returned (.tuple #[.int .i64 0, .bool false])) := by
          rw [Hid, oneI, if_neg]
          simp [sgn]; omega
        go_wp2
        go_ret2
        rw [← HV.out, HF.out]
        exact ⟨rfl, hBZ⟩
      · have HF : Hid (oneI (sgn true x) = .returned (.tuple #[.int .i64 (-x), .bool true])) := by
          rw [Hid, oneI, if_pos]
          · simp [sgn]
          · simp [sgn]
            have := hq rfl
            omega
        have hw : IntKind.i64.wrap (IntKind.u64.wrap (-x)) = -x := by
          have := hq rfl
          rw [IntKind.wrap_u64, IntKind.wrap_i64]; omega
        go_wp2
        go_ret2
        rw [← HV.out, HF.out]
        exact ⟨rfl, hBZ⟩

/-- What Check answers. -/
def formI (b : Bool) (zs : List Int) : Int := if formOf zs ≠ 0 ∨ (b = true ∧ zs = []) then 6 else 0

set_option maxRecDepth 100000 in
set_option maxHeartbeats 1000000 in
/-- The document's Check. -/
theorem icheck_any {lo : Nat} {a : Option Addr} {n cap : Nat} {zs : List Int} {w : World} (b : Bool) (h : Seg lo w (.slice a n cap) zs) (hl : zs.length ≤ 10000) :
    Calls Try.prog 21 #[.agg #[.bool b, .slice a n cap]] w fun e w' => e = .returned (.int .i64 (formI b zs)) ∧ Below w.heap.size w w' := by
  obtain ⟨rfl, _⟩ := h.len
  have hB0 : Below w.heap.size w (w.alloc (.cells #[.bool b, .slice a zs.length cap] 25)) := (Below.refl _ w).alloc (Nat.le_refl _) _
  have hck := rcheck_any (h.below hB0) hl
  by_cases hf : formOf zs = 0
  · rw [hf] at hck
    cases b with
    | false =>
      have HF : Hid (formI false zs = 0) := by rw [Hid, formI, if_neg]; simp [hf]
      clear hf
      go_enter Try.func21, Try.ntmps21
      go_wp2_with fail
      refine hck.mono ?_
      rintro e w1 ⟨rfl, rfl⟩
      go_wp2
      go_ret
      exact ⟨ret_int HF.out.symm, hB0⟩
    | true =>
      by_cases h0 : zs = []
      · subst h0
        have HF : Hid (formI true [] = 6) := by rw [Hid, formI, if_pos]; simp
        clear hf
        go_enter Try.func21, Try.ntmps21
        go_wp2_with fail
        refine hck.mono ?_
        rintro e w1 ⟨rfl, rfl⟩
        go_wp2
        go_ret
        exact ⟨ret_int HF.out.symm, hB0⟩
      · have hz : ((zs.length : Int) == 0) = false := beq_eq_false_iff_ne.2 (by have := List.length_pos_iff.2 h0; omega)
        have HF : Hid (formI true zs = 0) := by rw [Hid, formI, if_neg]; simp [hf, h0]
        clear hf h0
        go_enter Try.func21, Try.ntmps21
        go_wp2_with fail
        refine hck.mono ?_
        rintro e w1 ⟨rfl, rfl⟩
        go_wp2
        go_ret
        exact ⟨ret_int HF.out.symm, hB0⟩
  · have HF : Hid (formI b zs = 6) := by rw [Hid, formI, if_pos]; exact Or.inl hf
    have hb : (formOf zs != 0) = true := by simp [hf]
    go_enter Try.func21, Try.ntmps21
    go_wp2_with fail
    refine hck.mono ?_
    rintro e w1 ⟨rfl, rfl⟩
    go_wp2
    go_ret
    exact ⟨ret_int HF.out.symm, hB0⟩

end Go.Proofs.Ytjoakmhebcfeaaa
