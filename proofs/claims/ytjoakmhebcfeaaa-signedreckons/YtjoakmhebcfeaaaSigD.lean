/-
  The walks of signed: Sub, sided, Sign, Cmp.
-/
import Derived.Test.YtjoakmhebcfeaaaSigC
import Derived.Test.YtjoakmhebcfeaaaLenOf
namespace Go.Proofs.Ytjoakmhebcfeaaa
open Go.RowKit

set_option maxRecDepth 100000 in
set_option maxHeartbeats 2000000 in
/-- Sub. -/
theorem ssub_any {lo lo' : Nat} {a c : Option Addr} {n ca m cc : Nat} {xs ys : List Int} {w : World} (b d : Bool) (h : Seg lo w (.slice a n ca) xs) (h' : Seg lo' w (.slice c m cc) ys) (hl : xs.length ≤ 2000) (hl' : ys.length ≤ 2000) :
    Calls Try.prog 25 #[.agg #[.bool b, .slice a n ca], .agg #[.bool d, .slice c m cc]] w fun e w' => ∃ (b' : Bool) (a' : Option Addr) (cap' : Nat) (ts : List Int), e = .returned (.agg #[.bool b', .slice a' ts.length cap']) ∧ Seg w.heap.size w' (.slice a' ts.length cap') ts ∧ Canon b' ts ∧ sgn b' (val ts) = sgn b (val xs) - sgn d (val ys) ∧ ts.length ≤ max xs.length ys.length + 1 ∧ Below w.heap.size w w' := by
  obtain ⟨_, _, e3', hB1, hz⟩ := three_new w (.cells #[.bool b, .slice a n ca] 25) (.cells #[.bool (!d), .slice c m cc] 25) (.cells #[.bool false, .slice none 0 0] 25)
  have hz1 := hide hz
  have had := sadd_any b (!d) (h.below hB1) (h'.below hB1) hl hl'
  clear hz
  go_enter Try.func25, Try.ntmps25
  go_wp2_with fail
  refine had.mono ?_
  rintro e w2 ⟨b2, a2, c2, ts, rfl, hs2, hc2, hv2, hl2, hb2⟩
  obtain ⟨r0, r1, r2, r3⟩ := two_cells e3' hb2 (by have := hz1.out; omega)
  have hT := turns2 (w.heap.size + 2) w2 (.bool b2) (.slice a2 ts.length c2)
  have HV2 := hide hv2
  clear hv2 had
  have hS := (hs2.turns_lo hT (by have := hz1.out; omega)).mono hB1.size
  have hBB := (hB1.trans (hb2.mono hB1.size)).trans (hT.below.mono (by omega))
  go_wp2
  refine bodyPost_ret (v := .agg #[.bool b2, .slice a2 ts.length c2]) (by simp [results, Try.f25, go_sem, r0, r1]) rfl ?_
  exact ⟨b2, _, _, ts, rfl, hS, hc2, by rw [HV2.out, sgn_not, Int.sub_eq_add_neg], hl2, hBB⟩

theorem blen_ne {v : Int} (h : 0 < v) : ((blen v : Int) == 0) = false := by
  have := blen_pos h
  exact beq_eq_false_iff_ne.2 (by omega)

set_option maxRecDepth 100000 in
set_option maxHeartbeats 2000000 in
/-- sided. -/
theorem sided_any {lo : Nat} {a : Option Addr} {n cap : Nat} {zs : List Int} {w : World} (b : Bool) (h : Seg lo w (.slice a n cap) zs) (hl : zs.length ≤ 10000) {K : World → Prop} (hK : ∀ W, K W → Seg lo W (.slice a n cap) zs) :
    Calls Try.prog 47 #[.agg #[.bool b, .slice a n cap]] w fun e w' => ∃ (b' : Bool) (a' : Option Addr) (cap' : Nat) (ts : List Int), e = .returned (.agg #[.bool b', .slice a' ts.length cap']) ∧ (∀ W, K W → Seg 0 W (.slice a' ts.length cap') ts) ∧ ((ts = [] ∧ b' = false) ∨ 0 < val ts) ∧ sgn b' (val ts) = sgn b (val zs) ∧ ts.length ≤ zs.length ∧ Below w.heap.size w w' := by
  obtain ⟨rfl, _⟩ := h.len
  obtain ⟨e1, e2, hB0, hz⟩ := two_new w (.cells #[.bool b, .slice a zs.length cap] 25) (.cells #[.bool false, .slice none 0 0] 25)
  have HZ := hide hz
  have hlen := len_any (h.below hB0) hl
  have hp := val_nonneg h.words
  clear hz
  by_cases h0 : val zs = 0
  · rw [h0, show blen 0 = 0 from rfl] at hlen
    have H0 := hide h0
    clear h0 hp
    go_enter Try.func47, Try.ntmps47
    go_wp2_with fail
    refine hlen.mono ?_
    rintro e w1 ⟨rfl, hb1⟩
    obtain ⟨k0, k1, k2, k3⟩ := two_cells e1 hb1 (by have := HZ.out; omega)
    obtain ⟨r0, r1, r2, r3⟩ := two_cells e2 hb1 (by have := HZ.out; omega)
    have hBB := (hB0.trans (hb1.mono hB0.size)).trans ((turns2 (w.heap.size + 1) w1 (.bool false) (.slice none 0 0)).below.mono (by omega))
    clear hlen
    go_wp2
    refine bodyPost_ret (v := .agg #[.bool false, .slice none 0 0]) (by simp [results, Try.f47, go_sem, r0, r1]) rfl ?_
    exact ⟨false, none, 0, [], rfl, fun W _ => Seg.nil 0 W, Or.inl ⟨rfl, rfl⟩, by rw [H0.out]; cases b <;> rfl, by simp, hBB⟩
  · have hpos : 0 < val zs := by omega
    have hne := blen_ne hpos
    have HP := hide hpos
    clear h0 hp hpos
    go_enter Try.func47, Try.ntmps47
    go_wp2_with fail
    refine hlen.mono ?_
    rintro e w1 ⟨rfl, hb1⟩
    obtain ⟨k0, k1, k2, k3⟩ := two_cells e1 hb1 (by have := HZ.out; omega)
    obtain ⟨r0, r1, r2, r3⟩ := two_cells e2 hb1 (by have := HZ.out; omega)
    have hBB := (hB0.trans (hb1.mono hB0.size)).trans ((turns2 (w.heap.size + 1) w1 (.bool b) (.slice a zs.length cap)).below.mono (by omega))
    clear hlen
    go_wp2
    refine bodyPost_ret (v := .agg #[.bool b, .slice a zs.length cap]) (by simp [results, Try.f47, go_sem, r0, r1]) rfl ?_
    exact ⟨b, a, cap, zs, rfl, fun W hW => (hK W hW).mono (Nat.zero_le _), Or.inr HP.out, rfl, Nat.le_refl _, hBB⟩

set_option maxRecDepth 100000 in
set_option maxHeartbeats 2000000 in
/-- Sign. -/
theorem ssign_any {lo : Nat} {a : Option Addr} {n cap : Nat} {zs : List Int} {w : World} (b : Bool) (h : Seg lo w (.slice a n cap) zs) (hl : zs.length ≤ 10000) :
    Calls Try.prog 22 #[.agg #[.bool b, .slice a n cap]] w fun e w' => e = .returned (.int .i64 (cmpI (sgn b (val zs)) 0)) ∧ Below w.heap.size w w' := by
  have hB0 : Below w.heap.size w (w.alloc (.cells #[.bool b, .slice a n cap] 25)) := (Below.refl _ w).alloc (Nat.le_refl _) _
  have e1 := World.alloc_heap_new w (.cells #[.bool b, .slice a n cap] 25)
  have HZ : Hid ((w.alloc (.cells #[.bool b, .slice a n cap] 25)).heap.size = w.heap.size + 1) := by rw [Hid]; simp
  have hm := sided_any b (h.below hB0) hl (K := fun _ => False) (fun _ h => h.elim)
  go_enter Try.func22, Try.ntmps22
  go_wp2_with fail
  refine hm.mono ?_
  rintro e w1 ⟨b1, a1, c1, ts, rfl, _, hor, hv1, hl1, hb1⟩
  obtain ⟨k0, k1, f0, f1⟩ := two_cells e1 hb1 (by have := HZ.out; omega)
  have hT := turns2 w.heap.size w1 (.bool b1) (.slice a1 ts.length c1)
  have hBB := (hB0.trans (hb1.mono hB0.size)).trans hT.below
  have HV := hide hv1
  clear hm hv1 e1
  rcases hor with ⟨rfl, rfl⟩ | hp
  · go_wp2
    go_ret
    exact ⟨ret_int (by rw [← HV.out]; rfl), hBB⟩
  · cases b1 with
    | true =>
      have HF : Hid (cmpI (sgn true (val ts)) 0 = -1) := by rw [Hid]; exact cmpI_lt (by simp [sgn]; omega)
      clear hp
      go_wp2
      go_ret
      exact ⟨ret_int (by rw [← HV.out, HF.out]), hBB⟩
    | false =>
      have h0 : ts ≠ [] := by rintro rfl; rw [val_nil] at hp; omega
      have hz : ((ts.length : Int) == 0) = false := beq_eq_false_iff_ne.2 (by have := List.length_pos_iff.2 h0; omega)
      have HF : Hid (cmpI (sgn false (val ts)) 0 = 1) := by rw [Hid]; exact cmpI_gt (by simp [sgn]; omega)
      clear hp h0
      go_wp2
      go_ret
      exact ⟨ret_int (by rw [← HV.out, HF.out]), hBB⟩
end Go.Proofs.Ytjoakmhebcfeaaa
