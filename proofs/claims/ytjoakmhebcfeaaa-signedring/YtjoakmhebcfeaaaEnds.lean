/-
  The walks of the program's Trim, One, Check, Of.
-/
import Derived.Test.YtjoakmhebcfeaaaBare
import Derived.Test.YtjoakmhebcfeaaaWiden
import Derived.Test.YtjoakmhebcfeaaaSmall
namespace Go.Proofs.Ytjoakmhebcfeaaa
open Go.RowKit

set_option maxRecDepth 100000 in
set_option maxHeartbeats 400000 in
/-- Trim(n): n without its highest noughts, in new memory. -/
theorem trim_any {lo : Nat} {sv : Value} {zs : List Int} {w : World} (h : Seg lo w sv zs) (hl : zs.length ≤ 10000) :
    Calls Try.prog 39 #[sv] w fun e w' => ∃ (a : Option Addr) (cap : Nat) (ts : List Int), e = .returned (.slice a ts.length cap) ∧ Seg w.heap.size w' (.slice a ts.length cap) ts ∧ Norm ts ∧ val ts = val zs ∧ ts.length ≤ zs.length ∧ Below w.heap.size w w' := by
  go_enter Try.func39, Try.ntmps39
  go_wp2_with fail
  refine (bare_any h (by omega)).mono ?_
  rintro e w1 ⟨a1, cap1, ts, rfl, hs1, hn1, hv1, hl1, hb1⟩
  have HV := hide hv1
  clear hv1
  go_wp2_with fail
  refine (widen_any hs1 ts.length (Nat.le_refl _) (by omega)).mono ?_
  rintro e w2 ⟨a2, cap2, rfl, hs2, hb2⟩
  rw [Nat.sub_self, List.replicate_zero, List.append_nil] at hs2
  go_wp2
  go_ret
  exact ⟨_, _, ts, rfl, hs2.mono hb1.size, hn1, HV.out, hl1, hb1.trans (hb2.mono hb1.size)⟩

set_option maxRecDepth 100000 in
set_option maxHeartbeats 400000 in
/-- One(n), below 2^64. -/
theorem one_yes {lo : Nat} {sv : Value} {zs : List Int} {w : World} (h : Seg lo w sv zs) (hl : zs.length ≤ 10000) (hv : val zs < 18446744073709551616) :
    Calls Try.prog 41 #[sv] w fun e w' => e = .returned (.tuple #[.int .u64 (val zs), .bool true]) ∧ Below w.heap.size w w' := by
  go_enter Try.func41, Try.ntmps41
  go_wp2_with fail
  refine (bare_any h (by omega)).mono ?_
  rintro e w1 ⟨a1, cap1, ts, rfl, hs1, hn1, hv1, hl1, hb1⟩
  have hlt : ts.length ≤ 1 := by
    rcases Nat.lt_or_ge 1 ts.length with h2 | h2
    · have := norm_lt (xs := [0, 1]) (ys := ts) (by intro z hz; simp at hz; omega) hs1.words hn1
      have b := norm_val hs1.words hn1 (by intro e; rw [e] at h2; simp at h2)
      have c := pw_mono (m := 1) (n := ts.length - 1) (by omega)
      rw [show pw 1 = 18446744073709551616 from rfl] at c
      omega
    · exact h2
  have hd : ts[0]?.getD 0 = val zs := by
    rw [← hv1]
    match ts, hlt with
    | [], _ => rfl
    | [t], _ => simp [val]
  have hdg := digit_any hs1 0
  rw [hd] at hdg
  clear hd hv1 hv
  have hl0 : ¬ (1 : Int) < (ts.length : Int) := by omega
  go_wp2_with fail
  refine hdg.mono ?_
  rintro e w2 ⟨rfl, rfl⟩
  go_wp2
  go_ret2
  exact ⟨rfl, hb1⟩

set_option maxRecDepth 100000 in
set_option maxHeartbeats 400000 in
/-- One(n), not below 2^64. -/
theorem one_no {lo : Nat} {sv : Value} {zs : List Int} {w : World} (h : Seg lo w sv zs) (hl : zs.length ≤ 10000) (hv : 18446744073709551616 ≤ val zs) :
    Calls Try.prog 41 #[sv] w fun e w' => e = .returned (.tuple #[.int .u64 0, .bool false]) ∧ Below w.heap.size w w' := by
  go_enter Try.func41, Try.ntmps41
  go_wp2_with fail
  refine (bare_any h (by omega)).mono ?_
  rintro e w1 ⟨a1, cap1, ts, rfl, hs1, hn1, hv1, hl1, hb1⟩
  have hl0 : (1 : Int) < (ts.length : Int) := by
    have a := val_lt hs1.words
    rcases Nat.lt_or_ge 1 ts.length with h2 | h2
    · omega
    · have c := pw_mono (m := ts.length) (n := 1) h2
      rw [show pw 1 = 18446744073709551616 from rfl] at c
      omega
  clear hv1 hv
  go_wp2
  go_ret2
  exact ⟨rfl, hb1⟩

/-- What Check and its like come to: 0 (OK), or 6 (ErrForm). -/
def formOf (zs : List Int) : Int := if zs = [] ∨ zs[zs.length - 1]?.getD 0 ≠ 0 then 0 else 6

set_option maxRecDepth 100000 in
set_option maxHeartbeats 400000 in
/-- Check(n). -/
theorem check_any {lo : Nat} {a : Option Addr} {cap : Nat} {zs : List Int} {w : World} (h : Seg lo w (.slice a zs.length cap) zs) (hl : zs.length ≤ 10000) :
    Calls Try.prog 45 #[.slice a zs.length cap] w fun e w' => e = .returned (.int .i64 (formOf zs)) ∧ Below w.heap.size w w' := by
  go_enter Try.func45, Try.ntmps45
  go_wp2_with fail
  refine (bare_any h (by omega)).mono ?_
  rintro e w1 ⟨a1, cap1, ts, rfl, hs1, hn1, hv1, hl1, hb1⟩
  have hw := h.words
  have hw1 := hs1.words
  by_cases e : ts.length = zs.length
  · have : ts = zs := words_unique hw1 hw e hv1
    have hf : formOf zs = 0 := by unfold formOf; rw [← this]; exact if_pos hn1
    have HF := hide hf
    have hne : ((ts.length : Int) != (zs.length : Int)) = false := by simp; omega
    clear hv1 e this hf
    go_wp2
    go_ret
    exact ⟨ret_int HF.out.symm, hb1⟩
  · have hf : formOf zs = 6 := by
      unfold formOf
      exact if_neg fun hn => e (by rw [norm_unique hw1 hw hn1 hn hv1])
    have HF := hide hf
    have hne : ((ts.length : Int) != (zs.length : Int)) = true := by simp; omega
    clear hv1 e hf
    go_wp2
    go_ret
    exact ⟨ret_int HF.out.symm, hb1⟩

set_option maxRecDepth 100000 in
set_option maxHeartbeats 400000 in
/-- Of(x). -/
theorem of_any (x : Int) (hx : 0 ≤ x ∧ x < 18446744073709551616) (w : World) :
    Calls Try.prog 40 #[.int .u64 x] w fun e w' => ∃ (a : Option Addr) (cap : Nat) (ts : List Int), e = .returned (.slice a ts.length cap) ∧ Seg w.heap.size w' (.slice a ts.length cap) ts ∧ Norm ts ∧ val ts = x ∧ ts.length ≤ 1 ∧ Below w.heap.size w w' := by
  by_cases h0 : x = 0
  · subst h0
    go_enter Try.func40, Try.ntmps40
    go_wp2
    go_ret
    exact ⟨none, 0, [], rfl, Seg.nil _ _, norm_nil, rfl, Nat.zero_le _, Below.refl _ _⟩
  · have hne : (x == 0) = false := by simp [h0]
    have H0 := hide h0
    clear h0
    go_enter Try.func40, Try.ntmps40
    go_wp2
    go_ret
    refine ⟨_, _, [x], rfl, ⟨Words.cons hx Words.nil, _, _, rfl, Nat.le_refl _, fun _ => ⟨_, 0, rfl, Nat.le_refl _, by simp, fun j hj => ?_, fun j hj => ?_⟩⟩, .inr ?_, ?_, Nat.le_refl _, (Below.refl _ _).alloc (Nat.le_refl _) _⟩
    · obtain rfl : j = 0 := by simpa using hj
      exact cell_of_heap (World.alloc_heap_new w _) 0
    · obtain rfl : j = 0 := by simpa using hj
      exact frozen_of_heap (World.alloc_heap_new w _) 0
    · simpa using H0.out
    · simp [val]
end Go.Proofs.Ytjoakmhebcfeaaa
