/-
  The walks of the program's Trim, One, Check, Of.
-/
import Derived.Test.YtkehlclnljadjaaJBare
import Derived.Test.YtkehlclnljadjaaJWiden
import Derived.Test.YtkehlclnljadjaaSmall
namespace Go.Proofs.Ytkehlclnljadjaa
open Go.RowKit

set_option maxRecDepth 100000 in
set_option maxHeartbeats 400000 in
/-- Trim(n): n without its highest noughts, in new memory. -/
theorem trim_any {lo : Nat} {sv : Value} {zs : List Int} {w : World} (h : Seg lo w sv zs) (hl : zs.length ≤ 10000) :
    Calls Try.prog 35 #[sv] w fun e w' => ∃ (a : Option Addr) (cap : Nat) (ts : List Int), e = .returned (.slice a ts.length cap) ∧ Seg w.heap.size w' (.slice a ts.length cap) ts ∧ Norm ts ∧ val ts = val zs ∧ ts.length ≤ zs.length ∧ Below w.heap.size w w' := by
  go_enter Try.func35, Try.ntmps35
  go_wp2_with fail
  refine (bare_any h (by omega)).mono ?_
  rintro e w1 ⟨a1, cap1, ts, rfl, hs1, hn1, hv1, hl1, hb1⟩
  have HV := hide hv1
  clear hv1
  go_wp2_with fail
  refine (widen_any hs1 ts.length (Nat.le_refl _) (by omega)).mono ?_
  rintro e w2 ⟨a2, cap2, rfl, hs2, hb2⟩
  rw [Nat.sub_self, List.replicate_zero, List.append_nil] at hs2
  go_wp2
  go_ret
  exact ⟨_, _, ts, rfl, hs2.mono hb1.size, hn1, HV.out, hl1, hb1.trans (hb2.mono hb1.size)⟩

/-- What Check and its like come to: 0 (OK), or 6 (ErrForm). -/
def formOf (zs : List Int) : Int := if zs = [] ∨ zs[zs.length - 1]?.getD 0 ≠ 0 then 0 else 6

set_option maxRecDepth 100000 in
set_option maxHeartbeats 400000 in
/-- Of(x). -/
theorem of_any (x : Int) (hx : 0 ≤ x ∧ x < 18446744073709551616) (w : World) :
    Calls Try.prog 31 #[.int .u64 x] w fun e w' => ∃ (a : Option Addr) (cap : Nat) (ts : List Int), e = .returned (.slice a ts.length cap) ∧ Seg w.heap.size w' (.slice a ts.length cap) ts ∧ Norm ts ∧ val ts = x ∧ ts.length ≤ 1 ∧ Below w.heap.size w w' := by
  by_cases h0 : x = 0
  · subst h0
    go_enter Try.func31, Try.ntmps31
    go_wp2
    go_ret
    exact ⟨none, 0, [], rfl, Seg.nil _ _, norm_nil, rfl, Nat.zero_le _, Below.refl _ _⟩
  · have hne : (x == 0) = false := by simp [h0]
    have H0 := hide h0
    clear h0
    go_enter Try.func31, Try.ntmps31
    go_wp2
    go_ret
    refine ⟨_, _, [x], rfl, ⟨Words.cons hx Words.nil, _, _, rfl, Nat.le_refl _, fun _ => ⟨_, 0, rfl, Nat.le_refl _, by simp, fun j hj => ?_, fun j hj => ?_⟩⟩, .inr ?_, ?_, Nat.le_refl _, (Below.refl _ _).alloc (Nat.le_refl _) _⟩
    · obtain rfl : j = 0 := by simpa using hj
      exact cell_of_heap (World.alloc_heap_new w _) 0
    · obtain rfl : j = 0 := by simpa using hj
      exact frozen_of_heap (World.alloc_heap_new w _) 0
    · simpa using H0.out
    · simp [val]
end Go.Proofs.Ytkehlclnljadjaa
