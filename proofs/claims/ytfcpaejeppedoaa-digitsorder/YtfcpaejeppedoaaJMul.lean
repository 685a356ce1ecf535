/-
  Joined: Mul Power PowerNo.
-/
import Derived.Test.YtfcpaejeppedoaaJQLong
import Derived.Test.YtfcpaejeppedoaaJEnds
import Derived.Laws.EntriesVeiled
import Derived.Test.YtfcpaejeppedoaaJLenOf
import Derived.Test.YtfcpaejeppedoaaJCmp
namespace Go.Proofs.Ytfcpaejeppedoaa
open Go.RowKit
set_option maxRecDepth 100000 in
set_option maxHeartbeats 400000 in
theorem tgrow_any {lo : Nat} {sa : Value} {xs : List Int} {w : World} (ha : Seg lo w sa xs) (hla : xs.length ≤ 4000) (x : Int) (hx : 0 ≤ x ∧ x < 18446744073709551616) :
    Calls Try.prog 19 #[sa, .int .u64 x] w fun e w' => ∃ (a : Option Addr) (cap : Nat) (zs : List Int), e = .returned (.slice a zs.length cap) ∧ Seg w.heap.size w' (.slice a zs.length cap) zs ∧ Norm zs ∧ val zs = val xs * x ∧ zs.length ≤ xs.length + 1 ∧ Below w.heap.size w w' := by
  go_enter Try.func19, Try.ntmps19
  go_wp2_with fail
  refine (of_any x hx w).mono ?_
  rintro e w1 ⟨a1, k1, us, rfl, hs1, hn1, hv1, hl1, hb1⟩
  have hm := school_any (ha.below hb1) hs1 (by omega) (by omega)
  rw [hv1] at hm
  clear hv1
  go_wp2_with fail
  refine hm.mono ?_
  rintro e w2 ⟨a2, k2, zs, rfl, hs2, hn2, hv2, hl2, hb2⟩
  have HV := hide hv2
  clear hv2 hm
  go_wp2
  go_ret
  exact ⟨_, _, zs, rfl, hs2.mono hb1.size, hn2, HV.out, by omega, hb1.trans (hb2.mono hb1.size)⟩
end Go.Proofs.Ytfcpaejeppedoaa
namespace Go.Proofs.Ytfcpaejeppedoaa
open Go.RowKit Go.Shelf
attribute [local go_sem] Oper.semAt_some
attribute [local go_sem] Oper.semAt_some
end Go.Proofs.Ytfcpaejeppedoaa
