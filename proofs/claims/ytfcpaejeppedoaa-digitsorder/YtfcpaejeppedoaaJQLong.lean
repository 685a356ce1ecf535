/-
  Joined: QLong QuotC Halves RMul.
-/
import Derived.Test.YtfcpaejeppedoaaQOff
import Derived.Test.YtfcpaejeppedoaaQPart
import Derived.Test.YtfcpaejeppedoaaJEnds
import Derived.Test.YtfcpaejeppedoaaJDown
import Derived.Test.YtfcpaejeppedoaaJLenOf
import Derived.Test.YtfcpaejeppedoaaJRDiv
import Derived.Deep.RegionWith
import Derived.Test.YtfcpaejeppedoaaJoin
import Derived.Deep.RegionHeld3
import Derived.Deep.CutRange
import Derived.Test.YtfcpaejeppedoaaJRefA
import Derived.Test.YtfcpaejeppedoaaProd
import Derived.Deep.AppendSrc
import Derived.Deep.RegionLaw
namespace Go.Proofs.Ytfcpaejeppedoaa
open Go.RowKit Go.Shelf
attribute [local go_sem] Oper.semAt_some
end Go.Proofs.Ytfcpaejeppedoaa
namespace Go.Proofs.Ytfcpaejeppedoaa
open Go.RowKit
theorem qpart_all {lo : Nat} {a : Option Addr} {la ca : Nat} {xs : List Int} {w : World} (ha : Seg lo w (.slice a la ca) xs) (hla : xs.length ≤ 1000) (x : Int) (hx : 0 ≤ x ∧ x < 18446744073709551616) :
    Calls Try.prog 23 #[.slice a la ca, .int .u64 x] w fun e w' => ∃ (a1 : Option Addr) (c1 : Nat) (qs : List Int), e = .returned (.tuple #[.slice a1 qs.length c1, .int .u64 (remZ (val xs) x), .int .i64 (errZ x)]) ∧ Seg w.heap.size w' (.slice a1 qs.length c1) qs ∧ Norm qs ∧ val qs = val xs / x ∧ Below w.heap.size w w' := by
  by_cases h : x = 0
  · subst h
    refine (partw_zero _ w).mono ?_
    rintro e w' ⟨rfl, hb⟩
    exact ⟨none, 0, [], rfl, Seg.nil _ _, norm_nil, by rw [Int.ediv_zero]; rfl, hb⟩
  · have hp : 0 < x := by omega
    refine (partw_yes ha (by omega) x ⟨hp, hx.2⟩).mono ?_
    rintro e w' ⟨a1, c1, qs, rfl, hq, nq, vq, _, hb⟩
    exact ⟨a1, c1, qs, by rw [errZ_pos hp, remZ_pos _ hp], hq, nq, vq, hb⟩
end Go.Proofs.Ytfcpaejeppedoaa
namespace Go.Proofs.Ytfcpaejeppedoaa
open Go.RowKit
end Go.Proofs.Ytfcpaejeppedoaa
namespace Go.Proofs.Ytfcpaejeppedoaa
open Go.RowKit
end Go.Proofs.Ytfcpaejeppedoaa
