/-
  Joined: Kit SPick.
-/
import Derived.Test.YtejocefblpkdjaaGreatJWiden
import Derived.Test.YtejocefblpkdjaaGreatJSmall
import Derived.Deep.QuietTactic
import Derived.BigQuiet
namespace Go.Proofs.YtejocefblpkdjaaGreat
open Go.RowKit
theorem Below.drewN' {B : Nat} {a w : World} (h : Below B a w) (n : Nat) : Below B a (w.drewN n) := ⟨h.os, h.tape, h.output, h.size, h.block⟩
theorem Seg.rows {lo : Nat} {W : World} {a : Option Addr} {len cap : Nat} {zs : List Int} (h : Seg lo W (.slice a len cap) zs) : 0 < len → ∃ p o, a = some ⟨p, o, none⟩ ∧ p < W.heap.size ∧ ∀ j, j < len → W.cell? ⟨p, o + j, none⟩ = some (.int .u64 (zs[j]?.getD 0)) := fun h0 => by
  obtain ⟨b, off, rfl, _, e3⟩ := h.row h0
  exact ⟨b, off, rfl, e3, fun j hj => (h.cell hj).1⟩
theorem tmod_is (x K : Int) (hK : 0 < K) : -K < x.tmod K ∧ x.tmod K < K := by
  by_cases h : 0 ≤ x
  · rw [Int.tmod_eq_emod_of_nonneg h]
    have := Int.emod_nonneg x (show K ≠ 0 by omega)
    have := Int.emod_lt_of_pos x hK
    omega
  · have e : x.tmod K = -((-x) % K) := by
      rw [show x = -(-x) by omega, Int.neg_tmod, Int.tmod_eq_emod_of_nonneg (by omega)]; simp
    rw [e]
    have := Int.emod_nonneg (-x) (show K ≠ 0 by omega)
    have := Int.emod_lt_of_pos (-x) hK
    omega
set_option maxRecDepth 100000 in
set_option maxHeartbeats 400000 in
theorem pick_is (K : Int) (hK : 0 < K) (hK1 : K ≤ 16777216) (x : Int) (w : World) :
    Calls Tryz.prog 28 #[.int .i64 x, .int .i64 K] w fun e w' => ∃ n : Nat, (n : Int) < K ∧ e = .returned (.int .i64 n) ∧ Below w.heap.size w w' := by
  obtain ⟨h1, h2⟩ := tmod_is x K hK
  have h3 : ¬ K ≤ 0 := by omega
  have h4 : ¬ K = 0 := by omega
  by_cases h0 : x.tmod K < 0
  · go_enter Tryz.func28, Tryz.ntmps28
    go_wp2
    go_ret
    exact ⟨(x.tmod K + K).toNat, by omega, ret_int (by omega), Below.refl _ _⟩
  · go_enter Tryz.func28, Tryz.ntmps28
    go_wp2
    go_ret
    exact ⟨(x.tmod K).toNat, by omega, ret_int (by omega), Below.refl _ _⟩
end Go.Proofs.YtejocefblpkdjaaGreat
