/-
  The walks of the verifier's small helpers: SameNat, is, fine, Pick, long.
-/
import Derived.Test.YtbebdeaeegcfkaaJWiden
import Derived.Test.YtbebdeaeegcfkaaJSmall
import Derived.Deep.QuietTactic
import Derived.BigQuiet
namespace Go.Proofs.Ytbebdeaeegcfkaa
open Go.RowKit

theorem Below.drewN' {B : Nat} {a w : World} (h : Below B a w) (n : Nat) : Below B a (w.drewN n) := ⟨h.os, h.tape, h.output, h.size, h.block⟩

theorem Seg.rows {lo : Nat} {W : World} {a : Option Addr} {len cap : Nat} {zs : List Int} (h : Seg lo W (.slice a len cap) zs) : 0 < len → ∃ p o, a = some ⟨p, o, none⟩ ∧ p < W.heap.size ∧ ∀ j, j < len → W.cell? ⟨p, o + j, none⟩ = some (.int .u64 (zs[j]?.getD 0)) := fun h0 => by
  obtain ⟨b, off, rfl, _, e3⟩ := h.row h0
  exact ⟨b, off, rfl, e3, fun j hj => (h.cell hj).1⟩

end Go.Proofs.Ytbebdeaeegcfkaa
