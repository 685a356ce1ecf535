/-
  What a reading of an argument hands the walks: whole numbers.
-/
import Derived.Test.YtejocefblpkdjabGreatFrame
import Derived.Test.YtejocefblpkdjabGreatJWiden
namespace Go.Proofs.YtejocefblpkdjabGreat
open Go.ChangeShapes Go.WideShapes Go.ChangeAt Go.RowKit

theorem num_of_wf {x : Int} (h : (Lit.int .i64 x).wf = true) : -9223372036854775808 ≤ x ∧ x < 9223372036854775808 := by
  have := int_of_wf h
  omega
set_option maxRecDepth 100000 in
/-- A list of whole numbers that came in. -/
theorem intz_of {H : Type} {enc : TypeId × Value → H} {W : World} {a : Option Addr} {len cap : Nat} {d : DataW H} {p : List MemPlace}
    (h : DataW.Trod enc Tryz.prog W 0 (fun _ => true) true 22 (.slice a len cap) d p) (hfz : ∀ b o, MemPlace.cell b o ∈ p → W.frozen? ⟨b, o, none⟩ = false) (hlt : ∀ x ∈ p, x.block < W.heap.size) :
    ∃ zs, Intz 0 W (.slice a len cap) zs := by
  obtain ⟨fuel, hf⟩ := h
  rcases open_ints Tryz.underlying22 Tryz.underlying3 (by kernel_rfl) hf with ⟨hcs, _⟩ | ⟨x, l, c, zs, hcs, _, hl, hm, hz, hx, hcell, hwz⟩
  · simp [Value.cells] at hcs
    obtain ⟨rfl, rfl, rfl⟩ := hcs
    exact ⟨[], Intz.nil _ _⟩
  · simp [Value.cells] at hcs
    obtain ⟨rfl, rfl, rfl⟩ := hcs
    simp only [Prod.mk.injEq] at hx
    obtain ⟨rfl, rfl⟩ := hx
    simp only [if_true] at hz
    have hlen : (zs.take len).length = len := by rw [List.length_take]; omega
    refine ⟨zs.take len, fun z hz' => num_of_wf (hwz z (List.mem_of_mem_take hz')), _, _, by rw [hlen], by omega, fun hne => ?_⟩
    have h0 : 0 < len := by rw [← hlen]; exact List.length_pos_iff.2 hne
    obtain ⟨b, off, spot⟩ := x
    have hspot : spot = none := by simpa [Addr.add] using World.cell?_spot (hcell 0 (by omega))
    subst hspot
    refine ⟨b, off, rfl, Nat.zero_le _, hlt (.cell b off) (MemPlace.mem_row.2 ⟨0, by omega, by simp⟩), fun j hj => ?_, fun j hj => hfz b (off + j) (MemPlace.mem_row.2 ⟨j, by omega, rfl⟩)⟩
    rw [hlen] at hj
    have := hcell j (by omega)
    rw [Addr.add_lit] at this
    rw [this, List.getElem?_take_of_lt hj]
    simp [List.getD_eq_getElem?_getD]
end Go.Proofs.YtejocefblpkdjabGreat
