/-
  What a reading of an argument hands the walks: a list of lists of bytes.
-/
import Derived.Test.YtekjjlmhdkhmjaaBFrame
import Derived.Test.YtekjjlmhdkhmjaaJRMulB
import Derived.Deep.Slices
namespace Go.Proofs.Ytekjjlmhdkhmjaa
open Go.ChangeShapes Go.WideShapes Go.ChangeAt Go.RowKit

instance : Inhabited BV := ⟨⟨none, 0, []⟩⟩
theorem cellsByts : Try.prog.cellsOf 22 = 1 := by kernel_rfl
set_option maxRecDepth 100000 in
theorem byt_trod {H : Type} {enc : TypeId × Value → H} {W : World} {c : Value} {d : DataW H} {p : List MemPlace} {fuel : Nat}
    (hf : DataW.trod enc Try.prog W 0 (fun _ => true) true fuel 22 [c] = some (d, p)) (hfz : ∀ b o, MemPlace.cell b o ∈ p → W.frozen? ⟨b, o, none⟩ = false) (hlt : ∀ x ∈ p, x.block < W.heap.size) :
    ∃ v : BV, c = .slice v.a v.zs.length v.c ∧ Byt 0 W (.slice v.a v.zs.length v.c) v.zs := by
  obtain ⟨a, len, cap, rfl⟩ : ∃ a len cap, c = .slice a len cap := by
    rcases open_ints Try.underlying22 Try.underlying5 (by kernel_rfl) hf with ⟨hcs, _⟩ | ⟨x, l, c, zs, hcs, _⟩
    · simp at hcs; exact ⟨_, _, _, hcs⟩
    · simp at hcs; exact ⟨_, _, _, hcs⟩
  obtain ⟨zs, hs⟩ := byt_of (enc := enc) (d := d) (p := p) ⟨fuel, by simpa [Value.cells] using hf⟩ hfz hlt
  obtain ⟨rfl, _⟩ := hs.len
  exact ⟨⟨a, cap, zs⟩, rfl, hs⟩
set_option maxRecDepth 100000 in
/-- A list of lists of bytes that came in. -/
theorem byts_of {H : Type} {enc : TypeId × Value → H} {W : World} {v : Value} {d : DataW H} {p : List MemPlace} {base : Nat}
    (hv : Value.okWide Try.prog W .any base 32 v)
    (h : DataW.Trod enc Try.prog W 0 (fun _ => true) true 32 v d p) (hfz : ∀ b o, MemPlace.cell b o ∈ p → W.frozen? ⟨b, o, none⟩ = false) (hlt : ∀ x ∈ p, x.block < W.heap.size) :
    ∃ (a : Option Addr) (cap : Nat) (bs : List BV), v = .slice a bs.length cap ∧ Lists W a bs := by
  obtain ⟨a, len, cap, rfl⟩ := okWide_slice Try.underlying32 hv
  obtain ⟨fuel, hf⟩ := h
  rcases Deep.open_slice Try.underlying32 hf with ⟨hcs, _⟩ | ⟨x, l, c, m, n, D, Pl, hcs, _, hl, _, hmm, hx, hel⟩
  · simp [Value.cells] at hcs
    obtain ⟨rfl, rfl, rfl⟩ := hcs
    exact ⟨none, 0, [], rfl, Lists.nil _ _⟩
  · simp [Value.cells] at hcs
    obtain ⟨rfl, rfl, rfl⟩ := hcs
    simp only [Prod.mk.injEq] at hx
    obtain ⟨_, rfl⟩ := hx
    simp only [if_true] at hmm
    subst hmm
    have each : ∀ i, i < len → ∃ r : BV, W.cell? (x.add i) = some (.slice r.a r.zs.length r.c) ∧ Byt 0 W (.slice r.a r.zs.length r.c) r.zs := by
      intro i hi
      obtain ⟨cs', h1, h2⟩ := hel i (by omega)
      rw [cellsByts] at h1
      obtain ⟨_, hlen, hcell⟩ := World.cells?_some h1
      match cs', hlen with
      | [c0], _ =>
      have hin : ∀ y, y ∈ Pl i → y ∈ MemPlace.row x (m * Try.prog.cellsOf 22) ++ (List.range m).flatMap Pl := fun y hy => List.mem_append_right _ (List.mem_flatMap.2 ⟨i, List.mem_range.2 (by omega), hy⟩)
      obtain ⟨r, rfl, F⟩ := byt_trod h2 (fun b o hm => hfz b o (hin _ hm)) (fun y hm => hlt y (hin _ hm))
      have e0 := hcell 0 (by omega)
      rw [Deep.add_add] at e0
      exact ⟨r, by simpa using e0, F⟩
    obtain ⟨q, hq⟩ := Deep.choose_lt each
    have hlen : ((List.range len).map q).length = len := by simp
    have hget : ∀ j r, ((List.range len).map q)[j]? = some r → j < len ∧ r = q j := by
      intro j r hr
      have hj : j < len := by
        have := (List.getElem?_eq_some_iff.1 hr).1
        rw [hlen] at this
        exact this
      rw [List.getElem?_map, List.getElem?_range hj] at hr
      exact ⟨hj, by simpa using hr.symm⟩
    obtain ⟨b, off, spot⟩ := x
    refine ⟨some ⟨b, off, spot⟩, _, (List.range len).map q, by rw [hlen], fun j r hr => ?_, fun j r hr => ?_⟩
    · obtain ⟨hj, rfl⟩ := hget j r hr
      have hc := (hq j hj).1
      have hspot : spot = none := by simpa [Addr.add] using World.cell?_spot (hq 0 (by omega)).1
      subst hspot
      rw [Addr.add_lit] at hc
      exact ⟨b, off, rfl, World.block_lt_of_cell? _ _ hc, hc⟩
    · obtain ⟨hj, rfl⟩ := hget j r hr
      exact (hq j hj).2
end Go.Proofs.Ytekjjlmhdkhmjaa
