/-
  What a reading of an argument hands the walks: an item, and a list of them.
-/
import Derived.Test.YthpobmgnpgogaaaBFrame
import Derived.Test.YthpobmgnpgogaaaJOBytes
import Derived.Deep.Slices
namespace Go.Proofs.Ythpobmgnpgogaaa
open Go.ChangeShapes Go.WideShapes Go.ChangeAt Go.RowKit

theorem cellsItem : Try.prog.cellsOf 34 = 4 := by kernel_rfl
theorem cellsIb : Try.prog.cellsOf 4 = 1 := by kernel_rfl
theorem cellsIi : Try.prog.cellsOf 3 = 1 := by kernel_rfl
theorem cellsIy : Try.prog.cellsOf 32 = 1 := by kernel_rfl
set_option maxRecDepth 100000 in
/-- Four cells that read as an item. -/
theorem item_trod {H : Type} {enc : TypeId × Value → H} {W : World} {c0 c1 c2 c3 : Value} {d : DataW H} {p : List MemPlace} {fuel : Nat}
    (hf : DataW.trod enc Try.prog W 0 (fun _ => true) true fuel 34 [c0, c1, c2, c3] = some (d, p)) (hfz : ∀ b o, MemPlace.cell b o ∈ p → W.frozen? ⟨b, o, none⟩ = false) (hlt : ∀ x ∈ p, x.block < W.heap.size) :
    ∃ r : IV, c0 = .bool r.raws ∧ c1 = .int .i64 r.k ∧ c2 = .int .i64 r.x ∧ c3 = .slice r.a r.zs.length r.c ∧ Byt 0 W (.slice r.a r.zs.length r.c) r.zs ∧ Fit64 r.k ∧ Fit64 r.x := by
  obtain ⟨ys, m, _, hx, _, hlen, hget⟩ := DataW.trod_struct Try.underlying34 hf
  match ys, hlen with
  | [y0, y1, y2, y3], _ =>
  have h0 : DataW.trod enc Try.prog W 0 (fun _ => true) true m 4 [c0] = some y0 := by simpa [cellsIb] using hget 0 _ rfl
  have h1 : DataW.trod enc Try.prog W 0 (fun _ => true) true m 3 [c1] = some y1 := by simpa [cellsIi] using hget 1 _ rfl
  have h2 : DataW.trod enc Try.prog W 0 (fun _ => true) true m 3 [c2] = some y2 := by simpa [cellsIi] using hget 2 _ rfl
  have h3 : DataW.trod enc Try.prog W 0 (fun _ => true) true m 32 [c3] = some y3 := by simpa [cellsIy] using hget 3 _ rfl
  obtain ⟨b, e0, rfl⟩ := DataW.trod_bool Try.underlying4 h0
  obtain ⟨k, e1, rfl, wk⟩ := DataW.trod_int Try.underlying3 h1
  obtain ⟨x, e2, rfl, wx⟩ := DataW.trod_int Try.underlying3 h2
  simp only [List.cons.injEq, and_true] at e0 e1 e2
  subst e0 e1 e2
  simp at hx
  obtain ⟨rfl, rfl⟩ := hx
  obtain ⟨a, len, cap, rfl⟩ : ∃ a len cap, c3 = .slice a len cap := by
    rcases open_ints Try.underlying32 Try.underlying5 (by kernel_rfl) h3 with ⟨hcs, _⟩ | ⟨x, l, c, zs, hcs, _⟩
    · simp at hcs; exact ⟨_, _, _, hcs⟩
    · simp at hcs; exact ⟨_, _, _, hcs⟩
  obtain ⟨zs, hs⟩ := byt_of (enc := enc) (d := y3.1) (p := y3.2) ⟨m, by simpa [Value.cells] using h3⟩ hfz hlt
  obtain ⟨rfl, _⟩ := hs.len
  exact ⟨⟨b, k, x, a, cap, zs⟩, rfl, rfl, rfl, rfl, hs, int_of_wf wk, int_of_wf wx⟩
set_option maxRecDepth 100000 in
/-- An item that came in. -/
theorem item_of {H : Type} {enc : TypeId × Value → H} {W : World} {v : Value} {d : DataW H} {p : List MemPlace} {base : Nat}
    (hv : Value.okWide Try.prog W .any base 34 v)
    (h : DataW.Trod enc Try.prog W 0 (fun _ => true) true 34 v d p) (hfz : ∀ b o, MemPlace.cell b o ∈ p → W.frozen? ⟨b, o, none⟩ = false) (hlt : ∀ x ∈ p, x.block < W.heap.size) :
    ∃ r : IV, v = r.v ∧ Byt 0 W (.slice r.a r.zs.length r.c) r.zs ∧ Fit64 r.k ∧ Fit64 r.x := by
  obtain ⟨cs, rfl, hsz⟩ := okWide_struct Try.underlying34 hv
  rw [cellsItem] at hsz
  obtain ⟨l⟩ := cs
  match l, hsz with
  | [c0, c1, c2, c3], _ =>
  obtain ⟨fuel, hf⟩ := h
  obtain ⟨r, rfl, rfl, rfl, rfl, F⟩ := item_trod (d := d) (p := p) (by simpa [Value.cells] using hf) hfz hlt
  exact ⟨r, rfl, F⟩
end Go.Proofs.Ythpobmgnpgogaaa
