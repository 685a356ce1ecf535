/-
  What a reading of an argument hands the walks: an item, and a list of them.
-/
import Derived.Test.YthpobmgnpgogaaaBFrame
import Derived.Test.YthpobmgnpgogaaaJOBytes
import Derived.Deep.Slices
namespace Go.Proofs.Ythpobmgnpgogaaa
open Go.ChangeShapes Go.WideShapes Go.ChangeAt Go.RowKit

theorem cellsItem : Try.prog.cellsOf 34 = 4 := by kernel_rfl
theorem cellsIb : Try.prog.cellsOf 4 = 1 := by kernel_rfl
theorem cellsIi : Try.prog.cellsOf 3 = 1 := by kernel_rfl
theorem cellsIy : Try.prog.cellsOf 32 = 1 := by kernel_rfl
set_option maxRecDepth 100000 in
/-- Four cells that read as an item. -/
theorem item_trod {H : Type} {enc : TypeId × Value → H} {W : World} {c0 c1 c2 c3 : Value} {d : DataW H} {p : List MemPlace} {fuel : Nat}
    (hf : DataW.trod enc Try.prog W 0 (fun _ => true) true fuel 34 [c0, c1, c2, c3] = some (d, p)) (hfz : ∀ b o, MemPlace.cell b o ∈ p → W.frozen? ⟨b, o, none⟩ = false) (hlt : ∀ x ∈ p, x.block < W.heap.size) :
    ∃ r : IV, c0 = .bool r.raws ∧ c1 = .int .i64 r.k ∧ c2 = .int .i64 r.x ∧ c3 = .slice r.a r.zs.length r.c ∧ Byt 0 W (.slice r.a r.zs.length r.c) r.zs ∧ Fit64 r.k ∧ Fit64 r.x := by
  obtain ⟨ys, m, _, hx, _, hlen, hget⟩ := DataW.trod_struct Try.underlying34 hf
  match ys, hlen with
  | [y0, y1, y2, y3], _ =>
  have h0 : DataW.trod enc Try.prog W 0 (fun _ => true) true m 4 [c0] = some y0 := by simpa [cellsIb] using hget 0 _ rfl
  have h1 : DataW.trod enc Try.prog W 0 (fun _ => true) true m 3 [c1] = some y1 := by simpa [cellsIi] using hget 1 _ rfl
  have h2 : DataW.trod enc Try.prog W 0 (fun _ => true) true m 3 [c2] = some y2 := by simpa [cellsIi] using hget 2 _ rfl
  have h3 : DataW.trod enc Try.prog W 0 (fun _ => true) true m 32 [c3] = some y3 := by simpa [cellsIy] using hget 3 _ rfl
  obtain ⟨b, e0, rfl⟩ := DataW.trod_bool Try.underlying4 h0
  obtain ⟨k, e1, rfl, wk⟩ := DataW.trod_int Try.underlying3 h1
  obtain ⟨x, e2, rfl, wx⟩ := DataW.trod_int Try.underlying3 h2
  simp only [List.cons.injEq, and_true] at e0 e1 e2
  subst e0 e1 e2
  simp at hx
  obtain ⟨rfl, rfl⟩ := hx
  obtain ⟨a, len, cap, rfl⟩ : ∃ a len cap, c3 = .slice a len cap := by
    rcases open_ints Try.underlying32 Try.underlying5 (by kernel_rfl) h3 with ⟨hcs, _⟩ | ⟨x, l, c, zs, hcs, _⟩
    · simp at hcs; exact ⟨_, _, _, hcs⟩
    · simp at hcs; exact ⟨_, _, _, hcs⟩
  obtain ⟨zs, hs⟩ := byt_of (enc := enc) (d := y3.1) (p := y3.2) ⟨m, by simpa [Value.cells] using h3⟩ hfz hlt
  obtain ⟨rfl, _⟩ := hs.len
  exact ⟨⟨b, k, x, a, cap, zs⟩, rfl, rfl, rfl, rfl, hs, int_of_wf wk, int_of_wf wx⟩
set_option maxRecDepth 100000 in
/-- A list of items that came in. -/
theorem items_of {H : Type} {enc : TypeId × Value → H} {W : World} {v : Value} {d : DataW H} {p : List MemPlace} {base : Nat}
    (hv : Value.okWide Try.prog W .any base 22 v)
    (h : DataW.Trod enc Try.prog W 0 (fun _ => true) true 22 v d p) (hfz : ∀ b o, MemPlace.cell b o ∈ p → W.frozen? ⟨b, o, none⟩ = false) (hlt : ∀ x ∈ p, x.block < W.heap.size) :
    ∃ (a : Option Addr) (cap : Nat) (rs : List IV), v = .slice a rs.length cap ∧ Items W a rs := by
  obtain ⟨a, len, cap, rfl⟩ := okWide_slice Try.underlying22 hv
  obtain ⟨fuel, hf⟩ := h
  rcases Deep.open_slice Try.underlying22 hf with ⟨hcs, _⟩ | ⟨x, l, c, m, n, D, Pl, hcs, _, hl, _, hmm, hx, hel⟩
  · simp [Value.cells] at hcs
    obtain ⟨rfl, rfl, rfl⟩ := hcs
    exact ⟨none, 0, [], rfl, Items.nil _ _⟩
  · simp [Value.cells] at hcs
    obtain ⟨rfl, rfl, rfl⟩ := hcs
    simp only [Prod.mk.injEq] at hx
    obtain ⟨_, rfl⟩ := hx
    simp only [if_true] at hmm
    subst hmm
    have each : ∀ i, i < len → ∃ r : IV, (W.cell? (x.add (i * 4)) = some (.bool r.raws) ∧ W.cell? (x.add (i * 4 + 1)) = some (.int .i64 r.k) ∧ W.cell? (x.add (i * 4 + 2)) = some (.int .i64 r.x) ∧ W.cell? (x.add (i * 4 + 3)) = some (.slice r.a r.zs.length r.c)) ∧ Byt 0 W (.slice r.a r.zs.length r.c) r.zs ∧ Fit64 r.k ∧ Fit64 r.x := by
      intro i hi
      obtain ⟨cs', h1, h2⟩ := hel i (by omega)
      rw [cellsItem] at h1
      obtain ⟨_, hlen, hcell⟩ := World.cells?_some h1
      match cs', hlen with
      | [c0, c1, c2, c3], _ =>
      have hin : ∀ y, y ∈ Pl i → y ∈ MemPlace.row x (m * Try.prog.cellsOf 34) ++ (List.range m).flatMap Pl := fun y hy => List.mem_append_right _ (List.mem_flatMap.2 ⟨i, List.mem_range.2 (by omega), hy⟩)
      obtain ⟨r, rfl, rfl, rfl, rfl, F⟩ := item_trod h2 (fun b o hm => hfz b o (hin _ hm)) (fun y hm => hlt y (hin _ hm))
      have e0 := hcell 0 (by omega)
      have e1 := hcell 1 (by omega)
      have e2 := hcell 2 (by omega)
      have e3 := hcell 3 (by omega)
      rw [Deep.add_add] at e0 e1 e2 e3
      exact ⟨r, ⟨by simpa using e0, by simpa using e1, by simpa using e2, by simpa using e3⟩, F⟩
    have hinh : Inhabited IV := ⟨⟨false, 0, 0, none, 0, []⟩⟩
    obtain ⟨q, hq⟩ := Deep.choose_lt each
    have hlen : ((List.range len).map q).length = len := by simp
    have hget : ∀ j r, ((List.range len).map q)[j]? = some r → j < len ∧ r = q j := by
      intro j r hr
      have hj : j < len := by
        have := (List.getElem?_eq_some_iff.1 hr).1
        rw [hlen] at this
        exact this
      rw [List.getElem?_map, List.getElem?_range hj] at hr
      exact ⟨hj, by simpa using hr.symm⟩
    obtain ⟨b, off, spot⟩ := x
    refine ⟨some ⟨b, off, spot⟩, _, (List.range len).map q, by rw [hlen], fun j r hr => ?_, fun j r hr => ?_, fun j r hr => ?_⟩
    · obtain ⟨hj, rfl⟩ := hget j r hr
      have hc := (hq j hj).1
      have hspot : spot = none := by simpa [Addr.add] using World.cell?_spot (hq 0 (by omega)).1.1
      subst hspot
      refine ⟨b, off, rfl, ?_, ?_⟩
      · have := World.block_lt_of_cell? _ _ hc.1
        rw [Addr.add_lit] at this
        exact this
      · simp only [Addr.add_lit] at hc
        exact hc
    · obtain ⟨hj, rfl⟩ := hget j r hr
      exact (hq j hj).2.1
    · obtain ⟨hj, rfl⟩ := hget j r hr
      exact (hq j hj).2.2
end Go.Proofs.Ythpobmgnpgogaaa
