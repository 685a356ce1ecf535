/-
  What a reading of an argument hands the walks: a list of fractions.
-/
import Derived.Test.YtegopbhidgbjpaaGreatJFrame
import Derived.Test.YtegopbhidgbjpaaGreatJSigB
import Derived.Deep.Slices
namespace Go.Proofs.YtegopbhidgbjpaaGreat
open Go.ChangeShapes Go.WideShapes Go.ChangeAt Go.RowKit

instance : Inhabited RV := ⟨⟨false, none, 0, [], none, 0, []⟩⟩
set_option maxRecDepth 100000 in
theorem ratio_trod {H : Type} {enc : TypeId × Value → H} {W : World} {c0 c1 c2 : Value} {d : DataW H} {p : List MemPlace} {fuel : Nat}
    (hf : DataW.trod enc Tryz.prog W 0 (fun _ => true) true fuel 30 [c0, c1, c2] = some (d, p)) (hfz : ∀ b o, MemPlace.cell b o ∈ p → W.frozen? ⟨b, o, none⟩ = false) (hlt : ∀ x ∈ p, x.block < W.heap.size) :
    ∃ r : RV, c0 = .bool r.b ∧ c1 = .slice r.a r.xs.length r.ca ∧ c2 = .slice r.c r.ds.length r.cc ∧ Fr 0 W r.a r.ca r.xs r.c r.cc r.ds := by
  obtain ⟨y0, y1, m, hx, _, hy0, hy1⟩ := trod_struct2 Tryz.underlying30 hf
  simp only [Prod.mk.injEq] at hx
  obtain ⟨rfl, rfl⟩ := hx
  have hz0 : DataW.trod enc Tryz.prog W 0 (fun _ => true) true m 28 [c0, c1] = some y0 := by simpa [cellsWhole] using hy0
  have hz1 : DataW.trod enc Tryz.prog W 0 (fun _ => true) true m 26 [c2] = some y1 := by simpa [cellsWhole, cellsNat] using hy1
  obtain ⟨b, a, len, cap, xs, rfl, rfl, s1⟩ := whole_trod (d := y0.1) (p := y0.2) hz0 (fun b o hm => hfz b o (by simp [hm])) (fun x hm => hlt x (by simp [hm]))
  obtain ⟨c, len2, cap2, ds, rfl, s2⟩ := nat_trod (d := y1.1) (p := y1.2) hz1 (fun b o hm => hfz b o (by simp [hm])) (fun x hm => hlt x (by simp [hm]))
  obtain ⟨rfl, _⟩ := s1.len
  obtain ⟨rfl, _⟩ := s2.len
  exact ⟨⟨b, a, cap, xs, c, cap2, ds⟩, rfl, rfl, rfl, s1, s2⟩
set_option maxRecDepth 100000 in
theorem ratios_of {H : Type} {enc : TypeId × Value → H} {W : World} {v : Value} {d : DataW H} {p : List MemPlace} {base : Nat}
    (hv : Value.okWide Tryz.prog W .any base 22 v)
    (h : DataW.Trod enc Tryz.prog W 0 (fun _ => true) true 22 v d p) (hfz : ∀ b o, MemPlace.cell b o ∈ p → W.frozen? ⟨b, o, none⟩ = false) (hlt : ∀ x ∈ p, x.block < W.heap.size) :
    ∃ (a : Option Addr) (cap : Nat) (rs : List RV), v = .slice a rs.length cap ∧ Row 0 W a rs := by
  obtain ⟨a, len, cap, rfl⟩ := okWide_slice Tryz.underlying22 hv
  obtain ⟨fuel, hf⟩ := h
  rcases Deep.open_slice Tryz.underlying22 hf with ⟨hcs, _⟩ | ⟨x, l, c, m, n, D, Pl, hcs, _, hl, _, hmm, hx, hel⟩
  · simp [Value.cells] at hcs
    obtain ⟨rfl, rfl, rfl⟩ := hcs
    exact ⟨none, 0, [], rfl, fun j hj => by simp at hj, fun g o j r _ hr => by simp at hr, fun j r hr => by simp at hr⟩
  · simp [Value.cells] at hcs
    obtain ⟨rfl, rfl, rfl⟩ := hcs
    simp only [Prod.mk.injEq] at hx
    obtain ⟨_, rfl⟩ := hx
    simp only [if_true] at hmm
    subst hmm
    have each : ∀ i, i < len → ∃ r : RV, (W.cell? (x.add (i * 3)) = some (.bool r.b) ∧ W.cell? (x.add (i * 3 + 1)) = some (.slice r.a r.xs.length r.ca) ∧ W.cell? (x.add (i * 3 + 2)) = some (.slice r.c r.ds.length r.cc)) ∧ Fr 0 W r.a r.ca r.xs r.c r.cc r.ds := by
      intro i hi
      obtain ⟨cs', h1, h2⟩ := hel i (by omega)
      rw [cellsRatio] at h1
      obtain ⟨_, hlen, hcell⟩ := World.cells?_some h1
      match cs', hlen with
      | [c0, c1, c2], _ =>
      have hin : ∀ y, y ∈ Pl i → y ∈ MemPlace.row x (m * Tryz.prog.cellsOf 30) ++ (List.range m).flatMap Pl := fun y hy => List.mem_append_right _ (List.mem_flatMap.2 ⟨i, List.mem_range.2 (by omega), hy⟩)
      obtain ⟨r, rfl, rfl, rfl, F⟩ := ratio_trod h2 (fun b o hm => hfz b o (hin _ hm)) (fun y hm => hlt y (hin _ hm))
      have e0 := hcell 0 (by omega)
      have e1 := hcell 1 (by omega)
      have e2 := hcell 2 (by omega)
      rw [Deep.add_add] at e0 e1 e2
      exact ⟨r, ⟨by simpa using e0, by simpa using e1, by simpa using e2⟩, F⟩
    obtain ⟨q, hq⟩ := Deep.choose_lt each
    have hlen : ((List.range len).map q).length = len := by simp
    have hget : ∀ j r, ((List.range len).map q)[j]? = some r → j < len ∧ r = q j := by
      intro j r hr
      have hj : j < len := by
        have := (List.getElem?_eq_some_iff.1 hr).1
        rw [hlen] at this
        exact this
      rw [List.getElem?_map, List.getElem?_range hj] at hr
      exact ⟨hj, by simpa using hr.symm⟩
    obtain ⟨b, off, spot⟩ := x
    refine ⟨some ⟨b, off, spot⟩, _, (List.range len).map q, by rw [hlen], fun j hj => ?_, fun g o j r e hr => ?_, fun j r hr => ?_⟩
    · rw [hlen] at hj
      have hc := (hq j hj).1.1
      have hspot : spot = none := by simpa [Addr.add] using World.cell?_spot (hq 0 (by omega)).1.1
      subst hspot
      refine ⟨b, off, rfl, ?_⟩
      have := World.block_lt_of_cell? _ _ hc
      rw [Addr.add_lit] at this
      exact this
    · obtain ⟨hj, rfl⟩ := hget j r hr
      simp only [Option.some.injEq, Addr.mk.injEq] at e
      obtain ⟨rfl, rfl, rfl⟩ := e
      have hc := (hq j hj).1
      simp only [Addr.add_lit] at hc
      exact hc
    · obtain ⟨hj, rfl⟩ := hget j r hr
      exact (hq j hj).2
end Go.Proofs.YtegopbhidgbjpaaGreat
