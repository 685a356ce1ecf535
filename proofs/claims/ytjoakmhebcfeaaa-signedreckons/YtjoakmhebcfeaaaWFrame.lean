/-
  What a reading of an argument that is a whole number hands the walks.
-/
import Derived.Test.YtjoakmhebcfeaaaFrame
import Derived.ChangeSame
namespace Go.Proofs.Ytjoakmhebcfeaaa
open Go.ChangeShapes Go.WideShapes Go.ChangeAt Go.RowKit

theorem cellsBool : Try.prog.cellsOf 4 = 1 := by kernel_rfl
theorem cellsNat : Try.prog.cellsOf 23 = 1 := by kernel_rfl
theorem cellsWhole : Try.prog.cellsOf 25 = 2 := by kernel_rfl

/-- A whole number that came in. -/
theorem whole_of {H : Type} {enc : TypeId × Value → H} {W : World} {v : Value} {d : DataW H} {p : List MemPlace} {base : Nat}
    (hv : Value.okWide Try.prog W .any base 25 v)
    (h : DataW.Trod enc Try.prog W 0 (fun _ => true) true 25 v d p) (hfz : ∀ b o, MemPlace.cell b o ∈ p → W.frozen? ⟨b, o, none⟩ = false) (hlt : ∀ x ∈ p, x.block < W.heap.size) :
    ∃ (b : Bool) (a : Option Addr) (len cap : Nat) (zs : List Int), v = .agg #[.bool b, .slice a len cap] ∧ Seg 0 W (.slice a len cap) zs := by
  obtain ⟨cs, rfl, hsz⟩ := okWide_struct Try.underlying25 hv
  rw [cellsWhole] at hsz
  obtain ⟨l⟩ := cs
  match l, hsz with
  | [c0, c1], _ =>
  obtain ⟨fuel, hf⟩ := h
  obtain ⟨y0, y1, m, hx, _, hy0, hy1⟩ := trod_struct2 Try.underlying25 hf
  obtain ⟨b, e0, rfl⟩ := DataW.trod_bool Try.underlying4 hy0
  simp [Value.cells, cellsBool] at e0
  subst e0
  have hy2 : DataW.trod enc Try.prog W 0 (fun _ => true) true m 23 [c1] = some y1 := by simpa [Value.cells, cellsNat] using hy1
  simp only [Prod.mk.injEq] at hx
  obtain ⟨rfl, rfl⟩ := hx
  obtain ⟨a, len, cap, rfl⟩ : ∃ a len cap, c1 = .slice a len cap := by
    rcases open_ints Try.underlying23 Try.underlying41 (by kernel_rfl) hy2 with ⟨hcs, _⟩ | ⟨x, l, c, zs, hcs, _⟩
    · simp at hcs; exact ⟨_, _, _, hcs⟩
    · simp at hcs; exact ⟨_, _, _, hcs⟩
  obtain ⟨zs, hs⟩ := seg_of (enc := enc) (d := y1.1) (p := y1.2) ⟨m, by simpa [Value.cells] using hy2⟩ (fun b o hm => hfz b o (by simp [hm])) (fun x hm => hlt x (by simp [hm]))
  exact ⟨b, a, len, cap, zs, rfl, hs⟩
end Go.Proofs.Ytjoakmhebcfeaaa
