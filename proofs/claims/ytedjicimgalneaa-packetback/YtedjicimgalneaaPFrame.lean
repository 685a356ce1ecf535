/-
  What a reading of an argument hands the walks: a packet.
-/
import Derived.Test.YtedjicimgalneaaBFrame
import Derived.Test.YtedjicimgalneaaJPGet
import Derived.Deep.Slices
namespace Go.Proofs.Ytedjicimgalneaa
open Go.ChangeShapes Go.WideShapes Go.ChangeAt Go.RowKit

theorem cellsPacket : Try.prog.cellsOf 24 = 6 := by kernel_rfl
theorem cellsPi : Try.prog.cellsOf 3 = 1 := by kernel_rfl
theorem cellsPy : Try.prog.cellsOf 22 = 1 := by kernel_rfl
set_option maxRecDepth 100000 in
theorem packet_trod {H : Type} {enc : TypeId × Value → H} {W : World} {c0 c1 c2 c3 c4 c5 : Value} {d : DataW H} {p : List MemPlace} {fuel : Nat}
    (hf : DataW.trod enc Try.prog W 0 (fun _ => true) true fuel 24 [c0, c1, c2, c3, c4, c5] = some (d, p)) (hfz : ∀ b o, MemPlace.cell b o ∈ p → W.frozen? ⟨b, o, none⟩ = false) (hlt : ∀ x ∈ p, x.block < W.heap.size) :
    ∃ (r : PV) (a : Option Addr) (c : Nat), c0 = .int .i64 r.k ∧ c1 = .int .i64 r.s ∧ c2 = .int .i64 r.b ∧ c3 = .int .i64 r.i ∧ c4 = .int .i64 r.r ∧ c5 = .slice a r.zs.length c ∧ Byt 0 W (.slice a r.zs.length c) r.zs := by
  obtain ⟨ys, m, _, hx, _, hlen, hget⟩ := DataW.trod_struct Try.underlying24 hf
  match ys, hlen with
  | [y0, y1, y2, y3, y4, y5], _ =>
  have h0 : DataW.trod enc Try.prog W 0 (fun _ => true) true m 3 [c0] = some y0 := by simpa [cellsPi] using hget 0 _ rfl
  have h1 : DataW.trod enc Try.prog W 0 (fun _ => true) true m 3 [c1] = some y1 := by simpa [cellsPi] using hget 1 _ rfl
  have h2 : DataW.trod enc Try.prog W 0 (fun _ => true) true m 3 [c2] = some y2 := by simpa [cellsPi] using hget 2 _ rfl
  have h3 : DataW.trod enc Try.prog W 0 (fun _ => true) true m 3 [c3] = some y3 := by simpa [cellsPi] using hget 3 _ rfl
  have h4 : DataW.trod enc Try.prog W 0 (fun _ => true) true m 3 [c4] = some y4 := by simpa [cellsPi] using hget 4 _ rfl
  have h5 : DataW.trod enc Try.prog W 0 (fun _ => true) true m 22 [c5] = some y5 := by simpa [cellsPy] using hget 5 _ rfl
  obtain ⟨k, e0, rfl, _⟩ := DataW.trod_int Try.underlying3 h0
  obtain ⟨s, e1, rfl, _⟩ := DataW.trod_int Try.underlying3 h1
  obtain ⟨b, e2, rfl, _⟩ := DataW.trod_int Try.underlying3 h2
  obtain ⟨i, e3, rfl, _⟩ := DataW.trod_int Try.underlying3 h3
  obtain ⟨r, e4, rfl, _⟩ := DataW.trod_int Try.underlying3 h4
  simp only [List.cons.injEq, and_true] at e0 e1 e2 e3 e4
  subst e0 e1 e2 e3 e4
  simp at hx
  obtain ⟨rfl, rfl⟩ := hx
  obtain ⟨a, len, cap, rfl⟩ : ∃ a len cap, c5 = .slice a len cap := by
    rcases open_ints Try.underlying22 Try.underlying5 (by kernel_rfl) h5 with ⟨hcs, _⟩ | ⟨x, l, c, zs, hcs, _⟩
    · simp at hcs; exact ⟨_, _, _, hcs⟩
    · simp at hcs; exact ⟨_, _, _, hcs⟩
  obtain ⟨zs, hs⟩ := byt_of (enc := enc) (d := y5.1) (p := y5.2) ⟨m, by simpa [Value.cells] using h5⟩ hfz hlt
  obtain ⟨rfl, _⟩ := hs.len
  exact ⟨⟨k, s, b, i, r, zs⟩, a, cap, rfl, rfl, rfl, rfl, rfl, rfl, hs⟩
set_option maxRecDepth 100000 in
theorem packet_of {H : Type} {enc : TypeId × Value → H} {W : World} {v : Value} {d : DataW H} {p : List MemPlace} {base : Nat}
    (hv : Value.okWide Try.prog W .any base 24 v)
    (h : DataW.Trod enc Try.prog W 0 (fun _ => true) true 24 v d p) (hfz : ∀ b o, MemPlace.cell b o ∈ p → W.frozen? ⟨b, o, none⟩ = false) (hlt : ∀ x ∈ p, x.block < W.heap.size) :
    ∃ (r : PV) (a : Option Addr) (c : Nat), v = r.v a c ∧ Byt 0 W (.slice a r.zs.length c) r.zs := by
  obtain ⟨cs, rfl, hsz⟩ := okWide_struct Try.underlying24 hv
  rw [cellsPacket] at hsz
  obtain ⟨l⟩ := cs
  match l, hsz with
  | [c0, c1, c2, c3, c4, c5], _ =>
  obtain ⟨fuel, hf⟩ := h
  obtain ⟨r, a, c, rfl, rfl, rfl, rfl, rfl, rfl, F⟩ := packet_trod (d := d) (p := p) (by simpa [Value.cells] using hf) hfz hlt
  exact ⟨r, a, c, rfl, F⟩
end Go.Proofs.Ytedjicimgalneaa
