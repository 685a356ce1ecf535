/-
  What a reading of an argument hands the walks: a manifest, and how many weights it has at most.
-/
import Derived.Test.YtbebdeaeegcfkaaJBFrame
import Derived.Test.YtbebdeaeegcfkaaJOMem
import Derived.Deep.Slices
import Derived.SizedLaws
namespace Go.Proofs.Ytbebdeaeegcfkaa
open Go.ChangeShapes Go.WideShapes Go.ChangeAt Go.RowKit

theorem cellsManifest : Try.prog.cellsOf 24 = 5 := by kernel_rfl
theorem cellsMi : Try.prog.cellsOf 3 = 1 := by kernel_rfl
theorem cellsMs : Try.prog.cellsOf 22 = 1 := by kernel_rfl
theorem bytesMi : Try.prog.bytesOf 3 = 8 := by kernel_rfl
/-- Each of what an argument weighs is within the reach. -/
theorem sized_at {H : Type} {P : Program} {ts : List TypeId} {ds : List (DataW H)} (h : (DataW.weightsEach P ts ds).all (· ≤ reachBytes) = true) {j : Nat} {t : TypeId} {d : DataW H} (ht : ts[j]? = some t) (hd : ds[j]? = some d) : (d.weights P t).all (· ≤ reachBytes) = true :=
  List.all_eq_true.2 fun n hn => List.all_eq_true.1 h n (DataW.weights_mem_each ht hd n hn)
set_option maxRecDepth 100000 in
/-- How long a list of whole numbers that came in is at most. -/
theorem ints_far {H : Type} {enc : TypeId × Value → H} {W : World} {a : Option Addr} {len cap fuel : Nat} {d : DataW H} {p : List MemPlace}
    (hf : DataW.trod enc Try.prog W 0 (fun _ => true) true fuel 22 [.slice a len cap] = some (d, p)) (hs : (d.weights Try.prog 22).all (· ≤ reachBytes) = true) : len ≤ 17592186044416 := by
  rcases open_ints Try.underlying22 Try.underlying3 (by kernel_rfl) hf with ⟨hcs, _⟩ | ⟨x, l, c, zs, hcs, _, hl, hm, hz, hx, hcell, hwz⟩
  · simp at hcs
    omega
  · simp at hcs
    obtain ⟨rfl, rfl, rfl⟩ := hcs
    simp only [Prod.mk.injEq] at hx
    obtain ⟨rfl, rfl⟩ := hx
    have h8 := List.all_eq_true.1 hs
    simp only [DataW.weights, Try.underlying22, List.mem_cons, forall_eq_or_imp, decide_eq_true_eq, bytesMi] at h8
    have h9 := h8.1
    simp only [lits, List.length_map, List.length_take, List.length_drop, reachBytes] at h9
    simp only [if_true] at hz
    omega
set_option maxRecDepth 100000 in
/-- Five cells that read as a manifest. -/
theorem manifest_trod {H : Type} {enc : TypeId × Value → H} {W : World} {c0 c1 c2 c3 c4 : Value} {d : DataW H} {p : List MemPlace} {fuel : Nat}
    (hf : DataW.trod enc Try.prog W 0 (fun _ => true) true fuel 24 [c0, c1, c2, c3, c4] = some (d, p)) (hfz : ∀ b o, MemPlace.cell b o ∈ p → W.frozen? ⟨b, o, none⟩ = false) (hlt : ∀ x ∈ p, x.block < W.heap.size) :
    ∃ (r : MV) (a : Option Addr) (c : Nat), c0 = .int .i64 r.size ∧ c1 = .int .i64 r.sym ∧ c2 = .int .i64 r.k ∧ c3 = .int .i64 r.seed ∧ c4 = .slice a r.ts.length c ∧ Intz 0 W (.slice a r.ts.length c) r.ts ∧ r.seed ≤ 9223372036854775807 ∧ ((d.weights Try.prog 24).all (· ≤ reachBytes) = true → r.ts.length ≤ 17592186044416) := by
  obtain ⟨ys, m, _, hx, _, hlen, hget⟩ := DataW.trod_struct Try.underlying24 hf
  match ys, hlen with
  | [y0, y1, y2, y3, y4], _ =>
  have h0 : DataW.trod enc Try.prog W 0 (fun _ => true) true m 3 [c0] = some y0 := by simpa [cellsMi] using hget 0 _ rfl
  have h1 : DataW.trod enc Try.prog W 0 (fun _ => true) true m 3 [c1] = some y1 := by simpa [cellsMi] using hget 1 _ rfl
  have h2 : DataW.trod enc Try.prog W 0 (fun _ => true) true m 3 [c2] = some y2 := by simpa [cellsMi] using hget 2 _ rfl
  have h3 : DataW.trod enc Try.prog W 0 (fun _ => true) true m 3 [c3] = some y3 := by simpa [cellsMi] using hget 3 _ rfl
  have h4 : DataW.trod enc Try.prog W 0 (fun _ => true) true m 22 [c4] = some y4 := by simpa [cellsMs] using hget 4 _ rfl
  obtain ⟨z, e0, rfl, _⟩ := DataW.trod_int Try.underlying3 h0
  obtain ⟨y, e1, rfl, _⟩ := DataW.trod_int Try.underlying3 h1
  obtain ⟨k, e2, rfl, _⟩ := DataW.trod_int Try.underlying3 h2
  obtain ⟨s, e3, rfl, ws⟩ := DataW.trod_int Try.underlying3 h3
  simp only [List.cons.injEq, and_true] at e0 e1 e2 e3
  subst e0 e1 e2 e3
  simp at hx
  obtain ⟨rfl, rfl⟩ := hx
  obtain ⟨a, len, cap, rfl⟩ : ∃ a len cap, c4 = .slice a len cap := by
    rcases open_ints Try.underlying22 Try.underlying3 (by kernel_rfl) h4 with ⟨hcs, _⟩ | ⟨x, l, c, zs, hcs, _⟩
    · simp at hcs; exact ⟨_, _, _, hcs⟩
    · simp at hcs; exact ⟨_, _, _, hcs⟩
  obtain ⟨zs, hs⟩ := intz_of (enc := enc) (d := y4.1) (p := y4.2) ⟨m, by simpa [Value.cells] using h4⟩ hfz hlt
  obtain ⟨rfl, _⟩ := hs.len
  refine ⟨⟨z, y, k, s, zs⟩, a, cap, rfl, rfl, rfl, rfl, rfl, hs, by have := num_of_wf ws; show s ≤ 9223372036854775807; omega, fun hw => ?_⟩
  refine ints_far (d := y4.1) (p := y4.2) h4 (List.all_eq_true.2 fun n hn => List.all_eq_true.1 hw n ?_)
  simp only [DataW.weights, Try.underlying24]
  exact DataW.weights_mem_each (j := 4) (t := 22) rfl rfl n hn
set_option maxRecDepth 100000 in
/-- A manifest that came in. -/
theorem manifest_of {H : Type} {enc : TypeId × Value → H} {W : World} {v : Value} {d : DataW H} {p : List MemPlace} {base : Nat}
    (hv : Value.okWide Try.prog W .any base 24 v)
    (h : DataW.Trod enc Try.prog W 0 (fun _ => true) true 24 v d p) (hfz : ∀ b o, MemPlace.cell b o ∈ p → W.frozen? ⟨b, o, none⟩ = false) (hlt : ∀ x ∈ p, x.block < W.heap.size) :
    ∃ (r : MV) (a : Option Addr) (c : Nat), v = r.v a c ∧ Intz 0 W (.slice a r.ts.length c) r.ts ∧ r.seed ≤ 9223372036854775807 ∧ ((d.weights Try.prog 24).all (· ≤ reachBytes) = true → r.ts.length ≤ 17592186044416) := by
  obtain ⟨cs, rfl, hsz⟩ := okWide_struct Try.underlying24 hv
  rw [cellsManifest] at hsz
  obtain ⟨l⟩ := cs
  match l, hsz with
  | [c0, c1, c2, c3, c4], _ =>
  obtain ⟨fuel, hf⟩ := h
  obtain ⟨r, a, c, rfl, rfl, rfl, rfl, rfl, F⟩ := manifest_trod (d := d) (p := p) (by simpa [Value.cells] using hf) hfz hlt
  exact ⟨r, a, c, rfl, F⟩
end Go.Proofs.Ytbebdeaeegcfkaa
