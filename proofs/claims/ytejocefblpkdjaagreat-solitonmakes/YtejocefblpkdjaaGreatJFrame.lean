/-
  Joined: Frame WFrame RFrame.
-/
import Derived.Test.YtejocefblpkdjaaGreatSeg
import Derived.ProofKit
import Derived.OpenShut
import Derived.ShutString
import Derived.ChangeOld
import Derived.Below
import Derived.ChangeSame
namespace Go.Proofs.YtejocefblpkdjaaGreat
open Go.ChangeShapes Go.WideShapes Go.ChangeAt Go.RowKit
theorem own : ownKnob Tryz.prog.godebug = none := by kernel_rfl
theorem laidOut : laidOutB Tryz.prog = true := by kernel_rfl
theorem word_of_wf {x : Int} (h : (Lit.int .u64 x).wf = true) : 0 ≤ x ∧ x < 18446744073709551616 := by
  simp [Lit.wf, IntKind.min, IntKind.max, IntKind.signed, IntKind.bits] at h
  exact ⟨by omega, by omega⟩
theorem int_of_wf {x : Int} (h : (Lit.int .i64 x).wf = true) : -9223372036854775808 ≤ x ∧ x ≤ 9223372036854775807 := by
  simp [Lit.wf, IntKind.min, IntKind.max, IntKind.signed, IntKind.bits] at h
  exact ⟨by omega, by omega⟩
theorem seg_of {H : Type} {enc : TypeId × Value → H} {W : World} {a : Option Addr} {len cap : Nat} {d : DataW H} {p : List MemPlace}
    (h : DataW.Trod enc Tryz.prog W 0 (fun _ => true) true 23 (.slice a len cap) d p) (hfz : ∀ b o, MemPlace.cell b o ∈ p → W.frozen? ⟨b, o, none⟩ = false) (hlt : ∀ x ∈ p, x.block < W.heap.size) :
    ∃ zs, Seg 0 W (.slice a len cap) zs := by
  obtain ⟨fuel, hf⟩ := h
  rcases open_ints Tryz.underlying23 Tryz.underlying78 (by kernel_rfl) hf with ⟨hcs, _⟩ | ⟨x, l, c, zs, hcs, _, hl, hm, hz, hx, hcell, hwz⟩
  · simp [Value.cells] at hcs
    obtain ⟨rfl, rfl, rfl⟩ := hcs
    exact ⟨[], Seg.nil _ _⟩
  · simp [Value.cells] at hcs
    obtain ⟨rfl, rfl, rfl⟩ := hcs
    simp only [Prod.mk.injEq] at hx
    obtain ⟨rfl, rfl⟩ := hx
    simp only [if_true] at hz
    have hlen : (zs.take len).length = len := by rw [List.length_take]; omega
    refine ⟨zs.take len, fun z hz' => word_of_wf (hwz z (List.mem_of_mem_take hz')), _, _, by rw [hlen], by omega, fun hne => ?_⟩
    have h0 : 0 < len := by rw [← hlen]; exact List.length_pos_iff.2 hne
    obtain ⟨b, off, spot⟩ := x
    have hspot : spot = none := by simpa [Addr.add] using World.cell?_spot (hcell 0 (by omega))
    subst hspot
    refine ⟨b, off, rfl, Nat.zero_le _, hlt (.cell b off) (MemPlace.mem_row.2 ⟨0, by omega, by simp⟩), fun j hj => ?_, fun j hj => hfz b (off + j) (MemPlace.mem_row.2 ⟨j, by omega, rfl⟩)⟩
    rw [hlen] at hj
    have := hcell j (by omega)
    rw [Addr.add_lit] at this
    rw [this, List.getElem?_take_of_lt hj]
    simp [List.getD_eq_getElem?_getD]
theorem cellsBool : Tryz.prog.cellsOf 4 = 1 := by kernel_rfl
theorem cellsNat : Tryz.prog.cellsOf 23 = 1 := by kernel_rfl
theorem cellsWhole : Tryz.prog.cellsOf 25 = 2 := by kernel_rfl
set_option maxRecDepth 100000 in
theorem whole_trod {H : Type} {enc : TypeId × Value → H} {W : World} {c0 c1 : Value} {d : DataW H} {p : List MemPlace} {fuel : Nat}
    (hf : DataW.trod enc Tryz.prog W 0 (fun _ => true) true fuel 25 [c0, c1] = some (d, p)) (hfz : ∀ b o, MemPlace.cell b o ∈ p → W.frozen? ⟨b, o, none⟩ = false) (hlt : ∀ x ∈ p, x.block < W.heap.size) :
    ∃ (b : Bool) (a : Option Addr) (len cap : Nat) (zs : List Int), c0 = .bool b ∧ c1 = .slice a len cap ∧ Seg 0 W (.slice a len cap) zs := by
  obtain ⟨y0, y1, m, hx, _, hy0, hy1⟩ := trod_struct2 Tryz.underlying25 hf
  obtain ⟨b, e0, rfl⟩ := DataW.trod_bool Tryz.underlying4 hy0
  simp [cellsBool] at e0
  subst e0
  have hy2 : DataW.trod enc Tryz.prog W 0 (fun _ => true) true m 23 [c1] = some y1 := by simpa [cellsBool, cellsNat] using hy1
  simp only [Prod.mk.injEq] at hx
  obtain ⟨rfl, rfl⟩ := hx
  obtain ⟨a, len, cap, rfl⟩ : ∃ a len cap, c1 = .slice a len cap := by
    rcases open_ints Tryz.underlying23 Tryz.underlying78 (by kernel_rfl) hy2 with ⟨hcs, _⟩ | ⟨x, l, c, zs, hcs, _⟩
    · simp at hcs; exact ⟨_, _, _, hcs⟩
    · simp at hcs; exact ⟨_, _, _, hcs⟩
  obtain ⟨zs, hs⟩ := seg_of (enc := enc) (d := y1.1) (p := y1.2) ⟨m, by simpa [Value.cells] using hy2⟩ (fun b o hm => hfz b o (by simp [hm])) (fun x hm => hlt x (by simp [hm]))
  exact ⟨b, a, len, cap, zs, rfl, rfl, hs⟩
set_option maxRecDepth 100000 in
theorem nat_trod {H : Type} {enc : TypeId × Value → H} {W : World} {c : Value} {d : DataW H} {p : List MemPlace} {fuel : Nat}
    (hf : DataW.trod enc Tryz.prog W 0 (fun _ => true) true fuel 23 [c] = some (d, p)) (hfz : ∀ b o, MemPlace.cell b o ∈ p → W.frozen? ⟨b, o, none⟩ = false) (hlt : ∀ x ∈ p, x.block < W.heap.size) :
    ∃ (a : Option Addr) (len cap : Nat) (zs : List Int), c = .slice a len cap ∧ Seg 0 W (.slice a len cap) zs := by
  obtain ⟨a, len, cap, rfl⟩ : ∃ a len cap, c = .slice a len cap := by
    rcases open_ints Tryz.underlying23 Tryz.underlying78 (by kernel_rfl) hf with ⟨hcs, _⟩ | ⟨x, l, c, zs, hcs, _⟩
    · simp at hcs; exact ⟨_, _, _, hcs⟩
    · simp at hcs; exact ⟨_, _, _, hcs⟩
  obtain ⟨zs, hs⟩ := seg_of (enc := enc) (d := d) (p := p) ⟨fuel, by simpa [Value.cells] using hf⟩ hfz hlt
  exact ⟨a, len, cap, zs, rfl, hs⟩
theorem cellsRatio : Tryz.prog.cellsOf 27 = 3 := by kernel_rfl
set_option maxRecDepth 100000 in
theorem ratio_of {H : Type} {enc : TypeId × Value → H} {W : World} {v : Value} {d : DataW H} {p : List MemPlace} {base : Nat}
    (hv : Value.okWide Tryz.prog W .any base 27 v)
    (h : DataW.Trod enc Tryz.prog W 0 (fun _ => true) true 27 v d p) (hfz : ∀ b o, MemPlace.cell b o ∈ p → W.frozen? ⟨b, o, none⟩ = false) (hlt : ∀ x ∈ p, x.block < W.heap.size) :
    ∃ (b : Bool) (a : Option Addr) (cap : Nat) (xs : List Int) (c : Option Addr) (cap2 : Nat) (ds : List Int), v = .agg #[.bool b, .slice a xs.length cap, .slice c ds.length cap2] ∧ Seg 0 W (.slice a xs.length cap) xs ∧ Seg 0 W (.slice c ds.length cap2) ds := by
  obtain ⟨cs, rfl, hsz⟩ := okWide_struct Tryz.underlying27 hv
  rw [cellsRatio] at hsz
  obtain ⟨l⟩ := cs
  match l, hsz with
  | [c0, c1, c2], _ =>
  obtain ⟨fuel, hf⟩ := h
  obtain ⟨y0, y1, m, hx, _, hy0, hy1⟩ := trod_struct2 Tryz.underlying27 hf
  simp only [Prod.mk.injEq] at hx
  obtain ⟨rfl, rfl⟩ := hx
  have hz0 : DataW.trod enc Tryz.prog W 0 (fun _ => true) true m 25 [c0, c1] = some y0 := by simpa [Value.cells, cellsWhole] using hy0
  have hz1 : DataW.trod enc Tryz.prog W 0 (fun _ => true) true m 23 [c2] = some y1 := by simpa [Value.cells, cellsWhole, cellsNat] using hy1
  obtain ⟨b, a, len, cap, xs, rfl, rfl, s1⟩ := whole_trod (d := y0.1) (p := y0.2) hz0 (fun b o hm => hfz b o (by simp [hm])) (fun x hm => hlt x (by simp [hm]))
  obtain ⟨c, len2, cap2, ds, rfl, s2⟩ := nat_trod (d := y1.1) (p := y1.2) hz1 (fun b o hm => hfz b o (by simp [hm])) (fun x hm => hlt x (by simp [hm]))
  obtain ⟨rfl, _⟩ := s1.len
  obtain ⟨rfl, _⟩ := s2.len
  exact ⟨b, a, cap, xs, c, cap2, ds, rfl, s1, s2⟩
end Go.Proofs.YtejocefblpkdjaaGreat
