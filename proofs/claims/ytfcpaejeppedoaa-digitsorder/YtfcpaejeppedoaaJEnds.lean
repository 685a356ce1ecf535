/-
  Joined: Ends Up Rowed.
-/
import Derived.Test.YtfcpaejeppedoaaJBare
import Derived.Test.YtfcpaejeppedoaaJWiden
import Derived.Test.YtfcpaejeppedoaaJSmall
import Derived.Test.YtfcpaejeppedoaaShift
import Derived.BigRegion
namespace Go.Proofs.Ytfcpaejeppedoaa
open Go.RowKit
set_option maxRecDepth 100000 in
set_option maxHeartbeats 400000 in
theorem trim_any {lo : Nat} {sv : Value} {zs : List Int} {w : World} (h : Seg lo w sv zs) (hl : zs.length ≤ 10000) :
    Calls Try.prog 39 #[sv] w fun e w' => ∃ (a : Option Addr) (cap : Nat) (ts : List Int), e = .returned (.slice a ts.length cap) ∧ Seg w.heap.size w' (.slice a ts.length cap) ts ∧ Norm ts ∧ val ts = val zs ∧ ts.length ≤ zs.length ∧ Below w.heap.size w w' := by
  go_enter Try.func39, Try.ntmps39
  go_wp2_with fail
  refine (bare_any h (by omega)).mono ?_
  rintro e w1 ⟨a1, cap1, ts, rfl, hs1, hn1, hv1, hl1, hb1⟩
  have HV := hide hv1
  clear hv1
  go_wp2_with fail
  refine (widen_any hs1 ts.length (Nat.le_refl _) (by omega)).mono ?_
  rintro e w2 ⟨a2, cap2, rfl, hs2, hb2⟩
  rw [Nat.sub_self, List.replicate_zero, List.append_nil] at hs2
  go_wp2
  go_ret
  exact ⟨_, _, ts, rfl, hs2.mono hb1.size, hn1, HV.out, hl1, hb1.trans (hb2.mono hb1.size)⟩
def formOf (zs : List Int) : Int := if zs = [] ∨ zs[zs.length - 1]?.getD 0 ≠ 0 then 0 else 6
set_option maxRecDepth 100000 in
set_option maxHeartbeats 400000 in
theorem of_any (x : Int) (hx : 0 ≤ x ∧ x < 18446744073709551616) (w : World) :
    Calls Try.prog 20 #[.int .u64 x] w fun e w' => ∃ (a : Option Addr) (cap : Nat) (ts : List Int), e = .returned (.slice a ts.length cap) ∧ Seg w.heap.size w' (.slice a ts.length cap) ts ∧ Norm ts ∧ val ts = x ∧ ts.length ≤ 1 ∧ Below w.heap.size w w' := by
  by_cases h0 : x = 0
  · subst h0
    go_enter Try.func20, Try.ntmps20
    go_wp2
    go_ret
    exact ⟨none, 0, [], rfl, Seg.nil _ _, norm_nil, rfl, Nat.zero_le _, Below.refl _ _⟩
  · have hne : (x == 0) = false := by simp [h0]
    have H0 := hide h0
    clear h0
    go_enter Try.func20, Try.ntmps20
    go_wp2
    go_ret
    refine ⟨_, _, [x], rfl, ⟨Words.cons hx Words.nil, _, _, rfl, Nat.le_refl _, fun _ => ⟨_, 0, rfl, Nat.le_refl _, by simp, fun j hj => ?_, fun j hj => ?_⟩⟩, .inr ?_, ?_, Nat.le_refl _, (Below.refl _ _).alloc (Nat.le_refl _) _⟩
    · obtain rfl : j = 0 := by simpa using hj
      exact cell_of_heap (World.alloc_heap_new w _) 0
    · obtain rfl : j = 0 := by simpa using hj
      exact frozen_of_heap (World.alloc_heap_new w _) 0
    · simpa using H0.out
    · simp [val]
end Go.Proofs.Ytfcpaejeppedoaa
namespace Go.Proofs.Ytfcpaejeppedoaa
open Go.RowKit
end Go.Proofs.Ytfcpaejeppedoaa
namespace Go.Proofs.Ytfcpaejeppedoaa
open Go.RowKit
def Rowed (W : World) (g cap : Nat) : Prop := ∃ cur : Array Value, W.heap[g]? = some (.cells cur 39 (0, 0)) ∧ cur.size = cap ∧ cap ≤ maxLen
theorem Rowed.setCell {W : World} {g cap : Nat} (h : Rowed W g cap) (p : Addr) (v : Value) : Rowed (W.setCell p v) g cap := by
  obtain ⟨cur, h1, h2, h3⟩ := h
  by_cases e : g = p.block
  · subst e
    have hl := (Array.getElem?_eq_some_iff.1 h1).1
    have h1' : W.heap[p.block] = .cells cur 39 (0, 0) := (Array.getElem?_eq_some_iff.1 h1).2
    exact ⟨if p.spot.isSome = true then cur else cur.setIfInBounds p.off v, by simp [World.setCell, Array.getElem_modify, hl, h1'], by split <;> simp [h2], h3⟩
  · exact ⟨cur, (Below.heap_setCell W p v g e).trans h1, h2, h3⟩
theorem Rowed.setCells {g' cap g : Nat} : ∀ (vs : List Value) (o : Nat) (w : World), Rowed w g cap → Rowed (w.setCells g' o vs) g cap
  | [], _, _, h => h
  | v :: r, o, w, h => Rowed.setCells r (o + 1) (w.setCell ⟨g', o, none⟩ v) (h.setCell _ _)
theorem Rowed.below {W W' : World} {g cap : Nat} (h : Rowed W g cap) (hb : Below W.heap.size W W') : Rowed W' g cap := by
  obtain ⟨cur, h1, h2, h3⟩ := h
  exact ⟨cur, (hb.block g (Array.getElem?_eq_some_iff.1 h1).1).trans h1, h2, h3⟩
theorem Rowed.own {lo g cap n : Nat} {W : World} {zs : List Int} (h : Rowed W g cap) (hs : Seg lo W (.slice (some ⟨g, 0, none⟩) n cap) zs) (hz : zs ≠ []) : Own lo W (.slice (some ⟨g, 0, none⟩) n cap) zs := by
  obtain ⟨cur, h1, h2, h3⟩ := h
  obtain ⟨hl, hc⟩ := hs.len
  subst hl
  refine ⟨⟨by simp, .inr ⟨g, cap, cur, rfl, ?_, h1, hc, h3, by omega, ?_⟩⟩, hs.words⟩
  · obtain ⟨b, o, e, h4, _⟩ := hs.row (List.length_pos_iff.2 hz)
    cases e
    exact h4
  · rw [Nat.mul_one]
    refine List.ext_getElem? fun j => ?_
    by_cases hj : j < zs.length
    · have := (hs.cell (j := j) hj).1
      rw [cell_of_heap h1, Nat.zero_add] at this
      rw [List.getElem?_take_of_lt hj, Array.getElem?_toList, this]
      simp [hj]
    · rw [List.getElem?_eq_none (by rw [List.length_take]; omega), List.getElem?_eq_none (by simpa using hj)]
end Go.Proofs.Ytfcpaejeppedoaa
