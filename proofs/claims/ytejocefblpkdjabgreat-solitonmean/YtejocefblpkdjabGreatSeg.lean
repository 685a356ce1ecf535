/-
  A slice value that holds words: what the walks say of memory.
-/
import Derived.Test.YtejocefblpkdjabGreatRows
import Derived.Test.YtejocefblpkdjabGreatJNum
import Derived.WalkKit
import Derived.WalkSpells
namespace Go.Proofs.YtejocefblpkdjabGreat
open Go.RowKit

theorem ret_int {k : IntKind} {a b : Int} (h : a = b) : Ending.returned (.int k a) = .returned (.int k b) := by rw [h]
theorem hide {p : Prop} (h : p) : Hid p := h

/-- The slice value sv holds the words zs; its row, if it has one, lies in a block from lo on, and may be written. -/
def Seg (lo : Nat) (W : World) (sv : Value) (zs : List Int) : Prop :=
  Words zs ∧ ∃ a cap, sv = .slice a zs.length cap ∧ zs.length ≤ cap ∧
    (zs ≠ [] → ∃ b off, a = some ⟨b, off, none⟩ ∧ lo ≤ b ∧ b < W.heap.size ∧ (∀ j, j < zs.length → W.cell? ⟨b, off + j, none⟩ = some (.int .u64 (zs[j]?.getD 0))) ∧ (∀ j, j < zs.length → W.frozen? ⟨b, off + j, none⟩ = false))

theorem Seg.words {lo : Nat} {W : World} {sv : Value} {zs : List Int} (h : Seg lo W sv zs) : Words zs := h.1
theorem Seg.below {lo : Nat} {W W' : World} {sv : Value} {zs : List Int} (h : Seg lo W sv zs) (hb : Below W.heap.size W W') : Seg lo W' sv zs := by
  obtain ⟨hw, a, cap, e, h1, h3⟩ := h
  refine ⟨hw, a, cap, e, h1, fun hz => ?_⟩
  obtain ⟨b, off, e1, e2, e3, e4, e5⟩ := h3 hz
  exact ⟨b, off, e1, e2, Nat.lt_of_lt_of_le e3 hb.size, fun j hj => (hb.cell (p := ⟨b, off + j, none⟩) e3).trans (e4 j hj), fun j hj => (hb.frozen (p := ⟨b, off + j, none⟩) e3).trans (e5 j hj)⟩
theorem Seg.mono {lo lo' : Nat} {W : World} {sv : Value} {zs : List Int} (h : Seg lo W sv zs) (hl : lo' ≤ lo) : Seg lo' W sv zs := by
  obtain ⟨hw, a, cap, e, h1, h3⟩ := h
  refine ⟨hw, a, cap, e, h1, fun hz => ?_⟩
  obtain ⟨b, off, e1, e2, r⟩ := h3 hz
  exact ⟨b, off, e1, Nat.le_trans hl e2, r⟩
theorem Seg.nil (lo : Nat) (W : World) : Seg lo W (.slice none 0 0) [] := ⟨Words.nil, none, 0, rfl, Nat.le_refl _, fun h => absurd rfl h⟩
theorem Seg.empty (lo : Nat) (W : World) (a : Option Addr) (cap : Nat) : Seg lo W (.slice a 0 cap) [] := ⟨Words.nil, a, cap, rfl, Nat.zero_le _, fun h => absurd rfl h⟩
/-- The lowest k words. -/
theorem Seg.take {lo : Nat} {W : World} {a : Option Addr} {len cap : Nat} {zs : List Int} (h : Seg lo W (.slice a len cap) zs) {k : Nat} (hk : k ≤ zs.length) : Seg lo W (.slice a k cap) (zs.take k) := by
  obtain ⟨hw, a', cap', e, h1, h3⟩ := h
  simp only [Value.slice.injEq] at e
  obtain ⟨rfl, rfl, rfl⟩ := e
  refine ⟨hw.take k, a, cap, by rw [List.length_take, Nat.min_eq_left hk], by rw [List.length_take]; omega, fun hz => ?_⟩
  obtain ⟨b, off, e1, e2, e3, e4, e5⟩ := h3 (by intro e; apply hz; rw [e]; simp)
  refine ⟨b, off, e1, e2, e3, fun j hj => ?_, fun j hj => e5 j (by rw [List.length_take] at hj; omega)⟩
  rw [List.length_take] at hj
  rw [e4 j (by omega), List.getElem?_take_of_lt (by omega)]
/-- One word, stored. -/
theorem Seg.set {lo : Nat} {W : World} {b off len cap : Nat} {zs : List Int} (h : Seg lo W (.slice (some ⟨b, off, none⟩) len cap) zs) {k : Nat} (hk : k < zs.length) {x : Int} (hx : 0 ≤ x ∧ x < 18446744073709551616) :
    Seg lo (W.setCell ⟨b, off + k, none⟩ (.int .u64 x)) (.slice (some ⟨b, off, none⟩) len cap) (zs.set k x) := by
  obtain ⟨hw, a', cap', e, h1, h3⟩ := h
  simp only [Value.slice.injEq] at e
  obtain ⟨rfl, rfl, rfl⟩ := e
  obtain ⟨b', off', e1, e2, e3, e4, e5⟩ := h3 (by intro e; rw [e] at hk; simp at hk)
  simp only [Option.some.injEq, Addr.mk.injEq] at e1
  obtain ⟨rfl, rfl, _⟩ := e1
  refine ⟨hw.set k hx, _, _, by rw [List.length_set], by rw [List.length_set]; exact h1, fun _ => ⟨b, off, rfl, e2, by simpa [World.setCell] using e3, fun j hj => ?_, fun j hj => ?_⟩⟩
  · rw [List.length_set] at hj
    by_cases e : j = k
    · subst e
      rw [World.cell?_setCell_same' _ _ _ (by rw [e4 j hj]; rfl), List.getElem?_set_self hj]; rfl
    · rw [World.cell?_setCell_other W ⟨b, off + k, none⟩ ⟨b, off + j, none⟩ _ (by intro h; injection h with h1 h2; omega), e4 j hj, List.getElem?_set_ne (by omega)]
  · rw [List.length_set] at hj
    rw [World.frozen?_setCell]; exact e5 j hj
theorem Seg.row {lo : Nat} {W : World} {a : Option Addr} {len cap : Nat} {zs : List Int} (h : Seg lo W (.slice a len cap) zs) (h0 : 0 < len) : ∃ b off, a = some ⟨b, off, none⟩ ∧ lo ≤ b ∧ b < W.heap.size := by
  obtain ⟨hw, a', cap', e, h1, h3⟩ := h
  simp only [Value.slice.injEq] at e
  obtain ⟨rfl, rfl, rfl⟩ := e
  obtain ⟨b, off, e1, e2, e3, _, _⟩ := h3 (List.length_pos_iff.1 h0)
  exact ⟨b, off, e1, e2, e3⟩
theorem Seg.cell {lo : Nat} {W : World} {b off len cap : Nat} {zs : List Int} (h : Seg lo W (.slice (some ⟨b, off, none⟩) len cap) zs) {j : Nat} (hj : j < len) : W.cell? ⟨b, off + j, none⟩ = some (.int .u64 (zs[j]?.getD 0)) ∧ W.frozen? ⟨b, off + j, none⟩ = false := by
  obtain ⟨hw, a', cap', e, h1, h3⟩ := h
  simp only [Value.slice.injEq] at e
  obtain ⟨rfl, rfl, rfl⟩ := e
  obtain ⟨b', off', e1, e2, e3, e4, e5⟩ := h3 (by intro e; rw [e] at hj; simp at hj)
  simp only [Option.some.injEq, Addr.mk.injEq] at e1
  obtain ⟨rfl, rfl, _⟩ := e1
  exact ⟨e4 j hj, e5 j hj⟩
theorem Seg.len {lo : Nat} {W : World} {a : Option Addr} {len cap : Nat} {zs : List Int} (h : Seg lo W (.slice a len cap) zs) : len = zs.length ∧ len ≤ cap := by
  obtain ⟨hw, a', cap', e, h1, h3⟩ := h
  simp only [Value.slice.injEq] at e
  obtain ⟨rfl, rfl, rfl⟩ := e
  exact ⟨rfl, h1⟩
theorem Seg.drew {lo : Nat} {W : World} {sv : Value} {zs : List Int} (h : Seg lo W sv zs) : Seg lo W.drew sv zs := h
end Go.Proofs.YtejocefblpkdjabGreat
