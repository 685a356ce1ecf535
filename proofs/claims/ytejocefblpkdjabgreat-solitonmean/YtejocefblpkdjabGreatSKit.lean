/-
  The kit's words on lists of whole numbers: SameInts, CopyInts, OverInts.
-/
import Derived.Test.YtejocefblpkdjabGreatJWiden
import Derived.Test.YtejocefblpkdjabGreatIFrame
import Derived.Test.YtejocefblpkdjabGreatJRMulB
namespace Go.Proofs.YtejocefblpkdjabGreat
open Go.RowKit

theorem ext_getD {xs ys : List Int} {n : Nat} (hx : n = xs.length) (hy : n = ys.length) (h : ∀ j, j < n → xs[j]?.getD 0 = ys[j]?.getD 0) : xs = ys := by
  refine List.ext_getElem (by omega) fun j h1 h2 => ?_
  have := h j (by omega)
  rw [List.getElem?_eq_getElem h1, List.getElem?_eq_getElem h2] at this
  exact this
set_option maxRecDepth 100000 in
set_option maxHeartbeats 1000000 in
/-- SameInts. -/
theorem sameints_any {lo lo' : Nat} {a b : Option Addr} {n m c d : Nat} {xs ys : List Int} {w : World} (X : Intz lo w (.slice a n c) xs) (Y : Intz lo' w (.slice b m d) ys) (hl : n ≤ 17592186044416) :
    Calls Tryz.prog 28 #[.slice a n c, .slice b m d] w fun e w' => e = .returned (.bool (decide (xs = ys))) ∧ Below w.heap.size w w' := by
  have hx := X.len.1
  have hy := Y.len.1
  obtain ⟨R, hR⟩ : ∃ R, decide (xs = ys) = R := ⟨_, rfl⟩
  rw [hR]
  by_cases hnm : n = m
  · subst hnm
    have HN : Hid (∀ j, j < n → ¬ xs[j]?.getD 0 = ys[j]?.getD 0 → R = false) := fun j _ h => by rw [← hR, decide_eq_false (fun e => h (by rw [e]))]
    have HY : Hid ((∀ j, j < n → xs[j]?.getD 0 = ys[j]?.getD 0) → R = true) := fun h => by rw [← hR, decide_eq_true (ext_getD hx hy h)]
    have hne : ((n : Int) != (n : Int)) = false := by simp
    clear hR hx hy
    go_enter Tryz.func28, Tryz.ntmps28
    go_wp2
    go_loopw [5] (fun cnt wr => ∃ (k : Nat), k ≤ n ∧ cnt = .int .i64 k ∧ Below w.heap.size w wr ∧ Hid (∀ j, j < k → xs[j]?.getD 0 = ys[j]?.getD 0)) (fun c _ => n + 1 - (intOf c).toNat)
    case atStart => exact ⟨0, Nat.zero_le _, rfl, Below.refl _ _, fun j h => absurd h (Nat.not_lt_zero _)⟩
    case round =>
      obtain ⟨k, hk, rfl, hbr, I⟩ := hrel
      by_cases hkn : k < n
      · have hki : (k : Int) < (n : Int) := by omega
        obtain ⟨b1, o1, rfl, _, _⟩ := X.row (by omega)
        obtain ⟨b2, o2, rfl, _, _⟩ := Y.row (by omega)
        have h1 := ((X.below hbr).cell (j := k) (by omega)).1
        have h2 := ((Y.below hbr).cell (j := k) (by omega)).1
        have HK := hide (fun h => HN.out k hkn h)
        have HJ : Hid (xs[k]?.getD 0 = ys[k]?.getD 0 → ∀ j, j < k + 1 → xs[j]?.getD 0 = ys[j]?.getD 0) := fun h j hj => by
          by_cases e : j = k
          · subst e; exact h
          · exact I.out j (by omega)
        obtain ⟨x, hx⟩ : ∃ x, xs[k]?.getD 0 = x := ⟨_, rfl⟩
        obtain ⟨y, hy⟩ : ∃ y, ys[k]?.getD 0 = y := ⟨_, rfl⟩
        rw [hx] at h1 HK HJ
        rw [hy] at h2 HK HJ
        clear hx hy I
        by_cases hxy : x = y
        · subst hxy
          have hne : (x != x) = false := by simp
          go_wp2_with fail
          go_quiet (fail)
          go_wp2
          exact ⟨⟨k + 1, by omega, by go_num, Below.drewN' hbr _, HJ.out (by first | rfl | trivial)⟩, by simp [intOf]; omega⟩
        · obtain rfl := HK.out hxy
          have hne : (x != y) = true := by simpa using hxy
          clear hxy
          go_wp2_with fail
          go_quiet (fail)
          go_wp2
          go_ret
          exact ⟨rfl, Below.drewN' hbr _⟩
      · obtain rfl : k = n := by omega
        obtain rfl := HY.out (fun j hj => I.out j hj)
        go_wp2
        go_ret
        exact ⟨rfl, hbr⟩
  · obtain rfl : false = R := by rw [← hR, decide_eq_false (fun e => hnm (by rw [hx, hy, e]))]
    have hne : ((n : Int) != (m : Int)) = true := by simp; omega
    clear hnm hR hx hy
    go_enter Tryz.func28, Tryz.ntmps28
    go_wp2
    go_ret
    exact ⟨rfl, Below.refl _ _⟩
end Go.Proofs.YtejocefblpkdjabGreat
