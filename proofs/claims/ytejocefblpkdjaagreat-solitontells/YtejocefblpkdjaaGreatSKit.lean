/-
  The kit's words on lists of whole numbers: SameInts, CopyInts, OverInts.
-/
import Derived.Test.YtejocefblpkdjaaGreatJWiden
import Derived.Test.YtejocefblpkdjaaGreatIFrame
import Derived.Test.YtejocefblpkdjaaGreatJRMulB
namespace Go.Proofs.YtejocefblpkdjaaGreat
open Go.RowKit

theorem ext_getD {xs ys : List Int} {n : Nat} (hx : n = xs.length) (hy : n = ys.length) (h : ∀ j, j < n → xs[j]?.getD 0 = ys[j]?.getD 0) : xs = ys := by
  refine List.ext_getElem (by omega) fun j h1 h2 => ?_
  have := h j (by omega)
  rw [List.getElem?_eq_getElem h1, List.getElem?_eq_getElem h2] at this
  exact this
set_option maxRecDepth 100000 in
set_option maxHeartbeats 1000000 in
/-- SameInts. -/
theorem sameints_any {lo lo' : Nat} {a b : Option Addr} {n m c d : Nat} {xs ys : List Int} {w : World} (X : Intz lo w (.slice a n c) xs) (Y : Intz lo' w (.slice b m d) ys) (hl : n ≤ 17592186044416) :
    Calls Tryz.prog 16 #[.slice a n c, .slice b m d] w fun e w' => e = .returned (.bool (decide (xs = ys))) ∧ Below w.heap.size w w' := by
  have hx := X.len.1
  have hy := Y.len.1
  obtain ⟨R, hR⟩ : ∃ R, decide (xs = ys) = R := ⟨_, rfl⟩
  rw [hR]
  by_cases hnm : n = m
  · subst hnm
    have HN : Hid (∀ j, j < n → ¬ xs[j]?.getD 0 = ys[j]?.getD 0 → R = false) := fun j _ h => by rw [← hR, decide_eq_false (fun e => h (by rw [e]))]
    have HY : Hid ((∀ j, j < n → xs[j]?.getD 0 = ys[j]?.getD 0) → R = true) := fun h => by rw [← hR, decide_eq_true (ext_getD hx hy h)]
    have hne : ((n : Int) != (n : Int)) = false := by simp
    clear hR hx hy
    go_enter Tryz.func16, Tryz.ntmps16
    go_wp2
    go_loopw [5] (fun cnt wr => ∃ (k : Nat), k ≤ n ∧ cnt = .int .i64 k ∧ Below w.heap.size w wr ∧ Hid (∀ j, j < k → xs[j]?.getD 0 = ys[j]?.getD 0)) (fun c _ => n + 1 - (intOf c).toNat)
    case atStart => exact ⟨0, Nat.zero_le _, rfl, Below.refl _ _, fun j h => absurd h (Nat.not_lt_zero _)⟩
    case round =>
      obtain ⟨k, hk, rfl, hbr, I⟩ := hrel
      by_cases hkn : k < n
      · have hki : (k : Int) < (n : Int) := by omega
        obtain ⟨b1, o1, rfl, _, _⟩ := X.row (by omega)
        obtain ⟨b2, o2, rfl, _, _⟩ := Y.row (by omega)
        have h1 := ((X.below hbr).cell (j := k) (by omega)).1
        have h2 := ((Y.below hbr).cell (j := k) (by omega)).1
        have HK := hide (fun h => HN.out k hkn h)
        have HJ : Hid (xs[k]?.getD 0 = ys[k]?.getD 0 → ∀ j, j < k + 1 → xs[j]?.getD 0 = ys[j]?.getD 0) := fun h j hj => by
          by_cases e : j = k
          · subst e; exact h
          · exact I.out j (by omega)
        obtain ⟨x, hx⟩ : ∃ x, xs[k]?.getD 0 = x := ⟨_, rfl⟩
        obtain ⟨y, hy⟩ : ∃ y, ys[k]?.getD 0 = y := ⟨_, rfl⟩
        rw [hx] at h1 HK HJ
        rw [hy] at h2 HK HJ
        clear hx hy I
        by_cases hxy : x = y
        · subst hxy
          have hne : (x != x) = false := by simp
          go_wp2_with fail
          go_quiet (fail)
          go_wp2
          exact ⟨⟨k + 1, by omega, by go_num, Below.drewN' hbr _, HJ.out (by first | rfl | trivial)⟩, by simp [intOf]; omega⟩
        · obtain rfl := HK.out hxy
          have hne : (x != y) = true := by simpa using hxy
          clear hxy
          go_wp2_with fail
          go_quiet (fail)
          go_wp2
          go_ret
          exact ⟨rfl, Below.drewN' hbr _⟩
      · obtain rfl : k = n := by omega
        obtain rfl := HY.out (fun j hj => I.out j hj)
        go_wp2
        go_ret
        exact ⟨rfl, hbr⟩
  · obtain rfl : false = R := by rw [← hR, decide_eq_false (fun e => hnm (by rw [hx, hy, e]))]
    have hne : ((n : Int) != (m : Int)) = true := by simp; omega
    clear hnm hR hx hy
    go_enter Tryz.func16, Tryz.ntmps16
    go_wp2
    go_ret
    exact ⟨rfl, Below.refl _ _⟩
/-- append([]int{}, l...): a copy, within the reach. -/
theorem appendi_far {lo : Nat} {a : Option Addr} {cap : Nat} {zs : List Int} {w : World} (h : Intz lo w (.slice a zs.length cap) zs) (hl : zs.length ≤ 17592186044416) :
    ∃ a' cap' w', (Builtin.append_ #[32, 32] 32 #[.slice (some ⟨w.heap.size, 0, none⟩) 0 0, .slice a zs.length cap]).run Tryz.prog (w.alloc (.cells #[] 3)) = .ok (.slice a' zs.length cap') w' ∧ Intz w.heap.size w' (.slice a' zs.length cap') zs ∧ Below w.heap.size w w' := by
  have hb : Below w.heap.size w (w.alloc (.cells #[] 3)) := (Below.refl _ _).alloc (Nat.le_refl _) _
  by_cases hz : zs = []
  · subst hz
    exact ⟨_, _, _, appendi_none _ 0 0 (Nat.le_refl _) a cap _ _, Intz.empty _ _ _ _, hb⟩
  · obtain ⟨i0, hi, hz0, hz1, hz2⟩ := info_parts infoI64
    have h' := h.below hb
    obtain ⟨b, off, rfl, e2, e3⟩ := h.row (List.length_pos_iff.2 hz)
    have h0 : (w.alloc (.cells #[] 3)).ownsRow w.heap.size 3 1 (.slice (some ⟨w.heap.size, 0, none⟩) 0 0) 0 [] := ⟨rfl, .inr ⟨_, 0, #[], rfl, Nat.le_refl _, World.alloc_heap_new w _, Nat.le_refl _, by unfold maxLen; omega, rfl, rfl⟩⟩
    obtain ⟨v', w', hr, hown, hg, _⟩ := run_append_own (P := Tryz.prog) (w.alloc (.cells #[] 3)) w.heap.size 32 32 3 i0 (.int .i64 0) 1 8 Tryz.underlying32 hi hz0 hz1 hz2 rfl (by decide)
      _ 0 [] h0 ⟨b, off, none⟩ zs.length cap (zs.map (Value.int .i64)) (by simp)
      (fun j u hj => by
        rw [List.getElem?_map] at hj
        obtain ⟨z, hz', rfl⟩ := Option.map_eq_some_iff.1 hj
        have hjl : j < zs.length := (List.getElem?_eq_some_iff.1 hz').1
        have := (h'.cell (j := j) hjl).1
        rw [hz'] at this
        rw [Addr.add_lit]
        exact this)
      (fun u hu => by obtain ⟨z, _, rfl⟩ := List.mem_map.1 hu; rfl) (by unfold maxLen; omega) (by omega) (by simp)
    have ho : OwnI w.heap.size w' v' zs := by
      refine ⟨?_, h.words⟩
      rw [Nat.zero_add, List.nil_append] at hown
      exact hown
    have hbw : Below w.heap.size w w' := hb.grown hg (by simp) (fun k hk => (h0.lt k hk).1)
    obtain ⟨a', cap', rfl, hs⟩ := owni_seg ho
    exact ⟨a', cap', w', hr, hs, hbw⟩
set_option maxRecDepth 100000 in
set_option maxHeartbeats 400000 in
/-- CopyInts, within the reach. -/
theorem copyi_far {lo : Nat} {a : Option Addr} {n cap : Nat} {zs : List Int} {w : World} (h : Intz lo w (.slice a n cap) zs) (hl : n ≤ 17592186044416) :
    Calls Tryz.prog 19 #[.slice a n cap] w fun e w' => ∃ a' cap', e = .returned (.slice a' n cap') ∧ Intz w.heap.size w' (.slice a' n cap') zs ∧ Below w.heap.size w w' := by
  obtain ⟨rfl, _⟩ := h.len
  obtain ⟨a', cap', w', hap, hs, hb⟩ := appendi_far h hl
  go_enter Tryz.func19, Tryz.ntmps19
  go_wp2_with (at_builtin; refine Lib.wpList_append_run _ rfl _ _ _ _ rfl _ _ rfl rfl _ _ hap ?_)
  go_ret
  exact ⟨_, _, rfl, hs, hb⟩
end Go.Proofs.YtejocefblpkdjaaGreat
