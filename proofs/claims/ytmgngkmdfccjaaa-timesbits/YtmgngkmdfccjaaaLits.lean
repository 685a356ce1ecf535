/-
  Lists that are written out; the statements' small helpers of layer 2.
-/
import Derived.Test.YtmgngkmdfccjaaaRPower
import Derived.Test.YtmgngkmdfccjaaaKit
namespace Go.Proofs.Ytmgngkmdfccjaaa
open Go.RowKit

/-- A list that is written out. -/
theorem seg_lit (w : World) (zs : List Int) (hw : Words zs) : Seg w.heap.size (w.alloc (.cells (zs.map (Value.int .u64)).toArray 24)) (.slice (some ⟨w.heap.size, 0, none⟩) zs.length zs.length) zs := by
  have hh : (w.alloc (.cells (zs.map (Value.int .u64)).toArray 24)).heap[w.heap.size]? = some (.cells (zs.map (Value.int .u64)).toArray 24 (0, 0)) := World.alloc_heap_new w _
  refine ⟨hw, _, _, rfl, Nat.le_refl _, fun _ => ⟨_, 0, rfl, Nat.le_refl _, by simp, fun j hj => ?_, fun j _ => frozen_of_heap hh _⟩⟩
  rw [cell_of_heap hh, Nat.zero_add]
  simp [hj]
/-- Words, told by reckoning. -/
def wordsB (zs : List Int) : Bool := zs.all fun z => decide (0 ≤ z) && decide (z < 18446744073709551616)
theorem words_of {zs : List Int} (h : wordsB zs = true) : Words zs := fun z hz => by
  have := List.all_eq_true.1 h z hz
  simpa using this
theorem seg_at (w : World) {N : Nat} (hN : w.heap.size = N) (zs : List Int) (hw : wordsB zs = true) : Seg N (w.alloc (.cells (zs.map (Value.int .u64)).toArray 24)) (.slice (some ⟨N, 0, none⟩) zs.length zs.length) zs := by
  subst hN; exact seg_lit w zs (words_of hw)
theorem Seg.alloc {lo : Nat} {W : World} {sv : Value} {zs : List Int} (h : Seg lo W sv zs) (o : Obj) : Seg lo (W.alloc o) sv zs := h.below ((Below.refl _ _).alloc (Nat.le_refl _) o)
theorem hw_below {w w' : World} (h : w' = w) : Below w.heap.size w w' := by rw [h]; exact Below.refl _ _
theorem same_len {lo lo' : Nat} {a b : Option Addr} {n m ca cb : Nat} {xs ys : List Int} {w : World} (ha : Seg lo w (.slice a n ca) xs) (hb : Seg lo' w (.slice b m cb) ys) (e : xs = ys) (hl : xs.length ≤ 1000000) :
    Calls Try.prog 16 #[.slice a n ca, .slice b m cb] w fun e w' => e = .returned (.bool true) ∧ Below w.heap.size w w' := by
  subst e
  obtain ⟨rfl, _⟩ := ha.len
  obtain ⟨rfl, _⟩ := hb.len
  exact same_yes ha hb hl

set_option maxHeartbeats 400000 in
/-- of(l..): the list itself. -/
theorem ofl_any (a : Option Addr) (len cap : Nat) (w : World) : Calls Try.prog 23 #[.slice a len cap] w fun e w' => e = .returned (.slice a len cap) ∧ w' = w := by
  go_enter Try.func23, Try.ntmps23
  go_wp2
  go_ret
  exact ⟨rfl, rfl⟩
/-- Power(a, m), told over whole numbers. -/
theorem power_int {lo : Nat} {a : Option Addr} {n cap : Nat} {xs : List Int} {w : World} (ha : Seg lo w (.slice a n cap) xs) (m : Int) (h0 : 0 ≤ m) (h1 : m ≤ 65536) (hbits : m * (blen (val xs) : Int) ≤ 16777216) (hfit : (xs.length + 1) * 2 ^ (blen m + 1) ≤ 4000) :
    Calls Try.prog 21 #[.slice a n cap, .int .i64 m] w fun e w' => ∃ (a' : Option Addr) (cap' : Nat) (zs : List Int), e = .returned (.tuple #[.slice a' zs.length cap', .int .i64 0]) ∧ Seg w.heap.size w' (.slice a' zs.length cap') zs ∧ Norm zs ∧ val zs = val xs ^ m.toNat ∧ zs.length ≤ xs.length * m.toNat + 1 ∧ Below w.heap.size w w' := by
  obtain ⟨rfl, _⟩ := ha.len
  obtain ⟨k, rfl⟩ := Int.eq_ofNat_of_zero_le h0
  refine (power_yes ha k (by omega) hbits hfit).mono ?_
  rintro e w' ⟨a', c', zs, he, hs, hn, hv, hb⟩
  exact ⟨a', c', zs, he, hs, hn, hv, len_of_pow ha.words hs.words hn hv, hb⟩
theorem power_long_int {lo : Nat} {a : Option Addr} {n cap : Nat} {xs : List Int} {w : World} (ha : Seg lo w (.slice a n cap) xs) (hl : xs.length ≤ 10000) (m : Int) (h0 : 0 ≤ m) (h1 : m ≤ 65536) (hbits : 16777216 < m * (blen (val xs) : Int)) :
    Calls Try.prog 21 #[.slice a n cap, .int .i64 m] w fun e w' => e = .returned (.tuple #[.slice none 0 0, .int .i64 4]) ∧ Below w.heap.size w w' := by
  obtain ⟨rfl, _⟩ := ha.len
  obtain ⟨k, rfl⟩ := Int.eq_ofNat_of_zero_le h0
  exact power_long ha hl k (by omega) hbits
theorem rpower_int {lo : Nat} {a : Option Addr} {n cap : Nat} {xs : List Int} {w : World} (ha : Seg lo w (.slice a n cap) xs) (m : Int) (h0 : 0 ≤ m) (h1 : m ≤ 65536) (hbits : m * (blen (val xs) : Int) ≤ 16777216) (hl : xs.length ≤ 2000) (hfit : xs.length * m.toNat + 1 ≤ 2000) :
    Calls Try.prog 22 #[.slice a n cap, .int .i64 m] w fun e w' => ∃ (a' : Option Addr) (cap' : Nat) (zs : List Int), e = .returned (.tuple #[.slice a' zs.length cap', .int .i64 0]) ∧ Seg w.heap.size w' (.slice a' zs.length cap') zs ∧ Norm zs ∧ val zs = val xs ^ m.toNat ∧ zs.length ≤ xs.length * m.toNat + 1 ∧ Below w.heap.size w w' := by
  obtain ⟨rfl, _⟩ := ha.len
  obtain ⟨k, rfl⟩ := Int.eq_ofNat_of_zero_le h0
  refine (rpower_yes ha k (by omega) hbits hl hfit).mono ?_
  rintro e w' ⟨a', c', zs, he, hs, hn, hv, hb⟩
  exact ⟨a', c', zs, he, hs, hn, hv, len_of_pow ha.words hs.words hn hv, hb⟩
set_option maxHeartbeats 400000 in
/-- Pick(x, 8) and its like: a number from 0 on below. -/
theorem pick_below (K : Int) (hK : K = 8 ∨ K = 10) (x : Int) (hx : -9223372036854775808 ≤ x) (hx' : x ≤ 9223372036854775807) (w : World) : Calls Try.prog 24 #[.int .i64 x, .int .i64 K] w fun e w' => ∃ n : Nat, (n : Int) < K ∧ e = .returned (.int .i64 n) ∧ w' = w := by
  rcases hK with rfl | rfl
  all_goals
    by_cases h0 : 0 ≤ x
    · first
        | (have h1 : 0 ≤ x % 8 := by omega
           have h2 : x % 8 < 8 := by omega
           go_enter Try.func24, Try.ntmps24
           go_wp2
           go_ret
           exact ⟨(x % 8).toNat, by omega, ret_int (by omega), rfl⟩)
        | (have h1 : 0 ≤ x % 10 := by omega
           have h2 : x % 10 < 10 := by omega
           go_enter Try.func24, Try.ntmps24
           go_wp2
           go_ret
           exact ⟨(x % 10).toNat, by omega, ret_int (by omega), rfl⟩)
    · first
        | (have h1 : -8 < x.tmod 8 ∧ x.tmod 8 ≤ 0 := by
             have e : x.tmod 8 = -((-x) % 8) := by
               rw [show x = -(-x) by omega, Int.neg_tmod, Int.tmod_eq_emod_of_nonneg (by omega)]; simp
             omega
           by_cases h2 : x.tmod 8 < 0
           · have h3 : ¬ x.tmod 8 = 0 := by omega
             go_enter Try.func24, Try.ntmps24
             go_wp2
             go_ret
             exact ⟨(x.tmod 8 + 8).toNat, by omega, ret_int (by omega), rfl⟩
           · have h3 : x.tmod 8 = 0 := by omega
             go_enter Try.func24, Try.ntmps24
             go_wp2
             go_ret
             exact ⟨0, by omega, ret_int (by omega), rfl⟩)
        | (have h1 : -10 < x.tmod 10 ∧ x.tmod 10 ≤ 0 := by
             have e : x.tmod 10 = -((-x) % 10) := by
               rw [show x = -(-x) by omega, Int.neg_tmod, Int.tmod_eq_emod_of_nonneg (by omega)]; simp
             omega
           by_cases h2 : x.tmod 10 < 0
           · have h3 : ¬ x.tmod 10 = 0 := by omega
             go_enter Try.func24, Try.ntmps24
             go_wp2
             go_ret
             exact ⟨(x.tmod 10 + 10).toNat, by omega, ret_int (by omega), rfl⟩
           · have h3 : x.tmod 10 = 0 := by omega
             go_enter Try.func24, Try.ntmps24
             go_wp2
             go_ret
             exact ⟨0, by omega, ret_int (by omega), rfl⟩)
end Go.Proofs.Ytmgngkmdfccjaaa
