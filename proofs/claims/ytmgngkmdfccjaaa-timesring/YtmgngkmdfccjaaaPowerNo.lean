/-
  The walk of the program's Power, where it is refused; how long a power is.
-/
import Derived.Test.YtmgngkmdfccjaaaPower
namespace Go.Proofs.Ytmgngkmdfccjaaa
open Go.RowKit Go.Shelf

attribute [local go_sem] Oper.semAt_some

set_option maxRecDepth 100000 in
set_option maxHeartbeats 1000000 in
/-- Power(a, n), n out of its range: 3 (ErrRange). -/
theorem power_range (a : Option Addr) (len cap : Nat) (n : Int) (hn : n < 0 ∨ 65536 < n) (w : World) :
    Calls Try.prog 21 #[.slice a len cap, .int .i64 n] w fun e w' => e = .returned (.tuple #[.slice none 0 0, .int .i64 3]) ∧ Below w.heap.size w w' := by
  have hA0 : ∀ (t : TypeId), Below w.heap.size w (w.alloc (.cells #[.slice a len cap] t)) := fun t => (Below.refl _ w).alloc (Nat.le_refl _) _
  refine (callsIn_wide (n := 4)).1 ?_
  refine callsIn_of_wp_marks Try.func21 rfl trivial ?_ rfl
  simp only [Try.ntmps21, List.size_toArray, List.length_cons, List.length_nil, Nat.reduceAdd, Nat.reduceSub, Array.replicate_succ, Array.replicate_zero, List.push_toArray, List.append_toArray, List.nil_append, List.cons_append]
  by_cases h0 : n < 0
  · gi_wp2
    refine ⟨.tuple #[.slice none 0 0, .int .i64 3], ?_, rfl, hA0 _⟩
    simp [results, Try.f21, go_sem]
  · have h1 : 65536 < n := by omega
    clear hn
    gi_wp2
    refine ⟨.tuple #[.slice none 0 0, .int .i64 3], ?_, rfl, hA0 _⟩
    simp [results, Try.f21, go_sem]

set_option maxRecDepth 100000 in
set_option maxHeartbeats 1000000 in
/-- Power(a, n), too long: 4 (ErrLong). -/
theorem power_long {lo : Nat} {a : Option Addr} {cap : Nat} {xs : List Int} {w : World} (ha : Seg lo w (.slice a xs.length cap) xs) (hl : xs.length ≤ 10000) (n : Nat) (hn : n ≤ 65536) (hbits : 16777216 < (n : Int) * (blen (val xs) : Int)) :
    Calls Try.prog 21 #[.slice a xs.length cap, .int .i64 n] w fun e w' => e = .returned (.tuple #[.slice none 0 0, .int .i64 4]) ∧ Below w.heap.size w w' := by
  obtain ⟨bl, hbl⟩ : ∃ bl, blen (val xs) = bl := ⟨_, rfl⟩
  have hlen := fun (W : World) (hW : Below w.heap.size w W) => len_any (ha.below hW) (by omega)
  have hbll : bl ≤ 640000 := by
    obtain ⟨k, hk, hnk, hvk⟩ := norm_upto (zs := xs) xs.length (Nat.le_refl _) (fun j h1 h2 => by omega)
    have := (blen_len (ha.words.take k) hnk).2
    rw [hvk, hbl, List.length_take] at this
    omega
  rw [hbl] at hlen hbits
  have hnb : (n : Int) * (bl : Int) ≤ 65536 * 640000 := Int.mul_le_mul (by omega) (by omega) (by omega) (by omega)
  have hwr : IntKind.i64.wrap ((n : Int) * (bl : Int)) = (n : Int) * (bl : Int) := by rw [IntKind.wrap_i64]; omega
  have hn0 : ¬ (n : Int) < 0 := by omega
  have hn1 : ¬ (65536 : Int) < (n : Int) := by omega
  have hA0 : Below w.heap.size w (w.alloc (.cells #[.slice a xs.length cap] 23)) := (Below.refl _ w).alloc (Nat.le_refl _) _
  clear hbl
  refine (callsIn_wide (n := 4)).1 ?_
  refine callsIn_of_wp_marks Try.func21 rfl trivial ?_ rfl
  simp only [Try.ntmps21, List.size_toArray, List.length_cons, List.length_nil, Nat.reduceAdd, Nat.reduceSub, Array.replicate_succ, Array.replicate_zero, List.push_toArray, List.append_toArray, List.nil_append, List.cons_append]
  gi_wp2_with fail
  refine ⟨trivial, ?_⟩
  refine (callsIn_wide.2 (hlen _ hA0)).mono ?_
  rintro e w1 ⟨rfl, hb1⟩
  gi_wp2
  refine ⟨.tuple #[.slice none 0 0, .int .i64 4], ?_, rfl, hA0.trans (hb1.mono hA0.size)⟩
  simp [results, Try.f21, go_sem]

theorem pow_le_pow {x y : Int} (h0 : 0 ≤ x) (h : x ≤ y) : ∀ n : Nat, 0 ≤ x ^ n ∧ x ^ n ≤ y ^ n
  | 0 => ⟨by rw [Int.pow_zero]; decide, by rw [Int.pow_zero, Int.pow_zero]; exact Int.le_refl _⟩
  | n + 1 => by
    have ih := pow_le_pow h0 h n
    rw [Int.pow_succ, Int.pow_succ]
    exact ⟨Int.mul_nonneg ih.1 h0, Int.mul_le_mul ih.2 h h0 (Int.le_trans ih.1 ih.2)⟩
theorem pw_pow (m : Nat) : ∀ n : Nat, pw m ^ n = pw (m * n)
  | 0 => by rw [Int.pow_zero, Nat.mul_zero, pw_zero]
  | n + 1 => by rw [Int.pow_succ, pw_pow m n, ← pw_add, Nat.mul_succ]
theorem pw_lt_inv {m n : Nat} (h : pw m ≤ pw n) : m ≤ n := by
  rcases Nat.lt_or_ge n m with h1 | h1
  · have a := pw_mono (m := n + 1) (n := m) h1
    rw [pw_succ] at a
    have := pw_pos n
    omega
  · exact h1
/-- A number that is not greater than 2^64 to the power m has m words and one at most. -/
theorem len_of_val {zs : List Int} {m : Nat} (hw : Words zs) (hn : Norm zs) (h : val zs ≤ pw m) : zs.length ≤ m + 1 := by
  by_cases e : zs = []
  · subst e; simp
  · have := pw_lt_inv (Int.le_trans (norm_val hw hn e) h)
    omega
/-- How long a power is. -/
theorem len_of_pow {xs zs : List Int} {n : Nat} (hx : Words xs) (hw : Words zs) (hn : Norm zs) (h : val zs = val xs ^ n) : zs.length ≤ xs.length * n + 1 := by
  refine len_of_val hw hn ?_
  rw [h, ← pw_pow]
  exact (pow_le_pow (val_nonneg hx) (Int.le_of_lt (val_lt hx)) n).2
end Go.Proofs.Ytmgngkmdfccjaaa
