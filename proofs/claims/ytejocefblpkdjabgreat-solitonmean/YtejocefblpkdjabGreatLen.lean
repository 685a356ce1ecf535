/-
  The walk of math/bits' Len64.
-/
import Derived.Test.YtejocefblpkdjabGreatSeg
import Derived.Lib.BitFns
import Derived.Lib.Small
import Derived.Lib.Walk
namespace Go.Proofs.YtejocefblpkdjabGreat
open Go.RowKit

theorem tab_size : Lib.len8tab.size = 256 := by decide +kernel
theorem tab_all : ∀ i : Fin 256, (Lib.len8tab[i.val]'(by rw [tab_size]; exact i.isLt)).toNat = Lib.bitLen i.val := by decide +kernel
theorem tab_at (i : Nat) (h : i < Lib.len8tab.size) : (Lib.len8tab[i]'h).toNat = Lib.bitLen i := tab_all ⟨i, by rw [← tab_size]; exact h⟩
theorem tab_le (i : Nat) (h : i < Lib.len8tab.size) : Lib.bitLen i ≤ 8 := Lib.bitLen_le8 ⟨i, by rw [← tab_size]; exact h⟩
theorem len_shift (x q : Int) (c D : Nat) (h0 : 0 ≤ x) (h1 : x < 18446744073709551616) (hD : D = 2 ^ c) (hq : q = x / (D : Int)) (hx : (D : Int) ≤ x ∨ c = 0) : Lib.bitLen x.toNat = c + Lib.bitLen q.toNat := by
  have eq : q.toNat = x.toNat / D := by
    rw [hq]
    obtain ⟨n, rfl⟩ := Int.eq_ofNat_of_zero_le h0
    exact congrArg Int.toNat (Int.natCast_ediv n D).symm
  rcases hx with hx | hx
  · rw [eq, hD]; exact Lib.bitLen_shift c x.toNat (by omega) (by omega)
  · subst hx
    rw [eq, hD]; simp
theorem wrap_sum (c b : Nat) (hc : c ≤ 56) (hb : b ≤ 8) : wrap64 ((c : Int) + wrap64 (b : Int)) = ((c + b : Nat) : Int) := by unfold wrap64; omega
/-- One way's end: the table at q, the highest byte of x, and the c bits below it. -/
theorem len_close (x q : Int) (c D : Nat) (h0 : 0 ≤ x) (h1 : x < 18446744073709551616) (hD : D = 2 ^ c) (hq : q = x / (D : Int)) (hx : (D : Int) ≤ x ∨ c = 0) (h : q.toNat < Lib.len8tab.size) (hc : c ≤ 56) :
    wrap64 ((c : Int) + wrap64 ((Lib.len8tab[q.toNat]'h).toNat : Int)) = (Lib.bitLen x.toNat : Int) := by
  rw [tab_at _ h, len_shift x q c D h0 h1 hD hq hx]
  exact wrap_sum c _ hc (tab_le _ h)

set_option maxHeartbeats 4000000 in
set_option maxRecDepth 100000 in
theorem len64_any (x : Int) (w : World) (h0 : 0 ≤ x) (h1 : x < 18446744073709551616) :
    Calls Tryz.prog 63 #[.int .u64 x] w fun e w' => e = .returned (.int .i64 (Lib.bitLen x.toNat)) ∧ w' = w := by
  have ts : (Lib.len8tab.size : Int) = 256 := by rw [tab_size]; rfl
  have TS := hide ts
  clear ts
  go_enter Tryz.func63, Tryz.ntmps63
  go_wp2
  all_goals try (exfalso; have := TS.out; omega)
  all_goals go_ret
  · exact ⟨ret_int (len_close x _ 56 72057594037927936 h0 h1 rfl (by omega) (by omega) _ (by omega)), rfl⟩
  · exact ⟨ret_int (len_close x _ 48 281474976710656 h0 h1 rfl (by omega) (by omega) _ (by omega)), rfl⟩
  · exact ⟨ret_int (len_close x _ 40 1099511627776 h0 h1 rfl (by omega) (by omega) _ (by omega)), rfl⟩
  · exact ⟨ret_int (len_close x _ 32 4294967296 h0 h1 rfl (by omega) (by omega) _ (by omega)), rfl⟩
  · exact ⟨ret_int (len_close x _ 24 16777216 h0 h1 rfl (by omega) (by omega) _ (by omega)), rfl⟩
  · exact ⟨ret_int (len_close x _ 16 65536 h0 h1 rfl (by omega) (by omega) _ (by omega)), rfl⟩
  · exact ⟨ret_int (len_close x _ 8 256 h0 h1 rfl (by omega) (by omega) _ (by omega)), rfl⟩
  · exact ⟨ret_int (by have := len_close x x 0 1 h0 h1 rfl (by omega) (.inr rfl) (by omega) (by omega); simpa using this), rfl⟩

/-- How many bits a number has. -/
def blen (v : Int) : Nat := Go.bitLen v.toNat
theorem bitLen_half (x : Nat) (h : x ≠ 0) : Go.bitLen x = 1 + Go.bitLen (x / 2) := by
  by_cases h1 : x / 2 = 0
  · obtain rfl : x = 1 := by omega
    rfl
  · exact Go.bitLen_shift x 1 (by simpa using h1)
theorem libLen_aux : ∀ (f x : Nat), x < 2 ^ f → Lib.bitLenAux f x = Go.bitLen x
  | 0, x, h => by obtain rfl : x = 0 := by simpa using h
                  rfl
  | f + 1, x, h => by
    by_cases hx : x = 0
    · subst hx; rfl
    · rw [Lib.bitLenAux, if_neg hx, libLen_aux f (x / 2) (by rw [Nat.pow_succ] at h; omega), ← bitLen_half x hx]
theorem libLen_eq (x : Nat) (h : x < 2 ^ 64) : Lib.bitLen x = Go.bitLen x := libLen_aux 64 x h
theorem pw_two (n : Nat) : pw n = ((2 ^ (64 * n) : Nat) : Int) := by
  unfold pw
  rw [Nat.pow_mul, Int.natCast_pow]
  rfl
/-- A number whose highest word is t, at the place n. -/
theorem blen_top {v l t : Int} {n : Nat} (hl : 0 ≤ l ∧ l < pw n) (ht : 0 < t) (e : v = l + pw n * t) : blen v = 64 * n + blen t := by
  obtain ⟨l, rfl⟩ := Int.eq_ofNat_of_zero_le hl.1
  obtain ⟨t, rfl⟩ := Int.eq_ofNat_of_zero_le (Int.le_of_lt ht)
  rw [pw_two] at hl e
  have hv : v.toNat = l + 2 ^ (64 * n) * t := by rw [e]; omega
  have hp : 0 < 2 ^ (64 * n) := Nat.two_pow_pos _
  have hd : v.toNat / 2 ^ (64 * n) = t := by
    rw [hv, Nat.add_mul_div_left _ _ hp, Nat.div_eq_of_lt (by omega)]; omega
  unfold blen
  rw [Go.bitLen_shift v.toNat (64 * n) (by rw [hd]; omega), hd]
  simp
/-- The bits of a number told by its words. -/
theorem blen_words {ts : List Int} (hw : Words ts) (hn : Norm ts) (h : ts ≠ []) : blen (val ts) = 64 * (ts.length - 1) + blen (ts[ts.length - 1]?.getD 0) := by
  have hl : ts.length - 1 < ts.length := by have := List.length_pos_iff.2 h; omega
  have e := val_take_succ ts (ts.length - 1) hl
  rw [show ts.length - 1 + 1 = ts.length by omega, List.take_length] at e
  have a := val_nonneg (hw.take (ts.length - 1))
  have b := val_lt (hw.take (ts.length - 1))
  rw [List.length_take, Nat.min_eq_left (by omega)] at b
  have c := hw.getD (ts.length - 1)
  have d := hn.resolve_left h
  exact blen_top ⟨a, b⟩ (by omega) e
theorem blen_le (x : Int) (h0 : 0 ≤ x) (h1 : x < 18446744073709551616) : blen x ≤ 64 := by
  unfold blen Go.bitLen
  split
  · omega
  · rename_i h
    have := (Nat.log2_lt h).2 (show x.toNat < 2 ^ 64 by omega)
    omega
end Go.Proofs.YtejocefblpkdjabGreat
