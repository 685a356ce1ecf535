/-
  The walk of the program's Sub.
-/
import Derived.Test.YtfdlhjnnbhfapaaCmp
import Derived.Test.YtfdlhjnnbhfapaaWiden
import Derived.Deep.RegionWith
import Derived.Deep.LoopGhost
namespace Go.Proofs.Ytfdlhjnnbhfapaa
open Go.RowKit

/-- The borrow, under a name. -/
def bor (x y : Int) : Int := if x < y then 1 else 0
theorem bor_01 (x y : Int) : 0 ≤ bor x y ∧ bor x y ≤ 1 := by unfold bor; split <;> decide
theorem sub64b (x y b : Int) (hx : 0 ≤ x) (hy : 0 ≤ y) (hy' : y < 18446744073709551616) (hb0 : 0 ≤ b) (hb : b ≤ 1) (w : World) : (callFunc 69 #[.int .u64 x, .int .u64 y, .int .u64 b]).run Try.prog w =
    .ok (.value (.tuple #[.int .u64 ((x - y - b) % 18446744073709551616), .int .u64 (bor x (y + b))])) w := sub64 x y b hx hy hy' hb0 hb w
/-- A difference's last borrow comes ahead of its end. -/
theorem sub_room {xs ys ss : List Int} {n m k : Nat} {c : Int} (_hx : Words xs) (_hy : Words ys) (hs : Words ss) (hn : ss.length = n) (hm : ys.length = m) (hmn : m ≤ n) (hk : k ≤ n) (hc : 0 ≤ c) (h : k < m ∨ c ≠ 0) (hle : val ys ≤ val xs)
    (e : val ss - pw k * (c + val (ys.drop k)) = val xs - val ys) : k < n := by
  rcases Nat.lt_or_ge k n with h1 | h1
  · exact h1
  · exfalso
    obtain rfl : k = n := by omega
    have a := val_lt hs
    rw [hn] at a
    have q := pw_pos k
    rw [List.drop_eq_nil_of_le (by omega), val_nil] at e
    have : pw k * 1 ≤ pw k * (c + 0) := Int.mul_le_mul_of_nonneg_left (by omega) (by omega)
    omega

end Go.Proofs.Ytfdlhjnnbhfapaa
