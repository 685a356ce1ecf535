/-
  Joined: Small RefB.
-/
import Derived.Test.YtejocefblpkdjabGreatSeg
import Derived.Shelf.Spec.BitsCarry
namespace Go.Proofs.YtejocefblpkdjabGreat
open Go.RowKit
set_option maxHeartbeats 400000 in
theorem digit_at (a : Option Addr) (len cap i : Nat) (d : Int) (w : World) (h : i < len → ∃ b off, a = some ⟨b, off, none⟩ ∧ w.cell? ⟨b, off + i, none⟩ = some (.int .u64 d)) (h' : len ≤ i → d = 0) :
    Calls Tryz.prog 65 #[.slice a len cap, .int .i64 i] w fun e w' => e = .returned (.int .u64 d) ∧ w' = w := by
  by_cases hlt : i < len
  · obtain ⟨b, off, rfl, hc⟩ := h hlt
    go_enter Tryz.func65, Tryz.ntmps65
    go_wp2
    go_ret
    exact ⟨rfl, rfl⟩
  · obtain rfl := h' (by omega)
    go_enter Tryz.func65, Tryz.ntmps65
    go_wp2
    go_ret
    exact ⟨rfl, rfl⟩
theorem Seg.at {lo : Nat} {W : World} {a : Option Addr} {len cap : Nat} {zs : List Int} (h : Seg lo W (.slice a len cap) zs) (i : Nat) :
    len = zs.length ∧ (i < len → ∃ b off, a = some ⟨b, off, none⟩ ∧ W.cell? ⟨b, off + i, none⟩ = some (.int .u64 (zs[i]?.getD 0))) ∧ (len ≤ i → zs[i]?.getD 0 = 0) := by
  obtain ⟨hw, a', cap', e, h1, h3⟩ := h
  simp only [Value.slice.injEq] at e
  obtain ⟨rfl, rfl, rfl⟩ := e
  refine ⟨rfl, fun hi => ?_, fun hi => by rw [List.getElem?_eq_none hi]; rfl⟩
  obtain ⟨b, off, e1, _, _, e4, _⟩ := h3 (by intro e; rw [e] at hi; simp at hi)
  exact ⟨b, off, e1, e4 i hi⟩
theorem digit_any {lo : Nat} {W : World} {a : Option Addr} {len cap : Nat} {zs : List Int} (h : Seg lo W (.slice a len cap) zs) (i : Nat) :
    Calls Tryz.prog 65 #[.slice a len cap, .int .i64 i] W fun e w' => e = .returned (.int .u64 (zs[i]?.getD 0)) ∧ w' = W :=
  digit_at a len cap i _ W (h.at i).2.1 (h.at i).2.2
def cmpI (x y : Int) : Int := if x < y then -1 else if y < x then 1 else 0
theorem cmpI_lt {x y : Int} (h : x < y) : cmpI x y = -1 := by simp [cmpI, h]
theorem cmpI_gt {x y : Int} (h : y < x) : cmpI x y = 1 := by unfold cmpI; rw [if_neg (by omega), if_pos h]
theorem cmpI_eq (x : Int) : cmpI x x = 0 := by simp [cmpI]
set_option maxHeartbeats 400000 in
theorem cmpInt_any (x y : Int) (w : World) : Calls Tryz.prog 54 #[.int .i64 x, .int .i64 y] w fun e w' => e = .returned (.int .i64 (cmpI x y)) ∧ w' = w := by
  have n1 : ∀ z : Int, (z != z) = false := fun z => by simp
  by_cases h1 : x < y
  · rw [cmpI_lt h1]
    go_enter Tryz.func54, Tryz.ntmps54
    go_wp2
    go_ret
    exact ⟨rfl, rfl⟩
  · by_cases h2 : y < x
    · rw [cmpI_gt h2]
      go_enter Tryz.func54, Tryz.ntmps54
      go_wp2
      go_ret
      exact ⟨rfl, rfl⟩
    · obtain rfl : x = y := by omega
      rw [cmpI_eq]
      go_enter Tryz.func54, Tryz.ntmps54
      go_wp2
      go_ret
      exact ⟨rfl, rfl⟩
set_option maxHeartbeats 400000 in
theorem cmpU64_any (x y : Int) (w : World) : Calls Tryz.prog 56 #[.int .u64 x, .int .u64 y] w fun e w' => e = .returned (.int .i64 (cmpI x y)) ∧ w' = w := by
  have n1 : ∀ z : Int, (z != z) = false := fun z => by simp
  by_cases h1 : x < y
  · rw [cmpI_lt h1]
    go_enter Tryz.func56, Tryz.ntmps56
    go_wp2
    go_ret
    exact ⟨rfl, rfl⟩
  · by_cases h2 : y < x
    · rw [cmpI_gt h2]
      go_enter Tryz.func56, Tryz.ntmps56
      go_wp2
      go_ret
      exact ⟨rfl, rfl⟩
    · obtain rfl : x = y := by omega
      rw [cmpI_eq]
      go_enter Tryz.func56, Tryz.ntmps56
      go_wp2
      go_ret
      exact ⟨rfl, rfl⟩
theorem add64 (x y c : Int) (hx : 0 ≤ x) (hy : 0 ≤ y) (hc0 : 0 ≤ c) (hc : c ≤ 1) (w : World) : (callFunc 91 #[.int .u64 x, .int .u64 y, .int .u64 c]).run Tryz.prog w =
    .ok (.value (.tuple #[.int .u64 ((x + y + c) % 18446744073709551616), .int .u64 ((x + y + c) / 18446744073709551616)])) w := by
  rw [run_callFunc_extern Tryz.func91 (by kernel_rfl) (by kernel_rfl) (by kernel_rfl) (e := add64Entry) (by kernel_rfl), run_add64 x y c hx hy hc0 hc]
  rfl
theorem sub64 (x y b : Int) (hx : 0 ≤ x) (hy : 0 ≤ y) (hy' : y < 18446744073709551616) (hb0 : 0 ≤ b) (hb : b ≤ 1) (w : World) : (callFunc 106 #[.int .u64 x, .int .u64 y, .int .u64 b]).run Tryz.prog w =
    .ok (.value (.tuple #[.int .u64 ((x - y - b) % 18446744073709551616), .int .u64 (if x < y + b then 1 else 0)])) w := by
  obtain ⟨x, rfl⟩ := Int.eq_ofNat_of_zero_le hx
  obtain ⟨y, rfl⟩ := Int.eq_ofNat_of_zero_le hy
  obtain ⟨b, rfl⟩ := Int.eq_ofNat_of_zero_le hb0
  have e1 : (((x + 18446744073709551616 - y - b) % 18446744073709551616 : Nat) : Int) = ((x : Int) - y - b) % 18446744073709551616 := by omega
  have e2 : ((if x < y + b then 1 else 0 : Nat) : Int) = if (x : Int) < y + b then 1 else 0 := by split <;> split <;> omega
  rw [← e1, ← e2]
  rw [run_callFunc_extern Tryz.func106 (by kernel_rfl) (by kernel_rfl) (by kernel_rfl) (e := sub64Entry) (by kernel_rfl), run_sub64 x y b (by omega)]
  rfl
set_option maxHeartbeats 400000 in
theorem movable_any (bits : Int) (w : World) : Calls Tryz.prog 95 #[.int .i64 bits] w fun e w' => e = .returned (.bool (decide (0 ≤ bits ∧ bits ≤ 16777216))) ∧ w' = w := by
  by_cases h1 : 0 ≤ bits
  · by_cases h2 : bits ≤ 16777216
    · rw [decide_eq_true ⟨h1, h2⟩]
      go_enter Tryz.func95, Tryz.ntmps95
      go_wp2
      go_ret
      exact ⟨rfl, rfl⟩
    · rw [decide_eq_false (by omega)]
      go_enter Tryz.func95, Tryz.ntmps95
      go_wp2
      go_ret
      exact ⟨rfl, rfl⟩
  · rw [decide_eq_false (by omega)]
    go_enter Tryz.func95, Tryz.ntmps95
    go_wp2
    go_ret
    exact ⟨rfl, rfl⟩
end Go.Proofs.YtejocefblpkdjabGreat
