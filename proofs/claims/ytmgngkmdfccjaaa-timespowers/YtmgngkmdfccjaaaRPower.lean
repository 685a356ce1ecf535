/-
  The walk of the document's Power.
-/
import Derived.Test.YtmgngkmdfccjaaaRMulB
import Derived.Test.YtmgngkmdfccjaaaPowerNo
namespace Go.Proofs.Ytmgngkmdfccjaaa
open Go.RowKit

theorem and_i64 (a b : Nat) (ha : a < 9223372036854775808) (hb : b < 9223372036854775808) : bits .and .i64 (a : Int) (b : Int) = ((a &&& b : Nat) : Int) := by
  have h1 : (BitVec.ofInt 64 (a : Int)).toNat = a := by
    rw [BitVec.ofInt_natCast, BitVec.toNat_ofNat]; exact Nat.mod_eq_of_lt (by omega)
  have h2 : (BitVec.ofInt 64 (b : Int)).toNat = b := by
    rw [BitVec.ofInt_natCast, BitVec.toNat_ofNat]; exact Nat.mod_eq_of_lt (by omega)
  have hx : a &&& b < 2 ^ 63 := Nat.and_lt_two_pow _ (by omega)
  show IntKind.i64.wrap ((BitVec.ofInt 64 (a : Int) &&& BitVec.ofInt 64 (b : Int)).toNat : Int) = _
  rw [BitVec.toNat_and, h1, h2, IntKind.wrap_i64]
  omega
theorem and_set (n j : Nat) : (n / 2 ^ j % 2 = 1 → n &&& 2 ^ j = 2 ^ j) ∧ (n / 2 ^ j % 2 ≠ 1 → n &&& 2 ^ j = 0) := by
  have hb : n.testBit j = decide (n / 2 ^ j % 2 = 1) := Nat.testBit_eq_decide_div_mod_eq
  constructor
  · intro h
    rw [decide_eq_true h] at hb
    refine Nat.eq_of_testBit_eq fun i => ?_
    rw [Nat.testBit_and, Nat.testBit_two_pow]
    by_cases e : j = i
    · subst e; simp [hb]
    · simp [e]
  · intro h
    rw [decide_eq_false h] at hb
    refine Nat.eq_of_testBit_eq fun i => ?_
    rw [Nat.testBit_and, Nat.testBit_two_pow, Nat.zero_testBit]
    by_cases e : j = i
    · subst e; simp [hb]
    · simp [e]
/-- Whether a bit is set. -/
theorem and_bit (n j bt : Nat) (hb : bt = 2 ^ j) (hn : n ≤ 65536) (hj : j ≤ 16) : (n / 2 ^ j % 2 = 1 → 0 < bits .and .i64 (n : Int) (bt : Int)) ∧ (n / 2 ^ j % 2 ≠ 1 → ¬ 0 < bits .and .i64 (n : Int) (bt : Int)) := by
  have hp : 2 ^ j ≤ 2 ^ 16 := Nat.pow_le_pow_right (by decide) hj
  have h0 : 0 < 2 ^ j := Nat.two_pow_pos j
  obtain ⟨a, b⟩ := and_set n j
  rw [and_i64 n bt (by omega) (by omega), hb]
  exact ⟨fun h => by rw [a h]; omega, fun h => by rw [b h]; decide⟩
/-- The bit that is looked at in round k. -/
theorem bit_next (k : Nat) : 65536 / 2 ^ k / 2 = 65536 / 2 ^ (k + 1) := by rw [Nat.pow_succ, Nat.div_div_eq_div_mul]
theorem bit_pow {k : Nat} (h : k ≤ 16) : 65536 / 2 ^ k = 2 ^ (16 - k) := by
  rw [show (65536 : Nat) = 2 ^ 16 from rfl, Nat.pow_div h (by decide)]
theorem bit_none : 65536 / 2 ^ 17 = 0 := by decide
theorem half_step (n j : Nat) : n / 2 ^ j = 2 * (n / 2 ^ (j + 1)) + n / 2 ^ j % 2 := by
  rw [Nat.pow_succ, ← Nat.div_div_eq_div_mul]; omega

set_option maxRecDepth 100000 in
set_option maxHeartbeats 2000000 in
/-- The document's Power: the power. -/
theorem rpower_yes {lo : Nat} {a : Option Addr} {cap : Nat} {xs : List Int} {w : World} (ha : Seg lo w (.slice a xs.length cap) xs) (n : Nat) (hn : n ≤ 65536) (hbits : (n : Int) * (blen (val xs) : Int) ≤ 16777216) (hl : xs.length ≤ 2000) (hfit : xs.length * n + 1 ≤ 2000) :
    Calls Try.prog 22 #[.slice a xs.length cap, .int .i64 n] w fun e w' => ∃ (a' : Option Addr) (cap' : Nat) (zs : List Int), e = .returned (.tuple #[.slice a' zs.length cap', .int .i64 0]) ∧ Seg w.heap.size w' (.slice a' zs.length cap') zs ∧ Norm zs ∧ val zs = val xs ^ n ∧ Below w.heap.size w w' := by
  obtain ⟨bl, hbl⟩ : ∃ bl, blen (val xs) = bl := ⟨_, rfl⟩
  have hlen := rlen_any ha (by omega)
  rw [hbl] at hlen hbits
  have hgt : ¬ (16777216 : Int) < (n : Int) * (bl : Int) := by omega
  have hnb : 0 ≤ (n : Int) * (bl : Int) := Int.mul_nonneg (by omega) (by omega)
  have hwr : IntKind.i64.wrap ((n : Int) * (bl : Int)) = (n : Int) * (bl : Int) := by rw [IntKind.wrap_i64]; omega
  have hn0 : ¬ (n : Int) < 0 := by omega
  have hn1 : ¬ (65536 : Int) < (n : Int) := by omega
  have hwx := ha.words
  have HFIT : Hid (∀ q, q ≤ n → xs.length * q + 1 ≤ 2000) := fun q hq => by have := Nat.mul_le_mul_left xs.length hq; omega
  clear hbl hfit
  go_enter Try.func22, Try.ntmps22
  go_wp2_with fail
  refine hlen.mono ?_
  rintro e w1 ⟨rfl, hb1⟩
  clear hlen
  go_wp2_with fail
  refine (rof_any 1 (by decide) w1).mono ?_
  rintro e w2 ⟨a2, k2, os, rfl, hs2, hn2, hv2, hl2, hb2⟩
  have HV2 := hide hv2
  clear hv2
  have hb12 : Below w.heap.size w w2 := hb1.trans (hb2.mono hb1.size)
  go_wp2
  go_loopw [6, 7] (fun out b wr => ∃ (k bt : Nat) (ao : Option Addr) (co : Nat) (zs : List Int), k ≤ 17 ∧ b = .int .i64 bt ∧ Hid (bt = 65536 / 2 ^ k) ∧ bt ≤ 65536 ∧ out = .slice ao zs.length co ∧ Seg w.heap.size wr (.slice ao zs.length co) zs ∧ Norm zs ∧ Hid (val zs = val xs ^ (n / 2 ^ (17 - k))) ∧ Below w.heap.size w wr) (fun _ b _ => (intOf b).toNat)
  case atStart =>
    refine ⟨0, 65536, a2, k2, os, by omega, rfl, rfl, Nat.le_refl _, rfl, hs2.mono hb1.size, hn2, ?_, hb12⟩
    rw [Hid, HV2.out, Nat.div_eq_of_lt (by omega), Int.pow_zero]
  case round =>
    obtain ⟨k, bt, ao, co, zs, hk, rfl, HB, hbt, rfl, hsz, hnz, HVZ, hbr⟩ := hrel
    have hql : n / 2 ^ (17 - k) ≤ n := Nat.div_le_self _ _
    have hzl : zs.length ≤ 2000 := Nat.le_trans (len_of_pow hwx hsz.words hnz HVZ.out) (HFIT.out _ hql)
    by_cases hk17 : k = 17
    · have hb0 : bt = 0 := HB.out.trans (hk17 ▸ bit_none)
      subst hb0
      have HF : Hid (val zs = val xs ^ n) := by rw [Hid, HVZ.out, hk17, Nat.sub_self, Nat.pow_zero, Nat.div_one]
      clear hk17
      go_wp2
      go_ret2
      exact ⟨_, _, zs, rfl, hsz, hnz, HF.out, hbr⟩
    · have hbp : bt = 2 ^ (16 - k) := by rw [HB.out]; exact bit_pow (by omega)
      have hb0 : 0 < bt := by rw [hbp]; exact Nat.two_pow_pos _
      have hbi : (0 : Int) < (bt : Int) := by omega
      obtain ⟨d1, d2⟩ := and_bit n (16 - k) bt hbp hn (by omega)
      have HS := hide (half_step n (16 - k))
      rw [show 16 - k + 1 = 17 - k by omega] at HS
      have HNX : Hid (bt / 2 = 65536 / 2 ^ (k + 1)) := by rw [Hid, HB.out, bit_next]
      have hsq := rmul_any hsz hsz (by omega) (by omega)
      have HK : Hid (17 - (k + 1) = 16 - k) := by rw [Hid]; omega
      have hk16 : k ≤ 16 := by omega
      clear hbp hk17
      by_cases hbit : n / 2 ^ (16 - k) % 2 = 1
      · have hand := d1 hbit
        have HBIT := hide hbit
        clear d1 d2 hbit
        go_wp2_with fail
        refine hsq.mono ?_
        rintro e w3 ⟨a3, c3, ss, rfl, hs3, hn3, hv3, hl3, hb3⟩
        have HV3 := hide hv3
        clear hv3 hsq
        have hmu := rmul_any hs3 ((ha.below hbr).below hb3) (by omega) (by omega)
        go_wp2_with fail
        refine hmu.mono ?_
        rintro e w4 ⟨a4, c4, us, rfl, hs4, hn4, hv4, hl4, hb4⟩
        have HV4 : Hid (val us = val xs ^ (n / 2 ^ (17 - (k + 1)))) := by
          rw [Hid, hv4, HV3.out, HVZ.out, HK.out, HS.out, HBIT.out, ← Int.pow_add, ← Int.pow_succ]
          congr 1; omega
        have hbf : Below w.heap.size w w4 := hbr.trans ((hb3.trans (hb4.mono hb3.size)).mono hbr.size)
        have hs4' := hs4.mono (Nat.le_trans hbr.size hb3.size)
        clear hv4 hmu hs3 hs4
        go_wp2
        go_roundw
        case rel => exact ⟨k + 1, bt / 2, a4, c4, us, by omega, by congr 1, HNX, by omega, rfl, hs4', hn4, HV4, hbf⟩
        case measure => simp [intOf]; omega
      · have hand := d2 hbit
        have HBIT : Hid (n / 2 ^ (16 - k) % 2 = 0) := by rw [Hid]; omega
        clear d1 d2 hbit
        go_wp2_with fail
        refine hsq.mono ?_
        rintro e w3 ⟨a3, c3, ss, rfl, hs3, hn3, hv3, hl3, hb3⟩
        have HV3 : Hid (val ss = val xs ^ (n / 2 ^ (17 - (k + 1)))) := by
          rw [Hid, hv3, HVZ.out, HK.out, HS.out, HBIT.out, ← Int.pow_add]
          congr 1; omega
        clear hv3 hsq
        have hbf : Below w.heap.size w w3 := hbr.trans (hb3.mono hbr.size)
        have hs3' := hs3.mono hbr.size
        clear hs3
        go_wp2
        go_roundw
        case rel => exact ⟨k + 1, bt / 2, a3, c3, ss, by omega, by congr 1, HNX, by omega, rfl, hs3', hn3, HV3, hbf⟩
        case measure => simp [intOf]; omega

set_option maxRecDepth 100000 in
set_option maxHeartbeats 400000 in
/-- The document's Power, n out of its range: 3 (ErrRange). -/
theorem rpower_range (a : Option Addr) (len cap : Nat) (n : Int) (hn : n < 0 ∨ 65536 < n) (w : World) :
    Calls Try.prog 22 #[.slice a len cap, .int .i64 n] w fun e w' => e = .returned (.tuple #[.slice none 0 0, .int .i64 3]) ∧ w' = w := by
  by_cases h0 : n < 0
  · go_enter Try.func22, Try.ntmps22
    go_wp2
    go_ret2
    exact ⟨rfl, rfl⟩
  · have h1 : 65536 < n := by omega
    clear hn
    go_enter Try.func22, Try.ntmps22
    go_wp2
    go_ret2
    exact ⟨rfl, rfl⟩
#print axioms rpower_yes
end Go.Proofs.Ytmgngkmdfccjaaa
