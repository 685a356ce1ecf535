/-
  The walk of math/bits' Div64: two digits by one, by halves of 32 bits.
-/
import Derived.Test.YtejocefblpkdjabGreatJSmall
import Derived.Test.YtejocefblpkdjabGreatShift
import Derived.Test.YtejocefblpkdjabGreatLen
import Derived.Deep.CutRange
import Derived.BigQuiet
namespace Go.Proofs.YtejocefblpkdjabGreat
open Go.RowKit

/-- The numbers of one half's division: what is divided is N * 2^32 + u. -/
structure Half (N u Y y1 y0 : Int) : Prop where
  N0 : 0 ≤ N
  N1 : N < Y
  u0 : 0 ≤ u
  u1 : u < 4294967296
  a0 : 2147483648 ≤ y1
  a1 : y1 < 4294967296
  c0 : 0 ≤ y0
  c1 : y0 < 4294967296
  eq : Y = y1 * 4294967296 + y0
theorem Half.pos {N u Y y1 y0 : Int} (h : Half N u Y y1 y0) : 0 < Y := by have := h.N0; have := h.N1; omega
/-- The quotient. -/
def hq (N u Y : Int) : Int := (N * 4294967296 + u) / Y
theorem Half.mul {N u Y y1 y0 : Int} (h : Half N u Y y1 y0) (q : Int) : q * Y = q * y1 * 4294967296 + q * y0 := by rw [h.eq, Int.mul_add, ← Int.mul_assoc]
theorem Half.nonneg {N u Y y1 y0 : Int} (h : Half N u Y y1 y0) : 0 ≤ hq N u Y := by
  have := h.N0; have := h.u0; have := h.pos
  exact Int.ediv_nonneg (by omega) (by omega)
theorem Half.lt {N u Y y1 y0 : Int} (h : Half N u Y y1 y0) : hq N u Y < 4294967296 := by
  refine Int.ediv_lt_of_lt_mul h.pos ?_
  have := h.N1; have := h.u1
  omega
/-- The first guess. -/
theorem Half.start {N u Y y1 y0 : Int} (h : Half N u Y y1 y0) : hq N u Y ≤ N / y1 ∧ N / y1 ≤ 4294967297 ∧ 0 ≤ N - N / y1 * y1 ∧ N - N / y1 * y1 < 4294967296 ∧ 0 ≤ N / y1 * y1 ∧ N / y1 * y1 ≤ N := by
  have a0 := h.a0; have a1 := h.a1; have n0 := h.N0; have n1 := h.N1; have u0 := h.u0; have u1 := h.u1; have c0 := h.c0; have c1 := h.c1; have e := h.eq
  have d := Int.emod_add_mul_ediv N y1
  have m0 := Int.emod_nonneg N (show y1 ≠ 0 by omega)
  have m1 := Int.emod_lt_of_pos N (show 0 < y1 by omega)
  have q0 : 0 ≤ N / y1 := Int.ediv_nonneg n0 (by omega)
  have e1 : N / y1 * y1 = y1 * (N / y1) := Int.mul_comm _ _
  refine ⟨?_, ?_, by omega, by omega, by rw [e1]; exact Int.mul_nonneg (by omega) q0, by omega⟩
  · refine Int.le_ediv_of_mul_le (by omega) ?_
    have p := h.pos
    have g := Int.ediv_mul_le (N * 4294967296 + u) (show Y ≠ 0 by omega)
    have gm := h.mul (hq N u Y)
    have c := Int.mul_nonneg h.nonneg c0
    unfold hq at gm c ⊢
    rw [gm] at g
    omega
  · have : N / y1 < 4294967298 := by
      refine Int.ediv_lt_of_lt_mul (by omega) ?_
      omega
    omega
/-- The guess is too great. -/
theorem Half.yes {N u Y y1 y0 : Int} (h : Half N u Y y1 y0) {q r : Int} (er : r = N - q * y1) (hc : 4294967296 ≤ q ∨ 4294967296 * r + u < q * y0) : hq N u Y < q := by
  rcases hc with hc | hc
  · have := h.lt; omega
  · refine Int.ediv_lt_of_lt_mul h.pos ?_
    rw [h.mul q]
    omega
/-- It is not. -/
theorem Half.no {N u Y y1 y0 : Int} (h : Half N u Y y1 y0) {q r : Int} (er : r = N - q * y1) (hc : q * y0 ≤ 4294967296 * r + u) : q ≤ hq N u Y := by
  refine Int.le_ediv_of_mul_le h.pos ?_
  rw [h.mul q]
  omega
theorem Half.stop {N u Y y1 y0 : Int} (h : Half N u Y y1 y0) {q r : Int} (hq : q ≤ 4294967296) (hr : 4294967296 ≤ r) : q * y0 ≤ 4294967296 * r + u := by
  have c0 := h.c0; have c1 := h.c1; have u0 := h.u0
  have : q * y0 ≤ 4294967296 * 4294967295 := Int.mul_le_mul hq (by omega) c0 (by omega)
  omega
/-- What is left. -/
theorem Half.rest {N u Y y1 y0 : Int} (h : Half N u Y y1 y0) : 0 ≤ N * 4294967296 + u - hq N u Y * Y ∧ N * 4294967296 + u - hq N u Y * Y < Y := by
  have p := h.pos
  have d := Int.emod_add_mul_ediv (N * 4294967296 + u) Y
  have m0 := Int.emod_nonneg (N * 4294967296 + u) (show Y ≠ 0 by omega)
  have m1 := Int.emod_lt_of_pos (N * 4294967296 + u) p
  have e1 : hq N u Y * Y = Y * ((N * 4294967296 + u) / Y) := Int.mul_comm _ _
  rw [e1]
  omega
theorem ret_two {k : IntKind} {a b c d : Int} (h1 : a = c) (h2 : b = d) : Ending.returned (.tuple #[.int k a, .int k b]) = .returned (.tuple #[.int k c, .int k d]) := by rw [h1, h2]
theorem step_down (q y1 : Int) : (q - 1) * y1 = q * y1 - y1 := by rw [Int.sub_mul, Int.one_mul]

set_option maxHeartbeats 400000 in
theorem lz64_any (x : Int) (w : World) (h0 : 0 ≤ x) (h1 : x < 18446744073709551616) :
    Calls Tryz.prog 94 #[.int .u64 x] w fun e w' => e = .returned (.int .i64 (64 - (blen x : Int))) ∧ w' = w := by
  have hlen := len64_any x w h0 h1
  rw [libLen_eq _ (by omega), show Go.bitLen x.toNat = blen x from rfl] at hlen
  have hle := blen_le x h0 h1
  go_enter Tryz.func94, Tryz.ntmps94
  go_wp2_with fail
  refine hlen.mono ?_
  rintro e w1 ⟨rfl, rfl⟩
  go_wp2
  go_ret
  exact ⟨rfl, rfl⟩

set_option maxRecDepth 100000 in
set_option maxHeartbeats 1000000 in
/-- Div64(0, lo, y). -/
theorem div64_low (lo y : Int) (hl : 0 ≤ lo ∧ lo < 18446744073709551616) (hy : 0 < y ∧ y < 18446744073709551616) (w : World) :
    Calls Tryz.prog 79 #[.int .u64 0, .int .u64 lo, .int .u64 y] w fun e w' => e = .returned (.tuple #[.int .u64 (lo / y), .int .u64 (lo % y)]) ∧ Below w.heap.size w w' := by
  have hyz : (y == 0) = false := beq_eq_false_iff_ne.2 (by omega)
  have hyn : ¬ y = 0 := by omega
  have hy0 : ¬ y ≤ 0 := by omega
  have hq0 : 0 ≤ lo / y := Int.ediv_nonneg hl.1 (by omega)
  have hq1 : lo / y ≤ lo := Int.ediv_le_self y hl.1
  have hm0 := Int.emod_nonneg lo (show y ≠ 0 by omega)
  have hm1 := Int.emod_lt_of_pos lo hy.1
  have ht : lo.tdiv y = lo / y := Int.tdiv_eq_ediv_of_nonneg hl.1
  have hm : lo.tmod y = lo % y := Int.tmod_eq_emod_of_nonneg hl.1
  go_enter Tryz.func79, Tryz.ntmps79
  go_wp2
  go_quiet (fail)
  go_wp2
  go_ret2
  exact ⟨rfl, ⟨rfl, rfl, rfl, Nat.le_refl _, fun _ _ => rfl⟩⟩

theorem and_half (x : Int) (h : 0 ≤ x ∧ x < 18446744073709551616) : bits .and .u64 x 4294967295 = x % 4294967296 := by
  obtain ⟨n, rfl⟩ := Int.eq_ofNat_of_zero_le h.1
  have e := bits_and_u64_nat n 4294967295 (by omega) (by omega)
  rw [show n &&& 4294967295 = n % 4294967296 from Nat.and_two_pow_sub_one_eq_mod n 32] at e
  rw [show ((4294967295 : Nat) : Int) = 4294967295 from rfl] at e
  rw [e]; omega
theorem or_turn (x y : Int) (hx : 0 ≤ x ∧ x < 18446744073709551616) (hy : 0 ≤ y ∧ y < 18446744073709551616) : bits .or .u64 x y = bits .or .u64 y x := by
  obtain ⟨n, rfl⟩ := Int.eq_ofNat_of_zero_le hx.1
  obtain ⟨m, rfl⟩ := Int.eq_ofNat_of_zero_le hy.1
  rw [bits_or_u64_nat n m (by omega) (by omega), bits_or_u64_nat m n (by omega) (by omega), Nat.or_comm]
theorem blen_two (y : Int) (h0 : 0 < y) : 2 ^ (blen y - 1) ≤ y ∧ y < 2 ^ blen y ∧ 1 ≤ blen y := by
  obtain ⟨n, rfl⟩ := Int.eq_ofNat_of_zero_le (Int.le_of_lt h0)
  have hb : blen n = n.log2 + 1 := by
    unfold blen Go.bitLen
    rw [Int.toNat_natCast, if_neg (by omega)]
  have a := Nat.log2_self_le (n := n) (by omega)
  have b := Nat.lt_log2_self (n := n)
  rw [hb, Nat.add_sub_cancel]
  have e1 : ((2 : Int) ^ n.log2) = ((2 ^ n.log2 : Nat) : Int) := by simp
  have e2 : ((2 : Int) ^ (n.log2 + 1)) = ((2 ^ (n.log2 + 1) : Nat) : Int) := by simp
  rw [e1, e2]
  omega
/-- The divisor, moved up so that its highest bit is 1, and what is divided, moved up with it. -/
theorem moved_up {hi lo y : Int} {s : Nat} (hh : 0 ≤ hi ∧ hi < y) (hl : 0 ≤ lo ∧ lo < 18446744073709551616) (hs : blen y + s = 64) :
    s ≤ 63 ∧ (9223372036854775808 ≤ y * 2 ^ s ∧ y * 2 ^ s < 18446744073709551616) ∧ (0 ≤ lo / 2 ^ (64 - s) ∧ lo / 2 ^ (64 - s) < 2 ^ s) ∧ (0 ≤ hi * 2 ^ s ∧ hi * 2 ^ s + lo / 2 ^ (64 - s) < y * 2 ^ s) ∧
      (hi * 18446744073709551616 + lo) * 2 ^ s = (hi * 2 ^ s + lo / 2 ^ (64 - s)) * 18446744073709551616 + lo * 2 ^ s % 18446744073709551616 := by
  obtain ⟨b1, b2, b3⟩ := blen_two y (by omega)
  obtain ⟨e1, e2, _, _, _⟩ := shl_parts lo s (by omega) hl.1
  obtain ⟨w0, w1⟩ := shr_word lo s (by omega) hl
  have p := two_pos s
  have c1 : 2 ^ (blen y - 1) * 2 ^ s ≤ y * 2 ^ s := Int.mul_le_mul_of_nonneg_right b1 (by omega)
  have c2 : y * 2 ^ s < 2 ^ blen y * 2 ^ s := Int.mul_lt_mul_of_pos_right b2 p
  rw [← Int.pow_add, show blen y - 1 + s = 63 by omega] at c1
  rw [← Int.pow_add, hs] at c2
  have c3 : (hi + 1) * 2 ^ s ≤ y * 2 ^ s := Int.mul_le_mul_of_nonneg_right (by omega) (by omega)
  rw [Int.add_mul, Int.one_mul] at c3
  have c4 : 0 ≤ hi * 2 ^ s := Int.mul_nonneg hh.1 (by omega)
  have d := Int.emod_add_mul_ediv (lo * 2 ^ s) 18446744073709551616
  rw [e2] at d
  refine ⟨by omega, ⟨c1, c2⟩, ⟨w0, w1⟩, ⟨c4, by omega⟩, ?_⟩
  rw [Int.add_mul, Int.mul_right_comm hi, Int.add_mul]
  omega
/-- What the two halves' quotients come to. -/
theorem halves_quot {hi lo y Y N n10 u1 u0 P q1 q0 r1 : Int} (hp : 0 < P) (eY : Y = y * P) (eU : (hi * 18446744073709551616 + lo) * P = N * 18446744073709551616 + n10) (e10 : n10 = u1 * 4294967296 + u0) (e1 : r1 = N * 4294967296 + u1 - q1 * Y) (h0 : 0 ≤ r1 * 4294967296 + u0 - q0 * Y) (h1 : r1 * 4294967296 + u0 - q0 * Y < Y) (hy : 0 < y) :
    q1 * 4294967296 + q0 = (hi * 18446744073709551616 + lo) / y ∧ (r1 * 4294967296 + u0 - q0 * Y) / P = (hi * 18446744073709551616 + lo) % y := by
  have e2 : r1 * 4294967296 + u0 - q0 * Y = P * ((hi * 18446744073709551616 + lo) - (q1 * 4294967296 + q0) * y) := by
    rw [Int.mul_sub, Int.mul_comm P, eU, e10, e1, eY, Int.add_mul (q1 * 4294967296), Int.mul_add P, Int.sub_mul]
    have a : P * (q1 * 4294967296 * y) = q1 * (y * P) * 4294967296 := by ac_rfl
    have b : P * (q0 * y) = q0 * (y * P) := by ac_rfl
    rw [a, b]
    omega
  rw [e2] at h0 h1 ⊢
  rw [Int.mul_ediv_cancel_left _ (by omega)]
  rw [eY, Int.mul_comm y P] at h1
  have h1' : (hi * 18446744073709551616 + lo) - (q1 * 4294967296 + q0) * y < y := Int.lt_of_mul_lt_mul_left h1 (by omega)
  have h0' : 0 ≤ (hi * 18446744073709551616 + lo) - (q1 * 4294967296 + q0) * y := Classical.byContradiction fun h => by
    have : P * ((hi * 18446744073709551616 + lo) - (q1 * 4294967296 + q0) * y + 1) ≤ P * 0 := Int.mul_le_mul_of_nonneg_left (by omega) (by omega)
    rw [Int.mul_add] at this
    omega
  have := (Int.ediv_emod_unique (a := hi * 18446744073709551616 + lo) (b := y) (q := q1 * 4294967296 + q0) (r := (hi * 18446744073709551616 + lo) - (q1 * 4294967296 + q0) * y) hy).2 ⟨by rw [Int.mul_comm y]; omega, h0', h1'⟩
  exact ⟨this.1.symm, this.2.symm⟩

set_option maxRecDepth 100000 in
set_option maxHeartbeats 4000000 in
/-- Div64(hi, lo, y), hi not 0. -/
theorem div64_high (hi lo y : Int) (hh : 0 < hi ∧ hi < y) (hl : 0 ≤ lo ∧ lo < 18446744073709551616) (hy : y < 18446744073709551616) (w : World) :
    Calls Tryz.prog 79 #[.int .u64 hi, .int .u64 lo, .int .u64 y] w fun e w' => e = .returned (.tuple #[.int .u64 ((hi * 18446744073709551616 + lo) / y), .int .u64 ((hi * 18446744073709551616 + lo) % y)]) ∧ w' = w := by
  have hb := blen_le y (by omega) hy
  obtain ⟨s, hs⟩ : ∃ s, blen y + s = 64 := ⟨64 - blen y, by omega⟩
  obtain ⟨hs63, hY, hlo, hhi, eU⟩ := moved_up ⟨by omega, hh.2⟩ hl hs
  have hlz := lz64_any y w (by omega) hy
  rw [show (64 - (blen y : Int)) = (s : Int) by omega] at hlz
  have hor : bits .or .u64 (IntKind.u64.wrap (hi * 2 ^ s)) (lo / 2 ^ (64 - s)) = hi * 2 ^ s + lo / 2 ^ (64 - s) := by
    have up := (up_low hi (lo / 2 ^ (64 - s)) s (by omega) (by omega) hlo.1 hlo.2).1
    have t2 := two_le s (by omega)
    rw [or_turn _ _ (by rw [IntKind.wrap_u64]; omega) ⟨hlo.1, by omega⟩, up, Int.emod_eq_of_lt hhi.1 (by omega)]
    omega
  have hwY : IntKind.u64.wrap (y * 2 ^ s) = y * 2 ^ s := by rw [IntKind.wrap_u64]; omega
  have hw10 : IntKind.u64.wrap (lo * 2 ^ s) = lo * 2 ^ s % 18446744073709551616 := IntKind.wrap_u64 _
  have HP := hide (two_pos s)
  have HEU := hide eU
  obtain ⟨Y, eY⟩ : ∃ Y, y * 2 ^ s = Y := ⟨_, rfl⟩
  obtain ⟨N, eN⟩ : ∃ N, hi * 2 ^ s + lo / 2 ^ (64 - s) = N := ⟨_, rfl⟩
  obtain ⟨n10, e10⟩ : ∃ n10, lo * 2 ^ s % 18446744073709551616 = n10 := ⟨_, rfl⟩
  have h10 : 0 ≤ n10 ∧ n10 < 18446744073709551616 := by omega
  rw [eY] at hwY hY hhi
  rw [eN] at hor hhi HEU
  rw [e10] at hw10 HEU
  have hN0 : 0 ≤ N := by omega
  have hyb := and_half Y (by omega)
  have hub := and_half n10 h10
  obtain ⟨y1, ey1⟩ : ∃ y1, Y / 4294967296 = y1 := ⟨_, rfl⟩
  obtain ⟨y0, ey0⟩ : ∃ y0, Y % 4294967296 = y0 := ⟨_, rfl⟩
  obtain ⟨u1, eu1⟩ : ∃ u1, n10 / 4294967296 = u1 := ⟨_, rfl⟩
  obtain ⟨u0, eu0⟩ : ∃ u0, n10 % 4294967296 = u0 := ⟨_, rfl⟩
  rw [ey0] at hyb
  rw [eu0] at hub
  have H1 : Half N u1 Y y1 y0 := ⟨hN0, hhi.2, by omega, by omega, by omega, by omega, by omega, by omega, by omega⟩
  have HE : Hid (Y = y * 2 ^ s ∧ n10 = u1 * 4294967296 + u0 ∧ 0 ≤ u0 ∧ u0 < 4294967296) := ⟨eY.symm, by omega, by omega, by omega⟩
  have hyz : (y == 0) = false := beq_eq_false_iff_ne.2 (by omega)
  have hhz : (hi == 0) = false := beq_eq_false_iff_ne.2 (by omega)
  have hyh : ¬ y ≤ hi := by omega
  have hyn : ¬ y1 = 0 := by have := H1.a0; omega
  obtain ⟨g0, g1, g2, g3, g4, g5⟩ := H1.start
  have htd : N.tdiv y1 = N / y1 := Int.tdiv_eq_ediv_of_nonneg hN0
  obtain ⟨G, eG⟩ : ∃ G, N / y1 = G := ⟨_, rfl⟩
  rw [eG] at htd g0 g1 g2 g3 g4 g5
  have hYB := hY.2
  have hNB : N < 18446744073709551616 := by omega
  have HR : Hid (N - G * y1 = N - G * y1) := rfl
  have hGP : IntKind.u64.wrap (G * y1) = G * y1 := by rw [IntKind.wrap_u64]; omega
  have hRW : IntKind.u64.wrap (N - G * y1) = N - G * y1 := by rw [IntKind.wrap_u64]; omega
  have hG0 : 0 ≤ G := by have := H1.nonneg; omega
  clear eU eN e10 hb hs HR
  go_enter Tryz.func79, Tryz.ntmps79
  go_wp2_with (go_at_call 94; refine hlz.mono ?_; rintro e w1 ⟨rfl, rfl⟩)
  -- the loops
  go_loopw [15, 16] (fun qv rv wr => ∃ (qh rh : Int), qv = .int .u64 qh ∧ rv = .int .u64 rh ∧ (hq N u1 Y ≤ qh ∧ qh ≤ 4294967297) ∧ (0 ≤ rh ∧ rh < 4294967296) ∧ Hid (rh = N - qh * y1) ∧ wr = w1) (fun qv _ _ => (intOf qv).toNat)
  case atStart => exact ⟨_, _, rfl, rfl, ⟨g0, g1⟩, ⟨g2, g3⟩, rfl, rfl⟩
  case round =>
    obtain ⟨qh, rh, rfl, rfl, hqh, hrh, HRH, rfl⟩ := hrel
    by_cases hge : 4294967296 ≤ qh
    ·
      have hlt := H1.yes HRH.out (.inl hge)
      have hnn := H1.nonneg
      have ha := H1.a0
      have ha1 := H1.a1
      have HD : Hid (rh + y1 = N - (qh - 1) * y1) := by have := HRH.out; rw [Hid, step_down]; omega
      by_cases hbk : 4294967296 ≤ rh + y1
      · have hle := H1.no HD.out (H1.stop (by omega) hbk)
        obtain ⟨Q1, eQ1⟩ : ∃ Q1, qh - 1 = Q1 := ⟨_, rfl⟩
        have HQ1 : Hid (Q1 = hq N u1 Y) := by rw [Hid]; omega
        have hQ10 : 0 ≤ Q1 := by omega
        clear hle hlt hnn HD HRH
        have n1 := H1.nonneg
        have n1b := H1.lt
        have r1 := H1.rest
        rw [← HQ1.out] at n1 n1b r1
        obtain ⟨R1, eR1⟩ : ∃ R1, N * 4294967296 + u1 - Q1 * Y = R1 := ⟨_, rfl⟩
        have hun : IntKind.u64.wrap (IntKind.u64.wrap (IntKind.u64.wrap (N * 4294967296) + u1) - IntKind.u64.wrap (Q1 * Y)) = R1 := by
          rw [IntKind.wrap_u64, IntKind.wrap_u64, IntKind.wrap_u64, IntKind.wrap_u64, ← eR1]; omega
        rw [eR1] at r1
        have HR1 := hide eR1
        have H2 : Half R1 u0 Y y1 y0 := ⟨r1.1, r1.2, HE.out.2.2.1, HE.out.2.2.2, H1.a0, H1.a1, H1.c0, H1.c1, H1.eq⟩
        obtain ⟨k0, k1, k2, k3, k4, k5⟩ := H2.start
        have htd2 : R1.tdiv y1 = R1 / y1 := Int.tdiv_eq_ediv_of_nonneg r1.1
        obtain ⟨F, eF⟩ : ∃ F, R1 / y1 = F := ⟨_, rfl⟩
        rw [eF] at htd2 k0 k1 k2 k3 k4 k5
        have hFP : IntKind.u64.wrap (F * y1) = F * y1 := by rw [IntKind.wrap_u64]; omega
        have hFW : IntKind.u64.wrap (R1 - F * y1) = R1 - F * y1 := by rw [IntKind.wrap_u64]; omega
        have hF0 : 0 ≤ F := by have := H2.nonneg; omega
        have hR1B : R1 < 18446744073709551616 := by omega
        clear eR1
        go_wp2
        go_loopw [18, 16] (fun qv rv wq => ∃ (qh rh : Int), qv = .int .u64 qh ∧ rv = .int .u64 rh ∧ (hq R1 u0 Y ≤ qh ∧ qh ≤ 4294967297) ∧ (0 ≤ rh ∧ rh < 4294967296) ∧ Hid (rh = R1 - qh * y1) ∧ wq = wr) (fun qv _ _ => (intOf qv).toNat)
        case atStart => exact ⟨_, _, rfl, rfl, ⟨k0, k1⟩, ⟨k2, k3⟩, rfl, rfl⟩
        case round =>
          obtain ⟨qh, rh, rfl, rfl, hqh, hrh, HRH, rfl⟩ := hrel
          by_cases hge : 4294967296 ≤ qh
          ·
            have hlt := H2.yes HRH.out (.inl hge)
            have hnn := H2.nonneg
            have ha := H2.a0
            have ha1 := H2.a1
            have HD : Hid (rh + y1 = R1 - (qh - 1) * y1) := by have := HRH.out; rw [Hid, step_down]; omega
            by_cases hbk : 4294967296 ≤ rh + y1
            · have hle := H2.no HD.out (H2.stop (by omega) hbk)
              obtain ⟨Q0, eQ0⟩ : ∃ Q0, qh - 1 = Q0 := ⟨_, rfl⟩
              have HQ0 : Hid (Q0 = hq R1 u0 Y) := by rw [Hid]; omega
              have hQ00 : 0 ≤ Q0 := by omega
              clear hle hlt hnn HD HRH
              have hq0b := HQ0.out
              have n2 := H2.nonneg
              have n2b := H2.lt
              have r2 := H2.rest
              rw [← hq0b] at n2 n2b r2
              have hun2 : IntKind.u64.wrap (IntKind.u64.wrap (IntKind.u64.wrap (R1 * 4294967296) + u0) - IntKind.u64.wrap (Q0 * Y)) = R1 * 4294967296 + u0 - Q0 * Y := by
                rw [IntKind.wrap_u64, IntKind.wrap_u64, IntKind.wrap_u64, IntKind.wrap_u64]; omega
              have FIN := hide (halves_quot HP.out HE.out.1 HEU.out HE.out.2.1 HR1.out.symm r2.1 r2.2 (show 0 < y by omega))
              clear hq0b r2
              go_wp2
              go_ret2
              exact ⟨ret_two FIN.out.1 FIN.out.2, rfl⟩
            · have hnb : ¬ 4294967296 ≤ rh + y1 := hbk
              clear hbk
              go_wp2
              exact ⟨⟨qh - 1, rh + y1, rfl, rfl, by omega, by omega, HD, by first | rfl | trivial⟩, by simp [intOf]; omega⟩
          · by_cases hgt : 4294967296 * rh + u0 < qh * y0
            ·
              have hm0 : 0 ≤ qh * y0 := Int.mul_nonneg (by have := H2.nonneg; omega) H2.c0
              have hm1 : qh * y0 ≤ 4294967295 * 4294967295 := Int.mul_le_mul (by omega) (by have := H2.c1; omega) H2.c0 (by omega)
              have hu0' := H2.u0
              have hu1' := H2.u1
              have hngq : ¬ 4294967296 ≤ qh := by omega
              have hlt := H2.yes HRH.out (.inr hgt)
              have hnn := H2.nonneg
              have ha := H2.a0
              have ha1 := H2.a1
              have HD : Hid (rh + y1 = R1 - (qh - 1) * y1) := by have := HRH.out; rw [Hid, step_down]; omega
              by_cases hbk : 4294967296 ≤ rh + y1
              · have hle := H2.no HD.out (H2.stop (by omega) hbk)
                obtain ⟨Q0, eQ0⟩ : ∃ Q0, qh - 1 = Q0 := ⟨_, rfl⟩
                have HQ0 : Hid (Q0 = hq R1 u0 Y) := by rw [Hid]; omega
                have hQ00 : 0 ≤ Q0 := by omega
                clear hle hlt hnn HD HRH
                have hq0b := HQ0.out
                have n2 := H2.nonneg
                have n2b := H2.lt
                have r2 := H2.rest
                rw [← hq0b] at n2 n2b r2
                have hun2 : IntKind.u64.wrap (IntKind.u64.wrap (IntKind.u64.wrap (R1 * 4294967296) + u0) - IntKind.u64.wrap (Q0 * Y)) = R1 * 4294967296 + u0 - Q0 * Y := by
                  rw [IntKind.wrap_u64, IntKind.wrap_u64, IntKind.wrap_u64, IntKind.wrap_u64]; omega
                have FIN := hide (halves_quot HP.out HE.out.1 HEU.out HE.out.2.1 HR1.out.symm r2.1 r2.2 (show 0 < y by omega))
                clear hq0b r2
                go_wp2
                go_ret2
                exact ⟨ret_two FIN.out.1 FIN.out.2, rfl⟩
              · have hnb : ¬ 4294967296 ≤ rh + y1 := hbk
                clear hbk
                go_wp2
                exact ⟨⟨qh - 1, rh + y1, rfl, rfl, by omega, by omega, HD, by first | rfl | trivial⟩, by simp [intOf]; omega⟩
            ·
              have hm0 : 0 ≤ qh * y0 := Int.mul_nonneg (by have := H2.nonneg; omega) H2.c0
              have hm1 : qh * y0 ≤ 4294967295 * 4294967295 := Int.mul_le_mul (by omega) (by have := H2.c1; omega) H2.c0 (by omega)
              have hu0' := H2.u0
              have hu1' := H2.u1
              have hngq : ¬ 4294967296 ≤ qh := by omega
              have hle := H2.no HRH.out (by omega)
              obtain ⟨Q0, eQ0⟩ : ∃ Q0, Q0 = qh := ⟨_, rfl⟩
              subst eQ0
              have HQ0 : Hid (Q0 = hq R1 u0 Y) := by rw [Hid]; omega
              have hQ00 : 0 ≤ Q0 := by have := H2.nonneg; omega
              clear hle HRH
              have hq0b := HQ0.out
              have n2 := H2.nonneg
              have n2b := H2.lt
              have r2 := H2.rest
              rw [← hq0b] at n2 n2b r2
              have hun2 : IntKind.u64.wrap (IntKind.u64.wrap (IntKind.u64.wrap (R1 * 4294967296) + u0) - IntKind.u64.wrap (Q0 * Y)) = R1 * 4294967296 + u0 - Q0 * Y := by
                rw [IntKind.wrap_u64, IntKind.wrap_u64, IntKind.wrap_u64, IntKind.wrap_u64]; omega
              have FIN := hide (halves_quot HP.out HE.out.1 HEU.out HE.out.2.1 HR1.out.symm r2.1 r2.2 (show 0 < y by omega))
              clear hq0b r2
              go_wp2
              go_ret2
              exact ⟨ret_two FIN.out.1 FIN.out.2, rfl⟩
      · have hnb : ¬ 4294967296 ≤ rh + y1 := hbk
        clear hbk
        go_wp2
        exact ⟨⟨qh - 1, rh + y1, rfl, rfl, by omega, by omega, HD, by first | rfl | trivial⟩, by simp [intOf]; omega⟩
    · by_cases hgt : 4294967296 * rh + u1 < qh * y0
      ·
        have hm0 : 0 ≤ qh * y0 := Int.mul_nonneg (by have := H1.nonneg; omega) H1.c0
        have hm1 : qh * y0 ≤ 4294967295 * 4294967295 := Int.mul_le_mul (by omega) (by have := H1.c1; omega) H1.c0 (by omega)
        have hu0' := H1.u0
        have hu1' := H1.u1
        have hngq : ¬ 4294967296 ≤ qh := by omega
        have hlt := H1.yes HRH.out (.inr hgt)
        have hnn := H1.nonneg
        have ha := H1.a0
        have ha1 := H1.a1
        have HD : Hid (rh + y1 = N - (qh - 1) * y1) := by have := HRH.out; rw [Hid, step_down]; omega
        by_cases hbk : 4294967296 ≤ rh + y1
        · have hle := H1.no HD.out (H1.stop (by omega) hbk)
          obtain ⟨Q1, eQ1⟩ : ∃ Q1, qh - 1 = Q1 := ⟨_, rfl⟩
          have HQ1 : Hid (Q1 = hq N u1 Y) := by rw [Hid]; omega
          have hQ10 : 0 ≤ Q1 := by omega
          clear hle hlt hnn HD HRH
          have n1 := H1.nonneg
          have n1b := H1.lt
          have r1 := H1.rest
          rw [← HQ1.out] at n1 n1b r1
          obtain ⟨R1, eR1⟩ : ∃ R1, N * 4294967296 + u1 - Q1 * Y = R1 := ⟨_, rfl⟩
          have hun : IntKind.u64.wrap (IntKind.u64.wrap (IntKind.u64.wrap (N * 4294967296) + u1) - IntKind.u64.wrap (Q1 * Y)) = R1 := by
            rw [IntKind.wrap_u64, IntKind.wrap_u64, IntKind.wrap_u64, IntKind.wrap_u64, ← eR1]; omega
          rw [eR1] at r1
          have HR1 := hide eR1
          have H2 : Half R1 u0 Y y1 y0 := ⟨r1.1, r1.2, HE.out.2.2.1, HE.out.2.2.2, H1.a0, H1.a1, H1.c0, H1.c1, H1.eq⟩
          obtain ⟨k0, k1, k2, k3, k4, k5⟩ := H2.start
          have htd2 : R1.tdiv y1 = R1 / y1 := Int.tdiv_eq_ediv_of_nonneg r1.1
          obtain ⟨F, eF⟩ : ∃ F, R1 / y1 = F := ⟨_, rfl⟩
          rw [eF] at htd2 k0 k1 k2 k3 k4 k5
          have hFP : IntKind.u64.wrap (F * y1) = F * y1 := by rw [IntKind.wrap_u64]; omega
          have hFW : IntKind.u64.wrap (R1 - F * y1) = R1 - F * y1 := by rw [IntKind.wrap_u64]; omega
          have hF0 : 0 ≤ F := by have := H2.nonneg; omega
          have hR1B : R1 < 18446744073709551616 := by omega
          clear eR1
          go_wp2
          go_loopw [18, 16] (fun qv rv wq => ∃ (qh rh : Int), qv = .int .u64 qh ∧ rv = .int .u64 rh ∧ (hq R1 u0 Y ≤ qh ∧ qh ≤ 4294967297) ∧ (0 ≤ rh ∧ rh < 4294967296) ∧ Hid (rh = R1 - qh * y1) ∧ wq = wr) (fun qv _ _ => (intOf qv).toNat)
          case atStart => exact ⟨_, _, rfl, rfl, ⟨k0, k1⟩, ⟨k2, k3⟩, rfl, rfl⟩
          case round =>
            obtain ⟨qh, rh, rfl, rfl, hqh, hrh, HRH, rfl⟩ := hrel
            by_cases hge : 4294967296 ≤ qh
            ·
              have hlt := H2.yes HRH.out (.inl hge)
              have hnn := H2.nonneg
              have ha := H2.a0
              have ha1 := H2.a1
              have HD : Hid (rh + y1 = R1 - (qh - 1) * y1) := by have := HRH.out; rw [Hid, step_down]; omega
              by_cases hbk : 4294967296 ≤ rh + y1
              · have hle := H2.no HD.out (H2.stop (by omega) hbk)
                obtain ⟨Q0, eQ0⟩ : ∃ Q0, qh - 1 = Q0 := ⟨_, rfl⟩
                have HQ0 : Hid (Q0 = hq R1 u0 Y) := by rw [Hid]; omega
                have hQ00 : 0 ≤ Q0 := by omega
                clear hle hlt hnn HD HRH
                have hq0b := HQ0.out
                have n2 := H2.nonneg
                have n2b := H2.lt
                have r2 := H2.rest
                rw [← hq0b] at n2 n2b r2
                have hun2 : IntKind.u64.wrap (IntKind.u64.wrap (IntKind.u64.wrap (R1 * 4294967296) + u0) - IntKind.u64.wrap (Q0 * Y)) = R1 * 4294967296 + u0 - Q0 * Y := by
                  rw [IntKind.wrap_u64, IntKind.wrap_u64, IntKind.wrap_u64, IntKind.wrap_u64]; omega
                have FIN := hide (halves_quot HP.out HE.out.1 HEU.out HE.out.2.1 HR1.out.symm r2.1 r2.2 (show 0 < y by omega))
                clear hq0b r2
                go_wp2
                go_ret2
                exact ⟨ret_two FIN.out.1 FIN.out.2, rfl⟩
              · have hnb : ¬ 4294967296 ≤ rh + y1 := hbk
                clear hbk
                go_wp2
                exact ⟨⟨qh - 1, rh + y1, rfl, rfl, by omega, by omega, HD, by first | rfl | trivial⟩, by simp [intOf]; omega⟩
            · by_cases hgt : 4294967296 * rh + u0 < qh * y0
              ·
                have hm0 : 0 ≤ qh * y0 := Int.mul_nonneg (by have := H2.nonneg; omega) H2.c0
                have hm1 : qh * y0 ≤ 4294967295 * 4294967295 := Int.mul_le_mul (by omega) (by have := H2.c1; omega) H2.c0 (by omega)
                have hu0' := H2.u0
                have hu1' := H2.u1
                have hngq : ¬ 4294967296 ≤ qh := by omega
                have hlt := H2.yes HRH.out (.inr hgt)
                have hnn := H2.nonneg
                have ha := H2.a0
                have ha1 := H2.a1
                have HD : Hid (rh + y1 = R1 - (qh - 1) * y1) := by have := HRH.out; rw [Hid, step_down]; omega
                by_cases hbk : 4294967296 ≤ rh + y1
                · have hle := H2.no HD.out (H2.stop (by omega) hbk)
                  obtain ⟨Q0, eQ0⟩ : ∃ Q0, qh - 1 = Q0 := ⟨_, rfl⟩
                  have HQ0 : Hid (Q0 = hq R1 u0 Y) := by rw [Hid]; omega
                  have hQ00 : 0 ≤ Q0 := by omega
                  clear hle hlt hnn HD HRH
                  have hq0b := HQ0.out
                  have n2 := H2.nonneg
                  have n2b := H2.lt
                  have r2 := H2.rest
                  rw [← hq0b] at n2 n2b r2
                  have hun2 : IntKind.u64.wrap (IntKind.u64.wrap (IntKind.u64.wrap (R1 * 4294967296) + u0) - IntKind.u64.wrap (Q0 * Y)) = R1 * 4294967296 + u0 - Q0 * Y := by
                    rw [IntKind.wrap_u64, IntKind.wrap_u64, IntKind.wrap_u64, IntKind.wrap_u64]; omega
                  have FIN := hide (halves_quot HP.out HE.out.1 HEU.out HE.out.2.1 HR1.out.symm r2.1 r2.2 (show 0 < y by omega))
                  clear hq0b r2
                  go_wp2
                  go_ret2
                  exact ⟨ret_two FIN.out.1 FIN.out.2, rfl⟩
                · have hnb : ¬ 4294967296 ≤ rh + y1 := hbk
                  clear hbk
                  go_wp2
                  exact ⟨⟨qh - 1, rh + y1, rfl, rfl, by omega, by omega, HD, by first | rfl | trivial⟩, by simp [intOf]; omega⟩
              ·
                have hm0 : 0 ≤ qh * y0 := Int.mul_nonneg (by have := H2.nonneg; omega) H2.c0
                have hm1 : qh * y0 ≤ 4294967295 * 4294967295 := Int.mul_le_mul (by omega) (by have := H2.c1; omega) H2.c0 (by omega)
                have hu0' := H2.u0
                have hu1' := H2.u1
                have hngq : ¬ 4294967296 ≤ qh := by omega
                have hle := H2.no HRH.out (by omega)
                obtain ⟨Q0, eQ0⟩ : ∃ Q0, Q0 = qh := ⟨_, rfl⟩
                subst eQ0
                have HQ0 : Hid (Q0 = hq R1 u0 Y) := by rw [Hid]; omega
                have hQ00 : 0 ≤ Q0 := by have := H2.nonneg; omega
                clear hle HRH
                have hq0b := HQ0.out
                have n2 := H2.nonneg
                have n2b := H2.lt
                have r2 := H2.rest
                rw [← hq0b] at n2 n2b r2
                have hun2 : IntKind.u64.wrap (IntKind.u64.wrap (IntKind.u64.wrap (R1 * 4294967296) + u0) - IntKind.u64.wrap (Q0 * Y)) = R1 * 4294967296 + u0 - Q0 * Y := by
                  rw [IntKind.wrap_u64, IntKind.wrap_u64, IntKind.wrap_u64, IntKind.wrap_u64]; omega
                have FIN := hide (halves_quot HP.out HE.out.1 HEU.out HE.out.2.1 HR1.out.symm r2.1 r2.2 (show 0 < y by omega))
                clear hq0b r2
                go_wp2
                go_ret2
                exact ⟨ret_two FIN.out.1 FIN.out.2, rfl⟩
        · have hnb : ¬ 4294967296 ≤ rh + y1 := hbk
          clear hbk
          go_wp2
          exact ⟨⟨qh - 1, rh + y1, rfl, rfl, by omega, by omega, HD, by first | rfl | trivial⟩, by simp [intOf]; omega⟩
      ·
        have hm0 : 0 ≤ qh * y0 := Int.mul_nonneg (by have := H1.nonneg; omega) H1.c0
        have hm1 : qh * y0 ≤ 4294967295 * 4294967295 := Int.mul_le_mul (by omega) (by have := H1.c1; omega) H1.c0 (by omega)
        have hu0' := H1.u0
        have hu1' := H1.u1
        have hngq : ¬ 4294967296 ≤ qh := by omega
        have hle := H1.no HRH.out (by omega)
        obtain ⟨Q1, eQ1⟩ : ∃ Q1, Q1 = qh := ⟨_, rfl⟩
        subst eQ1
        have HQ1 : Hid (Q1 = hq N u1 Y) := by rw [Hid]; omega
        have hQ10 : 0 ≤ Q1 := by have := H1.nonneg; omega
        clear hle HRH
        have n1 := H1.nonneg
        have n1b := H1.lt
        have r1 := H1.rest
        rw [← HQ1.out] at n1 n1b r1
        obtain ⟨R1, eR1⟩ : ∃ R1, N * 4294967296 + u1 - Q1 * Y = R1 := ⟨_, rfl⟩
        have hun : IntKind.u64.wrap (IntKind.u64.wrap (IntKind.u64.wrap (N * 4294967296) + u1) - IntKind.u64.wrap (Q1 * Y)) = R1 := by
          rw [IntKind.wrap_u64, IntKind.wrap_u64, IntKind.wrap_u64, IntKind.wrap_u64, ← eR1]; omega
        rw [eR1] at r1
        have HR1 := hide eR1
        have H2 : Half R1 u0 Y y1 y0 := ⟨r1.1, r1.2, HE.out.2.2.1, HE.out.2.2.2, H1.a0, H1.a1, H1.c0, H1.c1, H1.eq⟩
        obtain ⟨k0, k1, k2, k3, k4, k5⟩ := H2.start
        have htd2 : R1.tdiv y1 = R1 / y1 := Int.tdiv_eq_ediv_of_nonneg r1.1
        obtain ⟨F, eF⟩ : ∃ F, R1 / y1 = F := ⟨_, rfl⟩
        rw [eF] at htd2 k0 k1 k2 k3 k4 k5
        have hFP : IntKind.u64.wrap (F * y1) = F * y1 := by rw [IntKind.wrap_u64]; omega
        have hFW : IntKind.u64.wrap (R1 - F * y1) = R1 - F * y1 := by rw [IntKind.wrap_u64]; omega
        have hF0 : 0 ≤ F := by have := H2.nonneg; omega
        have hR1B : R1 < 18446744073709551616 := by omega
        clear eR1
        go_wp2
        go_loopw [18, 16] (fun qv rv wq => ∃ (qh rh : Int), qv = .int .u64 qh ∧ rv = .int .u64 rh ∧ (hq R1 u0 Y ≤ qh ∧ qh ≤ 4294967297) ∧ (0 ≤ rh ∧ rh < 4294967296) ∧ Hid (rh = R1 - qh * y1) ∧ wq = wr) (fun qv _ _ => (intOf qv).toNat)
        case atStart => exact ⟨_, _, rfl, rfl, ⟨k0, k1⟩, ⟨k2, k3⟩, rfl, rfl⟩
        case round =>
          obtain ⟨qh, rh, rfl, rfl, hqh, hrh, HRH, rfl⟩ := hrel
          by_cases hge : 4294967296 ≤ qh
          ·
            have hlt := H2.yes HRH.out (.inl hge)
            have hnn := H2.nonneg
            have ha := H2.a0
            have ha1 := H2.a1
            have HD : Hid (rh + y1 = R1 - (qh - 1) * y1) := by have := HRH.out; rw [Hid, step_down]; omega
            by_cases hbk : 4294967296 ≤ rh + y1
            · have hle := H2.no HD.out (H2.stop (by omega) hbk)
              obtain ⟨Q0, eQ0⟩ : ∃ Q0, qh - 1 = Q0 := ⟨_, rfl⟩
              have HQ0 : Hid (Q0 = hq R1 u0 Y) := by rw [Hid]; omega
              have hQ00 : 0 ≤ Q0 := by omega
              clear hle hlt hnn HD HRH
              have hq0b := HQ0.out
              have n2 := H2.nonneg
              have n2b := H2.lt
              have r2 := H2.rest
              rw [← hq0b] at n2 n2b r2
              have hun2 : IntKind.u64.wrap (IntKind.u64.wrap (IntKind.u64.wrap (R1 * 4294967296) + u0) - IntKind.u64.wrap (Q0 * Y)) = R1 * 4294967296 + u0 - Q0 * Y := by
                rw [IntKind.wrap_u64, IntKind.wrap_u64, IntKind.wrap_u64, IntKind.wrap_u64]; omega
              have FIN := hide (halves_quot HP.out HE.out.1 HEU.out HE.out.2.1 HR1.out.symm r2.1 r2.2 (show 0 < y by omega))
              clear hq0b r2
              go_wp2
              go_ret2
              exact ⟨ret_two FIN.out.1 FIN.out.2, rfl⟩
            · have hnb : ¬ 4294967296 ≤ rh + y1 := hbk
              clear hbk
              go_wp2
              exact ⟨⟨qh - 1, rh + y1, rfl, rfl, by omega, by omega, HD, by first | rfl | trivial⟩, by simp [intOf]; omega⟩
          · by_cases hgt : 4294967296 * rh + u0 < qh * y0
            ·
              have hm0 : 0 ≤ qh * y0 := Int.mul_nonneg (by have := H2.nonneg; omega) H2.c0
              have hm1 : qh * y0 ≤ 4294967295 * 4294967295 := Int.mul_le_mul (by omega) (by have := H2.c1; omega) H2.c0 (by omega)
              have hu0' := H2.u0
              have hu1' := H2.u1
              have hngq : ¬ 4294967296 ≤ qh := by omega
              have hlt := H2.yes HRH.out (.inr hgt)
              have hnn := H2.nonneg
              have ha := H2.a0
              have ha1 := H2.a1
              have HD : Hid (rh + y1 = R1 - (qh - 1) * y1) := by have := HRH.out; rw [Hid, step_down]; omega
              by_cases hbk : 4294967296 ≤ rh + y1
              · have hle := H2.no HD.out (H2.stop (by omega) hbk)
                obtain ⟨Q0, eQ0⟩ : ∃ Q0, qh - 1 = Q0 := ⟨_, rfl⟩
                have HQ0 : Hid (Q0 = hq R1 u0 Y) := by rw [Hid]; omega
                have hQ00 : 0 ≤ Q0 := by omega
                clear hle hlt hnn HD HRH
                have hq0b := HQ0.out
                have n2 := H2.nonneg
                have n2b := H2.lt
                have r2 := H2.rest
                rw [← hq0b] at n2 n2b r2
                have hun2 : IntKind.u64.wrap (IntKind.u64.wrap (IntKind.u64.wrap (R1 * 4294967296) + u0) - IntKind.u64.wrap (Q0 * Y)) = R1 * 4294967296 + u0 - Q0 * Y := by
                  rw [IntKind.wrap_u64, IntKind.wrap_u64, IntKind.wrap_u64, IntKind.wrap_u64]; omega
                have FIN := hide (halves_quot HP.out HE.out.1 HEU.out HE.out.2.1 HR1.out.symm r2.1 r2.2 (show 0 < y by omega))
                clear hq0b r2
                go_wp2
                go_ret2
                exact ⟨ret_two FIN.out.1 FIN.out.2, rfl⟩
              · have hnb : ¬ 4294967296 ≤ rh + y1 := hbk
                clear hbk
                go_wp2
                exact ⟨⟨qh - 1, rh + y1, rfl, rfl, by omega, by omega, HD, by first | rfl | trivial⟩, by simp [intOf]; omega⟩
            ·
              have hm0 : 0 ≤ qh * y0 := Int.mul_nonneg (by have := H2.nonneg; omega) H2.c0
              have hm1 : qh * y0 ≤ 4294967295 * 4294967295 := Int.mul_le_mul (by omega) (by have := H2.c1; omega) H2.c0 (by omega)
              have hu0' := H2.u0
              have hu1' := H2.u1
              have hngq : ¬ 4294967296 ≤ qh := by omega
              have hle := H2.no HRH.out (by omega)
              obtain ⟨Q0, eQ0⟩ : ∃ Q0, Q0 = qh := ⟨_, rfl⟩
              subst eQ0
              have HQ0 : Hid (Q0 = hq R1 u0 Y) := by rw [Hid]; omega
              have hQ00 : 0 ≤ Q0 := by have := H2.nonneg; omega
              clear hle HRH
              have hq0b := HQ0.out
              have n2 := H2.nonneg
              have n2b := H2.lt
              have r2 := H2.rest
              rw [← hq0b] at n2 n2b r2
              have hun2 : IntKind.u64.wrap (IntKind.u64.wrap (IntKind.u64.wrap (R1 * 4294967296) + u0) - IntKind.u64.wrap (Q0 * Y)) = R1 * 4294967296 + u0 - Q0 * Y := by
                rw [IntKind.wrap_u64, IntKind.wrap_u64, IntKind.wrap_u64, IntKind.wrap_u64]; omega
              have FIN := hide (halves_quot HP.out HE.out.1 HEU.out HE.out.2.1 HR1.out.symm r2.1 r2.2 (show 0 < y by omega))
              clear hq0b r2
              go_wp2
              go_ret2
              exact ⟨ret_two FIN.out.1 FIN.out.2, rfl⟩
/-- Div64(hi, lo, y), where the quotient is one digit. -/
theorem div64_any (hi lo y : Int) (hh : 0 ≤ hi ∧ hi < y) (hl : 0 ≤ lo ∧ lo < 18446744073709551616) (hy : y < 18446744073709551616) (w : World) :
    Calls Tryz.prog 79 #[.int .u64 hi, .int .u64 lo, .int .u64 y] w fun e w' => e = .returned (.tuple #[.int .u64 ((hi * 18446744073709551616 + lo) / y), .int .u64 ((hi * 18446744073709551616 + lo) % y)]) ∧ Below w.heap.size w w' := by
  by_cases h : hi = 0
  · subst h
    rw [Int.zero_mul, Int.zero_add]
    exact div64_low lo y hl ⟨hh.2, hy⟩ w
  · refine (div64_high hi lo y ⟨by omega, hh.2⟩ hl hy w).mono ?_
    rintro e w' ⟨he, rfl⟩
    exact ⟨he, Below.refl _ _⟩
end Go.Proofs.YtejocefblpkdjabGreat
