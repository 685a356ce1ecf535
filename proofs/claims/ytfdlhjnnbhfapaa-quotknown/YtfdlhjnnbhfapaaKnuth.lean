/-
  The arithmetic of Knuth's D: the guess of one digit of a quotient, by the highest digits; no program in sight.
-/
import Derived.Test.YtfdlhjnnbhfapaaNum
namespace Go.Proofs.Ytfdlhjnnbhfapaa

/-- What is divided is U3 * S + ru, by V2 * S + rv: U3 its three highest digits, V2 the divisor's two highest. -/
structure Guess (u v U3 V2 S ru rv u2 u1 u0 v1 v0 : Int) : Prop where
  eu : u = U3 * S + ru
  ev : v = V2 * S + rv
  eU : U3 = (u2 * 18446744073709551616 + u1) * 18446744073709551616 + u0
  eV : V2 = v1 * 18446744073709551616 + v0
  S0 : 0 < S
  ru0 : 0 ≤ ru
  ru1 : ru < S
  rv0 : 0 ≤ rv
  rv1 : rv < S
  hu2 : 0 ≤ u2
  hu1 : 0 ≤ u1
  hu1' : u1 < 18446744073709551616
  hu0 : 0 ≤ u0
  hu0' : u0 < 18446744073709551616
  hv1 : 9223372036854775808 ≤ v1
  hv1' : v1 < 18446744073709551616
  hv0 : 0 ≤ v0
  hv0' : v0 < 18446744073709551616
  fit : u < v * 18446744073709551616
theorem Guess.vpos {u v U3 V2 S ru rv u2 u1 u0 v1 v0 : Int} (h : Guess u v U3 V2 S ru rv u2 u1 u0 v1 v0) : 0 < v ∧ 18446744073709551616 ≤ V2 ∧ V2 * S ≤ v ∧ 18446744073709551616 * S ≤ v := by
  have := h.hv1; have := h.hv0; have := h.eV; have s := h.S0; have := h.rv0; have := h.ev
  have a : 18446744073709551616 ≤ V2 := by omega
  have b : 18446744073709551616 * S ≤ V2 * S := Int.mul_le_mul_of_nonneg_right a (by omega)
  omega
theorem Guess.unonneg {u v U3 V2 S ru rv u2 u1 u0 v1 v0 : Int} (h : Guess u v U3 V2 S ru rv u2 u1 u0 v1 v0) : 0 ≤ U3 ∧ 0 ≤ u := by
  have := h.hu2; have := h.hu1; have := h.hu0; have := h.eU; have := h.ru0; have := h.eu
  have a : 0 ≤ U3 := by omega
  have b := Int.mul_nonneg a (Int.le_of_lt h.S0)
  omega
/-- The digit is one. -/
theorem Guess.digit {u v U3 V2 S ru rv u2 u1 u0 v1 v0 : Int} (h : Guess u v U3 V2 S ru rv u2 u1 u0 v1 v0) : 0 ≤ u / v ∧ u / v ≤ 18446744073709551615 := by
  have p := h.vpos
  have a := Int.ediv_nonneg h.unonneg.2 (Int.le_of_lt p.1)
  have b := Int.ediv_lt_of_lt_mul (a := u) (b := 18446744073709551616) p.1 (by rw [Int.mul_comm]; exact h.fit)
  omega
/-- A guess by which the highest digits come to more is too great. -/
theorem Guess.over {u v U3 V2 S ru rv u2 u1 u0 v1 v0 : Int} (h : Guess u v U3 V2 S ru rv u2 u1 u0 v1 v0) {q : Int} (hq : 0 ≤ q) (hgt : U3 < q * V2) : u / v < q := by
  have p := h.vpos
  refine Int.ediv_lt_of_lt_mul p.1 ?_
  have a : (U3 + 1) * S ≤ q * V2 * S := Int.mul_le_mul_of_nonneg_right (by omega) (Int.le_of_lt h.S0)
  have b := Int.mul_nonneg hq h.rv0
  have e : q * v = q * V2 * S + q * rv := by rw [h.ev, Int.mul_add, ← Int.mul_assoc]
  rw [e, h.eu]
  rw [Int.add_mul] at a
  have := h.ru1
  omega
/-- One by which they do not is one too great at most. -/
theorem Guess.near {u v U3 V2 S ru rv u2 u1 u0 v1 v0 : Int} (h : Guess u v U3 V2 S ru rv u2 u1 u0 v1 v0) {q : Int} (hq1 : q ≤ 18446744073709551615) (hle : q * V2 ≤ U3) : q ≤ u / v + 1 := by
  have p := h.vpos
  have a : q * V2 * S ≤ U3 * S := Int.mul_le_mul_of_nonneg_right hle (Int.le_of_lt h.S0)
  have b : q * rv ≤ 18446744073709551615 * S := Int.mul_le_mul hq1 (Int.le_of_lt h.rv1) h.rv0 (by decide)
  have e : q * v = q * V2 * S + q * rv := by rw [h.ev, Int.mul_add, ← Int.mul_assoc]
  have c : (q - 1) * v ≤ u := by
    rw [Int.sub_mul, Int.one_mul, e, h.eu]
    have := h.ru0; have := h.S0
    omega
  have := Int.le_ediv_of_mul_le p.1 c
  omega
/-- The first guess, by the highest digit of the divisor. -/
theorem Guess.start {u v U3 V2 S ru rv u2 u1 u0 v1 v0 : Int} (h : Guess u v U3 V2 S ru rv u2 u1 u0 v1 v0) : u / v ≤ (u2 * 18446744073709551616 + u1) / v1 := by
  have p := h.vpos
  have hv1 := h.hv1
  refine Int.le_ediv_of_mul_le (by omega) ?_
  refine Classical.byContradiction fun hc => ?_
  have d := h.digit
  have hgt : U3 < u / v * V2 := by
    have c := Int.mul_nonneg d.1 h.hv0
    have e : u / v * V2 = u / v * v1 * 18446744073709551616 + u / v * v0 := by rw [h.eV, Int.mul_add, ← Int.mul_assoc]
    rw [e, h.eU]
    have := h.hu0'
    omega
  have := h.over d.1 hgt
  omega
/-- What the test of the second digit says: q the guess, r what it leaves of the two highest digits. -/
theorem Guess.test {u v U3 V2 S ru rv u2 u1 u0 v1 v0 : Int} (h : Guess u v U3 V2 S ru rv u2 u1 u0 v1 v0) {q r : Int} (er : r = u2 * 18446744073709551616 + u1 - q * v1) : (r * 18446744073709551616 + u0 < q * v0 → U3 < q * V2) ∧ (q * v0 ≤ r * 18446744073709551616 + u0 → q * V2 ≤ U3) := by
  have e : q * V2 = q * v1 * 18446744073709551616 + q * v0 := by rw [h.eV, Int.mul_add, ← Int.mul_assoc]
  rw [e, h.eU]
  omega
/-- Where what is left is a digit or more no test is wanted. -/
theorem Guess.plenty {u v U3 V2 S ru rv u2 u1 u0 v1 v0 : Int} (h : Guess u v U3 V2 S ru rv u2 u1 u0 v1 v0) {q r : Int} (hq1 : q ≤ 18446744073709551616) (hr : 18446744073709551616 ≤ r) : q * v0 ≤ r * 18446744073709551616 + u0 := by
  have : q * v0 ≤ 18446744073709551616 * 18446744073709551615 := Int.mul_le_mul hq1 (by have := h.hv0'; omega) h.hv0 (by decide)
  have := h.hu0
  omega
/-- What is left by the right digit, and by one that is one too great. -/
theorem quot_left {u v q : Int} (hv : 0 < v) (h1 : u / v ≤ q) (h2 : q ≤ u / v + 1) : (0 ≤ u - q * v → q = u / v ∧ u - q * v < v) ∧ (u - q * v < 0 → q = u / v + 1 ∧ 0 ≤ u - q * v + v ∧ u - q * v + v < v) := by
  have d := Int.emod_add_mul_ediv u v
  have m0 := Int.emod_nonneg u (show v ≠ 0 by omega)
  have m1 := Int.emod_lt_of_pos u hv
  rw [Int.mul_comm] at d
  rcases (show q = u / v ∨ q = u / v + 1 by omega) with e | e
  · rw [e]; exact ⟨fun _ => ⟨rfl, by omega⟩, fun h => by omega⟩
  · rw [e, Int.add_mul, Int.one_mul]; exact ⟨fun h => by omega, fun _ => ⟨rfl, by omega, by omega⟩⟩
/-- A divisor and what is divided, moved up together: the quotient stays, what is left moves with them. -/
theorem quot_moved {a b p : Int} (hp : 0 < p) : (a * p) / (b * p) = a / b ∧ (a * p) % (b * p) = a % b * p := by
  have e := Int.mul_ediv_mul_of_pos_left a b hp
  refine ⟨e, ?_⟩
  rw [Int.emod_def, e, Int.emod_def, Int.sub_mul]
  congr 1
  ac_rfl
/-- One digit of a quotient behind those above it: A = (above) * B^k + below. -/
theorem quot_next {A v Q R below : Int} (hv : 0 < v) (h1 : R < v) (eA : A = v * Q + R) (hb : 0 ≤ below ∧ below < 18446744073709551616) :
    (A * 18446744073709551616 + below) / v = Q * 18446744073709551616 + (R * 18446744073709551616 + below) / v ∧ (A * 18446744073709551616 + below) % v = (R * 18446744073709551616 + below) % v ∧ R * 18446744073709551616 + below < v * 18446744073709551616 := by
  have e : A * 18446744073709551616 + below = (R * 18446744073709551616 + below) + v * (Q * 18446744073709551616) := by
    rw [eA, Int.add_mul, Int.mul_assoc]; omega
  refine ⟨?_, ?_, by omega⟩
  · rw [e, Int.add_mul_ediv_left _ _ (by omega)]; omega
  · rw [e, Int.add_mul_emod_self_left]
end Go.Proofs.Ytfdlhjnnbhfapaa
