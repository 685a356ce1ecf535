/-
  Joined: RefD Whole FracL FracP.
-/
import Derived.Test.YtejocefblpkdjabGreatJSmall
import Derived.Test.YtejocefblpkdjabGreatJRefA
import Derived.Test.YtejocefblpkdjabGreatShift
import Derived.Deep.QuietTactic
import Derived.BigQuiet
import Derived.Test.YtejocefblpkdjabGreatJWiden
import Derived.Test.YtejocefblpkdjabGreatJNum
namespace Go.Proofs.YtejocefblpkdjabGreat
open Go.RowKit
def sgn (below : Bool) (v : Int) : Int := if below then -v else v
def Canon (below : Bool) (zs : List Int) : Prop := Norm zs ∧ (below = true → zs ≠ [])
theorem canon_unique {b c : Bool} {xs ys : List Int} (hx : Words xs) (hy : Words ys) (cx : Canon b xs) (cy : Canon c ys) (e : sgn b (val xs) = sgn c (val ys)) : b = c ∧ xs = ys := by
  have px := val_nonneg hx
  have py := val_nonneg hy
  have hv : val xs = val ys := by
    cases b <;> cases c <;> simp [sgn] at e <;> omega
  have hxy := norm_unique hx hy cx.1 cy.1 hv
  refine ⟨?_, hxy⟩
  subst hxy
  cases b <;> cases c
  · rfl
  · exfalso
    have := norm_pos hx cx.1 (cy.2 rfl)
    simp [sgn] at e
    omega
  · exfalso
    have := norm_pos hx cx.1 (cx.2 rfl)
    simp [sgn] at e
    omega
  · rfl
theorem sgn_gcd (b : Bool) (n d : Int) : Int.gcd (sgn b n) d = Int.gcd n d := by cases b <;> simp [sgn]
theorem sgn_ediv (b : Bool) {n g : Int} (h : g ∣ n) : sgn b (n / g) = sgn b n / g := by
  cases b
  · rfl
  · simp only [sgn, if_true]; exact (Int.neg_ediv_of_dvd h).symm
def LowL (b : Bool) (xs ds : List Int) : Prop := Canon b xs ∧ Norm ds ∧ Low (sgn b (val xs)) (val ds)
def ratL (b : Bool) (xs ds : List Int) : Rat := Rat.divInt (sgn b (val xs)) (val ds)
theorem lowL_unique {b c : Bool} {xs ds ys es : List Int} (hx : Words xs) (hd : Words ds) (hy : Words ys) (he : Words es) (h : LowL b xs ds) (k : LowL c ys es) (q : ratL b xs ds = ratL c ys es) : b = c ∧ xs = ys ∧ ds = es := by
  obtain ⟨e1, e2⟩ := low_unique h.2.2 k.2.2 q
  obtain ⟨r1, r2⟩ := canon_unique hx hy h.1 k.1 e1
  exact ⟨r1, r2, norm_unique hd he h.2.1 k.2.1 e2⟩
theorem lowL_div {b b' : Bool} {n d : Int} {ts es : List Int} (hd : 0 < d) (hc : Canon b' ts) (hn : Norm es) (h1 : sgn b' (val ts) = sgn b (n / (Int.gcd n d : Int))) (h2 : val es = d / (Int.gcd n d : Int)) : LowL b' ts es ∧ ratL b' ts es = Rat.divInt (sgn b n) d := by
  have hg : (Int.gcd n d : Int) ∣ n := Int.gcd_dvd_left ..
  obtain ⟨l1, l2⟩ := low_div (sgn b n) d hd
  rw [sgn_gcd] at l1 l2
  rw [sgn_ediv b hg] at h1
  exact ⟨⟨hc, hn, by rw [h1, h2]; exact l1⟩, by rw [ratL, h1, h2]; exact l2⟩
theorem cmpR_divInt {u d v e : Int} (hd : 0 < d) (he : 0 < e) : cmpR (Rat.divInt u d) (Rat.divInt v e) = cmpI (u * e) (v * d) := by
  unfold cmpR cmpI
  simp only [divInt_lt_iff hd he, divInt_eq_iff hd he]
  rcases Int.lt_trichotomy (u * e) (v * d) with h | h | h
  · rw [if_pos h, if_pos h]
  · rw [h]; simp
  · rw [if_neg (show ¬ u * e < v * d by omega), if_neg (show ¬ u * e = v * d by omega), if_neg (show ¬ u * e < v * d by omega), if_pos h]
def roundN (n d : Int) : Int := if d < 2 * (n % d) ∨ (2 * (n % d) = d ∧ n / d % 2 = 1) then n / d + 1 else n / d
theorem roundN_near {n d : Int} (hd : 0 < d) : -d ≤ 2 * (n - roundN n d * d) ∧ 2 * (n - roundN n d * d) ≤ d ∧ (2 * (n - roundN n d * d) = d ∨ 2 * (n - roundN n d * d) = -d → roundN n d % 2 = 0) := by
  have e := Int.ediv_mul_add_emod n d
  have h0 := Int.emod_nonneg n (show d ≠ 0 by omega)
  have h1 := Int.emod_lt_of_pos n hd
  unfold roundN
  generalize hq : n / d = q at *
  generalize n % d = r at *
  split
  · rename_i h
    rw [Int.add_mul, Int.one_mul]
    omega
  · omega
theorem roundN_unique {n d m : Int} (hd : 0 < d) (h1 : -d ≤ 2 * (n - m * d)) (h2 : 2 * (n - m * d) ≤ d) (h3 : 2 * (n - m * d) = d ∨ 2 * (n - m * d) = -d → m % 2 = 0) : m = roundN n d := by
  obtain ⟨k1, k2, k3⟩ := roundN_near (n := n) hd
  generalize roundN n d = x at *
  rcases Int.lt_trichotomy m x with h | h | h
  · exfalso
    obtain ⟨t, rfl⟩ : ∃ t, x = m + 1 + t := ⟨x - m - 1, by omega⟩
    have ht : 0 ≤ t * d := Int.mul_nonneg (by omega) (by omega)
    rw [show (m + 1 + t) * d = m * d + d + t * d by rw [Int.add_mul, Int.add_mul, Int.one_mul]] at k1 k2 k3
    have ht0 : t = 0 := by
      rcases Int.lt_or_eq_of_le (show 0 ≤ t by omega) with g | g
      · have := Int.mul_le_mul_of_nonneg_right (show 1 ≤ t by omega) (show 0 ≤ d by omega)
        omega
      · exact g.symm
    subst ht0
    omega
  · exact h
  · exfalso
    obtain ⟨t, rfl⟩ : ∃ t, m = x + 1 + t := ⟨m - x - 1, by omega⟩
    have ht : 0 ≤ t * d := Int.mul_nonneg (by omega) (by omega)
    rw [show (x + 1 + t) * d = x * d + d + t * d by rw [Int.add_mul, Int.add_mul, Int.one_mul]] at h1 h2 h3
    have ht0 : t = 0 := by
      rcases Int.lt_or_eq_of_le (show 0 ≤ t by omega) with g | g
      · have := Int.mul_le_mul_of_nonneg_right (show 1 ≤ t by omega) (show 0 ≤ d by omega)
        omega
      · exact g.symm
    subst ht0
    omega
end Go.Proofs.YtejocefblpkdjabGreat
namespace Go.Proofs.YtejocefblpkdjabGreat
theorem gcd_one_of {a b c d : Int} (h : Int.gcd a b = 1) (hc : c ∣ a) (hd : d ∣ b) : Int.gcd c d = 1 :=
  Nat.Coprime.coprime_dvd_left (Int.natAbs_dvd_natAbs.2 hc) (Nat.Coprime.coprime_dvd_right (Int.natAbs_dvd_natAbs.2 hd) h)
theorem gcd_plus {u d v e : Int} (h : Low u d) (k : Low v e) :
    Int.gcd (u * (e / (Int.gcd d e : Int)) + v * (d / (Int.gcd d e : Int))) ((Int.gcd d e : Int) * ((d / (Int.gcd d e : Int)) * (e / (Int.gcd d e : Int)))) = Int.gcd (u * (e / (Int.gcd d e : Int)) + v * (d / (Int.gcd d e : Int))) (Int.gcd d e : Int) := by
  have gp : 0 < Int.gcd d e := Nat.pos_of_ne_zero (by intro h0; have := Int.gcd_eq_zero_iff.1 h0; have := h.1; omega)
  have c := Int.gcd_ediv_gcd_ediv_gcd gp
  have a2 : d / (Int.gcd d e : Int) ∣ d := ⟨_, (Int.ediv_mul_cancel (Int.gcd_dvd_left ..)).symm⟩
  have b2 : e / (Int.gcd d e : Int) ∣ e := ⟨_, (Int.ediv_mul_cancel (Int.gcd_dvd_right ..)).symm⟩
  have q1 := gcd_one_of h.2 (Int.dvd_refl u) a2
  have q2 := gcd_one_of k.2 (Int.dvd_refl v) b2
  generalize hA : d / (Int.gcd d e : Int) = A at *
  generalize hB : e / (Int.gcd d e : Int) = B at *
  have c' : Int.gcd B A = 1 := by rw [Int.gcd_comm]; exact c
  have r1 : Int.gcd (u * B + v * A) A = 1 := by
    rw [Int.gcd_add_mul_right_left, Int.gcd_mul_left_left_of_gcd_eq_one c']
    exact q1
  have r2 : Int.gcd (u * B + v * A) B = 1 := by
    rw [Int.add_comm, Int.gcd_add_mul_right_left, Int.gcd_mul_left_left_of_gcd_eq_one c]
    exact q2
  rw [Int.gcd_mul_left_right_of_gcd_eq_one]
  rw [Int.gcd_mul_left_right_of_gcd_eq_one r2]
  exact r1
theorem low_plus {u d v e : Int} (h : Low u d) (k : Low v e) {g A B up s : Int} (hg : g = (Int.gcd d e : Int)) (hA : A = d / g) (hB : B = e / g) (hup : up = u * B + v * A) (hs : s = (Int.gcd up g : Int)) :
    Low (up / s) (A * (e / s)) ∧ Rat.divInt (up / s) (A * (e / s)) = Rat.divInt u d + Rat.divInt v e := by
  subst hg hA hB hup
  have gp : 0 < (Int.gcd d e : Int) := gcd_pos_of k.1
  have a2 := Int.ediv_mul_cancel (Int.gcd_dvd_left d e)
  have b2 := Int.ediv_mul_cancel (Int.gcd_dvd_right d e)
  have hgp := gcd_plus h k
  have hpA : 0 < d / (Int.gcd d e : Int) := Int.ediv_pos_of_pos_of_dvd h.1 (by omega) (Int.gcd_dvd_left ..)
  have hpB : 0 < e / (Int.gcd d e : Int) := Int.ediv_pos_of_pos_of_dvd k.1 (by omega) (Int.gcd_dvd_right ..)
  generalize hA : d / (Int.gcd d e : Int) = A at *
  generalize hB : e / (Int.gcd d e : Int) = B at *
  generalize (Int.gcd d e : Int) = g at *
  generalize hup : u * B + v * A = up at *
  have hpos : 0 < g * (A * B) := Int.mul_pos gp (Int.mul_pos hpA hpB)
  obtain ⟨l1, l2⟩ := low_div up (g * (A * B)) hpos
  rw [hgp, ← hs] at l1 l2
  have hsd : s ∣ e := by
    rw [hs, ← b2]
    exact Int.dvd_trans (Int.gcd_dvd_right ..) ⟨B, by rw [Int.mul_comm]⟩
  have he : A * (e / s) = g * (A * B) / s := by
    rw [← Int.mul_ediv_assoc A hsd, ← b2]
    congr 1
    rw [Int.mul_comm B g, Int.mul_left_comm]
  rw [he]
  refine ⟨l1, l2.trans ?_⟩
  rw [Rat.divInt_add_divInt _ _ (show d ≠ 0 by have := h.1; omega) (show e ≠ 0 by have := k.1; omega)]
  rw [divInt_eq_iff hpos (Int.mul_pos h.1 k.1), ← hup, ← a2, ← b2]
  simp only [Int.mul_add, Int.mul_comm, Int.mul_left_comm]
end Go.Proofs.YtejocefblpkdjabGreat
