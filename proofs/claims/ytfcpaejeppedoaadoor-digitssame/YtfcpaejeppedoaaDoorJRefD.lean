/-
  Joined: RefD Whole FracL FracP.
-/
import Derived.Test.YtfcpaejeppedoaaDoorJSmall
import Derived.Test.YtfcpaejeppedoaaDoorJRefA
import Derived.Test.YtfcpaejeppedoaaDoorShift
import Derived.Deep.QuietTactic
import Derived.BigQuiet
import Derived.Test.YtfcpaejeppedoaaDoorJWiden
import Derived.Test.YtfcpaejeppedoaaDoorJNum
namespace Go.Proofs.YtfcpaejeppedoaaDoor
open Go.RowKit
def sgn (below : Bool) (v : Int) : Int := if below then -v else v
def Canon (below : Bool) (zs : List Int) : Prop := Norm zs ∧ (below = true → zs ≠ [])
theorem canon_unique {b c : Bool} {xs ys : List Int} (hx : Words xs) (hy : Words ys) (cx : Canon b xs) (cy : Canon c ys) (e : sgn b (val xs) = sgn c (val ys)) : b = c ∧ xs = ys := by
  have px := val_nonneg hx
  have py := val_nonneg hy
  have hv : val xs = val ys := by
    cases b <;> cases c <;> simp [sgn] at e <;> omega
  have hxy := norm_unique hx hy cx.1 cy.1 hv
  refine ⟨?_, hxy⟩
  subst hxy
  cases b <;> cases c
  · rfl
  · exfalso
    have := norm_pos hx cx.1 (cy.2 rfl)
    simp [sgn] at e
    omega
  · exfalso
    have := norm_pos hx cx.1 (cx.2 rfl)
    simp [sgn] at e
    omega
  · rfl
theorem sgn_gcd (b : Bool) (n d : Int) : Int.gcd (sgn b n) d = Int.gcd n d := by cases b <;> simp [sgn]
theorem sgn_ediv (b : Bool) {n g : Int} (h : g ∣ n) : sgn b (n / g) = sgn b n / g := by
  cases b
  · rfl
  · simp only [sgn, if_true]; exact (Int.neg_ediv_of_dvd h).symm
def LowL (b : Bool) (xs ds : List Int) : Prop := Canon b xs ∧ Norm ds ∧ Low (sgn b (val xs)) (val ds)
def ratL (b : Bool) (xs ds : List Int) : Rat := Rat.divInt (sgn b (val xs)) (val ds)
theorem lowL_unique {b c : Bool} {xs ds ys es : List Int} (hx : Words xs) (hd : Words ds) (hy : Words ys) (he : Words es) (h : LowL b xs ds) (k : LowL c ys es) (q : ratL b xs ds = ratL c ys es) : b = c ∧ xs = ys ∧ ds = es := by
  obtain ⟨e1, e2⟩ := low_unique h.2.2 k.2.2 q
  obtain ⟨r1, r2⟩ := canon_unique hx hy h.1 k.1 e1
  exact ⟨r1, r2, norm_unique hd he h.2.1 k.2.1 e2⟩
theorem lowL_div {b b' : Bool} {n d : Int} {ts es : List Int} (hd : 0 < d) (hc : Canon b' ts) (hn : Norm es) (h1 : sgn b' (val ts) = sgn b (n / (Int.gcd n d : Int))) (h2 : val es = d / (Int.gcd n d : Int)) : LowL b' ts es ∧ ratL b' ts es = Rat.divInt (sgn b n) d := by
  have hg : (Int.gcd n d : Int) ∣ n := Int.gcd_dvd_left ..
  obtain ⟨l1, l2⟩ := low_div (sgn b n) d hd
  rw [sgn_gcd] at l1 l2
  rw [sgn_ediv b hg] at h1
  exact ⟨⟨hc, hn, by rw [h1, h2]; exact l1⟩, by rw [ratL, h1, h2]; exact l2⟩
def roundN (n d : Int) : Int := if d < 2 * (n % d) ∨ (2 * (n % d) = d ∧ n / d % 2 = 1) then n / d + 1 else n / d
end Go.Proofs.YtfcpaejeppedoaaDoor
namespace Go.Proofs.YtfcpaejeppedoaaDoor
end Go.Proofs.YtfcpaejeppedoaaDoor
