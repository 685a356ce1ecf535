/-
  The walks of the document's products: Grow, Mul.
-/
import Derived.Test.YtjoakmhebcfeaaaRefC
import Derived.Test.YtjoakmhebcfeaaaProd
import Derived.Test.YtjoakmhebcfeaaaHalves
import Derived.Deep.AppendSrc
import Derived.Deep.RegionLaw
import Derived.Deep.CutRange
namespace Go.Proofs.Ytjoakmhebcfeaaa
open Go.RowKit

/-- One digit of the document's row. -/
theorem rdigit_step {x y c : Int} (hx : 0 ≤ x ∧ x < 18446744073709551616) (hy : 0 ≤ y ∧ y < 18446744073709551616) (hc : 0 ≤ c ∧ c < 18446744073709551616) :
    ∃ hi lo t, x * y / 18446744073709551616 = hi ∧ x * y % 18446744073709551616 = lo ∧ IntKind.u64.wrap (lo + c) = t ∧ (0 ≤ t ∧ t < 18446744073709551616) ∧ 0 ≤ hi ∧
      (t < c → hi + 1 < 18446744073709551616 ∧ t + 18446744073709551616 * (hi + 1) = x * y + c) ∧ (¬ t < c → hi < 18446744073709551616 ∧ t + 18446744073709551616 * hi = x * y + c) := by
  have h1 : 0 ≤ x * y := Int.mul_nonneg hx.1 hy.1
  have h2 : x * y ≤ 18446744073709551615 * 18446744073709551615 := Int.mul_le_mul (by omega) (by omega) hy.1 (by omega)
  generalize x * y = p at *
  refine ⟨_, _, _, rfl, rfl, rfl, ?_⟩
  rw [IntKind.wrap_u64]
  omega
theorem rgrow_step {xs ss : List Int} {k : Nat} {x c c' t : Int} (hl : ss.length = k) (e : val ss + pw k * c = val (xs.take k) * x) (key : t + 18446744073709551616 * c' = xs[k]?.getD 0 * x + c) :
    val (ss ++ [t]) + pw (k + 1) * c' = val (xs.take (k + 1)) * x := by
  rw [val_snoc, hl, val_take_next, Int.add_mul, ← e, pw_succ, Int.mul_assoc (pw k)]
  have m : pw k * (t + 18446744073709551616 * c') = pw k * (xs[k]?.getD 0 * x + c) := by rw [key]
  rw [Int.mul_add, Int.mul_add, ← Int.mul_assoc (pw k) 18446744073709551616, Int.mul_comm (pw k) 18446744073709551616] at m
  omega

set_option maxRecDepth 100000 in
set_option maxHeartbeats 4000000 in
/-- The document's Grow. -/
theorem rgrow_any {lo : Nat} {a : Option Addr} {ca : Nat} {xs : List Int} {w : World} (ha : Seg lo w (.slice a xs.length ca) xs) (hla : xs.length ≤ 10000) (x : Int) (hx : 0 ≤ x ∧ x < 18446744073709551616) :
    Calls Try.prog 65 #[.slice a xs.length ca, .int .u64 x] w fun e w' => ∃ (a' : Option Addr) (cap : Nat) (zs : List Int), e = .returned (.slice a' zs.length cap) ∧ Seg w.heap.size w' (.slice a' zs.length cap) zs ∧ Norm zs ∧ val zs = val xs * x ∧ zs.length ≤ xs.length + 1 ∧ Below w.heap.size w w' := by
  obtain ⟨n, hn⟩ : ∃ n, xs.length = n := ⟨_, rfl⟩
  have HN := hide hn
  have hwx := ha.words
  rw [hn] at ha hla ⊢
  clear hn
  go_enter Try.func65, Try.ntmps65
  go_wp2
  go_loopw [5, 6, 7] (fun out c i wr => ∃ (k : Nat) (cv : Int) (ss : List Int), k ≤ n ∧ i = .int .i64 k ∧ c = .int .u64 cv ∧ (0 ≤ cv ∧ cv < 18446744073709551616) ∧ Hid (ss.length = k) ∧ Own w.heap.size wr out ss ∧ Hid (val ss + pw k * cv = val (xs.take k) * x) ∧ Below w.heap.size w wr) (fun _ _ i _ => n - (intOf i).toNat)
  case atStart => exact ⟨0, 0, [], Nat.zero_le _, rfl, rfl, by omega, rfl, own_nil _ _, by rw [Hid]; simp [val_nil], Below.refl _ _⟩
  case round =>
    obtain ⟨k, cv, ss, hk, rfl, rfl, hc, HL, hown, HE, hbr⟩ := hrel
    obtain ⟨ao, co, rfl, hso⟩ := own_seg hown
    have HO := hide hown
    clear hown hso
    rw [HL.out]
    by_cases hkn : k < n
    · have hki : (k : Int) < (n : Int) := by omega
      have hsr := ha.below hbr
      obtain ⟨g, o2, rfl, _, _⟩ := hsr.row (by omega)
      have hac := (hsr.cell (j := k) hkn).1
      have hy := hwx.getD k
      have HST := hide (fun c' t key => rgrow_step (x := x) (c := cv) (c' := c') (t := t) HL.out HE.out key)
      generalize xs[k]?.getD 0 = y at *
      obtain ⟨hi, lw, t, e1, e2, e3, ht, hhi, k1, k2⟩ := rdigit_step hy hx hc
      have hbo := fun W => both_any y x hy hx W
      rw [e1, e2] at hbo
      have K1 := hide k1
      have K2 := hide k2
      obtain ⟨a', cap', w', hap, hown', hbw⟩ := own_append HO.out t ht (by have := HL.out; omega) hbr.size
      rw [HL.out] at hap hown'
      have HAP := hide hap
      have HW := hide hown'
      have HB := hide hbw
      clear hap hown' hbw e1 e2 k1 k2
      by_cases g1 : t < cv
      · have hh1 := (K1.out g1).1
        go_wp2_with (first | (go_at_call 79; refine (hbo _).mono ?_; rintro e w1 ⟨rfl, rfl⟩) | (at_builtin; refine Lib.wpList_append_run _ rfl _ _ _ _ rfl _ _ rfl rfl _ _ HAP.out ?_))
        exact ⟨⟨k + 1, hi + 1, ss ++ [t], by omega, by go_num, rfl, by omega, by rw [Hid]; simp [HL.out], HW.out, HST.out _ _ (K1.out g1).2, hbr.trans HB.out⟩, by simp [intOf]; omega⟩
      · have hh1 := (K2.out g1).1
        go_wp2_with (first | (go_at_call 79; refine (hbo _).mono ?_; rintro e w1 ⟨rfl, rfl⟩) | (at_builtin; refine Lib.wpList_append_run _ rfl _ _ _ _ rfl _ _ rfl rfl _ _ HAP.out ?_))
        exact ⟨⟨k + 1, hi, ss ++ [t], by omega, by go_num, rfl, by omega, by rw [Hid]; simp [HL.out], HW.out, HST.out _ _ (K2.out (by omega)).2, hbr.trans HB.out⟩, by simp [intOf]; omega⟩
    · obtain rfl : k = n := by omega
      obtain ⟨a', cap', w', hap, hown', hbw⟩ := own_append HO.out cv hc (by have := HL.out; omega) hbr.size
      obtain ⟨a2, c2, e2, hs2⟩ := own_seg hown'
      have hl2 : (ss ++ [cv]).length = k + 1 := by simp [HL.out]
      rw [HL.out] at hap e2
      rw [hl2] at e2
      simp only [Value.slice.injEq, true_and] at e2
      obtain ⟨rfl, rfl⟩ := e2
      have ht := rtrim_any hs2 (by rw [hl2]; omega)
      have HF : Hid (val (ss ++ [cv]) = val xs * x) := by
        have e := HE.out
        rw [List.take_of_length_le (by rw [HN.out]; exact Nat.le_refl _)] at e
        rw [Hid, val_snoc, HL.out]; exact e
      rw [HF.out, hl2] at ht
      have HAP := hide hap
      have HB := hide hbw
      clear hap hbw hown' hs2 hl2
      go_wp2_with (at_builtin; refine Lib.wpList_append_run _ rfl _ _ _ _ rfl _ _ rfl rfl _ _ HAP.out ?_)
      refine ht.mono ?_
      rintro e w4 ⟨a4, cap4, zs, rfl, hs4, hn4, hv4, hl4, hb4⟩
      have HV := hide hv4
      clear hv4 ht
      have hb5 := hbr.trans HB.out
      go_wp2
      go_ret
      exact ⟨_, _, zs, rfl, hs4.mono hb5.size, hn4, HV.out, hl4, hb5.trans (hb4.mono hb5.size)⟩
#print axioms rgrow_any
end Go.Proofs.Ytjoakmhebcfeaaa
