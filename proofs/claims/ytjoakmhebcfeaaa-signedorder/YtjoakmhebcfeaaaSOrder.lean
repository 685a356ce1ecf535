/-
  The walk of SignedOrder.
-/
import Derived.Test.YtjoakmhebcfeaaaSOrderA
import Derived.Test.YtjoakmhebcfeaaaSOrderB
import Derived.Test.YtjoakmhebcfeaaaSOrderC
import Derived.Test.YtjoakmhebcfeaaaSOrderD
namespace Go.Proofs.Ytjoakmhebcfeaaa
open Go.RowKit

set_option maxRecDepth 100000 in
set_option maxHeartbeats 2000000 in
theorem sorder_long (b : Bool) (a : Option Addr) (n ca : Nat) (d : Bool) (c : Option Addr) (m cc : Nat) (f : Bool) (e : Option Addr) (k ce : Nat) (w : World) (h : 10 < n ∨ 10 < m ∨ 10 < k) :
    Calls Try.prog 7 #[.agg #[.bool b, .slice a n ca], .agg #[.bool d, .slice c m cc], .agg #[.bool f, .slice e k ce]] w fun e w' => e = .returned (.bool true) ∧ Below w.heap.size w w' := by
  obtain ⟨e1, e2, e3, hA, hz⟩ := three_new w (.cells #[.bool b, .slice a n ca] 25) (.cells #[.bool d, .slice c m cc] 25) (.cells #[.bool f, .slice e k ce] 25)
  have HZ := hide hz
  clear hz
  by_cases h0 : 10 < n
  · have l1 := fun w => longNat_bel a n ca 10 w
    rw [decide_eq_true (show ((10 : Int) < (n : Int)) by omega)] at l1
    have L1 := hide l1
    clear l1
    clear h 
    clear h0
    go_enter Try.func7, Try.ntmps7
    go_wp2_with fail
    refine (sknown_any _).mono ?_
    rintro e w1 ⟨rfl, hb⟩
    have hW := hb
    replace hA := hA.trans (hb.mono hA.size)
    clear hb
    have hcc := two_cells e1 hW (by have := HZ.out; omega)
    have k0 := hcc.1
    have k1 := hcc.2.1
    clear hcc
    go_wp2_with fail
    clear k0 k1
    refine (L1.out _).mono ?_
    rintro e w2 ⟨rfl, hb⟩
    replace hW := hW.trans (hb.mono hW.size)
    replace hA := hA.trans (hb.mono hA.size)
    clear hb
    go_wp2
    go_ret
    exact ⟨rfl, hA⟩
  by_cases h1 : 10 < m
  · have l1 := fun w => longNat_bel a n ca 10 w
    rw [decide_eq_false (show ¬ ((10 : Int) < (n : Int)) by omega)] at l1
    have L1 := hide l1
    clear l1
    have l2 := fun w => longNat_bel c m cc 10 w
    rw [decide_eq_true (show ((10 : Int) < (m : Int)) by omega)] at l2
    have L2 := hide l2
    clear l2
    clear h h0
    clear h1
    go_enter Try.func7, Try.ntmps7
    go_wp2_with fail
    refine (sknown_any _).mono ?_
    rintro e w1 ⟨rfl, hb⟩
    have hW := hb
    replace hA := hA.trans (hb.mono hA.size)
    clear hb
    have hcc := two_cells e1 hW (by have := HZ.out; omega)
    have k0 := hcc.1
    have k1 := hcc.2.1
    clear hcc
    go_wp2_with fail
    clear k0 k1
    refine (L1.out _).mono ?_
    rintro e w2 ⟨rfl, hb⟩
    replace hW := hW.trans (hb.mono hW.size)
    replace hA := hA.trans (hb.mono hA.size)
    clear hb
    have hcc := two_cells e2 hW (by have := HZ.out; omega)
    have k0 := hcc.1
    have k1 := hcc.2.1
    clear hcc
    go_wp2_with fail
    clear k0 k1
    refine (L2.out _).mono ?_
    rintro e w3 ⟨rfl, hb⟩
    replace hW := hW.trans (hb.mono hW.size)
    replace hA := hA.trans (hb.mono hA.size)
    clear hb
    go_wp2
    go_ret
    exact ⟨rfl, hA⟩
  have l1 := fun w => longNat_bel a n ca 10 w
  rw [decide_eq_false (show ¬ ((10 : Int) < (n : Int)) by omega)] at l1
  have L1 := hide l1
  clear l1
  have l2 := fun w => longNat_bel c m cc 10 w
  rw [decide_eq_false (show ¬ ((10 : Int) < (m : Int)) by omega)] at l2
  have L2 := hide l2
  clear l2
  have l3 := fun w => longNat_bel e k ce 10 w
  rw [decide_eq_true (show ((10 : Int) < (k : Int)) by omega)] at l3
  have L3 := hide l3
  clear l3
  clear h h0 h1
  go_enter Try.func7, Try.ntmps7
  go_wp2_with fail
  refine (sknown_any _).mono ?_
  rintro e w1 ⟨rfl, hb⟩
  have hW := hb
  replace hA := hA.trans (hb.mono hA.size)
  clear hb
  have hcc := two_cells e1 hW (by have := HZ.out; omega)
  have k0 := hcc.1
  have k1 := hcc.2.1
  clear hcc
  go_wp2_with fail
  clear k0 k1
  refine (L1.out _).mono ?_
  rintro e w2 ⟨rfl, hb⟩
  replace hW := hW.trans (hb.mono hW.size)
  replace hA := hA.trans (hb.mono hA.size)
  clear hb
  have hcc := two_cells e2 hW (by have := HZ.out; omega)
  have k0 := hcc.1
  have k1 := hcc.2.1
  clear hcc
  go_wp2_with fail
  clear k0 k1
  refine (L2.out _).mono ?_
  rintro e w3 ⟨rfl, hb⟩
  replace hW := hW.trans (hb.mono hW.size)
  replace hA := hA.trans (hb.mono hA.size)
  clear hb
  have hcc := two_cells e3 hW (by have := HZ.out; omega)
  have k0 := hcc.1
  have k1 := hcc.2.1
  clear hcc
  go_wp2_with fail
  clear k0 k1
  refine (L3.out _).mono ?_
  rintro e w4 ⟨rfl, hb⟩
  replace hW := hW.trans (hb.mono hW.size)
  replace hA := hA.trans (hb.mono hA.size)
  clear hb
  go_wp2
  go_ret
  exact ⟨rfl, hA⟩

theorem sorder_short {a c e : Option Addr} {ca cc ce : Nat} {xs ys zs : List Int} {w : World} (b : Bool) (A : Seg 0 w (.slice a xs.length ca) xs) (d : Bool) (B : Seg 0 w (.slice c ys.length cc) ys) (f : Bool) (C : Seg 0 w (.slice e zs.length ce) zs) (hx : xs.length ≤ 10) (hy : ys.length ≤ 10) (hz : zs.length ≤ 10) :
    Calls Try.prog 7 #[.agg #[.bool b, .slice a xs.length ca], .agg #[.bool d, .slice c ys.length cc], .agg #[.bool f, .slice e zs.length ce]] w fun e w' => e = .returned (.bool true) ∧ Below w.heap.size w w' := by
  rcases Int.lt_trichotomy (sgn b (val xs)) (sgn d (val ys)) with h | h | h
  · by_cases k : sgn d (val ys) < sgn f (val zs)
    · exact sorder_ll b A d B f C hx hy hz _ _ _ rfl rfl rfl h k
    · exact sorder_lt b A d B f C hx hy hz _ _ _ rfl rfl rfl h (Int.not_lt.1 k)
  · exact sorder_eq b A d B f C hx hy hz _ _ _ rfl rfl rfl h
  · exact sorder_gt b A d B f C hx hy hz _ _ _ rfl rfl rfl h

theorem sorder_any {a c e : Option Addr} {n ca m cc k ce : Nat} {xs ys zs : List Int} {w : World} (b : Bool) (A : Seg 0 w (.slice a n ca) xs) (d : Bool) (B : Seg 0 w (.slice c m cc) ys) (f : Bool) (C : Seg 0 w (.slice e k ce) zs) :
    Calls Try.prog 7 #[.agg #[.bool b, .slice a n ca], .agg #[.bool d, .slice c m cc], .agg #[.bool f, .slice e k ce]] w fun e w' => e = .returned (.bool true) ∧ Below w.heap.size w w' := by
  by_cases h : 10 < n ∨ 10 < m ∨ 10 < k
  · exact sorder_long b a n ca d c m cc f e k ce w h
  · obtain ⟨rfl, _⟩ := A.len
    obtain ⟨rfl, _⟩ := B.len
    obtain ⟨rfl, _⟩ := C.len
    exact sorder_short b A d B f C (by omega) (by omega) (by omega)
end Go.Proofs.Ytjoakmhebcfeaaa
