/-
  The statements' words of layer 4: is, awake, long.
-/
import Derived.Test.YtjoakmhebcfeaaaSignedC
import Derived.Test.YtjoakmhebcfeaaaWKit
import Derived.Test.YtjoakmhebcfeaaaLenOf
namespace Go.Proofs.Ytjoakmhebcfeaaa
open Go.RowKit

theorem canon_formI {b : Bool} {zs : List Int} (h : Canon b zs) : formI b zs = 0 := by
  rw [formI, if_neg]
  rintro (g | ⟨g, e⟩)
  · exact g (if_pos h.1)
  · exact h.2 g e

set_option maxRecDepth 100000 in
set_option maxHeartbeats 1000000 in
/-- is(n, want), where it is. -/
theorem sis_yes {lo : Nat} {a : Option Addr} {n cap : Nat} {zs : List Int} {w : World} (b : Bool) (want : Int) (h : Seg lo w (.slice a n cap) zs) (hc : Canon b zs) (hl : zs.length ≤ 10000) (hv : sgn b (val zs) = want) (hw : -9223372036854775808 ≤ want ∧ want < 9223372036854775808) :
    Calls Try.prog 34 #[.agg #[.bool b, .slice a n cap], .int .i64 want] w fun e w' => e = .returned (.bool true) ∧ Below w.heap.size w w' := by
  have hB0 : Below w.heap.size w (w.alloc (.cells #[.bool b, .slice a n cap] 25)) := (Below.refl _ w).alloc (Nat.le_refl _) _
  have ho := sone_any b (h.below hB0) hl
  rw [hv, oneI, if_pos hw] at ho
  have e1 := World.alloc_heap_new w (.cells #[.bool b, .slice a n cap] 25)
  have HZ : Hid ((w.alloc (.cells #[.bool b, .slice a n cap] 25)).heap.size = w.heap.size + 1) := by rw [Hid]; simp
  have hf := canon_formI hc
  clear hv
  go_enter Try.func34, Try.ntmps34
  go_wp2_with fail
  refine ho.mono ?_
  rintro e w1 ⟨rfl, hb1⟩
  obtain ⟨k0, k1, f0, f1⟩ := two_cells e1 hb1 (by have := HZ.out; omega)
  have hck := scheck_any b ((h.below hB0).below hb1) hl
  rw [hf] at hck
  have hB1 := hB0.trans (hb1.mono hB0.size)
  clear ho hf e1 f0 f1
  go_wp2_with fail
  refine hck.mono ?_
  rintro e w2 ⟨rfl, hb2⟩
  have hB2 := hB1.trans (hb2.mono hB1.size)
  clear hck
  go_wp2
  go_ret
  exact ⟨rfl, hB2⟩
set_option maxRecDepth 100000 in
set_option maxHeartbeats 4000000 in
/-- awake(). -/
theorem sawake_any (w : World) : Calls Try.prog 10 #[] w fun e w' => e = .returned (.bool true) ∧ Below w.heap.size w w' := by
  have hB := Below.refl w.heap.size w
  go_enter Try.func10, Try.ntmps10
  go_wp2_with fail
  have hA := Below.refl w.heap.size w
  refine (sof_any (5) (by decide) _).mono ?_
  rintro e w1 ⟨g1, a1, c1, z1, rfl, S1, N1, v1, l1, hb⟩
  have V1 : Hid (sgn g1 (val z1) = (5 : Int)) := v1
  have b1 : z1.length ≤ 1 := by omega
  have hbb : Below w.heap.size w w1 := hA.trans (hb.mono hA.size)
  replace hB := hB.trans (hbb.mono hB.size)
  clear hb hbb hA  v1 l1
  go_wp2_with fail
  have hA := Below.refl w1.heap.size w1
  refine (sof_any (-7) (by decide) _).mono ?_
  rintro e w2 ⟨g2, a2, c2, z2, rfl, S2, N2, v2, l2, hb⟩
  have V2 : Hid (sgn g2 (val z2) = (-7 : Int)) := v2
  have b2 : z2.length ≤ 1 := by omega
  have hbb : Below w1.heap.size w1 w2 := hA.trans (hb.mono hA.size)
  replace S1 := S1.below hb
  replace hB := hB.trans (hbb.mono hB.size)
  clear hb hbb hA  v2 l2
  go_wp2_with fail
  have hA := Below.refl w2.heap.size w2
  refine (sadd_any g1 g2 S1 S2 (by omega) (by omega)).mono ?_
  rintro e w3 ⟨g3, a3, c3, z3, rfl, S3, N3, v3, l3, hb⟩
  have V3 : Hid (sgn g3 (val z3) = (5 : Int) + (-7 : Int)) := by rw [Hid, v3, V1.out, V2.out]
  have b3 : z3.length ≤ 3 := by omega
  have hbb : Below w2.heap.size w2 w3 := hA.trans (hb.mono hA.size)
  replace S1 := S1.below hb
  replace S2 := S2.below hb
  replace hB := hB.trans (hbb.mono hB.size)
  clear hb hbb hA  v3 l3
  go_wp2_with fail
  have hA := Below.refl w3.heap.size w3
  refine (sis_yes g3 (-2) S3 N3 (by omega) (by rw [V3.out]; decide) (by decide)).mono ?_
  rintro e w4 ⟨rfl, hb⟩
  have hbb : Below w3.heap.size w3 w4 := hA.trans (hb.mono hA.size)
  replace S1 := S1.below hb
  replace S2 := S2.below hb
  replace S3 := S3.below hb
  replace hB := hB.trans (hbb.mono hB.size)
  clear hb hbb hA  
  clear S1 S2 S3
  go_wp2_with fail
  have hA := Below.refl w4.heap.size w4
  refine (sof_any (-5) (by decide) _).mono ?_
  rintro e w5 ⟨g4, a4, c4, z4, rfl, S4, N4, v4, l4, hb⟩
  have V4 : Hid (sgn g4 (val z4) = (-5 : Int)) := v4
  have b4 : z4.length ≤ 1 := by omega
  have hbb : Below w4.heap.size w4 w5 := hA.trans (hb.mono hA.size)
  replace hB := hB.trans (hbb.mono hB.size)
  clear hb hbb hA  v4 l4
  go_wp2_with fail
  have hA := Below.refl w5.heap.size w5
  refine (sof_any (-7) (by decide) _).mono ?_
  rintro e w6 ⟨g5, a5, c5, z5, rfl, S5, N5, v5, l5, hb⟩
  have V5 : Hid (sgn g5 (val z5) = (-7 : Int)) := v5
  have b5 : z5.length ≤ 1 := by omega
  have hbb : Below w5.heap.size w5 w6 := hA.trans (hb.mono hA.size)
  replace S4 := S4.below hb
  replace hB := hB.trans (hbb.mono hB.size)
  clear hb hbb hA  v5 l5
  go_wp2_with fail
  have hA := Below.refl w6.heap.size w6
  refine (ssub_any g4 g5 S4 S5 (by omega) (by omega)).mono ?_
  rintro e w7 ⟨g6, a6, c6, z6, rfl, S6, N6, v6, l6, hb⟩
  have V6 : Hid (sgn g6 (val z6) = (-5 : Int) - (-7 : Int)) := by rw [Hid, v6, V4.out, V5.out]
  have b6 : z6.length ≤ 3 := by omega
  have hbb : Below w6.heap.size w6 w7 := hA.trans (hb.mono hA.size)
  replace S4 := S4.below hb
  replace S5 := S5.below hb
  replace hB := hB.trans (hbb.mono hB.size)
  clear hb hbb hA  v6 l6
  go_wp2_with fail
  have hA := Below.refl w7.heap.size w7
  refine (sis_yes g6 (2) S6 N6 (by omega) (by rw [V6.out]; decide) (by decide)).mono ?_
  rintro e w8 ⟨rfl, hb⟩
  have hbb : Below w7.heap.size w7 w8 := hA.trans (hb.mono hA.size)
  replace S4 := S4.below hb
  replace S5 := S5.below hb
  replace S6 := S6.below hb
  replace hB := hB.trans (hbb.mono hB.size)
  clear hb hbb hA  
  clear S4 S5 S6
  go_wp2_with fail
  have hA := Below.refl w8.heap.size w8
  refine (sof_any (-3) (by decide) _).mono ?_
  rintro e w9 ⟨g7, a7, c7, z7, rfl, S7, N7, v7, l7, hb⟩
  have V7 : Hid (sgn g7 (val z7) = (-3 : Int)) := v7
  have b7 : z7.length ≤ 1 := by omega
  have hbb : Below w8.heap.size w8 w9 := hA.trans (hb.mono hA.size)
  replace hB := hB.trans (hbb.mono hB.size)
  clear hb hbb hA  v7 l7
  go_wp2_with fail
  have hA := Below.refl w9.heap.size w9
  refine (sof_any (4) (by decide) _).mono ?_
  rintro e w10 ⟨g8, a8, c8, z8, rfl, S8, N8, v8, l8, hb⟩
  have V8 : Hid (sgn g8 (val z8) = (4 : Int)) := v8
  have b8 : z8.length ≤ 1 := by omega
  have hbb : Below w9.heap.size w9 w10 := hA.trans (hb.mono hA.size)
  replace S7 := S7.below hb
  replace hB := hB.trans (hbb.mono hB.size)
  clear hb hbb hA  v8 l8
  go_wp2_with fail
  have hA := Below.refl w10.heap.size w10
  refine (smul_any g7 g8 S7 S8 (by omega) (by omega)).mono ?_
  rintro e w11 ⟨g9, a9, c9, z9, rfl, S9, N9, v9, l9, hb⟩
  have V9 : Hid (sgn g9 (val z9) = (-3 : Int) * (4 : Int)) := by rw [Hid, v9, V7.out, V8.out]
  have b9 : z9.length ≤ 3 := by omega
  have hbb : Below w10.heap.size w10 w11 := hA.trans (hb.mono hA.size)
  replace S7 := S7.below hb
  replace S8 := S8.below hb
  replace hB := hB.trans (hbb.mono hB.size)
  clear hb hbb hA  v9 l9
  go_wp2_with fail
  have hA := Below.refl w11.heap.size w11
  refine (sis_yes g9 (-12) S9 N9 (by omega) (by rw [V9.out]; decide) (by decide)).mono ?_
  rintro e w12 ⟨rfl, hb⟩
  have hbb : Below w11.heap.size w11 w12 := hA.trans (hb.mono hA.size)
  replace S7 := S7.below hb
  replace S8 := S8.below hb
  replace S9 := S9.below hb
  replace hB := hB.trans (hbb.mono hB.size)
  clear hb hbb hA  
  clear S7 S8 S9
  go_wp2
  go_ret
  exact ⟨rfl, hB⟩
end Go.Proofs.Ytjoakmhebcfeaaa
