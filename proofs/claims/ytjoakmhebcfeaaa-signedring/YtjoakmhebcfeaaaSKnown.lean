/-
  The walk of SignedKnown.
-/
import Derived.Test.YtjoakmhebcfeaaaSLaw
import Derived.Test.YtjoakmhebcfeaaaLit
namespace Go.Proofs.Ytjoakmhebcfeaaa
open Go.RowKit

set_option maxRecDepth 100000 in
set_option maxHeartbeats 4000000 in
theorem sknown_any (w : World) : Calls Try.prog 5 #[] w fun e w' => e = .returned (.bool true) ∧ Below w.heap.size w w' := by
  have hB := Below.refl w.heap.size w
  go_enter Try.func5, Try.ntmps5
  go_wp2_with fail
  refine (sof_any (-9223372036854775808) (by decide) _).mono ?_
  rintro e w1 ⟨g1, a1, c1, z1, rfl, S1, N1, v1, l1, hb1⟩
  obtain ⟨rfl, rfl⟩ := canon_unique (c := true) (ys := [9223372036854775808]) S1.words (words_of (by decide)) N1 ⟨by simp [Norm], fun _ => by simp⟩ (by rw [v1]; decide)
  clear v1 l1
  go_wp2_with fail
  obtain ⟨e1, e2, hA, hz⟩ := two_new w1 (.cells #[.bool true, .slice a1 [9223372036854775808].length c1] 25) (.cells #[.int .u64 9223372036854775808] 41)
  have s1 : Seg (w1.heap.size + 1) _ (.slice (some ⟨w1.heap.size + 1, 0, none⟩) 1 1) [9223372036854775808] := seg_at (w1.alloc (.cells #[.bool true, .slice a1 [9223372036854775808].length c1] 25)) (N := w1.heap.size + 1) (by simp) [9223372036854775808] rfl
  have hO := sone_any false s1 (by simp)
  rw [show oneI (sgn false (val [9223372036854775808])) = .returned (.tuple #[.int .i64 0, .bool false]) from by rw [oneI, if_neg (by decide)]] at hO
  have HZ := hide hz
  replace S1 := S1.below hA
  replace hB := hB.trans ((hb1.trans (hA.mono hb1.size)).mono (Nat.le_refl _))
  clear s1 hz
  refine hO.mono ?_
  rintro e w3 ⟨rfl, hb⟩
  have hL := hb
  replace hB := hB.trans (hb.mono hB.size)
  replace S1 := S1.below hb
  clear hb hO e2 hA hb1
  go_wp2_with fail
  have hA := Below.refl w3.heap.size w3
  refine (sof_any (0) (by decide) _).mono ?_
  rintro e w4 ⟨g2, a2, c2, z2, rfl, S2, N2, v2, l2, hb⟩
  have V2 : Hid (sgn g2 (val z2) = (0 : Int)) := v2
  have b2 : z2.length ≤ 1 := by omega
  have hbb : Below w3.heap.size w3 w4 := hA.trans (hb.mono hA.size)
  replace S1 := S1.below hb
  replace hB := hB.trans (hbb.mono hB.size)
  replace hL := hL.trans (hbb.mono hL.size)
  clear hb hbb hA  v2 l2
  go_wp2_with fail
  have hA := Below.refl w4.heap.size w4
  refine (sneg_any g2 S2 (by omega)).mono ?_
  rintro e w5 ⟨g3, a3, c3, z3, rfl, S3, N3, v3, l3, hb⟩
  have V3 : Hid (sgn g3 (val z3) = -(0 : Int)) := by rw [Hid, v3, V2.out]
  have b3 : z3.length ≤ 1 := by omega
  have hbb : Below w4.heap.size w4 w5 := hA.trans (hb.mono hA.size)
  replace S1 := S1.below hb
  replace S2 := S2.below hb
  replace hB := hB.trans (hbb.mono hB.size)
  replace hL := hL.trans (hbb.mono hL.size)
  clear hb hbb hA  v3 l3
  go_wp2_with fail
  have hA := Below.refl w5.heap.size w5
  refine (sis_yes g3 (0) S3 N3 (by omega) (by rw [V3.out]; decide) (by decide)).mono ?_
  rintro e w6 ⟨rfl, hb⟩
  have hbb : Below w5.heap.size w5 w6 := hA.trans (hb.mono hA.size)
  replace S1 := S1.below hb
  replace S2 := S2.below hb
  replace S3 := S3.below hb
  replace hB := hB.trans (hbb.mono hB.size)
  replace hL := hL.trans (hbb.mono hL.size)
  clear hb hbb hA  
  clear S2 S3
  go_wp2_with fail
  have hA := Below.refl w6.heap.size w6
  refine (sof_any (-2) (by decide) _).mono ?_
  rintro e w7 ⟨g4, a4, c4, z4, rfl, S4, N4, v4, l4, hb⟩
  have V4 : Hid (sgn g4 (val z4) = (-2 : Int)) := v4
  have b4 : z4.length ≤ 1 := by omega
  have hbb : Below w6.heap.size w6 w7 := hA.trans (hb.mono hA.size)
  replace S1 := S1.below hb
  replace hB := hB.trans (hbb.mono hB.size)
  replace hL := hL.trans (hbb.mono hL.size)
  clear hb hbb hA  v4 l4
  go_wp2_with fail
  have hA := Below.refl w7.heap.size w7
  refine (sof_any (-3) (by decide) _).mono ?_
  rintro e w8 ⟨g5, a5, c5, z5, rfl, S5, N5, v5, l5, hb⟩
  have V5 : Hid (sgn g5 (val z5) = (-3 : Int)) := v5
  have b5 : z5.length ≤ 1 := by omega
  have hbb : Below w7.heap.size w7 w8 := hA.trans (hb.mono hA.size)
  replace S1 := S1.below hb
  replace S4 := S4.below hb
  replace hB := hB.trans (hbb.mono hB.size)
  replace hL := hL.trans (hbb.mono hL.size)
  clear hb hbb hA  v5 l5
  go_wp2_with fail
  have hA := Below.refl w8.heap.size w8
  have hc := scmp_any g4 g5 S4 S5 (by omega) (by omega)
  rw [V4.out, V5.out, show cmpI (-2) (-3) = 1 from by decide] at hc
  refine (hc).mono ?_
  rintro e w9 ⟨rfl, hb⟩
  have hbb : Below w8.heap.size w8 w9 := hA.trans (hb.mono hA.size)
  replace S1 := S1.below hb
  replace S4 := S4.below hb
  replace S5 := S5.below hb
  replace hB := hB.trans (hbb.mono hB.size)
  replace hL := hL.trans (hbb.mono hL.size)
  clear hb hbb hA  hc
  clear S4 S5
  obtain ⟨k0, k1, f0, f1⟩ := two_cells e1 hL (by simp <;> omega)
  go_wp2_with fail
  have s1 : Seg (w9.heap.size) (w9.alloc (.cells #[.int .u64 9223372036854775808] 41)) (.slice (some ⟨w9.heap.size, 0, none⟩) 1 1) [9223372036854775808] := seg_at w9 (N := w9.heap.size) rfl [9223372036854775808] rfl
  have hA := ((Below.refl w9.heap.size w9).alloc (Nat.le_refl _) (.cells #[.int .u64 9223372036854775808] 41))
  replace S1 := S1.below hA
  refine (same_len S1 s1 rfl (by simp)).mono ?_
  rintro e w10 ⟨rfl, hb⟩
  have hbb : Below w9.heap.size w9 w10 := hA.trans (hb.mono hA.size)
  replace S1 := S1.below hb
  replace hB := hB.trans (hbb.mono hB.size)
  replace hL := hL.trans (hbb.mono hL.size)
  clear hb hbb hA s1 
  clear k0 k1 f0 f1
  obtain ⟨k0, k1, f0, f1⟩ := two_cells e1 hL (by simp <;> omega)
  go_wp2_with fail
  have hA := Below.refl w10.heap.size w10
  refine (sis_yes true (-9223372036854775808) S1 N1 (by simp) (by decide) (by decide)).mono ?_
  rintro e w11 ⟨rfl, hb⟩
  have hbb : Below w10.heap.size w10 w11 := hA.trans (hb.mono hA.size)
  replace S1 := S1.below hb
  replace hB := hB.trans (hbb.mono hB.size)
  replace hL := hL.trans (hbb.mono hL.size)
  clear hb hbb hA  
  clear k0 k1 f0 f1
  clear S1
  go_wp2_with fail
  have hA := Below.refl w11.heap.size w11
  refine (sof_any (-9) (by decide) _).mono ?_
  rintro e w12 ⟨g6, a6, c6, z6, rfl, S6, N6, v6, l6, hb⟩
  have V6 : Hid (sgn g6 (val z6) = (-9 : Int)) := v6
  have b6 : z6.length ≤ 1 := by omega
  have hbb : Below w11.heap.size w11 w12 := hA.trans (hb.mono hA.size)
  replace hB := hB.trans (hbb.mono hB.size)
  replace hL := hL.trans (hbb.mono hL.size)
  clear hb hbb hA  v6 l6
  go_wp2_with fail
  have hA := Below.refl w12.heap.size w12
  have hc := ssign_any g6 S6 (by omega)
  rw [V6.out, show cmpI (-9) 0 = -1 from by decide] at hc
  refine (hc).mono ?_
  rintro e w13 ⟨rfl, hb⟩
  have hbb : Below w12.heap.size w12 w13 := hA.trans (hb.mono hA.size)
  replace S6 := S6.below hb
  replace hB := hB.trans (hbb.mono hB.size)
  replace hL := hL.trans (hbb.mono hL.size)
  clear hb hbb hA  hc
  clear S6
  go_wp2_with fail
  have hA := Below.refl w13.heap.size w13
  refine (sawake_any _).mono ?_
  rintro e w14 ⟨rfl, hb⟩
  have hbb : Below w13.heap.size w13 w14 := hA.trans (hb.mono hA.size)
  replace hB := hB.trans (hbb.mono hB.size)
  replace hL := hL.trans (hbb.mono hL.size)
  clear hb hbb hA  
  go_wp2_with fail
  have hA := Below.refl w14.heap.size w14
  have hc := scheck_any true (Seg.nil 0 w14) (by simp)
  rw [show formI true [] = 6 from by decide] at hc
  refine (hc).mono ?_
  rintro e w15 ⟨rfl, hb⟩
  have hbb : Below w14.heap.size w14 w15 := hA.trans (hb.mono hA.size)
  replace hB := hB.trans (hbb.mono hB.size)
  replace hL := hL.trans (hbb.mono hL.size)
  clear hb hbb hA  hc
  go_wp2_with fail
  have s1 : Seg (w15.heap.size) (w15.alloc (.cells #[.int .u64 0] 41)) (.slice (some ⟨w15.heap.size, 0, none⟩) 1 1) [0] := seg_at w15 (N := w15.heap.size) rfl [0] rfl
  have hA := ((Below.refl w15.heap.size w15).alloc (Nat.le_refl _) (.cells #[.int .u64 0] 41))
  have hc := scheck_any false s1 (by simp)
  rw [show formI false [0] = 6 from by decide] at hc
  refine (hc).mono ?_
  rintro e w16 ⟨rfl, hb⟩
  have hbb : Below w15.heap.size w15 w16 := hA.trans (hb.mono hA.size)
  replace hB := hB.trans (hbb.mono hB.size)
  replace hL := hL.trans (hbb.mono hL.size)
  clear hb hbb hA s1 hc
  go_wp2_with fail
  have s1 : Seg (w16.heap.size) (w16.alloc (.cells #[.int .u64 0] 41)) (.slice (some ⟨w16.heap.size, 0, none⟩) 1 1) [0] := seg_at w16 (N := w16.heap.size) rfl [0] rfl
  have hA := ((Below.refl w16.heap.size w16).alloc (Nat.le_refl _) (.cells #[.int .u64 0] 41))
  refine (smake_any s1 (by simp) true).mono ?_
  rintro e w17 ⟨g7, a7, c7, z7, rfl, S7, N7, v7, l7, hb⟩
  have V7 : Hid (sgn g7 (val z7) = 0) := by rw [Hid, v7]; decide
  have b7 : z7.length ≤ 1 := by omega
  have hbb : Below w16.heap.size w16 w17 := hA.trans (hb.mono hA.size)
  replace hB := hB.trans (hbb.mono hB.size)
  replace hL := hL.trans (hbb.mono hL.size)
  clear hb hbb hA s1 v7 l7
  go_wp2_with fail
  have hA := Below.refl w17.heap.size w17
  refine (sis_yes g7 (0) S7 N7 (by omega) (V7.out) (by decide)).mono ?_
  rintro e w18 ⟨rfl, hb⟩
  have hbb : Below w17.heap.size w17 w18 := hA.trans (hb.mono hA.size)
  replace S7 := S7.below hb
  replace hB := hB.trans (hbb.mono hB.size)
  replace hL := hL.trans (hbb.mono hL.size)
  clear hb hbb hA  
  clear S7
  go_wp2
  go_ret
  exact ⟨rfl, hB⟩
end Go.Proofs.Ytjoakmhebcfeaaa
