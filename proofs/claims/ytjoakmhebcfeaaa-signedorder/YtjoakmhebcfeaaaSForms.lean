/-
  The walk of SignedForms.
-/
import Derived.Test.YtjoakmhebcfeaaaSLaw
import Derived.Test.YtjoakmhebcfeaaaBoxes
namespace Go.Proofs.Ytjoakmhebcfeaaa
open Go.RowKit

set_option maxRecDepth 100000 in
set_option maxHeartbeats 1000000 in
/-- long(n). -/
theorem slong_any (b : Bool) (a : Option Addr) (n cap : Nat) (w : World) :
    Calls Try.prog 9 #[.agg #[.bool b, .slice a n cap]] w fun e w' => e = .returned (.bool (decide (30 < n))) ∧ Below w.heap.size w w' := by
  have hA : Below w.heap.size w (w.alloc (.cells #[.bool b, .slice a n cap] 25)) := (Below.refl _ w).alloc (Nat.le_refl _) _
  go_enter Try.func9, Try.ntmps9
  go_wp2_with fail
  refine (longNat_any a n cap 30 _).mono ?_
  rintro e w1 ⟨rfl, rfl⟩
  go_wp2
  go_ret
  refine ⟨?_, hA⟩
  have : decide ((30 : Int) < (n : Int)) = decide (30 < n) := by rw [decide_eq_decide]; omega
  exact congrArg (fun t => Ending.returned (.bool t)) this

/-- SameWhole of two that are the same number. -/
theorem samew_can {lo lo' : Nat} {a c : Option Addr} {ca cc : Nat} {xs ys : List Int} {w : World} (b d : Bool) (h : Seg lo w (.slice a xs.length ca) xs) (h' : Seg lo' w (.slice c ys.length cc) ys) (hc : Canon b xs) (hd : Canon d ys) (hv : sgn b (val xs) = sgn d (val ys)) (hl : xs.length ≤ 10000) :
    Calls Try.prog 16 #[.agg #[.bool b, .slice a xs.length ca], .agg #[.bool d, .slice c ys.length cc]] w fun e w' => e = .returned (.bool true) ∧ Below w.heap.size w w' := by
  obtain ⟨rfl, rfl⟩ := canon_unique h.words h'.words hc hd hv
  exact samew_yes b h h' hl

theorem oneI_is (v : Int) : ∃ (x : Int) (t : Bool), oneI v = .returned (.tuple #[.int .i64 x, .bool t]) := by
  unfold oneI
  split
  · exact ⟨_, _, rfl⟩
  · exact ⟨_, _, rfl⟩

set_option maxRecDepth 100000 in
set_option maxHeartbeats 4000000 in
theorem sforms_short {a : Option Addr} {cap : Nat} {zs : List Int} {w : World} (b : Bool) (A : Seg 0 w (.slice a zs.length cap) zs) (hz : zs.length ≤ 30) (x : Int) (hx : -9223372036854775808 ≤ x ∧ x < 9223372036854775808) :
    Calls Try.prog 3 #[.agg #[.bool b, .slice a zs.length cap], .int .i64 x] w fun e w' => e = .returned (.bool true) ∧ Below w.heap.size w w' := by
  have l1 := fun w => slong_any b a zs.length cap w
  rw [decide_eq_false (show ¬ (30 < zs.length) by omega)] at l1
  have L1 := hide l1
  clear l1
  have hB := Below.refl w.heap.size w
  go_enter Try.func3, Try.ntmps3
  have hA := Below.refl w.heap.size w
  have hq : Below w.heap.size w (w.alloc (.cells #[.bool b, .slice a zs.length cap] 25)) := (Below.refl _ _).alloc (Nat.le_refl _) _
  replace A := A.below hq
  have E1 : Box (w.alloc (.cells #[.bool b, .slice a zs.length cap] 25)) (w.heap.size) (.cells #[.bool b, .slice a zs.length cap] 25) := Box.put (.cells #[.bool b, .slice a zs.length cap] 25) rfl
  replace hA := hA.trans (hq.mono hA.size)
  clear hq
  go_wp2_with fail
  refine (L1.out _).mono ?_
  rintro e w1 ⟨rfl, hb⟩
  replace A := A.below hb
  replace E1 := E1.below hb
  replace hA := hA.trans (hb.mono hA.size)
  replace hB := hB.trans (hA.mono hB.size)
  have zw1 := hA.size
  clear hb hA  
  have hA := Below.refl w1.heap.size w1
  obtain ⟨k0, k1, f0, f1⟩ := E1.two
  go_wp2_with fail
  clear k0 f0 k1 f1
  refine (copyw_any b A (by omega)).mono ?_
  rintro e w2 ⟨a0, c0, rfl, I, hb⟩
  replace A := A.below hb
  replace E1 := E1.below hb
  replace hA := hA.trans (hb.mono hA.size)
  replace hB := hB.trans (hA.mono hB.size)
  have zw2 := hA.size
  clear hb hA  
  have hA := Below.refl w2.heap.size w2
  have hq : Below w2.heap.size w2 (w2.alloc (.cells #[.bool b, .slice a0 zs.length c0] 25)) := (Below.refl _ _).alloc (Nat.le_refl _) _
  replace A := A.below hq
  replace E1 := E1.below hq
  replace I := I.below hq
  have E2 : Box (w2.alloc (.cells #[.bool b, .slice a0 zs.length c0] 25)) (w2.heap.size) (.cells #[.bool b, .slice a0 zs.length c0] 25) := Box.put (.cells #[.bool b, .slice a0 zs.length c0] 25) rfl
  replace hA := hA.trans (hq.mono hA.size)
  clear hq
  obtain ⟨k0, k1, f0, f1⟩ := E1.two
  go_wp2_with fail
  clear k0 f0 k1 f1
  obtain ⟨u, hname⟩ : ∃ u, (w2.alloc (.cells #[.bool b, .slice a0 zs.length c0] 25)) = u := ⟨_, rfl⟩
  rw [hname] at hA A E1 I E2 ⊢
  replace hB := hB.trans (hA.mono hB.size)
  have zu_hB := hB.size
  have hA := Below.refl u.heap.size u
  clear hname
  have A_u := A
  have E1_u := E1
  have I_u := I
  have E2_u := E2
  have hu := Below.refl u.heap.size u
  refine (smake_any I (by omega) b).mono ?_
  rintro e w3 ⟨g1, a1, c1, z1, rfl, S1, N1, v1, l1, hb⟩
  have V1 : Hid (sgn g1 (val z1) = sgn b (val zs)) := v1
  have b1 : z1.length ≤ 30 := by omega
  replace A := A.below hb
  replace E1 := E1.below hb
  replace I := I.below hb
  replace E2 := E2.below hb
  replace hA := hA.trans (hb.mono hA.size)
  replace hB := hB.trans (hA.mono hB.size)
  replace hu := hu.trans (hA.mono hu.size)
  have zw3 := hA.size
  clear hb hA v1 l1 
  have R1 := hide S1.block
  have hA := Below.refl w3.heap.size w3
  go_wp2_with fail
  refine (sof_any x hx _).mono ?_
  rintro e w4 ⟨g2, a2, c2, z2, rfl, S2, N2, v2, l2, hb⟩
  have V2 : Hid (sgn g2 (val z2) = x) := v2
  have b2 : z2.length ≤ 1 := by omega
  replace A := A.below hb
  replace E1 := E1.below hb
  replace I := I.below hb
  replace E2 := E2.below hb
  replace S1 := S1.below hb
  replace hA := hA.trans (hb.mono hA.size)
  replace hB := hB.trans (hA.mono hB.size)
  replace hu := hu.trans (hA.mono hu.size)
  have zw4 := hA.size
  clear hb hA v2 l2 
  have R2 := hide S2.block
  obtain ⟨v, t, hv⟩ := oneI_is (sgn b (val zs))
  have HV := hide hv
  clear hv
  have hA := Below.refl w4.heap.size w4
  have hq : Below w4.heap.size w4 (w4.alloc (.cells #[.bool g1, .slice a1 z1.length c1] 25)) := (Below.refl _ _).alloc (Nat.le_refl _) _
  replace A := A.below hq
  replace E1 := E1.below hq
  replace I := I.below hq
  replace E2 := E2.below hq
  replace S1 := S1.below hq
  replace S2 := S2.below hq
  have E3 : Box (w4.alloc (.cells #[.bool g1, .slice a1 z1.length c1] 25)) (w4.heap.size) (.cells #[.bool g1, .slice a1 z1.length c1] 25) := Box.put (.cells #[.bool g1, .slice a1 z1.length c1] 25) rfl
  replace hA := hA.trans (hq.mono hA.size)
  clear hq
  have hq : Below (w4.alloc (.cells #[.bool g1, .slice a1 z1.length c1] 25)).heap.size (w4.alloc (.cells #[.bool g1, .slice a1 z1.length c1] 25)) ((w4.alloc (.cells #[.bool g1, .slice a1 z1.length c1] 25)).alloc (.cells #[.bool g2, .slice a2 z2.length c2] 25)) := (Below.refl _ _).alloc (Nat.le_refl _) _
  replace A := A.below hq
  replace E1 := E1.below hq
  replace I := I.below hq
  replace E2 := E2.below hq
  replace S1 := S1.below hq
  replace S2 := S2.below hq
  replace E3 := E3.below hq
  have E4 : Box ((w4.alloc (.cells #[.bool g1, .slice a1 z1.length c1] 25)).alloc (.cells #[.bool g2, .slice a2 z2.length c2] 25)) (w4.heap.size + 1) (.cells #[.bool g2, .slice a2 z2.length c2] 25) := Box.put (.cells #[.bool g2, .slice a2 z2.length c2] 25) (by simp)
  replace hA := hA.trans (hq.mono hA.size)
  clear hq
  obtain ⟨k0, k1, f0, f1⟩ := E2.two
  go_wp2_with fail
  clear k0 f0 k1 f1
  have ho := sone_any b I (by omega)
  rw [HV.out] at ho
  refine (ho).mono ?_
  rintro e w5 ⟨rfl, hb⟩
  replace A := A.below hb
  replace E1 := E1.below hb
  replace I := I.below hb
  replace E2 := E2.below hb
  replace S1 := S1.below hb
  replace S2 := S2.below hb
  replace E3 := E3.below hb
  replace E4 := E4.below hb
  replace hA := hA.trans (hb.mono hA.size)
  replace hB := hB.trans (hA.mono hB.size)
  replace hu := hu.trans (hA.mono hu.size)
  have zw5 := hA.size
  clear hb hA ho 
  have hA := Below.refl w5.heap.size w5
  obtain ⟨k0, k1, f0, f1⟩ := E1.two
  go_wp2_with fail
  clear k0 f0 k1 f1
  have ho := ione_any b A (by omega)
  rw [HV.out] at ho
  refine (ho).mono ?_
  rintro e w6 ⟨rfl, hb⟩
  replace A := A.below hb
  replace E1 := E1.below hb
  replace I := I.below hb
  replace E2 := E2.below hb
  replace S1 := S1.below hb
  replace S2 := S2.below hb
  replace E3 := E3.below hb
  replace E4 := E4.below hb
  replace hA := hA.trans (hb.mono hA.size)
  replace hB := hB.trans (hA.mono hB.size)
  replace hu := hu.trans (hA.mono hu.size)
  have zw6 := hA.size
  clear hb hA ho 
  go_wp2_with fail
  replace A := A.drew
  replace E1 := E1.drew
  replace I := I.drew
  replace E2 := E2.drew
  replace S1 := S1.drew
  replace S2 := S2.drew
  replace E3 := E3.drew
  replace E4 := E4.drew
  have hr := Below.refl w6.drew.heap.size w6.drew
  have hkeep : ∀ V : World, Below w6.drew.heap.size w6.drew V → (V.cell? ⟨w.heap.size, 0, none⟩ = some (.bool b) ∧ V.cell? ⟨w.heap.size, 1, none⟩ = some (.slice a zs.length cap)) ∧ (V.cell? ⟨w4.heap.size, 0, none⟩ = some (.bool g1) ∧ V.cell? ⟨w4.heap.size, 1, none⟩ = some (.slice a1 z1.length c1)) ∧ (V.cell? ⟨w4.heap.size + 1, 0, none⟩ = some (.bool g2) ∧ V.cell? ⟨w4.heap.size + 1, 1, none⟩ = some (.slice a2 z2.length c2)) := fun V hV => ⟨(E1.below hV).cells, (E3.below hV).cells, (E4.below hV).cells⟩
  have t0 : Hid True := trivial
  go_region_held3 (fun V : World => (V.cell? ⟨w.heap.size, 0, none⟩ = some (.bool b) ∧ V.cell? ⟨w.heap.size, 1, none⟩ = some (.slice a zs.length cap)) ∧ (V.cell? ⟨w4.heap.size, 0, none⟩ = some (.bool g1) ∧ V.cell? ⟨w4.heap.size, 1, none⟩ = some (.slice a1 z1.length c1)) ∧ (V.cell? ⟨w4.heap.size + 1, 0, none⟩ = some (.bool g2) ∧ V.cell? ⟨w4.heap.size + 1, 1, none⟩ = some (.slice a2 z2.length c2)))
    (first | exact hkeep _ hr | exact hkeep _ (hr.a1 _) | exact hkeep _ ((hr.a1 _).a1 _) | exact hkeep _ (((hr.a1 _).a1 _).a1 _) | exact hkeep _ ((((hr.a1 _).a1 _).a1 _).a1 _))
    (first
    | (clear t0
       go_at_call 17
       refine (imake_any A (by omega) b).mono ?_
       rintro e w7 ⟨g3, a3, c3, z3, rfl, S3, N3, v3, l3, hb⟩
       have V3 : Hid (sgn g3 (val z3) = sgn b (val zs)) := v3
       have b3 : z3.length ≤ 30 := by omega
       replace A := A.below hb
       replace E1 := E1.below hb
       replace I := I.below hb
       replace E2 := E2.below hb
       replace S1 := S1.below hb
       replace S2 := S2.below hb
       replace E3 := E3.below hb
       replace E4 := E4.below hb
       replace hr := hr.trans (hb.mono hr.size)
       have zw7 := hb.size
       clear hb v3 l3
       have t1 : Hid True := trivial)
    | (clear t1
       go_at_call 16
       refine (samew_can g1 g3 S1 S3 N1 N3 (by rw [V1.out, V3.out]) (by omega)).mono ?_
       rintro e w8 ⟨rfl, hb⟩
       replace A := A.below hb
       replace E1 := E1.below hb
       replace I := I.below hb
       replace E2 := E2.below hb
       replace S1 := S1.below hb
       replace S2 := S2.below hb
       replace E3 := E3.below hb
       replace E4 := E4.below hb
       replace S3 := S3.below hb
       replace hr := hr.trans (hb.mono hr.size)
       have zw8 := hb.size
       clear hb 
       have t2 : Hid True := trivial)
    | (clear t2
       go_at_call 18
       refine (iof_any x hx _).mono ?_
       rintro e w9 ⟨g4, a4, c4, z4, rfl, S4, N4, v4, l4, hb⟩
       have V4 : Hid (sgn g4 (val z4) = x) := v4
       have b4 : z4.length ≤ 1 := by omega
       replace A := A.below hb
       replace E1 := E1.below hb
       replace I := I.below hb
       replace E2 := E2.below hb
       replace S1 := S1.below hb
       replace S2 := S2.below hb
       replace E3 := E3.below hb
       replace E4 := E4.below hb
       replace S3 := S3.below hb
       replace hr := hr.trans (hb.mono hr.size)
       have zw9 := hb.size
       clear hb v4 l4
       have t3 : Hid True := trivial)
    | (clear t3
       go_at_call 16
       refine (samew_can g2 g4 S2 S4 N2 N4 (by rw [V2.out, V4.out]) (by omega)).mono ?_
       rintro e w10 ⟨rfl, hb⟩
       replace A := A.below hb
       replace E1 := E1.below hb
       replace I := I.below hb
       replace E2 := E2.below hb
       replace S1 := S1.below hb
       replace S2 := S2.below hb
       replace E3 := E3.below hb
       replace E4 := E4.below hb
       replace S3 := S3.below hb
       replace S4 := S4.below hb
       replace hr := hr.trans (hb.mono hr.size)
       have zw10 := hb.size
       clear hb 
       have t4 : Hid True := trivial))
  replace hB := hB.trans ((Below.trans (Below.drew (Below.refl w6.heap.size w6)) hr).mono hB.size)
  replace hu := hu.trans ((Below.trans (Below.drew (Below.refl w6.heap.size w6)) hr).mono hu.size)
  clear hr hkeep t4 
  clear S3 S4
  obtain ⟨k0, k1, f0, f1⟩ := E3.two
  go_wp2_with fail
  clear k0 f0 k1 f1
  refine (over_fr S1 (by omega) w3.heap.size R1.out).mono ?_
  rintro e w11 ⟨rfl, hlo, hhi⟩
  replace S2 := S2.above (fun k hk => hhi k (by omega)) hlo.size
  replace E3 := E3.above hhi hlo.size (by omega)
  replace E4 := E4.above hhi hlo.size (by omega)
  replace hB := hB.trans (hlo.mono (by omega))
  replace hu := hu.trans (hlo.mono (by omega))
  have zw11 := hlo.size
  clear hlo hhi S1 R1 A E1 I E2
  obtain ⟨k0, k1, f0, f1⟩ := E4.two
  go_wp2_with fail
  clear k0 f0 k1 f1
  refine (over_fr S2 (by omega) w4.heap.size R2.out).mono ?_
  rintro e w12 ⟨rfl, hlo, hhi⟩
  replace E3 := E3.above hhi hlo.size (by omega)
  replace E4 := E4.above hhi hlo.size (by omega)
  replace hB := hB.trans (hlo.mono (by omega))
  replace hu := hu.trans (hlo.mono (by omega))
  have zw12 := hlo.size
  clear hlo hhi S2 R2 
  have A := A_u.below hu
  have I := I_u.below hu
  have E1 := E1_u.below hu
  have E2 := E2_u.below hu
  go_wp2_with fail
  replace E3 := E3.drew
  replace E4 := E4.drew
  replace A := A.drew
  replace I := I.drew
  replace E1 := E1.drew
  replace E2 := E2.drew
  have hr := Below.refl w12.drew.heap.size w12.drew
  have hkeep : ∀ V : World, Below w12.drew.heap.size w12.drew V → (V.cell? ⟨w.heap.size, 0, none⟩ = some (.bool b) ∧ V.cell? ⟨w.heap.size, 1, none⟩ = some (.slice a zs.length cap)) ∧ (V.cell? ⟨w2.heap.size, 0, none⟩ = some (.bool b) ∧ V.cell? ⟨w2.heap.size, 1, none⟩ = some (.slice a0 zs.length c0)) := fun V hV => ⟨(E1.below hV).cells, (E2.below hV).cells⟩
  have t0 : Hid True := trivial
  go_region_held3 (fun V : World => (V.cell? ⟨w.heap.size, 0, none⟩ = some (.bool b) ∧ V.cell? ⟨w.heap.size, 1, none⟩ = some (.slice a zs.length cap)) ∧ (V.cell? ⟨w2.heap.size, 0, none⟩ = some (.bool b) ∧ V.cell? ⟨w2.heap.size, 1, none⟩ = some (.slice a0 zs.length c0)))
    (first | exact hkeep _ hr | exact hkeep _ (hr.a1 _) | exact hkeep _ ((hr.a1 _).a1 _) | exact hkeep _ (((hr.a1 _).a1 _).a1 _) | exact hkeep _ ((((hr.a1 _).a1 _).a1 _).a1 _))
    (first
    | (clear t0
       go_at_call 20
       refine (scheck_any b I (by omega)).mono ?_
       rintro e w13 ⟨rfl, hb⟩
       replace E3 := E3.below hb
       replace E4 := E4.below hb
       replace A := A.below hb
       replace I := I.below hb
       replace E1 := E1.below hb
       replace E2 := E2.below hb
       replace hr := hr.trans (hb.mono hr.size)
       have zw13 := hb.size
       clear hb 
       have t1 : Hid True := trivial)
    | (clear t1
       go_at_call 21
       refine (icheck_any b A (by omega)).mono ?_
       rintro e w14 ⟨rfl, hb⟩
       replace E3 := E3.below hb
       replace E4 := E4.below hb
       replace A := A.below hb
       replace I := I.below hb
       replace E1 := E1.below hb
       replace E2 := E2.below hb
       replace hr := hr.trans (hb.mono hr.size)
       have zw14 := hb.size
       clear hb 
       have t2 : Hid True := trivial)
    | (clear t2
       go_at_call 22
       refine (ssign_any b I (by omega)).mono ?_
       rintro e w15 ⟨rfl, hb⟩
       replace E3 := E3.below hb
       replace E4 := E4.below hb
       replace A := A.below hb
       replace I := I.below hb
       replace E1 := E1.below hb
       replace E2 := E2.below hb
       replace hr := hr.trans (hb.mono hr.size)
       have zw15 := hb.size
       clear hb 
       have t3 : Hid True := trivial)
    | (clear t3
       go_at_call 23
       refine (isign_any b A (by omega)).mono ?_
       rintro e w16 ⟨rfl, hb⟩
       replace E3 := E3.below hb
       replace E4 := E4.below hb
       replace A := A.below hb
       replace I := I.below hb
       replace E1 := E1.below hb
       replace E2 := E2.below hb
       replace hr := hr.trans (hb.mono hr.size)
       have zw16 := hb.size
       clear hb 
       have t4 : Hid True := trivial)
    | (clear t4
       go_at_call 16
       refine (samew_yes b I A (by omega)).mono ?_
       rintro e w17 ⟨rfl, hb⟩
       replace E3 := E3.below hb
       replace E4 := E4.below hb
       replace A := A.below hb
       replace I := I.below hb
       replace E1 := E1.below hb
       replace E2 := E2.below hb
       replace hr := hr.trans (hb.mono hr.size)
       have zw17 := hb.size
       clear hb 
       have t5 : Hid True := trivial)
    | (clear t5
       go_at_call 10
       refine (sawake_any _).mono ?_
       rintro e w18 ⟨rfl, hb⟩
       replace E3 := E3.below hb
       replace E4 := E4.below hb
       replace A := A.below hb
       replace I := I.below hb
       replace E1 := E1.below hb
       replace E2 := E2.below hb
       replace hr := hr.trans (hb.mono hr.size)
       have zw18 := hb.size
       clear hb 
       have t6 : Hid True := trivial))
  replace hB := hB.trans ((Below.trans (Below.drew (Below.refl w12.heap.size w12)) hr).mono hB.size)
  replace hu := hu.trans ((Below.trans (Below.drew (Below.refl w12.heap.size w12)) hr).mono hu.size)
  clear hr hkeep t6 
  go_wp2
  go_ret
  exact ⟨rfl, hB⟩

set_option maxRecDepth 100000 in
set_option maxHeartbeats 1000000 in
theorem sforms_long (b : Bool) (a : Option Addr) (n cap : Nat) (x : Int) (w : World) (h : 30 < n) :
    Calls Try.prog 3 #[.agg #[.bool b, .slice a n cap], .int .i64 x] w fun e w' => e = .returned (.bool true) ∧ Below w.heap.size w w' := by
  have l1 := fun w => slong_any b a n cap w
  rw [decide_eq_true h] at l1
  clear h
  have L1 := hide l1
  clear l1
  go_enter Try.func3, Try.ntmps3
  go_wp2_with fail
  have hA := (Below.refl w.heap.size w).alloc (Nat.le_refl _) (.cells #[.bool b, .slice a n cap] 25)
  refine (L1.out _).mono ?_
  rintro e w1 ⟨rfl, hb⟩
  replace hA := hA.trans (hb.mono hA.size)
  go_wp2_with fail
  refine (sawake_any _).mono ?_
  rintro e w2 ⟨rfl, hb2⟩
  replace hA := hA.trans (hb2.mono hA.size)
  go_wp2
  go_ret
  exact ⟨rfl, hA⟩

theorem sforms_any {a : Option Addr} {n cap : Nat} {zs : List Int} {w : World} (b : Bool) (A : Seg 0 w (.slice a n cap) zs) (x : Int) (hx : -9223372036854775808 ≤ x ∧ x ≤ 9223372036854775807) :
    Calls Try.prog 3 #[.agg #[.bool b, .slice a n cap], .int .i64 x] w fun e w' => e = .returned (.bool true) ∧ Below w.heap.size w w' := by
  by_cases h : 30 < n
  · exact sforms_long b a n cap x w h
  · obtain ⟨rfl, _⟩ := A.len
    exact sforms_short b A (by omega) x (by omega)
end Go.Proofs.Ytjoakmhebcfeaaa
