/-
  The walk of RatioKnown.
-/
import Derived.Test.YtblmkddjlfienaaJRatN
namespace Go.Proofs.Ytblmkddjlfienaa
open Go.RowKit

theorem row_nil (w : World) : Row 0 w none [] := ⟨fun j hj => absurd hj (by simp), (fun g o j r e _ => by cases e), (fun j r hr => by simp at hr)⟩
theorem seg_box {W : World} {k : Nat} {cs : Array Value} {t : TypeId} (E : Box W k (.cells cs t (0, 0))) (zs : List Int) (hw : Words zs) (h : cs = (zs.map (Value.int .u64)).toArray) : Seg k W (.slice (some ⟨k, 0, none⟩) zs.length zs.length) zs := by
  subst h
  refine ⟨hw, _, _, rfl, Nat.le_refl _, fun _ => ⟨k, 0, rfl, Nat.le_refl _, E.lt, fun j hj => ?_, fun j hj => frozen_of_heap E.what _⟩⟩
  rw [cell_of_heap E.what]
  simp [hj]
/-- A fraction rounded. -/
def roundS (x d : Int) : Int := if x < 0 then -roundN (-x) d else roundN x d
theorem round_of {g : Bool} {xs ds : List Int} {x d v : Int} (N : Canon g xs) (wx : Words xs) (V : Hid (sgn g (val xs) = x)) (U : Hid (val ds = d)) (h : roundS x d = v) : Hid (sgn g (roundN (val xs) (val ds)) = v) := by
  rw [Hid, ← h, U.out, roundS]
  have hv := V.out
  have hp := val_nonneg wx
  cases g with
  | false =>
    simp [sgn] at hv
    subst hv
    rw [if_neg (by omega)]
    rfl
  | true =>
    have := norm_pos wx N.1 (N.2 rfl)
    simp [sgn] at hv
    subst hv
    rw [if_pos (by omega), Int.neg_neg]
    rfl

set_option maxRecDepth 100000 in
set_option maxHeartbeats 4000000 in
theorem lrknown_any (w : World) : Calls Try.prog 3 #[] w fun e w' => e = .returned (.bool true) ∧ Below w.heap.size w w' := by
  have hB := Below.refl w.heap.size w
  have hfd : ∀ (b : Bool) (s t : Value) (w : World), (Instr.field 27 (.agg #[.bool b, s, t]) 0).run Try.prog w = .ok (.agg #[.bool b, s]) w := fun _ _ _ _ => by kernel_rfl
  go_enter Try.func3, Try.ntmps3
  go_wp2_with fail
  refine (ppair_pos 0 7 (by decide) (by decide) (by decide) _).mono ?_
  rintro e w1 ⟨g1, a1, c1, x1, e1, t1, y1, rfl, F1, P1, I1, hb⟩
  replace I1 : Is g1 x1 y1 (Rat.divInt 0 1) (1) := I1.to (by decide +kernel)
  replace hB := hB.trans (hb.mono hB.size)
  have zz1 := hb.size
  have zh1 := hB.size
  clear hb
  have hA := Below.refl w1.heap.size w1
  have hq : Below w1.heap.size w1 (w1.alloc (.cells #[.bool g1, .slice a1 x1.length c1, .slice e1 y1.length t1] 27)) := (Below.refl _ _).alloc (Nat.le_refl _) _
  replace F1 := F1.below hq
  have E1 : Box (w1.alloc (.cells #[.bool g1, .slice a1 x1.length c1, .slice e1 y1.length t1] 27)) (w1.heap.size) (.cells #[.bool g1, .slice a1 x1.length c1, .slice e1 y1.length t1] 27) := Box.put (.cells #[.bool g1, .slice a1 x1.length c1, .slice e1 y1.length t1] 27) rfl
  replace hA := hA.trans (hq.mono hA.size)
  replace hB := hB.trans (hq.mono hB.size)
  clear hq
  clear hA
  go_wp2_with fail
  obtain ⟨u2, hname⟩ : ∃ u, (w1.alloc (.cells #[.bool g1, .slice a1 x1.length c1, .slice e1 y1.length t1] 27)) = u := ⟨_, rfl⟩
  rw [hname] at hB F1 E1 ⊢
  have zh2 := hB.size
  clear hname
  refine (ppair_zero 1 0 (by decide) (by decide) rfl _).mono ?_
  rintro e w3 ⟨rfl, hb⟩
  replace F1 := F1.below hb
  replace E1 := E1.below hb
  replace hB := hB.trans (hb.mono hB.size)
  have zz3 := hb.size
  have zh3 := hB.size
  clear hb
  have qE1 := E1.lt
  have hA := Below.refl w3.heap.size w3
  have hq : Below w3.heap.size w3 (w3.alloc (.cells #[.bool false, .slice none 0 0, .slice none 0 0] 27)) := (Below.refl _ _).alloc (Nat.le_refl _) _
  replace F1 := F1.below hq
  replace E1 := E1.below hq
  have Z2 : Box (w3.alloc (.cells #[.bool false, .slice none 0 0, .slice none 0 0] 27)) (w3.heap.size) (.cells #[.bool false, .slice none 0 0, .slice none 0 0] 27) := Box.put (.cells #[.bool false, .slice none 0 0, .slice none 0 0] 27) rfl
  replace hA := hA.trans (hq.mono hA.size)
  replace hB := hB.trans (hq.mono hB.size)
  clear hq
  clear hA
  go_wp2_with fail
  obtain ⟨u4, hname⟩ : ∃ u, (w3.alloc (.cells #[.bool false, .slice none 0 0, .slice none 0 0] 27)) = u := ⟨_, rfl⟩
  rw [hname] at hB F1 E1 Z2 ⊢
  have zh4 := hB.size
  clear hname
  refine (lrof_any (-4) 1 (by decide) (by decide) _).mono ?_
  rintro e w5 ⟨g3, a3, c3, x3, e3, t3, y3, rfl, F3, P3, N3, M3, V3, U3, b3, B3, hb⟩
  have I3 := of_is N3 M3 V3 U3 b3 B3 (by decide) (by decide)
  clear P3
  replace F1 := F1.below hb
  replace E1 := E1.below hb
  replace Z2 := Z2.below hb
  replace hB := hB.trans (hb.mono hB.size)
  have zz5 := hb.size
  have zh5 := hB.size
  clear hb
  have qE1 := E1.lt
  have hA := Below.refl w5.heap.size w5
  have hq : Below w5.heap.size w5 (w5.alloc (.cells #[.int .u64 6] 33)) := (Below.refl _ _).alloc (Nat.le_refl _) _
  replace F1 := F1.below hq
  replace E1 := E1.below hq
  replace Z2 := Z2.below hq
  replace F3 := F3.below hq
  have M6 : Box (w5.alloc (.cells #[.int .u64 6] 33)) (w5.heap.size) (.cells #[.int .u64 6] 33) := Box.put (.cells #[.int .u64 6] 33) rfl
  replace hA := hA.trans (hq.mono hA.size)
  replace hB := hB.trans (hq.mono hB.size)
  clear hq
  clear hA
  go_wp2_with fail
  obtain ⟨u6, hname⟩ : ∃ u, (w5.alloc (.cells #[.int .u64 6] 33)) = u := ⟨_, rfl⟩
  rw [hname] at hB F1 E1 Z2 F3 M6 ⊢
  have zh6 := hB.size
  clear hname
  have s6 : Seg (w5.heap.size) _ (.slice (some ⟨w5.heap.size, 0, none⟩) [6].length 1) [6] := seg_box M6 [6] (words_of rfl) rfl
  refine (pmake_ok (lo := 0) (n := 1) g3 ⟨F3.up.mono (Nat.zero_le _), s6.mono (Nat.zero_le _)⟩ (by omega) (by simp) ⟨by omega, by simp⟩ N3 (by decide)).mono ?_
  rintro e w7 ⟨g4, a4, c4, x4, e4, t4, y4, rfl, F4, P4, I4, hb⟩
  replace I4 : Is g4 x4 y4 (Rat.divInt (-2) 3) (1) := I4.to (by rw [V3.out]; decide +kernel)
  replace F1 := F1.below hb
  replace E1 := E1.below hb
  replace Z2 := Z2.below hb
  replace F3 := F3.below hb
  replace M6 := M6.below hb
  replace hB := hB.trans (hb.mono hB.size)
  have zz7 := hb.size
  have zh7 := hB.size
  clear hb
  clear s6
  clear M6
  clear F3
  have qE1 := E1.lt
  have hA := Below.refl w7.heap.size w7
  have hq : Below w7.heap.size w7 (w7.alloc (.cells #[.bool g4, .slice a4 x4.length c4, .slice e4 y4.length t4] 27)) := (Below.refl _ _).alloc (Nat.le_refl _) _
  replace F1 := F1.below hq
  replace E1 := E1.below hq
  replace Z2 := Z2.below hq
  replace F4 := F4.below hq
  have E4 : Box (w7.alloc (.cells #[.bool g4, .slice a4 x4.length c4, .slice e4 y4.length t4] 27)) (w7.heap.size) (.cells #[.bool g4, .slice a4 x4.length c4, .slice e4 y4.length t4] 27) := Box.put (.cells #[.bool g4, .slice a4 x4.length c4, .slice e4 y4.length t4] 27) rfl
  replace hA := hA.trans (hq.mono hA.size)
  replace hB := hB.trans (hq.mono hB.size)
  clear hq
  clear hA
  go_wp2_with fail
  obtain ⟨u8, hname⟩ : ∃ u, (w7.alloc (.cells #[.bool g4, .slice a4 x4.length c4, .slice e4 y4.length t4] 27)) = u := ⟨_, rfl⟩
  rw [hname] at hB F1 E1 Z2 F4 E4 ⊢
  have zh8 := hB.size
  clear hname
  refine (padd_ok (cap := 0) (m := 1) (row_nil _) (by simp) (fun r hr => by simp at hr) (by omega) (fun r hr => by simp at hr)).mono ?_
  rintro e w9 ⟨g5, a5, c5, x5, e5, t5, y5, rfl, F5, P5, I5, hb⟩
  replace I5 : Is g5 x5 y5 (Rat.divInt 0 1) (1) := (I5.mono (by simp)).to (by decide +kernel)
  replace F1 := F1.below hb
  replace E1 := E1.below hb
  replace Z2 := Z2.below hb
  replace F4 := F4.below hb
  replace E4 := E4.below hb
  replace hB := hB.trans (hb.mono hB.size)
  have zz9 := hb.size
  have zh9 := hB.size
  clear hb
  have qE1 := E1.lt
  have qE4 := E4.lt
  have hA := Below.refl w9.heap.size w9
  have hq : Below w9.heap.size w9 (w9.alloc (.cells #[.bool g5, .slice a5 x5.length c5, .slice e5 y5.length t5] 27)) := (Below.refl _ _).alloc (Nat.le_refl _) _
  replace F1 := F1.below hq
  replace E1 := E1.below hq
  replace Z2 := Z2.below hq
  replace F4 := F4.below hq
  replace E4 := E4.below hq
  replace F5 := F5.below hq
  have E5 : Box (w9.alloc (.cells #[.bool g5, .slice a5 x5.length c5, .slice e5 y5.length t5] 27)) (w9.heap.size) (.cells #[.bool g5, .slice a5 x5.length c5, .slice e5 y5.length t5] 27) := Box.put (.cells #[.bool g5, .slice a5 x5.length c5, .slice e5 y5.length t5] 27) rfl
  replace hA := hA.trans (hq.mono hA.size)
  replace hB := hB.trans (hq.mono hB.size)
  clear hq
  clear hA
  go_wp2_with fail
  obtain ⟨u10, hname⟩ : ∃ u, (w9.alloc (.cells #[.bool g5, .slice a5 x5.length c5, .slice e5 y5.length t5] 27)) = u := ⟨_, rfl⟩
  rw [hname] at hB F1 E1 Z2 F4 E4 F5 E5 ⊢
  have zh10 := hB.size
  clear hname
  refine (pmul_ok (cap := 0) (m := 1) (row_nil _) (by simp) (fun r hr => by simp at hr) (by omega) (fun r hr => by simp at hr)).mono ?_
  rintro e w11 ⟨g6, a6, c6, x6, e6, t6, y6, rfl, F6, P6, I6, hb⟩
  replace I6 : Is g6 x6 y6 (Rat.divInt 1 1) (1) := (I6.mono (by simp)).to (by decide +kernel)
  replace F1 := F1.below hb
  replace E1 := E1.below hb
  replace Z2 := Z2.below hb
  replace F4 := F4.below hb
  replace E4 := E4.below hb
  replace F5 := F5.below hb
  replace E5 := E5.below hb
  replace hB := hB.trans (hb.mono hB.size)
  have zz11 := hb.size
  have zh11 := hB.size
  clear hb
  have qE1 := E1.lt
  have qE4 := E4.lt
  have qE5 := E5.lt
  have hA := Below.refl w11.heap.size w11
  have hq : Below w11.heap.size w11 (w11.alloc (.cells #[.bool g6, .slice a6 x6.length c6, .slice e6 y6.length t6] 27)) := (Below.refl _ _).alloc (Nat.le_refl _) _
  replace F1 := F1.below hq
  replace E1 := E1.below hq
  replace Z2 := Z2.below hq
  replace F4 := F4.below hq
  replace E4 := E4.below hq
  replace F5 := F5.below hq
  replace E5 := E5.below hq
  replace F6 := F6.below hq
  have E6 : Box (w11.alloc (.cells #[.bool g6, .slice a6 x6.length c6, .slice e6 y6.length t6] 27)) (w11.heap.size) (.cells #[.bool g6, .slice a6 x6.length c6, .slice e6 y6.length t6] 27) := Box.put (.cells #[.bool g6, .slice a6 x6.length c6, .slice e6 y6.length t6] 27) rfl
  replace hA := hA.trans (hq.mono hA.size)
  replace hB := hB.trans (hq.mono hB.size)
  clear hq
  clear hA
  go_wp2_with fail
  obtain ⟨u12, hname⟩ : ∃ u, (w11.alloc (.cells #[.bool g6, .slice a6 x6.length c6, .slice e6 y6.length t6] 27)) = u := ⟨_, rfl⟩
  rw [hname] at hB F1 E1 Z2 F4 E4 F5 E5 F6 E6 ⊢
  have zh12 := hB.size
  clear hname
  refine (lrof_any (1) 2 (by decide) (by decide) _).mono ?_
  rintro e w13 ⟨g7, a7, c7, x7, e7, t7, y7, rfl, F7, P7, N7, M7, V7, U7, b7, B7, hb⟩
  have I7 := of_is N7 M7 V7 U7 b7 B7 (by decide) (by decide)
  clear P7
  replace F1 := F1.below hb
  replace E1 := E1.below hb
  replace Z2 := Z2.below hb
  replace F4 := F4.below hb
  replace E4 := E4.below hb
  replace F5 := F5.below hb
  replace E5 := E5.below hb
  replace F6 := F6.below hb
  replace E6 := E6.below hb
  replace hB := hB.trans (hb.mono hB.size)
  have zz13 := hb.size
  have zh13 := hB.size
  clear hb
  go_wp2_with fail
  refine (lrof_any (1) 2 (by decide) (by decide) _).mono ?_
  rintro e w14 ⟨g8, a8, c8, x8, e8, t8, y8, rfl, F8, P8, N8, M8, V8, U8, b8, B8, hb⟩
  have I8 := of_is N8 M8 V8 U8 b8 B8 (by decide) (by decide)
  clear P8
  replace F1 := F1.below hb
  replace E1 := E1.below hb
  replace Z2 := Z2.below hb
  replace F4 := F4.below hb
  replace E4 := E4.below hb
  replace F5 := F5.below hb
  replace E5 := E5.below hb
  replace F6 := F6.below hb
  replace E6 := E6.below hb
  replace F7 := F7.below hb
  replace hB := hB.trans (hb.mono hB.size)
  have zz14 := hb.size
  have zh14 := hB.size
  clear hb
  go_wp2_with fail
  refine (psub_ok g7 g8 F7 F8 ⟨I7.lu, I7.ld⟩ ⟨I8.lu, I8.ld⟩ (by omega) (by omega) (I7.good F7.up.words F7.down.words) (I8.good F8.up.words F8.down.words)).mono ?_
  rintro e w15 ⟨g9, a9, c9, x9, e9, t9, y9, rfl, F9, P9, I9, hb⟩
  replace I9 : Is g9 x9 y9 (Rat.divInt 0 1) (3) := (I9.mono (by omega)).to (by rw [I7.rat, I8.rat]; decide +kernel)
  replace F1 := F1.below hb
  replace E1 := E1.below hb
  replace Z2 := Z2.below hb
  replace F4 := F4.below hb
  replace E4 := E4.below hb
  replace F5 := F5.below hb
  replace E5 := E5.below hb
  replace F6 := F6.below hb
  replace E6 := E6.below hb
  replace F7 := F7.below hb
  replace F8 := F8.below hb
  replace hB := hB.trans (hb.mono hB.size)
  have zz15 := hb.size
  have zh15 := hB.size
  clear hb
  clear F7 F8
  have qE1 := E1.lt
  have qE4 := E4.lt
  have qE5 := E5.lt
  have qE6 := E6.lt
  have hA := Below.refl w15.heap.size w15
  have hq : Below w15.heap.size w15 (w15.alloc (.cells #[.bool g9, .slice a9 x9.length c9, .slice e9 y9.length t9] 27)) := (Below.refl _ _).alloc (Nat.le_refl _) _
  replace F1 := F1.below hq
  replace E1 := E1.below hq
  replace Z2 := Z2.below hq
  replace F4 := F4.below hq
  replace E4 := E4.below hq
  replace F5 := F5.below hq
  replace E5 := E5.below hq
  replace F6 := F6.below hq
  replace E6 := E6.below hq
  replace F9 := F9.below hq
  have E9 : Box (w15.alloc (.cells #[.bool g9, .slice a9 x9.length c9, .slice e9 y9.length t9] 27)) (w15.heap.size) (.cells #[.bool g9, .slice a9 x9.length c9, .slice e9 y9.length t9] 27) := Box.put (.cells #[.bool g9, .slice a9 x9.length c9, .slice e9 y9.length t9] 27) rfl
  replace hA := hA.trans (hq.mono hA.size)
  replace hB := hB.trans (hq.mono hB.size)
  clear hq
  clear hA
  go_wp2_with fail
  obtain ⟨u16, hname⟩ : ∃ u, (w15.alloc (.cells #[.bool g9, .slice a9 x9.length c9, .slice e9 y9.length t9] 27)) = u := ⟨_, rfl⟩
  rw [hname] at hB F1 E1 Z2 F4 E4 F5 E5 F6 E6 F9 E9 ⊢
  have zh16 := hB.size
  clear hname
  refine (lrof_any (1) 2 (by decide) (by decide) _).mono ?_
  rintro e w17 ⟨g10, a10, c10, x10, e10, t10, y10, rfl, F10, P10, N10, M10, V10, U10, b10, B10, hb⟩
  have I10 := of_is N10 M10 V10 U10 b10 B10 (by decide) (by decide)
  clear P10
  replace F1 := F1.below hb
  replace E1 := E1.below hb
  replace Z2 := Z2.below hb
  replace F4 := F4.below hb
  replace E4 := E4.below hb
  replace F5 := F5.below hb
  replace E5 := E5.below hb
  replace F6 := F6.below hb
  replace E6 := E6.below hb
  replace F9 := F9.below hb
  replace E9 := E9.below hb
  replace hB := hB.trans (hb.mono hB.size)
  have zz17 := hb.size
  have zh17 := hB.size
  clear hb
  go_wp2_with fail
  refine (lrof_any (-1) 4 (by decide) (by decide) _).mono ?_
  rintro e w18 ⟨g11, a11, c11, x11, e11, t11, y11, rfl, F11, P11, N11, M11, V11, U11, b11, B11, hb⟩
  have I11 := of_is N11 M11 V11 U11 b11 B11 (by decide) (by decide)
  clear P11
  replace F1 := F1.below hb
  replace E1 := E1.below hb
  replace Z2 := Z2.below hb
  replace F4 := F4.below hb
  replace E4 := E4.below hb
  replace F5 := F5.below hb
  replace E5 := E5.below hb
  replace F6 := F6.below hb
  replace E6 := E6.below hb
  replace F9 := F9.below hb
  replace E9 := E9.below hb
  replace F10 := F10.below hb
  replace hB := hB.trans (hb.mono hB.size)
  have zz18 := hb.size
  have zh18 := hB.size
  clear hb
  go_wp2_with fail
  refine (pdiv_ok g10 g11 F10 F11 ⟨I10.lu, I10.ld⟩ ⟨I11.lu, I11.ld⟩ (by omega) (by omega) (I10.good F10.up.words F10.down.words) (I11.good F11.up.words F11.down.words) (by rw [I11.rat]; decide +kernel)).mono ?_
  rintro e w19 ⟨g12, a12, c12, x12, e12, t12, y12, rfl, F12, P12, I12, hb⟩
  replace I12 : Is g12 x12 y12 (Rat.divInt (-2) 1) (3) := (I12.mono (by omega)).to (by rw [I10.rat, I11.rat]; decide +kernel)
  replace F1 := F1.below hb
  replace E1 := E1.below hb
  replace Z2 := Z2.below hb
  replace F4 := F4.below hb
  replace E4 := E4.below hb
  replace F5 := F5.below hb
  replace E5 := E5.below hb
  replace F6 := F6.below hb
  replace E6 := E6.below hb
  replace F9 := F9.below hb
  replace E9 := E9.below hb
  replace F10 := F10.below hb
  replace F11 := F11.below hb
  replace hB := hB.trans (hb.mono hB.size)
  have zz19 := hb.size
  have zh19 := hB.size
  clear hb
  clear F10 F11
  have qE1 := E1.lt
  have qE4 := E4.lt
  have qE5 := E5.lt
  have qE6 := E6.lt
  have qE9 := E9.lt
  have hA := Below.refl w19.heap.size w19
  have hq : Below w19.heap.size w19 (w19.alloc (.cells #[.bool g12, .slice a12 x12.length c12, .slice e12 y12.length t12] 27)) := (Below.refl _ _).alloc (Nat.le_refl _) _
  replace F1 := F1.below hq
  replace E1 := E1.below hq
  replace Z2 := Z2.below hq
  replace F4 := F4.below hq
  replace E4 := E4.below hq
  replace F5 := F5.below hq
  replace E5 := E5.below hq
  replace F6 := F6.below hq
  replace E6 := E6.below hq
  replace F9 := F9.below hq
  replace E9 := E9.below hq
  replace F12 := F12.below hq
  have E12 : Box (w19.alloc (.cells #[.bool g12, .slice a12 x12.length c12, .slice e12 y12.length t12] 27)) (w19.heap.size) (.cells #[.bool g12, .slice a12 x12.length c12, .slice e12 y12.length t12] 27) := Box.put (.cells #[.bool g12, .slice a12 x12.length c12, .slice e12 y12.length t12] 27) rfl
  replace hA := hA.trans (hq.mono hA.size)
  replace hB := hB.trans (hq.mono hB.size)
  clear hq
  clear hA
  go_wp2_with fail
  obtain ⟨u20, hname⟩ : ∃ u, (w19.alloc (.cells #[.bool g12, .slice a12 x12.length c12, .slice e12 y12.length t12] 27)) = u := ⟨_, rfl⟩
  rw [hname] at hB F1 E1 Z2 F4 E4 F5 E5 F6 E6 F9 E9 F12 E12 ⊢
  have zh20 := hB.size
  clear hname
  refine (lrof_any (1) 2 (by decide) (by decide) _).mono ?_
  rintro e w21 ⟨g13, a13, c13, x13, e13, t13, y13, rfl, F13, P13, N13, M13, V13, U13, b13, B13, hb⟩
  have I13 := of_is N13 M13 V13 U13 b13 B13 (by decide) (by decide)
  clear P13
  replace F1 := F1.below hb
  replace E1 := E1.below hb
  replace Z2 := Z2.below hb
  replace F4 := F4.below hb
  replace E4 := E4.below hb
  replace F5 := F5.below hb
  replace E5 := E5.below hb
  replace F6 := F6.below hb
  replace E6 := E6.below hb
  replace F9 := F9.below hb
  replace E9 := E9.below hb
  replace F12 := F12.below hb
  replace E12 := E12.below hb
  replace hB := hB.trans (hb.mono hB.size)
  have zz21 := hb.size
  have zh21 := hB.size
  clear hb
  go_wp2_with fail
  refine (lrof_any (0) 1 (by decide) (by decide) _).mono ?_
  rintro e w22 ⟨g14, a14, c14, x14, e14, t14, y14, rfl, F14, P14, N14, M14, V14, U14, b14, B14, hb⟩
  have I14 := of_is N14 M14 V14 U14 b14 B14 (by decide) (by decide)
  clear P14
  replace F1 := F1.below hb
  replace E1 := E1.below hb
  replace Z2 := Z2.below hb
  replace F4 := F4.below hb
  replace E4 := E4.below hb
  replace F5 := F5.below hb
  replace E5 := E5.below hb
  replace F6 := F6.below hb
  replace E6 := E6.below hb
  replace F9 := F9.below hb
  replace E9 := E9.below hb
  replace F12 := F12.below hb
  replace E12 := E12.below hb
  replace F13 := F13.below hb
  replace hB := hB.trans (hb.mono hB.size)
  have zz22 := hb.size
  have zh22 := hB.size
  clear hb
  go_wp2_with fail
  refine (pdiv_zero (n := 1) (m := 1) g13 g14 F13 F14 ⟨I13.lu, I13.ld⟩ ⟨I14.lu, I14.ld⟩ (by omega) (by omega) (I13.good F13.up.words F13.down.words) (I14.good F14.up.words F14.down.words) (by rw [I14.rat]; decide +kernel)).mono ?_
  rintro e w23 ⟨rfl, hb⟩
  replace F1 := F1.below hb
  replace E1 := E1.below hb
  replace Z2 := Z2.below hb
  replace F4 := F4.below hb
  replace E4 := E4.below hb
  replace F5 := F5.below hb
  replace E5 := E5.below hb
  replace F6 := F6.below hb
  replace E6 := E6.below hb
  replace F9 := F9.below hb
  replace E9 := E9.below hb
  replace F12 := F12.below hb
  replace E12 := E12.below hb
  replace F13 := F13.below hb
  replace F14 := F14.below hb
  replace hB := hB.trans (hb.mono hB.size)
  have zz23 := hb.size
  have zh23 := hB.size
  clear hb
  clear F13 F14
  obtain ⟨k0, k1, k2, f0, f1, f2⟩ := E1.three
  have qE1 := E1.lt
  have qE4 := E4.lt
  have qE5 := E5.lt
  have qE6 := E6.lt
  have qE9 := E9.lt
  have qE12 := E12.lt
  have hA := Below.refl w23.heap.size w23
  have hq : Below w23.heap.size w23 (w23.alloc (.cells #[.bool false, .slice none 0 0, .slice none 0 0] 27)) := (Below.refl _ _).alloc (Nat.le_refl _) _
  replace F1 := F1.below hq
  replace E1 := E1.below hq
  replace Z2 := Z2.below hq
  replace F4 := F4.below hq
  replace E4 := E4.below hq
  replace F5 := F5.below hq
  replace E5 := E5.below hq
  replace F6 := F6.below hq
  replace E6 := E6.below hq
  replace F9 := F9.below hq
  replace E9 := E9.below hq
  replace F12 := F12.below hq
  replace E12 := E12.below hq
  have Z15 : Box (w23.alloc (.cells #[.bool false, .slice none 0 0, .slice none 0 0] 27)) (w23.heap.size) (.cells #[.bool false, .slice none 0 0, .slice none 0 0] 27) := Box.put (.cells #[.bool false, .slice none 0 0, .slice none 0 0] 27) rfl
  replace hA := hA.trans (hq.mono hA.size)
  replace hB := hB.trans (hq.mono hB.size)
  clear hq
  clear hA
  go_wp2_with fail
  clear k0 k1 k2 f0 f1 f2
  obtain ⟨u24, hname⟩ : ∃ u, (w23.alloc (.cells #[.bool false, .slice none 0 0, .slice none 0 0] 27)) = u := ⟨_, rfl⟩
  rw [hname] at hB F1 E1 Z2 F4 E4 F5 E5 F6 E6 F9 E9 F12 E12 Z15 ⊢
  have zh24 := hB.size
  clear hname
  refine (lris_yes g1 F1 (0) 1 (by decide) (by decide) (by decide) I1 (by decide)).mono ?_
  rintro e w25 ⟨rfl, hb⟩
  replace F1 := F1.below hb
  replace E1 := E1.below hb
  replace Z2 := Z2.below hb
  replace F4 := F4.below hb
  replace E4 := E4.below hb
  replace F5 := F5.below hb
  replace E5 := E5.below hb
  replace F6 := F6.below hb
  replace E6 := E6.below hb
  replace F9 := F9.below hb
  replace E9 := E9.below hb
  replace F12 := F12.below hb
  replace E12 := E12.below hb
  replace Z15 := Z15.below hb
  replace hB := hB.trans (hb.mono hB.size)
  have zz25 := hb.size
  have zh25 := hB.size
  clear hb
  clear E1 F1
  obtain ⟨k0, k1, k2, f0, f1, f2⟩ := E4.three
  go_wp2_with fail
  clear k0 k1 k2 f0 f1 f2
  refine (lris_yes g4 F4 (-2) 3 (by decide) (by decide) (by decide) I4 (by decide)).mono ?_
  rintro e w26 ⟨rfl, hb⟩
  replace Z2 := Z2.below hb
  replace F4 := F4.below hb
  replace E4 := E4.below hb
  replace F5 := F5.below hb
  replace E5 := E5.below hb
  replace F6 := F6.below hb
  replace E6 := E6.below hb
  replace F9 := F9.below hb
  replace E9 := E9.below hb
  replace F12 := F12.below hb
  replace E12 := E12.below hb
  replace Z15 := Z15.below hb
  replace hB := hB.trans (hb.mono hB.size)
  have zz26 := hb.size
  have zh26 := hB.size
  clear hb
  clear E4 F4
  obtain ⟨k0, k1, k2, f0, f1, f2⟩ := E5.three
  go_wp2_with fail
  clear k0 k1 k2 f0 f1 f2
  refine (lris_yes g5 F5 (0) 1 (by decide) (by decide) (by decide) I5 (by decide)).mono ?_
  rintro e w27 ⟨rfl, hb⟩
  replace Z2 := Z2.below hb
  replace F5 := F5.below hb
  replace E5 := E5.below hb
  replace F6 := F6.below hb
  replace E6 := E6.below hb
  replace F9 := F9.below hb
  replace E9 := E9.below hb
  replace F12 := F12.below hb
  replace E12 := E12.below hb
  replace Z15 := Z15.below hb
  replace hB := hB.trans (hb.mono hB.size)
  have zz27 := hb.size
  have zh27 := hB.size
  clear hb
  clear E5 F5
  obtain ⟨k0, k1, k2, f0, f1, f2⟩ := E6.three
  go_wp2_with fail
  clear k0 k1 k2 f0 f1 f2
  refine (lris_yes g6 F6 (1) 1 (by decide) (by decide) (by decide) I6 (by decide)).mono ?_
  rintro e w28 ⟨rfl, hb⟩
  replace Z2 := Z2.below hb
  replace F6 := F6.below hb
  replace E6 := E6.below hb
  replace F9 := F9.below hb
  replace E9 := E9.below hb
  replace F12 := F12.below hb
  replace E12 := E12.below hb
  replace Z15 := Z15.below hb
  replace hB := hB.trans (hb.mono hB.size)
  have zz28 := hb.size
  have zh28 := hB.size
  clear hb
  clear E6 F6
  obtain ⟨k0, k1, k2, f0, f1, f2⟩ := E9.three
  go_wp2_with fail
  clear k0 k1 k2 f0 f1 f2
  refine (lris_yes g9 F9 (0) 1 (by decide) (by decide) (by decide) I9 (by decide)).mono ?_
  rintro e w29 ⟨rfl, hb⟩
  replace Z2 := Z2.below hb
  replace F9 := F9.below hb
  replace E9 := E9.below hb
  replace F12 := F12.below hb
  replace E12 := E12.below hb
  replace Z15 := Z15.below hb
  replace hB := hB.trans (hb.mono hB.size)
  have zz29 := hb.size
  have zh29 := hB.size
  clear hb
  clear E9 F9
  obtain ⟨k0, k1, k2, f0, f1, f2⟩ := E12.three
  go_wp2_with fail
  clear k0 k1 k2 f0 f1 f2
  refine (lris_yes g12 F12 (-2) 1 (by decide) (by decide) (by decide) I12 (by decide)).mono ?_
  rintro e w30 ⟨rfl, hb⟩
  replace Z2 := Z2.below hb
  replace F12 := F12.below hb
  replace E12 := E12.below hb
  replace Z15 := Z15.below hb
  replace hB := hB.trans (hb.mono hB.size)
  have zz30 := hb.size
  have zh30 := hB.size
  clear hb
  clear E12 F12
  go_wp2_with fail
  refine (lrof_any (1) 2 (by decide) (by decide) _).mono ?_
  rintro e w31 ⟨g16, a16, c16, x16, e16, t16, y16, rfl, F16, P16, N16, M16, V16, U16, b16, B16, hb⟩
  have I16 := of_is N16 M16 V16 U16 b16 B16 (by decide) (by decide)
  clear P16
  replace Z2 := Z2.below hb
  replace Z15 := Z15.below hb
  replace hB := hB.trans (hb.mono hB.size)
  have zz31 := hb.size
  have zh31 := hB.size
  clear hb
  go_wp2_with fail
  refine (lrof_any (2) 3 (by decide) (by decide) _).mono ?_
  rintro e w32 ⟨g17, a17, c17, x17, e17, t17, y17, rfl, F17, P17, N17, M17, V17, U17, b17, B17, hb⟩
  have I17 := of_is N17 M17 V17 U17 b17 B17 (by decide) (by decide)
  clear P17
  replace Z2 := Z2.below hb
  replace Z15 := Z15.below hb
  replace F16 := F16.below hb
  replace hB := hB.trans (hb.mono hB.size)
  have zz32 := hb.size
  have zh32 := hB.size
  clear hb
  go_wp2_with fail
  have hk := pcmp_ok g16 g17 F16 F17 I16 I17 (by omega)
  rw [show cmpR (Rat.divInt 1 2) (Rat.divInt 2 3) = -1 by decide +kernel] at hk
  refine (hk).mono ?_
  rintro e w33 ⟨rfl, hb⟩
  replace Z2 := Z2.below hb
  replace Z15 := Z15.below hb
  replace F16 := F16.below hb
  replace F17 := F17.below hb
  replace hB := hB.trans (hb.mono hB.size)
  have zz33 := hb.size
  have zh33 := hB.size
  clear hb
  clear hk
  clear F16 F17
  go_wp2_with fail
  refine (lrof_any (2) 3 (by decide) (by decide) _).mono ?_
  rintro e w34 ⟨g18, a18, c18, x18, e18, t18, y18, rfl, F18, P18, N18, M18, V18, U18, b18, B18, hb⟩
  have I18 := of_is N18 M18 V18 U18 b18 B18 (by decide) (by decide)
  clear P18
  replace Z2 := Z2.below hb
  replace Z15 := Z15.below hb
  replace hB := hB.trans (hb.mono hB.size)
  have zz34 := hb.size
  have zh34 := hB.size
  clear hb
  go_wp2_with fail
  refine (ppower_pos g18 F18 I18 (by omega) 3 (by omega)).mono ?_
  rintro e w35 ⟨g19, a19, c19, x19, e19, t19, y19, rfl, F19, P19, I19, hb⟩
  replace I19 : Is g19 x19 y19 (Rat.divInt 8 27) (13) := (I19.mono (by omega)).to (by decide +kernel)
  replace Z2 := Z2.below hb
  replace Z15 := Z15.below hb
  replace F18 := F18.below hb
  replace hB := hB.trans (hb.mono hB.size)
  have zz35 := hb.size
  have zh35 := hB.size
  clear hb
  clear F18
  have hA := Below.refl w35.heap.size w35
  have hq : Below w35.heap.size w35 (w35.alloc (.cells #[.bool g19, .slice a19 x19.length c19, .slice e19 y19.length t19] 27)) := (Below.refl _ _).alloc (Nat.le_refl _) _
  replace Z2 := Z2.below hq
  replace Z15 := Z15.below hq
  replace F19 := F19.below hq
  have E19 : Box (w35.alloc (.cells #[.bool g19, .slice a19 x19.length c19, .slice e19 y19.length t19] 27)) (w35.heap.size) (.cells #[.bool g19, .slice a19 x19.length c19, .slice e19 y19.length t19] 27) := Box.put (.cells #[.bool g19, .slice a19 x19.length c19, .slice e19 y19.length t19] 27) rfl
  replace hA := hA.trans (hq.mono hA.size)
  replace hB := hB.trans (hq.mono hB.size)
  clear hq
  clear hA
  go_wp2_with fail
  obtain ⟨u36, hname⟩ : ∃ u, (w35.alloc (.cells #[.bool g19, .slice a19 x19.length c19, .slice e19 y19.length t19] 27)) = u := ⟨_, rfl⟩
  rw [hname] at hB Z2 Z15 F19 E19 ⊢
  have zh36 := hB.size
  clear hname
  refine (lrof_any (2) 3 (by decide) (by decide) _).mono ?_
  rintro e w37 ⟨g20, a20, c20, x20, e20, t20, y20, rfl, F20, P20, N20, M20, V20, U20, b20, B20, hb⟩
  have I20 := of_is N20 M20 V20 U20 b20 B20 (by decide) (by decide)
  clear P20
  replace Z2 := Z2.below hb
  replace Z15 := Z15.below hb
  replace F19 := F19.below hb
  replace E19 := E19.below hb
  replace hB := hB.trans (hb.mono hB.size)
  have zz37 := hb.size
  have zh37 := hB.size
  clear hb
  go_wp2_with fail
  refine (ppower_neg g20 F20 I20 (by omega) 2 (by omega) (by omega) (fun h => absurd ((I20.zero_iff F20.up.words).2 h) (by decide +kernel))).mono ?_
  rintro e w38 ⟨g21, a21, c21, x21, e21, t21, y21, rfl, F21, P21, I21, hb⟩
  replace I21 : Is g21 x21 y21 (Rat.divInt 9 4) (13) := (I21.mono (by omega)).to (by decide +kernel)
  replace Z2 := Z2.below hb
  replace Z15 := Z15.below hb
  replace F19 := F19.below hb
  replace E19 := E19.below hb
  replace F20 := F20.below hb
  replace hB := hB.trans (hb.mono hB.size)
  have zz38 := hb.size
  have zh38 := hB.size
  clear hb
  clear F20
  have qE19 := E19.lt
  have hA := Below.refl w38.heap.size w38
  have hq : Below w38.heap.size w38 (w38.alloc (.cells #[.bool g21, .slice a21 x21.length c21, .slice e21 y21.length t21] 27)) := (Below.refl _ _).alloc (Nat.le_refl _) _
  replace Z2 := Z2.below hq
  replace Z15 := Z15.below hq
  replace F19 := F19.below hq
  replace E19 := E19.below hq
  replace F21 := F21.below hq
  have E21 : Box (w38.alloc (.cells #[.bool g21, .slice a21 x21.length c21, .slice e21 y21.length t21] 27)) (w38.heap.size) (.cells #[.bool g21, .slice a21 x21.length c21, .slice e21 y21.length t21] 27) := Box.put (.cells #[.bool g21, .slice a21 x21.length c21, .slice e21 y21.length t21] 27) rfl
  replace hA := hA.trans (hq.mono hA.size)
  replace hB := hB.trans (hq.mono hB.size)
  clear hq
  clear hA
  go_wp2_with fail
  obtain ⟨u39, hname⟩ : ∃ u, (w38.alloc (.cells #[.bool g21, .slice a21 x21.length c21, .slice e21 y21.length t21] 27)) = u := ⟨_, rfl⟩
  rw [hname] at hB Z2 Z15 F19 E19 F21 E21 ⊢
  have zh39 := hB.size
  clear hname
  refine (lrof_any (0) 1 (by decide) (by decide) _).mono ?_
  rintro e w40 ⟨g22, a22, c22, x22, e22, t22, y22, rfl, F22, P22, N22, M22, V22, U22, b22, B22, hb⟩
  have I22 := of_is N22 M22 V22 U22 b22 B22 (by decide) (by decide)
  clear P22
  replace Z2 := Z2.below hb
  replace Z15 := Z15.below hb
  replace F19 := F19.below hb
  replace E19 := E19.below hb
  replace F21 := F21.below hb
  replace E21 := E21.below hb
  replace hB := hB.trans (hb.mono hB.size)
  have zz40 := hb.size
  have zh40 := hB.size
  clear hb
  go_wp2_with fail
  refine (ppower_zero g22 F22 (by omega) (-1) (I22.good F22.up.words F22.down.words) (by omega) ((I22.zero_iff F22.up.words).1 (by decide +kernel))).mono ?_
  rintro e w41 ⟨rfl, hb⟩
  replace Z2 := Z2.below hb
  replace Z15 := Z15.below hb
  replace F19 := F19.below hb
  replace E19 := E19.below hb
  replace F21 := F21.below hb
  replace E21 := E21.below hb
  replace F22 := F22.below hb
  replace hB := hB.trans (hb.mono hB.size)
  have zz41 := hb.size
  have zh41 := hB.size
  clear hb
  clear F22
  have qE19 := E19.lt
  have qE21 := E21.lt
  have hA := Below.refl w41.heap.size w41
  have hq : Below w41.heap.size w41 (w41.alloc (.cells #[.bool false, .slice none 0 0, .slice none 0 0] 27)) := (Below.refl _ _).alloc (Nat.le_refl _) _
  replace Z2 := Z2.below hq
  replace Z15 := Z15.below hq
  replace F19 := F19.below hq
  replace E19 := E19.below hq
  replace F21 := F21.below hq
  replace E21 := E21.below hq
  have Z23 : Box (w41.alloc (.cells #[.bool false, .slice none 0 0, .slice none 0 0] 27)) (w41.heap.size) (.cells #[.bool false, .slice none 0 0, .slice none 0 0] 27) := Box.put (.cells #[.bool false, .slice none 0 0, .slice none 0 0] 27) rfl
  replace hA := hA.trans (hq.mono hA.size)
  replace hB := hB.trans (hq.mono hB.size)
  clear hq
  clear hA
  go_wp2_with fail
  obtain ⟨u42, hname⟩ : ∃ u, (w41.alloc (.cells #[.bool false, .slice none 0 0, .slice none 0 0] 27)) = u := ⟨_, rfl⟩
  rw [hname] at hB Z2 Z15 F19 E19 F21 E21 Z23 ⊢
  have zh42 := hB.size
  clear hname
  refine (lrof_any (0) 1 (by decide) (by decide) _).mono ?_
  rintro e w43 ⟨g24, a24, c24, x24, e24, t24, y24, rfl, F24, P24, N24, M24, V24, U24, b24, B24, hb⟩
  have I24 := of_is N24 M24 V24 U24 b24 B24 (by decide) (by decide)
  clear P24
  replace Z2 := Z2.below hb
  replace Z15 := Z15.below hb
  replace F19 := F19.below hb
  replace E19 := E19.below hb
  replace F21 := F21.below hb
  replace E21 := E21.below hb
  replace Z23 := Z23.below hb
  replace hB := hB.trans (hb.mono hB.size)
  have zz43 := hb.size
  have zh43 := hB.size
  clear hb
  go_wp2_with fail
  refine (ppower_pos g24 F24 I24 (by omega) 0 (by omega)).mono ?_
  rintro e w44 ⟨g25, a25, c25, x25, e25, t25, y25, rfl, F25, P25, I25, hb⟩
  replace I25 : Is g25 x25 y25 (Rat.divInt 1 1) (13) := (I25.mono (by omega)).to (by decide +kernel)
  replace Z2 := Z2.below hb
  replace Z15 := Z15.below hb
  replace F19 := F19.below hb
  replace E19 := E19.below hb
  replace F21 := F21.below hb
  replace E21 := E21.below hb
  replace Z23 := Z23.below hb
  replace F24 := F24.below hb
  replace hB := hB.trans (hb.mono hB.size)
  have zz44 := hb.size
  have zh44 := hB.size
  clear hb
  clear F24
  have qE19 := E19.lt
  have qE21 := E21.lt
  have hA := Below.refl w44.heap.size w44
  have hq : Below w44.heap.size w44 (w44.alloc (.cells #[.bool g25, .slice a25 x25.length c25, .slice e25 y25.length t25] 27)) := (Below.refl _ _).alloc (Nat.le_refl _) _
  replace Z2 := Z2.below hq
  replace Z15 := Z15.below hq
  replace F19 := F19.below hq
  replace E19 := E19.below hq
  replace F21 := F21.below hq
  replace E21 := E21.below hq
  replace Z23 := Z23.below hq
  replace F25 := F25.below hq
  have E25 : Box (w44.alloc (.cells #[.bool g25, .slice a25 x25.length c25, .slice e25 y25.length t25] 27)) (w44.heap.size) (.cells #[.bool g25, .slice a25 x25.length c25, .slice e25 y25.length t25] 27) := Box.put (.cells #[.bool g25, .slice a25 x25.length c25, .slice e25 y25.length t25] 27) rfl
  replace hA := hA.trans (hq.mono hA.size)
  replace hB := hB.trans (hq.mono hB.size)
  clear hq
  clear hA
  go_wp2_with fail
  obtain ⟨u45, hname⟩ : ∃ u, (w44.alloc (.cells #[.bool g25, .slice a25 x25.length c25, .slice e25 y25.length t25] 27)) = u := ⟨_, rfl⟩
  rw [hname] at hB Z2 Z15 F19 E19 F21 E21 Z23 F25 E25 ⊢
  have zh45 := hB.size
  clear hname
  refine (lrof_any (1) 2 (by decide) (by decide) _).mono ?_
  rintro e w46 ⟨g26, a26, c26, x26, e26, t26, y26, rfl, F26, P26, N26, M26, V26, U26, b26, B26, hb⟩
  have I26 := of_is N26 M26 V26 U26 b26 B26 (by decide) (by decide)
  clear P26
  replace Z2 := Z2.below hb
  replace Z15 := Z15.below hb
  replace F19 := F19.below hb
  replace E19 := E19.below hb
  replace F21 := F21.below hb
  replace E21 := E21.below hb
  replace Z23 := Z23.below hb
  replace F25 := F25.below hb
  replace E25 := E25.below hb
  replace hB := hB.trans (hb.mono hB.size)
  have zz46 := hb.size
  have zh46 := hB.size
  clear hb
  go_wp2_with fail
  refine (ppower_range g26 F26 (by omega) 10001 (I26.good F26.up.words F26.down.words) (by omega)).mono ?_
  rintro e w47 ⟨rfl, hb⟩
  replace Z2 := Z2.below hb
  replace Z15 := Z15.below hb
  replace F19 := F19.below hb
  replace E19 := E19.below hb
  replace F21 := F21.below hb
  replace E21 := E21.below hb
  replace Z23 := Z23.below hb
  replace F25 := F25.below hb
  replace E25 := E25.below hb
  replace F26 := F26.below hb
  replace hB := hB.trans (hb.mono hB.size)
  have zz47 := hb.size
  have zh47 := hB.size
  clear hb
  clear F26
  obtain ⟨k0, k1, k2, f0, f1, f2⟩ := E19.three
  have qE19 := E19.lt
  have qE21 := E21.lt
  have qE25 := E25.lt
  have hA := Below.refl w47.heap.size w47
  have hq : Below w47.heap.size w47 (w47.alloc (.cells #[.bool false, .slice none 0 0, .slice none 0 0] 27)) := (Below.refl _ _).alloc (Nat.le_refl _) _
  replace Z2 := Z2.below hq
  replace Z15 := Z15.below hq
  replace F19 := F19.below hq
  replace E19 := E19.below hq
  replace F21 := F21.below hq
  replace E21 := E21.below hq
  replace Z23 := Z23.below hq
  replace F25 := F25.below hq
  replace E25 := E25.below hq
  have Z27 : Box (w47.alloc (.cells #[.bool false, .slice none 0 0, .slice none 0 0] 27)) (w47.heap.size) (.cells #[.bool false, .slice none 0 0, .slice none 0 0] 27) := Box.put (.cells #[.bool false, .slice none 0 0, .slice none 0 0] 27) rfl
  replace hA := hA.trans (hq.mono hA.size)
  replace hB := hB.trans (hq.mono hB.size)
  clear hq
  clear hA
  go_wp2_with fail
  clear k0 k1 k2 f0 f1 f2
  obtain ⟨u48, hname⟩ : ∃ u, (w47.alloc (.cells #[.bool false, .slice none 0 0, .slice none 0 0] 27)) = u := ⟨_, rfl⟩
  rw [hname] at hB Z2 Z15 F19 E19 F21 E21 Z23 F25 E25 Z27 ⊢
  have zh48 := hB.size
  clear hname
  refine (lris_yes g19 F19 (8) 27 (by decide) (by decide) (by decide) I19 (by decide)).mono ?_
  rintro e w49 ⟨rfl, hb⟩
  replace Z2 := Z2.below hb
  replace Z15 := Z15.below hb
  replace F19 := F19.below hb
  replace E19 := E19.below hb
  replace F21 := F21.below hb
  replace E21 := E21.below hb
  replace Z23 := Z23.below hb
  replace F25 := F25.below hb
  replace E25 := E25.below hb
  replace Z27 := Z27.below hb
  replace hB := hB.trans (hb.mono hB.size)
  have zz49 := hb.size
  have zh49 := hB.size
  clear hb
  clear E19 F19
  obtain ⟨k0, k1, k2, f0, f1, f2⟩ := E21.three
  go_wp2_with fail
  clear k0 k1 k2 f0 f1 f2
  refine (lris_yes g21 F21 (9) 4 (by decide) (by decide) (by decide) I21 (by decide)).mono ?_
  rintro e w50 ⟨rfl, hb⟩
  replace Z2 := Z2.below hb
  replace Z15 := Z15.below hb
  replace F21 := F21.below hb
  replace E21 := E21.below hb
  replace Z23 := Z23.below hb
  replace F25 := F25.below hb
  replace E25 := E25.below hb
  replace Z27 := Z27.below hb
  replace hB := hB.trans (hb.mono hB.size)
  have zz50 := hb.size
  have zh50 := hB.size
  clear hb
  clear E21 F21
  obtain ⟨k0, k1, k2, f0, f1, f2⟩ := E25.three
  go_wp2_with fail
  clear k0 k1 k2 f0 f1 f2
  refine (lris_yes g25 F25 (1) 1 (by decide) (by decide) (by decide) I25 (by decide)).mono ?_
  rintro e w51 ⟨rfl, hb⟩
  replace Z2 := Z2.below hb
  replace Z15 := Z15.below hb
  replace Z23 := Z23.below hb
  replace F25 := F25.below hb
  replace E25 := E25.below hb
  replace Z27 := Z27.below hb
  replace hB := hB.trans (hb.mono hB.size)
  have zz51 := hb.size
  have zh51 := hB.size
  clear hb
  clear E25 F25
  go_wp2_with fail
  refine (lrawake_any _).mono ?_
  rintro e w52 ⟨rfl, hb⟩
  replace Z2 := Z2.below hb
  replace Z15 := Z15.below hb
  replace Z23 := Z23.below hb
  replace Z27 := Z27.below hb
  replace hB := hB.trans (hb.mono hB.size)
  have zz52 := hb.size
  have zh52 := hB.size
  clear hb
  go_wp2_with fail
  refine (lrof_any (5) 2 (by decide) (by decide) _).mono ?_
  rintro e w53 ⟨g28, a28, c28, x28, e28, t28, y28, rfl, F28, P28, N28, M28, V28, U28, b28, B28, hb⟩
  have I28 := of_is N28 M28 V28 U28 b28 B28 (by decide) (by decide)
  clear P28
  replace Z2 := Z2.below hb
  replace Z15 := Z15.below hb
  replace Z23 := Z23.below hb
  replace Z27 := Z27.below hb
  replace hB := hB.trans (hb.mono hB.size)
  have zz53 := hb.size
  have zh53 := hB.size
  clear hb
  go_wp2_with fail
  refine (lrrounded_yes g28 F28 I28 (by omega) 2 (by decide) (round_of N28 F28.up.words V28 U28 (by decide))).mono ?_
  rintro e w54 ⟨rfl, hb⟩
  replace Z2 := Z2.below hb
  replace Z15 := Z15.below hb
  replace Z23 := Z23.below hb
  replace Z27 := Z27.below hb
  replace F28 := F28.below hb
  replace hB := hB.trans (hb.mono hB.size)
  have zz54 := hb.size
  have zh54 := hB.size
  clear hb
  clear F28
  go_wp2_with fail
  refine (lrof_any (7) 2 (by decide) (by decide) _).mono ?_
  rintro e w55 ⟨g29, a29, c29, x29, e29, t29, y29, rfl, F29, P29, N29, M29, V29, U29, b29, B29, hb⟩
  have I29 := of_is N29 M29 V29 U29 b29 B29 (by decide) (by decide)
  clear P29
  replace Z2 := Z2.below hb
  replace Z15 := Z15.below hb
  replace Z23 := Z23.below hb
  replace Z27 := Z27.below hb
  replace hB := hB.trans (hb.mono hB.size)
  have zz55 := hb.size
  have zh55 := hB.size
  clear hb
  go_wp2_with fail
  refine (lrrounded_yes g29 F29 I29 (by omega) 4 (by decide) (round_of N29 F29.up.words V29 U29 (by decide))).mono ?_
  rintro e w56 ⟨rfl, hb⟩
  replace Z2 := Z2.below hb
  replace Z15 := Z15.below hb
  replace Z23 := Z23.below hb
  replace Z27 := Z27.below hb
  replace F29 := F29.below hb
  replace hB := hB.trans (hb.mono hB.size)
  have zz56 := hb.size
  have zh56 := hB.size
  clear hb
  clear F29
  go_wp2_with fail
  refine (lrof_any (-1) 3 (by decide) (by decide) _).mono ?_
  rintro e w57 ⟨g30, a30, c30, x30, e30, t30, y30, rfl, F30, P30, N30, M30, V30, U30, b30, B30, hb⟩
  have I30 := of_is N30 M30 V30 U30 b30 B30 (by decide) (by decide)
  clear P30
  replace Z2 := Z2.below hb
  replace Z15 := Z15.below hb
  replace Z23 := Z23.below hb
  replace Z27 := Z27.below hb
  replace hB := hB.trans (hb.mono hB.size)
  have zz57 := hb.size
  have zh57 := hB.size
  clear hb
  go_wp2_with fail
  refine (lrrounded_yes g30 F30 I30 (by omega) 0 (by decide) (round_of N30 F30.up.words V30 U30 (by decide))).mono ?_
  rintro e w58 ⟨rfl, hb⟩
  replace Z2 := Z2.below hb
  replace Z15 := Z15.below hb
  replace Z23 := Z23.below hb
  replace Z27 := Z27.below hb
  replace F30 := F30.below hb
  replace hB := hB.trans (hb.mono hB.size)
  have zz58 := hb.size
  have zh58 := hB.size
  clear hb
  clear F30
  go_wp2
  go_ret
  exact ⟨rfl, hB⟩
end Go.Proofs.Ytblmkddjlfienaa
