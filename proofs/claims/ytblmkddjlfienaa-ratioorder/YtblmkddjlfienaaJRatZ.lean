/-
  Joined: RatZ ROrdL ROrdM ROrdltlt ROrdltge ROrdeq ROrdgt ROrder.
-/
import Derived.Test.YtblmkddjlfienaaJRatN
/-
  awake: some of the chapter's examples.
-/
namespace Go.Proofs.Ytblmkddjlfienaa
open Go.RowKit

set_option maxRecDepth 100000 in
set_option maxHeartbeats 4000000 in
theorem lrawake_any (w : World) : Calls Try.prog 15 #[] w fun e w' => e = .returned (.bool true) ∧ Below w.heap.size w w' := by
  have hB := Below.refl w.heap.size w
  go_enter Try.func15, Try.ntmps15
  go_wp2_with fail
  refine (ppair_neg 6 (-4) (by decide) (by decide) (by decide) _).mono ?_
  rintro e w1 ⟨g1, a1, c1, x1, e1, t1, y1, rfl, F1, P1, I1, hb⟩
  replace I1 : Is g1 x1 y1 (Rat.divInt (-3) 2) (1) := I1.to (by decide +kernel)
  replace hB := hB.trans (hb.mono hB.size)
  have zz1 := hb.size
  have zh1 := hB.size
  clear hb
  have hA := Below.refl w1.heap.size w1
  have hq : Below w1.heap.size w1 (w1.alloc (.cells #[.bool g1, .slice a1 x1.length c1, .slice e1 y1.length t1] 27)) := (Below.refl _ _).alloc (Nat.le_refl _) _
  replace F1 := F1.below hq
  have E1 : Box (w1.alloc (.cells #[.bool g1, .slice a1 x1.length c1, .slice e1 y1.length t1] 27)) (w1.heap.size) (.cells #[.bool g1, .slice a1 x1.length c1, .slice e1 y1.length t1] 27) := Box.put (.cells #[.bool g1, .slice a1 x1.length c1, .slice e1 y1.length t1] 27) rfl
  replace hA := hA.trans (hq.mono hA.size)
  replace hB := hB.trans (hq.mono hB.size)
  clear hq
  clear hA
  go_wp2_with fail
  obtain ⟨u2, hname⟩ : ∃ u, (w1.alloc (.cells #[.bool g1, .slice a1 x1.length c1, .slice e1 y1.length t1] 27)) = u := ⟨_, rfl⟩
  rw [hname] at hB F1 E1 ⊢
  have zh2 := hB.size
  clear hname
  refine (lrof_any (1) 2 (by decide) (by decide) _).mono ?_
  rintro e w3 ⟨g2, a2, c2, x2, e2, t2, y2, rfl, F2, P2, N2, M2, V2, U2, b2, B2, hb⟩
  have I2 := of_is N2 M2 V2 U2 b2 B2 (by decide) (by decide)
  clear P2
  replace F1 := F1.below hb
  replace E1 := E1.below hb
  replace hB := hB.trans (hb.mono hB.size)
  have zz3 := hb.size
  have zh3 := hB.size
  clear hb
  go_wp2_with fail
  refine (lrof_any (1) 3 (by decide) (by decide) _).mono ?_
  rintro e w4 ⟨g3, a3, c3, x3, e3, t3, y3, rfl, F3, P3, N3, M3, V3, U3, b3, B3, hb⟩
  have I3 := of_is N3 M3 V3 U3 b3 B3 (by decide) (by decide)
  clear P3
  replace F1 := F1.below hb
  replace E1 := E1.below hb
  replace F2 := F2.below hb
  replace hB := hB.trans (hb.mono hB.size)
  have zz4 := hb.size
  have zh4 := hB.size
  clear hb
  go_wp2_with fail
  refine (lrof_any (1) 6 (by decide) (by decide) _).mono ?_
  rintro e w5 ⟨g4, a4, c4, x4, e4, t4, y4, rfl, F4, P4, N4, M4, V4, U4, b4, B4, hb⟩
  have I4 := of_is N4 M4 V4 U4 b4 B4 (by decide) (by decide)
  clear P4
  replace F1 := F1.below hb
  replace E1 := E1.below hb
  replace F2 := F2.below hb
  replace F3 := F3.below hb
  replace hB := hB.trans (hb.mono hB.size)
  have zz5 := hb.size
  have zh5 := hB.size
  clear hb
  have qE1 := E1.lt
  have hA := Below.refl w5.heap.size w5
  have hq : Below w5.heap.size w5 (w5.alloc (.cells #[.bool g2, .slice a2 x2.length c2, .slice e2 y2.length t2, .bool g3, .slice a3 x3.length c3, .slice e3 y3.length t3, .bool g4, .slice a4 x4.length c4, .slice e4 y4.length t4] 27)) := (Below.refl _ _).alloc (Nat.le_refl _) _
  replace F1 := F1.below hq
  replace E1 := E1.below hq
  replace F2 := F2.below hq
  replace F3 := F3.below hq
  replace F4 := F4.below hq
  have L5 : Box (w5.alloc (.cells #[.bool g2, .slice a2 x2.length c2, .slice e2 y2.length t2, .bool g3, .slice a3 x3.length c3, .slice e3 y3.length t3, .bool g4, .slice a4 x4.length c4, .slice e4 y4.length t4] 27)) (w5.heap.size) (.cells #[.bool g2, .slice a2 x2.length c2, .slice e2 y2.length t2, .bool g3, .slice a3 x3.length c3, .slice e3 y3.length t3, .bool g4, .slice a4 x4.length c4, .slice e4 y4.length t4] 27) := Box.put (.cells #[.bool g2, .slice a2 x2.length c2, .slice e2 y2.length t2, .bool g3, .slice a3 x3.length c3, .slice e3 y3.length t3, .bool g4, .slice a4 x4.length c4, .slice e4 y4.length t4] 27) rfl
  replace hA := hA.trans (hq.mono hA.size)
  replace hB := hB.trans (hq.mono hB.size)
  clear hq
  clear hA
  go_wp2_with fail
  obtain ⟨u6, hname⟩ : ∃ u, (w5.alloc (.cells #[.bool g2, .slice a2 x2.length c2, .slice e2 y2.length t2, .bool g3, .slice a3 x3.length c3, .slice e3 y3.length t3, .bool g4, .slice a4 x4.length c4, .slice e4 y4.length t4] 27)) = u := ⟨_, rfl⟩
  rw [hname] at hB F1 E1 F2 F3 F4 L5 ⊢
  have zh6 := hB.size
  clear hname
  have R := row_box (rs := [⟨g2, a2, c2, x2, e2, t2, y2⟩, ⟨g3, a3, c3, x3, e3, t3, y3⟩, ⟨g4, a4, c4, x4, e4, t4, y4⟩]) (k := w5.heap.size) L5 (fun r hr => by
      simp only [List.mem_cons, List.not_mem_nil, or_false] at hr
      rcases hr with rfl | rfl | rfl
      · exact F2.mono (Nat.zero_le _)
      · exact F3.mono (Nat.zero_le _)
      · exact F4.mono (Nat.zero_le _))
  have hlen : ∀ r ∈ ([⟨g2, a2, c2, x2, e2, t2, y2⟩, ⟨g3, a3, c3, x3, e3, t3, y3⟩, ⟨g4, a4, c4, x4, e4, t4, y4⟩] : List RV), r.xs.length ≤ 1 ∧ r.ds.length ≤ 1 := fun r hr => by
      simp only [List.mem_cons, List.not_mem_nil, or_false] at hr
      rcases hr with rfl | rfl | rfl
      · exact ⟨Nat.le_trans I2.lu (by decide), Nat.le_trans I2.ld (by decide)⟩
      · exact ⟨Nat.le_trans I3.lu (by decide), Nat.le_trans I3.ld (by decide)⟩
      · exact ⟨Nat.le_trans I4.lu (by decide), Nat.le_trans I4.ld (by decide)⟩
  have hg : ∀ r ∈ ([⟨g2, a2, c2, x2, e2, t2, y2⟩, ⟨g3, a3, c3, x3, e3, t3, y3⟩, ⟨g4, a4, c4, x4, e4, t4, y4⟩] : List RV), formR r.b r.xs r.ds = 0 := fun r hr => by
      simp only [List.mem_cons, List.not_mem_nil, or_false] at hr
      rcases hr with rfl | rfl | rfl
      · exact I2.good F2.up.words F2.down.words
      · exact I3.good F3.up.words F3.down.words
      · exact I4.good F4.up.words F4.down.words
  refine (padd_ok (cap := 3) R (by simp) hlen (by omega) hg).mono ?_
  rintro e w7 ⟨g6, a6, c6, x6, e6, t6, y6, rfl, F6, P6, I6, hb⟩
  replace I6 : Is g6 x6 y6 (Rat.divInt 1 1) (7) := (I6.mono (by simp)).to (by simp only [sumQ, RV.q, List.foldl, I2.rat, I3.rat, I4.rat]; decide +kernel)
  replace F1 := F1.below hb
  replace E1 := E1.below hb
  replace F2 := F2.below hb
  replace F3 := F3.below hb
  replace F4 := F4.below hb
  replace L5 := L5.below hb
  replace hB := hB.trans (hb.mono hB.size)
  have zz7 := hb.size
  have zh7 := hB.size
  clear hb
  clear R hlen hg
  clear L5
  have qE1 := E1.lt
  have hA := Below.refl w7.heap.size w7
  have hq : Below w7.heap.size w7 (w7.alloc (.cells #[.bool g6, .slice a6 x6.length c6, .slice e6 y6.length t6] 27)) := (Below.refl _ _).alloc (Nat.le_refl _) _
  replace F1 := F1.below hq
  replace E1 := E1.below hq
  replace F2 := F2.below hq
  replace F3 := F3.below hq
  replace F4 := F4.below hq
  replace F6 := F6.below hq
  have E6 : Box (w7.alloc (.cells #[.bool g6, .slice a6 x6.length c6, .slice e6 y6.length t6] 27)) (w7.heap.size) (.cells #[.bool g6, .slice a6 x6.length c6, .slice e6 y6.length t6] 27) := Box.put (.cells #[.bool g6, .slice a6 x6.length c6, .slice e6 y6.length t6] 27) rfl
  replace hA := hA.trans (hq.mono hA.size)
  replace hB := hB.trans (hq.mono hB.size)
  clear hq
  clear hA
  go_wp2_with fail
  obtain ⟨u8, hname⟩ : ∃ u, (w7.alloc (.cells #[.bool g6, .slice a6 x6.length c6, .slice e6 y6.length t6] 27)) = u := ⟨_, rfl⟩
  rw [hname] at hB F1 E1 F2 F3 F4 F6 E6 ⊢
  have zh8 := hB.size
  clear hname
  refine (lrof_any (2) 3 (by decide) (by decide) _).mono ?_
  rintro e w9 ⟨g7, a7, c7, x7, e7, t7, y7, rfl, F7, P7, N7, M7, V7, U7, b7, B7, hb⟩
  have I7 := of_is N7 M7 V7 U7 b7 B7 (by decide) (by decide)
  clear P7
  replace F1 := F1.below hb
  replace E1 := E1.below hb
  replace F2 := F2.below hb
  replace F3 := F3.below hb
  replace F4 := F4.below hb
  replace F6 := F6.below hb
  replace E6 := E6.below hb
  replace hB := hB.trans (hb.mono hB.size)
  have zz9 := hb.size
  have zh9 := hB.size
  clear hb
  go_wp2_with fail
  refine (lrof_any (3) 4 (by decide) (by decide) _).mono ?_
  rintro e w10 ⟨g8, a8, c8, x8, e8, t8, y8, rfl, F8, P8, N8, M8, V8, U8, b8, B8, hb⟩
  have I8 := of_is N8 M8 V8 U8 b8 B8 (by decide) (by decide)
  clear P8
  replace F1 := F1.below hb
  replace E1 := E1.below hb
  replace F2 := F2.below hb
  replace F3 := F3.below hb
  replace F4 := F4.below hb
  replace F6 := F6.below hb
  replace E6 := E6.below hb
  replace F7 := F7.below hb
  replace hB := hB.trans (hb.mono hB.size)
  have zz10 := hb.size
  have zh10 := hB.size
  clear hb
  clear F2 F3 F4
  have qE1 := E1.lt
  have qE6 := E6.lt
  have hA := Below.refl w10.heap.size w10
  have hq : Below w10.heap.size w10 (w10.alloc (.cells #[.bool g7, .slice a7 x7.length c7, .slice e7 y7.length t7, .bool g8, .slice a8 x8.length c8, .slice e8 y8.length t8] 27)) := (Below.refl _ _).alloc (Nat.le_refl _) _
  replace F1 := F1.below hq
  replace E1 := E1.below hq
  replace F6 := F6.below hq
  replace E6 := E6.below hq
  replace F7 := F7.below hq
  replace F8 := F8.below hq
  have L9 : Box (w10.alloc (.cells #[.bool g7, .slice a7 x7.length c7, .slice e7 y7.length t7, .bool g8, .slice a8 x8.length c8, .slice e8 y8.length t8] 27)) (w10.heap.size) (.cells #[.bool g7, .slice a7 x7.length c7, .slice e7 y7.length t7, .bool g8, .slice a8 x8.length c8, .slice e8 y8.length t8] 27) := Box.put (.cells #[.bool g7, .slice a7 x7.length c7, .slice e7 y7.length t7, .bool g8, .slice a8 x8.length c8, .slice e8 y8.length t8] 27) rfl
  replace hA := hA.trans (hq.mono hA.size)
  replace hB := hB.trans (hq.mono hB.size)
  clear hq
  clear hA
  go_wp2_with fail
  obtain ⟨u11, hname⟩ : ∃ u, (w10.alloc (.cells #[.bool g7, .slice a7 x7.length c7, .slice e7 y7.length t7, .bool g8, .slice a8 x8.length c8, .slice e8 y8.length t8] 27)) = u := ⟨_, rfl⟩
  rw [hname] at hB F1 E1 F6 E6 F7 F8 L9 ⊢
  have zh11 := hB.size
  clear hname
  have R := row_box (rs := [⟨g7, a7, c7, x7, e7, t7, y7⟩, ⟨g8, a8, c8, x8, e8, t8, y8⟩]) (k := w10.heap.size) L9 (fun r hr => by
      simp only [List.mem_cons, List.not_mem_nil, or_false] at hr
      rcases hr with rfl | rfl
      · exact F7.mono (Nat.zero_le _)
      · exact F8.mono (Nat.zero_le _))
  have hlen : ∀ r ∈ ([⟨g7, a7, c7, x7, e7, t7, y7⟩, ⟨g8, a8, c8, x8, e8, t8, y8⟩] : List RV), r.xs.length ≤ 1 ∧ r.ds.length ≤ 1 := fun r hr => by
      simp only [List.mem_cons, List.not_mem_nil, or_false] at hr
      rcases hr with rfl | rfl
      · exact ⟨Nat.le_trans I7.lu (by decide), Nat.le_trans I7.ld (by decide)⟩
      · exact ⟨Nat.le_trans I8.lu (by decide), Nat.le_trans I8.ld (by decide)⟩
  have hg : ∀ r ∈ ([⟨g7, a7, c7, x7, e7, t7, y7⟩, ⟨g8, a8, c8, x8, e8, t8, y8⟩] : List RV), formR r.b r.xs r.ds = 0 := fun r hr => by
      simp only [List.mem_cons, List.not_mem_nil, or_false] at hr
      rcases hr with rfl | rfl
      · exact I7.good F7.up.words F7.down.words
      · exact I8.good F8.up.words F8.down.words
  refine (pmul_ok (cap := 2) R (by simp) hlen (by omega) hg).mono ?_
  rintro e w12 ⟨g10, a10, c10, x10, e10, t10, y10, rfl, F10, P10, I10, hb⟩
  replace I10 : Is g10 x10 y10 (Rat.divInt 1 2) (5) := (I10.mono (by simp)).to (by simp only [mulQ, RV.q, List.foldl, I7.rat, I8.rat]; decide +kernel)
  replace F1 := F1.below hb
  replace E1 := E1.below hb
  replace F6 := F6.below hb
  replace E6 := E6.below hb
  replace F7 := F7.below hb
  replace F8 := F8.below hb
  replace L9 := L9.below hb
  replace hB := hB.trans (hb.mono hB.size)
  have zz12 := hb.size
  have zh12 := hB.size
  clear hb
  clear R hlen hg
  clear L9
  obtain ⟨k0, k1, k2, f0, f1, f2⟩ := E1.three
  have qE1 := E1.lt
  have qE6 := E6.lt
  have hA := Below.refl w12.heap.size w12
  have hq : Below w12.heap.size w12 (w12.alloc (.cells #[.bool g10, .slice a10 x10.length c10, .slice e10 y10.length t10] 27)) := (Below.refl _ _).alloc (Nat.le_refl _) _
  replace F1 := F1.below hq
  replace E1 := E1.below hq
  replace F6 := F6.below hq
  replace E6 := E6.below hq
  replace F7 := F7.below hq
  replace F8 := F8.below hq
  replace F10 := F10.below hq
  have E10 : Box (w12.alloc (.cells #[.bool g10, .slice a10 x10.length c10, .slice e10 y10.length t10] 27)) (w12.heap.size) (.cells #[.bool g10, .slice a10 x10.length c10, .slice e10 y10.length t10] 27) := Box.put (.cells #[.bool g10, .slice a10 x10.length c10, .slice e10 y10.length t10] 27) rfl
  replace hA := hA.trans (hq.mono hA.size)
  replace hB := hB.trans (hq.mono hB.size)
  clear hq
  clear hA
  go_wp2_with fail
  clear k0 k1 k2 f0 f1 f2
  obtain ⟨u13, hname⟩ : ∃ u, (w12.alloc (.cells #[.bool g10, .slice a10 x10.length c10, .slice e10 y10.length t10] 27)) = u := ⟨_, rfl⟩
  rw [hname] at hB F1 E1 F6 E6 F7 F8 F10 E10 ⊢
  have zh13 := hB.size
  clear hname
  refine (lris_yes g1 F1 (-3) 2 (by decide) (by decide) (by decide) I1 (by decide)).mono ?_
  rintro e w14 ⟨rfl, hb⟩
  replace F1 := F1.below hb
  replace E1 := E1.below hb
  replace F6 := F6.below hb
  replace E6 := E6.below hb
  replace F7 := F7.below hb
  replace F8 := F8.below hb
  replace F10 := F10.below hb
  replace E10 := E10.below hb
  replace hB := hB.trans (hb.mono hB.size)
  have zz14 := hb.size
  have zh14 := hB.size
  clear hb
  clear E1 F1
  clear F7 F8
  obtain ⟨k0, k1, k2, f0, f1, f2⟩ := E6.three
  go_wp2_with fail
  clear k0 k1 k2 f0 f1 f2
  refine (lris_yes g6 F6 (1) 1 (by decide) (by decide) (by decide) I6 (by decide)).mono ?_
  rintro e w15 ⟨rfl, hb⟩
  replace F6 := F6.below hb
  replace E6 := E6.below hb
  replace F10 := F10.below hb
  replace E10 := E10.below hb
  replace hB := hB.trans (hb.mono hB.size)
  have zz15 := hb.size
  have zh15 := hB.size
  clear hb
  clear E6 F6
  obtain ⟨k0, k1, k2, f0, f1, f2⟩ := E10.three
  go_wp2_with fail
  clear k0 k1 k2 f0 f1 f2
  refine (lris_yes g10 F10 (1) 2 (by decide) (by decide) (by decide) I10 (by decide)).mono ?_
  rintro e w16 ⟨rfl, hb⟩
  replace F10 := F10.below hb
  replace E10 := E10.below hb
  replace hB := hB.trans (hb.mono hB.size)
  have zz16 := hb.size
  have zh16 := hB.size
  clear hb
  clear E10 F10
  go_wp2_with fail
  refine (lrof_any (2) 4 (by decide) (by decide) _).mono ?_
  rintro e w17 ⟨g11, a11, c11, x11, e11, t11, y11, rfl, F11, P11, N11, M11, V11, U11, b11, B11, hb⟩
  have I11 := of_none F11.up.words F11.down.words V11 U11 (by decide)
  clear P11
  replace hB := hB.trans (hb.mono hB.size)
  have zz17 := hb.size
  have zh17 := hB.size
  clear hb
  go_wp2_with fail
  have hk := pcheck_any g11 F11 (by omega) (by omega)
  rw [I11] at hk
  refine (hk).mono ?_
  rintro e w18 ⟨rfl, hb⟩
  replace F11 := F11.below hb
  replace hB := hB.trans (hb.mono hB.size)
  have zz18 := hb.size
  have zh18 := hB.size
  clear hb
  clear hk
  go_wp2
  go_ret
  exact ⟨rfl, hB⟩
end Go.Proofs.Ytblmkddjlfienaa

/-
  The walk of RatioOrder.
-/
namespace Go.Proofs.Ytblmkddjlfienaa
open Go.RowKit

set_option maxRecDepth 100000 in
set_option maxHeartbeats 4000000 in
theorem lrorder_long {a1 e1 : Option Addr} {c1 t1 : Nat} {x1 y1 : List Int} {a2 e2 : Option Addr} {c2 t2 : Nat} {x2 y2 : List Int} {a3 e3 : Option Addr} {c3 t3 : Nat} {x3 y3 : List Int} {w : World} (g1 g2 g3 : Bool) (F1 : Fr 0 w a1 c1 x1 e1 t1 y1) (F2 : Fr 0 w a2 c2 x2 e2 t2 y2) (F3 : Fr 0 w a3 c3 x3 e3 t3 y3) (HL : LongIs true [⟨g1, a1, c1, x1, e1, t1, y1⟩, ⟨g2, a2, c2, x2, e2, t2, y2⟩, ⟨g3, a3, c3, x3, e3, t3, y3⟩]) :
    Calls Try.prog 4 #[.agg #[.bool g1, .slice a1 x1.length c1, .slice e1 y1.length t1], .agg #[.bool g2, .slice a2 x2.length c2, .slice e2 y2.length t2], .agg #[.bool g3, .slice a3 x3.length c3, .slice e3 y3.length t3]] w fun e w' => e = .returned (.bool true) ∧ Below w.heap.size w w' := by
  have hB := Below.refl w.heap.size w
  go_enter Try.func4, Try.ntmps4
  have hs0 := Nat.le_refl w.heap.size
  have hq : Below w.heap.size w (w.alloc (.cells #[.bool g1, .slice a1 x1.length c1, .slice e1 y1.length t1] 27)) := (Below.refl _ _).alloc (Nat.le_refl _) _
  replace F1 := F1.below hq
  replace F2 := F2.below hq
  replace F3 := F3.below hq
  have E1 : Box (w.alloc (.cells #[.bool g1, .slice a1 x1.length c1, .slice e1 y1.length t1] 27)) (w.heap.size) (.cells #[.bool g1, .slice a1 x1.length c1, .slice e1 y1.length t1] 27) := Box.put (.cells #[.bool g1, .slice a1 x1.length c1, .slice e1 y1.length t1] 27) rfl
  replace hs0 := Nat.le_trans hs0 hq.size
  replace hB := hB.trans (hq.mono hB.size)
  clear hq
  have hq : Below (w.alloc (.cells #[.bool g1, .slice a1 x1.length c1, .slice e1 y1.length t1] 27)).heap.size (w.alloc (.cells #[.bool g1, .slice a1 x1.length c1, .slice e1 y1.length t1] 27)) ((w.alloc (.cells #[.bool g1, .slice a1 x1.length c1, .slice e1 y1.length t1] 27)).alloc (.cells #[.bool g2, .slice a2 x2.length c2, .slice e2 y2.length t2] 27)) := (Below.refl _ _).alloc (Nat.le_refl _) _
  replace F1 := F1.below hq
  replace F2 := F2.below hq
  replace F3 := F3.below hq
  replace E1 := E1.below hq
  have E2 : Box ((w.alloc (.cells #[.bool g1, .slice a1 x1.length c1, .slice e1 y1.length t1] 27)).alloc (.cells #[.bool g2, .slice a2 x2.length c2, .slice e2 y2.length t2] 27)) (w.heap.size + 1) (.cells #[.bool g2, .slice a2 x2.length c2, .slice e2 y2.length t2] 27) := Box.put (.cells #[.bool g2, .slice a2 x2.length c2, .slice e2 y2.length t2] 27) (by simp)
  replace hs0 := Nat.le_trans hs0 hq.size
  replace hB := hB.trans (hq.mono hB.size)
  clear hq
  have hq : Below ((w.alloc (.cells #[.bool g1, .slice a1 x1.length c1, .slice e1 y1.length t1] 27)).alloc (.cells #[.bool g2, .slice a2 x2.length c2, .slice e2 y2.length t2] 27)).heap.size ((w.alloc (.cells #[.bool g1, .slice a1 x1.length c1, .slice e1 y1.length t1] 27)).alloc (.cells #[.bool g2, .slice a2 x2.length c2, .slice e2 y2.length t2] 27)) (((w.alloc (.cells #[.bool g1, .slice a1 x1.length c1, .slice e1 y1.length t1] 27)).alloc (.cells #[.bool g2, .slice a2 x2.length c2, .slice e2 y2.length t2] 27)).alloc (.cells #[.bool g3, .slice a3 x3.length c3, .slice e3 y3.length t3] 27)) := (Below.refl _ _).alloc (Nat.le_refl _) _
  replace F1 := F1.below hq
  replace F2 := F2.below hq
  replace F3 := F3.below hq
  replace E1 := E1.below hq
  replace E2 := E2.below hq
  have E3 : Box (((w.alloc (.cells #[.bool g1, .slice a1 x1.length c1, .slice e1 y1.length t1] 27)).alloc (.cells #[.bool g2, .slice a2 x2.length c2, .slice e2 y2.length t2] 27)).alloc (.cells #[.bool g3, .slice a3 x3.length c3, .slice e3 y3.length t3] 27)) (w.heap.size + 2) (.cells #[.bool g3, .slice a3 x3.length c3, .slice e3 y3.length t3] 27) := Box.put (.cells #[.bool g3, .slice a3 x3.length c3, .slice e3 y3.length t3] 27) (by simp)
  replace hs0 := Nat.le_trans hs0 hq.size
  replace hB := hB.trans (hq.mono hB.size)
  clear hq
  go_wp2_with fail
  obtain ⟨u1, hname⟩ : ∃ u, (((w.alloc (.cells #[.bool g1, .slice a1 x1.length c1, .slice e1 y1.length t1] 27)).alloc (.cells #[.bool g2, .slice a2 x2.length c2, .slice e2 y2.length t2] 27)).alloc (.cells #[.bool g3, .slice a3 x3.length c3, .slice e3 y3.length t3] 27)) = u := ⟨_, rfl⟩
  rw [hname] at hs0 hB F1 F2 F3 E1 E2 E3 ⊢
  have zh1 := hB.size
  have zs1 := hs0
  clear hname hs0
  refine (lrawake_any _).mono ?_
  rintro e w2 ⟨rfl, hb⟩
  replace F1 := F1.below hb
  replace F2 := F2.below hb
  replace F3 := F3.below hb
  replace E1 := E1.below hb
  replace E2 := E2.below hb
  replace E3 := E3.below hb
  replace hB := hB.trans (hb.mono hB.size)
  have zz2 := hb.size
  have zh2 := hB.size
  clear hb
  obtain ⟨k0, k1, k2, f0, f1, f2⟩ := E1.three
  obtain ⟨k3, k4, k5, f3, f4, f5⟩ := E2.three
  obtain ⟨k6, k7, k8, f6, f7, f8⟩ := E3.three
  have qE1 := E1.lt
  have qE2 := E2.lt
  have qE3 := E3.lt
  have hs0 := Nat.le_refl w2.heap.size
  have hq : Below w2.heap.size w2 (w2.alloc (.cells #[.bool g1, .slice a1 x1.length c1, .slice e1 y1.length t1, .bool g2, .slice a2 x2.length c2, .slice e2 y2.length t2, .bool g3, .slice a3 x3.length c3, .slice e3 y3.length t3] 27)) := (Below.refl _ _).alloc (Nat.le_refl _) _
  replace F1 := F1.below hq
  replace F2 := F2.below hq
  replace F3 := F3.below hq
  replace E1 := E1.below hq
  replace E2 := E2.below hq
  replace E3 := E3.below hq
  have L0 : Box (w2.alloc (.cells #[.bool g1, .slice a1 x1.length c1, .slice e1 y1.length t1, .bool g2, .slice a2 x2.length c2, .slice e2 y2.length t2, .bool g3, .slice a3 x3.length c3, .slice e3 y3.length t3] 27)) (w2.heap.size) (.cells #[.bool g1, .slice a1 x1.length c1, .slice e1 y1.length t1, .bool g2, .slice a2 x2.length c2, .slice e2 y2.length t2, .bool g3, .slice a3 x3.length c3, .slice e3 y3.length t3] 27) := Box.put (.cells #[.bool g1, .slice a1 x1.length c1, .slice e1 y1.length t1, .bool g2, .slice a2 x2.length c2, .slice e2 y2.length t2, .bool g3, .slice a3 x3.length c3, .slice e3 y3.length t3] 27) rfl
  replace hs0 := Nat.le_trans hs0 hq.size
  replace hB := hB.trans (hq.mono hB.size)
  clear hq
  go_wp2_with fail
  clear k0 k1 k2 f0 f1 f2 k3 k4 k5 f3 f4 f5 k6 k7 k8 f6 f7 f8
  obtain ⟨u3, hname⟩ : ∃ u, (w2.alloc (.cells #[.bool g1, .slice a1 x1.length c1, .slice e1 y1.length t1, .bool g2, .slice a2 x2.length c2, .slice e2 y2.length t2, .bool g3, .slice a3 x3.length c3, .slice e3 y3.length t3] 27)) = u := ⟨_, rfl⟩
  rw [hname] at hs0 hB F1 F2 F3 E1 E2 E3 L0 ⊢
  have zh3 := hB.size
  have zs3 := hs0
  clear hname hs0
  have R := row_box (rs := [⟨g1, a1, c1, x1, e1, t1, y1⟩, ⟨g2, a2, c2, x2, e2, t2, y2⟩, ⟨g3, a3, c3, x3, e3, t3, y3⟩]) (k := w2.heap.size) L0 (fun r hr => by
      simp only [List.mem_cons, List.not_mem_nil, or_false] at hr
      rcases hr with rfl | rfl | rfl
      · exact F1.mono (Nat.zero_le _)
      · exact F2.mono (Nat.zero_le _)
      · exact F3.mono (Nat.zero_le _))
  refine (lrlong_any (cap := 3) R true HL).mono ?_
  rintro e w4 ⟨rfl, hb⟩
  replace F1 := F1.below hb
  replace F2 := F2.below hb
  replace F3 := F3.below hb
  replace E1 := E1.below hb
  replace E2 := E2.below hb
  replace E3 := E3.below hb
  replace L0 := L0.below hb
  replace hB := hB.trans (hb.mono hB.size)
  have zz4 := hb.size
  have zh4 := hB.size
  clear hb
  clear R
  clear L0
  go_wp2
  go_ret
  exact ⟨rfl, hB⟩

set_option maxRecDepth 100000 in
set_option maxHeartbeats 4000000 in
theorem lrorder_bad {a1 e1 : Option Addr} {c1 t1 : Nat} {x1 y1 : List Int} {a2 e2 : Option Addr} {c2 t2 : Nat} {x2 y2 : List Int} {a3 e3 : Option Addr} {c3 t3 : Nat} {x3 y3 : List Int} {w : World} (g1 g2 g3 : Bool) (F1 : Fr 0 w a1 c1 x1 e1 t1 y1) (F2 : Fr 0 w a2 c2 x2 e2 t2 y2) (F3 : Fr 0 w a3 c3 x3 e3 t3 y3) (hl1 : x1.length ≤ 5 ∧ y1.length ≤ 5) (hl2 : x2.length ≤ 5 ∧ y2.length ≤ 5) (hl3 : x3.length ≤ 5 ∧ y3.length ≤ 5) (HG : GoodIs false [⟨g1, a1, c1, x1, e1, t1, y1⟩, ⟨g2, a2, c2, x2, e2, t2, y2⟩, ⟨g3, a3, c3, x3, e3, t3, y3⟩]) :
    Calls Try.prog 4 #[.agg #[.bool g1, .slice a1 x1.length c1, .slice e1 y1.length t1], .agg #[.bool g2, .slice a2 x2.length c2, .slice e2 y2.length t2], .agg #[.bool g3, .slice a3 x3.length c3, .slice e3 y3.length t3]] w fun e w' => e = .returned (.bool true) ∧ Below w.heap.size w w' := by
  have hlen0 : Hid (∀ r ∈ ([⟨g1, a1, c1, x1, e1, t1, y1⟩, ⟨g2, a2, c2, x2, e2, t2, y2⟩, ⟨g3, a3, c3, x3, e3, t3, y3⟩] : List RV), r.xs.length ≤ 1000 ∧ r.ds.length ≤ 1000) := fun r hr => by
    simp only [List.mem_cons, List.not_mem_nil, or_false] at hr
    rcases hr with rfl | rfl | rfl <;> constructor <;> simp <;> omega
  have HL := long_no [⟨g1, a1, c1, x1, e1, t1, y1⟩, ⟨g2, a2, c2, x2, e2, t2, y2⟩, ⟨g3, a3, c3, x3, e3, t3, y3⟩] (by simp) (fun r hr => by
    simp only [List.mem_cons, List.not_mem_nil, or_false] at hr
    rcases hr with rfl | rfl | rfl
    · exact hl1
    · exact hl2
    · exact hl3)
  have hB := Below.refl w.heap.size w
  go_enter Try.func4, Try.ntmps4
  have hs0 := Nat.le_refl w.heap.size
  have hq : Below w.heap.size w (w.alloc (.cells #[.bool g1, .slice a1 x1.length c1, .slice e1 y1.length t1] 27)) := (Below.refl _ _).alloc (Nat.le_refl _) _
  replace F1 := F1.below hq
  replace F2 := F2.below hq
  replace F3 := F3.below hq
  have E1 : Box (w.alloc (.cells #[.bool g1, .slice a1 x1.length c1, .slice e1 y1.length t1] 27)) (w.heap.size) (.cells #[.bool g1, .slice a1 x1.length c1, .slice e1 y1.length t1] 27) := Box.put (.cells #[.bool g1, .slice a1 x1.length c1, .slice e1 y1.length t1] 27) rfl
  replace hs0 := Nat.le_trans hs0 hq.size
  replace hB := hB.trans (hq.mono hB.size)
  clear hq
  have hq : Below (w.alloc (.cells #[.bool g1, .slice a1 x1.length c1, .slice e1 y1.length t1] 27)).heap.size (w.alloc (.cells #[.bool g1, .slice a1 x1.length c1, .slice e1 y1.length t1] 27)) ((w.alloc (.cells #[.bool g1, .slice a1 x1.length c1, .slice e1 y1.length t1] 27)).alloc (.cells #[.bool g2, .slice a2 x2.length c2, .slice e2 y2.length t2] 27)) := (Below.refl _ _).alloc (Nat.le_refl _) _
  replace F1 := F1.below hq
  replace F2 := F2.below hq
  replace F3 := F3.below hq
  replace E1 := E1.below hq
  have E2 : Box ((w.alloc (.cells #[.bool g1, .slice a1 x1.length c1, .slice e1 y1.length t1] 27)).alloc (.cells #[.bool g2, .slice a2 x2.length c2, .slice e2 y2.length t2] 27)) (w.heap.size + 1) (.cells #[.bool g2, .slice a2 x2.length c2, .slice e2 y2.length t2] 27) := Box.put (.cells #[.bool g2, .slice a2 x2.length c2, .slice e2 y2.length t2] 27) (by simp)
  replace hs0 := Nat.le_trans hs0 hq.size
  replace hB := hB.trans (hq.mono hB.size)
  clear hq
  have hq : Below ((w.alloc (.cells #[.bool g1, .slice a1 x1.length c1, .slice e1 y1.length t1] 27)).alloc (.cells #[.bool g2, .slice a2 x2.length c2, .slice e2 y2.length t2] 27)).heap.size ((w.alloc (.cells #[.bool g1, .slice a1 x1.length c1, .slice e1 y1.length t1] 27)).alloc (.cells #[.bool g2, .slice a2 x2.length c2, .slice e2 y2.length t2] 27)) (((w.alloc (.cells #[.bool g1, .slice a1 x1.length c1, .slice e1 y1.length t1] 27)).alloc (.cells #[.bool g2, .slice a2 x2.length c2, .slice e2 y2.length t2] 27)).alloc (.cells #[.bool g3, .slice a3 x3.length c3, .slice e3 y3.length t3] 27)) := (Below.refl _ _).alloc (Nat.le_refl _) _
  replace F1 := F1.below hq
  replace F2 := F2.below hq
  replace F3 := F3.below hq
  replace E1 := E1.below hq
  replace E2 := E2.below hq
  have E3 : Box (((w.alloc (.cells #[.bool g1, .slice a1 x1.length c1, .slice e1 y1.length t1] 27)).alloc (.cells #[.bool g2, .slice a2 x2.length c2, .slice e2 y2.length t2] 27)).alloc (.cells #[.bool g3, .slice a3 x3.length c3, .slice e3 y3.length t3] 27)) (w.heap.size + 2) (.cells #[.bool g3, .slice a3 x3.length c3, .slice e3 y3.length t3] 27) := Box.put (.cells #[.bool g3, .slice a3 x3.length c3, .slice e3 y3.length t3] 27) (by simp)
  replace hs0 := Nat.le_trans hs0 hq.size
  replace hB := hB.trans (hq.mono hB.size)
  clear hq
  go_wp2_with fail
  obtain ⟨u1, hname⟩ : ∃ u, (((w.alloc (.cells #[.bool g1, .slice a1 x1.length c1, .slice e1 y1.length t1] 27)).alloc (.cells #[.bool g2, .slice a2 x2.length c2, .slice e2 y2.length t2] 27)).alloc (.cells #[.bool g3, .slice a3 x3.length c3, .slice e3 y3.length t3] 27)) = u := ⟨_, rfl⟩
  rw [hname] at hs0 hB F1 F2 F3 E1 E2 E3 ⊢
  have zh1 := hB.size
  have zs1 := hs0
  clear hname hs0
  refine (lrawake_any _).mono ?_
  rintro e w2 ⟨rfl, hb⟩
  replace F1 := F1.below hb
  replace F2 := F2.below hb
  replace F3 := F3.below hb
  replace E1 := E1.below hb
  replace E2 := E2.below hb
  replace E3 := E3.below hb
  replace hB := hB.trans (hb.mono hB.size)
  have zz2 := hb.size
  have zh2 := hB.size
  clear hb
  obtain ⟨k0, k1, k2, f0, f1, f2⟩ := E1.three
  obtain ⟨k3, k4, k5, f3, f4, f5⟩ := E2.three
  obtain ⟨k6, k7, k8, f6, f7, f8⟩ := E3.three
  have qE1 := E1.lt
  have qE2 := E2.lt
  have qE3 := E3.lt
  have hs0 := Nat.le_refl w2.heap.size
  have hq : Below w2.heap.size w2 (w2.alloc (.cells #[.bool g1, .slice a1 x1.length c1, .slice e1 y1.length t1, .bool g2, .slice a2 x2.length c2, .slice e2 y2.length t2, .bool g3, .slice a3 x3.length c3, .slice e3 y3.length t3] 27)) := (Below.refl _ _).alloc (Nat.le_refl _) _
  replace F1 := F1.below hq
  replace F2 := F2.below hq
  replace F3 := F3.below hq
  replace E1 := E1.below hq
  replace E2 := E2.below hq
  replace E3 := E3.below hq
  have L0 : Box (w2.alloc (.cells #[.bool g1, .slice a1 x1.length c1, .slice e1 y1.length t1, .bool g2, .slice a2 x2.length c2, .slice e2 y2.length t2, .bool g3, .slice a3 x3.length c3, .slice e3 y3.length t3] 27)) (w2.heap.size) (.cells #[.bool g1, .slice a1 x1.length c1, .slice e1 y1.length t1, .bool g2, .slice a2 x2.length c2, .slice e2 y2.length t2, .bool g3, .slice a3 x3.length c3, .slice e3 y3.length t3] 27) := Box.put (.cells #[.bool g1, .slice a1 x1.length c1, .slice e1 y1.length t1, .bool g2, .slice a2 x2.length c2, .slice e2 y2.length t2, .bool g3, .slice a3 x3.length c3, .slice e3 y3.length t3] 27) rfl
  replace hs0 := Nat.le_trans hs0 hq.size
  replace hB := hB.trans (hq.mono hB.size)
  clear hq
  go_wp2_with fail
  clear k0 k1 k2 f0 f1 f2 k3 k4 k5 f3 f4 f5 k6 k7 k8 f6 f7 f8
  obtain ⟨u3, hname⟩ : ∃ u, (w2.alloc (.cells #[.bool g1, .slice a1 x1.length c1, .slice e1 y1.length t1, .bool g2, .slice a2 x2.length c2, .slice e2 y2.length t2, .bool g3, .slice a3 x3.length c3, .slice e3 y3.length t3] 27)) = u := ⟨_, rfl⟩
  rw [hname] at hs0 hB F1 F2 F3 E1 E2 E3 L0 ⊢
  have zh3 := hB.size
  have zs3 := hs0
  clear hname hs0
  have R := row_box (rs := [⟨g1, a1, c1, x1, e1, t1, y1⟩, ⟨g2, a2, c2, x2, e2, t2, y2⟩, ⟨g3, a3, c3, x3, e3, t3, y3⟩]) (k := w2.heap.size) L0 (fun r hr => by
      simp only [List.mem_cons, List.not_mem_nil, or_false] at hr
      rcases hr with rfl | rfl | rfl
      · exact F1.mono (Nat.zero_le _)
      · exact F2.mono (Nat.zero_le _)
      · exact F3.mono (Nat.zero_le _))
  refine (lrlong_any (cap := 3) R false HL).mono ?_
  rintro e w4 ⟨rfl, hb⟩
  replace F1 := F1.below hb
  replace F2 := F2.below hb
  replace F3 := F3.below hb
  replace E1 := E1.below hb
  replace E2 := E2.below hb
  replace E3 := E3.below hb
  replace L0 := L0.below hb
  replace hB := hB.trans (hb.mono hB.size)
  have zz4 := hb.size
  have zh4 := hB.size
  clear hb
  clear R
  clear L0
  obtain ⟨k0, k1, k2, f0, f1, f2⟩ := E1.three
  obtain ⟨k3, k4, k5, f3, f4, f5⟩ := E2.three
  obtain ⟨k6, k7, k8, f6, f7, f8⟩ := E3.three
  have qE1 := E1.lt
  have qE2 := E2.lt
  have qE3 := E3.lt
  have hs0 := Nat.le_refl w4.heap.size
  have hq : Below w4.heap.size w4 (w4.alloc (.cells #[.bool g1, .slice a1 x1.length c1, .slice e1 y1.length t1, .bool g2, .slice a2 x2.length c2, .slice e2 y2.length t2, .bool g3, .slice a3 x3.length c3, .slice e3 y3.length t3] 27)) := (Below.refl _ _).alloc (Nat.le_refl _) _
  replace F1 := F1.below hq
  replace F2 := F2.below hq
  replace F3 := F3.below hq
  replace E1 := E1.below hq
  replace E2 := E2.below hq
  replace E3 := E3.below hq
  have L0 : Box (w4.alloc (.cells #[.bool g1, .slice a1 x1.length c1, .slice e1 y1.length t1, .bool g2, .slice a2 x2.length c2, .slice e2 y2.length t2, .bool g3, .slice a3 x3.length c3, .slice e3 y3.length t3] 27)) (w4.heap.size) (.cells #[.bool g1, .slice a1 x1.length c1, .slice e1 y1.length t1, .bool g2, .slice a2 x2.length c2, .slice e2 y2.length t2, .bool g3, .slice a3 x3.length c3, .slice e3 y3.length t3] 27) := Box.put (.cells #[.bool g1, .slice a1 x1.length c1, .slice e1 y1.length t1, .bool g2, .slice a2 x2.length c2, .slice e2 y2.length t2, .bool g3, .slice a3 x3.length c3, .slice e3 y3.length t3] 27) rfl
  replace hs0 := Nat.le_trans hs0 hq.size
  replace hB := hB.trans (hq.mono hB.size)
  clear hq
  go_wp2_with fail
  clear k0 k1 k2 f0 f1 f2 k3 k4 k5 f3 f4 f5 k6 k7 k8 f6 f7 f8
  obtain ⟨u5, hname⟩ : ∃ u, (w4.alloc (.cells #[.bool g1, .slice a1 x1.length c1, .slice e1 y1.length t1, .bool g2, .slice a2 x2.length c2, .slice e2 y2.length t2, .bool g3, .slice a3 x3.length c3, .slice e3 y3.length t3] 27)) = u := ⟨_, rfl⟩
  rw [hname] at hs0 hB F1 F2 F3 E1 E2 E3 L0 ⊢
  have zh5 := hB.size
  have zs5 := hs0
  clear hname hs0
  have R := row_box (rs := [⟨g1, a1, c1, x1, e1, t1, y1⟩, ⟨g2, a2, c2, x2, e2, t2, y2⟩, ⟨g3, a3, c3, x3, e3, t3, y3⟩]) (k := w4.heap.size) L0 (fun r hr => by
      simp only [List.mem_cons, List.not_mem_nil, or_false] at hr
      rcases hr with rfl | rfl | rfl
      · exact F1.mono (Nat.zero_le _)
      · exact F2.mono (Nat.zero_le _)
      · exact F3.mono (Nat.zero_le _))
  refine (lrgood_any (cap := 3) R (by simp) hlen0.out false HG).mono ?_
  rintro e w6 ⟨rfl, hb⟩
  replace F1 := F1.below hb
  replace F2 := F2.below hb
  replace F3 := F3.below hb
  replace E1 := E1.below hb
  replace E2 := E2.below hb
  replace E3 := E3.below hb
  replace L0 := L0.below hb
  replace hB := hB.trans (hb.mono hB.size)
  have zz6 := hb.size
  have zh6 := hB.size
  clear hb
  clear R
  clear L0
  go_wp2
  go_ret
  exact ⟨rfl, hB⟩

end Go.Proofs.Ytblmkddjlfienaa

/-
  The walk of RatioOrder.
-/
namespace Go.Proofs.Ytblmkddjlfienaa
open Go.RowKit

theorem cmpR_lt {q r : Rat} (h : q < r) : cmpR q r = -1 := if_pos h
theorem cmpR_eq (q : Rat) : cmpR q q = 0 := by rw [cmpR, if_neg (by grind), if_pos rfl]
theorem cmpR_gt {q r : Rat} (h : r < q) : cmpR q r = 1 := by rw [cmpR, if_neg (by grind), if_neg (by grind)]
theorem sign_is {b : Bool} {xs ds : List Int} {q : Rat} {n : Nat} (I : Is b xs ds q n) : cmpI (sgn b (val xs)) 0 = cmpR q 0 := by
  have h := cmpR_divInt (u := sgn b (val xs)) (v := 0) I.low.2.2.1 (show (0 : Int) < 1 by decide)
  rw [Rat.zero_divInt, Int.mul_one, Int.zero_mul] at h
  rw [← h, ← I.rat]
  rfl

end Go.Proofs.Ytblmkddjlfienaa

/-
  The walk of RatioOrder.
-/
namespace Go.Proofs.Ytblmkddjlfienaa
open Go.RowKit

set_option maxRecDepth 100000 in
set_option maxHeartbeats 4000000 in
theorem lrorder_ltlt {a1 e1 : Option Addr} {c1 t1 : Nat} {x1 y1 : List Int} {a2 e2 : Option Addr} {c2 t2 : Nat} {x2 y2 : List Int} {a3 e3 : Option Addr} {c3 t3 : Nat} {x3 y3 : List Int} {w : World} (g1 g2 g3 : Bool) (F1 : Fr 0 w a1 c1 x1 e1 t1 y1) (F2 : Fr 0 w a2 c2 x2 e2 t2 y2) (F3 : Fr 0 w a3 c3 x3 e3 t3 y3) (hl1 : x1.length ≤ 5 ∧ y1.length ≤ 5) (hl2 : x2.length ≤ 5 ∧ y2.length ≤ 5) (hl3 : x3.length ≤ 5 ∧ y3.length ≤ 5) {q1 q2 q3 : Rat} (I1 : Is g1 x1 y1 q1 5) (I2 : Is g2 x2 y2 q2 5) (I3 : Is g3 x3 y3 q3 5) (hq : q1 < q2) (hr : q2 < q3) :
    Calls Try.prog 4 #[.agg #[.bool g1, .slice a1 x1.length c1, .slice e1 y1.length t1], .agg #[.bool g2, .slice a2 x2.length c2, .slice e2 y2.length t2], .agg #[.bool g3, .slice a3 x3.length c3, .slice e3 y3.length t3]] w fun e w' => e = .returned (.bool true) ∧ Below w.heap.size w w' := by
  have hlen0 : Hid (∀ r ∈ ([⟨g1, a1, c1, x1, e1, t1, y1⟩, ⟨g2, a2, c2, x2, e2, t2, y2⟩, ⟨g3, a3, c3, x3, e3, t3, y3⟩] : List RV), r.xs.length ≤ 1000 ∧ r.ds.length ≤ 1000) := fun r hr => by
    simp only [List.mem_cons, List.not_mem_nil, or_false] at hr
    rcases hr with rfl | rfl | rfl <;> constructor <;> simp <;> omega
  have HL := long_no [⟨g1, a1, c1, x1, e1, t1, y1⟩, ⟨g2, a2, c2, x2, e2, t2, y2⟩, ⟨g3, a3, c3, x3, e3, t3, y3⟩] (by simp) (fun r hr => by
    simp only [List.mem_cons, List.not_mem_nil, or_false] at hr
    rcases hr with rfl | rfl | rfl
    · exact hl1
    · exact hl2
    · exact hl3)
  have HG := good_yes [⟨g1, a1, c1, x1, e1, t1, y1⟩, ⟨g2, a2, c2, x2, e2, t2, y2⟩, ⟨g3, a3, c3, x3, e3, t3, y3⟩] (fun r hr => by
    simp only [List.mem_cons, List.not_mem_nil, or_false] at hr
    rcases hr with rfl | rfl | rfl
    · exact I1.good F1.up.words F1.down.words
    · exact I2.good F2.up.words F2.down.words
    · exact I3.good F3.up.words F3.down.words)
  clear hl1 hl2 hl3
  have H12 : Hid (cmpR q1 q2 = -1) := by rw [Hid]; exact cmpR_lt hq
  have H21 : Hid (cmpR q2 q1 = 1) := by rw [Hid]; exact cmpR_gt hq
  have H23 : Hid (cmpR q2 q3 = -1) := cmpR_lt hr
  have H13 : Hid (cmpR q1 q3 = -1) := cmpR_lt (by grind)
  have Hd : Hid (cmpR (q1 - q2) 0 = -1) := by rw [Hid]; exact cmpR_lt (by grind)
  have Ho : Hid (cmpR (q1 + q3) (q2 + q3) = -1) := by rw [Hid]; exact cmpR_lt (by grind)
  have Hq : Hid (¬ q1 = q2) := by rw [Hid]; grind
  clear hq hr
  have hB := Below.refl w.heap.size w
  go_enter Try.func4, Try.ntmps4
  have hs0 := Nat.le_refl w.heap.size
  have hq : Below w.heap.size w (w.alloc (.cells #[.bool g1, .slice a1 x1.length c1, .slice e1 y1.length t1] 27)) := (Below.refl _ _).alloc (Nat.le_refl _) _
  replace F1 := F1.below hq
  replace F2 := F2.below hq
  replace F3 := F3.below hq
  have E1 : Box (w.alloc (.cells #[.bool g1, .slice a1 x1.length c1, .slice e1 y1.length t1] 27)) (w.heap.size) (.cells #[.bool g1, .slice a1 x1.length c1, .slice e1 y1.length t1] 27) := Box.put (.cells #[.bool g1, .slice a1 x1.length c1, .slice e1 y1.length t1] 27) rfl
  replace hs0 := Nat.le_trans hs0 hq.size
  replace hB := hB.trans (hq.mono hB.size)
  clear hq
  have hq : Below (w.alloc (.cells #[.bool g1, .slice a1 x1.length c1, .slice e1 y1.length t1] 27)).heap.size (w.alloc (.cells #[.bool g1, .slice a1 x1.length c1, .slice e1 y1.length t1] 27)) ((w.alloc (.cells #[.bool g1, .slice a1 x1.length c1, .slice e1 y1.length t1] 27)).alloc (.cells #[.bool g2, .slice a2 x2.length c2, .slice e2 y2.length t2] 27)) := (Below.refl _ _).alloc (Nat.le_refl _) _
  replace F1 := F1.below hq
  replace F2 := F2.below hq
  replace F3 := F3.below hq
  replace E1 := E1.below hq
  have E2 : Box ((w.alloc (.cells #[.bool g1, .slice a1 x1.length c1, .slice e1 y1.length t1] 27)).alloc (.cells #[.bool g2, .slice a2 x2.length c2, .slice e2 y2.length t2] 27)) (w.heap.size + 1) (.cells #[.bool g2, .slice a2 x2.length c2, .slice e2 y2.length t2] 27) := Box.put (.cells #[.bool g2, .slice a2 x2.length c2, .slice e2 y2.length t2] 27) (by simp)
  replace hs0 := Nat.le_trans hs0 hq.size
  replace hB := hB.trans (hq.mono hB.size)
  clear hq
  have hq : Below ((w.alloc (.cells #[.bool g1, .slice a1 x1.length c1, .slice e1 y1.length t1] 27)).alloc (.cells #[.bool g2, .slice a2 x2.length c2, .slice e2 y2.length t2] 27)).heap.size ((w.alloc (.cells #[.bool g1, .slice a1 x1.length c1, .slice e1 y1.length t1] 27)).alloc (.cells #[.bool g2, .slice a2 x2.length c2, .slice e2 y2.length t2] 27)) (((w.alloc (.cells #[.bool g1, .slice a1 x1.length c1, .slice e1 y1.length t1] 27)).alloc (.cells #[.bool g2, .slice a2 x2.length c2, .slice e2 y2.length t2] 27)).alloc (.cells #[.bool g3, .slice a3 x3.length c3, .slice e3 y3.length t3] 27)) := (Below.refl _ _).alloc (Nat.le_refl _) _
  replace F1 := F1.below hq
  replace F2 := F2.below hq
  replace F3 := F3.below hq
  replace E1 := E1.below hq
  replace E2 := E2.below hq
  have E3 : Box (((w.alloc (.cells #[.bool g1, .slice a1 x1.length c1, .slice e1 y1.length t1] 27)).alloc (.cells #[.bool g2, .slice a2 x2.length c2, .slice e2 y2.length t2] 27)).alloc (.cells #[.bool g3, .slice a3 x3.length c3, .slice e3 y3.length t3] 27)) (w.heap.size + 2) (.cells #[.bool g3, .slice a3 x3.length c3, .slice e3 y3.length t3] 27) := Box.put (.cells #[.bool g3, .slice a3 x3.length c3, .slice e3 y3.length t3] 27) (by simp)
  replace hs0 := Nat.le_trans hs0 hq.size
  replace hB := hB.trans (hq.mono hB.size)
  clear hq
  go_wp2_with fail
  obtain ⟨u1, hname⟩ : ∃ u, (((w.alloc (.cells #[.bool g1, .slice a1 x1.length c1, .slice e1 y1.length t1] 27)).alloc (.cells #[.bool g2, .slice a2 x2.length c2, .slice e2 y2.length t2] 27)).alloc (.cells #[.bool g3, .slice a3 x3.length c3, .slice e3 y3.length t3] 27)) = u := ⟨_, rfl⟩
  rw [hname] at hs0 hB F1 F2 F3 E1 E2 E3 ⊢
  have zh1 := hB.size
  have zs1 := hs0
  clear hname hs0
  refine (lrawake_any _).mono ?_
  rintro e w2 ⟨rfl, hb⟩
  replace F1 := F1.below hb
  replace F2 := F2.below hb
  replace F3 := F3.below hb
  replace E1 := E1.below hb
  replace E2 := E2.below hb
  replace E3 := E3.below hb
  replace hB := hB.trans (hb.mono hB.size)
  have zz2 := hb.size
  have zh2 := hB.size
  clear hb
  obtain ⟨k0, k1, k2, f0, f1, f2⟩ := E1.three
  obtain ⟨k3, k4, k5, f3, f4, f5⟩ := E2.three
  obtain ⟨k6, k7, k8, f6, f7, f8⟩ := E3.three
  have qE1 := E1.lt
  have qE2 := E2.lt
  have qE3 := E3.lt
  have hs0 := Nat.le_refl w2.heap.size
  have hq : Below w2.heap.size w2 (w2.alloc (.cells #[.bool g1, .slice a1 x1.length c1, .slice e1 y1.length t1, .bool g2, .slice a2 x2.length c2, .slice e2 y2.length t2, .bool g3, .slice a3 x3.length c3, .slice e3 y3.length t3] 27)) := (Below.refl _ _).alloc (Nat.le_refl _) _
  replace F1 := F1.below hq
  replace F2 := F2.below hq
  replace F3 := F3.below hq
  replace E1 := E1.below hq
  replace E2 := E2.below hq
  replace E3 := E3.below hq
  have L0 : Box (w2.alloc (.cells #[.bool g1, .slice a1 x1.length c1, .slice e1 y1.length t1, .bool g2, .slice a2 x2.length c2, .slice e2 y2.length t2, .bool g3, .slice a3 x3.length c3, .slice e3 y3.length t3] 27)) (w2.heap.size) (.cells #[.bool g1, .slice a1 x1.length c1, .slice e1 y1.length t1, .bool g2, .slice a2 x2.length c2, .slice e2 y2.length t2, .bool g3, .slice a3 x3.length c3, .slice e3 y3.length t3] 27) := Box.put (.cells #[.bool g1, .slice a1 x1.length c1, .slice e1 y1.length t1, .bool g2, .slice a2 x2.length c2, .slice e2 y2.length t2, .bool g3, .slice a3 x3.length c3, .slice e3 y3.length t3] 27) rfl
  replace hs0 := Nat.le_trans hs0 hq.size
  replace hB := hB.trans (hq.mono hB.size)
  clear hq
  go_wp2_with fail
  clear k0 k1 k2 f0 f1 f2 k3 k4 k5 f3 f4 f5 k6 k7 k8 f6 f7 f8
  obtain ⟨u3, hname⟩ : ∃ u, (w2.alloc (.cells #[.bool g1, .slice a1 x1.length c1, .slice e1 y1.length t1, .bool g2, .slice a2 x2.length c2, .slice e2 y2.length t2, .bool g3, .slice a3 x3.length c3, .slice e3 y3.length t3] 27)) = u := ⟨_, rfl⟩
  rw [hname] at hs0 hB F1 F2 F3 E1 E2 E3 L0 ⊢
  have zh3 := hB.size
  have zs3 := hs0
  clear hname hs0
  have R := row_box (rs := [⟨g1, a1, c1, x1, e1, t1, y1⟩, ⟨g2, a2, c2, x2, e2, t2, y2⟩, ⟨g3, a3, c3, x3, e3, t3, y3⟩]) (k := w2.heap.size) L0 (fun r hr => by
      simp only [List.mem_cons, List.not_mem_nil, or_false] at hr
      rcases hr with rfl | rfl | rfl
      · exact F1.mono (Nat.zero_le _)
      · exact F2.mono (Nat.zero_le _)
      · exact F3.mono (Nat.zero_le _))
  refine (lrlong_any (cap := 3) R false HL).mono ?_
  rintro e w4 ⟨rfl, hb⟩
  replace F1 := F1.below hb
  replace F2 := F2.below hb
  replace F3 := F3.below hb
  replace E1 := E1.below hb
  replace E2 := E2.below hb
  replace E3 := E3.below hb
  replace L0 := L0.below hb
  replace hB := hB.trans (hb.mono hB.size)
  have zz4 := hb.size
  have zh4 := hB.size
  clear hb
  clear R
  clear L0
  obtain ⟨k0, k1, k2, f0, f1, f2⟩ := E1.three
  obtain ⟨k3, k4, k5, f3, f4, f5⟩ := E2.three
  obtain ⟨k6, k7, k8, f6, f7, f8⟩ := E3.three
  have qE1 := E1.lt
  have qE2 := E2.lt
  have qE3 := E3.lt
  have hs0 := Nat.le_refl w4.heap.size
  have hq : Below w4.heap.size w4 (w4.alloc (.cells #[.bool g1, .slice a1 x1.length c1, .slice e1 y1.length t1, .bool g2, .slice a2 x2.length c2, .slice e2 y2.length t2, .bool g3, .slice a3 x3.length c3, .slice e3 y3.length t3] 27)) := (Below.refl _ _).alloc (Nat.le_refl _) _
  replace F1 := F1.below hq
  replace F2 := F2.below hq
  replace F3 := F3.below hq
  replace E1 := E1.below hq
  replace E2 := E2.below hq
  replace E3 := E3.below hq
  have L0 : Box (w4.alloc (.cells #[.bool g1, .slice a1 x1.length c1, .slice e1 y1.length t1, .bool g2, .slice a2 x2.length c2, .slice e2 y2.length t2, .bool g3, .slice a3 x3.length c3, .slice e3 y3.length t3] 27)) (w4.heap.size) (.cells #[.bool g1, .slice a1 x1.length c1, .slice e1 y1.length t1, .bool g2, .slice a2 x2.length c2, .slice e2 y2.length t2, .bool g3, .slice a3 x3.length c3, .slice e3 y3.length t3] 27) := Box.put (.cells #[.bool g1, .slice a1 x1.length c1, .slice e1 y1.length t1, .bool g2, .slice a2 x2.length c2, .slice e2 y2.length t2, .bool g3, .slice a3 x3.length c3, .slice e3 y3.length t3] 27) rfl
  replace hs0 := Nat.le_trans hs0 hq.size
  replace hB := hB.trans (hq.mono hB.size)
  clear hq
  go_wp2_with fail
  clear k0 k1 k2 f0 f1 f2 k3 k4 k5 f3 f4 f5 k6 k7 k8 f6 f7 f8
  obtain ⟨u5, hname⟩ : ∃ u, (w4.alloc (.cells #[.bool g1, .slice a1 x1.length c1, .slice e1 y1.length t1, .bool g2, .slice a2 x2.length c2, .slice e2 y2.length t2, .bool g3, .slice a3 x3.length c3, .slice e3 y3.length t3] 27)) = u := ⟨_, rfl⟩
  rw [hname] at hs0 hB F1 F2 F3 E1 E2 E3 L0 ⊢
  have zh5 := hB.size
  have zs5 := hs0
  clear hname hs0
  have R := row_box (rs := [⟨g1, a1, c1, x1, e1, t1, y1⟩, ⟨g2, a2, c2, x2, e2, t2, y2⟩, ⟨g3, a3, c3, x3, e3, t3, y3⟩]) (k := w4.heap.size) L0 (fun r hr => by
      simp only [List.mem_cons, List.not_mem_nil, or_false] at hr
      rcases hr with rfl | rfl | rfl
      · exact F1.mono (Nat.zero_le _)
      · exact F2.mono (Nat.zero_le _)
      · exact F3.mono (Nat.zero_le _))
  refine (lrgood_any (cap := 3) R (by simp) hlen0.out true HG).mono ?_
  rintro e w6 ⟨rfl, hb⟩
  replace F1 := F1.below hb
  replace F2 := F2.below hb
  replace F3 := F3.below hb
  replace E1 := E1.below hb
  replace E2 := E2.below hb
  replace E3 := E3.below hb
  replace L0 := L0.below hb
  replace hB := hB.trans (hb.mono hB.size)
  have zz6 := hb.size
  have zh6 := hB.size
  clear hb
  clear R
  clear L0
  obtain ⟨k0, k1, k2, f0, f1, f2⟩ := E1.three
  obtain ⟨k3, k4, k5, f3, f4, f5⟩ := E2.three
  go_wp2_with fail
  clear k0 k1 k2 f0 f1 f2 k3 k4 k5 f3 f4 f5
  have hk := pcmp_ok g1 g2 F1 F2 I1 I2 (by omega)
  rw [H12.out] at hk
  refine (hk).mono ?_
  rintro e w7 ⟨rfl, hb⟩
  replace F1 := F1.below hb
  replace F2 := F2.below hb
  replace F3 := F3.below hb
  replace E1 := E1.below hb
  replace E2 := E2.below hb
  replace E3 := E3.below hb
  replace hB := hB.trans (hb.mono hB.size)
  have zz7 := hb.size
  have zh7 := hB.size
  clear hb
  clear hk
  obtain ⟨k0, k1, k2, f0, f1, f2⟩ := E1.three
  obtain ⟨k3, k4, k5, f3, f4, f5⟩ := E2.three
  go_wp2_with fail
  clear k0 k1 k2 f0 f1 f2 k3 k4 k5 f3 f4 f5
  have hk := pcmp_ok g2 g1 F2 F1 I2 I1 (by omega)
  rw [H21.out] at hk
  refine (hk).mono ?_
  rintro e w8 ⟨rfl, hb⟩
  replace F1 := F1.below hb
  replace F2 := F2.below hb
  replace F3 := F3.below hb
  replace E1 := E1.below hb
  replace E2 := E2.below hb
  replace E3 := E3.below hb
  replace hB := hB.trans (hb.mono hB.size)
  have zz8 := hb.size
  have zh8 := hB.size
  clear hb
  clear hk
  obtain ⟨k0, k1, k2, f0, f1, f2⟩ := E2.three
  obtain ⟨k3, k4, k5, f3, f4, f5⟩ := E3.three
  go_wp2_with fail
  clear k0 k1 k2 f0 f1 f2 k3 k4 k5 f3 f4 f5
  have hk := pcmp_ok g2 g3 F2 F3 I2 I3 (by omega)
  rw [H23.out] at hk
  refine (hk).mono ?_
  rintro e w9 ⟨rfl, hb⟩
  replace F1 := F1.below hb
  replace F2 := F2.below hb
  replace F3 := F3.below hb
  replace E1 := E1.below hb
  replace E2 := E2.below hb
  replace E3 := E3.below hb
  replace hB := hB.trans (hb.mono hB.size)
  have zz9 := hb.size
  have zh9 := hB.size
  clear hb
  clear hk
  obtain ⟨k0, k1, k2, f0, f1, f2⟩ := E1.three
  obtain ⟨k3, k4, k5, f3, f4, f5⟩ := E3.three
  go_wp2_with fail
  clear k0 k1 k2 f0 f1 f2 k3 k4 k5 f3 f4 f5
  have hk := pcmp_ok g1 g3 F1 F3 I1 I3 (by omega)
  rw [H13.out] at hk
  refine (hk).mono ?_
  rintro e w10 ⟨rfl, hb⟩
  replace F1 := F1.below hb
  replace F2 := F2.below hb
  replace F3 := F3.below hb
  replace E1 := E1.below hb
  replace E2 := E2.below hb
  replace E3 := E3.below hb
  replace hB := hB.trans (hb.mono hB.size)
  have zz10 := hb.size
  have zh10 := hB.size
  clear hb
  clear hk
  obtain ⟨k0, k1, k2, f0, f1, f2⟩ := E1.three
  obtain ⟨k3, k4, k5, f3, f4, f5⟩ := E2.three
  go_wp2_with fail
  clear k0 k1 k2 f0 f1 f2 k3 k4 k5 f3 f4 f5
  refine (psub_ok g1 g2 F1 F2 ⟨I1.lu, I1.ld⟩ ⟨I2.lu, I2.ld⟩ (by omega) (by omega) (I1.good F1.up.words F1.down.words) (I2.good F2.up.words F2.down.words)).mono ?_
  rintro e w11 ⟨g4, a4, c4, x4, e4, t4, y4, rfl, F4, P4, I4, hb⟩
  replace I4 : Is g4 x4 y4 (q1 - q2) (11) := (I4.mono (by omega)).to (by rw [I1.rat, I2.rat]; skip)
  replace F1 := F1.below hb
  replace F2 := F2.below hb
  replace F3 := F3.below hb
  replace E1 := E1.below hb
  replace E2 := E2.below hb
  replace E3 := E3.below hb
  replace hB := hB.trans (hb.mono hB.size)
  have zz11 := hb.size
  have zh11 := hB.size
  clear hb
  obtain ⟨k0, k1, k2, f0, f1, f2⟩ := E1.three
  obtain ⟨k3, k4, k5, f3, f4, f5⟩ := E3.three
  have qE1 := E1.lt
  have qE2 := E2.lt
  have qE3 := E3.lt
  have hs0 := Nat.le_refl w11.heap.size
  have hq : Below w11.heap.size w11 (w11.alloc (.cells #[.bool g4, .slice a4 x4.length c4, .slice e4 y4.length t4] 27)) := (Below.refl _ _).alloc (Nat.le_refl _) _
  replace F1 := F1.below hq
  replace F2 := F2.below hq
  replace F3 := F3.below hq
  replace E1 := E1.below hq
  replace E2 := E2.below hq
  replace E3 := E3.below hq
  replace F4 := F4.below hq
  have E4 : Box (w11.alloc (.cells #[.bool g4, .slice a4 x4.length c4, .slice e4 y4.length t4] 27)) (w11.heap.size) (.cells #[.bool g4, .slice a4 x4.length c4, .slice e4 y4.length t4] 27) := Box.put (.cells #[.bool g4, .slice a4 x4.length c4, .slice e4 y4.length t4] 27) rfl
  replace hs0 := Nat.le_trans hs0 hq.size
  replace hB := hB.trans (hq.mono hB.size)
  clear hq
  have hq : Below (w11.alloc (.cells #[.bool g4, .slice a4 x4.length c4, .slice e4 y4.length t4] 27)).heap.size (w11.alloc (.cells #[.bool g4, .slice a4 x4.length c4, .slice e4 y4.length t4] 27)) ((w11.alloc (.cells #[.bool g4, .slice a4 x4.length c4, .slice e4 y4.length t4] 27)).alloc (.cells #[.bool g1, .slice a1 x1.length c1, .slice e1 y1.length t1, .bool g3, .slice a3 x3.length c3, .slice e3 y3.length t3] 27)) := (Below.refl _ _).alloc (Nat.le_refl _) _
  replace F1 := F1.below hq
  replace F2 := F2.below hq
  replace F3 := F3.below hq
  replace E1 := E1.below hq
  replace E2 := E2.below hq
  replace E3 := E3.below hq
  replace F4 := F4.below hq
  replace E4 := E4.below hq
  have L5 : Box ((w11.alloc (.cells #[.bool g4, .slice a4 x4.length c4, .slice e4 y4.length t4] 27)).alloc (.cells #[.bool g1, .slice a1 x1.length c1, .slice e1 y1.length t1, .bool g3, .slice a3 x3.length c3, .slice e3 y3.length t3] 27)) (w11.heap.size + 1) (.cells #[.bool g1, .slice a1 x1.length c1, .slice e1 y1.length t1, .bool g3, .slice a3 x3.length c3, .slice e3 y3.length t3] 27) := Box.put (.cells #[.bool g1, .slice a1 x1.length c1, .slice e1 y1.length t1, .bool g3, .slice a3 x3.length c3, .slice e3 y3.length t3] 27) (by simp)
  replace hs0 := Nat.le_trans hs0 hq.size
  replace hB := hB.trans (hq.mono hB.size)
  clear hq
  go_wp2_with fail
  clear k0 k1 k2 f0 f1 f2 k3 k4 k5 f3 f4 f5
  obtain ⟨u12, hname⟩ : ∃ u, ((w11.alloc (.cells #[.bool g4, .slice a4 x4.length c4, .slice e4 y4.length t4] 27)).alloc (.cells #[.bool g1, .slice a1 x1.length c1, .slice e1 y1.length t1, .bool g3, .slice a3 x3.length c3, .slice e3 y3.length t3] 27)) = u := ⟨_, rfl⟩
  rw [hname] at hs0 hB F1 F2 F3 E1 E2 E3 F4 E4 L5 ⊢
  have zh12 := hB.size
  have zs12 := hs0
  clear hname hs0
  have R := row_box (rs := [⟨g1, a1, c1, x1, e1, t1, y1⟩, ⟨g3, a3, c3, x3, e3, t3, y3⟩]) (k := w11.heap.size + 1) L5 (fun r hr => by
      simp only [List.mem_cons, List.not_mem_nil, or_false] at hr
      rcases hr with rfl | rfl
      · exact F1.mono (Nat.zero_le _)
      · exact F3.mono (Nat.zero_le _))
  have hlen : ∀ r ∈ ([⟨g1, a1, c1, x1, e1, t1, y1⟩, ⟨g3, a3, c3, x3, e3, t3, y3⟩] : List RV), r.xs.length ≤ 5 ∧ r.ds.length ≤ 5 := fun r hr => by
      simp only [List.mem_cons, List.not_mem_nil, or_false] at hr
      rcases hr with rfl | rfl
      · exact ⟨Nat.le_trans I1.lu (by decide), Nat.le_trans I1.ld (by decide)⟩
      · exact ⟨Nat.le_trans I3.lu (by decide), Nat.le_trans I3.ld (by decide)⟩
  have hg : ∀ r ∈ ([⟨g1, a1, c1, x1, e1, t1, y1⟩, ⟨g3, a3, c3, x3, e3, t3, y3⟩] : List RV), formR r.b r.xs r.ds = 0 := fun r hr => by
      simp only [List.mem_cons, List.not_mem_nil, or_false] at hr
      rcases hr with rfl | rfl
      · exact I1.good F1.up.words F1.down.words
      · exact I3.good F3.up.words F3.down.words
  refine (padd_ok (cap := 2) R (by simp) hlen (by omega) hg).mono ?_
  rintro e w13 ⟨g6, a6, c6, x6, e6, t6, y6, rfl, F6, P6, I6, hb⟩
  replace I6 : Is g6 x6 y6 (q1 + q3) (13) := (I6.mono (by simp)).to (by simp only [sumQ, RV.q, List.foldl, I1.rat, I3.rat]; grind)
  replace F1 := F1.below hb
  replace F2 := F2.below hb
  replace F3 := F3.below hb
  replace E1 := E1.below hb
  replace E2 := E2.below hb
  replace E3 := E3.below hb
  replace F4 := F4.below hb
  replace E4 := E4.below hb
  replace L5 := L5.below hb
  replace hB := hB.trans (hb.mono hB.size)
  have zz13 := hb.size
  have zh13 := hB.size
  clear hb
  clear R hlen hg
  clear L5
  obtain ⟨k0, k1, k2, f0, f1, f2⟩ := E2.three
  obtain ⟨k3, k4, k5, f3, f4, f5⟩ := E3.three
  have qE1 := E1.lt
  have qE2 := E2.lt
  have qE3 := E3.lt
  have qE4 := E4.lt
  have hs0 := Nat.le_refl w13.heap.size
  have hq : Below w13.heap.size w13 (w13.alloc (.cells #[.bool g6, .slice a6 x6.length c6, .slice e6 y6.length t6] 27)) := (Below.refl _ _).alloc (Nat.le_refl _) _
  replace F1 := F1.below hq
  replace F2 := F2.below hq
  replace F3 := F3.below hq
  replace E1 := E1.below hq
  replace E2 := E2.below hq
  replace E3 := E3.below hq
  replace F4 := F4.below hq
  replace E4 := E4.below hq
  replace F6 := F6.below hq
  have E6 : Box (w13.alloc (.cells #[.bool g6, .slice a6 x6.length c6, .slice e6 y6.length t6] 27)) (w13.heap.size) (.cells #[.bool g6, .slice a6 x6.length c6, .slice e6 y6.length t6] 27) := Box.put (.cells #[.bool g6, .slice a6 x6.length c6, .slice e6 y6.length t6] 27) rfl
  replace hs0 := Nat.le_trans hs0 hq.size
  replace hB := hB.trans (hq.mono hB.size)
  clear hq
  have hq : Below (w13.alloc (.cells #[.bool g6, .slice a6 x6.length c6, .slice e6 y6.length t6] 27)).heap.size (w13.alloc (.cells #[.bool g6, .slice a6 x6.length c6, .slice e6 y6.length t6] 27)) ((w13.alloc (.cells #[.bool g6, .slice a6 x6.length c6, .slice e6 y6.length t6] 27)).alloc (.cells #[.bool g2, .slice a2 x2.length c2, .slice e2 y2.length t2, .bool g3, .slice a3 x3.length c3, .slice e3 y3.length t3] 27)) := (Below.refl _ _).alloc (Nat.le_refl _) _
  replace F1 := F1.below hq
  replace F2 := F2.below hq
  replace F3 := F3.below hq
  replace E1 := E1.below hq
  replace E2 := E2.below hq
  replace E3 := E3.below hq
  replace F4 := F4.below hq
  replace E4 := E4.below hq
  replace F6 := F6.below hq
  replace E6 := E6.below hq
  have L7 : Box ((w13.alloc (.cells #[.bool g6, .slice a6 x6.length c6, .slice e6 y6.length t6] 27)).alloc (.cells #[.bool g2, .slice a2 x2.length c2, .slice e2 y2.length t2, .bool g3, .slice a3 x3.length c3, .slice e3 y3.length t3] 27)) (w13.heap.size + 1) (.cells #[.bool g2, .slice a2 x2.length c2, .slice e2 y2.length t2, .bool g3, .slice a3 x3.length c3, .slice e3 y3.length t3] 27) := Box.put (.cells #[.bool g2, .slice a2 x2.length c2, .slice e2 y2.length t2, .bool g3, .slice a3 x3.length c3, .slice e3 y3.length t3] 27) (by simp)
  replace hs0 := Nat.le_trans hs0 hq.size
  replace hB := hB.trans (hq.mono hB.size)
  clear hq
  go_wp2_with fail
  clear k0 k1 k2 f0 f1 f2 k3 k4 k5 f3 f4 f5
  obtain ⟨u14, hname⟩ : ∃ u, ((w13.alloc (.cells #[.bool g6, .slice a6 x6.length c6, .slice e6 y6.length t6] 27)).alloc (.cells #[.bool g2, .slice a2 x2.length c2, .slice e2 y2.length t2, .bool g3, .slice a3 x3.length c3, .slice e3 y3.length t3] 27)) = u := ⟨_, rfl⟩
  rw [hname] at hs0 hB F1 F2 F3 E1 E2 E3 F4 E4 F6 E6 L7 ⊢
  have zh14 := hB.size
  have zs14 := hs0
  clear hname hs0
  have R := row_box (rs := [⟨g2, a2, c2, x2, e2, t2, y2⟩, ⟨g3, a3, c3, x3, e3, t3, y3⟩]) (k := w13.heap.size + 1) L7 (fun r hr => by
      simp only [List.mem_cons, List.not_mem_nil, or_false] at hr
      rcases hr with rfl | rfl
      · exact F2.mono (Nat.zero_le _)
      · exact F3.mono (Nat.zero_le _))
  have hlen : ∀ r ∈ ([⟨g2, a2, c2, x2, e2, t2, y2⟩, ⟨g3, a3, c3, x3, e3, t3, y3⟩] : List RV), r.xs.length ≤ 5 ∧ r.ds.length ≤ 5 := fun r hr => by
      simp only [List.mem_cons, List.not_mem_nil, or_false] at hr
      rcases hr with rfl | rfl
      · exact ⟨Nat.le_trans I2.lu (by decide), Nat.le_trans I2.ld (by decide)⟩
      · exact ⟨Nat.le_trans I3.lu (by decide), Nat.le_trans I3.ld (by decide)⟩
  have hg : ∀ r ∈ ([⟨g2, a2, c2, x2, e2, t2, y2⟩, ⟨g3, a3, c3, x3, e3, t3, y3⟩] : List RV), formR r.b r.xs r.ds = 0 := fun r hr => by
      simp only [List.mem_cons, List.not_mem_nil, or_false] at hr
      rcases hr with rfl | rfl
      · exact I2.good F2.up.words F2.down.words
      · exact I3.good F3.up.words F3.down.words
  refine (padd_ok (cap := 2) R (by simp) hlen (by omega) hg).mono ?_
  rintro e w15 ⟨g8, a8, c8, x8, e8, t8, y8, rfl, F8, P8, I8, hb⟩
  replace I8 : Is g8 x8 y8 (q2 + q3) (13) := (I8.mono (by simp)).to (by simp only [sumQ, RV.q, List.foldl, I2.rat, I3.rat]; grind)
  replace F1 := F1.below hb
  replace F2 := F2.below hb
  replace F3 := F3.below hb
  replace E1 := E1.below hb
  replace E2 := E2.below hb
  replace E3 := E3.below hb
  replace F4 := F4.below hb
  replace E4 := E4.below hb
  replace F6 := F6.below hb
  replace E6 := E6.below hb
  replace L7 := L7.below hb
  replace hB := hB.trans (hb.mono hB.size)
  have zz15 := hb.size
  have zh15 := hB.size
  clear hb
  clear R hlen hg
  clear L7
  obtain ⟨k0, k1, k2, f0, f1, f2⟩ := E6.three
  have qE1 := E1.lt
  have qE2 := E2.lt
  have qE3 := E3.lt
  have qE4 := E4.lt
  have qE6 := E6.lt
  have hs0 := Nat.le_refl w15.heap.size
  have hq : Below w15.heap.size w15 (w15.alloc (.cells #[.bool g8, .slice a8 x8.length c8, .slice e8 y8.length t8] 27)) := (Below.refl _ _).alloc (Nat.le_refl _) _
  replace F1 := F1.below hq
  replace F2 := F2.below hq
  replace F3 := F3.below hq
  replace E1 := E1.below hq
  replace E2 := E2.below hq
  replace E3 := E3.below hq
  replace F4 := F4.below hq
  replace E4 := E4.below hq
  replace F6 := F6.below hq
  replace E6 := E6.below hq
  replace F8 := F8.below hq
  have E8 : Box (w15.alloc (.cells #[.bool g8, .slice a8 x8.length c8, .slice e8 y8.length t8] 27)) (w15.heap.size) (.cells #[.bool g8, .slice a8 x8.length c8, .slice e8 y8.length t8] 27) := Box.put (.cells #[.bool g8, .slice a8 x8.length c8, .slice e8 y8.length t8] 27) rfl
  replace hs0 := Nat.le_trans hs0 hq.size
  replace hB := hB.trans (hq.mono hB.size)
  clear hq
  go_wp2_with fail
  clear k0 k1 k2 f0 f1 f2
  obtain ⟨u16, hname⟩ : ∃ u, (w15.alloc (.cells #[.bool g8, .slice a8 x8.length c8, .slice e8 y8.length t8] 27)) = u := ⟨_, rfl⟩
  rw [hname] at hs0 hB F1 F2 F3 E1 E2 E3 F4 E4 F6 E6 F8 E8 ⊢
  have zh16 := hB.size
  have zs16 := hs0
  clear hname hs0
  have hk := pcmp_ok g6 g8 F6 F8 I6 I8 (by omega)
  rw [Ho.out] at hk
  refine (hk).mono ?_
  rintro e w17 ⟨rfl, hb⟩
  replace F1 := F1.below hb
  replace F2 := F2.below hb
  replace F3 := F3.below hb
  replace E1 := E1.below hb
  replace E2 := E2.below hb
  replace E3 := E3.below hb
  replace F4 := F4.below hb
  replace E4 := E4.below hb
  replace F6 := F6.below hb
  replace E6 := E6.below hb
  replace F8 := F8.below hb
  replace E8 := E8.below hb
  replace hB := hB.trans (hb.mono hB.size)
  have zz17 := hb.size
  have zh17 := hB.size
  clear hb
  clear hk
  clear E6 E8 F6 F8
  obtain ⟨k0, k1, k2, f0, f1, f2⟩ := E4.three
  go_wp2_with fail
  clear k0 k1 k2 f0 f1 f2
  have hk := ssign_any g4 F4.up (by have := I4.lu; omega)
  rw [sign_is I4, Hd.out] at hk
  refine (hk).mono ?_
  rintro e w18 ⟨rfl, hb⟩
  replace F1 := F1.below hb
  replace F2 := F2.below hb
  replace F3 := F3.below hb
  replace E1 := E1.below hb
  replace E2 := E2.below hb
  replace E3 := E3.below hb
  replace F4 := F4.below hb
  replace E4 := E4.below hb
  replace hB := hB.trans (hb.mono hB.size)
  have zz18 := hb.size
  have zh18 := hB.size
  clear hb
  clear hk
  obtain ⟨k0, k1, k2, f0, f1, f2⟩ := E1.three
  obtain ⟨k3, k4, k5, f3, f4, f5⟩ := E2.three
  go_wp2_with fail
  clear k0 k1 k2 f0 f1 f2 k3 k4 k5 f3 f4 f5
  have hk := samer_any g1 g2 F1 F2 (by have := I1.lu; omega) (by have := I1.ld; omega)
  rw [decide_eq_false (fun h => Hq.out (by rw [← I1.rat, ← I2.rat, h.1, h.2.1, h.2.2]))] at hk
  refine (hk).mono ?_
  rintro e w19 ⟨rfl, hb⟩
  replace F1 := F1.below hb
  replace F2 := F2.below hb
  replace F3 := F3.below hb
  replace E1 := E1.below hb
  replace E2 := E2.below hb
  replace E3 := E3.below hb
  replace F4 := F4.below hb
  replace E4 := E4.below hb
  replace hB := hB.trans (hb.mono hB.size)
  have zz19 := hb.size
  have zh19 := hB.size
  clear hb
  clear hk
  obtain ⟨k0, k1, k2, f0, f1, f2⟩ := E1.three
  obtain ⟨k3, k4, k5, f3, f4, f5⟩ := E2.three
  go_wp2
  go_ret
  exact ⟨rfl, hB⟩
end Go.Proofs.Ytblmkddjlfienaa

/-
  The walk of RatioOrder.
-/
namespace Go.Proofs.Ytblmkddjlfienaa
open Go.RowKit

set_option maxRecDepth 100000 in
set_option maxHeartbeats 4000000 in
theorem lrorder_ltge {a1 e1 : Option Addr} {c1 t1 : Nat} {x1 y1 : List Int} {a2 e2 : Option Addr} {c2 t2 : Nat} {x2 y2 : List Int} {a3 e3 : Option Addr} {c3 t3 : Nat} {x3 y3 : List Int} {w : World} (g1 g2 g3 : Bool) (F1 : Fr 0 w a1 c1 x1 e1 t1 y1) (F2 : Fr 0 w a2 c2 x2 e2 t2 y2) (F3 : Fr 0 w a3 c3 x3 e3 t3 y3) (hl1 : x1.length ≤ 5 ∧ y1.length ≤ 5) (hl2 : x2.length ≤ 5 ∧ y2.length ≤ 5) (hl3 : x3.length ≤ 5 ∧ y3.length ≤ 5) {q1 q2 q3 : Rat} (I1 : Is g1 x1 y1 q1 5) (I2 : Is g2 x2 y2 q2 5) (I3 : Is g3 x3 y3 q3 5) (hq : q1 < q2) (kv lv : Int) (hk0 : 0 ≤ kv) (H23 : Hid (cmpR q2 q3 = kv)) (H13 : Hid (cmpR q1 q3 = lv)) :
    Calls Try.prog 4 #[.agg #[.bool g1, .slice a1 x1.length c1, .slice e1 y1.length t1], .agg #[.bool g2, .slice a2 x2.length c2, .slice e2 y2.length t2], .agg #[.bool g3, .slice a3 x3.length c3, .slice e3 y3.length t3]] w fun e w' => e = .returned (.bool true) ∧ Below w.heap.size w w' := by
  have hlen0 : Hid (∀ r ∈ ([⟨g1, a1, c1, x1, e1, t1, y1⟩, ⟨g2, a2, c2, x2, e2, t2, y2⟩, ⟨g3, a3, c3, x3, e3, t3, y3⟩] : List RV), r.xs.length ≤ 1000 ∧ r.ds.length ≤ 1000) := fun r hr => by
    simp only [List.mem_cons, List.not_mem_nil, or_false] at hr
    rcases hr with rfl | rfl | rfl <;> constructor <;> simp <;> omega
  have HL := long_no [⟨g1, a1, c1, x1, e1, t1, y1⟩, ⟨g2, a2, c2, x2, e2, t2, y2⟩, ⟨g3, a3, c3, x3, e3, t3, y3⟩] (by simp) (fun r hr => by
    simp only [List.mem_cons, List.not_mem_nil, or_false] at hr
    rcases hr with rfl | rfl | rfl
    · exact hl1
    · exact hl2
    · exact hl3)
  have HG := good_yes [⟨g1, a1, c1, x1, e1, t1, y1⟩, ⟨g2, a2, c2, x2, e2, t2, y2⟩, ⟨g3, a3, c3, x3, e3, t3, y3⟩] (fun r hr => by
    simp only [List.mem_cons, List.not_mem_nil, or_false] at hr
    rcases hr with rfl | rfl | rfl
    · exact I1.good F1.up.words F1.down.words
    · exact I2.good F2.up.words F2.down.words
    · exact I3.good F3.up.words F3.down.words)
  clear hl1 hl2 hl3
  have H12 : Hid (cmpR q1 q2 = -1) := by rw [Hid]; exact cmpR_lt hq
  have H21 : Hid (cmpR q2 q1 = 1) := by rw [Hid]; exact cmpR_gt hq
  have Hd : Hid (cmpR (q1 - q2) 0 = -1) := by rw [Hid]; exact cmpR_lt (by grind)
  have Ho : Hid (cmpR (q1 + q3) (q2 + q3) = -1) := by rw [Hid]; exact cmpR_lt (by grind)
  have Hq : Hid (¬ q1 = q2) := by rw [Hid]; grind
  clear hq
  have hB := Below.refl w.heap.size w
  go_enter Try.func4, Try.ntmps4
  have hs0 := Nat.le_refl w.heap.size
  have hq : Below w.heap.size w (w.alloc (.cells #[.bool g1, .slice a1 x1.length c1, .slice e1 y1.length t1] 27)) := (Below.refl _ _).alloc (Nat.le_refl _) _
  replace F1 := F1.below hq
  replace F2 := F2.below hq
  replace F3 := F3.below hq
  have E1 : Box (w.alloc (.cells #[.bool g1, .slice a1 x1.length c1, .slice e1 y1.length t1] 27)) (w.heap.size) (.cells #[.bool g1, .slice a1 x1.length c1, .slice e1 y1.length t1] 27) := Box.put (.cells #[.bool g1, .slice a1 x1.length c1, .slice e1 y1.length t1] 27) rfl
  replace hs0 := Nat.le_trans hs0 hq.size
  replace hB := hB.trans (hq.mono hB.size)
  clear hq
  have hq : Below (w.alloc (.cells #[.bool g1, .slice a1 x1.length c1, .slice e1 y1.length t1] 27)).heap.size (w.alloc (.cells #[.bool g1, .slice a1 x1.length c1, .slice e1 y1.length t1] 27)) ((w.alloc (.cells #[.bool g1, .slice a1 x1.length c1, .slice e1 y1.length t1] 27)).alloc (.cells #[.bool g2, .slice a2 x2.length c2, .slice e2 y2.length t2] 27)) := (Below.refl _ _).alloc (Nat.le_refl _) _
  replace F1 := F1.below hq
  replace F2 := F2.below hq
  replace F3 := F3.below hq
  replace E1 := E1.below hq
  have E2 : Box ((w.alloc (.cells #[.bool g1, .slice a1 x1.length c1, .slice e1 y1.length t1] 27)).alloc (.cells #[.bool g2, .slice a2 x2.length c2, .slice e2 y2.length t2] 27)) (w.heap.size + 1) (.cells #[.bool g2, .slice a2 x2.length c2, .slice e2 y2.length t2] 27) := Box.put (.cells #[.bool g2, .slice a2 x2.length c2, .slice e2 y2.length t2] 27) (by simp)
  replace hs0 := Nat.le_trans hs0 hq.size
  replace hB := hB.trans (hq.mono hB.size)
  clear hq
  have hq : Below ((w.alloc (.cells #[.bool g1, .slice a1 x1.length c1, .slice e1 y1.length t1] 27)).alloc (.cells #[.bool g2, .slice a2 x2.length c2, .slice e2 y2.length t2] 27)).heap.size ((w.alloc (.cells #[.bool g1, .slice a1 x1.length c1, .slice e1 y1.length t1] 27)).alloc (.cells #[.bool g2, .slice a2 x2.length c2, .slice e2 y2.length t2] 27)) (((w.alloc (.cells #[.bool g1, .slice a1 x1.length c1, .slice e1 y1.length t1] 27)).alloc (.cells #[.bool g2, .slice a2 x2.length c2, .slice e2 y2.length t2] 27)).alloc (.cells #[.bool g3, .slice a3 x3.length c3, .slice e3 y3.length t3] 27)) := (Below.refl _ _).alloc (Nat.le_refl _) _
  replace F1 := F1.below hq
  replace F2 := F2.below hq
  replace F3 := F3.below hq
  replace E1 := E1.below hq
  replace E2 := E2.below hq
  have E3 : Box (((w.alloc (.cells #[.bool g1, .slice a1 x1.length c1, .slice e1 y1.length t1] 27)).alloc (.cells #[.bool g2, .slice a2 x2.length c2, .slice e2 y2.length t2] 27)).alloc (.cells #[.bool g3, .slice a3 x3.length c3, .slice e3 y3.length t3] 27)) (w.heap.size + 2) (.cells #[.bool g3, .slice a3 x3.length c3, .slice e3 y3.length t3] 27) := Box.put (.cells #[.bool g3, .slice a3 x3.length c3, .slice e3 y3.length t3] 27) (by simp)
  replace hs0 := Nat.le_trans hs0 hq.size
  replace hB := hB.trans (hq.mono hB.size)
  clear hq
  go_wp2_with fail
  obtain ⟨u1, hname⟩ : ∃ u, (((w.alloc (.cells #[.bool g1, .slice a1 x1.length c1, .slice e1 y1.length t1] 27)).alloc (.cells #[.bool g2, .slice a2 x2.length c2, .slice e2 y2.length t2] 27)).alloc (.cells #[.bool g3, .slice a3 x3.length c3, .slice e3 y3.length t3] 27)) = u := ⟨_, rfl⟩
  rw [hname] at hs0 hB F1 F2 F3 E1 E2 E3 ⊢
  have zh1 := hB.size
  have zs1 := hs0
  clear hname hs0
  refine (lrawake_any _).mono ?_
  rintro e w2 ⟨rfl, hb⟩
  replace F1 := F1.below hb
  replace F2 := F2.below hb
  replace F3 := F3.below hb
  replace E1 := E1.below hb
  replace E2 := E2.below hb
  replace E3 := E3.below hb
  replace hB := hB.trans (hb.mono hB.size)
  have zz2 := hb.size
  have zh2 := hB.size
  clear hb
  obtain ⟨k0, k1, k2, f0, f1, f2⟩ := E1.three
  obtain ⟨k3, k4, k5, f3, f4, f5⟩ := E2.three
  obtain ⟨k6, k7, k8, f6, f7, f8⟩ := E3.three
  have qE1 := E1.lt
  have qE2 := E2.lt
  have qE3 := E3.lt
  have hs0 := Nat.le_refl w2.heap.size
  have hq : Below w2.heap.size w2 (w2.alloc (.cells #[.bool g1, .slice a1 x1.length c1, .slice e1 y1.length t1, .bool g2, .slice a2 x2.length c2, .slice e2 y2.length t2, .bool g3, .slice a3 x3.length c3, .slice e3 y3.length t3] 27)) := (Below.refl _ _).alloc (Nat.le_refl _) _
  replace F1 := F1.below hq
  replace F2 := F2.below hq
  replace F3 := F3.below hq
  replace E1 := E1.below hq
  replace E2 := E2.below hq
  replace E3 := E3.below hq
  have L0 : Box (w2.alloc (.cells #[.bool g1, .slice a1 x1.length c1, .slice e1 y1.length t1, .bool g2, .slice a2 x2.length c2, .slice e2 y2.length t2, .bool g3, .slice a3 x3.length c3, .slice e3 y3.length t3] 27)) (w2.heap.size) (.cells #[.bool g1, .slice a1 x1.length c1, .slice e1 y1.length t1, .bool g2, .slice a2 x2.length c2, .slice e2 y2.length t2, .bool g3, .slice a3 x3.length c3, .slice e3 y3.length t3] 27) := Box.put (.cells #[.bool g1, .slice a1 x1.length c1, .slice e1 y1.length t1, .bool g2, .slice a2 x2.length c2, .slice e2 y2.length t2, .bool g3, .slice a3 x3.length c3, .slice e3 y3.length t3] 27) rfl
  replace hs0 := Nat.le_trans hs0 hq.size
  replace hB := hB.trans (hq.mono hB.size)
  clear hq
  go_wp2_with fail
  clear k0 k1 k2 f0 f1 f2 k3 k4 k5 f3 f4 f5 k6 k7 k8 f6 f7 f8
  obtain ⟨u3, hname⟩ : ∃ u, (w2.alloc (.cells #[.bool g1, .slice a1 x1.length c1, .slice e1 y1.length t1, .bool g2, .slice a2 x2.length c2, .slice e2 y2.length t2, .bool g3, .slice a3 x3.length c3, .slice e3 y3.length t3] 27)) = u := ⟨_, rfl⟩
  rw [hname] at hs0 hB F1 F2 F3 E1 E2 E3 L0 ⊢
  have zh3 := hB.size
  have zs3 := hs0
  clear hname hs0
  have R := row_box (rs := [⟨g1, a1, c1, x1, e1, t1, y1⟩, ⟨g2, a2, c2, x2, e2, t2, y2⟩, ⟨g3, a3, c3, x3, e3, t3, y3⟩]) (k := w2.heap.size) L0 (fun r hr => by
      simp only [List.mem_cons, List.not_mem_nil, or_false] at hr
      rcases hr with rfl | rfl | rfl
      · exact F1.mono (Nat.zero_le _)
      · exact F2.mono (Nat.zero_le _)
      · exact F3.mono (Nat.zero_le _))
  refine (lrlong_any (cap := 3) R false HL).mono ?_
  rintro e w4 ⟨rfl, hb⟩
  replace F1 := F1.below hb
  replace F2 := F2.below hb
  replace F3 := F3.below hb
  replace E1 := E1.below hb
  replace E2 := E2.below hb
  replace E3 := E3.below hb
  replace L0 := L0.below hb
  replace hB := hB.trans (hb.mono hB.size)
  have zz4 := hb.size
  have zh4 := hB.size
  clear hb
  clear R
  clear L0
  obtain ⟨k0, k1, k2, f0, f1, f2⟩ := E1.three
  obtain ⟨k3, k4, k5, f3, f4, f5⟩ := E2.three
  obtain ⟨k6, k7, k8, f6, f7, f8⟩ := E3.three
  have qE1 := E1.lt
  have qE2 := E2.lt
  have qE3 := E3.lt
  have hs0 := Nat.le_refl w4.heap.size
  have hq : Below w4.heap.size w4 (w4.alloc (.cells #[.bool g1, .slice a1 x1.length c1, .slice e1 y1.length t1, .bool g2, .slice a2 x2.length c2, .slice e2 y2.length t2, .bool g3, .slice a3 x3.length c3, .slice e3 y3.length t3] 27)) := (Below.refl _ _).alloc (Nat.le_refl _) _
  replace F1 := F1.below hq
  replace F2 := F2.below hq
  replace F3 := F3.below hq
  replace E1 := E1.below hq
  replace E2 := E2.below hq
  replace E3 := E3.below hq
  have L0 : Box (w4.alloc (.cells #[.bool g1, .slice a1 x1.length c1, .slice e1 y1.length t1, .bool g2, .slice a2 x2.length c2, .slice e2 y2.length t2, .bool g3, .slice a3 x3.length c3, .slice e3 y3.length t3] 27)) (w4.heap.size) (.cells #[.bool g1, .slice a1 x1.length c1, .slice e1 y1.length t1, .bool g2, .slice a2 x2.length c2, .slice e2 y2.length t2, .bool g3, .slice a3 x3.length c3, .slice e3 y3.length t3] 27) := Box.put (.cells #[.bool g1, .slice a1 x1.length c1, .slice e1 y1.length t1, .bool g2, .slice a2 x2.length c2, .slice e2 y2.length t2, .bool g3, .slice a3 x3.length c3, .slice e3 y3.length t3] 27) rfl
  replace hs0 := Nat.le_trans hs0 hq.size
  replace hB := hB.trans (hq.mono hB.size)
  clear hq
  go_wp2_with fail
  clear k0 k1 k2 f0 f1 f2 k3 k4 k5 f3 f4 f5 k6 k7 k8 f6 f7 f8
  obtain ⟨u5, hname⟩ : ∃ u, (w4.alloc (.cells #[.bool g1, .slice a1 x1.length c1, .slice e1 y1.length t1, .bool g2, .slice a2 x2.length c2, .slice e2 y2.length t2, .bool g3, .slice a3 x3.length c3, .slice e3 y3.length t3] 27)) = u := ⟨_, rfl⟩
  rw [hname] at hs0 hB F1 F2 F3 E1 E2 E3 L0 ⊢
  have zh5 := hB.size
  have zs5 := hs0
  clear hname hs0
  have R := row_box (rs := [⟨g1, a1, c1, x1, e1, t1, y1⟩, ⟨g2, a2, c2, x2, e2, t2, y2⟩, ⟨g3, a3, c3, x3, e3, t3, y3⟩]) (k := w4.heap.size) L0 (fun r hr => by
      simp only [List.mem_cons, List.not_mem_nil, or_false] at hr
      rcases hr with rfl | rfl | rfl
      · exact F1.mono (Nat.zero_le _)
      · exact F2.mono (Nat.zero_le _)
      · exact F3.mono (Nat.zero_le _))
  refine (lrgood_any (cap := 3) R (by simp) hlen0.out true HG).mono ?_
  rintro e w6 ⟨rfl, hb⟩
  replace F1 := F1.below hb
  replace F2 := F2.below hb
  replace F3 := F3.below hb
  replace E1 := E1.below hb
  replace E2 := E2.below hb
  replace E3 := E3.below hb
  replace L0 := L0.below hb
  replace hB := hB.trans (hb.mono hB.size)
  have zz6 := hb.size
  have zh6 := hB.size
  clear hb
  clear R
  clear L0
  obtain ⟨k0, k1, k2, f0, f1, f2⟩ := E1.three
  obtain ⟨k3, k4, k5, f3, f4, f5⟩ := E2.three
  go_wp2_with fail
  clear k0 k1 k2 f0 f1 f2 k3 k4 k5 f3 f4 f5
  have hk := pcmp_ok g1 g2 F1 F2 I1 I2 (by omega)
  rw [H12.out] at hk
  refine (hk).mono ?_
  rintro e w7 ⟨rfl, hb⟩
  replace F1 := F1.below hb
  replace F2 := F2.below hb
  replace F3 := F3.below hb
  replace E1 := E1.below hb
  replace E2 := E2.below hb
  replace E3 := E3.below hb
  replace hB := hB.trans (hb.mono hB.size)
  have zz7 := hb.size
  have zh7 := hB.size
  clear hb
  clear hk
  obtain ⟨k0, k1, k2, f0, f1, f2⟩ := E1.three
  obtain ⟨k3, k4, k5, f3, f4, f5⟩ := E2.three
  go_wp2_with fail
  clear k0 k1 k2 f0 f1 f2 k3 k4 k5 f3 f4 f5
  have hk := pcmp_ok g2 g1 F2 F1 I2 I1 (by omega)
  rw [H21.out] at hk
  refine (hk).mono ?_
  rintro e w8 ⟨rfl, hb⟩
  replace F1 := F1.below hb
  replace F2 := F2.below hb
  replace F3 := F3.below hb
  replace E1 := E1.below hb
  replace E2 := E2.below hb
  replace E3 := E3.below hb
  replace hB := hB.trans (hb.mono hB.size)
  have zz8 := hb.size
  have zh8 := hB.size
  clear hb
  clear hk
  obtain ⟨k0, k1, k2, f0, f1, f2⟩ := E2.three
  obtain ⟨k3, k4, k5, f3, f4, f5⟩ := E3.three
  go_wp2_with fail
  clear k0 k1 k2 f0 f1 f2 k3 k4 k5 f3 f4 f5
  have hk := pcmp_ok g2 g3 F2 F3 I2 I3 (by omega)
  rw [H23.out] at hk
  refine (hk).mono ?_
  rintro e w9 ⟨rfl, hb⟩
  replace F1 := F1.below hb
  replace F2 := F2.below hb
  replace F3 := F3.below hb
  replace E1 := E1.below hb
  replace E2 := E2.below hb
  replace E3 := E3.below hb
  replace hB := hB.trans (hb.mono hB.size)
  have zz9 := hb.size
  have zh9 := hB.size
  clear hb
  clear hk
  obtain ⟨k0, k1, k2, f0, f1, f2⟩ := E1.three
  obtain ⟨k3, k4, k5, f3, f4, f5⟩ := E3.three
  go_wp2_with fail
  clear k0 k1 k2 f0 f1 f2 k3 k4 k5 f3 f4 f5
  have hk := pcmp_ok g1 g3 F1 F3 I1 I3 (by omega)
  rw [H13.out] at hk
  refine (hk).mono ?_
  rintro e w10 ⟨rfl, hb⟩
  replace F1 := F1.below hb
  replace F2 := F2.below hb
  replace F3 := F3.below hb
  replace E1 := E1.below hb
  replace E2 := E2.below hb
  replace E3 := E3.below hb
  replace hB := hB.trans (hb.mono hB.size)
  have zz10 := hb.size
  have zh10 := hB.size
  clear hb
  clear hk
  obtain ⟨k0, k1, k2, f0, f1, f2⟩ := E1.three
  obtain ⟨k3, k4, k5, f3, f4, f5⟩ := E2.three
  go_wp2_with fail
  clear k0 k1 k2 f0 f1 f2 k3 k4 k5 f3 f4 f5
  refine (psub_ok g1 g2 F1 F2 ⟨I1.lu, I1.ld⟩ ⟨I2.lu, I2.ld⟩ (by omega) (by omega) (I1.good F1.up.words F1.down.words) (I2.good F2.up.words F2.down.words)).mono ?_
  rintro e w11 ⟨g4, a4, c4, x4, e4, t4, y4, rfl, F4, P4, I4, hb⟩
  replace I4 : Is g4 x4 y4 (q1 - q2) (11) := (I4.mono (by omega)).to (by rw [I1.rat, I2.rat]; skip)
  replace F1 := F1.below hb
  replace F2 := F2.below hb
  replace F3 := F3.below hb
  replace E1 := E1.below hb
  replace E2 := E2.below hb
  replace E3 := E3.below hb
  replace hB := hB.trans (hb.mono hB.size)
  have zz11 := hb.size
  have zh11 := hB.size
  clear hb
  obtain ⟨k0, k1, k2, f0, f1, f2⟩ := E1.three
  obtain ⟨k3, k4, k5, f3, f4, f5⟩ := E3.three
  have qE1 := E1.lt
  have qE2 := E2.lt
  have qE3 := E3.lt
  have hs0 := Nat.le_refl w11.heap.size
  have hq : Below w11.heap.size w11 (w11.alloc (.cells #[.bool g4, .slice a4 x4.length c4, .slice e4 y4.length t4] 27)) := (Below.refl _ _).alloc (Nat.le_refl _) _
  replace F1 := F1.below hq
  replace F2 := F2.below hq
  replace F3 := F3.below hq
  replace E1 := E1.below hq
  replace E2 := E2.below hq
  replace E3 := E3.below hq
  replace F4 := F4.below hq
  have E4 : Box (w11.alloc (.cells #[.bool g4, .slice a4 x4.length c4, .slice e4 y4.length t4] 27)) (w11.heap.size) (.cells #[.bool g4, .slice a4 x4.length c4, .slice e4 y4.length t4] 27) := Box.put (.cells #[.bool g4, .slice a4 x4.length c4, .slice e4 y4.length t4] 27) rfl
  replace hs0 := Nat.le_trans hs0 hq.size
  replace hB := hB.trans (hq.mono hB.size)
  clear hq
  have hq : Below (w11.alloc (.cells #[.bool g4, .slice a4 x4.length c4, .slice e4 y4.length t4] 27)).heap.size (w11.alloc (.cells #[.bool g4, .slice a4 x4.length c4, .slice e4 y4.length t4] 27)) ((w11.alloc (.cells #[.bool g4, .slice a4 x4.length c4, .slice e4 y4.length t4] 27)).alloc (.cells #[.bool g1, .slice a1 x1.length c1, .slice e1 y1.length t1, .bool g3, .slice a3 x3.length c3, .slice e3 y3.length t3] 27)) := (Below.refl _ _).alloc (Nat.le_refl _) _
  replace F1 := F1.below hq
  replace F2 := F2.below hq
  replace F3 := F3.below hq
  replace E1 := E1.below hq
  replace E2 := E2.below hq
  replace E3 := E3.below hq
  replace F4 := F4.below hq
  replace E4 := E4.below hq
  have L5 : Box ((w11.alloc (.cells #[.bool g4, .slice a4 x4.length c4, .slice e4 y4.length t4] 27)).alloc (.cells #[.bool g1, .slice a1 x1.length c1, .slice e1 y1.length t1, .bool g3, .slice a3 x3.length c3, .slice e3 y3.length t3] 27)) (w11.heap.size + 1) (.cells #[.bool g1, .slice a1 x1.length c1, .slice e1 y1.length t1, .bool g3, .slice a3 x3.length c3, .slice e3 y3.length t3] 27) := Box.put (.cells #[.bool g1, .slice a1 x1.length c1, .slice e1 y1.length t1, .bool g3, .slice a3 x3.length c3, .slice e3 y3.length t3] 27) (by simp)
  replace hs0 := Nat.le_trans hs0 hq.size
  replace hB := hB.trans (hq.mono hB.size)
  clear hq
  go_wp2_with fail
  clear k0 k1 k2 f0 f1 f2 k3 k4 k5 f3 f4 f5
  obtain ⟨u12, hname⟩ : ∃ u, ((w11.alloc (.cells #[.bool g4, .slice a4 x4.length c4, .slice e4 y4.length t4] 27)).alloc (.cells #[.bool g1, .slice a1 x1.length c1, .slice e1 y1.length t1, .bool g3, .slice a3 x3.length c3, .slice e3 y3.length t3] 27)) = u := ⟨_, rfl⟩
  rw [hname] at hs0 hB F1 F2 F3 E1 E2 E3 F4 E4 L5 ⊢
  have zh12 := hB.size
  have zs12 := hs0
  clear hname hs0
  have R := row_box (rs := [⟨g1, a1, c1, x1, e1, t1, y1⟩, ⟨g3, a3, c3, x3, e3, t3, y3⟩]) (k := w11.heap.size + 1) L5 (fun r hr => by
      simp only [List.mem_cons, List.not_mem_nil, or_false] at hr
      rcases hr with rfl | rfl
      · exact F1.mono (Nat.zero_le _)
      · exact F3.mono (Nat.zero_le _))
  have hlen : ∀ r ∈ ([⟨g1, a1, c1, x1, e1, t1, y1⟩, ⟨g3, a3, c3, x3, e3, t3, y3⟩] : List RV), r.xs.length ≤ 5 ∧ r.ds.length ≤ 5 := fun r hr => by
      simp only [List.mem_cons, List.not_mem_nil, or_false] at hr
      rcases hr with rfl | rfl
      · exact ⟨Nat.le_trans I1.lu (by decide), Nat.le_trans I1.ld (by decide)⟩
      · exact ⟨Nat.le_trans I3.lu (by decide), Nat.le_trans I3.ld (by decide)⟩
  have hg : ∀ r ∈ ([⟨g1, a1, c1, x1, e1, t1, y1⟩, ⟨g3, a3, c3, x3, e3, t3, y3⟩] : List RV), formR r.b r.xs r.ds = 0 := fun r hr => by
      simp only [List.mem_cons, List.not_mem_nil, or_false] at hr
      rcases hr with rfl | rfl
      · exact I1.good F1.up.words F1.down.words
      · exact I3.good F3.up.words F3.down.words
  refine (padd_ok (cap := 2) R (by simp) hlen (by omega) hg).mono ?_
  rintro e w13 ⟨g6, a6, c6, x6, e6, t6, y6, rfl, F6, P6, I6, hb⟩
  replace I6 : Is g6 x6 y6 (q1 + q3) (13) := (I6.mono (by simp)).to (by simp only [sumQ, RV.q, List.foldl, I1.rat, I3.rat]; grind)
  replace F1 := F1.below hb
  replace F2 := F2.below hb
  replace F3 := F3.below hb
  replace E1 := E1.below hb
  replace E2 := E2.below hb
  replace E3 := E3.below hb
  replace F4 := F4.below hb
  replace E4 := E4.below hb
  replace L5 := L5.below hb
  replace hB := hB.trans (hb.mono hB.size)
  have zz13 := hb.size
  have zh13 := hB.size
  clear hb
  clear R hlen hg
  clear L5
  obtain ⟨k0, k1, k2, f0, f1, f2⟩ := E2.three
  obtain ⟨k3, k4, k5, f3, f4, f5⟩ := E3.three
  have qE1 := E1.lt
  have qE2 := E2.lt
  have qE3 := E3.lt
  have qE4 := E4.lt
  have hs0 := Nat.le_refl w13.heap.size
  have hq : Below w13.heap.size w13 (w13.alloc (.cells #[.bool g6, .slice a6 x6.length c6, .slice e6 y6.length t6] 27)) := (Below.refl _ _).alloc (Nat.le_refl _) _
  replace F1 := F1.below hq
  replace F2 := F2.below hq
  replace F3 := F3.below hq
  replace E1 := E1.below hq
  replace E2 := E2.below hq
  replace E3 := E3.below hq
  replace F4 := F4.below hq
  replace E4 := E4.below hq
  replace F6 := F6.below hq
  have E6 : Box (w13.alloc (.cells #[.bool g6, .slice a6 x6.length c6, .slice e6 y6.length t6] 27)) (w13.heap.size) (.cells #[.bool g6, .slice a6 x6.length c6, .slice e6 y6.length t6] 27) := Box.put (.cells #[.bool g6, .slice a6 x6.length c6, .slice e6 y6.length t6] 27) rfl
  replace hs0 := Nat.le_trans hs0 hq.size
  replace hB := hB.trans (hq.mono hB.size)
  clear hq
  have hq : Below (w13.alloc (.cells #[.bool g6, .slice a6 x6.length c6, .slice e6 y6.length t6] 27)).heap.size (w13.alloc (.cells #[.bool g6, .slice a6 x6.length c6, .slice e6 y6.length t6] 27)) ((w13.alloc (.cells #[.bool g6, .slice a6 x6.length c6, .slice e6 y6.length t6] 27)).alloc (.cells #[.bool g2, .slice a2 x2.length c2, .slice e2 y2.length t2, .bool g3, .slice a3 x3.length c3, .slice e3 y3.length t3] 27)) := (Below.refl _ _).alloc (Nat.le_refl _) _
  replace F1 := F1.below hq
  replace F2 := F2.below hq
  replace F3 := F3.below hq
  replace E1 := E1.below hq
  replace E2 := E2.below hq
  replace E3 := E3.below hq
  replace F4 := F4.below hq
  replace E4 := E4.below hq
  replace F6 := F6.below hq
  replace E6 := E6.below hq
  have L7 : Box ((w13.alloc (.cells #[.bool g6, .slice a6 x6.length c6, .slice e6 y6.length t6] 27)).alloc (.cells #[.bool g2, .slice a2 x2.length c2, .slice e2 y2.length t2, .bool g3, .slice a3 x3.length c3, .slice e3 y3.length t3] 27)) (w13.heap.size + 1) (.cells #[.bool g2, .slice a2 x2.length c2, .slice e2 y2.length t2, .bool g3, .slice a3 x3.length c3, .slice e3 y3.length t3] 27) := Box.put (.cells #[.bool g2, .slice a2 x2.length c2, .slice e2 y2.length t2, .bool g3, .slice a3 x3.length c3, .slice e3 y3.length t3] 27) (by simp)
  replace hs0 := Nat.le_trans hs0 hq.size
  replace hB := hB.trans (hq.mono hB.size)
  clear hq
  go_wp2_with fail
  clear k0 k1 k2 f0 f1 f2 k3 k4 k5 f3 f4 f5
  obtain ⟨u14, hname⟩ : ∃ u, ((w13.alloc (.cells #[.bool g6, .slice a6 x6.length c6, .slice e6 y6.length t6] 27)).alloc (.cells #[.bool g2, .slice a2 x2.length c2, .slice e2 y2.length t2, .bool g3, .slice a3 x3.length c3, .slice e3 y3.length t3] 27)) = u := ⟨_, rfl⟩
  rw [hname] at hs0 hB F1 F2 F3 E1 E2 E3 F4 E4 F6 E6 L7 ⊢
  have zh14 := hB.size
  have zs14 := hs0
  clear hname hs0
  have R := row_box (rs := [⟨g2, a2, c2, x2, e2, t2, y2⟩, ⟨g3, a3, c3, x3, e3, t3, y3⟩]) (k := w13.heap.size + 1) L7 (fun r hr => by
      simp only [List.mem_cons, List.not_mem_nil, or_false] at hr
      rcases hr with rfl | rfl
      · exact F2.mono (Nat.zero_le _)
      · exact F3.mono (Nat.zero_le _))
  have hlen : ∀ r ∈ ([⟨g2, a2, c2, x2, e2, t2, y2⟩, ⟨g3, a3, c3, x3, e3, t3, y3⟩] : List RV), r.xs.length ≤ 5 ∧ r.ds.length ≤ 5 := fun r hr => by
      simp only [List.mem_cons, List.not_mem_nil, or_false] at hr
      rcases hr with rfl | rfl
      · exact ⟨Nat.le_trans I2.lu (by decide), Nat.le_trans I2.ld (by decide)⟩
      · exact ⟨Nat.le_trans I3.lu (by decide), Nat.le_trans I3.ld (by decide)⟩
  have hg : ∀ r ∈ ([⟨g2, a2, c2, x2, e2, t2, y2⟩, ⟨g3, a3, c3, x3, e3, t3, y3⟩] : List RV), formR r.b r.xs r.ds = 0 := fun r hr => by
      simp only [List.mem_cons, List.not_mem_nil, or_false] at hr
      rcases hr with rfl | rfl
      · exact I2.good F2.up.words F2.down.words
      · exact I3.good F3.up.words F3.down.words
  refine (padd_ok (cap := 2) R (by simp) hlen (by omega) hg).mono ?_
  rintro e w15 ⟨g8, a8, c8, x8, e8, t8, y8, rfl, F8, P8, I8, hb⟩
  replace I8 : Is g8 x8 y8 (q2 + q3) (13) := (I8.mono (by simp)).to (by simp only [sumQ, RV.q, List.foldl, I2.rat, I3.rat]; grind)
  replace F1 := F1.below hb
  replace F2 := F2.below hb
  replace F3 := F3.below hb
  replace E1 := E1.below hb
  replace E2 := E2.below hb
  replace E3 := E3.below hb
  replace F4 := F4.below hb
  replace E4 := E4.below hb
  replace F6 := F6.below hb
  replace E6 := E6.below hb
  replace L7 := L7.below hb
  replace hB := hB.trans (hb.mono hB.size)
  have zz15 := hb.size
  have zh15 := hB.size
  clear hb
  clear R hlen hg
  clear L7
  obtain ⟨k0, k1, k2, f0, f1, f2⟩ := E6.three
  have qE1 := E1.lt
  have qE2 := E2.lt
  have qE3 := E3.lt
  have qE4 := E4.lt
  have qE6 := E6.lt
  have hs0 := Nat.le_refl w15.heap.size
  have hq : Below w15.heap.size w15 (w15.alloc (.cells #[.bool g8, .slice a8 x8.length c8, .slice e8 y8.length t8] 27)) := (Below.refl _ _).alloc (Nat.le_refl _) _
  replace F1 := F1.below hq
  replace F2 := F2.below hq
  replace F3 := F3.below hq
  replace E1 := E1.below hq
  replace E2 := E2.below hq
  replace E3 := E3.below hq
  replace F4 := F4.below hq
  replace E4 := E4.below hq
  replace F6 := F6.below hq
  replace E6 := E6.below hq
  replace F8 := F8.below hq
  have E8 : Box (w15.alloc (.cells #[.bool g8, .slice a8 x8.length c8, .slice e8 y8.length t8] 27)) (w15.heap.size) (.cells #[.bool g8, .slice a8 x8.length c8, .slice e8 y8.length t8] 27) := Box.put (.cells #[.bool g8, .slice a8 x8.length c8, .slice e8 y8.length t8] 27) rfl
  replace hs0 := Nat.le_trans hs0 hq.size
  replace hB := hB.trans (hq.mono hB.size)
  clear hq
  go_wp2_with fail
  clear k0 k1 k2 f0 f1 f2
  obtain ⟨u16, hname⟩ : ∃ u, (w15.alloc (.cells #[.bool g8, .slice a8 x8.length c8, .slice e8 y8.length t8] 27)) = u := ⟨_, rfl⟩
  rw [hname] at hs0 hB F1 F2 F3 E1 E2 E3 F4 E4 F6 E6 F8 E8 ⊢
  have zh16 := hB.size
  have zs16 := hs0
  clear hname hs0
  have hk := pcmp_ok g6 g8 F6 F8 I6 I8 (by omega)
  rw [Ho.out] at hk
  refine (hk).mono ?_
  rintro e w17 ⟨rfl, hb⟩
  replace F1 := F1.below hb
  replace F2 := F2.below hb
  replace F3 := F3.below hb
  replace E1 := E1.below hb
  replace E2 := E2.below hb
  replace E3 := E3.below hb
  replace F4 := F4.below hb
  replace E4 := E4.below hb
  replace F6 := F6.below hb
  replace E6 := E6.below hb
  replace F8 := F8.below hb
  replace E8 := E8.below hb
  replace hB := hB.trans (hb.mono hB.size)
  have zz17 := hb.size
  have zh17 := hB.size
  clear hb
  clear hk
  clear E6 E8 F6 F8
  obtain ⟨k0, k1, k2, f0, f1, f2⟩ := E4.three
  go_wp2_with fail
  clear k0 k1 k2 f0 f1 f2
  have hk := ssign_any g4 F4.up (by have := I4.lu; omega)
  rw [sign_is I4, Hd.out] at hk
  refine (hk).mono ?_
  rintro e w18 ⟨rfl, hb⟩
  replace F1 := F1.below hb
  replace F2 := F2.below hb
  replace F3 := F3.below hb
  replace E1 := E1.below hb
  replace E2 := E2.below hb
  replace E3 := E3.below hb
  replace F4 := F4.below hb
  replace E4 := E4.below hb
  replace hB := hB.trans (hb.mono hB.size)
  have zz18 := hb.size
  have zh18 := hB.size
  clear hb
  clear hk
  obtain ⟨k0, k1, k2, f0, f1, f2⟩ := E1.three
  obtain ⟨k3, k4, k5, f3, f4, f5⟩ := E2.three
  go_wp2_with fail
  clear k0 k1 k2 f0 f1 f2 k3 k4 k5 f3 f4 f5
  have hk := samer_any g1 g2 F1 F2 (by have := I1.lu; omega) (by have := I1.ld; omega)
  rw [decide_eq_false (fun h => Hq.out (by rw [← I1.rat, ← I2.rat, h.1, h.2.1, h.2.2]))] at hk
  refine (hk).mono ?_
  rintro e w19 ⟨rfl, hb⟩
  replace F1 := F1.below hb
  replace F2 := F2.below hb
  replace F3 := F3.below hb
  replace E1 := E1.below hb
  replace E2 := E2.below hb
  replace E3 := E3.below hb
  replace F4 := F4.below hb
  replace E4 := E4.below hb
  replace hB := hB.trans (hb.mono hB.size)
  have zz19 := hb.size
  have zh19 := hB.size
  clear hb
  clear hk
  obtain ⟨k0, k1, k2, f0, f1, f2⟩ := E1.three
  obtain ⟨k3, k4, k5, f3, f4, f5⟩ := E2.three
  go_wp2
  go_ret
  exact ⟨rfl, hB⟩
end Go.Proofs.Ytblmkddjlfienaa

/-
  The walk of RatioOrder.
-/
namespace Go.Proofs.Ytblmkddjlfienaa
open Go.RowKit

set_option maxRecDepth 100000 in
set_option maxHeartbeats 4000000 in
theorem lrorder_eq {a1 e1 : Option Addr} {c1 t1 : Nat} {x1 y1 : List Int} {a2 e2 : Option Addr} {c2 t2 : Nat} {x2 y2 : List Int} {a3 e3 : Option Addr} {c3 t3 : Nat} {x3 y3 : List Int} {w : World} (g1 g2 g3 : Bool) (F1 : Fr 0 w a1 c1 x1 e1 t1 y1) (F2 : Fr 0 w a2 c2 x2 e2 t2 y2) (F3 : Fr 0 w a3 c3 x3 e3 t3 y3) (hl1 : x1.length ≤ 5 ∧ y1.length ≤ 5) (hl2 : x2.length ≤ 5 ∧ y2.length ≤ 5) (hl3 : x3.length ≤ 5 ∧ y3.length ≤ 5) {q1 q2 q3 : Rat} (I1 : Is g1 x1 y1 q1 5) (I2 : Is g2 x2 y2 q2 5) (I3 : Is g3 x3 y3 q3 5) (hq : q1 = q2) (kv lv : Int) (H23 : Hid (cmpR q2 q3 = kv)) (H13 : Hid (cmpR q1 q3 = lv)) :
    Calls Try.prog 4 #[.agg #[.bool g1, .slice a1 x1.length c1, .slice e1 y1.length t1], .agg #[.bool g2, .slice a2 x2.length c2, .slice e2 y2.length t2], .agg #[.bool g3, .slice a3 x3.length c3, .slice e3 y3.length t3]] w fun e w' => e = .returned (.bool true) ∧ Below w.heap.size w w' := by
  have hlen0 : Hid (∀ r ∈ ([⟨g1, a1, c1, x1, e1, t1, y1⟩, ⟨g2, a2, c2, x2, e2, t2, y2⟩, ⟨g3, a3, c3, x3, e3, t3, y3⟩] : List RV), r.xs.length ≤ 1000 ∧ r.ds.length ≤ 1000) := fun r hr => by
    simp only [List.mem_cons, List.not_mem_nil, or_false] at hr
    rcases hr with rfl | rfl | rfl <;> constructor <;> simp <;> omega
  have HL := long_no [⟨g1, a1, c1, x1, e1, t1, y1⟩, ⟨g2, a2, c2, x2, e2, t2, y2⟩, ⟨g3, a3, c3, x3, e3, t3, y3⟩] (by simp) (fun r hr => by
    simp only [List.mem_cons, List.not_mem_nil, or_false] at hr
    rcases hr with rfl | rfl | rfl
    · exact hl1
    · exact hl2
    · exact hl3)
  have HG := good_yes [⟨g1, a1, c1, x1, e1, t1, y1⟩, ⟨g2, a2, c2, x2, e2, t2, y2⟩, ⟨g3, a3, c3, x3, e3, t3, y3⟩] (fun r hr => by
    simp only [List.mem_cons, List.not_mem_nil, or_false] at hr
    rcases hr with rfl | rfl | rfl
    · exact I1.good F1.up.words F1.down.words
    · exact I2.good F2.up.words F2.down.words
    · exact I3.good F3.up.words F3.down.words)
  clear hl1 hl2 hl3
  have H12 : Hid (cmpR q1 q2 = 0) := by rw [Hid]; rw [hq]; exact cmpR_eq _
  have H21 : Hid (cmpR q2 q1 = 0) := by rw [Hid]; rw [hq]; exact cmpR_eq _
  have Hd : Hid (cmpR (q1 - q2) 0 = 0) := by rw [Hid]; rw [show q1 - q2 = 0 by grind]; exact cmpR_eq _
  have Ho : Hid (cmpR (q1 + q3) (q2 + q3) = 0) := by rw [Hid]; rw [hq]; exact cmpR_eq _
  have Hq : Hid (q1 = q2) := by rw [Hid]; grind
  clear hq
  have hB := Below.refl w.heap.size w
  go_enter Try.func4, Try.ntmps4
  have hs0 := Nat.le_refl w.heap.size
  have hq : Below w.heap.size w (w.alloc (.cells #[.bool g1, .slice a1 x1.length c1, .slice e1 y1.length t1] 27)) := (Below.refl _ _).alloc (Nat.le_refl _) _
  replace F1 := F1.below hq
  replace F2 := F2.below hq
  replace F3 := F3.below hq
  have E1 : Box (w.alloc (.cells #[.bool g1, .slice a1 x1.length c1, .slice e1 y1.length t1] 27)) (w.heap.size) (.cells #[.bool g1, .slice a1 x1.length c1, .slice e1 y1.length t1] 27) := Box.put (.cells #[.bool g1, .slice a1 x1.length c1, .slice e1 y1.length t1] 27) rfl
  replace hs0 := Nat.le_trans hs0 hq.size
  replace hB := hB.trans (hq.mono hB.size)
  clear hq
  have hq : Below (w.alloc (.cells #[.bool g1, .slice a1 x1.length c1, .slice e1 y1.length t1] 27)).heap.size (w.alloc (.cells #[.bool g1, .slice a1 x1.length c1, .slice e1 y1.length t1] 27)) ((w.alloc (.cells #[.bool g1, .slice a1 x1.length c1, .slice e1 y1.length t1] 27)).alloc (.cells #[.bool g2, .slice a2 x2.length c2, .slice e2 y2.length t2] 27)) := (Below.refl _ _).alloc (Nat.le_refl _) _
  replace F1 := F1.below hq
  replace F2 := F2.below hq
  replace F3 := F3.below hq
  replace E1 := E1.below hq
  have E2 : Box ((w.alloc (.cells #[.bool g1, .slice a1 x1.length c1, .slice e1 y1.length t1] 27)).alloc (.cells #[.bool g2, .slice a2 x2.length c2, .slice e2 y2.length t2] 27)) (w.heap.size + 1) (.cells #[.bool g2, .slice a2 x2.length c2, .slice e2 y2.length t2] 27) := Box.put (.cells #[.bool g2, .slice a2 x2.length c2, .slice e2 y2.length t2] 27) (by simp)
  replace hs0 := Nat.le_trans hs0 hq.size
  replace hB := hB.trans (hq.mono hB.size)
  clear hq
  have hq : Below ((w.alloc (.cells #[.bool g1, .slice a1 x1.length c1, .slice e1 y1.length t1] 27)).alloc (.cells #[.bool g2, .slice a2 x2.length c2, .slice e2 y2.length t2] 27)).heap.size ((w.alloc (.cells #[.bool g1, .slice a1 x1.length c1, .slice e1 y1.length t1] 27)).alloc (.cells #[.bool g2, .slice a2 x2.length c2, .slice e2 y2.length t2] 27)) (((w.alloc (.cells #[.bool g1, .slice a1 x1.length c1, .slice e1 y1.length t1] 27)).alloc (.cells #[.bool g2, .slice a2 x2.length c2, .slice e2 y2.length t2] 27)).alloc (.cells #[.bool g3, .slice a3 x3.length c3, .slice e3 y3.length t3] 27)) := (Below.refl _ _).alloc (Nat.le_refl _) _
  replace F1 := F1.below hq
  replace F2 := F2.below hq
  replace F3 := F3.below hq
  replace E1 := E1.below hq
  replace E2 := E2.below hq
  have E3 : Box (((w.alloc (.cells #[.bool g1, .slice a1 x1.length c1, .slice e1 y1.length t1] 27)).alloc (.cells #[.bool g2, .slice a2 x2.length c2, .slice e2 y2.length t2] 27)).alloc (.cells #[.bool g3, .slice a3 x3.length c3, .slice e3 y3.length t3] 27)) (w.heap.size + 2) (.cells #[.bool g3, .slice a3 x3.length c3, .slice e3 y3.length t3] 27) := Box.put (.cells #[.bool g3, .slice a3 x3.length c3, .slice e3 y3.length t3] 27) (by simp)
  replace hs0 := Nat.le_trans hs0 hq.size
  replace hB := hB.trans (hq.mono hB.size)
  clear hq
  go_wp2_with fail
  obtain ⟨u1, hname⟩ : ∃ u, (((w.alloc (.cells #[.bool g1, .slice a1 x1.length c1, .slice e1 y1.length t1] 27)).alloc (.cells #[.bool g2, .slice a2 x2.length c2, .slice e2 y2.length t2] 27)).alloc (.cells #[.bool g3, .slice a3 x3.length c3, .slice e3 y3.length t3] 27)) = u := ⟨_, rfl⟩
  rw [hname] at hs0 hB F1 F2 F3 E1 E2 E3 ⊢
  have zh1 := hB.size
  have zs1 := hs0
  clear hname hs0
  refine (lrawake_any _).mono ?_
  rintro e w2 ⟨rfl, hb⟩
  replace F1 := F1.below hb
  replace F2 := F2.below hb
  replace F3 := F3.below hb
  replace E1 := E1.below hb
  replace E2 := E2.below hb
  replace E3 := E3.below hb
  replace hB := hB.trans (hb.mono hB.size)
  have zz2 := hb.size
  have zh2 := hB.size
  clear hb
  obtain ⟨k0, k1, k2, f0, f1, f2⟩ := E1.three
  obtain ⟨k3, k4, k5, f3, f4, f5⟩ := E2.three
  obtain ⟨k6, k7, k8, f6, f7, f8⟩ := E3.three
  have qE1 := E1.lt
  have qE2 := E2.lt
  have qE3 := E3.lt
  have hs0 := Nat.le_refl w2.heap.size
  have hq : Below w2.heap.size w2 (w2.alloc (.cells #[.bool g1, .slice a1 x1.length c1, .slice e1 y1.length t1, .bool g2, .slice a2 x2.length c2, .slice e2 y2.length t2, .bool g3, .slice a3 x3.length c3, .slice e3 y3.length t3] 27)) := (Below.refl _ _).alloc (Nat.le_refl _) _
  replace F1 := F1.below hq
  replace F2 := F2.below hq
  replace F3 := F3.below hq
  replace E1 := E1.below hq
  replace E2 := E2.below hq
  replace E3 := E3.below hq
  have L0 : Box (w2.alloc (.cells #[.bool g1, .slice a1 x1.length c1, .slice e1 y1.length t1, .bool g2, .slice a2 x2.length c2, .slice e2 y2.length t2, .bool g3, .slice a3 x3.length c3, .slice e3 y3.length t3] 27)) (w2.heap.size) (.cells #[.bool g1, .slice a1 x1.length c1, .slice e1 y1.length t1, .bool g2, .slice a2 x2.length c2, .slice e2 y2.length t2, .bool g3, .slice a3 x3.length c3, .slice e3 y3.length t3] 27) := Box.put (.cells #[.bool g1, .slice a1 x1.length c1, .slice e1 y1.length t1, .bool g2, .slice a2 x2.length c2, .slice e2 y2.length t2, .bool g3, .slice a3 x3.length c3, .slice e3 y3.length t3] 27) rfl
  replace hs0 := Nat.le_trans hs0 hq.size
  replace hB := hB.trans (hq.mono hB.size)
  clear hq
  go_wp2_with fail
  clear k0 k1 k2 f0 f1 f2 k3 k4 k5 f3 f4 f5 k6 k7 k8 f6 f7 f8
  obtain ⟨u3, hname⟩ : ∃ u, (w2.alloc (.cells #[.bool g1, .slice a1 x1.length c1, .slice e1 y1.length t1, .bool g2, .slice a2 x2.length c2, .slice e2 y2.length t2, .bool g3, .slice a3 x3.length c3, .slice e3 y3.length t3] 27)) = u := ⟨_, rfl⟩
  rw [hname] at hs0 hB F1 F2 F3 E1 E2 E3 L0 ⊢
  have zh3 := hB.size
  have zs3 := hs0
  clear hname hs0
  have R := row_box (rs := [⟨g1, a1, c1, x1, e1, t1, y1⟩, ⟨g2, a2, c2, x2, e2, t2, y2⟩, ⟨g3, a3, c3, x3, e3, t3, y3⟩]) (k := w2.heap.size) L0 (fun r hr => by
      simp only [List.mem_cons, List.not_mem_nil, or_false] at hr
      rcases hr with rfl | rfl | rfl
      · exact F1.mono (Nat.zero_le _)
      · exact F2.mono (Nat.zero_le _)
      · exact F3.mono (Nat.zero_le _))
  refine (lrlong_any (cap := 3) R false HL).mono ?_
  rintro e w4 ⟨rfl, hb⟩
  replace F1 := F1.below hb
  replace F2 := F2.below hb
  replace F3 := F3.below hb
  replace E1 := E1.below hb
  replace E2 := E2.below hb
  replace E3 := E3.below hb
  replace L0 := L0.below hb
  replace hB := hB.trans (hb.mono hB.size)
  have zz4 := hb.size
  have zh4 := hB.size
  clear hb
  clear R
  clear L0
  obtain ⟨k0, k1, k2, f0, f1, f2⟩ := E1.three
  obtain ⟨k3, k4, k5, f3, f4, f5⟩ := E2.three
  obtain ⟨k6, k7, k8, f6, f7, f8⟩ := E3.three
  have qE1 := E1.lt
  have qE2 := E2.lt
  have qE3 := E3.lt
  have hs0 := Nat.le_refl w4.heap.size
  have hq : Below w4.heap.size w4 (w4.alloc (.cells #[.bool g1, .slice a1 x1.length c1, .slice e1 y1.length t1, .bool g2, .slice a2 x2.length c2, .slice e2 y2.length t2, .bool g3, .slice a3 x3.length c3, .slice e3 y3.length t3] 27)) := (Below.refl _ _).alloc (Nat.le_refl _) _
  replace F1 := F1.below hq
  replace F2 := F2.below hq
  replace F3 := F3.below hq
  replace E1 := E1.below hq
  replace E2 := E2.below hq
  replace E3 := E3.below hq
  have L0 : Box (w4.alloc (.cells #[.bool g1, .slice a1 x1.length c1, .slice e1 y1.length t1, .bool g2, .slice a2 x2.length c2, .slice e2 y2.length t2, .bool g3, .slice a3 x3.length c3, .slice e3 y3.length t3] 27)) (w4.heap.size) (.cells #[.bool g1, .slice a1 x1.length c1, .slice e1 y1.length t1, .bool g2, .slice a2 x2.length c2, .slice e2 y2.length t2, .bool g3, .slice a3 x3.length c3, .slice e3 y3.length t3] 27) := Box.put (.cells #[.bool g1, .slice a1 x1.length c1, .slice e1 y1.length t1, .bool g2, .slice a2 x2.length c2, .slice e2 y2.length t2, .bool g3, .slice a3 x3.length c3, .slice e3 y3.length t3] 27) rfl
  replace hs0 := Nat.le_trans hs0 hq.size
  replace hB := hB.trans (hq.mono hB.size)
  clear hq
  go_wp2_with fail
  clear k0 k1 k2 f0 f1 f2 k3 k4 k5 f3 f4 f5 k6 k7 k8 f6 f7 f8
  obtain ⟨u5, hname⟩ : ∃ u, (w4.alloc (.cells #[.bool g1, .slice a1 x1.length c1, .slice e1 y1.length t1, .bool g2, .slice a2 x2.length c2, .slice e2 y2.length t2, .bool g3, .slice a3 x3.length c3, .slice e3 y3.length t3] 27)) = u := ⟨_, rfl⟩
  rw [hname] at hs0 hB F1 F2 F3 E1 E2 E3 L0 ⊢
  have zh5 := hB.size
  have zs5 := hs0
  clear hname hs0
  have R := row_box (rs := [⟨g1, a1, c1, x1, e1, t1, y1⟩, ⟨g2, a2, c2, x2, e2, t2, y2⟩, ⟨g3, a3, c3, x3, e3, t3, y3⟩]) (k := w4.heap.size) L0 (fun r hr => by
      simp only [List.mem_cons, List.not_mem_nil, or_false] at hr
      rcases hr with rfl | rfl | rfl
      · exact F1.mono (Nat.zero_le _)
      · exact F2.mono (Nat.zero_le _)
      · exact F3.mono (Nat.zero_le _))
  refine (lrgood_any (cap := 3) R (by simp) hlen0.out true HG).mono ?_
  rintro e w6 ⟨rfl, hb⟩
  replace F1 := F1.below hb
  replace F2 := F2.below hb
  replace F3 := F3.below hb
  replace E1 := E1.below hb
  replace E2 := E2.below hb
  replace E3 := E3.below hb
  replace L0 := L0.below hb
  replace hB := hB.trans (hb.mono hB.size)
  have zz6 := hb.size
  have zh6 := hB.size
  clear hb
  clear R
  clear L0
  obtain ⟨k0, k1, k2, f0, f1, f2⟩ := E1.three
  obtain ⟨k3, k4, k5, f3, f4, f5⟩ := E2.three
  go_wp2_with fail
  clear k0 k1 k2 f0 f1 f2 k3 k4 k5 f3 f4 f5
  have hk := pcmp_ok g1 g2 F1 F2 I1 I2 (by omega)
  rw [H12.out] at hk
  refine (hk).mono ?_
  rintro e w7 ⟨rfl, hb⟩
  replace F1 := F1.below hb
  replace F2 := F2.below hb
  replace F3 := F3.below hb
  replace E1 := E1.below hb
  replace E2 := E2.below hb
  replace E3 := E3.below hb
  replace hB := hB.trans (hb.mono hB.size)
  have zz7 := hb.size
  have zh7 := hB.size
  clear hb
  clear hk
  obtain ⟨k0, k1, k2, f0, f1, f2⟩ := E1.three
  obtain ⟨k3, k4, k5, f3, f4, f5⟩ := E2.three
  go_wp2_with fail
  clear k0 k1 k2 f0 f1 f2 k3 k4 k5 f3 f4 f5
  have hk := pcmp_ok g2 g1 F2 F1 I2 I1 (by omega)
  rw [H21.out] at hk
  refine (hk).mono ?_
  rintro e w8 ⟨rfl, hb⟩
  replace F1 := F1.below hb
  replace F2 := F2.below hb
  replace F3 := F3.below hb
  replace E1 := E1.below hb
  replace E2 := E2.below hb
  replace E3 := E3.below hb
  replace hB := hB.trans (hb.mono hB.size)
  have zz8 := hb.size
  have zh8 := hB.size
  clear hb
  clear hk
  obtain ⟨k0, k1, k2, f0, f1, f2⟩ := E2.three
  obtain ⟨k3, k4, k5, f3, f4, f5⟩ := E3.three
  go_wp2_with fail
  clear k0 k1 k2 f0 f1 f2 k3 k4 k5 f3 f4 f5
  have hk := pcmp_ok g2 g3 F2 F3 I2 I3 (by omega)
  rw [H23.out] at hk
  refine (hk).mono ?_
  rintro e w9 ⟨rfl, hb⟩
  replace F1 := F1.below hb
  replace F2 := F2.below hb
  replace F3 := F3.below hb
  replace E1 := E1.below hb
  replace E2 := E2.below hb
  replace E3 := E3.below hb
  replace hB := hB.trans (hb.mono hB.size)
  have zz9 := hb.size
  have zh9 := hB.size
  clear hb
  clear hk
  obtain ⟨k0, k1, k2, f0, f1, f2⟩ := E1.three
  obtain ⟨k3, k4, k5, f3, f4, f5⟩ := E3.three
  go_wp2_with fail
  clear k0 k1 k2 f0 f1 f2 k3 k4 k5 f3 f4 f5
  have hk := pcmp_ok g1 g3 F1 F3 I1 I3 (by omega)
  rw [H13.out] at hk
  refine (hk).mono ?_
  rintro e w10 ⟨rfl, hb⟩
  replace F1 := F1.below hb
  replace F2 := F2.below hb
  replace F3 := F3.below hb
  replace E1 := E1.below hb
  replace E2 := E2.below hb
  replace E3 := E3.below hb
  replace hB := hB.trans (hb.mono hB.size)
  have zz10 := hb.size
  have zh10 := hB.size
  clear hb
  clear hk
  obtain ⟨k0, k1, k2, f0, f1, f2⟩ := E1.three
  obtain ⟨k3, k4, k5, f3, f4, f5⟩ := E2.three
  go_wp2_with fail
  clear k0 k1 k2 f0 f1 f2 k3 k4 k5 f3 f4 f5
  refine (psub_ok g1 g2 F1 F2 ⟨I1.lu, I1.ld⟩ ⟨I2.lu, I2.ld⟩ (by omega) (by omega) (I1.good F1.up.words F1.down.words) (I2.good F2.up.words F2.down.words)).mono ?_
  rintro e w11 ⟨g4, a4, c4, x4, e4, t4, y4, rfl, F4, P4, I4, hb⟩
  replace I4 : Is g4 x4 y4 (q1 - q2) (11) := (I4.mono (by omega)).to (by rw [I1.rat, I2.rat]; skip)
  replace F1 := F1.below hb
  replace F2 := F2.below hb
  replace F3 := F3.below hb
  replace E1 := E1.below hb
  replace E2 := E2.below hb
  replace E3 := E3.below hb
  replace hB := hB.trans (hb.mono hB.size)
  have zz11 := hb.size
  have zh11 := hB.size
  clear hb
  obtain ⟨k0, k1, k2, f0, f1, f2⟩ := E1.three
  obtain ⟨k3, k4, k5, f3, f4, f5⟩ := E3.three
  have qE1 := E1.lt
  have qE2 := E2.lt
  have qE3 := E3.lt
  have hs0 := Nat.le_refl w11.heap.size
  have hq : Below w11.heap.size w11 (w11.alloc (.cells #[.bool g4, .slice a4 x4.length c4, .slice e4 y4.length t4] 27)) := (Below.refl _ _).alloc (Nat.le_refl _) _
  replace F1 := F1.below hq
  replace F2 := F2.below hq
  replace F3 := F3.below hq
  replace E1 := E1.below hq
  replace E2 := E2.below hq
  replace E3 := E3.below hq
  replace F4 := F4.below hq
  have E4 : Box (w11.alloc (.cells #[.bool g4, .slice a4 x4.length c4, .slice e4 y4.length t4] 27)) (w11.heap.size) (.cells #[.bool g4, .slice a4 x4.length c4, .slice e4 y4.length t4] 27) := Box.put (.cells #[.bool g4, .slice a4 x4.length c4, .slice e4 y4.length t4] 27) rfl
  replace hs0 := Nat.le_trans hs0 hq.size
  replace hB := hB.trans (hq.mono hB.size)
  clear hq
  have hq : Below (w11.alloc (.cells #[.bool g4, .slice a4 x4.length c4, .slice e4 y4.length t4] 27)).heap.size (w11.alloc (.cells #[.bool g4, .slice a4 x4.length c4, .slice e4 y4.length t4] 27)) ((w11.alloc (.cells #[.bool g4, .slice a4 x4.length c4, .slice e4 y4.length t4] 27)).alloc (.cells #[.bool g1, .slice a1 x1.length c1, .slice e1 y1.length t1, .bool g3, .slice a3 x3.length c3, .slice e3 y3.length t3] 27)) := (Below.refl _ _).alloc (Nat.le_refl _) _
  replace F1 := F1.below hq
  replace F2 := F2.below hq
  replace F3 := F3.below hq
  replace E1 := E1.below hq
  replace E2 := E2.below hq
  replace E3 := E3.below hq
  replace F4 := F4.below hq
  replace E4 := E4.below hq
  have L5 : Box ((w11.alloc (.cells #[.bool g4, .slice a4 x4.length c4, .slice e4 y4.length t4] 27)).alloc (.cells #[.bool g1, .slice a1 x1.length c1, .slice e1 y1.length t1, .bool g3, .slice a3 x3.length c3, .slice e3 y3.length t3] 27)) (w11.heap.size + 1) (.cells #[.bool g1, .slice a1 x1.length c1, .slice e1 y1.length t1, .bool g3, .slice a3 x3.length c3, .slice e3 y3.length t3] 27) := Box.put (.cells #[.bool g1, .slice a1 x1.length c1, .slice e1 y1.length t1, .bool g3, .slice a3 x3.length c3, .slice e3 y3.length t3] 27) (by simp)
  replace hs0 := Nat.le_trans hs0 hq.size
  replace hB := hB.trans (hq.mono hB.size)
  clear hq
  go_wp2_with fail
  clear k0 k1 k2 f0 f1 f2 k3 k4 k5 f3 f4 f5
  obtain ⟨u12, hname⟩ : ∃ u, ((w11.alloc (.cells #[.bool g4, .slice a4 x4.length c4, .slice e4 y4.length t4] 27)).alloc (.cells #[.bool g1, .slice a1 x1.length c1, .slice e1 y1.length t1, .bool g3, .slice a3 x3.length c3, .slice e3 y3.length t3] 27)) = u := ⟨_, rfl⟩
  rw [hname] at hs0 hB F1 F2 F3 E1 E2 E3 F4 E4 L5 ⊢
  have zh12 := hB.size
  have zs12 := hs0
  clear hname hs0
  have R := row_box (rs := [⟨g1, a1, c1, x1, e1, t1, y1⟩, ⟨g3, a3, c3, x3, e3, t3, y3⟩]) (k := w11.heap.size + 1) L5 (fun r hr => by
      simp only [List.mem_cons, List.not_mem_nil, or_false] at hr
      rcases hr with rfl | rfl
      · exact F1.mono (Nat.zero_le _)
      · exact F3.mono (Nat.zero_le _))
  have hlen : ∀ r ∈ ([⟨g1, a1, c1, x1, e1, t1, y1⟩, ⟨g3, a3, c3, x3, e3, t3, y3⟩] : List RV), r.xs.length ≤ 5 ∧ r.ds.length ≤ 5 := fun r hr => by
      simp only [List.mem_cons, List.not_mem_nil, or_false] at hr
      rcases hr with rfl | rfl
      · exact ⟨Nat.le_trans I1.lu (by decide), Nat.le_trans I1.ld (by decide)⟩
      · exact ⟨Nat.le_trans I3.lu (by decide), Nat.le_trans I3.ld (by decide)⟩
  have hg : ∀ r ∈ ([⟨g1, a1, c1, x1, e1, t1, y1⟩, ⟨g3, a3, c3, x3, e3, t3, y3⟩] : List RV), formR r.b r.xs r.ds = 0 := fun r hr => by
      simp only [List.mem_cons, List.not_mem_nil, or_false] at hr
      rcases hr with rfl | rfl
      · exact I1.good F1.up.words F1.down.words
      · exact I3.good F3.up.words F3.down.words
  refine (padd_ok (cap := 2) R (by simp) hlen (by omega) hg).mono ?_
  rintro e w13 ⟨g6, a6, c6, x6, e6, t6, y6, rfl, F6, P6, I6, hb⟩
  replace I6 : Is g6 x6 y6 (q1 + q3) (13) := (I6.mono (by simp)).to (by simp only [sumQ, RV.q, List.foldl, I1.rat, I3.rat]; grind)
  replace F1 := F1.below hb
  replace F2 := F2.below hb
  replace F3 := F3.below hb
  replace E1 := E1.below hb
  replace E2 := E2.below hb
  replace E3 := E3.below hb
  replace F4 := F4.below hb
  replace E4 := E4.below hb
  replace L5 := L5.below hb
  replace hB := hB.trans (hb.mono hB.size)
  have zz13 := hb.size
  have zh13 := hB.size
  clear hb
  clear R hlen hg
  clear L5
  obtain ⟨k0, k1, k2, f0, f1, f2⟩ := E2.three
  obtain ⟨k3, k4, k5, f3, f4, f5⟩ := E3.three
  have qE1 := E1.lt
  have qE2 := E2.lt
  have qE3 := E3.lt
  have qE4 := E4.lt
  have hs0 := Nat.le_refl w13.heap.size
  have hq : Below w13.heap.size w13 (w13.alloc (.cells #[.bool g6, .slice a6 x6.length c6, .slice e6 y6.length t6] 27)) := (Below.refl _ _).alloc (Nat.le_refl _) _
  replace F1 := F1.below hq
  replace F2 := F2.below hq
  replace F3 := F3.below hq
  replace E1 := E1.below hq
  replace E2 := E2.below hq
  replace E3 := E3.below hq
  replace F4 := F4.below hq
  replace E4 := E4.below hq
  replace F6 := F6.below hq
  have E6 : Box (w13.alloc (.cells #[.bool g6, .slice a6 x6.length c6, .slice e6 y6.length t6] 27)) (w13.heap.size) (.cells #[.bool g6, .slice a6 x6.length c6, .slice e6 y6.length t6] 27) := Box.put (.cells #[.bool g6, .slice a6 x6.length c6, .slice e6 y6.length t6] 27) rfl
  replace hs0 := Nat.le_trans hs0 hq.size
  replace hB := hB.trans (hq.mono hB.size)
  clear hq
  have hq : Below (w13.alloc (.cells #[.bool g6, .slice a6 x6.length c6, .slice e6 y6.length t6] 27)).heap.size (w13.alloc (.cells #[.bool g6, .slice a6 x6.length c6, .slice e6 y6.length t6] 27)) ((w13.alloc (.cells #[.bool g6, .slice a6 x6.length c6, .slice e6 y6.length t6] 27)).alloc (.cells #[.bool g2, .slice a2 x2.length c2, .slice e2 y2.length t2, .bool g3, .slice a3 x3.length c3, .slice e3 y3.length t3] 27)) := (Below.refl _ _).alloc (Nat.le_refl _) _
  replace F1 := F1.below hq
  replace F2 := F2.below hq
  replace F3 := F3.below hq
  replace E1 := E1.below hq
  replace E2 := E2.below hq
  replace E3 := E3.below hq
  replace F4 := F4.below hq
  replace E4 := E4.below hq
  replace F6 := F6.below hq
  replace E6 := E6.below hq
  have L7 : Box ((w13.alloc (.cells #[.bool g6, .slice a6 x6.length c6, .slice e6 y6.length t6] 27)).alloc (.cells #[.bool g2, .slice a2 x2.length c2, .slice e2 y2.length t2, .bool g3, .slice a3 x3.length c3, .slice e3 y3.length t3] 27)) (w13.heap.size + 1) (.cells #[.bool g2, .slice a2 x2.length c2, .slice e2 y2.length t2, .bool g3, .slice a3 x3.length c3, .slice e3 y3.length t3] 27) := Box.put (.cells #[.bool g2, .slice a2 x2.length c2, .slice e2 y2.length t2, .bool g3, .slice a3 x3.length c3, .slice e3 y3.length t3] 27) (by simp)
  replace hs0 := Nat.le_trans hs0 hq.size
  replace hB := hB.trans (hq.mono hB.size)
  clear hq
  go_wp2_with fail
  clear k0 k1 k2 f0 f1 f2 k3 k4 k5 f3 f4 f5
  obtain ⟨u14, hname⟩ : ∃ u, ((w13.alloc (.cells #[.bool g6, .slice a6 x6.length c6, .slice e6 y6.length t6] 27)).alloc (.cells #[.bool g2, .slice a2 x2.length c2, .slice e2 y2.length t2, .bool g3, .slice a3 x3.length c3, .slice e3 y3.length t3] 27)) = u := ⟨_, rfl⟩
  rw [hname] at hs0 hB F1 F2 F3 E1 E2 E3 F4 E4 F6 E6 L7 ⊢
  have zh14 := hB.size
  have zs14 := hs0
  clear hname hs0
  have R := row_box (rs := [⟨g2, a2, c2, x2, e2, t2, y2⟩, ⟨g3, a3, c3, x3, e3, t3, y3⟩]) (k := w13.heap.size + 1) L7 (fun r hr => by
      simp only [List.mem_cons, List.not_mem_nil, or_false] at hr
      rcases hr with rfl | rfl
      · exact F2.mono (Nat.zero_le _)
      · exact F3.mono (Nat.zero_le _))
  have hlen : ∀ r ∈ ([⟨g2, a2, c2, x2, e2, t2, y2⟩, ⟨g3, a3, c3, x3, e3, t3, y3⟩] : List RV), r.xs.length ≤ 5 ∧ r.ds.length ≤ 5 := fun r hr => by
      simp only [List.mem_cons, List.not_mem_nil, or_false] at hr
      rcases hr with rfl | rfl
      · exact ⟨Nat.le_trans I2.lu (by decide), Nat.le_trans I2.ld (by decide)⟩
      · exact ⟨Nat.le_trans I3.lu (by decide), Nat.le_trans I3.ld (by decide)⟩
  have hg : ∀ r ∈ ([⟨g2, a2, c2, x2, e2, t2, y2⟩, ⟨g3, a3, c3, x3, e3, t3, y3⟩] : List RV), formR r.b r.xs r.ds = 0 := fun r hr => by
      simp only [List.mem_cons, List.not_mem_nil, or_false] at hr
      rcases hr with rfl | rfl
      · exact I2.good F2.up.words F2.down.words
      · exact I3.good F3.up.words F3.down.words
  refine (padd_ok (cap := 2) R (by simp) hlen (by omega) hg).mono ?_
  rintro e w15 ⟨g8, a8, c8, x8, e8, t8, y8, rfl, F8, P8, I8, hb⟩
  replace I8 : Is g8 x8 y8 (q2 + q3) (13) := (I8.mono (by simp)).to (by simp only [sumQ, RV.q, List.foldl, I2.rat, I3.rat]; grind)
  replace F1 := F1.below hb
  replace F2 := F2.below hb
  replace F3 := F3.below hb
  replace E1 := E1.below hb
  replace E2 := E2.below hb
  replace E3 := E3.below hb
  replace F4 := F4.below hb
  replace E4 := E4.below hb
  replace F6 := F6.below hb
  replace E6 := E6.below hb
  replace L7 := L7.below hb
  replace hB := hB.trans (hb.mono hB.size)
  have zz15 := hb.size
  have zh15 := hB.size
  clear hb
  clear R hlen hg
  clear L7
  obtain ⟨k0, k1, k2, f0, f1, f2⟩ := E6.three
  have qE1 := E1.lt
  have qE2 := E2.lt
  have qE3 := E3.lt
  have qE4 := E4.lt
  have qE6 := E6.lt
  have hs0 := Nat.le_refl w15.heap.size
  have hq : Below w15.heap.size w15 (w15.alloc (.cells #[.bool g8, .slice a8 x8.length c8, .slice e8 y8.length t8] 27)) := (Below.refl _ _).alloc (Nat.le_refl _) _
  replace F1 := F1.below hq
  replace F2 := F2.below hq
  replace F3 := F3.below hq
  replace E1 := E1.below hq
  replace E2 := E2.below hq
  replace E3 := E3.below hq
  replace F4 := F4.below hq
  replace E4 := E4.below hq
  replace F6 := F6.below hq
  replace E6 := E6.below hq
  replace F8 := F8.below hq
  have E8 : Box (w15.alloc (.cells #[.bool g8, .slice a8 x8.length c8, .slice e8 y8.length t8] 27)) (w15.heap.size) (.cells #[.bool g8, .slice a8 x8.length c8, .slice e8 y8.length t8] 27) := Box.put (.cells #[.bool g8, .slice a8 x8.length c8, .slice e8 y8.length t8] 27) rfl
  replace hs0 := Nat.le_trans hs0 hq.size
  replace hB := hB.trans (hq.mono hB.size)
  clear hq
  go_wp2_with fail
  clear k0 k1 k2 f0 f1 f2
  obtain ⟨u16, hname⟩ : ∃ u, (w15.alloc (.cells #[.bool g8, .slice a8 x8.length c8, .slice e8 y8.length t8] 27)) = u := ⟨_, rfl⟩
  rw [hname] at hs0 hB F1 F2 F3 E1 E2 E3 F4 E4 F6 E6 F8 E8 ⊢
  have zh16 := hB.size
  have zs16 := hs0
  clear hname hs0
  have hk := pcmp_ok g6 g8 F6 F8 I6 I8 (by omega)
  rw [Ho.out] at hk
  refine (hk).mono ?_
  rintro e w17 ⟨rfl, hb⟩
  replace F1 := F1.below hb
  replace F2 := F2.below hb
  replace F3 := F3.below hb
  replace E1 := E1.below hb
  replace E2 := E2.below hb
  replace E3 := E3.below hb
  replace F4 := F4.below hb
  replace E4 := E4.below hb
  replace F6 := F6.below hb
  replace E6 := E6.below hb
  replace F8 := F8.below hb
  replace E8 := E8.below hb
  replace hB := hB.trans (hb.mono hB.size)
  have zz17 := hb.size
  have zh17 := hB.size
  clear hb
  clear hk
  clear E6 E8 F6 F8
  obtain ⟨k0, k1, k2, f0, f1, f2⟩ := E4.three
  go_wp2_with fail
  clear k0 k1 k2 f0 f1 f2
  have hk := ssign_any g4 F4.up (by have := I4.lu; omega)
  rw [sign_is I4, Hd.out] at hk
  refine (hk).mono ?_
  rintro e w18 ⟨rfl, hb⟩
  replace F1 := F1.below hb
  replace F2 := F2.below hb
  replace F3 := F3.below hb
  replace E1 := E1.below hb
  replace E2 := E2.below hb
  replace E3 := E3.below hb
  replace F4 := F4.below hb
  replace E4 := E4.below hb
  replace hB := hB.trans (hb.mono hB.size)
  have zz18 := hb.size
  have zh18 := hB.size
  clear hb
  clear hk
  obtain ⟨k0, k1, k2, f0, f1, f2⟩ := E1.three
  obtain ⟨k3, k4, k5, f3, f4, f5⟩ := E2.three
  go_wp2_with fail
  clear k0 k1 k2 f0 f1 f2 k3 k4 k5 f3 f4 f5
  refine (samer_is F1 F2 I1 (I2.to Hq.out.symm) (by omega)).mono ?_
  rintro e w19 ⟨rfl, hb⟩
  replace F1 := F1.below hb
  replace F2 := F2.below hb
  replace F3 := F3.below hb
  replace E1 := E1.below hb
  replace E2 := E2.below hb
  replace E3 := E3.below hb
  replace F4 := F4.below hb
  replace E4 := E4.below hb
  replace hB := hB.trans (hb.mono hB.size)
  have zz19 := hb.size
  have zh19 := hB.size
  clear hb
  obtain ⟨k0, k1, k2, f0, f1, f2⟩ := E1.three
  obtain ⟨k3, k4, k5, f3, f4, f5⟩ := E2.three
  go_wp2
  go_ret
  exact ⟨rfl, hB⟩
end Go.Proofs.Ytblmkddjlfienaa

/-
  The walk of RatioOrder.
-/
namespace Go.Proofs.Ytblmkddjlfienaa
open Go.RowKit

set_option maxRecDepth 100000 in
set_option maxHeartbeats 4000000 in
theorem lrorder_gt {a1 e1 : Option Addr} {c1 t1 : Nat} {x1 y1 : List Int} {a2 e2 : Option Addr} {c2 t2 : Nat} {x2 y2 : List Int} {a3 e3 : Option Addr} {c3 t3 : Nat} {x3 y3 : List Int} {w : World} (g1 g2 g3 : Bool) (F1 : Fr 0 w a1 c1 x1 e1 t1 y1) (F2 : Fr 0 w a2 c2 x2 e2 t2 y2) (F3 : Fr 0 w a3 c3 x3 e3 t3 y3) (hl1 : x1.length ≤ 5 ∧ y1.length ≤ 5) (hl2 : x2.length ≤ 5 ∧ y2.length ≤ 5) (hl3 : x3.length ≤ 5 ∧ y3.length ≤ 5) {q1 q2 q3 : Rat} (I1 : Is g1 x1 y1 q1 5) (I2 : Is g2 x2 y2 q2 5) (I3 : Is g3 x3 y3 q3 5) (hq : q2 < q1) (kv lv : Int) (H23 : Hid (cmpR q2 q3 = kv)) (H13 : Hid (cmpR q1 q3 = lv)) :
    Calls Try.prog 4 #[.agg #[.bool g1, .slice a1 x1.length c1, .slice e1 y1.length t1], .agg #[.bool g2, .slice a2 x2.length c2, .slice e2 y2.length t2], .agg #[.bool g3, .slice a3 x3.length c3, .slice e3 y3.length t3]] w fun e w' => e = .returned (.bool true) ∧ Below w.heap.size w w' := by
  have hlen0 : Hid (∀ r ∈ ([⟨g1, a1, c1, x1, e1, t1, y1⟩, ⟨g2, a2, c2, x2, e2, t2, y2⟩, ⟨g3, a3, c3, x3, e3, t3, y3⟩] : List RV), r.xs.length ≤ 1000 ∧ r.ds.length ≤ 1000) := fun r hr => by
    simp only [List.mem_cons, List.not_mem_nil, or_false] at hr
    rcases hr with rfl | rfl | rfl <;> constructor <;> simp <;> omega
  have HL := long_no [⟨g1, a1, c1, x1, e1, t1, y1⟩, ⟨g2, a2, c2, x2, e2, t2, y2⟩, ⟨g3, a3, c3, x3, e3, t3, y3⟩] (by simp) (fun r hr => by
    simp only [List.mem_cons, List.not_mem_nil, or_false] at hr
    rcases hr with rfl | rfl | rfl
    · exact hl1
    · exact hl2
    · exact hl3)
  have HG := good_yes [⟨g1, a1, c1, x1, e1, t1, y1⟩, ⟨g2, a2, c2, x2, e2, t2, y2⟩, ⟨g3, a3, c3, x3, e3, t3, y3⟩] (fun r hr => by
    simp only [List.mem_cons, List.not_mem_nil, or_false] at hr
    rcases hr with rfl | rfl | rfl
    · exact I1.good F1.up.words F1.down.words
    · exact I2.good F2.up.words F2.down.words
    · exact I3.good F3.up.words F3.down.words)
  clear hl1 hl2 hl3
  have H12 : Hid (cmpR q1 q2 = 1) := by rw [Hid]; exact cmpR_gt hq
  have H21 : Hid (cmpR q2 q1 = -1) := by rw [Hid]; exact cmpR_lt hq
  have Hd : Hid (cmpR (q1 - q2) 0 = 1) := by rw [Hid]; exact cmpR_gt (by grind)
  have Ho : Hid (cmpR (q1 + q3) (q2 + q3) = 1) := by rw [Hid]; exact cmpR_gt (by grind)
  have Hq : Hid (¬ q1 = q2) := by rw [Hid]; grind
  clear hq
  have hB := Below.refl w.heap.size w
  go_enter Try.func4, Try.ntmps4
  have hs0 := Nat.le_refl w.heap.size
  have hq : Below w.heap.size w (w.alloc (.cells #[.bool g1, .slice a1 x1.length c1, .slice e1 y1.length t1] 27)) := (Below.refl _ _).alloc (Nat.le_refl _) _
  replace F1 := F1.below hq
  replace F2 := F2.below hq
  replace F3 := F3.below hq
  have E1 : Box (w.alloc (.cells #[.bool g1, .slice a1 x1.length c1, .slice e1 y1.length t1] 27)) (w.heap.size) (.cells #[.bool g1, .slice a1 x1.length c1, .slice e1 y1.length t1] 27) := Box.put (.cells #[.bool g1, .slice a1 x1.length c1, .slice e1 y1.length t1] 27) rfl
  replace hs0 := Nat.le_trans hs0 hq.size
  replace hB := hB.trans (hq.mono hB.size)
  clear hq
  have hq : Below (w.alloc (.cells #[.bool g1, .slice a1 x1.length c1, .slice e1 y1.length t1] 27)).heap.size (w.alloc (.cells #[.bool g1, .slice a1 x1.length c1, .slice e1 y1.length t1] 27)) ((w.alloc (.cells #[.bool g1, .slice a1 x1.length c1, .slice e1 y1.length t1] 27)).alloc (.cells #[.bool g2, .slice a2 x2.length c2, .slice e2 y2.length t2] 27)) := (Below.refl _ _).alloc (Nat.le_refl _) _
  replace F1 := F1.below hq
  replace F2 := F2.below hq
  replace F3 := F3.below hq
  replace E1 := E1.below hq
  have E2 : Box ((w.alloc (.cells #[.bool g1, .slice a1 x1.length c1, .slice e1 y1.length t1] 27)).alloc (.cells #[.bool g2, .slice a2 x2.length c2, .slice e2 y2.length t2] 27)) (w.heap.size + 1) (.cells #[.bool g2, .slice a2 x2.length c2, .slice e2 y2.length t2] 27) := Box.put (.cells #[.bool g2, .slice a2 x2.length c2, .slice e2 y2.length t2] 27) (by simp)
  replace hs0 := Nat.le_trans hs0 hq.size
  replace hB := hB.trans (hq.mono hB.size)
  clear hq
  have hq : Below ((w.alloc (.cells #[.bool g1, .slice a1 x1.length c1, .slice e1 y1.length t1] 27)).alloc (.cells #[.bool g2, .slice a2 x2.length c2, .slice e2 y2.length t2] 27)).heap.size ((w.alloc (.cells #[.bool g1, .slice a1 x1.length c1, .slice e1 y1.length t1] 27)).alloc (.cells #[.bool g2, .slice a2 x2.length c2, .slice e2 y2.length t2] 27)) (((w.alloc (.cells #[.bool g1, .slice a1 x1.length c1, .slice e1 y1.length t1] 27)).alloc (.cells #[.bool g2, .slice a2 x2.length c2, .slice e2 y2.length t2] 27)).alloc (.cells #[.bool g3, .slice a3 x3.length c3, .slice e3 y3.length t3] 27)) := (Below.refl _ _).alloc (Nat.le_refl _) _
  replace F1 := F1.below hq
  replace F2 := F2.below hq
  replace F3 := F3.below hq
  replace E1 := E1.below hq
  replace E2 := E2.below hq
  have E3 : Box (((w.alloc (.cells #[.bool g1, .slice a1 x1.length c1, .slice e1 y1.length t1] 27)).alloc (.cells #[.bool g2, .slice a2 x2.length c2, .slice e2 y2.length t2] 27)).alloc (.cells #[.bool g3, .slice a3 x3.length c3, .slice e3 y3.length t3] 27)) (w.heap.size + 2) (.cells #[.bool g3, .slice a3 x3.length c3, .slice e3 y3.length t3] 27) := Box.put (.cells #[.bool g3, .slice a3 x3.length c3, .slice e3 y3.length t3] 27) (by simp)
  replace hs0 := Nat.le_trans hs0 hq.size
  replace hB := hB.trans (hq.mono hB.size)
  clear hq
  go_wp2_with fail
  obtain ⟨u1, hname⟩ : ∃ u, (((w.alloc (.cells #[.bool g1, .slice a1 x1.length c1, .slice e1 y1.length t1] 27)).alloc (.cells #[.bool g2, .slice a2 x2.length c2, .slice e2 y2.length t2] 27)).alloc (.cells #[.bool g3, .slice a3 x3.length c3, .slice e3 y3.length t3] 27)) = u := ⟨_, rfl⟩
  rw [hname] at hs0 hB F1 F2 F3 E1 E2 E3 ⊢
  have zh1 := hB.size
  have zs1 := hs0
  clear hname hs0
  refine (lrawake_any _).mono ?_
  rintro e w2 ⟨rfl, hb⟩
  replace F1 := F1.below hb
  replace F2 := F2.below hb
  replace F3 := F3.below hb
  replace E1 := E1.below hb
  replace E2 := E2.below hb
  replace E3 := E3.below hb
  replace hB := hB.trans (hb.mono hB.size)
  have zz2 := hb.size
  have zh2 := hB.size
  clear hb
  obtain ⟨k0, k1, k2, f0, f1, f2⟩ := E1.three
  obtain ⟨k3, k4, k5, f3, f4, f5⟩ := E2.three
  obtain ⟨k6, k7, k8, f6, f7, f8⟩ := E3.three
  have qE1 := E1.lt
  have qE2 := E2.lt
  have qE3 := E3.lt
  have hs0 := Nat.le_refl w2.heap.size
  have hq : Below w2.heap.size w2 (w2.alloc (.cells #[.bool g1, .slice a1 x1.length c1, .slice e1 y1.length t1, .bool g2, .slice a2 x2.length c2, .slice e2 y2.length t2, .bool g3, .slice a3 x3.length c3, .slice e3 y3.length t3] 27)) := (Below.refl _ _).alloc (Nat.le_refl _) _
  replace F1 := F1.below hq
  replace F2 := F2.below hq
  replace F3 := F3.below hq
  replace E1 := E1.below hq
  replace E2 := E2.below hq
  replace E3 := E3.below hq
  have L0 : Box (w2.alloc (.cells #[.bool g1, .slice a1 x1.length c1, .slice e1 y1.length t1, .bool g2, .slice a2 x2.length c2, .slice e2 y2.length t2, .bool g3, .slice a3 x3.length c3, .slice e3 y3.length t3] 27)) (w2.heap.size) (.cells #[.bool g1, .slice a1 x1.length c1, .slice e1 y1.length t1, .bool g2, .slice a2 x2.length c2, .slice e2 y2.length t2, .bool g3, .slice a3 x3.length c3, .slice e3 y3.length t3] 27) := Box.put (.cells #[.bool g1, .slice a1 x1.length c1, .slice e1 y1.length t1, .bool g2, .slice a2 x2.length c2, .slice e2 y2.length t2, .bool g3, .slice a3 x3.length c3, .slice e3 y3.length t3] 27) rfl
  replace hs0 := Nat.le_trans hs0 hq.size
  replace hB := hB.trans (hq.mono hB.size)
  clear hq
  go_wp2_with fail
  clear k0 k1 k2 f0 f1 f2 k3 k4 k5 f3 f4 f5 k6 k7 k8 f6 f7 f8
  obtain ⟨u3, hname⟩ : ∃ u, (w2.alloc (.cells #[.bool g1, .slice a1 x1.length c1, .slice e1 y1.length t1, .bool g2, .slice a2 x2.length c2, .slice e2 y2.length t2, .bool g3, .slice a3 x3.length c3, .slice e3 y3.length t3] 27)) = u := ⟨_, rfl⟩
  rw [hname] at hs0 hB F1 F2 F3 E1 E2 E3 L0 ⊢
  have zh3 := hB.size
  have zs3 := hs0
  clear hname hs0
  have R := row_box (rs := [⟨g1, a1, c1, x1, e1, t1, y1⟩, ⟨g2, a2, c2, x2, e2, t2, y2⟩, ⟨g3, a3, c3, x3, e3, t3, y3⟩]) (k := w2.heap.size) L0 (fun r hr => by
      simp only [List.mem_cons, List.not_mem_nil, or_false] at hr
      rcases hr with rfl | rfl | rfl
      · exact F1.mono (Nat.zero_le _)
      · exact F2.mono (Nat.zero_le _)
      · exact F3.mono (Nat.zero_le _))
  refine (lrlong_any (cap := 3) R false HL).mono ?_
  rintro e w4 ⟨rfl, hb⟩
  replace F1 := F1.below hb
  replace F2 := F2.below hb
  replace F3 := F3.below hb
  replace E1 := E1.below hb
  replace E2 := E2.below hb
  replace E3 := E3.below hb
  replace L0 := L0.below hb
  replace hB := hB.trans (hb.mono hB.size)
  have zz4 := hb.size
  have zh4 := hB.size
  clear hb
  clear R
  clear L0
  obtain ⟨k0, k1, k2, f0, f1, f2⟩ := E1.three
  obtain ⟨k3, k4, k5, f3, f4, f5⟩ := E2.three
  obtain ⟨k6, k7, k8, f6, f7, f8⟩ := E3.three
  have qE1 := E1.lt
  have qE2 := E2.lt
  have qE3 := E3.lt
  have hs0 := Nat.le_refl w4.heap.size
  have hq : Below w4.heap.size w4 (w4.alloc (.cells #[.bool g1, .slice a1 x1.length c1, .slice e1 y1.length t1, .bool g2, .slice a2 x2.length c2, .slice e2 y2.length t2, .bool g3, .slice a3 x3.length c3, .slice e3 y3.length t3] 27)) := (Below.refl _ _).alloc (Nat.le_refl _) _
  replace F1 := F1.below hq
  replace F2 := F2.below hq
  replace F3 := F3.below hq
  replace E1 := E1.below hq
  replace E2 := E2.below hq
  replace E3 := E3.below hq
  have L0 : Box (w4.alloc (.cells #[.bool g1, .slice a1 x1.length c1, .slice e1 y1.length t1, .bool g2, .slice a2 x2.length c2, .slice e2 y2.length t2, .bool g3, .slice a3 x3.length c3, .slice e3 y3.length t3] 27)) (w4.heap.size) (.cells #[.bool g1, .slice a1 x1.length c1, .slice e1 y1.length t1, .bool g2, .slice a2 x2.length c2, .slice e2 y2.length t2, .bool g3, .slice a3 x3.length c3, .slice e3 y3.length t3] 27) := Box.put (.cells #[.bool g1, .slice a1 x1.length c1, .slice e1 y1.length t1, .bool g2, .slice a2 x2.length c2, .slice e2 y2.length t2, .bool g3, .slice a3 x3.length c3, .slice e3 y3.length t3] 27) rfl
  replace hs0 := Nat.le_trans hs0 hq.size
  replace hB := hB.trans (hq.mono hB.size)
  clear hq
  go_wp2_with fail
  clear k0 k1 k2 f0 f1 f2 k3 k4 k5 f3 f4 f5 k6 k7 k8 f6 f7 f8
  obtain ⟨u5, hname⟩ : ∃ u, (w4.alloc (.cells #[.bool g1, .slice a1 x1.length c1, .slice e1 y1.length t1, .bool g2, .slice a2 x2.length c2, .slice e2 y2.length t2, .bool g3, .slice a3 x3.length c3, .slice e3 y3.length t3] 27)) = u := ⟨_, rfl⟩
  rw [hname] at hs0 hB F1 F2 F3 E1 E2 E3 L0 ⊢
  have zh5 := hB.size
  have zs5 := hs0
  clear hname hs0
  have R := row_box (rs := [⟨g1, a1, c1, x1, e1, t1, y1⟩, ⟨g2, a2, c2, x2, e2, t2, y2⟩, ⟨g3, a3, c3, x3, e3, t3, y3⟩]) (k := w4.heap.size) L0 (fun r hr => by
      simp only [List.mem_cons, List.not_mem_nil, or_false] at hr
      rcases hr with rfl | rfl | rfl
      · exact F1.mono (Nat.zero_le _)
      · exact F2.mono (Nat.zero_le _)
      · exact F3.mono (Nat.zero_le _))
  refine (lrgood_any (cap := 3) R (by simp) hlen0.out true HG).mono ?_
  rintro e w6 ⟨rfl, hb⟩
  replace F1 := F1.below hb
  replace F2 := F2.below hb
  replace F3 := F3.below hb
  replace E1 := E1.below hb
  replace E2 := E2.below hb
  replace E3 := E3.below hb
  replace L0 := L0.below hb
  replace hB := hB.trans (hb.mono hB.size)
  have zz6 := hb.size
  have zh6 := hB.size
  clear hb
  clear R
  clear L0
  obtain ⟨k0, k1, k2, f0, f1, f2⟩ := E1.three
  obtain ⟨k3, k4, k5, f3, f4, f5⟩ := E2.three
  go_wp2_with fail
  clear k0 k1 k2 f0 f1 f2 k3 k4 k5 f3 f4 f5
  have hk := pcmp_ok g1 g2 F1 F2 I1 I2 (by omega)
  rw [H12.out] at hk
  refine (hk).mono ?_
  rintro e w7 ⟨rfl, hb⟩
  replace F1 := F1.below hb
  replace F2 := F2.below hb
  replace F3 := F3.below hb
  replace E1 := E1.below hb
  replace E2 := E2.below hb
  replace E3 := E3.below hb
  replace hB := hB.trans (hb.mono hB.size)
  have zz7 := hb.size
  have zh7 := hB.size
  clear hb
  clear hk
  obtain ⟨k0, k1, k2, f0, f1, f2⟩ := E1.three
  obtain ⟨k3, k4, k5, f3, f4, f5⟩ := E2.three
  go_wp2_with fail
  clear k0 k1 k2 f0 f1 f2 k3 k4 k5 f3 f4 f5
  have hk := pcmp_ok g2 g1 F2 F1 I2 I1 (by omega)
  rw [H21.out] at hk
  refine (hk).mono ?_
  rintro e w8 ⟨rfl, hb⟩
  replace F1 := F1.below hb
  replace F2 := F2.below hb
  replace F3 := F3.below hb
  replace E1 := E1.below hb
  replace E2 := E2.below hb
  replace E3 := E3.below hb
  replace hB := hB.trans (hb.mono hB.size)
  have zz8 := hb.size
  have zh8 := hB.size
  clear hb
  clear hk
  obtain ⟨k0, k1, k2, f0, f1, f2⟩ := E2.three
  obtain ⟨k3, k4, k5, f3, f4, f5⟩ := E3.three
  go_wp2_with fail
  clear k0 k1 k2 f0 f1 f2 k3 k4 k5 f3 f4 f5
  have hk := pcmp_ok g2 g3 F2 F3 I2 I3 (by omega)
  rw [H23.out] at hk
  refine (hk).mono ?_
  rintro e w9 ⟨rfl, hb⟩
  replace F1 := F1.below hb
  replace F2 := F2.below hb
  replace F3 := F3.below hb
  replace E1 := E1.below hb
  replace E2 := E2.below hb
  replace E3 := E3.below hb
  replace hB := hB.trans (hb.mono hB.size)
  have zz9 := hb.size
  have zh9 := hB.size
  clear hb
  clear hk
  obtain ⟨k0, k1, k2, f0, f1, f2⟩ := E1.three
  obtain ⟨k3, k4, k5, f3, f4, f5⟩ := E3.three
  go_wp2_with fail
  clear k0 k1 k2 f0 f1 f2 k3 k4 k5 f3 f4 f5
  have hk := pcmp_ok g1 g3 F1 F3 I1 I3 (by omega)
  rw [H13.out] at hk
  refine (hk).mono ?_
  rintro e w10 ⟨rfl, hb⟩
  replace F1 := F1.below hb
  replace F2 := F2.below hb
  replace F3 := F3.below hb
  replace E1 := E1.below hb
  replace E2 := E2.below hb
  replace E3 := E3.below hb
  replace hB := hB.trans (hb.mono hB.size)
  have zz10 := hb.size
  have zh10 := hB.size
  clear hb
  clear hk
  obtain ⟨k0, k1, k2, f0, f1, f2⟩ := E1.three
  obtain ⟨k3, k4, k5, f3, f4, f5⟩ := E2.three
  go_wp2_with fail
  clear k0 k1 k2 f0 f1 f2 k3 k4 k5 f3 f4 f5
  refine (psub_ok g1 g2 F1 F2 ⟨I1.lu, I1.ld⟩ ⟨I2.lu, I2.ld⟩ (by omega) (by omega) (I1.good F1.up.words F1.down.words) (I2.good F2.up.words F2.down.words)).mono ?_
  rintro e w11 ⟨g4, a4, c4, x4, e4, t4, y4, rfl, F4, P4, I4, hb⟩
  replace I4 : Is g4 x4 y4 (q1 - q2) (11) := (I4.mono (by omega)).to (by rw [I1.rat, I2.rat]; skip)
  replace F1 := F1.below hb
  replace F2 := F2.below hb
  replace F3 := F3.below hb
  replace E1 := E1.below hb
  replace E2 := E2.below hb
  replace E3 := E3.below hb
  replace hB := hB.trans (hb.mono hB.size)
  have zz11 := hb.size
  have zh11 := hB.size
  clear hb
  obtain ⟨k0, k1, k2, f0, f1, f2⟩ := E1.three
  obtain ⟨k3, k4, k5, f3, f4, f5⟩ := E3.three
  have qE1 := E1.lt
  have qE2 := E2.lt
  have qE3 := E3.lt
  have hs0 := Nat.le_refl w11.heap.size
  have hq : Below w11.heap.size w11 (w11.alloc (.cells #[.bool g4, .slice a4 x4.length c4, .slice e4 y4.length t4] 27)) := (Below.refl _ _).alloc (Nat.le_refl _) _
  replace F1 := F1.below hq
  replace F2 := F2.below hq
  replace F3 := F3.below hq
  replace E1 := E1.below hq
  replace E2 := E2.below hq
  replace E3 := E3.below hq
  replace F4 := F4.below hq
  have E4 : Box (w11.alloc (.cells #[.bool g4, .slice a4 x4.length c4, .slice e4 y4.length t4] 27)) (w11.heap.size) (.cells #[.bool g4, .slice a4 x4.length c4, .slice e4 y4.length t4] 27) := Box.put (.cells #[.bool g4, .slice a4 x4.length c4, .slice e4 y4.length t4] 27) rfl
  replace hs0 := Nat.le_trans hs0 hq.size
  replace hB := hB.trans (hq.mono hB.size)
  clear hq
  have hq : Below (w11.alloc (.cells #[.bool g4, .slice a4 x4.length c4, .slice e4 y4.length t4] 27)).heap.size (w11.alloc (.cells #[.bool g4, .slice a4 x4.length c4, .slice e4 y4.length t4] 27)) ((w11.alloc (.cells #[.bool g4, .slice a4 x4.length c4, .slice e4 y4.length t4] 27)).alloc (.cells #[.bool g1, .slice a1 x1.length c1, .slice e1 y1.length t1, .bool g3, .slice a3 x3.length c3, .slice e3 y3.length t3] 27)) := (Below.refl _ _).alloc (Nat.le_refl _) _
  replace F1 := F1.below hq
  replace F2 := F2.below hq
  replace F3 := F3.below hq
  replace E1 := E1.below hq
  replace E2 := E2.below hq
  replace E3 := E3.below hq
  replace F4 := F4.below hq
  replace E4 := E4.below hq
  have L5 : Box ((w11.alloc (.cells #[.bool g4, .slice a4 x4.length c4, .slice e4 y4.length t4] 27)).alloc (.cells #[.bool g1, .slice a1 x1.length c1, .slice e1 y1.length t1, .bool g3, .slice a3 x3.length c3, .slice e3 y3.length t3] 27)) (w11.heap.size + 1) (.cells #[.bool g1, .slice a1 x1.length c1, .slice e1 y1.length t1, .bool g3, .slice a3 x3.length c3, .slice e3 y3.length t3] 27) := Box.put (.cells #[.bool g1, .slice a1 x1.length c1, .slice e1 y1.length t1, .bool g3, .slice a3 x3.length c3, .slice e3 y3.length t3] 27) (by simp)
  replace hs0 := Nat.le_trans hs0 hq.size
  replace hB := hB.trans (hq.mono hB.size)
  clear hq
  go_wp2_with fail
  clear k0 k1 k2 f0 f1 f2 k3 k4 k5 f3 f4 f5
  obtain ⟨u12, hname⟩ : ∃ u, ((w11.alloc (.cells #[.bool g4, .slice a4 x4.length c4, .slice e4 y4.length t4] 27)).alloc (.cells #[.bool g1, .slice a1 x1.length c1, .slice e1 y1.length t1, .bool g3, .slice a3 x3.length c3, .slice e3 y3.length t3] 27)) = u := ⟨_, rfl⟩
  rw [hname] at hs0 hB F1 F2 F3 E1 E2 E3 F4 E4 L5 ⊢
  have zh12 := hB.size
  have zs12 := hs0
  clear hname hs0
  have R := row_box (rs := [⟨g1, a1, c1, x1, e1, t1, y1⟩, ⟨g3, a3, c3, x3, e3, t3, y3⟩]) (k := w11.heap.size + 1) L5 (fun r hr => by
      simp only [List.mem_cons, List.not_mem_nil, or_false] at hr
      rcases hr with rfl | rfl
      · exact F1.mono (Nat.zero_le _)
      · exact F3.mono (Nat.zero_le _))
  have hlen : ∀ r ∈ ([⟨g1, a1, c1, x1, e1, t1, y1⟩, ⟨g3, a3, c3, x3, e3, t3, y3⟩] : List RV), r.xs.length ≤ 5 ∧ r.ds.length ≤ 5 := fun r hr => by
      simp only [List.mem_cons, List.not_mem_nil, or_false] at hr
      rcases hr with rfl | rfl
      · exact ⟨Nat.le_trans I1.lu (by decide), Nat.le_trans I1.ld (by decide)⟩
      · exact ⟨Nat.le_trans I3.lu (by decide), Nat.le_trans I3.ld (by decide)⟩
  have hg : ∀ r ∈ ([⟨g1, a1, c1, x1, e1, t1, y1⟩, ⟨g3, a3, c3, x3, e3, t3, y3⟩] : List RV), formR r.b r.xs r.ds = 0 := fun r hr => by
      simp only [List.mem_cons, List.not_mem_nil, or_false] at hr
      rcases hr with rfl | rfl
      · exact I1.good F1.up.words F1.down.words
      · exact I3.good F3.up.words F3.down.words
  refine (padd_ok (cap := 2) R (by simp) hlen (by omega) hg).mono ?_
  rintro e w13 ⟨g6, a6, c6, x6, e6, t6, y6, rfl, F6, P6, I6, hb⟩
  replace I6 : Is g6 x6 y6 (q1 + q3) (13) := (I6.mono (by simp)).to (by simp only [sumQ, RV.q, List.foldl, I1.rat, I3.rat]; grind)
  replace F1 := F1.below hb
  replace F2 := F2.below hb
  replace F3 := F3.below hb
  replace E1 := E1.below hb
  replace E2 := E2.below hb
  replace E3 := E3.below hb
  replace F4 := F4.below hb
  replace E4 := E4.below hb
  replace L5 := L5.below hb
  replace hB := hB.trans (hb.mono hB.size)
  have zz13 := hb.size
  have zh13 := hB.size
  clear hb
  clear R hlen hg
  clear L5
  obtain ⟨k0, k1, k2, f0, f1, f2⟩ := E2.three
  obtain ⟨k3, k4, k5, f3, f4, f5⟩ := E3.three
  have qE1 := E1.lt
  have qE2 := E2.lt
  have qE3 := E3.lt
  have qE4 := E4.lt
  have hs0 := Nat.le_refl w13.heap.size
  have hq : Below w13.heap.size w13 (w13.alloc (.cells #[.bool g6, .slice a6 x6.length c6, .slice e6 y6.length t6] 27)) := (Below.refl _ _).alloc (Nat.le_refl _) _
  replace F1 := F1.below hq
  replace F2 := F2.below hq
  replace F3 := F3.below hq
  replace E1 := E1.below hq
  replace E2 := E2.below hq
  replace E3 := E3.below hq
  replace F4 := F4.below hq
  replace E4 := E4.below hq
  replace F6 := F6.below hq
  have E6 : Box (w13.alloc (.cells #[.bool g6, .slice a6 x6.length c6, .slice e6 y6.length t6] 27)) (w13.heap.size) (.cells #[.bool g6, .slice a6 x6.length c6, .slice e6 y6.length t6] 27) := Box.put (.cells #[.bool g6, .slice a6 x6.length c6, .slice e6 y6.length t6] 27) rfl
  replace hs0 := Nat.le_trans hs0 hq.size
  replace hB := hB.trans (hq.mono hB.size)
  clear hq
  have hq : Below (w13.alloc (.cells #[.bool g6, .slice a6 x6.length c6, .slice e6 y6.length t6] 27)).heap.size (w13.alloc (.cells #[.bool g6, .slice a6 x6.length c6, .slice e6 y6.length t6] 27)) ((w13.alloc (.cells #[.bool g6, .slice a6 x6.length c6, .slice e6 y6.length t6] 27)).alloc (.cells #[.bool g2, .slice a2 x2.length c2, .slice e2 y2.length t2, .bool g3, .slice a3 x3.length c3, .slice e3 y3.length t3] 27)) := (Below.refl _ _).alloc (Nat.le_refl _) _
  replace F1 := F1.below hq
  replace F2 := F2.below hq
  replace F3 := F3.below hq
  replace E1 := E1.below hq
  replace E2 := E2.below hq
  replace E3 := E3.below hq
  replace F4 := F4.below hq
  replace E4 := E4.below hq
  replace F6 := F6.below hq
  replace E6 := E6.below hq
  have L7 : Box ((w13.alloc (.cells #[.bool g6, .slice a6 x6.length c6, .slice e6 y6.length t6] 27)).alloc (.cells #[.bool g2, .slice a2 x2.length c2, .slice e2 y2.length t2, .bool g3, .slice a3 x3.length c3, .slice e3 y3.length t3] 27)) (w13.heap.size + 1) (.cells #[.bool g2, .slice a2 x2.length c2, .slice e2 y2.length t2, .bool g3, .slice a3 x3.length c3, .slice e3 y3.length t3] 27) := Box.put (.cells #[.bool g2, .slice a2 x2.length c2, .slice e2 y2.length t2, .bool g3, .slice a3 x3.length c3, .slice e3 y3.length t3] 27) (by simp)
  replace hs0 := Nat.le_trans hs0 hq.size
  replace hB := hB.trans (hq.mono hB.size)
  clear hq
  go_wp2_with fail
  clear k0 k1 k2 f0 f1 f2 k3 k4 k5 f3 f4 f5
  obtain ⟨u14, hname⟩ : ∃ u, ((w13.alloc (.cells #[.bool g6, .slice a6 x6.length c6, .slice e6 y6.length t6] 27)).alloc (.cells #[.bool g2, .slice a2 x2.length c2, .slice e2 y2.length t2, .bool g3, .slice a3 x3.length c3, .slice e3 y3.length t3] 27)) = u := ⟨_, rfl⟩
  rw [hname] at hs0 hB F1 F2 F3 E1 E2 E3 F4 E4 F6 E6 L7 ⊢
  have zh14 := hB.size
  have zs14 := hs0
  clear hname hs0
  have R := row_box (rs := [⟨g2, a2, c2, x2, e2, t2, y2⟩, ⟨g3, a3, c3, x3, e3, t3, y3⟩]) (k := w13.heap.size + 1) L7 (fun r hr => by
      simp only [List.mem_cons, List.not_mem_nil, or_false] at hr
      rcases hr with rfl | rfl
      · exact F2.mono (Nat.zero_le _)
      · exact F3.mono (Nat.zero_le _))
  have hlen : ∀ r ∈ ([⟨g2, a2, c2, x2, e2, t2, y2⟩, ⟨g3, a3, c3, x3, e3, t3, y3⟩] : List RV), r.xs.length ≤ 5 ∧ r.ds.length ≤ 5 := fun r hr => by
      simp only [List.mem_cons, List.not_mem_nil, or_false] at hr
      rcases hr with rfl | rfl
      · exact ⟨Nat.le_trans I2.lu (by decide), Nat.le_trans I2.ld (by decide)⟩
      · exact ⟨Nat.le_trans I3.lu (by decide), Nat.le_trans I3.ld (by decide)⟩
  have hg : ∀ r ∈ ([⟨g2, a2, c2, x2, e2, t2, y2⟩, ⟨g3, a3, c3, x3, e3, t3, y3⟩] : List RV), formR r.b r.xs r.ds = 0 := fun r hr => by
      simp only [List.mem_cons, List.not_mem_nil, or_false] at hr
      rcases hr with rfl | rfl
      · exact I2.good F2.up.words F2.down.words
      · exact I3.good F3.up.words F3.down.words
  refine (padd_ok (cap := 2) R (by simp) hlen (by omega) hg).mono ?_
  rintro e w15 ⟨g8, a8, c8, x8, e8, t8, y8, rfl, F8, P8, I8, hb⟩
  replace I8 : Is g8 x8 y8 (q2 + q3) (13) := (I8.mono (by simp)).to (by simp only [sumQ, RV.q, List.foldl, I2.rat, I3.rat]; grind)
  replace F1 := F1.below hb
  replace F2 := F2.below hb
  replace F3 := F3.below hb
  replace E1 := E1.below hb
  replace E2 := E2.below hb
  replace E3 := E3.below hb
  replace F4 := F4.below hb
  replace E4 := E4.below hb
  replace F6 := F6.below hb
  replace E6 := E6.below hb
  replace L7 := L7.below hb
  replace hB := hB.trans (hb.mono hB.size)
  have zz15 := hb.size
  have zh15 := hB.size
  clear hb
  clear R hlen hg
  clear L7
  obtain ⟨k0, k1, k2, f0, f1, f2⟩ := E6.three
  have qE1 := E1.lt
  have qE2 := E2.lt
  have qE3 := E3.lt
  have qE4 := E4.lt
  have qE6 := E6.lt
  have hs0 := Nat.le_refl w15.heap.size
  have hq : Below w15.heap.size w15 (w15.alloc (.cells #[.bool g8, .slice a8 x8.length c8, .slice e8 y8.length t8] 27)) := (Below.refl _ _).alloc (Nat.le_refl _) _
  replace F1 := F1.below hq
  replace F2 := F2.below hq
  replace F3 := F3.below hq
  replace E1 := E1.below hq
  replace E2 := E2.below hq
  replace E3 := E3.below hq
  replace F4 := F4.below hq
  replace E4 := E4.below hq
  replace F6 := F6.below hq
  replace E6 := E6.below hq
  replace F8 := F8.below hq
  have E8 : Box (w15.alloc (.cells #[.bool g8, .slice a8 x8.length c8, .slice e8 y8.length t8] 27)) (w15.heap.size) (.cells #[.bool g8, .slice a8 x8.length c8, .slice e8 y8.length t8] 27) := Box.put (.cells #[.bool g8, .slice a8 x8.length c8, .slice e8 y8.length t8] 27) rfl
  replace hs0 := Nat.le_trans hs0 hq.size
  replace hB := hB.trans (hq.mono hB.size)
  clear hq
  go_wp2_with fail
  clear k0 k1 k2 f0 f1 f2
  obtain ⟨u16, hname⟩ : ∃ u, (w15.alloc (.cells #[.bool g8, .slice a8 x8.length c8, .slice e8 y8.length t8] 27)) = u := ⟨_, rfl⟩
  rw [hname] at hs0 hB F1 F2 F3 E1 E2 E3 F4 E4 F6 E6 F8 E8 ⊢
  have zh16 := hB.size
  have zs16 := hs0
  clear hname hs0
  have hk := pcmp_ok g6 g8 F6 F8 I6 I8 (by omega)
  rw [Ho.out] at hk
  refine (hk).mono ?_
  rintro e w17 ⟨rfl, hb⟩
  replace F1 := F1.below hb
  replace F2 := F2.below hb
  replace F3 := F3.below hb
  replace E1 := E1.below hb
  replace E2 := E2.below hb
  replace E3 := E3.below hb
  replace F4 := F4.below hb
  replace E4 := E4.below hb
  replace F6 := F6.below hb
  replace E6 := E6.below hb
  replace F8 := F8.below hb
  replace E8 := E8.below hb
  replace hB := hB.trans (hb.mono hB.size)
  have zz17 := hb.size
  have zh17 := hB.size
  clear hb
  clear hk
  clear E6 E8 F6 F8
  obtain ⟨k0, k1, k2, f0, f1, f2⟩ := E4.three
  go_wp2_with fail
  clear k0 k1 k2 f0 f1 f2
  have hk := ssign_any g4 F4.up (by have := I4.lu; omega)
  rw [sign_is I4, Hd.out] at hk
  refine (hk).mono ?_
  rintro e w18 ⟨rfl, hb⟩
  replace F1 := F1.below hb
  replace F2 := F2.below hb
  replace F3 := F3.below hb
  replace E1 := E1.below hb
  replace E2 := E2.below hb
  replace E3 := E3.below hb
  replace F4 := F4.below hb
  replace E4 := E4.below hb
  replace hB := hB.trans (hb.mono hB.size)
  have zz18 := hb.size
  have zh18 := hB.size
  clear hb
  clear hk
  obtain ⟨k0, k1, k2, f0, f1, f2⟩ := E1.three
  obtain ⟨k3, k4, k5, f3, f4, f5⟩ := E2.three
  go_wp2_with fail
  clear k0 k1 k2 f0 f1 f2 k3 k4 k5 f3 f4 f5
  have hk := samer_any g1 g2 F1 F2 (by have := I1.lu; omega) (by have := I1.ld; omega)
  rw [decide_eq_false (fun h => Hq.out (by rw [← I1.rat, ← I2.rat, h.1, h.2.1, h.2.2]))] at hk
  refine (hk).mono ?_
  rintro e w19 ⟨rfl, hb⟩
  replace F1 := F1.below hb
  replace F2 := F2.below hb
  replace F3 := F3.below hb
  replace E1 := E1.below hb
  replace E2 := E2.below hb
  replace E3 := E3.below hb
  replace F4 := F4.below hb
  replace E4 := E4.below hb
  replace hB := hB.trans (hb.mono hB.size)
  have zz19 := hb.size
  have zh19 := hB.size
  clear hb
  clear hk
  obtain ⟨k0, k1, k2, f0, f1, f2⟩ := E1.three
  obtain ⟨k3, k4, k5, f3, f4, f5⟩ := E2.three
  go_wp2
  go_ret
  exact ⟨rfl, hB⟩
end Go.Proofs.Ytblmkddjlfienaa

/-
  The walk of RatioOrder.
-/
namespace Go.Proofs.Ytblmkddjlfienaa
open Go.RowKit

theorem lrorder_good {a1 e1 : Option Addr} {c1 t1 : Nat} {x1 y1 : List Int} {a2 e2 : Option Addr} {c2 t2 : Nat} {x2 y2 : List Int} {a3 e3 : Option Addr} {c3 t3 : Nat} {x3 y3 : List Int} {w : World} (g1 g2 g3 : Bool) (F1 : Fr 0 w a1 c1 x1 e1 t1 y1) (F2 : Fr 0 w a2 c2 x2 e2 t2 y2) (F3 : Fr 0 w a3 c3 x3 e3 t3 y3) (hl1 : x1.length ≤ 5 ∧ y1.length ≤ 5) (hl2 : x2.length ≤ 5 ∧ y2.length ≤ 5) (hl3 : x3.length ≤ 5 ∧ y3.length ≤ 5) {q1 q2 q3 : Rat} (I1 : Is g1 x1 y1 q1 5) (I2 : Is g2 x2 y2 q2 5) (I3 : Is g3 x3 y3 q3 5) :
    Calls Try.prog 4 #[.agg #[.bool g1, .slice a1 x1.length c1, .slice e1 y1.length t1], .agg #[.bool g2, .slice a2 x2.length c2, .slice e2 y2.length t2], .agg #[.bool g3, .slice a3 x3.length c3, .slice e3 y3.length t3]] w fun e w' => e = .returned (.bool true) ∧ Below w.heap.size w w' := by
  by_cases h1 : q1 < q2
  · by_cases h2 : q2 < q3
    · exact lrorder_ltlt g1 g2 g3 F1 F2 F3 hl1 hl2 hl3 I1 I2 I3 h1 h2
    · refine lrorder_ltge g1 g2 g3 F1 F2 F3 hl1 hl2 hl3 I1 I2 I3 h1 _ _ ?_ rfl rfl
      unfold cmpR
      rw [if_neg h2]
      split <;> decide
  · by_cases h2 : q1 = q2
    · exact lrorder_eq g1 g2 g3 F1 F2 F3 hl1 hl2 hl3 I1 I2 I3 h2 _ _ rfl rfl
    · exact lrorder_gt g1 g2 g3 F1 F2 F3 hl1 hl2 hl3 I1 I2 I3 (by grind) _ _ rfl rfl

theorem lrorder_any {a1 e1 : Option Addr} {c1 t1 : Nat} {x1 y1 : List Int} {a2 e2 : Option Addr} {c2 t2 : Nat} {x2 y2 : List Int} {a3 e3 : Option Addr} {c3 t3 : Nat} {x3 y3 : List Int} {w : World} (g1 g2 g3 : Bool) (F1 : Fr 0 w a1 c1 x1 e1 t1 y1) (F2 : Fr 0 w a2 c2 x2 e2 t2 y2) (F3 : Fr 0 w a3 c3 x3 e3 t3 y3) :
    Calls Try.prog 4 #[.agg #[.bool g1, .slice a1 x1.length c1, .slice e1 y1.length t1], .agg #[.bool g2, .slice a2 x2.length c2, .slice e2 y2.length t2], .agg #[.bool g3, .slice a3 x3.length c3, .slice e3 y3.length t3]] w fun e w' => e = .returned (.bool true) ∧ Below w.heap.size w w' := by
  by_cases h1 : x1.length ≤ 5 ∧ y1.length ≤ 5
  · by_cases h2 : x2.length ≤ 5 ∧ y2.length ≤ 5
    · by_cases h3 : x3.length ≤ 5 ∧ y3.length ≤ 5
      · by_cases hg : ∀ r ∈ ([⟨g1, a1, c1, x1, e1, t1, y1⟩, ⟨g2, a2, c2, x2, e2, t2, y2⟩, ⟨g3, a3, c3, x3, e3, t3, y3⟩] : List RV), formR r.b r.xs r.ds = 0
        · exact lrorder_good g1 g2 g3 F1 F2 F3 h1 h2 h3 ⟨(formR_low F1.up.words F1.down.words).1 (hg _ (List.mem_cons_self ..)), rfl, h1.1, h1.2⟩ ⟨(formR_low F2.up.words F2.down.words).1 (hg _ (List.mem_cons_of_mem _ (List.mem_cons_self ..))), rfl, h2.1, h2.2⟩ ⟨(formR_low F3.up.words F3.down.words).1 (hg _ (List.mem_cons_of_mem _ (List.mem_cons_of_mem _ (List.mem_cons_self ..)))), rfl, h3.1, h3.2⟩
        · exact lrorder_bad g1 g2 g3 F1 F2 F3 h1 h2 h3 (good_no _ hg)
      · exact lrorder_long g1 g2 g3 F1 F2 F3 (long_yes _ ⟨_, List.mem_cons_of_mem _ (List.mem_cons_of_mem _ (List.mem_cons_self ..)), h3⟩)
    · exact lrorder_long g1 g2 g3 F1 F2 F3 (long_yes _ ⟨_, List.mem_cons_of_mem _ (List.mem_cons_self ..), h2⟩)
  · exact lrorder_long g1 g2 g3 F1 F2 F3 (long_yes _ ⟨_, List.mem_cons_self .., h1⟩)
end Go.Proofs.Ytblmkddjlfienaa

