/-
  Joined: RatV RatQ RatZ RatKn RFieldA RFieldB RField.
-/
import Derived.Test.YtblmkddjlfienaaGreatJRatN
/-
  The words of the statements on lists of fractions: good, long.
-/
namespace Go.Proofs.YtblmkddjlfienaaGreat
open Go.RowKit

/-- What good says of a list. -/
structure GoodIs (v : Bool) (rs : List RV) : Prop where
  out : v = true ↔ ∀ r ∈ rs, formR r.b r.xs r.ds = 0

set_option maxRecDepth 100000 in
set_option maxHeartbeats 2000000 in
/-- good: are these all fractions? -/
theorem lrgood_any {sv : Option Addr} {cap : Nat} {rs : List RV} {w : World} (R : Row 0 w sv rs) (hrl : rs.length ≤ 1000) (hlen : ∀ r ∈ rs, r.xs.length ≤ 1000 ∧ r.ds.length ≤ 1000) (v : Bool) (hv : GoodIs v rs) :
    Calls Tryz.prog 39 #[.slice sv rs.length cap] w fun e w' => e = .returned (.bool v) ∧ Below w.heap.size w w' := by
  go_enter Tryz.func39, Tryz.ntmps39
  go_wp2
  go_loopw [3] (fun iv wr => ∃ (i : Nat), iv = .int .i64 i ∧ i ≤ rs.length ∧ Row 0 wr sv rs ∧ Below w.heap.size w wr ∧ Hid (∀ r ∈ rs.take i, formR r.b r.xs r.ds = 0)) (fun iv _ => rs.length - (intOf iv).toNat)
  case atStart => exact ⟨0, rfl, Nat.zero_le _, R, Below.refl _ _, by rw [Hid]; simp⟩
  case round =>
    clear R
    obtain ⟨i, rfl, hi, R, hB, HG⟩ := hrel
    have hw1 : IntKind.i64.wrap ((i : Int) + 1) = (i : Int) + 1 := by rw [IntKind.wrap_i64]; omega
    by_cases hlt : i < rs.length
    · have hlt2 : (i : Int) < (rs.length : Int) := by omega
      have hge : ¬ (i : Int) < 0 := by omega
      obtain ⟨g, o, rfl, hg⟩ := R.at_ i hlt
      obtain ⟨r, hr0⟩ : ∃ r, rs[i]? = some r := ⟨rs[i], List.getElem?_eq_getElem hlt⟩
      have hr := hide hr0
      have F1 := R.held i r hr0
      clear hr0
      have hlr := hlen r (List.mem_of_getElem? hr.out)
      have hcc := R.cells g o i r rfl hr.out
      have c0 := hcc.1
      have c1 := hcc.2.1
      have c2 := hcc.2.2
      have hk := pcheck_any r.b F1 (by omega) (by omega)
      have hms : rs.length - (i + 1) < rs.length - i := by omega
      clear hcc
      rcases formR_or r.b r.xs r.ds with h | h
      · rw [h] at hk
        have H := hide h
        clear h
        go_wp2_with fail
        refine hk.mono ?_
        rintro e w1 ⟨rfl, hb1⟩
        have R1 := R.below hb1
        have hB1 := hB.trans (hb1.mono hB.size)
        clear hk c0 c1 c2
        go_wp2
        refine ⟨⟨i + 1, by simp, by omega, R1, hB1, ?_⟩, by simpa [intOf] using hms⟩
        rw [Hid]
        intro s hs
        rw [List.take_add_one, hr.out] at hs
        simp only [Option.toList_some, List.mem_append, List.mem_singleton] at hs
        rcases hs with hs | rfl
        · exact HG.out s hs
        · exact H.out
      · rw [h] at hk
        obtain rfl : v = false := by
          cases v
          · rfl
          · have := hv.out.1 rfl r (List.mem_of_getElem? hr.out)
            rw [h] at this
            exact absurd this (by decide)
        clear h
        go_wp2_with fail
        refine hk.mono ?_
        rintro e w1 ⟨rfl, hb1⟩
        have hB1 := hB.trans (hb1.mono hB.size)
        clear hk c0 c1 c2
        go_wp2
        go_ret
        exact ⟨rfl, hB1⟩
    · have hnl : ¬ (i : Int) < (rs.length : Int) := by omega
      obtain rfl : v = true := hv.out.2 (by have := HG.out; rw [List.take_of_length_le (by omega)] at this; exact this)
      go_wp2
      go_ret
      exact ⟨rfl, hB⟩

def longB (r : RV) : Bool := decide ((5 : Int) < (r.xs.length : Int) ∨ (5 : Int) < (r.ds.length : Int))
/-- What long says of a list. -/
structure LongIs (v : Bool) (rs : List RV) : Prop where
  out : v = true ↔ 6 < rs.length ∨ ∃ r ∈ rs.take 7, longB r = true

set_option maxRecDepth 100000 in
set_option maxHeartbeats 2000000 in
/-- long: are fractions more than are gone through? -/
theorem lrlong_any {sv : Option Addr} {cap : Nat} {rs : List RV} {w : World} (R : Row 0 w sv rs) (v : Bool) (hv : LongIs v rs) :
    Calls Tryz.prog 7 #[.slice sv rs.length cap] w fun e w' => e = .returned (.bool v) ∧ Below w.heap.size w w' := by
  go_enter Tryz.func7, Tryz.ntmps7
  go_wp2
  go_loopw [3] (fun iv wr => ∃ (i : Nat), iv = .int .i64 i ∧ i ≤ rs.length ∧ i ≤ 7 ∧ Row 0 wr sv rs ∧ Below w.heap.size w wr ∧ Hid (∀ r ∈ rs.take i, longB r = false)) (fun iv _ => rs.length - (intOf iv).toNat)
  case atStart => exact ⟨0, rfl, Nat.zero_le _, by omega, R, Below.refl _ _, by rw [Hid]; simp⟩
  case round =>
    clear R
    obtain ⟨i, rfl, hi, hi7, R, hB, HG⟩ := hrel
    have hw1 : IntKind.i64.wrap ((i : Int) + 1) = (i : Int) + 1 := by rw [IntKind.wrap_i64]; omega
    by_cases hlt : i < rs.length
    · have hlt2 : (i : Int) < (rs.length : Int) := by omega
      have hge : ¬ (i : Int) < 0 := by omega
      by_cases h7 : i < 7
      · have h72 : (i : Int) < 7 := by omega
        obtain ⟨g, o, rfl, hg⟩ := R.at_ i hlt
        obtain ⟨r, hr0⟩ : ∃ r, rs[i]? = some r := ⟨rs[i], List.getElem?_eq_getElem hlt⟩
        have hr := hide hr0
        clear hr0
        have hcc := R.cells g o i r rfl hr.out
        have c0 := hcc.1
        have c1 := hcc.2.1
        have c2 := hcc.2.2
        have hk := fun w => longr_any r.b r.a r.xs r.ca r.c r.ds r.cc 5 w
        have hms : rs.length - (i + 1) < rs.length - i := by omega
        have hmem : r ∈ rs.take 7 := by
          refine List.mem_iff_getElem?.2 ⟨i, ?_⟩
          rw [List.getElem?_take_of_lt h7]
          exact hr.out
        have HM := hide hmem
        clear hcc hmem
        obtain ⟨x, hx⟩ : ∃ x, decide ((5 : Int) < (r.xs.length : Int) ∨ (5 : Int) < (r.ds.length : Int)) = x := ⟨_, rfl⟩
        rw [hx] at hk
        have HX : Hid (longB r = x) := hx
        clear hx
        cases x with
        | false =>
          go_wp2_with fail
          refine (hk _).mono ?_
          rintro e w1 ⟨rfl, hb1⟩
          have R1 := R.below hb1
          have hB1 := hB.trans (hb1.mono hB.size)
          clear hk c0 c1 c2
          go_wp2
          refine ⟨⟨i + 1, by simp, by omega, by omega, R1, hB1, ?_⟩, by simpa [intOf] using hms⟩
          rw [Hid]
          intro s hs
          rw [List.take_add_one, hr.out] at hs
          simp only [Option.toList_some, List.mem_append, List.mem_singleton] at hs
          rcases hs with hs | rfl
          · exact HG.out s hs
          · exact HX.out
        | true =>
          obtain rfl : v = true := hv.out.2 (Or.inr ⟨r, HM.out, HX.out⟩)
          go_wp2_with fail
          refine (hk _).mono ?_
          rintro e w1 ⟨rfl, hb1⟩
          have hB1 := hB.trans (hb1.mono hB.size)
          clear hk c0 c1 c2
          go_wp2
          go_ret
          exact ⟨rfl, hB1⟩
      · have h72 : ¬ (i : Int) < 7 := by omega
        have h6 : (6 : Int) < (rs.length : Int) := by omega
        obtain rfl : v = true := hv.out.2 (Or.inl (by omega))
        go_wp2
        go_ret
        exact ⟨rfl, hB⟩
    · have hnl : ¬ (i : Int) < (rs.length : Int) := by omega
      by_cases h6 : 6 < rs.length
      · have h62 : (6 : Int) < (rs.length : Int) := by omega
        obtain rfl : v = true := hv.out.2 (Or.inl h6)
        go_wp2
        go_ret
        exact ⟨rfl, hB⟩
      · have h62 : ¬ (6 : Int) < (rs.length : Int) := by omega
        obtain rfl : v = false := by
          cases v
          · rfl
          · rcases hv.out.1 rfl with h | ⟨r, hr, hl⟩
            · exact absurd h h6
            · have h0 := HG.out
              rw [List.take_of_length_le (by omega)] at h0 hr
              rw [h0 r hr] at hl
              cases hl
        go_wp2
        go_ret
        exact ⟨rfl, hB⟩
end Go.Proofs.YtblmkddjlfienaaGreat

/-
  Long and good lists of fractions.
-/
namespace Go.Proofs.YtblmkddjlfienaaGreat
open Go.RowKit

theorem long_no (rs : List RV) (h6 : rs.length ≤ 6) (h : ∀ r ∈ rs, r.xs.length ≤ 5 ∧ r.ds.length ≤ 5) : LongIs false rs := by
  refine ⟨⟨(fun h => by cases h), ?_⟩⟩
  rintro (h1 | ⟨r, hr, hl⟩)
  · omega
  · have := h r (List.mem_of_mem_take hr)
    simp [longB] at hl
    omega
theorem long_yes (rs : List RV) (h : ∃ r ∈ rs.take 7, ¬ (r.xs.length ≤ 5 ∧ r.ds.length ≤ 5)) : LongIs true rs := by
  refine ⟨⟨fun _ => ?_, fun _ => rfl⟩⟩
  obtain ⟨r, hr, hl⟩ := h
  refine Or.inr ⟨r, hr, ?_⟩
  simp [longB]
  omega
theorem good_yes (rs : List RV) (h : ∀ r ∈ rs, formR r.b r.xs r.ds = 0) : GoodIs true rs := ⟨⟨fun _ => h, fun _ => rfl⟩⟩
theorem good_no (rs : List RV) (h : ¬ ∀ r ∈ rs, formR r.b r.xs r.ds = 0) : GoodIs false rs := ⟨⟨(fun h => by cases h), fun h' => absurd h' h⟩⟩

end Go.Proofs.YtblmkddjlfienaaGreat

/-
  awake: some of the chapter's examples.
-/
namespace Go.Proofs.YtblmkddjlfienaaGreat
open Go.RowKit

set_option maxRecDepth 100000 in
set_option maxHeartbeats 4000000 in
theorem lrawake_any (w : World) : Calls Tryz.prog 8 #[] w fun e w' => e = .returned (.bool true) ∧ Below w.heap.size w w' := by
  have hB := Below.refl w.heap.size w
  go_enter Tryz.func8, Tryz.ntmps8
  go_wp2_with fail
  refine (ppair_neg 6 (-4) (by decide) (by decide) (by decide) _).mono ?_
  rintro e w1 ⟨g1, a1, c1, x1, e1, t1, y1, rfl, F1, P1, I1, hb⟩
  replace I1 : Is g1 x1 y1 (Rat.divInt (-3) 2) (1) := I1.to (by decide +kernel)
  replace hB := hB.trans (hb.mono hB.size)
  have zz1 := hb.size
  have zh1 := hB.size
  clear hb
  have hA := Below.refl w1.heap.size w1
  have hq : Below w1.heap.size w1 (w1.alloc (.cells #[.bool g1, .slice a1 x1.length c1, .slice e1 y1.length t1] 30)) := (Below.refl _ _).alloc (Nat.le_refl _) _
  replace F1 := F1.below hq
  have E1 : Box (w1.alloc (.cells #[.bool g1, .slice a1 x1.length c1, .slice e1 y1.length t1] 30)) (w1.heap.size) (.cells #[.bool g1, .slice a1 x1.length c1, .slice e1 y1.length t1] 30) := Box.put (.cells #[.bool g1, .slice a1 x1.length c1, .slice e1 y1.length t1] 30) rfl
  replace hA := hA.trans (hq.mono hA.size)
  replace hB := hB.trans (hq.mono hB.size)
  clear hq
  clear hA
  go_wp2_with fail
  obtain ⟨u2, hname⟩ : ∃ u, (w1.alloc (.cells #[.bool g1, .slice a1 x1.length c1, .slice e1 y1.length t1] 30)) = u := ⟨_, rfl⟩
  rw [hname] at hB F1 E1 ⊢
  have zh2 := hB.size
  clear hname
  refine (lrof_any (1) 2 (by decide) (by decide) _).mono ?_
  rintro e w3 ⟨g2, a2, c2, x2, e2, t2, y2, rfl, F2, P2, N2, M2, V2, U2, b2, B2, hb⟩
  have I2 := of_is N2 M2 V2 U2 b2 B2 (by decide) (by decide)
  clear P2
  replace F1 := F1.below hb
  replace E1 := E1.below hb
  replace hB := hB.trans (hb.mono hB.size)
  have zz3 := hb.size
  have zh3 := hB.size
  clear hb
  go_wp2_with fail
  refine (lrof_any (1) 3 (by decide) (by decide) _).mono ?_
  rintro e w4 ⟨g3, a3, c3, x3, e3, t3, y3, rfl, F3, P3, N3, M3, V3, U3, b3, B3, hb⟩
  have I3 := of_is N3 M3 V3 U3 b3 B3 (by decide) (by decide)
  clear P3
  replace F1 := F1.below hb
  replace E1 := E1.below hb
  replace F2 := F2.below hb
  replace hB := hB.trans (hb.mono hB.size)
  have zz4 := hb.size
  have zh4 := hB.size
  clear hb
  go_wp2_with fail
  refine (lrof_any (1) 6 (by decide) (by decide) _).mono ?_
  rintro e w5 ⟨g4, a4, c4, x4, e4, t4, y4, rfl, F4, P4, N4, M4, V4, U4, b4, B4, hb⟩
  have I4 := of_is N4 M4 V4 U4 b4 B4 (by decide) (by decide)
  clear P4
  replace F1 := F1.below hb
  replace E1 := E1.below hb
  replace F2 := F2.below hb
  replace F3 := F3.below hb
  replace hB := hB.trans (hb.mono hB.size)
  have zz5 := hb.size
  have zh5 := hB.size
  clear hb
  have qE1 := E1.lt
  have hA := Below.refl w5.heap.size w5
  have hq : Below w5.heap.size w5 (w5.alloc (.cells #[.bool g2, .slice a2 x2.length c2, .slice e2 y2.length t2, .bool g3, .slice a3 x3.length c3, .slice e3 y3.length t3, .bool g4, .slice a4 x4.length c4, .slice e4 y4.length t4] 30)) := (Below.refl _ _).alloc (Nat.le_refl _) _
  replace F1 := F1.below hq
  replace E1 := E1.below hq
  replace F2 := F2.below hq
  replace F3 := F3.below hq
  replace F4 := F4.below hq
  have L5 : Box (w5.alloc (.cells #[.bool g2, .slice a2 x2.length c2, .slice e2 y2.length t2, .bool g3, .slice a3 x3.length c3, .slice e3 y3.length t3, .bool g4, .slice a4 x4.length c4, .slice e4 y4.length t4] 30)) (w5.heap.size) (.cells #[.bool g2, .slice a2 x2.length c2, .slice e2 y2.length t2, .bool g3, .slice a3 x3.length c3, .slice e3 y3.length t3, .bool g4, .slice a4 x4.length c4, .slice e4 y4.length t4] 30) := Box.put (.cells #[.bool g2, .slice a2 x2.length c2, .slice e2 y2.length t2, .bool g3, .slice a3 x3.length c3, .slice e3 y3.length t3, .bool g4, .slice a4 x4.length c4, .slice e4 y4.length t4] 30) rfl
  replace hA := hA.trans (hq.mono hA.size)
  replace hB := hB.trans (hq.mono hB.size)
  clear hq
  clear hA
  go_wp2_with fail
  obtain ⟨u6, hname⟩ : ∃ u, (w5.alloc (.cells #[.bool g2, .slice a2 x2.length c2, .slice e2 y2.length t2, .bool g3, .slice a3 x3.length c3, .slice e3 y3.length t3, .bool g4, .slice a4 x4.length c4, .slice e4 y4.length t4] 30)) = u := ⟨_, rfl⟩
  rw [hname] at hB F1 E1 F2 F3 F4 L5 ⊢
  have zh6 := hB.size
  clear hname
  have R := row_box (rs := [⟨g2, a2, c2, x2, e2, t2, y2⟩, ⟨g3, a3, c3, x3, e3, t3, y3⟩, ⟨g4, a4, c4, x4, e4, t4, y4⟩]) (k := w5.heap.size) L5 (fun r hr => by
      simp only [List.mem_cons, List.not_mem_nil, or_false] at hr
      rcases hr with rfl | rfl | rfl
      · exact F2.mono (Nat.zero_le _)
      · exact F3.mono (Nat.zero_le _)
      · exact F4.mono (Nat.zero_le _))
  have hlen : ∀ r ∈ ([⟨g2, a2, c2, x2, e2, t2, y2⟩, ⟨g3, a3, c3, x3, e3, t3, y3⟩, ⟨g4, a4, c4, x4, e4, t4, y4⟩] : List RV), r.xs.length ≤ 1 ∧ r.ds.length ≤ 1 := fun r hr => by
      simp only [List.mem_cons, List.not_mem_nil, or_false] at hr
      rcases hr with rfl | rfl | rfl
      · exact ⟨Nat.le_trans I2.lu (by decide), Nat.le_trans I2.ld (by decide)⟩
      · exact ⟨Nat.le_trans I3.lu (by decide), Nat.le_trans I3.ld (by decide)⟩
      · exact ⟨Nat.le_trans I4.lu (by decide), Nat.le_trans I4.ld (by decide)⟩
  have hg : ∀ r ∈ ([⟨g2, a2, c2, x2, e2, t2, y2⟩, ⟨g3, a3, c3, x3, e3, t3, y3⟩, ⟨g4, a4, c4, x4, e4, t4, y4⟩] : List RV), formR r.b r.xs r.ds = 0 := fun r hr => by
      simp only [List.mem_cons, List.not_mem_nil, or_false] at hr
      rcases hr with rfl | rfl | rfl
      · exact I2.good F2.up.words F2.down.words
      · exact I3.good F3.up.words F3.down.words
      · exact I4.good F4.up.words F4.down.words
  refine (padd_ok (cap := 3) R (by simp) hlen (by omega) hg).mono ?_
  rintro e w7 ⟨g6, a6, c6, x6, e6, t6, y6, rfl, F6, P6, I6, hb⟩
  replace I6 : Is g6 x6 y6 (Rat.divInt 1 1) (7) := (I6.mono (by simp)).to (by simp only [sumQ, RV.q, List.foldl, I2.rat, I3.rat, I4.rat]; decide +kernel)
  replace F1 := F1.below hb
  replace E1 := E1.below hb
  replace F2 := F2.below hb
  replace F3 := F3.below hb
  replace F4 := F4.below hb
  replace L5 := L5.below hb
  replace hB := hB.trans (hb.mono hB.size)
  have zz7 := hb.size
  have zh7 := hB.size
  clear hb
  clear R hlen hg
  clear L5
  have qE1 := E1.lt
  have hA := Below.refl w7.heap.size w7
  have hq : Below w7.heap.size w7 (w7.alloc (.cells #[.bool g6, .slice a6 x6.length c6, .slice e6 y6.length t6] 30)) := (Below.refl _ _).alloc (Nat.le_refl _) _
  replace F1 := F1.below hq
  replace E1 := E1.below hq
  replace F2 := F2.below hq
  replace F3 := F3.below hq
  replace F4 := F4.below hq
  replace F6 := F6.below hq
  have E6 : Box (w7.alloc (.cells #[.bool g6, .slice a6 x6.length c6, .slice e6 y6.length t6] 30)) (w7.heap.size) (.cells #[.bool g6, .slice a6 x6.length c6, .slice e6 y6.length t6] 30) := Box.put (.cells #[.bool g6, .slice a6 x6.length c6, .slice e6 y6.length t6] 30) rfl
  replace hA := hA.trans (hq.mono hA.size)
  replace hB := hB.trans (hq.mono hB.size)
  clear hq
  clear hA
  go_wp2_with fail
  obtain ⟨u8, hname⟩ : ∃ u, (w7.alloc (.cells #[.bool g6, .slice a6 x6.length c6, .slice e6 y6.length t6] 30)) = u := ⟨_, rfl⟩
  rw [hname] at hB F1 E1 F2 F3 F4 F6 E6 ⊢
  have zh8 := hB.size
  clear hname
  refine (lrof_any (2) 3 (by decide) (by decide) _).mono ?_
  rintro e w9 ⟨g7, a7, c7, x7, e7, t7, y7, rfl, F7, P7, N7, M7, V7, U7, b7, B7, hb⟩
  have I7 := of_is N7 M7 V7 U7 b7 B7 (by decide) (by decide)
  clear P7
  replace F1 := F1.below hb
  replace E1 := E1.below hb
  replace F2 := F2.below hb
  replace F3 := F3.below hb
  replace F4 := F4.below hb
  replace F6 := F6.below hb
  replace E6 := E6.below hb
  replace hB := hB.trans (hb.mono hB.size)
  have zz9 := hb.size
  have zh9 := hB.size
  clear hb
  go_wp2_with fail
  refine (lrof_any (3) 4 (by decide) (by decide) _).mono ?_
  rintro e w10 ⟨g8, a8, c8, x8, e8, t8, y8, rfl, F8, P8, N8, M8, V8, U8, b8, B8, hb⟩
  have I8 := of_is N8 M8 V8 U8 b8 B8 (by decide) (by decide)
  clear P8
  replace F1 := F1.below hb
  replace E1 := E1.below hb
  replace F2 := F2.below hb
  replace F3 := F3.below hb
  replace F4 := F4.below hb
  replace F6 := F6.below hb
  replace E6 := E6.below hb
  replace F7 := F7.below hb
  replace hB := hB.trans (hb.mono hB.size)
  have zz10 := hb.size
  have zh10 := hB.size
  clear hb
  clear F2 F3 F4
  have qE1 := E1.lt
  have qE6 := E6.lt
  have hA := Below.refl w10.heap.size w10
  have hq : Below w10.heap.size w10 (w10.alloc (.cells #[.bool g7, .slice a7 x7.length c7, .slice e7 y7.length t7, .bool g8, .slice a8 x8.length c8, .slice e8 y8.length t8] 30)) := (Below.refl _ _).alloc (Nat.le_refl _) _
  replace F1 := F1.below hq
  replace E1 := E1.below hq
  replace F6 := F6.below hq
  replace E6 := E6.below hq
  replace F7 := F7.below hq
  replace F8 := F8.below hq
  have L9 : Box (w10.alloc (.cells #[.bool g7, .slice a7 x7.length c7, .slice e7 y7.length t7, .bool g8, .slice a8 x8.length c8, .slice e8 y8.length t8] 30)) (w10.heap.size) (.cells #[.bool g7, .slice a7 x7.length c7, .slice e7 y7.length t7, .bool g8, .slice a8 x8.length c8, .slice e8 y8.length t8] 30) := Box.put (.cells #[.bool g7, .slice a7 x7.length c7, .slice e7 y7.length t7, .bool g8, .slice a8 x8.length c8, .slice e8 y8.length t8] 30) rfl
  replace hA := hA.trans (hq.mono hA.size)
  replace hB := hB.trans (hq.mono hB.size)
  clear hq
  clear hA
  go_wp2_with fail
  obtain ⟨u11, hname⟩ : ∃ u, (w10.alloc (.cells #[.bool g7, .slice a7 x7.length c7, .slice e7 y7.length t7, .bool g8, .slice a8 x8.length c8, .slice e8 y8.length t8] 30)) = u := ⟨_, rfl⟩
  rw [hname] at hB F1 E1 F6 E6 F7 F8 L9 ⊢
  have zh11 := hB.size
  clear hname
  have R := row_box (rs := [⟨g7, a7, c7, x7, e7, t7, y7⟩, ⟨g8, a8, c8, x8, e8, t8, y8⟩]) (k := w10.heap.size) L9 (fun r hr => by
      simp only [List.mem_cons, List.not_mem_nil, or_false] at hr
      rcases hr with rfl | rfl
      · exact F7.mono (Nat.zero_le _)
      · exact F8.mono (Nat.zero_le _))
  have hlen : ∀ r ∈ ([⟨g7, a7, c7, x7, e7, t7, y7⟩, ⟨g8, a8, c8, x8, e8, t8, y8⟩] : List RV), r.xs.length ≤ 1 ∧ r.ds.length ≤ 1 := fun r hr => by
      simp only [List.mem_cons, List.not_mem_nil, or_false] at hr
      rcases hr with rfl | rfl
      · exact ⟨Nat.le_trans I7.lu (by decide), Nat.le_trans I7.ld (by decide)⟩
      · exact ⟨Nat.le_trans I8.lu (by decide), Nat.le_trans I8.ld (by decide)⟩
  have hg : ∀ r ∈ ([⟨g7, a7, c7, x7, e7, t7, y7⟩, ⟨g8, a8, c8, x8, e8, t8, y8⟩] : List RV), formR r.b r.xs r.ds = 0 := fun r hr => by
      simp only [List.mem_cons, List.not_mem_nil, or_false] at hr
      rcases hr with rfl | rfl
      · exact I7.good F7.up.words F7.down.words
      · exact I8.good F8.up.words F8.down.words
  refine (pmul_ok (cap := 2) R (by simp) hlen (by omega) hg).mono ?_
  rintro e w12 ⟨g10, a10, c10, x10, e10, t10, y10, rfl, F10, P10, I10, hb⟩
  replace I10 : Is g10 x10 y10 (Rat.divInt 1 2) (5) := (I10.mono (by simp)).to (by simp only [mulQ, RV.q, List.foldl, I7.rat, I8.rat]; decide +kernel)
  replace F1 := F1.below hb
  replace E1 := E1.below hb
  replace F6 := F6.below hb
  replace E6 := E6.below hb
  replace F7 := F7.below hb
  replace F8 := F8.below hb
  replace L9 := L9.below hb
  replace hB := hB.trans (hb.mono hB.size)
  have zz12 := hb.size
  have zh12 := hB.size
  clear hb
  clear R hlen hg
  clear L9
  obtain ⟨k0, k1, k2, f0, f1, f2⟩ := E1.three
  have qE1 := E1.lt
  have qE6 := E6.lt
  have hA := Below.refl w12.heap.size w12
  have hq : Below w12.heap.size w12 (w12.alloc (.cells #[.bool g10, .slice a10 x10.length c10, .slice e10 y10.length t10] 30)) := (Below.refl _ _).alloc (Nat.le_refl _) _
  replace F1 := F1.below hq
  replace E1 := E1.below hq
  replace F6 := F6.below hq
  replace E6 := E6.below hq
  replace F7 := F7.below hq
  replace F8 := F8.below hq
  replace F10 := F10.below hq
  have E10 : Box (w12.alloc (.cells #[.bool g10, .slice a10 x10.length c10, .slice e10 y10.length t10] 30)) (w12.heap.size) (.cells #[.bool g10, .slice a10 x10.length c10, .slice e10 y10.length t10] 30) := Box.put (.cells #[.bool g10, .slice a10 x10.length c10, .slice e10 y10.length t10] 30) rfl
  replace hA := hA.trans (hq.mono hA.size)
  replace hB := hB.trans (hq.mono hB.size)
  clear hq
  clear hA
  go_wp2_with fail
  clear k0 k1 k2 f0 f1 f2
  obtain ⟨u13, hname⟩ : ∃ u, (w12.alloc (.cells #[.bool g10, .slice a10 x10.length c10, .slice e10 y10.length t10] 30)) = u := ⟨_, rfl⟩
  rw [hname] at hB F1 E1 F6 E6 F7 F8 F10 E10 ⊢
  have zh13 := hB.size
  clear hname
  refine (lris_yes g1 F1 (-3) 2 (by decide) (by decide) (by decide) I1 (by decide)).mono ?_
  rintro e w14 ⟨rfl, hb⟩
  replace F1 := F1.below hb
  replace E1 := E1.below hb
  replace F6 := F6.below hb
  replace E6 := E6.below hb
  replace F7 := F7.below hb
  replace F8 := F8.below hb
  replace F10 := F10.below hb
  replace E10 := E10.below hb
  replace hB := hB.trans (hb.mono hB.size)
  have zz14 := hb.size
  have zh14 := hB.size
  clear hb
  clear E1 F1
  clear F7 F8
  obtain ⟨k0, k1, k2, f0, f1, f2⟩ := E6.three
  go_wp2_with fail
  clear k0 k1 k2 f0 f1 f2
  refine (lris_yes g6 F6 (1) 1 (by decide) (by decide) (by decide) I6 (by decide)).mono ?_
  rintro e w15 ⟨rfl, hb⟩
  replace F6 := F6.below hb
  replace E6 := E6.below hb
  replace F10 := F10.below hb
  replace E10 := E10.below hb
  replace hB := hB.trans (hb.mono hB.size)
  have zz15 := hb.size
  have zh15 := hB.size
  clear hb
  clear E6 F6
  obtain ⟨k0, k1, k2, f0, f1, f2⟩ := E10.three
  go_wp2_with fail
  clear k0 k1 k2 f0 f1 f2
  refine (lris_yes g10 F10 (1) 2 (by decide) (by decide) (by decide) I10 (by decide)).mono ?_
  rintro e w16 ⟨rfl, hb⟩
  replace F10 := F10.below hb
  replace E10 := E10.below hb
  replace hB := hB.trans (hb.mono hB.size)
  have zz16 := hb.size
  have zh16 := hB.size
  clear hb
  clear E10 F10
  go_wp2_with fail
  refine (lrof_any (2) 4 (by decide) (by decide) _).mono ?_
  rintro e w17 ⟨g11, a11, c11, x11, e11, t11, y11, rfl, F11, P11, N11, M11, V11, U11, b11, B11, hb⟩
  have I11 := of_none F11.up.words F11.down.words V11 U11 (by decide)
  clear P11
  replace hB := hB.trans (hb.mono hB.size)
  have zz17 := hb.size
  have zh17 := hB.size
  clear hb
  go_wp2_with fail
  have hk := pcheck_any g11 F11 (by omega) (by omega)
  rw [I11] at hk
  refine (hk).mono ?_
  rintro e w18 ⟨rfl, hb⟩
  replace F11 := F11.below hb
  replace hB := hB.trans (hb.mono hB.size)
  have zz18 := hb.size
  have zh18 := hB.size
  clear hb
  clear hk
  go_wp2
  go_ret
  exact ⟨rfl, hB⟩
end Go.Proofs.YtblmkddjlfienaaGreat

/-
  The walk of RatioKnown.
-/
namespace Go.Proofs.YtblmkddjlfienaaGreat
open Go.RowKit

theorem row_nil (w : World) : Row 0 w none [] := ⟨fun j hj => absurd hj (by simp), (fun g o j r e _ => by cases e), (fun j r hr => by simp at hr)⟩
theorem seg_box {W : World} {k : Nat} {cs : Array Value} {t : TypeId} (E : Box W k (.cells cs t (0, 0))) (zs : List Int) (hw : Words zs) (h : cs = (zs.map (Value.int .u64)).toArray) : Seg k W (.slice (some ⟨k, 0, none⟩) zs.length zs.length) zs := by
  subst h
  refine ⟨hw, _, _, rfl, Nat.le_refl _, fun _ => ⟨k, 0, rfl, Nat.le_refl _, E.lt, fun j hj => ?_, fun j hj => frozen_of_heap E.what _⟩⟩
  rw [cell_of_heap E.what]
  simp [hj]
/-- A fraction rounded. -/
def roundS (x d : Int) : Int := if x < 0 then -roundN (-x) d else roundN x d
theorem round_of {g : Bool} {xs ds : List Int} {x d v : Int} (N : Canon g xs) (wx : Words xs) (V : Hid (sgn g (val xs) = x)) (U : Hid (val ds = d)) (h : roundS x d = v) : Hid (sgn g (roundN (val xs) (val ds)) = v) := by
  rw [Hid, ← h, U.out, roundS]
  have hv := V.out
  have hp := val_nonneg wx
  cases g with
  | false =>
    simp [sgn] at hv
    subst hv
    rw [if_neg (by omega)]
    rfl
  | true =>
    have := norm_pos wx N.1 (N.2 rfl)
    simp [sgn] at hv
    subst hv
    rw [if_pos (by omega), Int.neg_neg]
    rfl

set_option maxRecDepth 100000 in
set_option maxHeartbeats 4000000 in
theorem lrknown_any (w : World) : Calls Tryz.prog 38 #[] w fun e w' => e = .returned (.bool true) ∧ Below w.heap.size w w' := by
  have hB := Below.refl w.heap.size w
  have hfd : ∀ (b : Bool) (s t : Value) (w : World), (Instr.field 30 (.agg #[.bool b, s, t]) 0).run Tryz.prog w = .ok (.agg #[.bool b, s]) w := fun _ _ _ _ => by kernel_rfl
  go_enter Tryz.func38, Tryz.ntmps38
  go_wp2_with fail
  refine (ppair_pos 0 7 (by decide) (by decide) (by decide) _).mono ?_
  rintro e w1 ⟨g1, a1, c1, x1, e1, t1, y1, rfl, F1, P1, I1, hb⟩
  replace I1 : Is g1 x1 y1 (Rat.divInt 0 1) (1) := I1.to (by decide +kernel)
  replace hB := hB.trans (hb.mono hB.size)
  have zz1 := hb.size
  have zh1 := hB.size
  clear hb
  have hA := Below.refl w1.heap.size w1
  have hq : Below w1.heap.size w1 (w1.alloc (.cells #[.bool g1, .slice a1 x1.length c1, .slice e1 y1.length t1] 30)) := (Below.refl _ _).alloc (Nat.le_refl _) _
  replace F1 := F1.below hq
  have E1 : Box (w1.alloc (.cells #[.bool g1, .slice a1 x1.length c1, .slice e1 y1.length t1] 30)) (w1.heap.size) (.cells #[.bool g1, .slice a1 x1.length c1, .slice e1 y1.length t1] 30) := Box.put (.cells #[.bool g1, .slice a1 x1.length c1, .slice e1 y1.length t1] 30) rfl
  replace hA := hA.trans (hq.mono hA.size)
  replace hB := hB.trans (hq.mono hB.size)
  clear hq
  clear hA
  go_wp2_with fail
  obtain ⟨u2, hname⟩ : ∃ u, (w1.alloc (.cells #[.bool g1, .slice a1 x1.length c1, .slice e1 y1.length t1] 30)) = u := ⟨_, rfl⟩
  rw [hname] at hB F1 E1 ⊢
  have zh2 := hB.size
  clear hname
  refine (ppair_zero 1 0 (by decide) (by decide) rfl _).mono ?_
  rintro e w3 ⟨rfl, hb⟩
  replace F1 := F1.below hb
  replace E1 := E1.below hb
  replace hB := hB.trans (hb.mono hB.size)
  have zz3 := hb.size
  have zh3 := hB.size
  clear hb
  have qE1 := E1.lt
  have hA := Below.refl w3.heap.size w3
  have hq : Below w3.heap.size w3 (w3.alloc (.cells #[.bool false, .slice none 0 0, .slice none 0 0] 30)) := (Below.refl _ _).alloc (Nat.le_refl _) _
  replace F1 := F1.below hq
  replace E1 := E1.below hq
  have Z2 : Box (w3.alloc (.cells #[.bool false, .slice none 0 0, .slice none 0 0] 30)) (w3.heap.size) (.cells #[.bool false, .slice none 0 0, .slice none 0 0] 30) := Box.put (.cells #[.bool false, .slice none 0 0, .slice none 0 0] 30) rfl
  replace hA := hA.trans (hq.mono hA.size)
  replace hB := hB.trans (hq.mono hB.size)
  clear hq
  clear hA
  go_wp2_with fail
  obtain ⟨u4, hname⟩ : ∃ u, (w3.alloc (.cells #[.bool false, .slice none 0 0, .slice none 0 0] 30)) = u := ⟨_, rfl⟩
  rw [hname] at hB F1 E1 Z2 ⊢
  have zh4 := hB.size
  clear hname
  refine (lrof_any (-4) 1 (by decide) (by decide) _).mono ?_
  rintro e w5 ⟨g3, a3, c3, x3, e3, t3, y3, rfl, F3, P3, N3, M3, V3, U3, b3, B3, hb⟩
  have I3 := of_is N3 M3 V3 U3 b3 B3 (by decide) (by decide)
  clear P3
  replace F1 := F1.below hb
  replace E1 := E1.below hb
  replace Z2 := Z2.below hb
  replace hB := hB.trans (hb.mono hB.size)
  have zz5 := hb.size
  have zh5 := hB.size
  clear hb
  have qE1 := E1.lt
  have hA := Below.refl w5.heap.size w5
  have hq : Below w5.heap.size w5 (w5.alloc (.cells #[.int .u64 6] 58)) := (Below.refl _ _).alloc (Nat.le_refl _) _
  replace F1 := F1.below hq
  replace E1 := E1.below hq
  replace Z2 := Z2.below hq
  replace F3 := F3.below hq
  have M6 : Box (w5.alloc (.cells #[.int .u64 6] 58)) (w5.heap.size) (.cells #[.int .u64 6] 58) := Box.put (.cells #[.int .u64 6] 58) rfl
  replace hA := hA.trans (hq.mono hA.size)
  replace hB := hB.trans (hq.mono hB.size)
  clear hq
  clear hA
  go_wp2_with fail
  obtain ⟨u6, hname⟩ : ∃ u, (w5.alloc (.cells #[.int .u64 6] 58)) = u := ⟨_, rfl⟩
  rw [hname] at hB F1 E1 Z2 F3 M6 ⊢
  have zh6 := hB.size
  clear hname
  have s6 : Seg (w5.heap.size) _ (.slice (some ⟨w5.heap.size, 0, none⟩) [6].length 1) [6] := seg_box M6 [6] (words_of rfl) rfl
  refine (pmake_ok (lo := 0) (n := 1) g3 ⟨F3.up.mono (Nat.zero_le _), s6.mono (Nat.zero_le _)⟩ (by omega) (by simp) ⟨by omega, by simp⟩ N3 (by decide)).mono ?_
  rintro e w7 ⟨g4, a4, c4, x4, e4, t4, y4, rfl, F4, P4, I4, hb⟩
  replace I4 : Is g4 x4 y4 (Rat.divInt (-2) 3) (1) := I4.to (by rw [V3.out]; decide +kernel)
  replace F1 := F1.below hb
  replace E1 := E1.below hb
  replace Z2 := Z2.below hb
  replace F3 := F3.below hb
  replace M6 := M6.below hb
  replace hB := hB.trans (hb.mono hB.size)
  have zz7 := hb.size
  have zh7 := hB.size
  clear hb
  clear s6
  clear M6
  clear F3
  have qE1 := E1.lt
  have hA := Below.refl w7.heap.size w7
  have hq : Below w7.heap.size w7 (w7.alloc (.cells #[.bool g4, .slice a4 x4.length c4, .slice e4 y4.length t4] 30)) := (Below.refl _ _).alloc (Nat.le_refl _) _
  replace F1 := F1.below hq
  replace E1 := E1.below hq
  replace Z2 := Z2.below hq
  replace F4 := F4.below hq
  have E4 : Box (w7.alloc (.cells #[.bool g4, .slice a4 x4.length c4, .slice e4 y4.length t4] 30)) (w7.heap.size) (.cells #[.bool g4, .slice a4 x4.length c4, .slice e4 y4.length t4] 30) := Box.put (.cells #[.bool g4, .slice a4 x4.length c4, .slice e4 y4.length t4] 30) rfl
  replace hA := hA.trans (hq.mono hA.size)
  replace hB := hB.trans (hq.mono hB.size)
  clear hq
  clear hA
  go_wp2_with fail
  obtain ⟨u8, hname⟩ : ∃ u, (w7.alloc (.cells #[.bool g4, .slice a4 x4.length c4, .slice e4 y4.length t4] 30)) = u := ⟨_, rfl⟩
  rw [hname] at hB F1 E1 Z2 F4 E4 ⊢
  have zh8 := hB.size
  clear hname
  refine (padd_ok (cap := 0) (m := 1) (row_nil _) (by simp) (fun r hr => by simp at hr) (by omega) (fun r hr => by simp at hr)).mono ?_
  rintro e w9 ⟨g5, a5, c5, x5, e5, t5, y5, rfl, F5, P5, I5, hb⟩
  replace I5 : Is g5 x5 y5 (Rat.divInt 0 1) (1) := (I5.mono (by simp)).to (by decide +kernel)
  replace F1 := F1.below hb
  replace E1 := E1.below hb
  replace Z2 := Z2.below hb
  replace F4 := F4.below hb
  replace E4 := E4.below hb
  replace hB := hB.trans (hb.mono hB.size)
  have zz9 := hb.size
  have zh9 := hB.size
  clear hb
  have qE1 := E1.lt
  have qE4 := E4.lt
  have hA := Below.refl w9.heap.size w9
  have hq : Below w9.heap.size w9 (w9.alloc (.cells #[.bool g5, .slice a5 x5.length c5, .slice e5 y5.length t5] 30)) := (Below.refl _ _).alloc (Nat.le_refl _) _
  replace F1 := F1.below hq
  replace E1 := E1.below hq
  replace Z2 := Z2.below hq
  replace F4 := F4.below hq
  replace E4 := E4.below hq
  replace F5 := F5.below hq
  have E5 : Box (w9.alloc (.cells #[.bool g5, .slice a5 x5.length c5, .slice e5 y5.length t5] 30)) (w9.heap.size) (.cells #[.bool g5, .slice a5 x5.length c5, .slice e5 y5.length t5] 30) := Box.put (.cells #[.bool g5, .slice a5 x5.length c5, .slice e5 y5.length t5] 30) rfl
  replace hA := hA.trans (hq.mono hA.size)
  replace hB := hB.trans (hq.mono hB.size)
  clear hq
  clear hA
  go_wp2_with fail
  obtain ⟨u10, hname⟩ : ∃ u, (w9.alloc (.cells #[.bool g5, .slice a5 x5.length c5, .slice e5 y5.length t5] 30)) = u := ⟨_, rfl⟩
  rw [hname] at hB F1 E1 Z2 F4 E4 F5 E5 ⊢
  have zh10 := hB.size
  clear hname
  refine (pmul_ok (cap := 0) (m := 1) (row_nil _) (by simp) (fun r hr => by simp at hr) (by omega) (fun r hr => by simp at hr)).mono ?_
  rintro e w11 ⟨g6, a6, c6, x6, e6, t6, y6, rfl, F6, P6, I6, hb⟩
  replace I6 : Is g6 x6 y6 (Rat.divInt 1 1) (1) := (I6.mono (by simp)).to (by decide +kernel)
  replace F1 := F1.below hb
  replace E1 := E1.below hb
  replace Z2 := Z2.below hb
  replace F4 := F4.below hb
  replace E4 := E4.below hb
  replace F5 := F5.below hb
  replace E5 := E5.below hb
  replace hB := hB.trans (hb.mono hB.size)
  have zz11 := hb.size
  have zh11 := hB.size
  clear hb
  have qE1 := E1.lt
  have qE4 := E4.lt
  have qE5 := E5.lt
  have hA := Below.refl w11.heap.size w11
  have hq : Below w11.heap.size w11 (w11.alloc (.cells #[.bool g6, .slice a6 x6.length c6, .slice e6 y6.length t6] 30)) := (Below.refl _ _).alloc (Nat.le_refl _) _
  replace F1 := F1.below hq
  replace E1 := E1.below hq
  replace Z2 := Z2.below hq
  replace F4 := F4.below hq
  replace E4 := E4.below hq
  replace F5 := F5.below hq
  replace E5 := E5.below hq
  replace F6 := F6.below hq
  have E6 : Box (w11.alloc (.cells #[.bool g6, .slice a6 x6.length c6, .slice e6 y6.length t6] 30)) (w11.heap.size) (.cells #[.bool g6, .slice a6 x6.length c6, .slice e6 y6.length t6] 30) := Box.put (.cells #[.bool g6, .slice a6 x6.length c6, .slice e6 y6.length t6] 30) rfl
  replace hA := hA.trans (hq.mono hA.size)
  replace hB := hB.trans (hq.mono hB.size)
  clear hq
  clear hA
  go_wp2_with fail
  obtain ⟨u12, hname⟩ : ∃ u, (w11.alloc (.cells #[.bool g6, .slice a6 x6.length c6, .slice e6 y6.length t6] 30)) = u := ⟨_, rfl⟩
  rw [hname] at hB F1 E1 Z2 F4 E4 F5 E5 F6 E6 ⊢
  have zh12 := hB.size
  clear hname
  refine (lrof_any (1) 2 (by decide) (by decide) _).mono ?_
  rintro e w13 ⟨g7, a7, c7, x7, e7, t7, y7, rfl, F7, P7, N7, M7, V7, U7, b7, B7, hb⟩
  have I7 := of_is N7 M7 V7 U7 b7 B7 (by decide) (by decide)
  clear P7
  replace F1 := F1.below hb
  replace E1 := E1.below hb
  replace Z2 := Z2.below hb
  replace F4 := F4.below hb
  replace E4 := E4.below hb
  replace F5 := F5.below hb
  replace E5 := E5.below hb
  replace F6 := F6.below hb
  replace E6 := E6.below hb
  replace hB := hB.trans (hb.mono hB.size)
  have zz13 := hb.size
  have zh13 := hB.size
  clear hb
  go_wp2_with fail
  refine (lrof_any (1) 2 (by decide) (by decide) _).mono ?_
  rintro e w14 ⟨g8, a8, c8, x8, e8, t8, y8, rfl, F8, P8, N8, M8, V8, U8, b8, B8, hb⟩
  have I8 := of_is N8 M8 V8 U8 b8 B8 (by decide) (by decide)
  clear P8
  replace F1 := F1.below hb
  replace E1 := E1.below hb
  replace Z2 := Z2.below hb
  replace F4 := F4.below hb
  replace E4 := E4.below hb
  replace F5 := F5.below hb
  replace E5 := E5.below hb
  replace F6 := F6.below hb
  replace E6 := E6.below hb
  replace F7 := F7.below hb
  replace hB := hB.trans (hb.mono hB.size)
  have zz14 := hb.size
  have zh14 := hB.size
  clear hb
  go_wp2_with fail
  refine (psub_ok g7 g8 F7 F8 ⟨I7.lu, I7.ld⟩ ⟨I8.lu, I8.ld⟩ (by omega) (by omega) (I7.good F7.up.words F7.down.words) (I8.good F8.up.words F8.down.words)).mono ?_
  rintro e w15 ⟨g9, a9, c9, x9, e9, t9, y9, rfl, F9, P9, I9, hb⟩
  replace I9 : Is g9 x9 y9 (Rat.divInt 0 1) (3) := (I9.mono (by omega)).to (by rw [I7.rat, I8.rat]; decide +kernel)
  replace F1 := F1.below hb
  replace E1 := E1.below hb
  replace Z2 := Z2.below hb
  replace F4 := F4.below hb
  replace E4 := E4.below hb
  replace F5 := F5.below hb
  replace E5 := E5.below hb
  replace F6 := F6.below hb
  replace E6 := E6.below hb
  replace F7 := F7.below hb
  replace F8 := F8.below hb
  replace hB := hB.trans (hb.mono hB.size)
  have zz15 := hb.size
  have zh15 := hB.size
  clear hb
  clear F7 F8
  have qE1 := E1.lt
  have qE4 := E4.lt
  have qE5 := E5.lt
  have qE6 := E6.lt
  have hA := Below.refl w15.heap.size w15
  have hq : Below w15.heap.size w15 (w15.alloc (.cells #[.bool g9, .slice a9 x9.length c9, .slice e9 y9.length t9] 30)) := (Below.refl _ _).alloc (Nat.le_refl _) _
  replace F1 := F1.below hq
  replace E1 := E1.below hq
  replace Z2 := Z2.below hq
  replace F4 := F4.below hq
  replace E4 := E4.below hq
  replace F5 := F5.below hq
  replace E5 := E5.below hq
  replace F6 := F6.below hq
  replace E6 := E6.below hq
  replace F9 := F9.below hq
  have E9 : Box (w15.alloc (.cells #[.bool g9, .slice a9 x9.length c9, .slice e9 y9.length t9] 30)) (w15.heap.size) (.cells #[.bool g9, .slice a9 x9.length c9, .slice e9 y9.length t9] 30) := Box.put (.cells #[.bool g9, .slice a9 x9.length c9, .slice e9 y9.length t9] 30) rfl
  replace hA := hA.trans (hq.mono hA.size)
  replace hB := hB.trans (hq.mono hB.size)
  clear hq
  clear hA
  go_wp2_with fail
  obtain ⟨u16, hname⟩ : ∃ u, (w15.alloc (.cells #[.bool g9, .slice a9 x9.length c9, .slice e9 y9.length t9] 30)) = u := ⟨_, rfl⟩
  rw [hname] at hB F1 E1 Z2 F4 E4 F5 E5 F6 E6 F9 E9 ⊢
  have zh16 := hB.size
  clear hname
  refine (lrof_any (1) 2 (by decide) (by decide) _).mono ?_
  rintro e w17 ⟨g10, a10, c10, x10, e10, t10, y10, rfl, F10, P10, N10, M10, V10, U10, b10, B10, hb⟩
  have I10 := of_is N10 M10 V10 U10 b10 B10 (by decide) (by decide)
  clear P10
  replace F1 := F1.below hb
  replace E1 := E1.below hb
  replace Z2 := Z2.below hb
  replace F4 := F4.below hb
  replace E4 := E4.below hb
  replace F5 := F5.below hb
  replace E5 := E5.below hb
  replace F6 := F6.below hb
  replace E6 := E6.below hb
  replace F9 := F9.below hb
  replace E9 := E9.below hb
  replace hB := hB.trans (hb.mono hB.size)
  have zz17 := hb.size
  have zh17 := hB.size
  clear hb
  go_wp2_with fail
  refine (lrof_any (-1) 4 (by decide) (by decide) _).mono ?_
  rintro e w18 ⟨g11, a11, c11, x11, e11, t11, y11, rfl, F11, P11, N11, M11, V11, U11, b11, B11, hb⟩
  have I11 := of_is N11 M11 V11 U11 b11 B11 (by decide) (by decide)
  clear P11
  replace F1 := F1.below hb
  replace E1 := E1.below hb
  replace Z2 := Z2.below hb
  replace F4 := F4.below hb
  replace E4 := E4.below hb
  replace F5 := F5.below hb
  replace E5 := E5.below hb
  replace F6 := F6.below hb
  replace E6 := E6.below hb
  replace F9 := F9.below hb
  replace E9 := E9.below hb
  replace F10 := F10.below hb
  replace hB := hB.trans (hb.mono hB.size)
  have zz18 := hb.size
  have zh18 := hB.size
  clear hb
  go_wp2_with fail
  refine (pdiv_ok g10 g11 F10 F11 ⟨I10.lu, I10.ld⟩ ⟨I11.lu, I11.ld⟩ (by omega) (by omega) (I10.good F10.up.words F10.down.words) (I11.good F11.up.words F11.down.words) (by rw [I11.rat]; decide +kernel)).mono ?_
  rintro e w19 ⟨g12, a12, c12, x12, e12, t12, y12, rfl, F12, P12, I12, hb⟩
  replace I12 : Is g12 x12 y12 (Rat.divInt (-2) 1) (3) := (I12.mono (by omega)).to (by rw [I10.rat, I11.rat]; decide +kernel)
  replace F1 := F1.below hb
  replace E1 := E1.below hb
  replace Z2 := Z2.below hb
  replace F4 := F4.below hb
  replace E4 := E4.below hb
  replace F5 := F5.below hb
  replace E5 := E5.below hb
  replace F6 := F6.below hb
  replace E6 := E6.below hb
  replace F9 := F9.below hb
  replace E9 := E9.below hb
  replace F10 := F10.below hb
  replace F11 := F11.below hb
  replace hB := hB.trans (hb.mono hB.size)
  have zz19 := hb.size
  have zh19 := hB.size
  clear hb
  clear F10 F11
  have qE1 := E1.lt
  have qE4 := E4.lt
  have qE5 := E5.lt
  have qE6 := E6.lt
  have qE9 := E9.lt
  have hA := Below.refl w19.heap.size w19
  have hq : Below w19.heap.size w19 (w19.alloc (.cells #[.bool g12, .slice a12 x12.length c12, .slice e12 y12.length t12] 30)) := (Below.refl _ _).alloc (Nat.le_refl _) _
  replace F1 := F1.below hq
  replace E1 := E1.below hq
  replace Z2 := Z2.below hq
  replace F4 := F4.below hq
  replace E4 := E4.below hq
  replace F5 := F5.below hq
  replace E5 := E5.below hq
  replace F6 := F6.below hq
  replace E6 := E6.below hq
  replace F9 := F9.below hq
  replace E9 := E9.below hq
  replace F12 := F12.below hq
  have E12 : Box (w19.alloc (.cells #[.bool g12, .slice a12 x12.length c12, .slice e12 y12.length t12] 30)) (w19.heap.size) (.cells #[.bool g12, .slice a12 x12.length c12, .slice e12 y12.length t12] 30) := Box.put (.cells #[.bool g12, .slice a12 x12.length c12, .slice e12 y12.length t12] 30) rfl
  replace hA := hA.trans (hq.mono hA.size)
  replace hB := hB.trans (hq.mono hB.size)
  clear hq
  clear hA
  go_wp2_with fail
  obtain ⟨u20, hname⟩ : ∃ u, (w19.alloc (.cells #[.bool g12, .slice a12 x12.length c12, .slice e12 y12.length t12] 30)) = u := ⟨_, rfl⟩
  rw [hname] at hB F1 E1 Z2 F4 E4 F5 E5 F6 E6 F9 E9 F12 E12 ⊢
  have zh20 := hB.size
  clear hname
  refine (lrof_any (1) 2 (by decide) (by decide) _).mono ?_
  rintro e w21 ⟨g13, a13, c13, x13, e13, t13, y13, rfl, F13, P13, N13, M13, V13, U13, b13, B13, hb⟩
  have I13 := of_is N13 M13 V13 U13 b13 B13 (by decide) (by decide)
  clear P13
  replace F1 := F1.below hb
  replace E1 := E1.below hb
  replace Z2 := Z2.below hb
  replace F4 := F4.below hb
  replace E4 := E4.below hb
  replace F5 := F5.below hb
  replace E5 := E5.below hb
  replace F6 := F6.below hb
  replace E6 := E6.below hb
  replace F9 := F9.below hb
  replace E9 := E9.below hb
  replace F12 := F12.below hb
  replace E12 := E12.below hb
  replace hB := hB.trans (hb.mono hB.size)
  have zz21 := hb.size
  have zh21 := hB.size
  clear hb
  go_wp2_with fail
  refine (lrof_any (0) 1 (by decide) (by decide) _).mono ?_
  rintro e w22 ⟨g14, a14, c14, x14, e14, t14, y14, rfl, F14, P14, N14, M14, V14, U14, b14, B14, hb⟩
  have I14 := of_is N14 M14 V14 U14 b14 B14 (by decide) (by decide)
  clear P14
  replace F1 := F1.below hb
  replace E1 := E1.below hb
  replace Z2 := Z2.below hb
  replace F4 := F4.below hb
  replace E4 := E4.below hb
  replace F5 := F5.below hb
  replace E5 := E5.below hb
  replace F6 := F6.below hb
  replace E6 := E6.below hb
  replace F9 := F9.below hb
  replace E9 := E9.below hb
  replace F12 := F12.below hb
  replace E12 := E12.below hb
  replace F13 := F13.below hb
  replace hB := hB.trans (hb.mono hB.size)
  have zz22 := hb.size
  have zh22 := hB.size
  clear hb
  go_wp2_with fail
  refine (pdiv_zero (n := 1) (m := 1) g13 g14 F13 F14 ⟨I13.lu, I13.ld⟩ ⟨I14.lu, I14.ld⟩ (by omega) (by omega) (I13.good F13.up.words F13.down.words) (I14.good F14.up.words F14.down.words) (by rw [I14.rat]; decide +kernel)).mono ?_
  rintro e w23 ⟨rfl, hb⟩
  replace F1 := F1.below hb
  replace E1 := E1.below hb
  replace Z2 := Z2.below hb
  replace F4 := F4.below hb
  replace E4 := E4.below hb
  replace F5 := F5.below hb
  replace E5 := E5.below hb
  replace F6 := F6.below hb
  replace E6 := E6.below hb
  replace F9 := F9.below hb
  replace E9 := E9.below hb
  replace F12 := F12.below hb
  replace E12 := E12.below hb
  replace F13 := F13.below hb
  replace F14 := F14.below hb
  replace hB := hB.trans (hb.mono hB.size)
  have zz23 := hb.size
  have zh23 := hB.size
  clear hb
  clear F13 F14
  obtain ⟨k0, k1, k2, f0, f1, f2⟩ := E1.three
  have qE1 := E1.lt
  have qE4 := E4.lt
  have qE5 := E5.lt
  have qE6 := E6.lt
  have qE9 := E9.lt
  have qE12 := E12.lt
  have hA := Below.refl w23.heap.size w23
  have hq : Below w23.heap.size w23 (w23.alloc (.cells #[.bool false, .slice none 0 0, .slice none 0 0] 30)) := (Below.refl _ _).alloc (Nat.le_refl _) _
  replace F1 := F1.below hq
  replace E1 := E1.below hq
  replace Z2 := Z2.below hq
  replace F4 := F4.below hq
  replace E4 := E4.below hq
  replace F5 := F5.below hq
  replace E5 := E5.below hq
  replace F6 := F6.below hq
  replace E6 := E6.below hq
  replace F9 := F9.below hq
  replace E9 := E9.below hq
  replace F12 := F12.below hq
  replace E12 := E12.below hq
  have Z15 : Box (w23.alloc (.cells #[.bool false, .slice none 0 0, .slice none 0 0] 30)) (w23.heap.size) (.cells #[.bool false, .slice none 0 0, .slice none 0 0] 30) := Box.put (.cells #[.bool false, .slice none 0 0, .slice none 0 0] 30) rfl
  replace hA := hA.trans (hq.mono hA.size)
  replace hB := hB.trans (hq.mono hB.size)
  clear hq
  clear hA
  go_wp2_with fail
  clear k0 k1 k2 f0 f1 f2
  obtain ⟨u24, hname⟩ : ∃ u, (w23.alloc (.cells #[.bool false, .slice none 0 0, .slice none 0 0] 30)) = u := ⟨_, rfl⟩
  rw [hname] at hB F1 E1 Z2 F4 E4 F5 E5 F6 E6 F9 E9 F12 E12 Z15 ⊢
  have zh24 := hB.size
  clear hname
  refine (lris_yes g1 F1 (0) 1 (by decide) (by decide) (by decide) I1 (by decide)).mono ?_
  rintro e w25 ⟨rfl, hb⟩
  replace F1 := F1.below hb
  replace E1 := E1.below hb
  replace Z2 := Z2.below hb
  replace F4 := F4.below hb
  replace E4 := E4.below hb
  replace F5 := F5.below hb
  replace E5 := E5.below hb
  replace F6 := F6.below hb
  replace E6 := E6.below hb
  replace F9 := F9.below hb
  replace E9 := E9.below hb
  replace F12 := F12.below hb
  replace E12 := E12.below hb
  replace Z15 := Z15.below hb
  replace hB := hB.trans (hb.mono hB.size)
  have zz25 := hb.size
  have zh25 := hB.size
  clear hb
  clear E1 F1
  obtain ⟨k0, k1, k2, f0, f1, f2⟩ := E4.three
  go_wp2_with fail
  clear k0 k1 k2 f0 f1 f2
  refine (lris_yes g4 F4 (-2) 3 (by decide) (by decide) (by decide) I4 (by decide)).mono ?_
  rintro e w26 ⟨rfl, hb⟩
  replace Z2 := Z2.below hb
  replace F4 := F4.below hb
  replace E4 := E4.below hb
  replace F5 := F5.below hb
  replace E5 := E5.below hb
  replace F6 := F6.below hb
  replace E6 := E6.below hb
  replace F9 := F9.below hb
  replace E9 := E9.below hb
  replace F12 := F12.below hb
  replace E12 := E12.below hb
  replace Z15 := Z15.below hb
  replace hB := hB.trans (hb.mono hB.size)
  have zz26 := hb.size
  have zh26 := hB.size
  clear hb
  clear E4 F4
  obtain ⟨k0, k1, k2, f0, f1, f2⟩ := E5.three
  go_wp2_with fail
  clear k0 k1 k2 f0 f1 f2
  refine (lris_yes g5 F5 (0) 1 (by decide) (by decide) (by decide) I5 (by decide)).mono ?_
  rintro e w27 ⟨rfl, hb⟩
  replace Z2 := Z2.below hb
  replace F5 := F5.below hb
  replace E5 := E5.below hb
  replace F6 := F6.below hb
  replace E6 := E6.below hb
  replace F9 := F9.below hb
  replace E9 := E9.below hb
  replace F12 := F12.below hb
  replace E12 := E12.below hb
  replace Z15 := Z15.below hb
  replace hB := hB.trans (hb.mono hB.size)
  have zz27 := hb.size
  have zh27 := hB.size
  clear hb
  clear E5 F5
  obtain ⟨k0, k1, k2, f0, f1, f2⟩ := E6.three
  go_wp2_with fail
  clear k0 k1 k2 f0 f1 f2
  refine (lris_yes g6 F6 (1) 1 (by decide) (by decide) (by decide) I6 (by decide)).mono ?_
  rintro e w28 ⟨rfl, hb⟩
  replace Z2 := Z2.below hb
  replace F6 := F6.below hb
  replace E6 := E6.below hb
  replace F9 := F9.below hb
  replace E9 := E9.below hb
  replace F12 := F12.below hb
  replace E12 := E12.below hb
  replace Z15 := Z15.below hb
  replace hB := hB.trans (hb.mono hB.size)
  have zz28 := hb.size
  have zh28 := hB.size
  clear hb
  clear E6 F6
  obtain ⟨k0, k1, k2, f0, f1, f2⟩ := E9.three
  go_wp2_with fail
  clear k0 k1 k2 f0 f1 f2
  refine (lris_yes g9 F9 (0) 1 (by decide) (by decide) (by decide) I9 (by decide)).mono ?_
  rintro e w29 ⟨rfl, hb⟩
  replace Z2 := Z2.below hb
  replace F9 := F9.below hb
  replace E9 := E9.below hb
  replace F12 := F12.below hb
  replace E12 := E12.below hb
  replace Z15 := Z15.below hb
  replace hB := hB.trans (hb.mono hB.size)
  have zz29 := hb.size
  have zh29 := hB.size
  clear hb
  clear E9 F9
  obtain ⟨k0, k1, k2, f0, f1, f2⟩ := E12.three
  go_wp2_with fail
  clear k0 k1 k2 f0 f1 f2
  refine (lris_yes g12 F12 (-2) 1 (by decide) (by decide) (by decide) I12 (by decide)).mono ?_
  rintro e w30 ⟨rfl, hb⟩
  replace Z2 := Z2.below hb
  replace F12 := F12.below hb
  replace E12 := E12.below hb
  replace Z15 := Z15.below hb
  replace hB := hB.trans (hb.mono hB.size)
  have zz30 := hb.size
  have zh30 := hB.size
  clear hb
  clear E12 F12
  go_wp2_with fail
  refine (lrof_any (1) 2 (by decide) (by decide) _).mono ?_
  rintro e w31 ⟨g16, a16, c16, x16, e16, t16, y16, rfl, F16, P16, N16, M16, V16, U16, b16, B16, hb⟩
  have I16 := of_is N16 M16 V16 U16 b16 B16 (by decide) (by decide)
  clear P16
  replace Z2 := Z2.below hb
  replace Z15 := Z15.below hb
  replace hB := hB.trans (hb.mono hB.size)
  have zz31 := hb.size
  have zh31 := hB.size
  clear hb
  go_wp2_with fail
  refine (lrof_any (2) 3 (by decide) (by decide) _).mono ?_
  rintro e w32 ⟨g17, a17, c17, x17, e17, t17, y17, rfl, F17, P17, N17, M17, V17, U17, b17, B17, hb⟩
  have I17 := of_is N17 M17 V17 U17 b17 B17 (by decide) (by decide)
  clear P17
  replace Z2 := Z2.below hb
  replace Z15 := Z15.below hb
  replace F16 := F16.below hb
  replace hB := hB.trans (hb.mono hB.size)
  have zz32 := hb.size
  have zh32 := hB.size
  clear hb
  go_wp2_with fail
  have hk := pcmp_ok g16 g17 F16 F17 I16 I17 (by omega)
  rw [show cmpR (Rat.divInt 1 2) (Rat.divInt 2 3) = -1 by decide +kernel] at hk
  refine (hk).mono ?_
  rintro e w33 ⟨rfl, hb⟩
  replace Z2 := Z2.below hb
  replace Z15 := Z15.below hb
  replace F16 := F16.below hb
  replace F17 := F17.below hb
  replace hB := hB.trans (hb.mono hB.size)
  have zz33 := hb.size
  have zh33 := hB.size
  clear hb
  clear hk
  clear F16 F17
  go_wp2_with fail
  refine (lrof_any (2) 3 (by decide) (by decide) _).mono ?_
  rintro e w34 ⟨g18, a18, c18, x18, e18, t18, y18, rfl, F18, P18, N18, M18, V18, U18, b18, B18, hb⟩
  have I18 := of_is N18 M18 V18 U18 b18 B18 (by decide) (by decide)
  clear P18
  replace Z2 := Z2.below hb
  replace Z15 := Z15.below hb
  replace hB := hB.trans (hb.mono hB.size)
  have zz34 := hb.size
  have zh34 := hB.size
  clear hb
  go_wp2_with fail
  refine (ppower_pos g18 F18 I18 (by omega) 3 (by omega)).mono ?_
  rintro e w35 ⟨g19, a19, c19, x19, e19, t19, y19, rfl, F19, P19, I19, hb⟩
  replace I19 : Is g19 x19 y19 (Rat.divInt 8 27) (13) := (I19.mono (by omega)).to (by decide +kernel)
  replace Z2 := Z2.below hb
  replace Z15 := Z15.below hb
  replace F18 := F18.below hb
  replace hB := hB.trans (hb.mono hB.size)
  have zz35 := hb.size
  have zh35 := hB.size
  clear hb
  clear F18
  have hA := Below.refl w35.heap.size w35
  have hq : Below w35.heap.size w35 (w35.alloc (.cells #[.bool g19, .slice a19 x19.length c19, .slice e19 y19.length t19] 30)) := (Below.refl _ _).alloc (Nat.le_refl _) _
  replace Z2 := Z2.below hq
  replace Z15 := Z15.below hq
  replace F19 := F19.below hq
  have E19 : Box (w35.alloc (.cells #[.bool g19, .slice a19 x19.length c19, .slice e19 y19.length t19] 30)) (w35.heap.size) (.cells #[.bool g19, .slice a19 x19.length c19, .slice e19 y19.length t19] 30) := Box.put (.cells #[.bool g19, .slice a19 x19.length c19, .slice e19 y19.length t19] 30) rfl
  replace hA := hA.trans (hq.mono hA.size)
  replace hB := hB.trans (hq.mono hB.size)
  clear hq
  clear hA
  go_wp2_with fail
  obtain ⟨u36, hname⟩ : ∃ u, (w35.alloc (.cells #[.bool g19, .slice a19 x19.length c19, .slice e19 y19.length t19] 30)) = u := ⟨_, rfl⟩
  rw [hname] at hB Z2 Z15 F19 E19 ⊢
  have zh36 := hB.size
  clear hname
  refine (lrof_any (2) 3 (by decide) (by decide) _).mono ?_
  rintro e w37 ⟨g20, a20, c20, x20, e20, t20, y20, rfl, F20, P20, N20, M20, V20, U20, b20, B20, hb⟩
  have I20 := of_is N20 M20 V20 U20 b20 B20 (by decide) (by decide)
  clear P20
  replace Z2 := Z2.below hb
  replace Z15 := Z15.below hb
  replace F19 := F19.below hb
  replace E19 := E19.below hb
  replace hB := hB.trans (hb.mono hB.size)
  have zz37 := hb.size
  have zh37 := hB.size
  clear hb
  go_wp2_with fail
  refine (ppower_neg g20 F20 I20 (by omega) 2 (by omega) (by omega) (fun h => absurd ((I20.zero_iff F20.up.words).2 h) (by decide +kernel))).mono ?_
  rintro e w38 ⟨g21, a21, c21, x21, e21, t21, y21, rfl, F21, P21, I21, hb⟩
  replace I21 : Is g21 x21 y21 (Rat.divInt 9 4) (13) := (I21.mono (by omega)).to (by decide +kernel)
  replace Z2 := Z2.below hb
  replace Z15 := Z15.below hb
  replace F19 := F19.below hb
  replace E19 := E19.below hb
  replace F20 := F20.below hb
  replace hB := hB.trans (hb.mono hB.size)
  have zz38 := hb.size
  have zh38 := hB.size
  clear hb
  clear F20
  have qE19 := E19.lt
  have hA := Below.refl w38.heap.size w38
  have hq : Below w38.heap.size w38 (w38.alloc (.cells #[.bool g21, .slice a21 x21.length c21, .slice e21 y21.length t21] 30)) := (Below.refl _ _).alloc (Nat.le_refl _) _
  replace Z2 := Z2.below hq
  replace Z15 := Z15.below hq
  replace F19 := F19.below hq
  replace E19 := E19.below hq
  replace F21 := F21.below hq
  have E21 : Box (w38.alloc (.cells #[.bool g21, .slice a21 x21.length c21, .slice e21 y21.length t21] 30)) (w38.heap.size) (.cells #[.bool g21, .slice a21 x21.length c21, .slice e21 y21.length t21] 30) := Box.put (.cells #[.bool g21, .slice a21 x21.length c21, .slice e21 y21.length t21] 30) rfl
  replace hA := hA.trans (hq.mono hA.size)
  replace hB := hB.trans (hq.mono hB.size)
  clear hq
  clear hA
  go_wp2_with fail
  obtain ⟨u39, hname⟩ : ∃ u, (w38.alloc (.cells #[.bool g21, .slice a21 x21.length c21, .slice e21 y21.length t21] 30)) = u := ⟨_, rfl⟩
  rw [hname] at hB Z2 Z15 F19 E19 F21 E21 ⊢
  have zh39 := hB.size
  clear hname
  refine (lrof_any (0) 1 (by decide) (by decide) _).mono ?_
  rintro e w40 ⟨g22, a22, c22, x22, e22, t22, y22, rfl, F22, P22, N22, M22, V22, U22, b22, B22, hb⟩
  have I22 := of_is N22 M22 V22 U22 b22 B22 (by decide) (by decide)
  clear P22
  replace Z2 := Z2.below hb
  replace Z15 := Z15.below hb
  replace F19 := F19.below hb
  replace E19 := E19.below hb
  replace F21 := F21.below hb
  replace E21 := E21.below hb
  replace hB := hB.trans (hb.mono hB.size)
  have zz40 := hb.size
  have zh40 := hB.size
  clear hb
  go_wp2_with fail
  refine (ppower_zero g22 F22 (by omega) (-1) (I22.good F22.up.words F22.down.words) (by omega) ((I22.zero_iff F22.up.words).1 (by decide +kernel))).mono ?_
  rintro e w41 ⟨rfl, hb⟩
  replace Z2 := Z2.below hb
  replace Z15 := Z15.below hb
  replace F19 := F19.below hb
  replace E19 := E19.below hb
  replace F21 := F21.below hb
  replace E21 := E21.below hb
  replace F22 := F22.below hb
  replace hB := hB.trans (hb.mono hB.size)
  have zz41 := hb.size
  have zh41 := hB.size
  clear hb
  clear F22
  have qE19 := E19.lt
  have qE21 := E21.lt
  have hA := Below.refl w41.heap.size w41
  have hq : Below w41.heap.size w41 (w41.alloc (.cells #[.bool false, .slice none 0 0, .slice none 0 0] 30)) := (Below.refl _ _).alloc (Nat.le_refl _) _
  replace Z2 := Z2.below hq
  replace Z15 := Z15.below hq
  replace F19 := F19.below hq
  replace E19 := E19.below hq
  replace F21 := F21.below hq
  replace E21 := E21.below hq
  have Z23 : Box (w41.alloc (.cells #[.bool false, .slice none 0 0, .slice none 0 0] 30)) (w41.heap.size) (.cells #[.bool false, .slice none 0 0, .slice none 0 0] 30) := Box.put (.cells #[.bool false, .slice none 0 0, .slice none 0 0] 30) rfl
  replace hA := hA.trans (hq.mono hA.size)
  replace hB := hB.trans (hq.mono hB.size)
  clear hq
  clear hA
  go_wp2_with fail
  obtain ⟨u42, hname⟩ : ∃ u, (w41.alloc (.cells #[.bool false, .slice none 0 0, .slice none 0 0] 30)) = u := ⟨_, rfl⟩
  rw [hname] at hB Z2 Z15 F19 E19 F21 E21 Z23 ⊢
  have zh42 := hB.size
  clear hname
  refine (lrof_any (0) 1 (by decide) (by decide) _).mono ?_
  rintro e w43 ⟨g24, a24, c24, x24, e24, t24, y24, rfl, F24, P24, N24, M24, V24, U24, b24, B24, hb⟩
  have I24 := of_is N24 M24 V24 U24 b24 B24 (by decide) (by decide)
  clear P24
  replace Z2 := Z2.below hb
  replace Z15 := Z15.below hb
  replace F19 := F19.below hb
  replace E19 := E19.below hb
  replace F21 := F21.below hb
  replace E21 := E21.below hb
  replace Z23 := Z23.below hb
  replace hB := hB.trans (hb.mono hB.size)
  have zz43 := hb.size
  have zh43 := hB.size
  clear hb
  go_wp2_with fail
  refine (ppower_pos g24 F24 I24 (by omega) 0 (by omega)).mono ?_
  rintro e w44 ⟨g25, a25, c25, x25, e25, t25, y25, rfl, F25, P25, I25, hb⟩
  replace I25 : Is g25 x25 y25 (Rat.divInt 1 1) (13) := (I25.mono (by omega)).to (by decide +kernel)
  replace Z2 := Z2.below hb
  replace Z15 := Z15.below hb
  replace F19 := F19.below hb
  replace E19 := E19.below hb
  replace F21 := F21.below hb
  replace E21 := E21.below hb
  replace Z23 := Z23.below hb
  replace F24 := F24.below hb
  replace hB := hB.trans (hb.mono hB.size)
  have zz44 := hb.size
  have zh44 := hB.size
  clear hb
  clear F24
  have qE19 := E19.lt
  have qE21 := E21.lt
  have hA := Below.refl w44.heap.size w44
  have hq : Below w44.heap.size w44 (w44.alloc (.cells #[.bool g25, .slice a25 x25.length c25, .slice e25 y25.length t25] 30)) := (Below.refl _ _).alloc (Nat.le_refl _) _
  replace Z2 := Z2.below hq
  replace Z15 := Z15.below hq
  replace F19 := F19.below hq
  replace E19 := E19.below hq
  replace F21 := F21.below hq
  replace E21 := E21.below hq
  replace Z23 := Z23.below hq
  replace F25 := F25.below hq
  have E25 : Box (w44.alloc (.cells #[.bool g25, .slice a25 x25.length c25, .slice e25 y25.length t25] 30)) (w44.heap.size) (.cells #[.bool g25, .slice a25 x25.length c25, .slice e25 y25.length t25] 30) := Box.put (.cells #[.bool g25, .slice a25 x25.length c25, .slice e25 y25.length t25] 30) rfl
  replace hA := hA.trans (hq.mono hA.size)
  replace hB := hB.trans (hq.mono hB.size)
  clear hq
  clear hA
  go_wp2_with fail
  obtain ⟨u45, hname⟩ : ∃ u, (w44.alloc (.cells #[.bool g25, .slice a25 x25.length c25, .slice e25 y25.length t25] 30)) = u := ⟨_, rfl⟩
  rw [hname] at hB Z2 Z15 F19 E19 F21 E21 Z23 F25 E25 ⊢
  have zh45 := hB.size
  clear hname
  refine (lrof_any (1) 2 (by decide) (by decide) _).mono ?_
  rintro e w46 ⟨g26, a26, c26, x26, e26, t26, y26, rfl, F26, P26, N26, M26, V26, U26, b26, B26, hb⟩
  have I26 := of_is N26 M26 V26 U26 b26 B26 (by decide) (by decide)
  clear P26
  replace Z2 := Z2.below hb
  replace Z15 := Z15.below hb
  replace F19 := F19.below hb
  replace E19 := E19.below hb
  replace F21 := F21.below hb
  replace E21 := E21.below hb
  replace Z23 := Z23.below hb
  replace F25 := F25.below hb
  replace E25 := E25.below hb
  replace hB := hB.trans (hb.mono hB.size)
  have zz46 := hb.size
  have zh46 := hB.size
  clear hb
  go_wp2_with fail
  refine (ppower_range g26 F26 (by omega) 10001 (I26.good F26.up.words F26.down.words) (by omega)).mono ?_
  rintro e w47 ⟨rfl, hb⟩
  replace Z2 := Z2.below hb
  replace Z15 := Z15.below hb
  replace F19 := F19.below hb
  replace E19 := E19.below hb
  replace F21 := F21.below hb
  replace E21 := E21.below hb
  replace Z23 := Z23.below hb
  replace F25 := F25.below hb
  replace E25 := E25.below hb
  replace F26 := F26.below hb
  replace hB := hB.trans (hb.mono hB.size)
  have zz47 := hb.size
  have zh47 := hB.size
  clear hb
  clear F26
  obtain ⟨k0, k1, k2, f0, f1, f2⟩ := E19.three
  have qE19 := E19.lt
  have qE21 := E21.lt
  have qE25 := E25.lt
  have hA := Below.refl w47.heap.size w47
  have hq : Below w47.heap.size w47 (w47.alloc (.cells #[.bool false, .slice none 0 0, .slice none 0 0] 30)) := (Below.refl _ _).alloc (Nat.le_refl _) _
  replace Z2 := Z2.below hq
  replace Z15 := Z15.below hq
  replace F19 := F19.below hq
  replace E19 := E19.below hq
  replace F21 := F21.below hq
  replace E21 := E21.below hq
  replace Z23 := Z23.below hq
  replace F25 := F25.below hq
  replace E25 := E25.below hq
  have Z27 : Box (w47.alloc (.cells #[.bool false, .slice none 0 0, .slice none 0 0] 30)) (w47.heap.size) (.cells #[.bool false, .slice none 0 0, .slice none 0 0] 30) := Box.put (.cells #[.bool false, .slice none 0 0, .slice none 0 0] 30) rfl
  replace hA := hA.trans (hq.mono hA.size)
  replace hB := hB.trans (hq.mono hB.size)
  clear hq
  clear hA
  go_wp2_with fail
  clear k0 k1 k2 f0 f1 f2
  obtain ⟨u48, hname⟩ : ∃ u, (w47.alloc (.cells #[.bool false, .slice none 0 0, .slice none 0 0] 30)) = u := ⟨_, rfl⟩
  rw [hname] at hB Z2 Z15 F19 E19 F21 E21 Z23 F25 E25 Z27 ⊢
  have zh48 := hB.size
  clear hname
  refine (lris_yes g19 F19 (8) 27 (by decide) (by decide) (by decide) I19 (by decide)).mono ?_
  rintro e w49 ⟨rfl, hb⟩
  replace Z2 := Z2.below hb
  replace Z15 := Z15.below hb
  replace F19 := F19.below hb
  replace E19 := E19.below hb
  replace F21 := F21.below hb
  replace E21 := E21.below hb
  replace Z23 := Z23.below hb
  replace F25 := F25.below hb
  replace E25 := E25.below hb
  replace Z27 := Z27.below hb
  replace hB := hB.trans (hb.mono hB.size)
  have zz49 := hb.size
  have zh49 := hB.size
  clear hb
  clear E19 F19
  obtain ⟨k0, k1, k2, f0, f1, f2⟩ := E21.three
  go_wp2_with fail
  clear k0 k1 k2 f0 f1 f2
  refine (lris_yes g21 F21 (9) 4 (by decide) (by decide) (by decide) I21 (by decide)).mono ?_
  rintro e w50 ⟨rfl, hb⟩
  replace Z2 := Z2.below hb
  replace Z15 := Z15.below hb
  replace F21 := F21.below hb
  replace E21 := E21.below hb
  replace Z23 := Z23.below hb
  replace F25 := F25.below hb
  replace E25 := E25.below hb
  replace Z27 := Z27.below hb
  replace hB := hB.trans (hb.mono hB.size)
  have zz50 := hb.size
  have zh50 := hB.size
  clear hb
  clear E21 F21
  obtain ⟨k0, k1, k2, f0, f1, f2⟩ := E25.three
  go_wp2_with fail
  clear k0 k1 k2 f0 f1 f2
  refine (lris_yes g25 F25 (1) 1 (by decide) (by decide) (by decide) I25 (by decide)).mono ?_
  rintro e w51 ⟨rfl, hb⟩
  replace Z2 := Z2.below hb
  replace Z15 := Z15.below hb
  replace Z23 := Z23.below hb
  replace F25 := F25.below hb
  replace E25 := E25.below hb
  replace Z27 := Z27.below hb
  replace hB := hB.trans (hb.mono hB.size)
  have zz51 := hb.size
  have zh51 := hB.size
  clear hb
  clear E25 F25
  go_wp2_with fail
  refine (lrawake_any _).mono ?_
  rintro e w52 ⟨rfl, hb⟩
  replace Z2 := Z2.below hb
  replace Z15 := Z15.below hb
  replace Z23 := Z23.below hb
  replace Z27 := Z27.below hb
  replace hB := hB.trans (hb.mono hB.size)
  have zz52 := hb.size
  have zh52 := hB.size
  clear hb
  go_wp2_with fail
  refine (lrof_any (5) 2 (by decide) (by decide) _).mono ?_
  rintro e w53 ⟨g28, a28, c28, x28, e28, t28, y28, rfl, F28, P28, N28, M28, V28, U28, b28, B28, hb⟩
  have I28 := of_is N28 M28 V28 U28 b28 B28 (by decide) (by decide)
  clear P28
  replace Z2 := Z2.below hb
  replace Z15 := Z15.below hb
  replace Z23 := Z23.below hb
  replace Z27 := Z27.below hb
  replace hB := hB.trans (hb.mono hB.size)
  have zz53 := hb.size
  have zh53 := hB.size
  clear hb
  go_wp2_with fail
  refine (lrrounded_yes g28 F28 I28 (by omega) 2 (by decide) (round_of N28 F28.up.words V28 U28 (by decide))).mono ?_
  rintro e w54 ⟨rfl, hb⟩
  replace Z2 := Z2.below hb
  replace Z15 := Z15.below hb
  replace Z23 := Z23.below hb
  replace Z27 := Z27.below hb
  replace F28 := F28.below hb
  replace hB := hB.trans (hb.mono hB.size)
  have zz54 := hb.size
  have zh54 := hB.size
  clear hb
  clear F28
  go_wp2_with fail
  refine (lrof_any (7) 2 (by decide) (by decide) _).mono ?_
  rintro e w55 ⟨g29, a29, c29, x29, e29, t29, y29, rfl, F29, P29, N29, M29, V29, U29, b29, B29, hb⟩
  have I29 := of_is N29 M29 V29 U29 b29 B29 (by decide) (by decide)
  clear P29
  replace Z2 := Z2.below hb
  replace Z15 := Z15.below hb
  replace Z23 := Z23.below hb
  replace Z27 := Z27.below hb
  replace hB := hB.trans (hb.mono hB.size)
  have zz55 := hb.size
  have zh55 := hB.size
  clear hb
  go_wp2_with fail
  refine (lrrounded_yes g29 F29 I29 (by omega) 4 (by decide) (round_of N29 F29.up.words V29 U29 (by decide))).mono ?_
  rintro e w56 ⟨rfl, hb⟩
  replace Z2 := Z2.below hb
  replace Z15 := Z15.below hb
  replace Z23 := Z23.below hb
  replace Z27 := Z27.below hb
  replace F29 := F29.below hb
  replace hB := hB.trans (hb.mono hB.size)
  have zz56 := hb.size
  have zh56 := hB.size
  clear hb
  clear F29
  go_wp2_with fail
  refine (lrof_any (-1) 3 (by decide) (by decide) _).mono ?_
  rintro e w57 ⟨g30, a30, c30, x30, e30, t30, y30, rfl, F30, P30, N30, M30, V30, U30, b30, B30, hb⟩
  have I30 := of_is N30 M30 V30 U30 b30 B30 (by decide) (by decide)
  clear P30
  replace Z2 := Z2.below hb
  replace Z15 := Z15.below hb
  replace Z23 := Z23.below hb
  replace Z27 := Z27.below hb
  replace hB := hB.trans (hb.mono hB.size)
  have zz57 := hb.size
  have zh57 := hB.size
  clear hb
  go_wp2_with fail
  refine (lrrounded_yes g30 F30 I30 (by omega) 0 (by decide) (round_of N30 F30.up.words V30 U30 (by decide))).mono ?_
  rintro e w58 ⟨rfl, hb⟩
  replace Z2 := Z2.below hb
  replace Z15 := Z15.below hb
  replace Z23 := Z23.below hb
  replace Z27 := Z27.below hb
  replace F30 := F30.below hb
  replace hB := hB.trans (hb.mono hB.size)
  have zz58 := hb.size
  have zh58 := hB.size
  clear hb
  clear F30
  go_wp2
  go_ret
  exact ⟨rfl, hB⟩
end Go.Proofs.YtblmkddjlfienaaGreat

/-
  The walk of RatioField.
-/
namespace Go.Proofs.YtblmkddjlfienaaGreat
open Go.RowKit

set_option maxRecDepth 100000 in
set_option maxHeartbeats 4000000 in
theorem lrfield_long {a1 e1 : Option Addr} {c1 t1 : Nat} {x1 y1 : List Int} {a2 e2 : Option Addr} {c2 t2 : Nat} {x2 y2 : List Int} {a3 e3 : Option Addr} {c3 t3 : Nat} {x3 y3 : List Int} {w : World} (g1 g2 g3 : Bool) (F1 : Fr 0 w a1 c1 x1 e1 t1 y1) (F2 : Fr 0 w a2 c2 x2 e2 t2 y2) (F3 : Fr 0 w a3 c3 x3 e3 t3 y3) (HL : LongIs true [⟨g1, a1, c1, x1, e1, t1, y1⟩, ⟨g2, a2, c2, x2, e2, t2, y2⟩, ⟨g3, a3, c3, x3, e3, t3, y3⟩]) :
    Calls Tryz.prog 6 #[.agg #[.bool g1, .slice a1 x1.length c1, .slice e1 y1.length t1], .agg #[.bool g2, .slice a2 x2.length c2, .slice e2 y2.length t2], .agg #[.bool g3, .slice a3 x3.length c3, .slice e3 y3.length t3]] w fun e w' => e = .returned (.bool true) ∧ Below w.heap.size w w' := by
  have hB := Below.refl w.heap.size w
  go_enter Tryz.func6, Tryz.ntmps6
  have hA := Below.refl w.heap.size w
  have hq : Below w.heap.size w (w.alloc (.cells #[.bool g1, .slice a1 x1.length c1, .slice e1 y1.length t1] 30)) := (Below.refl _ _).alloc (Nat.le_refl _) _
  replace F1 := F1.below hq
  replace F2 := F2.below hq
  replace F3 := F3.below hq
  have E1 : Box (w.alloc (.cells #[.bool g1, .slice a1 x1.length c1, .slice e1 y1.length t1] 30)) (w.heap.size) (.cells #[.bool g1, .slice a1 x1.length c1, .slice e1 y1.length t1] 30) := Box.put (.cells #[.bool g1, .slice a1 x1.length c1, .slice e1 y1.length t1] 30) rfl
  replace hA := hA.trans (hq.mono hA.size)
  replace hB := hB.trans (hq.mono hB.size)
  clear hq
  have hq : Below (w.alloc (.cells #[.bool g1, .slice a1 x1.length c1, .slice e1 y1.length t1] 30)).heap.size (w.alloc (.cells #[.bool g1, .slice a1 x1.length c1, .slice e1 y1.length t1] 30)) ((w.alloc (.cells #[.bool g1, .slice a1 x1.length c1, .slice e1 y1.length t1] 30)).alloc (.cells #[.bool g2, .slice a2 x2.length c2, .slice e2 y2.length t2] 30)) := (Below.refl _ _).alloc (Nat.le_refl _) _
  replace F1 := F1.below hq
  replace F2 := F2.below hq
  replace F3 := F3.below hq
  replace E1 := E1.below hq
  have E2 : Box ((w.alloc (.cells #[.bool g1, .slice a1 x1.length c1, .slice e1 y1.length t1] 30)).alloc (.cells #[.bool g2, .slice a2 x2.length c2, .slice e2 y2.length t2] 30)) (w.heap.size + 1) (.cells #[.bool g2, .slice a2 x2.length c2, .slice e2 y2.length t2] 30) := Box.put (.cells #[.bool g2, .slice a2 x2.length c2, .slice e2 y2.length t2] 30) (by simp)
  replace hA := hA.trans (hq.mono hA.size)
  replace hB := hB.trans (hq.mono hB.size)
  clear hq
  have hq : Below ((w.alloc (.cells #[.bool g1, .slice a1 x1.length c1, .slice e1 y1.length t1] 30)).alloc (.cells #[.bool g2, .slice a2 x2.length c2, .slice e2 y2.length t2] 30)).heap.size ((w.alloc (.cells #[.bool g1, .slice a1 x1.length c1, .slice e1 y1.length t1] 30)).alloc (.cells #[.bool g2, .slice a2 x2.length c2, .slice e2 y2.length t2] 30)) (((w.alloc (.cells #[.bool g1, .slice a1 x1.length c1, .slice e1 y1.length t1] 30)).alloc (.cells #[.bool g2, .slice a2 x2.length c2, .slice e2 y2.length t2] 30)).alloc (.cells #[.bool g3, .slice a3 x3.length c3, .slice e3 y3.length t3] 30)) := (Below.refl _ _).alloc (Nat.le_refl _) _
  replace F1 := F1.below hq
  replace F2 := F2.below hq
  replace F3 := F3.below hq
  replace E1 := E1.below hq
  replace E2 := E2.below hq
  have E3 : Box (((w.alloc (.cells #[.bool g1, .slice a1 x1.length c1, .slice e1 y1.length t1] 30)).alloc (.cells #[.bool g2, .slice a2 x2.length c2, .slice e2 y2.length t2] 30)).alloc (.cells #[.bool g3, .slice a3 x3.length c3, .slice e3 y3.length t3] 30)) (w.heap.size + 2) (.cells #[.bool g3, .slice a3 x3.length c3, .slice e3 y3.length t3] 30) := Box.put (.cells #[.bool g3, .slice a3 x3.length c3, .slice e3 y3.length t3] 30) (by simp)
  replace hA := hA.trans (hq.mono hA.size)
  replace hB := hB.trans (hq.mono hB.size)
  clear hq
  clear hA
  go_wp2_with fail
  obtain ⟨u1, hname⟩ : ∃ u, (((w.alloc (.cells #[.bool g1, .slice a1 x1.length c1, .slice e1 y1.length t1] 30)).alloc (.cells #[.bool g2, .slice a2 x2.length c2, .slice e2 y2.length t2] 30)).alloc (.cells #[.bool g3, .slice a3 x3.length c3, .slice e3 y3.length t3] 30)) = u := ⟨_, rfl⟩
  rw [hname] at hB F1 F2 F3 E1 E2 E3 ⊢
  have zh1 := hB.size
  clear hname
  refine (lrknown_any _).mono ?_
  rintro e w2 ⟨rfl, hb⟩
  replace F1 := F1.below hb
  replace F2 := F2.below hb
  replace F3 := F3.below hb
  replace E1 := E1.below hb
  replace E2 := E2.below hb
  replace E3 := E3.below hb
  replace hB := hB.trans (hb.mono hB.size)
  have zz2 := hb.size
  have zh2 := hB.size
  clear hb
  obtain ⟨k0, k1, k2, f0, f1, f2⟩ := E1.three
  obtain ⟨k3, k4, k5, f3, f4, f5⟩ := E2.three
  obtain ⟨k6, k7, k8, f6, f7, f8⟩ := E3.three
  have qE1 := E1.lt
  have qE2 := E2.lt
  have qE3 := E3.lt
  have hA := Below.refl w2.heap.size w2
  have hq : Below w2.heap.size w2 (w2.alloc (.cells #[.bool g1, .slice a1 x1.length c1, .slice e1 y1.length t1, .bool g2, .slice a2 x2.length c2, .slice e2 y2.length t2, .bool g3, .slice a3 x3.length c3, .slice e3 y3.length t3] 30)) := (Below.refl _ _).alloc (Nat.le_refl _) _
  replace F1 := F1.below hq
  replace F2 := F2.below hq
  replace F3 := F3.below hq
  replace E1 := E1.below hq
  replace E2 := E2.below hq
  replace E3 := E3.below hq
  have L0 : Box (w2.alloc (.cells #[.bool g1, .slice a1 x1.length c1, .slice e1 y1.length t1, .bool g2, .slice a2 x2.length c2, .slice e2 y2.length t2, .bool g3, .slice a3 x3.length c3, .slice e3 y3.length t3] 30)) (w2.heap.size) (.cells #[.bool g1, .slice a1 x1.length c1, .slice e1 y1.length t1, .bool g2, .slice a2 x2.length c2, .slice e2 y2.length t2, .bool g3, .slice a3 x3.length c3, .slice e3 y3.length t3] 30) := Box.put (.cells #[.bool g1, .slice a1 x1.length c1, .slice e1 y1.length t1, .bool g2, .slice a2 x2.length c2, .slice e2 y2.length t2, .bool g3, .slice a3 x3.length c3, .slice e3 y3.length t3] 30) rfl
  replace hA := hA.trans (hq.mono hA.size)
  replace hB := hB.trans (hq.mono hB.size)
  clear hq
  clear hA
  go_wp2_with fail
  clear k0 k1 k2 f0 f1 f2 k3 k4 k5 f3 f4 f5 k6 k7 k8 f6 f7 f8
  obtain ⟨u3, hname⟩ : ∃ u, (w2.alloc (.cells #[.bool g1, .slice a1 x1.length c1, .slice e1 y1.length t1, .bool g2, .slice a2 x2.length c2, .slice e2 y2.length t2, .bool g3, .slice a3 x3.length c3, .slice e3 y3.length t3] 30)) = u := ⟨_, rfl⟩
  rw [hname] at hB F1 F2 F3 E1 E2 E3 L0 ⊢
  have zh3 := hB.size
  clear hname
  have R := row_box (rs := [⟨g1, a1, c1, x1, e1, t1, y1⟩, ⟨g2, a2, c2, x2, e2, t2, y2⟩, ⟨g3, a3, c3, x3, e3, t3, y3⟩]) (k := w2.heap.size) L0 (fun r hr => by
      simp only [List.mem_cons, List.not_mem_nil, or_false] at hr
      rcases hr with rfl | rfl | rfl
      · exact F1.mono (Nat.zero_le _)
      · exact F2.mono (Nat.zero_le _)
      · exact F3.mono (Nat.zero_le _))
  refine (lrlong_any (cap := 3) R true HL).mono ?_
  rintro e w4 ⟨rfl, hb⟩
  replace F1 := F1.below hb
  replace F2 := F2.below hb
  replace F3 := F3.below hb
  replace E1 := E1.below hb
  replace E2 := E2.below hb
  replace E3 := E3.below hb
  replace L0 := L0.below hb
  replace hB := hB.trans (hb.mono hB.size)
  have zz4 := hb.size
  have zh4 := hB.size
  clear hb
  clear R
  clear L0
  go_wp2
  go_ret
  exact ⟨rfl, hB⟩

set_option maxRecDepth 100000 in
set_option maxHeartbeats 4000000 in
theorem lrfield_bad {a1 e1 : Option Addr} {c1 t1 : Nat} {x1 y1 : List Int} {a2 e2 : Option Addr} {c2 t2 : Nat} {x2 y2 : List Int} {a3 e3 : Option Addr} {c3 t3 : Nat} {x3 y3 : List Int} {w : World} (g1 g2 g3 : Bool) (F1 : Fr 0 w a1 c1 x1 e1 t1 y1) (F2 : Fr 0 w a2 c2 x2 e2 t2 y2) (F3 : Fr 0 w a3 c3 x3 e3 t3 y3) (hl1 : x1.length ≤ 5 ∧ y1.length ≤ 5) (hl2 : x2.length ≤ 5 ∧ y2.length ≤ 5) (hl3 : x3.length ≤ 5 ∧ y3.length ≤ 5) (HG : GoodIs false [⟨g1, a1, c1, x1, e1, t1, y1⟩, ⟨g2, a2, c2, x2, e2, t2, y2⟩, ⟨g3, a3, c3, x3, e3, t3, y3⟩]) :
    Calls Tryz.prog 6 #[.agg #[.bool g1, .slice a1 x1.length c1, .slice e1 y1.length t1], .agg #[.bool g2, .slice a2 x2.length c2, .slice e2 y2.length t2], .agg #[.bool g3, .slice a3 x3.length c3, .slice e3 y3.length t3]] w fun e w' => e = .returned (.bool true) ∧ Below w.heap.size w w' := by
  have hlen0 : Hid (∀ r ∈ ([⟨g1, a1, c1, x1, e1, t1, y1⟩, ⟨g2, a2, c2, x2, e2, t2, y2⟩, ⟨g3, a3, c3, x3, e3, t3, y3⟩] : List RV), r.xs.length ≤ 1000 ∧ r.ds.length ≤ 1000) := fun r hr => by
    simp only [List.mem_cons, List.not_mem_nil, or_false] at hr
    rcases hr with rfl | rfl | rfl <;> constructor <;> simp <;> omega
  have HL := long_no [⟨g1, a1, c1, x1, e1, t1, y1⟩, ⟨g2, a2, c2, x2, e2, t2, y2⟩, ⟨g3, a3, c3, x3, e3, t3, y3⟩] (by simp) (fun r hr => by
    simp only [List.mem_cons, List.not_mem_nil, or_false] at hr
    rcases hr with rfl | rfl | rfl
    · exact hl1
    · exact hl2
    · exact hl3)
  have hB := Below.refl w.heap.size w
  go_enter Tryz.func6, Tryz.ntmps6
  have hA := Below.refl w.heap.size w
  have hq : Below w.heap.size w (w.alloc (.cells #[.bool g1, .slice a1 x1.length c1, .slice e1 y1.length t1] 30)) := (Below.refl _ _).alloc (Nat.le_refl _) _
  replace F1 := F1.below hq
  replace F2 := F2.below hq
  replace F3 := F3.below hq
  have E1 : Box (w.alloc (.cells #[.bool g1, .slice a1 x1.length c1, .slice e1 y1.length t1] 30)) (w.heap.size) (.cells #[.bool g1, .slice a1 x1.length c1, .slice e1 y1.length t1] 30) := Box.put (.cells #[.bool g1, .slice a1 x1.length c1, .slice e1 y1.length t1] 30) rfl
  replace hA := hA.trans (hq.mono hA.size)
  replace hB := hB.trans (hq.mono hB.size)
  clear hq
  have hq : Below (w.alloc (.cells #[.bool g1, .slice a1 x1.length c1, .slice e1 y1.length t1] 30)).heap.size (w.alloc (.cells #[.bool g1, .slice a1 x1.length c1, .slice e1 y1.length t1] 30)) ((w.alloc (.cells #[.bool g1, .slice a1 x1.length c1, .slice e1 y1.length t1] 30)).alloc (.cells #[.bool g2, .slice a2 x2.length c2, .slice e2 y2.length t2] 30)) := (Below.refl _ _).alloc (Nat.le_refl _) _
  replace F1 := F1.below hq
  replace F2 := F2.below hq
  replace F3 := F3.below hq
  replace E1 := E1.below hq
  have E2 : Box ((w.alloc (.cells #[.bool g1, .slice a1 x1.length c1, .slice e1 y1.length t1] 30)).alloc (.cells #[.bool g2, .slice a2 x2.length c2, .slice e2 y2.length t2] 30)) (w.heap.size + 1) (.cells #[.bool g2, .slice a2 x2.length c2, .slice e2 y2.length t2] 30) := Box.put (.cells #[.bool g2, .slice a2 x2.length c2, .slice e2 y2.length t2] 30) (by simp)
  replace hA := hA.trans (hq.mono hA.size)
  replace hB := hB.trans (hq.mono hB.size)
  clear hq
  have hq : Below ((w.alloc (.cells #[.bool g1, .slice a1 x1.length c1, .slice e1 y1.length t1] 30)).alloc (.cells #[.bool g2, .slice a2 x2.length c2, .slice e2 y2.length t2] 30)).heap.size ((w.alloc (.cells #[.bool g1, .slice a1 x1.length c1, .slice e1 y1.length t1] 30)).alloc (.cells #[.bool g2, .slice a2 x2.length c2, .slice e2 y2.length t2] 30)) (((w.alloc (.cells #[.bool g1, .slice a1 x1.length c1, .slice e1 y1.length t1] 30)).alloc (.cells #[.bool g2, .slice a2 x2.length c2, .slice e2 y2.length t2] 30)).alloc (.cells #[.bool g3, .slice a3 x3.length c3, .slice e3 y3.length t3] 30)) := (Below.refl _ _).alloc (Nat.le_refl _) _
  replace F1 := F1.below hq
  replace F2 := F2.below hq
  replace F3 := F3.below hq
  replace E1 := E1.below hq
  replace E2 := E2.below hq
  have E3 : Box (((w.alloc (.cells #[.bool g1, .slice a1 x1.length c1, .slice e1 y1.length t1] 30)).alloc (.cells #[.bool g2, .slice a2 x2.length c2, .slice e2 y2.length t2] 30)).alloc (.cells #[.bool g3, .slice a3 x3.length c3, .slice e3 y3.length t3] 30)) (w.heap.size + 2) (.cells #[.bool g3, .slice a3 x3.length c3, .slice e3 y3.length t3] 30) := Box.put (.cells #[.bool g3, .slice a3 x3.length c3, .slice e3 y3.length t3] 30) (by simp)
  replace hA := hA.trans (hq.mono hA.size)
  replace hB := hB.trans (hq.mono hB.size)
  clear hq
  clear hA
  go_wp2_with fail
  obtain ⟨u1, hname⟩ : ∃ u, (((w.alloc (.cells #[.bool g1, .slice a1 x1.length c1, .slice e1 y1.length t1] 30)).alloc (.cells #[.bool g2, .slice a2 x2.length c2, .slice e2 y2.length t2] 30)).alloc (.cells #[.bool g3, .slice a3 x3.length c3, .slice e3 y3.length t3] 30)) = u := ⟨_, rfl⟩
  rw [hname] at hB F1 F2 F3 E1 E2 E3 ⊢
  have zh1 := hB.size
  clear hname
  refine (lrknown_any _).mono ?_
  rintro e w2 ⟨rfl, hb⟩
  replace F1 := F1.below hb
  replace F2 := F2.below hb
  replace F3 := F3.below hb
  replace E1 := E1.below hb
  replace E2 := E2.below hb
  replace E3 := E3.below hb
  replace hB := hB.trans (hb.mono hB.size)
  have zz2 := hb.size
  have zh2 := hB.size
  clear hb
  obtain ⟨k0, k1, k2, f0, f1, f2⟩ := E1.three
  obtain ⟨k3, k4, k5, f3, f4, f5⟩ := E2.three
  obtain ⟨k6, k7, k8, f6, f7, f8⟩ := E3.three
  have qE1 := E1.lt
  have qE2 := E2.lt
  have qE3 := E3.lt
  have hA := Below.refl w2.heap.size w2
  have hq : Below w2.heap.size w2 (w2.alloc (.cells #[.bool g1, .slice a1 x1.length c1, .slice e1 y1.length t1, .bool g2, .slice a2 x2.length c2, .slice e2 y2.length t2, .bool g3, .slice a3 x3.length c3, .slice e3 y3.length t3] 30)) := (Below.refl _ _).alloc (Nat.le_refl _) _
  replace F1 := F1.below hq
  replace F2 := F2.below hq
  replace F3 := F3.below hq
  replace E1 := E1.below hq
  replace E2 := E2.below hq
  replace E3 := E3.below hq
  have L0 : Box (w2.alloc (.cells #[.bool g1, .slice a1 x1.length c1, .slice e1 y1.length t1, .bool g2, .slice a2 x2.length c2, .slice e2 y2.length t2, .bool g3, .slice a3 x3.length c3, .slice e3 y3.length t3] 30)) (w2.heap.size) (.cells #[.bool g1, .slice a1 x1.length c1, .slice e1 y1.length t1, .bool g2, .slice a2 x2.length c2, .slice e2 y2.length t2, .bool g3, .slice a3 x3.length c3, .slice e3 y3.length t3] 30) := Box.put (.cells #[.bool g1, .slice a1 x1.length c1, .slice e1 y1.length t1, .bool g2, .slice a2 x2.length c2, .slice e2 y2.length t2, .bool g3, .slice a3 x3.length c3, .slice e3 y3.length t3] 30) rfl
  replace hA := hA.trans (hq.mono hA.size)
  replace hB := hB.trans (hq.mono hB.size)
  clear hq
  clear hA
  go_wp2_with fail
  clear k0 k1 k2 f0 f1 f2 k3 k4 k5 f3 f4 f5 k6 k7 k8 f6 f7 f8
  obtain ⟨u3, hname⟩ : ∃ u, (w2.alloc (.cells #[.bool g1, .slice a1 x1.length c1, .slice e1 y1.length t1, .bool g2, .slice a2 x2.length c2, .slice e2 y2.length t2, .bool g3, .slice a3 x3.length c3, .slice e3 y3.length t3] 30)) = u := ⟨_, rfl⟩
  rw [hname] at hB F1 F2 F3 E1 E2 E3 L0 ⊢
  have zh3 := hB.size
  clear hname
  have R := row_box (rs := [⟨g1, a1, c1, x1, e1, t1, y1⟩, ⟨g2, a2, c2, x2, e2, t2, y2⟩, ⟨g3, a3, c3, x3, e3, t3, y3⟩]) (k := w2.heap.size) L0 (fun r hr => by
      simp only [List.mem_cons, List.not_mem_nil, or_false] at hr
      rcases hr with rfl | rfl | rfl
      · exact F1.mono (Nat.zero_le _)
      · exact F2.mono (Nat.zero_le _)
      · exact F3.mono (Nat.zero_le _))
  refine (lrlong_any (cap := 3) R false HL).mono ?_
  rintro e w4 ⟨rfl, hb⟩
  replace F1 := F1.below hb
  replace F2 := F2.below hb
  replace F3 := F3.below hb
  replace E1 := E1.below hb
  replace E2 := E2.below hb
  replace E3 := E3.below hb
  replace L0 := L0.below hb
  replace hB := hB.trans (hb.mono hB.size)
  have zz4 := hb.size
  have zh4 := hB.size
  clear hb
  clear R
  clear L0
  obtain ⟨k0, k1, k2, f0, f1, f2⟩ := E1.three
  obtain ⟨k3, k4, k5, f3, f4, f5⟩ := E2.three
  obtain ⟨k6, k7, k8, f6, f7, f8⟩ := E3.three
  have qE1 := E1.lt
  have qE2 := E2.lt
  have qE3 := E3.lt
  have hA := Below.refl w4.heap.size w4
  have hq : Below w4.heap.size w4 (w4.alloc (.cells #[.bool g1, .slice a1 x1.length c1, .slice e1 y1.length t1, .bool g2, .slice a2 x2.length c2, .slice e2 y2.length t2, .bool g3, .slice a3 x3.length c3, .slice e3 y3.length t3] 30)) := (Below.refl _ _).alloc (Nat.le_refl _) _
  replace F1 := F1.below hq
  replace F2 := F2.below hq
  replace F3 := F3.below hq
  replace E1 := E1.below hq
  replace E2 := E2.below hq
  replace E3 := E3.below hq
  have L0 : Box (w4.alloc (.cells #[.bool g1, .slice a1 x1.length c1, .slice e1 y1.length t1, .bool g2, .slice a2 x2.length c2, .slice e2 y2.length t2, .bool g3, .slice a3 x3.length c3, .slice e3 y3.length t3] 30)) (w4.heap.size) (.cells #[.bool g1, .slice a1 x1.length c1, .slice e1 y1.length t1, .bool g2, .slice a2 x2.length c2, .slice e2 y2.length t2, .bool g3, .slice a3 x3.length c3, .slice e3 y3.length t3] 30) := Box.put (.cells #[.bool g1, .slice a1 x1.length c1, .slice e1 y1.length t1, .bool g2, .slice a2 x2.length c2, .slice e2 y2.length t2, .bool g3, .slice a3 x3.length c3, .slice e3 y3.length t3] 30) rfl
  replace hA := hA.trans (hq.mono hA.size)
  replace hB := hB.trans (hq.mono hB.size)
  clear hq
  clear hA
  go_wp2_with fail
  clear k0 k1 k2 f0 f1 f2 k3 k4 k5 f3 f4 f5 k6 k7 k8 f6 f7 f8
  obtain ⟨u5, hname⟩ : ∃ u, (w4.alloc (.cells #[.bool g1, .slice a1 x1.length c1, .slice e1 y1.length t1, .bool g2, .slice a2 x2.length c2, .slice e2 y2.length t2, .bool g3, .slice a3 x3.length c3, .slice e3 y3.length t3] 30)) = u := ⟨_, rfl⟩
  rw [hname] at hB F1 F2 F3 E1 E2 E3 L0 ⊢
  have zh5 := hB.size
  clear hname
  have R := row_box (rs := [⟨g1, a1, c1, x1, e1, t1, y1⟩, ⟨g2, a2, c2, x2, e2, t2, y2⟩, ⟨g3, a3, c3, x3, e3, t3, y3⟩]) (k := w4.heap.size) L0 (fun r hr => by
      simp only [List.mem_cons, List.not_mem_nil, or_false] at hr
      rcases hr with rfl | rfl | rfl
      · exact F1.mono (Nat.zero_le _)
      · exact F2.mono (Nat.zero_le _)
      · exact F3.mono (Nat.zero_le _))
  refine (lrgood_any (cap := 3) R (by simp) hlen0.out false HG).mono ?_
  rintro e w6 ⟨rfl, hb⟩
  replace F1 := F1.below hb
  replace F2 := F2.below hb
  replace F3 := F3.below hb
  replace E1 := E1.below hb
  replace E2 := E2.below hb
  replace E3 := E3.below hb
  replace L0 := L0.below hb
  replace hB := hB.trans (hb.mono hB.size)
  have zz6 := hb.size
  have zh6 := hB.size
  clear hb
  clear R
  clear L0
  go_wp2
  go_ret
  exact ⟨rfl, hB⟩

end Go.Proofs.YtblmkddjlfienaaGreat

/-
  The walk of RatioField.
-/
namespace Go.Proofs.YtblmkddjlfienaaGreat
open Go.RowKit

set_option maxRecDepth 100000 in
set_option maxHeartbeats 900000 in
theorem lrfield_good {a1 e1 : Option Addr} {c1 t1 : Nat} {x1 y1 : List Int} {a2 e2 : Option Addr} {c2 t2 : Nat} {x2 y2 : List Int} {a3 e3 : Option Addr} {c3 t3 : Nat} {x3 y3 : List Int} {w : World} (g1 g2 g3 : Bool) (F1 : Fr 0 w a1 c1 x1 e1 t1 y1) (F2 : Fr 0 w a2 c2 x2 e2 t2 y2) (F3 : Fr 0 w a3 c3 x3 e3 t3 y3) (hl1 : x1.length ≤ 5 ∧ y1.length ≤ 5) (hl2 : x2.length ≤ 5 ∧ y2.length ≤ 5) (hl3 : x3.length ≤ 5 ∧ y3.length ≤ 5) {q1 q2 q3 : Rat} (I1 : Is g1 x1 y1 q1 5) (I2 : Is g2 x2 y2 q2 5) (I3 : Is g3 x3 y3 q3 5) :
    Calls Tryz.prog 6 #[.agg #[.bool g1, .slice a1 x1.length c1, .slice e1 y1.length t1], .agg #[.bool g2, .slice a2 x2.length c2, .slice e2 y2.length t2], .agg #[.bool g3, .slice a3 x3.length c3, .slice e3 y3.length t3]] w fun e w' => e = .returned (.bool true) ∧ Below w.heap.size w w' := by
  have hlen0 : Hid (∀ r ∈ ([⟨g1, a1, c1, x1, e1, t1, y1⟩, ⟨g2, a2, c2, x2, e2, t2, y2⟩, ⟨g3, a3, c3, x3, e3, t3, y3⟩] : List RV), r.xs.length ≤ 1000 ∧ r.ds.length ≤ 1000) := fun r hr => by
    simp only [List.mem_cons, List.not_mem_nil, or_false] at hr
    rcases hr with rfl | rfl | rfl <;> constructor <;> simp <;> omega
  have HL := long_no [⟨g1, a1, c1, x1, e1, t1, y1⟩, ⟨g2, a2, c2, x2, e2, t2, y2⟩, ⟨g3, a3, c3, x3, e3, t3, y3⟩] (by simp) (fun r hr => by
    simp only [List.mem_cons, List.not_mem_nil, or_false] at hr
    rcases hr with rfl | rfl | rfl
    · exact hl1
    · exact hl2
    · exact hl3)
  have HG := good_yes [⟨g1, a1, c1, x1, e1, t1, y1⟩, ⟨g2, a2, c2, x2, e2, t2, y2⟩, ⟨g3, a3, c3, x3, e3, t3, y3⟩] (fun r hr => by
    simp only [List.mem_cons, List.not_mem_nil, or_false] at hr
    rcases hr with rfl | rfl | rfl
    · exact I1.good F1.up.words F1.down.words
    · exact I2.good F2.up.words F2.down.words
    · exact I3.good F3.up.words F3.down.words)
  clear hl1 hl2 hl3
  have hB := Below.refl w.heap.size w
  go_enter Tryz.func6, Tryz.ntmps6
  have hA := Below.refl w.heap.size w
  have hq : Below w.heap.size w (w.alloc (.cells #[.bool g1, .slice a1 x1.length c1, .slice e1 y1.length t1] 30)) := (Below.refl _ _).alloc (Nat.le_refl _) _
  replace F1 := F1.below hq
  replace F2 := F2.below hq
  replace F3 := F3.below hq
  have E1 : Box (w.alloc (.cells #[.bool g1, .slice a1 x1.length c1, .slice e1 y1.length t1] 30)) (w.heap.size) (.cells #[.bool g1, .slice a1 x1.length c1, .slice e1 y1.length t1] 30) := Box.put (.cells #[.bool g1, .slice a1 x1.length c1, .slice e1 y1.length t1] 30) rfl
  replace hA := hA.trans (hq.mono hA.size)
  replace hB := hB.trans (hq.mono hB.size)
  clear hq
  have hq : Below (w.alloc (.cells #[.bool g1, .slice a1 x1.length c1, .slice e1 y1.length t1] 30)).heap.size (w.alloc (.cells #[.bool g1, .slice a1 x1.length c1, .slice e1 y1.length t1] 30)) ((w.alloc (.cells #[.bool g1, .slice a1 x1.length c1, .slice e1 y1.length t1] 30)).alloc (.cells #[.bool g2, .slice a2 x2.length c2, .slice e2 y2.length t2] 30)) := (Below.refl _ _).alloc (Nat.le_refl _) _
  replace F1 := F1.below hq
  replace F2 := F2.below hq
  replace F3 := F3.below hq
  replace E1 := E1.below hq
  have E2 : Box ((w.alloc (.cells #[.bool g1, .slice a1 x1.length c1, .slice e1 y1.length t1] 30)).alloc (.cells #[.bool g2, .slice a2 x2.length c2, .slice e2 y2.length t2] 30)) (w.heap.size + 1) (.cells #[.bool g2, .slice a2 x2.length c2, .slice e2 y2.length t2] 30) := Box.put (.cells #[.bool g2, .slice a2 x2.length c2, .slice e2 y2.length t2] 30) (by simp)
  replace hA := hA.trans (hq.mono hA.size)
  replace hB := hB.trans (hq.mono hB.size)
  clear hq
  have hq : Below ((w.alloc (.cells #[.bool g1, .slice a1 x1.length c1, .slice e1 y1.length t1] 30)).alloc (.cells #[.bool g2, .slice a2 x2.length c2, .slice e2 y2.length t2] 30)).heap.size ((w.alloc (.cells #[.bool g1, .slice a1 x1.length c1, .slice e1 y1.length t1] 30)).alloc (.cells #[.bool g2, .slice a2 x2.length c2, .slice e2 y2.length t2] 30)) (((w.alloc (.cells #[.bool g1, .slice a1 x1.length c1, .slice e1 y1.length t1] 30)).alloc (.cells #[.bool g2, .slice a2 x2.length c2, .slice e2 y2.length t2] 30)).alloc (.cells #[.bool g3, .slice a3 x3.length c3, .slice e3 y3.length t3] 30)) := (Below.refl _ _).alloc (Nat.le_refl _) _
  replace F1 := F1.below hq
  replace F2 := F2.below hq
  replace F3 := F3.below hq
  replace E1 := E1.below hq
  replace E2 := E2.below hq
  have E3 : Box (((w.alloc (.cells #[.bool g1, .slice a1 x1.length c1, .slice e1 y1.length t1] 30)).alloc (.cells #[.bool g2, .slice a2 x2.length c2, .slice e2 y2.length t2] 30)).alloc (.cells #[.bool g3, .slice a3 x3.length c3, .slice e3 y3.length t3] 30)) (w.heap.size + 2) (.cells #[.bool g3, .slice a3 x3.length c3, .slice e3 y3.length t3] 30) := Box.put (.cells #[.bool g3, .slice a3 x3.length c3, .slice e3 y3.length t3] 30) (by simp)
  replace hA := hA.trans (hq.mono hA.size)
  replace hB := hB.trans (hq.mono hB.size)
  clear hq
  clear hA
  go_wp2_with fail
  obtain ⟨u1, hname⟩ : ∃ u, (((w.alloc (.cells #[.bool g1, .slice a1 x1.length c1, .slice e1 y1.length t1] 30)).alloc (.cells #[.bool g2, .slice a2 x2.length c2, .slice e2 y2.length t2] 30)).alloc (.cells #[.bool g3, .slice a3 x3.length c3, .slice e3 y3.length t3] 30)) = u := ⟨_, rfl⟩
  rw [hname] at hB F1 F2 F3 E1 E2 E3 ⊢
  have zh1 := hB.size
  clear hname
  refine (lrknown_any _).mono ?_
  rintro e w2 ⟨rfl, hb⟩
  replace F1 := F1.below hb
  replace F2 := F2.below hb
  replace F3 := F3.below hb
  replace E1 := E1.below hb
  replace E2 := E2.below hb
  replace E3 := E3.below hb
  replace hB := hB.trans (hb.mono hB.size)
  have zz2 := hb.size
  have zh2 := hB.size
  clear hb
  obtain ⟨k0, k1, k2, f0, f1, f2⟩ := E1.three
  obtain ⟨k3, k4, k5, f3, f4, f5⟩ := E2.three
  obtain ⟨k6, k7, k8, f6, f7, f8⟩ := E3.three
  have qE1 := E1.lt
  have qE2 := E2.lt
  have qE3 := E3.lt
  have hA := Below.refl w2.heap.size w2
  have hq : Below w2.heap.size w2 (w2.alloc (.cells #[.bool g1, .slice a1 x1.length c1, .slice e1 y1.length t1, .bool g2, .slice a2 x2.length c2, .slice e2 y2.length t2, .bool g3, .slice a3 x3.length c3, .slice e3 y3.length t3] 30)) := (Below.refl _ _).alloc (Nat.le_refl _) _
  replace F1 := F1.below hq
  replace F2 := F2.below hq
  replace F3 := F3.below hq
  replace E1 := E1.below hq
  replace E2 := E2.below hq
  replace E3 := E3.below hq
  have L0 : Box (w2.alloc (.cells #[.bool g1, .slice a1 x1.length c1, .slice e1 y1.length t1, .bool g2, .slice a2 x2.length c2, .slice e2 y2.length t2, .bool g3, .slice a3 x3.length c3, .slice e3 y3.length t3] 30)) (w2.heap.size) (.cells #[.bool g1, .slice a1 x1.length c1, .slice e1 y1.length t1, .bool g2, .slice a2 x2.length c2, .slice e2 y2.length t2, .bool g3, .slice a3 x3.length c3, .slice e3 y3.length t3] 30) := Box.put (.cells #[.bool g1, .slice a1 x1.length c1, .slice e1 y1.length t1, .bool g2, .slice a2 x2.length c2, .slice e2 y2.length t2, .bool g3, .slice a3 x3.length c3, .slice e3 y3.length t3] 30) rfl
  replace hA := hA.trans (hq.mono hA.size)
  replace hB := hB.trans (hq.mono hB.size)
  clear hq
  clear hA
  go_wp2_with fail
  clear k0 k1 k2 f0 f1 f2 k3 k4 k5 f3 f4 f5 k6 k7 k8 f6 f7 f8
  obtain ⟨u3, hname⟩ : ∃ u, (w2.alloc (.cells #[.bool g1, .slice a1 x1.length c1, .slice e1 y1.length t1, .bool g2, .slice a2 x2.length c2, .slice e2 y2.length t2, .bool g3, .slice a3 x3.length c3, .slice e3 y3.length t3] 30)) = u := ⟨_, rfl⟩
  rw [hname] at hB F1 F2 F3 E1 E2 E3 L0 ⊢
  have zh3 := hB.size
  clear hname
  have R := row_box (rs := [⟨g1, a1, c1, x1, e1, t1, y1⟩, ⟨g2, a2, c2, x2, e2, t2, y2⟩, ⟨g3, a3, c3, x3, e3, t3, y3⟩]) (k := w2.heap.size) L0 (fun r hr => by
      simp only [List.mem_cons, List.not_mem_nil, or_false] at hr
      rcases hr with rfl | rfl | rfl
      · exact F1.mono (Nat.zero_le _)
      · exact F2.mono (Nat.zero_le _)
      · exact F3.mono (Nat.zero_le _))
  refine (lrlong_any (cap := 3) R false HL).mono ?_
  rintro e w4 ⟨rfl, hb⟩
  replace F1 := F1.below hb
  replace F2 := F2.below hb
  replace F3 := F3.below hb
  replace E1 := E1.below hb
  replace E2 := E2.below hb
  replace E3 := E3.below hb
  replace L0 := L0.below hb
  replace hB := hB.trans (hb.mono hB.size)
  have zz4 := hb.size
  have zh4 := hB.size
  clear hb
  clear R
  clear L0
  obtain ⟨k0, k1, k2, f0, f1, f2⟩ := E1.three
  obtain ⟨k3, k4, k5, f3, f4, f5⟩ := E2.three
  obtain ⟨k6, k7, k8, f6, f7, f8⟩ := E3.three
  have qE1 := E1.lt
  have qE2 := E2.lt
  have qE3 := E3.lt
  have hA := Below.refl w4.heap.size w4
  have hq : Below w4.heap.size w4 (w4.alloc (.cells #[.bool g1, .slice a1 x1.length c1, .slice e1 y1.length t1, .bool g2, .slice a2 x2.length c2, .slice e2 y2.length t2, .bool g3, .slice a3 x3.length c3, .slice e3 y3.length t3] 30)) := (Below.refl _ _).alloc (Nat.le_refl _) _
  replace F1 := F1.below hq
  replace F2 := F2.below hq
  replace F3 := F3.below hq
  replace E1 := E1.below hq
  replace E2 := E2.below hq
  replace E3 := E3.below hq
  have L0 : Box (w4.alloc (.cells #[.bool g1, .slice a1 x1.length c1, .slice e1 y1.length t1, .bool g2, .slice a2 x2.length c2, .slice e2 y2.length t2, .bool g3, .slice a3 x3.length c3, .slice e3 y3.length t3] 30)) (w4.heap.size) (.cells #[.bool g1, .slice a1 x1.length c1, .slice e1 y1.length t1, .bool g2, .slice a2 x2.length c2, .slice e2 y2.length t2, .bool g3, .slice a3 x3.length c3, .slice e3 y3.length t3] 30) := Box.put (.cells #[.bool g1, .slice a1 x1.length c1, .slice e1 y1.length t1, .bool g2, .slice a2 x2.length c2, .slice e2 y2.length t2, .bool g3, .slice a3 x3.length c3, .slice e3 y3.length t3] 30) rfl
  replace hA := hA.trans (hq.mono hA.size)
  replace hB := hB.trans (hq.mono hB.size)
  clear hq
  clear hA
  go_wp2_with fail
  clear k0 k1 k2 f0 f1 f2 k3 k4 k5 f3 f4 f5 k6 k7 k8 f6 f7 f8
  obtain ⟨u5, hname⟩ : ∃ u, (w4.alloc (.cells #[.bool g1, .slice a1 x1.length c1, .slice e1 y1.length t1, .bool g2, .slice a2 x2.length c2, .slice e2 y2.length t2, .bool g3, .slice a3 x3.length c3, .slice e3 y3.length t3] 30)) = u := ⟨_, rfl⟩
  rw [hname] at hB F1 F2 F3 E1 E2 E3 L0 ⊢
  have zh5 := hB.size
  clear hname
  have R := row_box (rs := [⟨g1, a1, c1, x1, e1, t1, y1⟩, ⟨g2, a2, c2, x2, e2, t2, y2⟩, ⟨g3, a3, c3, x3, e3, t3, y3⟩]) (k := w4.heap.size) L0 (fun r hr => by
      simp only [List.mem_cons, List.not_mem_nil, or_false] at hr
      rcases hr with rfl | rfl | rfl
      · exact F1.mono (Nat.zero_le _)
      · exact F2.mono (Nat.zero_le _)
      · exact F3.mono (Nat.zero_le _))
  refine (lrgood_any (cap := 3) R (by simp) hlen0.out true HG).mono ?_
  rintro e w6 ⟨rfl, hb⟩
  replace F1 := F1.below hb
  replace F2 := F2.below hb
  replace F3 := F3.below hb
  replace E1 := E1.below hb
  replace E2 := E2.below hb
  replace E3 := E3.below hb
  replace L0 := L0.below hb
  replace hB := hB.trans (hb.mono hB.size)
  have zz6 := hb.size
  have zh6 := hB.size
  clear hb
  clear R
  clear L0
  obtain ⟨k0, k1, k2, f0, f1, f2⟩ := E1.three
  obtain ⟨k3, k4, k5, f3, f4, f5⟩ := E2.three
  obtain ⟨k6, k7, k8, f6, f7, f8⟩ := E3.three
  have qE1 := E1.lt
  have qE2 := E2.lt
  have qE3 := E3.lt
  have hA := Below.refl w6.heap.size w6
  have hq : Below w6.heap.size w6 (w6.alloc (.cells #[.bool g1, .slice a1 x1.length c1, .slice e1 y1.length t1, .bool g2, .slice a2 x2.length c2, .slice e2 y2.length t2, .bool g3, .slice a3 x3.length c3, .slice e3 y3.length t3] 30)) := (Below.refl _ _).alloc (Nat.le_refl _) _
  replace F1 := F1.below hq
  replace F2 := F2.below hq
  replace F3 := F3.below hq
  replace E1 := E1.below hq
  replace E2 := E2.below hq
  replace E3 := E3.below hq
  have L4 : Box (w6.alloc (.cells #[.bool g1, .slice a1 x1.length c1, .slice e1 y1.length t1, .bool g2, .slice a2 x2.length c2, .slice e2 y2.length t2, .bool g3, .slice a3 x3.length c3, .slice e3 y3.length t3] 30)) (w6.heap.size) (.cells #[.bool g1, .slice a1 x1.length c1, .slice e1 y1.length t1, .bool g2, .slice a2 x2.length c2, .slice e2 y2.length t2, .bool g3, .slice a3 x3.length c3, .slice e3 y3.length t3] 30) := Box.put (.cells #[.bool g1, .slice a1 x1.length c1, .slice e1 y1.length t1, .bool g2, .slice a2 x2.length c2, .slice e2 y2.length t2, .bool g3, .slice a3 x3.length c3, .slice e3 y3.length t3] 30) rfl
  replace hA := hA.trans (hq.mono hA.size)
  replace hB := hB.trans (hq.mono hB.size)
  clear hq
  clear hA
  go_wp2_with fail
  clear k0 k1 k2 f0 f1 f2 k3 k4 k5 f3 f4 f5 k6 k7 k8 f6 f7 f8
  obtain ⟨u7, hname⟩ : ∃ u, (w6.alloc (.cells #[.bool g1, .slice a1 x1.length c1, .slice e1 y1.length t1, .bool g2, .slice a2 x2.length c2, .slice e2 y2.length t2, .bool g3, .slice a3 x3.length c3, .slice e3 y3.length t3] 30)) = u := ⟨_, rfl⟩
  rw [hname] at hB F1 F2 F3 E1 E2 E3 L4 ⊢
  have zh7 := hB.size
  clear hname
  have R := row_box (rs := [⟨g1, a1, c1, x1, e1, t1, y1⟩, ⟨g2, a2, c2, x2, e2, t2, y2⟩, ⟨g3, a3, c3, x3, e3, t3, y3⟩]) (k := w6.heap.size) L4 (fun r hr => by
      simp only [List.mem_cons, List.not_mem_nil, or_false] at hr
      rcases hr with rfl | rfl | rfl
      · exact F1.mono (Nat.zero_le _)
      · exact F2.mono (Nat.zero_le _)
      · exact F3.mono (Nat.zero_le _))
  have hlen : ∀ r ∈ ([⟨g1, a1, c1, x1, e1, t1, y1⟩, ⟨g2, a2, c2, x2, e2, t2, y2⟩, ⟨g3, a3, c3, x3, e3, t3, y3⟩] : List RV), r.xs.length ≤ 5 ∧ r.ds.length ≤ 5 := fun r hr => by
      simp only [List.mem_cons, List.not_mem_nil, or_false] at hr
      rcases hr with rfl | rfl | rfl
      · exact ⟨Nat.le_trans I1.lu (by decide), Nat.le_trans I1.ld (by decide)⟩
      · exact ⟨Nat.le_trans I2.lu (by decide), Nat.le_trans I2.ld (by decide)⟩
      · exact ⟨Nat.le_trans I3.lu (by decide), Nat.le_trans I3.ld (by decide)⟩
  have hg : ∀ r ∈ ([⟨g1, a1, c1, x1, e1, t1, y1⟩, ⟨g2, a2, c2, x2, e2, t2, y2⟩, ⟨g3, a3, c3, x3, e3, t3, y3⟩] : List RV), formR r.b r.xs r.ds = 0 := fun r hr => by
      simp only [List.mem_cons, List.not_mem_nil, or_false] at hr
      rcases hr with rfl | rfl | rfl
      · exact I1.good F1.up.words F1.down.words
      · exact I2.good F2.up.words F2.down.words
      · exact I3.good F3.up.words F3.down.words
  refine (padd_ok (cap := 3) R (by simp) hlen (by omega) hg).mono ?_
  rintro e w8 ⟨g5, a5, c5, x5, e5, t5, y5, rfl, F5, P5, I5, hb⟩
  replace I5 : Is g5 x5 y5 (q1 + q2 + q3) (19) := (I5.mono (by simp)).to (by simp only [sumQ, RV.q, List.foldl, I1.rat, I2.rat, I3.rat]; grind)
  replace F1 := F1.below hb
  replace F2 := F2.below hb
  replace F3 := F3.below hb
  replace E1 := E1.below hb
  replace E2 := E2.below hb
  replace E3 := E3.below hb
  replace L4 := L4.below hb
  replace hB := hB.trans (hb.mono hB.size)
  have zz8 := hb.size
  have zh8 := hB.size
  clear hb
  clear R hlen hg
  clear L4
  obtain ⟨k0, k1, k2, f0, f1, f2⟩ := E1.three
  obtain ⟨k3, k4, k5, f3, f4, f5⟩ := E2.three
  obtain ⟨k6, k7, k8, f6, f7, f8⟩ := E3.three
  have qE1 := E1.lt
  have qE2 := E2.lt
  have qE3 := E3.lt
  have hA := Below.refl w8.heap.size w8
  have hq : Below w8.heap.size w8 (w8.alloc (.cells #[.bool g5, .slice a5 x5.length c5, .slice e5 y5.length t5] 30)) := (Below.refl _ _).alloc (Nat.le_refl _) _
  replace F1 := F1.below hq
  replace F2 := F2.below hq
  replace F3 := F3.below hq
  replace E1 := E1.below hq
  replace E2 := E2.below hq
  replace E3 := E3.below hq
  replace F5 := F5.below hq
  have E5 : Box (w8.alloc (.cells #[.bool g5, .slice a5 x5.length c5, .slice e5 y5.length t5] 30)) (w8.heap.size) (.cells #[.bool g5, .slice a5 x5.length c5, .slice e5 y5.length t5] 30) := Box.put (.cells #[.bool g5, .slice a5 x5.length c5, .slice e5 y5.length t5] 30) rfl
  replace hA := hA.trans (hq.mono hA.size)
  replace hB := hB.trans (hq.mono hB.size)
  clear hq
  have hq : Below (w8.alloc (.cells #[.bool g5, .slice a5 x5.length c5, .slice e5 y5.length t5] 30)).heap.size (w8.alloc (.cells #[.bool g5, .slice a5 x5.length c5, .slice e5 y5.length t5] 30)) ((w8.alloc (.cells #[.bool g5, .slice a5 x5.length c5, .slice e5 y5.length t5] 30)).alloc (.cells #[.bool g3, .slice a3 x3.length c3, .slice e3 y3.length t3, .bool g1, .slice a1 x1.length c1, .slice e1 y1.length t1, .bool g2, .slice a2 x2.length c2, .slice e2 y2.length t2] 30)) := (Below.refl _ _).alloc (Nat.le_refl _) _
  replace F1 := F1.below hq
  replace F2 := F2.below hq
  replace F3 := F3.below hq
  replace E1 := E1.below hq
  replace E2 := E2.below hq
  replace E3 := E3.below hq
  replace F5 := F5.below hq
  replace E5 := E5.below hq
  have L6 : Box ((w8.alloc (.cells #[.bool g5, .slice a5 x5.length c5, .slice e5 y5.length t5] 30)).alloc (.cells #[.bool g3, .slice a3 x3.length c3, .slice e3 y3.length t3, .bool g1, .slice a1 x1.length c1, .slice e1 y1.length t1, .bool g2, .slice a2 x2.length c2, .slice e2 y2.length t2] 30)) (w8.heap.size + 1) (.cells #[.bool g3, .slice a3 x3.length c3, .slice e3 y3.length t3, .bool g1, .slice a1 x1.length c1, .slice e1 y1.length t1, .bool g2, .slice a2 x2.length c2, .slice e2 y2.length t2] 30) := Box.put (.cells #[.bool g3, .slice a3 x3.length c3, .slice e3 y3.length t3, .bool g1, .slice a1 x1.length c1, .slice e1 y1.length t1, .bool g2, .slice a2 x2.length c2, .slice e2 y2.length t2] 30) (by simp)
  replace hA := hA.trans (hq.mono hA.size)
  replace hB := hB.trans (hq.mono hB.size)
  clear hq
  clear hA
  go_wp2_with fail
  clear k0 k1 k2 f0 f1 f2 k3 k4 k5 f3 f4 f5 k6 k7 k8 f6 f7 f8
  obtain ⟨u9, hname⟩ : ∃ u, ((w8.alloc (.cells #[.bool g5, .slice a5 x5.length c5, .slice e5 y5.length t5] 30)).alloc (.cells #[.bool g3, .slice a3 x3.length c3, .slice e3 y3.length t3, .bool g1, .slice a1 x1.length c1, .slice e1 y1.length t1, .bool g2, .slice a2 x2.length c2, .slice e2 y2.length t2] 30)) = u := ⟨_, rfl⟩
  rw [hname] at hB F1 F2 F3 E1 E2 E3 F5 E5 L6 ⊢
  have zh9 := hB.size
  clear hname
  have R := row_box (rs := [⟨g3, a3, c3, x3, e3, t3, y3⟩, ⟨g1, a1, c1, x1, e1, t1, y1⟩, ⟨g2, a2, c2, x2, e2, t2, y2⟩]) (k := w8.heap.size + 1) L6 (fun r hr => by
      simp only [List.mem_cons, List.not_mem_nil, or_false] at hr
      rcases hr with rfl | rfl | rfl
      · exact F3.mono (Nat.zero_le _)
      · exact F1.mono (Nat.zero_le _)
      · exact F2.mono (Nat.zero_le _))
  have hlen : ∀ r ∈ ([⟨g3, a3, c3, x3, e3, t3, y3⟩, ⟨g1, a1, c1, x1, e1, t1, y1⟩, ⟨g2, a2, c2, x2, e2, t2, y2⟩] : List RV), r.xs.length ≤ 5 ∧ r.ds.length ≤ 5 := fun r hr => by
      simp only [List.mem_cons, List.not_mem_nil, or_false] at hr
      rcases hr with rfl | rfl | rfl
      · exact ⟨Nat.le_trans I3.lu (by decide), Nat.le_trans I3.ld (by decide)⟩
      · exact ⟨Nat.le_trans I1.lu (by decide), Nat.le_trans I1.ld (by decide)⟩
      · exact ⟨Nat.le_trans I2.lu (by decide), Nat.le_trans I2.ld (by decide)⟩
  have hg : ∀ r ∈ ([⟨g3, a3, c3, x3, e3, t3, y3⟩, ⟨g1, a1, c1, x1, e1, t1, y1⟩, ⟨g2, a2, c2, x2, e2, t2, y2⟩] : List RV), formR r.b r.xs r.ds = 0 := fun r hr => by
      simp only [List.mem_cons, List.not_mem_nil, or_false] at hr
      rcases hr with rfl | rfl | rfl
      · exact I3.good F3.up.words F3.down.words
      · exact I1.good F1.up.words F1.down.words
      · exact I2.good F2.up.words F2.down.words
  refine (padd_ok (cap := 3) R (by simp) hlen (by omega) hg).mono ?_
  rintro e w10 ⟨g7, a7, c7, x7, e7, t7, y7, rfl, F7, P7, I7, hb⟩
  replace I7 : Is g7 x7 y7 (q1 + q2 + q3) (19) := (I7.mono (by simp)).to (by simp only [sumQ, RV.q, List.foldl, I3.rat, I1.rat, I2.rat]; grind)
  replace F1 := F1.below hb
  replace F2 := F2.below hb
  replace F3 := F3.below hb
  replace E1 := E1.below hb
  replace E2 := E2.below hb
  replace E3 := E3.below hb
  replace F5 := F5.below hb
  replace E5 := E5.below hb
  replace L6 := L6.below hb
  replace hB := hB.trans (hb.mono hB.size)
  have zz10 := hb.size
  have zh10 := hB.size
  clear hb
  clear R hlen hg
  clear L6
  obtain ⟨k0, k1, k2, f0, f1, f2⟩ := E1.three
  obtain ⟨k3, k4, k5, f3, f4, f5⟩ := E2.three
  obtain ⟨k6, k7, k8, f6, f7, f8⟩ := E3.three
  have qE1 := E1.lt
  have qE2 := E2.lt
  have qE3 := E3.lt
  have qE5 := E5.lt
  have hA := Below.refl w10.heap.size w10
  have hq : Below w10.heap.size w10 (w10.alloc (.cells #[.bool g7, .slice a7 x7.length c7, .slice e7 y7.length t7] 30)) := (Below.refl _ _).alloc (Nat.le_refl _) _
  replace F1 := F1.below hq
  replace F2 := F2.below hq
  replace F3 := F3.below hq
  replace E1 := E1.below hq
  replace E2 := E2.below hq
  replace E3 := E3.below hq
  replace F5 := F5.below hq
  replace E5 := E5.below hq
  replace F7 := F7.below hq
  have E7 : Box (w10.alloc (.cells #[.bool g7, .slice a7 x7.length c7, .slice e7 y7.length t7] 30)) (w10.heap.size) (.cells #[.bool g7, .slice a7 x7.length c7, .slice e7 y7.length t7] 30) := Box.put (.cells #[.bool g7, .slice a7 x7.length c7, .slice e7 y7.length t7] 30) rfl
  replace hA := hA.trans (hq.mono hA.size)
  replace hB := hB.trans (hq.mono hB.size)
  clear hq
  have hq : Below (w10.alloc (.cells #[.bool g7, .slice a7 x7.length c7, .slice e7 y7.length t7] 30)).heap.size (w10.alloc (.cells #[.bool g7, .slice a7 x7.length c7, .slice e7 y7.length t7] 30)) ((w10.alloc (.cells #[.bool g7, .slice a7 x7.length c7, .slice e7 y7.length t7] 30)).alloc (.cells #[.bool g1, .slice a1 x1.length c1, .slice e1 y1.length t1, .bool g2, .slice a2 x2.length c2, .slice e2 y2.length t2, .bool g3, .slice a3 x3.length c3, .slice e3 y3.length t3] 30)) := (Below.refl _ _).alloc (Nat.le_refl _) _
  replace F1 := F1.below hq
  replace F2 := F2.below hq
  replace F3 := F3.below hq
  replace E1 := E1.below hq
  replace E2 := E2.below hq
  replace E3 := E3.below hq
  replace F5 := F5.below hq
  replace E5 := E5.below hq
  replace F7 := F7.below hq
  replace E7 := E7.below hq
  have L8 : Box ((w10.alloc (.cells #[.bool g7, .slice a7 x7.length c7, .slice e7 y7.length t7] 30)).alloc (.cells #[.bool g1, .slice a1 x1.length c1, .slice e1 y1.length t1, .bool g2, .slice a2 x2.length c2, .slice e2 y2.length t2, .bool g3, .slice a3 x3.length c3, .slice e3 y3.length t3] 30)) (w10.heap.size + 1) (.cells #[.bool g1, .slice a1 x1.length c1, .slice e1 y1.length t1, .bool g2, .slice a2 x2.length c2, .slice e2 y2.length t2, .bool g3, .slice a3 x3.length c3, .slice e3 y3.length t3] 30) := Box.put (.cells #[.bool g1, .slice a1 x1.length c1, .slice e1 y1.length t1, .bool g2, .slice a2 x2.length c2, .slice e2 y2.length t2, .bool g3, .slice a3 x3.length c3, .slice e3 y3.length t3] 30) (by simp)
  replace hA := hA.trans (hq.mono hA.size)
  replace hB := hB.trans (hq.mono hB.size)
  clear hq
  clear hA
  go_wp2_with fail
  clear k0 k1 k2 f0 f1 f2 k3 k4 k5 f3 f4 f5 k6 k7 k8 f6 f7 f8
  obtain ⟨u11, hname⟩ : ∃ u, ((w10.alloc (.cells #[.bool g7, .slice a7 x7.length c7, .slice e7 y7.length t7] 30)).alloc (.cells #[.bool g1, .slice a1 x1.length c1, .slice e1 y1.length t1, .bool g2, .slice a2 x2.length c2, .slice e2 y2.length t2, .bool g3, .slice a3 x3.length c3, .slice e3 y3.length t3] 30)) = u := ⟨_, rfl⟩
  rw [hname] at hB F1 F2 F3 E1 E2 E3 F5 E5 F7 E7 L8 ⊢
  have zh11 := hB.size
  clear hname
  have R := row_box (rs := [⟨g1, a1, c1, x1, e1, t1, y1⟩, ⟨g2, a2, c2, x2, e2, t2, y2⟩, ⟨g3, a3, c3, x3, e3, t3, y3⟩]) (k := w10.heap.size + 1) L8 (fun r hr => by
      simp only [List.mem_cons, List.not_mem_nil, or_false] at hr
      rcases hr with rfl | rfl | rfl
      · exact F1.mono (Nat.zero_le _)
      · exact F2.mono (Nat.zero_le _)
      · exact F3.mono (Nat.zero_le _))
  have hlen : ∀ r ∈ ([⟨g1, a1, c1, x1, e1, t1, y1⟩, ⟨g2, a2, c2, x2, e2, t2, y2⟩, ⟨g3, a3, c3, x3, e3, t3, y3⟩] : List RV), r.xs.length ≤ 5 ∧ r.ds.length ≤ 5 := fun r hr => by
      simp only [List.mem_cons, List.not_mem_nil, or_false] at hr
      rcases hr with rfl | rfl | rfl
      · exact ⟨Nat.le_trans I1.lu (by decide), Nat.le_trans I1.ld (by decide)⟩
      · exact ⟨Nat.le_trans I2.lu (by decide), Nat.le_trans I2.ld (by decide)⟩
      · exact ⟨Nat.le_trans I3.lu (by decide), Nat.le_trans I3.ld (by decide)⟩
  have hg : ∀ r ∈ ([⟨g1, a1, c1, x1, e1, t1, y1⟩, ⟨g2, a2, c2, x2, e2, t2, y2⟩, ⟨g3, a3, c3, x3, e3, t3, y3⟩] : List RV), formR r.b r.xs r.ds = 0 := fun r hr => by
      simp only [List.mem_cons, List.not_mem_nil, or_false] at hr
      rcases hr with rfl | rfl | rfl
      · exact I1.good F1.up.words F1.down.words
      · exact I2.good F2.up.words F2.down.words
      · exact I3.good F3.up.words F3.down.words
  refine (pmul_ok (cap := 3) R (by simp) hlen (by omega) hg).mono ?_
  rintro e w12 ⟨g9, a9, c9, x9, e9, t9, y9, rfl, F9, P9, I9, hb⟩
  replace I9 : Is g9 x9 y9 (q1 * q2 * q3) (19) := (I9.mono (by simp)).to (by simp only [mulQ, RV.q, List.foldl, I1.rat, I2.rat, I3.rat]; grind)
  replace F1 := F1.below hb
  replace F2 := F2.below hb
  replace F3 := F3.below hb
  replace E1 := E1.below hb
  replace E2 := E2.below hb
  replace E3 := E3.below hb
  replace F5 := F5.below hb
  replace E5 := E5.below hb
  replace F7 := F7.below hb
  replace E7 := E7.below hb
  replace L8 := L8.below hb
  replace hB := hB.trans (hb.mono hB.size)
  have zz12 := hb.size
  have zh12 := hB.size
  clear hb
  clear R hlen hg
  clear L8
  obtain ⟨k0, k1, k2, f0, f1, f2⟩ := E1.three
  obtain ⟨k3, k4, k5, f3, f4, f5⟩ := E2.three
  obtain ⟨k6, k7, k8, f6, f7, f8⟩ := E3.three
  have qE1 := E1.lt
  have qE2 := E2.lt
  have qE3 := E3.lt
  have qE5 := E5.lt
  have qE7 := E7.lt
  have hA := Below.refl w12.heap.size w12
  have hq : Below w12.heap.size w12 (w12.alloc (.cells #[.bool g9, .slice a9 x9.length c9, .slice e9 y9.length t9] 30)) := (Below.refl _ _).alloc (Nat.le_refl _) _
  replace F1 := F1.below hq
  replace F2 := F2.below hq
  replace F3 := F3.below hq
  replace E1 := E1.below hq
  replace E2 := E2.below hq
  replace E3 := E3.below hq
  replace F5 := F5.below hq
  replace E5 := E5.below hq
  replace F7 := F7.below hq
  replace E7 := E7.below hq
  replace F9 := F9.below hq
  have E9 : Box (w12.alloc (.cells #[.bool g9, .slice a9 x9.length c9, .slice e9 y9.length t9] 30)) (w12.heap.size) (.cells #[.bool g9, .slice a9 x9.length c9, .slice e9 y9.length t9] 30) := Box.put (.cells #[.bool g9, .slice a9 x9.length c9, .slice e9 y9.length t9] 30) rfl
  replace hA := hA.trans (hq.mono hA.size)
  replace hB := hB.trans (hq.mono hB.size)
  clear hq
  have hq : Below (w12.alloc (.cells #[.bool g9, .slice a9 x9.length c9, .slice e9 y9.length t9] 30)).heap.size (w12.alloc (.cells #[.bool g9, .slice a9 x9.length c9, .slice e9 y9.length t9] 30)) ((w12.alloc (.cells #[.bool g9, .slice a9 x9.length c9, .slice e9 y9.length t9] 30)).alloc (.cells #[.bool g2, .slice a2 x2.length c2, .slice e2 y2.length t2, .bool g3, .slice a3 x3.length c3, .slice e3 y3.length t3, .bool g1, .slice a1 x1.length c1, .slice e1 y1.length t1] 30)) := (Below.refl _ _).alloc (Nat.le_refl _) _
  replace F1 := F1.below hq
  replace F2 := F2.below hq
  replace F3 := F3.below hq
  replace E1 := E1.below hq
  replace E2 := E2.below hq
  replace E3 := E3.below hq
  replace F5 := F5.below hq
  replace E5 := E5.below hq
  replace F7 := F7.below hq
  replace E7 := E7.below hq
  replace F9 := F9.below hq
  replace E9 := E9.below hq
  have L10 : Box ((w12.alloc (.cells #[.bool g9, .slice a9 x9.length c9, .slice e9 y9.length t9] 30)).alloc (.cells #[.bool g2, .slice a2 x2.length c2, .slice e2 y2.length t2, .bool g3, .slice a3 x3.length c3, .slice e3 y3.length t3, .bool g1, .slice a1 x1.length c1, .slice e1 y1.length t1] 30)) (w12.heap.size + 1) (.cells #[.bool g2, .slice a2 x2.length c2, .slice e2 y2.length t2, .bool g3, .slice a3 x3.length c3, .slice e3 y3.length t3, .bool g1, .slice a1 x1.length c1, .slice e1 y1.length t1] 30) := Box.put (.cells #[.bool g2, .slice a2 x2.length c2, .slice e2 y2.length t2, .bool g3, .slice a3 x3.length c3, .slice e3 y3.length t3, .bool g1, .slice a1 x1.length c1, .slice e1 y1.length t1] 30) (by simp)
  replace hA := hA.trans (hq.mono hA.size)
  replace hB := hB.trans (hq.mono hB.size)
  clear hq
  clear hA
  go_wp2_with fail
  clear k0 k1 k2 f0 f1 f2 k3 k4 k5 f3 f4 f5 k6 k7 k8 f6 f7 f8
  obtain ⟨u13, hname⟩ : ∃ u, ((w12.alloc (.cells #[.bool g9, .slice a9 x9.length c9, .slice e9 y9.length t9] 30)).alloc (.cells #[.bool g2, .slice a2 x2.length c2, .slice e2 y2.length t2, .bool g3, .slice a3 x3.length c3, .slice e3 y3.length t3, .bool g1, .slice a1 x1.length c1, .slice e1 y1.length t1] 30)) = u := ⟨_, rfl⟩
  rw [hname] at hB F1 F2 F3 E1 E2 E3 F5 E5 F7 E7 F9 E9 L10 ⊢
  have zh13 := hB.size
  clear hname
  have R := row_box (rs := [⟨g2, a2, c2, x2, e2, t2, y2⟩, ⟨g3, a3, c3, x3, e3, t3, y3⟩, ⟨g1, a1, c1, x1, e1, t1, y1⟩]) (k := w12.heap.size + 1) L10 (fun r hr => by
      simp only [List.mem_cons, List.not_mem_nil, or_false] at hr
      rcases hr with rfl | rfl | rfl
      · exact F2.mono (Nat.zero_le _)
      · exact F3.mono (Nat.zero_le _)
      · exact F1.mono (Nat.zero_le _))
  have hlen : ∀ r ∈ ([⟨g2, a2, c2, x2, e2, t2, y2⟩, ⟨g3, a3, c3, x3, e3, t3, y3⟩, ⟨g1, a1, c1, x1, e1, t1, y1⟩] : List RV), r.xs.length ≤ 5 ∧ r.ds.length ≤ 5 := fun r hr => by
      simp only [List.mem_cons, List.not_mem_nil, or_false] at hr
      rcases hr with rfl | rfl | rfl
      · exact ⟨Nat.le_trans I2.lu (by decide), Nat.le_trans I2.ld (by decide)⟩
      · exact ⟨Nat.le_trans I3.lu (by decide), Nat.le_trans I3.ld (by decide)⟩
      · exact ⟨Nat.le_trans I1.lu (by decide), Nat.le_trans I1.ld (by decide)⟩
  have hg : ∀ r ∈ ([⟨g2, a2, c2, x2, e2, t2, y2⟩, ⟨g3, a3, c3, x3, e3, t3, y3⟩, ⟨g1, a1, c1, x1, e1, t1, y1⟩] : List RV), formR r.b r.xs r.ds = 0 := fun r hr => by
      simp only [List.mem_cons, List.not_mem_nil, or_false] at hr
      rcases hr with rfl | rfl | rfl
      · exact I2.good F2.up.words F2.down.words
      · exact I3.good F3.up.words F3.down.words
      · exact I1.good F1.up.words F1.down.words
  refine (pmul_ok (cap := 3) R (by simp) hlen (by omega) hg).mono ?_
  rintro e w14 ⟨g11, a11, c11, x11, e11, t11, y11, rfl, F11, P11, I11, hb⟩
  replace I11 : Is g11 x11 y11 (q1 * q2 * q3) (19) := (I11.mono (by simp)).to (by simp only [mulQ, RV.q, List.foldl, I2.rat, I3.rat, I1.rat]; grind)
  replace F1 := F1.below hb
  replace F2 := F2.below hb
  replace F3 := F3.below hb
  replace E1 := E1.below hb
  replace E2 := E2.below hb
  replace E3 := E3.below hb
  replace F5 := F5.below hb
  replace E5 := E5.below hb
  replace F7 := F7.below hb
  replace E7 := E7.below hb
  replace F9 := F9.below hb
  replace E9 := E9.below hb
  replace L10 := L10.below hb
  replace hB := hB.trans (hb.mono hB.size)
  have zz14 := hb.size
  have zh14 := hB.size
  clear hb
  clear R hlen hg
  clear L10
  obtain ⟨k0, k1, k2, f0, f1, f2⟩ := E2.three
  obtain ⟨k3, k4, k5, f3, f4, f5⟩ := E3.three
  have qE1 := E1.lt
  have qE2 := E2.lt
  have qE3 := E3.lt
  have qE5 := E5.lt
  have qE7 := E7.lt
  have qE9 := E9.lt
  have hA := Below.refl w14.heap.size w14
  have hq : Below w14.heap.size w14 (w14.alloc (.cells #[.bool g11, .slice a11 x11.length c11, .slice e11 y11.length t11] 30)) := (Below.refl _ _).alloc (Nat.le_refl _) _
  replace F1 := F1.below hq
  replace F2 := F2.below hq
  replace F3 := F3.below hq
  replace E1 := E1.below hq
  replace E2 := E2.below hq
  replace E3 := E3.below hq
  replace F5 := F5.below hq
  replace E5 := E5.below hq
  replace F7 := F7.below hq
  replace E7 := E7.below hq
  replace F9 := F9.below hq
  replace E9 := E9.below hq
  replace F11 := F11.below hq
  have E11 : Box (w14.alloc (.cells #[.bool g11, .slice a11 x11.length c11, .slice e11 y11.length t11] 30)) (w14.heap.size) (.cells #[.bool g11, .slice a11 x11.length c11, .slice e11 y11.length t11] 30) := Box.put (.cells #[.bool g11, .slice a11 x11.length c11, .slice e11 y11.length t11] 30) rfl
  replace hA := hA.trans (hq.mono hA.size)
  replace hB := hB.trans (hq.mono hB.size)
  clear hq
  have hq : Below (w14.alloc (.cells #[.bool g11, .slice a11 x11.length c11, .slice e11 y11.length t11] 30)).heap.size (w14.alloc (.cells #[.bool g11, .slice a11 x11.length c11, .slice e11 y11.length t11] 30)) ((w14.alloc (.cells #[.bool g11, .slice a11 x11.length c11, .slice e11 y11.length t11] 30)).alloc (.cells #[.bool g2, .slice a2 x2.length c2, .slice e2 y2.length t2, .bool g3, .slice a3 x3.length c3, .slice e3 y3.length t3] 30)) := (Below.refl _ _).alloc (Nat.le_refl _) _
  replace F1 := F1.below hq
  replace F2 := F2.below hq
  replace F3 := F3.below hq
  replace E1 := E1.below hq
  replace E2 := E2.below hq
  replace E3 := E3.below hq
  replace F5 := F5.below hq
  replace E5 := E5.below hq
  replace F7 := F7.below hq
  replace E7 := E7.below hq
  replace F9 := F9.below hq
  replace E9 := E9.below hq
  replace F11 := F11.below hq
  replace E11 := E11.below hq
  have L12 : Box ((w14.alloc (.cells #[.bool g11, .slice a11 x11.length c11, .slice e11 y11.length t11] 30)).alloc (.cells #[.bool g2, .slice a2 x2.length c2, .slice e2 y2.length t2, .bool g3, .slice a3 x3.length c3, .slice e3 y3.length t3] 30)) (w14.heap.size + 1) (.cells #[.bool g2, .slice a2 x2.length c2, .slice e2 y2.length t2, .bool g3, .slice a3 x3.length c3, .slice e3 y3.length t3] 30) := Box.put (.cells #[.bool g2, .slice a2 x2.length c2, .slice e2 y2.length t2, .bool g3, .slice a3 x3.length c3, .slice e3 y3.length t3] 30) (by simp)
  replace hA := hA.trans (hq.mono hA.size)
  replace hB := hB.trans (hq.mono hB.size)
  clear hq
  clear hA
  go_wp2_with fail
  clear k0 k1 k2 f0 f1 f2 k3 k4 k5 f3 f4 f5
  obtain ⟨u15, hname⟩ : ∃ u, ((w14.alloc (.cells #[.bool g11, .slice a11 x11.length c11, .slice e11 y11.length t11] 30)).alloc (.cells #[.bool g2, .slice a2 x2.length c2, .slice e2 y2.length t2, .bool g3, .slice a3 x3.length c3, .slice e3 y3.length t3] 30)) = u := ⟨_, rfl⟩
  rw [hname] at hB F1 F2 F3 E1 E2 E3 F5 E5 F7 E7 F9 E9 F11 E11 L12 ⊢
  have zh15 := hB.size
  clear hname
  have R := row_box (rs := [⟨g2, a2, c2, x2, e2, t2, y2⟩, ⟨g3, a3, c3, x3, e3, t3, y3⟩]) (k := w14.heap.size + 1) L12 (fun r hr => by
      simp only [List.mem_cons, List.not_mem_nil, or_false] at hr
      rcases hr with rfl | rfl
      · exact F2.mono (Nat.zero_le _)
      · exact F3.mono (Nat.zero_le _))
  have hlen : ∀ r ∈ ([⟨g2, a2, c2, x2, e2, t2, y2⟩, ⟨g3, a3, c3, x3, e3, t3, y3⟩] : List RV), r.xs.length ≤ 5 ∧ r.ds.length ≤ 5 := fun r hr => by
      simp only [List.mem_cons, List.not_mem_nil, or_false] at hr
      rcases hr with rfl | rfl
      · exact ⟨Nat.le_trans I2.lu (by decide), Nat.le_trans I2.ld (by decide)⟩
      · exact ⟨Nat.le_trans I3.lu (by decide), Nat.le_trans I3.ld (by decide)⟩
  have hg : ∀ r ∈ ([⟨g2, a2, c2, x2, e2, t2, y2⟩, ⟨g3, a3, c3, x3, e3, t3, y3⟩] : List RV), formR r.b r.xs r.ds = 0 := fun r hr => by
      simp only [List.mem_cons, List.not_mem_nil, or_false] at hr
      rcases hr with rfl | rfl
      · exact I2.good F2.up.words F2.down.words
      · exact I3.good F3.up.words F3.down.words
  refine (padd_ok (cap := 2) R (by simp) hlen (by omega) hg).mono ?_
  rintro e w16 ⟨g13, a13, c13, x13, e13, t13, y13, rfl, F13, P13, I13, hb⟩
  replace I13 : Is g13 x13 y13 (q2 + q3) (13) := (I13.mono (by simp)).to (by simp only [sumQ, RV.q, List.foldl, I2.rat, I3.rat]; grind)
  replace F1 := F1.below hb
  replace F2 := F2.below hb
  replace F3 := F3.below hb
  replace E1 := E1.below hb
  replace E2 := E2.below hb
  replace E3 := E3.below hb
  replace F5 := F5.below hb
  replace E5 := E5.below hb
  replace F7 := F7.below hb
  replace E7 := E7.below hb
  replace F9 := F9.below hb
  replace E9 := E9.below hb
  replace F11 := F11.below hb
  replace E11 := E11.below hb
  replace L12 := L12.below hb
  replace hB := hB.trans (hb.mono hB.size)
  have zz16 := hb.size
  have zh16 := hB.size
  clear hb
  clear R hlen hg
  clear L12
  obtain ⟨k0, k1, k2, f0, f1, f2⟩ := E1.three
  have qE1 := E1.lt
  have qE2 := E2.lt
  have qE3 := E3.lt
  have qE5 := E5.lt
  have qE7 := E7.lt
  have qE9 := E9.lt
  have qE11 := E11.lt
  have hA := Below.refl w16.heap.size w16
  have hq : Below w16.heap.size w16 (w16.alloc (.cells #[.bool g13, .slice a13 x13.length c13, .slice e13 y13.length t13] 30)) := (Below.refl _ _).alloc (Nat.le_refl _) _
  replace F1 := F1.below hq
  replace F2 := F2.below hq
  replace F3 := F3.below hq
  replace E1 := E1.below hq
  replace E2 := E2.below hq
  replace E3 := E3.below hq
  replace F5 := F5.below hq
  replace E5 := E5.below hq
  replace F7 := F7.below hq
  replace E7 := E7.below hq
  replace F9 := F9.below hq
  replace E9 := E9.below hq
  replace F11 := F11.below hq
  replace E11 := E11.below hq
  replace F13 := F13.below hq
  have E13 : Box (w16.alloc (.cells #[.bool g13, .slice a13 x13.length c13, .slice e13 y13.length t13] 30)) (w16.heap.size) (.cells #[.bool g13, .slice a13 x13.length c13, .slice e13 y13.length t13] 30) := Box.put (.cells #[.bool g13, .slice a13 x13.length c13, .slice e13 y13.length t13] 30) rfl
  replace hA := hA.trans (hq.mono hA.size)
  replace hB := hB.trans (hq.mono hB.size)
  clear hq
  have hq : Below (w16.alloc (.cells #[.bool g13, .slice a13 x13.length c13, .slice e13 y13.length t13] 30)).heap.size (w16.alloc (.cells #[.bool g13, .slice a13 x13.length c13, .slice e13 y13.length t13] 30)) ((w16.alloc (.cells #[.bool g13, .slice a13 x13.length c13, .slice e13 y13.length t13] 30)).alloc (.cells #[.bool g1, .slice a1 x1.length c1, .slice e1 y1.length t1, .bool g13, .slice a13 x13.length c13, .slice e13 y13.length t13] 30)) := (Below.refl _ _).alloc (Nat.le_refl _) _
  replace F1 := F1.below hq
  replace F2 := F2.below hq
  replace F3 := F3.below hq
  replace E1 := E1.below hq
  replace E2 := E2.below hq
  replace E3 := E3.below hq
  replace F5 := F5.below hq
  replace E5 := E5.below hq
  replace F7 := F7.below hq
  replace E7 := E7.below hq
  replace F9 := F9.below hq
  replace E9 := E9.below hq
  replace F11 := F11.below hq
  replace E11 := E11.below hq
  replace F13 := F13.below hq
  replace E13 := E13.below hq
  have L14 : Box ((w16.alloc (.cells #[.bool g13, .slice a13 x13.length c13, .slice e13 y13.length t13] 30)).alloc (.cells #[.bool g1, .slice a1 x1.length c1, .slice e1 y1.length t1, .bool g13, .slice a13 x13.length c13, .slice e13 y13.length t13] 30)) (w16.heap.size + 1) (.cells #[.bool g1, .slice a1 x1.length c1, .slice e1 y1.length t1, .bool g13, .slice a13 x13.length c13, .slice e13 y13.length t13] 30) := Box.put (.cells #[.bool g1, .slice a1 x1.length c1, .slice e1 y1.length t1, .bool g13, .slice a13 x13.length c13, .slice e13 y13.length t13] 30) (by simp)
  replace hA := hA.trans (hq.mono hA.size)
  replace hB := hB.trans (hq.mono hB.size)
  clear hq
  clear hA
  go_wp2_with fail
  clear k0 k1 k2 f0 f1 f2
  obtain ⟨u17, hname⟩ : ∃ u, ((w16.alloc (.cells #[.bool g13, .slice a13 x13.length c13, .slice e13 y13.length t13] 30)).alloc (.cells #[.bool g1, .slice a1 x1.length c1, .slice e1 y1.length t1, .bool g13, .slice a13 x13.length c13, .slice e13 y13.length t13] 30)) = u := ⟨_, rfl⟩
  rw [hname] at hB F1 F2 F3 E1 E2 E3 F5 E5 F7 E7 F9 E9 F11 E11 F13 E13 L14 ⊢
  have zh17 := hB.size
  clear hname
  have R := row_box (rs := [⟨g1, a1, c1, x1, e1, t1, y1⟩, ⟨g13, a13, c13, x13, e13, t13, y13⟩]) (k := w16.heap.size + 1) L14 (fun r hr => by
      simp only [List.mem_cons, List.not_mem_nil, or_false] at hr
      rcases hr with rfl | rfl
      · exact F1.mono (Nat.zero_le _)
      · exact F13.mono (Nat.zero_le _))
  have hlen : ∀ r ∈ ([⟨g1, a1, c1, x1, e1, t1, y1⟩, ⟨g13, a13, c13, x13, e13, t13, y13⟩] : List RV), r.xs.length ≤ 13 ∧ r.ds.length ≤ 13 := fun r hr => by
      simp only [List.mem_cons, List.not_mem_nil, or_false] at hr
      rcases hr with rfl | rfl
      · exact ⟨Nat.le_trans I1.lu (by decide), Nat.le_trans I1.ld (by decide)⟩
      · exact ⟨Nat.le_trans I13.lu (by decide), Nat.le_trans I13.ld (by decide)⟩
  have hg : ∀ r ∈ ([⟨g1, a1, c1, x1, e1, t1, y1⟩, ⟨g13, a13, c13, x13, e13, t13, y13⟩] : List RV), formR r.b r.xs r.ds = 0 := fun r hr => by
      simp only [List.mem_cons, List.not_mem_nil, or_false] at hr
      rcases hr with rfl | rfl
      · exact I1.good F1.up.words F1.down.words
      · exact I13.good F13.up.words F13.down.words
  refine (pmul_ok (cap := 2) R (by simp) hlen (by omega) hg).mono ?_
  rintro e w18 ⟨g15, a15, c15, x15, e15, t15, y15, rfl, F15, P15, I15, hb⟩
  replace I15 : Is g15 x15 y15 (q1 * (q2 + q3)) (29) := (I15.mono (by simp)).to (by simp only [mulQ, RV.q, List.foldl, I1.rat, I13.rat]; grind)
  replace F1 := F1.below hb
  replace F2 := F2.below hb
  replace F3 := F3.below hb
  replace E1 := E1.below hb
  replace E2 := E2.below hb
  replace E3 := E3.below hb
  replace F5 := F5.below hb
  replace E5 := E5.below hb
  replace F7 := F7.below hb
  replace E7 := E7.below hb
  replace F9 := F9.below hb
  replace E9 := E9.below hb
  replace F11 := F11.below hb
  replace E11 := E11.below hb
  replace F13 := F13.below hb
  replace E13 := E13.below hb
  replace L14 := L14.below hb
  replace hB := hB.trans (hb.mono hB.size)
  have zz18 := hb.size
  have zh18 := hB.size
  clear hb
  clear R hlen hg
  clear L14
  obtain ⟨k0, k1, k2, f0, f1, f2⟩ := E1.three
  obtain ⟨k3, k4, k5, f3, f4, f5⟩ := E2.three
  have qE1 := E1.lt
  have qE2 := E2.lt
  have qE3 := E3.lt
  have qE5 := E5.lt
  have qE7 := E7.lt
  have qE9 := E9.lt
  have qE11 := E11.lt
  have qE13 := E13.lt
  have hA := Below.refl w18.heap.size w18
  have hq : Below w18.heap.size w18 (w18.alloc (.cells #[.bool g15, .slice a15 x15.length c15, .slice e15 y15.length t15] 30)) := (Below.refl _ _).alloc (Nat.le_refl _) _
  replace F1 := F1.below hq
  replace F2 := F2.below hq
  replace F3 := F3.below hq
  replace E1 := E1.below hq
  replace E2 := E2.below hq
  replace E3 := E3.below hq
  replace F5 := F5.below hq
  replace E5 := E5.below hq
  replace F7 := F7.below hq
  replace E7 := E7.below hq
  replace F9 := F9.below hq
  replace E9 := E9.below hq
  replace F11 := F11.below hq
  replace E11 := E11.below hq
  replace F13 := F13.below hq
  replace E13 := E13.below hq
  replace F15 := F15.below hq
  have E15 : Box (w18.alloc (.cells #[.bool g15, .slice a15 x15.length c15, .slice e15 y15.length t15] 30)) (w18.heap.size) (.cells #[.bool g15, .slice a15 x15.length c15, .slice e15 y15.length t15] 30) := Box.put (.cells #[.bool g15, .slice a15 x15.length c15, .slice e15 y15.length t15] 30) rfl
  replace hA := hA.trans (hq.mono hA.size)
  replace hB := hB.trans (hq.mono hB.size)
  clear hq
  have hq : Below (w18.alloc (.cells #[.bool g15, .slice a15 x15.length c15, .slice e15 y15.length t15] 30)).heap.size (w18.alloc (.cells #[.bool g15, .slice a15 x15.length c15, .slice e15 y15.length t15] 30)) ((w18.alloc (.cells #[.bool g15, .slice a15 x15.length c15, .slice e15 y15.length t15] 30)).alloc (.cells #[.bool g1, .slice a1 x1.length c1, .slice e1 y1.length t1, .bool g2, .slice a2 x2.length c2, .slice e2 y2.length t2] 30)) := (Below.refl _ _).alloc (Nat.le_refl _) _
  replace F1 := F1.below hq
  replace F2 := F2.below hq
  replace F3 := F3.below hq
  replace E1 := E1.below hq
  replace E2 := E2.below hq
  replace E3 := E3.below hq
  replace F5 := F5.below hq
  replace E5 := E5.below hq
  replace F7 := F7.below hq
  replace E7 := E7.below hq
  replace F9 := F9.below hq
  replace E9 := E9.below hq
  replace F11 := F11.below hq
  replace E11 := E11.below hq
  replace F13 := F13.below hq
  replace E13 := E13.below hq
  replace F15 := F15.below hq
  replace E15 := E15.below hq
  have L16 : Box ((w18.alloc (.cells #[.bool g15, .slice a15 x15.length c15, .slice e15 y15.length t15] 30)).alloc (.cells #[.bool g1, .slice a1 x1.length c1, .slice e1 y1.length t1, .bool g2, .slice a2 x2.length c2, .slice e2 y2.length t2] 30)) (w18.heap.size + 1) (.cells #[.bool g1, .slice a1 x1.length c1, .slice e1 y1.length t1, .bool g2, .slice a2 x2.length c2, .slice e2 y2.length t2] 30) := Box.put (.cells #[.bool g1, .slice a1 x1.length c1, .slice e1 y1.length t1, .bool g2, .slice a2 x2.length c2, .slice e2 y2.length t2] 30) (by simp)
  replace hA := hA.trans (hq.mono hA.size)
  replace hB := hB.trans (hq.mono hB.size)
  clear hq
  clear hA
  go_wp2_with fail
  clear k0 k1 k2 f0 f1 f2 k3 k4 k5 f3 f4 f5
  obtain ⟨u19, hname⟩ : ∃ u, ((w18.alloc (.cells #[.bool g15, .slice a15 x15.length c15, .slice e15 y15.length t15] 30)).alloc (.cells #[.bool g1, .slice a1 x1.length c1, .slice e1 y1.length t1, .bool g2, .slice a2 x2.length c2, .slice e2 y2.length t2] 30)) = u := ⟨_, rfl⟩
  rw [hname] at hB F1 F2 F3 E1 E2 E3 F5 E5 F7 E7 F9 E9 F11 E11 F13 E13 F15 E15 L16 ⊢
  have zh19 := hB.size
  clear hname
  have R := row_box (rs := [⟨g1, a1, c1, x1, e1, t1, y1⟩, ⟨g2, a2, c2, x2, e2, t2, y2⟩]) (k := w18.heap.size + 1) L16 (fun r hr => by
      simp only [List.mem_cons, List.not_mem_nil, or_false] at hr
      rcases hr with rfl | rfl
      · exact F1.mono (Nat.zero_le _)
      · exact F2.mono (Nat.zero_le _))
  have hlen : ∀ r ∈ ([⟨g1, a1, c1, x1, e1, t1, y1⟩, ⟨g2, a2, c2, x2, e2, t2, y2⟩] : List RV), r.xs.length ≤ 5 ∧ r.ds.length ≤ 5 := fun r hr => by
      simp only [List.mem_cons, List.not_mem_nil, or_false] at hr
      rcases hr with rfl | rfl
      · exact ⟨Nat.le_trans I1.lu (by decide), Nat.le_trans I1.ld (by decide)⟩
      · exact ⟨Nat.le_trans I2.lu (by decide), Nat.le_trans I2.ld (by decide)⟩
  have hg : ∀ r ∈ ([⟨g1, a1, c1, x1, e1, t1, y1⟩, ⟨g2, a2, c2, x2, e2, t2, y2⟩] : List RV), formR r.b r.xs r.ds = 0 := fun r hr => by
      simp only [List.mem_cons, List.not_mem_nil, or_false] at hr
      rcases hr with rfl | rfl
      · exact I1.good F1.up.words F1.down.words
      · exact I2.good F2.up.words F2.down.words
  refine (pmul_ok (cap := 2) R (by simp) hlen (by omega) hg).mono ?_
  rintro e w20 ⟨g17, a17, c17, x17, e17, t17, y17, rfl, F17, P17, I17, hb⟩
  replace I17 : Is g17 x17 y17 (q1 * q2) (13) := (I17.mono (by simp)).to (by simp only [mulQ, RV.q, List.foldl, I1.rat, I2.rat]; grind)
  replace F1 := F1.below hb
  replace F2 := F2.below hb
  replace F3 := F3.below hb
  replace E1 := E1.below hb
  replace E2 := E2.below hb
  replace E3 := E3.below hb
  replace F5 := F5.below hb
  replace E5 := E5.below hb
  replace F7 := F7.below hb
  replace E7 := E7.below hb
  replace F9 := F9.below hb
  replace E9 := E9.below hb
  replace F11 := F11.below hb
  replace E11 := E11.below hb
  replace F13 := F13.below hb
  replace E13 := E13.below hb
  replace F15 := F15.below hb
  replace E15 := E15.below hb
  replace L16 := L16.below hb
  replace hB := hB.trans (hb.mono hB.size)
  have zz20 := hb.size
  have zh20 := hB.size
  clear hb
  clear R hlen hg
  clear L16
  obtain ⟨k0, k1, k2, f0, f1, f2⟩ := E1.three
  obtain ⟨k3, k4, k5, f3, f4, f5⟩ := E3.three
  have qE1 := E1.lt
  have qE2 := E2.lt
  have qE3 := E3.lt
  have qE5 := E5.lt
  have qE7 := E7.lt
  have qE9 := E9.lt
  have qE11 := E11.lt
  have qE13 := E13.lt
  have qE15 := E15.lt
  have hA := Below.refl w20.heap.size w20
  have hq : Below w20.heap.size w20 (w20.alloc (.cells #[.bool g17, .slice a17 x17.length c17, .slice e17 y17.length t17] 30)) := (Below.refl _ _).alloc (Nat.le_refl _) _
  replace F1 := F1.below hq
  replace F2 := F2.below hq
  replace F3 := F3.below hq
  replace E1 := E1.below hq
  replace E2 := E2.below hq
  replace E3 := E3.below hq
  replace F5 := F5.below hq
  replace E5 := E5.below hq
  replace F7 := F7.below hq
  replace E7 := E7.below hq
  replace F9 := F9.below hq
  replace E9 := E9.below hq
  replace F11 := F11.below hq
  replace E11 := E11.below hq
  replace F13 := F13.below hq
  replace E13 := E13.below hq
  replace F15 := F15.below hq
  replace E15 := E15.below hq
  replace F17 := F17.below hq
  have E17 : Box (w20.alloc (.cells #[.bool g17, .slice a17 x17.length c17, .slice e17 y17.length t17] 30)) (w20.heap.size) (.cells #[.bool g17, .slice a17 x17.length c17, .slice e17 y17.length t17] 30) := Box.put (.cells #[.bool g17, .slice a17 x17.length c17, .slice e17 y17.length t17] 30) rfl
  replace hA := hA.trans (hq.mono hA.size)
  replace hB := hB.trans (hq.mono hB.size)
  clear hq
  have hq : Below (w20.alloc (.cells #[.bool g17, .slice a17 x17.length c17, .slice e17 y17.length t17] 30)).heap.size (w20.alloc (.cells #[.bool g17, .slice a17 x17.length c17, .slice e17 y17.length t17] 30)) ((w20.alloc (.cells #[.bool g17, .slice a17 x17.length c17, .slice e17 y17.length t17] 30)).alloc (.cells #[.bool g1, .slice a1 x1.length c1, .slice e1 y1.length t1, .bool g3, .slice a3 x3.length c3, .slice e3 y3.length t3] 30)) := (Below.refl _ _).alloc (Nat.le_refl _) _
  replace F1 := F1.below hq
  replace F2 := F2.below hq
  replace F3 := F3.below hq
  replace E1 := E1.below hq
  replace E2 := E2.below hq
  replace E3 := E3.below hq
  replace F5 := F5.below hq
  replace E5 := E5.below hq
  replace F7 := F7.below hq
  replace E7 := E7.below hq
  replace F9 := F9.below hq
  replace E9 := E9.below hq
  replace F11 := F11.below hq
  replace E11 := E11.below hq
  replace F13 := F13.below hq
  replace E13 := E13.below hq
  replace F15 := F15.below hq
  replace E15 := E15.below hq
  replace F17 := F17.below hq
  replace E17 := E17.below hq
  have L18 : Box ((w20.alloc (.cells #[.bool g17, .slice a17 x17.length c17, .slice e17 y17.length t17] 30)).alloc (.cells #[.bool g1, .slice a1 x1.length c1, .slice e1 y1.length t1, .bool g3, .slice a3 x3.length c3, .slice e3 y3.length t3] 30)) (w20.heap.size + 1) (.cells #[.bool g1, .slice a1 x1.length c1, .slice e1 y1.length t1, .bool g3, .slice a3 x3.length c3, .slice e3 y3.length t3] 30) := Box.put (.cells #[.bool g1, .slice a1 x1.length c1, .slice e1 y1.length t1, .bool g3, .slice a3 x3.length c3, .slice e3 y3.length t3] 30) (by simp)
  replace hA := hA.trans (hq.mono hA.size)
  replace hB := hB.trans (hq.mono hB.size)
  clear hq
  clear hA
  go_wp2_with fail
  clear k0 k1 k2 f0 f1 f2 k3 k4 k5 f3 f4 f5
  obtain ⟨u21, hname⟩ : ∃ u, ((w20.alloc (.cells #[.bool g17, .slice a17 x17.length c17, .slice e17 y17.length t17] 30)).alloc (.cells #[.bool g1, .slice a1 x1.length c1, .slice e1 y1.length t1, .bool g3, .slice a3 x3.length c3, .slice e3 y3.length t3] 30)) = u := ⟨_, rfl⟩
  rw [hname] at hB F1 F2 F3 E1 E2 E3 F5 E5 F7 E7 F9 E9 F11 E11 F13 E13 F15 E15 F17 E17 L18 ⊢
  have zh21 := hB.size
  clear hname
  have R := row_box (rs := [⟨g1, a1, c1, x1, e1, t1, y1⟩, ⟨g3, a3, c3, x3, e3, t3, y3⟩]) (k := w20.heap.size + 1) L18 (fun r hr => by
      simp only [List.mem_cons, List.not_mem_nil, or_false] at hr
      rcases hr with rfl | rfl
      · exact F1.mono (Nat.zero_le _)
      · exact F3.mono (Nat.zero_le _))
  have hlen : ∀ r ∈ ([⟨g1, a1, c1, x1, e1, t1, y1⟩, ⟨g3, a3, c3, x3, e3, t3, y3⟩] : List RV), r.xs.length ≤ 5 ∧ r.ds.length ≤ 5 := fun r hr => by
      simp only [List.mem_cons, List.not_mem_nil, or_false] at hr
      rcases hr with rfl | rfl
      · exact ⟨Nat.le_trans I1.lu (by decide), Nat.le_trans I1.ld (by decide)⟩
      · exact ⟨Nat.le_trans I3.lu (by decide), Nat.le_trans I3.ld (by decide)⟩
  have hg : ∀ r ∈ ([⟨g1, a1, c1, x1, e1, t1, y1⟩, ⟨g3, a3, c3, x3, e3, t3, y3⟩] : List RV), formR r.b r.xs r.ds = 0 := fun r hr => by
      simp only [List.mem_cons, List.not_mem_nil, or_false] at hr
      rcases hr with rfl | rfl
      · exact I1.good F1.up.words F1.down.words
      · exact I3.good F3.up.words F3.down.words
  refine (pmul_ok (cap := 2) R (by simp) hlen (by omega) hg).mono ?_
  rintro e w22 ⟨g19, a19, c19, x19, e19, t19, y19, rfl, F19, P19, I19, hb⟩
  replace I19 : Is g19 x19 y19 (q1 * q3) (13) := (I19.mono (by simp)).to (by simp only [mulQ, RV.q, List.foldl, I1.rat, I3.rat]; grind)
  replace F1 := F1.below hb
  replace F2 := F2.below hb
  replace F3 := F3.below hb
  replace E1 := E1.below hb
  replace E2 := E2.below hb
  replace E3 := E3.below hb
  replace F5 := F5.below hb
  replace E5 := E5.below hb
  replace F7 := F7.below hb
  replace E7 := E7.below hb
  replace F9 := F9.below hb
  replace E9 := E9.below hb
  replace F11 := F11.below hb
  replace E11 := E11.below hb
  replace F13 := F13.below hb
  replace E13 := E13.below hb
  replace F15 := F15.below hb
  replace E15 := E15.below hb
  replace F17 := F17.below hb
  replace E17 := E17.below hb
  replace L18 := L18.below hb
  replace hB := hB.trans (hb.mono hB.size)
  have zz22 := hb.size
  have zh22 := hB.size
  clear hb
  clear R hlen hg
  clear L18
  obtain ⟨k0, k1, k2, f0, f1, f2⟩ := E17.three
  have qE1 := E1.lt
  have qE2 := E2.lt
  have qE3 := E3.lt
  have qE5 := E5.lt
  have qE7 := E7.lt
  have qE9 := E9.lt
  have qE11 := E11.lt
  have qE13 := E13.lt
  have qE15 := E15.lt
  have qE17 := E17.lt
  have hA := Below.refl w22.heap.size w22
  have hq : Below w22.heap.size w22 (w22.alloc (.cells #[.bool g19, .slice a19 x19.length c19, .slice e19 y19.length t19] 30)) := (Below.refl _ _).alloc (Nat.le_refl _) _
  replace F1 := F1.below hq
  replace F2 := F2.below hq
  replace F3 := F3.below hq
  replace E1 := E1.below hq
  replace E2 := E2.below hq
  replace E3 := E3.below hq
  replace F5 := F5.below hq
  replace E5 := E5.below hq
  replace F7 := F7.below hq
  replace E7 := E7.below hq
  replace F9 := F9.below hq
  replace E9 := E9.below hq
  replace F11 := F11.below hq
  replace E11 := E11.below hq
  replace F13 := F13.below hq
  replace E13 := E13.below hq
  replace F15 := F15.below hq
  replace E15 := E15.below hq
  replace F17 := F17.below hq
  replace E17 := E17.below hq
  replace F19 := F19.below hq
  have E19 : Box (w22.alloc (.cells #[.bool g19, .slice a19 x19.length c19, .slice e19 y19.length t19] 30)) (w22.heap.size) (.cells #[.bool g19, .slice a19 x19.length c19, .slice e19 y19.length t19] 30) := Box.put (.cells #[.bool g19, .slice a19 x19.length c19, .slice e19 y19.length t19] 30) rfl
  replace hA := hA.trans (hq.mono hA.size)
  replace hB := hB.trans (hq.mono hB.size)
  clear hq
  have hq : Below (w22.alloc (.cells #[.bool g19, .slice a19 x19.length c19, .slice e19 y19.length t19] 30)).heap.size (w22.alloc (.cells #[.bool g19, .slice a19 x19.length c19, .slice e19 y19.length t19] 30)) ((w22.alloc (.cells #[.bool g19, .slice a19 x19.length c19, .slice e19 y19.length t19] 30)).alloc (.cells #[.bool g17, .slice a17 x17.length c17, .slice e17 y17.length t17, .bool g19, .slice a19 x19.length c19, .slice e19 y19.length t19] 30)) := (Below.refl _ _).alloc (Nat.le_refl _) _
  replace F1 := F1.below hq
  replace F2 := F2.below hq
  replace F3 := F3.below hq
  replace E1 := E1.below hq
  replace E2 := E2.below hq
  replace E3 := E3.below hq
  replace F5 := F5.below hq
  replace E5 := E5.below hq
  replace F7 := F7.below hq
  replace E7 := E7.below hq
  replace F9 := F9.below hq
  replace E9 := E9.below hq
  replace F11 := F11.below hq
  replace E11 := E11.below hq
  replace F13 := F13.below hq
  replace E13 := E13.below hq
  replace F15 := F15.below hq
  replace E15 := E15.below hq
  replace F17 := F17.below hq
  replace E17 := E17.below hq
  replace F19 := F19.below hq
  replace E19 := E19.below hq
  have L20 : Box ((w22.alloc (.cells #[.bool g19, .slice a19 x19.length c19, .slice e19 y19.length t19] 30)).alloc (.cells #[.bool g17, .slice a17 x17.length c17, .slice e17 y17.length t17, .bool g19, .slice a19 x19.length c19, .slice e19 y19.length t19] 30)) (w22.heap.size + 1) (.cells #[.bool g17, .slice a17 x17.length c17, .slice e17 y17.length t17, .bool g19, .slice a19 x19.length c19, .slice e19 y19.length t19] 30) := Box.put (.cells #[.bool g17, .slice a17 x17.length c17, .slice e17 y17.length t17, .bool g19, .slice a19 x19.length c19, .slice e19 y19.length t19] 30) (by simp)
  replace hA := hA.trans (hq.mono hA.size)
  replace hB := hB.trans (hq.mono hB.size)
  clear hq
  clear hA
  go_wp2_with fail
  clear k0 k1 k2 f0 f1 f2
  obtain ⟨u23, hname⟩ : ∃ u, ((w22.alloc (.cells #[.bool g19, .slice a19 x19.length c19, .slice e19 y19.length t19] 30)).alloc (.cells #[.bool g17, .slice a17 x17.length c17, .slice e17 y17.length t17, .bool g19, .slice a19 x19.length c19, .slice e19 y19.length t19] 30)) = u := ⟨_, rfl⟩
  rw [hname] at hB F1 F2 F3 E1 E2 E3 F5 E5 F7 E7 F9 E9 F11 E11 F13 E13 F15 E15 F17 E17 F19 E19 L20 ⊢
  have zh23 := hB.size
  clear hname
  have R := row_box (rs := [⟨g17, a17, c17, x17, e17, t17, y17⟩, ⟨g19, a19, c19, x19, e19, t19, y19⟩]) (k := w22.heap.size + 1) L20 (fun r hr => by
      simp only [List.mem_cons, List.not_mem_nil, or_false] at hr
      rcases hr with rfl | rfl
      · exact F17.mono (Nat.zero_le _)
      · exact F19.mono (Nat.zero_le _))
  have hlen : ∀ r ∈ ([⟨g17, a17, c17, x17, e17, t17, y17⟩, ⟨g19, a19, c19, x19, e19, t19, y19⟩] : List RV), r.xs.length ≤ 13 ∧ r.ds.length ≤ 13 := fun r hr => by
      simp only [List.mem_cons, List.not_mem_nil, or_false] at hr
      rcases hr with rfl | rfl
      · exact ⟨Nat.le_trans I17.lu (by decide), Nat.le_trans I17.ld (by decide)⟩
      · exact ⟨Nat.le_trans I19.lu (by decide), Nat.le_trans I19.ld (by decide)⟩
  have hg : ∀ r ∈ ([⟨g17, a17, c17, x17, e17, t17, y17⟩, ⟨g19, a19, c19, x19, e19, t19, y19⟩] : List RV), formR r.b r.xs r.ds = 0 := fun r hr => by
      simp only [List.mem_cons, List.not_mem_nil, or_false] at hr
      rcases hr with rfl | rfl
      · exact I17.good F17.up.words F17.down.words
      · exact I19.good F19.up.words F19.down.words
  refine (padd_ok (cap := 2) R (by simp) hlen (by omega) hg).mono ?_
  rintro e w24 ⟨g21, a21, c21, x21, e21, t21, y21, rfl, F21, P21, I21, hb⟩
  replace I21 : Is g21 x21 y21 (q1 * (q2 + q3)) (29) := (I21.mono (by simp)).to (by simp only [sumQ, RV.q, List.foldl, I17.rat, I19.rat]; grind)
  replace F1 := F1.below hb
  replace F2 := F2.below hb
  replace F3 := F3.below hb
  replace E1 := E1.below hb
  replace E2 := E2.below hb
  replace E3 := E3.below hb
  replace F5 := F5.below hb
  replace E5 := E5.below hb
  replace F7 := F7.below hb
  replace E7 := E7.below hb
  replace F9 := F9.below hb
  replace E9 := E9.below hb
  replace F11 := F11.below hb
  replace E11 := E11.below hb
  replace F13 := F13.below hb
  replace E13 := E13.below hb
  replace F15 := F15.below hb
  replace E15 := E15.below hb
  replace F17 := F17.below hb
  replace E17 := E17.below hb
  replace F19 := F19.below hb
  replace E19 := E19.below hb
  replace L20 := L20.below hb
  replace hB := hB.trans (hb.mono hB.size)
  have zz24 := hb.size
  have zh24 := hB.size
  clear hb
  clear R hlen hg
  clear L20
  obtain ⟨k0, k1, k2, f0, f1, f2⟩ := E5.three
  obtain ⟨k3, k4, k5, f3, f4, f5⟩ := E7.three
  have qE1 := E1.lt
  have qE2 := E2.lt
  have qE3 := E3.lt
  have qE5 := E5.lt
  have qE7 := E7.lt
  have qE9 := E9.lt
  have qE11 := E11.lt
  have qE13 := E13.lt
  have qE15 := E15.lt
  have qE17 := E17.lt
  have qE19 := E19.lt
  have hA := Below.refl w24.heap.size w24
  have hq : Below w24.heap.size w24 (w24.alloc (.cells #[.bool g21, .slice a21 x21.length c21, .slice e21 y21.length t21] 30)) := (Below.refl _ _).alloc (Nat.le_refl _) _
  replace F1 := F1.below hq
  replace F2 := F2.below hq
  replace F3 := F3.below hq
  replace E1 := E1.below hq
  replace E2 := E2.below hq
  replace E3 := E3.below hq
  replace F5 := F5.below hq
  replace E5 := E5.below hq
  replace F7 := F7.below hq
  replace E7 := E7.below hq
  replace F9 := F9.below hq
  replace E9 := E9.below hq
  replace F11 := F11.below hq
  replace E11 := E11.below hq
  replace F13 := F13.below hq
  replace E13 := E13.below hq
  replace F15 := F15.below hq
  replace E15 := E15.below hq
  replace F17 := F17.below hq
  replace E17 := E17.below hq
  replace F19 := F19.below hq
  replace E19 := E19.below hq
  replace F21 := F21.below hq
  have E21 : Box (w24.alloc (.cells #[.bool g21, .slice a21 x21.length c21, .slice e21 y21.length t21] 30)) (w24.heap.size) (.cells #[.bool g21, .slice a21 x21.length c21, .slice e21 y21.length t21] 30) := Box.put (.cells #[.bool g21, .slice a21 x21.length c21, .slice e21 y21.length t21] 30) rfl
  replace hA := hA.trans (hq.mono hA.size)
  replace hB := hB.trans (hq.mono hB.size)
  clear hq
  clear hA
  go_wp2_with fail
  clear k0 k1 k2 f0 f1 f2 k3 k4 k5 f3 f4 f5
  obtain ⟨u25, hname⟩ : ∃ u, (w24.alloc (.cells #[.bool g21, .slice a21 x21.length c21, .slice e21 y21.length t21] 30)) = u := ⟨_, rfl⟩
  rw [hname] at hB F1 F2 F3 E1 E2 E3 F5 E5 F7 E7 F9 E9 F11 E11 F13 E13 F15 E15 F17 E17 F19 E19 F21 E21 ⊢
  have zh25 := hB.size
  clear hname
  refine (lrsame_yes g5 g7 F5 F7 I5 I7 (by omega)).mono ?_
  rintro e w26 ⟨rfl, hb⟩
  replace F1 := F1.below hb
  replace F2 := F2.below hb
  replace F3 := F3.below hb
  replace E1 := E1.below hb
  replace E2 := E2.below hb
  replace E3 := E3.below hb
  replace F5 := F5.below hb
  replace E5 := E5.below hb
  replace F7 := F7.below hb
  replace E7 := E7.below hb
  replace F9 := F9.below hb
  replace E9 := E9.below hb
  replace F11 := F11.below hb
  replace E11 := E11.below hb
  replace F13 := F13.below hb
  replace E13 := E13.below hb
  replace F15 := F15.below hb
  replace E15 := E15.below hb
  replace F17 := F17.below hb
  replace E17 := E17.below hb
  replace F19 := F19.below hb
  replace E19 := E19.below hb
  replace F21 := F21.below hb
  replace E21 := E21.below hb
  replace hB := hB.trans (hb.mono hB.size)
  have zz26 := hb.size
  have zh26 := hB.size
  clear hb
  obtain ⟨k0, k1, k2, f0, f1, f2⟩ := E9.three
  obtain ⟨k3, k4, k5, f3, f4, f5⟩ := E11.three
  go_wp2_with fail
  clear k0 k1 k2 f0 f1 f2 k3 k4 k5 f3 f4 f5
  refine (lrsame_yes g9 g11 F9 F11 I9 I11 (by omega)).mono ?_
  rintro e w27 ⟨rfl, hb⟩
  replace F1 := F1.below hb
  replace F2 := F2.below hb
  replace F3 := F3.below hb
  replace E1 := E1.below hb
  replace E2 := E2.below hb
  replace E3 := E3.below hb
  replace F5 := F5.below hb
  replace E5 := E5.below hb
  replace F7 := F7.below hb
  replace E7 := E7.below hb
  replace F9 := F9.below hb
  replace E9 := E9.below hb
  replace F11 := F11.below hb
  replace E11 := E11.below hb
  replace F13 := F13.below hb
  replace E13 := E13.below hb
  replace F15 := F15.below hb
  replace E15 := E15.below hb
  replace F17 := F17.below hb
  replace E17 := E17.below hb
  replace F19 := F19.below hb
  replace E19 := E19.below hb
  replace F21 := F21.below hb
  replace E21 := E21.below hb
  replace hB := hB.trans (hb.mono hB.size)
  have zz27 := hb.size
  have zh27 := hB.size
  clear hb
  obtain ⟨k0, k1, k2, f0, f1, f2⟩ := E15.three
  obtain ⟨k3, k4, k5, f3, f4, f5⟩ := E21.three
  go_wp2_with fail
  clear k0 k1 k2 f0 f1 f2 k3 k4 k5 f3 f4 f5
  refine (lrsame_yes g15 g21 F15 F21 I15 I21 (by omega)).mono ?_
  rintro e w28 ⟨rfl, hb⟩
  replace F1 := F1.below hb
  replace F2 := F2.below hb
  replace F3 := F3.below hb
  replace E1 := E1.below hb
  replace E2 := E2.below hb
  replace E3 := E3.below hb
  replace F5 := F5.below hb
  replace E5 := E5.below hb
  replace F7 := F7.below hb
  replace E7 := E7.below hb
  replace F9 := F9.below hb
  replace E9 := E9.below hb
  replace F11 := F11.below hb
  replace E11 := E11.below hb
  replace F13 := F13.below hb
  replace E13 := E13.below hb
  replace F15 := F15.below hb
  replace E15 := E15.below hb
  replace F17 := F17.below hb
  replace E17 := E17.below hb
  replace F19 := F19.below hb
  replace E19 := E19.below hb
  replace F21 := F21.below hb
  replace E21 := E21.below hb
  replace hB := hB.trans (hb.mono hB.size)
  have zz28 := hb.size
  have zh28 := hB.size
  clear hb
  clear E5 F5
  clear E7 F7
  clear E9 F9
  clear E11 F11
  clear E15 F15
  clear E19 F19
  clear E21 F21
  obtain ⟨k0, k1, k2, f0, f1, f2⟩ := E3.three
  obtain ⟨k3, k4, k5, f3, f4, f5⟩ := E13.three
  go_wp2_with fail
  clear k0 k1 k2 f0 f1 f2 k3 k4 k5 f3 f4 f5
  refine (psub_ok g13 g3 F13 F3 ⟨I13.lu, I13.ld⟩ ⟨I3.lu, I3.ld⟩ (by omega) (by omega) (I13.good F13.up.words F13.down.words) (I3.good F3.up.words F3.down.words)).mono ?_
  rintro e w29 ⟨g22, a22, c22, x22, e22, t22, y22, rfl, F22, P22, I22, hb⟩
  replace I22 : Is g22 x22 y22 (q2) (19) := (I22.mono (by omega)).to (by rw [I13.rat, I3.rat]; grind)
  replace F1 := F1.below hb
  replace F2 := F2.below hb
  replace F3 := F3.below hb
  replace E1 := E1.below hb
  replace E2 := E2.below hb
  replace E3 := E3.below hb
  replace F13 := F13.below hb
  replace E13 := E13.below hb
  replace F17 := F17.below hb
  replace E17 := E17.below hb
  replace hB := hB.trans (hb.mono hB.size)
  have zz29 := hb.size
  have zh29 := hB.size
  clear hb
  obtain ⟨k0, k1, k2, f0, f1, f2⟩ := E2.three
  have qE1 := E1.lt
  have qE2 := E2.lt
  have qE3 := E3.lt
  have qE13 := E13.lt
  have qE17 := E17.lt
  have hA := Below.refl w29.heap.size w29
  have hq : Below w29.heap.size w29 (w29.alloc (.cells #[.bool g22, .slice a22 x22.length c22, .slice e22 y22.length t22] 30)) := (Below.refl _ _).alloc (Nat.le_refl _) _
  replace F1 := F1.below hq
  replace F2 := F2.below hq
  replace F3 := F3.below hq
  replace E1 := E1.below hq
  replace E2 := E2.below hq
  replace E3 := E3.below hq
  replace F13 := F13.below hq
  replace E13 := E13.below hq
  replace F17 := F17.below hq
  replace E17 := E17.below hq
  replace F22 := F22.below hq
  have E22 : Box (w29.alloc (.cells #[.bool g22, .slice a22 x22.length c22, .slice e22 y22.length t22] 30)) (w29.heap.size) (.cells #[.bool g22, .slice a22 x22.length c22, .slice e22 y22.length t22] 30) := Box.put (.cells #[.bool g22, .slice a22 x22.length c22, .slice e22 y22.length t22] 30) rfl
  replace hA := hA.trans (hq.mono hA.size)
  replace hB := hB.trans (hq.mono hB.size)
  clear hq
  clear hA
  go_wp2_with fail
  clear k0 k1 k2 f0 f1 f2
  obtain ⟨u30, hname⟩ : ∃ u, (w29.alloc (.cells #[.bool g22, .slice a22 x22.length c22, .slice e22 y22.length t22] 30)) = u := ⟨_, rfl⟩
  rw [hname] at hB F1 F2 F3 E1 E2 E3 F13 E13 F17 E17 F22 E22 ⊢
  have zh30 := hB.size
  clear hname
  refine (lrsame_yes g22 g2 F22 F2 I22 I2 (by omega)).mono ?_
  rintro e w31 ⟨rfl, hb⟩
  replace F1 := F1.below hb
  replace F2 := F2.below hb
  replace F3 := F3.below hb
  replace E1 := E1.below hb
  replace E2 := E2.below hb
  replace E3 := E3.below hb
  replace F13 := F13.below hb
  replace E13 := E13.below hb
  replace F17 := F17.below hb
  replace E17 := E17.below hb
  replace F22 := F22.below hb
  replace E22 := E22.below hb
  replace hB := hB.trans (hb.mono hB.size)
  have zz31 := hb.size
  have zh31 := hB.size
  clear hb
  clear E22 F22
  clear E13 F13
  by_cases hx2 : x2 = []
  · skip
    have hq0 : Hid (q2 = 0) := (I2.zero_iff F2.up.words).2 hx2
    have HX2 := hide hx2
    clear hx2
    obtain ⟨k0, k1, k2, f0, f1, f2⟩ := E2.three
    obtain ⟨k3, k4, k5, f3, f4, f5⟩ := E17.three
    go_wp2_with fail
    clear k0 k1 k2 f0 f1 f2 k3 k4 k5 f3 f4 f5
    refine (pdiv_zero (n := 13) (m := 5) g17 g2 F17 F2 ⟨I17.lu, I17.ld⟩ ⟨I2.lu, I2.ld⟩ (by omega) (by omega) (I17.good F17.up.words F17.down.words) (I2.good F2.up.words F2.down.words) (by rw [I2.rat]; exact hq0.out)).mono ?_
    rintro e w32 ⟨rfl, hb⟩
    replace F1 := F1.below hb
    replace F2 := F2.below hb
    replace F3 := F3.below hb
    replace E1 := E1.below hb
    replace E2 := E2.below hb
    replace E3 := E3.below hb
    replace F17 := F17.below hb
    replace E17 := E17.below hb
    replace hB := hB.trans (hb.mono hB.size)
    have zz32 := hb.size
    have zh32 := hB.size
    clear hb
    obtain rfl := HX2.out
    obtain ⟨k0, k1, k2, f0, f1, f2⟩ := E2.three
    have qE1 := E1.lt
    have qE2 := E2.lt
    have qE3 := E3.lt
    have qE17 := E17.lt
    have hA := Below.refl w32.heap.size w32
    have hq : Below w32.heap.size w32 (w32.alloc (.cells #[.bool false, .slice none 0 0, .slice none 0 0] 30)) := (Below.refl _ _).alloc (Nat.le_refl _) _
    replace F1 := F1.below hq
    replace F2 := F2.below hq
    replace F3 := F3.below hq
    replace E1 := E1.below hq
    replace E2 := E2.below hq
    replace E3 := E3.below hq
    replace F17 := F17.below hq
    replace E17 := E17.below hq
    have Z23 : Box (w32.alloc (.cells #[.bool false, .slice none 0 0, .slice none 0 0] 30)) (w32.heap.size) (.cells #[.bool false, .slice none 0 0, .slice none 0 0] 30) := Box.put (.cells #[.bool false, .slice none 0 0, .slice none 0 0] 30) rfl
    replace hA := hA.trans (hq.mono hA.size)
    replace hB := hB.trans (hq.mono hB.size)
    clear hq
    clear hA
    go_wp2
    go_ret
    exact ⟨rfl, hB⟩
  · skip
    have hq0 : Hid (q2 ≠ 0) := fun h => hx2 ((I2.zero_iff F2.up.words).1 h)
    have hz2 : ((x2.length : Int) == 0) = false := beq_eq_false_iff_ne.2 (by have := List.length_pos_iff.2 hx2; omega)
    obtain ⟨k0, k1, k2, f0, f1, f2⟩ := E2.three
    obtain ⟨k3, k4, k5, f3, f4, f5⟩ := E17.three
    go_wp2_with fail
    clear k0 k1 k2 f0 f1 f2 k3 k4 k5 f3 f4 f5
    refine (pdiv_ok g17 g2 F17 F2 ⟨I17.lu, I17.ld⟩ ⟨I2.lu, I2.ld⟩ (by omega) (by omega) (I17.good F17.up.words F17.down.words) (I2.good F2.up.words F2.down.words) (by rw [I2.rat]; exact hq0.out)).mono ?_
    rintro e w32 ⟨g23, a23, c23, x23, e23, t23, y23, rfl, F23, P23, I23, hb⟩
    replace I23 : Is g23 x23 y23 (q1) (19) := (I23.mono (by omega)).to (by rw [I17.rat, I2.rat]; have hq1 := hq0.out; grind)
    replace F1 := F1.below hb
    replace F2 := F2.below hb
    replace F3 := F3.below hb
    replace E1 := E1.below hb
    replace E2 := E2.below hb
    replace E3 := E3.below hb
    replace F17 := F17.below hb
    replace E17 := E17.below hb
    replace hB := hB.trans (hb.mono hB.size)
    have zz32 := hb.size
    have zh32 := hB.size
    clear hb
    obtain ⟨k0, k1, k2, f0, f1, f2⟩ := E1.three
    obtain ⟨k3, k4, k5, f3, f4, f5⟩ := E2.three
    have qE1 := E1.lt
    have qE2 := E2.lt
    have qE3 := E3.lt
    have qE17 := E17.lt
    have hA := Below.refl w32.heap.size w32
    have hq : Below w32.heap.size w32 (w32.alloc (.cells #[.bool g23, .slice a23 x23.length c23, .slice e23 y23.length t23] 30)) := (Below.refl _ _).alloc (Nat.le_refl _) _
    replace F1 := F1.below hq
    replace F2 := F2.below hq
    replace F3 := F3.below hq
    replace E1 := E1.below hq
    replace E2 := E2.below hq
    replace E3 := E3.below hq
    replace F17 := F17.below hq
    replace E17 := E17.below hq
    replace F23 := F23.below hq
    have E23 : Box (w32.alloc (.cells #[.bool g23, .slice a23 x23.length c23, .slice e23 y23.length t23] 30)) (w32.heap.size) (.cells #[.bool g23, .slice a23 x23.length c23, .slice e23 y23.length t23] 30) := Box.put (.cells #[.bool g23, .slice a23 x23.length c23, .slice e23 y23.length t23] 30) rfl
    replace hA := hA.trans (hq.mono hA.size)
    replace hB := hB.trans (hq.mono hB.size)
    clear hq
    clear hA
    go_wp2_with fail
    clear k0 k1 k2 f0 f1 f2 k3 k4 k5 f3 f4 f5
    obtain ⟨u33, hname⟩ : ∃ u, (w32.alloc (.cells #[.bool g23, .slice a23 x23.length c23, .slice e23 y23.length t23] 30)) = u := ⟨_, rfl⟩
    rw [hname] at hB F1 F2 F3 E1 E2 E3 F17 E17 F23 E23 ⊢
    have zh33 := hB.size
    clear hname
    refine (lrsame_yes g23 g1 F23 F1 I23 I1 (by omega)).mono ?_
    rintro e w34 ⟨rfl, hb⟩
    replace F1 := F1.below hb
    replace F2 := F2.below hb
    replace F3 := F3.below hb
    replace E1 := E1.below hb
    replace E2 := E2.below hb
    replace E3 := E3.below hb
    replace F17 := F17.below hb
    replace E17 := E17.below hb
    replace F23 := F23.below hb
    replace E23 := E23.below hb
    replace hB := hB.trans (hb.mono hB.size)
    have zz34 := hb.size
    have zh34 := hB.size
    clear hb
    obtain ⟨k0, k1, k2, f0, f1, f2⟩ := E1.three
    obtain ⟨k3, k4, k5, f3, f4, f5⟩ := E2.three
    obtain ⟨k6, k7, k8, f6, f7, f8⟩ := E23.three
    go_wp2
    go_ret
    exact ⟨rfl, hB⟩

end Go.Proofs.YtblmkddjlfienaaGreat

/-
  The walk of RatioField.
-/
namespace Go.Proofs.YtblmkddjlfienaaGreat
open Go.RowKit

theorem lrfield_any {a1 e1 : Option Addr} {c1 t1 : Nat} {x1 y1 : List Int} {a2 e2 : Option Addr} {c2 t2 : Nat} {x2 y2 : List Int} {a3 e3 : Option Addr} {c3 t3 : Nat} {x3 y3 : List Int} {w : World} (g1 g2 g3 : Bool) (F1 : Fr 0 w a1 c1 x1 e1 t1 y1) (F2 : Fr 0 w a2 c2 x2 e2 t2 y2) (F3 : Fr 0 w a3 c3 x3 e3 t3 y3) :
    Calls Tryz.prog 6 #[.agg #[.bool g1, .slice a1 x1.length c1, .slice e1 y1.length t1], .agg #[.bool g2, .slice a2 x2.length c2, .slice e2 y2.length t2], .agg #[.bool g3, .slice a3 x3.length c3, .slice e3 y3.length t3]] w fun e w' => e = .returned (.bool true) ∧ Below w.heap.size w w' := by
  by_cases h1 : x1.length ≤ 5 ∧ y1.length ≤ 5
  · by_cases h2 : x2.length ≤ 5 ∧ y2.length ≤ 5
    · by_cases h3 : x3.length ≤ 5 ∧ y3.length ≤ 5
      · by_cases hg : ∀ r ∈ ([⟨g1, a1, c1, x1, e1, t1, y1⟩, ⟨g2, a2, c2, x2, e2, t2, y2⟩, ⟨g3, a3, c3, x3, e3, t3, y3⟩] : List RV), formR r.b r.xs r.ds = 0
        · exact lrfield_good g1 g2 g3 F1 F2 F3 h1 h2 h3 ⟨(formR_low F1.up.words F1.down.words).1 (hg _ (List.mem_cons_self ..)), rfl, h1.1, h1.2⟩ ⟨(formR_low F2.up.words F2.down.words).1 (hg _ (List.mem_cons_of_mem _ (List.mem_cons_self ..))), rfl, h2.1, h2.2⟩ ⟨(formR_low F3.up.words F3.down.words).1 (hg _ (List.mem_cons_of_mem _ (List.mem_cons_of_mem _ (List.mem_cons_self ..)))), rfl, h3.1, h3.2⟩
        · exact lrfield_bad g1 g2 g3 F1 F2 F3 h1 h2 h3 (good_no _ hg)
      · exact lrfield_long g1 g2 g3 F1 F2 F3 (long_yes _ ⟨_, List.mem_cons_of_mem _ (List.mem_cons_of_mem _ (List.mem_cons_self ..)), h3⟩)
    · exact lrfield_long g1 g2 g3 F1 F2 F3 (long_yes _ ⟨_, List.mem_cons_of_mem _ (List.mem_cons_self ..), h2⟩)
  · exact lrfield_long g1 g2 g3 F1 F2 F3 (long_yes _ ⟨_, List.mem_cons_self .., h1⟩)
end Go.Proofs.YtblmkddjlfienaaGreat

