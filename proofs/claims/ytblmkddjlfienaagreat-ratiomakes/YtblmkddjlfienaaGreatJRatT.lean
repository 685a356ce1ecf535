/-
  Joined: RatT RatV RatZ RMakes.
-/
import Derived.Test.YtblmkddjlfienaaGreatJSigB
import Derived.Test.YtblmkddjlfienaaGreatJRatN
/-
  What a call that answers a fraction or an error says, in one form; Make and Pair, the program's and the document's.
-/
namespace Go.Proofs.YtblmkddjlfienaaGreat
open Go.RowKit

/-- The answer: a fraction in lowest terms and OK, or nothing and the error. -/
inductive AnsIs (n : Nat) : Except Int Rat → Bool → List Int → List Int → Int → Prop where
  | ok {q : Rat} {g : Bool} {ts es : List Int} (h : Is g ts es q n) : AnsIs n (.ok q) g ts es 0
  | err (c : Int) : AnsIs n (.error c) false [] [] c
theorem AnsIs.unique {n m : Nat} {s : Except Int Rat} {g g' : Bool} {ts es ts' es' : List Int} {er er' : Int} (h : AnsIs n s g ts es er) (h' : AnsIs m s g' ts' es' er') (w1 : Words ts) (w2 : Words es) (w3 : Words ts') (w4 : Words es') : g = g' ∧ ts = ts' ∧ es = es' ∧ er = er' := by
  cases h with
  | ok h => cases h' with
    | ok k => obtain ⟨a, b, c⟩ := lowL_unique w1 w2 w3 w4 h.low k.low (h.rat.trans k.rat.symm); exact ⟨a, b, c, rfl⟩
  | err c => cases h'; exact ⟨rfl, rfl, rfl, rfl⟩
theorem AnsIs.len {n : Nat} {s : Except Int Rat} {g : Bool} {ts es : List Int} {er : Int} (h : AnsIs n s g ts es er) : ts.length ≤ n ∧ es.length ≤ n := by
  cases h with
  | ok h => exact ⟨h.lu, h.ld⟩
  | err c => exact ⟨Nat.zero_le _, Nat.zero_le _⟩
/-- What is told. -/
def AnsSaid (s : Except Int Rat) (n : Nat) (w : World) (e : Ending) (w' : World) : Prop :=
  ∃ (g : Bool) (a : Option Addr) (ca : Nat) (ts : List Int) (c : Option Addr) (cc : Nat) (es : List Int) (er : Int), e = .returned (.tuple #[.agg #[.bool g, .slice a ts.length ca, .slice c es.length cc], .int .i64 er]) ∧ Fr w.heap.size w' a ca ts c cc es ∧ Apart a c ts es ∧ AnsIs n s g ts es er ∧ Below w.heap.size w w'
theorem AnsSaid.of_err {s : Except Int Rat} {n : Nat} {w w' : World} {e : Ending} {c : Int} (h : e = .returned (.tuple #[.agg #[.bool false, .slice none 0 0, .slice none 0 0], .int .i64 c]) ∧ Below w.heap.size w w') (hs : s = .error c) : AnsSaid s n w e w' := by
  subst hs
  exact ⟨false, none, 0, [], none, 0, [], c, h.1, ⟨Seg.nil _ _, Seg.nil _ _⟩, fun h => absurd rfl h, .err c, h.2⟩
theorem AnsSaid.of_fe {s : Except Int Rat} {n : Nat} {w w' : World} {e : Ending} {q : Rat} (h : ∃ (b' : Bool) (a' : Option Addr) (ca' : Nat) (ts' : List Int) (c' : Option Addr) (cc' : Nat) (es' : List Int), e = .returned (.tuple #[.agg #[.bool b', .slice a' ts'.length ca', .slice c' es'.length cc'], .int .i64 0]) ∧ Fr w.heap.size w' a' ca' ts' c' cc' es' ∧ Apart a' c' ts' es' ∧ Is b' ts' es' (q) (n) ∧ Below w.heap.size w w') (hs : s = .ok q) : AnsSaid s n w e w' := by
  subst hs
  obtain ⟨g, a, ca, ts, c, cc, es, he, F, P, I, hb⟩ := h
  exact ⟨g, a, ca, ts, c, cc, es, 0, he, F, P, .ok I, hb⟩
/-- like of two answers that are the same; the first is written over. -/
theorem lrlike_ans {lo lo2 : Nat} {a c p r : Option Addr} {ca cc cp cr : Nat} {xs ds ys es : List Int} {w : World} {b g : Bool} {e1 e2 : Int} {s : Except Int Rat} {n m : Nat} (FA : Fr lo w a ca xs c cc ds) (FB : Fr lo2 w p cp ys r cr es) (PA : Apart a c xs ds) (h : AnsIs n s b xs ds e1) (k : AnsIs m s g ys es e2) (hn : n ≤ 1000) (hlo : lo ≤ w.heap.size) :
    Calls Tryz.prog 12 #[.agg #[.bool b, .slice a xs.length ca, .slice c ds.length cc], .int .i64 e1, .agg #[.bool g, .slice p ys.length cp, .slice r es.length cr], .int .i64 e2] w fun e w' => e = .returned (.bool true) ∧ Below lo w w' ∧ BoxesStay w w' := by
  obtain ⟨rfl, rfl, rfl, rfl⟩ := h.unique k FA.up.words FA.down.words FB.up.words FB.down.words
  have hl := h.len
  exact lrlike_yes b FA FB PA ⟨by omega, by omega⟩ hlo e1

def makeS (b : Bool) (xs ds : List Int) : Except Int Rat := if formI b xs = 0 then (if val ds = 0 then .error 5 else .ok (Rat.divInt (sgn b (val xs)) (val ds))) else .error 6
def pairS (x y : Int) : Except Int Rat := if y = 0 then .error 5 else .ok (Rat.divInt x y)
theorem pmake_all {lo : Nat} {a c : Option Addr} {ca cc : Nat} {xs ds : List Int} {w : World} (b : Bool) (FA : Fr lo w a ca xs c cc ds) {n : Nat} (hl : xs.length ≤ n ∧ ds.length ≤ n) (hn : n ≤ 1000) :
    Calls Tryz.prog 33 #[.agg #[.bool b, .slice a xs.length ca], .slice c ds.length cc] w fun e w' => AnsSaid (makeS b xs ds) n w e w' := by
  by_cases hc : Canon b xs
  · have hf := formI_canon.2 hc
    by_cases hd : val ds = 0
    · exact (pmake_zero b FA (by omega) (by omega) hc hd).mono fun e w' h => AnsSaid.of_err h (by rw [makeS, if_pos hf, if_pos hd])
    · exact (pmake_ok b FA (by omega) (by omega) hl hc (by have := val_nonneg FA.down.words; omega)).mono fun e w' h => AnsSaid.of_fe h (by rw [makeS, if_pos hf, if_neg hd])
  · exact (pmake_form b FA (by omega) hc).mono fun e w' h => AnsSaid.of_err h (by rw [makeS, if_neg (fun h => hc (formI_canon.1 h))])
theorem kmake_all {lo : Nat} {a c : Option Addr} {ca cc : Nat} {xs ds : List Int} {w : World} (b : Bool) (FA : Fr lo w a ca xs c cc ds) {n : Nat} (hl : xs.length ≤ n ∧ ds.length ≤ n) (hn : n ≤ 1000) :
    Calls Tryz.prog 34 #[.agg #[.bool b, .slice a xs.length ca], .slice c ds.length cc] w fun e w' => AnsSaid (makeS b xs ds) n w e w' := by
  by_cases hc : Canon b xs
  · have hf := formI_canon.2 hc
    by_cases hd : val ds = 0
    · exact (kmake_zero b FA (by omega) (by omega) hc hd).mono fun e w' h => AnsSaid.of_err h (by rw [makeS, if_pos hf, if_pos hd])
    · exact (kmake_ok b FA hl hn hc (by have := val_nonneg FA.down.words; omega)).mono fun e w' h => AnsSaid.of_fe h (by rw [makeS, if_pos hf, if_neg hd])
  · exact (kmake_form b FA (by omega) hc).mono fun e w' h => AnsSaid.of_err h (by rw [makeS, if_neg (fun h => hc (formI_canon.1 h))])
theorem ppair_all (x y : Int) (hx : -9223372036854775808 ≤ x ∧ x < 9223372036854775808) (hy : -9223372036854775808 ≤ y ∧ y < 9223372036854775808) (w : World) :
    Calls Tryz.prog 35 #[.int .i64 x, .int .i64 y] w fun e w' => AnsSaid (pairS x y) 1 w e w' := by
  rcases Int.lt_trichotomy y 0 with h | h | h
  · exact (ppair_neg x y hx hy h w).mono fun e w' k => AnsSaid.of_fe k (by rw [pairS, if_neg (by omega)])
  · exact (ppair_zero x y hx hy h w).mono fun e w' k => AnsSaid.of_err k (by rw [pairS, if_pos h])
  · exact (ppair_pos x y hx hy h w).mono fun e w' k => AnsSaid.of_fe k (by rw [pairS, if_neg (by omega)])
theorem kpair_all (x y : Int) (hx : -9223372036854775808 ≤ x ∧ x < 9223372036854775808) (hy : -9223372036854775808 ≤ y ∧ y < 9223372036854775808) (w : World) :
    Calls Tryz.prog 36 #[.int .i64 x, .int .i64 y] w fun e w' => AnsSaid (pairS x y) 1 w e w' := by
  by_cases h : y = 0
  · subst h
    exact (kpair_zero x w).mono fun e w' k => AnsSaid.of_err k (by rw [pairS, if_pos rfl])
  · exact (kpair_ok x y hx hy h w).mono fun e w' k => AnsSaid.of_fe k (by rw [pairS, if_neg h])
end Go.Proofs.YtblmkddjlfienaaGreat

/-
  The words of the statements on lists of fractions: good, long.
-/
namespace Go.Proofs.YtblmkddjlfienaaGreat
open Go.RowKit

/-- What good says of a list. -/
structure GoodIs (v : Bool) (rs : List RV) : Prop where
  out : v = true ↔ ∀ r ∈ rs, formR r.b r.xs r.ds = 0

set_option maxRecDepth 100000 in
set_option maxHeartbeats 2000000 in
/-- good: are these all fractions? -/
theorem lrgood_any {sv : Option Addr} {cap : Nat} {rs : List RV} {w : World} (R : Row 0 w sv rs) (hrl : rs.length ≤ 1000) (hlen : ∀ r ∈ rs, r.xs.length ≤ 1000 ∧ r.ds.length ≤ 1000) (v : Bool) (hv : GoodIs v rs) :
    Calls Tryz.prog 39 #[.slice sv rs.length cap] w fun e w' => e = .returned (.bool v) ∧ Below w.heap.size w w' := by
  go_enter Tryz.func39, Tryz.ntmps39
  go_wp2
  go_loopw [3] (fun iv wr => ∃ (i : Nat), iv = .int .i64 i ∧ i ≤ rs.length ∧ Row 0 wr sv rs ∧ Below w.heap.size w wr ∧ Hid (∀ r ∈ rs.take i, formR r.b r.xs r.ds = 0)) (fun iv _ => rs.length - (intOf iv).toNat)
  case atStart => exact ⟨0, rfl, Nat.zero_le _, R, Below.refl _ _, by rw [Hid]; simp⟩
  case round =>
    clear R
    obtain ⟨i, rfl, hi, R, hB, HG⟩ := hrel
    have hw1 : IntKind.i64.wrap ((i : Int) + 1) = (i : Int) + 1 := by rw [IntKind.wrap_i64]; omega
    by_cases hlt : i < rs.length
    · have hlt2 : (i : Int) < (rs.length : Int) := by omega
      have hge : ¬ (i : Int) < 0 := by omega
      obtain ⟨g, o, rfl, hg⟩ := R.at_ i hlt
      obtain ⟨r, hr0⟩ : ∃ r, rs[i]? = some r := ⟨rs[i], List.getElem?_eq_getElem hlt⟩
      have hr := hide hr0
      have F1 := R.held i r hr0
      clear hr0
      have hlr := hlen r (List.mem_of_getElem? hr.out)
      have hcc := R.cells g o i r rfl hr.out
      have c0 := hcc.1
      have c1 := hcc.2.1
      have c2 := hcc.2.2
      have hk := pcheck_any r.b F1 (by omega) (by omega)
      have hms : rs.length - (i + 1) < rs.length - i := by omega
      clear hcc
      rcases formR_or r.b r.xs r.ds with h | h
      · rw [h] at hk
        have H := hide h
        clear h
        go_wp2_with fail
        refine hk.mono ?_
        rintro e w1 ⟨rfl, hb1⟩
        have R1 := R.below hb1
        have hB1 := hB.trans (hb1.mono hB.size)
        clear hk c0 c1 c2
        go_wp2
        refine ⟨⟨i + 1, by simp, by omega, R1, hB1, ?_⟩, by simpa [intOf] using hms⟩
        rw [Hid]
        intro s hs
        rw [List.take_add_one, hr.out] at hs
        simp only [Option.toList_some, List.mem_append, List.mem_singleton] at hs
        rcases hs with hs | rfl
        · exact HG.out s hs
        · exact H.out
      · rw [h] at hk
        obtain rfl : v = false := by
          cases v
          · rfl
          · have := hv.out.1 rfl r (List.mem_of_getElem? hr.out)
            rw [h] at this
            exact absurd this (by decide)
        clear h
        go_wp2_with fail
        refine hk.mono ?_
        rintro e w1 ⟨rfl, hb1⟩
        have hB1 := hB.trans (hb1.mono hB.size)
        clear hk c0 c1 c2
        go_wp2
        go_ret
        exact ⟨rfl, hB1⟩
    · have hnl : ¬ (i : Int) < (rs.length : Int) := by omega
      obtain rfl : v = true := hv.out.2 (by have := HG.out; rw [List.take_of_length_le (by omega)] at this; exact this)
      go_wp2
      go_ret
      exact ⟨rfl, hB⟩

def longB (r : RV) : Bool := decide ((5 : Int) < (r.xs.length : Int) ∨ (5 : Int) < (r.ds.length : Int))
/-- What long says of a list. -/
structure LongIs (v : Bool) (rs : List RV) : Prop where
  out : v = true ↔ 6 < rs.length ∨ ∃ r ∈ rs.take 7, longB r = true

set_option maxRecDepth 100000 in
set_option maxHeartbeats 2000000 in
/-- long: are fractions more than are gone through? -/
theorem lrlong_any {sv : Option Addr} {cap : Nat} {rs : List RV} {w : World} (R : Row 0 w sv rs) (v : Bool) (hv : LongIs v rs) :
    Calls Tryz.prog 7 #[.slice sv rs.length cap] w fun e w' => e = .returned (.bool v) ∧ Below w.heap.size w w' := by
  go_enter Tryz.func7, Tryz.ntmps7
  go_wp2
  go_loopw [3] (fun iv wr => ∃ (i : Nat), iv = .int .i64 i ∧ i ≤ rs.length ∧ i ≤ 7 ∧ Row 0 wr sv rs ∧ Below w.heap.size w wr ∧ Hid (∀ r ∈ rs.take i, longB r = false)) (fun iv _ => rs.length - (intOf iv).toNat)
  case atStart => exact ⟨0, rfl, Nat.zero_le _, by omega, R, Below.refl _ _, by rw [Hid]; simp⟩
  case round =>
    clear R
    obtain ⟨i, rfl, hi, hi7, R, hB, HG⟩ := hrel
    have hw1 : IntKind.i64.wrap ((i : Int) + 1) = (i : Int) + 1 := by rw [IntKind.wrap_i64]; omega
    by_cases hlt : i < rs.length
    · have hlt2 : (i : Int) < (rs.length : Int) := by omega
      have hge : ¬ (i : Int) < 0 := by omega
      by_cases h7 : i < 7
      · have h72 : (i : Int) < 7 := by omega
        obtain ⟨g, o, rfl, hg⟩ := R.at_ i hlt
        obtain ⟨r, hr0⟩ : ∃ r, rs[i]? = some r := ⟨rs[i], List.getElem?_eq_getElem hlt⟩
        have hr := hide hr0
        clear hr0
        have hcc := R.cells g o i r rfl hr.out
        have c0 := hcc.1
        have c1 := hcc.2.1
        have c2 := hcc.2.2
        have hk := fun w => longr_any r.b r.a r.xs r.ca r.c r.ds r.cc 5 w
        have hms : rs.length - (i + 1) < rs.length - i := by omega
        have hmem : r ∈ rs.take 7 := by
          refine List.mem_iff_getElem?.2 ⟨i, ?_⟩
          rw [List.getElem?_take_of_lt h7]
          exact hr.out
        have HM := hide hmem
        clear hcc hmem
        obtain ⟨x, hx⟩ : ∃ x, decide ((5 : Int) < (r.xs.length : Int) ∨ (5 : Int) < (r.ds.length : Int)) = x := ⟨_, rfl⟩
        rw [hx] at hk
        have HX : Hid (longB r = x) := hx
        clear hx
        cases x with
        | false =>
          go_wp2_with fail
          refine (hk _).mono ?_
          rintro e w1 ⟨rfl, hb1⟩
          have R1 := R.below hb1
          have hB1 := hB.trans (hb1.mono hB.size)
          clear hk c0 c1 c2
          go_wp2
          refine ⟨⟨i + 1, by simp, by omega, by omega, R1, hB1, ?_⟩, by simpa [intOf] using hms⟩
          rw [Hid]
          intro s hs
          rw [List.take_add_one, hr.out] at hs
          simp only [Option.toList_some, List.mem_append, List.mem_singleton] at hs
          rcases hs with hs | rfl
          · exact HG.out s hs
          · exact HX.out
        | true =>
          obtain rfl : v = true := hv.out.2 (Or.inr ⟨r, HM.out, HX.out⟩)
          go_wp2_with fail
          refine (hk _).mono ?_
          rintro e w1 ⟨rfl, hb1⟩
          have hB1 := hB.trans (hb1.mono hB.size)
          clear hk c0 c1 c2
          go_wp2
          go_ret
          exact ⟨rfl, hB1⟩
      · have h72 : ¬ (i : Int) < 7 := by omega
        have h6 : (6 : Int) < (rs.length : Int) := by omega
        obtain rfl : v = true := hv.out.2 (Or.inl (by omega))
        go_wp2
        go_ret
        exact ⟨rfl, hB⟩
    · have hnl : ¬ (i : Int) < (rs.length : Int) := by omega
      by_cases h6 : 6 < rs.length
      · have h62 : (6 : Int) < (rs.length : Int) := by omega
        obtain rfl : v = true := hv.out.2 (Or.inl h6)
        go_wp2
        go_ret
        exact ⟨rfl, hB⟩
      · have h62 : ¬ (6 : Int) < (rs.length : Int) := by omega
        obtain rfl : v = false := by
          cases v
          · rfl
          · rcases hv.out.1 rfl with h | ⟨r, hr, hl⟩
            · exact absurd h h6
            · have h0 := HG.out
              rw [List.take_of_length_le (by omega)] at h0 hr
              rw [h0 r hr] at hl
              cases hl
        go_wp2
        go_ret
        exact ⟨rfl, hB⟩
end Go.Proofs.YtblmkddjlfienaaGreat

/-
  awake: some of the chapter's examples.
-/
namespace Go.Proofs.YtblmkddjlfienaaGreat
open Go.RowKit

set_option maxRecDepth 100000 in
set_option maxHeartbeats 4000000 in
theorem lrawake_any (w : World) : Calls Tryz.prog 8 #[] w fun e w' => e = .returned (.bool true) ∧ Below w.heap.size w w' := by
  have hB := Below.refl w.heap.size w
  go_enter Tryz.func8, Tryz.ntmps8
  go_wp2_with fail
  refine (ppair_neg 6 (-4) (by decide) (by decide) (by decide) _).mono ?_
  rintro e w1 ⟨g1, a1, c1, x1, e1, t1, y1, rfl, F1, P1, I1, hb⟩
  replace I1 : Is g1 x1 y1 (Rat.divInt (-3) 2) (1) := I1.to (by decide +kernel)
  replace hB := hB.trans (hb.mono hB.size)
  have zz1 := hb.size
  have zh1 := hB.size
  clear hb
  have hA := Below.refl w1.heap.size w1
  have hq : Below w1.heap.size w1 (w1.alloc (.cells #[.bool g1, .slice a1 x1.length c1, .slice e1 y1.length t1] 30)) := (Below.refl _ _).alloc (Nat.le_refl _) _
  replace F1 := F1.below hq
  have E1 : Box (w1.alloc (.cells #[.bool g1, .slice a1 x1.length c1, .slice e1 y1.length t1] 30)) (w1.heap.size) (.cells #[.bool g1, .slice a1 x1.length c1, .slice e1 y1.length t1] 30) := Box.put (.cells #[.bool g1, .slice a1 x1.length c1, .slice e1 y1.length t1] 30) rfl
  replace hA := hA.trans (hq.mono hA.size)
  replace hB := hB.trans (hq.mono hB.size)
  clear hq
  clear hA
  go_wp2_with fail
  obtain ⟨u2, hname⟩ : ∃ u, (w1.alloc (.cells #[.bool g1, .slice a1 x1.length c1, .slice e1 y1.length t1] 30)) = u := ⟨_, rfl⟩
  rw [hname] at hB F1 E1 ⊢
  have zh2 := hB.size
  clear hname
  refine (lrof_any (1) 2 (by decide) (by decide) _).mono ?_
  rintro e w3 ⟨g2, a2, c2, x2, e2, t2, y2, rfl, F2, P2, N2, M2, V2, U2, b2, B2, hb⟩
  have I2 := of_is N2 M2 V2 U2 b2 B2 (by decide) (by decide)
  clear P2
  replace F1 := F1.below hb
  replace E1 := E1.below hb
  replace hB := hB.trans (hb.mono hB.size)
  have zz3 := hb.size
  have zh3 := hB.size
  clear hb
  go_wp2_with fail
  refine (lrof_any (1) 3 (by decide) (by decide) _).mono ?_
  rintro e w4 ⟨g3, a3, c3, x3, e3, t3, y3, rfl, F3, P3, N3, M3, V3, U3, b3, B3, hb⟩
  have I3 := of_is N3 M3 V3 U3 b3 B3 (by decide) (by decide)
  clear P3
  replace F1 := F1.below hb
  replace E1 := E1.below hb
  replace F2 := F2.below hb
  replace hB := hB.trans (hb.mono hB.size)
  have zz4 := hb.size
  have zh4 := hB.size
  clear hb
  go_wp2_with fail
  refine (lrof_any (1) 6 (by decide) (by decide) _).mono ?_
  rintro e w5 ⟨g4, a4, c4, x4, e4, t4, y4, rfl, F4, P4, N4, M4, V4, U4, b4, B4, hb⟩
  have I4 := of_is N4 M4 V4 U4 b4 B4 (by decide) (by decide)
  clear P4
  replace F1 := F1.below hb
  replace E1 := E1.below hb
  replace F2 := F2.below hb
  replace F3 := F3.below hb
  replace hB := hB.trans (hb.mono hB.size)
  have zz5 := hb.size
  have zh5 := hB.size
  clear hb
  have qE1 := E1.lt
  have hA := Below.refl w5.heap.size w5
  have hq : Below w5.heap.size w5 (w5.alloc (.cells #[.bool g2, .slice a2 x2.length c2, .slice e2 y2.length t2, .bool g3, .slice a3 x3.length c3, .slice e3 y3.length t3, .bool g4, .slice a4 x4.length c4, .slice e4 y4.length t4] 30)) := (Below.refl _ _).alloc (Nat.le_refl _) _
  replace F1 := F1.below hq
  replace E1 := E1.below hq
  replace F2 := F2.below hq
  replace F3 := F3.below hq
  replace F4 := F4.below hq
  have L5 : Box (w5.alloc (.cells #[.bool g2, .slice a2 x2.length c2, .slice e2 y2.length t2, .bool g3, .slice a3 x3.length c3, .slice e3 y3.length t3, .bool g4, .slice a4 x4.length c4, .slice e4 y4.length t4] 30)) (w5.heap.size) (.cells #[.bool g2, .slice a2 x2.length c2, .slice e2 y2.length t2, .bool g3, .slice a3 x3.length c3, .slice e3 y3.length t3, .bool g4, .slice a4 x4.length c4, .slice e4 y4.length t4] 30) := Box.put (.cells #[.bool g2, .slice a2 x2.length c2, .slice e2 y2.length t2, .bool g3, .slice a3 x3.length c3, .slice e3 y3.length t3, .bool g4, .slice a4 x4.length c4, .slice e4 y4.length t4] 30) rfl
  replace hA := hA.trans (hq.mono hA.size)
  replace hB := hB.trans (hq.mono hB.size)
  clear hq
  clear hA
  go_wp2_with fail
  obtain ⟨u6, hname⟩ : ∃ u, (w5.alloc (.cells #[.bool g2, .slice a2 x2.length c2, .slice e2 y2.length t2, .bool g3, .slice a3 x3.length c3, .slice e3 y3.length t3, .bool g4, .slice a4 x4.length c4, .slice e4 y4.length t4] 30)) = u := ⟨_, rfl⟩
  rw [hname] at hB F1 E1 F2 F3 F4 L5 ⊢
  have zh6 := hB.size
  clear hname
  have R := row_box (rs := [⟨g2, a2, c2, x2, e2, t2, y2⟩, ⟨g3, a3, c3, x3, e3, t3, y3⟩, ⟨g4, a4, c4, x4, e4, t4, y4⟩]) (k := w5.heap.size) L5 (fun r hr => by
      simp only [List.mem_cons, List.not_mem_nil, or_false] at hr
      rcases hr with rfl | rfl | rfl
      · exact F2.mono (Nat.zero_le _)
      · exact F3.mono (Nat.zero_le _)
      · exact F4.mono (Nat.zero_le _))
  have hlen : ∀ r ∈ ([⟨g2, a2, c2, x2, e2, t2, y2⟩, ⟨g3, a3, c3, x3, e3, t3, y3⟩, ⟨g4, a4, c4, x4, e4, t4, y4⟩] : List RV), r.xs.length ≤ 1 ∧ r.ds.length ≤ 1 := fun r hr => by
      simp only [List.mem_cons, List.not_mem_nil, or_false] at hr
      rcases hr with rfl | rfl | rfl
      · exact ⟨Nat.le_trans I2.lu (by decide), Nat.le_trans I2.ld (by decide)⟩
      · exact ⟨Nat.le_trans I3.lu (by decide), Nat.le_trans I3.ld (by decide)⟩
      · exact ⟨Nat.le_trans I4.lu (by decide), Nat.le_trans I4.ld (by decide)⟩
  have hg : ∀ r ∈ ([⟨g2, a2, c2, x2, e2, t2, y2⟩, ⟨g3, a3, c3, x3, e3, t3, y3⟩, ⟨g4, a4, c4, x4, e4, t4, y4⟩] : List RV), formR r.b r.xs r.ds = 0 := fun r hr => by
      simp only [List.mem_cons, List.not_mem_nil, or_false] at hr
      rcases hr with rfl | rfl | rfl
      · exact I2.good F2.up.words F2.down.words
      · exact I3.good F3.up.words F3.down.words
      · exact I4.good F4.up.words F4.down.words
  refine (padd_ok (cap := 3) R (by simp) hlen (by omega) hg).mono ?_
  rintro e w7 ⟨g6, a6, c6, x6, e6, t6, y6, rfl, F6, P6, I6, hb⟩
  replace I6 : Is g6 x6 y6 (Rat.divInt 1 1) (7) := (I6.mono (by simp)).to (by simp only [sumQ, RV.q, List.foldl, I2.rat, I3.rat, I4.rat]; decide +kernel)
  replace F1 := F1.below hb
  replace E1 := E1.below hb
  replace F2 := F2.below hb
  replace F3 := F3.below hb
  replace F4 := F4.below hb
  replace L5 := L5.below hb
  replace hB := hB.trans (hb.mono hB.size)
  have zz7 := hb.size
  have zh7 := hB.size
  clear hb
  clear R hlen hg
  clear L5
  have qE1 := E1.lt
  have hA := Below.refl w7.heap.size w7
  have hq : Below w7.heap.size w7 (w7.alloc (.cells #[.bool g6, .slice a6 x6.length c6, .slice e6 y6.length t6] 30)) := (Below.refl _ _).alloc (Nat.le_refl _) _
  replace F1 := F1.below hq
  replace E1 := E1.below hq
  replace F2 := F2.below hq
  replace F3 := F3.below hq
  replace F4 := F4.below hq
  replace F6 := F6.below hq
  have E6 : Box (w7.alloc (.cells #[.bool g6, .slice a6 x6.length c6, .slice e6 y6.length t6] 30)) (w7.heap.size) (.cells #[.bool g6, .slice a6 x6.length c6, .slice e6 y6.length t6] 30) := Box.put (.cells #[.bool g6, .slice a6 x6.length c6, .slice e6 y6.length t6] 30) rfl
  replace hA := hA.trans (hq.mono hA.size)
  replace hB := hB.trans (hq.mono hB.size)
  clear hq
  clear hA
  go_wp2_with fail
  obtain ⟨u8, hname⟩ : ∃ u, (w7.alloc (.cells #[.bool g6, .slice a6 x6.length c6, .slice e6 y6.length t6] 30)) = u := ⟨_, rfl⟩
  rw [hname] at hB F1 E1 F2 F3 F4 F6 E6 ⊢
  have zh8 := hB.size
  clear hname
  refine (lrof_any (2) 3 (by decide) (by decide) _).mono ?_
  rintro e w9 ⟨g7, a7, c7, x7, e7, t7, y7, rfl, F7, P7, N7, M7, V7, U7, b7, B7, hb⟩
  have I7 := of_is N7 M7 V7 U7 b7 B7 (by decide) (by decide)
  clear P7
  replace F1 := F1.below hb
  replace E1 := E1.below hb
  replace F2 := F2.below hb
  replace F3 := F3.below hb
  replace F4 := F4.below hb
  replace F6 := F6.below hb
  replace E6 := E6.below hb
  replace hB := hB.trans (hb.mono hB.size)
  have zz9 := hb.size
  have zh9 := hB.size
  clear hb
  go_wp2_with fail
  refine (lrof_any (3) 4 (by decide) (by decide) _).mono ?_
  rintro e w10 ⟨g8, a8, c8, x8, e8, t8, y8, rfl, F8, P8, N8, M8, V8, U8, b8, B8, hb⟩
  have I8 := of_is N8 M8 V8 U8 b8 B8 (by decide) (by decide)
  clear P8
  replace F1 := F1.below hb
  replace E1 := E1.below hb
  replace F2 := F2.below hb
  replace F3 := F3.below hb
  replace F4 := F4.below hb
  replace F6 := F6.below hb
  replace E6 := E6.below hb
  replace F7 := F7.below hb
  replace hB := hB.trans (hb.mono hB.size)
  have zz10 := hb.size
  have zh10 := hB.size
  clear hb
  clear F2 F3 F4
  have qE1 := E1.lt
  have qE6 := E6.lt
  have hA := Below.refl w10.heap.size w10
  have hq : Below w10.heap.size w10 (w10.alloc (.cells #[.bool g7, .slice a7 x7.length c7, .slice e7 y7.length t7, .bool g8, .slice a8 x8.length c8, .slice e8 y8.length t8] 30)) := (Below.refl _ _).alloc (Nat.le_refl _) _
  replace F1 := F1.below hq
  replace E1 := E1.below hq
  replace F6 := F6.below hq
  replace E6 := E6.below hq
  replace F7 := F7.below hq
  replace F8 := F8.below hq
  have L9 : Box (w10.alloc (.cells #[.bool g7, .slice a7 x7.length c7, .slice e7 y7.length t7, .bool g8, .slice a8 x8.length c8, .slice e8 y8.length t8] 30)) (w10.heap.size) (.cells #[.bool g7, .slice a7 x7.length c7, .slice e7 y7.length t7, .bool g8, .slice a8 x8.length c8, .slice e8 y8.length t8] 30) := Box.put (.cells #[.bool g7, .slice a7 x7.length c7, .slice e7 y7.length t7, .bool g8, .slice a8 x8.length c8, .slice e8 y8.length t8] 30) rfl
  replace hA := hA.trans (hq.mono hA.size)
  replace hB := hB.trans (hq.mono hB.size)
  clear hq
  clear hA
  go_wp2_with fail
  obtain ⟨u11, hname⟩ : ∃ u, (w10.alloc (.cells #[.bool g7, .slice a7 x7.length c7, .slice e7 y7.length t7, .bool g8, .slice a8 x8.length c8, .slice e8 y8.length t8] 30)) = u := ⟨_, rfl⟩
  rw [hname] at hB F1 E1 F6 E6 F7 F8 L9 ⊢
  have zh11 := hB.size
  clear hname
  have R := row_box (rs := [⟨g7, a7, c7, x7, e7, t7, y7⟩, ⟨g8, a8, c8, x8, e8, t8, y8⟩]) (k := w10.heap.size) L9 (fun r hr => by
      simp only [List.mem_cons, List.not_mem_nil, or_false] at hr
      rcases hr with rfl | rfl
      · exact F7.mono (Nat.zero_le _)
      · exact F8.mono (Nat.zero_le _))
  have hlen : ∀ r ∈ ([⟨g7, a7, c7, x7, e7, t7, y7⟩, ⟨g8, a8, c8, x8, e8, t8, y8⟩] : List RV), r.xs.length ≤ 1 ∧ r.ds.length ≤ 1 := fun r hr => by
      simp only [List.mem_cons, List.not_mem_nil, or_false] at hr
      rcases hr with rfl | rfl
      · exact ⟨Nat.le_trans I7.lu (by decide), Nat.le_trans I7.ld (by decide)⟩
      · exact ⟨Nat.le_trans I8.lu (by decide), Nat.le_trans I8.ld (by decide)⟩
  have hg : ∀ r ∈ ([⟨g7, a7, c7, x7, e7, t7, y7⟩, ⟨g8, a8, c8, x8, e8, t8, y8⟩] : List RV), formR r.b r.xs r.ds = 0 := fun r hr => by
      simp only [List.mem_cons, List.not_mem_nil, or_false] at hr
      rcases hr with rfl | rfl
      · exact I7.good F7.up.words F7.down.words
      · exact I8.good F8.up.words F8.down.words
  refine (pmul_ok (cap := 2) R (by simp) hlen (by omega) hg).mono ?_
  rintro e w12 ⟨g10, a10, c10, x10, e10, t10, y10, rfl, F10, P10, I10, hb⟩
  replace I10 : Is g10 x10 y10 (Rat.divInt 1 2) (5) := (I10.mono (by simp)).to (by simp only [mulQ, RV.q, List.foldl, I7.rat, I8.rat]; decide +kernel)
  replace F1 := F1.below hb
  replace E1 := E1.below hb
  replace F6 := F6.below hb
  replace E6 := E6.below hb
  replace F7 := F7.below hb
  replace F8 := F8.below hb
  replace L9 := L9.below hb
  replace hB := hB.trans (hb.mono hB.size)
  have zz12 := hb.size
  have zh12 := hB.size
  clear hb
  clear R hlen hg
  clear L9
  obtain ⟨k0, k1, k2, f0, f1, f2⟩ := E1.three
  have qE1 := E1.lt
  have qE6 := E6.lt
  have hA := Below.refl w12.heap.size w12
  have hq : Below w12.heap.size w12 (w12.alloc (.cells #[.bool g10, .slice a10 x10.length c10, .slice e10 y10.length t10] 30)) := (Below.refl _ _).alloc (Nat.le_refl _) _
  replace F1 := F1.below hq
  replace E1 := E1.below hq
  replace F6 := F6.below hq
  replace E6 := E6.below hq
  replace F7 := F7.below hq
  replace F8 := F8.below hq
  replace F10 := F10.below hq
  have E10 : Box (w12.alloc (.cells #[.bool g10, .slice a10 x10.length c10, .slice e10 y10.length t10] 30)) (w12.heap.size) (.cells #[.bool g10, .slice a10 x10.length c10, .slice e10 y10.length t10] 30) := Box.put (.cells #[.bool g10, .slice a10 x10.length c10, .slice e10 y10.length t10] 30) rfl
  replace hA := hA.trans (hq.mono hA.size)
  replace hB := hB.trans (hq.mono hB.size)
  clear hq
  clear hA
  go_wp2_with fail
  clear k0 k1 k2 f0 f1 f2
  obtain ⟨u13, hname⟩ : ∃ u, (w12.alloc (.cells #[.bool g10, .slice a10 x10.length c10, .slice e10 y10.length t10] 30)) = u := ⟨_, rfl⟩
  rw [hname] at hB F1 E1 F6 E6 F7 F8 F10 E10 ⊢
  have zh13 := hB.size
  clear hname
  refine (lris_yes g1 F1 (-3) 2 (by decide) (by decide) (by decide) I1 (by decide)).mono ?_
  rintro e w14 ⟨rfl, hb⟩
  replace F1 := F1.below hb
  replace E1 := E1.below hb
  replace F6 := F6.below hb
  replace E6 := E6.below hb
  replace F7 := F7.below hb
  replace F8 := F8.below hb
  replace F10 := F10.below hb
  replace E10 := E10.below hb
  replace hB := hB.trans (hb.mono hB.size)
  have zz14 := hb.size
  have zh14 := hB.size
  clear hb
  clear E1 F1
  clear F7 F8
  obtain ⟨k0, k1, k2, f0, f1, f2⟩ := E6.three
  go_wp2_with fail
  clear k0 k1 k2 f0 f1 f2
  refine (lris_yes g6 F6 (1) 1 (by decide) (by decide) (by decide) I6 (by decide)).mono ?_
  rintro e w15 ⟨rfl, hb⟩
  replace F6 := F6.below hb
  replace E6 := E6.below hb
  replace F10 := F10.below hb
  replace E10 := E10.below hb
  replace hB := hB.trans (hb.mono hB.size)
  have zz15 := hb.size
  have zh15 := hB.size
  clear hb
  clear E6 F6
  obtain ⟨k0, k1, k2, f0, f1, f2⟩ := E10.three
  go_wp2_with fail
  clear k0 k1 k2 f0 f1 f2
  refine (lris_yes g10 F10 (1) 2 (by decide) (by decide) (by decide) I10 (by decide)).mono ?_
  rintro e w16 ⟨rfl, hb⟩
  replace F10 := F10.below hb
  replace E10 := E10.below hb
  replace hB := hB.trans (hb.mono hB.size)
  have zz16 := hb.size
  have zh16 := hB.size
  clear hb
  clear E10 F10
  go_wp2_with fail
  refine (lrof_any (2) 4 (by decide) (by decide) _).mono ?_
  rintro e w17 ⟨g11, a11, c11, x11, e11, t11, y11, rfl, F11, P11, N11, M11, V11, U11, b11, B11, hb⟩
  have I11 := of_none F11.up.words F11.down.words V11 U11 (by decide)
  clear P11
  replace hB := hB.trans (hb.mono hB.size)
  have zz17 := hb.size
  have zh17 := hB.size
  clear hb
  go_wp2_with fail
  have hk := pcheck_any g11 F11 (by omega) (by omega)
  rw [I11] at hk
  refine (hk).mono ?_
  rintro e w18 ⟨rfl, hb⟩
  replace F11 := F11.below hb
  replace hB := hB.trans (hb.mono hB.size)
  have zz18 := hb.size
  have zh18 := hB.size
  clear hb
  clear hk
  go_wp2
  go_ret
  exact ⟨rfl, hB⟩
end Go.Proofs.YtblmkddjlfienaaGreat

/-
  The walk of RatioMakes.
-/
namespace Go.Proofs.YtblmkddjlfienaaGreat
open Go.RowKit

theorem longNat_bel (a : Option Addr) (len cap : Nat) (most : Int) (w : World) : Calls Tryz.prog 30 #[.slice a len cap, .int .i64 most] w fun e w' => e = .returned (.bool (decide (most < (len : Int)))) ∧ Below w.heap.size w w' :=
  (longNat_any a len cap most w).mono (fun _ _ h => ⟨h.1, h.2 ▸ Below.refl _ _⟩)

set_option maxRecDepth 100000 in
set_option maxHeartbeats 4000000 in
theorem lrmakes_short {a c : Option Addr} {ca cc : Nat} {xs ds : List Int} {w : World} (b : Bool) (SA : Seg 0 w (.slice a xs.length ca) xs) (SB : Seg 0 w (.slice c ds.length cc) ds) (hl1 : xs.length ≤ 6) (hl2 : ds.length ≤ 6) (x y : Int) (hx : -9223372036854775808 ≤ x ∧ x < 9223372036854775808) (hy : -9223372036854775808 ≤ y ∧ y < 9223372036854775808) :
    Calls Tryz.prog 5 #[.agg #[.bool b, .slice a xs.length ca], .slice c ds.length cc, .int .i64 x, .int .i64 y] w fun e w' => e = .returned (.bool true) ∧ Below w.heap.size w w' := by
  have l1 := fun w => longNat_bel a xs.length ca 6 w
  rw [decide_eq_false (show ¬ ((6 : Int) < (xs.length : Int)) by omega)] at l1
  have L1 := hide l1
  clear l1
  have l2 := fun w => longNat_bel c ds.length cc 6 w
  rw [decide_eq_false (show ¬ ((6 : Int) < (ds.length : Int)) by omega)] at l2
  have L2 := hide l2
  clear l2
  have hB := Below.refl w.heap.size w
  go_enter Tryz.func5, Tryz.ntmps5
  have hs0 := Nat.le_refl w.heap.size
  have hq : Below w.heap.size w (w.alloc (.cells #[.bool b, .slice a xs.length ca] 28)) := (Below.refl _ _).alloc (Nat.le_refl _) _
  replace SA := SA.below hq
  replace SB := SB.below hq
  have EA : Box (w.alloc (.cells #[.bool b, .slice a xs.length ca] 28)) (w.heap.size) (.cells #[.bool b, .slice a xs.length ca] 28) := Box.put (.cells #[.bool b, .slice a xs.length ca] 28) rfl
  replace hs0 := Nat.le_trans hs0 hq.size
  replace hB := hB.trans (hq.mono hB.size)
  clear hq
  go_wp2_with fail
  obtain ⟨u1, hname⟩ : ∃ u, (w.alloc (.cells #[.bool b, .slice a xs.length ca] 28)) = u := ⟨_, rfl⟩
  rw [hname] at hs0 hB SA SB EA ⊢
  have zh1 := hB.size
  have zs1 := hs0
  clear hname hs0
  refine (L1.out _).mono ?_
  rintro e w2 ⟨rfl, hb⟩
  replace SA := SA.below hb
  replace SB := SB.below hb
  replace EA := EA.below hb
  replace hB := hB.trans (hb.mono hB.size)
  have zz2 := hb.size
  have zh2 := hB.size
  clear hb
  obtain ⟨k0, k1, f0, f1⟩ := EA.two
  go_wp2_with fail
  clear k0 k1 f0 f1
  refine (L2.out _).mono ?_
  rintro e w3 ⟨rfl, hb⟩
  replace SA := SA.below hb
  replace SB := SB.below hb
  replace EA := EA.below hb
  replace hB := hB.trans (hb.mono hB.size)
  have zz3 := hb.size
  have zh3 := hB.size
  clear hb
  obtain ⟨k0, k1, f0, f1⟩ := EA.two
  go_wp2_with fail
  clear k0 k1 f0 f1
  refine (copyw_any b SA (by omega)).mono ?_
  rintro e w4 ⟨a1, c1, rfl, S1, hb⟩
  replace SA := SA.below hb
  replace SB := SB.below hb
  replace EA := EA.below hb
  replace hB := hB.trans (hb.mono hB.size)
  have zz4 := hb.size
  have zh4 := hB.size
  clear hb
  obtain ⟨k0, k1, f0, f1⟩ := EA.two
  go_wp2_with fail
  clear k0 k1 f0 f1
  refine (copy_any SB (by omega)).mono ?_
  rintro e w5 ⟨a2, c2, rfl, S2, hb⟩
  replace SA := SA.below hb
  replace SB := SB.below hb
  replace EA := EA.below hb
  replace S1 := S1.below hb
  replace hB := hB.trans (hb.mono hB.size)
  have zz5 := hb.size
  have zh5 := hB.size
  clear hb
  obtain ⟨k0, k1, f0, f1⟩ := EA.two
  have qEA := EA.lt
  have hs0 := Nat.le_refl w5.heap.size
  have hq : Below w5.heap.size w5 (w5.alloc (.cells #[.bool b, .slice a1 xs.length c1] 28)) := (Below.refl _ _).alloc (Nat.le_refl _) _
  replace SA := SA.below hq
  replace SB := SB.below hq
  replace EA := EA.below hq
  replace S1 := S1.below hq
  replace S2 := S2.below hq
  have EI : Box (w5.alloc (.cells #[.bool b, .slice a1 xs.length c1] 28)) (w5.heap.size) (.cells #[.bool b, .slice a1 xs.length c1] 28) := Box.put (.cells #[.bool b, .slice a1 xs.length c1] 28) rfl
  replace hs0 := Nat.le_trans hs0 hq.size
  replace hB := hB.trans (hq.mono hB.size)
  clear hq
  go_wp2_with fail
  clear k0 k1 f0 f1
  obtain ⟨u6, hname⟩ : ∃ u, (w5.alloc (.cells #[.bool b, .slice a1 xs.length c1] 28)) = u := ⟨_, rfl⟩
  rw [hname] at hs0 hB SA SB EA S1 S2 EI ⊢
  have zh6 := hB.size
  have zs6 := hs0
  clear hname hs0
  have SA_M := SA
  have SB_M := SB
  have EA_M := EA
  have S1_M := S1
  have S2_M := S2
  have EI_M := EI
  have hM := Below.refl u6.heap.size u6
  refine (pmake_all (lo := 0) (n := 6) b ⟨S1.mono (Nat.zero_le _), S2.mono (Nat.zero_le _)⟩ ⟨by omega, by omega⟩ (by omega)).mono ?_
  rintro e w7 ⟨g3, a3, c3, x3, e3, t3, y3, r3, rfl, F3, P3, I3, hb⟩
  replace SA := SA.below hb
  replace SB := SB.below hb
  replace EA := EA.below hb
  replace S1 := S1.below hb
  replace S2 := S2.below hb
  replace EI := EI.below hb
  replace hB := hB.trans (hb.mono hB.size)
  replace hM := hM.trans (hb.mono hM.size)
  have zz7 := hb.size
  have zh7 := hB.size
  clear hb
  obtain ⟨k0, k1, f0, f1⟩ := EA.two
  obtain ⟨k2, k3, f2, f3⟩ := EI.two
  have qEA := EA.lt
  have qEI := EI.lt
  have hs0 := Nat.le_refl w7.heap.size
  have hq : Below w7.heap.size w7 (w7.alloc (.cells #[.bool g3, .slice a3 x3.length c3, .slice e3 y3.length t3] 30)) := (Below.refl _ _).alloc (Nat.le_refl _) _
  replace SA := SA.below hq
  replace SB := SB.below hq
  replace EA := EA.below hq
  replace S1 := S1.below hq
  replace S2 := S2.below hq
  replace EI := EI.below hq
  replace F3 := F3.below hq
  have EX : Box (w7.alloc (.cells #[.bool g3, .slice a3 x3.length c3, .slice e3 y3.length t3] 30)) (w7.heap.size) (.cells #[.bool g3, .slice a3 x3.length c3, .slice e3 y3.length t3] 30) := Box.put (.cells #[.bool g3, .slice a3 x3.length c3, .slice e3 y3.length t3] 30) rfl
  replace hs0 := Nat.le_trans hs0 hq.size
  replace hB := hB.trans (hq.mono hB.size)
  replace hM := hM.trans (hq.mono hM.size)
  clear hq
  go_wp2_with fail
  clear k0 k1 f0 f1 k2 k3 f2 f3
  obtain ⟨u8, hname⟩ : ∃ u, (w7.alloc (.cells #[.bool g3, .slice a3 x3.length c3, .slice e3 y3.length t3] 30)) = u := ⟨_, rfl⟩
  rw [hname] at hs0 hB hM SA SB EA S1 S2 EI F3 EX ⊢
  have zh8 := hB.size
  have zs8 := hs0
  clear hname hs0
  refine (kmake_all (lo := 0) (n := 6) b ⟨SA, SB⟩ ⟨by omega, by omega⟩ (by omega)).mono ?_
  rintro e w9 ⟨g4, a4, c4, x4, e4, t4, y4, r4, rfl, F4, P4, I4, hb⟩
  replace SA := SA.below hb
  replace SB := SB.below hb
  replace EA := EA.below hb
  replace S1 := S1.below hb
  replace S2 := S2.below hb
  replace EI := EI.below hb
  replace F3 := F3.below hb
  replace EX := EX.below hb
  replace hB := hB.trans (hb.mono hB.size)
  replace hM := hM.trans (hb.mono hM.size)
  have zz9 := hb.size
  have zh9 := hB.size
  clear hb
  obtain ⟨k0, k1, f0, f1⟩ := EA.two
  obtain ⟨k2, k3, f2, f3⟩ := EI.two
  obtain ⟨k4, k5, k6, f4, f5, f6⟩ := EX.three
  have qEA := EA.lt
  have qEI := EI.lt
  have qEX := EX.lt
  have hs0 := Nat.le_refl w9.heap.size
  have hq : Below w9.heap.size w9 (w9.alloc (.cells #[.bool g4, .slice a4 x4.length c4, .slice e4 y4.length t4] 30)) := (Below.refl _ _).alloc (Nat.le_refl _) _
  replace SA := SA.below hq
  replace SB := SB.below hq
  replace EA := EA.below hq
  replace S1 := S1.below hq
  replace S2 := S2.below hq
  replace EI := EI.below hq
  replace F3 := F3.below hq
  replace EX := EX.below hq
  replace F4 := F4.below hq
  have EY : Box (w9.alloc (.cells #[.bool g4, .slice a4 x4.length c4, .slice e4 y4.length t4] 30)) (w9.heap.size) (.cells #[.bool g4, .slice a4 x4.length c4, .slice e4 y4.length t4] 30) := Box.put (.cells #[.bool g4, .slice a4 x4.length c4, .slice e4 y4.length t4] 30) rfl
  replace hs0 := Nat.le_trans hs0 hq.size
  replace hB := hB.trans (hq.mono hB.size)
  replace hM := hM.trans (hq.mono hM.size)
  clear hq
  go_wp2_with fail
  clear k0 k1 f0 f1 k2 k3 f2 f3 k4 k5 k6 f4 f5 f6
  obtain ⟨u10, hname⟩ : ∃ u, (w9.alloc (.cells #[.bool g4, .slice a4 x4.length c4, .slice e4 y4.length t4] 30)) = u := ⟨_, rfl⟩
  rw [hname] at hs0 hB hM SA SB EA S1 S2 EI F3 EX F4 EY ⊢
  have zh10 := hB.size
  have zs10 := hs0
  clear hname hs0
  refine (lrlike_ans F3 F4 P3 I3 I4 (by omega) (by omega)).mono ?_
  rintro e w11 ⟨rfl, hov, hst⟩
  replace EA := hst _ _ _ (noWord2 (fun _ e => by cases e) (fun _ e => by cases e)) EA
  replace EI := hst _ _ _ (noWord2 (fun _ e => by cases e) (fun _ e => by cases e)) EI
  replace EX := hst _ _ _ (noWord3 (fun _ e => by cases e) (fun _ e => by cases e) (fun _ e => by cases e)) EX
  replace EY := hst _ _ _ (noWord3 (fun _ e => by cases e) (fun _ e => by cases e) (fun _ e => by cases e)) EY
  replace hB := hB.trans (hov.mono (by omega))
  replace hM := hM.trans (hov.mono (by omega))
  have zz11 := hov.size
  have zh11 := hB.size
  clear hov hst SA SB S1 S2 F3 F4
  have SA := SA_M.below hM
  have SB := SB_M.below hM
  have S1 := S1_M.below hM
  have S2 := S2_M.below hM
  clear P3 I3 P4 I4
  obtain ⟨k0, k1, f0, f1⟩ := EA.two
  obtain ⟨k2, k3, f2, f3⟩ := EI.two
  obtain ⟨k4, k5, k6, f4, f5, f6⟩ := EX.three
  obtain ⟨k7, k8, k9, f7, f8, f9⟩ := EY.three
  go_wp2_with fail
  clear k0 k1 f0 f1 k2 k3 f2 f3 k4 k5 k6 f4 f5 f6 k7 k8 k9 f7 f8 f9
  refine (ppair_all x y hx hy _).mono ?_
  rintro e w12 ⟨g5, a5, c5, x5, e5, t5, y5, r5, rfl, F5, P5, I5, hb⟩
  replace EA := EA.below hb
  replace EI := EI.below hb
  replace EX := EX.below hb
  replace EY := EY.below hb
  replace SA := SA.below hb
  replace SB := SB.below hb
  replace S1 := S1.below hb
  replace S2 := S2.below hb
  replace hB := hB.trans (hb.mono hB.size)
  replace hM := hM.trans (hb.mono hM.size)
  have zz12 := hb.size
  have zh12 := hB.size
  clear hb
  obtain ⟨k0, k1, f0, f1⟩ := EA.two
  obtain ⟨k2, k3, f2, f3⟩ := EI.two
  obtain ⟨k4, k5, k6, f4, f5, f6⟩ := EX.three
  obtain ⟨k7, k8, k9, f7, f8, f9⟩ := EY.three
  have qEA := EA.lt
  have qEI := EI.lt
  have qEX := EX.lt
  have qEY := EY.lt
  have hs0 := Nat.le_refl w12.heap.size
  have hT := ((((Turns.refl (w7.heap.size) w12).setCell 0 (.bool g5)).setCell 1 (.slice a5 x5.length c5)).setCell 2 (.slice e5 y5.length t5))
  replace EA := EA.turns hT (by omega)
  replace EI := EI.turns hT (by omega)
  replace EY := EY.turns hT (by omega)
  replace SA := SA.beside EX (noWord3 (fun _ e => by cases e) (fun _ e => by cases e) (fun _ e => by cases e)) hT
  replace SB := SB.beside EX (noWord3 (fun _ e => by cases e) (fun _ e => by cases e) (fun _ e => by cases e)) hT
  replace S1 := S1.beside EX (noWord3 (fun _ e => by cases e) (fun _ e => by cases e) (fun _ e => by cases e)) hT
  replace S2 := S2.beside EX (noWord3 (fun _ e => by cases e) (fun _ e => by cases e) (fun _ e => by cases e)) hT
  replace F5 := F5.beside EX (noWord3 (fun _ e => by cases e) (fun _ e => by cases e) (fun _ e => by cases e)) hT
  replace EX : Box (((w12.setCell ⟨w7.heap.size, 0, none⟩ (.bool g5)).setCell ⟨w7.heap.size, 1, none⟩ (.slice a5 x5.length c5)).setCell ⟨w7.heap.size, 2, none⟩ (.slice e5 y5.length t5)) (w7.heap.size) (.cells #[.bool g5, .slice a5 x5.length c5, .slice e5 y5.length t5] 30) := ⟨Nat.lt_of_lt_of_le EX.lt hT.below.size, (heap_setCell_same _ _ 2 _ _ _ (heap_setCell_same _ _ 1 _ _ _ (heap_setCell_same _ _ 0 _ _ _ EX.what)))⟩
  replace hB := hB.trans (hT.below.mono (by omega))
  replace hM := hM.trans (hT.below.mono (by omega))
  replace hs0 := Nat.le_trans hs0 hT.below.size
  clear hT
  go_wp2_with fail
  clear k0 k1 f0 f1 k2 k3 f2 f3 k4 k5 k6 f4 f5 f6 k7 k8 k9 f7 f8 f9
  obtain ⟨u13, hname⟩ : ∃ u, (((w12.setCell ⟨w7.heap.size, 0, none⟩ (.bool g5)).setCell ⟨w7.heap.size, 1, none⟩ (.slice a5 x5.length c5)).setCell ⟨w7.heap.size, 2, none⟩ (.slice e5 y5.length t5)) = u := ⟨_, rfl⟩
  rw [hname] at hs0 hB hM EA EI EX EY SA SB S1 S2 F5 ⊢
  have zh13 := hB.size
  have zs13 := hs0
  clear hname hs0
  refine (kpair_all x y hx hy _).mono ?_
  rintro e w14 ⟨g6, a6, c6, x6, e6, t6, y6, r6, rfl, F6, P6, I6, hb⟩
  replace EA := EA.below hb
  replace EI := EI.below hb
  replace EX := EX.below hb
  replace EY := EY.below hb
  replace SA := SA.below hb
  replace SB := SB.below hb
  replace S1 := S1.below hb
  replace S2 := S2.below hb
  replace F5 := F5.below hb
  replace hB := hB.trans (hb.mono hB.size)
  replace hM := hM.trans (hb.mono hM.size)
  have zz14 := hb.size
  have zh14 := hB.size
  clear hb
  obtain ⟨k0, k1, f0, f1⟩ := EA.two
  obtain ⟨k2, k3, f2, f3⟩ := EI.two
  obtain ⟨k4, k5, k6, f4, f5, f6⟩ := EX.three
  obtain ⟨k7, k8, k9, f7, f8, f9⟩ := EY.three
  have qEA := EA.lt
  have qEI := EI.lt
  have qEX := EX.lt
  have qEY := EY.lt
  have hs0 := Nat.le_refl w14.heap.size
  have hT := ((((Turns.refl (w9.heap.size) w14).setCell 0 (.bool g6)).setCell 1 (.slice a6 x6.length c6)).setCell 2 (.slice e6 y6.length t6))
  replace EA := EA.turns hT (by omega)
  replace EI := EI.turns hT (by omega)
  replace EX := EX.turns hT (by omega)
  replace SA := SA.beside EY (noWord3 (fun _ e => by cases e) (fun _ e => by cases e) (fun _ e => by cases e)) hT
  replace SB := SB.beside EY (noWord3 (fun _ e => by cases e) (fun _ e => by cases e) (fun _ e => by cases e)) hT
  replace S1 := S1.beside EY (noWord3 (fun _ e => by cases e) (fun _ e => by cases e) (fun _ e => by cases e)) hT
  replace S2 := S2.beside EY (noWord3 (fun _ e => by cases e) (fun _ e => by cases e) (fun _ e => by cases e)) hT
  replace F5 := F5.beside EY (noWord3 (fun _ e => by cases e) (fun _ e => by cases e) (fun _ e => by cases e)) hT
  replace F6 := F6.beside EY (noWord3 (fun _ e => by cases e) (fun _ e => by cases e) (fun _ e => by cases e)) hT
  replace EY : Box (((w14.setCell ⟨w9.heap.size, 0, none⟩ (.bool g6)).setCell ⟨w9.heap.size, 1, none⟩ (.slice a6 x6.length c6)).setCell ⟨w9.heap.size, 2, none⟩ (.slice e6 y6.length t6)) (w9.heap.size) (.cells #[.bool g6, .slice a6 x6.length c6, .slice e6 y6.length t6] 30) := ⟨Nat.lt_of_lt_of_le EY.lt hT.below.size, (heap_setCell_same _ _ 2 _ _ _ (heap_setCell_same _ _ 1 _ _ _ (heap_setCell_same _ _ 0 _ _ _ EY.what)))⟩
  replace hB := hB.trans (hT.below.mono (by omega))
  replace hM := hM.trans (hT.below.mono (by omega))
  replace hs0 := Nat.le_trans hs0 hT.below.size
  clear hT
  go_wp2_with fail
  clear k0 k1 f0 f1 k2 k3 f2 f3 k4 k5 k6 f4 f5 f6 k7 k8 k9 f7 f8 f9
  obtain ⟨u15, hname⟩ : ∃ u, (((w14.setCell ⟨w9.heap.size, 0, none⟩ (.bool g6)).setCell ⟨w9.heap.size, 1, none⟩ (.slice a6 x6.length c6)).setCell ⟨w9.heap.size, 2, none⟩ (.slice e6 y6.length t6)) = u := ⟨_, rfl⟩
  rw [hname] at hs0 hB hM EA EI EX EY SA SB S1 S2 F5 F6 ⊢
  have zh15 := hB.size
  have zs15 := hs0
  clear hname hs0
  refine (lrlike_ans F5 F6 P5 I5 I6 (by omega) (by omega)).mono ?_
  rintro e w16 ⟨rfl, hov, hst⟩
  replace EA := hst _ _ _ (noWord2 (fun _ e => by cases e) (fun _ e => by cases e)) EA
  replace EI := hst _ _ _ (noWord2 (fun _ e => by cases e) (fun _ e => by cases e)) EI
  replace EX := hst _ _ _ (noWord3 (fun _ e => by cases e) (fun _ e => by cases e) (fun _ e => by cases e)) EX
  replace EY := hst _ _ _ (noWord3 (fun _ e => by cases e) (fun _ e => by cases e) (fun _ e => by cases e)) EY
  replace hB := hB.trans (hov.mono (by omega))
  replace hM := hM.trans (hov.mono (by omega))
  have zz16 := hov.size
  have zh16 := hB.size
  clear hov hst SA SB S1 S2 F5 F6
  have SA := SA_M.below hM
  have SB := SB_M.below hM
  have S1 := S1_M.below hM
  have S2 := S2_M.below hM
  obtain ⟨k0, k1, f0, f1⟩ := EA.two
  obtain ⟨k2, k3, f2, f3⟩ := EI.two
  obtain ⟨k4, k5, k6, f4, f5, f6⟩ := EX.three
  obtain ⟨k7, k8, k9, f7, f8, f9⟩ := EY.three
  go_wp2_with fail
  clear k0 k1 f0 f1 k2 k3 f2 f3 k4 k5 k6 f4 f5 f6 k7 k8 k9 f7 f8 f9
  refine (samew_yes b S1 SA (by omega)).mono ?_
  rintro e w17 ⟨rfl, hb⟩
  replace EA := EA.below hb
  replace EI := EI.below hb
  replace EX := EX.below hb
  replace EY := EY.below hb
  replace SA := SA.below hb
  replace SB := SB.below hb
  replace S1 := S1.below hb
  replace S2 := S2.below hb
  replace hB := hB.trans (hb.mono hB.size)
  replace hM := hM.trans (hb.mono hM.size)
  have zz17 := hb.size
  have zh17 := hB.size
  clear hb
  obtain ⟨k0, k1, f0, f1⟩ := EA.two
  obtain ⟨k2, k3, f2, f3⟩ := EI.two
  obtain ⟨k4, k5, k6, f4, f5, f6⟩ := EX.three
  obtain ⟨k7, k8, k9, f7, f8, f9⟩ := EY.three
  go_wp2_with fail
  clear k0 k1 f0 f1 k2 k3 f2 f3 k4 k5 k6 f4 f5 f6 k7 k8 k9 f7 f8 f9
  refine (same_yes S2 SB (by omega)).mono ?_
  rintro e w18 ⟨rfl, hb⟩
  replace EA := EA.below hb
  replace EI := EI.below hb
  replace EX := EX.below hb
  replace EY := EY.below hb
  replace SA := SA.below hb
  replace SB := SB.below hb
  replace S1 := S1.below hb
  replace S2 := S2.below hb
  replace hB := hB.trans (hb.mono hB.size)
  replace hM := hM.trans (hb.mono hM.size)
  have zz18 := hb.size
  have zh18 := hB.size
  clear hb
  obtain ⟨k0, k1, f0, f1⟩ := EA.two
  obtain ⟨k2, k3, f2, f3⟩ := EI.two
  obtain ⟨k4, k5, k6, f4, f5, f6⟩ := EX.three
  obtain ⟨k7, k8, k9, f7, f8, f9⟩ := EY.three
  go_wp2_with fail
  clear k0 k1 f0 f1 k2 k3 f2 f3 k4 k5 k6 f4 f5 f6 k7 k8 k9 f7 f8 f9
  refine (lrawake_any _).mono ?_
  rintro e w19 ⟨rfl, hb⟩
  replace EA := EA.below hb
  replace EI := EI.below hb
  replace EX := EX.below hb
  replace EY := EY.below hb
  replace SA := SA.below hb
  replace SB := SB.below hb
  replace S1 := S1.below hb
  replace S2 := S2.below hb
  replace hB := hB.trans (hb.mono hB.size)
  replace hM := hM.trans (hb.mono hM.size)
  have zz19 := hb.size
  have zh19 := hB.size
  clear hb
  obtain ⟨k0, k1, f0, f1⟩ := EA.two
  obtain ⟨k2, k3, f2, f3⟩ := EI.two
  obtain ⟨k4, k5, k6, f4, f5, f6⟩ := EX.three
  obtain ⟨k7, k8, k9, f7, f8, f9⟩ := EY.three
  go_wp2
  go_ret
  exact ⟨rfl, hB⟩

set_option maxRecDepth 100000 in
set_option maxHeartbeats 4000000 in
theorem lrmakes_long1 (b : Bool) (a : Option Addr) (n ca : Nat) (c : Option Addr) (m cc : Nat) (x y : Int) (w : World) (h : 6 < n) :
    Calls Tryz.prog 5 #[.agg #[.bool b, .slice a n ca], .slice c m cc, .int .i64 x, .int .i64 y] w fun e w' => e = .returned (.bool true) ∧ Below w.heap.size w w' := by
  have l1 := fun w => longNat_bel a n ca 6 w
  rw [decide_eq_true (show ((6 : Int) < (n : Int)) by omega)] at l1
  have L1 := hide l1
  clear l1
  have hB := Below.refl w.heap.size w
  go_enter Tryz.func5, Tryz.ntmps5
  have hs0 := Nat.le_refl w.heap.size
  have hq : Below w.heap.size w (w.alloc (.cells #[.bool b, .slice a n ca] 28)) := (Below.refl _ _).alloc (Nat.le_refl _) _
  have EA : Box (w.alloc (.cells #[.bool b, .slice a n ca] 28)) (w.heap.size) (.cells #[.bool b, .slice a n ca] 28) := Box.put (.cells #[.bool b, .slice a n ca] 28) rfl
  replace hs0 := Nat.le_trans hs0 hq.size
  replace hB := hB.trans (hq.mono hB.size)
  clear hq
  go_wp2_with fail
  obtain ⟨u1, hname⟩ : ∃ u, (w.alloc (.cells #[.bool b, .slice a n ca] 28)) = u := ⟨_, rfl⟩
  rw [hname] at hs0 hB EA ⊢
  have zh1 := hB.size
  have zs1 := hs0
  clear hname hs0
  refine (L1.out _).mono ?_
  rintro e w2 ⟨rfl, hb⟩
  replace EA := EA.below hb
  replace hB := hB.trans (hb.mono hB.size)
  have zz2 := hb.size
  have zh2 := hB.size
  clear hb
  obtain ⟨k0, k1, f0, f1⟩ := EA.two
  go_wp2_with fail
  clear k0 k1 f0 f1
  refine (lrawake_any _).mono ?_
  rintro e w3 ⟨rfl, hb⟩
  replace EA := EA.below hb
  replace hB := hB.trans (hb.mono hB.size)
  have zz3 := hb.size
  have zh3 := hB.size
  clear hb
  obtain ⟨k0, k1, f0, f1⟩ := EA.two
  go_wp2
  go_ret
  exact ⟨rfl, hB⟩

set_option maxRecDepth 100000 in
set_option maxHeartbeats 4000000 in
theorem lrmakes_long2 (b : Bool) (a : Option Addr) (n ca : Nat) (c : Option Addr) (m cc : Nat) (x y : Int) (w : World) (h1 : n ≤ 6) (h : 6 < m) :
    Calls Tryz.prog 5 #[.agg #[.bool b, .slice a n ca], .slice c m cc, .int .i64 x, .int .i64 y] w fun e w' => e = .returned (.bool true) ∧ Below w.heap.size w w' := by
  have l1 := fun w => longNat_bel a n ca 6 w
  rw [decide_eq_false (show ¬ ((6 : Int) < (n : Int)) by omega)] at l1
  have L1 := hide l1
  clear l1
  have l2 := fun w => longNat_bel c m cc 6 w
  rw [decide_eq_true (show ((6 : Int) < (m : Int)) by omega)] at l2
  have L2 := hide l2
  clear l2
  have hB := Below.refl w.heap.size w
  go_enter Tryz.func5, Tryz.ntmps5
  have hs0 := Nat.le_refl w.heap.size
  have hq : Below w.heap.size w (w.alloc (.cells #[.bool b, .slice a n ca] 28)) := (Below.refl _ _).alloc (Nat.le_refl _) _
  have EA : Box (w.alloc (.cells #[.bool b, .slice a n ca] 28)) (w.heap.size) (.cells #[.bool b, .slice a n ca] 28) := Box.put (.cells #[.bool b, .slice a n ca] 28) rfl
  replace hs0 := Nat.le_trans hs0 hq.size
  replace hB := hB.trans (hq.mono hB.size)
  clear hq
  go_wp2_with fail
  obtain ⟨u1, hname⟩ : ∃ u, (w.alloc (.cells #[.bool b, .slice a n ca] 28)) = u := ⟨_, rfl⟩
  rw [hname] at hs0 hB EA ⊢
  have zh1 := hB.size
  have zs1 := hs0
  clear hname hs0
  refine (L1.out _).mono ?_
  rintro e w2 ⟨rfl, hb⟩
  replace EA := EA.below hb
  replace hB := hB.trans (hb.mono hB.size)
  have zz2 := hb.size
  have zh2 := hB.size
  clear hb
  obtain ⟨k0, k1, f0, f1⟩ := EA.two
  go_wp2_with fail
  clear k0 k1 f0 f1
  refine (L2.out _).mono ?_
  rintro e w3 ⟨rfl, hb⟩
  replace EA := EA.below hb
  replace hB := hB.trans (hb.mono hB.size)
  have zz3 := hb.size
  have zh3 := hB.size
  clear hb
  obtain ⟨k0, k1, f0, f1⟩ := EA.two
  go_wp2_with fail
  clear k0 k1 f0 f1
  refine (lrawake_any _).mono ?_
  rintro e w4 ⟨rfl, hb⟩
  replace EA := EA.below hb
  replace hB := hB.trans (hb.mono hB.size)
  have zz4 := hb.size
  have zh4 := hB.size
  clear hb
  obtain ⟨k0, k1, f0, f1⟩ := EA.two
  go_wp2
  go_ret
  exact ⟨rfl, hB⟩

theorem lrmakes_any {a c : Option Addr} {n ca m cc : Nat} {xs ds : List Int} {w : World} (b : Bool) (A : Seg 0 w (.slice a n ca) xs) (B : Seg 0 w (.slice c m cc) ds) (x : Int) (hx : -9223372036854775808 ≤ x ∧ x ≤ 9223372036854775807) (y : Int) (hy : -9223372036854775808 ≤ y ∧ y ≤ 9223372036854775807) :
    Calls Tryz.prog 5 #[.agg #[.bool b, .slice a n ca], .slice c m cc, .int .i64 x, .int .i64 y] w fun e w' => e = .returned (.bool true) ∧ Below w.heap.size w w' := by
  by_cases h1 : 6 < n
  · exact lrmakes_long1 b a n ca c m cc x y w h1
  · by_cases h2 : 6 < m
    · exact lrmakes_long2 b a n ca c m cc x y w (by omega) h2
    · obtain ⟨rfl, _⟩ := A.len
      obtain ⟨rfl, _⟩ := B.len
      exact lrmakes_short b A B (by omega) (by omega) x y (by omega) (by omega)
end Go.Proofs.YtblmkddjlfienaaGreat

