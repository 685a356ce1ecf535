/-
  Joined: RatH RatC RatD RatO RatI RatJ RatL RatM RPower Lits RatN RatNn SLaw SForms RatW RatX RatT RatV.
-/
import Derived.Test.YtegopbhidgbjpaaGreatJSigB
import Derived.Test.YtegopbhidgbjpaaGreatJRMulB
import Derived.Test.YtegopbhidgbjpaaGreatJMul
import Derived.Test.YtegopbhidgbjpaaGreatKit
import Derived.Test.YtegopbhidgbjpaaGreatJLenOf
namespace Go.Proofs.YtegopbhidgbjpaaGreat
open Go.RowKit
set_option maxRecDepth 100000 in
set_option maxHeartbeats 4000000 in
theorem fold_any {lo : Nat} {sv : Option Addr} {cap : Nat} {rs : List RV} {w : World} (J : Nat) (op : Rat → Rat → Option Rat) (R : Row 0 w sv rs) {a c : Option Addr} {ca cc : Nat} {xs ds : List Int} (b : Bool) (FA : Fr lo w a ca xs c cc ds) {n m : Nat} (hl : xs.length ≤ n ∧ ds.length ≤ n) (hrl : rs.length ≤ 6) (hlen : ∀ r ∈ rs, r.xs.length ≤ m ∧ r.ds.length ≤ m) (hn : n ≤ 40) (hm : m ≤ 40) (hJe : ∀ (args : Array Value) (w : World), (callFunc J args).run Tryz.prog w = .ok (.enter J args) w)
    (hJs : ∀ (W : World) (b1 : Bool) (a1 : Option Addr) (n1 : Nat) (x1 : List Int) (e1 : Option Addr) (m1 : Nat) (y1 : List Int) (q1 : Rat) (k : Nat) (r : RV) (t : Rat), Fr 0 W a1 n1 x1 e1 m1 y1 → Fr 0 W r.a r.ca r.xs r.c r.cc r.ds → Is b1 x1 y1 q1 k → Is r.b r.xs r.ds r.q m → k + m ≤ 400 → op q1 r.q = some t →
      Calls Tryz.prog J #[.agg #[.bool b1, .slice a1 x1.length n1, .slice e1 y1.length m1], .agg #[.bool r.b, .slice r.a r.xs.length r.ca, .slice r.c r.ds.length r.cc]] W fun e w' => ∃ (b' : Bool) (a' : Option Addr) (ca' : Nat) (ts : List Int) (c' : Option Addr) (cc' : Nat) (es : List Int), e = .returned (.tuple #[.agg #[.bool b', .slice a' ts.length ca', .slice c' es.length cc'], .int .i64 0]) ∧ Fr W.heap.size w' a' ca' ts c' cc' es ∧ Apart a' c' ts es ∧ Is b' ts es t (k + m + 1) ∧ Below W.heap.size W w')
    (hJn : ∀ (W : World) (b1 : Bool) (a1 : Option Addr) (n1 : Nat) (x1 : List Int) (e1 : Option Addr) (m1 : Nat) (y1 : List Int) (q1 : Rat) (k : Nat) (r : RV), Fr 0 W a1 n1 x1 e1 m1 y1 → Fr 0 W r.a r.ca r.xs r.c r.cc r.ds → Is b1 x1 y1 q1 k → Is r.b r.xs r.ds r.q m → k + m ≤ 400 → op q1 r.q = none →
      Calls Tryz.prog J #[.agg #[.bool b1, .slice a1 x1.length n1, .slice e1 y1.length m1], .agg #[.bool r.b, .slice r.a r.xs.length r.ca, .slice r.c r.ds.length r.cc]] W fun e w' => e = .returned (.tuple #[.agg #[.bool false, .slice none 0 0, .slice none 0 0], .int .i64 5]) ∧ Below W.heap.size W w') :
    Calls Tryz.prog 21 #[.func (.func J) #[] #[], .agg #[.bool b, .slice a xs.length ca, .slice c ds.length cc], .slice sv rs.length cap] w fun e w' => FoldSaid op w b a ca xs c cc ds rs (n + rs.length * (m + 1)) e w' ∧ Below w.heap.size w w' := by
  have hmf : ∀ (fn : Fn) (first cap : Array Value) (w : World), (Instr.makeFunc fn first cap).run Tryz.prog w = .ok (.func fn first cap) w := fun _ _ _ _ => rfl
  have hR : ∀ g o, sv = some ⟨g, o, none⟩ → rs ≠ [] → g < w.heap.size := fun g o e hne => by
    obtain ⟨g', o', e', hg⟩ := R.at_ 0 (List.length_pos_iff.2 hne)
    rw [e] at e'
    simp only [Option.some.injEq, Addr.mk.injEq] at e'
    omega
  have hI : formR b xs ds = 0 → Is b xs ds (ratL b xs ds) n := fun h => ⟨(formR_low FA.up.words FA.down.words).1 h, rfl, hl.1, hl.2⟩
  have hgood : ∀ r ∈ rs, formR r.b r.xs r.ds = 0 → Is r.b r.xs r.ds r.q m := fun r hr h => by
    obtain ⟨j, hj⟩ := List.mem_iff_getElem?.1 hr
    have F := R.held j r hj
    exact ⟨(formR_low F.up.words F.down.words).1 h, rfl, (hlen r hr).1, (hlen r hr).2⟩
  have hB := Below.refl w.heap.size w
  go_enter_defers Tryz.func21, Tryz.ntmps21
  have hA := Below.refl w.heap.size w
  have hq := below_new w (.cells #[.bool b, .slice a xs.length ca, .slice c ds.length cc] 30)
  replace R := R.below hq
  replace FA := FA.below hq
  have E0 := Box.put (w := w) (k := (w.heap.size)) (.cells #[.bool b, .slice a xs.length ca, .slice c ds.length cc] 30) rfl
  replace hA := hA.trans (hq.mono hA.size)
  replace hB := hB.trans (hq.mono hB.size)
  clear hq
  have hq := below_new (w.alloc (.cells #[.bool b, .slice a xs.length ca, .slice c ds.length cc] 30)) (.cells #[.bool false, .slice none 0 0, .slice none 0 0] 30)
  replace R := R.below hq
  replace FA := FA.below hq
  replace E0 := E0.below hq
  have E1 := Box.put (w := (w.alloc (.cells #[.bool b, .slice a xs.length ca, .slice c ds.length cc] 30))) (k := (w.heap.size + 1)) (.cells #[.bool false, .slice none 0 0, .slice none 0 0] 30) (by simp)
  replace hA := hA.trans (hq.mono hA.size)
  replace hB := hB.trans (hq.mono hB.size)
  clear hq
  have hq := below_new ((w.alloc (.cells #[.bool b, .slice a xs.length ca, .slice c ds.length cc] 30)).alloc (.cells #[.bool false, .slice none 0 0, .slice none 0 0] 30)) (.cells #[.int .i64 0] 32)
  replace R := R.below hq
  replace FA := FA.below hq
  replace E0 := E0.below hq
  replace E1 := E1.below hq
  have E2 := Box.put (w := ((w.alloc (.cells #[.bool b, .slice a xs.length ca, .slice c ds.length cc] 30)).alloc (.cells #[.bool false, .slice none 0 0, .slice none 0 0] 30))) (k := (w.heap.size + 1 + 1)) (.cells #[.int .i64 0] 32) (by simp)
  replace hA := hA.trans (hq.mono hA.size)
  replace hB := hB.trans (hq.mono hB.size)
  clear hq
  clear hA
  go_wp2_with fail
  obtain ⟨u1, hname⟩ := nm hB
  rw [hname] at hB R FA E0 E1 E2 ⊢
  have zh1 := hB.size
  clear hname
  refine (pcheck_any b FA (by omega) (by omega)).mono ?_
  rintro e w2 ⟨rfl, hb⟩
  replace R := R.below hb
  replace FA := FA.below hb
  replace E0 := E0.below hb
  replace E1 := E1.below hb
  replace E2 := E2.below hb
  replace hB := hB.trans (hb.mono hB.size)
  have zz2 := hb.size
  have zh2 := hB.size
  clear hb
  obtain ⟨x0, hx0⟩ : ∃ x, formR b xs ds = x := ⟨_, rfl⟩
  rw [hx0]
  have HX0 := hide hx0
  clear hx0
  have qE0 := E0.lt
  have qE1 := E1.lt
  have qE2 := E2.lt
  obtain ⟨kk, hK⟩ : ∃ kk, w2.heap.size = kk := ⟨_, rfl⟩
  have hKm : w.heap.size + 1 + 1 < kk := by omega
  have RO1 : RowOff (w.heap.size + 1) sv rs := fun hne g o e h => by have hl := hR g o e hne; omega
  have RO2 : RowOff (w.heap.size + 1 + 1) sv rs := fun hne g o e h => by have hl := hR g o e hne; omega
  have RO3 : RowOff kk sv rs := fun hne g o e h => by have hl := hR g o e hne; omega
  obtain ⟨k0, k1, k2, f0, f1, f2⟩ := E0.three
  obtain ⟨k3, k4, k5, f3, f4, f5⟩ := E1.three
  obtain ⟨k6, f6⟩ := E2.one
  have hq := below_new w2 (.cells #[.int .i64 x0] 32)
  replace R := R.below hq
  replace FA := FA.below hq
  replace E0 := E0.below hq
  replace E1 := E1.below hq
  replace E2 := E2.below hq
  have E3 : Box (w2.alloc (.cells #[.int .i64 x0] 32)) kk (.cells #[.int .i64 x0] 32) := Box.put (.cells #[.int .i64 x0] 32) hK
  replace hB := hB.trans (hq.mono hB.size)
  go_wp2
  clear hq k0 k1 k2 f0 f1 f2 k3 k4 k5 f3 f4 f5 k6 f6
  obtain ⟨v1, hname⟩ := nm hB
  rw [hname] at R FA E0 E1 E2 E3 hB ⊢
  clear hname hK
  clear qE0 qE1 qE2
  go_loopw [9] (fun iv wv => ∃ (i : Nat) (x : Int), iv = .int .i64 i ∧ i ≤ rs.length ∧ Row 0 wv sv rs ∧ Fr lo wv a ca xs c cc ds ∧ Box wv w.heap.size (.cells #[.bool b, .slice a xs.length ca, .slice c ds.length cc] 30) ∧ Box wv (w.heap.size + 1) (.cells #[.bool false, .slice none 0 0, .slice none 0 0] 30) ∧ Box wv (w.heap.size + 1 + 1) (.cells #[.int .i64 0] 32) ∧ Box wv kk (.cells #[.int .i64 x] 32) ∧ Below w.heap.size w wv ∧
          Hid ((x = 0 ∧ formR b xs ds = 0 ∧ ∀ r ∈ rs.take i, formR r.b r.xs r.ds = 0) ∨ (x = 6 ∧ ¬ AllGood b xs ds rs))) (fun iv _ => rs.length - (intOf iv).toNat)
  case atStart =>
    refine ⟨0, x0, rfl, Nat.zero_le _, R, FA, E0, E1, E2, E3, hB, ?_⟩
    rw [Hid]
    rcases formR_or b xs ds with h | h
    · exact Or.inl ⟨by rw [← HX0.out, h], h, by simp⟩
    · exact Or.inr ⟨by rw [← HX0.out, h], fun hg => by rw [hg.1] at h; exact absurd h (by decide)⟩
  case round =>
    clear R FA E0 E1 E2 E3 hB HX0
    obtain ⟨i, x, rfl, hi, R, FA, E0, E1, E2, E3, hB, HX⟩ := hrel
    have zB := hB.size
    have hw1 : IntKind.i64.wrap ((i : Int) + 1) = (i : Int) + 1 := by rw [IntKind.wrap_i64]; omega
    by_cases hx : x = 0
    · subst hx
      by_cases hlt : i < rs.length
      · have hlt2 : (i : Int) < (rs.length : Int) := by omega
        have hge : ¬ (i : Int) < 0 := by omega
        obtain ⟨g, o, rfl, hg⟩ := R.at_ i hlt
        obtain ⟨r, hr0⟩ : ∃ r, rs[i]? = some r := ⟨rs[i], List.getElem?_eq_getElem hlt⟩
        have hr := hide hr0
        have FR1 := R.held i r hr0
        clear hr0
        have hlr := hlen r (List.mem_of_getElem? hr.out)
        have hcc := R.cells g o i r rfl hr.out
        have c0 := hcc.1
        have c1 := hcc.2.1
        have c2 := hcc.2.2
        clear hcc
        obtain ⟨k0, k1, k2, f0, f1, f2⟩ := E0.three
        obtain ⟨k3, k4, k5, f3, f4, f5⟩ := E1.three
        obtain ⟨k6, f6⟩ := E2.one
        obtain ⟨k7, f7⟩ := E3.one
        go_wp2_with fail
        clear k0 k1 k2 f0 f1 f2 k3 k4 k5 f3 f4 f5 k6 f6 k7 f7
        refine (pcheck_any r.b FR1 (by omega) (by omega)).mono ?_
        rintro e w3 ⟨rfl, hb⟩
        replace R := R.below hb
        replace FA := FA.below hb
        replace E0 := E0.below hb
        replace E1 := E1.below hb
        replace E2 := E2.below hb
        replace E3 := E3.below hb
        replace hB := hB.trans (hb.mono hB.size)
        have zz3 := hb.size
        have zh3 := hB.size
        clear hb
        clear c0 c1 c2
        obtain ⟨x2, hx2⟩ : ∃ x, formR r.b r.xs r.ds = x := ⟨_, rfl⟩
        rw [hx2]
        have HX2 := hide hx2
        clear hx2
        obtain ⟨k0, k1, k2, f0, f1, f2⟩ := E0.three
        obtain ⟨k3, k4, k5, f3, f4, f5⟩ := E1.three
        obtain ⟨k6, f6⟩ := E2.one
        obtain ⟨k7, f7⟩ := E3.one
        have qE0 := E0.lt
        have qE1 := E1.lt
        have qE2 := E2.lt
        have qE3 := E3.lt
        have hA := Below.refl w3.heap.size w3
        have hT := ((Turns.refl (kk) w3).setCell 0 (.int .i64 x2))
        replace R := R.beside E3 (noWord1 (fun _ e => by cases e)) hT (by first | exact RO1 | exact RO2 | exact RO3)
        replace FA := FA.beside E3 (noWord1 (fun _ e => by cases e)) hT
        replace E0 := E0.turns hT (by omega)
        replace E1 := E1.turns hT (by omega)
        replace E2 := E2.turns hT (by omega)
        replace E3 : Box (w3.setCell ⟨kk, 0, none⟩ (.int .i64 x2)) (kk) (.cells #[.int .i64 x2] 32) := ⟨Nat.lt_of_lt_of_le E3.lt hT.below.size, (heap_setCell_same _ _ 0 _ _ _ E3.what)⟩
        replace hB := hB.trans (hT.below.mono (by omega))
        clear hT
        clear hA
        have hms : rs.length - (i + 1) < rs.length - i := by omega
        go_wp2
        refine ⟨⟨i + 1, x2, by simp, by omega, R, FA, E0, E1, E2, E3, hB, ?_⟩, by simpa [intOf] using hms⟩
        rw [Hid]
        rcases HX.out with ⟨_, h1, h2⟩ | ⟨h1, _⟩
        · rcases formR_or r.b r.xs r.ds with h | h
          · refine Or.inl ⟨by rw [← HX2.out, h], h1, fun s hs => ?_⟩
            rw [List.take_add_one, hr.out] at hs
            simp only [Option.toList_some, List.mem_append, List.mem_singleton] at hs
            rcases hs with hs | rfl
            · exact h2 s hs
            · exact h
          · exact Or.inr ⟨by rw [← HX2.out, h], fun hg => by rw [hg.2 r (List.mem_of_getElem? hr.out)] at h; exact absurd h (by decide)⟩
        · exact absurd h1 (by decide)
      · have hnl : ¬ (i : Int) < (rs.length : Int) := by omega
        have HY : KeptIs b xs ds rs 0 := by
          rcases HX.out with ⟨_, h1, h2⟩ | ⟨h1, _⟩
          · rw [List.take_of_length_le (by omega)] at h2
            exact Or.inl ⟨⟨h1, h2⟩, rfl⟩
          · exact absurd h1 (by decide)
        obtain ⟨k0, k1, k2, f0, f1, f2⟩ := E0.three
        obtain ⟨k3, k4, k5, f3, f4, f5⟩ := E1.three
        obtain ⟨k6, f6⟩ := E2.one
        obtain ⟨k7, f7⟩ := E3.one
        have qE0 := E0.lt
        have qE1 := E1.lt
        have qE2 := E2.lt
        have qE3 := E3.lt
        have hA := Below.refl wr.heap.size wr
        have hT := turns3 (w.heap.size + 1) wr (.bool b) (.slice a xs.length ca) (.slice c ds.length cc)
        replace R := R.beside E1 (noWord3 (fun _ e => by cases e) (fun _ e => by cases e) (fun _ e => by cases e)) hT (by first | exact RO1 | exact RO2 | exact RO3)
        replace FA := FA.beside E1 (noWord3 (fun _ e => by cases e) (fun _ e => by cases e) (fun _ e => by cases e)) hT
        replace E0 := E0.turns hT (by omega)
        replace E2 := E2.turns hT (by omega)
        replace E3 := E3.turns hT (by omega)
        replace E1 := Box.set3 (.bool b) (.slice a xs.length ca) (.slice c ds.length cc) E1
        replace hB := hB.trans (hT.below.mono (by omega))
        clear hT
        clear hA
        go_wp2
        clear k0 k1 k2 f0 f1 f2 k3 k4 k5 f3 f4 f5 k6 f6 k7 f7
        go_loopw [10] (fun iv wv => ∃ (i : Nat) (y : Int) (b1 : Bool) (a1 : Option Addr) (n1 : Nat) (x1 : List Int) (e1 : Option Addr) (m1 : Nat) (y1 : List Int), iv = .int .i64 i ∧ i ≤ rs.length ∧ Row 0 wv sv rs ∧ Box wv (w.heap.size + 1) (.cells #[.bool b1, .slice a1 x1.length n1, .slice e1 y1.length m1] 30) ∧ Box wv (w.heap.size + 1 + 1) (.cells #[.int .i64 0] 32) ∧ Box wv kk (.cells #[.int .i64 y] 32) ∧ Below w.heap.size w wv ∧
                FoldAt op w b a ca xs c cc ds rs n m i y b1 a1 n1 x1 e1 m1 y1 wv) (fun iv _ => rs.length - (intOf iv).toNat)
        case atStart => exact ⟨0, 0, b, a, ca, xs, c, cc, ds, rfl, Nat.zero_le _, R, E1, E2, E3, hB, FoldAt.start hI FA HY⟩
        case round =>
          clear R FA E0 E1 E2 E3 HX HY hB
          clear qE0 qE1 qE2 qE3
          obtain ⟨i, y, b1, a1, n1, x1, e1, m1, y1, rfl, hi, R, E1, E2, E3, hB, HF⟩ := hrel
          have zB := hB.size
          have qE1 := E1.lt
          have qE2 := E2.lt
          have qE3 := E3.lt
          by_cases hgo : y = 0 ∧ i < rs.length
          · obtain ⟨rfl, hlt⟩ := hgo
            have hlt2 : (i : Int) < (rs.length : Int) := by omega
            have hge : ¬ (i : Int) < 0 := by omega
            obtain ⟨g, o, rfl, hg⟩ := R.at_ i hlt
            obtain ⟨r, hr0⟩ : ∃ r, rs[i]? = some r := ⟨rs[i], List.getElem?_eq_getElem hlt⟩
            have hr := hide hr0
            have FR1 := R.held i r hr0
            clear hr0
            obtain ⟨q1, I1, FC, HM⟩ := HF.go rfl
            have I2 := hgood r (List.mem_of_getElem? hr.out) (HF.allgood rfl r (List.mem_of_getElem? hr.out))
            clear HF
            obtain ⟨u, hu⟩ : ∃ u, op q1 r.q = u := ⟨_, rfl⟩
            have HU := hide hu
            clear hu
            have hw1 : IntKind.i64.wrap ((i : Int) + 1) = (i : Int) + 1 := by rw [IntKind.wrap_i64]; omega
            have hbd : n + i * (m + 1) + m ≤ 400 := by have : i * (m + 1) ≤ 6 * (m + 1) := Nat.mul_le_mul_right _ (by omega); omega
            cases u with
            | some t =>
                obtain ⟨k0, k1, k2, f0, f1, f2⟩ := E1.three
                obtain ⟨k3, f3⟩ := E2.one
                obtain ⟨k4, f4⟩ := E3.one
                go_wp2_with fail
                clear k0 k1 k2 f0 f1 f2 k3 f3 k4 f4
                replace R := R.drew
                replace FC := FC.drew
                replace FR1 := FR1.drew
                have qE1 := E1.lt
                replace E1 := E1.drew
                have qE2 := E2.lt
                replace E2 := E2.drew
                have qE3 := E3.lt
                replace E3 := E3.drew
                refine wp_yields 8 [.is (.func (.func J) #[] #[]), .is (.agg #[.bool b1, .slice a1 x1.length n1, .slice e1 y1.length m1]), .is (.slice (some ⟨g, o, none⟩) rs.length cap), .is (.int .i64 i), .is (.pointer (some ⟨g, o + i * 3, none⟩)), .is (.agg #[.bool r.b, .slice r.a r.xs.length r.ca, .slice r.c r.ds.length r.cc]), (Yield.fracE wr.heap.size (t) (n + i * (m + 1) + m + 1)), (Yield.fracE wr.heap.size (t) (n + i * (m + 1) + m + 1))] (by kernel_rfl) (by kernel_rfl) (lt_cons ?_ (lt_cons ?_ (lt_cons ?_ (lt_cons ?_ (lt_cons ?_ (lt_cons ?_ (lt_cons ?_ (lt_cons ?_ lt_nil)))))))) ?_
                case refine_1 =>
                  refine OpDoes.mk rfl ?_
                  intro vs V hV hd K hK
                  have hh := fun (P : Prop) => Yield.fracE_elim P (show ((Yield.fracE wr.heap.size (t) (n + i * (m + 1) + m + 1)) : Yield).At (vs 6) V from hd 6 (by decide) (by kernel_rfl))
                  refine hh _ ?_
                  intro g2 a2 c2 x2 e2 t2 y2 d6 F2 P2 I2
                  clear hh
                  simp only [laidIn, lz1, lz2, lz3, lz4, lz5, lz6, if_true, Act.put, lz7, lz8, lz9] at hK ⊢
                  simp only [d6] at hK ⊢
                  go_simp
                  exact hK.out _ _ (Below.refl _ _) ⟨_, _, _, _, _, _, _, rfl, F2, P2, I2⟩ (not_fresh rfl)
                case refine_2 =>
                  refine OpDoes.mk rfl ?_
                  intro vs V hV hd K hK
                  have d0 : vs 0 = .func (.func J) #[] #[] := hd 0 (by decide) (by kernel_rfl)
                  have d1 : vs 1 = .agg #[.bool b1, .slice a1 x1.length n1, .slice e1 y1.length m1] := hd 1 (by decide) (by kernel_rfl)
                  have d5 : vs 5 = .agg #[.bool r.b, .slice r.a r.xs.length r.ca, .slice r.c r.ds.length r.cc] := hd 5 (by decide) (by kernel_rfl)
                  simp only [laidIn, lz1, lz2, lz3, lz4, lz5, lz6, if_true, Act.put, lz7, lz8, lz9] at hK ⊢
                  simp only [d0, d1, d5] at hK ⊢
                  go_simp
                  refine (hJs V b1 a1 n1 x1 e1 m1 y1 q1 (n + i * (m + 1)) r t (FC.below hV) (FR1.below hV) I1 I2 hbd HU.out).mono ?_
                  rintro e V' ⟨g2, a2, c2, x2, e2, t2, y2, rfl, F2, P2, I2, hb⟩
                  replace I2 : Is g2 x2 y2 (t) (n + i * (m + 1) + m + 1) := I2.mono (by omega)
                  exact hK.out _ _ hb ⟨_, _, _, _, _, _, _, rfl, F2.mono hV.size, P2, I2⟩ (not_fresh rfl)
                case refine_3 =>
                  refine OpDoes.mk rfl ?_
                  intro vs V hV hd K hK
                  have d4 : vs 4 = .pointer (some ⟨g, o + i * 3, none⟩) := hd 4 (by decide) (by kernel_rfl)
                  have hcc := (R.below hV).cells g o i r rfl hr.out
                  have k0 := hcc.1
                  have k1 := hcc.2.1
                  have k2 := hcc.2.2
                  clear hcc
                  simp only [laidIn, lz1, lz2, lz3, lz4, lz5, lz6, if_true, Act.put, lz7, lz8, lz9] at hK ⊢
                  simp only [d4] at hK ⊢
                  go_simp
                  exact hK.out _ _ (Below.refl _ _) rfl (not_fresh rfl)
                case refine_4 =>
                  refine OpDoes.mk rfl ?_
                  intro vs V hV hd K hK
                  have d2 : vs 2 = .slice (some ⟨g, o, none⟩) rs.length cap := hd 2 (by decide) (by kernel_rfl)
                  have d3 : vs 3 = .int .i64 i := hd 3 (by decide) (by kernel_rfl)
                  simp only [laidIn, lz1, lz2, lz3, lz4, lz5, lz6, if_true, Act.put, lz7, lz8, lz9] at hK ⊢
                  simp only [d2, d3] at hK ⊢
                  go_simp
                  exact hK.out _ _ (Below.refl _ _) rfl (not_fresh rfl)
                case refine_5 =>
                  refine OpDoes.mk rfl ?_
                  intro vs V hV hd K hK
                  simp only [laidIn, lz1, lz2, lz3, lz4, lz5, lz6, if_true, Act.put, lz7, lz8, lz9] at hK ⊢
                  go_simp
                  exact hK.out _ _ (Below.refl _ _) rfl (not_fresh rfl)
                case refine_6 =>
                  refine OpDoes.mk rfl ?_
                  intro vs V hV hd K hK
                  simp only [laidIn, lz1, lz2, lz3, lz4, lz5, lz6, if_true, Act.put, lz7, lz8, lz9] at hK ⊢
                  go_simp
                  exact hK.out _ _ (Below.refl _ _) rfl (not_fresh rfl)
                case refine_7 =>
                  refine OpDoes.mk rfl ?_
                  intro vs V hV hd K hK
                  have hcc := (E1.below hV).three
                  have k0 := hcc.1
                  have k1 := hcc.2.1
                  have k2 := hcc.2.2.1
                  clear hcc
                  simp only [laidIn, lz1, lz2, lz3, lz4, lz5, lz6, if_true, Act.put, lz7, lz8, lz9] at hK ⊢
                  go_simp
                  exact hK.out _ _ (Below.refl _ _) rfl (not_fresh rfl)
                case refine_8 =>
                  refine OpDoes.mk rfl ?_
                  intro vs V hV hd K hK
                  simp only [laidIn, lz1, lz2, lz4, lz5, lz6, if_true, Act.put, lz7, lz8, lz9] at hK ⊢
                  go_simp
                  exact hK.out _ _ (Below.refl _ _) rfl (not_fresh rfl)
                case refine_9 =>
                  intro vs Y1 hV hR hne fuel
                  have d0 : vs 0 = .func (.func J) #[] #[] := hR 0 (by decide)
                  have d1 : vs 1 = .agg #[.bool b1, .slice a1 x1.length n1, .slice e1 y1.length m1] := hR 1 (by decide)
                  have d2 : vs 2 = .slice (some ⟨g, o, none⟩) rs.length cap := hR 2 (by decide)
                  have d3 : vs 3 = .int .i64 i := hR 3 (by decide)
                  have d4 : vs 4 = .pointer (some ⟨g, o + i * 3, none⟩) := hR 4 (by decide)
                  have d5 : vs 5 = .agg #[.bool r.b, .slice r.a r.xs.length r.ca, .slice r.c r.ds.length r.cc] := hR 5 (by decide)
                  have hh := fun (P : Prop) => Yield.fracE_elim P (show ((Yield.fracE wr.heap.size (t) (n + i * (m + 1) + m + 1)) : Yield).At (vs 6) Y1 from hR 6 (by decide))
                  refine hh _ ?_
                  intro g2 a2 c2 x2 e2 t2 y2 d6 F2 P2 I2
                  clear hh
                  have hh := fun (P : Prop) => Yield.fracE_elim P (show ((Yield.fracE wr.heap.size (t) (n + i * (m + 1) + m + 1)) : Yield).At (vs 7) Y1 from hR 7 (by decide))
                  refine hh _ ?_
                  intro g3 a3 c3 x3 e3 t3 y3 d7 F3 P3 I3
                  clear hh
                  replace R := R.below hV
                  replace FC := FC.below hV
                  replace FR1 := FR1.below hV
                  replace E1 := E1.below hV
                  replace E2 := E2.below hV
                  replace E3 := E3.below hV
                  have hr := hV
                  simp only [laidIn, lz4, lz5, lz6, if_true, Act.put, lz7, lz8, lz9]
                  simp only [d0, d1, d2, d3, d4, d5, d6, d7]
                  clear hR hne hV d0 d1 d2 d3 d4 d5 d6 d7
                  clear vs
                  show wpAny _ _ _ _ (fuel + 4) _ _ _
                  refine wpAny_all (rs := [8, 9]) (by kernel_rfl) (by simp) (fun i hi => ?_)
                  rcases (show i = 8 ∨ i = 9 by simpa using hi) with rfl | rfl
                  · clear hi
                    refine wpOp_step rfl (fun K hK => ?_)
                    simp only [lz1, lz2, lz3]
                    rw [if_pos (by rfl)]
                    go_simp
                    refine hK _ _ ?_
                    clear hK
                    refine wpAny_all (rs := [9, 10]) (by kernel_rfl) (by simp) (fun i hi => ?_)
                    rcases (show i = 9 ∨ i = 10 by simpa using hi) with rfl | rfl
                    · clear hi
                      refine wpOp_step rfl (fun K hK => ?_)
                      simp only [lz1, lz2, lz3]
                      rw [if_pos (by rfl)]
                      go_simp
                      refine hK _ _ ?_
                      clear hK
                      refine wpAny_all (rs := [10]) (by kernel_rfl) (by simp) (fun i hi => ?_)
                      obtain rfl : i = 10 := by simpa using hi
                      clear hi
                      have hcc := E1.three
                      have k0 := hcc.1
                      have k1 := hcc.2.1
                      have k2 := hcc.2.2.1
                      have f0 := hcc.2.2.2.1
                      have f1 := hcc.2.2.2.2.1
                      have f2 := hcc.2.2.2.2.2
                      clear hcc
                      refine wpOp_step rfl (fun K hK => ?_)
                      simp only [lz1, lz2, lz3]
                      rw [if_pos (by rfl)]
                      go_simp
                      refine hK _ _ ?_
                      clear hK k0 f0 k1 f1 k2 f2
                      have hT := turns3 (w.heap.size + 1) Y1 (.bool g3) (.slice a3 x3.length c3) (.slice e3 y3.length t3)
                      replace R := R.beside E1 (noWord3 (fun _ e => by cases e) (fun _ e => by cases e) (fun _ e => by cases e)) hT (by first | exact RO1 | exact RO2 | exact RO3)
                      replace FC := FC.beside E1 (noWord3 (fun _ e => by cases e) (fun _ e => by cases e) (fun _ e => by cases e)) hT
                      replace FR1 := FR1.beside E1 (noWord3 (fun _ e => by cases e) (fun _ e => by cases e) (fun _ e => by cases e)) hT
                      replace E2 := E2.turns hT (by omega)
                      replace E3 := E3.turns hT (by omega)
                      replace F2 := F2.beside E1 (noWord3 (fun _ e => by cases e) (fun _ e => by cases e) (fun _ e => by cases e)) hT
                      replace F3 := F3.beside E1 (noWord3 (fun _ e => by cases e) (fun _ e => by cases e) (fun _ e => by cases e)) hT
                      replace E1 := E1.set3 (.bool g3) (.slice a3 x3.length c3) (.slice e3 y3.length t3)
                      have hr10 := hT.below
                      obtain ⟨X1, hX⟩ := nm hT.below
                      rw [hX] at R FC FR1 E1 E2 E3 F2 F3 hr10 ⊢
                      clear hX hT
                      refine wpAny_all (rs := [11]) (by kernel_rfl) (by simp) (fun i hi => ?_)
                      obtain rfl : i = 11 := by simpa using hi
                      clear hi
                      have hcc := E3.one
                      have k0 := hcc.1
                      have f0 := hcc.2
                      clear hcc
                      refine wpOp_step rfl (fun K hK => ?_)
                      simp only [lz1, lz2, lz3]
                      rw [if_pos (by rfl)]
                      go_simp
                      refine hK _ _ ?_
                      clear hK k0 f0
                      have hT := turns1 (kk) X1 (.int .i64 0)
                      replace R := R.beside E3 (noWord1 (fun _ e => by cases e)) hT (by first | exact RO1 | exact RO2 | exact RO3)
                      replace FC := FC.beside E3 (noWord1 (fun _ e => by cases e)) hT
                      replace FR1 := FR1.beside E3 (noWord1 (fun _ e => by cases e)) hT
                      replace E1 := E1.turns hT (by omega)
                      replace E2 := E2.turns hT (by omega)
                      replace F2 := F2.beside E3 (noWord1 (fun _ e => by cases e)) hT
                      replace F3 := F3.beside E3 (noWord1 (fun _ e => by cases e)) hT
                      replace E3 := E3.set1 (.int .i64 0)
                      have hr11 := hT.below
                      obtain ⟨X2, hX⟩ := nm hT.below
                      rw [hX] at R FC FR1 E1 E2 E3 F2 F3 hr11 ⊢
                      clear hX hT
                      refine wpAny_done (by kernel_rfl) ?_ _
                      replace hB := hB.trans ((Below.trans (Below.drew (Below.refl wr.heap.size wr)) hr).mono hB.size)
                      replace hB := hB.trans (hr10.mono (by omega))
                      replace hB := hB.trans (hr11.mono (by omega))
                      have zz0_2 := hr.size
                      have zi1 := hB.size
                      have zy2_10 := hr10.size
                      have zy2_11 := hr11.size
                      clear hr hr10 hr11
                      have hms : rs.length - (i + 1) < rs.length - i := by omega
                      go_wp2
                      refine ⟨⟨i + 1, 0, g3, a3, c3, x3, e3, t3, y3, by simp, by omega, R, E1, E2, E3, hB, FoldAt.next HM hr.out HU.out (F3.mono zB) P3 I3⟩, ?_⟩
                      simpa [intOf] using hms
                    · clear hi
                      have hcc := E1.three
                      have k0 := hcc.1
                      have k1 := hcc.2.1
                      have k2 := hcc.2.2.1
                      have f0 := hcc.2.2.2.1
                      have f1 := hcc.2.2.2.2.1
                      have f2 := hcc.2.2.2.2.2
                      clear hcc
                      refine wpOp_step rfl (fun K hK => ?_)
                      simp only [lz1, lz2, lz3]
                      rw [if_pos (by rfl)]
                      go_simp
                      refine hK _ _ ?_
                      clear hK k0 f0 k1 f1 k2 f2
                      have hT := turns3 (w.heap.size + 1) Y1 (.bool g3) (.slice a3 x3.length c3) (.slice e3 y3.length t3)
                      replace R := R.beside E1 (noWord3 (fun _ e => by cases e) (fun _ e => by cases e) (fun _ e => by cases e)) hT (by first | exact RO1 | exact RO2 | exact RO3)
                      replace FC := FC.beside E1 (noWord3 (fun _ e => by cases e) (fun _ e => by cases e) (fun _ e => by cases e)) hT
                      replace FR1 := FR1.beside E1 (noWord3 (fun _ e => by cases e) (fun _ e => by cases e) (fun _ e => by cases e)) hT
                      replace E2 := E2.turns hT (by omega)
                      replace E3 := E3.turns hT (by omega)
                      replace F2 := F2.beside E1 (noWord3 (fun _ e => by cases e) (fun _ e => by cases e) (fun _ e => by cases e)) hT
                      replace F3 := F3.beside E1 (noWord3 (fun _ e => by cases e) (fun _ e => by cases e) (fun _ e => by cases e)) hT
                      replace E1 := E1.set3 (.bool g3) (.slice a3 x3.length c3) (.slice e3 y3.length t3)
                      have hr10 := hT.below
                      obtain ⟨X3, hX⟩ := nm hT.below
                      rw [hX] at R FC FR1 E1 E2 E3 F2 F3 hr10 ⊢
                      clear hX hT
                      refine wpAny_all (rs := [9]) (by kernel_rfl) (by simp) (fun i hi => ?_)
                      obtain rfl : i = 9 := by simpa using hi
                      clear hi
                      refine wpOp_step rfl (fun K hK => ?_)
                      simp only [lz1, lz2, lz3]
                      rw [if_pos (by rfl)]
                      go_simp
                      refine hK _ _ ?_
                      clear hK
                      refine wpAny_all (rs := [11]) (by kernel_rfl) (by simp) (fun i hi => ?_)
                      obtain rfl : i = 11 := by simpa using hi
                      clear hi
                      have hcc := E3.one
                      have k0 := hcc.1
                      have f0 := hcc.2
                      clear hcc
                      refine wpOp_step rfl (fun K hK => ?_)
                      simp only [lz1, lz2, lz3]
                      rw [if_pos (by rfl)]
                      go_simp
                      refine hK _ _ ?_
                      clear hK k0 f0
                      have hT := turns1 (kk) X3 (.int .i64 0)
                      replace R := R.beside E3 (noWord1 (fun _ e => by cases e)) hT (by first | exact RO1 | exact RO2 | exact RO3)
                      replace FC := FC.beside E3 (noWord1 (fun _ e => by cases e)) hT
                      replace FR1 := FR1.beside E3 (noWord1 (fun _ e => by cases e)) hT
                      replace E1 := E1.turns hT (by omega)
                      replace E2 := E2.turns hT (by omega)
                      replace F2 := F2.beside E3 (noWord1 (fun _ e => by cases e)) hT
                      replace F3 := F3.beside E3 (noWord1 (fun _ e => by cases e)) hT
                      replace E3 := E3.set1 (.int .i64 0)
                      have hr11 := hT.below
                      obtain ⟨X4, hX⟩ := nm hT.below
                      rw [hX] at R FC FR1 E1 E2 E3 F2 F3 hr11 ⊢
                      clear hX hT
                      refine wpAny_done (by kernel_rfl) ?_ _
                      replace hB := hB.trans ((Below.trans (Below.drew (Below.refl wr.heap.size wr)) hr).mono hB.size)
                      replace hB := hB.trans (hr10.mono (by omega))
                      replace hB := hB.trans (hr11.mono (by omega))
                      have zz0_4 := hr.size
                      have zi1 := hB.size
                      have zy4_10 := hr10.size
                      have zy4_11 := hr11.size
                      clear hr hr10 hr11
                      have hms : rs.length - (i + 1) < rs.length - i := by omega
                      go_wp2
                      refine ⟨⟨i + 1, 0, g3, a3, c3, x3, e3, t3, y3, by simp, by omega, R, E1, E2, E3, hB, FoldAt.next HM hr.out HU.out (F3.mono zB) P3 I3⟩, ?_⟩
                      simpa [intOf] using hms
                  · clear hi
                    refine wpOp_step rfl (fun K hK => ?_)
                    simp only [lz1, lz2, lz3]
                    rw [if_pos (by rfl)]
                    go_simp
                    refine hK _ _ ?_
                    clear hK
                    refine wpAny_all (rs := [8]) (by kernel_rfl) (by simp) (fun i hi => ?_)
                    obtain rfl : i = 8 := by simpa using hi
                    clear hi
                    refine wpOp_step rfl (fun K hK => ?_)
                    simp only [lz1, lz2, lz3]
                    rw [if_pos (by rfl)]
                    go_simp
                    refine hK _ _ ?_
                    clear hK
                    refine wpAny_all (rs := [10]) (by kernel_rfl) (by simp) (fun i hi => ?_)
                    obtain rfl : i = 10 := by simpa using hi
                    clear hi
                    have hcc := E1.three
                    have k0 := hcc.1
                    have k1 := hcc.2.1
                    have k2 := hcc.2.2.1
                    have f0 := hcc.2.2.2.1
                    have f1 := hcc.2.2.2.2.1
                    have f2 := hcc.2.2.2.2.2
                    clear hcc
                    refine wpOp_step rfl (fun K hK => ?_)
                    simp only [lz1, lz2, lz3]
                    rw [if_pos (by rfl)]
                    go_simp
                    refine hK _ _ ?_
                    clear hK k0 f0 k1 f1 k2 f2
                    have hT := turns3 (w.heap.size + 1) Y1 (.bool g3) (.slice a3 x3.length c3) (.slice e3 y3.length t3)
                    replace R := R.beside E1 (noWord3 (fun _ e => by cases e) (fun _ e => by cases e) (fun _ e => by cases e)) hT (by first | exact RO1 | exact RO2 | exact RO3)
                    replace FC := FC.beside E1 (noWord3 (fun _ e => by cases e) (fun _ e => by cases e) (fun _ e => by cases e)) hT
                    replace FR1 := FR1.beside E1 (noWord3 (fun _ e => by cases e) (fun _ e => by cases e) (fun _ e => by cases e)) hT
                    replace E2 := E2.turns hT (by omega)
                    replace E3 := E3.turns hT (by omega)
                    replace F2 := F2.beside E1 (noWord3 (fun _ e => by cases e) (fun _ e => by cases e) (fun _ e => by cases e)) hT
                    replace F3 := F3.beside E1 (noWord3 (fun _ e => by cases e) (fun _ e => by cases e) (fun _ e => by cases e)) hT
                    replace E1 := E1.set3 (.bool g3) (.slice a3 x3.length c3) (.slice e3 y3.length t3)
                    have hr10 := hT.below
                    obtain ⟨X5, hX⟩ := nm hT.below
                    rw [hX] at R FC FR1 E1 E2 E3 F2 F3 hr10 ⊢
                    clear hX hT
                    refine wpAny_all (rs := [11]) (by kernel_rfl) (by simp) (fun i hi => ?_)
                    obtain rfl : i = 11 := by simpa using hi
                    clear hi
                    have hcc := E3.one
                    have k0 := hcc.1
                    have f0 := hcc.2
                    clear hcc
                    refine wpOp_step rfl (fun K hK => ?_)
                    simp only [lz1, lz2, lz3]
                    rw [if_pos (by rfl)]
                    go_simp
                    refine hK _ _ ?_
                    clear hK k0 f0
                    have hT := turns1 (kk) X5 (.int .i64 0)
                    replace R := R.beside E3 (noWord1 (fun _ e => by cases e)) hT (by first | exact RO1 | exact RO2 | exact RO3)
                    replace FC := FC.beside E3 (noWord1 (fun _ e => by cases e)) hT
                    replace FR1 := FR1.beside E3 (noWord1 (fun _ e => by cases e)) hT
                    replace E1 := E1.turns hT (by omega)
                    replace E2 := E2.turns hT (by omega)
                    replace F2 := F2.beside E3 (noWord1 (fun _ e => by cases e)) hT
                    replace F3 := F3.beside E3 (noWord1 (fun _ e => by cases e)) hT
                    replace E3 := E3.set1 (.int .i64 0)
                    have hr11 := hT.below
                    obtain ⟨X6, hX⟩ := nm hT.below
                    rw [hX] at R FC FR1 E1 E2 E3 F2 F3 hr11 ⊢
                    clear hX hT
                    refine wpAny_done (by kernel_rfl) ?_ _
                    replace hB := hB.trans ((Below.trans (Below.drew (Below.refl wr.heap.size wr)) hr).mono hB.size)
                    replace hB := hB.trans (hr10.mono (by omega))
                    replace hB := hB.trans (hr11.mono (by omega))
                    have zz0_6 := hr.size
                    have zi1 := hB.size
                    have zy6_10 := hr10.size
                    have zy6_11 := hr11.size
                    clear hr hr10 hr11
                    have hms : rs.length - (i + 1) < rs.length - i := by omega
                    go_wp2
                    refine ⟨⟨i + 1, 0, g3, a3, c3, x3, e3, t3, y3, by simp, by omega, R, E1, E2, E3, hB, FoldAt.next HM hr.out HU.out (F3.mono zB) P3 I3⟩, ?_⟩
                    simpa [intOf] using hms
            | none =>
                obtain ⟨k0, k1, k2, f0, f1, f2⟩ := E1.three
                obtain ⟨k3, f3⟩ := E2.one
                obtain ⟨k4, f4⟩ := E3.one
                go_wp2_with fail
                clear k0 k1 k2 f0 f1 f2 k3 f3 k4 f4
                replace R := R.drew
                replace FC := FC.drew
                replace FR1 := FR1.drew
                have qE1 := E1.lt
                replace E1 := E1.drew
                have qE2 := E2.lt
                replace E2 := E2.drew
                have qE3 := E3.lt
                replace E3 := E3.drew
                refine wp_yields 8 [.is (.func (.func J) #[] #[]), .is (.agg #[.bool b1, .slice a1 x1.length n1, .slice e1 y1.length m1]), .is (.slice (some ⟨g, o, none⟩) rs.length cap), .is (.int .i64 i), .is (.pointer (some ⟨g, o + i * 3, none⟩)), .is (.agg #[.bool r.b, .slice r.a r.xs.length r.ca, .slice r.c r.ds.length r.cc]), (.is (.tuple #[.agg #[.bool false, .slice none 0 0, .slice none 0 0], .int .i64 5])), .is (.tuple #[.agg #[.bool false, .slice none 0 0, .slice none 0 0], .int .i64 5])] (by kernel_rfl) (by kernel_rfl) (lt_cons ?_ (lt_cons ?_ (lt_cons ?_ (lt_cons ?_ (lt_cons ?_ (lt_cons ?_ (lt_cons ?_ (lt_cons ?_ lt_nil)))))))) ?_
                case refine_1 =>
                  refine OpDoes.mk rfl ?_
                  intro vs V hV hd K hK
                  have d6 : vs 6 = .tuple #[.agg #[.bool false, .slice none 0 0, .slice none 0 0], .int .i64 5] := hd 6 (by decide) (by kernel_rfl)
                  simp only [laidIn, lz1, lz2, lz3, lz4, lz5, lz6, if_true, Act.put, lz7, lz8, lz9] at hK ⊢
                  simp only [d6] at hK ⊢
                  go_simp
                  exact hK.out _ _ (Below.refl _ _) rfl (not_fresh rfl)
                case refine_2 =>
                  refine OpDoes.mk rfl ?_
                  intro vs V hV hd K hK
                  have d0 : vs 0 = .func (.func J) #[] #[] := hd 0 (by decide) (by kernel_rfl)
                  have d1 : vs 1 = .agg #[.bool b1, .slice a1 x1.length n1, .slice e1 y1.length m1] := hd 1 (by decide) (by kernel_rfl)
                  have d5 : vs 5 = .agg #[.bool r.b, .slice r.a r.xs.length r.ca, .slice r.c r.ds.length r.cc] := hd 5 (by decide) (by kernel_rfl)
                  simp only [laidIn, lz1, lz2, lz3, lz4, lz5, lz6, if_true, Act.put, lz7, lz8, lz9] at hK ⊢
                  simp only [d0, d1, d5] at hK ⊢
                  go_simp
                  refine (hJn V b1 a1 n1 x1 e1 m1 y1 q1 (n + i * (m + 1)) r (FC.below hV) (FR1.below hV) I1 I2 hbd HU.out).mono ?_
                  rintro e V' ⟨rfl, hb⟩
                  exact hK.out _ _ hb rfl (not_fresh rfl)
                case refine_3 =>
                  refine OpDoes.mk rfl ?_
                  intro vs V hV hd K hK
                  have d4 : vs 4 = .pointer (some ⟨g, o + i * 3, none⟩) := hd 4 (by decide) (by kernel_rfl)
                  have hcc := (R.below hV).cells g o i r rfl hr.out
                  have k0 := hcc.1
                  have k1 := hcc.2.1
                  have k2 := hcc.2.2
                  clear hcc
                  simp only [laidIn, lz1, lz2, lz3, lz4, lz5, lz6, if_true, Act.put, lz7, lz8, lz9] at hK ⊢
                  simp only [d4] at hK ⊢
                  go_simp
                  exact hK.out _ _ (Below.refl _ _) rfl (not_fresh rfl)
                case refine_4 =>
                  refine OpDoes.mk rfl ?_
                  intro vs V hV hd K hK
                  have d2 : vs 2 = .slice (some ⟨g, o, none⟩) rs.length cap := hd 2 (by decide) (by kernel_rfl)
                  have d3 : vs 3 = .int .i64 i := hd 3 (by decide) (by kernel_rfl)
                  simp only [laidIn, lz1, lz2, lz3, lz4, lz5, lz6, if_true, Act.put, lz7, lz8, lz9] at hK ⊢
                  simp only [d2, d3] at hK ⊢
                  go_simp
                  exact hK.out _ _ (Below.refl _ _) rfl (not_fresh rfl)
                case refine_5 =>
                  refine OpDoes.mk rfl ?_
                  intro vs V hV hd K hK
                  simp only [laidIn, lz1, lz2, lz3, lz4, lz5, lz6, if_true, Act.put, lz7, lz8, lz9] at hK ⊢
                  go_simp
                  exact hK.out _ _ (Below.refl _ _) rfl (not_fresh rfl)
                case refine_6 =>
                  refine OpDoes.mk rfl ?_
                  intro vs V hV hd K hK
                  simp only [laidIn, lz1, lz2, lz3, lz4, lz5, lz6, if_true, Act.put, lz7, lz8, lz9] at hK ⊢
                  go_simp
                  exact hK.out _ _ (Below.refl _ _) rfl (not_fresh rfl)
                case refine_7 =>
                  refine OpDoes.mk rfl ?_
                  intro vs V hV hd K hK
                  have hcc := (E1.below hV).three
                  have k0 := hcc.1
                  have k1 := hcc.2.1
                  have k2 := hcc.2.2.1
                  clear hcc
                  simp only [laidIn, lz1, lz2, lz3, lz4, lz5, lz6, if_true, Act.put, lz7, lz8, lz9] at hK ⊢
                  go_simp
                  exact hK.out _ _ (Below.refl _ _) rfl (not_fresh rfl)
                case refine_8 =>
                  refine OpDoes.mk rfl ?_
                  intro vs V hV hd K hK
                  simp only [laidIn, lz1, lz2, lz4, lz5, lz6, if_true, Act.put, lz7, lz8, lz9] at hK ⊢
                  go_simp
                  exact hK.out _ _ (Below.refl _ _) rfl (not_fresh rfl)
                case refine_9 =>
                  intro vs Y1 hV hR hne fuel
                  have d0 : vs 0 = .func (.func J) #[] #[] := hR 0 (by decide)
                  have d1 : vs 1 = .agg #[.bool b1, .slice a1 x1.length n1, .slice e1 y1.length m1] := hR 1 (by decide)
                  have d2 : vs 2 = .slice (some ⟨g, o, none⟩) rs.length cap := hR 2 (by decide)
                  have d3 : vs 3 = .int .i64 i := hR 3 (by decide)
                  have d4 : vs 4 = .pointer (some ⟨g, o + i * 3, none⟩) := hR 4 (by decide)
                  have d5 : vs 5 = .agg #[.bool r.b, .slice r.a r.xs.length r.ca, .slice r.c r.ds.length r.cc] := hR 5 (by decide)
                  have d6 : vs 6 = .tuple #[.agg #[.bool false, .slice none 0 0, .slice none 0 0], .int .i64 5] := hR 6 (by decide)
                  have d7 : vs 7 = .tuple #[.agg #[.bool false, .slice none 0 0, .slice none 0 0], .int .i64 5] := hR 7 (by decide)
                  replace R := R.below hV
                  replace FC := FC.below hV
                  replace FR1 := FR1.below hV
                  replace E1 := E1.below hV
                  replace E2 := E2.below hV
                  replace E3 := E3.below hV
                  have hr := hV
                  simp only [laidIn, lz4, lz5, lz6, if_true, Act.put, lz7, lz8, lz9]
                  simp only [d0, d1, d2, d3, d4, d5, d6, d7]
                  clear hR hne hV d0 d1 d2 d3 d4 d5 d6 d7
                  clear vs
                  show wpAny _ _ _ _ (fuel + 4) _ _ _
                  refine wpAny_all (rs := [8, 9]) (by kernel_rfl) (by simp) (fun i hi => ?_)
                  rcases (show i = 8 ∨ i = 9 by simpa using hi) with rfl | rfl
                  · clear hi
                    refine wpOp_step rfl (fun K hK => ?_)
                    simp only [lz1, lz2, lz3]
                    rw [if_pos (by rfl)]
                    go_simp
                    refine hK _ _ ?_
                    clear hK
                    refine wpAny_all (rs := [9, 10]) (by kernel_rfl) (by simp) (fun i hi => ?_)
                    rcases (show i = 9 ∨ i = 10 by simpa using hi) with rfl | rfl
                    · clear hi
                      refine wpOp_step rfl (fun K hK => ?_)
                      simp only [lz1, lz2, lz3]
                      rw [if_pos (by rfl)]
                      go_simp
                      refine hK _ _ ?_
                      clear hK
                      refine wpAny_all (rs := [10]) (by kernel_rfl) (by simp) (fun i hi => ?_)
                      obtain rfl : i = 10 := by simpa using hi
                      clear hi
                      have hcc := E1.three
                      have k0 := hcc.1
                      have k1 := hcc.2.1
                      have k2 := hcc.2.2.1
                      have f0 := hcc.2.2.2.1
                      have f1 := hcc.2.2.2.2.1
                      have f2 := hcc.2.2.2.2.2
                      clear hcc
                      refine wpOp_step rfl (fun K hK => ?_)
                      simp only [lz1, lz2, lz3]
                      rw [if_pos (by rfl)]
                      go_simp
                      refine hK _ _ ?_
                      clear hK k0 f0 k1 f1 k2 f2
                      have hT := turns3 (w.heap.size + 1) Y1 (.bool false) (.slice none 0 0) (.slice none 0 0)
                      replace R := R.beside E1 (noWord3 (fun _ e => by cases e) (fun _ e => by cases e) (fun _ e => by cases e)) hT (by first | exact RO1 | exact RO2 | exact RO3)
                      replace FC := FC.beside E1 (noWord3 (fun _ e => by cases e) (fun _ e => by cases e) (fun _ e => by cases e)) hT
                      replace FR1 := FR1.beside E1 (noWord3 (fun _ e => by cases e) (fun _ e => by cases e) (fun _ e => by cases e)) hT
                      replace E2 := E2.turns hT (by omega)
                      replace E3 := E3.turns hT (by omega)
                      replace E1 := E1.set3 (.bool false) (.slice none 0 0) (.slice none 0 0)
                      have hr10 := hT.below
                      obtain ⟨X1, hX⟩ := nm hT.below
                      rw [hX] at R FC FR1 E1 E2 E3 hr10 ⊢
                      clear hX hT
                      refine wpAny_all (rs := [11]) (by kernel_rfl) (by simp) (fun i hi => ?_)
                      obtain rfl : i = 11 := by simpa using hi
                      clear hi
                      have hcc := E3.one
                      have k0 := hcc.1
                      have f0 := hcc.2
                      clear hcc
                      refine wpOp_step rfl (fun K hK => ?_)
                      simp only [lz1, lz2, lz3]
                      rw [if_pos (by rfl)]
                      go_simp
                      refine hK _ _ ?_
                      clear hK k0 f0
                      have hT := turns1 (kk) X1 (.int .i64 5)
                      replace R := R.beside E3 (noWord1 (fun _ e => by cases e)) hT (by first | exact RO1 | exact RO2 | exact RO3)
                      replace FC := FC.beside E3 (noWord1 (fun _ e => by cases e)) hT
                      replace FR1 := FR1.beside E3 (noWord1 (fun _ e => by cases e)) hT
                      replace E1 := E1.turns hT (by omega)
                      replace E2 := E2.turns hT (by omega)
                      replace E3 := E3.set1 (.int .i64 5)
                      have hr11 := hT.below
                      obtain ⟨X2, hX⟩ := nm hT.below
                      rw [hX] at R FC FR1 E1 E2 E3 hr11 ⊢
                      clear hX hT
                      refine wpAny_done (by kernel_rfl) ?_ _
                      replace hB := hB.trans ((Below.trans (Below.drew (Below.refl wr.heap.size wr)) hr).mono hB.size)
                      replace hB := hB.trans (hr10.mono (by omega))
                      replace hB := hB.trans (hr11.mono (by omega))
                      have zz0_2 := hr.size
                      have zi1 := hB.size
                      have zy2_10 := hr10.size
                      have zy2_11 := hr11.size
                      clear hr hr10 hr11
                      have hms : rs.length - (i + 1) < rs.length - i := by omega
                      go_wp2
                      refine ⟨⟨i + 1, 5, false, none, 0, [], none, 0, [], by simp, by omega, R, E1, E2, E3, hB, FoldAt.stop HM hr.out HU.out⟩, ?_⟩
                      simpa [intOf] using hms
                    · clear hi
                      have hcc := E1.three
                      have k0 := hcc.1
                      have k1 := hcc.2.1
                      have k2 := hcc.2.2.1
                      have f0 := hcc.2.2.2.1
                      have f1 := hcc.2.2.2.2.1
                      have f2 := hcc.2.2.2.2.2
                      clear hcc
                      refine wpOp_step rfl (fun K hK => ?_)
                      simp only [lz1, lz2, lz3]
                      rw [if_pos (by rfl)]
                      go_simp
                      refine hK _ _ ?_
                      clear hK k0 f0 k1 f1 k2 f2
                      have hT := turns3 (w.heap.size + 1) Y1 (.bool false) (.slice none 0 0) (.slice none 0 0)
                      replace R := R.beside E1 (noWord3 (fun _ e => by cases e) (fun _ e => by cases e) (fun _ e => by cases e)) hT (by first | exact RO1 | exact RO2 | exact RO3)
                      replace FC := FC.beside E1 (noWord3 (fun _ e => by cases e) (fun _ e => by cases e) (fun _ e => by cases e)) hT
                      replace FR1 := FR1.beside E1 (noWord3 (fun _ e => by cases e) (fun _ e => by cases e) (fun _ e => by cases e)) hT
                      replace E2 := E2.turns hT (by omega)
                      replace E3 := E3.turns hT (by omega)
                      replace E1 := E1.set3 (.bool false) (.slice none 0 0) (.slice none 0 0)
                      have hr10 := hT.below
                      obtain ⟨X3, hX⟩ := nm hT.below
                      rw [hX] at R FC FR1 E1 E2 E3 hr10 ⊢
                      clear hX hT
                      refine wpAny_all (rs := [9]) (by kernel_rfl) (by simp) (fun i hi => ?_)
                      obtain rfl : i = 9 := by simpa using hi
                      clear hi
                      refine wpOp_step rfl (fun K hK => ?_)
                      simp only [lz1, lz2, lz3]
                      rw [if_pos (by rfl)]
                      go_simp
                      refine hK _ _ ?_
                      clear hK
                      refine wpAny_all (rs := [11]) (by kernel_rfl) (by simp) (fun i hi => ?_)
                      obtain rfl : i = 11 := by simpa using hi
                      clear hi
                      have hcc := E3.one
                      have k0 := hcc.1
                      have f0 := hcc.2
                      clear hcc
                      refine wpOp_step rfl (fun K hK => ?_)
                      simp only [lz1, lz2, lz3]
                      rw [if_pos (by rfl)]
                      go_simp
                      refine hK _ _ ?_
                      clear hK k0 f0
                      have hT := turns1 (kk) X3 (.int .i64 5)
                      replace R := R.beside E3 (noWord1 (fun _ e => by cases e)) hT (by first | exact RO1 | exact RO2 | exact RO3)
                      replace FC := FC.beside E3 (noWord1 (fun _ e => by cases e)) hT
                      replace FR1 := FR1.beside E3 (noWord1 (fun _ e => by cases e)) hT
                      replace E1 := E1.turns hT (by omega)
                      replace E2 := E2.turns hT (by omega)
                      replace E3 := E3.set1 (.int .i64 5)
                      have hr11 := hT.below
                      obtain ⟨X4, hX⟩ := nm hT.below
                      rw [hX] at R FC FR1 E1 E2 E3 hr11 ⊢
                      clear hX hT
                      refine wpAny_done (by kernel_rfl) ?_ _
                      replace hB := hB.trans ((Below.trans (Below.drew (Below.refl wr.heap.size wr)) hr).mono hB.size)
                      replace hB := hB.trans (hr10.mono (by omega))
                      replace hB := hB.trans (hr11.mono (by omega))
                      have zz0_4 := hr.size
                      have zi1 := hB.size
                      have zy4_10 := hr10.size
                      have zy4_11 := hr11.size
                      clear hr hr10 hr11
                      have hms : rs.length - (i + 1) < rs.length - i := by omega
                      go_wp2
                      refine ⟨⟨i + 1, 5, false, none, 0, [], none, 0, [], by simp, by omega, R, E1, E2, E3, hB, FoldAt.stop HM hr.out HU.out⟩, ?_⟩
                      simpa [intOf] using hms
                  · clear hi
                    refine wpOp_step rfl (fun K hK => ?_)
                    simp only [lz1, lz2, lz3]
                    rw [if_pos (by rfl)]
                    go_simp
                    refine hK _ _ ?_
                    clear hK
                    refine wpAny_all (rs := [8]) (by kernel_rfl) (by simp) (fun i hi => ?_)
                    obtain rfl : i = 8 := by simpa using hi
                    clear hi
                    refine wpOp_step rfl (fun K hK => ?_)
                    simp only [lz1, lz2, lz3]
                    rw [if_pos (by rfl)]
                    go_simp
                    refine hK _ _ ?_
                    clear hK
                    refine wpAny_all (rs := [10]) (by kernel_rfl) (by simp) (fun i hi => ?_)
                    obtain rfl : i = 10 := by simpa using hi
                    clear hi
                    have hcc := E1.three
                    have k0 := hcc.1
                    have k1 := hcc.2.1
                    have k2 := hcc.2.2.1
                    have f0 := hcc.2.2.2.1
                    have f1 := hcc.2.2.2.2.1
                    have f2 := hcc.2.2.2.2.2
                    clear hcc
                    refine wpOp_step rfl (fun K hK => ?_)
                    simp only [lz1, lz2, lz3]
                    rw [if_pos (by rfl)]
                    go_simp
                    refine hK _ _ ?_
                    clear hK k0 f0 k1 f1 k2 f2
                    have hT := turns3 (w.heap.size + 1) Y1 (.bool false) (.slice none 0 0) (.slice none 0 0)
                    replace R := R.beside E1 (noWord3 (fun _ e => by cases e) (fun _ e => by cases e) (fun _ e => by cases e)) hT (by first | exact RO1 | exact RO2 | exact RO3)
                    replace FC := FC.beside E1 (noWord3 (fun _ e => by cases e) (fun _ e => by cases e) (fun _ e => by cases e)) hT
                    replace FR1 := FR1.beside E1 (noWord3 (fun _ e => by cases e) (fun _ e => by cases e) (fun _ e => by cases e)) hT
                    replace E2 := E2.turns hT (by omega)
                    replace E3 := E3.turns hT (by omega)
                    replace E1 := E1.set3 (.bool false) (.slice none 0 0) (.slice none 0 0)
                    have hr10 := hT.below
                    obtain ⟨X5, hX⟩ := nm hT.below
                    rw [hX] at R FC FR1 E1 E2 E3 hr10 ⊢
                    clear hX hT
                    refine wpAny_all (rs := [11]) (by kernel_rfl) (by simp) (fun i hi => ?_)
                    obtain rfl : i = 11 := by simpa using hi
                    clear hi
                    have hcc := E3.one
                    have k0 := hcc.1
                    have f0 := hcc.2
                    clear hcc
                    refine wpOp_step rfl (fun K hK => ?_)
                    simp only [lz1, lz2, lz3]
                    rw [if_pos (by rfl)]
                    go_simp
                    refine hK _ _ ?_
                    clear hK k0 f0
                    have hT := turns1 (kk) X5 (.int .i64 5)
                    replace R := R.beside E3 (noWord1 (fun _ e => by cases e)) hT (by first | exact RO1 | exact RO2 | exact RO3)
                    replace FC := FC.beside E3 (noWord1 (fun _ e => by cases e)) hT
                    replace FR1 := FR1.beside E3 (noWord1 (fun _ e => by cases e)) hT
                    replace E1 := E1.turns hT (by omega)
                    replace E2 := E2.turns hT (by omega)
                    replace E3 := E3.set1 (.int .i64 5)
                    have hr11 := hT.below
                    obtain ⟨X6, hX⟩ := nm hT.below
                    rw [hX] at R FC FR1 E1 E2 E3 hr11 ⊢
                    clear hX hT
                    refine wpAny_done (by kernel_rfl) ?_ _
                    replace hB := hB.trans ((Below.trans (Below.drew (Below.refl wr.heap.size wr)) hr).mono hB.size)
                    replace hB := hB.trans (hr10.mono (by omega))
                    replace hB := hB.trans (hr11.mono (by omega))
                    have zz0_6 := hr.size
                    have zi1 := hB.size
                    have zy6_10 := hr10.size
                    have zy6_11 := hr11.size
                    clear hr hr10 hr11
                    have hms : rs.length - (i + 1) < rs.length - i := by omega
                    go_wp2
                    refine ⟨⟨i + 1, 5, false, none, 0, [], none, 0, [], by simp, by omega, R, E1, E2, E3, hB, FoldAt.stop HM hr.out HU.out⟩, ?_⟩
                    simpa [intOf] using hms
          · have HFin := HF.fin (by omega) hgo
            clear hgo
            by_cases hy : y = 0
            · subst hy
              have hnl : ¬ (i : Int) < (rs.length : Int) := by have := HFin.atEnd rfl; omega
              obtain ⟨k0, k1, k2, f0, f1, f2⟩ := E1.three
              obtain ⟨k3, f3⟩ := E2.one
              obtain ⟨k4, f4⟩ := E3.one
              have hmv := fun (F : Fr w.heap.size wr a1 n1 x1 e1 m1 y1) => (F.beside E1 (noWord3 (fun _ e => by cases e) (fun _ e => by cases e) (fun _ e => by cases e)) (turns3 (w.heap.size + 1) wr (.bool b1) (.slice a1 x1.length n1) (.slice e1 y1.length m1))).beside (E2.turns (turns3 (w.heap.size + 1) wr (.bool b1) (.slice a1 x1.length n1) (.slice e1 y1.length m1)) (by omega)) (noWord1 (fun _ e => by cases e)) (turns1 (w.heap.size + 1 + 1) _ (.int .i64 0))
              have hA := Below.refl wr.heap.size wr
              have hT := turns3 (w.heap.size + 1) wr (.bool b1) (.slice a1 x1.length n1) (.slice e1 y1.length m1)
              replace E2 := E2.turns hT (by omega)
              replace E3 := E3.turns hT (by omega)
              replace E1 := Box.set3 (.bool b1) (.slice a1 x1.length n1) (.slice e1 y1.length m1) E1
              replace hB := hB.trans (hT.below.mono (by omega))
              clear hT
              have hT := ((Turns.refl (w.heap.size + 1 + 1) (((wr.setCell ⟨w.heap.size + 1, 0, none⟩ (.bool b1)).setCell ⟨w.heap.size + 1, 1, none⟩ (.slice a1 x1.length n1)).setCell ⟨w.heap.size + 1, 2, none⟩ (.slice e1 y1.length m1))).setCell 0 (.int .i64 0))
              replace E1 := E1.turns hT (by omega)
              replace E3 := E3.turns hT (by omega)
              replace E2 : Box ((((wr.setCell ⟨w.heap.size + 1, 0, none⟩ (.bool b1)).setCell ⟨w.heap.size + 1, 1, none⟩ (.slice a1 x1.length n1)).setCell ⟨w.heap.size + 1, 2, none⟩ (.slice e1 y1.length m1)).setCell ⟨w.heap.size + 1 + 1, 0, none⟩ (.int .i64 0)) (w.heap.size + 1 + 1) (.cells #[.int .i64 0] 32) := ⟨Nat.lt_of_lt_of_le E2.lt hT.below.size, (heap_setCell_same _ _ 0 _ _ _ E2.what)⟩
              replace hB := hB.trans (hT.below.mono (by omega))
              clear hT
              clear hA
              go_wp2
              refine leaves_cons (f := 44) (args := #[.pointer (some ⟨kk, 0, none⟩), .pointer (some ⟨w.heap.size + 1, 0, none⟩), .pointer (some ⟨w.heap.size + 1 + 1, 0, none⟩)]) (by simp) (by simp [go_sem]) ?_
              have hE3 := E3.one.1
              refine (fold1_ok kk _ _ .returning _ hE3).mono ?_
              rintro e u' w'' ⟨rfl, rfl, rfl⟩
              have hcc := E1.three
              have r0 := hcc.1
              have r1 := hcc.2.1
              have r2 := hcc.2.2.1
              have s0 := E2.one.1
              clear hcc
              simp [Leaves, settle, results, Tryz.results21, go_sem, r0, r1, r2, s0]
              obtain ⟨hAG, t, ht, hIt, hmem⟩ := HFin.ok rfl
              refine ⟨Or.inl ⟨hAG, t, ht, _, _, _, _, _, _, _, rfl, hIt, ?_⟩, hB⟩
              rcases hmem with h | ⟨h1, h2⟩
              · exact Or.inl h
              · exact Or.inr ⟨hmv h1, h2⟩
            · have hyn : (y == 0) = false := beq_eq_false_iff_ne.2 hy
              obtain ⟨k0, k1, k2, f0, f1, f2⟩ := E1.three
              obtain ⟨k3, f3⟩ := E2.one
              obtain ⟨k4, f4⟩ := E3.one
              have hA := Below.refl wr.heap.size wr
              have hT := turns3 (w.heap.size + 1) wr (.bool b1) (.slice a1 x1.length n1) (.slice e1 y1.length m1)
              replace E2 := E2.turns hT (by omega)
              replace E3 := E3.turns hT (by omega)
              replace E1 := Box.set3 (.bool b1) (.slice a1 x1.length n1) (.slice e1 y1.length m1) E1
              replace hB := hB.trans (hT.below.mono (by omega))
              clear hT
              have hT := ((Turns.refl (w.heap.size + 1 + 1) (((wr.setCell ⟨w.heap.size + 1, 0, none⟩ (.bool b1)).setCell ⟨w.heap.size + 1, 1, none⟩ (.slice a1 x1.length n1)).setCell ⟨w.heap.size + 1, 2, none⟩ (.slice e1 y1.length m1))).setCell 0 (.int .i64 0))
              replace E1 := E1.turns hT (by omega)
              replace E3 := E3.turns hT (by omega)
              replace E2 : Box ((((wr.setCell ⟨w.heap.size + 1, 0, none⟩ (.bool b1)).setCell ⟨w.heap.size + 1, 1, none⟩ (.slice a1 x1.length n1)).setCell ⟨w.heap.size + 1, 2, none⟩ (.slice e1 y1.length m1)).setCell ⟨w.heap.size + 1 + 1, 0, none⟩ (.int .i64 0)) (w.heap.size + 1 + 1) (.cells #[.int .i64 0] 32) := ⟨Nat.lt_of_lt_of_le E2.lt hT.below.size, (heap_setCell_same _ _ 0 _ _ _ E2.what)⟩
              replace hB := hB.trans (hT.below.mono (by omega))
              clear hT
              clear hA
              go_wp2
              refine leaves_cons (f := 44) (args := #[.pointer (some ⟨kk, 0, none⟩), .pointer (some ⟨w.heap.size + 1, 0, none⟩), .pointer (some ⟨w.heap.size + 1 + 1, 0, none⟩)]) (by simp) (by simp [go_sem]) ?_
              have hE3 := E3.one.1
              have hcc := E1.three
              have s0 := E2.one
              refine (fold1_no kk (w.heap.size + 1) y (by simp [hyn, bne]) .returning _ hE3 _ _ _ _ hcc.1 hcc.2.1 hcc.2.2.1 s0.1 hcc.2.2.2.1 hcc.2.2.2.2.1 hcc.2.2.2.2.2 s0.2).mono ?_
              rintro e u' w'' ⟨rfl, rfl, rfl⟩
              have r0 := hcc.1
              have r1 := hcc.2.1
              have r2 := hcc.2.2.1
              have s1 := s0.1
              clear hcc s0
              simp [Leaves, settle, results, Tryz.results21, go_sem, r0, r1, r2, s1]
              refine ⟨?_, (hB.trans ((turns3 (w.heap.size + 1) _ (.bool false) (.slice none 0 0) (.slice none 0 0)).below.mono (by omega))).trans ((turns1 (w.heap.size + 1 + 1) _ (.int .i64 y)).below.mono (by omega))⟩
              rcases HFin.no hy with ⟨h1, h2, h3⟩ | ⟨h1, h2⟩
              · exact Or.inr (Or.inl ⟨h1, h3, by rw [h2]⟩)
              · exact Or.inr (Or.inr ⟨h1, by rw [h2]⟩)
    · have hxn : (x == 0) = false := beq_eq_false_iff_ne.2 hx
      have HY : KeptIs b xs ds rs x := by
        rcases HX.out with ⟨h1, _⟩ | ⟨h1, h2⟩
        · exact absurd h1 hx
        · exact Or.inr ⟨h2, h1⟩
      obtain ⟨k0, k1, k2, f0, f1, f2⟩ := E0.three
      obtain ⟨k3, k4, k5, f3, f4, f5⟩ := E1.three
      obtain ⟨k6, f6⟩ := E2.one
      obtain ⟨k7, f7⟩ := E3.one
      have qE0 := E0.lt
      have qE1 := E1.lt
      have qE2 := E2.lt
      have qE3 := E3.lt
      have hA := Below.refl wr.heap.size wr
      have hT := turns3 (w.heap.size + 1) wr (.bool b) (.slice a xs.length ca) (.slice c ds.length cc)
      replace R := R.beside E1 (noWord3 (fun _ e => by cases e) (fun _ e => by cases e) (fun _ e => by cases e)) hT (by first | exact RO1 | exact RO2 | exact RO3)
      replace FA := FA.beside E1 (noWord3 (fun _ e => by cases e) (fun _ e => by cases e) (fun _ e => by cases e)) hT
      replace E0 := E0.turns hT (by omega)
      replace E2 := E2.turns hT (by omega)
      replace E3 := E3.turns hT (by omega)
      replace E1 := Box.set3 (.bool b) (.slice a xs.length ca) (.slice c ds.length cc) E1
      replace hB := hB.trans (hT.below.mono (by omega))
      clear hT
      clear hA
      go_wp2
      clear k0 k1 k2 f0 f1 f2 k3 k4 k5 f3 f4 f5 k6 f6 k7 f7
      go_loopw [10] (fun iv wv => ∃ (i : Nat) (y : Int) (b1 : Bool) (a1 : Option Addr) (n1 : Nat) (x1 : List Int) (e1 : Option Addr) (m1 : Nat) (y1 : List Int), iv = .int .i64 i ∧ i ≤ rs.length ∧ Row 0 wv sv rs ∧ Box wv (w.heap.size + 1) (.cells #[.bool b1, .slice a1 x1.length n1, .slice e1 y1.length m1] 30) ∧ Box wv (w.heap.size + 1 + 1) (.cells #[.int .i64 0] 32) ∧ Box wv kk (.cells #[.int .i64 y] 32) ∧ Below w.heap.size w wv ∧
              FoldAt op w b a ca xs c cc ds rs n m i y b1 a1 n1 x1 e1 m1 y1 wv) (fun iv _ => rs.length - (intOf iv).toNat)
      case atStart => exact ⟨0, x, b, a, ca, xs, c, cc, ds, rfl, Nat.zero_le _, R, E1, E2, E3, hB, FoldAt.start hI FA HY⟩
      case round =>
        clear R FA E0 E1 E2 E3 HX HY hB
        clear qE0 qE1 qE2 qE3
        obtain ⟨i, y, b1, a1, n1, x1, e1, m1, y1, rfl, hi, R, E1, E2, E3, hB, HF⟩ := hrel
        have zB := hB.size
        have qE1 := E1.lt
        have qE2 := E2.lt
        have qE3 := E3.lt
        by_cases hgo : y = 0 ∧ i < rs.length
        · obtain ⟨rfl, hlt⟩ := hgo
          have hlt2 : (i : Int) < (rs.length : Int) := by omega
          have hge : ¬ (i : Int) < 0 := by omega
          obtain ⟨g, o, rfl, hg⟩ := R.at_ i hlt
          obtain ⟨r, hr0⟩ : ∃ r, rs[i]? = some r := ⟨rs[i], List.getElem?_eq_getElem hlt⟩
          have hr := hide hr0
          have FR1 := R.held i r hr0
          clear hr0
          obtain ⟨q1, I1, FC, HM⟩ := HF.go rfl
          have I2 := hgood r (List.mem_of_getElem? hr.out) (HF.allgood rfl r (List.mem_of_getElem? hr.out))
          clear HF
          obtain ⟨u, hu⟩ : ∃ u, op q1 r.q = u := ⟨_, rfl⟩
          have HU := hide hu
          clear hu
          have hw1 : IntKind.i64.wrap ((i : Int) + 1) = (i : Int) + 1 := by rw [IntKind.wrap_i64]; omega
          have hbd : n + i * (m + 1) + m ≤ 400 := by have : i * (m + 1) ≤ 6 * (m + 1) := Nat.mul_le_mul_right _ (by omega); omega
          cases u with
          | some t =>
              obtain ⟨k0, k1, k2, f0, f1, f2⟩ := E1.three
              obtain ⟨k3, f3⟩ := E2.one
              obtain ⟨k4, f4⟩ := E3.one
              go_wp2_with fail
              clear k0 k1 k2 f0 f1 f2 k3 f3 k4 f4
              replace R := R.drew
              replace FC := FC.drew
              replace FR1 := FR1.drew
              have qE1 := E1.lt
              replace E1 := E1.drew
              have qE2 := E2.lt
              replace E2 := E2.drew
              have qE3 := E3.lt
              replace E3 := E3.drew
              refine wp_yields 8 [.is (.func (.func J) #[] #[]), .is (.agg #[.bool b1, .slice a1 x1.length n1, .slice e1 y1.length m1]), .is (.slice (some ⟨g, o, none⟩) rs.length cap), .is (.int .i64 i), .is (.pointer (some ⟨g, o + i * 3, none⟩)), .is (.agg #[.bool r.b, .slice r.a r.xs.length r.ca, .slice r.c r.ds.length r.cc]), (Yield.fracE wr.heap.size (t) (n + i * (m + 1) + m + 1)), (Yield.fracE wr.heap.size (t) (n + i * (m + 1) + m + 1))] (by kernel_rfl) (by kernel_rfl) (lt_cons ?_ (lt_cons ?_ (lt_cons ?_ (lt_cons ?_ (lt_cons ?_ (lt_cons ?_ (lt_cons ?_ (lt_cons ?_ lt_nil)))))))) ?_
              case refine_1 =>
                refine OpDoes.mk rfl ?_
                intro vs V hV hd K hK
                have hh := fun (P : Prop) => Yield.fracE_elim P (show ((Yield.fracE wr.heap.size (t) (n + i * (m + 1) + m + 1)) : Yield).At (vs 6) V from hd 6 (by decide) (by kernel_rfl))
                refine hh _ ?_
                intro g2 a2 c2 x2 e2 t2 y2 d6 F2 P2 I2
                clear hh
                simp only [laidIn, lz1, lz2, lz3, lz4, lz5, lz6, if_true, Act.put, lz7, lz8, lz9] at hK ⊢
                simp only [d6] at hK ⊢
                go_simp
                exact hK.out _ _ (Below.refl _ _) ⟨_, _, _, _, _, _, _, rfl, F2, P2, I2⟩ (not_fresh rfl)
              case refine_2 =>
                refine OpDoes.mk rfl ?_
                intro vs V hV hd K hK
                have d0 : vs 0 = .func (.func J) #[] #[] := hd 0 (by decide) (by kernel_rfl)
                have d1 : vs 1 = .agg #[.bool b1, .slice a1 x1.length n1, .slice e1 y1.length m1] := hd 1 (by decide) (by kernel_rfl)
                have d5 : vs 5 = .agg #[.bool r.b, .slice r.a r.xs.length r.ca, .slice r.c r.ds.length r.cc] := hd 5 (by decide) (by kernel_rfl)
                simp only [laidIn, lz1, lz2, lz3, lz4, lz5, lz6, if_true, Act.put, lz7, lz8, lz9] at hK ⊢
                simp only [d0, d1, d5] at hK ⊢
                go_simp
                refine (hJs V b1 a1 n1 x1 e1 m1 y1 q1 (n + i * (m + 1)) r t (FC.below hV) (FR1.below hV) I1 I2 hbd HU.out).mono ?_
                rintro e V' ⟨g2, a2, c2, x2, e2, t2, y2, rfl, F2, P2, I2, hb⟩
                replace I2 : Is g2 x2 y2 (t) (n + i * (m + 1) + m + 1) := I2.mono (by omega)
                exact hK.out _ _ hb ⟨_, _, _, _, _, _, _, rfl, F2.mono hV.size, P2, I2⟩ (not_fresh rfl)
              case refine_3 =>
                refine OpDoes.mk rfl ?_
                intro vs V hV hd K hK
                have d4 : vs 4 = .pointer (some ⟨g, o + i * 3, none⟩) := hd 4 (by decide) (by kernel_rfl)
                have hcc := (R.below hV).cells g o i r rfl hr.out
                have k0 := hcc.1
                have k1 := hcc.2.1
                have k2 := hcc.2.2
                clear hcc
                simp only [laidIn, lz1, lz2, lz3, lz4, lz5, lz6, if_true, Act.put, lz7, lz8, lz9] at hK ⊢
                simp only [d4] at hK ⊢
                go_simp
                exact hK.out _ _ (Below.refl _ _) rfl (not_fresh rfl)
              case refine_4 =>
                refine OpDoes.mk rfl ?_
                intro vs V hV hd K hK
                have d2 : vs 2 = .slice (some ⟨g, o, none⟩) rs.length cap := hd 2 (by decide) (by kernel_rfl)
                have d3 : vs 3 = .int .i64 i := hd 3 (by decide) (by kernel_rfl)
                simp only [laidIn, lz1, lz2, lz3, lz4, lz5, lz6, if_true, Act.put, lz7, lz8, lz9] at hK ⊢
                simp only [d2, d3] at hK ⊢
                go_simp
                exact hK.out _ _ (Below.refl _ _) rfl (not_fresh rfl)
              case refine_5 =>
                refine OpDoes.mk rfl ?_
                intro vs V hV hd K hK
                simp only [laidIn, lz1, lz2, lz3, lz4, lz5, lz6, if_true, Act.put, lz7, lz8, lz9] at hK ⊢
                go_simp
                exact hK.out _ _ (Below.refl _ _) rfl (not_fresh rfl)
              case refine_6 =>
                refine OpDoes.mk rfl ?_
                intro vs V hV hd K hK
                simp only [laidIn, lz1, lz2, lz3, lz4, lz5, lz6, if_true, Act.put, lz7, lz8, lz9] at hK ⊢
                go_simp
                exact hK.out _ _ (Below.refl _ _) rfl (not_fresh rfl)
              case refine_7 =>
                refine OpDoes.mk rfl ?_
                intro vs V hV hd K hK
                have hcc := (E1.below hV).three
                have k0 := hcc.1
                have k1 := hcc.2.1
                have k2 := hcc.2.2.1
                clear hcc
                simp only [laidIn, lz1, lz2, lz3, lz4, lz5, lz6, if_true, Act.put, lz7, lz8, lz9] at hK ⊢
                go_simp
                exact hK.out _ _ (Below.refl _ _) rfl (not_fresh rfl)
              case refine_8 =>
                refine OpDoes.mk rfl ?_
                intro vs V hV hd K hK
                simp only [laidIn, lz1, lz2, lz4, lz5, lz6, if_true, Act.put, lz7, lz8, lz9] at hK ⊢
                go_simp
                exact hK.out _ _ (Below.refl _ _) rfl (not_fresh rfl)
              case refine_9 =>
                intro vs Y1 hV hR hne fuel
                have d0 : vs 0 = .func (.func J) #[] #[] := hR 0 (by decide)
                have d1 : vs 1 = .agg #[.bool b1, .slice a1 x1.length n1, .slice e1 y1.length m1] := hR 1 (by decide)
                have d2 : vs 2 = .slice (some ⟨g, o, none⟩) rs.length cap := hR 2 (by decide)
                have d3 : vs 3 = .int .i64 i := hR 3 (by decide)
                have d4 : vs 4 = .pointer (some ⟨g, o + i * 3, none⟩) := hR 4 (by decide)
                have d5 : vs 5 = .agg #[.bool r.b, .slice r.a r.xs.length r.ca, .slice r.c r.ds.length r.cc] := hR 5 (by decide)
                have hh := fun (P : Prop) => Yield.fracE_elim P (show ((Yield.fracE wr.heap.size (t) (n + i * (m + 1) + m + 1)) : Yield).At (vs 6) Y1 from hR 6 (by decide))
                refine hh _ ?_
                intro g2 a2 c2 x2 e2 t2 y2 d6 F2 P2 I2
                clear hh
                have hh := fun (P : Prop) => Yield.fracE_elim P (show ((Yield.fracE wr.heap.size (t) (n + i * (m + 1) + m + 1)) : Yield).At (vs 7) Y1 from hR 7 (by decide))
                refine hh _ ?_
                intro g3 a3 c3 x3 e3 t3 y3 d7 F3 P3 I3
                clear hh
                replace R := R.below hV
                replace FC := FC.below hV
                replace FR1 := FR1.below hV
                replace E1 := E1.below hV
                replace E2 := E2.below hV
                replace E3 := E3.below hV
                have hr := hV
                simp only [laidIn, lz4, lz5, lz6, if_true, Act.put, lz7, lz8, lz9]
                simp only [d0, d1, d2, d3, d4, d5, d6, d7]
                clear hR hne hV d0 d1 d2 d3 d4 d5 d6 d7
                clear vs
                show wpAny _ _ _ _ (fuel + 4) _ _ _
                refine wpAny_all (rs := [8, 9]) (by kernel_rfl) (by simp) (fun i hi => ?_)
                rcases (show i = 8 ∨ i = 9 by simpa using hi) with rfl | rfl
                · clear hi
                  refine wpOp_step rfl (fun K hK => ?_)
                  simp only [lz1, lz2, lz3]
                  rw [if_pos (by rfl)]
                  go_simp
                  refine hK _ _ ?_
                  clear hK
                  refine wpAny_all (rs := [9, 10]) (by kernel_rfl) (by simp) (fun i hi => ?_)
                  rcases (show i = 9 ∨ i = 10 by simpa using hi) with rfl | rfl
                  · clear hi
                    refine wpOp_step rfl (fun K hK => ?_)
                    simp only [lz1, lz2, lz3]
                    rw [if_pos (by rfl)]
                    go_simp
                    refine hK _ _ ?_
                    clear hK
                    refine wpAny_all (rs := [10]) (by kernel_rfl) (by simp) (fun i hi => ?_)
                    obtain rfl : i = 10 := by simpa using hi
                    clear hi
                    have hcc := E1.three
                    have k0 := hcc.1
                    have k1 := hcc.2.1
                    have k2 := hcc.2.2.1
                    have f0 := hcc.2.2.2.1
                    have f1 := hcc.2.2.2.2.1
                    have f2 := hcc.2.2.2.2.2
                    clear hcc
                    refine wpOp_step rfl (fun K hK => ?_)
                    simp only [lz1, lz2, lz3]
                    rw [if_pos (by rfl)]
                    go_simp
                    refine hK _ _ ?_
                    clear hK k0 f0 k1 f1 k2 f2
                    have hT := turns3 (w.heap.size + 1) Y1 (.bool g3) (.slice a3 x3.length c3) (.slice e3 y3.length t3)
                    replace R := R.beside E1 (noWord3 (fun _ e => by cases e) (fun _ e => by cases e) (fun _ e => by cases e)) hT (by first | exact RO1 | exact RO2 | exact RO3)
                    replace FC := FC.beside E1 (noWord3 (fun _ e => by cases e) (fun _ e => by cases e) (fun _ e => by cases e)) hT
                    replace FR1 := FR1.beside E1 (noWord3 (fun _ e => by cases e) (fun _ e => by cases e) (fun _ e => by cases e)) hT
                    replace E2 := E2.turns hT (by omega)
                    replace E3 := E3.turns hT (by omega)
                    replace F2 := F2.beside E1 (noWord3 (fun _ e => by cases e) (fun _ e => by cases e) (fun _ e => by cases e)) hT
                    replace F3 := F3.beside E1 (noWord3 (fun _ e => by cases e) (fun _ e => by cases e) (fun _ e => by cases e)) hT
                    replace E1 := E1.set3 (.bool g3) (.slice a3 x3.length c3) (.slice e3 y3.length t3)
                    have hr10 := hT.below
                    obtain ⟨X1, hX⟩ := nm hT.below
                    rw [hX] at R FC FR1 E1 E2 E3 F2 F3 hr10 ⊢
                    clear hX hT
                    refine wpAny_all (rs := [11]) (by kernel_rfl) (by simp) (fun i hi => ?_)
                    obtain rfl : i = 11 := by simpa using hi
                    clear hi
                    have hcc := E3.one
                    have k0 := hcc.1
                    have f0 := hcc.2
                    clear hcc
                    refine wpOp_step rfl (fun K hK => ?_)
                    simp only [lz1, lz2, lz3]
                    rw [if_pos (by rfl)]
                    go_simp
                    refine hK _ _ ?_
                    clear hK k0 f0
                    have hT := turns1 (kk) X1 (.int .i64 0)
                    replace R := R.beside E3 (noWord1 (fun _ e => by cases e)) hT (by first | exact RO1 | exact RO2 | exact RO3)
                    replace FC := FC.beside E3 (noWord1 (fun _ e => by cases e)) hT
                    replace FR1 := FR1.beside E3 (noWord1 (fun _ e => by cases e)) hT
                    replace E1 := E1.turns hT (by omega)
                    replace E2 := E2.turns hT (by omega)
                    replace F2 := F2.beside E3 (noWord1 (fun _ e => by cases e)) hT
                    replace F3 := F3.beside E3 (noWord1 (fun _ e => by cases e)) hT
                    replace E3 := E3.set1 (.int .i64 0)
                    have hr11 := hT.below
                    obtain ⟨X2, hX⟩ := nm hT.below
                    rw [hX] at R FC FR1 E1 E2 E3 F2 F3 hr11 ⊢
                    clear hX hT
                    refine wpAny_done (by kernel_rfl) ?_ _
                    replace hB := hB.trans ((Below.trans (Below.drew (Below.refl wr.heap.size wr)) hr).mono hB.size)
                    replace hB := hB.trans (hr10.mono (by omega))
                    replace hB := hB.trans (hr11.mono (by omega))
                    have zz0_2 := hr.size
                    have zi1 := hB.size
                    have zy2_10 := hr10.size
                    have zy2_11 := hr11.size
                    clear hr hr10 hr11
                    have hms : rs.length - (i + 1) < rs.length - i := by omega
                    go_wp2
                    refine ⟨⟨i + 1, 0, g3, a3, c3, x3, e3, t3, y3, by simp, by omega, R, E1, E2, E3, hB, FoldAt.next HM hr.out HU.out (F3.mono zB) P3 I3⟩, ?_⟩
                    simpa [intOf] using hms
                  · clear hi
                    have hcc := E1.three
                    have k0 := hcc.1
                    have k1 := hcc.2.1
                    have k2 := hcc.2.2.1
                    have f0 := hcc.2.2.2.1
                    have f1 := hcc.2.2.2.2.1
                    have f2 := hcc.2.2.2.2.2
                    clear hcc
                    refine wpOp_step rfl (fun K hK => ?_)
                    simp only [lz1, lz2, lz3]
                    rw [if_pos (by rfl)]
                    go_simp
                    refine hK _ _ ?_
                    clear hK k0 f0 k1 f1 k2 f2
                    have hT := turns3 (w.heap.size + 1) Y1 (.bool g3) (.slice a3 x3.length c3) (.slice e3 y3.length t3)
                    replace R := R.beside E1 (noWord3 (fun _ e => by cases e) (fun _ e => by cases e) (fun _ e => by cases e)) hT (by first | exact RO1 | exact RO2 | exact RO3)
                    replace FC := FC.beside E1 (noWord3 (fun _ e => by cases e) (fun _ e => by cases e) (fun _ e => by cases e)) hT
                    replace FR1 := FR1.beside E1 (noWord3 (fun _ e => by cases e) (fun _ e => by cases e) (fun _ e => by cases e)) hT
                    replace E2 := E2.turns hT (by omega)
                    replace E3 := E3.turns hT (by omega)
                    replace F2 := F2.beside E1 (noWord3 (fun _ e => by cases e) (fun _ e => by cases e) (fun _ e => by cases e)) hT
                    replace F3 := F3.beside E1 (noWord3 (fun _ e => by cases e) (fun _ e => by cases e) (fun _ e => by cases e)) hT
                    replace E1 := E1.set3 (.bool g3) (.slice a3 x3.length c3) (.slice e3 y3.length t3)
                    have hr10 := hT.below
                    obtain ⟨X3, hX⟩ := nm hT.below
                    rw [hX] at R FC FR1 E1 E2 E3 F2 F3 hr10 ⊢
                    clear hX hT
                    refine wpAny_all (rs := [9]) (by kernel_rfl) (by simp) (fun i hi => ?_)
                    obtain rfl : i = 9 := by simpa using hi
                    clear hi
                    refine wpOp_step rfl (fun K hK => ?_)
                    simp only [lz1, lz2, lz3]
                    rw [if_pos (by rfl)]
                    go_simp
                    refine hK _ _ ?_
                    clear hK
                    refine wpAny_all (rs := [11]) (by kernel_rfl) (by simp) (fun i hi => ?_)
                    obtain rfl : i = 11 := by simpa using hi
                    clear hi
                    have hcc := E3.one
                    have k0 := hcc.1
                    have f0 := hcc.2
                    clear hcc
                    refine wpOp_step rfl (fun K hK => ?_)
                    simp only [lz1, lz2, lz3]
                    rw [if_pos (by rfl)]
                    go_simp
                    refine hK _ _ ?_
                    clear hK k0 f0
                    have hT := turns1 (kk) X3 (.int .i64 0)
                    replace R := R.beside E3 (noWord1 (fun _ e => by cases e)) hT (by first | exact RO1 | exact RO2 | exact RO3)
                    replace FC := FC.beside E3 (noWord1 (fun _ e => by cases e)) hT
                    replace FR1 := FR1.beside E3 (noWord1 (fun _ e => by cases e)) hT
                    replace E1 := E1.turns hT (by omega)
                    replace E2 := E2.turns hT (by omega)
                    replace F2 := F2.beside E3 (noWord1 (fun _ e => by cases e)) hT
                    replace F3 := F3.beside E3 (noWord1 (fun _ e => by cases e)) hT
                    replace E3 := E3.set1 (.int .i64 0)
                    have hr11 := hT.below
                    obtain ⟨X4, hX⟩ := nm hT.below
                    rw [hX] at R FC FR1 E1 E2 E3 F2 F3 hr11 ⊢
                    clear hX hT
                    refine wpAny_done (by kernel_rfl) ?_ _
                    replace hB := hB.trans ((Below.trans (Below.drew (Below.refl wr.heap.size wr)) hr).mono hB.size)
                    replace hB := hB.trans (hr10.mono (by omega))
                    replace hB := hB.trans (hr11.mono (by omega))
                    have zz0_4 := hr.size
                    have zi1 := hB.size
                    have zy4_10 := hr10.size
                    have zy4_11 := hr11.size
                    clear hr hr10 hr11
                    have hms : rs.length - (i + 1) < rs.length - i := by omega
                    go_wp2
                    refine ⟨⟨i + 1, 0, g3, a3, c3, x3, e3, t3, y3, by simp, by omega, R, E1, E2, E3, hB, FoldAt.next HM hr.out HU.out (F3.mono zB) P3 I3⟩, ?_⟩
                    simpa [intOf] using hms
                · clear hi
                  refine wpOp_step rfl (fun K hK => ?_)
                  simp only [lz1, lz2, lz3]
                  rw [if_pos (by rfl)]
                  go_simp
                  refine hK _ _ ?_
                  clear hK
                  refine wpAny_all (rs := [8]) (by kernel_rfl) (by simp) (fun i hi => ?_)
                  obtain rfl : i = 8 := by simpa using hi
                  clear hi
                  refine wpOp_step rfl (fun K hK => ?_)
                  simp only [lz1, lz2, lz3]
                  rw [if_pos (by rfl)]
                  go_simp
                  refine hK _ _ ?_
                  clear hK
                  refine wpAny_all (rs := [10]) (by kernel_rfl) (by simp) (fun i hi => ?_)
                  obtain rfl : i = 10 := by simpa using hi
                  clear hi
                  have hcc := E1.three
                  have k0 := hcc.1
                  have k1 := hcc.2.1
                  have k2 := hcc.2.2.1
                  have f0 := hcc.2.2.2.1
                  have f1 := hcc.2.2.2.2.1
                  have f2 := hcc.2.2.2.2.2
                  clear hcc
                  refine wpOp_step rfl (fun K hK => ?_)
                  simp only [lz1, lz2, lz3]
                  rw [if_pos (by rfl)]
                  go_simp
                  refine hK _ _ ?_
                  clear hK k0 f0 k1 f1 k2 f2
                  have hT := turns3 (w.heap.size + 1) Y1 (.bool g3) (.slice a3 x3.length c3) (.slice e3 y3.length t3)
                  replace R := R.beside E1 (noWord3 (fun _ e => by cases e) (fun _ e => by cases e) (fun _ e => by cases e)) hT (by first | exact RO1 | exact RO2 | exact RO3)
                  replace FC := FC.beside E1 (noWord3 (fun _ e => by cases e) (fun _ e => by cases e) (fun _ e => by cases e)) hT
                  replace FR1 := FR1.beside E1 (noWord3 (fun _ e => by cases e) (fun _ e => by cases e) (fun _ e => by cases e)) hT
                  replace E2 := E2.turns hT (by omega)
                  replace E3 := E3.turns hT (by omega)
                  replace F2 := F2.beside E1 (noWord3 (fun _ e => by cases e) (fun _ e => by cases e) (fun _ e => by cases e)) hT
                  replace F3 := F3.beside E1 (noWord3 (fun _ e => by cases e) (fun _ e => by cases e) (fun _ e => by cases e)) hT
                  replace E1 := E1.set3 (.bool g3) (.slice a3 x3.length c3) (.slice e3 y3.length t3)
                  have hr10 := hT.below
                  obtain ⟨X5, hX⟩ := nm hT.below
                  rw [hX] at R FC FR1 E1 E2 E3 F2 F3 hr10 ⊢
                  clear hX hT
                  refine wpAny_all (rs := [11]) (by kernel_rfl) (by simp) (fun i hi => ?_)
                  obtain rfl : i = 11 := by simpa using hi
                  clear hi
                  have hcc := E3.one
                  have k0 := hcc.1
                  have f0 := hcc.2
                  clear hcc
                  refine wpOp_step rfl (fun K hK => ?_)
                  simp only [lz1, lz2, lz3]
                  rw [if_pos (by rfl)]
                  go_simp
                  refine hK _ _ ?_
                  clear hK k0 f0
                  have hT := turns1 (kk) X5 (.int .i64 0)
                  replace R := R.beside E3 (noWord1 (fun _ e => by cases e)) hT (by first | exact RO1 | exact RO2 | exact RO3)
                  replace FC := FC.beside E3 (noWord1 (fun _ e => by cases e)) hT
                  replace FR1 := FR1.beside E3 (noWord1 (fun _ e => by cases e)) hT
                  replace E1 := E1.turns hT (by omega)
                  replace E2 := E2.turns hT (by omega)
                  replace F2 := F2.beside E3 (noWord1 (fun _ e => by cases e)) hT
                  replace F3 := F3.beside E3 (noWord1 (fun _ e => by cases e)) hT
                  replace E3 := E3.set1 (.int .i64 0)
                  have hr11 := hT.below
                  obtain ⟨X6, hX⟩ := nm hT.below
                  rw [hX] at R FC FR1 E1 E2 E3 F2 F3 hr11 ⊢
                  clear hX hT
                  refine wpAny_done (by kernel_rfl) ?_ _
                  replace hB := hB.trans ((Below.trans (Below.drew (Below.refl wr.heap.size wr)) hr).mono hB.size)
                  replace hB := hB.trans (hr10.mono (by omega))
                  replace hB := hB.trans (hr11.mono (by omega))
                  have zz0_6 := hr.size
                  have zi1 := hB.size
                  have zy6_10 := hr10.size
                  have zy6_11 := hr11.size
                  clear hr hr10 hr11
                  have hms : rs.length - (i + 1) < rs.length - i := by omega
                  go_wp2
                  refine ⟨⟨i + 1, 0, g3, a3, c3, x3, e3, t3, y3, by simp, by omega, R, E1, E2, E3, hB, FoldAt.next HM hr.out HU.out (F3.mono zB) P3 I3⟩, ?_⟩
                  simpa [intOf] using hms
          | none =>
              obtain ⟨k0, k1, k2, f0, f1, f2⟩ := E1.three
              obtain ⟨k3, f3⟩ := E2.one
              obtain ⟨k4, f4⟩ := E3.one
              go_wp2_with fail
              clear k0 k1 k2 f0 f1 f2 k3 f3 k4 f4
              replace R := R.drew
              replace FC := FC.drew
              replace FR1 := FR1.drew
              have qE1 := E1.lt
              replace E1 := E1.drew
              have qE2 := E2.lt
              replace E2 := E2.drew
              have qE3 := E3.lt
              replace E3 := E3.drew
              refine wp_yields 8 [.is (.func (.func J) #[] #[]), .is (.agg #[.bool b1, .slice a1 x1.length n1, .slice e1 y1.length m1]), .is (.slice (some ⟨g, o, none⟩) rs.length cap), .is (.int .i64 i), .is (.pointer (some ⟨g, o + i * 3, none⟩)), .is (.agg #[.bool r.b, .slice r.a r.xs.length r.ca, .slice r.c r.ds.length r.cc]), (.is (.tuple #[.agg #[.bool false, .slice none 0 0, .slice none 0 0], .int .i64 5])), .is (.tuple #[.agg #[.bool false, .slice none 0 0, .slice none 0 0], .int .i64 5])] (by kernel_rfl) (by kernel_rfl) (lt_cons ?_ (lt_cons ?_ (lt_cons ?_ (lt_cons ?_ (lt_cons ?_ (lt_cons ?_ (lt_cons ?_ (lt_cons ?_ lt_nil)))))))) ?_
              case refine_1 =>
                refine OpDoes.mk rfl ?_
                intro vs V hV hd K hK
                have d6 : vs 6 = .tuple #[.agg #[.bool false, .slice none 0 0, .slice none 0 0], .int .i64 5] := hd 6 (by decide) (by kernel_rfl)
                simp only [laidIn, lz1, lz2, lz3, lz4, lz5, lz6, if_true, Act.put, lz7, lz8, lz9] at hK ⊢
                simp only [d6] at hK ⊢
                go_simp
                exact hK.out _ _ (Below.refl _ _) rfl (not_fresh rfl)
              case refine_2 =>
                refine OpDoes.mk rfl ?_
                intro vs V hV hd K hK
                have d0 : vs 0 = .func (.func J) #[] #[] := hd 0 (by decide) (by kernel_rfl)
                have d1 : vs 1 = .agg #[.bool b1, .slice a1 x1.length n1, .slice e1 y1.length m1] := hd 1 (by decide) (by kernel_rfl)
                have d5 : vs 5 = .agg #[.bool r.b, .slice r.a r.xs.length r.ca, .slice r.c r.ds.length r.cc] := hd 5 (by decide) (by kernel_rfl)
                simp only [laidIn, lz1, lz2, lz3, lz4, lz5, lz6, if_true, Act.put, lz7, lz8, lz9] at hK ⊢
                simp only [d0, d1, d5] at hK ⊢
                go_simp
                refine (hJn V b1 a1 n1 x1 e1 m1 y1 q1 (n + i * (m + 1)) r (FC.below hV) (FR1.below hV) I1 I2 hbd HU.out).mono ?_
                rintro e V' ⟨rfl, hb⟩
                exact hK.out _ _ hb rfl (not_fresh rfl)
              case refine_3 =>
                refine OpDoes.mk rfl ?_
                intro vs V hV hd K hK
                have d4 : vs 4 = .pointer (some ⟨g, o + i * 3, none⟩) := hd 4 (by decide) (by kernel_rfl)
                have hcc := (R.below hV).cells g o i r rfl hr.out
                have k0 := hcc.1
                have k1 := hcc.2.1
                have k2 := hcc.2.2
                clear hcc
                simp only [laidIn, lz1, lz2, lz3, lz4, lz5, lz6, if_true, Act.put, lz7, lz8, lz9] at hK ⊢
                simp only [d4] at hK ⊢
                go_simp
                exact hK.out _ _ (Below.refl _ _) rfl (not_fresh rfl)
              case refine_4 =>
                refine OpDoes.mk rfl ?_
                intro vs V hV hd K hK
                have d2 : vs 2 = .slice (some ⟨g, o, none⟩) rs.length cap := hd 2 (by decide) (by kernel_rfl)
                have d3 : vs 3 = .int .i64 i := hd 3 (by decide) (by kernel_rfl)
                simp only [laidIn, lz1, lz2, lz3, lz4, lz5, lz6, if_true, Act.put, lz7, lz8, lz9] at hK ⊢
                simp only [d2, d3] at hK ⊢
                go_simp
                exact hK.out _ _ (Below.refl _ _) rfl (not_fresh rfl)
              case refine_5 =>
                refine OpDoes.mk rfl ?_
                intro vs V hV hd K hK
                simp only [laidIn, lz1, lz2, lz3, lz4, lz5, lz6, if_true, Act.put, lz7, lz8, lz9] at hK ⊢
                go_simp
                exact hK.out _ _ (Below.refl _ _) rfl (not_fresh rfl)
              case refine_6 =>
                refine OpDoes.mk rfl ?_
                intro vs V hV hd K hK
                simp only [laidIn, lz1, lz2, lz3, lz4, lz5, lz6, if_true, Act.put, lz7, lz8, lz9] at hK ⊢
                go_simp
                exact hK.out _ _ (Below.refl _ _) rfl (not_fresh rfl)
              case refine_7 =>
                refine OpDoes.mk rfl ?_
                intro vs V hV hd K hK
                have hcc := (E1.below hV).three
                have k0 := hcc.1
                have k1 := hcc.2.1
                have k2 := hcc.2.2.1
                clear hcc
                simp only [laidIn, lz1, lz2, lz3, lz4, lz5, lz6, if_true, Act.put, lz7, lz8, lz9] at hK ⊢
                go_simp
                exact hK.out _ _ (Below.refl _ _) rfl (not_fresh rfl)
              case refine_8 =>
                refine OpDoes.mk rfl ?_
                intro vs V hV hd K hK
                simp only [laidIn, lz1, lz2, lz4, lz5, lz6, if_true, Act.put, lz7, lz8, lz9] at hK ⊢
                go_simp
                exact hK.out _ _ (Below.refl _ _) rfl (not_fresh rfl)
              case refine_9 =>
                intro vs Y1 hV hR hne fuel
                have d0 : vs 0 = .func (.func J) #[] #[] := hR 0 (by decide)
                have d1 : vs 1 = .agg #[.bool b1, .slice a1 x1.length n1, .slice e1 y1.length m1] := hR 1 (by decide)
                have d2 : vs 2 = .slice (some ⟨g, o, none⟩) rs.length cap := hR 2 (by decide)
                have d3 : vs 3 = .int .i64 i := hR 3 (by decide)
                have d4 : vs 4 = .pointer (some ⟨g, o + i * 3, none⟩) := hR 4 (by decide)
                have d5 : vs 5 = .agg #[.bool r.b, .slice r.a r.xs.length r.ca, .slice r.c r.ds.length r.cc] := hR 5 (by decide)
                have d6 : vs 6 = .tuple #[.agg #[.bool false, .slice none 0 0, .slice none 0 0], .int .i64 5] := hR 6 (by decide)
                have d7 : vs 7 = .tuple #[.agg #[.bool false, .slice none 0 0, .slice none 0 0], .int .i64 5] := hR 7 (by decide)
                replace R := R.below hV
                replace FC := FC.below hV
                replace FR1 := FR1.below hV
                replace E1 := E1.below hV
                replace E2 := E2.below hV
                replace E3 := E3.below hV
                have hr := hV
                simp only [laidIn, lz4, lz5, lz6, if_true, Act.put, lz7, lz8, lz9]
                simp only [d0, d1, d2, d3, d4, d5, d6, d7]
                clear hR hne hV d0 d1 d2 d3 d4 d5 d6 d7
                clear vs
                show wpAny _ _ _ _ (fuel + 4) _ _ _
                refine wpAny_all (rs := [8, 9]) (by kernel_rfl) (by simp) (fun i hi => ?_)
                rcases (show i = 8 ∨ i = 9 by simpa using hi) with rfl | rfl
                · clear hi
                  refine wpOp_step rfl (fun K hK => ?_)
                  simp only [lz1, lz2, lz3]
                  rw [if_pos (by rfl)]
                  go_simp
                  refine hK _ _ ?_
                  clear hK
                  refine wpAny_all (rs := [9, 10]) (by kernel_rfl) (by simp) (fun i hi => ?_)
                  rcases (show i = 9 ∨ i = 10 by simpa using hi) with rfl | rfl
                  · clear hi
                    refine wpOp_step rfl (fun K hK => ?_)
                    simp only [lz1, lz2, lz3]
                    rw [if_pos (by rfl)]
                    go_simp
                    refine hK _ _ ?_
                    clear hK
                    refine wpAny_all (rs := [10]) (by kernel_rfl) (by simp) (fun i hi => ?_)
                    obtain rfl : i = 10 := by simpa using hi
                    clear hi
                    have hcc := E1.three
                    have k0 := hcc.1
                    have k1 := hcc.2.1
                    have k2 := hcc.2.2.1
                    have f0 := hcc.2.2.2.1
                    have f1 := hcc.2.2.2.2.1
                    have f2 := hcc.2.2.2.2.2
                    clear hcc
                    refine wpOp_step rfl (fun K hK => ?_)
                    simp only [lz1, lz2, lz3]
                    rw [if_pos (by rfl)]
                    go_simp
                    refine hK _ _ ?_
                    clear hK k0 f0 k1 f1 k2 f2
                    have hT := turns3 (w.heap.size + 1) Y1 (.bool false) (.slice none 0 0) (.slice none 0 0)
                    replace R := R.beside E1 (noWord3 (fun _ e => by cases e) (fun _ e => by cases e) (fun _ e => by cases e)) hT (by first | exact RO1 | exact RO2 | exact RO3)
                    replace FC := FC.beside E1 (noWord3 (fun _ e => by cases e) (fun _ e => by cases e) (fun _ e => by cases e)) hT
                    replace FR1 := FR1.beside E1 (noWord3 (fun _ e => by cases e) (fun _ e => by cases e) (fun _ e => by cases e)) hT
                    replace E2 := E2.turns hT (by omega)
                    replace E3 := E3.turns hT (by omega)
                    replace E1 := E1.set3 (.bool false) (.slice none 0 0) (.slice none 0 0)
                    have hr10 := hT.below
                    obtain ⟨X1, hX⟩ := nm hT.below
                    rw [hX] at R FC FR1 E1 E2 E3 hr10 ⊢
                    clear hX hT
                    refine wpAny_all (rs := [11]) (by kernel_rfl) (by simp) (fun i hi => ?_)
                    obtain rfl : i = 11 := by simpa using hi
                    clear hi
                    have hcc := E3.one
                    have k0 := hcc.1
                    have f0 := hcc.2
                    clear hcc
                    refine wpOp_step rfl (fun K hK => ?_)
                    simp only [lz1, lz2, lz3]
                    rw [if_pos (by rfl)]
                    go_simp
                    refine hK _ _ ?_
                    clear hK k0 f0
                    have hT := turns1 (kk) X1 (.int .i64 5)
                    replace R := R.beside E3 (noWord1 (fun _ e => by cases e)) hT (by first | exact RO1 | exact RO2 | exact RO3)
                    replace FC := FC.beside E3 (noWord1 (fun _ e => by cases e)) hT
                    replace FR1 := FR1.beside E3 (noWord1 (fun _ e => by cases e)) hT
                    replace E1 := E1.turns hT (by omega)
                    replace E2 := E2.turns hT (by omega)
                    replace E3 := E3.set1 (.int .i64 5)
                    have hr11 := hT.below
                    obtain ⟨X2, hX⟩ := nm hT.below
                    rw [hX] at R FC FR1 E1 E2 E3 hr11 ⊢
                    clear hX hT
                    refine wpAny_done (by kernel_rfl) ?_ _
                    replace hB := hB.trans ((Below.trans (Below.drew (Below.refl wr.heap.size wr)) hr).mono hB.size)
                    replace hB := hB.trans (hr10.mono (by omega))
                    replace hB := hB.trans (hr11.mono (by omega))
                    have zz0_2 := hr.size
                    have zi1 := hB.size
                    have zy2_10 := hr10.size
                    have zy2_11 := hr11.size
                    clear hr hr10 hr11
                    have hms : rs.length - (i + 1) < rs.length - i := by omega
                    go_wp2
                    refine ⟨⟨i + 1, 5, false, none, 0, [], none, 0, [], by simp, by omega, R, E1, E2, E3, hB, FoldAt.stop HM hr.out HU.out⟩, ?_⟩
                    simpa [intOf] using hms
                  · clear hi
                    have hcc := E1.three
                    have k0 := hcc.1
                    have k1 := hcc.2.1
                    have k2 := hcc.2.2.1
                    have f0 := hcc.2.2.2.1
                    have f1 := hcc.2.2.2.2.1
                    have f2 := hcc.2.2.2.2.2
                    clear hcc
                    refine wpOp_step rfl (fun K hK => ?_)
                    simp only [lz1, lz2, lz3]
                    rw [if_pos (by rfl)]
                    go_simp
                    refine hK _ _ ?_
                    clear hK k0 f0 k1 f1 k2 f2
                    have hT := turns3 (w.heap.size + 1) Y1 (.bool false) (.slice none 0 0) (.slice none 0 0)
                    replace R := R.beside E1 (noWord3 (fun _ e => by cases e) (fun _ e => by cases e) (fun _ e => by cases e)) hT (by first | exact RO1 | exact RO2 | exact RO3)
                    replace FC := FC.beside E1 (noWord3 (fun _ e => by cases e) (fun _ e => by cases e) (fun _ e => by cases e)) hT
                    replace FR1 := FR1.beside E1 (noWord3 (fun _ e => by cases e) (fun _ e => by cases e) (fun _ e => by cases e)) hT
                    replace E2 := E2.turns hT (by omega)
                    replace E3 := E3.turns hT (by omega)
                    replace E1 := E1.set3 (.bool false) (.slice none 0 0) (.slice none 0 0)
                    have hr10 := hT.below
                    obtain ⟨X3, hX⟩ := nm hT.below
                    rw [hX] at R FC FR1 E1 E2 E3 hr10 ⊢
                    clear hX hT
                    refine wpAny_all (rs := [9]) (by kernel_rfl) (by simp) (fun i hi => ?_)
                    obtain rfl : i = 9 := by simpa using hi
                    clear hi
                    refine wpOp_step rfl (fun K hK => ?_)
                    simp only [lz1, lz2, lz3]
                    rw [if_pos (by rfl)]
                    go_simp
                    refine hK _ _ ?_
                    clear hK
                    refine wpAny_all (rs := [11]) (by kernel_rfl) (by simp) (fun i hi => ?_)
                    obtain rfl : i = 11 := by simpa using hi
                    clear hi
                    have hcc := E3.one
                    have k0 := hcc.1
                    have f0 := hcc.2
                    clear hcc
                    refine wpOp_step rfl (fun K hK => ?_)
                    simp only [lz1, lz2, lz3]
                    rw [if_pos (by rfl)]
                    go_simp
                    refine hK _ _ ?_
                    clear hK k0 f0
                    have hT := turns1 (kk) X3 (.int .i64 5)
                    replace R := R.beside E3 (noWord1 (fun _ e => by cases e)) hT (by first | exact RO1 | exact RO2 | exact RO3)
                    replace FC := FC.beside E3 (noWord1 (fun _ e => by cases e)) hT
                    replace FR1 := FR1.beside E3 (noWord1 (fun _ e => by cases e)) hT
                    replace E1 := E1.turns hT (by omega)
                    replace E2 := E2.turns hT (by omega)
                    replace E3 := E3.set1 (.int .i64 5)
                    have hr11 := hT.below
                    obtain ⟨X4, hX⟩ := nm hT.below
                    rw [hX] at R FC FR1 E1 E2 E3 hr11 ⊢
                    clear hX hT
                    refine wpAny_done (by kernel_rfl) ?_ _
                    replace hB := hB.trans ((Below.trans (Below.drew (Below.refl wr.heap.size wr)) hr).mono hB.size)
                    replace hB := hB.trans (hr10.mono (by omega))
                    replace hB := hB.trans (hr11.mono (by omega))
                    have zz0_4 := hr.size
                    have zi1 := hB.size
                    have zy4_10 := hr10.size
                    have zy4_11 := hr11.size
                    clear hr hr10 hr11
                    have hms : rs.length - (i + 1) < rs.length - i := by omega
                    go_wp2
                    refine ⟨⟨i + 1, 5, false, none, 0, [], none, 0, [], by simp, by omega, R, E1, E2, E3, hB, FoldAt.stop HM hr.out HU.out⟩, ?_⟩
                    simpa [intOf] using hms
                · clear hi
                  refine wpOp_step rfl (fun K hK => ?_)
                  simp only [lz1, lz2, lz3]
                  rw [if_pos (by rfl)]
                  go_simp
                  refine hK _ _ ?_
                  clear hK
                  refine wpAny_all (rs := [8]) (by kernel_rfl) (by simp) (fun i hi => ?_)
                  obtain rfl : i = 8 := by simpa using hi
                  clear hi
                  refine wpOp_step rfl (fun K hK => ?_)
                  simp only [lz1, lz2, lz3]
                  rw [if_pos (by rfl)]
                  go_simp
                  refine hK _ _ ?_
                  clear hK
                  refine wpAny_all (rs := [10]) (by kernel_rfl) (by simp) (fun i hi => ?_)
                  obtain rfl : i = 10 := by simpa using hi
                  clear hi
                  have hcc := E1.three
                  have k0 := hcc.1
                  have k1 := hcc.2.1
                  have k2 := hcc.2.2.1
                  have f0 := hcc.2.2.2.1
                  have f1 := hcc.2.2.2.2.1
                  have f2 := hcc.2.2.2.2.2
                  clear hcc
                  refine wpOp_step rfl (fun K hK => ?_)
                  simp only [lz1, lz2, lz3]
                  rw [if_pos (by rfl)]
                  go_simp
                  refine hK _ _ ?_
                  clear hK k0 f0 k1 f1 k2 f2
                  have hT := turns3 (w.heap.size + 1) Y1 (.bool false) (.slice none 0 0) (.slice none 0 0)
                  replace R := R.beside E1 (noWord3 (fun _ e => by cases e) (fun _ e => by cases e) (fun _ e => by cases e)) hT (by first | exact RO1 | exact RO2 | exact RO3)
                  replace FC := FC.beside E1 (noWord3 (fun _ e => by cases e) (fun _ e => by cases e) (fun _ e => by cases e)) hT
                  replace FR1 := FR1.beside E1 (noWord3 (fun _ e => by cases e) (fun _ e => by cases e) (fun _ e => by cases e)) hT
                  replace E2 := E2.turns hT (by omega)
                  replace E3 := E3.turns hT (by omega)
                  replace E1 := E1.set3 (.bool false) (.slice none 0 0) (.slice none 0 0)
                  have hr10 := hT.below
                  obtain ⟨X5, hX⟩ := nm hT.below
                  rw [hX] at R FC FR1 E1 E2 E3 hr10 ⊢
                  clear hX hT
                  refine wpAny_all (rs := [11]) (by kernel_rfl) (by simp) (fun i hi => ?_)
                  obtain rfl : i = 11 := by simpa using hi
                  clear hi
                  have hcc := E3.one
                  have k0 := hcc.1
                  have f0 := hcc.2
                  clear hcc
                  refine wpOp_step rfl (fun K hK => ?_)
                  simp only [lz1, lz2, lz3]
                  rw [if_pos (by rfl)]
                  go_simp
                  refine hK _ _ ?_
                  clear hK k0 f0
                  have hT := turns1 (kk) X5 (.int .i64 5)
                  replace R := R.beside E3 (noWord1 (fun _ e => by cases e)) hT (by first | exact RO1 | exact RO2 | exact RO3)
                  replace FC := FC.beside E3 (noWord1 (fun _ e => by cases e)) hT
                  replace FR1 := FR1.beside E3 (noWord1 (fun _ e => by cases e)) hT
                  replace E1 := E1.turns hT (by omega)
                  replace E2 := E2.turns hT (by omega)
                  replace E3 := E3.set1 (.int .i64 5)
                  have hr11 := hT.below
                  obtain ⟨X6, hX⟩ := nm hT.below
                  rw [hX] at R FC FR1 E1 E2 E3 hr11 ⊢
                  clear hX hT
                  refine wpAny_done (by kernel_rfl) ?_ _
                  replace hB := hB.trans ((Below.trans (Below.drew (Below.refl wr.heap.size wr)) hr).mono hB.size)
                  replace hB := hB.trans (hr10.mono (by omega))
                  replace hB := hB.trans (hr11.mono (by omega))
                  have zz0_6 := hr.size
                  have zi1 := hB.size
                  have zy6_10 := hr10.size
                  have zy6_11 := hr11.size
                  clear hr hr10 hr11
                  have hms : rs.length - (i + 1) < rs.length - i := by omega
                  go_wp2
                  refine ⟨⟨i + 1, 5, false, none, 0, [], none, 0, [], by simp, by omega, R, E1, E2, E3, hB, FoldAt.stop HM hr.out HU.out⟩, ?_⟩
                  simpa [intOf] using hms
        · have HFin := HF.fin (by omega) hgo
          clear hgo
          by_cases hy : y = 0
          · subst hy
            have hnl : ¬ (i : Int) < (rs.length : Int) := by have := HFin.atEnd rfl; omega
            obtain ⟨k0, k1, k2, f0, f1, f2⟩ := E1.three
            obtain ⟨k3, f3⟩ := E2.one
            obtain ⟨k4, f4⟩ := E3.one
            have hmv := fun (F : Fr w.heap.size wr a1 n1 x1 e1 m1 y1) => (F.beside E1 (noWord3 (fun _ e => by cases e) (fun _ e => by cases e) (fun _ e => by cases e)) (turns3 (w.heap.size + 1) wr (.bool b1) (.slice a1 x1.length n1) (.slice e1 y1.length m1))).beside (E2.turns (turns3 (w.heap.size + 1) wr (.bool b1) (.slice a1 x1.length n1) (.slice e1 y1.length m1)) (by omega)) (noWord1 (fun _ e => by cases e)) (turns1 (w.heap.size + 1 + 1) _ (.int .i64 0))
            have hA := Below.refl wr.heap.size wr
            have hT := turns3 (w.heap.size + 1) wr (.bool b1) (.slice a1 x1.length n1) (.slice e1 y1.length m1)
            replace E2 := E2.turns hT (by omega)
            replace E3 := E3.turns hT (by omega)
            replace E1 := Box.set3 (.bool b1) (.slice a1 x1.length n1) (.slice e1 y1.length m1) E1
            replace hB := hB.trans (hT.below.mono (by omega))
            clear hT
            have hT := ((Turns.refl (w.heap.size + 1 + 1) (((wr.setCell ⟨w.heap.size + 1, 0, none⟩ (.bool b1)).setCell ⟨w.heap.size + 1, 1, none⟩ (.slice a1 x1.length n1)).setCell ⟨w.heap.size + 1, 2, none⟩ (.slice e1 y1.length m1))).setCell 0 (.int .i64 0))
            replace E1 := E1.turns hT (by omega)
            replace E3 := E3.turns hT (by omega)
            replace E2 : Box ((((wr.setCell ⟨w.heap.size + 1, 0, none⟩ (.bool b1)).setCell ⟨w.heap.size + 1, 1, none⟩ (.slice a1 x1.length n1)).setCell ⟨w.heap.size + 1, 2, none⟩ (.slice e1 y1.length m1)).setCell ⟨w.heap.size + 1 + 1, 0, none⟩ (.int .i64 0)) (w.heap.size + 1 + 1) (.cells #[.int .i64 0] 32) := ⟨Nat.lt_of_lt_of_le E2.lt hT.below.size, (heap_setCell_same _ _ 0 _ _ _ E2.what)⟩
            replace hB := hB.trans (hT.below.mono (by omega))
            clear hT
            clear hA
            go_wp2
            refine leaves_cons (f := 44) (args := #[.pointer (some ⟨kk, 0, none⟩), .pointer (some ⟨w.heap.size + 1, 0, none⟩), .pointer (some ⟨w.heap.size + 1 + 1, 0, none⟩)]) (by simp) (by simp [go_sem]) ?_
            have hE3 := E3.one.1
            refine (fold1_ok kk _ _ .returning _ hE3).mono ?_
            rintro e u' w'' ⟨rfl, rfl, rfl⟩
            have hcc := E1.three
            have r0 := hcc.1
            have r1 := hcc.2.1
            have r2 := hcc.2.2.1
            have s0 := E2.one.1
            clear hcc
            simp [Leaves, settle, results, Tryz.results21, go_sem, r0, r1, r2, s0]
            obtain ⟨hAG, t, ht, hIt, hmem⟩ := HFin.ok rfl
            refine ⟨Or.inl ⟨hAG, t, ht, _, _, _, _, _, _, _, rfl, hIt, ?_⟩, hB⟩
            rcases hmem with h | ⟨h1, h2⟩
            · exact Or.inl h
            · exact Or.inr ⟨hmv h1, h2⟩
          · have hyn : (y == 0) = false := beq_eq_false_iff_ne.2 hy
            obtain ⟨k0, k1, k2, f0, f1, f2⟩ := E1.three
            obtain ⟨k3, f3⟩ := E2.one
            obtain ⟨k4, f4⟩ := E3.one
            have hA := Below.refl wr.heap.size wr
            have hT := turns3 (w.heap.size + 1) wr (.bool b1) (.slice a1 x1.length n1) (.slice e1 y1.length m1)
            replace E2 := E2.turns hT (by omega)
            replace E3 := E3.turns hT (by omega)
            replace E1 := Box.set3 (.bool b1) (.slice a1 x1.length n1) (.slice e1 y1.length m1) E1
            replace hB := hB.trans (hT.below.mono (by omega))
            clear hT
            have hT := ((Turns.refl (w.heap.size + 1 + 1) (((wr.setCell ⟨w.heap.size + 1, 0, none⟩ (.bool b1)).setCell ⟨w.heap.size + 1, 1, none⟩ (.slice a1 x1.length n1)).setCell ⟨w.heap.size + 1, 2, none⟩ (.slice e1 y1.length m1))).setCell 0 (.int .i64 0))
            replace E1 := E1.turns hT (by omega)
            replace E3 := E3.turns hT (by omega)
            replace E2 : Box ((((wr.setCell ⟨w.heap.size + 1, 0, none⟩ (.bool b1)).setCell ⟨w.heap.size + 1, 1, none⟩ (.slice a1 x1.length n1)).setCell ⟨w.heap.size + 1, 2, none⟩ (.slice e1 y1.length m1)).setCell ⟨w.heap.size + 1 + 1, 0, none⟩ (.int .i64 0)) (w.heap.size + 1 + 1) (.cells #[.int .i64 0] 32) := ⟨Nat.lt_of_lt_of_le E2.lt hT.below.size, (heap_setCell_same _ _ 0 _ _ _ E2.what)⟩
            replace hB := hB.trans (hT.below.mono (by omega))
            clear hT
            clear hA
            go_wp2
            refine leaves_cons (f := 44) (args := #[.pointer (some ⟨kk, 0, none⟩), .pointer (some ⟨w.heap.size + 1, 0, none⟩), .pointer (some ⟨w.heap.size + 1 + 1, 0, none⟩)]) (by simp) (by simp [go_sem]) ?_
            have hE3 := E3.one.1
            have hcc := E1.three
            have s0 := E2.one
            refine (fold1_no kk (w.heap.size + 1) y (by simp [hyn, bne]) .returning _ hE3 _ _ _ _ hcc.1 hcc.2.1 hcc.2.2.1 s0.1 hcc.2.2.2.1 hcc.2.2.2.2.1 hcc.2.2.2.2.2 s0.2).mono ?_
            rintro e u' w'' ⟨rfl, rfl, rfl⟩
            have r0 := hcc.1
            have r1 := hcc.2.1
            have r2 := hcc.2.2.1
            have s1 := s0.1
            clear hcc s0
            simp [Leaves, settle, results, Tryz.results21, go_sem, r0, r1, r2, s1]
            refine ⟨?_, (hB.trans ((turns3 (w.heap.size + 1) _ (.bool false) (.slice none 0 0) (.slice none 0 0)).below.mono (by omega))).trans ((turns1 (w.heap.size + 1 + 1) _ (.int .i64 y)).below.mono (by omega))⟩
            rcases HFin.no hy with ⟨h1, h2, h3⟩ | ⟨h1, h2⟩
            · exact Or.inr (Or.inl ⟨h1, h3, by rw [h2]⟩)
            · exact Or.inr (Or.inr ⟨h1, by rw [h2]⟩)
set_option maxRecDepth 100000 in
set_option maxHeartbeats 4000000 in
theorem product_any {lo lo2 : Nat} {a c p r : Option Addr} {ca cc cp cr : Nat} {xs ds ys es : List Int} {w : World} {n m : Nat} {q s : Rat} (b g : Bool) (FA : Fr lo w a ca xs c cc ds) (FB : Fr lo2 w p cp ys r cr es) (IA : Is b xs ds q n) (IB : Is g ys es s m) (hn : n + m ≤ 400) :
    Calls Tryz.prog 28 #[.agg #[.bool b, .slice a xs.length ca, .slice c ds.length cc], .agg #[.bool g, .slice p ys.length cp, .slice r es.length cr]] w fun e w' => ∃ (b' : Bool) (a' : Option Addr) (ca' : Nat) (ts' : List Int) (c' : Option Addr) (cc' : Nat) (es' : List Int), e = .returned (.tuple #[.agg #[.bool b', .slice a' ts'.length ca', .slice c' es'.length cc'], .int .i64 0]) ∧ Fr w.heap.size w' a' ca' ts' c' cc' es' ∧ Apart a' c' ts' es' ∧ Is b' ts' es' (q * s) (n + m) ∧ Below w.heap.size w w' := by
  obtain ⟨LA, QA, lxa, lda⟩ := IA
  obtain ⟨LB, QB, lxb, ldb⟩ := IB
  have px := val_nonneg FA.up.words
  have pd := LA.2.2.1
  have py := val_nonneg FB.up.words
  have pe := LB.2.2.1
  have HQA := hide QA
  have HQB := hide QB
  clear QA QB
  have hB := Below.refl w.heap.size w
  have WX := FA.up.words
  have WY := FB.up.words
  go_enter Tryz.func28, Tryz.ntmps28
  have hA := Below.refl w.heap.size w
  have hq := below_new w (.cells #[.bool b, .slice a xs.length ca, .slice c ds.length cc] 30)
  replace FA := FA.below hq
  replace FB := FB.below hq
  have EA := Box.put (w := w) (k := (w.heap.size)) (.cells #[.bool b, .slice a xs.length ca, .slice c ds.length cc] 30) rfl
  replace hA := hA.trans (hq.mono hA.size)
  replace hB := hB.trans (hq.mono hB.size)
  clear hq
  have hq := below_new (w.alloc (.cells #[.bool b, .slice a xs.length ca, .slice c ds.length cc] 30)) (.cells #[.bool g, .slice p ys.length cp, .slice r es.length cr] 30)
  replace FA := FA.below hq
  replace FB := FB.below hq
  replace EA := EA.below hq
  have EB := Box.put (w := (w.alloc (.cells #[.bool b, .slice a xs.length ca, .slice c ds.length cc] 30))) (k := (w.heap.size + 1)) (.cells #[.bool g, .slice p ys.length cp, .slice r es.length cr] 30) (by simp)
  replace hA := hA.trans (hq.mono hA.size)
  replace hB := hB.trans (hq.mono hB.size)
  clear hq
  have hq := below_new ((w.alloc (.cells #[.bool b, .slice a xs.length ca, .slice c ds.length cc] 30)).alloc (.cells #[.bool g, .slice p ys.length cp, .slice r es.length cr] 30)) (.cells #[.bool false, .slice none 0 0, .slice none 0 0] 30)
  replace FA := FA.below hq
  replace FB := FB.below hq
  replace EA := EA.below hq
  replace EB := EB.below hq
  have ER := Box.put (w := ((w.alloc (.cells #[.bool b, .slice a xs.length ca, .slice c ds.length cc] 30)).alloc (.cells #[.bool g, .slice p ys.length cp, .slice r es.length cr] 30))) (k := (w.heap.size + 2)) (.cells #[.bool false, .slice none 0 0, .slice none 0 0] 30) (by simp)
  replace hA := hA.trans (hq.mono hA.size)
  replace hB := hB.trans (hq.mono hB.size)
  clear hq
  clear hA
  go_wp2_with fail
  obtain ⟨u1, hname⟩ := nm hB
  rw [hname] at hB FA FB EA EB ER ⊢
  have zh1 := hB.size
  clear hname
  refine (lowest_any FA.up FB.down (by omega) (by omega) pe).mono ?_
  rintro e w2 ⟨a1, a2, c1, c2, z1, z2, rfl, Fz, N1, N2, V1, V2, b1, b2, P1, hb⟩
  have S1 := Fz.up
  have S2 := Fz.down
  clear Fz P1
  replace FA := FA.below hb
  replace FB := FB.below hb
  replace EA := EA.below hb
  replace EB := EB.below hb
  replace ER := ER.below hb
  replace hB := hB.trans (hb.mono hB.size)
  have zz2 := hb.size
  have zh2 := hB.size
  clear hb
  obtain ⟨k0, k1, k2, f0, f1, f2⟩ := EA.three
  obtain ⟨k3, k4, k5, f3, f4, f5⟩ := EB.three
  obtain ⟨k6, k7, k8, f6, f7, f8⟩ := ER.three
  go_wp2_with fail
  clear k0 k1 k2 f0 f1 f2 k3 k4 k5 f3 f4 f5 k6 k7 k8 f6 f7 f8
  refine (lowest_any FB.up FA.down (by omega) (by omega) pd).mono ?_
  rintro e w3 ⟨a3, a4, c3, c4, z3, z4, rfl, Fz, N3, N4, V3, V4, b3, b4, P3, hb⟩
  have S3 := Fz.up
  have S4 := Fz.down
  clear Fz P3
  replace FA := FA.below hb
  replace FB := FB.below hb
  replace EA := EA.below hb
  replace EB := EB.below hb
  replace ER := ER.below hb
  replace S1 := S1.below hb
  replace S2 := S2.below hb
  replace hB := hB.trans (hb.mono hB.size)
  have zz3 := hb.size
  have zh3 := hB.size
  clear hb
  obtain ⟨k0, k1, k2, f0, f1, f2⟩ := EA.three
  obtain ⟨k3, k4, k5, f3, f4, f5⟩ := EB.three
  obtain ⟨k6, k7, k8, f6, f7, f8⟩ := ER.three
  go_wp2_with fail
  clear k0 k1 k2 f0 f1 f2 k3 k4 k5 f3 f4 f5 k6 k7 k8 f6 f7 f8
  replace FA := FA.drew
  replace FB := FB.drew
  have qEA := EA.lt
  replace EA := EA.drew
  have qEB := EB.lt
  replace EB := EB.drew
  have qER := ER.lt
  replace ER := ER.drew
  replace S1 := S1.drew
  replace S2 := S2.drew
  replace S3 := S3.drew
  replace S4 := S4.drew
  refine wp_yields 12 [.is (.pointer (some ⟨w.heap.size, 0, none⟩)), .is (.pointer (some ⟨w.heap.size, 0, none⟩)), .is (.bool b), .is (.pointer (some ⟨w.heap.size + 1, 0, none⟩)), .is (.pointer (some ⟨w.heap.size + 1, 0, none⟩)), .is (.bool g), .is (.bool (b != g)), .is (.slice a1 z1.length c1), .is (.slice a3 z3.length c3), (Yield.nat w3.heap.size (val z1 * val z3) (n + m)), (Yield.int w3.heap.size (sgn (b != g) (val z1 * val z3)) (n + m)), (.new w3.heap.size (.cells #[.bool false, .slice none 0 0] 28))] (by kernel_rfl) (by kernel_rfl) (lt_cons ?_ (lt_cons ?_ (lt_cons ?_ (lt_cons ?_ (lt_cons ?_ (lt_cons ?_ (lt_cons ?_ (lt_cons ?_ (lt_cons ?_ (lt_cons ?_ (lt_cons ?_ (lt_cons ?_ lt_nil)))))))))))) ?_
  case refine_1 =>
    refine OpDoes.mk rfl ?_
    intro vs V hV hd K hK
    simp only [laidIn, lz1, lz2, lz3, lz4, lz5, lz6, if_true, Act.put, lz7, lz8, lz9] at hK ⊢
    go_simp
    exact hK.out _ _ ((Below.refl _ _).a1 _) ⟨_, rfl, Box.new _ _, hV.size⟩ (fresh_apart _ _ (fresh_new _))
  case refine_2 =>
    refine OpDoes.mk rfl ?_
    intro vs V hV hd K hK
    have d6 : vs 6 = .bool (b != g) := hd 6 (by decide) (by kernel_rfl)
    have hh := fun (P : Prop) => Yield.nat_elim P (show ((Yield.nat w3.heap.size (val z1 * val z3) (n + m)) : Yield).At (vs 9) V from hd 9 (by decide) (by kernel_rfl))
    refine hh _ ?_
    intro a5 c5 z5 d9 S5 N5 V5 b5
    clear hh
    simp only [laidIn, lz1, lz2, lz3, lz4, lz5, lz6, if_true, Act.put, lz7, lz8, lz9] at hK ⊢
    simp only [d6, d9] at hK ⊢
    go_simp
    go_at_call 56
    refine (smake_any S5 (by omega) (b != g)).mono ?_
    rintro e V' ⟨g6, a6, c6, z6, rfl, S6, N6, v6, l6, hb⟩
    have V6 : Hid (sgn g6 (val z6) = sgn (b != g) (val z1 * val z3)) := by rw [Hid, v6, V5.out]
    have b6 : z6.length ≤ n + m := by omega
    clear v6 l6
    exact hK.out _ _ hb ⟨_, _, _, _, rfl, S6.mono hV.size, N6, V6, b6⟩ (not_fresh rfl)
  case refine_3 =>
    refine OpDoes.mk rfl ?_
    intro vs V hV hd K hK
    have d7 : vs 7 = .slice a1 z1.length c1 := hd 7 (by decide) (by kernel_rfl)
    have d8 : vs 8 = .slice a3 z3.length c3 := hd 8 (by decide) (by kernel_rfl)
    simp only [laidIn, lz1, lz2, lz3, lz4, lz5, lz6, if_true, Act.put, lz7, lz8, lz9] at hK ⊢
    simp only [d7, d8] at hK ⊢
    go_simp
    go_at_call 48
    refine (mul_any (S1.below hV) (S3.below hV) (by omega) (by omega)).mono ?_
    rintro e V' ⟨a5, c5, z5, rfl, S5, N5, v5, l5, hb⟩
    have V5 : Hid (val z5 = val z1 * val z3) := v5
    have b5 : z5.length ≤ n + m := by omega
    clear v5 l5
    exact hK.out _ _ hb ⟨_, _, _, rfl, S5.mono hV.size, N5, V5, b5⟩ (not_fresh rfl)
  case refine_4 =>
    refine OpDoes.mk rfl ?_
    intro vs V hV hd K hK
    simp only [laidIn, lz1, lz2, lz3, lz4, lz5, lz6, if_true, Act.put, lz7, lz8, lz9] at hK ⊢
    go_simp
    exact hK.out _ _ (Below.refl _ _) rfl (not_fresh rfl)
  case refine_5 =>
    refine OpDoes.mk rfl ?_
    intro vs V hV hd K hK
    simp only [laidIn, lz1, lz2, lz3, lz4, lz5, lz6, if_true, Act.put, lz7, lz8, lz9] at hK ⊢
    go_simp
    exact hK.out _ _ (Below.refl _ _) rfl (not_fresh rfl)
  case refine_6 =>
    refine OpDoes.mk rfl ?_
    intro vs V hV hd K hK
    have d2 : vs 2 = .bool b := hd 2 (by decide) (by kernel_rfl)
    have d5 : vs 5 = .bool g := hd 5 (by decide) (by kernel_rfl)
    simp only [laidIn, lz1, lz2, lz3, lz4, lz5, lz6, if_true, Act.put, lz7, lz8, lz9] at hK ⊢
    simp only [d2, d5] at hK ⊢
    go_simp
    exact hK.out _ _ (Below.refl _ _) rfl (not_fresh rfl)
  case refine_7 =>
    refine OpDoes.mk rfl ?_
    intro vs V hV hd K hK
    have d4 : vs 4 = .pointer (some ⟨w.heap.size + 1, 0, none⟩) := hd 4 (by decide) (by kernel_rfl)
    have hcc := (EB.below hV).three
    have k0 := hcc.1
    have k1 := hcc.2.1
    have k2 := hcc.2.2.1
    clear hcc
    simp only [laidIn, lz1, lz2, lz3, lz4, lz5, lz6, if_true, Act.put, lz7, lz8, lz9] at hK ⊢
    simp only [d4] at hK ⊢
    go_simp
    exact hK.out _ _ (Below.refl _ _) rfl (not_fresh rfl)
  case refine_8 =>
    refine OpDoes.mk rfl ?_
    intro vs V hV hd K hK
    have d3 : vs 3 = .pointer (some ⟨w.heap.size + 1, 0, none⟩) := hd 3 (by decide) (by kernel_rfl)
    simp only [laidIn, lz1, lz2, lz3, lz4, lz5, lz6, if_true, Act.put, lz7, lz8, lz9] at hK ⊢
    simp only [d3] at hK ⊢
    go_simp
    exact hK.out _ _ (Below.refl _ _) rfl (not_fresh rfl)
  case refine_9 =>
    refine OpDoes.mk rfl ?_
    intro vs V hV hd K hK
    simp only [laidIn, lz1, lz2, lz3, lz4, lz5, lz6, if_true, Act.put, lz7, lz8, lz9] at hK ⊢
    go_simp
    exact hK.out _ _ (Below.refl _ _) rfl (not_fresh rfl)
  case refine_10 =>
    refine OpDoes.mk rfl ?_
    intro vs V hV hd K hK
    have d1 : vs 1 = .pointer (some ⟨w.heap.size, 0, none⟩) := hd 1 (by decide) (by kernel_rfl)
    have hcc := (EA.below hV).three
    have k0 := hcc.1
    have k1 := hcc.2.1
    have k2 := hcc.2.2.1
    clear hcc
    simp only [laidIn, lz1, lz2, lz3, lz4, lz5, lz6, if_true, Act.put, lz7, lz8, lz9] at hK ⊢
    simp only [d1] at hK ⊢
    go_simp
    exact hK.out _ _ (Below.refl _ _) rfl (not_fresh rfl)
  case refine_11 =>
    refine OpDoes.mk rfl ?_
    intro vs V hV hd K hK
    have d0 : vs 0 = .pointer (some ⟨w.heap.size, 0, none⟩) := hd 0 (by decide) (by kernel_rfl)
    simp only [laidIn, lz1, lz2, lz3, lz4, lz5, lz6, if_true, Act.put, lz7, lz8, lz9] at hK ⊢
    simp only [d0] at hK ⊢
    go_simp
    exact hK.out _ _ (Below.refl _ _) rfl (not_fresh rfl)
  case refine_12 =>
    refine OpDoes.mk rfl ?_
    intro vs V hV hd K hK
    simp only [laidIn, lz1, lz2, lz4, lz5, lz6, if_true, Act.put, lz7, lz8, lz9] at hK ⊢
    go_simp
    exact hK.out _ _ (Below.refl _ _) rfl (not_fresh rfl)
  case refine_13 =>
    intro vs Y1 hV hR hne fuel
    have d0 : vs 0 = .pointer (some ⟨w.heap.size, 0, none⟩) := hR 0 (by decide)
    have d1 : vs 1 = .pointer (some ⟨w.heap.size, 0, none⟩) := hR 1 (by decide)
    have d2 : vs 2 = .bool b := hR 2 (by decide)
    have d3 : vs 3 = .pointer (some ⟨w.heap.size + 1, 0, none⟩) := hR 3 (by decide)
    have d4 : vs 4 = .pointer (some ⟨w.heap.size + 1, 0, none⟩) := hR 4 (by decide)
    have d5 : vs 5 = .bool g := hR 5 (by decide)
    have d6 : vs 6 = .bool (b != g) := hR 6 (by decide)
    have d7 : vs 7 = .slice a1 z1.length c1 := hR 7 (by decide)
    have d8 : vs 8 = .slice a3 z3.length c3 := hR 8 (by decide)
    have hh := fun (P : Prop) => Yield.nat_elim P (show ((Yield.nat w3.heap.size (val z1 * val z3) (n + m)) : Yield).At (vs 9) Y1 from hR 9 (by decide))
    refine hh _ ?_
    intro a5 c5 z5 d9 S5 N5 V5 b5
    clear hh
    have hh := fun (P : Prop) => Yield.int_elim P (show ((Yield.int w3.heap.size (sgn (b != g) (val z1 * val z3)) (n + m)) : Yield).At (vs 10) Y1 from hR 10 (by decide))
    refine hh _ ?_
    intro g6 a6 c6 z6 d10 S6 N6 V6 b6
    clear hh
    obtain ⟨k_E93, d11, E93, l_E93⟩ := (show ((.new w3.heap.size (.cells #[.bool false, .slice none 0 0] 28)) : Yield).At (vs 11) Y1 from hR 11 (by decide))
    replace FA := FA.below hV
    replace FB := FB.below hV
    replace EA := EA.below hV
    replace EB := EB.below hV
    replace ER := ER.below hV
    replace S1 := S1.below hV
    replace S2 := S2.below hV
    replace S3 := S3.below hV
    replace S4 := S4.below hV
    have hr := hV
    simp only [laidIn, lz4, lz5, lz6, if_true, Act.put, lz7, lz8, lz9]
    simp only [d0, d1, d2, d3, d4, d5, d6, d7, d8, d9, d10, d11]
    clear hR hne hV d0 d1 d2 d3 d4 d5 d6 d7 d8 d9 d10 d11
    clear vs
    show wpAny _ _ _ _ (fuel + 1) _ _ _
    refine wpAny_all (rs := [12]) (by kernel_rfl) (by simp) (fun i hi => ?_)
    obtain rfl : i = 12 := by simpa using hi
    clear hi
    have hcc := E93.two
    have k0 := hcc.1
    have k1 := hcc.2.1
    have f0 := hcc.2.2.1
    have f1 := hcc.2.2.2
    clear hcc
    refine wpOp_step rfl (fun K hK => ?_)
    simp only [lz1, lz2, lz3]
    rw [if_pos (by rfl)]
    go_simp
    refine hK _ _ ?_
    clear hK k0 f0 k1 f1
    have hT := turns2 (k_E93) Y1 (.bool g6) (.slice a6 z6.length c6)
    replace FA := FA.beside E93 (noWord2 (fun _ e => by cases e) (fun _ e => by cases e)) hT
    replace FB := FB.beside E93 (noWord2 (fun _ e => by cases e) (fun _ e => by cases e)) hT
    replace EA := EA.turns hT (by omega)
    replace EB := EB.turns hT (by omega)
    replace ER := ER.turns hT (by omega)
    replace S1 := S1.beside E93 (noWord2 (fun _ e => by cases e) (fun _ e => by cases e)) hT
    replace S2 := S2.beside E93 (noWord2 (fun _ e => by cases e) (fun _ e => by cases e)) hT
    replace S3 := S3.beside E93 (noWord2 (fun _ e => by cases e) (fun _ e => by cases e)) hT
    replace S4 := S4.beside E93 (noWord2 (fun _ e => by cases e) (fun _ e => by cases e)) hT
    replace S5 := S5.beside E93 (noWord2 (fun _ e => by cases e) (fun _ e => by cases e)) hT
    replace S6 := S6.beside E93 (noWord2 (fun _ e => by cases e) (fun _ e => by cases e)) hT
    replace E93 := E93.set2 (.bool g6) (.slice a6 z6.length c6)
    have hr12 := hT.below
    obtain ⟨X1, hX⟩ := nm hT.below
    rw [hX] at FA FB EA EB ER S1 S2 S3 S4 S5 S6 E93 hr12 ⊢
    clear hX hT
    refine wpAny_done (by kernel_rfl) ?_ _
    replace hB := hB.trans ((Below.trans (Below.drew (Below.refl w3.heap.size w3)) hr).mono hB.size)
    replace hB := hB.trans (hr12.mono (by omega))
    have zz3_1 := hr.size
    have zi1 := hB.size
    have zy1_12 := hr12.size
    clear hr hr12
    clear S5 S1 S3 FA FB EA EB
    have S6_0 := S6
    obtain ⟨k0, k1, k2, f0, f1, f2⟩ := ER.three
    obtain ⟨k3, k4, f3, f4⟩ := E93.two
    go_wp2_with fail
    clear k0 k1 k2 f0 f1 f2 k3 k4 f3 f4
    have qER := ER.lt
    replace ER := ER.drew
    replace S2 := S2.drew
    replace S4 := S4.drew
    replace S6 := S6.drew
    have qE93 := E93.lt
    replace E93 := E93.drew
    refine wp_yields 5 [.is (.agg #[.bool g6, .slice a6 z6.length c6]), .is (.slice a4 z4.length c4), .is (.slice a2 z2.length c2), (Yield.nat X1.heap.size (val z4 * val z2) (n + m)), (Yield.natIn (fun s => .agg #[.bool g6, .slice a6 z6.length c6, s]) X1.heap.size (val z4 * val z2) (n + m))] (by kernel_rfl) (by kernel_rfl) (lt_cons ?_ (lt_cons ?_ (lt_cons ?_ (lt_cons ?_ (lt_cons ?_ lt_nil))))) ?_
    case refine_1 =>
      refine OpDoes.mk rfl ?_
      intro vs V hV hd K hK
      have d0 : vs 0 = .agg #[.bool g6, .slice a6 z6.length c6] := hd 0 (by decide) (by kernel_rfl)
      have hh := fun (P : Prop) => Yield.nat_elim P (show ((Yield.nat X1.heap.size (val z4 * val z2) (n + m)) : Yield).At (vs 3) V from hd 3 (by decide) (by kernel_rfl))
      refine hh _ ?_
      intro a7 c7 z7 d3 S7 N7 V7 b7
      clear hh
      simp only [laidIn, lz1, lz2, lz3, lz4, lz5, lz6, if_true, Act.put, lz7, lz8, lz9] at hK ⊢
      simp only [d0, d3] at hK ⊢
      go_simp
      exact hK.out _ _ (Below.refl _ _) ⟨_, _, _, rfl, S7, N7, V7, b7⟩ (not_fresh rfl)
    case refine_2 =>
      refine OpDoes.mk rfl ?_
      intro vs V hV hd K hK
      have d1 : vs 1 = .slice a4 z4.length c4 := hd 1 (by decide) (by kernel_rfl)
      have d2 : vs 2 = .slice a2 z2.length c2 := hd 2 (by decide) (by kernel_rfl)
      simp only [laidIn, lz1, lz2, lz3, lz4, lz5, lz6, if_true, Act.put, lz7, lz8, lz9] at hK ⊢
      simp only [d1, d2] at hK ⊢
      go_simp
      go_at_call 48
      refine (mul_any (S4.below hV) (S2.below hV) (by omega) (by omega)).mono ?_
      rintro e V' ⟨a7, c7, z7, rfl, S7, N7, v7, l7, hb⟩
      have V7 : Hid (val z7 = val z4 * val z2) := v7
      have b7 : z7.length ≤ n + m := by omega
      clear v7 l7
      exact hK.out _ _ hb ⟨_, _, _, rfl, S7.mono hV.size, N7, V7, b7⟩ (not_fresh rfl)
    case refine_3 =>
      refine OpDoes.mk rfl ?_
      intro vs V hV hd K hK
      simp only [laidIn, lz1, lz2, lz3, lz4, lz5, lz6, if_true, Act.put, lz7, lz8, lz9] at hK ⊢
      go_simp
      exact hK.out _ _ (Below.refl _ _) rfl (not_fresh rfl)
    case refine_4 =>
      refine OpDoes.mk rfl ?_
      intro vs V hV hd K hK
      simp only [laidIn, lz1, lz2, lz3, lz4, lz5, lz6, if_true, Act.put, lz7, lz8, lz9] at hK ⊢
      go_simp
      exact hK.out _ _ (Below.refl _ _) rfl (not_fresh rfl)
    case refine_5 =>
      refine OpDoes.mk rfl ?_
      intro vs V hV hd K hK
      have hcc := (E93.below hV).two
      have k0 := hcc.1
      have k1 := hcc.2.1
      clear hcc
      simp only [laidIn, lz1, lz2, lz4, lz5, lz6, if_true, Act.put, lz7, lz8, lz9] at hK ⊢
      go_simp
      exact hK.out _ _ (Below.refl _ _) rfl (not_fresh rfl)
    case refine_6 =>
      intro vs Y2 hV hR hne fuel
      have d0 : vs 0 = .agg #[.bool g6, .slice a6 z6.length c6] := hR 0 (by decide)
      have d1 : vs 1 = .slice a4 z4.length c4 := hR 1 (by decide)
      have d2 : vs 2 = .slice a2 z2.length c2 := hR 2 (by decide)
      have hh := fun (P : Prop) => Yield.nat_elim P (show ((Yield.nat X1.heap.size (val z4 * val z2) (n + m)) : Yield).At (vs 3) Y2 from hR 3 (by decide))
      refine hh _ ?_
      intro a7 c7 z7 d3 S7 N7 V7 b7
      clear hh
      have hh := fun (P : Prop) => Yield.natIn_elim P (show ((Yield.natIn (fun s => .agg #[.bool g6, .slice a6 z6.length c6, s]) X1.heap.size (val z4 * val z2) (n + m)) : Yield).At (vs 4) Y2 from hR 4 (by decide))
      refine hh _ ?_
      intro a8 c8 z8 d4 S8 N8 V8 b8
      clear hh
      replace ER := ER.below hV
      replace S2 := S2.below hV
      replace S4 := S4.below hV
      replace S6 := S6.below hV
      replace E93 := E93.below hV
      have hr := hV
      simp only [laidIn, lz4, lz5, lz6, if_true, Act.put, lz7, lz8, lz9]
      simp only [d0, d1, d2, d3, d4]
      clear hR hne hV d0 d1 d2 d3 d4
      clear vs
      show wpAny _ _ _ _ (fuel + 2) _ _ _
      refine wpAny_all (rs := [5]) (by kernel_rfl) (by simp) (fun i hi => ?_)
      obtain rfl : i = 5 := by simpa using hi
      clear hi
      have hcc := ER.three
      have k0 := hcc.1
      have k1 := hcc.2.1
      have k2 := hcc.2.2.1
      have f0 := hcc.2.2.2.1
      have f1 := hcc.2.2.2.2.1
      have f2 := hcc.2.2.2.2.2
      clear hcc
      refine wpOp_step rfl (fun K hK => ?_)
      simp only [lz1, lz2, lz3]
      rw [if_pos (by rfl)]
      go_simp
      refine hK _ _ ?_
      clear hK k0 f0 k1 f1 k2 f2
      have hT := turns3 (w.heap.size + 2) Y2 (.bool g6) (.slice a6 z6.length c6) (.slice a8 z8.length c8)
      replace S2 := S2.beside ER (noWord3 (fun _ e => by cases e) (fun _ e => by cases e) (fun _ e => by cases e)) hT
      replace S4 := S4.beside ER (noWord3 (fun _ e => by cases e) (fun _ e => by cases e) (fun _ e => by cases e)) hT
      replace S6 := S6.beside ER (noWord3 (fun _ e => by cases e) (fun _ e => by cases e) (fun _ e => by cases e)) hT
      replace E93 := E93.turns hT (by omega)
      replace S7 := S7.beside ER (noWord3 (fun _ e => by cases e) (fun _ e => by cases e) (fun _ e => by cases e)) hT
      replace S8 := S8.beside ER (noWord3 (fun _ e => by cases e) (fun _ e => by cases e) (fun _ e => by cases e)) hT
      replace ER := ER.set3 (.bool g6) (.slice a6 z6.length c6) (.slice a8 z8.length c8)
      have hr5 := hT.below
      obtain ⟨X2, hX⟩ := nm hT.below
      rw [hX] at ER S2 S4 S6 E93 S7 S8 hr5 ⊢
      clear hX hT
      refine wpAny_all (rs := [6]) (by kernel_rfl) (by simp) (fun i hi => ?_)
      obtain rfl : i = 6 := by simpa using hi
      clear hi
      refine wpOp_step rfl (fun K hK => ?_)
      simp only [lz1, lz2, lz3]
      rw [if_pos (by rfl)]
      go_simp
      refine hK _ _ ?_
      clear hK
      refine wpAny_done (by kernel_rfl) ?_ _
      replace hB := hB.trans ((Below.trans (Below.drew (Below.refl X1.heap.size X1)) hr).mono hB.size)
      replace hB := hB.trans (hr5.mono (by omega))
      have zz3_2 := hr.size
      have zi2 := hB.size
      have zy2_5 := hr5.size
      clear hr hr5
      have V5' : Hid (val z5 = val z1 * val z3) := V5
      have V6' : Hid (sgn g6 (val z6) = sgn (b != g) (val z5)) := by rw [Hid, V6.out, V5.out]
      have HI := product_is (N := n + m) LA LB HQA HQB WX WY V1 V2 V3 V4 V5' N6 V6' V8 N8 (by omega) (by omega)
      have HAP := hide (apart_of (fun h b o e => S6_0.block h b o e) S8 (Nat.le_refl _) : Apart a6 a8 z6 z8)
      obtain ⟨k0, k1, k2, f0, f1, f2⟩ := ER.three
      obtain ⟨k3, k4, f3, f4⟩ := E93.two
      have hcc := ER.three
      have r0 := hcc.1
      have r1 := hcc.2.1
      have r2 := hcc.2.2.1
      clear hcc
      go_wp2
      refine bodyPost_ret (v := .tuple #[.agg #[.bool g6, .slice a6 z6.length c6, .slice a8 z8.length c8], .int .i64 0]) (by simp [results, Tryz.f28, go_sem, r0, r1, r2]) rfl ?_
      exact ⟨_, _, _, _, _, _, _, rfl, ⟨S6.mono (by omega), S8.mono (by omega)⟩, HAP.out, HI, hB⟩
end Go.Proofs.YtegopbhidgbjpaaGreat
namespace Go.Proofs.YtegopbhidgbjpaaGreat
open Go.RowKit
theorem enter_plus (args : Array Value) (w : World) : (callFunc 22 args).run Tryz.prog w = .ok (.enter 22 args) w := by kernel_rfl
theorem enter_product (args : Array Value) (w : World) : (callFunc 28 args).run Tryz.prog w = .ok (.enter 28 args) w := by kernel_rfl
def opAdd (q s : Rat) : Option Rat := some (q + s)
def opMul (q s : Rat) : Option Rat := some (q * s)
def opSub (q s : Rat) : Option Rat := some (q - s)
def opDiv (q s : Rat) : Option Rat := if s = 0 then none else some (q / s)
def sumQ (rs : List RV) : Rat := rs.foldl (fun q r => q + r.q) 0
def mulQ (rs : List RV) : Rat := rs.foldl (fun q r => q * r.q) 1
theorem opFold_add (q : Rat) (rs : List RV) : opFold opAdd q rs = some (rs.foldl (fun q r => q + r.q) q) := by
  induction rs generalizing q with
  | nil => rfl
  | cons r rs ih => exact ih (q + r.q)
theorem opFold_mul (q : Rat) (rs : List RV) : opFold opMul q rs = some (rs.foldl (fun q r => q * r.q) q) := by
  induction rs generalizing q with
  | nil => rfl
  | cons r rs ih => exact ih (q * r.q)
theorem fold_add {lo : Nat} {sv : Option Addr} {cap : Nat} {rs : List RV} {w : World} (R : Row 0 w sv rs) {a c : Option Addr} {ca cc : Nat} {xs ds : List Int} (b : Bool) (FA : Fr lo w a ca xs c cc ds) {n m : Nat} (hl : xs.length ≤ n ∧ ds.length ≤ n) (hrl : rs.length ≤ 6) (hlen : ∀ r ∈ rs, r.xs.length ≤ m ∧ r.ds.length ≤ m) (hn : n ≤ 40) (hm : m ≤ 40) :
    Calls Tryz.prog 21 #[.func (.func 22) #[] #[], .agg #[.bool b, .slice a xs.length ca, .slice c ds.length cc], .slice sv rs.length cap] w fun e w' => FoldSaid opAdd w b a ca xs c cc ds rs (n + rs.length * (m + 1)) e w' ∧ Below w.heap.size w w' := by
  refine fold_any 22 opAdd R b FA hl hrl hlen hn hm enter_plus ?_ ?_
  · intro W b1 a1 n1 x1 e1 m1 y1 q1 k r t F1 F2 I1 I2 hk ht
    refine (plus_any b1 r.b F1 F2 I1 I2 hk).mono ?_
    rintro e w' ⟨b', a', ca', ts, c', cc', es, rfl, F, P, I, hb⟩
    exact ⟨b', a', ca', ts, c', cc', es, rfl, F, P, I.to (Option.some.inj ht), hb⟩
  · intro W b1 a1 n1 x1 e1 m1 y1 q1 k r F1 F2 I1 I2 hk ht
    cases ht
theorem fold_mul {lo : Nat} {sv : Option Addr} {cap : Nat} {rs : List RV} {w : World} (R : Row 0 w sv rs) {a c : Option Addr} {ca cc : Nat} {xs ds : List Int} (b : Bool) (FA : Fr lo w a ca xs c cc ds) {n m : Nat} (hl : xs.length ≤ n ∧ ds.length ≤ n) (hrl : rs.length ≤ 6) (hlen : ∀ r ∈ rs, r.xs.length ≤ m ∧ r.ds.length ≤ m) (hn : n ≤ 40) (hm : m ≤ 40) :
    Calls Tryz.prog 21 #[.func (.func 28) #[] #[], .agg #[.bool b, .slice a xs.length ca, .slice c ds.length cc], .slice sv rs.length cap] w fun e w' => FoldSaid opMul w b a ca xs c cc ds rs (n + rs.length * (m + 1)) e w' ∧ Below w.heap.size w w' := by
  refine fold_any 28 opMul R b FA hl hrl hlen hn hm enter_product ?_ ?_
  · intro W b1 a1 n1 x1 e1 m1 y1 q1 k r t F1 F2 I1 I2 hk ht
    refine (product_any b1 r.b F1 F2 I1 I2 hk).mono ?_
    rintro e w' ⟨b', a', ca', ts, c', cc', es, rfl, F, P, I, hb⟩
    exact ⟨b', a', ca', ts, c', cc', es, rfl, F, P, (I.mono (by omega)).to (Option.some.inj ht), hb⟩
  · intro W b1 a1 n1 x1 e1 m1 y1 q1 k r F1 F2 I1 I2 hk ht
    cases ht
theorem FoldSaid.okL {op : Rat → Rat → Option Rat} {w w' : World} {b : Bool} {a : Option Addr} {ca : Nat} {xs : List Int} {c : Option Addr} {cc : Nat} {ds : List Int} {rs : List RV} {N : Nat} {e : Ending} {t : Rat} {lo : Nat} (h : FoldSaid op w b a ca xs c cc ds rs N e w') (hb : Below w.heap.size w w') (hg : AllGood b xs ds rs) (ht : opFold op (ratL b xs ds) rs = some t) (FA : Fr lo w a ca xs c cc ds) (PA : Apart a c xs ds) (hlo : lo ≤ w.heap.size) : ∃ (b' : Bool) (a' : Option Addr) (ca' : Nat) (ts : List Int) (c' : Option Addr) (cc' : Nat) (es : List Int), e = .returned (.tuple #[.agg #[.bool b', .slice a' ts.length ca', .slice c' es.length cc'], .int .i64 0]) ∧ Fr lo w' a' ca' ts c' cc' es ∧ Apart a' c' ts es ∧ Is b' ts es t N ∧ Below w.heap.size w w' := by
  rcases h with ⟨_, t', ht', b', a', ca', ts, c', cc', es, he, hI, hm⟩ | ⟨_, hn, _⟩ | ⟨hn, _⟩
  · rw [ht] at ht'
    obtain rfl := Option.some.inj ht'
    rcases hm with ⟨_, rfl, rfl, rfl, rfl, rfl, rfl, rfl⟩ | ⟨h1, h2⟩
    · exact ⟨_, _, _, _, _, _, _, he, FA.below hb, PA, hI, hb⟩
    · exact ⟨_, _, _, _, _, _, _, he, h1.mono hlo, h2, hI, hb⟩
  · rw [ht] at hn; cases hn
  · exact absurd hg hn
theorem FoldSaid.zero {op : Rat → Rat → Option Rat} {w w' : World} {b : Bool} {a : Option Addr} {ca : Nat} {xs : List Int} {c : Option Addr} {cc : Nat} {ds : List Int} {rs : List RV} {N : Nat} {e : Ending} (h : FoldSaid op w b a ca xs c cc ds rs N e w') (hg : AllGood b xs ds rs) (ht : opFold op (ratL b xs ds) rs = none) : e = .returned (.tuple #[.agg #[.bool false, .slice none 0 0, .slice none 0 0], .int .i64 5]) := by
  rcases h with ⟨_, t', ht', _⟩ | ⟨_, _, he⟩ | ⟨hn, _⟩
  · rw [ht] at ht'; cases ht'
  · exact he
  · exact absurd hg hn
theorem FoldSaid.form {op : Rat → Rat → Option Rat} {w w' : World} {b : Bool} {a : Option Addr} {ca : Nat} {xs : List Int} {c : Option Addr} {cc : Nat} {ds : List Int} {rs : List RV} {N : Nat} {e : Ending} (h : FoldSaid op w b a ca xs c cc ds rs N e w') (hg : ¬ AllGood b xs ds rs) : e = .returned (.tuple #[.agg #[.bool false, .slice none 0 0, .slice none 0 0], .int .i64 6]) := by
  rcases h with ⟨h, _⟩ | ⟨h, _⟩ | ⟨_, he⟩
  · exact absurd h hg
  · exact absurd h hg
  · exact he
theorem Is.good {b : Bool} {xs ds : List Int} {q : Rat} {n : Nat} (h : Is b xs ds q n) (wx : Words xs) (wd : Words ds) : formR b xs ds = 0 := (formR_low wx wd).2 h.low
def RV.cells (r : RV) : List Value := [.bool r.b, .slice r.a r.xs.length r.ca, .slice r.c r.ds.length r.cc]
theorem row_box {W : World} {k : Nat} {t : TypeId} {rs : List RV} (E : Box W k (.cells (rs.flatMap RV.cells).toArray t (0, 0))) (h : ∀ r ∈ rs, Fr 0 W r.a r.ca r.xs r.c r.cc r.ds) : Row 0 W (some ⟨k, 0, none⟩) rs := by
  refine ⟨fun j _ => ⟨k, 0, rfl, E.lt⟩, fun g o j r e hr => ?_, fun j r hr => h r (List.mem_of_getElem? hr)⟩
  simp only [Option.some.injEq, Addr.mk.injEq, and_true] at e
  obtain ⟨rfl, rfl⟩ := e
  have key : ∀ (rs : List RV) (j : Nat), rs[j]? = some r → (rs.flatMap RV.cells)[j * 3]? = some (.bool r.b) ∧ (rs.flatMap RV.cells)[j * 3 + 1]? = some (.slice r.a r.xs.length r.ca) ∧ (rs.flatMap RV.cells)[j * 3 + 2]? = some (.slice r.c r.ds.length r.cc) := by
    intro rs
    induction rs with
    | nil => intro j hj; simp at hj
    | cons s rs ih =>
      intro j hj
      cases j with
      | zero =>
        simp only [lz5, Option.some.injEq] at hj
        subst hj
        exact ⟨rfl, rfl, rfl⟩
      | succ j =>
        simp only [lz6] at hj
        obtain ⟨h1, h2, h3⟩ := ih j hj
        have e1 : (j + 1) * 3 = j * 3 + 1 + 1 + 1 := by omega
        rw [List.flatMap_cons, e1]
        exact ⟨h1, h2, h3⟩
  obtain ⟨h1, h2, h3⟩ := key rs j hr
  refine ⟨?_, ?_, ?_⟩
  · rw [cell_of_heap E.what]; simpa using h1
  · rw [cell_of_heap E.what]; simpa using h2
  · rw [cell_of_heap E.what]; simpa using h3
set_option maxRecDepth 100000 in
set_option maxHeartbeats 4000000 in
theorem padd_ok {sv : Option Addr} {cap : Nat} {rs : List RV} {w : World} (R : Row 0 w sv rs) (hrl : rs.length ≤ 6) {m : Nat} (hlen : ∀ r ∈ rs, r.xs.length ≤ m ∧ r.ds.length ≤ m) (hm : m ≤ 40) (hg : ∀ r ∈ rs, formR r.b r.xs r.ds = 0) :
    Calls Tryz.prog 7 #[.slice sv rs.length cap] w fun e w' => ∃ (b' : Bool) (a' : Option Addr) (ca' : Nat) (ts' : List Int) (c' : Option Addr) (cc' : Nat) (es' : List Int), e = .returned (.tuple #[.agg #[.bool b', .slice a' ts'.length ca', .slice c' es'.length cc'], .int .i64 0]) ∧ Fr w.heap.size w' a' ca' ts' c' cc' es' ∧ Apart a' c' ts' es' ∧ Is b' ts' es' (sumQ rs) (1 + rs.length * (m + 1)) ∧ Below w.heap.size w w' := by
  have hB := Below.refl w.heap.size w
  go_enter Tryz.func7, Tryz.ntmps7
  have hA := Below.refl w.heap.size w
  have hq := below_new w (.cells #[.bool false, .slice none 0 0, .slice none 0 0] 30)
  replace R := R.below hq
  have ER := Box.put (w := w) (k := (w.heap.size)) (.cells #[.bool false, .slice none 0 0, .slice none 0 0] 30) rfl
  replace hA := hA.trans (hq.mono hA.size)
  replace hB := hB.trans (hq.mono hB.size)
  clear hq
  clear hA
  go_wp2_with fail
  obtain ⟨u1, hname⟩ := nm hB
  rw [hname] at hB R ER ⊢
  have zh1 := hB.size
  clear hname
  refine (small_any 0 (by decide) _).mono ?_
  rintro e w2 ⟨g1, a1, c1, x1, e1, t1, y1, rfl, F1, P1, I1, hb⟩
  replace I1 : Is g1 x1 y1 (0) (1) := I1.to (by simp)
  replace R := R.below hb
  replace ER := ER.below hb
  replace hB := hB.trans (hb.mono hB.size)
  have zz2 := hb.size
  have zh2 := hB.size
  clear hb
  have hk := fun (V : World) (hV : Below w2.heap.size w2 V) => fold_add (cap := cap) (R.below hV) g1 (F1.below hV) (n := 1) ⟨I1.lu, I1.ld⟩ hrl hlen (by omega) hm
  replace hk := (hk _ (Below.refl _ _)).mono (fun e w' h => FoldSaid.okL h.1 h.2 ⟨I1.good F1.up.words F1.down.words, hg⟩ (t := sumQ rs) (by rw [I1.rat, opFold_add]; rfl) F1 P1 (by omega))
  obtain ⟨k0, k1, k2, f0, f1, f2⟩ := ER.three
  go_wp2_with fail
  clear k0 k1 k2 f0 f1 f2
  refine (hk).mono ?_
  rintro e w3 ⟨g2, a2, c2, x2, e2, t2, y2, rfl, F2, P2, I2, hb⟩
  replace I2 : Is g2 x2 y2 (sumQ rs) (1 + rs.length * (m + 1)) := I2
  replace R := R.below hb
  replace ER := ER.below hb
  replace F1 := F1.below hb
  replace hB := hB.trans (hb.mono hB.size)
  have zz3 := hb.size
  have zh3 := hB.size
  clear hb
  clear hk
  clear R
  obtain ⟨k0, k1, k2, f0, f1, f2⟩ := ER.three
  have hcc := ER.three
  have r0 := hcc.1
  have r1 := hcc.2.1
  have r2 := hcc.2.2.1
  clear hcc
  have qER := ER.lt
  have hA := Below.refl w3.heap.size w3
  have hT := turns3 (w.heap.size) w3 (.bool g2) (.slice a2 x2.length c2) (.slice e2 y2.length t2)
  replace F1 := F1.beside ER (noWord3 (fun _ e => by cases e) (fun _ e => by cases e) (fun _ e => by cases e)) hT
  replace F2 := F2.beside ER (noWord3 (fun _ e => by cases e) (fun _ e => by cases e) (fun _ e => by cases e)) hT
  replace ER := Box.set3 (.bool g2) (.slice a2 x2.length c2) (.slice e2 y2.length t2) ER
  replace hB := hB.trans (hT.below.mono (by omega))
  clear hT
  clear hA
  go_wp2
  refine bodyPost_ret (v := .tuple #[.agg #[.bool g2, .slice a2 x2.length c2, .slice e2 y2.length t2], .int .i64 0]) (by simp [results, Tryz.f7, go_sem, r0, r1, r2]) rfl ?_
  exact ⟨_, _, _, _, _, _, _, rfl, F2.mono (by omega), P2, I2, hB⟩
set_option maxRecDepth 100000 in
set_option maxHeartbeats 4000000 in
theorem padd_no {sv : Option Addr} {cap : Nat} {rs : List RV} {w : World} (R : Row 0 w sv rs) (hrl : rs.length ≤ 6) {m : Nat} (hlen : ∀ r ∈ rs, r.xs.length ≤ m ∧ r.ds.length ≤ m) (hm : m ≤ 40) (hg : ¬ ∀ r ∈ rs, formR r.b r.xs r.ds = 0) :
    Calls Tryz.prog 7 #[.slice sv rs.length cap] w fun e w' => e = .returned (.tuple #[.agg #[.bool false, .slice none 0 0, .slice none 0 0], .int .i64 6]) ∧ Below w.heap.size w w' := by
  have hB := Below.refl w.heap.size w
  go_enter Tryz.func7, Tryz.ntmps7
  have hA := Below.refl w.heap.size w
  have hq := below_new w (.cells #[.bool false, .slice none 0 0, .slice none 0 0] 30)
  replace R := R.below hq
  have ER := Box.put (w := w) (k := (w.heap.size)) (.cells #[.bool false, .slice none 0 0, .slice none 0 0] 30) rfl
  replace hA := hA.trans (hq.mono hA.size)
  replace hB := hB.trans (hq.mono hB.size)
  clear hq
  clear hA
  go_wp2_with fail
  obtain ⟨u1, hname⟩ := nm hB
  rw [hname] at hB R ER ⊢
  have zh1 := hB.size
  clear hname
  refine (small_any 0 (by decide) _).mono ?_
  rintro e w2 ⟨g1, a1, c1, x1, e1, t1, y1, rfl, F1, P1, I1, hb⟩
  replace I1 : Is g1 x1 y1 (0) (1) := I1.to (by simp)
  replace R := R.below hb
  replace ER := ER.below hb
  replace hB := hB.trans (hb.mono hB.size)
  have zz2 := hb.size
  have zh2 := hB.size
  clear hb
  have hk := fold_add (cap := cap) R g1 F1 (n := 1) ⟨I1.lu, I1.ld⟩ hrl hlen (by omega) hm
  replace hk := hk.mono (fun e w' h => ⟨FoldSaid.form h.1 (fun hG => hg hG.2), h.2⟩ : ∀ e w', _ → (e = .returned (.tuple #[.agg #[.bool false, .slice none 0 0, .slice none 0 0], .int .i64 6]) ∧ Below w2.heap.size w2 w'))
  obtain ⟨k0, k1, k2, f0, f1, f2⟩ := ER.three
  go_wp2_with fail
  clear k0 k1 k2 f0 f1 f2
  refine (hk).mono ?_
  rintro e w3 ⟨rfl, hb⟩
  replace R := R.below hb
  replace ER := ER.below hb
  replace F1 := F1.below hb
  replace hB := hB.trans (hb.mono hB.size)
  have zz3 := hb.size
  have zh3 := hB.size
  clear hb
  clear hk
  clear R
  obtain ⟨k0, k1, k2, f0, f1, f2⟩ := ER.three
  have hcc := ER.three
  have r0 := hcc.1
  have r1 := hcc.2.1
  have r2 := hcc.2.2.1
  clear hcc
  have qER := ER.lt
  have hA := Below.refl w3.heap.size w3
  have hT := turns3 (w.heap.size) w3 (.bool false) (.slice none 0 0) (.slice none 0 0)
  replace F1 := F1.beside ER (noWord3 (fun _ e => by cases e) (fun _ e => by cases e) (fun _ e => by cases e)) hT
  replace ER := Box.set3 (.bool false) (.slice none 0 0) (.slice none 0 0) ER
  replace hB := hB.trans (hT.below.mono (by omega))
  clear hT
  clear hA
  go_wp2
  refine bodyPost_ret (v := .tuple #[.agg #[.bool false, .slice none 0 0, .slice none 0 0], .int .i64 6]) (by simp [results, Tryz.f7, go_sem, r0, r1, r2]) rfl ?_
  exact ⟨rfl, hB⟩
set_option maxRecDepth 100000 in
set_option maxHeartbeats 4000000 in
theorem pmul_ok {sv : Option Addr} {cap : Nat} {rs : List RV} {w : World} (R : Row 0 w sv rs) (hrl : rs.length ≤ 6) {m : Nat} (hlen : ∀ r ∈ rs, r.xs.length ≤ m ∧ r.ds.length ≤ m) (hm : m ≤ 40) (hg : ∀ r ∈ rs, formR r.b r.xs r.ds = 0) :
    Calls Tryz.prog 10 #[.slice sv rs.length cap] w fun e w' => ∃ (b' : Bool) (a' : Option Addr) (ca' : Nat) (ts' : List Int) (c' : Option Addr) (cc' : Nat) (es' : List Int), e = .returned (.tuple #[.agg #[.bool b', .slice a' ts'.length ca', .slice c' es'.length cc'], .int .i64 0]) ∧ Fr w.heap.size w' a' ca' ts' c' cc' es' ∧ Apart a' c' ts' es' ∧ Is b' ts' es' (mulQ rs) (1 + rs.length * (m + 1)) ∧ Below w.heap.size w w' := by
  have hB := Below.refl w.heap.size w
  go_enter Tryz.func10, Tryz.ntmps10
  have hA := Below.refl w.heap.size w
  have hq := below_new w (.cells #[.bool false, .slice none 0 0, .slice none 0 0] 30)
  replace R := R.below hq
  have ER := Box.put (w := w) (k := (w.heap.size)) (.cells #[.bool false, .slice none 0 0, .slice none 0 0] 30) rfl
  replace hA := hA.trans (hq.mono hA.size)
  replace hB := hB.trans (hq.mono hB.size)
  clear hq
  clear hA
  go_wp2_with fail
  obtain ⟨u1, hname⟩ := nm hB
  rw [hname] at hB R ER ⊢
  have zh1 := hB.size
  clear hname
  refine (small_any 1 (by decide) _).mono ?_
  rintro e w2 ⟨g1, a1, c1, x1, e1, t1, y1, rfl, F1, P1, I1, hb⟩
  replace I1 : Is g1 x1 y1 (1) (1) := I1.to (by simp)
  replace R := R.below hb
  replace ER := ER.below hb
  replace hB := hB.trans (hb.mono hB.size)
  have zz2 := hb.size
  have zh2 := hB.size
  clear hb
  have hk := fun (V : World) (hV : Below w2.heap.size w2 V) => fold_mul (cap := cap) (R.below hV) g1 (F1.below hV) (n := 1) ⟨I1.lu, I1.ld⟩ hrl hlen (by omega) hm
  replace hk := (hk _ (Below.refl _ _)).mono (fun e w' h => FoldSaid.okL h.1 h.2 ⟨I1.good F1.up.words F1.down.words, hg⟩ (t := mulQ rs) (by rw [I1.rat, opFold_mul]; rfl) F1 P1 (by omega))
  obtain ⟨k0, k1, k2, f0, f1, f2⟩ := ER.three
  go_wp2_with fail
  clear k0 k1 k2 f0 f1 f2
  refine (hk).mono ?_
  rintro e w3 ⟨g2, a2, c2, x2, e2, t2, y2, rfl, F2, P2, I2, hb⟩
  replace I2 : Is g2 x2 y2 (mulQ rs) (1 + rs.length * (m + 1)) := I2
  replace R := R.below hb
  replace ER := ER.below hb
  replace F1 := F1.below hb
  replace hB := hB.trans (hb.mono hB.size)
  have zz3 := hb.size
  have zh3 := hB.size
  clear hb
  clear hk
  clear R
  obtain ⟨k0, k1, k2, f0, f1, f2⟩ := ER.three
  have hcc := ER.three
  have r0 := hcc.1
  have r1 := hcc.2.1
  have r2 := hcc.2.2.1
  clear hcc
  have qER := ER.lt
  have hA := Below.refl w3.heap.size w3
  have hT := turns3 (w.heap.size) w3 (.bool g2) (.slice a2 x2.length c2) (.slice e2 y2.length t2)
  replace F1 := F1.beside ER (noWord3 (fun _ e => by cases e) (fun _ e => by cases e) (fun _ e => by cases e)) hT
  replace F2 := F2.beside ER (noWord3 (fun _ e => by cases e) (fun _ e => by cases e) (fun _ e => by cases e)) hT
  replace ER := Box.set3 (.bool g2) (.slice a2 x2.length c2) (.slice e2 y2.length t2) ER
  replace hB := hB.trans (hT.below.mono (by omega))
  clear hT
  clear hA
  go_wp2
  refine bodyPost_ret (v := .tuple #[.agg #[.bool g2, .slice a2 x2.length c2, .slice e2 y2.length t2], .int .i64 0]) (by simp [results, Tryz.f10, go_sem, r0, r1, r2]) rfl ?_
  exact ⟨_, _, _, _, _, _, _, rfl, F2.mono (by omega), P2, I2, hB⟩
set_option maxRecDepth 100000 in
set_option maxHeartbeats 4000000 in
theorem pmul_no {sv : Option Addr} {cap : Nat} {rs : List RV} {w : World} (R : Row 0 w sv rs) (hrl : rs.length ≤ 6) {m : Nat} (hlen : ∀ r ∈ rs, r.xs.length ≤ m ∧ r.ds.length ≤ m) (hm : m ≤ 40) (hg : ¬ ∀ r ∈ rs, formR r.b r.xs r.ds = 0) :
    Calls Tryz.prog 10 #[.slice sv rs.length cap] w fun e w' => e = .returned (.tuple #[.agg #[.bool false, .slice none 0 0, .slice none 0 0], .int .i64 6]) ∧ Below w.heap.size w w' := by
  have hB := Below.refl w.heap.size w
  go_enter Tryz.func10, Tryz.ntmps10
  have hA := Below.refl w.heap.size w
  have hq := below_new w (.cells #[.bool false, .slice none 0 0, .slice none 0 0] 30)
  replace R := R.below hq
  have ER := Box.put (w := w) (k := (w.heap.size)) (.cells #[.bool false, .slice none 0 0, .slice none 0 0] 30) rfl
  replace hA := hA.trans (hq.mono hA.size)
  replace hB := hB.trans (hq.mono hB.size)
  clear hq
  clear hA
  go_wp2_with fail
  obtain ⟨u1, hname⟩ := nm hB
  rw [hname] at hB R ER ⊢
  have zh1 := hB.size
  clear hname
  refine (small_any 1 (by decide) _).mono ?_
  rintro e w2 ⟨g1, a1, c1, x1, e1, t1, y1, rfl, F1, P1, I1, hb⟩
  replace I1 : Is g1 x1 y1 (1) (1) := I1.to (by simp)
  replace R := R.below hb
  replace ER := ER.below hb
  replace hB := hB.trans (hb.mono hB.size)
  have zz2 := hb.size
  have zh2 := hB.size
  clear hb
  have hk := fold_mul (cap := cap) R g1 F1 (n := 1) ⟨I1.lu, I1.ld⟩ hrl hlen (by omega) hm
  replace hk := hk.mono (fun e w' h => ⟨FoldSaid.form h.1 (fun hG => hg hG.2), h.2⟩ : ∀ e w', _ → (e = .returned (.tuple #[.agg #[.bool false, .slice none 0 0, .slice none 0 0], .int .i64 6]) ∧ Below w2.heap.size w2 w'))
  obtain ⟨k0, k1, k2, f0, f1, f2⟩ := ER.three
  go_wp2_with fail
  clear k0 k1 k2 f0 f1 f2
  refine (hk).mono ?_
  rintro e w3 ⟨rfl, hb⟩
  replace R := R.below hb
  replace ER := ER.below hb
  replace F1 := F1.below hb
  replace hB := hB.trans (hb.mono hB.size)
  have zz3 := hb.size
  have zh3 := hB.size
  clear hb
  clear hk
  clear R
  obtain ⟨k0, k1, k2, f0, f1, f2⟩ := ER.three
  have hcc := ER.three
  have r0 := hcc.1
  have r1 := hcc.2.1
  have r2 := hcc.2.2.1
  clear hcc
  have qER := ER.lt
  have hA := Below.refl w3.heap.size w3
  have hT := turns3 (w.heap.size) w3 (.bool false) (.slice none 0 0) (.slice none 0 0)
  replace F1 := F1.beside ER (noWord3 (fun _ e => by cases e) (fun _ e => by cases e) (fun _ e => by cases e)) hT
  replace ER := Box.set3 (.bool false) (.slice none 0 0) (.slice none 0 0) ER
  replace hB := hB.trans (hT.below.mono (by omega))
  clear hT
  clear hA
  go_wp2
  refine bodyPost_ret (v := .tuple #[.agg #[.bool false, .slice none 0 0, .slice none 0 0], .int .i64 6]) (by simp [results, Tryz.f10, go_sem, r0, r1, r2]) rfl ?_
  exact ⟨rfl, hB⟩
end Go.Proofs.YtegopbhidgbjpaaGreat
namespace Go.Proofs.YtegopbhidgbjpaaGreat
open Go.RowKit
end Go.Proofs.YtegopbhidgbjpaaGreat
namespace Go.Proofs.YtegopbhidgbjpaaGreat
open Go.RowKit
theorem seg_lit (w : World) (zs : List Int) (hw : Words zs) : Seg w.heap.size (w.alloc (.cells (zs.map (Value.int .u64)).toArray 42)) (.slice (some ⟨w.heap.size, 0, none⟩) zs.length zs.length) zs := by
  have hh : (w.alloc (.cells (zs.map (Value.int .u64)).toArray 42)).heap[w.heap.size]? = some (.cells (zs.map (Value.int .u64)).toArray 42 (0, 0)) := World.alloc_heap_new w _
  refine ⟨hw, _, _, rfl, Nat.le_refl _, fun _ => ⟨_, 0, rfl, Nat.le_refl _, by simp, fun j hj => ?_, fun j _ => frozen_of_heap hh _⟩⟩
  rw [cell_of_heap hh, Nat.zero_add]
  simp [hj]
def wordsB (zs : List Int) : Bool := zs.all fun z => decide (0 ≤ z) && decide (z < 18446744073709551616)
theorem words_of {zs : List Int} (h : wordsB zs = true) : Words zs := fun z hz => by
  have := List.all_eq_true.1 h z hz
  simpa using this
theorem Seg.alloc {lo : Nat} {W : World} {sv : Value} {zs : List Int} (h : Seg lo W sv zs) (o : Obj) : Seg lo (W.alloc o) sv zs := h.below ((Below.refl _ _).alloc (Nat.le_refl _) o)
end Go.Proofs.YtegopbhidgbjpaaGreat
namespace Go.Proofs.YtegopbhidgbjpaaGreat
open Go.RowKit
end Go.Proofs.YtegopbhidgbjpaaGreat
namespace Go.Proofs.YtegopbhidgbjpaaGreat
open Go.RowKit
theorem samew_any {lo lo' : Nat} {a c : Option Addr} {ca cc : Nat} {xs ys : List Int} {w : World} (b d : Bool) (h : Seg lo w (.slice a xs.length ca) xs) (h' : Seg lo' w (.slice c ys.length cc) ys) (hl : xs.length ≤ 10000) :
    Calls Tryz.prog 39 #[.agg #[.bool b, .slice a xs.length ca], .agg #[.bool d, .slice c ys.length cc]] w fun e w' => e = .returned (.bool (decide (b = d ∧ xs = ys))) ∧ Below w.heap.size w w' := by
  by_cases hh : b = d ∧ xs = ys
  · obtain ⟨rfl, rfl⟩ := hh
    rw [decide_eq_true ⟨rfl, rfl⟩]
    exact samew_yes b h h' hl
  · rw [decide_eq_false hh]
    exact samew_no b d h h' hl hh
theorem samen_any {lo lo' : Nat} {a c : Option Addr} {ca cc : Nat} {xs ys : List Int} {w : World} (h : Seg lo w (.slice a xs.length ca) xs) (h' : Seg lo' w (.slice c ys.length cc) ys) (hl : xs.length ≤ 10000) :
    Calls Tryz.prog 40 #[.slice a xs.length ca, .slice c ys.length cc] w fun e w' => e = .returned (.bool (decide (xs = ys))) ∧ Below w.heap.size w w' := by
  by_cases hh : xs = ys
  · subst hh
    rw [decide_eq_true rfl]
    exact same_yes h h' (by omega)
  · rw [decide_eq_false hh]
    exact same_no h h' (by omega) hh
set_option maxRecDepth 100000 in
set_option maxHeartbeats 4000000 in
theorem samer_any {lo lo2 : Nat} {a c p r : Option Addr} {ca cc cp cr : Nat} {xs ds ys es : List Int} {w : World} (b g : Bool) (FA : Fr lo w a ca xs c cc ds) (FB : Fr lo2 w p cp ys r cr es) (hl : xs.length ≤ 1000) (hl2 : ds.length ≤ 1000) :
    Calls Tryz.prog 14 #[.agg #[.bool b, .slice a xs.length ca, .slice c ds.length cc], .agg #[.bool g, .slice p ys.length cp, .slice r es.length cr]] w fun e w' => e = .returned (.bool (decide (b = g ∧ xs = ys ∧ ds = es))) ∧ Below w.heap.size w w' := by
  have hB := Below.refl w.heap.size w
  by_cases h1 : b = g ∧ xs = ys
  · have HW : Hid (decide (b = g ∧ xs = ys) = true) := decide_eq_true h1
    have hv : decide (b = g ∧ xs = ys ∧ ds = es) = decide (ds = es) := decide_eq_decide.2 ⟨fun h => h.2.2, fun h => ⟨h1.1, h1.2, h⟩⟩
    rw [hv]
    obtain ⟨v, hd⟩ : ∃ v, decide (ds = es) = v := ⟨_, rfl⟩
    rw [hd]
    have HD := hide hd
    clear hd hv h1
    go_enter Tryz.func14, Tryz.ntmps14
    have hA := Below.refl w.heap.size w
    have hq := below_new w (.cells #[.bool b, .slice a xs.length ca, .slice c ds.length cc] 30)
    replace FA := FA.below hq
    replace FB := FB.below hq
    have EA := Box.put (w := w) (k := (w.heap.size)) (.cells #[.bool b, .slice a xs.length ca, .slice c ds.length cc] 30) rfl
    replace hA := hA.trans (hq.mono hA.size)
    replace hB := hB.trans (hq.mono hB.size)
    clear hq
    have hq := below_new (w.alloc (.cells #[.bool b, .slice a xs.length ca, .slice c ds.length cc] 30)) (.cells #[.bool g, .slice p ys.length cp, .slice r es.length cr] 30)
    replace FA := FA.below hq
    replace FB := FB.below hq
    replace EA := EA.below hq
    have EB := Box.put (w := (w.alloc (.cells #[.bool b, .slice a xs.length ca, .slice c ds.length cc] 30))) (k := (w.heap.size + 1)) (.cells #[.bool g, .slice p ys.length cp, .slice r es.length cr] 30) (by simp)
    replace hA := hA.trans (hq.mono hA.size)
    replace hB := hB.trans (hq.mono hB.size)
    clear hq
    clear hA
    go_wp2_with fail
    obtain ⟨u1, hname⟩ := nm hB
    rw [hname] at hB FA FB EA EB ⊢
    have zh1 := hB.size
    clear hname
    have hk := samew_any b g FA.up FB.up (by omega)
    rw [HW.out] at hk
    refine (hk).mono ?_
    rintro e w2 ⟨rfl, hb⟩
    replace FA := FA.below hb
    replace FB := FB.below hb
    replace EA := EA.below hb
    replace EB := EB.below hb
    replace hB := hB.trans (hb.mono hB.size)
    have zz2 := hb.size
    have zh2 := hB.size
    clear hb
    clear hk
    obtain ⟨k0, k1, k2, f0, f1, f2⟩ := EA.three
    obtain ⟨k3, k4, k5, f3, f4, f5⟩ := EB.three
    go_wp2_with fail
    clear k0 k1 k2 f0 f1 f2 k3 k4 k5 f3 f4 f5
    have hk := samen_any FA.down FB.down (by omega)
    rw [HD.out] at hk
    refine (hk).mono ?_
    rintro e w3 ⟨rfl, hb⟩
    replace FA := FA.below hb
    replace FB := FB.below hb
    replace EA := EA.below hb
    replace EB := EB.below hb
    replace hB := hB.trans (hb.mono hB.size)
    have zz3 := hb.size
    have zh3 := hB.size
    clear hb
    clear hk
    obtain ⟨k0, k1, k2, f0, f1, f2⟩ := EA.three
    obtain ⟨k3, k4, k5, f3, f4, f5⟩ := EB.three
    go_wp2
    go_ret
    exact ⟨rfl, hB⟩
  · have HW : Hid (decide (b = g ∧ xs = ys) = false) := decide_eq_false h1
    rw [decide_eq_false (fun h => h1 ⟨h.1, h.2.1⟩)]
    clear h1
    go_enter Tryz.func14, Tryz.ntmps14
    have hA := Below.refl w.heap.size w
    have hq := below_new w (.cells #[.bool b, .slice a xs.length ca, .slice c ds.length cc] 30)
    replace FA := FA.below hq
    replace FB := FB.below hq
    have EA := Box.put (w := w) (k := (w.heap.size)) (.cells #[.bool b, .slice a xs.length ca, .slice c ds.length cc] 30) rfl
    replace hA := hA.trans (hq.mono hA.size)
    replace hB := hB.trans (hq.mono hB.size)
    clear hq
    have hq := below_new (w.alloc (.cells #[.bool b, .slice a xs.length ca, .slice c ds.length cc] 30)) (.cells #[.bool g, .slice p ys.length cp, .slice r es.length cr] 30)
    replace FA := FA.below hq
    replace FB := FB.below hq
    replace EA := EA.below hq
    have EB := Box.put (w := (w.alloc (.cells #[.bool b, .slice a xs.length ca, .slice c ds.length cc] 30))) (k := (w.heap.size + 1)) (.cells #[.bool g, .slice p ys.length cp, .slice r es.length cr] 30) (by simp)
    replace hA := hA.trans (hq.mono hA.size)
    replace hB := hB.trans (hq.mono hB.size)
    clear hq
    clear hA
    go_wp2_with fail
    obtain ⟨u1, hname⟩ := nm hB
    rw [hname] at hB FA FB EA EB ⊢
    have zh1 := hB.size
    clear hname
    have hk := samew_any b g FA.up FB.up (by omega)
    rw [HW.out] at hk
    refine (hk).mono ?_
    rintro e w2 ⟨rfl, hb⟩
    replace FA := FA.below hb
    replace FB := FB.below hb
    replace EA := EA.below hb
    replace EB := EB.below hb
    replace hB := hB.trans (hb.mono hB.size)
    have zz2 := hb.size
    have zh2 := hB.size
    clear hb
    clear hk
    obtain ⟨k0, k1, k2, f0, f1, f2⟩ := EA.three
    obtain ⟨k3, k4, k5, f3, f4, f5⟩ := EB.three
    go_wp2
    go_ret
    exact ⟨rfl, hB⟩
theorem samer_yes {lo lo2 : Nat} {a c p r : Option Addr} {ca cc cp cr : Nat} {xs ds : List Int} {w : World} (b : Bool) (FA : Fr lo w a ca xs c cc ds) (FB : Fr lo2 w p cp xs r cr ds) (hl : xs.length ≤ 1000) (hl2 : ds.length ≤ 1000) :
    Calls Tryz.prog 14 #[.agg #[.bool b, .slice a xs.length ca, .slice c ds.length cc], .agg #[.bool b, .slice p xs.length cp, .slice r ds.length cr]] w fun e w' => e = .returned (.bool true) ∧ Below w.heap.size w w' := by
  have h := samer_any b b FA FB hl hl2
  rw [decide_eq_true ⟨rfl, rfl, rfl⟩] at h
  exact h
theorem samer_is {lo lo2 : Nat} {a c p r : Option Addr} {ca cc cp cr : Nat} {xs ds ys es : List Int} {w : World} {b g : Bool} {q : Rat} {n m : Nat} (FA : Fr lo w a ca xs c cc ds) (FB : Fr lo2 w p cp ys r cr es) (IA : Is b xs ds q n) (IB : Is g ys es q m) (hn : n ≤ 1000) :
    Calls Tryz.prog 14 #[.agg #[.bool b, .slice a xs.length ca, .slice c ds.length cc], .agg #[.bool g, .slice p ys.length cp, .slice r es.length cr]] w fun e w' => e = .returned (.bool true) ∧ Below w.heap.size w w' := by
  have h := samer_any b g FA FB (Nat.le_trans IA.lu hn) (Nat.le_trans IA.ld hn)
  rw [decide_eq_true (lowL_unique FA.up.words FA.down.words FB.up.words FB.down.words IA.low IB.low (IA.rat.trans IB.rat.symm))] at h
  exact h
set_option maxRecDepth 100000 in
set_option maxHeartbeats 4000000 in
theorem longr_any (b : Bool) (a : Option Addr) (xs : List Int) (ca : Nat) (c : Option Addr) (ds : List Int) (cc : Nat) (most : Int) (w : World) :
    Calls Tryz.prog 15 #[.agg #[.bool b, .slice a xs.length ca, .slice c ds.length cc], .int .i64 most] w fun e w' => e = .returned (.bool (decide (most < (xs.length : Int) ∨ most < (ds.length : Int)))) ∧ Below w.heap.size w w' := by
  have hB0 : Below w.heap.size w (w.alloc (.cells #[.bool b, .slice a xs.length ca, .slice c ds.length cc] 30)) := (Below.refl _ w).alloc (Nat.le_refl _) _
  by_cases h1 : most < (xs.length : Int)
  · rw [decide_eq_true (Or.inl h1)]
    go_enter Tryz.func15, Tryz.ntmps15
    go_wp2
    go_ret
    exact ⟨rfl, hB0⟩
  · by_cases h2 : most < (ds.length : Int)
    · rw [decide_eq_true (Or.inr h2)]
      go_enter Tryz.func15, Tryz.ntmps15
      go_wp2
      go_ret
      exact ⟨rfl, hB0⟩
    · rw [decide_eq_false (by rintro (h | h) <;> contradiction)]
      go_enter Tryz.func15, Tryz.ntmps15
      go_wp2
      go_ret
      exact ⟨rfl, hB0⟩
def BoxesStay (w w' : World) : Prop := ∀ (k : Nat) (cs : Array Value) (t : TypeId), NoWord cs → Box w k (.cells cs t (0, 0)) → Box w' k (.cells cs t (0, 0))
theorem Seg.offBox {lo k : Nat} {W W' : World} {a : Option Addr} {c : Nat} {z : List Int} {cs : Array Value} {t : TypeId} (h : Seg lo W (.slice a z.length c) z) (E : Box W k (.cells cs t (0, 0))) (hs : NoWord cs) (ht : OverT lo a z W W') : Box W' k (.cells cs t (0, 0)) :=
  ⟨Nat.lt_of_lt_of_le E.lt ht.below.size, (ht.other k (fun hz b o e he => h.offU E hs hz b o e he.symm) E.lt).trans E.what⟩
set_option maxRecDepth 100000 in
set_option maxHeartbeats 4000000 in
theorem overr_any {lo : Nat} {a c : Option Addr} {ca cc : Nat} {xs ds : List Int} {w : World} (b : Bool) (FA : Fr lo w a ca xs c cc ds) (PA : Apart a c xs ds) (hl : xs.length ≤ 1000) (hl2 : ds.length ≤ 1000) (hlo : lo ≤ w.heap.size) :
    Calls Tryz.prog 27 #[.agg #[.bool b, .slice a xs.length ca, .slice c ds.length cc]] w fun e w' => e = .returned (.tuple #[]) ∧ Below lo w w' ∧ BoxesStay w w' := by
  have hB0 : Below w.heap.size w (w.alloc (.cells #[.bool b, .slice a xs.length ca, .slice c ds.length cc] 30)) := (Below.refl _ w).alloc (Nat.le_refl _) _
  have EA := Box.new w (.cells #[.bool b, .slice a xs.length ca, .slice c ds.length cc] 30)
  have F0 := FA.below hB0
  have PA' := hide PA
  clear PA
  go_enter Tryz.func27, Tryz.ntmps27
  go_wp2_with fail
  refine (over_ot F0.up (by omega)).mono ?_
  rintro e w1 ⟨rfl, hov⟩
  have E1 := F0.up.offBox EA (noWord3 (fun _ e => by cases e) (fun _ e => by cases e) (fun _ e => by cases e)) hov
  have S1 := F0.down.overt hov PA'.out
  have hB1 := (hB0.mono hlo).trans hov.below
  have hst1 : BoxesStay w w1 := fun k cs t nw E => F0.up.offBox (E.below hB0) nw hov
  obtain ⟨k0, k1, k2, _, _, _⟩ := E1.three
  clear hov
  go_wp2_with fail
  refine (over_ot S1 (by omega)).mono ?_
  rintro e w2 ⟨rfl, hov⟩
  have hB2 := hB1.trans hov.below
  have hst2 : BoxesStay w w2 := fun k cs t nw E => S1.offBox (hst1 k cs t nw E) nw hov
  clear hov k0 k1 k2
  go_wp2
  go_end0
  exact ⟨rfl, hB2, hst2⟩
def OfSaid (x d : Int) (w : World) (e : Ending) (w' : World) : Prop := ∃ (g : Bool) (a : Option Addr) (ca : Nat) (xs : List Int) (c : Option Addr) (cc : Nat) (ds : List Int), e = .returned (.agg #[.bool g, .slice a xs.length ca, .slice c ds.length cc]) ∧ Fr w.heap.size w' a ca xs c cc ds ∧ Apart a c xs ds ∧ Canon g xs ∧ Norm ds ∧ Hid (sgn g (val xs) = x) ∧ Hid (val ds = d) ∧ xs.length ≤ 1 ∧ ds.length ≤ 1 ∧ Below w.heap.size w w'
set_option maxRecDepth 100000 in
set_option maxHeartbeats 4000000 in
theorem lrof_pos (x d : Int) (hx : 0 < x ∧ x ≤ 1000) (hd : 0 < d ∧ d ≤ 1000) (w : World) :
    Calls Tryz.prog 17 #[.int .i64 x, .int .u64 d] w fun e w' => OfSaid x d w e w' := by
  have h1 : ¬ x < 0 := by omega
  have h2 : 0 < x := hx.1
  have h3 : IntKind.u64.wrap x = x := by rw [IntKind.wrap_u64]; omega
  have s1 := seg_lit ((w.alloc (.cells #[.bool false, (.slice (some ⟨w.heap.size + 1 + 1, 0, none⟩) 1 1), (.slice (some ⟨w.heap.size + 1 + 1 + 1, 0, none⟩) 1 1)] 30)).alloc (.cells #[.bool false, (.slice (some ⟨w.heap.size + 1 + 1, 0, none⟩) 1 1)] 28)) [x] (Words.cons (by omega) Words.nil)
  have s2 := seg_lit (((w.alloc (.cells #[.bool false, (.slice (some ⟨w.heap.size + 1 + 1, 0, none⟩) 1 1), (.slice (some ⟨w.heap.size + 1 + 1 + 1, 0, none⟩) 1 1)] 30)).alloc (.cells #[.bool false, (.slice (some ⟨w.heap.size + 1 + 1, 0, none⟩) 1 1)] 28)).alloc (.cells #[.int .u64 (x)] 42)) [d] (Words.cons (by omega) Words.nil)
  have s3 := s1.alloc (.cells #[.int .u64 d] 42)
  have hb : Below w.heap.size w ((((w.alloc (.cells #[.bool false, (.slice (some ⟨w.heap.size + 1 + 1, 0, none⟩) 1 1), (.slice (some ⟨w.heap.size + 1 + 1 + 1, 0, none⟩) 1 1)] 30)).alloc (.cells #[.bool false, (.slice (some ⟨w.heap.size + 1 + 1, 0, none⟩) 1 1)] 28)).alloc (.cells #[.int .u64 (x)] 42)).alloc (.cells #[.int .u64 d] 42)) := ((((Below.refl _ w).a1 _).a1 _).a1 _).a1 _
  rw [World.size_alloc, World.size_alloc] at s1 s2 s3
  rw [World.size_alloc] at s2
  clear s1
  go_enter Tryz.func17, Tryz.ntmps17
  go_wp2
  refine bodyPost_ret (v := .agg #[.bool false, (.slice (some ⟨w.heap.size + 1 + 1, 0, none⟩) 1 1), (.slice (some ⟨w.heap.size + 1 + 1 + 1, 0, none⟩) 1 1)]) (by simp [results, Tryz.f17, go_sem]) rfl ?_
  exact ⟨false, _, _, [x], _, _, [d], rfl, ⟨s3.mono (by omega), s2.mono (by omega)⟩, fun _ _ b1 o1 b2 o2 e1 e2 => by simp at e1 e2; omega, ⟨Or.inr (by simp; omega), fun _ => by simp⟩, Or.inr (by simp; omega), by rw [Hid, val_cons, val_nil]; simp [sgn], by rw [Hid, val_cons, val_nil]; omega, by simp, by simp, hb⟩
set_option maxRecDepth 100000 in
set_option maxHeartbeats 4000000 in
theorem lrof_neg (x d : Int) (hx : -1000 ≤ x ∧ x < 0) (hd : 0 < d ∧ d ≤ 1000) (w : World) :
    Calls Tryz.prog 17 #[.int .i64 x, .int .u64 d] w fun e w' => OfSaid x d w e w' := by
  have h1 : x < 0 := by omega
  have h2 : 0 < -x := by omega
  have h3 : IntKind.u64.wrap (-x) = -x := by rw [IntKind.wrap_u64]; omega
  have h4 : IntKind.i64.wrap (-x) = -x := by rw [IntKind.wrap_i64]; omega
  have s1 := seg_lit ((w.alloc (.cells #[.bool true, (.slice (some ⟨w.heap.size + 1 + 1, 0, none⟩) 1 1), (.slice (some ⟨w.heap.size + 1 + 1 + 1, 0, none⟩) 1 1)] 30)).alloc (.cells #[.bool true, (.slice (some ⟨w.heap.size + 1 + 1, 0, none⟩) 1 1)] 28)) [-x] (Words.cons (by omega) Words.nil)
  have s2 := seg_lit (((w.alloc (.cells #[.bool true, (.slice (some ⟨w.heap.size + 1 + 1, 0, none⟩) 1 1), (.slice (some ⟨w.heap.size + 1 + 1 + 1, 0, none⟩) 1 1)] 30)).alloc (.cells #[.bool true, (.slice (some ⟨w.heap.size + 1 + 1, 0, none⟩) 1 1)] 28)).alloc (.cells #[.int .u64 (-x)] 42)) [d] (Words.cons (by omega) Words.nil)
  have s3 := s1.alloc (.cells #[.int .u64 d] 42)
  have hb : Below w.heap.size w ((((w.alloc (.cells #[.bool true, (.slice (some ⟨w.heap.size + 1 + 1, 0, none⟩) 1 1), (.slice (some ⟨w.heap.size + 1 + 1 + 1, 0, none⟩) 1 1)] 30)).alloc (.cells #[.bool true, (.slice (some ⟨w.heap.size + 1 + 1, 0, none⟩) 1 1)] 28)).alloc (.cells #[.int .u64 (-x)] 42)).alloc (.cells #[.int .u64 d] 42)) := ((((Below.refl _ w).a1 _).a1 _).a1 _).a1 _
  rw [World.size_alloc, World.size_alloc] at s1 s2 s3
  rw [World.size_alloc] at s2
  clear s1
  go_enter Tryz.func17, Tryz.ntmps17
  go_wp2
  refine bodyPost_ret (v := .agg #[.bool true, (.slice (some ⟨w.heap.size + 1 + 1, 0, none⟩) 1 1), (.slice (some ⟨w.heap.size + 1 + 1 + 1, 0, none⟩) 1 1)]) (by simp [results, Tryz.f17, go_sem]) rfl ?_
  exact ⟨true, _, _, [-x], _, _, [d], rfl, ⟨s3.mono (by omega), s2.mono (by omega)⟩, fun _ _ b1 o1 b2 o2 e1 e2 => by simp at e1 e2; omega, ⟨Or.inr (by simp; omega), fun _ => by simp⟩, Or.inr (by simp; omega), by rw [Hid, val_cons, val_nil]; simp [sgn], by rw [Hid, val_cons, val_nil]; omega, by simp, by simp, hb⟩
set_option maxRecDepth 100000 in
set_option maxHeartbeats 4000000 in
theorem lrof_zero (x d : Int) (hx : x = 0) (hd : 0 < d ∧ d ≤ 1000) (w : World) :
    Calls Tryz.prog 17 #[.int .i64 x, .int .u64 d] w fun e w' => OfSaid x d w e w' := by
  subst hx
  have s2 := seg_lit ((w.alloc (.cells #[.bool false, .slice none 0 0, (.slice (some ⟨w.heap.size + 1 + 1, 0, none⟩) 1 1)] 30)).alloc (.cells #[.bool false, .slice none 0 0] 28)) [d] (Words.cons (by omega) Words.nil)
  have hb : Below w.heap.size w (((w.alloc (.cells #[.bool false, .slice none 0 0, (.slice (some ⟨w.heap.size + 1 + 1, 0, none⟩) 1 1)] 30)).alloc (.cells #[.bool false, .slice none 0 0] 28)).alloc (.cells #[.int .u64 d] 42)) := (((Below.refl _ w).a1 _).a1 _).a1 _
  rw [World.size_alloc, World.size_alloc] at s2
  go_enter Tryz.func17, Tryz.ntmps17
  go_wp2
  refine bodyPost_ret (v := .agg #[.bool false, .slice none 0 0, (.slice (some ⟨w.heap.size + 1 + 1, 0, none⟩) 1 1)]) (by simp [results, Tryz.f17, go_sem]) rfl ?_
  exact ⟨false, none, 0, [], _, _, [d], rfl, ⟨Seg.nil _ _, s2.mono (by omega)⟩, fun h => absurd rfl h, ⟨norm_nil, fun h => by cases h⟩, Or.inr (by simp; omega), by rw [Hid, val_nil]; rfl, by rw [Hid, val_cons, val_nil]; omega, by simp, by simp, hb⟩
theorem lrof_any (x d : Int) (hx : -1000 ≤ x ∧ x ≤ 1000) (hd : 0 < d ∧ d ≤ 1000) (w : World) :
    Calls Tryz.prog 17 #[.int .i64 x, .int .u64 d] w fun e w' => OfSaid x d w e w' := by
  rcases Int.lt_trichotomy x 0 with h | h | h
  · exact lrof_neg x d ⟨hx.1, h⟩ hd w
  · exact lrof_zero x d h hd w
  · exact lrof_pos x d ⟨h, hx.2⟩ hd w
theorem of_is {g : Bool} {xs ds : List Int} {x d : Int} (N1 : Canon g xs) (N2 : Norm ds) (V1 : Hid (sgn g (val xs) = x)) (V2 : Hid (val ds = d)) (l1 : xs.length ≤ 1) (l2 : ds.length ≤ 1) (hg : Int.gcd x d = 1) (hd : 0 < d) : Is g xs ds (Rat.divInt x d) 1 := by
  refine ⟨⟨N1, N2, ?_⟩, ?_, l1, l2⟩
  · rw [V1.out, V2.out]; exact ⟨hd, hg⟩
  · rw [ratL, V1.out, V2.out]
theorem of_none {g : Bool} {xs ds : List Int} {x d : Int} (wx : Words xs) (wd : Words ds) (V1 : Hid (sgn g (val xs) = x)) (V2 : Hid (val ds = d)) (hg : Int.gcd x d ≠ 1) : formR g xs ds = 6 := by
  rcases formR_or g xs ds with h | h
  · have := ((formR_low wx wd).1 h).2.2.2
    rw [V1.out, V2.out] at this
    exact absurd this hg
  · exact h
set_option maxRecDepth 100000 in
set_option maxHeartbeats 4000000 in
theorem lris_yes {lo : Nat} {a c : Option Addr} {ca cc : Nat} {xs ds : List Int} {w : World} (b : Bool) (FA : Fr lo w a ca xs c cc ds) {n : Nat} (up down : Int) (hup : -1000 ≤ up ∧ up ≤ 1000) (hdn : 0 < down ∧ down ≤ 1000) (hgc : Int.gcd up down = 1) (IA : Is b xs ds (Rat.divInt up down) n) (hn : n ≤ 1000) :
    Calls Tryz.prog 18 #[.agg #[.bool b, .slice a xs.length ca, .slice c ds.length cc], .int .i64 0, .int .i64 up, .int .u64 down] w fun e w' => e = .returned (.bool true) ∧ Below w.heap.size w w' := by
  have hB := Below.refl w.heap.size w
  have hd0 := hdn.1
  go_enter Tryz.func18, Tryz.ntmps18
  have hA := Below.refl w.heap.size w
  have hq := below_new w (.cells #[.bool b, .slice a xs.length ca, .slice c ds.length cc] 30)
  replace FA := FA.below hq
  have EA := Box.put (w := w) (k := (w.heap.size)) (.cells #[.bool b, .slice a xs.length ca, .slice c ds.length cc] 30) rfl
  replace hA := hA.trans (hq.mono hA.size)
  replace hB := hB.trans (hq.mono hB.size)
  clear hq
  clear hA
  go_wp2_with fail
  obtain ⟨u1, hname⟩ := nm hB
  rw [hname] at hB FA EA ⊢
  have zh1 := hB.size
  clear hname
  replace FA := FA.drew
  have qEA := EA.lt
  replace EA := EA.drew
  have hr := Below.refl u1.drew.heap.size u1.drew
  have hkeep : ∀ V : World, Below u1.drew.heap.size u1.drew V → V.cell? ⟨w.heap.size, 0, none⟩ = some (.bool b) ∧ V.cell? ⟨w.heap.size, 1, none⟩ = some (.slice a xs.length ca) ∧ V.cell? ⟨w.heap.size, 2, none⟩ = some (.slice c ds.length cc) := fun V hV => ⟨(EA.below hV).three.1, (EA.below hV).three.2.1, (EA.below hV).three.2.2.1⟩
  have t0 : Hid True := trivial
  go_region_held3 (fun V : World => V.cell? ⟨w.heap.size, 0, none⟩ = some (.bool b) ∧ V.cell? ⟨w.heap.size, 1, none⟩ = some (.slice a xs.length ca) ∧ V.cell? ⟨w.heap.size, 2, none⟩ = some (.slice c ds.length cc))
    (first | exact hkeep _ hr | exact hkeep _ (hr.a1 _) | exact hkeep _ ((hr.a1 _).a1 _) | exact hkeep _ (((hr.a1 _).a1 _).a1 _) | exact hkeep _ ((((hr.a1 _).a1 _).a1 _).a1 _))
    (first
    | (clear t0
       go_at_call 17
       refine (lrof_any up down hup hdn _).mono ?_
       rintro e w2 ⟨g1, a1, c1, x1, e1, t1, y1, rfl, F1, P1, N1, N2, V1, V2, b1, b2, hb⟩
       have I1 := of_is N1 N2 V1 V2 b1 b2 hgc hd0
       clear P1 V1 V2
       replace FA := FA.below hb
       replace EA := EA.below hb
       replace hr := hr.trans (hb.mono hr.size)
       have zw2 := hb.size
       clear hb
       have t1 : Hid True := trivial)
    | (clear t1
       go_at_call 14
       refine (samer_is FA F1 IA I1 (by omega)).mono ?_
       rintro e w3 ⟨rfl, hb⟩
       replace FA := FA.below hb
       replace EA := EA.below hb
       replace F1 := F1.below hb
       replace hr := hr.trans (hb.mono hr.size)
       have zw3 := hb.size
       clear hb
       have t2 : Hid True := trivial))
  replace hB := hB.trans ((Below.trans (Below.drew (Below.refl u1.heap.size u1)) hr).mono hB.size)
  have zi_3 := hB.size
  clear hr hkeep t2
  obtain ⟨k0, k1, k2, f0, f1, f2⟩ := EA.three
  go_wp2
  go_ret
  exact ⟨rfl, hB⟩
set_option maxRecDepth 100000 in
set_option maxHeartbeats 4000000 in
theorem lrlike_yes {lo lo2 : Nat} {a c p r : Option Addr} {ca cc cp cr : Nat} {xs ds : List Int} {w : World} (b : Bool) (FA : Fr lo w a ca xs c cc ds) (FB : Fr lo2 w p cp xs r cr ds) (PA : Apart a c xs ds) (hl : xs.length ≤ 1000 ∧ ds.length ≤ 1000) (hlo : lo ≤ w.heap.size) (er : Int) :
    Calls Tryz.prog 9 #[.agg #[.bool b, .slice a xs.length ca, .slice c ds.length cc], .int .i64 er, .agg #[.bool b, .slice p xs.length cp, .slice r ds.length cr], .int .i64 er] w fun e w' => e = .returned (.bool true) ∧ Below lo w w' ∧ BoxesStay w w' := by
  have hB := Below.refl w.heap.size w
  have PA' := hide PA
  clear PA
  go_enter Tryz.func9, Tryz.ntmps9
  have hA := Below.refl w.heap.size w
  have hq := below_new w (.cells #[.bool b, .slice a xs.length ca, .slice c ds.length cc] 30)
  replace FA := FA.below hq
  replace FB := FB.below hq
  have EA := Box.put (w := w) (k := (w.heap.size)) (.cells #[.bool b, .slice a xs.length ca, .slice c ds.length cc] 30) rfl
  replace hA := hA.trans (hq.mono hA.size)
  replace hB := hB.trans (hq.mono hB.size)
  clear hq
  have hq := below_new (w.alloc (.cells #[.bool b, .slice a xs.length ca, .slice c ds.length cc] 30)) (.cells #[.bool b, .slice p xs.length cp, .slice r ds.length cr] 30)
  replace FA := FA.below hq
  replace FB := FB.below hq
  replace EA := EA.below hq
  have EB := Box.put (w := (w.alloc (.cells #[.bool b, .slice a xs.length ca, .slice c ds.length cc] 30))) (k := (w.heap.size + 1)) (.cells #[.bool b, .slice p xs.length cp, .slice r ds.length cr] 30) (by simp)
  replace hA := hA.trans (hq.mono hA.size)
  replace hB := hB.trans (hq.mono hB.size)
  clear hq
  clear hA
  go_wp2_with fail
  obtain ⟨u1, hname⟩ := nm hB
  rw [hname] at hB FA FB EA EB ⊢
  have zh1 := hB.size
  clear hname
  refine (samer_yes b FA FB (by omega) (by omega)).mono ?_
  rintro e w2 ⟨rfl, hb⟩
  replace FA := FA.below hb
  replace FB := FB.below hb
  replace EA := EA.below hb
  replace EB := EB.below hb
  replace hB := hB.trans (hb.mono hB.size)
  have zz2 := hb.size
  have zh2 := hB.size
  clear hb
  have hoB : Below w.heap.size w w2 := hB
  obtain ⟨k0, k1, k2, f0, f1, f2⟩ := EA.three
  obtain ⟨k3, k4, k5, f3, f4, f5⟩ := EB.three
  go_wp2_with fail
  clear k0 k1 k2 f0 f1 f2 k3 k4 k5 f3 f4 f5
  refine (overr_any b FA PA'.out (by omega) (by omega) (by omega)).mono ?_
  rintro e wz ⟨rfl, hov, hst⟩
  have hfin := hoB.mono hlo
  replace hfin := hfin.trans hov
  have hstay : BoxesStay w wz := fun k cs t nw E => hst k cs t nw (E.below hoB)
  clear hov hoB hst
  go_wp2
  go_ret
  exact ⟨rfl, hfin, hstay⟩
inductive AnsIs (n : Nat) : Except Int Rat → Bool → List Int → List Int → Int → Prop where
  | ok {q : Rat} {g : Bool} {ts es : List Int} (h : Is g ts es q n) : AnsIs n (.ok q) g ts es 0
  | err (c : Int) : AnsIs n (.error c) false [] [] c
theorem AnsIs.unique {n m : Nat} {s : Except Int Rat} {g g' : Bool} {ts es ts' es' : List Int} {er er' : Int} (h : AnsIs n s g ts es er) (h' : AnsIs m s g' ts' es' er') (w1 : Words ts) (w2 : Words es) (w3 : Words ts') (w4 : Words es') : g = g' ∧ ts = ts' ∧ es = es' ∧ er = er' := by
  cases h with
  | ok h => cases h' with
    | ok k => obtain ⟨a, b, c⟩ := lowL_unique w1 w2 w3 w4 h.low k.low (h.rat.trans k.rat.symm); exact ⟨a, b, c, rfl⟩
  | err c => cases h'; exact ⟨rfl, rfl, rfl, rfl⟩
theorem AnsIs.len {n : Nat} {s : Except Int Rat} {g : Bool} {ts es : List Int} {er : Int} (h : AnsIs n s g ts es er) : ts.length ≤ n ∧ es.length ≤ n := by
  cases h with
  | ok h => exact ⟨h.lu, h.ld⟩
  | err c => exact ⟨Nat.zero_le _, Nat.zero_le _⟩
def AnsSaid (s : Except Int Rat) (n : Nat) (w : World) (e : Ending) (w' : World) : Prop :=
  ∃ (g : Bool) (a : Option Addr) (ca : Nat) (ts : List Int) (c : Option Addr) (cc : Nat) (es : List Int) (er : Int), e = .returned (.tuple #[.agg #[.bool g, .slice a ts.length ca, .slice c es.length cc], .int .i64 er]) ∧ Fr w.heap.size w' a ca ts c cc es ∧ Apart a c ts es ∧ AnsIs n s g ts es er ∧ Below w.heap.size w w'
theorem AnsSaid.of_err {s : Except Int Rat} {n : Nat} {w w' : World} {e : Ending} {c : Int} (h : e = .returned (.tuple #[.agg #[.bool false, .slice none 0 0, .slice none 0 0], .int .i64 c]) ∧ Below w.heap.size w w') (hs : s = .error c) : AnsSaid s n w e w' := by
  subst hs
  exact ⟨false, none, 0, [], none, 0, [], c, h.1, ⟨Seg.nil _ _, Seg.nil _ _⟩, fun h => absurd rfl h, .err c, h.2⟩
theorem AnsSaid.of_fe {s : Except Int Rat} {n : Nat} {w w' : World} {e : Ending} {q : Rat} (h : ∃ (b' : Bool) (a' : Option Addr) (ca' : Nat) (ts' : List Int) (c' : Option Addr) (cc' : Nat) (es' : List Int), e = .returned (.tuple #[.agg #[.bool b', .slice a' ts'.length ca', .slice c' es'.length cc'], .int .i64 0]) ∧ Fr w.heap.size w' a' ca' ts' c' cc' es' ∧ Apart a' c' ts' es' ∧ Is b' ts' es' (q) (n) ∧ Below w.heap.size w w') (hs : s = .ok q) : AnsSaid s n w e w' := by
  subst hs
  obtain ⟨g, a, ca, ts, c, cc, es, he, F, P, I, hb⟩ := h
  exact ⟨g, a, ca, ts, c, cc, es, 0, he, F, P, .ok I, hb⟩
theorem lrlike_ans {lo lo2 : Nat} {a c p r : Option Addr} {ca cc cp cr : Nat} {xs ds ys es : List Int} {w : World} {b g : Bool} {e1 e2 : Int} {s : Except Int Rat} {n m : Nat} (FA : Fr lo w a ca xs c cc ds) (FB : Fr lo2 w p cp ys r cr es) (PA : Apart a c xs ds) (h : AnsIs n s b xs ds e1) (k : AnsIs m s g ys es e2) (hn : n ≤ 1000) (hlo : lo ≤ w.heap.size) :
    Calls Tryz.prog 9 #[.agg #[.bool b, .slice a xs.length ca, .slice c ds.length cc], .int .i64 e1, .agg #[.bool g, .slice p ys.length cp, .slice r es.length cr], .int .i64 e2] w fun e w' => e = .returned (.bool true) ∧ Below lo w w' ∧ BoxesStay w w' := by
  obtain ⟨rfl, rfl, rfl, rfl⟩ := h.unique k FA.up.words FA.down.words FB.up.words FB.down.words
  have hl := h.len
  exact lrlike_yes b FA FB PA ⟨by omega, by omega⟩ hlo e1
def makeS (b : Bool) (xs ds : List Int) : Except Int Rat := if formI b xs = 0 then (if val ds = 0 then .error 5 else .ok (Rat.divInt (sgn b (val xs)) (val ds))) else .error 6
def pairS (x y : Int) : Except Int Rat := if y = 0 then .error 5 else .ok (Rat.divInt x y)
structure GoodIs (v : Bool) (rs : List RV) : Prop where
  out : v = true ↔ ∀ r ∈ rs, formR r.b r.xs r.ds = 0
def longB (r : RV) : Bool := decide ((5 : Int) < (r.xs.length : Int) ∨ (5 : Int) < (r.ds.length : Int))
structure LongIs (v : Bool) (rs : List RV) : Prop where
  out : v = true ↔ 6 < rs.length ∨ ∃ r ∈ rs.take 7, longB r = true
set_option maxRecDepth 100000 in
set_option maxHeartbeats 2000000 in
theorem lrlong_any {sv : Option Addr} {cap : Nat} {rs : List RV} {w : World} (R : Row 0 w sv rs) (v : Bool) (hv : LongIs v rs) :
    Calls Tryz.prog 4 #[.slice sv rs.length cap] w fun e w' => e = .returned (.bool v) ∧ Below w.heap.size w w' := by
  go_enter Tryz.func4, Tryz.ntmps4
  go_wp2
  go_loopw [3] (fun iv wr => ∃ (i : Nat), iv = .int .i64 i ∧ i ≤ rs.length ∧ i ≤ 7 ∧ Row 0 wr sv rs ∧ Below w.heap.size w wr ∧ Hid (∀ r ∈ rs.take i, longB r = false)) (fun iv _ => rs.length - (intOf iv).toNat)
  case atStart => exact ⟨0, rfl, Nat.zero_le _, by omega, R, Below.refl _ _, by rw [Hid]; simp⟩
  case round =>
    clear R
    obtain ⟨i, rfl, hi, hi7, R, hB, HG⟩ := hrel
    have hw1 : IntKind.i64.wrap ((i : Int) + 1) = (i : Int) + 1 := by rw [IntKind.wrap_i64]; omega
    by_cases hlt : i < rs.length
    · have hlt2 : (i : Int) < (rs.length : Int) := by omega
      have hge : ¬ (i : Int) < 0 := by omega
      by_cases h7 : i < 7
      · have h72 : (i : Int) < 7 := by omega
        obtain ⟨g, o, rfl, hg⟩ := R.at_ i hlt
        obtain ⟨r, hr0⟩ : ∃ r, rs[i]? = some r := ⟨rs[i], List.getElem?_eq_getElem hlt⟩
        have hr := hide hr0
        clear hr0
        have hcc := R.cells g o i r rfl hr.out
        have c0 := hcc.1
        have c1 := hcc.2.1
        have c2 := hcc.2.2
        have hk := fun w => longr_any r.b r.a r.xs r.ca r.c r.ds r.cc 5 w
        have hms : rs.length - (i + 1) < rs.length - i := by omega
        have hmem : r ∈ rs.take 7 := by
          refine List.mem_iff_getElem?.2 ⟨i, ?_⟩
          rw [List.getElem?_take_of_lt h7]
          exact hr.out
        have HM := hide hmem
        clear hcc hmem
        obtain ⟨x, hx⟩ : ∃ x, decide ((5 : Int) < (r.xs.length : Int) ∨ (5 : Int) < (r.ds.length : Int)) = x := ⟨_, rfl⟩
        rw [hx] at hk
        have HX : Hid (longB r = x) := hx
        clear hx
        cases x with
        | false =>
          go_wp2_with fail
          refine (hk _).mono ?_
          rintro e w1 ⟨rfl, hb1⟩
          have R1 := R.below hb1
          have hB1 := hB.trans (hb1.mono hB.size)
          clear hk c0 c1 c2
          go_wp2
          refine ⟨⟨i + 1, by simp, by omega, by omega, R1, hB1, ?_⟩, by simpa [intOf] using hms⟩
          rw [Hid]
          intro s hs
          rw [List.take_add_one, hr.out] at hs
          simp only [Option.toList_some, List.mem_append, List.mem_singleton] at hs
          rcases hs with hs | rfl
          · exact HG.out s hs
          · exact HX.out
        | true =>
          obtain rfl : v = true := hv.out.2 (Or.inr ⟨r, HM.out, HX.out⟩)
          go_wp2_with fail
          refine (hk _).mono ?_
          rintro e w1 ⟨rfl, hb1⟩
          have hB1 := hB.trans (hb1.mono hB.size)
          clear hk c0 c1 c2
          go_wp2
          go_ret
          exact ⟨rfl, hB1⟩
      · have h72 : ¬ (i : Int) < 7 := by omega
        have h6 : (6 : Int) < (rs.length : Int) := by omega
        obtain rfl : v = true := hv.out.2 (Or.inl (by omega))
        go_wp2
        go_ret
        exact ⟨rfl, hB⟩
    · have hnl : ¬ (i : Int) < (rs.length : Int) := by omega
      by_cases h6 : 6 < rs.length
      · have h62 : (6 : Int) < (rs.length : Int) := by omega
        obtain rfl : v = true := hv.out.2 (Or.inl h6)
        go_wp2
        go_ret
        exact ⟨rfl, hB⟩
      · have h62 : ¬ (6 : Int) < (rs.length : Int) := by omega
        obtain rfl : v = false := by
          cases v
          · rfl
          · rcases hv.out.1 rfl with h | ⟨r, hr, hl⟩
            · exact absurd h h6
            · have h0 := HG.out
              rw [List.take_of_length_le (by omega)] at h0 hr
              rw [h0 r hr] at hl
              cases hl
        go_wp2
        go_ret
        exact ⟨rfl, hB⟩
end Go.Proofs.YtegopbhidgbjpaaGreat
