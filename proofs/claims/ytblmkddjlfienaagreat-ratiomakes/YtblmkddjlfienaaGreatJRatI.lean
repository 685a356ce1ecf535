/-
  Joined: RatI RatJ RatL RatM RPower Lits.
-/
import Derived.Test.YtblmkddjlfienaaGreatJRatG
import Derived.Test.YtblmkddjlfienaaGreatJSigB
import Derived.Test.YtblmkddjlfienaaGreatJRMulB
import Derived.Test.YtblmkddjlfienaaGreatJMul
import Derived.Test.YtblmkddjlfienaaGreatKit
/-
  What fold says, by the func that joins; rows of some fractions.
-/
namespace Go.Proofs.YtblmkddjlfienaaGreat
open Go.RowKit

theorem enter_plus (args : Array Value) (w : World) : (callFunc 45 args).run Tryz.prog w = .ok (.enter 45 args) w := by kernel_rfl
theorem enter_product (args : Array Value) (w : World) : (callFunc 51 args).run Tryz.prog w = .ok (.enter 51 args) w := by kernel_rfl
theorem enter_minus (args : Array Value) (w : World) : (callFunc 62 args).run Tryz.prog w = .ok (.enter 62 args) w := by kernel_rfl
theorem enter_over (args : Array Value) (w : World) : (callFunc 64 args).run Tryz.prog w = .ok (.enter 64 args) w := by kernel_rfl
def opAdd (q s : Rat) : Option Rat := some (q + s)
def opMul (q s : Rat) : Option Rat := some (q * s)
def opSub (q s : Rat) : Option Rat := some (q - s)
def opDiv (q s : Rat) : Option Rat := if s = 0 then none else some (q / s)
def sumQ (rs : List RV) : Rat := rs.foldl (fun q r => q + r.q) 0
def mulQ (rs : List RV) : Rat := rs.foldl (fun q r => q * r.q) 1
theorem opFold_add (q : Rat) (rs : List RV) : opFold opAdd q rs = some (rs.foldl (fun q r => q + r.q) q) := by
  induction rs generalizing q with
  | nil => rfl
  | cons r rs ih => exact ih (q + r.q)
theorem opFold_mul (q : Rat) (rs : List RV) : opFold opMul q rs = some (rs.foldl (fun q r => q * r.q) q) := by
  induction rs generalizing q with
  | nil => rfl
  | cons r rs ih => exact ih (q * r.q)

theorem fold_add {lo : Nat} {sv : Option Addr} {cap : Nat} {rs : List RV} {w : World} (R : Row 0 w sv rs) {a c : Option Addr} {ca cc : Nat} {xs ds : List Int} (b : Bool) (FA : Fr lo w a ca xs c cc ds) {n m : Nat} (hl : xs.length ≤ n ∧ ds.length ≤ n) (hrl : rs.length ≤ 6) (hlen : ∀ r ∈ rs, r.xs.length ≤ m ∧ r.ds.length ≤ m) (hn : n ≤ 40) (hm : m ≤ 40) :
    Calls Tryz.prog 44 #[.func (.func 45) #[] #[], .agg #[.bool b, .slice a xs.length ca, .slice c ds.length cc], .slice sv rs.length cap] w fun e w' => FoldSaid opAdd w b a ca xs c cc ds rs (n + rs.length * (m + 1)) e w' ∧ Below w.heap.size w w' := by
  refine fold_any 45 opAdd R b FA hl hrl hlen hn hm enter_plus ?_ ?_
  · intro W b1 a1 n1 x1 e1 m1 y1 q1 k r t F1 F2 I1 I2 hk ht
    refine (plus_any b1 r.b F1 F2 I1 I2 hk).mono ?_
    rintro e w' ⟨b', a', ca', ts, c', cc', es, rfl, F, P, I, hb⟩
    exact ⟨b', a', ca', ts, c', cc', es, rfl, F, P, I.to (Option.some.inj ht), hb⟩
  · intro W b1 a1 n1 x1 e1 m1 y1 q1 k r F1 F2 I1 I2 hk ht
    cases ht
theorem fold_mul {lo : Nat} {sv : Option Addr} {cap : Nat} {rs : List RV} {w : World} (R : Row 0 w sv rs) {a c : Option Addr} {ca cc : Nat} {xs ds : List Int} (b : Bool) (FA : Fr lo w a ca xs c cc ds) {n m : Nat} (hl : xs.length ≤ n ∧ ds.length ≤ n) (hrl : rs.length ≤ 6) (hlen : ∀ r ∈ rs, r.xs.length ≤ m ∧ r.ds.length ≤ m) (hn : n ≤ 40) (hm : m ≤ 40) :
    Calls Tryz.prog 44 #[.func (.func 51) #[] #[], .agg #[.bool b, .slice a xs.length ca, .slice c ds.length cc], .slice sv rs.length cap] w fun e w' => FoldSaid opMul w b a ca xs c cc ds rs (n + rs.length * (m + 1)) e w' ∧ Below w.heap.size w w' := by
  refine fold_any 51 opMul R b FA hl hrl hlen hn hm enter_product ?_ ?_
  · intro W b1 a1 n1 x1 e1 m1 y1 q1 k r t F1 F2 I1 I2 hk ht
    refine (product_any b1 r.b F1 F2 I1 I2 hk).mono ?_
    rintro e w' ⟨b', a', ca', ts, c', cc', es, rfl, F, P, I, hb⟩
    exact ⟨b', a', ca', ts, c', cc', es, rfl, F, P, (I.mono (by omega)).to (Option.some.inj ht), hb⟩
  · intro W b1 a1 n1 x1 e1 m1 y1 q1 k r F1 F2 I1 I2 hk ht
    cases ht
theorem fold_sub {lo : Nat} {sv : Option Addr} {cap : Nat} {rs : List RV} {w : World} (R : Row 0 w sv rs) {a c : Option Addr} {ca cc : Nat} {xs ds : List Int} (b : Bool) (FA : Fr lo w a ca xs c cc ds) {n m : Nat} (hl : xs.length ≤ n ∧ ds.length ≤ n) (hrl : rs.length ≤ 6) (hlen : ∀ r ∈ rs, r.xs.length ≤ m ∧ r.ds.length ≤ m) (hn : n ≤ 40) (hm : m ≤ 40) :
    Calls Tryz.prog 44 #[.func (.func 62) #[] #[], .agg #[.bool b, .slice a xs.length ca, .slice c ds.length cc], .slice sv rs.length cap] w fun e w' => FoldSaid opSub w b a ca xs c cc ds rs (n + rs.length * (m + 1)) e w' ∧ Below w.heap.size w w' := by
  refine fold_any 62 opSub R b FA hl hrl hlen hn hm enter_minus ?_ ?_
  · intro W b1 a1 n1 x1 e1 m1 y1 q1 k r t F1 F2 I1 I2 hk ht
    refine (minus_any b1 r.b F1 F2 I1 I2 hk).mono ?_
    rintro e w' ⟨b', a', ca', ts, c', cc', es, rfl, F, P, I, hb⟩
    exact ⟨b', a', ca', ts, c', cc', es, rfl, F, P, I.to (Option.some.inj ht), hb⟩
  · intro W b1 a1 n1 x1 e1 m1 y1 q1 k r F1 F2 I1 I2 hk ht
    cases ht
theorem fold_div {lo : Nat} {sv : Option Addr} {cap : Nat} {rs : List RV} {w : World} (R : Row 0 w sv rs) {a c : Option Addr} {ca cc : Nat} {xs ds : List Int} (b : Bool) (FA : Fr lo w a ca xs c cc ds) {n m : Nat} (hl : xs.length ≤ n ∧ ds.length ≤ n) (hrl : rs.length ≤ 6) (hlen : ∀ r ∈ rs, r.xs.length ≤ m ∧ r.ds.length ≤ m) (hn : n ≤ 40) (hm : m ≤ 40) :
    Calls Tryz.prog 44 #[.func (.func 64) #[] #[], .agg #[.bool b, .slice a xs.length ca, .slice c ds.length cc], .slice sv rs.length cap] w fun e w' => FoldSaid opDiv w b a ca xs c cc ds rs (n + rs.length * (m + 1)) e w' ∧ Below w.heap.size w w' := by
  refine fold_any 64 opDiv R b FA hl hrl hlen hn hm enter_over ?_ ?_
  · intro W b1 a1 n1 x1 e1 m1 y1 q1 k r t F1 F2 I1 I2 hk ht
    have h0 : ¬ r.q = 0 := fun h0 => by unfold opDiv at ht; rw [if_pos h0] at ht; cases ht
    have ht' : q1 / r.q = t := by unfold opDiv at ht; rw [if_neg h0] at ht; exact Option.some.inj ht
    refine (over_any b1 r.b F1 F2 I1 I2 (fun h => h0 ((I2.zero_iff F2.up.words).2 h)) hk).mono ?_
    rintro e w' ⟨b', a', ca', ts, c', cc', es, rfl, F, P, I, hb⟩
    exact ⟨b', a', ca', ts, c', cc', es, rfl, F, P, (I.mono (by omega)).to ht', hb⟩
  · intro W b1 a1 n1 x1 e1 m1 y1 q1 k r F1 F2 I1 I2 hk ht
    have h0 : r.q = 0 := Classical.byContradiction fun h0 => by unfold opDiv at ht; rw [if_neg h0] at ht; cases ht
    exact over_zero b1 r.b F1 F2 ((I2.zero_iff F2.up.words).1 h0)

theorem FoldSaid.okL {op : Rat → Rat → Option Rat} {w w' : World} {b : Bool} {a : Option Addr} {ca : Nat} {xs : List Int} {c : Option Addr} {cc : Nat} {ds : List Int} {rs : List RV} {N : Nat} {e : Ending} {t : Rat} {lo : Nat} (h : FoldSaid op w b a ca xs c cc ds rs N e w') (hb : Below w.heap.size w w') (hg : AllGood b xs ds rs) (ht : opFold op (ratL b xs ds) rs = some t) (FA : Fr lo w a ca xs c cc ds) (PA : Apart a c xs ds) (hlo : lo ≤ w.heap.size) : ∃ (b' : Bool) (a' : Option Addr) (ca' : Nat) (ts : List Int) (c' : Option Addr) (cc' : Nat) (es : List Int), e = .returned (.tuple #[.agg #[.bool b', .slice a' ts.length ca', .slice c' es.length cc'], .int .i64 0]) ∧ Fr lo w' a' ca' ts c' cc' es ∧ Apart a' c' ts es ∧ Is b' ts es t N ∧ Below w.heap.size w w' := by
  rcases h with ⟨_, t', ht', b', a', ca', ts, c', cc', es, he, hI, hm⟩ | ⟨_, hn, _⟩ | ⟨hn, _⟩
  · rw [ht] at ht'
    obtain rfl := Option.some.inj ht'
    rcases hm with ⟨_, rfl, rfl, rfl, rfl, rfl, rfl, rfl⟩ | ⟨h1, h2⟩
    · exact ⟨_, _, _, _, _, _, _, he, FA.below hb, PA, hI, hb⟩
    · exact ⟨_, _, _, _, _, _, _, he, h1.mono hlo, h2, hI, hb⟩
  · rw [ht] at hn; cases hn
  · exact absurd hg hn
theorem FoldSaid.okN {op : Rat → Rat → Option Rat} {w w' : World} {b : Bool} {a : Option Addr} {ca : Nat} {xs : List Int} {c : Option Addr} {cc : Nat} {ds : List Int} {rs : List RV} {N : Nat} {e : Ending} {t : Rat} (h : FoldSaid op w b a ca xs c cc ds rs N e w') (hb : Below w.heap.size w w') (hg : AllGood b xs ds rs) (ht : opFold op (ratL b xs ds) rs = some t) (hne : rs ≠ []) : ∃ (b' : Bool) (a' : Option Addr) (ca' : Nat) (ts : List Int) (c' : Option Addr) (cc' : Nat) (es : List Int), e = .returned (.tuple #[.agg #[.bool b', .slice a' ts.length ca', .slice c' es.length cc'], .int .i64 0]) ∧ Fr w.heap.size w' a' ca' ts c' cc' es ∧ Apart a' c' ts es ∧ Is b' ts es t N ∧ Below w.heap.size w w' := by
  rcases h with ⟨_, t', ht', b', a', ca', ts, c', cc', es, he, hI, hm⟩ | ⟨_, hn, _⟩ | ⟨hn, _⟩
  · rw [ht] at ht'
    obtain rfl := Option.some.inj ht'
    rcases hm with ⟨h0, _⟩ | ⟨h1, h2⟩
    · exact absurd h0 hne
    · exact ⟨_, _, _, _, _, _, _, he, h1, h2, hI, hb⟩
  · rw [ht] at hn; cases hn
  · exact absurd hg hn
theorem FoldSaid.zero {op : Rat → Rat → Option Rat} {w w' : World} {b : Bool} {a : Option Addr} {ca : Nat} {xs : List Int} {c : Option Addr} {cc : Nat} {ds : List Int} {rs : List RV} {N : Nat} {e : Ending} (h : FoldSaid op w b a ca xs c cc ds rs N e w') (hg : AllGood b xs ds rs) (ht : opFold op (ratL b xs ds) rs = none) : e = .returned (.tuple #[.agg #[.bool false, .slice none 0 0, .slice none 0 0], .int .i64 5]) := by
  rcases h with ⟨_, t', ht', _⟩ | ⟨_, _, he⟩ | ⟨hn, _⟩
  · rw [ht] at ht'; cases ht'
  · exact he
  · exact absurd hg hn
theorem FoldSaid.form {op : Rat → Rat → Option Rat} {w w' : World} {b : Bool} {a : Option Addr} {ca : Nat} {xs : List Int} {c : Option Addr} {cc : Nat} {ds : List Int} {rs : List RV} {N : Nat} {e : Ending} (h : FoldSaid op w b a ca xs c cc ds rs N e w') (hg : ¬ AllGood b xs ds rs) : e = .returned (.tuple #[.agg #[.bool false, .slice none 0 0, .slice none 0 0], .int .i64 6]) := by
  rcases h with ⟨h, _⟩ | ⟨h, _⟩ | ⟨_, he⟩
  · exact absurd h hg
  · exact absurd h hg
  · exact he
theorem Is.good {b : Bool} {xs ds : List Int} {q : Rat} {n : Nat} (h : Is b xs ds q n) (wx : Words xs) (wd : Words ds) : formR b xs ds = 0 := (formR_low wx wd).2 h.low

/-- Rows of fractions in a block of their own. -/
def RV.cells (r : RV) : List Value := [.bool r.b, .slice r.a r.xs.length r.ca, .slice r.c r.ds.length r.cc]
theorem row_box {W : World} {k : Nat} {t : TypeId} {rs : List RV} (E : Box W k (.cells (rs.flatMap RV.cells).toArray t (0, 0))) (h : ∀ r ∈ rs, Fr 0 W r.a r.ca r.xs r.c r.cc r.ds) : Row 0 W (some ⟨k, 0, none⟩) rs := by
  refine ⟨fun j _ => ⟨k, 0, rfl, E.lt⟩, fun g o j r e hr => ?_, fun j r hr => h r (List.mem_of_getElem? hr)⟩
  simp only [Option.some.injEq, Addr.mk.injEq, and_true] at e
  obtain ⟨rfl, rfl⟩ := e
  have key : ∀ (rs : List RV) (j : Nat), rs[j]? = some r → (rs.flatMap RV.cells)[j * 3]? = some (.bool r.b) ∧ (rs.flatMap RV.cells)[j * 3 + 1]? = some (.slice r.a r.xs.length r.ca) ∧ (rs.flatMap RV.cells)[j * 3 + 2]? = some (.slice r.c r.ds.length r.cc) := by
    intro rs
    induction rs with
    | nil => intro j hj; simp at hj
    | cons s rs ih =>
      intro j hj
      cases j with
      | zero =>
        simp only [List.getElem?_cons_zero, Option.some.injEq] at hj
        subst hj
        exact ⟨rfl, rfl, rfl⟩
      | succ j =>
        simp only [List.getElem?_cons_succ] at hj
        obtain ⟨h1, h2, h3⟩ := ih j hj
        have e1 : (j + 1) * 3 = j * 3 + 1 + 1 + 1 := by omega
        rw [List.flatMap_cons, e1]
        exact ⟨h1, h2, h3⟩
  obtain ⟨h1, h2, h3⟩ := key rs j hr
  refine ⟨?_, ?_, ?_⟩
  · rw [cell_of_heap E.what]; simpa using h1
  · rw [cell_of_heap E.what]; simpa using h2
  · rw [cell_of_heap E.what]; simpa using h3
end Go.Proofs.YtblmkddjlfienaaGreat

/-
  The walks of ratio: Add, Mul.
-/
namespace Go.Proofs.YtblmkddjlfienaaGreat
open Go.RowKit

set_option maxRecDepth 100000 in
set_option maxHeartbeats 4000000 in
/-- Add. -/
theorem padd_ok {sv : Option Addr} {cap : Nat} {rs : List RV} {w : World} (R : Row 0 w sv rs) (hrl : rs.length ≤ 6) {m : Nat} (hlen : ∀ r ∈ rs, r.xs.length ≤ m ∧ r.ds.length ≤ m) (hm : m ≤ 40) (hg : ∀ r ∈ rs, formR r.b r.xs r.ds = 0) :
    Calls Tryz.prog 10 #[.slice sv rs.length cap] w fun e w' => ∃ (b' : Bool) (a' : Option Addr) (ca' : Nat) (ts' : List Int) (c' : Option Addr) (cc' : Nat) (es' : List Int), e = .returned (.tuple #[.agg #[.bool b', .slice a' ts'.length ca', .slice c' es'.length cc'], .int .i64 0]) ∧ Fr w.heap.size w' a' ca' ts' c' cc' es' ∧ Apart a' c' ts' es' ∧ Is b' ts' es' (sumQ rs) (1 + rs.length * (m + 1)) ∧ Below w.heap.size w w' := by
  have hB := Below.refl w.heap.size w
  go_enter Tryz.func10, Tryz.ntmps10
  have hA := Below.refl w.heap.size w
  have hq : Below w.heap.size w (w.alloc (.cells #[.bool false, .slice none 0 0, .slice none 0 0] 30)) := (Below.refl _ _).alloc (Nat.le_refl _) _
  replace R := R.below hq
  have ER : Box (w.alloc (.cells #[.bool false, .slice none 0 0, .slice none 0 0] 30)) (w.heap.size) (.cells #[.bool false, .slice none 0 0, .slice none 0 0] 30) := Box.put (.cells #[.bool false, .slice none 0 0, .slice none 0 0] 30) rfl
  replace hA := hA.trans (hq.mono hA.size)
  replace hB := hB.trans (hq.mono hB.size)
  clear hq
  clear hA
  go_wp2_with fail
  obtain ⟨u1, hname⟩ : ∃ u, (w.alloc (.cells #[.bool false, .slice none 0 0, .slice none 0 0] 30)) = u := ⟨_, rfl⟩
  rw [hname] at hB R ER ⊢
  have zh1 := hB.size
  clear hname
  refine (small_any 0 (by decide) _).mono ?_
  rintro e w2 ⟨g1, a1, c1, x1, e1, t1, y1, rfl, F1, P1, I1, hb⟩
  replace I1 : Is g1 x1 y1 (0) (1) := I1.to (by simp)
  replace R := R.below hb
  replace ER := ER.below hb
  replace hB := hB.trans (hb.mono hB.size)
  have zz2 := hb.size
  have zh2 := hB.size
  clear hb
  have hk := fun (V : World) (hV : Below w2.heap.size w2 V) => fold_add (cap := cap) (R.below hV) g1 (F1.below hV) (n := 1) ⟨I1.lu, I1.ld⟩ hrl hlen (by omega) hm
  replace hk := (hk _ (Below.refl _ _)).mono (fun e w' h => FoldSaid.okL h.1 h.2 ⟨I1.good F1.up.words F1.down.words, hg⟩ (t := sumQ rs) (by rw [I1.rat, opFold_add]; rfl) F1 P1 (by omega))
  obtain ⟨k0, k1, k2, f0, f1, f2⟩ := ER.three
  go_wp2_with fail
  clear k0 k1 k2 f0 f1 f2
  refine (hk).mono ?_
  rintro e w3 ⟨g2, a2, c2, x2, e2, t2, y2, rfl, F2, P2, I2, hb⟩
  replace I2 : Is g2 x2 y2 (sumQ rs) (1 + rs.length * (m + 1)) := I2
  replace R := R.below hb
  replace ER := ER.below hb
  replace F1 := F1.below hb
  replace hB := hB.trans (hb.mono hB.size)
  have zz3 := hb.size
  have zh3 := hB.size
  clear hb
  clear hk
  clear R
  obtain ⟨k0, k1, k2, f0, f1, f2⟩ := ER.three
  have hcc := ER.three
  have r0 := hcc.1
  have r1 := hcc.2.1
  have r2 := hcc.2.2.1
  clear hcc
  have qER := ER.lt
  have hA := Below.refl w3.heap.size w3
  have hT := ((((Turns.refl (w.heap.size) w3).setCell 0 (.bool g2)).setCell 1 (.slice a2 x2.length c2)).setCell 2 (.slice e2 y2.length t2))
  replace F1 := F1.beside ER (noWord3 (fun _ e => by cases e) (fun _ e => by cases e) (fun _ e => by cases e)) hT
  replace F2 := F2.beside ER (noWord3 (fun _ e => by cases e) (fun _ e => by cases e) (fun _ e => by cases e)) hT
  replace ER : Box (((w3.setCell ⟨w.heap.size, 0, none⟩ (.bool g2)).setCell ⟨w.heap.size, 1, none⟩ (.slice a2 x2.length c2)).setCell ⟨w.heap.size, 2, none⟩ (.slice e2 y2.length t2)) (w.heap.size) (.cells #[.bool g2, .slice a2 x2.length c2, .slice e2 y2.length t2] 30) := ⟨Nat.lt_of_lt_of_le ER.lt hT.below.size, (heap_setCell_same _ _ 2 _ _ _ (heap_setCell_same _ _ 1 _ _ _ (heap_setCell_same _ _ 0 _ _ _ ER.what)))⟩
  replace hB := hB.trans (hT.below.mono (by omega))
  clear hT
  clear hA
  go_wp2
  refine bodyPost_ret (v := .tuple #[.agg #[.bool g2, .slice a2 x2.length c2, .slice e2 y2.length t2], .int .i64 0]) (by simp [results, Tryz.f10, go_sem, r0, r1, r2]) rfl ?_
  exact ⟨_, _, _, _, _, _, _, rfl, F2.mono (by omega), P2, I2, hB⟩

set_option maxRecDepth 100000 in
set_option maxHeartbeats 4000000 in
/-- Mul. -/
theorem pmul_ok {sv : Option Addr} {cap : Nat} {rs : List RV} {w : World} (R : Row 0 w sv rs) (hrl : rs.length ≤ 6) {m : Nat} (hlen : ∀ r ∈ rs, r.xs.length ≤ m ∧ r.ds.length ≤ m) (hm : m ≤ 40) (hg : ∀ r ∈ rs, formR r.b r.xs r.ds = 0) :
    Calls Tryz.prog 13 #[.slice sv rs.length cap] w fun e w' => ∃ (b' : Bool) (a' : Option Addr) (ca' : Nat) (ts' : List Int) (c' : Option Addr) (cc' : Nat) (es' : List Int), e = .returned (.tuple #[.agg #[.bool b', .slice a' ts'.length ca', .slice c' es'.length cc'], .int .i64 0]) ∧ Fr w.heap.size w' a' ca' ts' c' cc' es' ∧ Apart a' c' ts' es' ∧ Is b' ts' es' (mulQ rs) (1 + rs.length * (m + 1)) ∧ Below w.heap.size w w' := by
  have hB := Below.refl w.heap.size w
  go_enter Tryz.func13, Tryz.ntmps13
  have hA := Below.refl w.heap.size w
  have hq : Below w.heap.size w (w.alloc (.cells #[.bool false, .slice none 0 0, .slice none 0 0] 30)) := (Below.refl _ _).alloc (Nat.le_refl _) _
  replace R := R.below hq
  have ER : Box (w.alloc (.cells #[.bool false, .slice none 0 0, .slice none 0 0] 30)) (w.heap.size) (.cells #[.bool false, .slice none 0 0, .slice none 0 0] 30) := Box.put (.cells #[.bool false, .slice none 0 0, .slice none 0 0] 30) rfl
  replace hA := hA.trans (hq.mono hA.size)
  replace hB := hB.trans (hq.mono hB.size)
  clear hq
  clear hA
  go_wp2_with fail
  obtain ⟨u1, hname⟩ : ∃ u, (w.alloc (.cells #[.bool false, .slice none 0 0, .slice none 0 0] 30)) = u := ⟨_, rfl⟩
  rw [hname] at hB R ER ⊢
  have zh1 := hB.size
  clear hname
  refine (small_any 1 (by decide) _).mono ?_
  rintro e w2 ⟨g1, a1, c1, x1, e1, t1, y1, rfl, F1, P1, I1, hb⟩
  replace I1 : Is g1 x1 y1 (1) (1) := I1.to (by simp)
  replace R := R.below hb
  replace ER := ER.below hb
  replace hB := hB.trans (hb.mono hB.size)
  have zz2 := hb.size
  have zh2 := hB.size
  clear hb
  have hk := fun (V : World) (hV : Below w2.heap.size w2 V) => fold_mul (cap := cap) (R.below hV) g1 (F1.below hV) (n := 1) ⟨I1.lu, I1.ld⟩ hrl hlen (by omega) hm
  replace hk := (hk _ (Below.refl _ _)).mono (fun e w' h => FoldSaid.okL h.1 h.2 ⟨I1.good F1.up.words F1.down.words, hg⟩ (t := mulQ rs) (by rw [I1.rat, opFold_mul]; rfl) F1 P1 (by omega))
  obtain ⟨k0, k1, k2, f0, f1, f2⟩ := ER.three
  go_wp2_with fail
  clear k0 k1 k2 f0 f1 f2
  refine (hk).mono ?_
  rintro e w3 ⟨g2, a2, c2, x2, e2, t2, y2, rfl, F2, P2, I2, hb⟩
  replace I2 : Is g2 x2 y2 (mulQ rs) (1 + rs.length * (m + 1)) := I2
  replace R := R.below hb
  replace ER := ER.below hb
  replace F1 := F1.below hb
  replace hB := hB.trans (hb.mono hB.size)
  have zz3 := hb.size
  have zh3 := hB.size
  clear hb
  clear hk
  clear R
  obtain ⟨k0, k1, k2, f0, f1, f2⟩ := ER.three
  have hcc := ER.three
  have r0 := hcc.1
  have r1 := hcc.2.1
  have r2 := hcc.2.2.1
  clear hcc
  have qER := ER.lt
  have hA := Below.refl w3.heap.size w3
  have hT := ((((Turns.refl (w.heap.size) w3).setCell 0 (.bool g2)).setCell 1 (.slice a2 x2.length c2)).setCell 2 (.slice e2 y2.length t2))
  replace F1 := F1.beside ER (noWord3 (fun _ e => by cases e) (fun _ e => by cases e) (fun _ e => by cases e)) hT
  replace F2 := F2.beside ER (noWord3 (fun _ e => by cases e) (fun _ e => by cases e) (fun _ e => by cases e)) hT
  replace ER : Box (((w3.setCell ⟨w.heap.size, 0, none⟩ (.bool g2)).setCell ⟨w.heap.size, 1, none⟩ (.slice a2 x2.length c2)).setCell ⟨w.heap.size, 2, none⟩ (.slice e2 y2.length t2)) (w.heap.size) (.cells #[.bool g2, .slice a2 x2.length c2, .slice e2 y2.length t2] 30) := ⟨Nat.lt_of_lt_of_le ER.lt hT.below.size, (heap_setCell_same _ _ 2 _ _ _ (heap_setCell_same _ _ 1 _ _ _ (heap_setCell_same _ _ 0 _ _ _ ER.what)))⟩
  replace hB := hB.trans (hT.below.mono (by omega))
  clear hT
  clear hA
  go_wp2
  refine bodyPost_ret (v := .tuple #[.agg #[.bool g2, .slice a2 x2.length c2, .slice e2 y2.length t2], .int .i64 0]) (by simp [results, Tryz.f13, go_sem, r0, r1, r2]) rfl ?_
  exact ⟨_, _, _, _, _, _, _, rfl, F2.mono (by omega), P2, I2, hB⟩

end Go.Proofs.YtblmkddjlfienaaGreat

/-
  The walks of ratio: Sub, Div.
-/
namespace Go.Proofs.YtblmkddjlfienaaGreat
open Go.RowKit

theorem opFold_div1 {q : Rat} {r : RV} (h : ¬ r.q = 0) : opFold opDiv q [r] = some (q / r.q) := by simp [opFold, opDiv, h]
theorem opFold_div0 {q : Rat} {r : RV} (h : r.q = 0) : opFold opDiv q [r] = none := by simp [opFold, opDiv, h]

set_option maxRecDepth 100000 in
set_option maxHeartbeats 4000000 in
/-- Sub. -/
theorem psub_ok {lo lo2 : Nat} {a c p r : Option Addr} {ca cc cp cr : Nat} {xs ds ys es : List Int} {w : World} {n m : Nat} (b g : Bool) (FA : Fr lo w a ca xs c cc ds) (FB : Fr lo2 w p cp ys r cr es) (hla : xs.length ≤ n ∧ ds.length ≤ n) (hlb : ys.length ≤ m ∧ es.length ≤ m) (hn : n ≤ 40) (hm : m ≤ 40) (hga : formR b xs ds = 0) (hgb : formR g ys es = 0) :
    Calls Tryz.prog 18 #[.agg #[.bool b, .slice a xs.length ca, .slice c ds.length cc], .agg #[.bool g, .slice p ys.length cp, .slice r es.length cr]] w fun e w' => ∃ (b' : Bool) (a' : Option Addr) (ca' : Nat) (ts' : List Int) (c' : Option Addr) (cc' : Nat) (es' : List Int), e = .returned (.tuple #[.agg #[.bool b', .slice a' ts'.length ca', .slice c' es'.length cc'], .int .i64 0]) ∧ Fr w.heap.size w' a' ca' ts' c' cc' es' ∧ Apart a' c' ts' es' ∧ Is b' ts' es' (ratL b xs ds - ratL g ys es) (n + m + 1) ∧ Below w.heap.size w w' := by
  have hB := Below.refl w.heap.size w
  go_enter Tryz.func18, Tryz.ntmps18
  have hA := Below.refl w.heap.size w
  have hq : Below w.heap.size w (w.alloc (.cells #[.bool b, .slice a xs.length ca, .slice c ds.length cc] 30)) := (Below.refl _ _).alloc (Nat.le_refl _) _
  replace FA := FA.below hq
  replace FB := FB.below hq
  have EA : Box (w.alloc (.cells #[.bool b, .slice a xs.length ca, .slice c ds.length cc] 30)) (w.heap.size) (.cells #[.bool b, .slice a xs.length ca, .slice c ds.length cc] 30) := Box.put (.cells #[.bool b, .slice a xs.length ca, .slice c ds.length cc] 30) rfl
  replace hA := hA.trans (hq.mono hA.size)
  replace hB := hB.trans (hq.mono hB.size)
  clear hq
  have hq : Below (w.alloc (.cells #[.bool b, .slice a xs.length ca, .slice c ds.length cc] 30)).heap.size (w.alloc (.cells #[.bool b, .slice a xs.length ca, .slice c ds.length cc] 30)) ((w.alloc (.cells #[.bool b, .slice a xs.length ca, .slice c ds.length cc] 30)).alloc (.cells #[.bool g, .slice p ys.length cp, .slice r es.length cr] 30)) := (Below.refl _ _).alloc (Nat.le_refl _) _
  replace FA := FA.below hq
  replace FB := FB.below hq
  replace EA := EA.below hq
  have EB : Box ((w.alloc (.cells #[.bool b, .slice a xs.length ca, .slice c ds.length cc] 30)).alloc (.cells #[.bool g, .slice p ys.length cp, .slice r es.length cr] 30)) (w.heap.size + 1) (.cells #[.bool g, .slice p ys.length cp, .slice r es.length cr] 30) := Box.put (.cells #[.bool g, .slice p ys.length cp, .slice r es.length cr] 30) (by simp)
  replace hA := hA.trans (hq.mono hA.size)
  replace hB := hB.trans (hq.mono hB.size)
  clear hq
  have hq : Below ((w.alloc (.cells #[.bool b, .slice a xs.length ca, .slice c ds.length cc] 30)).alloc (.cells #[.bool g, .slice p ys.length cp, .slice r es.length cr] 30)).heap.size ((w.alloc (.cells #[.bool b, .slice a xs.length ca, .slice c ds.length cc] 30)).alloc (.cells #[.bool g, .slice p ys.length cp, .slice r es.length cr] 30)) (((w.alloc (.cells #[.bool b, .slice a xs.length ca, .slice c ds.length cc] 30)).alloc (.cells #[.bool g, .slice p ys.length cp, .slice r es.length cr] 30)).alloc (.cells #[.bool false, .slice none 0 0, .slice none 0 0] 30)) := (Below.refl _ _).alloc (Nat.le_refl _) _
  replace FA := FA.below hq
  replace FB := FB.below hq
  replace EA := EA.below hq
  replace EB := EB.below hq
  have ER : Box (((w.alloc (.cells #[.bool b, .slice a xs.length ca, .slice c ds.length cc] 30)).alloc (.cells #[.bool g, .slice p ys.length cp, .slice r es.length cr] 30)).alloc (.cells #[.bool false, .slice none 0 0, .slice none 0 0] 30)) (w.heap.size + 2) (.cells #[.bool false, .slice none 0 0, .slice none 0 0] 30) := Box.put (.cells #[.bool false, .slice none 0 0, .slice none 0 0] 30) (by simp)
  replace hA := hA.trans (hq.mono hA.size)
  replace hB := hB.trans (hq.mono hB.size)
  clear hq
  have hq : Below (((w.alloc (.cells #[.bool b, .slice a xs.length ca, .slice c ds.length cc] 30)).alloc (.cells #[.bool g, .slice p ys.length cp, .slice r es.length cr] 30)).alloc (.cells #[.bool false, .slice none 0 0, .slice none 0 0] 30)).heap.size (((w.alloc (.cells #[.bool b, .slice a xs.length ca, .slice c ds.length cc] 30)).alloc (.cells #[.bool g, .slice p ys.length cp, .slice r es.length cr] 30)).alloc (.cells #[.bool false, .slice none 0 0, .slice none 0 0] 30)) ((((w.alloc (.cells #[.bool b, .slice a xs.length ca, .slice c ds.length cc] 30)).alloc (.cells #[.bool g, .slice p ys.length cp, .slice r es.length cr] 30)).alloc (.cells #[.bool false, .slice none 0 0, .slice none 0 0] 30)).alloc (.cells #[.bool g, .slice p ys.length cp, .slice r es.length cr] 30)) := (Below.refl _ _).alloc (Nat.le_refl _) _
  replace FA := FA.below hq
  replace FB := FB.below hq
  replace EA := EA.below hq
  replace EB := EB.below hq
  replace ER := ER.below hq
  have ES : Box ((((w.alloc (.cells #[.bool b, .slice a xs.length ca, .slice c ds.length cc] 30)).alloc (.cells #[.bool g, .slice p ys.length cp, .slice r es.length cr] 30)).alloc (.cells #[.bool false, .slice none 0 0, .slice none 0 0] 30)).alloc (.cells #[.bool g, .slice p ys.length cp, .slice r es.length cr] 30)) (w.heap.size + 3) (.cells #[.bool g, .slice p ys.length cp, .slice r es.length cr] 30) := Box.put (.cells #[.bool g, .slice p ys.length cp, .slice r es.length cr] 30) (by simp)
  replace hA := hA.trans (hq.mono hA.size)
  replace hB := hB.trans (hq.mono hB.size)
  clear hq
  clear hA
  go_wp2_with fail
  obtain ⟨u1, hname⟩ : ∃ u, ((((w.alloc (.cells #[.bool b, .slice a xs.length ca, .slice c ds.length cc] 30)).alloc (.cells #[.bool g, .slice p ys.length cp, .slice r es.length cr] 30)).alloc (.cells #[.bool false, .slice none 0 0, .slice none 0 0] 30)).alloc (.cells #[.bool g, .slice p ys.length cp, .slice r es.length cr] 30)) = u := ⟨_, rfl⟩
  rw [hname] at hB FA FB EA EB ER ES ⊢
  have zh1 := hB.size
  clear hname
  have R := row_box (rs := [⟨g, p, cp, ys, r, cr, es⟩]) (k := w.heap.size + 3) ES (fun x hx => by simp at hx; subst hx; exact FB.mono (Nat.zero_le _))
  have hk := fold_sub (cap := 1) R b FA (n := n) (m := m) hla (by simp) (fun x hx => by simp at hx; subst hx; exact hlb) hn hm
  replace hk := hk.mono (fun e w' h => FoldSaid.okN h.1 h.2 ⟨hga, fun x hx => by simp at hx; subst hx; exact hgb⟩ (t := ratL b xs ds - ratL g ys es) rfl (by simp))
  refine (hk).mono ?_
  rintro e w2 ⟨g1, a1, c1, x1, e1, t1, y1, rfl, F1, P1, I1, hb⟩
  replace I1 : Is g1 x1 y1 (ratL b xs ds - ratL g ys es) (n + m + 1) := I1.mono (by simp <;> omega)
  replace FA := FA.below hb
  replace FB := FB.below hb
  replace EA := EA.below hb
  replace EB := EB.below hb
  replace ER := ER.below hb
  replace ES := ES.below hb
  replace hB := hB.trans (hb.mono hB.size)
  have zz2 := hb.size
  have zh2 := hB.size
  clear hb
  clear hk R
  obtain ⟨k0, k1, k2, f0, f1, f2⟩ := EA.three
  obtain ⟨k3, k4, k5, f3, f4, f5⟩ := EB.three
  obtain ⟨k6, k7, k8, f6, f7, f8⟩ := ER.three
  obtain ⟨k9, k10, k11, f9, f10, f11⟩ := ES.three
  have hcc := ER.three
  have r0 := hcc.1
  have r1 := hcc.2.1
  have r2 := hcc.2.2.1
  clear hcc
  have qEA := EA.lt
  have qEB := EB.lt
  have qER := ER.lt
  have qES := ES.lt
  have hA := Below.refl w2.heap.size w2
  have hT := ((((Turns.refl (w.heap.size + 2) w2).setCell 0 (.bool g1)).setCell 1 (.slice a1 x1.length c1)).setCell 2 (.slice e1 y1.length t1))
  replace FA := FA.beside ER (noWord3 (fun _ e => by cases e) (fun _ e => by cases e) (fun _ e => by cases e)) hT
  replace FB := FB.beside ER (noWord3 (fun _ e => by cases e) (fun _ e => by cases e) (fun _ e => by cases e)) hT
  replace EA := EA.turns hT (by omega)
  replace EB := EB.turns hT (by omega)
  replace ES := ES.turns hT (by omega)
  replace F1 := F1.beside ER (noWord3 (fun _ e => by cases e) (fun _ e => by cases e) (fun _ e => by cases e)) hT
  replace ER : Box (((w2.setCell ⟨w.heap.size + 2, 0, none⟩ (.bool g1)).setCell ⟨w.heap.size + 2, 1, none⟩ (.slice a1 x1.length c1)).setCell ⟨w.heap.size + 2, 2, none⟩ (.slice e1 y1.length t1)) (w.heap.size + 2) (.cells #[.bool g1, .slice a1 x1.length c1, .slice e1 y1.length t1] 30) := ⟨Nat.lt_of_lt_of_le ER.lt hT.below.size, (heap_setCell_same _ _ 2 _ _ _ (heap_setCell_same _ _ 1 _ _ _ (heap_setCell_same _ _ 0 _ _ _ ER.what)))⟩
  replace hB := hB.trans (hT.below.mono (by omega))
  clear hT
  clear hA
  go_wp2
  refine bodyPost_ret (v := .tuple #[.agg #[.bool g1, .slice a1 x1.length c1, .slice e1 y1.length t1], .int .i64 0]) (by simp [results, Tryz.f18, go_sem, r0, r1, r2]) rfl ?_
  exact ⟨_, _, _, _, _, _, _, rfl, F1.mono (by omega), P1, I1, hB⟩

set_option maxRecDepth 100000 in
set_option maxHeartbeats 4000000 in
/-- Sub of what is no fraction. -/
theorem psub_no {lo lo2 : Nat} {a c p r : Option Addr} {ca cc cp cr : Nat} {xs ds ys es : List Int} {w : World} {n m : Nat} (b g : Bool) (FA : Fr lo w a ca xs c cc ds) (FB : Fr lo2 w p cp ys r cr es) (hla : xs.length ≤ n ∧ ds.length ≤ n) (hlb : ys.length ≤ m ∧ es.length ≤ m) (hn : n ≤ 40) (hm : m ≤ 40) (hno : ¬ (formR b xs ds = 0 ∧ formR g ys es = 0)) :
    Calls Tryz.prog 18 #[.agg #[.bool b, .slice a xs.length ca, .slice c ds.length cc], .agg #[.bool g, .slice p ys.length cp, .slice r es.length cr]] w fun e w' => e = .returned (.tuple #[.agg #[.bool false, .slice none 0 0, .slice none 0 0], .int .i64 6]) ∧ Below w.heap.size w w' := by
  have hB := Below.refl w.heap.size w
  go_enter Tryz.func18, Tryz.ntmps18
  have hA := Below.refl w.heap.size w
  have hq : Below w.heap.size w (w.alloc (.cells #[.bool b, .slice a xs.length ca, .slice c ds.length cc] 30)) := (Below.refl _ _).alloc (Nat.le_refl _) _
  replace FA := FA.below hq
  replace FB := FB.below hq
  have EA : Box (w.alloc (.cells #[.bool b, .slice a xs.length ca, .slice c ds.length cc] 30)) (w.heap.size) (.cells #[.bool b, .slice a xs.length ca, .slice c ds.length cc] 30) := Box.put (.cells #[.bool b, .slice a xs.length ca, .slice c ds.length cc] 30) rfl
  replace hA := hA.trans (hq.mono hA.size)
  replace hB := hB.trans (hq.mono hB.size)
  clear hq
  have hq : Below (w.alloc (.cells #[.bool b, .slice a xs.length ca, .slice c ds.length cc] 30)).heap.size (w.alloc (.cells #[.bool b, .slice a xs.length ca, .slice c ds.length cc] 30)) ((w.alloc (.cells #[.bool b, .slice a xs.length ca, .slice c ds.length cc] 30)).alloc (.cells #[.bool g, .slice p ys.length cp, .slice r es.length cr] 30)) := (Below.refl _ _).alloc (Nat.le_refl _) _
  replace FA := FA.below hq
  replace FB := FB.below hq
  replace EA := EA.below hq
  have EB : Box ((w.alloc (.cells #[.bool b, .slice a xs.length ca, .slice c ds.length cc] 30)).alloc (.cells #[.bool g, .slice p ys.length cp, .slice r es.length cr] 30)) (w.heap.size + 1) (.cells #[.bool g, .slice p ys.length cp, .slice r es.length cr] 30) := Box.put (.cells #[.bool g, .slice p ys.length cp, .slice r es.length cr] 30) (by simp)
  replace hA := hA.trans (hq.mono hA.size)
  replace hB := hB.trans (hq.mono hB.size)
  clear hq
  have hq : Below ((w.alloc (.cells #[.bool b, .slice a xs.length ca, .slice c ds.length cc] 30)).alloc (.cells #[.bool g, .slice p ys.length cp, .slice r es.length cr] 30)).heap.size ((w.alloc (.cells #[.bool b, .slice a xs.length ca, .slice c ds.length cc] 30)).alloc (.cells #[.bool g, .slice p ys.length cp, .slice r es.length cr] 30)) (((w.alloc (.cells #[.bool b, .slice a xs.length ca, .slice c ds.length cc] 30)).alloc (.cells #[.bool g, .slice p ys.length cp, .slice r es.length cr] 30)).alloc (.cells #[.bool false, .slice none 0 0, .slice none 0 0] 30)) := (Below.refl _ _).alloc (Nat.le_refl _) _
  replace FA := FA.below hq
  replace FB := FB.below hq
  replace EA := EA.below hq
  replace EB := EB.below hq
  have ER : Box (((w.alloc (.cells #[.bool b, .slice a xs.length ca, .slice c ds.length cc] 30)).alloc (.cells #[.bool g, .slice p ys.length cp, .slice r es.length cr] 30)).alloc (.cells #[.bool false, .slice none 0 0, .slice none 0 0] 30)) (w.heap.size + 2) (.cells #[.bool false, .slice none 0 0, .slice none 0 0] 30) := Box.put (.cells #[.bool false, .slice none 0 0, .slice none 0 0] 30) (by simp)
  replace hA := hA.trans (hq.mono hA.size)
  replace hB := hB.trans (hq.mono hB.size)
  clear hq
  have hq : Below (((w.alloc (.cells #[.bool b, .slice a xs.length ca, .slice c ds.length cc] 30)).alloc (.cells #[.bool g, .slice p ys.length cp, .slice r es.length cr] 30)).alloc (.cells #[.bool false, .slice none 0 0, .slice none 0 0] 30)).heap.size (((w.alloc (.cells #[.bool b, .slice a xs.length ca, .slice c ds.length cc] 30)).alloc (.cells #[.bool g, .slice p ys.length cp, .slice r es.length cr] 30)).alloc (.cells #[.bool false, .slice none 0 0, .slice none 0 0] 30)) ((((w.alloc (.cells #[.bool b, .slice a xs.length ca, .slice c ds.length cc] 30)).alloc (.cells #[.bool g, .slice p ys.length cp, .slice r es.length cr] 30)).alloc (.cells #[.bool false, .slice none 0 0, .slice none 0 0] 30)).alloc (.cells #[.bool g, .slice p ys.length cp, .slice r es.length cr] 30)) := (Below.refl _ _).alloc (Nat.le_refl _) _
  replace FA := FA.below hq
  replace FB := FB.below hq
  replace EA := EA.below hq
  replace EB := EB.below hq
  replace ER := ER.below hq
  have ES : Box ((((w.alloc (.cells #[.bool b, .slice a xs.length ca, .slice c ds.length cc] 30)).alloc (.cells #[.bool g, .slice p ys.length cp, .slice r es.length cr] 30)).alloc (.cells #[.bool false, .slice none 0 0, .slice none 0 0] 30)).alloc (.cells #[.bool g, .slice p ys.length cp, .slice r es.length cr] 30)) (w.heap.size + 3) (.cells #[.bool g, .slice p ys.length cp, .slice r es.length cr] 30) := Box.put (.cells #[.bool g, .slice p ys.length cp, .slice r es.length cr] 30) (by simp)
  replace hA := hA.trans (hq.mono hA.size)
  replace hB := hB.trans (hq.mono hB.size)
  clear hq
  clear hA
  go_wp2_with fail
  obtain ⟨u1, hname⟩ : ∃ u, ((((w.alloc (.cells #[.bool b, .slice a xs.length ca, .slice c ds.length cc] 30)).alloc (.cells #[.bool g, .slice p ys.length cp, .slice r es.length cr] 30)).alloc (.cells #[.bool false, .slice none 0 0, .slice none 0 0] 30)).alloc (.cells #[.bool g, .slice p ys.length cp, .slice r es.length cr] 30)) = u := ⟨_, rfl⟩
  rw [hname] at hB FA FB EA EB ER ES ⊢
  have zh1 := hB.size
  clear hname
  have R := row_box (rs := [⟨g, p, cp, ys, r, cr, es⟩]) (k := w.heap.size + 3) ES (fun x hx => by simp at hx; subst hx; exact FB.mono (Nat.zero_le _))
  have hk := fold_sub (cap := 1) R b FA (n := n) (m := m) hla (by simp) (fun x hx => by simp at hx; subst hx; exact hlb) hn hm
  refine (hk.mono (fun e w' h => (⟨FoldSaid.form h.1 (fun hG => hno ⟨hG.1, hG.2 ⟨g, p, cp, ys, r, cr, es⟩ (by simp)⟩), h.2⟩ : e = .returned (.tuple #[.agg #[.bool false, .slice none 0 0, .slice none 0 0], .int .i64 6]) ∧ Below _ _ w'))).mono ?_
  rintro e w2 ⟨rfl, hb⟩
  replace FA := FA.below hb
  replace FB := FB.below hb
  replace EA := EA.below hb
  replace EB := EB.below hb
  replace ER := ER.below hb
  replace ES := ES.below hb
  replace hB := hB.trans (hb.mono hB.size)
  have zz2 := hb.size
  have zh2 := hB.size
  clear hb
  clear hk R
  obtain ⟨k0, k1, k2, f0, f1, f2⟩ := EA.three
  obtain ⟨k3, k4, k5, f3, f4, f5⟩ := EB.three
  obtain ⟨k6, k7, k8, f6, f7, f8⟩ := ER.three
  obtain ⟨k9, k10, k11, f9, f10, f11⟩ := ES.three
  have hcc := ER.three
  have r0 := hcc.1
  have r1 := hcc.2.1
  have r2 := hcc.2.2.1
  clear hcc
  have qEA := EA.lt
  have qEB := EB.lt
  have qER := ER.lt
  have qES := ES.lt
  have hA := Below.refl w2.heap.size w2
  have hT := ((((Turns.refl (w.heap.size + 2) w2).setCell 0 (.bool false)).setCell 1 (.slice none 0 0)).setCell 2 (.slice none 0 0))
  replace FA := FA.beside ER (noWord3 (fun _ e => by cases e) (fun _ e => by cases e) (fun _ e => by cases e)) hT
  replace FB := FB.beside ER (noWord3 (fun _ e => by cases e) (fun _ e => by cases e) (fun _ e => by cases e)) hT
  replace EA := EA.turns hT (by omega)
  replace EB := EB.turns hT (by omega)
  replace ES := ES.turns hT (by omega)
  replace ER : Box (((w2.setCell ⟨w.heap.size + 2, 0, none⟩ (.bool false)).setCell ⟨w.heap.size + 2, 1, none⟩ (.slice none 0 0)).setCell ⟨w.heap.size + 2, 2, none⟩ (.slice none 0 0)) (w.heap.size + 2) (.cells #[.bool false, .slice none 0 0, .slice none 0 0] 30) := ⟨Nat.lt_of_lt_of_le ER.lt hT.below.size, (heap_setCell_same _ _ 2 _ _ _ (heap_setCell_same _ _ 1 _ _ _ (heap_setCell_same _ _ 0 _ _ _ ER.what)))⟩
  replace hB := hB.trans (hT.below.mono (by omega))
  clear hT
  clear hA
  go_wp2
  refine bodyPost_ret (v := .tuple #[.agg #[.bool false, .slice none 0 0, .slice none 0 0], .int .i64 6]) (by simp [results, Tryz.f18, go_sem, r0, r1, r2]) rfl ?_
  exact ⟨rfl, hB⟩

set_option maxRecDepth 100000 in
set_option maxHeartbeats 4000000 in
/-- Div. -/
theorem pdiv_ok {lo lo2 : Nat} {a c p r : Option Addr} {ca cc cp cr : Nat} {xs ds ys es : List Int} {w : World} {n m : Nat} (b g : Bool) (FA : Fr lo w a ca xs c cc ds) (FB : Fr lo2 w p cp ys r cr es) (hla : xs.length ≤ n ∧ ds.length ≤ n) (hlb : ys.length ≤ m ∧ es.length ≤ m) (hn : n ≤ 40) (hm : m ≤ 40) (hga : formR b xs ds = 0) (hgb : formR g ys es = 0) (hs : ¬ ratL g ys es = 0) :
    Calls Tryz.prog 20 #[.agg #[.bool b, .slice a xs.length ca, .slice c ds.length cc], .agg #[.bool g, .slice p ys.length cp, .slice r es.length cr]] w fun e w' => ∃ (b' : Bool) (a' : Option Addr) (ca' : Nat) (ts' : List Int) (c' : Option Addr) (cc' : Nat) (es' : List Int), e = .returned (.tuple #[.agg #[.bool b', .slice a' ts'.length ca', .slice c' es'.length cc'], .int .i64 0]) ∧ Fr w.heap.size w' a' ca' ts' c' cc' es' ∧ Apart a' c' ts' es' ∧ Is b' ts' es' (ratL b xs ds / ratL g ys es) (n + m + 1) ∧ Below w.heap.size w w' := by
  have hB := Below.refl w.heap.size w
  go_enter Tryz.func20, Tryz.ntmps20
  have hA := Below.refl w.heap.size w
  have hq : Below w.heap.size w (w.alloc (.cells #[.bool b, .slice a xs.length ca, .slice c ds.length cc] 30)) := (Below.refl _ _).alloc (Nat.le_refl _) _
  replace FA := FA.below hq
  replace FB := FB.below hq
  have EA : Box (w.alloc (.cells #[.bool b, .slice a xs.length ca, .slice c ds.length cc] 30)) (w.heap.size) (.cells #[.bool b, .slice a xs.length ca, .slice c ds.length cc] 30) := Box.put (.cells #[.bool b, .slice a xs.length ca, .slice c ds.length cc] 30) rfl
  replace hA := hA.trans (hq.mono hA.size)
  replace hB := hB.trans (hq.mono hB.size)
  clear hq
  have hq : Below (w.alloc (.cells #[.bool b, .slice a xs.length ca, .slice c ds.length cc] 30)).heap.size (w.alloc (.cells #[.bool b, .slice a xs.length ca, .slice c ds.length cc] 30)) ((w.alloc (.cells #[.bool b, .slice a xs.length ca, .slice c ds.length cc] 30)).alloc (.cells #[.bool g, .slice p ys.length cp, .slice r es.length cr] 30)) := (Below.refl _ _).alloc (Nat.le_refl _) _
  replace FA := FA.below hq
  replace FB := FB.below hq
  replace EA := EA.below hq
  have EB : Box ((w.alloc (.cells #[.bool b, .slice a xs.length ca, .slice c ds.length cc] 30)).alloc (.cells #[.bool g, .slice p ys.length cp, .slice r es.length cr] 30)) (w.heap.size + 1) (.cells #[.bool g, .slice p ys.length cp, .slice r es.length cr] 30) := Box.put (.cells #[.bool g, .slice p ys.length cp, .slice r es.length cr] 30) (by simp)
  replace hA := hA.trans (hq.mono hA.size)
  replace hB := hB.trans (hq.mono hB.size)
  clear hq
  have hq : Below ((w.alloc (.cells #[.bool b, .slice a xs.length ca, .slice c ds.length cc] 30)).alloc (.cells #[.bool g, .slice p ys.length cp, .slice r es.length cr] 30)).heap.size ((w.alloc (.cells #[.bool b, .slice a xs.length ca, .slice c ds.length cc] 30)).alloc (.cells #[.bool g, .slice p ys.length cp, .slice r es.length cr] 30)) (((w.alloc (.cells #[.bool b, .slice a xs.length ca, .slice c ds.length cc] 30)).alloc (.cells #[.bool g, .slice p ys.length cp, .slice r es.length cr] 30)).alloc (.cells #[.bool false, .slice none 0 0, .slice none 0 0] 30)) := (Below.refl _ _).alloc (Nat.le_refl _) _
  replace FA := FA.below hq
  replace FB := FB.below hq
  replace EA := EA.below hq
  replace EB := EB.below hq
  have ER : Box (((w.alloc (.cells #[.bool b, .slice a xs.length ca, .slice c ds.length cc] 30)).alloc (.cells #[.bool g, .slice p ys.length cp, .slice r es.length cr] 30)).alloc (.cells #[.bool false, .slice none 0 0, .slice none 0 0] 30)) (w.heap.size + 2) (.cells #[.bool false, .slice none 0 0, .slice none 0 0] 30) := Box.put (.cells #[.bool false, .slice none 0 0, .slice none 0 0] 30) (by simp)
  replace hA := hA.trans (hq.mono hA.size)
  replace hB := hB.trans (hq.mono hB.size)
  clear hq
  have hq : Below (((w.alloc (.cells #[.bool b, .slice a xs.length ca, .slice c ds.length cc] 30)).alloc (.cells #[.bool g, .slice p ys.length cp, .slice r es.length cr] 30)).alloc (.cells #[.bool false, .slice none 0 0, .slice none 0 0] 30)).heap.size (((w.alloc (.cells #[.bool b, .slice a xs.length ca, .slice c ds.length cc] 30)).alloc (.cells #[.bool g, .slice p ys.length cp, .slice r es.length cr] 30)).alloc (.cells #[.bool false, .slice none 0 0, .slice none 0 0] 30)) ((((w.alloc (.cells #[.bool b, .slice a xs.length ca, .slice c ds.length cc] 30)).alloc (.cells #[.bool g, .slice p ys.length cp, .slice r es.length cr] 30)).alloc (.cells #[.bool false, .slice none 0 0, .slice none 0 0] 30)).alloc (.cells #[.bool g, .slice p ys.length cp, .slice r es.length cr] 30)) := (Below.refl _ _).alloc (Nat.le_refl _) _
  replace FA := FA.below hq
  replace FB := FB.below hq
  replace EA := EA.below hq
  replace EB := EB.below hq
  replace ER := ER.below hq
  have ES : Box ((((w.alloc (.cells #[.bool b, .slice a xs.length ca, .slice c ds.length cc] 30)).alloc (.cells #[.bool g, .slice p ys.length cp, .slice r es.length cr] 30)).alloc (.cells #[.bool false, .slice none 0 0, .slice none 0 0] 30)).alloc (.cells #[.bool g, .slice p ys.length cp, .slice r es.length cr] 30)) (w.heap.size + 3) (.cells #[.bool g, .slice p ys.length cp, .slice r es.length cr] 30) := Box.put (.cells #[.bool g, .slice p ys.length cp, .slice r es.length cr] 30) (by simp)
  replace hA := hA.trans (hq.mono hA.size)
  replace hB := hB.trans (hq.mono hB.size)
  clear hq
  clear hA
  go_wp2_with fail
  obtain ⟨u1, hname⟩ : ∃ u, ((((w.alloc (.cells #[.bool b, .slice a xs.length ca, .slice c ds.length cc] 30)).alloc (.cells #[.bool g, .slice p ys.length cp, .slice r es.length cr] 30)).alloc (.cells #[.bool false, .slice none 0 0, .slice none 0 0] 30)).alloc (.cells #[.bool g, .slice p ys.length cp, .slice r es.length cr] 30)) = u := ⟨_, rfl⟩
  rw [hname] at hB FA FB EA EB ER ES ⊢
  have zh1 := hB.size
  clear hname
  have R := row_box (rs := [⟨g, p, cp, ys, r, cr, es⟩]) (k := w.heap.size + 3) ES (fun x hx => by simp at hx; subst hx; exact FB.mono (Nat.zero_le _))
  have hk := fold_div (cap := 1) R b FA (n := n) (m := m) hla (by simp) (fun x hx => by simp at hx; subst hx; exact hlb) hn hm
  replace hk := hk.mono (fun e w' h => FoldSaid.okN h.1 h.2 ⟨hga, fun x hx => by simp at hx; subst hx; exact hgb⟩ (t := ratL b xs ds / ratL g ys es) (opFold_div1 hs) (by simp))
  refine (hk).mono ?_
  rintro e w2 ⟨g1, a1, c1, x1, e1, t1, y1, rfl, F1, P1, I1, hb⟩
  replace I1 : Is g1 x1 y1 (ratL b xs ds / ratL g ys es) (n + m + 1) := I1.mono (by simp <;> omega)
  replace FA := FA.below hb
  replace FB := FB.below hb
  replace EA := EA.below hb
  replace EB := EB.below hb
  replace ER := ER.below hb
  replace ES := ES.below hb
  replace hB := hB.trans (hb.mono hB.size)
  have zz2 := hb.size
  have zh2 := hB.size
  clear hb
  clear hk R
  obtain ⟨k0, k1, k2, f0, f1, f2⟩ := EA.three
  obtain ⟨k3, k4, k5, f3, f4, f5⟩ := EB.three
  obtain ⟨k6, k7, k8, f6, f7, f8⟩ := ER.three
  obtain ⟨k9, k10, k11, f9, f10, f11⟩ := ES.three
  have hcc := ER.three
  have r0 := hcc.1
  have r1 := hcc.2.1
  have r2 := hcc.2.2.1
  clear hcc
  have qEA := EA.lt
  have qEB := EB.lt
  have qER := ER.lt
  have qES := ES.lt
  have hA := Below.refl w2.heap.size w2
  have hT := ((((Turns.refl (w.heap.size + 2) w2).setCell 0 (.bool g1)).setCell 1 (.slice a1 x1.length c1)).setCell 2 (.slice e1 y1.length t1))
  replace FA := FA.beside ER (noWord3 (fun _ e => by cases e) (fun _ e => by cases e) (fun _ e => by cases e)) hT
  replace FB := FB.beside ER (noWord3 (fun _ e => by cases e) (fun _ e => by cases e) (fun _ e => by cases e)) hT
  replace EA := EA.turns hT (by omega)
  replace EB := EB.turns hT (by omega)
  replace ES := ES.turns hT (by omega)
  replace F1 := F1.beside ER (noWord3 (fun _ e => by cases e) (fun _ e => by cases e) (fun _ e => by cases e)) hT
  replace ER : Box (((w2.setCell ⟨w.heap.size + 2, 0, none⟩ (.bool g1)).setCell ⟨w.heap.size + 2, 1, none⟩ (.slice a1 x1.length c1)).setCell ⟨w.heap.size + 2, 2, none⟩ (.slice e1 y1.length t1)) (w.heap.size + 2) (.cells #[.bool g1, .slice a1 x1.length c1, .slice e1 y1.length t1] 30) := ⟨Nat.lt_of_lt_of_le ER.lt hT.below.size, (heap_setCell_same _ _ 2 _ _ _ (heap_setCell_same _ _ 1 _ _ _ (heap_setCell_same _ _ 0 _ _ _ ER.what)))⟩
  replace hB := hB.trans (hT.below.mono (by omega))
  clear hT
  clear hA
  go_wp2
  refine bodyPost_ret (v := .tuple #[.agg #[.bool g1, .slice a1 x1.length c1, .slice e1 y1.length t1], .int .i64 0]) (by simp [results, Tryz.f20, go_sem, r0, r1, r2]) rfl ?_
  exact ⟨_, _, _, _, _, _, _, rfl, F1.mono (by omega), P1, I1, hB⟩

set_option maxRecDepth 100000 in
set_option maxHeartbeats 4000000 in
/-- Div of what is no fraction. -/
theorem pdiv_no {lo lo2 : Nat} {a c p r : Option Addr} {ca cc cp cr : Nat} {xs ds ys es : List Int} {w : World} {n m : Nat} (b g : Bool) (FA : Fr lo w a ca xs c cc ds) (FB : Fr lo2 w p cp ys r cr es) (hla : xs.length ≤ n ∧ ds.length ≤ n) (hlb : ys.length ≤ m ∧ es.length ≤ m) (hn : n ≤ 40) (hm : m ≤ 40) (hno : ¬ (formR b xs ds = 0 ∧ formR g ys es = 0)) :
    Calls Tryz.prog 20 #[.agg #[.bool b, .slice a xs.length ca, .slice c ds.length cc], .agg #[.bool g, .slice p ys.length cp, .slice r es.length cr]] w fun e w' => e = .returned (.tuple #[.agg #[.bool false, .slice none 0 0, .slice none 0 0], .int .i64 6]) ∧ Below w.heap.size w w' := by
  have hB := Below.refl w.heap.size w
  go_enter Tryz.func20, Tryz.ntmps20
  have hA := Below.refl w.heap.size w
  have hq : Below w.heap.size w (w.alloc (.cells #[.bool b, .slice a xs.length ca, .slice c ds.length cc] 30)) := (Below.refl _ _).alloc (Nat.le_refl _) _
  replace FA := FA.below hq
  replace FB := FB.below hq
  have EA : Box (w.alloc (.cells #[.bool b, .slice a xs.length ca, .slice c ds.length cc] 30)) (w.heap.size) (.cells #[.bool b, .slice a xs.length ca, .slice c ds.length cc] 30) := Box.put (.cells #[.bool b, .slice a xs.length ca, .slice c ds.length cc] 30) rfl
  replace hA := hA.trans (hq.mono hA.size)
  replace hB := hB.trans (hq.mono hB.size)
  clear hq
  have hq : Below (w.alloc (.cells #[.bool b, .slice a xs.length ca, .slice c ds.length cc] 30)).heap.size (w.alloc (.cells #[.bool b, .slice a xs.length ca, .slice c ds.length cc] 30)) ((w.alloc (.cells #[.bool b, .slice a xs.length ca, .slice c ds.length cc] 30)).alloc (.cells #[.bool g, .slice p ys.length cp, .slice r es.length cr] 30)) := (Below.refl _ _).alloc (Nat.le_refl _) _
  replace FA := FA.below hq
  replace FB := FB.below hq
  replace EA := EA.below hq
  have EB : Box ((w.alloc (.cells #[.bool b, .slice a xs.length ca, .slice c ds.length cc] 30)).alloc (.cells #[.bool g, .slice p ys.length cp, .slice r es.length cr] 30)) (w.heap.size + 1) (.cells #[.bool g, .slice p ys.length cp, .slice r es.length cr] 30) := Box.put (.cells #[.bool g, .slice p ys.length cp, .slice r es.length cr] 30) (by simp)
  replace hA := hA.trans (hq.mono hA.size)
  replace hB := hB.trans (hq.mono hB.size)
  clear hq
  have hq : Below ((w.alloc (.cells #[.bool b, .slice a xs.length ca, .slice c ds.length cc] 30)).alloc (.cells #[.bool g, .slice p ys.length cp, .slice r es.length cr] 30)).heap.size ((w.alloc (.cells #[.bool b, .slice a xs.length ca, .slice c ds.length cc] 30)).alloc (.cells #[.bool g, .slice p ys.length cp, .slice r es.length cr] 30)) (((w.alloc (.cells #[.bool b, .slice a xs.length ca, .slice c ds.length cc] 30)).alloc (.cells #[.bool g, .slice p ys.length cp, .slice r es.length cr] 30)).alloc (.cells #[.bool false, .slice none 0 0, .slice none 0 0] 30)) := (Below.refl _ _).alloc (Nat.le_refl _) _
  replace FA := FA.below hq
  replace FB := FB.below hq
  replace EA := EA.below hq
  replace EB := EB.below hq
  have ER : Box (((w.alloc (.cells #[.bool b, .slice a xs.length ca, .slice c ds.length cc] 30)).alloc (.cells #[.bool g, .slice p ys.length cp, .slice r es.length cr] 30)).alloc (.cells #[.bool false, .slice none 0 0, .slice none 0 0] 30)) (w.heap.size + 2) (.cells #[.bool false, .slice none 0 0, .slice none 0 0] 30) := Box.put (.cells #[.bool false, .slice none 0 0, .slice none 0 0] 30) (by simp)
  replace hA := hA.trans (hq.mono hA.size)
  replace hB := hB.trans (hq.mono hB.size)
  clear hq
  have hq : Below (((w.alloc (.cells #[.bool b, .slice a xs.length ca, .slice c ds.length cc] 30)).alloc (.cells #[.bool g, .slice p ys.length cp, .slice r es.length cr] 30)).alloc (.cells #[.bool false, .slice none 0 0, .slice none 0 0] 30)).heap.size (((w.alloc (.cells #[.bool b, .slice a xs.length ca, .slice c ds.length cc] 30)).alloc (.cells #[.bool g, .slice p ys.length cp, .slice r es.length cr] 30)).alloc (.cells #[.bool false, .slice none 0 0, .slice none 0 0] 30)) ((((w.alloc (.cells #[.bool b, .slice a xs.length ca, .slice c ds.length cc] 30)).alloc (.cells #[.bool g, .slice p ys.length cp, .slice r es.length cr] 30)).alloc (.cells #[.bool false, .slice none 0 0, .slice none 0 0] 30)).alloc (.cells #[.bool g, .slice p ys.length cp, .slice r es.length cr] 30)) := (Below.refl _ _).alloc (Nat.le_refl _) _
  replace FA := FA.below hq
  replace FB := FB.below hq
  replace EA := EA.below hq
  replace EB := EB.below hq
  replace ER := ER.below hq
  have ES : Box ((((w.alloc (.cells #[.bool b, .slice a xs.length ca, .slice c ds.length cc] 30)).alloc (.cells #[.bool g, .slice p ys.length cp, .slice r es.length cr] 30)).alloc (.cells #[.bool false, .slice none 0 0, .slice none 0 0] 30)).alloc (.cells #[.bool g, .slice p ys.length cp, .slice r es.length cr] 30)) (w.heap.size + 3) (.cells #[.bool g, .slice p ys.length cp, .slice r es.length cr] 30) := Box.put (.cells #[.bool g, .slice p ys.length cp, .slice r es.length cr] 30) (by simp)
  replace hA := hA.trans (hq.mono hA.size)
  replace hB := hB.trans (hq.mono hB.size)
  clear hq
  clear hA
  go_wp2_with fail
  obtain ⟨u1, hname⟩ : ∃ u, ((((w.alloc (.cells #[.bool b, .slice a xs.length ca, .slice c ds.length cc] 30)).alloc (.cells #[.bool g, .slice p ys.length cp, .slice r es.length cr] 30)).alloc (.cells #[.bool false, .slice none 0 0, .slice none 0 0] 30)).alloc (.cells #[.bool g, .slice p ys.length cp, .slice r es.length cr] 30)) = u := ⟨_, rfl⟩
  rw [hname] at hB FA FB EA EB ER ES ⊢
  have zh1 := hB.size
  clear hname
  have R := row_box (rs := [⟨g, p, cp, ys, r, cr, es⟩]) (k := w.heap.size + 3) ES (fun x hx => by simp at hx; subst hx; exact FB.mono (Nat.zero_le _))
  have hk := fold_div (cap := 1) R b FA (n := n) (m := m) hla (by simp) (fun x hx => by simp at hx; subst hx; exact hlb) hn hm
  refine (hk.mono (fun e w' h => (⟨FoldSaid.form h.1 (fun hG => hno ⟨hG.1, hG.2 ⟨g, p, cp, ys, r, cr, es⟩ (by simp)⟩), h.2⟩ : e = .returned (.tuple #[.agg #[.bool false, .slice none 0 0, .slice none 0 0], .int .i64 6]) ∧ Below _ _ w'))).mono ?_
  rintro e w2 ⟨rfl, hb⟩
  replace FA := FA.below hb
  replace FB := FB.below hb
  replace EA := EA.below hb
  replace EB := EB.below hb
  replace ER := ER.below hb
  replace ES := ES.below hb
  replace hB := hB.trans (hb.mono hB.size)
  have zz2 := hb.size
  have zh2 := hB.size
  clear hb
  clear hk R
  obtain ⟨k0, k1, k2, f0, f1, f2⟩ := EA.three
  obtain ⟨k3, k4, k5, f3, f4, f5⟩ := EB.three
  obtain ⟨k6, k7, k8, f6, f7, f8⟩ := ER.three
  obtain ⟨k9, k10, k11, f9, f10, f11⟩ := ES.three
  have hcc := ER.three
  have r0 := hcc.1
  have r1 := hcc.2.1
  have r2 := hcc.2.2.1
  clear hcc
  have qEA := EA.lt
  have qEB := EB.lt
  have qER := ER.lt
  have qES := ES.lt
  have hA := Below.refl w2.heap.size w2
  have hT := ((((Turns.refl (w.heap.size + 2) w2).setCell 0 (.bool false)).setCell 1 (.slice none 0 0)).setCell 2 (.slice none 0 0))
  replace FA := FA.beside ER (noWord3 (fun _ e => by cases e) (fun _ e => by cases e) (fun _ e => by cases e)) hT
  replace FB := FB.beside ER (noWord3 (fun _ e => by cases e) (fun _ e => by cases e) (fun _ e => by cases e)) hT
  replace EA := EA.turns hT (by omega)
  replace EB := EB.turns hT (by omega)
  replace ES := ES.turns hT (by omega)
  replace ER : Box (((w2.setCell ⟨w.heap.size + 2, 0, none⟩ (.bool false)).setCell ⟨w.heap.size + 2, 1, none⟩ (.slice none 0 0)).setCell ⟨w.heap.size + 2, 2, none⟩ (.slice none 0 0)) (w.heap.size + 2) (.cells #[.bool false, .slice none 0 0, .slice none 0 0] 30) := ⟨Nat.lt_of_lt_of_le ER.lt hT.below.size, (heap_setCell_same _ _ 2 _ _ _ (heap_setCell_same _ _ 1 _ _ _ (heap_setCell_same _ _ 0 _ _ _ ER.what)))⟩
  replace hB := hB.trans (hT.below.mono (by omega))
  clear hT
  clear hA
  go_wp2
  refine bodyPost_ret (v := .tuple #[.agg #[.bool false, .slice none 0 0, .slice none 0 0], .int .i64 6]) (by simp [results, Tryz.f20, go_sem, r0, r1, r2]) rfl ?_
  exact ⟨rfl, hB⟩

set_option maxRecDepth 100000 in
set_option maxHeartbeats 4000000 in
/-- Div by 0. -/
theorem pdiv_zero {lo lo2 : Nat} {a c p r : Option Addr} {ca cc cp cr : Nat} {xs ds ys es : List Int} {w : World} {n m : Nat} (b g : Bool) (FA : Fr lo w a ca xs c cc ds) (FB : Fr lo2 w p cp ys r cr es) (hla : xs.length ≤ n ∧ ds.length ≤ n) (hlb : ys.length ≤ m ∧ es.length ≤ m) (hn : n ≤ 40) (hm : m ≤ 40) (hga : formR b xs ds = 0) (hgb : formR g ys es = 0) (hs : ratL g ys es = 0) :
    Calls Tryz.prog 20 #[.agg #[.bool b, .slice a xs.length ca, .slice c ds.length cc], .agg #[.bool g, .slice p ys.length cp, .slice r es.length cr]] w fun e w' => e = .returned (.tuple #[.agg #[.bool false, .slice none 0 0, .slice none 0 0], .int .i64 5]) ∧ Below w.heap.size w w' := by
  have hB := Below.refl w.heap.size w
  go_enter Tryz.func20, Tryz.ntmps20
  have hA := Below.refl w.heap.size w
  have hq : Below w.heap.size w (w.alloc (.cells #[.bool b, .slice a xs.length ca, .slice c ds.length cc] 30)) := (Below.refl _ _).alloc (Nat.le_refl _) _
  replace FA := FA.below hq
  replace FB := FB.below hq
  have EA : Box (w.alloc (.cells #[.bool b, .slice a xs.length ca, .slice c ds.length cc] 30)) (w.heap.size) (.cells #[.bool b, .slice a xs.length ca, .slice c ds.length cc] 30) := Box.put (.cells #[.bool b, .slice a xs.length ca, .slice c ds.length cc] 30) rfl
  replace hA := hA.trans (hq.mono hA.size)
  replace hB := hB.trans (hq.mono hB.size)
  clear hq
  have hq : Below (w.alloc (.cells #[.bool b, .slice a xs.length ca, .slice c ds.length cc] 30)).heap.size (w.alloc (.cells #[.bool b, .slice a xs.length ca, .slice c ds.length cc] 30)) ((w.alloc (.cells #[.bool b, .slice a xs.length ca, .slice c ds.length cc] 30)).alloc (.cells #[.bool g, .slice p ys.length cp, .slice r es.length cr] 30)) := (Below.refl _ _).alloc (Nat.le_refl _) _
  replace FA := FA.below hq
  replace FB := FB.below hq
  replace EA := EA.below hq
  have EB : Box ((w.alloc (.cells #[.bool b, .slice a xs.length ca, .slice c ds.length cc] 30)).alloc (.cells #[.bool g, .slice p ys.length cp, .slice r es.length cr] 30)) (w.heap.size + 1) (.cells #[.bool g, .slice p ys.length cp, .slice r es.length cr] 30) := Box.put (.cells #[.bool g, .slice p ys.length cp, .slice r es.length cr] 30) (by simp)
  replace hA := hA.trans (hq.mono hA.size)
  replace hB := hB.trans (hq.mono hB.size)
  clear hq
  have hq : Below ((w.alloc (.cells #[.bool b, .slice a xs.length ca, .slice c ds.length cc] 30)).alloc (.cells #[.bool g, .slice p ys.length cp, .slice r es.length cr] 30)).heap.size ((w.alloc (.cells #[.bool b, .slice a xs.length ca, .slice c ds.length cc] 30)).alloc (.cells #[.bool g, .slice p ys.length cp, .slice r es.length cr] 30)) (((w.alloc (.cells #[.bool b, .slice a xs.length ca, .slice c ds.length cc] 30)).alloc (.cells #[.bool g, .slice p ys.length cp, .slice r es.length cr] 30)).alloc (.cells #[.bool false, .slice none 0 0, .slice none 0 0] 30)) := (Below.refl _ _).alloc (Nat.le_refl _) _
  replace FA := FA.below hq
  replace FB := FB.below hq
  replace EA := EA.below hq
  replace EB := EB.below hq
  have ER : Box (((w.alloc (.cells #[.bool b, .slice a xs.length ca, .slice c ds.length cc] 30)).alloc (.cells #[.bool g, .slice p ys.length cp, .slice r es.length cr] 30)).alloc (.cells #[.bool false, .slice none 0 0, .slice none 0 0] 30)) (w.heap.size + 2) (.cells #[.bool false, .slice none 0 0, .slice none 0 0] 30) := Box.put (.cells #[.bool false, .slice none 0 0, .slice none 0 0] 30) (by simp)
  replace hA := hA.trans (hq.mono hA.size)
  replace hB := hB.trans (hq.mono hB.size)
  clear hq
  have hq : Below (((w.alloc (.cells #[.bool b, .slice a xs.length ca, .slice c ds.length cc] 30)).alloc (.cells #[.bool g, .slice p ys.length cp, .slice r es.length cr] 30)).alloc (.cells #[.bool false, .slice none 0 0, .slice none 0 0] 30)).heap.size (((w.alloc (.cells #[.bool b, .slice a xs.length ca, .slice c ds.length cc] 30)).alloc (.cells #[.bool g, .slice p ys.length cp, .slice r es.length cr] 30)).alloc (.cells #[.bool false, .slice none 0 0, .slice none 0 0] 30)) ((((w.alloc (.cells #[.bool b, .slice a xs.length ca, .slice c ds.length cc] 30)).alloc (.cells #[.bool g, .slice p ys.length cp, .slice r es.length cr] 30)).alloc (.cells #[.bool false, .slice none 0 0, .slice none 0 0] 30)).alloc (.cells #[.bool g, .slice p ys.length cp, .slice r es.length cr] 30)) := (Below.refl _ _).alloc (Nat.le_refl _) _
  replace FA := FA.below hq
  replace FB := FB.below hq
  replace EA := EA.below hq
  replace EB := EB.below hq
  replace ER := ER.below hq
  have ES : Box ((((w.alloc (.cells #[.bool b, .slice a xs.length ca, .slice c ds.length cc] 30)).alloc (.cells #[.bool g, .slice p ys.length cp, .slice r es.length cr] 30)).alloc (.cells #[.bool false, .slice none 0 0, .slice none 0 0] 30)).alloc (.cells #[.bool g, .slice p ys.length cp, .slice r es.length cr] 30)) (w.heap.size + 3) (.cells #[.bool g, .slice p ys.length cp, .slice r es.length cr] 30) := Box.put (.cells #[.bool g, .slice p ys.length cp, .slice r es.length cr] 30) (by simp)
  replace hA := hA.trans (hq.mono hA.size)
  replace hB := hB.trans (hq.mono hB.size)
  clear hq
  clear hA
  go_wp2_with fail
  obtain ⟨u1, hname⟩ : ∃ u, ((((w.alloc (.cells #[.bool b, .slice a xs.length ca, .slice c ds.length cc] 30)).alloc (.cells #[.bool g, .slice p ys.length cp, .slice r es.length cr] 30)).alloc (.cells #[.bool false, .slice none 0 0, .slice none 0 0] 30)).alloc (.cells #[.bool g, .slice p ys.length cp, .slice r es.length cr] 30)) = u := ⟨_, rfl⟩
  rw [hname] at hB FA FB EA EB ER ES ⊢
  have zh1 := hB.size
  clear hname
  have R := row_box (rs := [⟨g, p, cp, ys, r, cr, es⟩]) (k := w.heap.size + 3) ES (fun x hx => by simp at hx; subst hx; exact FB.mono (Nat.zero_le _))
  have hk := fold_div (cap := 1) R b FA (n := n) (m := m) hla (by simp) (fun x hx => by simp at hx; subst hx; exact hlb) hn hm
  refine (hk.mono (fun e w' h => (⟨FoldSaid.zero h.1 ⟨hga, fun x hx => by simp at hx; subst hx; exact hgb⟩ (opFold_div0 hs), h.2⟩ : e = .returned (.tuple #[.agg #[.bool false, .slice none 0 0, .slice none 0 0], .int .i64 5]) ∧ Below _ _ w'))).mono ?_
  rintro e w2 ⟨rfl, hb⟩
  replace FA := FA.below hb
  replace FB := FB.below hb
  replace EA := EA.below hb
  replace EB := EB.below hb
  replace ER := ER.below hb
  replace ES := ES.below hb
  replace hB := hB.trans (hb.mono hB.size)
  have zz2 := hb.size
  have zh2 := hB.size
  clear hb
  clear hk R
  obtain ⟨k0, k1, k2, f0, f1, f2⟩ := EA.three
  obtain ⟨k3, k4, k5, f3, f4, f5⟩ := EB.three
  obtain ⟨k6, k7, k8, f6, f7, f8⟩ := ER.three
  obtain ⟨k9, k10, k11, f9, f10, f11⟩ := ES.three
  have hcc := ER.three
  have r0 := hcc.1
  have r1 := hcc.2.1
  have r2 := hcc.2.2.1
  clear hcc
  have qEA := EA.lt
  have qEB := EB.lt
  have qER := ER.lt
  have qES := ES.lt
  have hA := Below.refl w2.heap.size w2
  have hT := ((((Turns.refl (w.heap.size + 2) w2).setCell 0 (.bool false)).setCell 1 (.slice none 0 0)).setCell 2 (.slice none 0 0))
  replace FA := FA.beside ER (noWord3 (fun _ e => by cases e) (fun _ e => by cases e) (fun _ e => by cases e)) hT
  replace FB := FB.beside ER (noWord3 (fun _ e => by cases e) (fun _ e => by cases e) (fun _ e => by cases e)) hT
  replace EA := EA.turns hT (by omega)
  replace EB := EB.turns hT (by omega)
  replace ES := ES.turns hT (by omega)
  replace ER : Box (((w2.setCell ⟨w.heap.size + 2, 0, none⟩ (.bool false)).setCell ⟨w.heap.size + 2, 1, none⟩ (.slice none 0 0)).setCell ⟨w.heap.size + 2, 2, none⟩ (.slice none 0 0)) (w.heap.size + 2) (.cells #[.bool false, .slice none 0 0, .slice none 0 0] 30) := ⟨Nat.lt_of_lt_of_le ER.lt hT.below.size, (heap_setCell_same _ _ 2 _ _ _ (heap_setCell_same _ _ 1 _ _ _ (heap_setCell_same _ _ 0 _ _ _ ER.what)))⟩
  replace hB := hB.trans (hT.below.mono (by omega))
  clear hT
  clear hA
  go_wp2
  refine bodyPost_ret (v := .tuple #[.agg #[.bool false, .slice none 0 0, .slice none 0 0], .int .i64 5]) (by simp [results, Tryz.f20, go_sem, r0, r1, r2]) rfl ?_
  exact ⟨rfl, hB⟩
end Go.Proofs.YtblmkddjlfienaaGreat

/-
  The walks of ratio: Cmp, Round.
-/
namespace Go.Proofs.YtblmkddjlfienaaGreat
open Go.RowKit

set_option maxRecDepth 100000 in
set_option maxHeartbeats 4000000 in
/-- Cmp. -/
theorem pcmp_ok {lo lo2 : Nat} {a c p r : Option Addr} {ca cc cp cr : Nat} {xs ds ys es : List Int} {w : World} {n m : Nat} {q s : Rat} (b g : Bool) (FA : Fr lo w a ca xs c cc ds) (FB : Fr lo2 w p cp ys r cr es) (IA : Is b xs ds q n) (IB : Is g ys es s m) (hn : n + m ≤ 400) :
    Calls Tryz.prog 24 #[.agg #[.bool b, .slice a xs.length ca, .slice c ds.length cc], .agg #[.bool g, .slice p ys.length cp, .slice r es.length cr]] w fun e w' => e = .returned (.tuple #[.int .i64 (cmpR q s), .int .i64 0]) ∧ Below w.heap.size w w' := by
  have lxa := IA.lu
  have lda := IA.ld
  have lxb := IB.lu
  have ldb := IB.ld
  have HA : Hid (formR b xs ds = 0) := (formR_low FA.up.words FA.down.words).2 IA.low
  have HG : Hid (formR g ys es = 0) := (formR_low FB.up.words FB.down.words).2 IB.low
  obtain ⟨cv, hcv⟩ : ∃ cv, cmpR q s = cv := ⟨_, rfl⟩
  rw [hcv]
  have HC : Hid (cmpI (sgn b (val xs) * val es) (sgn g (val ys) * val ds) = cv) := by rw [Hid, ← hcv, ← IA.rat, ← IB.rat]; exact (cmpR_divInt IA.low.2.2.1 IB.low.2.2.1).symm
  have hB := Below.refl w.heap.size w
  clear hcv
  go_enter Tryz.func24, Tryz.ntmps24
  have hA := Below.refl w.heap.size w
  have hq : Below w.heap.size w (w.alloc (.cells #[.bool b, .slice a xs.length ca, .slice c ds.length cc] 30)) := (Below.refl _ _).alloc (Nat.le_refl _) _
  replace FA := FA.below hq
  replace FB := FB.below hq
  have EA : Box (w.alloc (.cells #[.bool b, .slice a xs.length ca, .slice c ds.length cc] 30)) (w.heap.size) (.cells #[.bool b, .slice a xs.length ca, .slice c ds.length cc] 30) := Box.put (.cells #[.bool b, .slice a xs.length ca, .slice c ds.length cc] 30) rfl
  replace hA := hA.trans (hq.mono hA.size)
  replace hB := hB.trans (hq.mono hB.size)
  clear hq
  have hq : Below (w.alloc (.cells #[.bool b, .slice a xs.length ca, .slice c ds.length cc] 30)).heap.size (w.alloc (.cells #[.bool b, .slice a xs.length ca, .slice c ds.length cc] 30)) ((w.alloc (.cells #[.bool b, .slice a xs.length ca, .slice c ds.length cc] 30)).alloc (.cells #[.bool g, .slice p ys.length cp, .slice r es.length cr] 30)) := (Below.refl _ _).alloc (Nat.le_refl _) _
  replace FA := FA.below hq
  replace FB := FB.below hq
  replace EA := EA.below hq
  have EB : Box ((w.alloc (.cells #[.bool b, .slice a xs.length ca, .slice c ds.length cc] 30)).alloc (.cells #[.bool g, .slice p ys.length cp, .slice r es.length cr] 30)) (w.heap.size + 1) (.cells #[.bool g, .slice p ys.length cp, .slice r es.length cr] 30) := Box.put (.cells #[.bool g, .slice p ys.length cp, .slice r es.length cr] 30) (by simp)
  replace hA := hA.trans (hq.mono hA.size)
  replace hB := hB.trans (hq.mono hB.size)
  clear hq
  clear hA
  go_wp2_with fail
  obtain ⟨u1, hname⟩ : ∃ u, ((w.alloc (.cells #[.bool b, .slice a xs.length ca, .slice c ds.length cc] 30)).alloc (.cells #[.bool g, .slice p ys.length cp, .slice r es.length cr] 30)) = u := ⟨_, rfl⟩
  rw [hname] at hB FA FB EA EB ⊢
  have zh1 := hB.size
  clear hname
  have hk := pcheck_any b FA (by omega) (by omega)
  rw [HA.out] at hk
  refine (hk).mono ?_
  rintro e w2 ⟨rfl, hb⟩
  replace FA := FA.below hb
  replace FB := FB.below hb
  replace EA := EA.below hb
  replace EB := EB.below hb
  replace hB := hB.trans (hb.mono hB.size)
  have zz2 := hb.size
  have zh2 := hB.size
  clear hb
  clear hk
  obtain ⟨k0, k1, k2, f0, f1, f2⟩ := EA.three
  obtain ⟨k3, k4, k5, f3, f4, f5⟩ := EB.three
  go_wp2_with fail
  clear k0 k1 k2 f0 f1 f2 k3 k4 k5 f3 f4 f5
  have hk := pcheck_any g FB (by omega) (by omega)
  rw [HG.out] at hk
  refine (hk).mono ?_
  rintro e w3 ⟨rfl, hb⟩
  replace FA := FA.below hb
  replace FB := FB.below hb
  replace EA := EA.below hb
  replace EB := EB.below hb
  replace hB := hB.trans (hb.mono hB.size)
  have zz3 := hb.size
  have zh3 := hB.size
  clear hb
  clear hk
  obtain ⟨k0, k1, k2, f0, f1, f2⟩ := EA.three
  obtain ⟨k3, k4, k5, f3, f4, f5⟩ := EB.three
  go_wp2_with fail
  clear k0 k1 k2 f0 f1 f2 k3 k4 k5 f3 f4 f5
  replace FA := FA.drew
  replace FB := FB.drew
  have qEA := EA.lt
  replace EA := EA.drew
  have qEB := EB.lt
  replace EB := EB.drew
  refine wp_yields 11 [.is (.pointer (some ⟨w.heap.size, 0, none⟩)), .is (.agg #[.bool b, .slice a xs.length ca]), .is (.pointer (some ⟨w.heap.size + 1, 2, none⟩)), .is (.slice r es.length cr), (Yield.int w3.heap.size (sgn b (val xs) * val es) (n + m)), .is (.pointer (some ⟨w.heap.size + 1, 0, none⟩)), .is (.agg #[.bool g, .slice p ys.length cp]), .is (.pointer (some ⟨w.heap.size, 2, none⟩)), .is (.slice c ds.length cc), (Yield.int w3.heap.size (sgn g (val ys) * val ds) (n + m)), (.is (.int .i64 cv))] (by kernel_rfl) (by kernel_rfl) (lt_cons ?_ (lt_cons ?_ (lt_cons ?_ (lt_cons ?_ (lt_cons ?_ (lt_cons ?_ (lt_cons ?_ (lt_cons ?_ (lt_cons ?_ (lt_cons ?_ (lt_cons ?_ lt_nil))))))))))) ?_
  case refine_1 =>
    refine OpDoes.mk rfl ?_
    intro vs V hV hd K hK
    have hh := fun (P : Prop) => Yield.int_elim P (show ((Yield.int w3.heap.size (sgn b (val xs) * val es) (n + m)) : Yield).At (vs 4) V from hd 4 (by decide) (by kernel_rfl))
    refine hh _ ?_
    intro g1 a1 c1 z1 d4 S1 N1 V1 b1
    clear hh
    have hh := fun (P : Prop) => Yield.int_elim P (show ((Yield.int w3.heap.size (sgn g (val ys) * val ds) (n + m)) : Yield).At (vs 9) V from hd 9 (by decide) (by kernel_rfl))
    refine hh _ ?_
    intro g2 a2 c2 z2 d9 S2 N2 V2 b2
    clear hh
    simp only [laidIn, List.getElem_toArray, List.getElem_cons_zero, List.getElem_cons_succ, List.getElem?_toArray, List.getElem?_cons_zero, List.getElem?_cons_succ, if_true, Act.put, List.setIfInBounds_toArray, List.set_cons_zero, List.set_cons_succ] at hK ⊢
    simp only [d4, d9] at hK ⊢
    go_simp
    go_at_call 69
    have hc := scmp_any g1 g2 S1 S2 (by omega) (by omega)
    rw [V1.out, V2.out, HC.out] at hc
    refine (hc).mono ?_
    rintro e V' ⟨rfl, hb⟩
    exact hK.out _ _ hb rfl (not_fresh rfl)
  case refine_2 =>
    refine OpDoes.mk rfl ?_
    intro vs V hV hd K hK
    have d6 : vs 6 = .agg #[.bool g, .slice p ys.length cp] := hd 6 (by decide) (by kernel_rfl)
    have d8 : vs 8 = .slice c ds.length cc := hd 8 (by decide) (by kernel_rfl)
    simp only [laidIn, List.getElem_toArray, List.getElem_cons_zero, List.getElem_cons_succ, List.getElem?_toArray, List.getElem?_cons_zero, List.getElem?_cons_succ, if_true, Act.put, List.setIfInBounds_toArray, List.set_cons_zero, List.set_cons_succ] at hK ⊢
    simp only [d6, d8] at hK ⊢
    go_simp
    go_at_call 70
    refine (stretch_any g (FB.up.below hV) (FA.down.below hV) (by omega) (by omega)).mono ?_
    rintro e V' ⟨g2, a2, c2, z2, rfl, S2, N2, v2, l2, hb⟩
    have V2 : Hid (sgn g2 (val z2) = sgn g (val ys) * val ds) := v2
    have b2 : z2.length ≤ n + m := by omega
    clear v2 l2
    exact hK.out _ _ hb ⟨_, _, _, _, rfl, S2.mono hV.size, N2, V2, b2⟩ (not_fresh rfl)
  case refine_3 =>
    refine OpDoes.mk rfl ?_
    intro vs V hV hd K hK
    have d7 : vs 7 = .pointer (some ⟨w.heap.size, 2, none⟩) := hd 7 (by decide) (by kernel_rfl)
    have hcc := (EA.below hV).three
    have k0 := hcc.1
    have k1 := hcc.2.1
    have k2 := hcc.2.2.1
    clear hcc
    simp only [laidIn, List.getElem_toArray, List.getElem_cons_zero, List.getElem_cons_succ, List.getElem?_toArray, List.getElem?_cons_zero, List.getElem?_cons_succ, if_true, Act.put, List.setIfInBounds_toArray, List.set_cons_zero, List.set_cons_succ] at hK ⊢
    simp only [d7] at hK ⊢
    go_simp
    exact hK.out _ _ (Below.refl _ _) rfl (not_fresh rfl)
  case refine_4 =>
    refine OpDoes.mk rfl ?_
    intro vs V hV hd K hK
    simp only [laidIn, List.getElem_toArray, List.getElem_cons_zero, List.getElem_cons_succ, List.getElem?_toArray, List.getElem?_cons_zero, List.getElem?_cons_succ, if_true, Act.put, List.setIfInBounds_toArray, List.set_cons_zero, List.set_cons_succ] at hK ⊢
    go_simp
    exact hK.out _ _ (Below.refl _ _) rfl (not_fresh rfl)
  case refine_5 =>
    refine OpDoes.mk rfl ?_
    intro vs V hV hd K hK
    have d5 : vs 5 = .pointer (some ⟨w.heap.size + 1, 0, none⟩) := hd 5 (by decide) (by kernel_rfl)
    have hcc := (EB.below hV).three
    have k0 := hcc.1
    have k1 := hcc.2.1
    have k2 := hcc.2.2.1
    clear hcc
    simp only [laidIn, List.getElem_toArray, List.getElem_cons_zero, List.getElem_cons_succ, List.getElem?_toArray, List.getElem?_cons_zero, List.getElem?_cons_succ, if_true, Act.put, List.setIfInBounds_toArray, List.set_cons_zero, List.set_cons_succ] at hK ⊢
    simp only [d5] at hK ⊢
    go_simp
    exact hK.out _ _ (Below.refl _ _) rfl (not_fresh rfl)
  case refine_6 =>
    refine OpDoes.mk rfl ?_
    intro vs V hV hd K hK
    simp only [laidIn, List.getElem_toArray, List.getElem_cons_zero, List.getElem_cons_succ, List.getElem?_toArray, List.getElem?_cons_zero, List.getElem?_cons_succ, if_true, Act.put, List.setIfInBounds_toArray, List.set_cons_zero, List.set_cons_succ] at hK ⊢
    go_simp
    exact hK.out _ _ (Below.refl _ _) rfl (not_fresh rfl)
  case refine_7 =>
    refine OpDoes.mk rfl ?_
    intro vs V hV hd K hK
    have d1 : vs 1 = .agg #[.bool b, .slice a xs.length ca] := hd 1 (by decide) (by kernel_rfl)
    have d3 : vs 3 = .slice r es.length cr := hd 3 (by decide) (by kernel_rfl)
    simp only [laidIn, List.getElem_toArray, List.getElem_cons_zero, List.getElem_cons_succ, List.getElem?_toArray, List.getElem?_cons_zero, List.getElem?_cons_succ, if_true, Act.put, List.setIfInBounds_toArray, List.set_cons_zero, List.set_cons_succ] at hK ⊢
    simp only [d1, d3] at hK ⊢
    go_simp
    go_at_call 70
    refine (stretch_any b (FA.up.below hV) (FB.down.below hV) (by omega) (by omega)).mono ?_
    rintro e V' ⟨g1, a1, c1, z1, rfl, S1, N1, v1, l1, hb⟩
    have V1 : Hid (sgn g1 (val z1) = sgn b (val xs) * val es) := v1
    have b1 : z1.length ≤ n + m := by omega
    clear v1 l1
    exact hK.out _ _ hb ⟨_, _, _, _, rfl, S1.mono hV.size, N1, V1, b1⟩ (not_fresh rfl)
  case refine_8 =>
    refine OpDoes.mk rfl ?_
    intro vs V hV hd K hK
    have d2 : vs 2 = .pointer (some ⟨w.heap.size + 1, 2, none⟩) := hd 2 (by decide) (by kernel_rfl)
    have hcc := (EB.below hV).three
    have k0 := hcc.1
    have k1 := hcc.2.1
    have k2 := hcc.2.2.1
    clear hcc
    simp only [laidIn, List.getElem_toArray, List.getElem_cons_zero, List.getElem_cons_succ, List.getElem?_toArray, List.getElem?_cons_zero, List.getElem?_cons_succ, if_true, Act.put, List.setIfInBounds_toArray, List.set_cons_zero, List.set_cons_succ] at hK ⊢
    simp only [d2] at hK ⊢
    go_simp
    exact hK.out _ _ (Below.refl _ _) rfl (not_fresh rfl)
  case refine_9 =>
    refine OpDoes.mk rfl ?_
    intro vs V hV hd K hK
    simp only [laidIn, List.getElem_toArray, List.getElem_cons_zero, List.getElem_cons_succ, List.getElem?_toArray, List.getElem?_cons_zero, List.getElem?_cons_succ, if_true, Act.put, List.setIfInBounds_toArray, List.set_cons_zero, List.set_cons_succ] at hK ⊢
    go_simp
    exact hK.out _ _ (Below.refl _ _) rfl (not_fresh rfl)
  case refine_10 =>
    refine OpDoes.mk rfl ?_
    intro vs V hV hd K hK
    have d0 : vs 0 = .pointer (some ⟨w.heap.size, 0, none⟩) := hd 0 (by decide) (by kernel_rfl)
    have hcc := (EA.below hV).three
    have k0 := hcc.1
    have k1 := hcc.2.1
    have k2 := hcc.2.2.1
    clear hcc
    simp only [laidIn, List.getElem_toArray, List.getElem_cons_zero, List.getElem_cons_succ, List.getElem?_toArray, List.getElem?_cons_zero, List.getElem?_cons_succ, if_true, Act.put, List.setIfInBounds_toArray, List.set_cons_zero, List.set_cons_succ] at hK ⊢
    simp only [d0] at hK ⊢
    go_simp
    exact hK.out _ _ (Below.refl _ _) rfl (not_fresh rfl)
  case refine_11 =>
    refine OpDoes.mk rfl ?_
    intro vs V hV hd K hK
    simp only [laidIn, List.getElem_toArray, List.getElem_cons_zero, List.getElem?_toArray, List.getElem?_cons_zero, List.getElem?_cons_succ, if_true, Act.put, List.setIfInBounds_toArray, List.set_cons_zero, List.set_cons_succ] at hK ⊢
    go_simp
    exact hK.out _ _ (Below.refl _ _) rfl (not_fresh rfl)
  case refine_12 =>
    intro vs Y1 hV hR hne fuel
    have d0 : vs 0 = .pointer (some ⟨w.heap.size, 0, none⟩) := hR 0 (by decide)
    have d1 : vs 1 = .agg #[.bool b, .slice a xs.length ca] := hR 1 (by decide)
    have d2 : vs 2 = .pointer (some ⟨w.heap.size + 1, 2, none⟩) := hR 2 (by decide)
    have d3 : vs 3 = .slice r es.length cr := hR 3 (by decide)
    have hh := fun (P : Prop) => Yield.int_elim P (show ((Yield.int w3.heap.size (sgn b (val xs) * val es) (n + m)) : Yield).At (vs 4) Y1 from hR 4 (by decide))
    refine hh _ ?_
    intro g1 a1 c1 z1 d4 S1 N1 V1 b1
    clear hh
    have d5 : vs 5 = .pointer (some ⟨w.heap.size + 1, 0, none⟩) := hR 5 (by decide)
    have d6 : vs 6 = .agg #[.bool g, .slice p ys.length cp] := hR 6 (by decide)
    have d7 : vs 7 = .pointer (some ⟨w.heap.size, 2, none⟩) := hR 7 (by decide)
    have d8 : vs 8 = .slice c ds.length cc := hR 8 (by decide)
    have hh := fun (P : Prop) => Yield.int_elim P (show ((Yield.int w3.heap.size (sgn g (val ys) * val ds) (n + m)) : Yield).At (vs 9) Y1 from hR 9 (by decide))
    refine hh _ ?_
    intro g2 a2 c2 z2 d9 S2 N2 V2 b2
    clear hh
    have d10 : vs 10 = .int .i64 cv := hR 10 (by decide)
    replace FA := FA.below hV
    replace FB := FB.below hV
    replace EA := EA.below hV
    replace EB := EB.below hV
    have hr := hV
    simp only [laidIn, List.getElem?_toArray, List.getElem?_cons_zero, List.getElem?_cons_succ, if_true, Act.put, List.setIfInBounds_toArray, List.set_cons_zero, List.set_cons_succ]
    simp only [d0, d1, d2, d3, d4, d5, d6, d7, d8, d9, d10]
    clear hR hne hV d0 d1 d2 d3 d4 d5 d6 d7 d8 d9 d10
    clear vs
    show wpAny _ _ _ _ (fuel + 2) _ _ _
    refine wpAny_all (rs := [11]) (by kernel_rfl) (by simp) (fun i hi => ?_)
    obtain rfl : i = 11 := by simpa using hi
    clear hi
    refine wpOp_step rfl (fun K hK => ?_)
    simp only [List.getElem_toArray, List.getElem_cons_zero, List.getElem_cons_succ]
    rw [if_pos (by rfl)]
    go_simp
    refine hK _ _ ?_
    clear hK
    refine wpAny_all (rs := [12]) (by kernel_rfl) (by simp) (fun i hi => ?_)
    obtain rfl : i = 12 := by simpa using hi
    clear hi
    refine wpOp_step rfl (fun K hK => ?_)
    simp only [List.getElem_toArray, List.getElem_cons_zero, List.getElem_cons_succ]
    rw [if_pos (by rfl)]
    go_simp
    refine hK _ _ ?_
    clear hK
    refine wpAny_done (by kernel_rfl) ?_ _
    replace hB := hB.trans ((Below.trans (Below.drew (Below.refl w3.heap.size w3)) hr).mono hB.size)
    have zz3_0 := hr.size
    have zi1 := hB.size
    clear hr 
    obtain ⟨k0, k1, k2, f0, f1, f2⟩ := EA.three
    obtain ⟨k3, k4, k5, f3, f4, f5⟩ := EB.three
    go_wp2
    go_ret2
    exact ⟨rfl, hB⟩

set_option maxRecDepth 100000 in
set_option maxHeartbeats 4000000 in
/-- Cmp of what is no fraction. -/
theorem pcmp_no {lo lo2 : Nat} {a c p r : Option Addr} {ca cc cp cr : Nat} {xs ds ys es : List Int} {w : World} (b g : Bool) (FA : Fr lo w a ca xs c cc ds) (FB : Fr lo2 w p cp ys r cr es) (hla : xs.length ≤ 400 ∧ ds.length ≤ 400) (hlb : ys.length ≤ 400 ∧ es.length ≤ 400) (hno : ¬ (formR b xs ds = 0 ∧ formR g ys es = 0)) :
    Calls Tryz.prog 24 #[.agg #[.bool b, .slice a xs.length ca, .slice c ds.length cc], .agg #[.bool g, .slice p ys.length cp, .slice r es.length cr]] w fun e w' => e = .returned (.tuple #[.int .i64 0, .int .i64 6]) ∧ Below w.heap.size w w' := by
  have hB := Below.refl w.heap.size w
  rcases formR_or b xs ds with HA | HA
  · have HG : Hid (formR g ys es = 6) := by
      rcases formR_or g ys es with h | h
      · exact absurd ⟨HA, h⟩ hno
      · exact h
    replace HA := hide HA
    clear hno
    go_enter Tryz.func24, Tryz.ntmps24
    have hA := Below.refl w.heap.size w
    have hq : Below w.heap.size w (w.alloc (.cells #[.bool b, .slice a xs.length ca, .slice c ds.length cc] 30)) := (Below.refl _ _).alloc (Nat.le_refl _) _
    replace FA := FA.below hq
    replace FB := FB.below hq
    have EA : Box (w.alloc (.cells #[.bool b, .slice a xs.length ca, .slice c ds.length cc] 30)) (w.heap.size) (.cells #[.bool b, .slice a xs.length ca, .slice c ds.length cc] 30) := Box.put (.cells #[.bool b, .slice a xs.length ca, .slice c ds.length cc] 30) rfl
    replace hA := hA.trans (hq.mono hA.size)
    replace hB := hB.trans (hq.mono hB.size)
    clear hq
    have hq : Below (w.alloc (.cells #[.bool b, .slice a xs.length ca, .slice c ds.length cc] 30)).heap.size (w.alloc (.cells #[.bool b, .slice a xs.length ca, .slice c ds.length cc] 30)) ((w.alloc (.cells #[.bool b, .slice a xs.length ca, .slice c ds.length cc] 30)).alloc (.cells #[.bool g, .slice p ys.length cp, .slice r es.length cr] 30)) := (Below.refl _ _).alloc (Nat.le_refl _) _
    replace FA := FA.below hq
    replace FB := FB.below hq
    replace EA := EA.below hq
    have EB : Box ((w.alloc (.cells #[.bool b, .slice a xs.length ca, .slice c ds.length cc] 30)).alloc (.cells #[.bool g, .slice p ys.length cp, .slice r es.length cr] 30)) (w.heap.size + 1) (.cells #[.bool g, .slice p ys.length cp, .slice r es.length cr] 30) := Box.put (.cells #[.bool g, .slice p ys.length cp, .slice r es.length cr] 30) (by simp)
    replace hA := hA.trans (hq.mono hA.size)
    replace hB := hB.trans (hq.mono hB.size)
    clear hq
    clear hA
    go_wp2_with fail
    obtain ⟨u1, hname⟩ : ∃ u, ((w.alloc (.cells #[.bool b, .slice a xs.length ca, .slice c ds.length cc] 30)).alloc (.cells #[.bool g, .slice p ys.length cp, .slice r es.length cr] 30)) = u := ⟨_, rfl⟩
    rw [hname] at hB FA FB EA EB ⊢
    have zh1 := hB.size
    clear hname
    have hk := pcheck_any b FA (by omega) (by omega)
    rw [HA.out] at hk
    refine (hk).mono ?_
    rintro e w2 ⟨rfl, hb⟩
    replace FA := FA.below hb
    replace FB := FB.below hb
    replace EA := EA.below hb
    replace EB := EB.below hb
    replace hB := hB.trans (hb.mono hB.size)
    have zz2 := hb.size
    have zh2 := hB.size
    clear hb
    clear hk
    obtain ⟨k0, k1, k2, f0, f1, f2⟩ := EA.three
    obtain ⟨k3, k4, k5, f3, f4, f5⟩ := EB.three
    go_wp2_with fail
    clear k0 k1 k2 f0 f1 f2 k3 k4 k5 f3 f4 f5
    have hk := pcheck_any g FB (by omega) (by omega)
    rw [HG.out] at hk
    refine (hk).mono ?_
    rintro e w3 ⟨rfl, hb⟩
    replace FA := FA.below hb
    replace FB := FB.below hb
    replace EA := EA.below hb
    replace EB := EB.below hb
    replace hB := hB.trans (hb.mono hB.size)
    have zz3 := hb.size
    have zh3 := hB.size
    clear hb
    clear hk
    obtain ⟨k0, k1, k2, f0, f1, f2⟩ := EA.three
    obtain ⟨k3, k4, k5, f3, f4, f5⟩ := EB.three
    go_wp2
    go_ret2
    exact ⟨rfl, hB⟩
  · replace HA := hide HA
    clear hno
    go_enter Tryz.func24, Tryz.ntmps24
    have hA := Below.refl w.heap.size w
    have hq : Below w.heap.size w (w.alloc (.cells #[.bool b, .slice a xs.length ca, .slice c ds.length cc] 30)) := (Below.refl _ _).alloc (Nat.le_refl _) _
    replace FA := FA.below hq
    replace FB := FB.below hq
    have EA : Box (w.alloc (.cells #[.bool b, .slice a xs.length ca, .slice c ds.length cc] 30)) (w.heap.size) (.cells #[.bool b, .slice a xs.length ca, .slice c ds.length cc] 30) := Box.put (.cells #[.bool b, .slice a xs.length ca, .slice c ds.length cc] 30) rfl
    replace hA := hA.trans (hq.mono hA.size)
    replace hB := hB.trans (hq.mono hB.size)
    clear hq
    have hq : Below (w.alloc (.cells #[.bool b, .slice a xs.length ca, .slice c ds.length cc] 30)).heap.size (w.alloc (.cells #[.bool b, .slice a xs.length ca, .slice c ds.length cc] 30)) ((w.alloc (.cells #[.bool b, .slice a xs.length ca, .slice c ds.length cc] 30)).alloc (.cells #[.bool g, .slice p ys.length cp, .slice r es.length cr] 30)) := (Below.refl _ _).alloc (Nat.le_refl _) _
    replace FA := FA.below hq
    replace FB := FB.below hq
    replace EA := EA.below hq
    have EB : Box ((w.alloc (.cells #[.bool b, .slice a xs.length ca, .slice c ds.length cc] 30)).alloc (.cells #[.bool g, .slice p ys.length cp, .slice r es.length cr] 30)) (w.heap.size + 1) (.cells #[.bool g, .slice p ys.length cp, .slice r es.length cr] 30) := Box.put (.cells #[.bool g, .slice p ys.length cp, .slice r es.length cr] 30) (by simp)
    replace hA := hA.trans (hq.mono hA.size)
    replace hB := hB.trans (hq.mono hB.size)
    clear hq
    clear hA
    go_wp2_with fail
    obtain ⟨u1, hname⟩ : ∃ u, ((w.alloc (.cells #[.bool b, .slice a xs.length ca, .slice c ds.length cc] 30)).alloc (.cells #[.bool g, .slice p ys.length cp, .slice r es.length cr] 30)) = u := ⟨_, rfl⟩
    rw [hname] at hB FA FB EA EB ⊢
    have zh1 := hB.size
    clear hname
    have hk := pcheck_any b FA (by omega) (by omega)
    rw [HA.out] at hk
    refine (hk).mono ?_
    rintro e w2 ⟨rfl, hb⟩
    replace FA := FA.below hb
    replace FB := FB.below hb
    replace EA := EA.below hb
    replace EB := EB.below hb
    replace hB := hB.trans (hb.mono hB.size)
    have zz2 := hb.size
    have zh2 := hB.size
    clear hb
    clear hk
    obtain ⟨k0, k1, k2, f0, f1, f2⟩ := EA.three
    obtain ⟨k3, k4, k5, f3, f4, f5⟩ := EB.three
    go_wp2
    go_ret2
    exact ⟨rfl, hB⟩

set_option maxRecDepth 100000 in
set_option maxHeartbeats 4000000 in
/-- Round. -/
theorem pround_ok {lo : Nat} {a c : Option Addr} {ca cc : Nat} {xs ds : List Int} {w : World} (b : Bool) (FA : Fr lo w a ca xs c cc ds) {n : Nat} {q : Rat} (IA : Is b xs ds q n) (hn : n ≤ 400) :
    Calls Tryz.prog 26 #[.agg #[.bool b, .slice a xs.length ca, .slice c ds.length cc]] w fun e w' => ∃ (b' : Bool) (a' : Option Addr) (cap' : Nat) (ts : List Int), e = .returned (.tuple #[.agg #[.bool b', .slice a' ts.length cap'], .int .i64 0]) ∧ Seg w.heap.size w' (.slice a' ts.length cap') ts ∧ Canon b' ts ∧ Hid (sgn b' (val ts) = sgn b (roundN (val xs) (val ds))) ∧ ts.length ≤ n + 2 ∧ Below w.heap.size w w' := by
  have lxa := IA.lu
  have lda := IA.ld
  have pd := IA.low.2.2.1
  have px := val_nonneg FA.up.words
  have HA : Hid (formR b xs ds = 0) := (formR_low FA.up.words FA.down.words).2 IA.low
  have hB := Below.refl w.heap.size w
  go_enter Tryz.func26, Tryz.ntmps26
  have hA := Below.refl w.heap.size w
  have hq : Below w.heap.size w (w.alloc (.cells #[.bool b, .slice a xs.length ca, .slice c ds.length cc] 30)) := (Below.refl _ _).alloc (Nat.le_refl _) _
  replace FA := FA.below hq
  have EA : Box (w.alloc (.cells #[.bool b, .slice a xs.length ca, .slice c ds.length cc] 30)) (w.heap.size) (.cells #[.bool b, .slice a xs.length ca, .slice c ds.length cc] 30) := Box.put (.cells #[.bool b, .slice a xs.length ca, .slice c ds.length cc] 30) rfl
  replace hA := hA.trans (hq.mono hA.size)
  replace hB := hB.trans (hq.mono hB.size)
  clear hq
  have hq : Below (w.alloc (.cells #[.bool b, .slice a xs.length ca, .slice c ds.length cc] 30)).heap.size (w.alloc (.cells #[.bool b, .slice a xs.length ca, .slice c ds.length cc] 30)) ((w.alloc (.cells #[.bool b, .slice a xs.length ca, .slice c ds.length cc] 30)).alloc (.cells #[.bool false, .slice none 0 0] 28)) := (Below.refl _ _).alloc (Nat.le_refl _) _
  replace FA := FA.below hq
  replace EA := EA.below hq
  have ER : Box ((w.alloc (.cells #[.bool b, .slice a xs.length ca, .slice c ds.length cc] 30)).alloc (.cells #[.bool false, .slice none 0 0] 28)) (w.heap.size + 1) (.cells #[.bool false, .slice none 0 0] 28) := Box.put (.cells #[.bool false, .slice none 0 0] 28) (by simp)
  replace hA := hA.trans (hq.mono hA.size)
  replace hB := hB.trans (hq.mono hB.size)
  clear hq
  clear hA
  go_wp2_with fail
  obtain ⟨u1, hname⟩ : ∃ u, ((w.alloc (.cells #[.bool b, .slice a xs.length ca, .slice c ds.length cc] 30)).alloc (.cells #[.bool false, .slice none 0 0] 28)) = u := ⟨_, rfl⟩
  rw [hname] at hB FA EA ER ⊢
  have zh1 := hB.size
  clear hname
  have hk := pcheck_any b FA (by omega) (by omega)
  rw [HA.out] at hk
  refine (hk).mono ?_
  rintro e w2 ⟨rfl, hb⟩
  replace FA := FA.below hb
  replace EA := EA.below hb
  replace ER := ER.below hb
  replace hB := hB.trans (hb.mono hB.size)
  have zz2 := hb.size
  have zh2 := hB.size
  clear hb
  clear hk
  obtain ⟨k0, k1, k2, f0, f1, f2⟩ := EA.three
  obtain ⟨k3, k4, f3, f4⟩ := ER.two
  go_wp2_with fail
  clear k0 k1 k2 f0 f1 f2 k3 k4 f3 f4
  have hk := qdiv_all FA.up FA.down (by omega) (by omega)
  rw [errZ_pos pd, remZ_pos _ pd] at hk
  refine (hk).mono ?_
  rintro e w3 ⟨a1, a2, c1, c2, z1, z2, rfl, S1, S2, N1, N2, v1, v2, hap, hb⟩
  have b1 : z1.length ≤ n := Nat.le_trans (len_below S1.words N1 (by rw [v1]; exact Int.lt_of_le_of_lt (Int.ediv_le_self _ px) (val_lt FA.up.words))) lxa
  have b2 : z2.length ≤ n := Nat.le_trans (len_below S2.words N2 (by have := val_lt FA.down.words; have := Int.emod_lt_of_pos (val xs) pd; rw [v2]; omega)) lda
  have V1 := hide v1
  have V2 := hide v2
  clear v1 v2 hap
  replace FA := FA.below hb
  replace EA := EA.below hb
  replace ER := ER.below hb
  replace hB := hB.trans (hb.mono hB.size)
  have zz3 := hb.size
  have zh3 := hB.size
  clear hb
  clear hk
  obtain ⟨cv, hcv⟩ : ∃ cv, cmpI (val z2 + val z2) (val ds) = cv := ⟨_, rfl⟩
  have HC := hide hcv
  clear hcv
  obtain ⟨k0, k1, k2, f0, f1, f2⟩ := EA.three
  obtain ⟨k3, k4, f3, f4⟩ := ER.two
  go_wp2_with fail
  clear k0 k1 k2 f0 f1 f2 k3 k4 f3 f4
  replace FA := FA.drew
  have qEA := EA.lt
  replace EA := EA.drew
  have qER := ER.lt
  replace ER := ER.drew
  replace S1 := S1.drew
  replace S2 := S2.drew
  refine wp_yields 6 [.is (.slice a2 z2.length c2), .is (.slice a2 z2.length c2), (Yield.nat w3.heap.size (val z2 + val z2) (n + 1)), .is (.pointer (some ⟨w.heap.size, 2, none⟩)), .is (.slice c ds.length cc), (.is (.int .i64 cv))] (by kernel_rfl) (by kernel_rfl) (lt_cons ?_ (lt_cons ?_ (lt_cons ?_ (lt_cons ?_ (lt_cons ?_ (lt_cons ?_ lt_nil)))))) ?_
  case refine_1 =>
    refine OpDoes.mk rfl ?_
    intro vs V hV hd K hK
    have hh := fun (P : Prop) => Yield.nat_elim P (show ((Yield.nat w3.heap.size (val z2 + val z2) (n + 1)) : Yield).At (vs 2) V from hd 2 (by decide) (by kernel_rfl))
    refine hh _ ?_
    intro a3 c3 z3 d2 S3 N3 V3 b3
    clear hh
    have d4 : vs 4 = .slice c ds.length cc := hd 4 (by decide) (by kernel_rfl)
    simp only [laidIn, List.getElem_toArray, List.getElem_cons_zero, List.getElem_cons_succ, List.getElem?_toArray, List.getElem?_cons_zero, List.getElem?_cons_succ, if_true, Act.put, List.setIfInBounds_toArray, List.set_cons_zero, List.set_cons_succ] at hK ⊢
    simp only [d2, d4] at hK ⊢
    go_simp
    go_at_call 74
    have hc := cmp_any S3 (FA.down.below hV) (by omega) (by omega)
    rw [V3.out, HC.out] at hc
    refine (hc).mono ?_
    rintro e V' ⟨rfl, hb⟩
    exact hK.out _ _ hb rfl (not_fresh rfl)
  case refine_2 =>
    refine OpDoes.mk rfl ?_
    intro vs V hV hd K hK
    have d3 : vs 3 = .pointer (some ⟨w.heap.size, 2, none⟩) := hd 3 (by decide) (by kernel_rfl)
    have hcc := (EA.below hV).three
    have k0 := hcc.1
    have k1 := hcc.2.1
    have k2 := hcc.2.2.1
    clear hcc
    simp only [laidIn, List.getElem_toArray, List.getElem_cons_zero, List.getElem_cons_succ, List.getElem?_toArray, List.getElem?_cons_zero, List.getElem?_cons_succ, if_true, Act.put, List.setIfInBounds_toArray, List.set_cons_zero, List.set_cons_succ] at hK ⊢
    simp only [d3] at hK ⊢
    go_simp
    exact hK.out _ _ (Below.refl _ _) rfl (not_fresh rfl)
  case refine_3 =>
    refine OpDoes.mk rfl ?_
    intro vs V hV hd K hK
    simp only [laidIn, List.getElem_toArray, List.getElem_cons_zero, List.getElem_cons_succ, List.getElem?_toArray, List.getElem?_cons_zero, List.getElem?_cons_succ, if_true, Act.put, List.setIfInBounds_toArray, List.set_cons_zero, List.set_cons_succ] at hK ⊢
    go_simp
    exact hK.out _ _ (Below.refl _ _) rfl (not_fresh rfl)
  case refine_4 =>
    refine OpDoes.mk rfl ?_
    intro vs V hV hd K hK
    have d0 : vs 0 = .slice a2 z2.length c2 := hd 0 (by decide) (by kernel_rfl)
    have d1 : vs 1 = .slice a2 z2.length c2 := hd 1 (by decide) (by kernel_rfl)
    simp only [laidIn, List.getElem_toArray, List.getElem_cons_zero, List.getElem_cons_succ, List.getElem?_toArray, List.getElem?_cons_zero, List.getElem?_cons_succ, if_true, Act.put, List.setIfInBounds_toArray, List.set_cons_zero, List.set_cons_succ] at hK ⊢
    simp only [d0, d1] at hK ⊢
    go_simp
    go_at_call 75
    refine (add_any (S2.below hV) (S2.below hV) (by omega) (by omega)).mono ?_
    rintro e V' ⟨a3, c3, z3, rfl, S3, N3, v3, l3, hb⟩
    have V3 : Hid (val z3 = val z2 + val z2) := v3
    have b3 : z3.length ≤ n + 1 := by omega
    clear v3 l3
    exact hK.out _ _ hb ⟨_, _, _, rfl, S3.mono hV.size, N3, V3, b3⟩ (not_fresh rfl)
  case refine_5 =>
    refine OpDoes.mk rfl ?_
    intro vs V hV hd K hK
    simp only [laidIn, List.getElem_toArray, List.getElem_cons_zero, List.getElem_cons_succ, List.getElem?_toArray, List.getElem?_cons_zero, List.getElem?_cons_succ, if_true, Act.put, List.setIfInBounds_toArray, List.set_cons_zero, List.set_cons_succ] at hK ⊢
    go_simp
    exact hK.out _ _ (Below.refl _ _) rfl (not_fresh rfl)
  case refine_6 =>
    refine OpDoes.mk rfl ?_
    intro vs V hV hd K hK
    simp only [laidIn, List.getElem_toArray, List.getElem_cons_zero, List.getElem?_toArray, List.getElem?_cons_zero, List.getElem?_cons_succ, if_true, Act.put, List.setIfInBounds_toArray, List.set_cons_zero, List.set_cons_succ] at hK ⊢
    go_simp
    exact hK.out _ _ (Below.refl _ _) rfl (not_fresh rfl)
  case refine_7 =>
    intro vs Y1 hV hR hne fuel
    have d0 : vs 0 = .slice a2 z2.length c2 := hR 0 (by decide)
    have d1 : vs 1 = .slice a2 z2.length c2 := hR 1 (by decide)
    have hh := fun (P : Prop) => Yield.nat_elim P (show ((Yield.nat w3.heap.size (val z2 + val z2) (n + 1)) : Yield).At (vs 2) Y1 from hR 2 (by decide))
    refine hh _ ?_
    intro a3 c3 z3 d2 S3 N3 V3 b3
    clear hh
    have d3 : vs 3 = .pointer (some ⟨w.heap.size, 2, none⟩) := hR 3 (by decide)
    have d4 : vs 4 = .slice c ds.length cc := hR 4 (by decide)
    have d5 : vs 5 = .int .i64 cv := hR 5 (by decide)
    replace FA := FA.below hV
    replace EA := EA.below hV
    replace ER := ER.below hV
    replace S1 := S1.below hV
    replace S2 := S2.below hV
    have hr := hV
    simp only [laidIn, List.getElem?_toArray, List.getElem?_cons_zero, List.getElem?_cons_succ, if_true, Act.put, List.setIfInBounds_toArray, List.set_cons_zero, List.set_cons_succ]
    simp only [d0, d1, d2, d3, d4, d5]
    clear hR hne hV d0 d1 d2 d3 d4 d5
    clear vs
    show wpAny _ _ _ _ (fuel + 1) _ _ _
    refine wpAny_all (rs := [6]) (by kernel_rfl) (by simp) (fun i hi => ?_)
    obtain rfl : i = 6 := by simpa using hi
    clear hi
    refine wpOp_step rfl (fun K hK => ?_)
    simp only [List.getElem_toArray, List.getElem_cons_zero, List.getElem_cons_succ]
    rw [if_pos (by rfl)]
    go_simp
    refine hK _ _ ?_
    clear hK
    refine wpAny_done (by kernel_rfl) ?_ _
    replace hB := hB.trans ((Below.trans (Below.drew (Below.refl w3.heap.size w3)) hr).mono hB.size)
    have zz3_0 := hr.size
    have zi1 := hB.size
    clear hr 
    clear S3 S2
    have hr := Int.emod_nonneg (val xs) (show val ds ≠ 0 by omega)
    rcases Int.lt_trichotomy (val z2 + val z2) (val ds) with hlt | heq | hgt
    · skip
      obtain rfl : cv = -1 := by rw [← HC.out]; exact cmpI_lt hlt
      have HR : Hid (roundN (val xs) (val ds) = val xs / val ds) := by rw [Hid, roundN, if_neg]; have := V2.out; omega
      clear hlt HC
      obtain ⟨k0, k1, k2, f0, f1, f2⟩ := EA.three
      obtain ⟨k3, k4, f3, f4⟩ := ER.two
      go_wp2_with fail
      clear k0 k1 k2 f0 f1 f2 k3 k4 f3 f4
      refine (smake_any S1 (by omega) b).mono ?_
      rintro e w4 ⟨g4, a4, c4, z4, rfl, S4, N4, v4, l4, hb⟩
      have V4 : Hid (sgn g4 (val z4) = sgn b (roundN (val xs) (val ds))) := by rw [Hid, v4, HR.out, V1.out]
      have b4 : z4.length ≤ n + 2 := by omega
      clear v4 l4
      replace FA := FA.below hb
      replace EA := EA.below hb
      replace ER := ER.below hb
      replace S1 := S1.below hb
      replace hB := hB.trans (hb.mono hB.size)
      have zz4 := hb.size
      have zh4 := hB.size
      clear hb
      obtain ⟨k0, k1, k2, f0, f1, f2⟩ := EA.three
      obtain ⟨k3, k4, f3, f4⟩ := ER.two
      have hcc := ER.two
      have r0 := hcc.1
      have r1 := hcc.2.1
      clear hcc
      have qEA := EA.lt
      have qER := ER.lt
      have hA := Below.refl w4.heap.size w4
      have hT := (((Turns.refl (w.heap.size + 1) w4).setCell 0 (.bool g4)).setCell 1 (.slice a4 z4.length c4))
      replace FA := FA.beside ER (noWord2 (fun _ e => by cases e) (fun _ e => by cases e)) hT
      replace EA := EA.turns hT (by omega)
      replace S1 := S1.beside ER (noWord2 (fun _ e => by cases e) (fun _ e => by cases e)) hT
      replace S4 := S4.beside ER (noWord2 (fun _ e => by cases e) (fun _ e => by cases e)) hT
      replace ER : Box ((w4.setCell ⟨w.heap.size + 1, 0, none⟩ (.bool g4)).setCell ⟨w.heap.size + 1, 1, none⟩ (.slice a4 z4.length c4)) (w.heap.size + 1) (.cells #[.bool g4, .slice a4 z4.length c4] 28) := ⟨Nat.lt_of_lt_of_le ER.lt hT.below.size, (heap_setCell_same _ _ 1 _ _ _ (heap_setCell_same _ _ 0 _ _ _ ER.what))⟩
      replace hB := hB.trans (hT.below.mono (by omega))
      clear hT
      clear hA
      go_wp2
      refine bodyPost_ret (v := .tuple #[.agg #[.bool g4, .slice a4 z4.length c4], .int .i64 0]) (by simp [results, Tryz.f26, go_sem, r0, r1]) rfl ?_
      exact ⟨_, _, _, _, rfl, S4.mono (by omega), N4, V4, b4, hB⟩
    · obtain rfl : cv = 0 := by rw [← HC.out, heq, cmpI_eq]
      by_cases hodd : val z1 % 2 = 1
      · skip
        have HR : Hid (roundN (val xs) (val ds) = val xs / val ds + 1) := by rw [Hid, roundN, if_pos]; have := V2.out; have := V1.out; right; constructor <;> omega
        clear heq HC
        obtain ⟨k0, k1, k2, f0, f1, f2⟩ := EA.three
        obtain ⟨k3, k4, f3, f4⟩ := ER.two
        go_wp2_with fail
        clear k0 k1 k2 f0 f1 f2 k3 k4 f3 f4
        have hk := isOdd_any S1
        rw [decide_eq_true hodd] at hk
        refine (hk).mono ?_
        rintro e w4 ⟨rfl, hb⟩
        replace FA := FA.below hb
        replace EA := EA.below hb
        replace ER := ER.below hb
        replace S1 := S1.below hb
        replace hB := hB.trans (hb.mono hB.size)
        have zz4 := hb.size
        have zh4 := hB.size
        clear hb
        clear hk hodd
        obtain ⟨k0, k1, k2, f0, f1, f2⟩ := EA.three
        obtain ⟨k3, k4, f3, f4⟩ := ER.two
        go_wp2_with fail
        clear k0 k1 k2 f0 f1 f2 k3 k4 f3 f4
        refine (of_any 1 (by decide) _).mono ?_
        rintro e w5 ⟨a4, c4, z4, rfl, S4, N4, v4, l4, hb⟩
        have V4 : Hid (val z4 = (1 : Int)) := v4
        have b4 : z4.length ≤ 1 := by omega
        clear v4 l4
        replace FA := FA.below hb
        replace EA := EA.below hb
        replace ER := ER.below hb
        replace S1 := S1.below hb
        replace hB := hB.trans (hb.mono hB.size)
        have zz5 := hb.size
        have zh5 := hB.size
        clear hb
        obtain ⟨k0, k1, k2, f0, f1, f2⟩ := EA.three
        obtain ⟨k3, k4, f3, f4⟩ := ER.two
        go_wp2_with fail
        clear k0 k1 k2 f0 f1 f2 k3 k4 f3 f4
        refine (add_any S1 S4 (by omega) (by omega)).mono ?_
        rintro e w6 ⟨a5, c5, z5, rfl, S5, N5, v5, l5, hb⟩
        have V5 : Hid (val z5 = val z1 + 1) := by rw [Hid, v5, V4.out]
        have b5 : z5.length ≤ n + 2 := by omega
        clear v5 l5
        replace FA := FA.below hb
        replace EA := EA.below hb
        replace ER := ER.below hb
        replace S1 := S1.below hb
        replace S4 := S4.below hb
        replace hB := hB.trans (hb.mono hB.size)
        have zz6 := hb.size
        have zh6 := hB.size
        clear hb
        obtain ⟨k0, k1, k2, f0, f1, f2⟩ := EA.three
        obtain ⟨k3, k4, f3, f4⟩ := ER.two
        go_wp2_with fail
        clear k0 k1 k2 f0 f1 f2 k3 k4 f3 f4
        refine (smake_any S5 (by omega) b).mono ?_
        rintro e w7 ⟨g6, a6, c6, z6, rfl, S6, N6, v6, l6, hb⟩
        have V6 : Hid (sgn g6 (val z6) = sgn b (roundN (val xs) (val ds))) := by rw [Hid, v6, HR.out, V5.out, V1.out]
        have b6 : z6.length ≤ n + 2 := by omega
        clear v6 l6
        replace FA := FA.below hb
        replace EA := EA.below hb
        replace ER := ER.below hb
        replace S1 := S1.below hb
        replace S4 := S4.below hb
        replace S5 := S5.below hb
        replace hB := hB.trans (hb.mono hB.size)
        have zz7 := hb.size
        have zh7 := hB.size
        clear hb
        obtain ⟨k0, k1, k2, f0, f1, f2⟩ := EA.three
        obtain ⟨k3, k4, f3, f4⟩ := ER.two
        have hcc := ER.two
        have r0 := hcc.1
        have r1 := hcc.2.1
        clear hcc
        have qEA := EA.lt
        have qER := ER.lt
        have hA := Below.refl w7.heap.size w7
        have hT := (((Turns.refl (w.heap.size + 1) w7).setCell 0 (.bool g6)).setCell 1 (.slice a6 z6.length c6))
        replace FA := FA.beside ER (noWord2 (fun _ e => by cases e) (fun _ e => by cases e)) hT
        replace EA := EA.turns hT (by omega)
        replace S1 := S1.beside ER (noWord2 (fun _ e => by cases e) (fun _ e => by cases e)) hT
        replace S4 := S4.beside ER (noWord2 (fun _ e => by cases e) (fun _ e => by cases e)) hT
        replace S5 := S5.beside ER (noWord2 (fun _ e => by cases e) (fun _ e => by cases e)) hT
        replace S6 := S6.beside ER (noWord2 (fun _ e => by cases e) (fun _ e => by cases e)) hT
        replace ER : Box ((w7.setCell ⟨w.heap.size + 1, 0, none⟩ (.bool g6)).setCell ⟨w.heap.size + 1, 1, none⟩ (.slice a6 z6.length c6)) (w.heap.size + 1) (.cells #[.bool g6, .slice a6 z6.length c6] 28) := ⟨Nat.lt_of_lt_of_le ER.lt hT.below.size, (heap_setCell_same _ _ 1 _ _ _ (heap_setCell_same _ _ 0 _ _ _ ER.what))⟩
        replace hB := hB.trans (hT.below.mono (by omega))
        clear hT
        clear hA
        go_wp2
        refine bodyPost_ret (v := .tuple #[.agg #[.bool g6, .slice a6 z6.length c6], .int .i64 0]) (by simp [results, Tryz.f26, go_sem, r0, r1]) rfl ?_
        exact ⟨_, _, _, _, rfl, S6.mono (by omega), N6, V6, b6, hB⟩
      · skip
        have HR : Hid (roundN (val xs) (val ds) = val xs / val ds) := by rw [Hid, roundN, if_neg]; have := V2.out; have := V1.out; rintro (h | ⟨h, h2⟩) <;> omega
        clear heq HC
        obtain ⟨k0, k1, k2, f0, f1, f2⟩ := EA.three
        obtain ⟨k3, k4, f3, f4⟩ := ER.two
        go_wp2_with fail
        clear k0 k1 k2 f0 f1 f2 k3 k4 f3 f4
        have hk := isOdd_any S1
        rw [decide_eq_false hodd] at hk
        refine (hk).mono ?_
        rintro e w4 ⟨rfl, hb⟩
        replace FA := FA.below hb
        replace EA := EA.below hb
        replace ER := ER.below hb
        replace S1 := S1.below hb
        replace hB := hB.trans (hb.mono hB.size)
        have zz4 := hb.size
        have zh4 := hB.size
        clear hb
        clear hk hodd
        obtain ⟨k0, k1, k2, f0, f1, f2⟩ := EA.three
        obtain ⟨k3, k4, f3, f4⟩ := ER.two
        go_wp2_with fail
        clear k0 k1 k2 f0 f1 f2 k3 k4 f3 f4
        refine (smake_any S1 (by omega) b).mono ?_
        rintro e w5 ⟨g4, a4, c4, z4, rfl, S4, N4, v4, l4, hb⟩
        have V4 : Hid (sgn g4 (val z4) = sgn b (roundN (val xs) (val ds))) := by rw [Hid, v4, HR.out, V1.out]
        have b4 : z4.length ≤ n + 2 := by omega
        clear v4 l4
        replace FA := FA.below hb
        replace EA := EA.below hb
        replace ER := ER.below hb
        replace S1 := S1.below hb
        replace hB := hB.trans (hb.mono hB.size)
        have zz5 := hb.size
        have zh5 := hB.size
        clear hb
        obtain ⟨k0, k1, k2, f0, f1, f2⟩ := EA.three
        obtain ⟨k3, k4, f3, f4⟩ := ER.two
        have hcc := ER.two
        have r0 := hcc.1
        have r1 := hcc.2.1
        clear hcc
        have qEA := EA.lt
        have qER := ER.lt
        have hA := Below.refl w5.heap.size w5
        have hT := (((Turns.refl (w.heap.size + 1) w5).setCell 0 (.bool g4)).setCell 1 (.slice a4 z4.length c4))
        replace FA := FA.beside ER (noWord2 (fun _ e => by cases e) (fun _ e => by cases e)) hT
        replace EA := EA.turns hT (by omega)
        replace S1 := S1.beside ER (noWord2 (fun _ e => by cases e) (fun _ e => by cases e)) hT
        replace S4 := S4.beside ER (noWord2 (fun _ e => by cases e) (fun _ e => by cases e)) hT
        replace ER : Box ((w5.setCell ⟨w.heap.size + 1, 0, none⟩ (.bool g4)).setCell ⟨w.heap.size + 1, 1, none⟩ (.slice a4 z4.length c4)) (w.heap.size + 1) (.cells #[.bool g4, .slice a4 z4.length c4] 28) := ⟨Nat.lt_of_lt_of_le ER.lt hT.below.size, (heap_setCell_same _ _ 1 _ _ _ (heap_setCell_same _ _ 0 _ _ _ ER.what))⟩
        replace hB := hB.trans (hT.below.mono (by omega))
        clear hT
        clear hA
        go_wp2
        refine bodyPost_ret (v := .tuple #[.agg #[.bool g4, .slice a4 z4.length c4], .int .i64 0]) (by simp [results, Tryz.f26, go_sem, r0, r1]) rfl ?_
        exact ⟨_, _, _, _, rfl, S4.mono (by omega), N4, V4, b4, hB⟩
    · skip
      obtain rfl : cv = 1 := by rw [← HC.out]; exact cmpI_gt hgt
      have HR : Hid (roundN (val xs) (val ds) = val xs / val ds + 1) := by rw [Hid, roundN, if_pos]; have := V2.out; left; omega
      clear hgt HC
      obtain ⟨k0, k1, k2, f0, f1, f2⟩ := EA.three
      obtain ⟨k3, k4, f3, f4⟩ := ER.two
      go_wp2_with fail
      clear k0 k1 k2 f0 f1 f2 k3 k4 f3 f4
      refine (of_any 1 (by decide) _).mono ?_
      rintro e w4 ⟨a4, c4, z4, rfl, S4, N4, v4, l4, hb⟩
      have V4 : Hid (val z4 = (1 : Int)) := v4
      have b4 : z4.length ≤ 1 := by omega
      clear v4 l4
      replace FA := FA.below hb
      replace EA := EA.below hb
      replace ER := ER.below hb
      replace S1 := S1.below hb
      replace hB := hB.trans (hb.mono hB.size)
      have zz4 := hb.size
      have zh4 := hB.size
      clear hb
      obtain ⟨k0, k1, k2, f0, f1, f2⟩ := EA.three
      obtain ⟨k3, k4, f3, f4⟩ := ER.two
      go_wp2_with fail
      clear k0 k1 k2 f0 f1 f2 k3 k4 f3 f4
      refine (add_any S1 S4 (by omega) (by omega)).mono ?_
      rintro e w5 ⟨a5, c5, z5, rfl, S5, N5, v5, l5, hb⟩
      have V5 : Hid (val z5 = val z1 + 1) := by rw [Hid, v5, V4.out]
      have b5 : z5.length ≤ n + 2 := by omega
      clear v5 l5
      replace FA := FA.below hb
      replace EA := EA.below hb
      replace ER := ER.below hb
      replace S1 := S1.below hb
      replace S4 := S4.below hb
      replace hB := hB.trans (hb.mono hB.size)
      have zz5 := hb.size
      have zh5 := hB.size
      clear hb
      obtain ⟨k0, k1, k2, f0, f1, f2⟩ := EA.three
      obtain ⟨k3, k4, f3, f4⟩ := ER.two
      go_wp2_with fail
      clear k0 k1 k2 f0 f1 f2 k3 k4 f3 f4
      refine (smake_any S5 (by omega) b).mono ?_
      rintro e w6 ⟨g6, a6, c6, z6, rfl, S6, N6, v6, l6, hb⟩
      have V6 : Hid (sgn g6 (val z6) = sgn b (roundN (val xs) (val ds))) := by rw [Hid, v6, HR.out, V5.out, V1.out]
      have b6 : z6.length ≤ n + 2 := by omega
      clear v6 l6
      replace FA := FA.below hb
      replace EA := EA.below hb
      replace ER := ER.below hb
      replace S1 := S1.below hb
      replace S4 := S4.below hb
      replace S5 := S5.below hb
      replace hB := hB.trans (hb.mono hB.size)
      have zz6 := hb.size
      have zh6 := hB.size
      clear hb
      obtain ⟨k0, k1, k2, f0, f1, f2⟩ := EA.three
      obtain ⟨k3, k4, f3, f4⟩ := ER.two
      have hcc := ER.two
      have r0 := hcc.1
      have r1 := hcc.2.1
      clear hcc
      have qEA := EA.lt
      have qER := ER.lt
      have hA := Below.refl w6.heap.size w6
      have hT := (((Turns.refl (w.heap.size + 1) w6).setCell 0 (.bool g6)).setCell 1 (.slice a6 z6.length c6))
      replace FA := FA.beside ER (noWord2 (fun _ e => by cases e) (fun _ e => by cases e)) hT
      replace EA := EA.turns hT (by omega)
      replace S1 := S1.beside ER (noWord2 (fun _ e => by cases e) (fun _ e => by cases e)) hT
      replace S4 := S4.beside ER (noWord2 (fun _ e => by cases e) (fun _ e => by cases e)) hT
      replace S5 := S5.beside ER (noWord2 (fun _ e => by cases e) (fun _ e => by cases e)) hT
      replace S6 := S6.beside ER (noWord2 (fun _ e => by cases e) (fun _ e => by cases e)) hT
      replace ER : Box ((w6.setCell ⟨w.heap.size + 1, 0, none⟩ (.bool g6)).setCell ⟨w.heap.size + 1, 1, none⟩ (.slice a6 z6.length c6)) (w.heap.size + 1) (.cells #[.bool g6, .slice a6 z6.length c6] 28) := ⟨Nat.lt_of_lt_of_le ER.lt hT.below.size, (heap_setCell_same _ _ 1 _ _ _ (heap_setCell_same _ _ 0 _ _ _ ER.what))⟩
      replace hB := hB.trans (hT.below.mono (by omega))
      clear hT
      clear hA
      go_wp2
      refine bodyPost_ret (v := .tuple #[.agg #[.bool g6, .slice a6 z6.length c6], .int .i64 0]) (by simp [results, Tryz.f26, go_sem, r0, r1]) rfl ?_
      exact ⟨_, _, _, _, rfl, S6.mono (by omega), N6, V6, b6, hB⟩

set_option maxRecDepth 100000 in
set_option maxHeartbeats 4000000 in
/-- Round of what is no fraction. -/
theorem pround_no {lo : Nat} {a c : Option Addr} {ca cc : Nat} {xs ds : List Int} {w : World} (b : Bool) (FA : Fr lo w a ca xs c cc ds) (hl : xs.length ≤ 400 ∧ ds.length ≤ 400) (HA : Hid (formR b xs ds = 6)) :
    Calls Tryz.prog 26 #[.agg #[.bool b, .slice a xs.length ca, .slice c ds.length cc]] w fun e w' => e = .returned (.tuple #[.agg #[.bool false, .slice none 0 0], .int .i64 6]) ∧ Below w.heap.size w w' := by
  have hB := Below.refl w.heap.size w
  go_enter Tryz.func26, Tryz.ntmps26
  have hA := Below.refl w.heap.size w
  have hq : Below w.heap.size w (w.alloc (.cells #[.bool b, .slice a xs.length ca, .slice c ds.length cc] 30)) := (Below.refl _ _).alloc (Nat.le_refl _) _
  replace FA := FA.below hq
  have EA : Box (w.alloc (.cells #[.bool b, .slice a xs.length ca, .slice c ds.length cc] 30)) (w.heap.size) (.cells #[.bool b, .slice a xs.length ca, .slice c ds.length cc] 30) := Box.put (.cells #[.bool b, .slice a xs.length ca, .slice c ds.length cc] 30) rfl
  replace hA := hA.trans (hq.mono hA.size)
  replace hB := hB.trans (hq.mono hB.size)
  clear hq
  have hq : Below (w.alloc (.cells #[.bool b, .slice a xs.length ca, .slice c ds.length cc] 30)).heap.size (w.alloc (.cells #[.bool b, .slice a xs.length ca, .slice c ds.length cc] 30)) ((w.alloc (.cells #[.bool b, .slice a xs.length ca, .slice c ds.length cc] 30)).alloc (.cells #[.bool false, .slice none 0 0] 28)) := (Below.refl _ _).alloc (Nat.le_refl _) _
  replace FA := FA.below hq
  replace EA := EA.below hq
  have ER : Box ((w.alloc (.cells #[.bool b, .slice a xs.length ca, .slice c ds.length cc] 30)).alloc (.cells #[.bool false, .slice none 0 0] 28)) (w.heap.size + 1) (.cells #[.bool false, .slice none 0 0] 28) := Box.put (.cells #[.bool false, .slice none 0 0] 28) (by simp)
  replace hA := hA.trans (hq.mono hA.size)
  replace hB := hB.trans (hq.mono hB.size)
  clear hq
  clear hA
  go_wp2_with fail
  obtain ⟨u1, hname⟩ : ∃ u, ((w.alloc (.cells #[.bool b, .slice a xs.length ca, .slice c ds.length cc] 30)).alloc (.cells #[.bool false, .slice none 0 0] 28)) = u := ⟨_, rfl⟩
  rw [hname] at hB FA EA ER ⊢
  have zh1 := hB.size
  clear hname
  have hk := pcheck_any b FA (by omega) (by omega)
  rw [HA.out] at hk
  refine (hk).mono ?_
  rintro e w2 ⟨rfl, hb⟩
  replace FA := FA.below hb
  replace EA := EA.below hb
  replace ER := ER.below hb
  replace hB := hB.trans (hb.mono hB.size)
  have zz2 := hb.size
  have zh2 := hB.size
  clear hb
  clear hk
  obtain ⟨k0, k1, k2, f0, f1, f2⟩ := EA.three
  obtain ⟨k3, k4, f3, f4⟩ := ER.two
  have hcc := ER.two
  have r0 := hcc.1
  have r1 := hcc.2.1
  clear hcc
  have qEA := EA.lt
  have qER := ER.lt
  have hA := Below.refl w2.heap.size w2
  have hT := (((Turns.refl (w.heap.size + 1) w2).setCell 0 (.bool false)).setCell 1 (.slice none 0 0))
  replace FA := FA.beside ER (noWord2 (fun _ e => by cases e) (fun _ e => by cases e)) hT
  replace EA := EA.turns hT (by omega)
  replace ER : Box ((w2.setCell ⟨w.heap.size + 1, 0, none⟩ (.bool false)).setCell ⟨w.heap.size + 1, 1, none⟩ (.slice none 0 0)) (w.heap.size + 1) (.cells #[.bool false, .slice none 0 0] 28) := ⟨Nat.lt_of_lt_of_le ER.lt hT.below.size, (heap_setCell_same _ _ 1 _ _ _ (heap_setCell_same _ _ 0 _ _ _ ER.what))⟩
  replace hB := hB.trans (hT.below.mono (by omega))
  clear hT
  clear hA
  go_wp2
  refine bodyPost_ret (v := .tuple #[.agg #[.bool false, .slice none 0 0], .int .i64 6]) (by simp [results, Tryz.f26, go_sem, r0, r1]) rfl ?_
  exact ⟨rfl, hB⟩
end Go.Proofs.YtblmkddjlfienaaGreat

/-
  The walk of the document's Power.
-/
namespace Go.Proofs.YtblmkddjlfienaaGreat
open Go.RowKit

end Go.Proofs.YtblmkddjlfienaaGreat

/-
  Lists that are written out; the statements' small helpers of layer 2.
-/
namespace Go.Proofs.YtblmkddjlfienaaGreat
open Go.RowKit

/-- A list that is written out. -/
theorem seg_lit (w : World) (zs : List Int) (hw : Words zs) : Seg w.heap.size (w.alloc (.cells (zs.map (Value.int .u64)).toArray 58)) (.slice (some ⟨w.heap.size, 0, none⟩) zs.length zs.length) zs := by
  have hh : (w.alloc (.cells (zs.map (Value.int .u64)).toArray 58)).heap[w.heap.size]? = some (.cells (zs.map (Value.int .u64)).toArray 58 (0, 0)) := World.alloc_heap_new w _
  refine ⟨hw, _, _, rfl, Nat.le_refl _, fun _ => ⟨_, 0, rfl, Nat.le_refl _, by simp, fun j hj => ?_, fun j _ => frozen_of_heap hh _⟩⟩
  rw [cell_of_heap hh, Nat.zero_add]
  simp [hj]
/-- Words, told by reckoning. -/
def wordsB (zs : List Int) : Bool := zs.all fun z => decide (0 ≤ z) && decide (z < 18446744073709551616)
theorem words_of {zs : List Int} (h : wordsB zs = true) : Words zs := fun z hz => by
  have := List.all_eq_true.1 h z hz
  simpa using this
theorem Seg.alloc {lo : Nat} {W : World} {sv : Value} {zs : List Int} (h : Seg lo W sv zs) (o : Obj) : Seg lo (W.alloc o) sv zs := h.below ((Below.refl _ _).alloc (Nat.le_refl _) o)
/-- Power(a, m), told over whole numbers. -/
theorem power_int {lo : Nat} {a : Option Addr} {n cap : Nat} {xs : List Int} {w : World} (ha : Seg lo w (.slice a n cap) xs) (m : Int) (h0 : 0 ≤ m) (h1 : m ≤ 65536) (hbits : m * (blen (val xs) : Int) ≤ 16777216) (hfit : (xs.length + 1) * 2 ^ (blen m + 1) ≤ 4000) :
    Calls Tryz.prog 100 #[.slice a n cap, .int .i64 m] w fun e w' => ∃ (a' : Option Addr) (cap' : Nat) (zs : List Int), e = .returned (.tuple #[.slice a' zs.length cap', .int .i64 0]) ∧ Seg w.heap.size w' (.slice a' zs.length cap') zs ∧ Norm zs ∧ val zs = val xs ^ m.toNat ∧ zs.length ≤ xs.length * m.toNat + 1 ∧ Below w.heap.size w w' := by
  obtain ⟨rfl, _⟩ := ha.len
  obtain ⟨k, rfl⟩ := Int.eq_ofNat_of_zero_le h0
  refine (power_yes ha k (by omega) hbits hfit).mono ?_
  rintro e w' ⟨a', c', zs, he, hs, hn, hv, hb⟩
  exact ⟨a', c', zs, he, hs, hn, hv, len_of_pow ha.words hs.words hn hv, hb⟩
end Go.Proofs.YtblmkddjlfienaaGreat

