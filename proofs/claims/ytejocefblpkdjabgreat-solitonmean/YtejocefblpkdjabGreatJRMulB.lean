/-
  Joined: RMulB WholeB WholeD WholeE WKit Boxes Drawn DrawnK Boxes3 WholeF WholeG SigA Drawz.
-/
import Derived.Test.YtejocefblpkdjabGreatJQOff
import Derived.Deep.DeepCutAuto
import Derived.Test.YtejocefblpkdjabGreatJRefD
import Derived.Deep.RegionWith
import Derived.Deep.RegionHeld3
import Derived.Test.YtejocefblpkdjabGreatJRefA
import Derived.Laws.Rows
import Derived.Test.YtejocefblpkdjabGreatJKit
import Derived.Test.YtejocefblpkdjabGreatJWiden
import Derived.OrdersHeld
import Derived.Laws.Bits64
import Derived.Test.YtejocefblpkdjabGreatJEnds
namespace Go.Proofs.YtejocefblpkdjabGreat
open Go.RowKit
theorem two_cells {W W' : World} {g N : Nat} {u v : Value} {t : TypeId} (hh : W.heap[g]? = some (.cells #[u, v] t (0, 0))) (hb : Below N W W') (hg : g < N) :
    W'.cell? ⟨g, 0, none⟩ = some u ∧ W'.cell? ⟨g, 1, none⟩ = some v ∧ W'.frozen? ⟨g, 0, none⟩ = false ∧ W'.frozen? ⟨g, 1, none⟩ = false := by
  have h := (hb.block g hg).trans hh
  exact ⟨cell_of_heap h 0, cell_of_heap h 1, frozen_of_heap h 0, frozen_of_heap h 1⟩
theorem three_new (w : World) (A B C : Obj) : ((((w.alloc A).alloc B).alloc C).heap[w.heap.size]? = some A) ∧ ((((w.alloc A).alloc B).alloc C).heap[w.heap.size + 1]? = some B) ∧ ((((w.alloc A).alloc B).alloc C).heap[w.heap.size + 2]? = some C) ∧ Below w.heap.size w (((w.alloc A).alloc B).alloc C) ∧ (((w.alloc A).alloc B).alloc C).heap.size = w.heap.size + 3 := by
  have h1 := World.alloc_heap_new w A
  have h2 := World.alloc_heap_new (w.alloc A) B
  have h3 := World.alloc_heap_new ((w.alloc A).alloc B) C
  rw [World.size_alloc] at h2 h3
  rw [World.size_alloc] at h3
  have b2 : Below (w.alloc A).heap.size (w.alloc A) ((w.alloc A).alloc B) := (Below.refl _ _).alloc (Nat.le_refl _) _
  have b3 : Below ((w.alloc A).alloc B).heap.size ((w.alloc A).alloc B) (((w.alloc A).alloc B).alloc C) := (Below.refl _ _).alloc (Nat.le_refl _) _
  refine ⟨?_, ?_, h3, (((Below.refl _ w).alloc (Nat.le_refl _) _).alloc (by simp) _).alloc (by simp; omega) _, by simp⟩
  · exact (b3.block _ (by simp; omega)).trans ((b2.block _ (by simp)).trans h1)
  · exact (b3.block _ (by simp)).trans h2
theorem sgn_mul (b c : Bool) (x y : Int) : sgn (b != c) (x * y) = sgn b x * sgn c y := by
  cases b <;> cases c <;> simp [sgn, Int.neg_mul, Int.mul_neg]
theorem sgn_add (b : Bool) (x y : Int) : sgn b (x + y) = sgn b x + sgn b y := by
  cases b <;> simp [sgn] <;> omega
theorem sgn_diff {b d : Bool} (h : (b == d) = false) (x y : Int) : sgn b (x - y) = sgn b x + sgn d y := by
  cases b <;> cases d <;> simp [sgn] at h ⊢ <;> omega
theorem turned2 {W : World} {g : Nat} {u v : Value} {t : TypeId} (u' v' : Value) (hh : W.heap[g]? = some (.cells #[u, v] t (0, 0))) : ((W.setCell ⟨g, 0, none⟩ u').setCell ⟨g, 1, none⟩ v').heap[g]? = some (.cells #[u', v'] t (0, 0)) := by
  have h1 := heap_setCell_same W g 0 _ t u' hh
  have h2 := heap_setCell_same _ g 1 _ t v' h1
  exact h2
theorem two_new (w : World) (A B : Obj) : (((w.alloc A).alloc B).heap[w.heap.size]? = some A) ∧ (((w.alloc A).alloc B).heap[w.heap.size + 1]? = some B) ∧ Below w.heap.size w ((w.alloc A).alloc B) ∧ ((w.alloc A).alloc B).heap.size = w.heap.size + 2 := by
  have h1 := World.alloc_heap_new w A
  have h2 := World.alloc_heap_new (w.alloc A) B
  rw [World.size_alloc] at h2
  have b2 : Below (w.alloc A).heap.size (w.alloc A) ((w.alloc A).alloc B) := (Below.refl _ _).alloc (Nat.le_refl _) _
  exact ⟨(b2.block _ (by simp)).trans h1, h2, ((Below.refl _ w).alloc (Nat.le_refl _) _).alloc (by simp) _, by simp⟩
set_option maxRecDepth 100000 in
set_option maxHeartbeats 1000000 in
theorem samew_yes {lo lo' : Nat} {a c : Option Addr} {ca cc : Nat} {xs : List Int} {w : World} (b : Bool) (h : Seg lo w (.slice a xs.length ca) xs) (h' : Seg lo' w (.slice c xs.length cc) xs) (hl : xs.length ≤ 10000) :
    Calls Tryz.prog 21 #[.agg #[.bool b, .slice a xs.length ca], .agg #[.bool b, .slice c xs.length cc]] w fun e w' => e = .returned (.bool true) ∧ Below w.heap.size w w' := by
  obtain ⟨_, _, hB0, _⟩ := two_new w (.cells #[.bool b, .slice a xs.length ca] 29) (.cells #[.bool b, .slice c xs.length cc] 29)
  have hs := same_yes (h.below hB0) (h'.below hB0) (by omega)
  go_enter Tryz.func21, Tryz.ntmps21
  go_wp2_with fail
  refine hs.mono ?_
  rintro e w1 ⟨rfl, hb1⟩
  have hBB := hB0.trans (hb1.mono hB0.size)
  clear hs
  go_wp2
  go_ret
  exact ⟨rfl, hBB⟩
set_option maxRecDepth 100000 in
set_option maxHeartbeats 1000000 in
theorem samew_no {lo lo' : Nat} {a c : Option Addr} {ca cc : Nat} {xs ys : List Int} {w : World} (b d : Bool) (h : Seg lo w (.slice a xs.length ca) xs) (h' : Seg lo' w (.slice c ys.length cc) ys) (hl : xs.length ≤ 10000) (hne : ¬ (b = d ∧ xs = ys)) :
    Calls Tryz.prog 21 #[.agg #[.bool b, .slice a xs.length ca], .agg #[.bool d, .slice c ys.length cc]] w fun e w' => e = .returned (.bool false) ∧ Below w.heap.size w w' := by
  obtain ⟨_, _, hB0, _⟩ := two_new w (.cells #[.bool b, .slice a xs.length ca] 29) (.cells #[.bool d, .slice c ys.length cc] 29)
  by_cases hbd : b = d
  · subst hbd
    have hs := same_no (h.below hB0) (h'.below hB0) (by omega) (fun e => hne ⟨rfl, e⟩)
    clear hne
    go_enter Tryz.func21, Tryz.ntmps21
    go_wp2_with fail
    refine hs.mono ?_
    rintro e w1 ⟨rfl, hb1⟩
    have hBB := hB0.trans (hb1.mono hB0.size)
    clear hs
    go_wp2
    go_ret
    exact ⟨rfl, hBB⟩
  · have hf : (b == d) = false := beq_eq_false_iff_ne.2 hbd
    clear hne hbd
    go_enter Tryz.func21, Tryz.ntmps21
    go_wp2
    go_ret
    exact ⟨rfl, hB0⟩
structure Box (W : World) (k : Nat) (o : Obj) : Prop where
  lt : k < W.heap.size
  what : W.heap[k]? = some o
theorem Box.new (w : World) (o : Obj) : Box (w.alloc o) w.heap.size o := ⟨by simp, World.alloc_heap_new w o⟩
theorem Box.below {W W' : World} {k : Nat} {o : Obj} (h : Box W k o) (hb : Below W.heap.size W W') : Box W' k o := ⟨Nat.lt_of_lt_of_le h.lt hb.size, (hb.block k h.lt).trans h.what⟩
theorem Box.under {W W' : World} {k N : Nat} {o : Obj} (h : Box W k o) (hb : Below N W W') (hk : k < N) : Box W' k o := ⟨Nat.lt_of_lt_of_le h.lt hb.size, (hb.block k hk).trans h.what⟩
theorem Box.above {W W' : World} {k hi : Nat} {o : Obj} (h : Box W k o) (hk : ∀ k, hi ≤ k → W'.heap[k]? = W.heap[k]?) (hs : W.heap.size ≤ W'.heap.size) (hh : hi ≤ k) : Box W' k o := ⟨Nat.lt_of_lt_of_le h.lt hs, (hk k hh).trans h.what⟩
theorem Box.turns {W W' : World} {k g : Nat} {o : Obj} (h : Box W k o) (ht : Turns g W W') (hk : k ≠ g) : Box W' k o := ⟨Nat.lt_of_lt_of_le h.lt ht.below.size, (ht.other k hk h.lt).trans h.what⟩
theorem Box.two {W : World} {k : Nat} {u v : Value} {t : TypeId} (h : Box W k (.cells #[u, v] t (0, 0))) : W.cell? ⟨k, 0, none⟩ = some u ∧ W.cell? ⟨k, 1, none⟩ = some v ∧ W.frozen? ⟨k, 0, none⟩ = false ∧ W.frozen? ⟨k, 1, none⟩ = false := two_cells h.what (Below.refl W.heap.size W) h.lt
theorem Box.set2 {W : World} {k : Nat} {u v : Value} {t : TypeId} (u' v' : Value) (h : Box W k (.cells #[u, v] t (0, 0))) : Box ((W.setCell ⟨k, 0, none⟩ u').setCell ⟨k, 1, none⟩ v') k (.cells #[u', v'] t (0, 0)) := ⟨Nat.lt_of_lt_of_le h.lt (turns2 k W u' v').below.size, turned2 u' v' h.what⟩
theorem Box.drew {W : World} {k : Nat} {o : Obj} (h : Box W k o) : Box W.drew k o := ⟨h.lt, h.what⟩
theorem Box.put {w : World} {k : Nat} (o : Obj) (hk : w.heap.size = k) : Box (w.alloc o) k o := hk ▸ Box.new w o
theorem Box.cells {W : World} {k : Nat} {u v : Value} {t : TypeId} (h : Box W k (.cells #[u, v] t (0, 0))) : W.cell? ⟨k, 0, none⟩ = some u ∧ W.cell? ⟨k, 1, none⟩ = some v := ⟨h.two.1, h.two.2.1⟩
theorem _root_.Go.RowKit.Below.a1 {A B : World} (h : Below A.heap.size A B) (o : Obj) : Below A.heap.size A (B.alloc o) := h.alloc h.size o
theorem below_new (w : World) (o : Obj) : Below w.heap.size w (w.alloc o) := (Below.refl _ _).alloc (Nat.le_refl _) _
theorem nm {B : Nat} {a W : World} (_ : Below B a W) : ∃ u, W = u := ⟨_, rfl⟩
theorem lz1 {α : Type} {xs : List α} {i : Nat} (h : i < xs.toArray.size) : xs.toArray[i] = xs[i]'(by simpa using h) := rfl
theorem lz2 {α : Type} (a : α) (l : List α) (h : 0 < (a :: l).length) : (a :: l)[0] = a := rfl
theorem lz3 {α : Type} (a : α) (l : List α) (i : Nat) (h : i + 1 < (a :: l).length) : (a :: l)[i + 1] = l[i]'(Nat.lt_of_succ_lt_succ h) := rfl
theorem lz4 {α : Type} {xs : List α} {i : Nat} : xs.toArray[i]? = xs[i]? := List.getElem?_toArray
theorem lz5 {α : Type} {a : α} {l : List α} : (a :: l)[0]? = some a := rfl
theorem lz6 {α : Type} {a : α} {i : Nat} {l : List α} : (a :: l)[i + 1]? = l[i]? := rfl
theorem lz7 {α : Type} (l : List α) (i : Nat) (a : α) : l.toArray.setIfInBounds i a = (l.set i a).toArray := List.setIfInBounds_toArray l i a
theorem lz8 {α : Type} {x : α} {xs : List α} {a : α} : (x :: xs).set 0 a = a :: xs := rfl
theorem lz9 {α : Type} {x : α} {xs : List α} {i : Nat} {a : α} : (x :: xs).set (i + 1) a = x :: xs.set i a := rfl
def laidIn (ops : Array Oper) (l : Nat → Bool) (vs : Nat → Value) : Nat → Act → Act
  | 0, a => a
  | k + 1, a => match ops[k]? with
    | some o => if l k = true then (laidIn ops l vs k a).put o.dst (vs k) else laidIn ops l vs k a
    | none => laidIn ops l vs k a
def upd {α : Type} (f : Nat → α) (i : Nat) (x : α) : Nat → α := fun j => if j = i then x else f j
theorem upd_same {α : Type} (f : Nat → α) (i : Nat) (x : α) : upd f i x i = x := if_pos rfl
theorem upd_other {α : Type} (f : Nat → α) {i j : Nat} (x : α) (h : j ≠ i) : upd f i x j = f j := if_neg h
theorem put_size (a : Act) (d : Option Tmp) (v : Value) : (a.put d v).tmps.size = a.tmps.size := by
  cases d <;> simp [Act.put]
theorem laid_size (ops : Array Oper) (l : Nat → Bool) (vs : Nat → Value) (a : Act) : ∀ n, (laidIn ops l vs n a).tmps.size = a.tmps.size
  | 0 => rfl
  | n + 1 => by
    have ih := laid_size ops l vs a n
    unfold laidIn
    split
    · split
      · rw [put_size]; exact ih
      · exact ih
    · exact ih
theorem put_eval_same (a b : Act) (d : Tmp) (v : Value) (h : a.tmps.size = b.tmps.size) : (a.put (some d) v).eval (.tmp d) = (b.put (some d) v).eval (.tmp d) := by
  simp only [Act.put, Act.eval]
  by_cases hd : d < a.tmps.size
  · simp [hd, h ▸ hd]
  · simp [hd, h ▸ hd]
theorem laid_eval {ops : Array Oper} {l l' : Nat → Bool} {vs : Nat → Value} {a : Act} (x : Operand) : ∀ n,
    (∀ k, k < n → ∀ o, ops[k]? = some o → (∃ d, o.dst = some d ∧ x = .tmp d) → l k = l' k) → (laidIn ops l vs n a).eval x = (laidIn ops l' vs n a).eval x
  | 0, _ => rfl
  | n + 1, h => by
    have ih := laid_eval (ops := ops) (l := l) (l' := l') (vs := vs) (a := a) x n (fun k hk => h k (by omega))
    unfold laidIn
    cases ho : ops[n]? with
    | none => exact ih
    | some o =>
      simp only []
      by_cases hx : ∃ d, o.dst = some d ∧ x = .tmp d
      · rw [h n (by omega) o ho hx]
        obtain ⟨d, hd, rfl⟩ := hx
        cases l' n
        · simp only [Bool.false_eq_true, if_false]; exact ih
        · simp only [if_true, hd]; exact put_eval_same _ _ _ _ (by rw [laid_size, laid_size])
      · have hne : ∀ d, o.dst = some d → x ≠ .tmp d := fun d hd e => hx ⟨d, hd, e⟩
        cases l n <;> cases l' n <;> simp only [Bool.false_eq_true, if_false, if_true, Act.eval_put hne] <;> exact ih
theorem laid_upd {ops : Array Oper} {l : Nat → Bool} {vs : Nat → Value} {a : Act} {i : Nat} {v : Value} : ∀ n, n ≤ i → laidIn ops (upd l i true) (upd vs i v) n a = laidIn ops l vs n a
  | 0, _ => rfl
  | n + 1, h => by
    have ih := laid_upd (ops := ops) (l := l) (vs := vs) (a := a) (i := i) (v := v) n (by omega)
    unfold laidIn
    rw [upd_other _ _ (show n ≠ i by omega), upd_other _ _ (show n ≠ i by omega), ih]
theorem laid_put {ops : Array Oper} {l : Nat → Bool} {vs : Nat → Value} {a : Act} {i : Nat} {o : Oper} {v : Value} (ho : ops[i]? = some o) (hl : l i = false) : ∀ n, i < n →
    (∀ k, k < n → k ≠ i → ∀ o', ops[k]? = some o' → ∀ d, o'.dst = some d → o.dst ≠ some d) → (laidIn ops l vs n a).put o.dst v = laidIn ops (upd l i true) (upd vs i v) n a
  | 0, h, _ => by omega
  | n + 1, h, hd => by
    by_cases hn : n = i
    · subst hn
      have e := laid_upd (ops := ops) (l := l) (vs := vs) (a := a) (i := n) (v := v) n (Nat.le_refl _)
      unfold laidIn
      simp only [ho, hl, upd_same, Bool.false_eq_true, if_false, if_true, e]
    · have ih := laid_put (vs := vs) (a := a) (v := v) ho hl n (by omega) (fun k hk => hd k (by omega))
      unfold laidIn
      cases ho' : ops[n]? with
      | none => simp only []; exact ih
      | some o' =>
        simp only [upd_other _ _ hn]
        by_cases hln : l n = true
        · simp only [hln, if_true]
          rw [Act.put_comm _ _ _ (hd n (by omega) hn o' ho'), ih]
        · rw [if_neg hln, if_neg hln]
          exact ih
def needs (ops : Array Oper) (i j : Nat) : Bool :=
  match ops[i]?, ops[j]? with
  | some o, some o' => (match o'.dst with | some d => (o.looksAt ops).contains d | none => false)
  | _, _ => false
def waitsOn (ops : Array Oper) : Nat → Nat → Nat → Bool
  | 0, _, _ => false
  | f + 1, i, j => match ops[i]? with
    | some o => (o.after.toList.any fun e => Region.binds .any e && e.on == j) || (o.after.toList.any fun e => Region.binds .any e && waitsOn ops f e.on j)
    | none => false
def drawnOk (ops : Array Oper) (nA slots : Nat) : Bool :=
  decide (nA ≤ ops.size) &&
  ((List.range nA).all fun i => match ops[i]? with
    | none => false
    | some o => o.guard.isNone && (match o.op with | .select _ _ => false | _ => true) &&
      (match o.dst with
       | some d => decide (d < slots) && ((List.range nA).all fun k => k == i || (match ops[k]? with | some o' => o'.dst != some d | none => true))
       | none => false) &&
      (o.after.toList.all fun e => !Region.binds .any e || decide (e.on < i)) &&
      ((List.range nA).all fun j => !needs ops i j || (o.after.toList.any fun e => Region.binds .any e && e.on == j))) &&
  ((List.range ops.size).all fun i => decide (i < nA) || (match ops[i]? with
    | some _ => (List.range nA).all fun j => waitsOn ops 9 i j
    | none => true))
structure OpFine (ops : Array Oper) (nA slots i : Nat) (o : Oper) (d : Tmp) : Prop where
  what : ops[i]? = some o
  guard : o.guard = none
  sel : ∀ cs b, o.op ≠ .select cs b
  dst : o.dst = some d
  lt : d < slots
  lone : ∀ k, k < nA → k ≠ i → ∀ o', ops[k]? = some o' → o'.dst ≠ some d
  back : ∀ e ∈ o.after, Region.binds .any e = true → e.on < i
  waits : ∀ j, j < nA → needs ops i j = true → ∃ e ∈ o.after, Region.binds .any e = true ∧ e.on = j
theorem drawn_fine {ops : Array Oper} {nA slots : Nat} (h : drawnOk ops nA slots = true) : (∀ i, i < nA → ∃ o d, OpFine ops nA slots i o d) ∧ (∀ i o, nA ≤ i → ops[i]? = some o → ∀ j, j < nA → waitsOn ops 9 i j = true) ∧ nA ≤ ops.size := by
  unfold drawnOk at h
  simp only [Bool.and_eq_true, List.all_eq_true, List.mem_range, decide_eq_true_eq, Bool.or_eq_true] at h
  obtain ⟨⟨h0, h1⟩, h2⟩ := h
  refine ⟨fun i hi => ?_, fun i o hi ho j hj => ?_, h0⟩
  · have hA := h1 i hi
    cases ho : ops[i]? with
    | none => simp [ho] at hA
    | some o =>
      simp only [ho, Bool.and_eq_true] at hA
      obtain ⟨⟨⟨⟨g1, g2⟩, g3⟩, g4⟩, g5⟩ := hA
      cases hd : o.dst with
      | none => simp [hd] at g3
      | some d =>
        simp only [hd, Bool.and_eq_true, decide_eq_true_eq, List.all_eq_true, List.mem_range, Bool.or_eq_true, beq_iff_eq] at g3
        refine ⟨o, d, ho, by simpa using g1, fun cs b e => by simp [e] at g2, hd, g3.1, fun k hk hki o' ho' e => ?_, fun e he hb => ?_, fun j hj hn => ?_⟩
        · rcases g3.2 k hk with g | g
          · exact hki g
          · simp [ho', e] at g
        · have := List.all_eq_true.1 g4 e (by simpa using he)
          simpa [hb] using this
        · have := List.all_eq_true.1 g5 j (by simpa using hj)
          simp only [hn, Bool.not_true, Bool.false_or, List.any_eq_true, Bool.and_eq_true, beq_iff_eq] at this
          obtain ⟨e, he, hb, ho⟩ := this
          exact ⟨e, by simpa using he, hb, ho⟩
  · have hlt : i < ops.size := (Array.getElem?_eq_some_iff.1 ho).1
    rcases h2 i hlt with g | g
    · omega
    · simp only [ho, List.all_eq_true, List.mem_range] at g
      exact g j hj
theorem waitsOn_listed {ops : Array Oper} {listed : Array Bool} {j : Nat} (hcl : ∀ k o, listed.getD k false = true → ops[k]? = some o → ∀ e ∈ o.after, Region.binds .any e = true → listed.getD e.on false = true) :
    ∀ f i o, ops[i]? = some o → (∀ e ∈ o.after, Region.binds .any e = true → listed.getD e.on false = true) → waitsOn ops f i j = true → listed.getD j false = true
  | 0, _, _, _, _, h => by simp [waitsOn] at h
  | f + 1, i, o, ho, hd, h => by
    unfold waitsOn at h
    simp only [ho, Bool.or_eq_true, List.any_eq_true, Bool.and_eq_true, beq_iff_eq] at h
    rcases h with ⟨e, he, hb, hon⟩ | ⟨e, he, hb, hw⟩
    · exact hon ▸ hd e (by simpa using he) hb
    · have hl := hd e (by simpa using he) hb
      cases ho' : ops[e.on]? with
      | none =>
        cases f with
        | zero => simp [waitsOn] at hw
        | succ f => simp [waitsOn, ho'] at hw
      | some o' => exact waitsOn_listed hcl f e.on o' ho' (hcl e.on o' hl ho') hw
def unlisted (listed : Array Bool) : Nat → Nat
  | 0 => 0
  | n + 1 => unlisted listed n + (if listed.getD n true = true then 0 else 1)
theorem getD_set_same {listed : Array Bool} {i : Nat} (d : Bool) (h : i < listed.size) : (listed.setIfInBounds i true).getD i d = true := by simp [h]
theorem unlisted_set {listed : Array Bool} {i : Nat} (hs : i < listed.size) (h : listed.getD i true = false) : ∀ n, unlisted (listed.setIfInBounds i true) n + (if i < n then 1 else 0) = unlisted listed n
  | 0 => by simp [unlisted]
  | n + 1 => by
    have ih := unlisted_set hs h n
    unfold unlisted
    by_cases hn : n = i
    · subst hn
      rw [getD_set_same true hs, h]
      rw [if_neg (Nat.lt_irrefl n)] at ih
      rw [if_pos (Nat.lt_succ_self n)]
      simp
      omega
    · rw [getD_set_ne true (Ne.symm hn)]
      by_cases hi : i < n
      · rw [if_pos hi] at ih; rw [if_pos (show i < n + 1 by omega)]; omega
      · rw [if_neg hi] at ih; rw [if_neg (show ¬ i < n + 1 by omega)]; omega
theorem unlisted_zero {listed : Array Bool} : ∀ n, unlisted listed n = 0 → ∀ i, i < n → listed.getD i true = true
  | 0, _, i, h => by omega
  | n + 1, h, i, hi => by
    unfold unlisted at h
    by_cases hn : i = n
    · subst hn
      cases hl : listed.getD i true with
      | true => rfl
      | false => rw [hl] at h; simp at h
    · exact unlisted_zero n (by omega) i (by omega)
theorem unlisted_first {listed : Array Bool} : ∀ n, 0 < unlisted listed n → ∃ i, i < n ∧ listed.getD i true = false ∧ ∀ j, j < i → listed.getD j true = true
  | 0, h => by simp [unlisted] at h
  | n + 1, h => by
    by_cases h0 : 0 < unlisted listed n
    · obtain ⟨i, hi, a, b⟩ := unlisted_first n h0
      exact ⟨i, by omega, a, b⟩
    · refine ⟨n, by omega, ?_, fun j hj => unlisted_zero n (by omega) j hj⟩
      unfold unlisted at h
      cases hl : listed.getD n true with
      | true => rw [hl] at h; simp at h; omega
      | false => rfl
def firstOf (nA n : Nat) : Array Bool := Array.replicate nA true ++ Array.replicate (n - nA) false
theorem wp_like {P : Program} {o : Oper} {a b : Act} {W : World} {d : Tmp} {K : Act → World → Prop} {Q : Exit → Act → World → Prop} {T : Value → World → Prop}
    (hs : execOp b.eval o = execOp a.eval o) (hd : o.dst = some d) (hlt : d < a.tmps.size)
    (h : o.wp P a W (fun a' W' => ∃ v, a' = a.put o.dst v ∧ T v W') (fun _ _ _ => False)) (hK : ∀ v W', T v W' → K (b.put o.dst v) W') : o.wp P b W K Q := by
  have same : ∀ u v, a.put o.dst u = a.put o.dst v → u = v := fun u v e => by
    rw [hd] at e
    have := congrArg (fun x : Act => x.tmps[d]?) e
    simpa [Act.put, hlt] using this
  unfold Oper.wp at *
  rw [hs]
  generalize (execOp a.eval o).run P W = r at *
  cases r with
  | ok n w' =>
    cases n <;> simp only [Oper.upon] at h ⊢
    case value u => obtain ⟨v, e, ht⟩ := h; exact hK _ _ (same _ _ e ▸ ht)
    case skip => obtain ⟨v, e, ht⟩ := h; exact hK _ _ (same _ _ e ▸ ht)
    case defer dd =>
      obtain ⟨v, e, _⟩ := h
      exfalso
      have := congrArg (fun x : Act => x.defers.length) e
      rw [hd] at this
      simp [Act.put] at this
    case enter f args =>
      refine Calls.mono h fun e w'' he => ?_
      cases e with
      | returned u => obtain ⟨v, e, ht⟩ := he; exact hK _ _ (same _ _ e ▸ ht)
      | panicked c => exact he.elim
      | outgrown => obtain ⟨_, _, hf⟩ := (show LetsOut (fun _ _ _ => False) from he); exact hf.elim
    case row row args => exact Rows.mono h fun u w'' he => by obtain ⟨v, e, ht⟩ := he; exact hK _ _ (same _ _ e ▸ ht)
  | halt x w' =>
    cases x <;> simp only [Oper.upon] at h ⊢
section
variable {P : Program} {ops : Array Oper} {Q : Exit → Act → World → Prop} {nA : Nat} {a0 : Act} {w0 : World} {R : Nat → Value → World → Prop} {al : Nat → Bool} {E : Value → Value → Prop}
def OpDoes (P : Program) (ops : Array Oper) (nA : Nat) (a0 : Act) (w0 : World) (R : Nat → Value → World → Prop) (al : Nat → Bool) (E : Value → Value → Prop) (i : Nat) : Prop :=
  ∀ (vs : Nat → Value) (W : World) (o : Oper), ops[i]? = some o → Below w0.heap.size w0 W → (∀ j, j < nA → needs ops i j = true → R j (vs j) W) →
    ∀ K : Act → World → Prop, Shut (∀ v W', Below W.heap.size W W' → R i v W' → (al i = true → ∀ j u, al j = true → R j u W → E v u) → K ((laidIn ops (fun _ => true) vs nA a0).put o.dst v) W') →
      o.wp P (laidIn ops (fun _ => true) vs nA a0) W K (fun _ _ _ => False)
theorem OpDoes.mk {i : Nat} {o : Oper} (ho : ops[i]? = some o)
    (h : ∀ (vs : Nat → Value) (W : World), Below w0.heap.size w0 W → (∀ j, j < nA → needs ops i j = true → R j (vs j) W) →
      ∀ K : Act → World → Prop, Shut (∀ v W', Below W.heap.size W W' → R i v W' → (al i = true → ∀ j u, al j = true → R j u W → E v u) → K ((laidIn ops (fun _ => true) vs nA a0).put o.dst v) W') →
      o.wp P (laidIn ops (fun _ => true) vs nA a0) W K (fun _ _ _ => False)) : OpDoes P ops nA a0 w0 R al E i := fun vs W o' ho' => by
  obtain rfl : o = o' := by rw [ho] at ho'; exact Option.some.inj ho'
  exact h vs W
theorem drawn_any (hE : ∀ u v, E u v → E v u) (H : drawnOk ops nA a0.tmps.size = true)
    (hmono : ∀ j v w w', Below w.heap.size w w' → R j v w → R j v w')
    (hop : ∀ i, i < nA → OpDoes P ops nA a0 w0 R al E i)
    (hfin : ∀ vs W, Below w0.heap.size w0 W → (∀ j, j < nA → R j (vs j) W) → (∀ i j, i < nA → j < nA → al i = true → al j = true → i ≠ j → E (vs i) (vs j)) →
      ∀ fuel, wpAny P .any ops Q (fuel + (ops.size - nA)) (firstOf nA ops.size) (laidIn ops (fun _ => true) vs nA a0) W) :
    ∀ fuel (listed : Array Bool) (vs : Nat → Value) (W : World), listed.size = ops.size → (∀ i, nA ≤ i → i < ops.size → listed.getD i true = false) → unlisted listed nA ≤ fuel →
      Below w0.heap.size w0 W → (∀ j, j < nA → listed.getD j true = true → R j (vs j) W) →
      (∀ i j, i < nA → j < nA → listed.getD i true = true → listed.getD j true = true → al i = true → al j = true → i ≠ j → E (vs i) (vs j)) →
      (∀ k o, listed.getD k false = true → ops[k]? = some o → ∀ e ∈ o.after, Region.binds .any e = true → listed.getD e.on false = true) →
      wpAny P .any ops Q (fuel + (ops.size - nA)) listed (laidIn ops (fun k => listed.getD k true) vs nA a0) W := by
  obtain ⟨hA, hB, hle⟩ := drawn_fine H
  -- all have come up
  have all : ∀ fuel (listed : Array Bool) (vs : Nat → Value) (W : World), listed.size = ops.size → (∀ i, nA ≤ i → i < ops.size → listed.getD i true = false) → unlisted listed nA = 0 →
      Below w0.heap.size w0 W → (∀ j, j < nA → listed.getD j true = true → R j (vs j) W) →
      (∀ i j, i < nA → j < nA → listed.getD i true = true → listed.getD j true = true → al i = true → al j = true → i ≠ j → E (vs i) (vs j)) →
      wpAny P .any ops Q (fuel + (ops.size - nA)) listed (laidIn ops (fun k => listed.getD k true) vs nA a0) W := by
    intro fuel listed vs W hsz hun hz hW hR hal
    have hl := unlisted_zero nA hz
    have e1 : listed = firstOf nA ops.size := by
      apply Array.ext
      · simp [firstOf, hsz]; omega
      · intro i h1 h2
        have g : listed[i] = listed.getD i true := by simp [h1]
        rw [g]
        simp only [firstOf]
        by_cases hi : i < nA
        · rw [hl i hi]; simp [hi]
        · rw [hun i (by omega) (by omega)]; simp [Array.getElem_append, hi]
    have e2 : ∀ n, n ≤ nA → laidIn ops (fun k => listed.getD k true) vs n a0 = laidIn ops (fun _ => true) vs n a0 := by
      intro n
      induction n with
      | zero => intro _; rfl
      | succ n ih =>
        intro hn
        unfold laidIn
        simp only [hl n (by omega), ih (by omega)]
    rw [e2 nA (Nat.le_refl _), e1]
    exact hfin vs W hW (fun j hj => hR j hj (hl j hj)) (fun i j hi hj => hal i j hi hj (hl i hi) (hl j hj)) fuel
  intro fuel
  induction fuel with
  | zero =>
    intro listed vs W hsz hun hz hW hR hal _
    exact all 0 listed vs W hsz hun (by omega) hW hR hal
  | succ fuel ih =>
    intro listed vs W hsz hun hc hW hR hal hcl
    by_cases hz : unlisted listed nA = 0
    · exact all (fuel + 1) listed vs W hsz hun hz hW hR hal
    obtain ⟨i0, hi0, hu0, hf0⟩ := unlisted_first (listed := listed) nA (by omega)
    rw [show fuel + 1 + (ops.size - nA) = (fuel + (ops.size - nA)) + 1 by omega]
    refine ⟨fun hr => ?_, fun i hi => ?_⟩
    · exfalso
      obtain ⟨o, d, F⟩ := hA i0 hi0
      have : i0 ∈ Region.ready .any ops listed := mem_ready.2 ⟨hu0, o, F.what, fun e he hb => by
        have h1 := F.back e he hb
        have h2 := hf0 e.on h1
        have h3 : e.on < listed.size := by omega
        simpa [h3] using h2⟩
      rw [hr] at this
      cases this
    · obtain ⟨hui, o, ho, hall⟩ := mem_ready.1 hi
      have hin : i < nA := by
        rcases Nat.lt_or_ge i nA with g | g
        · exact g
        · exfalso
          have h1 := waitsOn_listed hcl 9 i o ho hall (hB i o g ho i0 hi0)
          have h3 : i0 < listed.size := by omega
          have h4 : listed.getD i0 true = listed.getD i0 false := by simp [h3]
          rw [h4, h1] at hu0
          cases hu0
      obtain ⟨o', d, F⟩ := hA i hin
      obtain rfl : o = o' := by have := F.what; rw [ho] at this; exact Option.some.inj this
      have hil : i < listed.size := by omega
      have hdeps : ∀ j, j < nA → needs ops i j = true → listed.getD j true = true := fun j hj hn => by
        obtain ⟨e, he, hb, hon⟩ := F.waits j hj hn
        have h1 := hall e he hb
        rw [hon] at h1
        have h3 : j < listed.size := by omega
        simpa [h3] using h1
      have hw : Region.wanted o (yielded ops (laidIn ops (fun k => listed.getD k true) vs nA a0).tmps) = true := by
        unfold Region.wanted
        simp [F.guard]
      have hop' := hop i hin vs W o ho hW (fun j hj hn => hR j hj (hdeps j hj hn))
        (fun a' W' => ∃ v, a' = (laidIn ops (fun _ => true) vs nA a0).put o.dst v ∧ (Below W.heap.size W W' ∧ R i v W' ∧ (al i = true → ∀ j u, al j = true → R j u W → E v u)))
        (fun v W' h1 h2 h3 => ⟨v, rfl, h1, h2, h3⟩)
      unfold wpOp
      simp only [ho, hw, if_true]
      refine Or.inl (wp_like (T := fun v W' => Below W.heap.size W W' ∧ R i v W' ∧ (al i = true → ∀ j u, al j = true → R j u W → E v u)) (execOp_congr o F.sel fun x hx => laid_eval x nA fun k hk ok hok hdx => ?_) F.dst (by rw [laid_size]; exact F.lt) hop' ?_)
      · obtain ⟨dk, hdk, rfl⟩ := hdx
        have hn : needs ops i k = true := by
          unfold needs
          simp only [ho, hok, hdk]
          simp only [List.contains_iff_mem]
          exact List.mem_append_left _ (List.mem_filterMap.2 ⟨.tmp dk, by simpa using hx, rfl⟩)
        exact hdeps k hk hn
      · rintro v W' ⟨h1, h2, h3⟩
        rw [laid_put ho hui nA hin (fun k hk hki o' ho' dk hdk e => F.lone k hk hki o' ho' (by rw [hdk, ← e, F.dst]))]
        have e3 : (upd (fun k => listed.getD k true) i true) = fun k => (listed.setIfInBounds i true).getD k true := funext fun k => by
          by_cases hk : k = i
          · subst hk; rw [upd_same, getD_set_same true hil]
          · rw [upd_other _ _ hk, getD_set_ne true (Ne.symm hk)]
        rw [e3]
        have hcnt := unlisted_set hil hui nA
        rw [if_pos hin] at hcnt
        refine ih _ _ _ (by simpa using hsz) (fun k hk hks => ?_) (by omega) (hW.trans (h1.mono hW.size)) (fun j hj hl => ?_) (fun p q hp hq hlp hlq hap haq hpq => ?_) (fun k ok hlk hok e he hb => ?_)
        · rw [getD_set_ne true (show i ≠ k by omega)]; exact hun k hk hks
        · by_cases hji : j = i
          · subst hji; rw [upd_same]; exact h2
          · rw [upd_other _ _ hji]
            rw [getD_set_ne true (Ne.symm hji)] at hl
            exact hmono _ _ _ _ h1 (hR j hj hl)
        · by_cases hpi : p = i
          · subst hpi
            have hqp : q ≠ p := Ne.symm hpq
            rw [getD_set_ne true hpq] at hlq
            rw [upd_same, upd_other _ _ hqp]
            exact h3 hap q _ haq (hR q hq hlq)
          · rw [getD_set_ne true (Ne.symm hpi)] at hlp
            rw [upd_other _ _ hpi]
            by_cases hqi : q = i
            · subst hqi
              rw [upd_same]
              exact hE _ _ (h3 haq p _ hap (hR p hp hlp))
            · rw [getD_set_ne true (Ne.symm hqi)] at hlq
              rw [upd_other _ _ hqi]
              exact hal p q hp hq hlp hlq hap haq hpq
        · by_cases hki : k = i
          · subst hki
            obtain rfl : o = ok := by rw [ho] at hok; exact Option.some.inj hok
            exact getD_set_true (hall e he hb)
          · rw [getD_set_ne false (Ne.symm hki)] at hlk
            exact getD_set_true (hcl k ok hlk hok e he hb)
theorem wp_drawn {id : Nat} {w : World} (nA : Nat) (R : Nat → Value → World → Prop) (al : Nat → Bool) (E : Value → Value → Prop) (hE : ∀ u v, E u v → E v u) (hm : P.follows .mixedOrders = true) (H : drawnOk ops nA a0.tmps.size = true)
    (hmono : ∀ j v w w', Below w.heap.size w w' → R j v w → R j v w')
    (hop : ∀ i, i < nA → OpDoes P ops nA a0 w.drew R al E i)
    (hfin : ∀ vs W, Below w.drew.heap.size w.drew W → (∀ j, j < nA → R j (vs j) W) → (∀ i j, i < nA → j < nA → al i = true → al j = true → i ≠ j → E (vs i) (vs j)) →
      ∀ fuel, wpAny P .any ops Q (fuel + (ops.size - nA)) (firstOf nA ops.size) (laidIn ops (fun _ => true) vs nA a0) W) :
    (Code.region id ops true).wp P Q a0 w := by
  obtain ⟨_, _, hle⟩ := drawn_fine H
  refine wp_region_any hm ?_
  have h := drawn_any (Q := Q) hE H hmono hop hfin nA (Array.replicate ops.size false) (fun _ => undef) w.drew (by simp) (fun i _ hi => by simp [hi]) ?_ (Below.refl _ _) (fun j hj hl => ?_) (fun i j hi _ hl => ?_) (fun k o hl => ?_)
  · rw [show nA + (ops.size - nA) = ops.size by omega] at h
    have e : ∀ n, n ≤ nA → laidIn ops (fun k => (Array.replicate ops.size false).getD k true) (fun _ => undef) n a0 = a0 := by
      intro n
      induction n with
      | zero => intro _; rfl
      | succ n ih =>
        intro hn
        have g : (Array.replicate ops.size false).getD n true = false := by simp [show n < ops.size by omega]
        unfold laidIn
        simp only [g, Bool.false_eq_true, if_false, ih (by omega)]
        split <;> rfl
    rw [e nA (Nat.le_refl _)] at h
    exact h
  · have : ∀ n, unlisted (Array.replicate ops.size false) n ≤ n := by
      intro n
      induction n with
      | zero => simp [unlisted]
      | succ n ih => unfold unlisted; split <;> omega
    exact this nA
  · have : j < ops.size := by omega
    simp [this] at hl
  · have : i < ops.size := by omega
    simp [this] at hl
  · by_cases hk : k < ops.size
    · simp [hk] at hl
    · simp [hk] at hl
end
def sliceBlock : Value → Option Nat
  | .slice (some p) (_ + 1) _ => some p.block
  | _ => none
def InBlock : Value → Nat → Prop
  | .pointer (some p), k => p.block = k
  | .agg cs, k => ∃ i : Nat, (cs[i]?).bind sliceBlock = some k
  | _, _ => False
def Aside (u v : Value) : Prop := ∀ k, InBlock u k → ¬ InBlock v k
theorem Aside.symm : ∀ u v, Aside u v → Aside v u := fun _ _ h k h1 h2 => h k h2 h1
theorem sliceBlock_seg {lo : Nat} {W : World} {a : Option Addr} {c : Nat} {z : List Int} {k : Nat} (h : Seg lo W (.slice a z.length c) z) (hk : sliceBlock (.slice a z.length c) = some k) : lo ≤ k ∧ k < W.heap.size ∧ z ≠ [] ∧ ∃ o, a = some ⟨k, o, none⟩ := by
  cases z with
  | nil => cases a <;> simp [sliceBlock] at hk
  | cons x z =>
    obtain ⟨b, o, rfl, h1, h2⟩ := h.row (by simp)
    simp [sliceBlock] at hk
    subst hk
    exact ⟨h1, h2, by simp, o, rfl⟩
theorem inBlock_whole {g : Bool} {s : Value} {k : Nat} : InBlock (.agg #[.bool g, s]) k ↔ sliceBlock s = some k := by
  constructor
  · rintro ⟨i, hi⟩
    match i with
    | 0 => simp [sliceBlock] at hi
    | 1 => simpa using hi
    | i + 2 => simp at hi
  · intro h; exact ⟨1, by simpa using h⟩
theorem seg_blockOf {lo : Nat} {W : World} {a : Option Addr} {c : Nat} {z : List Int} {g : Bool} {k : Nat} (h : Seg lo W (.slice a z.length c) z) (hk : InBlock (.agg #[.bool g, .slice a z.length c]) k) : lo ≤ k ∧ k < W.heap.size ∧ z ≠ [] ∧ ∃ o, a = some ⟨k, o, none⟩ := sliceBlock_seg h (inBlock_whole.1 hk)
inductive Yield where
  | is (u : Value)
  | whole (lo : Nat) (x : Int) (n : Nat)
  | copy (lo : Nat) (b : Bool) (zs : List Int)
  | new (lo : Nat) (o : Obj)
  | rel (r : Value → World → Prop) (keeps : ∀ v W W', Below W.heap.size W W' → r v W → r v W')
  | own (r : Value → World → Prop) (keeps : ∀ v W W', Below W.heap.size W W' → r v W → r v W') (lies : ∀ v W k, r v W → InBlock v k → k < W.heap.size)
def Yield.At : Yield → Value → World → Prop
  | .is u, v, _ => v = u
  | .whole lo x n, v, W => ∃ (g : Bool) (a : Option Addr) (c : Nat) (z : List Int), v = .agg #[.bool g, .slice a z.length c] ∧ Seg lo W (.slice a z.length c) z ∧ Canon g z ∧ sgn g (val z) = x ∧ z.length ≤ n
  | .copy lo b zs, v, W => ∃ (a : Option Addr) (c : Nat), v = .agg #[.bool b, .slice a zs.length c] ∧ Seg lo W (.slice a zs.length c) zs
  | .new lo o, v, W => ∃ k, v = .pointer (some ⟨k, 0, none⟩) ∧ Box W k o ∧ lo ≤ k
  | .rel r _, v, W => r v W
  | .own r _ _, v, W => r v W
theorem Yield.mono (y : Yield) {v : Value} {W W' : World} (hb : Below W.heap.size W W') (h : y.At v W) : y.At v W' := by
  cases y with
  | is u => exact h
  | whole lo x n => obtain ⟨g, a, c, z, e, s, r⟩ := h; exact ⟨g, a, c, z, e, s.below hb, r⟩
  | copy lo b zs => obtain ⟨a, c, e, s⟩ := h; exact ⟨a, c, e, s.below hb⟩
  | new lo o => obtain ⟨k, e, b, r⟩ := h; exact ⟨k, e, b.below hb, r⟩
  | rel r keeps => exact keeps _ _ _ hb h
  | own r keeps lies => exact keeps _ _ _ hb h
def yields (ks : List Yield) (j : Nat) (v : Value) (W : World) : Prop := match ks[j]? with | some y => y.At v W | none => False
theorem yields_mono (ks : List Yield) : ∀ j v w w', Below w.heap.size w w' → yields ks j v w → yields ks j v w' := fun j v w w' hb h => by
  unfold yields at *
  cases hk : ks[j]? with
  | none => rw [hk] at h; exact h
  | some y => rw [hk] at h; exact y.mono hb h
def isFresh (ks : List Yield) (j : Nat) : Bool := match ks[j]? with | some (.is _) => false | some (.rel _ _) => false | some _ => true | none => false
theorem lt_nil {p : Nat → Prop} : ∀ i, i < 0 → p i := fun _ h => absurd h (Nat.not_lt_zero _)
theorem lt_cons {p : Nat → Prop} {n : Nat} (h : p n) (hs : ∀ i, i < n → p i) : ∀ i, i < n + 1 → p i := fun i hi => by
  by_cases e : i = n
  · exact e ▸ h
  · exact hs i (by omega)
theorem fresh_apart (ks : List Yield) (i : Nat) {v : Value} {W : World} (hv : ∀ k, InBlock v k → W.heap.size ≤ k) : isFresh ks i = true → ∀ j u, isFresh ks j = true → yields ks j u W → Aside v u := fun _ j u hj h k h1 h2 => by
  have hk := hv k h1
  unfold isFresh at hj
  unfold yields at h
  cases hy : ks[j]? with
  | none => rw [hy] at hj; cases hj
  | some y =>
    rw [hy] at hj h
    cases y with
    | is u => cases hj
    | rel r keeps => cases hj
    | whole lo x n => obtain ⟨g, a, c, z, rfl, s, _⟩ := h; have := (seg_blockOf s h2).2.1; omega
    | copy lo b zs => obtain ⟨a, c, rfl, s⟩ := h; have := (seg_blockOf s h2).2.1; omega
    | new lo o =>
      obtain ⟨k', rfl, b, _⟩ := h
      have h3 : k' = k := h2
      have := b.lt
      omega
    | own r keeps lies => have := lies _ _ _ h h2; omega
theorem not_fresh {ks : List Yield} {i : Nat} {v : Value} {W : World} (h : isFresh ks i = false) : isFresh ks i = true → ∀ j u, isFresh ks j = true → yields ks j u W → Aside v u := fun h' => by rw [h] at h'; cases h'
theorem fresh_new (W : World) : ∀ k, InBlock (.pointer (some ⟨W.heap.size, 0, none⟩)) k → W.heap.size ≤ k := fun _ h => Nat.le_of_eq h
theorem wp_yields {P : Program} {ops : Array Oper} {Q : Exit → Act → World → Prop} {a0 : Act} {id : Nat} {w : World} (nA : Nat) (ks : List Yield) (hm : P.follows .mixedOrders = true) (H : drawnOk ops nA a0.tmps.size = true)
    (hop : ∀ i, i < nA → OpDoes P ops nA a0 w.drew (yields ks) (isFresh ks) Aside i)
    (hfin : ∀ vs W, Below w.drew.heap.size w.drew W → (∀ j, j < nA → yields ks j (vs j) W) → (∀ i j, i < nA → j < nA → isFresh ks i = true → isFresh ks j = true → i ≠ j → Aside (vs i) (vs j)) →
      ∀ fuel, wpAny P .any ops Q (fuel + (ops.size - nA)) (firstOf nA ops.size) (laidIn ops (fun _ => true) vs nA a0) W) :
    (Code.region id ops true).wp P Q a0 w := wp_drawn nA (yields ks) (isFresh ks) Aside Aside.symm hm H (yields_mono ks) hop hfin
structure Spares (v : Value) (W W' : World) : Prop where
  os : W'.os = W.os
  tape : W'.tape = W.tape
  output : W'.output = W.output
  size : W.heap.size ≤ W'.heap.size
  same : ∀ k, ¬ InBlock v k → W'.heap[k]? = W.heap[k]?
theorem Spares.below {v : Value} {W W' : World} {N : Nat} (h : Spares v W W') (hN : ∀ k, InBlock v k → N ≤ k) : Below N W W' := ⟨h.os, h.tape, h.output, h.size, fun k hk => h.same k fun e => by have := hN k e; omega⟩
theorem turns3 (g : Nat) (W : World) (u v x : Value) : Turns g W (((W.setCell ⟨g, 0, none⟩ u).setCell ⟨g, 1, none⟩ v).setCell ⟨g, 2, none⟩ x) := (((Turns.refl g W).setCell 0 u).setCell 1 v).setCell 2 x
theorem turned3 {W : World} {g : Nat} {u v x : Value} {t : TypeId} (u' v' x' : Value) (hh : W.heap[g]? = some (.cells #[u, v, x] t (0, 0))) : (((W.setCell ⟨g, 0, none⟩ u').setCell ⟨g, 1, none⟩ v').setCell ⟨g, 2, none⟩ x').heap[g]? = some (.cells #[u', v', x'] t (0, 0)) := by
  have h1 := heap_setCell_same W g 0 _ t u' hh
  have h2 := heap_setCell_same _ g 1 _ t v' h1
  have h3 := heap_setCell_same _ g 2 _ t x' h2
  exact h3
theorem three_cells {W W' : World} {g N : Nat} {u v x : Value} {t : TypeId} (hh : W.heap[g]? = some (.cells #[u, v, x] t (0, 0))) (hb : Below N W W') (hg : g < N) :
    W'.cell? ⟨g, 0, none⟩ = some u ∧ W'.cell? ⟨g, 1, none⟩ = some v ∧ W'.cell? ⟨g, 2, none⟩ = some x ∧ W'.frozen? ⟨g, 0, none⟩ = false ∧ W'.frozen? ⟨g, 1, none⟩ = false ∧ W'.frozen? ⟨g, 2, none⟩ = false := by
  have h := (hb.block g hg).trans hh
  exact ⟨cell_of_heap h 0, cell_of_heap h 1, cell_of_heap h 2, frozen_of_heap h 0, frozen_of_heap h 1, frozen_of_heap h 2⟩
theorem Box.three {W : World} {k : Nat} {u v x : Value} {t : TypeId} (h : Box W k (.cells #[u, v, x] t (0, 0))) : W.cell? ⟨k, 0, none⟩ = some u ∧ W.cell? ⟨k, 1, none⟩ = some v ∧ W.cell? ⟨k, 2, none⟩ = some x ∧ W.frozen? ⟨k, 0, none⟩ = false ∧ W.frozen? ⟨k, 1, none⟩ = false ∧ W.frozen? ⟨k, 2, none⟩ = false := three_cells h.what (Below.refl W.heap.size W) h.lt
theorem Box.set3 {W : World} {k : Nat} {u v x : Value} {t : TypeId} (u' v' x' : Value) (h : Box W k (.cells #[u, v, x] t (0, 0))) : Box (((W.setCell ⟨k, 0, none⟩ u').setCell ⟨k, 1, none⟩ v').setCell ⟨k, 2, none⟩ x') k (.cells #[u', v', x'] t (0, 0)) := ⟨Nat.lt_of_lt_of_le h.lt (turns3 k W u' v' x').below.size, turned3 u' v' x' h.what⟩
end Go.Proofs.YtejocefblpkdjabGreat
namespace Go.Proofs.YtejocefblpkdjabGreat
open Go.RowKit
end Go.Proofs.YtejocefblpkdjabGreat
namespace Go.Proofs.YtejocefblpkdjabGreat
open Go.RowKit
def oneI (v : Int) : Ending := if -9223372036854775808 ≤ v ∧ v < 9223372036854775808 then .returned (.tuple #[.int .i64 v, .bool true]) else .returned (.tuple #[.int .i64 0, .bool false])
def formI (b : Bool) (zs : List Int) : Int := if formOf zs ≠ 0 ∨ (b = true ∧ zs = []) then 6 else 0
set_option maxRecDepth 100000 in
set_option maxHeartbeats 1000000 in
theorem swhole_any {lo : Nat} {a : Option Addr} {n cap : Nat} {zs : List Int} {w : World} (h : Seg lo w (.slice a n cap) zs) (hn : Norm zs) (below : Bool) :
    Calls Tryz.prog 45 #[.bool below, .slice a n cap] w fun e w' => ∃ b' : Bool, e = .returned (.agg #[.bool b', .slice a zs.length cap]) ∧ Canon b' zs ∧ sgn b' (val zs) = sgn below (val zs) ∧ Below w.heap.size w w' := by
  obtain ⟨rfl, _⟩ := h.len
  have hBB : ∀ o : Obj, Below w.heap.size w (w.alloc o) := fun o => (Below.refl _ w).alloc (Nat.le_refl _) _
  cases below with
  | false =>
    go_enter Tryz.func45, Tryz.ntmps45
    go_wp2
    refine bodyPost_ret (v := .agg #[.bool false, .slice a zs.length cap]) (by simp [results, Tryz.f45, go_sem]) rfl ?_
    exact ⟨false, rfl, ⟨hn, fun h => by cases h⟩, rfl, hBB _⟩
  | true =>
    by_cases h0 : zs = []
    · subst h0
      go_enter Tryz.func45, Tryz.ntmps45
      go_wp2
      refine bodyPost_ret (v := .agg #[.bool false, .slice a 0 cap]) (by simp [results, Tryz.f45, go_sem]) rfl ?_
      exact ⟨false, rfl, ⟨hn, fun h => by cases h⟩, rfl, hBB _⟩
    · have hp : (0 : Int) < (zs.length : Int) := by have := List.length_pos_iff.2 h0; omega
      have hpN : 0 < zs.length := List.length_pos_iff.2 h0
      have H0 := hide h0
      clear h0
      go_enter Tryz.func45, Tryz.ntmps45
      go_wp2
      refine bodyPost_ret (v := .agg #[.bool true, .slice a zs.length cap]) (by simp [results, Tryz.f45, go_sem]) rfl ?_
      exact ⟨true, rfl, ⟨hn, fun _ => H0.out⟩, rfl, hBB _⟩
set_option maxRecDepth 100000 in
set_option maxHeartbeats 1000000 in
theorem smake_any {lo : Nat} {a : Option Addr} {n cap : Nat} {zs : List Int} {w : World} (h : Seg lo w (.slice a n cap) zs) (hl : zs.length ≤ 10000) (below : Bool) :
    Calls Tryz.prog 47 #[.bool below, .slice a n cap] w fun e w' => ∃ (b' : Bool) (a' : Option Addr) (cap' : Nat) (ts : List Int), e = .returned (.agg #[.bool b', .slice a' ts.length cap']) ∧ Seg w.heap.size w' (.slice a' ts.length cap') ts ∧ Canon b' ts ∧ sgn b' (val ts) = sgn below (val zs) ∧ ts.length ≤ zs.length ∧ Below w.heap.size w w' := by
  have hB0 : Below w.heap.size w (w.alloc (.cells #[.bool false, .slice none 0 0] 29)) := (Below.refl _ w).alloc (Nat.le_refl _) _
  have e3 := World.alloc_heap_new w (.cells #[.bool false, .slice none 0 0] 29)
  have HZ : Hid ((w.alloc (.cells #[.bool false, .slice none 0 0] 29)).heap.size = w.heap.size + 1) := by rw [Hid]; simp
  have ht := trim_any (h.below hB0) (by omega)
  go_enter Tryz.func47, Tryz.ntmps47
  go_wp2_with fail
  refine ht.mono ?_
  rintro e w1 ⟨a1, c1, ts, rfl, hs1, hn1, hv1, hl1, hb1⟩
  have HV1 := hide hv1
  clear hv1 ht
  go_wp2_with fail
  refine (swhole_any hs1 hn1 below).mono ?_
  rintro e w2 ⟨b2, rfl, hc2, hv2, hb2⟩
  have hb2' := hb1.trans (hb2.mono hb1.size)
  obtain ⟨r0, r1, r2, r3⟩ := two_cells e3 hb2' (by have := HZ.out; omega)
  have hT := turns2 w.heap.size w2 (.bool b2) (.slice a1 ts.length c1)
  have HV2 := hide hv2
  clear hv2
  have hS := ((hs1.below hb2).turns_lo hT (by have := HZ.out; omega)).mono hB0.size
  have hBB := (hB0.trans (hb2'.mono hB0.size)).trans hT.below
  go_wp2
  refine bodyPost_ret (v := .agg #[.bool b2, .slice a1 ts.length c1]) (by simp [results, Tryz.f47, go_sem, r0, r1]) rfl ?_
  exact ⟨b2, _, _, ts, rfl, hS, hc2, by rw [HV2.out, HV1.out], hl1, hBB⟩
set_option maxRecDepth 100000 in
set_option maxHeartbeats 1000000 in
theorem sof_any (x : Int) (hx : -9223372036854775808 ≤ x ∧ x < 9223372036854775808) (w : World) :
    Calls Tryz.prog 30 #[.int .i64 x] w fun e w' => ∃ (b' : Bool) (a' : Option Addr) (cap' : Nat) (ts : List Int), e = .returned (.agg #[.bool b', .slice a' ts.length cap']) ∧ Seg w.heap.size w' (.slice a' ts.length cap') ts ∧ Canon b' ts ∧ sgn b' (val ts) = x ∧ ts.length ≤ 1 ∧ Below w.heap.size w w' := by
  have hB0 : Below w.heap.size w (w.alloc (.cells #[.bool false, .slice none 0 0] 29)) := (Below.refl _ w).alloc (Nat.le_refl _) _
  have e3 := World.alloc_heap_new w (.cells #[.bool false, .slice none 0 0] 29)
  have HZ : Hid ((w.alloc (.cells #[.bool false, .slice none 0 0] 29)).heap.size = w.heap.size + 1) := by rw [Hid]; simp
  by_cases h0 : x < 0
  · have hU : IntKind.u64.wrap (-IntKind.u64.wrap x) = -x := by rw [IntKind.wrap_u64, IntKind.wrap_u64]; omega
    go_enter Tryz.func30, Tryz.ntmps30
    go_wp2_with fail
    try rw [hU]
    refine (of_any (-x) (by omega) _).mono ?_
    rintro e w1 ⟨a1, c1, ts, rfl, hs1, hn1, hv1, hl1, hb1⟩
    have HV1 := hide hv1
    clear hv1 hU
    go_wp2_with fail
    refine (swhole_any hs1 hn1 true).mono ?_
    rintro e w2 ⟨b2, rfl, hc2, hv2, hb2⟩
    have hb2' := hb1.trans (hb2.mono hb1.size)
    obtain ⟨r0, r1, r2, r3⟩ := two_cells e3 hb2' (by have := HZ.out; omega)
    have hT := turns2 w.heap.size w2 (.bool b2) (.slice a1 ts.length c1)
    have HV2 := hide hv2
    clear hv2
    have hS := ((hs1.below hb2).turns_lo hT (by have := HZ.out; omega)).mono hB0.size
    have hBB := (hB0.trans (hb2'.mono hB0.size)).trans hT.below
    go_wp2
    refine bodyPost_ret (v := .agg #[.bool b2, .slice a1 ts.length c1]) (by simp [results, Tryz.f30, go_sem, r0, r1]) rfl ?_
    exact ⟨b2, _, _, ts, rfl, hS, hc2, by rw [HV2.out, HV1.out]; simp [sgn], by omega, hBB⟩
  · have hP : IntKind.u64.wrap x = x := by rw [IntKind.wrap_u64]; omega
    go_enter Tryz.func30, Tryz.ntmps30
    go_wp2_with fail
    try rw [hP]
    refine (of_any x (by omega) _).mono ?_
    rintro e w1 ⟨a1, c1, ts, rfl, hs1, hn1, hv1, hl1, hb1⟩
    have HV1 := hide hv1
    clear hv1 hP
    go_wp2_with fail
    refine (swhole_any hs1 hn1 false).mono ?_
    rintro e w2 ⟨b2, rfl, hc2, hv2, hb2⟩
    have hb2' := hb1.trans (hb2.mono hb1.size)
    obtain ⟨r0, r1, r2, r3⟩ := two_cells e3 hb2' (by have := HZ.out; omega)
    have hT := turns2 w.heap.size w2 (.bool b2) (.slice a1 ts.length c1)
    have HV2 := hide hv2
    clear hv2
    have hS := ((hs1.below hb2).turns_lo hT (by have := HZ.out; omega)).mono hB0.size
    have hBB := (hB0.trans (hb2'.mono hB0.size)).trans hT.below
    go_wp2
    refine bodyPost_ret (v := .agg #[.bool b2, .slice a1 ts.length c1]) (by simp [results, Tryz.f30, go_sem, r0, r1]) rfl ?_
    exact ⟨b2, _, _, ts, rfl, hS, hc2, by rw [HV2.out, HV1.out]; simp [sgn], by omega, hBB⟩
set_option maxRecDepth 100000 in
set_option maxHeartbeats 1000000 in
theorem sone_any {lo : Nat} {a : Option Addr} {n cap : Nat} {zs : List Int} {w : World} (b : Bool) (h : Seg lo w (.slice a n cap) zs) (hl : zs.length ≤ 10000) :
    Calls Tryz.prog 60 #[.agg #[.bool b, .slice a n cap]] w fun e w' => e = oneI (sgn b (val zs)) ∧ Below w.heap.size w w' := by
  have hB0 : Below w.heap.size w (w.alloc (.cells #[.bool b, .slice a n cap] 29)) := (Below.refl _ w).alloc (Nat.le_refl _) _
  have e1 := World.alloc_heap_new w (.cells #[.bool b, .slice a n cap] 29)
  have HZ : Hid ((w.alloc (.cells #[.bool b, .slice a n cap] 29)).heap.size = w.heap.size + 1) := by rw [Hid]; simp
  have hs := h.below hB0
  have hp := val_nonneg h.words
  go_enter Tryz.func60, Tryz.ntmps60
  go_wp2_with fail
  by_cases hbig : 18446744073709551616 ≤ val zs
  · refine (one_no hs (by omega) hbig).mono ?_
    rintro e w3 ⟨rfl, hb3⟩
    obtain ⟨i0, i1, _, _⟩ := two_cells e1 hb3 (by have := HZ.out; omega)
    have HF : Hid (oneI (sgn b (val zs)) = .returned (.tuple #[.int .i64 0, .bool false])) := by
      rw [Hid, oneI, if_neg]
      cases b <;> simp [sgn] <;> omega
    have hBZ := hB0.trans (hb3.mono hB0.size)
    clear hbig hp
    go_wp2
    go_ret2
    rw [HF.out]
    exact ⟨rfl, hBZ⟩
  · refine (one_yes hs (by omega) (by omega)).mono ?_
    rintro e w3 ⟨rfl, hb3⟩
    obtain ⟨i0, i1, _, _⟩ := two_cells e1 hb3 (by have := HZ.out; omega)
    have hBZ := hB0.trans (hb3.mono hB0.size)
    obtain ⟨x, hx⟩ : ∃ x, val zs = x := ⟨_, rfl⟩
    rw [hx] at hp hbig ⊢
    have HX := hide hx
    clear hx
    cases b with
    | false =>
      by_cases hm : x ≤ 9223372036854775807
      · have HF : Hid (oneI (sgn false x) = .returned (.tuple #[.int .i64 x, .bool true])) := by
          rw [Hid, oneI, if_pos]
          · simp [sgn]
          · simp [sgn]; omega
        have hw : IntKind.i64.wrap x = x := by rw [IntKind.wrap_i64]; omega
        go_wp2
        go_ret2
        rw [HX.out, HF.out]
        exact ⟨rfl, hBZ⟩
      · have HF : Hid (oneI (sgn false x) = .returned (.tuple #[.int .i64 0, .bool false])) := by
          rw [Hid, oneI, if_neg]
          simp [sgn]; omega
        go_wp2
        go_ret2
        rw [HX.out, HF.out]
        exact ⟨rfl, hBZ⟩
    | true =>
      by_cases hm : x ≤ 9223372036854775808
      · have HF : Hid (oneI (sgn true x) = .returned (.tuple #[.int .i64 (-x), .bool true])) := by
          rw [Hid, oneI, if_pos]
          · simp [sgn]
          · simp [sgn]
            omega
        have hw : IntKind.i64.wrap (IntKind.u64.wrap (-x)) = -x := by
          rw [IntKind.wrap_u64, IntKind.wrap_i64]; omega
        go_wp2
        go_ret2
        rw [HX.out, HF.out]
        exact ⟨rfl, hBZ⟩
      · have HF : Hid (oneI (sgn true x) = .returned (.tuple #[.int .i64 0, .bool false])) := by
          rw [Hid, oneI, if_neg]
          simp [sgn]; omega
        go_wp2
        go_ret2
        rw [HX.out, HF.out]
        exact ⟨rfl, hBZ⟩
set_option maxRecDepth 100000 in
set_option maxHeartbeats 1000000 in
theorem scheck_any {lo : Nat} {a : Option Addr} {n cap : Nat} {zs : List Int} {w : World} (b : Bool) (h : Seg lo w (.slice a n cap) zs) (hl : zs.length ≤ 10000) :
    Calls Tryz.prog 33 #[.agg #[.bool b, .slice a n cap]] w fun e w' => e = .returned (.int .i64 (formI b zs)) ∧ Below w.heap.size w w' := by
  obtain ⟨rfl, _⟩ := h.len
  have hB0 : Below w.heap.size w (w.alloc (.cells #[.bool b, .slice a zs.length cap] 29)) := (Below.refl _ w).alloc (Nat.le_refl _) _
  have hck := check_any (h.below hB0) hl
  by_cases hc : b = true ∧ zs = []
  · obtain ⟨rfl, rfl⟩ := hc
    have HF : Hid (formI true [] = 6) := by rw [Hid, formI, if_pos]; simp
    clear hck
    go_enter Tryz.func33, Tryz.ntmps33
    go_wp2
    go_ret
    exact ⟨ret_int HF.out.symm, hB0⟩
  · have HF : Hid (formOf zs = formI b zs) := by
      rw [Hid, formI]
      by_cases hf : formOf zs = 0
      · rw [if_neg (by simp only [hf]; simpa using hc), hf]
      · rw [if_pos (Or.inl hf)]
        rw [formOf] at hf ⊢
        split
        · rename_i g; rw [if_pos g] at hf; exact absurd rfl hf
        · rfl
    cases b with
    | false =>
      clear hc
      go_enter Tryz.func33, Tryz.ntmps33
      go_wp2_with fail
      refine hck.mono ?_
      rintro e w1 ⟨rfl, hb1⟩
      have hBZ := hB0.trans (hb1.mono hB0.size)
      clear hck
      go_wp2
      go_ret
      exact ⟨ret_int HF.out, hBZ⟩
    | true =>
      have h0 : zs ≠ [] := fun g => hc ⟨rfl, g⟩
      have hz : ((zs.length : Int) == 0) = false := beq_eq_false_iff_ne.2 (by have := List.length_pos_iff.2 h0; omega)
      clear hc h0
      go_enter Tryz.func33, Tryz.ntmps33
      go_wp2_with fail
      refine hck.mono ?_
      rintro e w1 ⟨rfl, hb1⟩
      have hBZ := hB0.trans (hb1.mono hB0.size)
      clear hck
      go_wp2
      go_ret
      exact ⟨ret_int HF.out, hBZ⟩
def drawnOkZ (ops : Array Oper) (nA slots z : Nat) : Bool :=
  decide (nA ≤ ops.size) && decide (z < nA) &&
  ((List.range nA).all fun i => match ops[i]? with
    | none => false
    | some o => o.guard.isNone && (match o.op with | .select _ _ => false | _ => true) &&
      (match o.dst with
       | some d => decide (d < slots) && ((List.range nA).all fun k => k == i || (match ops[k]? with | some o' => o'.dst != some d | none => true))
       | none => false) &&
      (o.after.toList.all fun e => !Region.binds .any e || (decide (e.on < i) && e.on != z)) &&
      ((List.range nA).all fun j => !needs ops i j || (o.after.toList.any fun e => Region.binds .any e && e.on == j))) &&
  ((List.range ops.size).all fun i => decide (i < nA) || (match ops[i]? with
    | some _ => (List.range nA).all fun j => j == z || waitsOn ops 9 i j
    | none => true))
theorem drawn_fineZ {ops : Array Oper} {nA slots z : Nat} (h : drawnOkZ ops nA slots z = true) : (∀ i, i < nA → ∃ o d, OpFine ops nA slots i o d) ∧ (∀ i o, nA ≤ i → ops[i]? = some o → ∀ j, j < nA → j ≠ z → waitsOn ops 9 i j = true) ∧ nA ≤ ops.size ∧ z < nA ∧ (∀ i o, i < nA → ops[i]? = some o → ∀ e ∈ o.after, Region.binds .any e = true → e.on ≠ z) := by
  unfold drawnOkZ at h
  simp only [Bool.and_eq_true, List.all_eq_true, List.mem_range, decide_eq_true_eq, Bool.or_eq_true] at h
  obtain ⟨⟨⟨h0, hz⟩, h1⟩, h2⟩ := h
  refine ⟨fun i hi => ?_, fun i o hi ho j hj hjz => ?_, h0, hz, fun i o hi ho e he hb => ?_⟩
  · have hA := h1 i hi
    cases ho : ops[i]? with
    | none => simp [ho] at hA
    | some o =>
      simp only [ho, Bool.and_eq_true] at hA
      obtain ⟨⟨⟨⟨g1, g2⟩, g3⟩, g4⟩, g5⟩ := hA
      cases hd : o.dst with
      | none => simp [hd] at g3
      | some d =>
        simp only [hd, Bool.and_eq_true, decide_eq_true_eq, List.all_eq_true, List.mem_range, Bool.or_eq_true, beq_iff_eq] at g3
        refine ⟨o, d, ho, by simpa using g1, fun cs b e => by simp [e] at g2, hd, g3.1, fun k hk hki o' ho' e => ?_, fun e he hb => ?_, fun j hj hn => ?_⟩
        · rcases g3.2 k hk with g | g
          · exact hki g
          · simp [ho', e] at g
        · have := List.all_eq_true.1 g4 e (by simpa using he)
          simp only [hb, Bool.not_true, Bool.false_or, Bool.and_eq_true, decide_eq_true_eq] at this
          exact this.1
        · have := List.all_eq_true.1 g5 j (by simpa using hj)
          simp only [hn, Bool.not_true, Bool.false_or, List.any_eq_true, Bool.and_eq_true, beq_iff_eq] at this
          obtain ⟨e, he, hb, ho⟩ := this
          exact ⟨e, by simpa using he, hb, ho⟩
  · have hlt : i < ops.size := (Array.getElem?_eq_some_iff.1 ho).1
    rcases h2 i hlt with g | g
    · omega
    · simp only [ho, List.all_eq_true, List.mem_range, Bool.or_eq_true, beq_iff_eq] at g
      rcases g j hj with g | g
      · exact absurd g hjz
      · exact g
  · have hA := h1 i hi
    simp only [ho, Bool.and_eq_true] at hA
    obtain ⟨⟨⟨⟨_, _⟩, _⟩, g4⟩, _⟩ := hA
    have := List.all_eq_true.1 g4 e (by simpa using he)
    simp only [hb, Bool.not_true, Bool.false_or, Bool.and_eq_true, bne_iff_ne] at this
    exact this.2
theorem unlisted_firstZ {listed : Array Bool} (z : Nat) : ∀ n, (¬ ∀ k, k < n → k ≠ z → listed.getD k true = true) → ∃ i, i < n ∧ i ≠ z ∧ listed.getD i true = false ∧ ∀ j, j < i → j ≠ z → listed.getD j true = true
  | 0, h => absurd (fun k hk => absurd hk (Nat.not_lt_zero k)) h
  | n + 1, h => by
    by_cases h0 : ∀ k, k < n → k ≠ z → listed.getD k true = true
    · refine ⟨n, by omega, fun e => h fun k hk hkz => ?_, ?_, h0⟩
      · exact h0 k (by omega) hkz
      · cases hl : listed.getD n true with
        | true =>
          exact absurd (fun k hk hkz => by
            by_cases hkn : k = n
            · subst hkn; exact hl
            · exact h0 k (by omega) hkz) h
        | false => rfl
    · obtain ⟨i, hi, a, b, c⟩ := unlisted_firstZ z n h0
      exact ⟨i, by omega, a, b, c⟩
section
variable {P : Program} {ops : Array Oper} {Q : Exit → Act → World → Prop} {nA z : Nat} {a0 : Act} {w0 : World} {R : Nat → Value → World → Prop} {al : Nat → Bool} {E : Value → Value → Prop}
theorem drawn_anyZ (hE : ∀ u v, E u v → E v u) (H : drawnOkZ ops nA a0.tmps.size z = true) (hzl : al z = false) (vz : Value) (hvz : ∀ W, R z vz W)
    (hmono : ∀ j v w w', Below w.heap.size w w' → R j v w → R j v w')
    (hop : ∀ i, i < nA → OpDoes P ops nA a0 w0 R al E i)
    (hfin : ∀ vs W, Below w0.heap.size w0 W → (∀ j, j < nA → R j (vs j) W) → (∀ i j, i < nA → j < nA → al i = true → al j = true → i ≠ j → E (vs i) (vs j)) →
      ∀ fuel, wpAny P .any ops Q (fuel + (ops.size - nA)) (firstOf nA ops.size) (laidIn ops (fun _ => true) vs nA a0) W ∧
        wpAny P .any ops Q (fuel + 1 + (ops.size - nA)) ((firstOf nA ops.size).setIfInBounds z false) (laidIn ops (fun k => k != z) vs nA a0) W) :
    ∀ fuel (listed : Array Bool) (vs : Nat → Value) (W : World), listed.size = ops.size → (∀ i, nA ≤ i → i < ops.size → listed.getD i true = false) → unlisted listed nA ≤ fuel →
      Below w0.heap.size w0 W → (∀ j, j < nA → listed.getD j true = true → R j (vs j) W) →
      (∀ i j, i < nA → j < nA → listed.getD i true = true → listed.getD j true = true → al i = true → al j = true → i ≠ j → E (vs i) (vs j)) →
      (∀ k o, listed.getD k false = true → ops[k]? = some o → ∀ e ∈ o.after, Region.binds .any e = true → listed.getD e.on false = true) →
      wpAny P .any ops Q (fuel + (ops.size - nA)) listed (laidIn ops (fun k => listed.getD k true) vs nA a0) W := by
  obtain ⟨hA, hB, hle, hzA, hbz⟩ := drawn_fineZ H
  -- all have come up
  have all : ∀ fuel (listed : Array Bool) (vs : Nat → Value) (W : World), listed.size = ops.size → (∀ i, nA ≤ i → i < ops.size → listed.getD i true = false) → unlisted listed nA = 0 →
      Below w0.heap.size w0 W → (∀ j, j < nA → listed.getD j true = true → R j (vs j) W) →
      (∀ i j, i < nA → j < nA → listed.getD i true = true → listed.getD j true = true → al i = true → al j = true → i ≠ j → E (vs i) (vs j)) →
      wpAny P .any ops Q (fuel + (ops.size - nA)) listed (laidIn ops (fun k => listed.getD k true) vs nA a0) W := by
    intro fuel listed vs W hsz hun hz hW hR hal
    have hl := unlisted_zero nA hz
    have e1 : listed = firstOf nA ops.size := by
      apply Array.ext
      · simp [firstOf, hsz]; omega
      · intro i h1 h2
        have g : listed[i] = listed.getD i true := by simp [h1]
        rw [g]
        simp only [firstOf]
        by_cases hi : i < nA
        · rw [hl i hi]; simp [hi]
        · rw [hun i (by omega) (by omega)]; simp [Array.getElem_append, hi]
    have e2 : ∀ n, n ≤ nA → laidIn ops (fun k => listed.getD k true) vs n a0 = laidIn ops (fun _ => true) vs n a0 := by
      intro n
      induction n with
      | zero => intro _; rfl
      | succ n ih =>
        intro hn
        unfold laidIn
        simp only [hl n (by omega), ih (by omega)]
    rw [e2 nA (Nat.le_refl _), e1]
    exact hfin vs W hW (fun j hj => hR j hj (hl j hj)) (fun i j hi hj => hal i j hi hj (hl i hi) (hl j hj)) fuel |>.1
  -- all but z have come up
  have all0 : ∀ fuel (listed : Array Bool) (vs : Nat → Value) (W : World), listed.size = ops.size → (∀ i, nA ≤ i → i < ops.size → listed.getD i true = false) → (∀ k, k < nA → k ≠ z → listed.getD k true = true) → listed.getD z true = false →
      Below w0.heap.size w0 W → (∀ j, j < nA → listed.getD j true = true → R j (vs j) W) →
      (∀ i j, i < nA → j < nA → listed.getD i true = true → listed.getD j true = true → al i = true → al j = true → i ≠ j → E (vs i) (vs j)) →
      wpAny P .any ops Q (fuel + 1 + (ops.size - nA)) listed (laidIn ops (fun k => listed.getD k true) vs nA a0) W := by
    intro fuel listed vs W hsz hun hl hlz hW hR hal
    have e1 : listed = (firstOf nA ops.size).setIfInBounds z false := by
      apply Array.ext
      · simp [firstOf, hsz]; omega
      · intro i h1 h2
        have g : listed[i] = listed.getD i true := by simp [h1]
        rw [g, Array.getElem_setIfInBounds (by simpa using h2)]
        by_cases hiz : z = i
        · subst hiz; rw [hlz, if_pos rfl]
        rw [if_neg hiz]
        simp only [firstOf]
        by_cases hi : i < nA
        · rw [hl i hi (Ne.symm hiz)]; simp [hi]
        · rw [hun i (by omega) (by omega)]; simp [Array.getElem_append, hi]
    have e2 : ∀ n, n ≤ nA → laidIn ops (fun k => listed.getD k true) vs n a0 = laidIn ops (fun k => k != z) (upd vs z vz) n a0 := by
      intro n
      induction n with
      | zero => intro _; rfl
      | succ n ih =>
        intro hn
        unfold laidIn
        by_cases hnz : n = z
        · subst hnz
          simp only [hlz, ih (by omega), bne_self_eq_false, Bool.false_eq_true, if_false]
        · have h3 : (n != z) = true := by simpa using hnz
          simp only [hl n (by omega) hnz, ih (by omega), h3, if_true, upd_other _ _ hnz]
    rw [e2 nA (Nat.le_refl _), e1]
    refine (hfin (upd vs z vz) W hW (fun j hj => ?_) (fun i j hi hj ai aj hij => ?_) fuel).2
    · by_cases hjz : j = z
      · subst hjz; rw [upd_same]; exact hvz W
      · rw [upd_other _ _ hjz]; exact hR j hj (hl j hj hjz)
    · have hiz : i ≠ z := fun e => by subst e; rw [hzl] at ai; cases ai
      have hjz : j ≠ z := fun e => by subst e; rw [hzl] at aj; cases aj
      rw [upd_other _ _ hiz, upd_other _ _ hjz]
      exact hal i j hi hj (hl i hi hiz) (hl j hj hjz) ai aj hij
  intro fuel
  induction fuel with
  | zero =>
    intro listed vs W hsz hun hz hW hR hal _
    exact all 0 listed vs W hsz hun (by omega) hW hR hal
  | succ fuel ih =>
    intro listed vs W hsz hun hc hW hR hal hcl
    by_cases hz : unlisted listed nA = 0
    · exact all (fuel + 1) listed vs W hsz hun hz hW hR hal
    by_cases hz0 : ∀ k, k < nA → k ≠ z → listed.getD k true = true
    · refine all0 fuel listed vs W hsz hun hz0 ?_ hW hR hal
      cases hlz : listed.getD z true with
      | false => rfl
      | true =>
        exfalso
        obtain ⟨i1, g1, g2, _⟩ := unlisted_first (listed := listed) nA (by omega)
        by_cases e : i1 = z
        · subst e; rw [hlz] at g2; cases g2
        · rw [hz0 i1 g1 e] at g2; cases g2
    obtain ⟨i0, hi0, hi0z, hu0, hf0⟩ := unlisted_firstZ (listed := listed) z nA hz0
    rw [show fuel + 1 + (ops.size - nA) = (fuel + (ops.size - nA)) + 1 by omega]
    refine ⟨fun hr => ?_, fun i hi => ?_⟩
    · exfalso
      obtain ⟨o, d, F⟩ := hA i0 hi0
      have : i0 ∈ Region.ready .any ops listed := mem_ready.2 ⟨hu0, o, F.what, fun e he hb => by
        have h1 := F.back e he hb
        have h2 := hf0 e.on h1 (hbz i0 o hi0 F.what e he hb)
        have h3 : e.on < listed.size := by omega
        simpa [h3] using h2⟩
      rw [hr] at this
      cases this
    · obtain ⟨hui, o, ho, hall⟩ := mem_ready.1 hi
      have hin : i < nA := by
        rcases Nat.lt_or_ge i nA with g | g
        · exact g
        · exfalso
          have h1 := waitsOn_listed hcl 9 i o ho hall (hB i o g ho i0 hi0 hi0z)
          have h3 : i0 < listed.size := by omega
          have h4 : listed.getD i0 true = listed.getD i0 false := by simp [h3]
          rw [h4, h1] at hu0
          cases hu0
      obtain ⟨o', d, F⟩ := hA i hin
      obtain rfl : o = o' := by have := F.what; rw [ho] at this; exact Option.some.inj this
      have hil : i < listed.size := by omega
      have hdeps : ∀ j, j < nA → needs ops i j = true → listed.getD j true = true := fun j hj hn => by
        obtain ⟨e, he, hb, hon⟩ := F.waits j hj hn
        have h1 := hall e he hb
        rw [hon] at h1
        have h3 : j < listed.size := by omega
        simpa [h3] using h1
      have hw : Region.wanted o (yielded ops (laidIn ops (fun k => listed.getD k true) vs nA a0).tmps) = true := by
        unfold Region.wanted
        simp [F.guard]
      have hop' := hop i hin vs W o ho hW (fun j hj hn => hR j hj (hdeps j hj hn))
        (fun a' W' => ∃ v, a' = (laidIn ops (fun _ => true) vs nA a0).put o.dst v ∧ (Below W.heap.size W W' ∧ R i v W' ∧ (al i = true → ∀ j u, al j = true → R j u W → E v u)))
        (fun v W' h1 h2 h3 => ⟨v, rfl, h1, h2, h3⟩)
      unfold wpOp
      simp only [ho, hw, if_true]
      refine Or.inl (wp_like (T := fun v W' => Below W.heap.size W W' ∧ R i v W' ∧ (al i = true → ∀ j u, al j = true → R j u W → E v u)) (execOp_congr o F.sel fun x hx => laid_eval x nA fun k hk ok hok hdx => ?_) F.dst (by rw [laid_size]; exact F.lt) hop' ?_)
      · obtain ⟨dk, hdk, rfl⟩ := hdx
        have hn : needs ops i k = true := by
          unfold needs
          simp only [ho, hok, hdk]
          simp only [List.contains_iff_mem]
          exact List.mem_append_left _ (List.mem_filterMap.2 ⟨.tmp dk, by simpa using hx, rfl⟩)
        exact hdeps k hk hn
      · rintro v W' ⟨h1, h2, h3⟩
        rw [laid_put ho hui nA hin (fun k hk hki o' ho' dk hdk e => F.lone k hk hki o' ho' (by rw [hdk, ← e, F.dst]))]
        have e3 : (upd (fun k => listed.getD k true) i true) = fun k => (listed.setIfInBounds i true).getD k true := funext fun k => by
          by_cases hk : k = i
          · subst hk; rw [upd_same, getD_set_same true hil]
          · rw [upd_other _ _ hk, getD_set_ne true (Ne.symm hk)]
        rw [e3]
        have hcnt := unlisted_set hil hui nA
        rw [if_pos hin] at hcnt
        refine ih _ _ _ (by simpa using hsz) (fun k hk hks => ?_) (by omega) (hW.trans (h1.mono hW.size)) (fun j hj hl => ?_) (fun p q hp hq hlp hlq hap haq hpq => ?_) (fun k ok hlk hok e he hb => ?_)
        · rw [getD_set_ne true (show i ≠ k by omega)]; exact hun k hk hks
        · by_cases hji : j = i
          · subst hji; rw [upd_same]; exact h2
          · rw [upd_other _ _ hji]
            rw [getD_set_ne true (Ne.symm hji)] at hl
            exact hmono _ _ _ _ h1 (hR j hj hl)
        · by_cases hpi : p = i
          · subst hpi
            have hqp : q ≠ p := Ne.symm hpq
            rw [getD_set_ne true hpq] at hlq
            rw [upd_same, upd_other _ _ hqp]
            exact h3 hap q _ haq (hR q hq hlq)
          · rw [getD_set_ne true (Ne.symm hpi)] at hlp
            rw [upd_other _ _ hpi]
            by_cases hqi : q = i
            · subst hqi
              rw [upd_same]
              exact hE _ _ (h3 haq p _ hap (hR p hp hlp))
            · rw [getD_set_ne true (Ne.symm hqi)] at hlq
              rw [upd_other _ _ hqi]
              exact hal p q hp hq hlp hlq hap haq hpq
        · by_cases hki : k = i
          · subst hki
            obtain rfl : o = ok := by rw [ho] at hok; exact Option.some.inj hok
            exact getD_set_true (hall e he hb)
          · rw [getD_set_ne false (Ne.symm hki)] at hlk
            exact getD_set_true (hcl k ok hlk hok e he hb)
theorem wp_drawnZ {id : Nat} {w : World} (nA : Nat) (R : Nat → Value → World → Prop) (al : Nat → Bool) (E : Value → Value → Prop) (hE : ∀ u v, E u v → E v u) (hm : P.follows .mixedOrders = true) (H : drawnOkZ ops nA a0.tmps.size z = true) (hzl : al z = false) (vz : Value) (hvz : ∀ W, R z vz W)
    (hmono : ∀ j v w w', Below w.heap.size w w' → R j v w → R j v w')
    (hop : ∀ i, i < nA → OpDoes P ops nA a0 w.drew R al E i)
    (hfin : ∀ vs W, Below w.drew.heap.size w.drew W → (∀ j, j < nA → R j (vs j) W) → (∀ i j, i < nA → j < nA → al i = true → al j = true → i ≠ j → E (vs i) (vs j)) →
      ∀ fuel, wpAny P .any ops Q (fuel + (ops.size - nA)) (firstOf nA ops.size) (laidIn ops (fun _ => true) vs nA a0) W ∧
        wpAny P .any ops Q (fuel + 1 + (ops.size - nA)) ((firstOf nA ops.size).setIfInBounds z false) (laidIn ops (fun k => k != z) vs nA a0) W) :
    (Code.region id ops true).wp P Q a0 w := by
  obtain ⟨_, _, hle, _, _⟩ := drawn_fineZ H
  refine wp_region_any hm ?_
  have h := drawn_anyZ (Q := Q) hE H hzl vz hvz hmono hop hfin nA (Array.replicate ops.size false) (fun _ => undef) w.drew (by simp) (fun i _ hi => by simp [hi]) ?_ (Below.refl _ _) (fun j hj hl => ?_) (fun i j hi _ hl => ?_) (fun k o hl => ?_)
  · rw [show nA + (ops.size - nA) = ops.size by omega] at h
    have e : ∀ n, n ≤ nA → laidIn ops (fun k => (Array.replicate ops.size false).getD k true) (fun _ => undef) n a0 = a0 := by
      intro n
      induction n with
      | zero => intro _; rfl
      | succ n ih =>
        intro hn
        have g : (Array.replicate ops.size false).getD n true = false := by simp [show n < ops.size by omega]
        unfold laidIn
        simp only [g, Bool.false_eq_true, if_false, ih (by omega)]
        split <;> rfl
    rw [e nA (Nat.le_refl _)] at h
    exact h
  · have : ∀ n, unlisted (Array.replicate ops.size false) n ≤ n := by
      intro n
      induction n with
      | zero => simp [unlisted]
      | succ n ih => unfold unlisted; split <;> omega
    exact this nA
  · have : j < ops.size := by omega
    simp [this] at hl
  · have : i < ops.size := by omega
    simp [this] at hl
  · by_cases hk : k < ops.size
    · simp [hk] at hl
    · simp [hk] at hl
end
theorem wp_yieldsZ {P : Program} {ops : Array Oper} {Q : Exit → Act → World → Prop} {a0 : Act} {id : Nat} {w : World} (nA z : Nat) (ks : List Yield) (vz : Value) (hk : ks[z]? = some (.is vz)) (hm : P.follows .mixedOrders = true) (H : drawnOkZ ops nA a0.tmps.size z = true)
    (hop : ∀ i, i < nA → OpDoes P ops nA a0 w.drew (yields ks) (isFresh ks) Aside i)
    (hfin : ∀ vs W, Below w.drew.heap.size w.drew W → (∀ j, j < nA → yields ks j (vs j) W) → (∀ i j, i < nA → j < nA → isFresh ks i = true → isFresh ks j = true → i ≠ j → Aside (vs i) (vs j)) →
      ∀ fuel, wpAny P .any ops Q (fuel + (ops.size - nA)) (firstOf nA ops.size) (laidIn ops (fun _ => true) vs nA a0) W ∧
        wpAny P .any ops Q (fuel + 1 + (ops.size - nA)) ((firstOf nA ops.size).setIfInBounds z false) (laidIn ops (fun k => k != z) vs nA a0) W) :
    (Code.region id ops true).wp P Q a0 w := wp_drawnZ nA (yields ks) (isFresh ks) Aside Aside.symm hm H (by unfold isFresh; rw [hk]) vz (fun W => by unfold yields; rw [hk]; rfl) (yields_mono ks) hop hfin
end Go.Proofs.YtejocefblpkdjabGreat
