/-
  Joined: RMulB WholeB WholeD WholeE WKit Boxes Drawn DrawnK XAdd XProg XLists XDoc XWords XKnown XRoom XGrow XAns XRows XOnce.
-/
import Derived.Test.YtekjjlmhdkhmjaaJHalves
import Derived.Deep.DeepCutAuto
import Derived.Test.YtekjjlmhdkhmjaaJRefD
import Derived.Deep.RegionWith
import Derived.Deep.RegionHeld3
import Derived.Test.YtekjjlmhdkhmjaaJRefA
import Derived.Laws.Rows
import Derived.Test.YtekjjlmhdkhmjaaKit
import Derived.Test.YtekjjlmhdkhmjaaJWiden
import Derived.OrdersHeld
import Derived.Lib.SliceRun
import Derived.Lib.AppendZeros
import Derived.Lib.AppendZerosOnto
import Derived.KernelRfl
import Derived.Maps.AppendAt
namespace Go.Proofs.Ytekjjlmhdkhmjaa
open Go.RowKit
theorem two_cells {W W' : World} {g N : Nat} {u v : Value} {t : TypeId} (hh : W.heap[g]? = some (.cells #[u, v] t (0, 0))) (hb : Below N W W') (hg : g < N) :
    W'.cell? ⟨g, 0, none⟩ = some u ∧ W'.cell? ⟨g, 1, none⟩ = some v ∧ W'.frozen? ⟨g, 0, none⟩ = false ∧ W'.frozen? ⟨g, 1, none⟩ = false := by
  have h := (hb.block g hg).trans hh
  exact ⟨cell_of_heap h 0, cell_of_heap h 1, frozen_of_heap h 0, frozen_of_heap h 1⟩
end Go.Proofs.Ytekjjlmhdkhmjaa
namespace Go.Proofs.Ytekjjlmhdkhmjaa
open Go.RowKit
open Go.RowKit
open Go.RowKit
end Go.Proofs.Ytekjjlmhdkhmjaa
namespace Go.Proofs.Ytekjjlmhdkhmjaa
open Go.RowKit
structure Box (W : World) (k : Nat) (o : Obj) : Prop where
  lt : k < W.heap.size
  what : W.heap[k]? = some o
theorem Box.new (w : World) (o : Obj) : Box (w.alloc o) w.heap.size o := ⟨by simp, World.alloc_heap_new w o⟩
theorem Box.below {W W' : World} {k : Nat} {o : Obj} (h : Box W k o) (hb : Below W.heap.size W W') : Box W' k o := ⟨Nat.lt_of_lt_of_le h.lt hb.size, (hb.block k h.lt).trans h.what⟩
theorem Box.under {W W' : World} {k N : Nat} {o : Obj} (h : Box W k o) (hb : Below N W W') (hk : k < N) : Box W' k o := ⟨Nat.lt_of_lt_of_le h.lt hb.size, (hb.block k hk).trans h.what⟩
theorem Box.turns {W W' : World} {k g : Nat} {o : Obj} (h : Box W k o) (ht : Turns g W W') (hk : k ≠ g) : Box W' k o := ⟨Nat.lt_of_lt_of_le h.lt ht.below.size, (ht.other k hk h.lt).trans h.what⟩
theorem Box.two {W : World} {k : Nat} {u v : Value} {t : TypeId} (h : Box W k (.cells #[u, v] t (0, 0))) : W.cell? ⟨k, 0, none⟩ = some u ∧ W.cell? ⟨k, 1, none⟩ = some v ∧ W.frozen? ⟨k, 0, none⟩ = false ∧ W.frozen? ⟨k, 1, none⟩ = false := two_cells h.what (Below.refl W.heap.size W) h.lt
theorem Box.drew {W : World} {k : Nat} {o : Obj} (h : Box W k o) : Box W.drew k o := ⟨h.lt, h.what⟩
theorem Box.put {w : World} {k : Nat} (o : Obj) (hk : w.heap.size = k) : Box (w.alloc o) k o := hk ▸ Box.new w o
theorem Box.cells {W : World} {k : Nat} {u v : Value} {t : TypeId} (h : Box W k (.cells #[u, v] t (0, 0))) : W.cell? ⟨k, 0, none⟩ = some u ∧ W.cell? ⟨k, 1, none⟩ = some v := ⟨h.two.1, h.two.2.1⟩
theorem _root_.Go.RowKit.Below.a1 {A B : World} (h : Below A.heap.size A B) (o : Obj) : Below A.heap.size A (B.alloc o) := h.alloc h.size o
theorem below_new (w : World) (o : Obj) : Below w.heap.size w (w.alloc o) := (Below.refl _ _).alloc (Nat.le_refl _) _
def laidIn (ops : Array Oper) (l : Nat → Bool) (vs : Nat → Value) : Nat → Act → Act
  | 0, a => a
  | k + 1, a => match ops[k]? with
    | some o => if l k = true then (laidIn ops l vs k a).put o.dst (vs k) else laidIn ops l vs k a
    | none => laidIn ops l vs k a
def upd {α : Type} (f : Nat → α) (i : Nat) (x : α) : Nat → α := fun j => if j = i then x else f j
theorem upd_same {α : Type} (f : Nat → α) (i : Nat) (x : α) : upd f i x i = x := if_pos rfl
theorem upd_other {α : Type} (f : Nat → α) {i j : Nat} (x : α) (h : j ≠ i) : upd f i x j = f j := if_neg h
theorem put_size (a : Act) (d : Option Tmp) (v : Value) : (a.put d v).tmps.size = a.tmps.size := by
  cases d <;> simp [Act.put]
theorem laid_size (ops : Array Oper) (l : Nat → Bool) (vs : Nat → Value) (a : Act) : ∀ n, (laidIn ops l vs n a).tmps.size = a.tmps.size
  | 0 => rfl
  | n + 1 => by
    have ih := laid_size ops l vs a n
    unfold laidIn
    split
    · split
      · rw [put_size]; exact ih
      · exact ih
    · exact ih
theorem put_eval_same (a b : Act) (d : Tmp) (v : Value) (h : a.tmps.size = b.tmps.size) : (a.put (some d) v).eval (.tmp d) = (b.put (some d) v).eval (.tmp d) := by
  simp only [Act.put, Act.eval]
  by_cases hd : d < a.tmps.size
  · simp [hd, h ▸ hd]
  · simp [hd, h ▸ hd]
theorem laid_eval {ops : Array Oper} {l l' : Nat → Bool} {vs : Nat → Value} {a : Act} (x : Operand) : ∀ n,
    (∀ k, k < n → ∀ o, ops[k]? = some o → (∃ d, o.dst = some d ∧ x = .tmp d) → l k = l' k) → (laidIn ops l vs n a).eval x = (laidIn ops l' vs n a).eval x
  | 0, _ => rfl
  | n + 1, h => by
    have ih := laid_eval (ops := ops) (l := l) (l' := l') (vs := vs) (a := a) x n (fun k hk => h k (by omega))
    unfold laidIn
    cases ho : ops[n]? with
    | none => exact ih
    | some o =>
      simp only []
      by_cases hx : ∃ d, o.dst = some d ∧ x = .tmp d
      · rw [h n (by omega) o ho hx]
        obtain ⟨d, hd, rfl⟩ := hx
        cases l' n
        · simp only [Bool.false_eq_true, if_false]; exact ih
        · simp only [if_true, hd]; exact put_eval_same _ _ _ _ (by rw [laid_size, laid_size])
      · have hne : ∀ d, o.dst = some d → x ≠ .tmp d := fun d hd e => hx ⟨d, hd, e⟩
        cases l n <;> cases l' n <;> simp only [Bool.false_eq_true, if_false, if_true, Act.eval_put hne] <;> exact ih
theorem laid_upd {ops : Array Oper} {l : Nat → Bool} {vs : Nat → Value} {a : Act} {i : Nat} {v : Value} : ∀ n, n ≤ i → laidIn ops (upd l i true) (upd vs i v) n a = laidIn ops l vs n a
  | 0, _ => rfl
  | n + 1, h => by
    have ih := laid_upd (ops := ops) (l := l) (vs := vs) (a := a) (i := i) (v := v) n (by omega)
    unfold laidIn
    rw [upd_other _ _ (show n ≠ i by omega), upd_other _ _ (show n ≠ i by omega), ih]
theorem laid_put {ops : Array Oper} {l : Nat → Bool} {vs : Nat → Value} {a : Act} {i : Nat} {o : Oper} {v : Value} (ho : ops[i]? = some o) (hl : l i = false) : ∀ n, i < n →
    (∀ k, k < n → k ≠ i → ∀ o', ops[k]? = some o' → ∀ d, o'.dst = some d → o.dst ≠ some d) → (laidIn ops l vs n a).put o.dst v = laidIn ops (upd l i true) (upd vs i v) n a
  | 0, h, _ => by omega
  | n + 1, h, hd => by
    by_cases hn : n = i
    · subst hn
      have e := laid_upd (ops := ops) (l := l) (vs := vs) (a := a) (i := n) (v := v) n (Nat.le_refl _)
      unfold laidIn
      simp only [ho, hl, upd_same, Bool.false_eq_true, if_false, if_true, e]
    · have ih := laid_put (vs := vs) (a := a) (v := v) ho hl n (by omega) (fun k hk => hd k (by omega))
      unfold laidIn
      cases ho' : ops[n]? with
      | none => simp only []; exact ih
      | some o' =>
        simp only [upd_other _ _ hn]
        by_cases hln : l n = true
        · simp only [hln, if_true]
          rw [Act.put_comm _ _ _ (hd n (by omega) hn o' ho'), ih]
        · rw [if_neg hln, if_neg hln]
          exact ih
def needs (ops : Array Oper) (i j : Nat) : Bool :=
  match ops[i]?, ops[j]? with
  | some o, some o' => (match o'.dst with | some d => (o.looksAt ops).contains d | none => false)
  | _, _ => false
def waitsOn (ops : Array Oper) : Nat → Nat → Nat → Bool
  | 0, _, _ => false
  | f + 1, i, j => match ops[i]? with
    | some o => (o.after.toList.any fun e => Region.binds .any e && e.on == j) || (o.after.toList.any fun e => Region.binds .any e && waitsOn ops f e.on j)
    | none => false
def drawnOk (ops : Array Oper) (nA slots : Nat) : Bool :=
  decide (nA ≤ ops.size) &&
  ((List.range nA).all fun i => match ops[i]? with
    | none => false
    | some o => o.guard.isNone && (match o.op with | .select _ _ => false | _ => true) &&
      (match o.dst with
       | some d => decide (d < slots) && ((List.range nA).all fun k => k == i || (match ops[k]? with | some o' => o'.dst != some d | none => true))
       | none => false) &&
      (o.after.toList.all fun e => !Region.binds .any e || decide (e.on < i)) &&
      ((List.range nA).all fun j => !needs ops i j || (o.after.toList.any fun e => Region.binds .any e && e.on == j))) &&
  ((List.range ops.size).all fun i => decide (i < nA) || (match ops[i]? with
    | some _ => (List.range nA).all fun j => waitsOn ops 9 i j
    | none => true))
structure OpFine (ops : Array Oper) (nA slots i : Nat) (o : Oper) (d : Tmp) : Prop where
  what : ops[i]? = some o
  guard : o.guard = none
  sel : ∀ cs b, o.op ≠ .select cs b
  dst : o.dst = some d
  lt : d < slots
  lone : ∀ k, k < nA → k ≠ i → ∀ o', ops[k]? = some o' → o'.dst ≠ some d
  back : ∀ e ∈ o.after, Region.binds .any e = true → e.on < i
  waits : ∀ j, j < nA → needs ops i j = true → ∃ e ∈ o.after, Region.binds .any e = true ∧ e.on = j
theorem drawn_fine {ops : Array Oper} {nA slots : Nat} (h : drawnOk ops nA slots = true) : (∀ i, i < nA → ∃ o d, OpFine ops nA slots i o d) ∧ (∀ i o, nA ≤ i → ops[i]? = some o → ∀ j, j < nA → waitsOn ops 9 i j = true) ∧ nA ≤ ops.size := by
  unfold drawnOk at h
  simp only [Bool.and_eq_true, List.all_eq_true, List.mem_range, decide_eq_true_eq, Bool.or_eq_true] at h
  obtain ⟨⟨h0, h1⟩, h2⟩ := h
  refine ⟨fun i hi => ?_, fun i o hi ho j hj => ?_, h0⟩
  · have hA := h1 i hi
    cases ho : ops[i]? with
    | none => simp [ho] at hA
    | some o =>
      simp only [ho, Bool.and_eq_true] at hA
      obtain ⟨⟨⟨⟨g1, g2⟩, g3⟩, g4⟩, g5⟩ := hA
      cases hd : o.dst with
      | none => simp [hd] at g3
      | some d =>
        simp only [hd, Bool.and_eq_true, decide_eq_true_eq, List.all_eq_true, List.mem_range, Bool.or_eq_true, beq_iff_eq] at g3
        refine ⟨o, d, ho, by simpa using g1, fun cs b e => by simp [e] at g2, hd, g3.1, fun k hk hki o' ho' e => ?_, fun e he hb => ?_, fun j hj hn => ?_⟩
        · rcases g3.2 k hk with g | g
          · exact hki g
          · simp [ho', e] at g
        · have := List.all_eq_true.1 g4 e (by simpa using he)
          simpa [hb] using this
        · have := List.all_eq_true.1 g5 j (by simpa using hj)
          simp only [hn, Bool.not_true, Bool.false_or, List.any_eq_true, Bool.and_eq_true, beq_iff_eq] at this
          obtain ⟨e, he, hb, ho⟩ := this
          exact ⟨e, by simpa using he, hb, ho⟩
  · have hlt : i < ops.size := (Array.getElem?_eq_some_iff.1 ho).1
    rcases h2 i hlt with g | g
    · omega
    · simp only [ho, List.all_eq_true, List.mem_range] at g
      exact g j hj
theorem waitsOn_listed {ops : Array Oper} {listed : Array Bool} {j : Nat} (hcl : ∀ k o, listed.getD k false = true → ops[k]? = some o → ∀ e ∈ o.after, Region.binds .any e = true → listed.getD e.on false = true) :
    ∀ f i o, ops[i]? = some o → (∀ e ∈ o.after, Region.binds .any e = true → listed.getD e.on false = true) → waitsOn ops f i j = true → listed.getD j false = true
  | 0, _, _, _, _, h => by simp [waitsOn] at h
  | f + 1, i, o, ho, hd, h => by
    unfold waitsOn at h
    simp only [ho, Bool.or_eq_true, List.any_eq_true, Bool.and_eq_true, beq_iff_eq] at h
    rcases h with ⟨e, he, hb, hon⟩ | ⟨e, he, hb, hw⟩
    · exact hon ▸ hd e (by simpa using he) hb
    · have hl := hd e (by simpa using he) hb
      cases ho' : ops[e.on]? with
      | none =>
        cases f with
        | zero => simp [waitsOn] at hw
        | succ f => simp [waitsOn, ho'] at hw
      | some o' => exact waitsOn_listed hcl f e.on o' ho' (hcl e.on o' hl ho') hw
def unlisted (listed : Array Bool) : Nat → Nat
  | 0 => 0
  | n + 1 => unlisted listed n + (if listed.getD n true = true then 0 else 1)
theorem getD_set_same {listed : Array Bool} {i : Nat} (d : Bool) (h : i < listed.size) : (listed.setIfInBounds i true).getD i d = true := by simp [h]
theorem unlisted_set {listed : Array Bool} {i : Nat} (hs : i < listed.size) (h : listed.getD i true = false) : ∀ n, unlisted (listed.setIfInBounds i true) n + (if i < n then 1 else 0) = unlisted listed n
  | 0 => by simp [unlisted]
  | n + 1 => by
    have ih := unlisted_set hs h n
    unfold unlisted
    by_cases hn : n = i
    · subst hn
      rw [getD_set_same true hs, h]
      rw [if_neg (Nat.lt_irrefl n)] at ih
      rw [if_pos (Nat.lt_succ_self n)]
      simp
      omega
    · rw [getD_set_ne true (Ne.symm hn)]
      by_cases hi : i < n
      · rw [if_pos hi] at ih; rw [if_pos (show i < n + 1 by omega)]; omega
      · rw [if_neg hi] at ih; rw [if_neg (show ¬ i < n + 1 by omega)]; omega
theorem unlisted_zero {listed : Array Bool} : ∀ n, unlisted listed n = 0 → ∀ i, i < n → listed.getD i true = true
  | 0, _, i, h => by omega
  | n + 1, h, i, hi => by
    unfold unlisted at h
    by_cases hn : i = n
    · subst hn
      cases hl : listed.getD i true with
      | true => rfl
      | false => rw [hl] at h; simp at h
    · exact unlisted_zero n (by omega) i (by omega)
theorem unlisted_first {listed : Array Bool} : ∀ n, 0 < unlisted listed n → ∃ i, i < n ∧ listed.getD i true = false ∧ ∀ j, j < i → listed.getD j true = true
  | 0, h => by simp [unlisted] at h
  | n + 1, h => by
    by_cases h0 : 0 < unlisted listed n
    · obtain ⟨i, hi, a, b⟩ := unlisted_first n h0
      exact ⟨i, by omega, a, b⟩
    · refine ⟨n, by omega, ?_, fun j hj => unlisted_zero n (by omega) j hj⟩
      unfold unlisted at h
      cases hl : listed.getD n true with
      | true => rw [hl] at h; simp at h; omega
      | false => rfl
def firstOf (nA n : Nat) : Array Bool := Array.replicate nA true ++ Array.replicate (n - nA) false
theorem wp_like {P : Program} {o : Oper} {a b : Act} {W : World} {d : Tmp} {K : Act → World → Prop} {Q : Exit → Act → World → Prop} {T : Value → World → Prop}
    (hs : execOp b.eval o = execOp a.eval o) (hd : o.dst = some d) (hlt : d < a.tmps.size)
    (h : o.wp P a W (fun a' W' => ∃ v, a' = a.put o.dst v ∧ T v W') (fun _ _ _ => False)) (hK : ∀ v W', T v W' → K (b.put o.dst v) W') : o.wp P b W K Q := by
  have same : ∀ u v, a.put o.dst u = a.put o.dst v → u = v := fun u v e => by
    rw [hd] at e
    have := congrArg (fun x : Act => x.tmps[d]?) e
    simpa [Act.put, hlt] using this
  unfold Oper.wp at *
  rw [hs]
  generalize (execOp a.eval o).run P W = r at *
  cases r with
  | ok n w' =>
    cases n <;> simp only [Oper.upon] at h ⊢
    case value u => obtain ⟨v, e, ht⟩ := h; exact hK _ _ (same _ _ e ▸ ht)
    case skip => obtain ⟨v, e, ht⟩ := h; exact hK _ _ (same _ _ e ▸ ht)
    case defer dd =>
      obtain ⟨v, e, _⟩ := h
      exfalso
      have := congrArg (fun x : Act => x.defers.length) e
      rw [hd] at this
      simp [Act.put] at this
    case enter f args =>
      refine Calls.mono h fun e w'' he => ?_
      cases e with
      | returned u => obtain ⟨v, e, ht⟩ := he; exact hK _ _ (same _ _ e ▸ ht)
      | panicked c => exact he.elim
      | outgrown => obtain ⟨_, _, hf⟩ := (show LetsOut (fun _ _ _ => False) from he); exact hf.elim
    case row row args => exact Rows.mono h fun u w'' he => by obtain ⟨v, e, ht⟩ := he; exact hK _ _ (same _ _ e ▸ ht)
  | halt x w' =>
    cases x <;> simp only [Oper.upon] at h ⊢
section
variable {P : Program} {ops : Array Oper} {Q : Exit → Act → World → Prop} {nA : Nat} {a0 : Act} {w0 : World} {R : Nat → Value → World → Prop} {al : Nat → Bool} {E : Value → Value → Prop}
def OpDoes (P : Program) (ops : Array Oper) (nA : Nat) (a0 : Act) (w0 : World) (R : Nat → Value → World → Prop) (al : Nat → Bool) (E : Value → Value → Prop) (i : Nat) : Prop :=
  ∀ (vs : Nat → Value) (W : World) (o : Oper), ops[i]? = some o → Below w0.heap.size w0 W → (∀ j, j < nA → needs ops i j = true → R j (vs j) W) →
    ∀ K : Act → World → Prop, Shut (∀ v W', Below W.heap.size W W' → R i v W' → (al i = true → ∀ j u, al j = true → R j u W → E v u) → K ((laidIn ops (fun _ => true) vs nA a0).put o.dst v) W') →
      o.wp P (laidIn ops (fun _ => true) vs nA a0) W K (fun _ _ _ => False)
theorem OpDoes.mk {i : Nat} {o : Oper} (ho : ops[i]? = some o)
    (h : ∀ (vs : Nat → Value) (W : World), Below w0.heap.size w0 W → (∀ j, j < nA → needs ops i j = true → R j (vs j) W) →
      ∀ K : Act → World → Prop, Shut (∀ v W', Below W.heap.size W W' → R i v W' → (al i = true → ∀ j u, al j = true → R j u W → E v u) → K ((laidIn ops (fun _ => true) vs nA a0).put o.dst v) W') →
      o.wp P (laidIn ops (fun _ => true) vs nA a0) W K (fun _ _ _ => False)) : OpDoes P ops nA a0 w0 R al E i := fun vs W o' ho' => by
  obtain rfl : o = o' := by rw [ho] at ho'; exact Option.some.inj ho'
  exact h vs W
theorem drawn_any (hE : ∀ u v, E u v → E v u) (H : drawnOk ops nA a0.tmps.size = true)
    (hmono : ∀ j v w w', Below w.heap.size w w' → R j v w → R j v w')
    (hop : ∀ i, i < nA → OpDoes P ops nA a0 w0 R al E i)
    (hfin : ∀ vs W, Below w0.heap.size w0 W → (∀ j, j < nA → R j (vs j) W) → (∀ i j, i < nA → j < nA → al i = true → al j = true → i ≠ j → E (vs i) (vs j)) →
      ∀ fuel, wpAny P .any ops Q (fuel + (ops.size - nA)) (firstOf nA ops.size) (laidIn ops (fun _ => true) vs nA a0) W) :
    ∀ fuel (listed : Array Bool) (vs : Nat → Value) (W : World), listed.size = ops.size → (∀ i, nA ≤ i → i < ops.size → listed.getD i true = false) → unlisted listed nA ≤ fuel →
      Below w0.heap.size w0 W → (∀ j, j < nA → listed.getD j true = true → R j (vs j) W) →
      (∀ i j, i < nA → j < nA → listed.getD i true = true → listed.getD j true = true → al i = true → al j = true → i ≠ j → E (vs i) (vs j)) →
      (∀ k o, listed.getD k false = true → ops[k]? = some o → ∀ e ∈ o.after, Region.binds .any e = true → listed.getD e.on false = true) →
      wpAny P .any ops Q (fuel + (ops.size - nA)) listed (laidIn ops (fun k => listed.getD k true) vs nA a0) W := by
  obtain ⟨hA, hB, hle⟩ := drawn_fine H
  -- all have come up
  have all : ∀ fuel (listed : Array Bool) (vs : Nat → Value) (W : World), listed.size = ops.size → (∀ i, nA ≤ i → i < ops.size → listed.getD i true = false) → unlisted listed nA = 0 →
      Below w0.heap.size w0 W → (∀ j, j < nA → listed.getD j true = true → R j (vs j) W) →
      (∀ i j, i < nA → j < nA → listed.getD i true = true → listed.getD j true = true → al i = true → al j = true → i ≠ j → E (vs i) (vs j)) →
      wpAny P .any ops Q (fuel + (ops.size - nA)) listed (laidIn ops (fun k => listed.getD k true) vs nA a0) W := by
    intro fuel listed vs W hsz hun hz hW hR hal
    have hl := unlisted_zero nA hz
    have e1 : listed = firstOf nA ops.size := by
      apply Array.ext
      · simp [firstOf, hsz]; omega
      · intro i h1 h2
        have g : listed[i] = listed.getD i true := by simp [h1]
        rw [g]
        simp only [firstOf]
        by_cases hi : i < nA
        · rw [hl i hi]; simp [hi]
        · rw [hun i (by omega) (by omega)]; simp [Array.getElem_append, hi]
    have e2 : ∀ n, n ≤ nA → laidIn ops (fun k => listed.getD k true) vs n a0 = laidIn ops (fun _ => true) vs n a0 := by
      intro n
      induction n with
      | zero => intro _; rfl
      | succ n ih =>
        intro hn
        unfold laidIn
        simp only [hl n (by omega), ih (by omega)]
    rw [e2 nA (Nat.le_refl _), e1]
    exact hfin vs W hW (fun j hj => hR j hj (hl j hj)) (fun i j hi hj => hal i j hi hj (hl i hi) (hl j hj)) fuel
  intro fuel
  induction fuel with
  | zero =>
    intro listed vs W hsz hun hz hW hR hal _
    exact all 0 listed vs W hsz hun (by omega) hW hR hal
  | succ fuel ih =>
    intro listed vs W hsz hun hc hW hR hal hcl
    by_cases hz : unlisted listed nA = 0
    · exact all (fuel + 1) listed vs W hsz hun hz hW hR hal
    obtain ⟨i0, hi0, hu0, hf0⟩ := unlisted_first (listed := listed) nA (by omega)
    rw [show fuel + 1 + (ops.size - nA) = (fuel + (ops.size - nA)) + 1 by omega]
    refine ⟨fun hr => ?_, fun i hi => ?_⟩
    · exfalso
      obtain ⟨o, d, F⟩ := hA i0 hi0
      have : i0 ∈ Region.ready .any ops listed := mem_ready.2 ⟨hu0, o, F.what, fun e he hb => by
        have h1 := F.back e he hb
        have h2 := hf0 e.on h1
        have h3 : e.on < listed.size := by omega
        simpa [h3] using h2⟩
      rw [hr] at this
      cases this
    · obtain ⟨hui, o, ho, hall⟩ := mem_ready.1 hi
      have hin : i < nA := by
        rcases Nat.lt_or_ge i nA with g | g
        · exact g
        · exfalso
          have h1 := waitsOn_listed hcl 9 i o ho hall (hB i o g ho i0 hi0)
          have h3 : i0 < listed.size := by omega
          have h4 : listed.getD i0 true = listed.getD i0 false := by simp [h3]
          rw [h4, h1] at hu0
          cases hu0
      obtain ⟨o', d, F⟩ := hA i hin
      obtain rfl : o = o' := by have := F.what; rw [ho] at this; exact Option.some.inj this
      have hil : i < listed.size := by omega
      have hdeps : ∀ j, j < nA → needs ops i j = true → listed.getD j true = true := fun j hj hn => by
        obtain ⟨e, he, hb, hon⟩ := F.waits j hj hn
        have h1 := hall e he hb
        rw [hon] at h1
        have h3 : j < listed.size := by omega
        simpa [h3] using h1
      have hw : Region.wanted o (yielded ops (laidIn ops (fun k => listed.getD k true) vs nA a0).tmps) = true := by
        unfold Region.wanted
        simp [F.guard]
      have hop' := hop i hin vs W o ho hW (fun j hj hn => hR j hj (hdeps j hj hn))
        (fun a' W' => ∃ v, a' = (laidIn ops (fun _ => true) vs nA a0).put o.dst v ∧ (Below W.heap.size W W' ∧ R i v W' ∧ (al i = true → ∀ j u, al j = true → R j u W → E v u)))
        (fun v W' h1 h2 h3 => ⟨v, rfl, h1, h2, h3⟩)
      unfold wpOp
      simp only [ho, hw, if_true]
      refine Or.inl (wp_like (T := fun v W' => Below W.heap.size W W' ∧ R i v W' ∧ (al i = true → ∀ j u, al j = true → R j u W → E v u)) (execOp_congr o F.sel fun x hx => laid_eval x nA fun k hk ok hok hdx => ?_) F.dst (by rw [laid_size]; exact F.lt) hop' ?_)
      · obtain ⟨dk, hdk, rfl⟩ := hdx
        have hn : needs ops i k = true := by
          unfold needs
          simp only [ho, hok, hdk]
          simp only [List.contains_iff_mem]
          exact List.mem_append_left _ (List.mem_filterMap.2 ⟨.tmp dk, by simpa using hx, rfl⟩)
        exact hdeps k hk hn
      · rintro v W' ⟨h1, h2, h3⟩
        rw [laid_put ho hui nA hin (fun k hk hki o' ho' dk hdk e => F.lone k hk hki o' ho' (by rw [hdk, ← e, F.dst]))]
        have e3 : (upd (fun k => listed.getD k true) i true) = fun k => (listed.setIfInBounds i true).getD k true := funext fun k => by
          by_cases hk : k = i
          · subst hk; rw [upd_same, getD_set_same true hil]
          · rw [upd_other _ _ hk, getD_set_ne true (Ne.symm hk)]
        rw [e3]
        have hcnt := unlisted_set hil hui nA
        rw [if_pos hin] at hcnt
        refine ih _ _ _ (by simpa using hsz) (fun k hk hks => ?_) (by omega) (hW.trans (h1.mono hW.size)) (fun j hj hl => ?_) (fun p q hp hq hlp hlq hap haq hpq => ?_) (fun k ok hlk hok e he hb => ?_)
        · rw [getD_set_ne true (show i ≠ k by omega)]; exact hun k hk hks
        · by_cases hji : j = i
          · subst hji; rw [upd_same]; exact h2
          · rw [upd_other _ _ hji]
            rw [getD_set_ne true (Ne.symm hji)] at hl
            exact hmono _ _ _ _ h1 (hR j hj hl)
        · by_cases hpi : p = i
          · subst hpi
            have hqp : q ≠ p := Ne.symm hpq
            rw [getD_set_ne true hpq] at hlq
            rw [upd_same, upd_other _ _ hqp]
            exact h3 hap q _ haq (hR q hq hlq)
          · rw [getD_set_ne true (Ne.symm hpi)] at hlp
            rw [upd_other _ _ hpi]
            by_cases hqi : q = i
            · subst hqi
              rw [upd_same]
              exact hE _ _ (h3 haq p _ hap (hR p hp hlp))
            · rw [getD_set_ne true (Ne.symm hqi)] at hlq
              rw [upd_other _ _ hqi]
              exact hal p q hp hq hlp hlq hap haq hpq
        · by_cases hki : k = i
          · subst hki
            obtain rfl : o = ok := by rw [ho] at hok; exact Option.some.inj hok
            exact getD_set_true (hall e he hb)
          · rw [getD_set_ne false (Ne.symm hki)] at hlk
            exact getD_set_true (hcl k ok hlk hok e he hb)
theorem wp_drawn {id : Nat} {w : World} (nA : Nat) (R : Nat → Value → World → Prop) (al : Nat → Bool) (E : Value → Value → Prop) (hE : ∀ u v, E u v → E v u) (hm : P.follows .mixedOrders = true) (H : drawnOk ops nA a0.tmps.size = true)
    (hmono : ∀ j v w w', Below w.heap.size w w' → R j v w → R j v w')
    (hop : ∀ i, i < nA → OpDoes P ops nA a0 w.drew R al E i)
    (hfin : ∀ vs W, Below w.drew.heap.size w.drew W → (∀ j, j < nA → R j (vs j) W) → (∀ i j, i < nA → j < nA → al i = true → al j = true → i ≠ j → E (vs i) (vs j)) →
      ∀ fuel, wpAny P .any ops Q (fuel + (ops.size - nA)) (firstOf nA ops.size) (laidIn ops (fun _ => true) vs nA a0) W) :
    (Code.region id ops true).wp P Q a0 w := by
  obtain ⟨_, _, hle⟩ := drawn_fine H
  refine wp_region_any hm ?_
  have h := drawn_any (Q := Q) hE H hmono hop hfin nA (Array.replicate ops.size false) (fun _ => undef) w.drew (by simp) (fun i _ hi => by simp [hi]) ?_ (Below.refl _ _) (fun j hj hl => ?_) (fun i j hi _ hl => ?_) (fun k o hl => ?_)
  · rw [show nA + (ops.size - nA) = ops.size by omega] at h
    have e : ∀ n, n ≤ nA → laidIn ops (fun k => (Array.replicate ops.size false).getD k true) (fun _ => undef) n a0 = a0 := by
      intro n
      induction n with
      | zero => intro _; rfl
      | succ n ih =>
        intro hn
        have g : (Array.replicate ops.size false).getD n true = false := by simp [show n < ops.size by omega]
        unfold laidIn
        simp only [g, Bool.false_eq_true, if_false, ih (by omega)]
        split <;> rfl
    rw [e nA (Nat.le_refl _)] at h
    exact h
  · have : ∀ n, unlisted (Array.replicate ops.size false) n ≤ n := by
      intro n
      induction n with
      | zero => simp [unlisted]
      | succ n ih => unfold unlisted; split <;> omega
    exact this nA
  · have : j < ops.size := by omega
    simp [this] at hl
  · have : i < ops.size := by omega
    simp [this] at hl
  · by_cases hk : k < ops.size
    · simp [hk] at hl
    · simp [hk] at hl
end
def sliceBlock : Value → Option Nat
  | .slice (some p) (_ + 1) _ => some p.block
  | _ => none
def InBlock : Value → Nat → Prop
  | .pointer (some p), k => p.block = k
  | .agg cs, k => ∃ i : Nat, (cs[i]?).bind sliceBlock = some k
  | _, _ => False
def Aside (u v : Value) : Prop := ∀ k, InBlock u k → ¬ InBlock v k
theorem Aside.symm : ∀ u v, Aside u v → Aside v u := fun _ _ h k h1 h2 => h k h2 h1
theorem sliceBlock_seg {lo : Nat} {W : World} {a : Option Addr} {c : Nat} {z : List Int} {k : Nat} (h : Seg lo W (.slice a z.length c) z) (hk : sliceBlock (.slice a z.length c) = some k) : lo ≤ k ∧ k < W.heap.size ∧ z ≠ [] ∧ ∃ o, a = some ⟨k, o, none⟩ := by
  cases z with
  | nil => cases a <;> simp [sliceBlock] at hk
  | cons x z =>
    obtain ⟨b, o, rfl, h1, h2⟩ := h.row (by simp)
    simp [sliceBlock] at hk
    subst hk
    exact ⟨h1, h2, by simp, o, rfl⟩
theorem inBlock_whole {g : Bool} {s : Value} {k : Nat} : InBlock (.agg #[.bool g, s]) k ↔ sliceBlock s = some k := by
  constructor
  · rintro ⟨i, hi⟩
    match i with
    | 0 => simp [sliceBlock] at hi
    | 1 => simpa using hi
    | i + 2 => simp at hi
  · intro h; exact ⟨1, by simpa using h⟩
theorem seg_blockOf {lo : Nat} {W : World} {a : Option Addr} {c : Nat} {z : List Int} {g : Bool} {k : Nat} (h : Seg lo W (.slice a z.length c) z) (hk : InBlock (.agg #[.bool g, .slice a z.length c]) k) : lo ≤ k ∧ k < W.heap.size ∧ z ≠ [] ∧ ∃ o, a = some ⟨k, o, none⟩ := sliceBlock_seg h (inBlock_whole.1 hk)
inductive Yield where
  | is (u : Value)
  | whole (lo : Nat) (x : Int) (n : Nat)
  | copy (lo : Nat) (b : Bool) (zs : List Int)
  | new (lo : Nat) (o : Obj)
  | rel (r : Value → World → Prop) (keeps : ∀ v W W', Below W.heap.size W W' → r v W → r v W')
  | own (r : Value → World → Prop) (keeps : ∀ v W W', Below W.heap.size W W' → r v W → r v W') (lies : ∀ v W k, r v W → InBlock v k → k < W.heap.size)
def Yield.At : Yield → Value → World → Prop
  | .is u, v, _ => v = u
  | .whole lo x n, v, W => ∃ (g : Bool) (a : Option Addr) (c : Nat) (z : List Int), v = .agg #[.bool g, .slice a z.length c] ∧ Seg lo W (.slice a z.length c) z ∧ Canon g z ∧ sgn g (val z) = x ∧ z.length ≤ n
  | .copy lo b zs, v, W => ∃ (a : Option Addr) (c : Nat), v = .agg #[.bool b, .slice a zs.length c] ∧ Seg lo W (.slice a zs.length c) zs
  | .new lo o, v, W => ∃ k, v = .pointer (some ⟨k, 0, none⟩) ∧ Box W k o ∧ lo ≤ k
  | .rel r _, v, W => r v W
  | .own r _ _, v, W => r v W
theorem Yield.mono (y : Yield) {v : Value} {W W' : World} (hb : Below W.heap.size W W') (h : y.At v W) : y.At v W' := by
  cases y with
  | is u => exact h
  | whole lo x n => obtain ⟨g, a, c, z, e, s, r⟩ := h; exact ⟨g, a, c, z, e, s.below hb, r⟩
  | copy lo b zs => obtain ⟨a, c, e, s⟩ := h; exact ⟨a, c, e, s.below hb⟩
  | new lo o => obtain ⟨k, e, b, r⟩ := h; exact ⟨k, e, b.below hb, r⟩
  | rel r keeps => exact keeps _ _ _ hb h
  | own r keeps lies => exact keeps _ _ _ hb h
def yields (ks : List Yield) (j : Nat) (v : Value) (W : World) : Prop := match ks[j]? with | some y => y.At v W | none => False
theorem yields_mono (ks : List Yield) : ∀ j v w w', Below w.heap.size w w' → yields ks j v w → yields ks j v w' := fun j v w w' hb h => by
  unfold yields at *
  cases hk : ks[j]? with
  | none => rw [hk] at h; exact h
  | some y => rw [hk] at h; exact y.mono hb h
def isFresh (ks : List Yield) (j : Nat) : Bool := match ks[j]? with | some (.is _) => false | some (.rel _ _) => false | some _ => true | none => false
theorem lt_nil {p : Nat → Prop} : ∀ i, i < 0 → p i := fun _ h => absurd h (Nat.not_lt_zero _)
theorem lt_cons {p : Nat → Prop} {n : Nat} (h : p n) (hs : ∀ i, i < n → p i) : ∀ i, i < n + 1 → p i := fun i hi => by
  by_cases e : i = n
  · exact e ▸ h
  · exact hs i (by omega)
theorem fresh_apart (ks : List Yield) (i : Nat) {v : Value} {W : World} (hv : ∀ k, InBlock v k → W.heap.size ≤ k) : isFresh ks i = true → ∀ j u, isFresh ks j = true → yields ks j u W → Aside v u := fun _ j u hj h k h1 h2 => by
  have hk := hv k h1
  unfold isFresh at hj
  unfold yields at h
  cases hy : ks[j]? with
  | none => rw [hy] at hj; cases hj
  | some y =>
    rw [hy] at hj h
    cases y with
    | is u => cases hj
    | rel r keeps => cases hj
    | whole lo x n => obtain ⟨g, a, c, z, rfl, s, _⟩ := h; have := (seg_blockOf s h2).2.1; omega
    | copy lo b zs => obtain ⟨a, c, rfl, s⟩ := h; have := (seg_blockOf s h2).2.1; omega
    | new lo o =>
      obtain ⟨k', rfl, b, _⟩ := h
      have h3 : k' = k := h2
      have := b.lt
      omega
    | own r keeps lies => have := lies _ _ _ h h2; omega
theorem not_fresh {ks : List Yield} {i : Nat} {v : Value} {W : World} (h : isFresh ks i = false) : isFresh ks i = true → ∀ j u, isFresh ks j = true → yields ks j u W → Aside v u := fun h' => by rw [h] at h'; cases h'
theorem fresh_new (W : World) : ∀ k, InBlock (.pointer (some ⟨W.heap.size, 0, none⟩)) k → W.heap.size ≤ k := fun _ h => Nat.le_of_eq h
theorem Seg.noBox {lo : Nat} {W : World} {a : Option Addr} {n cap k : Nat} {zs : List Int} {b : Bool} {s : Value} {t : TypeId} (h : Seg lo W (.slice a n cap) zs) (hk : Box W k (.cells #[.bool b, s] t (0, 0))) (hs : ∀ k x, s ≠ .int k x) (hz : zs ≠ []) : ∀ g o, a = some ⟨g, o, none⟩ → g ≠ k := by
  rintro g o rfl rfl
  obtain ⟨hn, _⟩ := h.len
  subst hn
  have hc := (h.cell (j := 0) (List.length_pos_iff.2 hz)).1
  have := cell_of_heap hk.what (o + 0)
  rw [this] at hc
  rcases Nat.lt_or_ge (o + 0) 2 with g1 | g1
  · rcases Nat.lt_or_ge (o + 0) 1 with g2 | g2
    · have e : o + 0 = 0 := by omega
      rw [e] at hc
      simp at hc
    · have e : o + 0 = 1 := by omega
      rw [e] at hc
      simp at hc
      exact hs _ _ hc
  · rw [Array.getElem?_eq_none (by simpa using g1)] at hc
    cases hc
theorem Seg.besides {lo : Nat} {W W' : World} {a : Option Addr} {n cap k : Nat} {zs : List Int} {b : Bool} {s : Value} {t : TypeId} (h : Seg lo W (.slice a n cap) zs) (hk : Box W k (.cells #[.bool b, s] t (0, 0))) (hs : ∀ k x, s ≠ .int k x) (ht : Turns k W W') : Seg lo W' (.slice a n cap) zs := by
  by_cases hz : zs = []
  · obtain ⟨hn, hc⟩ := h.len
    subst hz hn
    exact Seg.empty _ _ _ _
  · obtain ⟨g, o, rfl, _, _⟩ := h.row (by rw [h.len.1]; exact List.length_pos_iff.2 hz)
    exact h.turns ht (h.noBox hk hs hz g o rfl)
theorem wp_yields {P : Program} {ops : Array Oper} {Q : Exit → Act → World → Prop} {a0 : Act} {id : Nat} {w : World} (nA : Nat) (ks : List Yield) (hm : P.follows .mixedOrders = true) (H : drawnOk ops nA a0.tmps.size = true)
    (hop : ∀ i, i < nA → OpDoes P ops nA a0 w.drew (yields ks) (isFresh ks) Aside i)
    (hfin : ∀ vs W, Below w.drew.heap.size w.drew W → (∀ j, j < nA → yields ks j (vs j) W) → (∀ i j, i < nA → j < nA → isFresh ks i = true → isFresh ks j = true → i ≠ j → Aside (vs i) (vs j)) →
      ∀ fuel, wpAny P .any ops Q (fuel + (ops.size - nA)) (firstOf nA ops.size) (laidIn ops (fun _ => true) vs nA a0) W) :
    (Code.region id ops true).wp P Q a0 w := wp_drawn nA (yields ks) (isFresh ks) Aside Aside.symm hm H (yields_mono ks) hop hfin
structure Spares (v : Value) (W W' : World) : Prop where
  os : W'.os = W.os
  tape : W'.tape = W.tape
  output : W'.output = W.output
  size : W.heap.size ≤ W'.heap.size
  same : ∀ k, ¬ InBlock v k → W'.heap[k]? = W.heap[k]?
theorem Spares.below {v : Value} {W W' : World} {N : Nat} (h : Spares v W W') (hN : ∀ k, InBlock v k → N ≤ k) : Below N W W' := ⟨h.os, h.tape, h.output, h.size, fun k hk => h.same k fun e => by have := hN k e; omega⟩
def At8 (V : World) (b O : Nat) (x0 x1 x2 x3 x4 x5 x6 x7 : Nat) : Prop := V.cell? ⟨b, O, none⟩ = some (.int .u8 (x0 : Nat)) ∧ V.cell? ⟨b, O + 1, none⟩ = some (.int .u8 (x1 : Nat)) ∧ V.cell? ⟨b, O + 2, none⟩ = some (.int .u8 (x2 : Nat)) ∧ V.cell? ⟨b, O + 3, none⟩ = some (.int .u8 (x3 : Nat)) ∧ V.cell? ⟨b, O + 4, none⟩ = some (.int .u8 (x4 : Nat)) ∧ V.cell? ⟨b, O + 5, none⟩ = some (.int .u8 (x5 : Nat)) ∧ V.cell? ⟨b, O + 6, none⟩ = some (.int .u8 (x6 : Nat)) ∧ V.cell? ⟨b, O + 7, none⟩ = some (.int .u8 (x7 : Nat))
theorem At8.below {V W : World} {b O : Nat} {x0 x1 x2 x3 x4 x5 x6 x7 : Nat} (h : At8 V b O x0 x1 x2 x3 x4 x5 x6 x7) (hb : Below V.heap.size V W) (hl : b < V.heap.size) : At8 W b O x0 x1 x2 x3 x4 x5 x6 x7 := ⟨(hb.cell (p := ⟨b, O, none⟩) hl).trans h.1, (hb.cell (p := ⟨b, O + 1, none⟩) hl).trans h.2.1, (hb.cell (p := ⟨b, O + 2, none⟩) hl).trans h.2.2.1, (hb.cell (p := ⟨b, O + 3, none⟩) hl).trans h.2.2.2.1, (hb.cell (p := ⟨b, O + 4, none⟩) hl).trans h.2.2.2.2.1, (hb.cell (p := ⟨b, O + 5, none⟩) hl).trans h.2.2.2.2.2.1, (hb.cell (p := ⟨b, O + 6, none⟩) hl).trans h.2.2.2.2.2.2.1, (hb.cell (p := ⟨b, O + 7, none⟩) hl).trans h.2.2.2.2.2.2.2⟩
theorem eight_at {lo : Nat} {V : World} {b o n c : Nat} {zs : List Int} (h : Byt lo V (.slice (some ⟨b, o, none⟩) n c) zs) {k : Nat} (hk : k + 8 ≤ n) : ∃ x0 x1 x2 x3 x4 x5 x6 x7 : Nat, At8 V b (o + k) x0 x1 x2 x3 x4 x5 x6 x7 ∧ (x0 < 256 ∧ x1 < 256 ∧ x2 < 256 ∧ x3 < 256 ∧ x4 < 256 ∧ x5 < 256 ∧ x6 < 256 ∧ x7 < 256) ∧ (zs[k]?.getD 0 = (x0 : Int) ∧ zs[k + 1]?.getD 0 = (x1 : Int) ∧ zs[k + 2]?.getD 0 = (x2 : Int) ∧ zs[k + 3]?.getD 0 = (x3 : Int) ∧ zs[k + 4]?.getD 0 = (x4 : Int) ∧ zs[k + 5]?.getD 0 = (x5 : Int) ∧ zs[k + 6]?.getD 0 = (x6 : Int) ∧ zs[k + 7]?.getD 0 = (x7 : Int)) := by
  obtain ⟨x0, e0⟩ := Int.eq_ofNat_of_zero_le (h.words.getD (k)).1
  have b0 := (h.words.getD (k)).2
  have c0 := (h.cell (j := k) (by omega)).1
  rw [e0] at b0 c0
  obtain ⟨x1, e1⟩ := Int.eq_ofNat_of_zero_le (h.words.getD (k + 1)).1
  have b1 := (h.words.getD (k + 1)).2
  have c1 := (h.cell (j := k + 1) (by omega)).1
  rw [e1] at b1 c1
  obtain ⟨x2, e2⟩ := Int.eq_ofNat_of_zero_le (h.words.getD (k + 2)).1
  have b2 := (h.words.getD (k + 2)).2
  have c2 := (h.cell (j := k + 2) (by omega)).1
  rw [e2] at b2 c2
  obtain ⟨x3, e3⟩ := Int.eq_ofNat_of_zero_le (h.words.getD (k + 3)).1
  have b3 := (h.words.getD (k + 3)).2
  have c3 := (h.cell (j := k + 3) (by omega)).1
  rw [e3] at b3 c3
  obtain ⟨x4, e4⟩ := Int.eq_ofNat_of_zero_le (h.words.getD (k + 4)).1
  have b4 := (h.words.getD (k + 4)).2
  have c4 := (h.cell (j := k + 4) (by omega)).1
  rw [e4] at b4 c4
  obtain ⟨x5, e5⟩ := Int.eq_ofNat_of_zero_le (h.words.getD (k + 5)).1
  have b5 := (h.words.getD (k + 5)).2
  have c5 := (h.cell (j := k + 5) (by omega)).1
  rw [e5] at b5 c5
  obtain ⟨x6, e6⟩ := Int.eq_ofNat_of_zero_le (h.words.getD (k + 6)).1
  have b6 := (h.words.getD (k + 6)).2
  have c6 := (h.cell (j := k + 6) (by omega)).1
  rw [e6] at b6 c6
  obtain ⟨x7, e7⟩ := Int.eq_ofNat_of_zero_le (h.words.getD (k + 7)).1
  have b7 := (h.words.getD (k + 7)).2
  have c7 := (h.cell (j := k + 7) (by omega)).1
  rw [e7] at b7 c7
  exact ⟨x0, x1, x2, x3, x4, x5, x6, x7, ⟨c0, c1, c2, c3, c4, c5, c6, c7⟩, ⟨by omega, by omega, by omega, by omega, by omega, by omega, by omega, by omega⟩, ⟨e0, e1, e2, e3, e4, e5, e6, e7⟩⟩
theorem eight_box {W : World} {g : Nat} {t : TypeId} {v0 v1 v2 v3 v4 v5 v6 v7 : Value} (h : Box W g (.cells #[v0, v1, v2, v3, v4, v5, v6, v7] t (0, 0))) : W.cell? ⟨g, 0, none⟩ = some v0 ∧ W.cell? ⟨g, 1, none⟩ = some v1 ∧ W.cell? ⟨g, 2, none⟩ = some v2 ∧ W.cell? ⟨g, 3, none⟩ = some v3 ∧ W.cell? ⟨g, 4, none⟩ = some v4 ∧ W.cell? ⟨g, 5, none⟩ = some v5 ∧ W.cell? ⟨g, 6, none⟩ = some v6 ∧ W.cell? ⟨g, 7, none⟩ = some v7 ∧ W.frozen? ⟨g, 0, none⟩ = false ∧ W.frozen? ⟨g, 1, none⟩ = false ∧ W.frozen? ⟨g, 2, none⟩ = false ∧ W.frozen? ⟨g, 3, none⟩ = false ∧ W.frozen? ⟨g, 4, none⟩ = false ∧ W.frozen? ⟨g, 5, none⟩ = false ∧ W.frozen? ⟨g, 6, none⟩ = false ∧ W.frozen? ⟨g, 7, none⟩ = false := by
  have hw := h.what
  refine ⟨?_, ?_, ?_, ?_, ?_, ?_, ?_, ?_, ?_, ?_, ?_, ?_, ?_, ?_, ?_, ?_⟩
  all_goals first | exact frozen_of_heap hw _ | (rw [cell_of_heap hw]; rfl)
theorem eight_stored {W : World} {g : Nat} {t : TypeId} {cs : Array Value} (h : Box W g (.cells cs t (0, 0))) (vs : List Value) (hv : vs.length = cs.size) : ∃ V, W.setCells g 0 vs = V ∧ Turns g W V ∧ ∀ j v, vs[j]? = some v → V.cell? ⟨g, 0 + j, none⟩ = some v := by
  refine ⟨_, rfl, (Turns.refl g W).setCells vs 0, fun j v hj => ?_⟩
  obtain ⟨hl, rfl⟩ := List.getElem?_eq_some_iff.1 hj
  refine World.cell?_setCells_in g vs 0 W (fun i hi => ?_) j hl
  rw [cell_of_heap h.what, Array.getElem?_eq_getElem (by omega)]
  rfl
theorem bytes8_eq {x0 x1 x2 x3 x4 x5 x6 x7 y0 y1 y2 y3 y4 y5 y6 y7 : Nat} (hx : x0 < 256 ∧ x1 < 256 ∧ x2 < 256 ∧ x3 < 256 ∧ x4 < 256 ∧ x5 < 256 ∧ x6 < 256 ∧ x7 < 256) (hy : y0 < 256 ∧ y1 < 256 ∧ y2 < 256 ∧ y3 < 256 ∧ y4 < 256 ∧ y5 < 256 ∧ y6 < 256 ∧ y7 < 256) : bytes8 (n8 x0 x1 x2 x3 x4 x5 x6 x7 ^^^ n8 y0 y1 y2 y3 y4 y5 y6 y7) = #[.int .u8 (x0 ^^^ y0 : Nat), .int .u8 (x1 ^^^ y1 : Nat), .int .u8 (x2 ^^^ y2 : Nat), .int .u8 (x3 ^^^ y3 : Nat), .int .u8 (x4 ^^^ y4 : Nat), .int .u8 (x5 ^^^ y5 : Nat), .int .u8 (x6 ^^^ y6 : Nat), .int .u8 (x7 ^^^ y7 : Nat)] := by
  obtain ⟨a0, a1, a2, a3, a4, a5, a6, a7⟩ := hx
  obtain ⟨b0, b1, b2, b3, b4, b5, b6, b7⟩ := hy
  unfold bytes8
  rw [byte_xor0, byte_xor _ _ 256 8 rfl, byte_xor _ _ 65536 16 rfl, byte_xor _ _ 16777216 24 rfl, byte_xor _ _ 4294967296 32 rfl, byte_xor _ _ 1099511627776 40 rfl, byte_xor _ _ 281474976710656 48 rfl, byte_xor _ _ 72057594037927936 56 rfl]
  have X : n8 x0 x1 x2 x3 x4 x5 x6 x7 % 256 = x0 ∧ n8 x0 x1 x2 x3 x4 x5 x6 x7 / 256 % 256 = x1 ∧ n8 x0 x1 x2 x3 x4 x5 x6 x7 / 65536 % 256 = x2 ∧ n8 x0 x1 x2 x3 x4 x5 x6 x7 / 16777216 % 256 = x3 ∧ n8 x0 x1 x2 x3 x4 x5 x6 x7 / 4294967296 % 256 = x4 ∧ n8 x0 x1 x2 x3 x4 x5 x6 x7 / 1099511627776 % 256 = x5 ∧ n8 x0 x1 x2 x3 x4 x5 x6 x7 / 281474976710656 % 256 = x6 ∧ n8 x0 x1 x2 x3 x4 x5 x6 x7 / 72057594037927936 % 256 = x7 := by unfold n8; omega
  have Y : n8 y0 y1 y2 y3 y4 y5 y6 y7 % 256 = y0 ∧ n8 y0 y1 y2 y3 y4 y5 y6 y7 / 256 % 256 = y1 ∧ n8 y0 y1 y2 y3 y4 y5 y6 y7 / 65536 % 256 = y2 ∧ n8 y0 y1 y2 y3 y4 y5 y6 y7 / 16777216 % 256 = y3 ∧ n8 y0 y1 y2 y3 y4 y5 y6 y7 / 4294967296 % 256 = y4 ∧ n8 y0 y1 y2 y3 y4 y5 y6 y7 / 1099511627776 % 256 = y5 ∧ n8 y0 y1 y2 y3 y4 y5 y6 y7 / 281474976710656 % 256 = y6 ∧ n8 y0 y1 y2 y3 y4 y5 y6 y7 / 72057594037927936 % 256 = y7 := by unfold n8; omega
  obtain ⟨c0, c1, c2, c3, c4, c5, c6, c7⟩ := X
  obtain ⟨d0, d1, d2, d3, d4, d5, d6, d7⟩ := Y
  rw [c0, c1, c2, c3, c4, c5, c6, c7, d0, d1, d2, d3, d4, d5, d6, d7]
theorem Byt.mix {lo p o n c k : Nat} {W : World} {xs ys : List Int} {vs : List Value} (hB : Byt lo W (.slice (some ⟨p, o, none⟩) n c) (mix k xs ys)) (hn : xs.length = n) (hx : Octs xs) (hy : Octs ys) (hk : k + vs.length ≤ n)
    (hv : ∀ i, i < vs.length → vs[i]? = some (.int .u8 (bx (xs[k + i]?.getD 0) (ys[k + i]?.getD 0)))) : Byt lo (W.setCells p (o + k) vs) (.slice (some ⟨p, o, none⟩) n c) (mix (k + vs.length) xs ys) := by
  by_cases h0 : n = 0
  · have : vs = [] := List.length_eq_zero_iff.1 (by omega)
    subst this
    exact hB
  · obtain ⟨_, _, e, hlo, hlt⟩ := hB.row (by omega)
    simp only [Option.some.injEq, Addr.mk.injEq] at e
    obtain ⟨rfl, _⟩ := e
    have hT := ((Turns.refl p W).setCells vs (o + k)).below.size
    refine Byt.of_cells (mix_octs hx hy _) (by rw [mix_length, hn]) hB.len.2 hlo (Nat.lt_of_lt_of_le hlt hT) (fun j hj => ⟨?_, ?_⟩)
    · rw [mix_getD (by omega)]
      by_cases h1 : k ≤ j ∧ j < k + vs.length
      · have hin := World.cell?_setCells_in p vs (o + k) W (fun i hi => by
          have h1 := (hB.cell (j := k + i) (by omega)).1
          rw [show o + k + i = o + (k + i) by omega, h1]
          rfl) (j - k) (by omega)
        rw [show o + k + (j - k) = o + j by omega] at hin
        have h2 := hv (j - k) (by omega)
        rw [List.getElem?_eq_getElem (by omega), show k + (j - k) = j by omega] at h2
        rw [hin, if_pos (by omega), Option.some.inj h2]
      · rw [World.cell?_setCells_out p vs (o + k) W _ (fun _ _ => by show o + j < o + k ∨ o + k + vs.length ≤ o + j; omega), (hB.cell hj).1, mix_getD (by omega)]
        by_cases h2 : j < k
        · rw [if_pos h2, if_pos (by omega)]
        · rw [if_neg h2, if_neg (by omega)]
    · rw [World.frozen?_setCells]
      exact (hB.cell hj).2
theorem eight_vs {k : Nat} {xs ys : List Int} {x0 x1 x2 x3 x4 x5 x6 x7 y0 y1 y2 y3 y4 y5 y6 y7 t0 t1 t2 t3 t4 t5 t6 t7 : Nat} (hx : xs[k]?.getD 0 = (x0 : Int) ∧ xs[k + 1]?.getD 0 = (x1 : Int) ∧ xs[k + 2]?.getD 0 = (x2 : Int) ∧ xs[k + 3]?.getD 0 = (x3 : Int) ∧ xs[k + 4]?.getD 0 = (x4 : Int) ∧ xs[k + 5]?.getD 0 = (x5 : Int) ∧ xs[k + 6]?.getD 0 = (x6 : Int) ∧ xs[k + 7]?.getD 0 = (x7 : Int)) (hy : ys[k]?.getD 0 = (y0 : Int) ∧ ys[k + 1]?.getD 0 = (y1 : Int) ∧ ys[k + 2]?.getD 0 = (y2 : Int) ∧ ys[k + 3]?.getD 0 = (y3 : Int) ∧ ys[k + 4]?.getD 0 = (y4 : Int) ∧ ys[k + 5]?.getD 0 = (y5 : Int) ∧ ys[k + 6]?.getD 0 = (y6 : Int) ∧ ys[k + 7]?.getD 0 = (y7 : Int)) (ht : t0 = x0 ^^^ y0 ∧ t1 = x1 ^^^ y1 ∧ t2 = x2 ^^^ y2 ∧ t3 = x3 ^^^ y3 ∧ t4 = x4 ^^^ y4 ∧ t5 = x5 ^^^ y5 ∧ t6 = x6 ^^^ y6 ∧ t7 = x7 ^^^ y7) : ∀ i, i < 8 → [Value.int .u8 (t0 : Nat), Value.int .u8 (t1 : Nat), Value.int .u8 (t2 : Nat), Value.int .u8 (t3 : Nat), Value.int .u8 (t4 : Nat), Value.int .u8 (t5 : Nat), Value.int .u8 (t6 : Nat), Value.int .u8 (t7 : Nat)][i]? = some (Value.int .u8 (bx (xs[k + i]?.getD 0) (ys[k + i]?.getD 0))) := by
  obtain ⟨a0, a1, a2, a3, a4, a5, a6, a7⟩ := hx
  obtain ⟨b0, b1, b2, b3, b4, b5, b6, b7⟩ := hy
  obtain ⟨rfl, rfl, rfl, rfl, rfl, rfl, rfl, rfl⟩ := ht
  intro i hi
  match i, hi with
  | 0, _ => show some _ = some (Value.int .u8 (bx (xs[k]?.getD 0) (ys[k]?.getD 0))); rw [a0, b0]; rfl
  | 1, _ => show some _ = some (Value.int .u8 (bx (xs[k + 1]?.getD 0) (ys[k + 1]?.getD 0))); rw [a1, b1]; rfl
  | 2, _ => show some _ = some (Value.int .u8 (bx (xs[k + 2]?.getD 0) (ys[k + 2]?.getD 0))); rw [a2, b2]; rfl
  | 3, _ => show some _ = some (Value.int .u8 (bx (xs[k + 3]?.getD 0) (ys[k + 3]?.getD 0))); rw [a3, b3]; rfl
  | 4, _ => show some _ = some (Value.int .u8 (bx (xs[k + 4]?.getD 0) (ys[k + 4]?.getD 0))); rw [a4, b4]; rfl
  | 5, _ => show some _ = some (Value.int .u8 (bx (xs[k + 5]?.getD 0) (ys[k + 5]?.getD 0))); rw [a5, b5]; rfl
  | 6, _ => show some _ = some (Value.int .u8 (bx (xs[k + 6]?.getD 0) (ys[k + 6]?.getD 0))); rw [a6, b6]; rfl
  | 7, _ => show some _ = some (Value.int .u8 (bx (xs[k + 7]?.getD 0) (ys[k + 7]?.getD 0))); rw [a7, b7]; rfl
def AddAt (lo p o q r n c : Nat) (xs ys : List Int) (w : World) (s b : Value) (wr : World) : Prop := ∃ (k m : Nat) (a a' : Option Addr) (c' d' : Nat), Hid (k + m = n) ∧ m ≤ n ∧ s = .slice a m c' ∧ b = .slice a' m d' ∧ m ≤ c' ∧ m ≤ d' ∧ Hid (0 < m → a = some ⟨p, o + k, none⟩ ∧ a' = some ⟨q, r + k, none⟩) ∧ Hid (Byt lo wr (.slice (some ⟨p, o, none⟩) n c) (mix k xs ys)) ∧ Hid (Wrote p o n w wr)
theorem run_arrayAt (a : Option Addr) (len cap : Nat) (W : World) (h : 8 ≤ len) : (Instr.arrayAt 46 (.slice a len cap)).run Try.prog W = .ok (.pointer a) W := by
  have h' : ¬ len < 8 := by omega
  simp [Instr.arrayAt, run_underlying Try.underlying46, h']
set_option maxRecDepth 100000 in
set_option maxHeartbeats 4000000 in
theorem xadd_some {lo lo' : Nat} (p o q r n c d : Nat) (xs ys : List Int) (w : World) (hn : xs.length = n) (hm : ys.length = n) (hl : n ≤ 1000000) (hpq : p ≠ q) (X : Byt lo w (.slice (some ⟨p, o, none⟩) n c) xs) (Y : Byt lo' w (.slice (some ⟨q, r, none⟩) n d) ys) (hp : p < w.heap.size) (hq : q < w.heap.size) :
    Calls Try.prog 26 #[.slice (some ⟨p, o, none⟩) n c, .slice (some ⟨q, r, none⟩) n d] w fun e w' => e = .returned (.tuple #[]) ∧ Byt lo w' (.slice (some ⟨p, o, none⟩) n c) (xl xs ys) ∧ Wrote p o n w w' := by
  have hc := X.len.2
  have hd := Y.len.2
  have HX := hide X
  have HY := hide Y
  have HN := hide hn
  have HM := hide hm
  clear X Y hn hm
  go_enter Try.func26, Try.ntmps26
  go_wp2
  go_loopw [0, 1] (fun s b wr => AddAt lo p o q r n c xs ys w s b wr) (fun s _ _ => (match s with | .slice _ m _ => m | _ => 0))
  case atStart => exact ⟨0, n, _, _, c, d, Nat.zero_add n, Nat.le_refl _, rfl, rfl, hc, hd, fun _ => ⟨rfl, rfl⟩, (by rw [mix_zero]; exact HX.out), Wrote.refl _ _ _ _⟩
  case round =>
    obtain ⟨k, m, a, a', c', d', hk, hmn, rfl, rfl, hmc, hmd, ha, hB, hW⟩ := hrel
    by_cases h8 : 8 ≤ m
    · have hi8 : (8 : Int) ≤ (m : Int) := by omega
      obtain ⟨rfl, rfl⟩ := ha.out (by omega)
      go_wp2_with fail
      have pw' : p < wr.heap.size := Nat.lt_of_lt_of_le hp hW.out.turns.below.size
      have qw : q < wr.heap.size := Nat.lt_of_lt_of_le hq hW.out.turns.below.size
      obtain ⟨x0, x1, x2, x3, x4, x5, x6, x7, X8, XL, XE⟩ := eight_at hB.out (k := k) (by have := hk.out; omega)
      obtain ⟨y0, y1, y2, y3, y4, y5, y6, y7, Y8, YL, YE⟩ := eight_at (HY.out.turns hW.out.turns (fun e => hpq e.symm)) (k := k) (by have := hk.out; omega)
      obtain ⟨O, hO⟩ : ∃ O, o + k = O := ⟨_, rfl⟩
      obtain ⟨R, hR⟩ : ∃ R, r + k = R := ⟨_, rfl⟩
      rw [hO] at X8 ⊢
      rw [hR] at Y8 ⊢
      have HO := hide hO
      have HR := hide hR
      have HXE := hide XE
      have HYE := hide YE
      have HXL := hide XL
      have HYL := hide YL
      clear hO hR XE YE XL YL ha
      refine wp_yields 11 [.is (.slice (some ⟨p, O, none⟩) m c'), .is (.pointer (some ⟨p, O, none⟩)), .is (.agg #[.int .u8 (x0 : Nat), .int .u8 (x1 : Nat), .int .u8 (x2 : Nat), .int .u8 (x3 : Nat), .int .u8 (x4 : Nat), .int .u8 (x5 : Nat), .int .u8 (x6 : Nat), .int .u8 (x7 : Nat)]), .is (.int .u64 (n8 x0 x1 x2 x3 x4 x5 x6 x7 : Nat)), .is (.slice (some ⟨q, R, none⟩) m d'), .is (.pointer (some ⟨q, R, none⟩)), .is (.agg #[.int .u8 (y0 : Nat), .int .u8 (y1 : Nat), .int .u8 (y2 : Nat), .int .u8 (y3 : Nat), .int .u8 (y4 : Nat), .int .u8 (y5 : Nat), .int .u8 (y6 : Nat), .int .u8 (y7 : Nat)]), .is (.int .u64 (n8 y0 y1 y2 y3 y4 y5 y6 y7 : Nat)), .is (.int .u64 ((n8 x0 x1 x2 x3 x4 x5 x6 x7 ^^^ n8 y0 y1 y2 y3 y4 y5 y6 y7 : Nat) : Int)), .is (.agg (bytes8 (n8 x0 x1 x2 x3 x4 x5 x6 x7 ^^^ n8 y0 y1 y2 y3 y4 y5 y6 y7))), .new wr.heap.size (.cells #[.int .u8 0, .int .u8 0, .int .u8 0, .int .u8 0, .int .u8 0, .int .u8 0, .int .u8 0, .int .u8 0] 46)] (by kernel_rfl) (by kernel_rfl) (lt_cons ?_ (lt_cons ?_ (lt_cons ?_ (lt_cons ?_ (lt_cons ?_ (lt_cons ?_ (lt_cons ?_ (lt_cons ?_ (lt_cons ?_ (lt_cons ?_ (lt_cons ?_ (lt_nil)))))))))))) ?_
      case refine_1 =>
        refine OpDoes.mk rfl ?_
        intro vs V hV hd K hK
        simp only [laidIn, List.getElem_toArray, List.getElem_cons_zero, List.getElem_cons_succ, List.getElem?_toArray, List.getElem?_cons_zero, List.getElem?_cons_succ, if_true, Act.put, List.setIfInBounds_toArray, List.set_cons_zero, List.set_cons_succ] at hK ⊢
        go_simp
        exact hK.out _ _ (below_new _ _) ⟨_, rfl, Box.new _ _, hV.size⟩ (fresh_apart _ _ (fresh_new _))
      case refine_2 =>
        refine OpDoes.mk rfl ?_
        intro vs V hV hd K hK
        have d8 : vs 8 = .int .u64 ((n8 x0 x1 x2 x3 x4 x5 x6 x7 ^^^ n8 y0 y1 y2 y3 y4 y5 y6 y7 : Nat) : Int) := hd 8 (by decide) (by kernel_rfl)
        simp only [laidIn, List.getElem_toArray, List.getElem_cons_zero, List.getElem_cons_succ, List.getElem?_toArray, List.getElem?_cons_zero, List.getElem?_cons_succ, if_true, Act.put, List.setIfInBounds_toArray, List.set_cons_zero, List.set_cons_succ] at hK ⊢
        simp only [d8] at hK ⊢
        go_simp
        go_at_call 29
        refine (spread_any _ V).mono ?_
        rintro e V' ⟨rfl, hb⟩
        exact hK.out _ _ hb rfl (not_fresh rfl)
      case refine_3 =>
        refine OpDoes.mk rfl ?_
        intro vs V hV hd K hK
        have d3 : vs 3 = .int .u64 (n8 x0 x1 x2 x3 x4 x5 x6 x7 : Nat) := hd 3 (by decide) (by kernel_rfl)
        have d7 : vs 7 = .int .u64 (n8 y0 y1 y2 y3 y4 y5 y6 y7 : Nat) := hd 7 (by decide) (by kernel_rfl)
        simp only [laidIn, List.getElem_toArray, List.getElem_cons_zero, List.getElem_cons_succ, List.getElem?_toArray, List.getElem?_cons_zero, List.getElem?_cons_succ, if_true, Act.put, List.setIfInBounds_toArray, List.set_cons_zero, List.set_cons_succ] at hK ⊢
        simp only [d3, d7] at hK ⊢
        have hx := bits_xor_u64_nat (n8 x0 x1 x2 x3 x4 x5 x6 x7) (n8 y0 y1 y2 y3 y4 y5 y6 y7) (n8_lt HXL.out) (n8_lt HYL.out)
        obtain ⟨u, hu⟩ : ∃ u, n8 x0 x1 x2 x3 x4 x5 x6 x7 = u := ⟨_, rfl⟩
        obtain ⟨v, hv⟩ : ∃ v, n8 y0 y1 y2 y3 y4 y5 y6 y7 = v := ⟨_, rfl⟩
        rw [hu, hv] at hx hK ⊢
        clear hu hv
        go_simp
        exact hK.out _ _ (Below.refl _ _) rfl (not_fresh rfl)
      case refine_4 =>
        refine OpDoes.mk rfl ?_
        intro vs V hV hd K hK
        have d6 : vs 6 = .agg #[.int .u8 (y0 : Nat), .int .u8 (y1 : Nat), .int .u8 (y2 : Nat), .int .u8 (y3 : Nat), .int .u8 (y4 : Nat), .int .u8 (y5 : Nat), .int .u8 (y6 : Nat), .int .u8 (y7 : Nat)] := hd 6 (by decide) (by kernel_rfl)
        simp only [laidIn, List.getElem_toArray, List.getElem_cons_zero, List.getElem_cons_succ, List.getElem?_toArray, List.getElem?_cons_zero, List.getElem?_cons_succ, if_true, Act.put, List.setIfInBounds_toArray, List.set_cons_zero, List.set_cons_succ] at hK ⊢
        simp only [d6] at hK ⊢
        obtain ⟨l0, l1, l2, l3, l4, l5, l6, l7⟩ := HYL.out
        have hc := number_any y0 y1 y2 y3 y4 y5 y6 y7 l0 l1 l2 l3 l4 l5 l6 l7 V
        clear l0 l1 l2 l3 l4 l5 l6 l7
        go_simp
        go_at_call 30
        refine hc.mono ?_
        rintro e V' ⟨rfl, hb⟩
        exact hK.out _ _ hb rfl (not_fresh rfl)
      case refine_5 =>
        refine OpDoes.mk rfl ?_
        intro vs V hV hd K hK
        have d5 : vs 5 = .pointer (some ⟨q, R, none⟩) := hd 5 (by decide) (by kernel_rfl)
        simp only [laidIn, List.getElem_toArray, List.getElem_cons_zero, List.getElem_cons_succ, List.getElem?_toArray, List.getElem?_cons_zero, List.getElem?_cons_succ, if_true, Act.put, List.setIfInBounds_toArray, List.set_cons_zero, List.set_cons_succ] at hK ⊢
        simp only [d5] at hK ⊢
        obtain ⟨k0, k1, k2, k3, k4, k5, k6, k7⟩ := (show At8 wr.drew q R y0 y1 y2 y3 y4 y5 y6 y7 from Y8).below hV qw
        go_simp
        exact hK.out _ _ (Below.refl _ _) rfl (not_fresh rfl)
      case refine_6 =>
        refine OpDoes.mk rfl ?_
        intro vs V hV hd K hK
        have d4 : vs 4 = .slice (some ⟨q, R, none⟩) m d' := hd 4 (by decide) (by kernel_rfl)
        simp only [laidIn, List.getElem_toArray, List.getElem_cons_zero, List.getElem_cons_succ, List.getElem?_toArray, List.getElem?_cons_zero, List.getElem?_cons_succ, if_true, Act.put, List.setIfInBounds_toArray, List.set_cons_zero, List.set_cons_succ] at hK ⊢
        simp only [d4] at hK ⊢
        have h8n := run_arrayAt (some ⟨q, R, none⟩) m d' V h8
        go_simp
        exact hK.out _ _ (Below.refl _ _) rfl (not_fresh rfl)
      case refine_7 =>
        refine OpDoes.mk rfl ?_
        intro vs V hV hd K hK
        simp only [laidIn, List.getElem_toArray, List.getElem_cons_zero, List.getElem_cons_succ, List.getElem?_toArray, List.getElem?_cons_zero, List.getElem?_cons_succ, if_true, Act.put, List.setIfInBounds_toArray, List.set_cons_zero, List.set_cons_succ] at hK ⊢
        go_simp
        exact hK.out _ _ (Below.refl _ _) rfl (not_fresh rfl)
      case refine_8 =>
        refine OpDoes.mk rfl ?_
        intro vs V hV hd K hK
        have d2 : vs 2 = .agg #[.int .u8 (x0 : Nat), .int .u8 (x1 : Nat), .int .u8 (x2 : Nat), .int .u8 (x3 : Nat), .int .u8 (x4 : Nat), .int .u8 (x5 : Nat), .int .u8 (x6 : Nat), .int .u8 (x7 : Nat)] := hd 2 (by decide) (by kernel_rfl)
        simp only [laidIn, List.getElem_toArray, List.getElem_cons_zero, List.getElem_cons_succ, List.getElem?_toArray, List.getElem?_cons_zero, List.getElem?_cons_succ, if_true, Act.put, List.setIfInBounds_toArray, List.set_cons_zero, List.set_cons_succ] at hK ⊢
        simp only [d2] at hK ⊢
        obtain ⟨l0, l1, l2, l3, l4, l5, l6, l7⟩ := HXL.out
        have hc := number_any x0 x1 x2 x3 x4 x5 x6 x7 l0 l1 l2 l3 l4 l5 l6 l7 V
        clear l0 l1 l2 l3 l4 l5 l6 l7
        go_simp
        go_at_call 30
        refine hc.mono ?_
        rintro e V' ⟨rfl, hb⟩
        exact hK.out _ _ hb rfl (not_fresh rfl)
      case refine_9 =>
        refine OpDoes.mk rfl ?_
        intro vs V hV hd K hK
        have d1 : vs 1 = .pointer (some ⟨p, O, none⟩) := hd 1 (by decide) (by kernel_rfl)
        simp only [laidIn, List.getElem_toArray, List.getElem_cons_zero, List.getElem_cons_succ, List.getElem?_toArray, List.getElem?_cons_zero, List.getElem?_cons_succ, if_true, Act.put, List.setIfInBounds_toArray, List.set_cons_zero, List.set_cons_succ] at hK ⊢
        simp only [d1] at hK ⊢
        obtain ⟨k0, k1, k2, k3, k4, k5, k6, k7⟩ := (show At8 wr.drew p O x0 x1 x2 x3 x4 x5 x6 x7 from X8).below hV pw'
        go_simp
        exact hK.out _ _ (Below.refl _ _) rfl (not_fresh rfl)
      case refine_10 =>
        refine OpDoes.mk rfl ?_
        intro vs V hV hd K hK
        have d0 : vs 0 = .slice (some ⟨p, O, none⟩) m c' := hd 0 (by decide) (by kernel_rfl)
        simp only [laidIn, List.getElem_toArray, List.getElem_cons_zero, List.getElem_cons_succ, List.getElem?_toArray, List.getElem?_cons_zero, List.getElem?_cons_succ, if_true, Act.put, List.setIfInBounds_toArray, List.set_cons_zero, List.set_cons_succ] at hK ⊢
        simp only [d0] at hK ⊢
        have h8n := run_arrayAt (some ⟨p, O, none⟩) m c' V h8
        go_simp
        exact hK.out _ _ (Below.refl _ _) rfl (not_fresh rfl)
      case refine_11 =>
        refine OpDoes.mk rfl ?_
        intro vs V hV hd K hK
        simp only [laidIn, List.getElem_toArray, List.getElem_cons_zero, List.getElem?_toArray, List.getElem?_cons_zero, List.getElem?_cons_succ, if_true, Act.put, List.setIfInBounds_toArray, List.set_cons_zero, List.set_cons_succ] at hK ⊢
        go_simp
        exact hK.out _ _ (Below.refl _ _) rfl (not_fresh rfl)
      case refine_12 =>
        intro vs Y1 hV hR1 hne fuel
        have d0 : vs 0 = .slice (some ⟨p, O, none⟩) m c' := hR1 0 (by decide)
        have d1 : vs 1 = .pointer (some ⟨p, O, none⟩) := hR1 1 (by decide)
        have d2 : vs 2 = .agg #[.int .u8 (x0 : Nat), .int .u8 (x1 : Nat), .int .u8 (x2 : Nat), .int .u8 (x3 : Nat), .int .u8 (x4 : Nat), .int .u8 (x5 : Nat), .int .u8 (x6 : Nat), .int .u8 (x7 : Nat)] := hR1 2 (by decide)
        have d3 : vs 3 = .int .u64 (n8 x0 x1 x2 x3 x4 x5 x6 x7 : Nat) := hR1 3 (by decide)
        have d4 : vs 4 = .slice (some ⟨q, R, none⟩) m d' := hR1 4 (by decide)
        have d5 : vs 5 = .pointer (some ⟨q, R, none⟩) := hR1 5 (by decide)
        have d6 : vs 6 = .agg #[.int .u8 (y0 : Nat), .int .u8 (y1 : Nat), .int .u8 (y2 : Nat), .int .u8 (y3 : Nat), .int .u8 (y4 : Nat), .int .u8 (y5 : Nat), .int .u8 (y6 : Nat), .int .u8 (y7 : Nat)] := hR1 6 (by decide)
        have d7 : vs 7 = .int .u64 (n8 y0 y1 y2 y3 y4 y5 y6 y7 : Nat) := hR1 7 (by decide)
        have d8 : vs 8 = .int .u64 ((n8 x0 x1 x2 x3 x4 x5 x6 x7 ^^^ n8 y0 y1 y2 y3 y4 y5 y6 y7 : Nat) : Int) := hR1 8 (by decide)
        have d9 : vs 9 = .agg (bytes8 (n8 x0 x1 x2 x3 x4 x5 x6 x7 ^^^ n8 y0 y1 y2 y3 y4 y5 y6 y7)) := hR1 9 (by decide)
        obtain ⟨g, d10, G, hg⟩ := hR1 10 (by decide)
        simp only [laidIn, List.getElem?_toArray, List.getElem?_cons_zero, List.getElem?_cons_succ, if_true, Act.put, List.setIfInBounds_toArray, List.set_cons_zero, List.set_cons_succ]
        simp only [d0, d1, d2, d3, d4, d5, d6, d7, d8, d9, d10]
        clear hR1 hne d0 d1 d2 d3 d4 d5 d6 d7 d8 d9 d10
        clear vs
        replace G : Box Y1 g _ := G
        replace hV : Below wr.heap.size wr Y1 := Below.trans (Below.drew (Below.refl wr.heap.size wr)) hV
        have hby := bytes8_eq HXL.out HYL.out
        obtain ⟨t0, ht0⟩ : ∃ t, x0 ^^^ y0 = t := ⟨_, rfl⟩
        obtain ⟨t1, ht1⟩ : ∃ t, x1 ^^^ y1 = t := ⟨_, rfl⟩
        obtain ⟨t2, ht2⟩ : ∃ t, x2 ^^^ y2 = t := ⟨_, rfl⟩
        obtain ⟨t3, ht3⟩ : ∃ t, x3 ^^^ y3 = t := ⟨_, rfl⟩
        obtain ⟨t4, ht4⟩ : ∃ t, x4 ^^^ y4 = t := ⟨_, rfl⟩
        obtain ⟨t5, ht5⟩ : ∃ t, x5 ^^^ y5 = t := ⟨_, rfl⟩
        obtain ⟨t6, ht6⟩ : ∃ t, x6 ^^^ y6 = t := ⟨_, rfl⟩
        obtain ⟨t7, ht7⟩ : ∃ t, x7 ^^^ y7 = t := ⟨_, rfl⟩
        rw [ht0, ht1, ht2, ht3, ht4, ht5, ht6, ht7] at hby
        rw [hby]
        have HT := hide (show (t0 = x0 ^^^ y0 ∧ t1 = x1 ^^^ y1 ∧ t2 = x2 ^^^ y2 ∧ t3 = x3 ^^^ y3 ∧ t4 = x4 ^^^ y4 ∧ t5 = x5 ^^^ y5 ∧ t6 = x6 ^^^ y6 ∧ t7 = x7 ^^^ y7) from ⟨ht0.symm, ht1.symm, ht2.symm, ht3.symm, ht4.symm, ht5.symm, ht6.symm, ht7.symm⟩)
        clear hby ht0 ht1 ht2 ht3 ht4 ht5 ht6 ht7
        show wpAny _ _ _ _ (fuel + 1) _ _ _
        refine wpAny_all (rs := [11]) (by kernel_rfl) (by simp) (fun i hi => ?_)
        obtain rfl : i = 11 := by simpa using hi
        clear hi
        have S8 := (eight_stored G [.int .u8 t0, .int .u8 t1, .int .u8 t2, .int .u8 t3, .int .u8 t4, .int .u8 t5, .int .u8 t6, .int .u8 t7] rfl)
        obtain ⟨k0, k1, k2, k3, k4, k5, k6, k7, f0, f1, f2, f3, f4, f5, f6, f7⟩ := eight_box G
        refine wpOp_step rfl (fun K hK => ?_)
        simp only [List.getElem_toArray, List.getElem_cons_zero, List.getElem_cons_succ]
        rw [if_pos (by rfl)]
        go_simp
        refine hK _ _ ?_
        clear hK k0 k1 k2 k3 k4 k5 k6 k7 f0 f1 f2 f3 f4 f5 f6 f7
        refine wpAny_done (by kernel_rfl) ?_ _
        obtain ⟨W2, hW2, T2, C2⟩ := S8
        simp only [World.setCells, Nat.zero_add, Nat.reduceAdd] at hW2
        rw [hW2]
        have hb2 : Below wr.heap.size wr W2 := hV.trans (T2.below.mono hg)
        replace hb2 := hb2.drew
        have C2d : ∀ j v, _ → W2.drew.cell? ⟨g, 0 + j, none⟩ = some v := C2
        clear hW2 T2 G hV X8 Y8 hg C2
        have B2 := hB.out.below hb2
        have Wr2 : Wrote p o n w W2.drew := hW.out.trans (Wrote.of_below pw' hb2)
        obtain ⟨vs, hvs⟩ : ∃ vs : List Value, [.int .u8 t0, .int .u8 t1, .int .u8 t2, .int .u8 t3, .int .u8 t4, .int .u8 t5, .int .u8 t6, .int .u8 t7] = vs := ⟨_, rfl⟩
        have hvl : vs.length = 8 := by rw [← hvs]; rfl
        rw [hvs] at C2d
        have hcp := run_copy_cells (P := Try.prog) W2.drew 42 22 3 5 p O m c' ⟨g, 0, none⟩ 8 8 vs Try.underlying42 sizeU8 (by rw [hvl]; exact (Nat.min_eq_left h8).symm)
          (fun j v hj => by rw [Addr.add_lit]; exact C2d j v hj)
          (fun j hj => by
            have h1 := (B2.cell (j := k + j) (by have := hk.out; omega)).1
            have h2 := HO.out
            rw [show O + j = o + (k + j) by omega, h1]
            rfl)
          (fun j hj => by
            have h1 := (B2.cell (j := k + j) (by have := hk.out; omega)).2
            have h2 := HO.out
            rw [show O + j = o + (k + j) by omega, h1])
          (fun v hv => by rw [← hvs] at hv; simp only [List.mem_cons, List.not_mem_nil, or_false] at hv; rcases hv with rfl | rfl | rfl | rfl | rfl | rfl | rfl | rfl <;> rfl)
        rw [hvl] at hcp
        have Wr3 := Wr2.setCells vs O (by have := HO.out; omega) (by have := HO.out; have := hk.out; omega)
        obtain ⟨W3, hW3⟩ : ∃ W3, W2.drew.setCells p O vs = W3 := ⟨_, rfl⟩
        have B3 : Byt lo W3 (.slice (some ⟨p, o, none⟩) n c) (mix (k + 8) xs ys) := by
          rw [← hW3, ← HO.out, show k + 8 = k + vs.length by rw [hvl]]
          refine B2.mix HN.out HX.out.words HY.out.words (by rw [hvl]; have := hk.out; omega) (fun i hi => ?_)
          rw [← hvs]
          exact eight_vs ⟨(mix_high (k := k) (j := 0) (by have := hk.out; have := HN.out; omega)).symm.trans HXE.out.1, (mix_high (k := k) (j := 1) (by have := hk.out; have := HN.out; omega)).symm.trans HXE.out.2.1, (mix_high (k := k) (j := 2) (by have := hk.out; have := HN.out; omega)).symm.trans HXE.out.2.2.1, (mix_high (k := k) (j := 3) (by have := hk.out; have := HN.out; omega)).symm.trans HXE.out.2.2.2.1, (mix_high (k := k) (j := 4) (by have := hk.out; have := HN.out; omega)).symm.trans HXE.out.2.2.2.2.1, (mix_high (k := k) (j := 5) (by have := hk.out; have := HN.out; omega)).symm.trans HXE.out.2.2.2.2.2.1, (mix_high (k := k) (j := 6) (by have := hk.out; have := HN.out; omega)).symm.trans HXE.out.2.2.2.2.2.2.1, (mix_high (k := k) (j := 7) (by have := hk.out; have := HN.out; omega)).symm.trans HXE.out.2.2.2.2.2.2.2⟩ HYE.out HT.out i (by rw [hvl] at hi; exact hi)
        rw [hW3] at hcp Wr3
        have HW3 := hide Wr3
        have HB3 := hide B3
        have HCP := hide hcp
        clear hW3 Wr3 B3 hvs hvl C2d B2 Wr2 hb2 hcp
        go_wp2_with fail
        have hm64 : (m : Int) ≤ 9223372036854775807 := by omega
        go_region_law (refine step_copy_run rfl (.tmp 20) (.tmp 21) 42 22 rfl _ _ (by rfl) (by rfl) _ _ HCP.out ?_)
        go_wp2
        all_goals
          refine ⟨⟨k + 8, m - 8, _, _, _, _, (by have := hk.out; show k + 8 + (m - 8) = n; omega), by omega, rfl, rfl, by omega, by omega, (fun h0 => ⟨?_, ?_⟩), HB3.out, HW3.out⟩, by omega⟩
        all_goals
          first
          | (exfalso; omega)
          | (rw [if_neg (by omega), ← HO.out, Nat.add_assoc])
          | (rw [if_neg (by omega), ← HR.out, Nat.add_assoc])
          | (rw [← HO.out, Nat.add_assoc])
          | (rw [← HR.out, Nat.add_assoc])
    · have hi8 : ¬ (8 : Int) ≤ (m : Int) := by omega
      go_wp2
      go_loopw [28] (fun i wr => ∃ t : Nat, t ≤ m ∧ i = .int .i64 t ∧ Hid (Byt lo wr (.slice (some ⟨p, o, none⟩) n c) (mix (k + t) xs ys)) ∧ Hid (Wrote p o n w wr)) (fun i _ => m - (intOf i).toNat)
      case atStart => exact ⟨0, Nat.zero_le _, rfl, hB, hW⟩
      case round =>
        obtain ⟨t, ht, rfl, hb, hw⟩ := hrel
        by_cases htm : t < m
        · obtain ⟨rfl, rfl⟩ := ha.out (by omega)
          have hti : (t : Int) < (m : Int) := by omega
          have hkm := hk.out
          have c1 := hb.out.cell (j := k + t) (by omega)
          have c2 := (HY.out.turns hw.out.turns (fun e => hpq e.symm)).cell (j := k + t) (by omega)
          rw [mix_getD (by have := HN.out; omega), if_neg (by omega), ← Nat.add_assoc] at c1
          rw [← Nat.add_assoc] at c2
          obtain ⟨c1, f1⟩ := c1
          replace c2 := c2.1
          have hbx := bits_bx (HX.out.words.getD (k + t)) (HY.out.words.getD (k + t))
          have hb4 := (hb.out.mix (vs := [.int .u8 (bx (xs[k + t]?.getD 0) (ys[k + t]?.getD 0))]) HN.out HX.out.words HY.out.words (by simp; omega) (fun i hi => by
            obtain rfl : i = 0 := by simpa using hi
            rfl))
          rw [← Nat.add_assoc o k t] at hb4
          have HB4 := hide hb4
          clear hb4
          have HW4 := hide (hw.out.setCell (.int .u8 (bx (xs[k + t]?.getD 0) (ys[k + t]?.getD 0))) (o + k + t) (by omega) (by omega)).drew
          obtain ⟨x, hx⟩ : ∃ x, xs[k + t]?.getD 0 = x := ⟨_, rfl⟩
          obtain ⟨y, hy⟩ : ∃ y, ys[k + t]?.getD 0 = y := ⟨_, rfl⟩
          obtain ⟨z, hz⟩ : ∃ z, bx x y = z := ⟨_, rfl⟩
          rw [hx, hy, hz] at HB4 HW4 hbx
          rw [hx] at c1
          rw [hy] at c2
          clear hx hy hz hkm
          go_wp2_with fail
          go_region
          go_wp2
          exact ⟨⟨t + 1, by omega, by go_num, HB4.out, HW4.out⟩, by simp [intOf]; omega⟩
        · go_wp2
          go_end0
          refine ⟨rfl, ?_, hw.out⟩
          have hkm := hk.out
          have hxn := HN.out
          have hyn := HM.out
          have := hb.out
          rwa [mix_all (by omega) (by omega)] at this
set_option maxRecDepth 100000 in
theorem xadd_none (a b : Option Addr) (c m d : Nat) (w : World) :
    Calls Try.prog 26 #[.slice a 0 c, .slice b m d] w fun e w' => e = .returned (.tuple #[]) ∧ w' = w := by
  go_enter Try.func26, Try.ntmps26
  go_wp2
  go_loopw [0] (fun s wr => s = .slice a 0 c ∧ wr = w) (fun _ _ => 0)
  case atStart => exact ⟨rfl, rfl⟩
  case round =>
    obtain ⟨rfl, rfl⟩ := hrel
    go_wp2
    go_loopw [28] (fun i wr' => i = .int .i64 0 ∧ wr' = wr) (fun _ _ => 0)
    case atStart => exact ⟨rfl, rfl⟩
    case round =>
      obtain ⟨rfl, rfl⟩ := hrel
      go_wp2
      go_end0
      exact ⟨rfl, rfl⟩
def Only (lo : Nat) (a : Option Addr) (n : Nat) (W W' : World) : Prop := Below lo W W' ∧ (∀ p o, 0 < n → a = some ⟨p, o, none⟩ → Wrote p o n W W') ∧ (n = 0 → W' = W)
theorem xadd_any {lo lo' : Nat} (a b : Option Addr) (n c d : Nat) (xs ys : List Int) (w : World) (hn : xs.length = n) (hm : ys.length = n) (hl : n ≤ 1000000) (hap : ∀ p o q r, a = some ⟨p, o, none⟩ → b = some ⟨q, r, none⟩ → 0 < n → p ≠ q) (X : Byt lo w (.slice a n c) xs) (Y : Byt lo' w (.slice b n d) ys) :
    Calls Try.prog 26 #[.slice a n c, .slice b n d] w fun e w' => e = .returned (.tuple #[]) ∧ Byt lo w' (.slice a n c) (xl xs ys) ∧ Only lo a n w w' := by
  by_cases h0 : n = 0
  · subst h0
    obtain rfl : xs = [] := List.length_eq_zero_iff.1 hn
    refine (xadd_none a b c 0 d w).mono ?_
    rintro e w' ⟨rfl, rfl⟩
    exact ⟨rfl, X, Below.refl _ _, fun _ _ h => absurd h (Nat.lt_irrefl 0), fun _ => rfl⟩
  · obtain ⟨p, o, rfl, hp, hpl⟩ := X.row (by omega)
    obtain ⟨q, r, rfl, hq, hql⟩ := Y.row (by omega)
    refine (xadd_some p o q r n c d xs ys w hn hm hl (hap _ _ _ _ rfl rfl (by omega)) X Y hpl hql).mono ?_
    rintro e w' ⟨rfl, h1, h2⟩
    refine ⟨rfl, h1, h2.turns.below.mono hp, fun p' o' _ e => ?_, fun h => absurd h h0⟩
    simp only [Option.some.injEq, Addr.mk.injEq] at e
    obtain ⟨rfl, rfl, _⟩ := e
    exact h2
set_option maxRecDepth 100000 in
theorem clone_any {lo : Nat} {a : Option Addr} {n c : Nat} {xs : List Int} {w : World} (h : Byt lo w (.slice a n c) xs) (hl : n ≤ 1000000) :
    Calls Try.prog 25 #[.slice a n c] w fun e w' => ∃ (a' : Option Addr) (c' : Nat), e = .returned (.slice a' n c') ∧ Byt w.heap.size w' (.slice a' n c') xs ∧ Below w.heap.size w w' := by
  obtain ⟨rfl, _⟩ := h.len
  have qT : ∀ (w : World) (a : Option Addr) (n c n' c' : Nat), (binOp .eql 22 (.slice a n c) (.slice none n' c')).run Try.prog w = .ok (.bool a.isNone) w := fun w a n c n' c' => Lib.run_eql_slice_nil w _ _ a n c n' c' Try.underlying22
  cases a with
  | none =>
    obtain rfl : xs = [] := by
      cases xs with
      | nil => rfl
      | cons x xs => obtain ⟨b, o, e, _⟩ := h.row (by simp); cases e
    go_enter Try.func25, Try.ntmps25
    go_wp2
    go_ret
    exact ⟨_, _, rfl, Byt.nil _ _, Below.refl _ _⟩
  | some p =>
    obtain ⟨a', cap', w', hap, hs, hb⟩ := appendb_copy h hl
    go_enter Try.func25, Try.ntmps25
    go_wp2_with (at_builtin; refine Lib.wpList_append_run _ rfl _ _ _ _ rfl _ _ rfl rfl _ _ hap ?_)
    go_ret
    exact ⟨_, _, rfl, hs, hb⟩
set_option maxRecDepth 100000 in
set_option maxHeartbeats 1000000 in
theorem xor_yes {lo lo' : Nat} {a b : Option Addr} {n c d : Nat} {xs ys : List Int} {w : World} (X : Byt lo w (.slice a n c) xs) (Y : Byt lo' w (.slice b n d) ys) (hl : n ≤ 1000000) :
    Calls Try.prog 11 #[.slice a n c, .slice b n d] w fun e w' => ∃ (a' : Option Addr) (c' : Nat), e = .returned (.tuple #[.slice a' n c', .int .i64 0]) ∧ Byt w.heap.size w' (.slice a' n c') (xl xs ys) ∧ Below w.heap.size w w' := by
  have hx := X.len.1
  have hy := Y.len.1
  have hc := clone_any X hl
  have HY := hide Y
  have HN := hide hx.symm
  have HM := hide hy.symm
  have hne : ((n : Int) != (n : Int)) = false := by simp
  clear X Y hx hy
  go_enter Try.func11, Try.ntmps11
  go_wp2_with fail
  refine hc.mono ?_
  rintro e w1 ⟨a1, c1, rfl, X1, B1⟩
  have Y1 := HY.out.below B1
  have ha := xadd_any a1 b n c1 d xs ys w1 HN.out HM.out hl (fun p o q r e1 e2 h0 => by
    subst e1 e2
    obtain ⟨_, _, e, h1, _⟩ := X1.row h0
    obtain ⟨_, _, e', _, h2⟩ := HY.out.row h0
    simp only [Option.some.injEq, Addr.mk.injEq] at e e'
    omega) X1 Y1
  clear hc
  go_wp2_with fail
  refine ha.mono ?_
  rintro e w2 ⟨rfl, X2, B2, _⟩
  have B02 := B1.trans B2
  clear ha
  go_wp2
  refine bodyPost_ret (v := .tuple #[.slice a1 n c1, .int .i64 0]) (by simp [results, Try.f11, go_sem]) rfl ?_
  exact ⟨_, _, rfl, X2, B02⟩
set_option maxRecDepth 100000 in
theorem xor_no (a b : Option Addr) (n m c d : Nat) (w : World) (h : n ≠ m) :
    Calls Try.prog 11 #[.slice a n c, .slice b m d] w fun e w' => e = .returned (.tuple #[.slice none 0 0, .int .i64 2]) ∧ w' = w := by
  have hne : ((n : Int) != (m : Int)) = true := by simp; omega
  clear h
  go_enter Try.func11, Try.ntmps11
  go_wp2
  refine bodyPost_ret (v := .tuple #[.slice none 0 0, .int .i64 2]) (by simp [results, Try.f11, go_sem]) rfl ?_
  exact ⟨rfl, rfl⟩
set_option maxRecDepth 100000 in
set_option maxHeartbeats 1000000 in
theorem into_yes {lo lo' : Nat} {a b : Option Addr} {n c d : Nat} {xs ys : List Int} {w : World} (X : Byt lo w (.slice a n c) xs) (Y : Byt lo' w (.slice b n d) ys) (hl : n ≤ 1000000) :
    Calls Try.prog 17 #[.slice a n c, .slice b n d] w fun e w' => e = .returned (.int .i64 0) ∧ Byt lo w' (.slice a n c) (xl xs ys) ∧ (lo ≤ w.heap.size → Below lo w w') ∧ (∀ p o, 0 < n → a = some ⟨p, o, none⟩ → Wrote p o n w w') ∧ (n = 0 → Below w.heap.size w w') := by
  have hx := X.len.1
  have hy := Y.len.1
  have hc := clone_any Y hl
  have HX := hide X
  have HN := hide hx.symm
  have HM := hide hy.symm
  have hne : ((n : Int) != (n : Int)) = false := by simp
  clear X Y hx hy
  go_enter Try.func17, Try.ntmps17
  go_wp2_with fail
  refine hc.mono ?_
  rintro e w1 ⟨a1, c1, rfl, Y1, B1⟩
  have X1 := HX.out.below B1
  have ha := xadd_any a a1 n c c1 xs ys w1 HN.out HM.out hl (fun p o q r e1 e2 h0 => by
    subst e1 e2
    obtain ⟨_, _, e, h1, _⟩ := Y1.row h0
    obtain ⟨_, _, e', _, h2⟩ := HX.out.row h0
    simp only [Option.some.injEq, Addr.mk.injEq] at e e'
    omega) X1 Y1
  clear hc
  go_wp2_with fail
  refine ha.mono ?_
  rintro e w2 ⟨rfl, X2, B2, W2, Z2⟩
  clear ha
  go_wp2
  go_ret
  refine ⟨rfl, X2, fun hlo => (B1.mono hlo).trans B2, fun p o h0 e => ?_, fun h0 => ?_⟩
  · obtain ⟨_, _, e', _, h2⟩ := HX.out.row h0
    rw [e] at e'
    simp only [Option.some.injEq, Addr.mk.injEq] at e'
    exact (Wrote.of_below (by omega) B1).trans (W2 p o h0 e)
  · rw [Z2 h0]
    exact B1
set_option maxRecDepth 100000 in
theorem few_yes (n : Int) (h : n < 0 ∨ 65535 < n) (w : World) :
    Calls Try.prog 27 #[.int .i64 n] w fun e w' => e = .returned (.bool true) ∧ w' = w := by
  by_cases h0 : n < 0
  · go_enter Try.func27, Try.ntmps27
    go_wp2
    go_ret
    exact ⟨rfl, rfl⟩
  · have h1 : 65535 < n := by omega
    clear h
    go_enter Try.func27, Try.ntmps27
    go_wp2
    go_ret
    exact ⟨rfl, rfl⟩
set_option maxRecDepth 100000 in
theorem few_no (n : Nat) (h : n ≤ 65535) (w : World) :
    Calls Try.prog 27 #[.int .i64 n] w fun e w' => e = .returned (.bool false) ∧ w' = w := by
  have h0 : ¬ (n : Int) < 0 := by omega
  have h1 : ¬ 65535 < (n : Int) := by omega
  go_enter Try.func27, Try.ntmps27
  go_wp2
  go_ret
  exact ⟨rfl, rfl⟩
theorem ret_bool {a b : Bool} (h : a = b) : Ending.returned (.bool a) = .returned (.bool b) := by rw [h]
set_option maxRecDepth 100000 in
set_option maxHeartbeats 1000000 in
theorem zero_any {lo : Nat} {a : Option Addr} {n c : Nat} {xs : List Int} {w : World} (X : Byt lo w (.slice a n c) xs) (hl : n ≤ 1000000) :
    Calls Try.prog 14 #[.slice a n c] w fun e w' => e = .returned (.bool (decide (xs = List.replicate n 0))) ∧ Below w.heap.size w w' := by
  have HN := hide X.len.1.symm
  have HX := hide X
  clear X
  go_enter Try.func14, Try.ntmps14
  go_wp2
  go_loopw [7] (fun i wr => ∃ k : Nat, k ≤ n ∧ i = .int .i64 k ∧ Hid (∀ j, j < k → xs[j]?.getD 0 = 0) ∧ Below w.heap.size w wr) (fun i _ => n - (intOf i).toNat)
  case atStart => exact ⟨0, Nat.zero_le _, rfl, (fun j hj => by omega), Below.refl _ _⟩
  case round =>
    obtain ⟨k, hk, rfl, HS, hb⟩ := hrel
    by_cases hkn : k < n
    · obtain ⟨p, o, rfl, _, _⟩ := HX.out.row (by omega)
      have c1 := ((HX.out.below hb).cell (j := k) hkn).1
      have hki : (k : Int) < (n : Int) := by omega
      have HE : Hid (∃ x, xs[k]?.getD 0 = x) := ⟨_, rfl⟩
      obtain ⟨x, hx⟩ : ∃ x, xs[k]?.getD 0 = x := ⟨_, rfl⟩
      rw [hx] at c1
      have HXE := hide hx
      clear hx HE
      by_cases h0 : x = 0
      · have hne : (x != 0) = false := by simp [h0]
        have H0 := hide h0
        clear h0
        go_wp2
        refine ⟨⟨k + 1, by omega, by go_num, fun j hj => ?_, hb⟩, by simp [intOf]; omega⟩
        by_cases e : j = k
        · rw [e, HXE.out, H0.out]
        · exact HS.out j (by omega)
      · have hne : (x != 0) = true := by simp [h0]
        have H0 := hide h0
        clear h0
        go_wp2
        go_ret
        refine ⟨ret_bool (decide_eq_false (fun e => H0.out ?_)).symm, hb⟩
        rw [← HXE.out, e]
        simp [hkn]
    · obtain rfl : k = n := by omega
      go_wp2
      go_ret
      refine ⟨ret_bool (decide_eq_true ?_).symm, hb⟩
      have hn := HN.out
      refine getD_ext (by simp [hn]) (fun j hj => ?_)
      rw [HS.out j (by omega)]
      simp [show j < k by omega]
def evn (xs : List Int) (n : Nat) : List Int := (List.range n).map fun j => xs[j]?.getD 0
theorem evn_length (xs : List Int) (n : Nat) : (evn xs n).length = n := by simp [evn]
theorem evn_getD {xs : List Int} {n j : Nat} (hj : j < n) : (evn xs n)[j]?.getD 0 = xs[j]?.getD 0 := by
  unfold evn
  rw [List.getElem?_map, List.getElem?_range hj]
  rfl
theorem evn_octs {xs : List Int} (h : Octs xs) (n : Nat) : Octs (evn xs n) := fun z hz => by
  obtain ⟨j, _, rfl⟩ := List.mem_map.1 hz
  exact h.getD j
theorem evn_zero (n : Nat) : evn [] n = List.replicate n 0 := by
  refine getD_ext (by rw [evn_length, List.length_replicate]) fun j hj => ?_
  rw [evn_length] at hj
  rw [evn_getD hj]
  simp [hj]
theorem byt_zeros_lit (n : Nat) (w : World) : Byt w.heap.size (w.alloc (.cells (madeCells (Value.int .u8 0).cells (n * 1)) 5)) (.slice (some ⟨w.heap.size, 0, none⟩) n n) (List.replicate n 0) := by
  have hh : (w.alloc (.cells (madeCells (Value.int .u8 0).cells (n * 1)) 5)).heap[w.heap.size]? = some (.cells (madeCells (Value.int .u8 0).cells (n * 1)) 5 (0, 0)) := World.alloc_heap_new w _
  have hl : (List.replicate n (0 : Int)).length = n := List.length_replicate
  refine ⟨fun z hz => by rw [(List.mem_replicate.1 hz).2]; decide, _, _, by rw [hl], by rw [hl]; exact Nat.le_refl _, fun _ => ⟨_, 0, rfl, Nat.le_refl _, by simp, fun j hj => ?_, fun j _ => frozen_of_heap hh _⟩⟩
  rw [hl] at hj
  rw [cell_of_heap hh, Nat.zero_add]
  simp [madeCells, Value.cells, Nat.mod_one, hj]
theorem byt_make (n : Nat) (hn : n ≤ 100000) (t : TypeId) (ht : Try.prog.underlying t = some (.slice 5)) : ∃ Z : Obj, (∀ w : World, (Instr.makeSlice t (.int .i64 n) (.int .i64 n)).run Try.prog w = .ok (.slice (some ⟨w.heap.size, 0, none⟩) n n) (w.alloc Z)) ∧ (∀ w : World, Byt w.heap.size (w.alloc Z) (.slice (some ⟨w.heap.size, 0, none⟩) n n) (List.replicate n 0)) := by
  obtain ⟨i0, hi, hz0, hz1, hz2⟩ := info_parts infoU8
  refine ⟨.cells (madeCells (Value.int .u8 0).cells (n * 1)) 5, fun w => ?_, byt_zeros_lit n⟩
  have := run_make (P := Try.prog) w t 5 i0 (.int .u8 0) ht hi hz0 .i64 .i64 n n (by omega) (Int.le_refl _) (by rw [hz2]; omega) (by omega)
  rw [Int.toNat_natCast, hz1] at this
  exact this
theorem copy_even {lo lo' g n m d : Nat} {a : Option Addr} {xs : List Int} {W : World} (Z : Byt lo W (.slice (some ⟨g, 0, none⟩) n n) (List.replicate n 0)) (X : Byt lo' W (.slice a m d) xs) :
    ∃ k W', (Builtin.copy_ #[22, 22] 3 #[.slice (some ⟨g, 0, none⟩) n n, .slice a m d]).run Try.prog W = .ok k W' ∧ Byt lo W' (.slice (some ⟨g, 0, none⟩) n n) (evn xs n) ∧ Below lo W W' := by
  have hm := X.len.1
  have hq : Nat.min m n = min m n := rfl
  by_cases h0 : Nat.min m n = 0
  · refine ⟨_, _, run_copy_none W 22 22 3 5 _ _ n n m d Try.underlying22 sizeU8 h0, ?_, Below.refl _ _⟩
    have e : evn xs n = List.replicate n 0 := by
      rcases Nat.eq_zero_or_pos n with h | h
      · subst h; rfl
      · have h1 : m = 0 := by omega
        obtain rfl : xs = [] := List.length_eq_zero_iff.1 (by omega)
        exact evn_zero n
    rw [e]
    exact Z
  · have hmn : 0 < m ∧ 0 < n := by omega
    obtain ⟨b, o, rfl, _, _⟩ := X.row hmn.1
    obtain ⟨_, _, e, hlo, hlt⟩ := Z.row hmn.2
    simp only [Option.some.injEq, Addr.mk.injEq] at e
    obtain ⟨rfl, _⟩ := e
    have hcl : ((xs.take n).map (Value.int .u8)).length = Nat.min m n := by rw [List.length_map, List.length_take, ← hm]; exact Nat.min_comm _ _
    have hle : Nat.min m n ≤ n := Nat.min_le_right _ _
    have hisS : ∀ j, j < ((xs.take n).map (Value.int .u8)).length → (W.cell? ⟨g, 0 + j, none⟩).isSome = true := fun j hj => by
      rw [(Z.cell (j := j) (by omega)).1]; rfl
    refine ⟨_, _, run_copy_cells (P := Try.prog) W 22 22 3 5 g 0 n n ⟨b, o, none⟩ m d ((xs.take n).map (Value.int .u8)) Try.underlying22 sizeU8 hcl
      (fun j v hj => ?_) hisS (fun j hj => (Z.cell (j := j) (by omega)).2) (fun v hv => ?_), ?_, ?_⟩
    · rw [List.getElem?_map] at hj
      obtain ⟨z, hz, rfl⟩ := Option.map_eq_some_iff.1 hj
      have hj2 := (List.getElem?_eq_some_iff.1 hz).1
      rw [List.length_take] at hj2
      rw [List.getElem?_take_of_lt (by omega)] at hz
      rw [Addr.add_lit, (X.cell (j := j) (by omega)).1, hz]
      rfl
    · obtain ⟨z, _, rfl⟩ := List.mem_map.1 hv
      rfl
    · refine Byt.of_cells (evn_octs X.words n) (evn_length _ _) (Nat.le_refl _) hlo (Nat.lt_of_lt_of_le hlt ((Turns.refl g W).setCells _ 0).below.size) (fun j hj => ⟨?_, ?_⟩)
      · rw [evn_getD hj]
        by_cases hjm : j < Nat.min m n
        · rw [World.cell?_setCells_in g _ 0 W hisS j (by omega)]
          have hjx : j < xs.length := by have := Nat.min_le_left m n; omega
          simp [List.getElem?_eq_getElem hjx]
        · rw [World.cell?_setCells_out g _ 0 W _ (fun _ _ => by show 0 + j < 0 ∨ 0 + _ ≤ 0 + j; omega), (Z.cell hj).1]
          have hjx : xs.length ≤ j := by omega
          rw [List.getElem?_eq_none hjx]
          simp [hj]
      · rw [World.frozen?_setCells]
        exact (Z.cell hj).2
    · exact ((Turns.refl g W).setCells _ 0).below.mono hlo
set_option maxRecDepth 100000 in
set_option maxHeartbeats 1000000 in
theorem pad_own {lo : Nat} {a : Option Addr} {m d : Nat} {xs : List Int} {w : World} (X : Byt lo w (.slice a m d) xs) (n : Nat) (hn : n ≤ 65535) (hm : m ≤ n) :
    Calls Try.prog 20 #[.slice a m d, .int .i64 n] w fun e w' => ∃ g : Nat, e = .returned (.tuple #[.slice (some ⟨g, 0, none⟩) n n, .int .i64 0]) ∧ Byt w.heap.size w' (.slice (some ⟨g, 0, none⟩) n n) (evn xs n) ∧ Below w.heap.size w w' := by
  obtain ⟨Z, hmk, hmz⟩ := byt_make n (by omega) 22 Try.underlying22
  have hf := few_no n hn w
  have hmi : ¬ (n : Int) < (m : Int) := by omega
  have hb := below_new w Z
  obtain ⟨k, w', hcp, S, B⟩ := copy_even (hmz w) (X.below hb)
  have HCP := hide hcp
  have HS := hide S
  have HB := hide (hb.trans B)
  clear S B hb hcp hmz X
  go_enter Try.func20, Try.ntmps20
  go_wp2_with fail
  refine hf.mono ?_
  rintro e w1 ⟨rfl, hw⟩
  obtain rfl : w = w1 := hw.symm
  clear hf hw
  have hcp := HCP.out
  go_wp2
  refine bodyPost_ret (v := .tuple #[.slice (some ⟨w.heap.size, 0, none⟩) n n, .int .i64 0]) (by simp [results, Try.f20, go_sem]) rfl ?_
  exact ⟨_, rfl, HS.out, HB.out⟩
theorem pad_yes {lo : Nat} {a : Option Addr} {m d : Nat} {xs : List Int} {w : World} (X : Byt lo w (.slice a m d) xs) (n : Nat) (hn : n ≤ 65535) (hm : m ≤ n) :
    Calls Try.prog 20 #[.slice a m d, .int .i64 n] w fun e w' => ∃ (a' : Option Addr) (c' : Nat), e = .returned (.tuple #[.slice a' n c', .int .i64 0]) ∧ Byt w.heap.size w' (.slice a' n c') (evn xs n) ∧ Below w.heap.size w w' := by
  refine (pad_own X n hn hm).mono ?_
  rintro e w' ⟨g, rfl, h1, h2⟩
  exact ⟨_, _, rfl, h1, h2⟩
set_option maxRecDepth 100000 in
theorem pad_long (a : Option Addr) (m d n : Nat) (hn : n ≤ 65535) (hm : n < m) (w : World) :
    Calls Try.prog 20 #[.slice a m d, .int .i64 n] w fun e w' => e = .returned (.tuple #[.slice none 0 0, .int .i64 4]) ∧ w' = w := by
  have hf := few_no n hn w
  have hmi : (n : Int) < (m : Int) := by omega
  go_enter Try.func20, Try.ntmps20
  go_wp2_with fail
  refine hf.mono ?_
  rintro e w1 ⟨rfl, hw⟩
  obtain rfl : w = w1 := hw.symm
  clear hf hw
  go_wp2
  refine bodyPost_ret (v := .tuple #[.slice none 0 0, .int .i64 4]) (by simp [results, Try.f20, go_sem]) rfl ?_
  exact ⟨rfl, rfl⟩
structure BV where
  a : Option Addr
  c : Nat
  zs : List Int
def BV.v (b : BV) : Value := .slice b.a b.zs.length b.c
structure Lists (W : World) (a : Option Addr) (bs : List BV) : Prop where
  row : ∀ (j : Nat) (v : BV), bs[j]? = some v → ∃ g o, a = some ⟨g, o, none⟩ ∧ g < W.heap.size ∧ W.cell? ⟨g, o + j, none⟩ = some (.slice v.a v.zs.length v.c)
  each : ∀ (j : Nat) (v : BV), bs[j]? = some v → Byt 0 W (.slice v.a v.zs.length v.c) v.zs
theorem Lists.below {W W' : World} {a : Option Addr} {bs : List BV} (h : Lists W a bs) (hb : Below W.heap.size W W') : Lists W' a bs :=
  ⟨fun j v hv => by
    obtain ⟨g, o, e, h1, h2⟩ := h.row j v hv
    exact ⟨g, o, e, Nat.lt_of_lt_of_le h1 hb.size, (hb.cell (p := ⟨g, o + j, none⟩) h1).trans h2⟩, fun j v hv => (h.each j v hv).below hb⟩
theorem Lists.nil (W : World) (a : Option Addr) : Lists W a [] := ⟨fun j v h => by simp at h, fun j v h => by simp at h⟩
def sumK (acc : List Int) (bs : List BV) (k : Nat) : List Int := (bs.take k).foldl (fun s b => xl s b.zs) acc
theorem sumK_zero (acc : List Int) (bs : List BV) : sumK acc bs 0 = acc := by simp [sumK]
theorem sumK_succ {acc : List Int} {bs : List BV} {k : Nat} {v : BV} (h : bs[k]? = some v) : sumK acc bs (k + 1) = xl (sumK acc bs k) v.zs := by
  unfold sumK
  rw [List.take_add_one, h, Option.toList_some, List.foldl_append]
  rfl
theorem sumK_length {acc : List Int} {bs : List BV} {n : Nat} (ha : acc.length = n) (hb : ∀ (j : Nat) (v : BV), bs[j]? = some v → v.zs.length = n) : ∀ k, (sumK acc bs k).length = n
  | 0 => by rw [sumK_zero]; exact ha
  | k + 1 => by
    have ih := sumK_length ha hb k
    cases hk : bs[k]? with
    | none =>
      have : bs.take (k + 1) = bs.take k := by rw [List.take_add_one, hk]; simp
      unfold sumK at ih ⊢
      rw [this]; exact ih
    | some v => rw [sumK_succ hk, xl_length (by rw [ih]; exact hb k v hk)]; exact ih
set_option maxRecDepth 100000 in
set_option maxHeartbeats 2000000 in
theorem each_add {w0 w : World} {a p : Option Addr} {cap n c L : Nat} {bs : List BV} {acc : List Int} (R : Lists w0 a bs) (hL : bs.length = L) (hLl : L ≤ 1000000) (h0 : Below w0.heap.size w0 w) (S : Byt w0.heap.size w (.slice p n c) acc) (hn : ∀ (j : Nat) (v : BV), bs[j]? = some v → v.zs.length = n) (hl : n ≤ 1000000) :
    Calls Try.prog 28 #[.func (.func 26) #[.slice p n c] #[], .slice a L cap] w fun e w' => e = .returned (.tuple #[]) ∧ Byt w0.heap.size w' (.slice p n c) (sumK acc bs L) ∧ Below w0.heap.size w0 w' := by
  have hR := hide R
  have hA : acc.length = n := S.len.1.symm
  have HA := hide hA
  have HN := hide hn
  have HL := hide hL
  clear R hA hn hL
  go_enter Try.func28, Try.ntmps28
  go_wp2
  go_loopw [8] (fun i wr => ∃ k : Nat, k ≤ L ∧ i = .int .i64 k ∧ Hid (Byt w0.heap.size wr (.slice p n c) (sumK acc bs k)) ∧ Hid (Below w0.heap.size w0 wr)) (fun i _ => L - (intOf i).toNat)
  case atStart => exact ⟨0, Nat.zero_le _, rfl, (by rw [sumK_zero]; exact S), h0⟩
  case round =>
    obtain ⟨k, hk, rfl, HS, HB⟩ := hrel
    by_cases hkL : k < L
    · obtain ⟨v, hv⟩ : ∃ v, bs[k]? = some v := ⟨_, List.getElem?_eq_getElem (by have := HL.out; omega)⟩
      obtain ⟨g, o, rfl, hg, hc⟩ := (hR.out.below HB.out).row k v hv
      have Y := (hR.out.below HB.out).each k v hv
      have Y0 := hR.out.each k v hv
      have hvn := HN.out k v hv
      rw [hvn] at hc Y Y0
      have hki : (k : Int) < (L : Int) := by omega
      have ha := xadd_any p v.a n c v.c (sumK acc bs k) v.zs wr (sumK_length HA.out HN.out k) hvn hl (fun p' o' q r e1 e2 hn0 => by
        rw [e1] at HS
        rw [e2] at Y0
        obtain ⟨_, _, e, h1, _⟩ := HS.out.row hn0
        obtain ⟨_, _, e', _, h2⟩ := Y0.row hn0
        simp only [Option.some.injEq, Addr.mk.injEq] at e e'
        omega) HS.out Y
      rw [← sumK_succ hv] at ha
      generalize v.a = va at *
      generalize v.c = vc at *
      clear hv hvn Y Y0 HS
      go_wp2_with fail
      refine ha.mono ?_
      rintro e w1 ⟨rfl, S1, O1⟩
      have HS1 := hide S1
      have HB1 := hide (HB.out.trans O1.1)
      clear ha S1 O1
      go_wp2
      exact ⟨⟨k + 1, by omega, by go_num, HS1.out, HB1.out⟩, by simp [intOf]; omega⟩
    · obtain rfl : k = L := by omega
      go_wp2
      go_end0
      exact ⟨rfl, HS.out, HB.out⟩
set_option maxRecDepth 100000 in
set_option maxHeartbeats 2000000 in
theorem all_yes {w : World} {a : Option Addr} {cap L : Nat} {bs : List BV} (R : Lists w a bs) (hL : bs.length = L) (hLl : L ≤ 1000000) (n : Nat) (hn : ∀ (j : Nat) (v : BV), bs[j]? = some v → v.zs.length = n) (hl : n ≤ 65535) :
    Calls Try.prog 18 #[.int .i64 n, .slice a L cap] w fun e w' => ∃ (a' : Option Addr) (c' : Nat), e = .returned (.tuple #[.slice a' n c', .int .i64 0]) ∧ Byt w.heap.size w' (.slice a' n c') (sumK (List.replicate n 0) bs L) ∧ Below w.heap.size w w' := by
  have hmf : ∀ (fn : Fn) (first cap : Array Value) (w : World), (Instr.makeFunc fn first cap).run Try.prog w = .ok (.func fn first cap) w := fun _ _ _ _ => rfl
  have hf := few_no n hl w
  obtain ⟨Z, hmk, hmz⟩ := byt_make n (by omega) 42 Try.underlying42
  have hR := hide R
  have HN := hide hn
  have HL := hide hL
  have HMK := hide hmk
  have HMZ := hide hmz
  have HMF := hide hmf
  clear R hn hL hmk hmz hmf
  go_enter Try.func18, Try.ntmps18
  go_wp2_with fail
  refine hf.mono ?_
  rintro e w1 ⟨rfl, hw⟩
  obtain rfl : w = w1 := hw.symm
  clear hf hw
  go_wp2
  go_loopw [13] (fun i wr => ∃ k : Nat, k ≤ L ∧ i = .int .i64 k ∧ Hid (Below w.heap.size w wr)) (fun i _ => L - (intOf i).toNat)
  case atStart => exact ⟨0, Nat.zero_le _, rfl, Below.refl _ _⟩
  case round =>
    obtain ⟨k, hk, rfl, HB⟩ := hrel
    by_cases hkL : k < L
    · obtain ⟨v, hv⟩ : ∃ v, bs[k]? = some v := ⟨_, List.getElem?_eq_getElem (by have := HL.out; omega)⟩
      obtain ⟨g, o, rfl, hg, hc⟩ := (hR.out.below HB.out).row k v hv
      rw [HN.out k v hv] at hc
      have hki : (k : Int) < (L : Int) := by omega
      have hne : ((n : Int) != (n : Int)) = false := by simp
      generalize v.a = va at *
      generalize v.c = vc at *
      clear hv
      go_wp2
      exact ⟨⟨k + 1, by omega, by go_num, HB.out⟩, by simp [intOf]; omega⟩
    · obtain rfl : k = L := by omega
      have hmk := HMK.out
      have hmf := HMF.out
      have hz := HMZ.out wr
      have hb1 := below_new wr Z
      have hE := each_add (cap := cap) (p := some ⟨wr.heap.size, 0, none⟩) (c := n) (hR.out.below HB.out) HL.out hLl (Below.refl _ _ |>.alloc (Nat.le_refl _) Z) hz HN.out (by omega)
      clear hz hb1
      go_wp2_with fail
      refine hE.mono ?_
      rintro e w2 ⟨rfl, S2, B2⟩
      have HS2 := hide (S2.mono HB.out.size)
      have HB2 := hide (HB.out.trans (B2.mono HB.out.size))
      clear hE S2 B2 hmk hmf
      go_wp2
      refine bodyPost_ret (v := .tuple #[.slice (some ⟨wr.heap.size, 0, none⟩) n n, .int .i64 0]) (by simp [results, Try.f18, go_sem]) rfl ?_
      exact ⟨_, _, rfl, HS2.out, HB2.out⟩
set_option maxRecDepth 100000 in
set_option maxHeartbeats 2000000 in
theorem all_arg {w : World} {a : Option Addr} {cap L : Nat} {bs : List BV} (R : Lists w a bs) (hL : bs.length = L) (hLl : L ≤ 1000000) (n : Nat) (hn : ∃ (j : Nat) (v : BV), bs[j]? = some v ∧ v.zs.length ≠ n) (hl : n ≤ 65535) :
    Calls Try.prog 18 #[.int .i64 n, .slice a L cap] w fun e w' => e = .returned (.tuple #[.slice none 0 0, .int .i64 2]) ∧ Below w.heap.size w w' := by
  have hf := few_no n hl w
  have hR := hide R
  have HN := hide hn
  have HL := hide hL
  clear R hn hL
  go_enter Try.func18, Try.ntmps18
  go_wp2_with fail
  refine hf.mono ?_
  rintro e w1 ⟨rfl, hw⟩
  obtain rfl : w = w1 := hw.symm
  clear hf hw
  go_wp2
  go_loopw [13] (fun i wr => ∃ k : Nat, k ≤ L ∧ i = .int .i64 k ∧ Hid (∀ (j : Nat) (v : BV), j < k → bs[j]? = some v → v.zs.length = n) ∧ Hid (Below w.heap.size w wr)) (fun i _ => L - (intOf i).toNat)
  case atStart => exact ⟨0, Nat.zero_le _, rfl, (fun j v hj => by omega), Below.refl _ _⟩
  case round =>
    obtain ⟨k, hk, rfl, HS, HB⟩ := hrel
    by_cases hkL : k < L
    · obtain ⟨v, hv⟩ : ∃ v, bs[k]? = some v := ⟨_, List.getElem?_eq_getElem (by have := HL.out; omega)⟩
      obtain ⟨g, o, rfl, hg, hc⟩ := (hR.out.below HB.out).row k v hv
      have hki : (k : Int) < (L : Int) := by omega
      obtain ⟨vn, hvn⟩ : ∃ vn, v.zs.length = vn := ⟨_, rfl⟩
      have HV : Hid (∀ v', bs[k]? = some v' → v'.zs.length = vn) := fun v' h' => by rw [hv] at h'; rw [← Option.some.inj h']; exact hvn
      rw [hvn] at hc
      generalize v.a = va at *
      generalize v.c = vc at *
      clear hv hvn
      by_cases he : vn = n
      · have hne : ((vn : Int) != (n : Int)) = false := by simp [he]
        have HE := hide he
        clear he
        go_wp2
        refine ⟨⟨k + 1, by omega, by go_num, (fun j v' hj h' => ?_), HB.out⟩, by simp [intOf]; omega⟩
        by_cases e : j = k
        · subst e; rw [HV.out v' h']; exact HE.out
        · exact HS.out j v' (by omega) h'
      · have hne : ((vn : Int) != (n : Int)) = true := by simp; omega
        clear he
        go_wp2
        refine bodyPost_ret (v := .tuple #[.slice none 0 0, .int .i64 2]) (by simp [results, Try.f18, go_sem]) rfl ?_
        exact ⟨rfl, HB.out⟩
    · exfalso
      obtain ⟨j, v, hv, hne⟩ := HN.out
      have := (List.getElem?_eq_some_iff.1 hv).1
      exact hne (HS.out j v (by have := HL.out; omega) hv)
set_option maxRecDepth 100000 in
theorem all_range (a : Option Addr) (L cap : Nat) (n : Int) (hn : n < 0 ∨ 65535 < n) (w : World) :
    Calls Try.prog 18 #[.int .i64 n, .slice a L cap] w fun e w' => e = .returned (.tuple #[.slice none 0 0, .int .i64 3]) ∧ w' = w := by
  have hf := few_yes n hn w
  clear hn
  go_enter Try.func18, Try.ntmps18
  go_wp2_with fail
  refine hf.mono ?_
  rintro e w1 ⟨rfl, hw⟩
  obtain rfl : w = w1 := hw.symm
  clear hf hw
  go_wp2
  refine bodyPost_ret (v := .tuple #[.slice none 0 0, .int .i64 3]) (by simp [results, Try.f18, go_sem]) rfl ?_
  exact ⟨rfl, rfl⟩
end Go.Proofs.Ytekjjlmhdkhmjaa
namespace Go.Proofs.Ytekjjlmhdkhmjaa
open Go.RowKit
end Go.Proofs.Ytekjjlmhdkhmjaa
namespace Go.Proofs.Ytekjjlmhdkhmjaa
open Go.RowKit
theorem octs_of {zs : List Int} (h : (zs.all fun z => decide (0 ≤ z) && decide (z < 256)) = true) : Octs zs := fun z hz => by
  have := List.all_eq_true.1 h z hz
  simp only [Bool.and_eq_true, decide_eq_true_eq] at this
  exact this
theorem byt_lit (W : World) (g n : Nat) (hg : W.heap.size = g) (zs : List Int) (hz : Octs zs) (hn : zs.length = n) (cs : Array Value) (hc : cs = (zs.map (Value.int .u8)).toArray) :
    Byt g (W.alloc (.cells cs 5)) (.slice (some ⟨g, 0, none⟩) n n) zs := by
  subst hc hg hn
  refine ⟨hz, _, _, rfl, Nat.le_refl _, fun _ => ⟨_, 0, rfl, Nat.le_refl _, by simp, fun j hj => ?_, fun j _ => frozen_of_heap (World.alloc_heap_new W _) _⟩⟩
  rw [cell_of_heap (World.alloc_heap_new W _), Nat.zero_add]
  simp [hj]
theorem Lists.lit (W : World) (g : Nat) (hg : W.heap.size = g) (bs : List BV) (hb : ∀ (j : Nat) (v : BV), bs[j]? = some v → Byt 0 W (.slice v.a v.zs.length v.c) v.zs) (cs : Array Value) (hc : cs = (bs.map BV.v).toArray) :
    Lists (W.alloc (.cells cs 22)) (some ⟨g, 0, none⟩) bs := by
  subst hc hg
  refine ⟨fun j v hv => ⟨_, 0, rfl, by simp, ?_⟩, fun j v hv => (hb j v hv).below (below_new W _)⟩
  rw [cell_of_heap (World.alloc_heap_new W _), Nat.zero_add]
  simp [hv, BV.v]
theorem sameb_yes {lo lo' : Nat} {a b : Option Addr} {la ca lb cb : Nat} {xs ys : List Int} {w : World} (ha : Byt lo w (.slice a la ca) xs) (hb : Byt lo' w (.slice b lb cb) ys) (h : xs = ys) :
    Calls Try.prog 13 #[.slice a la ca, .slice b lb cb] w fun e w' => e = .returned (.bool true) ∧ Below w.heap.size w w' := by
  refine (sameb_any ha hb).mono ?_
  rintro e w' ⟨rfl, h2⟩
  exact ⟨by rw [decide_eq_true h], h2⟩
set_option maxRecDepth 100000 in
set_option maxHeartbeats 1000000 in
theorem sums_yes {lo : Nat} {w : World} {a b : Option Addr} {cap L n c : Nat} {bs : List BV} {zs : List Int} (R : Lists w a bs) (hL : bs.length = L) (hLl : L ≤ 1000000) (hn : ∀ (j : Nat) (v : BV), bs[j]? = some v → v.zs.length = n) (hl : n ≤ 65535) (Z : Byt lo w (.slice b n c) zs) (hz : zs = sumK (List.replicate n 0) bs L) :
    Calls Try.prog 22 #[.int .i64 n, .slice b n c, .slice a L cap] w fun e w' => e = .returned (.bool true) ∧ Below w.heap.size w w' := by
  have hall := all_yes (cap := cap) R hL hLl n hn hl
  rw [← hz] at hall
  have HZ := hide Z
  clear R hL hn Z hz
  go_enter Try.func22, Try.ntmps22
  go_wp2_with fail
  refine hall.mono ?_
  rintro e w1 ⟨a1, c1, rfl, S1, B1⟩
  have hs := sameb_yes S1 (HZ.out.below B1) rfl
  clear hall S1
  go_wp2_with fail
  refine hs.mono ?_
  rintro e w2 ⟨rfl, B2⟩
  have HB := hide (B1.trans (B2.mono B1.size))
  clear hs
  go_wp2
  go_ret
  exact ⟨rfl, HB.out⟩
set_option maxRecDepth 100000 in
set_option maxHeartbeats 1000000 in
theorem xawake_any (w : World) : Calls Try.prog 9 #[] w fun e w' => e = .returned (.bool true) ∧ Below w.heap.size w w' := by
  have b1 := below_new w (.cells #[.int .u8 1, .int .u8 2, .int .u8 3] 5)
  have b2 := below_new (w.alloc (.cells #[.int .u8 1, .int .u8 2, .int .u8 3] 5)) (.cells #[.int .u8 3, .int .u8 2, .int .u8 1] 5)
  have X := (byt_lit w w.heap.size 3 rfl [1, 2, 3] (octs_of rfl) rfl #[.int .u8 1, .int .u8 2, .int .u8 3] rfl).below b2
  have Y := byt_lit (w.alloc (.cells #[.int .u8 1, .int .u8 2, .int .u8 3] 5)) (w.heap.size + 1) 3 (by simp) [3, 2, 1] (octs_of rfl) rfl #[.int .u8 3, .int .u8 2, .int .u8 1] rfl
  have hx := xor_yes X Y (by omega)
  rw [show xl [1, 2, 3] [3, 2, 1] = [2, 0, 2] by decide] at hx
  have B := hide (b1.trans (b2.mono b1.size))
  clear X Y b1 b2
  go_enter Try.func9, Try.ntmps9
  go_wp2_with fail
  refine hx.mono ?_
  rintro e w1 ⟨a1, c1, rfl, S1, B1⟩
  have B01 := B.out.trans (B1.mono B.out.size)
  have b3 := below_new w1 (.cells #[.int .u8 2, .int .u8 0, .int .u8 2] 5)
  have hs := sameb_yes (S1.below b3) (byt_lit w1 w1.heap.size 3 rfl [2, 0, 2] (octs_of rfl) rfl #[.int .u8 2, .int .u8 0, .int .u8 2] rfl) rfl
  have HB3 := hide (B01.trans (b3.mono B01.size))
  clear hx S1 B1 b3 B B01
  go_wp2_with fail
  refine hs.mono ?_
  rintro e w2 ⟨rfl, B2⟩
  have HB2 := hide (HB3.out.trans (B2.mono HB3.out.size))
  clear hs B2 HB3
  have q1 := below_new w2 (.cells #[.int .u8 4, .int .u8 6] 5)
  have y1 := byt_lit w2 (w2.heap.size) 2 rfl [4, 6] (octs_of rfl) rfl #[.int .u8 4, .int .u8 6] rfl
  obtain ⟨u1, hu1⟩ : ∃ u, w2.alloc (.cells #[.int .u8 4, .int .u8 6] 5) = u := ⟨_, rfl⟩
  have e1 : u1.heap.size = w2.heap.size + 1 := by rw [← hu1, World.size_alloc]
  rw [hu1] at q1 y1
  have q2 := below_new u1 (.cells #[.int .u8 1, .int .u8 2] 5)
  have y2 := byt_lit u1 (w2.heap.size + 1) 2 e1 [1, 2] (octs_of rfl) rfl #[.int .u8 1, .int .u8 2] rfl
  obtain ⟨u2, hu2⟩ : ∃ u, u1.alloc (.cells #[.int .u8 1, .int .u8 2] 5) = u := ⟨_, rfl⟩
  have e2 : u2.heap.size = w2.heap.size + 2 := by rw [← hu2, World.size_alloc]; omega
  rw [hu2] at q2 y2
  have q3 := below_new u2 (.cells #[.int .u8 4, .int .u8 4] 5)
  have y3 := byt_lit u2 (w2.heap.size + 2) 2 e2 [4, 4] (octs_of rfl) rfl #[.int .u8 4, .int .u8 4] rfl
  obtain ⟨u3, hu3⟩ : ∃ u, u2.alloc (.cells #[.int .u8 4, .int .u8 4] 5) = u := ⟨_, rfl⟩
  have e3 : u3.heap.size = w2.heap.size + 3 := by rw [← hu3, World.size_alloc]; omega
  rw [hu3] at q3 y3
  have q4 := below_new u3 (.cells #[.int .u8 1, .int .u8 0] 5)
  have y4 := byt_lit u3 (w2.heap.size + 3) 2 e3 [1, 0] (octs_of rfl) rfl #[.int .u8 1, .int .u8 0] rfl
  obtain ⟨u4, hu4⟩ : ∃ u, u3.alloc (.cells #[.int .u8 1, .int .u8 0] 5) = u := ⟨_, rfl⟩
  have e4 : u4.heap.size = w2.heap.size + 4 := by rw [← hu4, World.size_alloc]; omega
  rw [hu4] at q4 y4
  have q5 := below_new u4 (.cells #[.slice (some ⟨w2.heap.size + 1, 0, none⟩) 2 2, .slice (some ⟨w2.heap.size + 2, 0, none⟩) 2 2, .slice (some ⟨w2.heap.size + 3, 0, none⟩) 2 2] 22)
  have R := Lists.lit u4 (w2.heap.size + 4) e4 [⟨some ⟨w2.heap.size + 1, 0, none⟩, 2, [1, 2]⟩, ⟨some ⟨w2.heap.size + 2, 0, none⟩, 2, [4, 4]⟩, ⟨some ⟨w2.heap.size + 3, 0, none⟩, 2, [1, 0]⟩] (fun j v hv => by
    match j with
    | 0 => obtain rfl := Option.some.inj hv; exact (y2.mono (Nat.zero_le _)).below (q3.trans (q4.mono q3.size))
    | 1 => obtain rfl := Option.some.inj hv; exact (y3.mono (Nat.zero_le _)).below q4
    | 2 => obtain rfl := Option.some.inj hv; exact y4.mono (Nat.zero_le _)
    | j + 3 => simp at hv) #[.slice (some ⟨w2.heap.size + 1, 0, none⟩) 2 2, .slice (some ⟨w2.heap.size + 2, 0, none⟩) 2 2, .slice (some ⟨w2.heap.size + 3, 0, none⟩) 2 2] rfl
  have b24 := q2.trans ((q3.trans (q4.mono q3.size)).mono q2.size)
  have b25 := b24.trans (q5.mono b24.size)
  have b15 := q1.trans (b25.mono q1.size)
  have HB5 := hide (HB2.out.trans (b15.mono HB2.out.size))
  have hsu := sums_yes (cap := 3) (L := 3) R rfl (by omega) (n := 2) (fun j v hv => by
    match j with
    | 0 => obtain rfl := Option.some.inj hv; rfl
    | 1 => obtain rfl := Option.some.inj hv; rfl
    | 2 => obtain rfl := Option.some.inj hv; rfl
    | j + 3 => simp at hv) (by omega) (y1.below b25) (by kernel_rfl)
  rw [← hu4, ← hu3, ← hu2, ← hu1] at hsu HB5
  clear R y1 y2 y3 y4 q1 q2 q3 q4 q5 b24 b25 b15 e1 e2 e3 e4 hu1 hu2 hu3 hu4 HB2
  go_wp2_with fail
  refine hsu.mono ?_
  rintro e w3 ⟨rfl, B3⟩
  have HB6 := hide (HB5.out.trans (B3.mono HB5.out.size))
  clear hsu B3 HB5
  go_wp2
  go_ret
  exact ⟨rfl, HB6.out⟩
theorem Calls.still {f : FuncId} {args : Array Value} {w : World} {v : Ending} (h : Calls Try.prog f args w fun e w' => e = v ∧ w' = w) : Calls Try.prog f args w fun e w' => e = v ∧ Below w.heap.size w w' := by
  refine h.mono ?_
  rintro e w' ⟨h1, rfl⟩
  exact ⟨h1, Below.refl _ _⟩
set_option maxRecDepth 100000 in
set_option maxHeartbeats 4000000 in
theorem xknown_any (w : World) : Calls Try.prog 5 #[] w fun e w' => e = .returned (.bool true) ∧ Below w.heap.size w w' := by
  have HB0 := hide (Below.refl w.heap.size w)
  have q1 := below_new w (.cells #[.int .u8 1] 5)
  have y1 := byt_lit w (w.heap.size) 1 rfl [1] (octs_of rfl) rfl #[.int .u8 1] rfl
  obtain ⟨u1, hu1⟩ : ∃ u, w.alloc (.cells #[.int .u8 1] 5) = u := ⟨_, rfl⟩
  have e1 : u1.heap.size = w.heap.size + 1 := by rw [← hu1, World.size_alloc]
  rw [hu1] at q1 y1
  replace HB0 := hide (HB0.out.trans (q1.mono HB0.out.size))
  have q2 := below_new u1 (.cells #[.int .u8 1, .int .u8 2] 5)
  have y2 := byt_lit u1 (w.heap.size + 1) 2 e1 [1, 2] (octs_of rfl) rfl #[.int .u8 1, .int .u8 2] rfl
  obtain ⟨u2, hu2⟩ : ∃ u, u1.alloc (.cells #[.int .u8 1, .int .u8 2] 5) = u := ⟨_, rfl⟩
  have e2 : u2.heap.size = w.heap.size + 2 := by rw [← hu2, World.size_alloc]; omega
  rw [hu2] at q2 y2
  replace y1 := y1.below q2
  replace HB0 := hide (HB0.out.trans (q2.mono HB0.out.size))
  have hc3 := Calls.still (xor_no (some ⟨w.heap.size, 0, none⟩) (some ⟨w.heap.size + 1, 0, none⟩) 1 2 1 2 u2 (by omega))
  rw [← hu2, ← hu1] at hc3
  rw [← hu2, ← hu1] at HB0
  clear y1 q1  y2 q2 
  clear e1 e2
  clear hu1 hu2
  go_enter Try.func5, Try.ntmps5
  go_wp2_with fail
  refine hc3.mono ?_
  rintro e w4 ⟨rfl, b5⟩
  have HB6 := hide (HB0.out.trans (b5.mono HB0.out.size))
  clear hc3 b5 HB0
  have q7 := below_new w4 (.cells #[.int .u8 1, .int .u8 2] 5)
  have y7 := byt_lit w4 (w4.heap.size) 2 rfl [1, 2] (octs_of rfl) rfl #[.int .u8 1, .int .u8 2] rfl
  obtain ⟨u7, hu7⟩ : ∃ u, w4.alloc (.cells #[.int .u8 1, .int .u8 2] 5) = u := ⟨_, rfl⟩
  have e7 : u7.heap.size = w4.heap.size + 1 := by rw [← hu7, World.size_alloc]
  rw [hu7] at q7 y7
  replace HB6 := hide (HB6.out.trans (q7.mono HB6.out.size))
  have q8 := below_new u7 (.cells #[.slice (some ⟨w4.heap.size, 0, none⟩) 2 2] 22)
  have y8 := Lists.lit u7 (w4.heap.size + 1) e7 [⟨some ⟨w4.heap.size, 0, none⟩, 2, [1, 2]⟩] (fun j v hv => by
    match j with
    | 0 => obtain rfl := Option.some.inj hv; exact y7.mono (Nat.zero_le _)
    | j + 1 => simp at hv) #[.slice (some ⟨w4.heap.size, 0, none⟩) 2 2] rfl
  obtain ⟨u8, hu8⟩ : ∃ u, u7.alloc (.cells #[.slice (some ⟨w4.heap.size, 0, none⟩) 2 2] 22) = u := ⟨_, rfl⟩
  have e8 : u8.heap.size = w4.heap.size + 2 := by rw [← hu8, World.size_alloc]; omega
  rw [hu8] at q8 y8
  replace y7 := y7.below q8
  replace HB6 := hide (HB6.out.trans (q8.mono HB6.out.size))
  have hc9 := all_arg (cap := 1) (L := 1) y8 rfl (by omega) 1 ⟨0, _, rfl, by simp⟩ (by omega)
  rw [← hu8, ← hu7] at hc9
  rw [← hu8, ← hu7] at HB6
  clear y7 q7  y8 q8 
  clear e7 e8
  clear hu7 hu8
  go_wp2_with fail
  refine hc9.mono ?_
  rintro e w10 ⟨rfl, b11⟩
  have HB12 := hide (HB6.out.trans (b11.mono HB6.out.size))
  clear hc9 b11 HB6
  have hc13 := Calls.still (all_range none 0 0 65536 (by omega) w10)
  go_wp2_with fail
  refine hc13.mono ?_
  rintro e w14 ⟨rfl, b15⟩
  have HB16 := hide (HB12.out.trans (b15.mono HB12.out.size))
  clear hc13 b15 HB12
  have q17 := below_new w14 (.cells #[.int .u8 7] 5)
  have y17 := byt_lit w14 (w14.heap.size) 1 rfl [7] (octs_of rfl) rfl #[.int .u8 7] rfl
  obtain ⟨u17, hu17⟩ : ∃ u, w14.alloc (.cells #[.int .u8 7] 5) = u := ⟨_, rfl⟩
  have e17 : u17.heap.size = w14.heap.size + 1 := by rw [← hu17, World.size_alloc]
  rw [hu17] at q17 y17
  replace HB16 := hide (HB16.out.trans (q17.mono HB16.out.size))
  have hc18 := pad_yes y17 3 (by omega) (by omega)
  rw [← hu17] at hc18
  rw [← hu17] at HB16
  clear y17 q17 
  clear e17
  clear hu17
  go_wp2_with fail
  refine hc18.mono ?_
  rintro e w19 ⟨a1, c1, rfl, S1, b20⟩
  have HB21 := hide (HB16.out.trans (b20.mono HB16.out.size))
  clear hc18 b20 HB16
  have E1 : evn [7] 3 = [7, 0, 0] := by kernel_rfl
  rw [E1] at S1
  clear E1
  have q22 := below_new w19 (.cells #[.int .u8 7, .int .u8 8] 5)
  have y22 := byt_lit w19 (w19.heap.size) 2 rfl [7, 8] (octs_of rfl) rfl #[.int .u8 7, .int .u8 8] rfl
  obtain ⟨u22, hu22⟩ : ∃ u, w19.alloc (.cells #[.int .u8 7, .int .u8 8] 5) = u := ⟨_, rfl⟩
  have e22 : u22.heap.size = w19.heap.size + 1 := by rw [← hu22, World.size_alloc]
  rw [hu22] at q22 y22
  replace S1 := S1.below q22
  replace HB21 := hide (HB21.out.trans (q22.mono HB21.out.size))
  have hc23 := Calls.still (pad_long (some ⟨w19.heap.size, 0, none⟩) 2 2 1 (by omega) (by omega) u22)
  rw [← hu22] at hc23
  rw [← hu22] at HB21
  rw [← hu22] at S1
  clear y22 q22 
  clear e22
  clear hu22
  go_wp2_with fail
  refine hc23.mono ?_
  rintro e w24 ⟨rfl, b25⟩
  have HB26 := hide (HB21.out.trans (b25.mono HB21.out.size))
  replace S1 := S1.below b25
  clear hc23 b25 HB21
  have hc27 := xawake_any w24
  go_wp2_with fail
  refine hc27.mono ?_
  rintro e w28 ⟨rfl, b29⟩
  have HB30 := hide (HB26.out.trans (b29.mono HB26.out.size))
  replace S1 := S1.below b29
  clear hc27 b29 HB26
  have q31 := below_new w28 (.cells #[.int .u8 0, .int .u8 0, .int .u8 0] 5)
  have y31 := byt_lit w28 (w28.heap.size) 3 rfl [0, 0, 0] (octs_of rfl) rfl #[.int .u8 0, .int .u8 0, .int .u8 0] rfl
  obtain ⟨u31, hu31⟩ : ∃ u, w28.alloc (.cells #[.int .u8 0, .int .u8 0, .int .u8 0] 5) = u := ⟨_, rfl⟩
  have e31 : u31.heap.size = w28.heap.size + 1 := by rw [← hu31, World.size_alloc]
  rw [hu31] at q31 y31
  replace S1 := S1.below q31
  replace HB30 := hide (HB30.out.trans (q31.mono HB30.out.size))
  have hc32 := sums_yes (cap := 0) (a := none) (L := 0) (n := 3) (bs := []) (Lists.nil _ _) rfl (by omega) (fun j v hv => by simp at hv) (by omega) y31 (by kernel_rfl)
  rw [← hu31] at hc32
  rw [← hu31] at HB30
  rw [← hu31] at S1
  clear y31 q31 
  clear e31
  clear hu31
  go_wp2_with fail
  refine hc32.mono ?_
  rintro e w33 ⟨rfl, b34⟩
  have HB35 := hide (HB30.out.trans (b34.mono HB30.out.size))
  replace S1 := S1.below b34
  clear hc32 b34 HB30
  have q36 := below_new w33 (.cells #[.int .u8 7, .int .u8 0, .int .u8 0] 5)
  have y36 := byt_lit w33 (w33.heap.size) 3 rfl [7, 0, 0] (octs_of rfl) rfl #[.int .u8 7, .int .u8 0, .int .u8 0] rfl
  obtain ⟨u36, hu36⟩ : ∃ u, w33.alloc (.cells #[.int .u8 7, .int .u8 0, .int .u8 0] 5) = u := ⟨_, rfl⟩
  have e36 : u36.heap.size = w33.heap.size + 1 := by rw [← hu36, World.size_alloc]
  rw [hu36] at q36 y36
  replace S1 := S1.below q36
  replace HB35 := hide (HB35.out.trans (q36.mono HB35.out.size))
  have hc37 := sameb_yes S1 y36 rfl
  rw [← hu36] at hc37
  rw [← hu36] at HB35
  rw [← hu36] at S1
  clear y36 q36 
  clear e36
  clear hu36
  go_wp2_with fail
  refine hc37.mono ?_
  rintro e w38 ⟨rfl, b39⟩
  have HB40 := hide (HB35.out.trans (b39.mono HB35.out.size))
  replace S1 := S1.below b39
  clear hc37 b39 HB35
  clear S1
  have q41 := below_new w38 (.cells #[.int .u8 0, .int .u8 0] 5)
  have y41 := byt_lit w38 (w38.heap.size) 2 rfl [0, 0] (octs_of rfl) rfl #[.int .u8 0, .int .u8 0] rfl
  obtain ⟨u41, hu41⟩ : ∃ u, w38.alloc (.cells #[.int .u8 0, .int .u8 0] 5) = u := ⟨_, rfl⟩
  have e41 : u41.heap.size = w38.heap.size + 1 := by rw [← hu41, World.size_alloc]
  rw [hu41] at q41 y41
  replace HB40 := hide (HB40.out.trans (q41.mono HB40.out.size))
  have hc42 := zero_any y41 (by omega)
  rw [← hu41] at hc42
  rw [← hu41] at HB40
  clear y41 q41 
  clear e41
  clear hu41
  go_wp2_with fail
  refine hc42.mono ?_
  rintro e w43 ⟨rfl, b44⟩
  have HB45 := hide (HB40.out.trans (b44.mono HB40.out.size))
  clear hc42 b44 HB40
  have q46 := below_new w43 (.cells #[.int .u8 0, .int .u8 1] 5)
  have y46 := byt_lit w43 (w43.heap.size) 2 rfl [0, 1] (octs_of rfl) rfl #[.int .u8 0, .int .u8 1] rfl
  obtain ⟨u46, hu46⟩ : ∃ u, w43.alloc (.cells #[.int .u8 0, .int .u8 1] 5) = u := ⟨_, rfl⟩
  have e46 : u46.heap.size = w43.heap.size + 1 := by rw [← hu46, World.size_alloc]
  rw [hu46] at q46 y46
  replace HB45 := hide (HB45.out.trans (q46.mono HB45.out.size))
  have hc47 := zero_any y46 (by omega)
  rw [← hu46] at hc47
  rw [← hu46] at HB45
  clear y46 q46 
  clear e46
  clear hu46
  go_wp2_with fail
  refine hc47.mono ?_
  rintro e w48 ⟨rfl, b49⟩
  have HB50 := hide (HB45.out.trans (b49.mono HB45.out.size))
  clear hc47 b49 HB45
  have hc51 := zero_any (lo := 0) (a := none) (n := 0) (c := 0) (xs := []) (Byt.nil 0 w48) (by omega)
  go_wp2_with fail
  refine hc51.mono ?_
  rintro e w52 ⟨rfl, b53⟩
  have HB54 := hide (HB50.out.trans (b53.mono HB50.out.size))
  clear hc51 b53 HB50
  go_wp2
  go_ret
  exact ⟨rfl, HB54.out⟩
theorem OwnB.below {lo : Nat} {W W' : World} {v : Value} {zs : List Int} (h : OwnB lo W v zs) (hb : Below W.heap.size W W') : OwnB lo W' v zs := by
  obtain ⟨⟨h1, h2⟩, hw⟩ := h
  refine ⟨⟨h1, ?_⟩, hw⟩
  rcases h2 with ⟨e, h0⟩ | ⟨g, cap, cur, e, hg, hh, hc, hm, hs, ht⟩
  · exact .inl ⟨e, h0⟩
  · exact .inr ⟨g, cap, cur, e, hg, (hb.block g (Array.getElem?_eq_some_iff.1 hh).1).trans hh, hc, hm, hs, ht⟩
theorem Byt.behind {lo R n k cap : Nat} {W W' : World} {xs ys : List Int} (h : Byt lo W (.slice (some ⟨R, 0, none⟩) (n + k) cap) (xs ++ ys)) (hx : xs.length = n) (hw : Wrote R 0 n W W') : Byt lo W' (.slice (some ⟨R, 0 + n, none⟩) k (cap - n)) ys := by
  have hl := h.len
  rw [List.length_append, hx] at hl
  by_cases h0 : k = 0
  · subst h0
    obtain rfl : ys = [] := List.length_eq_zero_iff.1 (by omega)
    exact Byt.empty _ _ _ _
  · obtain ⟨_, _, e, h1, h2⟩ := h.row (by omega)
    simp only [Option.some.injEq, Addr.mk.injEq] at e
    obtain ⟨rfl, _⟩ := e
    refine Byt.of_cells (fun z hz => h.words z (List.mem_append_right _ hz)) (by omega) (by omega) h1 (Nat.lt_of_lt_of_le h2 hw.turns.below.size) (fun j hj => ?_)
    have hc := h.cell (j := n + j) (by omega)
    have hk := hw.cells (0 + n + j) (by omega)
    rw [show 0 + (n + j) = 0 + n + j by omega] at hc
    rw [List.getElem?_append_right (by omega), show n + j - xs.length = j by omega] at hc
    exact ⟨hk.1.trans hc.1, hk.2.trans hc.2⟩
theorem into_room {lo lo' R : Nat} {b : Option Addr} {n c d : Nat} {xs ys : List Int} {w : World} (X : Byt lo w (.slice (some ⟨R, 0, none⟩) n c) xs) (Y : Byt lo' w (.slice b n d) ys) (hl : n ≤ 1000000) (hR : R < w.heap.size) :
    Calls Try.prog 17 #[.slice (some ⟨R, 0, none⟩) n c, .slice b n d] w fun e w' => e = .returned (.int .i64 0) ∧ Byt lo w' (.slice (some ⟨R, 0, none⟩) n c) (xl xs ys) ∧ Wrote R 0 n w w' := by
  refine (into_yes X Y hl).mono ?_
  rintro e w' ⟨rfl, h1, _, h3, h4⟩
  refine ⟨rfl, h1, ?_⟩
  by_cases h0 : n = 0
  · subst h0
    exact Wrote.of_below hR (h4 rfl)
  · exact h3 R 0 (by omega) rfl
theorem byt_keep {lo : Nat} {W W' : World} {g o n c : Nat} {zs : List Int} (h : Byt lo W (.slice (some ⟨g, o, none⟩) n c) zs) (hk : g < W.heap.size → W'.heap[g]? = W.heap[g]?) (hs : W.heap.size ≤ W'.heap.size) : Byt lo W' (.slice (some ⟨g, o, none⟩) n c) zs := by
  obtain ⟨hw, a', cap', e, h1, h3⟩ := h
  simp only [Value.slice.injEq] at e
  obtain ⟨rfl, e2, rfl⟩ := e
  refine ⟨hw, _, _, by rw [e2], h1, fun hz => ?_⟩
  obtain ⟨b, off, e1, e2, e3, e4, e5⟩ := h3 hz
  simp only [Option.some.injEq, Addr.mk.injEq] at e1
  obtain ⟨rfl, rfl, _⟩ := e1
  have hb := hk e3
  exact ⟨g, o, rfl, e2, by omega, fun j hj => (World.cell?_of_block (a := ⟨g, o + j, none⟩) hb).trans (e4 j hj), fun j hj => (World.frozen?_of_block (a := ⟨g, o + j, none⟩) hb).trans (e5 j hj)⟩
def OwnL (lo : Nat) (W : World) (v : Value) (bs : List BV) : Prop := W.ownsRow lo 22 1 v bs.length (bs.map BV.v)
theorem infoByts : (Try.prog.info? 22).map (fun i => (i.zero, i.size, i.bytes)) = some (some (.slice none 0 0), 1, 24) := by kernel_rfl
theorem ownl_nil (lo : Nat) (W : World) : OwnL lo W (.slice none 0 0) [] := World.ownsRow_nil W lo _ _
theorem OwnL.lt {lo : Nat} {W : World} {v : Value} {bs : List BV} (h : OwnL lo W v bs) : ∀ k, v.ownBlock = some k → lo ≤ k ∧ k < W.heap.size := World.ownsRow.lt h
theorem OwnL.keep {lo : Nat} {W W' : World} {v : Value} {bs : List BV} (h : OwnL lo W v bs) (hk : ∀ k, v.ownBlock = some k → W'.heap[k]? = W.heap[k]?) : OwnL lo W' v bs := by
  obtain ⟨h1, h2⟩ := h
  refine ⟨h1, ?_⟩
  rcases h2 with ⟨e, h0⟩ | ⟨g, cap, cur, e, hg, hh, hc, hm, hs, ht⟩
  · exact .inl ⟨e, h0⟩
  · exact .inr ⟨g, cap, cur, e, hg, (hk g (by rw [e]; rfl)).trans hh, hc, hm, hs, ht⟩
theorem OwnL.below {lo : Nat} {W W' : World} {v : Value} {bs : List BV} (h : OwnL lo W v bs) (hb : Below W.heap.size W W') : OwnL lo W' v bs := h.keep fun k hk => hb.block k (h.lt k hk).2
theorem ownl_lit {lo : Nat} (W : World) (hlo : lo ≤ W.heap.size) (bs : List BV) (n : Nat) (hn : bs.length = n) (h0 : n ≤ 1000) (cs : Array Value) (hc : cs = (bs.map BV.v).toArray) : OwnL lo (W.alloc (.cells cs 22)) (.slice (some ⟨W.heap.size, 0, none⟩) n n) bs := by
  subst hc hn
  refine ⟨by simp, .inr ⟨_, bs.length, _, rfl, hlo, World.alloc_heap_new W _, Nat.le_refl _, by unfold maxLen; omega, by simp, ?_⟩⟩
  simp only [Nat.mul_one]
  exact List.take_of_length_le (by simp)
theorem ownl_grow {lo : Nat} {V : World} {v : Value} {bs ns : List BV} (h : OwnL lo V v bs) (g o m c : Nat) (hm : ns.length = m) (hc : ∀ (j : Nat) (b : BV), ns[j]? = some b → V.cell? ⟨g, o + j, none⟩ = some b.v) (hl : bs.length + m ≤ 1000000) (hlo : lo ≤ V.heap.size) :
    ∃ v' W', (Builtin.append_ #[32, 32] 32 #[v, .slice (some ⟨g, o, none⟩) m c]).run Try.prog V = .ok v' W' ∧ OwnL lo W' v' (bs ++ ns) ∧ V.grownBy W' v.ownBlock ∧ (v'.ownBlock = v.ownBlock ∨ v'.ownBlock = some V.heap.size) := by
  obtain ⟨i0, hi, hz0, hz1, hz2⟩ := info_parts infoByts
  obtain ⟨v', W', hr, hown, hg, _, hat⟩ := run_append_own_at (P := Try.prog) V lo 32 32 22 i0 (.slice none 0 0) 1 24 Try.underlying32 hi hz0 hz1 hz2 rfl (by decide)
    v bs.length (bs.map BV.v) h ⟨g, o, none⟩ m c (ns.map BV.v) (by simp [hm])
    (fun j u hj => by
      rw [List.getElem?_map] at hj
      obtain ⟨b, hb, rfl⟩ := Option.map_eq_some_iff.1 hj
      rw [Addr.add_lit]
      exact hc j b hb)
    (fun u hu => by obtain ⟨b, _, rfl⟩ := List.mem_map.1 hu; rfl) (by unfold maxLen; omega) (by omega) hlo
  refine ⟨v', W', hr, ?_, hg, hat⟩
  unfold OwnL
  rw [List.length_append, hm, List.map_append]
  exact hown
theorem OwnL.shape {lo : Nat} {W : World} {v : Value} {bs : List BV} (h : OwnL lo W v bs) : ∃ a c, v = .slice a bs.length c ∧ (bs ≠ [] → ∃ g, a = some ⟨g, 0, none⟩ ∧ lo ≤ g ∧ g < W.heap.size ∧ ∀ (j : Nat) (b : BV), bs[j]? = some b → W.cell? ⟨g, 0 + j, none⟩ = some b.v) := by
  obtain ⟨h1, h2⟩ := h
  rcases h2 with ⟨e, h0⟩ | ⟨g, cap, cur, e, hg, hh, hc, hm, hs, ht⟩
  · exact ⟨none, 0, by rw [e, h0], fun hn => absurd (List.length_eq_zero_iff.1 h0) hn⟩
  · refine ⟨_, _, e, fun _ => ⟨g, rfl, hg, (Array.getElem?_eq_some_iff.1 hh).1, fun j b hb => ?_⟩⟩
    have hj := (List.getElem?_eq_some_iff.1 hb).1
    rw [cell_of_heap hh, Nat.zero_add, ← Array.getElem?_toList, ← List.getElem?_take_of_lt (i := j) (j := bs.length * 1) (by omega), ht, List.getElem?_map, hb]
    rfl
def Elem (W : World) (P : Nat → Prop) (b : BV) : Prop := ∃ g, b.a = some ⟨g, 0, none⟩ ∧ g < W.heap.size ∧ ¬ P g ∧ Byt 0 W (.slice b.a b.zs.length b.c) b.zs
theorem Elem.step {W W' : World} {P P' : Nat → Prop} {b : BV} (h : Elem W P b) (hs : W.heap.size ≤ W'.heap.size) (hk : ∀ k, k < W.heap.size → ¬ P k → W'.heap[k]? = W.heap[k]?) (hP : ∀ k, k < W.heap.size → P' k → P k) : Elem W' P' b := by
  obtain ⟨g, e, h1, h2, h3⟩ := h
  refine ⟨g, e, by omega, fun hp => h2 (hP g h1 hp), ?_⟩
  rw [e] at h3 ⊢
  exact byt_keep h3 (fun _ => hk g h1 h2) hs
theorem Elem.below {W W' : World} {P : Nat → Prop} {b : BV} (h : Elem W P b) (hb : Below W.heap.size W W') : Elem W' P b := h.step hb.size (fun k hk _ => hb.block k hk) (fun _ _ hp => hp)
theorem lists_of {lo : Nat} {W : World} {v : Value} {bs : List BV} {P : Nat → Prop} (h : OwnL lo W v bs) (he : ∀ (j : Nat) (b : BV), bs[j]? = some b → Elem W P b) : ∃ a c, v = .slice a bs.length c ∧ Lists W a bs := by
  obtain ⟨a, c, e, hr⟩ := h.shape
  refine ⟨a, c, e, fun j b hb => ?_, fun j b hb => ?_⟩
  · obtain ⟨g, e2, _, h2, h3⟩ := hr (by rintro rfl; simp at hb)
    exact ⟨g, 0, e2, h2, h3 j b hb⟩
  · obtain ⟨_, _, _, _, h3⟩ := he j b hb
    exact h3
def allZ (n : Int) (ls : List (List Int)) : List Int × Int := if n < 0 ∨ 65535 < n then ([], 3) else if (∀ z ∈ ls, z.length = n.toNat) then (ls.foldl xl (List.replicate n.toNat 0), 0) else ([], 2)
def padZ (n : Int) (xs : List Int) : List Int × Int := if n < 0 ∨ 65535 < n then ([], 3) else if n < xs.length then ([], 4) else (evn xs n.toNat, 0)
theorem sumK_all (acc : List Int) (bs : List BV) : sumK acc bs bs.length = (bs.map BV.zs).foldl xl acc := by
  unfold sumK
  rw [List.take_length, List.foldl_map]
def BytSaid (zs : List Int) (er : Int) (w : World) (e : Ending) (w' : World) : Prop := ∃ (a : Option Addr) (n c : Nat), e = .returned (.tuple #[.slice a n c, .int .i64 er]) ∧ Byt w.heap.size w' (.slice a n c) zs ∧ Below w.heap.size w w'
def sumS (n : Nat) (ls : List (List Int)) : List Int := ls.foldl xl (List.replicate n 0)
theorem sumS_nil (n : Nat) : sumS n [] = List.replicate n 0 := rfl
theorem sumS_snoc (n : Nat) (ls : List (List Int)) (z : List Int) : sumS n (ls ++ [z]) = xl (sumS n ls) z := by unfold sumS; rw [List.foldl_append]; rfl
theorem xl_swap (a b c : List Int) : xl (xl a b) c = xl (xl a c) b := by rw [xl_assoc, xl_comm b c, ← xl_assoc]
theorem foldl_out (z : List Int) : ∀ (ls : List (List Int)) (acc : List Int), ls.foldl xl (xl acc z) = xl (ls.foldl xl acc) z
  | [], _ => rfl
  | y :: ls, acc => by rw [List.foldl_cons, List.foldl_cons, xl_swap, foldl_out z ls]
theorem sumS_cons (n : Nat) (z : List Int) (ls : List (List Int)) : sumS n (z :: ls) = xl (sumS n ls) z := by unfold sumS; rw [List.foldl_cons, foldl_out]
theorem sumS_reverse (n : Nat) : ∀ ls : List (List Int), sumS n ls.reverse = sumS n ls
  | [] => rfl
  | z :: ls => by rw [List.reverse_cons, sumS_snoc, sumS_reverse n ls, sumS_cons]
theorem sumS_two (n : Nat) (ls : List (List Int)) (x y : List Int) : sumS n (ls ++ [x, y]) = xl (xl (sumS n ls) x) y := by
  have : ls ++ [x, y] = (ls ++ [x]) ++ [y] := by simp
  rw [this, sumS_snoc, sumS_snoc]
theorem xl_four (a b x y : List Int) : xl (xl (xl a b) x) y = xl (xl a x) (xl b y) := by rw [xl_swap a b x, xl_assoc (xl a x) b y]
theorem sumS_length {n : Nat} {ls : List (List Int)} (h : ∀ z ∈ ls, z.length = n) : (sumS n ls).length = n := by
  have : ∀ (ls : List (List Int)) (acc : List Int), acc.length = n → (∀ z ∈ ls, z.length = n) → (ls.foldl xl acc).length = n := by
    intro ls
    induction ls with
    | nil => intro acc h _; exact h
    | cons z ls ih => intro acc h hz; exact ih _ (by rw [xl_length (by rw [h]; exact hz z List.mem_cons_self)]; exact h) (fun z' hz' => hz z' (List.mem_cons_of_mem _ hz'))
  exact this ls _ (by simp) h
def RP (rows : List (Value × List BV)) (s : Nat) (g : Nat) : Prop := g = s ∨ ∃ (i : Nat) (r : Value × List BV), rows[i]? = some r ∧ r.1.ownBlock = some g
structure St (lo n s : Nat) (rows : List (Value × List BV)) (Es : List BV) (zs : List Int) (W : World) : Prop where
  own : ∀ (i : Nat) (r : Value × List BV), rows[i]? = some r → OwnL lo W r.1 r.2
  apart : ∀ (i j : Nat) (r q : Value × List BV) (g : Nat), rows[i]? = some r → rows[j]? = some q → i ≠ j → r.1.ownBlock = some g → q.1.ownBlock ≠ some g
  offs : ∀ (i : Nat) (r : Value × List BV), rows[i]? = some r → r.1.ownBlock ≠ some s
  elem : ∀ (i : Nat) (r : Value × List BV) (b : BV), rows[i]? = some r → b ∈ r.2 → Elem W (RP rows s) b ∧ b.zs.length = n
  ext : ∀ b ∈ Es, Elem W (RP rows s) b ∧ b.zs.length = n
  sum : Byt lo W (.slice (some ⟨s, 0, none⟩) n n) zs
  slo : lo ≤ s
  slt : s < W.heap.size
theorem St.lt {lo n s : Nat} {rows : List (Value × List BV)} {Es : List BV} {zs : List Int} {W : World} (h : St lo n s rows Es zs W) {g : Nat} (hg : RP rows s g) : g < W.heap.size := by
  rcases hg with rfl | ⟨i, r, hr, e⟩
  · exact h.slt
  · exact ((h.own i r hr).lt g e).2
theorem St.below {lo n s : Nat} {rows : List (Value × List BV)} {Es : List BV} {zs : List Int} {W V : World} (h : St lo n s rows Es zs W) (hb : Below W.heap.size W V) : St lo n s rows Es zs V :=
  ⟨fun i r hr => (h.own i r hr).below hb, h.apart, h.offs, fun i r b hr hm => ⟨((h.elem i r b hr hm).1).below hb, (h.elem i r b hr hm).2⟩, fun b hm => ⟨((h.ext b hm).1).below hb, (h.ext b hm).2⟩, h.sum.below hb, h.slo, Nat.lt_of_lt_of_le h.slt hb.size⟩
theorem St.weak {lo n s : Nat} {rows : List (Value × List BV)} {Es Es' : List BV} {zs : List Int} {W : World} (h : St lo n s rows Es zs W) (he : ∀ b ∈ Es', b ∈ Es) : St lo n s rows Es' zs W :=
  ⟨h.own, h.apart, h.offs, h.elem, fun b hm => h.ext b (he b hm), h.sum, h.slo, h.slt⟩
theorem St.fresh {lo n s : Nat} {rows : List (Value × List BV)} {Es : List BV} {zs : List Int} {W V : World} (h : St lo n s rows Es zs W) (hb : Below W.heap.size W V) {g : Nat} (hg : W.heap.size ≤ g) (hg2 : g < V.heap.size) {lo' : Nat} {us : List Int} (hu : us.length = n) (S : Byt lo' V (.slice (some ⟨g, 0, none⟩) n n) us) : St lo n s rows (⟨some ⟨g, 0, none⟩, n, us⟩ :: Es) zs V := by
  have h2 := h.below hb
  refine ⟨h2.own, h2.apart, h2.offs, h2.elem, fun b hm => ?_, h2.sum, h2.slo, h2.slt⟩
  rcases List.mem_cons.1 hm with rfl | hm
  · refine ⟨⟨g, rfl, hg2, fun hp => ?_, ?_⟩, hu⟩
    · have := h.lt hp
      omega
    · show Byt 0 V (.slice (some ⟨g, 0, none⟩) us.length n) us
      rw [hu]
      exact S.mono (Nat.zero_le _)
  · exact h2.ext b hm
theorem get_set {rows : List (Value × List BV)} {i j : Nat} {x r : Value × List BV} (h : (rows.set i x)[j]? = some r) : (j = i ∧ r = x) ∨ (j ≠ i ∧ rows[j]? = some r) := by
  by_cases e : j = i
  · subst e
    have hj := (List.getElem?_eq_some_iff.1 h).1
    rw [List.length_set] at hj
    rw [List.getElem?_set_self hj] at h
    exact Or.inl ⟨rfl, (Option.some.inj h).symm⟩
  · rw [List.getElem?_set_ne (Ne.symm e)] at h
    exact Or.inr ⟨e, h⟩
theorem St.setRow {lo n s : Nat} {rows : List (Value × List BV)} {Es : List BV} {zs : List Int} {W W' : World} (h : St lo n s rows Es zs W) {i : Nat} {r : Value × List BV} (hr : rows[i]? = some r) {v' : Value} {bs' : List BV} (O : OwnL lo W' v' bs') (hs : W.heap.size ≤ W'.heap.size)
    (hk : ∀ g, g < W.heap.size → r.1.ownBlock ≠ some g → W'.heap[g]? = W.heap[g]?) (hat : ∀ g, v'.ownBlock = some g → r.1.ownBlock = some g ∨ W.heap.size ≤ g) (hb : ∀ b ∈ bs', b ∈ r.2 ∨ b ∈ Es) : St lo n s (rows.set i (v', bs')) Es zs W' := by
  have hP : ∀ g, g < W.heap.size → RP (rows.set i (v', bs')) s g → RP rows s g := fun g hg hp => by
    rcases hp with rfl | ⟨j, q, hq, e⟩
    · exact Or.inl rfl
    · rcases get_set hq with ⟨_, rfl⟩ | ⟨_, hq⟩
      · rcases hat g e with e2 | e2
        · exact Or.inr ⟨i, r, hr, e2⟩
        · omega
      · exact Or.inr ⟨j, q, hq, e⟩
  have hE : ∀ b, Elem W (RP rows s) b → Elem W' (RP (rows.set i (v', bs')) s) b := fun b he => he.step hs (fun g hg hp => hk g hg (fun e => hp (Or.inr ⟨i, r, hr, e⟩))) hP
  refine ⟨fun j q hq => ?_, fun j k q p g hq hp hjk e e2 => ?_, fun j q hq e => ?_, fun j q b hq hm => ?_, fun b hm => ⟨hE b (h.ext b hm).1, (h.ext b hm).2⟩, ?_, h.slo, Nat.lt_of_lt_of_le h.slt hs⟩
  · rcases get_set hq with ⟨_, rfl⟩ | ⟨hne, hq⟩
    · exact O
    · exact (h.own j q hq).keep fun g e => hk g ((h.own j q hq).lt g e).2 (h.apart j i q r g hq hr hne e)
  · rcases get_set hq with ⟨e5, e6⟩ | ⟨hne, hq'⟩
    · rcases get_set hp with ⟨e7, _⟩ | ⟨hne2, hp'⟩
      · exact hjk (e5.trans e7.symm)
      · rw [e6] at e
        rcases hat g e with e3 | e3
        · exact h.apart i k r p g hr hp' (Ne.symm hne2) e3 e2
        · have := ((h.own k p hp').lt g e2).2
          omega
    · rcases get_set hp with ⟨e7, e8⟩ | ⟨_, hp'⟩
      · rw [e8] at e2
        rcases hat g e2 with e3 | e3
        · exact h.apart j i q r g hq' hr hne e e3
        · have := ((h.own j q hq').lt g e).2
          omega
      · exact h.apart j k q p g hq' hp' hjk e e2
  · rcases get_set hq with ⟨_, rfl⟩ | ⟨_, hq⟩
    · rcases hat s e with e3 | e3
      · exact h.offs i r hr e3
      · have := h.slt
        omega
    · exact h.offs j q hq e
  · rcases get_set hq with ⟨_, rfl⟩ | ⟨_, hq⟩
    · rcases hb b hm with hm | hm
      · exact ⟨hE b (h.elem i r b hr hm).1, (h.elem i r b hr hm).2⟩
      · exact ⟨hE b (h.ext b hm).1, (h.ext b hm).2⟩
    · exact ⟨hE b (h.elem j q b hq hm).1, (h.elem j q b hq hm).2⟩
  · exact byt_keep h.sum (fun hl => hk s hl (h.offs i r hr)) hs
theorem St.push {lo n s : Nat} {rows : List (Value × List BV)} {Es : List BV} {zs : List Int} {W : World} (h : St lo n s rows Es zs W) (hlo : lo ≤ W.heap.size) {i : Nat} {r : Value × List BV} (hr : rows[i]? = some r) (ns : List BV) (hns : ∀ b ∈ ns, b ∈ Es) (m : Nat) (hm : ns.length = m) (hl : r.2.length + m ≤ 1000000) (cs : Array Value) (hcs : cs = (ns.map BV.v).toArray) :
    ∃ v' W', (Builtin.append_ #[32, 32] 32 #[r.1, .slice (some ⟨W.heap.size, 0, none⟩) m m]).run Try.prog (W.alloc (.cells cs 22)) = .ok v' W' ∧ St lo n s (rows.set i (v', r.2 ++ ns)) Es zs W' ∧ Below lo W W' := by
  subst hcs
  have q := below_new W (.cells (ns.map BV.v).toArray 22)
  obtain ⟨v', W', hrun, O, G, hat⟩ := ownl_grow ((h.own i r hr).below q) (ns := ns) W.heap.size 0 m m hm (fun j b hj => by
    rw [cell_of_heap (World.alloc_heap_new W _), Nat.zero_add]
    simp [hj]) hl (Nat.le_trans hlo q.size)
  have hsz := q.size
  refine ⟨v', W', hrun, h.setRow hr O (Nat.le_trans hsz G.size) (fun g hg e => (G.block g (by omega) (fun e2 => e e2.symm)).trans (q.block g hg)) (fun g e => ?_) (fun b hb => ?_), ?_⟩
  · rcases hat with e2 | e2
    · rw [e2] at e; exact Or.inl e
    · rw [e2] at e
      injection e with e
      exact Or.inr (by omega)
  · rcases List.mem_append.1 hb with hb | hb
    · exact Or.inl hb
    · exact Or.inr (hns b hb)
  · exact ((q.mono hlo)).grown G (Nat.le_trans hlo hsz) (fun g e => ((h.own i r hr).lt g e).1)
theorem appendl_none (s : Option Addr) (k G : Nat) (hk : k ≤ G) (a : Option Addr) (cap : Nat) (w : World) (ty : TypeId) : (Builtin.append_ #[32, 32] ty #[.slice s k G, .slice a 0 cap]).run Try.prog w = .ok (.slice s k G) w := by
  obtain ⟨i0, hi, hz0, hz1, hz2⟩ := info_parts infoByts
  have hf : (Builtin.firstCells i0.size 0 (.slice a 0 cap)).run Try.prog w = .ok #[] w := by
    cases a with
    | none => exact run_firstCells_none w i0.size 0 0 cap
    | some a => exact run_firstCells_some w i0.size 0 a 0 cap [] (by simp) (by simp)
  cases s <;> simp [Builtin.append_, run_underlying Try.underlying32, sizeOf, typeInfo, hi, Builtin.lenOf, hf, hk, storeCells]
theorem St.front {lo n s : Nat} {rows : List (Value × List BV)} {Es : List BV} {zs : List Int} {W : World} (h : St lo n s rows Es zs W) (hlo : lo ≤ W.heap.size) {i : Nat} {r : Value × List BV} (hr : rows[i]? = some r) (b : BV) (hb : b ∈ Es) (hl : r.2.length ≤ 100000) (cs : Array Value) (hcs : cs = #[b.v]) :
    ∃ v' W', (Builtin.append_ #[32, 32] 32 #[.slice (some ⟨W.heap.size, 0, none⟩) 1 1, r.1]).run Try.prog (W.alloc (.cells cs 22)) = .ok v' W' ∧ St lo n s (rows.set i (v', b :: r.2)) Es zs W' ∧ Below lo W W' := by
  subst hcs
  have q := below_new W (.cells #[b.v] 22)
  have hsz : W.heap.size + 1 = (W.alloc (.cells #[b.v] 22)).heap.size := by simp
  have Olit := ownl_lit (lo := lo) W hlo [b] 1 rfl (by omega) #[b.v] rfl
  obtain ⟨a, c, e, hrow⟩ := ((h.own i r hr).below q).shape
  have hmem : ∀ b' ∈ b :: r.2, b' ∈ r.2 ∨ b' ∈ Es := fun b' hb' => by
    rcases List.mem_cons.1 hb' with rfl | hb'
    · exact Or.inr hb
    · exact Or.inl hb'
  by_cases h0 : r.2 = []
  · rw [h0] at e
    refine ⟨_, _, by rw [e]; exact appendl_none _ 1 1 (Nat.le_refl _) a c _ _, h.setRow hr (by rw [h0]; exact Olit) q.size (fun g hg _ => q.block g hg) (fun g e => ?_) hmem, q.mono hlo⟩
    have e9 : some W.heap.size = some g := e
    injection e9 with e9
    exact Or.inr (by omega)
  · obtain ⟨g0, rfl, _, _, hc⟩ := hrow h0
    obtain ⟨v', W', hrun, O, G, hat⟩ := ownl_grow Olit (ns := r.2) g0 0 r.2.length c rfl hc (by simp; omega) (by omega)
    refine ⟨v', W', by rw [e]; exact hrun, h.setRow hr O (Nat.le_trans q.size G.size) (fun g hg _ => (G.block g (by omega) (fun e2 => ?_)).trans (q.block g hg)) (fun g e2 => ?_) hmem, ?_⟩
    · have e9 : some g = some W.heap.size := e2
      injection e9 with e9
      omega
    · right
      rcases hat with e3 | e3
      · rw [e3] at e2
        have e9 : some W.heap.size = some g := e2
        injection e9 with e9
        omega
      · rw [e3] at e2
        injection e2 with e2
        omega
    · refine (q.mono hlo).grown G (by omega) (fun g e2 => ?_)
      have e9 : some W.heap.size = some g := e2
      injection e9 with e9
      omega
theorem St.into {lo n s : Nat} {rows : List (Value × List BV)} {Es : List BV} {zs : List Int} {W : World} (h : St lo n s rows Es zs W) (hn : n ≤ 100000) {b : BV} (hb : b ∈ Es) :
    Calls Try.prog 17 #[.slice (some ⟨s, 0, none⟩) n n, .slice b.a n b.c] W fun e w' => e = .returned (.int .i64 0) ∧ St lo n s rows Es (xl zs b.zs) w' ∧ Below lo W w' := by
  obtain ⟨⟨g, _, _, _, Y⟩, hbl⟩ := h.ext b hb
  rw [hbl] at Y
  refine (into_room h.sum Y (by omega) h.slt).mono ?_
  rintro e w' ⟨rfl, S, WR⟩
  have T := WR.turns
  have hk : ∀ g, g < W.heap.size → g ≠ s → w'.heap[g]? = W.heap[g]? := fun g hg hne => T.other g hne hg
  have hE : ∀ b, Elem W (RP rows s) b → Elem w' (RP rows s) b := fun b he => he.step T.below.size (fun g hg hp => hk g hg (fun e => hp (Or.inl e))) (fun _ _ hp => hp)
  exact ⟨rfl, ⟨fun i r hr => (h.own i r hr).keep fun g e => hk g ((h.own i r hr).lt g e).2 (fun e2 => h.offs i r hr (by rw [e, e2])), h.apart, h.offs, fun i r b hr hm => ⟨hE b (h.elem i r b hr hm).1, (h.elem i r b hr hm).2⟩, fun b hm => ⟨hE b (h.ext b hm).1, (h.ext b hm).2⟩, S, h.slo, Nat.lt_of_lt_of_le h.slt T.below.size⟩, T.below.mono h.slo⟩
theorem St.lists {lo n s : Nat} {rows : List (Value × List BV)} {Es : List BV} {zs : List Int} {W : World} (h : St lo n s rows Es zs W) {i : Nat} {r : Value × List BV} (hr : rows[i]? = some r) : ∃ a c, r.1 = .slice a r.2.length c ∧ Lists W a r.2 :=
  lists_of (h.own i r hr) (fun _ b hj => (h.elem i r b hr (List.mem_of_getElem? hj)).1)
set_option maxRecDepth 100000 in
set_option maxHeartbeats 1000000 in
theorem even_own {lo : Nat} {a : Option Addr} {m d : Nat} {xs : List Int} {w : World} (X : Byt lo w (.slice a m d) xs) (n : Nat) (hn : n ≤ 10000) :
    Calls Try.prog 23 #[.slice a m d, .int .i64 n] w fun e w' => ∃ g, e = .returned (.slice (some ⟨g, 0, none⟩) n n) ∧ w.heap.size ≤ g ∧ g < w'.heap.size ∧ Byt w.heap.size w' (.slice (some ⟨g, 0, none⟩) n n) (evn xs n) ∧ Below w.heap.size w w' := by
  obtain ⟨Z, hmk, hmz⟩ := byt_make n (by omega) 22 Try.underlying22
  have hb := below_new w Z
  obtain ⟨k, w', hcp, S, B⟩ := copy_even (hmz w) (X.below hb)
  have HS := hide S
  have HG : Hid (w.heap.size < w'.heap.size) := by
    have := B.size
    rw [World.size_alloc] at this
    exact this
  have HB := hide (hb.trans B)
  clear S B hb hmz X
  go_enter Try.func23, Try.ntmps23
  go_wp2
  go_ret
  exact ⟨_, rfl, Nat.le_refl _, HG.out, HS.out, HB.out⟩
set_option maxRecDepth 100000 in
set_option maxHeartbeats 1000000 in
theorem xonce_count (a : Option Addr) (L ca : Nat) (w : World) (h : L = 0 ∨ 20 < L) :
    Calls Try.prog 7 #[.slice a L ca] w fun e w' => e = .returned (.bool true) ∧ Below w.heap.size w w' := by
  have hk := xknown_any w
  by_cases h0 : L = 0
  · subst h0
    go_enter Try.func7, Try.ntmps7
    go_wp2_with fail
    refine hk.mono ?_
    rintro e w1 ⟨rfl, hb⟩
    clear hk
    go_wp2
    go_ret
    exact ⟨rfl, hb⟩
  · have hz : ((L : Int) == 0) = false := by simp; exact h0
    have hi : 20 < (L : Int) := by omega
    clear h h0
    go_enter Try.func7, Try.ntmps7
    go_wp2_with fail
    refine hk.mono ?_
    rintro e w1 ⟨rfl, hb⟩
    clear hk
    go_wp2
    go_ret
    exact ⟨rfl, hb⟩
set_option maxRecDepth 100000 in
set_option maxHeartbeats 1000000 in
theorem xonce_long {a : Option Addr} {L ca : Nat} {bs0 : List BV} {w : World} (R : Lists w a bs0) (h0 : L ≠ 0) (h2 : L ≤ 20) {b0 : BV} (hb0 : bs0[0]? = some b0) (hn : 100 < b0.zs.length) :
    Calls Try.prog 7 #[.slice a L ca] w fun e w' => e = .returned (.bool true) ∧ Below w.heap.size w w' := by
  have hk := xknown_any w
  have hz : ((L : Int) == 0) = false := by simp; exact h0
  have hi : ¬ 20 < (L : Int) := by omega
  have hp : 0 < (L : Int) := by omega
  have HR := hide R
  obtain ⟨n, hn0⟩ : ∃ n, b0.zs.length = n := ⟨_, rfl⟩
  have hni : 100 < (n : Int) := by omega
  clear R h0
  go_enter Try.func7, Try.ntmps7
  go_wp2_with fail
  refine hk.mono ?_
  rintro e w1 ⟨rfl, hb⟩
  obtain ⟨g, o, rfl, _, hc⟩ := (HR.out.below hb).row 0 b0 hb0
  rw [hn0, Nat.add_zero] at hc
  generalize b0.a = a0 at *
  generalize b0.c = c0 at *
  clear hk hb0 hn hn0
  go_wp2
  go_ret
  exact ⟨rfl, hb⟩
def OnceAt (w : World) (n s : Nat) (X : List (List Int)) (k : Nat) (va vt vw : Value) (wr : World) : Prop := ∃ As Ts Ws : List BV,
  St w.heap.size n s [(va, As), (vt, Ts), (vw, Ws)] [] (sumS n (X.take k)) wr ∧ As.length = k ∧ Ts.length = k ∧ Ws.length = 2 * k ∧
  sumS n (As.map BV.zs) = sumS n (X.take k) ∧ sumS n (Ts.map BV.zs) = sumS n (X.take k) ∧ sumS n (Ws.map BV.zs) = xl (sumS n (X.take k)) (sumS n (X.reverse.take k)) ∧ Below w.heap.size w wr
theorem once_zero {w w1 : World} (hb : Below w.heap.size w w1) (n : Nat) (X : List (List Int)) (Z : Obj) (hz : Byt w1.heap.size (w1.alloc Z) (.slice (some ⟨w1.heap.size, 0, none⟩) n n) (List.replicate n 0)) :
    OnceAt w n w1.heap.size X 0 (.slice none 0 0) (.slice none 0 0) (.slice none 0 0) (w1.alloc Z) := by
  have hr : ∀ (i : Nat) (r : Value × List BV), [(Value.slice none 0 0, ([] : List BV)), (Value.slice none 0 0, []), (Value.slice none 0 0, [])][i]? = some r → r = (Value.slice none 0 0, []) := fun i r h => by
    match i with
    | 0 => exact (Option.some.inj h).symm
    | 1 => exact (Option.some.inj h).symm
    | 2 => exact (Option.some.inj h).symm
    | i + 3 => simp at h
  refine ⟨[], [], [], ⟨fun i r h => ?_, fun i j r q g h _ _ e => ?_, fun i r h e => ?_, fun i r b h hm => ?_, fun b hm => by simp at hm, ?_, hb.size, by simp⟩, rfl, rfl, rfl, rfl, rfl, ?_, hb.trans ((below_new w1 Z).mono hb.size)⟩
  · rw [hr i r h]; exact ownl_nil _ _
  · rw [hr i r h] at e; cases e
  · rw [hr i r h] at e; cases e
  · rw [hr i r h] at hm; simp at hm
  · rw [List.take_zero, sumS_nil]; exact hz.mono hb.size
  · rw [List.take_zero, List.take_zero, sumS_nil, List.map_nil, sumS_nil, xl_self, List.length_replicate]
theorem take_snoc {X : List (List Int)} {k : Nat} {x : List Int} (h : X[k]? = some x) (n : Nat) : sumS n (X.take (k + 1)) = xl (sumS n (X.take k)) x := by
  rw [List.take_add_one, h, Option.toList_some, sumS_snoc]
set_option maxRecDepth 100000 in
set_option maxHeartbeats 8000000 in
theorem xonce_near {a : Option Addr} {L ca : Nat} {bs0 : List BV} {w : World} (R : Lists w a bs0) (hL0 : bs0.length = L) (h0 : L ≠ 0) (h2 : L ≤ 20) {b0 : BV} (hb0 : bs0[0]? = some b0) (hn : b0.zs.length ≤ 100) :
    Calls Try.prog 7 #[.slice a L ca] w fun e w' => e = .returned (.bool true) ∧ Below w.heap.size w w' := by
  have hk := xknown_any w
  have hz : ((L : Int) == 0) = false := by simp; exact h0
  have hi : ¬ 20 < (L : Int) := by omega
  have hp : 0 < (L : Int) := by omega
  have HR := hide R
  have HL0 := hide hL0
  obtain ⟨n, hn0⟩ : ∃ n, b0.zs.length = n := ⟨_, rfl⟩
  have hni : ¬ 100 < (n : Int) := by omega
  have hnl : n ≤ 100 := by omega
  obtain ⟨Z, hmk, hmz⟩ := byt_make n (by omega) 22 Try.underlying22
  have HMZ := hide hmz
  have HMK := hide hmk
  obtain ⟨X, hX⟩ : ∃ X, bs0.map (fun b => evn b.zs n) = X := ⟨_, rfl⟩
  have HX := hide hX
  have hw1 : IntKind.i64.wrap ((L : Int) - 1) = (L : Int) - 1 := by rw [IntKind.wrap_i64]; omega
  clear R hL0 h0 hX hmz
  go_enter Try.func7, Try.ntmps7
  go_wp2_with fail
  refine hk.mono ?_
  rintro e w1 ⟨rfl, hb⟩
  obtain ⟨g, o, rfl, _, hc⟩ := (HR.out.below hb).row 0 b0 hb0
  rw [hn0, Nat.add_zero] at hc
  generalize b0.a = a0 at *
  generalize b0.c = c0 at *
  clear hk hb0 hn hn0
  go_wp2
  clear hmk hc
  go_loopw [5, 6, 7, 9] (fun va vt vw i wr => ∃ k : Nat, k ≤ L ∧ i = .int .i64 k ∧ OnceAt w n w1.heap.size X k va vt vw wr) (fun _ _ _ i _ => L - (intOf i).toNat)
  case atStart => exact ⟨0, Nat.zero_le _, rfl, once_zero hb n X Z (HMZ.out w1)⟩
  case round =>
    obtain ⟨k, hk, rfl, As, Ts, Ws, S0, la, lt, lw, sa, st, sw, hbw⟩ := hrel
    have LA := hide la
    have LT := hide lt
    have LW := hide lw
    have SA := hide sa
    have ST := hide st
    have SW := hide sw
    have HB := hide hbw
    clear la lt lw sa st sw hbw
    by_cases hkL : k < L
    · obtain ⟨b1, hb1⟩ : ∃ b1, bs0[k]? = some b1 := ⟨_, List.getElem?_eq_getElem (by have := HL0.out; omega)⟩
      obtain ⟨q, hq⟩ : ∃ q, L - 1 - k = q := ⟨_, rfl⟩
      obtain ⟨b2, hb2⟩ : ∃ b2, bs0[q]? = some b2 := ⟨_, List.getElem?_eq_getElem (by have := HL0.out; omega)⟩
      have hx1 : X[k]? = some (evn b1.zs n) := by rw [← HX.out, List.getElem?_map, hb1]; rfl
      have hy1 : X.reverse[k]? = some (evn b2.zs n) := by
        have hXl : X.length = L := by rw [← HX.out, List.length_map]; exact HL0.out
        rw [List.getElem?_reverse (by omega), hXl, hq, ← HX.out, List.getElem?_map, hb2]; rfl
      have HX1 := hide (take_snoc hx1 n)
      have HY1 := hide (take_snoc hy1 n)
      obtain ⟨g9, o9, e9, _, c1⟩ := (HR.out.below HB.out).row k b1 hb1
      simp only [Option.some.injEq, Addr.mk.injEq, and_true] at e9
      obtain ⟨rfl, rfl⟩ := e9
      have Y1 := (HR.out.below HB.out).each k b1 hb1
      have hev := even_own Y1 n (by omega)
      have hki : (k : Int) < (L : Int) := by omega
      have hqi : (q : Int) < (L : Int) := by omega
      have hw2 : IntKind.i64.wrap ((L : Int) - 1 - (k : Int)) = (q : Int) := by rw [IntKind.wrap_i64]; omega
      have HR2 := hide (show ∀ V, Below w.heap.size w V → V.cell? ⟨g, o + q, none⟩ = some (.slice b2.a b2.zs.length b2.c) ∧ Byt 0 V (.slice b2.a b2.zs.length b2.c) b2.zs from fun V hV => by
        obtain ⟨g8, o8, e8, _, c2⟩ := (HR.out.below hV).row q b2 hb2
        simp only [Option.some.injEq, Addr.mk.injEq, and_true] at e8
        obtain ⟨rfl, rfl⟩ := e8
        exact ⟨c2, (HR.out.below hV).each q b2 hb2⟩)
      have hsz0 := HB.out.size
      clear hx1 hy1 hb1 hb2 hq Y1
      obtain ⟨u1, hu1⟩ : ∃ u, evn b1.zs n = u := ⟨_, rfl⟩
      have HU1 : Hid (u1.length = n) := by rw [Hid, ← hu1]; exact evn_length _ _
      rw [hu1] at hev HX1
      generalize b1.zs.length = l1 at *
      generalize b1.a = p1 at *
      generalize b1.c = q1 at *
      clear hu1
      go_wp2_with fail
      refine hev.mono ?_
      rintro e w2 ⟨g1, rfl, hg1, hg2, SX, B2⟩
      have S1 := S0.fresh B2 hg1 hg2 HU1.out SX
      have HB2 := hide (HB.out.trans (B2.mono hsz0))
      obtain ⟨va', w3, hap1, S2, B3⟩ := S1.push HB2.out.size (i := 0) rfl [⟨some ⟨g1, 0, none⟩, n, u1⟩] (by simp) 1 rfl (by have := LA.out; show As.length + 1 ≤ 1000000; omega) #[.slice (some ⟨g1, 0, none⟩) n n] (by simp [BV.v, HU1.out])
      replace S2 : St w.heap.size n w1.heap.size [(va', As ++ [⟨some ⟨g1, 0, none⟩, n, u1⟩]), (_, Ts), (_, Ws)] _ _ w3 := S2
      have HB3 := hide (HB2.out.trans B3)
      obtain ⟨vt', w4, hap2, S3, B4⟩ := S2.front HB3.out.size (i := 1) rfl ⟨some ⟨g1, 0, none⟩, n, u1⟩ (by simp) (by have := LT.out; show Ts.length ≤ 100000; omega) #[.slice (some ⟨g1, 0, none⟩) n n] (by simp [BV.v, HU1.out])
      replace S3 : St w.heap.size n w1.heap.size [(va', As ++ [⟨some ⟨g1, 0, none⟩, n, u1⟩]), (vt', ⟨some ⟨g1, 0, none⟩, n, u1⟩ :: Ts), (_, Ws)] _ _ w4 := S3
      have HB4 := hide (HB3.out.trans B4)
      obtain ⟨c2, Y2⟩ := HR2.out w4 HB4.out
      have hev2 := even_own Y2 n (by omega)
      have hsz4 := HB4.out.size
      obtain ⟨u2, hu2⟩ : ∃ u, evn b2.zs n = u := ⟨_, rfl⟩
      have HU2 : Hid (u2.length = n) := by rw [Hid, ← hu2]; exact evn_length _ _
      rw [hu2] at hev2 HY1
      clear HR2 Y2 hu2 S0 S1 S2 SX hev B2 B3 B4
      generalize b2.zs.length = l2 at *
      generalize b2.a = p2 at *
      generalize b2.c = q2 at *
      go_wp2_with (first
        | (at_builtin; refine Lib.wpList_append_run _ rfl _ _ _ _ rfl _ _ rfl rfl _ _ hap1 ?_)
        | (at_builtin; refine Lib.wpList_append_run _ rfl _ _ _ _ rfl _ _ rfl rfl _ _ hap2 ?_))
      refine hev2.mono ?_
      rintro e w5 ⟨g2, rfl, hg3, hg4, SY, B5⟩
      have S4 := S3.fresh B5 hg3 hg4 HU2.out SY
      have HB5 := hide (HB4.out.trans (B5.mono hsz4))
      obtain ⟨vw', w6, hap3, S5, B6⟩ := S4.push HB5.out.size (i := 2) rfl [⟨some ⟨g1, 0, none⟩, n, u1⟩, ⟨some ⟨g2, 0, none⟩, n, u2⟩] (by simp) 2 rfl (by have := LW.out; show Ws.length + 2 ≤ 1000000; omega) #[.slice (some ⟨g1, 0, none⟩) n n, .slice (some ⟨g2, 0, none⟩) n n] (by simp [BV.v, HU1.out, HU2.out])
      replace S5 : St w.heap.size n w1.heap.size [(va', As ++ [⟨some ⟨g1, 0, none⟩, n, u1⟩]), (vt', ⟨some ⟨g1, 0, none⟩, n, u1⟩ :: Ts), (vw', Ws ++ [⟨some ⟨g1, 0, none⟩, n, u1⟩, ⟨some ⟨g2, 0, none⟩, n, u2⟩])] _ _ w6 := S5
      have HB6 := hide (HB5.out.trans B6)
      have hin : Calls Try.prog 17 #[.slice (some ⟨w1.heap.size, 0, none⟩) n n, .slice (some ⟨g1, 0, none⟩) n n] w6 _ := S5.into (by omega) (b := ⟨some ⟨g1, 0, none⟩, n, u1⟩) (by simp)
      clear hev2 S3 S4 SY B5 B6 hap1 hap2
      go_wp2_with (at_builtin; refine Lib.wpList_append_run _ rfl _ _ _ _ rfl _ _ rfl rfl _ _ hap3 ?_)
      refine hin.mono ?_
      rintro e w7 ⟨rfl, S6, B7⟩
      have HO : OnceAt w n w1.heap.size X (k + 1) va' vt' vw' w7 := by
        replace S6 := S6.weak (Es' := []) (by simp)
        refine ⟨_, _, _, by rw [HX1.out]; exact S6, by simp [LA.out], by simp [LT.out], by simp [LW.out]; omega, ?_, ?_, ?_, HB6.out.trans B7⟩
        · rw [List.map_append, List.map_cons, List.map_nil, sumS_snoc, SA.out, HX1.out]
        · rw [List.map_cons, sumS_cons, ST.out, HX1.out]
        · rw [List.map_append, List.map_cons, List.map_cons, List.map_nil, sumS_two, SW.out, HX1.out, HY1.out, xl_four]
      clear hin S5 S6 B7 hap3
      go_wp2
      exact ⟨⟨k + 1, by omega, by go_num, HO⟩, by simp [intOf]; omega⟩
    · obtain rfl : k = L := by omega
      have hXl : X.length = k := by rw [← HX.out, List.length_map]; exact HL0.out
      have ht1 : X.take k = X := List.take_of_length_le (by omega)
      have ht2 : X.reverse.take k = X.reverse := List.take_of_length_le (by rw [List.length_reverse]; omega)
      have hXn : ∀ z ∈ X, z.length = n := fun z hz => by
        rw [← HX.out] at hz
        obtain ⟨b, _, rfl⟩ := List.mem_map.1 hz
        exact evn_length _ _
      have ZS := S0.sum
      have HA : Hid (sumS n (X.take k) = sumK (List.replicate n 0) As k) := by
        have := sumK_all (List.replicate n 0) As
        rw [LA.out] at this
        rw [Hid, this, ← SA.out]; rfl
      have HT : Hid (sumS n (X.take k) = sumK (List.replicate n 0) Ts k) := by
        have := sumK_all (List.replicate n 0) Ts
        rw [LT.out] at this
        rw [Hid, this, ← ST.out]; rfl
      have HW : Hid (List.replicate n 0 = sumK (List.replicate n 0) Ws (2 * k)) := by
        have := sumK_all (List.replicate n 0) Ws
        rw [LW.out] at this
        rw [Hid, this]
        have h1 := SW.out
        rw [ht1, ht2, sumS_reverse, xl_self, sumS_length hXn] at h1
        exact h1.symm
      have NA := hide (show ∀ (j : Nat) (v : BV), As[j]? = some v → v.zs.length = n from fun j v hv => (S0.elem 0 _ v rfl (List.mem_of_getElem? hv)).2)
      have NT := hide (show ∀ (j : Nat) (v : BV), Ts[j]? = some v → v.zs.length = n from fun j v hv => (S0.elem 1 _ v rfl (List.mem_of_getElem? hv)).2)
      have NW := hide (show ∀ (j : Nat) (v : BV), Ws[j]? = some v → v.zs.length = n from fun j v hv => (S0.elem 2 _ v rfl (List.mem_of_getElem? hv)).2)
      obtain ⟨aA, cA, e1, RA⟩ := S0.lists (i := 0) rfl
      obtain ⟨aT, cT, e2, RT⟩ := S0.lists (i := 1) rfl
      obtain ⟨aW, cW, e3, RW⟩ := S0.lists (i := 2) rfl
      dsimp only at e1 e2 e3 RA RT RW
      clear S0
      subst e1 e2 e3
      rw [LA.out, LT.out, LW.out]
      obtain ⟨tot, htot⟩ : ∃ tot, sumS n (X.take k) = tot := ⟨_, rfl⟩
      rw [htot] at ZS HA HT
      have hmk := HMK.out
      clear ht1 ht2 hXl hXn htot SA ST SW hkL
      have hc31 := sums_yes (cap := cA) RA LA.out (by omega) NA.out (by omega) ZS HA.out
      go_wp2_with fail
      refine hc31.mono ?_
      rintro e w32 ⟨rfl, b33⟩
      have HB34 := hide (HB.out.trans (b33.mono HB.out.size))
      replace RA := RA.below b33
      replace RT := RT.below b33
      replace RW := RW.below b33
      replace ZS := ZS.below b33
      clear hc31 b33 HB
      have hc35 := sums_yes (cap := cT) RT LT.out (by omega) NT.out (by omega) ZS HT.out
      go_wp2_with fail
      refine hc35.mono ?_
      rintro e w36 ⟨rfl, b37⟩
      have HB38 := hide (HB34.out.trans (b37.mono HB34.out.size))
      replace RA := RA.below b37
      replace RT := RT.below b37
      replace RW := RW.below b37
      replace ZS := ZS.below b37
      clear hc35 b37 HB34
      clear ZS
      have q39 := below_new w36 (Z)
      have y39 := HMZ.out w36
      obtain ⟨u39, hu39⟩ : ∃ u, w36.alloc (Z) = u := ⟨_, rfl⟩
      have e39 : u39.heap.size = w36.heap.size + 1 := by rw [← hu39, World.size_alloc]
      rw [hu39] at q39 y39
      replace RA := RA.below q39
      replace RT := RT.below q39
      replace RW := RW.below q39
      replace HB38 := hide (HB38.out.trans (q39.mono HB38.out.size))
      have hc40 := sums_yes (cap := cW) RW LW.out (by omega) NW.out (by omega) y39 HW.out
      rw [← hu39] at hc40
      rw [← hu39] at HB38
      rw [← hu39] at RA
      rw [← hu39] at RT
      rw [← hu39] at RW
      clear y39 q39 
      clear e39
      clear hu39
      go_wp2_with fail
      refine hc40.mono ?_
      rintro e w41 ⟨rfl, b42⟩
      have HB43 := hide (HB38.out.trans (b42.mono HB38.out.size))
      replace RA := RA.below b42
      replace RT := RT.below b42
      replace RW := RW.below b42
      clear hc40 b42 HB38
      go_wp2
      go_ret
      exact ⟨rfl, HB43.out⟩
theorem xonce_any {a : Option Addr} {ca : Nat} {bs0 : List BV} {w : World} (R : Lists w a bs0) :
    Calls Try.prog 7 #[.slice a bs0.length ca] w fun e w' => e = .returned (.bool true) ∧ Below w.heap.size w w' := by
  by_cases h : bs0.length = 0 ∨ 20 < bs0.length
  · exact xonce_count a _ ca w h
  · obtain ⟨b0, hb0⟩ : ∃ b0, bs0[0]? = some b0 := ⟨_, List.getElem?_eq_getElem (by omega)⟩
    by_cases hn : b0.zs.length ≤ 100
    · exact xonce_near R rfl (by omega) (by omega) hb0 hn
    · exact xonce_long R (by omega) (by omega) hb0 (by omega)
end Go.Proofs.Ytekjjlmhdkhmjaa
