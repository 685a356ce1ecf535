/-
  A region that draws its order: what holds of each operation alone, in whatever world comes before it, holds of the region in every order.
-/
import Derived.Test.YtjoakmhebcfeaaaBoxes
import Derived.OrdersHeld
namespace Go.Proofs.Ytjoakmhebcfeaaa
open Go.RowKit

/-- A frame in which those of a region's operations have come up that 'l' names, each with its value. -/
def laidIn (ops : Array Oper) (l : Nat → Bool) (vs : Nat → Value) : Nat → Act → Act
  | 0, a => a
  | k + 1, a => match ops[k]? with
    | some o => if l k = true then (laidIn ops l vs k a).put o.dst (vs k) else laidIn ops l vs k a
    | none => laidIn ops l vs k a
def upd {α : Type} (f : Nat → α) (i : Nat) (x : α) : Nat → α := fun j => if j = i then x else f j
theorem upd_same {α : Type} (f : Nat → α) (i : Nat) (x : α) : upd f i x i = x := if_pos rfl
theorem upd_other {α : Type} (f : Nat → α) {i j : Nat} (x : α) (h : j ≠ i) : upd f i x j = f j := if_neg h

theorem put_size (a : Act) (d : Option Tmp) (v : Value) : (a.put d v).tmps.size = a.tmps.size := by
  cases d <;> simp [Act.put]
theorem laid_size (ops : Array Oper) (l : Nat → Bool) (vs : Nat → Value) (a : Act) : ∀ n, (laidIn ops l vs n a).tmps.size = a.tmps.size
  | 0 => rfl
  | n + 1 => by
    have ih := laid_size ops l vs a n
    unfold laidIn
    split
    · split
      · rw [put_size]; exact ih
      · exact ih
    · exact ih
theorem put_eval_same (a b : Act) (d : Tmp) (v : Value) (h : a.tmps.size = b.tmps.size) : (a.put (some d) v).eval (.tmp d) = (b.put (some d) v).eval (.tmp d) := by
  simp only [Act.put, Act.eval]
  by_cases hd : d < a.tmps.size
  · simp [hd, h ▸ hd]
  · simp [hd, h ▸ hd]
/-- An operand hangs on those operations alone that write it. -/
theorem laid_eval {ops : Array Oper} {l l' : Nat → Bool} {vs : Nat → Value} {a : Act} (x : Operand) : ∀ n,
    (∀ k, k < n → ∀ o, ops[k]? = some o → (∃ d, o.dst = some d ∧ x = .tmp d) → l k = l' k) → (laidIn ops l vs n a).eval x = (laidIn ops l' vs n a).eval x
  | 0, _ => rfl
  | n + 1, h => by
    have ih := laid_eval (ops := ops) (l := l) (l' := l') (vs := vs) (a := a) x n (fun k hk => h k (by omega))
    unfold laidIn
    cases ho : ops[n]? with
    | none => exact ih
    | some o =>
      simp only []
      by_cases hx : ∃ d, o.dst = some d ∧ x = .tmp d
      · rw [h n (by omega) o ho hx]
        obtain ⟨d, hd, rfl⟩ := hx
        cases l' n
        · simp only [Bool.false_eq_true, if_false]; exact ih
        · simp only [if_true, hd]; exact put_eval_same _ _ _ _ (by rw [laid_size, laid_size])
      · have hne : ∀ d, o.dst = some d → x ≠ .tmp d := fun d hd e => hx ⟨d, hd, e⟩
        cases l n <;> cases l' n <;> simp only [Bool.false_eq_true, if_false, if_true, Act.eval_put hne] <;> exact ih
theorem laid_upd {ops : Array Oper} {l : Nat → Bool} {vs : Nat → Value} {a : Act} {i : Nat} {v : Value} : ∀ n, n ≤ i → laidIn ops (upd l i true) (upd vs i v) n a = laidIn ops l vs n a
  | 0, _ => rfl
  | n + 1, h => by
    have ih := laid_upd (ops := ops) (l := l) (vs := vs) (a := a) (i := i) (v := v) n (by omega)
    unfold laidIn
    rw [upd_other _ _ (show n ≠ i by omega), upd_other _ _ (show n ≠ i by omega), ih]
/-- One more has come up. -/
theorem laid_put {ops : Array Oper} {l : Nat → Bool} {vs : Nat → Value} {a : Act} {i : Nat} {o : Oper} {v : Value} (ho : ops[i]? = some o) (hl : l i = false) : ∀ n, i < n →
    (∀ k, k < n → k ≠ i → ∀ o', ops[k]? = some o' → ∀ d, o'.dst = some d → o.dst ≠ some d) → (laidIn ops l vs n a).put o.dst v = laidIn ops (upd l i true) (upd vs i v) n a
  | 0, h, _ => by omega
  | n + 1, h, hd => by
    by_cases hn : n = i
    · subst hn
      have e := laid_upd (ops := ops) (l := l) (vs := vs) (a := a) (i := n) (v := v) n (Nat.le_refl _)
      unfold laidIn
      simp only [ho, hl, upd_same, Bool.false_eq_true, if_false, if_true, e]
    · have ih := laid_put (vs := vs) (a := a) (v := v) ho hl n (by omega) (fun k hk => hd k (by omega))
      unfold laidIn
      cases ho' : ops[n]? with
      | none => simp only []; exact ih
      | some o' =>
        simp only [upd_other _ _ hn]
        by_cases hln : l n = true
        · simp only [hln, if_true]
          rw [Act.put_comm _ _ _ (hd n (by omega) hn o' ho'), ih]
        · rw [if_neg hln, if_neg hln]
          exact ih

/-- Does operation i look at what operation j writes? -/
def needs (ops : Array Oper) (i j : Nat) : Bool :=
  match ops[i]?, ops[j]? with
  | some o, some o' => (match o'.dst with | some d => (o.looksAt ops).contains d | none => false)
  | _, _ => false
/-- Does operation i wait for operation j, itself or by those that it waits for? -/
def waitsOn (ops : Array Oper) : Nat → Nat → Nat → Bool
  | 0, _, _ => false
  | f + 1, i, j => match ops[i]? with
    | some o => (o.after.toList.any fun e => Region.binds .any e && e.on == j) || (o.after.toList.any fun e => Region.binds .any e && waitsOn ops f e.on j)
    | none => false
/-- The first nA operations of a region may go in whatever order their own bonds leave; the rest waits for all of them. -/
def drawnOk (ops : Array Oper) (nA slots : Nat) : Bool :=
  decide (nA ≤ ops.size) &&
  ((List.range nA).all fun i => match ops[i]? with
    | none => false
    | some o => o.guard.isNone && (match o.op with | .select _ _ => false | _ => true) &&
      (match o.dst with
       | some d => decide (d < slots) && ((List.range nA).all fun k => k == i || (match ops[k]? with | some o' => o'.dst != some d | none => true))
       | none => false) &&
      (o.after.toList.all fun e => !Region.binds .any e || decide (e.on < i)) &&
      ((List.range nA).all fun j => !needs ops i j || (o.after.toList.any fun e => Region.binds .any e && e.on == j))) &&
  ((List.range ops.size).all fun i => decide (i < nA) || (match ops[i]? with
    | some _ => (List.range nA).all fun j => waitsOn ops 4 i j
    | none => true))
structure OpFine (ops : Array Oper) (nA slots i : Nat) (o : Oper) (d : Tmp) : Prop where
  what : ops[i]? = some o
  guard : o.guard = none
  sel : ∀ cs b, o.op ≠ .select cs b
  dst : o.dst = some d
  lt : d < slots
  lone : ∀ k, k < nA → k ≠ i → ∀ o', ops[k]? = some o' → o'.dst ≠ some d
  back : ∀ e ∈ o.after, Region.binds .any e = true → e.on < i
  waits : ∀ j, j < nA → needs ops i j = true → ∃ e ∈ o.after, Region.binds .any e = true ∧ e.on = j
theorem drawn_fine {ops : Array Oper} {nA slots : Nat} (h : drawnOk ops nA slots = true) : (∀ i, i < nA → ∃ o d, OpFine ops nA slots i o d) ∧ (∀ i o, nA ≤ i → ops[i]? = some o → ∀ j, j < nA → waitsOn ops 4 i j = true) ∧ nA ≤ ops.size := by
  unfold drawnOk at h
  simp only [Bool.and_eq_true, List.all_eq_true, List.mem_range, decide_eq_true_eq, Bool.or_eq_true] at h
  obtain ⟨⟨h0, h1⟩, h2⟩ := h
  refine ⟨fun i hi => ?_, fun i o hi ho j hj => ?_, h0⟩
  · have hA := h1 i hi
    cases ho : ops[i]? with
    | none => simp [ho] at hA
    | some o =>
      simp only [ho, Bool.and_eq_true] at hA
      obtain ⟨⟨⟨⟨g1, g2⟩, g3⟩, g4⟩, g5⟩ := hA
      cases hd : o.dst with
      | none => simp [hd] at g3
      | some d =>
        simp only [hd, Bool.and_eq_true, decide_eq_true_eq, List.all_eq_true, List.mem_range, Bool.or_eq_true, beq_iff_eq] at g3
        refine ⟨o, d, ho, by simpa using g1, fun cs b e => by simp [e] at g2, hd, g3.1, fun k hk hki o' ho' e => ?_, fun e he hb => ?_, fun j hj hn => ?_⟩
        · rcases g3.2 k hk with g | g
          · exact hki g
          · simp [ho', e] at g
        · have := List.all_eq_true.1 g4 e (by simpa using he)
          simpa [hb] using this
        · have := List.all_eq_true.1 g5 j (by simpa using hj)
          simp only [hn, Bool.not_true, Bool.false_or, List.any_eq_true, Bool.and_eq_true, beq_iff_eq] at this
          obtain ⟨e, he, hb, ho⟩ := this
          exact ⟨e, by simpa using he, hb, ho⟩
  · have hlt : i < ops.size := (Array.getElem?_eq_some_iff.1 ho).1
    rcases h2 i hlt with g | g
    · omega
    · simp only [ho, List.all_eq_true, List.mem_range] at g
      exact g j hj
/-- Whoever waits comes behind those that it waits for. -/
theorem waitsOn_listed {ops : Array Oper} {listed : Array Bool} {j : Nat} (hcl : ∀ k o, listed.getD k false = true → ops[k]? = some o → ∀ e ∈ o.after, Region.binds .any e = true → listed.getD e.on false = true) :
    ∀ f i o, ops[i]? = some o → (∀ e ∈ o.after, Region.binds .any e = true → listed.getD e.on false = true) → waitsOn ops f i j = true → listed.getD j false = true
  | 0, _, _, _, _, h => by simp [waitsOn] at h
  | f + 1, i, o, ho, hd, h => by
    unfold waitsOn at h
    simp only [ho, Bool.or_eq_true, List.any_eq_true, Bool.and_eq_true, beq_iff_eq] at h
    rcases h with ⟨e, he, hb, hon⟩ | ⟨e, he, hb, hw⟩
    · exact hon ▸ hd e (by simpa using he) hb
    · have hl := hd e (by simpa using he) hb
      cases ho' : ops[e.on]? with
      | none =>
        cases f with
        | zero => simp [waitsOn] at hw
        | succ f => simp [waitsOn, ho'] at hw
      | some o' => exact waitsOn_listed hcl f e.on o' ho' (hcl e.on o' hl ho') hw

/-- How many of the first n have not come up. -/
def unlisted (listed : Array Bool) : Nat → Nat
  | 0 => 0
  | n + 1 => unlisted listed n + (if listed.getD n true = true then 0 else 1)
theorem getD_set_same {listed : Array Bool} {i : Nat} (d : Bool) (h : i < listed.size) : (listed.setIfInBounds i true).getD i d = true := by simp [h]
theorem unlisted_set {listed : Array Bool} {i : Nat} (hs : i < listed.size) (h : listed.getD i true = false) : ∀ n, unlisted (listed.setIfInBounds i true) n + (if i < n then 1 else 0) = unlisted listed n
  | 0 => by simp [unlisted]
  | n + 1 => by
    have ih := unlisted_set hs h n
    unfold unlisted
    by_cases hn : n = i
    · subst hn
      rw [getD_set_same true hs, h]
      rw [if_neg (Nat.lt_irrefl n)] at ih
      rw [if_pos (Nat.lt_succ_self n)]
      simp
      omega
    · rw [getD_set_ne true (Ne.symm hn)]
      by_cases hi : i < n
      · rw [if_pos hi] at ih; rw [if_pos (show i < n + 1 by omega)]; omega
      · rw [if_neg hi] at ih; rw [if_neg (show ¬ i < n + 1 by omega)]; omega
theorem unlisted_zero {listed : Array Bool} : ∀ n, unlisted listed n = 0 → ∀ i, i < n → listed.getD i true = true
  | 0, _, i, h => by omega
  | n + 1, h, i, hi => by
    unfold unlisted at h
    by_cases hn : i = n
    · subst hn
      cases hl : listed.getD i true with
      | true => rfl
      | false => rw [hl] at h; simp at h
    · exact unlisted_zero n (by omega) i (by omega)
/-- The first that has not come up. -/
theorem unlisted_first {listed : Array Bool} : ∀ n, 0 < unlisted listed n → ∃ i, i < n ∧ listed.getD i true = false ∧ ∀ j, j < i → listed.getD j true = true
  | 0, h => by simp [unlisted] at h
  | n + 1, h => by
    by_cases h0 : 0 < unlisted listed n
    · obtain ⟨i, hi, a, b⟩ := unlisted_first n h0
      exact ⟨i, by omega, a, b⟩
    · refine ⟨n, by omega, ?_, fun j hj => unlisted_zero n (by omega) j hj⟩
      unfold unlisted at h
      cases hl : listed.getD n true with
      | true => rw [hl] at h; simp at h; omega
      | false => rfl
/-- The first nA have come up, no other. -/
def firstOf (nA n : Nat) : Array Bool := Array.replicate nA true ++ Array.replicate (n - nA) false

/-- An operation in another frame that it can't tell from this one. -/
theorem wp_like {P : Program} {o : Oper} {a b : Act} {W : World} {d : Tmp} {K : Act → World → Prop} {Q : Exit → Act → World → Prop} {T : Value → World → Prop}
    (hs : execOp b.eval o = execOp a.eval o) (hd : o.dst = some d) (hlt : d < a.tmps.size)
    (h : o.wp P a W (fun a' W' => ∃ v, a' = a.put o.dst v ∧ T v W') (fun _ _ _ => False)) (hK : ∀ v W', T v W' → K (b.put o.dst v) W') : o.wp P b W K Q := by
  have same : ∀ u v, a.put o.dst u = a.put o.dst v → u = v := fun u v e => by
    rw [hd] at e
    have := congrArg (fun x : Act => x.tmps[d]?) e
    simpa [Act.put, hlt] using this
  unfold Oper.wp at *
  rw [hs]
  generalize (execOp a.eval o).run P W = r at *
  cases r with
  | ok n w' =>
    cases n <;> simp only [Oper.upon] at h ⊢
    case value u => obtain ⟨v, e, ht⟩ := h; exact hK _ _ (same _ _ e ▸ ht)
    case skip => obtain ⟨v, e, ht⟩ := h; exact hK _ _ (same _ _ e ▸ ht)
    case defer dd =>
      obtain ⟨v, e, _⟩ := h
      exfalso
      have := congrArg (fun x : Act => x.defers.length) e
      rw [hd] at this
      simp [Act.put] at this
    case enter f args =>
      refine Calls.mono h fun e w'' he => ?_
      cases e with
      | returned u => obtain ⟨v, e, ht⟩ := he; exact hK _ _ (same _ _ e ▸ ht)
      | panicked c => exact he.elim
      | outgrown => obtain ⟨_, _, hf⟩ := (show LetsOut (fun _ _ _ => False) from he); exact hf.elim
    case row row args => exact Rows.mono h fun u w'' he => by obtain ⟨v, e, ht⟩ := he; exact hK _ _ (same _ _ e ▸ ht)
  | halt x w' =>
    cases x <;> simp only [Oper.upon] at h ⊢

section
variable {P : Program} {ops : Array Oper} {Q : Exit → Act → World → Prop} {nA : Nat} {a0 : Act} {w0 : World} {R : Nat → Value → World → Prop} {al : Nat → Bool} {E : Value → Value → Prop}

/-- What one operation of the first nA does, in whatever world that stands behind the region's first one. -/
def OpDoes (P : Program) (ops : Array Oper) (nA : Nat) (a0 : Act) (w0 : World) (R : Nat → Value → World → Prop) (al : Nat → Bool) (E : Value → Value → Prop) (i : Nat) : Prop :=
  ∀ (vs : Nat → Value) (W : World) (o : Oper), ops[i]? = some o → Below w0.heap.size w0 W → (∀ j, j < nA → needs ops i j = true → R j (vs j) W) →
    ∀ K : Act → World → Prop, Shut (∀ v W', Below W.heap.size W W' → R i v W' → (al i = true → ∀ j u, al j = true → R j u W → E v u) → K ((laidIn ops (fun _ => true) vs nA a0).put o.dst v) W') →
      o.wp P (laidIn ops (fun _ => true) vs nA a0) W K (fun _ _ _ => False)

theorem OpDoes.mk {i : Nat} {o : Oper} (ho : ops[i]? = some o)
    (h : ∀ (vs : Nat → Value) (W : World), Below w0.heap.size w0 W → (∀ j, j < nA → needs ops i j = true → R j (vs j) W) →
      ∀ K : Act → World → Prop, Shut (∀ v W', Below W.heap.size W W' → R i v W' → (al i = true → ∀ j u, al j = true → R j u W → E v u) → K ((laidIn ops (fun _ => true) vs nA a0).put o.dst v) W') →
      o.wp P (laidIn ops (fun _ => true) vs nA a0) W K (fun _ _ _ => False)) : OpDoes P ops nA a0 w0 R al E i := fun vs W o' ho' => by
  obtain rfl : o = o' := by rw [ho] at ho'; exact Option.some.inj ho'
  exact h vs W

theorem drawn_any (hE : ∀ u v, E u v → E v u) (H : drawnOk ops nA a0.tmps.size = true)
    (hmono : ∀ j v w w', Below w.heap.size w w' → R j v w → R j v w')
    (hop : ∀ i, i < nA → OpDoes P ops nA a0 w0 R al E i)
    (hfin : ∀ vs W, Below w0.heap.size w0 W → (∀ j, j < nA → R j (vs j) W) → (∀ i j, i < nA → j < nA → al i = true → al j = true → i ≠ j → E (vs i) (vs j)) →
      ∀ fuel, wpAny P .any ops Q (fuel + (ops.size - nA)) (firstOf nA ops.size) (laidIn ops (fun _ => true) vs nA a0) W) :
    ∀ fuel (listed : Array Bool) (vs : Nat → Value) (W : World), listed.size = ops.size → (∀ i, nA ≤ i → i < ops.size → listed.getD i true = false) → unlisted listed nA ≤ fuel →
      Below w0.heap.size w0 W → (∀ j, j < nA → listed.getD j true = true → R j (vs j) W) →
      (∀ i j, i < nA → j < nA → listed.getD i true = true → listed.getD j true = true → al i = true → al j = true → i ≠ j → E (vs i) (vs j)) →
      (∀ k o, listed.getD k false = true → ops[k]? = some o → ∀ e ∈ o.after, Region.binds .any e = true → listed.getD e.on false = true) →
      wpAny P .any ops Q (fuel + (ops.size - nA)) listed (laidIn ops (fun k => listed.getD k true) vs nA a0) W := by
  obtain ⟨hA, hB, hle⟩ := drawn_fine H
  -- all have come up
  have all : ∀ fuel (listed : Array Bool) (vs : Nat → Value) (W : World), listed.size = ops.size → (∀ i, nA ≤ i → i < ops.size → listed.getD i true = false) → unlisted listed nA = 0 →
      Below w0.heap.size w0 W → (∀ j, j < nA → listed.getD j true = true → R j (vs j) W) →
      (∀ i j, i < nA → j < nA → listed.getD i true = true → listed.getD j true = true → al i = true → al j = true → i ≠ j → E (vs i) (vs j)) →
      wpAny P .any ops Q (fuel + (ops.size - nA)) listed (laidIn ops (fun k => listed.getD k true) vs nA a0) W := by
    intro fuel listed vs W hsz hun hz hW hR hal
    have hl := unlisted_zero nA hz
    have e1 : listed = firstOf nA ops.size := by
      apply Array.ext
      · simp [firstOf, hsz]; omega
      · intro i h1 h2
        have g : listed[i] = listed.getD i true := by simp [h1]
        rw [g]
        simp only [firstOf]
        by_cases hi : i < nA
        · rw [hl i hi]; simp [hi]
        · rw [hun i (by omega) (by omega)]; simp [Array.getElem_append, hi]
    have e2 : ∀ n, n ≤ nA → laidIn ops (fun k => listed.getD k true) vs n a0 = laidIn ops (fun _ => true) vs n a0 := by
      intro n
      induction n with
      | zero => intro _; rfl
      | succ n ih =>
        intro hn
        unfold laidIn
        simp only [hl n (by omega), ih (by omega)]
    rw [e2 nA (Nat.le_refl _), e1]
    exact hfin vs W hW (fun j hj => hR j hj (hl j hj)) (fun i j hi hj => hal i j hi hj (hl i hi) (hl j hj)) fuel
  intro fuel
  induction fuel with
  | zero =>
    intro listed vs W hsz hun hz hW hR hal _
    exact all 0 listed vs W hsz hun (by omega) hW hR hal
  | succ fuel ih =>
    intro listed vs W hsz hun hc hW hR hal hcl
    by_cases hz : unlisted listed nA = 0
    · exact all (fuel + 1) listed vs W hsz hun hz hW hR hal
    obtain ⟨i0, hi0, hu0, hf0⟩ := unlisted_first (listed := listed) nA (by omega)
    rw [show fuel + 1 + (ops.size - nA) = (fuel + (ops.size - nA)) + 1 by omega]
    refine ⟨fun hr => ?_, fun i hi => ?_⟩
    · exfalso
      obtain ⟨o, d, F⟩ := hA i0 hi0
      have : i0 ∈ Region.ready .any ops listed := mem_ready.2 ⟨hu0, o, F.what, fun e he hb => by
        have h1 := F.back e he hb
        have h2 := hf0 e.on h1
        have h3 : e.on < listed.size := by omega
        simpa [h3] using h2⟩
      rw [hr] at this
      cases this
    · obtain ⟨hui, o, ho, hall⟩ := mem_ready.1 hi
      have hin : i < nA := by
        rcases Nat.lt_or_ge i nA with g | g
        · exact g
        · exfalso
          have h1 := waitsOn_listed hcl 4 i o ho hall (hB i o g ho i0 hi0)
          have h3 : i0 < listed.size := by omega
          have h4 : listed.getD i0 true = listed.getD i0 false := by simp [h3]
          rw [h4, h1] at hu0
          cases hu0
      obtain ⟨o', d, F⟩ := hA i hin
      obtain rfl : o = o' := by have := F.what; rw [ho] at this; exact Option.some.inj this
      have hil : i < listed.size := by omega
      have hdeps : ∀ j, j < nA → needs ops i j = true → listed.getD j true = true := fun j hj hn => by
        obtain ⟨e, he, hb, hon⟩ := F.waits j hj hn
        have h1 := hall e he hb
        rw [hon] at h1
        have h3 : j < listed.size := by omega
        simpa [h3] using h1
      have hw : Region.wanted o (yielded ops (laidIn ops (fun k => listed.getD k true) vs nA a0).tmps) = true := by
        unfold Region.wanted
        simp [F.guard]
      have hop' := hop i hin vs W o ho hW (fun j hj hn => hR j hj (hdeps j hj hn))
        (fun a' W' => ∃ v, a' = (laidIn ops (fun _ => true) vs nA a0).put o.dst v ∧ (Below W.heap.size W W' ∧ R i v W' ∧ (al i = true → ∀ j u, al j = true → R j u W → E v u)))
        (fun v W' h1 h2 h3 => ⟨v, rfl, h1, h2, h3⟩)
      unfold wpOp
      simp only [ho, hw, if_true]
      refine Or.inl (wp_like (T := fun v W' => Below W.heap.size W W' ∧ R i v W' ∧ (al i = true → ∀ j u, al j = true → R j u W → E v u)) (execOp_congr o F.sel fun x hx => laid_eval x nA fun k hk ok hok hdx => ?_) F.dst (by rw [laid_size]; exact F.lt) hop' ?_)
      · obtain ⟨dk, hdk, rfl⟩ := hdx
        have hn : needs ops i k = true := by
          unfold needs
          simp only [ho, hok, hdk]
          simp only [List.contains_iff_mem]
          exact List.mem_append_left _ (List.mem_filterMap.2 ⟨.tmp dk, by simpa using hx, rfl⟩)
        exact hdeps k hk hn
      · rintro v W' ⟨h1, h2, h3⟩
        rw [laid_put ho hui nA hin (fun k hk hki o' ho' dk hdk e => F.lone k hk hki o' ho' (by rw [hdk, ← e, F.dst]))]
        have e3 : (upd (fun k => listed.getD k true) i true) = fun k => (listed.setIfInBounds i true).getD k true := funext fun k => by
          by_cases hk : k = i
          · subst hk; rw [upd_same, getD_set_same true hil]
          · rw [upd_other _ _ hk, getD_set_ne true (Ne.symm hk)]
        rw [e3]
        have hcnt := unlisted_set hil hui nA
        rw [if_pos hin] at hcnt
        refine ih _ _ _ (by simpa using hsz) (fun k hk hks => ?_) (by omega) (hW.trans (h1.mono hW.size)) (fun j hj hl => ?_) (fun p q hp hq hlp hlq hap haq hpq => ?_) (fun k ok hlk hok e he hb => ?_)
        · rw [getD_set_ne true (show i ≠ k by omega)]; exact hun k hk hks
        · by_cases hji : j = i
          · subst hji; rw [upd_same]; exact h2
          · rw [upd_other _ _ hji]
            rw [getD_set_ne true (Ne.symm hji)] at hl
            exact hmono _ _ _ _ h1 (hR j hj hl)
        · by_cases hpi : p = i
          · subst hpi
            have hqp : q ≠ p := Ne.symm hpq
            rw [getD_set_ne true hpq] at hlq
            rw [upd_same, upd_other _ _ hqp]
            exact h3 hap q _ haq (hR q hq hlq)
          · rw [getD_set_ne true (Ne.symm hpi)] at hlp
            rw [upd_other _ _ hpi]
            by_cases hqi : q = i
            · subst hqi
              rw [upd_same]
              exact hE _ _ (h3 haq p _ hap (hR p hp hlp))
            · rw [getD_set_ne true (Ne.symm hqi)] at hlq
              rw [upd_other _ _ hqi]
              exact hal p q hp hq hlp hlq hap haq hpq
        · by_cases hki : k = i
          · subst hki
            obtain rfl : o = ok := by rw [ho] at hok; exact Option.some.inj hok
            exact getD_set_true (hall e he hb)
          · rw [getD_set_ne false (Ne.symm hki)] at hlk
            exact getD_set_true (hcl k ok hlk hok e he hb)

/-- A region that draws: each of its first operations alone, then what is left, in its order. -/
theorem wp_drawn {id : Nat} {w : World} (nA : Nat) (R : Nat → Value → World → Prop) (al : Nat → Bool) (E : Value → Value → Prop) (hE : ∀ u v, E u v → E v u) (hm : P.follows .mixedOrders = true) (H : drawnOk ops nA a0.tmps.size = true)
    (hmono : ∀ j v w w', Below w.heap.size w w' → R j v w → R j v w')
    (hop : ∀ i, i < nA → OpDoes P ops nA a0 w.drew R al E i)
    (hfin : ∀ vs W, Below w.drew.heap.size w.drew W → (∀ j, j < nA → R j (vs j) W) → (∀ i j, i < nA → j < nA → al i = true → al j = true → i ≠ j → E (vs i) (vs j)) →
      ∀ fuel, wpAny P .any ops Q (fuel + (ops.size - nA)) (firstOf nA ops.size) (laidIn ops (fun _ => true) vs nA a0) W) :
    (Code.region id ops true).wp P Q a0 w := by
  obtain ⟨_, _, hle⟩ := drawn_fine H
  refine wp_region_any hm ?_
  have h := drawn_any (Q := Q) hE H hmono hop hfin nA (Array.replicate ops.size false) (fun _ => undef) w.drew (by simp) (fun i _ hi => by simp [hi]) ?_ (Below.refl _ _) (fun j hj hl => ?_) (fun i j hi _ hl => ?_) (fun k o hl => ?_)
  · rw [show nA + (ops.size - nA) = ops.size by omega] at h
    have e : ∀ n, n ≤ nA → laidIn ops (fun k => (Array.replicate ops.size false).getD k true) (fun _ => undef) n a0 = a0 := by
      intro n
      induction n with
      | zero => intro _; rfl
      | succ n ih =>
        intro hn
        have g : (Array.replicate ops.size false).getD n true = false := by simp [show n < ops.size by omega]
        unfold laidIn
        simp only [g, Bool.false_eq_true, if_false, ih (by omega)]
        split <;> rfl
    rw [e nA (Nat.le_refl _)] at h
    exact h
  · have : ∀ n, unlisted (Array.replicate ops.size false) n ≤ n := by
      intro n
      induction n with
      | zero => simp [unlisted]
      | succ n ih => unfold unlisted; split <;> omega
    exact this nA
  · have : j < ops.size := by omega
    simp [this] at hl
  · have : i < ops.size := by omega
    simp [this] at hl
  · by_cases hk : k < ops.size
    · simp [hk] at hl
    · simp [hk] at hl
end
end Go.Proofs.Ytjoakmhebcfeaaa
