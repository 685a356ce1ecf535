/-
  A range over a function whose body may write what the iterator reads later on: the iterator hands over only what is next, and reads only what the caller's own invariant tells of memory.
-/
import Derived.Test.YtejocefblpkdjabGreatSeg
import Derived.RangeFuncNested
import Derived.RangeFuncBound
import Derived.RangeFuncCalls
import Derived.RangeFuncLeaves
import Derived.RangeFuncBox
import Derived.RangeFuncRecord
namespace Go.Proofs.YtejocefblpkdjabGreat
open Go.RowKit

/-- What an iterator value does at a loop: R is what it reads of memory between two rounds (the loop's invariant must tell it), Nx which element may come behind which. -/
def Feeds {α : Type} (F : Fence) (n : Nat) (P : Program) (g : Nat) (lb : Array Value) (encs : α → Array Value) (R : List α → World → Prop) (Nx : List α → α → Prop) (S Sp : List α → Prop) (w : World) : Prop :=
  ∀ (l : Nat) (J Jx : List α → World → Prop) (W : World), Below w.heap.size w W → AbidesFrom W.heap.size J → AbidesFrom W.heap.size Jx → (∀ pre V, J pre V → R pre V) →
    (∀ pre x V, J pre V → Nx pre x → YieldAt F (n - 1) P l (encs x) V fun e V' => (e = .returned (.bool true) ∧ J (pre ++ [x]) V') ∨ (e = .returned (.bool false) ∧ Jx (pre ++ [x]) V')) →
    J [] W → CallsIn F n P g (#[.func (.yield l) #[] #[]] ++ lb) W fun e V => (∃ v, e = .returned v) ∧ ((∃ xs, S xs ∧ J xs V) ∨ (∃ pre, Sp pre ∧ Jx pre V))

/-- The record of a loop, by its state. -/
def loopRec (fn : FuncId) (tmps : Array Value) (ps : Array Tmp) (assign body : Code) (D : Nat) (st : LoopState) (pe : Option Code) : Loop :=
  { state := st, pending := pe, fn := fn, tmps := tmps, params := ps, assign := assign, body := body, defers := D }

section
variable {F : Fence} {n : Nat} {P : Program}

/-- A round's end: the record is put back, the block for deferred calls lies as it lay. -/
theorem round_ends {fn : FuncId} {tmps : Array Value} {ps : Array Tmp} {assign body : Code} {B : Nat} {V : World} (hl : V.heap[B + 1]? = some (.loop (loopRec fn tmps ps assign body B .busy none))) (hk : V.heap[B]? = some (.deferred (some []))) (jump : Option Code) :
    (Instr.endRound (B + 1) jump).run P V = .ok (.bool jump.isNone) (V.putObj (B + 1) (.loop (loopRec fn tmps ps assign body B (if jump.isNone then .ready else .done) jump))) ∧
    (V.putObj (B + 1) (.loop (loopRec fn tmps ps assign body B (if jump.isNone then .ready else .done) jump))).heap[B + 1]? = some (.loop (loopRec fn tmps ps assign body B (if jump.isNone then .ready else .done) jump)) ∧
    (V.putObj (B + 1) (.loop (loopRec fn tmps ps assign body B (if jump.isNone then .ready else .done) jump))).heap[B]? = some (.deferred (some [])) :=
  ⟨run_endRound (P := P) jump hl, World.putObj_heap_same (Array.getElem?_eq_some_iff.1 hl).1, (World.putObj_heap_other (by omega)).trans hk⟩

/-- The statement, by such an iterator. -/
theorem wpIn_rangeFunc_feeds {α : Type} {g : Operand} {ps : Array Tmp} {assign body : Code} {Q : Exit → Act → World → Prop} {a : Act} {w : World}
    (hro : F.round = none) (h1 : 1 ≤ n) {gf : Nat} {lb : Array Value} (hg : a.eval g = .func (.func gf) #[] lb) (hFg : F.fn gf) (eg : ∀ args w, (callFunc gf args).run P w = .ok (.enter gf args) w)
    {encs : α → Array Value} {R : List α → World → Prop} {Nx : List α → α → Prop} {S Sp : List α → Prop} {w0 : World} (hseq : Feeds F (n - 1) P gf lb encs R Nx S Sp w0) (hb0 : Below w0.heap.size w0 w) (hps : ∀ x, (encs x).size = ps.size)
    (I : List α → World → Prop) (Ix : Code → List α → World → Prop) (hI : OwnFrom w.heap.size I) (hIx : ∀ c, OwnFrom w.heap.size (Ix c)) (hR : ∀ pre V, I pre V → R pre V) (h0 : I [] w) (a₁ : α → Act)
    (hassign : ∀ (l : Nat) (x : α) (V : World) (K : Act → World → Prop), K (a₁ x) V →
      assign.wpIn (F.inRound l) (n - 1 - 1) P (Exit.then K (fun _ _ _ => False)) { tmps := (ps.zip (encs x)).foldl (fun t (p, v) => t.setIfInBounds p v) a.tmps, defers := [] } V)
    (hbody : ∀ (l : Nat) (pre : List α) (x : α) (V : World), I pre V → Nx pre x → body.wpIn (F.inRound l) (n - 1 - 1) P (ownPostG w.heap.size (fun _ _ => True) I Ix (pre ++ [x]) V) (a₁ x) V)
    (hdone : ∀ (D : Nat) (xs : List α) (V : World), w.heap.size ≤ D → S xs → I xs V → V.heap[D]? = some (.deferred (some [])) → Q .normal { a with defers := { target := .collected D, args := #[] } :: a.defers } V)
    (hstop : ∀ (D : Nat) (c : Code) (pre : List α) (V : World), w.heap.size ≤ D → Sp pre → Ix c pre V → V.heap[D]? = some (.deferred (some [])) → c.wpIn F n P Q { a with defers := { target := .collected D, args := #[] } :: a.defers } V) :
    (Code.rangeFunc g ps assign body).wpIn F n P Q a w := by
  refine wpIn_rangeFunc fun fn hfn => ?_
  rw [hro]
  obtain ⟨B, hB⟩ : ∃ B, w.heap.size = B := ⟨_, rfl⟩
  obtain ⟨W1, hW1⟩ : ∃ W1, (w.alloc (.deferred (some []))).alloc (.loop (loopRec fn a.tmps ps assign body B .ready none)) = W1 := ⟨_, rfl⟩
  have hz : W1.heap.size = B + 1 + 1 := by rw [← hW1, World.size_alloc, World.size_alloc, hB]
  have hL1 : W1.heap[B + 1]? = some (.loop (loopRec fn a.tmps ps assign body B .ready none)) := by
    have := World.alloc_heap_new (w.alloc (.deferred (some []))) (.loop (loopRec fn a.tmps ps assign body B .ready none))
    rwa [hW1, World.size_alloc, hB] at this
  have hK1 : W1.heap[B]? = some (.deferred (some [])) := by
    rw [← hW1, ← hB]; exact (Below.heap_alloc _ _ _ (by simp)).trans (World.alloc_heap_new w _)
  have hI1 : I [] W1 := by rw [← hW1]; exact hI.alloc _ (hI.alloc _ h0)
  have hb1 : Below w0.heap.size w0 W1 := by
    rw [← hW1]; exact hb0.trans ((((Below.refl _ w).alloc (Nat.le_refl _) _).alloc (by simp) _).mono hb0.size)
  rw [hB] at hI hIx hbody hdone hstop
  refine ⟨B + 1, [{ target := .collected B, args := #[] }], W1, { target := .fn (.func gf) lb, args := #[.func (.yield (B + 1)) #[] #[]] }, W1, gf, #[.func (.yield (B + 1)) #[] #[]] ++ lb, W1, ?_, ?_, ?_, ?_, fun _ => h1, ?_⟩
  · rw [← hW1, ← hB]; exact run_enterLoop_outer _ _ _ _ _
  · simp only [resolve, hg]; simp [go_sem]
  · intro f' hf'; simp [Target.leads] at hf'; subst hf'; exact hFg
  · simp [invoke, go_sem, eg]
  · -- what the iterator may turn is no cells and lies behind the loop's own blocks
    have far : ∀ {A : World} {row : Option Nat}, (∀ r, row = some r → W1.heap.size ≤ r ∧ ∃ o : Obj, A.heap[r]? = some o ∧ o.isWalk = true) → ∀ r, row = some r → B ≤ r ∧ ∃ o : Obj, A.heap[r]? = some o ∧ o.isCells = false :=
      fun hr r e => by obtain ⟨h1, o, h2, h3⟩ := hr r e; exact ⟨by omega, o, h2, Obj.not_cells_of_walk h3⟩
    have keep : ∀ {A A' : World} {row : Option Nat} {k : Nat} {o : Obj}, A.grownBy A' row → (∀ r, row = some r → W1.heap.size ≤ r ∧ ∃ o : Obj, A.heap[r]? = some o ∧ o.isWalk = true) → k < B + 1 + 1 → A.heap[k]? = some o → A'.heap[k]? = some o :=
      fun hg hr hk ho => (hg.block _ (Array.getElem?_eq_some_iff.1 ho).1 (fun e => by have := (hr _ e.symm).1; omega)).trans ho
    refine (hseq (B + 1)
      (fun pre V => I pre V ∧ V.heap[B + 1]? = some (.loop (loopRec fn a.tmps ps assign body B .ready none)) ∧ V.heap[B]? = some (.deferred (some [])))
      (fun pre V => ∃ c, Ix c pre V ∧ V.heap[B + 1]? = some (.loop (loopRec fn a.tmps ps assign body B .done (some c))) ∧ V.heap[B]? = some (.deferred (some [])))
      W1 hb1
      (fun s A A' row hs hg' hr => ⟨hI s A A' row hs.1 hg' (far hr), keep hg' hr (by omega) hs.2.1, keep hg' hr (by omega) hs.2.2⟩)
      (fun s A A' row hs hg' hr => by
        obtain ⟨c, h2, h3, h4⟩ := hs
        exact ⟨c, hIx c s A A' row h2 hg' (far hr), keep hg' hr (by omega) h3, keep hg' hr (by omega) h4⟩)
      (fun pre V h => hR pre V h.1) ?_ ⟨hI1, hL1, hK1⟩).mono ?_
    · rintro pre x V ⟨hi, hl, hk⟩ hnx
      have hlt := (Array.getElem?_eq_some_iff.1 hl).1
      have hy := run_yield (P := P) (args := encs x) hl (hps x)
      refine ⟨fn, _, assign, body, hy, roundIn_of_wpIn hfn (hassign _ x V _ ⟨_, run_beginRound hl rfl, ?_⟩)⟩
      have hl2 : (V.putObj (B + 1) (.loop (loopRec fn a.tmps ps assign body B .busy none))).heap[B + 1]? = some (.loop (loopRec fn a.tmps ps assign body B .busy none)) := World.putObj_heap_same hlt
      have hk2 : (V.putObj (B + 1) (.loop (loopRec fn a.tmps ps assign body B .busy none))).heap[B]? = some (.deferred (some [])) := (World.putObj_heap_other (by omega)).trans hk
      refine wpIn_mono (hbody _ pre x _ (hI.putObj _ hi (by omega) hl rfl) hnx) ?_
      rintro e a3 V3 hp
      cases e with
      | normal =>
        obtain ⟨hkf, _, hi3⟩ := hp
        have hl3 := hkf.same _ _ (by omega) hl2 rfl
        obtain ⟨hr, hl4, hk4⟩ := round_ends (P := P) hl3 (hkf.same _ _ (Nat.le_refl _) hk2 rfl) none
        exact ⟨_, _, hr, .inl ⟨rfl, hI.putObj _ hi3 (by omega) hl3 rfl, hl4, hk4⟩⟩
      | ret =>
        obtain ⟨hkf, hi3⟩ := hp
        have hl3 := hkf.same _ _ (by omega) hl2 rfl
        obtain ⟨hr, hl4, hk4⟩ := round_ends (P := P) hl3 (hkf.same _ _ (Nat.le_refl _) hk2 rfl) (some .ret)
        exact ⟨_, _, hr, .inr ⟨rfl, .ret, (hIx _).putObj _ hi3 (by omega) hl3 rfl, hl4, hk4⟩⟩
      | exit id =>
        obtain ⟨hkf, hi3⟩ := hp
        have hl3 := hkf.same _ _ (by omega) hl2 rfl
        obtain ⟨hr, hl4, hk4⟩ := round_ends (P := P) hl3 (hkf.same _ _ (Nat.le_refl _) hk2 rfl) (some (.exit id))
        exact ⟨_, _, hr, .inr ⟨rfl, .exit id, (hIx _).putObj _ hi3 (by omega) hl3 rfl, hl4, hk4⟩⟩
      | goto t =>
        obtain ⟨hkf, hi3⟩ := hp
        have hl3 := hkf.same _ _ (by omega) hl2 rfl
        obtain ⟨hr, hl4, hk4⟩ := round_ends (P := P) hl3 (hkf.same _ _ (Nat.le_refl _) hk2 rfl) (some (.goto t))
        exact ⟨_, _, hr, .inr ⟨rfl, .goto t, (hIx _).putObj _ hi3 (by omega) hl3 rfl, hl4, hk4⟩⟩
      | panic ch => exact hp.elim
      | outgrown => exact hp.elim
    · rintro e V ⟨⟨v, rfl⟩, (⟨xs, hS, hi, hl, hk⟩ | ⟨pre, hSp, c, hi, hl, hk⟩)⟩
      · exact ⟨none, _, run_endLoop (P := P) hl (by simp [loopRec]), hdone _ xs _ (Nat.le_refl _) hS (hI.putObj _ hi (by omega) hl rfl) ((World.putObj_heap_other (by omega)).trans hk)⟩
      · exact ⟨some c, _, run_endLoop (P := P) hl (by simp [loopRec]), hstop _ c pre _ (Nat.le_refl _) hSp ((hIx c).putObj _ hi (by omega) hl rfl) ((World.putObj_heap_other (by omega)).trans hk)⟩
end
end Go.Proofs.YtejocefblpkdjabGreat
