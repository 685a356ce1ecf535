/-
  What the operations of a region that draws yield: a value, a whole number in memory of its own, a new block.
-/
import Derived.Test.YtjoakmhebcfeaaaDrawn
namespace Go.Proofs.Ytjoakmhebcfeaaa
open Go.RowKit

/-- What an operation yields. -/
inductive Yield where
  | is (u : Value)
  | whole (lo : Nat) (x : Int) (n : Nat)
  | copy (lo : Nat) (b : Bool) (zs : List Int)
  | new (lo : Nat) (o : Obj)
def Yield.At : Yield → Value → World → Prop
  | .is u, v, _ => v = u
  | .whole lo x n, v, W => ∃ (g : Bool) (a : Option Addr) (c : Nat) (z : List Int), v = .agg #[.bool g, .slice a z.length c] ∧ Seg lo W (.slice a z.length c) z ∧ Canon g z ∧ sgn g (val z) = x ∧ z.length ≤ n
  | .copy lo b zs, v, W => ∃ (a : Option Addr) (c : Nat), v = .agg #[.bool b, .slice a zs.length c] ∧ Seg lo W (.slice a zs.length c) zs
  | .new lo o, v, W => ∃ k, v = .pointer (some ⟨k, 0, none⟩) ∧ Box W k o ∧ lo ≤ k
theorem Yield.mono (y : Yield) {v : Value} {W W' : World} (hb : Below W.heap.size W W') (h : y.At v W) : y.At v W' := by
  cases y with
  | is u => exact h
  | whole lo x n => obtain ⟨g, a, c, z, e, s, r⟩ := h; exact ⟨g, a, c, z, e, s.below hb, r⟩
  | copy lo b zs => obtain ⟨a, c, e, s⟩ := h; exact ⟨a, c, e, s.below hb⟩
  | new lo o => obtain ⟨k, e, b, r⟩ := h; exact ⟨k, e, b.below hb, r⟩
def yields (ks : List Yield) (j : Nat) (v : Value) (W : World) : Prop := match ks[j]? with | some y => y.At v W | none => False
theorem yields_mono (ks : List Yield) : ∀ j v w w', Below w.heap.size w w' → yields ks j v w → yields ks j v w' := fun j v w w' hb h => by
  unfold yields at *
  cases hk : ks[j]? with
  | none => rw [hk] at h; exact h
  | some y => rw [hk] at h; exact y.mono hb h
/-- Which of them lie in memory of their own. -/
def isFresh (ks : List Yield) (j : Nat) : Bool := match ks[j]? with | some (.is _) => false | some _ => true | none => false
/-- The block that a value lies in. -/
def sliceBlock : Value → Option Nat
  | .slice (some p) (_ + 1) _ => some p.block
  | _ => none
def blockOf : Value → Option Nat
  | .pointer (some p) => some p.block
  | .agg cs => (cs[1]?).bind sliceBlock
  | _ => none
/-- In no block together. -/
def Apart (u v : Value) : Prop := ∀ k, blockOf u = some k → blockOf v ≠ some k
theorem Apart.symm : ∀ u v, Apart u v → Apart v u := fun _ _ h k h1 h2 => h k h2 h1
theorem seg_blockOf {lo : Nat} {W : World} {a : Option Addr} {c : Nat} {z : List Int} {g : Bool} {k : Nat} (h : Seg lo W (.slice a z.length c) z) (hk : blockOf (.agg #[.bool g, .slice a z.length c]) = some k) : lo ≤ k ∧ k < W.heap.size ∧ z ≠ [] ∧ ∃ o, a = some ⟨k, o, none⟩ := by
  cases z with
  | nil =>
    cases a <;> simp [blockOf, sliceBlock] at hk
  | cons x z =>
    obtain ⟨b, o, rfl, h1, h2⟩ := h.row (by simp)
    simp [blockOf, sliceBlock] at hk
    subst hk
    exact ⟨h1, h2, by simp, o, rfl⟩
theorem lt_nil {p : Nat → Prop} : ∀ i, i < 0 → p i := fun _ h => absurd h (Nat.not_lt_zero _)
theorem lt_cons {p : Nat → Prop} {n : Nat} (h : p n) (hs : ∀ i, i < n → p i) : ∀ i, i < n + 1 → p i := fun i hi => by
  by_cases e : i = n
  · exact e ▸ h
  · exact hs i (by omega)
/-- What is new lies in no block of those that stand. -/
theorem fresh_apart (ks : List Yield) (i : Nat) {v : Value} {W : World} (hv : ∀ k, blockOf v = some k → W.heap.size ≤ k) : isFresh ks i = true → ∀ j u, isFresh ks j = true → yields ks j u W → Apart v u := fun _ j u hj h k h1 h2 => by
  have hk := hv k h1
  unfold isFresh at hj
  unfold yields at h
  cases hy : ks[j]? with
  | none => rw [hy] at hj; cases hj
  | some y =>
    rw [hy] at hj h
    cases y with
    | is u => cases hj
    | whole lo x n => obtain ⟨g, a, c, z, rfl, s, _⟩ := h; have := (seg_blockOf s h2).2.1; omega
    | copy lo b zs => obtain ⟨a, c, rfl, s⟩ := h; have := (seg_blockOf s h2).2.1; omega
    | new lo o =>
      obtain ⟨k', rfl, b, _⟩ := h
      simp only [blockOf, Option.some.injEq] at h2
      have := b.lt
      omega
theorem not_fresh {ks : List Yield} {i : Nat} {v : Value} {W : World} (h : isFresh ks i = false) : isFresh ks i = true → ∀ j u, isFresh ks j = true → yields ks j u W → Apart v u := fun h' => by rw [h] at h'; cases h'
theorem fresh_new (W : World) : ∀ k, blockOf (.pointer (some ⟨W.heap.size, 0, none⟩)) = some k → W.heap.size ≤ k := fun k h => by simp [blockOf] at h; omega
theorem new_apart {k k' : Nat} (h : Apart (.pointer (some ⟨k, 0, none⟩)) (.pointer (some ⟨k', 0, none⟩))) : k ≠ k' := fun e => h k rfl (by rw [e]; rfl)
/-- A list of words lies in no block of a sign and a list. -/
theorem Seg.noBox {lo : Nat} {W : World} {a : Option Addr} {n cap k : Nat} {zs : List Int} {b : Bool} {s : Value} {t : TypeId} (h : Seg lo W (.slice a n cap) zs) (hk : Box W k (.cells #[.bool b, s] t (0, 0))) (hs : ∀ k x, s ≠ .int k x) (hz : zs ≠ []) : ∀ g o, a = some ⟨g, o, none⟩ → g ≠ k := by
  rintro g o rfl rfl
  obtain ⟨hn, _⟩ := h.len
  subst hn
  have hc := (h.cell (j := 0) (List.length_pos_iff.2 hz)).1
  have := cell_of_heap hk.what (o + 0)
  rw [this] at hc
  rcases Nat.lt_or_ge (o + 0) 2 with g1 | g1
  · rcases Nat.lt_or_ge (o + 0) 1 with g2 | g2
    · have e : o + 0 = 0 := by omega
      rw [e] at hc
      simp at hc
    · have e : o + 0 = 1 := by omega
      rw [e] at hc
      simp at hc
      exact hs _ _ hc
  · rw [Array.getElem?_eq_none (by simpa using g1)] at hc
    cases hc
theorem Seg.besides {lo : Nat} {W W' : World} {a : Option Addr} {n cap k : Nat} {zs : List Int} {b : Bool} {s : Value} {t : TypeId} (h : Seg lo W (.slice a n cap) zs) (hk : Box W k (.cells #[.bool b, s] t (0, 0))) (hs : ∀ k x, s ≠ .int k x) (ht : Turns k W W') : Seg lo W' (.slice a n cap) zs := by
  by_cases hz : zs = []
  · obtain ⟨hn, hc⟩ := h.len
    subst hz hn
    exact Seg.empty _ _ _ _
  · obtain ⟨g, o, rfl, _, _⟩ := h.row (by rw [h.len.1]; exact List.length_pos_iff.2 hz)
    exact h.turns ht (h.noBox hk hs hz g o rfl)
theorem slice_noInt {a : Option Addr} {n c : Nat} : ∀ k x, Value.slice a n c ≠ .int k x := fun _ _ e => by cases e
/-- A region that draws, by what each of its operations yields. -/
theorem wp_yields {P : Program} {ops : Array Oper} {Q : Exit → Act → World → Prop} {a0 : Act} {id : Nat} {w : World} (nA : Nat) (ks : List Yield) (hm : P.follows .mixedOrders = true) (H : drawnOk ops nA a0.tmps.size = true)
    (hop : ∀ i, i < nA → OpDoes P ops nA a0 w.drew (yields ks) (isFresh ks) Apart i)
    (hfin : ∀ vs W, Below w.drew.heap.size w.drew W → (∀ j, j < nA → yields ks j (vs j) W) → (∀ i j, i < nA → j < nA → isFresh ks i = true → isFresh ks j = true → i ≠ j → Apart (vs i) (vs j)) →
      ∀ fuel, wpAny P .any ops Q (fuel + (ops.size - nA)) (firstOf nA ops.size) (laidIn ops (fun _ => true) vs nA a0) W) :
    (Code.region id ops true).wp P Q a0 w := wp_drawn nA (yields ks) (isFresh ks) Apart Apart.symm hm H (yields_mono ks) hop hfin

/-- Only what a value lies in has turned. -/
structure Spares (v : Value) (W W' : World) : Prop where
  os : W'.os = W.os
  tape : W'.tape = W.tape
  output : W'.output = W.output
  size : W.heap.size ≤ W'.heap.size
  same : ∀ k, blockOf v ≠ some k → W'.heap[k]? = W.heap[k]?
theorem Spares.below {v : Value} {W W' : World} {N : Nat} (h : Spares v W W') (hN : ∀ k, blockOf v = some k → N ≤ k) : Below N W W' := ⟨h.os, h.tape, h.output, h.size, fun k hk => h.same k fun e => by have := hN k e; omega⟩
theorem Box.spares {v : Value} {W W' : World} {k : Nat} {o : Obj} (h : Box W k o) (hs : Spares v W W') (hk : blockOf v ≠ some k) : Box W' k o := ⟨Nat.lt_of_lt_of_le h.lt hs.size, (hs.same k hk).trans h.what⟩
theorem Seg.spares {v : Value} {W W' : World} {lo : Nat} {a : Option Addr} {c : Nat} {z : List Int} {g : Bool} (h : Seg lo W (.slice a z.length c) z) (hs : Spares v W W') (hk : Apart v (.agg #[.bool g, .slice a z.length c])) : Seg lo W' (.slice a z.length c) z := by
  cases z with
  | nil => exact Seg.empty _ _ _ _
  | cons x z =>
    obtain ⟨b, o, rfl, h1, h2⟩ := h.row (by simp)
    have hb : blockOf v ≠ some b := fun e => hk b e rfl
    obtain ⟨hw, a', cap', e, g1, g3⟩ := h
    refine ⟨hw, a', cap', e, g1, fun hz => ?_⟩
    obtain ⟨b', o', e1, e2, e3, e4, e5⟩ := g3 hz
    simp only [Value.slice.injEq] at e
    obtain ⟨ea, _, _⟩ := e
    rw [e1] at ea
    simp only [Option.some.injEq, Addr.mk.injEq] at ea
    obtain ⟨rfl, rfl, _⟩ := ea
    have hh := hs.same b hb
    exact ⟨b, o, e1, e2, Nat.lt_of_lt_of_le e3 hs.size, fun j hj => (World.cell?_of_block (a := ⟨b, o + j, none⟩) hh).trans (e4 j hj), fun j hj => (World.frozen?_of_block (a := ⟨b, o + j, none⟩) hh).trans (e5 j hj)⟩
/-- OverNat writes where its list lies, and nowhere else. -/
theorem over_spares {lo : Nat} {a : Option Addr} {c : Nat} {z : List Int} {w : World} (g : Bool) (h : Seg lo w (.slice a z.length c) z) (hl : z.length ≤ 10000) :
    Calls Try.prog 19 #[.slice a z.length c] w fun e w' => e = .returned (.tuple #[]) ∧ Spares (.agg #[.bool g, .slice a z.length c]) w w' := by
  cases z with
  | nil =>
    refine (over_fr h (by simp) 0 (fun e => absurd rfl e)).mono ?_
    rintro e w' ⟨rfl, hb, hh⟩
    exact ⟨rfl, hb.os, hb.tape, hb.output, hb.size, fun k _ => hh k (Nat.zero_le _)⟩
  | cons x z =>
    obtain ⟨b, o, rfl, h1, h2⟩ := h.row (by simp)
    have h' : Seg b w (.slice (some ⟨b, o, none⟩) (x :: z).length c) (x :: z) := by
      obtain ⟨hw, a', cap', e, g1, g3⟩ := h
      refine ⟨hw, a', cap', e, g1, fun hz => ?_⟩
      obtain ⟨b', o', e1, e2, e3, e4, e5⟩ := g3 hz
      simp only [Value.slice.injEq] at e
      obtain ⟨ea, _, _⟩ := e
      rw [e1] at ea
      simp only [Option.some.injEq, Addr.mk.injEq] at ea
      obtain ⟨rfl, rfl, _⟩ := ea
      exact ⟨b, o, e1, Nat.le_refl _, e3, e4, e5⟩
    refine (over_fr h' (by omega) (b + 1) (fun _ b' o' e => by simp at e; omega)).mono ?_
    rintro e w' ⟨rfl, hb, hh⟩
    refine ⟨rfl, hb.os, hb.tape, hb.output, hb.size, fun k hk => ?_⟩
    have hne : k ≠ b := fun e => hk (by rw [e]; rfl)
    rcases Nat.lt_or_ge k b with q | q
    · exact hb.block k q
    · exact hh k (by omega)
/-- The block of a list is no box of a sign and a list. -/
theorem seg_offBox {lo k : Nat} {W : World} {a : Option Addr} {c : Nat} {z : List Int} {g b : Bool} {s : Value} {t : TypeId} (h : Seg lo W (.slice a z.length c) z) (hk : Box W k (.cells #[.bool b, s] t (0, 0))) (hs : ∀ k x, s ≠ .int k x) : blockOf (.agg #[.bool g, .slice a z.length c]) ≠ some k := fun e => by
  obtain ⟨_, _, hz, o, ho⟩ := seg_blockOf h e
  exact h.noBox hk hs hz k o ho rfl
end Go.Proofs.Ytjoakmhebcfeaaa
