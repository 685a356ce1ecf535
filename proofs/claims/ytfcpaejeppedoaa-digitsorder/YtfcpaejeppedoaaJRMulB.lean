/-
  Joined: RMulB WholeB WholeD WholeE WKit Boxes Drawn DrawnK Boxes3 WholeF WholeG SigA.
-/
import Derived.Test.YtfcpaejeppedoaaJQLong
import Derived.Deep.DeepCutAuto
import Derived.Test.YtfcpaejeppedoaaJRefD
import Derived.Deep.RegionWith
import Derived.Deep.RegionHeld3
import Derived.Test.YtfcpaejeppedoaaJRefA
import Derived.Laws.Rows
import Derived.Test.YtfcpaejeppedoaaKit
import Derived.Test.YtfcpaejeppedoaaJWiden
import Derived.OrdersHeld
import Derived.Laws.Bits64
import Derived.Test.YtfcpaejeppedoaaJEnds
namespace Go.Proofs.Ytfcpaejeppedoaa
open Go.RowKit
theorem two_cells {W W' : World} {g N : Nat} {u v : Value} {t : TypeId} (hh : W.heap[g]? = some (.cells #[u, v] t (0, 0))) (hb : Below N W W') (hg : g < N) :
    W'.cell? ⟨g, 0, none⟩ = some u ∧ W'.cell? ⟨g, 1, none⟩ = some v ∧ W'.frozen? ⟨g, 0, none⟩ = false ∧ W'.frozen? ⟨g, 1, none⟩ = false := by
  have h := (hb.block g hg).trans hh
  exact ⟨cell_of_heap h 0, cell_of_heap h 1, frozen_of_heap h 0, frozen_of_heap h 1⟩
end Go.Proofs.Ytfcpaejeppedoaa
namespace Go.Proofs.Ytfcpaejeppedoaa
open Go.RowKit
end Go.Proofs.Ytfcpaejeppedoaa
namespace Go.Proofs.Ytfcpaejeppedoaa
open Go.RowKit
theorem turned2 {W : World} {g : Nat} {u v : Value} {t : TypeId} (u' v' : Value) (hh : W.heap[g]? = some (.cells #[u, v] t (0, 0))) : ((W.setCell ⟨g, 0, none⟩ u').setCell ⟨g, 1, none⟩ v').heap[g]? = some (.cells #[u', v'] t (0, 0)) := by
  have h1 := heap_setCell_same W g 0 _ t u' hh
  have h2 := heap_setCell_same _ g 1 _ t v' h1
  exact h2
end Go.Proofs.Ytfcpaejeppedoaa
namespace Go.Proofs.Ytfcpaejeppedoaa
open Go.RowKit
end Go.Proofs.Ytfcpaejeppedoaa
namespace Go.Proofs.Ytfcpaejeppedoaa
open Go.RowKit
structure Box (W : World) (k : Nat) (o : Obj) : Prop where
  lt : k < W.heap.size
  what : W.heap[k]? = some o
theorem Box.new (w : World) (o : Obj) : Box (w.alloc o) w.heap.size o := ⟨by simp, World.alloc_heap_new w o⟩
theorem Box.below {W W' : World} {k : Nat} {o : Obj} (h : Box W k o) (hb : Below W.heap.size W W') : Box W' k o := ⟨Nat.lt_of_lt_of_le h.lt hb.size, (hb.block k h.lt).trans h.what⟩
theorem Box.under {W W' : World} {k N : Nat} {o : Obj} (h : Box W k o) (hb : Below N W W') (hk : k < N) : Box W' k o := ⟨Nat.lt_of_lt_of_le h.lt hb.size, (hb.block k hk).trans h.what⟩
theorem Box.above {W W' : World} {k hi : Nat} {o : Obj} (h : Box W k o) (hk : ∀ k, hi ≤ k → W'.heap[k]? = W.heap[k]?) (hs : W.heap.size ≤ W'.heap.size) (hh : hi ≤ k) : Box W' k o := ⟨Nat.lt_of_lt_of_le h.lt hs, (hk k hh).trans h.what⟩
theorem Box.turns {W W' : World} {k g : Nat} {o : Obj} (h : Box W k o) (ht : Turns g W W') (hk : k ≠ g) : Box W' k o := ⟨Nat.lt_of_lt_of_le h.lt ht.below.size, (ht.other k hk h.lt).trans h.what⟩
theorem Box.two {W : World} {k : Nat} {u v : Value} {t : TypeId} (h : Box W k (.cells #[u, v] t (0, 0))) : W.cell? ⟨k, 0, none⟩ = some u ∧ W.cell? ⟨k, 1, none⟩ = some v ∧ W.frozen? ⟨k, 0, none⟩ = false ∧ W.frozen? ⟨k, 1, none⟩ = false := two_cells h.what (Below.refl W.heap.size W) h.lt
theorem Box.set2 {W : World} {k : Nat} {u v : Value} {t : TypeId} (u' v' : Value) (h : Box W k (.cells #[u, v] t (0, 0))) : Box ((W.setCell ⟨k, 0, none⟩ u').setCell ⟨k, 1, none⟩ v') k (.cells #[u', v'] t (0, 0)) := ⟨Nat.lt_of_lt_of_le h.lt (turns2 k W u' v').below.size, turned2 u' v' h.what⟩
theorem Box.drew {W : World} {k : Nat} {o : Obj} (h : Box W k o) : Box W.drew k o := ⟨h.lt, h.what⟩
theorem Box.put {w : World} {k : Nat} (o : Obj) (hk : w.heap.size = k) : Box (w.alloc o) k o := hk ▸ Box.new w o
theorem Box.cells {W : World} {k : Nat} {u v : Value} {t : TypeId} (h : Box W k (.cells #[u, v] t (0, 0))) : W.cell? ⟨k, 0, none⟩ = some u ∧ W.cell? ⟨k, 1, none⟩ = some v := ⟨h.two.1, h.two.2.1⟩
theorem _root_.Go.RowKit.Below.a1 {A B : World} (h : Below A.heap.size A B) (o : Obj) : Below A.heap.size A (B.alloc o) := h.alloc h.size o
theorem below_new (w : World) (o : Obj) : Below w.heap.size w (w.alloc o) := (Below.refl _ _).alloc (Nat.le_refl _) _
def laidIn (ops : Array Oper) (l : Nat → Bool) (vs : Nat → Value) : Nat → Act → Act
  | 0, a => a
  | k + 1, a => match ops[k]? with
    | some o => if l k = true then (laidIn ops l vs k a).put o.dst (vs k) else laidIn ops l vs k a
    | none => laidIn ops l vs k a
def upd {α : Type} (f : Nat → α) (i : Nat) (x : α) : Nat → α := fun j => if j = i then x else f j
def needs (ops : Array Oper) (i j : Nat) : Bool :=
  match ops[i]?, ops[j]? with
  | some o, some o' => (match o'.dst with | some d => (o.looksAt ops).contains d | none => false)
  | _, _ => false
def waitsOn (ops : Array Oper) : Nat → Nat → Nat → Bool
  | 0, _, _ => false
  | f + 1, i, j => match ops[i]? with
    | some o => (o.after.toList.any fun e => Region.binds .any e && e.on == j) || (o.after.toList.any fun e => Region.binds .any e && waitsOn ops f e.on j)
    | none => false
def drawnOk (ops : Array Oper) (nA slots : Nat) : Bool :=
  decide (nA ≤ ops.size) &&
  ((List.range nA).all fun i => match ops[i]? with
    | none => false
    | some o => o.guard.isNone && (match o.op with | .select _ _ => false | _ => true) &&
      (match o.dst with
       | some d => decide (d < slots) && ((List.range nA).all fun k => k == i || (match ops[k]? with | some o' => o'.dst != some d | none => true))
       | none => false) &&
      (o.after.toList.all fun e => !Region.binds .any e || decide (e.on < i)) &&
      ((List.range nA).all fun j => !needs ops i j || (o.after.toList.any fun e => Region.binds .any e && e.on == j))) &&
  ((List.range ops.size).all fun i => decide (i < nA) || (match ops[i]? with
    | some _ => (List.range nA).all fun j => waitsOn ops 9 i j
    | none => true))
structure OpFine (ops : Array Oper) (nA slots i : Nat) (o : Oper) (d : Tmp) : Prop where
  what : ops[i]? = some o
  guard : o.guard = none
  sel : ∀ cs b, o.op ≠ .select cs b
  dst : o.dst = some d
  lt : d < slots
  lone : ∀ k, k < nA → k ≠ i → ∀ o', ops[k]? = some o' → o'.dst ≠ some d
  back : ∀ e ∈ o.after, Region.binds .any e = true → e.on < i
  waits : ∀ j, j < nA → needs ops i j = true → ∃ e ∈ o.after, Region.binds .any e = true ∧ e.on = j
def unlisted (listed : Array Bool) : Nat → Nat
  | 0 => 0
  | n + 1 => unlisted listed n + (if listed.getD n true = true then 0 else 1)
def firstOf (nA n : Nat) : Array Bool := Array.replicate nA true ++ Array.replicate (n - nA) false
section
variable {P : Program} {ops : Array Oper} {Q : Exit → Act → World → Prop} {nA : Nat} {a0 : Act} {w0 : World} {R : Nat → Value → World → Prop} {al : Nat → Bool} {E : Value → Value → Prop}
def OpDoes (P : Program) (ops : Array Oper) (nA : Nat) (a0 : Act) (w0 : World) (R : Nat → Value → World → Prop) (al : Nat → Bool) (E : Value → Value → Prop) (i : Nat) : Prop :=
  ∀ (vs : Nat → Value) (W : World) (o : Oper), ops[i]? = some o → Below w0.heap.size w0 W → (∀ j, j < nA → needs ops i j = true → R j (vs j) W) →
    ∀ K : Act → World → Prop, Shut (∀ v W', Below W.heap.size W W' → R i v W' → (al i = true → ∀ j u, al j = true → R j u W → E v u) → K ((laidIn ops (fun _ => true) vs nA a0).put o.dst v) W') →
      o.wp P (laidIn ops (fun _ => true) vs nA a0) W K (fun _ _ _ => False)
theorem OpDoes.mk {i : Nat} {o : Oper} (ho : ops[i]? = some o)
    (h : ∀ (vs : Nat → Value) (W : World), Below w0.heap.size w0 W → (∀ j, j < nA → needs ops i j = true → R j (vs j) W) →
      ∀ K : Act → World → Prop, Shut (∀ v W', Below W.heap.size W W' → R i v W' → (al i = true → ∀ j u, al j = true → R j u W → E v u) → K ((laidIn ops (fun _ => true) vs nA a0).put o.dst v) W') →
      o.wp P (laidIn ops (fun _ => true) vs nA a0) W K (fun _ _ _ => False)) : OpDoes P ops nA a0 w0 R al E i := fun vs W o' ho' => by
  obtain rfl : o = o' := by rw [ho] at ho'; exact Option.some.inj ho'
  exact h vs W
end
def sliceBlock : Value → Option Nat
  | .slice (some p) (_ + 1) _ => some p.block
  | _ => none
def InBlock : Value → Nat → Prop
  | .pointer (some p), k => p.block = k
  | .agg cs, k => ∃ i : Nat, (cs[i]?).bind sliceBlock = some k
  | _, _ => False
def Aside (u v : Value) : Prop := ∀ k, InBlock u k → ¬ InBlock v k
theorem Aside.symm : ∀ u v, Aside u v → Aside v u := fun _ _ h k h1 h2 => h k h2 h1
inductive Yield where
  | is (u : Value)
  | whole (lo : Nat) (x : Int) (n : Nat)
  | copy (lo : Nat) (b : Bool) (zs : List Int)
  | new (lo : Nat) (o : Obj)
  | rel (r : Value → World → Prop) (keeps : ∀ v W W', Below W.heap.size W W' → r v W → r v W')
  | own (r : Value → World → Prop) (keeps : ∀ v W W', Below W.heap.size W W' → r v W → r v W') (lies : ∀ v W k, r v W → InBlock v k → k < W.heap.size)
def Yield.At : Yield → Value → World → Prop
  | .is u, v, _ => v = u
  | .whole lo x n, v, W => ∃ (g : Bool) (a : Option Addr) (c : Nat) (z : List Int), v = .agg #[.bool g, .slice a z.length c] ∧ Seg lo W (.slice a z.length c) z ∧ Canon g z ∧ sgn g (val z) = x ∧ z.length ≤ n
  | .copy lo b zs, v, W => ∃ (a : Option Addr) (c : Nat), v = .agg #[.bool b, .slice a zs.length c] ∧ Seg lo W (.slice a zs.length c) zs
  | .new lo o, v, W => ∃ k, v = .pointer (some ⟨k, 0, none⟩) ∧ Box W k o ∧ lo ≤ k
  | .rel r _, v, W => r v W
  | .own r _ _, v, W => r v W
theorem Yield.mono (y : Yield) {v : Value} {W W' : World} (hb : Below W.heap.size W W') (h : y.At v W) : y.At v W' := by
  cases y with
  | is u => exact h
  | whole lo x n => obtain ⟨g, a, c, z, e, s, r⟩ := h; exact ⟨g, a, c, z, e, s.below hb, r⟩
  | copy lo b zs => obtain ⟨a, c, e, s⟩ := h; exact ⟨a, c, e, s.below hb⟩
  | new lo o => obtain ⟨k, e, b, r⟩ := h; exact ⟨k, e, b.below hb, r⟩
  | rel r keeps => exact keeps _ _ _ hb h
  | own r keeps lies => exact keeps _ _ _ hb h
def yields (ks : List Yield) (j : Nat) (v : Value) (W : World) : Prop := match ks[j]? with | some y => y.At v W | none => False
def isFresh (ks : List Yield) (j : Nat) : Bool := match ks[j]? with | some (.is _) => false | some (.rel _ _) => false | some _ => true | none => false
structure Spares (v : Value) (W W' : World) : Prop where
  os : W'.os = W.os
  tape : W'.tape = W.tape
  output : W'.output = W.output
  size : W.heap.size ≤ W'.heap.size
  same : ∀ k, ¬ InBlock v k → W'.heap[k]? = W.heap[k]?
theorem Spares.below {v : Value} {W W' : World} {N : Nat} (h : Spares v W W') (hN : ∀ k, InBlock v k → N ≤ k) : Below N W W' := ⟨h.os, h.tape, h.output, h.size, fun k hk => h.same k fun e => by have := hN k e; omega⟩
theorem three_cells {W W' : World} {g N : Nat} {u v x : Value} {t : TypeId} (hh : W.heap[g]? = some (.cells #[u, v, x] t (0, 0))) (hb : Below N W W') (hg : g < N) :
    W'.cell? ⟨g, 0, none⟩ = some u ∧ W'.cell? ⟨g, 1, none⟩ = some v ∧ W'.cell? ⟨g, 2, none⟩ = some x ∧ W'.frozen? ⟨g, 0, none⟩ = false ∧ W'.frozen? ⟨g, 1, none⟩ = false ∧ W'.frozen? ⟨g, 2, none⟩ = false := by
  have h := (hb.block g hg).trans hh
  exact ⟨cell_of_heap h 0, cell_of_heap h 1, cell_of_heap h 2, frozen_of_heap h 0, frozen_of_heap h 1, frozen_of_heap h 2⟩
theorem Box.three {W : World} {k : Nat} {u v x : Value} {t : TypeId} (h : Box W k (.cells #[u, v, x] t (0, 0))) : W.cell? ⟨k, 0, none⟩ = some u ∧ W.cell? ⟨k, 1, none⟩ = some v ∧ W.cell? ⟨k, 2, none⟩ = some x ∧ W.frozen? ⟨k, 0, none⟩ = false ∧ W.frozen? ⟨k, 1, none⟩ = false ∧ W.frozen? ⟨k, 2, none⟩ = false := three_cells h.what (Below.refl W.heap.size W) h.lt
end Go.Proofs.Ytfcpaejeppedoaa
namespace Go.Proofs.Ytfcpaejeppedoaa
open Go.RowKit
end Go.Proofs.Ytfcpaejeppedoaa
namespace Go.Proofs.Ytfcpaejeppedoaa
open Go.RowKit
def oneI (v : Int) : Ending := if -9223372036854775808 ≤ v ∧ v < 9223372036854775808 then .returned (.tuple #[.int .i64 v, .bool true]) else .returned (.tuple #[.int .i64 0, .bool false])
def formI (b : Bool) (zs : List Int) : Int := if formOf zs ≠ 0 ∨ (b = true ∧ zs = []) then 6 else 0
end Go.Proofs.Ytfcpaejeppedoaa
