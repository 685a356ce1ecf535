/-
  Joined: RMulB WholeB WholeD WholeE WKit Boxes Drawn DrawnK Boxes3 WholeF WholeG SigA.
-/
import Derived.Test.YtfcpaejeppedoaaDoorJQLong
import Derived.Deep.DeepCutAuto
import Derived.Test.YtfcpaejeppedoaaDoorJRefD
import Derived.Deep.RegionWith
import Derived.Deep.RegionHeld3
import Derived.Test.YtfcpaejeppedoaaDoorJRefA
import Derived.Laws.Rows
import Derived.Test.YtfcpaejeppedoaaDoorKit
import Derived.Test.YtfcpaejeppedoaaDoorJWiden
import Derived.OrdersHeld
import Derived.Laws.Bits64
import Derived.Test.YtfcpaejeppedoaaDoorJEnds
namespace Go.Proofs.YtfcpaejeppedoaaDoor
open Go.RowKit
theorem two_cells {W W' : World} {g N : Nat} {u v : Value} {t : TypeId} (hh : W.heap[g]? = some (.cells #[u, v] t (0, 0))) (hb : Below N W W') (hg : g < N) :
    W'.cell? ⟨g, 0, none⟩ = some u ∧ W'.cell? ⟨g, 1, none⟩ = some v ∧ W'.frozen? ⟨g, 0, none⟩ = false ∧ W'.frozen? ⟨g, 1, none⟩ = false := by
  have h := (hb.block g hg).trans hh
  exact ⟨cell_of_heap h 0, cell_of_heap h 1, frozen_of_heap h 0, frozen_of_heap h 1⟩
end Go.Proofs.YtfcpaejeppedoaaDoor
namespace Go.Proofs.YtfcpaejeppedoaaDoor
open Go.RowKit
end Go.Proofs.YtfcpaejeppedoaaDoor
namespace Go.Proofs.YtfcpaejeppedoaaDoor
open Go.RowKit
theorem turned2 {W : World} {g : Nat} {u v : Value} {t : TypeId} (u' v' : Value) (hh : W.heap[g]? = some (.cells #[u, v] t (0, 0))) : ((W.setCell ⟨g, 0, none⟩ u').setCell ⟨g, 1, none⟩ v').heap[g]? = some (.cells #[u', v'] t (0, 0)) := by
  have h1 := heap_setCell_same W g 0 _ t u' hh
  have h2 := heap_setCell_same _ g 1 _ t v' h1
  exact h2
theorem two_new (w : World) (A B : Obj) : (((w.alloc A).alloc B).heap[w.heap.size]? = some A) ∧ (((w.alloc A).alloc B).heap[w.heap.size + 1]? = some B) ∧ Below w.heap.size w ((w.alloc A).alloc B) ∧ ((w.alloc A).alloc B).heap.size = w.heap.size + 2 := by
  have h1 := World.alloc_heap_new w A
  have h2 := World.alloc_heap_new (w.alloc A) B
  rw [World.size_alloc] at h2
  have b2 : Below (w.alloc A).heap.size (w.alloc A) ((w.alloc A).alloc B) := (Below.refl _ _).alloc (Nat.le_refl _) _
  exact ⟨(b2.block _ (by simp)).trans h1, h2, ((Below.refl _ w).alloc (Nat.le_refl _) _).alloc (by simp) _, by simp⟩
set_option maxRecDepth 100000 in
set_option maxHeartbeats 1000000 in
theorem samew_yes {lo lo' : Nat} {a c : Option Addr} {ca cc : Nat} {xs : List Int} {w : World} (b : Bool) (h : Seg lo w (.slice a xs.length ca) xs) (h' : Seg lo' w (.slice c xs.length cc) xs) (hl : xs.length ≤ 10000) :
    Calls Tryd.prog 42 #[.agg #[.bool b, .slice a xs.length ca], .agg #[.bool b, .slice c xs.length cc]] w fun e w' => e = .returned (.bool true) ∧ Below w.heap.size w w' := by
  obtain ⟨_, _, hB0, _⟩ := two_new w (.cells #[.bool b, .slice a xs.length ca] 29) (.cells #[.bool b, .slice c xs.length cc] 29)
  have hs := same_yes (h.below hB0) (h'.below hB0) (by omega)
  go_enter Tryd.func42, Tryd.ntmps42
  go_wp2_with fail
  refine hs.mono ?_
  rintro e w1 ⟨rfl, hb1⟩
  have hBB := hB0.trans (hb1.mono hB0.size)
  clear hs
  go_wp2
  go_ret
  exact ⟨rfl, hBB⟩
set_option maxRecDepth 100000 in
set_option maxHeartbeats 1000000 in
theorem samew_no {lo lo' : Nat} {a c : Option Addr} {ca cc : Nat} {xs ys : List Int} {w : World} (b d : Bool) (h : Seg lo w (.slice a xs.length ca) xs) (h' : Seg lo' w (.slice c ys.length cc) ys) (hl : xs.length ≤ 10000) (hne : ¬ (b = d ∧ xs = ys)) :
    Calls Tryd.prog 42 #[.agg #[.bool b, .slice a xs.length ca], .agg #[.bool d, .slice c ys.length cc]] w fun e w' => e = .returned (.bool false) ∧ Below w.heap.size w w' := by
  obtain ⟨_, _, hB0, _⟩ := two_new w (.cells #[.bool b, .slice a xs.length ca] 29) (.cells #[.bool d, .slice c ys.length cc] 29)
  by_cases hbd : b = d
  · subst hbd
    have hs := same_no (h.below hB0) (h'.below hB0) (by omega) (fun e => hne ⟨rfl, e⟩)
    clear hne
    go_enter Tryd.func42, Tryd.ntmps42
    go_wp2_with fail
    refine hs.mono ?_
    rintro e w1 ⟨rfl, hb1⟩
    have hBB := hB0.trans (hb1.mono hB0.size)
    clear hs
    go_wp2
    go_ret
    exact ⟨rfl, hBB⟩
  · have hf : (b == d) = false := beq_eq_false_iff_ne.2 hbd
    clear hne hbd
    go_enter Tryd.func42, Tryd.ntmps42
    go_wp2
    go_ret
    exact ⟨rfl, hB0⟩
structure Box (W : World) (k : Nat) (o : Obj) : Prop where
  lt : k < W.heap.size
  what : W.heap[k]? = some o
theorem Box.new (w : World) (o : Obj) : Box (w.alloc o) w.heap.size o := ⟨by simp, World.alloc_heap_new w o⟩
theorem Box.below {W W' : World} {k : Nat} {o : Obj} (h : Box W k o) (hb : Below W.heap.size W W') : Box W' k o := ⟨Nat.lt_of_lt_of_le h.lt hb.size, (hb.block k h.lt).trans h.what⟩
theorem Box.under {W W' : World} {k N : Nat} {o : Obj} (h : Box W k o) (hb : Below N W W') (hk : k < N) : Box W' k o := ⟨Nat.lt_of_lt_of_le h.lt hb.size, (hb.block k hk).trans h.what⟩
theorem Box.above {W W' : World} {k hi : Nat} {o : Obj} (h : Box W k o) (hk : ∀ k, hi ≤ k → W'.heap[k]? = W.heap[k]?) (hs : W.heap.size ≤ W'.heap.size) (hh : hi ≤ k) : Box W' k o := ⟨Nat.lt_of_lt_of_le h.lt hs, (hk k hh).trans h.what⟩
theorem Box.turns {W W' : World} {k g : Nat} {o : Obj} (h : Box W k o) (ht : Turns g W W') (hk : k ≠ g) : Box W' k o := ⟨Nat.lt_of_lt_of_le h.lt ht.below.size, (ht.other k hk h.lt).trans h.what⟩
theorem Box.two {W : World} {k : Nat} {u v : Value} {t : TypeId} (h : Box W k (.cells #[u, v] t (0, 0))) : W.cell? ⟨k, 0, none⟩ = some u ∧ W.cell? ⟨k, 1, none⟩ = some v ∧ W.frozen? ⟨k, 0, none⟩ = false ∧ W.frozen? ⟨k, 1, none⟩ = false := two_cells h.what (Below.refl W.heap.size W) h.lt
theorem Box.set2 {W : World} {k : Nat} {u v : Value} {t : TypeId} (u' v' : Value) (h : Box W k (.cells #[u, v] t (0, 0))) : Box ((W.setCell ⟨k, 0, none⟩ u').setCell ⟨k, 1, none⟩ v') k (.cells #[u', v'] t (0, 0)) := ⟨Nat.lt_of_lt_of_le h.lt (turns2 k W u' v').below.size, turned2 u' v' h.what⟩
theorem Box.drew {W : World} {k : Nat} {o : Obj} (h : Box W k o) : Box W.drew k o := ⟨h.lt, h.what⟩
theorem Box.put {w : World} {k : Nat} (o : Obj) (hk : w.heap.size = k) : Box (w.alloc o) k o := hk ▸ Box.new w o
theorem Box.cells {W : World} {k : Nat} {u v : Value} {t : TypeId} (h : Box W k (.cells #[u, v] t (0, 0))) : W.cell? ⟨k, 0, none⟩ = some u ∧ W.cell? ⟨k, 1, none⟩ = some v := ⟨h.two.1, h.two.2.1⟩
theorem _root_.Go.RowKit.Below.a1 {A B : World} (h : Below A.heap.size A B) (o : Obj) : Below A.heap.size A (B.alloc o) := h.alloc h.size o
theorem below_new (w : World) (o : Obj) : Below w.heap.size w (w.alloc o) := (Below.refl _ _).alloc (Nat.le_refl _) _
theorem nm {B : Nat} {a W : World} (_ : Below B a W) : ∃ u, W = u := ⟨_, rfl⟩
def laidIn (ops : Array Oper) (l : Nat → Bool) (vs : Nat → Value) : Nat → Act → Act
  | 0, a => a
  | k + 1, a => match ops[k]? with
    | some o => if l k = true then (laidIn ops l vs k a).put o.dst (vs k) else laidIn ops l vs k a
    | none => laidIn ops l vs k a
def upd {α : Type} (f : Nat → α) (i : Nat) (x : α) : Nat → α := fun j => if j = i then x else f j
def needs (ops : Array Oper) (i j : Nat) : Bool :=
  match ops[i]?, ops[j]? with
  | some o, some o' => (match o'.dst with | some d => (o.looksAt ops).contains d | none => false)
  | _, _ => false
def waitsOn (ops : Array Oper) : Nat → Nat → Nat → Bool
  | 0, _, _ => false
  | f + 1, i, j => match ops[i]? with
    | some o => (o.after.toList.any fun e => Region.binds .any e && e.on == j) || (o.after.toList.any fun e => Region.binds .any e && waitsOn ops f e.on j)
    | none => false
def drawnOk (ops : Array Oper) (nA slots : Nat) : Bool :=
  decide (nA ≤ ops.size) &&
  ((List.range nA).all fun i => match ops[i]? with
    | none => false
    | some o => o.guard.isNone && (match o.op with | .select _ _ => false | _ => true) &&
      (match o.dst with
       | some d => decide (d < slots) && ((List.range nA).all fun k => k == i || (match ops[k]? with | some o' => o'.dst != some d | none => true))
       | none => false) &&
      (o.after.toList.all fun e => !Region.binds .any e || decide (e.on < i)) &&
      ((List.range nA).all fun j => !needs ops i j || (o.after.toList.any fun e => Region.binds .any e && e.on == j))) &&
  ((List.range ops.size).all fun i => decide (i < nA) || (match ops[i]? with
    | some _ => (List.range nA).all fun j => waitsOn ops 9 i j
    | none => true))
structure OpFine (ops : Array Oper) (nA slots i : Nat) (o : Oper) (d : Tmp) : Prop where
  what : ops[i]? = some o
  guard : o.guard = none
  sel : ∀ cs b, o.op ≠ .select cs b
  dst : o.dst = some d
  lt : d < slots
  lone : ∀ k, k < nA → k ≠ i → ∀ o', ops[k]? = some o' → o'.dst ≠ some d
  back : ∀ e ∈ o.after, Region.binds .any e = true → e.on < i
  waits : ∀ j, j < nA → needs ops i j = true → ∃ e ∈ o.after, Region.binds .any e = true ∧ e.on = j
def unlisted (listed : Array Bool) : Nat → Nat
  | 0 => 0
  | n + 1 => unlisted listed n + (if listed.getD n true = true then 0 else 1)
def firstOf (nA n : Nat) : Array Bool := Array.replicate nA true ++ Array.replicate (n - nA) false
section
variable {P : Program} {ops : Array Oper} {Q : Exit → Act → World → Prop} {nA : Nat} {a0 : Act} {w0 : World} {R : Nat → Value → World → Prop} {al : Nat → Bool} {E : Value → Value → Prop}
def OpDoes (P : Program) (ops : Array Oper) (nA : Nat) (a0 : Act) (w0 : World) (R : Nat → Value → World → Prop) (al : Nat → Bool) (E : Value → Value → Prop) (i : Nat) : Prop :=
  ∀ (vs : Nat → Value) (W : World) (o : Oper), ops[i]? = some o → Below w0.heap.size w0 W → (∀ j, j < nA → needs ops i j = true → R j (vs j) W) →
    ∀ K : Act → World → Prop, Shut (∀ v W', Below W.heap.size W W' → R i v W' → (al i = true → ∀ j u, al j = true → R j u W → E v u) → K ((laidIn ops (fun _ => true) vs nA a0).put o.dst v) W') →
      o.wp P (laidIn ops (fun _ => true) vs nA a0) W K (fun _ _ _ => False)
theorem OpDoes.mk {i : Nat} {o : Oper} (ho : ops[i]? = some o)
    (h : ∀ (vs : Nat → Value) (W : World), Below w0.heap.size w0 W → (∀ j, j < nA → needs ops i j = true → R j (vs j) W) →
      ∀ K : Act → World → Prop, Shut (∀ v W', Below W.heap.size W W' → R i v W' → (al i = true → ∀ j u, al j = true → R j u W → E v u) → K ((laidIn ops (fun _ => true) vs nA a0).put o.dst v) W') →
      o.wp P (laidIn ops (fun _ => true) vs nA a0) W K (fun _ _ _ => False)) : OpDoes P ops nA a0 w0 R al E i := fun vs W o' ho' => by
  obtain rfl : o = o' := by rw [ho] at ho'; exact Option.some.inj ho'
  exact h vs W
end
def sliceBlock : Value → Option Nat
  | .slice (some p) (_ + 1) _ => some p.block
  | _ => none
def InBlock : Value → Nat → Prop
  | .pointer (some p), k => p.block = k
  | .agg cs, k => ∃ i : Nat, (cs[i]?).bind sliceBlock = some k
  | _, _ => False
def Aside (u v : Value) : Prop := ∀ k, InBlock u k → ¬ InBlock v k
theorem Aside.symm : ∀ u v, Aside u v → Aside v u := fun _ _ h k h1 h2 => h k h2 h1
inductive Yield where
  | is (u : Value)
  | whole (lo : Nat) (x : Int) (n : Nat)
  | copy (lo : Nat) (b : Bool) (zs : List Int)
  | new (lo : Nat) (o : Obj)
  | rel (r : Value → World → Prop) (keeps : ∀ v W W', Below W.heap.size W W' → r v W → r v W')
  | own (r : Value → World → Prop) (keeps : ∀ v W W', Below W.heap.size W W' → r v W → r v W') (lies : ∀ v W k, r v W → InBlock v k → k < W.heap.size)
def Yield.At : Yield → Value → World → Prop
  | .is u, v, _ => v = u
  | .whole lo x n, v, W => ∃ (g : Bool) (a : Option Addr) (c : Nat) (z : List Int), v = .agg #[.bool g, .slice a z.length c] ∧ Seg lo W (.slice a z.length c) z ∧ Canon g z ∧ sgn g (val z) = x ∧ z.length ≤ n
  | .copy lo b zs, v, W => ∃ (a : Option Addr) (c : Nat), v = .agg #[.bool b, .slice a zs.length c] ∧ Seg lo W (.slice a zs.length c) zs
  | .new lo o, v, W => ∃ k, v = .pointer (some ⟨k, 0, none⟩) ∧ Box W k o ∧ lo ≤ k
  | .rel r _, v, W => r v W
  | .own r _ _, v, W => r v W
theorem Yield.mono (y : Yield) {v : Value} {W W' : World} (hb : Below W.heap.size W W') (h : y.At v W) : y.At v W' := by
  cases y with
  | is u => exact h
  | whole lo x n => obtain ⟨g, a, c, z, e, s, r⟩ := h; exact ⟨g, a, c, z, e, s.below hb, r⟩
  | copy lo b zs => obtain ⟨a, c, e, s⟩ := h; exact ⟨a, c, e, s.below hb⟩
  | new lo o => obtain ⟨k, e, b, r⟩ := h; exact ⟨k, e, b.below hb, r⟩
  | rel r keeps => exact keeps _ _ _ hb h
  | own r keeps lies => exact keeps _ _ _ hb h
def yields (ks : List Yield) (j : Nat) (v : Value) (W : World) : Prop := match ks[j]? with | some y => y.At v W | none => False
def isFresh (ks : List Yield) (j : Nat) : Bool := match ks[j]? with | some (.is _) => false | some (.rel _ _) => false | some _ => true | none => false
structure Spares (v : Value) (W W' : World) : Prop where
  os : W'.os = W.os
  tape : W'.tape = W.tape
  output : W'.output = W.output
  size : W.heap.size ≤ W'.heap.size
  same : ∀ k, ¬ InBlock v k → W'.heap[k]? = W.heap[k]?
theorem Spares.below {v : Value} {W W' : World} {N : Nat} (h : Spares v W W') (hN : ∀ k, InBlock v k → N ≤ k) : Below N W W' := ⟨h.os, h.tape, h.output, h.size, fun k hk => h.same k fun e => by have := hN k e; omega⟩
theorem turns3 (g : Nat) (W : World) (u v x : Value) : Turns g W (((W.setCell ⟨g, 0, none⟩ u).setCell ⟨g, 1, none⟩ v).setCell ⟨g, 2, none⟩ x) := (((Turns.refl g W).setCell 0 u).setCell 1 v).setCell 2 x
theorem turned3 {W : World} {g : Nat} {u v x : Value} {t : TypeId} (u' v' x' : Value) (hh : W.heap[g]? = some (.cells #[u, v, x] t (0, 0))) : (((W.setCell ⟨g, 0, none⟩ u').setCell ⟨g, 1, none⟩ v').setCell ⟨g, 2, none⟩ x').heap[g]? = some (.cells #[u', v', x'] t (0, 0)) := by
  have h1 := heap_setCell_same W g 0 _ t u' hh
  have h2 := heap_setCell_same _ g 1 _ t v' h1
  have h3 := heap_setCell_same _ g 2 _ t x' h2
  exact h3
theorem three_cells {W W' : World} {g N : Nat} {u v x : Value} {t : TypeId} (hh : W.heap[g]? = some (.cells #[u, v, x] t (0, 0))) (hb : Below N W W') (hg : g < N) :
    W'.cell? ⟨g, 0, none⟩ = some u ∧ W'.cell? ⟨g, 1, none⟩ = some v ∧ W'.cell? ⟨g, 2, none⟩ = some x ∧ W'.frozen? ⟨g, 0, none⟩ = false ∧ W'.frozen? ⟨g, 1, none⟩ = false ∧ W'.frozen? ⟨g, 2, none⟩ = false := by
  have h := (hb.block g hg).trans hh
  exact ⟨cell_of_heap h 0, cell_of_heap h 1, cell_of_heap h 2, frozen_of_heap h 0, frozen_of_heap h 1, frozen_of_heap h 2⟩
theorem Box.three {W : World} {k : Nat} {u v x : Value} {t : TypeId} (h : Box W k (.cells #[u, v, x] t (0, 0))) : W.cell? ⟨k, 0, none⟩ = some u ∧ W.cell? ⟨k, 1, none⟩ = some v ∧ W.cell? ⟨k, 2, none⟩ = some x ∧ W.frozen? ⟨k, 0, none⟩ = false ∧ W.frozen? ⟨k, 1, none⟩ = false ∧ W.frozen? ⟨k, 2, none⟩ = false := three_cells h.what (Below.refl W.heap.size W) h.lt
theorem Box.set3 {W : World} {k : Nat} {u v x : Value} {t : TypeId} (u' v' x' : Value) (h : Box W k (.cells #[u, v, x] t (0, 0))) : Box (((W.setCell ⟨k, 0, none⟩ u').setCell ⟨k, 1, none⟩ v').setCell ⟨k, 2, none⟩ x') k (.cells #[u', v', x'] t (0, 0)) := ⟨Nat.lt_of_lt_of_le h.lt (turns3 k W u' v' x').below.size, turned3 u' v' x' h.what⟩
end Go.Proofs.YtfcpaejeppedoaaDoor
namespace Go.Proofs.YtfcpaejeppedoaaDoor
open Go.RowKit
end Go.Proofs.YtfcpaejeppedoaaDoor
namespace Go.Proofs.YtfcpaejeppedoaaDoor
open Go.RowKit
def oneI (v : Int) : Ending := if -9223372036854775808 ≤ v ∧ v < 9223372036854775808 then .returned (.tuple #[.int .i64 v, .bool true]) else .returned (.tuple #[.int .i64 0, .bool false])
def formI (b : Bool) (zs : List Int) : Int := if formOf zs ≠ 0 ∨ (b = true ∧ zs = []) then 6 else 0
set_option maxRecDepth 100000 in
set_option maxHeartbeats 1000000 in
theorem swhole_any {lo : Nat} {a : Option Addr} {n cap : Nat} {zs : List Int} {w : World} (h : Seg lo w (.slice a n cap) zs) (hn : Norm zs) (below : Bool) :
    Calls Tryd.prog 44 #[.bool below, .slice a n cap] w fun e w' => ∃ b' : Bool, e = .returned (.agg #[.bool b', .slice a zs.length cap]) ∧ Canon b' zs ∧ sgn b' (val zs) = sgn below (val zs) ∧ Below w.heap.size w w' := by
  obtain ⟨rfl, _⟩ := h.len
  have hBB : ∀ o : Obj, Below w.heap.size w (w.alloc o) := fun o => (Below.refl _ w).alloc (Nat.le_refl _) _
  cases below with
  | false =>
    go_enter Tryd.func44, Tryd.ntmps44
    go_wp2
    refine bodyPost_ret (v := .agg #[.bool false, .slice a zs.length cap]) (by simp [results, Tryd.f44, go_sem]) rfl ?_
    exact ⟨false, rfl, ⟨hn, fun h => by cases h⟩, rfl, hBB _⟩
  | true =>
    by_cases h0 : zs = []
    · subst h0
      go_enter Tryd.func44, Tryd.ntmps44
      go_wp2
      refine bodyPost_ret (v := .agg #[.bool false, .slice a 0 cap]) (by simp [results, Tryd.f44, go_sem]) rfl ?_
      exact ⟨false, rfl, ⟨hn, fun h => by cases h⟩, rfl, hBB _⟩
    · have hp : (0 : Int) < (zs.length : Int) := by have := List.length_pos_iff.2 h0; omega
      have hpN : 0 < zs.length := List.length_pos_iff.2 h0
      have H0 := hide h0
      clear h0
      go_enter Tryd.func44, Tryd.ntmps44
      go_wp2
      refine bodyPost_ret (v := .agg #[.bool true, .slice a zs.length cap]) (by simp [results, Tryd.f44, go_sem]) rfl ?_
      exact ⟨true, rfl, ⟨hn, fun _ => H0.out⟩, rfl, hBB _⟩
set_option maxRecDepth 100000 in
set_option maxHeartbeats 1000000 in
theorem sof_any (x : Int) (hx : -9223372036854775808 ≤ x ∧ x < 9223372036854775808) (w : World) :
    Calls Tryd.prog 25 #[.int .i64 x] w fun e w' => ∃ (b' : Bool) (a' : Option Addr) (cap' : Nat) (ts : List Int), e = .returned (.agg #[.bool b', .slice a' ts.length cap']) ∧ Seg w.heap.size w' (.slice a' ts.length cap') ts ∧ Canon b' ts ∧ sgn b' (val ts) = x ∧ ts.length ≤ 1 ∧ Below w.heap.size w w' := by
  have hB0 : Below w.heap.size w (w.alloc (.cells #[.bool false, .slice none 0 0] 29)) := (Below.refl _ w).alloc (Nat.le_refl _) _
  have e3 := World.alloc_heap_new w (.cells #[.bool false, .slice none 0 0] 29)
  have HZ : Hid ((w.alloc (.cells #[.bool false, .slice none 0 0] 29)).heap.size = w.heap.size + 1) := by rw [Hid]; simp
  by_cases h0 : x < 0
  · have hU : IntKind.u64.wrap (-IntKind.u64.wrap x) = -x := by rw [IntKind.wrap_u64, IntKind.wrap_u64]; omega
    go_enter Tryd.func25, Tryd.ntmps25
    go_wp2_with fail
    try rw [hU]
    refine (of_any (-x) (by omega) _).mono ?_
    rintro e w1 ⟨a1, c1, ts, rfl, hs1, hn1, hv1, hl1, hb1⟩
    have HV1 := hide hv1
    clear hv1 hU
    go_wp2_with fail
    refine (swhole_any hs1 hn1 true).mono ?_
    rintro e w2 ⟨b2, rfl, hc2, hv2, hb2⟩
    have hb2' := hb1.trans (hb2.mono hb1.size)
    obtain ⟨r0, r1, r2, r3⟩ := two_cells e3 hb2' (by have := HZ.out; omega)
    have hT := turns2 w.heap.size w2 (.bool b2) (.slice a1 ts.length c1)
    have HV2 := hide hv2
    clear hv2
    have hS := ((hs1.below hb2).turns_lo hT (by have := HZ.out; omega)).mono hB0.size
    have hBB := (hB0.trans (hb2'.mono hB0.size)).trans hT.below
    go_wp2
    refine bodyPost_ret (v := .agg #[.bool b2, .slice a1 ts.length c1]) (by simp [results, Tryd.f25, go_sem, r0, r1]) rfl ?_
    exact ⟨b2, _, _, ts, rfl, hS, hc2, by rw [HV2.out, HV1.out]; simp [sgn], by omega, hBB⟩
  · have hP : IntKind.u64.wrap x = x := by rw [IntKind.wrap_u64]; omega
    go_enter Tryd.func25, Tryd.ntmps25
    go_wp2_with fail
    try rw [hP]
    refine (of_any x (by omega) _).mono ?_
    rintro e w1 ⟨a1, c1, ts, rfl, hs1, hn1, hv1, hl1, hb1⟩
    have HV1 := hide hv1
    clear hv1 hP
    go_wp2_with fail
    refine (swhole_any hs1 hn1 false).mono ?_
    rintro e w2 ⟨b2, rfl, hc2, hv2, hb2⟩
    have hb2' := hb1.trans (hb2.mono hb1.size)
    obtain ⟨r0, r1, r2, r3⟩ := two_cells e3 hb2' (by have := HZ.out; omega)
    have hT := turns2 w.heap.size w2 (.bool b2) (.slice a1 ts.length c1)
    have HV2 := hide hv2
    clear hv2
    have hS := ((hs1.below hb2).turns_lo hT (by have := HZ.out; omega)).mono hB0.size
    have hBB := (hB0.trans (hb2'.mono hB0.size)).trans hT.below
    go_wp2
    refine bodyPost_ret (v := .agg #[.bool b2, .slice a1 ts.length c1]) (by simp [results, Tryd.f25, go_sem, r0, r1]) rfl ?_
    exact ⟨b2, _, _, ts, rfl, hS, hc2, by rw [HV2.out, HV1.out]; simp [sgn], by omega, hBB⟩
set_option maxRecDepth 100000 in
set_option maxHeartbeats 1000000 in
theorem scheck_any {lo : Nat} {a : Option Addr} {n cap : Nat} {zs : List Int} {w : World} (b : Bool) (h : Seg lo w (.slice a n cap) zs) (hl : zs.length ≤ 10000) :
    Calls Tryd.prog 39 #[.agg #[.bool b, .slice a n cap]] w fun e w' => e = .returned (.int .i64 (formI b zs)) ∧ Below w.heap.size w w' := by
  obtain ⟨rfl, _⟩ := h.len
  have hB0 : Below w.heap.size w (w.alloc (.cells #[.bool b, .slice a zs.length cap] 29)) := (Below.refl _ w).alloc (Nat.le_refl _) _
  have hck := check_any (h.below hB0) hl
  by_cases hc : b = true ∧ zs = []
  · obtain ⟨rfl, rfl⟩ := hc
    have HF : Hid (formI true [] = 6) := by rw [Hid, formI, if_pos]; simp
    clear hck
    go_enter Tryd.func39, Tryd.ntmps39
    go_wp2
    go_ret
    exact ⟨ret_int HF.out.symm, hB0⟩
  · have HF : Hid (formOf zs = formI b zs) := by
      rw [Hid, formI]
      by_cases hf : formOf zs = 0
      · rw [if_neg (by simp only [hf]; simpa using hc), hf]
      · rw [if_pos (Or.inl hf)]
        rw [formOf] at hf ⊢
        split
        · rename_i g; rw [if_pos g] at hf; exact absurd rfl hf
        · rfl
    cases b with
    | false =>
      clear hc
      go_enter Tryd.func39, Tryd.ntmps39
      go_wp2_with fail
      refine hck.mono ?_
      rintro e w1 ⟨rfl, hb1⟩
      have hBZ := hB0.trans (hb1.mono hB0.size)
      clear hck
      go_wp2
      go_ret
      exact ⟨ret_int HF.out, hBZ⟩
    | true =>
      have h0 : zs ≠ [] := fun g => hc ⟨rfl, g⟩
      have hz : ((zs.length : Int) == 0) = false := beq_eq_false_iff_ne.2 (by have := List.length_pos_iff.2 h0; omega)
      clear hc h0
      go_enter Tryd.func39, Tryd.ntmps39
      go_wp2_with fail
      refine hck.mono ?_
      rintro e w1 ⟨rfl, hb1⟩
      have hBZ := hB0.trans (hb1.mono hB0.size)
      clear hck
      go_wp2
      go_ret
      exact ⟨ret_int HF.out, hBZ⟩
end Go.Proofs.YtfcpaejeppedoaaDoor
